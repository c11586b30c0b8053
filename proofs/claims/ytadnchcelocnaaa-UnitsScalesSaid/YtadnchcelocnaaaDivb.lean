/-
  math/bits.Div64 at this dump: whatever the words are, if the quotient fits a word, it is the quotient and the rest.
-/
import Derived.Test.YtadnchcelocnaaaDiv
import Derived.Laws.Bits64b
namespace Go.Proofs.Ytadnchcelocnaaa
set_option linter.unusedSimpArgs false
set_option linter.unusedVariables false
open Go.RowKit

namespace Bm
theorem div_fin {M y p Y U L u1 u0 Q R Q0 R0 : Nat} (hM : M * p = U * 18446744073709551616 + L) (hY : Y = y * p) (hp : 0 < p) (hy : 0 < y) (hL : L = u1 * 4294967296 + u0)
    (hQ : Q = (U * 4294967296 + u1) / Y) (hR : R = (U * 4294967296 + u1) % Y) (hQ0 : Q0 = (R * 4294967296 + u0) / Y) (hR0 : R0 = (R * 4294967296 + u0) % Y) :
    Q * 4294967296 + Q0 = M / y ∧ R0 / p = M % y := by
  have hY0 : 0 < Y := by rw [hY]; exact Nat.mul_pos hy hp
  have e1 := Nat.div_add_mod (U * 4294967296 + u1) Y
  have e2 := Nat.div_add_mod (R * 4294967296 + u0) Y
  rw [← hQ, ← hR] at e1
  rw [← hQ0, ← hR0] at e2
  have hlt : R0 < Y := by rw [hR0]; exact Nat.mod_lt _ hY0
  have e3 : M * p = Y * (Q * 4294967296 + Q0) + R0 := by
    rw [hM, hL, Nat.mul_add, ← Nat.mul_assoc]
    omega
  have q : M / y = Q * 4294967296 + Q0 := by
    rw [← Nat.mul_div_mul_right M y hp, e3, ← hY, Nat.mul_add_div hY0, Nat.div_eq_of_lt hlt, Nat.add_zero]
  have r : M % y * p = R0 := by
    rw [← Nat.mul_mod_mul_right, e3, ← hY, Nat.mul_add_mod, Nat.mod_eq_of_lt hlt]
  exact ⟨q.symm, by rw [← r, Nat.mul_div_cancel _ hp]⟩

theorem shifted (hi lo s : Nat) (hs : s ≤ 64) : (hi * 18446744073709551616 + lo) * 2 ^ s = (hi * 2 ^ s + lo / 2 ^ (64 - s)) * 18446744073709551616 + (lo * 2 ^ s) % 18446744073709551616 ∧ lo % 2 ^ (64 - s) * 2 ^ s = (lo * 2 ^ s) % 18446744073709551616 := by
  have hp : 2 ^ (64 - s) * 2 ^ s = 18446744073709551616 := by rw [← Nat.pow_add, show 64 - s + s = 64 by omega]
  have hm : lo % 2 ^ (64 - s) * 2 ^ s = (lo * 2 ^ s) % 18446744073709551616 := by
    rw [← hp, Nat.mul_mod_mul_right]
  refine ⟨?_, hm⟩
  rw [← hm]
  have e := Nat.div_add_mod lo (2 ^ (64 - s))
  have e2 : lo * 2 ^ s = lo / 2 ^ (64 - s) * 18446744073709551616 + lo % 2 ^ (64 - s) * 2 ^ s := by
    rw [← hp, Nat.mul_comm (2 ^ (64 - s)) (2 ^ s), ← Nat.mul_assoc, Nat.mul_right_comm, ← Nat.add_mul, Nat.mul_comm (lo / 2 ^ (64 - s)) (2 ^ (64 - s)), e]
  rw [Nat.add_mul, e2, Nat.add_mul, Nat.mul_right_comm]
  omega

theorem knuth_rest {U u1 Q R Y : Nat} (hY : 0 < Y) (hY2 : Y < 18446744073709551616) (hQ : Q = (U * 4294967296 + u1) / Y) (hR : R = (U * 4294967296 + u1) % Y) :
    IntKind.u64.wrap (IntKind.u64.wrap (IntKind.u64.wrap ((U : Int) * 4294967296) + (u1 : Int)) - IntKind.u64.wrap ((Q : Int) * (Y : Int))) = (R : Int) := by
  have e1 := Nat.div_add_mod (U * 4294967296 + u1) Y
  have hlt : R < Y := by rw [hR]; exact Nat.mod_lt _ hY
  rw [← hQ, ← hR, Nat.mul_comm] at e1
  rw [← Int.natCast_mul]
  generalize Q * Y = z at *
  rw [IntKind.wrap_u64, IntKind.wrap_u64, IntKind.wrap_u64, IntKind.wrap_u64]
  omega
theorem digit_lt {U u1 Y : Nat} (hU : U < Y) (hu1 : u1 < 4294967296) : (U * 4294967296 + u1) / Y < 4294967296 := by
  rw [Nat.div_lt_iff_lt_mul (by omega)]; omega
end Bm

theorem div64_any (hi lo y : Nat) (w : World) (hlt : hi < y) (hy : y < 18446744073709551616) (hlo : lo < 18446744073709551616) :
    Calls Try.prog 131 #[.int .u64 hi, .int .u64 lo, .int .u64 y] w fun e w' => e = .returned (.tuple #[.int .u64 (((hi * 18446744073709551616 + lo) / y : Nat) : Int), .int .u64 (((hi * 18446744073709551616 + lo) % y : Nat) : Int)]) ∧ Below w.heap.size w w' := by
  rcases Nat.eq_zero_or_pos hi with h0 | h0
  · subst h0
    have := div64_small lo y w hlt hy hlo
    simpa using this
  · obtain ⟨b1, b2⟩ := bitLen_spec y
    have b3 := b2 (by omega)
    have hb1 : 1 ≤ bitLen y := by unfold bitLen; rw [if_neg (by omega)]; omega
    have hb : bitLen y ≤ 64 := by
      unfold bitLen; rw [if_neg (by omega)]
      have := (Nat.log2_lt (show y ≠ 0 by omega)).2 (show y < 2 ^ 64 from hy)
      omega
    obtain ⟨s, hs⟩ : ∃ s, bitLen y + s = 64 := ⟨64 - bitLen y, by omega⟩
    have hs' : s ≤ 63 := by omega
    have hp : 0 < 2 ^ s := Nat.two_pow_pos s
    have hY1 : 9223372036854775808 ≤ y * 2 ^ s := by
      have : 2 ^ (bitLen y - 1) * 2 ^ s = 9223372036854775808 := by rw [← Nat.pow_add, show bitLen y - 1 + s = 63 by omega]
      rw [← this]; exact Nat.mul_le_mul_right _ b3
    have hY2 : y * 2 ^ s < 18446744073709551616 := by
      have : 2 ^ bitLen y * 2 ^ s = 18446744073709551616 := by rw [← Nat.pow_add, hs]
      rw [← this]; exact Nat.mul_lt_mul_of_pos_right b1 hp
    obtain ⟨m1, m2⟩ := Bm.shifted hi lo s (by omega)
    have hll : lo / 2 ^ (64 - s) < 2 ^ s := by
      rw [Nat.div_lt_iff_lt_mul (Nat.two_pow_pos _), ← Nat.pow_add, show s + (64 - s) = 64 by omega]; exact hlo
    have hhi : (hi + 1) * 2 ^ s ≤ y * 2 ^ s := Nat.mul_le_mul_right _ hlt
    rw [Nat.add_mul, Nat.one_mul] at hhi
    have hU : hi * 2 ^ s + lo / 2 ^ (64 - s) < y * 2 ^ s := by omega
    have c2 : (2 : Int) ^ s = ((2 ^ s : Nat) : Int) := by simp
    have eU : bits BinOp.or IntKind.u64 (IntKind.u64.wrap ((hi : Int) * 2 ^ s)) ((lo : Int) / 2 ^ (64 - s)) = ((hi * 2 ^ s + lo / 2 ^ (64 - s) : Nat) : Int) := by
      have c3 : (2 : Int) ^ (64 - s) = ((2 ^ (64 - s) : Nat) : Int) := by simp
      have e1 : IntKind.u64.wrap ((hi : Int) * 2 ^ s) = ((hi * 2 ^ s : Nat) : Int) := by
        rw [c2, ← Int.natCast_mul, IntKind.wrap_u64]
        generalize hi * 2 ^ s = z at *
        omega
      rw [e1, c3, ← Int.natCast_ediv, bits_or_u64_nat _ _ (by omega) (by omega), Nat.mul_comm hi, Nat.two_pow_add_eq_or_of_lt hll]
    have eY : IntKind.u64.wrap ((y : Int) * 2 ^ s) = ((y * 2 ^ s : Nat) : Int) := by
      rw [c2, ← Int.natCast_mul, IntKind.wrap_u64]
      generalize y * 2 ^ s = z at *
      omega
    have eL : IntKind.u64.wrap ((lo : Int) * 2 ^ s) = ((lo * 2 ^ s % 18446744073709551616 : Nat) : Int) := by
      rw [c2, ← Int.natCast_mul, IntKind.wrap_u64]
      generalize lo * 2 ^ s = z at *
      omega
    generalize hU' : hi * 2 ^ s + lo / 2 ^ (64 - s) = U at *
    generalize hL' : lo * 2 ^ s % 18446744073709551616 = L at *
    have hL : L < 18446744073709551616 := by omega
    generalize hY' : y * 2 ^ s = Y at *
    have hn : Y / 4294967296 * 4294967296 + Y % 4294967296 = Y := by omega
    obtain ⟨f1, f2⟩ := Bm.div_fin m1 hY'.symm hp (by omega) (show L = L / 4294967296 * 4294967296 + L % 4294967296 by omega) rfl rfl rfl rfl
    have k1 := Bm.knuth_rest (show 0 < Y by omega) hY2 (U := U) (u1 := L / 4294967296) rfl rfl
    have k2 := Bm.knuth_rest (show 0 < Y by omega) hY2 (U := (U * 4294967296 + L / 4294967296) % Y) (u1 := L % 4294967296) rfl rfl
    have l1 := Nat.mod_lt (U * 4294967296 + L / 4294967296) (show 0 < Y by omega)
    have l2 := Nat.mod_lt ((U * 4294967296 + L / 4294967296) % Y * 4294967296 + L % 4294967296) (show 0 < Y by omega)
    have d1 := Bm.digit_lt hU (show L / 4294967296 < 4294967296 by omega)
    have d2 := Bm.digit_lt l1 (show L % 4294967296 < 4294967296 by omega)
    refine (div64_walk hi lo y s Y U L (Y / 4294967296) (Y % 4294967296) (L / 4294967296) (L % 4294967296) _ _ _ _ w h0 hlt hy hs hs' eY hY1 hY2 eL hL eU hU (by omega) (by omega) (by omega) (by omega)
      (by rw [Hid, hn]) d1 l1 k1 (by rw [Hid, hn]) d2 k2 l2).mono ?_
    rintro e w' ⟨rfl, hb⟩
    refine ⟨ret_eq2 ?_ ?_, hb⟩
    · rw [← f1]; omega
    · rw [← f2, c2, ← Int.natCast_ediv]
end Go.Proofs.Ytadnchcelocnaaa
