/-
  THE PLAIN ARITHMETIC: long division of two words, in natural numbers. No Go here. math/bits: Mul64, Len64, LeadingZeros64, Div64 at this dump. math/bits: LeadingZeros64, Div64 at this dump. math/bits.Div64 at this dump: whatever the words are, if the quotient fits a word, it is the quotient and the rest.
-/
import Derived.Test.YtimfbjnpalgmcaaGreatRows
import Derived.WalkKit
import Derived.WalkSpells
import Derived.BigQuiet
import Derived.Deep.QuietTactic
import Derived.WalkSmall
import Derived.Laws.MathBits
import Derived.Lib.Tables
import Derived.Deep.Light
import Derived.Laws.Bits64b
namespace Go.Proofs.YtimfbjnpalgmcaaGreat.Bm
set_option linter.unusedSimpArgs false
set_option linter.unusedVariables false
/-- one digit of Knuth's division: what a round of the correcting loop keeps. -/
def KInv (u u1 yn1 yn0 q r : Nat) : Prop :=
  (u * 4294967296 + u1) / (yn1 * 4294967296 + yn0) ≤ q ∧ q * yn1 + r = u ∧ r < 4294967296 ∧ q ≤ 4294967297

theorem kinit {u u1 yn1 yn0 : Nat} (h1 : 2147483648 ≤ yn1) (h2 : yn1 < 4294967296) (h3 : yn0 < 4294967296)
    (hu : u < yn1 * 4294967296 + yn0) (hu1 : u1 < 4294967296) : KInv u u1 yn1 yn0 (u / yn1) (u % yn1) := by
  have e := Nat.div_add_mod u yn1
  have hm := Nat.mod_lt u (show 0 < yn1 by omega)
  have e' : u / yn1 * yn1 + u % yn1 = u := by rw [Nat.mul_comm]; exact e
  refine ⟨?_, e', by omega, ?_⟩
  · -- Q ≤ u / yn1
    have : (u * 4294967296 + u1) / (yn1 * 4294967296 + yn0) < u / yn1 + 1 := by
      rw [Nat.div_lt_iff_lt_mul (by omega)]
      have h : u < (u / yn1 + 1) * yn1 := by rw [Nat.add_mul]; omega
      have : (u / yn1 + 1) * (yn1 * 4294967296 + yn0) = (u / yn1 + 1) * yn1 * 4294967296 + (u / yn1 + 1) * yn0 := by
        rw [Nat.mul_add, Nat.mul_assoc]
      rw [this]; omega
    omega
  · have : u / yn1 < 4294967298 := by
      rw [Nat.div_lt_iff_lt_mul (by omega)]
      omega
    omega

theorem kdown {u u1 yn1 yn0 q r : Nat} (hu : u < yn1 * 4294967296 + yn0) (hu1 : u1 < 4294967296)
    (h : KInv u u1 yn1 yn0 q r) (hc : 4294967296 ≤ q ∨ 4294967296 * r + u1 < q * yn0) :
    1 ≤ q ∧ (u * 4294967296 + u1) / (yn1 * 4294967296 + yn0) ≤ q - 1 ∧ (q - 1) * yn1 + (r + yn1) = u := by
  obtain ⟨hq, he, hr, hl⟩ := h
  have hq1 : 1 ≤ q := by
    rcases hc with h | h
    · omega
    · rcases Nat.eq_zero_or_pos q with h0 | h0
      · subst h0; simp at h
      · exact h0
  refine ⟨hq1, ?_, ?_⟩
  · rcases hc with h | h
    · have : (u * 4294967296 + u1) / (yn1 * 4294967296 + yn0) < 4294967296 := by
        rw [Nat.div_lt_iff_lt_mul (by omega)]; omega
      omega
    · have : (u * 4294967296 + u1) / (yn1 * 4294967296 + yn0) < q := by
        rw [Nat.div_lt_iff_lt_mul (by omega)]
        have : q * (yn1 * 4294967296 + yn0) = q * yn1 * 4294967296 + q * yn0 := by rw [Nat.mul_add, Nat.mul_assoc]
        rw [this]; omega
      omega
  · obtain ⟨k, rfl⟩ : ∃ k, q = k + 1 := ⟨q - 1, by omega⟩
    rw [Nat.add_mul] at he
    simp; omega

theorem kstop {u u1 yn1 yn0 q r : Nat} (h1 : 2147483648 ≤ yn1)
    (h : KInv u u1 yn1 yn0 q r) (hc : q * yn0 ≤ 4294967296 * r + u1) :
    q = (u * 4294967296 + u1) / (yn1 * 4294967296 + yn0) := by
  obtain ⟨hq, he, hr, hl⟩ := h
  refine Nat.le_antisymm ?_ hq
  rw [Nat.le_div_iff_mul_le (by omega)]
  have : q * (yn1 * 4294967296 + yn0) = q * yn1 * 4294967296 + q * yn0 := by rw [Nat.mul_add, Nat.mul_assoc]
  rw [this]; omega

theorem kbreak {u u1 yn1 yn0 q r : Nat} (h1 : 2147483648 ≤ yn1) (h3 : yn0 < 4294967296)
    (hq : (u * 4294967296 + u1) / (yn1 * 4294967296 + yn0) ≤ q) (he : q * yn1 + r = u) (hr : 4294967296 ≤ r) (hl : q ≤ 4294967296) :
    q = (u * 4294967296 + u1) / (yn1 * 4294967296 + yn0) := by
  refine Nat.le_antisymm ?_ hq
  rw [Nat.le_div_iff_mul_le (by omega)]
  have : q * (yn1 * 4294967296 + yn0) = q * yn1 * 4294967296 + q * yn0 := by rw [Nat.mul_add, Nat.mul_assoc]
  rw [this]
  have : q * yn0 ≤ 4294967296 * 4294967295 := Nat.mul_le_mul hl (by omega)
  omega
end Go.Proofs.YtimfbjnpalgmcaaGreat.Bm

namespace Go.Proofs.YtimfbjnpalgmcaaGreat
set_option linter.unusedSimpArgs false
set_option linter.unusedVariables false
open Go.RowKit

theorem ret_eq1 {k : IntKind} {a b : Int} (h : a = b) : Ending.returned (.int k a) = .returned (.int k b) := by rw [h]
theorem ret_eq2 {k k' : IntKind} {a b c d : Int} (h : a = b) (h' : c = d) : Ending.returned (.tuple #[.int k a, .int k' c]) = .returned (.tuple #[.int k b, .int k' d]) := by rw [h, h']

set_option maxHeartbeats 400000 in
theorem mul64_any (x y : Int) (w : World) (hx0 : 0 ≤ x) (hx : x < 18446744073709551616) (hy0 : 0 ≤ y) (hy : y < 18446744073709551616) :
    Calls Tryz.prog 138 #[.int .u64 x, .int .u64 y] w fun e w' => e = .returned (.tuple #[.int .u64 (x * y / 18446744073709551616), .int .u64 (x * y % 18446744073709551616)]) ∧ w = w' := by
  go_enter Tryz.func138, Tryz.ntmps138
  go_wp2
  go_ret2
  refine ⟨ret_eq2 ?_ (IntKind.wrap_u64 _), rfl⟩
  simp only [and_low32 x hx0 hx, and_low32 y hy0 hy, IntKind.wrap_u64]
  rw [and_low32 _ (by omega) (by omega)]
  exact mul64_arith x y hx0 hx hy0 hy

theorem len8_at (i : Nat) (h : i < Lib.len8tab.size) : (Lib.len8tab[i].toNat : Int) = bitLen i := by
  have := len8tab_get i h
  unfold Lib.len8tab
  omega

theorem lenway (x y : Int) (b : Nat) (hb : b ≤ 56) (hy : y = x / (2 ^ b : Nat)) (h0 : 0 ≤ x) (h1 : b = 0 ∨ 1 ≤ y) (h2 : y < 256) (h : y.toNat < Lib.len8tab.size) :
    wrap64 ((b : Int) + wrap64 (Lib.len8tab[y.toNat].toNat : Int)) = (bitLen x.toNat : Int) := by
  rw [len8_at]
  have h8 := bitLen_le8 y.toNat (by omega)
  have e : y.toNat = x.toNat / 2 ^ b := by
    subst hy
    obtain ⟨n, rfl⟩ := Int.eq_ofNat_of_zero_le h0
    simp only [Int.toNat_natCast]
    rw [← Int.natCast_ediv, Int.toNat_natCast]
  have hs : bitLen x.toNat = b + bitLen y.toNat := by
    rcases h1 with rfl | h1
    · rw [e]; simp
    · rw [bitLen_shift x.toNat b (by rw [← e]; omega), e]
  rw [hs, IntWalk.wrap64_in ((bitLen y.toNat : Nat) : Int) (by omega), IntWalk.wrap64_in _ (by omega)]
  omega

set_option maxRecDepth 1000000 in
set_option maxHeartbeats 800000 in
theorem len64_any (x : Int) (w : World) (h0 : 0 ≤ x) (hx : x < 18446744073709551616) :
    Calls Tryz.prog 163 #[.int .u64 x] w fun e w' => e = .returned (.int .i64 (bitLen x.toNat : Nat)) ∧ w = w' := by
  go_enter Tryz.func163, Tryz.ntmps163
  go_wp2
  all_goals first
    | (go_ret; refine ⟨ret_eq1 ?_, rfl⟩; go_light)
    | (exfalso; go_light; have hs := Lib.len8tab_size; omega)
  · exact lenway x _ 56 (by omega) (by omega) h0 (by omega) (by omega) _
  · exact lenway x _ 48 (by omega) (by omega) h0 (by omega) (by omega) _
  · exact lenway x _ 40 (by omega) (by omega) h0 (by omega) (by omega) _
  · exact lenway x _ 32 (by omega) (by omega) h0 (by omega) (by omega) _
  · exact lenway x _ 24 (by omega) (by omega) h0 (by omega) (by omega) _
  · exact lenway x _ 16 (by omega) (by omega) h0 (by omega) (by omega) _
  · exact lenway x _ 8 (by omega) (by omega) h0 (by omega) (by omega) _
  · have := lenway x x 0 (by omega) (by omega) h0 (by omega) (by omega) (by have hs := Lib.len8tab_size; omega)
    simpa using this
end Go.Proofs.YtimfbjnpalgmcaaGreat

namespace Go.Proofs.YtimfbjnpalgmcaaGreat
set_option linter.unusedSimpArgs false
set_option linter.unusedVariables false
open Go.RowKit

set_option maxHeartbeats 400000 in
theorem lz64_any (y s : Nat) (w : World) (hy : y < 18446744073709551616) (hs : bitLen y + s = 64) :
    Calls Tryz.prog 167 #[.int .u64 y] w fun e w' => e = .returned (.int .i64 (s : Int)) ∧ w = w' := by
  go_enter Tryz.func167, Tryz.ntmps167
  go_wp2_with (go_at_call 163; refine (len64_any _ _ (by omega) (by omega)).mono ?_; rintro e w' ⟨rfl, rfl⟩)
  go_ret
  refine ⟨ret_eq1 ?_, rfl⟩
  omega

set_option maxHeartbeats 400000 in
theorem div64_small (lo y : Nat) (w : World) (hy : 0 < y) (_hy2 : y < 18446744073709551616) (_hlo : lo < 18446744073709551616) :
    Calls Tryz.prog 153 #[.int .u64 0, .int .u64 lo, .int .u64 y] w fun e w' => e = .returned (.tuple #[.int .u64 ((lo / y : Nat) : Int), .int .u64 ((lo % y : Nat) : Int)]) ∧ Below w.heap.size w w' := by
  have h1 : ((y : Int) == 0) = false := by simp; omega
  go_enter Tryz.func153, Tryz.ntmps153
  go_wp2
  go_quiet (fail)
  go_wp2
  go_ret2
  refine ⟨ret_eq2 ?_ rfl, below_drewN (Below.refl _ _) _⟩
  have e : (lo : Int) / (y : Int) = ((lo / y : Nat) : Int) := (Int.natCast_ediv lo y).symm
  have h := Nat.div_le_self lo y
  rw [IntKind.wrap_u64, e]
  generalize lo / y = z at *
  omega

/-- What a round keeps, over integers (no numeral stands beside a cast of a natural number in the walk). -/
def KI (U u1 n1 n0 : Nat) (q r : Int) : Prop := ∃ a b : Nat, q = a ∧ r = b ∧ Bm.KInv U u1 n1 n0 a b
theorem ki_stop {U u1 n1 n0 : Nat} {q r : Int} (hn1 : 2147483648 ≤ n1) (h : KI U u1 n1 n0 q r) (hc : ¬ (4294967296 * r + u1 < q * n0)) : q = ((U * 4294967296 + u1) / (n1 * 4294967296 + n0) : Nat) := by
  obtain ⟨a, b, rfl, rfl, h⟩ := h
  have := Bm.kstop hn1 h (by rw [← Int.natCast_mul] at hc; omega)
  rw [← this]
theorem ki_bounds {U u1 n1 n0 : Nat} {q r : Int} (h : KI U u1 n1 n0 q r) : 0 ≤ q ∧ q ≤ 4294967297 ∧ 0 ≤ r ∧ r < 4294967296 := by
  obtain ⟨a, b, rfl, rfl, _, _, c, d⟩ := h
  omega
theorem ki_down {U u1 n1 n0 : Nat} {q r : Int} (hn1 : 2147483648 ≤ n1) (hn0 : n0 < 4294967296) (hU : U < n1 * 4294967296 + n0) (hu1 : u1 < 4294967296)
    (h : KI U u1 n1 n0 q r) (hc : 4294967296 ≤ q ∨ 4294967296 * r + u1 < q * n0) :
    1 ≤ q ∧ (r + n1 < 4294967296 → KI U u1 n1 n0 (q - 1) (r + n1)) ∧ (4294967296 ≤ r + n1 → q - 1 = ((U * 4294967296 + u1) / (n1 * 4294967296 + n0) : Nat)) := by
  obtain ⟨x, t, rfl, rfl, h⟩ := h
  obtain ⟨a, b, c⟩ := Bm.kdown hU hu1 h (by rw [← Int.natCast_mul] at hc; omega)
  obtain ⟨_, _, hr, hl⟩ := h
  refine ⟨by omega, fun hb => ⟨x - 1, t + n1, by omega, by omega, b, c, by omega, by omega⟩, fun hb => ?_⟩
  rw [← Bm.kbreak hn1 hn0 b c (by omega) (by omega)]
  omega
theorem ki_prod {U u1 n1 n0 : Nat} {q r : Int} (hn0 : n0 < 4294967296) (h : KI U u1 n1 n0 q r) (hc : ¬ 4294967296 ≤ q) : IntKind.u64.wrap (q * (n0 : Int)) = q * (n0 : Int) := by
  obtain ⟨a, b, rfl, rfl, h⟩ := h
  have : a * n0 ≤ 4294967295 * 4294967295 := Nat.mul_le_mul (by omega) (by omega)
  rw [IntKind.wrap_u64, ← Int.natCast_mul]
  omega

theorem start_q (U n1 : Nat) (h : 1 ≤ n1) (hU : U < 18446744073709551616) : IntKind.u64.wrap ((U : Int) / (n1 : Int)) = ((U / n1 : Nat) : Int) := by
  have e : (U : Int) / (n1 : Int) = ((U / n1 : Nat) : Int) := (Int.natCast_ediv U n1).symm
  have h := Nat.div_le_self U n1
  rw [IntKind.wrap_u64, e]
  generalize U / n1 = z at *
  omega
theorem start_r (U n1 : Nat) (h : 1 ≤ n1) (hU : U < 18446744073709551616) : IntKind.u64.wrap ((U : Int) - IntKind.u64.wrap (IntKind.u64.wrap ((U : Int) / (n1 : Int)) * (n1 : Int))) = ((U % n1 : Nat) : Int) := by
  rw [start_q U n1 h hU]
  have e := Nat.div_add_mod U n1
  rw [← Int.natCast_mul, IntKind.wrap_u64, IntKind.wrap_u64, Nat.mul_comm]
  generalize n1 * (U / n1) = z at *
  generalize U % n1 = t at *
  omega

theorem fin_q {q Q q' Q0 : Int} (h : q = Q) (h' : q' = Q0) : q * 4294967296 + q' = Q * 4294967296 + Q0 := by rw [h, h']

set_option maxRecDepth 100000 in
set_option maxHeartbeats 1600000 in
theorem div64_walk (hi lo y s Y U L n1 n0 u1 u0 Q R Q0 R0 : Nat) (w : World) (h0 : 0 < hi) (hlt : hi < y) (hy : y < 18446744073709551616) (hs : Hid (bitLen y + s = 64)) (hs' : s ≤ 63)
    (eY : IntKind.u64.wrap ((y : Int) * 2 ^ s) = (Y : Int)) (hY1 : 9223372036854775808 ≤ Y) (hY2 : Y < 18446744073709551616)
    (eL : IntKind.u64.wrap ((lo : Int) * 2 ^ s) = (L : Int)) (hL : L < 18446744073709551616)
    (eU : bits BinOp.or IntKind.u64 (IntKind.u64.wrap (↑hi * 2 ^ s)) (↑lo / 2 ^ (64 - s)) = (U : Int)) (hU : U < Y)
    (eN1 : (Y : Int) / 4294967296 = (n1 : Int)) (eN0 : (Y : Int) % 4294967296 = (n0 : Int)) (eL1 : (L : Int) / 4294967296 = (u1 : Int)) (eL0 : (L : Int) % 4294967296 = (u0 : Int))
    (hQ : Hid (Q = (U * 4294967296 + u1) / (n1 * 4294967296 + n0))) (hQb : Q < 4294967296) (hR : R < Y)
    (eR : IntKind.u64.wrap (IntKind.u64.wrap (IntKind.u64.wrap ((U : Int) * 4294967296) + (u1 : Int)) - IntKind.u64.wrap ((Q : Int) * (Y : Int))) = (R : Int))
    (hQ0 : Hid (Q0 = (R * 4294967296 + u0) / (n1 * 4294967296 + n0))) (hQ0b : Q0 < 4294967296)
    (eR0 : IntKind.u64.wrap (IntKind.u64.wrap (IntKind.u64.wrap ((R : Int) * 4294967296) + (u0 : Int)) - IntKind.u64.wrap ((Q0 : Int) * (Y : Int))) = (R0 : Int)) (hR0 : R0 < Y) :
    Calls Tryz.prog 153 #[.int .u64 hi, .int .u64 lo, .int .u64 y] w fun e w' => e = .returned (.tuple #[.int .u64 ((Q : Int) * 4294967296 + (Q0 : Int)), .int .u64 ((R0 : Int) / 2 ^ s)]) ∧ Below w.heap.size w w' := by
  have h1 : ((y : Int) == 0) = false := by simp; omega
  have h2 : ((hi : Int) == 0) = false := by simp; omega
  have a1 := and_low32 Y (by omega) (by omega)
  have a2 := and_low32 L (by omega) (by omega)
  rw [eN0] at a1
  rw [eL0] at a2
  have hn1 : 2147483648 ≤ n1 := by omega
  have hn1' : n1 < 4294967296 := by omega
  have hn0 : n0 < 4294967296 := by omega
  have hu1 : u1 < 4294967296 := by omega
  have hu0 : u0 < 4294967296 := by omega
  have hYn : Hid (Y = n1 * 4294967296 + n0) := by unfold Hid; omega
  have hUn : U < n1 * 4294967296 + n0 := by omega
  have hRn : R < n1 * 4294967296 + n0 := by omega
  have eD : ((n1 : Int) == 0) = false := by simp; omega
  go_enter Tryz.func153, Tryz.ntmps153
  go_wp2_with (go_at_call 167; refine (lz64_any _ s _ hy hs.out).mono ?_; rintro e w' ⟨rfl, rfl⟩)
  go_loop [15, 16] (fun a b => ∃ q r : Int, a = .int .u64 q ∧ b = .int .u64 r ∧ KI U u1 n1 n0 q r) (fun a _ => (intOf a).toNat)
  case atStart =>
    exact ⟨_, _, congrArg _ (start_q U n1 (by omega) (by omega)), congrArg _ (start_r U n1 (by omega) (by omega)), _, _, rfl, rfl, Bm.kinit hn1 hn1' hn0 hUn hu1⟩
  case round =>
    obtain ⟨q, r, rfl, rfl, hk⟩ := hrel
    obtain ⟨b1, b2, b3, b4⟩ := ki_bounds hk
    by_cases c1 : 4294967296 ≤ q
    · obtain ⟨k1, k2, k3⟩ := ki_down hn1 hn0 hUn hu1 hk (.inl c1)
      by_cases b : 4294967296 ≤ r + n1
      · have e := (k3 b).trans (congrArg _ hQ.out.symm)
        clear k2 k3
        go_wp2
        go_loop [18, 16] (fun a b => ∃ q r : Int, a = .int .u64 q ∧ b = .int .u64 r ∧ KI R u0 n1 n0 q r) (fun a _ => (intOf a).toNat)
        case atStart =>
          exact ⟨_, _, congrArg _ (start_q R n1 (by omega) (by omega)), congrArg _ (start_r R n1 (by omega) (by omega)), _, _, rfl, rfl, Bm.kinit hn1 hn1' hn0 hRn hu0⟩
        case round =>
          obtain ⟨q', r', rfl, rfl, hk'⟩ := hrel
          obtain ⟨b1', b2', b3', b4'⟩ := ki_bounds hk'
          by_cases c1' : 4294967296 ≤ q'
          · obtain ⟨k1', k2', k3'⟩ := ki_down hn1 hn0 hRn hu0 hk' (.inl c1')
            by_cases b' : 4294967296 ≤ r' + n1
            · have E' := (k3' b').trans (congrArg _ hQ0.out.symm)
              clear k2' k3'
              go_wp2
              go_ret2
              exact ⟨ret_eq2 rfl rfl, Below.refl _ _⟩
            · have H' := k2' (by omega)
              clear k2' k3'
              go_wp2
              go_round
              case rel => exact ⟨q' - 1, r' + n1, rfl, rfl, H'⟩
              case measure => simp [intOf]; omega
          · have ep' := ki_prod hn0 hk' c1'
            by_cases c2' : 4294967296 * r' + u0 < q' * n0
            · obtain ⟨k1', k2', k3'⟩ := ki_down hn1 hn0 hRn hu0 hk' (.inr c2')
              by_cases b' : 4294967296 ≤ r' + n1
              · have E' := (k3' b').trans (congrArg _ hQ0.out.symm)
                clear k2' k3'
                go_wp2
                go_ret2
                exact ⟨ret_eq2 rfl rfl, Below.refl _ _⟩
              · have H' := k2' (by omega)
                clear k2' k3'
                go_wp2
                go_round
                case rel => exact ⟨q' - 1, r' + n1, rfl, rfl, H'⟩
                case measure => simp [intOf]; omega
            · have E' : Hid (q' = (Q0 : Int)) := (ki_stop hn1 hk' c2').trans (congrArg _ hQ0.out.symm)
              have eR0' : IntKind.u64.wrap (IntKind.u64.wrap (IntKind.u64.wrap ((R : Int) * 4294967296) + (u0 : Int)) - IntKind.u64.wrap (q' * (Y : Int))) = (R0 : Int) := by rw [E'.out]; exact eR0
              go_wp2
              go_ret2
              exact ⟨ret_eq2 (fin_q rfl E'.out) rfl, Below.refl _ _⟩
      · have H := k2 (by omega)
        clear k2 k3
        go_wp2
        go_round
        case rel => exact ⟨q - 1, r + n1, rfl, rfl, H⟩
        case measure => simp [intOf]; omega
    · have ep := ki_prod hn0 hk c1
      by_cases c2 : 4294967296 * r + u1 < q * n0
      · obtain ⟨k1, k2, k3⟩ := ki_down hn1 hn0 hUn hu1 hk (.inr c2)
        by_cases b : 4294967296 ≤ r + n1
        · have e := (k3 b).trans (congrArg _ hQ.out.symm)
          clear k2 k3
          go_wp2
          go_loop [18, 16] (fun a b => ∃ q r : Int, a = .int .u64 q ∧ b = .int .u64 r ∧ KI R u0 n1 n0 q r) (fun a _ => (intOf a).toNat)
          case atStart =>
            exact ⟨_, _, congrArg _ (start_q R n1 (by omega) (by omega)), congrArg _ (start_r R n1 (by omega) (by omega)), _, _, rfl, rfl, Bm.kinit hn1 hn1' hn0 hRn hu0⟩
          case round =>
            obtain ⟨q', r', rfl, rfl, hk'⟩ := hrel
            obtain ⟨b1', b2', b3', b4'⟩ := ki_bounds hk'
            by_cases c1' : 4294967296 ≤ q'
            · obtain ⟨k1', k2', k3'⟩ := ki_down hn1 hn0 hRn hu0 hk' (.inl c1')
              by_cases b' : 4294967296 ≤ r' + n1
              · have E' := (k3' b').trans (congrArg _ hQ0.out.symm)
                clear k2' k3'
                go_wp2
                go_ret2
                exact ⟨ret_eq2 rfl rfl, Below.refl _ _⟩
              · have H' := k2' (by omega)
                clear k2' k3'
                go_wp2
                go_round
                case rel => exact ⟨q' - 1, r' + n1, rfl, rfl, H'⟩
                case measure => simp [intOf]; omega
            · have ep' := ki_prod hn0 hk' c1'
              by_cases c2' : 4294967296 * r' + u0 < q' * n0
              · obtain ⟨k1', k2', k3'⟩ := ki_down hn1 hn0 hRn hu0 hk' (.inr c2')
                by_cases b' : 4294967296 ≤ r' + n1
                · have E' := (k3' b').trans (congrArg _ hQ0.out.symm)
                  clear k2' k3'
                  go_wp2
                  go_ret2
                  exact ⟨ret_eq2 rfl rfl, Below.refl _ _⟩
                · have H' := k2' (by omega)
                  clear k2' k3'
                  go_wp2
                  go_round
                  case rel => exact ⟨q' - 1, r' + n1, rfl, rfl, H'⟩
                  case measure => simp [intOf]; omega
              · have E' : Hid (q' = (Q0 : Int)) := (ki_stop hn1 hk' c2').trans (congrArg _ hQ0.out.symm)
                have eR0' : IntKind.u64.wrap (IntKind.u64.wrap (IntKind.u64.wrap ((R : Int) * 4294967296) + (u0 : Int)) - IntKind.u64.wrap (q' * (Y : Int))) = (R0 : Int) := by rw [E'.out]; exact eR0
                go_wp2
                go_ret2
                exact ⟨ret_eq2 (fin_q rfl E'.out) rfl, Below.refl _ _⟩
        · have H := k2 (by omega)
          clear k2 k3
          go_wp2
          go_round
          case rel => exact ⟨q - 1, r + n1, rfl, rfl, H⟩
          case measure => simp [intOf]; omega
      · have e : Hid (q = (Q : Int)) := (ki_stop hn1 hk c2).trans (congrArg _ hQ.out.symm)
        have eRq : IntKind.u64.wrap (IntKind.u64.wrap (IntKind.u64.wrap ((U : Int) * 4294967296) + (u1 : Int)) - IntKind.u64.wrap (q * (Y : Int))) = (R : Int) := by rw [e.out]; exact eR
        go_wp2
        go_loop [18, 16] (fun a b => ∃ q r : Int, a = .int .u64 q ∧ b = .int .u64 r ∧ KI R u0 n1 n0 q r) (fun a _ => (intOf a).toNat)
        case atStart =>
          exact ⟨_, _, congrArg _ (start_q R n1 (by omega) (by omega)), congrArg _ (start_r R n1 (by omega) (by omega)), _, _, rfl, rfl, Bm.kinit hn1 hn1' hn0 hRn hu0⟩
        case round =>
          obtain ⟨q', r', rfl, rfl, hk'⟩ := hrel
          obtain ⟨b1', b2', b3', b4'⟩ := ki_bounds hk'
          by_cases c1' : 4294967296 ≤ q'
          · obtain ⟨k1', k2', k3'⟩ := ki_down hn1 hn0 hRn hu0 hk' (.inl c1')
            by_cases b' : 4294967296 ≤ r' + n1
            · have E' := (k3' b').trans (congrArg _ hQ0.out.symm)
              clear k2' k3'
              go_wp2
              go_ret2
              exact ⟨ret_eq2 (congrArg (· * 4294967296 + (Q0 : Int)) e.out) rfl, Below.refl _ _⟩
            · have H' := k2' (by omega)
              clear k2' k3'
              go_wp2
              go_round
              case rel => exact ⟨q' - 1, r' + n1, rfl, rfl, H'⟩
              case measure => simp [intOf]; omega
          · have ep' := ki_prod hn0 hk' c1'
            by_cases c2' : 4294967296 * r' + u0 < q' * n0
            · obtain ⟨k1', k2', k3'⟩ := ki_down hn1 hn0 hRn hu0 hk' (.inr c2')
              by_cases b' : 4294967296 ≤ r' + n1
              · have E' := (k3' b').trans (congrArg _ hQ0.out.symm)
                clear k2' k3'
                go_wp2
                go_ret2
                exact ⟨ret_eq2 (congrArg (· * 4294967296 + (Q0 : Int)) e.out) rfl, Below.refl _ _⟩
              · have H' := k2' (by omega)
                clear k2' k3'
                go_wp2
                go_round
                case rel => exact ⟨q' - 1, r' + n1, rfl, rfl, H'⟩
                case measure => simp [intOf]; omega
            · have E' : Hid (q' = (Q0 : Int)) := (ki_stop hn1 hk' c2').trans (congrArg _ hQ0.out.symm)
              have eR0' : IntKind.u64.wrap (IntKind.u64.wrap (IntKind.u64.wrap ((R : Int) * 4294967296) + (u0 : Int)) - IntKind.u64.wrap (q' * (Y : Int))) = (R0 : Int) := by rw [E'.out]; exact eR0
              go_wp2
              go_ret2
              exact ⟨ret_eq2 (fin_q e.out E'.out) rfl, Below.refl _ _⟩
end Go.Proofs.YtimfbjnpalgmcaaGreat

namespace Go.Proofs.YtimfbjnpalgmcaaGreat
set_option linter.unusedSimpArgs false
set_option linter.unusedVariables false
open Go.RowKit

namespace Bm
set_option linter.unusedSimpArgs false
set_option linter.unusedVariables false
theorem div_fin {M y p Y U L u1 u0 Q R Q0 R0 : Nat} (hM : M * p = U * 18446744073709551616 + L) (hY : Y = y * p) (hp : 0 < p) (hy : 0 < y) (hL : L = u1 * 4294967296 + u0)
    (hQ : Q = (U * 4294967296 + u1) / Y) (hR : R = (U * 4294967296 + u1) % Y) (hQ0 : Q0 = (R * 4294967296 + u0) / Y) (hR0 : R0 = (R * 4294967296 + u0) % Y) :
    Q * 4294967296 + Q0 = M / y ∧ R0 / p = M % y := by
  have hY0 : 0 < Y := by rw [hY]; exact Nat.mul_pos hy hp
  have e1 := Nat.div_add_mod (U * 4294967296 + u1) Y
  have e2 := Nat.div_add_mod (R * 4294967296 + u0) Y
  rw [← hQ, ← hR] at e1
  rw [← hQ0, ← hR0] at e2
  have hlt : R0 < Y := by rw [hR0]; exact Nat.mod_lt _ hY0
  have e3 : M * p = Y * (Q * 4294967296 + Q0) + R0 := by
    rw [hM, hL, Nat.mul_add, ← Nat.mul_assoc]
    omega
  have q : M / y = Q * 4294967296 + Q0 := by
    rw [← Nat.mul_div_mul_right M y hp, e3, ← hY, Nat.mul_add_div hY0, Nat.div_eq_of_lt hlt, Nat.add_zero]
  have r : M % y * p = R0 := by
    rw [← Nat.mul_mod_mul_right, e3, ← hY, Nat.mul_add_mod, Nat.mod_eq_of_lt hlt]
  exact ⟨q.symm, by rw [← r, Nat.mul_div_cancel _ hp]⟩

theorem shifted (hi lo s : Nat) (hs : s ≤ 64) : (hi * 18446744073709551616 + lo) * 2 ^ s = (hi * 2 ^ s + lo / 2 ^ (64 - s)) * 18446744073709551616 + (lo * 2 ^ s) % 18446744073709551616 ∧ lo % 2 ^ (64 - s) * 2 ^ s = (lo * 2 ^ s) % 18446744073709551616 := by
  have hp : 2 ^ (64 - s) * 2 ^ s = 18446744073709551616 := by rw [← Nat.pow_add, show 64 - s + s = 64 by omega]
  have hm : lo % 2 ^ (64 - s) * 2 ^ s = (lo * 2 ^ s) % 18446744073709551616 := by
    rw [← hp, Nat.mul_mod_mul_right]
  refine ⟨?_, hm⟩
  rw [← hm]
  have e := Nat.div_add_mod lo (2 ^ (64 - s))
  have e2 : lo * 2 ^ s = lo / 2 ^ (64 - s) * 18446744073709551616 + lo % 2 ^ (64 - s) * 2 ^ s := by
    rw [← hp, Nat.mul_comm (2 ^ (64 - s)) (2 ^ s), ← Nat.mul_assoc, Nat.mul_right_comm, ← Nat.add_mul, Nat.mul_comm (lo / 2 ^ (64 - s)) (2 ^ (64 - s)), e]
  rw [Nat.add_mul, e2, Nat.add_mul, Nat.mul_right_comm]
  omega

theorem knuth_rest {U u1 Q R Y : Nat} (hY : 0 < Y) (hY2 : Y < 18446744073709551616) (hQ : Q = (U * 4294967296 + u1) / Y) (hR : R = (U * 4294967296 + u1) % Y) :
    IntKind.u64.wrap (IntKind.u64.wrap (IntKind.u64.wrap ((U : Int) * 4294967296) + (u1 : Int)) - IntKind.u64.wrap ((Q : Int) * (Y : Int))) = (R : Int) := by
  have e1 := Nat.div_add_mod (U * 4294967296 + u1) Y
  have hlt : R < Y := by rw [hR]; exact Nat.mod_lt _ hY
  rw [← hQ, ← hR, Nat.mul_comm] at e1
  rw [← Int.natCast_mul]
  generalize Q * Y = z at *
  rw [IntKind.wrap_u64, IntKind.wrap_u64, IntKind.wrap_u64, IntKind.wrap_u64]
  omega
theorem digit_lt {U u1 Y : Nat} (hU : U < Y) (hu1 : u1 < 4294967296) : (U * 4294967296 + u1) / Y < 4294967296 := by
  rw [Nat.div_lt_iff_lt_mul (by omega)]; omega
end Bm

theorem div64_any (hi lo y : Nat) (w : World) (hlt : hi < y) (hy : y < 18446744073709551616) (hlo : lo < 18446744073709551616) :
    Calls Tryz.prog 153 #[.int .u64 hi, .int .u64 lo, .int .u64 y] w fun e w' => e = .returned (.tuple #[.int .u64 (((hi * 18446744073709551616 + lo) / y : Nat) : Int), .int .u64 (((hi * 18446744073709551616 + lo) % y : Nat) : Int)]) ∧ Below w.heap.size w w' := by
  rcases Nat.eq_zero_or_pos hi with h0 | h0
  · subst h0
    have := div64_small lo y w hlt hy hlo
    simpa using this
  · obtain ⟨b1, b2⟩ := bitLen_spec y
    have b3 := b2 (by omega)
    have hb1 : 1 ≤ bitLen y := by unfold bitLen; rw [if_neg (by omega)]; omega
    have hb : bitLen y ≤ 64 := by
      unfold bitLen; rw [if_neg (by omega)]
      have := (Nat.log2_lt (show y ≠ 0 by omega)).2 (show y < 2 ^ 64 from hy)
      omega
    obtain ⟨s, hs⟩ : ∃ s, bitLen y + s = 64 := ⟨64 - bitLen y, by omega⟩
    have hs' : s ≤ 63 := by omega
    have hp : 0 < 2 ^ s := Nat.two_pow_pos s
    have hY1 : 9223372036854775808 ≤ y * 2 ^ s := by
      have : 2 ^ (bitLen y - 1) * 2 ^ s = 9223372036854775808 := by rw [← Nat.pow_add, show bitLen y - 1 + s = 63 by omega]
      rw [← this]; exact Nat.mul_le_mul_right _ b3
    have hY2 : y * 2 ^ s < 18446744073709551616 := by
      have : 2 ^ bitLen y * 2 ^ s = 18446744073709551616 := by rw [← Nat.pow_add, hs]
      rw [← this]; exact Nat.mul_lt_mul_of_pos_right b1 hp
    obtain ⟨m1, m2⟩ := Bm.shifted hi lo s (by omega)
    have hll : lo / 2 ^ (64 - s) < 2 ^ s := by
      rw [Nat.div_lt_iff_lt_mul (Nat.two_pow_pos _), ← Nat.pow_add, show s + (64 - s) = 64 by omega]; exact hlo
    have hhi : (hi + 1) * 2 ^ s ≤ y * 2 ^ s := Nat.mul_le_mul_right _ hlt
    rw [Nat.add_mul, Nat.one_mul] at hhi
    have hU : hi * 2 ^ s + lo / 2 ^ (64 - s) < y * 2 ^ s := by omega
    have c2 : (2 : Int) ^ s = ((2 ^ s : Nat) : Int) := by simp
    have eU : bits BinOp.or IntKind.u64 (IntKind.u64.wrap ((hi : Int) * 2 ^ s)) ((lo : Int) / 2 ^ (64 - s)) = ((hi * 2 ^ s + lo / 2 ^ (64 - s) : Nat) : Int) := by
      have c3 : (2 : Int) ^ (64 - s) = ((2 ^ (64 - s) : Nat) : Int) := by simp
      have e1 : IntKind.u64.wrap ((hi : Int) * 2 ^ s) = ((hi * 2 ^ s : Nat) : Int) := by
        rw [c2, ← Int.natCast_mul, IntKind.wrap_u64]
        generalize hi * 2 ^ s = z at *
        omega
      rw [e1, c3, ← Int.natCast_ediv, bits_or_u64_nat _ _ (by omega) (by omega), Nat.mul_comm hi, Nat.two_pow_add_eq_or_of_lt hll]
    have eY : IntKind.u64.wrap ((y : Int) * 2 ^ s) = ((y * 2 ^ s : Nat) : Int) := by
      rw [c2, ← Int.natCast_mul, IntKind.wrap_u64]
      generalize y * 2 ^ s = z at *
      omega
    have eL : IntKind.u64.wrap ((lo : Int) * 2 ^ s) = ((lo * 2 ^ s % 18446744073709551616 : Nat) : Int) := by
      rw [c2, ← Int.natCast_mul, IntKind.wrap_u64]
      generalize lo * 2 ^ s = z at *
      omega
    generalize hU' : hi * 2 ^ s + lo / 2 ^ (64 - s) = U at *
    generalize hL' : lo * 2 ^ s % 18446744073709551616 = L at *
    have hL : L < 18446744073709551616 := by omega
    generalize hY' : y * 2 ^ s = Y at *
    have hn : Y / 4294967296 * 4294967296 + Y % 4294967296 = Y := by omega
    obtain ⟨f1, f2⟩ := Bm.div_fin m1 hY'.symm hp (by omega) (show L = L / 4294967296 * 4294967296 + L % 4294967296 by omega) rfl rfl rfl rfl
    have k1 := Bm.knuth_rest (show 0 < Y by omega) hY2 (U := U) (u1 := L / 4294967296) rfl rfl
    have k2 := Bm.knuth_rest (show 0 < Y by omega) hY2 (U := (U * 4294967296 + L / 4294967296) % Y) (u1 := L % 4294967296) rfl rfl
    have l1 := Nat.mod_lt (U * 4294967296 + L / 4294967296) (show 0 < Y by omega)
    have l2 := Nat.mod_lt ((U * 4294967296 + L / 4294967296) % Y * 4294967296 + L % 4294967296) (show 0 < Y by omega)
    have d1 := Bm.digit_lt hU (show L / 4294967296 < 4294967296 by omega)
    have d2 := Bm.digit_lt l1 (show L % 4294967296 < 4294967296 by omega)
    refine (div64_walk hi lo y s Y U L (Y / 4294967296) (Y % 4294967296) (L / 4294967296) (L % 4294967296) _ _ _ _ w h0 hlt hy hs hs' eY hY1 hY2 eL hL eU hU (by omega) (by omega) (by omega) (by omega)
      (by rw [Hid, hn]) d1 l1 k1 (by rw [Hid, hn]) d2 k2 l2).mono ?_
    rintro e w' ⟨rfl, hb⟩
    refine ⟨ret_eq2 ?_ ?_, hb⟩
    · rw [← f1]; omega
    · rw [← f2, c2, ← Int.natCast_ediv]
end Go.Proofs.YtimfbjnpalgmcaaGreat
