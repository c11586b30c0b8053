/-
  units.wide: product, compare, floor, divide. units.wide: compare, floor, divide. units.wide: floor at every wide number; divide. units.wide: divide. What a quotient is, and that of the opposite number.
-/
import Derived.Test.YtimfbjnpalgmcaaGreatDiv
import Derived.Test.YtimfbjnpalgmcaaGreatNums
import Derived.StillTactics
import Derived.Laws.Pointers
import Derived.Deep.RegionHeld3
namespace Go.Proofs.YtimfbjnpalgmcaaGreat
set_option linter.unusedSimpArgs false
set_option linter.unusedVariables false
open Go.RowKit

theorem prod_abs {a b : Int} (ha : -1000000000000000 ≤ a) (ha' : a ≤ 1000000000000000) (hb : -1000000000000000 ≤ b) (hb' : b ≤ 1000000000000000) :
    -1000000000000000000000000000000 ≤ a * b ∧ a * b ≤ 1000000000000000000000000000000 := by
  have h : a.natAbs * b.natAbs ≤ 1000000000000000 * 1000000000000000 := Nat.mul_le_mul (by omega) (by omega)
  rw [← Int.natAbs_mul] at h
  omega

theorem mul64_h (A B H L : Int) (w : World) (a0 : 0 ≤ A) (a1 : A < 18446744073709551616) (b0 : 0 ≤ B) (b1 : B < 18446744073709551616) (hH : A * B / 18446744073709551616 = H) (hL : A * B % 18446744073709551616 = L) :
    Calls Tryz.prog 138 #[.int .u64 A, .int .u64 B] w fun e w' => e = .returned (.tuple #[.int .u64 H, .int .u64 L]) ∧ w = w' := by
  subst hH hL
  exact mul64_any A B w a0 a1 b0 b1

namespace Bm
set_option linter.unusedSimpArgs false
set_option linter.unusedVariables false
theorem expand (a b p q : Int) : (a + p) * (b + q) = a * b + a * q + p * b + p * q := by
  rw [Int.add_mul, Int.mul_add, Int.mul_add, Int.add_assoc, Int.add_assoc, Int.add_assoc]
theorem wide_nn {a b : Int} (ha : -1000000000000000 ≤ a) (ha' : a < 0) (hb : -1000000000000000 ≤ b) (hb' : b < 0) :
    wrap64 (wrap64 (wrap64 ((a + 18446744073709551616) * (b + 18446744073709551616) / 18446744073709551616) - b) - a) = a * b / 18446744073709551616 ∧ (a + 18446744073709551616) * (b + 18446744073709551616) % 18446744073709551616 = a * b % 18446744073709551616 := by
  have h := prod_abs ha (by omega) hb (by omega)
  rw [expand]
  generalize a * b = p at *
  unfold wrap64
  omega
theorem wide_np {a b : Int} (ha : -1000000000000000 ≤ a) (ha' : a < 0) (hb : 0 ≤ b) (hb' : b ≤ 1000000000000000) :
    wrap64 (wrap64 ((a + 18446744073709551616) * b / 18446744073709551616) - b) = a * b / 18446744073709551616 ∧ (a + 18446744073709551616) * b % 18446744073709551616 = a * b % 18446744073709551616 := by
  have h := prod_abs ha (by omega) (by omega) hb'
  rw [Int.add_mul]
  generalize a * b = p at *
  unfold wrap64
  omega
theorem wide_pn {a b : Int} (ha : 0 ≤ a) (ha' : a ≤ 1000000000000000) (hb : -1000000000000000 ≤ b) (hb' : b < 0) :
    wrap64 (wrap64 (a * (b + 18446744073709551616) / 18446744073709551616) - a) = a * b / 18446744073709551616 ∧ a * (b + 18446744073709551616) % 18446744073709551616 = a * b % 18446744073709551616 := by
  have h := prod_abs (by omega) ha' hb (by omega)
  rw [Int.mul_add]
  generalize a * b = p at *
  unfold wrap64
  omega
theorem wide_pp {a b : Int} (ha : 0 ≤ a) (ha' : a ≤ 1000000000000000) (hb : 0 ≤ b) (hb' : b ≤ 1000000000000000) :
    wrap64 (a * b / 18446744073709551616) = a * b / 18446744073709551616 := by
  have h := prod_abs (by omega) ha' (by omega) hb'
  generalize a * b = p at *
  unfold wrap64
  omega
end Bm

set_option maxHeartbeats 800000 in
theorem product_any (a b : Int) (w : World) (ha : -1000000000000000 ≤ a) (ha' : a ≤ 1000000000000000) (hb : -1000000000000000 ≤ b) (hb' : b ≤ 1000000000000000) :
    Calls Tryz.prog 105 #[.int .i64 a, .int .i64 b] w fun e w' => e = .returned (.agg #[.int .i64 (a * b / 18446744073709551616), .int .u64 (a * b % 18446744073709551616)]) ∧ Below w.heap.size w w' := by
  by_cases h1 : a < 0
  · have eA : IntKind.u64.wrap a = a + 18446744073709551616 := by rw [IntKind.wrap_u64]; omega
    by_cases h2 : b < 0
    · have eB : IntKind.u64.wrap b = b + 18446744073709551616 := by rw [IntKind.wrap_u64]; omega
      obtain ⟨f1, f2⟩ := Bm.wide_nn ha h1 hb h2
      obtain ⟨H, hH⟩ : ∃ H, (a + 18446744073709551616) * (b + 18446744073709551616) / 18446744073709551616 = H := ⟨_, rfl⟩
      obtain ⟨L, hL⟩ : ∃ L, (a + 18446744073709551616) * (b + 18446744073709551616) % 18446744073709551616 = L := ⟨_, rfl⟩
      have hc := fun w => mul64_h _ _ H L w (show 0 ≤ (a + 18446744073709551616) by omega) (by omega) (show 0 ≤ (b + 18446744073709551616) by omega) (by omega) hH hL
      rw [hH] at f1
      rw [hL] at f2
      have F1 := hide f1
      have F2 := hide f2
      have C := hide hc
      clear f1 f2 hc hH hL
      go_enter Tryz.func105, Tryz.ntmps105
      go_wp2_with (go_at_call 138; refine (C.out _).mono ?_; rintro e w' ⟨rfl, rfl⟩)
      exact bodyPost_ret (v := .agg #[.int .i64 (wrap64 (wrap64 (wrap64 H - b) - a)), .int .u64 L]) (by simp [results, Tryz.results105, go_sem]) rfl ⟨by rw [F1.out, F2.out], (by repeat (first | exact Below.refl _ _ | assumption | apply balloc | apply bdrew | (refine below_drewN ?_ _) | (refine bset ?_ (by first | (simp; done) | omega | (simp; omega)) _) | (refine bnext ?_ (by assumption))))⟩
    · obtain ⟨f1, f2⟩ := Bm.wide_np ha h1 (by omega) hb'
      obtain ⟨H, hH⟩ : ∃ H, (a + 18446744073709551616) * b / 18446744073709551616 = H := ⟨_, rfl⟩
      obtain ⟨L, hL⟩ : ∃ L, (a + 18446744073709551616) * b % 18446744073709551616 = L := ⟨_, rfl⟩
      have hc := fun w => mul64_h _ _ H L w (show 0 ≤ (a + 18446744073709551616) by omega) (by omega) (show 0 ≤ b by omega) (by omega) hH hL
      rw [hH] at f1
      rw [hL] at f2
      have F1 := hide f1
      have F2 := hide f2
      have C := hide hc
      clear f1 f2 hc hH hL
      go_enter Tryz.func105, Tryz.ntmps105
      go_wp2_with (go_at_call 138; refine (C.out _).mono ?_; rintro e w' ⟨rfl, rfl⟩)
      exact bodyPost_ret (v := .agg #[.int .i64 (wrap64 (wrap64 H - b)), .int .u64 L]) (by simp [results, Tryz.results105, go_sem]) rfl ⟨by rw [F1.out, F2.out], (by repeat (first | exact Below.refl _ _ | assumption | apply balloc | apply bdrew | (refine below_drewN ?_ _) | (refine bset ?_ (by first | (simp; done) | omega | (simp; omega)) _) | (refine bnext ?_ (by assumption))))⟩
  · by_cases h2 : b < 0
    · have eB : IntKind.u64.wrap b = b + 18446744073709551616 := by rw [IntKind.wrap_u64]; omega
      obtain ⟨f1, f2⟩ := Bm.wide_pn (by omega) ha' hb h2
      obtain ⟨H, hH⟩ : ∃ H, a * (b + 18446744073709551616) / 18446744073709551616 = H := ⟨_, rfl⟩
      obtain ⟨L, hL⟩ : ∃ L, a * (b + 18446744073709551616) % 18446744073709551616 = L := ⟨_, rfl⟩
      have hc := fun w => mul64_h _ _ H L w (show 0 ≤ a by omega) (by omega) (show 0 ≤ (b + 18446744073709551616) by omega) (by omega) hH hL
      rw [hH] at f1
      rw [hL] at f2
      have F1 := hide f1
      have F2 := hide f2
      have C := hide hc
      clear f1 f2 hc hH hL
      go_enter Tryz.func105, Tryz.ntmps105
      go_wp2_with (go_at_call 138; refine (C.out _).mono ?_; rintro e w' ⟨rfl, rfl⟩)
      exact bodyPost_ret (v := .agg #[.int .i64 (wrap64 (wrap64 H - a)), .int .u64 L]) (by simp [results, Tryz.results105, go_sem]) rfl ⟨by rw [F1.out, F2.out], (by repeat (first | exact Below.refl _ _ | assumption | apply balloc | apply bdrew | (refine below_drewN ?_ _) | (refine bset ?_ (by first | (simp; done) | omega | (simp; omega)) _) | (refine bnext ?_ (by assumption))))⟩
    · have f1 := Bm.wide_pp (by omega) ha' (by omega) hb'
      have f2 : a * b % 18446744073709551616 = a * b % 18446744073709551616 := rfl
      obtain ⟨H, hH⟩ : ∃ H, a * b / 18446744073709551616 = H := ⟨_, rfl⟩
      obtain ⟨L, hL⟩ : ∃ L, a * b % 18446744073709551616 = L := ⟨_, rfl⟩
      have hc := fun w => mul64_h _ _ H L w (show 0 ≤ a by omega) (by omega) (show 0 ≤ b by omega) (by omega) hH hL
      have f1 : wrap64 H = a * b / 18446744073709551616 := by rw [← hH]; exact f1
      have f2 : L = a * b % 18446744073709551616 := hL.symm
      have F1 := hide f1
      have F2 := hide f2
      have C := hide hc
      clear f1 f2 hc hH hL
      go_enter Tryz.func105, Tryz.ntmps105
      go_wp2_with (go_at_call 138; refine (C.out _).mono ?_; rintro e w' ⟨rfl, rfl⟩)
      exact bodyPost_ret (v := .agg #[.int .i64 (wrap64 H), .int .u64 L]) (by simp [results, Tryz.results105, go_sem]) rfl ⟨by rw [F1.out, F2.out], (by repeat (first | exact Below.refl _ _ | assumption | apply balloc | apply bdrew | (refine below_drewN ?_ _) | (refine bset ?_ (by first | (simp; done) | omega | (simp; omega)) _) | (refine bnext ?_ (by assumption))))⟩


end Go.Proofs.YtimfbjnpalgmcaaGreat

namespace Go.Proofs.YtimfbjnpalgmcaaGreat
set_option linter.unusedSimpArgs false
set_option linter.unusedVariables false
open Go.RowKit

/-! ### compare -/
set_option maxHeartbeats 800000 in
theorem compare_eq (h l : Int) (w : World) :
    Calls Tryz.prog 132 #[.agg #[.int .i64 h, .int .u64 l], .agg #[.int .i64 h, .int .u64 l]] w fun e w' => e = .returned (.int .i64 0) ∧ Below w.heap.size w w' := by
  go_enter Tryz.func132, Tryz.ntmps132
  go_wp2
  go_ret
  exact ⟨rfl, (by repeat (first | exact Below.refl _ _ | assumption | apply balloc | apply bdrew | (refine below_drewN ?_ _) | (refine bset ?_ (by first | (simp; done) | omega | (simp; omega)) _) | (refine bnext ?_ (by assumption))))⟩
set_option maxHeartbeats 800000 in
theorem compare_lt (h l h' l' : Int) (w : World) (hlt : h < h' ∨ h = h' ∧ l < l') :
    Calls Tryz.prog 132 #[.agg #[.int .i64 h, .int .u64 l], .agg #[.int .i64 h', .int .u64 l']] w fun e w' => e = .returned (.int .i64 (-1)) ∧ Below w.heap.size w w' := by
  rcases hlt with c | ⟨rfl, c⟩
  · have e1 : (h == h') = false := by simp; omega
    go_enter Tryz.func132, Tryz.ntmps132
    go_wp2
    go_ret
    exact ⟨rfl, (by repeat (first | exact Below.refl _ _ | assumption | apply balloc | apply bdrew | (refine below_drewN ?_ _) | (refine bset ?_ (by first | (simp; done) | omega | (simp; omega)) _) | (refine bnext ?_ (by assumption))))⟩
  · have e1 : (l == l') = false := by simp; omega
    go_enter Tryz.func132, Tryz.ntmps132
    go_wp2
    go_ret
    exact ⟨rfl, (by repeat (first | exact Below.refl _ _ | assumption | apply balloc | apply bdrew | (refine below_drewN ?_ _) | (refine bset ?_ (by first | (simp; done) | omega | (simp; omega)) _) | (refine bnext ?_ (by assumption))))⟩
set_option maxHeartbeats 800000 in
theorem compare_gt (h l h' l' : Int) (w : World) (hlt : h' < h ∨ h = h' ∧ l' < l) :
    Calls Tryz.prog 132 #[.agg #[.int .i64 h, .int .u64 l], .agg #[.int .i64 h', .int .u64 l']] w fun e w' => e = .returned (.int .i64 1) ∧ Below w.heap.size w w' := by
  rcases hlt with c | ⟨rfl, c⟩
  · have e1 : (h == h') = false := by simp; omega
    go_enter Tryz.func132, Tryz.ntmps132
    go_wp2
    go_ret
    exact ⟨rfl, (by repeat (first | exact Below.refl _ _ | assumption | apply balloc | apply bdrew | (refine below_drewN ?_ _) | (refine bset ?_ (by first | (simp; done) | omega | (simp; omega)) _) | (refine bnext ?_ (by assumption))))⟩
  · have e1 : (l == l') = false := by simp; omega
    go_enter Tryz.func132, Tryz.ntmps132
    go_wp2
    go_ret
    exact ⟨rfl, (by repeat (first | exact Below.refl _ _ | assumption | apply balloc | apply bdrew | (refine below_drewN ?_ _) | (refine bset ?_ (by first | (simp; done) | omega | (simp; omega)) _) | (refine bnext ?_ (by assumption))))⟩
/-- What is greater: the sign of x - y. -/
def sgn3 (x y : Int) : Int := if x < y then -1 else if x = y then 0 else 1
theorem compare_any (x y : Int) (w : World) :
    Calls Tryz.prog 132 #[.agg #[.int .i64 (x / 18446744073709551616), .int .u64 (x % 18446744073709551616)], .agg #[.int .i64 (y / 18446744073709551616), .int .u64 (y % 18446744073709551616)]] w fun e w' => e = .returned (.int .i64 (sgn3 x y)) ∧ Below w.heap.size w w' := by
  unfold sgn3
  by_cases h1 : x < y
  · rw [if_pos h1]; exact compare_lt _ _ _ _ w (by omega)
  · rw [if_neg h1]
    by_cases h2 : x = y
    · rw [if_pos h2]; subst h2; exact compare_eq _ _ w
    · rw [if_neg h2]; exact compare_gt _ _ _ _ w (by omega)

/-! ### floor -/
theorem div64_i (h l y q r : Int) (w : World) (h0 : 0 ≤ h) (hy : h < y) (hy' : y < 18446744073709551616) (l0 : 0 ≤ l) (l1 : l < 18446744073709551616)
    (hq : q = (h * 18446744073709551616 + l) / y) (hr : r = (h * 18446744073709551616 + l) % y) :
    Calls Tryz.prog 153 #[.int .u64 h, .int .u64 l, .int .u64 y] w fun e w' => e = .returned (.tuple #[.int .u64 q, .int .u64 r]) ∧ Below w.heap.size w w' := by
  obtain ⟨h, rfl⟩ := Int.eq_ofNat_of_zero_le h0
  obtain ⟨l, rfl⟩ := Int.eq_ofNat_of_zero_le l0
  obtain ⟨y, rfl⟩ := Int.eq_ofNat_of_zero_le (show 0 ≤ y by omega)
  have e1 : q = (((h * 18446744073709551616 + l) / y : Nat) : Int) := by rw [hq, Int.natCast_ediv]; rfl
  have e2 : r = (((h * 18446744073709551616 + l) % y : Nat) : Int) := by rw [hr, Int.natCast_emod]; rfl
  subst e1 e2
  exact div64_any h l y w (by omega) (by omega) (by omega)

def floorQ (N c : Int) : Int × Int × Bool :=
  if 0 ≤ N then (if N / c ≤ 1000000000000000 then (N / c, N % c, true) else (0, 0, false))
  else (if (-N - 1) / c ≤ 1000000000000000 then (N / c, N % c, true) else (-1, c - 1, false))

theorem ret_iib {a b a' b' : Int} {x x' : Bool} (h : (a, b, x) = (a', b', x')) : Ending.returned (.tuple #[.int .i64 a, .int .i64 b, .bool x]) = .returned (.tuple #[.int .i64 a', .int .i64 b', .bool x']) := by cases h; rfl

set_option maxHeartbeats 800000 in
theorem floor_pos (h l c : Int) (w : World) (h0 : 0 ≤ h) (h1 : h ≤ 4611686018427387904) (l0 : 0 ≤ l) (l1 : l < 18446744073709551616) (c0 : 1 ≤ c) (c1 : c ≤ 1000000000000000) :
    Calls Tryz.prog 139 #[.agg #[.int .i64 h, .int .u64 l], .int .i64 c] w fun e w' => e = .returned (.tuple #[.int .i64 (floorQ (h * 18446744073709551616 + l) c).1, .int .i64 (floorQ (h * 18446744073709551616 + l) c).2.1, .bool (floorQ (h * 18446744073709551616 + l) c).2.2]) ∧ Below w.heap.size w w' := by
  have hN : 0 ≤ h * 18446744073709551616 + l := by omega
  by_cases hc : c ≤ h
  · have e : (0, 0, false) = floorQ (h * 18446744073709551616 + l) c := by
      unfold floorQ
      rw [if_pos hN, if_neg]
      have : 1000000000000001 * c ≤ h * 18446744073709551616 + l := by omega
      have := Int.le_ediv_of_mul_le (by omega) this
      omega
    have E := hide e
    clear e
    go_enter Tryz.func139, Tryz.ntmps139
    go_wp2_with fail
    go_ret3
    exact ⟨ret_iib E.out, (by repeat (first | exact Below.refl _ _ | assumption | apply balloc | apply bdrew | (refine below_drewN ?_ _) | (refine bset ?_ (by first | (simp; done) | omega | (simp; omega)) _) | (refine bnext ?_ (by assumption))))⟩
  · obtain ⟨q, hq⟩ : ∃ q, q = (h * 18446744073709551616 + l) / c := ⟨_, rfl⟩
    obtain ⟨r, hr⟩ : ∃ r, r = (h * 18446744073709551616 + l) % c := ⟨_, rfl⟩
    have r0 := Int.emod_nonneg (h * 18446744073709551616 + l) (show c ≠ 0 by omega)
    have r1 := Int.emod_lt_of_pos (h * 18446744073709551616 + l) (show 0 < c by omega)
    have q0 := Int.ediv_nonneg hN (show 0 ≤ c by omega)
    rw [← hr] at r0 r1
    rw [← hq] at q0
    have C := hide fun w => div64_i h l c q r w h0 (by omega) (by omega) l0 l1 hq hr
    have e : (if q ≤ 1000000000000000 then (q, r, true) else (0, 0, false)) = floorQ (h * 18446744073709551616 + l) c := by
      unfold floorQ
      rw [if_pos hN, ← hq, ← hr]
    have E := hide e
    clear e hq hr
    by_cases hb : q ≤ 1000000000000000
    · have e : (q, r, true) = floorQ (h * 18446744073709551616 + l) c := by rw [← E.out, if_pos hb]
      have E' := hide e
      clear e
      go_enter Tryz.func139, Tryz.ntmps139
      go_wp2_with (go_at_call 153; refine (C.out _).mono ?_; rintro e w' ⟨rfl, hb⟩)
      go_ret3
      exact ⟨ret_iib E'.out, (by repeat (first | exact Below.refl _ _ | assumption | apply balloc | apply bdrew | (refine below_drewN ?_ _) | (refine bset ?_ (by first | (simp; done) | omega | (simp; omega)) _) | (refine bnext ?_ (by assumption))))⟩
    · have e : (0, 0, false) = floorQ (h * 18446744073709551616 + l) c := by rw [← E.out, if_neg hb]
      have E' := hide e
      clear e
      go_enter Tryz.func139, Tryz.ntmps139
      go_wp2_with (go_at_call 153; refine (C.out _).mono ?_; rintro e w' ⟨rfl, hb⟩)
      go_ret3
      exact ⟨ret_iib E'.out, (by repeat (first | exact Below.refl _ _ | assumption | apply balloc | apply bdrew | (refine below_drewN ?_ _) | (refine bset ?_ (by first | (simp; done) | omega | (simp; omega)) _) | (refine bnext ?_ (by assumption))))⟩

end Go.Proofs.YtimfbjnpalgmcaaGreat

namespace Go.Proofs.YtimfbjnpalgmcaaGreat
set_option linter.unusedSimpArgs false
set_option linter.unusedVariables false
open Go.RowKit

theorem not_i64 (n : Int) (h0 : -9223372036854775808 ≤ n) (h1 : n < 9223372036854775808) : bits .xor .i64 (-1) n = -n - 1 := by
  show IntKind.i64.wrap ((BitVec.ofInt 64 (-1) ^^^ BitVec.ofInt 64 n).toNat : Int) = _
  have e1 : BitVec.ofInt 64 (-1) = BitVec.allOnes 64 := by decide
  rw [e1, BitVec.allOnes_xor, BitVec.toNat_not, BitVec.toNat_ofInt, IntKind.wrap_i64]
  omega
theorem not_u64 (n : Int) (h0 : 0 ≤ n) (h1 : n < 18446744073709551616) : bits .xor .u64 IntKind.u64.max n = 18446744073709551615 - n := by
  show IntKind.u64.wrap ((BitVec.ofInt 64 18446744073709551615 ^^^ BitVec.ofInt 64 n).toNat : Int) = _
  have e1 : BitVec.ofInt 64 18446744073709551615 = BitVec.allOnes 64 := by decide
  rw [e1, BitVec.allOnes_xor, BitVec.toNat_not, BitVec.toNat_ofInt, IntKind.wrap_u64]
  omega

theorem floor_turn (N c : Int) (h : N < 0) (hc : 1 ≤ c) :
    (-(floorQ (-N - 1) c).1 - 1, c - 1 - (floorQ (-N - 1) c).2.1, (floorQ (-N - 1) c).2.2) = floorQ N c := by
  have hM : 0 ≤ -N - 1 := by omega
  have e1 := Int.mul_ediv_add_emod (-N - 1) c
  have r0 := Int.emod_nonneg (-N - 1) (show c ≠ 0 by omega)
  have r1 := Int.emod_lt_of_pos (-N - 1) (show 0 < c by omega)
  have hN : N = (c - 1 - (-N - 1) % c) + c * (-((-N - 1) / c) - 1) := by
    rw [Int.mul_sub, Int.mul_neg, Int.mul_one]; omega
  have d1 : N / c = -((-N - 1) / c) - 1 := by
    have : (c - 1 - (-N - 1) % c + c * (-((-N - 1) / c) - 1)) / c = -((-N - 1) / c) - 1 := by
      rw [Int.add_mul_ediv_left _ _ (by omega), Int.ediv_eq_zero_of_lt (by omega) (by omega)]; omega
    rwa [← hN] at this
  have d2 : N % c = c - 1 - (-N - 1) % c := by
    have : (c - 1 - (-N - 1) % c + c * (-((-N - 1) / c) - 1)) % c = c - 1 - (-N - 1) % c := by
      rw [Int.add_mul_emod_self_left, Int.emod_eq_of_lt (by omega) (by omega)]
    rwa [← hN] at this
  unfold floorQ
  rw [if_pos hM, if_neg (show ¬ 0 ≤ N by omega)]
  by_cases hb : (-N - 1) / c ≤ 1000000000000000
  · rw [if_pos hb, if_pos hb, d1, d2]
  · rw [if_neg hb, if_neg hb]
    simp

theorem floorQ_bounds (N c : Int) (hc : 1 ≤ c) (hc' : c ≤ 1000000000000000) : -1000000000000001 ≤ (floorQ N c).1 ∧ (floorQ N c).1 ≤ 1000000000000000 ∧ 0 ≤ (floorQ N c).2.1 ∧ (floorQ N c).2.1 < 1000000000000000 := by
  have r0 := Int.emod_nonneg N (show c ≠ 0 by omega)
  have r1 := Int.emod_lt_of_pos N (show 0 < c by omega)
  by_cases hN : 0 ≤ N
  · have q0 := Int.ediv_nonneg hN (show 0 ≤ c by omega)
    unfold floorQ
    rw [if_pos hN]
    by_cases hb : N / c ≤ 1000000000000000
    · rw [if_pos hb]; simp only; omega
    · rw [if_neg hb]; simp
  · have q0 := Int.ediv_nonneg (show 0 ≤ -N - 1 by omega) (show 0 ≤ c by omega)
    have t := floor_turn N c (by omega) hc
    unfold floorQ at t ⊢
    rw [if_pos (show 0 ≤ -N - 1 by omega), if_neg hN] at t
    rw [if_neg hN]
    by_cases hb : (-N - 1) / c ≤ 1000000000000000
    · rw [if_pos hb] at *
      rw [if_pos hb] at t
      simp only [Prod.mk.injEq] at t
      simp only; omega
    · rw [if_neg hb]; simp only; omega

set_option maxHeartbeats 800000 in
theorem floor_neg (hh ll c : Int) (w : World) (h0 : hh < 0) (h1 : -4611686018427387904 ≤ hh) (l0 : 0 ≤ ll) (l1 : ll < 18446744073709551616) (c0 : 1 ≤ c) (c1 : c ≤ 1000000000000000) :
    Calls Tryz.prog 139 #[.agg #[.int .i64 hh, .int .u64 ll], .int .i64 c] w fun e w' => e = .returned (.tuple #[.int .i64 (floorQ (hh * 18446744073709551616 + ll) c).1, .int .i64 (floorQ (hh * 18446744073709551616 + ll) c).2.1, .bool (floorQ (hh * 18446744073709551616 + ll) c).2.2]) ∧ Below w.heap.size w w' := by
  have e1 := not_i64 hh (by omega) (by omega)
  have e2 := not_u64 ll l0 l1
  have C := fun w => floor_pos (-hh - 1) (18446744073709551615 - ll) c w (by omega) (by omega) (by omega) (by omega) c0 c1
  have et : (-hh - 1) * 18446744073709551616 + (18446744073709551615 - ll) = -(hh * 18446744073709551616 + ll) - 1 := by omega
  rw [et] at C
  have F := hide (floor_turn (hh * 18446744073709551616 + ll) c (by omega) c0)
  have B := floorQ_bounds (-(hh * 18446744073709551616 + ll) - 1) c c0 c1
  obtain ⟨Q, hQ⟩ : ∃ Q, floorQ (-(hh * 18446744073709551616 + ll) - 1) c = Q := ⟨_, rfl⟩
  rw [hQ] at C F B
  obtain ⟨q, r, k⟩ := Q
  obtain ⟨B1, B2, B3, B4⟩ := B
  simp only at B1 B2 B3 B4
  generalize -hh - 1 = A at *
  generalize 18446744073709551615 - ll = B at *
  have e3 := not_i64 q (by omega) (by omega)
  have C' := hide C
  clear C hQ et
  go_enter Tryz.func139, Tryz.ntmps139
  go_wp2_with fail
  refine (C'.out _).mono ?_
  rintro e w' ⟨rfl, hb⟩
  go_wp2_with fail
  go_ret3
  refine ⟨ret_iib ?_, (by repeat (first | exact Below.refl _ _ | assumption | apply balloc | apply bdrew | (refine below_drewN ?_ _) | (refine bset ?_ (by first | (simp; done) | omega | (simp; omega)) _) | (refine bnext ?_ (by assumption))))⟩
  rw [← F.out]

theorem floor_any (N c : Int) (w : World) (h0 : -1000000000000000000000000000000 ≤ N) (h1 : N ≤ 1000000000000000000000000000000) (c0 : 1 ≤ c) (c1 : c ≤ 1000000000000000) :
    Calls Tryz.prog 139 #[.agg #[.int .i64 (N / 18446744073709551616), .int .u64 (N % 18446744073709551616)], .int .i64 c] w fun e w' => e = .returned (.tuple #[.int .i64 (floorQ N c).1, .int .i64 (floorQ N c).2.1, .bool (floorQ N c).2.2]) ∧ Below w.heap.size w w' := by
  have e : N / 18446744073709551616 * 18446744073709551616 + N % 18446744073709551616 = N := by omega
  by_cases hN : 0 ≤ N
  · have := floor_pos (N / 18446744073709551616) (N % 18446744073709551616) c w (by omega) (by omega) (by omega) (by omega) c0 c1
    rwa [e] at this
  · have := floor_neg (N / 18446744073709551616) (N % 18446744073709551616) c w (by omega) (by omega) (by omega) (by omega) c0 c1
    rwa [e] at this
end Go.Proofs.YtimfbjnpalgmcaaGreat

namespace Go.Proofs.YtimfbjnpalgmcaaGreat
set_option linter.unusedSimpArgs false
set_option linter.unusedVariables false
open Go.RowKit

/-- Is the quotient n with the rest r (of the divisor c) rounded up? -/
def upQ (how n r c : Int) : Bool := (decide (how = 2) && decide (0 < r)) || (decide (how = 3) && (decide (c - r < r) || (decide (r = c - r) && decide (¬ n.tmod 2 = 0))))
def divQ (N c how : Int) : Int × Int × Bool :=
  if (floorQ N c).2.2 = false then (0, 0, false)
  else if upQ how (floorQ N c).1 (floorQ N c).2.1 c = true then ((floorQ N c).1 + 1, -(c - (floorQ N c).2.1), allIn 1000000000000000 [(floorQ N c).1 + 1])
  else ((floorQ N c).1, (floorQ N c).2.1, allIn 1000000000000000 [(floorQ N c).1])

/-- 'divide' comes to what the quotient q, its rest r and ok come to. -/
def Div (how N c : Int) (w : World) : Prop :=
  Calls Tryz.prog 106 #[.agg #[.int .i64 (N / 18446744073709551616), .int .u64 (N % 18446744073709551616)], .int .i64 c, .int .u8 how] w fun e w' => e = .returned (.tuple #[.int .i64 (divQ N c how).1, .int .i64 (divQ N c how).2.1, .bool (divQ N c how).2.2]) ∧ Below w.heap.size w w'

/-- What a walk through 'divide' needs of 'floor'. -/
def Flo (N c n r : Int) (k : Bool) : Prop := ∀ w : World,
  Calls Tryz.prog 139 #[.agg #[.int .i64 (N / 18446744073709551616), .int .u64 (N % 18446744073709551616)], .int .i64 c] w fun e w' => e = .returned (.tuple #[.int .i64 n, .int .i64 r, .bool k]) ∧ Below w.heap.size w w'

section
variable (how N c n r : Int) (w : World)
set_option maxHeartbeats 400000

theorem div_far (H : Flo N c n r false) (hf : Hid (floorQ N c = (n, r, false))) : Div how N c w := by
  unfold Div
  have e : divQ N c how = (0, 0, false) := by unfold divQ; rw [hf.out, if_pos rfl]
  rw [e]
  clear e
  go_enter Tryz.func106, Tryz.ntmps106
  go_wp2_with (go_at_call 139; refine (H _).mono ?_; rintro e w' ⟨rfl, hb⟩)
  go_ret3
  exact ⟨rfl, (by repeat (first | exact Below.refl _ _ | assumption | apply balloc | apply bdrew | (refine below_drewN ?_ _) | (refine bset ?_ (by first | (simp; done) | omega | (simp; omega)) _) | (refine bnext ?_ (by assumption))))⟩

theorem div_up2 (H : Flo N c n r true) (hf : Hid (floorQ N c = (n, r, true))) (c0 : 1 ≤ c) (c1 : c ≤ 1000000000000000) (n0 : -1000000000000001 ≤ n) (n1 : n ≤ 1000000000000000) (r0 : 0 ≤ r) (r1 : r < c) (h : 0 < r) : Div 2 N c w := by
  unfold Div
  have e : divQ N c 2 = (n + 1, -(c - r), allIn 1000000000000000 [n + 1]) := by unfold divQ; rw [hf.out, if_neg (by simp), if_pos (by simp [upQ, h])]
  rw [e]
  clear e
  go_enter Tryz.func106, Tryz.ntmps106
  go_wp2_with (first | (go_at_call 139; refine (H _).mono ?_; rintro e w' ⟨rfl, hb⟩) | (go_at_call 103; refine (areNumbers_any [n + 1] _ _ _ (ints_one _ _ _) (by simp)).mono ?_; rintro e w' ⟨rfl, rfl⟩))
  go_ret3
  exact ⟨rfl, (by repeat (first | exact Below.refl _ _ | assumption | apply balloc | apply bdrew | (refine below_drewN ?_ _) | (refine bset ?_ (by first | (simp; done) | omega | (simp; omega)) _) | (refine bnext ?_ (by assumption))))⟩

theorem div_stay2 (H : Flo N (c) n r true) (hf : Hid (floorQ N (c) = (n, r, true))) (c0 : 1 ≤ c) (c1 : c ≤ 1000000000000000) (n0 : -1000000000000001 ≤ n) (n1 : n ≤ 1000000000000000) (r0 : 0 ≤ r) (r1 : r < c) (h : r ≤ 0) : Div 2 N (c) w := by
  unfold Div
  have e : divQ N (c) 2 = (n, r, allIn 1000000000000000 [n]) := by unfold divQ; rw [hf.out, if_neg (by simp), if_neg (by simp [upQ]; omega)]
  rw [e]
  clear e
  go_enter Tryz.func106, Tryz.ntmps106
  go_wp2_with (first | (go_at_call 139; refine (H _).mono ?_; rintro e w' ⟨rfl, hb⟩) | (go_at_call 103; refine (areNumbers_any [n] _ _ _ (ints_one _ _ _) (by simp)).mono ?_; rintro e w' ⟨rfl, rfl⟩))
  go_ret3
  exact ⟨rfl, (by repeat (first | exact Below.refl _ _ | assumption | apply balloc | apply bdrew | (refine below_drewN ?_ _) | (refine bset ?_ (by first | (simp; done) | omega | (simp; omega)) _) | (refine bnext ?_ (by assumption))))⟩

theorem div_up3a (H : Flo N (c) n r true) (hf : Hid (floorQ N (c) = (n, r, true))) (c0 : 1 ≤ c) (c1 : c ≤ 1000000000000000) (n0 : -1000000000000001 ≤ n) (n1 : n ≤ 1000000000000000) (r0 : 0 ≤ r) (r1 : r < c) (h : c - r < r) : Div 3 N (c) w := by
  unfold Div
  have e : divQ N (c) 3 = (n + 1, -(c - r), allIn 1000000000000000 [n + 1]) := by unfold divQ; rw [hf.out, if_neg (by simp), if_pos (by simp [upQ, h])]
  rw [e]
  clear e
  go_enter Tryz.func106, Tryz.ntmps106
  go_wp2_with (first | (go_at_call 139; refine (H _).mono ?_; rintro e w' ⟨rfl, hb⟩) | (go_at_call 103; refine (areNumbers_any [n + 1] _ _ _ (ints_one _ _ _) (by simp)).mono ?_; rintro e w' ⟨rfl, rfl⟩))
  go_ret3
  exact ⟨rfl, (by repeat (first | exact Below.refl _ _ | assumption | apply balloc | apply bdrew | (refine below_drewN ?_ _) | (refine bset ?_ (by first | (simp; done) | omega | (simp; omega)) _) | (refine bnext ?_ (by assumption))))⟩

theorem div_up3b (H : Flo N (r + r) n r true) (hf : Hid (floorQ N (r + r) = (n, r, true))) (c0 : 1 ≤ r + r) (c1 : r + r ≤ 1000000000000000) (n0 : -1000000000000001 ≤ n) (n1 : n ≤ 1000000000000000) (r0 : 0 ≤ r) (r1 : r < r + r) (h : (n.tmod 2 != 0) = true) : Div 3 N (r + r) w := by
  unfold Div
  have e : divQ N (r + r) 3 = (n + 1, -(r + r - r), allIn 1000000000000000 [n + 1]) := by unfold divQ; rw [hf.out, if_neg (by simp), if_pos (by simp [upQ] at h ⊢; omega)]
  rw [e]
  clear e
  have x1 : r + r - r = r := by omega
  go_enter Tryz.func106, Tryz.ntmps106
  go_wp2_with (first | (go_at_call 139; refine (H _).mono ?_; rintro e w' ⟨rfl, hb⟩) | (go_at_call 103; refine (areNumbers_any [n + 1] _ _ _ (ints_one _ _ _) (by simp)).mono ?_; rintro e w' ⟨rfl, rfl⟩))
  go_ret3
  exact ⟨ret_iib (by rw [x1]), (by repeat (first | exact Below.refl _ _ | assumption | apply balloc | apply bdrew | (refine below_drewN ?_ _) | (refine bset ?_ (by first | (simp; done) | omega | (simp; omega)) _) | (refine bnext ?_ (by assumption))))⟩

theorem div_stay3b (H : Flo N (r + r) n r true) (hf : Hid (floorQ N (r + r) = (n, r, true))) (c0 : 1 ≤ r + r) (c1 : r + r ≤ 1000000000000000) (n0 : -1000000000000001 ≤ n) (n1 : n ≤ 1000000000000000) (r0 : 0 ≤ r) (r1 : r < r + r) (h : (n.tmod 2 != 0) = false) : Div 3 N (r + r) w := by
  unfold Div
  have e : divQ N (r + r) 3 = (n, r, allIn 1000000000000000 [n]) := by unfold divQ; rw [hf.out, if_neg (by simp), if_neg (by simp [upQ] at h ⊢; omega)]
  rw [e]
  clear e
  have x1 : r + r - r = r := by omega
  go_enter Tryz.func106, Tryz.ntmps106
  go_wp2_with (first | (go_at_call 139; refine (H _).mono ?_; rintro e w' ⟨rfl, hb⟩) | (go_at_call 103; refine (areNumbers_any [n] _ _ _ (ints_one _ _ _) (by simp)).mono ?_; rintro e w' ⟨rfl, rfl⟩))
  go_ret3
  exact ⟨rfl, (by repeat (first | exact Below.refl _ _ | assumption | apply balloc | apply bdrew | (refine below_drewN ?_ _) | (refine bset ?_ (by first | (simp; done) | omega | (simp; omega)) _) | (refine bnext ?_ (by assumption))))⟩

theorem div_stay3c (H : Flo N (c) n r true) (hf : Hid (floorQ N (c) = (n, r, true))) (c0 : 1 ≤ c) (c1 : c ≤ 1000000000000000) (n0 : -1000000000000001 ≤ n) (n1 : n ≤ 1000000000000000) (r0 : 0 ≤ r) (r1 : r < c) (h : r < c - r) : Div 3 N (c) w := by
  unfold Div
  have e : divQ N (c) 3 = (n, r, allIn 1000000000000000 [n]) := by unfold divQ; rw [hf.out, if_neg (by simp), if_neg (by simp [upQ]; omega)]
  rw [e]
  clear e
  have x1 : (r == c - r) = false := by simp; omega
  go_enter Tryz.func106, Tryz.ntmps106
  go_wp2_with (first | (go_at_call 139; refine (H _).mono ?_; rintro e w' ⟨rfl, hb⟩) | (go_at_call 103; refine (areNumbers_any [n] _ _ _ (ints_one _ _ _) (by simp)).mono ?_; rintro e w' ⟨rfl, rfl⟩))
  go_ret3
  exact ⟨rfl, (by repeat (first | exact Below.refl _ _ | assumption | apply balloc | apply bdrew | (refine below_drewN ?_ _) | (refine bset ?_ (by first | (simp; done) | omega | (simp; omega)) _) | (refine bnext ?_ (by assumption))))⟩

theorem div_stay1 (H : Flo N (c) n r true) (hf : Hid (floorQ N (c) = (n, r, true))) (c0 : 1 ≤ c) (c1 : c ≤ 1000000000000000) (n0 : -1000000000000001 ≤ n) (n1 : n ≤ 1000000000000000) (r0 : 0 ≤ r) (r1 : r < c) (h2 : (how == 2) = false) (h3 : (how == 3) = false) : Div how N (c) w := by
  unfold Div
  have e : divQ N (c) how = (n, r, allIn 1000000000000000 [n]) := by unfold divQ; rw [hf.out, if_neg (by simp), if_neg (by simp at h2 h3; simp [upQ, h2, h3])]
  rw [e]
  clear e
  go_enter Tryz.func106, Tryz.ntmps106
  go_wp2_with (first | (go_at_call 139; refine (H _).mono ?_; rintro e w' ⟨rfl, hb⟩) | (go_at_call 103; refine (areNumbers_any [n] _ _ _ (ints_one _ _ _) (by simp)).mono ?_; rintro e w' ⟨rfl, rfl⟩))
  go_ret3
  exact ⟨rfl, (by repeat (first | exact Below.refl _ _ | assumption | apply balloc | apply bdrew | (refine below_drewN ?_ _) | (refine bset ?_ (by first | (simp; done) | omega | (simp; omega)) _) | (refine bnext ?_ (by assumption))))⟩
end

theorem divide_any (how N c : Int) (w : World) (h0 : -1000000000000000000000000000000 ≤ N) (h1 : N ≤ 1000000000000000000000000000000) (c0 : 1 ≤ c) (c1 : c ≤ 1000000000000000) : Div how N c w := by
  have H : Flo N c (floorQ N c).1 (floorQ N c).2.1 (floorQ N c).2.2 := fun w => floor_any N c w h0 h1 c0 c1
  have B := floorQ_bounds N c c0 c1
  have R : (floorQ N c).2.2 = true → (floorQ N c).2.1 < c := by
    have r1 := Int.emod_lt_of_pos N (show 0 < c by omega)
    unfold floorQ
    split <;> split <;> simp <;> omega
  obtain ⟨Q, hQ⟩ : ∃ Q, floorQ N c = Q := ⟨_, rfl⟩
  rw [hQ] at H B R
  obtain ⟨n, r, k⟩ := Q
  obtain ⟨B1, B2, B3, B4⟩ := B
  simp only at B1 B2 B3 B4 R H
  cases k with
  | false => exact div_far how N c n r w H hQ
  | true =>
    have R := R rfl
    by_cases w2 : how = 2
    · subst w2
      by_cases h : 0 < r
      · exact div_up2 N c n r w H hQ c0 c1 B1 B2 B3 R h
      · exact div_stay2 N c n r w H hQ c0 c1 B1 B2 B3 R (by omega)
    · by_cases w3 : how = 3
      · subst w3
        by_cases g1 : c - r < r
        · exact div_up3a N c n r w H hQ c0 c1 B1 B2 B3 R g1
        · by_cases g2 : r < c - r
          · exact div_stay3c N c n r w H hQ c0 c1 B1 B2 B3 R g2
          · obtain rfl : c = r + r := by omega
            by_cases g3 : (n.tmod 2 != 0) = true
            · exact div_up3b N n r w H hQ c0 c1 B1 B2 B3 R g3
            · exact div_stay3b N n r w H hQ c0 c1 B1 B2 B3 R (by simpa using g3)
      · exact div_stay1 how N c n r w H hQ c0 c1 B1 B2 B3 R (by simpa using w2) (by simpa using w3)
end Go.Proofs.YtimfbjnpalgmcaaGreat

namespace Go.Proofs.YtimfbjnpalgmcaaGreat
set_option linter.unusedSimpArgs false
set_option linter.unusedVariables false

theorem allIn_one {x : Int} : allIn 1000000000000000 [x] = true ↔ -1000000000000000 ≤ x ∧ x ≤ 1000000000000000 := by simp [allIn]
theorem floorQ_of {N c : Int} (hc : 1 ≤ c) (h0 : -1000000000000001 ≤ N / c) (h1 : N / c ≤ 1000000000000000) : floorQ N c = (N / c, N % c, true) := by
  unfold floorQ
  by_cases h : 0 ≤ N
  · rw [if_pos h, if_pos h1]
  · have b : (-N - 1) / c ≤ 1000000000000000 := by
      have : (-N - 1) / c < 1000000000000001 := by
        apply Int.ediv_lt_of_lt_mul (by omega)
        have := (Int.le_ediv_iff_mul_le (show 0 < c by omega)).1 h0
        omega
      omega
    rw [if_neg h, if_pos b]
theorem floorQ_true {N c : Int} (hc : 1 ≤ c) (h : (floorQ N c).2.2 = true) : floorQ N c = (N / c, N % c, true) ∧ -1000000000000001 ≤ N / c ∧ N / c ≤ 1000000000000000 := by
  unfold floorQ at h
  by_cases hN : 0 ≤ N
  · rw [if_pos hN] at h
    by_cases hb : N / c ≤ 1000000000000000
    · have h0 := Int.ediv_nonneg hN (show 0 ≤ c by omega)
      have : -1000000000000001 ≤ N / c := by omega
      exact ⟨floorQ_of hc this hb, this, hb⟩
    · rw [if_neg hb] at h; simp at h
  · rw [if_neg hN] at h
    by_cases hb : (-N - 1) / c ≤ 1000000000000000
    · have h1 : N / c < 0 := by
        apply Int.ediv_lt_of_lt_mul (by omega)
        omega
      have h2 : -1000000000000001 ≤ N / c := by
        rw [Int.le_ediv_iff_mul_le (by omega)]
        have := Int.lt_mul_of_ediv_lt (show 0 < c by omega) (show (-N - 1) / c < 1000000000000001 by omega)
        omega
      exact ⟨floorQ_of hc h2 (by omega), h2, by omega⟩
    · rw [if_neg hb] at h; simp at h
theorem divQ_eq {N c how q s : Int} (hf : floorQ N c = (q, s, true)) : divQ N c how = if upQ how q s c = true then (q + 1, -(c - s), allIn 1000000000000000 [q + 1]) else (q, s, allIn 1000000000000000 [q]) := by
  unfold divQ; rw [hf]; simp
theorem trip {a b n r : Int} (h1 : a = n) (h2 : b = r) (h3 : -1000000000000000 ≤ n ∧ n ≤ 1000000000000000) : ((a, b, allIn 1000000000000000 [a]) : Int × Int × Bool) = (n, r, true) := by
  subst h1 h2; rw [allIn_one.2 h3]
theorem untrip {a b n r : Int} (h : ((a, b, allIn 1000000000000000 [a]) : Int × Int × Bool) = (n, r, true)) : a = n ∧ b = r ∧ -1000000000000000 ≤ n ∧ n ≤ 1000000000000000 := by
  simp only [Prod.mk.injEq] at h
  obtain ⟨rfl, rfl, h⟩ := h
  exact ⟨rfl, rfl, allIn_one.1 h⟩
theorem neg_div {N c : Int} (hc : 1 ≤ c) : (N % c = 0 → -N / c = -(N / c) ∧ -N % c = 0) ∧ (0 < N % c → -N / c = -(N / c) - 1 ∧ -N % c = c - N % c) := by
  have e := Int.mul_ediv_add_emod N c
  have r1 := Int.emod_lt_of_pos N (show 0 < c by omega)
  refine ⟨fun h => (Int.ediv_emod_unique (by omega)).2 ⟨?_, by omega, by omega⟩, fun h => (Int.ediv_emod_unique (by omega)).2 ⟨?_, by omega, by omega⟩⟩
  · rw [Int.mul_neg]; omega
  · rw [Int.mul_sub, Int.mul_neg, Int.mul_one]; omega

/-- What divQ returns of a number, if it returns one; and of the opposite number. -/
structure Turned (N c how n r how' : Int) : Prop where
  exact : N = n * c + r
  low : -1000000000000000 ≤ n
  high : n ≤ 1000000000000000
  less : -c < r ∧ r < c
  turned : divQ (-N) c how' = (-n, -r, true)

theorem half_even {q : Int} (h : q.tmod 2 = 0) : (-q).tmod 2 = 0 := by rw [Int.neg_tmod, h]; rfl
theorem half_next {q : Int} (h : ¬ q.tmod 2 = 0) : (q + 1).tmod 2 = 0 := by
  have h1 : ¬ q % 2 = 0 := fun e => h (Int.tmod_eq_zero_of_dvd (Int.dvd_of_emod_eq_zero e))
  exact Int.tmod_eq_zero_of_dvd (Int.dvd_of_emod_eq_zero (by omega))
theorem half_odd {q : Int} (h : q.tmod 2 = 0) : ¬ (-q - 1).tmod 2 = 0 := by
  intro e
  have h1 := Int.emod_eq_zero_of_dvd (Int.dvd_of_tmod_eq_zero h)
  have h2 := Int.emod_eq_zero_of_dvd (Int.dvd_of_tmod_eq_zero e)
  omega
theorem half_odd' {q : Int} (h : ¬ q.tmod 2 = 0) : (-q - 1).tmod 2 = 0 := by
  have h1 : ¬ q % 2 = 0 := fun e => h (Int.tmod_eq_zero_of_dvd (Int.dvd_of_emod_eq_zero e))
  exact Int.tmod_eq_zero_of_dvd (Int.dvd_of_emod_eq_zero (by omega))

theorem divQ_facts {N c how n r : Int} (hc : 1 ≤ c) (h : divQ N c how = (n, r, true)) :
    (floorQ N c = (N / c, N % c, true) ∧ -1000000000000001 ≤ N / c ∧ N / c ≤ 1000000000000000) ∧ ((upQ how (N / c) (N % c) c = true ∧ N / c + 1 = n ∧ -(c - N % c) = r) ∨ (upQ how (N / c) (N % c) c = false ∧ N / c = n ∧ N % c = r)) ∧ -1000000000000000 ≤ n ∧ n ≤ 1000000000000000 := by
  have hf : (floorQ N c).2.2 = true := by
    cases hb : (floorQ N c).2.2 with
    | true => rfl
    | false => unfold divQ at h; rw [hb] at h; simp at h
  have F := floorQ_true hc hf
  rw [divQ_eq F.1] at h
  refine ⟨F, ?_⟩
  cases hu : upQ how (N / c) (N % c) c with
  | true =>
    rw [hu, if_pos rfl] at h
    obtain ⟨e1, e2, e3⟩ := untrip h
    exact ⟨.inl ⟨rfl, e1, e2⟩, e3⟩
  | false =>
    rw [hu, if_neg (by simp)] at h
    obtain ⟨e1, e2, e3⟩ := untrip h
    exact ⟨.inr ⟨rfl, e1, e2⟩, e3⟩
theorem upQ1 (n r c : Int) : upQ 1 n r c = false := by simp [upQ]
theorem upQ2 (n r c : Int) : upQ 2 n r c = decide (0 < r) := by simp [upQ]
theorem upQ3 (n r c : Int) : upQ 3 n r c = (decide (c - r < r) || (decide (r = c - r) && decide (¬ n.tmod 2 = 0))) := by simp [upQ]

theorem turn_one {N c n r : Int} (hc : 1 ≤ c) (h : divQ N c 1 = (n, r, true)) : Turned N c 1 n r 2 ∧ 0 ≤ r := by
  obtain ⟨⟨hf, q0, q1⟩, hu, n0, n1⟩ := divQ_facts hc h
  have e := Int.mul_ediv_add_emod N c
  have r0 := Int.emod_nonneg N (show c ≠ 0 by omega)
  have r1 := Int.emod_lt_of_pos N (show 0 < c by omega)
  rw [upQ1] at hu
  rcases hu with ⟨hu, _⟩ | ⟨_, rfl, rfl⟩
  · cases hu
  obtain ⟨d0, d1⟩ := neg_div (N := N) hc
  refine ⟨⟨by rw [Int.mul_comm]; exact e.symm, n0, n1, by omega, ?_⟩, r0⟩
  by_cases hs : N % c = 0
  · obtain ⟨a1, a2⟩ := d0 hs
    rw [divQ_eq (floorQ_of hc (by omega) (by omega)), upQ2, a1, a2, if_neg (by simp)]
    exact trip rfl (by omega) (by omega)
  · obtain ⟨a1, a2⟩ := d1 (by omega)
    rw [divQ_eq (floorQ_of hc (by omega) (by omega)), upQ2, a1, a2, if_pos (decide_eq_true (by omega))]
    exact trip (by omega) (by omega) (by omega)
theorem turn_two {N c n r : Int} (hc : 1 ≤ c) (h : divQ N c 2 = (n, r, true)) : Turned N c 2 n r 1 ∧ r ≤ 0 := by
  obtain ⟨⟨hf, q0, q1⟩, hu, n0, n1⟩ := divQ_facts hc h
  have e := Int.mul_ediv_add_emod N c
  have r0 := Int.emod_nonneg N (show c ≠ 0 by omega)
  have r1 := Int.emod_lt_of_pos N (show 0 < c by omega)
  rw [upQ2] at hu
  obtain ⟨d0, d1⟩ := neg_div (N := N) hc
  rcases hu with ⟨hu, rfl, rfl⟩ | ⟨hu, rfl, rfl⟩
  · have hs := of_decide_eq_true hu
    obtain ⟨a1, a2⟩ := d1 hs
    refine ⟨⟨by rw [Int.add_mul, Int.mul_comm]; omega, n0, n1, by omega, ?_⟩, by omega⟩
    rw [divQ_eq (floorQ_of hc (by omega) (by omega)), upQ1, a1, a2, if_neg (by simp)]
    exact trip (by omega) (by omega) (by omega)
  · have hs := of_decide_eq_false hu
    obtain ⟨a1, a2⟩ := d0 (by omega)
    refine ⟨⟨by rw [Int.mul_comm]; exact e.symm, n0, n1, by omega, ?_⟩, by omega⟩
    rw [divQ_eq (floorQ_of hc (by omega) (by omega)), upQ1, a1, a2, if_neg (by simp)]
    exact trip rfl (by omega) (by omega)
theorem turn_three {N c n r : Int} (hc : 1 ≤ c) (h : divQ N c 3 = (n, r, true)) : Turned N c 3 n r 3 ∧ 2 * r ≤ c ∧ -2 * r ≤ c ∧ (2 * r = c ∨ -2 * r = c → n.tmod 2 = 0) := by
  obtain ⟨⟨hf, q0, q1⟩, hu, n0, n1⟩ := divQ_facts hc h
  have e := Int.mul_ediv_add_emod N c
  have r0 := Int.emod_nonneg N (show c ≠ 0 by omega)
  have r1 := Int.emod_lt_of_pos N (show 0 < c by omega)
  rw [upQ3] at hu
  obtain ⟨d0, d1⟩ := neg_div (N := N) hc
  rcases hu with ⟨hu, rfl, rfl⟩ | ⟨hu, rfl, rfl⟩
  · simp only [Bool.or_eq_true, Bool.and_eq_true, decide_eq_true_eq] at hu
    have hs : 0 < N % c := by omega
    obtain ⟨a1, a2⟩ := d1 hs
    refine ⟨⟨by rw [Int.add_mul, Int.mul_comm]; omega, n0, n1, by omega, ?_⟩, by omega, by omega, ?_⟩
    · rw [divQ_eq (floorQ_of hc (by omega) (by omega)), upQ3, a1, a2, if_neg ?_]
      · exact trip (by omega) (by omega) (by omega)
      · simp only [Bool.or_eq_true, Bool.and_eq_true, decide_eq_true_eq]
        rintro (hx | ⟨hx, hy⟩)
        · omega
        · rcases hu with hu | ⟨_, hu⟩
          · omega
          · exact hy (half_odd' hu)
    · intro hx
      rcases hu with hu | ⟨_, hu⟩
      · omega
      · exact half_next hu
  · simp only [Bool.or_eq_false_iff, Bool.and_eq_false_iff, decide_eq_false_iff_not] at hu
    obtain ⟨hu1, hu2⟩ := hu
    refine ⟨⟨by rw [Int.mul_comm]; exact e.symm, n0, n1, by omega, ?_⟩, by omega, by omega, ?_⟩
    · by_cases hs : N % c = 0
      · obtain ⟨a1, a2⟩ := d0 hs
        rw [divQ_eq (floorQ_of hc (by omega) (by omega)), upQ3, a1, a2, if_neg ?_]
        · exact trip rfl (by omega) (by omega)
        · simp only [Bool.or_eq_true, Bool.and_eq_true, decide_eq_true_eq]
          rintro (hx | ⟨hx, hy⟩) <;> omega
      · obtain ⟨a1, a2⟩ := d1 (by omega)
        rw [divQ_eq (floorQ_of hc (by omega) (by omega)), upQ3, a1, a2, if_pos ?_]
        · exact trip (by omega) (by omega) (by omega)
        · simp only [Bool.or_eq_true, Bool.and_eq_true, decide_eq_true_eq]
          by_cases hx : N % c = c - N % c
          · refine .inr ⟨by omega, ?_⟩
            rcases hu2 with hu2 | hu2
            · exact absurd hx hu2
            · exact half_odd (Classical.not_not.1 hu2)
          · exact .inl (by omega)
    · intro hx
      rcases hu2 with hu2 | hu2
      · omega
      · exact Classical.not_not.1 hu2
end Go.Proofs.YtimfbjnpalgmcaaGreat
