/-
  units.wide: compare, floor, divide.
-/
import Derived.Test.YtadnchcelocnaaaWide
namespace Go.Proofs.Ytadnchcelocnaaa
set_option linter.unusedSimpArgs false
set_option linter.unusedVariables false
open Go.RowKit

/-! ### compare -/
set_option maxHeartbeats 800000 in
theorem compare_eq (h l : Int) (w : World) :
    Calls Try.prog 120 #[.agg #[.int .i64 h, .int .u64 l], .agg #[.int .i64 h, .int .u64 l]] w fun e w' => e = .returned (.int .i64 0) ∧ Below w.heap.size w w' := by
  go_enter Try.func120, Try.ntmps120
  go_wp2
  go_ret
  exact ⟨rfl, (by repeat (first | exact Below.refl _ _ | assumption | apply balloc | apply bdrew | (refine bset ?_ (by first | (simp; done) | omega | (simp; omega)) _) | (refine bnext ?_ (by assumption))))⟩
set_option maxHeartbeats 800000 in
theorem compare_lt (h l h' l' : Int) (w : World) (hlt : h < h' ∨ h = h' ∧ l < l') :
    Calls Try.prog 120 #[.agg #[.int .i64 h, .int .u64 l], .agg #[.int .i64 h', .int .u64 l']] w fun e w' => e = .returned (.int .i64 (-1)) ∧ Below w.heap.size w w' := by
  rcases hlt with c | ⟨rfl, c⟩
  · have e1 : (h == h') = false := by simp; omega
    go_enter Try.func120, Try.ntmps120
    go_wp2
    go_ret
    exact ⟨rfl, (by repeat (first | exact Below.refl _ _ | assumption | apply balloc | apply bdrew | (refine bset ?_ (by first | (simp; done) | omega | (simp; omega)) _) | (refine bnext ?_ (by assumption))))⟩
  · have e1 : (l == l') = false := by simp; omega
    go_enter Try.func120, Try.ntmps120
    go_wp2
    go_ret
    exact ⟨rfl, (by repeat (first | exact Below.refl _ _ | assumption | apply balloc | apply bdrew | (refine bset ?_ (by first | (simp; done) | omega | (simp; omega)) _) | (refine bnext ?_ (by assumption))))⟩
set_option maxHeartbeats 800000 in
theorem compare_gt (h l h' l' : Int) (w : World) (hlt : h' < h ∨ h = h' ∧ l' < l) :
    Calls Try.prog 120 #[.agg #[.int .i64 h, .int .u64 l], .agg #[.int .i64 h', .int .u64 l']] w fun e w' => e = .returned (.int .i64 1) ∧ Below w.heap.size w w' := by
  rcases hlt with c | ⟨rfl, c⟩
  · have e1 : (h == h') = false := by simp; omega
    go_enter Try.func120, Try.ntmps120
    go_wp2
    go_ret
    exact ⟨rfl, (by repeat (first | exact Below.refl _ _ | assumption | apply balloc | apply bdrew | (refine bset ?_ (by first | (simp; done) | omega | (simp; omega)) _) | (refine bnext ?_ (by assumption))))⟩
  · have e1 : (l == l') = false := by simp; omega
    go_enter Try.func120, Try.ntmps120
    go_wp2
    go_ret
    exact ⟨rfl, (by repeat (first | exact Below.refl _ _ | assumption | apply balloc | apply bdrew | (refine bset ?_ (by first | (simp; done) | omega | (simp; omega)) _) | (refine bnext ?_ (by assumption))))⟩
/-- What is greater: the sign of x - y. -/
def sgn3 (x y : Int) : Int := if x < y then -1 else if x = y then 0 else 1
theorem compare_any (x y : Int) (w : World) :
    Calls Try.prog 120 #[.agg #[.int .i64 (x / 18446744073709551616), .int .u64 (x % 18446744073709551616)], .agg #[.int .i64 (y / 18446744073709551616), .int .u64 (y % 18446744073709551616)]] w fun e w' => e = .returned (.int .i64 (sgn3 x y)) ∧ Below w.heap.size w w' := by
  unfold sgn3
  by_cases h1 : x < y
  · rw [if_pos h1]; exact compare_lt _ _ _ _ w (by omega)
  · rw [if_neg h1]
    by_cases h2 : x = y
    · rw [if_pos h2]; subst h2; exact compare_eq _ _ w
    · rw [if_neg h2]; exact compare_gt _ _ _ _ w (by omega)

/-! ### floor -/
theorem div64_i (h l y q r : Int) (w : World) (h0 : 0 ≤ h) (hy : h < y) (hy' : y < 18446744073709551616) (l0 : 0 ≤ l) (l1 : l < 18446744073709551616)
    (hq : q = (h * 18446744073709551616 + l) / y) (hr : r = (h * 18446744073709551616 + l) % y) :
    Calls Try.prog 131 #[.int .u64 h, .int .u64 l, .int .u64 y] w fun e w' => e = .returned (.tuple #[.int .u64 q, .int .u64 r]) ∧ Below w.heap.size w w' := by
  obtain ⟨h, rfl⟩ := Int.eq_ofNat_of_zero_le h0
  obtain ⟨l, rfl⟩ := Int.eq_ofNat_of_zero_le l0
  obtain ⟨y, rfl⟩ := Int.eq_ofNat_of_zero_le (show 0 ≤ y by omega)
  have e1 : q = (((h * 18446744073709551616 + l) / y : Nat) : Int) := by rw [hq, Int.natCast_ediv]; rfl
  have e2 : r = (((h * 18446744073709551616 + l) % y : Nat) : Int) := by rw [hr, Int.natCast_emod]; rfl
  subst e1 e2
  exact div64_any h l y w (by omega) (by omega) (by omega)

def floorQ (N c : Int) : Int × Int × Bool :=
  if 0 ≤ N then (if N / c ≤ 1000000000000000 then (N / c, N % c, true) else (0, 0, false))
  else (if (-N - 1) / c ≤ 1000000000000000 then (N / c, N % c, true) else (-1, c - 1, false))

theorem ret_iib {a b a' b' : Int} {x x' : Bool} (h : (a, b, x) = (a', b', x')) : Ending.returned (.tuple #[.int .i64 a, .int .i64 b, .bool x]) = .returned (.tuple #[.int .i64 a', .int .i64 b', .bool x']) := by cases h; rfl

set_option maxHeartbeats 800000 in
theorem floor_pos (h l c : Int) (w : World) (h0 : 0 ≤ h) (h1 : h ≤ 4611686018427387904) (l0 : 0 ≤ l) (l1 : l < 18446744073709551616) (c0 : 1 ≤ c) (c1 : c ≤ 1000000000000000) :
    Calls Try.prog 117 #[.agg #[.int .i64 h, .int .u64 l], .int .i64 c] w fun e w' => e = .returned (.tuple #[.int .i64 (floorQ (h * 18446744073709551616 + l) c).1, .int .i64 (floorQ (h * 18446744073709551616 + l) c).2.1, .bool (floorQ (h * 18446744073709551616 + l) c).2.2]) ∧ Below w.heap.size w w' := by
  have hN : 0 ≤ h * 18446744073709551616 + l := by omega
  by_cases hc : c ≤ h
  · have e : (0, 0, false) = floorQ (h * 18446744073709551616 + l) c := by
      unfold floorQ
      rw [if_pos hN, if_neg]
      have : 1000000000000001 * c ≤ h * 18446744073709551616 + l := by omega
      have := Int.le_ediv_of_mul_le (by omega) this
      omega
    have E := hide e
    clear e
    go_enter Try.func117, Try.ntmps117
    go_wp2_with fail
    go_ret3
    exact ⟨ret_iib E.out, (by repeat (first | exact Below.refl _ _ | assumption | apply balloc | apply bdrew | (refine bset ?_ (by first | (simp; done) | omega | (simp; omega)) _) | (refine bnext ?_ (by assumption))))⟩
  · obtain ⟨q, hq⟩ : ∃ q, q = (h * 18446744073709551616 + l) / c := ⟨_, rfl⟩
    obtain ⟨r, hr⟩ : ∃ r, r = (h * 18446744073709551616 + l) % c := ⟨_, rfl⟩
    have r0 := Int.emod_nonneg (h * 18446744073709551616 + l) (show c ≠ 0 by omega)
    have r1 := Int.emod_lt_of_pos (h * 18446744073709551616 + l) (show 0 < c by omega)
    have q0 := Int.ediv_nonneg hN (show 0 ≤ c by omega)
    rw [← hr] at r0 r1
    rw [← hq] at q0
    have C := hide fun w => div64_i h l c q r w h0 (by omega) (by omega) l0 l1 hq hr
    have e : (if q ≤ 1000000000000000 then (q, r, true) else (0, 0, false)) = floorQ (h * 18446744073709551616 + l) c := by
      unfold floorQ
      rw [if_pos hN, ← hq, ← hr]
    have E := hide e
    clear e hq hr
    by_cases hb : q ≤ 1000000000000000
    · have e : (q, r, true) = floorQ (h * 18446744073709551616 + l) c := by rw [← E.out, if_pos hb]
      have E' := hide e
      clear e
      go_enter Try.func117, Try.ntmps117
      go_wp2_with (go_at_call 131; refine (C.out _).mono ?_; rintro e w' ⟨rfl, hb⟩)
      go_ret3
      exact ⟨ret_iib E'.out, (by repeat (first | exact Below.refl _ _ | assumption | apply balloc | apply bdrew | (refine bset ?_ (by first | (simp; done) | omega | (simp; omega)) _) | (refine bnext ?_ (by assumption))))⟩
    · have e : (0, 0, false) = floorQ (h * 18446744073709551616 + l) c := by rw [← E.out, if_neg hb]
      have E' := hide e
      clear e
      go_enter Try.func117, Try.ntmps117
      go_wp2_with (go_at_call 131; refine (C.out _).mono ?_; rintro e w' ⟨rfl, hb⟩)
      go_ret3
      exact ⟨ret_iib E'.out, (by repeat (first | exact Below.refl _ _ | assumption | apply balloc | apply bdrew | (refine bset ?_ (by first | (simp; done) | omega | (simp; omega)) _) | (refine bnext ?_ (by assumption))))⟩

end Go.Proofs.Ytadnchcelocnaaa
