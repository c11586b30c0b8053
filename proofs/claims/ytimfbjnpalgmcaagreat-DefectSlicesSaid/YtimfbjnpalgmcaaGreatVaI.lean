/-
  The value of a table whose knots' values are bounded: defined in its domain, and bounded by the same.
-/
import Derived.Test.YtimfbjnpalgmcaaGreatPrs
import Derived.Test.YtimfbjnpalgmcaaGreatDgL
namespace Go.Proofs.YtimfbjnpalgmcaaGreat
set_option linter.unusedSimpArgs false
set_option linter.unusedVariables false
set_option linter.unusedSimpArgs false
set_option linter.unusedVariables false
theorem y_in {ks : List (Int × Int)} {A B : Int} (hy : ks.all (yIn A B) = true) {i : Nat} (hi : i < ks.length) : A ≤ kY ks i ∧ kY ks i ≤ B := by
  have m : ks.getD i (0, 0) ∈ ks := by
    rw [List.getD_eq_getElem?_getD, List.getElem?_eq_getElem hi]
    exact List.getElem_mem hi
  have t := List.all_eq_true.1 hy _ m
  unfold yIn at t
  rw [Bool.and_eq_true, decide_eq_true_eq, decide_eq_true_eq] at t
  exact t
theorem quo_in {N c p q : Int} (c0 : 0 < c) (h0 : p * c ≤ N) (h1 : N ≤ q * c) : (p ≤ N / c ∧ upV N c ≤ q) ∧ N / c ≤ upV N c := by
  have ee := Int.mul_ediv_add_emod N c
  have r0 := Int.emod_nonneg N (show c ≠ 0 by omega)
  refine ⟨⟨Int.le_ediv_of_mul_le c0 h0, ?_⟩, ?_⟩
  · unfold upV
    generalize N / c = k at *
    generalize N % c = r at *
    have cq : c * q = q * c := Int.mul_comm _ _
    split
    · have : c * k < c * q := by omega
      have := Int.lt_of_mul_lt_mul_left this (by omega)
      omega
    · have : c * k ≤ c * q := by omega
      have := Int.le_of_mul_le_mul_left this c0
      omega
  · unfold upV
    split <;> omega
theorem dn_in {ks : List (Int × Int)} (h : tabOk ks = true) {A B : Int} (hy : ks.all (yIn A B) = true) {i : Nat} {x : Int} (hx : Has ks i x) : (A ≤ dnQ ks i x ∧ upQx ks i x ≤ B) ∧ dnQ ks i x ≤ upQx ks i x := by
  obtain ⟨h1, h2, h3⟩ := hx
  have y0 := y_in hy (show i < ks.length by omega)
  have y1 := y_in hy h1
  have n := knot_next h h1
  unfold dnQ upQx
  generalize kY ks i = a at *
  generalize kY ks (i + 1) = b at *
  obtain ⟨c, hc⟩ : ∃ c, kX ks (i + 1) - kX ks i = c := ⟨_, rfl⟩
  obtain ⟨e, he⟩ : ∃ e, x - kX ks i = e := ⟨_, rfl⟩
  rw [hc, he]
  have lo : (A - a) * c ≤ (b - a) * e := by
    have p := Int.mul_le_mul_of_nonneg_right (show A - a ≤ 0 by omega) (show 0 ≤ c - e by omega)
    have q := Int.mul_le_mul_of_nonneg_right (show A - a ≤ b - a by omega) (show 0 ≤ e by omega)
    rw [Int.mul_sub] at p
    omega
  have hi : (b - a) * e ≤ (B - a) * c := by
    have p := Int.mul_le_mul_of_nonneg_right (show 0 ≤ B - a by omega) (show 0 ≤ c - e by omega)
    have q := Int.mul_le_mul_of_nonneg_right (show b - a ≤ B - a by omega) (show 0 ≤ e by omega)
    rw [Int.zero_mul, Int.mul_sub] at p
    omega
  have Q := quo_in (show 0 < c by omega) lo hi
  omega
/-- The value at a range in the domain. -/
theorem value_within {ks : List (Int × Int)} (h : tabOk ks = true) {A B : Int} (hy : ks.all (yIn A B) = true) {lo hi : Int} (hlh : lo ≤ hi) (x0 : (plcQ ks).1 ≤ lo) (x1 : hi ≤ (plcQ ks).2) : ∃ v1 v2, valueQ ks lo hi = (v1, v2, 0) ∧ (A ≤ v1 ∧ v1 ≤ v2) ∧ v2 ≤ B := by
  have len := len_of h
  have x0 : kX ks 0 ≤ lo := x0
  have x1 : hi ≤ kX ks (ks.length - 1) := x1
  have b0 := knot_bounds h (show 0 < ks.length by omega)
  have b1 := knot_bounds h (show ks.length - 1 < ks.length by omega)
  have ll : ks.length - 2 + 1 = ks.length - 1 := by omega
  obtain ⟨i, hi'⟩ := has_ex (ks := ks) (x := lo) (ks.length - 2) (by omega) x0 (by rw [ll]; omega)
  obtain ⟨j, hj'⟩ := has_ex (ks := ks) (x := hi) (ks.length - 2) (by omega) (by omega) (by rw [ll]; omega)
  have r1 : [(lo, hi)].all rangeOk = true := by
    simp [rangeOk, allIn]
    omega
  have r2 : inDom ks lo hi = true := by
    show (decide (kX ks 0 ≤ lo) && decide (hi ≤ kX ks (ks.length - 1))) = true
    rw [Bool.and_eq_true, decide_eq_true_eq, decide_eq_true_eq]
    omega
  have di := dn_in h hy hi'
  have dj := dn_in h hy hj'
  refine ⟨_, _, by unfold valueQ; rw [if_neg (by simp [h]), if_neg (by simp [r1]), if_neg (by simp [r2])]; exact value_ref h hlh hi' hj', ⟨?_, ?_⟩, ?_⟩
  · rw [rLo_le]
    exact ⟨by omega, fun k hk _ _ => (y_in hy hk).1⟩
  · have a := ((rLo_le (ks := ks) (lo := lo) (hi := hi) (d := min (dnQ ks i lo) (dnQ ks j hi)) ks.length).1 (Int.le_refl _)).1
    have b := ((rHi_le (ks := ks) (lo := lo) (hi := hi) (d := max (upQx ks i lo) (upQx ks j hi)) ks.length).1 (Int.le_refl _)).1
    omega
  · rw [rHi_le]
    exact ⟨by omega, fun k hk _ _ => (y_in hy hk).2⟩
end Go.Proofs.YtimfbjnpalgmcaaGreat
