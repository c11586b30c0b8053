/-
  Products and quotients of numbers of ranges lie between those of the ends (for UnitsAllResults).
-/
import Derived.Test.YtckapcfofkeicaaPrs
namespace Go.Proofs.Ytckapcfofkeicaa
set_option linter.unusedSimpArgs false
set_option linter.unusedVariables false

theorem box_min {al ah bl bh x y : Int} (x0 : al ≤ x) (x1 : x ≤ ah) (y0 : bl ≤ y) (y1 : y ≤ bh) : al * bl ≤ x * y ∨ al * bh ≤ x * y ∨ ah * bl ≤ x * y ∨ ah * bh ≤ x * y := by
  by_cases hy : 0 ≤ y
  · have a := Int.mul_le_mul_of_nonneg_right x0 hy
    by_cases ha : 0 ≤ al
    · have b := Int.mul_le_mul_of_nonneg_left y0 ha; omega
    · have b := Int.mul_le_mul_of_nonpos_left (show al ≤ 0 by omega) y1; omega
  · have a := Int.mul_le_mul_of_nonpos_right x1 (show y ≤ 0 by omega)
    by_cases ha : 0 ≤ ah
    · have b := Int.mul_le_mul_of_nonneg_left y0 ha; omega
    · have b := Int.mul_le_mul_of_nonpos_left (show ah ≤ 0 by omega) y1; omega
theorem box_max {al ah bl bh x y : Int} (x0 : al ≤ x) (x1 : x ≤ ah) (y0 : bl ≤ y) (y1 : y ≤ bh) : x * y ≤ al * bl ∨ x * y ≤ al * bh ∨ x * y ≤ ah * bl ∨ x * y ≤ ah * bh := by
  by_cases hy : 0 ≤ y
  · have a := Int.mul_le_mul_of_nonneg_right x1 hy
    by_cases ha : 0 ≤ ah
    · have b := Int.mul_le_mul_of_nonneg_left y1 ha; omega
    · have b := Int.mul_le_mul_of_nonpos_left (show ah ≤ 0 by omega) y0; omega
  · have a := Int.mul_le_mul_of_nonpos_right x0 (show y ≤ 0 by omega)
    by_cases ha : 0 ≤ al
    · have b := Int.mul_le_mul_of_nonneg_left y1 ha; omega
    · have b := Int.mul_le_mul_of_nonpos_left (show al ≤ 0 by omega) y0; omega
/-- What is rounded up is the opposite of the opposite rounded down. -/
theorem upV_neg {N c : Int} (c0 : 1 ≤ c) : upV N c = -((-N) / c) := by
  obtain ⟨d0, d1⟩ := neg_div (N := N) c0
  have r0 := Int.emod_nonneg N (show c ≠ 0 by omega)
  unfold upV
  by_cases h : 0 < N % c
  · rw [if_pos h, (d1 h).1]; omega
  · rw [if_neg h, (d0 (by omega)).1]; omega
theorem down_mono {N M c : Int} (c0 : 1 ≤ c) (h : N ≤ M) : N / c ≤ M / c := Int.ediv_le_ediv (by omega) h
theorem up_mono {N M c : Int} (c0 : 1 ≤ c) (h : N ≤ M) : upV N c ≤ upV M c := by
  rw [upV_neg c0, upV_neg c0]
  have := down_mono c0 (show -M ≤ -N by omega)
  omega
/-- A number that is not negative, by a greater one, is not greater. -/
theorem down_anti {N c d : Int} (c0 : 1 ≤ c) (h : c ≤ d) (hN : 0 ≤ N) : N / d ≤ N / c := by
  refine (Int.le_ediv_iff_mul_le (by omega)).2 ?_
  have a := Int.ediv_mul_le N (show d ≠ 0 by omega)
  have q := Int.ediv_nonneg hN (show 0 ≤ d by omega)
  have b := Int.mul_le_mul_of_nonneg_left h q
  omega
theorem up_mono_neg {N c d : Int} (c0 : 1 ≤ c) (h : c ≤ d) (hN : N ≤ 0) : upV N c ≤ upV N d := by
  rw [upV_neg c0, upV_neg (show 1 ≤ d by omega)]
  have := down_anti c0 h (show 0 ≤ -N by omega)
  omega
/-- The other ways round. -/
theorem down_mono_neg {N c d : Int} (c0 : 1 ≤ c) (h : c ≤ d) (hN : N ≤ 0) : N / c ≤ N / d := by
  refine (Int.le_ediv_iff_mul_le (by omega)).2 ?_
  have a := Int.ediv_mul_le N (show c ≠ 0 by omega)
  have q : N / c ≤ 0 := by
    have := down_mono c0 hN
    simpa using this
  have b := Int.mul_le_mul_of_nonpos_left q h
  omega
theorem up_anti {N c d : Int} (c0 : 1 ≤ c) (h : c ≤ d) (hN : 0 ≤ N) : upV N d ≤ upV N c := by
  rw [upV_neg c0, upV_neg (show 1 ≤ d by omega)]
  have := down_mono_neg c0 h (show -N ≤ 0 by omega)
  omega
/-- A quotient of numbers of two ranges, the second one positive, lies between those of the ends. -/
theorem over_min {al ah bl bh x y u : Int} (u0 : 1 ≤ u) (x0 : al ≤ x) (x1 : x ≤ ah) (b0 : 1 ≤ bl) (y0 : bl ≤ y) (y1 : y ≤ bh) : al * u / bl ≤ x * u / y ∨ al * u / bh ≤ x * u / y := by
  have a := down_mono (c := y) (by omega) (Int.mul_le_mul_of_nonneg_right x0 (show 0 ≤ u by omega))
  by_cases ha : 0 ≤ al * u
  · have := down_anti (show 1 ≤ y by omega) y1 ha; omega
  · have := down_mono_neg b0 y0 (show al * u ≤ 0 by omega); omega
theorem over_max {al ah bl bh x y u : Int} (u0 : 1 ≤ u) (x0 : al ≤ x) (x1 : x ≤ ah) (b0 : 1 ≤ bl) (y0 : bl ≤ y) (y1 : y ≤ bh) : upV (x * u) y ≤ upV (ah * u) bl ∨ upV (x * u) y ≤ upV (ah * u) bh := by
  have a := up_mono (c := y) (by omega) (Int.mul_le_mul_of_nonneg_right x1 (show 0 ≤ u by omega))
  by_cases ha : 0 ≤ ah * u
  · have := up_anti b0 y0 ha; omega
  · have := up_mono_neg (show 1 ≤ y by omega) y1 (show ah * u ≤ 0 by omega); omega

/-- A quotient of the gathering, rounded down and up. -/
def flT (t : Int × Int × Int) : Int := t.1 * t.2.1 / t.2.2
def upT (t : Int × Int × Int) : Int := upV (t.1 * t.2.1) t.2.2
/-- What has been gathered and is no error: the least and the greatest of all. -/
theorem gF_of (q : Nat → Int × Int × Int) (n : Nat) (hc : ∀ j, j < n → 1 ≤ (q j).2.2) : ∀ j, j < n → (gF q (j + 1)).o = false →
    ((∀ i, i ≤ j → (gF q (j + 1)).l ≤ flT (q i)) ∧ ∃ i, i ≤ j ∧ (gF q (j + 1)).l = flT (q i)) ∧ ((∀ i, i ≤ j → upT (q i) ≤ (gF q (j + 1)).h) ∧ ∃ i, i ≤ j ∧ (gF q (j + 1)).h = upT (q i)) ∧ ∀ i, i ≤ j → -1000000000000000 ≤ flT (q i) ∧ upT (q i) ≤ 1000000000000000 := by
  intro j
  induction j with
  | zero =>
    intro hj ho
    have c0 := hc 0 hj
    have D := divQ_down (N := (q 0).1 * (q 0).2.1) c0
    have U := divQ_up (N := (q 0).1 * (q 0).2.1) c0
    simp only [gF, gQuo, gAdd, Bool.false_or, Bool.false_eq_true, if_false] at ho ⊢
    rcases D with ⟨d1, d2, D⟩ | ⟨d1, D⟩
    · rcases U with ⟨u1, u2, U⟩ | ⟨u1, U⟩
      · refine ⟨⟨fun i hi => ?_, 0, Nat.le_refl _, d2⟩, ⟨fun i hi => ?_, 0, Nat.le_refl _, u2⟩, fun i hi => ?_⟩
        all_goals
          obtain rfl : i = 0 := by omega
          simp only [flT, upT]
          omega
      · rw [u1] at ho; simp at ho
    · rw [d1] at ho; simp at ho
  | succ j ih =>
    intro hj ho
    have c0 := hc (j + 1) hj
    have D := divQ_down (N := (q (j + 1)).1 * (q (j + 1)).2.1) c0
    have U := divQ_up (N := (q (j + 1)).1 * (q (j + 1)).2.1) c0
    have s1 := (spread_inv q n hc j (by omega)).1
    have e1 : gF q (j + 1 + 1) = gQuo (gF q (j + 1)) (q (j + 1)).1 (q (j + 1)).2.1 (q (j + 1)).2.2 := rfl
    rw [e1] at ho ⊢
    have IH := ih (by omega)
    clear e1 ih
    generalize gF q (j + 1) = g at *
    obtain ⟨gl, gh, gs, go⟩ := g
    simp only at s1 IH
    subst s1
    simp only [gQuo, gAdd, if_true] at ho ⊢
    rcases D with ⟨d1, d2, D⟩ | ⟨d1, D⟩
    · rcases U with ⟨u1, u2, U⟩ | ⟨u1, U⟩
      · rw [d1, u1] at ho
        obtain ⟨⟨a1, k1, k2, a2⟩, ⟨b1, m1, m2, b2⟩, c1⟩ := IH (by simpa using ho)
        rw [d2, u2]
        have ef : flT (q (j + 1)) = (q (j + 1)).1 * (q (j + 1)).2.1 / (q (j + 1)).2.2 := rfl
        have eu : upT (q (j + 1)) = upV ((q (j + 1)).1 * (q (j + 1)).2.1) (q (j + 1)).2.2 := rfl
        rw [← ef] at D ⊢
        rw [← eu] at U ⊢
        refine ⟨⟨fun i hi => ?_, ?_⟩, ⟨fun i hi => ?_, ?_⟩, fun i hi => ?_⟩
        · rcases Nat.lt_or_ge j i with h | h
          · obtain rfl : i = j + 1 := by omega
            omega
          · have := a1 i h; omega
        · by_cases h : gl ≤ flT (q (j + 1))
          · exact ⟨k1, by omega, by omega⟩
          · exact ⟨j + 1, Nat.le_refl _, by omega⟩
        · rcases Nat.lt_or_ge j i with h | h
          · obtain rfl : i = j + 1 := by omega
            omega
          · have := b1 i h; omega
        · by_cases h : upT (q (j + 1)) ≤ gh
          · exact ⟨m1, by omega, by omega⟩
          · exact ⟨j + 1, Nat.le_refl _, by omega⟩
        · rcases Nat.lt_or_ge j i with h | h
          · obtain rfl : i = j + 1 := by omega
            omega
          · exact c1 i h
      · rw [u1] at ho; simp at ho
    · rw [d1] at ho; simp at ho
/-- Where all quotients are numbers, what has been gathered is no error. -/
theorem gF_ok (q : Nat → Int × Int × Int) (n : Nat) (hc : ∀ j, j < n → 1 ≤ (q j).2.2) (h : ∀ i, i < n → -1000000000000000 ≤ flT (q i) ∧ upT (q i) ≤ 1000000000000000) : ∀ j, j ≤ n → (gF q j).o = false := by
  intro j
  induction j with
  | zero => intro _; rfl
  | succ j ih =>
    intro hj
    have I := ih (by omega)
    have c0 := hc j (by omega)
    have hh := h j (by omega)
    have D := divQ_down (N := (q j).1 * (q j).2.1) c0
    have U := divQ_up (N := (q j).1 * (q j).2.1) c0
    have V := upV_le (N := (q j).1 * (q j).2.1) (c := (q j).2.2)
    unfold flT upT at hh
    have d1 : (divQ ((q j).1 * (q j).2.1) (q j).2.2 1).2.2 = true := by
      rcases D with ⟨d, _⟩ | ⟨_, D⟩
      · exact d
      · omega
    have u1 : (divQ ((q j).1 * (q j).2.1) (q j).2.2 2).2.2 = true := by
      rcases U with ⟨d, _⟩ | ⟨_, U⟩
      · exact d
      · omega
    have e1 : gF q (j + 1) = gQuo (gF q j) (q j).1 (q j).2.1 (q j).2.2 := rfl
    rw [e1]
    unfold gQuo gAdd
    rw [I, d1, u1]
    split <;> rfl

/-- What is gathered of quotients that lie between others lies in what is gathered of those. -/
theorem gF_in (q r : Nat → Int × Int × Int) (n m : Nat) (hq : ∀ j, j < n + 1 → 1 ≤ (q j).2.2) (hr : ∀ j, j < m + 1 → 1 ≤ (r j).2.2) (lo : ∀ i, i ≤ m → ∃ j, j ≤ n ∧ flT (q j) ≤ flT (r i)) (hi : ∀ i, i ≤ m → ∃ j, j ≤ n ∧ upT (r i) ≤ upT (q j)) (ok : (gF q (n + 1)).o = false) :
    (gF r (m + 1)).o = false ∧ (gF q (n + 1)).l ≤ (gF r (m + 1)).l ∧ (gF r (m + 1)).h ≤ (gF q (n + 1)).h ∧ (gF r (m + 1)).l ≤ (gF r (m + 1)).h ∧ ∀ i, i ≤ m → (gF r (m + 1)).l ≤ flT (r i) ∧ upT (r i) ≤ (gF r (m + 1)).h := by
  obtain ⟨⟨a1, _⟩, ⟨b1, _⟩, c1⟩ := gF_of q (n + 1) hq n (by omega) ok
  have ok' : (gF r (m + 1)).o = false := by
    refine gF_ok r (m + 1) hr (fun i hi' => ?_) (m + 1) (Nat.le_refl _)
    obtain ⟨j, hj, h1⟩ := lo i (by omega)
    obtain ⟨k, hk, h2⟩ := hi i (by omega)
    have := (c1 j hj).1
    have := (c1 k hk).2
    omega
  obtain ⟨⟨d1, d2, d3, d4⟩, ⟨e1, e2, e3, e4⟩, _⟩ := gF_of r (m + 1) hr m (by omega) ok'
  refine ⟨ok', ?_, ?_, ?_, fun i hi' => ⟨d1 i hi', e1 i hi'⟩⟩
  · obtain ⟨j, hj, h1⟩ := lo d2 d3
    have := a1 j hj
    omega
  · obtain ⟨j, hj, h1⟩ := hi e2 e3
    have := b1 j hj
    omega
  · have x1 := d1 0 (by omega)
    have x2 := e1 0 (by omega)
    have x3 := (upV_le (N := (r 0).1 * (r 0).2.1) (c := (r 0).2.2)).1
    simp only [flT, upT] at x1 x2
    omega
/-- A quotient, rounded in any way, lies between what it is rounded down and up to. -/
theorem mulDivQ_between {a b c how : Int} (h1 : howOk how = true) (h2 : (allIn 1000000000000000 [a, b] && isDiv c) = true) (c0 : 1 ≤ c) (l0 : -1000000000000000 ≤ a * b / c) (u0 : upV (a * b) c ≤ 1000000000000000) :
    (mulDivQ a b c how).2.2 = 0 ∧ a * b / c ≤ (mulDivQ a b c how).1 ∧ (mulDivQ a b c how).1 ≤ upV (a * b) c := by
  have hh : how = 1 ∨ how = 2 ∨ how = 3 := by simpa [howOk, or_assoc] using h1
  have r0 := Int.emod_nonneg (a * b) (show c ≠ 0 by omega)
  have hu : upQ how (a * b / c) (a * b % c) c = true → 0 < a * b % c := by
    intro h
    rcases hh with rfl | rfl | rfl
    · rw [upQ1] at h; cases h
    · rw [upQ2] at h; exact of_decide_eq_true h
    · rw [upQ3] at h
      simp only [Bool.or_eq_true, Bool.and_eq_true, decide_eq_true_eq] at h
      omega
  rw [mulDivQ_valid h1 h2 c0]
  obtain ⟨v, hv⟩ : ∃ v, a * b / c + (if upQ how (a * b / c) (a * b % c) c = true then 1 else 0) = v := ⟨_, rfl⟩
  rw [hv]
  have b1 : a * b / c ≤ v ∧ v ≤ upV (a * b) c := by
    rw [← hv]
    unfold upV
    split
    · rename_i h; rw [if_pos (hu h)]; omega
    · split <;> omega
  rw [if_pos (allIn_one.2 (by omega))]
  exact ⟨rfl, b1.1, b1.2⟩
end Go.Proofs.Ytckapcfofkeicaa
