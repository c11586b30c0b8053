/-
  DefectTrue: the numbers: the true region is one of those returned.
-/
import Derived.Test.YtimfbjnpalgmcaaGreatDtA
namespace Go.Proofs.YtimfbjnpalgmcaaGreat
set_option linter.unusedSimpArgs false
set_option linter.unusedVariables false

theorem brT_mono (m : Mdl) (t : Tru) (k : Nat) : brT m t k ≤ brT m t (k + 1) := by
  show brT m t k ≤ max (brT m t k) _
  omega
theorem brT_le (m : Mdl) (t : Tru) : ∀ j i, i ≤ j → brT m t i ≤ brT m t j := by
  intro j
  induction j with
  | zero => intro i h; obtain rfl : i = 0 := by omega
            exact Int.le_refl _
  | succ j ih =>
    intro i h
    by_cases e : i = j + 1
    · rw [e]; exact Int.le_refl _
    · exact Int.le_trans (ih i (by omega)) (brT_mono m t j)
/-- How many borders the ratio is above: it is above just those. -/
theorem inT_cut (m : Mdl) (t : Tru) (v g : Int) (g0 : 0 ≤ g) : ∀ n i, i < n → (brT m t (i + 1) * g < v * m.s ↔ i < inT m t v g n) := by
  intro n
  induction n with
  | zero => intro i h; omega
  | succ n ih =>
    have full : brT m t (n + 1) * g < v * m.s → inT m t v g n = n := by
      intro h
      rcases Nat.lt_or_ge (inT m t v g n) n with hl | hl
      · have := (ih (inT m t v g n) hl).1 (Int.lt_of_le_of_lt (Int.mul_le_mul_of_nonneg_right (brT_le m t _ _ (by omega)) g0) h)
        omega
      · have := inT_le m t v g n
        omega
    intro i hi
    by_cases e : i = n
    · subst e
      have step : inT m t v g (i + 1) = inT m t v g i + if brT m t (i + 1) * g < v * m.s then 1 else 0 := rfl
      have := inT_le m t v g i
      rw [step]
      split
      · rename_i h; have := full h; constructor
        · intro _; omega
        · intro _; exact h
      · rename_i h; constructor
        · intro h'; exact absurd h' h
        · intro h'; omega
    · have step : inT m t v g (n + 1) = inT m t v g n + if brT m t (n + 1) * g < v * m.s then 1 else 0 := rfl
      rw [ih i (by omega), step]
      split
      · rename_i h; have := full h; omega
      · omega
theorem brT_lo {m : Mdl} (h : MdlOk m) (t : Tru) (k : Nat) : m.lo k ≤ brT m t (k + 1) := by
  have := (plN_in (x := m.lo k) (y := m.hi k) (t.b k) (h.lohi k)).1
  show m.lo k ≤ max _ _
  omega
theorem brT_hi {m : Mdl} (h : MdlOk m) (t : Tru) : ∀ k, brT m t (k + 1) ≤ m.hi k := by
  intro k
  induction k with
  | zero =>
    have := (plN_in (x := m.lo 0) (y := m.hi 0) (t.b 0) (h.lohi 0)).2
    have := h.hi0 0
    have := h.lohi 0
    have := h.lo0 0
    show max (brT m t 0) _ ≤ _
    simp only [brT]
    omega
  | succ k ih =>
    have := (plN_in (x := m.lo (k + 1)) (y := m.hi (k + 1)) (t.b (k + 1)) (h.lohi (k + 1))).2
    have := h.his k
    show max (brT m t (k + 1)) _ ≤ _
    omega
theorem mul_le2 {a b p q : Int} (ha : 0 ≤ a) (hab : a ≤ b) (hp : 0 ≤ p) (hpq : p ≤ q) : a * p ≤ b * q :=
  Int.le_trans (Int.mul_le_mul_of_nonneg_left hpq ha) (Int.mul_le_mul_of_nonneg_right hab (by omega))
theorem can_true {m : Mdl} (h : MdlOk m) (t : Tru) {x y p q v g : Int} (x0 : 0 ≤ x) (xv : x ≤ v) (vy : v ≤ y) (y1 : y ≤ 1000000) (p0 : 1 ≤ p) (pg : p ≤ g) (gq : g ≤ q) : canB m (x, y) (p, q) (inT m t v g 4) = true := by
  obtain ⟨k, hk⟩ : ∃ k, inT m t v g 4 = k := ⟨_, rfl⟩
  have c := fun i hi => inT_cut m t v g (by omega) 4 i hi
  have k4 := inT_le m t v g 4
  rw [hk] at c k4 ⊢
  have s0 : 0 ≤ m.s := by have := h.s1; omega
  have xs : x * m.s ≤ v * m.s := Int.mul_le_mul_of_nonneg_right xv s0
  have ys : v * m.s ≤ y * m.s := Int.mul_le_mul_of_nonneg_right vy s0
  have vs0 : 0 ≤ v * m.s := Int.mul_nonneg (by omega) s0
  unfold canB abv
  simp only [Bool.and_eq_true, Bool.not_eq_true', decide_eq_true_eq, decide_eq_false_iff_not, Int.not_lt]
  have low : sideL m k * p < y * m.s ∧ (0 < k → sideL m k ≤ brT m t k) := by
    unfold sideL
    split
    · exact ⟨by omega, fun h => by omega⟩
    · rename_i hk0
      have a := brT_lo h t (k - 1)
      rw [show k - 1 + 1 = k by omega] at a
      have b := (c (k - 1) (by omega)).2 (by omega)
      rw [show k - 1 + 1 = k by omega] at b
      have d := mul_le2 (h.lo0 (k - 1)) a (show 0 ≤ p by omega) pg
      exact ⟨by omega, fun _ => a⟩
  have high : x * m.s ≤ sideH m k * q ∧ (k < 4 → v * m.s ≤ brT m t (k + 1) * g ∧ brT m t (k + 1) ≤ sideH m k) := by
    unfold sideH
    split
    · rename_i hk4
      have a := brT_hi h t k
      have b : v * m.s ≤ brT m t (k + 1) * g := by
        have := c k hk4
        have n : ¬ k < k := by omega
        rw [← this] at n
        omega
      have d := mul_le2 (brT_far h t (k + 1)).1 a (show 0 ≤ g by omega) gq
      exact ⟨by omega, fun _ => ⟨b, a⟩⟩
    · refine ⟨?_, fun h => by omega⟩
      have a : v * m.s ≤ 1000000 * 1000000 := mul_le2 (by omega) (by omega) s0 h.s2
      omega
  refine ⟨?_, low.1, high.1⟩
  by_cases z : k = 0
  · subst z
    have := h.hi0 0; have := h.lohi 0; have := h.lo0 0
    simp [sideL, sideH, Mdl.hi] at *
    omega
  · by_cases f : k < 4
    · have b := (c (k - 1) (by omega)).2 (by omega)
      rw [show k - 1 + 1 = k by omega] at b
      have d := (high.2 f).1
      have e : brT m t k < brT m t (k + 1) := by
        rcases Int.lt_or_le (brT m t k) (brT m t (k + 1)) with l | l
        · exact l
        · have := Int.mul_le_mul_of_nonneg_right l (show 0 ≤ g by omega)
          omega
      have := low.2 (by omega)
      have := (high.2 f).2
      omega
    · have a := (sideL_far h k).2
      have : sideH m k = 1000000000000 := by unfold sideH; rw [if_neg f]
      omega
theorem can_less {m : Mdl} (h : MdlOk m) {x y p q v g : Int} (x0 : 0 ≤ x) (xv : x ≤ v) (vy : v ≤ y) (p0 : 1 ≤ p) (pg : p ≤ g) (gq : g ≤ q) (k : Nat) (hc : canB m (v, v) (g, g) k = true) : canB m (x, y) (p, q) k = true := by
  have s0 : 0 ≤ m.s := by have := h.s1; omega
  have xs : x * m.s ≤ v * m.s := Int.mul_le_mul_of_nonneg_right xv s0
  have ys : v * m.s ≤ y * m.s := Int.mul_le_mul_of_nonneg_right vy s0
  have vs0 : 0 ≤ v * m.s := Int.mul_nonneg (by omega) s0
  unfold canB abv at *
  simp only [Bool.and_eq_true, Bool.not_eq_true', decide_eq_true_eq, decide_eq_false_iff_not, Int.not_lt] at *
  obtain ⟨h1, h2, h3⟩ := hc
  refine ⟨h1, ?_, ?_⟩
  · rcases Int.lt_or_le (sideL m k) 0 with l | l
    · have := Int.mul_lt_mul_of_pos_right l (show 0 < p by omega)
      omega
    · have := Int.mul_le_mul_of_nonneg_left pg l
      omega
  · have := Int.mul_le_mul_of_nonneg_left gq (sideH_far h k).1
    omega

/-! Sets of five. -/
theorem sub_bits : ∀ A : Fin 32, ∀ B : Fin 32, (∀ j : Fin 5, A.val / 2 ^ j.val % 2 = 1 → B.val / 2 ^ j.val % 2 = 1) → bits BinOp.andNot IntKind.u8 (A.val : Int) (B.val : Int) = 0 := by decide +kernel
theorem judge_bits : ∀ A : Fin 32, ∀ W : Fin 32, ∀ j : Fin 5, A.val / 2 ^ j.val % 2 = 1 → (bits BinOp.andNot IntKind.u8 (A.val : Int) (W.val : Int) = 0 → W.val / 2 ^ j.val % 2 = 1) ∧ (bits BinOp.and IntKind.u8 (A.val : Int) (W.val : Int) = 0 → W.val / 2 ^ j.val % 2 = 0) := by decide +kernel
theorem bit_is : ∀ A : Fin 32, ∀ k : Fin 5, bits BinOp.and IntKind.u8 ((A.val : Int) / 2 ^ k.val) 1 = ((A.val / 2 ^ k.val % 2 : Nat) : Int) := by decide +kernel
theorem and31 : ∀ x : Fin 256, bits BinOp.and IntKind.u8 (x.val : Int) 31 = ((x.val % 32 : Nat) : Int) := by decide +kernel
end Go.Proofs.YtimfbjnpalgmcaaGreat
