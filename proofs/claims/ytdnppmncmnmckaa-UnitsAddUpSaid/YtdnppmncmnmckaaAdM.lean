/-
  UnitsAddUp: the numbers: parts, and two neighbouring weights that are put together.
-/
import Derived.Test.YtdnppmncmnmckaaPortC
namespace Go.Proofs.Ytdnppmncmnmckaa
set_option linter.unusedSimpArgs false
set_option linter.unusedVariables false

theorem foldl_shift : ∀ (l : List Int) (a : Int), l.foldl (fun s x => s + x) a = a + l.foldl (fun s x => s + x) 0 := by
  intro l
  induction l with
  | nil => intro a; simp
  | cons x l ih =>
    intro a
    simp only [List.foldl_cons]
    rw [ih (a + x), ih (0 + x)]
    omega
theorem isum_append (l m : List Int) : isum (l ++ m) = isum l + isum m := by
  unfold isum
  rw [List.foldl_append, foldl_shift]
theorem isum_one (x : Int) : isum [x] = x := by simp [isum]
theorem isum_nil : isum [] = 0 := rfl

/-- Two neighbouring weights put together. -/
def joinL (ws : List Int) (k : Nat) : List Int := ws.take k ++ ([ws.getD k 0 + ws.getD (k + 1) 0] ++ ws.drop (k + 2))
theorem joinL_length {ws : List Int} {k : Nat} (hk : k + 1 < ws.length) : (joinL ws k).length = ws.length - 1 := by
  simp [joinL]; omega
theorem isum_two {ws : List Int} {k : Nat} (hk : k + 1 < ws.length) : isum (ws.take (k + 2)) = isum (ws.take k) + (ws.getD k 0 + ws.getD (k + 1) 0) := by
  have h1 := isum_step (l := ws) (k := k) (by omega)
  have h2 := isum_step (l := ws) (k := k + 1) hk
  rw [show k + 1 + 1 = k + 2 from rfl] at h2
  omega
theorem joinL_low {ws : List Int} {k i : Nat} (hk : k + 1 < ws.length) (hi : i ≤ k) : (joinL ws k).take i = ws.take i := by
  unfold joinL
  rw [List.take_append_of_le_length (by simp; omega), List.take_take, Nat.min_eq_left hi]
theorem joinL_high {ws : List Int} {k j : Nat} (hk : k + 1 < ws.length) : isum ((joinL ws k).take (k + 1 + j)) = isum (ws.take (k + 2 + j)) := by
  have e : (joinL ws k).take (k + 1 + j) = ws.take k ++ ([ws.getD k 0 + ws.getD (k + 1) 0] ++ (ws.drop (k + 2)).take j) := by
    unfold joinL
    have hl : (ws.take k).length = k := by simp; omega
    rw [List.take_append, List.take_of_length_le (by omega), hl, show k + 1 + j - k = j + 1 by omega]
    simp [List.take_succ_cons]
  rw [e, List.take_add, isum_append, isum_append, isum_append, isum_one, isum_two hk]
  omega
theorem joinL_all {ws : List Int} {k : Nat} (hk : k + 1 < ws.length) : isum (joinL ws k) = isum ws := by
  have h := joinL_high (ws := ws) (k := k) (j := ws.length - k - 2) hk
  rw [show k + 2 + (ws.length - k - 2) = ws.length by omega, List.take_of_length_le (Nat.le_refl _), List.take_of_length_le (by rw [joinL_length hk]; omega)] at h
  exact h
theorem allAm_mem {l : List Int} : allAm l = true ↔ ∀ x ∈ l, 0 ≤ x ∧ x ≤ 1000000000000000 := by
  unfold allAm
  rw [List.all_eq_true]
  constructor
  · intro h x hx; simpa using h x hx
  · intro h x hx; simpa using h x hx
theorem joinL_am {n : Int} {ws : List Int} {k : Nat} (h : portE n ws = 0) (hk : k + 1 < ws.length) : allAm (joinL ws k) = true := by
  obtain ⟨hl, _, ha, _, s0, s1⟩ := portE_zero h
  have b := (isum_bounds ha (by omega) k (by omega)).1
  have m := isum_mono ha (ws.length - (k + 2)) (k + 2) (by omega)
  rw [show k + 2 + (ws.length - (k + 2)) = ws.length by omega, List.take_of_length_le (Nat.le_refl _), isum_two hk] at m
  have g1 := allAm_get ha (show k < ws.length by omega)
  have g2 := allAm_get ha hk
  rw [allAm_mem] at ha ⊢
  intro x hx
  unfold joinL at hx
  rw [List.mem_append, List.mem_append] at hx
  rcases hx with hx | hx | hx
  · exact ha x (List.mem_of_mem_take hx)
  · simp only [List.mem_singleton] at hx
    omega
  · exact ha x (List.mem_of_mem_drop hx)
theorem joinL_zero {n : Int} {ws : List Int} {k : Nat} (h : portE n ws = 0) (hk : k + 1 < ws.length) : portE n (joinL ws k) = 0 := by
  obtain ⟨hl, ⟨n0, n1⟩, ha, _, s0, s1⟩ := portE_zero h
  have hj := joinL_am h hk
  have hlen := joinL_length hk
  have sm := (isum_bounds hj (by omega) (joinL ws k).length (Nat.le_refl _)).2.2
  rw [List.take_of_length_le (Nat.le_refl _), joinL_all hk] at sm
  unfold portE
  rw [decide_eq_true (show ((joinL ws k).length : Int) ≤ 100 by omega), if_neg (by simp), hj, show allAm [n] = true by simp [allAm]; omega, if_neg (by simp), sm, show allIn 1000000000000000 [isum ws] = true by simp [allIn]; omega, if_neg (by simp), decide_eq_true (show 0 < isum ws by omega), if_neg (by simp)]
theorem joinL_upTo {n : Int} {ws : List Int} {k : Nat} (hk : k + 1 < ws.length) : (∀ i, i ≤ k → upTo n (joinL ws k) i = upTo n ws i) ∧ (∀ i, k < i → upTo n (joinL ws k) i = upTo n ws (i + 1)) := by
  constructor
  · intro i hi
    unfold upTo
    rw [joinL_low hk hi, joinL_all hk]
  · intro i hi
    unfold upTo
    obtain ⟨j, rfl⟩ : ∃ j, i = k + 1 + j := ⟨i - (k + 1), by omega⟩
    rw [joinL_high hk, joinL_all hk, show k + 1 + j + 1 = k + 2 + j by omega]
theorem portQ_len {n : Int} {ws : List Int} (h : portE n ws = 0) : (portQ n ws).length = ws.length := by unfold portQ; rw [if_pos h]; simp
theorem portQ_get {n : Int} {ws : List Int} (h : portE n ws = 0) {i : Nat} (hi : i < ws.length) : (portQ n ws).getD i 0 = upTo n ws (i + 1) - upTo n ws i := by
  unfold portQ; rw [if_pos h]; simp [List.getD_eq_getElem?_getD, hi]
theorem portQ_bad {n : Int} {ws : List Int} (h : ¬ portE n ws = 0) : portQ n ws = [] := by unfold portQ; rw [if_neg h]
/-- What the statement asks of one part. -/
theorem part_ok {n : Int} {ws : List Int} (h : portE n ws = 0) {i : Nat} (hi : i < ws.length) : 0 ≤ (portQ n ws).getD i 0 ∧ (portQ n ws).getD i 0 ≤ n ∧ (ws.getD i 0 = 0 → (portQ n ws).getD i 0 = 0) := by
  obtain ⟨hl, ⟨n0, n1⟩, ha, hs, s0, s1⟩ := portE_zero h
  obtain ⟨a1, a2, _⟩ := upTo_ok h i (by omega)
  obtain ⟨b1, b2, _⟩ := upTo_ok h (i + 1) (by omega)
  have st := isum_step (l := ws) (k := i) hi
  have g := allAm_get ha hi
  rw [portQ_get h hi]
  refine ⟨?_, by omega, ?_⟩
  · have : upTo n ws i ≤ upTo n ws (i + 1) := by
      unfold upTo
      exact Int.ediv_le_ediv (by omega) (Int.mul_le_mul_of_nonneg_left (by omega) n0)
    omega
  · intro hz
    rw [hz, Int.add_zero] at st
    unfold upTo
    rw [st]
    omega
theorem upTo_all {n : Int} {ws : List Int} (h : portE n ws = 0) : upTo n ws ws.length = n := by
  obtain ⟨hl, ⟨n0, n1⟩, ha, hs, s0, s1⟩ := portE_zero h
  unfold upTo
  rw [List.take_of_length_le (Nat.le_refl _)]
  exact Int.mul_ediv_cancel _ (by omega)
theorem upTo_none {n : Int} {ws : List Int} : upTo n ws 0 = 0 := by simp [upTo, isum]
/-- The parts of the joined weights. -/
theorem joined_ok {n : Int} {ws : List Int} {k : Nat} (h : portE n ws = 0) (hk : k + 1 < ws.length) {i : Nat} (hi : i < (joinL ws k).length) :
    (i < k → (portQ n (joinL ws k)).getD i 0 = (portQ n ws).getD i 0) ∧ (i = k → (portQ n (joinL ws k)).getD i 0 = (portQ n ws).getD k 0 + (portQ n ws).getD (k + 1) 0) ∧ (k < i → (portQ n (joinL ws k)).getD i 0 = (portQ n ws).getD (i + 1) 0) := by
  have hz := joinL_zero h hk
  have hlen := joinL_length hk
  obtain ⟨u1, u2⟩ := joinL_upTo (n := n) hk
  rw [portQ_get hz hi]
  refine ⟨fun hl => ?_, fun he => ?_, fun hg => ?_⟩
  · rw [portQ_get h (by omega), u1 _ (by omega), u1 _ (by omega)]
  · subst he
    rw [portQ_get h (by omega), portQ_get h hk, u1 _ (Nat.le_refl _), u2 _ (by omega)]
    omega
  · rw [portQ_get h (by omega), u2 _ hg, u2 _ (by omega)]
end Go.Proofs.Ytdnppmncmnmckaa
