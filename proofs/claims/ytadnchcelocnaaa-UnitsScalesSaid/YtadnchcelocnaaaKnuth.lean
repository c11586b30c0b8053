/-
  THE PLAIN ARITHMETIC: long division of two words, in natural numbers. No Go here.
-/
namespace Go.Proofs.Ytadnchcelocnaaa.Bm
set_option linter.unusedSimpArgs false
set_option linter.unusedVariables false
/-- one digit of Knuth's division: what a round of the correcting loop keeps. -/
def KInv (u u1 yn1 yn0 q r : Nat) : Prop :=
  (u * 4294967296 + u1) / (yn1 * 4294967296 + yn0) ≤ q ∧ q * yn1 + r = u ∧ r < 4294967296 ∧ q ≤ 4294967297

theorem kinit {u u1 yn1 yn0 : Nat} (h1 : 2147483648 ≤ yn1) (h2 : yn1 < 4294967296) (h3 : yn0 < 4294967296)
    (hu : u < yn1 * 4294967296 + yn0) (hu1 : u1 < 4294967296) : KInv u u1 yn1 yn0 (u / yn1) (u % yn1) := by
  have e := Nat.div_add_mod u yn1
  have hm := Nat.mod_lt u (show 0 < yn1 by omega)
  have e' : u / yn1 * yn1 + u % yn1 = u := by rw [Nat.mul_comm]; exact e
  refine ⟨?_, e', by omega, ?_⟩
  · -- Q ≤ u / yn1
    have : (u * 4294967296 + u1) / (yn1 * 4294967296 + yn0) < u / yn1 + 1 := by
      rw [Nat.div_lt_iff_lt_mul (by omega)]
      have h : u < (u / yn1 + 1) * yn1 := by rw [Nat.add_mul]; omega
      have : (u / yn1 + 1) * (yn1 * 4294967296 + yn0) = (u / yn1 + 1) * yn1 * 4294967296 + (u / yn1 + 1) * yn0 := by
        rw [Nat.mul_add, Nat.mul_assoc]
      rw [this]; omega
    omega
  · have : u / yn1 < 4294967298 := by
      rw [Nat.div_lt_iff_lt_mul (by omega)]
      omega
    omega

theorem kdown {u u1 yn1 yn0 q r : Nat} (hu : u < yn1 * 4294967296 + yn0) (hu1 : u1 < 4294967296)
    (h : KInv u u1 yn1 yn0 q r) (hc : 4294967296 ≤ q ∨ 4294967296 * r + u1 < q * yn0) :
    1 ≤ q ∧ (u * 4294967296 + u1) / (yn1 * 4294967296 + yn0) ≤ q - 1 ∧ (q - 1) * yn1 + (r + yn1) = u := by
  obtain ⟨hq, he, hr, hl⟩ := h
  have hq1 : 1 ≤ q := by
    rcases hc with h | h
    · omega
    · rcases Nat.eq_zero_or_pos q with h0 | h0
      · subst h0; simp at h
      · exact h0
  refine ⟨hq1, ?_, ?_⟩
  · rcases hc with h | h
    · have : (u * 4294967296 + u1) / (yn1 * 4294967296 + yn0) < 4294967296 := by
        rw [Nat.div_lt_iff_lt_mul (by omega)]; omega
      omega
    · have : (u * 4294967296 + u1) / (yn1 * 4294967296 + yn0) < q := by
        rw [Nat.div_lt_iff_lt_mul (by omega)]
        have : q * (yn1 * 4294967296 + yn0) = q * yn1 * 4294967296 + q * yn0 := by rw [Nat.mul_add, Nat.mul_assoc]
        rw [this]; omega
      omega
  · obtain ⟨k, rfl⟩ : ∃ k, q = k + 1 := ⟨q - 1, by omega⟩
    rw [Nat.add_mul] at he
    simp; omega

theorem kstop {u u1 yn1 yn0 q r : Nat} (h1 : 2147483648 ≤ yn1)
    (h : KInv u u1 yn1 yn0 q r) (hc : q * yn0 ≤ 4294967296 * r + u1) :
    q = (u * 4294967296 + u1) / (yn1 * 4294967296 + yn0) := by
  obtain ⟨hq, he, hr, hl⟩ := h
  refine Nat.le_antisymm ?_ hq
  rw [Nat.le_div_iff_mul_le (by omega)]
  have : q * (yn1 * 4294967296 + yn0) = q * yn1 * 4294967296 + q * yn0 := by rw [Nat.mul_add, Nat.mul_assoc]
  rw [this]; omega

theorem kbreak {u u1 yn1 yn0 q r : Nat} (h1 : 2147483648 ≤ yn1) (h3 : yn0 < 4294967296)
    (hq : (u * 4294967296 + u1) / (yn1 * 4294967296 + yn0) ≤ q) (he : q * yn1 + r = u) (hr : 4294967296 ≤ r) (hl : q ≤ 4294967296) :
    q = (u * 4294967296 + u1) / (yn1 * 4294967296 + yn0) := by
  refine Nat.le_antisymm ?_ hq
  rw [Nat.le_div_iff_mul_le (by omega)]
  have : q * (yn1 * 4294967296 + yn0) = q * yn1 * 4294967296 + q * yn0 := by rw [Nat.mul_add, Nat.mul_assoc]
  rw [this]
  have : q * yn0 ≤ 4294967296 * 4294967295 := Nat.mul_le_mul hl (by omega)
  omega
end Go.Proofs.Ytadnchcelocnaaa.Bm
