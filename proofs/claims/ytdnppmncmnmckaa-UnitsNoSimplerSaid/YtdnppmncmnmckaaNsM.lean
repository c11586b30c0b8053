/-
  UnitsNoSimpler: the numbers that the statement compares.
-/
import Derived.Test.YtdnppmncmnmckaaDvs
import Derived.Test.YtdnppmncmnmckaaOrdW
import Derived.Test.YtdnppmncmnmckaaBox
namespace Go.Proofs.Ytdnppmncmnmckaa
set_option linter.unusedSimpArgs false
set_option linter.unusedVariables false

theorem nsK {a b : Int} (h1 : 1 ≤ a) (h2 : 1 ≤ b) : a + b ≤ ((a + b).toNat : Nat) := by omega

/-- The simplest fraction's numerator is a number. -/
theorem simp_num {an ad bn bd P D : Int} (a0 : -1000000000000000 ≤ an) (b1 : bn ≤ 1000000000000000) (ad0 : 1 ≤ ad) (bd0 : 1 ≤ bd) (D0 : 1 ≤ D) (D1 : D ≤ ad) (D2 : D ≤ bd) (h1 : an * D ≤ P * ad) (h2 : P * bd ≤ bn * D) :
    -1000000000000000 ≤ P ∧ P ≤ 1000000000000000 := by
  constructor
  · rcases Int.le_total 0 an with h | h
    · have k1 : 0 ≤ an * D := Int.mul_nonneg h (by omega)
      have k2 : 0 ≤ P := by
        rcases Int.lt_or_le P 0 with h3 | h3
        · have := Int.mul_neg_of_neg_of_pos h3 (show 0 < ad by omega)
          omega
        · exact h3
      omega
    · have k1 : an * ad ≤ an * D := Int.mul_le_mul_of_nonpos_left h D1
      have := Int.le_of_mul_le_mul_right (show an * ad ≤ P * ad by omega) (by omega)
      omega
  · rcases Int.le_total bn 0 with h | h
    · have k1 : bn * D ≤ 0 := Int.mul_nonpos_of_nonpos_of_nonneg h (by omega)
      rcases Int.lt_or_le 0 P with h3 | h3
      · have := Int.mul_pos h3 (show 0 < bd by omega)
        omega
      · omega
    · have k1 : bn * D ≤ bn * bd := Int.mul_le_mul_of_nonneg_left D2 h
      have := Int.le_of_mul_le_mul_right (show P * bd ≤ bn * bd by omega) (by omega)
      omega
/-- A quotient by more than the factor is a number. -/
theorem up_num {an ad d : Int} (a0 : -1000000000000000 ≤ an) (a1 : an ≤ 1000000000000000) (ad0 : 1 ≤ ad) (d0 : 1 ≤ d) (d1 : d ≤ ad) : -1000000000000000 ≤ an * d / ad ∧ upV (an * d) ad ≤ 1000000000000000 := by
  have e := Int.mul_ediv_add_emod (an * d) ad
  have r0 := Int.emod_nonneg (an * d) (show ad ≠ 0 by omega)
  have r1 := Int.emod_lt_of_pos (an * d) (show 0 < ad by omega)
  unfold upV
  generalize an * d / ad = q at *
  generalize an * d % ad = r at *
  rcases Int.le_total 0 an with h | h
  · have k1 : an * d ≤ an * ad := Int.mul_le_mul_of_nonneg_left d1 h
    have k0 : 0 ≤ an * d := Int.mul_nonneg h (by omega)
    have q0 : 0 ≤ q := by
      rcases Int.lt_or_le q 0 with h3 | h3
      · have := Int.mul_le_mul_of_nonneg_left (show q ≤ -1 by omega) (show 0 ≤ ad by omega)
        omega
      · exact h3
    refine ⟨by omega, ?_⟩
    split
    · have : ad * q < ad * an := by rw [Int.mul_comm ad an]; omega
      have := Int.lt_of_mul_lt_mul_left this (by omega)
      omega
    · have : ad * q ≤ ad * an := by rw [Int.mul_comm ad an]; omega
      have := Int.le_of_mul_le_mul_left this (by omega)
      omega
  · have k1 : an * ad ≤ an * d := Int.mul_le_mul_of_nonpos_left h d1
    have k0 : an * d ≤ 0 := Int.mul_nonpos_of_nonpos_of_nonneg h (by omega)
    constructor
    · have : ad * an < ad * (q + 1) := by rw [Int.mul_comm ad an, Int.mul_add, Int.mul_one]; omega
      have := Int.lt_of_mul_lt_mul_left this (by omega)
      omega
    · have : q ≤ 0 := by
        rcases Int.lt_or_le 0 q with h3 | h3
        · have := Int.mul_pos (show 0 < ad by omega) h3
          omega
        · exact h3
      split <;> omega
/-- What is rounded up is not below the quotient. -/
theorem up_above {N c : Int} (c0 : 1 ≤ c) : N ≤ upV N c * c := by
  have e := Int.mul_ediv_add_emod N c
  have r0 := Int.emod_nonneg N (show c ≠ 0 by omega)
  have r1 := Int.emod_lt_of_pos N (show 0 < c by omega)
  unfold upV
  rw [Int.add_mul, Int.mul_comm (N / c) c]
  split <;> omega
theorem mulDivQ_up {a b c : Int} (h2 : (allIn 1000000000000000 [a, b] && isDiv c) = true) (c0 : 1 ≤ c) (l0 : -1000000000000000 ≤ a * b / c) (u0 : upV (a * b) c ≤ 1000000000000000) :
    ∃ r, mulDivQ a b c 2 = (upV (a * b) c, r, 0) := by
  have e : a * b / c + (if upQ 2 (a * b / c) (a * b % c) c = true then 1 else 0) = upV (a * b) c := by rw [upQ2]; unfold upV; simp
  have l1 := (upV_le (N := a * b) (c := c)).1
  rw [mulDivQ_valid rfl h2 c0, e, if_pos (allIn_one.2 (by omega))]
  exact ⟨_, rfl⟩

end Go.Proofs.Ytdnppmncmnmckaa
