/-
  The simplest fraction has the least divisor of all between the two (for UnitsNoSimpler).
-/
import Derived.Test.YtdnppmncmnmckaaSimpC
namespace Go.Proofs.Ytdnppmncmnmckaa
set_option linter.unusedSimpArgs false
set_option linter.unusedVariables false

theorem simpQ_least : ∀ (k : Nat) (an ad bn bd : Int), 1 ≤ ad → 1 ≤ bd → an * bd ≤ bn * ad → ad + bd ≤ k → ∀ n d : Int, 1 ≤ d → an * d ≤ n * ad → n * bd ≤ bn * d →
    (simpQ k an ad bn bd).2 ≤ d ∧ (1 ≤ an → (simpQ k an ad bn bd).1 ≤ n) := by
  intro k
  induction k with
  | zero => intro an ad bn bd h1 h2 _ h4; omega
  | succ k ih =>
    intro an ad bn bd ha hb h hk n d hd h1 h2
    have ea := Int.mul_ediv_add_emod an ad
    have eb := Int.mul_ediv_add_emod bn bd
    have r0 := Int.emod_nonneg an (show ad ≠ 0 by omega)
    have wn : 1 ≤ an → 0 ≤ an / ad := fun h => Int.ediv_nonneg (by omega) (by omega)
    have NX := fun hr hw => simp_next ha hb h hr hw
    have IH := ih bd (bn % bd) ad (an % ad)
    unfold simpQ
    generalize simpQ k bd (bn % bd) ad (an % ad) = f at *
    generalize an / ad = W at *
    generalize an % ad = r at *
    generalize bn % bd = s at *
    have k1 : ad * (W * d) + r * d ≤ ad * n := by
      have : an * d = ad * (W * d) + r * d := by rw [← ea, Int.add_mul, Int.mul_assoc]
      rw [← this, Int.mul_comm ad n]; exact h1
    have wd : 1 ≤ an → W ≤ W * d := fun h => by
      have := Int.mul_le_mul_of_nonneg_left hd (wn h)
      omega
    have rd : 0 ≤ r * d := Int.mul_nonneg r0 (by omega)
    split
    · refine ⟨hd, fun h => ?_⟩
      have k2 : W * d ≤ n := Int.le_of_mul_le_mul_left (show ad * (W * d) ≤ ad * n by omega) (by omega)
      have := wd h
      simp only
      omega
    · rename_i hr
      have rd1 : 0 < r * d := Int.mul_pos (by omega) (by omega)
      have k2 : W * d < n := Int.lt_of_mul_lt_mul_left (show ad * (W * d) < ad * n by omega) (by omega)
      split
      · refine ⟨hd, fun h => ?_⟩
        have := wd h
        simp only
        omega
      · rename_i hw
        obtain ⟨n1, n2, n3, n4, n5, n6⟩ := NX hr hw
        rw [← n5] at eb
        have k3 : bd * n ≤ bd * (W * d) + s * d := by
          have : bn * d = bd * (W * d) + s * d := by rw [← eb, Int.add_mul, Int.mul_assoc]
          rw [← this, Int.mul_comm bd n]; exact h2
        obtain ⟨g1, g2⟩ := IH n3 n1 n6 (by omega) d (n - W * d) (by omega)
          (by rw [Int.mul_sub, Int.mul_comm d s]; omega)
          (by rw [Int.mul_sub, Int.mul_comm d r]; omega)
        have g3 := g2 hb
        refine ⟨g3, fun h => ?_⟩
        have := Int.mul_le_mul_of_nonneg_left g3 (wn h)
        simp only
        omega
/-- It has no common divisor. -/
theorem simpQ_coprime {k : Nat} {an ad bn bd g x y : Int} (ha : 1 ≤ ad) (hb : 1 ≤ bd) (h : an * bd ≤ bn * ad) (hk : ad + bd ≤ k) (hg : 1 ≤ g) (hx : (simpQ k an ad bn bd).1 = x * g) (hy : (simpQ k an ad bn bd).2 = y * g) : g = 1 := by
  obtain ⟨⟨b1, _, _⟩, ⟨b2, b3⟩, _⟩ := simpQ_bounds k an ad bn bd ha hb h hk
  have y1 : 1 ≤ y := by
    rcases Int.lt_or_le 0 y with h0 | h0
    · omega
    · have := Int.mul_nonpos_of_nonpos_of_nonneg h0 (show 0 ≤ g by omega)
      omega
  rw [hx, hy] at b2 b3
  have c1 : an * y ≤ x * ad := by
    refine Int.le_of_mul_le_mul_right (a := g) ?_ (by omega)
    rw [Int.mul_assoc, Int.mul_right_comm]; exact b2
  have c2 : x * bd ≤ bn * y := by
    refine Int.le_of_mul_le_mul_right (a := g) ?_ (by omega)
    rw [Int.mul_right_comm, Int.mul_assoc bn]; exact b3
  have m := (simpQ_least k an ad bn bd ha hb h hk x y y1 c1 c2).1
  rw [hy] at m
  rcases Int.lt_or_le 1 g with h0 | h0
  · have := Int.mul_lt_mul_of_pos_left h0 (show 0 < y by omega)
    omega
  · omega
end Go.Proofs.Ytdnppmncmnmckaa
