/-
  units: simplest, Simplest. units: Simplest.
-/
import Derived.Test.YtlpdbjkpgfpjjaaGreatFrac
namespace Go.Proofs.YtlpdbjkpgfpjjaaGreat
set_option linter.unusedSimpArgs false
set_option linter.unusedVariables false
open Go.RowKit

/-! ### A number over a divisor, rounded down -/
theorem mulDivQ_floor {a c : Int} (a0 : -1000000000000000 ≤ a) (a1 : a ≤ 1000000000000000) (c0 : 1 ≤ c) (c1 : c ≤ 1000000000000000) : mulDivQ a 1 c 1 = (a / c, a % c, 0) := by
  have hc : isDiv c = true := by simp [isDiv, c0, c1]
  have hA : (allIn 1000000000000000 [a, 1] && isDiv c) = true := by rw [hc, Bool.and_true, allIn_two]; omega
  have hq : a / c ≤ 1000000000000000 ∧ -1000000000000000 ≤ a / c := by
    constructor
    · have : a / c < 1000000000000001 := Int.ediv_lt_of_lt_mul (by omega) (by omega)
      omega
    · exact Int.le_ediv_of_mul_le (by omega) (by omega)
  have hf : floorQ (a * 1) c = (a / c, a % c, true) := by
    rw [Int.mul_one]
    unfold floorQ
    split
    · rw [if_pos hq.1]
    · rename_i h
      have : (-a - 1) / c < 1000000000000000 := Int.ediv_lt_of_lt_mul (by omega) (by omega)
      rw [if_pos (by omega)]
  have hd : divQ (a * 1) c 1 = (a / c, a % c, true) := by
    unfold divQ
    rw [hf, if_neg (by simp), if_neg (by simp [upQ])]
    have : allIn 1000000000000000 [a / c] = true := by simp [allIn, hq]
    rw [this]
  unfold mulDivQ
  rw [if_neg (by decide), hA, if_neg (by simp), hd, if_neg (by simp)]
theorem mulDiv_floor (a c : Int) (w : World) (a0 : -1000000000000000 ≤ a) (a1 : a ≤ 1000000000000000) (c0 : 1 ≤ c) (c1 : c ≤ 1000000000000000) :
    Calls Tryz.prog 49 #[.int .i64 a, .int .i64 1, .int .i64 c, .int .u8 1] w fun e w' => e = .returned (.tuple #[.int .i64 (a / c), .int .i64 (a % c), .int .i64 0]) ∧ Below w.heap.size w w' := by
  have := mulDiv_any a 1 c 1 w
  rwa [mulDivQ_floor a0 a1 c0 c1] at this

/-! ### The simplest fraction between two -/
def simpQ : Nat → Int → Int → Int → Int → Int × Int
  | 0, _, _, _, _ => (0, 1)
  | k + 1, an, ad, bn, bd =>
    if an % ad = 0 then (an / ad, 1)
    else if an / ad < bn / bd then (an / ad + 1, 1)
    else (an / ad * (simpQ k bd (bn % bd) ad (an % ad)).1 + (simpQ k bd (bn % bd) ad (an % ad)).2, (simpQ k bd (bn % bd) ad (an % ad)).1)

/-- What the next round is called with, if both whole parts are the same. -/
theorem simp_next {an ad bn bd : Int} (ha : 1 ≤ ad) (hb : 1 ≤ bd) (h : an * bd ≤ bn * ad) (hr : ¬ an % ad = 0) (hw : ¬ an / ad < bn / bd) :
    1 ≤ an % ad ∧ an % ad < ad ∧ 1 ≤ bn % bd ∧ bn % bd < bd ∧ an / ad = bn / bd ∧ bd * (an % ad) ≤ ad * (bn % bd) := by
  have r0 := Int.emod_nonneg an (show ad ≠ 0 by omega)
  have r1 := Int.emod_lt_of_pos an (show 0 < ad by omega)
  have s0 := Int.emod_nonneg bn (show bd ≠ 0 by omega)
  have s1 := Int.emod_lt_of_pos bn (show 0 < bd by omega)
  have ea := Int.mul_ediv_add_emod an ad
  have eb := Int.mul_ediv_add_emod bn bd
  have hle : an / ad ≤ bn / bd := by
    rw [Int.le_ediv_iff_mul_le (by omega)]
    have h1 : an / ad * ad ≤ an := by rw [Int.mul_comm]; omega
    have h2 : an / ad * ad * bd ≤ an * bd := Int.mul_le_mul_of_nonneg_right h1 (by omega)
    have h3 : an / ad * bd * ad ≤ bn * ad := by rw [Int.mul_right_comm]; omega
    exact Int.le_of_mul_le_mul_right h3 (by omega)
  have he : an / ad = bn / bd := by omega
  have key : bd * (an % ad) ≤ ad * (bn % bd) := by
    have e1 : an * bd = ad * bd * (an / ad) + bd * (an % ad) := by
      conv => lhs; rw [← ea]
      rw [Int.add_mul, Int.mul_right_comm, Int.mul_comm (an % ad)]
    have e2 : bn * ad = ad * bd * (bn / bd) + ad * (bn % bd) := by
      conv => lhs; rw [← eb]
      rw [Int.add_mul, Int.mul_comm (bn % bd), Int.mul_right_comm, Int.mul_comm bd ad]
    rw [e1, e2, he] at h
    omega
  refine ⟨by omega, r1, ?_, s1, he, key⟩
  rcases Int.lt_or_le 0 (bn % bd) with h0 | h0
  · omega
  · have : bn % bd = 0 := by omega
    rw [this, Int.mul_zero] at key
    have : 0 < bd * (an % ad) := Int.mul_pos (by omega) (by omega)
    omega

/-- The result lies between the two fractions; its divisor is no greater than theirs; from 0 on its number is no greater than theirs. -/
theorem simpQ_bounds : ∀ (k : Nat) (an ad bn bd : Int), 1 ≤ ad → 1 ≤ bd → an * bd ≤ bn * ad → ad + bd ≤ k →
    (1 ≤ (simpQ k an ad bn bd).2 ∧ (simpQ k an ad bn bd).2 ≤ ad ∧ (simpQ k an ad bn bd).2 ≤ bd) ∧ (an * (simpQ k an ad bn bd).2 ≤ (simpQ k an ad bn bd).1 * ad ∧ (simpQ k an ad bn bd).1 * bd ≤ bn * (simpQ k an ad bn bd).2) ∧
    (0 ≤ an → (simpQ k an ad bn bd).1 ≤ an ∧ (simpQ k an ad bn bd).1 ≤ bn) := by
  intro k
  induction k with
  | zero => intro an ad bn bd ha hb h hk; omega
  | succ k ih =>
    intro an ad bn bd ha hb h hk
    unfold simpQ
    have ea := Int.mul_ediv_add_emod an ad
    have eb := Int.mul_ediv_add_emod bn bd
    have s0 := Int.emod_nonneg bn (show bd ≠ 0 by omega)
    have hwa : 0 ≤ an → 0 ≤ an / ad := fun h => Int.ediv_nonneg h (by omega)
    have hwb : 0 ≤ bn / bd → bn / bd ≤ bn := fun h0 => by
      have := Int.mul_le_mul_of_nonneg_right hb h0
      omega
    have hwa' : 0 ≤ an → an / ad ≤ ad * (an / ad) := fun h0 => by
      have := Int.mul_le_mul_of_nonneg_right ha (hwa h0)
      omega
    by_cases hr : an % ad = 0
    · rw [if_pos hr]
      simp only
      rw [hr] at ea
      have e : an / ad * bd * ad = an * bd := by rw [Int.mul_right_comm, Int.mul_comm (an / ad) ad, show ad * (an / ad) = an by omega]
      have h5 : an / ad * bd ≤ bn := Int.le_of_mul_le_mul_right (by rw [e]; exact h) (show 0 < ad by omega)
      refine ⟨⟨by omega, ha, hb⟩, ⟨by rw [Int.mul_one, Int.mul_comm]; omega, by omega⟩, fun h0 => ?_⟩
      have := hwa' h0
      have h6 : an / ad ≤ bn / bd := (Int.le_ediv_iff_mul_le (show 0 < bd by omega)).2 h5
      have := hwb (by have := hwa h0; omega)
      omega
    · rw [if_neg hr]
      have r0 := Int.emod_nonneg an (show ad ≠ 0 by omega)
      have r1 := Int.emod_lt_of_pos an (show 0 < ad by omega)
      by_cases hw : an / ad < bn / bd
      · rw [if_pos hw]
        simp only
        have h1 : (an / ad + 1) * bd ≤ bn := (Int.le_ediv_iff_mul_le (show 0 < bd by omega)).1 (show an / ad + 1 ≤ bn / bd by omega)
        refine ⟨⟨by omega, ha, hb⟩, ⟨?_, by omega⟩, fun h0 => ?_⟩
        · rw [Int.add_mul, Int.mul_comm (an / ad)]; omega
        · have := hwa' h0
          have := hwb (by have := hwa h0; omega)
          omega
      · rw [if_neg hw]
        simp only
        obtain ⟨n1, n2, n3, n4, n5, n6⟩ := simp_next ha hb h hr hw
        obtain ⟨⟨b1, b2, b3⟩, ⟨b4, b5⟩, b6⟩ := ih bd (bn % bd) ad (an % ad) n3 n1 n6 (by omega)
        obtain ⟨hpb, hpa⟩ := b6 (by omega)
        generalize (simpQ k bd (bn % bd) ad (an % ad)).1 = p at *
        generalize (simpQ k bd (bn % bd) ad (an % ad)).2 = q at *
        have hp1 : bd ≤ bd * q := by
          have := Int.mul_le_mul_of_nonneg_left b1 (show 0 ≤ bd by omega)
          omega
        have hp0 : 1 ≤ p := by
          rcases Int.lt_or_le 0 p with h0 | h0
          · omega
          · have : p * (bn % bd) ≤ 0 := Int.mul_nonpos_of_nonpos_of_nonneg h0 (by omega)
            omega
        refine ⟨⟨hp0, hpa, hpb⟩, ⟨?_, ?_⟩, fun h0 => ?_⟩
        · have : an * p = ad * (an / ad * p) + p * (an % ad) := by
            conv => lhs; rw [← ea]
            rw [Int.add_mul, Int.mul_assoc, Int.mul_comm (an % ad)]
          rw [this, Int.add_mul, Int.mul_comm _ ad, Int.mul_comm q ad]
          omega
        · have : bn * p = bd * (an / ad * p) + p * (bn % bd) := by
            conv => lhs; rw [← eb]
            rw [Int.add_mul, Int.mul_assoc, Int.mul_comm (bn % bd), n5]
          rw [this, Int.add_mul, Int.mul_comm _ bd, Int.mul_comm q bd]
          omega
        · have y0 := hwa h0
          have y1 := Int.mul_le_mul_of_nonneg_left hpa y0
          have y2 := Int.mul_le_mul_of_nonneg_left hpb y0
          rw [Int.mul_comm (an / ad) ad] at y1
          rw [Int.mul_comm (an / ad) bd] at y2
          have y3 : bd * (an / ad) = bd * (bn / bd) := by rw [n5]
          omega

/-- No product or sum of 'simplest' wraps around. -/
theorem simp_wrap {an ad p q : Int} (a0 : -1000000000000000 ≤ an) (a1 : an ≤ 1000000000000000) (d0 : 1 ≤ ad) (d1 : ad ≤ 1000000000000000) (p0 : 1 ≤ p) (p1 : p ≤ ad) (q1 : q ≤ ad) (q0 : 1 ≤ q) :
    -4000000000000000 ≤ an / ad * p ∧ an / ad * p ≤ 4000000000000000 := by
  have ea := Int.mul_ediv_add_emod an ad
  have r0 := Int.emod_nonneg an (show ad ≠ 0 by omega)
  have r1 := Int.emod_lt_of_pos an (show 0 < ad by omega)
  rcases Int.lt_or_le (an / ad) 0 with h | h
  · have y1 := Int.mul_le_mul_of_nonpos_left (show an / ad ≤ 0 by omega) p1
    have y2 : an / ad * p ≤ 0 := Int.mul_nonpos_of_nonpos_of_nonneg (by omega) (by omega)
    rw [Int.mul_comm (an / ad) ad] at y1
    omega
  · have y1 := Int.mul_le_mul_of_nonneg_left p1 h
    have y2 : 0 ≤ an / ad * p := Int.mul_nonneg h (by omega)
    rw [Int.mul_comm (an / ad) ad] at y1
    omega

/-- Two cells that were stored. -/
theorem two_set {w : World} {n : Nat} {x y v0 v1 : Value} (h0 : w.cell? ⟨n, 0, none⟩ = some v0) (h1 : w.cell? ⟨n, 1, none⟩ = some v1) :
    ((w.setCell ⟨n, 0, none⟩ x).setCell ⟨n, 1, none⟩ y).cell? ⟨n, 0, none⟩ = some x ∧ ((w.setCell ⟨n, 0, none⟩ x).setCell ⟨n, 1, none⟩ y).cell? ⟨n, 1, none⟩ = some y := by
  constructor <;> simp [go_sem, h0, h1]

end Go.Proofs.YtlpdbjkpgfpjjaaGreat

namespace Go.Proofs.YtlpdbjkpgfpjjaaGreat
set_option linter.unusedSimpArgs false
set_option linter.unusedVariables false
open Go.RowKit

theorem sgn3_le {x y : Int} : decide (sgn3 x y ≤ 0) = decide (x ≤ y) := by
  unfold sgn3
  by_cases h : x < y
  · rw [if_pos h]; simp; omega
  · rw [if_neg h]
    by_cases h2 : x = y
    · rw [if_pos h2]; simp; omega
    · rw [if_neg h2]; simp; omega

/-- The conditions of Simplest come to E. -/
def SimpCond (an ad bn bd E : Int) (k1 k2 : Bool) : Prop := [(an, ad), (bn, bd)].all fracOk = k1 ∧ (k1 = true → frac2Ok an ad bn bd = true ∧ decide (an * bd ≤ bn * ad) = k2) ∧ ∀ f g c d, firstE [⟨2, f, c, k1⟩, ⟨2, g, d, k2⟩] = E

/-- The results of Simplest (k: a bound on the rounds). -/
def simplestQ (k : Nat) (an ad bn bd : Int) : (Int × Int) × Int :=
  if (frac2Ok an ad bn bd && decide (an * bd ≤ bn * ad)) = true then (simpQ k an ad bn bd, 0) else ((0, 0), 2)

end Go.Proofs.YtlpdbjkpgfpjjaaGreat
