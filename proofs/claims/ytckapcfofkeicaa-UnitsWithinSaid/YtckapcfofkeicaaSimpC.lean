/-
  units: simplest, Simplest. units: Simplest.
-/
import Derived.Test.YtckapcfofkeicaaFrac
namespace Go.Proofs.Ytckapcfofkeicaa
set_option linter.unusedSimpArgs false
set_option linter.unusedVariables false
open Go.RowKit

/-! ### A number over a divisor, rounded down -/
theorem mulDivQ_floor {a c : Int} (a0 : -1000000000000000 ≤ a) (a1 : a ≤ 1000000000000000) (c0 : 1 ≤ c) (c1 : c ≤ 1000000000000000) : mulDivQ a 1 c 1 = (a / c, a % c, 0) := by
  have hc : isDiv c = true := by simp [isDiv, c0, c1]
  have hA : (allIn 1000000000000000 [a, 1] && isDiv c) = true := by rw [hc, Bool.and_true, allIn_two]; omega
  have hq : a / c ≤ 1000000000000000 ∧ -1000000000000000 ≤ a / c := by
    constructor
    · have : a / c < 1000000000000001 := Int.ediv_lt_of_lt_mul (by omega) (by omega)
      omega
    · exact Int.le_ediv_of_mul_le (by omega) (by omega)
  have hf : floorQ (a * 1) c = (a / c, a % c, true) := by
    rw [Int.mul_one]
    unfold floorQ
    split
    · rw [if_pos hq.1]
    · rename_i h
      have : (-a - 1) / c < 1000000000000000 := Int.ediv_lt_of_lt_mul (by omega) (by omega)
      rw [if_pos (by omega)]
  have hd : divQ (a * 1) c 1 = (a / c, a % c, true) := by
    unfold divQ
    rw [hf, if_neg (by simp), if_neg (by simp [upQ])]
    have : allIn 1000000000000000 [a / c] = true := by simp [allIn, hq]
    rw [this]
  unfold mulDivQ
  rw [if_neg (by decide), hA, if_neg (by simp), hd, if_neg (by simp)]
theorem mulDiv_floor (a c : Int) (w : World) (a0 : -1000000000000000 ≤ a) (a1 : a ≤ 1000000000000000) (c0 : 1 ≤ c) (c1 : c ≤ 1000000000000000) :
    Calls Try.prog 20 #[.int .i64 a, .int .i64 1, .int .i64 c, .int .u8 1] w fun e w' => e = .returned (.tuple #[.int .i64 (a / c), .int .i64 (a % c), .int .i64 0]) ∧ Below w.heap.size w w' := by
  have := mulDiv_any a 1 c 1 w
  rwa [mulDivQ_floor a0 a1 c0 c1] at this

/-! ### The simplest fraction between two -/
def simpQ : Nat → Int → Int → Int → Int → Int × Int
  | 0, _, _, _, _ => (0, 1)
  | k + 1, an, ad, bn, bd =>
    if an % ad = 0 then (an / ad, 1)
    else if an / ad < bn / bd then (an / ad + 1, 1)
    else (an / ad * (simpQ k bd (bn % bd) ad (an % ad)).1 + (simpQ k bd (bn % bd) ad (an % ad)).2, (simpQ k bd (bn % bd) ad (an % ad)).1)

/-- What the next round is called with, if both whole parts are the same. -/
theorem simp_next {an ad bn bd : Int} (ha : 1 ≤ ad) (hb : 1 ≤ bd) (h : an * bd ≤ bn * ad) (hr : ¬ an % ad = 0) (hw : ¬ an / ad < bn / bd) :
    1 ≤ an % ad ∧ an % ad < ad ∧ 1 ≤ bn % bd ∧ bn % bd < bd ∧ an / ad = bn / bd ∧ bd * (an % ad) ≤ ad * (bn % bd) := by
  have r0 := Int.emod_nonneg an (show ad ≠ 0 by omega)
  have r1 := Int.emod_lt_of_pos an (show 0 < ad by omega)
  have s0 := Int.emod_nonneg bn (show bd ≠ 0 by omega)
  have s1 := Int.emod_lt_of_pos bn (show 0 < bd by omega)
  have ea := Int.mul_ediv_add_emod an ad
  have eb := Int.mul_ediv_add_emod bn bd
  have hle : an / ad ≤ bn / bd := by
    rw [Int.le_ediv_iff_mul_le (by omega)]
    have h1 : an / ad * ad ≤ an := by rw [Int.mul_comm]; omega
    have h2 : an / ad * ad * bd ≤ an * bd := Int.mul_le_mul_of_nonneg_right h1 (by omega)
    have h3 : an / ad * bd * ad ≤ bn * ad := by rw [Int.mul_right_comm]; omega
    exact Int.le_of_mul_le_mul_right h3 (by omega)
  have he : an / ad = bn / bd := by omega
  have key : bd * (an % ad) ≤ ad * (bn % bd) := by
    have e1 : an * bd = ad * bd * (an / ad) + bd * (an % ad) := by
      conv => lhs; rw [← ea]
      rw [Int.add_mul, Int.mul_right_comm, Int.mul_comm (an % ad)]
    have e2 : bn * ad = ad * bd * (bn / bd) + ad * (bn % bd) := by
      conv => lhs; rw [← eb]
      rw [Int.add_mul, Int.mul_comm (bn % bd), Int.mul_right_comm, Int.mul_comm bd ad]
    rw [e1, e2, he] at h
    omega
  refine ⟨by omega, r1, ?_, s1, he, key⟩
  rcases Int.lt_or_le 0 (bn % bd) with h0 | h0
  · omega
  · have : bn % bd = 0 := by omega
    rw [this, Int.mul_zero] at key
    have : 0 < bd * (an % ad) := Int.mul_pos (by omega) (by omega)
    omega

/-- The result lies between the two fractions; its divisor is no greater than theirs; from 0 on its number is no greater than theirs. -/
theorem simpQ_bounds : ∀ (k : Nat) (an ad bn bd : Int), 1 ≤ ad → 1 ≤ bd → an * bd ≤ bn * ad → ad + bd ≤ k →
    (1 ≤ (simpQ k an ad bn bd).2 ∧ (simpQ k an ad bn bd).2 ≤ ad ∧ (simpQ k an ad bn bd).2 ≤ bd) ∧ (an * (simpQ k an ad bn bd).2 ≤ (simpQ k an ad bn bd).1 * ad ∧ (simpQ k an ad bn bd).1 * bd ≤ bn * (simpQ k an ad bn bd).2) ∧
    (0 ≤ an → (simpQ k an ad bn bd).1 ≤ an ∧ (simpQ k an ad bn bd).1 ≤ bn) := by
  intro k
  induction k with
  | zero => intro an ad bn bd ha hb h hk; omega
  | succ k ih =>
    intro an ad bn bd ha hb h hk
    unfold simpQ
    have ea := Int.mul_ediv_add_emod an ad
    have eb := Int.mul_ediv_add_emod bn bd
    have s0 := Int.emod_nonneg bn (show bd ≠ 0 by omega)
    have hwa : 0 ≤ an → 0 ≤ an / ad := fun h => Int.ediv_nonneg h (by omega)
    have hwb : 0 ≤ bn / bd → bn / bd ≤ bn := fun h0 => by
      have := Int.mul_le_mul_of_nonneg_right hb h0
      omega
    have hwa' : 0 ≤ an → an / ad ≤ ad * (an / ad) := fun h0 => by
      have := Int.mul_le_mul_of_nonneg_right ha (hwa h0)
      omega
    by_cases hr : an % ad = 0
    · rw [if_pos hr]
      simp only
      rw [hr] at ea
      have e : an / ad * bd * ad = an * bd := by rw [Int.mul_right_comm, Int.mul_comm (an / ad) ad, show ad * (an / ad) = an by omega]
      have h5 : an / ad * bd ≤ bn := Int.le_of_mul_le_mul_right (by rw [e]; exact h) (show 0 < ad by omega)
      refine ⟨⟨by omega, ha, hb⟩, ⟨by rw [Int.mul_one, Int.mul_comm]; omega, by omega⟩, fun h0 => ?_⟩
      have := hwa' h0
      have h6 : an / ad ≤ bn / bd := (Int.le_ediv_iff_mul_le (show 0 < bd by omega)).2 h5
      have := hwb (by have := hwa h0; omega)
      omega
    · rw [if_neg hr]
      have r0 := Int.emod_nonneg an (show ad ≠ 0 by omega)
      have r1 := Int.emod_lt_of_pos an (show 0 < ad by omega)
      by_cases hw : an / ad < bn / bd
      · rw [if_pos hw]
        simp only
        have h1 : (an / ad + 1) * bd ≤ bn := (Int.le_ediv_iff_mul_le (show 0 < bd by omega)).1 (show an / ad + 1 ≤ bn / bd by omega)
        refine ⟨⟨by omega, ha, hb⟩, ⟨?_, by omega⟩, fun h0 => ?_⟩
        · rw [Int.add_mul, Int.mul_comm (an / ad)]; omega
        · have := hwa' h0
          have := hwb (by have := hwa h0; omega)
          omega
      · rw [if_neg hw]
        simp only
        obtain ⟨n1, n2, n3, n4, n5, n6⟩ := simp_next ha hb h hr hw
        obtain ⟨⟨b1, b2, b3⟩, ⟨b4, b5⟩, b6⟩ := ih bd (bn % bd) ad (an % ad) n3 n1 n6 (by omega)
        obtain ⟨hpb, hpa⟩ := b6 (by omega)
        generalize (simpQ k bd (bn % bd) ad (an % ad)).1 = p at *
        generalize (simpQ k bd (bn % bd) ad (an % ad)).2 = q at *
        have hp1 : bd ≤ bd * q := by
          have := Int.mul_le_mul_of_nonneg_left b1 (show 0 ≤ bd by omega)
          omega
        have hp0 : 1 ≤ p := by
          rcases Int.lt_or_le 0 p with h0 | h0
          · omega
          · have : p * (bn % bd) ≤ 0 := Int.mul_nonpos_of_nonpos_of_nonneg h0 (by omega)
            omega
        refine ⟨⟨hp0, hpa, hpb⟩, ⟨?_, ?_⟩, fun h0 => ?_⟩
        · have : an * p = ad * (an / ad * p) + p * (an % ad) := by
            conv => lhs; rw [← ea]
            rw [Int.add_mul, Int.mul_assoc, Int.mul_comm (an % ad)]
          rw [this, Int.add_mul, Int.mul_comm _ ad, Int.mul_comm q ad]
          omega
        · have : bn * p = bd * (an / ad * p) + p * (bn % bd) := by
            conv => lhs; rw [← eb]
            rw [Int.add_mul, Int.mul_assoc, Int.mul_comm (bn % bd), n5]
          rw [this, Int.add_mul, Int.mul_comm _ bd, Int.mul_comm q bd]
          omega
        · have y0 := hwa h0
          have y1 := Int.mul_le_mul_of_nonneg_left hpa y0
          have y2 := Int.mul_le_mul_of_nonneg_left hpb y0
          rw [Int.mul_comm (an / ad) ad] at y1
          rw [Int.mul_comm (an / ad) bd] at y2
          have y3 : bd * (an / ad) = bd * (bn / bd) := by rw [n5]
          omega

/-- No product or sum of 'simplest' wraps around. -/
theorem simp_wrap {an ad p q : Int} (a0 : -1000000000000000 ≤ an) (a1 : an ≤ 1000000000000000) (d0 : 1 ≤ ad) (d1 : ad ≤ 1000000000000000) (p0 : 1 ≤ p) (p1 : p ≤ ad) (q1 : q ≤ ad) (q0 : 1 ≤ q) :
    -4000000000000000 ≤ an / ad * p ∧ an / ad * p ≤ 4000000000000000 := by
  have ea := Int.mul_ediv_add_emod an ad
  have r0 := Int.emod_nonneg an (show ad ≠ 0 by omega)
  have r1 := Int.emod_lt_of_pos an (show 0 < ad by omega)
  rcases Int.lt_or_le (an / ad) 0 with h | h
  · have y1 := Int.mul_le_mul_of_nonpos_left (show an / ad ≤ 0 by omega) p1
    have y2 : an / ad * p ≤ 0 := Int.mul_nonpos_of_nonpos_of_nonneg (by omega) (by omega)
    rw [Int.mul_comm (an / ad) ad] at y1
    omega
  · have y1 := Int.mul_le_mul_of_nonneg_left p1 h
    have y2 : 0 ≤ an / ad * p := Int.mul_nonneg h (by omega)
    rw [Int.mul_comm (an / ad) ad] at y1
    omega

/-- Two cells that were stored. -/
theorem two_set {w : World} {n : Nat} {x y v0 v1 : Value} (h0 : w.cell? ⟨n, 0, none⟩ = some v0) (h1 : w.cell? ⟨n, 1, none⟩ = some v1) :
    ((w.setCell ⟨n, 0, none⟩ x).setCell ⟨n, 1, none⟩ y).cell? ⟨n, 0, none⟩ = some x ∧ ((w.setCell ⟨n, 0, none⟩ x).setCell ⟨n, 1, none⟩ y).cell? ⟨n, 1, none⟩ = some y := by
  constructor <;> simp [go_sem, h0, h1]

set_option maxHeartbeats 1600000 in
theorem simplest_any : ∀ (k : Nat) (an ad bn bd : Int) (w : World), -1000000000000000 ≤ an → an ≤ 1000000000000000 → 1 ≤ ad → ad ≤ 1000000000000000 → -1000000000000000 ≤ bn → bn ≤ 1000000000000000 → 1 ≤ bd → bd ≤ 1000000000000000 →
    Hid (an * bd ≤ bn * ad) → Hid (ad + bd ≤ k) →
    Calls Try.prog 113 #[.agg #[.int .i64 an, .int .i64 ad], .agg #[.int .i64 bn, .int .i64 bd]] w fun e w' => e = .returned (.agg #[.int .i64 (simpQ k an ad bn bd).1, .int .i64 (simpQ k an ad bn bd).2]) ∧ Below w.heap.size w w' := by
  intro k
  induction k with
  | zero => intro an ad bn bd w a0 a1 d0 d1 b0 b1 e0 e1 h hk; have := hk.out; omega
  | succ k ih =>
    intro an ad bn bd w a0 a1 d0 d1 b0 b1 e0 e1 h hk
    have ih := hide ih
    have M1 := hide fun w => mulDiv_floor an ad w a0 a1 d0 d1
    have M2 := hide fun w => mulDiv_floor bn bd w b0 b1 e0 e1
    by_cases hr : an % ad = 0
    · have E : Hid (simpQ (k + 1) an ad bn bd = (an / ad, 1)) := by unfold simpQ; rw [if_pos hr]; rfl
      rw [E.out]
      have hr' : (an % ad == 0) = true := by simpa using hr
      have e : Hid (an % ad = 0) := hr
      clear hr
      go_enter Try.func113, Try.ntmps113
      go_wp2_with fail
      refine (M1.out _).mono ?_
      rintro e w1 ⟨rfl, hb1⟩
      have c4 := later hb1 (a := ⟨w.heap.size + 1 + 1, 0, none⟩) (v := .int .i64 0) (by simp [go_sem, World.cell?_alloc_past])
      have c5 := later hb1 (a := ⟨w.heap.size + 1 + 1, 1, none⟩) (v := .int .i64 0) (by simp [go_sem, World.cell?_alloc_past])
      have f4 := free_later hb1 (a := ⟨w.heap.size + 1 + 1, 0, none⟩) (v := .int .i64 0) (by simp [go_sem, World.cell?_alloc_past]) (by simp [go_sem, World.cell?_alloc_past])
      have f5 := free_later hb1 (a := ⟨w.heap.size + 1 + 1, 1, none⟩) (v := .int .i64 0) (by simp [go_sem, World.cell?_alloc_past]) (by simp [go_sem, World.cell?_alloc_past])
      go_wp2_with fail
      exact bodyPost_ret (v := .agg #[.int .i64 (an / ad), .int .i64 1]) (by simp [results, Try.results113, go_sem, c4, c5]) rfl ⟨rfl, (by repeat (first | exact Below.refl _ _ | assumption | apply balloc | apply bdrew | (refine bset ?_ (by first | (simp; done) | omega | (simp; omega)) _) | (refine bnext ?_ (by assumption))))⟩
    · by_cases hw : an / ad < bn / bd
      · have E : Hid (simpQ (k + 1) an ad bn bd = (an / ad + 1, 1)) := by unfold simpQ; rw [if_neg hr, if_pos hw]; rfl
        rw [E.out]
        have hr' : (an % ad == 0) = false := by simpa using hr
        have hq := (show an / ad < 1000000000000001 from Int.ediv_lt_of_lt_mul (by omega) (by omega))
        have hq' : -1000000000000000 ≤ an / ad := Int.le_ediv_of_mul_le (by omega) (by omega)
        clear hr
        go_enter Try.func113, Try.ntmps113
        go_wp2_with fail
        refine (M1.out _).mono ?_
        rintro e w1 ⟨rfl, hb1⟩
        have c4 := later hb1 (a := ⟨w.heap.size + 1 + 1, 0, none⟩) (v := .int .i64 0) (by simp [go_sem, World.cell?_alloc_past])
        have c5 := later hb1 (a := ⟨w.heap.size + 1 + 1, 1, none⟩) (v := .int .i64 0) (by simp [go_sem, World.cell?_alloc_past])
        have f4 := free_later hb1 (a := ⟨w.heap.size + 1 + 1, 0, none⟩) (v := .int .i64 0) (by simp [go_sem, World.cell?_alloc_past]) (by simp [go_sem, World.cell?_alloc_past])
        have f5 := free_later hb1 (a := ⟨w.heap.size + 1 + 1, 1, none⟩) (v := .int .i64 0) (by simp [go_sem, World.cell?_alloc_past]) (by simp [go_sem, World.cell?_alloc_past])
        have q0 := later hb1 (a := ⟨w.heap.size, 1, none⟩) (v := .int .i64 ad) (by simp [go_sem, World.cell?_alloc_past])
        have q2 := later hb1 (a := ⟨w.heap.size + 1, 0, none⟩) (v := .int .i64 bn) (by simp [go_sem, World.cell?_alloc_past])
        have q3 := later hb1 (a := ⟨w.heap.size + 1, 1, none⟩) (v := .int .i64 bd) (by simp [go_sem, World.cell?_alloc_past])
        go_wp2_with fail
        refine (M2.out _).mono ?_
        rintro e w2 ⟨rfl, hb2⟩
        have c4' := later hb2 c4
        have c5' := later hb2 c5
        have f4' := free_later hb2 c4 f4
        have f5' := free_later hb2 c5 f5
        clear c4 c5 f4 f5
        go_wp2_with fail
        exact bodyPost_ret (v := .agg #[.int .i64 (an / ad + 1), .int .i64 1]) (by simp [results, Try.results113, go_sem, c4', c5']) rfl ⟨rfl, (by repeat (first | exact Below.refl _ _ | assumption | apply balloc | apply bdrew | (refine bset ?_ (by first | (simp; done) | omega | (simp; omega)) _) | (refine bnext ?_ (by assumption))))⟩
      · have E := hide (show simpQ (k + 1) an ad bn bd = (an / ad * (simpQ k bd (bn % bd) ad (an % ad)).1 + (simpQ k bd (bn % bd) ad (an % ad)).2, (simpQ k bd (bn % bd) ad (an % ad)).1) by rw [simpQ, if_neg hr, if_neg hw])
        rw [E.out]
        obtain ⟨n1, n2, n3, n4, n5, n6⟩ := simp_next d0 e0 h.out hr hw
        have hk' : (ad + bd : Int) ≤ ((k + 1 : Nat) : Int) := hk.out
        obtain ⟨⟨g1, g2, g3⟩, _, g6⟩ := simpQ_bounds k bd (bn % bd) ad (an % ad) n3 n1 n6 (by omega)
        obtain ⟨g4, g5⟩ := g6 (by omega)
        have R := fun w => ih.out bd (bn % bd) ad (an % ad) w (by omega) e1 n3 (by omega) (by omega) d1 n1 (by omega) n6 (show _ by unfold Hid; omega)
        have hp0 : 1 ≤ (simpQ k bd (bn % bd) ad (an % ad)).1 := by
          obtain ⟨_, ⟨t1, _⟩, _⟩ := simpQ_bounds k bd (bn % bd) ad (an % ad) n3 n1 n6 (by omega)
          rcases Int.lt_or_le 0 (simpQ k bd (bn % bd) ad (an % ad)).1 with h0 | h0
          · omega
          · have t2 : (simpQ k bd (bn % bd) ad (an % ad)).1 * (bn % bd) ≤ 0 := Int.mul_nonpos_of_nonpos_of_nonneg h0 (by omega)
            have t3 : 0 < bd * (simpQ k bd (bn % bd) ad (an % ad)).2 := Int.mul_pos (by omega) (by omega)
            omega
        clear E
        generalize (simpQ k bd (bn % bd) ad (an % ad)).1 = p at *
        generalize (simpQ k bd (bn % bd) ad (an % ad)).2 = q at *
        obtain ⟨v1, v2⟩ := simp_wrap (p := p) (q := q) a0 a1 d0 d1 hp0 g5 (by omega) g1
        have R' := hide R
        have hr' : (an % ad == 0) = false := by simpa using hr
        clear hr n5 n6 R hk'
        go_enter Try.func113, Try.ntmps113
        go_wp2_with fail
        refine (M1.out _).mono ?_
        rintro e w1 ⟨rfl, hb1⟩
        have c4 := later hb1 (a := ⟨w.heap.size + 1 + 1, 0, none⟩) (v := .int .i64 0) (by simp [go_sem, World.cell?_alloc_past])
        have c5 := later hb1 (a := ⟨w.heap.size + 1 + 1, 1, none⟩) (v := .int .i64 0) (by simp [go_sem, World.cell?_alloc_past])
        have f4 := free_later hb1 (a := ⟨w.heap.size + 1 + 1, 0, none⟩) (v := .int .i64 0) (by simp [go_sem, World.cell?_alloc_past]) (by simp [go_sem, World.cell?_alloc_past])
        have f5 := free_later hb1 (a := ⟨w.heap.size + 1 + 1, 1, none⟩) (v := .int .i64 0) (by simp [go_sem, World.cell?_alloc_past]) (by simp [go_sem, World.cell?_alloc_past])
        have q0 := later hb1 (a := ⟨w.heap.size, 1, none⟩) (v := .int .i64 ad) (by simp [go_sem, World.cell?_alloc_past])
        have q2 := later hb1 (a := ⟨w.heap.size + 1, 0, none⟩) (v := .int .i64 bn) (by simp [go_sem, World.cell?_alloc_past])
        have q3 := later hb1 (a := ⟨w.heap.size + 1, 1, none⟩) (v := .int .i64 bd) (by simp [go_sem, World.cell?_alloc_past])
        go_wp2_with fail
        refine (M2.out _).mono ?_
        rintro e w2 ⟨rfl, hb2⟩
        have c4' := later hb2 c4
        have c5' := later hb2 c5
        have f4' := free_later hb2 c4 f4
        have f5' := free_later hb2 c5 f5
        have q0' := later hb2 q0
        have q3' := later hb2 q3
        clear c4 c5 f4 f5 q0 q2 q3
        go_wp2_with fail
        refine (R'.out _).mono ?_
        rintro e w3 ⟨rfl, hb3⟩
        have c4 := later hb3 c4'
        have c5 := later hb3 c5'
        have f4 := free_later hb3 c4' f4'
        have f5 := free_later hb3 c5' f5'
        clear c4' c5' f4' f5' q0' q3'
        have z := World.block_lt_of_cell? _ _ c4
        simp only at z
        go_wp2_with fail
        have y := two_set (x := .int .i64 (an / ad * p + q)) (y := .int .i64 p) c4 c5
        have y0 := fun o => later (balloc (o := o) (Below.refl _ _)) y.1
        have y1 := fun o => later (balloc (o := o) (Below.refl _ _)) y.2
        exact bodyPost_ret (v := .agg #[.int .i64 (an / ad * p + q), .int .i64 p]) (by simp [results, Try.results113, go_sem, y0, y1]) rfl ⟨rfl, (by repeat (first | exact Below.refl _ _ | assumption | apply balloc | apply bdrew | (refine bset ?_ (by first | (simp; done) | omega | (simp; omega)) _) | (refine bnext ?_ (by assumption))))⟩
end Go.Proofs.Ytckapcfofkeicaa

namespace Go.Proofs.Ytckapcfofkeicaa
set_option linter.unusedSimpArgs false
set_option linter.unusedVariables false
open Go.RowKit

theorem sgn3_le {x y : Int} : decide (sgn3 x y ≤ 0) = decide (x ≤ y) := by
  unfold sgn3
  by_cases h : x < y
  · rw [if_pos h]; simp; omega
  · rw [if_neg h]
    by_cases h2 : x = y
    · rw [if_pos h2]; simp; omega
    · rw [if_neg h2]; simp; omega

set_option maxHeartbeats 400000 in
theorem simplest1_any (k : Bool) (an ad bn bd : Int) (p q : Nat) (w : World) (hk : decide (an * bd ≤ bn * ad) = k) (a0 : -1000000000000000 ≤ an) (a1 : an ≤ 1000000000000000) (a2 : -1000000000000000 ≤ ad) (a3 : ad ≤ 1000000000000000)
    (b0 : -1000000000000000 ≤ bn) (b1 : bn ≤ 1000000000000000) (b2 : -1000000000000000 ≤ bd) (b3 : bd ≤ 1000000000000000)
    (h0 : w.cell? ⟨p, 0, none⟩ = some (.int .i64 an)) (h1 : w.cell? ⟨p, 1, none⟩ = some (.int .i64 ad)) (h2 : w.cell? ⟨q, 0, none⟩ = some (.int .i64 bn)) (h3 : w.cell? ⟨q, 1, none⟩ = some (.int .i64 bd)) :
    Calls Try.prog 112 #[.pointer (some ⟨p, 0, none⟩), .pointer (some ⟨q, 0, none⟩)] w fun e w' => e = .returned (.bool k) ∧ Below w.heap.size w w' := by
  have C := hide fun w => compareFractions_any an ad bn bd w a0 a1 a2 a3 b0 b1 b2 b3
  rw [← sgn3_le] at hk
  have K := hide hk
  clear a0 a1 a2 a3 b0 b1 b2 b3 hk
  go_enter Try.func112, Try.ntmps112
  go_wp2_with (go_at_call 79; refine (C.out _).mono ?_; rintro e w' ⟨rfl, hb⟩)
  go_ret
  exact ⟨ret_bool K.out, (by repeat (first | exact Below.refl _ _ | assumption | apply balloc | apply bdrew | (refine bset ?_ (by first | (simp; done) | omega | (simp; omega)) _) | (refine bnext ?_ (by assumption))))⟩
theorem simplest_tells (k : Bool) (an ad bn bd : Int) (p q : Nat) (w : World) (hk : decide (an * bd ≤ bn * ad) = k) (B : frac2Ok an ad bn bd = true)
    (h0 : w.cell? ⟨p, 0, none⟩ = some (.int .i64 an)) (h1 : w.cell? ⟨p, 1, none⟩ = some (.int .i64 ad)) (h2 : w.cell? ⟨q, 0, none⟩ = some (.int .i64 bn)) (h3 : w.cell? ⟨q, 1, none⟩ = some (.int .i64 bd)) :
    Tells w 112 #[.pointer (some ⟨p, 0, none⟩), .pointer (some ⟨q, 0, none⟩)] k := by
  obtain ⟨⟨⟨a0, a1⟩, a2, a3⟩, ⟨b0, b1⟩, b2, b3⟩ := frac2_bounds B
  exact ⟨enters_any Try.func112 (by kernel_rfl) rfl _, fun W hW => simplest1_any k an ad bn bd p q W hk a0 a1 (by omega) a3 b0 b1 (by omega) b3 (later hW h0) (later hW h1) (later hW h2) (later hW h3)⟩

/-- The conditions of Simplest come to E. -/
def SimpCond (an ad bn bd E : Int) (k1 k2 : Bool) : Prop := [(an, ad), (bn, bd)].all fracOk = k1 ∧ (k1 = true → frac2Ok an ad bn bd = true ∧ decide (an * bd ≤ bn * ad) = k2) ∧ ∀ f g c d, firstE [⟨2, f, c, k1⟩, ⟨2, g, d, k2⟩] = E

set_option maxHeartbeats 800000 in
theorem simplestC_bad (an ad bn bd : Int) (k1 k2 : Bool) (w : World) (h : Hid (SimpCond an ad bn bd 2 k1 k2)) :
    Calls Try.prog 60 #[.agg #[.int .i64 an, .int .i64 ad], .agg #[.int .i64 bn, .int .i64 bd]] w fun e w' => e = .returned (.tuple #[.agg #[.int .i64 0, .int .i64 0], .int .i64 2]) ∧ Below w.heap.size w w' := by
  go_enter Try.func60, Try.ntmps60
  go_wp2_with (first | (go_at_call 78; refine (validFractions_any _ _ _ _).mono ?_; rintro e w' ⟨rfl, rfl⟩) | (go_at_call 68; refine (unless_any _ _ _ _).mono ?_; rintro e w' ⟨rfl, rfl⟩))
  refine (firstError_is 2 [⟨2, 114, #[.pointer (some ⟨w.heap.size + 1 + 1 + 1 + 1 + 1 + 1, 0, none⟩), .pointer (some ⟨w.heap.size + 1 + 1 + 1 + 1 + 1, 0, none⟩)], k1⟩, ⟨2, 114, #[.pointer (some ⟨w.heap.size + 1 + 1 + 1 + 1 + 1 + 1 + 1 + 1, 0, none⟩), .pointer (some ⟨w.heap.size + 1 + 1 + 1 + 1 + 1 + 1 + 1, 0, none⟩)], k2⟩] _ _ _ (h.out.2.2 _ _ _ _) (by simp) (by simp) (cnds_two_at (by simp))
    (tells_two (validFractions_tells k1 (some ⟨w.heap.size + 1 + 1 + 1, 0, none⟩) 2 2 [(an, ad), (bn, bd)] ⟨w.heap.size + 1 + 1 + 1 + 1, 0, none⟩ ⟨w.heap.size + 1 + 1 + 1 + 1 + 1 + 1, 0, none⟩ ⟨w.heap.size + 1 + 1 + 1 + 1 + 1, 0, none⟩ _ h.out.1 rfl (by simp) (by simp [go_sem, World.cell?_alloc_past]) (by simp [go_sem, World.cell?_alloc_past]) (by simp [go_sem, World.cell?_alloc_past]) (pairs_two_of (by simp [go_sem, World.cell?_alloc_past]) (by simp [go_sem, World.cell?_alloc_past]) (by simp [go_sem, World.cell?_alloc_past]) (by simp [go_sem, World.cell?_alloc_past])))
      (fun hk => unless_tells 2 _ _ k2 ⟨w.heap.size + 1 + 1 + 1 + 1 + 1 + 1 + 1, 0, none⟩ ⟨w.heap.size + 1 + 1 + 1 + 1 + 1 + 1 + 1 + 1, 0, none⟩ _ rfl (simplest_tells k2 an ad bn bd w.heap.size (w.heap.size + 1) _ (h.out.2.1 hk).2 (h.out.2.1 hk).1 (by simp [go_sem, World.cell?_alloc_past]) (by simp [go_sem, World.cell?_alloc_past]) (by simp [go_sem, World.cell?_alloc_past]) (by simp [go_sem, World.cell?_alloc_past])) (by simp [go_sem, World.cell?_alloc_past]) (by simp [go_sem, World.cell?_alloc_past])))).mono ?_
  rintro e w1 ⟨rfl, hb⟩
  have c4 := later hb (a := ⟨w.heap.size + 1 + 1, 0, none⟩) (v := .int .i64 0) (by simp [go_sem, World.cell?_alloc_past])
  have c5 := later hb (a := ⟨w.heap.size + 1 + 1, 1, none⟩) (v := .int .i64 0) (by simp [go_sem, World.cell?_alloc_past])
  have f4 := free_later hb (a := ⟨w.heap.size + 1 + 1, 0, none⟩) (v := .int .i64 0) (by simp [go_sem, World.cell?_alloc_past]) (by simp [go_sem, World.cell?_alloc_past])
  have f5 := free_later hb (a := ⟨w.heap.size + 1 + 1, 1, none⟩) (v := .int .i64 0) (by simp [go_sem, World.cell?_alloc_past]) (by simp [go_sem, World.cell?_alloc_past])
  go_wp2_with fail
  exact bodyPost_ret (v := .tuple #[.agg #[.int .i64 0, .int .i64 0], .int .i64 2]) (by simp [results, Try.results60, go_sem, c4, c5]) rfl ⟨rfl, (by repeat (first | exact Below.refl _ _ | assumption | apply balloc | apply bdrew | (refine bset ?_ (by first | (simp; done) | omega | (simp; omega)) _) | (refine bnext ?_ (by assumption))))⟩
set_option maxHeartbeats 800000 in
theorem simplestC_good (n d an ad bn bd : Int) (k1 k2 : Bool) (w : World) (h : Hid (SimpCond an ad bn bd 0 k1 k2)) (C : Hid (∀ w : World, Calls Try.prog 113 #[.agg #[.int .i64 an, .int .i64 ad], .agg #[.int .i64 bn, .int .i64 bd]] w fun e w' => e = .returned (.agg #[.int .i64 n, .int .i64 d]) ∧ Below w.heap.size w w')) :
    Calls Try.prog 60 #[.agg #[.int .i64 an, .int .i64 ad], .agg #[.int .i64 bn, .int .i64 bd]] w fun e w' => e = .returned (.tuple #[.agg #[.int .i64 n, .int .i64 d], .int .i64 0]) ∧ Below w.heap.size w w' := by
  go_enter Try.func60, Try.ntmps60
  go_wp2_with (first | (go_at_call 78; refine (validFractions_any _ _ _ _).mono ?_; rintro e w' ⟨rfl, rfl⟩) | (go_at_call 68; refine (unless_any _ _ _ _).mono ?_; rintro e w' ⟨rfl, rfl⟩))
  refine (firstError_is 0 [⟨2, 114, #[.pointer (some ⟨w.heap.size + 1 + 1 + 1 + 1 + 1 + 1, 0, none⟩), .pointer (some ⟨w.heap.size + 1 + 1 + 1 + 1 + 1, 0, none⟩)], k1⟩, ⟨2, 114, #[.pointer (some ⟨w.heap.size + 1 + 1 + 1 + 1 + 1 + 1 + 1 + 1, 0, none⟩), .pointer (some ⟨w.heap.size + 1 + 1 + 1 + 1 + 1 + 1 + 1, 0, none⟩)], k2⟩] _ _ _ (h.out.2.2 _ _ _ _) (by simp) (by simp) (cnds_two_at (by simp))
    (tells_two (validFractions_tells k1 (some ⟨w.heap.size + 1 + 1 + 1, 0, none⟩) 2 2 [(an, ad), (bn, bd)] ⟨w.heap.size + 1 + 1 + 1 + 1, 0, none⟩ ⟨w.heap.size + 1 + 1 + 1 + 1 + 1 + 1, 0, none⟩ ⟨w.heap.size + 1 + 1 + 1 + 1 + 1, 0, none⟩ _ h.out.1 rfl (by simp) (by simp [go_sem, World.cell?_alloc_past]) (by simp [go_sem, World.cell?_alloc_past]) (by simp [go_sem, World.cell?_alloc_past]) (pairs_two_of (by simp [go_sem, World.cell?_alloc_past]) (by simp [go_sem, World.cell?_alloc_past]) (by simp [go_sem, World.cell?_alloc_past]) (by simp [go_sem, World.cell?_alloc_past])))
      (fun hk => unless_tells 2 _ _ k2 ⟨w.heap.size + 1 + 1 + 1 + 1 + 1 + 1 + 1, 0, none⟩ ⟨w.heap.size + 1 + 1 + 1 + 1 + 1 + 1 + 1 + 1, 0, none⟩ _ rfl (simplest_tells k2 an ad bn bd w.heap.size (w.heap.size + 1) _ (h.out.2.1 hk).2 (h.out.2.1 hk).1 (by simp [go_sem, World.cell?_alloc_past]) (by simp [go_sem, World.cell?_alloc_past]) (by simp [go_sem, World.cell?_alloc_past]) (by simp [go_sem, World.cell?_alloc_past])) (by simp [go_sem, World.cell?_alloc_past]) (by simp [go_sem, World.cell?_alloc_past])))).mono ?_
  rintro e w1 ⟨rfl, hb⟩
  have c4 := later hb (a := ⟨w.heap.size + 1 + 1, 0, none⟩) (v := .int .i64 0) (by simp [go_sem, World.cell?_alloc_past])
  have c5 := later hb (a := ⟨w.heap.size + 1 + 1, 1, none⟩) (v := .int .i64 0) (by simp [go_sem, World.cell?_alloc_past])
  have f4 := free_later hb (a := ⟨w.heap.size + 1 + 1, 0, none⟩) (v := .int .i64 0) (by simp [go_sem, World.cell?_alloc_past]) (by simp [go_sem, World.cell?_alloc_past])
  have f5 := free_later hb (a := ⟨w.heap.size + 1 + 1, 1, none⟩) (v := .int .i64 0) (by simp [go_sem, World.cell?_alloc_past]) (by simp [go_sem, World.cell?_alloc_past])
  have c0 := later hb (a := ⟨w.heap.size, 0, none⟩) (v := .int .i64 an) (by simp [go_sem, World.cell?_alloc_past])
  have c1 := later hb (a := ⟨w.heap.size, 1, none⟩) (v := .int .i64 ad) (by simp [go_sem, World.cell?_alloc_past])
  have c2 := later hb (a := ⟨w.heap.size + 1, 0, none⟩) (v := .int .i64 bn) (by simp [go_sem, World.cell?_alloc_past])
  have c3 := later hb (a := ⟨w.heap.size + 1, 1, none⟩) (v := .int .i64 bd) (by simp [go_sem, World.cell?_alloc_past])
  go_wp2_with fail
  refine (C.out _).mono ?_
  rintro e w2 ⟨rfl, hb2⟩
  have c4' := later hb2 c4
  have c5' := later hb2 c5
  have f4' := free_later hb2 c4 f4
  have f5' := free_later hb2 c5 f5
  clear c4 c5 f4 f5
  go_wp2_with fail
  exact bodyPost_ret (v := .tuple #[.agg #[.int .i64 n, .int .i64 d], .int .i64 0]) (by simp [results, Try.results60, go_sem, c4', c5']) rfl ⟨rfl, (by repeat (first | exact Below.refl _ _ | assumption | apply balloc | apply bdrew | (refine bset ?_ (by first | (simp; done) | omega | (simp; omega)) _) | (refine bnext ?_ (by assumption))))⟩

/-- The results of Simplest (k: a bound on the rounds). -/
def simplestQ (k : Nat) (an ad bn bd : Int) : (Int × Int) × Int :=
  if (frac2Ok an ad bn bd && decide (an * bd ≤ bn * ad)) = true then (simpQ k an ad bn bd, 0) else ((0, 0), 2)

theorem simplestF_any (k : Nat) (an ad bn bd : Int) (w : World) (hk : ad + bd ≤ k) :
    Calls Try.prog 60 #[.agg #[.int .i64 an, .int .i64 ad], .agg #[.int .i64 bn, .int .i64 bd]] w fun e w' => e = .returned (.tuple #[.agg #[.int .i64 (simplestQ k an ad bn bd).1.1, .int .i64 (simplestQ k an ad bn bd).1.2], .int .i64 (simplestQ k an ad bn bd).2]) ∧ Below w.heap.size w w' := by
  unfold simplestQ
  cases h1 : frac2Ok an ad bn bd with
  | false =>
    rw [if_neg (by simp)]
    exact simplestC_bad an ad bn bd false true w ⟨h1, fun h => (by simp at h), fun _ _ _ _ => rfl⟩
  | true =>
    cases h2 : decide (an * bd ≤ bn * ad) with
    | false =>
      rw [if_neg (by simp)]
      exact simplestC_bad an ad bn bd true false w ⟨h1, fun _ => ⟨h1, h2⟩, fun _ _ _ _ => rfl⟩
    | true =>
      rw [if_pos (by simp)]
      obtain ⟨⟨⟨a0, a1⟩, a2, a3⟩, ⟨b0, b1⟩, b2, b3⟩ := frac2_bounds h1
      exact simplestC_good _ _ an ad bn bd true true w ⟨h1, fun _ => ⟨h1, h2⟩, fun _ _ _ _ => rfl⟩
        (fun w => simplest_any k an ad bn bd w a0 a1 a2 a3 b0 b1 b2 b3 (show Hid _ from of_decide_eq_true (p := an * bd ≤ bn * ad) h2) hk)
end Go.Proofs.Ytckapcfofkeicaa
