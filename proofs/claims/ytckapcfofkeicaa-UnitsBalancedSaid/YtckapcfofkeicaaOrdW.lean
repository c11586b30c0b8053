/-
  UnitsOrder: the walk.
-/
import Derived.Test.YtckapcfofkeicaaFrame
namespace Go.Proofs.Ytckapcfofkeicaa
set_option linter.unusedSimpArgs false
set_option linter.unusedVariables false
open Go.RowKit

theorem sgn3_flip (x y : Int) : sgn3 y x = -sgn3 x y := by
  unfold sgn3
  by_cases h : x < y
  · rw [if_neg (by omega), if_neg (by omega), if_pos h]; rfl
  · by_cases h2 : x = y
    · rw [if_neg (by omega), if_pos h2.symm, if_neg h, if_pos h2]; rfl
    · rw [if_pos (by omega), if_neg h, if_neg h2]
theorem sgn3_nonneg {x y : Int} : 0 ≤ sgn3 x y ↔ y ≤ x := by
  unfold sgn3
  by_cases h : x < y
  · rw [if_pos h]; omega
  · rw [if_neg h]
    by_cases h2 : x = y
    · rw [if_pos h2]; omega
    · rw [if_neg h2]; omega
theorem sgn3_pos {x y : Int} : 0 < sgn3 x y ↔ y < x := by
  unfold sgn3
  by_cases h : x < y
  · rw [if_pos h]; omega
  · rw [if_neg h]
    by_cases h2 : x = y
    · rw [if_pos h2]; omega
    · rw [if_neg h2]; omega
theorem sgn3_bound (x y : Int) : -1 ≤ sgn3 x y ∧ sgn3 x y ≤ 1 := by
  unfold sgn3
  by_cases h : x < y
  · rw [if_pos h]; omega
  · rw [if_neg h]
    by_cases h2 : x = y
    · rw [if_pos h2]; omega
    · rw [if_neg h2]; omega
/-- An order of fractions with divisors above 0 goes on. -/
theorem frac_le_trans {an ad bn bd cn cd : Int} (ha : 0 < ad) (hb : 0 < bd) (hc : 0 < cd) (h1 : bn * ad ≤ an * bd) (h2 : cn * bd ≤ bn * cd) : cn * ad ≤ an * cd := by
  have e1 : bn * ad * cd ≤ an * bd * cd := Int.mul_le_mul_of_nonneg_right h1 (by omega)
  have e2 : cn * bd * ad ≤ bn * cd * ad := Int.mul_le_mul_of_nonneg_right h2 (by omega)
  have e3 : cn * ad * bd ≤ an * cd * bd := by
    have a1 : cn * ad * bd = cn * bd * ad := by rw [Int.mul_assoc, Int.mul_comm ad bd, ← Int.mul_assoc]
    have a2 : bn * cd * ad = bn * ad * cd := by rw [Int.mul_assoc, Int.mul_comm cd ad, ← Int.mul_assoc]
    have a3 : an * cd * bd = an * bd * cd := by rw [Int.mul_assoc, Int.mul_comm cd bd, ← Int.mul_assoc]
    rw [a1, a3]
    rw [a2] at e2
    exact Int.le_trans e2 e1
  exact Int.le_of_mul_le_mul_right e3 hb
theorem frac_lt_trans {an ad bn bd cn cd : Int} (ha : 0 < ad) (hb : 0 < bd) (hc : 0 < cd) (h1 : bn * ad ≤ an * bd) (h2 : cn * bd ≤ bn * cd) (h3 : bn * ad < an * bd ∨ cn * bd < bn * cd) : cn * ad < an * cd := by
  have e1 : bn * ad * cd ≤ an * bd * cd := Int.mul_le_mul_of_nonneg_right h1 (by omega)
  have e2 : cn * bd * ad ≤ bn * cd * ad := Int.mul_le_mul_of_nonneg_right h2 (by omega)
  have a1 : cn * ad * bd = cn * bd * ad := by rw [Int.mul_assoc, Int.mul_comm ad bd, ← Int.mul_assoc]
  have a2 : bn * cd * ad = bn * ad * cd := by rw [Int.mul_assoc, Int.mul_comm cd ad, ← Int.mul_assoc]
  have a3 : an * cd * bd = an * bd * cd := by rw [Int.mul_assoc, Int.mul_comm cd bd, ← Int.mul_assoc]
  have e3 : cn * ad * bd < an * cd * bd := by
    rw [a1, a3]
    rw [a2] at e2
    rcases h3 with h3 | h3
    · have := Int.mul_lt_mul_of_pos_right h3 hc; omega
    · have := Int.mul_lt_mul_of_pos_right h3 ha; rw [a2] at this; omega
  exact Int.lt_of_mul_lt_mul_right e3 (by omega)

theorem compareQ_bad {an ad bn bd : Int} (h : frac2Ok an ad bn bd = false) : compareQ an ad bn bd = (0, 2) := by unfold compareQ; rw [h]; rfl
theorem compareQ_good {an ad bn bd : Int} (h : frac2Ok an ad bn bd = true) : compareQ an ad bn bd = (sgn3 (an * bd) (bn * ad), 0) := by unfold compareQ; rw [h]; rfl
theorem frac2_and (an ad bn bd : Int) : frac2Ok an ad bn bd = (fracOk (an, ad) && fracOk (bn, bd)) := by simp [frac2Ok]
/-- What Compare returns, told. -/
def Cmp (an ad bn bd X E : Int) : Prop := ∀ w, Calls Try.prog 23 #[.agg #[.int .i64 an, .int .i64 ad], .agg #[.int .i64 bn, .int .i64 bd]] w fun e w' => e = .returned (.tuple #[.int .i64 X, .int .i64 E]) ∧ Below w.heap.size w w'
theorem cmp_of {an ad bn bd X E : Int} (h : compareQ an ad bn bd = (X, E)) : Cmp an ad bn bd X E := fun w => by
  have := compareFrac_any an ad bn bd w
  rwa [h] at this

theorem mul7 {an : Int} (h0 : -1000000 ≤ an) (h1 : an ≤ 1000000) : mulDivQ an 7 1 1 = (an * 7, 0, 0) := by
  rw [mulDivQ_down (by omega) (by omega) (by omega) (by omega) (by omega) (by omega) (by omega) (by omega)]
  simp [Int.emod_one]
theorem compare7 {an ad : Int} (h0 : -1000000 ≤ an) (h1 : an ≤ 1000000) (h2 : 1 ≤ ad) (h3 : ad ≤ 1000000) : compareQ (an * 7) (7 * ad) an ad = (0, 0) := by
  have h : frac2Ok (an * 7) (7 * ad) an ad = true := by simp [frac2Ok, fracOk, allIn, isDiv]; omega
  rw [compareQ_good h]
  have e : an * 7 * ad = an * (7 * ad) := Int.mul_assoc _ _ _
  rw [e]
  simp [sgn3]
set_option maxHeartbeats 3200000 in
/-- Where some fraction is not valid. -/
theorem order_bad (an ad bn bd cn cd X E1 Y E2 Z E3 : Int) (w : World) (c1 : Hid (Cmp an ad bn bd X E1)) (c2 : Hid (Cmp bn bd cn cd Y E2)) (c3 : Hid (Cmp an ad cn cd Z E3))
    (h : (E1 = 0 ∧ E2 = 2) ∨ (E1 = 2 ∧ X = 0)) :
    Calls Try.prog 14 #[.agg #[.int .i64 an, .int .i64 ad], .agg #[.int .i64 bn, .int .i64 bd], .agg #[.int .i64 cn, .int .i64 cd]] w fun e w' => e = .returned (.bool true) ∧ Below w.heap.size w w' := by
  rcases h with ⟨rfl, rfl⟩ | ⟨rfl, rfl⟩
  all_goals
    go_enter Try.func14, Try.ntmps14
    go_wp2_with fail
    refine (c1.out _).mono ?_
    rintro e w1 ⟨rfl, hb1⟩
    have b0 := later hb1 (a := ⟨w.heap.size + 1, 0, none⟩) (v := .int .i64 bn) (by simp [go_sem, World.cell?_alloc_past])
    have b1 := later hb1 (a := ⟨w.heap.size + 1, 1, none⟩) (v := .int .i64 bd) (by simp [go_sem, World.cell?_alloc_past])
    have k0 := later hb1 (a := ⟨w.heap.size + 1 + 1, 0, none⟩) (v := .int .i64 cn) (by simp [go_sem, World.cell?_alloc_past])
    have k1 := later hb1 (a := ⟨w.heap.size + 1 + 1, 1, none⟩) (v := .int .i64 cd) (by simp [go_sem, World.cell?_alloc_past])
    have a0 := later hb1 (a := ⟨w.heap.size, 0, none⟩) (v := .int .i64 an) (by simp [go_sem, World.cell?_alloc_past])
    have a1 := later hb1 (a := ⟨w.heap.size, 1, none⟩) (v := .int .i64 ad) (by simp [go_sem, World.cell?_alloc_past])
    go_wp2_with fail
    refine (c2.out _).mono ?_
    rintro e w2 ⟨rfl, hb2⟩
    have k0' := later hb2 k0
    have k1' := later hb2 k1
    have a0' := later hb2 a0
    have a1' := later hb2 a1
    go_wp2_with fail
    refine (c3.out _).mono ?_
    rintro e w3 ⟨rfl, hb3⟩
    go_wp2_with fail
    refine (known_any _).mono ?_
    rintro e w4 ⟨rfl, hb4⟩
    go_wp2_with fail
    go_ret
    exact ⟨rfl, (by repeat (first | exact Below.refl _ _ | assumption | apply balloc | apply bdrew | (refine bset ?_ (by first | (simp; done) | omega | (simp; omega)) _) | (refine bnext ?_ (by assumption))))⟩

set_option maxRecDepth 100000 in
set_option maxHeartbeats 3200000 in
/-- Where all three are valid. big: the first one is not tried further. -/
theorem order_good (an ad bn bd cn cd X Y Z : Int) (w : World) (c1 : Hid (Cmp an ad bn bd X 0)) (c2 : Hid (Cmp bn bd cn cd Y 0)) (c3 : Hid (Cmp an ad cn cd Z 0)) (c4 : Hid (Cmp bn bd an ad (-X) 0))
    (hX : -1 ≤ X ∧ X ≤ 1) (hY : -1 ≤ Y ∧ Y ≤ 1) (hT : Hid (X < 0 ∨ 0 ≤ X ∧ Y < 0 ∨ 0 ≤ X ∧ 0 ≤ Y ∧ 0 < X + Y ∧ 0 < Z ∨ 0 ≤ X ∧ 0 ≤ Y ∧ ¬ 0 < X + Y ∧ 0 ≤ Z))
    (big : Hid (decide (1000000 < an) = true ∨ decide (1000000 < an) = false ∧ decide (an < -1000000) = true ∨ decide (1000000 < an) = false ∧ decide (an < -1000000) = false ∧ decide (1000000 < ad) = true ∨ decide (1000000 < an) = false ∧ decide (an < -1000000) = false ∧ decide (1000000 < ad) = false ∧ 1 ≤ ad)) :
    Calls Try.prog 14 #[.agg #[.int .i64 an, .int .i64 ad], .agg #[.int .i64 bn, .int .i64 bd], .agg #[.int .i64 cn, .int .i64 cd]] w fun e w' => e = .returned (.bool true) ∧ Below w.heap.size w w' := by
  go_enter Try.func14, Try.ntmps14
  go_wp2_with fail
  refine (c1.out _).mono ?_
  rintro e w1 ⟨rfl, hb1⟩
  have b0 := later hb1 (a := ⟨w.heap.size + 1, 0, none⟩) (v := .int .i64 bn) (by simp [go_sem, World.cell?_alloc_past])
  have b1 := later hb1 (a := ⟨w.heap.size + 1, 1, none⟩) (v := .int .i64 bd) (by simp [go_sem, World.cell?_alloc_past])
  have k0 := later hb1 (a := ⟨w.heap.size + 1 + 1, 0, none⟩) (v := .int .i64 cn) (by simp [go_sem, World.cell?_alloc_past])
  have k1 := later hb1 (a := ⟨w.heap.size + 1 + 1, 1, none⟩) (v := .int .i64 cd) (by simp [go_sem, World.cell?_alloc_past])
  have a0 := later hb1 (a := ⟨w.heap.size, 0, none⟩) (v := .int .i64 an) (by simp [go_sem, World.cell?_alloc_past])
  have a1 := later hb1 (a := ⟨w.heap.size, 1, none⟩) (v := .int .i64 ad) (by simp [go_sem, World.cell?_alloc_past])
  go_wp2_with fail
  refine (c2.out _).mono ?_
  rintro e w2 ⟨rfl, hb2⟩
  have k0' := later hb2 k0
  have k1' := later hb2 k1
  have a0' := later hb2 a0
  have a1' := later hb2 a1
  have b0' := later hb2 b0
  have b1' := later hb2 b1
  go_wp2_with fail
  refine (c3.out _).mono ?_
  rintro e w3 ⟨rfl, hb3⟩
  have a0 := later hb3 a0'
  have a1 := later hb3 a1'
  have b0 := later hb3 b0'
  have b1 := later hb3 b1'
  have B3 : Below w.heap.size w w3 := (by repeat (first | exact Below.refl _ _ | assumption | apply balloc | apply bdrew | (refine bset ?_ (by first | (simp; done) | omega | (simp; omega)) _) | (refine bnext ?_ (by assumption))))
  clear hb1 hb2 hb3 k0 k1 k0' k1' a0' a1' b0' b1'
  go_wp2_with fail
  refine (c4.out _).mono ?_
  rintro e w4 ⟨rfl, hb4⟩
  have a0' := later hb4 a0
  have a1' := later hb4 a1
  have B4 : Below w.heap.size w w4 := (by repeat (first | exact Below.refl _ _ | assumption | apply balloc | apply bdrew | (refine bset ?_ (by first | (simp; done) | omega | (simp; omega)) _) | (refine bnext ?_ (by assumption))))
  clear hb4 a0 a1 b0 b1 B3
  go_upto_region 7 with fail
  go_cut [96] from 16 (fun s96 wx => s96 = .bool false ∧ (wx.cell? ⟨w.heap.size, 0, none⟩ = some (.int .i64 an) ∧ wx.cell? ⟨w.heap.size, 1, none⟩ = some (.int .i64 ad)) ∧ Below w.heap.size w wx)
  case first =>
    rcases hT.out with h | ⟨h, h2⟩ | ⟨h, h2, h3, h4⟩ | ⟨h, h2, h3, h4⟩
    · have d1 : decide (0 ≤ X) = false := decide_eq_false (by omega)
      go_wp2_with fail
      go_meet
      exact ⟨rfl, ⟨a0', a1'⟩, B4⟩
    · have d1 : decide (0 ≤ X) = true := decide_eq_true (by omega)
      have d2 : decide (0 ≤ Y) = false := decide_eq_false (by omega)
      go_wp2_with fail
      go_meet
      exact ⟨rfl, ⟨a0', a1'⟩, B4⟩
    · have d1 : decide (0 ≤ X) = true := decide_eq_true (by omega)
      have d2 : decide (0 ≤ Y) = true := decide_eq_true (by omega)
      have d3 : decide (0 < X + Y) = true := decide_eq_true (by omega)
      have d4 : decide (Z < 0) = false := decide_eq_false (by omega)
      have d5 : decide (Z ≤ 0) = false := decide_eq_false (by omega)
      go_wp2_with fail
      go_meet
      exact ⟨rfl, ⟨a0', a1'⟩, B4⟩
    · have d1 : decide (0 ≤ X) = true := decide_eq_true (by omega)
      have d2 : decide (0 ≤ Y) = true := decide_eq_true (by omega)
      have d3 : decide (0 < X + Y) = false := decide_eq_false (by omega)
      have d4 : decide (Z < 0) = false := decide_eq_false (by omega)
      go_wp2_with fail
      go_meet
      exact ⟨rfl, ⟨a0', a1'⟩, B4⟩
  case rest =>
    obtain ⟨rfl, ⟨a0, a1⟩, hbw⟩ := hcut
    rcases big.out with h | ⟨h, h2⟩ | ⟨h, h2, h3⟩ | ⟨h, h2, h3, h4⟩
    · go_wp2_with fail
      refine (known_any _).mono ?_
      rintro e w5 ⟨rfl, hb5⟩
      go_wp2_with fail
      go_ret
      exact ⟨rfl, (by repeat (first | exact Below.refl _ _ | assumption | apply balloc | apply bdrew | (refine bset ?_ (by first | (simp; done) | omega | (simp; omega)) _) | (refine bnext ?_ (by assumption))))⟩
    · go_wp2_with fail
      refine (known_any _).mono ?_
      rintro e w5 ⟨rfl, hb5⟩
      go_wp2_with fail
      go_ret
      exact ⟨rfl, (by repeat (first | exact Below.refl _ _ | assumption | apply balloc | apply bdrew | (refine bset ?_ (by first | (simp; done) | omega | (simp; omega)) _) | (refine bnext ?_ (by assumption))))⟩
    · go_wp2_with fail
      refine (known_any _).mono ?_
      rintro e w5 ⟨rfl, hb5⟩
      go_wp2_with fail
      go_ret
      exact ⟨rfl, (by repeat (first | exact Below.refl _ _ | assumption | apply balloc | apply bdrew | (refine bset ?_ (by first | (simp; done) | omega | (simp; omega)) _) | (refine bnext ?_ (by assumption))))⟩
    · have n1 := of_decide_eq_false h
      have n2 := of_decide_eq_false h2
      have n3 := of_decide_eq_false h3
      have M := fun w => mulDiv_any an 7 1 1 w
      rw [mul7 (by omega) (by omega)] at M
      have M' := hide M
      have C := hide (cmp_of (compare7 (an := an) (ad := ad) (by omega) (by omega) h4 (by omega)))
      clear M
      go_wp2_with fail
      refine (M'.out _).mono ?_
      rintro e w5 ⟨rfl, hb5⟩
      have a0' := later hb5 a0
      have a1' := later hb5 a1
      go_wp2_with fail
      refine (C.out _).mono ?_
      rintro e w6 ⟨rfl, hb6⟩
      go_wp2_with fail
      refine (known_any _).mono ?_
      rintro e w7 ⟨rfl, hb7⟩
      go_wp2_with fail
      go_ret
      exact ⟨rfl, (by repeat (first | exact Below.refl _ _ | assumption | apply balloc | apply bdrew | (refine bset ?_ (by first | (simp; done) | omega | (simp; omega)) _) | (refine bnext ?_ (by assumption))))⟩

/-- The walk of UnitsOrder. -/
theorem unitsOrder_walk (an ad bn bd cn cd : Int) (w : World) :
    Calls Try.prog 14 #[.agg #[.int .i64 an, .int .i64 ad], .agg #[.int .i64 bn, .int .i64 bd], .agg #[.int .i64 cn, .int .i64 cd]] w fun e w' => e = .returned (.bool true) ∧ Below w.heap.size w w' := by
  cases ha : frac2Ok an ad bn bd with
  | false =>
    exact order_bad an ad bn bd cn cd _ _ _ _ _ _ w (cmp_of (compareQ_bad ha)) (cmp_of (Prod.eta _).symm) (cmp_of (Prod.eta _).symm) (.inr ⟨rfl, rfl⟩)
  | true =>
    cases hb : frac2Ok bn bd cn cd with
    | false =>
      exact order_bad an ad bn bd cn cd _ _ _ _ _ _ w (cmp_of (compareQ_good ha)) (cmp_of (compareQ_bad hb)) (cmp_of (Prod.eta _).symm) (.inl ⟨rfl, rfl⟩)
    | true =>
      have Ba := frac2_bounds ha
      have Bb := frac2_bounds hb
      have hc : frac2Ok an ad cn cd = true := by rw [frac2_and] at ha hb ⊢; simp only [Bool.and_eq_true] at ha hb ⊢; exact ⟨ha.1, hb.2⟩
      have hd : frac2Ok bn bd an ad = true := by rw [frac2_and] at ha ⊢; simp only [Bool.and_eq_true] at ha ⊢; exact ⟨ha.2, ha.1⟩
      refine order_good an ad bn bd cn cd _ _ _ w (cmp_of (compareQ_good ha)) (cmp_of (compareQ_good hb)) (cmp_of (compareQ_good hc)) (cmp_of (by rw [compareQ_good hd, sgn3_flip])) (sgn3_bound _ _) (sgn3_bound _ _) ?_ ?_
      · show _ ∨ _
        have t1 := @frac_le_trans an ad bn bd cn cd (by omega) (by omega) (by omega)
        have t2 := @frac_lt_trans an ad bn bd cn cd (by omega) (by omega) (by omega)
        have p1 := @sgn3_nonneg (an * bd) (bn * ad)
        have p2 := @sgn3_nonneg (bn * cd) (cn * bd)
        have p3 := @sgn3_nonneg (an * cd) (cn * ad)
        have q1 := @sgn3_pos (an * bd) (bn * ad)
        have q2 := @sgn3_pos (bn * cd) (cn * bd)
        have q3 := @sgn3_pos (an * cd) (cn * ad)
        by_cases e1 : 0 ≤ sgn3 (an * bd) (bn * ad)
        · by_cases e2 : 0 ≤ sgn3 (bn * cd) (cn * bd)
          · by_cases e3 : 0 < sgn3 (an * bd) (bn * ad) + sgn3 (bn * cd) (cn * bd)
            · refine .inr (.inr (.inl ⟨e1, e2, e3, q3.2 (t2 (p1.1 e1) (p2.1 e2) ?_)⟩))
              by_cases e4 : 0 < sgn3 (an * bd) (bn * ad)
              · exact .inl (q1.1 e4)
              · exact .inr (q2.1 (by omega))
            · exact .inr (.inr (.inr ⟨e1, e2, e3, p3.2 (t1 (p1.1 e1) (p2.1 e2))⟩))
          · exact .inr (.inl ⟨e1, by omega⟩)
        · exact .inl (by omega)
      · show _ ∨ _
        simp only [decide_eq_true_eq, decide_eq_false_iff_not]
        omega
end Go.Proofs.Ytckapcfofkeicaa
