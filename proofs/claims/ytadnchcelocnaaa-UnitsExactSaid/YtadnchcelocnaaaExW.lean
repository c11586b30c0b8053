/-
  UnitsExact: the walk.
-/
import Derived.Test.YtadnchcelocnaaaExA
import Derived.Test.YtadnchcelocnaaaExB
import Derived.Test.YtadnchcelocnaaaFrameB
namespace Go.Proofs.Ytadnchcelocnaaa
set_option linter.unusedSimpArgs false
set_option linter.unusedVariables false
open Go.RowKit

set_option maxRecDepth 100000 in
set_option maxHeartbeats 3200000 in
/-- Where MulDiv refuses. -/
theorem exact_bad (a b c how E : Int) (w : World) (M : Hid (∀ w, Calls Try.prog 20 #[.int .i64 a, .int .i64 b, .int .i64 c, .int .u8 how] w fun e w' => e = .returned (.tuple #[.int .i64 0, .int .i64 0, .int .i64 E]) ∧ Below w.heap.size w w'))
    (hE : E = 2 ∨ E = 3 ∨ E = 10) :
    Calls Try.prog 13 #[.agg #[.int .i64 a, .int .i64 b, .int .i64 c, .int .u8 how]] w fun e w' => e = .returned (.bool true) ∧ Below w.heap.size w w' := by
  rcases hE with rfl | rfl | rfl
  all_goals
    go_enter Try.func13, Try.ntmps13
    go_wp2_with fail
    refine (M.out _).mono ?_
    rintro e w1 ⟨rfl, hb1⟩
    go_wp2_with fail
    refine (known_any _).mono ?_
    rintro e w2 ⟨rfl, hb2⟩
    go_wp2_with fail
    go_ret
    exact ⟨rfl, (by repeat (first | exact Below.refl _ _ | assumption | apply balloc | apply bdrew | (refine bset ?_ (by first | (simp; done) | omega | (simp; omega)) _) | (refine bnext ?_ (by assumption))))⟩

set_option maxRecDepth 100000 in
set_option maxHeartbeats 6400000 in
/-- Where MulDiv returns a quotient. -/
theorem exact_good (a b c how how' n r : Int) (w : World) (M : Hid (∀ w, Calls Try.prog 20 #[.int .i64 a, .int .i64 b, .int .i64 c, .int .u8 how] w fun e w' => e = .returned (.tuple #[.int .i64 n, .int .i64 r, .int .i64 0]) ∧ Below w.heap.size w w'))
    (M2 : Hid (∀ w, Calls Try.prog 20 #[.int .i64 (-a), .int .i64 b, .int .i64 c, .int .u8 how'] w fun e w' => e = .returned (.tuple #[.int .i64 (-n), .int .i64 (-r), .int .i64 0]) ∧ Below w.heap.size w w'))
    (X : Hid (a * b = n * c + r)) (a0 : -1000000000000000 ≤ a) (a1 : a ≤ 1000000000000000) (n0 : -1000000000000000 ≤ n) (n1 : n ≤ 1000000000000000) (r0 : -1000000000000000 < r) (r1 : r < 1000000000000000) (c0 : 1 ≤ c) (c1 : c ≤ 1000000000000000)
    (hh : (how = 1 ∧ how' = 2 ∧ decide (r < 0) = false ∧ decide (c ≤ r) = false) ∨ (how = 2 ∧ how' = 1 ∧ decide (0 < r) = false ∧ decide (c ≤ -r) = false) ∨
      (how = 3 ∧ how' = 3 ∧ (decide (c < 2 * r) = false ∧ decide (c < -2 * r) = false) ∧ (2 * r == c) = false ∧ (-2 * r == c) = false) ∨
      (how = 3 ∧ how' = 3 ∧ (decide (c < 2 * r) = false ∧ decide (c < -2 * r) = false) ∧ (2 * r == c) = true ∧ (n.tmod 2 != 0) = false) ∨
      (how = 3 ∧ how' = 3 ∧ (decide (c < 2 * r) = false ∧ decide (c < -2 * r) = false) ∧ ((2 * r == c) = false ∧ (-2 * r == c) = true) ∧ (n.tmod 2 != 0) = false)) :
    Calls Try.prog 13 #[.agg #[.int .i64 a, .int .i64 b, .int .i64 c, .int .u8 how]] w fun e w' => e = .returned (.bool true) ∧ Below w.heap.size w w' := by
  have d1 : decide (n < -1000000000000000) = false := decide_eq_false (by omega)
  have d2 : decide (1000000000000000 < n) = false := decide_eq_false (by omega)
  have d3 : decide (r ≤ -1000000000000000) = false := decide_eq_false (by omega)
  have d4 : decide (1000000000000000 ≤ r) = false := decide_eq_false (by omega)
  have d5 : decide (c < 1) = false := decide_eq_false (by omega)
  have d6 : decide (1000000000000000 < c) = false := decide_eq_false (by omega)
  rcases hh with ⟨hw, rfl, k1, k2⟩ | ⟨hw, rfl, k1, k2⟩ | ⟨hw, rfl, ⟨k1, k2⟩, k3, k4⟩ | ⟨hw, rfl, ⟨k1, k2⟩, k3, k4⟩ | ⟨hw, rfl, ⟨k1, k2⟩, ⟨k3, k4⟩, k5⟩
  all_goals
    have Hw := hide hw
    clear hw
    go_enter Try.func13, Try.ntmps13
    go_wp2_with fail
    refine (M.out _).mono ?_
    rintro e w1 ⟨rfl, hb1⟩
    have p0 := later hb1 (a := ⟨w.heap.size, 0, none⟩) (v := .int .i64 a) (by simp [go_sem, World.cell?_alloc_past])
    have p1 := later hb1 (a := ⟨w.heap.size, 1, none⟩) (v := .int .i64 b) (by simp [go_sem, World.cell?_alloc_past])
    have p2 := later hb1 (a := ⟨w.heap.size, 2, none⟩) (v := .int .i64 c) (by simp [go_sem, World.cell?_alloc_past])
    have p3 := later hb1 (a := ⟨w.heap.size, 3, none⟩) (v := .int .u8 how) (by simp [go_sem, World.cell?_alloc_past])
    go_wp2_with fail
    refine (exactly_true a b n c r _ X).mono ?_
    rintro e w2 ⟨rfl, hb2⟩
    have q0 := later hb2 p0
    have q1 := later hb2 p1
    have q2 := later hb2 p2
    have q3 := later hb2 p3
    rw [Hw.out] at q3
    clear p0 p1 p2 p3
    go_wp2_with fail
    refine (M2.out _).mono ?_
    rintro e w3 ⟨rfl, hb3⟩
    go_wp2_with fail
    refine (known_any _).mono ?_
    rintro e w4 ⟨rfl, hb4⟩
    go_wp2_with fail
    go_ret
    exact ⟨rfl, (by repeat (first | exact Below.refl _ _ | assumption | apply balloc | apply bdrew | (refine bset ?_ (by first | (simp; done) | omega | (simp; omega)) _) | (refine bnext ?_ (by assumption))))⟩

theorem mulDiv_of {a b c how n r E : Int} (h : mulDivQ a b c how = (n, r, E)) : Hid (∀ w, Calls Try.prog 20 #[.int .i64 a, .int .i64 b, .int .i64 c, .int .u8 how] w fun e w' => e = .returned (.tuple #[.int .i64 n, .int .i64 r, .int .i64 E]) ∧ Below w.heap.size w w') := fun w => by
  have := mulDiv_any a b c how w
  rwa [h] at this

/-- The walk of UnitsExact. -/
theorem unitsExact_walk (a b c how : Int) (w : World) :
    Calls Try.prog 13 #[.agg #[.int .i64 a, .int .i64 b, .int .i64 c, .int .u8 how]] w fun e w' => e = .returned (.bool true) ∧ Below w.heap.size w w' := by
  cases h1 : howOk how with
  | false => exact exact_bad a b c how 2 w (mulDiv_of (by unfold mulDivQ; rw [if_pos h1])) (.inl rfl)
  | true =>
    cases h2 : (allIn 1000000000000000 [a, b] && isDiv c) with
    | false => exact exact_bad a b c how 3 w (mulDiv_of (by unfold mulDivQ; rw [h1, if_neg (by simp), if_pos h2])) (.inr (.inl rfl))
    | true =>
      obtain ⟨Q, hQ⟩ : ∃ Q, divQ (a * b) c how = Q := ⟨_, rfl⟩
      obtain ⟨n, r, k⟩ := Q
      cases k with
      | false => exact exact_bad a b c how 10 w (mulDiv_of (by unfold mulDivQ; rw [h1, if_neg (by simp), h2, if_neg (by simp), hQ]; rfl)) (.inr (.inr rfl))
      | true =>
        have h2' := h2
        rw [Bool.and_eq_true, allIn_two] at h2'
        obtain ⟨⟨⟨a0, a1⟩, b0, b1⟩, hc⟩ := h2'
        have hc' : 1 ≤ c ∧ c ≤ 1000000000000000 := by unfold isDiv at hc; simpa using hc
        have hM : mulDivQ a b c how = (n, r, 0) := by unfold mulDivQ; rw [h1, if_neg (by simp), h2, if_neg (by simp), hQ, if_neg (by simp)]
        have turned : ∀ how', howOk how' = true → divQ (-(a * b)) c how' = (-n, -r, true) → mulDivQ (-a) b c how' = (-n, -r, 0) := by
          intro how' e1 e2
          have e3 : (allIn 1000000000000000 [-a, b] && isDiv c) = true := by rw [hc, Bool.and_true, allIn_two]; omega
          unfold mulDivQ
          rw [e1, if_neg (by simp), e3, if_neg (by simp), Int.neg_mul, e2, if_neg (by simp)]
        have hw : how = 1 ∨ how = 2 ∨ how = 3 := by simpa [howOk, or_assoc] using h1
        rcases hw with rfl | rfl | rfl
        · obtain ⟨⟨t1, t2, t3, t4, t5⟩, t6⟩ := turn_one hc'.1 hQ
          exact exact_good a b c 1 2 n r w (mulDiv_of hM) (mulDiv_of (turned 2 rfl t5)) t1 a0 a1 t2 t3 (by omega) (by omega) hc'.1 hc'.2 (.inl ⟨rfl, rfl, decide_eq_false (by omega), decide_eq_false (by omega)⟩)
        · obtain ⟨⟨t1, t2, t3, t4, t5⟩, t6⟩ := turn_two hc'.1 hQ
          exact exact_good a b c 2 1 n r w (mulDiv_of hM) (mulDiv_of (turned 1 rfl t5)) t1 a0 a1 t2 t3 (by omega) (by omega) hc'.1 hc'.2 (.inr (.inl ⟨rfl, rfl, decide_eq_false (by omega), decide_eq_false (by omega)⟩))
        · obtain ⟨⟨t1, t2, t3, t4, t5⟩, t6, t7, t8⟩ := turn_three hc'.1 hQ
          refine exact_good a b c 3 3 n r w (mulDiv_of hM) (mulDiv_of (turned 3 rfl t5)) t1 a0 a1 t2 t3 (by omega) (by omega) hc'.1 hc'.2 (.inr (.inr ?_))
          have s1 : decide (c < 2 * r) = false := decide_eq_false (by omega)
          have s2 : decide (c < -2 * r) = false := decide_eq_false (by omega)
          by_cases e1 : 2 * r = c
          · exact .inr (.inl ⟨rfl, rfl, ⟨s1, s2⟩, by simpa using e1, by rw [t8 (.inl e1)]; rfl⟩)
          · by_cases e2 : -2 * r = c
            · exact .inr (.inr ⟨rfl, rfl, ⟨s1, s2⟩, ⟨by simpa using e1, by simpa using e2⟩, by rw [t8 (.inr e2)]; rfl⟩)
            · exact .inl ⟨rfl, rfl, ⟨s1, s2⟩, by simpa using e1, by simpa using e2⟩
end Go.Proofs.Ytadnchcelocnaaa
