/-
  The reference: whole, Cmp, Compare, Frac; UnitsCompares: the walk.
-/
import Derived.Test.YtckapcfofkeicaaRefM
import Derived.Test.YtckapcfofkeicaaOrdW
namespace Go.Proofs.Ytckapcfofkeicaa
set_option linter.unusedSimpArgs false
set_option linter.unusedVariables false
open Go.RowKit

theorem ret_ii {a b a' b' : Int} (h1 : a = a') (h2 : b = b') : Ending.returned (.tuple #[.int .i64 a, .int .i64 b]) = .returned (.tuple #[.int .i64 a', .int .i64 b']) := by rw [h1, h2]
theorem ret_i {a a' : Int} (h1 : a = a') : Ending.returned (.int .i64 a) = .returned (.int .i64 a') := by rw [h1]
theorem tdiv_floor {a b : Int} (h : 1 ≤ b) : (0 ≤ a.tmod b → a / b = a.tdiv b ∧ a % b = a.tmod b) ∧ (a.tmod b < 0 → a / b = a.tdiv b - 1 ∧ a % b = a.tmod b + b) := by
  have e := Int.mul_tdiv_add_tmod a b
  have b1 := Int.tmod_lt_of_pos a (show 0 < b by omega)
  have b2 : -b < a.tmod b := by
    have := Int.tmod_lt_of_pos (-a) (show 0 < b by omega)
    rw [Int.neg_tmod] at this
    omega
  refine ⟨fun h => (Int.ediv_emod_unique (by omega)).2 ⟨by omega, h, b1⟩, fun h => (Int.ediv_emod_unique (by omega)).2 ⟨?_, by omega, by omega⟩⟩
  rw [Int.mul_sub, Int.mul_one]
  omega
theorem tdiv_bounds {a b : Int} (h : 1 ≤ b) (a0 : -1000000000000000 ≤ a) (a1 : a ≤ 1000000000000000) : -1000000000000000 ≤ a.tdiv b ∧ a.tdiv b ≤ 1000000000000000 := by
  have e := Int.natAbs_tdiv_le_natAbs a b
  omega

set_option maxHeartbeats 1600000 in
theorem whole_any (a b : Int) (w : World) (a0 : -1000000000000000 ≤ a) (a1 : a ≤ 1000000000000000) (b0 : 1 ≤ b) (b1 : b ≤ 1000000000000000) :
    Calls Try.prog 121 #[.int .i64 a, .int .i64 b] w fun e w' => e = .returned (.tuple #[.int .i64 (a / b), .int .i64 (a % b)]) ∧ Below w.heap.size w w' := by
  obtain ⟨t0, t1⟩ := tdiv_floor (a := a) b0
  obtain ⟨d0, d1⟩ := tdiv_bounds b0 a0 a1
  have m1 := Int.tmod_lt_of_pos a (show 0 < b by omega)
  have m2 : -b < a.tmod b := by
    have := Int.tmod_lt_of_pos (-a) (show 0 < b by omega)
    rw [Int.neg_tmod] at this
    omega
  have hz : (b == 0) = false := by simp; omega
  obtain ⟨q, hq⟩ : ∃ q, a / b = q := ⟨_, rfl⟩
  obtain ⟨r, hr⟩ : ∃ r, a % b = r := ⟨_, rfl⟩
  by_cases h : 0 ≤ a.tmod b
  · obtain ⟨e1, e2⟩ := t0 h
    have E1 := hide (e1.symm.trans hq)
    have E2 := hide (e2.symm.trans hr)
    rw [hq, hr]
    clear t0 t1 e1 e2 hq hr
    by_cases hA : 0 ≤ a
    · have f1 : a.tdiv b = a / b := Int.tdiv_eq_ediv_of_nonneg hA
      have f2 : a.tmod b = a % b := Int.tmod_eq_emod_of_nonneg hA
      rw [f1] at E1
      rw [f2] at E2 h m1 m2
      clear f1 f2 d0 d1
      have g1 := Int.ediv_le_self b hA
      have g0 := Int.ediv_nonneg hA (show 0 ≤ b by omega)
      have d : decide (a % b < 0) = false := decide_eq_false (by omega)
      go_enter Try.func121, Try.ntmps121
      go_wp2_with fail
      go_quiet (fail)
      go_wp2_with fail
      go_ret2
      exact ⟨ret_ii E1.out E2.out, below_drewN (Below.refl _ _) _⟩
    · have d : decide (a.tmod b < 0) = false := decide_eq_false (by omega)
      go_enter Try.func121, Try.ntmps121
      go_wp2_with fail
      go_quiet (fail)
      go_wp2_with fail
      go_ret2
      exact ⟨ret_ii E1.out E2.out, below_drewN (Below.refl _ _) _⟩
  · obtain ⟨e1, e2⟩ := t1 (by omega)
    have E1 := hide (e1.symm.trans hq)
    have E2 := hide (e2.symm.trans hr)
    rw [hq, hr]
    have hA : ¬ 0 ≤ a := by
      intro hA
      have := Int.tmod_eq_emod_of_nonneg (b := b) hA
      have := Int.emod_nonneg a (show b ≠ 0 by omega)
      omega
    clear t0 t1 e1 e2 hq hr
    have d : decide (a.tmod b < 0) = true := decide_eq_true (by omega)
    go_enter Try.func121, Try.ntmps121
    go_wp2_with fail
    go_quiet (fail)
    go_wp2_with fail
    go_ret2
    exact ⟨ret_ii E1.out E2.out, below_drewN (Below.refl _ _) _⟩
theorem sgn3_lt {x y : Int} (h : x < y) : sgn3 x y = -1 := by unfold sgn3; rw [if_pos h]
theorem sgn3_gt {x y : Int} (h : y < x) : sgn3 x y = 1 := by unfold sgn3; rw [if_neg (by omega), if_neg (by omega)]
theorem sgn3_eq {x y : Int} (h : x = y) : sgn3 x y = 0 := by unfold sgn3; rw [if_neg (by omega), if_pos h]
theorem sgn3_add {x y z x' y' : Int} (h1 : x' = z + x) (h2 : y' = z + y) : sgn3 x' y' = sgn3 x y := by
  unfold sgn3
  by_cases h : x < y
  · rw [if_pos h, if_pos (by omega)]
  · by_cases h3 : x = y
    · rw [if_neg h, if_pos h3, if_neg (by omega), if_pos (by omega)]
    · rw [if_neg h, if_neg h3, if_neg (by omega), if_neg (by omega)]
/-- Fractions are compared by their whole parts, and then by what is left. -/
theorem by_parts {a b c d p r q s : Int} (b0 : 1 ≤ b) (d0 : 1 ≤ d) (hp : a / b = p) (hr : a % b = r) (hq : c / d = q) (hs : c % d = s) :
    (p < q → sgn3 (a * d) (c * b) = -1) ∧ (q < p → sgn3 (a * d) (c * b) = 1) ∧ (p = q → sgn3 (a * d) (c * b) = sgn3 (r * d) (s * b)) := by
  have ea := Int.mul_ediv_add_emod a b
  have ec := Int.mul_ediv_add_emod c d
  have r0 := Int.emod_nonneg a (show b ≠ 0 by omega)
  have r1 := Int.emod_lt_of_pos a (show 0 < b by omega)
  have s0 := Int.emod_nonneg c (show d ≠ 0 by omega)
  have s1 := Int.emod_lt_of_pos c (show 0 < d by omega)
  rw [hp, hr] at ea
  rw [hq, hs] at ec
  rw [hr] at r0 r1
  rw [hs] at s0 s1
  have e1 : a * d = p * (b * d) + r * d := by rw [← ea, Int.add_mul, Int.mul_comm b p, Int.mul_assoc]
  have e2 : c * b = q * (b * d) + s * b := by rw [← ec, Int.add_mul, Int.mul_comm d q, Int.mul_assoc, Int.mul_comm d b]
  have bd : 0 < b * d := Int.mul_pos (by omega) (by omega)
  have u0 : 0 ≤ r * d := Int.mul_nonneg r0 (by omega)
  have v0 : 0 ≤ s * b := Int.mul_nonneg s0 (by omega)
  have u1 : r * d < b * d := Int.mul_lt_mul_of_pos_right r1 (by omega)
  have v1 : s * b < b * d := by rw [Int.mul_comm b d]; exact Int.mul_lt_mul_of_pos_right s1 (by omega)
  refine ⟨fun h => sgn3_lt ?_, fun h => sgn3_gt ?_, fun h => sgn3_add (z := p * (b * d)) e1 (by rw [e2, h])⟩
  · have : (p + 1) * (b * d) ≤ q * (b * d) := Int.mul_le_mul_of_nonneg_right (by omega) (by omega)
    rw [Int.add_mul, Int.one_mul] at this
    omega
  · have : (q + 1) * (b * d) ≤ p * (b * d) := Int.mul_le_mul_of_nonneg_right (by omega) (by omega)
    rw [Int.add_mul, Int.one_mul] at this
    omega

set_option maxHeartbeats 3200000 in
theorem cmp_any : ∀ (k : Nat) (a b c d : Int) (w : World), -1000000000000000 ≤ a → a ≤ 1000000000000000 → 1 ≤ b → b ≤ 1000000000000000 → -1000000000000000 ≤ c → c ≤ 1000000000000000 → 1 ≤ d → d ≤ 1000000000000000 → b + d ≤ k →
    Calls Try.prog 80 #[.int .i64 a, .int .i64 b, .int .i64 c, .int .i64 d] w fun e w' => e = .returned (.int .i64 (sgn3 (a * d) (c * b))) ∧ Below w.heap.size w w'
  | 0, a, b, c, d, w, _, _, b0, _, _, _, d0, _, hk => by omega
  | k + 1, a, b, c, d, w, a0, a1, b0, b1, c0, c1, d0, d1, hk => by
    have W1 := hide fun w => whole_any a b w a0 a1 b0 b1
    have W2 := hide fun w => whole_any c d w c0 c1 d0 d1
    have r0 := Int.emod_nonneg a (show b ≠ 0 by omega)
    have r1 := Int.emod_lt_of_pos a (show 0 < b by omega)
    have s0 := Int.emod_nonneg c (show d ≠ 0 by omega)
    have s1 := Int.emod_lt_of_pos c (show 0 < d by omega)
    obtain ⟨p, hp⟩ : ∃ p, a / b = p := ⟨_, rfl⟩
    obtain ⟨r, hr⟩ : ∃ r, a % b = r := ⟨_, rfl⟩
    obtain ⟨q, hq⟩ : ∃ q, c / d = q := ⟨_, rfl⟩
    obtain ⟨s, hs⟩ : ∃ s, c % d = s := ⟨_, rfl⟩
    obtain ⟨t1, t2, t3⟩ := by_parts b0 d0 hp hr hq hs
    have again := hide fun h1 h2 w => cmp_any k d s b r w (by omega) d1 h1 (by omega) (by omega) b1 h2 (by omega) (by omega)
    rw [hp, hr] at W1
    rw [hq, hs] at W2
    rw [hr] at r0 r1
    rw [hs] at s0 s1
    clear hp hr hq hs
    by_cases h1 : p < q
    · have E := hide (t1 h1)
      have k1 : decide (p < q) = true := decide_eq_true h1
      clear t1 t2 t3
      go_enter Try.func80, Try.ntmps80
      go_wp2_with fail
      refine (W1.out _).mono ?_
      rintro e w1 ⟨rfl, hb1⟩
      go_wp2_with fail
      refine (W2.out _).mono ?_
      rintro e w2 ⟨rfl, hb2⟩
      go_wp2_with fail
      go_ret
      exact ⟨ret_i E.out.symm, (by repeat (first | exact Below.refl _ _ | assumption | apply balloc | apply bdrew | (refine bset ?_ (by first | (simp; done) | omega | (simp; omega)) _) | (refine bnext ?_ (by assumption))))⟩
    · by_cases h2 : q < p
      · have E := hide (t2 h2)
        have k1 : decide (p < q) = false := decide_eq_false h1
        have k2 : decide (q < p) = true := decide_eq_true h2
        clear t1 t2 t3
        go_enter Try.func80, Try.ntmps80
        go_wp2_with fail
        refine (W1.out _).mono ?_
        rintro e w1 ⟨rfl, hb1⟩
        go_wp2_with fail
        refine (W2.out _).mono ?_
        rintro e w2 ⟨rfl, hb2⟩
        go_wp2_with fail
        go_ret
        exact ⟨ret_i E.out.symm, (by repeat (first | exact Below.refl _ _ | assumption | apply balloc | apply bdrew | (refine bset ?_ (by first | (simp; done) | omega | (simp; omega)) _) | (refine bnext ?_ (by assumption))))⟩
      · obtain rfl : p = q := by omega
        have E := hide (t3 rfl)
        clear t1 t2 t3
        by_cases h3 : r = 0
        · subst h3
          by_cases h4 : s = 0
          · subst h4
            have F := hide (E.out.trans (by simp [sgn3] : _ = (0 : Int)))
            go_enter Try.func80, Try.ntmps80
            go_wp2_with fail
            refine (W1.out _).mono ?_
            rintro e w1 ⟨rfl, hb1⟩
            go_wp2_with fail
            refine (W2.out _).mono ?_
            rintro e w2 ⟨rfl, hb2⟩
            go_wp2_with fail
            go_ret
            exact ⟨ret_i F.out.symm, (by repeat (first | exact Below.refl _ _ | assumption | apply balloc | apply bdrew | (refine bset ?_ (by first | (simp; done) | omega | (simp; omega)) _) | (refine bnext ?_ (by assumption))))⟩
          · have hpos : 0 * d < s * b := by rw [Int.zero_mul]; exact Int.mul_pos (by omega) (by omega)
            have F := hide (E.out.trans (sgn3_lt hpos))
            have k3 : (s == 0) = false := by simpa using h4
            clear hpos h4
            go_enter Try.func80, Try.ntmps80
            go_wp2_with fail
            refine (W1.out _).mono ?_
            rintro e w1 ⟨rfl, hb1⟩
            go_wp2_with fail
            refine (W2.out _).mono ?_
            rintro e w2 ⟨rfl, hb2⟩
            go_wp2_with fail
            go_ret
            exact ⟨ret_i F.out.symm, (by repeat (first | exact Below.refl _ _ | assumption | apply balloc | apply bdrew | (refine bset ?_ (by first | (simp; done) | omega | (simp; omega)) _) | (refine bnext ?_ (by assumption))))⟩
        · have k3 : (r == 0) = false := by simpa using h3
          by_cases h4 : s = 0
          · subst h4
            have hpos : 0 * b < r * d := by rw [Int.zero_mul]; exact Int.mul_pos (by omega) (by omega)
            have F := hide (E.out.trans (sgn3_gt hpos))
            clear hpos h3
            go_enter Try.func80, Try.ntmps80
            go_wp2_with fail
            refine (W1.out _).mono ?_
            rintro e w1 ⟨rfl, hb1⟩
            go_wp2_with fail
            refine (W2.out _).mono ?_
            rintro e w2 ⟨rfl, hb2⟩
            go_wp2_with fail
            go_ret
            exact ⟨ret_i F.out.symm, (by repeat (first | exact Below.refl _ _ | assumption | apply balloc | apply bdrew | (refine bset ?_ (by first | (simp; done) | omega | (simp; omega)) _) | (refine bnext ?_ (by assumption))))⟩
          · have k4 : (s == 0) = false := by simpa using h4
            have R := hide fun w => again.out (by omega) (by omega) w
            have F := hide (E.out.trans (by rw [Int.mul_comm r d, Int.mul_comm s b] : _ = sgn3 (d * r) (b * s)))
            clear h3 h4
            go_enter Try.func80, Try.ntmps80
            go_wp2_with fail
            refine (W1.out _).mono ?_
            rintro e w1 ⟨rfl, hb1⟩
            go_wp2_with fail
            refine (W2.out _).mono ?_
            rintro e w2 ⟨rfl, hb2⟩
            go_wp2_with fail
            refine (R.out _).mono ?_
            rintro e w3 ⟨rfl, hb3⟩
            go_wp2_with fail
            go_ret
            exact ⟨ret_i F.out.symm, (by repeat (first | exact Below.refl _ _ | assumption | apply balloc | apply bdrew | (refine bset ?_ (by first | (simp; done) | omega | (simp; omega)) _) | (refine bnext ?_ (by assumption))))⟩

theorem refCompare_any (an ad bn bd : Int) (w : World) (a0 : -1000000000000000 ≤ an) (a1 : an ≤ 1000000000000000) (a2 : 1 ≤ ad) (a3 : ad ≤ 1000000000000000) (b0 : -1000000000000000 ≤ bn) (b1 : bn ≤ 1000000000000000) (b2 : 1 ≤ bd) (b3 : bd ≤ 1000000000000000) :
    Calls Try.prog 25 #[.agg #[.int .i64 an, .int .i64 ad], .agg #[.int .i64 bn, .int .i64 bd]] w fun e w' => e = .returned (.int .i64 (sgn3 (an * bd) (bn * ad))) ∧ Below w.heap.size w w' := by
  have C := hide fun w => cmp_any 2000000000000000 an ad bn bd w a0 a1 a2 a3 b0 b1 b2 b3 (by omega)
  clear a0 a1 a2 a3 b0 b1 b2 b3
  go_enter Try.func25, Try.ntmps25
  go_wp2_with fail
  refine (C.out _).mono ?_
  rintro e w1 ⟨rfl, hb1⟩
  go_wp2_with fail
  go_ret
  exact ⟨rfl, (by repeat (first | exact Below.refl _ _ | assumption | apply balloc | apply bdrew | (refine bset ?_ (by first | (simp; done) | omega | (simp; omega)) _) | (refine bnext ?_ (by assumption))))⟩
theorem refFrac_go (n d : Int) (w : World) (k1 k2 k3 : Bool) (N : Hid (Num n k1)) (h2 : decide (1 ≤ d) = k2) (h3 : decide (d ≤ 1000000000000000) = k3) :
    Calls Try.prog 24 #[.agg #[.int .i64 n, .int .i64 d]] w fun e w' => e = .returned (.bool (k1 && (k2 && k3))) ∧ Below w.heap.size w w' := by
  cases k1
  · go_enter Try.func24, Try.ntmps24
    go_wp2_with fail
    refine (N.out _).mono ?_
    rintro e w1 ⟨rfl, rfl⟩
    go_wp2_with fail
    go_ret
    exact ⟨rfl, (by repeat (first | exact Below.refl _ _ | assumption | apply balloc | apply bdrew | (refine bset ?_ (by first | (simp; done) | omega | (simp; omega)) _) | (refine bnext ?_ (by assumption))))⟩
  · cases k2 <;> cases k3
    all_goals
      go_enter Try.func24, Try.ntmps24
      go_wp2_with fail
      refine (N.out _).mono ?_
      rintro e w1 ⟨rfl, rfl⟩
      go_wp2_with fail
      go_ret
      exact ⟨rfl, (by repeat (first | exact Below.refl _ _ | assumption | apply balloc | apply bdrew | (refine bset ?_ (by first | (simp; done) | omega | (simp; omega)) _) | (refine bnext ?_ (by assumption))))⟩
theorem refFrac_any (n d : Int) (w : World) :
    Calls Try.prog 24 #[.agg #[.int .i64 n, .int .i64 d]] w fun e w' => e = .returned (.bool (fracOk (n, d))) ∧ Below w.heap.size w w' := by
  have h := refFrac_go n d w _ _ _ (num_of rfl) rfl rfl
  have e : fracOk (n, d) = (allIn 1000000000000000 [n] && (decide (1 ≤ d) && decide (d ≤ 1000000000000000))) := by
    simp only [fracOk, isDiv]
  rwa [e]

set_option maxHeartbeats 3200000 in
theorem compares_bad (an ad bn bd : Int) (w : World) (C : Hid (Cmp an ad bn bd 0 2))
    (H : fracOk (an, ad) = false ∨ (fracOk (an, ad) = true ∧ fracOk (bn, bd) = false)) :
    Calls Try.prog 4 #[.agg #[.int .i64 an, .int .i64 ad], .agg #[.int .i64 bn, .int .i64 bd]] w fun e w' => e = .returned (.bool true) ∧ Below w.heap.size w w' := by
  have F1 := fun w => refFrac_any an ad w
  have F2 := fun w => refFrac_any bn bd w
  rcases H with h1 | ⟨h1, h2⟩
  · rw [h1] at F1
    have G1 := hide F1
    clear F1 F2 h1
    go_enter Try.func4, Try.ntmps4
    go_wp2_with fail
    refine (C.out _).mono ?_
    rintro e w1 ⟨rfl, hb1⟩
    have p0 := later hb1 (a := ⟨w.heap.size, 0, none⟩) (v := .int .i64 an) (by simp [go_sem, World.cell?_alloc_past])
    have p1 := later hb1 (a := ⟨w.heap.size, 1, none⟩) (v := .int .i64 ad) (by simp [go_sem, World.cell?_alloc_past])
    go_wp2_with fail
    refine (G1.out _).mono ?_
    rintro e w2 ⟨rfl, hb2⟩
    go_wp2_with fail
    refine (known_any _).mono ?_
    rintro e w3 ⟨rfl, hb3⟩
    go_wp2_with fail
    go_ret
    exact ⟨rfl, (by repeat (first | exact Below.refl _ _ | assumption | apply balloc | apply bdrew | (refine bset ?_ (by first | (simp; done) | omega | (simp; omega)) _) | (refine bnext ?_ (by assumption))))⟩
  · rw [h1] at F1
    rw [h2] at F2
    have G1 := hide F1
    have G2 := hide F2
    clear F1 F2 h1 h2
    go_enter Try.func4, Try.ntmps4
    go_wp2_with fail
    refine (C.out _).mono ?_
    rintro e w1 ⟨rfl, hb1⟩
    have p0 := later hb1 (a := ⟨w.heap.size, 0, none⟩) (v := .int .i64 an) (by simp [go_sem, World.cell?_alloc_past])
    have p1 := later hb1 (a := ⟨w.heap.size, 1, none⟩) (v := .int .i64 ad) (by simp [go_sem, World.cell?_alloc_past])
    have q0 := later hb1 (a := ⟨w.heap.size + 1, 0, none⟩) (v := .int .i64 bn) (by simp [go_sem, World.cell?_alloc_past])
    have q1 := later hb1 (a := ⟨w.heap.size + 1, 1, none⟩) (v := .int .i64 bd) (by simp [go_sem, World.cell?_alloc_past])
    go_wp2_with fail
    refine (G1.out _).mono ?_
    rintro e w2 ⟨rfl, hb2⟩
    have q0' := later hb2 q0
    have q1' := later hb2 q1
    go_wp2_with fail
    refine (G2.out _).mono ?_
    rintro e w4 ⟨rfl, hb4⟩
    go_wp2_with fail
    refine (known_any _).mono ?_
    rintro e w3 ⟨rfl, hb3⟩
    go_wp2_with fail
    go_ret
    exact ⟨rfl, (by repeat (first | exact Below.refl _ _ | assumption | apply balloc | apply bdrew | (refine bset ?_ (by first | (simp; done) | omega | (simp; omega)) _) | (refine bnext ?_ (by assumption))))⟩
set_option maxHeartbeats 3200000 in
theorem compares_good (an ad bn bd X : Int) (w : World) (C : Hid (Cmp an ad bn bd X 0)) (R : Hid (∀ w, Calls Try.prog 25 #[.agg #[.int .i64 an, .int .i64 ad], .agg #[.int .i64 bn, .int .i64 bd]] w fun e w' => e = .returned (.int .i64 X) ∧ Below w.heap.size w w'))
    (h1 : Hid (fracOk (an, ad) = true)) (h2 : Hid (fracOk (bn, bd) = true)) :
    Calls Try.prog 4 #[.agg #[.int .i64 an, .int .i64 ad], .agg #[.int .i64 bn, .int .i64 bd]] w fun e w' => e = .returned (.bool true) ∧ Below w.heap.size w w' := by
  have F1 := fun w => refFrac_any an ad w
  have F2 := fun w => refFrac_any bn bd w
  rw [h1.out] at F1
  rw [h2.out] at F2
  have G1 := hide F1
  have G2 := hide F2
  clear F1 F2
  go_enter Try.func4, Try.ntmps4
  go_wp2_with fail
  refine (C.out _).mono ?_
  rintro e w1 ⟨rfl, hb1⟩
  have p0 := later hb1 (a := ⟨w.heap.size, 0, none⟩) (v := .int .i64 an) (by simp [go_sem, World.cell?_alloc_past])
  have p1 := later hb1 (a := ⟨w.heap.size, 1, none⟩) (v := .int .i64 ad) (by simp [go_sem, World.cell?_alloc_past])
  have q0 := later hb1 (a := ⟨w.heap.size + 1, 0, none⟩) (v := .int .i64 bn) (by simp [go_sem, World.cell?_alloc_past])
  have q1 := later hb1 (a := ⟨w.heap.size + 1, 1, none⟩) (v := .int .i64 bd) (by simp [go_sem, World.cell?_alloc_past])
  go_wp2_with fail
  refine (G1.out _).mono ?_
  rintro e w2 ⟨rfl, hb2⟩
  have p0' := later hb2 p0
  have p1' := later hb2 p1
  have q0' := later hb2 q0
  have q1' := later hb2 q1
  clear p0 p1 q0 q1
  go_wp2_with fail
  refine (G2.out _).mono ?_
  rintro e w4 ⟨rfl, hb4⟩
  have p0 := later hb4 p0'
  have p1 := later hb4 p1'
  have q0 := later hb4 q0'
  have q1 := later hb4 q1'
  clear p0' p1' q0' q1'
  go_wp2_with fail
  refine (R.out _).mono ?_
  rintro e w5 ⟨rfl, hb5⟩
  go_wp2_with fail
  refine (known_any _).mono ?_
  rintro e w3 ⟨rfl, hb3⟩
  go_wp2_with fail
  go_ret
  exact ⟨rfl, (by repeat (first | exact Below.refl _ _ | assumption | apply balloc | apply bdrew | (refine bset ?_ (by first | (simp; done) | omega | (simp; omega)) _) | (refine bnext ?_ (by assumption))))⟩
theorem unitsCompares_walk (an ad bn bd : Int) (w : World) :
    Calls Try.prog 4 #[.agg #[.int .i64 an, .int .i64 ad], .agg #[.int .i64 bn, .int .i64 bd]] w fun e w' => e = .returned (.bool true) ∧ Below w.heap.size w w' := by
  cases h : frac2Ok an ad bn bd with
  | false =>
    refine compares_bad an ad bn bd w (cmp_of (compareQ_bad h)) ?_
    rw [frac2_and] at h
    cases h1 : fracOk (an, ad) with
    | false => exact .inl rfl
    | true => rw [h1, Bool.true_and] at h; exact .inr ⟨rfl, h⟩
  | true =>
    obtain ⟨⟨⟨a0, a1⟩, a2, a3⟩, ⟨b0, b1⟩, b2, b3⟩ := frac2_bounds h
    have h' := h
    rw [frac2_and, Bool.and_eq_true] at h'
    exact compares_good an ad bn bd _ w (cmp_of (compareQ_good h)) (fun w => refCompare_any an ad bn bd w a0 a1 a2 a3 b0 b1 b2 b3) h'.1 h'.2
end Go.Proofs.Ytckapcfofkeicaa
