/-
  UnitsMulDivs: the walk.
-/
import Derived.Test.YtckapcfofkeicaaRefM
namespace Go.Proofs.Ytckapcfofkeicaa
set_option linter.unusedSimpArgs false
set_option linter.unusedVariables false
open Go.RowKit

theorem refFlo_true {N c : Int} (c0 : 1 ≤ c) (h : (refFlo N c).2.2 = true) : refFlo N c = (N / c, N % c, true) ∧ -3000000000000000 ≤ N / c ∧ N / c ≤ 3000000000000000 := by
  unfold refFlo at h ⊢
  by_cases hq : max N (-N) / c ≤ 2000000000000000
  · rw [if_pos hq]
    refine ⟨rfl, ?_⟩
    have r0 := Int.emod_nonneg N (show c ≠ 0 by omega)
    obtain ⟨d0, d1⟩ := neg_div (N := N) c0
    by_cases hN : 0 ≤ N
    · rw [show max N (-N) = N by omega] at hq
      have := Int.ediv_nonneg hN (show 0 ≤ c by omega)
      omega
    · rw [show max N (-N) = -N by omega] at hq
      have := Int.ediv_nonneg (show 0 ≤ -N by omega) (show 0 ≤ c by omega)
      by_cases hr : N % c = 0
      · have := (d0 hr).1; omega
      · have := (d1 (by omega)).1; omega
  · rw [if_neg hq] at h; simp at h
theorem refFlo_false {N c : Int} (c0 : 1 ≤ c) (h : (refFlo N c).2.2 = false) : (floorQ N c).2.2 = false := by
  cases hf : (floorQ N c).2.2 with
  | false => rfl
  | true =>
    obtain ⟨_, h0, h1⟩ := floorQ_true c0 hf
    unfold refFlo at h
    have r0 := Int.emod_nonneg N (show c ≠ 0 by omega)
    obtain ⟨d0, d1⟩ := neg_div (N := N) c0
    have hq : max N (-N) / c ≤ 2000000000000000 := by
      by_cases hN : 0 ≤ N
      · rw [show max N (-N) = N by omega]; omega
      · rw [show max N (-N) = -N by omega]
        by_cases hr : N % c = 0
        · have := (d0 hr).1; omega
        · have := (d1 (by omega)).1; omega
    rw [if_pos hq] at h; simp at h
theorem floorQ_out {N c : Int} (c0 : 1 ≤ c) (h : (floorQ N c).2.2 = false) : N / c < -1000000000000001 ∨ 1000000000000000 < N / c := by
  by_cases h0 : -1000000000000001 ≤ N / c
  · by_cases h1 : N / c ≤ 1000000000000000
    · rw [floorQ_of c0 h0 h1] at h; simp at h
    · omega
  · omega
theorem allIn_false {x : Int} (h : ¬ (-1000000000000000 ≤ x ∧ x ≤ 1000000000000000)) : allIn 1000000000000000 [x] = false := by
  cases hh : allIn 1000000000000000 [x] with
  | false => rfl
  | true => exact absurd (allIn_one.1 hh) h

/-- MulDiv, where the numbers are valid: by what is rounded down. -/
theorem mulDivQ_valid {a b c how : Int} (h1 : howOk how = true) (h2 : (allIn 1000000000000000 [a, b] && isDiv c) = true) (c0 : 1 ≤ c) :
    mulDivQ a b c how = (if allIn 1000000000000000 [a * b / c + (if upQ how (a * b / c) (a * b % c) c = true then 1 else 0)] = true then (a * b / c + (if upQ how (a * b / c) (a * b % c) c = true then 1 else 0), (if upQ how (a * b / c) (a * b % c) c = true then a * b % c - c else a * b % c), 0) else (0, 0, 10)) := by
  unfold mulDivQ
  rw [h1, if_neg (by simp), h2, if_neg (by simp)]
  cases hf : (floorQ (a * b) c).2.2 with
  | true =>
    obtain ⟨f, _, _⟩ := floorQ_true c0 hf
    rw [divQ_eq f]
    cases hu : upQ how (a * b / c) (a * b % c) c with
    | true =>
      simp only [if_true]
      cases hk : allIn 1000000000000000 [a * b / c + 1] with
      | true => simp; omega
      | false => simp
    | false =>
      simp only [Bool.false_eq_true, if_false, Int.add_zero]
      cases hk : allIn 1000000000000000 [a * b / c] with
      | true => simp
      | false => simp
  | false =>
    have o := floorQ_out c0 hf
    have hd : (divQ (a * b) c how).2.2 = false := by unfold divQ; rw [hf]; simp
    rw [hd, if_pos rfl]
    have : allIn 1000000000000000 [a * b / c + (if upQ how (a * b / c) (a * b % c) c = true then 1 else 0)] = false := by
      apply allIn_false
      split <;> omega
    rw [this, if_neg (by simp)]

theorem refMulDiv_any (a b c how : Int) (w : World) :
    Calls Try.prog 21 #[.int .i64 a, .int .i64 b, .int .i64 c, .int .u8 how] w fun e w' => e = .returned (.tuple #[.int .i64 (mulDivQ a b c how).1, .int .i64 (mulDivQ a b c how).2.1, .int .i64 (mulDivQ a b c how).2.2]) ∧ Below w.heap.size w w' := by
  cases h1 : howOk how with
  | false =>
    have e : mulDivQ a b c how = (0, 0, 2) := by unfold mulDivQ; rw [if_pos h1]
    rw [e]
    refine refMul_bad a b c how w 2 ?_
    have hn : ¬ (how = 1 ∨ how = 2 ∨ how = 3) := by intro h; rw [show howOk how = true by simpa [howOk, or_assoc] using h] at h1; cases h1
    by_cases hl : how < 1
    · exact .inl ⟨decide_eq_true hl, rfl⟩
    · exact .inr ⟨decide_eq_false hl, decide_eq_true (by omega), rfl⟩
  | true =>
    have hh : how = 1 ∨ how = 2 ∨ how = 3 := by simpa [howOk, or_assoc] using h1
    have k1 : decide (how < 1) = false := decide_eq_false (by omega)
    have k2 : decide (3 < how) = false := decide_eq_false (by omega)
    cases h2 : (allIn 1000000000000000 [a, b] && isDiv c) with
    | false =>
      have e : mulDivQ a b c how = (0, 0, 3) := by unfold mulDivQ; rw [h1, if_neg (by simp), if_pos h2]
      rw [e]
      refine refMul_none a b c how w k1 k2 ?_
      cases ha : allIn 1000000000000000 [a] with
      | false => exact .inl (num_of ha)
      | true =>
        cases hb : allIn 1000000000000000 [b] with
        | false => exact .inr (.inl ⟨num_of ha, num_of hb⟩)
        | true =>
          by_cases hc : c < 1
          · exact .inr (.inr (.inl ⟨num_of ha, num_of hb, decide_eq_true hc⟩))
          · refine .inr (.inr (.inr ⟨num_of ha, num_of hb, decide_eq_false hc, decide_eq_true ?_⟩))
            have a1 := allIn_one.1 ha
            have b1 := allIn_one.1 hb
            have e1 : allIn 1000000000000000 [a, b] = true := allIn_two.2 ⟨a1, b1⟩
            rw [e1, Bool.true_and] at h2
            by_cases hc2 : 1000000000000000 < c
            · exact hc2
            · rw [show isDiv c = true by simp [isDiv]; omega] at h2; cases h2
    | true =>
      have h2' := h2
      rw [Bool.and_eq_true, allIn_two] at h2'
      obtain ⟨⟨⟨a0, a1⟩, b0, b1⟩, hc⟩ := h2'
      have hc' : 1 ≤ c ∧ c ≤ 1000000000000000 := by unfold isDiv at hc; simpa using hc
      have H1 := num_of (allIn_one.2 ⟨a0, a1⟩)
      have H2 := num_of (allIn_one.2 ⟨b0, b1⟩)
      have k3 : decide (c < 1) = false := decide_eq_false (by omega)
      have k4 : decide (1000000000000000 < c) = false := decide_eq_false (by omega)
      have FL := fun w => refFloor_any a b c w a0 a1 b0 b1 hc'.1 hc'.2
      cases hf : (refFlo (a * b) c).2.2 with
      | false =>
        have hq := refFlo_false hc'.1 hf
        have e : mulDivQ a b c how = (0, 0, 10) := by
          unfold mulDivQ
          rw [h1, if_neg (by simp), h2, if_neg (by simp), if_pos (by unfold divQ; rw [hq]; simp)]
        rw [e]
        rw [hf] at FL
        exact refMul_far a b c how _ _ w k1 k2 H1 H2 k3 k4 FL
      | true =>
        obtain ⟨e1, q0, q1⟩ := refFlo_true hc'.1 hf
        rw [e1] at FL
        have s0 := Int.emod_nonneg (a * b) (show c ≠ 0 by omega)
        have s1 := Int.emod_lt_of_pos (a * b) (show 0 < c by omega)
        have s2 : a * b % c ≤ 1000000000000000 := by omega
        rw [mulDivQ_valid h1 h2 hc'.1]
        have fin : ∀ n r : Int, n = a * b / c + (if upQ how (a * b / c) (a * b % c) c = true then 1 else 0) → r = (if upQ how (a * b / c) (a * b % c) c = true then a * b % c - c else a * b % c) →
            (Calls Try.prog 21 #[.int .i64 a, .int .i64 b, .int .i64 c, .int .u8 how] w fun e w' => e = .returned (.tuple #[.int .i64 (if allIn 1000000000000000 [n] = true then n else 0), .int .i64 (if allIn 1000000000000000 [n] = true then r else 0), .int .i64 (if allIn 1000000000000000 [n] = true then 0 else 10)]) ∧ Below w.heap.size w w') →
            Calls Try.prog 21 #[.int .i64 a, .int .i64 b, .int .i64 c, .int .u8 how] w fun e w' => e = .returned (.tuple #[.int .i64 (if allIn 1000000000000000 [a * b / c + (if upQ how (a * b / c) (a * b % c) c = true then 1 else 0)] = true then (a * b / c + (if upQ how (a * b / c) (a * b % c) c = true then 1 else 0), (if upQ how (a * b / c) (a * b % c) c = true then a * b % c - c else a * b % c), 0) else (0, 0, 10) : Int × Int × Int).1, .int .i64 (if allIn 1000000000000000 [a * b / c + (if upQ how (a * b / c) (a * b % c) c = true then 1 else 0)] = true then (a * b / c + (if upQ how (a * b / c) (a * b % c) c = true then 1 else 0), (if upQ how (a * b / c) (a * b % c) c = true then a * b % c - c else a * b % c), 0) else (0, 0, 10) : Int × Int × Int).2.1, .int .i64 (if allIn 1000000000000000 [a * b / c + (if upQ how (a * b / c) (a * b % c) c = true then 1 else 0)] = true then (a * b / c + (if upQ how (a * b / c) (a * b % c) c = true then 1 else 0), (if upQ how (a * b / c) (a * b % c) c = true then a * b % c - c else a * b % c), 0) else (0, 0, 10) : Int × Int × Int).2.2]) ∧ Below w.heap.size w w' := by
          intro n r hn hr hC
          rw [← hn, ← hr]
          refine hC.mono ?_
          rintro e w' ⟨rfl, hb⟩
          refine ⟨?_, hb⟩
          cases allIn 1000000000000000 [n] <;> rfl
        rcases hh with rfl | rfl | rfl
        · simp only [upQ1, Bool.false_eq_true, if_false, Int.add_zero] at fin ⊢
          refine fin _ _ rfl rfl (refMul_go a b c 1 _ _ _ _ _ w H1 H2 k3 k4 FL (num_of rfl) q0 q1 s0 s2 hc'.1 hc'.2 ?_)
          by_cases hs : 0 < a * b % c
          · exact .inl ⟨rfl, rfl, rfl, decide_eq_true hs⟩
          · exact .inr (.inl ⟨rfl, rfl, rfl, decide_eq_false hs⟩)
        · by_cases hs : 0 < a * b % c
          · have hu : upQ 2 (a * b / c) (a * b % c) c = true := by rw [upQ2]; exact decide_eq_true hs
            simp only [hu, if_true] at fin ⊢
            exact fin _ _ rfl rfl (refMul_go a b c 2 _ _ _ _ _ w H1 H2 k3 k4 FL (num_of rfl) q0 q1 s0 s2 hc'.1 hc'.2 (.inr (.inr (.inl ⟨rfl, rfl, rfl, decide_eq_true hs⟩))))
          · have hu : upQ 2 (a * b / c) (a * b % c) c = false := by rw [upQ2]; exact decide_eq_false hs
            simp only [hu, Bool.false_eq_true, if_false, Int.add_zero] at fin ⊢
            exact fin _ _ rfl rfl (refMul_go a b c 2 _ _ _ _ _ w H1 H2 k3 k4 FL (num_of rfl) q0 q1 s0 s2 hc'.1 hc'.2 (.inr (.inr (.inr (.inl ⟨rfl, rfl, rfl, decide_eq_false hs⟩)))))
        · have up : ∀ u, upQ 3 (a * b / c) (a * b % c) c = u → u = true ∨ u = false := fun u _ => by cases u <;> simp
          by_cases hs : 0 < a * b % c
          · by_cases ht : c < 2 * (a * b % c)
            · have hu : upQ 3 (a * b / c) (a * b % c) c = true := by rw [upQ3, decide_eq_true (show c - a * b % c < a * b % c by omega), Bool.true_or]
              simp only [hu, if_true] at fin ⊢
              exact fin _ _ rfl rfl (refMul_go a b c 3 _ _ _ _ _ w H1 H2 k3 k4 FL (num_of rfl) q0 q1 s0 s2 hc'.1 hc'.2 (.inr (.inr (.inr (.inr (.inr (.inl ⟨rfl, rfl, rfl, decide_eq_true hs, decide_eq_true ht⟩)))))))
            · by_cases he : 2 * (a * b % c) = c
              · by_cases ho : (a * b / c).tmod 2 = 0
                · have hu : upQ 3 (a * b / c) (a * b % c) c = false := by rw [upQ3, decide_eq_false (show ¬ c - a * b % c < a * b % c by omega), decide_eq_false (show ¬ ¬ (a * b / c).tmod 2 = 0 from fun h => h ho)]; simp
                  simp only [hu, Bool.false_eq_true, if_false, Int.add_zero] at fin ⊢
                  exact fin _ _ rfl rfl (refMul_go a b c 3 _ _ _ _ _ w H1 H2 k3 k4 FL (num_of rfl) q0 q1 s0 s2 hc'.1 hc'.2 (.inr (.inr (.inr (.inr (.inr (.inr (.inr (.inl ⟨rfl, rfl, rfl, decide_eq_true hs, decide_eq_false ht, by simpa using he, by rw [ho]; rfl⟩)))))))))
                · have hu : upQ 3 (a * b / c) (a * b % c) c = true := by rw [upQ3, decide_eq_false (show ¬ c - a * b % c < a * b % c by omega), decide_eq_true (show a * b % c = c - a * b % c by omega), decide_eq_true (show ¬ (a * b / c).tmod 2 = 0 from ho)]; simp
                  simp only [hu, if_true] at fin ⊢
                  exact fin _ _ rfl rfl (refMul_go a b c 3 _ _ _ _ _ w H1 H2 k3 k4 FL (num_of rfl) q0 q1 s0 s2 hc'.1 hc'.2 (.inr (.inr (.inr (.inr (.inr (.inr (.inl ⟨rfl, rfl, rfl, decide_eq_true hs, decide_eq_false ht, by simpa using he, by simpa using ho⟩))))))))
              · have hu : upQ 3 (a * b / c) (a * b % c) c = false := by rw [upQ3, decide_eq_false (show ¬ c - a * b % c < a * b % c by omega), decide_eq_false (show ¬ a * b % c = c - a * b % c by omega)]; simp
                simp only [hu, Bool.false_eq_true, if_false, Int.add_zero] at fin ⊢
                exact fin _ _ rfl rfl (refMul_go a b c 3 _ _ _ _ _ w H1 H2 k3 k4 FL (num_of rfl) q0 q1 s0 s2 hc'.1 hc'.2 (.inr (.inr (.inr (.inr (.inr (.inr (.inr (.inr ⟨rfl, rfl, rfl, decide_eq_true hs, decide_eq_false ht, by simpa using he⟩)))))))))
          · have hu : upQ 3 (a * b / c) (a * b % c) c = false := by rw [upQ3, decide_eq_false (show ¬ c - a * b % c < a * b % c by omega), decide_eq_false (show ¬ a * b % c = c - a * b % c by omega)]; simp
            simp only [hu, Bool.false_eq_true, if_false, Int.add_zero] at fin ⊢
            exact fin _ _ rfl rfl (refMul_go a b c 3 _ _ _ _ _ w H1 H2 k3 k4 FL (num_of rfl) q0 q1 s0 s2 hc'.1 hc'.2 (.inr (.inr (.inr (.inr (.inl ⟨rfl, rfl, rfl, decide_eq_false hs⟩))))))

set_option maxRecDepth 100000 in
set_option maxHeartbeats 3200000 in
theorem unitsMulDivs_walk (a b c how : Int) (w : World) :
    Calls Try.prog 3 #[.agg #[.int .i64 a, .int .i64 b, .int .i64 c, .int .u8 how]] w fun e w' => e = .returned (.bool true) ∧ Below w.heap.size w w' := by
  have M := hide fun w => mulDiv_any a b c how w
  have R := hide fun w => refMulDiv_any a b c how w
  obtain ⟨x, hx⟩ : ∃ x, mulDivQ a b c how = x := ⟨_, rfl⟩
  rw [hx] at M R
  clear hx
  obtain ⟨n, r, E⟩ := x
  go_enter Try.func3, Try.ntmps3
  go_wp2_with fail
  refine (M.out _).mono ?_
  rintro e w1 ⟨rfl, hb1⟩
  have p0 := later hb1 (a := ⟨w.heap.size, 0, none⟩) (v := .int .i64 a) (by simp [go_sem, World.cell?_alloc_past])
  have p1 := later hb1 (a := ⟨w.heap.size, 1, none⟩) (v := .int .i64 b) (by simp [go_sem, World.cell?_alloc_past])
  have p2 := later hb1 (a := ⟨w.heap.size, 2, none⟩) (v := .int .i64 c) (by simp [go_sem, World.cell?_alloc_past])
  have p3 := later hb1 (a := ⟨w.heap.size, 3, none⟩) (v := .int .u8 how) (by simp [go_sem, World.cell?_alloc_past])
  go_wp2_with fail
  refine (R.out _).mono ?_
  rintro e w2 ⟨rfl, hb2⟩
  go_wp2_with fail
  refine (known_any _).mono ?_
  rintro e w3 ⟨rfl, hb3⟩
  go_wp2_with fail
  go_ret
  exact ⟨rfl, (by repeat (first | exact Below.refl _ _ | assumption | apply balloc | apply bdrew | (refine bset ?_ (by first | (simp; done) | omega | (simp; omega)) _) | (refine bnext ?_ (by assumption))))⟩
end Go.Proofs.Ytckapcfofkeicaa
