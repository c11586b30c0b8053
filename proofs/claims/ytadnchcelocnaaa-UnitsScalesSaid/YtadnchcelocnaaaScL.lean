/-
  UnitsMulDivs: the walk. units.Sum, and the reference's. The reference: fits, Sum. units.someRanges. units.Meet, units.Hull. units.Meet. The reference: Meet, Hull. UnitsLists: the walk. The reference: spread; what it has to do with what is gathered. The reference: spread, walked. units.Less, units.Over. The reference: Less, Times, Over. UnitsPairs: the walk. The reference: whole, Cmp, Compare, Frac; UnitsCompares: the walk. units.Scale, the reference's, UnitsScales: the walk.
-/
import Derived.Test.YtadnchcelocnaaaRefM
import Derived.Test.YtadnchcelocnaaaRefR
import Derived.BigQuiet
import Derived.Deep.DeepCutAuto
import Derived.Deep.RegionHeld3
import Derived.BigRegion
import Derived.Test.YtadnchcelocnaaaFrameD
import Derived.Test.YtadnchcelocnaaaOrdW
namespace Go.Proofs.Ytadnchcelocnaaa
set_option linter.unusedSimpArgs false
set_option linter.unusedVariables false
open Go.RowKit

theorem refFlo_true {N c : Int} (c0 : 1 ≤ c) (h : (refFlo N c).2.2 = true) : refFlo N c = (N / c, N % c, true) ∧ -3000000000000000 ≤ N / c ∧ N / c ≤ 3000000000000000 := by
  unfold refFlo at h ⊢
  by_cases hq : max N (-N) / c ≤ 2000000000000000
  · rw [if_pos hq]
    refine ⟨rfl, ?_⟩
    have r0 := Int.emod_nonneg N (show c ≠ 0 by omega)
    obtain ⟨d0, d1⟩ := neg_div (N := N) c0
    by_cases hN : 0 ≤ N
    · rw [show max N (-N) = N by omega] at hq
      have := Int.ediv_nonneg hN (show 0 ≤ c by omega)
      omega
    · rw [show max N (-N) = -N by omega] at hq
      have := Int.ediv_nonneg (show 0 ≤ -N by omega) (show 0 ≤ c by omega)
      by_cases hr : N % c = 0
      · have := (d0 hr).1; omega
      · have := (d1 (by omega)).1; omega
  · rw [if_neg hq] at h; simp at h
theorem refFlo_false {N c : Int} (c0 : 1 ≤ c) (h : (refFlo N c).2.2 = false) : (floorQ N c).2.2 = false := by
  cases hf : (floorQ N c).2.2 with
  | false => rfl
  | true =>
    obtain ⟨_, h0, h1⟩ := floorQ_true c0 hf
    unfold refFlo at h
    have r0 := Int.emod_nonneg N (show c ≠ 0 by omega)
    obtain ⟨d0, d1⟩ := neg_div (N := N) c0
    have hq : max N (-N) / c ≤ 2000000000000000 := by
      by_cases hN : 0 ≤ N
      · rw [show max N (-N) = N by omega]; omega
      · rw [show max N (-N) = -N by omega]
        by_cases hr : N % c = 0
        · have := (d0 hr).1; omega
        · have := (d1 (by omega)).1; omega
    rw [if_pos hq] at h; simp at h
theorem floorQ_out {N c : Int} (c0 : 1 ≤ c) (h : (floorQ N c).2.2 = false) : N / c < -1000000000000001 ∨ 1000000000000000 < N / c := by
  by_cases h0 : -1000000000000001 ≤ N / c
  · by_cases h1 : N / c ≤ 1000000000000000
    · rw [floorQ_of c0 h0 h1] at h; simp at h
    · omega
  · omega
theorem allIn_false {x : Int} (h : ¬ (-1000000000000000 ≤ x ∧ x ≤ 1000000000000000)) : allIn 1000000000000000 [x] = false := by
  cases hh : allIn 1000000000000000 [x] with
  | false => rfl
  | true => exact absurd (allIn_one.1 hh) h

/-- MulDiv, where the numbers are valid: by what is rounded down. -/
theorem mulDivQ_valid {a b c how : Int} (h1 : howOk how = true) (h2 : (allIn 1000000000000000 [a, b] && isDiv c) = true) (c0 : 1 ≤ c) :
    mulDivQ a b c how = (if allIn 1000000000000000 [a * b / c + (if upQ how (a * b / c) (a * b % c) c = true then 1 else 0)] = true then (a * b / c + (if upQ how (a * b / c) (a * b % c) c = true then 1 else 0), (if upQ how (a * b / c) (a * b % c) c = true then a * b % c - c else a * b % c), 0) else (0, 0, 10)) := by
  unfold mulDivQ
  rw [h1, if_neg (by simp), h2, if_neg (by simp)]
  cases hf : (floorQ (a * b) c).2.2 with
  | true =>
    obtain ⟨f, _, _⟩ := floorQ_true c0 hf
    rw [divQ_eq f]
    cases hu : upQ how (a * b / c) (a * b % c) c with
    | true =>
      simp only [if_true]
      cases hk : allIn 1000000000000000 [a * b / c + 1] with
      | true => simp; omega
      | false => simp
    | false =>
      simp only [Bool.false_eq_true, if_false, Int.add_zero]
      cases hk : allIn 1000000000000000 [a * b / c] with
      | true => simp
      | false => simp
  | false =>
    have o := floorQ_out c0 hf
    have hd : (divQ (a * b) c how).2.2 = false := by unfold divQ; rw [hf]; simp
    rw [hd, if_pos rfl]
    have : allIn 1000000000000000 [a * b / c + (if upQ how (a * b / c) (a * b % c) c = true then 1 else 0)] = false := by
      apply allIn_false
      split <;> omega
    rw [this, if_neg (by simp)]

theorem refMulDiv_any (a b c how : Int) (w : World) :
    Calls Try.prog 21 #[.int .i64 a, .int .i64 b, .int .i64 c, .int .u8 how] w fun e w' => e = .returned (.tuple #[.int .i64 (mulDivQ a b c how).1, .int .i64 (mulDivQ a b c how).2.1, .int .i64 (mulDivQ a b c how).2.2]) ∧ Below w.heap.size w w' := by
  cases h1 : howOk how with
  | false =>
    have e : mulDivQ a b c how = (0, 0, 2) := by unfold mulDivQ; rw [if_pos h1]
    rw [e]
    refine refMul_bad a b c how w 2 ?_
    have hn : ¬ (how = 1 ∨ how = 2 ∨ how = 3) := by intro h; rw [show howOk how = true by simpa [howOk, or_assoc] using h] at h1; cases h1
    by_cases hl : how < 1
    · exact .inl ⟨decide_eq_true hl, rfl⟩
    · exact .inr ⟨decide_eq_false hl, decide_eq_true (by omega), rfl⟩
  | true =>
    have hh : how = 1 ∨ how = 2 ∨ how = 3 := by simpa [howOk, or_assoc] using h1
    have k1 : decide (how < 1) = false := decide_eq_false (by omega)
    have k2 : decide (3 < how) = false := decide_eq_false (by omega)
    cases h2 : (allIn 1000000000000000 [a, b] && isDiv c) with
    | false =>
      have e : mulDivQ a b c how = (0, 0, 3) := by unfold mulDivQ; rw [h1, if_neg (by simp), if_pos h2]
      rw [e]
      refine refMul_none a b c how w k1 k2 ?_
      cases ha : allIn 1000000000000000 [a] with
      | false => exact .inl (num_of ha)
      | true =>
        cases hb : allIn 1000000000000000 [b] with
        | false => exact .inr (.inl ⟨num_of ha, num_of hb⟩)
        | true =>
          by_cases hc : c < 1
          · exact .inr (.inr (.inl ⟨num_of ha, num_of hb, decide_eq_true hc⟩))
          · refine .inr (.inr (.inr ⟨num_of ha, num_of hb, decide_eq_false hc, decide_eq_true ?_⟩))
            have a1 := allIn_one.1 ha
            have b1 := allIn_one.1 hb
            have e1 : allIn 1000000000000000 [a, b] = true := allIn_two.2 ⟨a1, b1⟩
            rw [e1, Bool.true_and] at h2
            by_cases hc2 : 1000000000000000 < c
            · exact hc2
            · rw [show isDiv c = true by simp [isDiv]; omega] at h2; cases h2
    | true =>
      have h2' := h2
      rw [Bool.and_eq_true, allIn_two] at h2'
      obtain ⟨⟨⟨a0, a1⟩, b0, b1⟩, hc⟩ := h2'
      have hc' : 1 ≤ c ∧ c ≤ 1000000000000000 := by unfold isDiv at hc; simpa using hc
      have H1 := num_of (allIn_one.2 ⟨a0, a1⟩)
      have H2 := num_of (allIn_one.2 ⟨b0, b1⟩)
      have k3 : decide (c < 1) = false := decide_eq_false (by omega)
      have k4 : decide (1000000000000000 < c) = false := decide_eq_false (by omega)
      have FL := fun w => refFloor_any a b c w a0 a1 b0 b1 hc'.1 hc'.2
      cases hf : (refFlo (a * b) c).2.2 with
      | false =>
        have hq := refFlo_false hc'.1 hf
        have e : mulDivQ a b c how = (0, 0, 10) := by
          unfold mulDivQ
          rw [h1, if_neg (by simp), h2, if_neg (by simp), if_pos (by unfold divQ; rw [hq]; simp)]
        rw [e]
        rw [hf] at FL
        exact refMul_far a b c how _ _ w k1 k2 H1 H2 k3 k4 FL
      | true =>
        obtain ⟨e1, q0, q1⟩ := refFlo_true hc'.1 hf
        rw [e1] at FL
        have s0 := Int.emod_nonneg (a * b) (show c ≠ 0 by omega)
        have s1 := Int.emod_lt_of_pos (a * b) (show 0 < c by omega)
        have s2 : a * b % c ≤ 1000000000000000 := by omega
        rw [mulDivQ_valid h1 h2 hc'.1]
        have fin : ∀ n r : Int, n = a * b / c + (if upQ how (a * b / c) (a * b % c) c = true then 1 else 0) → r = (if upQ how (a * b / c) (a * b % c) c = true then a * b % c - c else a * b % c) →
            (Calls Try.prog 21 #[.int .i64 a, .int .i64 b, .int .i64 c, .int .u8 how] w fun e w' => e = .returned (.tuple #[.int .i64 (if allIn 1000000000000000 [n] = true then n else 0), .int .i64 (if allIn 1000000000000000 [n] = true then r else 0), .int .i64 (if allIn 1000000000000000 [n] = true then 0 else 10)]) ∧ Below w.heap.size w w') →
            Calls Try.prog 21 #[.int .i64 a, .int .i64 b, .int .i64 c, .int .u8 how] w fun e w' => e = .returned (.tuple #[.int .i64 (if allIn 1000000000000000 [a * b / c + (if upQ how (a * b / c) (a * b % c) c = true then 1 else 0)] = true then (a * b / c + (if upQ how (a * b / c) (a * b % c) c = true then 1 else 0), (if upQ how (a * b / c) (a * b % c) c = true then a * b % c - c else a * b % c), 0) else (0, 0, 10) : Int × Int × Int).1, .int .i64 (if allIn 1000000000000000 [a * b / c + (if upQ how (a * b / c) (a * b % c) c = true then 1 else 0)] = true then (a * b / c + (if upQ how (a * b / c) (a * b % c) c = true then 1 else 0), (if upQ how (a * b / c) (a * b % c) c = true then a * b % c - c else a * b % c), 0) else (0, 0, 10) : Int × Int × Int).2.1, .int .i64 (if allIn 1000000000000000 [a * b / c + (if upQ how (a * b / c) (a * b % c) c = true then 1 else 0)] = true then (a * b / c + (if upQ how (a * b / c) (a * b % c) c = true then 1 else 0), (if upQ how (a * b / c) (a * b % c) c = true then a * b % c - c else a * b % c), 0) else (0, 0, 10) : Int × Int × Int).2.2]) ∧ Below w.heap.size w w' := by
          intro n r hn hr hC
          rw [← hn, ← hr]
          refine hC.mono ?_
          rintro e w' ⟨rfl, hb⟩
          refine ⟨?_, hb⟩
          cases allIn 1000000000000000 [n] <;> rfl
        rcases hh with rfl | rfl | rfl
        · simp only [upQ1, Bool.false_eq_true, if_false, Int.add_zero] at fin ⊢
          refine fin _ _ rfl rfl (refMul_go a b c 1 _ _ _ _ _ w H1 H2 k3 k4 FL (num_of rfl) q0 q1 s0 s2 hc'.1 hc'.2 ?_)
          by_cases hs : 0 < a * b % c
          · exact .inl ⟨rfl, rfl, rfl, decide_eq_true hs⟩
          · exact .inr (.inl ⟨rfl, rfl, rfl, decide_eq_false hs⟩)
        · by_cases hs : 0 < a * b % c
          · have hu : upQ 2 (a * b / c) (a * b % c) c = true := by rw [upQ2]; exact decide_eq_true hs
            simp only [hu, if_true] at fin ⊢
            exact fin _ _ rfl rfl (refMul_go a b c 2 _ _ _ _ _ w H1 H2 k3 k4 FL (num_of rfl) q0 q1 s0 s2 hc'.1 hc'.2 (.inr (.inr (.inl ⟨rfl, rfl, rfl, decide_eq_true hs⟩))))
          · have hu : upQ 2 (a * b / c) (a * b % c) c = false := by rw [upQ2]; exact decide_eq_false hs
            simp only [hu, Bool.false_eq_true, if_false, Int.add_zero] at fin ⊢
            exact fin _ _ rfl rfl (refMul_go a b c 2 _ _ _ _ _ w H1 H2 k3 k4 FL (num_of rfl) q0 q1 s0 s2 hc'.1 hc'.2 (.inr (.inr (.inr (.inl ⟨rfl, rfl, rfl, decide_eq_false hs⟩)))))
        · have up : ∀ u, upQ 3 (a * b / c) (a * b % c) c = u → u = true ∨ u = false := fun u _ => by cases u <;> simp
          by_cases hs : 0 < a * b % c
          · by_cases ht : c < 2 * (a * b % c)
            · have hu : upQ 3 (a * b / c) (a * b % c) c = true := by rw [upQ3, decide_eq_true (show c - a * b % c < a * b % c by omega), Bool.true_or]
              simp only [hu, if_true] at fin ⊢
              exact fin _ _ rfl rfl (refMul_go a b c 3 _ _ _ _ _ w H1 H2 k3 k4 FL (num_of rfl) q0 q1 s0 s2 hc'.1 hc'.2 (.inr (.inr (.inr (.inr (.inr (.inl ⟨rfl, rfl, rfl, decide_eq_true hs, decide_eq_true ht⟩)))))))
            · by_cases he : 2 * (a * b % c) = c
              · by_cases ho : (a * b / c).tmod 2 = 0
                · have hu : upQ 3 (a * b / c) (a * b % c) c = false := by rw [upQ3, decide_eq_false (show ¬ c - a * b % c < a * b % c by omega), decide_eq_false (show ¬ ¬ (a * b / c).tmod 2 = 0 from fun h => h ho)]; simp
                  simp only [hu, Bool.false_eq_true, if_false, Int.add_zero] at fin ⊢
                  exact fin _ _ rfl rfl (refMul_go a b c 3 _ _ _ _ _ w H1 H2 k3 k4 FL (num_of rfl) q0 q1 s0 s2 hc'.1 hc'.2 (.inr (.inr (.inr (.inr (.inr (.inr (.inr (.inl ⟨rfl, rfl, rfl, decide_eq_true hs, decide_eq_false ht, by simpa using he, by rw [ho]; rfl⟩)))))))))
                · have hu : upQ 3 (a * b / c) (a * b % c) c = true := by rw [upQ3, decide_eq_false (show ¬ c - a * b % c < a * b % c by omega), decide_eq_true (show a * b % c = c - a * b % c by omega), decide_eq_true (show ¬ (a * b / c).tmod 2 = 0 from ho)]; simp
                  simp only [hu, if_true] at fin ⊢
                  exact fin _ _ rfl rfl (refMul_go a b c 3 _ _ _ _ _ w H1 H2 k3 k4 FL (num_of rfl) q0 q1 s0 s2 hc'.1 hc'.2 (.inr (.inr (.inr (.inr (.inr (.inr (.inl ⟨rfl, rfl, rfl, decide_eq_true hs, decide_eq_false ht, by simpa using he, by simpa using ho⟩))))))))
              · have hu : upQ 3 (a * b / c) (a * b % c) c = false := by rw [upQ3, decide_eq_false (show ¬ c - a * b % c < a * b % c by omega), decide_eq_false (show ¬ a * b % c = c - a * b % c by omega)]; simp
                simp only [hu, Bool.false_eq_true, if_false, Int.add_zero] at fin ⊢
                exact fin _ _ rfl rfl (refMul_go a b c 3 _ _ _ _ _ w H1 H2 k3 k4 FL (num_of rfl) q0 q1 s0 s2 hc'.1 hc'.2 (.inr (.inr (.inr (.inr (.inr (.inr (.inr (.inr ⟨rfl, rfl, rfl, decide_eq_true hs, decide_eq_false ht, by simpa using he⟩)))))))))
          · have hu : upQ 3 (a * b / c) (a * b % c) c = false := by rw [upQ3, decide_eq_false (show ¬ c - a * b % c < a * b % c by omega), decide_eq_false (show ¬ a * b % c = c - a * b % c by omega)]; simp
            simp only [hu, Bool.false_eq_true, if_false, Int.add_zero] at fin ⊢
            exact fin _ _ rfl rfl (refMul_go a b c 3 _ _ _ _ _ w H1 H2 k3 k4 FL (num_of rfl) q0 q1 s0 s2 hc'.1 hc'.2 (.inr (.inr (.inr (.inr (.inl ⟨rfl, rfl, rfl, decide_eq_false hs⟩))))))

set_option maxRecDepth 100000 in
set_option maxHeartbeats 3200000 in
theorem unitsMulDivs_walk (a b c how : Int) (w : World) :
    Calls Try.prog 3 #[.agg #[.int .i64 a, .int .i64 b, .int .i64 c, .int .u8 how]] w fun e w' => e = .returned (.bool true) ∧ Below w.heap.size w w' := by
  have M := hide fun w => mulDiv_any a b c how w
  have R := hide fun w => refMulDiv_any a b c how w
  obtain ⟨x, hx⟩ : ∃ x, mulDivQ a b c how = x := ⟨_, rfl⟩
  rw [hx] at M R
  clear hx
  obtain ⟨n, r, E⟩ := x
  go_enter Try.func3, Try.ntmps3
  go_wp2_with fail
  refine (M.out _).mono ?_
  rintro e w1 ⟨rfl, hb1⟩
  have p0 := later hb1 (a := ⟨w.heap.size, 0, none⟩) (v := .int .i64 a) (by simp [go_sem, World.cell?_alloc_past])
  have p1 := later hb1 (a := ⟨w.heap.size, 1, none⟩) (v := .int .i64 b) (by simp [go_sem, World.cell?_alloc_past])
  have p2 := later hb1 (a := ⟨w.heap.size, 2, none⟩) (v := .int .i64 c) (by simp [go_sem, World.cell?_alloc_past])
  have p3 := later hb1 (a := ⟨w.heap.size, 3, none⟩) (v := .int .u8 how) (by simp [go_sem, World.cell?_alloc_past])
  go_wp2_with fail
  refine (R.out _).mono ?_
  rintro e w2 ⟨rfl, hb2⟩
  go_wp2_with fail
  refine (known_any _).mono ?_
  rintro e w3 ⟨rfl, hb3⟩
  go_wp2_with fail
  go_ret
  exact ⟨rfl, (by repeat (first | exact Below.refl _ _ | assumption | apply balloc | apply bdrew | (refine bset ?_ (by first | (simp; done) | omega | (simp; omega)) _) | (refine bnext ?_ (by assumption))))⟩
end Go.Proofs.Ytadnchcelocnaaa

namespace Go.Proofs.Ytadnchcelocnaaa
set_option linter.unusedSimpArgs false
set_option linter.unusedVariables false
open Go.RowKit

/-- What Sum returns. -/
def sumQ (rs : List (Int × Int)) : Int × Int × Int :=
  if (listE rs == 0) = false then (0, 0, listE rs) else if allIn 1000000000000000 [sumL rs rs.length, sumH rs rs.length] = true then (sumL rs rs.length, sumH rs rs.length, 0) else (0, 0, 10)
/-- The conditions on a list of ranges come to E. -/
def ListCond (rs : List (Int × Int)) (E : Int) (k1 k2 : Bool) : Prop := decide ((rs.length : Int) ≤ 100) = k1 ∧ rs.all rangeOk = k2 ∧ ∀ f1 c1 f2 c2, firstE [⟨5, f1, c1, k1⟩, ⟨2, f2, c2, k2⟩] = E
set_option maxHeartbeats 1600000 in
theorem sum_bad (rs : List (Int × Int)) (a : Option Addr) (cap : Nat) (E : Int) (k1 k2 : Bool) (w : World) (hE : (E == 0) = false) (hc : Hid (ListCond rs E k1 k2)) (hl : rs.length ≤ 140737488351232) (h : Hid (IsPairs w a rs)) :
    Calls Try.prog 31 #[.slice a rs.length cap] w fun e w' => e = .returned (.tuple #[.agg #[.int .i64 0, .int .i64 0], .int .i64 E]) ∧ Below w.heap.size w w' := by
  go_enter Try.func31, Try.ntmps31
  go_wp2_with fail
  refine (atMost_ex k1 _ _ _ hc.out.1).mono ?_
  rintro e wA ⟨rfl, hA, hbA⟩
  (try simp at hA)
  have c4 := later hbA (a := ⟨w.heap.size, 0, none⟩) (v := .int .i64 0) (by simp [go_sem, World.cell?_alloc_past])
  have c5 := later hbA (a := ⟨w.heap.size, 1, none⟩) (v := .int .i64 0) (by simp [go_sem, World.cell?_alloc_past])
  have f4 := free_later hbA (a := ⟨w.heap.size, 0, none⟩) (v := .int .i64 0) (by simp [go_sem, World.cell?_alloc_past]) (by simp [go_sem, World.cell?_alloc_past])
  have f5 := free_later hbA (a := ⟨w.heap.size, 1, none⟩) (v := .int .i64 0) (by simp [go_sem, World.cell?_alloc_past]) (by simp [go_sem, World.cell?_alloc_past])
  go_wp2_with fail
  refine (validRanges_ex k2 a cap rs.length rs _ hc.out.2.1 rfl hl (pairs_later h.out (show Below w.heap.size w wA from (by repeat (first | exact Below.refl _ _ | assumption | apply balloc | apply bdrew | (refine bset ?_ (by first | (simp; done) | omega | (simp; omega)) _) | (refine bnext ?_ (by assumption))))))).mono ?_
  rintro e wB ⟨rfl, hB, hbB⟩
  (try simp at hB)
  go_wp2_with fail
  refine (firstError_is E [⟨5, 114, _, k1⟩, ⟨2, 114, _, k2⟩] _ _ _ (hc.out.2.2 _ _ _ _) (by simp) (by simp) (cnds_two_at (by simp)) (tells_two (cnd_later hA (show Below wA.heap.size wA _ from balloc hbB)) (fun _ => cnd_later hB (balloc (Below.refl _ _))))).mono ?_
  rintro e wC ⟨rfl, hbC⟩
  have ⟨d4, g4⟩ := cf_later hbC (cf_later (balloc (Below.refl _ _)) (cf_later hbB ⟨c4, f4⟩))
  have ⟨d5, g5⟩ := cf_later hbC (cf_later (balloc (Below.refl _ _)) (cf_later hbB ⟨c5, f5⟩))
  go_wp2_with fail
  exact bodyPost_ret (v := .tuple #[.agg #[.int .i64 0, .int .i64 0], .int .i64 E]) (by simp [results, Try.results31, go_sem, d4, d5]) rfl ⟨rfl, (by repeat (first | exact Below.refl _ _ | assumption | apply balloc | apply bdrew | (refine bset ?_ (by first | (simp; done) | omega | (simp; omega)) _) | (refine bnext ?_ (by assumption))))⟩
set_option maxHeartbeats 1600000 in
theorem sum_good (rs : List (Int × Int)) (a : Option Addr) (cap : Nat) (L H x y E : Int) (w : World) (hc : Hid (ListCond rs 0 true true)) (hl : rs.length ≤ 140737488351232) (h : Hid (IsPairs w a rs))
    (hT : Hid (∀ W, IsPairs W a rs → Calls Try.prog 88 #[.slice a rs.length cap] W fun e w' => e = .returned (.agg #[.int .i64 L, .int .i64 H]) ∧ Below W.heap.size W w'))
    (hLi : Hid (∀ W, Calls Try.prog 87 #[.agg #[.int .i64 L, .int .i64 H]] W fun e w' => e = .returned (.tuple #[.agg #[.int .i64 x, .int .i64 y], .int .i64 E]) ∧ Below W.heap.size W w')) :
    Calls Try.prog 31 #[.slice a rs.length cap] w fun e w' => e = .returned (.tuple #[.agg #[.int .i64 x, .int .i64 y], .int .i64 E]) ∧ Below w.heap.size w w' := by
  go_enter Try.func31, Try.ntmps31
  go_wp2_with fail
  refine (atMost_ex true _ _ _ hc.out.1).mono ?_
  rintro e wA ⟨rfl, hA, hbA⟩
  (try simp at hA)
  have c4 := later hbA (a := ⟨w.heap.size, 0, none⟩) (v := .int .i64 0) (by simp [go_sem, World.cell?_alloc_past])
  have c5 := later hbA (a := ⟨w.heap.size, 1, none⟩) (v := .int .i64 0) (by simp [go_sem, World.cell?_alloc_past])
  have f4 := free_later hbA (a := ⟨w.heap.size, 0, none⟩) (v := .int .i64 0) (by simp [go_sem, World.cell?_alloc_past]) (by simp [go_sem, World.cell?_alloc_past])
  have f5 := free_later hbA (a := ⟨w.heap.size, 1, none⟩) (v := .int .i64 0) (by simp [go_sem, World.cell?_alloc_past]) (by simp [go_sem, World.cell?_alloc_past])
  go_wp2_with fail
  refine (validRanges_ex true a cap rs.length rs _ hc.out.2.1 rfl hl (pairs_later h.out (show Below w.heap.size w wA from (by repeat (first | exact Below.refl _ _ | assumption | apply balloc | apply bdrew | (refine bset ?_ (by first | (simp; done) | omega | (simp; omega)) _) | (refine bnext ?_ (by assumption))))))).mono ?_
  rintro e wB ⟨rfl, hB, hbB⟩
  (try simp at hB)
  go_wp2_with fail
  refine (firstError_is 0 [⟨5, 114, _, true⟩, ⟨2, 114, _, true⟩] _ _ _ (hc.out.2.2 _ _ _ _) (by simp) (by simp) (cnds_two_at (by simp)) (tells_two (cnd_later hA (show Below wA.heap.size wA _ from balloc hbB)) (fun _ => cnd_later hB (balloc (Below.refl _ _))))).mono ?_
  rintro e wC ⟨rfl, hbC⟩
  have ⟨d4, g4⟩ := cf_later hbC (cf_later (balloc (Below.refl _ _)) (cf_later hbB ⟨c4, f4⟩))
  have ⟨d5, g5⟩ := cf_later hbC (cf_later (balloc (Below.refl _ _)) (cf_later hbB ⟨c5, f5⟩))
  have BC : Below w.heap.size w wC := (by repeat (first | exact Below.refl _ _ | assumption | apply balloc | apply bdrew | (refine bset ?_ (by first | (simp; done) | omega | (simp; omega)) _) | (refine bnext ?_ (by assumption))))
  clear c4 c5 f4 f5
  go_wp2_with fail
  refine (hT.out _ (pairs_later h.out BC)).mono ?_
  rintro e wD ⟨rfl, hbD⟩
  have ⟨c4, f4⟩ := cf_later hbD ⟨d4, g4⟩
  have ⟨c5, f5⟩ := cf_later hbD ⟨d5, g5⟩
  clear d4 d5 g4 g5
  go_wp2_with fail
  refine (hLi.out _).mono ?_
  rintro e wE ⟨rfl, hbE⟩
  have ⟨d4, g4⟩ := cf_later hbE ⟨c4, f4⟩
  have ⟨d5, g5⟩ := cf_later hbE ⟨c5, f5⟩
  have z4 := World.block_lt_of_cell? _ _ d4
  clear c4 c5 f4 f5
  go_wp2_with fail
  have yy := two_set (x := .int .i64 x) (y := .int .i64 y) d4 d5
  exact bodyPost_ret (v := .tuple #[.agg #[.int .i64 x, .int .i64 y], .int .i64 E]) (by simp [results, Try.results31, go_sem, yy.1, yy.2]) rfl ⟨rfl, bset (bset (bnext (bnext BC hbD) hbE) (by simp) _) (by simp) _⟩

theorem listE_cases (rs : List (Int × Int)) : (∃ E k1 k2, (E == 0) = false ∧ listE rs = E ∧ ListCond rs E k1 k2) ∨ (listE rs = 0 ∧ rs.length ≤ 100 ∧ rs.all rangeOk = true ∧ ListCond rs 0 true true) := by
  unfold listE
  cases h1 : decide ((rs.length : Int) ≤ 100) with
  | false => exact .inl ⟨5, false, _, rfl, by rw [if_pos rfl], h1, rfl, fun _ _ _ _ => rfl⟩
  | true =>
    cases h2 : rs.all rangeOk with
    | false => exact .inl ⟨2, true, false, rfl, by rw [if_neg (by simp), if_pos rfl], h1, h2, fun _ _ _ _ => rfl⟩
    | true => exact .inr ⟨by rw [if_neg (by simp), if_neg (by simp)], by have := of_decide_eq_true h1; omega, rfl, h1, h2, fun _ _ _ _ => rfl⟩
theorem total_of {rs : List (Int × Int)} (hn : rs.length ≤ 100) (h2 : rs.all rangeOk = true) (a : Option Addr) (cap : Nat) : ∀ W, IsPairs W a rs → Calls Try.prog 88 #[.slice a rs.length cap] W fun e w' => e = .returned (.agg #[.int .i64 (sumL rs rs.length), .int .i64 (sumH rs rs.length)]) ∧ Below W.heap.size W w' := fun W hW =>
  total_any rs a cap W (sumL rs) (sumH rs) (by omega) hW (by simp [sumL, isum, Hid]) (by simp [sumH, isum, Hid]) (fun k hk => sumL_step hk) (fun k hk => sumH_step hk)
    (fun k hk => by have := sums_bound h2 k hk; omega) (fun k hk => by have := sums_bound h2 k hk; omega)
theorem sum_any (rs : List (Int × Int)) (a : Option Addr) (cap : Nat) (w : World) (hl : rs.length ≤ 140737488351232) (h : IsPairs w a rs) :
    Calls Try.prog 31 #[.slice a rs.length cap] w fun e w' => e = .returned (.tuple #[.agg #[.int .i64 (sumQ rs).1, .int .i64 (sumQ rs).2.1], .int .i64 (sumQ rs).2.2]) ∧ Below w.heap.size w w' := by
  unfold sumQ
  rcases listE_cases rs with ⟨E, k1, k2, hE, e, hc⟩ | ⟨e, hn, h2, hc⟩
  · rw [e, if_pos hE]
    exact sum_bad rs a cap E k1 k2 w hE hc hl h
  · rw [e, if_neg (by simp)]
    have hLi := fun W => limited_any (sumL rs rs.length) (sumH rs rs.length) (allIn 1000000000000000 [sumL rs rs.length, sumH rs rs.length]) W rfl
    refine sum_good rs a cap _ _ _ _ _ w hc hl h (total_of hn h2 a cap) (fun W => (hLi W).mono ?_)
    rintro e' w' ⟨he, hb⟩
    refine ⟨?_, hb⟩
    rw [he]
    cases allIn 1000000000000000 [sumL rs rs.length, sumH rs rs.length] <;> rfl
end Go.Proofs.Ytadnchcelocnaaa

namespace Go.Proofs.Ytadnchcelocnaaa
set_option linter.unusedSimpArgs false
set_option linter.unusedVariables false
open Go.RowKit

theorem fits_go (l u : Int) (w : World) (k1 k2 : Bool) (N1 : Hid (Num l k1)) (N2 : Hid (Num u k2)) :
    Calls Try.prog 94 #[.int .i64 l, .int .i64 u, .bool true] w fun e w' => e = .returned (.tuple #[.agg #[.int .i64 (if (k1 && k2) = true then l else 0), .int .i64 (if (k1 && k2) = true then u else 0)], .int .i64 (if (k1 && k2) = true then 0 else 10)]) ∧ Below w.heap.size w w' := by
  cases k1
  · go_enter Try.func94, Try.ntmps94
    go_wp2_with fail
    refine (N1.out _).mono ?_
    rintro e w1 ⟨rfl, rfl⟩
    go_wp2_with fail
    exact bodyPost_ret (v := .tuple #[.agg #[.int .i64 0, .int .i64 0], .int .i64 10]) (by simp [results, Try.results94, go_sem]) rfl ⟨rfl, (by repeat (first | exact Below.refl _ _ | assumption | apply balloc | apply bdrew | (refine bset ?_ (by first | (simp; done) | omega | (simp; omega)) _) | (refine bnext ?_ (by assumption))))⟩
  · cases k2
    · go_enter Try.func94, Try.ntmps94
      go_wp2_with fail
      refine (N1.out _).mono ?_
      rintro e w1 ⟨rfl, rfl⟩
      go_wp2_with fail
      refine (N2.out _).mono ?_
      rintro e w1 ⟨rfl, rfl⟩
      go_wp2_with fail
      exact bodyPost_ret (v := .tuple #[.agg #[.int .i64 0, .int .i64 0], .int .i64 10]) (by simp [results, Try.results94, go_sem]) rfl ⟨rfl, (by repeat (first | exact Below.refl _ _ | assumption | apply balloc | apply bdrew | (refine bset ?_ (by first | (simp; done) | omega | (simp; omega)) _) | (refine bnext ?_ (by assumption))))⟩
    · go_enter Try.func94, Try.ntmps94
      go_wp2_with fail
      refine (N1.out _).mono ?_
      rintro e w1 ⟨rfl, rfl⟩
      go_wp2_with fail
      refine (N2.out _).mono ?_
      rintro e w1 ⟨rfl, rfl⟩
      go_wp2_with fail
      exact bodyPost_ret (v := .tuple #[.agg #[.int .i64 l, .int .i64 u], .int .i64 0]) (by simp [results, Try.results94, go_sem]) rfl ⟨rfl, (by repeat (first | exact Below.refl _ _ | assumption | apply balloc | apply bdrew | (refine bset ?_ (by first | (simp; done) | omega | (simp; omega)) _) | (refine bnext ?_ (by assumption))))⟩
theorem fits_any (l h : Int) (w : World) :
    Calls Try.prog 94 #[.int .i64 l, .int .i64 h, .bool true] w fun e w' => e = .returned (.tuple #[.agg #[.int .i64 (if allIn 1000000000000000 [l, h] = true then l else 0), .int .i64 (if allIn 1000000000000000 [l, h] = true then h else 0)], .int .i64 (if allIn 1000000000000000 [l, h] = true then 0 else 10)]) ∧ Below w.heap.size w w' := by
  have g := fits_go l h w _ _ (num_of rfl) (num_of rfl)
  rwa [← allIn_both] at g

set_option maxHeartbeats 3200000 in
theorem refSum_bad (rs : List (Int × Int)) (a : Option Addr) (cap : Nat) (E : Int) (w : World) (L : Hid (∀ w, IsPairs w a rs → Calls Try.prog 93 #[.slice a rs.length cap] w fun e w' => e = .returned (.int .i64 E) ∧ Below w.heap.size w w')) (hE : (E == 0) = false) (h : Hid (IsPairs w a rs)) :
    Calls Try.prog 34 #[.slice a rs.length cap] w fun e w' => e = .returned (.tuple #[.agg #[.int .i64 0, .int .i64 0], .int .i64 E]) ∧ Below w.heap.size w w' := by
  go_enter Try.func34, Try.ntmps34
  go_wp2_with fail
  refine (L.out _ (pairs_later h.out (by repeat (first | exact Below.refl _ _ | assumption | apply balloc | apply bdrew | (refine bset ?_ (by first | (simp; done) | omega | (simp; omega)) _) | (refine bnext ?_ (by assumption)))))).mono ?_
  rintro e w1 ⟨rfl, hb1⟩
  have c4 := later hb1 (a := ⟨w.heap.size, 0, none⟩) (v := .int .i64 0) (by simp [go_sem, World.cell?_alloc_past])
  have c5 := later hb1 (a := ⟨w.heap.size, 1, none⟩) (v := .int .i64 0) (by simp [go_sem, World.cell?_alloc_past])
  have f4 := free_later hb1 (a := ⟨w.heap.size, 0, none⟩) (v := .int .i64 0) (by simp [go_sem, World.cell?_alloc_past]) (by simp [go_sem, World.cell?_alloc_past])
  have f5 := free_later hb1 (a := ⟨w.heap.size, 1, none⟩) (v := .int .i64 0) (by simp [go_sem, World.cell?_alloc_past]) (by simp [go_sem, World.cell?_alloc_past])
  go_wp2_with fail
  exact bodyPost_ret (v := .tuple #[.agg #[.int .i64 0, .int .i64 0], .int .i64 E]) (by simp [results, Try.results34, go_sem, c4, c5]) rfl ⟨rfl, (by repeat (first | exact Below.refl _ _ | assumption | apply balloc | apply bdrew | (refine bset ?_ (by first | (simp; done) | omega | (simp; omega)) _) | (refine bnext ?_ (by assumption))))⟩
set_option maxRecDepth 100000 in
set_option maxHeartbeats 6400000 in
theorem refSum_good (rs : List (Int × Int)) (a : Option Addr) (cap : Nat) (x y E : Int) (w : World) (L : Hid (∀ w, IsPairs w a rs → Calls Try.prog 93 #[.slice a rs.length cap] w fun e w' => e = .returned (.int .i64 0) ∧ Below w.heap.size w w')) (h : Hid (IsPairs w a rs)) (hl : rs.length ≤ 100) (hr : Hid (rs.all rangeOk = true))
    (F : Hid (∀ W, Calls Try.prog 94 #[.int .i64 (sumL rs rs.length), .int .i64 (sumH rs rs.length), .bool true] W fun e w' => e = .returned (.tuple #[.agg #[.int .i64 x, .int .i64 y], .int .i64 E]) ∧ Below W.heap.size W w')) :
    Calls Try.prog 34 #[.slice a rs.length cap] w fun e w' => e = .returned (.tuple #[.agg #[.int .i64 x, .int .i64 y], .int .i64 E]) ∧ Below w.heap.size w w' := by
  go_enter Try.func34, Try.ntmps34
  go_wp2_with fail
  refine (L.out _ (pairs_later h.out (by repeat (first | exact Below.refl _ _ | assumption | apply balloc | apply bdrew | (refine bset ?_ (by first | (simp; done) | omega | (simp; omega)) _) | (refine bnext ?_ (by assumption)))))).mono ?_
  rintro e w1 ⟨rfl, hb1⟩
  have c4 := later hb1 (a := ⟨w.heap.size, 0, none⟩) (v := .int .i64 0) (by simp [go_sem, World.cell?_alloc_past])
  have c5 := later hb1 (a := ⟨w.heap.size, 1, none⟩) (v := .int .i64 0) (by simp [go_sem, World.cell?_alloc_past])
  have f4 := free_later hb1 (a := ⟨w.heap.size, 0, none⟩) (v := .int .i64 0) (by simp [go_sem, World.cell?_alloc_past]) (by simp [go_sem, World.cell?_alloc_past])
  have f5 := free_later hb1 (a := ⟨w.heap.size, 1, none⟩) (v := .int .i64 0) (by simp [go_sem, World.cell?_alloc_past]) (by simp [go_sem, World.cell?_alloc_past])
  have B1 : Below w.heap.size w w1 := (by repeat (first | exact Below.refl _ _ | assumption | apply balloc | apply bdrew | (refine bset ?_ (by first | (simp; done) | omega | (simp; omega)) _) | (refine bnext ?_ (by assumption))))
  go_wp2_with fail
  go_loopw [5, 6, 7] (fun lo hi i wr => ∃ k : Nat, k ≤ rs.length ∧ i = .int .i64 (k : Int) ∧ lo = .int .i64 (sumL rs k) ∧ hi = .int .i64 (sumH rs k) ∧ Below w1.heap.size w1 wr) (fun _ _ i _ => rs.length - (intOf i).toNat)
  case atStart => exact ⟨0, by omega, rfl, by simp [sumL, isum], by simp [sumH, isum], Below.refl _ _⟩
  case round =>
    obtain ⟨k, hk, rfl, rfl, rfl, hbw⟩ := hrel
    by_cases hlt : k < rs.length
    · obtain ⟨b, off, rfl, hc⟩ : ∃ b off, a = some ⟨b, off, none⟩ ∧ ∀ i, i < rs.length → wr.cell? ⟨b, off + i * 2, none⟩ = some (.int .i64 (rs.getD i (0, 0)).1) ∧ wr.cell? ⟨b, off + i * 2 + 1, none⟩ = some (.int .i64 (rs.getD i (0, 0)).2) := by
        rcases pairs_later (pairs_later h.out B1) hbw with h | h
        · subst h; simp at hlt
        · exact h
      obtain ⟨c1, c2⟩ := hc k hlt
      clear hc
      have e1 := sumL_step hlt
      have e2 := sumH_step hlt
      have s0 := sums_bound hr.out k (by omega)
      have s1 := sums_bound hr.out (k + 1) (by omega)
      obtain ⟨x, hx⟩ : ∃ x, sumL rs (k + 1) = x := ⟨_, rfl⟩
      obtain ⟨y, hy⟩ : ∃ y, sumH rs (k + 1) = y := ⟨_, rfl⟩
      rw [hx] at e1 s1
      rw [hy] at e2 s1
      have HX := hide hx
      have HY := hide hy
      clear hx hy
      generalize rs.getD k (0, 0) = z at *
      obtain ⟨p, q⟩ := z
      simp only at c1 c2 e1 e2
      obtain ⟨⟨s2, s3⟩, s4, s5⟩ := s0
      obtain ⟨⟨s6, s7⟩, s8, s9⟩ := s1
      have t1 : sumL rs k + p ≤ 1000000000000000000 ∧ -1000000000000000000 ≤ sumL rs k + p := by omega
      have t2 : sumH rs k + q ≤ 1000000000000000000 ∧ -1000000000000000000 ≤ sumH rs k + q := by omega
      go_wp2_with fail
      go_quiet (fail)
      go_wp2_with fail
      go_roundw
      case rel => exact ⟨k + 1, by omega, by go_num, by rw [HX.out], by rw [HY.out], below_drewN hbw _⟩
      case measure => simp [intOf]; omega
    · obtain rfl : k = rs.length := by omega
      have ⟨d4, g4⟩ := cf_later hbw ⟨c4, f4⟩
      have ⟨d5, g5⟩ := cf_later hbw ⟨c5, f5⟩
      clear c4 c5 f4 f5
      go_wp2_with fail
      refine (F.out _).mono ?_
      rintro e w3 ⟨rfl, hb3⟩
      have ⟨c4, f4⟩ := cf_later hb3 ⟨d4, g4⟩
      have ⟨c5, f5⟩ := cf_later hb3 ⟨d5, g5⟩
      have B3 : Below w.heap.size w w3 := bnext (bnext B1 hbw) hb3
      clear d4 d5 g4 g5
      go_wp2_with fail
      have yy := two_set (x := .int .i64 x) (y := .int .i64 y) c4 c5
      exact bodyPost_ret (v := .tuple #[.agg #[.int .i64 x, .int .i64 y], .int .i64 E]) (by simp [results, Try.results34, go_sem, yy.1, yy.2]) rfl ⟨rfl, bset (bset B3 (by simp) _) (by simp) _⟩
theorem refSum_any (rs : List (Int × Int)) (a : Option Addr) (cap : Nat) (w : World) (hl : rs.length ≤ 140737488351232) (h : IsPairs w a rs) :
    Calls Try.prog 34 #[.slice a rs.length cap] w fun e w' => e = .returned (.tuple #[.agg #[.int .i64 (sumQ rs).1, .int .i64 (sumQ rs).2.1], .int .i64 (sumQ rs).2.2]) ∧ Below w.heap.size w w' := by
  have L := fun (w : World) (h : IsPairs w a rs) => refList_any a cap rs w hl h
  unfold sumQ
  rcases listE_cases rs with ⟨E, k1, k2, hE, e, hc⟩ | ⟨e, hn, h2, hc⟩
  · rw [e] at L
    rw [e, if_pos hE]
    exact refSum_bad rs a cap E w L hE h
  · rw [e] at L
    rw [e, if_neg (by simp)]
    refine refSum_good rs a cap _ _ _ w L h hn h2 (fun W => (fits_any (sumL rs rs.length) (sumH rs rs.length) W).mono ?_)
    rintro e' w' ⟨he, hb⟩
    refine ⟨?_, hb⟩
    rw [he]
    cases allIn 1000000000000000 [sumL rs rs.length, sumH rs rs.length] <;> rfl
end Go.Proofs.Ytadnchcelocnaaa

namespace Go.Proofs.Ytadnchcelocnaaa
set_option linter.unusedSimpArgs false
set_option linter.unusedVariables false
open Go.RowKit

/-- The error of a list of ranges that may not be empty. -/
def someE (rs : List (Int × Int)) : Int := if (listE rs == 0) = false then listE rs else if rs.length = 0 then 2 else 0
theorem some1_any (a : Option Addr) (n cap : Nat) (p : Addr) (w : World) (hn : n ≤ 140737488351232) (hp : w.cell? p = some (.slice a n cap)) :
    Calls Try.prog 124 #[.pointer (some p)] w fun e w' => e = .returned (.bool (decide (0 < (n : Int)))) ∧ w = w' := by
  go_enter Try.func124, Try.ntmps124
  go_wp2
  go_ret
  exact ⟨ret_bool (by simp), rfl⟩
theorem some1_tells (k : Bool) (a : Option Addr) (n cap : Nat) (p : Addr) (w : World) (hk : decide (0 < (n : Int)) = k) (hn : n ≤ 140737488351232) (hp : w.cell? p = some (.slice a n cap)) :
    Tells w 124 #[.pointer (some p)] k := by
  subst hk
  exact ⟨enters_any Try.func124 (by kernel_rfl) rfl _, fun W hW => (some1_any a n cap p W hn (later hW hp)).mono (by rintro e w' ⟨rfl, rfl⟩; exact ⟨rfl, Below.refl _ _⟩)⟩
/-- The conditions come to E. -/
def SomeCond (rs : List (Int × Int)) (E : Int) (k1 k2 k3 : Bool) : Prop :=
  decide ((rs.length : Int) ≤ 100) = k1 ∧ rs.all rangeOk = k2 ∧ decide (0 < (rs.length : Int)) = k3 ∧ ∀ f1 c1 f2 c2 f3 c3, firstE [⟨5, f1, c1, k1⟩, ⟨2, f2, c2, k2⟩, ⟨2, f3, c3, k3⟩] = E
set_option maxHeartbeats 3200000 in
theorem some_go (rs : List (Int × Int)) (a : Option Addr) (cap : Nat) (E : Int) (k1 k2 k3 : Bool) (w : World) (hc : Hid (SomeCond rs E k1 k2 k3)) (hl : rs.length ≤ 140737488351232) (h : Hid (IsPairs w a rs)) :
    Calls Try.prog 89 #[.slice a rs.length cap] w fun e w' => e = .returned (.int .i64 E) ∧ Below w.heap.size w w' := by
  go_enter Try.func89, Try.ntmps89
  go_upto_region 1 with fail
  go_cut [2] from 3 (fun s2 wx => s2 = .int .i64 E ∧ Below w.heap.size w wx)
  case first =>
    go_region_held3 (fun w' => w'.cell? ⟨w.heap.size, 0, none⟩ = some (.slice a rs.length cap) ∧ Below w.heap.size w w')
      (first | (refine ⟨?_, bdrew (balloc (Below.refl _ _))⟩ <;> simp [go_sem, World.cell?_alloc_past]; done) | (go_split_ands; first | (exact ⟨later hbD (by assumption), bnext (by assumption) hbD⟩) | (exact ⟨later hbA (by assumption), bnext (by assumption) hbA⟩) | (exact ⟨later hbB (by assumption), bnext (by assumption) hbB⟩) | (exact ⟨later hbC (by assumption), bnext (by assumption) hbC⟩)) | (go_split_ands; exact ⟨later (balloc (Below.refl _ _)) (by assumption), balloc (by assumption)⟩) | go_keep)
      (first
        | (go_at_call 81; refine (atMost_ex k1 _ _ _ hc.out.1).mono ?_; rintro e wA ⟨rfl, hA, hbA⟩; (try simp at hA))
        | (go_at_call 86; refine (validRanges_ex k2 a cap rs.length rs _ hc.out.2.1 rfl hl (pairs_later h.out (by repeat (first | exact Below.refl _ _ | assumption | apply balloc | apply bdrew | (refine bnext ?_ (by assumption)))))).mono ?_; rintro e wB ⟨rfl, hB, hbB⟩; (try simp at hB))
        | (go_at_call 68; refine (unless_ex 2 _ _ k3 _ rfl (some1_tells k3 a rs.length cap ⟨w.heap.size, 0, none⟩ _ hc.out.2.2.1 hl (by go_split_ands; assumption))).mono ?_; rintro e wC ⟨rfl, hC, hbC⟩; (try simp at hC))
        | (go_at_call 67; go_loud (refine (firstError_is E [⟨5, 114, _, k1⟩, ⟨2, 114, _, k2⟩, ⟨2, 114, _, k3⟩] _ _ _ (hc.out.2.2.2 _ _ _ _ _ _) (by simp) (by simp) (cnds_three_at (by simp)) (tells_three (cnd_later hA (by repeat (first | exact Below.refl _ _ | assumption | apply balloc | apply bdrew | (refine bnext ?_ (by assumption))))) (fun _ => cnd_later hB (by repeat (first | exact Below.refl _ _ | assumption | apply balloc | apply bdrew | (refine bnext ?_ (by assumption))))) (fun _ _ => cnd_later hC (by repeat (first | exact Below.refl _ _ | assumption | apply balloc | apply bdrew | (refine bnext ?_ (by assumption))))))).mono ?_); rintro e wD ⟨rfl, hbD⟩))
    all_goals (go_wp2_with fail; go_meet; exact ⟨rfl, by go_split_ands; assumption⟩)
  case rest =>
    obtain ⟨rfl, hbw⟩ := hcut
    go_wp2
    go_ret
    exact ⟨rfl, hbw⟩
theorem some_any (rs : List (Int × Int)) (a : Option Addr) (cap : Nat) (w : World) (hl : rs.length ≤ 140737488351232) (h : IsPairs w a rs) :
    Calls Try.prog 89 #[.slice a rs.length cap] w fun e w' => e = .returned (.int .i64 (someE rs)) ∧ Below w.heap.size w w' := by
  refine some_go rs a cap _ _ _ _ w ⟨rfl, rfl, rfl, fun f1 c1 f2 c2 f3 c3 => ?_⟩ hl h
  unfold someE listE
  simp only [firstE]
  by_cases h1 : (rs.length : Int) ≤ 100
  · rw [decide_eq_true h1]
    cases h2 : rs.all rangeOk with
    | false => simp
    | true =>
      by_cases h3 : rs.length = 0
      · simp [h3]
      · have : 0 < (rs.length : Int) := by omega
        simp [h3, this]
  · rw [decide_eq_false h1]; simp
end Go.Proofs.Ytadnchcelocnaaa

namespace Go.Proofs.Ytadnchcelocnaaa
set_option linter.unusedSimpArgs false
set_option linter.unusedVariables false
open Go.RowKit

/-- The greatest (least) of the lower (upper) ends of the first k + 1 ranges. -/
def mxL (rs : List (Int × Int)) : Nat → Int
  | 0 => (rs.getD 0 (0, 0)).1
  | k + 1 => max (mxL rs k) (rs.getD (k + 1) (0, 0)).1
def mnL (rs : List (Int × Int)) : Nat → Int
  | 0 => (rs.getD 0 (0, 0)).1
  | k + 1 => min (mnL rs k) (rs.getD (k + 1) (0, 0)).1
def mxH (rs : List (Int × Int)) : Nat → Int
  | 0 => (rs.getD 0 (0, 0)).2
  | k + 1 => max (mxH rs k) (rs.getD (k + 1) (0, 0)).2
def mnH (rs : List (Int × Int)) : Nat → Int
  | 0 => (rs.getD 0 (0, 0)).2
  | k + 1 => min (mnH rs k) (rs.getD (k + 1) (0, 0)).2
theorem meet_stays {rs : List (Int × Int)} {k : Nat} (h : mnH rs k < mxL rs k) : ∀ j, mnH rs (k + j) < mxL rs (k + j)
  | 0 => h
  | j + 1 => by
    have := meet_stays h j
    rw [← Nat.add_assoc]
    simp only [mxL, mnH]
    omega
def meetQ (rs : List (Int × Int)) : Int × Int × Int :=
  if (someE rs == 0) = false then (0, 0, someE rs) else if mxL rs (rs.length - 1) ≤ mnH rs (rs.length - 1) then (mxL rs (rs.length - 1), mnH rs (rs.length - 1), 0) else (0, 0, 7)
def hullQ (rs : List (Int × Int)) : Int × Int × Int :=
  if (someE rs == 0) = false then (0, 0, someE rs) else (mnL rs (rs.length - 1), mxH rs (rs.length - 1), 0)
/-- What has been gathered of the first k ranges. -/
def hullG (rs : List (Int × Int)) : Nat → Gth
  | 0 => ⟨0, 0, false, false⟩
  | k + 1 => ⟨mnL rs k, mxH rs k, true, false⟩
theorem hullG_step (rs : List (Int × Int)) (k : Nat) : gAdd (hullG rs k) (rs.getD k (0, 0)).1 (rs.getD k (0, 0)).2 = hullG rs (k + 1) := by
  cases k <;> rfl

set_option maxHeartbeats 1600000 in
theorem hull_bad (rs : List (Int × Int)) (a : Option Addr) (cap : Nat) (E : Int) (w : World) (L : Hid (∀ w, IsPairs w a rs → Calls Try.prog 89 #[.slice a rs.length cap] w fun e w' => e = .returned (.int .i64 E) ∧ Below w.heap.size w w')) (hE : (E == 0) = false) (h : Hid (IsPairs w a rs)) :
    Calls Try.prog 33 #[.slice a rs.length cap] w fun e w' => e = .returned (.tuple #[.agg #[.int .i64 0, .int .i64 0], .int .i64 E]) ∧ Below w.heap.size w w' := by
  go_enter Try.func33, Try.ntmps33
  go_wp2_with fail
  refine (L.out _ (pairs_later h.out (by repeat (first | exact Below.refl _ _ | assumption | apply balloc | apply bdrew | (refine bset ?_ (by first | (simp; done) | omega | (simp; omega)) _) | (refine bnext ?_ (by assumption)))))).mono ?_
  rintro e w1 ⟨rfl, hb1⟩
  have c4 := later hb1 (a := ⟨w.heap.size, 0, none⟩) (v := .int .i64 0) (by simp [go_sem, World.cell?_alloc_past])
  have c5 := later hb1 (a := ⟨w.heap.size, 1, none⟩) (v := .int .i64 0) (by simp [go_sem, World.cell?_alloc_past])
  have f4 := free_later hb1 (a := ⟨w.heap.size, 0, none⟩) (v := .int .i64 0) (by simp [go_sem, World.cell?_alloc_past]) (by simp [go_sem, World.cell?_alloc_past])
  have f5 := free_later hb1 (a := ⟨w.heap.size, 1, none⟩) (v := .int .i64 0) (by simp [go_sem, World.cell?_alloc_past]) (by simp [go_sem, World.cell?_alloc_past])
  go_wp2_with fail
  exact bodyPost_ret (v := .tuple #[.agg #[.int .i64 0, .int .i64 0], .int .i64 E]) (by simp [results, Try.results33, go_sem, c4, c5]) rfl ⟨rfl, (by repeat (first | exact Below.refl _ _ | assumption | apply balloc | apply bdrew | (refine bset ?_ (by first | (simp; done) | omega | (simp; omega)) _) | (refine bnext ?_ (by assumption))))⟩
set_option maxHeartbeats 3200000 in
theorem hull_good (rs : List (Int × Int)) (a : Option Addr) (cap m : Nat) (w : World) (L : Hid (∀ w, IsPairs w a rs → Calls Try.prog 89 #[.slice a rs.length cap] w fun e w' => e = .returned (.int .i64 0) ∧ Below w.heap.size w w')) (hl : rs.length ≤ 100) (hm : rs.length = m + 1) (h : Hid (IsPairs w a rs)) :
    Calls Try.prog 33 #[.slice a rs.length cap] w fun e w' => e = .returned (.tuple #[.agg #[.int .i64 (mnL rs m), .int .i64 (mxH rs m)], .int .i64 0]) ∧ Below w.heap.size w w' := by
  have HM := hide hm
  clear hm
  go_enter Try.func33, Try.ntmps33
  go_wp2_with fail
  refine (L.out _ (pairs_later h.out (by repeat (first | exact Below.refl _ _ | assumption | apply balloc | apply bdrew | (refine bset ?_ (by first | (simp; done) | omega | (simp; omega)) _) | (refine bnext ?_ (by assumption)))))).mono ?_
  rintro e w1 ⟨rfl, hb1⟩
  have c4 := later hb1 (a := ⟨w.heap.size, 0, none⟩) (v := .int .i64 0) (by simp [go_sem, World.cell?_alloc_past])
  have c5 := later hb1 (a := ⟨w.heap.size, 1, none⟩) (v := .int .i64 0) (by simp [go_sem, World.cell?_alloc_past])
  have f4 := free_later hb1 (a := ⟨w.heap.size, 0, none⟩) (v := .int .i64 0) (by simp [go_sem, World.cell?_alloc_past]) (by simp [go_sem, World.cell?_alloc_past])
  have f5 := free_later hb1 (a := ⟨w.heap.size, 1, none⟩) (v := .int .i64 0) (by simp [go_sem, World.cell?_alloc_past]) (by simp [go_sem, World.cell?_alloc_past])
  have B1 : Below w.heap.size w w1 := (by repeat (first | exact Below.refl _ _ | assumption | apply balloc | apply bdrew | (refine bset ?_ (by first | (simp; done) | omega | (simp; omega)) _) | (refine bnext ?_ (by assumption))))
  have z4 : w.heap.size < w1.heap.size := World.block_lt_of_cell? _ _ c4
  clear hb1
  go_wp2_with fail
  go_loopw [16] (fun i wr => ∃ k : Nat, k ≤ rs.length ∧ i = .int .i64 (k : Int) ∧ GAt wr w1.heap.size (hullG rs k) ∧ Below w1.heap.size w1 wr) (fun i _ => rs.length - (intOf i).toNat)
  case atStart => exact ⟨0, by omega, rfl, by simp [GAt, hullG, go_sem, World.cell?_alloc_past], balloc (Below.refl _ _)⟩
  case round =>
    obtain ⟨k, hk, rfl, hg, hbw⟩ := hrel
    have HG := hide hg
    clear hg
    by_cases hlt : k < rs.length
    · obtain ⟨b, off, rfl, hc⟩ : ∃ b off, a = some ⟨b, off, none⟩ ∧ ∀ i, i < rs.length → wr.cell? ⟨b, off + i * 2, none⟩ = some (.int .i64 (rs.getD i (0, 0)).1) ∧ wr.cell? ⟨b, off + i * 2 + 1, none⟩ = some (.int .i64 (rs.getD i (0, 0)).2) := by
        rcases pairs_later (pairs_later h.out B1) hbw with h | h
        · subst h; simp at hlt
        · exact h
      obtain ⟨c1, c2⟩ := hc k hlt
      clear hc
      have S := hide (hullG_step rs k)
      obtain ⟨z, hz⟩ : ∃ z, rs.getD k (0, 0) = z := ⟨_, rfl⟩
      rw [hz] at c1 c2 S
      clear hz
      obtain ⟨p, q⟩ := z
      simp only at c1 c2 S
      have A := hide fun w h => add_any w1.heap.size (hullG rs k) p q w h
      go_wp2_with fail
      refine (A.out _ (gat_later HG.out (balloc (Below.refl _ _)))).mono ?_
      rintro e w2 ⟨rfl, hg2, ht2⟩
      rw [S.out] at hg2
      have HG2 := hide hg2
      have B2 := hide (show Below w1.heap.size w1 w2 from ht2.below (balloc hbw) (Nat.le_refl _))
      clear hg2 ht2
      go_wp2_with fail
      go_roundw
      case rel => exact ⟨k + 1, by omega, by go_num, HG2.out, B2.out⟩
      case measure => simp [intOf]; omega
    · obtain rfl : k = rs.length := by omega
      rw [HM.out] at HG
      have e : hullG rs (m + 1) = ⟨mnL rs m, mxH rs m, true, false⟩ := rfl
      rw [e] at HG
      have ⟨⟨a0, a1, a2, a3⟩, _⟩ := HG.out
      have R := hide fun w => result_any ⟨mnL rs m, mxH rs m, true, false⟩ w
      have ⟨d4, g4⟩ := cf_later hbw ⟨c4, f4⟩
      have ⟨d5, g5⟩ := cf_later hbw ⟨c5, f5⟩
      clear c4 c5 f4 f5 e HG
      simp only at a0 a1 a2 a3
      go_wp2_with fail
      refine (R.out _).mono ?_
      rintro e w3 ⟨rfl, hb3⟩
      have ⟨c4, f4⟩ := cf_later hb3 ⟨d4, g4⟩
      have ⟨c5, f5⟩ := cf_later hb3 ⟨d5, g5⟩
      have B3 : Below w.heap.size w w3 := bnext (bnext B1 hbw) hb3
      clear d4 d5 g4 g5 a0 a1 a2 a3
      go_wp2_with fail
      have yy := two_set (x := .int .i64 (mnL rs m)) (y := .int .i64 (mxH rs m)) c4 c5
      exact bodyPost_ret (v := .tuple #[.agg #[.int .i64 (mnL rs m), .int .i64 (mxH rs m)], .int .i64 0]) (by simp [results, Try.results33, go_sem, gRes, yy.1, yy.2]) rfl ⟨rfl, bset (bset B3 (by simp) _) (by simp) _⟩
end Go.Proofs.Ytadnchcelocnaaa

namespace Go.Proofs.Ytadnchcelocnaaa
set_option linter.unusedSimpArgs false
set_option linter.unusedVariables false
open Go.RowKit

set_option maxHeartbeats 1600000 in
theorem meet_bad (rs : List (Int × Int)) (a : Option Addr) (cap : Nat) (E : Int) (w : World) (L : Hid (∀ w, IsPairs w a rs → Calls Try.prog 89 #[.slice a rs.length cap] w fun e w' => e = .returned (.int .i64 E) ∧ Below w.heap.size w w')) (hE : (E == 0) = false) (h : Hid (IsPairs w a rs)) :
    Calls Try.prog 32 #[.slice a rs.length cap] w fun e w' => e = .returned (.tuple #[.agg #[.int .i64 0, .int .i64 0], .int .i64 E]) ∧ Below w.heap.size w w' := by
  go_enter Try.func32, Try.ntmps32
  go_wp2_with fail
  refine (L.out _ (pairs_later h.out (by repeat (first | exact Below.refl _ _ | assumption | apply balloc | apply bdrew | (refine bset ?_ (by first | (simp; done) | omega | (simp; omega)) _) | (refine bnext ?_ (by assumption)))))).mono ?_
  rintro e w1 ⟨rfl, hb1⟩
  have c4 := later hb1 (a := ⟨w.heap.size, 0, none⟩) (v := .int .i64 0) (by simp [go_sem, World.cell?_alloc_past])
  have c5 := later hb1 (a := ⟨w.heap.size, 1, none⟩) (v := .int .i64 0) (by simp [go_sem, World.cell?_alloc_past])
  have f4 := free_later hb1 (a := ⟨w.heap.size, 0, none⟩) (v := .int .i64 0) (by simp [go_sem, World.cell?_alloc_past]) (by simp [go_sem, World.cell?_alloc_past])
  have f5 := free_later hb1 (a := ⟨w.heap.size, 1, none⟩) (v := .int .i64 0) (by simp [go_sem, World.cell?_alloc_past]) (by simp [go_sem, World.cell?_alloc_past])
  go_wp2_with fail
  exact bodyPost_ret (v := .tuple #[.agg #[.int .i64 0, .int .i64 0], .int .i64 E]) (by simp [results, Try.results32, go_sem, c4, c5]) rfl ⟨rfl, (by repeat (first | exact Below.refl _ _ | assumption | apply balloc | apply bdrew | (refine bset ?_ (by first | (simp; done) | omega | (simp; omega)) _) | (refine bnext ?_ (by assumption))))⟩
/-- What the loop of Meet holds: the result's cell and the range so far. -/
def MSt (n g : Nat) (l h : Int) (w : World) : Prop := (CF w ⟨n, 0, none⟩ (.int .i64 0) ∧ CF w ⟨n, 1, none⟩ (.int .i64 0)) ∧ CF w ⟨g, 0, none⟩ (.int .i64 l) ∧ CF w ⟨g, 1, none⟩ (.int .i64 h)
theorem mst_later {n g : Nat} {l h : Int} {w W : World} (s : MSt n g l h w) (hb : Below w.heap.size w W) : MSt n g l h W := by
  obtain ⟨⟨a, b⟩, c, d⟩ := s
  exact ⟨⟨cf_later hb a, cf_later hb b⟩, cf_later hb c, cf_later hb d⟩
theorem cf_set2 {w : World} {n m i : Nat} {x y v : Value} (hne : m ≠ n) (h : CF w ⟨m, i, none⟩ v) : CF ((w.setCell ⟨n, 0, none⟩ x).setCell ⟨n, 1, none⟩ y) ⟨m, i, none⟩ v := by
  refine ⟨?_, ?_⟩
  · exact (World.cell?_of_block (w := w) ((Below.heap_setCell _ ⟨n, 1, none⟩ _ m hne).trans (Below.heap_setCell _ ⟨n, 0, none⟩ _ m hne))).trans h.1
  · exact (World.frozen?_of_block (w := w) ((Below.heap_setCell _ ⟨n, 1, none⟩ _ m hne).trans (Below.heap_setCell _ ⟨n, 0, none⟩ _ m hne))).trans h.2
theorem mst_set {n g : Nat} {l h x y : Int} {w : World} (s : MSt n g l h w) (hne : n ≠ g) : MSt n g x y ((w.setCell ⟨g, 0, none⟩ (.int .i64 x)).setCell ⟨g, 1, none⟩ (.int .i64 y)) := by
  obtain ⟨⟨a, b⟩, c, d⟩ := s
  have yy := two_set (x := .int .i64 x) (y := .int .i64 y) c.1 d.1
  exact ⟨⟨cf_set2 hne a, cf_set2 hne b⟩, ⟨yy.1, by simp [go_sem, c.2]⟩, ⟨yy.2, by simp [go_sem, d.2]⟩⟩

set_option maxRecDepth 100000 in
set_option maxHeartbeats 6400000 in
theorem meet_good (rs : List (Int × Int)) (a : Option Addr) (cap m : Nat) (x y E : Int) (HX : Hid (mxL rs m ≤ mnH rs m → x = mxL rs m ∧ y = mnH rs m ∧ E = 0)) (HN : Hid (¬ mxL rs m ≤ mnH rs m → x = 0 ∧ y = 0 ∧ E = 7)) (w : World) (L : Hid (∀ w, IsPairs w a rs → Calls Try.prog 89 #[.slice a rs.length cap] w fun e w' => e = .returned (.int .i64 0) ∧ Below w.heap.size w w')) (hl : rs.length ≤ 100) (hm : rs.length = m + 1) (hcap : rs.length ≤ cap) (hr : Hid (rs.all rangeOk = true)) (h : Hid (IsPairs w a rs)) :
    Calls Try.prog 32 #[.slice a rs.length cap] w fun e w' => e = .returned (.tuple #[.agg #[.int .i64 x, .int .i64 y], .int .i64 E]) ∧ Below w.heap.size w w' := by
  obtain ⟨b, off, rfl, hc0⟩ : ∃ b off, a = some ⟨b, off, none⟩ ∧ ∀ i, i < rs.length → w.cell? ⟨b, off + i * 2, none⟩ = some (.int .i64 (rs.getD i (0, 0)).1) ∧ w.cell? ⟨b, off + i * 2 + 1, none⟩ = some (.int .i64 (rs.getD i (0, 0)).2) := by
    rcases h.out with h | h
    · subst h; simp at hm
    · exact h
  have HC := hide hc0
  rw [hm] at L hcap hl
  rw [hm]
  clear hc0
  go_enter Try.func32, Try.ntmps32
  go_wp2_with fail
  refine (L.out _ (pairs_later h.out (by repeat (first | exact Below.refl _ _ | assumption | apply balloc | apply bdrew | (refine bset ?_ (by first | (simp; done) | omega | (simp; omega)) _) | (refine bnext ?_ (by assumption)))))).mono ?_
  rintro e w1 ⟨rfl, hb1⟩
  have c4 := later hb1 (a := ⟨w.heap.size, 0, none⟩) (v := .int .i64 0) (by simp [go_sem, World.cell?_alloc_past])
  have c5 := later hb1 (a := ⟨w.heap.size, 1, none⟩) (v := .int .i64 0) (by simp [go_sem, World.cell?_alloc_past])
  have f4 := free_later hb1 (a := ⟨w.heap.size, 0, none⟩) (v := .int .i64 0) (by simp [go_sem, World.cell?_alloc_past]) (by simp [go_sem, World.cell?_alloc_past])
  have f5 := free_later hb1 (a := ⟨w.heap.size, 1, none⟩) (v := .int .i64 0) (by simp [go_sem, World.cell?_alloc_past]) (by simp [go_sem, World.cell?_alloc_past])
  have B1 : Below w.heap.size w w1 := (by repeat (first | exact Below.refl _ _ | assumption | apply balloc | apply bdrew | (refine bset ?_ (by first | (simp; done) | omega | (simp; omega)) _) | (refine bnext ?_ (by assumption))))
  have z4 : w.heap.size < w1.heap.size := World.block_lt_of_cell? _ _ c4
  obtain ⟨q0, q1⟩ := HC.out 0 (by omega)
  rw [Nat.zero_mul, Nat.add_zero] at q0 q1
  have r0 := later B1 q0
  have r1 := later B1 q1
  have X0 := hide (show (rs.getD 0 (0, 0)).1 = mxL rs 0 from rfl)
  have X1 := hide (show (rs.getD 0 (0, 0)).2 = mnH rs 0 from rfl)
  rw [X0.out] at r0
  rw [X1.out] at r1
  clear hb1 q0 q1
  have hb0 : b < w.heap.size := World.block_lt_of_cell? _ _ (HC.out 0 (by omega)).1
  have M0 : mxL rs 0 ≤ mnH rs 0 := by
    have := range_get hr.out (k := 0) (by omega)
    simp only [mxL, mnH]; omega
  have C1 : CF w1 ⟨w.heap.size, 0, none⟩ (.int .i64 0) := ⟨c4, f4⟩
  have C2 : CF w1 ⟨w.heap.size, 1, none⟩ (.int .i64 0) := ⟨c5, f5⟩
  clear c4 c5 f4 f5 X0 X1
  go_wp2_with fail
  all_goals
    go_loopw [22] (fun i wr => ∃ k : Nat, k ≤ m ∧ i = .int .i64 (k : Int) ∧ MSt w.heap.size w1.heap.size (mxL rs k) (mnH rs k) wr ∧ mxL rs k ≤ mnH rs k ∧ Below w.heap.size w wr) (fun i _ => m - (intOf i).toNat)
    case atStart => exact ⟨0, by omega, rfl, ⟨⟨cf_later (balloc (Below.refl _ _)) C1, cf_later (balloc (Below.refl _ _)) C2⟩, ⟨by simp [go_sem], by simp [go_sem]⟩, ⟨by simp [go_sem], by simp [go_sem]⟩⟩, M0, balloc B1⟩
    case round =>
      obtain ⟨k, hk, rfl, hM, hle, hbw⟩ := hrel
      have HMs := hide hM
      have HLE := hide hle
      have ⟨⟨⟨s4, t4⟩, s5, t5⟩, ⟨s6, t6⟩, s7, t7⟩ := hM
      clear hM hle r0 r1
      by_cases hlt : k < m
      · obtain ⟨c1, c2⟩ := HC.out (k + 1) (by omega)
        have c1 := later hbw c1
        have c2 := later hbw c2
        rw [show off + (k + 1) * 2 = off + 2 + k * 2 by omega] at c1 c2
        have X := hide (show mxL rs (k + 1) = max (mxL rs k) (rs.getD (k + 1) (0, 0)).1 from rfl)
        have Y := hide (show mnH rs (k + 1) = min (mnH rs k) (rs.getD (k + 1) (0, 0)).2 from rfl)
        obtain ⟨z, hz⟩ : ∃ z, rs.getD (k + 1) (0, 0) = z := ⟨_, rfl⟩
        rw [hz] at c1 c2 X Y
        clear hz
        obtain ⟨p, q⟩ := z
        simp only at c1 c2 X Y
        have s6' := fun o => later (balloc (o := o) (Below.refl _ _)) s6
        have s7' := fun o => later (balloc (o := o) (Below.refl _ _)) s7
        have C := hide fun w => common_any (mxL rs k) (mnH rs k) p q w
        by_cases hok : max (mxL rs k) p ≤ min (mnH rs k) q
        · have d1 : decide (max (mxL rs k) p ≤ min (mnH rs k) q) = true := decide_eq_true hok
          rw [d1] at C
          clear d1
          go_wp2_with fail
          all_goals
            refine (C.out _).mono ?_
            rintro e w3 ⟨rfl, hb3⟩
            have M3 := mst_later (mst_later HMs.out (balloc (Below.refl _ _))) hb3
            have M4 := hide (mst_later M3 (balloc (o := .cells #[.int .i64 (max (mxL rs k) p), .int .i64 (min (mnH rs k) q)] 46) (Below.refl _ _)))
            have ⟨⟨⟨u4, v4⟩, u5, v5⟩, ⟨u6, v6⟩, u7, v7⟩ := M4.out
            have B3 : Below w.heap.size w w3 := bnext (balloc hbw) hb3
            have MS := hide (mst_set (x := max (mxL rs k) p) (y := min (mnH rs k) q) M4.out (by omega))
            clear M3 s6' s7' s4 t4 s5 t5 s6 t6 s7 t7
            go_wp2_with fail
            go_roundw
            case rel => exact ⟨k + 1, by omega, by go_num, by rw [X.out, Y.out]; exact MS.out, by rw [X.out, Y.out]; exact hok, bset (bset (balloc B3) (by first | (simp; done) | (simp; omega)) _) (by first | (simp; done) | (simp; omega)) _⟩
            case measure => simp [intOf]; omega
        · have d1 : decide (max (mxL rs k) p ≤ min (mnH rs k) q) = false := decide_eq_false hok
          rw [d1] at C
          clear d1
          have N : ¬ mxL rs m ≤ mnH rs m := by
            have := meet_stays (rs := rs) (k := k + 1) (by rw [X.out, Y.out]; omega) (m - (k + 1))
            rw [show k + 1 + (m - (k + 1)) = m by omega] at this
            omega
          have NN := hide (HN.out (by omega))
          clear N
          go_wp2_with fail
          all_goals
            refine (C.out _).mono ?_
            rintro e w3 ⟨rfl, hb3⟩
            have M3 := mst_later (mst_later HMs.out (balloc (Below.refl _ _))) hb3
            have M4 := hide (mst_later M3 (balloc (o := .cells #[.int .i64 (max (mxL rs k) p), .int .i64 (min (mnH rs k) q)] 46) (Below.refl _ _)))
            have ⟨⟨⟨u4, v4⟩, u5, v5⟩, ⟨u6, v6⟩, u7, v7⟩ := M4.out
            have B3 : Below w.heap.size w w3 := bnext (balloc hbw) hb3
            clear M3 s6' s7' s4 t4 s5 t5 s6 t6 s7 t7
            go_wp2_with fail
            have yy := two_set (x := .int .i64 0) (y := .int .i64 0) u4 u5
            exact bodyPost_ret (v := .tuple #[.agg #[.int .i64 0, .int .i64 0], .int .i64 7]) (by simp [results, Try.results32, go_sem, yy.1, yy.2]) rfl ⟨by rw [NN.out.1, NN.out.2.1, NN.out.2.2], bset (bset (balloc B3) (by simp) _) (by simp) _⟩
      · obtain rfl : k = m := by omega
        have NN := hide (HX.out HLE.out)
        have hlt' : ¬ (k : Int) < (k : Int) := by omega
        go_wp2
        have yy := two_set (x := .int .i64 (mxL rs k)) (y := .int .i64 (mnH rs k)) s4 s5
        exact bodyPost_ret (v := .tuple #[.agg #[.int .i64 (mxL rs k), .int .i64 (mnH rs k)], .int .i64 0]) (by simp [results, Try.results32, go_sem, yy.1, yy.2]) rfl ⟨by rw [NN.out.1, NN.out.2.1, NN.out.2.2], bset (bset hbw (by simp) _) (by simp) _⟩
theorem some_zero {rs : List (Int × Int)} (h : (someE rs == 0) = true) : (listE rs == 0) = true ∧ rs.length ≠ 0 := by
  unfold someE at h
  cases e : (listE rs == 0)
  · rw [e, if_pos rfl] at h; rw [e] at h; exact absurd h (by decide)
  · rw [e, if_neg (by decide)] at h
    refine ⟨rfl, fun h0 => ?_⟩
    rw [if_pos h0] at h; exact absurd h (by decide)
theorem some_ranges {rs : List (Int × Int)} (h : (someE rs == 0) = true) : rs.all rangeOk = true ∧ rs.length ≤ 100 := by
  rcases listE_cases rs with ⟨E, k1, k2, hE, e, hc⟩ | ⟨e, hn, h2, hc⟩
  · have := (some_zero h).1; rw [e, hE] at this; exact absurd this (by decide)
  · exact ⟨h2, hn⟩
/-- units.Meet of ranges, whatever they are. -/
theorem meet_any (rs : List (Int × Int)) (a : Option Addr) (cap : Nat) (w : World) (hl : rs.length ≤ 140737488351232) (hcap : rs.length ≤ cap) (h : IsPairs w a rs) :
    Calls Try.prog 32 #[.slice a rs.length cap] w fun e w' => e = .returned (.tuple #[.agg #[.int .i64 (meetQ rs).1, .int .i64 (meetQ rs).2.1], .int .i64 (meetQ rs).2.2]) ∧ Below w.heap.size w w' := by
  have L := fun w h => some_any rs a cap w hl h
  cases hE : (someE rs == 0)
  · have := meet_bad rs a cap (someE rs) w (hide L) hE (hide h)
    simpa only [meetQ, hE, if_true] using this
  · have e0 : someE rs = 0 := by simpa using hE
    rw [e0] at L
    obtain ⟨m, hm⟩ : ∃ m, rs.length = m + 1 := ⟨rs.length - 1, by have := (some_zero hE).2; omega⟩
    have e1 : rs.length - 1 = m := by omega
    refine (meet_good rs a cap m (meetQ rs).1 (meetQ rs).2.1 (meetQ rs).2.2 (hide ?_) (hide ?_) w (hide L) (some_ranges hE).2 hm hcap (hide (some_ranges hE).1) (hide h))
    · intro h; simp [meetQ, hE, e1, h]
    · intro h; simp [meetQ, hE, e1, h]
/-- units.Hull of ranges, whatever they are. -/
theorem hull_any (rs : List (Int × Int)) (a : Option Addr) (cap : Nat) (w : World) (hl : rs.length ≤ 140737488351232) (h : IsPairs w a rs) :
    Calls Try.prog 33 #[.slice a rs.length cap] w fun e w' => e = .returned (.tuple #[.agg #[.int .i64 (hullQ rs).1, .int .i64 (hullQ rs).2.1], .int .i64 (hullQ rs).2.2]) ∧ Below w.heap.size w w' := by
  have L := fun w h => some_any rs a cap w hl h
  cases hE : (someE rs == 0)
  · have := hull_bad rs a cap (someE rs) w (hide L) hE (hide h)
    simpa only [hullQ, hE, if_true] using this
  · have e0 : someE rs = 0 := by simpa using hE
    rw [e0] at L
    obtain ⟨m, hm⟩ : ∃ m, rs.length = m + 1 := ⟨rs.length - 1, by have := (some_zero hE).2; omega⟩
    have e1 : rs.length - 1 = m := by omega
    have := hull_good rs a cap m w (hide L) (some_ranges hE).2 hm (hide h)
    have q : hullQ rs = (mnL rs m, mxH rs m, 0) := by simp [hullQ, hE, e1]
    rw [q]
    exact this
end Go.Proofs.Ytadnchcelocnaaa

namespace Go.Proofs.Ytadnchcelocnaaa
set_option linter.unusedSimpArgs false
set_option linter.unusedVariables false
open Go.RowKit

set_option maxHeartbeats 3200000 in
theorem refMeet_bad (rs : List (Int × Int)) (a : Option Addr) (cap : Nat) (E : Int) (w : World) (L : Hid (∀ w, IsPairs w a rs → Calls Try.prog 93 #[.slice a rs.length cap] w fun e w' => e = .returned (.int .i64 E) ∧ Below w.heap.size w w')) (hE : (E == 0) = false) (h : Hid (IsPairs w a rs)) :
    Calls Try.prog 35 #[.slice a rs.length cap] w fun e w' => e = .returned (.tuple #[.agg #[.int .i64 0, .int .i64 0], .int .i64 E]) ∧ Below w.heap.size w w' := by
  go_enter Try.func35, Try.ntmps35
  go_wp2_with fail
  refine (L.out _ (pairs_later h.out (by repeat (first | exact Below.refl _ _ | assumption | apply balloc | apply bdrew | (refine bset ?_ (by first | (simp; done) | omega | (simp; omega)) _) | (refine bnext ?_ (by assumption)))))).mono ?_
  rintro e w1 ⟨rfl, hb1⟩
  have c4 := later hb1 (a := ⟨w.heap.size, 0, none⟩) (v := .int .i64 0) (by simp [go_sem, World.cell?_alloc_past])
  have c5 := later hb1 (a := ⟨w.heap.size, 1, none⟩) (v := .int .i64 0) (by simp [go_sem, World.cell?_alloc_past])
  have f4 := free_later hb1 (a := ⟨w.heap.size, 0, none⟩) (v := .int .i64 0) (by simp [go_sem, World.cell?_alloc_past]) (by simp [go_sem, World.cell?_alloc_past])
  have f5 := free_later hb1 (a := ⟨w.heap.size, 1, none⟩) (v := .int .i64 0) (by simp [go_sem, World.cell?_alloc_past]) (by simp [go_sem, World.cell?_alloc_past])
  go_wp2_with fail
  exact bodyPost_ret (v := .tuple #[.agg #[.int .i64 0, .int .i64 0], .int .i64 E]) (by simp [results, Try.results35, go_sem, c4, c5]) rfl ⟨rfl, (by repeat (first | exact Below.refl _ _ | assumption | apply balloc | apply bdrew | (refine bset ?_ (by first | (simp; done) | omega | (simp; omega)) _) | (refine bnext ?_ (by assumption))))⟩
set_option maxHeartbeats 3200000 in
theorem refMeet_none (a : Option Addr) (cap : Nat) (w : World) (L : Hid (∀ w, Calls Try.prog 93 #[.slice a 0 cap] w fun e w' => e = .returned (.int .i64 0) ∧ Below w.heap.size w w')) :
    Calls Try.prog 35 #[.slice a 0 cap] w fun e w' => e = .returned (.tuple #[.agg #[.int .i64 0, .int .i64 0], .int .i64 2]) ∧ Below w.heap.size w w' := by
  go_enter Try.func35, Try.ntmps35
  go_wp2_with fail
  refine (L.out _).mono ?_
  rintro e w1 ⟨rfl, hb1⟩
  have c4 := later hb1 (a := ⟨w.heap.size, 0, none⟩) (v := .int .i64 0) (by simp [go_sem, World.cell?_alloc_past])
  have c5 := later hb1 (a := ⟨w.heap.size, 1, none⟩) (v := .int .i64 0) (by simp [go_sem, World.cell?_alloc_past])
  have f4 := free_later hb1 (a := ⟨w.heap.size, 0, none⟩) (v := .int .i64 0) (by simp [go_sem, World.cell?_alloc_past]) (by simp [go_sem, World.cell?_alloc_past])
  have f5 := free_later hb1 (a := ⟨w.heap.size, 1, none⟩) (v := .int .i64 0) (by simp [go_sem, World.cell?_alloc_past]) (by simp [go_sem, World.cell?_alloc_past])
  go_wp2_with fail
  exact bodyPost_ret (v := .tuple #[.agg #[.int .i64 0, .int .i64 0], .int .i64 2]) (by simp [results, Try.results35, go_sem, c4, c5]) rfl ⟨rfl, (by repeat (first | exact Below.refl _ _ | assumption | apply balloc | apply bdrew | (refine bset ?_ (by first | (simp; done) | omega | (simp; omega)) _) | (refine bnext ?_ (by assumption))))⟩

set_option maxRecDepth 100000 in
set_option maxHeartbeats 6400000 in
theorem refMeet_good (rs : List (Int × Int)) (a : Option Addr) (cap m : Nat) (x y E : Int) (HX : Hid (mxL rs m ≤ mnH rs m → x = mxL rs m ∧ y = mnH rs m ∧ E = 0)) (HN : Hid (¬ mxL rs m ≤ mnH rs m → x = 0 ∧ y = 0 ∧ E = 7)) (w : World) (L : Hid (∀ w, IsPairs w a rs → Calls Try.prog 93 #[.slice a rs.length cap] w fun e w' => e = .returned (.int .i64 0) ∧ Below w.heap.size w w')) (hl : rs.length ≤ 100) (hm : rs.length = m + 1) (h : Hid (IsPairs w a rs)) :
    Calls Try.prog 35 #[.slice a rs.length cap] w fun e w' => e = .returned (.tuple #[.agg #[.int .i64 x, .int .i64 y], .int .i64 E]) ∧ Below w.heap.size w w' := by
  obtain ⟨b, off, rfl, hc0⟩ : ∃ b off, a = some ⟨b, off, none⟩ ∧ ∀ i, i < rs.length → w.cell? ⟨b, off + i * 2, none⟩ = some (.int .i64 (rs.getD i (0, 0)).1) ∧ w.cell? ⟨b, off + i * 2 + 1, none⟩ = some (.int .i64 (rs.getD i (0, 0)).2) := by
    rcases h.out with h | h
    · subst h; simp at hm
    · exact h
  have HC := hide hc0
  rw [hm] at L hl
  rw [hm]
  clear hc0
  go_enter Try.func35, Try.ntmps35
  go_wp2_with fail
  refine (L.out _ (pairs_later h.out (by repeat (first | exact Below.refl _ _ | assumption | apply balloc | apply bdrew | (refine bset ?_ (by first | (simp; done) | omega | (simp; omega)) _) | (refine bnext ?_ (by assumption)))))).mono ?_
  rintro e w1 ⟨rfl, hb1⟩
  have c4 := later hb1 (a := ⟨w.heap.size, 0, none⟩) (v := .int .i64 0) (by simp [go_sem, World.cell?_alloc_past])
  have c5 := later hb1 (a := ⟨w.heap.size, 1, none⟩) (v := .int .i64 0) (by simp [go_sem, World.cell?_alloc_past])
  have f4 := free_later hb1 (a := ⟨w.heap.size, 0, none⟩) (v := .int .i64 0) (by simp [go_sem, World.cell?_alloc_past]) (by simp [go_sem, World.cell?_alloc_past])
  have f5 := free_later hb1 (a := ⟨w.heap.size, 1, none⟩) (v := .int .i64 0) (by simp [go_sem, World.cell?_alloc_past]) (by simp [go_sem, World.cell?_alloc_past])
  have B1 : Below w.heap.size w w1 := (by repeat (first | exact Below.refl _ _ | assumption | apply balloc | apply bdrew | (refine bset ?_ (by first | (simp; done) | omega | (simp; omega)) _) | (refine bnext ?_ (by assumption))))
  have z4 : w.heap.size < w1.heap.size := World.block_lt_of_cell? _ _ c4
  obtain ⟨q0, q1⟩ := HC.out 0 (by omega)
  rw [Nat.zero_mul, Nat.add_zero] at q0 q1
  have r0 := later B1 q0
  have r1 := later B1 q1
  have X0 := hide (show (rs.getD 0 (0, 0)).1 = mxL rs 0 from rfl)
  have X1 := hide (show (rs.getD 0 (0, 0)).2 = mnH rs 0 from rfl)
  rw [X0.out] at r0
  rw [X1.out] at r1
  clear hb1 q0 q1
  have hb0 : b < w.heap.size := World.block_lt_of_cell? _ _ (HC.out 0 (by omega)).1
  have C1 : CF w1 ⟨w.heap.size, 0, none⟩ (.int .i64 0) := ⟨c4, f4⟩
  have C2 : CF w1 ⟨w.heap.size, 1, none⟩ (.int .i64 0) := ⟨c5, f5⟩
  clear c4 c5 f4 f5 X0 X1
  go_wp2_with fail
  go_loopw [6] (fun i wr => ∃ k : Nat, k ≤ m ∧ i = .int .i64 ((k : Int) + 1) ∧ MSt w.heap.size w1.heap.size (mxL rs k) (mnH rs k) wr ∧ Below w.heap.size w wr) (fun i _ => m + 1 - (intOf i).toNat)
  case atStart => exact ⟨0, by omega, rfl, ⟨⟨cf_later (balloc (Below.refl _ _)) C1, cf_later (balloc (Below.refl _ _)) C2⟩, ⟨by simp [go_sem], by simp [go_sem]⟩, ⟨by simp [go_sem], by simp [go_sem]⟩⟩, balloc B1⟩
  case round =>
    obtain ⟨k, hk, rfl, hM, hbw⟩ := hrel
    have HMs := hide hM
    have ⟨⟨⟨s4, t4⟩, s5, t5⟩, ⟨s6, t6⟩, s7, t7⟩ := hM
    clear hM r0 r1
    by_cases hlt : k < m
    · obtain ⟨c1, c2⟩ := HC.out (k + 1) (by omega)
      have c1 := later hbw c1
      have c2 := later hbw c2
      have X := hide (show mxL rs (k + 1) = max (mxL rs k) (rs.getD (k + 1) (0, 0)).1 from rfl)
      have Y := hide (show mnH rs (k + 1) = min (mnH rs k) (rs.getD (k + 1) (0, 0)).2 from rfl)
      obtain ⟨z, hz⟩ : ∃ z, rs.getD (k + 1) (0, 0) = z := ⟨_, rfl⟩
      rw [hz] at c1 c2 X Y
      clear hz
      obtain ⟨p, q⟩ := z
      simp only at c1 c2 X Y
      have hm1 : (if mxL rs k < p then p else mxL rs k) = max (mxL rs k) p := by split <;> omega
      have hm2 : (if q < mnH rs k then q else mnH rs k) = min (mnH rs k) q := by split <;> omega
      have MS := hide fun (u : World) (h : MSt w.heap.size w1.heap.size (mxL rs k) (mnH rs k) u) => mst_set (x := max (mxL rs k) p) (y := min (mnH rs k) q) h (show w.heap.size ≠ w1.heap.size by omega)
      go_wp2_with fail
      go_big_region
      all_goals
        go_wp2_with fail
        go_roundw
        case rel => exact ⟨k + 1, by omega, by go_num, by rw [X.out, Y.out]; first | exact MS.out _ HMs.out | exact MS.out _ (mst_later HMs.out (bdrew (Below.refl _ _))) | (have := MS.out _ (mst_later HMs.out (bdrew (Below.refl _ _))); simpa [hm1, hm2] using this), bset (bset (bdrew hbw) (by first | (simp; done) | (simp; omega)) _) (by first | (simp; done) | (simp; omega)) _⟩
        case measure => simp [intOf]; omega
    · obtain rfl : k = m := by omega
      have hlt' : ¬ (k : Int) + 1 < (k : Int) + 1 := by omega
      by_cases hle : mnH rs k < mxL rs k
      · have NN := hide (HN.out (by omega))
        have d1 : decide (mnH rs k < mxL rs k) = true := decide_eq_true hle
        go_wp2_with fail
        have yy := two_set (x := .int .i64 0) (y := .int .i64 0) s4 s5
        exact bodyPost_ret (v := .tuple #[.agg #[.int .i64 0, .int .i64 0], .int .i64 7]) (by simp [results, Try.results35, go_sem, yy.1, yy.2]) rfl ⟨by rw [NN.out.1, NN.out.2.1, NN.out.2.2], bset (bset hbw (by simp) _) (by simp) _⟩
      · have NN := hide (HX.out (by omega))
        have d1 : decide (mnH rs k < mxL rs k) = false := decide_eq_false hle
        go_wp2_with fail
        have yy := two_set (x := .int .i64 (mxL rs k)) (y := .int .i64 (mnH rs k)) s4 s5
        exact bodyPost_ret (v := .tuple #[.agg #[.int .i64 (mxL rs k), .int .i64 (mnH rs k)], .int .i64 0]) (by simp [results, Try.results35, go_sem, yy.1, yy.2]) rfl ⟨by rw [NN.out.1, NN.out.2.1, NN.out.2.2], bset (bset hbw (by simp) _) (by simp) _⟩
set_option maxHeartbeats 3200000 in
theorem refHull_bad (rs : List (Int × Int)) (a : Option Addr) (cap : Nat) (E : Int) (w : World) (L : Hid (∀ w, IsPairs w a rs → Calls Try.prog 93 #[.slice a rs.length cap] w fun e w' => e = .returned (.int .i64 E) ∧ Below w.heap.size w w')) (hE : (E == 0) = false) (h : Hid (IsPairs w a rs)) :
    Calls Try.prog 36 #[.slice a rs.length cap] w fun e w' => e = .returned (.tuple #[.agg #[.int .i64 0, .int .i64 0], .int .i64 E]) ∧ Below w.heap.size w w' := by
  go_enter Try.func36, Try.ntmps36
  go_wp2_with fail
  refine (L.out _ (pairs_later h.out (by repeat (first | exact Below.refl _ _ | assumption | apply balloc | apply bdrew | (refine bset ?_ (by first | (simp; done) | omega | (simp; omega)) _) | (refine bnext ?_ (by assumption)))))).mono ?_
  rintro e w1 ⟨rfl, hb1⟩
  have c4 := later hb1 (a := ⟨w.heap.size, 0, none⟩) (v := .int .i64 0) (by simp [go_sem, World.cell?_alloc_past])
  have c5 := later hb1 (a := ⟨w.heap.size, 1, none⟩) (v := .int .i64 0) (by simp [go_sem, World.cell?_alloc_past])
  have f4 := free_later hb1 (a := ⟨w.heap.size, 0, none⟩) (v := .int .i64 0) (by simp [go_sem, World.cell?_alloc_past]) (by simp [go_sem, World.cell?_alloc_past])
  have f5 := free_later hb1 (a := ⟨w.heap.size, 1, none⟩) (v := .int .i64 0) (by simp [go_sem, World.cell?_alloc_past]) (by simp [go_sem, World.cell?_alloc_past])
  go_wp2_with fail
  exact bodyPost_ret (v := .tuple #[.agg #[.int .i64 0, .int .i64 0], .int .i64 E]) (by simp [results, Try.results36, go_sem, c4, c5]) rfl ⟨rfl, (by repeat (first | exact Below.refl _ _ | assumption | apply balloc | apply bdrew | (refine bset ?_ (by first | (simp; done) | omega | (simp; omega)) _) | (refine bnext ?_ (by assumption))))⟩
set_option maxHeartbeats 3200000 in
theorem refHull_none (a : Option Addr) (cap : Nat) (w : World) (L : Hid (∀ w, Calls Try.prog 93 #[.slice a 0 cap] w fun e w' => e = .returned (.int .i64 0) ∧ Below w.heap.size w w')) :
    Calls Try.prog 36 #[.slice a 0 cap] w fun e w' => e = .returned (.tuple #[.agg #[.int .i64 0, .int .i64 0], .int .i64 2]) ∧ Below w.heap.size w w' := by
  go_enter Try.func36, Try.ntmps36
  go_wp2_with fail
  refine (L.out _).mono ?_
  rintro e w1 ⟨rfl, hb1⟩
  have c4 := later hb1 (a := ⟨w.heap.size, 0, none⟩) (v := .int .i64 0) (by simp [go_sem, World.cell?_alloc_past])
  have c5 := later hb1 (a := ⟨w.heap.size, 1, none⟩) (v := .int .i64 0) (by simp [go_sem, World.cell?_alloc_past])
  have f4 := free_later hb1 (a := ⟨w.heap.size, 0, none⟩) (v := .int .i64 0) (by simp [go_sem, World.cell?_alloc_past]) (by simp [go_sem, World.cell?_alloc_past])
  have f5 := free_later hb1 (a := ⟨w.heap.size, 1, none⟩) (v := .int .i64 0) (by simp [go_sem, World.cell?_alloc_past]) (by simp [go_sem, World.cell?_alloc_past])
  go_wp2_with fail
  exact bodyPost_ret (v := .tuple #[.agg #[.int .i64 0, .int .i64 0], .int .i64 2]) (by simp [results, Try.results36, go_sem, c4, c5]) rfl ⟨rfl, (by repeat (first | exact Below.refl _ _ | assumption | apply balloc | apply bdrew | (refine bset ?_ (by first | (simp; done) | omega | (simp; omega)) _) | (refine bnext ?_ (by assumption))))⟩

set_option maxRecDepth 100000 in
set_option maxHeartbeats 6400000 in
theorem refHull_good (rs : List (Int × Int)) (a : Option Addr) (cap m : Nat) (w : World) (L : Hid (∀ w, IsPairs w a rs → Calls Try.prog 93 #[.slice a rs.length cap] w fun e w' => e = .returned (.int .i64 0) ∧ Below w.heap.size w w')) (hl : rs.length ≤ 100) (hm : rs.length = m + 1) (h : Hid (IsPairs w a rs)) :
    Calls Try.prog 36 #[.slice a rs.length cap] w fun e w' => e = .returned (.tuple #[.agg #[.int .i64 (mnL rs m), .int .i64 (mxH rs m)], .int .i64 0]) ∧ Below w.heap.size w w' := by
  obtain ⟨b, off, rfl, hc0⟩ : ∃ b off, a = some ⟨b, off, none⟩ ∧ ∀ i, i < rs.length → w.cell? ⟨b, off + i * 2, none⟩ = some (.int .i64 (rs.getD i (0, 0)).1) ∧ w.cell? ⟨b, off + i * 2 + 1, none⟩ = some (.int .i64 (rs.getD i (0, 0)).2) := by
    rcases h.out with h | h
    · subst h; simp at hm
    · exact h
  have HC := hide hc0
  rw [hm] at L hl
  rw [hm]
  clear hc0
  go_enter Try.func36, Try.ntmps36
  go_wp2_with fail
  refine (L.out _ (pairs_later h.out (by repeat (first | exact Below.refl _ _ | assumption | apply balloc | apply bdrew | (refine bset ?_ (by first | (simp; done) | omega | (simp; omega)) _) | (refine bnext ?_ (by assumption)))))).mono ?_
  rintro e w1 ⟨rfl, hb1⟩
  have c4 := later hb1 (a := ⟨w.heap.size, 0, none⟩) (v := .int .i64 0) (by simp [go_sem, World.cell?_alloc_past])
  have c5 := later hb1 (a := ⟨w.heap.size, 1, none⟩) (v := .int .i64 0) (by simp [go_sem, World.cell?_alloc_past])
  have f4 := free_later hb1 (a := ⟨w.heap.size, 0, none⟩) (v := .int .i64 0) (by simp [go_sem, World.cell?_alloc_past]) (by simp [go_sem, World.cell?_alloc_past])
  have f5 := free_later hb1 (a := ⟨w.heap.size, 1, none⟩) (v := .int .i64 0) (by simp [go_sem, World.cell?_alloc_past]) (by simp [go_sem, World.cell?_alloc_past])
  have B1 : Below w.heap.size w w1 := (by repeat (first | exact Below.refl _ _ | assumption | apply balloc | apply bdrew | (refine bset ?_ (by first | (simp; done) | omega | (simp; omega)) _) | (refine bnext ?_ (by assumption))))
  have z4 : w.heap.size < w1.heap.size := World.block_lt_of_cell? _ _ c4
  obtain ⟨q0, q1⟩ := HC.out 0 (by omega)
  rw [Nat.zero_mul, Nat.add_zero] at q0 q1
  have r0 := later B1 q0
  have r1 := later B1 q1
  have X0 := hide (show (rs.getD 0 (0, 0)).1 = mnL rs 0 from rfl)
  have X1 := hide (show (rs.getD 0 (0, 0)).2 = mxH rs 0 from rfl)
  rw [X0.out] at r0
  rw [X1.out] at r1
  clear hb1 q0 q1
  have hb0 : b < w.heap.size := World.block_lt_of_cell? _ _ (HC.out 0 (by omega)).1
  have C1 : CF w1 ⟨w.heap.size, 0, none⟩ (.int .i64 0) := ⟨c4, f4⟩
  have C2 : CF w1 ⟨w.heap.size, 1, none⟩ (.int .i64 0) := ⟨c5, f5⟩
  clear c4 c5 f4 f5 X0 X1
  go_wp2_with fail
  go_loopw [6] (fun i wr => ∃ k : Nat, k ≤ m ∧ i = .int .i64 ((k : Int) + 1) ∧ MSt w.heap.size w1.heap.size (mnL rs k) (mxH rs k) wr ∧ Below w.heap.size w wr) (fun i _ => m + 1 - (intOf i).toNat)
  case atStart => exact ⟨0, by omega, rfl, ⟨⟨cf_later (balloc (Below.refl _ _)) C1, cf_later (balloc (Below.refl _ _)) C2⟩, ⟨by simp [go_sem], by simp [go_sem]⟩, ⟨by simp [go_sem], by simp [go_sem]⟩⟩, balloc B1⟩
  case round =>
    obtain ⟨k, hk, rfl, hM, hbw⟩ := hrel
    have HMs := hide hM
    have ⟨⟨⟨s4, t4⟩, s5, t5⟩, ⟨s6, t6⟩, s7, t7⟩ := hM
    clear hM r0 r1
    by_cases hlt : k < m
    · obtain ⟨c1, c2⟩ := HC.out (k + 1) (by omega)
      have c1 := later hbw c1
      have c2 := later hbw c2
      have X := hide (show mnL rs (k + 1) = min (mnL rs k) (rs.getD (k + 1) (0, 0)).1 from rfl)
      have Y := hide (show mxH rs (k + 1) = max (mxH rs k) (rs.getD (k + 1) (0, 0)).2 from rfl)
      obtain ⟨z, hz⟩ : ∃ z, rs.getD (k + 1) (0, 0) = z := ⟨_, rfl⟩
      rw [hz] at c1 c2 X Y
      clear hz
      obtain ⟨p, q⟩ := z
      simp only at c1 c2 X Y
      have hm1 : (if p < mnL rs k then p else mnL rs k) = min (mnL rs k) p := by split <;> omega
      have hm2 : (if mxH rs k < q then q else mxH rs k) = max (mxH rs k) q := by split <;> omega
      have MS := hide fun (u : World) (h : MSt w.heap.size w1.heap.size (mnL rs k) (mxH rs k) u) => mst_set (x := min (mnL rs k) p) (y := max (mxH rs k) q) h (show w.heap.size ≠ w1.heap.size by omega)
      go_wp2_with fail
      go_big_region
      all_goals
        go_wp2_with fail
        go_roundw
        case rel => exact ⟨k + 1, by omega, by go_num, by rw [X.out, Y.out]; first | exact MS.out _ HMs.out | exact MS.out _ (mst_later HMs.out (bdrew (Below.refl _ _))) | (have := MS.out _ (mst_later HMs.out (bdrew (Below.refl _ _))); simpa [hm1, hm2] using this), bset (bset (bdrew hbw) (by first | (simp; done) | (simp; omega)) _) (by first | (simp; done) | (simp; omega)) _⟩
        case measure => simp [intOf]; omega
    · obtain rfl : k = m := by omega
      have hlt' : ¬ (k : Int) + 1 < (k : Int) + 1 := by omega
      go_wp2_with fail
      have yy := two_set (x := .int .i64 (mnL rs k)) (y := .int .i64 (mxH rs k)) s4 s5
      exact bodyPost_ret (v := .tuple #[.agg #[.int .i64 (mnL rs k), .int .i64 (mxH rs k)], .int .i64 0]) (by simp [results, Try.results36, go_sem, yy.1, yy.2]) rfl ⟨rfl, bset (bset hbw (by simp) _) (by simp) _⟩
theorem listE_len {rs : List (Int × Int)} (h : (listE rs == 0) = true) : rs.length ≤ 100 := by
  rcases listE_cases rs with ⟨E, k1, k2, hE, e, hc⟩ | ⟨e, hn, h2, hc⟩
  · rw [e, hE] at h; exact absurd h (by decide)
  · exact hn
theorem refMeet_any (rs : List (Int × Int)) (a : Option Addr) (cap : Nat) (w : World) (hl : rs.length ≤ 140737488351232) (h : IsPairs w a rs) :
    Calls Try.prog 35 #[.slice a rs.length cap] w fun e w' => e = .returned (.tuple #[.agg #[.int .i64 (meetQ rs).1, .int .i64 (meetQ rs).2.1], .int .i64 (meetQ rs).2.2]) ∧ Below w.heap.size w w' := by
  have L := fun w h => refList_any a cap rs w hl h
  cases hE : (listE rs == 0)
  · have e1 : someE rs = listE rs := by unfold someE; rw [hE, if_pos rfl]
    have e2 : (someE rs == 0) = false := by rw [e1, hE]
    have := refMeet_bad rs a cap (listE rs) w (hide L) hE (hide h)
    have q : meetQ rs = (0, 0, listE rs) := by unfold meetQ; rw [e2, if_pos rfl, e1]
    rw [q]; exact this
  · have hle := listE_len hE
    have e0 : listE rs = 0 := by simpa using hE
    rw [e0] at L
    by_cases h0 : rs.length = 0
    · have e1 : someE rs = 2 := by unfold someE; rw [hE, if_neg (by decide), if_pos h0]
      have q : meetQ rs = (0, 0, 2) := by unfold meetQ; rw [e1]; rfl
      rw [q]
      obtain rfl := List.eq_nil_of_length_eq_zero h0
      exact refMeet_none a cap w (hide fun w => L w (.inl rfl))
    · have e1 : someE rs = 0 := by unfold someE; rw [hE, if_neg (by decide), if_neg h0]
      obtain ⟨m, hm⟩ : ∃ m, rs.length = m + 1 := ⟨rs.length - 1, by omega⟩
      have e2 : rs.length - 1 = m := by omega
      refine refMeet_good rs a cap m (meetQ rs).1 (meetQ rs).2.1 (meetQ rs).2.2 (hide ?_) (hide ?_) w (hide L) hle hm (hide h)
      · intro h; simp [meetQ, e1, e2, h]
      · intro h; simp [meetQ, e1, e2, h]
theorem refHull_any (rs : List (Int × Int)) (a : Option Addr) (cap : Nat) (w : World) (hl : rs.length ≤ 140737488351232) (h : IsPairs w a rs) :
    Calls Try.prog 36 #[.slice a rs.length cap] w fun e w' => e = .returned (.tuple #[.agg #[.int .i64 (hullQ rs).1, .int .i64 (hullQ rs).2.1], .int .i64 (hullQ rs).2.2]) ∧ Below w.heap.size w w' := by
  have L := fun w h => refList_any a cap rs w hl h
  cases hE : (listE rs == 0)
  · have e1 : someE rs = listE rs := by unfold someE; rw [hE, if_pos rfl]
    have e2 : (someE rs == 0) = false := by rw [e1, hE]
    have := refHull_bad rs a cap (listE rs) w (hide L) hE (hide h)
    have q : hullQ rs = (0, 0, listE rs) := by unfold hullQ; rw [e2, if_pos rfl, e1]
    rw [q]; exact this
  · have hle := listE_len hE
    have e0 : listE rs = 0 := by simpa using hE
    rw [e0] at L
    by_cases h0 : rs.length = 0
    · have e1 : someE rs = 2 := by unfold someE; rw [hE, if_neg (by decide), if_pos h0]
      have q : hullQ rs = (0, 0, 2) := by unfold hullQ; rw [e1]; rfl
      rw [q]
      obtain rfl := List.eq_nil_of_length_eq_zero h0
      exact refHull_none a cap w (hide fun w => L w (.inl rfl))
    · have e1 : someE rs = 0 := by unfold someE; rw [hE, if_neg (by decide), if_neg h0]
      obtain ⟨m, hm⟩ : ∃ m, rs.length = m + 1 := ⟨rs.length - 1, by omega⟩
      have e2 : rs.length - 1 = m := by omega
      have q : hullQ rs = (mnL rs m, mxH rs m, 0) := by simp [hullQ, e1, e2]
      rw [q]
      exact refHull_good rs a cap m w (hide L) hle hm (hide h)
end Go.Proofs.Ytadnchcelocnaaa

namespace Go.Proofs.Ytadnchcelocnaaa
set_option linter.unusedSimpArgs false
set_option linter.unusedVariables false
open Go.RowKit

theorem pairs_of_own_cap {w : World} {base : Nat} {T : TypeId} {v : Value} {zs : List (Int × Int)} (h : w.ownsRow base T 2 v zs.length (rowOf zs)) : ∃ b c, v = .slice b zs.length c ∧ zs.length ≤ c ∧ IsPairs w b zs := by
  obtain ⟨b, c, rfl, hp⟩ := pairs_of_owned h rfl
  refine ⟨b, c, rfl, ?_, hp⟩
  rcases h.2 with ⟨e, e'⟩ | ⟨g, cap, cur, e, _, _, hc, _⟩
  · omega
  · cases e; exact hc
/-- A list of ranges of its own, told, with its room. -/
def PairsPostC (w : World) (zs : List (Int × Int)) (e : Ending) (w' : World) : Prop := ∃ b c, e = .returned (.slice b zs.length c) ∧ zs.length ≤ c ∧ IsPairs w' b zs ∧ Below w.heap.size w w'
set_option maxHeartbeats 1600000 in
theorem ownRanges_cap (a : Option Addr) (cap : Nat) (zs : List (Int × Int)) (w : World) (hl : zs.length ≤ 1000) (ha : a = none → cap = 0 ∧ zs = []) (h : IsPairs w a zs) :
    Calls Try.prog 30 #[.slice a zs.length cap] w fun e w' => PairsPostC w zs e w' := by
  obtain ⟨ti, hi, hz0, hz1, hz2⟩ := info_parts range_info
  have HI := hide hi
  have HZ0 := hide hz0
  have HZ1 := hide hz1
  have HZ2 := hide hz2
  clear hi hz0 hz1 hz2
  have OWN := hide (World.ownsRow_lit (base := w.heap.size) (e := 46) (size := 2) w #[] 0 (Nat.le_refl _) (by unfold maxLen; omega) rfl)
  cases a with
  | none =>
    obtain ⟨rfl, rfl⟩ := ha rfl
    go_enter Try.func30, Try.ntmps30
    go_wp2_with (at_builtin; refine wpList_append_own_none rfl (.tmp 3) (.tmp 4) 43 rfl w.heap.size 46 ti 2 Try.underlying43 HI.out _ 0 [] rfl OWN.out rfl ?_)
    refine bodyPost_ret (v := .slice (some ⟨w.heap.size, 0, none⟩) 0 0) (by simp [results, Try.results30, go_sem]) rfl ⟨_, _, rfl, Nat.le_refl _, .inl rfl, (by repeat (first | exact Below.refl _ _ | assumption | apply balloc | apply bdrew | (refine bset ?_ (by first | (simp; done) | omega | (simp; omega)) _) | (refine bnext ?_ (by assumption))))⟩
  | some ad =>
    have HC := hide (rowOf_cell rfl h)
    have HL := hide hl
    obtain ⟨row, hrow⟩ : ∃ row, rowOf zs = row := ⟨_, rfl⟩
    have HR := hide hrow
    have H1 := hide (rowOf_ones (zs := zs))
    have HN := hide (rowOf_length zs)
    rw [hrow] at HC H1 HN
    clear h ha hl hrow
    go_enter Try.func30, Try.ntmps30
    go_wp2_with (at_builtin; refine wpList_append_own _ rfl (.tmp 3) (.tmp 4) 43 rfl w.heap.size 46 ti (.agg #[.int .i64 0, .int .i64 0]) 2 16 Try.underlying43 HI.out HZ0.out HZ1.out HZ2.out rfl (by decide) _ 0 [] rfl OWN.out ad zs.length cap row rfl HN.out ?_ H1.out ?_ ?_ ?_ ?_)
    · intro j u hu; exact later (balloc (Below.refl _ _)) (HC.out j u hu)
    · have := HL.out; unfold maxLen; omega
    · have := HL.out; omega
    · intro v' w1 hown1 hgrow _
      rw [← HR.out] at hown1
      obtain ⟨b, c, rfl, hb, hp⟩ := pairs_of_own_cap hown1
      have HP := hide hp
      have HG := hide hgrow
      have HB := hide hb
      clear hown1 hgrow hp hb
      go_wp2_with fail
      refine bodyPost_ret (v := .slice b zs.length c) (by simp [results, Try.results30, go_sem]) rfl ⟨_, _, rfl, HB.out, HP.out, ?_⟩
      exact app_below (v := .slice (some ⟨w.heap.size, 0, none⟩) 0 0) (Below.refl _ _) (Nat.le_refl _) (fun k hk => by simp [Value.ownBlock] at hk; omega) HG.out

set_option maxHeartbeats 6400000 in
theorem unitsLists_walk (rs : List (Int × Int)) (a : Option Addr) (cap : Nat) (w : World) (hl : rs.length ≤ maxLen ∧ (a = none → cap = 0 ∧ rs = [])) (h : IsPairs w a rs) :
    Calls Try.prog 6 #[.slice a rs.length cap] w fun e w' => e = .returned (.bool true) ∧ Below w.heap.size w w' := by
  by_cases hlen : 110 < rs.length
  · have d1 : decide (110 < (rs.length : Int)) = true := decide_eq_true (by omega)
    obtain ⟨hm, _⟩ := hl
    unfold maxLen at hm
    go_enter Try.func6, Try.ntmps6
    go_wp2_with fail
    refine (known_any _).mono ?_
    rintro e w1 ⟨rfl, hb1⟩
    go_wp2_with fail
    go_ret
    exact ⟨rfl, (by repeat (first | exact Below.refl _ _ | assumption | apply balloc | apply bdrew | (refine bset ?_ (by first | (simp; done) | omega | (simp; omega)) _) | (refine bnext ?_ (by assumption))))⟩
  · have d1 : decide (110 < (rs.length : Int)) = false := decide_eq_false (by omega)
    have H := hide h
    have HA := hide hl.2
    clear hl h
    obtain ⟨A, hA⟩ : ∃ q, sumQ rs = q := ⟨_, rfl⟩
    obtain ⟨B, hB⟩ : ∃ q, meetQ rs = q := ⟨_, rfl⟩
    obtain ⟨C, hC⟩ : ∃ q, hullQ rs = q := ⟨_, rfl⟩
    obtain ⟨A1, A2, A3⟩ := A
    obtain ⟨B1, B2, B3⟩ := B
    obtain ⟨C1, C2, C3⟩ := C
    have F1 := hide fun a cap w hl h => by have := sum_any rs a cap w hl h; rw [hA] at this; exact this
    have F2 := hide fun a cap w hl hc h => by have := meet_any rs a cap w hl hc h; rw [hB] at this; exact this
    have F3 := hide fun a cap w hl h => by have := hull_any rs a cap w hl h; rw [hC] at this; exact this
    have G1 := hide fun a cap w hl h => by have := refSum_any rs a cap w hl h; rw [hA] at this; exact this
    have G2 := hide fun a cap w hl h => by have := refMeet_any rs a cap w hl h; rw [hB] at this; exact this
    have G3 := hide fun a cap w hl h => by have := refHull_any rs a cap w hl h; rw [hC] at this; exact this
    clear hA hB hC
    go_enter Try.func6, Try.ntmps6
    go_wp2_with fail
    refine (ownRanges_cap a cap rs _ (by omega) HA.out H.out).mono ?_
    rintro e w1 ⟨b1, c1, rfl, hc1, hi1, hb1⟩
    have H1 := hide (pairs_later H.out hb1)
    have I1 := hide hi1
    have HC1 := hide hc1
    clear hi1 H hc1
    go_wp2_with fail
    refine (F1.out b1 c1 _ (by omega) I1.out).mono ?_
    rintro e w2 ⟨rfl, hb2⟩
    have H2 := hide (fun o => pairs_later (pairs_later H1.out hb2) (balloc (o := o) (Below.refl _ _)))
    have I2 := hide (fun o => pairs_later (pairs_later I1.out hb2) (balloc (o := o) (Below.refl _ _)))
    clear H1 I1
    go_wp2_with fail
    refine (F2.out b1 c1 _ (by omega) HC1.out (I2.out _)).mono ?_
    rintro e w3 ⟨rfl, hb3⟩
    have x0 := fun o => later (balloc (o := o) (Below.refl _ _)) (later hb3 (a := ⟨w2.heap.size, 0, none⟩) (v := .int .i64 A1) (by simp [go_sem, World.cell?_alloc_past]))
    have x1 := fun o => later (balloc (o := o) (Below.refl _ _)) (later hb3 (a := ⟨w2.heap.size, 1, none⟩) (v := .int .i64 A2) (by simp [go_sem, World.cell?_alloc_past]))
    have H3 := hide (fun o => pairs_later (pairs_later (H2.out _) hb3) (balloc (o := o) (Below.refl _ _)))
    have I3 := hide (fun o => pairs_later (pairs_later (I2.out _) hb3) (balloc (o := o) (Below.refl _ _)))
    clear H2 I2
    go_wp2_with fail
    refine (F3.out b1 c1 _ (by omega) (I3.out _)).mono ?_
    rintro e w4 ⟨rfl, hb4⟩
    have y0 := fun o => later (balloc (o := o) (Below.refl _ _)) (later hb4 (x0 _))
    have y1 := fun o => later (balloc (o := o) (Below.refl _ _)) (later hb4 (x1 _))
    have y2 := fun o => later (balloc (o := o) (Below.refl _ _)) (later hb4 (a := ⟨w3.heap.size, 0, none⟩) (v := .int .i64 B1) (by simp [go_sem, World.cell?_alloc_past]))
    have y3 := fun o => later (balloc (o := o) (Below.refl _ _)) (later hb4 (a := ⟨w3.heap.size, 1, none⟩) (v := .int .i64 B2) (by simp [go_sem, World.cell?_alloc_past]))
    have H4 := hide (fun o => pairs_later (pairs_later (H3.out _) hb4) (balloc (o := o) (Below.refl _ _)))
    have I4 := hide (fun o => pairs_later (pairs_later (I3.out _) hb4) (balloc (o := o) (Below.refl _ _)))
    clear H3 I3 x0 x1
    go_wp2_with fail
    refine (G1.out a cap _ (by omega) (H4.out _)).mono ?_
    rintro e w5 ⟨rfl, hb5⟩
    have z0 := fun o => later (balloc (o := o) (Below.refl _ _)) (later hb5 (y0 _))
    have z1 := fun o => later (balloc (o := o) (Below.refl _ _)) (later hb5 (y1 _))
    have z2 := fun o => later (balloc (o := o) (Below.refl _ _)) (later hb5 (y2 _))
    have z3 := fun o => later (balloc (o := o) (Below.refl _ _)) (later hb5 (y3 _))
    have z4 := fun o => later (balloc (o := o) (Below.refl _ _)) (later hb5 (a := ⟨w4.heap.size, 0, none⟩) (v := .int .i64 C1) (by simp [go_sem, World.cell?_alloc_past]))
    have z5 := fun o => later (balloc (o := o) (Below.refl _ _)) (later hb5 (a := ⟨w4.heap.size, 1, none⟩) (v := .int .i64 C2) (by simp [go_sem, World.cell?_alloc_past]))
    have H5 := hide (fun o => pairs_later (pairs_later (H4.out _) hb5) (balloc (o := o) (Below.refl _ _)))
    have I5 := hide (fun o => pairs_later (pairs_later (I4.out _) hb5) (balloc (o := o) (Below.refl _ _)))
    clear H4 I4 y0 y1 y2 y3
    go_wp2_with fail
    refine (G2.out a cap _ (by omega) (H5.out _)).mono ?_
    rintro e w6 ⟨rfl, hb6⟩
    have x0 := fun o => later (balloc (o := o) (Below.refl _ _)) (later hb6 (z0 _))
    have x1 := fun o => later (balloc (o := o) (Below.refl _ _)) (later hb6 (z1 _))
    have x2 := fun o => later (balloc (o := o) (Below.refl _ _)) (later hb6 (z2 _))
    have x3 := fun o => later (balloc (o := o) (Below.refl _ _)) (later hb6 (z3 _))
    have x4 := fun o => later (balloc (o := o) (Below.refl _ _)) (later hb6 (z4 _))
    have x5 := fun o => later (balloc (o := o) (Below.refl _ _)) (later hb6 (z5 _))
    have x6 := fun o => later (balloc (o := o) (Below.refl _ _)) (later hb6 (a := ⟨w5.heap.size, 0, none⟩) (v := .int .i64 A1) (by simp [go_sem, World.cell?_alloc_past]))
    have x7 := fun o => later (balloc (o := o) (Below.refl _ _)) (later hb6 (a := ⟨w5.heap.size, 1, none⟩) (v := .int .i64 A2) (by simp [go_sem, World.cell?_alloc_past]))
    have H6 := hide (fun o => pairs_later (pairs_later (H5.out _) hb6) (balloc (o := o) (Below.refl _ _)))
    have I6 := hide (fun o => pairs_later (pairs_later (I5.out _) hb6) (balloc (o := o) (Below.refl _ _)))
    clear H5 I5 z0 z1 z2 z3 z4 z5
    go_wp2_with fail
    refine (G3.out a cap _ (by omega) (H6.out _)).mono ?_
    rintro e w7 ⟨rfl, hb7⟩
    have y0 := fun o => later (balloc (o := o) (Below.refl _ _)) (later hb7 (x0 _))
    have y1 := fun o => later (balloc (o := o) (Below.refl _ _)) (later hb7 (x1 _))
    have y2 := fun o => later (balloc (o := o) (Below.refl _ _)) (later hb7 (x2 _))
    have y3 := fun o => later (balloc (o := o) (Below.refl _ _)) (later hb7 (x3 _))
    have y4 := fun o => later (balloc (o := o) (Below.refl _ _)) (later hb7 (x4 _))
    have y5 := fun o => later (balloc (o := o) (Below.refl _ _)) (later hb7 (x5 _))
    have y6 := fun o => later (balloc (o := o) (Below.refl _ _)) (later hb7 (x6 _))
    have y7 := fun o => later (balloc (o := o) (Below.refl _ _)) (later hb7 (x7 _))
    have y8 := fun o => later (balloc (o := o) (Below.refl _ _)) (later hb7 (a := ⟨w6.heap.size, 0, none⟩) (v := .int .i64 B1) (by simp [go_sem, World.cell?_alloc_past]))
    have y9 := fun o => later (balloc (o := o) (Below.refl _ _)) (later hb7 (a := ⟨w6.heap.size, 1, none⟩) (v := .int .i64 B2) (by simp [go_sem, World.cell?_alloc_past]))
    have H7 := hide (fun o => pairs_later (pairs_later (H6.out _) hb7) (balloc (o := o) (Below.refl _ _)))
    have I7 := hide (fun o => pairs_later (pairs_later (I6.out _) hb7) (balloc (o := o) (Below.refl _ _)))
    clear H6 I6 x0 x1 x2 x3 x4 x5 x6 x7
    go_wp2_with fail
    refine (sameRanges_any b1 a c1 cap rs rs _ (by omega) (by omega) (I7.out _) (H7.out _)).mono ?_
    rw [decide_eq_true rfl]
    rintro e w8 ⟨rfl, hb8⟩
    go_wp2_with fail
    refine (known_any _).mono ?_
    rintro e w9 ⟨rfl, hb9⟩
    go_wp2_with fail
    go_ret
    exact ⟨rfl, (by repeat (first | exact Below.refl _ _ | assumption | apply balloc | apply bdrew | (refine bset ?_ (by first | (simp; done) | omega | (simp; omega)) _) | (refine bnext ?_ (by assumption))))⟩
end Go.Proofs.Ytadnchcelocnaaa

namespace Go.Proofs.Ytadnchcelocnaaa
set_option linter.unusedSimpArgs false
set_option linter.unusedVariables false
open Go.RowKit

/-- What is rounded up. -/
def upV (N c : Int) : Int := N / c + (if 0 < N % c then 1 else 0)
theorem divQ_down {N c : Int} (c0 : 1 ≤ c) : ((divQ N c 1).2.2 = true ∧ (divQ N c 1).1 = N / c ∧ -1000000000000000 ≤ N / c ∧ N / c ≤ 1000000000000000) ∨ ((divQ N c 1).2.2 = false ∧ (N / c < -1000000000000000 ∨ 1000000000000000 < N / c)) := by
  cases hf : (floorQ N c).2.2 with
  | false =>
    have o := floorQ_out c0 hf
    have hd : (divQ N c 1).2.2 = false := by unfold divQ; rw [hf]; simp
    exact .inr ⟨hd, by omega⟩
  | true =>
    obtain ⟨f, _, _⟩ := floorQ_true c0 hf
    rw [divQ_eq f, upQ1, if_neg (by simp)]
    cases hk : allIn 1000000000000000 [N / c] with
    | true => exact .inl ⟨rfl, rfl, (allIn_one.1 hk).1, (allIn_one.1 hk).2⟩
    | false =>
      refine .inr ⟨rfl, ?_⟩
      by_cases h0 : -1000000000000000 ≤ N / c
      · by_cases h1 : N / c ≤ 1000000000000000
        · rw [allIn_one.2 ⟨h0, h1⟩] at hk; cases hk
        · omega
      · omega
theorem divQ_up {N c : Int} (c0 : 1 ≤ c) : ((divQ N c 2).2.2 = true ∧ (divQ N c 2).1 = upV N c ∧ -1000000000000000 ≤ upV N c ∧ upV N c ≤ 1000000000000000) ∨ ((divQ N c 2).2.2 = false ∧ (upV N c < -1000000000000000 ∨ 1000000000000000 < upV N c)) := by
  cases hf : (floorQ N c).2.2 with
  | false =>
    have o := floorQ_out c0 hf
    have hd : (divQ N c 2).2.2 = false := by unfold divQ; rw [hf]; simp
    refine .inr ⟨hd, ?_⟩
    unfold upV
    split <;> omega
  | true =>
    obtain ⟨f, _, _⟩ := floorQ_true c0 hf
    have e : upV N c = if upQ 2 (N / c) (N % c) c = true then N / c + 1 else N / c := by
      unfold upV; rw [upQ2]
      by_cases h : 0 < N % c
      · rw [if_pos h, if_pos (decide_eq_true h)]
      · rw [if_neg h, if_neg (by simpa using h)]; omega
    rw [divQ_eq f]
    have fin : ∀ v : Int, (allIn 1000000000000000 [v] = true ∧ True ∧ -1000000000000000 ≤ v ∧ v ≤ 1000000000000000) ∨ (allIn 1000000000000000 [v] = false ∧ (v < -1000000000000000 ∨ 1000000000000000 < v)) := by
      intro v
      cases hk : allIn 1000000000000000 [v] with
      | true => exact .inl ⟨rfl, trivial, (allIn_one.1 hk).1, (allIn_one.1 hk).2⟩
      | false =>
        refine .inr ⟨rfl, ?_⟩
        by_cases h0 : -1000000000000000 ≤ v
        · by_cases h1 : v ≤ 1000000000000000
          · rw [allIn_one.2 ⟨h0, h1⟩] at hk; cases hk
          · omega
        · omega
    rw [e]
    cases hu : upQ 2 (N / c) (N % c) c with
    | true => simp only [if_true]; exact fin _
    | false => simp only [Bool.false_eq_true, if_false]; exact fin _
/-- The reference's Floor, and what it is rounded up to. -/
theorem refFlo_cases {N c : Int} (c0 : 1 ≤ c) : ((refFlo N c).2.2 = true ∧ (refFlo N c).1 = N / c ∧ (refFlo N c).1 + (if 0 < (refFlo N c).2.1 then 1 else 0) = upV N c) ∨ ((refFlo N c).2.2 = false ∧ (N / c < -1000000000000001 ∨ 1000000000000000 < N / c)) := by
  cases h : (refFlo N c).2.2 with
  | false => exact .inr ⟨rfl, floorQ_out c0 (refFlo_false c0 h)⟩
  | true =>
    obtain ⟨e, _, _⟩ := refFlo_true c0 h
    refine .inl ⟨rfl, by rw [e], ?_⟩
    rw [e]; rfl
theorem upV_le {N c : Int} : N / c ≤ upV N c ∧ upV N c ≤ N / c + 1 := by unfold upV; split <;> omega

/-- What has been gathered of the first quotients. -/
def gF (q : Nat → Int × Int × Int) : Nat → Gth
  | 0 => ⟨0, 0, false, false⟩
  | j + 1 => gQuo (gF q j) (q j).1 (q j).2.1 (q j).2.2
/-- What the reference holds after the first quotients. -/
def rStep (first : Bool) (s : Int × Int × Bool) (f : Int × Int × Bool) : Int × Int × Bool :=
  (min (if first then f.1 else s.1) f.1, max (if first then f.1 + (if 0 < f.2.1 then 1 else 0) else s.2.1) (f.1 + (if 0 < f.2.1 then 1 else 0)), s.2.2 && f.2.2)
def rF (q : Nat → Int × Int × Int) : Nat → Int × Int × Bool
  | 0 => (0, 0, true)
  | j + 1 => rStep (decide (j = 0)) (rF q j) (refFlo ((q j).1 * (q j).2.1) (q j).2.2)
theorem spread_inv (q : Nat → Int × Int × Int) (n : Nat) (hc : ∀ j, j < n → 1 ≤ (q j).2.2) : ∀ j, j < n →
    (gF q (j + 1)).s = true ∧ ((gF q (j + 1)).o = false → (rF q (j + 1)).2.2 = true ∧ (gF q (j + 1)).l = (rF q (j + 1)).1 ∧ (gF q (j + 1)).h = (rF q (j + 1)).2.1 ∧ (-1000000000000000 ≤ (rF q (j + 1)).1 ∧ (rF q (j + 1)).1 ≤ 1000000000000000) ∧ -1000000000000000 ≤ (rF q (j + 1)).2.1 ∧ (rF q (j + 1)).2.1 ≤ 1000000000000000) ∧
    ((gF q (j + 1)).o = true → (rF q (j + 1)).2.2 = true → (rF q (j + 1)).1 < -1000000000000000 ∨ 1000000000000000 < (rF q (j + 1)).2.1) := by
  intro j
  induction j with
  | zero =>
    intro hj
    have c0 := hc 0 hj
    have D := divQ_down (N := (q 0).1 * (q 0).2.1) c0
    have U := divQ_up (N := (q 0).1 * (q 0).2.1) c0
    have R := refFlo_cases (N := (q 0).1 * (q 0).2.1) c0
    have V := upV_le (N := (q 0).1 * (q 0).2.1) (c := (q 0).2.2)
    simp only [gF, rF, gQuo, gAdd, rStep, decide_true, if_true, Bool.false_or, Bool.true_and, Bool.false_eq_true, if_false]
    generalize refFlo ((q 0).1 * (q 0).2.1) (q 0).2.2 = f at *
    generalize divQ ((q 0).1 * (q 0).2.1) (q 0).2.2 1 = d at *
    generalize divQ ((q 0).1 * (q 0).2.1) (q 0).2.2 2 = u at *
    generalize upV ((q 0).1 * (q 0).2.1) (q 0).2.2 = v at *
    generalize (q 0).1 * (q 0).2.1 / (q 0).2.2 = x at *
    obtain ⟨f1, f2, f3⟩ := f
    obtain ⟨d1, d2, d3⟩ := d
    obtain ⟨u1, u2, u3⟩ := u
    simp only at *
    generalize f1 + (if 0 < f2 then 1 else 0) = y at *
    refine ⟨trivial, ?_, ?_⟩
    · intro h
      rcases D with ⟨rfl, rfl, D⟩ | ⟨rfl, D⟩
      · rcases U with ⟨rfl, rfl, U⟩ | ⟨rfl, U⟩
        · rcases R with ⟨rfl, rfl, rfl⟩ | ⟨rfl, R⟩
          · refine ⟨rfl, ?_, ?_, ?_, ?_⟩ <;> omega
          · omega
        · simp at h
      · simp at h
    · intro h k
      rcases R with ⟨rfl, rfl, rfl⟩ | ⟨rfl, R⟩
      · rcases D with ⟨rfl, rfl, D⟩ | ⟨rfl, D⟩
        · rcases U with ⟨rfl, rfl, U⟩ | ⟨rfl, U⟩
          · simp at h
          · omega
        · omega
      · cases k
  | succ j ih =>
    intro hj
    obtain ⟨i1, i2, i3⟩ := ih (by omega)
    have c0 := hc (j + 1) hj
    have D := divQ_down (N := (q (j + 1)).1 * (q (j + 1)).2.1) c0
    have U := divQ_up (N := (q (j + 1)).1 * (q (j + 1)).2.1) c0
    have R := refFlo_cases (N := (q (j + 1)).1 * (q (j + 1)).2.1) c0
    have V := upV_le (N := (q (j + 1)).1 * (q (j + 1)).2.1) (c := (q (j + 1)).2.2)
    have e1 : gF q (j + 1 + 1) = gQuo (gF q (j + 1)) (q (j + 1)).1 (q (j + 1)).2.1 (q (j + 1)).2.2 := rfl
    have e2 : rF q (j + 1 + 1) = rStep false (rF q (j + 1)) (refFlo ((q (j + 1)).1 * (q (j + 1)).2.1) (q (j + 1)).2.2) := rfl
    rw [e1, e2]
    clear e1 e2 ih
    generalize gF q (j + 1) = g at *
    generalize rF q (j + 1) = s at *
    unfold gQuo gAdd rStep
    generalize refFlo ((q (j + 1)).1 * (q (j + 1)).2.1) (q (j + 1)).2.2 = f at *
    generalize divQ ((q (j + 1)).1 * (q (j + 1)).2.1) (q (j + 1)).2.2 1 = d at *
    generalize divQ ((q (j + 1)).1 * (q (j + 1)).2.1) (q (j + 1)).2.2 2 = u at *
    generalize upV ((q (j + 1)).1 * (q (j + 1)).2.1) (q (j + 1)).2.2 = v at *
    generalize (q (j + 1)).1 * (q (j + 1)).2.1 / (q (j + 1)).2.2 = x at *
    obtain ⟨f1, f2, f3⟩ := f
    obtain ⟨d1, d2, d3⟩ := d
    obtain ⟨u1, u2, u3⟩ := u
    obtain ⟨gl, gh, gs, go⟩ := g
    obtain ⟨s1, s2, s3⟩ := s
    simp only [Bool.false_eq_true, if_false] at *
    subst i1
    simp only [if_true]
    generalize f1 + (if 0 < f2 then 1 else 0) = y at *
    refine ⟨trivial, ?_, ?_⟩
    · intro h
      rcases D with ⟨rfl, rfl, D⟩ | ⟨rfl, D⟩
      · rcases U with ⟨rfl, rfl, U⟩ | ⟨rfl, U⟩
        · have h' : go = false := by simpa using h
          obtain ⟨rfl, rfl, rfl, b1, b2⟩ := i2 h'
          rcases R with ⟨rfl, rfl, rfl⟩ | ⟨rfl, R⟩
          · refine ⟨rfl, rfl, rfl, ?_, ?_⟩ <;> omega
          · omega
        · simp at h
      · simp at h
    · intro h k
      have k1 : s3 = true := by cases s3 <;> simp_all
      have k2 : f3 = true := by cases f3 <;> simp_all
      rcases R with ⟨_, rfl, rfl⟩ | ⟨r, R⟩
      · rcases D with ⟨rfl, rfl, D⟩ | ⟨rfl, D⟩
        · rcases U with ⟨rfl, rfl, U⟩ | ⟨rfl, U⟩
          · have h' : go = true := by simpa using h
            have := i3 h' k1
            omega
          · omega
        · omega
      · rw [k2] at r; cases r
/-- What the reference's spread returns. -/
def sprQ (s : Int × Int × Bool) : Int × Int × Int := if (s.2.2 && allIn 1000000000000000 [s.1, s.2.1]) = true then (s.1, s.2.1, 0) else (0, 0, 10)
theorem spread_is (q : Nat → Int × Int × Int) (j : Nat) (hc : ∀ i, i < j + 1 → 1 ≤ (q i).2.2) : gRes (gF q (j + 1)) = sprQ (rF q (j + 1)) := by
  obtain ⟨i1, i2, i3⟩ := spread_inv q (j + 1) hc j (by omega)
  unfold gRes sprQ
  cases ho : (gF q (j + 1)).o with
  | false =>
    obtain ⟨a, b, c, d, e⟩ := i2 ho
    rw [if_neg (by simp), a, Bool.true_and, if_pos (allIn_two.2 ⟨d, e⟩), b, c]
  | true =>
    rw [if_pos rfl, if_neg]
    intro h
    rw [Bool.and_eq_true] at h
    have := i3 ho h.1
    have k := allIn_two.1 h.2
    omega
end Go.Proofs.Ytadnchcelocnaaa

namespace Go.Proofs.Ytadnchcelocnaaa
set_option linter.unusedSimpArgs false
set_option linter.unusedVariables false
open Go.RowKit

/-- The quotients in their order. -/
def qOf (xs : List Int) (fs : List (Int × Int)) (m j : Nat) : Int × Int × Int := (xs.getD (j / m) 0, (fs.getD (j % m) (0, 0)).1, (fs.getD (j % m) (0, 0)).2)
theorem qOf_at (xs : List Int) (fs : List (Int × Int)) {m i k : Nat} (hk : k < m) : qOf xs fs m (i * m + k) = (xs.getD i 0, (fs.getD k (0, 0)).1, (fs.getD k (0, 0)).2) := by
  have e1 : (i * m + k) / m = i := by
    rw [Nat.mul_comm, Nat.mul_add_div (by omega), Nat.div_eq_of_lt hk, Nat.add_zero]
  have e2 : (i * m + k) % m = k := by
    rw [Nat.mul_comm, Nat.mul_add_mod, Nat.mod_eq_of_lt hk]
  unfold qOf
  rw [e1, e2]
/-- The reference's state, as it lies in the walk's slots. -/
def sAt (s : Int × Int × Bool) (lo hi all : Value) : Prop := lo = .int .i64 s.1 ∧ hi = .int .i64 s.2.1 ∧ all = .bool s.2.2

set_option maxRecDepth 100000 in
set_option maxHeartbeats 6400000 in
theorem spread_walk (xs : List Int) (fs : List (Int × Int)) (a b : Option Addr) (ca cb m : Nat) (x y E : Int) (w : World) (hm : fs.length = m) (hx : xs.length ≤ 1000) (hf : m ≤ 1000) (hxs : Hid (∀ i, i < xs.length → -1000000000000000 ≤ xs.getD i 0 ∧ xs.getD i 0 ≤ 1000000000000000))
    (hfs : Hid (∀ k, k < m → (-1000000000000000 ≤ (fs.getD k (0, 0)).1 ∧ (fs.getD k (0, 0)).1 ≤ 1000000000000000) ∧ 1 ≤ (fs.getD k (0, 0)).2 ∧ (fs.getD k (0, 0)).2 ≤ 1000000000000000))
    (F : Hid (∀ W, Calls Try.prog 94 #[.int .i64 (rF (qOf xs fs m) (xs.length * m)).1, .int .i64 (rF (qOf xs fs m) (xs.length * m)).2.1, .bool (rF (qOf xs fs m) (xs.length * m)).2.2] W fun e w' => e = .returned (.tuple #[.agg #[.int .i64 x, .int .i64 y], .int .i64 E]) ∧ Below W.heap.size W w'))
    (h1 : Hid (IsInts w a xs)) (h2 : Hid (IsPairs w b fs)) :
    Calls Try.prog 100 #[.slice a xs.length ca, .slice b fs.length cb] w fun e w' => e = .returned (.tuple #[.agg #[.int .i64 x, .int .i64 y], .int .i64 E]) ∧ Below w.heap.size w w' := by
  obtain ⟨R, hR⟩ : ∃ R : Nat → Int × Int × Bool, (∀ j, rF (qOf xs fs m) j = R j) := ⟨_, fun _ => rfl⟩
  have HS : Hid (∀ i k, k < m → rStep (decide (i * m + k = 0)) (R (i * m + k)) (refFlo (xs.getD i 0 * (fs.getD k (0, 0)).1) (fs.getD k (0, 0)).2) = R (i * m + k + 1)) := by
    intro i k hk
    rw [← hR, ← hR]
    show _ = rStep _ _ _
    rw [qOf_at xs fs hk]
  have R0 : Hid (R 0 = (0, 0, true)) := (hR 0).symm
  rw [hR] at F
  clear hR
  have HM := hide hm
  rw [hm]
  clear hm
  go_enter Try.func100, Try.ntmps100
  go_wp2_with fail
  go_loopw [6, 7, 8, 9] (fun lo hi all i wr => ∃ k : Nat, k ≤ xs.length ∧ i = .int .i64 (k : Int) ∧ sAt (R (k * m)) lo hi all ∧ CF wr ⟨w.heap.size, 0, none⟩ (.int .i64 0) ∧ CF wr ⟨w.heap.size, 1, none⟩ (.int .i64 0) ∧ Below w.heap.size w wr) (fun _ _ _ i _ => xs.length - (intOf i).toNat)
  case atStart => exact ⟨0, by omega, rfl, by rw [Nat.zero_mul, R0.out]; exact ⟨rfl, rfl, rfl⟩, ⟨by simp [go_sem], by simp [go_sem]⟩, ⟨by simp [go_sem], by simp [go_sem]⟩, (by repeat (first | exact Below.refl _ _ | assumption | apply balloc | apply bdrew | (refine bset ?_ (by first | (simp; done) | omega | (simp; omega)) _) | (refine bnext ?_ (by assumption))))⟩
  case round =>
    obtain ⟨i, hi, rfl, hs, hc4, hc5, hbw⟩ := hrel
    have HC4 := hide hc4
    have HC5 := hide hc5
    obtain ⟨⟨s1, s2, s3⟩, hsv⟩ : ∃ s, R (i * m) = s := ⟨_, rfl⟩
    rw [hsv] at hs
    have HSV := hide hsv
    clear hc4 hc5 hsv
    obtain ⟨rfl, rfl, rfl⟩ := hs
    by_cases hlt : i < xs.length
    · go_wp2_with fail
      go_loopw [6, 7, 8, 10] (fun lo hi all j wr => ∃ k : Nat, k ≤ m ∧ j = .int .i64 (k : Int) ∧ sAt (R (i * m + k)) lo hi all ∧ CF wr ⟨w.heap.size, 0, none⟩ (.int .i64 0) ∧ CF wr ⟨w.heap.size, 1, none⟩ (.int .i64 0) ∧ Below w.heap.size w wr) (fun _ _ _ j _ => m - (intOf j).toNat)
      case atStart => exact ⟨0, by omega, rfl, by rw [Nat.add_zero, HSV.out]; exact ⟨rfl, rfl, rfl⟩, HC4.out, HC5.out, hbw⟩
      case round =>
        obtain ⟨k, hk, rfl, hs, hc4, hc5, hbj⟩ := hrel
        have HC4' := hide hc4
        have HC5' := hide hc5
        clear hc4 hc5
        obtain ⟨⟨t1, t2, t3⟩, htv⟩ : ∃ s, R (i * m + k) = s := ⟨_, rfl⟩
        rw [htv] at hs
        have HTV := hide htv
        clear htv
        obtain ⟨rfl, rfl, rfl⟩ := hs
        simp only
        by_cases hkm : k < m
        · have bx := hxs.out i hlt
          have bf := hfs.out k hkm
          have S := hide (HS.out i k hkm)
          rw [HTV.out] at S
          obtain ⟨⟨ab, ao⟩, rfl, hca⟩ : ∃ p : Nat × Nat, a = some ⟨p.1, p.2, none⟩ ∧ wr.cell? ⟨p.1, p.2 + i, none⟩ = some (.int .i64 (xs.getD i 0)) := by
            rcases ints_later h1.out hbj with h | ⟨b, off, e, h⟩
            · subst h; simp at hlt
            · exact ⟨(b, off), e, h i hlt⟩
          obtain ⟨⟨bb, bo⟩, rfl, hcb, hcd⟩ : ∃ p : Nat × Nat, b = some ⟨p.1, p.2, none⟩ ∧ wr.cell? ⟨p.1, p.2 + k * 2, none⟩ = some (.int .i64 (fs.getD k (0, 0)).1) ∧ wr.cell? ⟨p.1, p.2 + k * 2 + 1, none⟩ = some (.int .i64 (fs.getD k (0, 0)).2) := by
            rcases pairs_later h2.out hbj with h | ⟨b, off, e, h⟩
            · have := HM.out; subst h; simp at this; omega
            · exact ⟨(b, off), e, h k (by rw [HM.out]; exact hkm)⟩
          simp only at hca hcb hcd
          generalize xs.getD i 0 = u at *
          generalize fs.getD k (0, 0) = z at *
          obtain ⟨p, q⟩ := z
          simp only at hcb hcd bf S
          have FL := hide fun W => refFloor_any u p q W bx.1 bx.2 bf.1.1 bf.1.2 bf.2.1 bf.2.2
          have FB : Hid ((refFlo (u * p) q).2.2 = true → -3000000000000000 ≤ (refFlo (u * p) q).1 ∧ (refFlo (u * p) q).1 ≤ 3000000000000000) := fun h => by
            obtain ⟨e, e1, e2⟩ := refFlo_true bf.2.1 h
            rw [e]; exact ⟨e1, e2⟩
          have FN : Hid ((refFlo (u * p) q).2.2 = false → (refFlo (u * p) q).1 = 0) := fun h => by
            unfold refFlo at h ⊢
            split at h
            · cases h
            · rename_i hh; rw [if_neg hh]
          generalize refFlo (u * p) q = f at *
          obtain ⟨n, r, ok⟩ := f
          simp only at FL FB FN
          have hn : -3000000000000000 ≤ n ∧ n ≤ 3000000000000000 := by
            cases ok with
            | true => exact FB.out rfl
            | false => have := FN.out rfl; omega
          obtain ⟨n0, n1⟩ := hn
          clear bx bf FB FN
          go_upto_region 8 with fail
          go_region_held3 (fun w' => w'.cell? ⟨ab, ao + i, none⟩ = some (.int .i64 u) ∧ w'.cell? ⟨bb, bo + k * 2, none⟩ = some (.int .i64 p) ∧ w'.cell? ⟨bb, bo + k * 2 + 1, none⟩ = some (.int .i64 q) ∧ Below wr.heap.size wr w')
            (first | (exact ⟨hca, hcb, hcd, Below.refl _ _⟩) | (exact ⟨hca, hcb, hcd, bdrew (Below.refl _ _)⟩) | (go_split_ands; exact ⟨later hb3 (by assumption), later hb3 (by assumption), later hb3 (by assumption), bnext (by assumption) hb3⟩) | go_keep)
            (first | (go_at_call 76; refine (FL.out _).mono ?_; rintro e w3 ⟨rfl, hb3⟩))
          all_goals
            have HB : Below wr.heap.size wr w3 := by go_split_ands; assumption
            have D4 := hide (cf_later HB HC4'.out)
            have D5 := hide (cf_later HB HC5'.out)
            have BJ : Below w.heap.size w w3 := bnext hbj HB
            have HLT := hide hlt
            have TAIL : Hid (∀ fb lo hi al up, decide (i * m + k = 0) = fb → up = n + (if 0 < r then 1 else 0) → lo = min (if fb then n else t1) n → hi = max (if fb then up else t2) up → al = (t3 && ok) → sAt (R (i * m + (k + 1))) (.int .i64 lo) (.int .i64 hi) (.bool al)) := by
              intro fb lo hi al up h0 h1 h2 h3 h4
              rw [show i * m + (k + 1) = i * m + k + 1 from rfl, ← S.out, h0]
              subst h1 h2 h3 h4
              exact ⟨rfl, rfl, rfl⟩
            clear S hb3 HB
            have Z : (i = 0 ∧ k = 0 ∧ decide (i * m + k = 0) = true) ∨ (¬ i = 0 ∧ decide (i * m + k = 0) = false) ∨ (i = 0 ∧ ¬ k = 0 ∧ decide (i * m + k = 0) = false) := by
              by_cases h0 : i = 0
              · by_cases h1 : k = 0
                · exact .inl ⟨h0, h1, by subst h0 h1; simp⟩
                · exact .inr (.inr ⟨h0, h1, decide_eq_false (by omega)⟩)
              · refine .inr (.inl ⟨h0, decide_eq_false ?_⟩)
                have := Nat.mul_pos (show 0 < i by omega) (show 0 < m by omega)
                omega
            by_cases hr : 0 < r
            · have d1 : decide (0 < r) = true := decide_eq_true hr
              have T2 := hide fun fb lo hi al h0 h2 h3 h4 => TAIL.out fb lo hi al (n + 1) h0 (by rw [if_pos hr]) h2 h3 h4
              clear TAIL hr
              rcases Z with ⟨z0, z1, z2⟩ | ⟨z0, z2⟩ | ⟨z0, z1, z2⟩
              · have e0 : ((i : Int) == 0) = true := by simp [z0]
                have e1 : ((k : Int) == 0) = true := by simp [z1]
                have Z2 := hide z2
                clear z2 z0 z1
                cases t3
                all_goals
                  go_wp2_with fail
                  go_roundw
                  case rel => exact ⟨k + 1, by omega, by go_num, T2.out true _ _ _ Z2.out (by simp; try omega) (by simp; try omega) (by simp), D4.out, D5.out, BJ⟩
                  case measure => simp [intOf]; omega
              · have e0 : ((i : Int) == 0) = false := by simp [z0]
                have Z2 := hide z2
                clear z2 z0
                cases t3
                all_goals
                  go_wp2_with fail
                  go_roundw
                  case rel => exact ⟨k + 1, by omega, by go_num, T2.out false _ _ _ Z2.out (by simp; try omega) (by simp; try omega) (by simp), D4.out, D5.out, BJ⟩
                  case measure => simp [intOf]; omega
              · have e0 : ((i : Int) == 0) = true := by simp [z0]
                have e1 : ((k : Int) == 0) = false := by simp [z1]
                have Z2 := hide z2
                clear z2 z0 z1
                cases t3
                all_goals
                  go_wp2_with fail
                  go_roundw
                  case rel => exact ⟨k + 1, by omega, by go_num, T2.out false _ _ _ Z2.out (by simp; try omega) (by simp; try omega) (by simp), D4.out, D5.out, BJ⟩
                  case measure => simp [intOf]; omega
            · have d1 : decide (0 < r) = false := decide_eq_false hr
              have T2 := hide fun fb lo hi al h0 h2 h3 h4 => TAIL.out fb lo hi al n h0 (by rw [if_neg hr]; omega) h2 h3 h4
              clear TAIL hr
              rcases Z with ⟨z0, z1, z2⟩ | ⟨z0, z2⟩ | ⟨z0, z1, z2⟩
              · have e0 : ((i : Int) == 0) = true := by simp [z0]
                have e1 : ((k : Int) == 0) = true := by simp [z1]
                have Z2 := hide z2
                clear z2 z0 z1
                cases t3
                all_goals
                  go_wp2_with fail
                  go_roundw
                  case rel => exact ⟨k + 1, by omega, by go_num, T2.out true _ _ _ Z2.out (by simp; try omega) (by simp; try omega) (by simp), D4.out, D5.out, BJ⟩
                  case measure => simp [intOf]; omega
              · have e0 : ((i : Int) == 0) = false := by simp [z0]
                have Z2 := hide z2
                clear z2 z0
                cases t3
                all_goals
                  go_wp2_with fail
                  go_roundw
                  case rel => exact ⟨k + 1, by omega, by go_num, T2.out false _ _ _ Z2.out (by simp; try omega) (by simp; try omega) (by simp), D4.out, D5.out, BJ⟩
                  case measure => simp [intOf]; omega
              · have e0 : ((i : Int) == 0) = true := by simp [z0]
                have e1 : ((k : Int) == 0) = false := by simp [z1]
                have Z2 := hide z2
                clear z2 z0 z1
                cases t3
                all_goals
                  go_wp2_with fail
                  go_roundw
                  case rel => exact ⟨k + 1, by omega, by go_num, T2.out false _ _ _ Z2.out (by simp; try omega) (by simp; try omega) (by simp), D4.out, D5.out, BJ⟩
                  case measure => simp [intOf]; omega
        · obtain rfl : k = m := by omega
          have hkm' : ¬ (k : Int) < (k : Int) := by omega
          go_wp2_with fail
          go_roundw
          case rel => exact ⟨i + 1, by omega, by go_num, by rw [Nat.succ_mul, HTV.out]; exact ⟨rfl, rfl, rfl⟩, HC4'.out, HC5'.out, hbj⟩
          case measure => simp [intOf]; omega
    · obtain rfl : i = xs.length := by omega
      rw [HSV.out] at F
      have hlt' : ¬ (xs.length : Int) < (xs.length : Int) := by omega
      go_wp2_with fail
      refine (F.out _).mono ?_
      rintro e w3 ⟨rfl, hb3⟩
      have ⟨c4, f4⟩ := cf_later hb3 HC4.out
      have ⟨c5, f5⟩ := cf_later hb3 HC5.out
      go_wp2_with fail
      have yy := two_set (x := .int .i64 x) (y := .int .i64 y) c4 c5
      exact bodyPost_ret (v := .tuple #[.agg #[.int .i64 x, .int .i64 y], .int .i64 E]) (by simp [results, Try.results100, go_sem, yy.1, yy.2]) rfl ⟨rfl, bset (bset (bnext hbw hb3) (by simp) _) (by simp) _⟩
end Go.Proofs.Ytadnchcelocnaaa

namespace Go.Proofs.Ytadnchcelocnaaa
set_option linter.unusedSimpArgs false
set_option linter.unusedVariables false
open Go.RowKit

/-- What Less returns. -/
def lessQ (al ah bl bh : Int) : Int × Int × Int :=
  if [(al, ah), (bl, bh)].all rangeOk = false then (0, 0, 2) else if allIn 1000000000000000 [al - bh, ah - bl] = true then (al - bh, ah - bl, 0) else (0, 0, 10)
set_option maxHeartbeats 1600000 in
theorem less_bad (al ah bl bh : Int) (w : World) (hk : Hid ([(al, ah), (bl, bh)].all rangeOk = false)) :
    Calls Try.prog 38 #[.agg #[.int .i64 al, .int .i64 ah], .agg #[.int .i64 bl, .int .i64 bh]] w fun e w' => e = .returned (.tuple #[.agg #[.int .i64 0, .int .i64 0], .int .i64 2]) ∧ Below w.heap.size w w' := by
  go_enter Try.func38, Try.ntmps38
  go_wp2_with fail
  refine (validRanges_ex false _ 2 2 [(al, ah), (bl, bh)] _ hk.out rfl (by simp) (pairs_two_of (by simp [go_sem, World.cell?_alloc_past]) (by simp [go_sem, World.cell?_alloc_past]) (by simp [go_sem, World.cell?_alloc_past]) (by simp [go_sem, World.cell?_alloc_past]))).mono ?_
  rintro e wB ⟨rfl, hB, hbB⟩
  (try simp at hB)
  have c4 := later hbB (a := ⟨w.heap.size + 1 + 1, 0, none⟩) (v := .int .i64 0) (by simp [go_sem, World.cell?_alloc_past])
  have c5 := later hbB (a := ⟨w.heap.size + 1 + 1, 1, none⟩) (v := .int .i64 0) (by simp [go_sem, World.cell?_alloc_past])
  have f4 := free_later hbB (a := ⟨w.heap.size + 1 + 1, 0, none⟩) (v := .int .i64 0) (by simp [go_sem, World.cell?_alloc_past]) (by simp [go_sem, World.cell?_alloc_past])
  have f5 := free_later hbB (a := ⟨w.heap.size + 1 + 1, 1, none⟩) (v := .int .i64 0) (by simp [go_sem, World.cell?_alloc_past]) (by simp [go_sem, World.cell?_alloc_past])
  go_wp2_with fail
  refine (firstError_is 2 [⟨2, 114, _, false⟩] _ _ _ rfl (by simp) (by simp) (cnds_one_at (by simp)) (tells_one (cnd_later hB (balloc (Below.refl _ _))))).mono ?_
  rintro e wC ⟨rfl, hbC⟩
  have ⟨d4, g4⟩ := cf_later hbC (cf_later (balloc (Below.refl _ _)) ⟨c4, f4⟩)
  have ⟨d5, g5⟩ := cf_later hbC (cf_later (balloc (Below.refl _ _)) ⟨c5, f5⟩)
  go_wp2_with fail
  exact bodyPost_ret (v := .tuple #[.agg #[.int .i64 0, .int .i64 0], .int .i64 2]) (by simp [results, Try.results38, go_sem, d4, d5]) rfl ⟨rfl, (by repeat (first | exact Below.refl _ _ | assumption | apply balloc | apply bdrew | (refine bset ?_ (by first | (simp; done) | omega | (simp; omega)) _) | (refine bnext ?_ (by assumption))))⟩
set_option maxHeartbeats 1600000 in
theorem less_good (al ah bl bh x y E : Int) (w : World) (hk : Hid ([(al, ah), (bl, bh)].all rangeOk = true)) (a0 : -1000000000000000 ≤ al) (a1 : al ≤ 1000000000000000) (a2 : -1000000000000000 ≤ ah) (a3 : ah ≤ 1000000000000000)
    (b0 : -1000000000000000 ≤ bl) (b1 : bl ≤ 1000000000000000) (b2 : -1000000000000000 ≤ bh) (b3 : bh ≤ 1000000000000000)
    (F : Hid (∀ W, Calls Try.prog 87 #[.agg #[.int .i64 (al - bh), .int .i64 (ah - bl)]] W fun e w' => e = .returned (.tuple #[.agg #[.int .i64 x, .int .i64 y], .int .i64 E]) ∧ Below W.heap.size W w')) :
    Calls Try.prog 38 #[.agg #[.int .i64 al, .int .i64 ah], .agg #[.int .i64 bl, .int .i64 bh]] w fun e w' => e = .returned (.tuple #[.agg #[.int .i64 x, .int .i64 y], .int .i64 E]) ∧ Below w.heap.size w w' := by
  go_enter Try.func38, Try.ntmps38
  go_wp2_with fail
  refine (validRanges_ex true _ 2 2 [(al, ah), (bl, bh)] _ hk.out rfl (by simp) (pairs_two_of (by simp [go_sem, World.cell?_alloc_past]) (by simp [go_sem, World.cell?_alloc_past]) (by simp [go_sem, World.cell?_alloc_past]) (by simp [go_sem, World.cell?_alloc_past]))).mono ?_
  rintro e wB ⟨rfl, hB, hbB⟩
  (try simp at hB)
  have c0 := later hbB (a := ⟨w.heap.size, 0, none⟩) (v := .int .i64 al) (by simp [go_sem, World.cell?_alloc_past])
  have c1 := later hbB (a := ⟨w.heap.size, 1, none⟩) (v := .int .i64 ah) (by simp [go_sem, World.cell?_alloc_past])
  have c2 := later hbB (a := ⟨w.heap.size + 1, 0, none⟩) (v := .int .i64 bl) (by simp [go_sem, World.cell?_alloc_past])
  have c3 := later hbB (a := ⟨w.heap.size + 1, 1, none⟩) (v := .int .i64 bh) (by simp [go_sem, World.cell?_alloc_past])
  have c4 := later hbB (a := ⟨w.heap.size + 1 + 1, 0, none⟩) (v := .int .i64 0) (by simp [go_sem, World.cell?_alloc_past])
  have c5 := later hbB (a := ⟨w.heap.size + 1 + 1, 1, none⟩) (v := .int .i64 0) (by simp [go_sem, World.cell?_alloc_past])
  have f4 := free_later hbB (a := ⟨w.heap.size + 1 + 1, 0, none⟩) (v := .int .i64 0) (by simp [go_sem, World.cell?_alloc_past]) (by simp [go_sem, World.cell?_alloc_past])
  have f5 := free_later hbB (a := ⟨w.heap.size + 1 + 1, 1, none⟩) (v := .int .i64 0) (by simp [go_sem, World.cell?_alloc_past]) (by simp [go_sem, World.cell?_alloc_past])
  go_wp2_with fail
  refine (firstError_is 0 [⟨2, 114, _, true⟩] _ _ _ rfl (by simp) (by simp) (cnds_one_at (by simp)) (tells_one (cnd_later hB (balloc (Below.refl _ _))))).mono ?_
  rintro e wC ⟨rfl, hbC⟩
  have e0 := later hbC (later (balloc (Below.refl _ _)) c0)
  have e1 := later hbC (later (balloc (Below.refl _ _)) c1)
  have e2 := later hbC (later (balloc (Below.refl _ _)) c2)
  have e3 := later hbC (later (balloc (Below.refl _ _)) c3)
  have ⟨d4, g4⟩ := cf_later hbC (cf_later (balloc (Below.refl _ _)) ⟨c4, f4⟩)
  have ⟨d5, g5⟩ := cf_later hbC (cf_later (balloc (Below.refl _ _)) ⟨c5, f5⟩)
  clear c0 c1 c2 c3 c4 c5 f4 f5
  go_wp2_with fail
  refine (F.out _).mono ?_
  rintro e wD ⟨rfl, hbD⟩
  have ⟨c4, f4⟩ := cf_later hbD ⟨d4, g4⟩
  have ⟨c5, f5⟩ := cf_later hbD ⟨d5, g5⟩
  go_wp2_with fail
  have yy := two_set (x := .int .i64 x) (y := .int .i64 y) c4 c5
  exact bodyPost_ret (v := .tuple #[.agg #[.int .i64 x, .int .i64 y], .int .i64 E]) (by simp [results, Try.results38, go_sem, yy.1, yy.2]) rfl ⟨rfl, (by repeat (first | exact Below.refl _ _ | assumption | apply balloc | apply bdrew | (refine bset ?_ (by first | (simp; done) | omega | (simp; omega)) _) | (refine bnext ?_ (by assumption))))⟩
theorem less_any (al ah bl bh : Int) (w : World) :
    Calls Try.prog 38 #[.agg #[.int .i64 al, .int .i64 ah], .agg #[.int .i64 bl, .int .i64 bh]] w fun e w' => e = .returned (.tuple #[.agg #[.int .i64 (lessQ al ah bl bh).1, .int .i64 (lessQ al ah bl bh).2.1], .int .i64 (lessQ al ah bl bh).2.2]) ∧ Below w.heap.size w w' := by
  unfold lessQ
  cases h1 : [(al, ah), (bl, bh)].all rangeOk with
  | false => rw [if_pos rfl]; exact less_bad al ah bl bh w h1
  | true =>
    rw [if_neg (by simp)]
    obtain ⟨⟨a0, a1, a2⟩, b0, b1, b2⟩ := range2_bounds h1
    refine less_good al ah bl bh _ _ _ w h1 a0 (by omega) (by omega) a2 b0 (by omega) (by omega) b2 (hide fun W => ?_)
    have g := limited_any (al - bh) (ah - bl) _ W (hide rfl)
    cases hk : allIn 1000000000000000 [al - bh, ah - bl] <;> (rw [hk] at g; simpa using g)

theorem over1_any (c bl bh : Int) (p q : Nat) (w : World) (hp : w.cell? ⟨p, 0, none⟩ = some (.int .i64 c)) (hq : w.cell? ⟨q, 0, none⟩ = some (.int .i64 bl)) (hq2 : w.cell? ⟨q, 1, none⟩ = some (.int .i64 bh)) :
    Calls Try.prog 98 #[.pointer (some ⟨p, 0, none⟩), .pointer (some ⟨q, 0, none⟩)] w fun e w' => e = .returned (.bool (isDiv c && decide (1 ≤ bl))) ∧ Below w.heap.size w w' := by
  have D := hide fun w => isDivisor_any c w
  cases hk : isDiv c with
  | false =>
    rw [hk] at D
    clear hk
    go_enter Try.func98, Try.ntmps98
    go_wp2_with fail
    refine (D.out _).mono ?_
    rintro e w1 ⟨rfl, hb1⟩
    go_wp2_with fail
    go_ret
    exact ⟨rfl, (by repeat (first | exact Below.refl _ _ | assumption | apply balloc | apply bdrew | (refine bset ?_ (by first | (simp; done) | omega | (simp; omega)) _) | (refine bnext ?_ (by assumption))))⟩
  | true =>
    rw [hk] at D
    clear hk
    go_enter Try.func98, Try.ntmps98
    go_wp2_with fail
    refine (D.out _).mono ?_
    rintro e w1 ⟨rfl, hb1⟩
    have hq' := later hb1 hq
    have hq2' := later hb1 hq2
    go_wp2_with fail
    go_ret
    exact ⟨ret_bool (by simp), (by repeat (first | exact Below.refl _ _ | assumption | apply balloc | apply bdrew | (refine bset ?_ (by first | (simp; done) | omega | (simp; omega)) _) | (refine bnext ?_ (by assumption))))⟩
theorem over_tells (k : Bool) (c bl bh : Int) (p q : Nat) (w : World) (hk : (isDiv c && decide (1 ≤ bl)) = k) (hp : w.cell? ⟨p, 0, none⟩ = some (.int .i64 c)) (hq : w.cell? ⟨q, 0, none⟩ = some (.int .i64 bl)) (hq2 : w.cell? ⟨q, 1, none⟩ = some (.int .i64 bh)) : Tells w 98 #[.pointer (some ⟨p, 0, none⟩), .pointer (some ⟨q, 0, none⟩)] k := by
  subst hk
  exact ⟨enters_any Try.func98 (by kernel_rfl) rfl _, fun W hW => over1_any c bl bh p q W (later hW hp) (later hW hq) (later hW hq2)⟩

/-- The conditions of Over come to E. -/
def OverCond (al ah bl bh c E : Int) (k1 k2 : Bool) : Prop := [(al, ah), (bl, bh)].all rangeOk = k1 ∧ (isDiv c && decide (1 ≤ bl)) = k2 ∧ ∀ f g x y, firstE [⟨2, f, x, k1⟩, ⟨3, g, y, k2⟩] = E

set_option maxHeartbeats 800000 in
theorem over_bad (al ah bl bh c E : Int) (k1 k2 : Bool) (w : World) (hE : (E == 0) = false) (h : Hid (OverCond al ah bl bh c E k1 k2)) :
    Calls Try.prog 40 #[.agg #[.int .i64 al, .int .i64 ah], .agg #[.int .i64 bl, .int .i64 bh], .int .i64 c] w fun e w' => e = .returned (.tuple #[.agg #[.int .i64 0, .int .i64 0], .int .i64 E]) ∧ Below w.heap.size w w' := by
  go_enter Try.func40, Try.ntmps40
  go_wp2_with (first | (go_at_call 86; refine (validRanges_any _ _ _ _).mono ?_; rintro e w' ⟨rfl, rfl⟩) | (go_at_call 68; refine (unless_any _ _ _ _).mono ?_; rintro e w' ⟨rfl, rfl⟩))
  refine (firstError_is E [⟨2, 114, #[.pointer (some ⟨w.heap.size + 1 + 1 + 1 + 1 + 1 + 1 + 1, 0, none⟩), .pointer (some ⟨w.heap.size + 1 + 1 + 1 + 1 + 1 + 1, 0, none⟩)], k1⟩, ⟨3, 114, #[.pointer (some ⟨w.heap.size + 1 + 1 + 1 + 1 + 1 + 1 + 1 + 1 + 1, 0, none⟩), .pointer (some ⟨w.heap.size + 1 + 1 + 1 + 1 + 1 + 1 + 1 + 1, 0, none⟩)], k2⟩] _ _ _ (h.out.2.2 _ _ _ _) (by simp) (by simp) (cnds_two_at (by simp))
    (tells_two (validRanges_tells k1 (some ⟨w.heap.size + 1 + 1 + 1 + 1, 0, none⟩) 2 2 [(al, ah), (bl, bh)] ⟨w.heap.size + 1 + 1 + 1 + 1 + 1, 0, none⟩ ⟨w.heap.size + 1 + 1 + 1 + 1 + 1 + 1 + 1, 0, none⟩ ⟨w.heap.size + 1 + 1 + 1 + 1 + 1 + 1, 0, none⟩ _ h.out.1 rfl (by simp) (by simp [go_sem, World.cell?_alloc_past]) (by simp [go_sem, World.cell?_alloc_past]) (by simp [go_sem, World.cell?_alloc_past]) (pairs_two_of (by simp [go_sem, World.cell?_alloc_past]) (by simp [go_sem, World.cell?_alloc_past]) (by simp [go_sem, World.cell?_alloc_past]) (by simp [go_sem, World.cell?_alloc_past])))
      (fun _ => unless_tells 3 _ _ k2 ⟨w.heap.size + 1 + 1 + 1 + 1 + 1 + 1 + 1 + 1, 0, none⟩ ⟨w.heap.size + 1 + 1 + 1 + 1 + 1 + 1 + 1 + 1 + 1, 0, none⟩ _ rfl (over_tells k2 c bl bh (w.heap.size + 1 + 1) (w.heap.size + 1) _ h.out.2.1 (by simp [go_sem, World.cell?_alloc_past]) (by simp [go_sem, World.cell?_alloc_past]) (by simp [go_sem, World.cell?_alloc_past])) (by simp [go_sem, World.cell?_alloc_past]) (by simp [go_sem, World.cell?_alloc_past])))).mono ?_
  rintro e w1 ⟨rfl, hb⟩
  have c4 := later hb (a := ⟨w.heap.size + 1 + 1 + 1, 0, none⟩) (v := .int .i64 0) (by simp [go_sem, World.cell?_alloc_past])
  have c5 := later hb (a := ⟨w.heap.size + 1 + 1 + 1, 1, none⟩) (v := .int .i64 0) (by simp [go_sem, World.cell?_alloc_past])
  have f4 := free_later hb (a := ⟨w.heap.size + 1 + 1 + 1, 0, none⟩) (v := .int .i64 0) (by simp [go_sem, World.cell?_alloc_past]) (by simp [go_sem, World.cell?_alloc_past])
  have f5 := free_later hb (a := ⟨w.heap.size + 1 + 1 + 1, 1, none⟩) (v := .int .i64 0) (by simp [go_sem, World.cell?_alloc_past]) (by simp [go_sem, World.cell?_alloc_past])
  go_wp2_with fail
  exact bodyPost_ret (v := .tuple #[.agg #[.int .i64 0, .int .i64 0], .int .i64 E]) (by simp [results, Try.results40, go_sem, c4, c5]) rfl ⟨rfl, (by repeat (first | exact Below.refl _ _ | assumption | apply balloc | apply bdrew | (refine bset ?_ (by first | (simp; done) | omega | (simp; omega)) _) | (refine bnext ?_ (by assumption))))⟩

/-- The quotients of the ends are gathered. -/
def gOver (al ah bl bh c : Int) : Gth := gQuo (gQuo (gQuo (gQuo ⟨0, 0, false, false⟩ al c bl) al c bh) ah c bl) ah c bh
set_option maxHeartbeats 1600000 in
theorem over_good (al ah bl bh c : Int) (w : World) (h : Hid (OverCond al ah bl bh c 0 true true)) (a0 : -1000000000000000 ≤ al) (a1 : al ≤ 1000000000000000) (a2 : -1000000000000000 ≤ ah) (a3 : ah ≤ 1000000000000000)
    (b0 : 1 ≤ bl) (b1 : bl ≤ 1000000000000000) (b2 : 1 ≤ bh) (b3 : bh ≤ 1000000000000000) (c0 : 1 ≤ c) (c1 : c ≤ 1000000000000000) :
    Calls Try.prog 40 #[.agg #[.int .i64 al, .int .i64 ah], .agg #[.int .i64 bl, .int .i64 bh], .int .i64 c] w fun e w' => e = .returned (.tuple #[.agg #[.int .i64 (gRes (gOver al ah bl bh c)).1, .int .i64 (gRes (gOver al ah bl bh c)).2.1], .int .i64 (gRes (gOver al ah bl bh c)).2.2]) ∧ Below w.heap.size w w' := by
  have i0 : ∀ (x y : Value) w, (Instr.index 128 (.agg #[x, y]) (.int .i64 0)).run Try.prog w = .ok x w := fun _ _ _ => by kernel_rfl
  have i1 : ∀ (x y : Value) w, (Instr.index 128 (.agg #[x, y]) (.int .i64 1)).run Try.prog w = .ok y w := fun _ _ _ => by kernel_rfl
  have Q1 := hide fun b g w hg => addQuotient_any b g al c bl w hg a0 a1 (by omega) c1 b0 b1
  have Q2 := hide fun b g w hg => addQuotient_any b g al c bh w hg a0 a1 (by omega) c1 b2 b3
  have Q3 := hide fun b g w hg => addQuotient_any b g ah c bl w hg a2 a3 (by omega) c1 b0 b1
  have Q4 := hide fun b g w hg => addQuotient_any b g ah c bh w hg a2 a3 (by omega) c1 b2 b3
  clear a0 a1 a2 a3 b0 b1 b2 b3 c0 c1
  go_enter Try.func40, Try.ntmps40
  go_wp2_with (first | (go_at_call 86; refine (validRanges_any _ _ _ _).mono ?_; rintro e w' ⟨rfl, rfl⟩) | (go_at_call 68; refine (unless_any _ _ _ _).mono ?_; rintro e w' ⟨rfl, rfl⟩))
  refine (firstError_is 0 [⟨2, 114, #[.pointer (some ⟨w.heap.size + 1 + 1 + 1 + 1 + 1 + 1 + 1, 0, none⟩), .pointer (some ⟨w.heap.size + 1 + 1 + 1 + 1 + 1 + 1, 0, none⟩)], true⟩, ⟨3, 114, #[.pointer (some ⟨w.heap.size + 1 + 1 + 1 + 1 + 1 + 1 + 1 + 1 + 1, 0, none⟩), .pointer (some ⟨w.heap.size + 1 + 1 + 1 + 1 + 1 + 1 + 1 + 1, 0, none⟩)], true⟩] _ _ _ (h.out.2.2 _ _ _ _) (by simp) (by simp) (cnds_two_at (by simp))
    (tells_two (validRanges_tells true (some ⟨w.heap.size + 1 + 1 + 1 + 1, 0, none⟩) 2 2 [(al, ah), (bl, bh)] ⟨w.heap.size + 1 + 1 + 1 + 1 + 1, 0, none⟩ ⟨w.heap.size + 1 + 1 + 1 + 1 + 1 + 1 + 1, 0, none⟩ ⟨w.heap.size + 1 + 1 + 1 + 1 + 1 + 1, 0, none⟩ _ h.out.1 rfl (by simp) (by simp [go_sem, World.cell?_alloc_past]) (by simp [go_sem, World.cell?_alloc_past]) (by simp [go_sem, World.cell?_alloc_past]) (pairs_two_of (by simp [go_sem, World.cell?_alloc_past]) (by simp [go_sem, World.cell?_alloc_past]) (by simp [go_sem, World.cell?_alloc_past]) (by simp [go_sem, World.cell?_alloc_past])))
      (fun _ => unless_tells 3 _ _ true ⟨w.heap.size + 1 + 1 + 1 + 1 + 1 + 1 + 1 + 1, 0, none⟩ ⟨w.heap.size + 1 + 1 + 1 + 1 + 1 + 1 + 1 + 1 + 1, 0, none⟩ _ rfl (over_tells true c bl bh (w.heap.size + 1 + 1) (w.heap.size + 1) _ h.out.2.1 (by simp [go_sem, World.cell?_alloc_past]) (by simp [go_sem, World.cell?_alloc_past]) (by simp [go_sem, World.cell?_alloc_past])) (by simp [go_sem, World.cell?_alloc_past]) (by simp [go_sem, World.cell?_alloc_past])))).mono ?_
  rintro e w1 ⟨rfl, hb⟩
  have c4 := later hb (a := ⟨w.heap.size + 1 + 1 + 1, 0, none⟩) (v := .int .i64 0) (by simp [go_sem, World.cell?_alloc_past])
  have c5 := later hb (a := ⟨w.heap.size + 1 + 1 + 1, 1, none⟩) (v := .int .i64 0) (by simp [go_sem, World.cell?_alloc_past])
  have f4 := free_later hb (a := ⟨w.heap.size + 1 + 1 + 1, 0, none⟩) (v := .int .i64 0) (by simp [go_sem, World.cell?_alloc_past]) (by simp [go_sem, World.cell?_alloc_past])
  have f5 := free_later hb (a := ⟨w.heap.size + 1 + 1 + 1, 1, none⟩) (v := .int .i64 0) (by simp [go_sem, World.cell?_alloc_past]) (by simp [go_sem, World.cell?_alloc_past])
  have c0 := later hb (a := ⟨w.heap.size, 0, none⟩) (v := .int .i64 al) (by simp [go_sem, World.cell?_alloc_past])
  have c1 := later hb (a := ⟨w.heap.size, 1, none⟩) (v := .int .i64 ah) (by simp [go_sem, World.cell?_alloc_past])
  have c2 := later hb (a := ⟨w.heap.size + 1, 0, none⟩) (v := .int .i64 bl) (by simp [go_sem, World.cell?_alloc_past])
  have c3 := later hb (a := ⟨w.heap.size + 1, 1, none⟩) (v := .int .i64 bh) (by simp [go_sem, World.cell?_alloc_past])
  have c6 := later hb (a := ⟨w.heap.size + 1 + 1, 0, none⟩) (v := .int .i64 c) (by simp [go_sem, World.cell?_alloc_past])
  have z0 := World.block_lt_of_cell? _ _ c0
  have z2 := World.block_lt_of_cell? _ _ c2
  have z6 := World.block_lt_of_cell? _ _ c6
  have z4 := World.block_lt_of_cell? _ _ c4
  simp only at z0 z2 z6 z4
  go_wp2_with fail
  refine (ends_any _ _ _).mono ?_
  rintro e w2 ⟨rfl, hb2⟩
  have g2 := gat_later (b := w1.heap.size) (g := ⟨0, 0, false, false⟩) ⟨⟨(by simp [go_sem, World.cell?_alloc_past]), (by simp [go_sem, World.cell?_alloc_past]), (by simp [go_sem, World.cell?_alloc_past]), (by simp [go_sem, World.cell?_alloc_past])⟩, (by simp [go_sem, World.cell?_alloc_past]), (by simp [go_sem, World.cell?_alloc_past]), (by simp [go_sem, World.cell?_alloc_past]), (by simp [go_sem, World.cell?_alloc_past])⟩ hb2
  have S1 : TSt w.heap.size bl bh c w1 := ⟨⟨c2, c3, c6⟩, c4, c5, f4, f5⟩
  have S2 := tst_later (tst_later S1 (balloc (Below.refl _ _))) hb2
  have B1 : Below w.heap.size w w1 := (by repeat (first | exact Below.refl _ _ | assumption | apply balloc | apply bdrew | (refine bset ?_ (by first | (simp; done) | omega | (simp; omega)) _) | (refine bnext ?_ (by assumption))))
  have B2 : Below w.heap.size w w2 := bnext (balloc B1) hb2
  clear hb c0 c1 c2 c3 c6 c4 c5 f4 f5 S1
  go_wp2_with fail
  refine wp_loop_rounds 3 ?_
  rw [rounds_succ]
  have ⟨⟨d2, d3, d6⟩, d4, d5, y4, y5⟩ := S2
  go_wp2_with fail
  refine (ends_any _ _ _).mono ?_
  rintro e w3 ⟨rfl, hb3⟩
  have g3 := gat_later g2 hb3
  have S3 := tst_later S2 hb3
  have B3 := bnext B2 hb3
  clear d2 d3 d6 d4 d5 y4 y5 S2 hb3 hb2 g2
  go_wp2_with fail
  refine wp_loop_rounds 3 ?_
  rw [rounds_succ]
  have ⟨⟨d2, d3, d6⟩, d4, d5, y4, y5⟩ := S3
  go_wp2_with fail
  refine (Q1.out _ _ _ g3).mono ?_
  rintro e w4 ⟨rfl, g4, t4⟩
  have S4 := tst_touch S3 t4 z4
  have B4 := t4.below B3 B1.size
  clear d2 d3 d6 d4 d5 y4 y5 S3 t4 g3
  go_wp2_with fail
  rw [rounds_succ]
  have ⟨⟨d2, d3, d6⟩, d4, d5, y4, y5⟩ := S4
  go_wp2_with fail
  refine (Q2.out _ _ _ g4).mono ?_
  rintro e w5 ⟨rfl, g5, t5⟩
  have S5 := tst_touch S4 t5 z4
  have B5 := t5.below B4 B1.size
  clear d2 d3 d6 d4 d5 y4 y5 S4 t5 g4
  go_wp2_with fail
  rw [rounds_succ]
  have ⟨⟨d2, d3, d6⟩, d4, d5, y4, y5⟩ := S5
  go_wp2_with fail
  rw [rounds_succ]
  go_wp2_with fail
  refine (ends_any _ _ _).mono ?_
  rintro e w6 ⟨rfl, hb6⟩
  have g6 := gat_later g5 hb6
  have S6 := tst_later S5 hb6
  have B6 := bnext B5 hb6
  clear d2 d3 d6 d4 d5 y4 y5 S5 hb6 g5
  go_wp2_with fail
  refine wp_loop_rounds 3 ?_
  rw [rounds_succ]
  have ⟨⟨d2, d3, d6⟩, d4, d5, y4, y5⟩ := S6
  go_wp2_with fail
  refine (Q3.out _ _ _ g6).mono ?_
  rintro e w7 ⟨rfl, g7, t7⟩
  have S7 := tst_touch S6 t7 z4
  have B7 := t7.below B6 B1.size
  clear d2 d3 d6 d4 d5 y4 y5 S6 t7 g6
  go_wp2_with fail
  rw [rounds_succ]
  have ⟨⟨d2, d3, d6⟩, d4, d5, y4, y5⟩ := S7
  go_wp2_with fail
  refine (Q4.out _ _ _ g7).mono ?_
  rintro e w8 ⟨rfl, g8, t8⟩
  have S8 := tst_touch S7 t8 z4
  have B8 := t8.below B7 B1.size
  clear d2 d3 d6 d4 d5 y4 y5 S7 t8 g7
  go_wp2_with fail
  rw [rounds_succ]
  have ⟨⟨d2, d3, d6⟩, d4, d5, y4, y5⟩ := S8
  go_wp2_with fail
  rw [rounds_succ]
  have ⟨⟨a0, a1, a2, a3⟩, _⟩ := g8
  go_wp2_with fail
  refine (result_any _ _).mono ?_
  rintro e w9 ⟨rfl, hb9⟩
  have ⟨_, e4, e5, e6, e7⟩ := tst_later S8 hb9
  clear d2 d3 d6 d4 d5 y4 y5 a0 a1 a2 a3 S8
  go_wp2_with fail
  exact bodyPost_ret (v := .tuple #[.agg #[.int .i64 (gRes (gOver al ah bl bh c)).1, .int .i64 (gRes (gOver al ah bl bh c)).2.1], .int .i64 (gRes (gOver al ah bl bh c)).2.2]) (by simp [results, Try.results40, go_sem, e4, e5, gOver]) rfl ⟨rfl, (by repeat (first | exact Below.refl _ _ | assumption | apply balloc | apply bdrew | (refine bset ?_ (by first | (simp; done) | omega | (simp; omega)) _) | (refine bnext ?_ (by assumption))))⟩

/-- The results of Over. -/
def overQ (al ah bl bh c : Int) : Int × Int × Int :=
  if [(al, ah), (bl, bh)].all rangeOk = false then (0, 0, 2) else if (isDiv c && decide (1 ≤ bl)) = false then (0, 0, 3) else gRes (gOver al ah bl bh c)
theorem over_any (al ah bl bh c : Int) (w : World) :
    Calls Try.prog 40 #[.agg #[.int .i64 al, .int .i64 ah], .agg #[.int .i64 bl, .int .i64 bh], .int .i64 c] w fun e w' => e = .returned (.tuple #[.agg #[.int .i64 (overQ al ah bl bh c).1, .int .i64 (overQ al ah bl bh c).2.1], .int .i64 (overQ al ah bl bh c).2.2]) ∧ Below w.heap.size w w' := by
  unfold overQ
  cases h1 : [(al, ah), (bl, bh)].all rangeOk with
  | false =>
    rw [if_pos rfl]
    exact over_bad al ah bl bh c 2 false _ w rfl (show OverCond al ah bl bh c 2 false _ from ⟨h1, rfl, fun _ _ _ _ => rfl⟩)
  | true =>
    cases h2 : (isDiv c && decide (1 ≤ bl)) with
    | false =>
      rw [if_neg (by simp), if_pos rfl]
      exact over_bad al ah bl bh c 3 true false w rfl (show OverCond al ah bl bh c 3 true false from ⟨h1, h2, fun _ _ _ _ => rfl⟩)
    | true =>
      rw [if_neg (by simp), if_neg (by simp)]
      obtain ⟨⟨a0, a1, a2⟩, b0, b1, b2⟩ := range2_bounds h1
      have h2' := h2
      rw [Bool.and_eq_true] at h2'
      have hc : 1 ≤ c ∧ c ≤ 1000000000000000 := by have := h2'.1; unfold isDiv at this; simpa using this
      have hb : 1 ≤ bl := of_decide_eq_true h2'.2
      exact over_good al ah bl bh c w (show OverCond al ah bl bh c 0 true true from ⟨h1, h2, fun _ _ _ _ => rfl⟩) a0 (by omega) (by omega) a2 hb (by omega) (by omega) b2 hc.1 hc.2
end Go.Proofs.Ytadnchcelocnaaa

namespace Go.Proofs.Ytadnchcelocnaaa
set_option linter.unusedSimpArgs false
set_option linter.unusedVariables false
open Go.RowKit

theorem ints_two_of {W : World} {n : Nat} {a b : Int} (h0 : W.cell? ⟨n, 0, none⟩ = some (.int .i64 a)) (h1 : W.cell? ⟨n, 1, none⟩ = some (.int .i64 b)) : IsInts W (some ⟨n, 0, none⟩) [a, b] := by
  refine .inr ⟨n, 0, rfl, fun i hi => ?_⟩
  match i, hi with
  | 0, _ => exact h0
  | 1, _ => exact h1
theorem fits_not (l u : Int) (w : World) :
    Calls Try.prog 94 #[.int .i64 l, .int .i64 u, .bool false] w fun e w' => e = .returned (.tuple #[.agg #[.int .i64 0, .int .i64 0], .int .i64 10]) ∧ Below w.heap.size w w' := by
  go_enter Try.func94, Try.ntmps94
  go_wp2_with fail
  exact bodyPost_ret (v := .tuple #[.agg #[.int .i64 0, .int .i64 0], .int .i64 10]) (by simp [results, Try.results94, go_sem]) rfl ⟨rfl, (by repeat (first | exact Below.refl _ _ | assumption | apply balloc | apply bdrew | (refine bset ?_ (by first | (simp; done) | omega | (simp; omega)) _) | (refine bnext ?_ (by assumption))))⟩
theorem fits_spr (s : Int × Int × Bool) (w : World) :
    Calls Try.prog 94 #[.int .i64 s.1, .int .i64 s.2.1, .bool s.2.2] w fun e w' => e = .returned (.tuple #[.agg #[.int .i64 (sprQ s).1, .int .i64 (sprQ s).2.1], .int .i64 (sprQ s).2.2]) ∧ Below w.heap.size w w' := by
  obtain ⟨l, u, k⟩ := s
  unfold sprQ
  cases k with
  | false => rw [if_neg (by simp)]; exact fits_not l u w
  | true =>
    have g := fits_any l u w
    simp only [Bool.true_and]
    cases hk : allIn 1000000000000000 [l, u] <;> (rw [hk] at g; simpa using g)
theorem spread_two (al ah n1 d1 n2 d2 : Int) (a0 : -1000000000000000 ≤ al) (a1 : al ≤ 1000000000000000) (a2 : -1000000000000000 ≤ ah) (a3 : ah ≤ 1000000000000000) (h1 : -1000000000000000 ≤ n1) (h2 : n1 ≤ 1000000000000000) (h3 : 1 ≤ d1) (h4 : d1 ≤ 1000000000000000) (h5 : -1000000000000000 ≤ n2) (h6 : n2 ≤ 1000000000000000) (h7 : 1 ≤ d2) (h8 : d2 ≤ 1000000000000000)
    (x : Int × Int × Int) (hx : gRes (gQuo (gQuo (gQuo (gQuo ⟨0, 0, false, false⟩ al n1 d1) al n2 d2) ah n1 d1) ah n2 d2) = x) (a b : Option Addr) (ca cb : Nat) (w : World) (i1 : IsInts w a [al, ah]) (i2 : IsPairs w b [(n1, d1), (n2, d2)]) :
    Calls Try.prog 100 #[.slice a 2 ca, .slice b 2 cb] w fun e w' => e = .returned (.tuple #[.agg #[.int .i64 x.1, .int .i64 x.2.1], .int .i64 x.2.2]) ∧ Below w.heap.size w w' := by
  have hq : ∀ i, i < 4 → 1 ≤ (qOf [al, ah] [(n1, d1), (n2, d2)] 2 i).2.2 := by
    intro i hi
    match i, hi with
    | 0, _ => exact h3
    | 1, _ => exact h7
    | 2, _ => exact h3
    | 3, _ => exact h7
  have S := spread_is (qOf [al, ah] [(n1, d1), (n2, d2)] 2) 3 hq
  have e : gRes (gF (qOf [al, ah] [(n1, d1), (n2, d2)] 2) (3 + 1)) = x := hx
  rw [e] at S
  rw [S]
  refine spread_walk [al, ah] [(n1, d1), (n2, d2)] a b ca cb 2 _ _ _ w rfl (by simp) (by omega) (hide ?_) (hide ?_) (hide fun W => fits_spr _ W) (hide i1) (hide i2)
  · intro i hi
    match i, hi with
    | 0, _ => exact ⟨a0, a1⟩
    | 1, _ => exact ⟨a2, a3⟩
  · intro i hi
    match i, hi with
    | 0, _ => exact ⟨⟨h1, h2⟩, h3, h4⟩
    | 1, _ => exact ⟨⟨h5, h6⟩, h7, h8⟩

set_option maxHeartbeats 1600000 in
theorem refLess_bad1 (al ah bl bh : Int) (w : World) (R1 : Hid (∀ W, Calls Try.prog 99 #[.agg #[.int .i64 al, .int .i64 ah]] W fun e w' => e = .returned (.bool false) ∧ Below W.heap.size W w')) :
    Calls Try.prog 41 #[.agg #[.int .i64 al, .int .i64 ah], .agg #[.int .i64 bl, .int .i64 bh]] w fun e w' => e = .returned (.tuple #[.agg #[.int .i64 0, .int .i64 0], .int .i64 2]) ∧ Below w.heap.size w w' := by
  go_enter Try.func41, Try.ntmps41
  go_wp2_with fail
  refine (R1.out _).mono ?_
  rintro e w1 ⟨rfl, hb1⟩
  have c4 := later hb1 (a := ⟨w.heap.size + 1 + 1, 0, none⟩) (v := .int .i64 0) (by simp [go_sem, World.cell?_alloc_past])
  have c5 := later hb1 (a := ⟨w.heap.size + 1 + 1, 1, none⟩) (v := .int .i64 0) (by simp [go_sem, World.cell?_alloc_past])
  have f4 := free_later hb1 (a := ⟨w.heap.size + 1 + 1, 0, none⟩) (v := .int .i64 0) (by simp [go_sem, World.cell?_alloc_past]) (by simp [go_sem, World.cell?_alloc_past])
  have f5 := free_later hb1 (a := ⟨w.heap.size + 1 + 1, 1, none⟩) (v := .int .i64 0) (by simp [go_sem, World.cell?_alloc_past]) (by simp [go_sem, World.cell?_alloc_past])
  go_wp2_with fail
  exact bodyPost_ret (v := .tuple #[.agg #[.int .i64 0, .int .i64 0], .int .i64 2]) (by simp [results, Try.results41, go_sem, c4, c5]) rfl ⟨rfl, (by repeat (first | exact Below.refl _ _ | assumption | apply balloc | apply bdrew | (refine bset ?_ (by first | (simp; done) | omega | (simp; omega)) _) | (refine bnext ?_ (by assumption))))⟩
set_option maxHeartbeats 1600000 in
theorem refLess_bad2 (al ah bl bh : Int) (w : World) (R1 : Hid (∀ W, Calls Try.prog 99 #[.agg #[.int .i64 al, .int .i64 ah]] W fun e w' => e = .returned (.bool true) ∧ Below W.heap.size W w')) (R2 : Hid (∀ W, Calls Try.prog 99 #[.agg #[.int .i64 bl, .int .i64 bh]] W fun e w' => e = .returned (.bool false) ∧ Below W.heap.size W w')) :
    Calls Try.prog 41 #[.agg #[.int .i64 al, .int .i64 ah], .agg #[.int .i64 bl, .int .i64 bh]] w fun e w' => e = .returned (.tuple #[.agg #[.int .i64 0, .int .i64 0], .int .i64 2]) ∧ Below w.heap.size w w' := by
  go_enter Try.func41, Try.ntmps41
  go_wp2_with fail
  refine (R1.out _).mono ?_
  rintro e w1 ⟨rfl, hb1⟩
  have c4 := later hb1 (a := ⟨w.heap.size + 1 + 1, 0, none⟩) (v := .int .i64 0) (by simp [go_sem, World.cell?_alloc_past])
  have c5 := later hb1 (a := ⟨w.heap.size + 1 + 1, 1, none⟩) (v := .int .i64 0) (by simp [go_sem, World.cell?_alloc_past])
  have f4 := free_later hb1 (a := ⟨w.heap.size + 1 + 1, 0, none⟩) (v := .int .i64 0) (by simp [go_sem, World.cell?_alloc_past]) (by simp [go_sem, World.cell?_alloc_past])
  have f5 := free_later hb1 (a := ⟨w.heap.size + 1 + 1, 1, none⟩) (v := .int .i64 0) (by simp [go_sem, World.cell?_alloc_past]) (by simp [go_sem, World.cell?_alloc_past])
  have c0 := later hb1 (a := ⟨w.heap.size, 0, none⟩) (v := .int .i64 al) (by simp [go_sem, World.cell?_alloc_past])
  have c1 := later hb1 (a := ⟨w.heap.size, 1, none⟩) (v := .int .i64 ah) (by simp [go_sem, World.cell?_alloc_past])
  have c2 := later hb1 (a := ⟨w.heap.size + 1, 0, none⟩) (v := .int .i64 bl) (by simp [go_sem, World.cell?_alloc_past])
  have c3 := later hb1 (a := ⟨w.heap.size + 1, 1, none⟩) (v := .int .i64 bh) (by simp [go_sem, World.cell?_alloc_past])
  go_wp2_with fail
  refine (R2.out _).mono ?_
  rintro e w2 ⟨rfl, hb2⟩
  have e0 := later hb2 c0
  have e1 := later hb2 c1
  have e2 := later hb2 c2
  have e3 := later hb2 c3
  have ⟨d4, g4⟩ := cf_later hb2 ⟨c4, f4⟩
  have ⟨d5, g5⟩ := cf_later hb2 ⟨c5, f5⟩
  clear c0 c1 c2 c3 c4 c5 f4 f5
  go_wp2_with fail
  exact bodyPost_ret (v := .tuple #[.agg #[.int .i64 0, .int .i64 0], .int .i64 2]) (by simp [results, Try.results41, go_sem, d4, d5]) rfl ⟨rfl, (by repeat (first | exact Below.refl _ _ | assumption | apply balloc | apply bdrew | (refine bset ?_ (by first | (simp; done) | omega | (simp; omega)) _) | (refine bnext ?_ (by assumption))))⟩
set_option maxHeartbeats 1600000 in
theorem refLess_good (al ah bl bh x y E : Int) (w : World) (R1 : Hid (∀ W, Calls Try.prog 99 #[.agg #[.int .i64 al, .int .i64 ah]] W fun e w' => e = .returned (.bool true) ∧ Below W.heap.size W w')) (R2 : Hid (∀ W, Calls Try.prog 99 #[.agg #[.int .i64 bl, .int .i64 bh]] W fun e w' => e = .returned (.bool true) ∧ Below W.heap.size W w')) (F : Hid (∀ W, Calls Try.prog 94 #[.int .i64 (al - bh), .int .i64 (ah - bl), .bool true] W fun e w' => e = .returned (.tuple #[.agg #[.int .i64 x, .int .i64 y], .int .i64 E]) ∧ Below W.heap.size W w')) (a0 : -1000000000000000 ≤ al) (a1 : al ≤ 1000000000000000) (a2 : -1000000000000000 ≤ ah) (a3 : ah ≤ 1000000000000000) (b0 : -1000000000000000 ≤ bl) (b1 : bl ≤ 1000000000000000) (b2 : -1000000000000000 ≤ bh) (b3 : bh ≤ 1000000000000000) :
    Calls Try.prog 41 #[.agg #[.int .i64 al, .int .i64 ah], .agg #[.int .i64 bl, .int .i64 bh]] w fun e w' => e = .returned (.tuple #[.agg #[.int .i64 x, .int .i64 y], .int .i64 E]) ∧ Below w.heap.size w w' := by
  go_enter Try.func41, Try.ntmps41
  go_wp2_with fail
  refine (R1.out _).mono ?_
  rintro e w1 ⟨rfl, hb1⟩
  have c4 := later hb1 (a := ⟨w.heap.size + 1 + 1, 0, none⟩) (v := .int .i64 0) (by simp [go_sem, World.cell?_alloc_past])
  have c5 := later hb1 (a := ⟨w.heap.size + 1 + 1, 1, none⟩) (v := .int .i64 0) (by simp [go_sem, World.cell?_alloc_past])
  have f4 := free_later hb1 (a := ⟨w.heap.size + 1 + 1, 0, none⟩) (v := .int .i64 0) (by simp [go_sem, World.cell?_alloc_past]) (by simp [go_sem, World.cell?_alloc_past])
  have f5 := free_later hb1 (a := ⟨w.heap.size + 1 + 1, 1, none⟩) (v := .int .i64 0) (by simp [go_sem, World.cell?_alloc_past]) (by simp [go_sem, World.cell?_alloc_past])
  have c0 := later hb1 (a := ⟨w.heap.size, 0, none⟩) (v := .int .i64 al) (by simp [go_sem, World.cell?_alloc_past])
  have c1 := later hb1 (a := ⟨w.heap.size, 1, none⟩) (v := .int .i64 ah) (by simp [go_sem, World.cell?_alloc_past])
  have c2 := later hb1 (a := ⟨w.heap.size + 1, 0, none⟩) (v := .int .i64 bl) (by simp [go_sem, World.cell?_alloc_past])
  have c3 := later hb1 (a := ⟨w.heap.size + 1, 1, none⟩) (v := .int .i64 bh) (by simp [go_sem, World.cell?_alloc_past])
  go_wp2_with fail
  refine (R2.out _).mono ?_
  rintro e w2 ⟨rfl, hb2⟩
  have e0 := later hb2 c0
  have e1 := later hb2 c1
  have e2 := later hb2 c2
  have e3 := later hb2 c3
  have ⟨d4, g4⟩ := cf_later hb2 ⟨c4, f4⟩
  have ⟨d5, g5⟩ := cf_later hb2 ⟨c5, f5⟩
  clear c0 c1 c2 c3 c4 c5 f4 f5
  go_wp2_with fail
  refine (F.out _).mono ?_
  rintro e w3 ⟨rfl, hb3⟩
  have ⟨c4, f4⟩ := cf_later hb3 ⟨d4, g4⟩
  have ⟨c5, f5⟩ := cf_later hb3 ⟨d5, g5⟩
  go_wp2_with fail
  have yy := two_set (x := .int .i64 x) (y := .int .i64 y) c4 c5
  exact bodyPost_ret (v := .tuple #[.agg #[.int .i64 x, .int .i64 y], .int .i64 E]) (by simp [results, Try.results41, go_sem, yy.1, yy.2]) rfl ⟨rfl, (by repeat (first | exact Below.refl _ _ | assumption | apply balloc | apply bdrew | (refine bset ?_ (by first | (simp; done) | omega | (simp; omega)) _) | (refine bnext ?_ (by assumption))))⟩
set_option maxHeartbeats 1600000 in
theorem refTimes_bad1 (al ah bl bh c : Int) (w : World) (R1 : Hid (∀ W, Calls Try.prog 99 #[.agg #[.int .i64 al, .int .i64 ah]] W fun e w' => e = .returned (.bool false) ∧ Below W.heap.size W w')) :
    Calls Try.prog 42 #[.agg #[.int .i64 al, .int .i64 ah], .agg #[.int .i64 bl, .int .i64 bh], .int .i64 c] w fun e w' => e = .returned (.tuple #[.agg #[.int .i64 0, .int .i64 0], .int .i64 2]) ∧ Below w.heap.size w w' := by
  go_enter Try.func42, Try.ntmps42
  go_wp2_with fail
  refine (R1.out _).mono ?_
  rintro e w1 ⟨rfl, hb1⟩
  have c4 := later hb1 (a := ⟨w.heap.size + 1 + 1, 0, none⟩) (v := .int .i64 0) (by simp [go_sem, World.cell?_alloc_past])
  have c5 := later hb1 (a := ⟨w.heap.size + 1 + 1, 1, none⟩) (v := .int .i64 0) (by simp [go_sem, World.cell?_alloc_past])
  have f4 := free_later hb1 (a := ⟨w.heap.size + 1 + 1, 0, none⟩) (v := .int .i64 0) (by simp [go_sem, World.cell?_alloc_past]) (by simp [go_sem, World.cell?_alloc_past])
  have f5 := free_later hb1 (a := ⟨w.heap.size + 1 + 1, 1, none⟩) (v := .int .i64 0) (by simp [go_sem, World.cell?_alloc_past]) (by simp [go_sem, World.cell?_alloc_past])
  go_wp2_with fail
  exact bodyPost_ret (v := .tuple #[.agg #[.int .i64 0, .int .i64 0], .int .i64 2]) (by simp [results, Try.results42, go_sem, c4, c5]) rfl ⟨rfl, (by repeat (first | exact Below.refl _ _ | assumption | apply balloc | apply bdrew | (refine bset ?_ (by first | (simp; done) | omega | (simp; omega)) _) | (refine bnext ?_ (by assumption))))⟩
set_option maxHeartbeats 1600000 in
theorem refTimes_bad2 (al ah bl bh c : Int) (w : World) (R1 : Hid (∀ W, Calls Try.prog 99 #[.agg #[.int .i64 al, .int .i64 ah]] W fun e w' => e = .returned (.bool true) ∧ Below W.heap.size W w')) (R2 : Hid (∀ W, Calls Try.prog 99 #[.agg #[.int .i64 bl, .int .i64 bh]] W fun e w' => e = .returned (.bool false) ∧ Below W.heap.size W w')) :
    Calls Try.prog 42 #[.agg #[.int .i64 al, .int .i64 ah], .agg #[.int .i64 bl, .int .i64 bh], .int .i64 c] w fun e w' => e = .returned (.tuple #[.agg #[.int .i64 0, .int .i64 0], .int .i64 2]) ∧ Below w.heap.size w w' := by
  go_enter Try.func42, Try.ntmps42
  go_wp2_with fail
  refine (R1.out _).mono ?_
  rintro e w1 ⟨rfl, hb1⟩
  have c4 := later hb1 (a := ⟨w.heap.size + 1 + 1, 0, none⟩) (v := .int .i64 0) (by simp [go_sem, World.cell?_alloc_past])
  have c5 := later hb1 (a := ⟨w.heap.size + 1 + 1, 1, none⟩) (v := .int .i64 0) (by simp [go_sem, World.cell?_alloc_past])
  have f4 := free_later hb1 (a := ⟨w.heap.size + 1 + 1, 0, none⟩) (v := .int .i64 0) (by simp [go_sem, World.cell?_alloc_past]) (by simp [go_sem, World.cell?_alloc_past])
  have f5 := free_later hb1 (a := ⟨w.heap.size + 1 + 1, 1, none⟩) (v := .int .i64 0) (by simp [go_sem, World.cell?_alloc_past]) (by simp [go_sem, World.cell?_alloc_past])
  have c0 := later hb1 (a := ⟨w.heap.size, 0, none⟩) (v := .int .i64 al) (by simp [go_sem, World.cell?_alloc_past])
  have c1 := later hb1 (a := ⟨w.heap.size, 1, none⟩) (v := .int .i64 ah) (by simp [go_sem, World.cell?_alloc_past])
  have c2 := later hb1 (a := ⟨w.heap.size + 1, 0, none⟩) (v := .int .i64 bl) (by simp [go_sem, World.cell?_alloc_past])
  have c3 := later hb1 (a := ⟨w.heap.size + 1, 1, none⟩) (v := .int .i64 bh) (by simp [go_sem, World.cell?_alloc_past])
  go_wp2_with fail
  refine (R2.out _).mono ?_
  rintro e w2 ⟨rfl, hb2⟩
  have e0 := later hb2 c0
  have e1 := later hb2 c1
  have e2 := later hb2 c2
  have e3 := later hb2 c3
  have ⟨d4, g4⟩ := cf_later hb2 ⟨c4, f4⟩
  have ⟨d5, g5⟩ := cf_later hb2 ⟨c5, f5⟩
  clear c0 c1 c2 c3 c4 c5 f4 f5
  go_wp2_with fail
  exact bodyPost_ret (v := .tuple #[.agg #[.int .i64 0, .int .i64 0], .int .i64 2]) (by simp [results, Try.results42, go_sem, d4, d5]) rfl ⟨rfl, (by repeat (first | exact Below.refl _ _ | assumption | apply balloc | apply bdrew | (refine bset ?_ (by first | (simp; done) | omega | (simp; omega)) _) | (refine bnext ?_ (by assumption))))⟩
set_option maxHeartbeats 1600000 in
theorem refTimes_bad3a (al ah bl bh c : Int) (w : World) (R1 : Hid (∀ W, Calls Try.prog 99 #[.agg #[.int .i64 al, .int .i64 ah]] W fun e w' => e = .returned (.bool true) ∧ Below W.heap.size W w')) (R2 : Hid (∀ W, Calls Try.prog 99 #[.agg #[.int .i64 bl, .int .i64 bh]] W fun e w' => e = .returned (.bool true) ∧ Below W.heap.size W w')) (h1 : decide (c < 1) = true) :
    Calls Try.prog 42 #[.agg #[.int .i64 al, .int .i64 ah], .agg #[.int .i64 bl, .int .i64 bh], .int .i64 c] w fun e w' => e = .returned (.tuple #[.agg #[.int .i64 0, .int .i64 0], .int .i64 3]) ∧ Below w.heap.size w w' := by
  go_enter Try.func42, Try.ntmps42
  go_wp2_with fail
  refine (R1.out _).mono ?_
  rintro e w1 ⟨rfl, hb1⟩
  have c4 := later hb1 (a := ⟨w.heap.size + 1 + 1, 0, none⟩) (v := .int .i64 0) (by simp [go_sem, World.cell?_alloc_past])
  have c5 := later hb1 (a := ⟨w.heap.size + 1 + 1, 1, none⟩) (v := .int .i64 0) (by simp [go_sem, World.cell?_alloc_past])
  have f4 := free_later hb1 (a := ⟨w.heap.size + 1 + 1, 0, none⟩) (v := .int .i64 0) (by simp [go_sem, World.cell?_alloc_past]) (by simp [go_sem, World.cell?_alloc_past])
  have f5 := free_later hb1 (a := ⟨w.heap.size + 1 + 1, 1, none⟩) (v := .int .i64 0) (by simp [go_sem, World.cell?_alloc_past]) (by simp [go_sem, World.cell?_alloc_past])
  have c0 := later hb1 (a := ⟨w.heap.size, 0, none⟩) (v := .int .i64 al) (by simp [go_sem, World.cell?_alloc_past])
  have c1 := later hb1 (a := ⟨w.heap.size, 1, none⟩) (v := .int .i64 ah) (by simp [go_sem, World.cell?_alloc_past])
  have c2 := later hb1 (a := ⟨w.heap.size + 1, 0, none⟩) (v := .int .i64 bl) (by simp [go_sem, World.cell?_alloc_past])
  have c3 := later hb1 (a := ⟨w.heap.size + 1, 1, none⟩) (v := .int .i64 bh) (by simp [go_sem, World.cell?_alloc_past])
  go_wp2_with fail
  refine (R2.out _).mono ?_
  rintro e w2 ⟨rfl, hb2⟩
  have e0 := later hb2 c0
  have e1 := later hb2 c1
  have e2 := later hb2 c2
  have e3 := later hb2 c3
  have ⟨d4, g4⟩ := cf_later hb2 ⟨c4, f4⟩
  have ⟨d5, g5⟩ := cf_later hb2 ⟨c5, f5⟩
  clear c0 c1 c2 c3 c4 c5 f4 f5
  go_wp2_with fail
  exact bodyPost_ret (v := .tuple #[.agg #[.int .i64 0, .int .i64 0], .int .i64 3]) (by simp [results, Try.results42, go_sem, d4, d5]) rfl ⟨rfl, (by repeat (first | exact Below.refl _ _ | assumption | apply balloc | apply bdrew | (refine bset ?_ (by first | (simp; done) | omega | (simp; omega)) _) | (refine bnext ?_ (by assumption))))⟩
set_option maxHeartbeats 1600000 in
theorem refTimes_bad3b (al ah bl bh c : Int) (w : World) (R1 : Hid (∀ W, Calls Try.prog 99 #[.agg #[.int .i64 al, .int .i64 ah]] W fun e w' => e = .returned (.bool true) ∧ Below W.heap.size W w')) (R2 : Hid (∀ W, Calls Try.prog 99 #[.agg #[.int .i64 bl, .int .i64 bh]] W fun e w' => e = .returned (.bool true) ∧ Below W.heap.size W w')) (h1 : decide (c < 1) = false) (h2 : decide (1000000000000000 < c) = true) :
    Calls Try.prog 42 #[.agg #[.int .i64 al, .int .i64 ah], .agg #[.int .i64 bl, .int .i64 bh], .int .i64 c] w fun e w' => e = .returned (.tuple #[.agg #[.int .i64 0, .int .i64 0], .int .i64 3]) ∧ Below w.heap.size w w' := by
  go_enter Try.func42, Try.ntmps42
  go_wp2_with fail
  refine (R1.out _).mono ?_
  rintro e w1 ⟨rfl, hb1⟩
  have c4 := later hb1 (a := ⟨w.heap.size + 1 + 1, 0, none⟩) (v := .int .i64 0) (by simp [go_sem, World.cell?_alloc_past])
  have c5 := later hb1 (a := ⟨w.heap.size + 1 + 1, 1, none⟩) (v := .int .i64 0) (by simp [go_sem, World.cell?_alloc_past])
  have f4 := free_later hb1 (a := ⟨w.heap.size + 1 + 1, 0, none⟩) (v := .int .i64 0) (by simp [go_sem, World.cell?_alloc_past]) (by simp [go_sem, World.cell?_alloc_past])
  have f5 := free_later hb1 (a := ⟨w.heap.size + 1 + 1, 1, none⟩) (v := .int .i64 0) (by simp [go_sem, World.cell?_alloc_past]) (by simp [go_sem, World.cell?_alloc_past])
  have c0 := later hb1 (a := ⟨w.heap.size, 0, none⟩) (v := .int .i64 al) (by simp [go_sem, World.cell?_alloc_past])
  have c1 := later hb1 (a := ⟨w.heap.size, 1, none⟩) (v := .int .i64 ah) (by simp [go_sem, World.cell?_alloc_past])
  have c2 := later hb1 (a := ⟨w.heap.size + 1, 0, none⟩) (v := .int .i64 bl) (by simp [go_sem, World.cell?_alloc_past])
  have c3 := later hb1 (a := ⟨w.heap.size + 1, 1, none⟩) (v := .int .i64 bh) (by simp [go_sem, World.cell?_alloc_past])
  go_wp2_with fail
  refine (R2.out _).mono ?_
  rintro e w2 ⟨rfl, hb2⟩
  have e0 := later hb2 c0
  have e1 := later hb2 c1
  have e2 := later hb2 c2
  have e3 := later hb2 c3
  have ⟨d4, g4⟩ := cf_later hb2 ⟨c4, f4⟩
  have ⟨d5, g5⟩ := cf_later hb2 ⟨c5, f5⟩
  clear c0 c1 c2 c3 c4 c5 f4 f5
  go_wp2_with fail
  exact bodyPost_ret (v := .tuple #[.agg #[.int .i64 0, .int .i64 0], .int .i64 3]) (by simp [results, Try.results42, go_sem, d4, d5]) rfl ⟨rfl, (by repeat (first | exact Below.refl _ _ | assumption | apply balloc | apply bdrew | (refine bset ?_ (by first | (simp; done) | omega | (simp; omega)) _) | (refine bnext ?_ (by assumption))))⟩
set_option maxHeartbeats 1600000 in
theorem refTimes_good (al ah bl bh c x y E : Int) (w : World) (R1 : Hid (∀ W, Calls Try.prog 99 #[.agg #[.int .i64 al, .int .i64 ah]] W fun e w' => e = .returned (.bool true) ∧ Below W.heap.size W w')) (R2 : Hid (∀ W, Calls Try.prog 99 #[.agg #[.int .i64 bl, .int .i64 bh]] W fun e w' => e = .returned (.bool true) ∧ Below W.heap.size W w')) (F : Hid (∀ a b ca cb W, IsInts W a [al, ah] → IsPairs W b [(bl, c), (bh, c)] → Calls Try.prog 100 #[.slice a 2 ca, .slice b 2 cb] W fun e w' => e = .returned (.tuple #[.agg #[.int .i64 x, .int .i64 y], .int .i64 E]) ∧ Below W.heap.size W w')) (h1 : decide (c < 1) = false) (h2 : decide (1000000000000000 < c) = false) :
    Calls Try.prog 42 #[.agg #[.int .i64 al, .int .i64 ah], .agg #[.int .i64 bl, .int .i64 bh], .int .i64 c] w fun e w' => e = .returned (.tuple #[.agg #[.int .i64 x, .int .i64 y], .int .i64 E]) ∧ Below w.heap.size w w' := by
  go_enter Try.func42, Try.ntmps42
  go_wp2_with fail
  refine (R1.out _).mono ?_
  rintro e w1 ⟨rfl, hb1⟩
  have c4 := later hb1 (a := ⟨w.heap.size + 1 + 1, 0, none⟩) (v := .int .i64 0) (by simp [go_sem, World.cell?_alloc_past])
  have c5 := later hb1 (a := ⟨w.heap.size + 1 + 1, 1, none⟩) (v := .int .i64 0) (by simp [go_sem, World.cell?_alloc_past])
  have f4 := free_later hb1 (a := ⟨w.heap.size + 1 + 1, 0, none⟩) (v := .int .i64 0) (by simp [go_sem, World.cell?_alloc_past]) (by simp [go_sem, World.cell?_alloc_past])
  have f5 := free_later hb1 (a := ⟨w.heap.size + 1 + 1, 1, none⟩) (v := .int .i64 0) (by simp [go_sem, World.cell?_alloc_past]) (by simp [go_sem, World.cell?_alloc_past])
  have c0 := later hb1 (a := ⟨w.heap.size, 0, none⟩) (v := .int .i64 al) (by simp [go_sem, World.cell?_alloc_past])
  have c1 := later hb1 (a := ⟨w.heap.size, 1, none⟩) (v := .int .i64 ah) (by simp [go_sem, World.cell?_alloc_past])
  have c2 := later hb1 (a := ⟨w.heap.size + 1, 0, none⟩) (v := .int .i64 bl) (by simp [go_sem, World.cell?_alloc_past])
  have c3 := later hb1 (a := ⟨w.heap.size + 1, 1, none⟩) (v := .int .i64 bh) (by simp [go_sem, World.cell?_alloc_past])
  go_wp2_with fail
  refine (R2.out _).mono ?_
  rintro e w2 ⟨rfl, hb2⟩
  have e0 := later hb2 c0
  have e1 := later hb2 c1
  have e2 := later hb2 c2
  have e3 := later hb2 c3
  have ⟨d4, g4⟩ := cf_later hb2 ⟨c4, f4⟩
  have ⟨d5, g5⟩ := cf_later hb2 ⟨c5, f5⟩
  clear c0 c1 c2 c3 c4 c5 f4 f5
  have e2' := fun o => later (balloc (o := o) (Below.refl _ _)) e2
  have e3' := fun o => later (balloc (o := o) (Below.refl _ _)) e3
  go_wp2_with fail
  refine (F.out (some ⟨w2.heap.size, 0, none⟩) (some ⟨w2.heap.size + 1, 0, none⟩) _ _ _ ?_ ?_).mono ?_
  · exact ints_two_of (by simp [go_sem, World.cell?_alloc_past]) (by simp [go_sem, World.cell?_alloc_past])
  · exact pairs_two_of (by simp [go_sem, World.cell?_alloc_past]) (by simp [go_sem, World.cell?_alloc_past]) (by simp [go_sem, World.cell?_alloc_past]) (by simp [go_sem, World.cell?_alloc_past])
  rintro e w3 ⟨rfl, hb3⟩
  have ⟨c4, f4⟩ := cf_later hb3 (cf_later (balloc (balloc (Below.refl _ _))) ⟨d4, g4⟩)
  have ⟨c5, f5⟩ := cf_later hb3 (cf_later (balloc (balloc (Below.refl _ _))) ⟨d5, g5⟩)
  go_wp2_with fail
  have yy := two_set (x := .int .i64 x) (y := .int .i64 y) c4 c5
  exact bodyPost_ret (v := .tuple #[.agg #[.int .i64 x, .int .i64 y], .int .i64 E]) (by simp [results, Try.results42, go_sem, yy.1, yy.2]) rfl ⟨rfl, (by repeat (first | exact Below.refl _ _ | assumption | apply balloc | apply bdrew | (refine bset ?_ (by first | (simp; done) | omega | (simp; omega)) _) | (refine bnext ?_ (by assumption))))⟩
set_option maxHeartbeats 1600000 in
theorem refOver_bad1 (al ah bl bh c : Int) (w : World) (R1 : Hid (∀ W, Calls Try.prog 99 #[.agg #[.int .i64 al, .int .i64 ah]] W fun e w' => e = .returned (.bool false) ∧ Below W.heap.size W w')) :
    Calls Try.prog 43 #[.agg #[.int .i64 al, .int .i64 ah], .agg #[.int .i64 bl, .int .i64 bh], .int .i64 c] w fun e w' => e = .returned (.tuple #[.agg #[.int .i64 0, .int .i64 0], .int .i64 2]) ∧ Below w.heap.size w w' := by
  go_enter Try.func43, Try.ntmps43
  go_wp2_with fail
  refine (R1.out _).mono ?_
  rintro e w1 ⟨rfl, hb1⟩
  have c4 := later hb1 (a := ⟨w.heap.size + 1 + 1, 0, none⟩) (v := .int .i64 0) (by simp [go_sem, World.cell?_alloc_past])
  have c5 := later hb1 (a := ⟨w.heap.size + 1 + 1, 1, none⟩) (v := .int .i64 0) (by simp [go_sem, World.cell?_alloc_past])
  have f4 := free_later hb1 (a := ⟨w.heap.size + 1 + 1, 0, none⟩) (v := .int .i64 0) (by simp [go_sem, World.cell?_alloc_past]) (by simp [go_sem, World.cell?_alloc_past])
  have f5 := free_later hb1 (a := ⟨w.heap.size + 1 + 1, 1, none⟩) (v := .int .i64 0) (by simp [go_sem, World.cell?_alloc_past]) (by simp [go_sem, World.cell?_alloc_past])
  go_wp2_with fail
  exact bodyPost_ret (v := .tuple #[.agg #[.int .i64 0, .int .i64 0], .int .i64 2]) (by simp [results, Try.results43, go_sem, c4, c5]) rfl ⟨rfl, (by repeat (first | exact Below.refl _ _ | assumption | apply balloc | apply bdrew | (refine bset ?_ (by first | (simp; done) | omega | (simp; omega)) _) | (refine bnext ?_ (by assumption))))⟩
set_option maxHeartbeats 1600000 in
theorem refOver_bad2 (al ah bl bh c : Int) (w : World) (R1 : Hid (∀ W, Calls Try.prog 99 #[.agg #[.int .i64 al, .int .i64 ah]] W fun e w' => e = .returned (.bool true) ∧ Below W.heap.size W w')) (R2 : Hid (∀ W, Calls Try.prog 99 #[.agg #[.int .i64 bl, .int .i64 bh]] W fun e w' => e = .returned (.bool false) ∧ Below W.heap.size W w')) :
    Calls Try.prog 43 #[.agg #[.int .i64 al, .int .i64 ah], .agg #[.int .i64 bl, .int .i64 bh], .int .i64 c] w fun e w' => e = .returned (.tuple #[.agg #[.int .i64 0, .int .i64 0], .int .i64 2]) ∧ Below w.heap.size w w' := by
  go_enter Try.func43, Try.ntmps43
  go_wp2_with fail
  refine (R1.out _).mono ?_
  rintro e w1 ⟨rfl, hb1⟩
  have c4 := later hb1 (a := ⟨w.heap.size + 1 + 1, 0, none⟩) (v := .int .i64 0) (by simp [go_sem, World.cell?_alloc_past])
  have c5 := later hb1 (a := ⟨w.heap.size + 1 + 1, 1, none⟩) (v := .int .i64 0) (by simp [go_sem, World.cell?_alloc_past])
  have f4 := free_later hb1 (a := ⟨w.heap.size + 1 + 1, 0, none⟩) (v := .int .i64 0) (by simp [go_sem, World.cell?_alloc_past]) (by simp [go_sem, World.cell?_alloc_past])
  have f5 := free_later hb1 (a := ⟨w.heap.size + 1 + 1, 1, none⟩) (v := .int .i64 0) (by simp [go_sem, World.cell?_alloc_past]) (by simp [go_sem, World.cell?_alloc_past])
  have c0 := later hb1 (a := ⟨w.heap.size, 0, none⟩) (v := .int .i64 al) (by simp [go_sem, World.cell?_alloc_past])
  have c1 := later hb1 (a := ⟨w.heap.size, 1, none⟩) (v := .int .i64 ah) (by simp [go_sem, World.cell?_alloc_past])
  have c2 := later hb1 (a := ⟨w.heap.size + 1, 0, none⟩) (v := .int .i64 bl) (by simp [go_sem, World.cell?_alloc_past])
  have c3 := later hb1 (a := ⟨w.heap.size + 1, 1, none⟩) (v := .int .i64 bh) (by simp [go_sem, World.cell?_alloc_past])
  go_wp2_with fail
  refine (R2.out _).mono ?_
  rintro e w2 ⟨rfl, hb2⟩
  have e0 := later hb2 c0
  have e1 := later hb2 c1
  have e2 := later hb2 c2
  have e3 := later hb2 c3
  have ⟨d4, g4⟩ := cf_later hb2 ⟨c4, f4⟩
  have ⟨d5, g5⟩ := cf_later hb2 ⟨c5, f5⟩
  clear c0 c1 c2 c3 c4 c5 f4 f5
  go_wp2_with fail
  exact bodyPost_ret (v := .tuple #[.agg #[.int .i64 0, .int .i64 0], .int .i64 2]) (by simp [results, Try.results43, go_sem, d4, d5]) rfl ⟨rfl, (by repeat (first | exact Below.refl _ _ | assumption | apply balloc | apply bdrew | (refine bset ?_ (by first | (simp; done) | omega | (simp; omega)) _) | (refine bnext ?_ (by assumption))))⟩
set_option maxHeartbeats 1600000 in
theorem refOver_bad3a (al ah bl bh c : Int) (w : World) (R1 : Hid (∀ W, Calls Try.prog 99 #[.agg #[.int .i64 al, .int .i64 ah]] W fun e w' => e = .returned (.bool true) ∧ Below W.heap.size W w')) (R2 : Hid (∀ W, Calls Try.prog 99 #[.agg #[.int .i64 bl, .int .i64 bh]] W fun e w' => e = .returned (.bool true) ∧ Below W.heap.size W w')) (h1 : decide (c < 1) = true) :
    Calls Try.prog 43 #[.agg #[.int .i64 al, .int .i64 ah], .agg #[.int .i64 bl, .int .i64 bh], .int .i64 c] w fun e w' => e = .returned (.tuple #[.agg #[.int .i64 0, .int .i64 0], .int .i64 3]) ∧ Below w.heap.size w w' := by
  go_enter Try.func43, Try.ntmps43
  go_wp2_with fail
  refine (R1.out _).mono ?_
  rintro e w1 ⟨rfl, hb1⟩
  have c4 := later hb1 (a := ⟨w.heap.size + 1 + 1, 0, none⟩) (v := .int .i64 0) (by simp [go_sem, World.cell?_alloc_past])
  have c5 := later hb1 (a := ⟨w.heap.size + 1 + 1, 1, none⟩) (v := .int .i64 0) (by simp [go_sem, World.cell?_alloc_past])
  have f4 := free_later hb1 (a := ⟨w.heap.size + 1 + 1, 0, none⟩) (v := .int .i64 0) (by simp [go_sem, World.cell?_alloc_past]) (by simp [go_sem, World.cell?_alloc_past])
  have f5 := free_later hb1 (a := ⟨w.heap.size + 1 + 1, 1, none⟩) (v := .int .i64 0) (by simp [go_sem, World.cell?_alloc_past]) (by simp [go_sem, World.cell?_alloc_past])
  have c0 := later hb1 (a := ⟨w.heap.size, 0, none⟩) (v := .int .i64 al) (by simp [go_sem, World.cell?_alloc_past])
  have c1 := later hb1 (a := ⟨w.heap.size, 1, none⟩) (v := .int .i64 ah) (by simp [go_sem, World.cell?_alloc_past])
  have c2 := later hb1 (a := ⟨w.heap.size + 1, 0, none⟩) (v := .int .i64 bl) (by simp [go_sem, World.cell?_alloc_past])
  have c3 := later hb1 (a := ⟨w.heap.size + 1, 1, none⟩) (v := .int .i64 bh) (by simp [go_sem, World.cell?_alloc_past])
  go_wp2_with fail
  refine (R2.out _).mono ?_
  rintro e w2 ⟨rfl, hb2⟩
  have e0 := later hb2 c0
  have e1 := later hb2 c1
  have e2 := later hb2 c2
  have e3 := later hb2 c3
  have ⟨d4, g4⟩ := cf_later hb2 ⟨c4, f4⟩
  have ⟨d5, g5⟩ := cf_later hb2 ⟨c5, f5⟩
  clear c0 c1 c2 c3 c4 c5 f4 f5
  go_wp2_with fail
  exact bodyPost_ret (v := .tuple #[.agg #[.int .i64 0, .int .i64 0], .int .i64 3]) (by simp [results, Try.results43, go_sem, d4, d5]) rfl ⟨rfl, (by repeat (first | exact Below.refl _ _ | assumption | apply balloc | apply bdrew | (refine bset ?_ (by first | (simp; done) | omega | (simp; omega)) _) | (refine bnext ?_ (by assumption))))⟩
set_option maxHeartbeats 1600000 in
theorem refOver_bad3b (al ah bl bh c : Int) (w : World) (R1 : Hid (∀ W, Calls Try.prog 99 #[.agg #[.int .i64 al, .int .i64 ah]] W fun e w' => e = .returned (.bool true) ∧ Below W.heap.size W w')) (R2 : Hid (∀ W, Calls Try.prog 99 #[.agg #[.int .i64 bl, .int .i64 bh]] W fun e w' => e = .returned (.bool true) ∧ Below W.heap.size W w')) (h1 : decide (c < 1) = false) (h2 : decide (1000000000000000 < c) = true) :
    Calls Try.prog 43 #[.agg #[.int .i64 al, .int .i64 ah], .agg #[.int .i64 bl, .int .i64 bh], .int .i64 c] w fun e w' => e = .returned (.tuple #[.agg #[.int .i64 0, .int .i64 0], .int .i64 3]) ∧ Below w.heap.size w w' := by
  go_enter Try.func43, Try.ntmps43
  go_wp2_with fail
  refine (R1.out _).mono ?_
  rintro e w1 ⟨rfl, hb1⟩
  have c4 := later hb1 (a := ⟨w.heap.size + 1 + 1, 0, none⟩) (v := .int .i64 0) (by simp [go_sem, World.cell?_alloc_past])
  have c5 := later hb1 (a := ⟨w.heap.size + 1 + 1, 1, none⟩) (v := .int .i64 0) (by simp [go_sem, World.cell?_alloc_past])
  have f4 := free_later hb1 (a := ⟨w.heap.size + 1 + 1, 0, none⟩) (v := .int .i64 0) (by simp [go_sem, World.cell?_alloc_past]) (by simp [go_sem, World.cell?_alloc_past])
  have f5 := free_later hb1 (a := ⟨w.heap.size + 1 + 1, 1, none⟩) (v := .int .i64 0) (by simp [go_sem, World.cell?_alloc_past]) (by simp [go_sem, World.cell?_alloc_past])
  have c0 := later hb1 (a := ⟨w.heap.size, 0, none⟩) (v := .int .i64 al) (by simp [go_sem, World.cell?_alloc_past])
  have c1 := later hb1 (a := ⟨w.heap.size, 1, none⟩) (v := .int .i64 ah) (by simp [go_sem, World.cell?_alloc_past])
  have c2 := later hb1 (a := ⟨w.heap.size + 1, 0, none⟩) (v := .int .i64 bl) (by simp [go_sem, World.cell?_alloc_past])
  have c3 := later hb1 (a := ⟨w.heap.size + 1, 1, none⟩) (v := .int .i64 bh) (by simp [go_sem, World.cell?_alloc_past])
  go_wp2_with fail
  refine (R2.out _).mono ?_
  rintro e w2 ⟨rfl, hb2⟩
  have e0 := later hb2 c0
  have e1 := later hb2 c1
  have e2 := later hb2 c2
  have e3 := later hb2 c3
  have ⟨d4, g4⟩ := cf_later hb2 ⟨c4, f4⟩
  have ⟨d5, g5⟩ := cf_later hb2 ⟨c5, f5⟩
  clear c0 c1 c2 c3 c4 c5 f4 f5
  go_wp2_with fail
  exact bodyPost_ret (v := .tuple #[.agg #[.int .i64 0, .int .i64 0], .int .i64 3]) (by simp [results, Try.results43, go_sem, d4, d5]) rfl ⟨rfl, (by repeat (first | exact Below.refl _ _ | assumption | apply balloc | apply bdrew | (refine bset ?_ (by first | (simp; done) | omega | (simp; omega)) _) | (refine bnext ?_ (by assumption))))⟩
set_option maxHeartbeats 1600000 in
theorem refOver_bad3c (al ah bl bh c : Int) (w : World) (R1 : Hid (∀ W, Calls Try.prog 99 #[.agg #[.int .i64 al, .int .i64 ah]] W fun e w' => e = .returned (.bool true) ∧ Below W.heap.size W w')) (R2 : Hid (∀ W, Calls Try.prog 99 #[.agg #[.int .i64 bl, .int .i64 bh]] W fun e w' => e = .returned (.bool true) ∧ Below W.heap.size W w')) (h1 : decide (c < 1) = false) (h2 : decide (1000000000000000 < c) = false) (h3 : decide (bl < 1) = true) :
    Calls Try.prog 43 #[.agg #[.int .i64 al, .int .i64 ah], .agg #[.int .i64 bl, .int .i64 bh], .int .i64 c] w fun e w' => e = .returned (.tuple #[.agg #[.int .i64 0, .int .i64 0], .int .i64 3]) ∧ Below w.heap.size w w' := by
  go_enter Try.func43, Try.ntmps43
  go_wp2_with fail
  refine (R1.out _).mono ?_
  rintro e w1 ⟨rfl, hb1⟩
  have c4 := later hb1 (a := ⟨w.heap.size + 1 + 1, 0, none⟩) (v := .int .i64 0) (by simp [go_sem, World.cell?_alloc_past])
  have c5 := later hb1 (a := ⟨w.heap.size + 1 + 1, 1, none⟩) (v := .int .i64 0) (by simp [go_sem, World.cell?_alloc_past])
  have f4 := free_later hb1 (a := ⟨w.heap.size + 1 + 1, 0, none⟩) (v := .int .i64 0) (by simp [go_sem, World.cell?_alloc_past]) (by simp [go_sem, World.cell?_alloc_past])
  have f5 := free_later hb1 (a := ⟨w.heap.size + 1 + 1, 1, none⟩) (v := .int .i64 0) (by simp [go_sem, World.cell?_alloc_past]) (by simp [go_sem, World.cell?_alloc_past])
  have c0 := later hb1 (a := ⟨w.heap.size, 0, none⟩) (v := .int .i64 al) (by simp [go_sem, World.cell?_alloc_past])
  have c1 := later hb1 (a := ⟨w.heap.size, 1, none⟩) (v := .int .i64 ah) (by simp [go_sem, World.cell?_alloc_past])
  have c2 := later hb1 (a := ⟨w.heap.size + 1, 0, none⟩) (v := .int .i64 bl) (by simp [go_sem, World.cell?_alloc_past])
  have c3 := later hb1 (a := ⟨w.heap.size + 1, 1, none⟩) (v := .int .i64 bh) (by simp [go_sem, World.cell?_alloc_past])
  go_wp2_with fail
  refine (R2.out _).mono ?_
  rintro e w2 ⟨rfl, hb2⟩
  have e0 := later hb2 c0
  have e1 := later hb2 c1
  have e2 := later hb2 c2
  have e3 := later hb2 c3
  have ⟨d4, g4⟩ := cf_later hb2 ⟨c4, f4⟩
  have ⟨d5, g5⟩ := cf_later hb2 ⟨c5, f5⟩
  clear c0 c1 c2 c3 c4 c5 f4 f5
  go_wp2_with fail
  exact bodyPost_ret (v := .tuple #[.agg #[.int .i64 0, .int .i64 0], .int .i64 3]) (by simp [results, Try.results43, go_sem, d4, d5]) rfl ⟨rfl, (by repeat (first | exact Below.refl _ _ | assumption | apply balloc | apply bdrew | (refine bset ?_ (by first | (simp; done) | omega | (simp; omega)) _) | (refine bnext ?_ (by assumption))))⟩
set_option maxHeartbeats 1600000 in
theorem refOver_good (al ah bl bh c x y E : Int) (w : World) (R1 : Hid (∀ W, Calls Try.prog 99 #[.agg #[.int .i64 al, .int .i64 ah]] W fun e w' => e = .returned (.bool true) ∧ Below W.heap.size W w')) (R2 : Hid (∀ W, Calls Try.prog 99 #[.agg #[.int .i64 bl, .int .i64 bh]] W fun e w' => e = .returned (.bool true) ∧ Below W.heap.size W w')) (F : Hid (∀ a b ca cb W, IsInts W a [al, ah] → IsPairs W b [(c, bl), (c, bh)] → Calls Try.prog 100 #[.slice a 2 ca, .slice b 2 cb] W fun e w' => e = .returned (.tuple #[.agg #[.int .i64 x, .int .i64 y], .int .i64 E]) ∧ Below W.heap.size W w')) (h1 : decide (c < 1) = false) (h2 : decide (1000000000000000 < c) = false) (h3 : decide (bl < 1) = false) :
    Calls Try.prog 43 #[.agg #[.int .i64 al, .int .i64 ah], .agg #[.int .i64 bl, .int .i64 bh], .int .i64 c] w fun e w' => e = .returned (.tuple #[.agg #[.int .i64 x, .int .i64 y], .int .i64 E]) ∧ Below w.heap.size w w' := by
  go_enter Try.func43, Try.ntmps43
  go_wp2_with fail
  refine (R1.out _).mono ?_
  rintro e w1 ⟨rfl, hb1⟩
  have c4 := later hb1 (a := ⟨w.heap.size + 1 + 1, 0, none⟩) (v := .int .i64 0) (by simp [go_sem, World.cell?_alloc_past])
  have c5 := later hb1 (a := ⟨w.heap.size + 1 + 1, 1, none⟩) (v := .int .i64 0) (by simp [go_sem, World.cell?_alloc_past])
  have f4 := free_later hb1 (a := ⟨w.heap.size + 1 + 1, 0, none⟩) (v := .int .i64 0) (by simp [go_sem, World.cell?_alloc_past]) (by simp [go_sem, World.cell?_alloc_past])
  have f5 := free_later hb1 (a := ⟨w.heap.size + 1 + 1, 1, none⟩) (v := .int .i64 0) (by simp [go_sem, World.cell?_alloc_past]) (by simp [go_sem, World.cell?_alloc_past])
  have c0 := later hb1 (a := ⟨w.heap.size, 0, none⟩) (v := .int .i64 al) (by simp [go_sem, World.cell?_alloc_past])
  have c1 := later hb1 (a := ⟨w.heap.size, 1, none⟩) (v := .int .i64 ah) (by simp [go_sem, World.cell?_alloc_past])
  have c2 := later hb1 (a := ⟨w.heap.size + 1, 0, none⟩) (v := .int .i64 bl) (by simp [go_sem, World.cell?_alloc_past])
  have c3 := later hb1 (a := ⟨w.heap.size + 1, 1, none⟩) (v := .int .i64 bh) (by simp [go_sem, World.cell?_alloc_past])
  go_wp2_with fail
  refine (R2.out _).mono ?_
  rintro e w2 ⟨rfl, hb2⟩
  have e0 := later hb2 c0
  have e1 := later hb2 c1
  have e2 := later hb2 c2
  have e3 := later hb2 c3
  have ⟨d4, g4⟩ := cf_later hb2 ⟨c4, f4⟩
  have ⟨d5, g5⟩ := cf_later hb2 ⟨c5, f5⟩
  clear c0 c1 c2 c3 c4 c5 f4 f5
  have e2' := fun o => later (balloc (o := o) (Below.refl _ _)) e2
  have e3' := fun o => later (balloc (o := o) (Below.refl _ _)) e3
  go_wp2_with fail
  refine (F.out (some ⟨w2.heap.size, 0, none⟩) (some ⟨w2.heap.size + 1, 0, none⟩) _ _ _ ?_ ?_).mono ?_
  · exact ints_two_of (by simp [go_sem, World.cell?_alloc_past]) (by simp [go_sem, World.cell?_alloc_past])
  · exact pairs_two_of (by simp [go_sem, World.cell?_alloc_past]) (by simp [go_sem, World.cell?_alloc_past]) (by simp [go_sem, World.cell?_alloc_past]) (by simp [go_sem, World.cell?_alloc_past])
  rintro e w3 ⟨rfl, hb3⟩
  have ⟨c4, f4⟩ := cf_later hb3 (cf_later (balloc (balloc (Below.refl _ _))) ⟨d4, g4⟩)
  have ⟨c5, f5⟩ := cf_later hb3 (cf_later (balloc (balloc (Below.refl _ _))) ⟨d5, g5⟩)
  go_wp2_with fail
  have yy := two_set (x := .int .i64 x) (y := .int .i64 y) c4 c5
  exact bodyPost_ret (v := .tuple #[.agg #[.int .i64 x, .int .i64 y], .int .i64 E]) (by simp [results, Try.results43, go_sem, yy.1, yy.2]) rfl ⟨rfl, (by repeat (first | exact Below.refl _ _ | assumption | apply balloc | apply bdrew | (refine bset ?_ (by first | (simp; done) | omega | (simp; omega)) _) | (refine bnext ?_ (by assumption))))⟩

theorem two_ok (al ah bl bh : Int) : [(al, ah), (bl, bh)].all rangeOk = (rangeOk (al, ah) && rangeOk (bl, bh)) := by simp
theorem refLess_any (al ah bl bh : Int) (w : World) :
    Calls Try.prog 41 #[.agg #[.int .i64 al, .int .i64 ah], .agg #[.int .i64 bl, .int .i64 bh]] w fun e w' => e = .returned (.tuple #[.agg #[.int .i64 (lessQ al ah bl bh).1, .int .i64 (lessQ al ah bl bh).2.1], .int .i64 (lessQ al ah bl bh).2.2]) ∧ Below w.heap.size w w' := by
  have R1 := fun W => refRange_any al ah W
  have R2 := fun W => refRange_any bl bh W
  unfold lessQ
  cases h1 : rangeOk (al, ah) with
  | false => rw [h1] at R1; rw [two_ok, h1, Bool.false_and, if_pos rfl]; exact refLess_bad1 al ah bl bh w R1
  | true =>
    rw [h1] at R1
    cases h2 : rangeOk (bl, bh) with
    | false => rw [h2] at R2; rw [two_ok, h1, h2, Bool.and_false, if_pos rfl]; exact refLess_bad2 al ah bl bh w R1 R2
    | true =>
      rw [h2] at R2
      have hh : [(al, ah), (bl, bh)].all rangeOk = true := by rw [two_ok, h1, h2]; rfl
      obtain ⟨⟨a0, a1, a2⟩, b0, b1, b2⟩ := range2_bounds hh
      rw [hh, if_neg (by simp)]
      refine refLess_good al ah bl bh _ _ _ w R1 R2 (hide fun W => ?_) a0 (by omega) (by omega) a2 b0 (by omega) (by omega) b2
      have g := fits_any (al - bh) (ah - bl) W
      cases hk : allIn 1000000000000000 [al - bh, ah - bl] <;> (rw [hk] at g; simpa using g)
theorem refTimes_any (al ah bl bh c : Int) (w : World) :
    Calls Try.prog 42 #[.agg #[.int .i64 al, .int .i64 ah], .agg #[.int .i64 bl, .int .i64 bh], .int .i64 c] w fun e w' => e = .returned (.tuple #[.agg #[.int .i64 (timesQ al ah bl bh c).1, .int .i64 (timesQ al ah bl bh c).2.1], .int .i64 (timesQ al ah bl bh c).2.2]) ∧ Below w.heap.size w w' := by
  have R1 := fun W => refRange_any al ah W
  have R2 := fun W => refRange_any bl bh W
  unfold timesQ
  cases h1 : rangeOk (al, ah) with
  | false => rw [h1] at R1; rw [two_ok, h1, Bool.false_and, if_pos rfl]; exact refTimes_bad1 al ah bl bh c w R1
  | true =>
    rw [h1] at R1
    cases h2 : rangeOk (bl, bh) with
    | false => rw [h2] at R2; rw [two_ok, h1, h2, Bool.and_false, if_pos rfl]; exact refTimes_bad2 al ah bl bh c w R1 R2
    | true =>
      rw [h2] at R2
      have hh : [(al, ah), (bl, bh)].all rangeOk = true := by rw [two_ok, h1, h2]; rfl
      obtain ⟨⟨a0, a1, a2⟩, b0, b1, b2⟩ := range2_bounds hh
      rw [hh, if_neg (by simp)]
      by_cases c0 : c < 1
      · rw [if_pos (by simp [isDiv]; omega)]; exact refTimes_bad3a al ah bl bh c w R1 R2 (decide_eq_true c0)
      · by_cases c1 : 1000000000000000 < c
        · rw [if_pos (by simp [isDiv]; omega)]; exact refTimes_bad3b al ah bl bh c w R1 R2 (decide_eq_false c0) (decide_eq_true c1)
        · rw [if_neg (by simp [isDiv]; omega)]
          exact refTimes_good al ah bl bh c _ _ _ w R1 R2 (hide fun a b ca cb W i1 i2 => spread_two al ah bl c bh c a0 (by omega) (by omega) a2 b0 (by omega) (by omega) (by omega) (by omega) b2 (by omega) (by omega) _ rfl a b ca cb W i1 i2) (decide_eq_false c0) (decide_eq_false c1)
theorem refOver_any (al ah bl bh c : Int) (w : World) :
    Calls Try.prog 43 #[.agg #[.int .i64 al, .int .i64 ah], .agg #[.int .i64 bl, .int .i64 bh], .int .i64 c] w fun e w' => e = .returned (.tuple #[.agg #[.int .i64 (overQ al ah bl bh c).1, .int .i64 (overQ al ah bl bh c).2.1], .int .i64 (overQ al ah bl bh c).2.2]) ∧ Below w.heap.size w w' := by
  have R1 := fun W => refRange_any al ah W
  have R2 := fun W => refRange_any bl bh W
  unfold overQ
  cases h1 : rangeOk (al, ah) with
  | false => rw [h1] at R1; rw [two_ok, h1, Bool.false_and, if_pos rfl]; exact refOver_bad1 al ah bl bh c w R1
  | true =>
    rw [h1] at R1
    cases h2 : rangeOk (bl, bh) with
    | false => rw [h2] at R2; rw [two_ok, h1, h2, Bool.and_false, if_pos rfl]; exact refOver_bad2 al ah bl bh c w R1 R2
    | true =>
      rw [h2] at R2
      have hh : [(al, ah), (bl, bh)].all rangeOk = true := by rw [two_ok, h1, h2]; rfl
      obtain ⟨⟨a0, a1, a2⟩, b0, b1, b2⟩ := range2_bounds hh
      rw [hh, if_neg (by simp)]
      by_cases c0 : c < 1
      · rw [if_pos (by simp [isDiv]; omega)]; exact refOver_bad3a al ah bl bh c w R1 R2 (decide_eq_true c0)
      · by_cases c1 : 1000000000000000 < c
        · rw [if_pos (by simp [isDiv]; omega)]; exact refOver_bad3b al ah bl bh c w R1 R2 (decide_eq_false c0) (decide_eq_true c1)
        · by_cases c2 : bl < 1
          · rw [if_pos (by simp [isDiv]; omega)]; exact refOver_bad3c al ah bl bh c w R1 R2 (decide_eq_false c0) (decide_eq_false c1) (decide_eq_true c2)
          · rw [if_neg (by simp [isDiv]; omega)]
            exact refOver_good al ah bl bh c _ _ _ w R1 R2 (hide fun a b ca cb W i1 i2 => spread_two al ah c bl c bh a0 (by omega) (by omega) a2 (by omega) (by omega) (by omega) (by omega) (by omega) (by omega) (by omega) b2 _ rfl a b ca cb W i1 i2) (decide_eq_false c0) (decide_eq_false c1) (decide_eq_false c2)
end Go.Proofs.Ytadnchcelocnaaa

namespace Go.Proofs.Ytadnchcelocnaaa
set_option linter.unusedSimpArgs false
set_option linter.unusedVariables false
open Go.RowKit

set_option maxRecDepth 100000 in
set_option maxHeartbeats 6400000 in
theorem unitsPairs_walk (al ah bl bh c : Int) (w : World) :
    Calls Try.prog 7 #[.agg #[.int .i64 al, .int .i64 ah], .agg #[.int .i64 bl, .int .i64 bh], .int .i64 c] w fun e w' => e = .returned (.bool true) ∧ Below w.heap.size w w' := by
  obtain ⟨A, hA⟩ : ∃ q, lessQ al ah bl bh = q := ⟨_, rfl⟩
  obtain ⟨B, hB⟩ : ∃ q, timesQ al ah bl bh c = q := ⟨_, rfl⟩
  obtain ⟨C, hC⟩ : ∃ q, overQ al ah bl bh c = q := ⟨_, rfl⟩
  obtain ⟨A1, A2, A3⟩ := A
  obtain ⟨B1, B2, B3⟩ := B
  obtain ⟨C1, C2, C3⟩ := C
  have F1 := hide fun w => by have := less_any al ah bl bh w; rw [hA] at this; exact this
  have F2 := hide fun w => by have := times_any al ah bl bh c w; rw [hB] at this; exact this
  have F3 := hide fun w => by have := over_any al ah bl bh c w; rw [hC] at this; exact this
  have G1 := hide fun w => by have := refLess_any al ah bl bh w; rw [hA] at this; exact this
  have G2 := hide fun w => by have := refTimes_any al ah bl bh c w; rw [hB] at this; exact this
  have G3 := hide fun w => by have := refOver_any al ah bl bh c w; rw [hC] at this; exact this
  clear hA hB hC
  go_enter Try.func7, Try.ntmps7
  go_wp2_with fail
  refine (F1.out _).mono ?_
  rintro e w1 ⟨rfl, hb1⟩
  have x0 := fun o => later (balloc (o := o) (Below.refl _ _)) (later hb1 (a := ⟨w.heap.size, 0, none⟩) (v := .int .i64 al) (by simp [go_sem, World.cell?_alloc_past]))
  have x1 := fun o => later (balloc (o := o) (Below.refl _ _)) (later hb1 (a := ⟨w.heap.size, 1, none⟩) (v := .int .i64 ah) (by simp [go_sem, World.cell?_alloc_past]))
  have x2 := fun o => later (balloc (o := o) (Below.refl _ _)) (later hb1 (a := ⟨w.heap.size + 1, 0, none⟩) (v := .int .i64 bl) (by simp [go_sem, World.cell?_alloc_past]))
  have x3 := fun o => later (balloc (o := o) (Below.refl _ _)) (later hb1 (a := ⟨w.heap.size + 1, 1, none⟩) (v := .int .i64 bh) (by simp [go_sem, World.cell?_alloc_past]))
  go_wp2_with fail
  refine (F2.out _).mono ?_
  rintro e w2 ⟨rfl, hb2⟩
  have y0 := fun o => later (balloc (o := o) (Below.refl _ _)) (later hb2 (x0 _))
  have y1 := fun o => later (balloc (o := o) (Below.refl _ _)) (later hb2 (x1 _))
  have y2 := fun o => later (balloc (o := o) (Below.refl _ _)) (later hb2 (x2 _))
  have y3 := fun o => later (balloc (o := o) (Below.refl _ _)) (later hb2 (x3 _))
  have y4 := fun o => later (balloc (o := o) (Below.refl _ _)) (later hb2 (a := ⟨w1.heap.size, 0, none⟩) (v := .int .i64 A1) (by simp [go_sem, World.cell?_alloc_past]))
  have y5 := fun o => later (balloc (o := o) (Below.refl _ _)) (later hb2 (a := ⟨w1.heap.size, 1, none⟩) (v := .int .i64 A2) (by simp [go_sem, World.cell?_alloc_past]))
  clear x0 x1 x2 x3
  go_wp2_with fail
  refine (F3.out _).mono ?_
  rintro e w3 ⟨rfl, hb3⟩
  have x0 := fun o => later (balloc (o := o) (Below.refl _ _)) (later hb3 (y0 _))
  have x1 := fun o => later (balloc (o := o) (Below.refl _ _)) (later hb3 (y1 _))
  have x2 := fun o => later (balloc (o := o) (Below.refl _ _)) (later hb3 (y2 _))
  have x3 := fun o => later (balloc (o := o) (Below.refl _ _)) (later hb3 (y3 _))
  have x4 := fun o => later (balloc (o := o) (Below.refl _ _)) (later hb3 (y4 _))
  have x5 := fun o => later (balloc (o := o) (Below.refl _ _)) (later hb3 (y5 _))
  have x6 := fun o => later (balloc (o := o) (Below.refl _ _)) (later hb3 (a := ⟨w2.heap.size, 0, none⟩) (v := .int .i64 B1) (by simp [go_sem, World.cell?_alloc_past]))
  have x7 := fun o => later (balloc (o := o) (Below.refl _ _)) (later hb3 (a := ⟨w2.heap.size, 1, none⟩) (v := .int .i64 B2) (by simp [go_sem, World.cell?_alloc_past]))
  clear y0 y1 y2 y3 y4 y5
  go_wp2_with fail
  refine (G1.out _).mono ?_
  rintro e w4 ⟨rfl, hb4⟩
  have y0 := fun o => later (balloc (o := o) (Below.refl _ _)) (later hb4 (x0 _))
  have y1 := fun o => later (balloc (o := o) (Below.refl _ _)) (later hb4 (x1 _))
  have y2 := fun o => later (balloc (o := o) (Below.refl _ _)) (later hb4 (x2 _))
  have y3 := fun o => later (balloc (o := o) (Below.refl _ _)) (later hb4 (x3 _))
  have y4 := fun o => later (balloc (o := o) (Below.refl _ _)) (later hb4 (x4 _))
  have y5 := fun o => later (balloc (o := o) (Below.refl _ _)) (later hb4 (x5 _))
  have y6 := fun o => later (balloc (o := o) (Below.refl _ _)) (later hb4 (x6 _))
  have y7 := fun o => later (balloc (o := o) (Below.refl _ _)) (later hb4 (x7 _))
  have y8 := fun o => later (balloc (o := o) (Below.refl _ _)) (later hb4 (a := ⟨w3.heap.size, 0, none⟩) (v := .int .i64 C1) (by simp [go_sem, World.cell?_alloc_past]))
  have y9 := fun o => later (balloc (o := o) (Below.refl _ _)) (later hb4 (a := ⟨w3.heap.size, 1, none⟩) (v := .int .i64 C2) (by simp [go_sem, World.cell?_alloc_past]))
  clear x0 x1 x2 x3 x4 x5 x6 x7
  go_wp2_with fail
  refine (G2.out _).mono ?_
  rintro e w5 ⟨rfl, hb5⟩
  have x0 := fun o => later (balloc (o := o) (Below.refl _ _)) (later hb5 (y0 _))
  have x1 := fun o => later (balloc (o := o) (Below.refl _ _)) (later hb5 (y1 _))
  have x2 := fun o => later (balloc (o := o) (Below.refl _ _)) (later hb5 (y2 _))
  have x3 := fun o => later (balloc (o := o) (Below.refl _ _)) (later hb5 (y3 _))
  have x4 := fun o => later (balloc (o := o) (Below.refl _ _)) (later hb5 (y4 _))
  have x5 := fun o => later (balloc (o := o) (Below.refl _ _)) (later hb5 (y5 _))
  have x6 := fun o => later (balloc (o := o) (Below.refl _ _)) (later hb5 (y6 _))
  have x7 := fun o => later (balloc (o := o) (Below.refl _ _)) (later hb5 (y7 _))
  have x8 := fun o => later (balloc (o := o) (Below.refl _ _)) (later hb5 (y8 _))
  have x9 := fun o => later (balloc (o := o) (Below.refl _ _)) (later hb5 (y9 _))
  have x10 := fun o => later (balloc (o := o) (Below.refl _ _)) (later hb5 (a := ⟨w4.heap.size, 0, none⟩) (v := .int .i64 A1) (by simp [go_sem, World.cell?_alloc_past]))
  have x11 := fun o => later (balloc (o := o) (Below.refl _ _)) (later hb5 (a := ⟨w4.heap.size, 1, none⟩) (v := .int .i64 A2) (by simp [go_sem, World.cell?_alloc_past]))
  clear y0 y1 y2 y3 y4 y5 y6 y7 y8 y9
  go_wp2_with fail
  refine (G3.out _).mono ?_
  rintro e w6 ⟨rfl, hb6⟩
  have y4 := fun o => later (balloc (o := o) (Below.refl _ _)) (later hb6 (x4 _))
  have y5 := fun o => later (balloc (o := o) (Below.refl _ _)) (later hb6 (x5 _))
  have y6 := fun o => later (balloc (o := o) (Below.refl _ _)) (later hb6 (x6 _))
  have y7 := fun o => later (balloc (o := o) (Below.refl _ _)) (later hb6 (x7 _))
  have y8 := fun o => later (balloc (o := o) (Below.refl _ _)) (later hb6 (x8 _))
  have y9 := fun o => later (balloc (o := o) (Below.refl _ _)) (later hb6 (x9 _))
  have y10 := fun o => later (balloc (o := o) (Below.refl _ _)) (later hb6 (x10 _))
  have y11 := fun o => later (balloc (o := o) (Below.refl _ _)) (later hb6 (x11 _))
  have y12 := fun o => later (balloc (o := o) (Below.refl _ _)) (later hb6 (a := ⟨w5.heap.size, 0, none⟩) (v := .int .i64 B1) (by simp [go_sem, World.cell?_alloc_past]))
  have y13 := fun o => later (balloc (o := o) (Below.refl _ _)) (later hb6 (a := ⟨w5.heap.size, 1, none⟩) (v := .int .i64 B2) (by simp [go_sem, World.cell?_alloc_past]))
  clear x0 x1 x2 x3 x4 x5 x6 x7 x8 x9 x10 x11
  go_wp2_with fail
  refine (known_any _).mono ?_
  rintro e w7 ⟨rfl, hb7⟩
  go_wp2_with fail
  go_ret
  exact ⟨rfl, (by repeat (first | exact Below.refl _ _ | assumption | apply balloc | apply bdrew | (refine bset ?_ (by first | (simp; done) | omega | (simp; omega)) _) | (refine bnext ?_ (by assumption))))⟩
end Go.Proofs.Ytadnchcelocnaaa

namespace Go.Proofs.Ytadnchcelocnaaa
set_option linter.unusedSimpArgs false
set_option linter.unusedVariables false
open Go.RowKit

theorem ret_ii {a b a' b' : Int} (h1 : a = a') (h2 : b = b') : Ending.returned (.tuple #[.int .i64 a, .int .i64 b]) = .returned (.tuple #[.int .i64 a', .int .i64 b']) := by rw [h1, h2]
theorem ret_i {a a' : Int} (h1 : a = a') : Ending.returned (.int .i64 a) = .returned (.int .i64 a') := by rw [h1]
theorem tdiv_floor {a b : Int} (h : 1 ≤ b) : (0 ≤ a.tmod b → a / b = a.tdiv b ∧ a % b = a.tmod b) ∧ (a.tmod b < 0 → a / b = a.tdiv b - 1 ∧ a % b = a.tmod b + b) := by
  have e := Int.mul_tdiv_add_tmod a b
  have b1 := Int.tmod_lt_of_pos a (show 0 < b by omega)
  have b2 : -b < a.tmod b := by
    have := Int.tmod_lt_of_pos (-a) (show 0 < b by omega)
    rw [Int.neg_tmod] at this
    omega
  refine ⟨fun h => (Int.ediv_emod_unique (by omega)).2 ⟨by omega, h, b1⟩, fun h => (Int.ediv_emod_unique (by omega)).2 ⟨?_, by omega, by omega⟩⟩
  rw [Int.mul_sub, Int.mul_one]
  omega
theorem tdiv_bounds {a b : Int} (h : 1 ≤ b) (a0 : -1000000000000000 ≤ a) (a1 : a ≤ 1000000000000000) : -1000000000000000 ≤ a.tdiv b ∧ a.tdiv b ≤ 1000000000000000 := by
  have e := Int.natAbs_tdiv_le_natAbs a b
  omega

set_option maxHeartbeats 1600000 in
theorem whole_any (a b : Int) (w : World) (a0 : -1000000000000000 ≤ a) (a1 : a ≤ 1000000000000000) (b0 : 1 ≤ b) (b1 : b ≤ 1000000000000000) :
    Calls Try.prog 121 #[.int .i64 a, .int .i64 b] w fun e w' => e = .returned (.tuple #[.int .i64 (a / b), .int .i64 (a % b)]) ∧ Below w.heap.size w w' := by
  obtain ⟨t0, t1⟩ := tdiv_floor (a := a) b0
  obtain ⟨d0, d1⟩ := tdiv_bounds b0 a0 a1
  have m1 := Int.tmod_lt_of_pos a (show 0 < b by omega)
  have m2 : -b < a.tmod b := by
    have := Int.tmod_lt_of_pos (-a) (show 0 < b by omega)
    rw [Int.neg_tmod] at this
    omega
  have hz : (b == 0) = false := by simp; omega
  obtain ⟨q, hq⟩ : ∃ q, a / b = q := ⟨_, rfl⟩
  obtain ⟨r, hr⟩ : ∃ r, a % b = r := ⟨_, rfl⟩
  by_cases h : 0 ≤ a.tmod b
  · obtain ⟨e1, e2⟩ := t0 h
    have E1 := hide (e1.symm.trans hq)
    have E2 := hide (e2.symm.trans hr)
    rw [hq, hr]
    clear t0 t1 e1 e2 hq hr
    by_cases hA : 0 ≤ a
    · have f1 : a.tdiv b = a / b := Int.tdiv_eq_ediv_of_nonneg hA
      have f2 : a.tmod b = a % b := Int.tmod_eq_emod_of_nonneg hA
      rw [f1] at E1
      rw [f2] at E2 h m1 m2
      clear f1 f2 d0 d1
      have g1 := Int.ediv_le_self b hA
      have g0 := Int.ediv_nonneg hA (show 0 ≤ b by omega)
      have d : decide (a % b < 0) = false := decide_eq_false (by omega)
      go_enter Try.func121, Try.ntmps121
      go_wp2_with fail
      go_quiet (fail)
      go_wp2_with fail
      go_ret2
      exact ⟨ret_ii E1.out E2.out, below_drewN (Below.refl _ _) _⟩
    · have d : decide (a.tmod b < 0) = false := decide_eq_false (by omega)
      go_enter Try.func121, Try.ntmps121
      go_wp2_with fail
      go_quiet (fail)
      go_wp2_with fail
      go_ret2
      exact ⟨ret_ii E1.out E2.out, below_drewN (Below.refl _ _) _⟩
  · obtain ⟨e1, e2⟩ := t1 (by omega)
    have E1 := hide (e1.symm.trans hq)
    have E2 := hide (e2.symm.trans hr)
    rw [hq, hr]
    have hA : ¬ 0 ≤ a := by
      intro hA
      have := Int.tmod_eq_emod_of_nonneg (b := b) hA
      have := Int.emod_nonneg a (show b ≠ 0 by omega)
      omega
    clear t0 t1 e1 e2 hq hr
    have d : decide (a.tmod b < 0) = true := decide_eq_true (by omega)
    go_enter Try.func121, Try.ntmps121
    go_wp2_with fail
    go_quiet (fail)
    go_wp2_with fail
    go_ret2
    exact ⟨ret_ii E1.out E2.out, below_drewN (Below.refl _ _) _⟩
theorem sgn3_lt {x y : Int} (h : x < y) : sgn3 x y = -1 := by unfold sgn3; rw [if_pos h]
theorem sgn3_gt {x y : Int} (h : y < x) : sgn3 x y = 1 := by unfold sgn3; rw [if_neg (by omega), if_neg (by omega)]
theorem sgn3_eq {x y : Int} (h : x = y) : sgn3 x y = 0 := by unfold sgn3; rw [if_neg (by omega), if_pos h]
theorem sgn3_add {x y z x' y' : Int} (h1 : x' = z + x) (h2 : y' = z + y) : sgn3 x' y' = sgn3 x y := by
  unfold sgn3
  by_cases h : x < y
  · rw [if_pos h, if_pos (by omega)]
  · by_cases h3 : x = y
    · rw [if_neg h, if_pos h3, if_neg (by omega), if_pos (by omega)]
    · rw [if_neg h, if_neg h3, if_neg (by omega), if_neg (by omega)]
/-- Fractions are compared by their whole parts, and then by what is left. -/
theorem by_parts {a b c d p r q s : Int} (b0 : 1 ≤ b) (d0 : 1 ≤ d) (hp : a / b = p) (hr : a % b = r) (hq : c / d = q) (hs : c % d = s) :
    (p < q → sgn3 (a * d) (c * b) = -1) ∧ (q < p → sgn3 (a * d) (c * b) = 1) ∧ (p = q → sgn3 (a * d) (c * b) = sgn3 (r * d) (s * b)) := by
  have ea := Int.mul_ediv_add_emod a b
  have ec := Int.mul_ediv_add_emod c d
  have r0 := Int.emod_nonneg a (show b ≠ 0 by omega)
  have r1 := Int.emod_lt_of_pos a (show 0 < b by omega)
  have s0 := Int.emod_nonneg c (show d ≠ 0 by omega)
  have s1 := Int.emod_lt_of_pos c (show 0 < d by omega)
  rw [hp, hr] at ea
  rw [hq, hs] at ec
  rw [hr] at r0 r1
  rw [hs] at s0 s1
  have e1 : a * d = p * (b * d) + r * d := by rw [← ea, Int.add_mul, Int.mul_comm b p, Int.mul_assoc]
  have e2 : c * b = q * (b * d) + s * b := by rw [← ec, Int.add_mul, Int.mul_comm d q, Int.mul_assoc, Int.mul_comm d b]
  have bd : 0 < b * d := Int.mul_pos (by omega) (by omega)
  have u0 : 0 ≤ r * d := Int.mul_nonneg r0 (by omega)
  have v0 : 0 ≤ s * b := Int.mul_nonneg s0 (by omega)
  have u1 : r * d < b * d := Int.mul_lt_mul_of_pos_right r1 (by omega)
  have v1 : s * b < b * d := by rw [Int.mul_comm b d]; exact Int.mul_lt_mul_of_pos_right s1 (by omega)
  refine ⟨fun h => sgn3_lt ?_, fun h => sgn3_gt ?_, fun h => sgn3_add (z := p * (b * d)) e1 (by rw [e2, h])⟩
  · have : (p + 1) * (b * d) ≤ q * (b * d) := Int.mul_le_mul_of_nonneg_right (by omega) (by omega)
    rw [Int.add_mul, Int.one_mul] at this
    omega
  · have : (q + 1) * (b * d) ≤ p * (b * d) := Int.mul_le_mul_of_nonneg_right (by omega) (by omega)
    rw [Int.add_mul, Int.one_mul] at this
    omega

set_option maxHeartbeats 3200000 in
theorem cmp_any : ∀ (k : Nat) (a b c d : Int) (w : World), -1000000000000000 ≤ a → a ≤ 1000000000000000 → 1 ≤ b → b ≤ 1000000000000000 → -1000000000000000 ≤ c → c ≤ 1000000000000000 → 1 ≤ d → d ≤ 1000000000000000 → b + d ≤ k →
    Calls Try.prog 80 #[.int .i64 a, .int .i64 b, .int .i64 c, .int .i64 d] w fun e w' => e = .returned (.int .i64 (sgn3 (a * d) (c * b))) ∧ Below w.heap.size w w'
  | 0, a, b, c, d, w, _, _, b0, _, _, _, d0, _, hk => by omega
  | k + 1, a, b, c, d, w, a0, a1, b0, b1, c0, c1, d0, d1, hk => by
    have W1 := hide fun w => whole_any a b w a0 a1 b0 b1
    have W2 := hide fun w => whole_any c d w c0 c1 d0 d1
    have r0 := Int.emod_nonneg a (show b ≠ 0 by omega)
    have r1 := Int.emod_lt_of_pos a (show 0 < b by omega)
    have s0 := Int.emod_nonneg c (show d ≠ 0 by omega)
    have s1 := Int.emod_lt_of_pos c (show 0 < d by omega)
    obtain ⟨p, hp⟩ : ∃ p, a / b = p := ⟨_, rfl⟩
    obtain ⟨r, hr⟩ : ∃ r, a % b = r := ⟨_, rfl⟩
    obtain ⟨q, hq⟩ : ∃ q, c / d = q := ⟨_, rfl⟩
    obtain ⟨s, hs⟩ : ∃ s, c % d = s := ⟨_, rfl⟩
    obtain ⟨t1, t2, t3⟩ := by_parts b0 d0 hp hr hq hs
    have again := hide fun h1 h2 w => cmp_any k d s b r w (by omega) d1 h1 (by omega) (by omega) b1 h2 (by omega) (by omega)
    rw [hp, hr] at W1
    rw [hq, hs] at W2
    rw [hr] at r0 r1
    rw [hs] at s0 s1
    clear hp hr hq hs
    by_cases h1 : p < q
    · have E := hide (t1 h1)
      have k1 : decide (p < q) = true := decide_eq_true h1
      clear t1 t2 t3
      go_enter Try.func80, Try.ntmps80
      go_wp2_with fail
      refine (W1.out _).mono ?_
      rintro e w1 ⟨rfl, hb1⟩
      go_wp2_with fail
      refine (W2.out _).mono ?_
      rintro e w2 ⟨rfl, hb2⟩
      go_wp2_with fail
      go_ret
      exact ⟨ret_i E.out.symm, (by repeat (first | exact Below.refl _ _ | assumption | apply balloc | apply bdrew | (refine bset ?_ (by first | (simp; done) | omega | (simp; omega)) _) | (refine bnext ?_ (by assumption))))⟩
    · by_cases h2 : q < p
      · have E := hide (t2 h2)
        have k1 : decide (p < q) = false := decide_eq_false h1
        have k2 : decide (q < p) = true := decide_eq_true h2
        clear t1 t2 t3
        go_enter Try.func80, Try.ntmps80
        go_wp2_with fail
        refine (W1.out _).mono ?_
        rintro e w1 ⟨rfl, hb1⟩
        go_wp2_with fail
        refine (W2.out _).mono ?_
        rintro e w2 ⟨rfl, hb2⟩
        go_wp2_with fail
        go_ret
        exact ⟨ret_i E.out.symm, (by repeat (first | exact Below.refl _ _ | assumption | apply balloc | apply bdrew | (refine bset ?_ (by first | (simp; done) | omega | (simp; omega)) _) | (refine bnext ?_ (by assumption))))⟩
      · obtain rfl : p = q := by omega
        have E := hide (t3 rfl)
        clear t1 t2 t3
        by_cases h3 : r = 0
        · subst h3
          by_cases h4 : s = 0
          · subst h4
            have F := hide (E.out.trans (by simp [sgn3] : _ = (0 : Int)))
            go_enter Try.func80, Try.ntmps80
            go_wp2_with fail
            refine (W1.out _).mono ?_
            rintro e w1 ⟨rfl, hb1⟩
            go_wp2_with fail
            refine (W2.out _).mono ?_
            rintro e w2 ⟨rfl, hb2⟩
            go_wp2_with fail
            go_ret
            exact ⟨ret_i F.out.symm, (by repeat (first | exact Below.refl _ _ | assumption | apply balloc | apply bdrew | (refine bset ?_ (by first | (simp; done) | omega | (simp; omega)) _) | (refine bnext ?_ (by assumption))))⟩
          · have hpos : 0 * d < s * b := by rw [Int.zero_mul]; exact Int.mul_pos (by omega) (by omega)
            have F := hide (E.out.trans (sgn3_lt hpos))
            have k3 : (s == 0) = false := by simpa using h4
            clear hpos h4
            go_enter Try.func80, Try.ntmps80
            go_wp2_with fail
            refine (W1.out _).mono ?_
            rintro e w1 ⟨rfl, hb1⟩
            go_wp2_with fail
            refine (W2.out _).mono ?_
            rintro e w2 ⟨rfl, hb2⟩
            go_wp2_with fail
            go_ret
            exact ⟨ret_i F.out.symm, (by repeat (first | exact Below.refl _ _ | assumption | apply balloc | apply bdrew | (refine bset ?_ (by first | (simp; done) | omega | (simp; omega)) _) | (refine bnext ?_ (by assumption))))⟩
        · have k3 : (r == 0) = false := by simpa using h3
          by_cases h4 : s = 0
          · subst h4
            have hpos : 0 * b < r * d := by rw [Int.zero_mul]; exact Int.mul_pos (by omega) (by omega)
            have F := hide (E.out.trans (sgn3_gt hpos))
            clear hpos h3
            go_enter Try.func80, Try.ntmps80
            go_wp2_with fail
            refine (W1.out _).mono ?_
            rintro e w1 ⟨rfl, hb1⟩
            go_wp2_with fail
            refine (W2.out _).mono ?_
            rintro e w2 ⟨rfl, hb2⟩
            go_wp2_with fail
            go_ret
            exact ⟨ret_i F.out.symm, (by repeat (first | exact Below.refl _ _ | assumption | apply balloc | apply bdrew | (refine bset ?_ (by first | (simp; done) | omega | (simp; omega)) _) | (refine bnext ?_ (by assumption))))⟩
          · have k4 : (s == 0) = false := by simpa using h4
            have R := hide fun w => again.out (by omega) (by omega) w
            have F := hide (E.out.trans (by rw [Int.mul_comm r d, Int.mul_comm s b] : _ = sgn3 (d * r) (b * s)))
            clear h3 h4
            go_enter Try.func80, Try.ntmps80
            go_wp2_with fail
            refine (W1.out _).mono ?_
            rintro e w1 ⟨rfl, hb1⟩
            go_wp2_with fail
            refine (W2.out _).mono ?_
            rintro e w2 ⟨rfl, hb2⟩
            go_wp2_with fail
            refine (R.out _).mono ?_
            rintro e w3 ⟨rfl, hb3⟩
            go_wp2_with fail
            go_ret
            exact ⟨ret_i F.out.symm, (by repeat (first | exact Below.refl _ _ | assumption | apply balloc | apply bdrew | (refine bset ?_ (by first | (simp; done) | omega | (simp; omega)) _) | (refine bnext ?_ (by assumption))))⟩

theorem refCompare_any (an ad bn bd : Int) (w : World) (a0 : -1000000000000000 ≤ an) (a1 : an ≤ 1000000000000000) (a2 : 1 ≤ ad) (a3 : ad ≤ 1000000000000000) (b0 : -1000000000000000 ≤ bn) (b1 : bn ≤ 1000000000000000) (b2 : 1 ≤ bd) (b3 : bd ≤ 1000000000000000) :
    Calls Try.prog 25 #[.agg #[.int .i64 an, .int .i64 ad], .agg #[.int .i64 bn, .int .i64 bd]] w fun e w' => e = .returned (.int .i64 (sgn3 (an * bd) (bn * ad))) ∧ Below w.heap.size w w' := by
  have C := hide fun w => cmp_any 2000000000000000 an ad bn bd w a0 a1 a2 a3 b0 b1 b2 b3 (by omega)
  clear a0 a1 a2 a3 b0 b1 b2 b3
  go_enter Try.func25, Try.ntmps25
  go_wp2_with fail
  refine (C.out _).mono ?_
  rintro e w1 ⟨rfl, hb1⟩
  go_wp2_with fail
  go_ret
  exact ⟨rfl, (by repeat (first | exact Below.refl _ _ | assumption | apply balloc | apply bdrew | (refine bset ?_ (by first | (simp; done) | omega | (simp; omega)) _) | (refine bnext ?_ (by assumption))))⟩
theorem refFrac_go (n d : Int) (w : World) (k1 k2 k3 : Bool) (N : Hid (Num n k1)) (h2 : decide (1 ≤ d) = k2) (h3 : decide (d ≤ 1000000000000000) = k3) :
    Calls Try.prog 24 #[.agg #[.int .i64 n, .int .i64 d]] w fun e w' => e = .returned (.bool (k1 && (k2 && k3))) ∧ Below w.heap.size w w' := by
  cases k1
  · go_enter Try.func24, Try.ntmps24
    go_wp2_with fail
    refine (N.out _).mono ?_
    rintro e w1 ⟨rfl, rfl⟩
    go_wp2_with fail
    go_ret
    exact ⟨rfl, (by repeat (first | exact Below.refl _ _ | assumption | apply balloc | apply bdrew | (refine bset ?_ (by first | (simp; done) | omega | (simp; omega)) _) | (refine bnext ?_ (by assumption))))⟩
  · cases k2 <;> cases k3
    all_goals
      go_enter Try.func24, Try.ntmps24
      go_wp2_with fail
      refine (N.out _).mono ?_
      rintro e w1 ⟨rfl, rfl⟩
      go_wp2_with fail
      go_ret
      exact ⟨rfl, (by repeat (first | exact Below.refl _ _ | assumption | apply balloc | apply bdrew | (refine bset ?_ (by first | (simp; done) | omega | (simp; omega)) _) | (refine bnext ?_ (by assumption))))⟩
theorem refFrac_any (n d : Int) (w : World) :
    Calls Try.prog 24 #[.agg #[.int .i64 n, .int .i64 d]] w fun e w' => e = .returned (.bool (fracOk (n, d))) ∧ Below w.heap.size w w' := by
  have h := refFrac_go n d w _ _ _ (num_of rfl) rfl rfl
  have e : fracOk (n, d) = (allIn 1000000000000000 [n] && (decide (1 ≤ d) && decide (d ≤ 1000000000000000))) := by
    simp only [fracOk, isDiv]
  rwa [e]

set_option maxHeartbeats 3200000 in
theorem compares_bad (an ad bn bd : Int) (w : World) (C : Hid (Cmp an ad bn bd 0 2))
    (H : fracOk (an, ad) = false ∨ (fracOk (an, ad) = true ∧ fracOk (bn, bd) = false)) :
    Calls Try.prog 4 #[.agg #[.int .i64 an, .int .i64 ad], .agg #[.int .i64 bn, .int .i64 bd]] w fun e w' => e = .returned (.bool true) ∧ Below w.heap.size w w' := by
  have F1 := fun w => refFrac_any an ad w
  have F2 := fun w => refFrac_any bn bd w
  rcases H with h1 | ⟨h1, h2⟩
  · rw [h1] at F1
    have G1 := hide F1
    clear F1 F2 h1
    go_enter Try.func4, Try.ntmps4
    go_wp2_with fail
    refine (C.out _).mono ?_
    rintro e w1 ⟨rfl, hb1⟩
    have p0 := later hb1 (a := ⟨w.heap.size, 0, none⟩) (v := .int .i64 an) (by simp [go_sem, World.cell?_alloc_past])
    have p1 := later hb1 (a := ⟨w.heap.size, 1, none⟩) (v := .int .i64 ad) (by simp [go_sem, World.cell?_alloc_past])
    go_wp2_with fail
    refine (G1.out _).mono ?_
    rintro e w2 ⟨rfl, hb2⟩
    go_wp2_with fail
    refine (known_any _).mono ?_
    rintro e w3 ⟨rfl, hb3⟩
    go_wp2_with fail
    go_ret
    exact ⟨rfl, (by repeat (first | exact Below.refl _ _ | assumption | apply balloc | apply bdrew | (refine bset ?_ (by first | (simp; done) | omega | (simp; omega)) _) | (refine bnext ?_ (by assumption))))⟩
  · rw [h1] at F1
    rw [h2] at F2
    have G1 := hide F1
    have G2 := hide F2
    clear F1 F2 h1 h2
    go_enter Try.func4, Try.ntmps4
    go_wp2_with fail
    refine (C.out _).mono ?_
    rintro e w1 ⟨rfl, hb1⟩
    have p0 := later hb1 (a := ⟨w.heap.size, 0, none⟩) (v := .int .i64 an) (by simp [go_sem, World.cell?_alloc_past])
    have p1 := later hb1 (a := ⟨w.heap.size, 1, none⟩) (v := .int .i64 ad) (by simp [go_sem, World.cell?_alloc_past])
    have q0 := later hb1 (a := ⟨w.heap.size + 1, 0, none⟩) (v := .int .i64 bn) (by simp [go_sem, World.cell?_alloc_past])
    have q1 := later hb1 (a := ⟨w.heap.size + 1, 1, none⟩) (v := .int .i64 bd) (by simp [go_sem, World.cell?_alloc_past])
    go_wp2_with fail
    refine (G1.out _).mono ?_
    rintro e w2 ⟨rfl, hb2⟩
    have q0' := later hb2 q0
    have q1' := later hb2 q1
    go_wp2_with fail
    refine (G2.out _).mono ?_
    rintro e w4 ⟨rfl, hb4⟩
    go_wp2_with fail
    refine (known_any _).mono ?_
    rintro e w3 ⟨rfl, hb3⟩
    go_wp2_with fail
    go_ret
    exact ⟨rfl, (by repeat (first | exact Below.refl _ _ | assumption | apply balloc | apply bdrew | (refine bset ?_ (by first | (simp; done) | omega | (simp; omega)) _) | (refine bnext ?_ (by assumption))))⟩
set_option maxHeartbeats 3200000 in
theorem compares_good (an ad bn bd X : Int) (w : World) (C : Hid (Cmp an ad bn bd X 0)) (R : Hid (∀ w, Calls Try.prog 25 #[.agg #[.int .i64 an, .int .i64 ad], .agg #[.int .i64 bn, .int .i64 bd]] w fun e w' => e = .returned (.int .i64 X) ∧ Below w.heap.size w w'))
    (h1 : Hid (fracOk (an, ad) = true)) (h2 : Hid (fracOk (bn, bd) = true)) :
    Calls Try.prog 4 #[.agg #[.int .i64 an, .int .i64 ad], .agg #[.int .i64 bn, .int .i64 bd]] w fun e w' => e = .returned (.bool true) ∧ Below w.heap.size w w' := by
  have F1 := fun w => refFrac_any an ad w
  have F2 := fun w => refFrac_any bn bd w
  rw [h1.out] at F1
  rw [h2.out] at F2
  have G1 := hide F1
  have G2 := hide F2
  clear F1 F2
  go_enter Try.func4, Try.ntmps4
  go_wp2_with fail
  refine (C.out _).mono ?_
  rintro e w1 ⟨rfl, hb1⟩
  have p0 := later hb1 (a := ⟨w.heap.size, 0, none⟩) (v := .int .i64 an) (by simp [go_sem, World.cell?_alloc_past])
  have p1 := later hb1 (a := ⟨w.heap.size, 1, none⟩) (v := .int .i64 ad) (by simp [go_sem, World.cell?_alloc_past])
  have q0 := later hb1 (a := ⟨w.heap.size + 1, 0, none⟩) (v := .int .i64 bn) (by simp [go_sem, World.cell?_alloc_past])
  have q1 := later hb1 (a := ⟨w.heap.size + 1, 1, none⟩) (v := .int .i64 bd) (by simp [go_sem, World.cell?_alloc_past])
  go_wp2_with fail
  refine (G1.out _).mono ?_
  rintro e w2 ⟨rfl, hb2⟩
  have p0' := later hb2 p0
  have p1' := later hb2 p1
  have q0' := later hb2 q0
  have q1' := later hb2 q1
  clear p0 p1 q0 q1
  go_wp2_with fail
  refine (G2.out _).mono ?_
  rintro e w4 ⟨rfl, hb4⟩
  have p0 := later hb4 p0'
  have p1 := later hb4 p1'
  have q0 := later hb4 q0'
  have q1 := later hb4 q1'
  clear p0' p1' q0' q1'
  go_wp2_with fail
  refine (R.out _).mono ?_
  rintro e w5 ⟨rfl, hb5⟩
  go_wp2_with fail
  refine (known_any _).mono ?_
  rintro e w3 ⟨rfl, hb3⟩
  go_wp2_with fail
  go_ret
  exact ⟨rfl, (by repeat (first | exact Below.refl _ _ | assumption | apply balloc | apply bdrew | (refine bset ?_ (by first | (simp; done) | omega | (simp; omega)) _) | (refine bnext ?_ (by assumption))))⟩
theorem unitsCompares_walk (an ad bn bd : Int) (w : World) :
    Calls Try.prog 4 #[.agg #[.int .i64 an, .int .i64 ad], .agg #[.int .i64 bn, .int .i64 bd]] w fun e w' => e = .returned (.bool true) ∧ Below w.heap.size w w' := by
  cases h : frac2Ok an ad bn bd with
  | false =>
    refine compares_bad an ad bn bd w (cmp_of (compareQ_bad h)) ?_
    rw [frac2_and] at h
    cases h1 : fracOk (an, ad) with
    | false => exact .inl rfl
    | true => rw [h1, Bool.true_and] at h; exact .inr ⟨rfl, h⟩
  | true =>
    obtain ⟨⟨⟨a0, a1⟩, a2, a3⟩, ⟨b0, b1⟩, b2, b3⟩ := frac2_bounds h
    have h' := h
    rw [frac2_and, Bool.and_eq_true] at h'
    exact compares_good an ad bn bd _ w (cmp_of (compareQ_good h)) (fun w => refCompare_any an ad bn bd w a0 a1 a2 a3 b0 b1 b2 b3) h'.1 h'.2
end Go.Proofs.Ytadnchcelocnaaa

namespace Go.Proofs.Ytadnchcelocnaaa
set_option linter.unusedSimpArgs false
set_option linter.unusedVariables false
open Go.RowKit

/-- The conditions of Scale come to E. -/
def ScCond (al ah nu de E : Int) (k1 k2 : Bool) : Prop :=
  [(al, ah)].all rangeOk = k1 ∧ [(nu, de)].all fracOk = k2 ∧ ∀ f1 c1 f2 c2, firstE [⟨2, f1, c1, k1⟩, ⟨2, f2, c2, k2⟩] = E
/-- The fraction's and the result's cells. -/
def SSt (n : Nat) (nu de : Int) (w : World) : Prop := (w.cell? ⟨n + 1, 0, none⟩ = some (.int .i64 nu) ∧ w.cell? ⟨n + 1, 1, none⟩ = some (.int .i64 de)) ∧ w.cell? ⟨n + 1 + 1, 0, none⟩ = some (.int .i64 0) ∧ w.cell? ⟨n + 1 + 1, 1, none⟩ = some (.int .i64 0) ∧ w.frozen? ⟨n + 1 + 1, 0, none⟩ = false ∧ w.frozen? ⟨n + 1 + 1, 1, none⟩ = false
theorem sst_later {n : Nat} {nu de : Int} {w W : World} (h : SSt n nu de w) (hb : Below w.heap.size w W) : SSt n nu de W := by
  obtain ⟨⟨h1, h2⟩, h4, h5, h6, h7⟩ := h
  exact ⟨⟨later hb h1, later hb h2⟩, later hb h4, later hb h5, free_later hb h4 h6, free_later hb h5 h7⟩
theorem sst_touch {n b : Nat} {nu de : Int} {w W : World} (h : SSt n nu de w) (hb : Touch b w W) (hn : n + 1 + 1 < b) : SSt n nu de W := by
  obtain ⟨⟨h1, h2⟩, h4, h5, h6, h7⟩ := h
  exact ⟨⟨hb.cell (by simp; omega) h1, hb.cell (by simp; omega) h2⟩, hb.cell (by simp; omega) h4, hb.cell (by simp; omega) h5, hb.free (by simp; omega) h4 h6, hb.free (by simp; omega) h5 h7⟩

set_option maxHeartbeats 3200000 in
theorem scale_bad (al ah nu de E : Int) (k1 k2 : Bool) (w : World) (hE : (E == 0) = false) (hc : Hid (ScCond al ah nu de E k1 k2)) :
    Calls Try.prog 44 #[.agg #[.int .i64 al, .int .i64 ah], .agg #[.int .i64 nu, .int .i64 de]] w fun e w' => e = .returned (.tuple #[.agg #[.int .i64 0, .int .i64 0], .int .i64 E]) ∧ Below w.heap.size w w' := by
  go_enter Try.func44, Try.ntmps44
  go_upto_region 1 with fail
  go_cut [6] from 10 (fun s6 wx => s6 = .int .i64 E ∧ (wx.cell? ⟨w.heap.size, 0, none⟩ = some (.int .i64 al) ∧ wx.cell? ⟨w.heap.size, 1, none⟩ = some (.int .i64 ah)) ∧ SSt w.heap.size nu de wx ∧ Below w.heap.size w wx)
  case first =>
    go_region_held3 (fun w' => w'.cell? ⟨w.heap.size, 0, none⟩ = some (.int .i64 al) ∧ w'.cell? ⟨w.heap.size, 1, none⟩ = some (.int .i64 ah) ∧ w'.cell? ⟨w.heap.size + 1, 0, none⟩ = some (.int .i64 nu) ∧ w'.cell? ⟨w.heap.size + 1, 1, none⟩ = some (.int .i64 de) ∧ SSt w.heap.size nu de w' ∧ Below w.heap.size w w')
      (first | (refine ⟨?_, ?_, ?_, ?_, ⟨⟨?_, ?_⟩, ?_, ?_, ?_, ?_⟩, bdrew (balloc (balloc (balloc (Below.refl _ _))))⟩ <;> simp [go_sem, World.cell?_alloc_past]; done) | (go_split_ands; first | (exact ⟨later hbD (by assumption), later hbD (by assumption), later hbD (by assumption), later hbD (by assumption), sst_later (by assumption) hbD, bnext (by assumption) hbD⟩) | (exact ⟨later hbB (by assumption), later hbB (by assumption), later hbB (by assumption), later hbB (by assumption), sst_later (by assumption) hbB, bnext (by assumption) hbB⟩) | (exact ⟨later hbC (by assumption), later hbC (by assumption), later hbC (by assumption), later hbC (by assumption), sst_later (by assumption) hbC, bnext (by assumption) hbC⟩)) | (go_split_ands; exact ⟨later (balloc (Below.refl _ _)) (by assumption), later (balloc (Below.refl _ _)) (by assumption), later (balloc (Below.refl _ _)) (by assumption), later (balloc (Below.refl _ _)) (by assumption), sst_later (by assumption) (balloc (Below.refl _ _)), balloc (by assumption)⟩) | go_keep)
      (first
        | (go_at_call 86; refine (validRanges_ex k1 _ 1 1 [(al, ah)] _ hc.out.1 rfl (by simp) (pairs_one_of (by repeat (first | (simp [go_sem, World.cell?_alloc_past]; done) | refine later hbD ?_ | refine later hbC ?_ | refine later hbB ?_ | refine later hbA ?_ | refine later (balloc (Below.refl _ _)) ?_)) (by repeat (first | (simp [go_sem, World.cell?_alloc_past]; done) | refine later hbD ?_ | refine later hbC ?_ | refine later hbB ?_ | refine later hbA ?_ | refine later (balloc (Below.refl _ _)) ?_)))).mono ?_; rintro e wB ⟨rfl, hB, hbB⟩; (try simp at hB))
        | (go_at_call 78; refine (validFractions_ex k2 _ 1 1 [(nu, de)] _ hc.out.2.1 rfl (by simp) (pairs_one_of (by repeat (first | (simp [go_sem, World.cell?_alloc_past]; done) | refine later hbD ?_ | refine later hbC ?_ | refine later hbB ?_ | refine later hbA ?_ | refine later (balloc (Below.refl _ _)) ?_)) (by repeat (first | (simp [go_sem, World.cell?_alloc_past]; done) | refine later hbD ?_ | refine later hbC ?_ | refine later hbB ?_ | refine later hbA ?_ | refine later (balloc (Below.refl _ _)) ?_)))).mono ?_; rintro e wC ⟨rfl, hC, hbC⟩; (try simp at hC))
        | (go_at_call 67; go_loud (refine (firstError_is E [⟨2, 114, _, k1⟩, ⟨2, 114, _, k2⟩] _ _ _ (hc.out.2.2 _ _ _ _) (by simp) (by simp) (cnds_two_at (by simp)) (tells_two (cnd_later hB (by repeat (first | exact Below.refl _ _ | assumption | apply balloc | apply bdrew | (refine bnext ?_ (by assumption))))) (fun _ => cnd_later hC (by repeat (first | exact Below.refl _ _ | assumption | apply balloc | apply bdrew | (refine bnext ?_ (by assumption))))))).mono ?_); rintro e wD ⟨rfl, hbD⟩))
    all_goals (go_wp2_with fail; go_meet; exact ⟨rfl, ⟨by go_split_ands; assumption, by go_split_ands; assumption⟩, by go_split_ands; assumption, by go_split_ands; assumption⟩)
  case rest =>
    obtain ⟨rfl, ⟨c0, c1⟩, ⟨⟨c2, c3⟩, c4, c5, f4, f5⟩, hbw⟩ := hcut
    go_wp2_with fail
    exact bodyPost_ret (v := .tuple #[.agg #[.int .i64 0, .int .i64 0], .int .i64 E]) (by simp [results, Try.results44, go_sem, c4, c5]) rfl ⟨rfl, (by repeat (first | exact Below.refl _ _ | assumption | apply balloc | apply bdrew | (refine bset ?_ (by first | (simp; done) | omega | (simp; omega)) _) | (refine bnext ?_ (by assumption))))⟩
/-- What is gathered by Scale. -/
def gScale (al ah nu de : Int) : Gth := gQuo (gQuo ⟨0, 0, false, false⟩ al nu de) ah nu de
set_option maxHeartbeats 3200000 in
theorem scale_good (al ah nu de : Int) (w : World) (hc : Hid (ScCond al ah nu de 0 true true)) (a0 : -1000000000000000 ≤ al) (a1 : al ≤ 1000000000000000) (a2 : -1000000000000000 ≤ ah) (a3 : ah ≤ 1000000000000000)
    (b0 : -1000000000000000 ≤ nu) (b1 : nu ≤ 1000000000000000) (c0 : 1 ≤ de) (c1 : de ≤ 1000000000000000) :
    Calls Try.prog 44 #[.agg #[.int .i64 al, .int .i64 ah], .agg #[.int .i64 nu, .int .i64 de]] w fun e w' => e = .returned (.tuple #[.agg #[.int .i64 (gRes (gScale al ah nu de)).1, .int .i64 (gRes (gScale al ah nu de)).2.1], .int .i64 (gRes (gScale al ah nu de)).2.2]) ∧ Below w.heap.size w w' := by
  have i0 : ∀ (x y : Value) w, (Instr.index 128 (.agg #[x, y]) (.int .i64 0)).run Try.prog w = .ok x w := fun _ _ _ => by kernel_rfl
  have i1 : ∀ (x y : Value) w, (Instr.index 128 (.agg #[x, y]) (.int .i64 1)).run Try.prog w = .ok y w := fun _ _ _ => by kernel_rfl
  have Q1 := hide fun b g w hg => addQuotient_any b g al nu de w hg a0 a1 b0 b1 c0 c1
  have Q2 := hide fun b g w hg => addQuotient_any b g ah nu de w hg a2 a3 b0 b1 c0 c1
  clear a0 a1 a2 a3 b0 b1 c0 c1
  go_enter Try.func44, Try.ntmps44
  go_upto_region 1 with fail
  go_cut [6] from 10 (fun s6 wx => s6 = .int .i64 0 ∧ (wx.cell? ⟨w.heap.size, 0, none⟩ = some (.int .i64 al) ∧ wx.cell? ⟨w.heap.size, 1, none⟩ = some (.int .i64 ah)) ∧ SSt w.heap.size nu de wx ∧ Below w.heap.size w wx)
  case first =>
    go_region_held3 (fun w' => w'.cell? ⟨w.heap.size, 0, none⟩ = some (.int .i64 al) ∧ w'.cell? ⟨w.heap.size, 1, none⟩ = some (.int .i64 ah) ∧ w'.cell? ⟨w.heap.size + 1, 0, none⟩ = some (.int .i64 nu) ∧ w'.cell? ⟨w.heap.size + 1, 1, none⟩ = some (.int .i64 de) ∧ SSt w.heap.size nu de w' ∧ Below w.heap.size w w')
      (first | (refine ⟨?_, ?_, ?_, ?_, ⟨⟨?_, ?_⟩, ?_, ?_, ?_, ?_⟩, bdrew (balloc (balloc (balloc (Below.refl _ _))))⟩ <;> simp [go_sem, World.cell?_alloc_past]; done) | (go_split_ands; first | (exact ⟨later hbD (by assumption), later hbD (by assumption), later hbD (by assumption), later hbD (by assumption), sst_later (by assumption) hbD, bnext (by assumption) hbD⟩) | (exact ⟨later hbB (by assumption), later hbB (by assumption), later hbB (by assumption), later hbB (by assumption), sst_later (by assumption) hbB, bnext (by assumption) hbB⟩) | (exact ⟨later hbC (by assumption), later hbC (by assumption), later hbC (by assumption), later hbC (by assumption), sst_later (by assumption) hbC, bnext (by assumption) hbC⟩)) | (go_split_ands; exact ⟨later (balloc (Below.refl _ _)) (by assumption), later (balloc (Below.refl _ _)) (by assumption), later (balloc (Below.refl _ _)) (by assumption), later (balloc (Below.refl _ _)) (by assumption), sst_later (by assumption) (balloc (Below.refl _ _)), balloc (by assumption)⟩) | go_keep)
      (first
        | (go_at_call 86; refine (validRanges_ex true _ 1 1 [(al, ah)] _ hc.out.1 rfl (by simp) (pairs_one_of (by repeat (first | (simp [go_sem, World.cell?_alloc_past]; done) | refine later hbD ?_ | refine later hbC ?_ | refine later hbB ?_ | refine later hbA ?_ | refine later (balloc (Below.refl _ _)) ?_)) (by repeat (first | (simp [go_sem, World.cell?_alloc_past]; done) | refine later hbD ?_ | refine later hbC ?_ | refine later hbB ?_ | refine later hbA ?_ | refine later (balloc (Below.refl _ _)) ?_)))).mono ?_; rintro e wB ⟨rfl, hB, hbB⟩; (try simp at hB))
        | (go_at_call 78; refine (validFractions_ex true _ 1 1 [(nu, de)] _ hc.out.2.1 rfl (by simp) (pairs_one_of (by repeat (first | (simp [go_sem, World.cell?_alloc_past]; done) | refine later hbD ?_ | refine later hbC ?_ | refine later hbB ?_ | refine later hbA ?_ | refine later (balloc (Below.refl _ _)) ?_)) (by repeat (first | (simp [go_sem, World.cell?_alloc_past]; done) | refine later hbD ?_ | refine later hbC ?_ | refine later hbB ?_ | refine later hbA ?_ | refine later (balloc (Below.refl _ _)) ?_)))).mono ?_; rintro e wC ⟨rfl, hC, hbC⟩; (try simp at hC))
        | (go_at_call 67; go_loud (refine (firstError_is 0 [⟨2, 114, _, true⟩, ⟨2, 114, _, true⟩] _ _ _ (hc.out.2.2 _ _ _ _) (by simp) (by simp) (cnds_two_at (by simp)) (tells_two (cnd_later hB (by repeat (first | exact Below.refl _ _ | assumption | apply balloc | apply bdrew | (refine bnext ?_ (by assumption))))) (fun _ => cnd_later hC (by repeat (first | exact Below.refl _ _ | assumption | apply balloc | apply bdrew | (refine bnext ?_ (by assumption))))))).mono ?_); rintro e wD ⟨rfl, hbD⟩))
    all_goals (go_wp2_with fail; go_meet; exact ⟨rfl, ⟨by go_split_ands; assumption, by go_split_ands; assumption⟩, by go_split_ands; assumption, by go_split_ands; assumption⟩)
  case rest =>
    obtain ⟨rfl, ⟨c0, c1⟩, S1, hbw⟩ := hcut
    have ⟨⟨c2, c3⟩, c4, c5, f4, f5⟩ := S1
    have z4 : w.heap.size + 1 + 1 < wc.heap.size := World.block_lt_of_cell? _ _ c4
    have c0' := fun o => later (balloc (o := o) (Below.refl _ _)) c0
    have c1' := fun o => later (balloc (o := o) (Below.refl _ _)) c1
    go_wp2_with fail
    refine (ends_any _ _ _).mono ?_
    rintro e w2 ⟨rfl, hb2⟩
    have g2 := gat_later (b := wc.heap.size) (g := ⟨0, 0, false, false⟩) ⟨⟨(by simp [go_sem, World.cell?_alloc_past]), (by simp [go_sem, World.cell?_alloc_past]), (by simp [go_sem, World.cell?_alloc_past]), (by simp [go_sem, World.cell?_alloc_past])⟩, (by simp [go_sem, World.cell?_alloc_past]), (by simp [go_sem, World.cell?_alloc_past]), (by simp [go_sem, World.cell?_alloc_past]), (by simp [go_sem, World.cell?_alloc_past])⟩ hb2
    have S2 := sst_later (sst_later S1 (balloc (Below.refl _ _))) hb2
    have B2 : Below w.heap.size w w2 := bnext (balloc hbw) hb2
    clear c0' c1' c0 c1 c2 c3 c4 c5 f4 f5 S1 hb2
    go_wp2_with fail
    refine wp_loop_rounds 3 ?_
    rw [rounds_succ]
    have ⟨⟨d2, d3⟩, d4, d5, y4, y5⟩ := S2
    go_wp2_with fail
    refine (Q1.out _ _ _ g2).mono ?_
    rintro e w3 ⟨rfl, g3, t3⟩
    have S3 := sst_touch S2 t3 z4
    have B3 := t3.below B2 hbw.size
    clear d2 d3 d4 d5 y4 y5 S2 t3 g2
    go_wp2_with fail
    rw [rounds_succ]
    have ⟨⟨d2, d3⟩, d4, d5, y4, y5⟩ := S3
    go_wp2_with fail
    refine (Q2.out _ _ _ g3).mono ?_
    rintro e w4 ⟨rfl, g4, t4⟩
    have S4 := sst_touch S3 t4 z4
    have B4 := t4.below B3 hbw.size
    clear d2 d3 d4 d5 y4 y5 S3 t4 g3
    go_wp2_with fail
    rw [rounds_succ]
    have ⟨⟨a0, a1, a2, a3⟩, _⟩ := g4
    have ⟨⟨d2, d3⟩, d4, d5, y4, y5⟩ := S4
    go_wp2_with fail
    refine (result_any _ _).mono ?_
    rintro e w9 ⟨rfl, hb9⟩
    have ⟨_, e4, e5, e6, e7⟩ := sst_later S4 hb9
    clear d2 d3 d4 d5 y4 y5 a0 a1 a2 a3 S4
    go_wp2_with fail
    exact bodyPost_ret (v := .tuple #[.agg #[.int .i64 (gRes (gScale al ah nu de)).1, .int .i64 (gRes (gScale al ah nu de)).2.1], .int .i64 (gRes (gScale al ah nu de)).2.2]) (by simp [results, Try.results44, go_sem, e4, e5, gScale]) rfl ⟨rfl, (by repeat (first | exact Below.refl _ _ | assumption | apply balloc | apply bdrew | (refine bset ?_ (by first | (simp; done) | omega | (simp; omega)) _) | (refine bnext ?_ (by assumption))))⟩

/-- The results of Scale. -/
def scaleQ (al ah nu de : Int) : Int × Int × Int :=
  if rangeOk (al, ah) = false then (0, 0, 2) else if fracOk (nu, de) = false then (0, 0, 2) else gRes (gScale al ah nu de)
theorem range1_bounds {al ah : Int} (h : rangeOk (al, ah) = true) : -1000000000000000 ≤ al ∧ al ≤ ah ∧ ah ≤ 1000000000000000 := by
  simp [rangeOk, allIn] at h
  omega
theorem frac1_bounds {n d : Int} (h : fracOk (n, d) = true) : (-1000000000000000 ≤ n ∧ n ≤ 1000000000000000) ∧ 1 ≤ d ∧ d ≤ 1000000000000000 := by
  simp [fracOk, allIn, isDiv] at h
  omega
theorem scale_any (al ah nu de : Int) (w : World) :
    Calls Try.prog 44 #[.agg #[.int .i64 al, .int .i64 ah], .agg #[.int .i64 nu, .int .i64 de]] w fun e w' => e = .returned (.tuple #[.agg #[.int .i64 (scaleQ al ah nu de).1, .int .i64 (scaleQ al ah nu de).2.1], .int .i64 (scaleQ al ah nu de).2.2]) ∧ Below w.heap.size w w' := by
  unfold scaleQ
  have r1 : [(al, ah)].all rangeOk = rangeOk (al, ah) := by simp
  have r2 : [(nu, de)].all fracOk = fracOk (nu, de) := by simp
  cases h1 : rangeOk (al, ah) with
  | false =>
    rw [if_pos rfl]
    exact scale_bad al ah nu de 2 false _ w rfl (show ScCond al ah nu de 2 false _ from ⟨r1.trans h1, rfl, fun _ _ _ _ => rfl⟩)
  | true =>
    rw [if_neg (by simp)]
    cases h2 : fracOk (nu, de) with
    | false =>
      rw [if_pos rfl]
      exact scale_bad al ah nu de 2 true false w rfl (show ScCond al ah nu de 2 true false from ⟨r1.trans h1, r2.trans h2, fun _ _ _ _ => rfl⟩)
    | true =>
      rw [if_neg (by simp)]
      obtain ⟨a0, a1, a2⟩ := range1_bounds h1
      obtain ⟨⟨b0, b1⟩, b2, b3⟩ := frac1_bounds h2
      exact scale_good al ah nu de w (show ScCond al ah nu de 0 true true from ⟨r1.trans h1, r2.trans h2, fun _ _ _ _ => rfl⟩) a0 (by omega) (by omega) a2 b0 b1 b2 b3

theorem spread_one (al ah n1 d1 : Int) (a0 : -1000000000000000 ≤ al) (a1 : al ≤ 1000000000000000) (a2 : -1000000000000000 ≤ ah) (a3 : ah ≤ 1000000000000000) (h1 : -1000000000000000 ≤ n1) (h2 : n1 ≤ 1000000000000000) (h3 : 1 ≤ d1) (h4 : d1 ≤ 1000000000000000)
    (x : Int × Int × Int) (hx : gRes (gScale al ah n1 d1) = x) (a b : Option Addr) (ca cb : Nat) (w : World) (i1 : IsInts w a [al, ah]) (i2 : IsPairs w b [(n1, d1)]) :
    Calls Try.prog 100 #[.slice a 2 ca, .slice b 1 cb] w fun e w' => e = .returned (.tuple #[.agg #[.int .i64 x.1, .int .i64 x.2.1], .int .i64 x.2.2]) ∧ Below w.heap.size w w' := by
  have hq : ∀ i, i < 2 → 1 ≤ (qOf [al, ah] [(n1, d1)] 1 i).2.2 := by
    intro i hi
    match i, hi with
    | 0, _ => exact h3
    | 1, _ => exact h3
  have S := spread_is (qOf [al, ah] [(n1, d1)] 1) 1 hq
  have e : gRes (gF (qOf [al, ah] [(n1, d1)] 1) (1 + 1)) = x := hx
  rw [e] at S
  rw [S]
  refine spread_walk [al, ah] [(n1, d1)] a b ca cb 1 _ _ _ w rfl (by simp) (by omega) (hide ?_) (hide ?_) (hide fun W => fits_spr _ W) (hide i1) (hide i2)
  · intro i hi
    match i, hi with
    | 0, _ => exact ⟨a0, a1⟩
    | 1, _ => exact ⟨a2, a3⟩
  · intro i hi
    match i, hi with
    | 0, _ => exact ⟨⟨h1, h2⟩, h3, h4⟩

set_option maxHeartbeats 1600000 in
theorem refScale_bad1 (al ah nu de : Int) (w : World) (R1 : Hid (∀ W, Calls Try.prog 99 #[.agg #[.int .i64 al, .int .i64 ah]] W fun e w' => e = .returned (.bool false) ∧ Below W.heap.size W w')) :
    Calls Try.prog 45 #[.agg #[.int .i64 al, .int .i64 ah], .agg #[.int .i64 nu, .int .i64 de]] w fun e w' => e = .returned (.tuple #[.agg #[.int .i64 0, .int .i64 0], .int .i64 2]) ∧ Below w.heap.size w w' := by
  go_enter Try.func45, Try.ntmps45
  go_wp2_with fail
  refine (R1.out _).mono ?_
  rintro e w1 ⟨rfl, hb1⟩
  have c4 := later hb1 (a := ⟨w.heap.size + 1 + 1, 0, none⟩) (v := .int .i64 0) (by simp [go_sem, World.cell?_alloc_past])
  have c5 := later hb1 (a := ⟨w.heap.size + 1 + 1, 1, none⟩) (v := .int .i64 0) (by simp [go_sem, World.cell?_alloc_past])
  have f4 := free_later hb1 (a := ⟨w.heap.size + 1 + 1, 0, none⟩) (v := .int .i64 0) (by simp [go_sem, World.cell?_alloc_past]) (by simp [go_sem, World.cell?_alloc_past])
  have f5 := free_later hb1 (a := ⟨w.heap.size + 1 + 1, 1, none⟩) (v := .int .i64 0) (by simp [go_sem, World.cell?_alloc_past]) (by simp [go_sem, World.cell?_alloc_past])
  go_wp2_with fail
  exact bodyPost_ret (v := .tuple #[.agg #[.int .i64 0, .int .i64 0], .int .i64 2]) (by simp [results, Try.results45, go_sem, c4, c5]) rfl ⟨rfl, (by repeat (first | exact Below.refl _ _ | assumption | apply balloc | apply bdrew | (refine bset ?_ (by first | (simp; done) | omega | (simp; omega)) _) | (refine bnext ?_ (by assumption))))⟩
set_option maxHeartbeats 1600000 in
theorem refScale_bad2 (al ah nu de : Int) (w : World) (R1 : Hid (∀ W, Calls Try.prog 99 #[.agg #[.int .i64 al, .int .i64 ah]] W fun e w' => e = .returned (.bool true) ∧ Below W.heap.size W w')) (R2 : Hid (∀ W, Calls Try.prog 24 #[.agg #[.int .i64 nu, .int .i64 de]] W fun e w' => e = .returned (.bool false) ∧ Below W.heap.size W w')) :
    Calls Try.prog 45 #[.agg #[.int .i64 al, .int .i64 ah], .agg #[.int .i64 nu, .int .i64 de]] w fun e w' => e = .returned (.tuple #[.agg #[.int .i64 0, .int .i64 0], .int .i64 2]) ∧ Below w.heap.size w w' := by
  go_enter Try.func45, Try.ntmps45
  go_wp2_with fail
  refine (R1.out _).mono ?_
  rintro e w1 ⟨rfl, hb1⟩
  have c4 := later hb1 (a := ⟨w.heap.size + 1 + 1, 0, none⟩) (v := .int .i64 0) (by simp [go_sem, World.cell?_alloc_past])
  have c5 := later hb1 (a := ⟨w.heap.size + 1 + 1, 1, none⟩) (v := .int .i64 0) (by simp [go_sem, World.cell?_alloc_past])
  have f4 := free_later hb1 (a := ⟨w.heap.size + 1 + 1, 0, none⟩) (v := .int .i64 0) (by simp [go_sem, World.cell?_alloc_past]) (by simp [go_sem, World.cell?_alloc_past])
  have f5 := free_later hb1 (a := ⟨w.heap.size + 1 + 1, 1, none⟩) (v := .int .i64 0) (by simp [go_sem, World.cell?_alloc_past]) (by simp [go_sem, World.cell?_alloc_past])
  have c0 := later hb1 (a := ⟨w.heap.size, 0, none⟩) (v := .int .i64 al) (by simp [go_sem, World.cell?_alloc_past])
  have c1 := later hb1 (a := ⟨w.heap.size, 1, none⟩) (v := .int .i64 ah) (by simp [go_sem, World.cell?_alloc_past])
  have c2 := later hb1 (a := ⟨w.heap.size + 1, 0, none⟩) (v := .int .i64 nu) (by simp [go_sem, World.cell?_alloc_past])
  have c3 := later hb1 (a := ⟨w.heap.size + 1, 1, none⟩) (v := .int .i64 de) (by simp [go_sem, World.cell?_alloc_past])
  go_wp2_with fail
  refine (R2.out _).mono ?_
  rintro e w2 ⟨rfl, hb2⟩
  have e0 := later hb2 c0
  have e1 := later hb2 c1
  have e2 := fun o => later (balloc (o := o) (Below.refl _ _)) (later hb2 c2)
  have e3 := fun o => later (balloc (o := o) (Below.refl _ _)) (later hb2 c3)
  have ⟨d4, g4⟩ := cf_later hb2 ⟨c4, f4⟩
  have ⟨d5, g5⟩ := cf_later hb2 ⟨c5, f5⟩
  clear c0 c1 c2 c3 c4 c5 f4 f5
  go_wp2_with fail
  exact bodyPost_ret (v := .tuple #[.agg #[.int .i64 0, .int .i64 0], .int .i64 2]) (by simp [results, Try.results45, go_sem, d4, d5]) rfl ⟨rfl, (by repeat (first | exact Below.refl _ _ | assumption | apply balloc | apply bdrew | (refine bset ?_ (by first | (simp; done) | omega | (simp; omega)) _) | (refine bnext ?_ (by assumption))))⟩
set_option maxHeartbeats 1600000 in
theorem refScale_good (al ah nu de x y E : Int) (w : World) (R1 : Hid (∀ W, Calls Try.prog 99 #[.agg #[.int .i64 al, .int .i64 ah]] W fun e w' => e = .returned (.bool true) ∧ Below W.heap.size W w')) (R2 : Hid (∀ W, Calls Try.prog 24 #[.agg #[.int .i64 nu, .int .i64 de]] W fun e w' => e = .returned (.bool true) ∧ Below W.heap.size W w')) (F : Hid (∀ a b ca cb W, IsInts W a [al, ah] → IsPairs W b [(nu, de)] → Calls Try.prog 100 #[.slice a 2 ca, .slice b 1 cb] W fun e w' => e = .returned (.tuple #[.agg #[.int .i64 x, .int .i64 y], .int .i64 E]) ∧ Below W.heap.size W w')) :
    Calls Try.prog 45 #[.agg #[.int .i64 al, .int .i64 ah], .agg #[.int .i64 nu, .int .i64 de]] w fun e w' => e = .returned (.tuple #[.agg #[.int .i64 x, .int .i64 y], .int .i64 E]) ∧ Below w.heap.size w w' := by
  go_enter Try.func45, Try.ntmps45
  go_wp2_with fail
  refine (R1.out _).mono ?_
  rintro e w1 ⟨rfl, hb1⟩
  have c4 := later hb1 (a := ⟨w.heap.size + 1 + 1, 0, none⟩) (v := .int .i64 0) (by simp [go_sem, World.cell?_alloc_past])
  have c5 := later hb1 (a := ⟨w.heap.size + 1 + 1, 1, none⟩) (v := .int .i64 0) (by simp [go_sem, World.cell?_alloc_past])
  have f4 := free_later hb1 (a := ⟨w.heap.size + 1 + 1, 0, none⟩) (v := .int .i64 0) (by simp [go_sem, World.cell?_alloc_past]) (by simp [go_sem, World.cell?_alloc_past])
  have f5 := free_later hb1 (a := ⟨w.heap.size + 1 + 1, 1, none⟩) (v := .int .i64 0) (by simp [go_sem, World.cell?_alloc_past]) (by simp [go_sem, World.cell?_alloc_past])
  have c0 := later hb1 (a := ⟨w.heap.size, 0, none⟩) (v := .int .i64 al) (by simp [go_sem, World.cell?_alloc_past])
  have c1 := later hb1 (a := ⟨w.heap.size, 1, none⟩) (v := .int .i64 ah) (by simp [go_sem, World.cell?_alloc_past])
  have c2 := later hb1 (a := ⟨w.heap.size + 1, 0, none⟩) (v := .int .i64 nu) (by simp [go_sem, World.cell?_alloc_past])
  have c3 := later hb1 (a := ⟨w.heap.size + 1, 1, none⟩) (v := .int .i64 de) (by simp [go_sem, World.cell?_alloc_past])
  go_wp2_with fail
  refine (R2.out _).mono ?_
  rintro e w2 ⟨rfl, hb2⟩
  have e0 := later hb2 c0
  have e1 := later hb2 c1
  have e2 := fun o => later (balloc (o := o) (Below.refl _ _)) (later hb2 c2)
  have e3 := fun o => later (balloc (o := o) (Below.refl _ _)) (later hb2 c3)
  have ⟨d4, g4⟩ := cf_later hb2 ⟨c4, f4⟩
  have ⟨d5, g5⟩ := cf_later hb2 ⟨c5, f5⟩
  clear c0 c1 c2 c3 c4 c5 f4 f5
  go_wp2_with fail
  refine (F.out (some ⟨w2.heap.size, 0, none⟩) (some ⟨w2.heap.size + 1, 0, none⟩) _ _ _ ?_ ?_).mono ?_
  · exact ints_two_of (by simp [go_sem, World.cell?_alloc_past]) (by simp [go_sem, World.cell?_alloc_past])
  · exact pairs_one_of (by simp [go_sem, World.cell?_alloc_past]) (by simp [go_sem, World.cell?_alloc_past])
  rintro e w3 ⟨rfl, hb3⟩
  have ⟨c4, f4⟩ := cf_later hb3 (cf_later (balloc (balloc (Below.refl _ _))) ⟨d4, g4⟩)
  have ⟨c5, f5⟩ := cf_later hb3 (cf_later (balloc (balloc (Below.refl _ _))) ⟨d5, g5⟩)
  go_wp2_with fail
  have yy := two_set (x := .int .i64 x) (y := .int .i64 y) c4 c5
  exact bodyPost_ret (v := .tuple #[.agg #[.int .i64 x, .int .i64 y], .int .i64 E]) (by simp [results, Try.results45, go_sem, yy.1, yy.2]) rfl ⟨rfl, (by repeat (first | exact Below.refl _ _ | assumption | apply balloc | apply bdrew | (refine bset ?_ (by first | (simp; done) | omega | (simp; omega)) _) | (refine bnext ?_ (by assumption))))⟩
theorem refScale_any (al ah nu de : Int) (w : World) :
    Calls Try.prog 45 #[.agg #[.int .i64 al, .int .i64 ah], .agg #[.int .i64 nu, .int .i64 de]] w fun e w' => e = .returned (.tuple #[.agg #[.int .i64 (scaleQ al ah nu de).1, .int .i64 (scaleQ al ah nu de).2.1], .int .i64 (scaleQ al ah nu de).2.2]) ∧ Below w.heap.size w w' := by
  have R1 := fun W => refRange_any al ah W
  have R2 := fun W => refFrac_any nu de W
  unfold scaleQ
  cases h1 : rangeOk (al, ah) with
  | false => rw [h1] at R1; rw [if_pos rfl]; exact refScale_bad1 al ah nu de w R1
  | true =>
    rw [h1] at R1
    rw [if_neg (by simp)]
    cases h2 : fracOk (nu, de) with
    | false => rw [h2] at R2; rw [if_pos rfl]; exact refScale_bad2 al ah nu de w R1 R2
    | true =>
      rw [h2] at R2
      rw [if_neg (by simp)]
      obtain ⟨a0, a1, a2⟩ := range1_bounds h1
      obtain ⟨⟨b0, b1⟩, b2, b3⟩ := frac1_bounds h2
      exact refScale_good al ah nu de _ _ _ w R1 R2 (hide fun a b ca cb W i1 i2 => spread_one al ah nu de a0 (by omega) (by omega) a2 b0 b1 b2 b3 _ rfl a b ca cb W i1 i2)

set_option maxRecDepth 100000 in
set_option maxHeartbeats 3200000 in
theorem unitsScales_walk (al ah nu de : Int) (w : World) :
    Calls Try.prog 8 #[.agg #[.int .i64 al, .int .i64 ah], .agg #[.int .i64 nu, .int .i64 de]] w fun e w' => e = .returned (.bool true) ∧ Below w.heap.size w w' := by
  obtain ⟨A, hA⟩ : ∃ q, scaleQ al ah nu de = q := ⟨_, rfl⟩
  obtain ⟨A1, A2, A3⟩ := A
  have F1 := hide fun w => by have := scale_any al ah nu de w; rw [hA] at this; exact this
  have G1 := hide fun w => by have := refScale_any al ah nu de w; rw [hA] at this; exact this
  clear hA
  go_enter Try.func8, Try.ntmps8
  go_wp2_with fail
  refine (F1.out _).mono ?_
  rintro e w1 ⟨rfl, hb1⟩
  have y0 := fun o => later (balloc (o := o) (Below.refl _ _)) (later hb1 (a := ⟨w.heap.size, 0, none⟩) (v := .int .i64 al) (by simp [go_sem, World.cell?_alloc_past]))
  have y1 := fun o => later (balloc (o := o) (Below.refl _ _)) (later hb1 (a := ⟨w.heap.size, 1, none⟩) (v := .int .i64 ah) (by simp [go_sem, World.cell?_alloc_past]))
  have y2 := fun o => later (balloc (o := o) (Below.refl _ _)) (later hb1 (a := ⟨w.heap.size + 1, 0, none⟩) (v := .int .i64 nu) (by simp [go_sem, World.cell?_alloc_past]))
  have y3 := fun o => later (balloc (o := o) (Below.refl _ _)) (later hb1 (a := ⟨w.heap.size + 1, 1, none⟩) (v := .int .i64 de) (by simp [go_sem, World.cell?_alloc_past]))
  go_wp2_with fail
  refine (G1.out _).mono ?_
  rintro e w2 ⟨rfl, hb2⟩
  have x0 := fun o => later (balloc (o := o) (Below.refl _ _)) (later hb2 (a := ⟨w1.heap.size, 0, none⟩) (v := .int .i64 A1) (by simp [go_sem, World.cell?_alloc_past]))
  have x1 := fun o => later (balloc (o := o) (Below.refl _ _)) (later hb2 (a := ⟨w1.heap.size, 1, none⟩) (v := .int .i64 A2) (by simp [go_sem, World.cell?_alloc_past]))
  clear y0 y1 y2 y3
  go_wp2_with fail
  refine (known_any _).mono ?_
  rintro e w7 ⟨rfl, hb7⟩
  go_wp2_with fail
  go_ret
  exact ⟨rfl, (by repeat (first | exact Below.refl _ _ | assumption | apply balloc | apply bdrew | (refine bset ?_ (by first | (simp; done) | omega | (simp; omega)) _) | (refine bnext ?_ (by assumption))))⟩
end Go.Proofs.Ytadnchcelocnaaa
