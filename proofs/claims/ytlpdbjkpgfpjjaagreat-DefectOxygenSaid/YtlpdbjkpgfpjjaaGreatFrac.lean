/-
  units: compareFractions, Compare.
-/
import Derived.Test.YtlpdbjkpgfpjjaaGreatMulDiv
import Derived.Test.YtlpdbjkpgfpjjaaGreatConds
namespace Go.Proofs.YtlpdbjkpgfpjjaaGreat
set_option linter.unusedSimpArgs false
set_option linter.unusedVariables false
open Go.RowKit

set_option maxHeartbeats 1600000 in
theorem compareFractions_any (an ad bn bd : Int) (w : World) (a0 : -1000000000000000 ≤ an) (a1 : an ≤ 1000000000000000) (a2 : -1000000000000000 ≤ ad) (a3 : ad ≤ 1000000000000000)
    (b0 : -1000000000000000 ≤ bn) (b1 : bn ≤ 1000000000000000) (b2 : -1000000000000000 ≤ bd) (b3 : bd ≤ 1000000000000000) :
    Calls Tryz.prog 90 #[.agg #[.int .i64 an, .int .i64 ad], .agg #[.int .i64 bn, .int .i64 bd]] w fun e w' => e = .returned (.int .i64 (sgn3 (an * bd) (bn * ad))) ∧ Below w.heap.size w w' := by
  go_enter Tryz.func90, Tryz.ntmps90
  go_wp2
  go_region_held3 (fun w' => w'.cell? ⟨w.heap.size, 0, none⟩ = some (.int .i64 an) ∧ w'.cell? ⟨w.heap.size, 1, none⟩ = some (.int .i64 ad) ∧ w'.cell? ⟨w.heap.size + 1, 0, none⟩ = some (.int .i64 bn) ∧ w'.cell? ⟨w.heap.size + 1, 1, none⟩ = some (.int .i64 bd) ∧ Below w.heap.size w w')
    (first | (refine ⟨?_, ?_, ?_, ?_, bdrew (balloc (balloc (Below.refl _ _)))⟩ <;> simp [go_sem, World.cell?_alloc_past]; done) | (go_split_ands; exact ⟨later hb2 (by assumption), later hb2 (by assumption), later hb2 (by assumption), later hb2 (by assumption), bnext (by assumption) hb2⟩) | go_keep)
    (first
      | (go_at_call 105; refine (product_any _ _ _ (by assumption) (by assumption) (by assumption) (by assumption)).mono ?_; rintro e w2 ⟨rfl, hb2⟩)
      | (go_at_call 132; refine (compare_any _ _ _).mono ?_; rintro e w2 ⟨rfl, hb2⟩))
  all_goals
    go_wp2
    go_ret
    exact ⟨rfl, (by repeat (first | exact Below.refl _ _ | assumption | apply balloc | apply bdrew | (refine below_drewN ?_ _) | (refine bset ?_ (by first | (simp; done) | omega | (simp; omega)) _) | (refine bnext ?_ (by assumption))))⟩

/-- The fractions a and b of a call, as a list. -/
def frac2Ok (an ad bn bd : Int) : Bool := [(an, ad), (bn, bd)].all fracOk
theorem frac2_bounds {an ad bn bd : Int} (h : frac2Ok an ad bn bd = true) : ((-1000000000000000 ≤ an ∧ an ≤ 1000000000000000) ∧ 1 ≤ ad ∧ ad ≤ 1000000000000000) ∧ (-1000000000000000 ≤ bn ∧ bn ≤ 1000000000000000) ∧ 1 ≤ bd ∧ bd ≤ 1000000000000000 := by
  simpa [frac2Ok, fracOk, allIn, isDiv] using h

set_option maxHeartbeats 800000 in
theorem compare_bad (an ad bn bd : Int) (w : World) (h : Hid ([(an, ad), (bn, bd)].all fracOk = false)) :
    Calls Tryz.prog 44 #[.agg #[.int .i64 an, .int .i64 ad], .agg #[.int .i64 bn, .int .i64 bd]] w fun e w' => e = .returned (.tuple #[.int .i64 0, .int .i64 2]) ∧ Below w.heap.size w w' := by
  go_enter Tryz.func44, Tryz.ntmps44
  go_wp2_with (go_at_call 89; refine (validFractions_any _ _ _ _).mono ?_; rintro e w' ⟨rfl, rfl⟩)
  refine (firstError_is 2 [⟨2, 109, #[.pointer (some ⟨w.heap.size + 1 + 1 + 1 + 1 + 1, 0, none⟩), .pointer (some ⟨w.heap.size + 1 + 1 + 1 + 1, 0, none⟩)], false⟩] _ _ _ rfl (by simp) (by simp) (cnds_one_at (by simp)) (tells_one (validFractions_tells false (some ⟨w.heap.size + 1 + 1, 0, none⟩) 2 2 [(an, ad), (bn, bd)] ⟨w.heap.size + 1 + 1 + 1, 0, none⟩ ⟨w.heap.size + 1 + 1 + 1 + 1 + 1, 0, none⟩ ⟨w.heap.size + 1 + 1 + 1 + 1, 0, none⟩ _ h.out rfl (by simp) (by simp [go_sem, World.cell?_alloc_past]) (by simp [go_sem, World.cell?_alloc_past]) (by simp [go_sem, World.cell?_alloc_past]) (pairs_two_of (by simp [go_sem, World.cell?_alloc_past]) (by simp [go_sem, World.cell?_alloc_past]) (by simp [go_sem, World.cell?_alloc_past]) (by simp [go_sem, World.cell?_alloc_past]))))).mono ?_
  rintro e w1 ⟨rfl, hb⟩
  go_wp2_with fail
  go_ret2
  exact ⟨rfl, (by repeat (first | exact Below.refl _ _ | assumption | apply balloc | apply bdrew | (refine below_drewN ?_ _) | (refine bset ?_ (by first | (simp; done) | omega | (simp; omega)) _) | (refine bnext ?_ (by assumption))))⟩

set_option maxHeartbeats 800000 in
theorem compare_good (an ad bn bd : Int) (w : World) (h : Hid ([(an, ad), (bn, bd)].all fracOk = true)) (B : frac2Ok an ad bn bd = true) :
    Calls Tryz.prog 44 #[.agg #[.int .i64 an, .int .i64 ad], .agg #[.int .i64 bn, .int .i64 bd]] w fun e w' => e = .returned (.tuple #[.int .i64 (sgn3 (an * bd) (bn * ad)), .int .i64 0]) ∧ Below w.heap.size w w' := by
  obtain ⟨⟨⟨a0, a1⟩, a2, a3⟩, ⟨b0, b1⟩, b2, b3⟩ := frac2_bounds B
  have C := hide fun w => compareFractions_any an ad bn bd w a0 a1 (by omega) a3 b0 b1 (by omega) b3
  clear B a0 a1 a2 a3 b0 b1 b2 b3
  go_enter Tryz.func44, Tryz.ntmps44
  go_wp2_with (go_at_call 89; refine (validFractions_any _ _ _ _).mono ?_; rintro e w' ⟨rfl, rfl⟩)
  refine (firstError_is 0 [⟨2, 109, #[.pointer (some ⟨w.heap.size + 1 + 1 + 1 + 1 + 1, 0, none⟩), .pointer (some ⟨w.heap.size + 1 + 1 + 1 + 1, 0, none⟩)], true⟩] _ _ _ rfl (by simp) (by simp) (cnds_one_at (by simp)) (tells_one (validFractions_tells true (some ⟨w.heap.size + 1 + 1, 0, none⟩) 2 2 [(an, ad), (bn, bd)] ⟨w.heap.size + 1 + 1 + 1, 0, none⟩ ⟨w.heap.size + 1 + 1 + 1 + 1 + 1, 0, none⟩ ⟨w.heap.size + 1 + 1 + 1 + 1, 0, none⟩ _ h.out rfl (by simp) (by simp [go_sem, World.cell?_alloc_past]) (by simp [go_sem, World.cell?_alloc_past]) (by simp [go_sem, World.cell?_alloc_past]) (pairs_two_of (by simp [go_sem, World.cell?_alloc_past]) (by simp [go_sem, World.cell?_alloc_past]) (by simp [go_sem, World.cell?_alloc_past]) (by simp [go_sem, World.cell?_alloc_past]))))).mono ?_
  rintro e w1 ⟨rfl, hb⟩
  have c0 := later hb (a := ⟨w.heap.size, 0, none⟩) (v := .int .i64 an) (by simp [go_sem, World.cell?_alloc_past])
  have c1 := later hb (a := ⟨w.heap.size, 1, none⟩) (v := .int .i64 ad) (by simp [go_sem, World.cell?_alloc_past])
  have c2 := later hb (a := ⟨w.heap.size + 1, 0, none⟩) (v := .int .i64 bn) (by simp [go_sem, World.cell?_alloc_past])
  have c3 := later hb (a := ⟨w.heap.size + 1, 1, none⟩) (v := .int .i64 bd) (by simp [go_sem, World.cell?_alloc_past])
  go_wp2_with (go_at_call 90; refine (C.out _).mono ?_; rintro e w' ⟨rfl, hb2⟩)
  go_ret2
  exact ⟨rfl, (by repeat (first | exact Below.refl _ _ | assumption | apply balloc | apply bdrew | (refine below_drewN ?_ _) | (refine bset ?_ (by first | (simp; done) | omega | (simp; omega)) _) | (refine bnext ?_ (by assumption))))⟩

def compareQ (an ad bn bd : Int) : Int × Int := if frac2Ok an ad bn bd = true then (sgn3 (an * bd) (bn * ad), 0) else (0, 2)
theorem compareFrac_any (an ad bn bd : Int) (w : World) :
    Calls Tryz.prog 44 #[.agg #[.int .i64 an, .int .i64 ad], .agg #[.int .i64 bn, .int .i64 bd]] w fun e w' => e = .returned (.tuple #[.int .i64 (compareQ an ad bn bd).1, .int .i64 (compareQ an ad bn bd).2]) ∧ Below w.heap.size w w' := by
  unfold compareQ
  by_cases h : frac2Ok an ad bn bd = true
  · rw [if_pos h]
    exact compare_good an ad bn bd w h h
  · rw [if_neg h]
    exact compare_bad an ad bn bd w (by have : frac2Ok an ad bn bd = false := by simpa using h
                                        exact this)
end Go.Proofs.YtlpdbjkpgfpjjaaGreat
