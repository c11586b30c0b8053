/-
  units.piece.where, for any piece.
-/
import Derived.Test.YtadnchcelocnaaaWhereB
namespace Go.Proofs.Ytadnchcelocnaaa
set_option linter.unusedSimpArgs false
set_option linter.unusedVariables false
open Go.RowKit

theorem divQ_bounds (N c how : Int) (h0 : 1 ≤ c) (h1 : c ≤ 1000000000000000) : -2000000000000000 ≤ (divQ N c how).1 ∧ (divQ N c how).1 ≤ 2000000000000000 := by
  have B := floorQ_bounds N c h0 h1
  unfold divQ
  generalize floorQ N c = f at *
  split
  · simp
  · split
    · simp only; omega
    · simp only; omega

/-- Where the value of a piece that doesn't fall is in a range. -/
def whereUp (x0 y0 x1 y1 lo hi : Int) : (Int × Int) × Bool :=
  if ¬ max lo y0 ≤ min hi y1 then ((0, 0), false)
  else if y0 = y1 then ((x0, x1), true)
  else ((x0 + (divQ ((max lo y0 - y0) * (x1 - x0)) (y1 - y0) 2).1, x0 + (divQ ((min hi y1 - y0) * (x1 - x0)) (y1 - y0) 1).1),
    decide ((divQ ((max lo y0 - y0) * (x1 - x0)) (y1 - y0) 2).1 ≤ (divQ ((min hi y1 - y0) * (x1 - x0)) (y1 - y0) 1).1))
def whereQ (x0 y0 x1 y1 lo hi : Int) : (Int × Int) × Bool := if y1 < y0 then whereUp x0 (-y0) x1 (-y1) (-hi) (-lo) else whereUp x0 y0 x1 y1 lo hi

theorem where_up (x0 y0 x1 y1 lo hi : Int) (w : World) (hy : y0 ≤ y1)
    (bx : -1000000000000 ≤ x0 ∧ x0 < x1 ∧ x1 ≤ 1000000000000) (by' : -1000000000000 ≤ y0 ∧ y1 ≤ 1000000000000) :
    Calls Try.prog 107 #[.agg #[.int .i64 x0, .int .i64 y0, .int .i64 x1, .int .i64 y1], .agg #[.int .i64 lo, .int .i64 hi]] w fun e w' =>
      e = .returned (.tuple #[.agg #[.int .i64 (whereUp x0 y0 x1 y1 lo hi).1.1, .int .i64 (whereUp x0 y0 x1 y1 lo hi).1.2], .bool (whereUp x0 y0 x1 y1 lo hi).2]) ∧ Below w.heap.size w w' := by
  unfold whereUp
  by_cases h1 : max lo y0 ≤ min hi y1
  · rw [if_neg (by simpa using h1)]
    by_cases h2 : y0 = y1
    · subst h2
      rw [if_pos rfl]
      exact where_flat x0 y0 x1 lo hi w h1
    · rw [if_neg h2]
      exact where_slope x0 y0 x1 y1 lo hi w (by omega) h1 bx by' (fun v e => e ▸ divQ_bounds _ _ _ (by omega) (by omega)) (fun v e => e ▸ divQ_bounds _ _ _ (by omega) (by omega))
  · rw [if_pos h1]
    exact where_none x0 y0 x1 y1 lo hi w hy h1

set_option maxHeartbeats 1600000 in
theorem where_down (x0 y0 x1 y1 lo hi : Int) (w : World) (hy : y1 < y0)
    (bx : -1000000000000 ≤ x0 ∧ x0 < x1 ∧ x1 ≤ 1000000000000) (by' : -1000000000000 ≤ y1 ∧ y0 ≤ 1000000000000) (br : -1000000000000000 ≤ lo ∧ lo ≤ 1000000000000000 ∧ -1000000000000000 ≤ hi ∧ hi ≤ 1000000000000000) :
    Calls Try.prog 107 #[.agg #[.int .i64 x0, .int .i64 y0, .int .i64 x1, .int .i64 y1], .agg #[.int .i64 lo, .int .i64 hi]] w fun e w' =>
      e = .returned (.tuple #[.agg #[.int .i64 (whereUp x0 (-y0) x1 (-y1) (-hi) (-lo)).1.1, .int .i64 (whereUp x0 (-y0) x1 (-y1) (-hi) (-lo)).1.2], .bool (whereUp x0 (-y0) x1 (-y1) (-hi) (-lo)).2]) ∧ Below w.heap.size w w' := by
  have U := fun w => where_up x0 (-y0) x1 (-y1) (-hi) (-lo) w (by omega) bx (by omega)
  have T := fun w => turned_any x0 y0 x1 y1 w (by omega) (by omega)
  generalize whereUp x0 (-y0) x1 (-y1) (-hi) (-lo) = R at *
  obtain ⟨⟨r1, r2⟩, ok⟩ := R
  simp only at U
  have e1 : IntKind.i64.wrap (-hi) = -hi := IntWalk.i64_in _ (by omega)
  have e2 : IntKind.i64.wrap (-lo) = -lo := IntWalk.i64_in _ (by omega)
  have U' := hide U
  have T' := hide T
  clear U T bx by' br
  go_enter Try.func107, Try.ntmps107
  go_wp2_with fail
  go_region_with (first
      | (go_at_call 129; refine (T'.out _).mono ?_; clear T'; rintro e w2 ⟨rfl, hb2⟩; have S1 : WSt w.heap.size x0 y0 x1 y1 lo hi w2 := wst_later (by simp [WSt, go_sem, World.cell?_alloc_past]) hb2; obtain ⟨⟨k1, k2, k3, k4⟩, ⟨k5, k6, k7, k8⟩, k9, k10, k11, k12⟩ := id S1)
      | (go_at_call 107; refine (U'.out _).mono ?_; clear U'; rintro e w3 ⟨rfl, hb3⟩; have S2 := wst_later S1 hb3; obtain ⟨⟨j1, j2, j3, j4⟩, ⟨j5, j6, j7, j8⟩, j9, j10, j11, j12⟩ := id S2))
  all_goals
    go_wp2
    exact bodyPost_ret (v := .tuple #[.agg #[.int .i64 r1, .int .i64 r2], .bool ok]) (by simp [results, Try.results107, go_sem, j9, j10]) rfl ⟨rfl, (by repeat (first | exact Below.refl _ _ | assumption | apply balloc | apply bdrew | (refine bset ?_ (by first | (simp; done) | omega | (simp; omega)) _) | (refine bnext ?_ (by assumption))))⟩

theorem where_any (x0 y0 x1 y1 lo hi : Int) (w : World)
    (bx : -1000000000000 ≤ x0 ∧ x0 < x1 ∧ x1 ≤ 1000000000000) (by' : (-1000000000000 ≤ y0 ∧ y0 ≤ 1000000000000) ∧ -1000000000000 ≤ y1 ∧ y1 ≤ 1000000000000) (br : -1000000000000000 ≤ lo ∧ lo ≤ 1000000000000000 ∧ -1000000000000000 ≤ hi ∧ hi ≤ 1000000000000000) :
    Calls Try.prog 107 #[.agg #[.int .i64 x0, .int .i64 y0, .int .i64 x1, .int .i64 y1], .agg #[.int .i64 lo, .int .i64 hi]] w fun e w' =>
      e = .returned (.tuple #[.agg #[.int .i64 (whereQ x0 y0 x1 y1 lo hi).1.1, .int .i64 (whereQ x0 y0 x1 y1 lo hi).1.2], .bool (whereQ x0 y0 x1 y1 lo hi).2]) ∧ Below w.heap.size w w' := by
  unfold whereQ
  by_cases h : y1 < y0
  · rw [if_pos h]
    exact where_down x0 y0 x1 y1 lo hi w h bx (by omega) br
  · rw [if_neg h]
    exact where_up x0 y0 x1 y1 lo hi w (by omega) bx (by omega)
end Go.Proofs.Ytadnchcelocnaaa
