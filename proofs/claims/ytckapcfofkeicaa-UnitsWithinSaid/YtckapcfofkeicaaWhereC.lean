/-
  units.piece.where. units.piece.where, on a slope; and for any piece. units.piece.where, for any piece.
-/
import Derived.Test.YtckapcfofkeicaaPcs
namespace Go.Proofs.Ytckapcfofkeicaa
set_option linter.unusedSimpArgs false
set_option linter.unusedVariables false
open Go.RowKit

/-- What the walk through where reads behind a call. -/
def WSt (n : Nat) (x0 y0 x1 y1 l h : Int) (w : World) : Prop :=
  (w.cell? ⟨n, 0, none⟩ = some (.int .i64 x0) ∧ w.cell? ⟨n, 1, none⟩ = some (.int .i64 y0) ∧ w.cell? ⟨n, 2, none⟩ = some (.int .i64 x1) ∧ w.cell? ⟨n, 3, none⟩ = some (.int .i64 y1)) ∧
  (w.cell? ⟨n + 1, 0, none⟩ = some (.int .i64 l) ∧ w.cell? ⟨n + 1, 1, none⟩ = some (.int .i64 h) ∧ w.frozen? ⟨n + 1, 0, none⟩ = false ∧ w.frozen? ⟨n + 1, 1, none⟩ = false) ∧
  w.cell? ⟨n + 1 + 1, 0, none⟩ = some (.int .i64 0) ∧ w.cell? ⟨n + 1 + 1, 1, none⟩ = some (.int .i64 0) ∧ w.frozen? ⟨n + 1 + 1, 0, none⟩ = false ∧ w.frozen? ⟨n + 1 + 1, 1, none⟩ = false
theorem wst_later {n : Nat} {x0 y0 x1 y1 l h : Int} {w W : World} (s : WSt n x0 y0 x1 y1 l h w) (hb : Below w.heap.size w W) : WSt n x0 y0 x1 y1 l h W := by
  obtain ⟨⟨h1, h2, h3, h4⟩, ⟨h5, h6, h7, h8⟩, h9, h10, h11, h12⟩ := s
  exact ⟨⟨later hb h1, later hb h2, later hb h3, later hb h4⟩, ⟨later hb h5, later hb h6, free_later hb h5 h7, free_later hb h6 h8⟩, later hb h9, later hb h10, free_later hb h9 h11, free_later hb h10 h12⟩

set_option maxHeartbeats 800000 in
theorem where_none (x0 y0 x1 y1 lo hi : Int) (w : World) (h0 : y0 ≤ y1) (h1 : ¬ max lo y0 ≤ min hi y1) :
    Calls Try.prog 107 #[.agg #[.int .i64 x0, .int .i64 y0, .int .i64 x1, .int .i64 y1], .agg #[.int .i64 lo, .int .i64 hi]] w fun e w' => e = .returned (.tuple #[.agg #[.int .i64 0, .int .i64 0], .bool false]) ∧ Below w.heap.size w w' := by
  have C := fun w => common_any lo hi y0 y1 w
  rw [decide_eq_false h1] at C
  generalize max lo y0 = l at *
  generalize min hi y1 = h at *
  have C' := hide C
  clear C h1
  go_enter Try.func107, Try.ntmps107
  go_wp2_with (go_at_call 90; refine (C'.out _).mono ?_; rintro e w1 ⟨rfl, hb⟩; obtain ⟨⟨k1, k2, k3, k4⟩, ⟨k5, k6, k7, k8⟩, k9, k10, k11, k12⟩ : WSt w.heap.size x0 y0 x1 y1 lo hi w1 := wst_later (by simp [WSt, go_sem, World.cell?_alloc_past]) hb)
  exact bodyPost_ret (v := .tuple #[.agg #[.int .i64 0, .int .i64 0], .bool false]) (by simp [results, Try.results107, go_sem, k9, k10]) rfl ⟨rfl, (by repeat (first | exact Below.refl _ _ | assumption | apply balloc | apply bdrew | (refine bset ?_ (by first | (simp; done) | omega | (simp; omega)) _) | (refine bnext ?_ (by assumption))))⟩

set_option maxHeartbeats 800000 in
theorem where_flat (x0 y0 x1 lo hi : Int) (w : World) (h1 : max lo y0 ≤ min hi y0) :
    Calls Try.prog 107 #[.agg #[.int .i64 x0, .int .i64 y0, .int .i64 x1, .int .i64 y0], .agg #[.int .i64 lo, .int .i64 hi]] w fun e w' => e = .returned (.tuple #[.agg #[.int .i64 x0, .int .i64 x1], .bool true]) ∧ Below w.heap.size w w' := by
  have C := fun w => common_any lo hi y0 y0 w
  rw [decide_eq_true h1] at C
  generalize max lo y0 = l at *
  generalize min hi y0 = h at *
  have C' := hide C
  clear C h1
  have A' := hide fun w => across_any x0 y0 x1 y0 w
  go_enter Try.func107, Try.ntmps107
  go_wp2_with (first
    | (go_at_call 90; refine (C'.out _).mono ?_; rintro e w1 ⟨rfl, hb⟩; obtain ⟨⟨k1, k2, k3, k4⟩, ⟨k5, k6, k7, k8⟩, k9, k10, k11, k12⟩ : WSt w.heap.size x0 y0 x1 y0 lo hi w1 := wst_later (by simp [WSt, go_sem, World.cell?_alloc_past]) hb)
    | (go_at_call 104; refine (A'.out _).mono ?_; rintro e w2 ⟨rfl, hb2⟩; obtain ⟨⟨j1, j2, j3, j4⟩, ⟨j5, j6, j7, j8⟩, j9, j10, j11, j12⟩ : WSt w.heap.size x0 y0 x1 y0 l h w2 := wst_later (by simp [WSt, go_sem, k1, k2, k3, k4, k5, k6, k7, k8, k9, k10, k11, k12]) hb2))
  exact bodyPost_ret (v := .tuple #[.agg #[.int .i64 x0, .int .i64 x1], .bool true]) (by simp [results, Try.results107, go_sem, j9, j10]) rfl ⟨rfl, (by repeat (first | exact Below.refl _ _ | assumption | apply balloc | apply bdrew | (refine bset ?_ (by first | (simp; done) | omega | (simp; omega)) _) | (refine bnext ?_ (by assumption))))⟩
end Go.Proofs.Ytckapcfofkeicaa

namespace Go.Proofs.Ytckapcfofkeicaa
set_option linter.unusedSimpArgs false
set_option linter.unusedVariables false
open Go.RowKit

set_option maxHeartbeats 1600000 in
theorem where_slope (x0 y0 x1 y1 lo hi : Int) (w : World) (hy : y0 < y1) (h1 : max lo y0 ≤ min hi y1)
    (bx : -1000000000000 ≤ x0 ∧ x0 < x1 ∧ x1 ≤ 1000000000000) (by' : -1000000000000 ≤ y0 ∧ y1 ≤ 1000000000000)
    (r0 : ∀ v, v = (divQ ((max lo y0 - y0) * (x1 - x0)) (y1 - y0) 2).1 → -2000000000000000 ≤ v ∧ v ≤ 2000000000000000) (r1 : ∀ v, v = (divQ ((min hi y1 - y0) * (x1 - x0)) (y1 - y0) 1).1 → -2000000000000000 ≤ v ∧ v ≤ 2000000000000000) :
    Calls Try.prog 107 #[.agg #[.int .i64 x0, .int .i64 y0, .int .i64 x1, .int .i64 y1], .agg #[.int .i64 lo, .int .i64 hi]] w fun e w' =>
      e = .returned (.tuple #[.agg #[.int .i64 (x0 + (divQ ((max lo y0 - y0) * (x1 - x0)) (y1 - y0) 2).1), .int .i64 (x0 + (divQ ((min hi y1 - y0) * (x1 - x0)) (y1 - y0) 1).1)], .bool (decide ((divQ ((max lo y0 - y0) * (x1 - x0)) (y1 - y0) 2).1 ≤ (divQ ((min hi y1 - y0) * (x1 - x0)) (y1 - y0) 1).1))]) ∧ Below w.heap.size w w' := by
  have C := fun w => common_any lo hi y0 y1 w
  rw [decide_eq_true h1] at C
  have bl : y0 ≤ max lo y0 ∧ max lo y0 ≤ y1 := by omega
  have bh : y0 ≤ min hi y1 ∧ min hi y1 ≤ y1 := by omega
  generalize max lo y0 = l at *
  generalize min hi y1 = h at *
  have P1 := prod_abs (show -1000000000000000 ≤ l - y0 by omega) (show l - y0 ≤ 1000000000000000 by omega) (show -1000000000000000 ≤ x1 - x0 by omega) (show x1 - x0 ≤ 1000000000000000 by omega)
  have P2 := prod_abs (show -1000000000000000 ≤ h - y0 by omega) (show h - y0 ≤ 1000000000000000 by omega) (show -1000000000000000 ≤ x1 - x0 by omega) (show x1 - x0 ≤ 1000000000000000 by omega)
  have M1 := fun w => product_any (l - y0) (x1 - x0) w (by omega) (by omega) (by omega) (by omega)
  have M2 := fun w => product_any (h - y0) (x1 - x0) w (by omega) (by omega) (by omega) (by omega)
  have D1 := fun w => divide_any 2 ((l - y0) * (x1 - x0)) (y1 - y0) w P1.1 P1.2 (by omega) (by omega)
  have D2 := fun w => divide_any 1 ((h - y0) * (x1 - x0)) (y1 - y0) w P2.1 P2.2 (by omega) (by omega)
  unfold Div at D1 D2
  generalize divQ ((l - y0) * (x1 - x0)) (y1 - y0) 2 = d1 at *
  generalize divQ ((h - y0) * (x1 - x0)) (y1 - y0) 1 = d2 at *
  obtain ⟨n1, q1, g1⟩ := d1
  obtain ⟨n2, q2, g2⟩ := d2
  have r0' := r0 n1 rfl
  have r1' := r1 n2 rfl
  simp only at D1 D2
  have e1 : IntKind.i64.wrap (x1 - x0) = x1 - x0 := IntWalk.i64_in _ (by omega)
  have e2 : IntKind.i64.wrap (y1 - y0) = y1 - y0 := IntWalk.i64_in _ (by omega)
  have e3 : IntKind.i64.wrap (l - y0) = l - y0 := IntWalk.i64_in _ (by omega)
  have e4 : IntKind.i64.wrap (h - y0) = h - y0 := IntWalk.i64_in _ (by omega)
  have e5 : IntKind.i64.wrap (x0 + n1) = x0 + n1 := IntWalk.i64_in _ (by omega)
  have e6 : IntKind.i64.wrap (x0 + n2) = x0 + n2 := IntWalk.i64_in _ (by omega)
  have ne1 : ¬ y1 < y0 := by omega
  have ne2 : ¬ y0 = y1 := by omega
  generalize (l - y0) * (x1 - x0) = N1 at *
  generalize (h - y0) * (x1 - x0) = N2 at *
  have C' := hide C
  have M1' := hide M1
  have M2' := hide M2
  have D1' := hide D1
  have D2' := hide D2
  clear C M1 M2 D1 D2 P1 P2 r0 r1 r0' r1' bl bh bx by' h1 hy
  go_enter Try.func107, Try.ntmps107
  go_wp2_with (go_at_call 90; refine (C'.out _).mono ?_; rintro e w1 ⟨rfl, hb⟩; have S0 : WSt w.heap.size x0 y0 x1 y1 lo hi w1 := wst_later (by simp [WSt, go_sem, World.cell?_alloc_past]) hb; obtain ⟨⟨k1, k2, k3, k4⟩, ⟨k5, k6, k7, k8⟩, k9, k10, k11, k12⟩ := id S0)
  go_region
  go_wp2_with (first
    | (go_at_call 73; refine (M1'.out _).mono ?_; clear M1'; rintro e w2 ⟨rfl, hb2⟩; have S1 : WSt w.heap.size x0 y0 x1 y1 l h w2 := wst_later (by simp [WSt, go_sem, k1, k2, k3, k4, k5, k6, k7, k8, k9, k10, k11, k12]) hb2; obtain ⟨⟨a1, a2, a3, a4⟩, ⟨a5, a6, a7, a8⟩, a9, a10, a11, a12⟩ := id S1)
    | (go_at_call 74; refine (D1'.out _).mono ?_; clear D1'; rintro e w3 ⟨rfl, hb3⟩; have S2 := wst_later S1 hb3; obtain ⟨⟨b1, b2, b3, b4⟩, ⟨b5, b6, b7, b8⟩, b9, b10, b11, b12⟩ := id S2)
    | (go_at_call 73; refine (M2'.out _).mono ?_; clear M2'; rintro e w4 ⟨rfl, hb4⟩; have S3 := wst_later S2 hb4; obtain ⟨⟨c1, c2, c3, c4⟩, ⟨c5, c6, c7, c8⟩, c9, c10, c11, c12⟩ := id S3)
    | (go_at_call 74; refine (D2'.out _).mono ?_; clear D2'; rintro e w5 ⟨rfl, hb5⟩; have S4 := wst_later S3 hb5; obtain ⟨⟨d1, d2, d3, d4⟩, ⟨d5, d6, d7, d8⟩, d9, d10, d11, d12⟩ := id S4))
  exact bodyPost_ret (v := .tuple #[.agg #[.int .i64 (x0 + n1), .int .i64 (x0 + n2)], .bool (decide (n1 ≤ n2))]) (by simp [results, Try.results107, go_sem, d9, d10]) rfl ⟨rfl, (by repeat (first | exact Below.refl _ _ | assumption | apply balloc | apply bdrew | (refine bset ?_ (by first | (simp; done) | omega | (simp; omega)) _) | (refine bnext ?_ (by assumption))))⟩
end Go.Proofs.Ytckapcfofkeicaa

namespace Go.Proofs.Ytckapcfofkeicaa
set_option linter.unusedSimpArgs false
set_option linter.unusedVariables false
open Go.RowKit

theorem divQ_bounds (N c how : Int) (h0 : 1 ≤ c) (h1 : c ≤ 1000000000000000) : -2000000000000000 ≤ (divQ N c how).1 ∧ (divQ N c how).1 ≤ 2000000000000000 := by
  have B := floorQ_bounds N c h0 h1
  unfold divQ
  generalize floorQ N c = f at *
  split
  · simp
  · split
    · simp only; omega
    · simp only; omega

/-- Where the value of a piece that doesn't fall is in a range. -/
def whereUp (x0 y0 x1 y1 lo hi : Int) : (Int × Int) × Bool :=
  if ¬ max lo y0 ≤ min hi y1 then ((0, 0), false)
  else if y0 = y1 then ((x0, x1), true)
  else ((x0 + (divQ ((max lo y0 - y0) * (x1 - x0)) (y1 - y0) 2).1, x0 + (divQ ((min hi y1 - y0) * (x1 - x0)) (y1 - y0) 1).1),
    decide ((divQ ((max lo y0 - y0) * (x1 - x0)) (y1 - y0) 2).1 ≤ (divQ ((min hi y1 - y0) * (x1 - x0)) (y1 - y0) 1).1))
def whereQ (x0 y0 x1 y1 lo hi : Int) : (Int × Int) × Bool := if y1 < y0 then whereUp x0 (-y0) x1 (-y1) (-hi) (-lo) else whereUp x0 y0 x1 y1 lo hi

theorem where_up (x0 y0 x1 y1 lo hi : Int) (w : World) (hy : y0 ≤ y1)
    (bx : -1000000000000 ≤ x0 ∧ x0 < x1 ∧ x1 ≤ 1000000000000) (by' : -1000000000000 ≤ y0 ∧ y1 ≤ 1000000000000) :
    Calls Try.prog 107 #[.agg #[.int .i64 x0, .int .i64 y0, .int .i64 x1, .int .i64 y1], .agg #[.int .i64 lo, .int .i64 hi]] w fun e w' =>
      e = .returned (.tuple #[.agg #[.int .i64 (whereUp x0 y0 x1 y1 lo hi).1.1, .int .i64 (whereUp x0 y0 x1 y1 lo hi).1.2], .bool (whereUp x0 y0 x1 y1 lo hi).2]) ∧ Below w.heap.size w w' := by
  unfold whereUp
  by_cases h1 : max lo y0 ≤ min hi y1
  · rw [if_neg (by simpa using h1)]
    by_cases h2 : y0 = y1
    · subst h2
      rw [if_pos rfl]
      exact where_flat x0 y0 x1 lo hi w h1
    · rw [if_neg h2]
      exact where_slope x0 y0 x1 y1 lo hi w (by omega) h1 bx by' (fun v e => e ▸ divQ_bounds _ _ _ (by omega) (by omega)) (fun v e => e ▸ divQ_bounds _ _ _ (by omega) (by omega))
  · rw [if_pos h1]
    exact where_none x0 y0 x1 y1 lo hi w hy h1

set_option maxHeartbeats 1600000 in
theorem where_down (x0 y0 x1 y1 lo hi : Int) (w : World) (hy : y1 < y0)
    (bx : -1000000000000 ≤ x0 ∧ x0 < x1 ∧ x1 ≤ 1000000000000) (by' : -1000000000000 ≤ y1 ∧ y0 ≤ 1000000000000) (br : -1000000000000000 ≤ lo ∧ lo ≤ 1000000000000000 ∧ -1000000000000000 ≤ hi ∧ hi ≤ 1000000000000000) :
    Calls Try.prog 107 #[.agg #[.int .i64 x0, .int .i64 y0, .int .i64 x1, .int .i64 y1], .agg #[.int .i64 lo, .int .i64 hi]] w fun e w' =>
      e = .returned (.tuple #[.agg #[.int .i64 (whereUp x0 (-y0) x1 (-y1) (-hi) (-lo)).1.1, .int .i64 (whereUp x0 (-y0) x1 (-y1) (-hi) (-lo)).1.2], .bool (whereUp x0 (-y0) x1 (-y1) (-hi) (-lo)).2]) ∧ Below w.heap.size w w' := by
  have U := fun w => where_up x0 (-y0) x1 (-y1) (-hi) (-lo) w (by omega) bx (by omega)
  have T := fun w => turned_any x0 y0 x1 y1 w (by omega) (by omega)
  generalize whereUp x0 (-y0) x1 (-y1) (-hi) (-lo) = R at *
  obtain ⟨⟨r1, r2⟩, ok⟩ := R
  simp only at U
  have e1 : IntKind.i64.wrap (-hi) = -hi := IntWalk.i64_in _ (by omega)
  have e2 : IntKind.i64.wrap (-lo) = -lo := IntWalk.i64_in _ (by omega)
  have U' := hide U
  have T' := hide T
  clear U T bx by' br
  go_enter Try.func107, Try.ntmps107
  go_wp2_with fail
  go_region_with (first
      | (go_at_call 129; refine (T'.out _).mono ?_; clear T'; rintro e w2 ⟨rfl, hb2⟩; have S1 : WSt w.heap.size x0 y0 x1 y1 lo hi w2 := wst_later (by simp [WSt, go_sem, World.cell?_alloc_past]) hb2; obtain ⟨⟨k1, k2, k3, k4⟩, ⟨k5, k6, k7, k8⟩, k9, k10, k11, k12⟩ := id S1)
      | (go_at_call 107; refine (U'.out _).mono ?_; clear U'; rintro e w3 ⟨rfl, hb3⟩; have S2 := wst_later S1 hb3; obtain ⟨⟨j1, j2, j3, j4⟩, ⟨j5, j6, j7, j8⟩, j9, j10, j11, j12⟩ := id S2))
  all_goals
    go_wp2
    exact bodyPost_ret (v := .tuple #[.agg #[.int .i64 r1, .int .i64 r2], .bool ok]) (by simp [results, Try.results107, go_sem, j9, j10]) rfl ⟨rfl, (by repeat (first | exact Below.refl _ _ | assumption | apply balloc | apply bdrew | (refine bset ?_ (by first | (simp; done) | omega | (simp; omega)) _) | (refine bnext ?_ (by assumption))))⟩

theorem where_any (x0 y0 x1 y1 lo hi : Int) (w : World)
    (bx : -1000000000000 ≤ x0 ∧ x0 < x1 ∧ x1 ≤ 1000000000000) (by' : (-1000000000000 ≤ y0 ∧ y0 ≤ 1000000000000) ∧ -1000000000000 ≤ y1 ∧ y1 ≤ 1000000000000) (br : -1000000000000000 ≤ lo ∧ lo ≤ 1000000000000000 ∧ -1000000000000000 ≤ hi ∧ hi ≤ 1000000000000000) :
    Calls Try.prog 107 #[.agg #[.int .i64 x0, .int .i64 y0, .int .i64 x1, .int .i64 y1], .agg #[.int .i64 lo, .int .i64 hi]] w fun e w' =>
      e = .returned (.tuple #[.agg #[.int .i64 (whereQ x0 y0 x1 y1 lo hi).1.1, .int .i64 (whereQ x0 y0 x1 y1 lo hi).1.2], .bool (whereQ x0 y0 x1 y1 lo hi).2]) ∧ Below w.heap.size w w' := by
  unfold whereQ
  by_cases h : y1 < y0
  · rw [if_pos h]
    exact where_down x0 y0 x1 y1 lo hi w h bx (by omega) br
  · rw [if_neg h]
    exact where_up x0 y0 x1 y1 lo hi w (by omega) bx (by omega)
end Go.Proofs.Ytckapcfofkeicaa
