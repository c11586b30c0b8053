/-
  units.piece.where.
-/
import Derived.Test.YtadnchcelocnaaaPcs
namespace Go.Proofs.Ytadnchcelocnaaa
set_option linter.unusedSimpArgs false
set_option linter.unusedVariables false
open Go.RowKit

/-- What the walk through where reads behind a call. -/
def WSt (n : Nat) (x0 y0 x1 y1 l h : Int) (w : World) : Prop :=
  (w.cell? ⟨n, 0, none⟩ = some (.int .i64 x0) ∧ w.cell? ⟨n, 1, none⟩ = some (.int .i64 y0) ∧ w.cell? ⟨n, 2, none⟩ = some (.int .i64 x1) ∧ w.cell? ⟨n, 3, none⟩ = some (.int .i64 y1)) ∧
  (w.cell? ⟨n + 1, 0, none⟩ = some (.int .i64 l) ∧ w.cell? ⟨n + 1, 1, none⟩ = some (.int .i64 h) ∧ w.frozen? ⟨n + 1, 0, none⟩ = false ∧ w.frozen? ⟨n + 1, 1, none⟩ = false) ∧
  w.cell? ⟨n + 1 + 1, 0, none⟩ = some (.int .i64 0) ∧ w.cell? ⟨n + 1 + 1, 1, none⟩ = some (.int .i64 0) ∧ w.frozen? ⟨n + 1 + 1, 0, none⟩ = false ∧ w.frozen? ⟨n + 1 + 1, 1, none⟩ = false
theorem wst_later {n : Nat} {x0 y0 x1 y1 l h : Int} {w W : World} (s : WSt n x0 y0 x1 y1 l h w) (hb : Below w.heap.size w W) : WSt n x0 y0 x1 y1 l h W := by
  obtain ⟨⟨h1, h2, h3, h4⟩, ⟨h5, h6, h7, h8⟩, h9, h10, h11, h12⟩ := s
  exact ⟨⟨later hb h1, later hb h2, later hb h3, later hb h4⟩, ⟨later hb h5, later hb h6, free_later hb h5 h7, free_later hb h6 h8⟩, later hb h9, later hb h10, free_later hb h9 h11, free_later hb h10 h12⟩

set_option maxHeartbeats 800000 in
theorem where_none (x0 y0 x1 y1 lo hi : Int) (w : World) (h0 : y0 ≤ y1) (h1 : ¬ max lo y0 ≤ min hi y1) :
    Calls Try.prog 107 #[.agg #[.int .i64 x0, .int .i64 y0, .int .i64 x1, .int .i64 y1], .agg #[.int .i64 lo, .int .i64 hi]] w fun e w' => e = .returned (.tuple #[.agg #[.int .i64 0, .int .i64 0], .bool false]) ∧ Below w.heap.size w w' := by
  have C := fun w => common_any lo hi y0 y1 w
  rw [decide_eq_false h1] at C
  generalize max lo y0 = l at *
  generalize min hi y1 = h at *
  have C' := hide C
  clear C h1
  go_enter Try.func107, Try.ntmps107
  go_wp2_with (go_at_call 90; refine (C'.out _).mono ?_; rintro e w1 ⟨rfl, hb⟩; obtain ⟨⟨k1, k2, k3, k4⟩, ⟨k5, k6, k7, k8⟩, k9, k10, k11, k12⟩ : WSt w.heap.size x0 y0 x1 y1 lo hi w1 := wst_later (by simp [WSt, go_sem, World.cell?_alloc_past]) hb)
  exact bodyPost_ret (v := .tuple #[.agg #[.int .i64 0, .int .i64 0], .bool false]) (by simp [results, Try.results107, go_sem, k9, k10]) rfl ⟨rfl, (by repeat (first | exact Below.refl _ _ | assumption | apply balloc | apply bdrew | (refine bset ?_ (by first | (simp; done) | omega | (simp; omega)) _) | (refine bnext ?_ (by assumption))))⟩

set_option maxHeartbeats 800000 in
theorem where_flat (x0 y0 x1 lo hi : Int) (w : World) (h1 : max lo y0 ≤ min hi y0) :
    Calls Try.prog 107 #[.agg #[.int .i64 x0, .int .i64 y0, .int .i64 x1, .int .i64 y0], .agg #[.int .i64 lo, .int .i64 hi]] w fun e w' => e = .returned (.tuple #[.agg #[.int .i64 x0, .int .i64 x1], .bool true]) ∧ Below w.heap.size w w' := by
  have C := fun w => common_any lo hi y0 y0 w
  rw [decide_eq_true h1] at C
  generalize max lo y0 = l at *
  generalize min hi y0 = h at *
  have C' := hide C
  clear C h1
  have A' := hide fun w => across_any x0 y0 x1 y0 w
  go_enter Try.func107, Try.ntmps107
  go_wp2_with (first
    | (go_at_call 90; refine (C'.out _).mono ?_; rintro e w1 ⟨rfl, hb⟩; obtain ⟨⟨k1, k2, k3, k4⟩, ⟨k5, k6, k7, k8⟩, k9, k10, k11, k12⟩ : WSt w.heap.size x0 y0 x1 y0 lo hi w1 := wst_later (by simp [WSt, go_sem, World.cell?_alloc_past]) hb)
    | (go_at_call 104; refine (A'.out _).mono ?_; rintro e w2 ⟨rfl, hb2⟩; obtain ⟨⟨j1, j2, j3, j4⟩, ⟨j5, j6, j7, j8⟩, j9, j10, j11, j12⟩ : WSt w.heap.size x0 y0 x1 y0 l h w2 := wst_later (by simp [WSt, go_sem, k1, k2, k3, k4, k5, k6, k7, k8, k9, k10, k11, k12]) hb2))
  exact bodyPost_ret (v := .tuple #[.agg #[.int .i64 x0, .int .i64 x1], .bool true]) (by simp [results, Try.results107, go_sem, j9, j10]) rfl ⟨rfl, (by repeat (first | exact Below.refl _ _ | assumption | apply balloc | apply bdrew | (refine bset ?_ (by first | (simp; done) | omega | (simp; omega)) _) | (refine bnext ?_ (by assumption))))⟩
end Go.Proofs.Ytadnchcelocnaaa
