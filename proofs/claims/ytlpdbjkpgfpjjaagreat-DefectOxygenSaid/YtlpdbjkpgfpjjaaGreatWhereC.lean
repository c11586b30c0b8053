/-
  units.piece.where. units.piece.where, on a slope; and for any piece. units.piece.where, for any piece.
-/
import Derived.Test.YtlpdbjkpgfpjjaaGreatPcs
namespace Go.Proofs.YtlpdbjkpgfpjjaaGreat
set_option linter.unusedSimpArgs false
set_option linter.unusedVariables false
open Go.RowKit

/-- What the walk through where reads behind a call. -/
def WSt (n : Nat) (x0 y0 x1 y1 l h : Int) (w : World) : Prop :=
  (w.cell? ⟨n, 0, none⟩ = some (.int .i64 x0) ∧ w.cell? ⟨n, 1, none⟩ = some (.int .i64 y0) ∧ w.cell? ⟨n, 2, none⟩ = some (.int .i64 x1) ∧ w.cell? ⟨n, 3, none⟩ = some (.int .i64 y1)) ∧
  (w.cell? ⟨n + 1, 0, none⟩ = some (.int .i64 l) ∧ w.cell? ⟨n + 1, 1, none⟩ = some (.int .i64 h) ∧ w.frozen? ⟨n + 1, 0, none⟩ = false ∧ w.frozen? ⟨n + 1, 1, none⟩ = false) ∧
  w.cell? ⟨n + 1 + 1, 0, none⟩ = some (.int .i64 0) ∧ w.cell? ⟨n + 1 + 1, 1, none⟩ = some (.int .i64 0) ∧ w.frozen? ⟨n + 1 + 1, 0, none⟩ = false ∧ w.frozen? ⟨n + 1 + 1, 1, none⟩ = false
theorem wst_later {n : Nat} {x0 y0 x1 y1 l h : Int} {w W : World} (s : WSt n x0 y0 x1 y1 l h w) (hb : Below w.heap.size w W) : WSt n x0 y0 x1 y1 l h W := by
  obtain ⟨⟨h1, h2, h3, h4⟩, ⟨h5, h6, h7, h8⟩, h9, h10, h11, h12⟩ := s
  exact ⟨⟨later hb h1, later hb h2, later hb h3, later hb h4⟩, ⟨later hb h5, later hb h6, free_later hb h5 h7, free_later hb h6 h8⟩, later hb h9, later hb h10, free_later hb h9 h11, free_later hb h10 h12⟩

end Go.Proofs.YtlpdbjkpgfpjjaaGreat

namespace Go.Proofs.YtlpdbjkpgfpjjaaGreat
set_option linter.unusedSimpArgs false
set_option linter.unusedVariables false
open Go.RowKit

end Go.Proofs.YtlpdbjkpgfpjjaaGreat

namespace Go.Proofs.YtlpdbjkpgfpjjaaGreat
set_option linter.unusedSimpArgs false
set_option linter.unusedVariables false
open Go.RowKit

theorem divQ_bounds (N c how : Int) (h0 : 1 ≤ c) (h1 : c ≤ 1000000000000000) : -2000000000000000 ≤ (divQ N c how).1 ∧ (divQ N c how).1 ≤ 2000000000000000 := by
  have B := floorQ_bounds N c h0 h1
  unfold divQ
  generalize floorQ N c = f at *
  split
  · simp
  · split
    · simp only; omega
    · simp only; omega

/-- Where the value of a piece that doesn't fall is in a range. -/
def whereUp (x0 y0 x1 y1 lo hi : Int) : (Int × Int) × Bool :=
  if ¬ max lo y0 ≤ min hi y1 then ((0, 0), false)
  else if y0 = y1 then ((x0, x1), true)
  else ((x0 + (divQ ((max lo y0 - y0) * (x1 - x0)) (y1 - y0) 2).1, x0 + (divQ ((min hi y1 - y0) * (x1 - x0)) (y1 - y0) 1).1),
    decide ((divQ ((max lo y0 - y0) * (x1 - x0)) (y1 - y0) 2).1 ≤ (divQ ((min hi y1 - y0) * (x1 - x0)) (y1 - y0) 1).1))
def whereQ (x0 y0 x1 y1 lo hi : Int) : (Int × Int) × Bool := if y1 < y0 then whereUp x0 (-y0) x1 (-y1) (-hi) (-lo) else whereUp x0 y0 x1 y1 lo hi

end Go.Proofs.YtlpdbjkpgfpjjaaGreat
