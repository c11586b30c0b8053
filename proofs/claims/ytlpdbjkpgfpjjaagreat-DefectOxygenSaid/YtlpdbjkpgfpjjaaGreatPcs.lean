/-
  units.piece: across, turned, at.
-/
import Derived.Test.YtlpdbjkpgfpjjaaGreatPiece
import Derived.Deep.RegionHeld3
import Derived.Deep.DeepCutAuto
namespace Go.Proofs.YtlpdbjkpgfpjjaaGreat
set_option linter.unusedSimpArgs false
set_option linter.unusedVariables false
open Go.RowKit

set_option maxHeartbeats 400000 in
theorem across_any (x0 y0 x1 y1 : Int) (w : World) :
    Calls Tryz.prog 96 #[.agg #[.int .i64 x0, .int .i64 y0, .int .i64 x1, .int .i64 y1]] w fun e w' => e = .returned (.agg #[.int .i64 x0, .int .i64 x1]) ∧ Below w.heap.size w w' := by
  go_enter Tryz.func96, Tryz.ntmps96
  go_wp2
  exact bodyPost_ret (v := .agg #[.int .i64 x0, .int .i64 x1]) (by simp [results, Tryz.results96, go_sem]) rfl ⟨rfl, (by repeat (first | exact Below.refl _ _ | assumption | apply balloc | apply bdrew | (refine below_drewN ?_ _) | (refine bset ?_ (by first | (simp; done) | omega | (simp; omega)) _) | (refine bnext ?_ (by assumption))))⟩

/-- The value of a piece at x, rounded. -/
def atQ (x0 y0 x1 y1 x how : Int) : Int := y0 + (divQ ((y1 - y0) * (x - x0)) (x1 - x0) how).1

set_option maxHeartbeats 1600000 in
theorem at_any (x0 y0 x1 y1 x how : Int) (w : World) (hy : -1000000000000000 ≤ y1 - y0 ∧ y1 - y0 ≤ 1000000000000000) (hx : -1000000000000000 ≤ x - x0 ∧ x - x0 ≤ 1000000000000000) (hc : 1 ≤ x1 - x0 ∧ x1 - x0 ≤ 1000000000000000)
    (hr : ∀ v, v = (divQ ((y1 - y0) * (x - x0)) (x1 - x0) how).1 → -9223372036854775808 ≤ y0 + v ∧ y0 + v ≤ 9223372036854775807) :
    Calls Tryz.prog 99 #[.agg #[.int .i64 x0, .int .i64 y0, .int .i64 x1, .int .i64 y1], .int .i64 x, .int .u8 how] w fun e w' => e = .returned (.int .i64 (atQ x0 y0 x1 y1 x how)) ∧ Below w.heap.size w w' := by
  have P := prod_abs hy.1 hy.2 hx.1 hx.2
  have M := fun w => product_any (y1 - y0) (x - x0) w hy.1 hy.2 hx.1 hx.2
  have D := fun w => divide_any how ((y1 - y0) * (x - x0)) (x1 - x0) w P.1 P.2 hc.1 hc.2
  unfold Div at D
  unfold atQ
  have e1 : IntKind.i64.wrap (y1 - y0) = y1 - y0 := IntWalk.i64_in _ (by omega)
  have e2 : IntKind.i64.wrap (x - x0) = x - x0 := IntWalk.i64_in _ (by omega)
  have e3 : IntKind.i64.wrap (x1 - x0) = x1 - x0 := IntWalk.i64_in _ (by omega)
  generalize divQ ((y1 - y0) * (x - x0)) (x1 - x0) how = d at *
  obtain ⟨n, r, k⟩ := d
  simp only at D
  have e4 : IntKind.i64.wrap (y0 + n) = y0 + n := IntWalk.i64_in _ (hr n rfl)
  generalize (y1 - y0) * (x - x0) = N at *
  have M' := hide M
  have D' := hide D
  clear D M P hr hy hx hc
  go_enter Tryz.func99, Tryz.ntmps99
  go_wp2_with fail
  go_region_held3 (fun w' => w'.cell? ⟨w.heap.size, 0, none⟩ = some (.int .i64 x0) ∧ w'.cell? ⟨w.heap.size, 1, none⟩ = some (.int .i64 y0) ∧ w'.cell? ⟨w.heap.size, 2, none⟩ = some (.int .i64 x1) ∧ w'.cell? ⟨w.heap.size, 3, none⟩ = some (.int .i64 y1) ∧ Below w.heap.size w w')
    (first | (refine ⟨?_, ?_, ?_, ?_, bdrew (balloc (Below.refl _ _))⟩ <;> simp [go_sem, World.cell?_alloc_past]; done) | (go_split_ands; exact ⟨later hb2 (by assumption), later hb2 (by assumption), later hb2 (by assumption), later hb2 (by assumption), bnext (by assumption) hb2⟩) | go_keep)
    (first
      | (go_at_call 105; refine (M'.out _).mono ?_; rintro e w2 ⟨rfl, hb2⟩)
      | (go_at_call 106; refine (D'.out _).mono ?_; rintro e w2 ⟨rfl, hb2⟩))
  all_goals
    go_wp2
    go_ret
    exact ⟨rfl, (by repeat (first | exact Below.refl _ _ | assumption | apply balloc | apply bdrew | (refine below_drewN ?_ _) | (refine bset ?_ (by first | (simp; done) | omega | (simp; omega)) _) | (refine bnext ?_ (by assumption))))⟩
end Go.Proofs.YtlpdbjkpgfpjjaaGreat
