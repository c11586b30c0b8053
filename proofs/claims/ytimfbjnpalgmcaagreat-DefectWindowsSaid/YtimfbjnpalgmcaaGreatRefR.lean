/-
  The reference: Range, Ranges, list.
-/
import Derived.Test.YtimfbjnpalgmcaaGreatFrame
import Derived.Test.YtimfbjnpalgmcaaGreatOwn
namespace Go.Proofs.YtimfbjnpalgmcaaGreat
set_option linter.unusedSimpArgs false
set_option linter.unusedVariables false
open Go.RowKit

theorem refRange_go (l h : Int) (w : World) (k1 k2 k3 : Bool) (N1 : Hid (Num l k1)) (N2 : Hid (Num h k2)) (h3 : decide (l ≤ h) = k3) :
    Calls Tryz.prog 148 #[.agg #[.int .i64 l, .int .i64 h]] w fun e w' => e = .returned (.bool (k1 && k2 && k3)) ∧ Below w.heap.size w w' := by
  cases k1
  · go_enter Tryz.func148, Tryz.ntmps148
    go_wp2_with fail
    refine (N1.out _).mono ?_
    rintro e w1 ⟨rfl, rfl⟩
    go_wp2_with fail
    go_ret
    exact ⟨rfl, (by repeat (first | exact Below.refl _ _ | assumption | apply balloc | apply bdrew | (refine below_drewN ?_ _) | (refine bset ?_ (by first | (simp; done) | omega | (simp; omega)) _) | (refine bnext ?_ (by assumption))))⟩
  · cases k2 <;> cases k3
    all_goals
      go_enter Tryz.func148, Tryz.ntmps148
      go_wp2_with fail
      refine (N1.out _).mono ?_
      rintro e w1 ⟨rfl, rfl⟩
      go_wp2_with fail
      refine (N2.out _).mono ?_
      rintro e w1 ⟨rfl, rfl⟩
      go_wp2_with fail
      go_ret
      exact ⟨rfl, (by repeat (first | exact Below.refl _ _ | assumption | apply balloc | apply bdrew | (refine below_drewN ?_ _) | (refine bset ?_ (by first | (simp; done) | omega | (simp; omega)) _) | (refine bnext ?_ (by assumption))))⟩
theorem allIn_both (l h : Int) : allIn 1000000000000000 [l, h] = (allIn 1000000000000000 [l] && allIn 1000000000000000 [h]) := by simp [allIn]
theorem refRange_any (l h : Int) (w : World) :
    Calls Tryz.prog 148 #[.agg #[.int .i64 l, .int .i64 h]] w fun e w' => e = .returned (.bool (rangeOk (l, h))) ∧ Below w.heap.size w w' := by
  have g := refRange_go l h w _ _ _ (num_of rfl) (num_of rfl) rfl
  rwa [← allIn_both] at g

/-- The error of a list of ranges. -/
def listE (rs : List (Int × Int)) : Int := if decide ((rs.length : Int) ≤ 100) = false then 5 else if rs.all rangeOk = false then 2 else 0
end Go.Proofs.YtimfbjnpalgmcaaGreat
