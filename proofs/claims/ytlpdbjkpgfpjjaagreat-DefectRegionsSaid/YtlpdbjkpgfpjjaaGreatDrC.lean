/-
  The reference of chapter 5: Can, Regions; and the walk of DefectRegions.
-/
import Derived.Test.YtlpdbjkpgfpjjaaGreatDrM
import Derived.Test.YtlpdbjkpgfpjjaaGreatDgK
namespace Go.Proofs.YtlpdbjkpgfpjjaaGreat
set_option linter.unusedSimpArgs false
set_option linter.unusedVariables false
open Go.RowKit

set_option maxRecDepth 100000 in
set_option maxHeartbeats 3200000 in
theorem refCan_first (s a0 b0 a1 b1 a2 b2 a3 b3 x y p q XS HQ : Int) (v : Bool) (w : World) (hx : Hid (IntKind.i64.wrap (x * s) = XS)) (hq : Hid (IntKind.i64.wrap (b0 * q) = HQ)) (hv : Hid (decide (HQ < XS) = v)) :
    Calls Tryz.prog 60 #[.agg #[.int .i64 s, .int .i64 a0, .int .i64 b0, .int .i64 a1, .int .i64 b1, .int .i64 a2, .int .i64 b2, .int .i64 a3, .int .i64 b3], .agg #[.int .i64 x, .int .i64 y], .agg #[.int .i64 p, .int .i64 q], .int .i64 0] w fun e w' => e = .returned (.bool (!v)) ∧ Below w.heap.size w w' := by
  have qx := hx.out
  have qq := hq.out
  cases v with
  | true =>
    have dv := hv.out
    go_enter Tryz.func60, Tryz.ntmps60
    go_upto_region 1 with fail
    go_quiet (fail)
    go_upto_region 3 with fail
    go_quiet (fail)
    go_wp2_with fail
    go_ret
    exact ⟨rfl, (by repeat (first | exact Below.refl _ _ | assumption | apply balloc | apply bdrew | (refine below_drewN ?_ _) | (refine bset ?_ (by first | (simp; done) | omega | (simp; omega)) _) | (refine bnext ?_ (by assumption))))⟩
  | false =>
    have dv := hv.out
    go_enter Tryz.func60, Tryz.ntmps60
    go_upto_region 1 with fail
    go_quiet (fail)
    go_upto_region 3 with fail
    go_quiet (fail)
    go_upto_region 5 with fail
    go_quiet (fail)
    go_wp2_with fail
    go_ret
    exact ⟨rfl, (by repeat (first | exact Below.refl _ _ | assumption | apply balloc | apply bdrew | (refine below_drewN ?_ _) | (refine bset ?_ (by first | (simp; done) | omega | (simp; omega)) _) | (refine bnext ?_ (by assumption))))⟩
set_option maxRecDepth 100000 in
set_option maxHeartbeats 3200000 in
theorem refCan_last (s a0 b0 a1 b1 a2 b2 a3 b3 x y p q YS LP : Int) (u : Bool) (w : World) (hy : Hid (IntKind.i64.wrap (y * s) = YS)) (hp : Hid (IntKind.i64.wrap (a3 * p) = LP)) (hu : Hid (decide (YS ≤ LP) = u)) :
    Calls Tryz.prog 60 #[.agg #[.int .i64 s, .int .i64 a0, .int .i64 b0, .int .i64 a1, .int .i64 b1, .int .i64 a2, .int .i64 b2, .int .i64 a3, .int .i64 b3], .agg #[.int .i64 x, .int .i64 y], .agg #[.int .i64 p, .int .i64 q], .int .i64 4] w fun e w' => e = .returned (.bool (!u)) ∧ Below w.heap.size w w' := by
  have qy := hy.out
  have qp := hp.out
  cases u with
  | true =>
    have dv := hu.out
    go_enter Tryz.func60, Tryz.ntmps60
    go_upto_region 1 with fail
    go_quiet (fail)
    go_wp2_with fail
    go_ret
    exact ⟨rfl, (by repeat (first | exact Below.refl _ _ | assumption | apply balloc | apply bdrew | (refine below_drewN ?_ _) | (refine bset ?_ (by first | (simp; done) | omega | (simp; omega)) _) | (refine bnext ?_ (by assumption))))⟩
  | false =>
    have dv := hu.out
    go_enter Tryz.func60, Tryz.ntmps60
    go_upto_region 1 with fail
    go_quiet (fail)
    go_upto_region 3 with fail
    go_quiet (fail)
    go_upto_region 5 with fail
    go_quiet (fail)
    go_wp2_with fail
    go_ret
    exact ⟨rfl, (by repeat (first | exact Below.refl _ _ | assumption | apply balloc | apply bdrew | (refine below_drewN ?_ _) | (refine bset ?_ (by first | (simp; done) | omega | (simp; omega)) _) | (refine bnext ?_ (by assumption))))⟩
/-- One of the three regions in between. -/
def CanMid (s a0 b0 a1 b1 a2 b2 a3 b3 x y p q : Int) (k lj hk : Int) : Prop := ∀ (XS YS LP HQ : Int) (u v t : Bool) (w : World), Hid (IntKind.i64.wrap (x * s) = XS) → Hid (IntKind.i64.wrap (y * s) = YS) → Hid (IntKind.i64.wrap (lj * p) = LP) → Hid (IntKind.i64.wrap (hk * q) = HQ) → Hid (decide (YS ≤ LP) = u) → Hid (decide (HQ < XS) = v) → Hid (decide (lj < hk) = t) →
    Calls Tryz.prog 60 #[.agg #[.int .i64 s, .int .i64 a0, .int .i64 b0, .int .i64 a1, .int .i64 b1, .int .i64 a2, .int .i64 b2, .int .i64 a3, .int .i64 b3], .agg #[.int .i64 x, .int .i64 y], .agg #[.int .i64 p, .int .i64 q], .int .i64 k] w fun e w' => e = .returned (.bool (!u && (!v && t))) ∧ Below w.heap.size w w'
set_option maxRecDepth 100000 in
set_option maxHeartbeats 6400000 in
theorem refCan_mid (s a0 b0 a1 b1 a2 b2 a3 b3 x y p q : Int) : CanMid s a0 b0 a1 b1 a2 b2 a3 b3 x y p q 1 a0 b1 ∧ CanMid s a0 b0 a1 b1 a2 b2 a3 b3 x y p q 2 a1 b2 ∧ CanMid s a0 b0 a1 b1 a2 b2 a3 b3 x y p q 3 a2 b3 := by
  refine ⟨?_, ?_, ?_⟩
  all_goals
    intro XS YS LP HQ u v t w hx hy hp hq hu hv ht
    have qx := hx.out
    have qy := hy.out
    have qp := hp.out
    have qq := hq.out
    have du := hu.out
    have dv := hv.out
    have dt := ht.out
    cases u with
    | true => as_aux_lemma =>
      go_enter Tryz.func60, Tryz.ntmps60
      go_upto_region 1 with fail
      go_quiet (fail)
      go_wp2_with fail
      go_ret
      exact ⟨rfl, (by repeat (first | exact Below.refl _ _ | assumption | apply balloc | apply bdrew | (refine below_drewN ?_ _) | (refine bset ?_ (by first | (simp; done) | omega | (simp; omega)) _) | (refine bnext ?_ (by assumption))))⟩
    | false => as_aux_lemma =>
      cases v with
      | true =>
        go_enter Tryz.func60, Tryz.ntmps60
        go_upto_region 1 with fail
        go_quiet (fail)
        go_upto_region 3 with fail
        go_quiet (fail)
        go_wp2_with fail
        go_ret
        exact ⟨rfl, (by repeat (first | exact Below.refl _ _ | assumption | apply balloc | apply bdrew | (refine below_drewN ?_ _) | (refine bset ?_ (by first | (simp; done) | omega | (simp; omega)) _) | (refine bnext ?_ (by assumption))))⟩
      | false =>
        go_enter Tryz.func60, Tryz.ntmps60
        go_upto_region 1 with fail
        go_quiet (fail)
        go_upto_region 3 with fail
        go_quiet (fail)
        go_upto_region 5 with fail
        go_quiet (fail)
        go_wp2_with fail
        go_ret
        exact ⟨ret_bool (by simp), (by repeat (first | exact Below.refl _ _ | assumption | apply balloc | apply bdrew | (refine below_drewN ?_ _) | (refine bset ?_ (by first | (simp; done) | omega | (simp; omega)) _) | (refine bnext ?_ (by assumption))))⟩
end Go.Proofs.YtlpdbjkpgfpjjaaGreat
