/-
  The reference of chapter 5: Slice of a valid growth.
-/
import Derived.Test.YtimfbjnpalgmcaaGreatSlR
import Derived.Test.YtimfbjnpalgmcaaGreatTbO
import Derived.Test.YtimfbjnpalgmcaaGreatDrC
namespace Go.Proofs.YtimfbjnpalgmcaaGreat
set_option linter.unusedSimpArgs false
set_option linter.unusedVariables false
set_option linter.unusedSimpArgs false
set_option linter.unusedVariables false
open Go.RowKit

theorem refSlice_any (m : Mdl) (off lo hi v1 v2 f1 f2 : Int) (rs zs fs : List (Int × Int)) (ra za fa : Option Addr) (rc zc fc : Nat) (P : Nat → Nat) (w : World) (hm : mdlOk m = true) (hzs : zs.all grOk = true) (zn : zs.length ≤ 20) (hrl : rs.length ≤ 60 ∧ fs.length ≤ 60)
    (o0 : 0 ≤ off) (o1 : off ≤ 1000000) (hv : valueQ rs lo hi = (v1, v2, 0)) (hf : valueQ fs lo hi = (f1, f2, 0)) (vb : (-1000000000000000 ≤ v1 ∧ v1 ≤ v2) ∧ v2 ≤ 1000000000000000) (fb : (1 ≤ f1 ∧ f1 ≤ f2) ∧ f2 ≤ 20000)
    (hP : ∀ j, P j = regN m (rateQ (v1, v2) off) (gradQ (f1, f2) (zs.getD j (0, 0)))) (h : IsGr w ⟨rs, off, zs, fs⟩ ⟨ra, rc, za, zc, fa, fc⟩) (wr : Wide rs) (wf : Wide fs) :
    Calls Tryz.prog 76 #[mdlV m, .agg #[.slice ra rs.length rc, .int .i64 off, .slice za zs.length zc, .slice fa fs.length fc], .int .i64 lo, .int .i64 hi] w (SlPost w zs.length P) := by
  have GZ : ∀ k, k < zs.length → grOk (zs.getD k (0, 0)) = true := fun k hk => List.all_eq_true.1 hzs _ (by simp [hk])
  refine refSlice_go m.s m.a0 m.b0 m.a1 m.b1 m.a2 m.b2 m.a3 m.b3 off lo hi v1 v2 f1 f2 (rateQ (v1, v2) off).1 (rateQ (v1, v2) off).2 (v1 - off) (v2 + off) rs zs fs ra za fa rc zc fc
    (fun k => (zs.getD k (0, 0)).1 * f1 / 10000) (fun k => ((zs.getD k (0, 0)).2 * f2 + 9999) / 10000) (fun k => (gradQ (f1, f2) (zs.getD k (0, 0))).1) (fun k => (gradQ (f1, f2) (zs.getD k (0, 0))).2) P w zn (hide h.1.2)
    (hide fun W hb => ?_) (hide fun W hb => ?_) (hide fun k W hk => ?_) (hide fun W => ?_) (hide fun k W hk => ?_) (hide fun k W hk => ?_) (hide ⟨?_, ?_⟩)
  · have c := refValue_any rs ra rc lo hi W (by omega) wr (pairs_later h.1.1 hb)
    unfold TbP at c
    rwa [hv] at c
  · have c := refValue_any fs fa fc lo hi W (by omega) wf (pairs_later h.2 hb)
    unfold TbP at c
    rwa [hf] at c
  · have c := refTimes_any (zs.getD k (0, 0)).1 (zs.getD k (0, 0)).2 f1 f2 10000 W
    have hz := GZ k hk
    simp only [grOk, rgOk, Bool.and_eq_true, decide_eq_true_eq] at hz
    rwa [timesQ_is (by omega) (by omega) (by omega) (by omega) (by omega) (by omega) (by omega) (by omega)] at c
  · have c := refClip_any (v1 - off) (v2 + off) 0 1000000 W
    rwa [clip_is _ _ _ (by omega), clip_is _ _ _ (by omega)] at c
  · have c := refClip_any ((zs.getD k (0, 0)).1 * f1 / 10000) (((zs.getD k (0, 0)).2 * f2 + 9999) / 10000) 1 1000000 W
    rwa [clip_is _ _ _ (by omega), clip_is _ _ _ (by omega)] at c
  · have r := rate_ok (v := (v1, v2)) vb.1.2 o0
    have g := grad_ok (f := (f1, f2)) fb.1.1 fb.1.2 (GZ k hk)
    have r2 : 0 ≤ (rateQ (v1, v2) off).1 ∧ (rateQ (v1, v2) off).1 ≤ (rateQ (v1, v2) off).2 ∧ (rateQ (v1, v2) off).2 ≤ 1000000 := by simpa [rgOk] using r
    have g2 : 1 ≤ (gradQ (f1, f2) (zs.getD k (0, 0))).1 ∧ (gradQ (f1, f2) (zs.getD k (0, 0))).1 ≤ (gradQ (f1, f2) (zs.getD k (0, 0))).2 ∧ (gradQ (f1, f2) (zs.getD k (0, 0))).2 ≤ 1000000 := by
      simp only [grOk, rgOk, Bool.and_eq_true, decide_eq_true_eq] at g
      omega
    have c := refRegions_any m (rateQ (v1, v2) off).1 (rateQ (v1, v2) off).2 (gradQ (f1, f2) (zs.getD k (0, 0))).1 (gradQ (f1, f2) (zs.getD k (0, 0))).2 W (mdlOk_of hm) r2.1 r2.2.1 r2.2.2 g2.1 g2.2.1 g2.2.2
    rw [hP k]
    exact c
  · exact (IntWalk.i64_left _).symm.trans (IntWalk.i64_in _ (by omega))
  · exact (IntWalk.i64_left _).symm.trans (IntWalk.i64_in _ (by omega))
end Go.Proofs.YtimfbjnpalgmcaaGreat
