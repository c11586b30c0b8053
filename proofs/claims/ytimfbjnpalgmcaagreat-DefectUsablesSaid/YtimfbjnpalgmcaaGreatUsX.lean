/-
  DefectUsables: the walk, with what its callees come to.
-/
import Derived.Test.YtimfbjnpalgmcaaGreatUsW
import Derived.Test.YtimfbjnpalgmcaaGreatVaI
import Derived.Test.YtimfbjnpalgmcaaGreatDtA
import Derived.Test.YtimfbjnpalgmcaaGreatGrR
import Derived.Test.YtimfbjnpalgmcaaGreatSlX
namespace Go.Proofs.YtimfbjnpalgmcaaGreat
set_option linter.unusedSimpArgs false
set_option linter.unusedVariables false
set_option linter.unusedSimpArgs false
set_option linter.unusedVariables false
open Go.RowKit

/-- The regions of all of a growth's gradients over the unit that begins at k. -/
def pQ (m : Mdl) (g : Gr) (k : Int) (j : Nat) : Nat :=
  regN m (rateQ ((valueQ g.rs k (k + 1)).1, (valueQ g.rs k (k + 1)).2.1) g.off) (gradQ ((valueQ g.fs k (k + 1)).1, (valueQ g.fs k (k + 1)).2.1) (g.zs.getD j (0, 0)))
theorem defectUsables_walk (s a0 b0 a1 b1 a2 b2 a3 b3 off sw : Int) (rs zs fs : List (Int × Int)) (ra za fa : Option Addr) (rc zc fc : Nat) (w : World)
    (NR : ra = none → rc = 0 ∧ rs = []) (NZ : za = none → zc = 0 ∧ zs = []) (NF : fa = none → fc = 0 ∧ fs = []) (h : IsGr w ⟨rs, off, zs, fs⟩ ⟨ra, rc, za, zc, fa, fc⟩) (wr : Wide rs) (wf : Wide fs) :
    Calls Tryz.prog 7 #[.agg #[.int .i64 s, .int .i64 a0, .int .i64 b0, .int .i64 a1, .int .i64 b1, .int .i64 a2, .int .i64 b2, .int .i64 a3, .int .i64 b3], .agg #[.slice ra rs.length rc, .int .i64 off, .slice za zs.length zc, .slice fa fs.length fc], .int .u8 sw] w fun e w' => e = .returned (.bool true) ∧ Below w.heap.size w w' := by
  obtain ⟨wb, hwb⟩ : ∃ z, wideB ⟨rs, off, zs, fs⟩ = z := ⟨_, rfl⟩
  obtain ⟨k1, hk1⟩ : ∃ z, mdlOk ⟨s, a0, b0, a1, b1, a2, b2, a3, b3⟩ = z := ⟨_, rfl⟩
  obtain ⟨k2, hk2⟩ : ∃ z, grwOk ⟨rs, off, zs, fs⟩ = z := ⟨_, rfl⟩
  have GO : k2 = true → GrwOk ⟨rs, off, zs, fs⟩ := fun e => grwOk_of (hk2.trans e)
  obtain ⟨x, y, hxy, hp⟩ : ∃ x y : Int, (k2 = true → (plcQ rs).1 = x ∧ (plcQ rs).2 = y) ∧ (0 ≤ x ∧ x ≤ y) ∧ y ≤ 3000 := by
    cases k2 with
    | false => exact ⟨0, 0, fun e => (by simp at e), by decide⟩
    | true =>
      refine ⟨_, _, fun _ => ⟨rfl, rfl⟩, ?_⟩
      have p := (GO rfl).pr
      unfold rgOk at p
      simp only [Bool.and_eq_true, decide_eq_true_eq] at p
      omega
  have LE : wb = false → (rs.length ≤ 70 ∧ zs.length ≤ 70) ∧ fs.length ≤ 70 := by
    rintro rfl
    unfold wideB at hwb
    simp only [Bool.or_eq_false_iff, decide_eq_false_iff_not] at hwb
    omega
  have EN : k2 = true → ∀ W, Below w.heap.size w W → Calls Tryz.prog 37 #[.agg #[.slice ra rs.length rc, .int .i64 off, .slice za zs.length zc, .slice fa fs.length fc]] W fun e w' => e = .returned (.tuple #[.int .i64 x, .int .i64 y]) ∧ Below W.heap.size W w' := by
    intro e W hb
    have l := len_of (GO e).t1
    simp only at l
    have c := refEnds_any rs zs fs off ra za fa rc zc fc (rs.length - 1) W (by omega) (by omega) (pairs_later h.1.1 hb)
    rwa [(hxy e).1, (hxy e).2] at c
  have V1 : k2 = true → ∀ k, x ≤ k → k < y → ∃ v1 v2, valueQ rs k (k + 1) = (v1, v2, 0) ∧ (0 ≤ v1 ∧ v1 ≤ v2) ∧ v2 ≤ 1000000 := fun e k h0 h1 =>
    value_within (GO e).t1 (GO e).y1 (by omega) (by rw [(hxy e).1]; omega) (by rw [(hxy e).2]; omega)
  have V2 : k2 = true → ∀ k, x ≤ k → k < y → ∃ v1 v2, valueQ fs k (k + 1) = (v1, v2, 0) ∧ (1 ≤ v1 ∧ v1 ≤ v2) ∧ v2 ≤ 20000 := fun e k h0 h1 => by
    have pl : plcQ rs = plcQ fs := (GO e).pl
    exact value_within (GO e).t2 (GO e).y2 (by omega) (by rw [← pl, (hxy e).1]; omega) (by rw [← pl, (hxy e).2]; omega)
  have hL := usaN_len (fun k => wantQ (pQ ⟨s, a0, b0, a1, b1, a2, b2, a3, b3⟩ ⟨rs, off, zs, fs⟩ k) sw zs.length) x (y - x).toNat
  have d32 : decide (sw < 32) = decide (sw ≤ 31) := decide_eq_decide.2 (by omega)
  refine defectUsables_go s a0 b0 a1 b1 a2 b2 a3 b3 off sw x y rs zs fs (usaN (fun k => wantQ (pQ ⟨s, a0, b0, a1, b1, a2, b2, a3, b3⟩ ⟨rs, off, zs, fs⟩ k) sw zs.length) x (y - x).toNat) ra za fa rc zc fc wb k1 k2 w
    (hide fun W => ?_) (hide fun _ W => ?_) (hide fun e W hb => ?_) (hide fun _ e W hb => EN e W hb) (hide fun _ _ => IntWalk.i64_in _ (by omega)) (hide fun e W hb => ?_) (hide fun e hk W q1 c1 q2 c2 q3 c3 hP => ?_) (hide fun e hk W q1 c1 q2 c2 q3 c3 hP => ?_) (hide fun e hk W hb => ?_) (hide fun W v u B C h1 h2 => ?_)
  · have c := wide_any rs zs fs off ra za fa rc zc fc W
    rwa [hwb] at c
  · have c := refModel_any ⟨s, a0, b0, a1, b1, a2, b2, a3, b3⟩ W
    rwa [hk1] at c
  · have l := LE e
    have c := refGrowth_any ⟨rs, off, zs, fs⟩ ⟨ra, rc, za, zc, fa, fc⟩ W (gr_later h hb) (by simp only; omega) (by simp only; omega) (by simp only; omega) wr wf
    rwa [hk2] at c
  · have l := LE e
    exact own_any rs zs fs off ra za fa rc zc fc W (hide (by omega)) (hide NR) (hide NZ) (hide NF) (hide (pairs_later h.1.1 hb)) (hide (pairs_later h.1.2 hb)) (hide (pairs_later h.2 hb))
  · have l := LE e
    refine usable_bad s a0 b0 a1 b1 a2 b2 a3 b3 off sw rs zs fs q1 q2 q3 c1 c2 c3 k1 (k2 && decide (sw ≤ 31)) W hk1 (by rw [hk2, d32]) ⟨⟨?_, ?_⟩, ?_⟩ ⟨⟨hP.1, hP.2.1⟩, hP.2.2⟩ hk <;> (simp only; omega)
  · simp only [Bool.and_eq_true, decide_eq_true_eq] at hk
    obtain ⟨e1, e2, e3⟩ := hk
    have g := GO e2
    have l1 := (len_of g.t1).2
    have l2 := (len_of g.t2).2
    simp only at l1 l2
    refine usable_go s a0 b0 a1 b1 a2 b2 a3 b3 off sw x y rs zs fs q1 q2 q3 c1 c2 c3 (pQ ⟨s, a0, b0, a1, b1, a2, b2, a3, b3⟩ ⟨rs, off, zs, fs⟩) _ W (hk1.trans e1) g ⟨⟨hP.1, hP.2.1⟩, hP.2.2⟩ (by omega) (hxy e2).1 (hxy e2).2 hp.1.2 hp.1.1 hp.2 (hide fun k => rfl) (hide fun W' k h0 h1 hb => ?_)
    obtain ⟨v1, v2, hv, vb⟩ := V1 e2 k h0 h1
    obtain ⟨f1, f2, hf, fb⟩ := V2 e2 k h0 h1
    refine printed_go s a0 b0 a1 b1 a2 b2 a3 b3 off k (k + 1) v1 v2 f1 f2 rs zs fs q1 q2 q3 c1 c2 c3 (pQ ⟨s, a0, b0, a1, b1, a2, b2, a3, b3⟩ ⟨rs, off, zs, fs⟩ k) W' (hk1.trans e1) (hide g.zs) g.z1 ⟨l1, l2⟩ g.o0 g.o1 (hide hv) (hide hf) (by omega) fb (hide fun j => ?_) (gr_later ⟨⟨hP.1, hP.2.1⟩, hP.2.2⟩ hb)
    unfold pQ
    simp only [hv, hf]
  · simp only [Bool.and_eq_true, decide_eq_true_eq] at hk
    obtain ⟨e1, e2, e3⟩ := hk
    have g := GO e2
    have l1 := (len_of g.t1).2
    have l2 := (len_of g.t2).2
    simp only at l1 l2
    have z0 : 1 ≤ zs.length := g.z0
    refine refUsable_go s a0 b0 a1 b1 a2 b2 a3 b3 off sw x y rs zs fs ra za fa rc zc fc zs.length (pQ ⟨s, a0, b0, a1, b1, a2, b2, a3, b3⟩ ⟨rs, off, zs, fs⟩) _ W hp.1.1 hp.2 hp.1.2 (by omega) g.z1 (hide fun k => rfl) (hide fun W' hb' => EN e2 W' (bnext hb hb')) (hide fun W' k h0 h1 hb' => ?_)
    obtain ⟨v1, v2, hv, vb⟩ := V1 e2 k h0 h1
    obtain ⟨f1, f2, hf, fb⟩ := V2 e2 k h0 h1
    refine refSlice_any ⟨s, a0, b0, a1, b1, a2, b2, a3, b3⟩ off k (k + 1) v1 v2 f1 f2 rs zs fs ra za fa rc zc fc (pQ ⟨s, a0, b0, a1, b1, a2, b2, a3, b3⟩ ⟨rs, off, zs, fs⟩ k) W' (hk1.trans e1) g.zs g.z1 ⟨l1, l2⟩ g.o0 g.o1 hv hf (by omega) fb (fun j => ?_) (gr_later (gr_later h hb) hb') wr wf
    unfold pQ
    simp only [hv, hf]
  · obtain ⟨p, c, rfl, _, hp1⟩ := own_pairs h1
    obtain ⟨q, d, rfl, _, hp2⟩ := own_pairs h2
    have c := sameRanges5_any p q c d _ _ W (by omega) (by omega) hp1 hp2
    rwa [decide_eq_true rfl] at c
end Go.Proofs.YtimfbjnpalgmcaaGreat
