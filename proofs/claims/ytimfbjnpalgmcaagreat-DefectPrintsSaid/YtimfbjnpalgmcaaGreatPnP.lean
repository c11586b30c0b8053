/-
  DefectPrints: whether any growth is valid, and the regions of its slices between any cuts, or the errors, are what the document says, and the growth stays as it is.
-/
import Derived.Test.YtimfbjnpalgmcaaGreatPnX
import Derived.Test.YtimfbjnpalgmcaaGreatFrameS
import Derived.Test.YtimfbjnpalgmcaaGreatFrameG
namespace Go.Proofs.YtimfbjnpalgmcaaGreat.DefectPrintsDone
set_option linter.unusedSimpArgs false
set_option linter.unusedVariables false
open Go.Proofs.YtimfbjnpalgmcaaGreat
open Go.ChangeShapes Go.WideShapes Go.ChangeAt Go.RowKit Go.Joins

set_option maxRecDepth 100000 in
theorem lifted (os : Os) (started : os.Started) (H : Type) (enc : TypeId × Value → H) :
    ReturnsInHanded {} Tryz.checked os 6 .any (Rows.defectPrintsSpec.pre6 enc Tryz.prog Tryz.f6 Rows.defectPrintsRow.domain false) (Rows.defectPrintsSpec.post enc Tryz.prog Tryz.f6 false true false false) := by
  refine returnsInHanded_of_change (C := Tryz.checked) own started (by kernel_rfl) Tryz.func6
    (ChangeSpec.witness6 (enc := enc) (C := Tryz.checked) false ⟨#[], #[.agg #[.int .i64 0, .int .i64 0, .int .i64 0, .int .i64 0, .int .i64 0, .int .i64 0, .int .i64 0, .int .i64 0, .int .i64 0], .agg #[.slice none 0 0, .int .i64 0, .slice none 0 0, .slice none 0 0], .slice none 0 0], []⟩ 8 (by kernel_rfl) (by kernel_rfl) (by kernel_rfl) (by kernel_rfl)) ?_
  intro W base args ds gs before hval0 hW hcnd _
  have hval : ∀ (j : Nat) t v, Tryz.f6.params[j]? = some t → args[j]? = some v → Value.okWide Tryz.prog W .any base t v := hval0
  have hW' := hW
  obtain ⟨p, q, hA0, hV, rfl, hfz, hnd⟩ := hW
  have hA : DataW.TrodAll enc Tryz.prog W 0 (fun _ => true) true Tryz.f6.params.toList args.toList ds p := hA0
  rw [Tryz.params6] at hA hval
  obtain ⟨v0, vs0, d0, ds0, p0, q0, hargs, rfl, rfl, h0, r0⟩ := trodAll_cons hA
  obtain ⟨v1, vs1, d1, ds1, p1, q1, rfl, rfl, rfl, h1, r1⟩ := trodAll_cons r0
  obtain ⟨v2, vs2, d2, ds2, p2, q2, rfl, rfl, rfl, h2, r2⟩ := trodAll_cons r1
  obtain ⟨rfl, rfl, rfl⟩ := trodAll_nil r2
  obtain rfl : args = #[v0, v1, v2] := by cases args; simp_all
  obtain ⟨rfl, rfl⟩ := trodVars_none hV
  have k0 := h0
  have lt0 : ∀ x ∈ p0, x.block < W.heap.size := by obtain ⟨m, hm⟩ := k0; exact DataW.trod_lt m _ _ _ hm
  have k1 := h1
  have lt1 : ∀ x ∈ p1, x.block < W.heap.size := by obtain ⟨m, hm⟩ := k1; exact DataW.trod_lt m _ _ _ hm
  have k2 := h2
  have lt2 : ∀ x ∈ p2, x.block < W.heap.size := by obtain ⟨m, hm⟩ := k2; exact DataW.trod_lt m _ _ _ hm
  obtain ⟨sm0, rfl⟩ := open_model (hval 0 26 v0 rfl rfl) h0
  obtain ⟨gr1, gp1, rfl, ⟨⟨_, nr1⟩, ⟨_, nz1⟩, ⟨_, nf1⟩⟩, hg1, ⟨wr1, wf1⟩, _⟩ := open_growth (hval 1 58 v1 rfl rfl) h1
  obtain ⟨q2_, n2, cap2, zs2, rfl, rfl, hl2, hc2, hi2⟩ := open_intsC (hval 2 59 v2 rfl rfl) h2
  clear hA0 hval0
  refine (defectPrints_walk sm0.s sm0.a0 sm0.b0 sm0.a1 sm0.b1 sm0.a2 sm0.b2 sm0.a3 sm0.b3 gr1.off gr1.rs gr1.zs gr1.fs zs2 gp1.ra gp1.za gp1.fa q2_ gp1.rc gp1.zc gp1.fc cap2 W nr1 nz1 nf1 hl2.2 hg1 hi2 wr1 wf1).mono fun e W' ⟨he, bel⟩ => ?_
  subst he
  exact ⟨_, rfl, _, _, _, [], _, [], hW', trodAll_mk1 (shut_bool Tryz.underlying4 _), (trodAll_cons_mk (Below.trod laidOut (by kernel_rfl) (of_decide_eq_true (by kernel_rfl)) k0 bel lt0) (trodAll_cons_mk (Below.trod laidOut (by kernel_rfl) (of_decide_eq_true (by kernel_rfl)) k1 bel lt1) (trodAll_cons_mk (Below.trod laidOut (by kernel_rfl) (of_decide_eq_true (by kernel_rfl)) k2 bel lt2) trodAll_mk0))), rfl, bel.frame _, fun h => by cases h⟩

theorem over : Rows.defectPrintsRow.holds Tryz.pinned (OpenSpec.ofChange Rows.defectPrintsSpec) :=
  OpenClaim.holds_of_wide 6 Tryz.f6 rfl rfl rfl rfl rfl rfl rfl ⟨rfl, rfl, rfl, rfl, rfl⟩ rfl rfl rfl rfl rfl (by kernel_rfl) Tryz.func6 (by kernel_rfl)
    (of_decide_eq_true (by kernel_rfl)) (by unfold Func.isWrapper; first | (rw [if_pos (by decide +kernel)]; kernel_rfl) | (rw [if_neg (by decide +kernel)]; exact ⟨rfl, rfl⟩))
    (fun os started H enc _ => lifted os started H enc)

theorem proved : Rows.DefectPrintsSaid := over
end Go.Proofs.YtimfbjnpalgmcaaGreat.DefectPrintsDone
