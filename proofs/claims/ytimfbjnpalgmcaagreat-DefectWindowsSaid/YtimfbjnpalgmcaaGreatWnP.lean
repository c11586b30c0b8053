/-
  DefectWindows: the window of rates for any zones and any wanted regions, and what is unwanted at any rate, or the errors, are those of the document.
-/
import Derived.Test.YtimfbjnpalgmcaaGreatWnX
import Derived.Test.YtimfbjnpalgmcaaGreatFrameS
import Derived.Test.YtimfbjnpalgmcaaGreatFrameG
namespace Go.Proofs.YtimfbjnpalgmcaaGreat.DefectWindowsDone
set_option linter.unusedSimpArgs false
set_option linter.unusedVariables false
open Go.Proofs.YtimfbjnpalgmcaaGreat
open Go.ChangeShapes Go.WideShapes Go.ChangeAt Go.RowKit Go.Joins

theorem u8Cell5 : Tryz.prog.cellsOf 29 = 1 := by kernel_rfl
theorem askedCells : Tryz.prog.cellsOf 43 = 3 := by kernel_rfl
theorem array3 {α : Type} {cs : Array α} (h : cs.size = 3) : ∃ c0 c1 c2, cs = #[c0, c1, c2] := by
  obtain ⟨l⟩ := cs
  match l, h with
  | [c0, c1, c2], _ => exact ⟨c0, c1, c2, rfl⟩
set_option maxRecDepth 100000 in
theorem open_asked {H : Type} {enc : TypeId × Value → H} {w : World} {b0 : Nat} {r : Reach} {v : Value} {d : DataW H} {p : List MemPlace}
    (hv : Value.okWide Tryz.prog w r b0 43 v) (h : DataW.Trod enc Tryz.prog w 0 (fun _ => true) true 43 v d p) : ∃ (za : Option Addr) (zc : Nat) (zs : List (Int × Int)) (s rt : Int), v = .agg #[.slice za zs.length zc, .int .u8 s, .int .i64 rt] ∧ (zs.length ≤ maxLen ∧ (za = none → zc = 0 ∧ zs = [])) ∧ IsPairs w za zs ∧ 0 ≤ s ∧ s ≤ 255 := by
  obtain ⟨cs, rfl, hsz⟩ := okWide_struct Tryz.underlying43 hv
  obtain ⟨c0, c1, c2, rfl⟩ := array3 (hsz.trans askedCells)
  obtain ⟨fuel, hf⟩ := h
  obtain ⟨y0, y1, y2, n, _, _, h0, h1, h2⟩ := Go.Deep.trod_struct3 Tryz.underlying43 hf
  simp [rangesCell5, u8Cell5, intCell5, Value.cells] at h0 h1 h2
  obtain ⟨za, zn, zc, zs, rfl, rfl, hz, iz, _⟩ := pairs_cell Tryz.underlying41 Tryz.underlying23 range5Cells rfl rfl rfl rfl h0
  obtain ⟨a, e0, _, wa⟩ := DataW.trod_int Tryz.underlying29 h1
  simp at e0
  have ba := bounds_u8 wa
  subst e0
  obtain ⟨b, e1, _, wb⟩ := DataW.trod_int Tryz.underlying3 h2
  simp at e1
  subst e1
  exact ⟨za, zc, zs, a, b, rfl, hz, iz, ba.1, ba.2⟩
set_option maxRecDepth 100000 in
theorem lifted (os : Os) (started : os.Started) (H : Type) (enc : TypeId × Value → H) :
    ReturnsInHanded {} Tryz.checked os 5 .any (Rows.defectWindowsSpec.pre6 enc Tryz.prog Tryz.f5 Rows.defectWindowsRow.domain false) (Rows.defectWindowsSpec.post enc Tryz.prog Tryz.f5 false true false false) := by
  refine returnsInHanded_of_change (C := Tryz.checked) own started (by kernel_rfl) Tryz.func5
    (ChangeSpec.witness6 (enc := enc) (C := Tryz.checked) false ⟨#[], #[.agg #[.int .i64 0, .int .i64 0, .int .i64 0, .int .i64 0, .int .i64 0, .int .i64 0, .int .i64 0, .int .i64 0, .int .i64 0], .agg #[.slice none 0 0, .int .u8 0, .int .i64 0]], []⟩ 8 (by kernel_rfl) (by kernel_rfl) (by kernel_rfl) (by kernel_rfl)) ?_
  intro W base args ds gs before hval0 hW hcnd _
  have hval : ∀ (j : Nat) t v, Tryz.f5.params[j]? = some t → args[j]? = some v → Value.okWide Tryz.prog W .any base t v := hval0
  have hW' := hW
  obtain ⟨p, q, hA0, hV, rfl, hfz, hnd⟩ := hW
  have hA : DataW.TrodAll enc Tryz.prog W 0 (fun _ => true) true Tryz.f5.params.toList args.toList ds p := hA0
  rw [Tryz.params5] at hA hval
  obtain ⟨v0, vs0, d0, ds0, p0, q0, hargs, rfl, rfl, h0, r0⟩ := trodAll_cons hA
  obtain ⟨v1, vs1, d1, ds1, p1, q1, rfl, rfl, rfl, h1, r1⟩ := trodAll_cons r0
  obtain ⟨rfl, rfl, rfl⟩ := trodAll_nil r1
  obtain rfl : args = #[v0, v1] := by cases args; simp_all
  obtain ⟨rfl, rfl⟩ := trodVars_none hV
  have k0 := h0
  have lt0 : ∀ x ∈ p0, x.block < W.heap.size := by obtain ⟨m, hm⟩ := k0; exact DataW.trod_lt m _ _ _ hm
  have k1 := h1
  have lt1 : ∀ x ∈ p1, x.block < W.heap.size := by obtain ⟨m, hm⟩ := k1; exact DataW.trod_lt m _ _ _ hm
  obtain ⟨sm0, rfl⟩ := open_model (hval 0 26 v0 rfl rfl) h0
  obtain ⟨za1, zc1, zs1, sw1, rt1, rfl, hl1, hi1, ws1⟩ := open_asked (hval 1 43 v1 rfl rfl) h1
  clear hA0 hval0
  refine (defectWindows_walk sm0.s sm0.a0 sm0.b0 sm0.a1 sm0.b1 sm0.a2 sm0.b2 sm0.a3 sm0.b3 sw1 rt1 zs1 za1 zc1 W ws1 hl1.2 hi1).mono fun e W' ⟨he, bel⟩ => ?_
  subst he
  exact ⟨_, rfl, _, _, _, [], _, [], hW', trodAll_mk1 (shut_bool Tryz.underlying4 _), (trodAll_cons_mk (Below.trod laidOut (by kernel_rfl) (of_decide_eq_true (by kernel_rfl)) k0 bel lt0) (trodAll_cons_mk (Below.trod laidOut (by kernel_rfl) (of_decide_eq_true (by kernel_rfl)) k1 bel lt1) trodAll_mk0)), rfl, bel.frame _, fun h => by cases h⟩

theorem over : Rows.defectWindowsRow.holds Tryz.pinned (OpenSpec.ofChange Rows.defectWindowsSpec) :=
  OpenClaim.holds_of_wide 5 Tryz.f5 rfl rfl rfl rfl rfl rfl rfl ⟨rfl, rfl, rfl, rfl, rfl⟩ rfl rfl rfl rfl rfl (by kernel_rfl) Tryz.func5 (by kernel_rfl)
    (of_decide_eq_true (by kernel_rfl)) (by unfold Func.isWrapper; first | (rw [if_pos (by decide +kernel)]; kernel_rfl) | (rw [if_neg (by decide +kernel)]; exact ⟨rfl, rfl⟩))
    (fun os started H enc _ => lifted os started H enc)

theorem proved : Rows.DefectWindowsSaid := over
end Go.Proofs.YtimfbjnpalgmcaaGreat.DefectWindowsDone
