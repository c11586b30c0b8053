/-
  DefectSlices: a slice has no more regions than a longer one around it; whatever the rate and the gradients at a place truly are, each zone there is in one of the printed regions; a stretch that is usable has only units with wanted regions, and the units next to it have others.
-/
import Derived.Test.YtimfbjnpalgmcaaGreatSmX
import Derived.Test.YtimfbjnpalgmcaaGreatFrameS
import Derived.Test.YtimfbjnpalgmcaaGreatFrameG
namespace Go.Proofs.YtimfbjnpalgmcaaGreat.DefectSlicesDone
set_option linter.unusedSimpArgs false
set_option linter.unusedVariables false
open Go.Proofs.YtimfbjnpalgmcaaGreat
open Go.ChangeShapes Go.WideShapes Go.ChangeAt Go.RowKit Go.Joins

set_option maxRecDepth 100000 in
theorem u16x3Cells : Tryz.prog.cellsOf 98 = 3 := by kernel_rfl
theorem lookCells : Tryz.prog.cellsOf 100 = 10 := by kernel_rfl
theorem u8Cell5 : Tryz.prog.cellsOf 5 = 1 := by kernel_rfl
theorem array10 {α : Type} {cs : Array α} (h : cs.size = 10) : ∃ c0 c1 c2 c3 c4 c5 c6 c7 c8 c9, cs = #[c0, c1, c2, c3, c4, c5, c6, c7, c8, c9] := by
  obtain ⟨l⟩ := cs
  match l, h with
  | [c0, c1, c2, c3, c4, c5, c6, c7, c8, c9], _ => exact ⟨c0, c1, c2, c3, c4, c5, c6, c7, c8, c9, rfl⟩
section
variable {H : Type} {enc : TypeId × Value → H} {w : World} {base : Nat} {spare : Nat → Bool} {held : Bool} {fuel : Nat} {y : DataW H × List MemPlace}
theorem u8_cell5 {c : Value} (h : DataW.trod enc Tryz.prog w base spare held fuel 5 [c] = some y) : ∃ a : Int, c = .int .u8 a ∧ 0 ≤ a ∧ a ≤ 255 := by
  obtain ⟨a, e0, _, wa⟩ := DataW.trod_int Tryz.underlying5 h
  simp at e0
  have := bounds_u8 wa
  exact ⟨a, e0, this.1, this.2⟩
theorem u16x3_cells {c0 c1 c2 : Value} (h : DataW.trod enc Tryz.prog w base spare held fuel 98 [c0, c1, c2] = some y) : ∃ a b c : Int, (c0 = .int .u16 a ∧ c1 = .int .u16 b ∧ c2 = .int .u16 c) ∧ (0 ≤ a ∧ a ≤ 65535) ∧ (0 ≤ b ∧ b ≤ 65535) ∧ 0 ≤ c ∧ c ≤ 65535 := by
  obtain ⟨xs, m, _, _, _, hl, hel⟩ := DataW.trod_array Tryz.underlying98 h
  match xs, hl with
  | [x0, x1, x2], _ =>
    have h0 := hel 0 (by omega)
    have h1 := hel 1 (by omega)
    have h2 := hel 2 (by omega)
    simp [u16Cell5, Value.cells] at h0 h1 h2
    obtain ⟨a, rfl, ha⟩ := u16_cell5 h0
    obtain ⟨b, rfl, hb⟩ := u16_cell5 h1
    obtain ⟨c, rfl, hc⟩ := u16_cell5 h2
    exact ⟨a, b, c, ⟨rfl, rfl, rfl⟩, ha, hb, hc⟩
theorem truth_cells {c0 c1 c2 c3 c4 c5 : Value} (h : DataW.trod enc Tryz.prog w base spare held fuel 84 [c0, c1, c2, c3, c4, c5] = some y) : ∃ t : Tru, (c0 = .int .u16 t.t0 ∧ c1 = .int .u16 t.t1 ∧ c2 = .int .u16 t.t2 ∧ c3 = .int .u16 t.t3 ∧ c4 = .int .u16 t.r ∧ c5 = .int .u16 t.g) ∧ TruOk t := by
  obtain ⟨y0, y1, y2, n, _, _, h0, h1, h2⟩ := Go.Deep.trod_struct3 Tryz.underlying84 h
  simp [u16x4Cells, u16Cell5, Value.cells] at h0 h1 h2
  obtain ⟨a, b, c, d, ⟨rfl, rfl, rfl, rfl⟩, wa, wb, wc, wd⟩ := u16x4_cells h0
  obtain ⟨r, rfl, wr⟩ := u16_cell5 h1
  obtain ⟨g, rfl, wg⟩ := u16_cell5 h2
  refine ⟨⟨a, b, c, d, r, g⟩, ⟨rfl, rfl, rfl, rfl, rfl, rfl⟩, fun k => ?_, wr, wg⟩
  match k with
  | 0 => exact wa
  | 1 => exact wb
  | 2 => exact wc
  | k + 3 => exact wd
end
set_option maxRecDepth 100000 in
theorem open_look {H : Type} {enc : TypeId × Value → H} {w : World} {base b0 : Nat} {spare : Nat → Bool} {held : Bool} {r : Reach} {v : Value} {d : DataW H} {p : List MemPlace}
    (hv : Value.okWide Tryz.prog w r b0 100 v) (h : DataW.Trod enc Tryz.prog w base spare held 100 v d p) : ∃ (a b c : Int) (t : Tru) (s : Int), v = .agg #[.int .u16 a, .int .u16 b, .int .u16 c, .int .u16 t.t0, .int .u16 t.t1, .int .u16 t.t2, .int .u16 t.t3, .int .u16 t.r, .int .u16 t.g, .int .u8 s] ∧ (0 ≤ a ∧ a ≤ 65535) ∧ (0 ≤ b ∧ b ≤ 65535) ∧ (0 ≤ c ∧ c ≤ 65535) ∧ TruOk t ∧ 0 ≤ s ∧ s ≤ 255 := by
  obtain ⟨cs, rfl, hsz⟩ := okWide_struct Tryz.underlying100 hv
  obtain ⟨c0, c1, c2, c3, c4, c5, c6, c7, c8, c9, rfl⟩ := array10 (hsz.trans lookCells)
  obtain ⟨fuel, hf⟩ := h
  obtain ⟨y0, y1, y2, n, _, _, h0, h1, h2⟩ := Go.Deep.trod_struct3 Tryz.underlying100 hf
  simp [u16x3Cells, truthCells, u8Cell5, Value.cells] at h0 h1 h2
  obtain ⟨a, b, c, ⟨rfl, rfl, rfl⟩, wa, wb, wc⟩ := u16x3_cells h0
  obtain ⟨t, ⟨rfl, rfl, rfl, rfl, rfl, rfl⟩, wt⟩ := truth_cells h1
  obtain ⟨s, rfl, ws⟩ := u8_cell5 h2
  exact ⟨a, b, c, t, s, rfl, wa, wb, wc, wt, ws⟩
set_option maxRecDepth 100000 in
theorem lifted (os : Os) (started : os.Started) (H : Type) (enc : TypeId × Value → H) :
    ReturnsInHanded {} Tryz.checked os 12 .any (Rows.defectSlicesSpec.pre6 enc Tryz.prog Tryz.f12 Rows.defectSlicesRow.domain false) (Rows.defectSlicesSpec.post enc Tryz.prog Tryz.f12 false true false false) := by
  refine returnsInHanded_of_change (C := Tryz.checked) own started (by kernel_rfl) Tryz.func12
    (ChangeSpec.witness6 (enc := enc) (C := Tryz.checked) false ⟨#[], #[.agg #[.int .i64 0, .int .i64 0, .int .i64 0, .int .i64 0, .int .i64 0, .int .i64 0, .int .i64 0, .int .i64 0, .int .i64 0], .agg #[.slice none 0 0, .int .i64 0, .slice none 0 0, .slice none 0 0], .agg #[.int .u16 0, .int .u16 0, .int .u16 0, .int .u16 0, .int .u16 0, .int .u16 0, .int .u16 0, .int .u16 0, .int .u16 0, .int .u8 0]], []⟩ 8 (by kernel_rfl) (by kernel_rfl) (by kernel_rfl) (by kernel_rfl)) ?_
  intro W base args ds gs before hval0 hW hcnd _
  have hval : ∀ (j : Nat) t v, Tryz.f12.params[j]? = some t → args[j]? = some v → Value.okWide Tryz.prog W .any base t v := hval0
  have hW' := hW
  obtain ⟨p, q, hA0, hV, rfl, hfz, hnd⟩ := hW
  have hA : DataW.TrodAll enc Tryz.prog W 0 (fun _ => true) true Tryz.f12.params.toList args.toList ds p := hA0
  rw [Tryz.params12] at hA hval
  obtain ⟨v0, vs0, d0, ds0, p0, q0, hargs, rfl, rfl, h0, r0⟩ := trodAll_cons hA
  obtain ⟨v1, vs1, d1, ds1, p1, q1, rfl, rfl, rfl, h1, r1⟩ := trodAll_cons r0
  obtain ⟨v2, vs2, d2, ds2, p2, q2, rfl, rfl, rfl, h2, r2⟩ := trodAll_cons r1
  obtain ⟨rfl, rfl, rfl⟩ := trodAll_nil r2
  obtain rfl : args = #[v0, v1, v2] := by cases args; simp_all
  obtain ⟨rfl, rfl⟩ := trodVars_none hV
  have k0 := h0
  have lt0 : ∀ x ∈ p0, x.block < W.heap.size := by obtain ⟨m, hm⟩ := k0; exact DataW.trod_lt m _ _ _ hm
  have k1 := h1
  have lt1 : ∀ x ∈ p1, x.block < W.heap.size := by obtain ⟨m, hm⟩ := k1; exact DataW.trod_lt m _ _ _ hm
  have k2 := h2
  have lt2 : ∀ x ∈ p2, x.block < W.heap.size := by obtain ⟨m, hm⟩ := k2; exact DataW.trod_lt m _ _ _ hm
  obtain ⟨sm0, rfl⟩ := open_model (hval 0 26 v0 rfl rfl) h0
  obtain ⟨gr1, gp1, rfl, ⟨⟨_, nr1⟩, ⟨_, nz1⟩, ⟨_, nf1⟩⟩, hg1, ⟨wr1, wf1⟩, _⟩ := open_growth (hval 1 58 v1 rfl rfl) h1
  obtain ⟨la2, lb2, lc2, lt2_, lw2, rfl, wl0, wl1, wl2, wlt, wlw⟩ := open_look (hval 2 100 v2 rfl rfl) h2
  clear hA0 hval0
  refine (defectSlices_walk sm0.s sm0.a0 sm0.b0 sm0.a1 sm0.b1 sm0.a2 sm0.b2 sm0.a3 sm0.b3 gr1.off la2 lb2 lc2 lw2 lt2_ gr1.rs gr1.zs gr1.fs gp1.ra gp1.za gp1.fa gp1.rc gp1.zc gp1.fc W wl0 wl1 wl2 wlt wlw nr1 nz1 nf1 hg1).mono fun e W' ⟨he, bel⟩ => ?_
  subst he
  exact ⟨_, rfl, _, _, _, [], _, [], hW', trodAll_mk1 (shut_bool Tryz.underlying4 _), (trodAll_cons_mk (Below.trod laidOut (by kernel_rfl) (of_decide_eq_true (by kernel_rfl)) k0 bel lt0) (trodAll_cons_mk (Below.trod laidOut (by kernel_rfl) (of_decide_eq_true (by kernel_rfl)) k1 bel lt1) (trodAll_cons_mk (Below.trod laidOut (by kernel_rfl) (of_decide_eq_true (by kernel_rfl)) k2 bel lt2) trodAll_mk0))), rfl, bel.frame _, fun h => by cases h⟩

theorem over : Rows.defectSlicesRow.holds Tryz.pinned (OpenSpec.ofChange Rows.defectSlicesSpec) :=
  OpenClaim.holds_of_wide 12 Tryz.f12 rfl rfl rfl rfl rfl rfl rfl ⟨rfl, rfl, rfl, rfl, rfl⟩ rfl rfl rfl rfl rfl (by kernel_rfl) Tryz.func12 (by kernel_rfl)
    (of_decide_eq_true (by kernel_rfl)) (by unfold Func.isWrapper; first | (rw [if_pos (by decide +kernel)]; kernel_rfl) | (rw [if_neg (by decide +kernel)]; exact ⟨rfl, rfl⟩))
    (fun os started H enc _ => lifted os started H enc)

theorem proved : Rows.DefectSlicesSaid := over
end Go.Proofs.YtimfbjnpalgmcaaGreat.DefectSlicesDone
