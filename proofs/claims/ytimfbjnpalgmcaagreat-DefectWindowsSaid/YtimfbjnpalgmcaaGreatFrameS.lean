/-
  What the frames of chapter 5's statements use: models, sites, truths opened.
-/
import Derived.Test.YtimfbjnpalgmcaaGreatFrameD
import Derived.Test.YtimfbjnpalgmcaaGreatDtA
namespace Go.Proofs.YtimfbjnpalgmcaaGreat
set_option linter.unusedSimpArgs false
set_option linter.unusedVariables false
open Go.ChangeShapes Go.WideShapes Go.ChangeAt Go.RowKit Go.Joins

theorem array13 {α : Type} {cs : Array α} (h : cs.size = 13) : ∃ c0 c1 c2 c3 c4 c5 c6 c7 c8 c9 c10 c11 c12, cs = #[c0, c1, c2, c3, c4, c5, c6, c7, c8, c9, c10, c11, c12] := by
  obtain ⟨l⟩ := cs
  match l, h with
  | [c0, c1, c2, c3, c4, c5, c6, c7, c8, c9, c10, c11, c12], _ => exact ⟨c0, c1, c2, c3, c4, c5, c6, c7, c8, c9, c10, c11, c12, rfl⟩
theorem array9 {α : Type} {cs : Array α} (h : cs.size = 9) : ∃ c0 c1 c2 c3 c4 c5 c6 c7 c8, cs = #[c0, c1, c2, c3, c4, c5, c6, c7, c8] := by
  obtain ⟨l⟩ := cs
  match l, h with
  | [c0, c1, c2, c3, c4, c5, c6, c7, c8], _ => exact ⟨c0, c1, c2, c3, c4, c5, c6, c7, c8, rfl⟩
theorem array6 {α : Type} {cs : Array α} (h : cs.size = 6) : ∃ c0 c1 c2 c3 c4 c5, cs = #[c0, c1, c2, c3, c4, c5] := by
  obtain ⟨l⟩ := cs
  match l, h with
  | [c0, c1, c2, c3, c4, c5], _ => exact ⟨c0, c1, c2, c3, c4, c5, rfl⟩
theorem intCell5 : Tryz.prog.cellsOf 3 = 1 := by kernel_rfl
theorem u16Cell5 : Tryz.prog.cellsOf 81 = 1 := by kernel_rfl
section
variable {H : Type} {enc : TypeId × Value → H} {w : World} {base : Nat} {spare : Nat → Bool} {held : Bool} {fuel : Nat} {y : DataW H × List MemPlace}
theorem int_cell5 {c : Value} (h : DataW.trod enc Tryz.prog w base spare held fuel 3 [c] = some y) : ∃ a : Int, c = .int .i64 a := by
  obtain ⟨a, e0, _, _⟩ := DataW.trod_int Tryz.underlying3 h
  simp at e0
  exact ⟨a, e0⟩
theorem u16_cell5 {c : Value} (h : DataW.trod enc Tryz.prog w base spare held fuel 81 [c] = some y) : ∃ a : Int, c = .int .u16 a ∧ 0 ≤ a ∧ a ≤ 65535 := by
  obtain ⟨a, e0, _, wa⟩ := DataW.trod_int Tryz.underlying81 h
  simp at e0
  have := bounds_u16 wa
  exact ⟨a, e0, this.1, this.2⟩
theorem range_cells5 {c0 c1 : Value} (h : DataW.trod enc Tryz.prog w base spare held fuel 23 [c0, c1] = some y) : ∃ a b : Int, c0 = .int .i64 a ∧ c1 = .int .i64 b := by
  obtain ⟨y0, y1, n, _, _, h0, h1⟩ := trod_struct2 Tryz.underlying23 h
  simp [intCell5] at h0 h1
  obtain ⟨a, e0⟩ := int_cell5 h0
  obtain ⟨b, e1⟩ := int_cell5 h1
  exact ⟨a, b, e0, e1⟩
end
theorem range5Cells : Tryz.prog.cellsOf 23 = 2 := by kernel_rfl
theorem brdCells : Tryz.prog.cellsOf 24 = 8 := by kernel_rfl
theorem modelCells : Tryz.prog.cellsOf 26 = 9 := by kernel_rfl
theorem siteCells : Tryz.prog.cellsOf 80 = 13 := by kernel_rfl
theorem truthCells : Tryz.prog.cellsOf 84 = 6 := by kernel_rfl
theorem u16x4Cells : Tryz.prog.cellsOf 82 = 4 := by kernel_rfl
section
variable {H : Type} {enc : TypeId × Value → H} {w : World} {base : Nat} {spare : Nat → Bool} {held : Bool} {fuel : Nat} {y : DataW H × List MemPlace}
theorem brd_cells {c0 c1 c2 c3 c4 c5 c6 c7 : Value} (h : DataW.trod enc Tryz.prog w base spare held fuel 24 [c0, c1, c2, c3, c4, c5, c6, c7] = some y) : ∃ a b c d e f g i : Int, c0 = .int .i64 a ∧ c1 = .int .i64 b ∧ c2 = .int .i64 c ∧ c3 = .int .i64 d ∧ c4 = .int .i64 e ∧ c5 = .int .i64 f ∧ c6 = .int .i64 g ∧ c7 = .int .i64 i := by
  obtain ⟨xs, m, _, _, _, hl, hel⟩ := DataW.trod_array Tryz.underlying24 h
  match xs, hl with
  | [x0, x1, x2, x3], _ =>
    have h0 := hel 0 (by omega)
    have h1 := hel 1 (by omega)
    have h2 := hel 2 (by omega)
    have h3 := hel 3 (by omega)
    simp [range5Cells] at h0 h1 h2 h3
    obtain ⟨a, b, ea, eb⟩ := range_cells5 h0
    obtain ⟨c, d, ec, ed⟩ := range_cells5 h1
    obtain ⟨e, f, ee, ef⟩ := range_cells5 h2
    obtain ⟨g, i, eg, ei⟩ := range_cells5 h3
    exact ⟨a, b, c, d, e, f, g, i, ea, eb, ec, ed, ee, ef, eg, ei⟩
theorem model_cells {c0 c1 c2 c3 c4 c5 c6 c7 c8 : Value} (h : DataW.trod enc Tryz.prog w base spare held fuel 26 [c0, c1, c2, c3, c4, c5, c6, c7, c8] = some y) : ∃ m : Mdl, [c0, c1, c2, c3, c4, c5, c6, c7, c8] = [.int .i64 m.s, .int .i64 m.a0, .int .i64 m.b0, .int .i64 m.a1, .int .i64 m.b1, .int .i64 m.a2, .int .i64 m.b2, .int .i64 m.a3, .int .i64 m.b3] := by
  obtain ⟨y0, y1, n, _, _, h0, h1⟩ := trod_struct2 Tryz.underlying26 h
  simp [intCell5, brdCells] at h0 h1
  obtain ⟨s, rfl⟩ := int_cell5 h0
  obtain ⟨a, b, c, d, e, f, g, i, rfl, rfl, rfl, rfl, rfl, rfl, rfl, rfl⟩ := brd_cells h1
  exact ⟨⟨s, a, b, c, d, e, f, g, i⟩, rfl⟩
theorem u16x4_cells {c0 c1 c2 c3 : Value} (h : DataW.trod enc Tryz.prog w base spare held fuel 82 [c0, c1, c2, c3] = some y) : ∃ a b c d : Int, (c0 = .int .u16 a ∧ c1 = .int .u16 b ∧ c2 = .int .u16 c ∧ c3 = .int .u16 d) ∧ (0 ≤ a ∧ a ≤ 65535) ∧ (0 ≤ b ∧ b ≤ 65535) ∧ (0 ≤ c ∧ c ≤ 65535) ∧ 0 ≤ d ∧ d ≤ 65535 := by
  obtain ⟨xs, m, _, _, _, hl, hel⟩ := DataW.trod_array Tryz.underlying82 h
  match xs, hl with
  | [x0, x1, x2, x3], _ =>
    have h0 := hel 0 (by omega)
    have h1 := hel 1 (by omega)
    have h2 := hel 2 (by omega)
    have h3 := hel 3 (by omega)
    simp [u16Cell5] at h0 h1 h2 h3
    obtain ⟨a, ea, a0, a1⟩ := u16_cell5 h0
    obtain ⟨b, eb, b0, b1⟩ := u16_cell5 h1
    obtain ⟨c, ec, c0, c1⟩ := u16_cell5 h2
    obtain ⟨d, ed, d0, d1⟩ := u16_cell5 h3
    exact ⟨a, b, c, d, ⟨ea, eb, ec, ed⟩, ⟨a0, a1⟩, ⟨b0, b1⟩, ⟨c0, c1⟩, d0, d1⟩
end
set_option maxRecDepth 100000 in
theorem open_model {H : Type} {enc : TypeId × Value → H} {w : World} {base b0 : Nat} {spare : Nat → Bool} {held : Bool} {r : Reach} {v : Value} {d : DataW H} {p : List MemPlace}
    (hv : Value.okWide Tryz.prog w r b0 26 v) (h : DataW.Trod enc Tryz.prog w base spare held 26 v d p) : ∃ m : Mdl, v = mdlV m := by
  obtain ⟨cs, rfl, hsz⟩ := okWide_struct Tryz.underlying26 hv
  obtain ⟨c0, c1, c2, c3, c4, c5, c6, c7, c8, rfl⟩ := array9 (hsz.trans modelCells)
  obtain ⟨fuel, hf⟩ := h
  obtain ⟨m, e⟩ := model_cells hf
  simp at e
  obtain ⟨rfl, rfl, rfl, rfl, rfl, rfl, rfl, rfl, rfl⟩ := e
  exact ⟨m, rfl⟩
set_option maxRecDepth 100000 in
theorem open_site {H : Type} {enc : TypeId × Value → H} {w : World} {base b0 : Nat} {spare : Nat → Bool} {held : Bool} {r : Reach} {v : Value} {d : DataW H} {p : List MemPlace}
    (hv : Value.okWide Tryz.prog w r b0 80 v) (h : DataW.Trod enc Tryz.prog w base spare held 80 v d p) : ∃ (m : Mdl) (x y p q : Int), v = .agg #[.int .i64 m.s, .int .i64 m.a0, .int .i64 m.b0, .int .i64 m.a1, .int .i64 m.b1, .int .i64 m.a2, .int .i64 m.b2, .int .i64 m.a3, .int .i64 m.b3, .int .i64 x, .int .i64 y, .int .i64 p, .int .i64 q] := by
  obtain ⟨cs, rfl, hsz⟩ := okWide_struct Tryz.underlying80 hv
  obtain ⟨c0, c1, c2, c3, c4, c5, c6, c7, c8, c9, c10, c11, c12, rfl⟩ := array13 (hsz.trans siteCells)
  obtain ⟨fuel, hf⟩ := h
  obtain ⟨y0, y1, y2, n, _, _, h0, h1, h2⟩ := Go.Deep.trod_struct3 Tryz.underlying80 hf
  simp [modelCells, range5Cells, Value.cells] at h0 h1 h2
  obtain ⟨m, e⟩ := model_cells h0
  simp at e
  obtain ⟨rfl, rfl, rfl, rfl, rfl, rfl, rfl, rfl, rfl⟩ := e
  obtain ⟨x, y, rfl, rfl⟩ := range_cells5 h1
  obtain ⟨p, q, rfl, rfl⟩ := range_cells5 h2
  exact ⟨m, x, y, p, q, rfl⟩
set_option maxRecDepth 100000 in
theorem open_truth {H : Type} {enc : TypeId × Value → H} {w : World} {base b0 : Nat} {spare : Nat → Bool} {held : Bool} {r : Reach} {v : Value} {d : DataW H} {p : List MemPlace}
    (hv : Value.okWide Tryz.prog w r b0 84 v) (h : DataW.Trod enc Tryz.prog w base spare held 84 v d p) : ∃ t : Tru, v = truV t ∧ TruOk t := by
  obtain ⟨cs, rfl, hsz⟩ := okWide_struct Tryz.underlying84 hv
  obtain ⟨c0, c1, c2, c3, c4, c5, rfl⟩ := array6 (hsz.trans truthCells)
  obtain ⟨fuel, hf⟩ := h
  obtain ⟨y0, y1, y2, n, _, _, h0, h1, h2⟩ := Go.Deep.trod_struct3 Tryz.underlying84 hf
  simp [u16x4Cells, u16Cell5, Value.cells] at h0 h1 h2
  obtain ⟨a, b, c, d, ⟨rfl, rfl, rfl, rfl⟩, wa, wb, wc, wd⟩ := u16x4_cells h0
  obtain ⟨r, rfl, wr⟩ := u16_cell5 h1
  obtain ⟨g, rfl, wg⟩ := u16_cell5 h2
  refine ⟨⟨a, b, c, d, r, g⟩, rfl, fun k => ?_, wr, wg⟩
  match k with
  | 0 => exact wa
  | 1 => exact wb
  | 2 => exact wc
  | k + 3 => exact wd
end Go.Proofs.YtimfbjnpalgmcaaGreat
