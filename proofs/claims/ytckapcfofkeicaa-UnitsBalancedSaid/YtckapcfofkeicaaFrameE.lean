/-
  What each statement's frame uses: structs of structs and of arrays opened.
-/
import Derived.Test.YtckapcfofkeicaaFrameD
namespace Go.Proofs.Ytckapcfofkeicaa
set_option linter.unusedSimpArgs false
set_option linter.unusedVariables false
open Go.ChangeShapes Go.WideShapes Go.ChangeAt Go.RowKit Go.Joins

theorem array7 {α : Type} {cs : Array α} (h : cs.size = 7) : ∃ c0 c1 c2 c3 c4 c5 c6, cs = #[c0, c1, c2, c3, c4, c5, c6] := by
  obtain ⟨l⟩ := cs
  match l, h with
  | [c0, c1, c2, c3, c4, c5, c6], _ => exact ⟨c0, c1, c2, c3, c4, c5, c6, rfl⟩
theorem intCell : Try.prog.cellsOf 3 = 1 := by kernel_rfl
theorem u16Cell : Try.prog.cellsOf 75 = 1 := by kernel_rfl
section
variable {H : Type} {enc : TypeId × Value → H} {w : World} {base : Nat} {spare : Nat → Bool} {held : Bool} {fuel : Nat} {y : DataW H × List MemPlace}
theorem int_cell {c : Value} (h : DataW.trod enc Try.prog w base spare held fuel 3 [c] = some y) : ∃ a : Int, c = .int .i64 a := by
  obtain ⟨a, e0, _, _⟩ := DataW.trod_int Try.underlying3 h
  simp at e0
  exact ⟨a, e0⟩
theorem u16_cell {c : Value} (h : DataW.trod enc Try.prog w base spare held fuel 75 [c] = some y) : ∃ a : Int, c = .int .u16 a ∧ 0 ≤ a ∧ a ≤ 65535 := by
  obtain ⟨a, e0, _, wa⟩ := DataW.trod_int Try.underlying75 h
  simp at e0
  have := bounds_u16 wa
  exact ⟨a, e0, this.1, this.2⟩
theorem frac_cells {c0 c1 : Value} (h : DataW.trod enc Try.prog w base spare held fuel 31 [c0, c1] = some y) : ∃ a b : Int, c0 = .int .i64 a ∧ c1 = .int .i64 b := by
  obtain ⟨y0, y1, n, _, _, h0, h1⟩ := trod_struct2 Try.underlying31 h
  simp [intCell] at h0 h1
  obtain ⟨a, e0⟩ := int_cell h0
  obtain ⟨b, e1⟩ := int_cell h1
  exact ⟨a, b, e0, e1⟩
theorem range_cells {c0 c1 : Value} (h : DataW.trod enc Try.prog w base spare held fuel 46 [c0, c1] = some y) : ∃ a b : Int, c0 = .int .i64 a ∧ c1 = .int .i64 b := by
  obtain ⟨y0, y1, n, _, _, h0, h1⟩ := trod_struct2 Try.underlying46 h
  simp [intCell] at h0 h1
  obtain ⟨a, e0⟩ := int_cell h0
  obtain ⟨b, e1⟩ := int_cell h1
  exact ⟨a, b, e0, e1⟩
theorem u16s_cells {c0 c1 : Value} (h : DataW.trod enc Try.prog w base spare held fuel 85 [c0, c1] = some y) : ∃ a b : Int, c0 = .int .u16 a ∧ c1 = .int .u16 b ∧ (0 ≤ a ∧ a ≤ 65535) ∧ 0 ≤ b ∧ b ≤ 65535 := by
  obtain ⟨xs, m, _, _, _, hl, hel⟩ := DataW.trod_array Try.underlying85 h
  match xs, hl with
  | [x0, x1], _ =>
    have h0 := hel 0 (by omega)
    have h1 := hel 1 (by omega)
    simp [u16Cell] at h0 h1
    obtain ⟨a, e0, a0, a1⟩ := u16_cell h0
    obtain ⟨b, e1, b0, b1⟩ := u16_cell h1
    exact ⟨a, b, e0, e1, ⟨a0, a1⟩, b0, b1⟩
end
theorem betweenCells : Try.prog.cellsOf 77 = 7 := by kernel_rfl
theorem spanCells : Try.prog.cellsOf 84 = 7 := by kernel_rfl
theorem innerCells : Try.prog.cellsOf 87 = 4 := by kernel_rfl
theorem u16sCells : Try.prog.cellsOf 85 = 2 := by kernel_rfl
set_option maxRecDepth 100000 in
theorem open_between {H : Type} {enc : TypeId × Value → H} {w : World} {base b0 : Nat} {spare : Nat → Bool} {held : Bool} {r : Reach} {v : Value} {d : DataW H} {p : List MemPlace}
    (hv : Value.okWide Try.prog w r b0 77 v) (h : DataW.Trod enc Try.prog w base spare held 77 v d p) :
    ∃ a b c d e f u : Int, v = .agg #[.int .i64 a, .int .i64 b, .int .i64 c, .int .i64 d, .int .i64 e, .int .i64 f, .int .u16 u] ∧ 0 ≤ u ∧ u ≤ 65535 := by
  obtain ⟨cs, rfl, hsz⟩ := okWide_struct Try.underlying77 hv
  obtain ⟨c0, c1, c2, c3, c4, c5, c6, rfl⟩ := array7 (hsz.trans betweenCells)
  obtain ⟨fuel, hf⟩ := h
  obtain ⟨y0, y1, y2, y3, n, _, _, h0, h1, h2, h3⟩ := trod_struct4 Try.underlying77 hf
  simp [fracCells, u16Cell, Value.cells] at h0 h1 h2 h3
  obtain ⟨a, b, rfl, rfl⟩ := frac_cells h0
  obtain ⟨c, d, rfl, rfl⟩ := frac_cells h1
  obtain ⟨e, f, rfl, rfl⟩ := frac_cells h2
  obtain ⟨u, rfl, u0, u1⟩ := u16_cell h3
  exact ⟨a, b, c, d, e, f, u, rfl, u0, u1⟩
set_option maxRecDepth 100000 in
theorem open_span {H : Type} {enc : TypeId × Value → H} {w : World} {base b0 : Nat} {spare : Nat → Bool} {held : Bool} {r : Reach} {v : Value} {d : DataW H} {p : List MemPlace}
    (hv : Value.okWide Try.prog w r b0 84 v) (h : DataW.Trod enc Try.prog w base spare held 84 v d p) :
    ∃ a b c d e f g : Int, v = .agg #[.int .i64 a, .int .i64 b, .int .i64 c, .int .i64 d, .int .i64 e, .int .i64 f, .int .i64 g] := by
  obtain ⟨cs, rfl, hsz⟩ := okWide_struct Try.underlying84 hv
  obtain ⟨c0, c1, c2, c3, c4, c5, c6, rfl⟩ := array7 (hsz.trans spanCells)
  obtain ⟨fuel, hf⟩ := h
  obtain ⟨y0, y1, y2, y3, n, _, _, h0, h1, h2, h3⟩ := trod_struct4 Try.underlying84 hf
  simp [fracCells, rangeCells, intCell, Value.cells] at h0 h1 h2 h3
  obtain ⟨a, b, rfl, rfl⟩ := range_cells h0
  obtain ⟨c, d, rfl, rfl⟩ := range_cells h1
  obtain ⟨e, rfl⟩ := int_cell h2
  obtain ⟨f, g, rfl, rfl⟩ := frac_cells h3
  exact ⟨a, b, c, d, e, f, g, rfl⟩
set_option maxRecDepth 100000 in
theorem open_inner {H : Type} {enc : TypeId × Value → H} {w : World} {base b0 : Nat} {spare : Nat → Bool} {held : Bool} {r : Reach} {v : Value} {d : DataW H} {p : List MemPlace}
    (hv : Value.okWide Try.prog w r b0 87 v) (h : DataW.Trod enc Try.prog w base spare held 87 v d p) :
    ∃ a b c d : Int, v = .agg #[.int .u16 a, .int .u16 b, .int .u16 c, .int .u16 d] ∧ ((0 ≤ a ∧ a ≤ 65535) ∧ 0 ≤ b ∧ b ≤ 65535) ∧ (0 ≤ c ∧ c ≤ 65535) ∧ 0 ≤ d ∧ d ≤ 65535 := by
  obtain ⟨cs, rfl, hsz⟩ := okWide_struct Try.underlying87 hv
  obtain ⟨c0, c1, c2, c3, rfl⟩ := array4 (hsz.trans innerCells)
  obtain ⟨fuel, hf⟩ := h
  obtain ⟨y0, y1, n, _, _, h0, h1⟩ := trod_struct2 Try.underlying87 hf
  simp [u16sCells, Value.cells] at h0 h1
  obtain ⟨a, b, rfl, rfl, ha, hb⟩ := u16s_cells h0
  obtain ⟨c, d, rfl, rfl, hc, hd⟩ := u16s_cells h1
  exact ⟨a, b, c, d, rfl, ⟨ha, hb⟩, hc, hd⟩
end Go.Proofs.Ytckapcfofkeicaa
