/-
  Ovens: what came in; parts that fall out, in memory.
-/
import Derived.Test.YtlpdbjkpgfpjjaaGreatHeX
namespace Go.Proofs.YtlpdbjkpgfpjjaaGreat
set_option linter.unusedSimpArgs false
set_option linter.unusedVariables false
open Go.ChangeShapes Go.WideShapes Go.ChangeAt Go.RowKit Go.Joins

/-- A list of parts: small numbers. -/
def IsPart (w : World) (a : Option Addr) (zs : List Int) : Prop :=
  zs = [] ∨ ∃ b off, a = some ⟨b, off, none⟩ ∧ ∀ i, i < zs.length → w.cell? ⟨b, off + i, none⟩ = some (.int .u16 (zs.getD i 0)) ∧ 0 ≤ zs.getD i 0 ∧ zs.getD i 0 ≤ 65535
theorem part_later {w W : World} {a : Option Addr} {zs : List Int} (h : IsPart w a zs) (hb : Below w.heap.size w W) : IsPart W a zs := by
  rcases h with h | ⟨b, off, e, h⟩
  · exact .inl h
  · exact .inr ⟨b, off, e, fun i hi => ⟨later hb (h i hi).1, (h i hi).2⟩⟩
theorem ovenCells : Tryz.prog.cellsOf 111 = 3 := by kernel_rfl
theorem u8Cell5 : Tryz.prog.cellsOf 5 = 1 := by kernel_rfl
theorem partsCells : Tryz.prog.cellsOf 109 = 1 := by kernel_rfl
theorem array3 {α : Type} {cs : Array α} (h : cs.size = 3) : ∃ c0 c1 c2, cs = #[c0, c1, c2] := by
  obtain ⟨l⟩ := cs
  match l, h with
  | [c0, c1, c2], _ => exact ⟨c0, c1, c2, rfl⟩
set_option maxRecDepth 100000 in
theorem open_oven {H : Type} {enc : TypeId × Value → H} {w : World} {b0 : Nat} {r : Reach} {v : Value} {d : DataW H} {p : List MemPlace}
    (hv : Value.okWide Tryz.prog w r b0 111 v) (h : DataW.Trod enc Tryz.prog w 0 (fun _ => true) true 111 v d p) :
    ∃ (o g : Int) (b : Option Addr) (n c : Nat) (ps : List Int), v = .agg #[.int .u16 o, .int .u8 g, .slice b n c] ∧ n = ps.length ∧ ps.length ≤ maxLen ∧ ((0 ≤ o ∧ o ≤ 65535) ∧ 0 ≤ g ∧ g ≤ 255) ∧ IsPart w b ps := by
  obtain ⟨cs, rfl, hsz⟩ := okWide_struct Tryz.underlying111 hv
  obtain ⟨c0, c1, c2, rfl⟩ := array3 (hsz.trans ovenCells)
  obtain ⟨fuel, hf⟩ := h
  obtain ⟨y0, y1, y2, m, _, _, h0, h1, h2⟩ := Go.Deep.trod_struct3 Tryz.underlying111 hf
  simp [u16Cell5, u8Cell5, partsCells, Value.cells] at h0 h1 h2
  obtain ⟨o, rfl, wo⟩ := u16_cell5 h0
  obtain ⟨g, e1, _, wg⟩ := DataW.trod_int Tryz.underlying5 h1
  simp at e1
  subst e1
  have wg' := bounds_u8 wg
  rcases open_ints Tryz.underlying109 Tryz.underlying81 (by kernel_rfl) h2 with ⟨hcs, _⟩ | ⟨x, l, c, zs, hcs, _, hl, hm, hz, _, hcell, hwz⟩
  · simp at hcs
    subst hcs
    exact ⟨o, g, none, 0, 0, [], rfl, rfl, by simp, ⟨wo, wg'⟩, .inl rfl⟩
  · simp at hcs
    subst hcs
    have hz' : zs.length = c := by simpa using hz
    have hlen : (zs.take l).length = l := by rw [List.length_take]; omega
    refine ⟨o, g, some x, l, c, zs.take l, rfl, hlen.symm, by omega, ⟨wo, wg'⟩, ?_⟩
    by_cases h0 : l = 0
    · left; subst h0; simp
    · obtain ⟨b, off, spot⟩ := x
      have hc := hcell 0 (by omega)
      have hspot : spot = none := by simpa [Addr.add] using World.cell?_spot hc
      subst hspot
      refine .inr ⟨b, off, rfl, fun i hi => ?_⟩
      rw [hlen] at hi
      have hci := hcell i (by omega)
      have hadd : (⟨b, off, none⟩ : Addr).add i = ⟨b, off + i, none⟩ := by
        by_cases hz : i = 0
        · subst hz; simp [Addr.add]
        · simp [Addr.add, hz]
      rw [hadd] at hci
      have e : (zs.take l).getD i 0 = zs.getD i 0 := by simp [List.getD_eq_getElem?_getD, List.getElem?_take, hi]
      have hmem : zs.getD i 0 ∈ zs := by
        have h2 : i < zs.length := by omega
        rw [List.getD_eq_getElem?_getD, List.getElem?_eq_getElem h2, Option.getD_some]
        exact List.getElem_mem h2
      rw [e]
      exact ⟨hci, bounds_u16 (hwz _ hmem)⟩
/-- A slice of steps that came in is no longer than its memory. -/
theorem heats_cap {H : Type} {enc : TypeId × Value → H} {w : World} {b : Option Addr} {n c : Nat} {d : DataW H} {p : List MemPlace} (h : DataW.Trod enc Tryz.prog w 0 (fun _ => true) true 75 (.slice b n c) d p) : n ≤ c := by
  obtain ⟨fuel, hf⟩ := h
  rcases Go.Deep.open_slice Tryz.underlying75 hf with ⟨hcs, _⟩ | ⟨x, l, c', m, k, D, Pl, hcs, _, hl, hm, hmm, _, hx⟩
  · simp [Value.cells] at hcs
    omega
  · simp [Value.cells] at hcs
    omega
theorem heats_take {w : World} {a : Option Addr} {hs : List Heat} (h : IsHeats w a hs) (k : Nat) : IsHeats w a (hs.take k) := by
  rcases h with h | ⟨b, off, e, h⟩
  · exact .inl (by rw [h]; simp)
  · refine .inr ⟨b, off, e, fun i hi => ?_⟩
    rw [List.length_take] at hi
    have g := h i (by omega)
    have e : (hs.take k).getD i default = hs.getD i default := by
      rw [List.getD_eq_getElem?_getD, List.getD_eq_getElem?_getD, List.getElem?_take, if_pos (by omega)]
    rw [e]
    exact g
end Go.Proofs.YtlpdbjkpgfpjjaaGreat
