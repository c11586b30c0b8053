/-
  What each statement's frame uses: slices of ranges opened.
-/
import Derived.Test.YtimfbjnpalgmcaaGreatFrameC
import Derived.Deep.SlicePairs
namespace Go.Proofs.YtimfbjnpalgmcaaGreat
set_option linter.unusedSimpArgs false
set_option linter.unusedVariables false
open Go.ChangeShapes Go.WideShapes Go.ChangeAt Go.RowKit Go.Joins

set_option maxRecDepth 100000 in
/-- A slice of ranges that came in. -/
theorem open_rangesS {H : Type} {enc : TypeId × Value → H} {w : World} {b0 : Nat} {r : Reach} {v : Value} {d : DataW H} {p : List MemPlace}
    (hv : Value.okWide Tryz.prog w r b0 41 v) (h : DataW.Trod enc Tryz.prog w 0 (fun _ => true) true 41 v d p) :
    ∃ (a : Option Addr) (n cap : Nat) (zs : List (Int × Int)), v = .slice a n cap ∧ n = zs.length ∧ (zs.length ≤ maxLen ∧ (a = none → cap = 0 ∧ zs = [])) ∧ IsPairs w a zs := by
  obtain ⟨a, len, cap, rfl⟩ := okWide_slice Tryz.underlying41 hv
  obtain ⟨fuel, hf⟩ := h
  rcases Go.Deep.open_slice_pairs Tryz.underlying41 Tryz.underlying23 rangeCells rfl rfl (by kernel_rfl) (by kernel_rfl) hf with ⟨hcs, _⟩ | ⟨x, l, c, m, n, V0, V1, D0, D1, P0, P1, hcs, _, hl, hm, hmm, _, hx⟩
  · simp [Value.cells] at hcs
    obtain ⟨rfl, rfl, rfl⟩ := hcs
    exact ⟨none, 0, 0, [], rfl, rfl, ⟨by simp, fun _ => ⟨rfl, rfl⟩⟩, .inl rfl⟩
  · simp [Value.cells] at hcs
    obtain ⟨rfl, rfl, rfl⟩ := hcs
    have hlm : len ≤ m := by rw [hmm]; simp; omega
    have num : ∀ i, i < m → ∃ q : Int × Int, V0 i = .int .i64 q.1 ∧ V1 i = .int .i64 q.2 := by
      intro i hi
      obtain ⟨_, _, t0, t1⟩ := hx i hi
      obtain ⟨n0, e0, _, _⟩ := DataW.trod_int Tryz.underlying3 t0
      obtain ⟨n1, e1, _, _⟩ := DataW.trod_int Tryz.underlying3 t1
      simp at e0 e1
      exact ⟨(n0, n1), e0, e1⟩
    have pick : ∃ f : Nat → Int × Int, ∀ i, i < m → V0 i = .int .i64 (f i).1 ∧ V1 i = .int .i64 (f i).2 := by
      refine ⟨fun i => if hi : i < m then Classical.choose (num i hi) else (0, 0), fun i hi => ?_⟩
      simp only [hi, dif_pos]
      exact Classical.choose_spec (num i hi)
    obtain ⟨f, hfp⟩ := pick
    have hlen : ((List.range len).map f).length = len := by simp
    refine ⟨some x, len, cap, (List.range len).map f, rfl, hlen.symm, ⟨by rw [hlen]; omega, fun h => by cases h⟩, ?_⟩
    by_cases h0 : len = 0
    · left; subst h0; simp
    · obtain ⟨b, off, spot⟩ := x
      have hc := (hx 0 (by omega)).1
      have hspot : spot = none := by simpa [Addr.add] using World.cell?_spot hc
      subst hspot
      refine .inr ⟨b, off, rfl, fun i hi => ?_⟩
      rw [hlen] at hi
      obtain ⟨q0, q1, _, _⟩ := hx i (by omega)
      obtain ⟨v0, v1⟩ := hfp i (by omega)
      have hadd : ∀ j, (⟨b, off, none⟩ : Addr).add j = ⟨b, off + j, none⟩ := by
        intro j
        by_cases hz : j = 0
        · subst hz; simp [Addr.add]
        · simp [Addr.add, hz]
      rw [hadd, v0] at q0
      rw [hadd, v1, ← Nat.add_assoc] at q1
      have hg : ((List.range len).map f).getD i (0, 0) = f i := by
        rw [List.getD_eq_getElem?_getD, List.getElem?_map, List.getElem?_range hi]; rfl
      rw [hg]
      exact ⟨q0, q1⟩
end Go.Proofs.YtimfbjnpalgmcaaGreat
