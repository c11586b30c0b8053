/-
  What the frames of chapter 5's statements use: growths opened.
-/
import Derived.Test.YtimfbjnpalgmcaaGreatFrameS
import Derived.Test.YtimfbjnpalgmcaaGreatGrR
import Derived.Test.YtimfbjnpalgmcaaGreatGrG
namespace Go.Proofs.YtimfbjnpalgmcaaGreat
set_option linter.unusedSimpArgs false
set_option linter.unusedVariables false
open Go.ChangeShapes Go.WideShapes Go.ChangeAt Go.RowKit Go.Joins

theorem growthCells : Tryz.prog.cellsOf 58 = 4 := by kernel_rfl
theorem knotsCell5 : Tryz.prog.cellsOf 56 = 1 := by kernel_rfl
theorem rangesCell5 : Tryz.prog.cellsOf 41 = 1 := by kernel_rfl
theorem knotCells5 : Tryz.prog.cellsOf 102 = 2 := by kernel_rfl
theorem array4 {α : Type} {cs : Array α} (h : cs.size = 4) : ∃ c0 c1 c2 c3, cs = #[c0, c1, c2, c3] := by
  obtain ⟨l⟩ := cs
  match l, h with
  | [c0, c1, c2, c3], _ => exact ⟨c0, c1, c2, c3, rfl⟩
/-- Pairs of integers behind a slice in one cell. -/
theorem pairs_cell {H : Type} {enc : TypeId × Value → H} {w : World} {t e : TypeId} {f0 f1 : Field} {fuel : Nat} {c : Value} {x : DataW H × List MemPlace} (ht : Tryz.prog.underlying t = some (.slice e)) (he : Tryz.prog.underlying e = some (.struct #[f0, f1]))
    (ce : Tryz.prog.cellsOf e = 2) (o0 : f0.offset = 0) (o1 : f1.offset = 1) (c0 : f0.type = 3) (c1 : f1.type = 3) (h : DataW.trod enc Tryz.prog w 0 (fun _ => true) true fuel t [c] = some x) :
    ∃ (a : Option Addr) (n cap : Nat) (zs : List (Int × Int)), c = .slice a n cap ∧ n = zs.length ∧ (zs.length ≤ maxLen ∧ (a = none → cap = 0 ∧ zs = [])) ∧ IsPairs w a zs ∧ Wide zs := by
  rcases Go.Deep.open_slice_pairs ht he ce o0 o1 (by rw [c0]; kernel_rfl) (by rw [c1]; kernel_rfl) h with ⟨hcs, _⟩ | ⟨x, len, cap, m, n, V0, V1, D0, D1, P0, P1, hcs, _, hl, hm, hmm, _, hx⟩
  · simp at hcs
    exact ⟨none, 0, 0, [], hcs, rfl, ⟨by simp, fun _ => ⟨rfl, rfl⟩⟩, .inl rfl, fun i hi => by simp at hi⟩
  · simp at hcs
    have hlm : len ≤ m := by rw [hmm]; simp; omega
    have num : ∀ i, i < m → ∃ q : Int × Int, (V0 i = .int .i64 q.1 ∧ V1 i = .int .i64 q.2) ∧ (-9223372036854775808 ≤ q.1 ∧ q.1 ≤ 9223372036854775807) ∧ -9223372036854775808 ≤ q.2 ∧ q.2 ≤ 9223372036854775807 := by
      intro i hi
      obtain ⟨_, _, t0, t1⟩ := hx i hi
      rw [c0] at t0
      rw [c1] at t1
      obtain ⟨n0, e0, _, w0⟩ := DataW.trod_int Tryz.underlying3 t0
      obtain ⟨n1, e1, _, w1⟩ := DataW.trod_int Tryz.underlying3 t1
      simp at e0 e1
      exact ⟨(n0, n1), ⟨e0, e1⟩, bounds_i64 w0, bounds_i64 w1⟩
    have pick : ∃ f : Nat → Int × Int, ∀ i, i < m → (V0 i = .int .i64 (f i).1 ∧ V1 i = .int .i64 (f i).2) ∧ (-9223372036854775808 ≤ (f i).1 ∧ (f i).1 ≤ 9223372036854775807) ∧ -9223372036854775808 ≤ (f i).2 ∧ (f i).2 ≤ 9223372036854775807 := by
      refine ⟨fun i => if hi : i < m then Classical.choose (num i hi) else (0, 0), fun i hi => ?_⟩
      simp only [hi, dif_pos]
      exact Classical.choose_spec (num i hi)
    obtain ⟨f, hfp⟩ := pick
    have hlen : ((List.range len).map f).length = len := by simp
    have hg : ∀ i, i < len → ((List.range len).map f).getD i (0, 0) = f i := fun i hi => by
      rw [List.getD_eq_getElem?_getD, List.getElem?_map, List.getElem?_range hi]; rfl
    refine ⟨some x, len, cap, (List.range len).map f, hcs, hlen.symm, ⟨by rw [hlen]; omega, fun h => by cases h⟩, ?_, ?_⟩
    · by_cases h0 : len = 0
      · left; subst h0; simp
      · obtain ⟨b, off, spot⟩ := x
        have hc := (hx 0 (by omega)).1
        have hspot : spot = none := by simpa [Addr.add] using World.cell?_spot hc
        subst hspot
        refine .inr ⟨b, off, rfl, fun i hi => ?_⟩
        rw [hlen] at hi
        obtain ⟨q0, q1, _, _⟩ := hx i (by omega)
        obtain ⟨v0, v1⟩ := (hfp i (by omega)).1
        have hadd : ∀ j, (⟨b, off, none⟩ : Addr).add j = ⟨b, off + j, none⟩ := by
          intro j
          by_cases hz : j = 0
          · subst hz; simp [Addr.add]
          · simp [Addr.add, hz]
        rw [hadd, v0] at q0
        rw [hadd, v1, ← Nat.add_assoc] at q1
        rw [hg i hi]
        exact ⟨q0, q1⟩
    · intro i hi
      rw [hlen] at hi
      have e := hg i hi
      unfold kX kY
      rw [e]
      exact (hfp i (by omega)).2
set_option maxRecDepth 100000 in
/-- A growth that came in. -/
theorem open_growth {H : Type} {enc : TypeId × Value → H} {w : World} {b0 : Nat} {r : Reach} {v : Value} {d : DataW H} {p : List MemPlace}
    (hv : Value.okWide Tryz.prog w r b0 58 v) (h : DataW.Trod enc Tryz.prog w 0 (fun _ => true) true 58 v d p) :
    ∃ (g : Gr) (q : GrA), v = grV g q ∧ ((g.rs.length ≤ maxLen ∧ (q.ra = none → q.rc = 0 ∧ g.rs = [])) ∧ (g.zs.length ≤ maxLen ∧ (q.za = none → q.zc = 0 ∧ g.zs = [])) ∧ (g.fs.length ≤ maxLen ∧ (q.fa = none → q.fc = 0 ∧ g.fs = []))) ∧ IsGr w g q ∧ (Wide g.rs ∧ Wide g.fs) ∧ (-9223372036854775808 ≤ g.off ∧ g.off ≤ 9223372036854775807) := by
  obtain ⟨cs, rfl, hsz⟩ := okWide_struct Tryz.underlying58 hv
  obtain ⟨c0, c1, c2, c3, rfl⟩ := array4 (hsz.trans growthCells)
  obtain ⟨fuel, hf⟩ := h
  obtain ⟨xs, n, _, _, hl, hlen, hx⟩ := DataW.trod_struct Tryz.underlying58 hf
  match xs, hlen with
  | [y0, y1, y2, y3], _ =>
    have h0 := hx 0 _ rfl
    have h1 := hx 1 _ rfl
    have h2 := hx 2 _ rfl
    have h3 := hx 3 _ rfl
    simp [knotsCell5, rangesCell5, intCell5, Value.cells] at h0 h1 h2 h3
    obtain ⟨ra, rn, rc, rs, rfl, rfl, hr, ir, wr⟩ := pairs_cell Tryz.underlying56 Tryz.underlying102 knotCells5 rfl rfl rfl rfl h0
    obtain ⟨off, e1, _, wo⟩ := DataW.trod_int Tryz.underlying3 h1
    simp at e1
    subst e1
    obtain ⟨za, zn, zc, zs, rfl, rfl, hz, iz, _⟩ := pairs_cell Tryz.underlying41 Tryz.underlying23 range5Cells rfl rfl rfl rfl h2
    obtain ⟨fa, fn, fc, fs, rfl, rfl, hf', iff, wf⟩ := pairs_cell Tryz.underlying56 Tryz.underlying102 knotCells5 rfl rfl rfl rfl h3
    exact ⟨⟨rs, off, zs, fs⟩, ⟨ra, rc, za, zc, fa, fc⟩, rfl, ⟨hr, hz, hf'⟩, ⟨⟨ir, iz⟩, iff⟩, ⟨wr, wf⟩, bounds_i64 wo⟩
end Go.Proofs.YtimfbjnpalgmcaaGreat
