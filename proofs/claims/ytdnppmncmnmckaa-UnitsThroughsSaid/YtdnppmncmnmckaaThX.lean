/-
  UnitsThroughs: the walk.
-/
import Derived.Test.YtdnppmncmnmckaaThL
import Derived.BigQuiet
namespace Go.Proofs.Ytdnppmncmnmckaa
set_option linter.unusedSimpArgs false
set_option linter.unusedVariables false
open Go.RowKit

theorem one_cellT {W : World} {ad : Addr} {v : Value} (h : W.cell? ad = some v) : ∀ j u, ([v] : List Value)[j]? = some u → W.cell? (ad.add j) = some u := by
  intro j u hu
  match j, hu with
  | 0, hu =>
    simp at hu
    subst hu
    simpa [Addr.add] using h
  | j + 1, hu => simp at hu
theorem short_of {us ts : List Tb} (hm : us.map Tb.ks = ts.map Tb.ks) (h : ∀ u ∈ us, u.ks.length ≤ 70) : ∀ i, i < ts.length → (ts.getD i default).ks.length ≤ 70 := by
  intro i hi
  have e : ts.getD i default = ts[i] := by simp [List.getD_eq_getElem?_getD, hi]
  rw [e]
  have m : ts[i].ks ∈ us.map Tb.ks := by rw [hm]; exact List.mem_map.2 ⟨ts[i], List.getElem_mem hi, rfl⟩
  obtain ⟨u, hu, e2⟩ := List.mem_map.1 m
  rw [← e2]
  exact h u hu
/-- The tables that came in. -/
def TabsIn (w : World) (a : Option Addr) (ts : List Tb) : Prop :=
  ts = [] ∨ ∃ b off, a = some ⟨b, off, none⟩ ∧ ∀ i, i < ts.length → w.cell? ⟨b, off + i, none⟩ = some (.slice (ts.getD i default).a (ts.getD i default).ks.length (ts.getD i default).cap) ∧ IsPairs w (ts.getD i default).a (ts.getD i default).ks ∧ Wide (ts.getD i default).ks ∧ ((ts.getD i default).a = none → (ts.getD i default).cap = 0 ∧ (ts.getD i default).ks = []) ∧ (ts.getD i default).ks.length ≤ maxLen
theorem tabsIn_later {w W : World} {a : Option Addr} {ts : List Tb} (h : TabsIn w a ts) (hb : Below w.heap.size w W) : TabsIn W a ts := by
  rcases h with h | ⟨b, off, e, h⟩
  · exact .inl h
  · exact .inr ⟨b, off, e, fun i hi => ⟨later hb (h i hi).1, pairs_later (h i hi).2.1 hb, (h i hi).2.2⟩⟩
theorem tabsIn_is {w : World} {a : Option Addr} {ts : List Tb} (h : TabsIn w a ts) (hl : ∀ i, i < ts.length → (ts.getD i default).ks.length ≤ 70) : IsTabs w a ts := by
  rcases h with h | ⟨b, off, e, h⟩
  · exact .inl h
  · exact .inr ⟨b, off, e, fun i hi => ⟨(h i hi).1, (h i hi).2.1, by have := hl i hi; omega⟩⟩
theorem tabsIn_wide {w : World} {a : Option Addr} {ts : List Tb} (h : TabsIn w a ts) : ∀ i, i < ts.length → Wide (ts.getD i default).ks := by
  intro i hi
  rcases h with h | ⟨b, off, e, h⟩
  · subst h; simp at hi
  · exact (h i hi).2.2.1

set_option maxRecDepth 100000 in
set_option maxHeartbeats 3200000 in
theorem throughs_long (ts : List Tb) (a : Option Addr) (cap : Nat) (lo hi : Int) (w : World) (hm : ts.length ≤ maxLen) (hl : 12 < ts.length) :
    Calls Try.prog 12 #[.slice a ts.length cap, .agg #[.int .i64 lo, .int .i64 hi]] w fun e w' => e = .returned (.bool true) ∧ Below w.heap.size w w' := by
  have d1 : decide (12 < (ts.length : Int)) = true := decide_eq_true (by omega)
  unfold maxLen at hm
  go_enter Try.func12, Try.ntmps12
  go_wp2_with fail
  refine (known_any _).mono ?_
  rintro e w1 ⟨rfl, hb1⟩
  go_wp2_with fail
  go_ret
  exact ⟨rfl, (by repeat (first | exact Below.refl _ _ | assumption | apply balloc | apply bdrew | (refine bset ?_ (by first | (simp; done) | omega | (simp; omega)) _) | (refine bnext ?_ (by assumption))))⟩

set_option maxRecDepth 100000 in
set_option maxHeartbeats 6400000 in
theorem throughs_go (ts : List Tb) (a : Option Addr) (cap : Nat) (lo hi : Int) (w : World) (hl : ts.length ≤ 12) (h : Hid (TabsIn w a ts)) :
    Calls Try.prog 12 #[.slice a ts.length cap, .agg #[.int .i64 lo, .int .i64 hi]] w fun e w' => e = .returned (.bool true) ∧ Below w.heap.size w w' := by
  have d1 : decide (12 < (ts.length : Int)) = false := decide_eq_false (by omega)
  obtain ⟨ti, hi', hz0, hz1, hz2⟩ := info_parts knots_info
  have TI := hide hi'
  have HZ0 := hide hz0
  have HZ1 := hide hz1
  have HZ2 := hide hz2
  clear hi' hz0 hz1 hz2
  have OWN := hide (World.ownsRow_lit (base := w.heap.size + 1) (e := 59) (size := 1) (w.alloc (.cells #[.int .i64 lo, .int .i64 hi] 46)) #[] 0 (by simp) (by unfold maxLen; omega) rfl)
  go_enter Try.func12, Try.ntmps12
  go_wp2_with fail
  go_loopw [5, 6] (fun v i wr => ∃ k : Nat, k ≤ ts.length ∧ i = .int .i64 (k : Int) ∧ CopyAt (w.heap.size + 1) ts k v wr ∧ (wr.cell? ⟨w.heap.size, 0, none⟩ = some (.int .i64 lo) ∧ wr.cell? ⟨w.heap.size, 1, none⟩ = some (.int .i64 hi)) ∧ Below w.heap.size w wr) (fun _ i _ => ts.length - (intOf i).toNat)
  case atStart => exact ⟨0, by omega, rfl, ⟨[], rfl, rfl, ⟨_, _, rfl⟩, (by simpa using OWN.out), fun u hu => by simp at hu⟩, ⟨(by simp [go_sem, World.cell?_alloc_past]), (by simp [go_sem, World.cell?_alloc_past])⟩, (by repeat (first | exact Below.refl _ _ | assumption | apply balloc | apply bdrew | (refine bset ?_ (by first | (simp; done) | omega | (simp; omega)) _) | (refine bnext ?_ (by assumption))))⟩
  case round =>
    obtain ⟨k, hk, rfl, hcp, ⟨p0, p1⟩, hb⟩ := hrel
    by_cases hlt : k < ts.length
    · obtain ⟨b, off, rfl, ht⟩ : ∃ b off, a = some ⟨b, off, none⟩ ∧ ∀ i, i < ts.length → wr.cell? ⟨b, off + i, none⟩ = some (.slice (ts.getD i default).a (ts.getD i default).ks.length (ts.getD i default).cap) ∧ IsPairs wr (ts.getD i default).a (ts.getD i default).ks ∧ Wide (ts.getD i default).ks ∧ ((ts.getD i default).a = none → (ts.getD i default).cap = 0 ∧ (ts.getD i default).ks = []) ∧ (ts.getD i default).ks.length ≤ maxLen := by
        rcases tabsIn_later h.out hb with h | h
        · subst h; simp at hlt
        · exact h
      obtain ⟨t1, t2, _, t4, t5⟩ := ht k hlt
      have tk1 : (ts.take (k + 1)).map Tb.ks = (ts.take k).map Tb.ks ++ [(ts.getD k default).ks] := by
        rw [List.take_succ_eq_append_getElem hlt, List.map_append]
        simp [List.getD_eq_getElem?_getD, hlt]
      generalize ts.getD k default = t at *
      obtain ⟨ta, tc, tk⟩ := t
      simp only at t1 t2 t4 t5 tk1
      unfold maxLen at t5
      have TK := hide tk1
      have T2 := hide t2
      have T4 := hide t4
      have HCP := hide hcp
      have hk00 : 0 ≤ (k : Int) := by omega
      have hkl0 : (k : Int) < (ts.length : Int) := by omega
      clear ht tk1 t2 t4 hcp
      by_cases h70 : 70 < tk.length
      · have d2 : decide (70 < (tk.length : Int)) = true := decide_eq_true (by omega)
        have h70' : (70 : Int) < (tk.length : Int) := by omega
        go_wp2_with fail
        refine (known_any _).mono ?_
        rintro e w6 ⟨rfl, hb6⟩
        go_wp2_with fail
        go_ret
        exact ⟨rfl, (by repeat (first | exact Below.refl _ _ | assumption | apply balloc | apply bdrew | (refine bset ?_ (by first | (simp; done) | omega | (simp; omega)) _) | (refine bnext ?_ (by assumption))))⟩
      · have d2 : decide (70 < (tk.length : Int)) = false := decide_eq_false (by omega)
        have h70' : ¬ (70 : Int) < (tk.length : Int) := by omega
        have OK := hide (fun W (hbW : Below wr.heap.size wr W) => ownKnots_owns ta tc tk W (by omega) T4.out (pairs_later T2.out hbW))
        obtain ⟨us, hul, hum, ⟨g0, c0, hv⟩, ho, hc⟩ := HCP.out
        subst hv
        have HO := hide ho
        have HC := hide hc
        have HUL := hide hul
        have HUM := hide hum
        clear HCP ho hc hul hum
        go_wp2_with fail
        refine (OK.out _ (by exact (by repeat (first | exact Below.refl _ _ | assumption | apply balloc | apply bdrew | (refine bset ?_ (by first | (simp; done) | omega | (simp; omega)) _) | (refine bnext ?_ (by assumption)))))).mono ?_
        rintro e w1 ⟨cv, rfl, hown1, hb1⟩
        obtain ⟨b1, c1, rfl, _, _⟩ := pairs_of_own hown1
        have HO1 := hide hown1
        have HB1 := hide hb1
        have HP := hide (show (wr.cell? ⟨w.heap.size, 0, none⟩ = some (.int .i64 lo) ∧ wr.cell? ⟨w.heap.size, 1, none⟩ = some (.int .i64 hi)) from ⟨p0, p1⟩)
        have HB := hide hb
        clear hown1 hb1 p0 p1 t1 hb
        go_wp2_with (at_builtin; refine wpList_append_lies _ rfl (.tmp 31) (.tmp 37) 69 rfl (w.heap.size + 1) 59 ti (Value.slice none 0 0) 1 24 Try.underlying69 TI.out HZ0.out HZ1.out HZ2.out rfl (by decide) _ k (us.map tbV) rfl ((owns_later HO.out HB1.out).alloc _) _ 1 1 [Value.slice b1 tk.length c1] rfl rfl ?_ ?_ (by decide) ?_ ?_ ?_ _ rfl ?_)
        · exact one_cellT (by simp [go_sem, World.cell?_alloc_past])
        · intro u hu; simp at hu; subst hu; rfl
        · unfold maxLen; omega
        · omega
        · have s1 := HB1.out.size
          have s2 := (HO.out.lt g0 rfl)
          simp; omega
        · intro g gc w3 hown3 hgrow hx hlt3
          have G0 := HO.out.lt g0 rfl
          have hvb : ∀ k', (Value.slice (some ⟨g0, 0, none⟩) k c0).ownBlock = some k' → k' < wr.heap.size := fun k' hk' => (HO.out.lt k' hk').2
          have hx' : (Value.slice (some ⟨g0, 0, none⟩) k c0).ownBlock = some g ∨ g = (w1.alloc (.cells #[.slice b1 tk.length c1] 59)).heap.size := hx.imp id (fun e => by rw [e]; simp)
          obtain ⟨u, hu1, hu2, hu3⟩ := copied_new (ks := tk) (by omega) HO1.out hvb HB1.out hgrow hx'
          have hne : some w.heap.size ≠ (Value.slice (some ⟨g0, 0, none⟩) k c0).ownBlock := by simp [Value.ownBlock]; omega
          have hsz := HB1.out.size
          have hlt4 : w.heap.size < (w1.alloc (.cells #[.slice b1 tk.length c1] 59)).heap.size := by simp; omega
          have x0 : w3.cell? ⟨w.heap.size, 0, none⟩ = some (.int .i64 lo) := by rw [hgrow.cell_far ⟨w.heap.size, 0, none⟩ hlt4 hne]; exact later (balloc (Below.refl _ _)) (later HB1.out HP.out.1)
          have x1 : w3.cell? ⟨w.heap.size, 1, none⟩ = some (.int .i64 hi) := by rw [hgrow.cell_far ⟨w.heap.size, 1, none⟩ hlt4 hne]; exact later (balloc (Below.refl _ _)) (later HB1.out HP.out.2)
          have N := hide (show CopyAt (w.heap.size + 1) ts (k + 1) (.slice (some ⟨g, 0, none⟩) (k + 1) gc) w3 from ⟨us ++ [u], by simp [HUL.out], by rw [List.map_append, HUM.out, TK.out]; simp [hu2], ⟨g, gc, rfl⟩, by
              rw [List.map_append]
              simpa [← hu1] using hown3, by
              intro t ht
              rcases List.mem_append.1 ht with ht | ht
              · exact copied_next (HC.out t ht) HB1.out hgrow hx'
              · simp at ht; subst ht; exact hu3⟩)
          have XC := hide (show (w3.cell? ⟨w.heap.size, 0, none⟩ = some (.int .i64 lo) ∧ w3.cell? ⟨w.heap.size, 1, none⟩ = some (.int .i64 hi)) from ⟨x0, x1⟩)
          have B3 := hide (Below.grown (balloc (o := .cells #[.slice b1 tk.length c1] 59) (bnext HB.out HB1.out)) hgrow (by omega) (fun k' hk' => by have := (HO.out.lt k' hk').1; omega))
          clear hown3 hgrow hx hx' hvb hu1 hu2 hu3 hne x0 x1
          go_wp2_with fail
          go_roundw
          case rel => exact ⟨k + 1, by omega, by go_num, N, XC, B3⟩
          case measure => simp [intOf]; omega
    · obtain rfl : k = ts.length := by omega
      have hs : ∀ i, i < ts.length → (ts.getD i default).ks.length ≤ 70 := by
        obtain ⟨us, _, hm, _, _, hc⟩ := hcp
        rw [List.take_of_length_le (Nat.le_refl _)] at hm
        exact short_of hm fun u hu => (hc u hu).1
      obtain ⟨us, g, c, rfl, hul, hum, hit⟩ := tabs_of_copy hcp
      rw [List.take_of_length_le (Nat.le_refl _)] at hum
      obtain ⟨R, hR⟩ : ∃ R, thrQ ts lo hi = R := ⟨_, rfl⟩
      obtain ⟨rx, ry, ra, rE⟩ := R
      have hR2 : thrQ us lo hi = (rx, ry, ra, rE) := (thrQ_congr hum lo hi).trans hR
      have TH := hide (fun W (hbW : Below wr.heap.size wr W) => (show Calls Try.prog 57 #[.slice (some ⟨g, 0, none⟩) us.length c, .agg #[.int .i64 lo, .int .i64 hi]] W fun e w' => e = .returned (.tuple #[.agg #[.int .i64 rx, .int .i64 ry], .int .i64 ra, .int .i64 rE]) ∧ Below W.heap.size W w' by have := through_any us (some ⟨g, 0, none⟩) c lo hi W (by omega) (tabs_later hit hbW); rwa [hR2] at this))
      have HI := hide (tabsIn_is (tabsIn_later h.out hb) hs)
      have RT := hide (fun W (hbW : Below wr.heap.size wr W) => (show Calls Try.prog 58 #[.slice a ts.length cap, .agg #[.int .i64 lo, .int .i64 hi]] W fun e w' => e = .returned (.tuple #[.agg #[.int .i64 rx, .int .i64 ry], .int .i64 ra, .int .i64 rE]) ∧ Below W.heap.size W w' by have := refThrough_any ts a cap lo hi W (by omega) (tabs_later HI.out hbW) (tabsIn_wide h.out); rwa [hR] at this))
      clear hs hcp hit hum hR hR2 HI hul
      go_wp2_with fail
      refine (TH.out _ (Below.refl _ _)).mono ?_
      rintro e w1 ⟨rfl, hb1⟩
      have y0 := fun o => later (balloc (o := o) (Below.refl _ _)) (later hb1 p0)
      have y1 := fun o => later (balloc (o := o) (Below.refl _ _)) (later hb1 p1)
      clear p0 p1
      go_wp2_with fail
      refine (RT.out _ (by exact (by repeat (first | exact Below.refl _ _ | assumption | apply balloc | apply bdrew | (refine bset ?_ (by first | (simp; done) | omega | (simp; omega)) _) | (refine bnext ?_ (by assumption)))))).mono ?_
      rintro e w2 ⟨rfl, hb2⟩
      have x0 := fun o => later (balloc (o := o) (Below.refl _ _)) (later hb2 (a := ⟨w1.heap.size, 0, none⟩) (v := .int .i64 rx) (by simp [go_sem, World.cell?_alloc_past]))
      have x1 := fun o => later (balloc (o := o) (Below.refl _ _)) (later hb2 (a := ⟨w1.heap.size, 1, none⟩) (v := .int .i64 ry) (by simp [go_sem, World.cell?_alloc_past]))
      clear y0 y1
      go_wp2_with fail
      refine (known_any _).mono ?_
      rintro e w7 ⟨rfl, hb7⟩
      go_wp2_with fail
      go_ret
      exact ⟨rfl, (by repeat (first | exact Below.refl _ _ | assumption | apply balloc | apply bdrew | (refine bset ?_ (by first | (simp; done) | omega | (simp; omega)) _) | (refine bnext ?_ (by assumption))))⟩

theorem unitsThroughs_walk (ts : List Tb) (a : Option Addr) (cap : Nat) (lo hi : Int) (w : World) (hl : ts.length ≤ maxLen) (h : TabsIn w a ts) :
    Calls Try.prog 12 #[.slice a ts.length cap, .agg #[.int .i64 lo, .int .i64 hi]] w fun e w' => e = .returned (.bool true) ∧ Below w.heap.size w w' := by
  by_cases h1 : 12 < ts.length
  · exact throughs_long ts a cap lo hi w hl h1
  · exact throughs_go ts a cap lo hi w (by omega) h
end Go.Proofs.Ytdnppmncmnmckaa

namespace Go.Proofs.Ytdnppmncmnmckaa
set_option linter.unusedSimpArgs false
set_option linter.unusedVariables false
open Go.RowKit Go.ChangeShapes Go.WideShapes Go.ChangeAt Go.Joins

set_option maxRecDepth 100000 in
/-- A table inside another slice. -/
theorem knots_of {H : Type} {enc : TypeId × Value → H} {w : World} {fuel : Nat} {c : Value} {x : DataW H × List MemPlace}
    (hf : DataW.trod enc Try.prog w 0 (fun _ => true) true fuel 59 [c] = some x) :
    ∃ t : Tb, c = .slice t.a t.ks.length t.cap ∧ IsPairs w t.a t.ks ∧ Wide t.ks ∧ (t.a = none → t.cap = 0 ∧ t.ks = []) ∧ t.ks.length ≤ maxLen := by
  rcases Go.Deep.open_slice_pairs Try.underlying59 Try.underlying64 knotCells rfl rfl (by kernel_rfl) (by kernel_rfl) hf with ⟨hcs, _⟩ | ⟨x, l, c, m, n, V0, V1, D0, D1, P0, P1, hcs, _, hl, hm, hmm, _, hx⟩
  · simp at hcs
    subst hcs
    exact ⟨⟨none, 0, []⟩, rfl, .inl rfl, fun i hi => by simp at hi, fun _ => ⟨rfl, rfl⟩, by simp⟩
  · simp at hcs
    subst hcs
    have hlm : l ≤ m := by rw [hmm]; simp; omega
    have num : ∀ i, i < m → ∃ q : Int × Int, (V0 i = .int .i64 q.1 ∧ V1 i = .int .i64 q.2) ∧ (-9223372036854775808 ≤ q.1 ∧ q.1 ≤ 9223372036854775807) ∧ -9223372036854775808 ≤ q.2 ∧ q.2 ≤ 9223372036854775807 := by
      intro i hi
      obtain ⟨_, _, t0, t1⟩ := hx i hi
      obtain ⟨n0, e0, _, w0⟩ := DataW.trod_int Try.underlying3 t0
      obtain ⟨n1, e1, _, w1⟩ := DataW.trod_int Try.underlying3 t1
      simp at e0 e1
      exact ⟨(n0, n1), ⟨e0, e1⟩, bounds_i64 w0, bounds_i64 w1⟩
    have pick : ∃ f : Nat → Int × Int, ∀ i, i < m → (V0 i = .int .i64 (f i).1 ∧ V1 i = .int .i64 (f i).2) ∧ (-9223372036854775808 ≤ (f i).1 ∧ (f i).1 ≤ 9223372036854775807) ∧ -9223372036854775808 ≤ (f i).2 ∧ (f i).2 ≤ 9223372036854775807 := by
      refine ⟨fun i => if hi : i < m then Classical.choose (num i hi) else (0, 0), fun i hi => ?_⟩
      simp only [hi, dif_pos]
      exact Classical.choose_spec (num i hi)
    obtain ⟨f, hfp⟩ := pick
    have hlen : ((List.range l).map f).length = l := by simp
    have hg : ∀ i, i < l → ((List.range l).map f).getD i (0, 0) = f i := fun i hi => by
      rw [List.getD_eq_getElem?_getD, List.getElem?_map, List.getElem?_range hi]; rfl
    refine ⟨⟨some x, c, (List.range l).map f⟩, by rw [hlen], ?_, ?_, (fun h => by cases h), by rw [hlen]; omega⟩
    · by_cases h0 : l = 0
      · left; subst h0; simp
      · obtain ⟨b, off, spot⟩ := x
        have hc := (hx 0 (by omega)).1
        have hspot : spot = none := by simpa [Addr.add] using World.cell?_spot hc
        subst hspot
        refine .inr ⟨b, off, rfl, fun i hi => ?_⟩
        rw [hlen] at hi
        obtain ⟨q0, q1, _, _⟩ := hx i (by omega)
        obtain ⟨v0, v1⟩ := (hfp i (by omega)).1
        have hadd : ∀ j, (⟨b, off, none⟩ : Addr).add j = ⟨b, off + j, none⟩ := by
          intro j
          by_cases hz : j = 0
          · subst hz; simp [Addr.add]
          · simp [Addr.add, hz]
        rw [hadd, v0] at q0
        rw [hadd, v1, ← Nat.add_assoc] at q1
        simp only
        rw [hg i hi]
        exact ⟨q0, q1⟩
    · intro i hi
      simp only at hi ⊢
      rw [hlen] at hi
      unfold kX kY
      rw [hg i hi]
      exact (hfp i (by omega)).2
theorem tabCell : Try.prog.cellsOf 59 = 1 := by kernel_rfl
set_option maxRecDepth 100000 in
/-- Tables that came in. -/
theorem open_tabsS {H : Type} {enc : TypeId × Value → H} {w : World} {b0 : Nat} {r : Reach} {v : Value} {d : DataW H} {p : List MemPlace}
    (hv : Value.okWide Try.prog w r b0 69 v) (h : DataW.Trod enc Try.prog w 0 (fun _ => true) true 69 v d p) :
    ∃ (a : Option Addr) (n cap : Nat) (ts : List Tb), v = .slice a n cap ∧ n = ts.length ∧ ts.length ≤ maxLen ∧ TabsIn w a ts := by
  obtain ⟨a, len, cap, rfl⟩ := okWide_slice Try.underlying69 hv
  obtain ⟨fuel, hf⟩ := h
  rcases Go.Deep.open_slice1 Try.underlying69 tabCell hf with ⟨hcs, _⟩ | ⟨x, l, c, m, n, V, D, Pl, hcs, _, hl, hm, hmm, _, hx⟩
  · simp [Value.cells] at hcs
    obtain ⟨rfl, rfl, rfl⟩ := hcs
    exact ⟨none, 0, 0, [], rfl, rfl, by simp, .inl rfl⟩
  · simp [Value.cells] at hcs
    obtain ⟨rfl, rfl, rfl⟩ := hcs
    have hlm : len ≤ m := by rw [hmm]; simp; omega
    have tab : ∀ i, i < m → ∃ t : Tb, w.cell? (x.add i) = some (.slice t.a t.ks.length t.cap) ∧ IsPairs w t.a t.ks ∧ Wide t.ks ∧ (t.a = none → t.cap = 0 ∧ t.ks = []) ∧ t.ks.length ≤ maxLen := by
      intro i hi
      obtain ⟨h1, h2⟩ := hx i hi
      obtain ⟨t, e, k⟩ := knots_of h2
      exact ⟨t, by rw [h1, e], k⟩
    have pick : ∃ f : Nat → Tb, ∀ i, i < m → w.cell? (x.add i) = some (.slice (f i).a (f i).ks.length (f i).cap) ∧ IsPairs w (f i).a (f i).ks ∧ Wide (f i).ks ∧ ((f i).a = none → (f i).cap = 0 ∧ (f i).ks = []) ∧ (f i).ks.length ≤ maxLen := by
      refine ⟨fun i => if hi : i < m then Classical.choose (tab i hi) else default, fun i hi => ?_⟩
      simp only [hi, dif_pos]
      exact Classical.choose_spec (tab i hi)
    obtain ⟨f, hfp⟩ := pick
    have hlen : ((List.range len).map f).length = len := by simp
    have hg : ∀ i, i < len → ((List.range len).map f).getD i default = f i := fun i hi => by
      rw [List.getD_eq_getElem?_getD, List.getElem?_map, List.getElem?_range hi]; rfl
    refine ⟨some x, len, cap, (List.range len).map f, rfl, hlen.symm, by rw [hlen]; omega, ?_⟩
    by_cases h0 : len = 0
    · left; subst h0; simp
    · obtain ⟨b, off, spot⟩ := x
      have hc := (hfp 0 (by omega)).1
      have hspot : spot = none := by simpa [Addr.add] using World.cell?_spot hc
      subst hspot
      refine .inr ⟨b, off, rfl, fun i hi => ?_⟩
      rw [hlen] at hi
      have F := hfp i (by omega)
      have hadd : (⟨b, off, none⟩ : Addr).add i = ⟨b, off + i, none⟩ := by
        by_cases hz : i = 0
        · subst hz; simp [Addr.add]
        · simp [Addr.add, hz]
      rw [hadd] at F
      rw [hg i hi]
      exact F
end Go.Proofs.Ytdnppmncmnmckaa
