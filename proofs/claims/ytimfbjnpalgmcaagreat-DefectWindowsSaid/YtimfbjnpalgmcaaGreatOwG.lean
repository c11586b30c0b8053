/-
  The statements' own helpers of chapter 5: wide, zones, own. The statements' own helpers of chapter 5: zones, own.
-/
import Derived.Test.YtimfbjnpalgmcaaGreatDgL
import Derived.Test.YtimfbjnpalgmcaaGreatOwn
import Derived.Test.YtimfbjnpalgmcaaGreatApp
import Derived.Deep.RegionLawGrows
import Derived.Laws.AppendOwnNone
namespace Go.Proofs.YtimfbjnpalgmcaaGreat
set_option linter.unusedSimpArgs false
set_option linter.unusedVariables false
set_option linter.unusedSimpArgs false
set_option linter.unusedVariables false
open Go.RowKit

/-- Are some lists longer than is looked at? -/
def wideB (g : Gr) : Bool := decide ((70 : Int) < (g.rs.length : Int)) || (decide ((70 : Int) < (g.zs.length : Int)) || decide ((70 : Int) < (g.fs.length : Int)))
theorem wide_any (rs zs fs : List (Int × Int)) (off : Int) (ra za fa : Option Addr) (rc zc fc : Nat) (w : World) :
    Calls Tryz.prog 30 #[.agg #[.slice ra rs.length rc, .int .i64 off, .slice za zs.length zc, .slice fa fs.length fc]] w fun e w' => e = .returned (.bool (wideB ⟨rs, off, zs, fs⟩)) ∧ Below w.heap.size w w' := by
  by_cases h1 : (70 : Int) < (rs.length : Int)
  · have d1 : decide ((70 : Int) < (rs.length : Int)) = true := decide_eq_true h1
    have E : wideB ⟨rs, off, zs, fs⟩ = true := by unfold wideB; rw [d1]; rfl
    rw [E]
    go_enter Tryz.func30, Tryz.ntmps30
    go_wp2_with fail
    go_ret
    exact ⟨rfl, (by repeat (first | exact Below.refl _ _ | assumption | apply balloc | apply bdrew | (refine below_drewN ?_ _) | (refine bset ?_ (by first | (simp; done) | omega | (simp; omega)) _) | (refine bnext ?_ (by assumption))))⟩
  · have d1 : decide ((70 : Int) < (rs.length : Int)) = false := decide_eq_false h1
    by_cases h2 : (70 : Int) < (zs.length : Int)
    · have d2 : decide ((70 : Int) < (zs.length : Int)) = true := decide_eq_true h2
      have E : wideB ⟨rs, off, zs, fs⟩ = true := by unfold wideB; rw [d1, d2]; rfl
      rw [E]
      go_enter Tryz.func30, Tryz.ntmps30
      go_wp2_with fail
      go_ret
      exact ⟨rfl, (by repeat (first | exact Below.refl _ _ | assumption | apply balloc | apply bdrew | (refine below_drewN ?_ _) | (refine bset ?_ (by first | (simp; done) | omega | (simp; omega)) _) | (refine bnext ?_ (by assumption))))⟩
    · have d2 : decide ((70 : Int) < (zs.length : Int)) = false := decide_eq_false h2
      have E : wideB ⟨rs, off, zs, fs⟩ = decide ((70 : Int) < (fs.length : Int)) := by unfold wideB; rw [d1, d2]; rfl
      rw [E]
      cases h3 : decide ((70 : Int) < (fs.length : Int)) with
      | true =>
        go_enter Tryz.func30, Tryz.ntmps30
        go_wp2_with fail
        go_ret
        exact ⟨rfl, (by repeat (first | exact Below.refl _ _ | assumption | apply balloc | apply bdrew | (refine below_drewN ?_ _) | (refine bset ?_ (by first | (simp; done) | omega | (simp; omega)) _) | (refine bnext ?_ (by assumption))))⟩
      | false =>
        go_enter Tryz.func30, Tryz.ntmps30
        go_wp2_with fail
        go_ret
        exact ⟨rfl, (by repeat (first | exact Below.refl _ _ | assumption | apply balloc | apply bdrew | (refine below_drewN ?_ _) | (refine bset ?_ (by first | (simp; done) | omega | (simp; omega)) _) | (refine bnext ?_ (by assumption))))⟩
theorem knot_info5 : (Tryz.prog.info? 102).map (fun i => (i.zero, i.size, i.bytes)) = some (some (.agg #[.int .i64 0, .int .i64 0]), 2, 16) := by kernel_rfl
theorem append_none_pairs {T e : TypeId} {ti : TypeInfo} (ht : Tryz.prog.underlying T = some (.slice e)) (hi : Tryz.prog.info? e = some ti) (ty L : Nat) (w : World) : (Builtin.append_ #[T, T] ty #[.slice (some ⟨L, 0, none⟩) 0 0, .slice none 0 0]).run Tryz.prog w = .ok (.slice (some ⟨L, 0, none⟩) 0 0) w := by
  simp [Builtin.append_, run_underlying ht, sizeOf, typeInfo, hi, Builtin.lenOf, Builtin.firstCells, go_sem]
/-- A list of one's own of some pairs, as one step. -/
theorem step_pairs {T e : TypeId} {ti : TypeInfo} (ht : Tryz.prog.underlying T = some (.slice e)) (hti : Tryz.prog.info? e = some ti) (hz0 : ti.zero = some (.agg #[.int .i64 0, .int .i64 0])) (hz1 : ti.size = 2) (hz2 : ti.bytes = 16)
    {ops : Array Oper} {o : Oper} {a : Act} {w : World} {K : Act → World → Prop} {Q : Exit → Act → World → Prop} {E : Prop} (hgd : o.guard = none) (s x : Operand)
    (ho : o.op = .call { callee := .builtin .append, args := #[s, x], argTypes := #[T, T] }) (L : Nat) (hs : a.eval s = .slice (some ⟨L, 0, none⟩) 0 0)
    (b : Option Addr) (n c : Nat) (l : List (Int × Int)) (hn : n = l.length) (hx : a.eval x = .slice b n c) (hb : b = none → c = 0 ∧ l = []) (hl : l.length ≤ 1000) (hi : IsPairs w b l)
    (h : ∀ b' c' w', IsPairs w' b' l → ((b' = none → c' = 0 ∧ l = []) ∧ ∀ ad, b' = some ad → w.heap.size ≤ ad.block ∨ l = []) → Below w.heap.size w w' → K (a.put o.dst (.slice b' n c')) w') :
    if Region.wanted o (yielded ops a.tmps) = true then Oper.wp Tryz.prog o a w K Q else E := by
  subst hn
  cases b with
  | none =>
    obtain ⟨rfl, rfl⟩ := hb rfl
    have hw : Region.wanted o (yielded ops a.tmps) = true := by simp [Region.wanted, hgd]
    rw [if_pos hw]
    have hrun := append_none_pairs ht hti o.type L w
    unfold Oper.wp
    simp only [List.length_nil] at hx
    simp [execOp, ho, resolve, invoke, builtin, hs, hx, hrun, Result.andThen]
    exact h _ _ _ (.inl rfl) ⟨fun e => (by cases e), fun ad e => .inr rfl⟩ (Below.refl _ _)
  | some ad =>
    have hc := rowOf_cell rfl hi
    by_cases h0 : l.length = 0
    · have he := List.eq_nil_of_length_eq_zero h0
      subst he
      refine step_append_room hgd s x T ho e ti 2 ht hti hz1 L 0 0 0 hs ad 0 c [] hx rfl (fun j u hu => by simp at hu) (fun u hu => by simp at hu) (by omega) (fun j hj => by simp at hj) ?_
      exact h _ _ _ (.inl rfl) ⟨fun e => (by cases e), fun ad e => .inr rfl⟩ (by simpa [World.setCells] using Below.refl _ _)
    · refine step_append_grows hgd s x T ho e ti _ 2 16 ht hti hz0 hz1 hz2 rfl (by decide) (some ⟨L, 0, none⟩) 0 0 [] hs (fun h => by cases h) rfl (fun b hb j u hu => by simp at hu) ad l.length c (rowOf l) hx (rowOf_length l) hc rowOf_ones (by omega) (by unfold maxLen; omega) (by omega) ?_
      intro v' w' hown hgrow
      rw [List.nil_append, Nat.zero_add] at hown
      have hlt := hown.lt
      obtain ⟨b', c', rfl, hb', hp⟩ := pairs_of_own hown
      exact h _ _ _ hp ⟨hb', fun ad e => .inl (hlt ad.block (by rw [e]; rfl)).1⟩ (Below.grown (Below.refl _ _) hgrow (Nat.le_refl _) (fun k hk => by cases hk))
end Go.Proofs.YtimfbjnpalgmcaaGreat

namespace Go.Proofs.YtimfbjnpalgmcaaGreat
set_option linter.unusedSimpArgs false
set_option linter.unusedVariables false
set_option linter.unusedSimpArgs false
set_option linter.unusedVariables false
open Go.RowKit

theorem wpList_pairs {T e : TypeId} {ti : TypeInfo} (ht : Tryz.prog.underlying T = some (.slice e)) (hti : Tryz.prog.info? e = some ti) (hz0 : ti.zero = some (.agg #[.int .i64 0, .int .i64 0])) (hz1 : ti.size = 2) (hz2 : ti.bytes = 16)
    {ops : Array Oper} {rest : List Oper} {o : Oper} {a : Act} {w : World} {Q : Exit → Act → World → Prop} (hgd : o.guard = none) (s x : Operand)
    (ho : o.op = .call { callee := .builtin .append, args := #[s, x], argTypes := #[T, T] }) (L : Nat) (hs : a.eval s = .slice (some ⟨L, 0, none⟩) 0 0)
    (b : Option Addr) (n c : Nat) (l : List (Int × Int)) (hn : n = l.length) (hx : a.eval x = .slice b n c) (hb : b = none → c = 0 ∧ l = []) (hl : l.length ≤ 1000) (hi : IsPairs w b l)
    (h : ∀ b' c' w', IsPairs w' b' l → ((b' = none → c' = 0 ∧ l = []) ∧ ∀ ad, b' = some ad → w.heap.size ≤ ad.block ∨ l = []) → Below w.heap.size w w' → wpList Tryz.prog ops Q rest (a.put o.dst (.slice b' n c')) w') : wpList Tryz.prog ops Q (o :: rest) a w := by
  refine wpList_plain hgd fun K hK => ?_
  have hw : Region.wanted o (yielded ops a.tmps) = true := by simp [Region.wanted, hgd]
  have g := step_pairs (ops := ops) (K := K) (Q := Q) (E := True) ht hti hz0 hz1 hz2 hgd s x ho L hs b n c l hn hx hb hl hi (fun b' c' w' h1 h2 h3 => hK _ _ (h b' c' w' h1 h2 h3))
  rw [if_pos hw] at g
  exact g
/-- A list of pairs of one's own, told. -/
def ZoPost (w : World) (n : Nat) (l : List (Int × Int)) (e : Ending) (w' : World) : Prop := ∃ q c, e = .returned (.slice q n c) ∧ ((q = none → c = 0 ∧ l = []) ∧ ∀ ad, q = some ad → w.heap.size ≤ ad.block ∨ l = []) ∧ IsPairs w' q l ∧ Below w.heap.size w w'
theorem zones_any (l : List (Int × Int)) (a : Option Addr) (n c : Nat) (w : World) (hn : n = l.length) (hb : a = none → c = 0 ∧ l = []) (hl : l.length ≤ 1000) (h : IsPairs w a l) :
    Calls Tryz.prog 24 #[.slice a n c] w (ZoPost w n l) := by
  obtain ⟨ti, hi, hz0, hz1, hz2⟩ := info_parts range_info
  have HI := hide hi
  have HZ0 := hide hz0
  have HZ1 := hide hz1
  have HZ2 := hide hz2
  have HN := hide hn
  have HB := hide hb
  have HL := hide hl
  have HP := hide h
  clear hi hz0 hz1 hz2 hn hb hl h
  go_enter Tryz.func24, Tryz.ntmps24
  go_wp2_with (at_builtin; refine wpList_pairs Tryz.underlying41 HI.out HZ0.out HZ1.out HZ2.out rfl (.tmp 3) (.tmp 4) rfl _ rfl a n c l HN.out rfl HB.out HL.out (pairs_later HP.out (balloc (Below.refl _ _))) ?_)
  intro q c' w' h1 h2 h2' h3
  have H1 := hide h1
  have h4 : ∀ ad, q = some ad → w.heap.size ≤ ad.block ∨ l = [] := fun ad e => by
    rcases h2' ad e with g | g
    · exact .inl (by omega)
    · exact .inr g
  have H2 := hide (And.intro h2 h4)
  have H3 := hide (show Below w.heap.size w w' from bnext (balloc (Below.refl _ _)) (by first | exact h3 | (rw [World.size_alloc]; exact h3)))
  clear h1 h2 h2' h3 h4
  go_wp2_with fail
  exact bodyPost_ret (v := .slice q n c') (by simp [results, Tryz.results24, go_sem]) rfl ⟨_, _, rfl, H2.out, H1.out, H3.out⟩
theorem set4_cell {W : World} {q r o : Nat} {u0 u1 u2 u3 : Value} (h : q ≠ r) : ((((W.setCell ⟨r, 0, none⟩ u0).setCell ⟨r, 1, none⟩ u1).setCell ⟨r, 2, none⟩ u2).setCell ⟨r, 3, none⟩ u3).cell? ⟨q, o, none⟩ = W.cell? ⟨q, o, none⟩ := by
  have n : ∀ i, (⟨r, i, none⟩ : Addr) ≠ ⟨q, o, none⟩ := fun i e => by cases e; exact h rfl
  rw [World.cell?_setCell_other _ _ _ _ (by simp <;> omega), World.cell?_setCell_other _ _ _ _ (by simp <;> omega), World.cell?_setCell_other _ _ _ _ (by simp <;> omega), World.cell?_setCell_other _ _ _ _ (by simp <;> omega)]
theorem pairs_set4 {W : World} {b : Option Addr} {l : List (Int × Int)} {B r : Nat} (h : IsPairs W b l) (hb : ∀ ad, b = some ad → B ≤ ad.block ∨ l = []) (hr : r < B) : ∀ u0 u1 u2 u3 : Value, IsPairs ((((W.setCell ⟨r, 0, none⟩ u0).setCell ⟨r, 1, none⟩ u1).setCell ⟨r, 2, none⟩ u2).setCell ⟨r, 3, none⟩ u3) b l := by
  intro u0 u1 u2 u3
  rcases h with h | ⟨g, o, e, h⟩
  · exact .inl h
  · rcases hb _ e with hb | hb
    · simp only at hb
      exact .inr ⟨g, o, e, fun i hi => ⟨(set4_cell (by omega)).trans (h i hi).1, (set4_cell (by omega)).trans (h i hi).2⟩⟩
    · exact .inl hb
/-- A growth of one's own, told. -/
def OwPost (w : World) (rs zs fs : List (Int × Int)) (off : Int) (e : Ending) (w' : World) : Prop := ∃ q1 c1 q2 c2 q3 c3, e = .returned (.agg #[.slice q1 rs.length c1, .int .i64 off, .slice q2 zs.length c2, .slice q3 fs.length c3]) ∧ (IsPairs w' q1 rs ∧ IsPairs w' q2 zs ∧ IsPairs w' q3 fs) ∧ ((q1 = none → c1 = 0 ∧ rs = []) ∧ (q2 = none → c2 = 0 ∧ zs = []) ∧ (q3 = none → c3 = 0 ∧ fs = [])) ∧ Below w.heap.size w w'
set_option maxRecDepth 100000 in
set_option maxHeartbeats 12800000 in
theorem own_any (rs zs fs : List (Int × Int)) (off : Int) (ra za fa : Option Addr) (rc zc fc : Nat) (w : World) (LL : Hid ((rs.length ≤ 1000 ∧ zs.length ≤ 1000) ∧ fs.length ≤ 1000)) (NR : Hid (ra = none → rc = 0 ∧ rs = [])) (NZ : Hid (za = none → zc = 0 ∧ zs = [])) (NF : Hid (fa = none → fc = 0 ∧ fs = [])) (IR : Hid (IsPairs w ra rs)) (IZ : Hid (IsPairs w za zs)) (IF : Hid (IsPairs w fa fs)) :
    Calls Tryz.prog 31 #[.agg #[.slice ra rs.length rc, .int .i64 off, .slice za zs.length zc, .slice fa fs.length fc]] w (OwPost w rs zs fs off) := by
  obtain ⟨ti, hi, hz0, hz1, hz2⟩ := info_parts knot_info5
  have HI := hide hi
  have HZ0 := hide hz0
  have HZ1 := hide hz1
  have HZ2 := hide hz2
  clear hi hz0 hz1 hz2
  have ZO := hide (fun W (hb : Below w.heap.size w W) => zones_any zs za zs.length zc W rfl NZ.out LL.out.1.2 (pairs_later IZ.out hb))
  go_enter Tryz.func31, Tryz.ntmps31
  go_upto_region 1 with fail
  obtain ⟨w0, hw0⟩ : ∃ z, z = (w.alloc (.cells #[.slice ra rs.length rc, .int .i64 off, .slice za zs.length zc, .slice fa fs.length fc] 58)).alloc (.cells #[.slice none 0 0, .int .i64 0, .slice none 0 0, .slice none 0 0] 58) := ⟨_, rfl⟩
  rw [← hw0]
  have B0 := hide (show Below w.heap.size w w0 by rw [hw0]; exact (by repeat (first | exact Below.refl _ _ | assumption | apply balloc | apply bdrew | (refine below_drewN ?_ _) | (refine bset ?_ (by first | (simp; done) | omega | (simp; omega)) _) | (refine bnext ?_ (by assumption)))))
  have SZ := hide (show w.heap.size + 1 < w0.heap.size by rw [hw0]; simp)
  have KP := hide (fun (W : World) (hb : Below w0.heap.size w0 W) => (show W.cell? ⟨w.heap.size, 0, none⟩ = some (.slice ra rs.length rc) ∧ W.cell? ⟨w.heap.size, 1, none⟩ = some (.int .i64 off) ∧ W.cell? ⟨w.heap.size, 2, none⟩ = some (.slice za zs.length zc) ∧ W.cell? ⟨w.heap.size, 3, none⟩ = some (.slice fa fs.length fc) by
    refine ⟨later hb ?_, later hb ?_, later hb ?_, later hb ?_⟩ <;> (rw [hw0]; exact (by simp [go_sem, World.cell?_alloc_past]))))
  have Z0 := hide (show (w0.cell? ⟨w.heap.size + 1, 0, none⟩ = some (.slice none 0 0) ∧ w0.cell? ⟨w.heap.size + 1, 1, none⟩ = some (.int .i64 0) ∧ w0.cell? ⟨w.heap.size + 1, 2, none⟩ = some (.slice none 0 0) ∧ w0.cell? ⟨w.heap.size + 1, 3, none⟩ = some (.slice none 0 0)) ∧ w0.frozen? ⟨w.heap.size + 1, 0, none⟩ = false ∧ w0.frozen? ⟨w.heap.size + 1, 1, none⟩ = false ∧ w0.frozen? ⟨w.heap.size + 1, 2, none⟩ = false ∧ w0.frozen? ⟨w.heap.size + 1, 3, none⟩ = false by
    rw [hw0]; refine ⟨⟨?_, ?_, ?_, ?_⟩, ?_, ?_, ?_, ?_⟩ <;> simp [go_sem])
  have KZ := hide (fun (W : World) (hb : Below w0.heap.size w0 W) => (show (W.cell? ⟨w.heap.size + 1, 0, none⟩ = some (.slice none 0 0) ∧ W.cell? ⟨w.heap.size + 1, 1, none⟩ = some (.int .i64 0) ∧ W.cell? ⟨w.heap.size + 1, 2, none⟩ = some (.slice none 0 0) ∧ W.cell? ⟨w.heap.size + 1, 3, none⟩ = some (.slice none 0 0)) ∧ W.frozen? ⟨w.heap.size + 1, 0, none⟩ = false ∧ W.frozen? ⟨w.heap.size + 1, 1, none⟩ = false ∧ W.frozen? ⟨w.heap.size + 1, 2, none⟩ = false ∧ W.frozen? ⟨w.heap.size + 1, 3, none⟩ = false from
    have ⟨⟨a0, a1, a2, a3⟩, f0, f1, f2, f3⟩ := Z0.out
    ⟨⟨later hb a0, later hb a1, later hb a2, later hb a3⟩, free_later hb a0 f0, free_later hb a1 f1, free_later hb a2 f2, free_later hb a3 f3⟩))
  clear hw0 Z0
  refine wp_region_held_drew (S := (fun W => W.cell? ⟨w.heap.size, 0, none⟩ = some (.slice ra rs.length rc) ∧ W.cell? ⟨w.heap.size, 1, none⟩ = some (.int .i64 off) ∧ W.cell? ⟨w.heap.size, 2, none⟩ = some (.slice za zs.length zc) ∧ W.cell? ⟨w.heap.size, 3, none⟩ = some (.slice fa fs.length fc))) (by kernel_rfl) (KP.out _ (bdrew (Below.refl _ _))) (fun h0 => ?_)
  (refine wpAnyH_take (i := 1) (v := ?_) rfl (by kernel_rfl) (by kernel_rfl) (by kernel_rfl) (fun _ _ _ h => h) (Or.inl ⟨by kernel_rfl, ?_⟩) (by assumption) ?_; rotate_left; focus (intro w hSw; (try dsimp only at hSw); go_simp; try with_reducible rfl))
  (simp only [Act.put, List.getElem_toArray, List.getElem_cons_zero, List.getElem_cons_succ, List.setIfInBounds_toArray, List.set_cons_zero, List.set_cons_succ])
  (refine wpAnyH_take (i := 2) (v := ?_) rfl (by kernel_rfl) (by kernel_rfl) (by kernel_rfl) (fun _ _ _ h => h) (Or.inl ⟨by kernel_rfl, ?_⟩) (by assumption) ?_; rotate_left; focus (intro w hSw; (try dsimp only at hSw); go_simp; try with_reducible rfl))
  (simp only [Act.put, List.getElem_toArray, List.getElem_cons_zero, List.getElem_cons_succ, List.setIfInBounds_toArray, List.set_cons_zero, List.set_cons_succ])
  (refine wpAnyH_take (i := 4) (v := ?_) rfl (by kernel_rfl) (by kernel_rfl) (by kernel_rfl) (fun _ _ _ h => h) (Or.inl ⟨by kernel_rfl, ?_⟩) (by assumption) ?_; rotate_left; focus (intro w hSw; (try dsimp only at hSw); go_simp; try with_reducible rfl))
  (simp only [Act.put, List.getElem_toArray, List.getElem_cons_zero, List.getElem_cons_succ, List.setIfInBounds_toArray, List.set_cons_zero, List.set_cons_succ])
  (refine wpAnyH_take (i := 5) (v := ?_) rfl (by kernel_rfl) (by kernel_rfl) (by kernel_rfl) (fun _ _ _ h => h) (Or.inl ⟨by kernel_rfl, ?_⟩) (by assumption) ?_; rotate_left; focus (intro w hSw; (try dsimp only at hSw); go_simp; try with_reducible rfl))
  (simp only [Act.put, List.getElem_toArray, List.getElem_cons_zero, List.getElem_cons_succ, List.setIfInBounds_toArray, List.set_cons_zero, List.set_cons_succ])
  (refine wpAnyH_take (i := 6) (v := ?_) rfl (by kernel_rfl) (by kernel_rfl) (by kernel_rfl) (fun _ _ _ h => h) (Or.inl ⟨by kernel_rfl, ?_⟩) (by assumption) ?_; rotate_left; focus (intro w hSw; (try dsimp only at hSw); go_simp; try with_reducible rfl))
  (simp only [Act.put, List.getElem_toArray, List.getElem_cons_zero, List.getElem_cons_succ, List.setIfInBounds_toArray, List.set_cons_zero, List.set_cons_succ])
  (refine wpAnyH_take (i := 7) (v := ?_) rfl (by kernel_rfl) (by kernel_rfl) (by kernel_rfl) (fun _ _ _ h => h) (Or.inl ⟨by kernel_rfl, ?_⟩) (by assumption) ?_; rotate_left; focus (intro w hSw; (try dsimp only at hSw); go_simp; try with_reducible rfl))
  (simp only [Act.put, List.getElem_toArray, List.getElem_cons_zero, List.getElem_cons_succ, List.setIfInBounds_toArray, List.set_cons_zero, List.set_cons_succ])
  (refine wpAnyH_take (i := 10) (v := ?_) rfl (by kernel_rfl) (by kernel_rfl) (by kernel_rfl) (fun _ _ _ h => h) (Or.inl ⟨by kernel_rfl, ?_⟩) (by assumption) ?_; rotate_left; focus (intro w hSw; (try dsimp only at hSw); go_simp; try with_reducible rfl))
  (simp only [Act.put, List.getElem_toArray, List.getElem_cons_zero, List.getElem_cons_succ, List.setIfInBounds_toArray, List.set_cons_zero, List.set_cons_succ])
  (refine wpAnyH_take (i := 11) (v := ?_) rfl (by kernel_rfl) (by kernel_rfl) (by kernel_rfl) (fun _ _ _ h => h) (Or.inl ⟨by kernel_rfl, ?_⟩) (by assumption) ?_; rotate_left; focus (intro w hSw; (try dsimp only at hSw); go_simp; try with_reducible rfl))
  (simp only [Act.put, List.getElem_toArray, List.getElem_cons_zero, List.getElem_cons_succ, List.setIfInBounds_toArray, List.set_cons_zero, List.set_cons_succ])
  have b0 : Below w0.heap.size w0 w0.drew := bdrew (Below.refl _ _)
  refine wpAnyH_ready (rs := [0, 9]) (by kernel_rfl) (by simp) ?_
  refine AllReadyH.cons rfl (fun K hK => ?_) (AllReadyH.cons rfl (fun K hK => ?_) AllReadyH.nil)
  · skip
    go_simp
    refine hK.out _ _ (KP.out _ (balloc b0)) (fun s1 => ?_)
    clear hK K
    (try simp only [Act.put, List.setIfInBounds_toArray, List.set_cons_zero, List.set_cons_succ])
    have b1 := balloc (o := .cells #[] 102) b0
    refine wpAnyH_ready (rs := [3, 9]) (by kernel_rfl) (by simp) ?_
    refine AllReadyH.cons rfl (fun K hK => ?_) (AllReadyH.cons rfl (fun K hK => ?_) AllReadyH.nil)
    · skip
      refine step_pairs Tryz.underlying56 HI.out HZ0.out HZ1.out HZ2.out rfl (.tmp 3) (.tmp 5) rfl _ rfl ra _ _ rs rfl rfl NR.out (by have := LL.out; omega) (pairs_later IR.out (bnext B0.out b1)) ?_
      intro q1 c1 v2 i1 n1 hb2
      have b2 : Below w0.heap.size w0 v2 := bnext b1 hb2
      refine hK.out _ _ (KP.out _ b2) (fun s2 => ?_)
      clear hK K
      (try simp only [Act.put, List.setIfInBounds_toArray, List.set_cons_zero, List.set_cons_succ])
      refine wpAnyH_ready (rs := [8, 9]) (by kernel_rfl) (by simp) ?_
      refine AllReadyH.cons rfl (fun K hK => ?_) (AllReadyH.cons rfl (fun K hK => ?_) AllReadyH.nil)
      · skip
        go_simp
        go_at_call 24; refine (ZO.out _ (bnext B0.out b2)).mono ?_; rintro e v3 ⟨q2, c2, rfl, n2, i2, hb3⟩
        have b3 : Below w0.heap.size w0 v3 := bnext b2 hb3
        (try go_wp2_with fail)
        refine hK.out _ _ (KP.out _ b3) (fun s3 => ?_)
        clear hK K
        (try simp only [Act.put, List.setIfInBounds_toArray, List.set_cons_zero, List.set_cons_succ])
        refine wpAnyH_ready (rs := [9]) (by kernel_rfl) (by simp) ?_
        refine AllReadyH.cons rfl (fun K hK => ?_) AllReadyH.nil
        go_simp
        refine hK.out _ _ (KP.out _ (balloc b3)) (fun s4 => ?_)
        clear hK K
        (try simp only [Act.put, List.setIfInBounds_toArray, List.set_cons_zero, List.set_cons_succ])
        have b4 := balloc (o := .cells #[] 102) b3
        refine wpAnyH_ready (rs := [12]) (by kernel_rfl) (by simp) ?_
        refine AllReadyH.cons rfl (fun K hK => ?_) AllReadyH.nil
        refine step_pairs Tryz.underlying56 HI.out HZ0.out HZ1.out HZ2.out rfl (.tmp 12) (.tmp 14) rfl _ rfl fa _ _ fs rfl rfl NF.out (by have := LL.out; omega) (pairs_later IF.out (bnext B0.out b4)) ?_
        intro q3 c3 v5 i3 n3 hb5
        have b5 : Below w0.heap.size w0 v5 := bnext b4 hb5
        refine hK.out _ _ (KP.out _ b5) (fun s5 => ?_)
        clear hK K
        (try simp only [Act.put, List.setIfInBounds_toArray, List.set_cons_zero, List.set_cons_succ])
        (refine wpAnyH_take (i := 13) (v := ?_) rfl (by kernel_rfl) (by kernel_rfl) (by kernel_rfl) (fun _ _ _ h => h) (Or.inl ⟨by kernel_rfl, ?_⟩) (by assumption) ?_; rotate_left; focus (intro w hSw; (try dsimp only at hSw); go_simp; try with_reducible rfl))
        (simp only [Act.put, List.getElem_toArray, List.getElem_cons_zero, List.getElem_cons_succ, List.setIfInBounds_toArray, List.set_cons_zero, List.set_cons_succ])
        have j1 := pairs_later i1 (bnext (balloc (bnext (Below.refl _ _) hb3)) hb5)
        have j2 := pairs_later i2 (bnext (balloc (Below.refl _ _)) hb5)
        have ⟨⟨z0, z1, z2, z3⟩, y0, y1, y2, y3⟩ := KZ.out _ b5
        have k1 := fun ad e => (show w0.heap.size ≤ ad.block ∨ rs = [] from (n1.2 ad e).imp_left (Nat.le_trans (b1).size))
        have k2 := fun ad e => (show w0.heap.size ≤ ad.block ∨ zs = [] from (n2.2 ad e).imp_left (Nat.le_trans (b2).size))
        have k3 := fun ad e => (show w0.heap.size ≤ ad.block ∨ fs = [] from (n3.2 ad e).imp_left (Nat.le_trans (b4).size))
        refine wpAnyH_ready (rs := [14]) (by kernel_rfl) (by simp) ?_
        refine AllReadyH.cons rfl (fun K hK => ?_) AllReadyH.nil
        go_simp
        have hS := KP.out _ b5
        refine hK.out _ _ ⟨(set4_cell (by omega)).trans hS.1, (set4_cell (by omega)).trans hS.2.1, (set4_cell (by omega)).trans hS.2.2.1, (set4_cell (by omega)).trans hS.2.2.2⟩ (fun hz => ?_)
        clear hK K
        (try simp only [Act.put, List.setIfInBounds_toArray, List.set_cons_zero, List.set_cons_succ])
        refine wpAnyH_done (by kernel_rfl) ?_ _
        have J1 := hide (pairs_set4 (r := w.heap.size + 1) j1 k1 SZ.out)
        have J2 := hide (pairs_set4 (r := w.heap.size + 1) j2 k2 SZ.out)
        have J3 := hide (pairs_set4 (r := w.heap.size + 1) i3 k3 SZ.out)
        have BF := hide (show Below w.heap.size w v5 from bnext B0.out b5)
        have NN := hide (And.intro n1.1 (And.intro n2.1 n3.1))
        clear j1 j2 i1 i2 i3 k1 k2 k3 n1 n2 n3 hS hz
        go_wp2_with fail
        exact bodyPost_ret (v := .agg #[.slice q1 rs.length c1, .int .i64 off, .slice q2 zs.length c2, .slice q3 fs.length c3]) (by simp [results, Tryz.results31, go_sem, z0, z1, z2, z3]) rfl ⟨_, _, _, _, _, _, rfl, ⟨J1.out _ _ _ _, J2.out _ _ _ _, J3.out _ _ _ _⟩, NN.out, bset (bset (bset (bset BF.out (by simp) _) (by simp) _) (by simp) _) (by simp) _⟩
      · skip
        go_simp
        refine hK.out _ _ (KP.out _ (balloc b2)) (fun s6 => ?_)
        clear hK K
        (try simp only [Act.put, List.setIfInBounds_toArray, List.set_cons_zero, List.set_cons_succ])
        have b6 := balloc (o := .cells #[] 102) b2
        refine wpAnyH_ready (rs := [8]) (by kernel_rfl) (by simp) ?_
        refine AllReadyH.cons rfl (fun K hK => ?_) AllReadyH.nil
        go_simp
        go_at_call 24; refine (ZO.out _ (bnext B0.out b6)).mono ?_; rintro e v7 ⟨q2, c2, rfl, n2, i2, hb7⟩
        have b7 : Below w0.heap.size w0 v7 := bnext b6 hb7
        (try go_wp2_with fail)
        refine hK.out _ _ (KP.out _ b7) (fun s7 => ?_)
        clear hK K
        (try simp only [Act.put, List.setIfInBounds_toArray, List.set_cons_zero, List.set_cons_succ])
        refine wpAnyH_ready (rs := [12]) (by kernel_rfl) (by simp) ?_
        refine AllReadyH.cons rfl (fun K hK => ?_) AllReadyH.nil
        refine step_pairs Tryz.underlying56 HI.out HZ0.out HZ1.out HZ2.out rfl (.tmp 12) (.tmp 14) rfl _ rfl fa _ _ fs rfl rfl NF.out (by have := LL.out; omega) (pairs_later IF.out (bnext B0.out b7)) ?_
        intro q3 c3 v8 i3 n3 hb8
        have b8 : Below w0.heap.size w0 v8 := bnext b7 hb8
        refine hK.out _ _ (KP.out _ b8) (fun s8 => ?_)
        clear hK K
        (try simp only [Act.put, List.setIfInBounds_toArray, List.set_cons_zero, List.set_cons_succ])
        (refine wpAnyH_take (i := 13) (v := ?_) rfl (by kernel_rfl) (by kernel_rfl) (by kernel_rfl) (fun _ _ _ h => h) (Or.inl ⟨by kernel_rfl, ?_⟩) (by assumption) ?_; rotate_left; focus (intro w hSw; (try dsimp only at hSw); go_simp; try with_reducible rfl))
        (simp only [Act.put, List.getElem_toArray, List.getElem_cons_zero, List.getElem_cons_succ, List.setIfInBounds_toArray, List.set_cons_zero, List.set_cons_succ])
        have j1 := pairs_later i1 (bnext (bnext (balloc (Below.refl _ _)) hb7) hb8)
        have j2 := pairs_later i2 (bnext (Below.refl _ _) hb8)
        have ⟨⟨z0, z1, z2, z3⟩, y0, y1, y2, y3⟩ := KZ.out _ b8
        have k1 := fun ad e => (show w0.heap.size ≤ ad.block ∨ rs = [] from (n1.2 ad e).imp_left (Nat.le_trans (b1).size))
        have k2 := fun ad e => (show w0.heap.size ≤ ad.block ∨ zs = [] from (n2.2 ad e).imp_left (Nat.le_trans (b6).size))
        have k3 := fun ad e => (show w0.heap.size ≤ ad.block ∨ fs = [] from (n3.2 ad e).imp_left (Nat.le_trans (b7).size))
        refine wpAnyH_ready (rs := [14]) (by kernel_rfl) (by simp) ?_
        refine AllReadyH.cons rfl (fun K hK => ?_) AllReadyH.nil
        go_simp
        have hS := KP.out _ b8
        refine hK.out _ _ ⟨(set4_cell (by omega)).trans hS.1, (set4_cell (by omega)).trans hS.2.1, (set4_cell (by omega)).trans hS.2.2.1, (set4_cell (by omega)).trans hS.2.2.2⟩ (fun hz => ?_)
        clear hK K
        (try simp only [Act.put, List.setIfInBounds_toArray, List.set_cons_zero, List.set_cons_succ])
        refine wpAnyH_done (by kernel_rfl) ?_ _
        have J1 := hide (pairs_set4 (r := w.heap.size + 1) j1 k1 SZ.out)
        have J2 := hide (pairs_set4 (r := w.heap.size + 1) j2 k2 SZ.out)
        have J3 := hide (pairs_set4 (r := w.heap.size + 1) i3 k3 SZ.out)
        have BF := hide (show Below w.heap.size w v8 from bnext B0.out b8)
        have NN := hide (And.intro n1.1 (And.intro n2.1 n3.1))
        clear j1 j2 i1 i2 i3 k1 k2 k3 n1 n2 n3 hS hz
        go_wp2_with fail
        exact bodyPost_ret (v := .agg #[.slice q1 rs.length c1, .int .i64 off, .slice q2 zs.length c2, .slice q3 fs.length c3]) (by simp [results, Tryz.results31, go_sem, z0, z1, z2, z3]) rfl ⟨_, _, _, _, _, _, rfl, ⟨J1.out _ _ _ _, J2.out _ _ _ _, J3.out _ _ _ _⟩, NN.out, bset (bset (bset (bset BF.out (by simp) _) (by simp) _) (by simp) _) (by simp) _⟩
    · skip
      go_simp
      refine hK.out _ _ (KP.out _ (balloc b1)) (fun s9 => ?_)
      clear hK K
      (try simp only [Act.put, List.setIfInBounds_toArray, List.set_cons_zero, List.set_cons_succ])
      have b9 := balloc (o := .cells #[] 102) b1
      refine wpAnyH_ready (rs := [3]) (by kernel_rfl) (by simp) ?_
      refine AllReadyH.cons rfl (fun K hK => ?_) AllReadyH.nil
      refine step_pairs Tryz.underlying56 HI.out HZ0.out HZ1.out HZ2.out rfl (.tmp 3) (.tmp 5) rfl _ rfl ra _ _ rs rfl rfl NR.out (by have := LL.out; omega) (pairs_later IR.out (bnext B0.out b9)) ?_
      intro q1 c1 v10 i1 n1 hb10
      have b10 : Below w0.heap.size w0 v10 := bnext b9 hb10
      refine hK.out _ _ (KP.out _ b10) (fun s10 => ?_)
      clear hK K
      (try simp only [Act.put, List.setIfInBounds_toArray, List.set_cons_zero, List.set_cons_succ])
      refine wpAnyH_ready (rs := [8]) (by kernel_rfl) (by simp) ?_
      refine AllReadyH.cons rfl (fun K hK => ?_) AllReadyH.nil
      go_simp
      go_at_call 24; refine (ZO.out _ (bnext B0.out b10)).mono ?_; rintro e v11 ⟨q2, c2, rfl, n2, i2, hb11⟩
      have b11 : Below w0.heap.size w0 v11 := bnext b10 hb11
      (try go_wp2_with fail)
      refine hK.out _ _ (KP.out _ b11) (fun s11 => ?_)
      clear hK K
      (try simp only [Act.put, List.setIfInBounds_toArray, List.set_cons_zero, List.set_cons_succ])
      refine wpAnyH_ready (rs := [12]) (by kernel_rfl) (by simp) ?_
      refine AllReadyH.cons rfl (fun K hK => ?_) AllReadyH.nil
      refine step_pairs Tryz.underlying56 HI.out HZ0.out HZ1.out HZ2.out rfl (.tmp 12) (.tmp 14) rfl _ rfl fa _ _ fs rfl rfl NF.out (by have := LL.out; omega) (pairs_later IF.out (bnext B0.out b11)) ?_
      intro q3 c3 v12 i3 n3 hb12
      have b12 : Below w0.heap.size w0 v12 := bnext b11 hb12
      refine hK.out _ _ (KP.out _ b12) (fun s12 => ?_)
      clear hK K
      (try simp only [Act.put, List.setIfInBounds_toArray, List.set_cons_zero, List.set_cons_succ])
      (refine wpAnyH_take (i := 13) (v := ?_) rfl (by kernel_rfl) (by kernel_rfl) (by kernel_rfl) (fun _ _ _ h => h) (Or.inl ⟨by kernel_rfl, ?_⟩) (by assumption) ?_; rotate_left; focus (intro w hSw; (try dsimp only at hSw); go_simp; try with_reducible rfl))
      (simp only [Act.put, List.getElem_toArray, List.getElem_cons_zero, List.getElem_cons_succ, List.setIfInBounds_toArray, List.set_cons_zero, List.set_cons_succ])
      have j1 := pairs_later i1 (bnext (bnext (Below.refl _ _) hb11) hb12)
      have j2 := pairs_later i2 (bnext (Below.refl _ _) hb12)
      have ⟨⟨z0, z1, z2, z3⟩, y0, y1, y2, y3⟩ := KZ.out _ b12
      have k1 := fun ad e => (show w0.heap.size ≤ ad.block ∨ rs = [] from (n1.2 ad e).imp_left (Nat.le_trans (b9).size))
      have k2 := fun ad e => (show w0.heap.size ≤ ad.block ∨ zs = [] from (n2.2 ad e).imp_left (Nat.le_trans (b10).size))
      have k3 := fun ad e => (show w0.heap.size ≤ ad.block ∨ fs = [] from (n3.2 ad e).imp_left (Nat.le_trans (b11).size))
      refine wpAnyH_ready (rs := [14]) (by kernel_rfl) (by simp) ?_
      refine AllReadyH.cons rfl (fun K hK => ?_) AllReadyH.nil
      go_simp
      have hS := KP.out _ b12
      refine hK.out _ _ ⟨(set4_cell (by omega)).trans hS.1, (set4_cell (by omega)).trans hS.2.1, (set4_cell (by omega)).trans hS.2.2.1, (set4_cell (by omega)).trans hS.2.2.2⟩ (fun hz => ?_)
      clear hK K
      (try simp only [Act.put, List.setIfInBounds_toArray, List.set_cons_zero, List.set_cons_succ])
      refine wpAnyH_done (by kernel_rfl) ?_ _
      have J1 := hide (pairs_set4 (r := w.heap.size + 1) j1 k1 SZ.out)
      have J2 := hide (pairs_set4 (r := w.heap.size + 1) j2 k2 SZ.out)
      have J3 := hide (pairs_set4 (r := w.heap.size + 1) i3 k3 SZ.out)
      have BF := hide (show Below w.heap.size w v12 from bnext B0.out b12)
      have NN := hide (And.intro n1.1 (And.intro n2.1 n3.1))
      clear j1 j2 i1 i2 i3 k1 k2 k3 n1 n2 n3 hS hz
      go_wp2_with fail
      exact bodyPost_ret (v := .agg #[.slice q1 rs.length c1, .int .i64 off, .slice q2 zs.length c2, .slice q3 fs.length c3]) (by simp [results, Tryz.results31, go_sem, z0, z1, z2, z3]) rfl ⟨_, _, _, _, _, _, rfl, ⟨J1.out _ _ _ _, J2.out _ _ _ _, J3.out _ _ _ _⟩, NN.out, bset (bset (bset (bset BF.out (by simp) _) (by simp) _) (by simp) _) (by simp) _⟩
  · skip
    go_simp
    refine hK.out _ _ (KP.out _ (balloc b0)) (fun s13 => ?_)
    clear hK K
    (try simp only [Act.put, List.setIfInBounds_toArray, List.set_cons_zero, List.set_cons_succ])
    have b13 := balloc (o := .cells #[] 102) b0
    refine wpAnyH_ready (rs := [0]) (by kernel_rfl) (by simp) ?_
    refine AllReadyH.cons rfl (fun K hK => ?_) AllReadyH.nil
    go_simp
    refine hK.out _ _ (KP.out _ (balloc b13)) (fun s14 => ?_)
    clear hK K
    (try simp only [Act.put, List.setIfInBounds_toArray, List.set_cons_zero, List.set_cons_succ])
    have b14 := balloc (o := .cells #[] 102) b13
    refine wpAnyH_ready (rs := [3]) (by kernel_rfl) (by simp) ?_
    refine AllReadyH.cons rfl (fun K hK => ?_) AllReadyH.nil
    refine step_pairs Tryz.underlying56 HI.out HZ0.out HZ1.out HZ2.out rfl (.tmp 3) (.tmp 5) rfl _ rfl ra _ _ rs rfl rfl NR.out (by have := LL.out; omega) (pairs_later IR.out (bnext B0.out b14)) ?_
    intro q1 c1 v15 i1 n1 hb15
    have b15 : Below w0.heap.size w0 v15 := bnext b14 hb15
    refine hK.out _ _ (KP.out _ b15) (fun s15 => ?_)
    clear hK K
    (try simp only [Act.put, List.setIfInBounds_toArray, List.set_cons_zero, List.set_cons_succ])
    refine wpAnyH_ready (rs := [8]) (by kernel_rfl) (by simp) ?_
    refine AllReadyH.cons rfl (fun K hK => ?_) AllReadyH.nil
    go_simp
    go_at_call 24; refine (ZO.out _ (bnext B0.out b15)).mono ?_; rintro e v16 ⟨q2, c2, rfl, n2, i2, hb16⟩
    have b16 : Below w0.heap.size w0 v16 := bnext b15 hb16
    (try go_wp2_with fail)
    refine hK.out _ _ (KP.out _ b16) (fun s16 => ?_)
    clear hK K
    (try simp only [Act.put, List.setIfInBounds_toArray, List.set_cons_zero, List.set_cons_succ])
    refine wpAnyH_ready (rs := [12]) (by kernel_rfl) (by simp) ?_
    refine AllReadyH.cons rfl (fun K hK => ?_) AllReadyH.nil
    refine step_pairs Tryz.underlying56 HI.out HZ0.out HZ1.out HZ2.out rfl (.tmp 12) (.tmp 14) rfl _ rfl fa _ _ fs rfl rfl NF.out (by have := LL.out; omega) (pairs_later IF.out (bnext B0.out b16)) ?_
    intro q3 c3 v17 i3 n3 hb17
    have b17 : Below w0.heap.size w0 v17 := bnext b16 hb17
    refine hK.out _ _ (KP.out _ b17) (fun s17 => ?_)
    clear hK K
    (try simp only [Act.put, List.setIfInBounds_toArray, List.set_cons_zero, List.set_cons_succ])
    (refine wpAnyH_take (i := 13) (v := ?_) rfl (by kernel_rfl) (by kernel_rfl) (by kernel_rfl) (fun _ _ _ h => h) (Or.inl ⟨by kernel_rfl, ?_⟩) (by assumption) ?_; rotate_left; focus (intro w hSw; (try dsimp only at hSw); go_simp; try with_reducible rfl))
    (simp only [Act.put, List.getElem_toArray, List.getElem_cons_zero, List.getElem_cons_succ, List.setIfInBounds_toArray, List.set_cons_zero, List.set_cons_succ])
    have j1 := pairs_later i1 (bnext (bnext (Below.refl _ _) hb16) hb17)
    have j2 := pairs_later i2 (bnext (Below.refl _ _) hb17)
    have ⟨⟨z0, z1, z2, z3⟩, y0, y1, y2, y3⟩ := KZ.out _ b17
    have k1 := fun ad e => (show w0.heap.size ≤ ad.block ∨ rs = [] from (n1.2 ad e).imp_left (Nat.le_trans (b14).size))
    have k2 := fun ad e => (show w0.heap.size ≤ ad.block ∨ zs = [] from (n2.2 ad e).imp_left (Nat.le_trans (b15).size))
    have k3 := fun ad e => (show w0.heap.size ≤ ad.block ∨ fs = [] from (n3.2 ad e).imp_left (Nat.le_trans (b16).size))
    refine wpAnyH_ready (rs := [14]) (by kernel_rfl) (by simp) ?_
    refine AllReadyH.cons rfl (fun K hK => ?_) AllReadyH.nil
    go_simp
    have hS := KP.out _ b17
    refine hK.out _ _ ⟨(set4_cell (by omega)).trans hS.1, (set4_cell (by omega)).trans hS.2.1, (set4_cell (by omega)).trans hS.2.2.1, (set4_cell (by omega)).trans hS.2.2.2⟩ (fun hz => ?_)
    clear hK K
    (try simp only [Act.put, List.setIfInBounds_toArray, List.set_cons_zero, List.set_cons_succ])
    refine wpAnyH_done (by kernel_rfl) ?_ _
    have J1 := hide (pairs_set4 (r := w.heap.size + 1) j1 k1 SZ.out)
    have J2 := hide (pairs_set4 (r := w.heap.size + 1) j2 k2 SZ.out)
    have J3 := hide (pairs_set4 (r := w.heap.size + 1) i3 k3 SZ.out)
    have BF := hide (show Below w.heap.size w v17 from bnext B0.out b17)
    have NN := hide (And.intro n1.1 (And.intro n2.1 n3.1))
    clear j1 j2 i1 i2 i3 k1 k2 k3 n1 n2 n3 hS hz
    go_wp2_with fail
    exact bodyPost_ret (v := .agg #[.slice q1 rs.length c1, .int .i64 off, .slice q2 zs.length c2, .slice q3 fs.length c3]) (by simp [results, Tryz.results31, go_sem, z0, z1, z2, z3]) rfl ⟨_, _, _, _, _, _, rfl, ⟨J1.out _ _ _ _, J2.out _ _ _ _, J3.out _ _ _ _⟩, NN.out, bset (bset (bset (bset BF.out (by simp) _) (by simp) _) (by simp) _) (by simp) _⟩
end Go.Proofs.YtimfbjnpalgmcaaGreat
