/-
  units.appendRun.
-/
import Derived.Test.YtckapcfofkeicaaBalG
import Derived.OwnWalk
import Derived.BigQuiet
import Derived.RangeFuncBox
namespace Go.Proofs.Ytckapcfofkeicaa
set_option linter.unusedSimpArgs false
set_option linter.unusedVariables false
open Go.RowKit

/-- The cells of a list of ranges. -/
def rowOf (rs : List (Int × Int)) : List Value := rs.flatMap fun r => [.int .i64 r.1, .int .i64 r.2]
theorem rowOf_nil : rowOf [] = [] := rfl
theorem rowOf_snoc (ds : List (Int × Int)) (z : Int × Int) : rowOf (ds ++ [z]) = rowOf ds ++ [.int .i64 z.1, .int .i64 z.2] := by simp [rowOf]
theorem rowOf_length (rs : List (Int × Int)) : (rowOf rs).length = rs.length * 2 := by
  induction rs with
  | nil => rfl
  | cons r rs ih => simp only [rowOf, List.flatMap_cons, List.length_append, List.length_cons, List.length_nil] at ih ⊢; omega
theorem rowOf_get1 (ds : List (Int × Int)) (z : Int × Int) : (rowOf (ds ++ [z]))[ds.length * 2]? = some (.int .i64 z.1) := by
  rw [rowOf_snoc, ← rowOf_length, List.getElem?_append_right (Nat.le_refl _)]; simp
theorem rowOf_get2 (ds : List (Int × Int)) (z : Int × Int) : (rowOf (ds ++ [z]))[ds.length * 2 + 1]? = some (.int .i64 z.2) := by
  rw [rowOf_snoc, ← rowOf_length, List.getElem?_append_right (by omega)]; simp
theorem rowOf_set (ds : List (Int × Int)) (z : Int × Int) (h : Int) : (rowOf (ds ++ [z])).set (ds.length * 2 + 1) (.int .i64 h) = rowOf (ds ++ [(z.1, h)]) := by
  rw [rowOf_snoc, rowOf_snoc, ← rowOf_length, List.set_append_right _ _ (by omega)]; simp

/-- A run is put behind the others, or lengthens the last one. -/
def appR (rs : List (Int × Int)) (r : Int × Int) : List (Int × Int) :=
  match rs.getLast? with
  | some z => if r.1 = z.2 then rs.dropLast ++ [(z.1, r.2)] else rs ++ [r]
  | none => [r]
theorem appR_nil (r : Int × Int) : appR [] r = [r] := rfl
theorem appR_snoc (ds : List (Int × Int)) (z r : Int × Int) : appR (ds ++ [z]) r = if r.1 = z.2 then ds ++ [(z.1, r.2)] else (ds ++ [z]) ++ [r] := by simp [appR]
theorem appR_length (rs : List (Int × Int)) (r : Int × Int) : (appR rs r).length ≤ rs.length + 1 := by
  rcases List.eq_nil_or_concat rs with rfl | ⟨ds, z, e⟩
  · simp [appR_nil]
  · rw [show rs = ds ++ [z] by rw [e]; simp, appR_snoc]
    split <;> simp

theorem owns_drewN {w : World} {base : Nat} {e : TypeId} {size : Nat} {v : Value} {n : Nat} {xs : List Value} (h : w.ownsRow base e size v n xs) (k : Nat) : (w.drewN k).ownsRow base e size v n xs := h

theorem allocB {w : World} {base : Nat} {o : Obj} (hb : base ≤ w.heap.size) : Below base w (w.alloc o) := (Below.refl base w).alloc hb o
theorem app_below {w V w1 : World} {base : Nat} {o : Obj} {v : Value} (h : Below base w V) (hb : base ≤ w.heap.size) (hown : ∀ k, v.ownBlock = some k → base ≤ k) (hg : (V.alloc o).grownBy w1 v.ownBlock) : Below base w w1 :=
  Below.grown (h.alloc (Nat.le_trans hb h.size) o) hg (by have := h.size; simp; omega) hown

theorem keeps_drewN (w : World) (n : Nat) : KeepsOthers w (w.drewN n) := ⟨Nat.le_refl _, fun _ _ h _ => h⟩
theorem app_keeps {w V w1 : World} {base : Nat} {o : Obj} {v : Value} {e : TypeId} {size n : Nat} {xs : List Value} (h : KeepsOthers w V) (hown : (V.alloc o).ownsRow base e size v n xs) (hg : (V.alloc o).grownBy w1 v.ownBlock) : KeepsOthers w w1 :=
  (h.trans (KeepsOthers.alloc V o)).trans (KeepsOthers.of_grownBy hg (fun j ob hj hob => by
    rcases hown.2 with ⟨rfl, _⟩ | ⟨g, cap, cur, rfl, _, hgb, _⟩
    · simp [Value.ownBlock] at hj
    · simp [Value.ownBlock] at hj
      subst hj
      rw [hgb] at hob; cases hob; rfl))

set_option maxHeartbeats 3200000 in
theorem appendRun_nil (base : Nat) (a : Option Addr) (cap : Nat) (l h : Int) (w : World) (hb : base ≤ w.heap.size) (hown : w.ownsRow base 46 2 (.slice a 0 cap) 0 []) :
    Calls Try.prog 108 #[.slice a 0 cap, .agg #[.int .i64 l, .int .i64 h]] w fun e w' => ∃ v', e = .returned v' ∧ w'.ownsRow base 46 2 v' 1 [.int .i64 l, .int .i64 h] ∧ Below base w w' ∧ KeepsOthers w w' := by
  obtain ⟨ti, hi, hz0, hz1, hz2⟩ := info_parts range_info
  have HI := hide hi
  have HZ0 := hide hz0
  have HZ1 := hide hz1
  have HZ2 := hide hz2
  have HO := hide hown
  have HB := hide hb
  clear hi hz0 hz1 hz2 hown hb
  go_enter Try.func108, Try.ntmps108
  go_wp2_with fail
  go_quiet (fail)
  go_wp2_with (at_builtin; refine wpList_append_own _ rfl (.tmp 28) (.tmp 30) 43 rfl base 46 ti (.agg #[.int .i64 0, .int .i64 0]) 2 16 Try.underlying43 HI.out HZ0.out HZ1.out HZ2.out rfl (by decide) _ 0 [] rfl ((owns_drewN (HO.out.alloc _) _).alloc _) ⟨w.heap.size + 1, 0, none⟩ 1 1 [.int .i64 l, .int .i64 h] rfl rfl ?_ ?_ ?_ ?_ ?_ ?_)
  · intro j u hu
    match j, hu with
    | 0, hu => simp at hu; subst hu; simp [go_sem, Addr.add]
    | 1, hu => simp at hu; subst hu; simp [go_sem, Addr.add]
    | j + 2, hu => simp at hu
  · intro u hu; simp at hu; rcases hu with rfl | rfl <;> rfl
  · unfold maxLen; omega
  · omega
  · have := HB.out; simp [World.drewN]; omega
  · intro v' w1 hown1 hgrow _
    have HG := hide hgrow
    have HO1 := hide hown1
    clear hgrow hown1
    go_wp2_with fail
    refine bodyPost_ret (v := v') (by simp [results, Try.results108, go_sem]) rfl ⟨v', rfl, HO1.out, ?_, app_keeps (v := .slice a 0 cap) ((KeepsOthers.alloc _ _).trans (keeps_drewN _ _)) ((owns_drewN (HO.out.alloc _) _).alloc _) HG.out⟩
    exact app_below (v := .slice a 0 cap) (below_drewN (allocB HB.out) _) HB.out (fun k hk => ((HO.out.lt) k hk).1) HG.out
set_option maxHeartbeats 3200000 in
theorem appendRun_more (base : Nat) (g cap : Nat) (ds : List (Int × Int)) (z : Int × Int) (l h : Int) (w : World) (hne : (l == z.2) = false) (hn : ds.length ≤ 1000) (hb : base ≤ w.heap.size) (hown : w.ownsRow base 46 2 (.slice (some ⟨g, 0, none⟩) (ds.length + 1) cap) (ds.length + 1) (rowOf (ds ++ [z]))) :
    Calls Try.prog 108 #[.slice (some ⟨g, 0, none⟩) (ds.length + 1) cap, .agg #[.int .i64 l, .int .i64 h]] w fun e w' => ∃ v', e = .returned v' ∧ w'.ownsRow base 46 2 v' (ds.length + 1 + 1) (rowOf (ds ++ [z]) ++ [.int .i64 l, .int .i64 h]) ∧ Below base w w' ∧ KeepsOthers w w' := by
  obtain ⟨ti, hi, hz0, hz1, hz2⟩ := info_parts range_info
  have HI := hide hi
  have HZ0 := hide hz0
  have HZ1 := hide hz1
  have HZ2 := hide hz2
  have HO := hide hown
  have HB := hide hb
  have c2 := hown.cellAt (ds.length * 2 + 1) (by omega)
  rw [rowOf_get2] at c2
  obtain ⟨z1, z2⟩ := z
  simp only at c2 hne
  have c3 := fun o => later (balloc (o := o) (Below.refl _ _)) c2
  have hm0 : (0 : Int) ≤ (ds.length : Int) := by omega
  have hm1 : (ds.length : Int) < (ds.length : Int) + 1 := by omega
  have hwk : IntKind.wrap .i64 (ds.length : Int) = ds.length := IntWalk.i64_in _ (by omega)
  have HN := hide hn
  clear hi hz0 hz1 hz2 hown hb hn
  go_enter Try.func108, Try.ntmps108
  go_wp2_with fail
  go_quiet (fail)
  go_wp2_with (at_builtin; refine wpList_append_own _ rfl (.tmp 28) (.tmp 30) 43 rfl base 46 ti (.agg #[.int .i64 0, .int .i64 0]) 2 16 Try.underlying43 HI.out HZ0.out HZ1.out HZ2.out rfl (by decide) _ (ds.length + 1) (rowOf (ds ++ [(z1, z2)])) rfl ((owns_drewN (HO.out.alloc _) _).alloc _) ⟨w.heap.size + 1, 0, none⟩ 1 1 [.int .i64 l, .int .i64 h] rfl rfl ?_ ?_ ?_ ?_ ?_ ?_)
  · intro j u hu
    match j, hu with
    | 0, hu => simp at hu; subst hu; simp [go_sem, Addr.add]
    | 1, hu => simp at hu; subst hu; simp [go_sem, Addr.add]
    | j + 2, hu => simp at hu
  · intro u hu; simp at hu; rcases hu with rfl | rfl <;> rfl
  · have := HN.out; unfold maxLen; omega
  · have := HN.out; omega
  · have := HB.out; simp [World.drewN]; omega
  · intro v' w1 hown1 hgrow _
    have HG := hide hgrow
    have HO1 := hide hown1
    clear hgrow hown1
    go_wp2_with fail
    refine bodyPost_ret (v := v') (by simp [results, Try.results108, go_sem]) rfl ⟨v', rfl, HO1.out, ?_, app_keeps (v := .slice (some ⟨g, 0, none⟩) (ds.length + 1) cap) ((KeepsOthers.alloc _ _).trans (keeps_drewN _ _)) ((owns_drewN (HO.out.alloc _) _).alloc _) HG.out⟩
    exact app_below (v := .slice (some ⟨g, 0, none⟩) (ds.length + 1) cap) (below_drewN (allocB HB.out) _) HB.out (fun k hk => ((HO.out.lt) k hk).1) HG.out
set_option maxHeartbeats 3200000 in
theorem appendRun_last (base : Nat) (g cap : Nat) (ds : List (Int × Int)) (z : Int × Int) (l h : Int) (w : World) (heq : (l == z.2) = true) (hn : ds.length ≤ 1000) (hb : base ≤ w.heap.size) (hown : w.ownsRow base 46 2 (.slice (some ⟨g, 0, none⟩) (ds.length + 1) cap) (ds.length + 1) (rowOf (ds ++ [z]))) :
    Calls Try.prog 108 #[.slice (some ⟨g, 0, none⟩) (ds.length + 1) cap, .agg #[.int .i64 l, .int .i64 h]] w fun e w' => e = .returned (.slice (some ⟨g, 0, none⟩) (ds.length + 1) cap) ∧ w'.ownsRow base 46 2 (.slice (some ⟨g, 0, none⟩) (ds.length + 1) cap) (ds.length + 1) (rowOf (ds ++ [(z.1, h)])) ∧ Below base w w' ∧ KeepsOthers w w' := by
  have HO := hide hown
  have HB := hide hb
  have c2 := hown.cellAt (ds.length * 2 + 1) (by omega)
  rw [rowOf_get2] at c2
  have f2 := hown.frozenAt (ds.length * 2 + 1)
  have ST := hide fun n o => ((owns_drewN (HO.out.alloc o) n).stored (ds.length * 2 + 1) (.int .i64 h)).1
  rw [rowOf_set] at ST
  obtain ⟨z1, z2⟩ := z
  simp only at c2 heq
  have c3 := fun o => later (balloc (o := o) (Below.refl _ _)) c2
  have f3 := fun o => free_later (balloc (o := o) (Below.refl _ _)) c2 f2
  have hm0 : (0 : Int) ≤ (ds.length : Int) := by omega
  have hm1 : (ds.length : Int) < (ds.length : Int) + 1 := by omega
  have hwk : IntKind.wrap .i64 (ds.length : Int) = ds.length := IntWalk.i64_in _ (by omega)
  have hgb := hide ((HO.out.lt) g rfl).1
  clear hown hb hn
  go_enter Try.func108, Try.ntmps108
  go_wp2_with fail
  go_quiet (fail)
  go_wp2_with fail
  refine bodyPost_ret (v := .slice (some ⟨g, 0, none⟩) (ds.length + 1) cap) (by simp [results, Try.results108, go_sem]) rfl ⟨rfl, ST.out _ _, ?_, ((KeepsOthers.alloc _ _).trans (keeps_drewN _ _)).trans (KeepsOthers.setCell _ _ _)⟩
  exact (below_drewN (allocB HB.out) _).setCell (p := ⟨g, ds.length * 2 + 1, none⟩) hgb.out _

/-- appendRun, whatever runs there are. -/
theorem appendRun_any (base : Nat) (v : Value) (rs : List (Int × Int)) (l h : Int) (w : World) (hn : rs.length ≤ 1000) (hb : base ≤ w.heap.size) (hown : w.ownsRow base 46 2 v rs.length (rowOf rs)) :
    Calls Try.prog 108 #[v, .agg #[.int .i64 l, .int .i64 h]] w fun e w' => ∃ v', e = .returned v' ∧ w'.ownsRow base 46 2 v' (appR rs (l, h)).length (rowOf (appR rs (l, h))) ∧ Below base w w' ∧ KeepsOthers w w' := by
  rcases List.eq_nil_or_concat rs with rfl | ⟨ds, z, e⟩
  · obtain ⟨a, cap, rfl⟩ : ∃ a cap, v = .slice a 0 cap := by
      rcases hown.2 with ⟨e, _⟩ | ⟨g, cap, cur, e, _⟩
      · exact ⟨none, 0, e⟩
      · exact ⟨_, cap, e⟩
    exact appendRun_nil base a cap l h w hb hown
  · rw [List.concat_eq_append] at e
    subst e
    obtain ⟨g, cap, rfl⟩ : ∃ g cap, v = .slice (some ⟨g, 0, none⟩) (ds.length + 1) cap := by
      rcases hown.2 with ⟨_, e⟩ | ⟨g, cap, cur, e, _⟩
      · simp at e
      · exact ⟨g, cap, by rw [e]; simp⟩
    have hown' : w.ownsRow base 46 2 (.slice (some ⟨g, 0, none⟩) (ds.length + 1) cap) (ds.length + 1) (rowOf (ds ++ [z])) := by simpa using hown
    have hn' : ds.length ≤ 1000 := by simp at hn; omega
    rw [appR_snoc]
    by_cases he : l = z.2
    · rw [if_pos he]
      refine (appendRun_last base g cap ds z l h w (by simpa using he) hn' hb hown').mono ?_
      rintro e w' ⟨rfl, h2, h3⟩
      exact ⟨_, rfl, by simpa using h2, h3⟩
    · rw [if_neg he]
      refine (appendRun_more base g cap ds z l h w (by simpa using he) hn' hb hown').mono ?_
      rintro e w' ⟨v', rfl, h2, h3⟩
      refine ⟨v', rfl, ?_, h3⟩
      rw [rowOf_snoc _ (l, h)]
      simpa using h2
end Go.Proofs.Ytckapcfofkeicaa
