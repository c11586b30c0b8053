/-
  units.appendRun. units.Balance, whatever parts and whole.
-/
import Derived.Test.YtimfbjnpalgmcaaGreatBalG
import Derived.OwnWalk
import Derived.BigQuiet
import Derived.RangeFuncBox
namespace Go.Proofs.YtimfbjnpalgmcaaGreat
set_option linter.unusedSimpArgs false
set_option linter.unusedVariables false
open Go.RowKit

/-- The cells of a list of ranges. -/
def rowOf (rs : List (Int × Int)) : List Value := rs.flatMap fun r => [.int .i64 r.1, .int .i64 r.2]
theorem rowOf_nil : rowOf [] = [] := rfl
theorem rowOf_snoc (ds : List (Int × Int)) (z : Int × Int) : rowOf (ds ++ [z]) = rowOf ds ++ [.int .i64 z.1, .int .i64 z.2] := by simp [rowOf]
theorem rowOf_length (rs : List (Int × Int)) : (rowOf rs).length = rs.length * 2 := by
  induction rs with
  | nil => rfl
  | cons r rs ih => simp only [rowOf, List.flatMap_cons, List.length_append, List.length_cons, List.length_nil] at ih ⊢; omega
theorem rowOf_get1 (ds : List (Int × Int)) (z : Int × Int) : (rowOf (ds ++ [z]))[ds.length * 2]? = some (.int .i64 z.1) := by
  rw [rowOf_snoc, ← rowOf_length, List.getElem?_append_right (Nat.le_refl _)]; simp
theorem rowOf_get2 (ds : List (Int × Int)) (z : Int × Int) : (rowOf (ds ++ [z]))[ds.length * 2 + 1]? = some (.int .i64 z.2) := by
  rw [rowOf_snoc, ← rowOf_length, List.getElem?_append_right (by omega)]; simp
theorem rowOf_set (ds : List (Int × Int)) (z : Int × Int) (h : Int) : (rowOf (ds ++ [z])).set (ds.length * 2 + 1) (.int .i64 h) = rowOf (ds ++ [(z.1, h)]) := by
  rw [rowOf_snoc, rowOf_snoc, ← rowOf_length, List.set_append_right _ _ (by omega)]; simp

/-- A run is put behind the others, or lengthens the last one. -/
def appR (rs : List (Int × Int)) (r : Int × Int) : List (Int × Int) :=
  match rs.getLast? with
  | some z => if r.1 = z.2 then rs.dropLast ++ [(z.1, r.2)] else rs ++ [r]
  | none => [r]
theorem appR_nil (r : Int × Int) : appR [] r = [r] := rfl
theorem appR_snoc (ds : List (Int × Int)) (z r : Int × Int) : appR (ds ++ [z]) r = if r.1 = z.2 then ds ++ [(z.1, r.2)] else (ds ++ [z]) ++ [r] := by simp [appR]
theorem appR_length (rs : List (Int × Int)) (r : Int × Int) : (appR rs r).length ≤ rs.length + 1 := by
  rcases List.eq_nil_or_concat rs with rfl | ⟨ds, z, e⟩
  · simp [appR_nil]
  · rw [show rs = ds ++ [z] by rw [e]; simp, appR_snoc]
    split <;> simp

theorem owns_drewN {w : World} {base : Nat} {e : TypeId} {size : Nat} {v : Value} {n : Nat} {xs : List Value} (h : w.ownsRow base e size v n xs) (k : Nat) : (w.drewN k).ownsRow base e size v n xs := h

theorem allocB {w : World} {base : Nat} {o : Obj} (hb : base ≤ w.heap.size) : Below base w (w.alloc o) := (Below.refl base w).alloc hb o
theorem app_below {w V w1 : World} {base : Nat} {o : Obj} {v : Value} (h : Below base w V) (hb : base ≤ w.heap.size) (hown : ∀ k, v.ownBlock = some k → base ≤ k) (hg : (V.alloc o).grownBy w1 v.ownBlock) : Below base w w1 :=
  Below.grown (h.alloc (Nat.le_trans hb h.size) o) hg (by have := h.size; simp; omega) hown

theorem keeps_drewN (w : World) (n : Nat) : KeepsOthers w (w.drewN n) := ⟨Nat.le_refl _, fun _ _ h _ => h⟩
theorem app_keeps {w V w1 : World} {base : Nat} {o : Obj} {v : Value} {e : TypeId} {size n : Nat} {xs : List Value} (h : KeepsOthers w V) (hown : (V.alloc o).ownsRow base e size v n xs) (hg : (V.alloc o).grownBy w1 v.ownBlock) : KeepsOthers w w1 :=
  (h.trans (KeepsOthers.alloc V o)).trans (KeepsOthers.of_grownBy hg (fun j ob hj hob => by
    rcases hown.2 with ⟨rfl, _⟩ | ⟨g, cap, cur, rfl, _, hgb, _⟩
    · simp [Value.ownBlock] at hj
    · simp [Value.ownBlock] at hj
      subst hj
      rw [hgb] at hob; cases hob; rfl))

end Go.Proofs.YtimfbjnpalgmcaaGreat

namespace Go.Proofs.YtimfbjnpalgmcaaGreat
set_option linter.unusedSimpArgs false
set_option linter.unusedVariables false
open Go.RowKit

theorem rowOf_at : ∀ (rs : List (Int × Int)) (i : Nat), i < rs.length → (rowOf rs)[i * 2]? = some (.int .i64 (rs.getD i (0, 0)).1) ∧ (rowOf rs)[i * 2 + 1]? = some (.int .i64 (rs.getD i (0, 0)).2)
  | [], i, hi => by simp at hi
  | r :: rs, 0, _ => by simp [rowOf]
  | r :: rs, i + 1, hi => by
    have h := rowOf_at rs i (by simpa using hi)
    have e1 : (i + 1) * 2 = i * 2 + 1 + 1 := by omega
    have e2 : (i + 1) * 2 + 1 = i * 2 + 1 + 1 + 1 := by omega
    rw [e1]
    have e : rowOf (r :: rs) = .int .i64 r.1 :: .int .i64 r.2 :: rowOf rs := by simp [rowOf]
    rw [e]
    simpa using h
theorem pairs_of_owned {w : World} {base n : Nat} {T : TypeId} {v : Value} {rs : List (Int × Int)} (h : w.ownsRow base T 2 v n (rowOf rs)) (hn : n = rs.length) : ∃ b c, v = .slice b n c ∧ IsPairs w b rs := by
  subst hn
  rcases h.2 with ⟨e, e'⟩ | ⟨g, cap, cur, rfl, _⟩
  · exact ⟨none, 0, by rw [e, e'], .inl (List.eq_nil_of_length_eq_zero e')⟩
  · refine ⟨_, _, rfl, .inr ⟨g, 0, rfl, fun i hi => ?_⟩⟩
    have r := rowOf_at rs i hi
    exact ⟨by rw [Nat.zero_add, h.cellAt (i * 2) (by omega)]; exact r.1, by rw [Nat.zero_add, h.cellAt (i * 2 + 1) (by omega)]; exact r.2⟩
theorem narrowAt_row (f : Nat → Int × Int) (n : Nat) : narrowAt f n n = rowOf ((List.range n).map f) := by
  have hlen : (rowOf ((List.range n).map f)).length = n * 2 := by rw [rowOf_length]; simp
  apply List.ext_getElem?
  intro j
  by_cases hj : j < n * 2
  · have hi : j / 2 < ((List.range n).map f).length := by simp; omega
    have r := rowOf_at ((List.range n).map f) (j / 2) hi
    have hd : ((List.range n).map f).getD (j / 2) (0, 0) = f (j / 2) := by
      rw [List.getD_eq_getElem?_getD, List.getElem?_map, List.getElem?_range (by omega)]; rfl
    rw [hd] at r
    have hl : (narrowAt f n n)[j]? = some (.int .i64 (if j % 2 = 0 then (f (j / 2)).1 else (f (j / 2)).2)) := by
      unfold narrowAt
      rw [List.getElem?_map, List.getElem?_range hj]
      simp [show j / 2 < n by omega]
    rw [hl]
    by_cases h0 : j % 2 = 0
    · rw [if_pos h0]
      have e : j / 2 * 2 = j := by omega
      rw [e] at r
      exact r.1.symm
    · rw [if_neg h0]
      have e : j / 2 * 2 + 1 = j := by omega
      rw [e] at r
      exact r.2.symm
  · rw [List.getElem?_eq_none (by simp [narrowAt]; omega), List.getElem?_eq_none (by omega)]

/-- The sums of the ends of the first k ranges. -/
def sumL (rs : List (Int × Int)) (k : Nat) : Int := isum ((rs.map Prod.fst).take k)
def sumH (rs : List (Int × Int)) (k : Nat) : Int := isum ((rs.map Prod.snd).take k)
theorem sumL_step {rs : List (Int × Int)} {k : Nat} (hk : k < rs.length) : sumL rs k + (rs.getD k (0, 0)).1 = sumL rs (k + 1) := by
  unfold sumL
  rw [isum_step (by simpa using hk)]
  simp [List.getD_eq_getElem?_getD, List.getElem?_eq_getElem hk]
theorem sumH_step {rs : List (Int × Int)} {k : Nat} (hk : k < rs.length) : sumH rs k + (rs.getD k (0, 0)).2 = sumH rs (k + 1) := by
  unfold sumH
  rw [isum_step (by simpa using hk)]
  simp [List.getD_eq_getElem?_getD, List.getElem?_eq_getElem hk]
theorem range_get {rs : List (Int × Int)} (h : rs.all rangeOk = true) {k : Nat} (hk : k < rs.length) : (-1000000000000000 ≤ (rs.getD k (0, 0)).1 ∧ (rs.getD k (0, 0)).1 ≤ (rs.getD k (0, 0)).2) ∧ (rs.getD k (0, 0)).2 ≤ 1000000000000000 := by
  have h1 := List.all_eq_true.1 h _ (List.getElem_mem hk)
  rw [List.getD_eq_getElem?_getD, List.getElem?_eq_getElem hk, Option.getD_some]
  simp [rangeOk, allIn] at h1
  omega
theorem sums_bound {rs : List (Int × Int)} (h : rs.all rangeOk = true) : ∀ k, k ≤ rs.length → (-(k * 1000000000000000) ≤ sumL rs k ∧ sumL rs k ≤ k * 1000000000000000) ∧ -(k * 1000000000000000) ≤ sumH rs k ∧ sumH rs k ≤ k * 1000000000000000
  | 0, _ => by simp [sumL, sumH, isum]
  | k + 1, hk => by
    have ih := sums_bound h k (by omega)
    have r := range_get h (k := k) (by omega)
    rw [← sumL_step (by omega), ← sumH_step (by omega)]
    push_cast
    omega

/-- Balance: its error, the sum, and what the parts are narrowed to. -/
def balE (rs : List (Int × Int)) (wl wh : Int) : Int :=
  if decide ((rs.length : Int) ≤ 100) = false then 5 else if rs.all rangeOk = false then 2 else if [(wl, wh)].all rangeOk = false then 2
  else if max (sumL rs rs.length) wl ≤ min (sumH rs rs.length) wh then 0 else 7
def balS (rs : List (Int × Int)) (wl wh : Int) : Int × Int := if balE rs wl wh = 0 then (max (sumL rs rs.length) wl, min (sumH rs rs.length) wh) else (0, 0)
def balPart (rs : List (Int × Int)) (wl wh : Int) (k : Nat) : Int × Int :=
  (max (rs.getD k (0, 0)).1 (max (sumL rs rs.length) wl - (sumH rs rs.length - (rs.getD k (0, 0)).2)), min (rs.getD k (0, 0)).2 (min (sumH rs rs.length) wh - (sumL rs rs.length - (rs.getD k (0, 0)).1)))
def balN (rs : List (Int × Int)) (wl wh : Int) : List (Int × Int) := if balE rs wl wh = 0 then (List.range rs.length).map (balPart rs wl wh) else []

end Go.Proofs.YtimfbjnpalgmcaaGreat
