/-
  units.appendRun.
-/
import Derived.Test.YtlpdbjkpgfpjjaaGreatBalG
import Derived.OwnWalk
import Derived.BigQuiet
import Derived.RangeFuncBox
namespace Go.Proofs.YtlpdbjkpgfpjjaaGreat
set_option linter.unusedSimpArgs false
set_option linter.unusedVariables false
open Go.RowKit

/-- The cells of a list of ranges. -/
def rowOf (rs : List (Int × Int)) : List Value := rs.flatMap fun r => [.int .i64 r.1, .int .i64 r.2]
theorem rowOf_nil : rowOf [] = [] := rfl
theorem rowOf_snoc (ds : List (Int × Int)) (z : Int × Int) : rowOf (ds ++ [z]) = rowOf ds ++ [.int .i64 z.1, .int .i64 z.2] := by simp [rowOf]
theorem rowOf_length (rs : List (Int × Int)) : (rowOf rs).length = rs.length * 2 := by
  induction rs with
  | nil => rfl
  | cons r rs ih => simp only [rowOf, List.flatMap_cons, List.length_append, List.length_cons, List.length_nil] at ih ⊢; omega
theorem rowOf_get1 (ds : List (Int × Int)) (z : Int × Int) : (rowOf (ds ++ [z]))[ds.length * 2]? = some (.int .i64 z.1) := by
  rw [rowOf_snoc, ← rowOf_length, List.getElem?_append_right (Nat.le_refl _)]; simp
theorem rowOf_get2 (ds : List (Int × Int)) (z : Int × Int) : (rowOf (ds ++ [z]))[ds.length * 2 + 1]? = some (.int .i64 z.2) := by
  rw [rowOf_snoc, ← rowOf_length, List.getElem?_append_right (by omega)]; simp
theorem rowOf_set (ds : List (Int × Int)) (z : Int × Int) (h : Int) : (rowOf (ds ++ [z])).set (ds.length * 2 + 1) (.int .i64 h) = rowOf (ds ++ [(z.1, h)]) := by
  rw [rowOf_snoc, rowOf_snoc, ← rowOf_length, List.set_append_right _ _ (by omega)]; simp

/-- A run is put behind the others, or lengthens the last one. -/
def appR (rs : List (Int × Int)) (r : Int × Int) : List (Int × Int) :=
  match rs.getLast? with
  | some z => if r.1 = z.2 then rs.dropLast ++ [(z.1, r.2)] else rs ++ [r]
  | none => [r]
theorem appR_nil (r : Int × Int) : appR [] r = [r] := rfl
theorem appR_snoc (ds : List (Int × Int)) (z r : Int × Int) : appR (ds ++ [z]) r = if r.1 = z.2 then ds ++ [(z.1, r.2)] else (ds ++ [z]) ++ [r] := by simp [appR]
theorem appR_length (rs : List (Int × Int)) (r : Int × Int) : (appR rs r).length ≤ rs.length + 1 := by
  rcases List.eq_nil_or_concat rs with rfl | ⟨ds, z, e⟩
  · simp [appR_nil]
  · rw [show rs = ds ++ [z] by rw [e]; simp, appR_snoc]
    split <;> simp

theorem owns_drewN {w : World} {base : Nat} {e : TypeId} {size : Nat} {v : Value} {n : Nat} {xs : List Value} (h : w.ownsRow base e size v n xs) (k : Nat) : (w.drewN k).ownsRow base e size v n xs := h

theorem allocB {w : World} {base : Nat} {o : Obj} (hb : base ≤ w.heap.size) : Below base w (w.alloc o) := (Below.refl base w).alloc hb o
theorem app_below {w V w1 : World} {base : Nat} {o : Obj} {v : Value} (h : Below base w V) (hb : base ≤ w.heap.size) (hown : ∀ k, v.ownBlock = some k → base ≤ k) (hg : (V.alloc o).grownBy w1 v.ownBlock) : Below base w w1 :=
  Below.grown (h.alloc (Nat.le_trans hb h.size) o) hg (by have := h.size; simp; omega) hown

theorem keeps_drewN (w : World) (n : Nat) : KeepsOthers w (w.drewN n) := ⟨Nat.le_refl _, fun _ _ h _ => h⟩
theorem app_keeps {w V w1 : World} {base : Nat} {o : Obj} {v : Value} {e : TypeId} {size n : Nat} {xs : List Value} (h : KeepsOthers w V) (hown : (V.alloc o).ownsRow base e size v n xs) (hg : (V.alloc o).grownBy w1 v.ownBlock) : KeepsOthers w w1 :=
  (h.trans (KeepsOthers.alloc V o)).trans (KeepsOthers.of_grownBy hg (fun j ob hj hob => by
    rcases hown.2 with ⟨rfl, _⟩ | ⟨g, cap, cur, rfl, _, hgb, _⟩
    · simp [Value.ownBlock] at hj
    · simp [Value.ownBlock] at hj
      subst hj
      rw [hgb] at hob; cases hob; rfl))

end Go.Proofs.YtlpdbjkpgfpjjaaGreat
