/-
  units.Where. The statements' own helper known: what the document's examples say.
-/
import Derived.Test.YtimfbjnpalgmcaaGreatVal
import Derived.Test.YtimfbjnpalgmcaaGreatRun
import Derived.Test.YtimfbjnpalgmcaaGreatFirst
namespace Go.Proofs.YtimfbjnpalgmcaaGreat
set_option linter.unusedSimpArgs false
set_option linter.unusedVariables false
open Go.RowKit Go.Shelf

attribute [local go_sem] Oper.semAt_some

/-- The conditions of Where come to E. -/
def WhCond (ks : List (Int × Int)) (lo hi E : Int) (k1 k2 : Bool) : Prop :=
  [(⟨none, 0, ks⟩ : Tb)].all Tb.ok = k1 ∧ [(lo, hi)].all rangeOk = k2 ∧ ∀ f1 c1 f2 c2, firstE [⟨2, f1, c1, k1⟩, ⟨2, f2, c2, k2⟩] = E

/-- What a piece adds to the runs. -/
def wStep (lo hi : Int) (rs : List (Int × Int)) (x : Pc) : List (Int × Int) :=
  if (whereQ x.1.1 x.1.2 x.2.1 x.2.2 lo hi).2 = true then appR rs (whereQ x.1.1 x.1.2 x.2.1 x.2.2 lo hi).1 else rs
def wAll (lo hi : Int) (ps : List Pc) : List (Int × Int) := ps.foldl (wStep lo hi) []
theorem wAll_snoc (lo hi : Int) (l : List Pc) (p : Pc) : wAll lo hi (l ++ [p]) = wStep lo hi (wAll lo hi l) p := by simp [wAll]
theorem wAll_length (lo hi : Int) (l : List Pc) : (wAll lo hi l).length ≤ l.length := by
  suffices ∀ rs : List (Int × Int), (l.foldl (wStep lo hi) rs).length ≤ rs.length + l.length by simpa [wAll] using this []
  induction l with
  | nil => intro rs; simp
  | cons p l ih =>
    intro rs
    have h1 : (wStep lo hi rs p).length ≤ rs.length + 1 := by
      unfold wStep
      split
      · exact appR_length _ _
      · omega
    have := ih (wStep lo hi rs p)
    simp only [List.foldl_cons, List.length_cons]
    omega
/-- The runs that have been found lie in the variable's box. -/
def Runs (base B : Nat) (rs : List (Int × Int)) (W : World) : Prop := ∃ v, Boxed W B 41 v ∧ W.ownsRow base 23 2 v rs.length (rowOf rs) ∧ True
theorem runs_own (base B : Nat) {β : Type} (f : β → List (Int × Int)) : Own (fun (s : β) W => Runs base B (f s) W) := holdsRow_own base B 41 23 2 (fun s => (f s).length) (fun s => rowOf (f s)) (fun _ _ => True)
theorem boxed_later {w W : World} {B : Nat} {t : TypeId} {v : Value} (h : Boxed w B t v) (hb : Below w.heap.size w W) : Boxed W B t v := (hb.block B h.lt).trans h
theorem runs_later {base B : Nat} {rs : List (Int × Int)} {w W : World} (h : Runs base B rs w) (hb : Below w.heap.size w W) : Runs base B rs W := by
  obtain ⟨v, h1, h2, h3⟩ := h
  exact ⟨v, boxed_later h1 hb, owns_later h2 hb, h3⟩
theorem slice_of_owns {w : World} {base n : Nat} {e : TypeId} {size : Nat} {v : Value} {xs : List Value} (h : w.ownsRow base e size v n xs) : ∃ a cap, v = .slice a n cap := by
  rcases h.2 with ⟨e, e'⟩ | ⟨g, cap, cur, e, _⟩
  · subst e'; exact ⟨none, 0, e⟩
  · exact ⟨_, cap, e⟩

theorem kv_of_below {n b : Nat} {A B : World} (h : Below n A B) : Kv n b A B := ⟨h.os, h.tape, h.output, h.size, fun k hk _ => h.block k hk⟩
theorem kv_set {n b : Nat} (A : World) (v : Value) : Kv n b A (A.setCell ⟨b, 0, none⟩ v) := ⟨rfl, rfl, rfl, (KeepsOthers.setCell A _ v).size, fun k _ hb => Below.heap_setCell _ _ _ k hb⟩
theorem owns_base {w : World} {base base' : Nat} {e : TypeId} {size : Nat} {v : Value} {n : Nat} {xs : List Value} (h : w.ownsRow base e size v n xs) (hb : base' ≤ base) : w.ownsRow base' e size v n xs := by
  obtain ⟨h1, h2⟩ := h
  refine ⟨h1, ?_⟩
  rcases h2 with h2 | ⟨g, cap, cur, hv, hg, r⟩
  · exact .inl h2
  · exact .inr ⟨g, cap, cur, hv, by omega, r⟩

/-- The results of Where. -/
def whereTQ (ks : List (Int × Int)) (lo hi : Int) : List (Int × Int) × Int :=
  if tabOk ks = false then ([], 2) else if [(lo, hi)].all rangeOk = false then ([], 2) else (wAll lo hi (segs ks (ks.length - 1)), 0)
end Go.Proofs.YtimfbjnpalgmcaaGreat

namespace Go.Proofs.YtimfbjnpalgmcaaGreat
set_option linter.unusedSimpArgs false
set_option linter.unusedVariables false
open Go.RowKit

theorem known_mulDiv (w : World) : Calls Tryz.prog 49 #[.int .i64 (-7), .int .i64 5, .int .i64 3, .int .u8 3] w fun e w' => e = .returned (.tuple #[.int .i64 (-12), .int .i64 1, .int .i64 0]) ∧ Below w.heap.size w w' := by
  have h := mulDiv_any (-7) 5 3 3 w
  rwa [show mulDivQ (-7) 5 3 3 = (-12, 1, 0) by kernel_rfl] at h
theorem known_times (w : World) : Calls Tryz.prog 121 #[.agg #[.int .i64 2, .int .i64 3], .agg #[.int .i64 (-4), .int .i64 5], .int .i64 2] w fun e w' => e = .returned (.tuple #[.agg #[.int .i64 (-6), .int .i64 8], .int .i64 0]) ∧ Below w.heap.size w w' := by
  have h := times_any 2 3 (-4) 5 2 w
  rwa [show timesQ 2 3 (-4) 5 2 = (-6, 8, 0) by kernel_rfl] at h
theorem known_value (w : World) (a : Option Addr) (hi : IsPairs w a hillK) : Calls Tryz.prog 48 #[.slice a 3 3, .agg #[.int .i64 3, .int .i64 12]] w fun e w' => e = .returned (.tuple #[.agg #[.int .i64 1, .int .i64 5], .int .i64 0]) ∧ Below w.heap.size w w' := by
  have h := value_any hillK a 3 3 12 w (by simp [hillK]) hi
  rwa [show valueQ hillK 3 12 = (1, 5, 0) by kernel_rfl] at h
theorem ints_three_of {W : World} {n : Nat} {a b c : Int} (h0 : W.cell? ⟨n, 0, none⟩ = some (.int .i64 a)) (h1 : W.cell? ⟨n, 1, none⟩ = some (.int .i64 b)) (h2 : W.cell? ⟨n, 2, none⟩ = some (.int .i64 c)) : IsInts W (some ⟨n, 0, none⟩) [a, b, c] := by
  refine .inr ⟨_, _, rfl, fun i hi => ?_⟩
  simp at hi
  obtain rfl | rfl | rfl : i = 0 ∨ i = 1 ∨ i = 2 := by omega
  · exact h0
  · exact h1
  · exact h2

end Go.Proofs.YtimfbjnpalgmcaaGreat
