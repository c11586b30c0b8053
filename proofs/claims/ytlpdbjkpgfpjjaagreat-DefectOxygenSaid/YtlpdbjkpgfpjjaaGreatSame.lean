/-
  The statements' own helpers: sameInts, sameRanges, hill.
-/
import Derived.Test.YtlpdbjkpgfpjjaaGreatConds
import Derived.BigQuiet
namespace Go.Proofs.YtlpdbjkpgfpjjaaGreat
set_option linter.unusedSimpArgs false
set_option linter.unusedVariables false
open Go.RowKit

theorem take_step {α : Type} {zs ys : List α} {k : Nat} {d : α} (h : zs.take k = ys.take k) (hk : k < zs.length) (hy : k < ys.length) (he : zs.getD k d = ys.getD k d) : zs.take (k + 1) = ys.take (k + 1) := by
  rw [List.take_succ_eq_append_getElem hk, List.take_succ_eq_append_getElem hy, h]
  simp only [List.getD_eq_getElem?_getD, List.getElem?_eq_getElem hk, List.getElem?_eq_getElem hy, Option.getD_some] at he
  rw [he]
theorem take_differ {α : Type} {zs ys : List α} {k : Nat} {d : α} (he : ¬ zs.getD k d = ys.getD k d) : zs ≠ ys := by
  rintro rfl; exact he rfl
theorem take_all {α : Type} {zs ys : List α} {k : Nat} (h : zs.take k = ys.take k) (hk : ¬ k < zs.length) (hl : zs.length = ys.length) : zs = ys := by
  rwa [List.take_of_length_le (by omega), List.take_of_length_le (by omega)] at h

/-- The table of the document's examples. -/
def hillK : List (Int × Int) := [(0, 0), (10, 5), (20, 0)]
end Go.Proofs.YtlpdbjkpgfpjjaaGreat
