/-
  The statements' own helper known: what the document's examples say.
-/
import Derived.Test.YtlpdbjkpgfpjjaaGreatWh
import Derived.Test.YtlpdbjkpgfpjjaaGreatBalance
import Derived.Test.YtlpdbjkpgfpjjaaGreatSame
namespace Go.Proofs.YtlpdbjkpgfpjjaaGreat
set_option linter.unusedSimpArgs false
set_option linter.unusedVariables false
open Go.RowKit

theorem known_mulDiv (w : World) : Calls Tryz.prog 49 #[.int .i64 (-7), .int .i64 5, .int .i64 3, .int .u8 3] w fun e w' => e = .returned (.tuple #[.int .i64 (-12), .int .i64 1, .int .i64 0]) ∧ Below w.heap.size w w' := by
  have h := mulDiv_any (-7) 5 3 3 w
  rwa [show mulDivQ (-7) 5 3 3 = (-12, 1, 0) by kernel_rfl] at h
theorem known_times (w : World) : Calls Tryz.prog 121 #[.agg #[.int .i64 2, .int .i64 3], .agg #[.int .i64 (-4), .int .i64 5], .int .i64 2] w fun e w' => e = .returned (.tuple #[.agg #[.int .i64 (-6), .int .i64 8], .int .i64 0]) ∧ Below w.heap.size w w' := by
  have h := times_any 2 3 (-4) 5 2 w
  rwa [show timesQ 2 3 (-4) 5 2 = (-6, 8, 0) by kernel_rfl] at h
theorem known_value (w : World) (a : Option Addr) (hi : IsPairs w a hillK) : Calls Tryz.prog 48 #[.slice a 3 3, .agg #[.int .i64 3, .int .i64 12]] w fun e w' => e = .returned (.tuple #[.agg #[.int .i64 1, .int .i64 5], .int .i64 0]) ∧ Below w.heap.size w w' := by
  have h := value_any hillK a 3 3 12 w (by simp [hillK]) hi
  rwa [show valueQ hillK 3 12 = (1, 5, 0) by kernel_rfl] at h
theorem ints_three_of {W : World} {n : Nat} {a b c : Int} (h0 : W.cell? ⟨n, 0, none⟩ = some (.int .i64 a)) (h1 : W.cell? ⟨n, 1, none⟩ = some (.int .i64 b)) (h2 : W.cell? ⟨n, 2, none⟩ = some (.int .i64 c)) : IsInts W (some ⟨n, 0, none⟩) [a, b, c] := by
  refine .inr ⟨_, _, rfl, fun i hi => ?_⟩
  simp at hi
  obtain rfl | rfl | rfl : i = 0 ∨ i = 1 ∨ i = 2 := by omega
  · exact h0
  · exact h1
  · exact h2

end Go.Proofs.YtlpdbjkpgfpjjaaGreat
