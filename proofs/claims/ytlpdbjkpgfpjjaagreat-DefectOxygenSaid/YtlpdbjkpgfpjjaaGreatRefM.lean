/-
  The reference: MulDiv returns what MulDiv returns.
-/
import Derived.Test.YtlpdbjkpgfpjjaaGreatRefF
namespace Go.Proofs.YtlpdbjkpgfpjjaaGreat
set_option linter.unusedSimpArgs false
set_option linter.unusedVariables false
open Go.RowKit

theorem number_any (n : Int) (w : World) : Calls Tryz.prog 164 #[.int .i64 n] w fun e w' => e = .returned (.bool (allIn 1000000000000000 [n])) ∧ w = w' := by
  by_cases h : -1000000000000000 ≤ n
  · have d1 : decide (-1000000000000000 ≤ n) = true := decide_eq_true h
    by_cases h2 : n ≤ 1000000000000000
    · have E : allIn 1000000000000000 [n] = true := allIn_one.2 ⟨h, h2⟩
      have d2 : decide (n ≤ 1000000000000000) = true := decide_eq_true h2
      rw [E]
      clear E
      go_enter Tryz.func164, Tryz.ntmps164
      go_wp2
      go_ret
      exact ⟨rfl, rfl⟩
    · have E : allIn 1000000000000000 [n] = false := by
        cases hh : allIn 1000000000000000 [n] with
        | false => rfl
        | true => exact absurd (allIn_one.1 hh).2 h2
      have d2 : decide (n ≤ 1000000000000000) = false := decide_eq_false h2
      rw [E]
      clear E
      go_enter Tryz.func164, Tryz.ntmps164
      go_wp2
      go_ret
      exact ⟨rfl, rfl⟩
  · have E : allIn 1000000000000000 [n] = false := by
      cases hh : allIn 1000000000000000 [n] with
      | false => rfl
      | true => exact absurd (allIn_one.1 hh).1 h
    have d1 : decide (-1000000000000000 ≤ n) = false := decide_eq_false h
    rw [E]
    clear E
    go_enter Tryz.func164, Tryz.ntmps164
    go_wp2
    go_ret
    exact ⟨rfl, rfl⟩
/-- Number, told. -/
def Num (n : Int) (k : Bool) : Prop := ∀ w, Calls Tryz.prog 164 #[.int .i64 n] w fun e w' => e = .returned (.bool k) ∧ w = w'
theorem num_of {n : Int} {k : Bool} (h : allIn 1000000000000000 [n] = k) : Hid (Num n k) := fun w => by have := number_any n w; rwa [h] at this

end Go.Proofs.YtlpdbjkpgfpjjaaGreat
