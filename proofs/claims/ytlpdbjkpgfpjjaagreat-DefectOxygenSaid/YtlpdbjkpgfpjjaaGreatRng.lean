/-
  check.AreRanges: ranges from 0 to a greatest number.
-/
import Derived.Test.YtlpdbjkpgfpjjaaGreatConds
import Derived.BigQuiet
namespace Go.Proofs.YtlpdbjkpgfpjjaaGreat
set_option linter.unusedSimpArgs false
set_option linter.unusedVariables false
open Go.RowKit

/-- A range from 0 to a greatest number. -/
def rgOk (most : Int) (r : Int × Int) : Bool := decide (0 ≤ r.1) && (decide (r.1 ≤ r.2) && decide (r.2 ≤ most))

/-! ### AreRanges -/
set_option maxHeartbeats 1000000 in
theorem areRanges_any (most : Int) (a : Option Addr) (cap : Nat) (rs : List (Int × Int)) (w : World) (hl : rs.length ≤ 140737488351232) (h : Hid (IsPairs w a rs)) :
    Calls Tryz.prog 82 #[.int .i64 most, .slice a rs.length cap] w fun e w' => e = .returned (.bool (rs.all (rgOk most))) ∧ Below w.heap.size w w' := by
  go_enter Tryz.func82, Tryz.ntmps82
  go_wp2_with fail
  go_loopw [9] (fun i wr => ∃ k : Nat, k ≤ rs.length ∧ i = .int .i64 (k : Int) ∧ Hid ((rs.take k).all (rgOk most) = true) ∧ Below w.heap.size w wr) (fun i _ => rs.length - (intOf i).toNat)
  case atStart => exact ⟨0, by omega, rfl, rfl, Below.refl _ _⟩
  case round =>
    obtain ⟨k, hk, rfl, hall, hbw⟩ := hrel
    by_cases hlt : k < rs.length
    · obtain ⟨b, off, rfl, hc⟩ : ∃ b off, a = some ⟨b, off, none⟩ ∧ ∀ i, i < rs.length → wr.cell? ⟨b, off + i * 2, none⟩ = some (.int .i64 (rs.getD i (0, 0)).1) ∧ wr.cell? ⟨b, off + i * 2 + 1, none⟩ = some (.int .i64 (rs.getD i (0, 0)).2) := by
        rcases pairs_later h.out hbw with h | h
        · subst h; simp at hlt
        · exact h
      obtain ⟨c1, c2⟩ := hc k hlt
      clear hc
      have S1 := hide (all_step (f := rgOk most) (d := (0, 0)) hlt hall.out)
      have S2 := hide (all_stop (f := rgOk most) (l := rs) (d := (0, 0)) hlt)
      generalize rs.getD k (0, 0) = z at *
      obtain ⟨x, y⟩ := z
      simp only at c1 c2
      have k0 : 0 ≤ (k : Int) := by omega
      have k1 : (k : Int) < rs.length := by omega
      have G := hide (show rgOk most (x, y) = (decide (0 ≤ x) && (decide (x ≤ y) && decide (y ≤ most))) from rfl)
      clear hall
      by_cases g1 : x < 0
      · have d1 : decide (x < 0) = true := decide_eq_true g1
        have E := hide (S2.out (by rw [G.out, decide_eq_false (show ¬ 0 ≤ x by omega)]; rfl))
        clear g1
        go_wp2_with fail
        go_ret
        exact ⟨ret_bool E.out.symm, balloc hbw⟩
      · have d1 : decide (x < 0) = false := decide_eq_false g1
        by_cases g2 : y < x
        · have d2 : decide (y < x) = true := decide_eq_true g2
          have E := hide (S2.out (by rw [G.out, decide_eq_false (show ¬ x ≤ y by omega)]; simp))
          clear g1 g2
          go_wp2_with fail
          go_ret
          exact ⟨ret_bool E.out.symm, balloc hbw⟩
        · have d2 : decide (y < x) = false := decide_eq_false g2
          by_cases g3 : most < y
          · have d3 : decide (most < y) = true := decide_eq_true g3
            have E := hide (S2.out (by rw [G.out, decide_eq_false (show ¬ y ≤ most by omega)]; simp))
            clear g1 g2 g3
            go_wp2_with fail
            go_ret
            exact ⟨ret_bool E.out.symm, balloc hbw⟩
          · have d3 : decide (most < y) = false := decide_eq_false g3
            have E := hide (S1.out (by rw [G.out, decide_eq_true (show 0 ≤ x by omega), decide_eq_true (show x ≤ y by omega), decide_eq_true (show y ≤ most by omega)]; rfl))
            clear g1 g2 g3
            go_wp2_with fail
            go_roundw
            case rel => exact ⟨k + 1, by omega, by go_num, E, balloc hbw⟩
            case measure => simp [intOf]; omega
    · have E := all_end hlt hall.out
      go_wp2_with fail
      go_ret
      exact ⟨ret_bool E.symm, hbw⟩
end Go.Proofs.YtlpdbjkpgfpjjaaGreat
