/-
  DefectJudges: the reference's Judge, and the walk.
-/
import Derived.Test.YtokneajgjgccaaaGreatDgK
import Derived.Test.YtokneajgjgccaaaGreatFrame
namespace Go.Proofs.YtokneajgjgccaaaGreat
set_option linter.unusedSimpArgs false
set_option linter.unusedVariables false
open Go.RowKit

theorem refJudge_any (c d : Int) (w : World) :
    Calls Tryz.prog 18 #[.int .u8 c, .int .u8 d] w fun e w' => e = .returned (.tuple #[.int .u8 (judQ c d).1, .int .i64 (judQ c d).2]) ∧ Below w.heap.size w w' := by
  by_cases h1 : 31 < c
  · have E : judQ c d = (0, 2) := by
      have e : judE c d = 2 := by unfold judE; rw [decide_eq_false (show ¬ c < 32 by omega)]; rfl
      rw [judQ, e]; rfl
    have b1 : decide (31 < c) = true := decide_eq_true h1
    rw [E]
    clear h1 E
    go_enter Tryz.func18, Tryz.ntmps18
    go_wp2_with fail
    exact bodyPost_ret (v := .tuple #[.int .u8 0, .int .i64 2]) (by simp [results, Tryz.results18, go_sem]) rfl ⟨rfl, (by repeat (first | exact Below.refl _ _ | assumption | apply balloc | apply bdrew | (refine below_drewN ?_ _) | (refine bset ?_ (by first | (simp; done) | omega | (simp; omega)) _) | (refine bnext ?_ (by assumption))))⟩
  · have b1 : decide (31 < c) = false := decide_eq_false h1
    by_cases h2 : 31 < d
    · have E : judQ c d = (0, 2) := by
        have e : judE c d = 2 := by unfold judE; rw [decide_eq_false (show ¬ d < 32 by omega), Bool.and_false]; rfl
        rw [judQ, e]; rfl
      have b2 : decide (31 < d) = true := decide_eq_true h2
      rw [E]
      clear h1 h2 E
      go_enter Tryz.func18, Tryz.ntmps18
      go_wp2_with fail
      exact bodyPost_ret (v := .tuple #[.int .u8 0, .int .i64 2]) (by simp [results, Tryz.results18, go_sem]) rfl ⟨rfl, (by repeat (first | exact Below.refl _ _ | assumption | apply balloc | apply bdrew | (refine below_drewN ?_ _) | (refine bset ?_ (by first | (simp; done) | omega | (simp; omega)) _) | (refine bnext ?_ (by assumption))))⟩
    · have b2 : decide (31 < d) = false := decide_eq_false h2
      have e0 : judE c d = 0 := by unfold judE; rw [decide_eq_true (show c < 32 by omega), decide_eq_true (show d < 32 by omega)]; rfl
      have E0 : judQ c d = (judG c d, 0) := by rw [judQ, e0]; rfl
      clear h1 h2 e0
      cases b3 : (bits BinOp.andNot IntKind.u8 c d == 0) with
      | true =>
        have E : judQ c d = (1, 0) := by rw [E0, judG, if_pos b3]
        rw [E]
        clear E E0
        go_enter Tryz.func18, Tryz.ntmps18
        go_wp2_with fail
        exact bodyPost_ret (v := .tuple #[.int .u8 1, .int .i64 0]) (by simp [results, Tryz.results18, go_sem]) rfl ⟨rfl, (by repeat (first | exact Below.refl _ _ | assumption | apply balloc | apply bdrew | (refine below_drewN ?_ _) | (refine bset ?_ (by first | (simp; done) | omega | (simp; omega)) _) | (refine bnext ?_ (by assumption))))⟩
      | false =>
        cases b4 : (bits BinOp.and IntKind.u8 c d == 0) with
        | true =>
          have E : judQ c d = (3, 0) := by rw [E0, judG, if_neg (by rw [b3]; decide), if_pos b4]
          rw [E]
          clear E E0
          go_enter Tryz.func18, Tryz.ntmps18
          go_wp2_with fail
          exact bodyPost_ret (v := .tuple #[.int .u8 3, .int .i64 0]) (by simp [results, Tryz.results18, go_sem]) rfl ⟨rfl, (by repeat (first | exact Below.refl _ _ | assumption | apply balloc | apply bdrew | (refine below_drewN ?_ _) | (refine bset ?_ (by first | (simp; done) | omega | (simp; omega)) _) | (refine bnext ?_ (by assumption))))⟩
        | false =>
          have E : judQ c d = (2, 0) := by rw [E0, judG, if_neg (by rw [b3]; decide), if_neg (by rw [b4]; decide)]
          rw [E]
          clear E E0
          go_enter Tryz.func18, Tryz.ntmps18
          go_wp2_with fail
          exact bodyPost_ret (v := .tuple #[.int .u8 2, .int .i64 0]) (by simp [results, Tryz.results18, go_sem]) rfl ⟨rfl, (by repeat (first | exact Below.refl _ _ | assumption | apply balloc | apply bdrew | (refine below_drewN ?_ _) | (refine bset ?_ (by first | (simp; done) | omega | (simp; omega)) _) | (refine bnext ?_ (by assumption))))⟩
set_option maxHeartbeats 1600000 in
theorem defectJudges_walk (c d : Int) (w : World) :
    Calls Tryz.prog 4 #[.int .u8 c, .int .u8 d] w fun e w' => e = .returned (.bool true) ∧ Below w.heap.size w w' := by
  have J := hide (fun W => judge_any c d W)
  have R := hide (fun W => refJudge_any c d W)
  generalize (judQ c d).1 = g at *
  generalize (judQ c d).2 = e0 at *
  go_enter Tryz.func4, Tryz.ntmps4
  go_wp2_with fail
  refine (J.out _).mono ?_
  rintro e w1 ⟨rfl, hb1⟩
  go_wp2_with fail
  refine (R.out _).mono ?_
  rintro e w2 ⟨rfl, hb2⟩
  go_wp2_with fail
  refine (known5_any _).mono ?_
  rintro e w3 ⟨rfl, hb3⟩
  go_wp2_with fail
  go_ret
  exact ⟨rfl, (by repeat (first | exact Below.refl _ _ | assumption | apply balloc | apply bdrew | (refine below_drewN ?_ _) | (refine bset ?_ (by first | (simp; done) | omega | (simp; omega)) _) | (refine bnext ?_ (by assumption))))⟩
end Go.Proofs.YtokneajgjgccaaaGreat
