/-
  The reference: MulDiv returns what MulDiv returns.
-/
import Derived.Test.YtckapcfofkeicaaRefF
namespace Go.Proofs.Ytckapcfofkeicaa
set_option linter.unusedSimpArgs false
set_option linter.unusedVariables false
open Go.RowKit

theorem number_any (n : Int) (w : World) : Calls Try.prog 75 #[.int .i64 n] w fun e w' => e = .returned (.bool (allIn 1000000000000000 [n])) ∧ w = w' := by
  by_cases h : -1000000000000000 ≤ n
  · have d1 : decide (-1000000000000000 ≤ n) = true := decide_eq_true h
    by_cases h2 : n ≤ 1000000000000000
    · have E : allIn 1000000000000000 [n] = true := allIn_one.2 ⟨h, h2⟩
      have d2 : decide (n ≤ 1000000000000000) = true := decide_eq_true h2
      rw [E]
      clear E
      go_enter Try.func75, Try.ntmps75
      go_wp2
      go_ret
      exact ⟨rfl, rfl⟩
    · have E : allIn 1000000000000000 [n] = false := by
        cases hh : allIn 1000000000000000 [n] with
        | false => rfl
        | true => exact absurd (allIn_one.1 hh).2 h2
      have d2 : decide (n ≤ 1000000000000000) = false := decide_eq_false h2
      rw [E]
      clear E
      go_enter Try.func75, Try.ntmps75
      go_wp2
      go_ret
      exact ⟨rfl, rfl⟩
  · have E : allIn 1000000000000000 [n] = false := by
      cases hh : allIn 1000000000000000 [n] with
      | false => rfl
      | true => exact absurd (allIn_one.1 hh).1 h
    have d1 : decide (-1000000000000000 ≤ n) = false := decide_eq_false h
    rw [E]
    clear E
    go_enter Try.func75, Try.ntmps75
    go_wp2
    go_ret
    exact ⟨rfl, rfl⟩
/-- Number, told. -/
def Num (n : Int) (k : Bool) : Prop := ∀ w, Calls Try.prog 75 #[.int .i64 n] w fun e w' => e = .returned (.bool k) ∧ w = w'
theorem num_of {n : Int} {k : Bool} (h : allIn 1000000000000000 [n] = k) : Hid (Num n k) := fun w => by have := number_any n w; rwa [h] at this

set_option maxRecDepth 100000 in
set_option maxHeartbeats 6400000 in
theorem refMul_bad (a b c how : Int) (w : World) (E : Int)
    (H : (decide (how < 1) = true ∧ E = 2) ∨ (decide (how < 1) = false ∧ decide (3 < how) = true ∧ E = 2)) :
    Calls Try.prog 21 #[.int .i64 a, .int .i64 b, .int .i64 c, .int .u8 how] w fun e w' => e = .returned (.tuple #[.int .i64 0, .int .i64 0, .int .i64 E]) ∧ Below w.heap.size w w' := by
  rcases H with ⟨h, rfl⟩ | ⟨h, h2, rfl⟩
  all_goals
    go_enter Try.func21, Try.ntmps21
    go_wp2_with fail
    go_ret3
    exact ⟨rfl, (by repeat (first | exact Below.refl _ _ | assumption | apply balloc | apply bdrew | (refine bset ?_ (by first | (simp; done) | omega | (simp; omega)) _) | (refine bnext ?_ (by assumption))))⟩
set_option maxRecDepth 100000 in
set_option maxHeartbeats 6400000 in
theorem refMul_none (a b c how : Int) (w : World) (h1 : decide (how < 1) = false) (h2 : decide (3 < how) = false)
    (H : Hid (Num a false) ∨ (Hid (Num a true) ∧ Hid (Num b false)) ∨ (Hid (Num a true) ∧ Hid (Num b true) ∧ decide (c < 1) = true) ∨ (Hid (Num a true) ∧ Hid (Num b true) ∧ decide (c < 1) = false ∧ decide (1000000000000000 < c) = true)) :
    Calls Try.prog 21 #[.int .i64 a, .int .i64 b, .int .i64 c, .int .u8 how] w fun e w' => e = .returned (.tuple #[.int .i64 0, .int .i64 0, .int .i64 3]) ∧ Below w.heap.size w w' := by
  rcases H with H1 | ⟨H1, H2⟩ | ⟨H1, H2, H3⟩ | ⟨H1, H2, H3, H4⟩
  · go_enter Try.func21, Try.ntmps21
    go_wp2_with fail
    refine (H1.out _).mono ?_
    rintro e w1 ⟨rfl, rfl⟩
    go_wp2_with fail
    go_ret3
    exact ⟨rfl, (by repeat (first | exact Below.refl _ _ | assumption | apply balloc | apply bdrew | (refine bset ?_ (by first | (simp; done) | omega | (simp; omega)) _) | (refine bnext ?_ (by assumption))))⟩
  all_goals
    go_enter Try.func21, Try.ntmps21
    go_wp2_with fail
    refine (H1.out _).mono ?_
    rintro e w1 ⟨rfl, rfl⟩
    go_wp2_with fail
    refine (H2.out _).mono ?_
    rintro e w1 ⟨rfl, rfl⟩
    go_wp2_with fail
    go_ret3
    exact ⟨rfl, (by repeat (first | exact Below.refl _ _ | assumption | apply balloc | apply bdrew | (refine bset ?_ (by first | (simp; done) | omega | (simp; omega)) _) | (refine bnext ?_ (by assumption))))⟩
set_option maxRecDepth 100000 in
set_option maxHeartbeats 6400000 in
theorem refMul_far (a b c how x y : Int) (w : World) (h1 : decide (how < 1) = false) (h2 : decide (3 < how) = false) (H1 : Hid (Num a true)) (H2 : Hid (Num b true)) (h3 : decide (c < 1) = false) (h4 : decide (1000000000000000 < c) = false)
    (F : Hid (∀ w, Calls Try.prog 76 #[.int .i64 a, .int .i64 b, .int .i64 c] w fun e w' => e = .returned (.tuple #[.int .i64 x, .int .i64 y, .bool false]) ∧ Below w.heap.size w w')) :
    Calls Try.prog 21 #[.int .i64 a, .int .i64 b, .int .i64 c, .int .u8 how] w fun e w' => e = .returned (.tuple #[.int .i64 0, .int .i64 0, .int .i64 10]) ∧ Below w.heap.size w w' := by
  go_enter Try.func21, Try.ntmps21
  go_wp2_with fail
  refine (H1.out _).mono ?_
  rintro e w1 ⟨rfl, rfl⟩
  go_wp2_with fail
  refine (H2.out _).mono ?_
  rintro e w1 ⟨rfl, rfl⟩
  go_wp2_with fail
  refine (F.out _).mono ?_
  rintro e w1 ⟨rfl, hb⟩
  go_wp2_with fail
  go_ret3
  exact ⟨rfl, (by repeat (first | exact Below.refl _ _ | assumption | apply balloc | apply bdrew | (refine bset ?_ (by first | (simp; done) | omega | (simp; omega)) _) | (refine bnext ?_ (by assumption))))⟩
set_option maxRecDepth 100000 in
set_option maxHeartbeats 12800000 in
theorem refMul_go (a b c how q s n r : Int) (k : Bool) (w : World) (H1 : Hid (Num a true)) (H2 : Hid (Num b true)) (h3 : decide (c < 1) = false) (h4 : decide (1000000000000000 < c) = false)
    (F : Hid (∀ w, Calls Try.prog 76 #[.int .i64 a, .int .i64 b, .int .i64 c] w fun e w' => e = .returned (.tuple #[.int .i64 q, .int .i64 s, .bool true]) ∧ Below w.heap.size w w'))
    (H5 : Hid (Num n k)) (q0 : -3000000000000000 ≤ q) (q1 : q ≤ 3000000000000000) (s0 : 0 ≤ s) (s1 : s ≤ 1000000000000000) (c0 : 1 ≤ c) (c1 : c ≤ 1000000000000000)
    (H : (how = 1 ∧ n = q ∧ r = s ∧ decide (0 < s) = true) ∨ (how = 1 ∧ n = q ∧ r = s ∧ decide (0 < s) = false) ∨ (how = 2 ∧ n = q + 1 ∧ r = s - c ∧ decide (0 < s) = true) ∨ (how = 2 ∧ n = q ∧ r = s ∧ decide (0 < s) = false) ∨ (how = 3 ∧ n = q ∧ r = s ∧ decide (0 < s) = false) ∨
      (how = 3 ∧ n = q + 1 ∧ r = s - c ∧ decide (0 < s) = true ∧ decide (c < 2 * s) = true) ∨ (how = 3 ∧ n = q + 1 ∧ r = s - c ∧ decide (0 < s) = true ∧ decide (c < 2 * s) = false ∧ (2 * s == c) = true ∧ (q.tmod 2 != 0) = true) ∨
      (how = 3 ∧ n = q ∧ r = s ∧ decide (0 < s) = true ∧ decide (c < 2 * s) = false ∧ (2 * s == c) = true ∧ (q.tmod 2 != 0) = false) ∨ (how = 3 ∧ n = q ∧ r = s ∧ decide (0 < s) = true ∧ decide (c < 2 * s) = false ∧ (2 * s == c) = false)) :
    Calls Try.prog 21 #[.int .i64 a, .int .i64 b, .int .i64 c, .int .u8 how] w fun e w' => e = .returned (.tuple #[.int .i64 (if k = true then n else 0), .int .i64 (if k = true then r else 0), .int .i64 (if k = true then 0 else 10)]) ∧ Below w.heap.size w w' := by
  rcases H with ⟨rfl, rfl, rfl, t1⟩ | ⟨rfl, rfl, rfl, t1⟩ | ⟨rfl, rfl, rfl, t1⟩ | ⟨rfl, rfl, rfl, t1⟩ | ⟨rfl, rfl, rfl, t1⟩ | ⟨rfl, rfl, rfl, t1, t2⟩ | ⟨rfl, rfl, rfl, t1, t2, t3, t4⟩ | ⟨rfl, rfl, rfl, t1, t2, t3, t4⟩ | ⟨rfl, rfl, rfl, t1, t2, t3⟩
  all_goals cases k
  all_goals
    go_enter Try.func21, Try.ntmps21
    go_wp2_with fail
    refine (H1.out _).mono ?_
    rintro e w1 ⟨rfl, rfl⟩
    go_wp2_with fail
    refine (H2.out _).mono ?_
    rintro e w1 ⟨rfl, rfl⟩
    go_wp2_with fail
    refine (F.out _).mono ?_
    rintro e w1 ⟨rfl, hb⟩
    go_wp2_with fail
    refine (H5.out _).mono ?_
    rintro e w2 ⟨rfl, rfl⟩
    go_wp2_with fail
    go_ret3
    exact ⟨rfl, (by repeat (first | exact Below.refl _ _ | assumption | apply balloc | apply bdrew | (refine bset ?_ (by first | (simp; done) | omega | (simp; omega)) _) | (refine bnext ?_ (by assumption))))⟩
end Go.Proofs.Ytckapcfofkeicaa
