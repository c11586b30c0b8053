/-
  The reference: Floor, MulDiv.
-/
import Derived.Test.YtlpdbjkpgfpjjaaGreatRefQ
namespace Go.Proofs.YtlpdbjkpgfpjjaaGreat
set_option linter.unusedSimpArgs false
set_option linter.unusedVariables false
open Go.RowKit

/-- What the reference's Floor returns. -/
def refFlo (N c : Int) : Int × Int × Bool := if max N (-N) / c ≤ 2000000000000000 then (N / c, N % c, true) else (0, 0, false)
/-- It, out of the quotient of the numbers without their signs. -/
def signed (minus : Bool) (c : Int) (x : Int × Int × Bool) : Int × Int × Bool :=
  if x.2.2 = false then (0, 0, false) else if minus = true then (if 0 < x.2.1 then (-x.1 - 1, c - x.2.1, true) else (-x.1, 0, true)) else x
theorem signed_is {N M c : Int} {minus : Bool} (c0 : 1 ≤ c) (hM : 0 ≤ M) (h : (minus = true ∧ N = -M) ∨ (minus = false ∧ N = M)) : signed minus c (refQuo M c) = refFlo N c := by
  have hm : max N (-N) = M := by omega
  unfold refFlo refQuo signed
  rw [hm]
  by_cases hq : M / c ≤ 2000000000000000
  · rw [if_pos hq, if_pos hq]
    have r0 := Int.emod_nonneg M (show c ≠ 0 by omega)
    obtain ⟨d0, d1⟩ := neg_div (N := M) c0
    rcases h with ⟨rfl, rfl⟩ | ⟨rfl, rfl⟩
    · by_cases hr : 0 < M % c
      · obtain ⟨e1, e2⟩ := d1 hr
        simp [hr, e1, e2]
      · obtain ⟨e1, e2⟩ := d0 (by omega)
        simp [hr, e1, e2]
    · simp
  · rw [if_neg hq, if_neg hq]; simp

set_option maxHeartbeats 6400000 in
theorem refFloor_go (a b c A B Q R : Int) (ok minus : Bool) (w : World) (C : Hid (∀ w, Calls Tryz.prog 173 #[.int .i64 A, .int .i64 B, .int .i64 c] w fun e w' => e = .returned (.tuple #[.int .i64 Q, .int .i64 R, .bool ok]) ∧ Below w.heap.size w w'))
    (s : (a < 0 ∧ b < 0 ∧ A = -a ∧ B = -b ∧ minus = false) ∨ (a < 0 ∧ 0 ≤ b ∧ A = -a ∧ B = b ∧ minus = true) ∨ (0 ≤ a ∧ b < 0 ∧ A = a ∧ B = -b ∧ minus = true) ∨ (0 ≤ a ∧ 0 ≤ b ∧ A = a ∧ B = b ∧ minus = false))
    (a0 : -1000000000000000 ≤ a) (a1 : a ≤ 1000000000000000) (b0 : -1000000000000000 ≤ b) (b1 : b ≤ 1000000000000000) (c0 : 1 ≤ c) (c1 : c ≤ 1000000000000000) (q0 : 0 ≤ Q) (q1 : Q ≤ 2000000000000000) (r0 : 0 ≤ R) (r1 : R < c ∨ ok = false) (r2 : R ≤ 1000000000000000) :
    Calls Tryz.prog 165 #[.int .i64 a, .int .i64 b, .int .i64 c] w fun e w' => e = .returned (.tuple #[.int .i64 (signed minus c (Q, R, ok)).1, .int .i64 (signed minus c (Q, R, ok)).2.1, .bool (signed minus c (Q, R, ok)).2.2]) ∧ Below w.heap.size w w' := by
  rcases s with ⟨ha, hb, hA, hB, rfl⟩ | ⟨ha, hb, hA, hB, rfl⟩ | ⟨ha, hb, hA, hB, rfl⟩ | ⟨ha, hb, hA, hB, rfl⟩
  all_goals rw [hA, hB] at C
  all_goals clear hA hB A B
  · have d1 : decide (a < 0) = true := decide_eq_true (by omega)
    have d2 : decide (b < 0) = true := decide_eq_true (by omega)
    cases ok with
    | false =>
      go_enter Tryz.func165, Tryz.ntmps165
      go_wp2_with (go_at_call 173; refine (C.out _).mono ?_; rintro e w' ⟨rfl, hb⟩)
      go_ret3
      exact ⟨rfl, (by repeat (first | exact Below.refl _ _ | assumption | apply balloc | apply bdrew | (refine below_drewN ?_ _) | (refine bset ?_ (by first | (simp; done) | omega | (simp; omega)) _) | (refine bnext ?_ (by assumption))))⟩
    | true =>
      go_enter Tryz.func165, Tryz.ntmps165
      go_wp2_with (go_at_call 173; refine (C.out _).mono ?_; rintro e w' ⟨rfl, hb⟩)
      go_ret3
      exact ⟨rfl, (by repeat (first | exact Below.refl _ _ | assumption | apply balloc | apply bdrew | (refine below_drewN ?_ _) | (refine bset ?_ (by first | (simp; done) | omega | (simp; omega)) _) | (refine bnext ?_ (by assumption))))⟩
  · have d1 : decide (a < 0) = true := decide_eq_true (by omega)
    have d2 : decide (b < 0) = false := decide_eq_false (by omega)
    cases ok with
    | false =>
      go_enter Tryz.func165, Tryz.ntmps165
      go_wp2_with (go_at_call 173; refine (C.out _).mono ?_; rintro e w' ⟨rfl, hb⟩)
      go_ret3
      exact ⟨rfl, (by repeat (first | exact Below.refl _ _ | assumption | apply balloc | apply bdrew | (refine below_drewN ?_ _) | (refine bset ?_ (by first | (simp; done) | omega | (simp; omega)) _) | (refine bnext ?_ (by assumption))))⟩
    | true =>
      have r3 : R < c := by simpa using r1
      clear r1
      by_cases hR : 0 < R
      · have d3 : decide (0 < R) = true := decide_eq_true hR
        have E : signed true c (Q, R, true) = (-Q - 1, c - R, true) := by simp [signed, hR]
        rw [E]
        go_enter Tryz.func165, Tryz.ntmps165
        go_wp2_with (go_at_call 173; refine (C.out _).mono ?_; rintro e w' ⟨rfl, hb⟩)
        go_ret3
        exact ⟨rfl, (by repeat (first | exact Below.refl _ _ | assumption | apply balloc | apply bdrew | (refine below_drewN ?_ _) | (refine bset ?_ (by first | (simp; done) | omega | (simp; omega)) _) | (refine bnext ?_ (by assumption))))⟩
      · have d3 : decide (0 < R) = false := decide_eq_false hR
        have E : signed true c (Q, R, true) = (-Q, 0, true) := by simp [signed, hR]
        rw [E]
        go_enter Tryz.func165, Tryz.ntmps165
        go_wp2_with (go_at_call 173; refine (C.out _).mono ?_; rintro e w' ⟨rfl, hb⟩)
        go_ret3
        exact ⟨rfl, (by repeat (first | exact Below.refl _ _ | assumption | apply balloc | apply bdrew | (refine below_drewN ?_ _) | (refine bset ?_ (by first | (simp; done) | omega | (simp; omega)) _) | (refine bnext ?_ (by assumption))))⟩
  · have d1 : decide (a < 0) = false := decide_eq_false (by omega)
    have d2 : decide (b < 0) = true := decide_eq_true (by omega)
    cases ok with
    | false =>
      go_enter Tryz.func165, Tryz.ntmps165
      go_wp2_with (go_at_call 173; refine (C.out _).mono ?_; rintro e w' ⟨rfl, hb⟩)
      go_ret3
      exact ⟨rfl, (by repeat (first | exact Below.refl _ _ | assumption | apply balloc | apply bdrew | (refine below_drewN ?_ _) | (refine bset ?_ (by first | (simp; done) | omega | (simp; omega)) _) | (refine bnext ?_ (by assumption))))⟩
    | true =>
      have r3 : R < c := by simpa using r1
      clear r1
      by_cases hR : 0 < R
      · have d3 : decide (0 < R) = true := decide_eq_true hR
        have E : signed true c (Q, R, true) = (-Q - 1, c - R, true) := by simp [signed, hR]
        rw [E]
        go_enter Tryz.func165, Tryz.ntmps165
        go_wp2_with (go_at_call 173; refine (C.out _).mono ?_; rintro e w' ⟨rfl, hb⟩)
        go_ret3
        exact ⟨rfl, (by repeat (first | exact Below.refl _ _ | assumption | apply balloc | apply bdrew | (refine below_drewN ?_ _) | (refine bset ?_ (by first | (simp; done) | omega | (simp; omega)) _) | (refine bnext ?_ (by assumption))))⟩
      · have d3 : decide (0 < R) = false := decide_eq_false hR
        have E : signed true c (Q, R, true) = (-Q, 0, true) := by simp [signed, hR]
        rw [E]
        go_enter Tryz.func165, Tryz.ntmps165
        go_wp2_with (go_at_call 173; refine (C.out _).mono ?_; rintro e w' ⟨rfl, hb⟩)
        go_ret3
        exact ⟨rfl, (by repeat (first | exact Below.refl _ _ | assumption | apply balloc | apply bdrew | (refine below_drewN ?_ _) | (refine bset ?_ (by first | (simp; done) | omega | (simp; omega)) _) | (refine bnext ?_ (by assumption))))⟩
  · have d1 : decide (a < 0) = false := decide_eq_false (by omega)
    have d2 : decide (b < 0) = false := decide_eq_false (by omega)
    cases ok with
    | false =>
      go_enter Tryz.func165, Tryz.ntmps165
      go_wp2_with (go_at_call 173; refine (C.out _).mono ?_; rintro e w' ⟨rfl, hb⟩)
      go_ret3
      exact ⟨rfl, (by repeat (first | exact Below.refl _ _ | assumption | apply balloc | apply bdrew | (refine below_drewN ?_ _) | (refine bset ?_ (by first | (simp; done) | omega | (simp; omega)) _) | (refine bnext ?_ (by assumption))))⟩
    | true =>
      go_enter Tryz.func165, Tryz.ntmps165
      go_wp2_with (go_at_call 173; refine (C.out _).mono ?_; rintro e w' ⟨rfl, hb⟩)
      go_ret3
      exact ⟨rfl, (by repeat (first | exact Below.refl _ _ | assumption | apply balloc | apply bdrew | (refine below_drewN ?_ _) | (refine bset ?_ (by first | (simp; done) | omega | (simp; omega)) _) | (refine bnext ?_ (by assumption))))⟩

theorem refQuo_bounds {M c : Int} (hM : 0 ≤ M) (c0 : 1 ≤ c) (c1 : c ≤ 1000000000000000) : (0 ≤ (refQuo M c).1 ∧ (refQuo M c).1 ≤ 2000000000000000) ∧ 0 ≤ (refQuo M c).2.1 ∧ ((refQuo M c).2.1 < c ∨ (refQuo M c).2.2 = false) ∧ (refQuo M c).2.1 ≤ 1000000000000000 := by
  have r0 := Int.emod_nonneg M (show c ≠ 0 by omega)
  have r1 := Int.emod_lt_of_pos M (show 0 < c by omega)
  have q0 := Int.ediv_nonneg hM (show 0 ≤ c by omega)
  unfold refQuo
  by_cases hq : M / c ≤ 2000000000000000
  · rw [if_pos hq]; simp only; omega
  · rw [if_neg hq]; simp only; omega

theorem refFloor_any (a b c : Int) (w : World) (a0 : -1000000000000000 ≤ a) (a1 : a ≤ 1000000000000000) (b0 : -1000000000000000 ≤ b) (b1 : b ≤ 1000000000000000) (c0 : 1 ≤ c) (c1 : c ≤ 1000000000000000) :
    Calls Tryz.prog 165 #[.int .i64 a, .int .i64 b, .int .i64 c] w fun e w' => e = .returned (.tuple #[.int .i64 (refFlo (a * b) c).1, .int .i64 (refFlo (a * b) c).2.1, .bool (refFlo (a * b) c).2.2]) ∧ Below w.heap.size w w' := by
  have go : ∀ (A B : Int) (minus : Bool), 0 ≤ A → 0 ≤ B → A ≤ 1000000000000000 → B ≤ 1000000000000000 → ((a < 0 ∧ b < 0 ∧ A = -a ∧ B = -b ∧ minus = false) ∨ (a < 0 ∧ 0 ≤ b ∧ A = -a ∧ B = b ∧ minus = true) ∨ (0 ≤ a ∧ b < 0 ∧ A = a ∧ B = -b ∧ minus = true) ∨ (0 ≤ a ∧ 0 ≤ b ∧ A = a ∧ B = b ∧ minus = false)) →
      ((minus = true ∧ a * b = -(A * B)) ∨ (minus = false ∧ a * b = A * B)) → Calls Tryz.prog 165 #[.int .i64 a, .int .i64 b, .int .i64 c] w fun e w' => e = .returned (.tuple #[.int .i64 (refFlo (a * b) c).1, .int .i64 (refFlo (a * b) c).2.1, .bool (refFlo (a * b) c).2.2]) ∧ Below w.heap.size w w' := by
    intro A B minus hA hB hA1 hB1 hs hN
    have hM : 0 ≤ A * B := Int.mul_nonneg hA hB
    obtain ⟨⟨b1', b2'⟩, b3', b4', b5'⟩ := refQuo_bounds hM c0 c1
    have := refFloor_go a b c A B _ _ _ minus w (fun w => quotient_any A B c w hA hA1 hB hB1 c0 c1) hs a0 a1 b0 b1 c0 c1 b1' b2' b3' b4' b5'
    rwa [show ((refQuo (A * B) c).1, (refQuo (A * B) c).2.1, (refQuo (A * B) c).2.2) = refQuo (A * B) c from rfl, signed_is c0 hM hN] at this
  by_cases ha : a < 0
  · by_cases hb : b < 0
    · exact go (-a) (-b) false (by omega) (by omega) (by omega) (by omega) (.inl ⟨ha, hb, rfl, rfl, rfl⟩) (.inr ⟨rfl, by rw [Int.neg_mul_neg]⟩)
    · exact go (-a) b true (by omega) (by omega) (by omega) (by omega) (.inr (.inl ⟨ha, by omega, rfl, rfl, rfl⟩)) (.inl ⟨rfl, by rw [Int.neg_mul, Int.neg_neg]⟩)
  · by_cases hb : b < 0
    · exact go a (-b) true (by omega) (by omega) (by omega) (by omega) (.inr (.inr (.inl ⟨by omega, hb, rfl, rfl, rfl⟩))) (.inl ⟨rfl, by rw [Int.mul_neg, Int.neg_neg]⟩)
    · exact go a b false (by omega) (by omega) (by omega) (by omega) (.inr (.inr (.inr ⟨by omega, by omega, rfl, rfl, rfl⟩))) (.inr ⟨rfl, rfl⟩)
end Go.Proofs.YtlpdbjkpgfpjjaaGreat
