/-
  The reference: quotient, Floor, MulDiv.
-/
import Derived.Test.YtlpdbjkpgfpjjaaGreatFrameB
import Derived.Test.YtlpdbjkpgfpjjaaGreatExB
import Derived.BigQuiet
namespace Go.Proofs.YtlpdbjkpgfpjjaaGreat
set_option linter.unusedSimpArgs false
set_option linter.unusedVariables false
open Go.RowKit

theorem and_bit (x : Int) (h0 : 0 ≤ x) (h1 : x < 9223372036854775808) : bits BinOp.and IntKind.i64 x 1 = x % 2 := by
  have two63 : (2 : Int) ^ 63 = 9223372036854775808 := by decide
  have h := bits_mask .i64 63 (by decide) (fun n h0 h1 => by rw [two63] at h1; rw [IntKind.wrap_i64]; omega) 1 (by decide) x h0 (by rw [two63]; omega)
  have e : ((2 : Int) ^ 1 - 1) = 1 := by decide
  rw [e] at h
  rw [h]
  omega
theorem pow_pos' (m : Nat) : (0 : Int) < 2 ^ m := Int.pow_pos (by omega)
theorem high_step (a : Int) (m : Nat) : a / 2 ^ (m + 1) = a / 2 ^ m / 2 := by
  rw [Int.pow_succ, Int.ediv_ediv_of_nonneg (Int.le_of_lt (pow_pos' m))]
theorem high_bounds {a : Int} (m : Nat) (a0 : 0 ≤ a) (a1 : a ≤ 1000000000000000) : 0 ≤ a / 2 ^ m ∧ a / 2 ^ m ≤ a :=
  ⟨Int.ediv_nonneg a0 (Int.le_of_lt (pow_pos' m)), Int.ediv_le_self _ a0⟩
theorem high_top {a : Int} (a0 : 0 ≤ a) (a1 : a ≤ 1000000000000000) : a / 2 ^ 50 = 0 := by
  rw [show (2 : Int) ^ 50 = 1125899906842624 by decide]; omega

/-- What the reference's quotient of numbers that are not negative is. -/
def refQuo (N c : Int) : Int × Int × Bool := if N / c ≤ 2000000000000000 then (N / c, N % c, true) else (0, 0, false)
theorem quo_rest {N q r c : Int} (h : q * c + r = N) (h0 : 0 ≤ r) (h1 : r < c) : N / c = q ∧ N % c = r :=
  (Int.ediv_emod_unique (by omega)).2 ⟨by rw [Int.mul_comm] at h; omega, h0, h1⟩
theorem far_of {a b c x q r : Int} (c0 : 1 ≤ c) (b0 : 0 ≤ b) (hx : x ≤ a) (h : q * c + r = x * b) (r0 : 0 ≤ r) (hq : 2000000000000000 < q) : refQuo (a * b) c = (0, 0, false) := by
  unfold refQuo
  rw [if_neg]
  have h1 : x * b ≤ a * b := Int.mul_le_mul_of_nonneg_right hx b0
  have h2 : q ≤ a * b / c := (Int.le_ediv_iff_mul_le (by omega)).2 (by omega)
  omega
/-- A step: the number so far is doubled, and a bit comes to it. -/
theorem step_even {Q R c x b : Int} (h : Q * c + R = x / 2 * b) (hb : x % 2 = 0) : 2 * Q * c + 2 * R = x * b := by
  have e : x = 2 * (x / 2) := by omega
  have e1 : x * b = 2 * (x / 2 * b) := by rw [← Int.mul_assoc, ← e]
  rw [e1, ← h, Int.mul_add, Int.mul_assoc]
theorem step_odd {Q R c x b : Int} (h : Q * c + R = x / 2 * b) (hb : x % 2 = 1) : (2 * Q + b / c) * c + (2 * R + b % c) = x * b := by
  have e : x = 2 * (x / 2) + 1 := by omega
  have e1 : x * b = 2 * (x / 2 * b) + b := by
    have : x * b = (2 * (x / 2) + 1) * b := by rw [← e]
    rw [this, Int.add_mul, Int.one_mul, Int.mul_assoc]
  have e2 := Int.mul_ediv_add_emod b c
  rw [e1, ← h, Int.mul_add, Int.add_mul, Int.mul_assoc, Int.mul_comm (b / c) c]
  omega

set_option maxHeartbeats 6400000 in
theorem quotient_any (a b c : Int) (w : World) (a0 : 0 ≤ a) (a1 : a ≤ 1000000000000000) (b0 : 0 ≤ b) (b1 : b ≤ 1000000000000000) (c0 : 1 ≤ c) (c1 : c ≤ 1000000000000000) :
    Calls Tryz.prog 173 #[.int .i64 a, .int .i64 b, .int .i64 c] w fun e w' => e = .returned (.tuple #[.int .i64 (refQuo (a * b) c).1, .int .i64 (refQuo (a * b) c).2.1, .bool (refQuo (a * b) c).2.2]) ∧ Below w.heap.size w w' := by
  have hz : (c == 0) = false := by simp; omega
  have hq0 := Int.ediv_nonneg b0 (show 0 ≤ c by omega)
  have hq1 := Int.ediv_le_self c b0
  have hr0 := Int.emod_nonneg b (show c ≠ 0 by omega)
  have hr1 := Int.emod_lt_of_pos b (show 0 < c by omega)
  go_enter Tryz.func173, Tryz.ntmps173
  go_wp2_with fail
  go_loopw [9, 10, 11] (fun q r i wr => ∃ j : Nat, ∃ Q R : Int, j ≤ 50 ∧ i = .int .i64 ((j : Int) - 1) ∧ q = .int .i64 Q ∧ r = .int .i64 R ∧ Q * c + R = a / 2 ^ j * b ∧ (0 ≤ R ∧ R < c) ∧ (0 ≤ Q ∧ Q ≤ 2000000000000000) ∧ Below w.heap.size w wr) (fun _ _ i _ => (intOf i + 1).toNat)
  case atStart => exact ⟨50, 0, 0, by omega, rfl, rfl, rfl, by rw [high_top a0 a1]; simp, ⟨by omega, by omega⟩, ⟨by omega, by omega⟩, Below.refl _ _⟩
  case round =>
    obtain ⟨j, Q, R, hj, rfl, rfl, rfl, hE, ⟨hR0, hR1⟩, ⟨hQ0, hQ1⟩, hbw⟩ := hrel
    by_cases hlt : 1 ≤ j
    · obtain ⟨m, rfl⟩ : ∃ m, j = m + 1 := ⟨j - 1, by omega⟩
      have e1 : ((m + 1 : Nat) : Int) - 1 = (m : Int) := by omega
      rw [e1]
      have hm : m < 50 := by omega
      obtain ⟨hx0, hx1⟩ := high_bounds m a0 a1
      rw [high_step] at hE
      have hbit := and_bit (a / 2 ^ m) hx0 (by omega)
      obtain ⟨x, hx⟩ : ∃ x, a / 2 ^ m = x := ⟨_, rfl⟩
      rw [hx] at hE hbit hx0 hx1
      have HX := hide hx
      have body : ∀ q0 r0 : Int, q0 * c + r0 = x * b → 0 ≤ q0 → 0 ≤ r0 → q0 + r0 ≤ 10000000000000000 → True := fun _ _ _ _ _ _ => trivial
      by_cases hb : x % 2 = 1
      · have E := hide (step_odd hE hb)
        rw [hb] at hbit
        have hb2 : (bits BinOp.and IntKind.i64 (a / 2 ^ m) 1 == 1) = true := by rw [hx, hbit]; rfl
        clear hE hbit hb body hx
        go_wp2_with fail
        go_quiet (fail)
        go_wp2_with fail
        go_loopw [9, 10] (fun q r wx => ∃ q0 r0 : Int, q = .int .i64 q0 ∧ r = .int .i64 r0 ∧ q0 * c + r0 = x * b ∧ 0 ≤ q0 ∧ 0 ≤ r0 ∧ q0 + r0 ≤ 10000000000000000 ∧ Below w.heap.size w wx) (fun _ r _ => (intOf r).toNat)
        case atStart => exact ⟨_, _, rfl, rfl, E.out, by omega, by omega, by omega, below_drewN hbw _⟩
        case round =>
          obtain ⟨q0, r0, rfl, rfl, hE0, hq, hr, hs, hbx⟩ := hrel
          have E0 := hide hE0
          clear hE0
          by_cases hin : c ≤ r0
          · have S := hide (show (q0 + 1) * c + (r0 - c) = x * b by rw [Int.add_mul, Int.one_mul]; have := E0.out; omega)
            go_wp2_with fail
            go_roundw
            case rel => exact ⟨_, _, rfl, rfl, S.out, by omega, by omega, by omega, hbx⟩
            case measure => simp [intOf]; omega
          · by_cases hfar : 2000000000000000 < q0
            · have F := hide (far_of c0 b0 hx1 E0.out hr hfar)
              go_wp2_with fail
              go_ret3
              exact ⟨ret_iib (by rw [F.out]), hbx⟩
            · go_wp2_with fail
              go_roundw
              case rel => exact ⟨m, q0, r0, by omega, by go_num, rfl, rfl, by rw [HX.out]; exact E0.out, ⟨by omega, by omega⟩, ⟨by omega, by omega⟩, hbx⟩
              case measure => simp [intOf]
      · have E := hide (step_even hE (by omega))
        rw [show x % 2 = 0 by omega] at hbit
        have hb2 : (bits BinOp.and IntKind.i64 (a / 2 ^ m) 1 == 1) = false := by rw [hx, hbit]; rfl
        clear hE hbit hb body hx
        go_wp2_with fail
        go_loopw [9, 10] (fun q r wx => ∃ q0 r0 : Int, q = .int .i64 q0 ∧ r = .int .i64 r0 ∧ q0 * c + r0 = x * b ∧ 0 ≤ q0 ∧ 0 ≤ r0 ∧ q0 + r0 ≤ 10000000000000000 ∧ Below w.heap.size w wx) (fun _ r _ => (intOf r).toNat)
        case atStart => exact ⟨_, _, rfl, rfl, E.out, by omega, by omega, by omega, hbw⟩
        case round =>
          obtain ⟨q0, r0, rfl, rfl, hE0, hq, hr, hs, hbx⟩ := hrel
          have E0 := hide hE0
          clear hE0
          by_cases hin : c ≤ r0
          · have S := hide (show (q0 + 1) * c + (r0 - c) = x * b by rw [Int.add_mul, Int.one_mul]; have := E0.out; omega)
            go_wp2_with fail
            go_roundw
            case rel => exact ⟨_, _, rfl, rfl, S.out, by omega, by omega, by omega, hbx⟩
            case measure => simp [intOf]; omega
          · by_cases hfar : 2000000000000000 < q0
            · have F := hide (far_of c0 b0 hx1 E0.out hr hfar)
              go_wp2_with fail
              go_ret3
              exact ⟨ret_iib (by rw [F.out]), hbx⟩
            · go_wp2_with fail
              go_roundw
              case rel => exact ⟨m, q0, r0, by omega, by go_num, rfl, rfl, by rw [HX.out]; exact E0.out, ⟨by omega, by omega⟩, ⟨by omega, by omega⟩, hbx⟩
              case measure => simp [intOf]
    · obtain rfl : j = 0 := by omega
      rw [Int.pow_zero, Int.ediv_one] at hE
      obtain ⟨e1, e2⟩ := quo_rest hE hR0 hR1
      have e3 : refQuo (a * b) c = (Q, R, true) := by unfold refQuo; rw [e1, e2, if_pos hQ1]
      have E := hide e3
      clear hE e1 e2 e3
      go_wp2
      go_ret3
      exact ⟨ret_iib (by rw [E.out]), hbw⟩
end Go.Proofs.YtlpdbjkpgfpjjaaGreat
