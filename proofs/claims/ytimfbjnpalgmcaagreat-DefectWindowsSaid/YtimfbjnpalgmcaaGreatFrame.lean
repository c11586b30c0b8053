/-
  What each statement's frame uses: the arguments opened. What each statement's frame uses: further arguments opened. The reference: quotient, Floor, MulDiv. The reference: Floor, MulDiv. The reference: MulDiv returns what MulDiv returns. UnitsMulDivs: the walk.
-/
import Derived.Test.YtimfbjnpalgmcaaGreatWh
import Derived.WalkKit
import Derived.ProofKit
import Derived.OpenShut
import Derived.ShutString
import Derived.ChangeOld
import Derived.Below
import Derived.Lib.SmallJoins
import Derived.Test.YtimfbjnpalgmcaaGreatDivQ
import Derived.BigQuiet
namespace Go.Proofs.YtimfbjnpalgmcaaGreat
set_option linter.unusedSimpArgs false
set_option linter.unusedVariables false
open Go.ChangeShapes Go.WideShapes Go.ChangeAt Go.RowKit Go.Joins

theorem own : ownKnob Tryz.prog.godebug = none := by kernel_rfl
theorem laidOut : laidOutB Tryz.prog = true := by kernel_rfl
theorem fracCells : Tryz.prog.cellsOf 90 = 2 := by kernel_rfl

set_option maxRecDepth 100000 in
/-- A fraction that came in: two integers. -/
theorem open_frac {H : Type} {enc : TypeId × Value → H} {w : World} {base b0 : Nat} {spare : Nat → Bool} {held : Bool} {r : Reach} {v : Value} {d : DataW H} {p : List MemPlace}
    (hv : Value.okWide Tryz.prog w r b0 90 v) (h : DataW.Trod enc Tryz.prog w base spare held 90 v d p) : ∃ a b : Int, v = .agg #[.int .i64 a, .int .i64 b] ∧ (Lit.int .i64 a).wf = true ∧ (Lit.int .i64 b).wf = true := by
  obtain ⟨c0, c1, y0, y1, m, rfl, _, _, hy0, hy1⟩ := open_agg2 Tryz.underlying90 (by kernel_rfl) fracCells hv h
  obtain ⟨a, e0, _, wa⟩ := DataW.trod_int Tryz.underlying3 hy0
  obtain ⟨b, e1, _, wb⟩ := DataW.trod_int Tryz.underlying3 hy1
  simp at e0 e1
  subst e0 e1
  exact ⟨a, b, rfl, wa, wb⟩
end Go.Proofs.YtimfbjnpalgmcaaGreat

namespace Go.Proofs.YtimfbjnpalgmcaaGreat
set_option linter.unusedSimpArgs false
set_option linter.unusedVariables false
open Go.ChangeShapes Go.WideShapes Go.ChangeAt Go.RowKit Go.Joins

theorem rangeCells : Tryz.prog.cellsOf 23 = 2 := by kernel_rfl
set_option maxRecDepth 100000 in
/-- A range that came in: two integers. -/
theorem open_range {H : Type} {enc : TypeId × Value → H} {w : World} {base b0 : Nat} {spare : Nat → Bool} {held : Bool} {r : Reach} {v : Value} {d : DataW H} {p : List MemPlace}
    (hv : Value.okWide Tryz.prog w r b0 23 v) (h : DataW.Trod enc Tryz.prog w base spare held 23 v d p) : ∃ a b : Int, v = .agg #[.int .i64 a, .int .i64 b] ∧ (Lit.int .i64 a).wf = true ∧ (Lit.int .i64 b).wf = true := by
  obtain ⟨c0, c1, y0, y1, m, rfl, _, _, hy0, hy1⟩ := open_agg2 Tryz.underlying23 (by kernel_rfl) rangeCells hv h
  obtain ⟨a, e0, _, wa⟩ := DataW.trod_int Tryz.underlying3 hy0
  obtain ⟨b, e1, _, wb⟩ := DataW.trod_int Tryz.underlying3 hy1
  simp at e0 e1
  subst e0 e1
  exact ⟨a, b, rfl, wa, wb⟩
end Go.Proofs.YtimfbjnpalgmcaaGreat

namespace Go.Proofs.YtimfbjnpalgmcaaGreat
set_option linter.unusedSimpArgs false
set_option linter.unusedVariables false
open Go.RowKit

theorem and_bit (x : Int) (h0 : 0 ≤ x) (h1 : x < 9223372036854775808) : bits BinOp.and IntKind.i64 x 1 = x % 2 := by
  have two63 : (2 : Int) ^ 63 = 9223372036854775808 := by decide
  have h := bits_mask .i64 63 (by decide) (fun n h0 h1 => by rw [two63] at h1; rw [IntKind.wrap_i64]; omega) 1 (by decide) x h0 (by rw [two63]; omega)
  have e : ((2 : Int) ^ 1 - 1) = 1 := by decide
  rw [e] at h
  rw [h]
  omega
theorem pow_pos' (m : Nat) : (0 : Int) < 2 ^ m := Int.pow_pos (by omega)
theorem high_step (a : Int) (m : Nat) : a / 2 ^ (m + 1) = a / 2 ^ m / 2 := by
  rw [Int.pow_succ, Int.ediv_ediv_of_nonneg (Int.le_of_lt (pow_pos' m))]
theorem high_bounds {a : Int} (m : Nat) (a0 : 0 ≤ a) (a1 : a ≤ 1000000000000000) : 0 ≤ a / 2 ^ m ∧ a / 2 ^ m ≤ a :=
  ⟨Int.ediv_nonneg a0 (Int.le_of_lt (pow_pos' m)), Int.ediv_le_self _ a0⟩
theorem high_top {a : Int} (a0 : 0 ≤ a) (a1 : a ≤ 1000000000000000) : a / 2 ^ 50 = 0 := by
  rw [show (2 : Int) ^ 50 = 1125899906842624 by decide]; omega

/-- What the reference's quotient of numbers that are not negative is. -/
def refQuo (N c : Int) : Int × Int × Bool := if N / c ≤ 2000000000000000 then (N / c, N % c, true) else (0, 0, false)
theorem quo_rest {N q r c : Int} (h : q * c + r = N) (h0 : 0 ≤ r) (h1 : r < c) : N / c = q ∧ N % c = r :=
  (Int.ediv_emod_unique (by omega)).2 ⟨by rw [Int.mul_comm] at h; omega, h0, h1⟩
theorem far_of {a b c x q r : Int} (c0 : 1 ≤ c) (b0 : 0 ≤ b) (hx : x ≤ a) (h : q * c + r = x * b) (r0 : 0 ≤ r) (hq : 2000000000000000 < q) : refQuo (a * b) c = (0, 0, false) := by
  unfold refQuo
  rw [if_neg]
  have h1 : x * b ≤ a * b := Int.mul_le_mul_of_nonneg_right hx b0
  have h2 : q ≤ a * b / c := (Int.le_ediv_iff_mul_le (by omega)).2 (by omega)
  omega
/-- A step: the number so far is doubled, and a bit comes to it. -/
theorem step_even {Q R c x b : Int} (h : Q * c + R = x / 2 * b) (hb : x % 2 = 0) : 2 * Q * c + 2 * R = x * b := by
  have e : x = 2 * (x / 2) := by omega
  have e1 : x * b = 2 * (x / 2 * b) := by rw [← Int.mul_assoc, ← e]
  rw [e1, ← h, Int.mul_add, Int.mul_assoc]
theorem step_odd {Q R c x b : Int} (h : Q * c + R = x / 2 * b) (hb : x % 2 = 1) : (2 * Q + b / c) * c + (2 * R + b % c) = x * b := by
  have e : x = 2 * (x / 2) + 1 := by omega
  have e1 : x * b = 2 * (x / 2 * b) + b := by
    have : x * b = (2 * (x / 2) + 1) * b := by rw [← e]
    rw [this, Int.add_mul, Int.one_mul, Int.mul_assoc]
  have e2 := Int.mul_ediv_add_emod b c
  rw [e1, ← h, Int.mul_add, Int.add_mul, Int.mul_assoc, Int.mul_comm (b / c) c]
  omega

set_option maxHeartbeats 6400000 in
theorem quotient_any (a b c : Int) (w : World) (a0 : 0 ≤ a) (a1 : a ≤ 1000000000000000) (b0 : 0 ≤ b) (b1 : b ≤ 1000000000000000) (c0 : 1 ≤ c) (c1 : c ≤ 1000000000000000) :
    Calls Tryz.prog 173 #[.int .i64 a, .int .i64 b, .int .i64 c] w fun e w' => e = .returned (.tuple #[.int .i64 (refQuo (a * b) c).1, .int .i64 (refQuo (a * b) c).2.1, .bool (refQuo (a * b) c).2.2]) ∧ Below w.heap.size w w' := by
  have hz : (c == 0) = false := by simp; omega
  have hq0 := Int.ediv_nonneg b0 (show 0 ≤ c by omega)
  have hq1 := Int.ediv_le_self c b0
  have hr0 := Int.emod_nonneg b (show c ≠ 0 by omega)
  have hr1 := Int.emod_lt_of_pos b (show 0 < c by omega)
  go_enter Tryz.func173, Tryz.ntmps173
  go_wp2_with fail
  go_loopw [9, 10, 11] (fun q r i wr => ∃ j : Nat, ∃ Q R : Int, j ≤ 50 ∧ i = .int .i64 ((j : Int) - 1) ∧ q = .int .i64 Q ∧ r = .int .i64 R ∧ Q * c + R = a / 2 ^ j * b ∧ (0 ≤ R ∧ R < c) ∧ (0 ≤ Q ∧ Q ≤ 2000000000000000) ∧ Below w.heap.size w wr) (fun _ _ i _ => (intOf i + 1).toNat)
  case atStart => exact ⟨50, 0, 0, by omega, rfl, rfl, rfl, by rw [high_top a0 a1]; simp, ⟨by omega, by omega⟩, ⟨by omega, by omega⟩, Below.refl _ _⟩
  case round =>
    obtain ⟨j, Q, R, hj, rfl, rfl, rfl, hE, ⟨hR0, hR1⟩, ⟨hQ0, hQ1⟩, hbw⟩ := hrel
    by_cases hlt : 1 ≤ j
    · obtain ⟨m, rfl⟩ : ∃ m, j = m + 1 := ⟨j - 1, by omega⟩
      have e1 : ((m + 1 : Nat) : Int) - 1 = (m : Int) := by omega
      rw [e1]
      have hm : m < 50 := by omega
      obtain ⟨hx0, hx1⟩ := high_bounds m a0 a1
      rw [high_step] at hE
      have hbit := and_bit (a / 2 ^ m) hx0 (by omega)
      obtain ⟨x, hx⟩ : ∃ x, a / 2 ^ m = x := ⟨_, rfl⟩
      rw [hx] at hE hbit hx0 hx1
      have HX := hide hx
      have body : ∀ q0 r0 : Int, q0 * c + r0 = x * b → 0 ≤ q0 → 0 ≤ r0 → q0 + r0 ≤ 10000000000000000 → True := fun _ _ _ _ _ _ => trivial
      by_cases hb : x % 2 = 1
      · have E := hide (step_odd hE hb)
        rw [hb] at hbit
        have hb2 : (bits BinOp.and IntKind.i64 (a / 2 ^ m) 1 == 1) = true := by rw [hx, hbit]; rfl
        clear hE hbit hb body hx
        go_wp2_with fail
        go_quiet (fail)
        go_wp2_with fail
        go_loopw [9, 10] (fun q r wx => ∃ q0 r0 : Int, q = .int .i64 q0 ∧ r = .int .i64 r0 ∧ q0 * c + r0 = x * b ∧ 0 ≤ q0 ∧ 0 ≤ r0 ∧ q0 + r0 ≤ 10000000000000000 ∧ Below w.heap.size w wx) (fun _ r _ => (intOf r).toNat)
        case atStart => exact ⟨_, _, rfl, rfl, E.out, by omega, by omega, by omega, below_drewN hbw _⟩
        case round =>
          obtain ⟨q0, r0, rfl, rfl, hE0, hq, hr, hs, hbx⟩ := hrel
          have E0 := hide hE0
          clear hE0
          by_cases hin : c ≤ r0
          · have S := hide (show (q0 + 1) * c + (r0 - c) = x * b by rw [Int.add_mul, Int.one_mul]; have := E0.out; omega)
            go_wp2_with fail
            go_roundw
            case rel => exact ⟨_, _, rfl, rfl, S.out, by omega, by omega, by omega, hbx⟩
            case measure => simp [intOf]; omega
          · by_cases hfar : 2000000000000000 < q0
            · have F := hide (far_of c0 b0 hx1 E0.out hr hfar)
              go_wp2_with fail
              go_ret3
              exact ⟨ret_iib (by rw [F.out]), hbx⟩
            · go_wp2_with fail
              go_roundw
              case rel => exact ⟨m, q0, r0, by omega, by go_num, rfl, rfl, by rw [HX.out]; exact E0.out, ⟨by omega, by omega⟩, ⟨by omega, by omega⟩, hbx⟩
              case measure => simp [intOf]
      · have E := hide (step_even hE (by omega))
        rw [show x % 2 = 0 by omega] at hbit
        have hb2 : (bits BinOp.and IntKind.i64 (a / 2 ^ m) 1 == 1) = false := by rw [hx, hbit]; rfl
        clear hE hbit hb body hx
        go_wp2_with fail
        go_loopw [9, 10] (fun q r wx => ∃ q0 r0 : Int, q = .int .i64 q0 ∧ r = .int .i64 r0 ∧ q0 * c + r0 = x * b ∧ 0 ≤ q0 ∧ 0 ≤ r0 ∧ q0 + r0 ≤ 10000000000000000 ∧ Below w.heap.size w wx) (fun _ r _ => (intOf r).toNat)
        case atStart => exact ⟨_, _, rfl, rfl, E.out, by omega, by omega, by omega, hbw⟩
        case round =>
          obtain ⟨q0, r0, rfl, rfl, hE0, hq, hr, hs, hbx⟩ := hrel
          have E0 := hide hE0
          clear hE0
          by_cases hin : c ≤ r0
          · have S := hide (show (q0 + 1) * c + (r0 - c) = x * b by rw [Int.add_mul, Int.one_mul]; have := E0.out; omega)
            go_wp2_with fail
            go_roundw
            case rel => exact ⟨_, _, rfl, rfl, S.out, by omega, by omega, by omega, hbx⟩
            case measure => simp [intOf]; omega
          · by_cases hfar : 2000000000000000 < q0
            · have F := hide (far_of c0 b0 hx1 E0.out hr hfar)
              go_wp2_with fail
              go_ret3
              exact ⟨ret_iib (by rw [F.out]), hbx⟩
            · go_wp2_with fail
              go_roundw
              case rel => exact ⟨m, q0, r0, by omega, by go_num, rfl, rfl, by rw [HX.out]; exact E0.out, ⟨by omega, by omega⟩, ⟨by omega, by omega⟩, hbx⟩
              case measure => simp [intOf]
    · obtain rfl : j = 0 := by omega
      rw [Int.pow_zero, Int.ediv_one] at hE
      obtain ⟨e1, e2⟩ := quo_rest hE hR0 hR1
      have e3 : refQuo (a * b) c = (Q, R, true) := by unfold refQuo; rw [e1, e2, if_pos hQ1]
      have E := hide e3
      clear hE e1 e2 e3
      go_wp2
      go_ret3
      exact ⟨ret_iib (by rw [E.out]), hbw⟩
end Go.Proofs.YtimfbjnpalgmcaaGreat

namespace Go.Proofs.YtimfbjnpalgmcaaGreat
set_option linter.unusedSimpArgs false
set_option linter.unusedVariables false
open Go.RowKit

/-- What the reference's Floor returns. -/
def refFlo (N c : Int) : Int × Int × Bool := if max N (-N) / c ≤ 2000000000000000 then (N / c, N % c, true) else (0, 0, false)
/-- It, out of the quotient of the numbers without their signs. -/
def signed (minus : Bool) (c : Int) (x : Int × Int × Bool) : Int × Int × Bool :=
  if x.2.2 = false then (0, 0, false) else if minus = true then (if 0 < x.2.1 then (-x.1 - 1, c - x.2.1, true) else (-x.1, 0, true)) else x
theorem signed_is {N M c : Int} {minus : Bool} (c0 : 1 ≤ c) (hM : 0 ≤ M) (h : (minus = true ∧ N = -M) ∨ (minus = false ∧ N = M)) : signed minus c (refQuo M c) = refFlo N c := by
  have hm : max N (-N) = M := by omega
  unfold refFlo refQuo signed
  rw [hm]
  by_cases hq : M / c ≤ 2000000000000000
  · rw [if_pos hq, if_pos hq]
    have r0 := Int.emod_nonneg M (show c ≠ 0 by omega)
    obtain ⟨d0, d1⟩ := neg_div (N := M) c0
    rcases h with ⟨rfl, rfl⟩ | ⟨rfl, rfl⟩
    · by_cases hr : 0 < M % c
      · obtain ⟨e1, e2⟩ := d1 hr
        simp [hr, e1, e2]
      · obtain ⟨e1, e2⟩ := d0 (by omega)
        simp [hr, e1, e2]
    · simp
  · rw [if_neg hq, if_neg hq]; simp

set_option maxHeartbeats 6400000 in
theorem refFloor_go (a b c A B Q R : Int) (ok minus : Bool) (w : World) (C : Hid (∀ w, Calls Tryz.prog 173 #[.int .i64 A, .int .i64 B, .int .i64 c] w fun e w' => e = .returned (.tuple #[.int .i64 Q, .int .i64 R, .bool ok]) ∧ Below w.heap.size w w'))
    (s : (a < 0 ∧ b < 0 ∧ A = -a ∧ B = -b ∧ minus = false) ∨ (a < 0 ∧ 0 ≤ b ∧ A = -a ∧ B = b ∧ minus = true) ∨ (0 ≤ a ∧ b < 0 ∧ A = a ∧ B = -b ∧ minus = true) ∨ (0 ≤ a ∧ 0 ≤ b ∧ A = a ∧ B = b ∧ minus = false))
    (a0 : -1000000000000000 ≤ a) (a1 : a ≤ 1000000000000000) (b0 : -1000000000000000 ≤ b) (b1 : b ≤ 1000000000000000) (c0 : 1 ≤ c) (c1 : c ≤ 1000000000000000) (q0 : 0 ≤ Q) (q1 : Q ≤ 2000000000000000) (r0 : 0 ≤ R) (r1 : R < c ∨ ok = false) (r2 : R ≤ 1000000000000000) :
    Calls Tryz.prog 165 #[.int .i64 a, .int .i64 b, .int .i64 c] w fun e w' => e = .returned (.tuple #[.int .i64 (signed minus c (Q, R, ok)).1, .int .i64 (signed minus c (Q, R, ok)).2.1, .bool (signed minus c (Q, R, ok)).2.2]) ∧ Below w.heap.size w w' := by
  rcases s with ⟨ha, hb, hA, hB, rfl⟩ | ⟨ha, hb, hA, hB, rfl⟩ | ⟨ha, hb, hA, hB, rfl⟩ | ⟨ha, hb, hA, hB, rfl⟩
  all_goals rw [hA, hB] at C
  all_goals clear hA hB A B
  · have d1 : decide (a < 0) = true := decide_eq_true (by omega)
    have d2 : decide (b < 0) = true := decide_eq_true (by omega)
    cases ok with
    | false =>
      go_enter Tryz.func165, Tryz.ntmps165
      go_wp2_with (go_at_call 173; refine (C.out _).mono ?_; rintro e w' ⟨rfl, hb⟩)
      go_ret3
      exact ⟨rfl, (by repeat (first | exact Below.refl _ _ | assumption | apply balloc | apply bdrew | (refine below_drewN ?_ _) | (refine bset ?_ (by first | (simp; done) | omega | (simp; omega)) _) | (refine bnext ?_ (by assumption))))⟩
    | true =>
      go_enter Tryz.func165, Tryz.ntmps165
      go_wp2_with (go_at_call 173; refine (C.out _).mono ?_; rintro e w' ⟨rfl, hb⟩)
      go_ret3
      exact ⟨rfl, (by repeat (first | exact Below.refl _ _ | assumption | apply balloc | apply bdrew | (refine below_drewN ?_ _) | (refine bset ?_ (by first | (simp; done) | omega | (simp; omega)) _) | (refine bnext ?_ (by assumption))))⟩
  · have d1 : decide (a < 0) = true := decide_eq_true (by omega)
    have d2 : decide (b < 0) = false := decide_eq_false (by omega)
    cases ok with
    | false =>
      go_enter Tryz.func165, Tryz.ntmps165
      go_wp2_with (go_at_call 173; refine (C.out _).mono ?_; rintro e w' ⟨rfl, hb⟩)
      go_ret3
      exact ⟨rfl, (by repeat (first | exact Below.refl _ _ | assumption | apply balloc | apply bdrew | (refine below_drewN ?_ _) | (refine bset ?_ (by first | (simp; done) | omega | (simp; omega)) _) | (refine bnext ?_ (by assumption))))⟩
    | true =>
      have r3 : R < c := by simpa using r1
      clear r1
      by_cases hR : 0 < R
      · have d3 : decide (0 < R) = true := decide_eq_true hR
        have E : signed true c (Q, R, true) = (-Q - 1, c - R, true) := by simp [signed, hR]
        rw [E]
        go_enter Tryz.func165, Tryz.ntmps165
        go_wp2_with (go_at_call 173; refine (C.out _).mono ?_; rintro e w' ⟨rfl, hb⟩)
        go_ret3
        exact ⟨rfl, (by repeat (first | exact Below.refl _ _ | assumption | apply balloc | apply bdrew | (refine below_drewN ?_ _) | (refine bset ?_ (by first | (simp; done) | omega | (simp; omega)) _) | (refine bnext ?_ (by assumption))))⟩
      · have d3 : decide (0 < R) = false := decide_eq_false hR
        have E : signed true c (Q, R, true) = (-Q, 0, true) := by simp [signed, hR]
        rw [E]
        go_enter Tryz.func165, Tryz.ntmps165
        go_wp2_with (go_at_call 173; refine (C.out _).mono ?_; rintro e w' ⟨rfl, hb⟩)
        go_ret3
        exact ⟨rfl, (by repeat (first | exact Below.refl _ _ | assumption | apply balloc | apply bdrew | (refine below_drewN ?_ _) | (refine bset ?_ (by first | (simp; done) | omega | (simp; omega)) _) | (refine bnext ?_ (by assumption))))⟩
  · have d1 : decide (a < 0) = false := decide_eq_false (by omega)
    have d2 : decide (b < 0) = true := decide_eq_true (by omega)
    cases ok with
    | false =>
      go_enter Tryz.func165, Tryz.ntmps165
      go_wp2_with (go_at_call 173; refine (C.out _).mono ?_; rintro e w' ⟨rfl, hb⟩)
      go_ret3
      exact ⟨rfl, (by repeat (first | exact Below.refl _ _ | assumption | apply balloc | apply bdrew | (refine below_drewN ?_ _) | (refine bset ?_ (by first | (simp; done) | omega | (simp; omega)) _) | (refine bnext ?_ (by assumption))))⟩
    | true =>
      have r3 : R < c := by simpa using r1
      clear r1
      by_cases hR : 0 < R
      · have d3 : decide (0 < R) = true := decide_eq_true hR
        have E : signed true c (Q, R, true) = (-Q - 1, c - R, true) := by simp [signed, hR]
        rw [E]
        go_enter Tryz.func165, Tryz.ntmps165
        go_wp2_with (go_at_call 173; refine (C.out _).mono ?_; rintro e w' ⟨rfl, hb⟩)
        go_ret3
        exact ⟨rfl, (by repeat (first | exact Below.refl _ _ | assumption | apply balloc | apply bdrew | (refine below_drewN ?_ _) | (refine bset ?_ (by first | (simp; done) | omega | (simp; omega)) _) | (refine bnext ?_ (by assumption))))⟩
      · have d3 : decide (0 < R) = false := decide_eq_false hR
        have E : signed true c (Q, R, true) = (-Q, 0, true) := by simp [signed, hR]
        rw [E]
        go_enter Tryz.func165, Tryz.ntmps165
        go_wp2_with (go_at_call 173; refine (C.out _).mono ?_; rintro e w' ⟨rfl, hb⟩)
        go_ret3
        exact ⟨rfl, (by repeat (first | exact Below.refl _ _ | assumption | apply balloc | apply bdrew | (refine below_drewN ?_ _) | (refine bset ?_ (by first | (simp; done) | omega | (simp; omega)) _) | (refine bnext ?_ (by assumption))))⟩
  · have d1 : decide (a < 0) = false := decide_eq_false (by omega)
    have d2 : decide (b < 0) = false := decide_eq_false (by omega)
    cases ok with
    | false =>
      go_enter Tryz.func165, Tryz.ntmps165
      go_wp2_with (go_at_call 173; refine (C.out _).mono ?_; rintro e w' ⟨rfl, hb⟩)
      go_ret3
      exact ⟨rfl, (by repeat (first | exact Below.refl _ _ | assumption | apply balloc | apply bdrew | (refine below_drewN ?_ _) | (refine bset ?_ (by first | (simp; done) | omega | (simp; omega)) _) | (refine bnext ?_ (by assumption))))⟩
    | true =>
      go_enter Tryz.func165, Tryz.ntmps165
      go_wp2_with (go_at_call 173; refine (C.out _).mono ?_; rintro e w' ⟨rfl, hb⟩)
      go_ret3
      exact ⟨rfl, (by repeat (first | exact Below.refl _ _ | assumption | apply balloc | apply bdrew | (refine below_drewN ?_ _) | (refine bset ?_ (by first | (simp; done) | omega | (simp; omega)) _) | (refine bnext ?_ (by assumption))))⟩

theorem refQuo_bounds {M c : Int} (hM : 0 ≤ M) (c0 : 1 ≤ c) (c1 : c ≤ 1000000000000000) : (0 ≤ (refQuo M c).1 ∧ (refQuo M c).1 ≤ 2000000000000000) ∧ 0 ≤ (refQuo M c).2.1 ∧ ((refQuo M c).2.1 < c ∨ (refQuo M c).2.2 = false) ∧ (refQuo M c).2.1 ≤ 1000000000000000 := by
  have r0 := Int.emod_nonneg M (show c ≠ 0 by omega)
  have r1 := Int.emod_lt_of_pos M (show 0 < c by omega)
  have q0 := Int.ediv_nonneg hM (show 0 ≤ c by omega)
  unfold refQuo
  by_cases hq : M / c ≤ 2000000000000000
  · rw [if_pos hq]; simp only; omega
  · rw [if_neg hq]; simp only; omega

theorem refFloor_any (a b c : Int) (w : World) (a0 : -1000000000000000 ≤ a) (a1 : a ≤ 1000000000000000) (b0 : -1000000000000000 ≤ b) (b1 : b ≤ 1000000000000000) (c0 : 1 ≤ c) (c1 : c ≤ 1000000000000000) :
    Calls Tryz.prog 165 #[.int .i64 a, .int .i64 b, .int .i64 c] w fun e w' => e = .returned (.tuple #[.int .i64 (refFlo (a * b) c).1, .int .i64 (refFlo (a * b) c).2.1, .bool (refFlo (a * b) c).2.2]) ∧ Below w.heap.size w w' := by
  have go : ∀ (A B : Int) (minus : Bool), 0 ≤ A → 0 ≤ B → A ≤ 1000000000000000 → B ≤ 1000000000000000 → ((a < 0 ∧ b < 0 ∧ A = -a ∧ B = -b ∧ minus = false) ∨ (a < 0 ∧ 0 ≤ b ∧ A = -a ∧ B = b ∧ minus = true) ∨ (0 ≤ a ∧ b < 0 ∧ A = a ∧ B = -b ∧ minus = true) ∨ (0 ≤ a ∧ 0 ≤ b ∧ A = a ∧ B = b ∧ minus = false)) →
      ((minus = true ∧ a * b = -(A * B)) ∨ (minus = false ∧ a * b = A * B)) → Calls Tryz.prog 165 #[.int .i64 a, .int .i64 b, .int .i64 c] w fun e w' => e = .returned (.tuple #[.int .i64 (refFlo (a * b) c).1, .int .i64 (refFlo (a * b) c).2.1, .bool (refFlo (a * b) c).2.2]) ∧ Below w.heap.size w w' := by
    intro A B minus hA hB hA1 hB1 hs hN
    have hM : 0 ≤ A * B := Int.mul_nonneg hA hB
    obtain ⟨⟨b1', b2'⟩, b3', b4', b5'⟩ := refQuo_bounds hM c0 c1
    have := refFloor_go a b c A B _ _ _ minus w (fun w => quotient_any A B c w hA hA1 hB hB1 c0 c1) hs a0 a1 b0 b1 c0 c1 b1' b2' b3' b4' b5'
    rwa [show ((refQuo (A * B) c).1, (refQuo (A * B) c).2.1, (refQuo (A * B) c).2.2) = refQuo (A * B) c from rfl, signed_is c0 hM hN] at this
  by_cases ha : a < 0
  · by_cases hb : b < 0
    · exact go (-a) (-b) false (by omega) (by omega) (by omega) (by omega) (.inl ⟨ha, hb, rfl, rfl, rfl⟩) (.inr ⟨rfl, by rw [Int.neg_mul_neg]⟩)
    · exact go (-a) b true (by omega) (by omega) (by omega) (by omega) (.inr (.inl ⟨ha, by omega, rfl, rfl, rfl⟩)) (.inl ⟨rfl, by rw [Int.neg_mul, Int.neg_neg]⟩)
  · by_cases hb : b < 0
    · exact go a (-b) true (by omega) (by omega) (by omega) (by omega) (.inr (.inr (.inl ⟨by omega, hb, rfl, rfl, rfl⟩))) (.inl ⟨rfl, by rw [Int.mul_neg, Int.neg_neg]⟩)
    · exact go a b false (by omega) (by omega) (by omega) (by omega) (.inr (.inr (.inr ⟨by omega, by omega, rfl, rfl, rfl⟩))) (.inr ⟨rfl, rfl⟩)
end Go.Proofs.YtimfbjnpalgmcaaGreat

namespace Go.Proofs.YtimfbjnpalgmcaaGreat
set_option linter.unusedSimpArgs false
set_option linter.unusedVariables false
open Go.RowKit

theorem number_any (n : Int) (w : World) : Calls Tryz.prog 164 #[.int .i64 n] w fun e w' => e = .returned (.bool (allIn 1000000000000000 [n])) ∧ w = w' := by
  by_cases h : -1000000000000000 ≤ n
  · have d1 : decide (-1000000000000000 ≤ n) = true := decide_eq_true h
    by_cases h2 : n ≤ 1000000000000000
    · have E : allIn 1000000000000000 [n] = true := allIn_one.2 ⟨h, h2⟩
      have d2 : decide (n ≤ 1000000000000000) = true := decide_eq_true h2
      rw [E]
      clear E
      go_enter Tryz.func164, Tryz.ntmps164
      go_wp2
      go_ret
      exact ⟨rfl, rfl⟩
    · have E : allIn 1000000000000000 [n] = false := by
        cases hh : allIn 1000000000000000 [n] with
        | false => rfl
        | true => exact absurd (allIn_one.1 hh).2 h2
      have d2 : decide (n ≤ 1000000000000000) = false := decide_eq_false h2
      rw [E]
      clear E
      go_enter Tryz.func164, Tryz.ntmps164
      go_wp2
      go_ret
      exact ⟨rfl, rfl⟩
  · have E : allIn 1000000000000000 [n] = false := by
      cases hh : allIn 1000000000000000 [n] with
      | false => rfl
      | true => exact absurd (allIn_one.1 hh).1 h
    have d1 : decide (-1000000000000000 ≤ n) = false := decide_eq_false h
    rw [E]
    clear E
    go_enter Tryz.func164, Tryz.ntmps164
    go_wp2
    go_ret
    exact ⟨rfl, rfl⟩
/-- Number, told. -/
def Num (n : Int) (k : Bool) : Prop := ∀ w, Calls Tryz.prog 164 #[.int .i64 n] w fun e w' => e = .returned (.bool k) ∧ w = w'
theorem num_of {n : Int} {k : Bool} (h : allIn 1000000000000000 [n] = k) : Hid (Num n k) := fun w => by have := number_any n w; rwa [h] at this

end Go.Proofs.YtimfbjnpalgmcaaGreat

namespace Go.Proofs.YtimfbjnpalgmcaaGreat
set_option linter.unusedSimpArgs false
set_option linter.unusedVariables false
open Go.RowKit

theorem refFlo_true {N c : Int} (c0 : 1 ≤ c) (h : (refFlo N c).2.2 = true) : refFlo N c = (N / c, N % c, true) ∧ -3000000000000000 ≤ N / c ∧ N / c ≤ 3000000000000000 := by
  unfold refFlo at h ⊢
  by_cases hq : max N (-N) / c ≤ 2000000000000000
  · rw [if_pos hq]
    refine ⟨rfl, ?_⟩
    have r0 := Int.emod_nonneg N (show c ≠ 0 by omega)
    obtain ⟨d0, d1⟩ := neg_div (N := N) c0
    by_cases hN : 0 ≤ N
    · rw [show max N (-N) = N by omega] at hq
      have := Int.ediv_nonneg hN (show 0 ≤ c by omega)
      omega
    · rw [show max N (-N) = -N by omega] at hq
      have := Int.ediv_nonneg (show 0 ≤ -N by omega) (show 0 ≤ c by omega)
      by_cases hr : N % c = 0
      · have := (d0 hr).1; omega
      · have := (d1 (by omega)).1; omega
  · rw [if_neg hq] at h; simp at h
theorem refFlo_false {N c : Int} (c0 : 1 ≤ c) (h : (refFlo N c).2.2 = false) : (floorQ N c).2.2 = false := by
  cases hf : (floorQ N c).2.2 with
  | false => rfl
  | true =>
    obtain ⟨_, h0, h1⟩ := floorQ_true c0 hf
    unfold refFlo at h
    have r0 := Int.emod_nonneg N (show c ≠ 0 by omega)
    obtain ⟨d0, d1⟩ := neg_div (N := N) c0
    have hq : max N (-N) / c ≤ 2000000000000000 := by
      by_cases hN : 0 ≤ N
      · rw [show max N (-N) = N by omega]; omega
      · rw [show max N (-N) = -N by omega]
        by_cases hr : N % c = 0
        · have := (d0 hr).1; omega
        · have := (d1 (by omega)).1; omega
    rw [if_pos hq] at h; simp at h
theorem floorQ_out {N c : Int} (c0 : 1 ≤ c) (h : (floorQ N c).2.2 = false) : N / c < -1000000000000001 ∨ 1000000000000000 < N / c := by
  by_cases h0 : -1000000000000001 ≤ N / c
  · by_cases h1 : N / c ≤ 1000000000000000
    · rw [floorQ_of c0 h0 h1] at h; simp at h
    · omega
  · omega
theorem allIn_false {x : Int} (h : ¬ (-1000000000000000 ≤ x ∧ x ≤ 1000000000000000)) : allIn 1000000000000000 [x] = false := by
  cases hh : allIn 1000000000000000 [x] with
  | false => rfl
  | true => exact absurd (allIn_one.1 hh) h

/-- MulDiv, where the numbers are valid: by what is rounded down. -/
theorem mulDivQ_valid {a b c how : Int} (h1 : howOk how = true) (h2 : (allIn 1000000000000000 [a, b] && isDiv c) = true) (c0 : 1 ≤ c) :
    mulDivQ a b c how = (if allIn 1000000000000000 [a * b / c + (if upQ how (a * b / c) (a * b % c) c = true then 1 else 0)] = true then (a * b / c + (if upQ how (a * b / c) (a * b % c) c = true then 1 else 0), (if upQ how (a * b / c) (a * b % c) c = true then a * b % c - c else a * b % c), 0) else (0, 0, 10)) := by
  unfold mulDivQ
  rw [h1, if_neg (by simp), h2, if_neg (by simp)]
  cases hf : (floorQ (a * b) c).2.2 with
  | true =>
    obtain ⟨f, _, _⟩ := floorQ_true c0 hf
    rw [divQ_eq f]
    cases hu : upQ how (a * b / c) (a * b % c) c with
    | true =>
      simp only [if_true]
      cases hk : allIn 1000000000000000 [a * b / c + 1] with
      | true => simp; omega
      | false => simp
    | false =>
      simp only [Bool.false_eq_true, if_false, Int.add_zero]
      cases hk : allIn 1000000000000000 [a * b / c] with
      | true => simp
      | false => simp
  | false =>
    have o := floorQ_out c0 hf
    have hd : (divQ (a * b) c how).2.2 = false := by unfold divQ; rw [hf]; simp
    rw [hd, if_pos rfl]
    have : allIn 1000000000000000 [a * b / c + (if upQ how (a * b / c) (a * b % c) c = true then 1 else 0)] = false := by
      apply allIn_false
      split <;> omega
    rw [this, if_neg (by simp)]

end Go.Proofs.YtimfbjnpalgmcaaGreat
