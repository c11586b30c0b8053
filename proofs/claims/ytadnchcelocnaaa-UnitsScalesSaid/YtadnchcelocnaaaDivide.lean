/-
  units.wide: floor at every wide number; divide.
-/
import Derived.Test.YtadnchcelocnaaaFloor
namespace Go.Proofs.Ytadnchcelocnaaa
set_option linter.unusedSimpArgs false
set_option linter.unusedVariables false
open Go.RowKit

theorem not_i64 (n : Int) (h0 : -9223372036854775808 ≤ n) (h1 : n < 9223372036854775808) : bits .xor .i64 (-1) n = -n - 1 := by
  show IntKind.i64.wrap ((BitVec.ofInt 64 (-1) ^^^ BitVec.ofInt 64 n).toNat : Int) = _
  have e1 : BitVec.ofInt 64 (-1) = BitVec.allOnes 64 := by decide
  rw [e1, BitVec.allOnes_xor, BitVec.toNat_not, BitVec.toNat_ofInt, IntKind.wrap_i64]
  omega
theorem not_u64 (n : Int) (h0 : 0 ≤ n) (h1 : n < 18446744073709551616) : bits .xor .u64 IntKind.u64.max n = 18446744073709551615 - n := by
  show IntKind.u64.wrap ((BitVec.ofInt 64 18446744073709551615 ^^^ BitVec.ofInt 64 n).toNat : Int) = _
  have e1 : BitVec.ofInt 64 18446744073709551615 = BitVec.allOnes 64 := by decide
  rw [e1, BitVec.allOnes_xor, BitVec.toNat_not, BitVec.toNat_ofInt, IntKind.wrap_u64]
  omega

theorem floor_turn (N c : Int) (h : N < 0) (hc : 1 ≤ c) :
    (-(floorQ (-N - 1) c).1 - 1, c - 1 - (floorQ (-N - 1) c).2.1, (floorQ (-N - 1) c).2.2) = floorQ N c := by
  have hM : 0 ≤ -N - 1 := by omega
  have e1 := Int.mul_ediv_add_emod (-N - 1) c
  have r0 := Int.emod_nonneg (-N - 1) (show c ≠ 0 by omega)
  have r1 := Int.emod_lt_of_pos (-N - 1) (show 0 < c by omega)
  have hN : N = (c - 1 - (-N - 1) % c) + c * (-((-N - 1) / c) - 1) := by
    rw [Int.mul_sub, Int.mul_neg, Int.mul_one]; omega
  have d1 : N / c = -((-N - 1) / c) - 1 := by
    have : (c - 1 - (-N - 1) % c + c * (-((-N - 1) / c) - 1)) / c = -((-N - 1) / c) - 1 := by
      rw [Int.add_mul_ediv_left _ _ (by omega), Int.ediv_eq_zero_of_lt (by omega) (by omega)]; omega
    rwa [← hN] at this
  have d2 : N % c = c - 1 - (-N - 1) % c := by
    have : (c - 1 - (-N - 1) % c + c * (-((-N - 1) / c) - 1)) % c = c - 1 - (-N - 1) % c := by
      rw [Int.add_mul_emod_self_left, Int.emod_eq_of_lt (by omega) (by omega)]
    rwa [← hN] at this
  unfold floorQ
  rw [if_pos hM, if_neg (show ¬ 0 ≤ N by omega)]
  by_cases hb : (-N - 1) / c ≤ 1000000000000000
  · rw [if_pos hb, if_pos hb, d1, d2]
  · rw [if_neg hb, if_neg hb]
    simp

theorem floorQ_bounds (N c : Int) (hc : 1 ≤ c) (hc' : c ≤ 1000000000000000) : -1000000000000001 ≤ (floorQ N c).1 ∧ (floorQ N c).1 ≤ 1000000000000000 ∧ 0 ≤ (floorQ N c).2.1 ∧ (floorQ N c).2.1 < 1000000000000000 := by
  have r0 := Int.emod_nonneg N (show c ≠ 0 by omega)
  have r1 := Int.emod_lt_of_pos N (show 0 < c by omega)
  by_cases hN : 0 ≤ N
  · have q0 := Int.ediv_nonneg hN (show 0 ≤ c by omega)
    unfold floorQ
    rw [if_pos hN]
    by_cases hb : N / c ≤ 1000000000000000
    · rw [if_pos hb]; simp only; omega
    · rw [if_neg hb]; simp
  · have q0 := Int.ediv_nonneg (show 0 ≤ -N - 1 by omega) (show 0 ≤ c by omega)
    have t := floor_turn N c (by omega) hc
    unfold floorQ at t ⊢
    rw [if_pos (show 0 ≤ -N - 1 by omega), if_neg hN] at t
    rw [if_neg hN]
    by_cases hb : (-N - 1) / c ≤ 1000000000000000
    · rw [if_pos hb] at *
      rw [if_pos hb] at t
      simp only [Prod.mk.injEq] at t
      simp only; omega
    · rw [if_neg hb]; simp only; omega

set_option maxHeartbeats 800000 in
theorem floor_neg (hh ll c : Int) (w : World) (h0 : hh < 0) (h1 : -4611686018427387904 ≤ hh) (l0 : 0 ≤ ll) (l1 : ll < 18446744073709551616) (c0 : 1 ≤ c) (c1 : c ≤ 1000000000000000) :
    Calls Try.prog 117 #[.agg #[.int .i64 hh, .int .u64 ll], .int .i64 c] w fun e w' => e = .returned (.tuple #[.int .i64 (floorQ (hh * 18446744073709551616 + ll) c).1, .int .i64 (floorQ (hh * 18446744073709551616 + ll) c).2.1, .bool (floorQ (hh * 18446744073709551616 + ll) c).2.2]) ∧ Below w.heap.size w w' := by
  have e1 := not_i64 hh (by omega) (by omega)
  have e2 := not_u64 ll l0 l1
  have C := fun w => floor_pos (-hh - 1) (18446744073709551615 - ll) c w (by omega) (by omega) (by omega) (by omega) c0 c1
  have et : (-hh - 1) * 18446744073709551616 + (18446744073709551615 - ll) = -(hh * 18446744073709551616 + ll) - 1 := by omega
  rw [et] at C
  have F := hide (floor_turn (hh * 18446744073709551616 + ll) c (by omega) c0)
  have B := floorQ_bounds (-(hh * 18446744073709551616 + ll) - 1) c c0 c1
  obtain ⟨Q, hQ⟩ : ∃ Q, floorQ (-(hh * 18446744073709551616 + ll) - 1) c = Q := ⟨_, rfl⟩
  rw [hQ] at C F B
  obtain ⟨q, r, k⟩ := Q
  obtain ⟨B1, B2, B3, B4⟩ := B
  simp only at B1 B2 B3 B4
  generalize -hh - 1 = A at *
  generalize 18446744073709551615 - ll = B at *
  have e3 := not_i64 q (by omega) (by omega)
  have C' := hide C
  clear C hQ et
  go_enter Try.func117, Try.ntmps117
  go_wp2_with fail
  refine (C'.out _).mono ?_
  rintro e w' ⟨rfl, hb⟩
  go_wp2_with fail
  go_ret3
  refine ⟨ret_iib ?_, (by repeat (first | exact Below.refl _ _ | assumption | apply balloc | apply bdrew | (refine bset ?_ (by first | (simp; done) | omega | (simp; omega)) _) | (refine bnext ?_ (by assumption))))⟩
  rw [← F.out]

theorem floor_any (N c : Int) (w : World) (h0 : -1000000000000000000000000000000 ≤ N) (h1 : N ≤ 1000000000000000000000000000000) (c0 : 1 ≤ c) (c1 : c ≤ 1000000000000000) :
    Calls Try.prog 117 #[.agg #[.int .i64 (N / 18446744073709551616), .int .u64 (N % 18446744073709551616)], .int .i64 c] w fun e w' => e = .returned (.tuple #[.int .i64 (floorQ N c).1, .int .i64 (floorQ N c).2.1, .bool (floorQ N c).2.2]) ∧ Below w.heap.size w w' := by
  have e : N / 18446744073709551616 * 18446744073709551616 + N % 18446744073709551616 = N := by omega
  by_cases hN : 0 ≤ N
  · have := floor_pos (N / 18446744073709551616) (N % 18446744073709551616) c w (by omega) (by omega) (by omega) (by omega) c0 c1
    rwa [e] at this
  · have := floor_neg (N / 18446744073709551616) (N % 18446744073709551616) c w (by omega) (by omega) (by omega) (by omega) c0 c1
    rwa [e] at this
end Go.Proofs.Ytadnchcelocnaaa
