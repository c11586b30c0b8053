/-
  units.wide: product, compare, floor, divide.
-/
import Derived.Test.YtadnchcelocnaaaDivb
import Derived.Test.YtadnchcelocnaaaNums
import Derived.StillTactics
import Derived.Laws.Pointers
import Derived.Deep.RegionHeld3
namespace Go.Proofs.Ytadnchcelocnaaa
set_option linter.unusedSimpArgs false
set_option linter.unusedVariables false
open Go.RowKit

theorem prod_abs {a b : Int} (ha : -1000000000000000 ≤ a) (ha' : a ≤ 1000000000000000) (hb : -1000000000000000 ≤ b) (hb' : b ≤ 1000000000000000) :
    -1000000000000000000000000000000 ≤ a * b ∧ a * b ≤ 1000000000000000000000000000000 := by
  have h : a.natAbs * b.natAbs ≤ 1000000000000000 * 1000000000000000 := Nat.mul_le_mul (by omega) (by omega)
  rw [← Int.natAbs_mul] at h
  omega

theorem mul64_h (A B H L : Int) (w : World) (a0 : 0 ≤ A) (a1 : A < 18446744073709551616) (b0 : 0 ≤ B) (b1 : B < 18446744073709551616) (hH : A * B / 18446744073709551616 = H) (hL : A * B % 18446744073709551616 = L) :
    Calls Try.prog 116 #[.int .u64 A, .int .u64 B] w fun e w' => e = .returned (.tuple #[.int .u64 H, .int .u64 L]) ∧ w = w' := by
  subst hH hL
  exact mul64_any A B w a0 a1 b0 b1

namespace Bm
theorem expand (a b p q : Int) : (a + p) * (b + q) = a * b + a * q + p * b + p * q := by
  rw [Int.add_mul, Int.mul_add, Int.mul_add, Int.add_assoc, Int.add_assoc, Int.add_assoc]
theorem wide_nn {a b : Int} (ha : -1000000000000000 ≤ a) (ha' : a < 0) (hb : -1000000000000000 ≤ b) (hb' : b < 0) :
    wrap64 (wrap64 (wrap64 ((a + 18446744073709551616) * (b + 18446744073709551616) / 18446744073709551616) - b) - a) = a * b / 18446744073709551616 ∧ (a + 18446744073709551616) * (b + 18446744073709551616) % 18446744073709551616 = a * b % 18446744073709551616 := by
  have h := prod_abs ha (by omega) hb (by omega)
  rw [expand]
  generalize a * b = p at *
  unfold wrap64
  omega
theorem wide_np {a b : Int} (ha : -1000000000000000 ≤ a) (ha' : a < 0) (hb : 0 ≤ b) (hb' : b ≤ 1000000000000000) :
    wrap64 (wrap64 ((a + 18446744073709551616) * b / 18446744073709551616) - b) = a * b / 18446744073709551616 ∧ (a + 18446744073709551616) * b % 18446744073709551616 = a * b % 18446744073709551616 := by
  have h := prod_abs ha (by omega) (by omega) hb'
  rw [Int.add_mul]
  generalize a * b = p at *
  unfold wrap64
  omega
theorem wide_pn {a b : Int} (ha : 0 ≤ a) (ha' : a ≤ 1000000000000000) (hb : -1000000000000000 ≤ b) (hb' : b < 0) :
    wrap64 (wrap64 (a * (b + 18446744073709551616) / 18446744073709551616) - a) = a * b / 18446744073709551616 ∧ a * (b + 18446744073709551616) % 18446744073709551616 = a * b % 18446744073709551616 := by
  have h := prod_abs (by omega) ha' hb (by omega)
  rw [Int.mul_add]
  generalize a * b = p at *
  unfold wrap64
  omega
theorem wide_pp {a b : Int} (ha : 0 ≤ a) (ha' : a ≤ 1000000000000000) (hb : 0 ≤ b) (hb' : b ≤ 1000000000000000) :
    wrap64 (a * b / 18446744073709551616) = a * b / 18446744073709551616 := by
  have h := prod_abs (by omega) ha' (by omega) hb'
  generalize a * b = p at *
  unfold wrap64
  omega
end Bm

set_option maxHeartbeats 800000 in
theorem product_any (a b : Int) (w : World) (ha : -1000000000000000 ≤ a) (ha' : a ≤ 1000000000000000) (hb : -1000000000000000 ≤ b) (hb' : b ≤ 1000000000000000) :
    Calls Try.prog 73 #[.int .i64 a, .int .i64 b] w fun e w' => e = .returned (.agg #[.int .i64 (a * b / 18446744073709551616), .int .u64 (a * b % 18446744073709551616)]) ∧ Below w.heap.size w w' := by
  by_cases h1 : a < 0
  · have eA : IntKind.u64.wrap a = a + 18446744073709551616 := by rw [IntKind.wrap_u64]; omega
    by_cases h2 : b < 0
    · have eB : IntKind.u64.wrap b = b + 18446744073709551616 := by rw [IntKind.wrap_u64]; omega
      obtain ⟨f1, f2⟩ := Bm.wide_nn ha h1 hb h2
      obtain ⟨H, hH⟩ : ∃ H, (a + 18446744073709551616) * (b + 18446744073709551616) / 18446744073709551616 = H := ⟨_, rfl⟩
      obtain ⟨L, hL⟩ : ∃ L, (a + 18446744073709551616) * (b + 18446744073709551616) % 18446744073709551616 = L := ⟨_, rfl⟩
      have hc := fun w => mul64_h _ _ H L w (show 0 ≤ (a + 18446744073709551616) by omega) (by omega) (show 0 ≤ (b + 18446744073709551616) by omega) (by omega) hH hL
      rw [hH] at f1
      rw [hL] at f2
      have F1 := hide f1
      have F2 := hide f2
      have C := hide hc
      clear f1 f2 hc hH hL
      go_enter Try.func73, Try.ntmps73
      go_wp2_with (go_at_call 116; refine (C.out _).mono ?_; rintro e w' ⟨rfl, rfl⟩)
      exact bodyPost_ret (v := .agg #[.int .i64 (wrap64 (wrap64 (wrap64 H - b) - a)), .int .u64 L]) (by simp [results, Try.results73, go_sem]) rfl ⟨by rw [F1.out, F2.out], (by repeat (first | exact Below.refl _ _ | assumption | apply balloc | apply bdrew | (refine bset ?_ (by first | (simp; done) | omega | (simp; omega)) _) | (refine bnext ?_ (by assumption))))⟩
    · obtain ⟨f1, f2⟩ := Bm.wide_np ha h1 (by omega) hb'
      obtain ⟨H, hH⟩ : ∃ H, (a + 18446744073709551616) * b / 18446744073709551616 = H := ⟨_, rfl⟩
      obtain ⟨L, hL⟩ : ∃ L, (a + 18446744073709551616) * b % 18446744073709551616 = L := ⟨_, rfl⟩
      have hc := fun w => mul64_h _ _ H L w (show 0 ≤ (a + 18446744073709551616) by omega) (by omega) (show 0 ≤ b by omega) (by omega) hH hL
      rw [hH] at f1
      rw [hL] at f2
      have F1 := hide f1
      have F2 := hide f2
      have C := hide hc
      clear f1 f2 hc hH hL
      go_enter Try.func73, Try.ntmps73
      go_wp2_with (go_at_call 116; refine (C.out _).mono ?_; rintro e w' ⟨rfl, rfl⟩)
      exact bodyPost_ret (v := .agg #[.int .i64 (wrap64 (wrap64 H - b)), .int .u64 L]) (by simp [results, Try.results73, go_sem]) rfl ⟨by rw [F1.out, F2.out], (by repeat (first | exact Below.refl _ _ | assumption | apply balloc | apply bdrew | (refine bset ?_ (by first | (simp; done) | omega | (simp; omega)) _) | (refine bnext ?_ (by assumption))))⟩
  · by_cases h2 : b < 0
    · have eB : IntKind.u64.wrap b = b + 18446744073709551616 := by rw [IntKind.wrap_u64]; omega
      obtain ⟨f1, f2⟩ := Bm.wide_pn (by omega) ha' hb h2
      obtain ⟨H, hH⟩ : ∃ H, a * (b + 18446744073709551616) / 18446744073709551616 = H := ⟨_, rfl⟩
      obtain ⟨L, hL⟩ : ∃ L, a * (b + 18446744073709551616) % 18446744073709551616 = L := ⟨_, rfl⟩
      have hc := fun w => mul64_h _ _ H L w (show 0 ≤ a by omega) (by omega) (show 0 ≤ (b + 18446744073709551616) by omega) (by omega) hH hL
      rw [hH] at f1
      rw [hL] at f2
      have F1 := hide f1
      have F2 := hide f2
      have C := hide hc
      clear f1 f2 hc hH hL
      go_enter Try.func73, Try.ntmps73
      go_wp2_with (go_at_call 116; refine (C.out _).mono ?_; rintro e w' ⟨rfl, rfl⟩)
      exact bodyPost_ret (v := .agg #[.int .i64 (wrap64 (wrap64 H - a)), .int .u64 L]) (by simp [results, Try.results73, go_sem]) rfl ⟨by rw [F1.out, F2.out], (by repeat (first | exact Below.refl _ _ | assumption | apply balloc | apply bdrew | (refine bset ?_ (by first | (simp; done) | omega | (simp; omega)) _) | (refine bnext ?_ (by assumption))))⟩
    · have f1 := Bm.wide_pp (by omega) ha' (by omega) hb'
      have f2 : a * b % 18446744073709551616 = a * b % 18446744073709551616 := rfl
      obtain ⟨H, hH⟩ : ∃ H, a * b / 18446744073709551616 = H := ⟨_, rfl⟩
      obtain ⟨L, hL⟩ : ∃ L, a * b % 18446744073709551616 = L := ⟨_, rfl⟩
      have hc := fun w => mul64_h _ _ H L w (show 0 ≤ a by omega) (by omega) (show 0 ≤ b by omega) (by omega) hH hL
      have f1 : wrap64 H = a * b / 18446744073709551616 := by rw [← hH]; exact f1
      have f2 : L = a * b % 18446744073709551616 := hL.symm
      have F1 := hide f1
      have F2 := hide f2
      have C := hide hc
      clear f1 f2 hc hH hL
      go_enter Try.func73, Try.ntmps73
      go_wp2_with (go_at_call 116; refine (C.out _).mono ?_; rintro e w' ⟨rfl, rfl⟩)
      exact bodyPost_ret (v := .agg #[.int .i64 (wrap64 H), .int .u64 L]) (by simp [results, Try.results73, go_sem]) rfl ⟨by rw [F1.out, F2.out], (by repeat (first | exact Below.refl _ _ | assumption | apply balloc | apply bdrew | (refine bset ?_ (by first | (simp; done) | omega | (simp; omega)) _) | (refine bnext ?_ (by assumption))))⟩


end Go.Proofs.Ytadnchcelocnaaa
