/-
  math/bits: Mul64, Len64, LeadingZeros64, Div64 at this dump.
-/
import Derived.Test.YtadnchcelocnaaaRows
import Derived.WalkKit
import Derived.WalkSpells
import Derived.BigQuiet
import Derived.Deep.QuietTactic
import Derived.WalkSmall
import Derived.Laws.MathBits
import Derived.Lib.Tables
import Derived.Deep.Light
import Derived.Test.YtadnchcelocnaaaKnuth
namespace Go.Proofs.Ytadnchcelocnaaa
set_option linter.unusedSimpArgs false
set_option linter.unusedVariables false
open Go.RowKit

theorem ret_eq1 {k : IntKind} {a b : Int} (h : a = b) : Ending.returned (.int k a) = .returned (.int k b) := by rw [h]
theorem ret_eq2 {k k' : IntKind} {a b c d : Int} (h : a = b) (h' : c = d) : Ending.returned (.tuple #[.int k a, .int k' c]) = .returned (.tuple #[.int k b, .int k' d]) := by rw [h, h']

set_option maxHeartbeats 400000 in
theorem mul64_any (x y : Int) (w : World) (hx0 : 0 ≤ x) (hx : x < 18446744073709551616) (hy0 : 0 ≤ y) (hy : y < 18446744073709551616) :
    Calls Try.prog 116 #[.int .u64 x, .int .u64 y] w fun e w' => e = .returned (.tuple #[.int .u64 (x * y / 18446744073709551616), .int .u64 (x * y % 18446744073709551616)]) ∧ w = w' := by
  go_enter Try.func116, Try.ntmps116
  go_wp2
  go_ret2
  refine ⟨ret_eq2 ?_ (IntKind.wrap_u64 _), rfl⟩
  simp only [and_low32 x hx0 hx, and_low32 y hy0 hy, IntKind.wrap_u64]
  rw [and_low32 _ (by omega) (by omega)]
  exact mul64_arith x y hx0 hx hy0 hy

theorem len8_at (i : Nat) (h : i < Lib.len8tab.size) : (Lib.len8tab[i].toNat : Int) = bitLen i := by
  have := len8tab_get i h
  unfold Lib.len8tab
  omega

theorem lenway (x y : Int) (b : Nat) (hb : b ≤ 56) (hy : y = x / (2 ^ b : Nat)) (h0 : 0 ≤ x) (h1 : b = 0 ∨ 1 ≤ y) (h2 : y < 256) (h : y.toNat < Lib.len8tab.size) :
    wrap64 ((b : Int) + wrap64 (Lib.len8tab[y.toNat].toNat : Int)) = (bitLen x.toNat : Int) := by
  rw [len8_at]
  have h8 := bitLen_le8 y.toNat (by omega)
  have e : y.toNat = x.toNat / 2 ^ b := by
    subst hy
    obtain ⟨n, rfl⟩ := Int.eq_ofNat_of_zero_le h0
    simp only [Int.toNat_natCast]
    rw [← Int.natCast_ediv, Int.toNat_natCast]
  have hs : bitLen x.toNat = b + bitLen y.toNat := by
    rcases h1 with rfl | h1
    · rw [e]; simp
    · rw [bitLen_shift x.toNat b (by rw [← e]; omega), e]
  rw [hs, IntWalk.wrap64_in ((bitLen y.toNat : Nat) : Int) (by omega), IntWalk.wrap64_in _ (by omega)]
  omega

set_option maxRecDepth 1000000 in
set_option maxHeartbeats 800000 in
theorem len64_any (x : Int) (w : World) (h0 : 0 ≤ x) (hx : x < 18446744073709551616) :
    Calls Try.prog 133 #[.int .u64 x] w fun e w' => e = .returned (.int .i64 (bitLen x.toNat : Nat)) ∧ w = w' := by
  go_enter Try.func133, Try.ntmps133
  go_wp2
  all_goals first
    | (go_ret; refine ⟨ret_eq1 ?_, rfl⟩; go_light)
    | (exfalso; go_light; have hs := Lib.len8tab_size; omega)
  · exact lenway x _ 56 (by omega) (by omega) h0 (by omega) (by omega) _
  · exact lenway x _ 48 (by omega) (by omega) h0 (by omega) (by omega) _
  · exact lenway x _ 40 (by omega) (by omega) h0 (by omega) (by omega) _
  · exact lenway x _ 32 (by omega) (by omega) h0 (by omega) (by omega) _
  · exact lenway x _ 24 (by omega) (by omega) h0 (by omega) (by omega) _
  · exact lenway x _ 16 (by omega) (by omega) h0 (by omega) (by omega) _
  · exact lenway x _ 8 (by omega) (by omega) h0 (by omega) (by omega) _
  · have := lenway x x 0 (by omega) (by omega) h0 (by omega) (by omega) (by have hs := Lib.len8tab_size; omega)
    simpa using this
end Go.Proofs.Ytadnchcelocnaaa
