/-
  The statements' own helper divisor (the greatest common divisor).
-/
import Derived.Test.YtdnppmncmnmckaaLeast
import Derived.BigQuiet
import Derived.RegionTactic
namespace Go.Proofs.Ytdnppmncmnmckaa
set_option linter.unusedSimpArgs false
set_option linter.unusedVariables false
open Go.RowKit

theorem gcd_step {a b : Int} : Int.gcd b (a.tmod b) = Int.gcd a b := by
  rw [Int.gcd_eq_natAbs_gcd_natAbs, Int.gcd_eq_natAbs_gcd_natAbs, Int.natAbs_tmod, Nat.gcd_comm b.natAbs, ← Nat.gcd_rec, Nat.gcd_comm]
theorem tmod_size {a b : Int} (h : b ≠ 0) : (a.tmod b).natAbs < b.natAbs := by
  rw [Int.natAbs_tmod]
  exact Nat.mod_lt _ (by omega)

set_option maxHeartbeats 1600000 in
theorem divisor_any (a b : Int) (w : World) (a0 : -1000000000000000 ≤ a) (a1 : a ≤ 1000000000000000) (b0 : -1000000000000000 ≤ b) (b1 : b ≤ 1000000000000000) :
    Calls Try.prog 61 #[.int .i64 a, .int .i64 b] w fun e w' => e = .returned (.int .i64 (Int.gcd a b : Nat)) ∧ Below w.heap.size w w' := by
  obtain ⟨g, hg⟩ : ∃ g, Int.gcd a b = g := ⟨_, rfl⟩
  rw [hg]
  have G := hide hg
  clear hg
  go_enter Try.func61, Try.ntmps61
  go_wp2_with fail
  go_loopw [0, 1] (fun x y wr => ∃ m n : Int, x = .int .i64 m ∧ y = .int .i64 n ∧ (-1000000000000000 ≤ m ∧ m ≤ 1000000000000000) ∧ (-1000000000000000 ≤ n ∧ n ≤ 1000000000000000) ∧ Hid (Int.gcd m n = g) ∧ Below w.heap.size w wr) (fun _ y _ => (intOf y).natAbs)
  case atStart => exact ⟨a, b, rfl, rfl, ⟨a0, a1⟩, ⟨b0, b1⟩, G, Below.refl _ _⟩
  case round =>
    obtain ⟨m, n, rfl, rfl, ⟨m0, m1⟩, ⟨n0, n1⟩, HG, hb⟩ := hrel
    by_cases hn : n = 0
    · subst hn
      have E : (m.natAbs : Int) = g := by have := HG.out; rw [Int.gcd_zero_right] at this; omega
      have HE := hide E
      clear E

      go_wp2_with fail
      · go_ret
        exact ⟨congrArg (fun x => Ending.returned (Value.int .i64 x)) (show -m = (g : Int) by have := HE.out; omega), hb⟩
      · go_ret
        exact ⟨congrArg (fun x => Ending.returned (Value.int .i64 x)) (show m = (g : Int) by have := HE.out; omega), hb⟩
    · have hz : (n == 0) = false := by simpa using hn
      have hz2 : (n != 0) = true := by simpa using hn
      have S := tmod_size (a := m) hn
      have T0 : -1000000000000000 ≤ m.tmod n ∧ m.tmod n ≤ 1000000000000000 := by omega
      obtain ⟨t0, t1⟩ := T0
      have HG2 : Hid (Int.gcd n (m.tmod n) = g) := gcd_step.trans HG.out
      clear HG
      have HS := hide S
      clear S
      go_wp2_with fail
      go_region
      go_wp2_with fail
      all_goals
        go_roundw
        case rel => exact ⟨n, m.tmod n, rfl, rfl, ⟨n0, n1⟩, ⟨t0, t1⟩, HG2, (by repeat (first | exact Below.refl _ _ | assumption | apply balloc | apply bdrew | (refine bset ?_ (by first | (simp; done) | omega | (simp; omega)) _) | (refine bnext ?_ (by assumption))))⟩
        case measure => exact HS.out

theorem divisor_one (a b : Int) (w : World) (a0 : -1000000000000000 ≤ a) (a1 : a ≤ 1000000000000000) (b0 : 1 ≤ b) (b1 : b ≤ 1000000000000000)
    (h : ∀ g x y : Int, 1 ≤ g → a = x * g → b = y * g → g = 1) :
    Calls Try.prog 61 #[.int .i64 a, .int .i64 b] w fun e w' => e = .returned (.int .i64 1) ∧ Below w.heap.size w w' := by
  have D := divisor_any a b w a0 a1 (by omega) b1
  have g1 : (Int.gcd a b : Int) = 1 := by
    have d1 : (Int.gcd a b : Int) ∣ a := Int.gcd_dvd_left ..
    have d2 : (Int.gcd a b : Int) ∣ b := Int.gcd_dvd_right ..
    obtain ⟨x, hx⟩ := d1
    obtain ⟨y, hy⟩ := d2
    have p : 0 < Int.gcd a b := Int.gcd_pos_of_ne_zero_right _ (by omega)
    exact h _ x y (by omega) (hx.trans (Int.mul_comm _ _)) (hy.trans (Int.mul_comm _ _))
  rwa [g1] at D
end Go.Proofs.Ytdnppmncmnmckaa
