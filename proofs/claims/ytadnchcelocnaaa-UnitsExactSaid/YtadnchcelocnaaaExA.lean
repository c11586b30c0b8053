/-
  The statements' own helpers mod, primes, exactly.
-/
import Derived.Test.YtadnchcelocnaaaFrame
import Derived.BigQuiet
namespace Go.Proofs.Ytadnchcelocnaaa
set_option linter.unusedSimpArgs false
set_option linter.unusedVariables false
open Go.RowKit

theorem tmod_mod {n p : Int} (h : 1 ≤ p) : (n.tmod p + p) % p = n % p := by
  rw [Int.add_emod_right]
  have e := Int.mul_tdiv_add_tmod n p
  have : n % p = (p * n.tdiv p + n.tmod p) % p := by rw [e]
  rw [this, Int.add_comm, Int.add_mul_emod_self_left]

theorem mod_any (n p : Int) (w : World) (h0 : 1 ≤ p) (h1 : p ≤ 2000000000) :
    Calls Try.prog 111 #[.int .i64 n, .int .i64 p] w fun e w' => e = .returned (.int .i64 (n % p)) ∧ ∃ k, w' = w.drewN k := by
  have b1 := Int.tmod_lt_of_pos n (show 0 < p by omega)
  have b2 : -p < n.tmod p := by
    have := Int.tmod_lt_of_pos (-n) (show 0 < p by omega)
    rw [Int.neg_tmod] at this
    omega
  have e := hide (tmod_mod (n := n) (p := p) h0)
  have hz : (p == 0) = false := by simp; omega
  go_enter Try.func111, Try.ntmps111
  go_wp2
  go_ret
  exact ⟨congrArg (fun x => Ending.returned (Value.int .i64 x)) e.out, 0, rfl⟩

def primesL : List Int := [1000000007, 998244353, 1000000009, 999999937]
theorem primes_any (w : World) :
    Calls Try.prog 110 #[] w fun e w' => e = .returned (.slice (some ⟨w.heap.size, 0, none⟩) 4 4) ∧ IsInts w' (some ⟨w.heap.size, 0, none⟩) primesL ∧ Below w.heap.size w w' := by
  go_enter Try.func110, Try.ntmps110
  go_wp2_with fail
  refine bodyPost_ret (v := .slice (some ⟨w.heap.size, 0, none⟩) 4 4) (by simp [results, Try.results110, go_sem]) rfl ⟨rfl, .inr ⟨_, _, rfl, fun i hi => ?_⟩, (by repeat (first | exact Below.refl _ _ | assumption | apply balloc | apply bdrew | (refine bset ?_ (by first | (simp; done) | omega | (simp; omega)) _) | (refine bnext ?_ (by assumption))))⟩
  simp [primesL] at hi
  obtain rfl | rfl | rfl | rfl : i = 0 ∨ i = 1 ∨ i = 2 ∨ i = 3 := by omega
  all_goals simp [go_sem, primesL]
theorem primes_get {k : Nat} (h : k < 4) : 1 ≤ primesL.getD k 0 ∧ primesL.getD k 0 ≤ 1000000009 := by
  obtain rfl | rfl | rfl | rfl : k = 0 ∨ k = 1 ∨ k = 2 ∨ k = 3 := by omega
  all_goals simp [primesL]

theorem mod_eq {a b n c r p : Int} (h : a * b = n * c + r) : (a % p * (b % p)) % p = (n % p * (c % p) + r % p) % p := by
  rw [← Int.mul_emod, h, Int.add_emod, Int.mul_emod]
  conv => rhs; rw [Int.add_emod, Int.emod_emod]
theorem prod_small {x y p : Int} (h : 1 ≤ p) (hp : p ≤ 1000000009) (x0 : 0 ≤ x) (x1 : x < p) (y0 : 0 ≤ y) (y1 : y < p) : 0 ≤ x * y ∧ x * y ≤ 1000000018000000081 := by
  refine ⟨Int.mul_nonneg x0 y0, ?_⟩
  have a1 : x * y ≤ 1000000009 * y := Int.mul_le_mul_of_nonneg_right (by omega) y0
  omega

set_option maxHeartbeats 1600000 in
/-- exactly, where the product is the quotient times the divisor and the rest. -/
theorem exactly_true (a b n c r : Int) (w : World) (h : Hid (a * b = n * c + r)) :
    Calls Try.prog 59 #[.int .i64 a, .int .i64 b, .int .i64 n, .int .i64 c, .int .i64 r] w fun e w' => e = .returned (.bool true) ∧ Below w.heap.size w w' := by
  go_enter Try.func59, Try.ntmps59
  go_wp2_with fail
  refine (primes_any _).mono ?_
  rintro e w1 ⟨rfl, hi1, hb1⟩
  have H1 := hide hi1
  have B1 := hide hb1
  clear hi1 hb1
  go_wp2_with fail
  go_loopw [12] (fun i wr => ∃ k : Nat, k ≤ 4 ∧ i = .int .i64 (k : Int) ∧ Below w1.heap.size w1 wr) (fun i _ => 4 - (intOf i).toNat)
  case atStart => exact ⟨0, by omega, rfl, Below.refl _ _⟩
  case round =>
    obtain ⟨k, hk, rfl, hbw⟩ := hrel
    by_cases hlt : k < 4
    · obtain ⟨b1, o1, hb, hc1⟩ : ∃ b off, some (⟨w.heap.size, 0, none⟩ : Addr) = some ⟨b, off, none⟩ ∧ ∀ i, i < primesL.length → wr.cell? ⟨b, off + i, none⟩ = some (.int .i64 (primesL.getD i 0)) := by
        rcases ints_later H1.out hbw with h | h
        · simp [primesL] at h
        · exact h
      simp only [Option.some.injEq, Addr.mk.injEq, and_true] at hb
      obtain ⟨rfl, rfl⟩ := hb
      have c1 := hc1 k (by simpa [primesL] using hlt)
      rw [Nat.zero_add] at c1
      clear hc1
      obtain ⟨p0, p1⟩ := primes_get hlt
      generalize primesL.getD k 0 = p at *
      have E := hide (mod_eq (p := p) h.out)
      have M := hide fun n w => mod_any n p w p0 (by omega)
      have pp : 0 < p := by omega
      have hz : (p == 0) = false := by simp; omega
      obtain ⟨xa, ha⟩ : ∃ x, a % p = x := ⟨_, rfl⟩
      obtain ⟨xb, hb⟩ : ∃ x, b % p = x := ⟨_, rfl⟩
      obtain ⟨xn, hn⟩ : ∃ x, n % p = x := ⟨_, rfl⟩
      obtain ⟨xc, hc⟩ : ∃ x, c % p = x := ⟨_, rfl⟩
      obtain ⟨xr, hr⟩ : ∃ x, r % p = x := ⟨_, rfl⟩
      have qa := Int.emod_nonneg a (show p ≠ 0 by omega)
      have qb := Int.emod_nonneg b (show p ≠ 0 by omega)
      have qn := Int.emod_nonneg n (show p ≠ 0 by omega)
      have qc := Int.emod_nonneg c (show p ≠ 0 by omega)
      have qr := Int.emod_nonneg r (show p ≠ 0 by omega)
      have ra := Int.emod_lt_of_pos a pp
      have rb := Int.emod_lt_of_pos b pp
      have rn := Int.emod_lt_of_pos n pp
      have rc := Int.emod_lt_of_pos c pp
      have rr := Int.emod_lt_of_pos r pp
      have Ma := hide fun w => M.out a w
      have Mb := hide fun w => M.out b w
      have Mn := hide fun w => M.out n w
      have Mc := hide fun w => M.out c w
      have Mr := hide fun w => M.out r w
      rw [ha] at qa ra Ma E
      rw [hb] at qb rb Mb E
      rw [hn] at qn rn Mn E
      rw [hc] at qc rc Mc E
      rw [hr] at qr rr Mr E
      have P1 := prod_small p0 p1 qa ra qb rb
      have P2 := prod_small p0 p1 qn rn qc rc
      obtain ⟨P10, P11⟩ := P1
      obtain ⟨P20, P21⟩ := P2
      clear ha hb hn hc hr M
      have hne : ((xa * xb % p) != ((xn * xc + xr) % p)) = false := by rw [E.out]; simp
      go_wp2_with fail
      go_quiet (first
        | (go_at_call_of 111 a; refine Calls.quiet_of (Ma.out _))
        | (go_at_call_of 111 b; refine Calls.quiet_of (Mb.out _))
        | (go_at_call_of 111 n; refine Calls.quiet_of (Mn.out _))
        | (go_at_call_of 111 c; refine Calls.quiet_of (Mc.out _))
        | (go_at_call_of 111 r; refine Calls.quiet_of (Mr.out _)))
      go_wp2_with fail
      go_roundw
      case rel => exact ⟨k + 1, by omega, by go_num, below_drewN hbw _⟩
      case measure => simp [intOf]; omega
    · have hlt' : ¬ (k : Int) < 4 := by omega
      have B1' := B1.out
      go_wp2
      go_ret
      exact ⟨rfl, (by repeat (first | exact Below.refl _ _ | assumption | apply balloc | apply bdrew | (refine bset ?_ (by first | (simp; done) | omega | (simp; omega)) _) | (refine bnext ?_ (by assumption))))⟩
end Go.Proofs.Ytadnchcelocnaaa
