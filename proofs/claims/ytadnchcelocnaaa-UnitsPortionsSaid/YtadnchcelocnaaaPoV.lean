/-
  UnitsPortions: the walk.
-/
import Derived.Test.YtadnchcelocnaaaPoW
import Derived.Test.YtadnchcelocnaaaFrameC
namespace Go.Proofs.Ytadnchcelocnaaa
set_option linter.unusedSimpArgs false
set_option linter.unusedVariables false
open Go.RowKit

set_option maxHeartbeats 3200000 in
theorem unitsPortions_walk (n : Int) (ws : List Int) (a : Option Addr) (cap : Nat) (w : World) (hl : ws.length ≤ maxLen ∧ (a = none → cap = 0 ∧ ws = [])) (h : IsInts w a ws) :
    Calls Try.prog 5 #[.int .i64 n, .slice a ws.length cap] w fun e w' => e = .returned (.bool true) ∧ Below w.heap.size w w' := by
  by_cases hlen : 110 < ws.length
  · have d1 : decide (110 < (ws.length : Int)) = true := decide_eq_true (by omega)
    obtain ⟨hm, _⟩ := hl
    unfold maxLen at hm
    go_enter Try.func5, Try.ntmps5
    go_wp2_with fail
    refine (known_any _).mono ?_
    rintro e w1 ⟨rfl, hb1⟩
    go_wp2_with fail
    go_ret
    exact ⟨rfl, (by repeat (first | exact Below.refl _ _ | assumption | apply balloc | apply bdrew | (refine bset ?_ (by first | (simp; done) | omega | (simp; omega)) _) | (refine bnext ?_ (by assumption))))⟩
  · have d1 : decide (110 < (ws.length : Int)) = false := decide_eq_false (by omega)
    have H := hide h
    have HA := hide hl.2
    clear hl h
    obtain ⟨q, hq⟩ : ∃ q, portQ n ws = q := ⟨_, rfl⟩
    obtain ⟨E, hE⟩ : ∃ E, portE n ws = E := ⟨_, rfl⟩
    have hql : q.length ≤ 1000 := by
      rw [← hq]
      unfold portQ
      split
      · simp; omega
      · simp
    have HQ := hide hq
    have HE := hide hE
    have HQL := hide hql
    clear hq hE hql
    go_enter Try.func5, Try.ntmps5
    go_wp2_with fail
    refine (ownInts_any a cap ws w (by omega) HA.out H.out).mono ?_
    rintro e w1 ⟨b1, c1, rfl, hA1, hi1, hb1⟩
    have I1 := hide hi1
    clear hi1 hA1
    go_wp2_with fail
    refine (portions_any n ws b1 c1 w1 (by omega) I1.out).mono ?_
    rintro e w2 ⟨b2, c2, rfl, hi2, hb2⟩
    rw [HQ.out] at hi2
    rw [HQ.out, HE.out]
    have I2 := hide hi2
    clear hi2
    go_wp2_with fail
    refine (refPortions_any n ws a cap w2 (by omega) (ints_later (ints_later H.out hb1) hb2)).mono ?_
    rintro e w3 ⟨b3, c3, rfl, hi3, hb3⟩
    rw [HQ.out] at hi3
    rw [HQ.out, HE.out]
    have I3 := hide hi3
    clear hi3
    go_wp2_with fail
    refine (sameInts_any b2 b3 c2 c3 q q w3 (by have := HQL.out; omega) (by have := HQL.out; omega) (ints_later I2.out hb3) I3.out).mono ?_
    rw [decide_eq_true rfl]
    rintro e w4 ⟨rfl, hb4⟩
    go_wp2_with fail
    refine (sameInts_any b1 a c1 cap ws ws w4 (by omega) (by omega) (ints_later (ints_later (ints_later I1.out hb2) hb3) hb4) (ints_later (ints_later (ints_later (ints_later H.out hb1) hb2) hb3) hb4)).mono ?_
    rw [decide_eq_true rfl]
    rintro e w5 ⟨rfl, hb5⟩
    go_wp2_with fail
    refine (known_any _).mono ?_
    rintro e w6 ⟨rfl, hb6⟩
    go_wp2_with fail
    go_ret
    exact ⟨rfl, (by repeat (first | exact Below.refl _ _ | assumption | apply balloc | apply bdrew | (refine bset ?_ (by first | (simp; done) | omega | (simp; omega)) _) | (refine bnext ?_ (by assumption))))⟩
end Go.Proofs.Ytadnchcelocnaaa
