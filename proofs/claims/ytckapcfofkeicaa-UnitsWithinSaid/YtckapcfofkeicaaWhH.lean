/-
  The reference's holds and first.
-/
import Derived.Test.YtckapcfofkeicaaWhM
import Derived.Test.YtckapcfofkeicaaTbV
namespace Go.Proofs.Ytckapcfofkeicaa
set_option linter.unusedSimpArgs false
set_option linter.unusedVariables false
open Go.RowKit

theorem atC_of {ks : List (Int × Int)} (ht : tabOk ks = true) {i : Nat} {x : Int} (hx : Has ks i x) : AtC ks x (dnQ ks i x) (upQx ks i x) :=
  fun a cap W h => refAt_any ks a cap x i W ht hx h
set_option maxHeartbeats 1600000 in
theorem holds_any (ks : List (Int × Int)) (a : Option Addr) (cap : Nat) (x y q D U : Int) (w : World) (A : Hid (AtC ks x D U)) (hq : q = 1 ∨ q = 2 ∨ q = 3 ∨ q = 4) (h : Hid (IsPairs w a ks)) :
    Calls Try.prog 130 #[.slice a ks.length cap, .int .i64 x, .int .i64 y, .int .i64 q] w fun e w' => e = .returned (.bool (ask q D U y)) ∧ Below w.heap.size w w' := by
  rcases hq with rfl | rfl | rfl | rfl
  all_goals
    go_enter Try.func130, Try.ntmps130
    go_wp2_with fail
    refine (A.out a cap _ (pairs_later h.out (by repeat (first | exact Below.refl _ _ | assumption | apply balloc | apply bdrew | (refine bset ?_ (by first | (simp; done) | omega | (simp; omega)) _) | (refine bnext ?_ (by assumption)))))).mono ?_
    rintro e w1 ⟨rfl, hb1⟩
    go_wp2_with fail
    go_ret
    exact ⟨by simp [ask], (by repeat (first | exact Below.refl _ _ | assumption | apply balloc | apply bdrew | (refine bset ?_ (by first | (simp; done) | omega | (simp; omega)) _) | (refine bnext ?_ (by assumption))))⟩

/-- Halving. -/
def halve (P : Int → Bool) (lo hi : Int) : Int :=
  if 1 < hi - lo then (if P (lo + (hi - lo) / 2) = true then halve P lo (lo + (hi - lo) / 2) else halve P (lo + (hi - lo) / 2) hi) else hi
termination_by (hi - lo).toNat
decreasing_by all_goals omega
theorem halve_yes {P : Int → Bool} {lo hi m : Int} (h : 1 < hi - lo) (hm : lo + (hi - lo) / 2 = m) (hp : P m = true) : halve P lo hi = halve P lo m := by
  rw [halve, if_pos h, hm, if_pos hp]
theorem halve_no {P : Int → Bool} {lo hi m : Int} (h : 1 < hi - lo) (hm : lo + (hi - lo) / 2 = m) (hp : P m = false) : halve P lo hi = halve P m hi := by
  rw [halve, if_pos h, hm, if_neg (by simp [hp])]
theorem halve_end {P : Int → Bool} {lo hi : Int} (h : ¬ 1 < hi - lo) : halve P lo hi = hi := by
  rw [halve, if_neg h]
theorem halve_is {P : Int → Bool} {l r : Int} : ∀ (n : Nat) (lo hi : Int), (hi - lo).toNat ≤ n → (l - 1 ≤ lo ∧ lo < hi ∧ hi ≤ r + 1) → ((l ≤ lo → P lo = false) ∧ (hi ≤ r → P hi = true)) →
    (l ≤ halve P lo hi ∧ halve P lo hi ≤ r + 1) ∧ (Mono P l r → FirstIs P l r (halve P lo hi)) := by
  intro n
  induction n with
  | zero => intro lo hi h b _; omega
  | succ n ih =>
    intro lo hi h b c
    by_cases h1 : 1 < hi - lo
    · obtain ⟨m, hm⟩ : ∃ m, lo + (hi - lo) / 2 = m := ⟨_, rfl⟩
      cases hp : P m with
      | true =>
        rw [halve_yes h1 hm hp]
        exact ih lo m (by omega) (by omega) ⟨c.1, fun _ => hp⟩
      | false =>
        rw [halve_no h1 hm hp]
        exact ih m hi (by omega) (by omega) ⟨fun _ => hp, c.2⟩
    · rw [halve_end h1]
      exact ⟨by omega, fun hm => first_is hm (by omega) (by omega) (by omega) c.1 c.2⟩
/-- What the reference's first finds of a question about the piece i. -/
def qP (ks : List (Int × Int)) (i : Nat) (y q x : Int) : Bool := ask q (dnQ ks i x) (upQx ks i x) y
def fV (ks : List (Int × Int)) (i : Nat) (y q : Int) : Int := halve (qP ks i y q) (kX ks i - 1) (kX ks (i + 1) + 1)
theorem fV_is {ks : List (Int × Int)} (ht : tabOk ks = true) {i : Nat} (hi : i + 1 < ks.length) (y q : Int) :
    (kX ks i ≤ fV ks i y q ∧ fV ks i y q ≤ kX ks (i + 1) + 1) ∧ (Mono (qP ks i y q) (kX ks i) (kX ks (i + 1)) → FirstIs (qP ks i y q) (kX ks i) (kX ks (i + 1)) (fV ks i y q)) := by
  have n := knot_next ht hi
  exact halve_is _ _ _ (Nat.le_refl _) (by omega) ⟨fun h => by omega, fun h => by omega⟩

set_option maxHeartbeats 1600000 in
theorem first_any (ks : List (Int × Int)) (a : Option Addr) (cap : Nat) (l r y q : Int) (i : Nat) (w : World) (ht : tabOk ks = true) (hi : i + 1 < ks.length) (hl : kX ks i = l) (hr : kX ks (i + 1) = r) (hq : q = 1 ∨ q = 2 ∨ q = 3 ∨ q = 4) (h : IsPairs w a ks) :
    Calls Try.prog 109 #[.slice a ks.length cap, .int .i64 l, .int .i64 r, .int .i64 y, .int .i64 q] w fun e w' => e = .returned (.int .i64 (fV ks i y q)) ∧ Below w.heap.size w w' := by
  have K0 := knot_bounds ht (show i < ks.length by omega)
  have K1 := knot_bounds ht hi
  have KN := knot_next ht hi
  rw [hl] at K0 KN
  rw [hr] at K1 KN
  obtain ⟨⟨b0, b1⟩, _⟩ := K0
  obtain ⟨⟨b2, b3⟩, _⟩ := K1
  have HC := hide (fun (x : Int) (h0 : l ≤ x) (h1 : x ≤ r) (W : World) (hw : Below w.heap.size w W) => holds_any ks a cap x y q (dnQ ks i x) (upQx ks i x) W (atC_of ht ⟨hi, by omega, by omega⟩) hq (pairs_later h hw))
  obtain ⟨V, hV⟩ : ∃ V, fV ks i y q = V := ⟨_, rfl⟩
  rw [hV]
  obtain ⟨P, hP⟩ : ∃ P : Int → Bool, qP ks i y q = P := ⟨_, rfl⟩
  have HV := hide (show halve P (l - 1) (r + 1) = V by rw [← hV, ← hP, ← hl, ← hr]; rfl)
  have HC' := hide (show ∀ (x : Int) (h0 : l ≤ x) (h1 : x ≤ r) (W : World) (hw : Below w.heap.size w W), Calls Try.prog 130 #[.slice a ks.length cap, .int .i64 x, .int .i64 y, .int .i64 q] W fun e w' => e = .returned (.bool (P x)) ∧ Below W.heap.size W w' by rw [← hP]; exact HC.out)
  clear HC hP hl hr h hq ht hi hV
  go_enter Try.func109, Try.ntmps109
  go_wp2_with fail
  go_loopw [11, 12] (fun s t wr => ∃ lo hi : Int, s = .int .i64 lo ∧ t = .int .i64 hi ∧ (l - 1 ≤ lo ∧ lo < hi ∧ hi ≤ r + 1) ∧ Hid (halve P lo hi = V) ∧ Below w.heap.size w wr) (fun s t _ => (intOf t - intOf s).toNat)
  case atStart => exact ⟨_, _, rfl, rfl, by omega, HV, (by repeat (first | exact Below.refl _ _ | assumption | apply balloc | apply bdrew | (refine bset ?_ (by first | (simp; done) | omega | (simp; omega)) _) | (refine bnext ?_ (by assumption))))⟩
  case round =>
    obtain ⟨lo, hi, rfl, rfl, ⟨i0, i1, i2⟩, hp, hb⟩ := hrel
    by_cases hlt : 1 < hi - lo
    · have d1 : decide (1 < hi - lo) = true := decide_eq_true hlt
      obtain ⟨m, hm⟩ : ∃ m, lo + (hi - lo) / 2 = m := ⟨_, rfl⟩
      have m0 : lo < m := by omega
      have m1 : m < hi := by omega
      have HM := hide hm
      have C := hide (fun (W : World) (hw : Below w.heap.size w W) => HC'.out m (by omega) (by omega) W hw)
      cases hpm : P m with
      | true =>
        rw [hpm] at C
        have HPM := hide (halve_yes hlt hm hpm)
        clear hpm hm
        go_wp2_with (go_at_call 130; (try rw [HM.out]); refine (C.out _ (by exact (by repeat (first | exact Below.refl _ _ | assumption | apply balloc | apply bdrew | (refine bset ?_ (by first | (simp; done) | omega | (simp; omega)) _) | (refine bnext ?_ (by assumption)))))).mono ?_; rintro e w1 ⟨rfl, hb1⟩)
        go_roundw
        case rel => exact ⟨lo, m, rfl, by first | rfl | rw [HM.out], by omega, HPM.out.symm.trans hp.out, (by repeat (first | exact Below.refl _ _ | assumption | apply balloc | apply bdrew | (refine bset ?_ (by first | (simp; done) | omega | (simp; omega)) _) | (refine bnext ?_ (by assumption))))⟩
        case measure => simp [intOf]; omega
      | false =>
        rw [hpm] at C
        have HPM := hide (halve_no hlt hm hpm)
        clear hpm hm
        go_wp2_with (go_at_call 130; (try rw [HM.out]); refine (C.out _ (by exact (by repeat (first | exact Below.refl _ _ | assumption | apply balloc | apply bdrew | (refine bset ?_ (by first | (simp; done) | omega | (simp; omega)) _) | (refine bnext ?_ (by assumption)))))).mono ?_; rintro e w1 ⟨rfl, hb1⟩)
        go_roundw
        case rel => exact ⟨m, hi, by first | rfl | rw [HM.out], rfl, by omega, HPM.out.symm.trans hp.out, (by repeat (first | exact Below.refl _ _ | assumption | apply balloc | apply bdrew | (refine bset ?_ (by first | (simp; done) | omega | (simp; omega)) _) | (refine bnext ?_ (by assumption))))⟩
        case measure => simp [intOf]; omega
    · have d1 : decide (1 < hi - lo) = false := decide_eq_false hlt
      have HE := hide ((halve_end hlt).symm.trans hp.out)
      clear hlt
      go_wp2_with fail
      go_ret
      exact ⟨congrArg (fun x => Ending.returned (Value.int .i64 x)) HE.out, (by repeat (first | exact Below.refl _ _ | assumption | apply balloc | apply bdrew | (refine bset ?_ (by first | (simp; done) | omega | (simp; omega)) _) | (refine bnext ?_ (by assumption))))⟩
end Go.Proofs.Ytckapcfofkeicaa
