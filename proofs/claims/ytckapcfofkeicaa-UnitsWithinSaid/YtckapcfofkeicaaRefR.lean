/-
  The reference: Range, Ranges, list.
-/
import Derived.Test.YtckapcfofkeicaaRefM
import Derived.Test.YtckapcfofkeicaaOwn
namespace Go.Proofs.Ytckapcfofkeicaa
set_option linter.unusedSimpArgs false
set_option linter.unusedVariables false
open Go.RowKit

theorem refRange_go (l h : Int) (w : World) (k1 k2 k3 : Bool) (N1 : Hid (Num l k1)) (N2 : Hid (Num h k2)) (h3 : decide (l ≤ h) = k3) :
    Calls Try.prog 99 #[.agg #[.int .i64 l, .int .i64 h]] w fun e w' => e = .returned (.bool (k1 && k2 && k3)) ∧ Below w.heap.size w w' := by
  cases k1
  · go_enter Try.func99, Try.ntmps99
    go_wp2_with fail
    refine (N1.out _).mono ?_
    rintro e w1 ⟨rfl, rfl⟩
    go_wp2_with fail
    go_ret
    exact ⟨rfl, (by repeat (first | exact Below.refl _ _ | assumption | apply balloc | apply bdrew | (refine bset ?_ (by first | (simp; done) | omega | (simp; omega)) _) | (refine bnext ?_ (by assumption))))⟩
  · cases k2 <;> cases k3
    all_goals
      go_enter Try.func99, Try.ntmps99
      go_wp2_with fail
      refine (N1.out _).mono ?_
      rintro e w1 ⟨rfl, rfl⟩
      go_wp2_with fail
      refine (N2.out _).mono ?_
      rintro e w1 ⟨rfl, rfl⟩
      go_wp2_with fail
      go_ret
      exact ⟨rfl, (by repeat (first | exact Below.refl _ _ | assumption | apply balloc | apply bdrew | (refine bset ?_ (by first | (simp; done) | omega | (simp; omega)) _) | (refine bnext ?_ (by assumption))))⟩
theorem allIn_both (l h : Int) : allIn 1000000000000000 [l, h] = (allIn 1000000000000000 [l] && allIn 1000000000000000 [h]) := by simp [allIn]
theorem refRange_any (l h : Int) (w : World) :
    Calls Try.prog 99 #[.agg #[.int .i64 l, .int .i64 h]] w fun e w' => e = .returned (.bool (rangeOk (l, h))) ∧ Below w.heap.size w w' := by
  have g := refRange_go l h w _ _ _ (num_of rfl) (num_of rfl) rfl
  rwa [← allIn_both] at g

set_option maxHeartbeats 1600000 in
theorem refRanges_any (a : Option Addr) (cap : Nat) (rs : List (Int × Int)) (w : World) (hl : rs.length ≤ 140737488351232) (h : IsPairs w a rs) :
    Calls Try.prog 125 #[.slice a rs.length cap] w fun e w' => e = .returned (.bool (rs.all rangeOk)) ∧ Below w.heap.size w w' := by
  have H := hide h
  clear h
  go_enter Try.func125, Try.ntmps125
  go_wp2_with fail
  go_loopw [3] (fun i wr => ∃ k : Nat, k ≤ rs.length ∧ i = .int .i64 (k : Int) ∧ (rs.take k).all rangeOk = true ∧ Below w.heap.size w wr) (fun i _ => rs.length - (intOf i).toNat)
  case atStart => exact ⟨0, by omega, rfl, rfl, Below.refl _ _⟩
  case round =>
    obtain ⟨k, hk, rfl, hall, hbw⟩ := hrel
    have Hall := hide hall
    clear hall
    by_cases hlt : k < rs.length
    · obtain ⟨b, off, rfl, hc⟩ : ∃ b off, a = some ⟨b, off, none⟩ ∧ ∀ i, i < rs.length → wr.cell? ⟨b, off + i * 2, none⟩ = some (.int .i64 (rs.getD i (0, 0)).1) ∧ wr.cell? ⟨b, off + i * 2 + 1, none⟩ = some (.int .i64 (rs.getD i (0, 0)).2) := by
        rcases pairs_later H.out hbw with h | h
        · subst h; simp at hlt
        · exact h
      obtain ⟨c1, c2⟩ := hc k hlt
      clear hc
      have S1 := hide (all_step (f := rangeOk) (d := (0, 0)) hlt Hall.out)
      have S2 := hide (all_stop (f := rangeOk) (l := rs) (d := (0, 0)) hlt)
      generalize rs.getD k (0, 0) = z at *
      obtain ⟨x, y⟩ := z
      simp only at c1 c2
      have C := fun w => refRange_any x y w
      cases hA : rangeOk (x, y) with
      | false =>
        have E := S2.out hA
        rw [hA] at C
        have C' := hide C
        clear hA C
        go_wp2_with fail
        refine (C'.out _).mono ?_
        rintro e w1 ⟨rfl, hb1⟩
        go_wp2_with fail
        go_ret
        exact ⟨ret_bool E.symm, bnext hbw hb1⟩
      | true =>
        have E := hide (S1.out hA)
        rw [hA] at C
        have C' := hide C
        clear hA C
        go_wp2_with fail
        refine (C'.out _).mono ?_
        rintro e w1 ⟨rfl, hb1⟩
        go_wp2_with fail
        go_roundw
        case rel => exact ⟨k + 1, by omega, by go_num, E.out, bnext hbw hb1⟩
        case measure => simp [intOf]; omega
    · have E := hide (all_end hlt Hall.out)
      have hlt' : ¬ (k : Int) < (rs.length : Int) := by omega
      go_wp2
      go_ret
      exact ⟨ret_bool E.out.symm, hbw⟩
/-- The error of a list of ranges. -/
def listE (rs : List (Int × Int)) : Int := if decide ((rs.length : Int) ≤ 100) = false then 5 else if rs.all rangeOk = false then 2 else 0
theorem refList_any (a : Option Addr) (cap : Nat) (rs : List (Int × Int)) (w : World) (hl : rs.length ≤ 140737488351232) (h : IsPairs w a rs) :
    Calls Try.prog 93 #[.slice a rs.length cap] w fun e w' => e = .returned (.int .i64 (listE rs)) ∧ Below w.heap.size w w' := by
  have R := fun w h => refRanges_any a cap rs w hl h
  by_cases h1 : 100 < rs.length
  · have E := hide (show listE rs = 5 by unfold listE; rw [decide_eq_false (by omega), if_pos rfl])
    have d1 : decide (100 < (rs.length : Int)) = true := decide_eq_true (by omega)
    clear R h
    go_enter Try.func93, Try.ntmps93
    go_wp2_with fail
    go_ret
    exact ⟨congrArg (fun x => Ending.returned (Value.int .i64 x)) E.out.symm, Below.refl _ _⟩
  · have d1 : decide (100 < (rs.length : Int)) = false := decide_eq_false (by omega)
    have d2 : decide ((rs.length : Int) ≤ 100) = true := decide_eq_true (by omega)
    cases hA : rs.all rangeOk with
    | false =>
      have E := hide (show listE rs = 2 by unfold listE; rw [d2, if_neg (by simp), if_pos hA])
      rw [hA] at R
      have R' := hide (R w h)
      clear R h hA d2
      go_enter Try.func93, Try.ntmps93
      go_wp2_with fail
      refine R'.out.mono ?_
      rintro e w1 ⟨rfl, hb1⟩
      go_wp2_with fail
      go_ret
      exact ⟨congrArg (fun x => Ending.returned (Value.int .i64 x)) E.out.symm, (by repeat (first | exact Below.refl _ _ | assumption | apply balloc | apply bdrew | (refine bset ?_ (by first | (simp; done) | omega | (simp; omega)) _) | (refine bnext ?_ (by assumption))))⟩
    | true =>
      have E := hide (show listE rs = 0 by unfold listE; rw [d2, if_neg (by simp), hA, if_neg (by simp)])
      rw [hA] at R
      have R' := hide (R w h)
      clear R h hA d2
      go_enter Try.func93, Try.ntmps93
      go_wp2_with fail
      refine R'.out.mono ?_
      rintro e w1 ⟨rfl, hb1⟩
      go_wp2_with fail
      go_ret
      exact ⟨congrArg (fun x => Ending.returned (Value.int .i64 x)) E.out.symm, (by repeat (first | exact Below.refl _ _ | assumption | apply balloc | apply bdrew | (refine bset ?_ (by first | (simp; done) | omega | (simp; omega)) _) | (refine bnext ?_ (by assumption))))⟩
end Go.Proofs.Ytckapcfofkeicaa
