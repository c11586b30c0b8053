/-
  Tables: the reference's Table.
-/
import Derived.Test.YtckapcfofkeicaaTbO
namespace Go.Proofs.Ytckapcfofkeicaa
set_option linter.unusedSimpArgs false
set_option linter.unusedVariables false
open Go.RowKit

theorem neg_max {x : Int} (h0 : -9223372036854775808 ≤ x) (h1 : x ≤ 9223372036854775807) : ∃ nx mx, IntKind.wrap .i64 (-x) = nx ∧ (if x < nx then nx else x) = mx ∧ (allIn 1000000000000 [x] = true ↔ ¬ 1000000000000 < mx ∧ ¬ x < -1000000000000) := by
  have ha : allIn 1000000000000 [x] = true ↔ -1000000000000 ≤ x ∧ x ≤ 1000000000000 := by simp [allIn]
  rcases Int.lt_or_le (-9223372036854775808) x with h | h
  · refine ⟨-x, _, IntWalk.i64_in _ (by omega), rfl, ?_⟩
    rw [ha]
    split <;> omega
  · obtain rfl : x = -9223372036854775808 := by omega
    refine ⟨-9223372036854775808, _, by decide, rfl, ?_⟩
    rw [ha]
    simp
theorem allIn_pair {m x y : Int} : allIn m [x, y] = (allIn m [x] && allIn m [y]) := by simp [allIn]
/-- Every number of a table is one of Go's. -/
def Wide (ks : List (Int × Int)) : Prop := ∀ i, i < ks.length → (-9223372036854775808 ≤ kX ks i ∧ kX ks i ≤ 9223372036854775807) ∧ -9223372036854775808 ≤ kY ks i ∧ kY ks i ≤ 9223372036854775807
/-- The tests of one knot. -/
theorem knot_tests {ks : List (Int × Int)} (hw : Wide ks) {k : Nat} (hk : k < ks.length) : ∃ nx mx ny my, (IntKind.wrap .i64 (-kX ks k) = nx ∧ (if kX ks k < nx then nx else kX ks k) = mx) ∧ (IntKind.wrap .i64 (-kY ks k) = ny ∧ (if kY ks k < ny then ny else kY ks k) = my) ∧
    (knotOk ks k = true ↔ ¬ 1000000000000 < mx ∧ ¬ 1000000000000 < my ∧ ¬ kX ks k < -1000000000000 ∧ ¬ kY ks k < -1000000000000 ∧ ¬ (0 < k ∧ kX ks k ≤ kX ks (k - 1))) := by
  obtain ⟨⟨a, b⟩, c, d⟩ := hw k hk
  obtain ⟨nx, mx, e1, e2, e3⟩ := neg_max a b
  obtain ⟨ny, my, f1, f2, f3⟩ := neg_max c d
  refine ⟨nx, mx, ny, my, ⟨e1, e2⟩, ⟨f1, f2⟩, ?_⟩
  have : knotOk ks k = (allIn 1000000000000 [kX ks k, kY ks k] && (decide (k = 0) || decide (kX ks (k - 1) < kX ks k))) := rfl
  rw [this, allIn_pair]
  simp only [Bool.and_eq_true, Bool.or_eq_true, decide_eq_true_eq, e3, f3]
  omega

set_option maxRecDepth 100000 in
set_option maxHeartbeats 6400000 in
theorem refTable_any (ks : List (Int × Int)) (a : Option Addr) (cap : Nat) (w : World) (hl : ks.length ≤ 8796093022208) (hw : Wide ks) (h : IsPairs w a ks) :
    Calls Try.prog 52 #[.slice a ks.length cap] w fun e w' => e = .returned (.bool (tabOk ks)) ∧ Below w.heap.size w w' := by
  have HD := hide h
  have HWd := hide hw
  clear h hw
  obtain ⟨T, hT⟩ : ∃ T, tabOk ks = T := ⟨_, rfl⟩
  rw [hT]
  have HT := hide hT
  clear hT
  go_enter Try.func52, Try.ntmps52
  go_wp2_with fail
  go_loopw [3] (fun i wr => ∃ k : Nat, k ≤ ks.length ∧ i = .int .i64 (k : Int) ∧ (List.range k).all (knotOk ks) = true ∧ Below w.heap.size w wr) (fun i _ => ks.length - (intOf i).toNat)
  case atStart => exact ⟨0, by omega, rfl, rfl, Below.refl _ _⟩
  case round =>
    obtain ⟨k, hk, rfl, hall, hbw⟩ := hrel
    have Hall := hide hall
    clear hall
    by_cases hlt : k < ks.length
    · obtain ⟨b, off, rfl, hc⟩ : ∃ b off, a = some ⟨b, off, none⟩ ∧ ∀ i, i < ks.length → wr.cell? ⟨b, off + i * 2, none⟩ = some (.int .i64 (kX ks i)) ∧ wr.cell? ⟨b, off + i * 2 + 1, none⟩ = some (.int .i64 (kY ks i)) := by
        rcases pairs_later HD.out hbw with h | h
        · subst h; simp at hlt
        · exact h
      obtain ⟨c1, c2⟩ := hc k hlt
      obtain ⟨c3, _⟩ := hc (k - 1) (by omega)
      have hblk : b < wr.heap.size := World.block_lt_of_cell? _ _ c1
      have S1 := hide fun (h : knotOk ks k = true) => range_step (f := knotOk ks) (k := k) Hall.out h
      have S2 := hide fun (h : knotOk ks k = false) => (show T = false by
        have r := range_stop (f := knotOk ks) hlt h
        rw [← HT.out]; unfold tabOk; rw [r]; simp)
      obtain ⟨nx, mx, ny, my, ⟨e1, e2⟩, ⟨f1, f2⟩, K⟩ := knot_tests HWd.out hlt
      clear hc Hall HT
      generalize knotOk ks k = kk at *
      generalize kX ks k = x at *
      generalize kY ks k = y at *
      generalize kX ks (k - 1) = xp at *
      have hk00 : 0 ≤ (k : Int) := by omega
      have hkl0 : (k : Int) < (ks.length : Int) := by omega
      have E1 := hide e1
      have E2 := hide e2
      have F1 := hide f1
      have F2 := hide f2
      have HK := hide K
      clear e1 e2 f1 f2 K
      have M1 := hide (show 0 < k → ((k : Int) - 1).toNat = k - 1 from fun _ => by omega)
      have M2 := hide (show 0 < k → 0 ≤ (k : Int) - 1 from fun _ => by omega)
      have M3 := hide (show (k : Int) - 1 < (ks.length : Int) by omega)
      have M4 := hide (show IntKind.wrap .i64 ((k : Int) - 1) = (k : Int) - 1 from IntWalk.i64_in _ (by omega))
      by_cases t1 : 1000000000000 < mx
      · have d1 : decide (1000000000000 < mx) = true := decide_eq_true t1
        have R := hide (S2.out (Bool.eq_false_iff.2 fun h => by have := HK.out.1 h; omega))
        go_wp2_with fail
        have e1 := E1.out
        have e2 := E2.out
        have f1 := F1.out
        have f2 := F2.out
        have m3 := M3.out
        have m4 := M4.out
        go_quiet (fail)
        go_wp2_with fail
        go_ret
        exact ⟨congrArg (fun b => Ending.returned (Value.bool b)) R.out.symm, below_drewN hbw _⟩
      · have d1 : decide (1000000000000 < mx) = false := decide_eq_false t1
        by_cases t2 : 1000000000000 < my
        · have d2 : decide (1000000000000 < my) = true := decide_eq_true t2
          have R := hide (S2.out (Bool.eq_false_iff.2 fun h => by have := HK.out.1 h; omega))
          go_wp2_with fail
          have e1 := E1.out
          have e2 := E2.out
          have f1 := F1.out
          have f2 := F2.out
          have m3 := M3.out
          have m4 := M4.out
          go_quiet (fail)
          go_wp2_with fail
          go_ret
          exact ⟨congrArg (fun b => Ending.returned (Value.bool b)) R.out.symm, below_drewN hbw _⟩
        · have d2 : decide (1000000000000 < my) = false := decide_eq_false t2
          by_cases t3 : x < -1000000000000
          · have d3 : decide (x < -1000000000000) = true := decide_eq_true t3
            have R := hide (S2.out (Bool.eq_false_iff.2 fun h => by have := HK.out.1 h; omega))
            go_wp2_with fail
            have e1 := E1.out
            have e2 := E2.out
            have f1 := F1.out
            have f2 := F2.out
            have m3 := M3.out
            have m4 := M4.out
            go_quiet (fail)
            go_wp2_with fail
            go_ret
            exact ⟨congrArg (fun b => Ending.returned (Value.bool b)) R.out.symm, below_drewN hbw _⟩
          · have d3 : decide (x < -1000000000000) = false := decide_eq_false t3
            by_cases t4 : y < -1000000000000
            · have d4 : decide (y < -1000000000000) = true := decide_eq_true t4
              have R := hide (S2.out (Bool.eq_false_iff.2 fun h => by have := HK.out.1 h; omega))
              go_wp2_with fail
              have e1 := E1.out
              have e2 := E2.out
              have f1 := F1.out
              have f2 := F2.out
              have m3 := M3.out
              have m4 := M4.out
              go_quiet (fail)
              go_wp2_with fail
              go_ret
              exact ⟨congrArg (fun b => Ending.returned (Value.bool b)) R.out.symm, below_drewN hbw _⟩
            · have d4 : decide (y < -1000000000000) = false := decide_eq_false t4
              by_cases t5 : 0 < k
              · have d5 : decide (0 < (k : Int)) = true := decide_eq_true (by omega)
                have M1 := hide (M1.out t5)
                have M2 := hide (M2.out t5)
                by_cases t6 : x ≤ xp
                · have d6 : decide (x ≤ xp) = true := decide_eq_true t6
                  have R := hide (S2.out (Bool.eq_false_iff.2 fun h => by have := HK.out.1 h; omega))
                  go_wp2_with fail
                  have e1 := E1.out
                  have e2 := E2.out
                  have f1 := F1.out
                  have f2 := F2.out
                  have m1 := M1.out
                  have m2 := M2.out
                  have m3 := M3.out
                  have m4 := M4.out
                  go_quiet (fail)
                  go_wp2_with fail
                  go_ret
                  exact ⟨congrArg (fun b => Ending.returned (Value.bool b)) R.out.symm, below_drewN hbw _⟩
                · have d6 : decide (x ≤ xp) = false := decide_eq_false t6
                  have R := hide (show kk = true from HK.out.2 ⟨t1, t2, t3, t4, fun h => t6 h.2⟩)
                  go_wp2_with fail
                  have e1 := E1.out
                  have e2 := E2.out
                  have f1 := F1.out
                  have f2 := F2.out
                  have m1 := M1.out
                  have m2 := M2.out
                  have m3 := M3.out
                  have m4 := M4.out
                  go_quiet (fail)
                  go_wp2_with fail
                  go_roundw
                  case rel => exact ⟨k + 1, by omega, by go_num, S1.out R.out, below_drewN hbw _⟩
                  case measure => simp [intOf]; omega
              · have d5 : decide (0 < (k : Int)) = false := decide_eq_false (by omega)
                have R := hide (show kk = true from HK.out.2 ⟨t1, t2, t3, t4, fun h => t5 h.1⟩)
                go_wp2_with fail
                have e1 := E1.out
                have e2 := E2.out
                have f1 := F1.out
                have f2 := F2.out
                have m3 := M3.out
                have m4 := M4.out
                go_quiet (fail)
                go_wp2_with fail
                go_roundw
                case rel => exact ⟨k + 1, by omega, by go_num, S1.out R.out, below_drewN hbw _⟩
                case measure => simp [intOf]; omega
    · obtain rfl : k = ks.length := by omega
      have e : T = (decide (2 ≤ ks.length) && decide (ks.length ≤ 60)) := by rw [← HT.out]; unfold tabOk; rw [Hall.out, Bool.and_true]
      have E := hide e
      clear e Hall HT
      by_cases h2 : 2 ≤ ks.length
      · have d1 : decide ((2 : Int) ≤ (ks.length : Int)) = true := decide_eq_true (by omega)
        by_cases h3 : ks.length ≤ 60
        · have d2 : decide ((ks.length : Int) ≤ 60) = true := decide_eq_true (by omega)
          go_wp2_with fail
          go_ret
          exact ⟨congrArg (fun b => Ending.returned (Value.bool b)) (show _ = T by rw [E.out, decide_eq_true h2, decide_eq_true h3]; rfl), hbw⟩
        · have d2 : decide ((ks.length : Int) ≤ 60) = false := decide_eq_false (by omega)
          go_wp2_with fail
          go_ret
          exact ⟨congrArg (fun b => Ending.returned (Value.bool b)) (show _ = T by rw [E.out, decide_eq_true h2, decide_eq_false h3]; rfl), hbw⟩
      · have d1 : decide ((2 : Int) ≤ (ks.length : Int)) = false := decide_eq_false (by omega)
        go_wp2_with fail
        go_ret
        exact ⟨congrArg (fun b => Ending.returned (Value.bool b)) (show _ = T by rw [E.out, decide_eq_false h2]; rfl), hbw⟩
end Go.Proofs.Ytckapcfofkeicaa
