/-
  Tables: copies of tables, CheckTable, the reference's At. Tables: the reference's Table. Tables: the reference's Value.
-/
import Derived.Test.YtimfbjnpalgmcaaGreatPrs
import Derived.Test.YtimfbjnpalgmcaaGreatPiece
import Derived.Test.YtimfbjnpalgmcaaGreatFrameC
import Derived.BigQuiet
import Derived.BigRegion
import Derived.Deep.RegionHeld3
namespace Go.Proofs.YtimfbjnpalgmcaaGreat
set_option linter.unusedSimpArgs false
set_option linter.unusedVariables false
open Go.RowKit

theorem knot_info : (Tryz.prog.info? 102).map (fun i => (i.zero, i.size, i.bytes)) = some (some (.agg #[.int .i64 0, .int .i64 0]), 2, 16) := by kernel_rfl
theorem refFlo_of {N c : Int} (c0 : 1 ≤ c) (h0 : -2000000000000 ≤ N / c) (h1 : N / c ≤ 2000000000000) : refFlo N c = (N / c, N % c, true) := by
  have e := Int.mul_ediv_add_emod N c
  have r0 := Int.emod_nonneg N (show c ≠ 0 by omega)
  have r1 := Int.emod_lt_of_pos N (show 0 < c by omega)
  have hm : max N (-N) / c ≤ 2000000000000000 := by
    have h2 : max N (-N) / c < 2000000000000001 := by
      apply Int.ediv_lt_of_lt_mul (by omega)
      have a := Int.mul_le_mul_of_nonneg_left h1 (show 0 ≤ c by omega)
      have b := Int.mul_le_mul_of_nonneg_left h0 (show 0 ≤ c by omega)
      omega
    omega
  unfold refFlo
  rw [if_pos hm]
/-- The integers of the pieces of a table. -/
theorem has_lt {ks : List (Int × Int)} (h : tabOk ks = true) {i k : Nat} {x : Int} (hx : Has ks i x) (hk : k + 1 < ks.length) (hlt : kX ks (k + 1) < x) : k + 1 + 1 < ks.length := by
  obtain ⟨a, b, c⟩ := hx
  rcases Nat.lt_or_ge (k + 1 + 1) ks.length with h2 | h2
  · exact h2
  · have := knot_le h (show i + 1 ≤ k + 1 by omega) (by omega)
    omega
set_option maxRecDepth 100000 in
set_option maxHeartbeats 3200000 in
theorem refAt_any (ks : List (Int × Int)) (a : Option Addr) (cap : Nat) (x : Int) (i0 : Nat) (w : World) (ht : tabOk ks = true) (hx : Has ks i0 x) (h : IsPairs w a ks) :
    Calls Tryz.prog 149 #[.slice a ks.length cap, .int .i64 x] w fun e w' => e = .returned (.tuple #[.int .i64 (dnQ ks i0 x), .int .i64 (upQx ks i0 x)]) ∧ Below w.heap.size w w' := by
  have len := len_of ht
  obtain ⟨l0, l1⟩ := len
  obtain ⟨b, off, rfl, hc⟩ : ∃ b off, a = some ⟨b, off, none⟩ ∧ ∀ i, i < ks.length → w.cell? ⟨b, off + i * 2, none⟩ = some (.int .i64 (kX ks i)) ∧ w.cell? ⟨b, off + i * 2 + 1, none⟩ = some (.int .i64 (kY ks i)) := by
    rcases h with h | h
    · subst h; simp at l0
    · exact h
  obtain ⟨D, hD⟩ : ∃ D, dnQ ks i0 x = D := ⟨_, rfl⟩
  obtain ⟨U, hU⟩ : ∃ U, upQx ks i0 x = U := ⟨_, rfl⟩
  rw [hD, hU]
  have HD := hide hD
  have HU := hide hU
  clear hD hU
  have HC := hide hc
  have HX := hide hx
  have HT := hide ht
  clear hc hx ht h
  go_enter Tryz.func149, Tryz.ntmps149
  go_wp2_with fail
  go_loop [6] (fun i => ∃ k : Nat, k + 1 < ks.length ∧ i = .int .i64 ((k : Int) + 1) ∧ (k = 0 ∨ kX ks k < x)) (fun i => ks.length - (intOf i).toNat)
  case atStart => exact ⟨0, by omega, rfl, .inl rfl⟩
  case round =>
    obtain ⟨k, hk, rfl, hkx⟩ := hrel
    have HKX := hide hkx
    clear hkx
    obtain ⟨c1, c2⟩ := HC.out (k + 1) hk
    obtain ⟨c3, c4⟩ := HC.out k (by omega)
    have K1 := knot_bounds HT.out hk
    have K0 := knot_bounds HT.out (show k < ks.length by omega)
    have KN := knot_next HT.out hk
    obtain ⟨⟨k1, k2⟩, k3, k4⟩ := K1
    obtain ⟨⟨k5, k6⟩, k7, k8⟩ := K0
    have hkn : ((k : Int) + 1).toNat = k + 1 := by omega
    have hk0 : 0 ≤ (k : Int) + 1 := by omega
    have hkl : (k : Int) + 1 < (ks.length : Int) := by omega
    have hkw : IntKind.wrap .i64 (k : Int) = (k : Int) := IntWalk.i64_in _ (by omega)
    have hk00 : 0 ≤ (k : Int) := by omega
    have hkl0 : (k : Int) < (ks.length : Int) := by omega
    by_cases hlt : kX ks (k + 1) < x
    · have h2 := has_lt HT.out HX.out hk hlt
      go_wp2_with fail
      go_round
      case rel => exact ⟨k + 1, h2, by go_num, .inr hlt⟩
      case measure => simp [intOf]; omega
    · have hxk : x ≤ kX ks (k + 1) := by omega
      have hxk0 : kX ks k ≤ x := by
        rcases HKX.out with rfl | h
        · have := knot_le HT.out (show 0 ≤ i0 by omega) (by have := HX.out.1; omega)
          have := HX.out.2.1
          omega
        · omega
      have S := dn_same HT.out hk HX.out.1 hxk0 hxk HX.out.2.1 HX.out.2.2
      have hd : D = dnQ ks k x := HD.out.symm.trans S.1.symm
      have hu : U = upQx ks k x := HU.out.symm.trans S.2.symm
      unfold dnQ at hd
      unfold upQx upV at hu
      clear S HC HX HKX HD HU HT
      generalize kX ks (k + 1) = X1 at *
      generalize kY ks (k + 1) = Y1 at *
      generalize kX ks k = X0 at *
      generalize kY ks k = Y0 at *
      have R := (rise_bounds (d := Y1 - Y0) (c := X1 - X0) (e := x - X0) (by omega) (by omega) (by omega) (by omega) (by omega)).1
      have F := fun W => refFloor_any (Y1 - Y0) (x - X0) (X1 - X0) W (by omega) (by omega) (by omega) (by omega) (by omega) (by omega)
      rw [refFlo_of (by omega) R.1 R.2] at F
      have r0 := Int.emod_nonneg ((Y1 - Y0) * (x - X0)) (show X1 - X0 ≠ 0 by omega)
      simp only at F
      generalize (Y1 - Y0) * (x - X0) / (X1 - X0) = q at *
      generalize (Y1 - Y0) * (x - X0) % (X1 - X0) = r at *
      have HF := hide F
      have HD := hide hd
      have HU := hide hu
      obtain ⟨q0, q1⟩ := R
      clear F hd hu
      have hblk : b < w.heap.size := World.block_lt_of_cell? _ _ c1
      go_upto_region 4 with fail
      go_cut [7, 8] from 9 (fun s7 s8 wx => ∃ m n : Nat, s7 = .pointer (some ⟨m, 0, none⟩) ∧ s8 = .pointer (some ⟨n, 0, none⟩) ∧ (wx.cell? ⟨m, 0, none⟩ = some (.int .i64 X0) ∧ wx.cell? ⟨m, 1, none⟩ = some (.int .i64 Y0)) ∧ (wx.cell? ⟨n, 0, none⟩ = some (.int .i64 X1) ∧ wx.cell? ⟨n, 1, none⟩ = some (.int .i64 Y1)) ∧ Below w.heap.size w wx)
      case first =>
        go_big_region
        all_goals
          go_wp2_with fail
          go_meet
          refine ⟨_, _, rfl, rfl, ⟨?_, ?_⟩, ⟨?_, ?_⟩, ?_⟩
          all_goals first | (simp [go_sem, World.cell?_alloc_past]; done) | (exact (by repeat (first | exact Below.refl _ _ | assumption | apply balloc | apply bdrew | (refine below_drewN ?_ _) | (refine bset ?_ (by first | (simp; done) | omega | (simp; omega)) _) | (refine bnext ?_ (by assumption)))))
      case rest =>
        obtain ⟨m, n, rfl, rfl, ⟨p0, p1⟩, ⟨n0, n1⟩, hbw⟩ := hcut
        go_wp2_with fail
        refine (HF.out _).mono ?_
        rintro e w1 ⟨rfl, hb1⟩
        have p1' := later hb1 p1
        have B1 := hide (bnext hbw hb1)
        clear p0 p1 n0 n1 hbw hb1 c1 c2 c3 c4
        have hw1 : IntKind.wrap .i64 (Y0 + q) = Y0 + q := IntWalk.i64_in _ (by omega)
        have hw2 : IntKind.wrap .i64 (Y0 + q + 1) = Y0 + q + 1 := IntWalk.i64_in _ (by omega)
        have HW1 := hide hw1
        have HW2 := hide hw2
        clear hw1 hw2
        by_cases hr : 0 < r
        · have e1 : U = Y0 + q + 1 := by have := HU.out; rw [if_pos hr] at this; omega
          have E1 := hide e1
          clear e1
          go_wp2_with fail
          have hw1 := HW1.out
          have hw2 := HW2.out
          go_quiet (fail)
          go_wp2_with fail
          go_ret2
          exact ⟨by rw [HD.out, E1.out]; rfl, below_drewN B1.out _⟩
        · have e1 : U = Y0 + q := by have := HU.out; rw [if_neg hr] at this; omega
          have E1 := hide e1
          clear e1
          go_wp2_with fail
          have hw1 := HW1.out
          go_quiet (fail)
          go_wp2_with fail
          go_ret2
          exact ⟨by rw [HD.out, E1.out]; rfl, below_drewN B1.out _⟩
end Go.Proofs.YtimfbjnpalgmcaaGreat

namespace Go.Proofs.YtimfbjnpalgmcaaGreat
set_option linter.unusedSimpArgs false
set_option linter.unusedVariables false
open Go.RowKit

theorem neg_max {x : Int} (h0 : -9223372036854775808 ≤ x) (h1 : x ≤ 9223372036854775807) : ∃ nx mx, IntKind.wrap .i64 (-x) = nx ∧ (if x < nx then nx else x) = mx ∧ (allIn 1000000000000 [x] = true ↔ ¬ 1000000000000 < mx ∧ ¬ x < -1000000000000) := by
  have ha : allIn 1000000000000 [x] = true ↔ -1000000000000 ≤ x ∧ x ≤ 1000000000000 := by simp [allIn]
  rcases Int.lt_or_le (-9223372036854775808) x with h | h
  · refine ⟨-x, _, IntWalk.i64_in _ (by omega), rfl, ?_⟩
    rw [ha]
    split <;> omega
  · obtain rfl : x = -9223372036854775808 := by omega
    refine ⟨-9223372036854775808, _, by decide, rfl, ?_⟩
    rw [ha]
    simp
theorem allIn_pair {m x y : Int} : allIn m [x, y] = (allIn m [x] && allIn m [y]) := by simp [allIn]
/-- Every number of a table is one of Go's. -/
def Wide (ks : List (Int × Int)) : Prop := ∀ i, i < ks.length → (-9223372036854775808 ≤ kX ks i ∧ kX ks i ≤ 9223372036854775807) ∧ -9223372036854775808 ≤ kY ks i ∧ kY ks i ≤ 9223372036854775807
/-- The tests of one knot. -/
theorem knot_tests {ks : List (Int × Int)} (hw : Wide ks) {k : Nat} (hk : k < ks.length) : ∃ nx mx ny my, (IntKind.wrap .i64 (-kX ks k) = nx ∧ (if kX ks k < nx then nx else kX ks k) = mx) ∧ (IntKind.wrap .i64 (-kY ks k) = ny ∧ (if kY ks k < ny then ny else kY ks k) = my) ∧
    (knotOk ks k = true ↔ ¬ 1000000000000 < mx ∧ ¬ 1000000000000 < my ∧ ¬ kX ks k < -1000000000000 ∧ ¬ kY ks k < -1000000000000 ∧ ¬ (0 < k ∧ kX ks k ≤ kX ks (k - 1))) := by
  obtain ⟨⟨a, b⟩, c, d⟩ := hw k hk
  obtain ⟨nx, mx, e1, e2, e3⟩ := neg_max a b
  obtain ⟨ny, my, f1, f2, f3⟩ := neg_max c d
  refine ⟨nx, mx, ny, my, ⟨e1, e2⟩, ⟨f1, f2⟩, ?_⟩
  have : knotOk ks k = (allIn 1000000000000 [kX ks k, kY ks k] && (decide (k = 0) || decide (kX ks (k - 1) < kX ks k))) := rfl
  rw [this, allIn_pair]
  simp only [Bool.and_eq_true, Bool.or_eq_true, decide_eq_true_eq, e3, f3]
  omega

set_option maxRecDepth 100000 in
set_option maxHeartbeats 6400000 in
theorem refTable_any (ks : List (Int × Int)) (a : Option Addr) (cap : Nat) (w : World) (hl : ks.length ≤ 8796093022208) (hw : Wide ks) (h : IsPairs w a ks) :
    Calls Tryz.prog 75 #[.slice a ks.length cap] w fun e w' => e = .returned (.bool (tabOk ks)) ∧ Below w.heap.size w w' := by
  have HD := hide h
  have HWd := hide hw
  clear h hw
  obtain ⟨T, hT⟩ : ∃ T, tabOk ks = T := ⟨_, rfl⟩
  rw [hT]
  have HT := hide hT
  clear hT
  go_enter Tryz.func75, Tryz.ntmps75
  go_wp2_with fail
  go_loopw [3] (fun i wr => ∃ k : Nat, k ≤ ks.length ∧ i = .int .i64 (k : Int) ∧ (List.range k).all (knotOk ks) = true ∧ Below w.heap.size w wr) (fun i _ => ks.length - (intOf i).toNat)
  case atStart => exact ⟨0, by omega, rfl, rfl, Below.refl _ _⟩
  case round =>
    obtain ⟨k, hk, rfl, hall, hbw⟩ := hrel
    have Hall := hide hall
    clear hall
    by_cases hlt : k < ks.length
    · obtain ⟨b, off, rfl, hc⟩ : ∃ b off, a = some ⟨b, off, none⟩ ∧ ∀ i, i < ks.length → wr.cell? ⟨b, off + i * 2, none⟩ = some (.int .i64 (kX ks i)) ∧ wr.cell? ⟨b, off + i * 2 + 1, none⟩ = some (.int .i64 (kY ks i)) := by
        rcases pairs_later HD.out hbw with h | h
        · subst h; simp at hlt
        · exact h
      obtain ⟨c1, c2⟩ := hc k hlt
      obtain ⟨c3, _⟩ := hc (k - 1) (by omega)
      have hblk : b < wr.heap.size := World.block_lt_of_cell? _ _ c1
      have S1 := hide fun (h : knotOk ks k = true) => range_step (f := knotOk ks) (k := k) Hall.out h
      have S2 := hide fun (h : knotOk ks k = false) => (show T = false by
        have r := range_stop (f := knotOk ks) hlt h
        rw [← HT.out]; unfold tabOk; rw [r]; simp)
      obtain ⟨nx, mx, ny, my, ⟨e1, e2⟩, ⟨f1, f2⟩, K⟩ := knot_tests HWd.out hlt
      clear hc Hall HT
      generalize knotOk ks k = kk at *
      generalize kX ks k = x at *
      generalize kY ks k = y at *
      generalize kX ks (k - 1) = xp at *
      have hk00 : 0 ≤ (k : Int) := by omega
      have hkl0 : (k : Int) < (ks.length : Int) := by omega
      have E1 := hide e1
      have E2 := hide e2
      have F1 := hide f1
      have F2 := hide f2
      have HK := hide K
      clear e1 e2 f1 f2 K
      have M1 := hide (show 0 < k → ((k : Int) - 1).toNat = k - 1 from fun _ => by omega)
      have M2 := hide (show 0 < k → 0 ≤ (k : Int) - 1 from fun _ => by omega)
      have M3 := hide (show (k : Int) - 1 < (ks.length : Int) by omega)
      have M4 := hide (show IntKind.wrap .i64 ((k : Int) - 1) = (k : Int) - 1 from IntWalk.i64_in _ (by omega))
      by_cases t1 : 1000000000000 < mx
      · have d1 : decide (1000000000000 < mx) = true := decide_eq_true t1
        have R := hide (S2.out (Bool.eq_false_iff.2 fun h => by have := HK.out.1 h; omega))
        go_wp2_with fail
        have e1 := E1.out
        have e2 := E2.out
        have f1 := F1.out
        have f2 := F2.out
        have m3 := M3.out
        have m4 := M4.out
        go_quiet (fail)
        go_wp2_with fail
        go_ret
        exact ⟨congrArg (fun b => Ending.returned (Value.bool b)) R.out.symm, below_drewN hbw _⟩
      · have d1 : decide (1000000000000 < mx) = false := decide_eq_false t1
        by_cases t2 : 1000000000000 < my
        · have d2 : decide (1000000000000 < my) = true := decide_eq_true t2
          have R := hide (S2.out (Bool.eq_false_iff.2 fun h => by have := HK.out.1 h; omega))
          go_wp2_with fail
          have e1 := E1.out
          have e2 := E2.out
          have f1 := F1.out
          have f2 := F2.out
          have m3 := M3.out
          have m4 := M4.out
          go_quiet (fail)
          go_wp2_with fail
          go_ret
          exact ⟨congrArg (fun b => Ending.returned (Value.bool b)) R.out.symm, below_drewN hbw _⟩
        · have d2 : decide (1000000000000 < my) = false := decide_eq_false t2
          by_cases t3 : x < -1000000000000
          · have d3 : decide (x < -1000000000000) = true := decide_eq_true t3
            have R := hide (S2.out (Bool.eq_false_iff.2 fun h => by have := HK.out.1 h; omega))
            go_wp2_with fail
            have e1 := E1.out
            have e2 := E2.out
            have f1 := F1.out
            have f2 := F2.out
            have m3 := M3.out
            have m4 := M4.out
            go_quiet (fail)
            go_wp2_with fail
            go_ret
            exact ⟨congrArg (fun b => Ending.returned (Value.bool b)) R.out.symm, below_drewN hbw _⟩
          · have d3 : decide (x < -1000000000000) = false := decide_eq_false t3
            by_cases t4 : y < -1000000000000
            · have d4 : decide (y < -1000000000000) = true := decide_eq_true t4
              have R := hide (S2.out (Bool.eq_false_iff.2 fun h => by have := HK.out.1 h; omega))
              go_wp2_with fail
              have e1 := E1.out
              have e2 := E2.out
              have f1 := F1.out
              have f2 := F2.out
              have m3 := M3.out
              have m4 := M4.out
              go_quiet (fail)
              go_wp2_with fail
              go_ret
              exact ⟨congrArg (fun b => Ending.returned (Value.bool b)) R.out.symm, below_drewN hbw _⟩
            · have d4 : decide (y < -1000000000000) = false := decide_eq_false t4
              by_cases t5 : 0 < k
              · have d5 : decide (0 < (k : Int)) = true := decide_eq_true (by omega)
                have M1 := hide (M1.out t5)
                have M2 := hide (M2.out t5)
                by_cases t6 : x ≤ xp
                · have d6 : decide (x ≤ xp) = true := decide_eq_true t6
                  have R := hide (S2.out (Bool.eq_false_iff.2 fun h => by have := HK.out.1 h; omega))
                  go_wp2_with fail
                  have e1 := E1.out
                  have e2 := E2.out
                  have f1 := F1.out
                  have f2 := F2.out
                  have m1 := M1.out
                  have m2 := M2.out
                  have m3 := M3.out
                  have m4 := M4.out
                  go_quiet (fail)
                  go_wp2_with fail
                  go_ret
                  exact ⟨congrArg (fun b => Ending.returned (Value.bool b)) R.out.symm, below_drewN hbw _⟩
                · have d6 : decide (x ≤ xp) = false := decide_eq_false t6
                  have R := hide (show kk = true from HK.out.2 ⟨t1, t2, t3, t4, fun h => t6 h.2⟩)
                  go_wp2_with fail
                  have e1 := E1.out
                  have e2 := E2.out
                  have f1 := F1.out
                  have f2 := F2.out
                  have m1 := M1.out
                  have m2 := M2.out
                  have m3 := M3.out
                  have m4 := M4.out
                  go_quiet (fail)
                  go_wp2_with fail
                  go_roundw
                  case rel => exact ⟨k + 1, by omega, by go_num, S1.out R.out, below_drewN hbw _⟩
                  case measure => simp [intOf]; omega
              · have d5 : decide (0 < (k : Int)) = false := decide_eq_false (by omega)
                have R := hide (show kk = true from HK.out.2 ⟨t1, t2, t3, t4, fun h => t5 h.1⟩)
                go_wp2_with fail
                have e1 := E1.out
                have e2 := E2.out
                have f1 := F1.out
                have f2 := F2.out
                have m3 := M3.out
                have m4 := M4.out
                go_quiet (fail)
                go_wp2_with fail
                go_roundw
                case rel => exact ⟨k + 1, by omega, by go_num, S1.out R.out, below_drewN hbw _⟩
                case measure => simp [intOf]; omega
    · obtain rfl : k = ks.length := by omega
      have e : T = (decide (2 ≤ ks.length) && decide (ks.length ≤ 60)) := by rw [← HT.out]; unfold tabOk; rw [Hall.out, Bool.and_true]
      have E := hide e
      clear e Hall HT
      by_cases h2 : 2 ≤ ks.length
      · have d1 : decide ((2 : Int) ≤ (ks.length : Int)) = true := decide_eq_true (by omega)
        by_cases h3 : ks.length ≤ 60
        · have d2 : decide ((ks.length : Int) ≤ 60) = true := decide_eq_true (by omega)
          go_wp2_with fail
          go_ret
          exact ⟨congrArg (fun b => Ending.returned (Value.bool b)) (show _ = T by rw [E.out, decide_eq_true h2, decide_eq_true h3]; rfl), hbw⟩
        · have d2 : decide ((ks.length : Int) ≤ 60) = false := decide_eq_false (by omega)
          go_wp2_with fail
          go_ret
          exact ⟨congrArg (fun b => Ending.returned (Value.bool b)) (show _ = T by rw [E.out, decide_eq_true h2, decide_eq_false h3]; rfl), hbw⟩
      · have d1 : decide ((2 : Int) ≤ (ks.length : Int)) = false := decide_eq_false (by omega)
        go_wp2_with fail
        go_ret
        exact ⟨congrArg (fun b => Ending.returned (Value.bool b)) (show _ = T by rw [E.out, decide_eq_false h2]; rfl), hbw⟩
end Go.Proofs.YtimfbjnpalgmcaaGreat

namespace Go.Proofs.YtimfbjnpalgmcaaGreat
set_option linter.unusedSimpArgs false
set_option linter.unusedVariables false
open Go.RowKit

/-- What a call that refuses returns. -/
def TbP (x y E : Int) (w : World) (e : Ending) (w' : World) : Prop := e = .returned (.tuple #[.agg #[.int .i64 x, .int .i64 y], .int .i64 E]) ∧ Below w.heap.size w w'
def TbC (ks : List (Int × Int)) (T : Bool) : Prop := ∀ a cap W, IsPairs W a ks → Calls Tryz.prog 75 #[.slice a ks.length cap] W fun e w' => e = .returned (.bool T) ∧ Below W.heap.size W w'
def RgC (lo hi : Int) (k : Bool) : Prop := ∀ W, Calls Tryz.prog 148 #[.agg #[.int .i64 lo, .int .i64 hi]] W fun e w' => e = .returned (.bool k) ∧ Below W.heap.size W w'
def AtC (ks : List (Int × Int)) (x d u : Int) : Prop := ∀ a cap W, IsPairs W a ks → Calls Tryz.prog 149 #[.slice a ks.length cap, .int .i64 x] W fun e w' => e = .returned (.tuple #[.int .i64 d, .int .i64 u]) ∧ Below W.heap.size W w'

set_option maxRecDepth 100000 in
set_option maxHeartbeats 3200000 in
theorem refValue_bad (ks : List (Int × Int)) (a : Option Addr) (cap : Nat) (lo hi : Int) (T k : Bool) (w : World) (hT : Hid (TbC ks T)) (hR : Hid (RgC lo hi k)) (hc : T = false ∨ (T = true ∧ k = false)) (h : Hid (IsPairs w a ks)) :
    Calls Tryz.prog 122 #[.slice a ks.length cap, .agg #[.int .i64 lo, .int .i64 hi]] w fun e w' => TbP 0 0 2 w e w' := by
  rcases hc with rfl | ⟨rfl, rfl⟩
  · go_enter Tryz.func122, Tryz.ntmps122
    go_wp2_with fail
    refine (hT.out _ _ _ (pairs_later h.out (by repeat (first | exact Below.refl _ _ | assumption | apply balloc | apply bdrew | (refine below_drewN ?_ _) | (refine bset ?_ (by first | (simp; done) | omega | (simp; omega)) _) | (refine bnext ?_ (by assumption)))))).mono ?_
    rintro e w1 ⟨rfl, hb1⟩
    have c4 := later hb1 (a := ⟨w.heap.size + 1, 0, none⟩) (v := .int .i64 0) (by simp [go_sem, World.cell?_alloc_past])
    have c5 := later hb1 (a := ⟨w.heap.size + 1, 1, none⟩) (v := .int .i64 0) (by simp [go_sem, World.cell?_alloc_past])
    have f4 := free_later hb1 (a := ⟨w.heap.size + 1, 0, none⟩) (v := .int .i64 0) (by simp [go_sem, World.cell?_alloc_past]) (by simp [go_sem, World.cell?_alloc_past])
    have f5 := free_later hb1 (a := ⟨w.heap.size + 1, 1, none⟩) (v := .int .i64 0) (by simp [go_sem, World.cell?_alloc_past]) (by simp [go_sem, World.cell?_alloc_past])
    go_wp2_with fail
    have yy := two_set (x := .int .i64 0) (y := .int .i64 0) c4 c5
    exact bodyPost_ret (v := .tuple #[.agg #[.int .i64 0, .int .i64 0], .int .i64 2]) (by simp [results, Tryz.results122, go_sem, yy.1, yy.2, c4, c5]) rfl ⟨rfl, (by repeat (first | exact Below.refl _ _ | assumption | apply balloc | apply bdrew | (refine below_drewN ?_ _) | (refine bset ?_ (by first | (simp; done) | omega | (simp; omega)) _) | (refine bnext ?_ (by assumption))))⟩
  · go_enter Tryz.func122, Tryz.ntmps122
    go_wp2_with fail
    refine (hT.out _ _ _ (pairs_later h.out (by repeat (first | exact Below.refl _ _ | assumption | apply balloc | apply bdrew | (refine below_drewN ?_ _) | (refine bset ?_ (by first | (simp; done) | omega | (simp; omega)) _) | (refine bnext ?_ (by assumption)))))).mono ?_
    rintro e w1 ⟨rfl, hb1⟩
    have c0 := later hb1 (a := ⟨w.heap.size, 0, none⟩) (v := .int .i64 lo) (by simp [go_sem, World.cell?_alloc_past])
    have c1 := later hb1 (a := ⟨w.heap.size, 1, none⟩) (v := .int .i64 hi) (by simp [go_sem, World.cell?_alloc_past])
    have C4 := hide (show CF w1 ⟨w.heap.size + 1, 0, none⟩ (.int .i64 0) from ⟨later hb1 (a := ⟨w.heap.size + 1, 0, none⟩) (v := .int .i64 0) (by simp [go_sem, World.cell?_alloc_past]), free_later hb1 (a := ⟨w.heap.size + 1, 0, none⟩) (v := .int .i64 0) (by simp [go_sem, World.cell?_alloc_past]) (by simp [go_sem, World.cell?_alloc_past])⟩)
    have C5 := hide (show CF w1 ⟨w.heap.size + 1, 1, none⟩ (.int .i64 0) from ⟨later hb1 (a := ⟨w.heap.size + 1, 1, none⟩) (v := .int .i64 0) (by simp [go_sem, World.cell?_alloc_past]), free_later hb1 (a := ⟨w.heap.size + 1, 1, none⟩) (v := .int .i64 0) (by simp [go_sem, World.cell?_alloc_past]) (by simp [go_sem, World.cell?_alloc_past])⟩)
    go_wp2_with fail
    refine (hR.out _).mono ?_
    rintro e w2 ⟨rfl, hb2⟩
    obtain ⟨c4, f4⟩ := cf_later hb2 C4.out
    obtain ⟨c5, f5⟩ := cf_later hb2 C5.out
    clear c0 c1
    go_wp2_with fail
    have yy := two_set (x := .int .i64 0) (y := .int .i64 0) c4 c5
    exact bodyPost_ret (v := .tuple #[.agg #[.int .i64 0, .int .i64 0], .int .i64 2]) (by simp [results, Tryz.results122, go_sem, yy.1, yy.2, c4, c5]) rfl ⟨rfl, (by repeat (first | exact Below.refl _ _ | assumption | apply balloc | apply bdrew | (refine below_drewN ?_ _) | (refine bset ?_ (by first | (simp; done) | omega | (simp; omega)) _) | (refine bnext ?_ (by assumption))))⟩
set_option maxRecDepth 100000 in
set_option maxHeartbeats 3200000 in
theorem refValue_far (ks : List (Int × Int)) (a : Option Addr) (cap : Nat) (lo hi : Int) (w : World) (hT : Hid (TbC ks true)) (hR : Hid (RgC lo hi true)) (l0 : 2 ≤ ks.length) (l1 : ks.length ≤ 60) (hf : decide (lo < kX ks 0) = true ∨ (decide (lo < kX ks 0) = false ∧ decide (kX ks (ks.length - 1) < hi) = true)) (h : Hid (IsPairs w a ks)) :
    Calls Tryz.prog 122 #[.slice a ks.length cap, .agg #[.int .i64 lo, .int .i64 hi]] w fun e w' => TbP 0 0 7 w e w' := by
  go_enter Tryz.func122, Tryz.ntmps122
  go_wp2_with fail
  refine (hT.out _ _ _ (pairs_later h.out (by repeat (first | exact Below.refl _ _ | assumption | apply balloc | apply bdrew | (refine below_drewN ?_ _) | (refine bset ?_ (by first | (simp; done) | omega | (simp; omega)) _) | (refine bnext ?_ (by assumption)))))).mono ?_
  rintro e w1 ⟨rfl, hb1⟩
  have c0 := later hb1 (a := ⟨w.heap.size, 0, none⟩) (v := .int .i64 lo) (by simp [go_sem, World.cell?_alloc_past])
  have c1 := later hb1 (a := ⟨w.heap.size, 1, none⟩) (v := .int .i64 hi) (by simp [go_sem, World.cell?_alloc_past])
  have C4 := hide (show CF w1 ⟨w.heap.size + 1, 0, none⟩ (.int .i64 0) from ⟨later hb1 (a := ⟨w.heap.size + 1, 0, none⟩) (v := .int .i64 0) (by simp [go_sem, World.cell?_alloc_past]), free_later hb1 (a := ⟨w.heap.size + 1, 0, none⟩) (v := .int .i64 0) (by simp [go_sem, World.cell?_alloc_past]) (by simp [go_sem, World.cell?_alloc_past])⟩)
  have C5 := hide (show CF w1 ⟨w.heap.size + 1, 1, none⟩ (.int .i64 0) from ⟨later hb1 (a := ⟨w.heap.size + 1, 1, none⟩) (v := .int .i64 0) (by simp [go_sem, World.cell?_alloc_past]), free_later hb1 (a := ⟨w.heap.size + 1, 1, none⟩) (v := .int .i64 0) (by simp [go_sem, World.cell?_alloc_past]) (by simp [go_sem, World.cell?_alloc_past])⟩)
  have B1 := hide (show Below w.heap.size w w1 from (by repeat (first | exact Below.refl _ _ | assumption | apply balloc | apply bdrew | (refine below_drewN ?_ _) | (refine bset ?_ (by first | (simp; done) | omega | (simp; omega)) _) | (refine bnext ?_ (by assumption)))))
  clear hb1
  go_wp2_with fail
  refine (hR.out _).mono ?_
  rintro e w2 ⟨rfl, hb2⟩
  have D4 := hide (cf_later hb2 C4.out)
  have D5 := hide (cf_later hb2 C5.out)
  have d0 := later hb2 c0
  have d1 := later hb2 c1
  have B2 := hide (bnext B1.out hb2)
  clear c0 c1 C4 C5 B1 hb2
  obtain ⟨b, off, rfl, hc⟩ : ∃ b off, a = some ⟨b, off, none⟩ ∧ ∀ i, i < ks.length → w2.cell? ⟨b, off + i * 2, none⟩ = some (.int .i64 (kX ks i)) ∧ w2.cell? ⟨b, off + i * 2 + 1, none⟩ = some (.int .i64 (kY ks i)) := by
    rcases pairs_later h.out B2.out with h | h
    · subst h; simp at l0
    · exact h
  have HC := hide hc
  have x0 := (HC.out 0 (by omega)).1
  rw [Nat.zero_mul, Nat.add_zero] at x0
  have xl := (HC.out (ks.length - 1) (by omega)).1
  clear hc
  have hp0 : (0 : Int) < (ks.length : Int) := by omega
  have hp1 : 0 < ks.length := by omega
  have hl0 : ((ks.length : Int) - 1).toNat = ks.length - 1 := by omega
  have hl1 : 0 ≤ (ks.length : Int) - 1 := by omega
  have hl2 : (ks.length : Int) - 1 < (ks.length : Int) := by omega
  have hlw : IntKind.wrap .i64 ((ks.length : Int) - 1) = (ks.length : Int) - 1 := IntWalk.i64_in _ (by omega)
  generalize kX ks 0 = X0 at *
  generalize kX ks (ks.length - 1) = XL at *
  rcases hf with g1 | ⟨g1, g2⟩
  all_goals
    go_wp2_with fail
    go_quiet (fail)
    obtain ⟨c4, f4⟩ := D4.out
    obtain ⟨c5, f5⟩ := D5.out
    have B2' := B2.out
    go_wp2_with fail
    have yy := two_set (x := .int .i64 0) (y := .int .i64 0) c4 c5
    exact bodyPost_ret (v := .tuple #[.agg #[.int .i64 0, .int .i64 0], .int .i64 7]) (by simp [results, Tryz.results122, go_sem, yy.1, yy.2, c4, c5]) rfl ⟨rfl, bset (bset (below_drewN B2' _) (by simp) _) (by simp) _⟩

set_option maxRecDepth 100000 in
set_option maxHeartbeats 3200000 in
theorem refValue_good (ks : List (Int × Int)) (a : Option Addr) (cap : Nat) (lo hi d1x u1x d2x u2x : Int) (w : World) (hT : Hid (TbC ks true)) (hR : Hid (RgC lo hi true)) (l0 : 2 ≤ ks.length) (l1 : ks.length ≤ 60) (g1 : decide (lo < kX ks 0) = false) (g2 : decide (kX ks (ks.length - 1) < hi) = false)
    (A1 : Hid (AtC ks lo d1x u1x)) (A2 : Hid (AtC ks hi d2x u2x)) (h : Hid (IsPairs w a ks)) :
    Calls Tryz.prog 122 #[.slice a ks.length cap, .agg #[.int .i64 lo, .int .i64 hi]] w fun e w' => TbP (rLo ks lo hi (min d1x d2x) ks.length) (rHi ks lo hi (max u1x u2x) ks.length) 0 w e w' := by
  obtain ⟨RL, hRL⟩ : ∃ x, rLo ks lo hi (min d1x d2x) ks.length = x := ⟨_, rfl⟩
  obtain ⟨RH, hRH⟩ : ∃ x, rHi ks lo hi (max u1x u2x) ks.length = x := ⟨_, rfl⟩
  rw [hRL, hRH]
  have HRL := hide hRL
  have HRH := hide hRH
  clear hRL hRH
  go_enter Tryz.func122, Tryz.ntmps122
  go_wp2_with fail
  refine (hT.out _ _ _ (pairs_later h.out (by repeat (first | exact Below.refl _ _ | assumption | apply balloc | apply bdrew | (refine below_drewN ?_ _) | (refine bset ?_ (by first | (simp; done) | omega | (simp; omega)) _) | (refine bnext ?_ (by assumption)))))).mono ?_
  rintro e w1 ⟨rfl, hb1⟩
  have c0 := later hb1 (a := ⟨w.heap.size, 0, none⟩) (v := .int .i64 lo) (by simp [go_sem, World.cell?_alloc_past])
  have c1 := later hb1 (a := ⟨w.heap.size, 1, none⟩) (v := .int .i64 hi) (by simp [go_sem, World.cell?_alloc_past])
  have C4 := hide (show CF w1 ⟨w.heap.size + 1, 0, none⟩ (.int .i64 0) from ⟨later hb1 (a := ⟨w.heap.size + 1, 0, none⟩) (v := .int .i64 0) (by simp [go_sem, World.cell?_alloc_past]), free_later hb1 (a := ⟨w.heap.size + 1, 0, none⟩) (v := .int .i64 0) (by simp [go_sem, World.cell?_alloc_past]) (by simp [go_sem, World.cell?_alloc_past])⟩)
  have C5 := hide (show CF w1 ⟨w.heap.size + 1, 1, none⟩ (.int .i64 0) from ⟨later hb1 (a := ⟨w.heap.size + 1, 1, none⟩) (v := .int .i64 0) (by simp [go_sem, World.cell?_alloc_past]), free_later hb1 (a := ⟨w.heap.size + 1, 1, none⟩) (v := .int .i64 0) (by simp [go_sem, World.cell?_alloc_past]) (by simp [go_sem, World.cell?_alloc_past])⟩)
  have B1 := hide (show Below w.heap.size w w1 from (by repeat (first | exact Below.refl _ _ | assumption | apply balloc | apply bdrew | (refine below_drewN ?_ _) | (refine bset ?_ (by first | (simp; done) | omega | (simp; omega)) _) | (refine bnext ?_ (by assumption)))))
  clear hb1
  go_wp2_with fail
  refine (hR.out _).mono ?_
  rintro e w2 ⟨rfl, hb2⟩
  have D4 := hide (cf_later hb2 C4.out)
  have D5 := hide (cf_later hb2 C5.out)
  have d0 := later hb2 c0
  have d1 := later hb2 c1
  have B2 := hide (bnext B1.out hb2)
  clear c0 c1 C4 C5 B1 hb2
  obtain ⟨b, off, rfl, hc⟩ : ∃ b off, a = some ⟨b, off, none⟩ ∧ ∀ i, i < ks.length → w2.cell? ⟨b, off + i * 2, none⟩ = some (.int .i64 (kX ks i)) ∧ w2.cell? ⟨b, off + i * 2 + 1, none⟩ = some (.int .i64 (kY ks i)) := by
    rcases pairs_later h.out B2.out with h | h
    · subst h; simp at l0
    · exact h
  have HC := hide hc
  have x0 := (HC.out 0 (by omega)).1
  rw [Nat.zero_mul, Nat.add_zero] at x0
  have xl := (HC.out (ks.length - 1) (by omega)).1
  clear hc
  have hp0 : (0 : Int) < (ks.length : Int) := by omega
  have hp1 : 0 < ks.length := by omega
  have hl0 : ((ks.length : Int) - 1).toNat = ks.length - 1 := by omega
  have hl1 : 0 ≤ (ks.length : Int) - 1 := by omega
  have hl2 : (ks.length : Int) - 1 < (ks.length : Int) := by omega
  have hlw : IntKind.wrap .i64 ((ks.length : Int) - 1) = (ks.length : Int) - 1 := IntWalk.i64_in _ (by omega)
  have G1 := hide g1
  have G2 := hide g2
  generalize hX0 : kX ks 0 = X0 at *
  generalize hXL : kX ks (ks.length - 1) = XL at *
  have g1 := G1.out
  have g2 := G2.out
  clear hX0 hXL
  go_wp2_with fail
  go_quiet (fail)
  have I2 := hide (pairs_later h.out (below_drewN B2.out nq))
  clear x0 xl
  go_wp2_with fail
  refine (A1.out _ _ _ I2.out).mono ?_
  rintro e w3 ⟨rfl, hb3⟩
  have p0 := later hb3 d0
  have p1 := later hb3 d1
  have E4 := hide (cf_later hb3 D4.out)
  have E5 := hide (cf_later hb3 D5.out)
  have I3 := hide (pairs_later I2.out hb3)
  have B3 := hide (bnext (below_drewN B2.out nq) hb3)
  have B23 := hide (bnext (below_drewN (Below.refl w2.heap.size w2) nq) hb3)
  clear d0 d1 hb3
  go_wp2_with fail
  refine (A2.out _ _ _ I3.out).mono ?_
  rintro e w4 ⟨rfl, hb4⟩
  have d0 := later hb4 p0
  have d1 := later hb4 p1
  have F4 := hide (cf_later hb4 E4.out)
  have F5 := hide (cf_later hb4 E5.out)
  have I4 := hide (pairs_later I3.out hb4)
  have B4 := hide (bnext B3.out hb4)
  have HC4 := hide (fun i hi => (show w4.cell? ⟨b, off + i * 2, none⟩ = some (.int .i64 (kX ks i)) ∧ w4.cell? ⟨b, off + i * 2 + 1, none⟩ = some (.int .i64 (kY ks i)) from ⟨later (bnext B23.out hb4) (HC.out i hi).1, later (bnext B23.out hb4) (HC.out i hi).2⟩))
  clear p0 p1 hb4
  have hm1 : (if d2x < d1x then d2x else d1x) = min d1x d2x := by split <;> omega
  have hm2 : (if d1x < d2x then d1x else d2x) = min d1x d2x := by split <;> omega
  have hm3 : (if u1x < u2x then u2x else u1x) = max u1x u2x := by split <;> omega
  have hm4 : (if u2x < u1x then u1x else u2x) = max u1x u2x := by split <;> omega
  go_wp2_with fail
  clear hm1 hm2 hm3 hm4 hp0 hl0 hl1 hl2 hlw g1 g2
  go_loopw [6, 7, 10] (fun l u i wr => ∃ k : Nat, k ≤ ks.length ∧ i = .int .i64 (k : Int) ∧ l = .int .i64 (rLo ks lo hi (min d1x d2x) k) ∧ u = .int .i64 (rHi ks lo hi (max u1x u2x) k) ∧ Below w4.heap.size w4 wr) (fun _ _ i _ => ks.length - (intOf i).toNat)
  case atStart => exact ⟨0, by omega, rfl, rfl, rfl, Below.refl _ _⟩
  case round =>
    obtain ⟨k, hk, rfl, rfl, rfl, hbw⟩ := hrel
    by_cases hlt : k < ks.length
    · have c1 := later hbw (HC4.out k hlt).1
      have c2 := later hbw (HC4.out k hlt).2
      have p0 := later hbw d0
      have p1 := later hbw d1
      have s1 : rLo ks lo hi (min d1x d2x) (k + 1) = if lo < kX ks k ∧ kX ks k < hi then min (rLo ks lo hi (min d1x d2x) k) (kY ks k) else rLo ks lo hi (min d1x d2x) k := rfl
      have s2 : rHi ks lo hi (max u1x u2x) (k + 1) = if lo < kX ks k ∧ kX ks k < hi then max (rHi ks lo hi (max u1x u2x) k) (kY ks k) else rHi ks lo hi (max u1x u2x) k := rfl
      have hk00 : 0 ≤ (k : Int) := by omega
      have hkl0 : (k : Int) < (ks.length : Int) := by omega
      have S1 := hide s1
      have S2 := hide s2
      clear s1 s2
      generalize rLo ks lo hi (min d1x d2x) k = l at *
      generalize rHi ks lo hi (max u1x u2x) k = u at *
      generalize kX ks k = x at *
      generalize kY ks k = y at *
      by_cases q1 : lo < x
      · have t1 : decide (lo < x) = true := decide_eq_true q1
        by_cases q2 : x < hi
        · have t2 : decide (x < hi) = true := decide_eq_true q2
          have E1 := hide (show rLo ks lo hi (min d1x d2x) (k + 1) = min l y by rw [S1.out, if_pos ⟨q1, q2⟩])
          have E2 := hide (show rHi ks lo hi (max u1x u2x) (k + 1) = max u y by rw [S2.out, if_pos ⟨q1, q2⟩])
          have M1 := hide (show (if y < l then y else l) = min l y by split <;> omega)
          have M2 := hide (show (if l < y then l else y) = min l y by split <;> omega)
          have M3 := hide (show (if u < y then y else u) = max u y by split <;> omega)
          have M4 := hide (show (if y < u then u else y) = max u y by split <;> omega)
          go_wp2_with fail
          go_quiet (fail)
          go_wp2_with fail
          have m1 := M1.out
          have m2 := M2.out
          have m3 := M3.out
          have m4 := M4.out
          go_quiet (fail)
          go_wp2_with fail
          go_roundw
          case rel => exact ⟨k + 1, by omega, by go_num, by rw [E1.out], by rw [E2.out], below_drewN hbw _⟩
          case measure => simp [intOf]; omega
        · have t2 : decide (x < hi) = false := decide_eq_false q2
          have E1 := hide (show rLo ks lo hi (min d1x d2x) (k + 1) = l by rw [S1.out, if_neg (fun h => q2 h.2)])
          have E2 := hide (show rHi ks lo hi (max u1x u2x) (k + 1) = u by rw [S2.out, if_neg (fun h => q2 h.2)])
          go_wp2_with fail
          go_quiet (fail)
          have BB := below_drewN hbw nq
          go_wp2_with fail
          go_roundw
          case rel => exact ⟨k + 1, by omega, by go_num, by rw [E1.out], by rw [E2.out], BB⟩
          case measure => simp [intOf]; omega
      · have t1 : decide (lo < x) = false := decide_eq_false q1
        have E1 := hide (show rLo ks lo hi (min d1x d2x) (k + 1) = l by rw [S1.out, if_neg (fun h => q1 h.1)])
        have E2 := hide (show rHi ks lo hi (max u1x u2x) (k + 1) = u by rw [S2.out, if_neg (fun h => q1 h.1)])
        go_wp2_with fail
        go_quiet (fail)
        have BB := below_drewN hbw nq
        go_wp2_with fail
        go_roundw
        case rel => exact ⟨k + 1, by omega, by go_num, by rw [E1.out], by rw [E2.out], BB⟩
        case measure => simp [intOf]; omega
    · obtain rfl : k = ks.length := by omega
      rw [HRL.out, HRH.out]
      obtain ⟨c4, f4⟩ := cf_later hbw F4.out
      obtain ⟨c5, f5⟩ := cf_later hbw F5.out
      have BB := bnext B4.out hbw
      go_wp2_with fail
      have yy := two_set (x := .int .i64 RL) (y := .int .i64 RH) c4 c5
      exact bodyPost_ret (v := .tuple #[.agg #[.int .i64 RL, .int .i64 RH], .int .i64 0]) (by simp [results, Tryz.results122, go_sem, yy.1, yy.2]) rfl ⟨rfl, bset (bset BB (by simp) _) (by simp) _⟩

theorem inDom_is {ks : List (Int × Int)} {lo hi : Int} : inDom ks lo hi = (decide (kX ks 0 ≤ lo) && decide (hi ≤ kX ks (ks.length - 1))) := rfl
theorem refValue_any (ks : List (Int × Int)) (a : Option Addr) (cap : Nat) (lo hi : Int) (w : World) (hl : ks.length ≤ 8796093022208) (hw : Wide ks) (h : IsPairs w a ks) :
    Calls Tryz.prog 122 #[.slice a ks.length cap, .agg #[.int .i64 lo, .int .i64 hi]] w fun e w' => TbP (valueQ ks lo hi).1 (valueQ ks lo hi).2.1 (valueQ ks lo hi).2.2 w e w' := by
  have hT : TbC ks (tabOk ks) := fun a cap W hi => refTable_any ks a cap W hl hw hi
  have hR : RgC lo hi (rangeOk (lo, hi)) := fun W => refRange_any lo hi W
  have r1 : [(lo, hi)].all rangeOk = rangeOk (lo, hi) := by simp
  unfold valueQ
  cases h1 : tabOk ks with
  | false =>
    rw [h1] at hT
    rw [if_pos rfl]
    exact refValue_bad ks a cap lo hi false _ w hT hR (.inl rfl) h
  | true =>
    rw [h1] at hT
    rw [if_neg (by simp), r1]
    cases h2 : rangeOk (lo, hi) with
    | false =>
      rw [h2] at hR
      rw [if_pos rfl]
      exact refValue_bad ks a cap lo hi true false w hT hR (.inr ⟨rfl, rfl⟩) h
    | true =>
      rw [h2] at hR
      rw [if_neg (by simp)]
      obtain ⟨l0, l1⟩ := len_of h1
      cases h3 : inDom ks lo hi with
      | false =>
        rw [if_pos rfl]
        refine refValue_far ks a cap lo hi w hT hR l0 l1 ?_ h
        rw [inDom_is] at h3
        by_cases g : lo < kX ks 0
        · exact .inl (decide_eq_true g)
        · refine .inr ⟨decide_eq_false g, decide_eq_true ?_⟩
          rw [decide_eq_true (show kX ks 0 ≤ lo by omega), Bool.true_and, decide_eq_false_iff_not] at h3
          omega
      | true =>
        rw [if_neg (by simp)]
        rw [inDom_is, Bool.and_eq_true, decide_eq_true_eq, decide_eq_true_eq] at h3
        have hlh : lo ≤ hi := by
          have := h2
          simp [rangeOk, allIn] at this
          omega
        have hm : ks.length - 2 + 1 = ks.length - 1 := by omega
        obtain ⟨i, hi1⟩ := has_ex (ks := ks) (x := lo) (ks.length - 2) (by omega) h3.1 (by rw [hm]; omega)
        obtain ⟨j, hj1⟩ := has_ex (ks := ks) (x := hi) (ks.length - 2) (by omega) (by omega) (by rw [hm]; omega)
        rw [value_ref h1 hlh hi1 hj1]
        exact refValue_good ks a cap lo hi _ _ _ _ w hT hR l0 l1 (decide_eq_false (by omega)) (decide_eq_false (by omega)) (fun a cap W hp => refAt_any ks a cap lo i W h1 hi1 hp) (fun a cap W hp => refAt_any ks a cap hi j W h1 hj1 hp) h
end Go.Proofs.YtimfbjnpalgmcaaGreat
