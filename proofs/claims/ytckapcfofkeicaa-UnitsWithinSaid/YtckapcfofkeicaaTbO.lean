/-
  Tables: copies of tables, CheckTable, the reference's At.
-/
import Derived.Test.YtckapcfofkeicaaTbM
import Derived.Test.YtckapcfofkeicaaFrameF
import Derived.BigQuiet
import Derived.BigRegion
import Derived.Deep.RegionHeld3
namespace Go.Proofs.Ytckapcfofkeicaa
set_option linter.unusedSimpArgs false
set_option linter.unusedVariables false
open Go.RowKit

theorem knot_info : (Try.prog.info? 64).map (fun i => (i.zero, i.size, i.bytes)) = some (some (.agg #[.int .i64 0, .int .i64 0]), 2, 16) := by kernel_rfl
set_option maxHeartbeats 1600000 in
theorem ownKnots_any (a : Option Addr) (cap : Nat) (zs : List (Int × Int)) (w : World) (hl : zs.length ≤ 1000) (ha : a = none → cap = 0 ∧ zs = []) (h : IsPairs w a zs) :
    Calls Try.prog 48 #[.slice a zs.length cap] w fun e w' => PairsPost w zs e w' := by
  obtain ⟨ti, hi, hz0, hz1, hz2⟩ := info_parts knot_info
  have HI := hide hi
  have HZ0 := hide hz0
  have HZ1 := hide hz1
  have HZ2 := hide hz2
  clear hi hz0 hz1 hz2
  have OWN := hide (World.ownsRow_lit (base := w.heap.size) (e := 64) (size := 2) w #[] 0 (Nat.le_refl _) (by unfold maxLen; omega) rfl)
  cases a with
  | none =>
    obtain ⟨rfl, rfl⟩ := ha rfl
    go_enter Try.func48, Try.ntmps48
    go_wp2_with (at_builtin; refine wpList_append_own_none rfl (.tmp 3) (.tmp 4) 59 rfl w.heap.size 64 ti 2 Try.underlying59 HI.out _ 0 [] rfl OWN.out rfl ?_)
    refine bodyPost_ret (v := .slice (some ⟨w.heap.size, 0, none⟩) 0 0) (by simp [results, Try.results48, go_sem]) rfl ⟨_, _, rfl, (fun h => by cases h), .inl rfl, (by repeat (first | exact Below.refl _ _ | assumption | apply balloc | apply bdrew | (refine bset ?_ (by first | (simp; done) | omega | (simp; omega)) _) | (refine bnext ?_ (by assumption))))⟩
  | some ad =>
    have HC := hide (rowOf_cell rfl h)
    have HL := hide hl
    obtain ⟨row, hrow⟩ : ∃ row, rowOf zs = row := ⟨_, rfl⟩
    have HR := hide hrow
    have H1 := hide (rowOf_ones (zs := zs))
    have HN := hide (rowOf_length zs)
    rw [hrow] at HC H1 HN
    clear h ha hl hrow
    go_enter Try.func48, Try.ntmps48
    go_wp2_with (at_builtin; refine wpList_append_own _ rfl (.tmp 3) (.tmp 4) 59 rfl w.heap.size 64 ti (.agg #[.int .i64 0, .int .i64 0]) 2 16 Try.underlying59 HI.out HZ0.out HZ1.out HZ2.out rfl (by decide) _ 0 [] rfl OWN.out ad zs.length cap row rfl HN.out ?_ H1.out ?_ ?_ ?_ ?_)
    · intro j u hu; exact later (balloc (Below.refl _ _)) (HC.out j u hu)
    · have := HL.out; unfold maxLen; omega
    · have := HL.out; omega
    · intro v' w1 hown1 hgrow _
      rw [← HR.out] at hown1
      obtain ⟨b, c, rfl, hb, hp⟩ := pairs_of_own hown1
      have HP := hide hp
      have HG := hide hgrow
      have HB := hide hb
      clear hown1 hgrow hp hb
      go_wp2_with fail
      refine bodyPost_ret (v := .slice b zs.length c) (by simp [results, Try.results48, go_sem]) rfl ⟨_, _, rfl, HB.out, HP.out, ?_⟩
      exact app_below (v := .slice (some ⟨w.heap.size, 0, none⟩) 0 0) (Below.refl _ _) (Nat.le_refl _) (fun k hk => by simp [Value.ownBlock] at hk; omega) HG.out

set_option maxHeartbeats 1600000 in
theorem checkTable_go (k : Bool) (E : Int) (ks : List (Int × Int)) (a : Option Addr) (cap : Nat) (w : World) (hk : [(⟨a, cap, ks⟩ : Tb)].all Tb.ok = k) (hE : Hid (∀ f c, firstE [⟨2, f, c, k⟩] = E)) (hl : ks.length ≤ 8796093022208) (h : Hid (IsPairs w a ks)) :
    Calls Try.prog 49 #[.slice a ks.length cap] w fun e w' => e = .returned (.int .i64 E) ∧ Below w.heap.size w w' := by
  have HK := hide hk
  clear hk
  go_enter Try.func49, Try.ntmps49
  go_wp2_with fail
  refine (validTables_ex k _ 1 1 [⟨a, cap, ks⟩] _ HK.out rfl (by simp) (tabs_one_of (t := ⟨a, cap, ks⟩) (by simp [go_sem, World.cell?_alloc_past]) (pairs_later h.out (by repeat (first | exact Below.refl _ _ | assumption | apply balloc | apply bdrew | (refine bset ?_ (by first | (simp; done) | omega | (simp; omega)) _) | (refine bnext ?_ (by assumption))))) hl)).mono ?_
  rintro e wB ⟨rfl, hB, hbB⟩
  (try simp at hB)
  go_wp2_with fail
  refine (firstError_is E [⟨2, 114, _, k⟩] _ _ _ (hE.out _ _) (by simp) (by simp) (cnds_one_at (by simp)) (tells_one (cnd_later hB (by repeat (first | exact Below.refl _ _ | assumption | apply balloc | apply bdrew | (refine bset ?_ (by first | (simp; done) | omega | (simp; omega)) _) | (refine bnext ?_ (by assumption))))))).mono ?_
  rintro e wD ⟨rfl, hbD⟩
  go_wp2_with fail
  go_ret
  exact ⟨rfl, (by repeat (first | exact Below.refl _ _ | assumption | apply balloc | apply bdrew | (refine bset ?_ (by first | (simp; done) | omega | (simp; omega)) _) | (refine bnext ?_ (by assumption))))⟩
theorem checkTable_any (ks : List (Int × Int)) (a : Option Addr) (cap : Nat) (w : World) (hl : ks.length ≤ 8796093022208) (h : IsPairs w a ks) :
    Calls Try.prog 49 #[.slice a ks.length cap] w fun e w' => e = .returned (.int .i64 (if tabOk ks = true then 0 else 2)) ∧ Below w.heap.size w w' := by
  have ht : [(⟨a, cap, ks⟩ : Tb)].all Tb.ok = tabOk ks := by simp [Tb.ok]
  cases hk : tabOk ks with
  | true => exact checkTable_go true 0 ks a cap w (ht.trans hk) (fun _ _ => rfl) hl h
  | false => exact checkTable_go false 2 ks a cap w (ht.trans hk) (fun _ _ => rfl) hl h

theorem refFlo_of {N c : Int} (c0 : 1 ≤ c) (h0 : -2000000000000 ≤ N / c) (h1 : N / c ≤ 2000000000000) : refFlo N c = (N / c, N % c, true) := by
  have e := Int.mul_ediv_add_emod N c
  have r0 := Int.emod_nonneg N (show c ≠ 0 by omega)
  have r1 := Int.emod_lt_of_pos N (show 0 < c by omega)
  have hm : max N (-N) / c ≤ 2000000000000000 := by
    have h2 : max N (-N) / c < 2000000000000001 := by
      apply Int.ediv_lt_of_lt_mul (by omega)
      have a := Int.mul_le_mul_of_nonneg_left h1 (show 0 ≤ c by omega)
      have b := Int.mul_le_mul_of_nonneg_left h0 (show 0 ≤ c by omega)
      omega
    omega
  unfold refFlo
  rw [if_pos hm]
/-- The integers of the pieces of a table. -/
theorem has_lt {ks : List (Int × Int)} (h : tabOk ks = true) {i k : Nat} {x : Int} (hx : Has ks i x) (hk : k + 1 < ks.length) (hlt : kX ks (k + 1) < x) : k + 1 + 1 < ks.length := by
  obtain ⟨a, b, c⟩ := hx
  rcases Nat.lt_or_ge (k + 1 + 1) ks.length with h2 | h2
  · exact h2
  · have := knot_le h (show i + 1 ≤ k + 1 by omega) (by omega)
    omega
set_option maxRecDepth 100000 in
set_option maxHeartbeats 3200000 in
theorem refAt_any (ks : List (Int × Int)) (a : Option Addr) (cap : Nat) (x : Int) (i0 : Nat) (w : World) (ht : tabOk ks = true) (hx : Has ks i0 x) (h : IsPairs w a ks) :
    Calls Try.prog 106 #[.slice a ks.length cap, .int .i64 x] w fun e w' => e = .returned (.tuple #[.int .i64 (dnQ ks i0 x), .int .i64 (upQx ks i0 x)]) ∧ Below w.heap.size w w' := by
  have len := len_of ht
  obtain ⟨l0, l1⟩ := len
  obtain ⟨b, off, rfl, hc⟩ : ∃ b off, a = some ⟨b, off, none⟩ ∧ ∀ i, i < ks.length → w.cell? ⟨b, off + i * 2, none⟩ = some (.int .i64 (kX ks i)) ∧ w.cell? ⟨b, off + i * 2 + 1, none⟩ = some (.int .i64 (kY ks i)) := by
    rcases h with h | h
    · subst h; simp at l0
    · exact h
  obtain ⟨D, hD⟩ : ∃ D, dnQ ks i0 x = D := ⟨_, rfl⟩
  obtain ⟨U, hU⟩ : ∃ U, upQx ks i0 x = U := ⟨_, rfl⟩
  rw [hD, hU]
  have HD := hide hD
  have HU := hide hU
  clear hD hU
  have HC := hide hc
  have HX := hide hx
  have HT := hide ht
  clear hc hx ht h
  go_enter Try.func106, Try.ntmps106
  go_wp2_with fail
  go_loop [6] (fun i => ∃ k : Nat, k + 1 < ks.length ∧ i = .int .i64 ((k : Int) + 1) ∧ (k = 0 ∨ kX ks k < x)) (fun i => ks.length - (intOf i).toNat)
  case atStart => exact ⟨0, by omega, rfl, .inl rfl⟩
  case round =>
    obtain ⟨k, hk, rfl, hkx⟩ := hrel
    have HKX := hide hkx
    clear hkx
    obtain ⟨c1, c2⟩ := HC.out (k + 1) hk
    obtain ⟨c3, c4⟩ := HC.out k (by omega)
    have K1 := knot_bounds HT.out hk
    have K0 := knot_bounds HT.out (show k < ks.length by omega)
    have KN := knot_next HT.out hk
    obtain ⟨⟨k1, k2⟩, k3, k4⟩ := K1
    obtain ⟨⟨k5, k6⟩, k7, k8⟩ := K0
    have hkn : ((k : Int) + 1).toNat = k + 1 := by omega
    have hk0 : 0 ≤ (k : Int) + 1 := by omega
    have hkl : (k : Int) + 1 < (ks.length : Int) := by omega
    have hkw : IntKind.wrap .i64 (k : Int) = (k : Int) := IntWalk.i64_in _ (by omega)
    have hk00 : 0 ≤ (k : Int) := by omega
    have hkl0 : (k : Int) < (ks.length : Int) := by omega
    by_cases hlt : kX ks (k + 1) < x
    · have h2 := has_lt HT.out HX.out hk hlt
      go_wp2_with fail
      go_round
      case rel => exact ⟨k + 1, h2, by go_num, .inr hlt⟩
      case measure => simp [intOf]; omega
    · have hxk : x ≤ kX ks (k + 1) := by omega
      have hxk0 : kX ks k ≤ x := by
        rcases HKX.out with rfl | h
        · have := knot_le HT.out (show 0 ≤ i0 by omega) (by have := HX.out.1; omega)
          have := HX.out.2.1
          omega
        · omega
      have S := dn_same HT.out hk HX.out.1 hxk0 hxk HX.out.2.1 HX.out.2.2
      have hd : D = dnQ ks k x := HD.out.symm.trans S.1.symm
      have hu : U = upQx ks k x := HU.out.symm.trans S.2.symm
      unfold dnQ at hd
      unfold upQx upV at hu
      clear S HC HX HKX HD HU HT
      generalize kX ks (k + 1) = X1 at *
      generalize kY ks (k + 1) = Y1 at *
      generalize kX ks k = X0 at *
      generalize kY ks k = Y0 at *
      have R := (rise_bounds (d := Y1 - Y0) (c := X1 - X0) (e := x - X0) (by omega) (by omega) (by omega) (by omega) (by omega)).1
      have F := fun W => refFloor_any (Y1 - Y0) (x - X0) (X1 - X0) W (by omega) (by omega) (by omega) (by omega) (by omega) (by omega)
      rw [refFlo_of (by omega) R.1 R.2] at F
      have r0 := Int.emod_nonneg ((Y1 - Y0) * (x - X0)) (show X1 - X0 ≠ 0 by omega)
      simp only at F
      generalize (Y1 - Y0) * (x - X0) / (X1 - X0) = q at *
      generalize (Y1 - Y0) * (x - X0) % (X1 - X0) = r at *
      have HF := hide F
      have HD := hide hd
      have HU := hide hu
      obtain ⟨q0, q1⟩ := R
      clear F hd hu
      have hblk : b < w.heap.size := World.block_lt_of_cell? _ _ c1
      go_upto_region 4 with fail
      go_cut [7, 8] from 9 (fun s7 s8 wx => ∃ m n : Nat, s7 = .pointer (some ⟨m, 0, none⟩) ∧ s8 = .pointer (some ⟨n, 0, none⟩) ∧ (wx.cell? ⟨m, 0, none⟩ = some (.int .i64 X0) ∧ wx.cell? ⟨m, 1, none⟩ = some (.int .i64 Y0)) ∧ (wx.cell? ⟨n, 0, none⟩ = some (.int .i64 X1) ∧ wx.cell? ⟨n, 1, none⟩ = some (.int .i64 Y1)) ∧ Below w.heap.size w wx)
      case first =>
        go_big_region
        all_goals
          go_wp2_with fail
          go_meet
          refine ⟨_, _, rfl, rfl, ⟨?_, ?_⟩, ⟨?_, ?_⟩, ?_⟩
          all_goals first | (simp [go_sem, World.cell?_alloc_past]; done) | (exact (by repeat (first | exact Below.refl _ _ | assumption | apply balloc | apply bdrew | (refine bset ?_ (by first | (simp; done) | omega | (simp; omega)) _) | (refine bnext ?_ (by assumption)))))
      case rest =>
        obtain ⟨m, n, rfl, rfl, ⟨p0, p1⟩, ⟨n0, n1⟩, hbw⟩ := hcut
        go_wp2_with fail
        refine (HF.out _).mono ?_
        rintro e w1 ⟨rfl, hb1⟩
        have p1' := later hb1 p1
        have B1 := hide (bnext hbw hb1)
        clear p0 p1 n0 n1 hbw hb1 c1 c2 c3 c4
        have hw1 : IntKind.wrap .i64 (Y0 + q) = Y0 + q := IntWalk.i64_in _ (by omega)
        have hw2 : IntKind.wrap .i64 (Y0 + q + 1) = Y0 + q + 1 := IntWalk.i64_in _ (by omega)
        have HW1 := hide hw1
        have HW2 := hide hw2
        clear hw1 hw2
        by_cases hr : 0 < r
        · have e1 : U = Y0 + q + 1 := by have := HU.out; rw [if_pos hr] at this; omega
          have E1 := hide e1
          clear e1
          go_wp2_with fail
          have hw1 := HW1.out
          have hw2 := HW2.out
          go_quiet (fail)
          go_wp2_with fail
          go_ret2
          exact ⟨by rw [HD.out, E1.out]; rfl, below_drewN B1.out _⟩
        · have e1 : U = Y0 + q := by have := HU.out; rw [if_neg hr] at this; omega
          have E1 := hide e1
          clear e1
          go_wp2_with fail
          have hw1 := HW1.out
          go_quiet (fail)
          go_wp2_with fail
          go_ret2
          exact ⟨by rw [HD.out, E1.out]; rfl, below_drewN B1.out _⟩
end Go.Proofs.Ytckapcfofkeicaa
