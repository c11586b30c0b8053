/-
  The reference's Where.
-/
import Derived.Test.YtckapcfofkeicaaWhH
import Derived.Test.YtckapcfofkeicaaThR
import Derived.Deep.RegionHeld3
import Derived.Deep.AppendLies
import Derived.BigQuiet
namespace Go.Proofs.Ytckapcfofkeicaa
set_option linter.unusedSimpArgs false
set_option linter.unusedVariables false
open Go.RowKit

/-- What the reference's Where answers. -/
def WhP (ks : List (Int × Int)) (lo hi : Int) (w : World) (e : Ending) (w' : World) : Prop :=
  ∃ v, e = .returned (.tuple #[v, .int .i64 (whereTQ ks lo hi).2]) ∧ w'.ownsRow w.heap.size 46 2 v (whereTQ ks lo hi).1.length (rowOf (whereTQ ks lo hi).1) ∧ Below w.heap.size w w'
theorem whP_bad {ks : List (Int × Int)} {lo hi : Int} {w w' : World} (hE : whereTQ ks lo hi = ([], 2)) (hb : Below w.heap.size w w') : WhP ks lo hi w (.returned (.tuple #[.slice none 0 0, .int .i64 2])) w' :=
  ⟨_, by rw [hE], by rw [hE]; exact World.ownsRow_nil _ _ _ _, hb⟩
set_option maxRecDepth 100000 in
set_option maxHeartbeats 3200000 in
theorem refWhere_bad (ks : List (Int × Int)) (a : Option Addr) (cap : Nat) (lo hi : Int) (T k : Bool) (w : World) (hT : Hid (TbC ks T)) (hR : Hid (RgC lo hi k)) (hc : T = false ∨ (T = true ∧ k = false)) (hE : Hid (whereTQ ks lo hi = ([], 2))) (h : Hid (IsPairs w a ks)) :
    Calls Try.prog 55 #[.slice a ks.length cap, .agg #[.int .i64 lo, .int .i64 hi]] w fun e w' => WhP ks lo hi w e w' := by
  rcases hc with rfl | ⟨rfl, rfl⟩
  · go_enter Try.func55, Try.ntmps55
    go_wp2_with fail
    refine (hT.out _ _ _ (pairs_later h.out (by repeat (first | exact Below.refl _ _ | assumption | apply balloc | apply bdrew | (refine bset ?_ (by first | (simp; done) | omega | (simp; omega)) _) | (refine bnext ?_ (by assumption)))))).mono ?_
    rintro e w1 ⟨rfl, hb1⟩
    go_wp2_with fail
    go_ret2
    exact whP_bad hE.out (by repeat (first | exact Below.refl _ _ | assumption | apply balloc | apply bdrew | (refine bset ?_ (by first | (simp; done) | omega | (simp; omega)) _) | (refine bnext ?_ (by assumption))))
  · go_enter Try.func55, Try.ntmps55
    go_wp2_with fail
    refine (hT.out _ _ _ (pairs_later h.out (by repeat (first | exact Below.refl _ _ | assumption | apply balloc | apply bdrew | (refine bset ?_ (by first | (simp; done) | omega | (simp; omega)) _) | (refine bnext ?_ (by assumption)))))).mono ?_
    rintro e w1 ⟨rfl, hb1⟩
    have c0 := later hb1 (a := ⟨w.heap.size, 0, none⟩) (v := .int .i64 lo) (by simp [go_sem, World.cell?_alloc_past])
    have c1 := later hb1 (a := ⟨w.heap.size, 1, none⟩) (v := .int .i64 hi) (by simp [go_sem, World.cell?_alloc_past])
    go_wp2_with fail
    refine (hR.out _).mono ?_
    rintro e w2 ⟨rfl, hb2⟩
    clear c0 c1
    go_wp2_with fail
    go_ret2
    exact whP_bad hE.out (by repeat (first | exact Below.refl _ _ | assumption | apply balloc | apply bdrew | (refine bset ?_ (by first | (simp; done) | omega | (simp; omega)) _) | (refine bnext ?_ (by assumption))))

/-- The same behind two calls. -/
theorem bcellw2 {W w1 W2 w2 : World} (hb : Below W.heap.size W w1) (hm : Below w1.heap.size w1 W2) (hb2 : Below W2.heap.size W2 w2) : ((∀ b o, b < W.heap.size → w2.cell? ⟨b, o, none⟩ = W.cell? ⟨b, o, none⟩) ∧ (∀ b o, b < W.heap.size → w2.frozen? ⟨b, o, none⟩ = W.frozen? ⟨b, o, none⟩)) ∧ W.heap.size ≤ w2.heap.size :=
  bcell1 (bnext (bnext hb hm) hb2)
theorem cell_newW (w : World) (n : Nat) (cs : Array Value) (T : TypeId) (i : Nat) : ((w.drewN n).alloc (.cells cs T)).cell? ⟨w.heap.size, i, none⟩ = cs[i]? := cell_of_row _ _ _ cs T (0, 0) (heap_alloc_new (w.drewN n) _)
/-- Two cells of a row. -/
theorem two_cells {W : World} {q : Nat} {x y : Value} (h0 : W.cell? ⟨q, 0, none⟩ = some x) (h1 : W.cell? ⟨q, 1, none⟩ = some y) : ∀ j u, ([x, y] : List Value)[j]? = some u → W.cell? ((⟨q, 0, none⟩ : Addr).add j) = some u := by
  intro j u hu
  match j, hu with
  | 0, hu => simp at hu; subst hu; simpa [Addr.add] using h0
  | 1, hu => simp at hu; subst hu; simpa [Addr.add] using h1
  | j + 2, hu => simp at hu

set_option maxRecDepth 100000 in
set_option maxHeartbeats 12800000 in
theorem refWhere_good (ks : List (Int × Int)) (a : Option Addr) (cap : Nat) (lo hi : Int) (w : World) (hT : Hid (TbC ks true)) (hR : Hid (RgC lo hi true)) (ht : Hid (tabOk ks = true)) (l0 : 2 ≤ ks.length) (l1 : ks.length ≤ 60) (h : Hid (IsPairs w a ks)) :
    Calls Try.prog 55 #[.slice a ks.length cap, .agg #[.int .i64 lo, .int .i64 hi]] w fun e w' => ∃ v, e = .returned (.tuple #[v, .int .i64 0]) ∧ w'.ownsRow w.heap.size 46 2 v (wAll lo hi (segs ks (ks.length - 1))).length (rowOf (wAll lo hi (segs ks (ks.length - 1)))) ∧ Below w.heap.size w w' := by
  obtain ⟨ti, hi', hz0, hz1, hz2⟩ := info_parts range_info
  have TI := hide hi'
  have HZ0 := hide hz0
  have HZ1 := hide hz1
  have HZ2 := hide hz2
  clear hi' hz0 hz1 hz2
  go_enter Try.func55, Try.ntmps55
  go_wp2_with fail
  refine (hT.out _ _ _ (pairs_later h.out (by repeat (first | exact Below.refl _ _ | assumption | apply balloc | apply bdrew | (refine bset ?_ (by first | (simp; done) | omega | (simp; omega)) _) | (refine bnext ?_ (by assumption)))))).mono ?_
  rintro e w1 ⟨rfl, hb1⟩
  have c0 := later hb1 (a := ⟨w.heap.size, 0, none⟩) (v := .int .i64 lo) (by simp [go_sem, World.cell?_alloc_past])
  have c1 := later hb1 (a := ⟨w.heap.size, 1, none⟩) (v := .int .i64 hi) (by simp [go_sem, World.cell?_alloc_past])
  have B1 := hide (show Below w.heap.size w w1 from (by repeat (first | exact Below.refl _ _ | assumption | apply balloc | apply bdrew | (refine bset ?_ (by first | (simp; done) | omega | (simp; omega)) _) | (refine bnext ?_ (by assumption)))))
  clear hb1
  go_wp2_with fail
  refine (hR.out _).mono ?_
  rintro e w2 ⟨rfl, hb2⟩
  have D := hide (And.intro (later hb2 c0) (later hb2 c1))
  have B2 := hide (bnext B1.out hb2)
  have OWN := hide (World.ownsRow_lit (base := w2.heap.size) (e := 46) (size := 2) w2 #[] 0 (Nat.le_refl _) (by unfold maxLen; omega) rfl)
  clear c0 c1 B1 hb2
  go_wp2_with fail
  go_loopw [6, 7] (fun v i wr => ∃ k : Nat, k + 1 ≤ ks.length ∧ i = .int .i64 ((k : Int) + 1) ∧ wr.ownsRow w2.heap.size 46 2 v (wAll lo hi (segs ks k)).length (rowOf (wAll lo hi (segs ks k))) ∧ Below w2.heap.size w2 wr) (fun _ i _ => ks.length - (intOf i).toNat)
  case atStart => exact ⟨0, by omega, rfl, (by simpa [segs, wAll, rowOf] using OWN.out), (by repeat (first | exact Below.refl _ _ | assumption | apply balloc | apply bdrew | (refine bset ?_ (by first | (simp; done) | omega | (simp; omega)) _) | (refine bnext ?_ (by assumption))))⟩
  case round =>
    obtain ⟨k, hk, rfl, hown, hb⟩ := hrel
    obtain ⟨rs, hrs⟩ : ∃ rs, wAll lo hi (segs ks k) = rs := ⟨_, rfl⟩
    rw [hrs] at hown
    obtain ⟨n, hn⟩ : ∃ n, rs.length = n := ⟨_, rfl⟩
    rw [hn] at hown
    obtain ⟨av, cv, rfl⟩ := slice_of_owns hown
    have HN := hide hn
    clear hn
    have HRS := hide hrs
    have HO := hide hown
    have HB := hide hb
    clear hown hb hrs
    by_cases hlt : k + 1 < ks.length
    · obtain ⟨b, off, rfl, hc⟩ : ∃ b off, a = some ⟨b, off, none⟩ ∧ ∀ W, Below w.heap.size w W → ∀ i, i < ks.length → W.cell? ⟨b, off + i * 2, none⟩ = some (.int .i64 (kX ks i)) ∧ W.cell? ⟨b, off + i * 2 + 1, none⟩ = some (.int .i64 (kY ks i)) := by
        rcases h.out with h | ⟨b, off, e, h⟩
        · subst h; simp at l0
        · exact ⟨b, off, e, fun W hW i hi => ⟨later hW (h i hi).1, later hW (h i hi).2⟩⟩
      have HC := hide (fun W (hW : Below wr.heap.size wr W) => hc W (bnext (bnext B2.out HB.out) hW))
      have HY := hide (fun W (hW : Below wr.heap.size wr W) => (show W.cell? ⟨w.heap.size, 0, none⟩ = some (.int .i64 lo) ∧ W.cell? ⟨w.heap.size, 1, none⟩ = some (.int .i64 hi) from ⟨later hW (later HB.out D.out.1), later hW (later HB.out D.out.2)⟩))
      clear hc
      have K1 := knot_bounds ht.out hlt
      have K0 := knot_bounds ht.out (show k < ks.length by omega)
      have KN := knot_next ht.out hlt
      obtain ⟨⟨k1, k2⟩, k3, k4⟩ := K1
      obtain ⟨⟨k5, k6⟩, k7, k8⟩ := K0
      have f2 := (fV_is ht.out hlt hi 2).1
      have f4 := (fV_is ht.out hlt lo 4).1
      have f1 := (fV_is ht.out hlt lo 1).1
      have f3 := (fV_is ht.out hlt hi 3).1
      have FU := hide (fun (hy : kY ks k ≤ kY ks (k + 1)) => found_is ht.out hlt (lo := lo) (hi := hi) (.inl ⟨hy, rfl, rfl⟩) (by rw [if_pos rfl]; exact (fV_is ht.out hlt lo 1).2 (ask_mono ht.out hlt (.inl ⟨hy, .inl rfl⟩))) (by rw [if_pos rfl]; exact (fV_is ht.out hlt hi 2).2 (ask_mono ht.out hlt (.inl ⟨hy, .inr rfl⟩))))
      have FD := hide (fun (hy : kY ks (k + 1) ≤ kY ks k) => found_is ht.out hlt (lo := lo) (hi := hi) (.inr ⟨hy, rfl, rfl⟩) (by rw [if_neg (by decide)]; exact (fV_is ht.out hlt hi 3).2 (ask_mono ht.out hlt (.inr ⟨hy, .inl rfl⟩))) (by rw [if_neg (by decide)]; exact (fV_is ht.out hlt lo 4).2 (ask_mono ht.out hlt (.inr ⟨hy, .inr rfl⟩))))
      have FC0 := hide (fun (y q : Int) (W : World) (hq : q = 1 ∨ q = 2 ∨ q = 3 ∨ q = 4) (hW : Below wr.heap.size wr W) => first_any ks (some ⟨b, off, none⟩) cap _ _ y q k W ht.out hlt rfl rfl hq (pairs_later h.out (bnext (bnext B2.out HB.out) hW)))
      obtain ⟨X0, hX0⟩ : ∃ x, kX ks k = x := ⟨_, rfl⟩
      obtain ⟨X1, hX1⟩ : ∃ x, kX ks (k + 1) = x := ⟨_, rfl⟩
      obtain ⟨Y0, hY0⟩ : ∃ x, kY ks k = x := ⟨_, rfl⟩
      obtain ⟨Y1, hY1⟩ : ∃ x, kY ks (k + 1) = x := ⟨_, rfl⟩
      rw [hX0, hX1] at FC0
      rw [hY0, hY1] at FU FD
      rw [hX0] at k5 k6 KN f1 f2 f3 f4
      rw [hX1] at k1 k2 KN f1 f2 f3 f4
      rw [hY0] at k7 k8
      rw [hY1] at k3 k4
      have HC0 := hide (fun W (hW : Below wr.heap.size wr W) => (show (W.cell? ⟨b, off + k * 2, none⟩ = some (.int .i64 X0) ∧ W.cell? ⟨b, off + k * 2 + 1, none⟩ = some (.int .i64 Y0)) ∧ W.cell? ⟨b, off + (k + 1) * 2, none⟩ = some (.int .i64 X1) ∧ W.cell? ⟨b, off + (k + 1) * 2 + 1, none⟩ = some (.int .i64 Y1) from ⟨by rw [← hX0, ← hY0]; exact HC.out W hW k (by omega), by rw [← hX1, ← hY1]; exact HC.out W hW (k + 1) hlt⟩))
      have FC := hide (fun (y q : Int) (W : World) (hq : q = 1 ∨ q = 2 ∨ q = 3 ∨ q = 4) (hW : Below wr.heap.size wr W) => FC0.out y q W hq hW)
      have ES := hide (show wAll lo hi (segs ks (k + 1)) = if (pRun ks lo hi k).2 = true then appR rs (pRun ks lo hi k).1 else rs by rw [segs_succ, wAll_snoc, wStep_is, HRS.out])
      have TO := hide (fun (ds : List (Int × Int)) (z : Int × Int) (e : rs = ds ++ [z]) (hp : (pRun ks lo hi k).2 = true) => touch_is ht.out hlt (HRS.out.trans e) hp)
      have RL := hide (show rs.length ≤ 60 by rw [← HRS.out]; have := wAll_length lo hi (segs ks k); rw [segs_length] at this; omega)
      generalize pRun ks lo hi k = R at *
      clear hX0 hX1 hY0 hY1 HC FC0
      have hkn : ((k : Int) + 1).toNat = k + 1 := by omega
      have hk0 : 0 ≤ (k : Int) + 1 := by omega
      have hkl : (k : Int) + 1 < (ks.length : Int) := by omega
      have hkw : IntKind.wrap .i64 (k : Int) = (k : Int) := IntWalk.i64_in _ (by omega)
      have hk00 : 0 ≤ (k : Int) := by omega
      have hkl0 : (k : Int) < (ks.length : Int) := by omega
      obtain ⟨⟨x1, x2⟩, x3, x4⟩ := HC0.out wr (Below.refl _ _)
      go_wp2_with fail
      go_quiet (fail)
      clear x1 x2 x3 x4
      obtain ⟨w0, hw0⟩ : ∃ w0, w0 = wr.drewN nq := ⟨_, rfl⟩
      rw [← hw0]
      have W0 := hide (show Below wr.heap.size wr w0 by rw [hw0]; exact below_drewN (Below.refl _ _) _)
      clear hw0
      have q2 : IntKind.wrap .i64 (fV ks k hi 2 - 1) = fV ks k hi 2 - 1 := IntWalk.i64_in _ (by omega)
      have q4 : IntKind.wrap .i64 (fV ks k lo 4 - 1) = fV ks k lo 4 - 1 := IntWalk.i64_in _ (by omega)
      have KP := hide (fun (W : World) (hb : Below w0.heap.size w0 W) => (show (W.cell? ⟨w.heap.size, 0, none⟩ = some (.int .i64 lo) ∧ W.cell? ⟨w.heap.size, 1, none⟩ = some (.int .i64 hi)) ∧ Below w0.heap.size w0 W from ⟨HY.out W (bnext W0.out hb), hb⟩))
      go_upto_region 8 with fail
      go_cut [10] from 38 to 51 (fun s10 wx => ∃ q, s10 = .pointer (some ⟨q, 0, none⟩) ∧ (CF wx ⟨q, 0, none⟩ (.int .i64 (fV ks k lo 1)) ∧ CF wx ⟨q, 1, none⟩ (.int .i64 (fV ks k hi 2 - 1))) ∧ w0.heap.size ≤ q ∧ Below w0.heap.size w0 wx)
      case first => as_aux_lemma =>
        have K0 := (KP.out w0 (Below.refl _ _)).1
        go_region_held3 (fun w' => (w'.cell? ⟨w.heap.size, 0, none⟩ = some (.int .i64 lo) ∧ w'.cell? ⟨w.heap.size, 1, none⟩ = some (.int .i64 hi)) ∧ Below w0.heap.size w0 w')
          ((go_split_ands; refine KP.out _ ?_; (try (have hsA := hbA.size; (try simp at hsA))); exact (by repeat (first | exact Below.refl _ _ | assumption | apply balloc | apply bdrew | (refine bset ?_ (by first | (simp; done) | omega | (simp; omega)) _) | (refine bnext ?_ (by assumption))))))
          ((go_at_call 109; refine (FC.out _ _ _ (by simp) (bnext W0.out (by exact (by repeat (first | exact Below.refl _ _ | assumption | apply balloc | apply bdrew | (refine bset ?_ (by first | (simp; done) | omega | (simp; omega)) _) | (refine bnext ?_ (by assumption))))))).mono ?_; first | (have hq := hbA; clear hq; rintro e wB ⟨rfl, hbB⟩; obtain ⟨⟨hcB, hfB⟩, hsB⟩ := bcell1 hbB; obtain ⟨⟨hcC, hfC⟩, hsC⟩ := bcellw2 hbA (by exact (by repeat (first | exact Below.refl _ _ | assumption | apply balloc | apply bdrew | (refine bset ?_ (by first | (simp; done) | omega | (simp; omega)) _) | (refine bnext ?_ (by assumption))))) hbB; (try simp at hsB hsC)) | (rintro e wA ⟨rfl, hbA⟩; skip)))
        all_goals
          go_wp2_with fail
          go_meet
          have hsA := hbA.size
          (try simp at hsA)
          refine ⟨_, rfl, ⟨⟨?_, ?_⟩, ?_, ?_⟩, ?_, ?_⟩
          · first | (simp [go_sem]; done) | (simp (maxDischargeDepth := 8) [go_sem, hcB, hfB]; done) | (simp (maxDischargeDepth := 8) [go_sem, hcC, hfC]; done)
          · first | (simp [go_sem]; done) | (simp (maxDischargeDepth := 8) [go_sem, hcB, hfB]; done) | (simp (maxDischargeDepth := 8) [go_sem, hcC, hfC]; done)
          · first | (simp [go_sem]; done) | (simp (maxDischargeDepth := 8) [go_sem, hcB, hfB]; done) | (simp (maxDischargeDepth := 8) [go_sem, hcC, hfC]; done)
          · first | (simp [go_sem]; done) | (simp (maxDischargeDepth := 8) [go_sem, hcB, hfB]; done) | (simp (maxDischargeDepth := 8) [go_sem, hcC, hfC]; done)
          · first | exact Nat.le_refl _ | omega | (simp; omega)
          · exact (by repeat (first | exact Below.refl _ _ | assumption | apply balloc | apply bdrew | (refine bset ?_ (by first | (simp; done) | omega | (simp; omega)) _) | (refine bnext ?_ (by assumption))))
      case rest =>
        obtain ⟨q, rfl, ⟨⟨z0, y0⟩, z1, y1⟩, hq, hbx⟩ := hcut
        obtain ⟨wa, rfl⟩ : ∃ x : World, x = wc := ⟨_, rfl⟩
        have WX := hide (bnext W0.out hbx)
        obtain ⟨⟨x1, x2⟩, x3, x4⟩ := HC0.out wa WX.out
        have hq' : wr.heap.size ≤ q := Nat.le_trans W0.out.size hq
        have C0 := hide (show CF wa ⟨q, 0, none⟩ (.int .i64 (fV ks k lo 1)) ∧ CF wa ⟨q, 1, none⟩ (.int .i64 (fV ks k hi 2 - 1)) from ⟨⟨z0, y0⟩, z1, y1⟩)
        clear x1 x3 z0 y0 z1 y1 hq hbx KP W0
        go_wp2_with fail
        go_quiet (fail)
        clear x2 x4
        obtain ⟨wb, hwb⟩ : ∃ x, x = wa.drewN nq := ⟨_, rfl⟩
        rw [← hwb]
        have WB := hide (show Below wa.heap.size wa wb by rw [hwb]; exact below_drewN (Below.refl _ _) _)
        clear hwb
        have D0 := hide (And.intro (cf_later WB.out C0.out.1) (cf_later WB.out C0.out.2))
        have BR : Below wr.heap.size wr wb := bnext WX.out WB.out
        clear C0 WB WX
        go_upto_if 63 with fail
        go_cut [10] from 63 to 77 (fun s10 wx => s10 = .pointer (some ⟨q, 0, none⟩) ∧ ∃ u v : Int, (wx.cell? ⟨q, 0, none⟩ = some (.int .i64 u) ∧ wx.cell? ⟨q, 1, none⟩ = some (.int .i64 v)) ∧ Hid ((R.2 = false ∧ v < u) ∨ (R.2 = true ∧ R.1 = (u, v) ∧ u ≤ v)) ∧ Below wr.heap.size wr wx)
        case first => as_aux_lemma =>
          by_cases hfl : Y1 < Y0
          · have dfl : decide (Y1 < Y0) = true := decide_eq_true hfl
            have KP := hide (fun (W : World) (hb : Below wr.heap.size wr W) => (show (W.cell? ⟨w.heap.size, 0, none⟩ = some (.int .i64 lo) ∧ W.cell? ⟨w.heap.size, 1, none⟩ = some (.int .i64 hi)) ∧ Below wr.heap.size wr W from ⟨HY.out W hb, hb⟩))
            have K0 := (KP.out wb BR).1
            have FD1 := hide (FD.out (by omega))
            clear FU FD
            go_wp2_with fail
            go_region_held3 (fun w' => (w'.cell? ⟨w.heap.size, 0, none⟩ = some (.int .i64 lo) ∧ w'.cell? ⟨w.heap.size, 1, none⟩ = some (.int .i64 hi)) ∧ Below wr.heap.size wr w')
              ((go_split_ands; refine KP.out _ ?_; exact (by repeat (first | exact Below.refl _ _ | assumption | apply balloc | apply bdrew | (refine bset ?_ (by first | (simp; done) | omega | (simp; omega)) _) | (refine bnext ?_ (by assumption))))))
              ((go_at_call 109; refine (FC.out _ _ _ (by simp) (by exact (by repeat (first | exact Below.refl _ _ | assumption | apply balloc | apply bdrew | (refine bset ?_ (by first | (simp; done) | omega | (simp; omega)) _) | (refine bnext ?_ (by assumption)))))).mono ?_; first | (have hq := hbA; clear hq; rintro e wB ⟨rfl, hbB⟩; have qB : Below wb.heap.size wb wB := (by exact (by repeat (first | exact Below.refl _ _ | assumption | apply balloc | apply bdrew | (refine bset ?_ (by first | (simp; done) | omega | (simp; omega)) _) | (refine bnext ?_ (by assumption))))); obtain ⟨⟨za, ya⟩, zb, yb⟩ := (And.intro (cf_later qB D0.out.1) (cf_later qB D0.out.2))) | (rintro e wA ⟨rfl, hbA⟩; skip)))
            all_goals
              go_wp2_with fail
              go_meet
              exact ⟨rfl, _, _, ⟨by simp [go_sem, za, zb], by simp [go_sem, za, zb]⟩, FD1.out, (by repeat (first | exact Below.refl _ _ | assumption | apply balloc | apply bdrew | (refine bset ?_ (by first | (simp; done) | omega | (simp; omega)) _) | (refine bnext ?_ (by assumption))))⟩
          · have dfl : decide (Y1 < Y0) = false := decide_eq_false hfl
            have FU1 := hide (FU.out (by omega))
            go_wp2_with fail
            go_meet
            exact ⟨rfl, _, _, ⟨D0.out.1.1, D0.out.2.1⟩, FU1.out, BR⟩
        case rest =>
          obtain ⟨rfl, u, v, ⟨z0, z1⟩, hF, hby⟩ := hcut
          have HBY := hide hby
          clear FU FD FC HC0 HY D0 BR q2 q4 f1 f2 f3 f4 hby
          by_cases huv : v < u
          · as_aux_lemma =>
            have d : decide (v < u) = true := decide_eq_true huv
            have hR : R.2 = false := by
              rcases hF.out with h | h
              · exact h.1
              · omega
            have ES' := hide (show wAll lo hi (segs ks (k + 1)) = rs by rw [ES.out, if_neg (by simp [hR])])
            clear hR huv
            go_wp2_with fail
            go_roundw
            case rel => exact ⟨k + 1, by omega, by first | go_num | rfl, by rw [ES'.out, HN.out]; exact owns_later HO.out HBY.out, HB.out.trans (HBY.out.mono HB.out.size)⟩
            case measure => simp [intOf]; omega
          · have d : decide (v < u) = false := decide_eq_false huv
            obtain ⟨hR1, hR2⟩ : R.2 = true ∧ R.1 = (u, v) := by
              rcases hF.out with h | h
              · omega
              · exact ⟨h.1, h.2.1⟩
            have ES' := hide (show wAll lo hi (segs ks (k + 1)) = appR rs (u, v) by rw [ES.out, if_pos hR1, hR2])
            have TO' := hide (fun ds z e => by have := TO.out ds z e hR1; rw [hR2] at this; exact this)
            have B2W := hide (HB.out.trans (HBY.out.mono HB.out.size))
            have HO2 := hide (owns_later HO.out HBY.out)
            have hsz : w2.heap.size ≤ wc.heap.size := B2W.out.size
            clear hR1 hR2 huv hF TO ES HBY HB HO
            rcases List.eq_nil_or_concat rs with e | ⟨ds, z, e⟩
            · subst e
              obtain rfl : n = 0 := HN.out.symm
              have ES2 := hide (ES'.out.trans (appR_nil _))
              clear ES' TO' RL HN
              go_wp2_with fail
              go_quiet (fail)
              go_wp2_with (at_builtin; refine wpList_append_own _ rfl (.tmp 106) (.tmp 108) 43 rfl w2.heap.size 46 ti (.agg #[.int .i64 0, .int .i64 0]) 2 16 Try.underlying43 TI.out HZ0.out HZ1.out HZ2.out rfl (by decide) _ 0 [] rfl ((owns_drewN HO2.out _).alloc _) ⟨wc.heap.size, 0, none⟩ 1 1 [.int .i64 u, .int .i64 v] rfl rfl ?_ ?_ ?_ ?_ ?_ ?_)
              · exact two_cells (cell_newW wc _ _ _ 0) (cell_newW wc _ _ _ 1)
              · intro x hx; simp at hx; rcases hx with rfl | rfl <;> rfl
              · unfold maxLen; omega
              · omega
              · simp [World.drewN]; omega
              · intro v' w3 hown3 hgrow _
                have N := hide (show w3.ownsRow w2.heap.size 46 2 v' 1 (rowOf [(u, v)]) from hown3)
                have BG := hide (Below.grown (balloc (below_drewN B2W.out _)) hgrow (by simp [World.drewN]; omega) (fun k' hk' => (HO2.out.lt k' hk').1))
                clear hown3 hgrow
                go_wp2_with fail
                go_roundw
                case rel => exact ⟨k + 1, by omega, by first | go_num | rfl, by rw [ES2.out]; exact N.out, BG.out⟩
                case measure => simp [intOf]; omega
            · rw [List.concat_eq_append] at e
              subst e
              obtain ⟨to1, zb0, zb1⟩ := TO'.out ds z rfl
              have hn2 : ds.length + 1 = n := by have := HN.out; simpa using this
              have dl : ds.length ≤ 60 := by have := RL.out; simp at this; omega
              have HTO := hide (show u ≤ z.2 + 1 ↔ u = z.2 from to1)
              clear to1 TO' RL HN
              subst hn2
              obtain ⟨g, rfl⟩ : ∃ g, av = some ⟨g, 0, none⟩ := by
                rcases HO2.out.2 with ⟨_, e⟩ | ⟨g, cap', cur, e, _⟩
                · omega
                · cases e; exact ⟨g, rfl⟩
              have c2 := HO2.out.cellAt (ds.length * 2 + 1) (by omega)
              rw [rowOf_get2] at c2
              have f2 := HO2.out.frozenAt (ds.length * 2 + 1)
              have ST := hide fun n => ((owns_drewN HO2.out n).stored (ds.length * 2 + 1) (.int .i64 v)).1
              rw [rowOf_set] at ST
              have ES2 := hide (ES'.out.trans (appR_snoc ds z (u, v)))
              obtain ⟨p, s⟩ := z
              simp only at c2 zb0 zb1 HTO ES2 ST
              have ws : IntKind.wrap .i64 (s + 1) = s + 1 := IntWalk.i64_in _ (by omega)
              have hm0 : (0 : Int) ≤ (ds.length : Int) := by omega
              have hm1 : (ds.length : Int) < (ds.length : Int) + 1 := by omega
              have hm2 : (0 : Int) < (ds.length : Int) + 1 := by omega
              have dm : decide ((0 : Int) < (ds.length : Int) + 1) = true := decide_eq_true (by omega)
              have hwk : IntKind.wrap .i64 (ds.length : Int) = ds.length := IntWalk.i64_in _ (by omega)
              have gb := hide ((HO2.out.lt) g rfl).1
              clear ES'
              by_cases ht2 : u = s
              · have dt : decide (u ≤ s + 1) = true := decide_eq_true (HTO.out.2 ht2)
                have ES3 := hide (ES2.out.trans (if_pos ht2))
                clear ES2 HTO ht2
                go_wp2_with fail
                go_quiet (fail)
                go_wp2_with fail
                go_roundw
                case rel => exact ⟨k + 1, by omega, by first | go_num | rfl, by rw [ES3.out]; simpa using ST.out _, (below_drewN B2W.out _).setCell (p := ⟨g, ds.length * 2 + 1, none⟩) gb.out _⟩
                case measure => simp [intOf]; omega
              · have dt : decide (u ≤ s + 1) = false := decide_eq_false (fun h => ht2 (HTO.out.1 h))
                have ES3 := hide (ES2.out.trans (if_neg ht2))
                clear ES2 HTO ht2
                go_wp2_with fail
                go_quiet (fail)
                go_wp2_with (at_builtin; refine wpList_append_own _ rfl (.tmp 106) (.tmp 108) 43 rfl w2.heap.size 46 ti (.agg #[.int .i64 0, .int .i64 0]) 2 16 Try.underlying43 TI.out HZ0.out HZ1.out HZ2.out rfl (by decide) _ (ds.length + 1) (rowOf (ds ++ [(p, s)])) rfl ((owns_drewN HO2.out _).alloc _) ⟨wc.heap.size, 0, none⟩ 1 1 [.int .i64 u, .int .i64 v] rfl rfl ?_ ?_ ?_ ?_ ?_ ?_)
                · exact two_cells (cell_newW wc _ _ _ 0) (cell_newW wc _ _ _ 1)
                · intro x hx; simp at hx; rcases hx with rfl | rfl <;> rfl
                · unfold maxLen; omega
                · omega
                · simp [World.drewN]; omega
                · intro v' w3 hown3 hgrow _
                  have N := hide (show w3.ownsRow w2.heap.size 46 2 v' (ds ++ [(p, s)] ++ [(u, v)]).length (rowOf (ds ++ [(p, s)] ++ [(u, v)])) by rw [rowOf_snoc _ (u, v)]; simpa using hown3)
                  have BG := hide (Below.grown (balloc (below_drewN B2W.out _)) hgrow (by simp [World.drewN]; omega) (fun k' hk' => (HO2.out.lt k' hk').1))
                  clear hown3 hgrow
                  go_wp2_with fail
                  go_roundw
                  case rel => exact ⟨k + 1, by omega, by first | go_num | rfl, by rw [ES3.out]; exact N.out, BG.out⟩
                  case measure => simp [intOf]; omega
    · have jl : ¬ (k : Int) + 1 < (ks.length : Int) := by omega
      have e : k = ks.length - 1 := by omega
      have HRK := hide (show wAll lo hi (segs ks (ks.length - 1)) = rs by rw [← e]; exact HRS.out)
      have BF := hide (bnext B2.out HB.out)
      clear e
      go_wp2_with fail
      go_ret2
      exact ⟨_, rfl, by rw [HRK.out, HN.out]; exact owns_base HO.out B2.out.size, BF.out⟩

theorem refWhere_any (ks : List (Int × Int)) (a : Option Addr) (cap : Nat) (lo hi : Int) (w : World) (hl : ks.length ≤ 8796093022208) (hw : Wide ks) (h : IsPairs w a ks) :
    Calls Try.prog 55 #[.slice a ks.length cap, .agg #[.int .i64 lo, .int .i64 hi]] w fun e w' => WhP ks lo hi w e w' := by
  have hT : TbC ks (tabOk ks) := fun a cap W hi => refTable_any ks a cap W hl hw hi
  have hR : RgC lo hi (rangeOk (lo, hi)) := fun W => refRange_any lo hi W
  have r1 : [(lo, hi)].all rangeOk = rangeOk (lo, hi) := by simp
  cases h1 : tabOk ks with
  | false =>
    rw [h1] at hT
    exact refWhere_bad ks a cap lo hi false _ w hT hR (.inl rfl) (show whereTQ ks lo hi = ([], 2) by unfold whereTQ; rw [if_pos h1]) h
  | true =>
    rw [h1] at hT
    cases h2 : rangeOk (lo, hi) with
    | false =>
      rw [h2] at hR
      exact refWhere_bad ks a cap lo hi true false w hT hR (.inr ⟨rfl, rfl⟩) (show whereTQ ks lo hi = ([], 2) by unfold whereTQ; rw [if_neg (by simp [h1]), r1, if_pos h2]) h
    | true =>
      rw [h2] at hR
      obtain ⟨l0, l1⟩ := len_of h1
      have e : whereTQ ks lo hi = (wAll lo hi (segs ks (ks.length - 1)), 0) := by unfold whereTQ; rw [if_neg (by simp [h1]), r1, if_neg (by simp [h2])]
      unfold WhP
      rw [e]
      exact refWhere_good ks a cap lo hi w hT hR h1 l0 l1 h
end Go.Proofs.Ytckapcfofkeicaa
