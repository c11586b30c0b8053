/-
  UnitsThroughs: the reference's Through.
-/
import Derived.Test.YtckapcfofkeicaaThW
import Derived.Deep.CutRange
namespace Go.Proofs.Ytckapcfofkeicaa
set_option linter.unusedSimpArgs false
set_option linter.unusedVariables false
open Go.RowKit

set_option maxRecDepth 100000 in
set_option maxHeartbeats 3200000 in
theorem refThrough_long (ts : List Tb) (a : Option Addr) (cap : Nat) (lo hi : Int) (w : World) (hl : ts.length ≤ 140737488351232) (hf : 10 < ts.length) :
    Calls Try.prog 58 #[.slice a ts.length cap, .agg #[.int .i64 lo, .int .i64 hi]] w fun e w' => ThP (0, 0, 0, 5) w e w' := by
  have d1 : decide (10 < (ts.length : Int)) = true := decide_eq_true (by omega)
  go_enter Try.func58, Try.ntmps58
  go_wp2_with fail
  exact bodyPost_ret (v := .tuple #[.agg #[.int .i64 0, .int .i64 0], .int .i64 0, .int .i64 5]) (by simp [results, Try.results58, go_sem]) rfl ⟨rfl, (by repeat (first | exact Below.refl _ _ | assumption | apply balloc | apply bdrew | (refine bset ?_ (by first | (simp; done) | omega | (simp; omega)) _) | (refine bnext ?_ (by assumption))))⟩

theorem all_take {ts : List Tb} {k : Nat} (hk : k < ts.length) (h : (ts.take k).all Tb.ok = true) (h1 : tabOk (ts.getD k default).ks = true) : (ts.take (k + 1)).all Tb.ok = true := by
  rw [List.take_succ_eq_append_getElem hk, List.all_append, h]
  have : ts[k] = ts.getD k default := by simp [List.getD_eq_getElem?_getD, hk]
  rw [this, Bool.true_and, List.all_cons, List.all_nil, Bool.and_true]
  exact h1
theorem all_not {ts : List Tb} {k : Nat} (hk : k < ts.length) (h1 : tabOk (ts.getD k default).ks = false) : ts.all Tb.ok = false := by
  rw [List.all_eq_false]
  refine ⟨ts[k], List.getElem_mem hk, ?_⟩
  have : ts[k] = ts.getD k default := by simp [List.getD_eq_getElem?_getD, hk]
  rw [this]
  show ¬ tabOk _ = true
  rw [h1]
  simp
/-- What lay there before a call reads as before, behind the call and behind a new object. -/
theorem bcell1 {W w1 : World} (hb : Below W.heap.size W w1) : ((∀ b o, b < W.heap.size → w1.cell? ⟨b, o, none⟩ = W.cell? ⟨b, o, none⟩) ∧ (∀ b o, b < W.heap.size → w1.frozen? ⟨b, o, none⟩ = W.frozen? ⟨b, o, none⟩)) ∧ W.heap.size ≤ w1.heap.size :=
  ⟨⟨fun b o h => hb.cell (p := ⟨b, o, none⟩) h, fun b o h => hb.frozen (p := ⟨b, o, none⟩) h⟩, hb.size⟩

set_option maxRecDepth 100000 in
set_option maxHeartbeats 6400000 in
theorem refThrough_go (ts : List Tb) (a : Option Addr) (cap : Nat) (lo hi : Int) (R : Int × Int × Int × Int) (w : World) (hl : ts.length ≤ 10) (h : Hid (IsTabs w a ts)) (hw : Hid (∀ i, i < ts.length → Wide (ts.getD i default).ks)) (hR : Hid (thrQ ts lo hi = R)) :
    Calls Try.prog 58 #[.slice a ts.length cap, .agg #[.int .i64 lo, .int .i64 hi]] w fun e w' => ThP R w e w' := by
  have d1 : decide (10 < (ts.length : Int)) = false := decide_eq_false (by omega)
  have dT := hide (show decide ((ts.length : Int) ≤ 10) = true from decide_eq_true (by omega))
  go_enter Try.func58, Try.ntmps58
  go_wp2_with fail
  go_loopw [7] (fun i wr => ∃ k : Nat, k ≤ ts.length ∧ i = .int .i64 (k : Int) ∧ Hid ((ts.take k).all Tb.ok = true) ∧ ((CF wr ⟨w.heap.size, 0, none⟩ (.int .i64 lo) ∧ CF wr ⟨w.heap.size, 1, none⟩ (.int .i64 hi)) ∧ CF wr ⟨w.heap.size + 1, 0, none⟩ (.int .i64 0) ∧ CF wr ⟨w.heap.size + 1, 1, none⟩ (.int .i64 0)) ∧ Below w.heap.size w wr) (fun i _ => ts.length - (intOf i).toNat)
  case atStart => exact ⟨0, by omega, rfl, (by rfl), ⟨⟨⟨(by simp [go_sem, World.cell?_alloc_past]), (by simp [go_sem, World.cell?_alloc_past])⟩, (by simp [go_sem, World.cell?_alloc_past]), (by simp [go_sem, World.cell?_alloc_past])⟩, ⟨(by simp [go_sem, World.cell?_alloc_past]), (by simp [go_sem, World.cell?_alloc_past])⟩, (by simp [go_sem, World.cell?_alloc_past]), (by simp [go_sem, World.cell?_alloc_past])⟩, (by repeat (first | exact Below.refl _ _ | assumption | apply balloc | apply bdrew | (refine bset ?_ (by first | (simp; done) | omega | (simp; omega)) _) | (refine bnext ?_ (by assumption))))⟩
  case round =>
    obtain ⟨k, hk, rfl, HA, ⟨⟨F0, F1⟩, F2, F3⟩, hb⟩ := hrel
    have G0 := hide F0
    have G1 := hide F1
    have G2 := hide F2
    have G3 := hide F3
    clear F0 F1 F2 F3
    by_cases hlt : k < ts.length
    · obtain ⟨b, off, rfl, ht⟩ : ∃ b off, a = some ⟨b, off, none⟩ ∧ ∀ i, i < ts.length → wr.cell? ⟨b, off + i, none⟩ = some (.slice (ts.getD i default).a (ts.getD i default).ks.length (ts.getD i default).cap) ∧ IsPairs wr (ts.getD i default).a (ts.getD i default).ks ∧ (ts.getD i default).ks.length ≤ 8796093022208 := by
        rcases tabs_later h.out hb with h | h
        · subst h; simp at hlt
        · exact h
      obtain ⟨t1, t2, t3⟩ := ht k hlt
      have S1 := hide (fun h => all_take hlt HA.out h)
      have S2 := hide (fun h => all_not hlt h)
      have wd := hw.out k hlt
      generalize ts.getD k default = t at *
      obtain ⟨ta, tc, tk⟩ := t
      simp only at t1 t2 t3 wd
      have T := hide (fun W (hp : IsPairs W ta tk) => refTable_any tk ta tc W t3 wd hp)
      have HT := hide t2
      have hk00 : 0 ≤ (k : Int) := by omega
      have hkl0 : (k : Int) < (ts.length : Int) := by omega
      clear ht t2 wd
      cases hv : tabOk tk with
      | true =>
        rw [hv] at T
        have S := hide (S1.out hv)
        clear hv S1 S2
        go_wp2_with fail
        refine (T.out _ HT.out).mono ?_
        rintro e w1 ⟨rfl, hb1⟩
        go_wp2_with fail
        go_roundw
        case rel => exact ⟨k + 1, by omega, by go_num, S, ⟨⟨cf_later hb1 G0.out, cf_later hb1 G1.out⟩, cf_later hb1 G2.out, cf_later hb1 G3.out⟩, bnext hb hb1⟩
        case measure => simp [intOf]; omega
      | false =>
        rw [hv] at T
        have R2 : (0, 0, 0, 2) = R := by
          rw [← hR.out]; unfold thrQ; rw [dT.out, if_neg (by simp), S2.out hv, if_pos rfl]
        have HR2 := hide R2
        clear hv S1 S2 R2
        go_wp2_with fail
        refine (T.out _ HT.out).mono ?_
        rintro e w1 ⟨rfl, hb1⟩
        obtain ⟨c4, f4⟩ := cf_later hb1 G2.out
        obtain ⟨c5, f5⟩ := cf_later hb1 G3.out
        go_wp2_with fail
        have yz := two_set (x := .int .i64 0) (y := .int .i64 0) c4 c5
        refine bodyPost_ret (v := .tuple #[.agg #[.int .i64 0, .int .i64 0], .int .i64 0, .int .i64 2]) (by simp [results, Try.results58, go_sem, yz.1, yz.2, c4, c5]) rfl ⟨by rw [← HR2.out], ?_⟩
        exact (by repeat (first | exact Below.refl _ _ | assumption | apply balloc | apply bdrew | (refine bset ?_ (by first | (simp; done) | omega | (simp; omega)) _) | (refine bnext ?_ (by assumption))))
    · obtain rfl : k = ts.length := by omega
      have hA : ts.all Tb.ok = true := by have := HA.out; rwa [List.take_of_length_le (Nat.le_refl _)] at this
      have RG := fun W => refRange_any lo hi W
      have r1 : [(lo, hi)].all rangeOk = rangeOk (lo, hi) := by simp
      cases hv : rangeOk (lo, hi) with
      | false =>
        rw [hv] at RG
        have HRG := hide RG
        have R2 : (0, 0, 0, 2) = R := by
          rw [← hR.out]; unfold thrQ; rw [dT.out, if_neg (by simp), hA, if_neg (by simp), r1, hv, if_pos rfl]
        have HR2 := hide R2
        clear hv R2 hA RG r1
        obtain ⟨c0, f0⟩ := G0.out
        obtain ⟨c1, f1⟩ := G1.out
        go_wp2_with fail
        refine (HRG.out _).mono ?_
        rintro e w1 ⟨rfl, hb1⟩
        obtain ⟨c4, f4⟩ := cf_later hb1 G2.out
        obtain ⟨c5, f5⟩ := cf_later hb1 G3.out
        clear c0 c1 f0 f1
        go_wp2_with fail
        have yz := two_set (x := .int .i64 0) (y := .int .i64 0) c4 c5
        refine bodyPost_ret (v := .tuple #[.agg #[.int .i64 0, .int .i64 0], .int .i64 0, .int .i64 2]) (by simp [results, Try.results58, go_sem, yz.1, yz.2, c4, c5]) rfl ⟨by rw [← HR2.out], ?_⟩
        exact (by repeat (first | exact Below.refl _ _ | assumption | apply balloc | apply bdrew | (refine bset ?_ (by first | (simp; done) | omega | (simp; omega)) _) | (refine bnext ?_ (by assumption))))
      | true =>
        rw [hv] at RG
        have HRG := hide RG
        have R0 : thrL lo hi 0 (ts.map Tb.ks) = R := by
          rw [← hR.out]; unfold thrQ; rw [dT.out, if_neg (by simp), hA, if_neg (by simp), r1, hv, if_neg (by simp)]
        have HR0 := hide R0
        clear hv R0 hA RG r1
        obtain ⟨c0, f0⟩ := G0.out
        obtain ⟨c1, f1⟩ := G1.out
        go_wp2_with fail
        refine (HRG.out _).mono ?_
        rintro e w1 ⟨rfl, hb1⟩
        have K0 := hide (cf_later hb1 G0.out)
        have K1 := hide (cf_later hb1 G1.out)
        have K2 := hide (cf_later hb1 G2.out)
        have K3 := hide (cf_later hb1 G3.out)
        have KB := hide (bnext hb hb1)
        clear c0 c1 f0 f1 G0 G1 G2 G3 hb hb1
        go_wp2_with fail
        go_loopw [8] (fun i wr => ∃ (k : Nat) (l u : Int), k ≤ ts.length ∧ i = .int .i64 (k : Int) ∧ ((CF wr ⟨w.heap.size, 0, none⟩ (.int .i64 l) ∧ CF wr ⟨w.heap.size, 1, none⟩ (.int .i64 u)) ∧ CF wr ⟨w.heap.size + 1, 0, none⟩ (.int .i64 0) ∧ CF wr ⟨w.heap.size + 1, 1, none⟩ (.int .i64 0)) ∧ Hid (thrL l u k ((ts.map Tb.ks).drop k) = R) ∧ Below w.heap.size w wr) (fun i _ => ts.length - (intOf i).toNat)
        case atStart => exact ⟨0, lo, hi, by omega, rfl, ⟨⟨K0.out, K1.out⟩, K2.out, K3.out⟩, HR0, KB.out⟩
        case round =>
          obtain ⟨k, l, u, hk, rfl, ⟨⟨F0, F1⟩, F2, F3⟩, HR, hb⟩ := hrel
          have G0 := hide F0
          have G1 := hide F1
          have G2 := hide F2
          have G3 := hide F3
          clear K0 K1 K2 K3 KB F0 F1 F2 F3
          by_cases hlt2 : k < ts.length
          · obtain ⟨b, off, rfl, ht⟩ : ∃ b off, a = some ⟨b, off, none⟩ ∧ ∀ i, i < ts.length → wr.cell? ⟨b, off + i, none⟩ = some (.slice (ts.getD i default).a (ts.getD i default).ks.length (ts.getD i default).cap) ∧ IsPairs wr (ts.getD i default).a (ts.getD i default).ks ∧ (ts.getD i default).ks.length ≤ 8796093022208 := by
              rcases tabs_later h.out hb with h | h
              · subst h; simp at hlt2
              · exact h
            obtain ⟨t1, t2, t3⟩ := ht k hlt2
            have e0 := tabs_get hlt2
            have wd := hw.out k hlt2
            generalize ts.getD k default = t at *
            obtain ⟨ta, tc, tk⟩ := t
            simp only at t1 t2 t3 e0 wd
            obtain ⟨⟨x, y, F⟩, hv⟩ : ∃ v, valueQ tk l u = v := ⟨_, rfl⟩
            have V := hide (fun W (hp : IsPairs W ta tk) => (show Calls Try.prog 51 #[.slice ta tk.length tc, .agg #[.int .i64 l, .int .i64 u]] W fun e w' => e = .returned (.tuple #[.agg #[.int .i64 x, .int .i64 y], .int .i64 F]) ∧ Below W.heap.size W w' by have := refValue_any tk ta tc l u W t3 wd hp; rwa [hv] at this))
            have ST := hide (thrL_step (lo := l) (hi := u) (x := x) (y := y) (F := F) (kss := ts.map Tb.ks) (by simpa using hlt2) (by rw [e0]; exact hv))
            have VW := hide (fun (W : World) (hbW : Below wr.heap.size wr W) => V.out W (pairs_later t2 hbW))
            have KP := hide (fun (W : World) (hbW : Below wr.heap.size wr W) => (show (W.cell? ⟨b, off + k, none⟩ = some (.slice ta tk.length tc) ∧ W.cell? ⟨w.heap.size, 0, none⟩ = some (.int .i64 l) ∧ W.cell? ⟨w.heap.size, 1, none⟩ = some (.int .i64 u)) ∧ Below wr.heap.size wr W from ⟨⟨later hbW t1, later hbW G0.out.1, later hbW G1.out.1⟩, hbW⟩))
            have hk00 : 0 ≤ (k : Int) := by omega
            have hkl0 : (k : Int) < (ts.length : Int) := by omega
            have hsz : w.heap.size + 1 < wr.heap.size := World.block_lt_of_cell? _ _ G2.out.1
            have HB := hide hb
            clear ht e0 hv t2 wd hb t1
            go_upto_region 13 with fail
            go_cut [9, 10] from 32 to 52 (fun s9 s10 wx => s10 = .int .i64 F ∧ ∃ q : Nat, s9 = .pointer (some ⟨q, 0, none⟩) ∧ (wx.cell? ⟨q, 0, none⟩ = some (.int .i64 x) ∧ wx.cell? ⟨q, 1, none⟩ = some (.int .i64 y)) ∧ w.heap.size + 1 < q ∧ Below wr.heap.size wr wx)
            case first => as_aux_lemma =>
              have K0 := (KP.out wr (Below.refl _ _)).1
              go_region_held3 (fun w' => (w'.cell? ⟨b, off + k, none⟩ = some (.slice ta tk.length tc) ∧ w'.cell? ⟨w.heap.size, 0, none⟩ = some (.int .i64 l) ∧ w'.cell? ⟨w.heap.size, 1, none⟩ = some (.int .i64 u)) ∧ Below wr.heap.size wr w')
                ((go_split_ands; refine KP.out _ ?_; exact (by repeat (first | exact Below.refl _ _ | assumption | apply balloc | apply bdrew | (refine bset ?_ (by first | (simp; done) | omega | (simp; omega)) _) | (refine bnext ?_ (by assumption))))))
                (first | (go_at_call 51; refine (VW.out _ (by exact (by repeat (first | exact Below.refl _ _ | assumption | apply balloc | apply bdrew | (refine bset ?_ (by first | (simp; done) | omega | (simp; omega)) _) | (refine bnext ?_ (by assumption)))))).mono ?_; rintro e wB ⟨rfl, hbB⟩; obtain ⟨⟨hcB, hfB⟩, hsB⟩ := bcell1 hbB; (try simp at hsB)))
              all_goals
                go_wp2_with fail
                go_meet
                refine ⟨rfl, _, rfl, ⟨?_, ?_⟩, ?_, ?_⟩
                · first | (simp [go_sem]; done) | (simp (maxDischargeDepth := 8) [go_sem, hcB, hfB]; done)
                · first | (simp [go_sem]; done) | (simp (maxDischargeDepth := 8) [go_sem, hcB, hfB]; done)
                · omega
                · exact (by repeat (first | exact Below.refl _ _ | assumption | apply balloc | apply bdrew | (refine bset ?_ (by first | (simp; done) | omega | (simp; omega)) _) | (refine bnext ?_ (by assumption))))
            case rest =>
              obtain ⟨rfl, q, rfl, ⟨q0, q1⟩, hq, hbx⟩ := hcut
              have L0 := hide (cf_later hbx G0.out)
              have L1 := hide (cf_later hbx G1.out)
              have L2 := hide (cf_later hbx G2.out)
              have L3 := hide (cf_later hbx G3.out)
              have B1 := hide (bnext HB.out hbx)
              by_cases hF : F = 0
              · subst hF
                have R2 := hide (show thrL x y (k + 1) ((ts.map Tb.ks).drop (k + 1)) = R by have := ST.out; rw [if_pos rfl] at this; exact this.symm.trans HR.out)
                obtain ⟨c4, f4⟩ := L0.out
                obtain ⟨c5, f5⟩ := L1.out
                have yy := two_set (x := .int .i64 x) (y := .int .i64 y) c4 c5
                clear hbx
                go_wp2_with fail
                go_roundw
                case rel => exact ⟨k + 1, x, y, by omega, by go_num, ⟨⟨⟨yy.1, by simpa using f4⟩, yy.2, by simpa using f5⟩, cf_set2 (by omega) L2.out, cf_set2 (by omega) L3.out⟩, R2, bset (bset B1.out (by simp) _) (by simp) _⟩
                case measure => simp [intOf]; omega
              · have hF2 : (F != 0) = true := by simpa using hF
                have R2 : (0, 0, (k : Int), F) = R := by have := ST.out; rw [if_neg hF] at this; exact this.symm.trans HR.out
                have HR2 := hide R2
                clear R2 hF hbx
                obtain ⟨c4, f4⟩ := L2.out
                obtain ⟨c5, f5⟩ := L3.out
                have yz := two_set (x := .int .i64 0) (y := .int .i64 0) c4 c5
                go_wp2_with fail
                refine bodyPost_ret (v := .tuple #[.agg #[.int .i64 0, .int .i64 0], .int .i64 k, .int .i64 F]) (by simp [results, Try.results58, go_sem, yz.1, yz.2, c4, c5]) rfl ⟨by rw [← HR2.out], ?_⟩
                exact bset (bset B1.out (by simp) _) (by simp) _
          · obtain rfl : k = ts.length := by omega
            have R2 : (l, u, 0, 0) = R := by have := HR.out; rw [List.drop_eq_nil_of_le (by simp)] at this; exact this
            have HR2 := hide R2
            clear R2
            obtain ⟨c0, f0⟩ := G0.out
            obtain ⟨c1, f1⟩ := G1.out
            obtain ⟨c4, f4⟩ := G2.out
            obtain ⟨c5, f5⟩ := G3.out
            have yz := two_set (x := .int .i64 l) (y := .int .i64 u) c4 c5
            go_wp2_with fail
            refine bodyPost_ret (v := .tuple #[.agg #[.int .i64 l, .int .i64 u], .int .i64 0, .int .i64 0]) (by simp [results, Try.results58, go_sem, yz.1, yz.2]) rfl ⟨by rw [← HR2.out], ?_⟩
            exact bset (bset hb (by simp) _) (by simp) _
theorem refThrough_any (ts : List Tb) (a : Option Addr) (cap : Nat) (lo hi : Int) (w : World) (hl : ts.length ≤ 140737488351232) (h : IsTabs w a ts) (hw : ∀ i, i < ts.length → Wide (ts.getD i default).ks) :
    Calls Try.prog 58 #[.slice a ts.length cap, .agg #[.int .i64 lo, .int .i64 hi]] w fun e w' => ThP (thrQ ts lo hi) w e w' := by
  by_cases h1 : 10 < ts.length
  · have e : thrQ ts lo hi = (0, 0, 0, 5) := by unfold thrQ; rw [decide_eq_false (by omega), if_pos rfl]
    rw [e]
    exact refThrough_long ts a cap lo hi w hl h1
  · exact refThrough_go ts a cap lo hi _ w (by omega) h hw rfl
end Go.Proofs.Ytckapcfofkeicaa
