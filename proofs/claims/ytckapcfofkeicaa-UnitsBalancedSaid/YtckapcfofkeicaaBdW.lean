/-
  UnitsBalanced: the walk.
-/
import Derived.Test.YtckapcfofkeicaaBdN
import Derived.Test.YtckapcfofkeicaaPlc
import Derived.Test.YtckapcfofkeicaaAll
import Derived.Test.YtckapcfofkeicaaFrameE
import Derived.Deep.AppendLies
import Derived.Deep.RegionHeld3
import Derived.BigQuiet
namespace Go.Proofs.Ytckapcfofkeicaa
set_option linter.unusedSimpArgs false
set_option linter.unusedVariables false
open Go.RowKit

/-- A list of small numbers. -/
def IsSmall (w : World) (a : Option Addr) (zs : List Int) : Prop :=
  zs = [] ∨ ∃ b off, a = some ⟨b, off, none⟩ ∧ ∀ i, i < zs.length → w.cell? ⟨b, off + i, none⟩ = some (.int .u16 (zs.getD i 0)) ∧ 0 ≤ zs.getD i 0 ∧ zs.getD i 0 ≤ 65535
theorem small_later {w W : World} {a : Option Addr} {zs : List Int} (h : IsSmall w a zs) (hb : Below w.heap.size w W) : IsSmall W a zs := by
  rcases h with h | ⟨b, off, e, h⟩
  · exact .inl h
  · exact .inr ⟨b, off, e, fun i hi => ⟨later hb (h i hi).1, (h i hi).2⟩⟩
theorem one_cellB {W : World} {ad : Addr} {v : Value} (h : W.cell? ad = some v) : ∀ j u, ([v] : List Value)[j]? = some u → W.cell? (ad.add j) = some u := by
  intro j u hu
  match j, hu with
  | 0, hu =>
    simp at hu
    subst hu
    simpa [Addr.add] using h
  | j + 1, hu => simp at hu

theorem bcellb1 {W w1 : World} (hb : Below W.heap.size W w1) : ((∀ b o, b < W.heap.size → w1.cell? ⟨b, o, none⟩ = W.cell? ⟨b, o, none⟩) ∧ (∀ b o, b < W.heap.size → w1.frozen? ⟨b, o, none⟩ = W.frozen? ⟨b, o, none⟩)) ∧ W.heap.size ≤ w1.heap.size :=
  ⟨⟨fun b o h => hb.cell (p := ⟨b, o, none⟩) h, fun b o h => hb.frozen (p := ⟨b, o, none⟩) h⟩, hb.size⟩
/-- The same behind two calls. -/
theorem bcell2 {W w1 W2 w2 : World} (hb : Below W.heap.size W w1) (hm : Below w1.heap.size w1 W2) (hb2 : Below W2.heap.size W2 w2) : ((∀ b o, b < W.heap.size → w2.cell? ⟨b, o, none⟩ = W.cell? ⟨b, o, none⟩) ∧ (∀ b o, b < W.heap.size → w2.frozen? ⟨b, o, none⟩ = W.frozen? ⟨b, o, none⟩)) ∧ W.heap.size ≤ w2.heap.size :=
  bcellb1 (bnext (bnext hb hm) hb2)
/-- Pairs in a block of their own read as before behind a write elsewhere. -/
theorem pairs_set {W : World} {b : Option Addr} {N : List (Int × Int)} {q o : Nat} {v : Value} (h : IsPairs W b N) (hg : N = [] ∨ ∃ g, b = some ⟨g, 0, none⟩ ∧ q < g) : IsPairs (W.setCell ⟨q, o, none⟩ v) b N := by
  rcases hg with hg | ⟨g, rfl, hne⟩
  · exact .inl hg
  · rcases h with h | ⟨b', off, e, h⟩
    · exact .inl h
    · cases e
      have hn : q ≠ g := by omega
      have hn' : g ≠ q := by omega
      exact .inr ⟨g, 0, rfl, fun i hi => ⟨by have := (h i hi).1; simpa [go_sem, hn, hn'] using this, by have := (h i hi).2; simpa [go_sem, hn, hn'] using this⟩⟩
theorem pairs_set2 {W : World} {b : Option Addr} {N : List (Int × Int)} {q m : Nat} {v u : Value} (h : IsPairs W b N) (hg : N = [] ∨ ∃ g, b = some ⟨g, 0, none⟩ ∧ m ≤ g) (hm : q < m) : IsPairs ((W.setCell ⟨q, 0, none⟩ v).setCell ⟨q, 1, none⟩ u) b N :=
  have hg' : N = [] ∨ ∃ g, b = some ⟨g, 0, none⟩ ∧ q < g := hg.imp id fun ⟨g, e, hg⟩ => ⟨g, e, by omega⟩
  pairs_set (pairs_set h hg') hg'
set_option maxRecDepth 100000 in
set_option maxHeartbeats 6400000 in
theorem balanced_go (rs : List (Int × Int)) (zs : List Int) (a at' : Option Addr) (cap capt : Nat) (u0 u1 : Int) (w : World) (hl : rs.length ≤ 12) (hz : zs.length ≤ 9223372036854775807) (h : Hid (IsPairs w a rs)) (hA : Hid (a = none → cap = 0 ∧ rs = [])) (hs : Hid (IsSmall w at' zs)) (a00 : 0 ≤ u0) (a01 : u0 ≤ 4294967295) (a10 : 0 ≤ u1) (a11 : u1 ≤ 4294967295) :
    Calls Try.prog 18 #[.slice a rs.length cap, .slice at' zs.length capt, .agg #[.int .u32 u0, .int .u32 u1]] w fun e w' => e = .returned (.bool true) ∧ Below w.heap.size w w' := by
  have d1 : decide (12 < (rs.length : Int)) = false := decide_eq_false (by omega)
  obtain ⟨ti, hi', hz0, hz1, hz2⟩ := info_parts int_info
  have TI := hide hi'
  have HZ0 := hide hz0
  have HZ1 := hide hz1
  have HZ2 := hide hz2
  clear hi' hz0 hz1 hz2
  have OWN := hide (World.ownsRow_lit (base := w.heap.size + 1) (e := 3) (size := 1) (w.alloc (.cells #[.int .u32 u0, .int .u32 u1] 93)) #[] 0 (by simp) (by unfold maxLen; omega) rfl)
  go_enter Try.func18, Try.ntmps18
  go_wp2_with fail
  go_loopw [7, 8, 9] (fun s v i wr => ∃ k : Nat, k ≤ rs.length ∧ i = .int .i64 (k : Int) ∧ s = .int .i64 (sm (tF rs zs) k) ∧ (∃ g c, v = .slice (some ⟨g, 0, none⟩) k c) ∧ wr.ownsRow (w.heap.size + 1) 3 1 v k (tRow rs zs k) ∧ (∀ j, j < k → triedOk rs j) ∧ (wr.cell? ⟨w.heap.size, 0, none⟩ = some (.int .u32 u0) ∧ wr.cell? ⟨w.heap.size, 1, none⟩ = some (.int .u32 u1)) ∧ Below w.heap.size w wr) (fun _ _ i _ => rs.length - (intOf i).toNat)
  case atStart => exact ⟨0, by omega, rfl, rfl, ⟨_, _, rfl⟩, (by simpa [tRow] using OWN.out), fun j hj => by omega, ⟨(by simp [go_sem, World.cell?_alloc_past]), (by simp [go_sem, World.cell?_alloc_past])⟩, (by repeat (first | exact Below.refl _ _ | assumption | apply balloc | apply bdrew | (refine bset ?_ (by first | (simp; done) | omega | (simp; omega)) _) | (refine bnext ?_ (by assumption))))⟩
  case round =>
    obtain ⟨k, hk, rfl, rfl, ⟨g0, c0, rfl⟩, ho, htr, ⟨p0, p1⟩, hb⟩ := hrel
    have HO := hide ho
    have HB1 := hide hb
    have HTR := hide htr
    have HP := hide (show (wr.cell? ⟨w.heap.size, 0, none⟩ = some (.int .u32 u0) ∧ wr.cell? ⟨w.heap.size, 1, none⟩ = some (.int .u32 u1)) from ⟨p0, p1⟩)
    have SB := sm_bounds (zs := zs) k (by omega) htr
    clear ho htr p0 p1
    by_cases hlt : k < rs.length
    · as_aux_lemma =>
      obtain ⟨b, off, rfl, hc⟩ : ∃ b off, a = some ⟨b, off, none⟩ ∧ ∀ i, i < rs.length → wr.cell? ⟨b, off + i * 2, none⟩ = some (.int .i64 (aF rs i)) ∧ wr.cell? ⟨b, off + i * 2 + 1, none⟩ = some (.int .i64 (bF rs i)) := by
        rcases pairs_later h.out hb with h | h
        · subst h; simp at hlt
        · exact h
      obtain ⟨c1, c2⟩ := hc k hlt
      have hblk : b < wr.heap.size := World.block_lt_of_cell? _ _ c1
      have hk00 : 0 ≤ (k : Int) := by omega
      have hkl0 : (k : Int) < (rs.length : Int) := by omega
      have TS := hide (tRow_succ rs zs k)
      have SS := hide (show sm (tF rs zs) (k + 1) = sm (tF rs zs) k + tF rs zs k from rfl)
      have TF := hide (show tF rs zs k = placeQ (aF rs k) (bF rs k) (byF zs k) from rfl)
      have OKK := hide (fun (o : triedOk rs k) => (show ∀ j, j < k + 1 → triedOk rs j by
        intro j hj
        rcases Nat.lt_or_ge j k with h2 | h2
        · exact HTR.out j h2
        · obtain rfl : j = k := by omega
          exact o))
      have OKI := hide (show triedOk rs k ↔ aF rs k ≤ bF rs k ∧ -1000000000000 ≤ aF rs k ∧ bF rs k ≤ 1000000000000 from Iff.rfl)
      clear hc
      obtain ⟨S, hS⟩ : ∃ S, sm (tF rs zs) k = S := ⟨_, rfl⟩
      rw [hS] at SB SS
      rw [hS]
      clear hS
      have HSM := hide (show k < zs.length → ∃ b2 off2, at' = some ⟨b2, off2, none⟩ ∧ wr.cell? ⟨b2, off2 + k, none⟩ = some (.int .u16 (byF zs k)) from fun h2 => by
        rcases small_later hs.out hb with h | ⟨b2, off2, e, h⟩
        · subst h; simp at h2
        · exact ⟨b2, off2, e, by rw [(h k h2).1]; simp [byF, h2]⟩)
      have HB0 := hide (show ¬ k < zs.length → byF zs k = 0 from fun h2 => by simp [byF, h2])
      have HBB := hide (show 0 ≤ byF zs k ∧ byF zs k ≤ 65535 by
        by_cases h2 : k < zs.length
        · rcases hs.out with h | ⟨b2, off2, e, h⟩
          · subst h; simp at h2
          · have := (h k h2).2; simpa [byF, h2] using this
        · simp [byF, h2])
      generalize byF zs k = B at *
      generalize aF rs k = x at *
      generalize bF rs k = y at *
      by_cases t1 : y < x
      · have e1 : decide (y < x) = true := decide_eq_true t1
        go_wp2_with fail
        go_quiet (fail)
        have BB := below_drewN hb nq
        go_wp2_with fail
        refine (known_any _).mono ?_
        rintro e w6 ⟨rfl, hb6⟩
        go_wp2_with fail
        go_ret
        exact ⟨rfl, (by repeat (first | exact Below.refl _ _ | assumption | apply balloc | apply bdrew | (refine bset ?_ (by first | (simp; done) | omega | (simp; omega)) _) | (refine bnext ?_ (by assumption))))⟩
      · have e1 : decide (y < x) = false := decide_eq_false t1
        by_cases t2 : x < -1000000000000
        · have e2 : decide (x < -1000000000000) = true := decide_eq_true t2
          go_wp2_with fail
          go_quiet (fail)
          have BB := below_drewN hb nq
          go_wp2_with fail
          refine (known_any _).mono ?_
          rintro e w6 ⟨rfl, hb6⟩
          go_wp2_with fail
          go_ret
          exact ⟨rfl, (by repeat (first | exact Below.refl _ _ | assumption | apply balloc | apply bdrew | (refine bset ?_ (by first | (simp; done) | omega | (simp; omega)) _) | (refine bnext ?_ (by assumption))))⟩
        · have e2 : decide (x < -1000000000000) = false := decide_eq_false t2
          by_cases t3 : 1000000000000 < y
          · have e3 : decide (1000000000000 < y) = true := decide_eq_true t3
            go_wp2_with fail
            go_quiet (fail)
            have BB := below_drewN hb nq
            go_wp2_with fail
            refine (known_any _).mono ?_
            rintro e w6 ⟨rfl, hb6⟩
            go_wp2_with fail
            go_ret
            exact ⟨rfl, (by repeat (first | exact Below.refl _ _ | assumption | apply balloc | apply bdrew | (refine bset ?_ (by first | (simp; done) | omega | (simp; omega)) _) | (refine bnext ?_ (by assumption))))⟩
          · have e3 : decide (1000000000000 < y) = false := decide_eq_false t3
            have OK1 := hide (OKK.out (OKI.out.2 ⟨by omega, by omega, by omega⟩))
            go_wp2_with fail
            go_quiet (fail)
            go_upto_if 65 with fail
            go_cut [10] from 28 to 84 (fun s10 wx => s10 = .int .u16 B ∧ Below wr.heap.size wr wx)
            case first => as_aux_lemma =>
              by_cases hz3 : k < zs.length
              · have e4 : decide ((k : Int) < (zs.length : Int)) = true := decide_eq_true (by omega)
                have hkz : (k : Int) < (zs.length : Int) := by omega
                obtain ⟨b2, off2, rfl, hc2⟩ := HSM.out hz3
                go_wp2_with fail
                go_meet
                exact ⟨rfl, below_drewN (Below.refl _ _) nq⟩
              · have e4 : decide ((k : Int) < (zs.length : Int)) = false := decide_eq_false (by omega)
                have hB0 := HB0.out hz3
                subst hB0
                go_wp2_with fail
                go_meet
                exact ⟨rfl, below_drewN (Below.refl _ _) nq⟩
            case rest =>
              obtain ⟨rfl, hbx⟩ := hcut
              have c1' := later hbx c1
              have c2' := later hbx c2
              have HBX := hide hbx
              clear c1 c2 hbx
              go_wp2_with fail
              refine (place_any x y B _ HBB.out.1 HBB.out.2).mono ?_
              rintro e w5 ⟨rfl, hb5⟩
              rw [← TF.out]
              have HB5 := hide hb5
              have HC12 := hide (And.intro c1' c2')
              clear c1' c2' hb5
              go_wp2_with (at_builtin; refine wpList_append_lies _ rfl (.tmp 70) (.tmp 77) 37 rfl (w.heap.size + 1) 3 ti (Value.int .i64 0) 1 8 Try.underlying37 TI.out HZ0.out HZ1.out HZ2.out rfl (by decide) _ k (tRow rs zs k) rfl ((owns_later HO.out (bnext HBX.out HB5.out)).alloc _) _ 1 1 [Value.int .i64 (tF rs zs k)] rfl rfl ?_ ?_ (by decide) ?_ ?_ ?_ _ rfl ?_)
              · exact one_cellB (by simp [go_sem, World.cell?_alloc_past])
              · intro u hu; simp at hu; subst hu; rfl
              · unfold maxLen; omega
              · omega
              · have s1 := HBX.out.size
                have s2 := HB5.out.size
                have s3 := HB1.out.size
                simp; omega
              · intro g gc w3 hown3 hgrow hx hlt3
                have G0 := HO.out.lt g0 rfl
                have s1 := HBX.out.size
                have s2 := HB5.out.size
                have s3 := HB1.out.size
                have hne : some w.heap.size ≠ (Value.slice (some ⟨g0, 0, none⟩) k c0).ownBlock := by simp [Value.ownBlock]; omega
                have hlt4 : w.heap.size < (w5.alloc (.cells #[Value.int .i64 (tF rs zs k)] 3)).heap.size := by simp; omega
                have x0 : w3.cell? ⟨w.heap.size, 0, none⟩ = some (.int .u32 u0) := by rw [hgrow.cell_far ⟨w.heap.size, 0, none⟩ hlt4 hne]; exact later (balloc (Below.refl _ _)) (later HB5.out (later HBX.out HP.out.1))
                have x1 : w3.cell? ⟨w.heap.size, 1, none⟩ = some (.int .u32 u1) := by rw [hgrow.cell_far ⟨w.heap.size, 1, none⟩ hlt4 hne]; exact later (balloc (Below.refl _ _)) (later HB5.out (later HBX.out HP.out.2))
                have nc : w3.cell? ⟨g, k, none⟩ = some (.int .i64 (tF rs zs k)) := by rw [hown3.cellAt k (by omega)]; simp [tRow]
                have N := hide (show w3.ownsRow (w.heap.size + 1) 3 1 (Value.slice (some ⟨g, 0, none⟩) (k + 1) gc) (k + 1) (tRow rs zs (k + 1)) by rw [TS.out]; exact hown3)
                have XC := hide (show (w3.cell? ⟨w.heap.size, 0, none⟩ = some (.int .u32 u0) ∧ w3.cell? ⟨w.heap.size, 1, none⟩ = some (.int .u32 u1)) from ⟨x0, x1⟩)
                have B3 := hide (Below.grown (balloc (o := .cells #[Value.int .i64 (tF rs zs k)] 3) (bnext (bnext HB1.out HBX.out) HB5.out)) hgrow (by omega) (fun k' hk' => by have := (HO.out.lt k' hk').1; omega))
                have sb := sm_bounds (zs := zs) (k + 1) (by omega) OK1.out
                rw [SS.out] at sb
                have hwr : IntKind.wrap .i64 (S + tF rs zs k) = S + tF rs zs k := IntWalk.i64_in _ (by omega)
                have hk1 : (k : Int) < ((k + 1 : Nat) : Int) := by omega
                clear hown3 hgrow hx hne x0 x1 sb
                go_wp2_with fail
                go_roundw
                case rel => exact ⟨k + 1, by omega, by go_num, by rw [SS.out], ⟨g, gc, rfl⟩, N.out, OK1.out, XC.out, B3.out⟩
                case measure => simp [intOf]; omega
    · obtain rfl : k = rs.length := by omega
      obtain ⟨S, hS⟩ : ∃ S, sm (tF rs zs) rs.length = S := ⟨_, rfl⟩
      rw [hS] at SB
      rw [hS]
      have HS := hide hS
      clear hS
      have w0 : IntKind.wrap .i64 (S - u0) = S - u0 := IntWalk.i64_in _ (by omega)
      have w1 : IntKind.wrap .i64 (S + u1) = S + u1 := IntWalk.i64_in _ (by omega)
      have v0 : IntKind.wrap .i64 u0 = u0 := IntWalk.i64_in _ (by omega)
      have v1 : IntKind.wrap .i64 u1 = u1 := IntWalk.i64_in _ (by omega)
      obtain ⟨p0, p1⟩ := HP.out
      obtain ⟨wl, hwl⟩ : ∃ x, S - u0 = x := ⟨_, rfl⟩
      obtain ⟨wh, hwh⟩ : ∃ x, S + u1 = x := ⟨_, rfl⟩
      have HWL := hide hwl
      have HWH := hide hwh
      rw [hwl] at w0
      rw [hwh] at w1
      clear hwl hwh
      go_upto_region 14 with fail
      go_cut [11] from 28 to 95 (fun s11 wx => s11 = .pointer (some ⟨wr.heap.size, 0, none⟩) ∧ (wx.cell? ⟨wr.heap.size, 0, none⟩ = some (.int .i64 wl) ∧ wx.cell? ⟨wr.heap.size, 1, none⟩ = some (.int .i64 wh)) ∧ Below wr.heap.size wr wx)
      case first => as_aux_lemma =>
        rw [← HWL.out, ← HWH.out] at *
        go_wp2_with fail
        go_meet
        exact ⟨rfl, ⟨(by simp [go_sem, World.cell?_alloc_past]), (by simp [go_sem, World.cell?_alloc_past])⟩, (by repeat (first | exact Below.refl _ _ | assumption | apply balloc | apply bdrew | (refine bset ?_ (by first | (simp; done) | omega | (simp; omega)) _) | (refine bnext ?_ (by assumption))))⟩
      case rest =>
        obtain ⟨rfl, ⟨q0, q1⟩, hbx⟩ := hcut
        obtain ⟨wo, rfl⟩ : ∃ wo : World, wo = wc := ⟨_, rfl⟩
        have HX := hide (bnext HB1.out hbx)
        have HAX := hide (fun (W : World) (hbW : Below wo.heap.size wo W) => ownRanges_any a cap rs W (by omega) hA.out (pairs_later h.out (bnext HX.out hbW)))
        have KP := hide (fun (W : World) (hbW : Below wo.heap.size wo W) => (show (W.cell? ⟨wr.heap.size, 0, none⟩ = some (.int .i64 wl) ∧ W.cell? ⟨wr.heap.size, 1, none⟩ = some (.int .i64 wh)) ∧ Below wo.heap.size wo W from ⟨⟨later hbW q0, later hbW q1⟩, hbW⟩))
        obtain ⟨N2, hN⟩ : ∃ x, balN rs wl wh = x := ⟨_, rfl⟩
        obtain ⟨S2, hS2⟩ : ∃ x, balS rs wl wh = x := ⟨_, rfl⟩
        obtain ⟨E2, hE2⟩ : ∃ x, balE rs wl wh = x := ⟨_, rfl⟩
        obtain ⟨sl, sh⟩ := S2
        have BC := hide (fun (W : World) (b : Option Addr) (c : Nat) (hp : IsPairs W b rs) => (show Calls Try.prog 46 #[.slice b rs.length c, .agg #[.int .i64 wl, .int .i64 wh]] W fun e w' => ∃ b' c', e = .returned (.tuple #[.slice b' N2.length c', .agg #[.int .i64 sl, .int .i64 sh], .int .i64 E2]) ∧ ((IsPairs w' b' N2 ∧ (N2 = [] ∨ ∃ g, b' = some ⟨g, 0, none⟩ ∧ W.heap.size ≤ g)) ∧ (b' = none → c' = 0 ∧ N2 = [])) ∧ Below W.heap.size W w' by have := balance_fresh rs b c wl wh W (by omega) hp; rwa [hN, hS2, hE2] at this))
        have HN := hide hN
        have HS2 := hide hS2
        have HE2 := hide hE2
        clear hN hS2 hE2
        go_upto_region 15 with fail
        go_cut [12, 13, 14] from 96 to 103 (fun s12 s13 s14 wx => s14 = .int .i64 E2 ∧ ∃ b2 c2 q, s12 = .slice b2 N2.length c2 ∧ s13 = .pointer (some ⟨q, 0, none⟩) ∧ (wx.cell? ⟨q, 0, none⟩ = some (.int .i64 sl) ∧ wx.cell? ⟨q, 1, none⟩ = some (.int .i64 sh)) ∧ (IsPairs wx b2 N2 ∧ (b2 = none → c2 = 0 ∧ N2 = [])) ∧ wo.heap.size ≤ q ∧ Below wo.heap.size wo wx)
        case first => as_aux_lemma =>
          have K0 := (KP.out wo (Below.refl _ _)).1
          go_region_held3 (fun w' => (w'.cell? ⟨wr.heap.size, 0, none⟩ = some (.int .i64 wl) ∧ w'.cell? ⟨wr.heap.size, 1, none⟩ = some (.int .i64 wh)) ∧ Below wo.heap.size wo w')
            ((go_split_ands; refine KP.out _ ?_; (try (have hsA := hbA.size; (try simp at hsA))); exact (by repeat (first | exact Below.refl _ _ | assumption | apply balloc | apply bdrew | (refine bset ?_ (by first | (simp; done) | omega | (simp; omega)) _) | (refine bnext ?_ (by assumption))))))
            (first | (go_at_call 30; refine (HAX.out _ (by exact (by repeat (first | exact Below.refl _ _ | assumption | apply balloc | apply bdrew | (refine bset ?_ (by first | (simp; done) | omega | (simp; omega)) _) | (refine bnext ?_ (by assumption)))))).mono ?_; rintro e wA ⟨b1, c1, rfl, hA1, hi1, hbA⟩; skip) | (go_at_call 46; refine (BC.out _ b1 c1 (pairs_later hi1 (by exact (by repeat (first | exact Below.refl _ _ | assumption | apply balloc | apply bdrew | (refine bset ?_ (by first | (simp; done) | omega | (simp; omega)) _) | (refine bnext ?_ (by assumption))))))).mono ?_; rintro e wB ⟨b2, c2, rfl, ⟨⟨hi2, hg2⟩, hn2⟩, hbB⟩; obtain ⟨⟨hcB, hfB⟩, hsB⟩ := bcellb1 hbB; obtain ⟨⟨hcC, hfC⟩, hsC⟩ := bcell2 hbA (by exact (by repeat (first | exact Below.refl _ _ | assumption | apply balloc | apply bdrew | (refine bset ?_ (by first | (simp; done) | omega | (simp; omega)) _) | (refine bnext ?_ (by assumption))))) hbB; (try simp at hsB hsC)))
          all_goals
            go_wp2_with fail
            go_meet
            have hsA := hbA.size
            (try simp at hsA)
            refine ⟨rfl, _, _, _, rfl, rfl, ⟨?_, ?_⟩, ?_, ?_, ?_⟩
            · first | (simp [go_sem]; done) | (simp (maxDischargeDepth := 8) [go_sem, hcB, hfB]; done) | (simp (maxDischargeDepth := 8) [go_sem, hcC, hfC]; done)
            · first | (simp [go_sem]; done) | (simp (maxDischargeDepth := 8) [go_sem, hcB, hfB]; done) | (simp (maxDischargeDepth := 8) [go_sem, hcC, hfC]; done)
            · exact ⟨(by first | (refine pairs_set2 hi2 hg2 ?_; first | (simp; done) | omega | (simp; omega)) | (exact pairs_later hi2 (by exact (by repeat (first | exact Below.refl _ _ | assumption | apply balloc | apply bdrew | (refine bset ?_ (by first | (simp; done) | omega | (simp; omega)) _) | (refine bnext ?_ (by assumption))))))), hn2⟩
            · first | exact Nat.le_refl _ | omega | (simp; omega)
            · exact (by repeat (first | exact Below.refl _ _ | assumption | apply balloc | apply bdrew | (refine bset ?_ (by first | (simp; done) | omega | (simp; omega)) _) | (refine bnext ?_ (by assumption))))
        case rest =>
          obtain ⟨rfl, b2, c2, q, rfl, rfl, ⟨y0, y1⟩, ⟨hp2, hn2⟩, hq, hbz⟩ := hcut
          have F := bd_facts (zs := zs) (rs := rs) (by omega) HTR.out a00 a01 a10 a11
          rw [HS.out, HWL.out, HWH.out, HN.out, HS2.out] at F
          simp only at F
          have e0 := (bal_tried (zs := zs) (rs := rs) (by omega) HTR.out a00 a01 a10 a11).1
          rw [HS.out, HWL.out, HWH.out, HE2.out] at e0
          subst e0
          have FF := hide F
          have B := hide (bnext HX.out hbz)
          have KA := hide (fun (W : World) (hbW : Below wc.heap.size wc W) => pairs_later (pairs_later h.out B.out) hbW)
          have HN2 := hide hn2
          have KN := hide (fun (W : World) (hbW : Below wc.heap.size wc W) => pairs_later hp2 hbW)
          have KT := hide (fun (W : World) (hbW : Below wc.heap.size wc W) (k : Nat) (hk : k < rs.length) => (show W.cell? ⟨g0, k, none⟩ = some (.int .i64 (tF rs zs k)) from later hbW (later hbz (later hbx (by have := HO.out.cellAt k (by omega); simpa [tRow, hk] using this)))))
          have KS := hide (fun (W : World) (hbW : Below wc.heap.size wc W) => (show W.cell? ⟨q, 0, none⟩ = some (.int .i64 sl) ∧ W.cell? ⟨q, 1, none⟩ = some (.int .i64 sh) from ⟨later hbW y0, later hbW y1⟩))
          have KW := hide (fun (W : World) (hbW : Below wc.heap.size wc W) => (show W.cell? ⟨wr.heap.size, 0, none⟩ = some (.int .i64 wl) ∧ W.cell? ⟨wr.heap.size, 1, none⟩ = some (.int .i64 wh) from ⟨later hbW (later hbz q0), later hbW (later hbz q1)⟩))
          obtain ⟨pw, hpw⟩ : ∃ x, wr.heap.size = x := ⟨_, rfl⟩
          rw [hpw] at KW ⊢
          clear hpw F HP HO HB1 HTR HS HWL HWH w0 w1 v0 v1 p0 p1 q0 q1 hbx HX HAX KP BC HN HS2 HE2 y0 y1 hp2 hn2 hq hbz SB OWN TI HZ0 HZ1 HZ2
          have ln : ((N2.length : Int) != (rs.length : Int)) = false := by simp [FF.out.len]
          have INS := hide (fun (W : World) => (show Calls Try.prog 63 #[.agg #[.int .i64 sl, .int .i64 sh], .agg #[.int .i64 wl, .int .i64 wh]] W fun e w' => e = .returned (.bool true) ∧ Below W.heap.size W w' by
            have hI := inside_any sl sh wl wh W
            rwa [show insQ sl sh wl wh = true by have := FF.out.sum; simp [insQ]; omega] at hI))
          have t1 : decide (S < sl) = false := decide_eq_false (by have := FF.out.sum; omega)
          have t2 : decide (sh < S) = false := decide_eq_false (by have := FF.out.sum; omega)
          obtain ⟨x0, x1⟩ := KS.out wc (Below.refl _ _)
          obtain ⟨x2, x3⟩ := KW.out wc (Below.refl _ _)
          go_wp2_with (go_at_call 63; refine (INS.out _).mono ?_; rintro e w5 ⟨rfl, hb5⟩; have x0' := later hb5 x0; have x1' := later hb5 x1)
          clear x0 x1 x2 x3 x0' x1' t1 t2 ln INS
          have BW5 := hide hb5
          clear hb5
          obtain ⟨v0, rfl⟩ : ∃ v0 : World, v0 = wr := ⟨_, rfl⟩
          go_loopw [15, 16, 17] (fun s t i wx => ∃ j : Nat, j ≤ rs.length ∧ i = .int .i64 (j : Int) ∧ s = .int .i64 (sm (aF rs) j) ∧ t = .int .i64 (sm (bF rs) j) ∧ Below wc.heap.size wc wx) (fun _ _ i _ => rs.length - (intOf i).toNat)
          case atStart => exact ⟨0, by omega, rfl, rfl, rfl, BW5.out⟩
          case round =>
            obtain ⟨j, hj, rfl, rfl, rfl, hbj⟩ := hrel
            have HJ := hide hbj
            clear hbj
            have SJ := FF.out.sums j hj
            by_cases hlt : j < rs.length
            · as_aux_lemma =>
              obtain ⟨b, off, rfl, hc⟩ : ∃ b off, a = some ⟨b, off, none⟩ ∧ ∀ W, Below wc.heap.size wc W → ∀ i, i < rs.length → W.cell? ⟨b, off + i * 2, none⟩ = some (.int .i64 (aF rs i)) ∧ W.cell? ⟨b, off + i * 2 + 1, none⟩ = some (.int .i64 (bF rs i)) := by
                rcases KA.out wc (Below.refl _ _) with h | ⟨b, off, e, h⟩
                · subst h; simp at hlt
                · exact ⟨b, off, e, fun W hW i hi => ⟨later hW (h i hi).1, later hW (h i hi).2⟩⟩
              obtain ⟨b', off', rfl, hc'⟩ : ∃ b off, b2 = some ⟨b, off, none⟩ ∧ ∀ W, Below wc.heap.size wc W → ∀ i, i < rs.length → W.cell? ⟨b, off + i * 2, none⟩ = some (.int .i64 (aF N2 i)) ∧ W.cell? ⟨b, off + i * 2 + 1, none⟩ = some (.int .i64 (bF N2 i)) := by
                have ln := FF.out.len
                rcases KN.out wc (Below.refl _ _) with h | ⟨b, off, e, h⟩
                · subst h; simp at ln; omega
                · exact ⟨b, off, e, fun W hW i hi => ⟨later hW (h i (by omega)).1, later hW (h i (by omega)).2⟩⟩
              have P := FF.out.part j hlt
              have TR := FF.out.tried j hlt
              unfold triedOk at TR
              have SJ1 := FF.out.sums (j + 1) (by omega)
              have HC := hide (fun W (hW : Below wr.heap.size wr W) => (show (((W.cell? ⟨b', off' + j * 2, none⟩ = some (.int .i64 (aF N2 j)) ∧ W.cell? ⟨b', off' + j * 2 + 1, none⟩ = some (.int .i64 (bF N2 j))) ∧ (W.cell? ⟨b, off + j * 2, none⟩ = some (.int .i64 (aF rs j)) ∧ W.cell? ⟨b, off + j * 2 + 1, none⟩ = some (.int .i64 (bF rs j)))) ∧ W.cell? ⟨g0, j, none⟩ = some (.int .i64 (tF rs zs j))) ∧ Below wr.heap.size wr W from
                ⟨⟨⟨hc' W (HJ.out.trans (hW.mono HJ.out.size)) j hlt, hc W (HJ.out.trans (hW.mono HJ.out.size)) j hlt⟩, KT.out W (HJ.out.trans (hW.mono HJ.out.size)) j hlt⟩, hW⟩))
              have sa := hide (show sm (aF rs) (j + 1) = sm (aF rs) j + aF rs j from rfl)
              have sb := hide (show sm (bF rs) (j + 1) = sm (bF rs) j + bF rs j from rfl)
              rw [sa.out, sb.out] at SJ1
              have jl : (j : Int) < (N2.length : Int) := by have := FF.out.len; omega
              have jl2 : (j : Int) < (rs.length : Int) := by omega
              have j0 : 0 ≤ (j : Int) := by omega
              clear hc hc'
              obtain ⟨A, hA⟩ : ∃ x, sm (aF rs) j = x := ⟨_, rfl⟩
              obtain ⟨B', hB'⟩ : ∃ x, sm (bF rs) j = x := ⟨_, rfl⟩
              rw [hA] at SJ SJ1 sa ⊢
              rw [hB'] at SJ SJ1 sb ⊢
              clear hA hB'
              generalize aF rs j = a1 at *
              generalize bF rs j = a2 at *
              generalize aF N2 j = l1 at *
              generalize bF N2 j = l2 at *
              generalize tF rs zs j = t at *
              have INJ := hide (fun (W : World) => (show Calls Try.prog 63 #[.agg #[.int .i64 l1, .int .i64 l2], .agg #[.int .i64 a1, .int .i64 a2]] W fun e w' => e = .returned (.bool true) ∧ Below W.heap.size W w' by
                have hI := inside_any l1 l2 a1 a2 W
                rwa [show insQ l1 l2 a1 a2 = true by simp [insQ]; omega] at hI))
              have d2 : decide (t < l1) = false := decide_eq_false (by omega)
              have d3 : decide (l2 < t) = false := decide_eq_false (by omega)
              clear P
              have K0 := (HC.out wr (Below.refl _ _)).1
              go_wp2_with fail
              go_region_held3 (fun W => (((W.cell? ⟨b', off' + j * 2, none⟩ = some (.int .i64 l1) ∧ W.cell? ⟨b', off' + j * 2 + 1, none⟩ = some (.int .i64 l2)) ∧ (W.cell? ⟨b, off + j * 2, none⟩ = some (.int .i64 a1) ∧ W.cell? ⟨b, off + j * 2 + 1, none⟩ = some (.int .i64 a2))) ∧ W.cell? ⟨g0, j, none⟩ = some (.int .i64 t)) ∧ Below wr.heap.size wr W)
                ((go_split_ands; refine HC.out _ ?_; exact (by repeat (first | exact Below.refl _ _ | assumption | apply balloc | apply bdrew | (refine bset ?_ (by first | (simp; done) | omega | (simp; omega)) _) | (refine bnext ?_ (by assumption))))))
                ((go_at_call 63; refine (INJ.out _).mono ?_; rintro e wA ⟨rfl, hbA⟩; skip))
              all_goals
                go_wp2_with fail
                have BA := hide (show Below wr.heap.size wr wA from (by repeat (first | exact Below.refl _ _ | assumption | apply balloc | apply bdrew | (refine bset ?_ (by first | (simp; done) | omega | (simp; omega)) _) | (refine bnext ?_ (by assumption)))))
                obtain ⟨⟨⟨_, y1, y2⟩, _⟩, _⟩ := HC.out wA BA.out
                clear hbA
                obtain ⟨⟨s1, s2⟩, s3, s4⟩ := SJ1
                have wq1 : IntKind.wrap .i64 (A + a1) = A + a1 := IntWalk.i64_in _ (by omega)
                have wq2 : IntKind.wrap .i64 (B' + a2) = B' + a2 := IntWalk.i64_in _ (by omega)
                go_quiet (fail)
                go_wp2_with fail
                go_roundw
                case rel => exact ⟨j + 1, by omega, by go_num, by rw [sa.out], by rw [sb.out], HJ.out.trans ((below_drewN BA.out _).mono HJ.out.size)⟩
                case measure => simp [intOf]; omega
            · obtain rfl : j = rs.length := by omega
              obtain ⟨A, hA⟩ : ∃ x, sm (aF rs) rs.length = x := ⟨_, rfl⟩
              obtain ⟨B', hB'⟩ : ∃ x, sm (bF rs) rs.length = x := ⟨_, rfl⟩
              rw [hA, hB'] at SJ
              rw [hA, hB']
              have TE := hide (fun (j : Nat) (hj : j < rs.length) => by have := FF.out.tests j hj; rw [hA, hB'] at this; exact this)
              clear hA hB'
              obtain ⟨⟨s1, s2⟩, s3, s4⟩ := SJ
              have jl : ¬ (rs.length : Int) < (N2.length : Int) := by have := FF.out.len; omega
              go_wp2_with fail
              clear jl
              obtain ⟨v1, rfl⟩ : ∃ v1 : World, v1 = wr := ⟨_, rfl⟩
              go_loopw [18] (fun i wx => ∃ j : Nat, j ≤ rs.length ∧ i = .int .i64 (j : Int) ∧ Below wc.heap.size wc wx) (fun i _ => rs.length - (intOf i).toNat)
              case atStart => exact ⟨0, by omega, rfl, HJ.out⟩
              case round =>
                obtain ⟨j, hj, rfl, hbj⟩ := hrel
                clear HJ
                have HJ := hide hbj
                clear hbj
                by_cases hlt : j < rs.length
                · as_aux_lemma =>
                  obtain ⟨b, off, rfl, hc⟩ : ∃ b off, a = some ⟨b, off, none⟩ ∧ ∀ W, Below wc.heap.size wc W → ∀ i, i < rs.length → W.cell? ⟨b, off + i * 2, none⟩ = some (.int .i64 (aF rs i)) ∧ W.cell? ⟨b, off + i * 2 + 1, none⟩ = some (.int .i64 (bF rs i)) := by
                    rcases KA.out wc (Below.refl _ _) with h | ⟨b, off, e, h⟩
                    · subst h; simp at hlt
                    · exact ⟨b, off, e, fun W hW i hi => ⟨later hW (h i hi).1, later hW (h i hi).2⟩⟩
                  obtain ⟨b', off', rfl, hc'⟩ : ∃ b off, b2 = some ⟨b, off, none⟩ ∧ ∀ W, Below wc.heap.size wc W → ∀ i, i < rs.length → W.cell? ⟨b, off + i * 2, none⟩ = some (.int .i64 (aF N2 i)) ∧ W.cell? ⟨b, off + i * 2 + 1, none⟩ = some (.int .i64 (bF N2 i)) := by
                    have ln := FF.out.len
                    rcases KN.out wc (Below.refl _ _) with h | ⟨b, off, e, h⟩
                    · subst h; simp at ln; omega
                    · exact ⟨b, off, e, fun W hW i hi => ⟨later hW (h i (by omega)).1, later hW (h i (by omega)).2⟩⟩
                  have P := FF.out.part j hlt
                  have TR := FF.out.tried j hlt
                  have TJ := TE.out j hlt
                  have WF := FF.out.far
                  have WS := FF.out.sum
                  unfold triedOk at TR
                  obtain ⟨x1, x2⟩ := hc wr HJ.out j hlt
                  obtain ⟨x3, x4⟩ := hc' wr HJ.out j hlt
                  obtain ⟨x5, x6⟩ := KW.out wr HJ.out
                  have jl : (j : Int) < (N2.length : Int) := by have := FF.out.len; omega
                  have jl2 : (j : Int) < (rs.length : Int) := by omega
                  have j0 : 0 ≤ (j : Int) := by omega
                  clear hc hc'
                  generalize aF rs j = a1 at *
                  generalize bF rs j = a2 at *
                  generalize aF N2 j = l1 at *
                  generalize bF N2 j = l2 at *
                  obtain ⟨le, hle⟩ : ∃ x, A - a1 = x := ⟨_, rfl⟩
                  obtain ⟨mo, hmo⟩ : ∃ x, B' - a2 = x := ⟨_, rfl⟩
                  have r19 : IntKind.wrap .i64 (A - a1) = le := by rw [← hle]; exact IntWalk.i64_in _ (by omega)
                  have r20 : IntKind.wrap .i64 (B' - a2) = mo := by rw [← hmo]; exact IntWalk.i64_in _ (by omega)
                  rw [hle, hmo] at TJ
                  obtain ⟨L1, h1⟩ : ∃ x, l1 + mo = x := ⟨_, rfl⟩
                  obtain ⟨L2, h2⟩ : ∃ x, l1 + le = x := ⟨_, rfl⟩
                  obtain ⟨L3, h3⟩ : ∃ x, l2 + le = x := ⟨_, rfl⟩
                  obtain ⟨L4, h4⟩ : ∃ x, l2 + mo = x := ⟨_, rfl⟩
                  obtain ⟨M1, h5⟩ : ∃ x, l1 - 1 = x := ⟨_, rfl⟩
                  obtain ⟨M2, h6⟩ : ∃ x, l2 + 1 = x := ⟨_, rfl⟩
                  rw [h1, h2, h3, h4, h5, h6] at TJ
                  obtain ⟨L5, h7⟩ : ∃ x, M1 + mo = x := ⟨_, rfl⟩
                  obtain ⟨L6, h8⟩ : ∃ x, M2 + le = x := ⟨_, rfl⟩
                  rw [h7, h8] at TJ
                  have r1 : IntKind.wrap .i64 (l1 + mo) = L1 := by rw [← h1]; exact IntWalk.i64_in _ (by omega)
                  have r2 : IntKind.wrap .i64 (l1 + le) = L2 := by rw [← h2]; exact IntWalk.i64_in _ (by omega)
                  have r3 : IntKind.wrap .i64 (l2 + le) = L3 := by rw [← h3]; exact IntWalk.i64_in _ (by omega)
                  have r4 : IntKind.wrap .i64 (l2 + mo) = L4 := by rw [← h4]; exact IntWalk.i64_in _ (by omega)
                  have r5 : IntKind.wrap .i64 (l1 - 1) = M1 := by rw [← h5]; exact IntWalk.i64_in _ (by omega)
                  have r6 : IntKind.wrap .i64 (l2 + 1) = M2 := by rw [← h6]; exact IntWalk.i64_in _ (by omega)
                  have r7 : IntKind.wrap .i64 (M1 + mo) = L5 := by rw [← h7]; exact IntWalk.i64_in _ (by omega)
                  have r8 : IntKind.wrap .i64 (M2 + le) = L6 := by rw [← h8]; exact IntWalk.i64_in _ (by omega)
                  clear h1 h2 h3 h4 h5 h6 h7 h8 hle hmo P TR WF WS s1 s2 s3 s4
                  obtain ⟨⟨t1, t2⟩, ⟨t3, t4⟩, t5, t6⟩ := TJ
                  have d1 : decide (L1 < wl) = false := decide_eq_false (by omega)
                  have d2 : decide (wh < L2) = false := decide_eq_false (by omega)
                  have d3 : decide (wh < L3) = false := decide_eq_false (by omega)
                  have d4 : decide (L4 < wl) = false := decide_eq_false (by omega)
                  clear t1 t2 t3 t4
                  have E5 := hide (show (decide (a1 < l1) = true ∧ decide (wl ≤ L5) = false) ∨ decide (a1 < l1) = false by
                    by_cases g : a1 < l1
                    · exact .inl ⟨decide_eq_true g, decide_eq_false (fun hh => t5 ⟨g, hh⟩)⟩
                    · exact .inr (decide_eq_false g))
                  have E6 := hide (show (decide (l2 < a2) = true ∧ decide (L6 ≤ wh) = false) ∨ decide (l2 < a2) = false by
                    by_cases g : l2 < a2
                    · exact .inl ⟨decide_eq_true g, decide_eq_false (fun hh => t6 ⟨g, hh⟩)⟩
                    · exact .inr (decide_eq_false g))
                  clear t5 t6
                  go_wp2_with fail
                  go_quiet (fail)
                  go_wp2_with fail
                  go_quiet (fail)
                  go_wp2_with fail
                  clear r19 r20 r1 r2 r3 r4 d1 d2 d3 d4
                  rcases E5.out with ⟨e1, e3⟩ | e1 <;> rcases E6.out with ⟨e2, e4⟩ | e2
                  all_goals
                    go_quiet (fail)
                    go_wp2_with fail
                    go_roundw
                    case rel => exact ⟨j + 1, by omega, by go_num, HJ.out.trans ((below_drewN (Below.refl _ _) _).mono HJ.out.size)⟩
                    case measure => simp [intOf]; omega
                · have jl : ¬ (j : Int) < (N2.length : Int) := by have := FF.out.len; omega
                  obtain ⟨ag1, ag2, ag3⟩ := FF.out.again
                  have NL : N2.length ≤ 12 := by have := FF.out.len; omega
                  have ORW := hide (fun (W : World) (hW : Below wr.heap.size wr W) => ownRanges_any b2 c2 N2 W (by omega) HN2.out (KN.out W (HJ.out.trans (hW.mono HJ.out.size))))
                  have BC := hide (fun (W : World) (b : Option Addr) (c : Nat) (hp : IsPairs W b N2) => (show Calls Try.prog 46 #[.slice b N2.length c, .agg #[.int .i64 sl, .int .i64 sh]] W fun e w' => ∃ b' c', e = .returned (.tuple #[.slice b' N2.length c', .agg #[.int .i64 sl, .int .i64 sh], .int .i64 0]) ∧ (IsPairs w' b' N2 ∧ (N2 = [] ∨ ∃ g, b' = some ⟨g, 0, none⟩ ∧ W.heap.size ≤ g)) ∧ Below W.heap.size W w' by
                    have hB := balance_fresh N2 b c sl sh W (by omega) hp
                    rw [ag1, ag2, ag3] at hB
                    refine hB.mono ?_
                    rintro e w' ⟨b', c', he, ⟨⟨h1, h2⟩, _⟩, h3⟩
                    exact ⟨b', c', he, ⟨h1, h2⟩, h3⟩))
                  have KP := hide (fun (W : World) (hW : Below wr.heap.size wr W) => (show (W.cell? ⟨q, 0, none⟩ = some (.int .i64 sl) ∧ W.cell? ⟨q, 1, none⟩ = some (.int .i64 sh)) ∧ Below wr.heap.size wr W from ⟨KS.out W (HJ.out.trans (hW.mono HJ.out.size)), hW⟩))
                  have KB := hide (fun (W : World) (hW : Below wr.heap.size wr W) => KN.out W (HJ.out.trans (hW.mono HJ.out.size)))
                  have Z0 := hide (bnext B.out HJ.out)
                  obtain ⟨wz, rfl⟩ : ∃ x : World, x = wc := ⟨_, rfl⟩
                  clear ag1 ag2 ag3 HN2 KN KA KT KW KS TE FF HJ B s1 s2 s3 s4 BW5
                  go_upto_region 33 with fail
                  go_cut [14, 21, 22] from 301 to 308 (fun s14 s21 s22 wx => s14 = .int .i64 0 ∧ ∃ b3 c3 r, s21 = .slice b3 N2.length c3 ∧ s22 = .pointer (some ⟨r, 0, none⟩) ∧ (wx.cell? ⟨r, 0, none⟩ = some (.int .i64 sl) ∧ wx.cell? ⟨r, 1, none⟩ = some (.int .i64 sh)) ∧ IsPairs wx b3 N2 ∧ Below wr.heap.size wr wx)
                  case first => as_aux_lemma =>
                    have K0 := (KP.out wr (Below.refl _ _)).1
                    go_region_held3 (fun w' => (w'.cell? ⟨q, 0, none⟩ = some (.int .i64 sl) ∧ w'.cell? ⟨q, 1, none⟩ = some (.int .i64 sh)) ∧ Below wr.heap.size wr w')
                      ((go_split_ands; refine KP.out _ ?_; (try (have hsA := hbA.size; (try simp at hsA))); exact (by repeat (first | exact Below.refl _ _ | assumption | apply balloc | apply bdrew | (refine bset ?_ (by first | (simp; done) | omega | (simp; omega)) _) | (refine bnext ?_ (by assumption))))))
                      (first | (go_at_call 30; refine (ORW.out _ (by exact (by repeat (first | exact Below.refl _ _ | assumption | apply balloc | apply bdrew | (refine bset ?_ (by first | (simp; done) | omega | (simp; omega)) _) | (refine bnext ?_ (by assumption)))))).mono ?_; rintro e wA ⟨b1, c1, rfl, hA1, hi1, hbA⟩; skip) | (go_at_call 46; refine (BC.out _ b1 c1 (pairs_later hi1 (by exact (by repeat (first | exact Below.refl _ _ | assumption | apply balloc | apply bdrew | (refine bset ?_ (by first | (simp; done) | omega | (simp; omega)) _) | (refine bnext ?_ (by assumption))))))).mono ?_; rintro e wB ⟨b4, c4, rfl, ⟨hi2, hg2⟩, hbB⟩; obtain ⟨⟨hcB, hfB⟩, hsB⟩ := bcellb1 hbB; obtain ⟨⟨hcC, hfC⟩, hsC⟩ := bcell2 hbA (by exact (by repeat (first | exact Below.refl _ _ | assumption | apply balloc | apply bdrew | (refine bset ?_ (by first | (simp; done) | omega | (simp; omega)) _) | (refine bnext ?_ (by assumption))))) hbB; (try simp at hsB hsC)))
                    all_goals
                      go_wp2_with fail
                      go_meet
                      have hsA := hbA.size
                      (try simp at hsA)
                      refine ⟨rfl, _, _, _, rfl, rfl, ⟨?_, ?_⟩, ?_, ?_⟩
                      · first | (simp [go_sem]; done) | (simp (maxDischargeDepth := 8) [go_sem, hcB, hfB]; done) | (simp (maxDischargeDepth := 8) [go_sem, hcC, hfC]; done)
                      · first | (simp [go_sem]; done) | (simp (maxDischargeDepth := 8) [go_sem, hcB, hfB]; done) | (simp (maxDischargeDepth := 8) [go_sem, hcC, hfC]; done)
                      · first | (refine pairs_set2 hi2 hg2 ?_; first | (simp; done) | omega | (simp; omega)) | (exact pairs_later hi2 (by exact (by repeat (first | exact Below.refl _ _ | assumption | apply balloc | apply bdrew | (refine bset ?_ (by first | (simp; done) | omega | (simp; omega)) _) | (refine bnext ?_ (by assumption))))))
                      · exact (by repeat (first | exact Below.refl _ _ | assumption | apply balloc | apply bdrew | (refine bset ?_ (by first | (simp; done) | omega | (simp; omega)) _) | (refine bnext ?_ (by assumption))))
                  case rest =>
                    obtain ⟨rfl, b3, c3, r, rfl, rfl, ⟨z0, z1⟩, hp3, hbz⟩ := hcut
                    obtain ⟨y0, y1⟩ := (KP.out _ hbz).1
                    have SR := hide (fun (W : World) (h1 : IsPairs W b2 N2) (h2 : IsPairs W b3 N2) => (show Calls Try.prog 37 #[.slice b2 N2.length c2, .slice b3 N2.length c3] W fun e w' => e = .returned (.bool true) ∧ Below W.heap.size W w' by
                      have hS := sameRanges_any b2 b3 c2 c3 N2 N2 W (by omega) (by omega) h1 h2
                      rwa [decide_eq_true (show N2 = N2 from rfl)] at hS))
                    have P2 := hide (KB.out _ hbz)
                    have P3 := hide hp3
                    have ZB := hide (bnext Z0.out hbz)
                    clear hp3 hbz KP KB ORW BC
                    go_wp2_with fail
                    refine (SR.out _ P2.out P3.out).mono ?_
                    rintro e w8 ⟨rfl, hb8⟩
                    have z0' := later hb8 z0
                    have z1' := later hb8 z1
                    have y0' := later hb8 y0
                    have y1' := later hb8 y1
                    clear z0 z1 y0 y1
                    go_wp2_with fail
                    refine (known_any _).mono ?_
                    rintro e w9 ⟨rfl, hb9⟩
                    go_wp2_with fail
                    go_ret
                    exact ⟨rfl, bnext (bnext ZB.out hb8) hb9⟩

set_option maxRecDepth 100000 in
set_option maxHeartbeats 3200000 in
theorem balanced_long (rs : List (Int × Int)) (n2 : Nat) (a at' : Option Addr) (cap capt : Nat) (u0 u1 : Int) (w : World) (hm : rs.length ≤ maxLen) (hl : 12 < rs.length) :
    Calls Try.prog 18 #[.slice a rs.length cap, .slice at' n2 capt, .agg #[.int .u32 u0, .int .u32 u1]] w fun e w' => e = .returned (.bool true) ∧ Below w.heap.size w w' := by
  have d1 : decide (12 < (rs.length : Int)) = true := decide_eq_true (by omega)
  unfold maxLen at hm
  go_enter Try.func18, Try.ntmps18
  go_wp2_with fail
  refine (known_any _).mono ?_
  rintro e w1 ⟨rfl, hb1⟩
  go_wp2_with fail
  go_ret
  exact ⟨rfl, (by repeat (first | exact Below.refl _ _ | assumption | apply balloc | apply bdrew | (refine bset ?_ (by first | (simp; done) | omega | (simp; omega)) _) | (refine bnext ?_ (by assumption))))⟩
theorem unitsBalanced_walk (rs : List (Int × Int)) (zs : List Int) (a at' : Option Addr) (cap capt : Nat) (u0 u1 : Int) (w : World) (hl : rs.length ≤ maxLen ∧ (a = none → cap = 0 ∧ rs = [])) (hz : zs.length ≤ maxLen) (h : IsPairs w a rs) (hs : IsSmall w at' zs) (a0 : 0 ≤ u0 ∧ u0 ≤ 4294967295) (a1 : 0 ≤ u1 ∧ u1 ≤ 4294967295) :
    Calls Try.prog 18 #[.slice a rs.length cap, .slice at' zs.length capt, .agg #[.int .u32 u0, .int .u32 u1]] w fun e w' => e = .returned (.bool true) ∧ Below w.heap.size w w' := by
  unfold maxLen at hz
  by_cases h1 : 12 < rs.length
  · exact balanced_long rs zs.length a at' cap capt u0 u1 w hl.1 h1
  · exact balanced_go rs zs a at' cap capt u0 u1 w (by omega) (by omega) h hl.2 hs a0.1 a0.2 a1.1 a1.2
end Go.Proofs.Ytckapcfofkeicaa

namespace Go.Proofs.Ytckapcfofkeicaa
set_option linter.unusedSimpArgs false
set_option linter.unusedVariables false
open Go.RowKit Go.ChangeShapes Go.WideShapes Go.ChangeAt Go.Joins

set_option maxRecDepth 100000 in
/-- A slice of small numbers that came in. -/
theorem open_smallS {H : Type} {enc : TypeId × Value → H} {w : World} {b0 : Nat} {r : Reach} {v : Value} {d : DataW H} {p : List MemPlace}
    (hv : Value.okWide Try.prog w r b0 91 v) (h : DataW.Trod enc Try.prog w 0 (fun _ => true) true 91 v d p) :
    ∃ (a : Option Addr) (n cap : Nat) (zs : List Int), v = .slice a n cap ∧ n = zs.length ∧ zs.length ≤ maxLen ∧ IsSmall w a zs := by
  obtain ⟨a, len, cap, rfl⟩ := okWide_slice Try.underlying91 hv
  obtain ⟨fuel, hf⟩ := h
  rcases open_ints Try.underlying91 Try.underlying75 (by kernel_rfl) hf with ⟨hcs, _⟩ | ⟨x, l, c, zs, hcs, _, hl, hm, hz, _, hcell, hwz⟩
  · simp [Value.cells] at hcs
    obtain ⟨rfl, rfl, rfl⟩ := hcs
    exact ⟨none, 0, 0, [], rfl, rfl, by simp, .inl rfl⟩
  · simp [Value.cells] at hcs
    obtain ⟨rfl, rfl, rfl⟩ := hcs
    have hz' : zs.length = cap := by simpa using hz
    have hlen : (zs.take len).length = len := by rw [List.length_take]; omega
    refine ⟨some x, len, cap, zs.take len, rfl, hlen.symm, by omega, ?_⟩
    by_cases h0 : len = 0
    · left; subst h0; simp
    · obtain ⟨b, off, spot⟩ := x
      have hc := hcell 0 (by omega)
      have hspot : spot = none := by simpa [Addr.add] using World.cell?_spot hc
      subst hspot
      refine .inr ⟨b, off, rfl, fun i hi => ?_⟩
      rw [hlen] at hi
      have hci := hcell i (by omega)
      have hadd : (⟨b, off, none⟩ : Addr).add i = ⟨b, off + i, none⟩ := by
        by_cases hz : i = 0
        · subst hz; simp [Addr.add]
        · simp [Addr.add, hz]
      rw [hadd] at hci
      have e : (zs.take len).getD i 0 = zs.getD i 0 := by simp [List.getD_eq_getElem?_getD, List.getElem?_take, hi]
      have hmem : zs.getD i 0 ∈ zs := by
        have h2 : i < zs.length := by omega
        rw [List.getD_eq_getElem?_getD, List.getElem?_eq_getElem h2, Option.getD_some]
        exact List.getElem_mem h2
      rw [e]
      exact ⟨hci, bounds_u16 (hwz _ hmem)⟩
theorem u32Cell : Try.prog.cellsOf 92 = 1 := by kernel_rfl
theorem u32sCells : Try.prog.cellsOf 93 = 2 := by kernel_rfl
theorem u32_cell {H : Type} {enc : TypeId × Value → H} {w : World} {base : Nat} {spare : Nat → Bool} {held : Bool} {fuel : Nat} {y : DataW H × List MemPlace} {c : Value} (h : DataW.trod enc Try.prog w base spare held fuel 92 [c] = some y) : ∃ a : Int, c = .int .u32 a ∧ 0 ≤ a ∧ a ≤ 4294967295 := by
  obtain ⟨a, e0, _, wa⟩ := DataW.trod_int Try.underlying92 h
  simp at e0
  have := bounds_u32 wa
  exact ⟨a, e0, this.1, this.2⟩
theorem okWide_array2 {P : Program} {w : World} {r : Reach} {base : Nat} {t e : TypeId} {n : Nat} {v : Value} (ht : P.underlying t = some (.array n e)) (h : Value.okWide P w r base t v) : ∃ cs, v = .agg cs ∧ cs.size = P.cellsOf t := by
  simp only [Value.okWide, ht] at h
  obtain ⟨cs, h1, h2, _⟩ := h
  exact ⟨cs, h1, h2⟩
set_option maxRecDepth 100000 in
/-- Two numbers of 32 bits that came in. -/
theorem open_around {H : Type} {enc : TypeId × Value → H} {w : World} {base b0 : Nat} {spare : Nat → Bool} {held : Bool} {r : Reach} {v : Value} {d : DataW H} {p : List MemPlace}
    (hv : Value.okWide Try.prog w r b0 93 v) (h : DataW.Trod enc Try.prog w base spare held 93 v d p) :
    ∃ a b : Int, v = .agg #[.int .u32 a, .int .u32 b] ∧ (0 ≤ a ∧ a ≤ 4294967295) ∧ 0 ≤ b ∧ b ≤ 4294967295 := by
  obtain ⟨cs, rfl, hsz⟩ := okWide_array2 Try.underlying93 hv
  obtain ⟨l⟩ := cs
  match l, hsz.trans u32sCells with
  | [c0, c1], _ =>
    obtain ⟨fuel, hf⟩ := h
    obtain ⟨xs, m, _, _, _, hl, hel⟩ := DataW.trod_array Try.underlying93 hf
    match xs, hl with
    | [x0, x1], _ =>
      have h0 := hel 0 (by omega)
      have h1 := hel 1 (by omega)
      simp [u32Cell, Value.cells] at h0 h1
      obtain ⟨a, rfl, ha⟩ := u32_cell h0
      obtain ⟨b, rfl, hb⟩ := u32_cell h1
      exact ⟨a, b, rfl, ha, hb⟩
end Go.Proofs.Ytckapcfofkeicaa
