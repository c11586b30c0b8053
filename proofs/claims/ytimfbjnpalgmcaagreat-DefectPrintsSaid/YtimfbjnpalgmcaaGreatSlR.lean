/-
  The reference of chapter 5: clip. The reference of chapter 5: Slice.
-/
import Derived.Test.YtimfbjnpalgmcaaGreatDgL
import Derived.Test.YtimfbjnpalgmcaaGreatApp
import Derived.Deep.AppendLies
namespace Go.Proofs.YtimfbjnpalgmcaaGreat
set_option linter.unusedSimpArgs false
set_option linter.unusedVariables false
set_option linter.unusedSimpArgs false
set_option linter.unusedVariables false
open Go.RowKit

set_option maxHeartbeats 3200000 in
theorem refClip_any (a b lo hi : Int) (w : World) :
    Calls Tryz.prog 124 #[.agg #[.int .i64 a, .int .i64 b], .int .i64 lo, .int .i64 hi] w fun e w' => e = .returned (.agg #[.int .i64 (max lo (min hi a)), .int .i64 (max lo (min hi b))]) ∧ Below w.heap.size w w' := by
  obtain ⟨p, hp⟩ : ∃ p, min hi a = p := ⟨_, rfl⟩
  obtain ⟨q, hq⟩ : ∃ q, min hi b = q := ⟨_, rfl⟩
  obtain ⟨P, hP⟩ : ∃ P, max lo p = P := ⟨_, rfl⟩
  obtain ⟨Q, hQ⟩ : ∃ Q, max lo q = Q := ⟨_, rfl⟩
  have m1 : (if a < hi then a else hi) = p := by rw [← hp]; omega
  have m2 : (if b < hi then b else hi) = q := by rw [← hq]; omega
  have m3 : (if lo < p then p else lo) = P := by rw [← hP]; omega
  have m4 : (if lo < q then q else lo) = Q := by rw [← hQ]; omega
  rw [hp, hq, hP, hQ]
  have H := hide (And.intro (And.intro hp hq) (And.intro hP hQ))
  clear hp hq hP hQ
  go_enter Tryz.func124, Tryz.ntmps124
  go_wp2_with fail
  exact bodyPost_ret (v := .agg #[.int .i64 P, .int .i64 Q]) (by simp [results, Tryz.results124, go_sem]) rfl ⟨rfl, (by repeat (first | exact Below.refl _ _ | apply balloc | apply bdrew | (refine bset ?_ (by simp <;> omega) _)))⟩
/-- The reference's clip is the program's clamp. -/
theorem clip_is (lo hi n : Int) (h : lo ≤ hi) : max lo (min hi n) = clampQ lo hi n := by
  unfold clampQ
  omega
end Go.Proofs.YtimfbjnpalgmcaaGreat

namespace Go.Proofs.YtimfbjnpalgmcaaGreat
set_option linter.unusedSimpArgs false
set_option linter.unusedVariables false
set_option linter.unusedSimpArgs false
set_option linter.unusedVariables false
open Go.RowKit

/-- A list of sets of one's own, told. -/
def SlPost (w : World) (n : Nat) (P : Nat → Nat) (e : Ending) (w' : World) : Prop := ∃ B v, w.heap.size ≤ B ∧ e = .returned v ∧ w'.ownsRow B 29 1 v n ((List.range n).map fun j => Value.int .u8 (P j : Int)) ∧ Below w.heap.size w w'
theorem row_snocS (P : Nat → Nat) (k : Nat) : (List.range k).map (fun j => Value.int .u8 (P j : Int)) ++ [Value.int .u8 (P k : Int)] = (List.range (k + 1)).map (fun j => Value.int .u8 (P j : Int)) := by
  rw [List.range_succ, List.map_append]; rfl
set_option maxRecDepth 100000 in
set_option maxHeartbeats 6400000 in
theorem refSlice_go (s a0 b0 a1 b1 a2 b2 a3 b3 off lo hi v1 v2 f1 f2 R1 R2 D1 D2 : Int) (rs zs fs : List (Int × Int)) (ra za fa : Option Addr) (rc zc fc : Nat) (X1 X2 Z1 Z2 : Nat → Int) (P : Nat → Nat) (w : World) (zn : zs.length ≤ 20) (HI : Hid (IsPairs w za zs))
    (VA : Hid (∀ W, Below w.heap.size w W → Calls Tryz.prog 122 #[.slice ra rs.length rc, .agg #[.int .i64 lo, .int .i64 hi]] W fun e w' => e = .returned (.tuple #[.agg #[.int .i64 v1, .int .i64 v2], .int .i64 0]) ∧ Below W.heap.size W w'))
    (VB : Hid (∀ W, Below w.heap.size w W → Calls Tryz.prog 122 #[.slice fa fs.length fc, .agg #[.int .i64 lo, .int .i64 hi]] W fun e w' => e = .returned (.tuple #[.agg #[.int .i64 f1, .int .i64 f2], .int .i64 0]) ∧ Below W.heap.size W w'))
    (TZ : Hid (∀ k W, k < zs.length → Calls Tryz.prog 123 #[.agg #[.int .i64 (zs.getD k (0, 0)).1, .int .i64 (zs.getD k (0, 0)).2], .agg #[.int .i64 f1, .int .i64 f2], .int .i64 10000] W fun e w' => e = .returned (.tuple #[.agg #[.int .i64 (X1 k), .int .i64 (X2 k)], .int .i64 0]) ∧ Below W.heap.size W w'))
    (CR : Hid (∀ W, Calls Tryz.prog 124 #[.agg #[.int .i64 D1, .int .i64 D2], .int .i64 0, .int .i64 1000000] W fun e w' => e = .returned (.agg #[.int .i64 R1, .int .i64 R2]) ∧ Below W.heap.size W w'))
    (CZ : Hid (∀ k W, k < zs.length → Calls Tryz.prog 124 #[.agg #[.int .i64 (X1 k), .int .i64 (X2 k)], .int .i64 1, .int .i64 1000000] W fun e w' => e = .returned (.agg #[.int .i64 (Z1 k), .int .i64 (Z2 k)]) ∧ Below W.heap.size W w'))
    (RZ : Hid (∀ k W, k < zs.length → Calls Tryz.prog 20 #[.agg #[.int .i64 s, .int .i64 a0, .int .i64 b0, .int .i64 a1, .int .i64 b1, .int .i64 a2, .int .i64 b2, .int .i64 a3, .int .i64 b3], .agg #[.int .i64 R1, .int .i64 R2], .agg #[.int .i64 (Z1 k), .int .i64 (Z2 k)]] W fun e w' => e = .returned (.int .u8 (P k : Int)) ∧ Below W.heap.size W w'))
    (hd : Hid (wrap64 (v1 - off) = D1 ∧ wrap64 (v2 + off) = D2)) :
    Calls Tryz.prog 76 #[.agg #[.int .i64 s, .int .i64 a0, .int .i64 b0, .int .i64 a1, .int .i64 b1, .int .i64 a2, .int .i64 b2, .int .i64 a3, .int .i64 b3], .agg #[.slice ra rs.length rc, .int .i64 off, .slice za zs.length zc, .slice fa fs.length fc], .int .i64 lo, .int .i64 hi] w (SlPost w zs.length P) := by
  obtain ⟨ti, hi', hz0, hz1, hz2⟩ := info_parts set_info
  have HT := hide hi'
  have HZ0 := hide hz0
  have HZ1 := hide hz1
  have HZ2 := hide hz2
  clear hi' hz0 hz1 hz2
  obtain ⟨n, hn⟩ : ∃ n, zs.length = n := ⟨_, rfl⟩
  have HN := hide hn
  rw [hn] at zn TZ CZ RZ ⊢
  go_enter Tryz.func76, Tryz.ntmps76
  go_upto_region 1 with fail
  obtain ⟨w0, hw0⟩ : ∃ z, z = (w.alloc (.cells #[.int .i64 s, .int .i64 a0, .int .i64 b0, .int .i64 a1, .int .i64 b1, .int .i64 a2, .int .i64 b2, .int .i64 a3, .int .i64 b3] 26)).alloc (.cells #[.slice ra rs.length rc, .int .i64 off, .slice za n zc, .slice fa fs.length fc] 58) := ⟨_, rfl⟩
  rw [← hw0]
  have B0 := hide (show Below w.heap.size w w0 by rw [hw0]; exact (by repeat (first | exact Below.refl _ _ | assumption | apply balloc | apply bdrew | (refine below_drewN ?_ _) | (refine bset ?_ (by first | (simp; done) | omega | (simp; omega)) _) | (refine bnext ?_ (by assumption)))))
  have M0 := hide (show MdlAt w0 w.heap.size ⟨s, a0, b0, a1, b1, a2, b2, a3, b3⟩ by rw [hw0]; exact mdlAt_later (mdlAt_new w ⟨s, a0, b0, a1, b1, a2, b2, a3, b3⟩ 26) (balloc (Below.refl _ _)))
  have G0 := hide (show GrAt w0 (w.heap.size + 1) ⟨rs, off, zs, fs⟩ ⟨ra, rc, za, zc, fa, fc⟩ by rw [hw0, ← HN.out]; refine ⟨⟨?_, ?_⟩, ?_, ?_⟩ <;> exact (by simp [go_sem, World.cell?_alloc_past]))
  clear hw0
  have ⟨⟨g1, g2⟩, g3, g4⟩ := G0.out
  simp only at g1 g2 g3 g4
  go_wp2_with fail
  refine (VA.out _ B0.out).mono ?_
  rintro e w1 ⟨rfl, hb1⟩
  have B1 := hide (bnext B0.out hb1)
  have G1 := hide (grAt_later G0.out hb1)
  have M1 := hide (mdlAt_later M0.out hb1)
  clear g1 g2 g3 g4 hb1 B0 G0 M0 VA
  go_upto_region 2 with fail
  obtain ⟨w2, hw2⟩ : ∃ z, z = w1.alloc (.cells #[.int .i64 v1, .int .i64 v2] 23) := ⟨_, rfl⟩
  rw [← hw2]
  obtain ⟨pv, hpv⟩ : ∃ z, w1.heap.size = z := ⟨_, rfl⟩
  have V2 := hide (show RgAt w2 pv v1 v2 by rw [hw2, ← hpv]; exact ⟨(by simp [go_sem, World.cell?_alloc_past]), (by simp [go_sem, World.cell?_alloc_past])⟩)
  have B2 := hide (show Below w.heap.size w w2 by rw [hw2]; exact balloc B1.out)
  have G2 := hide (show GrAt w2 (w.heap.size + 1) ⟨rs, off, zs, fs⟩ ⟨ra, rc, za, zc, fa, fc⟩ by rw [hw2]; exact grAt_later G1.out (balloc (Below.refl _ _)))
  have M2 := hide (show MdlAt w2 w.heap.size ⟨s, a0, b0, a1, b1, a2, b2, a3, b3⟩ by rw [hw2]; exact mdlAt_later M1.out (balloc (Below.refl _ _)))
  rw [hpv]
  clear hw2 hpv B1 G1 M1
  have ⟨⟨g1, g2⟩, g3, g4⟩ := G2.out
  simp only at g1 g2 g3 g4
  go_wp2_with fail
  refine (VB.out _ B2.out).mono ?_
  rintro e w3 ⟨rfl, hb3⟩
  have B3 := hide (bnext B2.out hb3)
  have G3 := hide (grAt_later G2.out hb3)
  have M3 := hide (mdlAt_later M2.out hb3)
  have V3 := hide (rgAt_later V2.out hb3)
  clear g1 g2 g3 g4 hb3 B2 G2 M2 V2 VB
  go_upto_region 3 with fail
  obtain ⟨wf, hwf⟩ : ∃ z, z = w3.alloc (.cells #[.int .i64 f1, .int .i64 f2] 23) := ⟨_, rfl⟩
  rw [← hwf]
  obtain ⟨pf, hpf⟩ : ∃ z, w3.heap.size = z := ⟨_, rfl⟩
  have BW := hide (show Below w3.heap.size w3 wf by rw [hwf]; exact (by repeat (first | exact Below.refl _ _ | assumption | apply balloc | apply bdrew | (refine below_drewN ?_ _) | (refine bset ?_ (by first | (simp; done) | omega | (simp; omega)) _) | (refine bnext ?_ (by assumption)))))
  have F4 := hide (show RgAt wf pf f1 f2 by rw [hwf, ← hpf]; exact ⟨(by simp [go_sem, World.cell?_alloc_past]), (by simp [go_sem, World.cell?_alloc_past])⟩)
  have BF := hide (bnext B3.out BW.out)
  have GF := hide (grAt_later G3.out BW.out)
  have MF := hide (mdlAt_later M3.out BW.out)
  have VF := hide (rgAt_later V3.out BW.out)
  rw [hpf]
  clear hwf hpf BW B3 G3 M3 V3 hn
  go_upto_region 5 with fail
  obtain ⟨w4, hw4⟩ : ∃ z, z = wf.alloc (.cells #[] 29) := ⟨_, rfl⟩
  rw [← hw4]
  have O4 := hide (show w4.ownsRow wf.heap.size 29 1 (.slice (some ⟨wf.heap.size, 0, none⟩) 0 0) 0 [] by
    rw [hw4]
    exact World.ownsRow_lit (base := wf.heap.size) (e := 29) (size := 1) wf #[] 0 (Nat.le_refl _) (by unfold maxLen; omega) rfl)
  have B4 := hide (show Below wf.heap.size wf w4 by rw [hw4]; exact (by repeat (first | exact Below.refl _ _ | assumption | apply balloc | apply bdrew | (refine below_drewN ?_ _) | (refine bset ?_ (by first | (simp; done) | omega | (simp; omega)) _) | (refine bnext ?_ (by assumption)))))
  clear hw4
  go_loopw [13, 14] (fun v i wr => ∃ k : Nat, k ≤ n ∧ i = .int .i64 (k : Int) ∧ Hid (wr.ownsRow wf.heap.size 29 1 v k ((List.range k).map fun j => Value.int .u8 (P j : Int))) ∧ Below wf.heap.size wf wr) (fun _ i _ => n - (intOf i).toNat)
  case atStart => exact ⟨0, by omega, rfl, hide (by simpa using O4.out), B4.out⟩
  case round =>
    obtain ⟨k, hk, rfl, hrow, hb⟩ := hrel
    have ⟨⟨g1, g2⟩, g3, g4⟩ := grAt_later GF.out hb
    simp only at g1 g2 g3 g4
    rw [HN.out] at g3
    by_cases hlt : k < n
    · have hlt' : k < zs.length := by rw [HN.out]; exact hlt
      obtain ⟨b, o, rfl, hc⟩ : ∃ b o, za = some ⟨b, o, none⟩ ∧ ∀ i, i < zs.length → wr.cell? ⟨b, o + i * 2, none⟩ = some (.int .i64 (zs.getD i (0, 0)).1) ∧ wr.cell? ⟨b, o + i * 2 + 1, none⟩ = some (.int .i64 (zs.getD i (0, 0)).2) := by
        rcases pairs_later HI.out (bnext BF.out hb) with h | h
        · subst h; simp at hlt'
        · exact h
      obtain ⟨c1, c2⟩ := hc k hlt'
      have TK := hide (fun W => TZ.out k W hlt)
      have CK := hide (fun W => CZ.out k W hlt)
      have RK := hide (fun W => RZ.out k W hlt)
      have PK := hide (row_snocS P k)
      obtain ⟨N, hN⟩ : ∃ N : Int, (P k : Int) = N := ⟨_, rfl⟩
      rw [hN] at RK PK
      generalize (zs.getD k (0, 0)).1 = z1 at *
      generalize (zs.getD k (0, 0)).2 = z2 at *
      generalize X1 k = x1 at *
      generalize X2 k = x2 at *
      generalize Z1 k = y1 at *
      generalize Z2 k = y2 at *
      have k0 : 0 ≤ (k : Int) := by omega
      have k1 : (k : Int) < (n : Int) := by omega
      have ⟨q0, q1⟩ := rgAt_later F4.out hb
      have BR := hide hb
      clear hc hb hN
      go_upto_region 7 with fail
      have KP := hide (fun (W : World) (hb : Below wr.heap.size wr W) => (show W.cell? ⟨w.heap.size + 1, 2, none⟩ = some (.slice (some ⟨b, o, none⟩) n zc) ∧ W.cell? ⟨b, o + k * 2, none⟩ = some (.int .i64 z1) ∧ W.cell? ⟨b, o + k * 2 + 1, none⟩ = some (.int .i64 z2) ∧ W.cell? ⟨pf, 0, none⟩ = some (.int .i64 f1) ∧ W.cell? ⟨pf, 1, none⟩ = some (.int .i64 f2) ∧ Below wr.heap.size wr W from ⟨later hb g3, later hb c1, later hb c2, later hb q0, later hb q1, hb⟩))
      go_cut [15] from 43 to 52 (fun s15 wx => ∃ p, s15 = .pointer (some ⟨p, 0, none⟩) ∧ RgAt wx p x1 x2 ∧ wr.heap.size ≤ p ∧ Below wr.heap.size wr wx)
      case first =>
        as_aux_lemma =>
        clear RK CK PK CR hd g1 g2 g4
        go_region_held3 (fun W => W.cell? ⟨w.heap.size + 1, 2, none⟩ = some (.slice (some ⟨b, o, none⟩) n zc) ∧ W.cell? ⟨b, o + k * 2, none⟩ = some (.int .i64 z1) ∧ W.cell? ⟨b, o + k * 2 + 1, none⟩ = some (.int .i64 z2) ∧ W.cell? ⟨pf, 0, none⟩ = some (.int .i64 f1) ∧ W.cell? ⟨pf, 1, none⟩ = some (.int .i64 f2) ∧ Below wr.heap.size wr W)
          ((go_split_ands; refine KP.out _ ?_; exact (by repeat (first | exact Below.refl _ _ | assumption | apply balloc | apply bdrew | (refine below_drewN ?_ _) | (refine bset ?_ (by first | (simp; done) | omega | (simp; omega)) _) | (refine bnext ?_ (by assumption))))))
          ((go_at_call 123; refine (TK.out _).mono ?_; rintro e wA ⟨rfl, hbA⟩; obtain ⟨⟨hcA, hfA⟩, ⟨hcA2, hfA2⟩, hcA3, hfA3, ⟨hnA1, hnA2, hnA3, hnA4⟩, ⟨hlA1, hlA2, hlA3, hlA4, hlA5⟩, hsA⟩ := bcellR hbA; (try simp at hsA); (try have zA1 := hcA wr.heap.size 0 (by first | (simp; done) | omega | (simp; omega))); (try have zA2 := hfA wr.heap.size 0 (by first | (simp; done) | omega | (simp; omega))); (try have zA3 := hcA wr.heap.size 1 (by first | (simp; done) | omega | (simp; omega))); (try have zA4 := hfA wr.heap.size 1 (by first | (simp; done) | omega | (simp; omega)))))
        all_goals
          go_wp2_with fail
          go_meet
          refine ⟨_, rfl, ⟨?_, ?_⟩, ?_, ?_⟩
          rotate_left 2
          · have sA := hbA.size; (try simp at sA); first | omega | (simp; done) | (simp <;> omega)
          · exact (by repeat (first | exact Below.refl _ _ | exact hbA | apply balloc | apply bdrew | (refine bset ?_ (by first | (simp; done) | omega | (simp; omega)) _) | (refine bnext ?_ hbA)))
          all_goals first | (simp [go_sem]; done) | (simp (maxDischargeDepth := 8) [go_sem, set_selfR, hcA, hfA, hcA2, hfA2, hcA3, hfA3, hnA1, hnA2, hnA3, hnA4, hlA1, hlA2, hlA3, hlA4, hlA5]; done)
      case rest =>
        obtain ⟨p, rfl, hp, hpl, hb5⟩ := hcut
        obtain ⟨w5, hw5⟩ : ∃ z, wc = z := ⟨_, rfl⟩
        rw [hw5] at hp hb5 ⊢
        have B5 := hide (bnext BR.out hb5)
        have P5 := hide hp
        have O5 := hide (owns_later hrow.out hb5)
        have PN := hide (fun q hq => (show q ≠ p by have := (hrow.out.lt q hq).2; omega))
        clear hp hpl hb5 hw5 KP hrow g1 g2 g3 g4 q0 q1 c1 c2 BR TK
        have KP := hide (fun (W : World) (hb : Below w5.heap.size w5 W) => (show W.cell? ⟨w.heap.size, 0, none⟩ = some (.int .i64 s) ∧ W.cell? ⟨w.heap.size, 1, none⟩ = some (.int .i64 a0) ∧ W.cell? ⟨w.heap.size, 2, none⟩ = some (.int .i64 b0) ∧ W.cell? ⟨w.heap.size, 3, none⟩ = some (.int .i64 a1) ∧ W.cell? ⟨w.heap.size, 4, none⟩ = some (.int .i64 b1) ∧ W.cell? ⟨w.heap.size, 5, none⟩ = some (.int .i64 a2) ∧ W.cell? ⟨w.heap.size, 6, none⟩ = some (.int .i64 b2) ∧ W.cell? ⟨w.heap.size, 7, none⟩ = some (.int .i64 a3) ∧ W.cell? ⟨w.heap.size, 8, none⟩ = some (.int .i64 b3) ∧ W.cell? ⟨pv, 0, none⟩ = some (.int .i64 v1) ∧ W.cell? ⟨pv, 1, none⟩ = some (.int .i64 v2) ∧ W.cell? ⟨w.heap.size + 1, 1, none⟩ = some (.int .i64 off) ∧ W.cell? ⟨p, 0, none⟩ = some (.int .i64 x1) ∧ W.cell? ⟨p, 1, none⟩ = some (.int .i64 x2) ∧ Hid (Below wf.heap.size wf W) from
          have ⟨⟨⟨⟨m1, m2⟩, m3⟩, m4, m5⟩, ⟨m6, m7⟩, m8, m9⟩ := mdlAt_later MF.out (bnext B5.out hb)
          have ⟨u1, u2⟩ := rgAt_later VF.out (bnext B5.out hb)
          ⟨m1, m2, m3, m4, m5, m6, m7, m8, m9, u1, u2, (grAt_later GF.out (bnext B5.out hb)).1.2, later hb P5.out.1, later hb P5.out.2, hide (bnext B5.out hb)⟩))
        have KQ := hide (fun (W : World) (hb : Below wf.heap.size wf W) (e1 : W.cell? ⟨p, 0, none⟩ = some (.int .i64 x1)) (e2 : W.cell? ⟨p, 1, none⟩ = some (.int .i64 x2)) => (show W.cell? ⟨w.heap.size, 0, none⟩ = some (.int .i64 s) ∧ W.cell? ⟨w.heap.size, 1, none⟩ = some (.int .i64 a0) ∧ W.cell? ⟨w.heap.size, 2, none⟩ = some (.int .i64 b0) ∧ W.cell? ⟨w.heap.size, 3, none⟩ = some (.int .i64 a1) ∧ W.cell? ⟨w.heap.size, 4, none⟩ = some (.int .i64 b1) ∧ W.cell? ⟨w.heap.size, 5, none⟩ = some (.int .i64 a2) ∧ W.cell? ⟨w.heap.size, 6, none⟩ = some (.int .i64 b2) ∧ W.cell? ⟨w.heap.size, 7, none⟩ = some (.int .i64 a3) ∧ W.cell? ⟨w.heap.size, 8, none⟩ = some (.int .i64 b3) ∧ W.cell? ⟨pv, 0, none⟩ = some (.int .i64 v1) ∧ W.cell? ⟨pv, 1, none⟩ = some (.int .i64 v2) ∧ W.cell? ⟨w.heap.size + 1, 1, none⟩ = some (.int .i64 off) ∧ W.cell? ⟨p, 0, none⟩ = some (.int .i64 x1) ∧ W.cell? ⟨p, 1, none⟩ = some (.int .i64 x2) ∧ Hid (Below wf.heap.size wf W) from
          have ⟨⟨⟨⟨m1, m2⟩, m3⟩, m4, m5⟩, ⟨m6, m7⟩, m8, m9⟩ := mdlAt_later MF.out hb
          have ⟨u1, u2⟩ := rgAt_later VF.out hb
          ⟨m1, m2, m3, m4, m5, m6, m7, m8, m9, u1, u2, (grAt_later GF.out hb).1.2, e1, e2, hide hb⟩))
        obtain ⟨d1, d2⟩ := hd.out
        have d3 : IntKind.wrap .i64 (v1 - off) = D1 := (IntWalk.i64_left _).trans d1
        have d4 : IntKind.wrap .i64 (v2 + off) = D2 := (IntWalk.i64_left _).trans d2
        have S5 := hide (show wf.heap.size ≤ w5.heap.size from B5.out.size)
        have ZN := hide zn
        have HL := hide hlt
        go_upto_region 8 with fail
        refine wp_region_held_drew (S := (fun W => W.cell? ⟨w.heap.size, 0, none⟩ = some (.int .i64 s) ∧ W.cell? ⟨w.heap.size, 1, none⟩ = some (.int .i64 a0) ∧ W.cell? ⟨w.heap.size, 2, none⟩ = some (.int .i64 b0) ∧ W.cell? ⟨w.heap.size, 3, none⟩ = some (.int .i64 a1) ∧ W.cell? ⟨w.heap.size, 4, none⟩ = some (.int .i64 b1) ∧ W.cell? ⟨w.heap.size, 5, none⟩ = some (.int .i64 a2) ∧ W.cell? ⟨w.heap.size, 6, none⟩ = some (.int .i64 b2) ∧ W.cell? ⟨w.heap.size, 7, none⟩ = some (.int .i64 a3) ∧ W.cell? ⟨w.heap.size, 8, none⟩ = some (.int .i64 b3) ∧ W.cell? ⟨pv, 0, none⟩ = some (.int .i64 v1) ∧ W.cell? ⟨pv, 1, none⟩ = some (.int .i64 v2) ∧ W.cell? ⟨w.heap.size + 1, 1, none⟩ = some (.int .i64 off) ∧ W.cell? ⟨p, 0, none⟩ = some (.int .i64 x1) ∧ W.cell? ⟨p, 1, none⟩ = some (.int .i64 x2) ∧ Hid (Below wf.heap.size wf W))) (by kernel_rfl) (KP.out _ (bdrew (Below.refl _ _))) (fun h0 => ?_)
        (refine wpAnyH_take (i := 0) (v := ?_) rfl (by kernel_rfl) (by kernel_rfl) (by kernel_rfl) (fun _ _ _ h => h) (Or.inl ⟨by kernel_rfl, ?_⟩) (by assumption) ?_; rotate_left; focus (intro w hSw; (try dsimp only at hSw); go_simp; try with_reducible rfl))
        (simp only [Act.put, List.getElem_toArray, List.getElem_cons_zero, List.getElem_cons_succ, List.setIfInBounds_toArray, List.set_cons_zero, List.set_cons_succ])
        (refine wpAnyH_take (i := 1) (v := ?_) rfl (by kernel_rfl) (by kernel_rfl) (by kernel_rfl) (fun _ _ _ h => h) (Or.inl ⟨by kernel_rfl, ?_⟩) (by assumption) ?_; rotate_left; focus (intro w hSw; (try dsimp only at hSw); go_simp; try with_reducible rfl))
        (simp only [Act.put, List.getElem_toArray, List.getElem_cons_zero, List.getElem_cons_succ, List.setIfInBounds_toArray, List.set_cons_zero, List.set_cons_succ])
        (refine wpAnyH_take (i := 2) (v := ?_) rfl (by kernel_rfl) (by kernel_rfl) (by kernel_rfl) (fun _ _ _ h => h) (Or.inl ⟨by kernel_rfl, ?_⟩) (by assumption) ?_; rotate_left; focus (intro w hSw; (try dsimp only at hSw); go_simp; try with_reducible rfl))
        (simp only [Act.put, List.getElem_toArray, List.getElem_cons_zero, List.getElem_cons_succ, List.setIfInBounds_toArray, List.set_cons_zero, List.set_cons_succ])
        (refine wpAnyH_take (i := 3) (v := ?_) rfl (by kernel_rfl) (by kernel_rfl) (by kernel_rfl) (fun _ _ _ h => h) (Or.inl ⟨by kernel_rfl, ?_⟩) (by assumption) ?_; rotate_left; focus (intro w hSw; (try dsimp only at hSw); go_simp; try with_reducible rfl))
        (simp only [Act.put, List.getElem_toArray, List.getElem_cons_zero, List.getElem_cons_succ, List.setIfInBounds_toArray, List.set_cons_zero, List.set_cons_succ])
        (refine wpAnyH_take (i := 4) (v := ?_) rfl (by kernel_rfl) (by kernel_rfl) (by kernel_rfl) (fun _ _ _ h => h) (Or.inl ⟨by kernel_rfl, ?_⟩) (by assumption) ?_; rotate_left; focus (intro w hSw; (try dsimp only at hSw); go_simp; try with_reducible rfl))
        (simp only [Act.put, List.getElem_toArray, List.getElem_cons_zero, List.getElem_cons_succ, List.setIfInBounds_toArray, List.set_cons_zero, List.set_cons_succ])
        (refine wpAnyH_take (i := 5) (v := ?_) rfl (by kernel_rfl) (by kernel_rfl) (by kernel_rfl) (fun _ _ _ h => h) (Or.inl ⟨by kernel_rfl, ?_⟩) (by assumption) ?_; rotate_left; focus (intro w hSw; (try dsimp only at hSw); go_simp; try with_reducible rfl))
        (simp only [Act.put, List.getElem_toArray, List.getElem_cons_zero, List.getElem_cons_succ, List.setIfInBounds_toArray, List.set_cons_zero, List.set_cons_succ])
        (refine wpAnyH_take (i := 6) (v := ?_) rfl (by kernel_rfl) (by kernel_rfl) (by kernel_rfl) (fun _ _ _ h => h) (Or.inl ⟨by kernel_rfl, ?_⟩) (by assumption) ?_; rotate_left; focus (intro w hSw; (try dsimp only at hSw); go_simp; try with_reducible rfl))
        (simp only [Act.put, List.getElem_toArray, List.getElem_cons_zero, List.getElem_cons_succ, List.setIfInBounds_toArray, List.set_cons_zero, List.set_cons_succ])
        (refine wpAnyH_take (i := 7) (v := ?_) rfl (by kernel_rfl) (by kernel_rfl) (by kernel_rfl) (fun _ _ _ h => h) (Or.inl ⟨by kernel_rfl, ?_⟩) (by assumption) ?_; rotate_left; focus (intro w hSw; (try dsimp only at hSw); go_simp; try with_reducible rfl))
        (simp only [Act.put, List.getElem_toArray, List.getElem_cons_zero, List.getElem_cons_succ, List.setIfInBounds_toArray, List.set_cons_zero, List.set_cons_succ])
        (refine wpAnyH_take (i := 8) (v := ?_) rfl (by kernel_rfl) (by kernel_rfl) (by kernel_rfl) (fun _ _ _ h => h) (Or.inl ⟨by kernel_rfl, ?_⟩) (by assumption) ?_; rotate_left; focus (intro w hSw; (try dsimp only at hSw); go_simp; try with_reducible rfl))
        (simp only [Act.put, List.getElem_toArray, List.getElem_cons_zero, List.getElem_cons_succ, List.setIfInBounds_toArray, List.set_cons_zero, List.set_cons_succ])
        (refine wpAnyH_take (i := 9) (v := ?_) rfl (by kernel_rfl) (by kernel_rfl) (by kernel_rfl) (fun _ _ _ h => h) (Or.inl ⟨by kernel_rfl, ?_⟩) (by assumption) ?_; rotate_left; focus (intro w hSw; (try dsimp only at hSw); go_simp; try with_reducible rfl))
        (simp only [Act.put, List.getElem_toArray, List.getElem_cons_zero, List.getElem_cons_succ, List.setIfInBounds_toArray, List.set_cons_zero, List.set_cons_succ])
        (refine wpAnyH_take (i := 10) (v := ?_) rfl (by kernel_rfl) (by kernel_rfl) (by kernel_rfl) (fun _ _ _ h => h) (Or.inl ⟨by kernel_rfl, ?_⟩) (by assumption) ?_; rotate_left; focus (intro w hSw; (try dsimp only at hSw); go_simp; try with_reducible rfl))
        (simp only [Act.put, List.getElem_toArray, List.getElem_cons_zero, List.getElem_cons_succ, List.setIfInBounds_toArray, List.set_cons_zero, List.set_cons_succ])
        (refine wpAnyH_take (i := 11) (v := ?_) rfl (by kernel_rfl) (by kernel_rfl) (by kernel_rfl) (fun _ _ _ h => h) (Or.inl ⟨by kernel_rfl, ?_⟩) (by assumption) ?_; rotate_left; focus (intro w hSw; (try dsimp only at hSw); go_simp; try with_reducible rfl))
        (simp only [Act.put, List.getElem_toArray, List.getElem_cons_zero, List.getElem_cons_succ, List.setIfInBounds_toArray, List.set_cons_zero, List.set_cons_succ])
        (refine wpAnyH_take (i := 12) (v := ?_) rfl (by kernel_rfl) (by kernel_rfl) (by kernel_rfl) (fun _ _ _ h => h) (Or.inl ⟨by kernel_rfl, ?_⟩) (by assumption) ?_; rotate_left; focus (intro w hSw; (try dsimp only at hSw); go_simp; try with_reducible rfl))
        (simp only [Act.put, List.getElem_toArray, List.getElem_cons_zero, List.getElem_cons_succ, List.setIfInBounds_toArray, List.set_cons_zero, List.set_cons_succ])
        (refine wpAnyH_take (i := 14) (v := ?_) rfl (by kernel_rfl) (by kernel_rfl) (by kernel_rfl) (fun _ _ _ h => h) (Or.inl ⟨by kernel_rfl, ?_⟩) (by assumption) ?_; rotate_left; focus (intro w hSw; (try dsimp only at hSw); go_simp; try with_reducible rfl))
        (simp only [Act.put, List.getElem_toArray, List.getElem_cons_zero, List.getElem_cons_succ, List.setIfInBounds_toArray, List.set_cons_zero, List.set_cons_succ])
        refine wpAnyH_ready (rs := [13]) (by kernel_rfl) (by simp) ?_
        refine AllReadyH.cons rfl (fun K hK => ?_) AllReadyH.nil
        go_simp
        go_at_call 124; refine (CR.out _).mono ?_; rintro e wA ⟨rfl, hbwA⟩
        have bwA : Below w5.heap.size w5 wA := bnext (bdrew (Below.refl _ _)) hbwA
        (try go_wp2_with fail)
        refine hK.out _ _ (KP.out _ bwA) (fun h1 => ?_)
        clear hK K
        (try simp only [Act.put, List.setIfInBounds_toArray, List.set_cons_zero, List.set_cons_succ])
        refine wpAnyH_ready (rs := [15]) (by kernel_rfl) (by simp) ?_
        refine AllReadyH.cons rfl (fun K hK => ?_) AllReadyH.nil
        go_simp
        go_at_call 124; refine (CK.out _).mono ?_; rintro e wB ⟨rfl, hbwB⟩
        have bwB : Below w5.heap.size w5 wB := bnext bwA hbwB
        (try go_wp2_with fail)
        refine hK.out _ _ (KP.out _ bwB) (fun h2 => ?_)
        clear hK K
        (try simp only [Act.put, List.setIfInBounds_toArray, List.set_cons_zero, List.set_cons_succ])
        refine wpAnyH_ready (rs := [16]) (by kernel_rfl) (by simp) ?_
        refine AllReadyH.cons rfl (fun K hK => ?_) AllReadyH.nil
        go_simp
        go_at_call 20; refine (RK.out _).mono ?_; rintro e wC ⟨rfl, hbwC⟩
        have bwC : Below w5.heap.size w5 wC := bnext bwB hbwC
        (try go_wp2_with fail)
        refine hK.out _ _ (KP.out _ bwC) (fun h3 => ?_)
        clear hK K
        (try simp only [Act.put, List.setIfInBounds_toArray, List.set_cons_zero, List.set_cons_succ])
        refine wpAnyH_ready (rs := [17]) (by kernel_rfl) (by simp) ?_
        refine AllReadyH.cons rfl (fun K hK => ?_) AllReadyH.nil
        go_simp
        refine hK.out _ _ (KP.out _ (balloc bwC)) (fun h4 => ?_)
        clear hK K
        (try simp only [Act.put, List.setIfInBounds_toArray, List.set_cons_zero, List.set_cons_succ])
        refine wpAnyH_ready (rs := [18]) (by kernel_rfl) (by simp) ?_
        refine AllReadyH.cons rfl (fun K hK => ?_) AllReadyH.nil
        have bD : Below w5.heap.size w5 (wC.alloc (.cells #[.int .u8 N] 29)) := balloc bwC
        refine step_append_lies _ rfl (.tmp 53) (.tmp 70) 68 rfl wf.heap.size 29 ti (.int .u8 0) 1 1 Tryz.underlying68 HT.out HZ0.out HZ1.out HZ2.out rfl (by decide) _ k ((List.range k).map fun j => Value.int .u8 (P j : Int)) rfl (owns_later O5.out bD) _ 1 1 [.int .u8 N] rfl rfl (by intro j u hu; match j, hu with | 0, hu => (simp at hu; subst hu; simp [go_sem, Addr.add]) | i + 1, hu => simp at hu) (by intro u hu; simp at hu; subst hu; rfl) (by omega) (by have := ZN.out; have := HL.out; unfold maxLen; omega) (by have := ZN.out; have := HL.out; omega) (Nat.le_trans S5.out bD.size) _ rfl ?_
        intro g gc w6 hown6 hgrow hlie hlt6
        have hB6 : Below wf.heap.size wf w6 := Below.grown (bnext B5.out bD) hgrow (Nat.le_trans S5.out bD.size) (fun q hq => (O5.out.lt q hq).1)
        have hp1 := hgrow.cell (a := ⟨p, 0, none⟩) (v := .int .i64 x1) (later bD P5.out.1) (fun e => PN.out p e.symm rfl)
        have hp2 := hgrow.cell (a := ⟨p, 1, none⟩) (v := .int .i64 x2) (later bD P5.out.2) (fun e => PN.out p e.symm rfl)
        refine hK.out _ _ (KQ.out _ hB6 hp1 hp2) (fun h5 => ?_)
        clear hK K
        (try simp only [Act.put, List.setIfInBounds_toArray, List.set_cons_zero, List.set_cons_succ])
        (refine wpAnyH_take (i := 19) (v := ?_) rfl (by kernel_rfl) (by kernel_rfl) (by kernel_rfl) (fun _ _ _ h => h) (Or.inl ⟨by kernel_rfl, ?_⟩) (by assumption) ?_; rotate_left; focus (intro w hSw; (try dsimp only at hSw); go_simp; try with_reducible rfl))
        (simp only [Act.put, List.getElem_toArray, List.getElem_cons_zero, List.getElem_cons_succ, List.setIfInBounds_toArray, List.set_cons_zero, List.set_cons_succ])
        refine wpAnyH_done (by kernel_rfl) ?_ _
        all_goals
          have O6 := hide (show w6.ownsRow wf.heap.size 29 1 (.slice (some ⟨g, 0, none⟩) (k + 1) gc) (k + 1) ((List.range (k + 1)).map fun j => Value.int .u8 (P j : Int)) by rw [← PK.out]; exact hown6)
          have B6 := hide hB6
          clear hown6 hgrow hlie hlt6 hB6 hp1 hp2
          go_wp2_with fail
          go_roundw
          case rel => exact ⟨k + 1, by omega, by go_num, O6, B6.out⟩
          case measure => simp [intOf]; omega
    · obtain rfl : k = n := by omega
      have O6 := hide hrow.out
      have B6 := hide hb
      go_wp2_with fail
      exact bodyPost_ret (by simp [results, Tryz.results76, go_sem]) rfl ⟨_, _, BF.out.size, rfl, O6.out, bnext BF.out B6.out⟩
end Go.Proofs.YtimfbjnpalgmcaaGreat
