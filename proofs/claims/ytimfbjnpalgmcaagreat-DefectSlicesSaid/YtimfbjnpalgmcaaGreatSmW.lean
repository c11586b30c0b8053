/-
  DefectSlices: the walk.
-/
import Derived.Test.YtimfbjnpalgmcaaGreatSmM
import Derived.Test.YtimfbjnpalgmcaaGreatOwG
import Derived.Test.YtimfbjnpalgmcaaGreatDgK
import Derived.Test.YtimfbjnpalgmcaaGreatUsB
namespace Go.Proofs.YtimfbjnpalgmcaaGreat
set_option linter.unusedSimpArgs false
set_option linter.unusedVariables false
open Go.RowKit

/-- One list of sets, in memory. -/
def OneSet (W : World) (G q m : Nat) (P : Nat → Nat) : Prop := W.cell? ⟨G, 0, none⟩ = some (.slice (some ⟨q, 0, none⟩) m m) ∧ ∀ j, j < m → W.cell? ⟨q, j, none⟩ = some (.int .u8 (P j : Int))
theorem oneSet_later {w W : World} {G q m : Nat} {P : Nat → Nat} (h : OneSet w G q m P) (hb : Below w.heap.size w W) : OneSet W G q m P := ⟨later hb h.1, fun j hj => later hb (h.2 j hj)⟩
theorem ints2S {w : World} {q : Nat} {x y : Int} (c0 : w.cell? ⟨q, 0, none⟩ = some (.int .i64 x)) (c1 : w.cell? ⟨q, 1, none⟩ = some (.int .i64 y)) : IsInts w (some ⟨q, 0, none⟩) [x, y] := by
  refine .inr ⟨q, 0, rfl, fun i hi => ?_⟩
  match i, hi with
  | 0, _ => exact c0
  | 1, _ => exact c1
set_option maxRecDepth 100000 in
set_option maxHeartbeats 12800000 in
theorem defectSlices_go (s a0 b0 a1 b1 a2 b2 a3 b3 off x y A B lo hi c V sw wv u1 u2 x1 x2 e1 eg p0 p1 p2 t0 t1 t2 t3 tr tg : Int) (rs zs fs L : List (Int × Int)) (ra za fa : Option Addr) (rc zc fc n1 : Nat) (PL PS KK : Nat → Nat) (ZP N1 N2 : Nat → Int) (wb k1 k2 : Bool) (w : World)
    (IR : Hid (IsPairs w ra rs)) (IZ : Hid (IsPairs w za zs)) (ZN : Hid (wb = false → k1 = true → k2 = true → 1 ≤ zs.length ∧ zs.length ≤ 20))
    (WI : Hid (∀ W, Calls Tryz.prog 30 #[.agg #[.slice ra rs.length rc, .int .i64 off, .slice za zs.length zc, .slice fa fs.length fc]] W fun e w' => e = .returned (.bool wb) ∧ Below W.heap.size W w'))
    (CM : Hid (∀ W, Calls Tryz.prog 14 #[.agg #[.int .i64 s, .int .i64 a0, .int .i64 b0, .int .i64 a1, .int .i64 b1, .int .i64 a2, .int .i64 b2, .int .i64 a3, .int .i64 b3]] W fun e w' => e = .returned (.int .i64 e1) ∧ Below W.heap.size W w'))
    (H1 : Hid (e1 = if k1 then 0 else 2)) (HG : Hid (eg = if k2 then 0 else 2))
    (OW0 : Hid (wb = false → ∀ W, Below w.heap.size w W → Calls Tryz.prog 31 #[.agg #[.slice ra rs.length rc, .int .i64 off, .slice za zs.length zc, .slice fa fs.length fc]] W (OwPost W rs zs fs off)))
    (CG : Hid (wb = false → ∀ W q1 c1 q2 c2 q3 c3, (IsPairs W q1 rs ∧ IsPairs W q2 zs ∧ IsPairs W q3 fs) → Calls Tryz.prog 32 #[.agg #[.slice q1 rs.length c1, .int .i64 off, .slice q2 zs.length c2, .slice q3 fs.length c3]] W fun e w' => e = .returned (.int .i64 eg) ∧ Below W.heap.size W w'))
    (PA : Hid (∀ W, Calls Tryz.prog 42 #[.agg #[.int .i64 x, .int .i64 y], .int .u16 p0] W fun e w' => e = .returned (.int .i64 A) ∧ Below W.heap.size W w'))
    (PB : Hid (∀ W, Calls Tryz.prog 42 #[.agg #[.int .i64 x, .int .i64 y], .int .u16 p1] W fun e w' => e = .returned (.int .i64 B) ∧ Below W.heap.size W w'))
    (HLH : Hid (min A B = lo ∧ max A B = hi)) (HLB : Hid (wb = false → k1 = true → k2 = true → x ≤ lo ∧ hi ≤ y)) (HC : Hid (lo < hi → lo ≤ c ∧ c < hi))
    (PRL : Hid (lo < hi → ∀ W q1 c1 q2 c2 q3 c3 q4, (IsPairs W q1 rs ∧ IsPairs W q2 zs ∧ IsPairs W q3 fs) → IsInts W (some ⟨q4, 0, none⟩) [lo, hi] → Calls Tryz.prog 33 #[.agg #[.int .i64 s, .int .i64 a0, .int .i64 b0, .int .i64 a1, .int .i64 b1, .int .i64 a2, .int .i64 b2, .int .i64 a3, .int .i64 b3], .agg #[.slice q1 rs.length c1, .int .i64 off, .slice q2 zs.length c2, .slice q3 fs.length c3], .slice (some ⟨q4, 0, none⟩) 2 2] W (PtPost W zs.length PL)))
    (PRS : Hid (lo < hi → ∀ W q1 c1 q2 c2 q3 c3 q4, (IsPairs W q1 rs ∧ IsPairs W q2 zs ∧ IsPairs W q3 fs) → IsInts W (some ⟨q4, 0, none⟩) [c, c + 1] → Calls Tryz.prog 33 #[.agg #[.int .i64 s, .int .i64 a0, .int .i64 b0, .int .i64 a1, .int .i64 b1, .int .i64 a2, .int .i64 b2, .int .i64 a3, .int .i64 b3], .agg #[.slice q1 rs.length c1, .int .i64 off, .slice q2 zs.length c2, .slice q3 fs.length c3], .slice (some ⟨q4, 0, none⟩) 2 2] W (PtPost W zs.length PS)))
    (PC : Hid (lo < hi → ∀ W, Calls Tryz.prog 42 #[.agg #[.int .i64 lo, .int .i64 (hi - 1)], .int .u16 p2] W fun e w' => e = .returned (.int .i64 c) ∧ Below W.heap.size W w'))
    (HO : Hid (wb = false → k1 = true → k2 = true → (0 ≤ off ∧ off ≤ 1000000) ∧ (0 ≤ u1 ∧ u1 ≤ u2) ∧ u2 ≤ 1000000))
    (VR : Hid (lo < hi → ∀ W, Below w.heap.size w W → Calls Tryz.prog 48 #[.slice ra rs.length rc, .agg #[.int .i64 c, .int .i64 c]] W fun e w' => e = .returned (.tuple #[.agg #[.int .i64 u1, .int .i64 u2], .int .i64 0]) ∧ Below W.heap.size W w'))
    (VF : Hid (lo < hi → ∀ W, Below w.heap.size w W → Calls Tryz.prog 48 #[.slice fa fs.length fc, .agg #[.int .i64 c, .int .i64 c]] W fun e w' => e = .returned (.tuple #[.agg #[.int .i64 x1, .int .i64 x2], .int .i64 0]) ∧ Below W.heap.size W w'))
    (PV : Hid (lo < hi → ∀ W, Calls Tryz.prog 42 #[.agg #[.int .i64 (max 0 (u1 - off)), .int .i64 (u2 + off)], .int .u16 tr] W fun e w' => e = .returned (.int .i64 V) ∧ Below W.heap.size W w'))
    (PZ : Hid (lo < hi → ∀ k, k < zs.length → ∀ W, Calls Tryz.prog 42 #[.agg #[.int .i64 (zs.getD k (0, 0)).1, .int .i64 (zs.getD k (0, 0)).2], .int .u16 tg] W fun e w' => e = .returned (.int .i64 (ZP k)) ∧ Below W.heap.size W w'))
    (MD : Hid (lo < hi → ∀ k, k < zs.length → ∀ W, Calls Tryz.prog 49 #[.int .i64 (ZP k), .int .i64 x1, .int .i64 10000, .int .u8 3] W fun e w' => e = .returned (.tuple #[.int .i64 (N1 k), .int .i64 (N2 k), .int .i64 0]) ∧ Below W.heap.size W w'))
    (RE : Hid (lo < hi → ∀ k, k < zs.length → ∀ W, Calls Tryz.prog 43 #[.agg #[.int .i64 s, .int .i64 a0, .int .i64 b0, .int .i64 a1, .int .i64 b1, .int .i64 a2, .int .i64 b2, .int .i64 a3, .int .i64 b3], .agg #[.int .u16 t0, .int .u16 t1, .int .u16 t2, .int .u16 t3, .int .u16 tr, .int .u16 tg], .int .i64 (max 0 (min 1000000 V)), .int .i64 (max 1 (min 1000000 (N1 k)))] W fun e w' => e = .returned (.int .i64 (KK k : Int)) ∧ Below W.heap.size W w'))
    (FB : Hid (lo < hi → ∀ k, k < zs.length → KK k < 5 ∧ bits BinOp.and IntKind.u8 ((PS k : Int) / 2 ^ KK k) 1 = 1 ∧ bits BinOp.andNot IntKind.u8 (PS k : Int) (PL k : Int) = 0))
    (HW : Hid (bits BinOp.and IntKind.u8 sw 31 = wv))
    (US : Hid (lo < hi → ∀ W q1 c1 q2 c2 q3 c3, (IsPairs W q1 rs ∧ IsPairs W q2 zs ∧ IsPairs W q3 fs) → Calls Tryz.prog 38 #[.agg #[.int .i64 s, .int .i64 a0, .int .i64 b0, .int .i64 a1, .int .i64 b1, .int .i64 a2, .int .i64 b2, .int .i64 a3, .int .i64 b3], .agg #[.slice q1 rs.length c1, .int .i64 off, .slice q2 zs.length c2, .slice q3 fs.length c3], .int .u8 wv] W (UsPost W L)))
    (GR : Hid (lo < hi → GapRuns x y L ∧ L.length ≤ 3000)) (FI : Hid (lo < hi → inRuns L c = wantQ PS wv zs.length))
    (HD : Hid (wb = false → k1 = true → k2 = true → (rs.length = n1 + 1 ∧ 1 ≤ n1 ∧ n1 ≤ 59) ∧ ((rs.getD 0 (0, 0)).1 = x ∧ (rs.getD n1 (0, 0)).1 = y) ∧ (0 ≤ x ∧ x < y) ∧ y ≤ 3000)) :
    Calls Tryz.prog 12 #[.agg #[.int .i64 s, .int .i64 a0, .int .i64 b0, .int .i64 a1, .int .i64 b1, .int .i64 a2, .int .i64 b2, .int .i64 a3, .int .i64 b3], .agg #[.slice ra rs.length rc, .int .i64 off, .slice za zs.length zc, .slice fa fs.length fc], .agg #[.int .u16 p0, .int .u16 p1, .int .u16 p2, .int .u16 t0, .int .u16 t1, .int .u16 t2, .int .u16 t3, .int .u16 tr, .int .u16 tg, .int .u8 sw]] w fun e w' => e = .returned (.bool true) ∧ Below w.heap.size w w' := by
  go_enter Tryz.func12, Tryz.ntmps12
  go_upto_region 1 with fail
  obtain ⟨w0, hw0⟩ : ∃ z, z = ((w.alloc (.cells #[.int .i64 s, .int .i64 a0, .int .i64 b0, .int .i64 a1, .int .i64 b1, .int .i64 a2, .int .i64 b2, .int .i64 a3, .int .i64 b3] 26)).alloc (.cells #[.slice ra rs.length rc, .int .i64 off, .slice za zs.length zc, .slice fa fs.length fc] 58)).alloc (.cells #[.int .u16 p0, .int .u16 p1, .int .u16 p2, .int .u16 t0, .int .u16 t1, .int .u16 t2, .int .u16 t3, .int .u16 tr, .int .u16 tg, .int .u8 sw] 100) := ⟨_, rfl⟩
  rw [← hw0]
  have B0 := hide (show Below w.heap.size w w0 by rw [hw0]; exact (by repeat (first | exact Below.refl _ _ | assumption | apply balloc | apply bdrew | (refine below_drewN ?_ _) | (refine bset ?_ (by first | (simp; done) | omega | (simp; omega)) _) | (refine bnext ?_ (by assumption)))))
  have KM := hide (fun (W : World) (hb : Below w0.heap.size w0 W) => (show W.cell? ⟨w.heap.size, 0, none⟩ = some (.int .i64 s) ∧ W.cell? ⟨w.heap.size, 1, none⟩ = some (.int .i64 a0) ∧ W.cell? ⟨w.heap.size, 2, none⟩ = some (.int .i64 b0) ∧ W.cell? ⟨w.heap.size, 3, none⟩ = some (.int .i64 a1) ∧ W.cell? ⟨w.heap.size, 4, none⟩ = some (.int .i64 b1) ∧ W.cell? ⟨w.heap.size, 5, none⟩ = some (.int .i64 a2) ∧ W.cell? ⟨w.heap.size, 6, none⟩ = some (.int .i64 b2) ∧ W.cell? ⟨w.heap.size, 7, none⟩ = some (.int .i64 a3) ∧ W.cell? ⟨w.heap.size, 8, none⟩ = some (.int .i64 b3) ∧ W.cell? ⟨w.heap.size + 1, 0, none⟩ = some (.slice ra rs.length rc) ∧ W.cell? ⟨w.heap.size + 1, 1, none⟩ = some (.int .i64 off) ∧ W.cell? ⟨w.heap.size + 1, 2, none⟩ = some (.slice za zs.length zc) ∧ W.cell? ⟨w.heap.size + 1, 3, none⟩ = some (.slice fa fs.length fc) ∧ Below w0.heap.size w0 W by
    obtain ⟨⟨⟨⟨m1, m2⟩, m3⟩, m4, m5⟩, ⟨m6, m7⟩, m8, m9⟩ := (show MdlAt w0 w.heap.size ⟨s, a0, b0, a1, b1, a2, b2, a3, b3⟩ by rw [hw0]; exact mdlAt_later (mdlAt_new w ⟨s, a0, b0, a1, b1, a2, b2, a3, b3⟩ 26) (by repeat (first | exact Below.refl _ _ | assumption | apply balloc | apply bdrew | (refine below_drewN ?_ _) | (refine bset ?_ (by first | (simp; done) | omega | (simp; omega)) _) | (refine bnext ?_ (by assumption)))))
    refine ⟨later hb m1, later hb m2, later hb m3, later hb m4, later hb m5, later hb m6, later hb m7, later hb m8, later hb m9, later hb ?_, later hb ?_, later hb ?_, later hb ?_, hb⟩ <;> (rw [hw0]; exact (by simp [go_sem, World.cell?_alloc_past]))))
  have KL := hide (fun (W : World) (hb : Below w0.heap.size w0 W) => (show W.cell? ⟨w.heap.size + 1 + 1, 0, none⟩ = some (.int .u16 p0) ∧ W.cell? ⟨w.heap.size + 1 + 1, 1, none⟩ = some (.int .u16 p1) ∧ W.cell? ⟨w.heap.size + 1 + 1, 2, none⟩ = some (.int .u16 p2) ∧ W.cell? ⟨w.heap.size + 1 + 1, 3, none⟩ = some (.int .u16 t0) ∧ W.cell? ⟨w.heap.size + 1 + 1, 4, none⟩ = some (.int .u16 t1) ∧ W.cell? ⟨w.heap.size + 1 + 1, 5, none⟩ = some (.int .u16 t2) ∧ W.cell? ⟨w.heap.size + 1 + 1, 6, none⟩ = some (.int .u16 t3) ∧ W.cell? ⟨w.heap.size + 1 + 1, 7, none⟩ = some (.int .u16 tr) ∧ W.cell? ⟨w.heap.size + 1 + 1, 8, none⟩ = some (.int .u16 tg) ∧ W.cell? ⟨w.heap.size + 1 + 1, 9, none⟩ = some (.int .u8 sw) by
    refine ⟨later hb ?_, later hb ?_, later hb ?_, later hb ?_, later hb ?_, later hb ?_, later hb ?_, later hb ?_, later hb ?_, later hb ?_⟩ <;> (rw [hw0]; exact (by simp [go_sem, World.cell?_alloc_past]))))
  clear hw0
  have ⟨m1, m2, m3, m4, m5, m6, m7, m8, m9, g1, g2, g3, g4, _⟩ := KM.out _ (Below.refl _ _)
  go_wp2_with fail
  refine (WI.out _).mono ?_
  rintro e wa ⟨rfl, hba⟩
  have Ba := hide hba
  clear m1 m2 m3 m4 m5 m6 m7 m8 m9 g1 g2 g3 g4 hba WI
  cases wb with
  | true =>
    go_wp2_with fail
    refine (known5_any _).mono ?_
    rintro e wz ⟨rfl, hbz⟩
    have BZ := hide (bnext (bnext B0.out Ba.out) hbz)
    go_wp2_with fail
    go_ret
    exact ⟨rfl, BZ.out⟩
  | false =>
  have OW := hide (OW0.out rfl)
  have CG' := hide (CG.out rfl)
  have HD' := hide (fun e1 e2 => HD.out rfl e1 e2)
  clear OW0 CG HD
  have ⟨m1, m2, m3, m4, m5, m6, m7, m8, m9, g1, g2, g3, g4, _⟩ := KM.out _ Ba.out
  go_wp2_with fail
  refine (CM.out _).mono ?_
  rintro e wb' ⟨rfl, hbb⟩
  have Bb := hide (bnext Ba.out hbb)
  clear m1 m2 m3 m4 m5 m6 m7 m8 m9 g1 g2 g3 g4 hbb CM Ba
  cases k1 with
  | false =>
    obtain rfl : e1 = 2 := by simpa using H1.out
    go_wp2_with fail
    refine (known5_any _).mono ?_
    rintro e wz ⟨rfl, hbz⟩
    have BZ := hide (bnext (bnext B0.out Bb.out) hbz)
    go_wp2_with fail
    go_ret
    exact ⟨rfl, BZ.out⟩
  | true =>
  obtain rfl : e1 = 0 := by simpa using H1.out
  have ⟨m1, m2, m3, m4, m5, m6, m7, m8, m9, g1, g2, g3, g4, _⟩ := KM.out _ Bb.out
  go_wp2_with fail
  refine (OW.out _ (bnext B0.out Bb.out)).mono ?_
  rintro e wo ⟨q1, c1, q2, c2, q3, c3, rfl, hP, hN, hbc⟩
  have Bc := hide (bnext Bb.out hbc)
  have HP := hide hP
  clear m1 m2 m3 m4 m5 m6 m7 m8 m9 g1 g2 g3 g4 hbc hP hN Bb
  go_wp2_with fail
  refine (CG'.out _ _ _ _ _ _ _ HP.out).mono ?_
  rintro e wd ⟨rfl, hbd⟩
  have Bd := hide (bnext Bc.out hbd)
  clear hbd HP CG' Bc
  cases k2 with
  | false =>
    obtain rfl : eg = 2 := by simpa using HG.out
    go_wp2_with fail
    refine (known5_any _).mono ?_
    rintro e wz ⟨rfl, hbz⟩
    have BZ := hide (bnext (bnext B0.out Bd.out) hbz)
    go_wp2_with fail
    go_ret
    exact ⟨rfl, BZ.out⟩
  | true =>
  obtain rfl : eg = 0 := by simpa using HG.out
  obtain ⟨⟨hl, hl1, hl2⟩, ⟨hx, hy⟩, ⟨x0, xy⟩, y3⟩ := HD'.out (by simp) (by simp)
  clear HD' H1 HG
  have HLn := hide hl
  have d1 : decide ((rs.length : Int) < 2) = false := decide_eq_false (by omega)
  have d2 : decide ((60 : Int) < (rs.length : Int)) = false := decide_eq_false (by omega)
  have ⟨_, _, _, _, _, _, _, _, _, g1, g2, g3, g4, _⟩ := KM.out _ Bd.out
  go_upto_region 3 with fail
  clear d1 d2 g1 g2 g3 g4
  obtain ⟨rb, ro, hra, hcs⟩ : ∃ b o, ra = some ⟨b, o, none⟩ ∧ ∀ i, i < rs.length → w.cell? ⟨b, o + i * 2, none⟩ = some (.int .i64 (rs.getD i (0, 0)).1) ∧ w.cell? ⟨b, o + i * 2 + 1, none⟩ = some (.int .i64 (rs.getD i (0, 0)).2) := by
    rcases IR.out with h | h
    · subst h; simp at hl
    · exact h
  have C0 := hide (show w.cell? ⟨rb, ro, none⟩ = some (.int .i64 x) by rw [← hx]; exact (hcs 0 (by omega)).1)
  have C1 := hide (show w.cell? ⟨rb, ro + n1 * 2, none⟩ = some (.int .i64 y) by rw [← hy]; exact (hcs n1 (by omega)).1)
  have KR := hide (fun (W : World) (hb : Below wd.heap.size wd W) => (show W.cell? ⟨w.heap.size + 1, 0, none⟩ = some (.slice (some ⟨rb, ro, none⟩) rs.length rc) ∧ W.cell? ⟨rb, ro, none⟩ = some (.int .i64 x) ∧ W.cell? ⟨rb, ro + n1 * 2, none⟩ = some (.int .i64 y) ∧ Below wd.heap.size wd W from
    have ⟨_, _, _, _, _, _, _, _, _, g1, g2, g3, g4, _⟩ := KM.out _ (bnext Bd.out hb)
    ⟨hra ▸ g1, later (bnext (bnext B0.out Bd.out) hb) C0.out, later (bnext (bnext B0.out Bd.out) hb) C1.out, hb⟩))
  have nw : wrap64 ((rs.length : Int) - 1) = (n1 : Int) := (IntWalk.i64_left _).symm.trans ((IntWalk.i64_in _ (by omega)).trans (by omega))
  have nw2 : IntKind.i64.wrap ((rs.length : Int) - 1) = (n1 : Int) := (IntWalk.i64_in _ (by omega)).trans (by omega)
  have n0 : 0 ≤ (n1 : Int) := by omega
  have nl : (n1 : Int) < (rs.length : Int) := by omega
  have r0 : (0 : Int) < (rs.length : Int) := by omega
  have r0' : 0 < rs.length := by omega
  clear hcs hx hy hl hra
  go_cut [7] from 55 to 69 (fun s7 wx => ∃ Q : Nat, s7 = .pointer (some ⟨Q, 0, none⟩) ∧ RgAt wx Q x y ∧ Below wd.heap.size wd wx)
  case first =>
    go_region_held3 (fun W => W.cell? ⟨w.heap.size + 1, 0, none⟩ = some (.slice (some ⟨rb, ro, none⟩) rs.length rc) ∧ W.cell? ⟨rb, ro, none⟩ = some (.int .i64 x) ∧ W.cell? ⟨rb, ro + n1 * 2, none⟩ = some (.int .i64 y) ∧ Below wd.heap.size wd W)
      (first | (go_split_ands; assumption) | (refine KR.out _ ?_; exact (by repeat (first | exact Below.refl _ _ | assumption | apply balloc | apply bdrew | (refine below_drewN ?_ _) | (refine bset ?_ (by first | (simp; done) | omega | (simp; omega)) _) | (refine bnext ?_ (by assumption))))) | (exact KR.out _ (Below.refl _ _)))
      (fail)
    all_goals (go_wp2_with fail; go_meet; exact ⟨_, rfl, ⟨(by simp [go_sem, World.cell?_alloc_past]), (by simp [go_sem, World.cell?_alloc_past])⟩, (by repeat (first | exact Below.refl _ _ | assumption | apply balloc | apply bdrew | (refine below_drewN ?_ _) | (refine bset ?_ (by first | (simp; done) | omega | (simp; omega)) _) | (refine bnext ?_ (by assumption))))⟩)
  case rest =>
    obtain ⟨Q, rfl, hQ, hbe⟩ := hcut
    obtain ⟨we, hwe⟩ : ∃ z, z = wc := ⟨_, rfl⟩
    subst hwe
    have BE := hide hbe
    have QA := hide hQ
    clear hbe hQ KR C0 C1 IR nw nw2 n0 nl r0 r0'
    have ⟨h1, h2⟩ := QA.out
    by_cases h300 : 300 < y - x
    · have d300 : decide (300 < y - x) = true := decide_eq_true h300
      clear h300
      go_wp2_with fail
      refine (known5_any _).mono ?_
      rintro e wz ⟨rfl, hbz⟩
      have BZ := hide (bnext (bnext (bnext B0.out Bd.out) BE.out) hbz)
      go_wp2_with fail
      go_ret
      exact ⟨rfl, BZ.out⟩
    have d300 : decide (300 < y - x) = false := decide_eq_false h300
    have dyx : decide (y ≤ x) = false := decide_eq_false (by omega)
    have KQ := hide (fun (W : World) (hb : Below we.heap.size we W) => (show W.cell? ⟨Q, 0, none⟩ = some (.int .i64 x) ∧ W.cell? ⟨Q, 1, none⟩ = some (.int .i64 y) ∧ W.cell? ⟨w.heap.size + 1 + 1, 0, none⟩ = some (.int .u16 p0) ∧ W.cell? ⟨w.heap.size + 1 + 1, 1, none⟩ = some (.int .u16 p1) ∧ Below we.heap.size we W from
      have ⟨l0, l1, _⟩ := KL.out _ (bnext (bnext Bd.out BE.out) hb)
      ⟨later hb QA.out.1, later hb QA.out.2, l0, l1, hb⟩))
    go_upto_region 6 with fail
    clear d300 dyx h300 h1 h2
    go_cut [8, 9] from 84 to 93 (fun s8 s9 wy => s8 = .int .i64 A ∧ s9 = .int .i64 B ∧ Below we.heap.size we wy)
    case first =>
      go_region_held3 (fun W => W.cell? ⟨Q, 0, none⟩ = some (.int .i64 x) ∧ W.cell? ⟨Q, 1, none⟩ = some (.int .i64 y) ∧ W.cell? ⟨w.heap.size + 1 + 1, 0, none⟩ = some (.int .u16 p0) ∧ W.cell? ⟨w.heap.size + 1 + 1, 1, none⟩ = some (.int .u16 p1) ∧ Below we.heap.size we W)
        (first | (go_split_ands; assumption) | (refine KQ.out _ ?_; exact (by repeat (first | exact Below.refl _ _ | assumption | apply balloc | apply bdrew | (refine below_drewN ?_ _) | (refine bset ?_ (by first | (simp; done) | omega | (simp; omega)) _) | (refine bnext ?_ (by assumption))))) | (exact KQ.out _ (Below.refl _ _)))
        (first | (go_at_call_of 42 p0; refine (PA.out _).mono ?_; first | (have hq := hbA; clear hq; rintro e wB ⟨rfl, hbB⟩) | (rintro e wA ⟨rfl, hbA⟩)) | (go_at_call_of 42 p1; refine (PB.out _).mono ?_; first | (have hq := hbA; clear hq; rintro e wB ⟨rfl, hbB⟩) | (rintro e wA ⟨rfl, hbA⟩)))
      all_goals (go_wp2_with fail; go_meet; exact ⟨rfl, rfl, by go_split_ands; assumption⟩)
    case rest =>
    obtain ⟨rfl, rfl, hbf⟩ := hcut
    obtain ⟨wf, hwf⟩ : ∃ z, z = wc := ⟨_, rfl⟩
    subst hwf
    have BF := hide (show Below w0.heap.size w0 wf from bnext (bnext Bd.out BE.out) hbf)
    have QF := hide (rgAt_later QA.out hbf)
    have BWF := hide (show Below w.heap.size w wf from bnext B0.out BF.out)
    have HB2 := hide (HLB.out (by simp) (by simp) (by simp))
    clear hbf QA BE Bd KQ PA PB HLB
    have f1 := HLH.out.1
    have f2 := HLH.out.2
    have HLH2 := hide (show lo ≤ hi by have := HLH.out; omega)
    go_upto_region 8 with fail
    clear f1 f2 HLH
    by_cases hlh : lo = hi
    · have dl : (lo == hi) = true := by simpa using hlh
      clear hlh
      go_wp2_with fail
      refine (known5_any _).mono ?_
      rintro e wz ⟨rfl, hbz⟩
      have BZ := hide (bnext BWF.out hbz)
      go_wp2_with fail
      go_ret
      exact ⟨rfl, BZ.out⟩
    have dl : (lo == hi) = false := by simpa using hlh
    have lt : lo < hi := by have := HLH2.out; omega
    have LT := hide lt
    have PRL' := hide (PRL.out lt)
    have PRS' := hide (PRS.out lt)
    have PC' := hide (PC.out lt)
    have HC' := hide (HC.out lt)
    clear lt hlh PRL PRS PC HC
    have KF := hide (fun (W : World) (hb : Below wf.heap.size wf W) => (show W.cell? ⟨w.heap.size, 0, none⟩ = some (.int .i64 s) ∧ W.cell? ⟨w.heap.size, 1, none⟩ = some (.int .i64 a0) ∧ W.cell? ⟨w.heap.size, 2, none⟩ = some (.int .i64 b0) ∧ W.cell? ⟨w.heap.size, 3, none⟩ = some (.int .i64 a1) ∧ W.cell? ⟨w.heap.size, 4, none⟩ = some (.int .i64 b1) ∧ W.cell? ⟨w.heap.size, 5, none⟩ = some (.int .i64 a2) ∧ W.cell? ⟨w.heap.size, 6, none⟩ = some (.int .i64 b2) ∧ W.cell? ⟨w.heap.size, 7, none⟩ = some (.int .i64 a3) ∧ W.cell? ⟨w.heap.size, 8, none⟩ = some (.int .i64 b3) ∧ W.cell? ⟨w.heap.size + 1, 0, none⟩ = some (.slice ra rs.length rc) ∧ W.cell? ⟨w.heap.size + 1, 1, none⟩ = some (.int .i64 off) ∧ W.cell? ⟨w.heap.size + 1, 2, none⟩ = some (.slice za zs.length zc) ∧ W.cell? ⟨w.heap.size + 1, 3, none⟩ = some (.slice fa fs.length fc) ∧ Below wf.heap.size wf W from
      have ⟨m1, m2, m3, m4, m5, m6, m7, m8, m9, g1, g2, g3, g4, _⟩ := KM.out _ (bnext BF.out hb)
      ⟨m1, m2, m3, m4, m5, m6, m7, m8, m9, g1, g2, g3, g4, hb⟩))
    go_upto_region 10 with fail
    clear dl
    go_cut [10, 11] from 104 to 113 (fun s10 s11 wy => ∃ G cap q : Nat, s10 = .slice (some ⟨G, 0, none⟩) 1 cap ∧ s11 = .int .i64 0 ∧ OneSet wy G q zs.length PL ∧ Below wf.heap.size wf wy)
    case first =>
      go_region_held3 (fun W => W.cell? ⟨w.heap.size, 0, none⟩ = some (.int .i64 s) ∧ W.cell? ⟨w.heap.size, 1, none⟩ = some (.int .i64 a0) ∧ W.cell? ⟨w.heap.size, 2, none⟩ = some (.int .i64 b0) ∧ W.cell? ⟨w.heap.size, 3, none⟩ = some (.int .i64 a1) ∧ W.cell? ⟨w.heap.size, 4, none⟩ = some (.int .i64 b1) ∧ W.cell? ⟨w.heap.size, 5, none⟩ = some (.int .i64 a2) ∧ W.cell? ⟨w.heap.size, 6, none⟩ = some (.int .i64 b2) ∧ W.cell? ⟨w.heap.size, 7, none⟩ = some (.int .i64 a3) ∧ W.cell? ⟨w.heap.size, 8, none⟩ = some (.int .i64 b3) ∧ W.cell? ⟨w.heap.size + 1, 0, none⟩ = some (.slice ra rs.length rc) ∧ W.cell? ⟨w.heap.size + 1, 1, none⟩ = some (.int .i64 off) ∧ W.cell? ⟨w.heap.size + 1, 2, none⟩ = some (.slice za zs.length zc) ∧ W.cell? ⟨w.heap.size + 1, 3, none⟩ = some (.slice fa fs.length fc) ∧ Below wf.heap.size wf W)
        (first | (go_split_ands; assumption) | (refine KF.out _ ?_; exact (by repeat (first | exact Below.refl _ _ | assumption | apply balloc | apply bdrew | (refine below_drewN ?_ _) | (refine bset ?_ (by first | (simp; done) | omega | (simp; omega)) _) | (refine bnext ?_ (by assumption))))) | (exact KF.out _ (Below.refl _ _)))
        (first
          | (go_at_call 31; refine (OW.out _ (bnext BWF.out (by go_split_ands; assumption))).mono ?_; rintro e wA ⟨q1, c1, q2, c2, q3, c3, rfl, hP, hN, hbA⟩)
          | (go_at_call 33; refine (PRL'.out _ _ _ _ _ _ _ _ (by first | exact hP | exact ⟨pairs_later hP.1 (by repeat (first | exact Below.refl _ _ | assumption | apply balloc | apply bdrew | (refine bnext ?_ (by assumption)))), pairs_later hP.2.1 (by repeat (first | exact Below.refl _ _ | assumption | apply balloc | apply bdrew | (refine bnext ?_ (by assumption)))), pairs_later hP.2.2 (by repeat (first | exact Below.refl _ _ | assumption | apply balloc | apply bdrew | (refine bnext ?_ (by assumption))))⟩) (by first | exact ints2S (by simp [go_sem, World.cell?_alloc_past]) (by simp [go_sem, World.cell?_alloc_past]) | exact ints2S (later hbA (by simp [go_sem, World.cell?_alloc_past])) (later hbA (by simp [go_sem, World.cell?_alloc_past])))).mono ?_; rintro e wB ⟨G, cap, q, rfl, hG, hrow, hbB⟩))
      all_goals (go_wp2_with fail; go_meet; exact ⟨G, cap, q, rfl, rfl, ⟨hG, fun j hj => hrow.cell hj⟩, by first | (go_split_ands; assumption) | exact (by repeat (first | exact Below.refl _ _ | assumption | apply balloc | apply bdrew | (refine below_drewN ?_ _) | (refine bset ?_ (by first | (simp; done) | omega | (simp; omega)) _) | (refine bnext ?_ (by assumption))))⟩)
    case rest =>
    obtain ⟨G, cap, q, rfl, rfl, hone, hbg⟩ := hcut
    obtain ⟨wg, hwg⟩ : ∃ z, z = wc := ⟨_, rfl⟩
    subst hwg
    have L1 := hide hone
    have BG := hide hbg
    clear hone hbg PRL'
    have hw1 : wrap64 (hi - 1) = hi - 1 := (IntWalk.i64_left _).symm.trans (IntWalk.i64_in _ (by have := HB2.out; have := LT.out; omega))
    have ⟨_, _, l2, _⟩ := KL.out _ (bnext BF.out BG.out)
    go_upto_region 11 with fail
    go_wp2_with fail
    refine (PC'.out _).mono ?_
    rintro e wh ⟨rfl, hbh⟩
    have BH := hide (bnext BG.out hbh)
    have CH := hide hbh
    clear hw1 l2 hbh PC' BG
    have hw2 : wrap64 (c + 1) = c + 1 := (IntWalk.i64_left _).symm.trans (IntWalk.i64_in _ (by have := HB2.out; have := HC'.out; omega))
    have hw3 : IntKind.i64.wrap (c + 1) = c + 1 := IntWalk.i64_in _ (by have := HB2.out; have := HC'.out; omega)
    have KH := hide (fun (W : World) (hb : Below wh.heap.size wh W) => (show W.cell? ⟨w.heap.size, 0, none⟩ = some (.int .i64 s) ∧ W.cell? ⟨w.heap.size, 1, none⟩ = some (.int .i64 a0) ∧ W.cell? ⟨w.heap.size, 2, none⟩ = some (.int .i64 b0) ∧ W.cell? ⟨w.heap.size, 3, none⟩ = some (.int .i64 a1) ∧ W.cell? ⟨w.heap.size, 4, none⟩ = some (.int .i64 b1) ∧ W.cell? ⟨w.heap.size, 5, none⟩ = some (.int .i64 a2) ∧ W.cell? ⟨w.heap.size, 6, none⟩ = some (.int .i64 b2) ∧ W.cell? ⟨w.heap.size, 7, none⟩ = some (.int .i64 a3) ∧ W.cell? ⟨w.heap.size, 8, none⟩ = some (.int .i64 b3) ∧ W.cell? ⟨w.heap.size + 1, 0, none⟩ = some (.slice ra rs.length rc) ∧ W.cell? ⟨w.heap.size + 1, 1, none⟩ = some (.int .i64 off) ∧ W.cell? ⟨w.heap.size + 1, 2, none⟩ = some (.slice za zs.length zc) ∧ W.cell? ⟨w.heap.size + 1, 3, none⟩ = some (.slice fa fs.length fc) ∧ Below wh.heap.size wh W from
      have ⟨m1, m2, m3, m4, m5, m6, m7, m8, m9, g1, g2, g3, g4, _⟩ := KF.out _ (bnext BH.out hb)
      ⟨m1, m2, m3, m4, m5, m6, m7, m8, m9, g1, g2, g3, g4, hb⟩))
    go_upto_region 12 with fail
    go_cut [13, 14] from 122 to 132 (fun s10 s11 wy => ∃ G cap q : Nat, s10 = .slice (some ⟨G, 0, none⟩) 1 cap ∧ s11 = .int .i64 0 ∧ OneSet wy G q zs.length PS ∧ Below wh.heap.size wh wy)
    case first =>
      go_region_held3 (fun W => W.cell? ⟨w.heap.size, 0, none⟩ = some (.int .i64 s) ∧ W.cell? ⟨w.heap.size, 1, none⟩ = some (.int .i64 a0) ∧ W.cell? ⟨w.heap.size, 2, none⟩ = some (.int .i64 b0) ∧ W.cell? ⟨w.heap.size, 3, none⟩ = some (.int .i64 a1) ∧ W.cell? ⟨w.heap.size, 4, none⟩ = some (.int .i64 b1) ∧ W.cell? ⟨w.heap.size, 5, none⟩ = some (.int .i64 a2) ∧ W.cell? ⟨w.heap.size, 6, none⟩ = some (.int .i64 b2) ∧ W.cell? ⟨w.heap.size, 7, none⟩ = some (.int .i64 a3) ∧ W.cell? ⟨w.heap.size, 8, none⟩ = some (.int .i64 b3) ∧ W.cell? ⟨w.heap.size + 1, 0, none⟩ = some (.slice ra rs.length rc) ∧ W.cell? ⟨w.heap.size + 1, 1, none⟩ = some (.int .i64 off) ∧ W.cell? ⟨w.heap.size + 1, 2, none⟩ = some (.slice za zs.length zc) ∧ W.cell? ⟨w.heap.size + 1, 3, none⟩ = some (.slice fa fs.length fc) ∧ Below wh.heap.size wh W)
        (first | (go_split_ands; assumption) | (refine KH.out _ ?_; exact (by repeat (first | exact Below.refl _ _ | assumption | apply balloc | apply bdrew | (refine below_drewN ?_ _) | (refine bset ?_ (by first | (simp; done) | omega | (simp; omega)) _) | (refine bnext ?_ (by assumption))))) | (exact KH.out _ (Below.refl _ _)))
        (first
          | (go_at_call 31; refine (OW.out _ (bnext (bnext BWF.out BH.out) (by go_split_ands; assumption))).mono ?_; rintro e wA ⟨q1, c1, q2, c2, q3, c3, rfl, hP, hN, hbA⟩)
          | (go_at_call 33; refine (PRS'.out _ _ _ _ _ _ _ _ (by first | exact hP | exact ⟨pairs_later hP.1 (by repeat (first | exact Below.refl _ _ | assumption | apply balloc | apply bdrew | (refine bnext ?_ (by assumption)))), pairs_later hP.2.1 (by repeat (first | exact Below.refl _ _ | assumption | apply balloc | apply bdrew | (refine bnext ?_ (by assumption)))), pairs_later hP.2.2 (by repeat (first | exact Below.refl _ _ | assumption | apply balloc | apply bdrew | (refine bnext ?_ (by assumption))))⟩) (by first | exact ints2S (by simp [go_sem, World.cell?_alloc_past]) (by simp [go_sem, World.cell?_alloc_past]) | exact ints2S (later hbA (by simp [go_sem, World.cell?_alloc_past])) (later hbA (by simp [go_sem, World.cell?_alloc_past])))).mono ?_; rintro e wB ⟨G, cap, q, rfl, hG, hrow, hbB⟩))
      all_goals (go_wp2_with fail; go_meet; exact ⟨G, cap, q, rfl, rfl, ⟨hG, fun j hj => hrow.cell hj⟩, by first | (go_split_ands; assumption) | exact (by repeat (first | exact Below.refl _ _ | assumption | apply balloc | apply bdrew | (refine below_drewN ?_ _) | (refine bset ?_ (by first | (simp; done) | omega | (simp; omega)) _) | (refine bnext ?_ (by assumption))))⟩)
    case rest =>
    obtain ⟨G2, cap2, q2', rfl, rfl, hone, hbg⟩ := hcut
    obtain ⟨wi, hwi⟩ : ∃ z, z = wc := ⟨_, rfl⟩
    subst hwi
    have S1 := hide hone
    have L2 := hide (oneSet_later L1.out (bnext CH.out hbg))
    have BI := hide (show Below wf.heap.size wf wi from bnext BH.out hbg)
    clear hone hbg PRS' hw2 hw3 KH BH CH L1
    have hl0 := L2.out.1
    have hs0 := S1.out.1
    have ⟨_, _, _, _, _, _, _, _, _, g1, g2, g3, g4, _⟩ := KF.out _ BI.out
    have dz : ((zs.length : Int) != (zs.length : Int)) = false := by simp
    go_upto_region 13 with fail
    go_quiet (fail)
    go_upto_region 15 with fail
    obtain ⟨wj, hwj⟩ : ∃ z, z = wi.drewN nq := ⟨_, rfl⟩
    rw [← hwj]
    have BJ := hide (show Below wf.heap.size wf wj by rw [hwj]; exact below_drewN BI.out _)
    have L3 := hide (show OneSet wj G q zs.length PL by rw [hwj]; exact L2.out)
    have S3 := hide (show OneSet wj G2 q2' zs.length PS by rw [hwj]; exact S1.out)
    clear hwj hl0 hs0 g1 g2 g3 g4 dz L2 S1 BI
    have ⟨_, _, _, _, _, _, _, _, _, g1, g2, g3, g4, _⟩ := KF.out _ BJ.out
    go_wp2_with fail
    refine ((VR.out LT.out) _ (bnext BWF.out BJ.out)).mono ?_
    rintro e wk ⟨rfl, hbk⟩
    have BK := hide (bnext BJ.out hbk)
    have CK := hide hbk
    clear g1 g2 g3 g4 hbk VR
    go_upto_region 16 with fail
    obtain ⟨wl, hwl⟩ : ∃ z, z = wk.alloc (.cells #[.int .i64 u1, .int .i64 u2] 23) := ⟨_, rfl⟩
    rw [← hwl]
    obtain ⟨U, hU⟩ : ∃ U, wk.heap.size = U := ⟨_, rfl⟩
    rw [hU]
    have RU := hide (show RgAt wl U u1 u2 by rw [hwl, ← hU]; exact ⟨(by simp [go_sem, World.cell?_alloc_past]), (by simp [go_sem, World.cell?_alloc_past])⟩)
    have CL := hide (show Below wj.heap.size wj wl by rw [hwl]; exact balloc CK.out)
    have BL := hide (show Below wf.heap.size wf wl from bnext BJ.out CL.out)
    clear hwl hU CK BK
    have ⟨_, _, _, _, _, _, _, _, _, g1, g2, g3, g4, _⟩ := KF.out _ BL.out
    go_wp2_with fail
    refine ((VF.out LT.out) _ (bnext BWF.out BL.out)).mono ?_
    rintro e wm ⟨rfl, hbm⟩
    have CM2 := hide hbm
    clear g1 g2 g3 g4 hbm VF
    go_upto_region 17 with fail
    obtain ⟨wn, hwn⟩ : ∃ z, z = wm.alloc (.cells #[.int .i64 x1, .int .i64 x2] 23) := ⟨_, rfl⟩
    rw [← hwn]
    obtain ⟨X, hX⟩ : ∃ X, wm.heap.size = X := ⟨_, rfl⟩
    rw [hX]
    have RX := hide (show RgAt wn X x1 x2 by rw [hwn, ← hX]; exact ⟨(by simp [go_sem, World.cell?_alloc_past]), (by simp [go_sem, World.cell?_alloc_past])⟩)
    have CN := hide (show Below wl.heap.size wl wn by rw [hwn]; exact balloc CM2.out)
    have RU2 := hide (rgAt_later RU.out CN.out)
    have BN := hide (show Below wf.heap.size wf wn from bnext BL.out CN.out)
    have L4 := hide (oneSet_later L3.out (bnext CL.out CN.out))
    have S4 := hide (oneSet_later S3.out (bnext CL.out CN.out))
    clear hwn hX CM2 RU BL BJ L3 S3 CL CN
    obtain ⟨⟨o0, o1⟩, ⟨uu0, uu1⟩, uu2⟩ := HO.out (by simp) (by simp) (by simp)
    have hw4 : wrap64 (u1 - off) = u1 - off := (IntWalk.i64_left _).symm.trans (IntWalk.i64_in _ (by omega))
    have hw5 : wrap64 (u2 + off) = u2 + off := (IntWalk.i64_left _).symm.trans (IntWalk.i64_in _ (by omega))
    clear o0 o1 uu0 uu1 uu2 HO
    have ⟨_, _, _, _, _, _, _, _, _, g1, g2, g3, g4, _⟩ := KF.out _ BN.out
    have ⟨_, _, _, _, _, _, _, l7, _⟩ := KL.out _ (bnext BF.out BN.out)
    have ⟨r1, r2⟩ := RU2.out
    go_upto_region 19 with fail
    go_wp2_with fail
    refine (PV.out LT.out _).mono ?_
    rintro e wo ⟨rfl, hbo⟩
    have BO := hide (bnext BN.out hbo)
    have L5 := hide (oneSet_later L4.out hbo)
    have S5 := hide (oneSet_later S4.out hbo)
    have RX2 := hide (rgAt_later RX.out hbo)
    clear g1 g2 g3 g4 l7 r1 r2 hw4 hw5 hbo PV BN L4 S4 RX RU2
    have ZN' := hide (ZN.out (by simp) (by simp) (by simp))
    have PZ' := hide (PZ.out LT.out)
    have MD' := hide (MD.out LT.out)
    have RE' := hide (RE.out LT.out)
    have FB' := hide (FB.out LT.out)
    clear PZ MD RE FB ZN
    go_upto_region 21 with fail
    generalize max 0 (min 1000000 V) = VV at *
    go_loopw [18] (fun i wr => ∃ k : Nat, k ≤ zs.length ∧ i = .int .i64 (k : Int) ∧ Below wo.heap.size wo wr) (fun i _ => zs.length - (intOf i).toNat)
    case atStart => exact ⟨0, by omega, rfl, Below.refl _ _⟩
    case round =>
      obtain ⟨k, hk, rfl, hbw⟩ := hrel
      have BR := hide hbw
      have k0 : 0 ≤ (k : Int) := by omega
      have kw : wrap64 ((k : Int) + 1) = k + 1 := (IntWalk.i64_left _).symm.trans (IntWalk.i64_in _ (by have := ZN'.out; omega))
      have BWR := hide (show Below wf.heap.size wf wr from bnext BO.out hbw)
      have ⟨_, _, _, _, _, _, _, _, _, g1, g2, g3, g4, _⟩ := KF.out _ BWR.out
      clear hbw
      by_cases hlt : k < zs.length
      · as_aux_lemma =>
        have kN : (k : Int) < (zs.length : Int) := by omega
        have dk : decide ((k : Int) < (zs.length : Int)) = true := decide_eq_true kN
        obtain ⟨zb, zo, hza, hcs⟩ : ∃ b o, za = some ⟨b, o, none⟩ ∧ ∀ i, i < zs.length → w.cell? ⟨b, o + i * 2, none⟩ = some (.int .i64 (zs.getD i (0, 0)).1) ∧ w.cell? ⟨b, o + i * 2 + 1, none⟩ = some (.int .i64 (zs.getD i (0, 0)).2) := by
          rcases IZ.out with h | h
          · subst h; simp at hlt
          · exact h
        have HZA := hide hza
        clear hza
        have C0 := hide (hcs k hlt)
        have PK := hide (fun W => PZ'.out k hlt W)
        have MK := hide (fun W => MD'.out k hlt W)
        have RK := hide (fun W => RE'.out k hlt W)
        have FK := hide (FB'.out k hlt)
        have SK := hide ((oneSet_later S5.out BR.out).2 k hlt)
        have LK := hide ((oneSet_later L5.out BR.out).2 k hlt)
        generalize (zs.getD k (0, 0)).1 = z1 at *
        generalize (zs.getD k (0, 0)).2 = z2 at *
        generalize ZP k = zp at *
        generalize N1 k = nn1 at *
        generalize N2 k = nn2 at *
        generalize KK k = kk at *
        generalize PS k = ps at *
        generalize PL k = pl at *
        have KK2 := hide (fun (W : World) (hb : Below wr.heap.size wr W) => (show W.cell? ⟨w.heap.size + 1, 2, none⟩ = some (.slice (some ⟨zb, zo, none⟩) zs.length zc) ∧ W.cell? ⟨zb, zo + k * 2, none⟩ = some (.int .i64 z1) ∧ W.cell? ⟨zb, zo + k * 2 + 1, none⟩ = some (.int .i64 z2) ∧ W.cell? ⟨w.heap.size + 1 + 1, 8, none⟩ = some (.int .u16 tg) ∧ W.cell? ⟨X, 0, none⟩ = some (.int .i64 x1) ∧ Below wr.heap.size wr W from
          have ⟨_, _, _, _, _, _, _, _, _, g1, g2, g3, g4, _⟩ := KF.out _ (bnext BWR.out hb)
          have ⟨_, _, _, _, _, _, _, _, l8, _⟩ := KL.out _ (bnext BF.out (bnext BWR.out hb))
          ⟨HZA.out ▸ g3, later (bnext (bnext BWF.out BWR.out) hb) C0.out.1, later (bnext (bnext BWF.out BWR.out) hb) C0.out.2, l8, later (bnext BR.out hb) RX2.out.1, hb⟩))
        clear hcs
        go_upto_region 23 with fail
        clear dk g1 g2 g3 g4
        go_cut [19, 20, 21] from 211 to 272 (fun s19 s20 s21 wy => s19 = .int .i64 nn1 ∧ s20 = .int .i64 nn2 ∧ s21 = .int .i64 0 ∧ Below wr.heap.size wr wy)
        case first =>
          go_region_held3 (fun W => W.cell? ⟨w.heap.size + 1, 2, none⟩ = some (.slice (some ⟨zb, zo, none⟩) zs.length zc) ∧ W.cell? ⟨zb, zo + k * 2, none⟩ = some (.int .i64 z1) ∧ W.cell? ⟨zb, zo + k * 2 + 1, none⟩ = some (.int .i64 z2) ∧ W.cell? ⟨w.heap.size + 1 + 1, 8, none⟩ = some (.int .u16 tg) ∧ W.cell? ⟨X, 0, none⟩ = some (.int .i64 x1) ∧ Below wr.heap.size wr W)
            (first | (go_split_ands; assumption) | (refine KK2.out _ ?_; exact (by repeat (first | exact Below.refl _ _ | assumption | apply balloc | apply bdrew | (refine below_drewN ?_ _) | (refine bset ?_ (by first | (simp; done) | omega | (simp; omega)) _) | (refine bnext ?_ (by assumption))))) | (exact KK2.out _ (Below.refl _ _)))
            (first | (go_at_call 42; refine (PK.out _).mono ?_; rintro e wA ⟨rfl, hbA⟩) | (go_at_call 49; refine (MK.out _).mono ?_; rintro e wB ⟨rfl, hbB⟩))
          all_goals (go_wp2_with fail; go_meet; exact ⟨rfl, rfl, rfl, by go_split_ands; assumption⟩)
        case rest =>
        obtain ⟨rfl, rfl, rfl, hbs⟩ := hcut
        obtain ⟨ws, hws⟩ : ∃ z, z = wc := ⟨_, rfl⟩
        subst hws
        have BS := hide hbs
        clear hbs PK MK KK2 C0
        have ⟨m1, m2, m3, m4, m5, m6, m7, m8, m9, _, _, _, _, _⟩ := KF.out _ (bnext BWR.out BS.out)
        have ⟨_, _, _, l3, l4, l5, l6, l7, l8, _⟩ := KL.out _ (bnext BF.out (bnext BWR.out BS.out))
        go_upto_region 24 with fail
        go_wp2_with fail
        refine (RK.out _).mono ?_
        rintro e wt ⟨rfl, hbt⟩
        have BT := hide (bnext BS.out hbt)
        clear m1 m2 m3 m4 m5 m6 m7 m8 m9 l3 l4 l5 l6 l7 l8 hbt RK BS
        have sg := (oneSet_later S5.out (bnext BR.out BT.out)).1
        have lg := (oneSet_later L5.out (bnext BR.out BT.out)).1
        have sk := later BT.out SK.out
        have lk := later BT.out LK.out
        have kk0 : 0 ≤ (kk : Int) := by omega
        have kk5 : (kk : Int) < 5 := by have := FK.out.1; omega
        have f1 := FK.out.2.1
        have f2 := FK.out.2.2
        go_upto_region 25 with fail
        go_quiet (fail)
        clear f1 f2 sg lg sk lk
        go_wp2_with fail
        go_roundw
        case rel => exact ⟨k + 1, by omega, by rw [kw]; go_num, below_drewN (bnext BR.out BT.out) _⟩
        case measure => (rw [kw]; simp [intOf]; omega)
      · have dk : decide ((k : Int) < (zs.length : Int)) = false := decide_eq_false (by omega)
        have BU := hide (bnext BO.out BR.out)
        have L6 := hide (oneSet_later L5.out BR.out)
        have S6 := hide (oneSet_later S5.out BR.out)
        have US' := hide (US.out LT.out)
        have GR' := hide (GR.out LT.out)
        have FI' := hide (FI.out LT.out)
        have hwv := HW.out
        have ⟨_, _, _, _, _, _, _, _, _, l9⟩ := KL.out _ (bnext BF.out BU.out)
        clear PZ' MD' RE' FB' L5 S5 RX2 US GR FI HW kw k0
        go_upto_region 28 with fail
        clear dk hwv l9 g1 g2 g3 g4
        go_cut [24, 11] from 276 to 283 (fun s24 s11 wy => ∃ v, s24 = v ∧ s11 = .int .i64 0 ∧ (∃ b c, v = .slice b L.length c ∧ IsPairs wy b L) ∧ Below wr.heap.size wr wy)
        case first =>
          have KW := hide (fun (W : World) (hb : Below wr.heap.size wr W) => (show W.cell? ⟨w.heap.size, 0, none⟩ = some (.int .i64 s) ∧ W.cell? ⟨w.heap.size, 1, none⟩ = some (.int .i64 a0) ∧ W.cell? ⟨w.heap.size, 2, none⟩ = some (.int .i64 b0) ∧ W.cell? ⟨w.heap.size, 3, none⟩ = some (.int .i64 a1) ∧ W.cell? ⟨w.heap.size, 4, none⟩ = some (.int .i64 b1) ∧ W.cell? ⟨w.heap.size, 5, none⟩ = some (.int .i64 a2) ∧ W.cell? ⟨w.heap.size, 6, none⟩ = some (.int .i64 b2) ∧ W.cell? ⟨w.heap.size, 7, none⟩ = some (.int .i64 a3) ∧ W.cell? ⟨w.heap.size, 8, none⟩ = some (.int .i64 b3) ∧ W.cell? ⟨w.heap.size + 1, 0, none⟩ = some (.slice ra rs.length rc) ∧ W.cell? ⟨w.heap.size + 1, 1, none⟩ = some (.int .i64 off) ∧ W.cell? ⟨w.heap.size + 1, 2, none⟩ = some (.slice za zs.length zc) ∧ W.cell? ⟨w.heap.size + 1, 3, none⟩ = some (.slice fa fs.length fc) ∧ Below wr.heap.size wr W from
            have ⟨m1, m2, m3, m4, m5, m6, m7, m8, m9, g1, g2, g3, g4, _⟩ := KF.out _ (bnext BU.out hb)
            ⟨m1, m2, m3, m4, m5, m6, m7, m8, m9, g1, g2, g3, g4, hb⟩))
          go_region_held3 (fun W => W.cell? ⟨w.heap.size, 0, none⟩ = some (.int .i64 s) ∧ W.cell? ⟨w.heap.size, 1, none⟩ = some (.int .i64 a0) ∧ W.cell? ⟨w.heap.size, 2, none⟩ = some (.int .i64 b0) ∧ W.cell? ⟨w.heap.size, 3, none⟩ = some (.int .i64 a1) ∧ W.cell? ⟨w.heap.size, 4, none⟩ = some (.int .i64 b1) ∧ W.cell? ⟨w.heap.size, 5, none⟩ = some (.int .i64 a2) ∧ W.cell? ⟨w.heap.size, 6, none⟩ = some (.int .i64 b2) ∧ W.cell? ⟨w.heap.size, 7, none⟩ = some (.int .i64 a3) ∧ W.cell? ⟨w.heap.size, 8, none⟩ = some (.int .i64 b3) ∧ W.cell? ⟨w.heap.size + 1, 0, none⟩ = some (.slice ra rs.length rc) ∧ W.cell? ⟨w.heap.size + 1, 1, none⟩ = some (.int .i64 off) ∧ W.cell? ⟨w.heap.size + 1, 2, none⟩ = some (.slice za zs.length zc) ∧ W.cell? ⟨w.heap.size + 1, 3, none⟩ = some (.slice fa fs.length fc) ∧ Below wr.heap.size wr W)
            (first | (go_split_ands; assumption) | (refine KW.out _ ?_; exact (by repeat (first | exact Below.refl _ _ | assumption | apply balloc | apply bdrew | (refine below_drewN ?_ _) | (refine bset ?_ (by first | (simp; done) | omega | (simp; omega)) _) | (refine bnext ?_ (by assumption))))) | (exact KW.out _ (Below.refl _ _)))
            (first
              | (go_at_call 31; refine (OW.out _ (bnext (bnext BWF.out BU.out) (by go_split_ands; assumption))).mono ?_; rintro e wA ⟨q1, c1, q2, c2, q3, c3, rfl, hP, hN, hbA⟩)
              | (go_at_call 38; refine (US'.out _ _ _ _ _ _ _ hP).mono ?_; rintro e wB ⟨v, rfl, hown, hbB⟩))
          all_goals (go_wp2_with fail; go_meet; exact ⟨_, rfl, rfl, (by obtain ⟨b, c, e, _, hp⟩ := own_pairs hown; exact ⟨b, c, e, hp⟩), by first | (go_split_ands; assumption) | exact (by repeat (first | exact Below.refl _ _ | assumption | apply balloc | apply bdrew | (refine below_drewN ?_ _) | (refine bset ?_ (by first | (simp; done) | omega | (simp; omega)) _) | (refine bnext ?_ (by assumption))))⟩)
        case rest =>
        obtain ⟨v, rfl, rfl, ⟨vb, vc, rfl, hvp⟩, hbv⟩ := hcut
        obtain ⟨wv', hwv'⟩ : ∃ z, z = wc := ⟨_, rfl⟩
        subst hwv'
        have VP := hide hvp
        have BV := hide (bnext BU.out hbv)
        have S7 := hide (oneSet_later S6.out hbv)
        have QV := hide (rgAt_later QF.out (bnext BU.out hbv))
        clear hvp hbv US' BU L6 S6 BR BWR
        go_upto_region 33 with fail
        go_loopw [25, 26] (fun f i wr => ∃ k : Nat, k ≤ L.length ∧ i = .int .i64 (k : Int) ∧ f = .bool ((L.take k).any fun r => decide (r.1 ≤ c) && decide (c < r.2)) ∧ Below wv'.heap.size wv' wr) (fun _ i _ => L.length - (intOf i).toNat)
        case atStart => exact ⟨0, by omega, rfl, by simp, Below.refl _ _⟩
        case round =>
          obtain ⟨k, hk, rfl, rfl, hbw⟩ := hrel
          have BR := hide hbw
          have k0 : 0 ≤ (k : Int) := by omega
          have kw : wrap64 ((k : Int) + 1) = k + 1 := (IntWalk.i64_left _).symm.trans (IntWalk.i64_in _ (by have := GR'.out.2; omega))
          clear hbw
          by_cases hlt : k < L.length
          · as_aux_lemma =>
            have kN : (k : Int) < (L.length : Int) := by omega
            have dk : decide ((k : Int) < (L.length : Int)) = true := decide_eq_true kN
            obtain ⟨lb, lo', rfl, hcs⟩ : ∃ b o, vb = some ⟨b, o, none⟩ ∧ ∀ i, i < L.length → wr.cell? ⟨b, o + i * 2, none⟩ = some (.int .i64 (L.getD i (0, 0)).1) ∧ wr.cell? ⟨b, o + i * 2 + 1, none⟩ = some (.int .i64 (L.getD i (0, 0)).2) := by
              rcases pairs_later VP.out BR.out with h | h
              · subst h; simp at hlt
              · exact h
            obtain ⟨c0, c1⟩ := hcs k hlt
            have C2 := hide (fun j (e : k = j + 1) => (hcs j (by omega)).2)
            have g0 := GR'.out.1.1 k hlt
            have G1 := hide (fun j (e : k = j + 1) => (show (L.getD j (0, 0)).2 < (L.getD k (0, 0)).1 by subst e; exact GR'.out.1.2 j hlt))
            have ST := hide (show ((L.take (k + 1)).any fun r => decide (r.1 ≤ c) && decide (c < r.2)) = (((L.take k).any fun r => decide (r.1 ≤ c) && decide (c < r.2)) || (decide ((L.getD k (0, 0)).1 ≤ c) && decide (c < (L.getD k (0, 0)).2))) by
              rw [List.take_add_one, List.any_append, List.getElem?_eq_getElem hlt, List.getD_eq_getElem?_getD, List.getElem?_eq_getElem hlt]
              simp)
            have ⟨q0, q1⟩ := rgAt_later QV.out BR.out
            generalize ((L.take k).any fun r => decide (r.1 ≤ c) && decide (c < r.2)) = fl at *
            generalize L.getD k (0, 0) = r at *
            obtain ⟨r1, r2⟩ := r
            simp only at c0 c1 g0 G1 ST
            have d1 : decide (r1 < x) = false := decide_eq_false (by omega)
            have d2 : decide (r2 ≤ r1) = false := decide_eq_false (by omega)
            have d3 : decide (y < r2) = false := decide_eq_false (by omega)
            clear hcs g0
            go_upto_region 35 with fail
            clear dk
            go_cut [340] from 286 to 359 (fun s340 wy => s340 = .bool false ∧ Below wr.heap.size wr wy)
            case first =>
              by_cases hk0 : k = 0
              · subst hk0
                simp only [Nat.zero_mul, Nat.add_zero] at c0 c1
                go_quiet (fail)
                go_wp2_with fail
                go_meet
                exact ⟨rfl, (by repeat (first | exact Below.refl _ _ | apply bdrew | (refine below_drewN ?_ _)))⟩
              · obtain ⟨j, hj⟩ : ∃ j, k = j + 1 := ⟨k - 1, by omega⟩
                have cj := C2.out j hj
                have gj := G1.out j hj
                generalize (L.getD j (0, 0)).2 = pj at *
                have d4 : decide (r1 ≤ pj) = false := decide_eq_false (by omega)
                have jw : wrap64 ((k : Int) - 1) = (j : Int) := (IntWalk.i64_left _).symm.trans ((IntWalk.i64_in _ (by have := GR'.out.2; omega)).trans (by omega))
                have jw2 : IntKind.i64.wrap ((k : Int) - 1) = (j : Int) := (IntWalk.i64_in _ (by have := GR'.out.2; omega)).trans (by omega)
                have j0 : 0 ≤ (j : Int) := by omega
                have j1 : (j : Int) < (L.length : Int) := by omega
                have kp : decide ((0 : Int) < (k : Int)) = true := decide_eq_true (by omega)
                have kp2 : decide (0 < k) = true := decide_eq_true (by omega)
                have kp3 : 0 < k := by omega
                clear gj hj C2 G1
                go_quiet (fail)
                go_wp2_with fail
                go_meet
                exact ⟨rfl, (by repeat (first | exact Below.refl _ _ | apply bdrew | (refine below_drewN ?_ _)))⟩
            case rest =>
            obtain ⟨rfl, hbs⟩ := hcut
            obtain ⟨ws, hws⟩ : ∃ z, z = wc := ⟨_, rfl⟩
            subst hws
            have BS := hide (bnext BR.out hbs)
            have e0 := later hbs c0
            have e1 := later hbs c1
            clear hbs c0 c1 q0 q1 d1 d2 d3 C2 G1
            cases fl with
            | true =>
              go_wp2_with fail
              go_roundw
              case rel => exact ⟨k + 1, by omega, by rw [kw]; go_num, by rw [ST.out]; rfl, BS.out⟩
              case measure => (rw [kw]; simp [intOf]; omega)
            | false =>
              cases h1 : decide (r1 ≤ c) with
              | true =>
                cases h2 : decide (c < r2) with
                | true =>
                  go_wp2_with fail
                  go_roundw
                  case rel => exact ⟨k + 1, by omega, by rw [kw]; go_num, by rw [ST.out, h1, h2]; rfl, BS.out⟩
                  case measure => (rw [kw]; simp [intOf]; omega)
                | false =>
                  go_wp2_with fail
                  go_roundw
                  case rel => exact ⟨k + 1, by omega, by rw [kw]; go_num, by rw [ST.out, h1, h2]; rfl, BS.out⟩
                  case measure => (rw [kw]; simp [intOf]; omega)
              | false =>
                go_wp2_with fail
                go_roundw
                case rel => exact ⟨k + 1, by omega, by rw [kw]; go_num, by rw [ST.out, h1]; rfl, BS.out⟩
                case measure => (rw [kw]; simp [intOf]; omega)
          · have dk : decide ((k : Int) < (L.length : Int)) = false := decide_eq_false (by omega)
            obtain rfl : L.length = k := by omega
            have E1 := hide (show ((L.take L.length).any fun r => decide (r.1 ≤ c) && decide (c < r.2)) = wantQ PS wv zs.length by rw [List.take_length]; exact FI'.out)
            rw [E1.out]
            have sg := (oneSet_later S7.out BR.out).1
            go_upto_region 40 with fail
            clear dk k0 kw
            have HFn := hide (show wantQ PS wv zs.length = ((List.range zs.length).all fun t => bits BinOp.andNot IntKind.u8 (PS t : Int) wv == 0) from rfl)
            have BB := hide (bnext BV.out BR.out)
            have S8 := hide (oneSet_later S7.out BR.out)
            clear BV BR S7 E1 FI' GR' VP QV sg
            generalize wantQ PS wv zs.length = FF at *
            go_loopw [27, 28] (fun f j wq => ∃ t : Nat, t ≤ zs.length ∧ j = .int .i64 (t : Int) ∧ f = .bool ((List.range t).all fun t => bits BinOp.andNot IntKind.u8 (PS t : Int) wv == 0) ∧ Below wr.heap.size wr wq) (fun _ j _ => zs.length - (intOf j).toNat)
            case atStart => exact ⟨0, by omega, rfl, by simp, Below.refl _ _⟩
            case round =>
              obtain ⟨t, ht, rfl, rfl, hbq⟩ := hrel
              have BQ := hide hbq
              have t0 : 0 ≤ (t : Int) := by omega
              have tw : wrap64 ((t : Int) + 1) = t + 1 := (IntWalk.i64_left _).symm.trans (IntWalk.i64_in _ (by have := ZN'.out; omega))
              have sg := (oneSet_later S8.out BQ.out).1
              clear hbq
              by_cases hjt : t < zs.length
              · as_aux_lemma =>
                have tm : (t : Int) < (zs.length : Int) := by omega
                have dt : decide ((t : Int) < (zs.length : Int)) = true := decide_eq_true tm
                have sk := (oneSet_later S8.out BQ.out).2 t hjt
                have ST := hide (show ((List.range (t + 1)).all fun t => bits BinOp.andNot IntKind.u8 (PS t : Int) wv == 0) = (((List.range t).all fun t => bits BinOp.andNot IntKind.u8 (PS t : Int) wv == 0) && (bits BinOp.andNot IntKind.u8 (PS t : Int) wv == 0)) by
                  rw [List.range_succ, List.all_append]; simp)
                generalize ((List.range t).all fun t => bits BinOp.andNot IntKind.u8 (PS t : Int) wv == 0) = fl at *
                generalize PS t = ps at *
                cases fl with
                | false =>
                  go_wp2_with fail
                  go_roundw
                  case rel => exact ⟨t + 1, by omega, by rw [tw]; go_num, by rw [ST.out]; rfl, BQ.out⟩
                  case measure => (rw [tw]; simp [intOf]; omega)
                | true =>
                  cases hb : (bits BinOp.andNot IntKind.u8 (ps : Int) wv == 0) with
                  | true =>
                    go_wp2_with fail
                    go_roundw
                    case rel => exact ⟨t + 1, by omega, by rw [tw]; go_num, by rw [ST.out, hb]; rfl, BQ.out⟩
                    case measure => (rw [tw]; simp [intOf]; omega)
                  | false =>
                    go_wp2_with fail
                    go_roundw
                    case rel => exact ⟨t + 1, by omega, by rw [tw]; go_num, by rw [ST.out, hb]; rfl, BQ.out⟩
                    case measure => (rw [tw]; simp [intOf]; omega)
              · have dt : decide ((t : Int) < (zs.length : Int)) = false := decide_eq_false (by omega)
                obtain rfl : zs.length = t := by omega
                rw [← HFn.out]
                have dF : (FF == FF) = true := by simp
                clear HFn
                go_wp2_with fail
                refine (known5_any _).mono ?_
                rintro e wz ⟨rfl, hbz⟩
                have BZ := hide (bnext (bnext BWF.out (bnext BB.out BQ.out)) hbz)
                go_wp2_with fail
                go_ret
                exact ⟨rfl, BZ.out⟩
end Go.Proofs.YtimfbjnpalgmcaaGreat
