/-
  DefectUsables: the walk.
-/
import Derived.Test.YtimfbjnpalgmcaaGreatUsR
import Derived.Test.YtimfbjnpalgmcaaGreatUsB
import Derived.Test.YtimfbjnpalgmcaaGreatOwG
import Derived.Test.YtimfbjnpalgmcaaGreatDgK
namespace Go.Proofs.YtimfbjnpalgmcaaGreat
set_option linter.unusedSimpArgs false
set_option linter.unusedVariables false
set_option linter.unusedSimpArgs false
set_option linter.unusedVariables false
open Go.RowKit

/-- A model and a growth in memory, one behind the other. -/
def MgAt (W : World) (i : Nat) (m : Mdl) (g : Gr) (p : GrA) : Prop := MdlAt W i m ∧ GrAt W (i + 1) g p
theorem mgAt_later {w W : World} {i : Nat} {m : Mdl} {g : Gr} {p : GrA} (h : MgAt w i m g p) (hb : Below w.heap.size w W) : MgAt W i m g p := ⟨mdlAt_later h.1 hb, grAt_later h.2 hb⟩
set_option maxRecDepth 100000 in
set_option maxHeartbeats 6400000 in
theorem defectUsables_go (s a0 b0 a1 b1 a2 b2 a3 b3 off sw x y : Int) (rs zs fs L : List (Int × Int)) (ra za fa : Option Addr) (rc zc fc : Nat) (wb k1 k2 : Bool) (w : World)
    (WI : Hid (∀ W, Calls Tryz.prog 30 #[.agg #[.slice ra rs.length rc, .int .i64 off, .slice za zs.length zc, .slice fa fs.length fc]] W fun e w' => e = .returned (.bool wb) ∧ Below W.heap.size W w'))
    (MO : Hid (wb = false → ∀ W, Calls Tryz.prog 16 #[.agg #[.int .i64 s, .int .i64 a0, .int .i64 b0, .int .i64 a1, .int .i64 b1, .int .i64 a2, .int .i64 b2, .int .i64 a3, .int .i64 b3]] W fun e w' => e = .returned (.bool k1) ∧ Below W.heap.size W w'))
    (GR : Hid (wb = false → ∀ W, Below w.heap.size w W → Calls Tryz.prog 34 #[.agg #[.slice ra rs.length rc, .int .i64 off, .slice za zs.length zc, .slice fa fs.length fc]] W fun e w' => e = .returned (.bool k2) ∧ Below W.heap.size W w'))
    (EN : Hid (wb = false → k2 = true → ∀ W, Below w.heap.size w W → Calls Tryz.prog 37 #[.agg #[.slice ra rs.length rc, .int .i64 off, .slice za zs.length zc, .slice fa fs.length fc]] W fun e w' => e = .returned (.tuple #[.int .i64 x, .int .i64 y]) ∧ Below W.heap.size W w'))
    (hd : Hid (wb = false → k2 = true → IntKind.wrap .i64 (y - x) = y - x))
    (OW0 : Hid (wb = false → ∀ W, Below w.heap.size w W → Calls Tryz.prog 31 #[.agg #[.slice ra rs.length rc, .int .i64 off, .slice za zs.length zc, .slice fa fs.length fc]] W (OwPost W rs zs fs off)))
    (UB : Hid (wb = false → (k1 && (k2 && decide (sw ≤ 31))) = false → ∀ W q1 c1 q2 c2 q3 c3, (IsPairs W q1 rs ∧ IsPairs W q2 zs ∧ IsPairs W q3 fs) → Calls Tryz.prog 38 #[.agg #[.int .i64 s, .int .i64 a0, .int .i64 b0, .int .i64 a1, .int .i64 b1, .int .i64 a2, .int .i64 b2, .int .i64 a3, .int .i64 b3], .agg #[.slice q1 rs.length c1, .int .i64 off, .slice q2 zs.length c2, .slice q3 fs.length c3], .int .u8 sw] W fun e w' => e = .returned (.tuple #[.slice none 0 0, .int .i64 2]) ∧ Below W.heap.size W w'))
    (UG : Hid (wb = false → (k1 && (k2 && decide (sw ≤ 31))) = true → ∀ W q1 c1 q2 c2 q3 c3, (IsPairs W q1 rs ∧ IsPairs W q2 zs ∧ IsPairs W q3 fs) → Calls Tryz.prog 38 #[.agg #[.int .i64 s, .int .i64 a0, .int .i64 b0, .int .i64 a1, .int .i64 b1, .int .i64 a2, .int .i64 b2, .int .i64 a3, .int .i64 b3], .agg #[.slice q1 rs.length c1, .int .i64 off, .slice q2 zs.length c2, .slice q3 fs.length c3], .int .u8 sw] W (UsPost W L)))
    (UR : Hid (wb = false → (k1 && (k2 && decide (sw ≤ 31))) = true → ∀ W, Below w.heap.size w W → Calls Tryz.prog 39 #[.agg #[.int .i64 s, .int .i64 a0, .int .i64 b0, .int .i64 a1, .int .i64 b1, .int .i64 a2, .int .i64 b2, .int .i64 a3, .int .i64 b3], .agg #[.slice ra rs.length rc, .int .i64 off, .slice za zs.length zc, .slice fa fs.length fc], .int .u8 sw] W (UrPost W L)))
    (SA : Hid (∀ W v u B C, W.ownsRow B 23 2 v L.length (rowOf L) → W.ownsRow C 23 2 u L.length (rowOf L) → Calls Tryz.prog 27 #[v, u] W fun e w' => e = .returned (.bool true) ∧ Below W.heap.size W w')) :
    Calls Tryz.prog 7 #[.agg #[.int .i64 s, .int .i64 a0, .int .i64 b0, .int .i64 a1, .int .i64 b1, .int .i64 a2, .int .i64 b2, .int .i64 a3, .int .i64 b3], .agg #[.slice ra rs.length rc, .int .i64 off, .slice za zs.length zc, .slice fa fs.length fc], .int .u8 sw] w fun e w' => e = .returned (.bool true) ∧ Below w.heap.size w w' := by
  go_enter Tryz.func7, Tryz.ntmps7
  go_upto_region 1 with fail
  obtain ⟨w0, hw0⟩ : ∃ z, z = (w.alloc (.cells #[.int .i64 s, .int .i64 a0, .int .i64 b0, .int .i64 a1, .int .i64 b1, .int .i64 a2, .int .i64 b2, .int .i64 a3, .int .i64 b3] 26)).alloc (.cells #[.slice ra rs.length rc, .int .i64 off, .slice za zs.length zc, .slice fa fs.length fc] 58) := ⟨_, rfl⟩
  rw [← hw0]
  have B0 := hide (show Below w.heap.size w w0 by rw [hw0]; exact (by repeat (first | exact Below.refl _ _ | assumption | apply balloc | apply bdrew | (refine below_drewN ?_ _) | (refine bset ?_ (by first | (simp; done) | omega | (simp; omega)) _) | (refine bnext ?_ (by assumption)))))
  have T0 := hide (show MgAt w0 w.heap.size ⟨s, a0, b0, a1, b1, a2, b2, a3, b3⟩ ⟨rs, off, zs, fs⟩ ⟨ra, rc, za, zc, fa, fc⟩ by rw [hw0]; refine ⟨mdlAt_later (mdlAt_new w ⟨s, a0, b0, a1, b1, a2, b2, a3, b3⟩ 26) (balloc (Below.refl _ _)), ⟨?_, ?_⟩, ?_, ?_⟩ <;> exact (by simp [go_sem, World.cell?_alloc_past]))
  clear hw0
  have ⟨⟨⟨⟨⟨m1, m2⟩, m3⟩, m4, m5⟩, ⟨m6, m7⟩, m8, m9⟩, ⟨g1, g2⟩, g3, g4⟩ := T0.out
  simp only at m1 m2 m3 m4 m5 m6 m7 m8 m9 g1 g2 g3 g4
  go_wp2_with fail
  refine (WI.out _).mono ?_
  rintro e w1 ⟨rfl, hb1⟩
  have T1 := hide (mgAt_later T0.out hb1)
  have B1 := hide (bnext B0.out hb1)
  clear m1 m2 m3 m4 m5 m6 m7 m8 m9 g1 g2 g3 g4
  clear hb1 T0 B0
  have ⟨⟨⟨⟨⟨m1, m2⟩, m3⟩, m4, m5⟩, ⟨m6, m7⟩, m8, m9⟩, ⟨g1, g2⟩, g3, g4⟩ := T1.out
  simp only at m1 m2 m3 m4 m5 m6 m7 m8 m9 g1 g2 g3 g4
  cases wb with
  | true =>
    go_wp2_with fail
    refine (known5_any _).mono ?_
    rintro e wz ⟨rfl, hbz⟩
    have BZ := hide (bnext B1.out hbz)
    go_wp2_with fail
    go_ret
    exact ⟨rfl, BZ.out⟩
  | false =>
  have MO' := hide (MO.out rfl)
  have GR' := hide (GR.out rfl)
  have OW0' := hide (OW0.out rfl)
  have EN' := hide (EN.out rfl)
  have HD := hide (hd.out rfl)
  have UB' := hide (UB.out rfl)
  have UG' := hide (UG.out rfl)
  have UR' := hide (UR.out rfl)
  have OW := OW0'
  clear MO GR OW0 OW0' EN hd UB UG UR WI
  go_wp2_with fail
  refine (MO'.out _).mono ?_
  rintro e w2 ⟨rfl, hb2⟩
  have T2 := hide (mgAt_later T1.out hb2)
  have B2 := hide (bnext B1.out hb2)
  clear m1 m2 m3 m4 m5 m6 m7 m8 m9 g1 g2 g3 g4
  clear hb2 T1 B1
  have ⟨⟨⟨⟨⟨m1, m2⟩, m3⟩, m4, m5⟩, ⟨m6, m7⟩, m8, m9⟩, ⟨g1, g2⟩, g3, g4⟩ := T2.out
  simp only at m1 m2 m3 m4 m5 m6 m7 m8 m9 g1 g2 g3 g4
  cases k1 with
  | false =>
    have UX := hide (UB'.out rfl)
    clear UB' UG' UR' EN' HD SA
    have KP := hide (fun (W : World) (hb : Below w2.heap.size w2 W) => (show W.cell? ⟨w.heap.size, 0, none⟩ = some (.int .i64 s) ∧ W.cell? ⟨w.heap.size, 1, none⟩ = some (.int .i64 a0) ∧ W.cell? ⟨w.heap.size, 2, none⟩ = some (.int .i64 b0) ∧ W.cell? ⟨w.heap.size, 3, none⟩ = some (.int .i64 a1) ∧ W.cell? ⟨w.heap.size, 4, none⟩ = some (.int .i64 b1) ∧ W.cell? ⟨w.heap.size, 5, none⟩ = some (.int .i64 a2) ∧ W.cell? ⟨w.heap.size, 6, none⟩ = some (.int .i64 b2) ∧ W.cell? ⟨w.heap.size, 7, none⟩ = some (.int .i64 a3) ∧ W.cell? ⟨w.heap.size, 8, none⟩ = some (.int .i64 b3) ∧ W.cell? ⟨w.heap.size + 1, 0, none⟩ = some (.slice ra rs.length rc) ∧ W.cell? ⟨w.heap.size + 1, 1, none⟩ = some (.int .i64 off) ∧ W.cell? ⟨w.heap.size + 1, 2, none⟩ = some (.slice za zs.length zc) ∧ W.cell? ⟨w.heap.size + 1, 3, none⟩ = some (.slice fa fs.length fc) ∧ Below w2.heap.size w2 W from
      have ⟨⟨⟨⟨⟨m1, m2⟩, m3⟩, m4, m5⟩, ⟨m6, m7⟩, m8, m9⟩, ⟨g1, g2⟩, g3, g4⟩ := mgAt_later T2.out hb
      ⟨m1, m2, m3, m4, m5, m6, m7, m8, m9, g1, g2, g3, g4, hb⟩))
    go_upto_region 8 with fail
    clear m1 m2 m3 m4 m5 m6 m7 m8 m9 g1 g2 g3 g4
    go_region_held3 (fun W => W.cell? ⟨w.heap.size, 0, none⟩ = some (.int .i64 s) ∧ W.cell? ⟨w.heap.size, 1, none⟩ = some (.int .i64 a0) ∧ W.cell? ⟨w.heap.size, 2, none⟩ = some (.int .i64 b0) ∧ W.cell? ⟨w.heap.size, 3, none⟩ = some (.int .i64 a1) ∧ W.cell? ⟨w.heap.size, 4, none⟩ = some (.int .i64 b1) ∧ W.cell? ⟨w.heap.size, 5, none⟩ = some (.int .i64 a2) ∧ W.cell? ⟨w.heap.size, 6, none⟩ = some (.int .i64 b2) ∧ W.cell? ⟨w.heap.size, 7, none⟩ = some (.int .i64 a3) ∧ W.cell? ⟨w.heap.size, 8, none⟩ = some (.int .i64 b3) ∧ W.cell? ⟨w.heap.size + 1, 0, none⟩ = some (.slice ra rs.length rc) ∧ W.cell? ⟨w.heap.size + 1, 1, none⟩ = some (.int .i64 off) ∧ W.cell? ⟨w.heap.size + 1, 2, none⟩ = some (.slice za zs.length zc) ∧ W.cell? ⟨w.heap.size + 1, 3, none⟩ = some (.slice fa fs.length fc) ∧ Below w2.heap.size w2 W)
      ((go_split_ands; refine KP.out _ ?_; exact (by repeat (first | exact Below.refl _ _ | assumption | apply balloc | apply bdrew | (refine below_drewN ?_ _) | (refine bset ?_ (by first | (simp; done) | omega | (simp; omega)) _) | (refine bnext ?_ (by assumption))))))
      (first | (go_at_call 31; refine (OW.out _ (bnext B2.out (by go_split_ands; assumption))).mono ?_; rintro e wA ⟨q1, c1, q2, c2, q3, c3, rfl, hP, hN, hbA⟩) | (go_at_call 38; refine (UX.out _ _ _ _ _ _ _ hP).mono ?_; rintro e wB ⟨rfl, hbB⟩))
    all_goals
      have BB := hide (show Below w2.heap.size w2 wB from (by repeat (first | exact Below.refl _ _ | assumption | apply balloc | apply bdrew | (refine below_drewN ?_ _) | (refine bset ?_ (by first | (simp; done) | omega | (simp; omega)) _) | (refine bnext ?_ (by assumption)))))
      clear hP hN hbA hbB KP
      go_wp2_with fail
      refine (known5_any _).mono ?_
      rintro e wz ⟨rfl, hbz⟩
      have BZ := hide (bnext (bnext B2.out BB.out) hbz)
      go_wp2_with fail
      go_ret
      exact ⟨rfl, BZ.out⟩
  | true =>
    go_wp2_with fail
    refine (GR'.out _ B2.out).mono ?_
    rintro e w3 ⟨rfl, hb3⟩
    have T3 := hide (mgAt_later T2.out hb3)
    have B3 := hide (bnext B2.out hb3)
    clear m1 m2 m3 m4 m5 m6 m7 m8 m9 g1 g2 g3 g4
    clear hb3 T2 B2
    have ⟨⟨⟨⟨⟨m1, m2⟩, m3⟩, m4, m5⟩, ⟨m6, m7⟩, m8, m9⟩, ⟨g1, g2⟩, g3, g4⟩ := T3.out
    simp only at m1 m2 m3 m4 m5 m6 m7 m8 m9 g1 g2 g3 g4
    cases k2 with
    | false =>
      have UX := hide (UB'.out rfl)
      clear UB' UG' UR' EN' HD SA
      have KP := hide (fun (W : World) (hb : Below w3.heap.size w3 W) => (show W.cell? ⟨w.heap.size, 0, none⟩ = some (.int .i64 s) ∧ W.cell? ⟨w.heap.size, 1, none⟩ = some (.int .i64 a0) ∧ W.cell? ⟨w.heap.size, 2, none⟩ = some (.int .i64 b0) ∧ W.cell? ⟨w.heap.size, 3, none⟩ = some (.int .i64 a1) ∧ W.cell? ⟨w.heap.size, 4, none⟩ = some (.int .i64 b1) ∧ W.cell? ⟨w.heap.size, 5, none⟩ = some (.int .i64 a2) ∧ W.cell? ⟨w.heap.size, 6, none⟩ = some (.int .i64 b2) ∧ W.cell? ⟨w.heap.size, 7, none⟩ = some (.int .i64 a3) ∧ W.cell? ⟨w.heap.size, 8, none⟩ = some (.int .i64 b3) ∧ W.cell? ⟨w.heap.size + 1, 0, none⟩ = some (.slice ra rs.length rc) ∧ W.cell? ⟨w.heap.size + 1, 1, none⟩ = some (.int .i64 off) ∧ W.cell? ⟨w.heap.size + 1, 2, none⟩ = some (.slice za zs.length zc) ∧ W.cell? ⟨w.heap.size + 1, 3, none⟩ = some (.slice fa fs.length fc) ∧ Below w3.heap.size w3 W from
        have ⟨⟨⟨⟨⟨m1, m2⟩, m3⟩, m4, m5⟩, ⟨m6, m7⟩, m8, m9⟩, ⟨g1, g2⟩, g3, g4⟩ := mgAt_later T3.out hb
        ⟨m1, m2, m3, m4, m5, m6, m7, m8, m9, g1, g2, g3, g4, hb⟩))
      go_upto_region 8 with fail
      clear m1 m2 m3 m4 m5 m6 m7 m8 m9 g1 g2 g3 g4
      go_region_held3 (fun W => W.cell? ⟨w.heap.size, 0, none⟩ = some (.int .i64 s) ∧ W.cell? ⟨w.heap.size, 1, none⟩ = some (.int .i64 a0) ∧ W.cell? ⟨w.heap.size, 2, none⟩ = some (.int .i64 b0) ∧ W.cell? ⟨w.heap.size, 3, none⟩ = some (.int .i64 a1) ∧ W.cell? ⟨w.heap.size, 4, none⟩ = some (.int .i64 b1) ∧ W.cell? ⟨w.heap.size, 5, none⟩ = some (.int .i64 a2) ∧ W.cell? ⟨w.heap.size, 6, none⟩ = some (.int .i64 b2) ∧ W.cell? ⟨w.heap.size, 7, none⟩ = some (.int .i64 a3) ∧ W.cell? ⟨w.heap.size, 8, none⟩ = some (.int .i64 b3) ∧ W.cell? ⟨w.heap.size + 1, 0, none⟩ = some (.slice ra rs.length rc) ∧ W.cell? ⟨w.heap.size + 1, 1, none⟩ = some (.int .i64 off) ∧ W.cell? ⟨w.heap.size + 1, 2, none⟩ = some (.slice za zs.length zc) ∧ W.cell? ⟨w.heap.size + 1, 3, none⟩ = some (.slice fa fs.length fc) ∧ Below w3.heap.size w3 W)
        ((go_split_ands; refine KP.out _ ?_; exact (by repeat (first | exact Below.refl _ _ | assumption | apply balloc | apply bdrew | (refine below_drewN ?_ _) | (refine bset ?_ (by first | (simp; done) | omega | (simp; omega)) _) | (refine bnext ?_ (by assumption))))))
        (first | (go_at_call 31; refine (OW.out _ (bnext B3.out (by go_split_ands; assumption))).mono ?_; rintro e wA ⟨q1, c1, q2, c2, q3, c3, rfl, hP, hN, hbA⟩) | (go_at_call 38; refine (UX.out _ _ _ _ _ _ _ hP).mono ?_; rintro e wB ⟨rfl, hbB⟩))
      all_goals
        have BB := hide (show Below w3.heap.size w3 wB from (by repeat (first | exact Below.refl _ _ | assumption | apply balloc | apply bdrew | (refine below_drewN ?_ _) | (refine bset ?_ (by first | (simp; done) | omega | (simp; omega)) _) | (refine bnext ?_ (by assumption)))))
        clear hP hN hbA hbB KP
        go_wp2_with fail
        refine (known5_any _).mono ?_
        rintro e wz ⟨rfl, hbz⟩
        have BZ := hide (bnext (bnext B3.out BB.out) hbz)
        go_wp2_with fail
        go_ret
        exact ⟨rfl, BZ.out⟩
    | true =>
      have EN2 := hide (EN'.out rfl)
      have hd2 := HD.out rfl
      by_cases h31 : sw ≤ 31
      · have d31 : decide (sw ≤ 31) = true := decide_eq_true h31
        have UX := hide (UG'.out (by rw [d31]; rfl))
        have UY := hide (UR'.out (by rw [d31]; rfl))
        clear UB' UG' UR' EN' HD
        go_wp2_with fail
        refine (EN2.out _ B3.out).mono ?_
        rintro e w4 ⟨rfl, hb4⟩
        have T4 := hide (mgAt_later T3.out hb4)
        have B4 := hide (bnext B3.out hb4)
        clear m1 m2 m3 m4 m5 m6 m7 m8 m9 g1 g2 g3 g4
        clear hb4 T3 B3
        have ⟨⟨⟨⟨⟨m1, m2⟩, m3⟩, m4, m5⟩, ⟨m6, m7⟩, m8, m9⟩, ⟨g1, g2⟩, g3, g4⟩ := T4.out
        simp only at m1 m2 m3 m4 m5 m6 m7 m8 m9 g1 g2 g3 g4
        by_cases h300 : 300 < y - x
        · have d300 : decide (300 < y - x) = true := decide_eq_true h300
          go_wp2_with fail
          refine (known5_any _).mono ?_
          rintro e wz ⟨rfl, hbz⟩
          have BZ := hide (bnext B4.out hbz)
          go_wp2_with fail
          go_ret
          exact ⟨rfl, BZ.out⟩
        · have d300 : decide (300 < y - x) = false := decide_eq_false h300
          have KP := hide (fun (W : World) (hb : Below w4.heap.size w4 W) => (show W.cell? ⟨w.heap.size, 0, none⟩ = some (.int .i64 s) ∧ W.cell? ⟨w.heap.size, 1, none⟩ = some (.int .i64 a0) ∧ W.cell? ⟨w.heap.size, 2, none⟩ = some (.int .i64 b0) ∧ W.cell? ⟨w.heap.size, 3, none⟩ = some (.int .i64 a1) ∧ W.cell? ⟨w.heap.size, 4, none⟩ = some (.int .i64 b1) ∧ W.cell? ⟨w.heap.size, 5, none⟩ = some (.int .i64 a2) ∧ W.cell? ⟨w.heap.size, 6, none⟩ = some (.int .i64 b2) ∧ W.cell? ⟨w.heap.size, 7, none⟩ = some (.int .i64 a3) ∧ W.cell? ⟨w.heap.size, 8, none⟩ = some (.int .i64 b3) ∧ W.cell? ⟨w.heap.size + 1, 0, none⟩ = some (.slice ra rs.length rc) ∧ W.cell? ⟨w.heap.size + 1, 1, none⟩ = some (.int .i64 off) ∧ W.cell? ⟨w.heap.size + 1, 2, none⟩ = some (.slice za zs.length zc) ∧ W.cell? ⟨w.heap.size + 1, 3, none⟩ = some (.slice fa fs.length fc) ∧ Below w4.heap.size w4 W from
            have ⟨⟨⟨⟨⟨m1, m2⟩, m3⟩, m4, m5⟩, ⟨m6, m7⟩, m8, m9⟩, ⟨g1, g2⟩, g3, g4⟩ := mgAt_later T4.out hb
            ⟨m1, m2, m3, m4, m5, m6, m7, m8, m9, g1, g2, g3, g4, hb⟩))
          go_upto_region 8 with fail
          clear m1 m2 m3 m4 m5 m6 m7 m8 m9 g1 g2 g3 g4
          go_region_held3 (fun W => W.cell? ⟨w.heap.size, 0, none⟩ = some (.int .i64 s) ∧ W.cell? ⟨w.heap.size, 1, none⟩ = some (.int .i64 a0) ∧ W.cell? ⟨w.heap.size, 2, none⟩ = some (.int .i64 b0) ∧ W.cell? ⟨w.heap.size, 3, none⟩ = some (.int .i64 a1) ∧ W.cell? ⟨w.heap.size, 4, none⟩ = some (.int .i64 b1) ∧ W.cell? ⟨w.heap.size, 5, none⟩ = some (.int .i64 a2) ∧ W.cell? ⟨w.heap.size, 6, none⟩ = some (.int .i64 b2) ∧ W.cell? ⟨w.heap.size, 7, none⟩ = some (.int .i64 a3) ∧ W.cell? ⟨w.heap.size, 8, none⟩ = some (.int .i64 b3) ∧ W.cell? ⟨w.heap.size + 1, 0, none⟩ = some (.slice ra rs.length rc) ∧ W.cell? ⟨w.heap.size + 1, 1, none⟩ = some (.int .i64 off) ∧ W.cell? ⟨w.heap.size + 1, 2, none⟩ = some (.slice za zs.length zc) ∧ W.cell? ⟨w.heap.size + 1, 3, none⟩ = some (.slice fa fs.length fc) ∧ Below w4.heap.size w4 W)
            ((go_split_ands; refine KP.out _ ?_; exact (by repeat (first | exact Below.refl _ _ | assumption | apply balloc | apply bdrew | (refine below_drewN ?_ _) | (refine bset ?_ (by first | (simp; done) | omega | (simp; omega)) _) | (refine bnext ?_ (by assumption))))))
            (first | (go_at_call 31; refine (OW.out _ (bnext B4.out (by go_split_ands; assumption))).mono ?_; rintro e wA ⟨q1, c1, q2, c2, q3, c3, rfl, hP, hN, hbA⟩) | (go_at_call 38; refine (UX.out _ _ _ _ _ _ _ hP).mono ?_; rintro e wB ⟨v, rfl, hrow, hbB⟩))
          all_goals
            have BB := hide (show Below w4.heap.size w4 wB from (by repeat (first | exact Below.refl _ _ | assumption | apply balloc | apply bdrew | (refine below_drewN ?_ _) | (refine bset ?_ (by first | (simp; done) | omega | (simp; omega)) _) | (refine bnext ?_ (by assumption)))))
            have T5 := hide (mgAt_later T4.out BB.out)
            have B5 := hide (bnext B4.out BB.out)
            have RO := hide hrow
            clear hP hN hbA hbB KP hrow
            have ⟨⟨⟨⟨⟨m1, m2⟩, m3⟩, m4, m5⟩, ⟨m6, m7⟩, m8, m9⟩, ⟨g1, g2⟩, g3, g4⟩ := T5.out
            simp only at m1 m2 m3 m4 m5 m6 m7 m8 m9 g1 g2 g3 g4
            go_wp2_with fail
            refine (UY.out _ B5.out).mono ?_
            rintro e w6 ⟨B, u, _, rfl, hu, hb6⟩
            have B6 := hide (bnext B5.out hb6)
            have RU := hide hu
            have RV := hide (owns_later RO.out hb6)
            clear hu hb6
            clear m1 m2 m3 m4 m5 m6 m7 m8 m9 g1 g2 g3 g4
            go_wp2_with fail
            refine (SA.out _ _ _ _ _ RV.out RU.out).mono ?_
            rintro e w7 ⟨rfl, hb7⟩
            have B7 := hide (bnext B6.out hb7)
            clear hb7
            go_wp2_with fail
            refine (known5_any _).mono ?_
            rintro e wz ⟨rfl, hbz⟩
            have BZ := hide (bnext B7.out hbz)
            go_wp2_with fail
            go_ret
            exact ⟨rfl, BZ.out⟩
      · have d31 : decide (sw ≤ 31) = false := decide_eq_false h31
        have UX := hide (UB'.out (by rw [d31]; rfl))
        clear UB' UG' UR' EN' HD SA
        have KP := hide (fun (W : World) (hb : Below w3.heap.size w3 W) => (show W.cell? ⟨w.heap.size, 0, none⟩ = some (.int .i64 s) ∧ W.cell? ⟨w.heap.size, 1, none⟩ = some (.int .i64 a0) ∧ W.cell? ⟨w.heap.size, 2, none⟩ = some (.int .i64 b0) ∧ W.cell? ⟨w.heap.size, 3, none⟩ = some (.int .i64 a1) ∧ W.cell? ⟨w.heap.size, 4, none⟩ = some (.int .i64 b1) ∧ W.cell? ⟨w.heap.size, 5, none⟩ = some (.int .i64 a2) ∧ W.cell? ⟨w.heap.size, 6, none⟩ = some (.int .i64 b2) ∧ W.cell? ⟨w.heap.size, 7, none⟩ = some (.int .i64 a3) ∧ W.cell? ⟨w.heap.size, 8, none⟩ = some (.int .i64 b3) ∧ W.cell? ⟨w.heap.size + 1, 0, none⟩ = some (.slice ra rs.length rc) ∧ W.cell? ⟨w.heap.size + 1, 1, none⟩ = some (.int .i64 off) ∧ W.cell? ⟨w.heap.size + 1, 2, none⟩ = some (.slice za zs.length zc) ∧ W.cell? ⟨w.heap.size + 1, 3, none⟩ = some (.slice fa fs.length fc) ∧ Below w3.heap.size w3 W from
          have ⟨⟨⟨⟨⟨m1, m2⟩, m3⟩, m4, m5⟩, ⟨m6, m7⟩, m8, m9⟩, ⟨g1, g2⟩, g3, g4⟩ := mgAt_later T3.out hb
          ⟨m1, m2, m3, m4, m5, m6, m7, m8, m9, g1, g2, g3, g4, hb⟩))
        go_upto_region 8 with fail
        clear m1 m2 m3 m4 m5 m6 m7 m8 m9 g1 g2 g3 g4
        go_region_held3 (fun W => W.cell? ⟨w.heap.size, 0, none⟩ = some (.int .i64 s) ∧ W.cell? ⟨w.heap.size, 1, none⟩ = some (.int .i64 a0) ∧ W.cell? ⟨w.heap.size, 2, none⟩ = some (.int .i64 b0) ∧ W.cell? ⟨w.heap.size, 3, none⟩ = some (.int .i64 a1) ∧ W.cell? ⟨w.heap.size, 4, none⟩ = some (.int .i64 b1) ∧ W.cell? ⟨w.heap.size, 5, none⟩ = some (.int .i64 a2) ∧ W.cell? ⟨w.heap.size, 6, none⟩ = some (.int .i64 b2) ∧ W.cell? ⟨w.heap.size, 7, none⟩ = some (.int .i64 a3) ∧ W.cell? ⟨w.heap.size, 8, none⟩ = some (.int .i64 b3) ∧ W.cell? ⟨w.heap.size + 1, 0, none⟩ = some (.slice ra rs.length rc) ∧ W.cell? ⟨w.heap.size + 1, 1, none⟩ = some (.int .i64 off) ∧ W.cell? ⟨w.heap.size + 1, 2, none⟩ = some (.slice za zs.length zc) ∧ W.cell? ⟨w.heap.size + 1, 3, none⟩ = some (.slice fa fs.length fc) ∧ Below w3.heap.size w3 W)
          ((go_split_ands; refine KP.out _ ?_; exact (by repeat (first | exact Below.refl _ _ | assumption | apply balloc | apply bdrew | (refine below_drewN ?_ _) | (refine bset ?_ (by first | (simp; done) | omega | (simp; omega)) _) | (refine bnext ?_ (by assumption))))))
          (first | (go_at_call 31; refine (OW.out _ (bnext B3.out (by go_split_ands; assumption))).mono ?_; rintro e wA ⟨q1, c1, q2, c2, q3, c3, rfl, hP, hN, hbA⟩) | (go_at_call 38; refine (UX.out _ _ _ _ _ _ _ hP).mono ?_; rintro e wB ⟨rfl, hbB⟩))
        all_goals
          have BB := hide (show Below w3.heap.size w3 wB from (by repeat (first | exact Below.refl _ _ | assumption | apply balloc | apply bdrew | (refine below_drewN ?_ _) | (refine bset ?_ (by first | (simp; done) | omega | (simp; omega)) _) | (refine bnext ?_ (by assumption)))))
          clear hP hN hbA hbB KP
          go_wp2_with fail
          refine (known5_any _).mono ?_
          rintro e wz ⟨rfl, hbz⟩
          have BZ := hide (bnext (bnext B3.out BB.out) hbz)
          go_wp2_with fail
          go_ret
          exact ⟨rfl, BZ.out⟩
end Go.Proofs.YtimfbjnpalgmcaaGreat
