/-
  DefectWindows: the walk.
-/
import Derived.Test.YtimfbjnpalgmcaaGreatWnA
import Derived.Test.YtimfbjnpalgmcaaGreatOwG
import Derived.Test.YtimfbjnpalgmcaaGreatDgK
import Derived.Test.YtimfbjnpalgmcaaGreatWnV
namespace Go.Proofs.YtimfbjnpalgmcaaGreat
set_option linter.unusedSimpArgs false
set_option linter.unusedVariables false
open Go.RowKit

set_option maxRecDepth 100000 in
set_option maxHeartbeats 12800000 in
theorem defectWindows_go (s a0 b0 a1 b1 a2 b2 a3 b3 sw rt E Z y1 y2 y3 : Int) (zs L : List (Int × Int)) (za : Option Addr) (zc : Nat) (K : Bool) (w : World)
    (ZO : Hid ((zs.length : Int) ≤ 30 → ∀ W, Below w.heap.size w W → Calls Tryz.prog 24 #[.slice za zs.length zc] W (ZoPost W zs.length zs)))
    (WI : Hid ((zs.length : Int) ≤ 30 → ∀ W q c, IsPairs W q zs → Calls Tryz.prog 23 #[.agg #[.int .i64 s, .int .i64 a0, .int .i64 b0, .int .i64 a1, .int .i64 b1, .int .i64 a2, .int .i64 b2, .int .i64 a3, .int .i64 b3], .slice q zs.length c, .int .u8 sw] W (WaPost W E L)))
    (WY : Hid ((zs.length : Int) ≤ 30 → ∀ W q c, IsPairs W q zs → Calls Tryz.prog 25 #[.agg #[.int .i64 s, .int .i64 a0, .int .i64 b0, .int .i64 a1, .int .i64 b1, .int .i64 a2, .int .i64 b2, .int .i64 a3, .int .i64 b3], .slice q zs.length c, .int .u8 sw, .int .i64 rt] W fun e w' => e = .returned (.tuple #[.int .i64 y1, .int .i64 y2, .int .i64 y3]) ∧ Below W.heap.size W w'))
    (RM : Hid (∀ W, Calls Tryz.prog 16 #[.agg #[.int .i64 s, .int .i64 a0, .int .i64 b0, .int .i64 a1, .int .i64 b1, .int .i64 a2, .int .i64 b2, .int .i64 a3, .int .i64 b3]] W fun e w' => e = .returned (.bool K) ∧ Below W.heap.size W w'))
    (RZ : Hid ((zs.length : Int) ≤ 30 → ∀ W, Below w.heap.size w W → Calls Tryz.prog 26 #[.slice za zs.length zc, .int .u8 sw] W fun e w' => e = .returned (.int .i64 Z) ∧ Below W.heap.size W w'))
    (HE : Hid (E = cond K Z 2)) (HB : Hid (E ≠ 0 → L = [] ∧ y1 = 0 ∧ y2 = 0 ∧ y3 = E)) (LL : Hid (L.length ≤ 140737488351232))
    (RW : Hid (E = 0 → ∀ W, Below w.heap.size w W → Calls Tryz.prog 28 #[.agg #[.int .i64 s, .int .i64 a0, .int .i64 b0, .int .i64 a1, .int .i64 b1, .int .i64 a2, .int .i64 b2, .int .i64 a3, .int .i64 b3], .slice za zs.length zc, .int .u8 sw] W (RwPost W L)))
    (HR : Hid (E = 0 → ¬ (0 ≤ rt ∧ rt ≤ 1000000) → y1 = 0 ∧ y2 = 0 ∧ y3 = 3))
    (RY : Hid (E = 0 → 0 ≤ rt ∧ rt ≤ 1000000 → y3 = 0 ∧ ∀ W, Below w.heap.size w W → Calls Tryz.prog 29 #[.agg #[.int .i64 s, .int .i64 a0, .int .i64 b0, .int .i64 a1, .int .i64 b1, .int .i64 a2, .int .i64 b2, .int .i64 a3, .int .i64 b3], .slice za zs.length zc, .int .u8 sw, .int .i64 rt] W fun e w' => e = .returned (.tuple #[.int .i64 y1, .int .i64 y2]) ∧ Below W.heap.size W w')) :
    Calls Tryz.prog 5 #[.agg #[.int .i64 s, .int .i64 a0, .int .i64 b0, .int .i64 a1, .int .i64 b1, .int .i64 a2, .int .i64 b2, .int .i64 a3, .int .i64 b3], .agg #[.slice za zs.length zc, .int .u8 sw, .int .i64 rt]] w fun e w' => e = .returned (.bool true) ∧ Below w.heap.size w w' := by
  go_enter Tryz.func5, Tryz.ntmps5
  go_upto_region 1 with fail
  obtain ⟨w0, hw0⟩ : ∃ z, z = (w.alloc (.cells #[.int .i64 s, .int .i64 a0, .int .i64 b0, .int .i64 a1, .int .i64 b1, .int .i64 a2, .int .i64 b2, .int .i64 a3, .int .i64 b3] 26)).alloc (.cells #[.slice za zs.length zc, .int .u8 sw, .int .i64 rt] 43) := ⟨_, rfl⟩
  rw [← hw0]
  have B0 := hide (show Below w.heap.size w w0 by rw [hw0]; exact (by repeat (first | exact Below.refl _ _ | assumption | apply balloc | apply bdrew | (refine below_drewN ?_ _) | (refine bset ?_ (by first | (simp; done) | omega | (simp; omega)) _) | (refine bnext ?_ (by assumption)))))
  have KM := hide (fun (W : World) (hb : Below w0.heap.size w0 W) => (show W.cell? ⟨w.heap.size, 0, none⟩ = some (.int .i64 s) ∧ W.cell? ⟨w.heap.size, 1, none⟩ = some (.int .i64 a0) ∧ W.cell? ⟨w.heap.size, 2, none⟩ = some (.int .i64 b0) ∧ W.cell? ⟨w.heap.size, 3, none⟩ = some (.int .i64 a1) ∧ W.cell? ⟨w.heap.size, 4, none⟩ = some (.int .i64 b1) ∧ W.cell? ⟨w.heap.size, 5, none⟩ = some (.int .i64 a2) ∧ W.cell? ⟨w.heap.size, 6, none⟩ = some (.int .i64 b2) ∧ W.cell? ⟨w.heap.size, 7, none⟩ = some (.int .i64 a3) ∧ W.cell? ⟨w.heap.size, 8, none⟩ = some (.int .i64 b3) ∧ W.cell? ⟨w.heap.size + 1, 0, none⟩ = some (.slice za zs.length zc) ∧ W.cell? ⟨w.heap.size + 1, 1, none⟩ = some (.int .u8 sw) ∧ W.cell? ⟨w.heap.size + 1, 2, none⟩ = some (.int .i64 rt) ∧ Below w0.heap.size w0 W by
    obtain ⟨⟨⟨⟨m1, m2⟩, m3⟩, m4, m5⟩, ⟨m6, m7⟩, m8, m9⟩ := (show MdlAt w0 w.heap.size ⟨s, a0, b0, a1, b1, a2, b2, a3, b3⟩ by rw [hw0]; exact mdlAt_later (mdlAt_new w ⟨s, a0, b0, a1, b1, a2, b2, a3, b3⟩ 26) (by repeat (first | exact Below.refl _ _ | assumption | apply balloc | apply bdrew | (refine below_drewN ?_ _) | (refine bset ?_ (by first | (simp; done) | omega | (simp; omega)) _) | (refine bnext ?_ (by assumption)))))
    refine ⟨later hb m1, later hb m2, later hb m3, later hb m4, later hb m5, later hb m6, later hb m7, later hb m8, later hb m9, later hb ?_, later hb ?_, later hb ?_, hb⟩ <;> (rw [hw0]; exact (by simp [go_sem, World.cell?_alloc_past]))))
  clear hw0
  have ⟨m1, m2, m3, m4, m5, m6, m7, m8, m9, g1, g2, g3, _⟩ := KM.out _ (Below.refl _ _)
  by_cases h30 : 30 < (zs.length : Int)
  · have d30 : decide (30 < (zs.length : Int)) = true := decide_eq_true h30
    go_wp2_with fail
    refine (known5_any _).mono ?_
    rintro e wz ⟨rfl, hbz⟩
    have BZ := hide (bnext B0.out hbz)
    go_wp2_with fail
    go_ret
    exact ⟨rfl, BZ.out⟩
  have d30 : decide (30 < (zs.length : Int)) = false := decide_eq_false h30
  have LN : (zs.length : Int) ≤ 30 := by omega
  have ZO' := hide (ZO.out LN)
  have WI' := hide (WI.out LN)
  have WY' := hide (WY.out LN)
  have RZ' := hide (RZ.out LN)
  clear ZO WI WY RZ LN
  go_upto_region 3 with fail
  clear d30 h30
  go_cut [5, 6] from 18 to 27 (fun s5 s6 wx => ∃ b c, s5 = .slice b L.length c ∧ s6 = .int .i64 E ∧ IsPairs wx b L ∧ Below w0.heap.size w0 wx)
  case first =>
    go_region_held3 (fun W => W.cell? ⟨w.heap.size, 0, none⟩ = some (.int .i64 s) ∧ W.cell? ⟨w.heap.size, 1, none⟩ = some (.int .i64 a0) ∧ W.cell? ⟨w.heap.size, 2, none⟩ = some (.int .i64 b0) ∧ W.cell? ⟨w.heap.size, 3, none⟩ = some (.int .i64 a1) ∧ W.cell? ⟨w.heap.size, 4, none⟩ = some (.int .i64 b1) ∧ W.cell? ⟨w.heap.size, 5, none⟩ = some (.int .i64 a2) ∧ W.cell? ⟨w.heap.size, 6, none⟩ = some (.int .i64 b2) ∧ W.cell? ⟨w.heap.size, 7, none⟩ = some (.int .i64 a3) ∧ W.cell? ⟨w.heap.size, 8, none⟩ = some (.int .i64 b3) ∧ W.cell? ⟨w.heap.size + 1, 0, none⟩ = some (.slice za zs.length zc) ∧ W.cell? ⟨w.heap.size + 1, 1, none⟩ = some (.int .u8 sw) ∧ W.cell? ⟨w.heap.size + 1, 2, none⟩ = some (.int .i64 rt) ∧ Below w0.heap.size w0 W)
      (first | (go_split_ands; assumption) | (refine KM.out _ ?_; exact (by repeat (first | exact Below.refl _ _ | assumption | apply balloc | apply bdrew | (refine below_drewN ?_ _) | (refine bset ?_ (by first | (simp; done) | omega | (simp; omega)) _) | (refine bnext ?_ (by assumption))))) | (exact KM.out _ (Below.refl _ _)))
      (first
        | (go_at_call 24; refine (ZO'.out _ (bnext B0.out (by go_split_ands; assumption))).mono ?_; rintro e wA ⟨q1, c1, rfl, _, hP, hbA⟩)
        | (go_at_call 23; refine (WI'.out _ _ _ hP).mono ?_; rintro e wB ⟨v, rfl, hown, hbB⟩))
    all_goals (go_wp2_with fail; go_meet; obtain ⟨b, c, rfl, _, hp⟩ := own_pairs hown; exact ⟨_, _, rfl, rfl, hp, by first | (go_split_ands; assumption) | exact (by repeat (first | exact Below.refl _ _ | assumption | apply balloc | apply bdrew | (refine below_drewN ?_ _) | (refine bset ?_ (by first | (simp; done) | omega | (simp; omega)) _) | (refine bnext ?_ (by assumption))))⟩)
  case rest =>
  obtain ⟨vb, vc, rfl, rfl, hvp, hb1⟩ := hcut
  obtain ⟨w1, hw1⟩ : ∃ z, z = wc := ⟨_, rfl⟩
  subst hw1
  have B1 := hide hb1
  have V1 := hide hvp
  clear m1 m2 m3 m4 m5 m6 m7 m8 m9 g1 g2 g3 hb1 hvp WI'
  have KN := hide (fun (W : World) (hb : Below w1.heap.size w1 W) => (show W.cell? ⟨w.heap.size, 0, none⟩ = some (.int .i64 s) ∧ W.cell? ⟨w.heap.size, 1, none⟩ = some (.int .i64 a0) ∧ W.cell? ⟨w.heap.size, 2, none⟩ = some (.int .i64 b0) ∧ W.cell? ⟨w.heap.size, 3, none⟩ = some (.int .i64 a1) ∧ W.cell? ⟨w.heap.size, 4, none⟩ = some (.int .i64 b1) ∧ W.cell? ⟨w.heap.size, 5, none⟩ = some (.int .i64 a2) ∧ W.cell? ⟨w.heap.size, 6, none⟩ = some (.int .i64 b2) ∧ W.cell? ⟨w.heap.size, 7, none⟩ = some (.int .i64 a3) ∧ W.cell? ⟨w.heap.size, 8, none⟩ = some (.int .i64 b3) ∧ W.cell? ⟨w.heap.size + 1, 0, none⟩ = some (.slice za zs.length zc) ∧ W.cell? ⟨w.heap.size + 1, 1, none⟩ = some (.int .u8 sw) ∧ W.cell? ⟨w.heap.size + 1, 2, none⟩ = some (.int .i64 rt) ∧ Below w1.heap.size w1 W from
    have ⟨m1, m2, m3, m4, m5, m6, m7, m8, m9, g1, g2, g3, _⟩ := KM.out _ (bnext B1.out hb)
    ⟨m1, m2, m3, m4, m5, m6, m7, m8, m9, g1, g2, g3, hb⟩))
  have ⟨m1, m2, m3, m4, m5, m6, m7, m8, m9, g1, g2, g3, _⟩ := KN.out _ (Below.refl _ _)
  go_upto_region 4 with fail
  go_cut [7, 8, 9] from 28 to 40 (fun s7 s8 s9 wx => s7 = .int .i64 y1 ∧ s8 = .int .i64 y2 ∧ s9 = .int .i64 y3 ∧ Below w1.heap.size w1 wx)
  case first =>
    go_region_held3 (fun W => W.cell? ⟨w.heap.size, 0, none⟩ = some (.int .i64 s) ∧ W.cell? ⟨w.heap.size, 1, none⟩ = some (.int .i64 a0) ∧ W.cell? ⟨w.heap.size, 2, none⟩ = some (.int .i64 b0) ∧ W.cell? ⟨w.heap.size, 3, none⟩ = some (.int .i64 a1) ∧ W.cell? ⟨w.heap.size, 4, none⟩ = some (.int .i64 b1) ∧ W.cell? ⟨w.heap.size, 5, none⟩ = some (.int .i64 a2) ∧ W.cell? ⟨w.heap.size, 6, none⟩ = some (.int .i64 b2) ∧ W.cell? ⟨w.heap.size, 7, none⟩ = some (.int .i64 a3) ∧ W.cell? ⟨w.heap.size, 8, none⟩ = some (.int .i64 b3) ∧ W.cell? ⟨w.heap.size + 1, 0, none⟩ = some (.slice za zs.length zc) ∧ W.cell? ⟨w.heap.size + 1, 1, none⟩ = some (.int .u8 sw) ∧ W.cell? ⟨w.heap.size + 1, 2, none⟩ = some (.int .i64 rt) ∧ Below w1.heap.size w1 W)
      (first | (go_split_ands; assumption) | (refine KN.out _ ?_; exact (by repeat (first | exact Below.refl _ _ | assumption | apply balloc | apply bdrew | (refine below_drewN ?_ _) | (refine bset ?_ (by first | (simp; done) | omega | (simp; omega)) _) | (refine bnext ?_ (by assumption))))) | (exact KN.out _ (Below.refl _ _)))
      (first
        | (go_at_call 24; refine (ZO'.out _ (bnext (bnext B0.out B1.out) (by go_split_ands; assumption))).mono ?_; rintro e wA ⟨q1, c1, rfl, _, hP, hbA⟩)
        | (go_at_call 25; refine (WY'.out _ _ _ hP).mono ?_; rintro e wB ⟨rfl, hbB⟩))
    all_goals (go_wp2_with fail; go_meet; exact ⟨rfl, rfl, rfl, by first | (go_split_ands; assumption) | exact (by repeat (first | exact Below.refl _ _ | assumption | apply balloc | apply bdrew | (refine below_drewN ?_ _) | (refine bset ?_ (by first | (simp; done) | omega | (simp; omega)) _) | (refine bnext ?_ (by assumption))))⟩)
  case rest =>
  obtain ⟨rfl, rfl, rfl, hb2⟩ := hcut
  obtain ⟨w2, hw2⟩ : ∃ z, z = wc := ⟨_, rfl⟩
  subst hw2
  have B2 := hide (bnext B1.out hb2)
  have V2 := hide (pairs_later V1.out hb2)
  clear m1 m2 m3 m4 m5 m6 m7 m8 m9 g1 g2 g3 hb2 WY' ZO' KN V1 B1
  have ⟨m1, m2, m3, m4, m5, m6, m7, m8, m9, g1, g2, g3, _⟩ := KM.out _ B2.out
  go_wp2_with fail
  refine (RM.out _).mono ?_
  rintro e w3 ⟨rfl, hb3⟩
  have B3 := hide (bnext B2.out hb3)
  have V3 := hide (pairs_later V2.out hb3)
  clear m1 m2 m3 m4 m5 m6 m7 m8 m9 g1 g2 g3 hb3 RM V2 B2
  cases K with
  | false =>
    obtain rfl : E = 2 := HE.out
    obtain ⟨rfl, rfl, rfl, rfl⟩ := HB.out (by omega)
    go_wp2_with fail
    refine (known5_any _).mono ?_
    rintro e wz ⟨rfl, hbz⟩
    have BZ := hide (bnext (bnext B0.out B3.out) hbz)
    go_wp2_with fail
    go_ret
    exact ⟨rfl, BZ.out⟩
  | true =>
  obtain rfl : E = Z := HE.out
  clear HE
  have ⟨_, _, _, _, _, _, _, _, _, g1, g2, _, _⟩ := KM.out _ B3.out
  go_wp2_with fail
  refine (RZ'.out _ (bnext B0.out B3.out)).mono ?_
  rintro e w4 ⟨rfl, hb4⟩
  have B4 := hide (bnext B3.out hb4)
  have V4 := hide (pairs_later V3.out hb4)
  clear g1 g2 hb4 RZ' V3 B3
  by_cases hE : E = 0
  · subst hE
    have RW' := hide (RW.out rfl)
    have RY' := hide (RY.out rfl)
    have HR' := hide (HR.out rfl)
    clear RW RY HR HB
    have ⟨m1, m2, m3, m4, m5, m6, m7, m8, m9, g1, g2, g3, _⟩ := KM.out _ B4.out
    go_wp2_with fail
    refine (RW'.out _ (bnext B0.out B4.out)).mono ?_
    rintro e w5 ⟨B, v, _, rfl, hown, hb5⟩
    obtain ⟨b5, c5, rfl, _, hp5⟩ := own_pairs hown
    have B5 := hide (bnext B4.out hb5)
    have V5 := hide (pairs_later V4.out hb5)
    have P5 := hide hp5
    clear m1 m2 m3 m4 m5 m6 m7 m8 m9 g1 g2 g3 hb5 hown hp5 RW' V4 B4
    go_wp2_with fail
    refine (sameRanges5_any _ _ _ _ L L _ LL.out LL.out V5.out P5.out).mono ?_
    rintro e w6 ⟨rfl, hb6⟩
    have B6 := hide (bnext B5.out hb6)
    have dL : decide (L = L) = true := by simp
    rw [dL]
    clear hb6 B5 V5 P5 LL dL
    have ⟨m1, m2, m3, m4, m5, m6, m7, m8, m9, g1, g2, g3, _⟩ := KM.out _ B6.out
    by_cases hr : 0 ≤ rt ∧ rt ≤ 1000000
    · have c1 : decide (rt < 0) = false := decide_eq_false (by omega)
      have c2 : decide (1000000 < rt) = false := decide_eq_false (by omega)
      obtain ⟨rfl, RY2⟩ := RY'.out hr
      have RY3 := hide RY2
      clear RY2 RY' HR' hr
      go_wp2_with fail
      refine (RY3.out _ (bnext B0.out B6.out)).mono ?_
      rintro e w7 ⟨rfl, hb7⟩
      have B7 := hide (bnext B6.out hb7)
      have q1 : (y1 == y1) = true := by simp
      have q2 : (y2 == y2) = true := by simp
      clear m1 m2 m3 m4 m5 m6 m7 m8 m9 g1 g2 g3 c1 c2 hb7 RY3 B6
      go_wp2_with fail
      refine (known5_any _).mono ?_
      rintro e wz ⟨rfl, hbz⟩
      have BZ := hide (bnext (bnext B0.out B7.out) hbz)
      go_wp2_with fail
      go_ret
      exact ⟨rfl, BZ.out⟩
    · obtain ⟨rfl, rfl, rfl⟩ := HR'.out hr
      clear HR' RY'
      by_cases h0 : rt < 0
      · have c1 : decide (rt < 0) = true := decide_eq_true h0
        clear hr h0
        go_wp2_with fail
        refine (known5_any _).mono ?_
        rintro e wz ⟨rfl, hbz⟩
        have BZ := hide (bnext (bnext B0.out B6.out) hbz)
        go_wp2_with fail
        go_ret
        exact ⟨rfl, BZ.out⟩
      · have c1 : decide (rt < 0) = false := decide_eq_false h0
        have c2 : decide (1000000 < rt) = true := decide_eq_true (by omega)
        clear hr h0
        go_wp2_with fail
        refine (known5_any _).mono ?_
        rintro e wz ⟨rfl, hbz⟩
        have BZ := hide (bnext (bnext B0.out B6.out) hbz)
        go_wp2_with fail
        go_ret
        exact ⟨rfl, BZ.out⟩
  · obtain ⟨rfl, rfl, rfl, rfl⟩ := HB.out hE
    have dE : (y3 != 0) = true := by simpa using hE
    have dF : (y3 == y3) = true := by simp
    clear hE HB RW RY HR
    go_wp2_with fail
    refine (known5_any _).mono ?_
    rintro e wz ⟨rfl, hbz⟩
    have BZ := hide (bnext (bnext B0.out B4.out) hbz)
    go_wp2_with fail
    go_ret
    exact ⟨rfl, BZ.out⟩
end Go.Proofs.YtimfbjnpalgmcaaGreat
