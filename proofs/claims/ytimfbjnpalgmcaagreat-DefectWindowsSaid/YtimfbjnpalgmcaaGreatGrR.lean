/-
  The reference of chapter 5: Ends, Growth.
-/
import Derived.Test.YtimfbjnpalgmcaaGreatDtA
import Derived.Test.YtimfbjnpalgmcaaGreatDgL
import Derived.Test.YtimfbjnpalgmcaaGreatTbO
namespace Go.Proofs.YtimfbjnpalgmcaaGreat
set_option linter.unusedSimpArgs false
set_option linter.unusedVariables false
set_option linter.unusedSimpArgs false
set_option linter.unusedVariables false
open Go.RowKit

set_option maxRecDepth 100000 in
set_option maxHeartbeats 1600000 in
theorem refEnds_any (rs zs fs : List (Int × Int)) (off : Int) (ra za fa : Option Addr) (rc zc fc m : Nat) (w : World) (hm : rs.length = m + 1) (hl : rs.length ≤ 8796093022208) (h : IsPairs w ra rs) :
    Calls Tryz.prog 37 #[.agg #[.slice ra rs.length rc, .int .i64 off, .slice za zs.length zc, .slice fa fs.length fc]] w fun e w' => e = .returned (.tuple #[.int .i64 (plcQ rs).1, .int .i64 (plcQ rs).2]) ∧ Below w.heap.size w w' := by
  obtain ⟨b, o, rfl, hc⟩ : ∃ b o, ra = some ⟨b, o, none⟩ ∧ ∀ i, i < rs.length → w.cell? ⟨b, o + i * 2, none⟩ = some (.int .i64 (rs.getD i (0, 0)).1) ∧ w.cell? ⟨b, o + i * 2 + 1, none⟩ = some (.int .i64 (rs.getD i (0, 0)).2) := by
    rcases h with h | h
    · rw [h] at hm; simp at hm
    · exact h
  have c0 := (hc 0 (by omega)).1
  have c1 := (hc m (by omega)).1
  obtain ⟨x, hx⟩ : ∃ x, (plcQ rs).1 = x := ⟨_, rfl⟩
  obtain ⟨y, hy⟩ : ∃ y, (plcQ rs).2 = y := ⟨_, rfl⟩
  have e0 : (rs.getD 0 (0, 0)).1 = x := hx
  have e1 : (rs.getD m (0, 0)).1 = y := by rw [← hy, plcQ, show rs.length - 1 = m by omega]
  rw [e0] at c0
  simp only [Nat.zero_mul, Nat.add_zero] at c0
  rw [e1] at c1
  rw [hx, hy]
  have d0 := fun o => later (balloc (o := o) (Below.refl _ _)) c0
  have d1 := fun o => later (balloc (o := o) (Below.refl _ _)) c1
  have hlm : m + 1 ≤ 8796093022208 := by omega
  rw [hm]
  clear hc e0 e1 hx hy h hm hl
  have m0 : (0 : Int) ≤ (m : Int) := by omega
  have m1 : (m : Int) < (m : Int) + 1 := by omega
  have m2 : (0 : Int) < (m : Int) + 1 := by omega
  have m3 : IntKind.wrap .i64 (((m + 1 : Nat) : Int) - 1) = (m : Int) := by rw [show (((m + 1 : Nat) : Int) - 1) = (m : Int) by omega]; exact IntWalk.i64_in _ (by omega)
  go_enter Tryz.func37, Tryz.ntmps37
  go_upto_region 1 with fail
  go_big_region
  go_wp2_with fail
  exact bodyPost_ret (v := .tuple #[.int .i64 x, .int .i64 y]) (by simp [results, Tryz.results37, go_sem]) rfl ⟨rfl, (by repeat (first | exact Below.refl _ _ | assumption | apply balloc | apply bdrew | (refine below_drewN ?_ _) | (refine bset ?_ (by first | (simp; done) | omega | (simp; omega)) _) | (refine bnext ?_ (by assumption))))⟩
set_option maxRecDepth 100000 in
set_option maxHeartbeats 12800000 in
theorem refGrowth_go (rs zs fs : List (Int × Int)) (off x y x2 y2 zE : Int) (ra za fa : Option Addr) (rc zc fc m m2 : Nat) (t1 t2 R : Bool) (w : World) (l1 : rs.length ≤ 8796093022208) (l3 : fs.length ≤ 8796093022208) (IR : Hid (IsPairs w ra rs)) (IF : Hid (IsPairs w fa fs))
    (T1 : Hid (∀ W, Below w.heap.size w W → Calls Tryz.prog 75 #[.slice ra rs.length rc] W fun e w' => e = .returned (.bool t1) ∧ Below W.heap.size W w'))
    (T2 : Hid (∀ W, Below w.heap.size w W → Calls Tryz.prog 75 #[.slice fa fs.length fc] W fun e w' => e = .returned (.bool t2) ∧ Below W.heap.size W w'))
    (ZO : Hid (∀ W, Below w.heap.size w W → Calls Tryz.prog 26 #[.slice za zs.length zc, .int .u8 0] W fun e w' => e = .returned (.int .i64 zE) ∧ Below W.heap.size W w'))
    (EN : Hid (t1 = true → ∀ W, Below w.heap.size w W → Calls Tryz.prog 37 #[.agg #[.slice ra rs.length rc, .int .i64 off, .slice za zs.length zc, .slice fa fs.length fc]] W fun e w' => e = .returned (.tuple #[.int .i64 x, .int .i64 y]) ∧ Below W.heap.size W w'))
    (HF : Hid (t2 = true → fs.length = m2 + 1 ∧ x2 = (fs.getD 0 (0, 0)).1 ∧ y2 = (fs.getD m2 (0, 0)).1))
    (HR : Hid (R = (t1 && (t2 && (decide (0 ≤ off) && (decide (off ≤ 1000000) && (decide ((1 : Int) ≤ (zs.length : Int)) && (decide (zE = 0) && (rs.all (yIn 0 1000000) && (fs.all (yIn 1 20000) && (decide (0 ≤ x) && (decide (y ≤ 3000) && (decide (x2 = x) && decide (y2 = y)))))))))))))) :
    Calls Tryz.prog 34 #[.agg #[.slice ra rs.length rc, .int .i64 off, .slice za zs.length zc, .slice fa fs.length fc]] w fun e w' => e = .returned (.bool R) ∧ Below w.heap.size w w' := by
  have GN := hide (grAt_new w ⟨rs, off, zs, fs⟩ ⟨ra, rc, za, zc, fa, fc⟩ 58)
  go_enter Tryz.func34, Tryz.ntmps34
  go_upto_region 1 with fail
  obtain ⟨w0, hw0⟩ : ∃ z, z = w.alloc (.cells #[.slice ra rs.length rc, .int .i64 off, .slice za zs.length zc, .slice fa fs.length fc] 58) := ⟨_, rfl⟩
  rw [← hw0]
  have B0 := hide (show Below w.heap.size w w0 by rw [hw0]; exact (by repeat (first | exact Below.refl _ _ | assumption | apply balloc | apply bdrew | (refine below_drewN ?_ _) | (refine bset ?_ (by first | (simp; done) | omega | (simp; omega)) _) | (refine bnext ?_ (by assumption)))))
  have G0 := hide (show GrAt w0 w.heap.size ⟨rs, off, zs, fs⟩ ⟨ra, rc, za, zc, fa, fc⟩ by rw [hw0]; exact GN.out)
  clear hw0 GN
  have ⟨⟨g1, g2⟩, g3, g4⟩ := G0.out
  simp only at g1 g2 g3 g4
  go_wp2_with fail
  refine (T1.out _ B0.out).mono ?_
  rintro e w1 ⟨rfl, hb1⟩
  have B1 := hide (bnext B0.out hb1)
  have G1 := hide (grAt_later G0.out hb1)
  clear g1 g2 g3 g4 hb1 G0 B0
  have ⟨⟨g1, g2⟩, g3, g4⟩ := G1.out
  simp only at g1 g2 g3 g4
  cases t1 with
  | false =>
    obtain rfl : R = false := HR.out
    go_wp2_with fail
    go_ret
    exact ⟨rfl, B1.out⟩
  | true =>
  have EN' := hide (EN.out rfl)
  go_wp2_with fail
  refine (T2.out _ B1.out).mono ?_
  rintro e w2 ⟨rfl, hb2⟩
  have B2 := hide (bnext B1.out hb2)
  have G2 := hide (grAt_later G1.out hb2)
  clear g1 g2 g3 g4 hb2 G1 B1
  have ⟨⟨g1, g2⟩, g3, g4⟩ := G2.out
  simp only at g1 g2 g3 g4
  cases t2 with
  | false =>
    obtain rfl : R = false := HR.out
    go_wp2_with fail
    go_ret
    exact ⟨rfl, B2.out⟩
  | true =>
  obtain ⟨f1, f2, f3⟩ := HF.out rfl
  have HF' := hide (And.intro f1 (And.intro f2 f3))
  clear f1 f2 f3 HF EN T1 T2
  by_cases o0 : off < 0
  · have d0 : decide (off < 0) = true := decide_eq_true o0
    obtain rfl : R = false := by rw [HR.out, decide_eq_false (show ¬ 0 ≤ off by omega)]; rfl
    go_wp2_with fail
    go_ret
    exact ⟨rfl, B2.out⟩
  have d0 : decide (off < 0) = false := decide_eq_false o0
  by_cases o1 : 1000000 < off
  · have d1 : decide (1000000 < off) = true := decide_eq_true o1
    obtain rfl : R = false := by rw [HR.out, decide_eq_false (show ¬ off ≤ 1000000 by omega)]; simp
    go_wp2_with fail
    go_ret
    exact ⟨rfl, B2.out⟩
  have d1 : decide (1000000 < off) = false := decide_eq_false o1
  by_cases z0 : (zs.length : Int) < 1
  · have d2 : decide ((zs.length : Int) < 1) = true := decide_eq_true z0
    obtain rfl : R = false := by rw [HR.out, decide_eq_false (show ¬ (1 : Int) ≤ (zs.length : Int) by omega)]; simp
    go_wp2_with fail
    go_ret
    exact ⟨rfl, B2.out⟩
  have d2 : decide ((zs.length : Int) < 1) = false := decide_eq_false z0
  have HR2 := hide (show R = (decide (zE = 0) && (rs.all (yIn 0 1000000) && (fs.all (yIn 1 20000) && (decide (0 ≤ x) && (decide (y ≤ 3000) && (decide (x2 = x) && decide (y2 = y))))))) by
    rw [HR.out, decide_eq_true (show 0 ≤ off by omega), decide_eq_true (show off ≤ 1000000 by omega), decide_eq_true (show (1 : Int) ≤ (zs.length : Int) by omega)]; rfl)
  clear HR
  go_wp2_with fail
  refine (ZO.out _ B2.out).mono ?_
  rintro e w3 ⟨rfl, hb3⟩
  have B3 := hide (bnext B2.out hb3)
  have G3 := hide (grAt_later G2.out hb3)
  clear g1 g2 g3 g4 hb3 G2 B2 o0 o1 z0 d0 d1 d2 ZO
  by_cases z1 : zE = 0
  case neg =>
    have d3 : (zE != 0) = true := by simpa using z1
    obtain rfl : R = false := by rw [HR2.out, decide_eq_false z1]; rfl
    go_wp2_with fail
    go_ret
    exact ⟨rfl, B3.out⟩
  have HR3 := hide (show R = (rs.all (yIn 0 1000000) && (fs.all (yIn 1 20000) && (decide (0 ≤ x) && (decide (y ≤ 3000) && (decide (x2 = x) && decide (y2 = y)))))) by rw [HR2.out, decide_eq_true z1]; rfl)
  subst z1
  clear HR2
  have IR3 := hide (pairs_later IR.out B3.out)
  have IF3 := hide (pairs_later IF.out B3.out)
  obtain ⟨ry, hry⟩ : ∃ b, rs.all (yIn 0 1000000) = b := ⟨_, rfl⟩
  obtain ⟨fy, hfy⟩ : ∃ b, fs.all (yIn 1 20000) = b := ⟨_, rfl⟩
  have RY := hide hry
  have FY := hide hfy
  rw [hry, hfy] at HR3
  clear hry hfy IR IF
  go_upto_region 4 with fail
  go_loopw [3] (fun i wr => ∃ k : Nat, k ≤ rs.length ∧ i = .int .i64 (k : Int) ∧ Hid ((rs.take k).all (yIn 0 1000000) = true) ∧ Below w3.heap.size w3 wr) (fun i _ => rs.length - (intOf i).toNat)
  case atStart => exact ⟨0, by omega, rfl, hide (by simp), Below.refl _ _⟩
  case round =>
    obtain ⟨k, hk, rfl, hall, hb⟩ := hrel
    have ⟨⟨g1, g2⟩, g3, g4⟩ := grAt_later G3.out hb
    simp only at g1 g2 g3 g4
    by_cases hlt : k < rs.length
    · obtain ⟨b, o, rfl, c1⟩ : ∃ b o, ra = some ⟨b, o, none⟩ ∧ wr.cell? ⟨b, o + k * 2 + 1, none⟩ = some (.int .i64 (rs.getD k (0, 0)).2) := by
        rcases pairs_later IR3.out hb with h | ⟨b, o, e, h⟩
        · rw [h] at hlt; simp at hlt
        · exact ⟨b, o, e, (h k hlt).2⟩
      have S1 := hide (all_step (f := yIn 0 1000000) (d := (0, 0)) hlt hall.out)
      have S2 := hide (all_stop (f := yIn 0 1000000) (l := rs) (d := (0, 0)) hlt)
      have YI := hide (show yIn 0 1000000 (rs.getD k (0, 0)) = (decide (0 ≤ (rs.getD k (0, 0)).2) && decide ((rs.getD k (0, 0)).2 ≤ 1000000)) from rfl)
      generalize yIn 0 1000000 (rs.getD k (0, 0)) = yi at *
      generalize (rs.getD k (0, 0)).2 = u at *
      have BB := hide (bnext B3.out hb)
      have B4 := hide hb
      have k0 : 0 ≤ (k : Int) := by omega
      have k1 : (k : Int) < (rs.length : Int) := by omega
      clear hall hb
      by_cases u0 : u < 0
      · have e0 : decide (u < 0) = true := decide_eq_true u0
        have E := hide (show R = false by rw [HR3.out, ← RY.out, S2.out (by rw [YI.out, decide_eq_false (show ¬ 0 ≤ u by omega)]; rfl)]; rfl)
        go_wp2_with fail
        go_ret
        exact ⟨ret_bool E.out.symm, BB.out⟩
      · have e0 : decide (u < 0) = false := decide_eq_false u0
        by_cases u1 : 1000000 < u
        · have e1 : decide (1000000 < u) = true := decide_eq_true u1
          have E := hide (show R = false by rw [HR3.out, ← RY.out, S2.out (by rw [YI.out, decide_eq_false (show ¬ u ≤ 1000000 by omega)]; simp)]; rfl)
          go_wp2_with fail
          go_ret
          exact ⟨ret_bool E.out.symm, BB.out⟩
        · have e1 : decide (1000000 < u) = false := decide_eq_false u1
          have E := hide (S1.out (by rw [YI.out, decide_eq_true (show 0 ≤ u by omega), decide_eq_true (show u ≤ 1000000 by omega)]; rfl))
          go_wp2_with fail
          go_roundw
          case rel => exact ⟨k + 1, by omega, by go_num, E, B4.out⟩
          case measure => simp [intOf]; omega
    · obtain rfl : k = rs.length := by omega
      have HR4 := hide (show R = (fy && (decide (0 ≤ x) && (decide (y ≤ 3000) && (decide (x2 = x) && decide (y2 = y))))) by
        have : ry = true := by rw [← RY.out]; have := hall.out; rwa [List.take_length] at this
        rw [HR3.out, this]; rfl)
      have B5 := hide (bnext B3.out hb)
      have IF5 := hide (pairs_later IF3.out hb)
      have G5 := hide (grAt_later G3.out hb)
      clear hall hb HR3 RY IF3 IR3 G3 B3 hk hlt
      go_upto_region 9 with fail
      clear g1 g2 g3 g4
      obtain ⟨w5, hw5⟩ : ∃ z, wr = z := ⟨_, rfl⟩
      rw [hw5] at B5 IF5 G5 ⊢
      clear hw5
      go_loopw [4] (fun i wr => ∃ k : Nat, k ≤ fs.length ∧ i = .int .i64 (k : Int) ∧ Hid ((fs.take k).all (yIn 1 20000) = true) ∧ Below w5.heap.size w5 wr) (fun i _ => fs.length - (intOf i).toNat)
      case atStart => exact ⟨0, by omega, rfl, hide (by simp), Below.refl _ _⟩
      case round =>
        obtain ⟨k, hk, rfl, hall, hb⟩ := hrel
        have ⟨⟨g1, g2⟩, g3, g4⟩ := grAt_later G5.out hb
        simp only at g1 g2 g3 g4
        by_cases hlt : k < fs.length
        · obtain ⟨b, o, rfl, c1⟩ : ∃ b o, fa = some ⟨b, o, none⟩ ∧ wr.cell? ⟨b, o + k * 2 + 1, none⟩ = some (.int .i64 (fs.getD k (0, 0)).2) := by
            rcases pairs_later IF5.out hb with h | ⟨b, o, e, h⟩
            · rw [h] at hlt; simp at hlt
            · exact ⟨b, o, e, (h k hlt).2⟩
          have S1 := hide (all_step (f := yIn 1 20000) (d := (0, 0)) hlt hall.out)
          have S2 := hide (all_stop (f := yIn 1 20000) (l := fs) (d := (0, 0)) hlt)
          have YI := hide (show yIn 1 20000 (fs.getD k (0, 0)) = (decide (1 ≤ (fs.getD k (0, 0)).2) && decide ((fs.getD k (0, 0)).2 ≤ 20000)) from rfl)
          generalize yIn 1 20000 (fs.getD k (0, 0)) = yi at *
          generalize (fs.getD k (0, 0)).2 = u at *
          have BB := hide (bnext B5.out hb)
          have B6 := hide hb
          have k0 : 0 ≤ (k : Int) := by omega
          have k1 : (k : Int) < (fs.length : Int) := by omega
          clear hall hb
          by_cases u0 : u < 1
          · have e0 : decide (u < 1) = true := decide_eq_true u0
            have E := hide (show R = false by rw [HR4.out, ← FY.out, S2.out (by rw [YI.out, decide_eq_false (show ¬ 1 ≤ u by omega)]; rfl)]; rfl)
            go_wp2_with fail
            go_ret
            exact ⟨ret_bool E.out.symm, BB.out⟩
          · have e0 : decide (u < 1) = false := decide_eq_false u0
            by_cases u1 : 20000 < u
            · have e1 : decide (20000 < u) = true := decide_eq_true u1
              have E := hide (show R = false by rw [HR4.out, ← FY.out, S2.out (by rw [YI.out, decide_eq_false (show ¬ u ≤ 20000 by omega)]; simp)]; rfl)
              go_wp2_with fail
              go_ret
              exact ⟨ret_bool E.out.symm, BB.out⟩
            · have e1 : decide (20000 < u) = false := decide_eq_false u1
              have E := hide (S1.out (by rw [YI.out, decide_eq_true (show 1 ≤ u by omega), decide_eq_true (show u ≤ 20000 by omega)]; rfl))
              go_wp2_with fail
              go_roundw
              case rel => exact ⟨k + 1, by omega, by go_num, E, B6.out⟩
              case measure => simp [intOf]; omega
        · obtain rfl : k = fs.length := by omega
          have HR6 := hide (show R = (decide (0 ≤ x) && (decide (y ≤ 3000) && (decide (x2 = x) && decide (y2 = y)))) by
            have : fy = true := by rw [← FY.out]; have := hall.out; rwa [List.take_length] at this
            rw [HR4.out, this]; rfl)
          have B7 := hide (bnext B5.out hb)
          have IF7 := hide (pairs_later IF5.out hb)
          have G7 := hide (grAt_later G5.out hb)
          clear hall hb HR4 FY IF5 G5 B5 hk hlt
          go_wp2_with fail
          refine (EN'.out _ B7.out).mono ?_
          rintro e w8 ⟨rfl, hb8⟩
          have B8 := hide (bnext B7.out hb8)
          have IF8 := hide (pairs_later IF7.out hb8)
          have ⟨⟨q1, q2⟩, q3, q4⟩ := grAt_later G7.out hb8
          simp only at q1 q2 q3 q4
          clear g1 g2 g3 g4 hb8 IF7 G7 B7 EN'
          obtain ⟨fl, fx, fyy⟩ := HF'.out
          obtain ⟨b, o, rfl, hc⟩ : ∃ b o, fa = some ⟨b, o, none⟩ ∧ ∀ i, i < fs.length → w8.cell? ⟨b, o + i * 2, none⟩ = some (.int .i64 (fs.getD i (0, 0)).1) ∧ w8.cell? ⟨b, o + i * 2 + 1, none⟩ = some (.int .i64 (fs.getD i (0, 0)).2) := by
            rcases IF8.out with h | h
            · rw [h] at fl; simp at fl
            · exact h
          have c0 := (hc 0 (by omega)).1
          have c1 := (hc m2 (by omega)).1
          rw [← fx] at c0
          rw [← fyy] at c1
          simp only [Nat.zero_mul, Nat.add_zero] at c0
          obtain ⟨n, hn⟩ : ∃ n, fs.length = n := ⟨_, rfl⟩
          rw [hn] at fl l3
          rw [hn] at q4 ⊢
          have n0 : (0 : Int) < (n : Int) := by omega
          have n1 : (m2 : Int) < (n : Int) := by omega
          have n2 : (0 : Int) ≤ (m2 : Int) := by omega
          have n3 : IntKind.wrap .i64 ((n : Int) - 1) = (m2 : Int) := by rw [show (n : Int) - 1 = (m2 : Int) by omega]; exact IntWalk.i64_in _ (by omega)
          clear hc fl fx fyy hn HF' IF8
          by_cases a0 : 0 ≤ x
          case neg =>
            have e0 : decide (0 ≤ x) = false := decide_eq_false a0
            have E := hide (show R = false by rw [HR6.out, e0]; rfl)
            go_wp2_with fail
            go_ret
            exact ⟨ret_bool E.out.symm, B8.out⟩
          have e0 : decide (0 ≤ x) = true := decide_eq_true a0
          by_cases a1 : y ≤ 3000
          case neg =>
            have e1 : decide (y ≤ 3000) = false := decide_eq_false a1
            have E := hide (show R = false by rw [HR6.out, e0, e1]; rfl)
            go_wp2_with fail
            go_ret
            exact ⟨ret_bool E.out.symm, B8.out⟩
          have e1 : decide (y ≤ 3000) = true := decide_eq_true a1
          by_cases a2 : x2 = x
          case neg =>
            have e2 : (x2 == x) = false := by simpa using a2
            have E := hide (show R = false by rw [HR6.out, e0, e1, decide_eq_false a2]; rfl)
            go_wp2_with fail
            go_ret
            exact ⟨ret_bool E.out.symm, B8.out⟩
          have e2 : (x2 == x) = true := by simpa using a2
          by_cases a3 : y2 = y
          case neg =>
            have e3 : (y2 == y) = false := by simpa using a3
            have E := hide (show R = false by rw [HR6.out, decide_eq_false a3]; simp)
            go_wp2_with fail
            go_ret
            exact ⟨ret_bool E.out.symm, B8.out⟩
          have e3 : (y2 == y) = true := by simpa using a3
          have E := hide (show R = true by rw [HR6.out, e0, e1, decide_eq_true a2, decide_eq_true a3]; rfl)
          go_wp2_with fail
          go_ret
          exact ⟨ret_bool E.out.symm, B8.out⟩
theorem refGrowth_any (g : Gr) (p : GrA) (w : World) (h : IsGr w g p) (l1 : g.rs.length ≤ 8796093022208) (l2 : g.zs.length ≤ 140737488351232) (l3 : g.fs.length ≤ 8796093022208) (w1 : Wide g.rs) (w2 : Wide g.fs) :
    Calls Tryz.prog 34 #[grV g p] w fun e w' => e = .returned (.bool (grwOk g)) ∧ Below w.heap.size w w' := by
  obtain ⟨rs, off, zs, fs⟩ := g
  obtain ⟨ra, rc, za, zc, fa, fc⟩ := p
  simp only at l1 l2 l3
  refine refGrowth_go rs zs fs off (plcQ rs).1 (plcQ rs).2 (plcQ fs).1 (plcQ fs).2 (zonR zs 0) ra za fa rc zc fc (rs.length - 1) (fs.length - 1) (tabOk rs) (tabOk fs) _ w l1 l3 (hide h.1.1) (hide h.2)
    (hide fun W hb => refTable_any rs ra rc W l1 w1 (pairs_later h.1.1 hb)) (hide fun W hb => refTable_any fs fa fc W l3 w2 (pairs_later h.2 hb)) (hide fun W hb => refZones_any zs 0 za zc W l2 (pairs_later h.1.2 hb)) (hide fun e W hb => ?_) (hide fun e => ?_) (hide ?_)
  · have r2 := len_of e
    exact refEnds_any rs zs fs off ra za fa rc zc fc (rs.length - 1) W (by omega) l1 (pairs_later h.1.1 hb)
  · have r2 := len_of e
    exact ⟨by omega, rfl, rfl⟩
  · show grwOk _ = _
    rw [Bool.eq_iff_iff]
    have zz : zonR zs 0 = 0 ↔ (zs.length ≤ 20 ∧ zs.all grOk = true) := by
      unfold zonR
      split
      · constructor
        · intro e; cases e
        · intro e; omega
      · split
        · simp_all; omega
        · simp_all
    have asc : tabOk rs = true → (plcQ rs).1 ≤ (plcQ rs).2 := fun e => by
      have r2 := len_of e
      exact knot_le e (i := 0) (j := rs.length - 1) (by omega) (by omega)
    unfold grwOk rgOk
    simp only [Bool.and_eq_true, decide_eq_true_eq, Prod.ext_iff, zz]
    constructor
    · rintro ⟨⟨a1, a2⟩, ⟨a3, a4⟩, ⟨a5, a6⟩, ⟨a7, a8, a9⟩, ⟨a10, a11⟩, ⟨a12, a13⟩, a14⟩
      exact ⟨a1, a3, a10, a11, by omega, ⟨a13, a14⟩, a2, a4, by omega, by omega, a5.symm, a6.symm⟩
    · rintro ⟨a1, a3, a10, a11, a12, ⟨a13, a14⟩, a2, a4, a7, a9, a5, a6⟩
      exact ⟨⟨a1, a2⟩, ⟨a3, a4⟩, ⟨a5.symm, a6.symm⟩, ⟨by omega, asc a1, by omega⟩, ⟨a10, a11⟩, ⟨by omega, a13⟩, a14⟩
end Go.Proofs.YtimfbjnpalgmcaaGreat
