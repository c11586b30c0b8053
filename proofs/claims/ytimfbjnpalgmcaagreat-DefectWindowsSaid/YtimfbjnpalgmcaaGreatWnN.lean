/-
  The reference of chapter 5: next.
-/
import Derived.Test.YtimfbjnpalgmcaaGreatWnM
import Derived.Test.YtimfbjnpalgmcaaGreatDtA
namespace Go.Proofs.YtimfbjnpalgmcaaGreat
set_option linter.unusedSimpArgs false
set_option linter.unusedVariables false
open Go.RowKit

set_option maxRecDepth 100000 in
set_option maxHeartbeats 6400000 in
theorem refNext_go (s' a0 b0 a1 b1 a2 b2 a3 b3 v : Int) (zs : List (Int × Int)) (LO HI : Nat → Int) (ZN : Nat → Int) (ZK : Nat → Nat → Int) (LA HA : Nat → Nat → Int) (a : Option Addr) (cap : Nat) (w : World) (hl : zs.length ≤ 20) (hs : 1 ≤ s' ∧ s' ≤ 1000000) (HI0 : Hid (IsPairs w a zs))
    (MC : Hid (∀ W q k, MdlAt W q ⟨s', a0, b0, a1, b1, a2, b2, a3, b3⟩ → k < 4 → W.cell? ⟨q, 1 + k * 2, none⟩ = some (.int .i64 (LO k)) ∧ W.cell? ⟨q, 1 + k * 2 + 1, none⟩ = some (.int .i64 (HI k))))
    (HB : Hid (∀ k, k < 4 → (0 ≤ LO k ∧ LO k ≤ 1000000) ∧ 0 ≤ HI k ∧ HI k ≤ 1000000)) (HZ : Hid (∀ i, i < zs.length → (1 ≤ (zs.getD i (0, 0)).1 ∧ (zs.getD i (0, 0)).1 ≤ 1000000) ∧ 1 ≤ (zs.getD i (0, 0)).2 ∧ (zs.getD i (0, 0)).2 ≤ 1000000))
    (Z0 : Hid (ZN 0 = 1000001)) (ZS : Hid (∀ i, ZK i 0 = ZN i ∧ ZN (i + 1) = ZK i 4)) (KS : Hid (∀ i k, ZK i (k + 1) = nxA v (nxA v (ZK i k) (LA i k)) (HA i k))) (LH : Hid (∀ i k, LA i k = LO k * (zs.getD i (0, 0)).1 / s' + 1 ∧ HA i k = HI k * (zs.getD i (0, 0)).2 / s' + 1)) :
    Calls Tryz.prog 68 #[.agg #[.int .i64 s', .int .i64 a0, .int .i64 b0, .int .i64 a1, .int .i64 b1, .int .i64 a2, .int .i64 b2, .int .i64 a3, .int .i64 b3], .slice a zs.length cap, .int .i64 v] w fun e w' => e = .returned (.int .i64 (ZN zs.length)) ∧ Below w.heap.size w w' := by
  have MN := hide (mdlAt_new w ⟨s', a0, b0, a1, b1, a2, b2, a3, b3⟩ 26)
  go_enter Tryz.func68, Tryz.ntmps68
  go_upto_region 1 with fail
  obtain ⟨w0, hw0⟩ : ∃ z, z = w.alloc (.cells #[.int .i64 s', .int .i64 a0, .int .i64 b0, .int .i64 a1, .int .i64 b1, .int .i64 a2, .int .i64 b2, .int .i64 a3, .int .i64 b3] 26) := ⟨_, rfl⟩
  rw [← hw0]
  have B0 := hide (show Below w.heap.size w w0 by rw [hw0]; exact (by repeat (first | exact Below.refl _ _ | assumption | apply balloc | apply bdrew | (refine below_drewN ?_ _) | (refine bset ?_ (by first | (simp; done) | omega | (simp; omega)) _) | (refine bnext ?_ (by assumption)))))
  have M0 := hide (show MdlAt w0 w.heap.size ⟨s', a0, b0, a1, b1, a2, b2, a3, b3⟩ by rw [hw0]; exact MN.out)
  clear hw0 MN
  go_upto_region 3 with fail
  go_loopw [7, 8] (fun n i wr => ∃ k : Nat, k ≤ zs.length ∧ i = .int .i64 (k : Int) ∧ n = .int .i64 (ZN k) ∧ Below w0.heap.size w0 wr) (fun _ i _ => zs.length - (intOf i).toNat)
  case atStart => exact ⟨0, by omega, rfl, by rw [Z0.out], Below.refl _ _⟩
  case round =>
    obtain ⟨i, hi, rfl, rfl, hbw⟩ := hrel
    have BR := hide hbw
    have i0 : 0 ≤ (i : Int) := by omega
    have iw : wrap64 ((i : Int) + 1) = i + 1 := (IntWalk.i64_left _).symm.trans (IntWalk.i64_in _ (by omega))
    by_cases hlt : i < zs.length
    · obtain ⟨b, o, rfl, hc⟩ : ∃ b o, a = some ⟨b, o, none⟩ ∧ ∀ i, i < zs.length → wr.cell? ⟨b, o + i * 2, none⟩ = some (.int .i64 (zs.getD i (0, 0)).1) ∧ wr.cell? ⟨b, o + i * 2 + 1, none⟩ = some (.int .i64 (zs.getD i (0, 0)).2) := by
        rcases pairs_later HI0.out (bnext B0.out hbw) with h | h
        · subst h; simp at hlt
        · exact h
      have CZ := hide (hc i hlt)
      have iN : (i : Int) < (zs.length : Int) := by omega
      have di : decide ((i : Int) < (zs.length : Int)) = true := decide_eq_true iN
      have ZE := hide (ZS.out i)
      have KE := hide (KS.out i)
      have LE := hide (LH.out i)
      have ZB := hide (HZ.out i hlt)
      clear hc hbw
      generalize (zs.getD i (0, 0)).1 = z1 at *
      generalize (zs.getD i (0, 0)).2 = z2 at *
      rw [← ZE.out.1]
      go_upto_region 6 with fail
      clear di
      go_loopw [7, 9] (fun n j wq => ∃ k : Nat, k ≤ 4 ∧ j = .int .i64 (k : Int) ∧ n = .int .i64 (ZK i k) ∧ Below wr.heap.size wr wq) (fun _ j _ => 4 - (intOf j).toNat)
      case atStart => exact ⟨0, by omega, rfl, rfl, Below.refl _ _⟩
      case round =>
        obtain ⟨k, hk, rfl, rfl, hbq⟩ := hrel
        have BQ := hide hbq
        have k0 : 0 ≤ (k : Int) := by omega
        have kw : wrap64 ((k : Int) + 1) = k + 1 := (IntWalk.i64_left _).symm.trans (IntWalk.i64_in _ (by omega))
        by_cases hk4 : k < 4
        · as_aux_lemma =>
          have d4 : decide ((k : Int) < 4) = true := decide_eq_true (by omega)
          have k4 : (k : Int) < 4 := by omega
          have MK := hide (fun W (h : Below w0.heap.size w0 W) => MC.out W w.heap.size k (mdlAt_later M0.out h) hk4)
          have ⟨⟨l0, l1⟩, h0, h1⟩ := HB.out k hk4
          have ⟨⟨y0, y1⟩, y2, y3⟩ := ZB.out
          have KK := hide (KE.out k)
          have ⟨e1, e2⟩ := LE.out k
          generalize LA i k = la at *
          generalize HA i k = ha at *
          generalize ZK i k = zn at *
          generalize LO k = lo at *
          generalize HI k = hi' at *
          have p1 := Int.mul_le_mul l1 y1 (by omega) (by omega)
          have p2 := Int.mul_le_mul h1 y3 (by omega) (by omega)
          have p3 := Int.mul_nonneg l0 (show 0 ≤ z1 by omega)
          have p4 := Int.mul_nonneg h0 (show 0 ≤ z2 by omega)
          have q1 : (lo * z1).tdiv s' = la - 1 := by rw [Int.tdiv_eq_ediv_of_nonneg p3]; omega
          have q2 : (hi' * z2).tdiv s' = ha - 1 := by rw [Int.tdiv_eq_ediv_of_nonneg p4]; omega
          have r1 : 0 ≤ lo * z1 / s' ∧ lo * z1 / s' ≤ lo * z1 := ⟨Int.ediv_nonneg p3 (by omega), Int.ediv_le_self _ p3⟩
          have r2 : 0 ≤ hi' * z2 / s' ∧ hi' * z2 / s' ≤ hi' * z2 := ⟨Int.ediv_nonneg p4 (by omega), Int.ediv_le_self _ p4⟩
          have w1 : wrap64 (lo * z1) = lo * z1 := (IntWalk.i64_left _).symm.trans (IntWalk.i64_in _ (by omega))
          have w2 : wrap64 (hi' * z2) = hi' * z2 := (IntWalk.i64_left _).symm.trans (IntWalk.i64_in _ (by omega))
          have w3 : wrap64 (la - 1) = la - 1 := (IntWalk.i64_left _).symm.trans (IntWalk.i64_in _ (by omega))
          have w4 : wrap64 (ha - 1) = ha - 1 := (IntWalk.i64_left _).symm.trans (IntWalk.i64_in _ (by omega))
          have w5 : wrap64 (la - 1 + 1) = la := (IntWalk.i64_left _).symm.trans ((IntWalk.i64_in _ (by omega)).trans (by omega))
          have w6 : wrap64 (ha - 1 + 1) = ha := (IntWalk.i64_left _).symm.trans ((IntWalk.i64_in _ (by omega)).trans (by omega))
          have w7 : wrap64 la = la := (IntWalk.i64_left _).symm.trans (IntWalk.i64_in _ (by omega))
          have w8 : wrap64 ha = ha := (IntWalk.i64_left _).symm.trans (IntWalk.i64_in _ (by omega))
          have s0 : (s' == 0) = false := by simp; omega
          have s1 : ¬ s' = 0 := by omega
          clear l0 l1 h0 h1 y0 y1 y2 y3 e1 e2 p1 p2 p3 p4 r1 r2
          have ⟨c0, c1⟩ := MK.out _ (bnext BR.out hbq)
          have ⟨m1, _⟩ := (mdlAt_later M0.out (bnext BR.out hbq)).1.1.1
          have c2 := later hbq CZ.out.1
          have c3 := later hbq CZ.out.2
          simp only at m1
          clear hbq
          go_upto_region 8 with fail
          go_quiet (fail)
          go_upto_region 9 with fail
          have BD := hide (below_drewN BQ.out nq)
          by_cases g1 : v < la
          · have d1 : decide (v < la) = true := decide_eq_true g1
            by_cases g2 : v < ha
            · skip
              have d2 : decide (v < ha) = true := decide_eq_true g2
              have E := hide (show ZK i (k + 1) = min (min zn la) ha by rw [KK.out]; unfold nxA; rw [if_pos g1, if_pos g2])
              clear g1 g2
              go_wp2_with fail
              go_roundw
              case rel => exact ⟨k + 1, by omega, by (try rw [kw]); go_num, by (try rw [E.out]); (try (congr 1; omega)), BD.out⟩
              case measure => ((try rw [kw]); simp [intOf]; omega)
            · skip
              have d2 : decide (v < ha) = false := decide_eq_false g2
              have E := hide (show ZK i (k + 1) = min zn la by rw [KK.out]; unfold nxA; rw [if_pos g1, if_neg g2])
              clear g1 g2
              go_wp2_with fail
              go_roundw
              case rel => exact ⟨k + 1, by omega, by (try rw [kw]); go_num, by (try rw [E.out]); (try (congr 1; omega)), BD.out⟩
              case measure => ((try rw [kw]); simp [intOf]; omega)
          · have d1 : decide (v < la) = false := decide_eq_false g1
            by_cases g2 : v < ha
            · skip
              have d2 : decide (v < ha) = true := decide_eq_true g2
              have E := hide (show ZK i (k + 1) = min zn ha by rw [KK.out]; unfold nxA; rw [if_neg g1, if_pos g2])
              clear g1 g2
              go_wp2_with fail
              go_roundw
              case rel => exact ⟨k + 1, by omega, by (try rw [kw]); go_num, by (try rw [E.out]); (try (congr 1; omega)), BD.out⟩
              case measure => ((try rw [kw]); simp [intOf]; omega)
            · skip
              have d2 : decide (v < ha) = false := decide_eq_false g2
              have E := hide (show ZK i (k + 1) = zn by rw [KK.out]; unfold nxA; rw [if_neg g1, if_neg g2])
              clear g1 g2
              go_wp2_with fail
              go_roundw
              case rel => exact ⟨k + 1, by omega, by (try rw [kw]); go_num, by (try rw [E.out]); (try (congr 1; omega)), BD.out⟩
              case measure => ((try rw [kw]); simp [intOf]; omega)
        · obtain rfl : k = 4 := by omega
          have d4 : decide (((4 : Nat) : Int) < 4) = false := by decide
          clear hbq
          go_wp2_with fail
          go_roundw
          case rel => exact ⟨i + 1, by omega, by (try rw [iw]); go_num, by rw [ZE.out.2], bnext BR.out BQ.out⟩
          case measure => ((try rw [iw]); simp [intOf]; omega)
    · have di : decide ((i : Int) < (zs.length : Int)) = false := decide_eq_false (by omega)
      obtain rfl : i = zs.length := by omega
      go_wp2_with fail
      go_ret
      exact ⟨rfl, bnext B0.out BR.out⟩
end Go.Proofs.YtimfbjnpalgmcaaGreat
