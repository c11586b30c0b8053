/-
  DefectReached: the walk.
-/
import Derived.Test.YtlpdbjkpgfpjjaaGreatDtW
namespace Go.Proofs.YtlpdbjkpgfpjjaaGreat
set_option linter.unusedSimpArgs false
set_option linter.unusedVariables false
open Go.RowKit

/-- Two numbers in memory that may be written. -/
def TF (W : World) (q : Nat) (a b : Int) : Prop := W.cell? ⟨q, 0, none⟩ = some (.int .i64 a) ∧ W.cell? ⟨q, 1, none⟩ = some (.int .i64 b) ∧ W.frozen? ⟨q, 0, none⟩ = false ∧ W.frozen? ⟨q, 1, none⟩ = false
theorem tf_later {w W : World} {q : Nat} {a b : Int} (h : TF w q a b) (hb : Below w.heap.size w W) : TF W q a b := by
  obtain ⟨h0, h1, h2, h3⟩ := h
  have hq := World.block_lt_of_cell? _ _ h0
  exact ⟨later hb h0, later hb h1, (hb.frozen (p := ⟨q, 0, none⟩) hq).trans h2, (hb.frozen (p := ⟨q, 1, none⟩) hq).trans h3⟩
theorem tf_set {W : World} {q : Nat} {a b a' b' : Int} (h : TF W q a b) : TF ((W.setCell ⟨q, 0, none⟩ (.int .i64 a')).setCell ⟨q, 1, none⟩ (.int .i64 b')) q a' b' := by
  obtain ⟨h0, h1, h2, h3⟩ := h
  have e1 : (W.setCell ⟨q, 0, none⟩ (.int .i64 a')).cell? ⟨q, 1, none⟩ = some (.int .i64 b) := (World.cell?_setCell_other _ _ _ _ (by simp)).trans h1
  have e0 : (W.setCell ⟨q, 0, none⟩ (.int .i64 a')).cell? ⟨q, 0, none⟩ = some (.int .i64 a') := set_selfR (by rw [h0]; rfl)
  exact ⟨(World.cell?_setCell_other _ _ _ _ (by simp)).trans e0, set_selfR (by rw [e1]; rfl), by simp [go_sem, h2], by simp [go_sem, h3]⟩
theorem tf_other {W : World} {q r : Nat} {a b u v : Int} (h : TF W q a b) (hr : q ≠ r) : TF ((W.setCell ⟨r, 0, none⟩ (.int .i64 u)).setCell ⟨r, 1, none⟩ (.int .i64 v)) q a b := by
  obtain ⟨h0, h1, h2, h3⟩ := h
  refine ⟨?_, ?_, by simp [go_sem, h2], by simp [go_sem, h3]⟩
  · exact (World.cell?_setCell_other _ _ _ _ (by first | (simp; done) | (simp; omega))).trans ((World.cell?_setCell_other _ _ _ _ (by first | (simp; done) | (simp; omega))).trans h0)
  · exact (World.cell?_setCell_other _ _ _ _ (by first | (simp; done) | (simp; omega))).trans ((World.cell?_setCell_other _ _ _ _ (by first | (simp; done) | (simp; omega))).trans h1)
theorem below_set2 {B q : Nat} {a W : World} {u v : Value} (h : Below B a W) (hq : B ≤ q) : Below B a ((W.setCell ⟨q, 0, none⟩ u).setCell ⟨q, 1, none⟩ v) := (h.setCell (p := ⟨q, 0, none⟩) hq _).setCell (p := ⟨q, 1, none⟩) hq _
/-- A site in memory. -/
def StAt (W : World) (i : Nat) (m : Mdl) (x y p q : Int) : Prop := MdlAt W i m ∧ W.cell? ⟨i, 9, none⟩ = some (.int .i64 x) ∧ W.cell? ⟨i, 10, none⟩ = some (.int .i64 y) ∧ W.cell? ⟨i, 11, none⟩ = some (.int .i64 p) ∧ W.cell? ⟨i, 12, none⟩ = some (.int .i64 q)
theorem stAt_later {w W : World} {i : Nat} {m : Mdl} {x y p q : Int} (h : StAt w i m x y p q) (hb : Below w.heap.size w W) : StAt W i m x y p q := ⟨mdlAt_later h.1 hb, later hb h.2.1, later hb h.2.2.1, later hb h.2.2.2.1, later hb h.2.2.2.2⟩
set_option maxRecDepth 100000 in
set_option maxHeartbeats 6400000 in
theorem defectReached_good (s a0 b0 a1 b1 a2 b2 a3 b3 x y p q XS YS : Int) (S : Nat) (w : World)
    (RG : Hid (∀ W, Calls Tryz.prog 15 #[.agg #[.int .i64 s, .int .i64 a0, .int .i64 b0, .int .i64 a1, .int .i64 b1, .int .i64 a2, .int .i64 b2, .int .i64 a3, .int .i64 b3], .agg #[.int .i64 x, .int .i64 y], .agg #[.int .i64 p, .int .i64 q]] W fun e w' => e = .returned (.tuple #[.int .u8 (S : Int), .int .i64 0]) ∧ Below W.heap.size W w'))
    (LO HI H1 E1 H E A B n : Nat → Int) (hlo : Hid (∀ W q k, MdlAt W q ⟨s, a0, b0, a1, b1, a2, b2, a3, b3⟩ → k < 4 → W.cell? ⟨q, 1 + k * 2, none⟩ = some (.int .i64 (LO (k + 1))) ∧ W.cell? ⟨q, 1 + k * 2 + 1, none⟩ = some (.int .i64 (HI k)))) (hL0 : Hid (LO 0 = -1))
    (h1 : Hid (∀ k, k < 4 → H1 k = HI k ∧ E1 k = 1)) (h4 : Hid (H1 4 = YS ∧ E1 4 = p))
    (CN : Hid (∀ k W, k < 5 → Calls Tryz.prog 44 #[.agg #[.int .i64 (H1 k), .int .i64 (E1 k)], .agg #[.int .i64 YS, .int .i64 p]] W fun e w' => e = .returned (.tuple #[.int .i64 (n k), .int .i64 0]) ∧ Below W.heap.size W w'))
    (hH : Hid (∀ k, k < 5 → (0 < n k → H k = YS ∧ E k = p) ∧ (¬ 0 < n k → H k = H1 k ∧ E k = E1 k)))
    (CA : Hid (∀ k W, k < 5 → Calls Tryz.prog 44 #[.agg #[.int .i64 (H k), .int .i64 (E k)], .agg #[.int .i64 XS, .int .i64 q]] W fun e w' => e = .returned (.tuple #[.int .i64 (A k), .int .i64 0]) ∧ Below W.heap.size W w'))
    (CB : Hid (∀ k W, k < 5 → Calls Tryz.prog 44 #[.agg #[.int .i64 (H k), .int .i64 (E k)], .agg #[.int .i64 (LO k), .int .i64 1]] W fun e w' => e = .returned (.tuple #[.int .i64 (B k), .int .i64 0]) ∧ Below W.heap.size W w'))
    (hF : Hid (∀ k, k < 5 → (bits BinOp.and IntKind.u8 ((S : Int) / 2 ^ k) 1 == 1) = (decide (0 ≤ A k) && decide (0 < B k))))
    (hx : Hid (IntKind.i64.wrap (x * s) = XS)) (hy : Hid (IntKind.i64.wrap (y * s) = YS)) :
    Calls Tryz.prog 10 #[.agg #[.int .i64 s, .int .i64 a0, .int .i64 b0, .int .i64 a1, .int .i64 b1, .int .i64 a2, .int .i64 b2, .int .i64 a3, .int .i64 b3, .int .i64 x, .int .i64 y, .int .i64 p, .int .i64 q]] w fun e w' => e = .returned (.bool true) ∧ Below w.heap.size w w' := by
  have SN := hide (show StAt (w.alloc (.cells #[.int .i64 s, .int .i64 a0, .int .i64 b0, .int .i64 a1, .int .i64 b1, .int .i64 a2, .int .i64 b2, .int .i64 a3, .int .i64 b3, .int .i64 x, .int .i64 y, .int .i64 p, .int .i64 q] 80)) w.heap.size ⟨s, a0, b0, a1, b1, a2, b2, a3, b3⟩ x y p q by
    refine ⟨⟨⟨⟨⟨?_, ?_⟩, ?_⟩, ?_, ?_⟩, ⟨?_, ?_⟩, ?_, ?_⟩, ?_, ?_, ?_, ?_⟩ <;> exact (by simp [go_sem, World.cell?_alloc_past]))
  go_enter Tryz.func10, Tryz.ntmps10
  go_wp2_with fail
  refine (RG.out _).mono ?_
  rintro e w1 ⟨rfl, hb1⟩
  have S1 := hide (stAt_later SN.out hb1)
  have B1 := hide (show Below w.heap.size w w1 from (by repeat (first | exact Below.refl _ _ | assumption | apply balloc | apply bdrew | (refine below_drewN ?_ _) | (refine bset ?_ (by first | (simp; done) | omega | (simp; omega)) _) | (refine bnext ?_ (by assumption)))))
  clear hb1 SN RG
  have ⟨⟨⟨⟨⟨m1, m2⟩, m3⟩, m4, m5⟩, ⟨m6, m7⟩, m8, m9⟩, m10, m11, m12, m13⟩ := S1.out
  simp only at m1 m2 m3 m4 m5 m6 m7 m8 m9
  go_upto_region 5 with fail
  obtain ⟨w2, hw2⟩ : ∃ z, z = w1.alloc (.cells #[.int .i64 s, .int .i64 a0, .int .i64 b0, .int .i64 a1, .int .i64 b1, .int .i64 a2, .int .i64 b2, .int .i64 a3, .int .i64 b3] 26) := ⟨_, rfl⟩
  have M2 := hide (show MdlAt w2 w1.heap.size ⟨s, a0, b0, a1, b1, a2, b2, a3, b3⟩ by rw [hw2]; exact mdlAt_new w1 ⟨s, a0, b0, a1, b1, a2, b2, a3, b3⟩ _)
  have B2 := hide (show Below w.heap.size w w2 by rw [hw2]; exact balloc B1.out)
  have S2 := hide (show StAt w2 w.heap.size ⟨s, a0, b0, a1, b1, a2, b2, a3, b3⟩ x y p q by rw [hw2]; exact stAt_later S1.out (balloc (Below.refl _ _)))
  rw [← hw2]
  obtain ⟨pm, hpm⟩ : ∃ z, w1.heap.size = z := ⟨_, rfl⟩
  rw [hpm] at M2
  rw [hpm]
  clear hw2 hpm m1 m2 m3 m4 m5 m6 m7 m8 m9 m10 m11 m12 m13 B1 S1
  have KP := hide (fun (W : World) (hb : Below w2.heap.size w2 W) => (show W.cell? ⟨w.heap.size, 9, none⟩ = some (.int .i64 x) ∧ W.cell? ⟨w.heap.size, 10, none⟩ = some (.int .i64 y) ∧ W.cell? ⟨w.heap.size, 11, none⟩ = some (.int .i64 p) ∧ W.cell? ⟨w.heap.size, 12, none⟩ = some (.int .i64 q) ∧ W.cell? ⟨pm, 0, none⟩ = some (.int .i64 s) ∧ Below w2.heap.size w2 W from
    have ⟨_, m10, m11, m12, m13⟩ := stAt_later S2.out hb
    have ⟨⟨⟨⟨m1, _⟩, _⟩, _, _⟩, _, _, _⟩ := mdlAt_later M2.out hb
    ⟨m10, m11, m12, m13, m1, hb⟩))
  go_cut [6, 7] from 36 to 56 (fun s6 s7 wx => ∃ a b, s6 = .pointer (some ⟨a, 0, none⟩) ∧ s7 = .pointer (some ⟨b, 0, none⟩) ∧ TF wx a XS q ∧ TF wx b YS p ∧ Below w2.heap.size w2 wx)
  case first =>
    as_aux_lemma =>
    have hxo := hx.out
    have hyo := hy.out
    clear CN CA CB hF hH h1 h4 hlo hL0
    go_region_held3 (fun W => W.cell? ⟨w.heap.size, 9, none⟩ = some (.int .i64 x) ∧ W.cell? ⟨w.heap.size, 10, none⟩ = some (.int .i64 y) ∧ W.cell? ⟨w.heap.size, 11, none⟩ = some (.int .i64 p) ∧ W.cell? ⟨w.heap.size, 12, none⟩ = some (.int .i64 q) ∧ W.cell? ⟨pm, 0, none⟩ = some (.int .i64 s) ∧ Below w2.heap.size w2 W)
      ((go_split_ands; refine KP.out _ ?_; exact (by repeat (first | exact Below.refl _ _ | assumption | apply balloc | apply bdrew | (refine below_drewN ?_ _) | (refine bset ?_ (by first | (simp; done) | omega | (simp; omega)) _) | (refine bnext ?_ (by assumption))))))
      (fail)
    all_goals (go_wp2_with fail; go_meet; refine ⟨_, _, rfl, rfl, ⟨?_, ?_, ?_, ?_⟩, ⟨?_, ?_, ?_, ?_⟩, ?_⟩)
    all_goals first | (simp [go_sem]; done) | exact (by repeat (first | exact Below.refl _ _ | assumption | apply balloc | apply bdrew | (refine below_drewN ?_ _) | (refine bset ?_ (by first | (simp; done) | omega | (simp; omega)) _) | (refine bnext ?_ (by assumption))))
  case rest =>
    obtain ⟨a, b, rfl, rfl, ta, tb, hbw⟩ := hcut
    have A3 := hide ta
    have T3 := hide tb
    have M3 := hide (mdlAt_later M2.out hbw)
    have B3 := hide (bnext B2.out hbw)
    obtain ⟨w3, hw3⟩ : ∃ z, wc = z := ⟨_, rfl⟩
    rw [hw3] at A3 T3 M3 B3 ⊢
    clear ta tb hbw hw3 M2 B2 S2 KP hx hy
    go_upto_region 7 with fail
    go_loopw [8] (fun i wr => ∃ k : Nat, k ≤ 5 ∧ i = .int .i64 (k : Int) ∧ Below w3.heap.size w3 wr) (fun i _ => 5 - (intOf i).toNat)
    case atStart => exact ⟨0, by omega, rfl, Below.refl _ _⟩
    case round =>
      obtain ⟨k, hk, rfl, hb⟩ := hrel
      by_cases hlt : k < 5
      · have k0 : 0 ≤ (k : Int) := by omega
        have k1 : (k : Int) < 5 := by omega
        go_upto_region 9 with fail
        go_cut [9, 10] from 60 to 62 (fun s9 s10 wx => ∃ c d, s9 = .pointer (some ⟨c, 0, none⟩) ∧ s10 = .pointer (some ⟨d, 0, none⟩) ∧ TF wx c (-1) 1 ∧ TF wx d YS p ∧ c ≠ d ∧ (wr.heap.size ≤ c ∧ wr.heap.size ≤ d) ∧ Below wr.heap.size wr wx)
        case first =>
          as_aux_lemma =>
          have ⟨t0, t1, t2, t3⟩ := tf_later T3.out hb
          have n0 := fun (z : Obj) => later (balloc (o := z) (Below.refl _ _)) t0
          have o0 := fun (z u : Obj) => later (balloc (o := u) (balloc (o := z) (Below.refl _ _))) t0
          have n1 := fun (z : Obj) => later (balloc (o := z) (Below.refl _ _)) t1
          have o1 := fun (z u : Obj) => later (balloc (o := u) (balloc (o := z) (Below.refl _ _))) t1
          go_region
          all_goals first | go_meet | (go_wp2_with fail; go_meet)
          all_goals refine ⟨_, _, rfl, rfl, ⟨?_, ?_, ?_, ?_⟩, ⟨?_, ?_, ?_, ?_⟩, ?_, ⟨?_, ?_⟩, ?_⟩
          all_goals first | (simp [go_sem]; done) | omega | exact (by repeat (first | exact Below.refl _ _ | assumption | apply balloc | apply bdrew | (refine below_drewN ?_ _) | (refine bset ?_ (by first | (simp; done) | omega | (simp; omega)) _) | (refine bnext ?_ (by assumption))))
        case rest =>
          obtain ⟨c, d, rfl, rfl, tc, td, cd, ⟨lc, ld⟩, hb9⟩ := hcut
          have CD := hide cd
          have LC := hide lc
          have LD := hide ld
          have BR := hide hb
          have B9 := hide hb9
          have TC := hide tc
          have TD := hide td
          clear cd lc ld hb hb9 tc td
          go_upto_if 63 with fail
          go_cut [] from 63 to 72 (fun wx => TF wx c (LO k) 1 ∧ TF wx d YS p ∧ Below wr.heap.size wr wx)
          case first =>
            as_aux_lemma =>
            have ⟨t0, t1, t2, t3⟩ := TC.out
            by_cases hz : k = 0
            · subst hz
              go_wp2_with fail
              go_meet
              exact ⟨by rw [hL0.out]; exact TC.out, TD.out, B9.out⟩
            · obtain ⟨j, rfl⟩ : ∃ j, k = j + 1 := ⟨k - 1, by omega⟩
              have ⟨h1, _⟩ := hlo.out wc pm j (mdlAt_later M3.out (bnext BR.out B9.out)) (by omega)
              have j0 : 0 ≤ (j : Int) := by omega
              have j4 : (j : Int) < 4 := by omega
              have wj : IntKind.i64.wrap (((j + 1 : Nat) : Int) - 1) = (j : Int) := by rw [show ((j + 1 : Nat) : Int) - 1 = j by omega]; exact IntWalk.i64_in _ (by omega)
              go_wp2_with fail
              go_meet
              exact ⟨tf_set TC.out, tf_other TD.out (fun e => CD.out e.symm), below_set2 B9.out LC.out⟩
          case rest =>
            obtain ⟨tc2, td2, hb2⟩ := hcut
            have C2 := hide tc2
            have D2 := hide td2
            have G2 := hide hb2
            clear tc2 td2 hb2 TC TD B9
            go_upto_if 72 with fail
            go_cut [] from 72 to 80 (fun wx => TF wx c (LO k) 1 ∧ TF wx d (H1 k) (E1 k) ∧ Below wr.heap.size wr wx)
            case first =>
              as_aux_lemma =>
              have ⟨t0, t1, t2, t3⟩ := D2.out
              by_cases hz : k < 4
              · have ⟨_, h2⟩ := hlo.out wc pm k (mdlAt_later M3.out (bnext BR.out G2.out)) hz
                have k4 : (k : Int) < 4 := by omega
                go_wp2_with fail
                go_meet
                exact ⟨tf_other C2.out CD.out, by rw [(h1.out k hz).1, (h1.out k hz).2]; exact tf_set D2.out, below_set2 G2.out LD.out⟩
              · obtain rfl : k = 4 := by omega
                go_wp2_with fail
                go_meet
                exact ⟨C2.out, by rw [h4.out.1, h4.out.2]; exact D2.out, G2.out⟩
            case rest =>
              obtain ⟨tc2, td2, hb2⟩ := hcut
              have C3 := hide tc2
              have D3 := hide td2
              have G3 := hide hb2
              have ⟨d0, d1, _, _⟩ := td2
              have ⟨t0, t1, _, _⟩ := tf_later T3.out (bnext BR.out hb2)
              clear tc2 td2 hb2 C2 D2 G2
              go_wp2_with fail
              refine (CN.out k _ hlt).mono ?_
              rintro e w5 ⟨rfl, hb5⟩
              have C4 := hide (tf_later C3.out hb5)
              have D4 := hide (tf_later D3.out hb5)
              have G4 := hide (bnext G3.out hb5)
              clear d0 d1 t0 t1 hb5 C3 D3 G3
              go_upto_if 90 with fail
              go_cut [] from 90 to 93 (fun wx => TF wx c (LO k) 1 ∧ TF wx d (H k) (E k) ∧ Below wr.heap.size wr wx)
              case first =>
                as_aux_lemma =>
                have ⟨t0, t1, _, _⟩ := tf_later T3.out (bnext BR.out G4.out)
                have ⟨d0, d1, d2, d3⟩ := D4.out
                by_cases hz : 0 < n k
                · go_wp2_with fail
                  go_meet
                  exact ⟨tf_other C4.out CD.out, by rw [((hH.out k hlt).1 hz).1, ((hH.out k hlt).1 hz).2]; exact tf_set D4.out, below_set2 G4.out LD.out⟩
                · go_wp2_with fail
                  go_meet
                  exact ⟨C4.out, by rw [((hH.out k hlt).2 hz).1, ((hH.out k hlt).2 hz).2]; exact D4.out, G4.out⟩
              case rest =>
                obtain ⟨tc2, td2, hb2⟩ := hcut
                have C5 := hide tc2
                have D5 := hide td2
                have G5 := hide hb2
                have ⟨d0, d1, _, _⟩ := td2
                have ⟨t0, t1, _, _⟩ := tf_later A3.out (bnext BR.out hb2)
                clear tc2 td2 hb2 C4 D4 G4
                go_wp2_with fail
                refine (CA.out k _ hlt).mono ?_
                rintro e w6 ⟨rfl, hb6⟩
                have G6 := hide (bnext G5.out hb6)
                have ⟨e0, e1, _, _⟩ := tf_later D5.out hb6
                have ⟨c0, c1, _, _⟩ := tf_later C5.out hb6
                clear d0 d1 t0 t1 hb6 C5 D5 G5
                go_wp2_with fail
                refine (CB.out k _ hlt).mono ?_
                rintro e w7 ⟨rfl, hb7⟩
                have G7 := hide (bnext G6.out hb7)
                clear e0 e1 c0 c1 hb7 G6
                have hf := hF.out k hlt
                have BX := hide (bnext BR.out G7.out)
                have fin : ∀ u v : Bool, decide (0 ≤ A k) = u → decide (0 < B k) = v → (bits BinOp.and IntKind.u8 ((S : Int) / 2 ^ k) 1 == 1) = (u && v) := fun u v e1 e2 => by rw [hf, e1, e2]
                have FIN := hide fin
                clear hf fin CN CA CB hF hH h1 h4 hlo hL0
                cases hu : decide (0 ≤ A k) with
                | true =>
                  cases hv : decide (0 < B k) with
                  | true =>
                    have hf : (bits BinOp.and IntKind.u8 ((S : Int) / 2 ^ k) 1 == 1) = true := FIN.out _ _ hu hv
                    go_wp2_with fail
                    go_roundw
                    case rel => exact ⟨k + 1, by omega, by go_num, BX.out⟩
                    case measure => simp [intOf]; omega
                  | false =>
                    have hf : (bits BinOp.and IntKind.u8 ((S : Int) / 2 ^ k) 1 == 1) = false := FIN.out _ _ hu hv
                    go_wp2_with fail
                    go_roundw
                    case rel => exact ⟨k + 1, by omega, by go_num, BX.out⟩
                    case measure => simp [intOf]; omega
                | false =>
                  have hf : (bits BinOp.and IntKind.u8 ((S : Int) / 2 ^ k) 1 == 1) = false := FIN.out _ _ hu rfl
                  go_wp2_with fail
                  go_roundw
                  case rel => exact ⟨k + 1, by omega, by go_num, BX.out⟩
                  case measure => simp [intOf]; omega
      · obtain rfl : k = 5 := by omega
        have B9 := hide (bnext B3.out hb)
        go_wp2_with fail
        refine (known5_any _).mono ?_
        rintro e w9 ⟨rfl, hb9⟩
        go_wp2_with fail
        go_ret
        exact ⟨rfl, bnext B9.out hb9⟩

theorem sgn3_ge {a b : Int} : 0 ≤ sgn3 a b ↔ b ≤ a := by
  unfold sgn3; split
  · omega
  · split <;> omega
theorem sgn3_gt {a b : Int} : 0 < sgn3 a b ↔ b < a := by
  unfold sgn3; split
  · omega
  · split <;> omega
/-- What a region is bounded by above, as a fraction: the border's High, or the greatest ratio. -/
def tpN (m : Mdl) (YS : Int) (k : Nat) : Int := if k < 4 then m.hi k else YS
def tpD (p : Int) (k : Nat) : Int := if k < 4 then 1 else p
def ovr (m : Mdl) (YS p : Int) (k : Nat) : Int := sgn3 (tpN m YS k * p) (YS * tpD p k)
def htN (m : Mdl) (YS p : Int) (k : Nat) : Int := if 0 < ovr m YS p k then YS else tpN m YS k
def htD (m : Mdl) (YS p : Int) (k : Nat) : Int := if 0 < ovr m YS p k then p else tpD p k
theorem reach_can {m : Mdl} (h : MdlOk m) {x y p q XS YS : Int} (x0 : 0 ≤ x) (xy : x ≤ y) (y1 : y ≤ 1000000) (p0 : 1 ≤ p) (pq : p ≤ q) (hX : x * m.s = XS) (hY : y * m.s = YS) (k : Nat) (hk : k < 5) :
    canB m (x, y) (p, q) k = (decide (0 ≤ sgn3 (htN m YS p k * q) (XS * htD m YS p k)) && decide (0 < sgn3 (htN m YS p k * 1) (sideL m k * htD m YS p k))) := by
  have s1 := h.s1
  have s2 := h.s2
  have X0 : 0 ≤ XS := by rw [← hX]; exact Int.mul_nonneg x0 (by omega)
  have XY : XS ≤ YS := by rw [← hX, ← hY]; exact Int.mul_le_mul_of_nonneg_right xy (by omega)
  have Y1 : YS ≤ 1000000 * 1000000 := by rw [← hY]; exact mul_le2 (by omega) y1 (by omega) s2
  have LF := sideL_far h k
  have M1 : XS * p ≤ YS * q := mul_le2 X0 XY (by omega) pq
  rw [Bool.eq_iff_iff]
  simp only [canB, abv, hX, hY, Bool.and_eq_true, decide_eq_true_eq, Bool.not_eq_true', decide_eq_false_iff_not, sgn3_ge, sgn3_gt]
  by_cases h4 : k < 4
  · have hh : sideH m k = m.hi k := by unfold sideH; rw [if_pos h4]
    have hp0 : 0 ≤ m.hi k := by have := h.lo0 k; have := h.lohi k; omega
    have M2 : m.hi k * p ≤ m.hi k * q := Int.mul_le_mul_of_nonneg_left pq hp0
    have M3 : sideL m k < m.hi k → sideL m k * p < m.hi k * p := fun e => Int.mul_lt_mul_of_pos_right e (by omega)
    have M4 : m.hi k ≤ sideL m k → m.hi k * p ≤ sideL m k * p := fun e => Int.mul_le_mul_of_nonneg_right e (by omega)
    rw [hh]
    by_cases ho : 0 < ovr m YS p k
    · have e1 : htN m YS p k = YS := by unfold htN; rw [if_pos ho]
      have e2 : htD m YS p k = p := by unfold htD; rw [if_pos ho]
      rw [e1, e2]
      have o := sgn3_gt.1 ho
      unfold tpN tpD at o
      rw [if_pos h4, if_pos h4] at o
      omega
    · have e1 : htN m YS p k = m.hi k := by unfold htN tpN; rw [if_neg ho, if_pos h4]
      have e2 : htD m YS p k = 1 := by unfold htD tpD; rw [if_neg ho, if_pos h4]
      rw [e1, e2]
      have o : ¬ (YS * tpD p k < tpN m YS k * p) := fun e => ho (sgn3_gt.2 e)
      unfold tpN tpD at o
      rw [if_pos h4, if_pos h4] at o
      omega
  · have hh : sideH m k = 1000000000000 := by unfold sideH; rw [if_neg h4]
    have M5 : (1000000000000 : Int) * 1 ≤ 1000000000000 * q := Int.mul_le_mul_of_nonneg_left (by omega) (by omega)
    have n0 : ¬ 0 < ovr m YS p k := by
      unfold ovr tpN tpD
      rw [if_neg h4, if_neg h4, sgn3_gt]
      omega
    have e1 : htN m YS p k = YS := by unfold htN tpN; rw [if_neg n0, if_neg h4]
    have e2 : htD m YS p k = p := by unfold htD tpD; rw [if_neg n0, if_neg h4]
    rw [e1, e2, hh]
    omega
theorem compare_at {an ad bn bd : Int} (a0 : -1000000000000000 ≤ an ∧ an ≤ 1000000000000000) (a1 : 1 ≤ ad ∧ ad ≤ 1000000000000000) (b0 : -1000000000000000 ≤ bn ∧ bn ≤ 1000000000000000) (b1 : 1 ≤ bd ∧ bd ≤ 1000000000000000) (w : World) :
    Calls Tryz.prog 44 #[.agg #[.int .i64 an, .int .i64 ad], .agg #[.int .i64 bn, .int .i64 bd]] w fun e w' => e = .returned (.tuple #[.int .i64 (sgn3 (an * bd) (bn * ad)), .int .i64 0]) ∧ Below w.heap.size w w' := by
  have c := compareFrac_any an ad bn bd w
  have f : frac2Ok an ad bn bd = true := by
    simp [frac2Ok, fracOk, allIn, isDiv]
    omega
  rwa [show compareQ an ad bn bd = (sgn3 (an * bd) (bn * ad), 0) by unfold compareQ; rw [if_pos f]] at c
set_option maxRecDepth 100000 in
set_option maxHeartbeats 3200000 in
theorem defectReached_bad (s a0 b0 a1 b1 a2 b2 a3 b3 x y p q : Int) (w : World) (h : regQ ⟨s, a0, b0, a1, b1, a2, b2, a3, b3⟩ (x, y) (p, q) = (0, 2)) :
    Calls Tryz.prog 10 #[.agg #[.int .i64 s, .int .i64 a0, .int .i64 b0, .int .i64 a1, .int .i64 b1, .int .i64 a2, .int .i64 b2, .int .i64 a3, .int .i64 b3, .int .i64 x, .int .i64 y, .int .i64 p, .int .i64 q]] w fun e w' => e = .returned (.bool true) ∧ Below w.heap.size w w' := by
  have RG := hide (fun W => (show Calls Tryz.prog 15 #[.agg #[.int .i64 s, .int .i64 a0, .int .i64 b0, .int .i64 a1, .int .i64 b1, .int .i64 a2, .int .i64 b2, .int .i64 a3, .int .i64 b3], .agg #[.int .i64 x, .int .i64 y], .agg #[.int .i64 p, .int .i64 q]] W fun e w' => e = .returned (.tuple #[.int .u8 0, .int .i64 2]) ∧ Below W.heap.size W w' by
    have c := bigRegions_any ⟨s, a0, b0, a1, b1, a2, b2, a3, b3⟩ x y p q W
    rw [h] at c
    exact c))
  clear h
  go_enter Tryz.func10, Tryz.ntmps10
  go_wp2_with fail
  refine (RG.out _).mono ?_
  rintro e w1 ⟨rfl, hb1⟩
  go_wp2_with fail
  refine (known5_any _).mono ?_
  rintro e w2 ⟨rfl, hb2⟩
  go_wp2_with fail
  go_ret
  exact ⟨rfl, (by repeat (first | exact Below.refl _ _ | assumption | apply balloc | apply bdrew | (refine below_drewN ?_ _) | (refine bset ?_ (by first | (simp; done) | omega | (simp; omega)) _) | (refine bnext ?_ (by assumption))))⟩
theorem defectReached_walk (m : Mdl) (x y p q : Int) (w : World) :
    Calls Tryz.prog 10 #[.agg #[.int .i64 m.s, .int .i64 m.a0, .int .i64 m.b0, .int .i64 m.a1, .int .i64 m.b1, .int .i64 m.a2, .int .i64 m.b2, .int .i64 m.a3, .int .i64 m.b3, .int .i64 x, .int .i64 y, .int .i64 p, .int .i64 q]] w fun e w' => e = .returned (.bool true) ∧ Below w.heap.size w w' := by
  by_cases hE : regE m (x, y) (p, q) = 0
  · have ok : mdlOk m = true ∧ rgOk 1000000 (x, y) = true ∧ grOk (p, q) = true := by
      unfold regE at hE
      cases h1 : mdlOk m
      · rw [h1] at hE; simp at hE
      · rw [h1] at hE
        cases h2 : rgOk 1000000 (x, y)
        · rw [h2] at hE; simp at hE
        · rw [h2] at hE
          cases h3 : grOk (p, q)
          · rw [h3] at hE; simp at hE
          · exact ⟨rfl, rfl, rfl⟩
    obtain ⟨o1, o2, o3⟩ := ok
    have hm := mdlOk_of o1
    have r2 : 0 ≤ x ∧ x ≤ y ∧ y ≤ 1000000 := by simpa [rgOk] using o2
    have r3 : 1 ≤ p ∧ p ≤ q ∧ q ≤ 1000000 := by simp [grOk, rgOk] at o3; omega
    have s1 := hm.s1
    have s2 := hm.s2
    obtain ⟨XS, hX⟩ : ∃ z, x * m.s = z := ⟨_, rfl⟩
    obtain ⟨YS, hY⟩ : ∃ z, y * m.s = z := ⟨_, rfl⟩
    have X0 : 0 ≤ XS := by rw [← hX]; exact Int.mul_nonneg r2.1 (by omega)
    have XY : XS ≤ YS := by rw [← hX, ← hY]; exact Int.mul_le_mul_of_nonneg_right r2.2.1 (by omega)
    have Y1 : YS ≤ 1000000 * 1000000 := by rw [← hY]; exact mul_le2 (by omega) r2.2.2 (by omega) s2
    have S32 : regN m (x, y) (p, q) < 32 := setN_lt _ 5
    have HB : ∀ k, 0 ≤ m.hi k ∧ m.hi k ≤ 1000000 := fun k => by have := hm.lo0 k; have := hm.lohi k; have := hm.hi0 k; omega
    have T1 : ∀ k, (-1000000000000000 ≤ tpN m YS k ∧ tpN m YS k ≤ 1000000000000000) ∧ 1 ≤ tpD p k ∧ tpD p k ≤ 1000000000000000 := fun k => by
      have := HB k
      unfold tpN tpD
      split <;> omega
    have T2 : ∀ k, (-1000000000000000 ≤ htN m YS p k ∧ htN m YS p k ≤ 1000000000000000) ∧ 1 ≤ htD m YS p k ∧ htD m YS p k ≤ 1000000000000000 := fun k => by
      have := T1 k
      unfold htN htD
      split <;> omega
    refine defectReached_good m.s m.a0 m.b0 m.a1 m.b1 m.a2 m.b2 m.a3 m.b3 x y p q XS YS (regN m (x, y) (p, q)) w (hide fun W => ?_) (sideL m) m.hi (tpN m YS) (tpD p) (htN m YS p) (htD m YS p)
      (fun k => sgn3 (htN m YS p k * q) (XS * htD m YS p k)) (fun k => sgn3 (htN m YS p k * 1) (sideL m k * htD m YS p k)) (ovr m YS p)
      (hide fun W q k h hk => ?_) (hide rfl) (hide fun k hk => ?_) (hide ⟨rfl, rfl⟩) (hide fun k W hk => ?_) (hide fun k hk => ⟨fun h => ?_, fun h => ?_⟩) (hide fun k W hk => ?_) (hide fun k W hk => ?_) (hide fun k hk => ?_) (hide ?_) (hide ?_)
    · have c := bigRegions_any m x y p q W
      rwa [show regQ m (x, y) (p, q) = (regN m (x, y) (p, q), 0) by unfold regQ; rw [if_pos hE]] at c
    · have e : sideL m (k + 1) = m.lo k := by unfold sideL; rw [if_neg (by omega)]; rfl
      rw [e]
      exact ⟨mdlAt_lo h k hk, mdlAt_hi h k hk⟩
    · unfold tpN tpD
      rw [if_pos hk, if_pos hk]
      exact ⟨rfl, rfl⟩
    · exact compare_at (T1 k).1 (T1 k).2 (by omega) (by omega) W
    · unfold htN htD
      rw [if_pos h, if_pos h]
      exact ⟨rfl, rfl⟩
    · unfold htN htD
      rw [if_neg h, if_neg h]
      exact ⟨rfl, rfl⟩
    · exact compare_at (T2 k).1 (T2 k).2 (by omega) (by omega) W
    · have := sideL_far hm k
      exact compare_at (T2 k).1 (T2 k).2 (by omega) (by omega) W
    · have iS := bit_is ⟨_, S32⟩ ⟨_, hk⟩
      simp only at iS
      rw [iS, ← reach_can hm r2.1 r2.2.1 r2.2.2 r3.1 r3.2.1 hX hY k hk]
      cases hc : canB m (x, y) (p, q) k with
      | true => rw [regN_bit hk hc]; rfl
      | false =>
        have : regN m (x, y) (p, q) / 2 ^ k % 2 = 0 := by
          rcases Nat.mod_two_eq_zero_or_one (regN m (x, y) (p, q) / 2 ^ k) with h | h
          · exact h
          · rw [regN_can hk h] at hc; cases hc
        rw [this]; rfl
    · rw [hX]; exact IntWalk.i64_in _ (by omega)
    · rw [hY]; exact IntWalk.i64_in _ (by omega)
  · have e : regQ m (x, y) (p, q) = (0, 2) := by
      have e2 : regE m (x, y) (p, q) = 2 := by
        unfold regE at hE ⊢
        split at hE
        · split at hE
          · exact absurd rfl hE
          · rename_i h1 h2; rw [if_pos h1, if_neg h2]
        · rename_i h1; rw [if_neg h1]
      unfold regQ
      rw [e2]; rfl
    exact defectReached_bad m.s m.a0 m.b0 m.a1 m.b1 m.a2 m.b2 m.a3 m.b3 x y p q w e
end Go.Proofs.YtlpdbjkpgfpjjaaGreat
