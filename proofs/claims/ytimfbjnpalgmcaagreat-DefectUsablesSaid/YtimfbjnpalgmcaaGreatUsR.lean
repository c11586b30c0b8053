/-
  The reference of chapter 5: Usable.
-/
import Derived.Test.YtimfbjnpalgmcaaGreatSlR
import Derived.Test.YtimfbjnpalgmcaaGreatDfO
namespace Go.Proofs.YtimfbjnpalgmcaaGreat
set_option linter.unusedSimpArgs false
set_option linter.unusedVariables false
set_option linter.unusedSimpArgs false
set_option linter.unusedVariables false
open Go.RowKit

def UrPost (w : World) (L : List (Int × Int)) (e : Ending) (w' : World) : Prop := ∃ B v, w.heap.size ≤ B ∧ e = .returned v ∧ w'.ownsRow B 23 2 v L.length (rowOf L) ∧ Below w.heap.size w w'
set_option maxRecDepth 100000 in
set_option maxHeartbeats 12800000 in
theorem refUsable_go (s a0 b0 a1 b1 a2 b2 a3 b3 off sw x y : Int) (rs zs fs : List (Int × Int)) (ra za fa : Option Addr) (rc zc fc m : Nat) (P : Int → Nat → Nat) (fine : Int → Bool) (w : World) (x0 : 0 ≤ x) (y1 : y ≤ 3000) (xy : x ≤ y) (m0 : 0 < m) (m1 : m ≤ 20)
    (hf : Hid (∀ k, fine k = wantQ (P k) sw m))
    (EN : Hid (∀ W, Below w.heap.size w W → Calls Tryz.prog 37 #[.agg #[.slice ra rs.length rc, .int .i64 off, .slice za zs.length zc, .slice fa fs.length fc]] W fun e w' => e = .returned (.tuple #[.int .i64 x, .int .i64 y]) ∧ Below W.heap.size W w'))
    (SL : Hid (∀ W k, x ≤ k → k < y → Below w.heap.size w W → Calls Tryz.prog 76 #[.agg #[.int .i64 s, .int .i64 a0, .int .i64 b0, .int .i64 a1, .int .i64 b1, .int .i64 a2, .int .i64 b2, .int .i64 a3, .int .i64 b3], .agg #[.slice ra rs.length rc, .int .i64 off, .slice za zs.length zc, .slice fa fs.length fc], .int .i64 k, .int .i64 (k + 1)] W (SlPost W m (P k)))) :
    Calls Tryz.prog 39 #[.agg #[.int .i64 s, .int .i64 a0, .int .i64 b0, .int .i64 a1, .int .i64 b1, .int .i64 a2, .int .i64 b2, .int .i64 a3, .int .i64 b3], .agg #[.slice ra rs.length rc, .int .i64 off, .slice za zs.length zc, .slice fa fs.length fc], .int .u8 sw] w (UrPost w (usaN fine x (y - x).toNat)) := by
  go_enter Tryz.func39, Tryz.ntmps39
  go_upto_region 1 with fail
  obtain ⟨w0, hw0⟩ : ∃ z, z = (w.alloc (.cells #[.int .i64 s, .int .i64 a0, .int .i64 b0, .int .i64 a1, .int .i64 b1, .int .i64 a2, .int .i64 b2, .int .i64 a3, .int .i64 b3] 26)).alloc (.cells #[.slice ra rs.length rc, .int .i64 off, .slice za zs.length zc, .slice fa fs.length fc] 58) := ⟨_, rfl⟩
  rw [← hw0]
  have B0 := hide (show Below w.heap.size w w0 by rw [hw0]; exact (by repeat (first | exact Below.refl _ _ | assumption | apply balloc | apply bdrew | (refine below_drewN ?_ _) | (refine bset ?_ (by first | (simp; done) | omega | (simp; omega)) _) | (refine bnext ?_ (by assumption)))))
  have M0 := hide (show MdlAt w0 w.heap.size ⟨s, a0, b0, a1, b1, a2, b2, a3, b3⟩ by rw [hw0]; exact mdlAt_later (mdlAt_new w ⟨s, a0, b0, a1, b1, a2, b2, a3, b3⟩ 26) (balloc (Below.refl _ _)))
  have G0 := hide (show GrAt w0 (w.heap.size + 1) ⟨rs, off, zs, fs⟩ ⟨ra, rc, za, zc, fa, fc⟩ by rw [hw0]; refine ⟨⟨?_, ?_⟩, ?_, ?_⟩ <;> exact (by simp [go_sem, World.cell?_alloc_past]))
  clear hw0
  go_upto_region 2 with fail
  obtain ⟨w1, hw1⟩ : ∃ z, z = w0.alloc (.cells #[] 23) := ⟨_, rfl⟩
  rw [← hw1]
  have O1 := hide (show w1.ownsRow w0.heap.size 23 2 (.slice (some ⟨w0.heap.size, 0, none⟩) 0 0) 0 [] by
    rw [hw1]
    exact World.ownsRow_lit (base := w0.heap.size) (e := 23) (size := 2) w0 #[] 0 (Nat.le_refl _) (by unfold maxLen; omega) rfl)
  have B1 := hide (show Below w0.heap.size w0 w1 by rw [hw1]; exact (by repeat (first | exact Below.refl _ _ | assumption | apply balloc | apply bdrew | (refine below_drewN ?_ _) | (refine bset ?_ (by first | (simp; done) | omega | (simp; omega)) _) | (refine bnext ?_ (by assumption)))))
  clear hw1
  have ⟨⟨g1, g2⟩, g3, g4⟩ := grAt_later G0.out B1.out
  simp only at g1 g2 g3 g4
  go_wp2_with fail
  refine (EN.out _ (bnext B0.out B1.out)).mono ?_
  rintro e wD ⟨rfl, hbD⟩
  have BD := hide (bnext B1.out hbD)
  have OD := hide (owns_later O1.out hbD)
  clear g1 g2 g3 g4 hbD O1 B1 EN
  go_upto_region 4 with fail
  go_loopw [7, 10] (fun v i wr => ∃ n : Nat, x + n ≤ y ∧ i = .int .i64 (x + n) ∧ Hid (wr.ownsRow w0.heap.size 23 2 v (usaN fine x n).length (rowOf (usaN fine x n))) ∧ Below w0.heap.size w0 wr) (fun _ i _ => (y - intOf i).toNat)
  case atStart => exact ⟨0, by omega, by simp, hide OD.out, BD.out⟩
  case round =>
    obtain ⟨n, hn, rfl, hown, hbw⟩ := hrel
    obtain ⟨k, hk⟩ : ∃ k, x + n = k := ⟨_, rfl⟩
    rw [hk] at hn
    have HK := hide hk
    clear hk
    rw [HK.out]
    by_cases hlt : k < y
    · have d : decide (k < y) = true := decide_eq_true hlt
      have BR := hide hbw
      have ⟨⟨g1, g2⟩, g3, g4⟩ := grAt_later G0.out hbw
      have ⟨⟨⟨⟨m1', m2⟩, m3⟩, m4, m5⟩, ⟨m6, m7⟩, m8, m9⟩ := mdlAt_later M0.out hbw
      simp only at g1 g2 g3 g4 m1' m2 m3 m4 m5 m6 m7 m8 m9
      have kb0 : 0 ≤ k := by have := HK.out; omega
      have kb1 : k < 3000 := by omega
      have kw : IntKind.i64.wrap (k + 1) = k + 1 := IntWalk.i64_in _ (by omega)
      have HS := hide (show usaN fine x (n + 1) = if fine k then appR (usaN fine x n) (k, k + 1) else usaN fine x n by rw [← HK.out]; rfl)
      have HLn := hide (usaN_len fine x n)
      have HN1 := hide (show k + 1 = x + ((n + 1 : Nat) : Int) by have := HK.out; omega)
      have HF := hide (hf.out k)
      have SK := hide (fun W (hb : Below w.heap.size w W) => SL.out W k (by have := HK.out; omega) hlt hb)
      have HY := hide (show k + 1 ≤ y by omega)
      clear hbw
      generalize fine k = fk at *
      generalize usaN fine x n = L at *
      go_wp2_with fail
      refine (SK.out _ (bnext B0.out BR.out)).mono ?_
      rintro e wA ⟨BS, v, hBS, rfl, hrow, hbA⟩
      obtain ⟨g, gc, rfl, _, _⟩ := hrow.form m0
      have RW := hide (fun j (hj : j < m) => (show wA.cell? ⟨g, j, none⟩ = some (.int .u8 (P k j : Int)) by
        rw [hrow.cellAt j (by omega), List.getElem?_map, List.getElem?_range hj]; rfl))
      have O2 := hide (owns_later hown.out hbA)
      have BW2 := hide (bnext BR.out hbA)
      have SB2 := hide (show w0.heap.size ≤ wA.heap.size from BW2.out.size)
      clear g1 g2 g3 g4 m1' m2 m3 m4 m5 m6 m7 m8 m9 hrow hBS hbA hown SK
      go_upto_region 9 with fail
      go_loopw [11, 13] (fun f i wq => ∃ j : Nat, j ≤ m ∧ i = .int .i64 (j : Int) ∧ f = .bool ((List.range j).all fun t => bits BinOp.andNot IntKind.u8 (P k t : Int) sw == 0) ∧ wq = wA) (fun _ i _ => m - (intOf i).toNat)
      case atStart => exact ⟨0, by omega, rfl, by simp, rfl⟩
      case round =>
        obtain ⟨j, hj, rfl, rfl, rfl⟩ := hrel
        by_cases hjt : j < m
        · as_aux_lemma =>
          have c := RW.out j hjt
          have j0 : 0 ≤ (j : Int) := by omega
          have j1 : (j : Int) < (m : Int) := by omega
          have ST := hide (show ((List.range (j + 1)).all fun t => bits BinOp.andNot IntKind.u8 (P k t : Int) sw == 0) = (((List.range j).all fun t => bits BinOp.andNot IntKind.u8 (P k t : Int) sw == 0) && (bits BinOp.andNot IntKind.u8 (P k j : Int) sw == 0)) by
            rw [List.range_succ, List.all_append]; simp)
          generalize ((List.range j).all fun t => bits BinOp.andNot IntKind.u8 (P k t : Int) sw == 0) = fl at *
          generalize P k j = pj at *
          cases fl with
          | false =>
            go_wp2_with fail
            go_roundw
            case rel => exact ⟨j + 1, by omega, by go_num, by rw [ST.out]; rfl, trivial⟩
            case measure => simp [intOf]; omega
          | true =>
            cases hb : (bits BinOp.andNot IntKind.u8 (pj : Int) sw == 0) with
            | true =>
              go_wp2_with fail
              go_roundw
              case rel => exact ⟨j + 1, by omega, by go_num, by rw [ST.out, hb]; rfl, trivial⟩
              case measure => simp [intOf]; omega
            | false =>
              go_wp2_with fail
              go_roundw
              case rel => exact ⟨j + 1, by omega, by go_num, by rw [ST.out, hb]; rfl, trivial⟩
              case measure => simp [intOf]; omega
        · obtain rfl : j = m := by omega
          rw [show ((List.range j).all fun t => bits BinOp.andNot IntKind.u8 (P k t : Int) sw == 0) = fk from HF.out.symm]
          clear HF RW
          cases fk with
          | false =>
            have HE := hide (show usaN fine x (n + 1) = L from HS.out)
            go_wp2_with fail
            go_roundw
            case rel => exact ⟨n + 1, by have := HN1.out; have := HY.out; omega, by rw [HN1.out], hide (by rw [HE.out]; exact O2.out), BW2.out⟩
            case measure => simp [intOf]; omega
          | true =>
            have HE := hide (show usaN fine x (n + 1) = appR L (k, k + 1) from HS.out)
            rcases List.eq_nil_or_concat L with hL | ⟨ds, z, hL⟩
            · as_aux_lemma =>
              obtain rfl : L = [] := hL
              obtain ⟨b9, c9, rfl, _, _⟩ := own_pairs O2.out
              have HE2 := hide (show usaN fine x (n + 1) = [(k, k + 1)] from HE.out)
              have O3 := hide (show wr.ownsRow w0.heap.size 23 2 (.slice b9 0 c9) 0 (rowOf []) from O2.out)
              clear HE HS O2
              go_wp2_with (at_builtin; refine wpList_append_rg rfl (.tmp 72) (.tmp 77) rfl w0.heap.size _ [] rfl (O3.out.alloc _) _ k (k + 1) rfl ?_ ?_ ?_ ?_ ?_)
              · have := SB2.out; omega
              · intro g3 gc3 w3 hown3 hgrow hx3 hlt3
                have B3 := hide (Below.grown (balloc (o := .cells #[.int .i64 k, .int .i64 (k + 1)] 23) BW2.out) hgrow (by have := SB2.out; simp; omega) (fun k' hk' => (O3.out.lt k' hk').1))
                have N3 := hide hown3
                clear hown3 hgrow hx3
                go_wp2_with fail
                go_roundw
                case rel => exact ⟨n + 1, by have := HN1.out; have := HY.out; omega, by rw [HN1.out], hide (by rw [HE2.out]; exact N3.out), B3.out⟩
                case measure => simp [intOf]; omega
            · as_aux_lemma =>
              obtain rfl : L = ds ++ [z] := by simpa using hL
              have dl : ds.length + 1 ≤ n := by have := HLn.out; simpa using this
              have hn3 : n ≤ 3000 := by have := HK.out; omega
              obtain ⟨g9, c9, rfl, hgb, hglt⟩ := O2.out.form (by simp)
              have O3 := hide (show wr.ownsRow w0.heap.size 23 2 (.slice (some ⟨g9, 0, none⟩) (ds.length + 1) c9) (ds.length + 1) (rowOf (ds ++ [z])) by have c := O2.out; simp only [List.length_append, List.length_singleton] at c; exact c)
              have HE2 := hide (show usaN fine x (n + 1) = if k = z.2 then ds ++ [(z.1, k + 1)] else (ds ++ [z]) ++ [(k, k + 1)] by rw [HE.out, appR_snoc])
              have c2 := O3.out.cellAt (ds.length * 2 + 1) (by omega)
              rw [rowOf_get2] at c2
              have f2 := O3.out.frozenAt (ds.length * 2 + 1)
              have ST := hide (O3.out.stored (ds.length * 2 + 1) (.int .i64 (k + 1))).1
              rw [rowOf_set] at ST
              obtain ⟨z1, z2⟩ := z
              simp only at c2 HE2 ST
              have hm0 : (0 : Int) ≤ (ds.length : Int) := by omega
              have hm1 : (ds.length : Int) < (ds.length : Int) + 1 := by omega
              have hm2 : (0 : Int) < (ds.length : Int) + 1 := by omega
              have hwk : IntKind.wrap .i64 (ds.length : Int) = ds.length := IntWalk.i64_in _ (by omega)
              have HGB := hide (And.intro hgb hglt)
              have HDL := hide dl
              simp only [List.length_append, List.length_singleton]
              clear HE HS O2 hgb hglt dl hL
              by_cases hz : k = z2
              · have dz : (z2 == k) = true := by simpa using hz.symm
                have HE3 := hide (show usaN fine x (n + 1) = ds ++ [(z1, k + 1)] by rw [HE2.out, if_pos hz])
                clear hz HE2
                have BS := hide (show Below w0.heap.size w0 (wr.setCell ⟨g9, ds.length * 2 + 1, none⟩ (.int .i64 (k + 1))) from bset BW2.out HGB.out.1 _)
                go_wp2_with fail
                go_roundw
                case rel => exact ⟨n + 1, by have := HN1.out; have := HY.out; omega, by rw [HN1.out], hide (by rw [HE3.out]; have c := ST.out; simp only [List.length_append, List.length_singleton]; exact c), BS.out⟩
                case measure => simp [intOf]; omega
              · have dz : (z2 == k) = false := by simpa using fun e => hz e.symm
                have HE3 := hide (show usaN fine x (n + 1) = (ds ++ [(z1, z2)]) ++ [(k, k + 1)] by rw [HE2.out, if_neg hz])
                clear hz HE2
                go_wp2_with (at_builtin; refine wpList_append_rg rfl (.tmp 72) (.tmp 77) rfl w0.heap.size _ (ds ++ [(z1, z2)]) rfl ((show wr.ownsRow w0.heap.size 23 2 (.slice (some ⟨g9, 0, none⟩) (ds.length + 1) c9) (ds ++ [(z1, z2)]).length (rowOf (ds ++ [(z1, z2)])) by simpa using O3.out).alloc _) _ k (k + 1) rfl ?_ ?_ ?_ ?_ ?_)
                · exact (by simp [go_sem, World.cell?_alloc_past])
                · exact (by simp [go_sem, World.cell?_alloc_past])
                · have := HDL.out; simp; omega
                · have := SB2.out; simp; omega
                · intro g3 gc3 w3 hown3 hgrow hx3 hlt3
                  have B3 := hide (Below.grown (balloc (o := .cells #[.int .i64 k, .int .i64 (k + 1)] 23) BW2.out) hgrow (by have := SB2.out; simp; omega) (fun k' hk' => (O3.out.lt k' hk').1))
                  have N3 := hide (show w3.ownsRow w0.heap.size 23 2 (.slice (some ⟨g3, 0, none⟩) ((ds ++ [(z1, z2)]).length + 1) gc3) ((ds ++ [(z1, z2)]) ++ [(k, k + 1)]).length (rowOf ((ds ++ [(z1, z2)]) ++ [(k, k + 1)])) by simpa using hown3)
                  clear hown3 hgrow hx3 c2 f2
                  go_wp2_with fail
                  go_roundw
                  case rel => exact ⟨n + 1, by have := HN1.out; have := HY.out; omega, by rw [HN1.out], hide (by rw [HE3.out]; have c := N3.out; simp only [List.length_append, List.length_singleton] at c ⊢; exact c), B3.out⟩
                  case measure => simp [intOf]; omega
    · have d : decide (k < y) = false := decide_eq_false hlt
      obtain rfl : (y - x).toNat = n := by have := HK.out; omega
      have O9 := hide hown.out
      have B9 := hide hbw
      go_wp2_with fail
      exact bodyPost_ret (by simp [results, Tryz.results39, go_sem]) rfl ⟨_, _, B0.out.size, rfl, O9.out, bnext B0.out B9.out⟩
end Go.Proofs.YtimfbjnpalgmcaaGreat
