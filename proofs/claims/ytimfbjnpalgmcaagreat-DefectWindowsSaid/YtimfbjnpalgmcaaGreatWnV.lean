/-
  The reference of chapter 5: Window.
-/
import Derived.Test.YtimfbjnpalgmcaaGreatWnR
import Derived.Test.YtimfbjnpalgmcaaGreatWnN
namespace Go.Proofs.YtimfbjnpalgmcaaGreat
set_option linter.unusedSimpArgs false
set_option linter.unusedVariables false
open Go.RowKit

def RwPost (w : World) (L : List (Int × Int)) (e : Ending) (w' : World) : Prop := ∃ B v, w.heap.size ≤ B ∧ e = .returned v ∧ w'.ownsRow B 23 2 v L.length (rowOf L) ∧ Below w.heap.size w w'
theorem appC_len (L : List (Int × Int)) (r : Int × Int) : (appC L r).length ≤ L.length + 1 := by
  rcases List.eq_nil_or_concat L with hL | ⟨ds, z, hL⟩
  · subst hL; simp [appC]
  · have hL' : L = ds ++ [z] := by simpa using hL
    subst hL'
    rw [appC_snoc]
    split <;> simp
set_option maxRecDepth 100000 in
set_option maxHeartbeats 12800000 in
theorem refWindow_go (s' a0 b0 a1 b1 a2 b2 a3 b3 s : Int) (zs F : List (Int × Int)) (nx : Int → Int) (good : Int → Bool) (EW : Int → Int × Int) (a : Option Addr) (cap : Nat) (w : World)
    (NX : Hid (∀ W v, 0 ≤ v → v ≤ 1000000 → Below w.heap.size w W → Calls Tryz.prog 68 #[.agg #[.int .i64 s', .int .i64 a0, .int .i64 b0, .int .i64 a1, .int .i64 b1, .int .i64 a2, .int .i64 b2, .int .i64 a3, .int .i64 b3], .slice a zs.length cap, .int .i64 v] W fun e w' => e = .returned (.int .i64 (nx v)) ∧ Below W.heap.size W w'))
    (WY : Hid (∀ W v, 0 ≤ v → v ≤ 1000000 → Below w.heap.size w W → Calls Tryz.prog 29 #[.agg #[.int .i64 s', .int .i64 a0, .int .i64 b0, .int .i64 a1, .int .i64 b1, .int .i64 a2, .int .i64 b2, .int .i64 a3, .int .i64 b3], .slice a zs.length cap, .int .u8 s, .int .i64 v] W fun e w' => e = .returned (.tuple #[.int .i64 (EW v).1, .int .i64 (EW v).2]) ∧ Below W.heap.size W w'))
    (GE : Hid (∀ v, 0 ≤ v → v ≤ 1000000 → good v = decide ((EW v).1 < 0))) (NB : Hid (∀ v, 0 ≤ v → v ≤ 1000000 → v < nx v ∧ nx v ≤ 1000001)) (HF : Hid (∃ n : Nat, 1000001 ≤ (n : Int) ∧ refW nx good n 0 [] = F)) :
    Calls Tryz.prog 28 #[.agg #[.int .i64 s', .int .i64 a0, .int .i64 b0, .int .i64 a1, .int .i64 b1, .int .i64 a2, .int .i64 b2, .int .i64 a3, .int .i64 b3], .slice a zs.length cap, .int .u8 s] w (RwPost w F) := by
  go_enter Tryz.func28, Tryz.ntmps28
  go_upto_region 1 with fail
  obtain ⟨w0, hw0⟩ : ∃ z, z = w.alloc (.cells #[.int .i64 s', .int .i64 a0, .int .i64 b0, .int .i64 a1, .int .i64 b1, .int .i64 a2, .int .i64 b2, .int .i64 a3, .int .i64 b3] 26) := ⟨_, rfl⟩
  rw [← hw0]
  have B0 := hide (show Below w.heap.size w w0 by rw [hw0]; exact (by repeat (first | exact Below.refl _ _ | assumption | apply balloc | apply bdrew | (refine below_drewN ?_ _) | (refine bset ?_ (by first | (simp; done) | omega | (simp; omega)) _) | (refine bnext ?_ (by assumption)))))
  have M0 := hide (show MdlAt w0 w.heap.size ⟨s', a0, b0, a1, b1, a2, b2, a3, b3⟩ by rw [hw0]; exact mdlAt_new w ⟨s', a0, b0, a1, b1, a2, b2, a3, b3⟩ 26)
  clear hw0
  go_upto_region 2 with fail
  obtain ⟨w1, hw1⟩ : ∃ z, z = w0.alloc (.cells #[] 23) := ⟨_, rfl⟩
  rw [← hw1]
  have O1 := hide (show w1.ownsRow w0.heap.size 23 2 (.slice (some ⟨w0.heap.size, 0, none⟩) 0 0) 0 (rowOf []) by
    rw [hw1]
    exact World.ownsRow_lit (base := w0.heap.size) (e := 23) (size := 2) w0 #[] 0 (Nat.le_refl _) (by unfold maxLen; omega) rfl)
  have B1 := hide (show Below w0.heap.size w0 w1 by rw [hw1]; exact (by repeat (first | exact Below.refl _ _ | assumption | apply balloc | apply bdrew | (refine below_drewN ?_ _) | (refine bset ?_ (by first | (simp; done) | omega | (simp; omega)) _) | (refine bnext ?_ (by assumption)))))
  clear hw1
  go_upto_region 3 with fail
  go_loopw [7, 8] (fun u i wr => ∃ (v : Int) (L : List (Int × Int)), (0 ≤ v ∧ v ≤ 1000001) ∧ i = .int .i64 v ∧ Hid (wr.ownsRow w0.heap.size 23 2 u L.length (rowOf L)) ∧ Hid ((L.length : Int) ≤ v) ∧ Hid (∃ n : Nat, 1000001 - v ≤ (n : Int) ∧ refW nx good n v L = F) ∧ Below w0.heap.size w0 wr) (fun _ i _ => (1000001 - intOf i).toNat)
  case atStart => exact ⟨0, [], by omega, rfl, O1, hide (by simp), HF, B1.out⟩
  case round =>
    obtain ⟨v, L, ⟨v0, v1⟩, rfl, hown, hlen, hF, hbw⟩ := hrel
    have BR := hide hbw
    by_cases hlt : v ≤ 1000000
    · have d : decide (v ≤ 1000000) = true := decide_eq_true hlt
      have NV := NB.out v v0 hlt
      have GV := hide (GE.out v v0 hlt)
      have STP := hide (show ∃ n : Nat, 1000001 - nx v ≤ (n : Int) ∧ refW nx good n (nx v) (if good v then appC L (v, nx v - 1) else L) = F by
        obtain ⟨n, h1, h2⟩ := hF.out
        obtain ⟨n', rfl⟩ : ∃ n', n = n' + 1 := ⟨n - 1, by omega⟩
        refine ⟨n', by omega, ?_⟩
        rw [← h2]
        show _ = (if v ≤ 1000000 then refW nx good n' (nx v) (if good v then appC L (v, nx v - 1) else L) else L)
        rw [if_pos hlt])
      have NX' := hide (fun W hb => NX.out W v v0 hlt hb)
      have WY' := hide (fun W hb => WY.out W v v0 hlt hb)
      have ⟨⟨⟨⟨m1', m2⟩, m3⟩, m4, m5⟩, ⟨m6, m7⟩, m8, m9⟩ := mdlAt_later M0.out hbw
      simp only at m1' m2 m3 m4 m5 m6 m7 m8 m9
      clear hbw hF
      generalize nx v = te at *
      generalize (EW v).1 = e1 at *
      generalize (EW v).2 = e2 at *
      generalize good v = gv at *
      go_wp2_with fail
      refine (NX'.out _ (bnext B0.out BR.out)).mono ?_
      rintro e wa ⟨rfl, hba⟩
      have BA := hide (bnext BR.out hba)
      have OA := hide (owns_later hown.out hba)
      clear m1' m2 m3 m4 m5 m6 m7 m8 m9 hba hown NX'
      have ⟨⟨⟨⟨m1', m2⟩, m3⟩, m4, m5⟩, ⟨m6, m7⟩, m8, m9⟩ := mdlAt_later M0.out BA.out
      simp only at m1' m2 m3 m4 m5 m6 m7 m8 m9
      go_wp2_with fail
      refine (WY'.out _ (bnext B0.out BA.out)).mono ?_
      rintro e wb ⟨rfl, hbb⟩
      have BB := hide (bnext BA.out hbb)
      have OB := hide (owns_later OA.out hbb)
      clear m1' m2 m3 m4 m5 m6 m7 m8 m9 hbb OA WY' d
      have tw : wrap64 (te - 1) = te - 1 := (IntWalk.i64_left _).symm.trans (IntWalk.i64_in _ (by omega))
      have vw : wrap64 (v - 1) = v - 1 := (IntWalk.i64_left _).symm.trans (IntWalk.i64_in _ (by omega))
      have LN := hide (show (((if gv then appC L (v, te - 1) else L).length : Nat) : Int) ≤ te by
        have := appC_len L (v, te - 1)
        have := hlen.out
        split <;> omega)
      have TB := hide (show 0 ≤ te ∧ te ≤ 1000001 by omega)
      have SB := hide (show w0.heap.size ≤ wb.heap.size from BB.out.size)
      cases gv with
      | false =>
        have de : decide (e1 < 0) = false := GV.out.symm
        simp only [Bool.false_eq_true, if_false] at STP LN
        clear GV
        go_wp2_with fail
        go_roundw
        case rel => exact ⟨te, L, TB.out, rfl, OB, LN, STP, BB.out⟩
        case measure => simp [intOf]; omega
      | true =>
        have de : decide (e1 < 0) = true := GV.out.symm
        simp only [if_true] at STP LN
        clear GV
        have MS := hide (show (1000001 - te).toNat < (1000001 - v).toNat by omega)
        have LL := hide (show L.length ≤ 1000000 by have := hlen.out; omega)
        rcases List.eq_nil_or_concat L with hL | ⟨ds, z, hL⟩
        · as_aux_lemma =>
          obtain rfl : L = [] := hL
          obtain ⟨b9, c9, rfl, _, _⟩ := own_pairs OB.out
          have HE2 := hide (show appC [] (v, te - 1) = [(v, te - 1)] from rfl)
          have O3 := hide (show wb.ownsRow w0.heap.size 23 2 (.slice b9 0 c9) 0 (rowOf []) from OB.out)
          clear OB NV
          go_wp2_with (at_builtin; refine wpList_append_rg rfl (.tmp 52) (.tmp 57) rfl w0.heap.size _ [] rfl (O3.out.alloc _) _ v (te - 1) rfl ?_ ?_ ?_ ?_ ?_)
          · exact (by simp [go_sem, World.cell?_alloc_past])
          · exact (by simp [go_sem, World.cell?_alloc_past])
          · simp
          · have := SB.out; simp; omega
          · intro g3 gc3 w3 hown3 hgrow hx3 hlt3
            have B3 := hide (Below.grown (balloc (o := .cells #[.int .i64 v, .int .i64 (te - 1)] 23) BB.out) hgrow (by have := SB.out; simp; omega) (fun k' hk' => (O3.out.lt k' hk').1))
            have N3 := hide hown3
            clear hown3 hgrow hx3
            go_wp2_with fail
            go_roundw
            case rel => exact ⟨te, appC [] (v, te - 1), TB.out, rfl, hide (by rw [HE2.out]; exact N3.out), LN, STP, B3.out⟩
            case measure => (show (1000001 - te).toNat < (1000001 - v).toNat); exact MS.out
        · as_aux_lemma =>
          obtain rfl : L = ds ++ [z] := by simpa using hL
          have dl : ds.length + 1 ≤ 1000000 := by have := LL.out; simpa using this
          obtain ⟨g9, c9, rfl, hgb, hglt⟩ := OB.out.form (by simp)
          have O3 := hide (show wb.ownsRow w0.heap.size 23 2 (.slice (some ⟨g9, 0, none⟩) (ds.length + 1) c9) (ds.length + 1) (rowOf (ds ++ [z])) by have c := OB.out; simp only [List.length_append, List.length_singleton] at c; exact c)
          have HE2 := hide (show appC (ds ++ [z]) (v, te - 1) = if z.2 = v - 1 then ds ++ [(z.1, te - 1)] else (ds ++ [z]) ++ [(v, te - 1)] from appC_snoc ds z (v, te - 1))
          have c2 := O3.out.cellAt (ds.length * 2 + 1) (by omega)
          rw [rowOf_get2] at c2
          have f2 := O3.out.frozenAt (ds.length * 2 + 1)
          have ST := hide (O3.out.stored (ds.length * 2 + 1) (.int .i64 (te - 1))).1
          rw [rowOf_set] at ST
          obtain ⟨z1, z2⟩ := z
          simp only at c2 HE2 ST
          have hm0 : (0 : Int) ≤ (ds.length : Int) := by omega
          have hm1 : (ds.length : Int) < (ds.length : Int) + 1 := by omega
          have hm2 : (0 : Int) < (ds.length : Int) + 1 := by omega
          have hwk : IntKind.wrap .i64 (ds.length : Int) = ds.length := IntWalk.i64_in _ (by omega)
          have HGB := hide (And.intro hgb hglt)
          have HDL := hide dl
          simp only [List.length_append, List.length_singleton]
          clear OB hgb hglt dl hL NV
          by_cases hz : z2 = v - 1
          · have dz : (z2 == v - 1) = true := by simpa using hz
            have HE3 := hide (show appC (ds ++ [(z1, z2)]) (v, te - 1) = ds ++ [(z1, te - 1)] by rw [HE2.out, if_pos hz])
            clear hz HE2
            have BS := hide (show Below w0.heap.size w0 (wb.setCell ⟨g9, ds.length * 2 + 1, none⟩ (.int .i64 (te - 1))) from bset BB.out HGB.out.1 _)
            go_wp2_with fail
            go_roundw
            case rel => exact ⟨te, appC (ds ++ [(z1, z2)]) (v, te - 1), TB.out, rfl, hide (by rw [HE3.out]; have c := ST.out; simp only [List.length_append, List.length_singleton]; exact c), LN, STP, BS.out⟩
            case measure => (show (1000001 - te).toNat < (1000001 - v).toNat); exact MS.out
          · have dz : (z2 == v - 1) = false := by simpa using hz
            have HE3 := hide (show appC (ds ++ [(z1, z2)]) (v, te - 1) = (ds ++ [(z1, z2)]) ++ [(v, te - 1)] by rw [HE2.out, if_neg hz])
            clear hz HE2
            go_wp2_with (at_builtin; refine wpList_append_rg rfl (.tmp 52) (.tmp 57) rfl w0.heap.size _ (ds ++ [(z1, z2)]) rfl ((show wb.ownsRow w0.heap.size 23 2 (.slice (some ⟨g9, 0, none⟩) (ds.length + 1) c9) (ds ++ [(z1, z2)]).length (rowOf (ds ++ [(z1, z2)])) by simpa using O3.out).alloc _) _ v (te - 1) rfl ?_ ?_ ?_ ?_ ?_)
            · exact (by simp [go_sem, World.cell?_alloc_past])
            · exact (by simp [go_sem, World.cell?_alloc_past])
            · have := HDL.out; simp; omega
            · have := SB.out; simp; omega
            · intro g3 gc3 w3 hown3 hgrow hx3 hlt3
              have B3 := hide (Below.grown (balloc (o := .cells #[.int .i64 v, .int .i64 (te - 1)] 23) BB.out) hgrow (by have := SB.out; simp; omega) (fun k' hk' => (O3.out.lt k' hk').1))
              have N3 := hide (show w3.ownsRow w0.heap.size 23 2 (.slice (some ⟨g3, 0, none⟩) ((ds ++ [(z1, z2)]).length + 1) gc3) ((ds ++ [(z1, z2)]) ++ [(v, te - 1)]).length (rowOf ((ds ++ [(z1, z2)]) ++ [(v, te - 1)])) by simpa using hown3)
              clear hown3 hgrow hx3 c2 f2
              go_wp2_with fail
              go_roundw
              case rel => exact ⟨te, appC (ds ++ [(z1, z2)]) (v, te - 1), TB.out, rfl, hide (by rw [HE3.out]; have c := N3.out; simp only [List.length_append, List.length_singleton] at c ⊢; exact c), LN, STP, B3.out⟩
              case measure => (show (1000001 - te).toNat < (1000001 - v).toNat); exact MS.out
    · have d : decide (v ≤ 1000000) = false := decide_eq_false hlt
      have E := hide (show L = F by
        obtain ⟨n, _, h2⟩ := hF.out
        rw [← h2]
        cases n with
        | zero => rfl
        | succ n => show _ = (if v ≤ 1000000 then _ else L); rw [if_neg hlt])
      obtain rfl := E.out
      have O9 := hide hown.out
      have B9 := hide hbw
      go_wp2_with fail
      exact bodyPost_ret (by simp [results, Tryz.results28, go_sem]) rfl ⟨_, _, B0.out.size, rfl, O9.out, bnext B0.out B9.out⟩
end Go.Proofs.YtimfbjnpalgmcaaGreat
