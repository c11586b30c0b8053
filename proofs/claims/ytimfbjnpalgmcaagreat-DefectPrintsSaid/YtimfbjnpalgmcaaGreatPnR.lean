/-
  The reference of chapter 5: Print.
-/
import Derived.Test.YtimfbjnpalgmcaaGreatPnA
namespace Go.Proofs.YtimfbjnpalgmcaaGreat
set_option linter.unusedSimpArgs false
set_option linter.unusedVariables false
open Go.RowKit

def RnPost (w : World) (n m : Nat) (P : Nat → Nat → Nat) (e : Ending) (w' : World) : Prop := ∃ v f, e = .returned v ∧ SetsAt w' w.heap.size v n m f P ∧ Below w.heap.size w w'
set_option maxRecDepth 100000 in
set_option maxHeartbeats 6400000 in
theorem refPrint_go (s a0 b0 a1 b1 a2 b2 a3 b3 off : Int) (rs zs fs : List (Int × Int)) (cs : List Int) (ra za fa a : Option Addr) (rc zc fc cp n m : Nat) (P : Nat → Nat → Nat) (w : World) (hn : cs.length = n) (nl : n ≤ 1000000000) (hc : IsInts w a cs) (m0 : 0 < m)
    (SL : Hid (∀ W i, i + 1 < n → Below w.heap.size w W → Calls Tryz.prog 76 #[.agg #[.int .i64 s, .int .i64 a0, .int .i64 b0, .int .i64 a1, .int .i64 b1, .int .i64 a2, .int .i64 b2, .int .i64 a3, .int .i64 b3], .agg #[.slice ra rs.length rc, .int .i64 off, .slice za zs.length zc, .slice fa fs.length fc], .int .i64 (cs.getD i 0), .int .i64 (cs.getD (i + 1) 0)] W (SlPost W m (P i)))) :
    Calls Tryz.prog 36 #[.agg #[.int .i64 s, .int .i64 a0, .int .i64 b0, .int .i64 a1, .int .i64 b1, .int .i64 a2, .int .i64 b2, .int .i64 a3, .int .i64 b3], .agg #[.slice ra rs.length rc, .int .i64 off, .slice za zs.length zc, .slice fa fs.length fc], .slice a n cp] w (RnPost w (n - 1) m P) := by
  have HC := hide hc
  have HN := hide hn
  have M0 := hide m0
  clear hn hc m0
  go_enter Tryz.func36, Tryz.ntmps36
  go_upto_region 1 with fail
  obtain ⟨w0, hw0⟩ : ∃ y, y = (w.alloc (.cells #[.int .i64 s, .int .i64 a0, .int .i64 b0, .int .i64 a1, .int .i64 b1, .int .i64 a2, .int .i64 b2, .int .i64 a3, .int .i64 b3] 26)).alloc (.cells #[.slice ra rs.length rc, .int .i64 off, .slice za zs.length zc, .slice fa fs.length fc] 58) := ⟨_, rfl⟩
  rw [← hw0]
  have B0 := hide (show Below w.heap.size w w0 by rw [hw0]; exact (by repeat (first | exact Below.refl _ _ | assumption | apply balloc | apply bdrew | (refine below_drewN ?_ _) | (refine bset ?_ (by first | (simp; done) | omega | (simp; omega)) _) | (refine bnext ?_ (by assumption)))))
  have KP := hide (fun (W : World) (hb : Below w0.heap.size w0 W) => (show W.cell? ⟨w.heap.size, 0, none⟩ = some (.int .i64 s) ∧ W.cell? ⟨w.heap.size, 1, none⟩ = some (.int .i64 a0) ∧ W.cell? ⟨w.heap.size, 2, none⟩ = some (.int .i64 b0) ∧ W.cell? ⟨w.heap.size, 3, none⟩ = some (.int .i64 a1) ∧ W.cell? ⟨w.heap.size, 4, none⟩ = some (.int .i64 b1) ∧ W.cell? ⟨w.heap.size, 5, none⟩ = some (.int .i64 a2) ∧ W.cell? ⟨w.heap.size, 6, none⟩ = some (.int .i64 b2) ∧ W.cell? ⟨w.heap.size, 7, none⟩ = some (.int .i64 a3) ∧ W.cell? ⟨w.heap.size, 8, none⟩ = some (.int .i64 b3) ∧ W.cell? ⟨w.heap.size + 1, 0, none⟩ = some (.slice ra rs.length rc) ∧ W.cell? ⟨w.heap.size + 1, 1, none⟩ = some (.int .i64 off) ∧ W.cell? ⟨w.heap.size + 1, 2, none⟩ = some (.slice za zs.length zc) ∧ W.cell? ⟨w.heap.size + 1, 3, none⟩ = some (.slice fa fs.length fc) by
    obtain ⟨⟨⟨⟨m1, m2⟩, m3⟩, m4, m5⟩, ⟨m6, m7⟩, m8, m9⟩ := (show MdlAt w0 w.heap.size ⟨s, a0, b0, a1, b1, a2, b2, a3, b3⟩ by rw [hw0]; exact mdlAt_later (mdlAt_new w ⟨s, a0, b0, a1, b1, a2, b2, a3, b3⟩ 26) (by repeat (first | exact Below.refl _ _ | assumption | apply balloc | apply bdrew | (refine below_drewN ?_ _) | (refine bset ?_ (by first | (simp; done) | omega | (simp; omega)) _) | (refine bnext ?_ (by assumption)))))
    refine ⟨later hb m1, later hb m2, later hb m3, later hb m4, later hb m5, later hb m6, later hb m7, later hb m8, later hb m9, later hb ?_, later hb ?_, later hb ?_, later hb ?_⟩ <;> (rw [hw0]; exact (by simp [go_sem, World.cell?_alloc_past]))))
  clear hw0
  go_upto_region 2 with fail
  obtain ⟨w1, hw1⟩ : ∃ z, z = w0.alloc (.cells #[] 68) := ⟨_, rfl⟩
  rw [← hw1]
  have O1 := hide (show SetsAt w1 w0.heap.size (.slice (some ⟨w0.heap.size, 0, none⟩) 0 0) 0 m (fun _ => (0, 0)) P by
    rw [hw1]
    exact ⟨World.ownsRow_lit (base := w0.heap.size) (e := 68) (size := 1) w0 #[] 0 (Nat.le_refl _) (by unfold maxLen; omega) rfl, fun i hi => by omega⟩)
  have B1 := hide (show Below w0.heap.size w0 w1 by rw [hw1]; exact (by repeat (first | exact Below.refl _ _ | assumption | apply balloc | apply bdrew | (refine below_drewN ?_ _) | (refine bset ?_ (by first | (simp; done) | omega | (simp; omega)) _) | (refine bnext ?_ (by assumption)))))
  clear hw1
  obtain ⟨ti, hi, hz0, hz1, hz2⟩ := info_parts sets_info
  have HI := hide hi
  have HZ0 := hide hz0
  have HZ1 := hide hz1
  have HZ2 := hide hz2
  clear hi hz0 hz1 hz2
  go_upto_region 3 with fail
  go_loopw [7, 8] (fun v i wr => ∃ (k : Nat) (f : Nat → Nat × Nat), k ≤ n - 1 ∧ i = .int .i64 (k : Int) ∧ Hid (SetsAt wr w0.heap.size v k m f P) ∧ Below w0.heap.size w0 wr) (fun _ i _ => n - (intOf i).toNat)
  case atStart => exact ⟨0, fun _ => (0, 0), by omega, rfl, O1, B1.out⟩
  case round =>
    obtain ⟨k, f, hk, rfl, hst, hbw⟩ := hrel
    obtain ⟨b9, c9, rfl⟩ := sets_form hst.out
    obtain ⟨j, hj⟩ : ∃ j : Int, (k : Int) + 1 = j := ⟨_, rfl⟩
    have HJ := hide hj
    have BR := hide hbw
    by_cases hlt : k + 1 < n
    · have d : decide (j < (n : Int)) = true := decide_eq_true (by omega)
      obtain ⟨b, o, rfl, hcs⟩ : ∃ b o, a = some ⟨b, o, none⟩ ∧ ∀ i, i < cs.length → w.cell? ⟨b, o + i, none⟩ = some (.int .i64 (cs.getD i 0)) := by
        rcases HC.out with h | h
        · subst h; have := HN.out; simp at this; omega
        · exact h
      have C0 := hide (hcs k (by rw [HN.out]; omega))
      have C1 := hide (hcs (k + 1) (by rw [HN.out]; omega))
      have SK := hide (fun W (hb : Below w.heap.size w W) => SL.out W k hlt hb)
      generalize cs.getD k 0 = ck at *
      generalize cs.getD (k + 1) 0 = cd at *
      have j0 : 0 ≤ j := by omega
      have j1 : j < (n : Int) := by omega
      have jt : j.toNat = k + 1 := by omega
      have jw : wrap64 ((k : Int) + 1) = j := (IntWalk.i64_left _).symm.trans ((IntWalk.i64_in _ (by omega)).trans (by omega))
      have jw2 : IntKind.i64.wrap ((k : Int) + 1) = j := (IntWalk.i64_in _ (by omega)).trans (by omega)
      have i0 : 0 ≤ (k : Int) := by omega
      have i1 : (k : Int) < (n : Int) := by omega
      have KQ := hide (fun (W : World) (hb : Below w0.heap.size w0 W) => (show W.cell? ⟨w.heap.size, 0, none⟩ = some (.int .i64 s) ∧ W.cell? ⟨w.heap.size, 1, none⟩ = some (.int .i64 a0) ∧ W.cell? ⟨w.heap.size, 2, none⟩ = some (.int .i64 b0) ∧ W.cell? ⟨w.heap.size, 3, none⟩ = some (.int .i64 a1) ∧ W.cell? ⟨w.heap.size, 4, none⟩ = some (.int .i64 b1) ∧ W.cell? ⟨w.heap.size, 5, none⟩ = some (.int .i64 a2) ∧ W.cell? ⟨w.heap.size, 6, none⟩ = some (.int .i64 b2) ∧ W.cell? ⟨w.heap.size, 7, none⟩ = some (.int .i64 a3) ∧ W.cell? ⟨w.heap.size, 8, none⟩ = some (.int .i64 b3) ∧ W.cell? ⟨w.heap.size + 1, 0, none⟩ = some (.slice ra rs.length rc) ∧ W.cell? ⟨w.heap.size + 1, 1, none⟩ = some (.int .i64 off) ∧ W.cell? ⟨w.heap.size + 1, 2, none⟩ = some (.slice za zs.length zc) ∧ W.cell? ⟨w.heap.size + 1, 3, none⟩ = some (.slice fa fs.length fc) ∧ W.cell? ⟨b, o + k, none⟩ = some (.int .i64 ck) ∧ W.cell? ⟨b, o + (k + 1), none⟩ = some (.int .i64 cd) ∧ Hid (Below w0.heap.size w0 W) from
        have ⟨m1, m2, m3, m4, m5, m6, m7, m8, m9, q1, q2, q3, q4⟩ := KP.out W hb
        ⟨m1, m2, m3, m4, m5, m6, m7, m8, m9, q1, q2, q3, q4, later (bnext B0.out hb) C0.out, later (bnext B0.out hb) C1.out, hb⟩))
      clear hj hbw hcs
      go_upto_region 5 with fail
      refine wp_region_held_drew (S := (fun W => W.cell? ⟨w.heap.size, 0, none⟩ = some (.int .i64 s) ∧ W.cell? ⟨w.heap.size, 1, none⟩ = some (.int .i64 a0) ∧ W.cell? ⟨w.heap.size, 2, none⟩ = some (.int .i64 b0) ∧ W.cell? ⟨w.heap.size, 3, none⟩ = some (.int .i64 a1) ∧ W.cell? ⟨w.heap.size, 4, none⟩ = some (.int .i64 b1) ∧ W.cell? ⟨w.heap.size, 5, none⟩ = some (.int .i64 a2) ∧ W.cell? ⟨w.heap.size, 6, none⟩ = some (.int .i64 b2) ∧ W.cell? ⟨w.heap.size, 7, none⟩ = some (.int .i64 a3) ∧ W.cell? ⟨w.heap.size, 8, none⟩ = some (.int .i64 b3) ∧ W.cell? ⟨w.heap.size + 1, 0, none⟩ = some (.slice ra rs.length rc) ∧ W.cell? ⟨w.heap.size + 1, 1, none⟩ = some (.int .i64 off) ∧ W.cell? ⟨w.heap.size + 1, 2, none⟩ = some (.slice za zs.length zc) ∧ W.cell? ⟨w.heap.size + 1, 3, none⟩ = some (.slice fa fs.length fc) ∧ W.cell? ⟨b, o + k, none⟩ = some (.int .i64 ck) ∧ W.cell? ⟨b, o + (k + 1), none⟩ = some (.int .i64 cd) ∧ Hid (Below w0.heap.size w0 W))) (by kernel_rfl) (KQ.out _ (bdrew BR.out)) (fun h0 => ?_)
      (refine wpAnyH_take (i := 0) (v := ?_) rfl (by kernel_rfl) (by kernel_rfl) (by kernel_rfl) (fun _ _ _ h => h) (Or.inl ⟨by kernel_rfl, ?_⟩) (by assumption) ?_; rotate_left; focus (intro w hSw; (try dsimp only at hSw); go_simp; try with_reducible rfl))
      (simp only [Act.put, List.getElem_toArray, List.getElem_cons_zero, List.getElem_cons_succ, List.setIfInBounds_toArray, List.set_cons_zero, List.set_cons_succ])
      (refine wpAnyH_take (i := 1) (v := ?_) rfl (by kernel_rfl) (by kernel_rfl) (by kernel_rfl) (fun _ _ _ h => h) (Or.inl ⟨by kernel_rfl, ?_⟩) (by assumption) ?_; rotate_left; focus (intro w hSw; (try dsimp only at hSw); go_simp; try with_reducible rfl))
      (simp only [Act.put, List.getElem_toArray, List.getElem_cons_zero, List.getElem_cons_succ, List.setIfInBounds_toArray, List.set_cons_zero, List.set_cons_succ])
      (refine wpAnyH_take (i := 2) (v := ?_) rfl (by kernel_rfl) (by kernel_rfl) (by kernel_rfl) (fun _ _ _ h => h) (Or.inl ⟨by kernel_rfl, ?_⟩) (by assumption) ?_; rotate_left; focus (intro w hSw; (try dsimp only at hSw); go_simp; try with_reducible rfl))
      (simp only [Act.put, List.getElem_toArray, List.getElem_cons_zero, List.getElem_cons_succ, List.setIfInBounds_toArray, List.set_cons_zero, List.set_cons_succ])
      (refine wpAnyH_take (i := 3) (v := ?_) rfl (by kernel_rfl) (by kernel_rfl) (by kernel_rfl) (fun _ _ _ h => h) (Or.inl ⟨by kernel_rfl, ?_⟩) (by assumption) ?_; rotate_left; focus (intro w hSw; (try dsimp only at hSw); go_simp; try with_reducible rfl))
      (simp only [Act.put, List.getElem_toArray, List.getElem_cons_zero, List.getElem_cons_succ, List.setIfInBounds_toArray, List.set_cons_zero, List.set_cons_succ])
      (refine wpAnyH_take (i := 4) (v := ?_) rfl (by kernel_rfl) (by kernel_rfl) (by kernel_rfl) (fun _ _ _ h => h) (Or.inl ⟨by kernel_rfl, ?_⟩) (by assumption) ?_; rotate_left; focus (intro w hSw; (try dsimp only at hSw); go_simp; try with_reducible rfl))
      (simp only [Act.put, List.getElem_toArray, List.getElem_cons_zero, List.getElem_cons_succ, List.setIfInBounds_toArray, List.set_cons_zero, List.set_cons_succ])
      (refine wpAnyH_take (i := 5) (v := ?_) rfl (by kernel_rfl) (by kernel_rfl) (by kernel_rfl) (fun _ _ _ h => h) (Or.inl ⟨by kernel_rfl, ?_⟩) (by assumption) ?_; rotate_left; focus (intro w hSw; (try dsimp only at hSw); go_simp; try with_reducible rfl))
      (simp only [Act.put, List.getElem_toArray, List.getElem_cons_zero, List.getElem_cons_succ, List.setIfInBounds_toArray, List.set_cons_zero, List.set_cons_succ])
      (refine wpAnyH_take (i := 6) (v := ?_) rfl (by kernel_rfl) (by kernel_rfl) (by kernel_rfl) (fun _ _ _ h => h) (Or.inl ⟨by kernel_rfl, ?_⟩) (by assumption) ?_; rotate_left; focus (intro w hSw; (try dsimp only at hSw); go_simp; try with_reducible rfl))
      (simp only [Act.put, List.getElem_toArray, List.getElem_cons_zero, List.getElem_cons_succ, List.setIfInBounds_toArray, List.set_cons_zero, List.set_cons_succ])
      (refine wpAnyH_take (i := 7) (v := ?_) rfl (by kernel_rfl) (by kernel_rfl) (by kernel_rfl) (fun _ _ _ h => h) (Or.inl ⟨by kernel_rfl, ?_⟩) (by assumption) ?_; rotate_left; focus (intro w hSw; (try dsimp only at hSw); go_simp; try with_reducible rfl))
      (simp only [Act.put, List.getElem_toArray, List.getElem_cons_zero, List.getElem_cons_succ, List.setIfInBounds_toArray, List.set_cons_zero, List.set_cons_succ])
      (refine wpAnyH_take (i := 8) (v := ?_) rfl (by kernel_rfl) (by kernel_rfl) (by kernel_rfl) (fun _ _ _ h => h) (Or.inl ⟨by kernel_rfl, ?_⟩) (by assumption) ?_; rotate_left; focus (intro w hSw; (try dsimp only at hSw); go_simp; try with_reducible rfl))
      (simp only [Act.put, List.getElem_toArray, List.getElem_cons_zero, List.getElem_cons_succ, List.setIfInBounds_toArray, List.set_cons_zero, List.set_cons_succ])
      (refine wpAnyH_take (i := 9) (v := ?_) rfl (by kernel_rfl) (by kernel_rfl) (by kernel_rfl) (fun _ _ _ h => h) (Or.inl ⟨by kernel_rfl, ?_⟩) (by assumption) ?_; rotate_left; focus (intro w hSw; (try dsimp only at hSw); go_simp; try with_reducible rfl))
      (simp only [Act.put, List.getElem_toArray, List.getElem_cons_zero, List.getElem_cons_succ, List.setIfInBounds_toArray, List.set_cons_zero, List.set_cons_succ])
      (refine wpAnyH_take (i := 10) (v := ?_) rfl (by kernel_rfl) (by kernel_rfl) (by kernel_rfl) (fun _ _ _ h => h) (Or.inl ⟨by kernel_rfl, ?_⟩) (by assumption) ?_; rotate_left; focus (intro w hSw; (try dsimp only at hSw); go_simp; try with_reducible rfl))
      (simp only [Act.put, List.getElem_toArray, List.getElem_cons_zero, List.getElem_cons_succ, List.setIfInBounds_toArray, List.set_cons_zero, List.set_cons_succ])
      (refine wpAnyH_take (i := 11) (v := ?_) rfl (by kernel_rfl) (by kernel_rfl) (by kernel_rfl) (fun _ _ _ h => h) (Or.inl ⟨by kernel_rfl, ?_⟩) (by assumption) ?_; rotate_left; focus (intro w hSw; (try dsimp only at hSw); go_simp; try with_reducible rfl))
      (simp only [Act.put, List.getElem_toArray, List.getElem_cons_zero, List.getElem_cons_succ, List.setIfInBounds_toArray, List.set_cons_zero, List.set_cons_succ])
      (refine wpAnyH_ready (rs := [12]) (by kernel_rfl) (by simp) ?_; refine AllReadyH.cons rfl (fun K hK => ?_) AllReadyH.nil)
      go_simp
      go_at_call 76; refine (SK.out _ (bnext B0.out (bdrew BR.out))).mono ?_; rintro e wA ⟨BS, vS, hBS, rfl, hrow, hbA⟩
      obtain ⟨q, qc, rfl, hq1, hq2⟩ := hrow.form M0.out
      have bA : Below wr.heap.size wr wA := bnext (bdrew (Below.refl _ _)) hbA
      have qA : wr.heap.size ≤ q := Nat.le_trans hBS hq1
      have RW := hide (fun j (hj : j < m) => (show wA.cell? ⟨q, j, none⟩ = some (.int .u8 (P k j : Int)) by
        rw [hrow.cellAt j (by omega), List.getElem?_map, List.getElem?_range hj]; rfl))
      (try go_wp2_with fail)
      refine hK.out _ _ (KQ.out _ (bnext BR.out bA)) (fun h1 => ?_)
      clear hK K
      (try simp only [Act.put, List.setIfInBounds_toArray, List.set_cons_zero, List.set_cons_succ])
      (refine wpAnyH_ready (rs := [13]) (by kernel_rfl) (by simp) ?_; refine AllReadyH.cons rfl (fun K hK => ?_) AllReadyH.nil)
      go_simp
      refine hK.out _ _ (KQ.out _ (balloc (bnext BR.out bA))) (fun h4 => ?_)
      clear hK K
      (try simp only [Act.put, List.setIfInBounds_toArray, List.set_cons_zero, List.set_cons_succ])
      (refine wpAnyH_ready (rs := [14]) (by kernel_rfl) (by simp) ?_; refine AllReadyH.cons rfl (fun K hK => ?_) AllReadyH.nil)
      have bD : Below wr.heap.size wr (wA.alloc (.cells #[.slice (some ⟨q, 0, none⟩) m qc] 68)) := balloc bA
      have SW := hide (show w0.heap.size ≤ wr.heap.size from BR.out.size)
      refine step_append_lies _ rfl (.tmp 17) (.tmp 30) 63 rfl w0.heap.size 68 ti (.slice none 0 0) 1 24 Tryz.underlying63 HI.out HZ0.out HZ1.out HZ2.out rfl (by decide) _ k ((List.range k).map fun i => Value.slice (some ⟨(f i).1, 0, none⟩) m (f i).2) rfl (owns_later hst.out.1 bD) _ 1 1 [.slice (some ⟨q, 0, none⟩) m qc] rfl rfl (by intro j u hu; match j, hu with | 0, hu => (simp at hu; subst hu; simp [go_sem, Addr.add]) | i + 1, hu => simp at hu) (by intro u hu; simp at hu; subst hu; rfl) (by omega) (by unfold maxLen; omega) (by omega) (Nat.le_trans SW.out bD.size) _ rfl ?_
      intro g gc w6 hown6 hgrow hlie hlt6
      have hB6 : Below w0.heap.size w0 w6 := Below.grown (bnext BR.out bD) hgrow (Nat.le_trans SW.out bD.size) (fun q hq => (hst.out.1.lt q hq).1)
      have SP := hide (sets_push hst.out bD qA (Nat.lt_of_lt_of_le hq2 (by simp)) (fun j hj => later (balloc (Below.refl _ _)) (RW.out j hj)) hown6 hgrow hlie (Nat.le_refl _))
      refine hK.out _ _ (KQ.out _ hB6) (fun h5 => ?_)
      clear hK K
      (try simp only [Act.put, List.setIfInBounds_toArray, List.set_cons_zero, List.set_cons_succ])
      (refine wpAnyH_take (i := 15) (v := ?_) rfl (by kernel_rfl) (by kernel_rfl) (by kernel_rfl) (fun _ _ _ h => h) (Or.inl ⟨by kernel_rfl, ?_⟩) (by assumption) ?_; rotate_left; focus (intro w hSw; (try dsimp only at hSw); go_simp; try with_reducible rfl))
      (simp only [Act.put, List.getElem_toArray, List.getElem_cons_zero, List.getElem_cons_succ, List.setIfInBounds_toArray, List.set_cons_zero, List.set_cons_succ])
      refine wpAnyH_done (by kernel_rfl) ?_ _
      all_goals
        have B6 := hide hB6
        obtain ⟨f', O6⟩ := SP.out
        have N6 := hide O6
        clear hown6 hgrow hlie hlt6 hB6 O6 SP hrow hBS hq1 hq2 bA bD qA RW
        go_wp2_with fail
        go_roundw
        case rel => exact ⟨k + 1, f', by omega, congrArg _ (by have := HJ.out; omega), N6, B6.out⟩
        case measure => simp [intOf]; omega
    · have d : decide (j < (n : Int)) = false := decide_eq_false (by omega)
      have jw : wrap64 ((k : Int) + 1) = j := (IntWalk.i64_left _).symm.trans ((IntWalk.i64_in _ (by omega)).trans (by omega))
      have jw2 : IntKind.i64.wrap ((k : Int) + 1) = j := (IntWalk.i64_in _ (by omega)).trans (by omega)
      obtain rfl : n - 1 = k := by omega
      go_wp2_with fail
      exact bodyPost_ret (by simp [results, Tryz.results36, go_sem]) rfl ⟨_, f, rfl, sets_mono hst.out B0.out.size, bnext B0.out BR.out⟩
end Go.Proofs.YtimfbjnpalgmcaaGreat
