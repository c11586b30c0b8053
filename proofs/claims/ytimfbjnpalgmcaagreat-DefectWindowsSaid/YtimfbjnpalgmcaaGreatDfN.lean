/-
  defect: Print, between two cuts.
-/
import Derived.Test.YtimfbjnpalgmcaaGreatDgL
namespace Go.Proofs.YtimfbjnpalgmcaaGreat
set_option linter.unusedSimpArgs false
set_option linter.unusedVariables false
open Go.RowKit

theorem print1_two (c d x y : Int) (rs : List (Int × Int)) (ra : Option Addr) (rc : Nat) (p q z cp : Nat) (w : World) (hrs : (plcQ rs).1 = x ∧ (plcQ rs).2 = y) (h2 : 2 ≤ rs.length ∧ rs.length ≤ 60) (hr : IsPairs w ra rs) (hc : IsInts w (some ⟨z, 0, none⟩) [c, d]) (h1 : x ≤ c) (h3 : c < d) (h4 : d ≤ y) (k1 : w.cell? ⟨p, 0, none⟩ = some (.slice (some ⟨z, 0, none⟩) 2 cp)) (k2 : w.cell? ⟨q, 0, none⟩ = some (.slice ra rs.length rc)) :
    Calls Tryz.prog 71 #[.pointer (some ⟨p, 0, none⟩), .pointer (some ⟨q, 0, none⟩)] w fun e w' => e = .returned (.bool true) ∧ Below w.heap.size w w' := by
  have PL := hide (fun W (hb : Below w.heap.size w W) => (show Calls Tryz.prog 73 #[.slice ra rs.length rc] W fun e w' => e = .returned (.agg #[.int .i64 x, .int .i64 y]) ∧ Below W.heap.size W w' by
    rw [← hrs.1, ← hrs.2]; exact places_any rs (rs.length - 1) ra rc W (by omega) (by omega) (pairs_later hr hb)))
  have AC := hide (fun W (hb : Below w.heap.size w W) => areCuts_two c d x y z cp W (ints_later hc hb) h1 h3 h4)
  have KP := hide (fun (W : World) (hb : Below w.heap.size w W) => (show W.cell? ⟨p, 0, none⟩ = some (.slice (some ⟨z, 0, none⟩) 2 cp) ∧ W.cell? ⟨q, 0, none⟩ = some (.slice ra rs.length rc) ∧ Below w.heap.size w W from ⟨later hb k1, later hb k2, hb⟩))
  clear hrs h2 hr hc h1 h3 h4 k1 k2
  go_enter Tryz.func71, Tryz.ntmps71
  go_upto_region 1 with fail
  go_cut [2] from 3 (fun s2 wx => s2 = .bool true ∧ Below w.heap.size w wx)
  case first =>
    go_region_held3 (fun W => W.cell? ⟨p, 0, none⟩ = some (.slice (some ⟨z, 0, none⟩) 2 cp) ∧ W.cell? ⟨q, 0, none⟩ = some (.slice ra rs.length rc) ∧ Below w.heap.size w W)
      ((go_split_ands; refine KP.out _ ?_; exact (by repeat (first | exact Below.refl _ _ | assumption | apply balloc | apply bdrew | (refine below_drewN ?_ _) | (refine bset ?_ (by first | (simp; done) | omega | (simp; omega)) _) | (refine bnext ?_ (by assumption))))))
      (first
        | (go_at_call 73; refine (PL.out _ (by exact (by repeat (first | exact Below.refl _ _ | assumption | apply balloc | apply bdrew | (refine below_drewN ?_ _) | (refine bset ?_ (by first | (simp; done) | omega | (simp; omega)) _) | (refine bnext ?_ (by assumption)))))).mono ?_; rintro e wA ⟨rfl, hbA⟩)
        | (go_at_call 72; refine (AC.out _ (by exact (by repeat (first | exact Below.refl _ _ | assumption | apply balloc | apply bdrew | (refine below_drewN ?_ _) | (refine bset ?_ (by first | (simp; done) | omega | (simp; omega)) _) | (refine bnext ?_ (by assumption)))))).mono ?_; rintro e wB ⟨rfl, hbB⟩))
    all_goals (go_wp2_with fail; go_meet; exact ⟨rfl, by first | (go_split_ands; assumption) | exact (by repeat (first | exact Below.refl _ _ | assumption | apply balloc | apply bdrew | (refine below_drewN ?_ _) | (refine bset ?_ (by first | (simp; done) | omega | (simp; omega)) _) | (refine bnext ?_ (by assumption))))⟩)
  case rest =>
    obtain ⟨rfl, hbw⟩ := hcut
    go_wp2
    go_ret
    exact ⟨rfl, hbw⟩
def PtPost (w : World) (n : Nat) (P : Nat → Nat) (e : Ending) (w' : World) : Prop := ∃ g cap q, e = .returned (.tuple #[.slice (some ⟨g, 0, none⟩) 1 cap, .int .i64 0]) ∧ w'.cell? ⟨g, 0, none⟩ = some (.slice (some ⟨q, 0, none⟩) n n) ∧ w'.rowIs q 29 n (fun j => .int .u8 (P j : Int)) ∧ Below w.heap.size w w'
theorem sets_info : (Tryz.prog.info? 68).map (fun i => (i.zero, i.size, i.bytes)) = some (some (.slice none 0 0), 1, 24) := by kernel_rfl
set_option maxRecDepth 100000 in
set_option maxHeartbeats 6400000 in
theorem print_go (s a0 b0 a1 b1 a2 b2 a3 b3 off c d : Int) (rs zs fs : List (Int × Int)) (ra za fa : Option Addr) (rc zc fc z cp : Nat) (P : Nat → Nat) (w : World) (hm : mdlOk ⟨s, a0, b0, a1, b1, a2, b2, a3, b3⟩ = true) (hg : GrwOk ⟨rs, off, zs, fs⟩) (h : IsGr w ⟨rs, off, zs, fs⟩ ⟨ra, rc, za, zc, fa, fc⟩) (hc : IsInts w (some ⟨z, 0, none⟩) [c, d]) (h1 : (plcQ rs).1 ≤ c) (h3 : c < d) (h4 : d ≤ (plcQ rs).2)
    (PR : Hid (∀ W, Below w.heap.size w W → Calls Tryz.prog 74 #[.agg #[.int .i64 s, .int .i64 a0, .int .i64 b0, .int .i64 a1, .int .i64 b1, .int .i64 a2, .int .i64 b2, .int .i64 a3, .int .i64 b3], .agg #[.slice ra rs.length rc, .int .i64 off, .slice za zs.length zc, .slice fa fs.length fc], .int .i64 c, .int .i64 d] W (PrPost W zs.length P))) :
    Calls Tryz.prog 33 #[.agg #[.int .i64 s, .int .i64 a0, .int .i64 b0, .int .i64 a1, .int .i64 b1, .int .i64 a2, .int .i64 b2, .int .i64 a3, .int .i64 b3], .agg #[.slice ra rs.length rc, .int .i64 off, .slice za zs.length zc, .slice fa fs.length fc], .slice (some ⟨z, 0, none⟩) 2 cp] w (PtPost w zs.length P) := by
  have r2 := len_of hg.t1
  simp only at r2
  obtain ⟨x, hx⟩ : ∃ x, (plcQ rs).1 = x := ⟨_, rfl⟩
  obtain ⟨y, hy⟩ : ∃ y, (plcQ rs).2 = y := ⟨_, rfl⟩
  have VM := hide (fun (W : World) => (show Calls Tryz.prog 51 #[.agg #[.int .i64 s, .int .i64 a0, .int .i64 b0, .int .i64 a1, .int .i64 b1, .int .i64 a2, .int .i64 b2, .int .i64 a3, .int .i64 b3]] W fun e w' => e = .returned (.func (.func 109) #[] #[.pointer (some ⟨W.heap.size + 1 + 1, 0, none⟩), .pointer (some ⟨W.heap.size + 1, 0, none⟩)]) ∧
      CndTells w' ⟨2, 109, #[.pointer (some ⟨W.heap.size + 1 + 1, 0, none⟩), .pointer (some ⟨W.heap.size + 1, 0, none⟩)], true⟩ ∧ Below W.heap.size W w' from validModel_ex ⟨s, a0, b0, a1, b1, a2, b2, a3, b3⟩ true W hm))
  have VG := hide (fun (W : World) (hb : Below w.heap.size w W) => (show Calls Tryz.prog 69 #[.agg #[.slice ra rs.length rc, .int .i64 off, .slice za zs.length zc, .slice fa fs.length fc]] W fun e w' => e = .returned (.func (.func 109) #[] #[.pointer (some ⟨W.heap.size + 1 + 1, 0, none⟩), .pointer (some ⟨W.heap.size + 1, 0, none⟩)]) ∧
      CndTells w' ⟨2, 109, #[.pointer (some ⟨W.heap.size + 1 + 1, 0, none⟩), .pointer (some ⟨W.heap.size + 1, 0, none⟩)], true⟩ ∧ Below W.heap.size W w' from validGrowth_good ⟨rs, off, zs, fs⟩ ⟨ra, rc, za, zc, fa, fc⟩ W hg (gr_later h hb)))
  have TL := hide (fun (W : World) (hb : Below w.heap.size w W) (k1 : W.cell? ⟨w.heap.size + 1 + 1, 0, none⟩ = some (.slice (some ⟨z, 0, none⟩) 2 cp)) (k2 : W.cell? ⟨w.heap.size + 1, 0, none⟩ = some (.slice ra rs.length rc)) => (show Tells W 71 #[.pointer (some ⟨w.heap.size + 1 + 1, 0, none⟩), .pointer (some ⟨w.heap.size + 1, 0, none⟩)] true from
    ⟨enters_any Tryz.func71 (by kernel_rfl) rfl _, fun V hV => print1_two c d x y rs ra rc _ _ z cp V ⟨hx, hy⟩ (by omega) (pairs_later h.1.1 (bnext hb hV)) (ints_later hc (bnext hb hV)) (by omega) h3 (by omega) (later hV k1) (later hV k2)⟩))
  have ⟨z0, z1⟩ : w.cell? ⟨z, 0, none⟩ = some (.int .i64 c) ∧ w.cell? ⟨z, 1, none⟩ = some (.int .i64 d) := by
    rcases hc with hc | ⟨b, o, e, hc⟩
    · simp at hc
    · cases e
      exact ⟨by simpa using hc 0 (by simp), by simpa using hc 1 (by simp)⟩
  have Z0 := hide z0
  have Z1 := hide z1
  clear z0 z1 hx hy r2 hm hg h hc h1 h3 h4
  go_enter Tryz.func33, Tryz.ntmps33
  go_upto_region 1 with fail
  obtain ⟨w0, hw0⟩ : ∃ y, y = ((w.alloc (.cells #[.int .i64 s, .int .i64 a0, .int .i64 b0, .int .i64 a1, .int .i64 b1, .int .i64 a2, .int .i64 b2, .int .i64 a3, .int .i64 b3] 26)).alloc (.cells #[.slice ra rs.length rc, .int .i64 off, .slice za zs.length zc, .slice fa fs.length fc] 58)).alloc (.cells #[.slice (some ⟨z, 0, none⟩) 2 cp] 59) := ⟨_, rfl⟩
  rw [← hw0]
  have B0 := hide (show Below w.heap.size w w0 by rw [hw0]; exact (by repeat (first | exact Below.refl _ _ | assumption | apply balloc | apply bdrew | (refine below_drewN ?_ _) | (refine bset ?_ (by first | (simp; done) | omega | (simp; omega)) _) | (refine bnext ?_ (by assumption)))))
  have KP := hide (fun (W : World) (hb : Below w0.heap.size w0 W) => (show W.cell? ⟨w.heap.size, 0, none⟩ = some (.int .i64 s) ∧ W.cell? ⟨w.heap.size, 1, none⟩ = some (.int .i64 a0) ∧ W.cell? ⟨w.heap.size, 2, none⟩ = some (.int .i64 b0) ∧ W.cell? ⟨w.heap.size, 3, none⟩ = some (.int .i64 a1) ∧ W.cell? ⟨w.heap.size, 4, none⟩ = some (.int .i64 b1) ∧ W.cell? ⟨w.heap.size, 5, none⟩ = some (.int .i64 a2) ∧ W.cell? ⟨w.heap.size, 6, none⟩ = some (.int .i64 b2) ∧ W.cell? ⟨w.heap.size, 7, none⟩ = some (.int .i64 a3) ∧ W.cell? ⟨w.heap.size, 8, none⟩ = some (.int .i64 b3) ∧ W.cell? ⟨w.heap.size + 1, 0, none⟩ = some (.slice ra rs.length rc) ∧ W.cell? ⟨w.heap.size + 1, 1, none⟩ = some (.int .i64 off) ∧ W.cell? ⟨w.heap.size + 1, 2, none⟩ = some (.slice za zs.length zc) ∧ W.cell? ⟨w.heap.size + 1, 3, none⟩ = some (.slice fa fs.length fc) ∧ W.cell? ⟨w.heap.size + 1 + 1, 0, none⟩ = some (.slice (some ⟨z, 0, none⟩) 2 cp) ∧ Below w0.heap.size w0 W by
    obtain ⟨⟨⟨⟨m1, m2⟩, m3⟩, m4, m5⟩, ⟨m6, m7⟩, m8, m9⟩ := (show MdlAt w0 w.heap.size ⟨s, a0, b0, a1, b1, a2, b2, a3, b3⟩ by rw [hw0]; exact mdlAt_later (mdlAt_new w ⟨s, a0, b0, a1, b1, a2, b2, a3, b3⟩ 26) (by repeat (first | exact Below.refl _ _ | assumption | apply balloc | apply bdrew | (refine below_drewN ?_ _) | (refine bset ?_ (by first | (simp; done) | omega | (simp; omega)) _) | (refine bnext ?_ (by assumption)))))
    refine ⟨later hb m1, later hb m2, later hb m3, later hb m4, later hb m5, later hb m6, later hb m7, later hb m8, later hb m9, later hb ?_, later hb ?_, later hb ?_, later hb ?_, later hb ?_, hb⟩ <;> (rw [hw0]; exact (by simp [go_sem, World.cell?_alloc_past]))))
  clear hw0
  go_cut [8] from 11 to 21 (fun s8 wx => s8 = .int .i64 0 ∧ Below w0.heap.size w0 wx)
  case first =>
    as_aux_lemma =>
    go_region_held3 (fun W => W.cell? ⟨w.heap.size, 0, none⟩ = some (.int .i64 s) ∧ W.cell? ⟨w.heap.size, 1, none⟩ = some (.int .i64 a0) ∧ W.cell? ⟨w.heap.size, 2, none⟩ = some (.int .i64 b0) ∧ W.cell? ⟨w.heap.size, 3, none⟩ = some (.int .i64 a1) ∧ W.cell? ⟨w.heap.size, 4, none⟩ = some (.int .i64 b1) ∧ W.cell? ⟨w.heap.size, 5, none⟩ = some (.int .i64 a2) ∧ W.cell? ⟨w.heap.size, 6, none⟩ = some (.int .i64 b2) ∧ W.cell? ⟨w.heap.size, 7, none⟩ = some (.int .i64 a3) ∧ W.cell? ⟨w.heap.size, 8, none⟩ = some (.int .i64 b3) ∧ W.cell? ⟨w.heap.size + 1, 0, none⟩ = some (.slice ra rs.length rc) ∧ W.cell? ⟨w.heap.size + 1, 1, none⟩ = some (.int .i64 off) ∧ W.cell? ⟨w.heap.size + 1, 2, none⟩ = some (.slice za zs.length zc) ∧ W.cell? ⟨w.heap.size + 1, 3, none⟩ = some (.slice fa fs.length fc) ∧ W.cell? ⟨w.heap.size + 1 + 1, 0, none⟩ = some (.slice (some ⟨z, 0, none⟩) 2 cp) ∧ Below w0.heap.size w0 W)
      ((go_split_ands; refine KP.out _ ?_; exact (by repeat (first | exact Below.refl _ _ | assumption | apply balloc | apply bdrew | (refine below_drewN ?_ _) | (refine bset ?_ (by first | (simp; done) | omega | (simp; omega)) _) | (refine bnext ?_ (by assumption))))))
      (first
        | (go_at_call 70; refine (atMost_ex true _ _ _ rfl).mono ?_; rintro e wA ⟨rfl, hA, hbA⟩; (try simp at hA))
        | (go_at_call 51; refine (VM.out _).mono ?_; rintro e wB ⟨rfl, hB, hbB⟩; (try simp at hB))
        | (go_at_call 69; refine (VG.out _ (bnext B0.out (by exact (by repeat (first | exact Below.refl _ _ | assumption | apply balloc | apply bdrew | (refine below_drewN ?_ _) | (refine bset ?_ (by first | (simp; done) | omega | (simp; omega)) _) | (refine bnext ?_ (by assumption))))))).mono ?_; rintro e wC ⟨rfl, hC, hbC⟩; (try simp at hC))
        | (go_at_call 52; refine (unless_ex 3 _ _ true _ rfl (TL.out _ (bnext B0.out (by exact (by repeat (first | exact Below.refl _ _ | assumption | apply balloc | apply bdrew | (refine below_drewN ?_ _) | (refine bset ?_ (by first | (simp; done) | omega | (simp; omega)) _) | (refine bnext ?_ (by assumption)))))) (by go_split_ands; assumption) (by go_split_ands; assumption))).mono ?_; rintro e wD ⟨rfl, hD, hbD⟩; (try simp at hD))
        | (go_at_call 50; go_loud (refine (firstError_is 0 [⟨2, 109, _, true⟩, ⟨2, 109, _, true⟩, ⟨5, 109, _, true⟩, ⟨3, 109, _, true⟩] _ _ _ rfl (by simp) (by simp) (cnds_four_at (by simp)) (tells_four (cnd_later hB (by repeat (first | exact Below.refl _ _ | assumption | apply balloc | apply bdrew | (refine bnext ?_ (by assumption))))) (fun _ => cnd_later hC (by repeat (first | exact Below.refl _ _ | assumption | apply balloc | apply bdrew | (refine bnext ?_ (by assumption))))) (fun _ _ => cnd_later hA (by repeat (first | exact Below.refl _ _ | assumption | apply balloc | apply bdrew | (refine bnext ?_ (by assumption))))) (fun _ _ _ => cnd_later hD (by repeat (first | exact Below.refl _ _ | assumption | apply balloc | apply bdrew | (refine bnext ?_ (by assumption))))))).mono ?_); rintro e wE ⟨rfl, hbE⟩))
    all_goals (go_wp2_with fail; go_meet; exact ⟨rfl, by first | (go_split_ands; assumption) | exact (by repeat (first | exact Below.refl _ _ | assumption | apply balloc | apply bdrew | (refine below_drewN ?_ _) | (refine bset ?_ (by first | (simp; done) | omega | (simp; omega)) _) | (refine bnext ?_ (by assumption))))⟩)
  case rest =>
    obtain ⟨rfl, hbw⟩ := hcut
    have BW := hide hbw
    clear hbw
    have ⟨_, _, _, _, _, _, _, _, _, _, _, _, _, k0, _⟩ := KP.out _ BW.out
    go_wp2_with fail
    refine wp_loop_rounds 3 ?_
    rw [rounds_succ]
    go_wp2_with fail
    have KQ := hide (fun (W : World) (hb : Below w0.heap.size w0 W) => (show W.cell? ⟨w.heap.size, 0, none⟩ = some (.int .i64 s) ∧ W.cell? ⟨w.heap.size, 1, none⟩ = some (.int .i64 a0) ∧ W.cell? ⟨w.heap.size, 2, none⟩ = some (.int .i64 b0) ∧ W.cell? ⟨w.heap.size, 3, none⟩ = some (.int .i64 a1) ∧ W.cell? ⟨w.heap.size, 4, none⟩ = some (.int .i64 b1) ∧ W.cell? ⟨w.heap.size, 5, none⟩ = some (.int .i64 a2) ∧ W.cell? ⟨w.heap.size, 6, none⟩ = some (.int .i64 b2) ∧ W.cell? ⟨w.heap.size, 7, none⟩ = some (.int .i64 a3) ∧ W.cell? ⟨w.heap.size, 8, none⟩ = some (.int .i64 b3) ∧ W.cell? ⟨w.heap.size + 1, 0, none⟩ = some (.slice ra rs.length rc) ∧ W.cell? ⟨w.heap.size + 1, 1, none⟩ = some (.int .i64 off) ∧ W.cell? ⟨w.heap.size + 1, 2, none⟩ = some (.slice za zs.length zc) ∧ W.cell? ⟨w.heap.size + 1, 3, none⟩ = some (.slice fa fs.length fc) ∧ W.cell? ⟨w.heap.size + 1 + 1, 0, none⟩ = some (.slice (some ⟨z, 0, none⟩) 2 cp) ∧ W.cell? ⟨z, 0, none⟩ = some (.int .i64 c) ∧ W.cell? ⟨z, 1, none⟩ = some (.int .i64 d) ∧ Below w0.heap.size w0 W from
      have ⟨m1, m2, m3, m4, m5, m6, m7, m8, m9, q1, q2, q3, q4, q5, _⟩ := KP.out W hb
      ⟨m1, m2, m3, m4, m5, m6, m7, m8, m9, q1, q2, q3, q4, q5, later (bnext B0.out hb) Z0.out, later (bnext B0.out hb) Z1.out, hb⟩))
    have ON := hide (World.ownsRow_nil w0 w0.heap.size 68 1)
    obtain ⟨ti, hi, hz0, hz1, hz2⟩ := info_parts sets_info
    have HI := hide hi
    have HZ0 := hide hz0
    have HZ1 := hide hz1
    have HZ2 := hide hz2
    clear hi hz0 hz1 hz2 k0
    have ix1 : IntKind.wrap .i64 0 = 0 := by decide
    have ix2 : wrap64 0 = 0 := (IntWalk.i64_left _).symm.trans ix1
    have ix3 : IntKind.i64.wrap 0 = 0 := ix1
    go_upto_region 8 with fail
    go_region_held3 (fun W => W.cell? ⟨w.heap.size, 0, none⟩ = some (.int .i64 s) ∧ W.cell? ⟨w.heap.size, 1, none⟩ = some (.int .i64 a0) ∧ W.cell? ⟨w.heap.size, 2, none⟩ = some (.int .i64 b0) ∧ W.cell? ⟨w.heap.size, 3, none⟩ = some (.int .i64 a1) ∧ W.cell? ⟨w.heap.size, 4, none⟩ = some (.int .i64 b1) ∧ W.cell? ⟨w.heap.size, 5, none⟩ = some (.int .i64 a2) ∧ W.cell? ⟨w.heap.size, 6, none⟩ = some (.int .i64 b2) ∧ W.cell? ⟨w.heap.size, 7, none⟩ = some (.int .i64 a3) ∧ W.cell? ⟨w.heap.size, 8, none⟩ = some (.int .i64 b3) ∧ W.cell? ⟨w.heap.size + 1, 0, none⟩ = some (.slice ra rs.length rc) ∧ W.cell? ⟨w.heap.size + 1, 1, none⟩ = some (.int .i64 off) ∧ W.cell? ⟨w.heap.size + 1, 2, none⟩ = some (.slice za zs.length zc) ∧ W.cell? ⟨w.heap.size + 1, 3, none⟩ = some (.slice fa fs.length fc) ∧ W.cell? ⟨w.heap.size + 1 + 1, 0, none⟩ = some (.slice (some ⟨z, 0, none⟩) 2 cp) ∧ W.cell? ⟨z, 0, none⟩ = some (.int .i64 c) ∧ W.cell? ⟨z, 1, none⟩ = some (.int .i64 d) ∧ Below w0.heap.size w0 W)
      (first | (exact KQ.out _ (by exact (by repeat (first | exact Below.refl _ _ | assumption | apply balloc | apply bdrew | (refine below_drewN ?_ _) | (refine bset ?_ (by first | (simp; done) | omega | (simp; omega)) _) | (refine bnext ?_ (by assumption)))))) | (go_split_ands; refine KQ.out _ ?_; exact (by repeat (first | exact Below.refl _ _ | assumption | apply balloc | apply bdrew | (refine below_drewN ?_ _) | (refine bset ?_ (by first | (simp; done) | omega | (simp; omega)) _) | (refine bnext ?_ (by assumption))))) | (exact KQ.out _ (bdrew BW.out)))
      (first
        | (go_at_call 74; refine (PR.out _ (bnext B0.out (by go_split_ands; assumption))).mono ?_; rintro e wA ⟨q, rfl, hrow, hqs, hbA⟩)
        | (refine step_append_lies _ (by rfl) (.tmp 31) (.tmp 44) 63 (by rfl) w0.heap.size 68 ti (.slice none 0 0) 1 24 Tryz.underlying63 HI.out HZ0.out HZ1.out HZ2.out rfl (by decide) _ 0 [] (by rfl) (World.ownsRow_nil _ _ _ _) _ 1 1 [.slice (some ⟨q, 0, none⟩) zs.length zs.length] (by rfl) rfl (by intro j u hu; match j, hu with | 0, hu => (simp at hu; subst hu; simp [go_sem, Addr.add]) | i + 1, hu => simp at hu) (by intro u hu; simp at hu; subst hu; rfl) (by omega) (by unfold maxLen; omega) (by omega) (by exact (show Below w0.heap.size w0 _ from (by repeat (first | exact Below.refl _ _ | assumption | apply balloc | apply bdrew | (refine below_drewN ?_ _) | (refine bset ?_ (by first | (simp; done) | omega | (simp; omega)) _) | (refine bnext ?_ (by assumption))))).size) _ rfl ?_; intro g gc w4 hown4 hgrow hlie hlt4; have hB4 : Below w0.heap.size w0 w4 := Below.grown (by exact (by repeat (first | exact Below.refl _ _ | assumption | apply balloc | apply bdrew | (refine below_drewN ?_ _) | (refine bset ?_ (by first | (simp; done) | omega | (simp; omega)) _) | (refine bnext ?_ (by assumption))))) hgrow (by exact (show Below w0.heap.size w0 _ from (by repeat (first | exact Below.refl _ _ | assumption | apply balloc | apply bdrew | (refine below_drewN ?_ _) | (refine bset ?_ (by first | (simp; done) | omega | (simp; omega)) _) | (refine bnext ?_ (by assumption))))).size) (fun k hk => by simp [Value.ownBlock] at hk)))
    all_goals
      have PX := hide (show w4.cell? ⟨g, 0, none⟩ = some (.slice (some ⟨q, 0, none⟩) zs.length zs.length) by rw [hown4.cellAt 0 (by decide)]; rfl)
      have QX := hide (show w4.rowIs q 29 zs.length (fun j => .int .u8 (P j : Int)) from (hrow.alloc _).of_block (hgrow.block q (by have := hrow.lt; simp; omega) (by simp [Value.ownBlock])))
      have BX := hide hB4
      have ⟨_, _, _, _, _, _, _, _, _, _, _, _, _, k0, _⟩ := KP.out _ hB4
      clear ix1 ix2 ix3 hown4 hgrow hlie hB4 hrow hqs
      go_wp2_with fail
      rw [rounds_succ]
      go_wp2_with fail
      exact bodyPost_ret (v := .tuple #[.slice (some ⟨g, 0, none⟩) 1 gc, .int .i64 0]) (by simp [results, Tryz.results33, go_sem]) rfl ⟨g, gc, q, rfl, PX.out, QX.out, bnext B0.out BX.out⟩
end Go.Proofs.YtimfbjnpalgmcaaGreat
