/-
  defect: Usable of invalid input.
-/
import Derived.Test.YtimfbjnpalgmcaaGreatGrG
import Derived.Test.YtimfbjnpalgmcaaGreatDfO
namespace Go.Proofs.YtimfbjnpalgmcaaGreat
set_option linter.unusedSimpArgs false
set_option linter.unusedVariables false
set_option linter.unusedSimpArgs false
set_option linter.unusedVariables false
open Go.RowKit

theorem usable1_any (g : Gr) (p : GrA) (sw : Int) (q r : Nat) (w : World) (hl : GrLen g) (h : IsGr w g p) (hq : GrAt w q g p) (hr : w.cell? ⟨r, 0, none⟩ = some (.int .u8 sw)) :
    Calls Tryz.prog 77 #[.pointer (some ⟨q, 0, none⟩), .pointer (some ⟨r, 0, none⟩)] w fun e w' => e = .returned (.bool (grwOk g && decide (sw < 32))) ∧ Below w.heap.size w w' := by
  have IG := hide (isGrowth_any g p w h hl.1.1 hl.1.2 hl.2)
  have HR := hide hr
  obtain ⟨u, hu⟩ : ∃ u, grwOk g = u := ⟨_, rfl⟩
  rw [hu] at IG ⊢
  clear hu
  obtain ⟨rs, off, zs, fs⟩ := g
  obtain ⟨ra, rc, za, zc, fa, fc⟩ := p
  have ⟨⟨c0, c1⟩, c2, c3⟩ := hq
  simp only at c0 c1 c2 c3
  clear h hq hl hr
  cases u with
  | false =>
    go_enter Tryz.func77, Tryz.ntmps77
    go_wp2_with fail
    refine IG.out.mono ?_
    rintro e w1 ⟨rfl, hb1⟩
    go_wp2_with fail
    go_ret
    exact ⟨rfl, hb1⟩
  | true =>
    go_enter Tryz.func77, Tryz.ntmps77
    go_wp2_with fail
    refine IG.out.mono ?_
    rintro e w1 ⟨rfl, hb1⟩
    have c4 := later hb1 HR.out
    go_wp2_with fail
    refine (isSet_any sw _).mono ?_
    rintro e w2 ⟨rfl, rfl⟩
    go_wp2_with fail
    go_ret
    exact ⟨ret_bool (by simp), hb1⟩
set_option maxRecDepth 100000 in
set_option maxHeartbeats 3200000 in
theorem usable_bad (s a0 b0 a1 b1 a2 b2 a3 b3 off sw : Int) (rs zs fs : List (Int × Int)) (ra za fa : Option Addr) (rc zc fc : Nat) (k1 k2 : Bool) (w : World) (hm : mdlOk ⟨s, a0, b0, a1, b1, a2, b2, a3, b3⟩ = k1) (hg : (grwOk ⟨rs, off, zs, fs⟩ && decide (sw < 32)) = k2) (hl : GrLen ⟨rs, off, zs, fs⟩) (h : IsGr w ⟨rs, off, zs, fs⟩ ⟨ra, rc, za, zc, fa, fc⟩) (hk : (k1 && k2) = false) :
    Calls Tryz.prog 38 #[.agg #[.int .i64 s, .int .i64 a0, .int .i64 b0, .int .i64 a1, .int .i64 b1, .int .i64 a2, .int .i64 b2, .int .i64 a3, .int .i64 b3], .agg #[.slice ra rs.length rc, .int .i64 off, .slice za zs.length zc, .slice fa fs.length fc], .int .u8 sw] w fun e w' => e = .returned (.tuple #[.slice none 0 0, .int .i64 2]) ∧ Below w.heap.size w w' := by
  have VM := hide (fun (W : World) => (show Calls Tryz.prog 51 #[.agg #[.int .i64 s, .int .i64 a0, .int .i64 b0, .int .i64 a1, .int .i64 b1, .int .i64 a2, .int .i64 b2, .int .i64 a3, .int .i64 b3]] W fun e w' => e = .returned (.func (.func 109) #[] #[.pointer (some ⟨W.heap.size + 1 + 1, 0, none⟩), .pointer (some ⟨W.heap.size + 1, 0, none⟩)]) ∧
      CndTells w' ⟨2, 109, #[.pointer (some ⟨W.heap.size + 1 + 1, 0, none⟩), .pointer (some ⟨W.heap.size + 1, 0, none⟩)], k1⟩ ∧ Below W.heap.size W w' from validModel_ex ⟨s, a0, b0, a1, b1, a2, b2, a3, b3⟩ k1 W hm))
  have TL := hide (fun (W : World) (hb : Below w.heap.size w W) (c1 : GrAt W (w.heap.size + 1) ⟨rs, off, zs, fs⟩ ⟨ra, rc, za, zc, fa, fc⟩) (c2 : W.cell? ⟨w.heap.size + 1 + 1, 0, none⟩ = some (.int .u8 sw)) => (show Tells W 77 #[.pointer (some ⟨w.heap.size + 1, 0, none⟩), .pointer (some ⟨w.heap.size + 1 + 1, 0, none⟩)] k2 from
    hg ▸ ⟨enters_any Tryz.func77 (by kernel_rfl) rfl _, fun V hV => usable1_any ⟨rs, off, zs, fs⟩ ⟨ra, rc, za, zc, fa, fc⟩ sw _ _ V hl (gr_later h (bnext hb hV)) (grAt_later c1 hV) (later hV c2)⟩))
  have FE := hide (fun c d => (show firstE [⟨2, 109, c, k1⟩, ⟨2, 109, d, k2⟩] = 2 by cases k1 <;> cases k2 <;> first | rfl | (cases hk)))
  clear hm hg h hl hk
  go_enter Tryz.func38, Tryz.ntmps38
  go_upto_region 1 with fail
  obtain ⟨w0, hw0⟩ : ∃ y, y = ((w.alloc (.cells #[.int .i64 s, .int .i64 a0, .int .i64 b0, .int .i64 a1, .int .i64 b1, .int .i64 a2, .int .i64 b2, .int .i64 a3, .int .i64 b3] 26)).alloc (.cells #[.slice ra rs.length rc, .int .i64 off, .slice za zs.length zc, .slice fa fs.length fc] 58)).alloc (.cells #[.int .u8 sw] 29) := ⟨_, rfl⟩
  rw [← hw0]
  have B0 := hide (show Below w.heap.size w w0 by rw [hw0]; exact (by repeat (first | exact Below.refl _ _ | assumption | apply balloc | apply bdrew | (refine below_drewN ?_ _) | (refine bset ?_ (by first | (simp; done) | omega | (simp; omega)) _) | (refine bnext ?_ (by assumption)))))
  obtain ⟨⟨⟨⟨m1, m2⟩, m3⟩, m4, m5⟩, ⟨m6, m7⟩, m8, m9⟩ := (show MdlAt w0 w.heap.size ⟨s, a0, b0, a1, b1, a2, b2, a3, b3⟩ by rw [hw0]; exact mdlAt_later (mdlAt_new w ⟨s, a0, b0, a1, b1, a2, b2, a3, b3⟩ 26) (by repeat (first | exact Below.refl _ _ | assumption | apply balloc | apply bdrew | (refine below_drewN ?_ _) | (refine bset ?_ (by first | (simp; done) | omega | (simp; omega)) _) | (refine bnext ?_ (by assumption)))))
  have T0 := hide (TL.out w0 B0.out (by rw [hw0]; refine ⟨⟨?_, ?_⟩, ?_, ?_⟩ <;> exact (by simp [go_sem, World.cell?_alloc_past])) (by rw [hw0]; exact (by simp [go_sem, World.cell?_alloc_past])))
  simp only at m1 m2 m3 m4 m5 m6 m7 m8 m9
  clear hw0 TL
  go_wp2_with fail
  refine (VM.out _).mono ?_
  rintro e wA ⟨rfl, hA, hbA⟩
  (try simp at hA)
  have HA := hide hA
  have BA := hide hbA
  clear hA hbA m1 m2 m3 m4 m5 m6 m7 m8 m9
  go_wp2_with fail
  refine (unless_ex 2 _ _ k2 wA rfl (tells_later T0.out BA.out)).mono ?_
  rintro e wB ⟨rfl, hB, hbB⟩
  (try simp at hB)
  have HB := hide hB
  have BB := hide hbB
  clear hB hbB
  go_wp2_with fail
  refine (firstError_is 2 [⟨2, 109, _, k1⟩, ⟨2, 109, _, k2⟩] _ _ _ (FE.out _ _) (by simp) (by simp) (cnds_two_at (by simp)) (tells_two (cnd_later HA.out (show Below wA.heap.size wA _ from balloc BB.out)) (fun _ => cnd_later HB.out (balloc (Below.refl _ _))))).mono ?_
  rintro e wC ⟨rfl, hbC⟩
  have BC := hide (show Below w0.heap.size w0 wC from bnext (balloc (bnext BA.out BB.out)) hbC)
  clear hbC HA HB BA BB T0 VM FE
  go_wp2_with fail
  exact bodyPost_ret (v := .tuple #[.slice none 0 0, .int .i64 2]) (by simp [results, Tryz.results38, go_sem]) rfl ⟨rfl, bnext B0.out BC.out⟩
end Go.Proofs.YtimfbjnpalgmcaaGreat
