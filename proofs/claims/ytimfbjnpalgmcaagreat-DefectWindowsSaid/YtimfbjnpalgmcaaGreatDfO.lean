/-
  defect: Usable.
-/
import Derived.Test.YtimfbjnpalgmcaaGreatDgL
import Derived.Test.YtimfbjnpalgmcaaGreatWh
namespace Go.Proofs.YtimfbjnpalgmcaaGreat
set_option linter.unusedSimpArgs false
set_option linter.unusedVariables false
open Go.RowKit

/-- Is nothing unwanted in any set? -/
def wantQ (P : Nat → Nat) (s : Int) (n : Nat) : Bool := (List.range n).all fun j => bits BinOp.andNot IntKind.u8 (P j : Int) s == 0
set_option maxHeartbeats 1600000 in
theorem areWanted_any (P : Nat → Nat) (s : Int) (q n : Nat) (w : World) (hn : n ≤ 20) (h : w.rowIs q 29 n (fun j => .int .u8 (P j : Int))) :
    Calls Tryz.prog 79 #[.slice (some ⟨q, 0, none⟩) n n, .int .u8 s] w fun e w' => e = .returned (.bool (wantQ P s n)) ∧ w = w' := by
  have HR := hide h
  obtain ⟨u, hu⟩ : ∃ u, wantQ P s n = u := ⟨_, rfl⟩
  have HU := hide hu
  rw [hu]
  clear h hu
  go_enter Tryz.func79, Tryz.ntmps79
  go_wp2_with fail
  go_loop [9] (fun i => ∃ k : Nat, k ≤ n ∧ i = .int .i64 (k : Int) ∧ Hid ((List.range k).all (fun j => bits BinOp.andNot IntKind.u8 (P j : Int) s == 0) = true)) (fun i => n - (intOf i).toNat)
  case atStart => exact ⟨0, by omega, rfl, rfl⟩
  case round =>
    obtain ⟨k, hk, rfl, hall⟩ := hrel
    by_cases hlt : k < n
    · have c := HR.out.cell hlt
      have k0 : 0 ≤ (k : Int) := by omega
      have k1 : (k : Int) < n := by omega
      have S1 := hide (fun h1 => range_step (f := fun j => bits BinOp.andNot IntKind.u8 (P j : Int) s == 0) hall.out h1)
      have S2 := hide (fun h1 => range_stop (f := fun j => bits BinOp.andNot IntKind.u8 (P j : Int) s == 0) hlt h1)
      generalize P k = p at *
      by_cases g : bits BinOp.andNot IntKind.u8 (p : Int) s = 0
      · have d : (bits BinOp.andNot IntKind.u8 (p : Int) s != 0) = false := by rw [g]; rfl
        have E := hide (S1.out (by simpa using g))
        clear g S1 S2 hall
        go_wp2_with fail
        go_round
        case rel => exact ⟨k + 1, by omega, by go_num, E⟩
        case measure => simp [intOf]; omega
      · have d : (bits BinOp.andNot IntKind.u8 (p : Int) s != 0) = true := by simpa using g
        have E := hide (show u = false by rw [← HU.out]; exact S2.out (by simpa using g))
        clear g S1 S2 hall
        go_wp2_with fail
        go_ret
        exact ⟨ret_bool E.out.symm, rfl⟩
    · have E := hide (show u = true by rw [← HU.out, wantQ, ← hall.out, show k = n by omega])
      go_wp2_with fail
      go_ret
      exact ⟨ret_bool E.out.symm, rfl⟩

/-- The stretches whose millimetres are fine. -/
def usaN (fine : Int → Bool) (x : Int) : Nat → List (Int × Int)
  | 0 => []
  | n + 1 => if fine (x + n) then appR (usaN fine x n) (x + n, x + n + 1) else usaN fine x n
theorem usaN_len (fine : Int → Bool) (x : Int) : ∀ n, (usaN fine x n).length ≤ n := by
  intro n
  induction n with
  | zero => simp [usaN]
  | succ n ih =>
    unfold usaN
    split
    · have := appR_length (usaN fine x n) (x + n, x + n + 1); omega
    · omega
def UsPost (w : World) (L : List (Int × Int)) (e : Ending) (w' : World) : Prop := ∃ v, e = .returned (.tuple #[v, .int .i64 0]) ∧ w'.ownsRow w.heap.size 23 2 v L.length (rowOf L) ∧ Below w.heap.size w w'
theorem usable1_good (g : Gr) (p : GrA) (sw : Int) (q r : Nat) (w : World) (hg : GrwOk g) (h : IsGr w g p) (hq : GrAt w q g p) (hr : w.cell? ⟨r, 0, none⟩ = some (.int .u8 sw)) (hs : sw < 32) :
    Calls Tryz.prog 77 #[.pointer (some ⟨q, 0, none⟩), .pointer (some ⟨r, 0, none⟩)] w fun e w' => e = .returned (.bool true) ∧ Below w.heap.size w w' := by
  obtain ⟨rs, off, zs, fs⟩ := g
  obtain ⟨ra, rc, za, zc, fa, fc⟩ := p
  have IG := hide (isGrowth_good rs zs fs off ra za fa rc zc fc w hg h)
  have ⟨⟨c0, c1⟩, c2, c3⟩ := hq
  have C := hide hr
  have IS := hide (fun W => (show Calls Tryz.prog 62 #[.int .u8 sw] W fun e w' => e = .returned (.bool true) ∧ W = w' by have c := isSet_any sw W; rwa [decide_eq_true hs] at c))
  simp only at c0 c1 c2 c3
  clear hg h hq hr hs
  go_enter Tryz.func77, Tryz.ntmps77
  go_wp2_with fail
  refine IG.out.mono ?_
  rintro e w1 ⟨rfl, hb1⟩
  have d := later hb1 C.out
  go_wp2_with fail
  refine (IS.out _).mono ?_
  rintro e w2 ⟨rfl, rfl⟩
  go_wp2_with fail
  go_ret
  exact ⟨rfl, hb1⟩

set_option maxRecDepth 100000 in
set_option maxHeartbeats 6400000 in
theorem usable_go (s a0 b0 a1 b1 a2 b2 a3 b3 off sw x y : Int) (rs zs fs : List (Int × Int)) (ra za fa : Option Addr) (rc zc fc : Nat) (P : Int → Nat → Nat) (fine : Int → Bool) (w : World) (hm : mdlOk ⟨s, a0, b0, a1, b1, a2, b2, a3, b3⟩ = true) (hg : GrwOk ⟨rs, off, zs, fs⟩) (h : IsGr w ⟨rs, off, zs, fs⟩ ⟨ra, rc, za, zc, fa, fc⟩) (hs : sw < 32) (hx : (plcQ rs).1 = x) (hy : (plcQ rs).2 = y) (xy : x ≤ y) (x0 : 0 ≤ x) (y1 : y ≤ 3000)
    (hf : Hid (∀ k, fine k = wantQ (P k) sw zs.length)) (PR : Hid (∀ W k, x ≤ k → k < y → Below w.heap.size w W → Calls Tryz.prog 74 #[.agg #[.int .i64 s, .int .i64 a0, .int .i64 b0, .int .i64 a1, .int .i64 b1, .int .i64 a2, .int .i64 b2, .int .i64 a3, .int .i64 b3], .agg #[.slice ra rs.length rc, .int .i64 off, .slice za zs.length zc, .slice fa fs.length fc], .int .i64 k, .int .i64 (k + 1)] W (PrPost W zs.length (P k)))) :
    Calls Tryz.prog 38 #[.agg #[.int .i64 s, .int .i64 a0, .int .i64 b0, .int .i64 a1, .int .i64 b1, .int .i64 a2, .int .i64 b2, .int .i64 a3, .int .i64 b3], .agg #[.slice ra rs.length rc, .int .i64 off, .slice za zs.length zc, .slice fa fs.length fc], .int .u8 sw] w (UsPost w (usaN fine x (y - x).toNat)) := by
  have r2 := len_of hg.t1
  have zn := hg.z1
  simp only at r2 zn
  have VM := hide (fun (W : World) => (show Calls Tryz.prog 51 #[.agg #[.int .i64 s, .int .i64 a0, .int .i64 b0, .int .i64 a1, .int .i64 b1, .int .i64 a2, .int .i64 b2, .int .i64 a3, .int .i64 b3]] W fun e w' => e = .returned (.func (.func 109) #[] #[.pointer (some ⟨W.heap.size + 1 + 1, 0, none⟩), .pointer (some ⟨W.heap.size + 1, 0, none⟩)]) ∧
      CndTells w' ⟨2, 109, #[.pointer (some ⟨W.heap.size + 1 + 1, 0, none⟩), .pointer (some ⟨W.heap.size + 1, 0, none⟩)], true⟩ ∧ Below W.heap.size W w' from validModel_ex ⟨s, a0, b0, a1, b1, a2, b2, a3, b3⟩ true W hm))
  have TL := hide (fun (W : World) (hb : Below w.heap.size w W) (k1 : GrAt W (w.heap.size + 1) ⟨rs, off, zs, fs⟩ ⟨ra, rc, za, zc, fa, fc⟩) (k2 : W.cell? ⟨w.heap.size + 1 + 1, 0, none⟩ = some (.int .u8 sw)) => (show Tells W 77 #[.pointer (some ⟨w.heap.size + 1, 0, none⟩), .pointer (some ⟨w.heap.size + 1 + 1, 0, none⟩)] true from
    ⟨enters_any Tryz.func77 (by kernel_rfl) rfl _, fun V hV => usable1_good ⟨rs, off, zs, fs⟩ ⟨ra, rc, za, zc, fa, fc⟩ sw _ _ V hg (gr_later h (bnext hb hV)) (grAt_later k1 hV) (later hV k2) hs⟩))
  have PL := hide (fun W (hb : Below w.heap.size w W) => (show Calls Tryz.prog 73 #[.slice ra rs.length rc] W fun e w' => e = .returned (.agg #[.int .i64 x, .int .i64 y]) ∧ Below W.heap.size W w' by
    rw [← hx, ← hy]; exact places_any rs (rs.length - 1) ra rc W (by omega) (by omega) (pairs_later h.1.1 hb)))
  clear hx hy r2 hm hg h hs
  go_enter Tryz.func38, Tryz.ntmps38
  go_upto_region 1 with fail
  obtain ⟨w0, hw0⟩ : ∃ y, y = ((w.alloc (.cells #[.int .i64 s, .int .i64 a0, .int .i64 b0, .int .i64 a1, .int .i64 b1, .int .i64 a2, .int .i64 b2, .int .i64 a3, .int .i64 b3] 26)).alloc (.cells #[.slice ra rs.length rc, .int .i64 off, .slice za zs.length zc, .slice fa fs.length fc] 58)).alloc (.cells #[.int .u8 sw] 29) := ⟨_, rfl⟩
  rw [← hw0]
  have B0 := hide (show Below w.heap.size w w0 by rw [hw0]; exact (by repeat (first | exact Below.refl _ _ | assumption | apply balloc | apply bdrew | (refine below_drewN ?_ _) | (refine bset ?_ (by first | (simp; done) | omega | (simp; omega)) _) | (refine bnext ?_ (by assumption)))))
  have KP := hide (fun (W : World) (hb : Below w0.heap.size w0 W) => (show W.cell? ⟨w.heap.size, 0, none⟩ = some (.int .i64 s) ∧ W.cell? ⟨w.heap.size, 1, none⟩ = some (.int .i64 a0) ∧ W.cell? ⟨w.heap.size, 2, none⟩ = some (.int .i64 b0) ∧ W.cell? ⟨w.heap.size, 3, none⟩ = some (.int .i64 a1) ∧ W.cell? ⟨w.heap.size, 4, none⟩ = some (.int .i64 b1) ∧ W.cell? ⟨w.heap.size, 5, none⟩ = some (.int .i64 a2) ∧ W.cell? ⟨w.heap.size, 6, none⟩ = some (.int .i64 b2) ∧ W.cell? ⟨w.heap.size, 7, none⟩ = some (.int .i64 a3) ∧ W.cell? ⟨w.heap.size, 8, none⟩ = some (.int .i64 b3) ∧ W.cell? ⟨w.heap.size + 1, 0, none⟩ = some (.slice ra rs.length rc) ∧ W.cell? ⟨w.heap.size + 1, 1, none⟩ = some (.int .i64 off) ∧ W.cell? ⟨w.heap.size + 1, 2, none⟩ = some (.slice za zs.length zc) ∧ W.cell? ⟨w.heap.size + 1, 3, none⟩ = some (.slice fa fs.length fc) ∧ W.cell? ⟨w.heap.size + 1 + 1, 0, none⟩ = some (.int .u8 sw) ∧ Below w0.heap.size w0 W by
    obtain ⟨⟨⟨⟨m1, m2⟩, m3⟩, m4, m5⟩, ⟨m6, m7⟩, m8, m9⟩ := (show MdlAt w0 w.heap.size ⟨s, a0, b0, a1, b1, a2, b2, a3, b3⟩ by rw [hw0]; exact mdlAt_later (mdlAt_new w ⟨s, a0, b0, a1, b1, a2, b2, a3, b3⟩ 26) (by repeat (first | exact Below.refl _ _ | assumption | apply balloc | apply bdrew | (refine below_drewN ?_ _) | (refine bset ?_ (by first | (simp; done) | omega | (simp; omega)) _) | (refine bnext ?_ (by assumption)))))
    refine ⟨later hb m1, later hb m2, later hb m3, later hb m4, later hb m5, later hb m6, later hb m7, later hb m8, later hb m9, later hb ?_, later hb ?_, later hb ?_, later hb ?_, later hb ?_, hb⟩ <;> (rw [hw0]; exact (by simp [go_sem, World.cell?_alloc_past]))))
  clear hw0
  have ⟨m1, m2, m3, m4, m5, m6, m7, m8, m9, q1, q2, q3, q4, q5, _⟩ := KP.out w0 (Below.refl _ _)
  have T0 := hide (TL.out w0 B0.out ⟨⟨q1, q2⟩, q3, q4⟩ q5)
  clear q1 q2 q3 q4 q5
  go_wp2_with fail
  refine (VM.out _).mono ?_
  rintro e wA ⟨rfl, hA, hbA⟩
  (try simp at hA)
  have HA := hide hA
  have BA := hide hbA
  clear hA hbA m1 m2 m3 m4 m5 m6 m7 m8 m9
  go_wp2_with fail
  refine (unless_ex 2 _ _ true wA rfl (tells_later T0.out BA.out)).mono ?_
  rintro e wB ⟨rfl, hB, hbB⟩
  (try simp at hB)
  have HB := hide hB
  have BB := hide hbB
  clear hB hbB
  go_wp2_with fail
  refine (firstError_is 0 [⟨2, 109, _, true⟩, ⟨2, 109, _, true⟩] _ _ _ rfl (by simp) (by simp) (cnds_two_at (by simp)) (tells_two (cnd_later HA.out (show Below wA.heap.size wA _ from balloc BB.out)) (fun _ => cnd_later HB.out (balloc (Below.refl _ _))))).mono ?_
  rintro e wC ⟨rfl, hbC⟩
  have BC := hide (show Below w0.heap.size w0 wC from bnext (balloc (bnext BA.out BB.out)) hbC)
  have fx0 := fun W => (show (Instr.field 23 (.agg #[.int .i64 x, .int .i64 y]) 0).run Tryz.prog W = .ok (.int .i64 x) W by kernel_rfl)
  have fx1 := fun W => (show (Instr.field 23 (.agg #[.int .i64 x, .int .i64 y]) 1).run Tryz.prog W = .ok (.int .i64 y) W by kernel_rfl)
  clear hbC HA HB BA BB T0 TL VM
  have ⟨_, _, _, _, _, _, _, _, _, q1, _, _, _, _, _⟩ := KP.out wC BC.out
  go_wp2_with fail
  refine (PL.out _ (bnext B0.out BC.out)).mono ?_
  rintro e wD ⟨rfl, hbD⟩
  have BD := hide (bnext BC.out hbD)
  clear hbD q1
  go_wp2_with fail
  go_loopw [9, 10] (fun v i wr => ∃ n : Nat, x + n ≤ y ∧ i = .int .i64 (x + n) ∧ Hid (wr.ownsRow wD.heap.size 23 2 v (usaN fine x n).length (rowOf (usaN fine x n))) ∧ Below wD.heap.size wD wr) (fun _ i _ => (y - intOf i).toNat)
  case atStart => exact ⟨0, by omega, by simp, hide (World.ownsRow_nil _ _ _ _), Below.refl _ _⟩
  case round =>
    obtain ⟨n, hn, rfl, hown, hbw⟩ := hrel
    have BR := hide (show Below w0.heap.size w0 wr from bnext BD.out hbw)
    have ⟨_, _, _, _, _, _, _, _, _, q1, _, _, _, _, _⟩ := KP.out wr BR.out
    obtain ⟨k, hk⟩ : ∃ k, x + n = k := ⟨_, rfl⟩
    rw [hk] at hn
    have HK := hide hk
    clear hk
    rw [HK.out]
    by_cases hlt : k < y
    · have d : decide (k < y) = true := decide_eq_true hlt
      go_wp2_with fail
      refine (PL.out _ (bnext B0.out BR.out)).mono ?_
      rintro e w1 ⟨rfl, hb1⟩
      have B1 := hide (bnext BR.out hb1)
      have O1 := hide (owns_later hown.out hb1)
      have BW1 := hide (bnext hbw hb1)
      clear hb1 q1 hown hbw
      have kb0 : 0 ≤ k := by have := HK.out; omega
      have kb1 : k < 3000 := by omega
      have kw : IntKind.i64.wrap (k + 1) = k + 1 := IntWalk.i64_in _ (by omega)
      have KP1 := hide (fun (W : World) (hb : Below w1.heap.size w1 W) => (show W.cell? ⟨w.heap.size, 0, none⟩ = some (.int .i64 s) ∧ W.cell? ⟨w.heap.size, 1, none⟩ = some (.int .i64 a0) ∧ W.cell? ⟨w.heap.size, 2, none⟩ = some (.int .i64 b0) ∧ W.cell? ⟨w.heap.size, 3, none⟩ = some (.int .i64 a1) ∧ W.cell? ⟨w.heap.size, 4, none⟩ = some (.int .i64 b1) ∧ W.cell? ⟨w.heap.size, 5, none⟩ = some (.int .i64 a2) ∧ W.cell? ⟨w.heap.size, 6, none⟩ = some (.int .i64 b2) ∧ W.cell? ⟨w.heap.size, 7, none⟩ = some (.int .i64 a3) ∧ W.cell? ⟨w.heap.size, 8, none⟩ = some (.int .i64 b3) ∧ W.cell? ⟨w.heap.size + 1, 0, none⟩ = some (.slice ra rs.length rc) ∧ W.cell? ⟨w.heap.size + 1, 1, none⟩ = some (.int .i64 off) ∧ W.cell? ⟨w.heap.size + 1, 2, none⟩ = some (.slice za zs.length zc) ∧ W.cell? ⟨w.heap.size + 1, 3, none⟩ = some (.slice fa fs.length fc) ∧ W.cell? ⟨w.heap.size + 1 + 1, 0, none⟩ = some (.int .u8 sw) ∧ Below w1.heap.size w1 W from
        have ⟨m1, m2, m3, m4, m5, m6, m7, m8, m9, q1, q2, q3, q4, q5, _⟩ := KP.out W (bnext B1.out hb)
        ⟨m1, m2, m3, m4, m5, m6, m7, m8, m9, q1, q2, q3, q4, q5, hb⟩))
      have PRk := hide (fun W (hb : Below w1.heap.size w1 W) => PR.out W k (by have := HK.out; omega) hlt (bnext (bnext B0.out B1.out) hb))
      have AW := hide (fun W q (hq : W.rowIs q 29 zs.length (fun j => .int .u8 (P k j : Int))) => (show Calls Tryz.prog 79 #[.slice (some ⟨q, 0, none⟩) zs.length zs.length, .int .u8 sw] W fun e w' => e = .returned (.bool (fine k)) ∧ W = w' by rw [hf.out k]; exact areWanted_any (P k) sw q zs.length W zn hq))
      have HS := hide (show usaN fine x (n + 1) = if fine k then appR (usaN fine x n) (k, k + 1) else usaN fine x n by rw [← HK.out]; rfl)
      have HLn := hide (usaN_len fine x n)
      go_upto_region 9 with fail
      generalize fine k = fk at *
      generalize usaN fine x n = L at *
      go_region_held3 (fun W => W.cell? ⟨w.heap.size, 0, none⟩ = some (.int .i64 s) ∧ W.cell? ⟨w.heap.size, 1, none⟩ = some (.int .i64 a0) ∧ W.cell? ⟨w.heap.size, 2, none⟩ = some (.int .i64 b0) ∧ W.cell? ⟨w.heap.size, 3, none⟩ = some (.int .i64 a1) ∧ W.cell? ⟨w.heap.size, 4, none⟩ = some (.int .i64 b1) ∧ W.cell? ⟨w.heap.size, 5, none⟩ = some (.int .i64 a2) ∧ W.cell? ⟨w.heap.size, 6, none⟩ = some (.int .i64 b2) ∧ W.cell? ⟨w.heap.size, 7, none⟩ = some (.int .i64 a3) ∧ W.cell? ⟨w.heap.size, 8, none⟩ = some (.int .i64 b3) ∧ W.cell? ⟨w.heap.size + 1, 0, none⟩ = some (.slice ra rs.length rc) ∧ W.cell? ⟨w.heap.size + 1, 1, none⟩ = some (.int .i64 off) ∧ W.cell? ⟨w.heap.size + 1, 2, none⟩ = some (.slice za zs.length zc) ∧ W.cell? ⟨w.heap.size + 1, 3, none⟩ = some (.slice fa fs.length fc) ∧ W.cell? ⟨w.heap.size + 1 + 1, 0, none⟩ = some (.int .u8 sw) ∧ Below w1.heap.size w1 W)
        (first | (exact KP1.out _ (bdrew (Below.refl _ _))) | (go_split_ands; refine KP1.out _ ?_; exact (by repeat (first | exact Below.refl _ _ | assumption | apply balloc | apply bdrew | (refine below_drewN ?_ _) | (refine bset ?_ (by first | (simp; done) | omega | (simp; omega)) _) | (refine bnext ?_ (by assumption))))))
        (first
          | (go_at_call 74; refine (PRk.out _ (by go_split_ands; assumption)).mono ?_; rintro e wA ⟨q, rfl, hrow, hqs, hbA⟩)
          | (go_at_call 79; refine (AW.out _ q hrow).mono ?_; rintro e wB ⟨rfl, rfl⟩))
      all_goals
        have O2 := hide (owns_later O1.out (show Below w1.heap.size w1 wA from bnext (bdrew (Below.refl _ _)) hbA))
        have BW2 := hide (show Below wD.heap.size wD wA from bnext (bdrew BW1.out) hbA)
        have SB2 := hide (show wD.heap.size ≤ wA.heap.size from BW2.out.size)
        have HN1 := hide (show k + 1 = x + ((n + 1 : Nat) : Int) by have := HK.out; omega)
        clear hrow hqs hbA kw
        cases fk
        · have HE := hide (show usaN fine x (n + 1) = L from HS.out)
          go_wp2_with fail
          go_roundw
          case rel => exact ⟨n + 1, by have := HN1.out; omega, by rw [HN1.out], hide (by rw [HE.out]; exact O2.out), BW2.out⟩
          case measure => simp [intOf]; omega
        · have HE := hide (show usaN fine x (n + 1) = appR L (k, k + 1) from HS.out)
          rcases List.eq_nil_or_concat L with hL | ⟨ds, z, hL⟩
          · obtain rfl : L = [] := hL
            obtain ⟨b9, c9, rfl, _, _⟩ := own_pairs O2.out
            have HE2 := hide (show usaN fine x (n + 1) = [(k, k + 1)] from HE.out)
            have O3 := hide (show wA.ownsRow wD.heap.size 23 2 (.slice b9 0 c9) 0 (rowOf []) from O2.out)
            clear HE HS O2 O1
            go_wp2_with (at_builtin; refine wpList_append_rg rfl (.tmp 32) (.tmp 37) rfl wD.heap.size _ [] rfl (O3.out.alloc _) _ k (k + 1) rfl ?_ ?_ ?_ ?_ ?_)
            · have := SB2.out; omega
            · intro g gc w3 hown3 hgrow hx3 hlt3
              have B3 := hide (Below.grown (balloc (o := .cells #[.int .i64 k, .int .i64 (k + 1)] 23) BW2.out) hgrow (by have := SB2.out; simp; omega) (fun k' hk' => (O3.out.lt k' hk').1))
              have N3 := hide hown3
              clear hown3 hgrow hx3
              go_wp2_with fail
              go_roundw
              case rel => exact ⟨n + 1, by have := HN1.out; omega, by rw [HN1.out], hide (by rw [HE2.out]; exact N3.out), B3.out⟩
              case measure => simp [intOf]; omega
          · obtain rfl : L = ds ++ [z] := by simpa using hL
            have dl : ds.length + 1 ≤ n := by have := HLn.out; simpa using this
            have hn3 : n ≤ 3000 := by have := HK.out; omega
            obtain ⟨g, c9, rfl, hgb, hglt⟩ := O2.out.form (by simp)
            have O3 := hide (show wA.ownsRow wD.heap.size 23 2 (.slice (some ⟨g, 0, none⟩) (ds.length + 1) c9) (ds.length + 1) (rowOf (ds ++ [z])) by have c := O2.out; simp only [List.length_append, List.length_singleton] at c; exact c)
            have HE2 := hide (show usaN fine x (n + 1) = if k = z.2 then ds ++ [(z.1, k + 1)] else (ds ++ [z]) ++ [(k, k + 1)] by rw [HE.out, appR_snoc])
            have c2 := O3.out.cellAt (ds.length * 2 + 1) (by omega)
            rw [rowOf_get2] at c2
            have f2 := O3.out.frozenAt (ds.length * 2 + 1)
            have ST := hide (O3.out.stored (ds.length * 2 + 1) (.int .i64 (k + 1))).1
            rw [rowOf_set] at ST
            obtain ⟨z1, z2⟩ := z
            simp only at c2 HE2 ST
            have hm0 : (0 : Int) ≤ (ds.length : Int) := by omega
            have hm1 : (ds.length : Int) < (ds.length : Int) + 1 := by omega
            have hm2 : (0 : Int) < (ds.length : Int) + 1 := by omega
            have hwk : IntKind.wrap .i64 (ds.length : Int) = ds.length := IntWalk.i64_in _ (by omega)
            have HGB := hide (And.intro hgb hglt)
            have HDL := hide dl
            simp only [List.length_append, List.length_singleton]
            clear HE HS O2 O1 hgb hglt dl hL
            by_cases hz : k = z2
            · have dz : (z2 == k) = true := by simpa using hz.symm
              have HE3 := hide (show usaN fine x (n + 1) = ds ++ [(z1, k + 1)] by rw [HE2.out, if_pos hz])
              clear hz HE2
              have BS := hide (show Below wD.heap.size wD (wA.setCell ⟨g, ds.length * 2 + 1, none⟩ (.int .i64 (k + 1))) from bset BW2.out HGB.out.1 _)
              go_wp2_with fail
              go_roundw
              case rel => exact ⟨n + 1, by have := HN1.out; omega, by rw [HN1.out], hide (by rw [HE3.out]; have c := ST.out; simp only [List.length_append, List.length_singleton]; exact c), BS.out⟩
              case measure => simp [intOf]; omega
            · have dz : (z2 == k) = false := by simpa using fun e => hz e.symm
              have HE3 := hide (show usaN fine x (n + 1) = (ds ++ [(z1, z2)]) ++ [(k, k + 1)] by rw [HE2.out, if_neg hz])
              clear hz HE2
              go_wp2_with (at_builtin; refine wpList_append_rg rfl (.tmp 32) (.tmp 37) rfl wD.heap.size _ (ds ++ [(z1, z2)]) rfl ((show wA.ownsRow wD.heap.size 23 2 (.slice (some ⟨g, 0, none⟩) (ds.length + 1) c9) (ds ++ [(z1, z2)]).length (rowOf (ds ++ [(z1, z2)])) by simpa using O3.out).alloc _) _ k (k + 1) rfl ?_ ?_ ?_ ?_ ?_)
              · exact (by simp [go_sem, World.cell?_alloc_past])
              · exact (by simp [go_sem, World.cell?_alloc_past])
              · have := HDL.out; simp; omega
              · have := SB2.out; simp; omega
              · intro g3 gc w3 hown3 hgrow hx3 hlt3
                have B3 := hide (Below.grown (balloc (o := .cells #[.int .i64 k, .int .i64 (k + 1)] 23) BW2.out) hgrow (by have := SB2.out; simp; omega) (fun k' hk' => (O3.out.lt k' hk').1))
                have N3 := hide (show w3.ownsRow wD.heap.size 23 2 (.slice (some ⟨g3, 0, none⟩) ((ds ++ [(z1, z2)]).length + 1) gc) ((ds ++ [(z1, z2)]) ++ [(k, k + 1)]).length (rowOf ((ds ++ [(z1, z2)]) ++ [(k, k + 1)])) by simpa using hown3)
                clear hown3 hgrow hx3 c2 f2
                go_wp2_with fail
                go_roundw
                case rel => exact ⟨n + 1, by have := HN1.out; omega, by rw [HN1.out], hide (by rw [HE3.out]; have c := N3.out; simp only [List.length_append, List.length_singleton] at c ⊢; exact c), B3.out⟩
                case measure => simp [intOf]; omega
    · have d : decide (k < y) = false := decide_eq_false hlt
      have hn2 := hide (show (y - x).toNat = n by have := HK.out; omega)
      go_wp2_with fail
      refine (PL.out _ (bnext B0.out BR.out)).mono ?_
      rintro e w1 ⟨rfl, hb1⟩
      have O1 := hide (owns_later hown.out hb1)
      have B1 := hide (bnext BR.out hb1)
      clear hb1 q1
      obtain ⟨b9, c9, rfl, _, _⟩ := own_pairs O1.out
      go_wp2_with fail
      exact bodyPost_ret (v := .tuple #[.slice b9 (usaN fine x n).length c9, .int .i64 0]) (by simp [results, Tryz.results38, go_sem]) rfl ⟨_, rfl, by rw [hn2.out]; exact owns_base O1.out (by have := B0.out.size; have := BD.out.size; omega), bnext B0.out B1.out⟩
end Go.Proofs.YtimfbjnpalgmcaaGreat
