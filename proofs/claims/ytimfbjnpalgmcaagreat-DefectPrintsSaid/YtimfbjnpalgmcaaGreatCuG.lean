/-
  Cuts: the program's areCuts of any cuts; the reference's Cuts.
-/
import Derived.Test.YtimfbjnpalgmcaaGreatGrR
namespace Go.Proofs.YtimfbjnpalgmcaaGreat
set_option linter.unusedSimpArgs false
set_option linter.unusedVariables false
set_option linter.unusedSimpArgs false
set_option linter.unusedVariables false
open Go.RowKit

/-- Is the k-th cut within its range, and above the one before it? -/
def cutOk (lo hi : Int) (cs : List Int) (k : Nat) : Bool := decide (lo ≤ cs.getD k 0) && (decide (cs.getD k 0 ≤ hi) && (decide (k = 0) || decide (cs.getD (k - 1) 0 < cs.getD k 0)))
def cutsOk (lo hi : Int) (cs : List Int) : Bool := (List.range cs.length).all (cutOk lo hi cs)
theorem cuts_stop {lo hi : Int} {cs : List Int} {k : Nat} (hk : k < cs.length) (h : cutOk lo hi cs k = false) : cutsOk lo hi cs = false := by
  cases e : cutsOk lo hi cs with
  | false => rfl
  | true =>
    have := List.all_eq_true.1 e k (List.mem_range.2 hk)
    rw [h] at this; cases this
set_option maxRecDepth 100000 in
set_option maxHeartbeats 3200000 in
theorem areCuts_any (cs : List Int) (lo hi : Int) (a : Option Addr) (cap : Nat) (w : World) (hl : cs.length ≤ 1000000000) (h : IsInts w a cs) :
    Calls Tryz.prog 72 #[.slice a cs.length cap, .agg #[.int .i64 lo, .int .i64 hi]] w fun e w' => e = .returned (.bool (cutsOk lo hi cs)) ∧ Below w.heap.size w w' := by
  obtain ⟨R, hR⟩ : ∃ R, cutsOk lo hi cs = R := ⟨_, rfl⟩
  have HR := hide hR
  have HI := hide h
  obtain ⟨n, hn⟩ : ∃ n, cs.length = n := ⟨_, rfl⟩
  have HN := hide hn
  rw [hR, hn]
  rw [hn] at hl
  clear hR h hn
  have R1 := hide (show RgAt (w.alloc (.cells #[.int .i64 lo, .int .i64 hi] 23)) w.heap.size lo hi from ⟨(by simp [go_sem, World.cell?_alloc_past]), (by simp [go_sem, World.cell?_alloc_past])⟩)
  go_enter Tryz.func72, Tryz.ntmps72
  go_wp2_with fail
  obtain ⟨w1, hw1⟩ : ∃ z, z = w.alloc (.cells #[.int .i64 lo, .int .i64 hi] 23) := ⟨_, rfl⟩
  have R2 := hide (show RgAt w1 w.heap.size lo hi by rw [hw1]; exact R1.out)
  have B1 := hide (show Below w.heap.size w w1 by rw [hw1]; exact (by repeat (first | exact Below.refl _ _ | assumption | apply balloc | apply bdrew | (refine below_drewN ?_ _) | (refine bset ?_ (by first | (simp; done) | omega | (simp; omega)) _) | (refine bnext ?_ (by assumption)))))
  have I1 := hide (show IsInts w1 a cs by rw [hw1]; exact ints_later HI.out (balloc (Below.refl _ _)))
  rw [← hw1]
  clear hw1 R1 HI
  go_loopw [9] (fun i wr => ∃ k : Nat, k ≤ n ∧ i = .int .i64 (k : Int) ∧ Hid ((List.range k).all (cutOk lo hi cs) = true) ∧ Below w1.heap.size w1 wr) (fun i _ => n - (intOf i).toNat)
  case atStart => exact ⟨0, by omega, rfl, hide (by simp), Below.refl _ _⟩
  case round =>
    obtain ⟨k, hk, rfl, hall, hb⟩ := hrel
    by_cases hlt : k < n
    · have hlt' : k < cs.length := by rw [HN.out]; exact hlt
      obtain ⟨b, o, rfl, hc⟩ : ∃ b o, a = some ⟨b, o, none⟩ ∧ ∀ i, i < cs.length → wr.cell? ⟨b, o + i, none⟩ = some (.int .i64 (cs.getD i 0)) := by
        rcases ints_later I1.out hb with h | h
        · subst h; simp at hlt'
        · exact h
      have c0 := hc k hlt'
      have C1 := hide (fun j (e : k = j + 1) => hc j (by omega))
      have ⟨q0, q1⟩ := rgAt_later R2.out hb
      have S2 := hide (fun (e : cutOk lo hi cs k = false) => (show R = false by rw [← HR.out]; exact cuts_stop hlt' e))
      have S1 := hide (fun (e : cutOk lo hi cs k = true) => range_step hall.out e)
      have CK := hide (show cutOk lo hi cs k = (decide (lo ≤ cs.getD k 0) && (decide (cs.getD k 0 ≤ hi) && (decide (k = 0) || decide (cs.getD (k - 1) 0 < cs.getD k 0)))) from rfl)
      have BB := hide (bnext B1.out hb)
      have B3 := hide hb
      have k0 : 0 ≤ (k : Int) := by omega
      have k1 : (k : Int) < (n : Int) := by omega
      clear hc hall hb
      generalize cutOk lo hi cs k = ck at *
      generalize cs.getD k 0 = c at *
      by_cases g1 : c < lo
      · have d1 : decide (c < lo) = true := decide_eq_true g1
        have E := hide (S2.out (by rw [CK.out, decide_eq_false (show ¬ lo ≤ c by omega)]; rfl))
        go_wp2_with fail
        go_ret
        exact ⟨ret_bool E.out.symm, BB.out⟩
      have d1 : decide (c < lo) = false := decide_eq_false g1
      by_cases g2 : hi < c
      · have d2 : decide (hi < c) = true := decide_eq_true g2
        have E := hide (S2.out (by rw [CK.out, decide_eq_false (show ¬ c ≤ hi by omega)]; simp))
        go_wp2_with fail
        go_ret
        exact ⟨ret_bool E.out.symm, BB.out⟩
      have d2 : decide (hi < c) = false := decide_eq_false g2
      by_cases g3 : k = 0
      · subst g3
        simp only [Nat.add_zero] at c0
        have E := hide (S1.out (by rw [CK.out, decide_eq_true (show lo ≤ c by omega), decide_eq_true (show c ≤ hi by omega)]; rfl))
        go_wp2_with fail
        go_roundw
        case rel => exact ⟨1, by omega, by go_num, E, B3.out⟩
        case measure => simp [intOf]; omega
      · obtain ⟨j, hj⟩ : ∃ j, k = j + 1 := ⟨k - 1, by omega⟩
        have c1 := C1.out j hj
        have CK2 := hide (show ck = decide (cs.getD j 0 < c) by rw [CK.out, decide_eq_true (show lo ≤ c by omega), decide_eq_true (show c ≤ hi by omega), decide_eq_false g3, show k - 1 = j by omega]; rfl)
        generalize cs.getD j 0 = c' at *
        have j0 : 0 ≤ (j : Int) := by omega
        have j1 : (j : Int) < (n : Int) := by omega
        have kp : decide (0 < k) = true := decide_eq_true (by omega)
        have kq : 0 < k := by omega
        have wj : IntKind.wrap .i64 ((k : Int) - 1) = (j : Int) := by rw [show (k : Int) - 1 = j by omega]; exact IntWalk.i64_in _ (by omega)
        clear C1 CK g3 hj
        by_cases g4 : c ≤ c'
        · have d4 : decide (c ≤ c') = true := decide_eq_true g4
          have E := hide (S2.out (by rw [CK2.out, decide_eq_false (show ¬ c' < c by omega)]))
          go_wp2_with fail
          go_ret
          exact ⟨ret_bool E.out.symm, BB.out⟩
        · have d4 : decide (c ≤ c') = false := decide_eq_false g4
          have E := hide (S1.out (by rw [CK2.out, decide_eq_true (show c' < c by omega)]))
          go_wp2_with fail
          go_roundw
          case rel => exact ⟨k + 1, by omega, by go_num, E, B3.out⟩
          case measure => simp [intOf]; omega
    · obtain rfl : k = n := by omega
      have E := hide (show R = true by rw [← HR.out]; have := hall.out; rw [← HN.out] at this; exact this)
      go_wp2_with fail
      go_ret
      exact ⟨ret_bool E.out.symm, bnext B1.out hb⟩
/-- The error of cuts between two places. -/
def cutR (lo hi : Int) (cs : List Int) : Int := if 500 < (cs.length : Int) then 5 else if cutsOk lo hi cs then 0 else 3
set_option maxRecDepth 100000 in
set_option maxHeartbeats 6400000 in
theorem refCuts_go (rs zs fs : List (Int × Int)) (off lo hi E : Int) (ra za fa : Option Addr) (rc zc fc : Nat) (cs : List Int) (a : Option Addr) (cap n : Nat) (w : World) (hl : n ≤ 1000000000) (HN : Hid (cs.length = n)) (HI : Hid (IsInts w a cs))
    (EN : Hid (∀ W, Below w.heap.size w W → Calls Tryz.prog 37 #[.agg #[.slice ra rs.length rc, .int .i64 off, .slice za zs.length zc, .slice fa fs.length fc]] W fun e w' => e = .returned (.tuple #[.int .i64 lo, .int .i64 hi]) ∧ Below W.heap.size W w'))
    (HE : Hid (cutR lo hi cs = E)) :
    Calls Tryz.prog 35 #[.agg #[.slice ra rs.length rc, .int .i64 off, .slice za zs.length zc, .slice fa fs.length fc], .slice a n cap] w fun e w' => e = .returned (.int .i64 E) ∧ Below w.heap.size w w' := by
  by_cases h5 : 500 < (n : Int)
  · obtain rfl : E = 5 := by rw [← HE.out]; unfold cutR; rw [HN.out, if_pos h5]
    go_enter Tryz.func35, Tryz.ntmps35
    go_wp2_with fail
    go_ret
    exact ⟨rfl, (by repeat (first | exact Below.refl _ _ | assumption | apply balloc | apply bdrew | (refine below_drewN ?_ _) | (refine bset ?_ (by first | (simp; done) | omega | (simp; omega)) _) | (refine bnext ?_ (by assumption))))⟩
  have HE2 := hide (show E = if cutsOk lo hi cs then 0 else 3 by rw [← HE.out]; unfold cutR; rw [HN.out, if_neg h5])
  clear HE
  have GN := hide (grAt_new w ⟨rs, off, zs, fs⟩ ⟨ra, rc, za, zc, fa, fc⟩ 58)
  go_enter Tryz.func35, Tryz.ntmps35
  go_upto_region 3 with fail
  obtain ⟨w0, hw0⟩ : ∃ z, z = w.alloc (.cells #[.slice ra rs.length rc, .int .i64 off, .slice za zs.length zc, .slice fa fs.length fc] 58) := ⟨_, rfl⟩
  rw [← hw0]
  have B0 := hide (show Below w.heap.size w w0 by rw [hw0]; exact (by repeat (first | exact Below.refl _ _ | assumption | apply balloc | apply bdrew | (refine below_drewN ?_ _) | (refine bset ?_ (by first | (simp; done) | omega | (simp; omega)) _) | (refine bnext ?_ (by assumption)))))
  have G0 := hide (show GrAt w0 w.heap.size ⟨rs, off, zs, fs⟩ ⟨ra, rc, za, zc, fa, fc⟩ by rw [hw0]; exact GN.out)
  clear hw0 GN
  have ⟨⟨g1, g2⟩, g3, g4⟩ := G0.out
  simp only at g1 g2 g3 g4
  go_wp2_with fail
  refine (EN.out _ B0.out).mono ?_
  rintro e w1 ⟨rfl, hb1⟩
  have B1 := hide (bnext B0.out hb1)
  have I1 := hide (ints_later HI.out B1.out)
  clear g1 g2 g3 g4 hb1 G0 B0 HI EN
  go_upto_region 5 with fail
  go_loopw [7] (fun i wr => ∃ k : Nat, k ≤ n ∧ i = .int .i64 (k : Int) ∧ Hid ((List.range k).all (cutOk lo hi cs) = true) ∧ Below w1.heap.size w1 wr) (fun i _ => n - (intOf i).toNat)
  case atStart => exact ⟨0, by omega, rfl, hide (by simp), Below.refl _ _⟩
  case round =>
    obtain ⟨k, hk, rfl, hall, hb⟩ := hrel
    by_cases hlt : k < n
    · have hlt' : k < cs.length := by rw [HN.out]; exact hlt
      obtain ⟨b, o, rfl, hc⟩ : ∃ b o, a = some ⟨b, o, none⟩ ∧ ∀ i, i < cs.length → wr.cell? ⟨b, o + i, none⟩ = some (.int .i64 (cs.getD i 0)) := by
        rcases ints_later I1.out hb with h | h
        · subst h; simp at hlt'
        · exact h
      have c0 := hc k hlt'
      have C1 := hide (fun j (e : k = j + 1) => hc j (by omega))
      have S2 := hide (fun (e : cutOk lo hi cs k = false) => (show E = 3 by rw [HE2.out, cuts_stop hlt' e]; rfl))
      have S1 := hide (fun (e : cutOk lo hi cs k = true) => range_step hall.out e)
      have CK := hide (show cutOk lo hi cs k = (decide (lo ≤ cs.getD k 0) && (decide (cs.getD k 0 ≤ hi) && (decide (k = 0) || decide (cs.getD (k - 1) 0 < cs.getD k 0)))) from rfl)
      have BB := hide (bnext B1.out hb)
      have B3 := hide hb
      have k0 : 0 ≤ (k : Int) := by omega
      have k1 : (k : Int) < (n : Int) := by omega
      clear hc hall hb
      generalize cutOk lo hi cs k = ck at *
      generalize cs.getD k 0 = c at *
      by_cases g1 : c < lo
      · have d1 : decide (c < lo) = true := decide_eq_true g1
        have E3 := hide (S2.out (by rw [CK.out, decide_eq_false (show ¬ lo ≤ c by omega)]; rfl))
        go_upto_region 7 with fail
        go_quiet (fail)
        go_wp2_with fail
        go_ret
        obtain rfl := E3.out
        exact ⟨rfl, (by repeat (first | exact BB.out | apply bdrew | (refine below_drewN ?_ _)))⟩
      have d1 : decide (c < lo) = false := decide_eq_false g1
      by_cases g2 : hi < c
      · have d2 : decide (hi < c) = true := decide_eq_true g2
        have E3 := hide (S2.out (by rw [CK.out, decide_eq_false (show ¬ c ≤ hi by omega)]; simp))
        go_upto_region 7 with fail
        go_quiet (fail)
        go_wp2_with fail
        go_ret
        obtain rfl := E3.out
        exact ⟨rfl, (by repeat (first | exact BB.out | apply bdrew | (refine below_drewN ?_ _)))⟩
      have d2 : decide (hi < c) = false := decide_eq_false g2
      by_cases g3 : k = 0
      · subst g3
        simp only [Nat.add_zero] at c0
        have E3 := hide (S1.out (by rw [CK.out, decide_eq_true (show lo ≤ c by omega), decide_eq_true (show c ≤ hi by omega)]; rfl))
        go_upto_region 7 with fail
        go_quiet (fail)
        go_wp2_with fail
        go_roundw
        case rel => exact ⟨1, by omega, by go_num, E3, (by repeat (first | exact B3.out | apply bdrew | (refine below_drewN ?_ _)))⟩
        case measure => simp [intOf]; omega
      · obtain ⟨j, hj⟩ : ∃ j, k = j + 1 := ⟨k - 1, by omega⟩
        have c1 := C1.out j hj
        have CK2 := hide (show ck = decide (cs.getD j 0 < c) by rw [CK.out, decide_eq_true (show lo ≤ c by omega), decide_eq_true (show c ≤ hi by omega), decide_eq_false g3, show k - 1 = j by omega]; rfl)
        generalize cs.getD j 0 = c' at *
        have j0 : 0 ≤ (j : Int) := by omega
        have j1 : (j : Int) < (n : Int) := by omega
        have kp : decide (0 < k) = true := decide_eq_true (by omega)
        have kq : 0 < k := by omega
        have wj : IntKind.wrap .i64 ((k : Int) - 1) = (j : Int) := by rw [show (k : Int) - 1 = j by omega]; exact IntWalk.i64_in _ (by omega)
        clear C1 CK g3 hj
        by_cases g4 : c ≤ c'
        · have d4 : decide (c ≤ c') = true := decide_eq_true g4
          have E3 := hide (S2.out (by rw [CK2.out, decide_eq_false (show ¬ c' < c by omega)]))
          go_upto_region 7 with fail
          go_quiet (fail)
          go_wp2_with fail
          go_ret
          obtain rfl := E3.out
          exact ⟨rfl, (by repeat (first | exact BB.out | apply bdrew | (refine below_drewN ?_ _)))⟩
        · have d4 : decide (c ≤ c') = false := decide_eq_false g4
          have E3 := hide (S1.out (by rw [CK2.out, decide_eq_true (show c' < c by omega)]))
          go_upto_region 7 with fail
          go_quiet (fail)
          go_wp2_with fail
          go_roundw
          case rel => exact ⟨k + 1, by omega, by go_num, E3, (by repeat (first | exact B3.out | apply bdrew | (refine below_drewN ?_ _)))⟩
          case measure => simp [intOf]; omega
    · obtain rfl : k = n := by omega
      have E3 := hide (show E = 0 by rw [HE2.out]; have := hall.out; rw [← HN.out] at this; unfold cutsOk; rw [this]; rfl)
      go_wp2_with fail
      go_ret
      obtain rfl := E3.out
      exact ⟨rfl, bnext B1.out hb⟩
theorem refCuts_any (g : Gr) (p : GrA) (cs : List Int) (a : Option Addr) (cap : Nat) (w : World) (hl : cs.length ≤ 1000000000) (hr : 1 ≤ g.rs.length ∧ g.rs.length ≤ 8796093022208) (h : IsGr w g p) (hi : IsInts w a cs) :
    Calls Tryz.prog 35 #[grV g p, .slice a cs.length cap] w fun e w' => e = .returned (.int .i64 (cutR (plcQ g.rs).1 (plcQ g.rs).2 cs)) ∧ Below w.heap.size w w' := by
  obtain ⟨rs, off, zs, fs⟩ := g
  obtain ⟨ra, rc, za, zc, fa, fc⟩ := p
  exact refCuts_go rs zs fs off (plcQ rs).1 (plcQ rs).2 _ ra za fa rc zc fc cs a cap cs.length w hl (hide rfl) (hide hi) (hide fun W hb => refEnds_any rs zs fs off ra za fa rc zc fc (rs.length - 1) W (by simp only at hr; omega) hr.2 (pairs_later h.1.1 hb)) (hide rfl)
end Go.Proofs.YtimfbjnpalgmcaaGreat
