/-
  Tables: the reference's Value.
-/
import Derived.Test.YtckapcfofkeicaaTbT
namespace Go.Proofs.Ytckapcfofkeicaa
set_option linter.unusedSimpArgs false
set_option linter.unusedVariables false
open Go.RowKit

/-- What a call that refuses returns. -/
def TbP (x y E : Int) (w : World) (e : Ending) (w' : World) : Prop := e = .returned (.tuple #[.agg #[.int .i64 x, .int .i64 y], .int .i64 E]) ∧ Below w.heap.size w w'
def TbC (ks : List (Int × Int)) (T : Bool) : Prop := ∀ a cap W, IsPairs W a ks → Calls Try.prog 52 #[.slice a ks.length cap] W fun e w' => e = .returned (.bool T) ∧ Below W.heap.size W w'
def RgC (lo hi : Int) (k : Bool) : Prop := ∀ W, Calls Try.prog 99 #[.agg #[.int .i64 lo, .int .i64 hi]] W fun e w' => e = .returned (.bool k) ∧ Below W.heap.size W w'
def AtC (ks : List (Int × Int)) (x d u : Int) : Prop := ∀ a cap W, IsPairs W a ks → Calls Try.prog 106 #[.slice a ks.length cap, .int .i64 x] W fun e w' => e = .returned (.tuple #[.int .i64 d, .int .i64 u]) ∧ Below W.heap.size W w'

set_option maxRecDepth 100000 in
set_option maxHeartbeats 3200000 in
theorem refValue_bad (ks : List (Int × Int)) (a : Option Addr) (cap : Nat) (lo hi : Int) (T k : Bool) (w : World) (hT : Hid (TbC ks T)) (hR : Hid (RgC lo hi k)) (hc : T = false ∨ (T = true ∧ k = false)) (h : Hid (IsPairs w a ks)) :
    Calls Try.prog 51 #[.slice a ks.length cap, .agg #[.int .i64 lo, .int .i64 hi]] w fun e w' => TbP 0 0 2 w e w' := by
  rcases hc with rfl | ⟨rfl, rfl⟩
  · go_enter Try.func51, Try.ntmps51
    go_wp2_with fail
    refine (hT.out _ _ _ (pairs_later h.out (by repeat (first | exact Below.refl _ _ | assumption | apply balloc | apply bdrew | (refine bset ?_ (by first | (simp; done) | omega | (simp; omega)) _) | (refine bnext ?_ (by assumption)))))).mono ?_
    rintro e w1 ⟨rfl, hb1⟩
    have c4 := later hb1 (a := ⟨w.heap.size + 1, 0, none⟩) (v := .int .i64 0) (by simp [go_sem, World.cell?_alloc_past])
    have c5 := later hb1 (a := ⟨w.heap.size + 1, 1, none⟩) (v := .int .i64 0) (by simp [go_sem, World.cell?_alloc_past])
    have f4 := free_later hb1 (a := ⟨w.heap.size + 1, 0, none⟩) (v := .int .i64 0) (by simp [go_sem, World.cell?_alloc_past]) (by simp [go_sem, World.cell?_alloc_past])
    have f5 := free_later hb1 (a := ⟨w.heap.size + 1, 1, none⟩) (v := .int .i64 0) (by simp [go_sem, World.cell?_alloc_past]) (by simp [go_sem, World.cell?_alloc_past])
    go_wp2_with fail
    have yy := two_set (x := .int .i64 0) (y := .int .i64 0) c4 c5
    exact bodyPost_ret (v := .tuple #[.agg #[.int .i64 0, .int .i64 0], .int .i64 2]) (by simp [results, Try.results51, go_sem, yy.1, yy.2, c4, c5]) rfl ⟨rfl, (by repeat (first | exact Below.refl _ _ | assumption | apply balloc | apply bdrew | (refine bset ?_ (by first | (simp; done) | omega | (simp; omega)) _) | (refine bnext ?_ (by assumption))))⟩
  · go_enter Try.func51, Try.ntmps51
    go_wp2_with fail
    refine (hT.out _ _ _ (pairs_later h.out (by repeat (first | exact Below.refl _ _ | assumption | apply balloc | apply bdrew | (refine bset ?_ (by first | (simp; done) | omega | (simp; omega)) _) | (refine bnext ?_ (by assumption)))))).mono ?_
    rintro e w1 ⟨rfl, hb1⟩
    have c0 := later hb1 (a := ⟨w.heap.size, 0, none⟩) (v := .int .i64 lo) (by simp [go_sem, World.cell?_alloc_past])
    have c1 := later hb1 (a := ⟨w.heap.size, 1, none⟩) (v := .int .i64 hi) (by simp [go_sem, World.cell?_alloc_past])
    have C4 := hide (show CF w1 ⟨w.heap.size + 1, 0, none⟩ (.int .i64 0) from ⟨later hb1 (a := ⟨w.heap.size + 1, 0, none⟩) (v := .int .i64 0) (by simp [go_sem, World.cell?_alloc_past]), free_later hb1 (a := ⟨w.heap.size + 1, 0, none⟩) (v := .int .i64 0) (by simp [go_sem, World.cell?_alloc_past]) (by simp [go_sem, World.cell?_alloc_past])⟩)
    have C5 := hide (show CF w1 ⟨w.heap.size + 1, 1, none⟩ (.int .i64 0) from ⟨later hb1 (a := ⟨w.heap.size + 1, 1, none⟩) (v := .int .i64 0) (by simp [go_sem, World.cell?_alloc_past]), free_later hb1 (a := ⟨w.heap.size + 1, 1, none⟩) (v := .int .i64 0) (by simp [go_sem, World.cell?_alloc_past]) (by simp [go_sem, World.cell?_alloc_past])⟩)
    go_wp2_with fail
    refine (hR.out _).mono ?_
    rintro e w2 ⟨rfl, hb2⟩
    obtain ⟨c4, f4⟩ := cf_later hb2 C4.out
    obtain ⟨c5, f5⟩ := cf_later hb2 C5.out
    clear c0 c1
    go_wp2_with fail
    have yy := two_set (x := .int .i64 0) (y := .int .i64 0) c4 c5
    exact bodyPost_ret (v := .tuple #[.agg #[.int .i64 0, .int .i64 0], .int .i64 2]) (by simp [results, Try.results51, go_sem, yy.1, yy.2, c4, c5]) rfl ⟨rfl, (by repeat (first | exact Below.refl _ _ | assumption | apply balloc | apply bdrew | (refine bset ?_ (by first | (simp; done) | omega | (simp; omega)) _) | (refine bnext ?_ (by assumption))))⟩
set_option maxRecDepth 100000 in
set_option maxHeartbeats 3200000 in
theorem refValue_far (ks : List (Int × Int)) (a : Option Addr) (cap : Nat) (lo hi : Int) (w : World) (hT : Hid (TbC ks true)) (hR : Hid (RgC lo hi true)) (l0 : 2 ≤ ks.length) (l1 : ks.length ≤ 60) (hf : decide (lo < kX ks 0) = true ∨ (decide (lo < kX ks 0) = false ∧ decide (kX ks (ks.length - 1) < hi) = true)) (h : Hid (IsPairs w a ks)) :
    Calls Try.prog 51 #[.slice a ks.length cap, .agg #[.int .i64 lo, .int .i64 hi]] w fun e w' => TbP 0 0 7 w e w' := by
  go_enter Try.func51, Try.ntmps51
  go_wp2_with fail
  refine (hT.out _ _ _ (pairs_later h.out (by repeat (first | exact Below.refl _ _ | assumption | apply balloc | apply bdrew | (refine bset ?_ (by first | (simp; done) | omega | (simp; omega)) _) | (refine bnext ?_ (by assumption)))))).mono ?_
  rintro e w1 ⟨rfl, hb1⟩
  have c0 := later hb1 (a := ⟨w.heap.size, 0, none⟩) (v := .int .i64 lo) (by simp [go_sem, World.cell?_alloc_past])
  have c1 := later hb1 (a := ⟨w.heap.size, 1, none⟩) (v := .int .i64 hi) (by simp [go_sem, World.cell?_alloc_past])
  have C4 := hide (show CF w1 ⟨w.heap.size + 1, 0, none⟩ (.int .i64 0) from ⟨later hb1 (a := ⟨w.heap.size + 1, 0, none⟩) (v := .int .i64 0) (by simp [go_sem, World.cell?_alloc_past]), free_later hb1 (a := ⟨w.heap.size + 1, 0, none⟩) (v := .int .i64 0) (by simp [go_sem, World.cell?_alloc_past]) (by simp [go_sem, World.cell?_alloc_past])⟩)
  have C5 := hide (show CF w1 ⟨w.heap.size + 1, 1, none⟩ (.int .i64 0) from ⟨later hb1 (a := ⟨w.heap.size + 1, 1, none⟩) (v := .int .i64 0) (by simp [go_sem, World.cell?_alloc_past]), free_later hb1 (a := ⟨w.heap.size + 1, 1, none⟩) (v := .int .i64 0) (by simp [go_sem, World.cell?_alloc_past]) (by simp [go_sem, World.cell?_alloc_past])⟩)
  have B1 := hide (show Below w.heap.size w w1 from (by repeat (first | exact Below.refl _ _ | assumption | apply balloc | apply bdrew | (refine bset ?_ (by first | (simp; done) | omega | (simp; omega)) _) | (refine bnext ?_ (by assumption)))))
  clear hb1
  go_wp2_with fail
  refine (hR.out _).mono ?_
  rintro e w2 ⟨rfl, hb2⟩
  have D4 := hide (cf_later hb2 C4.out)
  have D5 := hide (cf_later hb2 C5.out)
  have d0 := later hb2 c0
  have d1 := later hb2 c1
  have B2 := hide (bnext B1.out hb2)
  clear c0 c1 C4 C5 B1 hb2
  obtain ⟨b, off, rfl, hc⟩ : ∃ b off, a = some ⟨b, off, none⟩ ∧ ∀ i, i < ks.length → w2.cell? ⟨b, off + i * 2, none⟩ = some (.int .i64 (kX ks i)) ∧ w2.cell? ⟨b, off + i * 2 + 1, none⟩ = some (.int .i64 (kY ks i)) := by
    rcases pairs_later h.out B2.out with h | h
    · subst h; simp at l0
    · exact h
  have HC := hide hc
  have x0 := (HC.out 0 (by omega)).1
  rw [Nat.zero_mul, Nat.add_zero] at x0
  have xl := (HC.out (ks.length - 1) (by omega)).1
  clear hc
  have hp0 : (0 : Int) < (ks.length : Int) := by omega
  have hp1 : 0 < ks.length := by omega
  have hl0 : ((ks.length : Int) - 1).toNat = ks.length - 1 := by omega
  have hl1 : 0 ≤ (ks.length : Int) - 1 := by omega
  have hl2 : (ks.length : Int) - 1 < (ks.length : Int) := by omega
  have hlw : IntKind.wrap .i64 ((ks.length : Int) - 1) = (ks.length : Int) - 1 := IntWalk.i64_in _ (by omega)
  generalize kX ks 0 = X0 at *
  generalize kX ks (ks.length - 1) = XL at *
  rcases hf with g1 | ⟨g1, g2⟩
  all_goals
    go_wp2_with fail
    go_quiet (fail)
    obtain ⟨c4, f4⟩ := D4.out
    obtain ⟨c5, f5⟩ := D5.out
    have B2' := B2.out
    go_wp2_with fail
    have yy := two_set (x := .int .i64 0) (y := .int .i64 0) c4 c5
    exact bodyPost_ret (v := .tuple #[.agg #[.int .i64 0, .int .i64 0], .int .i64 7]) (by simp [results, Try.results51, go_sem, yy.1, yy.2, c4, c5]) rfl ⟨rfl, bset (bset (below_drewN B2' _) (by simp) _) (by simp) _⟩

set_option maxRecDepth 100000 in
set_option maxHeartbeats 3200000 in
theorem refValue_good (ks : List (Int × Int)) (a : Option Addr) (cap : Nat) (lo hi d1x u1x d2x u2x : Int) (w : World) (hT : Hid (TbC ks true)) (hR : Hid (RgC lo hi true)) (l0 : 2 ≤ ks.length) (l1 : ks.length ≤ 60) (g1 : decide (lo < kX ks 0) = false) (g2 : decide (kX ks (ks.length - 1) < hi) = false)
    (A1 : Hid (AtC ks lo d1x u1x)) (A2 : Hid (AtC ks hi d2x u2x)) (h : Hid (IsPairs w a ks)) :
    Calls Try.prog 51 #[.slice a ks.length cap, .agg #[.int .i64 lo, .int .i64 hi]] w fun e w' => TbP (rLo ks lo hi (min d1x d2x) ks.length) (rHi ks lo hi (max u1x u2x) ks.length) 0 w e w' := by
  obtain ⟨RL, hRL⟩ : ∃ x, rLo ks lo hi (min d1x d2x) ks.length = x := ⟨_, rfl⟩
  obtain ⟨RH, hRH⟩ : ∃ x, rHi ks lo hi (max u1x u2x) ks.length = x := ⟨_, rfl⟩
  rw [hRL, hRH]
  have HRL := hide hRL
  have HRH := hide hRH
  clear hRL hRH
  go_enter Try.func51, Try.ntmps51
  go_wp2_with fail
  refine (hT.out _ _ _ (pairs_later h.out (by repeat (first | exact Below.refl _ _ | assumption | apply balloc | apply bdrew | (refine bset ?_ (by first | (simp; done) | omega | (simp; omega)) _) | (refine bnext ?_ (by assumption)))))).mono ?_
  rintro e w1 ⟨rfl, hb1⟩
  have c0 := later hb1 (a := ⟨w.heap.size, 0, none⟩) (v := .int .i64 lo) (by simp [go_sem, World.cell?_alloc_past])
  have c1 := later hb1 (a := ⟨w.heap.size, 1, none⟩) (v := .int .i64 hi) (by simp [go_sem, World.cell?_alloc_past])
  have C4 := hide (show CF w1 ⟨w.heap.size + 1, 0, none⟩ (.int .i64 0) from ⟨later hb1 (a := ⟨w.heap.size + 1, 0, none⟩) (v := .int .i64 0) (by simp [go_sem, World.cell?_alloc_past]), free_later hb1 (a := ⟨w.heap.size + 1, 0, none⟩) (v := .int .i64 0) (by simp [go_sem, World.cell?_alloc_past]) (by simp [go_sem, World.cell?_alloc_past])⟩)
  have C5 := hide (show CF w1 ⟨w.heap.size + 1, 1, none⟩ (.int .i64 0) from ⟨later hb1 (a := ⟨w.heap.size + 1, 1, none⟩) (v := .int .i64 0) (by simp [go_sem, World.cell?_alloc_past]), free_later hb1 (a := ⟨w.heap.size + 1, 1, none⟩) (v := .int .i64 0) (by simp [go_sem, World.cell?_alloc_past]) (by simp [go_sem, World.cell?_alloc_past])⟩)
  have B1 := hide (show Below w.heap.size w w1 from (by repeat (first | exact Below.refl _ _ | assumption | apply balloc | apply bdrew | (refine bset ?_ (by first | (simp; done) | omega | (simp; omega)) _) | (refine bnext ?_ (by assumption)))))
  clear hb1
  go_wp2_with fail
  refine (hR.out _).mono ?_
  rintro e w2 ⟨rfl, hb2⟩
  have D4 := hide (cf_later hb2 C4.out)
  have D5 := hide (cf_later hb2 C5.out)
  have d0 := later hb2 c0
  have d1 := later hb2 c1
  have B2 := hide (bnext B1.out hb2)
  clear c0 c1 C4 C5 B1 hb2
  obtain ⟨b, off, rfl, hc⟩ : ∃ b off, a = some ⟨b, off, none⟩ ∧ ∀ i, i < ks.length → w2.cell? ⟨b, off + i * 2, none⟩ = some (.int .i64 (kX ks i)) ∧ w2.cell? ⟨b, off + i * 2 + 1, none⟩ = some (.int .i64 (kY ks i)) := by
    rcases pairs_later h.out B2.out with h | h
    · subst h; simp at l0
    · exact h
  have HC := hide hc
  have x0 := (HC.out 0 (by omega)).1
  rw [Nat.zero_mul, Nat.add_zero] at x0
  have xl := (HC.out (ks.length - 1) (by omega)).1
  clear hc
  have hp0 : (0 : Int) < (ks.length : Int) := by omega
  have hp1 : 0 < ks.length := by omega
  have hl0 : ((ks.length : Int) - 1).toNat = ks.length - 1 := by omega
  have hl1 : 0 ≤ (ks.length : Int) - 1 := by omega
  have hl2 : (ks.length : Int) - 1 < (ks.length : Int) := by omega
  have hlw : IntKind.wrap .i64 ((ks.length : Int) - 1) = (ks.length : Int) - 1 := IntWalk.i64_in _ (by omega)
  have G1 := hide g1
  have G2 := hide g2
  generalize hX0 : kX ks 0 = X0 at *
  generalize hXL : kX ks (ks.length - 1) = XL at *
  have g1 := G1.out
  have g2 := G2.out
  clear hX0 hXL
  go_wp2_with fail
  go_quiet (fail)
  have I2 := hide (pairs_later h.out (below_drewN B2.out nq))
  clear x0 xl
  go_wp2_with fail
  refine (A1.out _ _ _ I2.out).mono ?_
  rintro e w3 ⟨rfl, hb3⟩
  have p0 := later hb3 d0
  have p1 := later hb3 d1
  have E4 := hide (cf_later hb3 D4.out)
  have E5 := hide (cf_later hb3 D5.out)
  have I3 := hide (pairs_later I2.out hb3)
  have B3 := hide (bnext (below_drewN B2.out nq) hb3)
  have B23 := hide (bnext (below_drewN (Below.refl w2.heap.size w2) nq) hb3)
  clear d0 d1 hb3
  go_wp2_with fail
  refine (A2.out _ _ _ I3.out).mono ?_
  rintro e w4 ⟨rfl, hb4⟩
  have d0 := later hb4 p0
  have d1 := later hb4 p1
  have F4 := hide (cf_later hb4 E4.out)
  have F5 := hide (cf_later hb4 E5.out)
  have I4 := hide (pairs_later I3.out hb4)
  have B4 := hide (bnext B3.out hb4)
  have HC4 := hide (fun i hi => (show w4.cell? ⟨b, off + i * 2, none⟩ = some (.int .i64 (kX ks i)) ∧ w4.cell? ⟨b, off + i * 2 + 1, none⟩ = some (.int .i64 (kY ks i)) from ⟨later (bnext B23.out hb4) (HC.out i hi).1, later (bnext B23.out hb4) (HC.out i hi).2⟩))
  clear p0 p1 hb4
  have hm1 : (if d2x < d1x then d2x else d1x) = min d1x d2x := by split <;> omega
  have hm2 : (if d1x < d2x then d1x else d2x) = min d1x d2x := by split <;> omega
  have hm3 : (if u1x < u2x then u2x else u1x) = max u1x u2x := by split <;> omega
  have hm4 : (if u2x < u1x then u1x else u2x) = max u1x u2x := by split <;> omega
  go_wp2_with fail
  clear hm1 hm2 hm3 hm4 hp0 hl0 hl1 hl2 hlw g1 g2
  go_loopw [6, 7, 10] (fun l u i wr => ∃ k : Nat, k ≤ ks.length ∧ i = .int .i64 (k : Int) ∧ l = .int .i64 (rLo ks lo hi (min d1x d2x) k) ∧ u = .int .i64 (rHi ks lo hi (max u1x u2x) k) ∧ Below w4.heap.size w4 wr) (fun _ _ i _ => ks.length - (intOf i).toNat)
  case atStart => exact ⟨0, by omega, rfl, rfl, rfl, Below.refl _ _⟩
  case round =>
    obtain ⟨k, hk, rfl, rfl, rfl, hbw⟩ := hrel
    by_cases hlt : k < ks.length
    · have c1 := later hbw (HC4.out k hlt).1
      have c2 := later hbw (HC4.out k hlt).2
      have p0 := later hbw d0
      have p1 := later hbw d1
      have s1 : rLo ks lo hi (min d1x d2x) (k + 1) = if lo < kX ks k ∧ kX ks k < hi then min (rLo ks lo hi (min d1x d2x) k) (kY ks k) else rLo ks lo hi (min d1x d2x) k := rfl
      have s2 : rHi ks lo hi (max u1x u2x) (k + 1) = if lo < kX ks k ∧ kX ks k < hi then max (rHi ks lo hi (max u1x u2x) k) (kY ks k) else rHi ks lo hi (max u1x u2x) k := rfl
      have hk00 : 0 ≤ (k : Int) := by omega
      have hkl0 : (k : Int) < (ks.length : Int) := by omega
      have S1 := hide s1
      have S2 := hide s2
      clear s1 s2
      generalize rLo ks lo hi (min d1x d2x) k = l at *
      generalize rHi ks lo hi (max u1x u2x) k = u at *
      generalize kX ks k = x at *
      generalize kY ks k = y at *
      by_cases q1 : lo < x
      · have t1 : decide (lo < x) = true := decide_eq_true q1
        by_cases q2 : x < hi
        · have t2 : decide (x < hi) = true := decide_eq_true q2
          have E1 := hide (show rLo ks lo hi (min d1x d2x) (k + 1) = min l y by rw [S1.out, if_pos ⟨q1, q2⟩])
          have E2 := hide (show rHi ks lo hi (max u1x u2x) (k + 1) = max u y by rw [S2.out, if_pos ⟨q1, q2⟩])
          have M1 := hide (show (if y < l then y else l) = min l y by split <;> omega)
          have M2 := hide (show (if l < y then l else y) = min l y by split <;> omega)
          have M3 := hide (show (if u < y then y else u) = max u y by split <;> omega)
          have M4 := hide (show (if y < u then u else y) = max u y by split <;> omega)
          go_wp2_with fail
          go_quiet (fail)
          go_wp2_with fail
          have m1 := M1.out
          have m2 := M2.out
          have m3 := M3.out
          have m4 := M4.out
          go_quiet (fail)
          go_wp2_with fail
          go_roundw
          case rel => exact ⟨k + 1, by omega, by go_num, by rw [E1.out], by rw [E2.out], below_drewN hbw _⟩
          case measure => simp [intOf]; omega
        · have t2 : decide (x < hi) = false := decide_eq_false q2
          have E1 := hide (show rLo ks lo hi (min d1x d2x) (k + 1) = l by rw [S1.out, if_neg (fun h => q2 h.2)])
          have E2 := hide (show rHi ks lo hi (max u1x u2x) (k + 1) = u by rw [S2.out, if_neg (fun h => q2 h.2)])
          go_wp2_with fail
          go_quiet (fail)
          have BB := below_drewN hbw nq
          go_wp2_with fail
          go_roundw
          case rel => exact ⟨k + 1, by omega, by go_num, by rw [E1.out], by rw [E2.out], BB⟩
          case measure => simp [intOf]; omega
      · have t1 : decide (lo < x) = false := decide_eq_false q1
        have E1 := hide (show rLo ks lo hi (min d1x d2x) (k + 1) = l by rw [S1.out, if_neg (fun h => q1 h.1)])
        have E2 := hide (show rHi ks lo hi (max u1x u2x) (k + 1) = u by rw [S2.out, if_neg (fun h => q1 h.1)])
        go_wp2_with fail
        go_quiet (fail)
        have BB := below_drewN hbw nq
        go_wp2_with fail
        go_roundw
        case rel => exact ⟨k + 1, by omega, by go_num, by rw [E1.out], by rw [E2.out], BB⟩
        case measure => simp [intOf]; omega
    · obtain rfl : k = ks.length := by omega
      rw [HRL.out, HRH.out]
      obtain ⟨c4, f4⟩ := cf_later hbw F4.out
      obtain ⟨c5, f5⟩ := cf_later hbw F5.out
      have BB := bnext B4.out hbw
      go_wp2_with fail
      have yy := two_set (x := .int .i64 RL) (y := .int .i64 RH) c4 c5
      exact bodyPost_ret (v := .tuple #[.agg #[.int .i64 RL, .int .i64 RH], .int .i64 0]) (by simp [results, Try.results51, go_sem, yy.1, yy.2]) rfl ⟨rfl, bset (bset BB (by simp) _) (by simp) _⟩

theorem inDom_is {ks : List (Int × Int)} {lo hi : Int} : inDom ks lo hi = (decide (kX ks 0 ≤ lo) && decide (hi ≤ kX ks (ks.length - 1))) := rfl
theorem refValue_any (ks : List (Int × Int)) (a : Option Addr) (cap : Nat) (lo hi : Int) (w : World) (hl : ks.length ≤ 8796093022208) (hw : Wide ks) (h : IsPairs w a ks) :
    Calls Try.prog 51 #[.slice a ks.length cap, .agg #[.int .i64 lo, .int .i64 hi]] w fun e w' => TbP (valueQ ks lo hi).1 (valueQ ks lo hi).2.1 (valueQ ks lo hi).2.2 w e w' := by
  have hT : TbC ks (tabOk ks) := fun a cap W hi => refTable_any ks a cap W hl hw hi
  have hR : RgC lo hi (rangeOk (lo, hi)) := fun W => refRange_any lo hi W
  have r1 : [(lo, hi)].all rangeOk = rangeOk (lo, hi) := by simp
  unfold valueQ
  cases h1 : tabOk ks with
  | false =>
    rw [h1] at hT
    rw [if_pos rfl]
    exact refValue_bad ks a cap lo hi false _ w hT hR (.inl rfl) h
  | true =>
    rw [h1] at hT
    rw [if_neg (by simp), r1]
    cases h2 : rangeOk (lo, hi) with
    | false =>
      rw [h2] at hR
      rw [if_pos rfl]
      exact refValue_bad ks a cap lo hi true false w hT hR (.inr ⟨rfl, rfl⟩) h
    | true =>
      rw [h2] at hR
      rw [if_neg (by simp)]
      obtain ⟨l0, l1⟩ := len_of h1
      cases h3 : inDom ks lo hi with
      | false =>
        rw [if_pos rfl]
        refine refValue_far ks a cap lo hi w hT hR l0 l1 ?_ h
        rw [inDom_is] at h3
        by_cases g : lo < kX ks 0
        · exact .inl (decide_eq_true g)
        · refine .inr ⟨decide_eq_false g, decide_eq_true ?_⟩
          rw [decide_eq_true (show kX ks 0 ≤ lo by omega), Bool.true_and, decide_eq_false_iff_not] at h3
          omega
      | true =>
        rw [if_neg (by simp)]
        rw [inDom_is, Bool.and_eq_true, decide_eq_true_eq, decide_eq_true_eq] at h3
        have hlh : lo ≤ hi := by
          have := h2
          simp [rangeOk, allIn] at this
          omega
        have hm : ks.length - 2 + 1 = ks.length - 1 := by omega
        obtain ⟨i, hi1⟩ := has_ex (ks := ks) (x := lo) (ks.length - 2) (by omega) h3.1 (by rw [hm]; omega)
        obtain ⟨j, hj1⟩ := has_ex (ks := ks) (x := hi) (ks.length - 2) (by omega) (by omega) (by rw [hm]; omega)
        rw [value_ref h1 hlh hi1 hj1]
        exact refValue_good ks a cap lo hi _ _ _ _ w hT hR l0 l1 (decide_eq_false (by omega)) (decide_eq_false (by omega)) (fun a cap W hp => refAt_any ks a cap lo i W h1 hi1 hp) (fun a cap W hp => refAt_any ks a cap hi j W h1 hj1 hp) h
end Go.Proofs.Ytckapcfofkeicaa
