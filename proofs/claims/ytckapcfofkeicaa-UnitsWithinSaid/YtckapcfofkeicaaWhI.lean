/-
  Tables: Inverse, in both forms.
-/
import Derived.Test.YtckapcfofkeicaaWhR
import Derived.RegionTactic
import Derived.ChangeAlike
namespace Go.Proofs.Ytckapcfofkeicaa
set_option linter.unusedSimpArgs false
set_option linter.unusedVariables false
open Go.RowKit

/-- What Where answers, told of either form of it. -/
def WheC (F : Nat) (ks : List (Int × Int)) (lo hi : Int) (rs : List (Int × Int)) (E : Int) : Prop := ∀ a cap W, IsPairs W a ks → Calls Try.prog F #[.slice a ks.length cap, .agg #[.int .i64 lo, .int .i64 hi]] W fun e w' => ∃ b c, e = .returned (.tuple #[.slice b rs.length c, .int .i64 E]) ∧ IsPairs w' b rs ∧ Below W.heap.size W w'
def invQ (rs : List (Int × Int)) (E : Int) : (Int × Int) × Int := if E = 0 then (if rs = [] then ((0, 0), 7) else (((rs.getD 0 (0, 0)).1, (rs.getD (rs.length - 1) (0, 0)).2), 0)) else ((0, 0), E)

set_option maxRecDepth 100000 in
set_option maxHeartbeats 3200000 in
theorem inverse_go (ks rs : List (Int × Int)) (a : Option Addr) (cap : Nat) (lo hi E : Int) (w : World) (C : Hid (WheC 53 ks lo hi rs E)) (l1 : rs.length ≤ 60) (hE : (E == 0) = false ∧ rs = [] ∨ E = 0) (h : Hid (IsPairs w a ks)) :
    Calls Try.prog 54 #[.slice a ks.length cap, .agg #[.int .i64 lo, .int .i64 hi]] w fun e w' => TbP (invQ rs E).1.1 (invQ rs E).1.2 (invQ rs E).2 w e w' := by
  rcases hE with ⟨hE, hr⟩ | rfl
  · have e0 : invQ rs E = ((0, 0), E) := by unfold invQ; rw [if_neg (by simpa using hE)]
    rw [e0]
    have hE' : (E != 0) = true := by simp [bne, hE]
    have HR := hide hr
    clear e0 hr
    go_enter Try.func54, Try.ntmps54
    go_wp2_with fail
    refine (C.out _ _ _ (pairs_later h.out (by repeat (first | exact Below.refl _ _ | assumption | apply balloc | apply bdrew | (refine bset ?_ (by first | (simp; done) | omega | (simp; omega)) _) | (refine bnext ?_ (by assumption)))))).mono ?_
    rintro e w1 ⟨b1, c1, rfl, _, hb1⟩
    have c4 := later hb1 (a := ⟨w.heap.size + 1, 0, none⟩) (v := .int .i64 0) (by simp [go_sem, World.cell?_alloc_past])
    have c5 := later hb1 (a := ⟨w.heap.size + 1, 1, none⟩) (v := .int .i64 0) (by simp [go_sem, World.cell?_alloc_past])
    have f4 := free_later hb1 (a := ⟨w.heap.size + 1, 0, none⟩) (v := .int .i64 0) (by simp [go_sem, World.cell?_alloc_past]) (by simp [go_sem, World.cell?_alloc_past])
    have f5 := free_later hb1 (a := ⟨w.heap.size + 1, 1, none⟩) (v := .int .i64 0) (by simp [go_sem, World.cell?_alloc_past]) (by simp [go_sem, World.cell?_alloc_past])
    go_wp2_with fail
    have yy := two_set (x := .int .i64 0) (y := .int .i64 0) c4 c5
    exact bodyPost_ret (v := .tuple #[.agg #[.int .i64 0, .int .i64 0], .int .i64 E]) (by simp [results, Try.results54, go_sem, yy.1, yy.2]) rfl ⟨rfl, bset (bset (show Below w.heap.size w w1 from (by repeat (first | exact Below.refl _ _ | assumption | apply balloc | apply bdrew | (refine bset ?_ (by first | (simp; done) | omega | (simp; omega)) _) | (refine bnext ?_ (by assumption))))) (by simp) _) (by simp) _⟩
  · by_cases h0 : rs = []
    · subst h0
      have e0 : invQ [] 0 = ((0, 0), 7) := by simp [invQ]
      rw [e0]
      clear e0
      go_enter Try.func54, Try.ntmps54
      go_wp2_with fail
      refine (C.out _ _ _ (pairs_later h.out (by repeat (first | exact Below.refl _ _ | assumption | apply balloc | apply bdrew | (refine bset ?_ (by first | (simp; done) | omega | (simp; omega)) _) | (refine bnext ?_ (by assumption)))))).mono ?_
      rintro e w1 ⟨b1, c1, rfl, _, hb1⟩
      have c4 := later hb1 (a := ⟨w.heap.size + 1, 0, none⟩) (v := .int .i64 0) (by simp [go_sem, World.cell?_alloc_past])
      have c5 := later hb1 (a := ⟨w.heap.size + 1, 1, none⟩) (v := .int .i64 0) (by simp [go_sem, World.cell?_alloc_past])
      have f4 := free_later hb1 (a := ⟨w.heap.size + 1, 0, none⟩) (v := .int .i64 0) (by simp [go_sem, World.cell?_alloc_past]) (by simp [go_sem, World.cell?_alloc_past])
      have f5 := free_later hb1 (a := ⟨w.heap.size + 1, 1, none⟩) (v := .int .i64 0) (by simp [go_sem, World.cell?_alloc_past]) (by simp [go_sem, World.cell?_alloc_past])
      go_wp2_with fail
      have yy := two_set (x := .int .i64 0) (y := .int .i64 0) c4 c5
      exact bodyPost_ret (v := .tuple #[.agg #[.int .i64 0, .int .i64 0], .int .i64 7]) (by simp [results, Try.results54, go_sem, yy.1, yy.2]) rfl ⟨rfl, bset (bset (show Below w.heap.size w w1 from (by repeat (first | exact Below.refl _ _ | assumption | apply balloc | apply bdrew | (refine bset ?_ (by first | (simp; done) | omega | (simp; omega)) _) | (refine bnext ?_ (by assumption))))) (by simp) _) (by simp) _⟩
    · have hp : 0 < rs.length := by
        rcases rs with _ | ⟨r, rs⟩
        · exact (h0 rfl).elim
        · simp
      have e0 : invQ rs 0 = (((rs.getD 0 (0, 0)).1, (rs.getD (rs.length - 1) (0, 0)).2), 0) := by unfold invQ; rw [if_pos rfl, if_neg h0]
      rw [e0]
      clear e0
      have z1 : ((rs.length : Int) == 0) = false := by simp; omega
      obtain ⟨X, hX⟩ : ∃ x, (rs.getD 0 (0, 0)).1 = x := ⟨_, rfl⟩
      obtain ⟨Y, hY⟩ : ∃ x, (rs.getD (rs.length - 1) (0, 0)).2 = x := ⟨_, rfl⟩
      rw [hX, hY]
      have HX := hide hX
      have HY := hide hY
      clear hX hY h0
      go_enter Try.func54, Try.ntmps54
      go_wp2_with fail
      refine (C.out _ _ _ (pairs_later h.out (by repeat (first | exact Below.refl _ _ | assumption | apply balloc | apply bdrew | (refine bset ?_ (by first | (simp; done) | omega | (simp; omega)) _) | (refine bnext ?_ (by assumption)))))).mono ?_
      rintro e w1 ⟨b1, c1, rfl, hi1, hb1⟩
      have c4 := later hb1 (a := ⟨w.heap.size + 1, 0, none⟩) (v := .int .i64 0) (by simp [go_sem, World.cell?_alloc_past])
      have c5 := later hb1 (a := ⟨w.heap.size + 1, 1, none⟩) (v := .int .i64 0) (by simp [go_sem, World.cell?_alloc_past])
      have f4 := free_later hb1 (a := ⟨w.heap.size + 1, 0, none⟩) (v := .int .i64 0) (by simp [go_sem, World.cell?_alloc_past]) (by simp [go_sem, World.cell?_alloc_past])
      have f5 := free_later hb1 (a := ⟨w.heap.size + 1, 1, none⟩) (v := .int .i64 0) (by simp [go_sem, World.cell?_alloc_past]) (by simp [go_sem, World.cell?_alloc_past])
      obtain ⟨b, off, rfl, hc⟩ : ∃ b off, b1 = some ⟨b, off, none⟩ ∧ ∀ i, i < rs.length → w1.cell? ⟨b, off + i * 2, none⟩ = some (.int .i64 (rs.getD i (0, 0)).1) ∧ w1.cell? ⟨b, off + i * 2 + 1, none⟩ = some (.int .i64 (rs.getD i (0, 0)).2) := by
        rcases hi1 with h | h
        · subst h; simp at hp
        · exact h
      have x0 := (hc 0 hp).1
      have x1 := (hc (rs.length - 1) (by omega)).2
      rw [HX.out, Nat.zero_mul, Nat.add_zero] at x0
      rw [HY.out] at x1
      clear hc
      have n0 : 0 ≤ (rs.length : Int) - 1 := by omega
      have n1 : (rs.length : Int) - 1 < rs.length := by omega
      have n2 : ((rs.length : Int) - 1).toNat = rs.length - 1 := by omega
      have n3 : (0 : Int) < rs.length := by omega
      have n4 : IntKind.wrap .i64 ((rs.length : Int) - 1) = (rs.length : Int) - 1 := IntWalk.i64_in _ (by omega)
      have B1 := hide (show Below w.heap.size w w1 from (by repeat (first | exact Below.refl _ _ | assumption | apply balloc | apply bdrew | (refine bset ?_ (by first | (simp; done) | omega | (simp; omega)) _) | (refine bnext ?_ (by assumption)))))
      clear hb1
      go_wp2_with fail
      go_region
      all_goals
        go_wp2_with fail
        have yy := two_set (x := .int .i64 X) (y := .int .i64 Y) c4 c5
        have B1' := B1.out
        exact bodyPost_ret (v := .tuple #[.agg #[.int .i64 X, .int .i64 Y], .int .i64 0]) (by simp [results, Try.results54, go_sem, yy.1, yy.2]) rfl ⟨rfl, (by repeat (first | exact Below.refl _ _ | assumption | apply balloc | apply bdrew | (refine bset ?_ (by first | (simp; done) | omega | (simp; omega)) _) | (refine bnext ?_ (by assumption))))⟩

set_option maxRecDepth 100000 in
set_option maxHeartbeats 3200000 in
theorem refInverse_go (ks rs : List (Int × Int)) (a : Option Addr) (cap : Nat) (lo hi E : Int) (w : World) (C : Hid (WheC 55 ks lo hi rs E)) (l1 : rs.length ≤ 60) (hE : (E == 0) = false ∧ rs = [] ∨ E = 0) (h : Hid (IsPairs w a ks)) :
    Calls Try.prog 56 #[.slice a ks.length cap, .agg #[.int .i64 lo, .int .i64 hi]] w fun e w' => TbP (invQ rs E).1.1 (invQ rs E).1.2 (invQ rs E).2 w e w' := by
  rcases hE with ⟨hE, hr⟩ | rfl
  · have e0 : invQ rs E = ((0, 0), E) := by unfold invQ; rw [if_neg (by simpa using hE)]
    rw [e0]
    have hE' : (E != 0) = true := by simp [bne, hE]
    have HR := hide hr
    clear e0 hr
    go_enter Try.func56, Try.ntmps56
    go_wp2_with fail
    refine (C.out _ _ _ (pairs_later h.out (by repeat (first | exact Below.refl _ _ | assumption | apply balloc | apply bdrew | (refine bset ?_ (by first | (simp; done) | omega | (simp; omega)) _) | (refine bnext ?_ (by assumption)))))).mono ?_
    rintro e w1 ⟨b1, c1, rfl, _, hb1⟩
    have c4 := later hb1 (a := ⟨w.heap.size + 1, 0, none⟩) (v := .int .i64 0) (by simp [go_sem, World.cell?_alloc_past])
    have c5 := later hb1 (a := ⟨w.heap.size + 1, 1, none⟩) (v := .int .i64 0) (by simp [go_sem, World.cell?_alloc_past])
    have f4 := free_later hb1 (a := ⟨w.heap.size + 1, 0, none⟩) (v := .int .i64 0) (by simp [go_sem, World.cell?_alloc_past]) (by simp [go_sem, World.cell?_alloc_past])
    have f5 := free_later hb1 (a := ⟨w.heap.size + 1, 1, none⟩) (v := .int .i64 0) (by simp [go_sem, World.cell?_alloc_past]) (by simp [go_sem, World.cell?_alloc_past])
    go_wp2_with fail
    have yy := two_set (x := .int .i64 0) (y := .int .i64 0) c4 c5
    exact bodyPost_ret (v := .tuple #[.agg #[.int .i64 0, .int .i64 0], .int .i64 E]) (by simp [results, Try.results56, go_sem, yy.1, yy.2]) rfl ⟨rfl, bset (bset (show Below w.heap.size w w1 from (by repeat (first | exact Below.refl _ _ | assumption | apply balloc | apply bdrew | (refine bset ?_ (by first | (simp; done) | omega | (simp; omega)) _) | (refine bnext ?_ (by assumption))))) (by simp) _) (by simp) _⟩
  · by_cases h0 : rs = []
    · subst h0
      have e0 : invQ [] 0 = ((0, 0), 7) := by simp [invQ]
      rw [e0]
      clear e0
      go_enter Try.func56, Try.ntmps56
      go_wp2_with fail
      refine (C.out _ _ _ (pairs_later h.out (by repeat (first | exact Below.refl _ _ | assumption | apply balloc | apply bdrew | (refine bset ?_ (by first | (simp; done) | omega | (simp; omega)) _) | (refine bnext ?_ (by assumption)))))).mono ?_
      rintro e w1 ⟨b1, c1, rfl, _, hb1⟩
      have c4 := later hb1 (a := ⟨w.heap.size + 1, 0, none⟩) (v := .int .i64 0) (by simp [go_sem, World.cell?_alloc_past])
      have c5 := later hb1 (a := ⟨w.heap.size + 1, 1, none⟩) (v := .int .i64 0) (by simp [go_sem, World.cell?_alloc_past])
      have f4 := free_later hb1 (a := ⟨w.heap.size + 1, 0, none⟩) (v := .int .i64 0) (by simp [go_sem, World.cell?_alloc_past]) (by simp [go_sem, World.cell?_alloc_past])
      have f5 := free_later hb1 (a := ⟨w.heap.size + 1, 1, none⟩) (v := .int .i64 0) (by simp [go_sem, World.cell?_alloc_past]) (by simp [go_sem, World.cell?_alloc_past])
      go_wp2_with fail
      have yy := two_set (x := .int .i64 0) (y := .int .i64 0) c4 c5
      exact bodyPost_ret (v := .tuple #[.agg #[.int .i64 0, .int .i64 0], .int .i64 7]) (by simp [results, Try.results56, go_sem, yy.1, yy.2]) rfl ⟨rfl, bset (bset (show Below w.heap.size w w1 from (by repeat (first | exact Below.refl _ _ | assumption | apply balloc | apply bdrew | (refine bset ?_ (by first | (simp; done) | omega | (simp; omega)) _) | (refine bnext ?_ (by assumption))))) (by simp) _) (by simp) _⟩
    · have hp : 0 < rs.length := by
        rcases rs with _ | ⟨r, rs⟩
        · exact (h0 rfl).elim
        · simp
      have e0 : invQ rs 0 = (((rs.getD 0 (0, 0)).1, (rs.getD (rs.length - 1) (0, 0)).2), 0) := by unfold invQ; rw [if_pos rfl, if_neg h0]
      rw [e0]
      clear e0
      have z1 : ((rs.length : Int) == 0) = false := by simp; omega
      obtain ⟨X, hX⟩ : ∃ x, (rs.getD 0 (0, 0)).1 = x := ⟨_, rfl⟩
      obtain ⟨Y, hY⟩ : ∃ x, (rs.getD (rs.length - 1) (0, 0)).2 = x := ⟨_, rfl⟩
      rw [hX, hY]
      have HX := hide hX
      have HY := hide hY
      clear hX hY h0
      go_enter Try.func56, Try.ntmps56
      go_wp2_with fail
      refine (C.out _ _ _ (pairs_later h.out (by repeat (first | exact Below.refl _ _ | assumption | apply balloc | apply bdrew | (refine bset ?_ (by first | (simp; done) | omega | (simp; omega)) _) | (refine bnext ?_ (by assumption)))))).mono ?_
      rintro e w1 ⟨b1, c1, rfl, hi1, hb1⟩
      have c4 := later hb1 (a := ⟨w.heap.size + 1, 0, none⟩) (v := .int .i64 0) (by simp [go_sem, World.cell?_alloc_past])
      have c5 := later hb1 (a := ⟨w.heap.size + 1, 1, none⟩) (v := .int .i64 0) (by simp [go_sem, World.cell?_alloc_past])
      have f4 := free_later hb1 (a := ⟨w.heap.size + 1, 0, none⟩) (v := .int .i64 0) (by simp [go_sem, World.cell?_alloc_past]) (by simp [go_sem, World.cell?_alloc_past])
      have f5 := free_later hb1 (a := ⟨w.heap.size + 1, 1, none⟩) (v := .int .i64 0) (by simp [go_sem, World.cell?_alloc_past]) (by simp [go_sem, World.cell?_alloc_past])
      obtain ⟨b, off, rfl, hc⟩ : ∃ b off, b1 = some ⟨b, off, none⟩ ∧ ∀ i, i < rs.length → w1.cell? ⟨b, off + i * 2, none⟩ = some (.int .i64 (rs.getD i (0, 0)).1) ∧ w1.cell? ⟨b, off + i * 2 + 1, none⟩ = some (.int .i64 (rs.getD i (0, 0)).2) := by
        rcases hi1 with h | h
        · subst h; simp at hp
        · exact h
      have x0 := (hc 0 hp).1
      have x1 := (hc (rs.length - 1) (by omega)).2
      rw [HX.out, Nat.zero_mul, Nat.add_zero] at x0
      rw [HY.out] at x1
      clear hc
      have n0 : 0 ≤ (rs.length : Int) - 1 := by omega
      have n1 : (rs.length : Int) - 1 < rs.length := by omega
      have n2 : ((rs.length : Int) - 1).toNat = rs.length - 1 := by omega
      have n3 : (0 : Int) < rs.length := by omega
      have n4 : IntKind.wrap .i64 ((rs.length : Int) - 1) = (rs.length : Int) - 1 := IntWalk.i64_in _ (by omega)
      have B1 := hide (show Below w.heap.size w w1 from (by repeat (first | exact Below.refl _ _ | assumption | apply balloc | apply bdrew | (refine bset ?_ (by first | (simp; done) | omega | (simp; omega)) _) | (refine bnext ?_ (by assumption)))))
      clear hb1
      go_wp2_with fail
      go_region
      all_goals
        go_wp2_with fail
        have yy := two_set (x := .int .i64 X) (y := .int .i64 Y) c4 c5
        have B1' := B1.out
        exact bodyPost_ret (v := .tuple #[.agg #[.int .i64 X, .int .i64 Y], .int .i64 0]) (by simp [results, Try.results56, go_sem, yy.1, yy.2]) rfl ⟨rfl, (by repeat (first | exact Below.refl _ _ | assumption | apply balloc | apply bdrew | (refine bset ?_ (by first | (simp; done) | omega | (simp; omega)) _) | (refine bnext ?_ (by assumption))))⟩

end Go.Proofs.Ytckapcfofkeicaa
