/-
  UnitsBalances: the walk.
-/
import Derived.Test.YtadnchcelocnaaaRefB
import Derived.Test.YtadnchcelocnaaaFrameD
namespace Go.Proofs.Ytadnchcelocnaaa
set_option linter.unusedSimpArgs false
set_option linter.unusedVariables false
open Go.RowKit

theorem refBalance_any (rs : List (Int × Int)) (a : Option Addr) (cap : Nat) (wl wh : Int) (w : World) (hl : rs.length ≤ 140737488351232) (h : IsPairs w a rs) :
    Calls Try.prog 47 #[.slice a rs.length cap, .agg #[.int .i64 wl, .int .i64 wh]] w fun e w' => BalPost rs wl wh w e w' := by
  have L := fun (w : World) (h : IsPairs w a rs) => refList_any a cap rs w hl h
  have R := fun w => refRange_any wl wh w
  by_cases h1 : 100 < rs.length
  · have e1 : listE rs = 5 := by unfold listE; rw [decide_eq_false (by omega), if_pos rfl]
    rw [e1] at L
    exact refBalance_bad rs a cap wl wh 5 w L rfl (show balE rs wl wh = 5 by unfold balE; rw [decide_eq_false (by omega), if_pos rfl]) h
  · have d2 : decide ((rs.length : Int) ≤ 100) = true := decide_eq_true (by omega)
    cases hA : rs.all rangeOk with
    | false =>
      have e1 : listE rs = 2 := by unfold listE; rw [d2, if_neg (by simp), if_pos hA]
      rw [e1] at L
      exact refBalance_bad rs a cap wl wh 2 w L rfl (show balE rs wl wh = 2 by unfold balE; rw [d2, if_neg (by simp), if_pos hA]) h
    | true =>
      have e1 : listE rs = 0 := by unfold listE; rw [d2, if_neg (by simp), hA, if_neg (by simp)]
      rw [e1] at L
      have e2 : [(wl, wh)].all rangeOk = rangeOk (wl, wh) := by simp
      cases hW : rangeOk (wl, wh) with
      | false =>
        rw [hW] at R
        exact refBalance_badW rs a cap wl wh w L R (show balE rs wl wh = 2 by unfold balE; rw [d2, if_neg (by simp), hA, if_neg (by simp), e2, hW, if_pos rfl]) h
      | true =>
        rw [hW] at R
        have hw : -1000000000000000 ≤ wl ∧ wl ≤ wh ∧ wh ≤ 1000000000000000 := by
          have h3' := hW
          simp [rangeOk, allIn] at h3'
          omega
        exact refBalance_good rs a cap wl wh w L R h (by omega) hA hw (show balE rs wl wh = _ by unfold balE; rw [d2, if_neg (by simp), hA, if_neg (by simp), e2, hW, if_neg (by simp)])

set_option maxHeartbeats 6400000 in
theorem unitsBalances_walk (rs : List (Int × Int)) (a : Option Addr) (cap : Nat) (wl wh : Int) (w : World) (hl : rs.length ≤ maxLen ∧ (a = none → cap = 0 ∧ rs = [])) (h : IsPairs w a rs) :
    Calls Try.prog 9 #[.slice a rs.length cap, .agg #[.int .i64 wl, .int .i64 wh]] w fun e w' => e = .returned (.bool true) ∧ Below w.heap.size w w' := by
  by_cases hlen : 110 < rs.length
  · have d1 : decide (110 < (rs.length : Int)) = true := decide_eq_true (by omega)
    obtain ⟨hm, _⟩ := hl
    unfold maxLen at hm
    go_enter Try.func9, Try.ntmps9
    go_wp2_with fail
    refine (known_any _).mono ?_
    rintro e w1 ⟨rfl, hb1⟩
    go_wp2_with fail
    go_ret
    exact ⟨rfl, (by repeat (first | exact Below.refl _ _ | assumption | apply balloc | apply bdrew | (refine bset ?_ (by first | (simp; done) | omega | (simp; omega)) _) | (refine bnext ?_ (by assumption))))⟩
  · have d1 : decide (110 < (rs.length : Int)) = false := decide_eq_false (by omega)
    have H := hide h
    have HA := hide hl.2
    clear hl h
    obtain ⟨q, hq⟩ : ∃ q, balN rs wl wh = q := ⟨_, rfl⟩
    obtain ⟨E, hE⟩ : ∃ E, balE rs wl wh = E := ⟨_, rfl⟩
    obtain ⟨S, hS⟩ : ∃ S, balS rs wl wh = S := ⟨_, rfl⟩
    have hql : q.length ≤ 1000 := by
      rw [← hq]
      unfold balN
      split
      · simp; omega
      · simp
    have HQ := hide hq
    have HE := hide hE
    have HS := hide hS
    have HQL := hide hql
    clear hq hE hS hql
    obtain ⟨s1, s2⟩ := S
    go_enter Try.func9, Try.ntmps9
    go_wp2_with fail
    refine (ownRanges_any a cap rs _ (by omega) HA.out (pairs_later H.out (by repeat (first | exact Below.refl _ _ | assumption | apply balloc | apply bdrew | (refine bset ?_ (by first | (simp; done) | omega | (simp; omega)) _) | (refine bnext ?_ (by assumption)))))).mono ?_
    rintro e w1 ⟨b1, c1, rfl, hA1, hi1, hb1⟩
    have p0 := later hb1 (a := ⟨w.heap.size, 0, none⟩) (v := .int .i64 wl) (by simp [go_sem, World.cell?_alloc_past])
    have p1 := later hb1 (a := ⟨w.heap.size, 1, none⟩) (v := .int .i64 wh) (by simp [go_sem, World.cell?_alloc_past])
    have H1 := hide (pairs_later H.out (show Below w.heap.size w w1 from (by repeat (first | exact Below.refl _ _ | assumption | apply balloc | apply bdrew | (refine bset ?_ (by first | (simp; done) | omega | (simp; omega)) _) | (refine bnext ?_ (by assumption))))))
    have B1 : Below w.heap.size w w1 := (by repeat (first | exact Below.refl _ _ | assumption | apply balloc | apply bdrew | (refine bset ?_ (by first | (simp; done) | omega | (simp; omega)) _) | (refine bnext ?_ (by assumption))))
    have I1 := hide hi1
    clear hi1 hA1 hb1
    go_wp2_with fail
    refine (balance_any rs b1 c1 wl wh w1 (by omega) I1.out).mono ?_
    rintro e w2 ⟨b2, c2, rfl, hi2, hb2⟩
    rw [HQ.out] at hi2
    rw [HQ.out, HE.out, HS.out]
    have p0' := fun o => later (balloc (o := o) (Below.refl _ _)) (later hb2 p0)
    have p1' := fun o => later (balloc (o := o) (Below.refl _ _)) (later hb2 p1)
    have H2 := hide (pairs_later H1.out hb2)
    have I1' := hide (pairs_later I1.out hb2)
    have B2 : Below w.heap.size w w2 := (by repeat (first | exact Below.refl _ _ | assumption | apply balloc | apply bdrew | (refine bset ?_ (by first | (simp; done) | omega | (simp; omega)) _) | (refine bnext ?_ (by assumption))))
    have I2 := hide hi2
    clear hi2 p0 p1 hb2 B1 H1 I1
    go_wp2_with fail
    refine (refBalance_any rs a cap wl wh _ (by omega) (pairs_later H2.out (by repeat (first | exact Below.refl _ _ | assumption | apply balloc | apply bdrew | (refine bset ?_ (by first | (simp; done) | omega | (simp; omega)) _) | (refine bnext ?_ (by assumption)))))).mono ?_
    rintro e w3 ⟨b3, c3, rfl, hi3, hb3⟩
    rw [HQ.out] at hi3
    rw [HQ.out, HE.out, HS.out]
    have y0 := later hb3 (a := ⟨w2.heap.size, 0, none⟩) (v := .int .i64 s1) (by simp [go_sem, World.cell?_alloc_past])
    have y1 := later hb3 (a := ⟨w2.heap.size, 1, none⟩) (v := .int .i64 s2) (by simp [go_sem, World.cell?_alloc_past])
    have B23 : Below w2.heap.size w2 w3 := (by repeat (first | exact Below.refl _ _ | assumption | apply balloc | apply bdrew | (refine bset ?_ (by first | (simp; done) | omega | (simp; omega)) _) | (refine bnext ?_ (by assumption))))
    have H3 := hide (pairs_later H2.out B23)
    have I1 := hide (pairs_later I1'.out B23)
    have I2' := hide (pairs_later I2.out B23)
    have B3 : Below w.heap.size w w3 := (by repeat (first | exact Below.refl _ _ | assumption | apply balloc | apply bdrew | (refine bset ?_ (by first | (simp; done) | omega | (simp; omega)) _) | (refine bnext ?_ (by assumption))))
    have I3 := hide hi3
    clear hi3 hb3 B23 p0' p1' H2 I1' I2 B2
    go_wp2_with fail
    refine (sameRanges_any b2 b3 c2 c3 q q _ (by have := HQL.out; omega) (by have := HQL.out; omega) (pairs_later I2'.out (balloc (Below.refl _ _))) (pairs_later I3.out (balloc (Below.refl _ _)))).mono ?_
    rw [decide_eq_true rfl]
    rintro e w4 ⟨rfl, hb4⟩
    have y0' := later hb4 (later (balloc (Below.refl _ _)) y0)
    have y1' := later hb4 (later (balloc (Below.refl _ _)) y1)
    have y2 := later hb4 (a := ⟨w3.heap.size, 0, none⟩) (v := .int .i64 s1) (by simp [go_sem, World.cell?_alloc_past])
    have y3 := later hb4 (a := ⟨w3.heap.size, 1, none⟩) (v := .int .i64 s2) (by simp [go_sem, World.cell?_alloc_past])
    have B34 : Below w3.heap.size w3 w4 := (by repeat (first | exact Below.refl _ _ | assumption | apply balloc | apply bdrew | (refine bset ?_ (by first | (simp; done) | omega | (simp; omega)) _) | (refine bnext ?_ (by assumption))))
    have B4 : Below w.heap.size w w4 := (by repeat (first | exact Below.refl _ _ | assumption | apply balloc | apply bdrew | (refine bset ?_ (by first | (simp; done) | omega | (simp; omega)) _) | (refine bnext ?_ (by assumption))))
    have H4 := hide (pairs_later H3.out B34)
    have I4 := hide (pairs_later I1.out B34)
    clear hb4 B34 y0 y1 H3 I1 I2' I3 B3
    go_wp2_with fail
    refine (sameRanges_any b1 a c1 cap rs rs w4 (by omega) (by omega) I4.out H4.out).mono ?_
    rw [decide_eq_true rfl]
    rintro e w5 ⟨rfl, hb5⟩
    go_wp2_with fail
    refine (known_any _).mono ?_
    rintro e w6 ⟨rfl, hb6⟩
    go_wp2_with fail
    go_ret
    exact ⟨rfl, (by repeat (first | exact Below.refl _ _ | assumption | apply balloc | apply bdrew | (refine bset ?_ (by first | (simp; done) | omega | (simp; omega)) _) | (refine bnext ?_ (by assumption))))⟩
end Go.Proofs.Ytadnchcelocnaaa
