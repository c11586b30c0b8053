/-
  UnitsWheres: the walk.
-/
import Derived.Test.YtckapcfofkeicaaWhI
import Derived.Test.YtckapcfofkeicaaTbW
namespace Go.Proofs.Ytckapcfofkeicaa
set_option linter.unusedSimpArgs false
set_option linter.unusedVariables false
open Go.RowKit

/-- What Inverse answers, told of either form of it. -/
def InC (G : Nat) (ks : List (Int × Int)) (lo hi X Y F : Int) : Prop := ∀ a cap W, IsPairs W a ks → Calls Try.prog G #[.slice a ks.length cap, .agg #[.int .i64 lo, .int .i64 hi]] W fun e w' => TbP X Y F W e w'
/-- Pairs in a block of their own read as before behind a write elsewhere (the block's number at least m, the write's below). -/
theorem wcell_later {W W' : World} {q : Nat} {x y : Value} (h : W.cell? ⟨q, 0, none⟩ = some x ∧ W.cell? ⟨q, 1, none⟩ = some y) (hb : Below W.heap.size W W') : W'.cell? ⟨q, 0, none⟩ = some x ∧ W'.cell? ⟨q, 1, none⟩ = some y := ⟨later hb h.1, later hb h.2⟩

theorem whereTQ_short {ks : List (Int × Int)} {lo hi : Int} : (whereTQ ks lo hi).1.length ≤ 60 := by
  unfold whereTQ
  cases h : tabOk ks with
  | false => rw [if_pos rfl]; simp
  | true =>
    rw [if_neg (by simp)]
    split
    · simp
    · have l := len_of h
      have := wAll_length lo hi (segs ks (ks.length - 1))
      rw [segs_length] at this
      simp only
      omega
theorem whereTQ_cases {ks : List (Int × Int)} {lo hi : Int} : ((whereTQ ks lo hi).2 == 0) = false ∧ (whereTQ ks lo hi).1 = [] ∨ (whereTQ ks lo hi).2 = 0 := by
  unfold whereTQ
  split
  · exact .inl ⟨rfl, rfl⟩
  · split
    · exact .inl ⟨rfl, rfl⟩
    · exact .inr rfl
theorem wheC_units {ks : List (Int × Int)} {lo hi : Int} (hl : ks.length ≤ 1000) : WheC 53 ks lo hi (whereTQ ks lo hi).1 (whereTQ ks lo hi).2 := by
  intro a cap W h
  refine (whereT_any ks a cap lo hi W (by omega) h).mono ?_
  rintro e w' ⟨v, rfl, ho, hb⟩
  obtain ⟨b, c, rfl, hp⟩ := pairs_of_owned ho rfl
  exact ⟨b, c, rfl, hp, hb⟩
theorem wheC_ref {ks : List (Int × Int)} {lo hi : Int} (hl : ks.length ≤ 1000) (hw : Wide ks) : WheC 55 ks lo hi (whereTQ ks lo hi).1 (whereTQ ks lo hi).2 := by
  intro a cap W h
  refine (refWhere_any ks a cap lo hi W (by omega) hw h).mono ?_
  rintro e w' ⟨v, rfl, ho, hb⟩
  obtain ⟨b, c, rfl, hp⟩ := pairs_of_owned ho rfl
  exact ⟨b, c, rfl, hp, hb⟩

set_option maxRecDepth 100000 in
set_option maxHeartbeats 3200000 in
theorem wheres_long (ks : List (Int × Int)) (a : Option Addr) (cap : Nat) (lo hi : Int) (w : World) (hm : ks.length ≤ maxLen) (hl : 70 < ks.length) :
    Calls Try.prog 11 #[.slice a ks.length cap, .agg #[.int .i64 lo, .int .i64 hi]] w fun e w' => e = .returned (.bool true) ∧ Below w.heap.size w w' := by
  have d1 : decide (70 < (ks.length : Int)) = true := decide_eq_true (by omega)
  unfold maxLen at hm
  go_enter Try.func11, Try.ntmps11
  go_wp2_with fail
  refine (known_any _).mono ?_
  rintro e w1 ⟨rfl, hb1⟩
  go_wp2_with fail
  go_ret
  exact ⟨rfl, (by repeat (first | exact Below.refl _ _ | assumption | apply balloc | apply bdrew | (refine bset ?_ (by first | (simp; done) | omega | (simp; omega)) _) | (refine bnext ?_ (by assumption))))⟩

set_option maxRecDepth 100000 in
set_option maxHeartbeats 6400000 in
theorem wheres_go (ks rs : List (Int × Int)) (a : Option Addr) (cap : Nat) (lo hi E X Y F : Int) (w : World) (hl : ks.length ≤ 70) (l1 : rs.length ≤ 60) (ha : Hid (a = none → cap = 0 ∧ ks = [])) (h : Hid (IsPairs w a ks))
    (C : Hid (WheC 53 ks lo hi rs E)) (R : Hid (WheC 55 ks lo hi rs E)) (V : Hid (InC 54 ks lo hi X Y F)) (U : Hid (InC 56 ks lo hi X Y F)) :
    Calls Try.prog 11 #[.slice a ks.length cap, .agg #[.int .i64 lo, .int .i64 hi]] w fun e w' => e = .returned (.bool true) ∧ Below w.heap.size w w' := by
  have d1 : decide (70 < (ks.length : Int)) = false := decide_eq_false (by omega)
  go_enter Try.func11, Try.ntmps11
  go_upto_region 3 with fail
  obtain ⟨w0, hw0⟩ : ∃ w0, w0 = w.alloc (.cells #[.int .i64 lo, .int .i64 hi] 46) := ⟨_, rfl⟩
  rw [← hw0]
  have B0 := hide (show Below w.heap.size w w0 by rw [hw0]; exact (by repeat (first | exact Below.refl _ _ | assumption | apply balloc | apply bdrew | (refine bset ?_ (by first | (simp; done) | omega | (simp; omega)) _) | (refine bnext ?_ (by assumption)))))
  have c0 : w0.cell? ⟨w.heap.size, 0, none⟩ = some (.int .i64 lo) := by rw [hw0]; simp [go_sem, World.cell?_alloc_past]
  have c1 : w0.cell? ⟨w.heap.size, 1, none⟩ = some (.int .i64 hi) := by rw [hw0]; simp [go_sem, World.cell?_alloc_past]
  clear hw0
  have KP := hide (fun (W : World) (hb : Below w0.heap.size w0 W) => (show (W.cell? ⟨w.heap.size, 0, none⟩ = some (.int .i64 lo) ∧ W.cell? ⟨w.heap.size, 1, none⟩ = some (.int .i64 hi)) ∧ Below w0.heap.size w0 W from ⟨⟨later hb c0, later hb c1⟩, hb⟩))
  have OK := hide (fun (W : World) (hb : Below w0.heap.size w0 W) => ownKnots_any a cap ks W (by omega) ha.out (pairs_later h.out (bnext B0.out hb)))
  clear c0 c1
  go_cut [5, 6] from 17 to 23 (fun s5 s6 wx => s6 = .int .i64 E ∧ ∃ b c, s5 = .slice b rs.length c ∧ IsPairs wx b rs ∧ Below w0.heap.size w0 wx)
  case first => as_aux_lemma =>
    have K0 := (KP.out w0 (Below.refl _ _)).1
    go_region_held3 (fun w' => (w'.cell? ⟨w.heap.size, 0, none⟩ = some (.int .i64 lo) ∧ w'.cell? ⟨w.heap.size, 1, none⟩ = some (.int .i64 hi)) ∧ Below w0.heap.size w0 w')
      ((go_split_ands; refine KP.out _ ?_; exact (by repeat (first | exact Below.refl _ _ | assumption | apply balloc | apply bdrew | (refine bset ?_ (by first | (simp; done) | omega | (simp; omega)) _) | (refine bnext ?_ (by assumption))))))
      (first | (go_at_call 48; refine (OK.out _ (by exact (by repeat (first | exact Below.refl _ _ | assumption | apply balloc | apply bdrew | (refine bset ?_ (by first | (simp; done) | omega | (simp; omega)) _) | (refine bnext ?_ (by assumption)))))).mono ?_; rintro e wA ⟨b1, c1, rfl, _, hi1, hbA⟩; skip) | (go_at_call 53; refine (C.out _ _ _ (pairs_later hi1 (by exact (by repeat (first | exact Below.refl _ _ | assumption | apply balloc | apply bdrew | (refine bset ?_ (by first | (simp; done) | omega | (simp; omega)) _) | (refine bnext ?_ (by assumption))))))).mono ?_; rintro e wB ⟨b2, c2, rfl, hi2, hbB⟩; skip))
    all_goals
      go_wp2_with fail
      go_meet
      exact ⟨rfl, _, _, rfl, pairs_later hi2 (by exact (by repeat (first | exact Below.refl _ _ | assumption | apply balloc | apply bdrew | (refine bset ?_ (by first | (simp; done) | omega | (simp; omega)) _) | (refine bnext ?_ (by assumption))))), (by repeat (first | exact Below.refl _ _ | assumption | apply balloc | apply bdrew | (refine bset ?_ (by first | (simp; done) | omega | (simp; omega)) _) | (refine bnext ?_ (by assumption))))⟩
  case rest =>
    obtain ⟨rfl, b2, c2, rfl, hp2, hb2⟩ := hcut
    obtain ⟨wa, rfl⟩ : ∃ x : World, x = wc := ⟨_, rfl⟩
    have P2 := hide hp2
    have B2 := hide hb2
    have KP2 := hide (fun (W : World) (hb : Below wa.heap.size wa W) => (show (W.cell? ⟨w.heap.size, 0, none⟩ = some (.int .i64 lo) ∧ W.cell? ⟨w.heap.size, 1, none⟩ = some (.int .i64 hi)) ∧ Below wa.heap.size wa W from ⟨(KP.out W (bnext B2.out hb)).1, hb⟩))
    clear hp2 hb2
    go_upto_region 4 with fail
    go_cut [7, 8] from 24 to 30 (fun s7 s8 wx => s8 = .int .i64 F ∧ ∃ q, s7 = .pointer (some ⟨q, 0, none⟩) ∧ (wx.cell? ⟨q, 0, none⟩ = some (.int .i64 X) ∧ wx.cell? ⟨q, 1, none⟩ = some (.int .i64 Y)) ∧ Below wa.heap.size wa wx)
    case first => as_aux_lemma =>
      have K0 := (KP2.out wa (Below.refl _ _)).1
      go_region_held3 (fun w' => (w'.cell? ⟨w.heap.size, 0, none⟩ = some (.int .i64 lo) ∧ w'.cell? ⟨w.heap.size, 1, none⟩ = some (.int .i64 hi)) ∧ Below wa.heap.size wa w')
        ((go_split_ands; refine KP2.out _ ?_; (try (have hsA := hbA.size; (try simp at hsA))); exact (by repeat (first | exact Below.refl _ _ | assumption | apply balloc | apply bdrew | (refine bset ?_ (by first | (simp; done) | omega | (simp; omega)) _) | (refine bnext ?_ (by assumption))))))
        (first | (go_at_call 48; refine (OK.out _ (bnext B2.out (by exact (by repeat (first | exact Below.refl _ _ | assumption | apply balloc | apply bdrew | (refine bset ?_ (by first | (simp; done) | omega | (simp; omega)) _) | (refine bnext ?_ (by assumption))))))).mono ?_; rintro e wA ⟨b1, c1, rfl, _, hi1, hbA⟩; skip) | (go_at_call 54; refine (V.out _ _ _ (pairs_later hi1 (by exact (by repeat (first | exact Below.refl _ _ | assumption | apply balloc | apply bdrew | (refine bset ?_ (by first | (simp; done) | omega | (simp; omega)) _) | (refine bnext ?_ (by assumption))))))).mono ?_; rintro e wB ⟨rfl, hbB⟩; obtain ⟨⟨hcB, hfB⟩, hsB⟩ := bcell1 hbB; obtain ⟨⟨hcC, hfC⟩, hsC⟩ := bcellw2 hbA (by exact (by repeat (first | exact Below.refl _ _ | assumption | apply balloc | apply bdrew | (refine bset ?_ (by first | (simp; done) | omega | (simp; omega)) _) | (refine bnext ?_ (by assumption))))) hbB; (try simp at hsB hsC)))
      all_goals
        go_wp2_with fail
        go_meet
        have hsA := hbA.size
        (try simp at hsA)
        refine ⟨rfl, _, rfl, ⟨?_, ?_⟩, ?_⟩
        · first | (simp [go_sem]; done) | (simp (maxDischargeDepth := 8) [go_sem, hcB, hfB]; done) | (simp (maxDischargeDepth := 8) [go_sem, hcC, hfC]; done)
        · first | (simp [go_sem]; done) | (simp (maxDischargeDepth := 8) [go_sem, hcB, hfB]; done) | (simp (maxDischargeDepth := 8) [go_sem, hcC, hfC]; done)
        · exact (by repeat (first | exact Below.refl _ _ | assumption | apply balloc | apply bdrew | (refine bset ?_ (by first | (simp; done) | omega | (simp; omega)) _) | (refine bnext ?_ (by assumption))))
    case rest =>
      obtain ⟨rfl, q, rfl, hq, hb3⟩ := hcut
      have Q3 := hide hq
      have KX := hide (fun (W : World) (hb : Below wc.heap.size wc W) => (KP2.out W (bnext hb3 hb)).1)
      have P3 := hide (pairs_later P2.out hb3)
      have B3 := hide (bnext B0.out (bnext B2.out hb3))
      clear hq hb3 KP KP2 P2 B2 B0 OK C V
      obtain ⟨x0, x1⟩ := KX.out wc (Below.refl _ _)
      go_wp2_with fail
      refine (R.out _ _ _ (pairs_later h.out B3.out)).mono ?_
      rintro e w5 ⟨b5, c5, rfl, hp5, hb5⟩
      clear x0 x1
      obtain ⟨x0, x1⟩ := KX.out w5 hb5
      have P5 := hide hp5
      have HB5 := hide hb5
      clear hp5 hb5
      go_wp2_with fail
      refine (U.out _ _ _ (pairs_later h.out (bnext B3.out HB5.out))).mono ?_
      rintro e w6 ⟨rfl, hb6⟩
      clear x0 x1
      have HB6 := hide hb6
      clear hb6
      have SR := hide (fun (W : World) (h1 : IsPairs W b2 rs) (h2 : IsPairs W b5 rs) => (show Calls Try.prog 37 #[.slice b2 rs.length c2, .slice b5 rs.length c5] W fun e w' => e = .returned (.bool true) ∧ Below W.heap.size W w' by
        have hS := sameRanges_any b2 b5 c2 c5 rs rs W (by omega) (by omega) h1 h2
        rwa [decide_eq_true (show rs = rs from rfl)] at hS))
      go_wp2_with fail
      have D6 : Below w6.heap.size w6 (w6.alloc (.cells #[.int .i64 X, .int .i64 Y] 46)) := (by repeat (first | exact Below.refl _ _ | assumption | apply balloc | apply bdrew | (refine bset ?_ (by first | (simp; done) | omega | (simp; omega)) _) | (refine bnext ?_ (by assumption))))
      refine (SR.out _ (pairs_later P3.out (bnext (bnext HB5.out HB6.out) D6)) (pairs_later P5.out (bnext HB6.out D6))).mono ?_
      rintro e w7 ⟨rfl, hb7⟩
      obtain ⟨y0, y1⟩ := wcell_later Q3.out (bnext (bnext (bnext HB5.out HB6.out) D6) hb7)
      have z0 := later hb7 (a := ⟨w6.heap.size, 0, none⟩) (v := .int .i64 X) (by simp [go_sem, World.cell?_alloc_past])
      have z1 := later hb7 (a := ⟨w6.heap.size, 1, none⟩) (v := .int .i64 Y) (by simp [go_sem, World.cell?_alloc_past])
      have B7 := hide (bnext (bnext (bnext (bnext B3.out HB5.out) HB6.out) D6) hb7)
      clear hb7 D6
      go_wp2_with fail
      refine (known_any _).mono ?_
      rintro e w8 ⟨rfl, hb8⟩
      go_wp2_with fail
      go_ret
      exact ⟨rfl, bnext B7.out hb8⟩

theorem unitsWheres_walk (ks : List (Int × Int)) (a : Option Addr) (cap : Nat) (lo hi : Int) (w : World) (hl : ks.length ≤ maxLen ∧ (a = none → cap = 0 ∧ ks = [])) (h : IsPairs w a ks) (hw : Wide ks) :
    Calls Try.prog 11 #[.slice a ks.length cap, .agg #[.int .i64 lo, .int .i64 hi]] w fun e w' => e = .returned (.bool true) ∧ Below w.heap.size w w' := by
  by_cases hlen : 70 < ks.length
  · exact wheres_long ks a cap lo hi w hl.1 hlen
  · exact wheres_go ks (whereTQ ks lo hi).1 a cap lo hi (whereTQ ks lo hi).2 (invQ (whereTQ ks lo hi).1 (whereTQ ks lo hi).2).1.1 (invQ (whereTQ ks lo hi).1 (whereTQ ks lo hi).2).1.2 (invQ (whereTQ ks lo hi).1 (whereTQ ks lo hi).2).2 w (by omega) whereTQ_short hl.2 h
      (wheC_units (by omega)) (wheC_ref (by omega) hw) (fun a cap W hp => inverse_go ks _ a cap lo hi _ W (wheC_units (by omega)) whereTQ_short whereTQ_cases hp) (fun a cap W hp => refInverse_go ks _ a cap lo hi _ W (wheC_ref (by omega) hw) whereTQ_short whereTQ_cases hp)
end Go.Proofs.Ytckapcfofkeicaa
