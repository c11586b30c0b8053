/-
  UnitsWithin: the walk.
-/
import Derived.Test.YtckapcfofkeicaaWiN
import Derived.Test.YtckapcfofkeicaaWhW
namespace Go.Proofs.Ytckapcfofkeicaa
set_option linter.unusedSimpArgs false
set_option linter.unusedVariables false
open Go.RowKit

set_option maxRecDepth 100000 in
set_option maxHeartbeats 3200000 in
theorem within_long (ks : List (Int × Int)) (a : Option Addr) (cap : Nat) (yl yh t0 t1 t2 : Int) (w : World) (hm : ks.length ≤ maxLen) (hl : 60 < ks.length) :
    Calls Try.prog 19 #[.slice a ks.length cap, .agg #[.int .i64 yl, .int .i64 yh], .agg #[.int .u16 t0, .int .u16 t1, .int .u16 t2]] w fun e w' => e = .returned (.bool true) ∧ Below w.heap.size w w' := by
  have d1 : decide (60 < (ks.length : Int)) = true := decide_eq_true (by omega)
  unfold maxLen at hm
  go_enter Try.func19, Try.ntmps19
  go_wp2_with fail
  refine (known_any _).mono ?_
  rintro e w1 ⟨rfl, hb1⟩
  go_wp2_with fail
  go_ret
  exact ⟨rfl, (by repeat (first | exact Below.refl _ _ | assumption | apply balloc | apply bdrew | (refine bset ?_ (by first | (simp; done) | omega | (simp; omega)) _) | (refine bnext ?_ (by assumption))))⟩
set_option maxRecDepth 100000 in
set_option maxHeartbeats 3200000 in
theorem within_bad (ks : List (Int × Int)) (a : Option Addr) (cap : Nat) (yl yh t0 t1 t2 : Int) (w : World) (hl : ks.length ≤ 60) (ha : Hid (a = none → cap = 0 ∧ ks = [])) (h : Hid (IsPairs w a ks)) (C : Hid (ChC ks 2)) :
    Calls Try.prog 19 #[.slice a ks.length cap, .agg #[.int .i64 yl, .int .i64 yh], .agg #[.int .u16 t0, .int .u16 t1, .int .u16 t2]] w fun e w' => e = .returned (.bool true) ∧ Below w.heap.size w w' := by
  have d1 : decide (60 < (ks.length : Int)) = false := decide_eq_false (by omega)
  go_enter Try.func19, Try.ntmps19
  go_wp2_with fail
  refine (ownKnots_any a cap ks _ (by omega) ha.out (pairs_later h.out (by repeat (first | exact Below.refl _ _ | assumption | apply balloc | apply bdrew | (refine bset ?_ (by first | (simp; done) | omega | (simp; omega)) _) | (refine bnext ?_ (by assumption)))))).mono ?_
  rintro e w1 ⟨b1, c1, rfl, _, hi1, hb1⟩
  go_wp2_with fail
  refine (C.out _ _ _ hi1).mono ?_
  rintro e w2 ⟨rfl, hb2⟩
  go_wp2_with fail
  refine (known_any _).mono ?_
  rintro e w3 ⟨rfl, hb3⟩
  go_wp2_with fail
  go_ret
  exact ⟨rfl, (by repeat (first | exact Below.refl _ _ | assumption | apply balloc | apply bdrew | (refine bset ?_ (by first | (simp; done) | omega | (simp; omega)) _) | (refine bnext ?_ (by assumption))))⟩

/-- Whether p is in one of the first k runs. -/
def hasQ (R : List (Int × Int)) (p : Int) : Nat → Bool
  | 0 => false
  | k + 1 => hasQ R p k || (decide (aR R k ≤ p) && decide (p ≤ bR R k))
theorem hasQ_is {R : List (Int × Int)} {p : Int} : ∀ k, hasQ R p k = true ↔ ∃ i, i < k ∧ aR R i ≤ p ∧ p ≤ bR R i := by
  intro k
  induction k with
  | zero => simp [hasQ]
  | succ k ih =>
    simp only [hasQ, Bool.or_eq_true, Bool.and_eq_true, decide_eq_true_eq, ih]
    constructor
    · rintro (⟨i, hi, h1, h2⟩ | ⟨h1, h2⟩)
      · exact ⟨i, by omega, h1, h2⟩
      · exact ⟨k, by omega, h1, h2⟩
    · rintro ⟨i, hi, h1, h2⟩
      rcases Nat.lt_or_ge i k with c | c
      · exact .inl ⟨i, c, h1, h2⟩
      · obtain rfl : i = k := by omega
        exact .inr ⟨h1, h2⟩
/-- The two cells of a range. -/
def Two (W : World) (q : Nat) (x y : Int) : Prop := W.cell? ⟨q, 0, none⟩ = some (.int .i64 x) ∧ W.cell? ⟨q, 1, none⟩ = some (.int .i64 y)
theorem two_later {W W' : World} {q : Nat} {x y : Int} (h : Two W q x y) (hb : Below W.heap.size W W') : Two W' q x y := ⟨later hb h.1, later hb h.2⟩

set_option maxRecDepth 100000 in
set_option maxHeartbeats 12800000 in
theorem within_go (ks R : List (Int × Int)) (a : Option Addr) (cap : Nat) (yl yh t0 t1 t2 X0 XN lo hi p vl vh d u E : Int) (w : World) (hl : ks.length ≤ 60) (l0 : 2 ≤ ks.length) (RL : R.length ≤ 60) (bx : -1000000000000 ≤ X0 ∧ X0 ≤ XN ∧ XN ≤ 1000000000000)
    (F : Hid (WiFacts ks lo hi p vl vh d u)) (ht : Hid (tabOk ks = true)) (hX0 : Hid (kX ks 0 = X0)) (hXN : Hid (kX ks (ks.length - 1) = XN)) (ha : Hid (a = none → cap = 0 ∧ ks = [])) (h : Hid (IsPairs w a ks))
    (CT : Hid (ChC ks 0)) (PC : Hid (∀ W, Calls Try.prog 62 #[.agg #[.int .i64 X0, .int .i64 XN], .agg #[.int .u16 t0, .int .u16 t1]] W fun e w' => e = .returned (.agg #[.int .i64 lo, .int .i64 hi]) ∧ Below W.heap.size W w'))
    (LC : Hid (∀ W, Calls Try.prog 64 #[.agg #[.int .i64 lo, .int .i64 hi], .int .u16 t2] W fun e w' => e = .returned (.int .i64 p) ∧ Below W.heap.size W w'))
    (V1 : Hid (VaC ks lo hi vl vh 0)) (V2 : Hid (VaC ks p p d u 0)) (V3 : Hid (VaC (turn ks) lo hi (-vh) (-vl) 0)) (C : Hid (WheC 53 ks yl yh R E)) (hE : Hid (E = 2 ∧ R = [] ∨ E = 0 ∧ RunFacts ks yl yh R)) :
    Calls Try.prog 19 #[.slice a ks.length cap, .agg #[.int .i64 yl, .int .i64 yh], .agg #[.int .u16 t0, .int .u16 t1, .int .u16 t2]] w fun e w' => e = .returned (.bool true) ∧ Below w.heap.size w w' := by
  have d1 : decide (60 < (ks.length : Int)) = false := decide_eq_false (by omega)
  have d2 : decide ((ks.length : Int) < 2) = false := decide_eq_false (by omega)
  obtain ⟨b, off, rfl, hc⟩ : ∃ b off, a = some ⟨b, off, none⟩ ∧ ∀ W, Below w.heap.size w W → ∀ i, i < ks.length → W.cell? ⟨b, off + i * 2, none⟩ = some (.int .i64 (kX ks i)) ∧ W.cell? ⟨b, off + i * 2 + 1, none⟩ = some (.int .i64 (kY ks i)) := by
    rcases h.out with h | ⟨b, off, e, h⟩
    · subst h; simp at l0
    · exact ⟨b, off, e, fun W hW i hi => ⟨later hW (h i hi).1, later hW (h i hi).2⟩⟩
  have HC := hide hc
  clear hc
  have OK := hide (fun (W : World) (hb : Below w.heap.size w W) => ownKnots_any (some ⟨b, off, none⟩) cap ks W (by omega) ha.out (pairs_later h.out hb))
  have OW := hide (fun (W : World) (hb : Below w.heap.size w W) => ownKnots_owns (some ⟨b, off, none⟩) cap ks W (by omega) ha.out (pairs_later h.out hb))
  go_enter Try.func19, Try.ntmps19
  go_wp2_with fail
  refine (OK.out _ (by exact (by repeat (first | exact Below.refl _ _ | assumption | apply balloc | apply bdrew | (refine bset ?_ (by first | (simp; done) | omega | (simp; omega)) _) | (refine bnext ?_ (by assumption)))))).mono ?_
  rintro e w1 ⟨b1, c1, rfl, _, hi1, hb1⟩
  have HY := hide (show Two w1 w.heap.size yl yh from ⟨later hb1 (a := ⟨w.heap.size, 0, none⟩) (v := .int .i64 yl) (by simp [go_sem, World.cell?_alloc_past]), later hb1 (a := ⟨w.heap.size, 1, none⟩) (v := .int .i64 yh) (by simp [go_sem, World.cell?_alloc_past])⟩)
  have HT := hide (show w1.cell? ⟨w.heap.size + 1, 0, none⟩ = some (.int .u16 t0) ∧ w1.cell? ⟨w.heap.size + 1, 1, none⟩ = some (.int .u16 t1) ∧ w1.cell? ⟨w.heap.size + 1, 2, none⟩ = some (.int .u16 t2) from ⟨later hb1 (a := ⟨w.heap.size + 1, 0, none⟩) (v := .int .u16 t0) (by simp [go_sem, World.cell?_alloc_past]), later hb1 (a := ⟨w.heap.size + 1, 1, none⟩) (v := .int .u16 t1) (by simp [go_sem, World.cell?_alloc_past]), later hb1 (a := ⟨w.heap.size + 1, 2, none⟩) (v := .int .u16 t2) (by simp [go_sem, World.cell?_alloc_past])⟩)
  have B1 := hide (show Below w.heap.size w w1 from (by repeat (first | exact Below.refl _ _ | assumption | apply balloc | apply bdrew | (refine bset ?_ (by first | (simp; done) | omega | (simp; omega)) _) | (refine bnext ?_ (by assumption)))))
  have I1 := hide hi1
  clear hi1 hb1
  go_wp2_with fail
  refine (CT.out _ _ _ I1.out).mono ?_
  rintro e w2 ⟨rfl, hb2⟩
  have HY2 := hide (two_later HY.out hb2)
  have HT2 := hide (show w2.cell? ⟨w.heap.size + 1, 0, none⟩ = some (.int .u16 t0) ∧ w2.cell? ⟨w.heap.size + 1, 1, none⟩ = some (.int .u16 t1) ∧ w2.cell? ⟨w.heap.size + 1, 2, none⟩ = some (.int .u16 t2) from ⟨later hb2 HT.out.1, later hb2 HT.out.2.1, later hb2 HT.out.2.2⟩)
  have B2 := hide (bnext B1.out hb2)
  clear hb2 HY HT B1 I1
  go_upto_region 3 with fail
  go_cut [7] from 39 to 50 (fun s7 wx => ∃ q, s7 = .pointer (some ⟨q, 0, none⟩) ∧ Two wx q X0 XN ∧ Below w2.heap.size w2 wx)
  case first => as_aux_lemma =>
    have x0 := (HC.out w2 B2.out 0 (by omega)).1
    have x1 := (HC.out w2 B2.out (ks.length - 1) (by omega)).1
    rw [hX0.out, Nat.zero_mul, Nat.add_zero] at x0
    rw [hXN.out] at x1
    have n0 : 0 ≤ (ks.length : Int) - 1 := by omega
    have n1 : (ks.length : Int) - 1 < ks.length := by omega
    have n2 : ((ks.length : Int) - 1).toNat = ks.length - 1 := by omega
    have n3 : (0 : Int) < ks.length := by omega
    have n4 : IntKind.wrap .i64 ((ks.length : Int) - 1) = (ks.length : Int) - 1 := IntWalk.i64_in _ (by omega)
    have n5 : 0 < ks.length := by omega
    have x0' := fun o => later (balloc (o := o) (Below.refl _ _)) x0
    have x1' := fun o => later (balloc (o := o) (Below.refl _ _)) x1
    go_region
    all_goals
      go_wp2_with fail
      go_meet
      exact ⟨_, rfl, ⟨by simp [go_sem], by simp [go_sem]⟩, (by repeat (first | exact Below.refl _ _ | assumption | apply balloc | apply bdrew | (refine bset ?_ (by first | (simp; done) | omega | (simp; omega)) _) | (refine bnext ?_ (by assumption))))⟩
  case rest =>
    obtain ⟨q7, rfl, hq7, hb3⟩ := hcut
    obtain ⟨w3, rfl⟩ : ∃ x : World, x = wc := ⟨_, rfl⟩
    have H7 := hide hq7
    have HY3 := hide (two_later HY2.out hb3)
    obtain ⟨u0, u1, u2⟩ : w3.cell? ⟨w.heap.size + 1, 0, none⟩ = some (.int .u16 t0) ∧ w3.cell? ⟨w.heap.size + 1, 1, none⟩ = some (.int .u16 t1) ∧ w3.cell? ⟨w.heap.size + 1, 2, none⟩ = some (.int .u16 t2) := ⟨later hb3 HT2.out.1, later hb3 HT2.out.2.1, later hb3 HT2.out.2.2⟩
    have B3 := hide (bnext B2.out hb3)
    obtain ⟨z0, z1⟩ := hq7
    clear hb3 HY2 HT2 B2
    go_wp2_with fail
    refine (PC.out _).mono ?_
    rintro e w4 ⟨rfl, hb4⟩
    have u2' := fun o => later (balloc (o := o) (Below.refl _ _)) (later hb4 u2)
    have B34 := hide (fun o => balloc (o := o) hb4)
    clear u0 u1 u2 z0 z1 hb4
    go_wp2_with fail
    refine (LC.out _).mono ?_
    rintro e w5 ⟨rfl, hb5⟩
    have HX := hide (show Two w5 w4.heap.size lo hi from ⟨later hb5 (a := ⟨w4.heap.size, 0, none⟩) (v := .int .i64 lo) (by simp [go_sem, World.cell?_alloc_past]), later hb5 (a := ⟨w4.heap.size, 1, none⟩) (v := .int .i64 hi) (by simp [go_sem, World.cell?_alloc_past])⟩)
    have B35 := hide (bnext (B34.out _) hb5)
    have H75 := hide (two_later H7.out B35.out)
    have HY5 := hide (two_later HY3.out B35.out)
    have B5 := hide (bnext B3.out B35.out)
    obtain ⟨q8, hq8⟩ : ∃ q, w4.heap.size = q := ⟨_, rfl⟩
    rw [hq8] at HX ⊢
    clear u2' hb5 B34 B35 H7 HY3 B3 hq8
    have KP := hide (fun (W : World) (hb : Below w5.heap.size w5 W) => (show (W.cell? ⟨q8, 0, none⟩ = some (.int .i64 lo) ∧ W.cell? ⟨q8, 1, none⟩ = some (.int .i64 hi)) ∧ Below w5.heap.size w5 W from ⟨⟨later hb HX.out.1, later hb HX.out.2⟩, hb⟩))
    go_upto_region 6 with fail
    go_cut [10, 11] from 62 to 68 (fun s10 s11 wx => s11 = .int .i64 0 ∧ ∃ q, s10 = .pointer (some ⟨q, 0, none⟩) ∧ Two wx q vl vh ∧ Below w5.heap.size w5 wx)
    case first => as_aux_lemma =>
      have K0 := (KP.out w5 (Below.refl _ _)).1
      go_region_held3 (fun w' => (w'.cell? ⟨q8, 0, none⟩ = some (.int .i64 lo) ∧ w'.cell? ⟨q8, 1, none⟩ = some (.int .i64 hi)) ∧ Below w5.heap.size w5 w')
        ((go_split_ands; refine KP.out _ ?_; (try (have hsA := hbA.size; (try simp at hsA))); exact (by repeat (first | exact Below.refl _ _ | assumption | apply balloc | apply bdrew | (refine bset ?_ (by first | (simp; done) | omega | (simp; omega)) _) | (refine bnext ?_ (by assumption))))))
        (first | (go_at_call 48; refine (OK.out _ (bnext B5.out (by exact (by repeat (first | exact Below.refl _ _ | assumption | apply balloc | apply bdrew | (refine bset ?_ (by first | (simp; done) | omega | (simp; omega)) _) | (refine bnext ?_ (by assumption))))))).mono ?_; rintro e wA ⟨b1, c1, rfl, _, hi1, hbA⟩; skip) | (go_at_call 50; refine (V1.out _ _ _ (pairs_later hi1 (by exact (by repeat (first | exact Below.refl _ _ | assumption | apply balloc | apply bdrew | (refine bset ?_ (by first | (simp; done) | omega | (simp; omega)) _) | (refine bnext ?_ (by assumption))))))).mono ?_; rintro e wB ⟨rfl, hbB⟩; obtain ⟨⟨hcB, hfB⟩, hsB⟩ := bcell1 hbB; obtain ⟨⟨hcC, hfC⟩, hsC⟩ := bcellw2 hbA (by exact (by repeat (first | exact Below.refl _ _ | assumption | apply balloc | apply bdrew | (refine bset ?_ (by first | (simp; done) | omega | (simp; omega)) _) | (refine bnext ?_ (by assumption))))) hbB; (try simp at hsB hsC)))
      all_goals
        go_wp2_with fail
        go_meet
        have hsA := hbA.size
        (try simp at hsA)
        refine ⟨rfl, _, rfl, ⟨?_, ?_⟩, ?_⟩
        · first | (simp [go_sem]; done) | (simp (maxDischargeDepth := 8) [go_sem, hcB, hfB]; done) | (simp (maxDischargeDepth := 8) [go_sem, hcC, hfC]; done)
        · first | (simp [go_sem]; done) | (simp (maxDischargeDepth := 8) [go_sem, hcB, hfB]; done) | (simp (maxDischargeDepth := 8) [go_sem, hcC, hfC]; done)
        · exact (by repeat (first | exact Below.refl _ _ | assumption | apply balloc | apply bdrew | (refine bset ?_ (by first | (simp; done) | omega | (simp; omega)) _) | (refine bnext ?_ (by assumption))))
    case rest =>
      obtain ⟨rfl, q10, rfl, hq10, hb6⟩ := hcut
      obtain ⟨w6, rfl⟩ : ∃ x : World, x = wc := ⟨_, rfl⟩
      have H10 := hide hq10
      have H7b := hide (two_later H75.out hb6)
      have HY6 := hide (two_later HY5.out hb6)
      have HX6 := hide (two_later HX.out hb6)
      have B6 := hide (bnext B5.out hb6)
      clear hb6 hq10 H75 HY5 HX B5 KP
      go_wp2_with fail
      refine (OK.out _ B6.out).mono ?_
      rintro e w7 ⟨b2, c2, rfl, _, hi2, hb7⟩
      have I7 := hide hi2
      have HB7 := hide hb7
      clear hi2 hb7
      go_wp2_with fail
      refine (point_any p _).mono ?_
      rintro e w8 ⟨rfl, hb8⟩
      have HB8 := hide hb8
      clear hb8
      go_wp2_with fail
      refine (V2.out _ _ _ (pairs_later I7.out HB8.out)).mono ?_
      rintro e w9 ⟨rfl, hb9⟩
      have B69 := hide (bnext (bnext HB7.out HB8.out) hb9)
      have D69 := hide (fun o => balloc (o := o) B69.out)
      have x0 := fun o => (two_later H10.out (D69.out o)).1
      have x1 := fun o => (two_later H10.out (D69.out o)).2
      have N := F.out.n
      have FF := F.out.f
      have ws : IntKind.wrap .i64 (u - d) = u - d := IntWalk.i64_in _ (by omega)
      have dd : decide (1 < u - d) = false := decide_eq_false (by omega)
      have IN := hide (fun (W : World) => (show Calls Try.prog 63 #[.agg #[.int .i64 d, .int .i64 u], .agg #[.int .i64 vl, .int .i64 vh]] W fun e w' => e = .returned (.bool true) ∧ Below W.heap.size W w' by
        have hI := inside_any d u vl vh W
        rwa [show insQ d u vl vh = true by simp [insQ]; omega] at hI))
      clear hb9 N FF
      go_wp2_with fail
      refine (IN.out _).mono ?_
      rintro e w10 ⟨rfl, hb10⟩
      obtain ⟨q12, hq12⟩ : ∃ q, w9.heap.size = q := ⟨_, rfl⟩
      have H12 := hide (show Two w10 w9.heap.size d u from ⟨later hb10 (a := ⟨w9.heap.size, 0, none⟩) (v := .int .i64 d) (by simp [go_sem, World.cell?_alloc_past]), later hb10 (a := ⟨w9.heap.size, 1, none⟩) (v := .int .i64 u) (by simp [go_sem, World.cell?_alloc_past])⟩)
      have D610 := hide (bnext (D69.out _) hb10)
      rw [hq12] at H12 ⊢
      clear x0 x1 hq12 hb10 D69 B69 IN HB7 HB8 I7
      obtain ⟨z0, z1⟩ := H12.out
      go_wp2_with fail
      refine (OW.out _ (bnext B6.out D610.out)).mono ?_
      rintro e w11 ⟨cv, rfl, hown, hb11⟩
      obtain ⟨g, cg, rfl⟩ : ∃ g cg, cv = .slice (some ⟨g, 0, none⟩) ks.length cg := by
        rcases hown.2 with ⟨_, e⟩ | ⟨g, cap', cur, e, _⟩
        · omega
        · exact ⟨g, _, e⟩
      have GB := hide ((hown.lt) g rfl).1
      have HO := hide hown
      have HB11 := hide hb11
      have H10b := hide (two_later H10.out D610.out)
      have H7c := hide (two_later H7b.out D610.out)
      have HY10 := hide (two_later HY6.out D610.out)
      have HX10 := hide (two_later HX6.out D610.out)
      have B10 := hide (bnext B6.out D610.out)
      clear hown hb11 z0 z1 H10 H7b HY6 HX6 B6 D610
      go_wp2_with fail
      go_loopw [15] (fun i wr => ∃ k : Nat, k ≤ ks.length ∧ i = .int .i64 (k : Int) ∧ wr.ownsRow w10.heap.size 64 2 (.slice (some ⟨g, 0, none⟩) ks.length cg) ks.length (rowOf (turnK ks k)) ∧ Below w10.heap.size w10 wr) (fun i _ => ks.length - (intOf i).toNat)
      case atStart => exact ⟨0, by omega, rfl, by rw [turnK_zero]; exact HO.out, HB11.out⟩
      case round =>
        obtain ⟨k, hk, rfl, hown, hb⟩ := hrel
        have HK := hide hown
        have HB := hide hb
        clear hown hb HO HB11
        by_cases hlt : k < ks.length
        · as_aux_lemma =>
          have c2 := HK.out.cellAt (k * 2 + 1) (by omega)
          rw [turnK_get ks k hlt] at c2
          have f2 := HK.out.frozenAt (k * 2 + 1)
          have ST := hide (HK.out.stored (k * 2 + 1) (.int .i64 (-kY ks k))).1
          rw [turnK_set ks k hlt] at ST
          have kb := (knot_bounds ht.out hlt).2
          have wn : IntKind.wrap .i64 (-kY ks k) = -kY ks k := IntWalk.i64_in _ (by omega)
          have k0 : 0 ≤ (k : Int) := by omega
          have k1 : (k : Int) < ks.length := by omega
          generalize kY ks k = Y at *
          clear kb
          go_wp2_with fail
          go_roundw
          case rel => exact ⟨k + 1, by omega, by go_num, ST.out, HB.out.setCell (p := ⟨g, k * 2 + 1, none⟩) GB.out _⟩
          case measure => simp [intOf]; omega
        · obtain rfl : k = ks.length := by omega
          rw [turnK_all] at HK
          obtain ⟨b3, c3, e3, hp3⟩ := pairs_of_owned HK.out (turn_length ks).symm
          cases e3
          have P3 := hide hp3
          have V3' := hide (fun (a : Option Addr) (cap : Nat) (W : World) (hp : IsPairs W a (turn ks)) => (show Calls Try.prog 50 #[.slice a ks.length cap, .agg #[.int .i64 lo, .int .i64 hi]] W fun e w' => TbP (-vh) (-vl) 0 W e w' by have hv := V3.out a cap W hp; rwa [turn_length] at hv))
          obtain ⟨z0, z1⟩ := two_later HX10.out HB.out
          clear hp3 HK
          go_wp2_with fail
          refine (V3'.out _ _ _ P3.out).mono ?_
          rintro e w12 ⟨rfl, hb12⟩
          have D12 := hide (fun o => balloc (o := o) (bnext HB.out hb12))
          have x0 := fun o => (two_later H10b.out (D12.out o)).1
          have x1 := fun o => (two_later H10b.out (D12.out o)).2
          have FF := F.out.f
          have wn0 : IntKind.wrap .i64 (-vl) = -vl := IntWalk.i64_in _ (by omega)
          have wn1 : IntKind.wrap .i64 (-vh) = -vh := IntWalk.i64_in _ (by omega)
          clear z0 z1 hb12 FF
          go_upto_region 18 with fail
          obtain ⟨w13, hw13⟩ : ∃ x, x = w12.alloc (.cells #[.int .i64 (-vh), .int .i64 (-vl)] 46) := ⟨_, rfl⟩
          rw [← hw13]
          have D13 := hide (show Below w10.heap.size w10 w13 by rw [hw13]; exact D12.out _)
          have H7d := hide (two_later H7c.out D13.out)
          have HYd := hide (two_later HY10.out D13.out)
          have H12d := hide (two_later H12.out D13.out)
          have B13 := hide (bnext B10.out D13.out)
          have OK13 := hide (fun (W : World) (hb : Below w13.heap.size w13 W) => OK.out W (bnext B13.out hb))
          have KP := hide (fun (W : World) (hb : Below w13.heap.size w13 W) => (show (W.cell? ⟨w.heap.size, 0, none⟩ = some (.int .i64 yl) ∧ W.cell? ⟨w.heap.size, 1, none⟩ = some (.int .i64 yh)) ∧ Below w13.heap.size w13 W from ⟨two_later HYd.out hb, hb⟩))
          clear hw13 x0 x1 wn0 wn1 D12 H7c HY10 H12 B10 D13 HX10 H10b P3 V3' V3 V2 V1 OW GB HB PC LC CT
          go_cut [11, 18] from 134 to 140 (fun s11 s18 wx => s11 = .int .i64 E ∧ ∃ b c, s18 = .slice b R.length c ∧ IsPairs wx b R ∧ Below w13.heap.size w13 wx)
          case first => as_aux_lemma =>
            have K0 := (KP.out w13 (Below.refl _ _)).1
            go_region_held3 (fun w' => (w'.cell? ⟨w.heap.size, 0, none⟩ = some (.int .i64 yl) ∧ w'.cell? ⟨w.heap.size, 1, none⟩ = some (.int .i64 yh)) ∧ Below w13.heap.size w13 w')
              ((go_split_ands; refine KP.out _ ?_; exact (by repeat (first | exact Below.refl _ _ | assumption | apply balloc | apply bdrew | (refine bset ?_ (by first | (simp; done) | omega | (simp; omega)) _) | (refine bnext ?_ (by assumption))))))
              (first | (go_at_call 48; refine (OK13.out _ (by exact (by repeat (first | exact Below.refl _ _ | assumption | apply balloc | apply bdrew | (refine bset ?_ (by first | (simp; done) | omega | (simp; omega)) _) | (refine bnext ?_ (by assumption)))))).mono ?_; rintro e wA ⟨b1, c1, rfl, _, hi1, hbA⟩; skip) | (go_at_call 53; refine (C.out _ _ _ (pairs_later hi1 (by exact (by repeat (first | exact Below.refl _ _ | assumption | apply balloc | apply bdrew | (refine bset ?_ (by first | (simp; done) | omega | (simp; omega)) _) | (refine bnext ?_ (by assumption))))))).mono ?_; rintro e wB ⟨b2, c2, rfl, hi2, hbB⟩; skip))
            all_goals
              go_wp2_with fail
              go_meet
              exact ⟨rfl, _, _, rfl, pairs_later hi2 (by exact (by repeat (first | exact Below.refl _ _ | assumption | apply balloc | apply bdrew | (refine bset ?_ (by first | (simp; done) | omega | (simp; omega)) _) | (refine bnext ?_ (by assumption))))), (by repeat (first | exact Below.refl _ _ | assumption | apply balloc | apply bdrew | (refine bset ?_ (by first | (simp; done) | omega | (simp; omega)) _) | (refine bnext ?_ (by assumption))))⟩
          case rest =>
            obtain ⟨rfl, br, cr, rfl, hpr, hb14⟩ := hcut
            obtain ⟨w14, rfl⟩ : ∃ x : World, x = wc := ⟨_, rfl⟩
            have PR := hide hpr
            have H7e := hide (two_later H7d.out hb14)
            have HYe := hide (two_later HYd.out hb14)
            have H12e := hide (two_later H12d.out hb14)
            have B14 := hide (bnext B13.out hb14)
            clear hb14 hpr KP H7d HYd H12d B13 OK13 C
            rcases hE.out with ⟨rfl, rfl⟩ | ⟨rfl, rf⟩
            · as_aux_lemma =>
              go_wp2_with fail
              refine (known_any _).mono ?_
              rintro e w15 ⟨rfl, hb15⟩
              go_wp2_with fail
              go_ret
              exact ⟨rfl, bnext B14.out hb15⟩
            · have RF := hide rf
              clear rf hE
              go_wp2_with fail
              obtain ⟨v1, rfl⟩ : ∃ v1 : World, v1 = wr := ⟨_, rfl⟩
              go_loopw [19, 20] (fun s i wx => ∃ k : Nat, k ≤ R.length ∧ i = .int .i64 (k : Int) ∧ s = .bool (hasQ R p k) ∧ Below w14.heap.size w14 wx) (fun _ i _ => R.length - (intOf i).toNat)
              case atStart => exact ⟨0, by omega, rfl, rfl, Below.refl _ _⟩
              case round =>
                obtain ⟨k, hk, rfl, rfl, hb⟩ := hrel
                have HB := hide hb
                clear hb
                have HYk := hide (two_later HYe.out HB.out)
                have H7k := hide (two_later H7e.out HB.out)
                by_cases hlt : k < R.length
                · as_aux_lemma =>
                  obtain ⟨b5, off5, rfl, hc5⟩ : ∃ b off, br = some ⟨b, off, none⟩ ∧ ∀ W, Below w14.heap.size w14 W → ∀ i, i < R.length → W.cell? ⟨b, off + i * 2, none⟩ = some (.int .i64 (aR R i)) ∧ W.cell? ⟨b, off + i * 2 + 1, none⟩ = some (.int .i64 (bR R i)) := by
                    rcases PR.out with h | ⟨b, off, e, h⟩
                    · subst h; simp at hlt
                    · exact ⟨b, off, e, fun W hW i hi => ⟨later hW (h i hi).1, later hW (h i hi).2⟩⟩
                  have HC5 := hide hc5
                  obtain ⟨c1, c2⟩ := hc5 wr HB.out k hlt
                  clear hc5
                  have RE := RF.out.ends k hlt
                  rw [hX0.out, hXN.out] at RE
                  have RV := hide (RF.out.vals k hlt)
                  have RB := hide (fun hh => RF.out.before k hlt hh)
                  have RH := hide (fun hh => RF.out.behind k hlt hh)
                  rw [hX0.out] at RB
                  rw [hXN.out] at RH
                  have HS := hide (show hasQ R p (k + 1) = (hasQ R p k || (decide (aR R k ≤ p) && decide (p ≤ bR R k))) from rfl)
                  have RG := hide (fun (j : Nat) (hj : j + 1 = k) => by have := RF.out.gaps j (by omega); rw [hj] at this; exact this)
                  generalize aR R k = ra at *
                  generalize bR R k = rb at *
                  have k0 : 0 ≤ (k : Int) := by omega
                  have k1 : (k : Int) < R.length := by omega
                  go_upto_region 26 with fail
                  obtain ⟨w15, hw15⟩ : ∃ x, x = wr.alloc (.cells #[.int .i64 ra, .int .i64 rb] 46) := ⟨_, rfl⟩
                  rw [← hw15]
                  obtain ⟨q21, hq21⟩ : ∃ q, wr.heap.size = q := ⟨_, rfl⟩
                  have BB := hide (show Below wr.heap.size wr w15 by rw [hw15]; exact (by repeat (first | exact Below.refl _ _ | assumption | apply balloc | apply bdrew | (refine bset ?_ (by first | (simp; done) | omega | (simp; omega)) _) | (refine bnext ?_ (by assumption)))))
                  have HR := hide (show Two w15 wr.heap.size ra rb from ⟨by rw [hw15]; simp [go_sem, World.cell?_alloc_past], by rw [hw15]; simp [go_sem, World.cell?_alloc_past]⟩)
                  have H7l := hide (two_later H7k.out BB.out)
                  have HYl := hide (two_later HYk.out BB.out)
                  have B15 := hide (HB.out.trans (BB.out.mono HB.out.size))
                  rw [hq21] at HR ⊢
                  clear hw15 hq21 BB H7k HYk c1 c2
                  have IN := hide (fun (W : World) => (show Calls Try.prog 63 #[.agg #[.int .i64 ra, .int .i64 rb], .agg #[.int .i64 X0, .int .i64 XN]] W fun e w' => e = .returned (.bool true) ∧ Below W.heap.size W w' by
                    have hI := inside_any ra rb X0 XN W
                    rwa [show insQ ra rb X0 XN = true by simp [insQ]; omega] at hI))
                  go_cut [182] from 163 to 181 (fun s182 wx => s182 = .bool false ∧ Below w15.heap.size w15 wx)
                  case first => as_aux_lemma =>
                    by_cases hk0 : k = 0
                    · as_aux_lemma =>
                      subst hk0
                      have KZ := hide (fun (W : World) (hb : Below w15.heap.size w15 W) => (show ((W.cell? ⟨q21, 0, none⟩ = some (.int .i64 ra) ∧ W.cell? ⟨q21, 1, none⟩ = some (.int .i64 rb)) ∧ (W.cell? ⟨q7, 0, none⟩ = some (.int .i64 X0) ∧ W.cell? ⟨q7, 1, none⟩ = some (.int .i64 XN))) ∧ Below w15.heap.size w15 W from ⟨⟨two_later HR.out hb, two_later H7l.out hb⟩, hb⟩))
                      refine wp_region_held_drew (S := (fun W => ((W.cell? ⟨q21, 0, none⟩ = some (.int .i64 ra) ∧ W.cell? ⟨q21, 1, none⟩ = some (.int .i64 rb)) ∧ (W.cell? ⟨q7, 0, none⟩ = some (.int .i64 X0) ∧ W.cell? ⟨q7, 1, none⟩ = some (.int .i64 XN))) ∧ Below w15.heap.size w15 W)) (by kernel_rfl) (KZ.out _ (by exact (by repeat (first | exact Below.refl _ _ | assumption | apply balloc | apply bdrew | (refine bset ?_ (by first | (simp; done) | omega | (simp; omega)) _) | (refine bnext ?_ (by assumption)))))) (fun hHeld => ?_)
                      (refine wpAnyH_take (i := 0) (v := ?_) rfl (by kernel_rfl) (by kernel_rfl) (by kernel_rfl) (fun _ _ _ h => h) (Or.inl ⟨by kernel_rfl, ?_⟩) (by assumption) ?_; rotate_left; focus (intro w hSw; (try dsimp only at hSw); go_simp; try with_reducible rfl))
                      (simp only [Act.put, List.getElem_toArray, List.getElem_cons_zero, List.getElem_cons_succ, List.setIfInBounds_toArray, List.set_cons_zero, List.set_cons_succ])
                      (refine wpAnyH_take (i := 1) (v := ?_) rfl (by kernel_rfl) (by kernel_rfl) (by kernel_rfl) (fun _ _ _ h => h) (Or.inl ⟨by kernel_rfl, ?_⟩) (by assumption) ?_; rotate_left; focus (intro w hSw; (try dsimp only at hSw); go_simp; try with_reducible rfl))
                      (simp only [Act.put, List.getElem_toArray, List.getElem_cons_zero, List.getElem_cons_succ, List.setIfInBounds_toArray, List.set_cons_zero, List.set_cons_succ])
                      refine wpAnyH_ready (rs := [2]) (by kernel_rfl) (by simp) ?_
                      refine AllReadyH.cons rfl (fun K hK => ?_) AllReadyH.nil
                      go_simp
                      go_at_call 63; refine (IN.out _).mono ?_; rintro e wA ⟨rfl, hbA⟩
                      have hb0 := hHeld.2
                      refine hK.out _ _ (KZ.out _ (by exact (by repeat (first | exact Below.refl _ _ | assumption | apply balloc | apply bdrew | (refine bset ?_ (by first | (simp; done) | omega | (simp; omega)) _) | (refine bnext ?_ (by assumption)))))) (fun hHeld2 => ?_)
                      clear hK K
                      (try (simp only [Act.put, List.getElem_toArray, List.getElem_cons_zero, List.getElem_cons_succ, List.setIfInBounds_toArray, List.set_cons_zero, List.set_cons_succ]))
                      (refine wpAnyH_take (i := 3) (v := ?_) rfl (by kernel_rfl) (by kernel_rfl) (by kernel_rfl) (fun _ _ _ h => h) (Or.inl ⟨by kernel_rfl, ?_⟩) (by assumption) ?_; rotate_left; focus (intro w hSw; (try dsimp only at hSw); go_simp; try with_reducible rfl))
                      (simp only [Act.put, List.getElem_toArray, List.getElem_cons_zero, List.getElem_cons_succ, List.setIfInBounds_toArray, List.set_cons_zero, List.set_cons_succ])
                      (refine wpAnyH_take (i := 4) (v := ?_) rfl (by kernel_rfl) (by kernel_rfl) (by kernel_rfl) (fun _ _ _ h => h) (Or.inl ⟨by kernel_rfl, ?_⟩) (by assumption) ?_; rotate_left; focus (intro w hSw; (try dsimp only at hSw); go_simp; try with_reducible rfl))
                      (simp only [Act.put, List.getElem_toArray, List.getElem_cons_zero, List.getElem_cons_succ, List.setIfInBounds_toArray, List.set_cons_zero, List.set_cons_succ])
                      (refine wpAnyH_take (i := 5) (v := ?_) rfl (by kernel_rfl) (by kernel_rfl) (by kernel_rfl) (fun _ _ _ h => h) (Or.inl ⟨by kernel_rfl, ?_⟩) (by assumption) ?_; rotate_left; focus (intro w hSw; (try dsimp only at hSw); go_simp; try with_reducible rfl))
                      (simp only [Act.put, List.getElem_toArray, List.getElem_cons_zero, List.getElem_cons_succ, List.setIfInBounds_toArray, List.set_cons_zero, List.set_cons_succ])
                      (refine wpAnyH_take (i := 6) (v := ?_) rfl (by kernel_rfl) (by kernel_rfl) (by kernel_rfl) (fun _ _ _ h => h) (Or.inl ⟨by kernel_rfl, ?_⟩) (by assumption) ?_; rotate_left; focus (intro w hSw; (try dsimp only at hSw); go_simp; try with_reducible rfl))
                      (simp only [Act.put, List.getElem_toArray, List.getElem_cons_zero, List.getElem_cons_succ, List.setIfInBounds_toArray, List.set_cons_zero, List.set_cons_succ])
                      (refine wpAnyH_take (i := 7) (v := ?_) rfl (by kernel_rfl) (by kernel_rfl) (by kernel_rfl) (fun _ _ _ h => h) (Or.inl ⟨by kernel_rfl, ?_⟩) (by assumption) ?_; rotate_left; focus (intro w hSw; (try dsimp only at hSw); go_simp; try with_reducible rfl))
                      (simp only [Act.put, List.getElem_toArray, List.getElem_cons_zero, List.getElem_cons_succ, List.setIfInBounds_toArray, List.set_cons_zero, List.set_cons_succ])
                      (refine wpAnyH_take (i := 8) (v := undef) rfl (by kernel_rfl) (by kernel_rfl) (by kernel_rfl) (fun _ _ _ h => h) (Or.inr ⟨by kernel_rfl, rfl⟩) (by assumption) ?_)
                      (simp only [Act.put, List.getElem_toArray, List.getElem_cons_zero, List.getElem_cons_succ, List.setIfInBounds_toArray, List.set_cons_zero, List.set_cons_succ])
                      (refine wpAnyH_take (i := 9) (v := undef) rfl (by kernel_rfl) (by kernel_rfl) (by kernel_rfl) (fun _ _ _ h => h) (Or.inr ⟨by kernel_rfl, rfl⟩) (by assumption) ?_)
                      (simp only [Act.put, List.getElem_toArray, List.getElem_cons_zero, List.getElem_cons_succ, List.setIfInBounds_toArray, List.set_cons_zero, List.set_cons_succ])
                      (refine wpAnyH_take (i := 10) (v := undef) rfl (by kernel_rfl) (by kernel_rfl) (by kernel_rfl) (fun _ _ _ h => h) (Or.inr ⟨by kernel_rfl, rfl⟩) (by assumption) ?_)
                      (simp only [Act.put, List.getElem_toArray, List.getElem_cons_zero, List.getElem_cons_succ, List.setIfInBounds_toArray, List.set_cons_zero, List.set_cons_succ])
                      (refine wpAnyH_take (i := 11) (v := undef) rfl (by kernel_rfl) (by kernel_rfl) (by kernel_rfl) (fun _ _ _ h => h) (Or.inr ⟨by kernel_rfl, rfl⟩) (by assumption) ?_)
                      (simp only [Act.put, List.getElem_toArray, List.getElem_cons_zero, List.getElem_cons_succ, List.setIfInBounds_toArray, List.set_cons_zero, List.set_cons_succ])
                      (refine wpAnyH_take (i := 12) (v := undef) rfl (by kernel_rfl) (by kernel_rfl) (by kernel_rfl) (fun _ _ _ h => h) (Or.inr ⟨by kernel_rfl, rfl⟩) (by assumption) ?_)
                      (simp only [Act.put, List.getElem_toArray, List.getElem_cons_zero, List.getElem_cons_succ, List.setIfInBounds_toArray, List.set_cons_zero, List.set_cons_succ])
                      (refine wpAnyH_take (i := 13) (v := undef) rfl (by kernel_rfl) (by kernel_rfl) (by kernel_rfl) (fun _ _ _ h => h) (Or.inr ⟨by kernel_rfl, rfl⟩) (by assumption) ?_)
                      (simp only [Act.put, List.getElem_toArray, List.getElem_cons_zero, List.getElem_cons_succ, List.setIfInBounds_toArray, List.set_cons_zero, List.set_cons_succ])
                      (refine wpAnyH_take (i := 14) (v := undef) rfl (by kernel_rfl) (by kernel_rfl) (by kernel_rfl) (fun _ _ _ h => h) (Or.inr ⟨by kernel_rfl, rfl⟩) (by assumption) ?_)
                      (simp only [Act.put, List.getElem_toArray, List.getElem_cons_zero, List.getElem_cons_succ, List.setIfInBounds_toArray, List.set_cons_zero, List.set_cons_succ])
                      (refine wpAnyH_take (i := 15) (v := undef) rfl (by kernel_rfl) (by kernel_rfl) (by kernel_rfl) (fun _ _ _ h => h) (Or.inr ⟨by kernel_rfl, rfl⟩) (by assumption) ?_)
                      (simp only [Act.put, List.getElem_toArray, List.getElem_cons_zero, List.getElem_cons_succ, List.setIfInBounds_toArray, List.set_cons_zero, List.set_cons_succ])
                      (refine wpAnyH_take (i := 16) (v := undef) rfl (by kernel_rfl) (by kernel_rfl) (by kernel_rfl) (fun _ _ _ h => h) (Or.inr ⟨by kernel_rfl, rfl⟩) (by assumption) ?_)
                      (simp only [Act.put, List.getElem_toArray, List.getElem_cons_zero, List.getElem_cons_succ, List.setIfInBounds_toArray, List.set_cons_zero, List.set_cons_succ])
                      (refine wpAnyH_take (i := 17) (v := undef) rfl (by kernel_rfl) (by kernel_rfl) (by kernel_rfl) (fun _ _ _ h => h) (Or.inr ⟨by kernel_rfl, rfl⟩) (by assumption) ?_)
                      (simp only [Act.put, List.getElem_toArray, List.getElem_cons_zero, List.getElem_cons_succ, List.setIfInBounds_toArray, List.set_cons_zero, List.set_cons_succ])
                      (refine wpAnyH_take (i := 18) (v := ?_) rfl (by kernel_rfl) (by kernel_rfl) (by kernel_rfl) (fun _ _ _ h => h) (Or.inl ⟨by kernel_rfl, ?_⟩) (by assumption) ?_; rotate_left; focus (intro w hSw; (try dsimp only at hSw); go_simp; try with_reducible rfl))
                      (simp only [Act.put, List.getElem_toArray, List.getElem_cons_zero, List.getElem_cons_succ, List.setIfInBounds_toArray, List.set_cons_zero, List.set_cons_succ])
                      (refine wpAnyH_take (i := 19) (v := ?_) rfl (by kernel_rfl) (by kernel_rfl) (by kernel_rfl) (fun _ _ _ h => h) (Or.inl ⟨by kernel_rfl, ?_⟩) (by assumption) ?_; rotate_left; focus (intro w hSw; (try dsimp only at hSw); go_simp; try with_reducible rfl))
                      (simp only [Act.put, List.getElem_toArray, List.getElem_cons_zero, List.getElem_cons_succ, List.setIfInBounds_toArray, List.set_cons_zero, List.set_cons_succ])
                      refine wpAnyH_done (by kernel_rfl) ?_ _
                      go_wp2
                      go_meet
                      exact ⟨rfl, hHeld2.2⟩
                    · as_aux_lemma =>
                      obtain ⟨j, rfl⟩ : ∃ j, k = j + 1 := ⟨k - 1, by omega⟩
                      have gp := RG.out j rfl
                      have KG := hide (fun (W : World) (hb : Below w15.heap.size w15 W) => (show ((W.cell? ⟨q21, 0, none⟩ = some (.int .i64 ra) ∧ W.cell? ⟨q21, 1, none⟩ = some (.int .i64 rb)) ∧ (W.cell? ⟨q7, 0, none⟩ = some (.int .i64 X0) ∧ W.cell? ⟨q7, 1, none⟩ = some (.int .i64 XN)) ∧ W.cell? ⟨b5, off5 + j * 2 + 1, none⟩ = some (.int .i64 (bR R j))) ∧ Below w15.heap.size w15 W from ⟨⟨two_later HR.out hb, two_later H7l.out hb, (HC5.out W (B15.out.trans (hb.mono B15.out.size)) j (by omega)).2⟩, hb⟩))
                      generalize bR R j = rj at *
                      have wm : IntKind.wrap .i64 (ra - 1) = ra - 1 := IntWalk.i64_in _ (by omega)
                      have dg : decide (ra - 1 ≤ rj) = false := decide_eq_false (by omega)
                      have dk : decide ((0 : Int) < ((j + 1 : Nat) : Int)) = true := decide_eq_true (by omega)
                      have dk' : decide ((0 : Int) < (j : Int) + 1) = true := decide_eq_true (by omega)
                      have j0 : (0 : Int) ≤ (j : Int) := by omega
                      have j1 : (j : Int) < (R.length : Int) := by omega
                      have j2 : IntKind.wrap .i64 (j : Int) = (j : Int) := IntWalk.i64_in _ (by omega)
                      have K0 := (KG.out w15 (Below.refl _ _)).1
                      go_region_held3 (fun W => ((W.cell? ⟨q21, 0, none⟩ = some (.int .i64 ra) ∧ W.cell? ⟨q21, 1, none⟩ = some (.int .i64 rb)) ∧ (W.cell? ⟨q7, 0, none⟩ = some (.int .i64 X0) ∧ W.cell? ⟨q7, 1, none⟩ = some (.int .i64 XN)) ∧ W.cell? ⟨b5, off5 + j * 2 + 1, none⟩ = some (.int .i64 rj)) ∧ Below w15.heap.size w15 W)
                        ((go_split_ands; refine KG.out _ ?_; exact (by repeat (first | exact Below.refl _ _ | assumption | apply balloc | apply bdrew | (refine bset ?_ (by first | (simp; done) | omega | (simp; omega)) _) | (refine bnext ?_ (by assumption))))))
                        ((go_at_call 63; refine (IN.out _).mono ?_; rintro e wA ⟨rfl, hbA⟩; skip))
                      all_goals
                        go_wp2_with fail
                        go_meet
                        exact ⟨rfl, (by repeat (first | exact Below.refl _ _ | assumption | apply balloc | apply bdrew | (refine bset ?_ (by first | (simp; done) | omega | (simp; omega)) _) | (refine bnext ?_ (by assumption))))⟩
                  case rest =>
                    obtain ⟨rfl, hb16⟩ := hcut
                    obtain ⟨w16, rfl⟩ : ∃ x : World, x = wc := ⟨_, rfl⟩
                    have HR16 := hide (two_later HR.out hb16)
                    have H716 := hide (two_later H7l.out hb16)
                    have HY16 := hide (two_later HYl.out hb16)
                    have B16 := hide (B15.out.trans (hb16.mono B15.out.size))
                    obtain ⟨z0, z1⟩ := HR16.out
                    obtain ⟨hs, hhs⟩ : ∃ x, hasQ R p k = x := ⟨_, rfl⟩
                    obtain ⟨g1, hg1⟩ : ∃ x, decide (ra ≤ p) = x := ⟨_, rfl⟩
                    obtain ⟨g2, hg2⟩ : ∃ x, decide (p ≤ rb) = x := ⟨_, rfl⟩
                    rw [hhs, hg1, hg2] at HS
                    rw [hhs]
                    clear hb16 HR H7l HYl B15 HB RG IN hhs
                    go_upto_region 28 with fail
                    go_cut [19] from 183 to 195 (fun s19 wx => s19 = .bool (hasQ R p (k + 1)) ∧ wx = w16)
                    case first => as_aux_lemma =>
                      have HS' : hasQ R p (k + 1) = (hs || (g1 && g2)) := HS.out
                      generalize hasQ R p (k + 1) = hn at *
                      subst HS'
                      cases hs with
                      | true =>
                        go_wp2_with fail
                        go_meet
                        exact ⟨rfl, rfl⟩
                      | false =>
                        cases g1 with
                        | false =>
                          go_wp2_with fail
                          go_meet
                          exact ⟨rfl, rfl⟩
                        | true =>
                          cases g2 with
                          | true =>
                            go_wp2_with fail
                            go_meet
                            exact ⟨rfl, rfl⟩
                          | false =>
                            go_wp2_with fail
                            go_meet
                            exact ⟨rfl, rfl⟩
                    case rest =>
                      obtain ⟨rfl, hw⟩ := hcut
                      obtain ⟨w17, rfl⟩ : ∃ x : World, x = wc := ⟨_, rfl⟩
                      have hb17 : Below w16.heap.size w16 w17 := by rw [hw]; exact Below.refl _ _
                      have HR17 := hide (two_later HR16.out hb17)
                      have H717 := hide (two_later H716.out hb17)
                      have HY17 := hide (two_later HY16.out hb17)
                      have B17 := hide (B16.out.trans (hb17.mono B16.out.size))
                      obtain ⟨vl', vh', hv, hin⟩ := RV.out
                      have VR := hide (fun (a : Option Addr) (cap : Nat) (W : World) (hp : IsPairs W a ks) => (show Calls Try.prog 50 #[.slice a ks.length cap, .agg #[.int .i64 ra, .int .i64 rb]] W fun e w' => e = .returned (.tuple #[.agg #[.int .i64 vl', .int .i64 vh'], .int .i64 0]) ∧ Below W.heap.size W w' by have hV := value_any ks a cap ra rb W (by omega) hp; rwa [hv] at hV))
                      have IN2 := hide (fun (W : World) => (show Calls Try.prog 63 #[.agg #[.int .i64 vl', .int .i64 vh'], .agg #[.int .i64 yl, .int .i64 yh]] W fun e w' => e = .returned (.bool true) ∧ Below W.heap.size W w' by
                        have hI := inside_any vl' vh' yl yh W
                        rwa [hin] at hI))
                      have BW := hide (bnext B14.out B17.out)
                      have OK17 := hide (fun (W : World) (hb : Below w17.heap.size w17 W) => OK.out W (bnext BW.out hb))
                      have KP := hide (fun (W : World) (hb : Below w17.heap.size w17 W) => (show (W.cell? ⟨q21, 0, none⟩ = some (.int .i64 ra) ∧ W.cell? ⟨q21, 1, none⟩ = some (.int .i64 rb)) ∧ Below w17.heap.size w17 W from ⟨two_later HR17.out hb, hb⟩))
                      clear hb17 hw HR16 H716 HY16 B16 RV hv hin z0 z1 HS hg1 hg2
                      go_upto_region 29 with fail
                      go_cut [22, 23] from 196 to 202 (fun s22 s23 wx => s23 = .int .i64 0 ∧ ∃ q, s22 = .pointer (some ⟨q, 0, none⟩) ∧ Two wx q vl' vh' ∧ Below w17.heap.size w17 wx)
                      case first => as_aux_lemma =>
                        have K0 := (KP.out w17 (Below.refl _ _)).1
                        go_region_held3 (fun w' => (w'.cell? ⟨q21, 0, none⟩ = some (.int .i64 ra) ∧ w'.cell? ⟨q21, 1, none⟩ = some (.int .i64 rb)) ∧ Below w17.heap.size w17 w')
                          ((go_split_ands; refine KP.out _ ?_; (try (have hsA := hbA.size; (try simp at hsA))); exact (by repeat (first | exact Below.refl _ _ | assumption | apply balloc | apply bdrew | (refine bset ?_ (by first | (simp; done) | omega | (simp; omega)) _) | (refine bnext ?_ (by assumption))))))
                          (first | (go_at_call 48; refine (OK17.out _ (by exact (by repeat (first | exact Below.refl _ _ | assumption | apply balloc | apply bdrew | (refine bset ?_ (by first | (simp; done) | omega | (simp; omega)) _) | (refine bnext ?_ (by assumption)))))).mono ?_; rintro e wA ⟨b1, c1, rfl, _, hi1, hbA⟩; skip) | (go_at_call 50; refine (VR.out _ _ _ (pairs_later hi1 (by exact (by repeat (first | exact Below.refl _ _ | assumption | apply balloc | apply bdrew | (refine bset ?_ (by first | (simp; done) | omega | (simp; omega)) _) | (refine bnext ?_ (by assumption))))))).mono ?_; rintro e wB ⟨rfl, hbB⟩; obtain ⟨⟨hcB, hfB⟩, hsB⟩ := bcell1 hbB; obtain ⟨⟨hcC, hfC⟩, hsC⟩ := bcellw2 hbA (by exact (by repeat (first | exact Below.refl _ _ | assumption | apply balloc | apply bdrew | (refine bset ?_ (by first | (simp; done) | omega | (simp; omega)) _) | (refine bnext ?_ (by assumption))))) hbB; (try simp at hsB hsC)))
                        all_goals
                          go_wp2_with fail
                          go_meet
                          have hsA := hbA.size
                          (try simp at hsA)
                          refine ⟨rfl, _, rfl, ⟨?_, ?_⟩, ?_⟩
                          · first | (simp [go_sem]; done) | (simp (maxDischargeDepth := 8) [go_sem, hcB, hfB]; done) | (simp (maxDischargeDepth := 8) [go_sem, hcC, hfC]; done)
                          · first | (simp [go_sem]; done) | (simp (maxDischargeDepth := 8) [go_sem, hcB, hfB]; done) | (simp (maxDischargeDepth := 8) [go_sem, hcC, hfC]; done)
                          · exact (by repeat (first | exact Below.refl _ _ | assumption | apply balloc | apply bdrew | (refine bset ?_ (by first | (simp; done) | omega | (simp; omega)) _) | (refine bnext ?_ (by assumption))))
                      case rest =>
                        obtain ⟨rfl, q22, rfl, ⟨z0, z1⟩, hb18⟩ := hcut
                        obtain ⟨w18, rfl⟩ : ∃ x : World, x = wc := ⟨_, rfl⟩
                        have HB18 := hide hb18
                        obtain ⟨y0, y1⟩ := two_later HY17.out hb18
                        clear hb18 KP VR OK17
                        go_wp2_with fail
                        refine (IN2.out _).mono ?_
                        rintro e w19 ⟨rfl, hb19⟩
                        have D19 := hide (bnext HB18.out hb19)
                        clear y0 y1 z0 z1 hb19
                        obtain ⟨a0, a1⟩ := two_later HR17.out D19.out
                        obtain ⟨f0, f1⟩ := two_later H717.out D19.out
                        obtain ⟨y0, y1⟩ := two_later HY17.out D19.out
                        have wm : IntKind.wrap .i64 (ra - 1) = ra - 1 := IntWalk.i64_in _ (by omega)
                        have wp : IntKind.wrap .i64 (rb + 1) = rb + 1 := IntWalk.i64_in _ (by omega)
                        have BX := hide (bnext BW.out D19.out)
                        have ST1 := hide (fun (hh : X0 < ra) (W : World) (hb : Below w19.heap.size w19 W) => (show Calls Try.prog 66 #[.slice (some ⟨b, off, none⟩) ks.length cap, .int .i64 (ra - 1), .agg #[.int .i64 yl, .int .i64 yh]] W fun e w' => e = .returned (.bool false) ∧ Below W.heap.size W w' by
                          obtain ⟨m, hm1, hm2⟩ := RB.out hh
                          have hS := stands_any ks (some ⟨b, off, none⟩) cap (ra - 1) yl yh m W ht.out hm1 ha.out (pairs_later h.out (bnext BX.out hb))
                          rwa [hm2] at hS))
                        have ST2 := hide (fun (hh : rb < XN) (W : World) (hb : Below w19.heap.size w19 W) => (show Calls Try.prog 66 #[.slice (some ⟨b, off, none⟩) ks.length cap, .int .i64 (rb + 1), .agg #[.int .i64 yl, .int .i64 yh]] W fun e w' => e = .returned (.bool false) ∧ Below W.heap.size W w' by
                          obtain ⟨m, hm1, hm2⟩ := RH.out hh
                          have hS := stands_any ks (some ⟨b, off, none⟩) cap (rb + 1) yl yh m W ht.out hm1 ha.out (pairs_later h.out (bnext BX.out hb))
                          rwa [hm2] at hS))
                        have BL := hide (fun (W : World) (hb : Below w19.heap.size w19 W) => (show Below w14.heap.size w14 W from B17.out.trans ((bnext D19.out hb).mono B17.out.size)))
                        have AL := hide (fun (W : World) (hb : Below w19.heap.size w19 W) => And.intro (two_later HR17.out (bnext D19.out hb)) (And.intro (two_later H717.out (bnext D19.out hb)) (two_later HY17.out (bnext D19.out hb))))
                        clear RB RH IN2 HR17 H717 HY17 B17 BW BX D19 HB18 RE
                        by_cases gA : X0 < ra
                        · have dA : decide (X0 < ra) = true := decide_eq_true gA
                          have S1 := hide (ST1.out gA)
                          clear gA ST1
                          go_wp2_with fail
                          refine (S1.out _ (Below.refl _ _)).mono ?_
                          rintro e w20 ⟨rfl, hb20⟩
                          clear a0 a1 f0 f1 y0 y1
                          obtain ⟨⟨a0, a1⟩, ⟨f0, f1⟩, y0, y1⟩ := AL.out w20 hb20
                          by_cases gB : rb < XN
                          · have dB : decide (rb < XN) = true := decide_eq_true gB
                            have S2 := hide (ST2.out gB w20 hb20)
                            clear gB ST2
                            go_wp2_with fail
                            refine (S2.out).mono ?_
                            rintro e w21 ⟨rfl, hb21⟩
                            go_wp2_with fail
                            go_roundw
                            case rel => exact ⟨k + 1, by omega, by go_num, rfl, BL.out _ (bnext hb20 hb21)⟩
                            case measure => simp [intOf]; omega
                          · have dB : decide (rb < XN) = false := decide_eq_false gB
                            clear gB ST2
                            go_wp2_with fail
                            go_roundw
                            case rel => exact ⟨k + 1, by omega, by go_num, rfl, BL.out _ hb20⟩
                            case measure => simp [intOf]; omega
                        · have dA : decide (X0 < ra) = false := decide_eq_false gA
                          clear gA ST1
                          by_cases gB : rb < XN
                          · have dB : decide (rb < XN) = true := decide_eq_true gB
                            have S2 := hide (ST2.out gB w19 (Below.refl _ _))
                            clear gB ST2
                            go_wp2_with fail
                            refine (S2.out).mono ?_
                            rintro e w21 ⟨rfl, hb21⟩
                            go_wp2_with fail
                            go_roundw
                            case rel => exact ⟨k + 1, by omega, by go_num, rfl, BL.out _ hb21⟩
                            case measure => simp [intOf]; omega
                          · have dB : decide (rb < XN) = false := decide_eq_false gB
                            clear gB ST2
                            go_wp2_with fail
                            go_roundw
                            case rel => exact ⟨k + 1, by omega, by go_num, rfl, BL.out _ (Below.refl _ _)⟩
                            case measure => simp [intOf]; omega
                · obtain rfl : k = R.length := by omega
                  have HP : hasQ R p R.length = insQ d u yl yh := by
                    have q1 := hasQ_is (R := R) (p := p) R.length
                    have FR := F.out.r
                    have q2 := RF.out.all p (by omega) (by omega)
                    have q3 := F.out.y yl yh
                    have N := F.out.n
                    rw [Bool.eq_iff_iff, q1, ← q2, q3]
                    unfold insQ
                    simp only [Bool.and_eq_true, decide_eq_true_eq]
                    omega
                  obtain ⟨β, hβ⟩ : ∃ β, hasQ R p R.length = β := ⟨_, rfl⟩
                  rw [hβ]
                  rw [hβ] at HP
                  have IN := hide (fun (W : World) => (show Calls Try.prog 63 #[.agg #[.int .i64 d, .int .i64 u], .agg #[.int .i64 yl, .int .i64 yh]] W fun e w' => e = .returned (.bool β) ∧ Below W.heap.size W w' by rw [HP]; exact inside_any d u yl yh W))
                  obtain ⟨y0, y1⟩ := HYk.out
                  obtain ⟨z0, z1⟩ := two_later H12e.out HB.out
                  have BF := hide (bnext B14.out HB.out)
                  have jl : ¬ (R.length : Int) < R.length := by omega
                  clear HP hβ RF F
                  go_wp2_with fail
                  refine (IN.out _).mono ?_
                  rintro e w15 ⟨rfl, hb15⟩
                  clear y0 y1 z0 z1
                  go_wp2_with fail
                  refine (known_any _).mono ?_
                  rintro e w16 ⟨rfl, hb16⟩
                  go_wp2_with fail
                  go_ret
                  exact ⟨rfl, bnext (bnext BF.out hb15) hb16⟩

theorem unitsWithin_walk (ks : List (Int × Int)) (a : Option Addr) (cap : Nat) (yl yh t0 t1 t2 : Int) (w : World) (hl : ks.length ≤ maxLen ∧ (a = none → cap = 0 ∧ ks = [])) (h : IsPairs w a ks) (b0 : 0 ≤ t0 ∧ t0 ≤ 65535) (b1 : 0 ≤ t1 ∧ t1 ≤ 65535) (b2 : 0 ≤ t2 ∧ t2 ≤ 65535) :
    Calls Try.prog 19 #[.slice a ks.length cap, .agg #[.int .i64 yl, .int .i64 yh], .agg #[.int .u16 t0, .int .u16 t1, .int .u16 t2]] w fun e w' => e = .returned (.bool true) ∧ Below w.heap.size w w' := by
  by_cases hlen : 60 < ks.length
  · exact within_long ks a cap yl yh t0 t1 t2 w hl.1 hlen
  · cases h1 : tabOk ks with
    | false => exact within_bad ks a cap yl yh t0 t1 t2 w (by omega) hl.2 h (fun a cap W hi => by have hc := checkTable_any ks a cap W (by omega) hi; rwa [if_neg (by simp [h1])] at hc)
    | true =>
      obtain ⟨vl, vh, d, u, F⟩ := wi_facts h1 t0 t1 t2
      obtain ⟨l0, l1⟩ := len_of h1
      have k0 := knot_bounds h1 (i := 0) (by omega)
      have k1 := knot_bounds h1 (i := ks.length - 1) (by omega)
      have k2 := knot_le h1 (i := 0) (j := ks.length - 1) (by omega) (by omega)
      have hE : (whereTQ ks yl yh).2 = 2 ∧ (whereTQ ks yl yh).1 = [] ∨ (whereTQ ks yl yh).2 = 0 ∧ RunFacts ks yl yh (whereTQ ks yl yh).1 := by
        unfold whereTQ
        rw [if_neg (by simp [h1])]
        split
        · exact .inl ⟨rfl, rfl⟩
        · exact .inr ⟨rfl, run_facts h1 yl yh⟩
      refine within_go ks (whereTQ ks yl yh).1 a cap yl yh t0 t1 t2 (kX ks 0) (kX ks (ks.length - 1)) _ _ _ vl vh d u (whereTQ ks yl yh).2 w l1 l0 whereTQ_short ⟨by omega, k2, by omega⟩ F h1 rfl rfl hl.2 h
        (fun a cap W hi => by have hc := checkTable_any ks a cap W (by omega) hi; rwa [if_pos h1] at hc) (fun W => part_any _ _ t0 t1 W b0.1 b0.2 b1.1 b1.2) (fun W => place_any _ _ t2 W b2.1 b2.2)
        (fun a cap W hp => ?_) (fun a cap W hp => ?_) (fun a cap W hp => ?_) (wheC_units (by omega)) hE
      · have hv := value_any ks a cap (partQ (kX ks 0) (kX ks (ks.length - 1)) t0 t1).1 (partQ (kX ks 0) (kX ks (ks.length - 1)) t0 t1).2 W (by omega) hp
        rw [F.v] at hv
        exact hv
      · have hv := value_any ks a cap (placeQ (partQ (kX ks 0) (kX ks (ks.length - 1)) t0 t1).1 (partQ (kX ks 0) (kX ks (ks.length - 1)) t0 t1).2 t2) (placeQ (partQ (kX ks 0) (kX ks (ks.length - 1)) t0 t1).1 (partQ (kX ks 0) (kX ks (ks.length - 1)) t0 t1).2 t2) W (by omega) hp
        rw [F.o] at hv
        exact hv
      · have hv := value_any (turn ks) a cap (partQ (kX ks 0) (kX ks (ks.length - 1)) t0 t1).1 (partQ (kX ks 0) (kX ks (ks.length - 1)) t0 t1).2 W (by rw [turn_length]; omega) hp
        rw [F.t] at hv
        exact hv
end Go.Proofs.Ytckapcfofkeicaa

namespace Go.Proofs.Ytckapcfofkeicaa
set_option linter.unusedSimpArgs false
set_option linter.unusedVariables false
open Go.RowKit Go.ChangeShapes Go.WideShapes Go.ChangeAt Go.Joins

theorem u16sThree : Try.prog.cellsOf 96 = 3 := by kernel_rfl
theorem u16One : Try.prog.cellsOf 75 = 1 := by kernel_rfl
theorem u16_cellW {H : Type} {enc : TypeId × Value → H} {w : World} {base : Nat} {spare : Nat → Bool} {held : Bool} {fuel : Nat} {y : DataW H × List MemPlace} {c : Value} (h : DataW.trod enc Try.prog w base spare held fuel 75 [c] = some y) : ∃ a : Int, c = .int .u16 a ∧ 0 ≤ a ∧ a ≤ 65535 := by
  obtain ⟨a, e0, _, wa⟩ := DataW.trod_int Try.underlying75 h
  simp at e0
  have := bounds_u16 wa
  exact ⟨a, e0, this.1, this.2⟩
theorem okWide_arrayW {P : Program} {w : World} {r : Reach} {base : Nat} {t e : TypeId} {n : Nat} {v : Value} (ht : P.underlying t = some (.array n e)) (h : Value.okWide P w r base t v) : ∃ cs, v = .agg cs ∧ cs.size = P.cellsOf t := by
  simp only [Value.okWide, ht] at h
  obtain ⟨cs, h1, h2, _⟩ := h
  exact ⟨cs, h1, h2⟩
set_option maxRecDepth 100000 in
/-- Three small numbers that came in. -/
theorem open_at3 {H : Type} {enc : TypeId × Value → H} {w : World} {base b0 : Nat} {spare : Nat → Bool} {held : Bool} {r : Reach} {v : Value} {d : DataW H} {p : List MemPlace}
    (hv : Value.okWide Try.prog w r b0 96 v) (h : DataW.Trod enc Try.prog w base spare held 96 v d p) :
    ∃ a b c : Int, v = .agg #[.int .u16 a, .int .u16 b, .int .u16 c] ∧ (0 ≤ a ∧ a ≤ 65535) ∧ (0 ≤ b ∧ b ≤ 65535) ∧ 0 ≤ c ∧ c ≤ 65535 := by
  obtain ⟨cs, rfl, hsz⟩ := okWide_arrayW Try.underlying96 hv
  obtain ⟨l⟩ := cs
  match l, hsz.trans u16sThree with
  | [c0, c1, c2], _ =>
    obtain ⟨fuel, hf⟩ := h
    obtain ⟨xs, m, _, _, _, hl, hel⟩ := DataW.trod_array Try.underlying96 hf
    match xs, hl with
    | [x0, x1, x2], _ =>
      have h0 := hel 0 (by omega)
      have h1 := hel 1 (by omega)
      have h2 := hel 2 (by omega)
      simp [u16One, Value.cells] at h0 h1 h2
      obtain ⟨a, rfl, ha⟩ := u16_cellW h0
      obtain ⟨b, rfl, hb⟩ := u16_cellW h1
      obtain ⟨c, rfl, hc⟩ := u16_cellW h2
      exact ⟨a, b, c, rfl, ha, hb, hc⟩
end Go.Proofs.Ytckapcfofkeicaa
