/-
  UnitsNoSimpler: the walk.
-/
import Derived.Test.YtdnppmncmnmckaaNsM
import Derived.BigRegion
import Derived.Test.YtdnppmncmnmckaaFrameE
namespace Go.Proofs.Ytdnppmncmnmckaa
set_option linter.unusedSimpArgs false
set_option linter.unusedVariables false
open Go.RowKit

def Smp (an ad bn bd P D E : Int) : Prop := ∀ w, Calls Try.prog 60 #[.agg #[.int .i64 an, .int .i64 ad], .agg #[.int .i64 bn, .int .i64 bd]] w fun e w' => e = .returned (.tuple #[.agg #[.int .i64 P, .int .i64 D], .int .i64 E]) ∧ Below w.heap.size w w'
def Dvr (a b g : Int) : Prop := ∀ w, Calls Try.prog 61 #[.int .i64 a, .int .i64 b] w fun e w' => e = .returned (.int .i64 g) ∧ Below w.heap.size w w'
def Mlt (a b c how n r E : Int) : Prop := ∀ w, Calls Try.prog 20 #[.int .i64 a, .int .i64 b, .int .i64 c, .int .u8 how] w fun e w' => e = .returned (.tuple #[.int .i64 n, .int .i64 r, .int .i64 E]) ∧ Below w.heap.size w w'
/-- The cells of the two fractions, and of the third one. -/
def NsAt (w : World) (p q r : Nat) (an ad bn bd cn cd : Int) (wx : World) : Prop :=
  (wx.cell? ⟨p, 0, none⟩ = some (.int .i64 an) ∧ wx.cell? ⟨p, 1, none⟩ = some (.int .i64 ad)) ∧ (wx.cell? ⟨q, 0, none⟩ = some (.int .i64 bn) ∧ wx.cell? ⟨q, 1, none⟩ = some (.int .i64 bd)) ∧ (wx.cell? ⟨r, 0, none⟩ = some (.int .i64 cn) ∧ wx.cell? ⟨r, 1, none⟩ = some (.int .i64 cd)) ∧ Below w.heap.size w wx
theorem NsAt.next {w W W' : World} {p q r : Nat} {an ad bn bd cn cd : Int} (h : NsAt w p q r an ad bn bd cn cd W) (hb : Below W.heap.size W W') : NsAt w p q r an ad bn bd cn cd W' := by
  obtain ⟨⟨h1, h2⟩, ⟨h3, h4⟩, ⟨h5, h6⟩, h7⟩ := h
  exact ⟨⟨later hb h1, later hb h2⟩, ⟨later hb h3, later hb h4⟩, ⟨later hb h5, later hb h6⟩, bnext h7 hb⟩

set_option maxRecDepth 100000 in
set_option maxHeartbeats 3200000 in
theorem ns_bad (an ad bn bd cn cd t : Int) (w : World) (hE : (frac2Ok an ad bn bd && decide (an * bd ≤ bn * ad)) = false) :
    Calls Try.prog 15 #[.agg #[.int .i64 an, .int .i64 ad, .int .i64 bn, .int .i64 bd, .int .i64 cn, .int .i64 cd, .int .u16 t]] w fun e w' => e = .returned (.bool true) ∧ Below w.heap.size w w' := by
  have S := fun W => simplestF_any (ad + bd).toNat an ad bn bd W (by omega)
  have e : simplestQ (ad + bd).toNat an ad bn bd = ((0, 0), 2) := by unfold simplestQ; rw [hE, if_neg (by simp)]
  rw [e] at S
  have S := hide S
  clear hE e
  go_enter Try.func15, Try.ntmps15
  go_upto_region 1 with fail
  go_cut [3, 4, 5] from 19 (fun s3 s4 s5 wx => ∃ p q r : Nat, s3 = .pointer (some ⟨p, 0, none⟩) ∧ s4 = .pointer (some ⟨q, 0, none⟩) ∧ s5 = .pointer (some ⟨r, 0, none⟩) ∧ NsAt w p q r an ad bn bd cn cd wx)
  case first =>
    go_big_region
    all_goals
      go_wp2_with fail
      go_meet
      refine ⟨_, _, _, rfl, rfl, rfl, ⟨?_, ?_⟩, ⟨?_, ?_⟩, ⟨?_, ?_⟩, ?_⟩
      all_goals first | (simp [go_sem, World.cell?_alloc_past]; done) | (exact (by repeat (first | exact Below.refl _ _ | assumption | apply balloc | apply bdrew | (refine bset ?_ (by first | (simp; done) | omega | (simp; omega)) _) | (refine bnext ?_ (by assumption)))))
  case rest =>
    obtain ⟨p, q, r, rfl, rfl, rfl, ⟨p0, p1⟩, ⟨q0, q1⟩, ⟨r0, r1⟩, hbw⟩ := hcut
    go_wp2_with fail
    refine (S.out _).mono ?_
    rintro e w1 ⟨rfl, hb1⟩
    go_wp2_with fail
    refine (known_any _).mono ?_
    rintro e w2 ⟨rfl, hb2⟩
    go_wp2_with fail
    go_ret
    exact ⟨rfl, (by repeat (first | exact Below.refl _ _ | assumption | apply balloc | apply bdrew | (refine bset ?_ (by first | (simp; done) | omega | (simp; omega)) _) | (refine bnext ?_ (by assumption))))⟩

set_option maxRecDepth 100000 in
set_option maxHeartbeats 3200000 in
theorem ns_good (an ad bn bd cn cd t P D P2 D2 X Y X2 E2 Y2 E3 P3 D3 n r Z : Int) (w : World)
    (S1 : Hid (Smp an ad bn bd P D 0)) (C1 : Hid (Cmp an ad P D X 0)) (C2 : Hid (Cmp P D bn bd Y 0)) (x0 : decide (0 < X) = false) (y0 : decide (0 < Y) = false) (d0 : decide (D < 1) = false) (G : Hid (Dvr P D 1))
    (T : Hid (decide (1 < D) = false ∨ (decide (1 < D) = true ∧ (2 ≤ D ∧ D ≤ 1000000000000000) ∧ Hid (Mlt an (1 + t % (D - 1)) ad 2 n r 0) ∧ Hid (Cmp n (1 + t % (D - 1)) bn bd Z 0) ∧ decide (Z ≤ 0) = false)))
    (t0 : 0 ≤ t) (t1 : t ≤ 65535) (S2 : Hid (Smp an ad an ad P2 D2 0)) (C4 : Hid (Cmp P2 D2 an ad 0 0)) (C5 : Hid (Cmp an ad cn cd X2 E2)) (C6 : Hid (Cmp cn cd bn bd Y2 E3))
    (L : Hid ((E2 = 2) ∨ (E2 = 0 ∧ E3 = 0 ∧ decide (0 < X2) = true) ∨ (E2 = 0 ∧ E3 = 0 ∧ decide (0 < X2) = false ∧ decide (0 < Y2) = true) ∨
      (E2 = 0 ∧ E3 = 0 ∧ decide (0 < X2) = false ∧ decide (0 < Y2) = false ∧ Hid (Smp cn cd bn bd P3 D3 0) ∧ decide (D ≤ D3) = true))) :
    Calls Try.prog 15 #[.agg #[.int .i64 an, .int .i64 ad, .int .i64 bn, .int .i64 bd, .int .i64 cn, .int .i64 cd, .int .u16 t]] w fun e w' => e = .returned (.bool true) ∧ Below w.heap.size w w' := by
  go_enter Try.func15, Try.ntmps15
  go_upto_region 1 with fail
  go_cut [3, 4, 5] from 19 (fun s3 s4 s5 wx => ∃ p q r : Nat, s3 = .pointer (some ⟨p, 0, none⟩) ∧ s4 = .pointer (some ⟨q, 0, none⟩) ∧ s5 = .pointer (some ⟨r, 0, none⟩) ∧ NsAt w p q r an ad bn bd cn cd wx ∧ wx.cell? ⟨w.heap.size, 6, none⟩ = some (.int .u16 t))
  case first =>
    go_big_region
    all_goals
      go_wp2_with fail
      go_meet
      refine ⟨_, _, _, rfl, rfl, rfl, ⟨⟨?_, ?_⟩, ⟨?_, ?_⟩, ⟨?_, ?_⟩, ?_⟩, ?_⟩
      all_goals first | (simp [go_sem, World.cell?_alloc_past]; done) | (exact (by repeat (first | exact Below.refl _ _ | assumption | apply balloc | apply bdrew | (refine bset ?_ (by first | (simp; done) | omega | (simp; omega)) _) | (refine bnext ?_ (by assumption)))))
  case rest =>
    obtain ⟨p, q, r, rfl, rfl, rfl, hN, ht⟩ := hcut
    obtain ⟨⟨p0, p1⟩, ⟨q0, q1⟩, ⟨r0, r1⟩, hbw⟩ := hN
    have N0 := hide (show NsAt w p q r an ad bn bd cn cd wc from ⟨⟨p0, p1⟩, ⟨q0, q1⟩, ⟨r0, r1⟩, hbw⟩)
    go_wp2_with fail
    refine (S1.out _).mono ?_
    rintro e w1 ⟨rfl, hb1⟩
    have N1 := hide (fun o => (N0.out.next hb1).next (balloc (o := o) (Below.refl _ _)))
    have B1 := hide (show w.heap.size ≤ w1.heap.size from (bnext hbw hb1).size)
    have HT := hide (fun o => later (balloc (o := o) (Below.refl _ _)) (later hb1 ht))
    clear p0 p1 q0 q1 r0 r1 ht hbw hb1
    have p0 := fun o => (N1.out o).1.1
    have p1 := fun o => (N1.out o).1.2
    go_wp2_with fail
    refine (C1.out _).mono ?_
    rintro e w2 ⟨rfl, hb2⟩
    have f0 := later hb2 (a := ⟨w1.heap.size, 0, none⟩) (v := .int .i64 P) (by simp [go_sem, World.cell?_alloc_past])
    have f1 := later hb2 (a := ⟨w1.heap.size, 1, none⟩) (v := .int .i64 D) (by simp [go_sem, World.cell?_alloc_past])
    have N2 := hide ((N1.out _).next hb2)
    have HT2 := hide (later hb2 (HT.out _))
    have q0 := N2.out.2.1.1
    have q1 := N2.out.2.1.2
    clear p0 p1 hb2 N1 HT
    go_wp2_with fail
    refine (C2.out _).mono ?_
    rintro e w3 ⟨rfl, hb3⟩
    have f0' := later hb3 f0
    have f1' := later hb3 f1
    have N3 := hide (N2.out.next hb3)
    have HT3 := hide (later hb3 HT2.out)
    clear q0 q1 hb3 f0 f1 N2 HT2
    go_wp2_with fail
    refine (G.out _).mono ?_
    rintro e w4 ⟨rfl, hb4⟩
    have f0 := later hb4 f0'
    have f1 := later hb4 f1'
    have N4 := hide (N3.out.next hb4)
    have HT4 := hide (later hb4 HT3.out)
    clear hb4 f0' f1' N3 HT3
    go_upto_if 80 with fail
    go_cut [] from 11 (fun wx => NsAt w p q r an ad bn bd cn cd wx ∧ wx.cell? ⟨w1.heap.size, 0, none⟩ = some (.int .i64 P) ∧ wx.cell? ⟨w1.heap.size, 1, none⟩ = some (.int .i64 D))
    case first =>
      rcases T.out with h1 | ⟨h1, ⟨D2, D1⟩, M, C3, z0⟩
      · have h2 : ¬ 1 < D := of_decide_eq_false h1
        go_wp2_with fail
        go_meet
        exact ⟨N4.out, f0, f1⟩
      · have h2 : 1 < D := of_decide_eq_true h1
        have ht := HT4.out
        have p0 := N4.out.1.1
        have p1 := N4.out.1.2
        have hs : D - 1 ≠ 0 := by omega
        have T0 : 0 ≤ t % (D - 1) := Int.emod_nonneg t hs
        have T1 : t % (D - 1) < D - 1 := Int.emod_lt_of_pos t (by omega)
        go_wp2_with fail
        refine (M.out _).mono ?_
        rintro e w5 ⟨rfl, hb5⟩
        have g0 := later hb5 f0
        have g1 := later hb5 f1
        have N5 := hide (N4.out.next hb5)
        have q0 := N5.out.2.1.1
        have q1 := N5.out.2.1.2
        clear ht p0 p1 hb5 f0 f1 N4
        go_wp2_with fail
        refine (C3.out _).mono ?_
        rintro e w6 ⟨rfl, hb6⟩
        have f0 := later hb6 g0
        have f1 := later hb6 g1
        have N6 := hide (N5.out.next hb6)
        clear q0 q1 hb6 g0 g1 N5
        go_wp2_with fail
        go_meet
        exact ⟨N6.out, f0, f1⟩
    case rest =>
      obtain ⟨hN, f0, f1⟩ := hcut
      have N0 := hide hN
      clear hN T
      have p0 := N0.out.1.1
      have p1 := N0.out.1.2
      go_wp2_with fail
      refine (S2.out _).mono ?_
      rintro e w5 ⟨rfl, hb5⟩
      have lt15 : w1.heap.size < w5.heap.size := by
        have s1 := hb5.size
        have s2 : w1.heap.size < wc.heap.size := World.block_lt_of_cell? _ _ f1
        omega
      have NE := hide lt15
      clear lt15
      have g1 := fun o => later (balloc (o := o) (Below.refl _ _)) (later hb5 f1)
      have N1 := hide (fun o => (N0.out.next hb5).next (balloc (o := o) (Below.refl _ _)))
      clear p0 p1 hb5 f0 f1 N0
      have p0 := fun o => (N1.out o).1.1
      have p1 := fun o => (N1.out o).1.2
      go_wp2_with fail
      refine (C4.out _).mono ?_
      rintro e w6 ⟨rfl, hb6⟩
      have f1 := later hb6 (g1 _)
      have h0 := later hb6 (a := ⟨w5.heap.size, 0, none⟩) (v := .int .i64 P2) (by simp [go_sem, World.cell?_alloc_past])
      have h1 := later hb6 (a := ⟨w5.heap.size, 1, none⟩) (v := .int .i64 D2) (by simp [go_sem, World.cell?_alloc_past])
      have H6 := hide (show CF w6 ⟨w5.heap.size, 0, none⟩ (.int .i64 P2) ∧ CF w6 ⟨w5.heap.size, 1, none⟩ (.int .i64 D2) from ⟨⟨h0, free_later hb6 (a := ⟨w5.heap.size, 0, none⟩) (v := .int .i64 P2) (by simp [go_sem, World.cell?_alloc_past]) (by simp [go_sem, World.cell?_alloc_past])⟩, h1, free_later hb6 (a := ⟨w5.heap.size, 1, none⟩) (v := .int .i64 D2) (by simp [go_sem, World.cell?_alloc_past]) (by simp [go_sem, World.cell?_alloc_past])⟩)
      have N2 := hide ((N1.out _).next hb6)
      clear p0 p1 hb6 g1 N1
      have p0 := N2.out.1.1
      have p1 := N2.out.1.2
      have r0 := N2.out.2.2.1.1
      have r1 := N2.out.2.2.1.2
      go_wp2_with fail
      refine (C5.out _).mono ?_
      rintro e w7 ⟨rfl, hb7⟩
      have g1 := later hb7 f1
      have H7 := hide (show CF w7 ⟨w5.heap.size, 0, none⟩ (.int .i64 P2) ∧ CF w7 ⟨w5.heap.size, 1, none⟩ (.int .i64 D2) from ⟨cf_later hb7 H6.out.1, cf_later hb7 H6.out.2⟩)
      have N3 := hide (N2.out.next hb7)
      clear p0 p1 r0 r1 hb7 f1 h0 h1 N2 H6
      have q0 := N3.out.2.1.1
      have q1 := N3.out.2.1.2
      have r0 := N3.out.2.2.1.1
      have r1 := N3.out.2.2.1.2
      go_wp2_with fail
      refine (C6.out _).mono ?_
      rintro e w8 ⟨rfl, hb8⟩
      have f1 := later hb8 g1
      have H8 := hide (show CF w8 ⟨w5.heap.size, 0, none⟩ (.int .i64 P2) ∧ CF w8 ⟨w5.heap.size, 1, none⟩ (.int .i64 D2) from ⟨cf_later hb8 H7.out.1, cf_later hb8 H7.out.2⟩)
      have N4 := hide (N3.out.next hb8)
      clear q0 q1 r0 r1 hb8 g1 N3 H7
      have B4 := N4.out.2.2.2
      rcases L.out with rfl | ⟨rfl, rfl, e1⟩ | ⟨rfl, rfl, e1, e2⟩ | ⟨rfl, rfl, e1, e2, S3, e3⟩
      · go_wp2_with fail
        refine (known_any _).mono ?_
        rintro e w9 ⟨rfl, hb9⟩
        go_wp2_with fail
        go_ret
        exact ⟨rfl, (by repeat (first | exact Below.refl _ _ | assumption | apply balloc | apply bdrew | (refine bset ?_ (by first | (simp; done) | omega | (simp; omega)) _) | (refine bnext ?_ (by assumption))))⟩
      · go_wp2_with fail
        refine (known_any _).mono ?_
        rintro e w9 ⟨rfl, hb9⟩
        go_wp2_with fail
        go_ret
        exact ⟨rfl, (by repeat (first | exact Below.refl _ _ | assumption | apply balloc | apply bdrew | (refine bset ?_ (by first | (simp; done) | omega | (simp; omega)) _) | (refine bnext ?_ (by assumption))))⟩
      · go_wp2_with fail
        refine (known_any _).mono ?_
        rintro e w9 ⟨rfl, hb9⟩
        go_wp2_with fail
        go_ret
        exact ⟨rfl, (by repeat (first | exact Below.refl _ _ | assumption | apply balloc | apply bdrew | (refine bset ?_ (by first | (simp; done) | omega | (simp; omega)) _) | (refine bnext ?_ (by assumption))))⟩
      · have q0 := N4.out.2.1.1
        have q1 := N4.out.2.1.2
        have r0 := N4.out.2.2.1.1
        have r1 := N4.out.2.2.1.2
        go_wp2_with fail
        refine (S3.out _).mono ?_
        rintro e w9 ⟨rfl, hb9⟩
        obtain ⟨k0, z0⟩ := cf_later hb9 H8.out.1
        obtain ⟨k1, z1⟩ := cf_later hb9 H8.out.2
        have g1 := later hb9 f1
        have ne1 : ¬ w1.heap.size = w5.heap.size := by have := NE.out; omega
        have ne2 : ¬ w5.heap.size = w1.heap.size := by have := NE.out; omega
        have le5 : w.heap.size ≤ w5.heap.size := by have := NE.out; have := B1.out; omega
        clear q0 q1 r0 r1
        go_wp2_with fail
        refine (known_any _).mono ?_
        rintro e w10 ⟨rfl, hb10⟩
        go_wp2_with fail
        go_ret
        exact ⟨rfl, (by repeat (first | exact Below.refl _ _ | assumption | apply balloc | apply bdrew | (refine bset ?_ (by first | (simp; done) | omega | (simp; omega)) _) | (refine bnext ?_ (by assumption))))⟩

theorem fr_ok {n d : Int} (h0 : -1000000000000000 ≤ n) (h1 : n ≤ 1000000000000000) (h2 : 1 ≤ d) (h3 : d ≤ 1000000000000000) : fracOk (n, d) = true := by
  simp [fracOk, allIn, isDiv]; omega
theorem frac2_of {a b c d : Int} (h1 : fracOk (a, b) = true) (h2 : fracOk (c, d) = true) : frac2Ok a b c d = true := by rw [frac2_and, h1, h2]; rfl
theorem le_not_pos {x y : Int} (h : x ≤ y) : decide (0 < sgn3 x y) = false := decide_eq_false fun h2 => by have := sgn3_pos.1 h2; omega
theorem smp_of {an ad bn bd P D : Int} (hf : frac2Ok an ad bn bd = true) (hle : an * bd ≤ bn * ad) (hPD : simpQ (ad + bd).toNat an ad bn bd = (P, D)) : Smp an ad bn bd P D 0 := fun W => by
  have := simplestF_any (ad + bd).toNat an ad bn bd W (by omega)
  have e : simplestQ (ad + bd).toNat an ad bn bd = ((P, D), 0) := by unfold simplestQ; rw [hf, decide_eq_true hle, if_pos (by rfl), hPD]
  rw [e] at this
  exact this

/-- The walk of UnitsNoSimpler. -/
theorem unitsNoSimpler_walk (an ad bn bd cn cd t : Int) (w : World) (t0 : 0 ≤ t) (t1 : t ≤ 65535) :
    Calls Try.prog 15 #[.agg #[.int .i64 an, .int .i64 ad, .int .i64 bn, .int .i64 bd, .int .i64 cn, .int .i64 cd, .int .u16 t]] w fun e w' => e = .returned (.bool true) ∧ Below w.heap.size w w' := by
  cases hE : (frac2Ok an ad bn bd && decide (an * bd ≤ bn * ad))
  · exact ns_bad an ad bn bd cn cd t w hE
  · rw [Bool.and_eq_true, decide_eq_true_eq] at hE
    obtain ⟨hf, hle⟩ := hE
    obtain ⟨⟨⟨a0, a1⟩, ad0, ad1⟩, ⟨b0, b1⟩, bd0, bd1⟩ := frac2_bounds hf
    obtain ⟨⟨D0, D1, D2⟩, ⟨l1, l2⟩, _⟩ := simpQ_bounds (ad + bd).toNat an ad bn bd ad0 bd0 hle (by omega)
    have least := simpQ_least (ad + bd).toNat an ad bn bd ad0 bd0 hle (by omega)
    have cop := fun g x y => simpQ_coprime (k := (ad + bd).toNat) (g := g) (x := x) (y := y) ad0 bd0 hle (by omega)
    obtain ⟨PD, hPD⟩ : ∃ PD, simpQ (ad + bd).toNat an ad bn bd = PD := ⟨_, rfl⟩
    obtain ⟨P, D⟩ := PD
    rw [hPD] at D0 D1 D2 l1 l2 least cop
    simp only at D0 D1 D2 l1 l2 least cop
    obtain ⟨P0, P1⟩ := simp_num a0 b1 ad0 bd0 D0 D1 D2 l1 l2
    have va := fr_ok a0 a1 ad0 ad1
    have vb := fr_ok b0 b1 bd0 bd1
    have vf := fr_ok P0 P1 D0 (show D ≤ 1000000000000000 by omega)
    -- the simplest fraction of a and a
    obtain ⟨⟨D0', D1', D2'⟩, ⟨l1', l2'⟩, _⟩ := simpQ_bounds (ad + ad).toNat an ad an ad ad0 ad0 (by omega) (by omega)
    obtain ⟨PD', hPD'⟩ : ∃ PD, simpQ (ad + ad).toNat an ad an ad = PD := ⟨_, rfl⟩
    obtain ⟨P2, D2x⟩ := PD'
    rw [hPD'] at D0' D1' D2' l1' l2'
    simp only at D0' D1' D2' l1' l2'
    obtain ⟨P0', P1'⟩ := simp_num a0 a1 ad0 ad0 D0' D1' D2' l1' l2'
    have C4 : Cmp P2 D2x an ad 0 0 := by
      have := compareQ_good (frac2_of (fr_ok P0' P1' D0' (show D2x ≤ 1000000000000000 by omega)) va)
      rw [show sgn3 (P2 * ad) (an * D2x) = 0 by rw [show P2 * ad = an * D2x by omega]; unfold sgn3; simp] at this
      exact cmp_of this
    have T : ∃ n r Z, decide (1 < D) = false ∨ (decide (1 < D) = true ∧ (2 ≤ D ∧ D ≤ 1000000000000000) ∧ Hid (Mlt an (1 + t % (D - 1)) ad 2 n r 0) ∧ Hid (Cmp n (1 + t % (D - 1)) bn bd Z 0) ∧ decide (Z ≤ 0) = false) := by
      by_cases h1 : 1 < D
      · have T0 : 0 ≤ t % (D - 1) := Int.emod_nonneg t (by omega)
        have T1 : t % (D - 1) < D - 1 := Int.emod_lt_of_pos t (by omega)
        generalize t % (D - 1) = v at *
        obtain ⟨u0, u1⟩ := up_num (d := 1 + v) a0 a1 ad0 (by omega) (by omega)
        have u2 := upV_le (N := an * (1 + v)) (c := ad)
        have hv : (allIn 1000000000000000 [an, 1 + v] && isDiv ad) = true := by rw [allIn_two.2 ⟨by omega, by omega⟩]; simp [isDiv]; omega
        obtain ⟨r, hr⟩ := mulDivQ_up hv ad0 u0 u1
        have ab := up_above (N := an * (1 + v)) ad0
        generalize upV (an * (1 + v)) ad = n at *
        refine ⟨n, r, sgn3 (n * bd) (bn * (1 + v)), .inr ⟨decide_eq_true h1, ⟨by omega, by omega⟩, fun W => ?_, ?_, ?_⟩⟩
        · have := mulDiv_any an (1 + v) ad 2 W
          rw [hr] at this
          exact this
        · exact cmp_of (compareQ_good (frac2_of (fr_ok (by omega) u1 (by omega) (by omega)) vb))
        · refine decide_eq_false fun h => ?_
          have h2 : n * bd ≤ bn * (1 + v) := by
            have := @sgn3_le (n * bd) (bn * (1 + v))
            rw [decide_eq_true h] at this
            exact of_decide_eq_true this.symm
          have := (least n (1 + v) (by omega) ab h2).1
          omega
      · exact ⟨0, 0, 0, .inl (decide_eq_false h1)⟩
    obtain ⟨n, r, Z, T⟩ := T
    have L : ∃ X2 E2 Y2 E3 P3 D3, Cmp an ad cn cd X2 E2 ∧ Cmp cn cd bn bd Y2 E3 ∧ ((E2 = 2) ∨ (E2 = 0 ∧ E3 = 0 ∧ decide (0 < X2) = true) ∨ (E2 = 0 ∧ E3 = 0 ∧ decide (0 < X2) = false ∧ decide (0 < Y2) = true) ∨
      (E2 = 0 ∧ E3 = 0 ∧ decide (0 < X2) = false ∧ decide (0 < Y2) = false ∧ Hid (Smp cn cd bn bd P3 D3 0) ∧ decide (D ≤ D3) = true)) := by
      cases vc : fracOk (cn, cd) with
      | false =>
        exact ⟨0, 2, 0, 2, 0, 0, cmp_of (compareQ_bad (by rw [frac2_and, vc, Bool.and_false])), cmp_of (compareQ_bad (by rw [frac2_and, vc, Bool.false_and])), .inl rfl⟩
      | true =>
        have hac := frac2_of va vc
        have hcb := frac2_of vc vb
        obtain ⟨⟨⟨c0, c1⟩, cd0, cd1⟩, _⟩ := frac2_bounds hcb
        obtain ⟨PD3, hPD3⟩ : ∃ PD, simpQ (cd + bd).toNat cn cd bn bd = PD := ⟨_, rfl⟩
        obtain ⟨P3, D3⟩ := PD3
        refine ⟨sgn3 (an * cd) (cn * ad), 0, sgn3 (cn * bd) (bn * cd), 0, P3, D3, cmp_of (compareQ_good hac), cmp_of (compareQ_good hcb), .inr ?_⟩
        by_cases h1 : an * cd ≤ cn * ad
        · by_cases h2 : cn * bd ≤ bn * cd
          · refine .inr (.inr ⟨rfl, rfl, le_not_pos h1, le_not_pos h2, smp_of hcb h2 hPD3, ?_⟩)
            obtain ⟨⟨e0, e1, e2⟩, ⟨m1, m2⟩, _⟩ := simpQ_bounds (cd + bd).toNat cn cd bn bd cd0 bd0 h2 (by omega)
            rw [hPD3] at e0 e1 e2 m1 m2
            simp only at e0 e1 e2 m1 m2
            have tr : an * D3 ≤ P3 * ad := frac_le_trans (an := P3) (ad := D3) (bn := cn) (bd := cd) (cn := an) (cd := ad) (by omega) (by omega) (by omega) m1 h1
            exact decide_eq_true (least P3 D3 e0 tr m2).1
          · exact .inr (.inl ⟨rfl, rfl, le_not_pos h1, decide_eq_true (sgn3_pos.2 (by omega))⟩)
        · exact .inl ⟨rfl, rfl, decide_eq_true (sgn3_pos.2 (by omega))⟩
    obtain ⟨X2, E2, Y2, E3, P3, D3, C5, C6, L⟩ := L
    exact ns_good an ad bn bd cn cd t P D P2 D2x _ _ X2 E2 Y2 E3 P3 D3 n r Z w (smp_of hf hle hPD) (cmp_of (compareQ_good (frac2_of va vf))) (cmp_of (compareQ_good (frac2_of vf vb))) (le_not_pos l1) (le_not_pos l2) (decide_eq_false (by omega))
      (fun W => divisor_one P D W P0 P1 D0 (by omega) fun g x y h1 h2 h3 => cop g x y h1 h2 h3) T t0 t1 (smp_of (frac2_of va va) (by omega) hPD') C4 C5 C6 L
end Go.Proofs.Ytdnppmncmnmckaa
