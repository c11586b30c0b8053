/-
  UnitsTables: the walk.
-/
import Derived.Test.YtckapcfofkeicaaTbV
namespace Go.Proofs.Ytckapcfofkeicaa
set_option linter.unusedSimpArgs false
set_option linter.unusedVariables false
open Go.RowKit Go.ChangeShapes Go.WideShapes Go.ChangeAt Go.Joins

theorem knotCells : Try.prog.cellsOf 64 = 2 := by kernel_rfl
set_option maxRecDepth 100000 in
/-- A table that came in. -/
theorem open_knotsS {H : Type} {enc : TypeId × Value → H} {w : World} {b0 : Nat} {r : Reach} {v : Value} {d : DataW H} {p : List MemPlace}
    (hv : Value.okWide Try.prog w r b0 59 v) (h : DataW.Trod enc Try.prog w 0 (fun _ => true) true 59 v d p) :
    ∃ (a : Option Addr) (n cap : Nat) (zs : List (Int × Int)), v = .slice a n cap ∧ n = zs.length ∧ (zs.length ≤ maxLen ∧ (a = none → cap = 0 ∧ zs = [])) ∧ IsPairs w a zs ∧ Wide zs := by
  obtain ⟨a, len, cap, rfl⟩ := okWide_slice Try.underlying59 hv
  obtain ⟨fuel, hf⟩ := h
  rcases Go.Deep.open_slice_pairs Try.underlying59 Try.underlying64 knotCells rfl rfl (by kernel_rfl) (by kernel_rfl) hf with ⟨hcs, _⟩ | ⟨x, l, c, m, n, V0, V1, D0, D1, P0, P1, hcs, _, hl, hm, hmm, _, hx⟩
  · simp [Value.cells] at hcs
    obtain ⟨rfl, rfl, rfl⟩ := hcs
    exact ⟨none, 0, 0, [], rfl, rfl, ⟨by simp, fun _ => ⟨rfl, rfl⟩⟩, .inl rfl, fun i hi => by simp at hi⟩
  · simp [Value.cells] at hcs
    obtain ⟨rfl, rfl, rfl⟩ := hcs
    have hlm : len ≤ m := by rw [hmm]; simp; omega
    have num : ∀ i, i < m → ∃ q : Int × Int, (V0 i = .int .i64 q.1 ∧ V1 i = .int .i64 q.2) ∧ (-9223372036854775808 ≤ q.1 ∧ q.1 ≤ 9223372036854775807) ∧ -9223372036854775808 ≤ q.2 ∧ q.2 ≤ 9223372036854775807 := by
      intro i hi
      obtain ⟨_, _, t0, t1⟩ := hx i hi
      obtain ⟨n0, e0, _, w0⟩ := DataW.trod_int Try.underlying3 t0
      obtain ⟨n1, e1, _, w1⟩ := DataW.trod_int Try.underlying3 t1
      simp at e0 e1
      exact ⟨(n0, n1), ⟨e0, e1⟩, bounds_i64 w0, bounds_i64 w1⟩
    have pick : ∃ f : Nat → Int × Int, ∀ i, i < m → (V0 i = .int .i64 (f i).1 ∧ V1 i = .int .i64 (f i).2) ∧ (-9223372036854775808 ≤ (f i).1 ∧ (f i).1 ≤ 9223372036854775807) ∧ -9223372036854775808 ≤ (f i).2 ∧ (f i).2 ≤ 9223372036854775807 := by
      refine ⟨fun i => if hi : i < m then Classical.choose (num i hi) else (0, 0), fun i hi => ?_⟩
      simp only [hi, dif_pos]
      exact Classical.choose_spec (num i hi)
    obtain ⟨f, hfp⟩ := pick
    have hlen : ((List.range len).map f).length = len := by simp
    have hg : ∀ i, i < len → ((List.range len).map f).getD i (0, 0) = f i := fun i hi => by
      rw [List.getD_eq_getElem?_getD, List.getElem?_map, List.getElem?_range hi]; rfl
    refine ⟨some x, len, cap, (List.range len).map f, rfl, hlen.symm, ⟨by rw [hlen]; omega, fun h => by cases h⟩, ?_, ?_⟩
    · by_cases h0 : len = 0
      · left; subst h0; simp
      · obtain ⟨b, off, spot⟩ := x
        have hc := (hx 0 (by omega)).1
        have hspot : spot = none := by simpa [Addr.add] using World.cell?_spot hc
        subst hspot
        refine .inr ⟨b, off, rfl, fun i hi => ?_⟩
        rw [hlen] at hi
        obtain ⟨q0, q1, _, _⟩ := hx i (by omega)
        obtain ⟨v0, v1⟩ := (hfp i (by omega)).1
        have hadd : ∀ j, (⟨b, off, none⟩ : Addr).add j = ⟨b, off + j, none⟩ := by
          intro j
          by_cases hz : j = 0
          · subst hz; simp [Addr.add]
          · simp [Addr.add, hz]
        rw [hadd, v0] at q0
        rw [hadd, v1, ← Nat.add_assoc] at q1
        rw [hg i hi]
        exact ⟨q0, q1⟩
    · intro i hi
      rw [hlen] at hi
      unfold kX kY
      rw [hg i hi]
      exact (hfp i (by omega)).2

set_option maxRecDepth 100000 in
set_option maxHeartbeats 3200000 in
theorem tables_long (ks : List (Int × Int)) (a : Option Addr) (cap : Nat) (lo hi : Int) (w : World) (hm : ks.length ≤ maxLen) (hl : 70 < ks.length) :
    Calls Try.prog 10 #[.slice a ks.length cap, .agg #[.int .i64 lo, .int .i64 hi]] w fun e w' => e = .returned (.bool true) ∧ Below w.heap.size w w' := by
  have d1 : decide (70 < (ks.length : Int)) = true := decide_eq_true (by omega)
  unfold maxLen at hm
  go_enter Try.func10, Try.ntmps10
  go_wp2_with fail
  refine (known_any _).mono ?_
  rintro e w1 ⟨rfl, hb1⟩
  go_wp2_with fail
  go_ret
  exact ⟨rfl, (by repeat (first | exact Below.refl _ _ | assumption | apply balloc | apply bdrew | (refine bset ?_ (by first | (simp; done) | omega | (simp; omega)) _) | (refine bnext ?_ (by assumption))))⟩

/-- What lies there behind both calls of Value. -/
def TbS (w : World) (m n : Nat) (X Y : Int) (ks : List (Int × Int)) (a b : Option Addr) (wx : World) : Prop :=
  ((wx.cell? ⟨m, 0, none⟩ = some (.int .i64 X) ∧ wx.cell? ⟨m, 1, none⟩ = some (.int .i64 Y)) ∧ wx.cell? ⟨n, 0, none⟩ = some (.int .i64 X) ∧ wx.cell? ⟨n, 1, none⟩ = some (.int .i64 Y)) ∧ IsPairs wx b ks ∧ IsPairs wx a ks ∧ Below w.heap.size w wx
theorem TbS.next {w W W' : World} {m n : Nat} {X Y : Int} {ks : List (Int × Int)} {a b : Option Addr} (h : TbS w m n X Y ks a b W) (hb : Below W.heap.size W W') : TbS w m n X Y ks a b W' := by
  obtain ⟨⟨⟨h1, h2⟩, h3, h4⟩, h5, h6, h7⟩ := h
  exact ⟨⟨⟨later hb h1, later hb h2⟩, later hb h3, later hb h4⟩, pairs_later h5 hb, pairs_later h6 hb, bnext h7 hb⟩
def ChC (ks : List (Int × Int)) (E : Int) : Prop := ∀ a cap W, IsPairs W a ks → Calls Try.prog 49 #[.slice a ks.length cap] W fun e w' => e = .returned (.int .i64 E) ∧ Below W.heap.size W w'
def VaC (ks : List (Int × Int)) (lo hi X Y E : Int) : Prop := ∀ a cap W, IsPairs W a ks → Calls Try.prog 50 #[.slice a ks.length cap, .agg #[.int .i64 lo, .int .i64 hi]] W fun e w' => TbP X Y E W e w'
def RvC (ks : List (Int × Int)) (lo hi X Y E : Int) : Prop := ∀ a cap W, IsPairs W a ks → Calls Try.prog 51 #[.slice a ks.length cap, .agg #[.int .i64 lo, .int .i64 hi]] W fun e w' => TbP X Y E W e w'

set_option maxRecDepth 100000 in
set_option maxHeartbeats 3200000 in
theorem tables_go (ks : List (Int × Int)) (a : Option Addr) (cap : Nat) (lo hi E X Y F : Int) (T : Bool) (w : World) (hl : ks.length ≤ 70) (ha : Hid (a = none → cap = 0 ∧ ks = [])) (h : Hid (IsPairs w a ks))
    (C : Hid (ChC ks E)) (V : Hid (VaC ks lo hi X Y F)) (R : Hid (RvC ks lo hi X Y F)) (hT : Hid (TbC ks T)) (hE : (T = true ∧ E = 0) ∨ (T = false ∧ E = 2)) :
    Calls Try.prog 10 #[.slice a ks.length cap, .agg #[.int .i64 lo, .int .i64 hi]] w fun e w' => e = .returned (.bool true) ∧ Below w.heap.size w w' := by
  have d1 : decide (70 < (ks.length : Int)) = false := decide_eq_false (by omega)
  have HE := hide hE
  clear hE
  go_enter Try.func10, Try.ntmps10
  go_wp2_with fail
  refine (ownKnots_any a cap ks _ (by omega) ha.out (pairs_later h.out (by repeat (first | exact Below.refl _ _ | assumption | apply balloc | apply bdrew | (refine bset ?_ (by first | (simp; done) | omega | (simp; omega)) _) | (refine bnext ?_ (by assumption)))))).mono ?_
  rintro e w1 ⟨b1, c1, rfl, _, hi1, hb1⟩
  have p0 := later hb1 (a := ⟨w.heap.size, 0, none⟩) (v := .int .i64 lo) (by simp [go_sem, World.cell?_alloc_past])
  have p1 := later hb1 (a := ⟨w.heap.size, 1, none⟩) (v := .int .i64 hi) (by simp [go_sem, World.cell?_alloc_past])
  have B1 := hide (show Below w.heap.size w w1 from (by repeat (first | exact Below.refl _ _ | assumption | apply balloc | apply bdrew | (refine bset ?_ (by first | (simp; done) | omega | (simp; omega)) _) | (refine bnext ?_ (by assumption)))))
  have I1 := hide hi1
  clear hi1 hb1
  go_wp2_with fail
  refine (C.out _ _ _ I1.out).mono ?_
  rintro e w2 ⟨rfl, hb2⟩
  have q0 := later hb2 p0
  have q1 := later hb2 p1
  have B2 := hide (bnext B1.out hb2)
  have I2 := hide (pairs_later I1.out hb2)
  clear p0 p1 hb2 B1 I1
  go_wp2_with fail
  refine (V.out _ _ _ I2.out).mono ?_
  rintro e w3 ⟨rfl, hb3⟩
  have p0 := fun o => later (balloc (o := o) (Below.refl _ _)) (later hb3 q0)
  have p1 := fun o => later (balloc (o := o) (Below.refl _ _)) (later hb3 q1)
  have B3 := hide (fun o => (balloc (o := o) (bnext B2.out hb3)))
  have I3 := hide (fun o => pairs_later I2.out (balloc (o := o) hb3))
  clear q0 q1 hb3 B2 I2
  go_wp2_with fail
  refine (R.out _ _ _ (pairs_later h.out (B3.out _))).mono ?_
  rintro e w4 ⟨rfl, hb4⟩
  have x0 := fun o => later (balloc (o := o) (Below.refl _ _)) (later hb4 (a := ⟨w3.heap.size, 0, none⟩) (v := .int .i64 X) (by simp [go_sem, World.cell?_alloc_past]))
  have x1 := fun o => later (balloc (o := o) (Below.refl _ _)) (later hb4 (a := ⟨w3.heap.size, 1, none⟩) (v := .int .i64 Y) (by simp [go_sem, World.cell?_alloc_past]))
  have B4 := hide (fun o => (balloc (o := o) (bnext (B3.out _) hb4)))
  have I4 := hide (fun o => pairs_later (I3.out _) (balloc (o := o) hb4))
  clear p0 p1 hb4
  go_wp2_with fail
  go_loopw [11] (fun i wr => ∃ k : Nat, k ≤ ks.length ∧ i = .int .i64 (k : Int) ∧ TbS w w3.heap.size w4.heap.size X Y ks a b1 wr) (fun i _ => ks.length - (intOf i).toNat)
  case atStart => exact ⟨0, by omega, rfl, ⟨⟨x0 _, x1 _⟩, (by simp [go_sem, World.cell?_alloc_past]), (by simp [go_sem, World.cell?_alloc_past])⟩, I4.out _, pairs_later h.out (B4.out _), B4.out _⟩
  case round =>
    obtain ⟨k, hk, rfl, hs⟩ := hrel
    have HS := hide hs
    clear hs x0 x1 B4 I4
    by_cases hlt : k < ks.length
    · obtain ⟨b, off, rfl, hc⟩ : ∃ b off, a = some ⟨b, off, none⟩ ∧ ∀ i, i < ks.length → wr.cell? ⟨b, off + i * 2, none⟩ = some (.int .i64 (kX ks i)) ∧ wr.cell? ⟨b, off + i * 2 + 1, none⟩ = some (.int .i64 (kY ks i)) := by
        rcases HS.out.2.2.1 with h | h
        · subst h; simp at hlt
        · exact h
      obtain ⟨b2, off2, rfl, hc2⟩ : ∃ b off, b1 = some ⟨b, off, none⟩ ∧ ∀ i, i < ks.length → wr.cell? ⟨b, off + i * 2, none⟩ = some (.int .i64 (kX ks i)) ∧ wr.cell? ⟨b, off + i * 2 + 1, none⟩ = some (.int .i64 (kY ks i)) := by
        rcases HS.out.2.1 with h | h
        · subst h; simp at hlt
        · exact h
      obtain ⟨c1, c2⟩ := hc k hlt
      obtain ⟨c3, c4⟩ := hc2 k hlt
      clear hc hc2
      have hk00 : 0 ≤ (k : Int) := by omega
      have hkl0 : (k : Int) < (ks.length : Int) := by omega
      generalize kX ks k = x at *
      generalize kY ks k = y at *
      go_wp2_with fail
      go_quiet (fail)
      go_wp2_with fail
      go_roundw
      case rel => exact ⟨k + 1, by omega, by go_num, HS.out.next (below_drewN (Below.refl _ _) _)⟩
      case measure => simp [intOf]; omega
    · obtain rfl : k = ks.length := by omega
      rcases HE.out with ⟨rfl, rfl⟩ | ⟨rfl, rfl⟩
      all_goals
        go_wp2_with fail
        refine (hT.out _ _ _ HS.out.2.2.1).mono ?_
        rintro e w5 ⟨rfl, hb5⟩
        have N := hide (HS.out.next hb5)
        have x0 := N.out.1.1.1
        have x1 := N.out.1.1.2
        have y0 := N.out.1.2.1
        have y1 := N.out.1.2.2
        have BB := N.out.2.2.2
        clear hb5
        go_wp2_with fail
        refine (known_any _).mono ?_
        rintro e w6 ⟨rfl, hb6⟩
        go_wp2_with fail
        go_ret
        exact ⟨rfl, (by repeat (first | exact Below.refl _ _ | assumption | apply balloc | apply bdrew | (refine bset ?_ (by first | (simp; done) | omega | (simp; omega)) _) | (refine bnext ?_ (by assumption))))⟩

/-- The walk of UnitsTables. -/
theorem unitsTables_walk (ks : List (Int × Int)) (a : Option Addr) (cap : Nat) (lo hi : Int) (w : World) (hl : ks.length ≤ maxLen ∧ (a = none → cap = 0 ∧ ks = [])) (h : IsPairs w a ks) (hw : Wide ks) :
    Calls Try.prog 10 #[.slice a ks.length cap, .agg #[.int .i64 lo, .int .i64 hi]] w fun e w' => e = .returned (.bool true) ∧ Below w.heap.size w w' := by
  by_cases hlen : 70 < ks.length
  · exact tables_long ks a cap lo hi w hl.1 hlen
  · refine tables_go ks a cap lo hi (if tabOk ks = true then 0 else 2) (valueQ ks lo hi).1 (valueQ ks lo hi).2.1 (valueQ ks lo hi).2.2 (tabOk ks) w (by omega) hl.2 h (fun a cap W hi => checkTable_any ks a cap W (by omega) hi) (fun a cap W hp => value_any ks a cap lo hi W (by omega) hp) (fun a cap W hp => refValue_any ks a cap lo hi W (by omega) hw hp)
      (fun a cap W hp => refTable_any ks a cap W (by omega) hw hp) ?_
    cases tabOk ks with
    | true => exact .inl ⟨rfl, if_pos rfl⟩
    | false => exact .inr ⟨rfl, if_neg (by simp)⟩
end Go.Proofs.Ytckapcfofkeicaa
