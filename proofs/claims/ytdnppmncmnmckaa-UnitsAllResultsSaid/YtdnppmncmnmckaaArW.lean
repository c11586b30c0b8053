/-
  UnitsAllResults: the walk.
-/
import Derived.Test.YtdnppmncmnmckaaAll
import Derived.BigRegion
import Derived.Test.YtdnppmncmnmckaaFrameE
namespace Go.Proofs.Ytdnppmncmnmckaa
set_option linter.unusedSimpArgs false
set_option linter.unusedVariables false
open Go.RowKit

theorem valid2 {A1 A2 B1 B2 : Int} (h : [(A1, A2), (B1, B2)].all rangeOk = true) : (-1000000000000000 ≤ A1 ∧ A1 ≤ A2 ∧ A2 ≤ 1000000000000000) ∧ -1000000000000000 ≤ B1 ∧ B1 ≤ B2 ∧ B2 ≤ 1000000000000000 := by
  simp [rangeOk, allIn] at h; omega
theorem less_ok {A1 A2 B1 B2 X Y : Int} (h : lessQ A1 A2 B1 B2 = (X, Y, 0)) : (-1000000000000000 ≤ A1 ∧ A1 ≤ A2 ∧ A2 ≤ 1000000000000000) ∧ -1000000000000000 ≤ B1 ∧ B1 ≤ B2 ∧ B2 ≤ 1000000000000000 := by
  unfold lessQ at h
  cases h1 : [(A1, A2), (B1, B2)].all rangeOk with
  | false => rw [h1, if_pos rfl] at h; simp at h
  | true => exact valid2 h1
theorem times_ok {A1 A2 B1 B2 c X Y : Int} (h : timesQ A1 A2 B1 B2 c = (X, Y, 0)) : (-1000000000000000 ≤ A1 ∧ A1 ≤ A2 ∧ A2 ≤ 1000000000000000) ∧ -1000000000000000 ≤ B1 ∧ B1 ≤ B2 ∧ B2 ≤ 1000000000000000 := by
  unfold timesQ at h
  cases h1 : [(A1, A2), (B1, B2)].all rangeOk with
  | false => rw [h1, if_pos rfl] at h; simp at h
  | true => exact valid2 h1
theorem over_ok {A1 A2 B1 B2 c X Y : Int} (h : overQ A1 A2 B1 B2 c = (X, Y, 0)) : (-1000000000000000 ≤ A1 ∧ A1 ≤ A2 ∧ A2 ≤ 1000000000000000) ∧ -1000000000000000 ≤ B1 ∧ B1 ≤ B2 ∧ B2 ≤ 1000000000000000 := by
  unfold overQ at h
  cases h1 : [(A1, A2), (B1, B2)].all rangeOk with
  | false => rw [h1, if_pos rfl] at h; simp at h
  | true => exact valid2 h1
theorem scale_ok {A1 A2 nu de X Y : Int} (h : scaleQ A1 A2 nu de = (X, Y, 0)) : -1000000000000000 ≤ A1 ∧ A1 ≤ A2 ∧ A2 ≤ 1000000000000000 := by
  unfold scaleQ at h
  cases h1 : rangeOk (A1, A2) with
  | false => rw [h1, if_pos rfl] at h; simp at h
  | true => simp [rangeOk, allIn] at h1; omega

def Lss (al ah bl bh X Y E : Int) : Prop := ∀ w, Calls Try.prog 38 #[.agg #[.int .i64 al, .int .i64 ah], .agg #[.int .i64 bl, .int .i64 bh]] w fun e w' => e = .returned (.tuple #[.agg #[.int .i64 X, .int .i64 Y], .int .i64 E]) ∧ Below w.heap.size w w'
def Tms (al ah bl bh c X Y E : Int) : Prop := ∀ w, Calls Try.prog 39 #[.agg #[.int .i64 al, .int .i64 ah], .agg #[.int .i64 bl, .int .i64 bh], .int .i64 c] w fun e w' => e = .returned (.tuple #[.agg #[.int .i64 X, .int .i64 Y], .int .i64 E]) ∧ Below w.heap.size w w'
def Ovr (al ah bl bh c X Y E : Int) : Prop := ∀ w, Calls Try.prog 40 #[.agg #[.int .i64 al, .int .i64 ah], .agg #[.int .i64 bl, .int .i64 bh], .int .i64 c] w fun e w' => e = .returned (.tuple #[.agg #[.int .i64 X, .int .i64 Y], .int .i64 E]) ∧ Below w.heap.size w w'
def Scl (al ah n d X Y E : Int) : Prop := ∀ w, Calls Try.prog 44 #[.agg #[.int .i64 al, .int .i64 ah], .agg #[.int .i64 n, .int .i64 d]] w fun e w' => e = .returned (.tuple #[.agg #[.int .i64 X, .int .i64 Y], .int .i64 E]) ∧ Below w.heap.size w w'
def Ins (al ah bl bh : Int) (k : Bool) : Prop := ∀ w, Calls Try.prog 63 #[.agg #[.int .i64 al, .int .i64 ah], .agg #[.int .i64 bl, .int .i64 bh]] w fun e w' => e = .returned (.bool k) ∧ Below w.heap.size w w'
def Mdv (a b c how n r E : Int) : Prop := ∀ w, Calls Try.prog 20 #[.int .i64 a, .int .i64 b, .int .i64 c, .int .u8 how] w fun e w' => e = .returned (.tuple #[.int .i64 n, .int .i64 r, .int .i64 E]) ∧ Below w.heap.size w w'

/-- The cells of the span, and of the two parts. -/
def ArAt (w : World) (p q : Nat) (A1 A2 B1 B2 U Fn Fd al ah bl bh : Int) (wx : World) : Prop :=
  ((wx.cell? ⟨w.heap.size, 0, none⟩ = some (.int .i64 A1) ∧ wx.cell? ⟨w.heap.size, 1, none⟩ = some (.int .i64 A2)) ∧ (wx.cell? ⟨w.heap.size, 2, none⟩ = some (.int .i64 B1) ∧ wx.cell? ⟨w.heap.size, 3, none⟩ = some (.int .i64 B2)) ∧
    wx.cell? ⟨w.heap.size, 4, none⟩ = some (.int .i64 U) ∧ wx.cell? ⟨w.heap.size, 5, none⟩ = some (.int .i64 Fn) ∧ wx.cell? ⟨w.heap.size, 6, none⟩ = some (.int .i64 Fd)) ∧
  ((wx.cell? ⟨p, 0, none⟩ = some (.int .i64 al) ∧ wx.cell? ⟨p, 1, none⟩ = some (.int .i64 ah)) ∧ wx.cell? ⟨q, 0, none⟩ = some (.int .i64 bl) ∧ wx.cell? ⟨q, 1, none⟩ = some (.int .i64 bh)) ∧ Below w.heap.size w wx
theorem ArAt.next {w W W' : World} {p q : Nat} {A1 A2 B1 B2 U Fn Fd al ah bl bh : Int} (h : ArAt w p q A1 A2 B1 B2 U Fn Fd al ah bl bh W) (hb : Below W.heap.size W W') : ArAt w p q A1 A2 B1 B2 U Fn Fd al ah bl bh W' := by
  obtain ⟨⟨⟨h1, h2⟩, ⟨h3, h4⟩, h5, h6, h7⟩, ⟨⟨h8, h9⟩, h10, h11⟩, h12⟩ := h
  exact ⟨⟨⟨later hb h1, later hb h2⟩, ⟨later hb h3, later hb h4⟩, later hb h5, later hb h6, later hb h7⟩, ⟨⟨later hb h8, later hb h9⟩, later hb h10, later hb h11⟩, bnext h12 hb⟩

theorem set_self {w : World} {b o : Nat} {v : Value} (h : (w.cell? ⟨b, o, none⟩).isSome = true) : (w.setCell ⟨b, o, none⟩ v).cell? ⟨b, o, none⟩ = some v := by
  obtain ⟨u, hu⟩ := Option.isSome_iff_exists.1 h
  simp [go_sem, hu]
theorem ar_mk {w w0 W : World} {p q : Nat} {A1 A2 B1 B2 U Fn Fd al ah bl bh : Int} {E : World → Prop}
    (KP : ∀ W, Below w0.heap.size w0 W → (((W.cell? ⟨w.heap.size, 0, none⟩ = some (.int .i64 A1) ∧ W.cell? ⟨w.heap.size, 1, none⟩ = some (.int .i64 A2)) ∧ (W.cell? ⟨w.heap.size, 2, none⟩ = some (.int .i64 B1) ∧ W.cell? ⟨w.heap.size, 3, none⟩ = some (.int .i64 B2))) ∧ E W) ∧ Below w0.heap.size w0 W)
    (hb : Below w0.heap.size w0 W) (B0 : Below w.heap.size w w0)
    (C : w0.cell? ⟨w.heap.size, 4, none⟩ = some (.int .i64 U) ∧ w0.cell? ⟨w.heap.size, 5, none⟩ = some (.int .i64 Fn) ∧ w0.cell? ⟨w.heap.size, 6, none⟩ = some (.int .i64 Fd))
    (N : (W.cell? ⟨p, 0, none⟩ = some (.int .i64 al) ∧ W.cell? ⟨p, 1, none⟩ = some (.int .i64 ah)) ∧ W.cell? ⟨q, 0, none⟩ = some (.int .i64 bl) ∧ W.cell? ⟨q, 1, none⟩ = some (.int .i64 bh)) : ArAt w p q A1 A2 B1 B2 U Fn Fd al ah bl bh W :=
  have K := (KP W hb).1.1
  ⟨⟨K.1, K.2, later hb C.1, later hb C.2.1, later hb C.2.2⟩, N, bnext B0 hb⟩
/-- What lay there before a call reads as before, behind the call and behind up to two new objects. -/
theorem bcell {W w1 : World} (hb : Below W.heap.size W w1) : ((∀ b o, b < W.heap.size → w1.cell? ⟨b, o, none⟩ = W.cell? ⟨b, o, none⟩) ∧ (∀ b o, b < W.heap.size → w1.frozen? ⟨b, o, none⟩ = W.frozen? ⟨b, o, none⟩)) ∧
    ((∀ b o x, b < W.heap.size → (w1.alloc x).cell? ⟨b, o, none⟩ = W.cell? ⟨b, o, none⟩) ∧ (∀ b o x, b < W.heap.size → (w1.alloc x).frozen? ⟨b, o, none⟩ = W.frozen? ⟨b, o, none⟩)) ∧
    (∀ b o x y, b < W.heap.size → ((w1.alloc x).alloc y).cell? ⟨b, o, none⟩ = W.cell? ⟨b, o, none⟩) ∧ (∀ b o x y, b < W.heap.size → ((w1.alloc x).alloc y).frozen? ⟨b, o, none⟩ = W.frozen? ⟨b, o, none⟩) ∧
    ((∀ b, b < W.heap.size → ¬ b = w1.heap.size) ∧ (∀ b, b < W.heap.size → ¬ w1.heap.size = b) ∧ (∀ b, b < W.heap.size → ¬ b = w1.heap.size + 1) ∧ (∀ b, b < W.heap.size → ¬ w1.heap.size + 1 = b)) ∧ ((∀ b, b < W.heap.size → b < w1.heap.size) ∧ (∀ b, b < W.heap.size → b ≤ w1.heap.size) ∧ (∀ b, b < W.heap.size → b < w1.heap.size + 1) ∧ (∀ b, b < W.heap.size → b ≤ w1.heap.size + 1) ∧ (∀ b, b < W.heap.size → b < w1.heap.size + 1 + 1)) ∧ W.heap.size ≤ w1.heap.size :=
  ⟨⟨fun b o h => hb.cell (p := ⟨b, o, none⟩) h, fun b o h => hb.frozen (p := ⟨b, o, none⟩) h⟩,
    ⟨fun b o x h => (balloc hb).cell (p := ⟨b, o, none⟩) h, fun b o x h => (balloc hb).frozen (p := ⟨b, o, none⟩) h⟩,
    fun b o x y h => (balloc (balloc hb)).cell (p := ⟨b, o, none⟩) h, fun b o x y h => (balloc (balloc hb)).frozen (p := ⟨b, o, none⟩) h,
    ⟨fun b h => by have := hb.size; omega, fun b h => by have := hb.size; omega, fun b h => by have := hb.size; omega, fun b h => by have := hb.size; omega⟩, ⟨fun b h => by have := hb.size; omega, fun b h => by have := hb.size; omega, fun b h => by have := hb.size; omega, fun b h => by have := hb.size; omega, fun b h => by have := hb.size; omega⟩, hb.size⟩

set_option maxRecDepth 100000 in
set_option maxHeartbeats 6400000 in
theorem ar_start (A1 A2 B1 B2 U Fn Fd i1 i2 j1 j2 how al ah bl bh : Int) (X1 Y1 E1 X2 Y2 E2 x2 y2 n2 r2 X3 Y3 E3 x3 y3 n3 r3 X4 Y4 E4 x4 y4 n4 r4 : Int) (w : World) (i10 : 0 ≤ i1) (i11 : i1 ≤ 65535) (i20 : 0 ≤ i2) (i21 : i2 ≤ 65535) (j10 : 0 ≤ j1) (j11 : j1 ≤ 65535) (j20 : 0 ≤ j2) (j21 : j2 ≤ 65535) (how0 : 0 ≤ how) (how1 : how ≤ 255)
    (HA : Hid (partQ A1 A2 i1 i2 = (al, ah))) (HB : Hid (partQ B1 B2 j1 j2 = (bl, bh)))
    (T1 : Hid (Lss A1 A2 B1 B2 X1 Y1 E1)) (G1 : Hid ((E1 == 0) = false ∨ (E1 = 0 ∧ ((-1000000000000000 ≤ al ∧ al ≤ 1000000000000000) ∧ (-1000000000000000 ≤ ah ∧ ah ≤ 1000000000000000) ∧ (-1000000000000000 ≤ bl ∧ bl ≤ 1000000000000000) ∧ (-1000000000000000 ≤ bh ∧ bh ≤ 1000000000000000)) ∧ Hid (Lss al ah bl bh (al - bh) (ah - bl) 0) ∧ Hid (Ins (al - bh) (ah - bl) X1 Y1 true))))
    (T2 : Hid (Tms A1 A2 B1 B2 U X2 Y2 E2)) (G2 : Hid ((E2 == 0) = false ∨ (E2 = 0 ∧ Hid (Tms al ah bl bh U x2 y2 0) ∧ Hid (Ins x2 y2 X2 Y2 true) ∧ Hid (Mdv al bh U (1 + how % 3) n2 r2 0) ∧ decide (n2 < x2) = false ∧ decide (y2 < n2) = false)))
    (T3 : Hid (Ovr A1 A2 B1 B2 U X3 Y3 E3)) (G3 : Hid ((E3 == 0) = false ∨ (E3 = 0 ∧ Hid (Ovr al ah bl bh U x3 y3 0) ∧ Hid (Ins x3 y3 X3 Y3 true) ∧ Hid (Mdv ah U bh (1 + how % 3) n3 r3 0) ∧ decide (n3 < x3) = false ∧ decide (y3 < n3) = false)))
    (T4 : Hid (Scl A1 A2 Fn Fd X4 Y4 E4)) (G4 : Hid ((E4 == 0) = false ∨ (E4 = 0 ∧ Hid (Scl al ah Fn Fd x4 y4 0) ∧ Hid (Ins x4 y4 X4 Y4 true) ∧ Hid (Mdv al Fn Fd (1 + how % 3) n4 r4 0) ∧ decide (n4 < x4) = false ∧ decide (y4 < n4) = false))) :
    Calls Try.prog 17 #[.agg #[.int .i64 A1, .int .i64 A2, .int .i64 B1, .int .i64 B2, .int .i64 U, .int .i64 Fn, .int .i64 Fd], .agg #[.int .u16 i1, .int .u16 i2, .int .u16 j1, .int .u16 j2], .int .u8 how] w fun e w' => e = .returned (.bool true) ∧ Below w.heap.size w w' := by
  have P := hide fun (l h b c : Int) (W : World) (h0 : 0 ≤ b) (h1 : b ≤ 65535) (h2 : 0 ≤ c) (h3 : c ≤ 65535) => part_any l h b c W h0 h1 h2 h3
  go_enter Try.func17, Try.ntmps17
  go_upto_region 1 with fail
  go_cut [7, 8] from 9 (fun s7 s8 wx => ∃ p q : Nat, s7 = .pointer (some ⟨p, 0, none⟩) ∧ s8 = .pointer (some ⟨q, 0, none⟩) ∧ ArAt w p q A1 A2 B1 B2 U Fn Fd (partQ A1 A2 i1 i2).1 (partQ A1 A2 i1 i2).2 (partQ B1 B2 j1 j2).1 (partQ B1 B2 j1 j2).2 wx)
  case first => as_aux_lemma =>
    obtain ⟨w0, hw0⟩ : ∃ w0, w0 = ((w.alloc (.cells #[.int .i64 A1, .int .i64 A2, .int .i64 B1, .int .i64 B2, .int .i64 U, .int .i64 Fn, .int .i64 Fd] 84)).alloc (.cells #[.int .u16 i1, .int .u16 i2, .int .u16 j1, .int .u16 j2] 87)) := ⟨_, rfl⟩
    have c0 : w0.cell? ⟨w.heap.size, 0, none⟩ = some (.int .i64 A1) := by rw [hw0]; simp [go_sem, World.cell?_alloc_past]
    have c1 : w0.cell? ⟨w.heap.size, 1, none⟩ = some (.int .i64 A2) := by rw [hw0]; simp [go_sem, World.cell?_alloc_past]
    have c2 : w0.cell? ⟨w.heap.size, 2, none⟩ = some (.int .i64 B1) := by rw [hw0]; simp [go_sem, World.cell?_alloc_past]
    have c3 : w0.cell? ⟨w.heap.size, 3, none⟩ = some (.int .i64 B2) := by rw [hw0]; simp [go_sem, World.cell?_alloc_past]
    have c4 : w0.cell? ⟨w.heap.size, 4, none⟩ = some (.int .i64 U) := by rw [hw0]; simp [go_sem, World.cell?_alloc_past]
    have c5 : w0.cell? ⟨w.heap.size, 5, none⟩ = some (.int .i64 Fn) := by rw [hw0]; simp [go_sem, World.cell?_alloc_past]
    have c6 : w0.cell? ⟨w.heap.size, 6, none⟩ = some (.int .i64 Fd) := by rw [hw0]; simp [go_sem, World.cell?_alloc_past]
    have e0 : w0.cell? ⟨w.heap.size + 1, 0, none⟩ = some (.int .u16 i1) := by rw [hw0]; simp [go_sem, World.cell?_alloc_past]
    have e1 : w0.cell? ⟨w.heap.size + 1, 1, none⟩ = some (.int .u16 i2) := by rw [hw0]; simp [go_sem, World.cell?_alloc_past]
    have e2 : w0.cell? ⟨w.heap.size + 1, 2, none⟩ = some (.int .u16 j1) := by rw [hw0]; simp [go_sem, World.cell?_alloc_past]
    have e3 : w0.cell? ⟨w.heap.size + 1, 3, none⟩ = some (.int .u16 j2) := by rw [hw0]; simp [go_sem, World.cell?_alloc_past]
    have B0 := hide (show Below w.heap.size w w0 by rw [hw0]; exact (by repeat (first | exact Below.refl _ _ | assumption | apply balloc | apply bdrew | (refine bset ?_ (by first | (simp; done) | omega | (simp; omega)) _) | (refine bnext ?_ (by assumption)))))
    rw [← hw0]
    clear hw0
    have C := hide (show (w0.cell? ⟨w.heap.size, 4, none⟩ = some (.int .i64 U) ∧ w0.cell? ⟨w.heap.size, 5, none⟩ = some (.int .i64 Fn) ∧ w0.cell? ⟨w.heap.size, 6, none⟩ = some (.int .i64 Fd)) from ⟨c4, c5, c6⟩)
    have KP := hide (fun (W : World) (hb : Below w0.heap.size w0 W) => (show (((W.cell? ⟨w.heap.size, 0, none⟩ = some (.int .i64 A1) ∧ W.cell? ⟨w.heap.size, 1, none⟩ = some (.int .i64 A2)) ∧ (W.cell? ⟨w.heap.size, 2, none⟩ = some (.int .i64 B1) ∧ W.cell? ⟨w.heap.size, 3, none⟩ = some (.int .i64 B2))) ∧
        ((W.cell? ⟨w.heap.size + 1, 0, none⟩ = some (.int .u16 i1) ∧ W.cell? ⟨w.heap.size + 1, 1, none⟩ = some (.int .u16 i2)) ∧ W.cell? ⟨w.heap.size + 1, 2, none⟩ = some (.int .u16 j1) ∧ W.cell? ⟨w.heap.size + 1, 3, none⟩ = some (.int .u16 j2))) ∧ Below w0.heap.size w0 W from ⟨⟨⟨⟨later hb c0, later hb c1⟩, later hb c2, later hb c3⟩, ⟨later hb e0, later hb e1⟩, later hb e2, later hb e3⟩, hb⟩))
    clear c0 c1 c2 c3 c4 c5 c6 e0 e1 e2 e3
    go_region_held3 (fun w' => (((w'.cell? ⟨w.heap.size, 0, none⟩ = some (.int .i64 A1) ∧ w'.cell? ⟨w.heap.size, 1, none⟩ = some (.int .i64 A2)) ∧ (w'.cell? ⟨w.heap.size, 2, none⟩ = some (.int .i64 B1) ∧ w'.cell? ⟨w.heap.size, 3, none⟩ = some (.int .i64 B2))) ∧
        ((w'.cell? ⟨w.heap.size + 1, 0, none⟩ = some (.int .u16 i1) ∧ w'.cell? ⟨w.heap.size + 1, 1, none⟩ = some (.int .u16 i2)) ∧ w'.cell? ⟨w.heap.size + 1, 2, none⟩ = some (.int .u16 j1) ∧ w'.cell? ⟨w.heap.size + 1, 3, none⟩ = some (.int .u16 j2))) ∧ Below w0.heap.size w0 w')
      ((go_split_ands; refine KP.out _ ?_; exact (by repeat (first | exact Below.refl _ _ | assumption | apply balloc | apply bdrew | (refine bset ?_ (by first | (simp; done) | omega | (simp; omega)) _) | (refine bnext ?_ (by assumption))))))
      (first | (go_at_call 62; refine (P.out _ _ _ _ _ (by assumption) (by assumption) (by assumption) (by assumption)).mono ?_; first | (have hq := hbA; clear hq; rintro e wB ⟨rfl, hbB⟩; obtain ⟨⟨hcB, hfB⟩, ⟨hcB2, hfB2⟩, hcB3, hfB3, ⟨hnB1, hnB2, hnB3, hnB4⟩, ⟨hlB1, hlB2, hlB3, hlB4, hlB5⟩, hsB⟩ := bcell hbB; (try simp at hsB); (try have zB1 := hcB w0.heap.size 0 (by first | (simp; done) | omega | (simp; omega))); (try have zB2 := hfB w0.heap.size 0 (by first | (simp; done) | omega | (simp; omega))); (try have zB3 := hcB w0.heap.size 1 (by first | (simp; done) | omega | (simp; omega))); (try have zB4 := hfB w0.heap.size 1 (by first | (simp; done) | omega | (simp; omega))); (try have zB5 := hcB (w0.heap.size + 1) 0 (by first | (simp; done) | omega | (simp; omega))); (try have zB6 := hfB (w0.heap.size + 1) 0 (by first | (simp; done) | omega | (simp; omega))); (try have zB7 := hcB (w0.heap.size + 1) 1 (by first | (simp; done) | omega | (simp; omega))); (try have zB8 := hfB (w0.heap.size + 1) 1 (by first | (simp; done) | omega | (simp; omega)))) | (rintro e wA ⟨rfl, hbA⟩; obtain ⟨⟨hcA, hfA⟩, ⟨hcA2, hfA2⟩, hcA3, hfA3, ⟨hnA1, hnA2, hnA3, hnA4⟩, ⟨hlA1, hlA2, hlA3, hlA4, hlA5⟩, hsA⟩ := bcell hbA; (try simp at hsA); (try have zA1 := hcA w0.heap.size 0 (by first | (simp; done) | omega | (simp; omega))); (try have zA2 := hfA w0.heap.size 0 (by first | (simp; done) | omega | (simp; omega))); (try have zA3 := hcA w0.heap.size 1 (by first | (simp; done) | omega | (simp; omega))); (try have zA4 := hfA w0.heap.size 1 (by first | (simp; done) | omega | (simp; omega))); (try have zA5 := hcA (w0.heap.size + 1) 0 (by first | (simp; done) | omega | (simp; omega))); (try have zA6 := hfA (w0.heap.size + 1) 0 (by first | (simp; done) | omega | (simp; omega))); (try have zA7 := hcA (w0.heap.size + 1) 1 (by first | (simp; done) | omega | (simp; omega))); (try have zA8 := hfA (w0.heap.size + 1) 1 (by first | (simp; done) | omega | (simp; omega))))))
    all_goals
      go_wp2_with fail
      go_meet
      refine ⟨_, _, rfl, rfl, ar_mk (w0 := w0) (E := fun W => ((W.cell? ⟨w.heap.size + 1, 0, none⟩ = some (.int .u16 i1) ∧ W.cell? ⟨w.heap.size + 1, 1, none⟩ = some (.int .u16 i2)) ∧ W.cell? ⟨w.heap.size + 1, 2, none⟩ = some (.int .u16 j1) ∧ W.cell? ⟨w.heap.size + 1, 3, none⟩ = some (.int .u16 j2))) KP.out ?_ B0.out C.out ⟨⟨?_, ?_⟩, ?_, ?_⟩⟩
      · exact (by repeat (first | exact Below.refl _ _ | exact hbA | exact hbB | apply balloc | apply bdrew | (refine bset ?_ (by first | (simp; done) | omega | (simp; omega)) _) | (refine bnext ?_ hbB) | (refine bnext ?_ hbA)))
      all_goals first | (simp [go_sem]; done) | (simp (maxDischargeDepth := 8) [go_sem, set_self, hcB, hfB, hcB2, hfB2, hcB3, hfB3, hnB1, hnB2, hnB3, hnB4, hlB1, hlB2, hlB3, hlB4, hlB5, hcA, hfA, hcA2, hfA2, hcA3, hfA3, hnA1, hnA2, hnA3, hnA4, hlA1, hlA2, hlA3, hlA4, hlA5]; done)
  case rest =>
    obtain ⟨p, q, rfl, rfl, hA⟩ := hcut
    rw [HA.out, HB.out] at hA
    have N0 := hide (show ArAt w p q A1 A2 B1 B2 U Fn Fd al ah bl bh wc from hA)
    clear hA P i10 i11 i20 i21 j10 j11 j20 j21 HA HB
    have c_A1 := N0.out.1.1.1
    have c_A2 := N0.out.1.1.2
    have c_B1 := N0.out.1.2.1.1
    have c_B2 := N0.out.1.2.1.2
    go_wp2_with fail
    refine (T1.out _).mono ?_
    rintro e w1 ⟨rfl, hb1⟩
    have N1 := hide (fun o => (N0.out.next hb1).next (balloc (o := o) (Below.refl _ _)))
    clear c_A1 c_A2 c_B1 c_B2 hb1 N0
    go_upto_if 57 with fail
    go_cut [] from 10 (fun wx => ArAt w p q A1 A2 B1 B2 U Fn Fd al ah bl bh wx)
    case first => as_aux_lemma =>
      rcases G1.out with h | ⟨rfl, bnd, T, I⟩
      · have h2 : ¬ E1 = 0 := by simpa using h
        go_wp2_with fail
        go_meet
        exact N1.out _
      · obtain ⟨⟨b1, b2⟩, ⟨b3, b4⟩, ⟨b5, b6⟩, b7, b8⟩ := bnd
        have c_al := fun o => (N1.out o).2.1.1.1
        have c_ah := fun o => (N1.out o).2.1.1.2
        have c_bl := fun o => (N1.out o).2.1.2.1
        have c_bh := fun o => (N1.out o).2.1.2.2
        go_wp2_with fail
        refine (T.out _).mono ?_
        rintro e w2 ⟨rfl, hb2⟩
        have x0 := fun o => later (balloc (o := o) (Below.refl _ _)) (later hb2 (a := ⟨w1.heap.size, 0, none⟩) (v := .int .i64 X1) (by simp [go_sem, World.cell?_alloc_past]))
        have x1 := fun o => later (balloc (o := o) (Below.refl _ _)) (later hb2 (a := ⟨w1.heap.size, 1, none⟩) (v := .int .i64 Y1) (by simp [go_sem, World.cell?_alloc_past]))
        have N2 := hide (fun o => ((N1.out _).next hb2).next (balloc (o := o) (Below.refl _ _)))
        clear c_al c_ah c_bl c_bh hb2 N1
        go_wp2_with fail
        refine (I.out _).mono ?_
        rintro e w3 ⟨rfl, hb3⟩
        have y0 := later hb3 (a := ⟨w2.heap.size, 0, none⟩) (v := .int .i64 (al - bh)) (by simp [go_sem, World.cell?_alloc_past])
        have y1 := later hb3 (a := ⟨w2.heap.size, 1, none⟩) (v := .int .i64 (ah - bl)) (by simp [go_sem, World.cell?_alloc_past])
        have N3 := hide ((N2.out _).next hb3)
        have c_al := N3.out.2.1.1.1
        have c_ah := N3.out.2.1.1.2
        have c_bl := N3.out.2.1.2.1
        have c_bh := N3.out.2.1.2.2
        clear hb3 N2 x0 x1
        go_wp2_with fail
        go_meet
        exact N3.out
    case rest =>
      have N0 := hide hcut
      clear hcut
      have c_A1 := N0.out.1.1.1
      have c_A2 := N0.out.1.1.2
      have c_B1 := N0.out.1.2.1.1
      have c_B2 := N0.out.1.2.1.2
      have c_U := N0.out.1.2.2.1
      go_wp2_with fail
      refine (T2.out _).mono ?_
      rintro e w1 ⟨rfl, hb1⟩
      have N1 := hide (fun o => (N0.out.next hb1).next (balloc (o := o) (Below.refl _ _)))
      clear c_A1 c_A2 c_B1 c_B2 c_U hb1 N0
      go_upto_if 103 with fail
      go_cut [] from 10 (fun wx => ArAt w p q A1 A2 B1 B2 U Fn Fd al ah bl bh wx)
      case first => as_aux_lemma =>
        rcases G2.out with h | ⟨rfl, T, I, M, d1, d2⟩
        · have h2 : ¬ E2 = 0 := by simpa using h
          go_wp2_with fail
          go_meet
          exact N1.out _
        · have c_al := fun o => (N1.out o).2.1.1.1
          have c_ah := fun o => (N1.out o).2.1.1.2
          have c_bl := fun o => (N1.out o).2.1.2.1
          have c_bh := fun o => (N1.out o).2.1.2.2
          have c_U := fun o => (N1.out o).1.2.2.1
          go_wp2_with fail
          refine (T.out _).mono ?_
          rintro e w2 ⟨rfl, hb2⟩
          have x0 := fun o => later (balloc (o := o) (Below.refl _ _)) (later hb2 (a := ⟨w1.heap.size, 0, none⟩) (v := .int .i64 X2) (by simp [go_sem, World.cell?_alloc_past]))
          have x1 := fun o => later (balloc (o := o) (Below.refl _ _)) (later hb2 (a := ⟨w1.heap.size, 1, none⟩) (v := .int .i64 Y2) (by simp [go_sem, World.cell?_alloc_past]))
          have N2 := hide (fun o => ((N1.out _).next hb2).next (balloc (o := o) (Below.refl _ _)))
          clear c_al c_ah c_bl c_bh c_U hb2 N1
          have c_al := fun o => (N2.out o).2.1.1.1
          have c_bh := fun o => (N2.out o).2.1.2.2
          have c_U := fun o => (N2.out o).1.2.2.1
          go_wp2_with fail
          refine (M.out _).mono ?_
          rintro e w3 ⟨rfl, hb3⟩
          have z0 := later hb3 (x0 _)
          have z1 := later hb3 (x1 _)
          have y0 := later hb3 (a := ⟨w2.heap.size, 0, none⟩) (v := .int .i64 x2) (by simp [go_sem, World.cell?_alloc_past])
          have y1 := later hb3 (a := ⟨w2.heap.size, 1, none⟩) (v := .int .i64 y2) (by simp [go_sem, World.cell?_alloc_past])
          have N3 := hide ((N2.out _).next hb3)
          clear c_al c_bh c_U hb3 N2 x0 x1
          go_wp2_with fail
          refine (I.out _).mono ?_
          rintro e w4 ⟨rfl, hb4⟩
          have v0 := later hb4 y0
          have v1 := later hb4 y1
          have N4 := hide (N3.out.next hb4)
          clear y0 y1 z0 z1 hb4 N3
          go_wp2_with fail
          go_meet
          exact N4.out
      case rest =>
        have N0 := hide hcut
        clear hcut
        have c_A1 := N0.out.1.1.1
        have c_A2 := N0.out.1.1.2
        have c_B1 := N0.out.1.2.1.1
        have c_B2 := N0.out.1.2.1.2
        have c_U := N0.out.1.2.2.1
        go_wp2_with fail
        refine (T3.out _).mono ?_
        rintro e w1 ⟨rfl, hb1⟩
        have N1 := hide (fun o => (N0.out.next hb1).next (balloc (o := o) (Below.refl _ _)))
        clear c_A1 c_A2 c_B1 c_B2 c_U hb1 N0
        go_upto_if 159 with fail
        go_cut [] from 10 (fun wx => ArAt w p q A1 A2 B1 B2 U Fn Fd al ah bl bh wx)
        case first => as_aux_lemma =>
          rcases G3.out with h | ⟨rfl, T, I, M, d1, d2⟩
          · have h2 : ¬ E3 = 0 := by simpa using h
            go_wp2_with fail
            go_meet
            exact N1.out _
          · have c_al := fun o => (N1.out o).2.1.1.1
            have c_ah := fun o => (N1.out o).2.1.1.2
            have c_bl := fun o => (N1.out o).2.1.2.1
            have c_bh := fun o => (N1.out o).2.1.2.2
            have c_U := fun o => (N1.out o).1.2.2.1
            go_wp2_with fail
            refine (T.out _).mono ?_
            rintro e w2 ⟨rfl, hb2⟩
            have x0 := fun o => later (balloc (o := o) (Below.refl _ _)) (later hb2 (a := ⟨w1.heap.size, 0, none⟩) (v := .int .i64 X3) (by simp [go_sem, World.cell?_alloc_past]))
            have x1 := fun o => later (balloc (o := o) (Below.refl _ _)) (later hb2 (a := ⟨w1.heap.size, 1, none⟩) (v := .int .i64 Y3) (by simp [go_sem, World.cell?_alloc_past]))
            have N2 := hide (fun o => ((N1.out _).next hb2).next (balloc (o := o) (Below.refl _ _)))
            clear c_al c_ah c_bl c_bh c_U hb2 N1
            have c_ah := fun o => (N2.out o).2.1.1.2
            have c_bh := fun o => (N2.out o).2.1.2.2
            have c_U := fun o => (N2.out o).1.2.2.1
            go_wp2_with fail
            refine (M.out _).mono ?_
            rintro e w3 ⟨rfl, hb3⟩
            have z0 := later hb3 (x0 _)
            have z1 := later hb3 (x1 _)
            have y0 := later hb3 (a := ⟨w2.heap.size, 0, none⟩) (v := .int .i64 x3) (by simp [go_sem, World.cell?_alloc_past])
            have y1 := later hb3 (a := ⟨w2.heap.size, 1, none⟩) (v := .int .i64 y3) (by simp [go_sem, World.cell?_alloc_past])
            have N3 := hide ((N2.out _).next hb3)
            clear c_ah c_bh c_U hb3 N2 x0 x1
            go_wp2_with fail
            refine (I.out _).mono ?_
            rintro e w4 ⟨rfl, hb4⟩
            have v0 := later hb4 y0
            have v1 := later hb4 y1
            have N4 := hide (N3.out.next hb4)
            clear y0 y1 z0 z1 hb4 N3
            go_wp2_with fail
            go_meet
            exact N4.out
        case rest =>
          have N0 := hide hcut
          clear hcut
          have c_A1 := N0.out.1.1.1
          have c_A2 := N0.out.1.1.2
          have c_Fn := N0.out.1.2.2.2.1
          have c_Fd := N0.out.1.2.2.2.2
          go_wp2_with fail
          refine (T4.out _).mono ?_
          rintro e w1 ⟨rfl, hb1⟩
          have N1 := hide (fun o => (N0.out.next hb1).next (balloc (o := o) (Below.refl _ _)))
          clear c_A1 c_A2 c_Fn c_Fd hb1 N0
          go_upto_if 213 with fail
          go_cut [] from 10 (fun wx => ArAt w p q A1 A2 B1 B2 U Fn Fd al ah bl bh wx)
          case first => as_aux_lemma =>
            rcases G4.out with h | ⟨rfl, T, I, M, d1, d2⟩
            · have h2 : ¬ E4 = 0 := by simpa using h
              go_wp2_with fail
              go_meet
              exact N1.out _
            · have c_al := fun o => (N1.out o).2.1.1.1
              have c_ah := fun o => (N1.out o).2.1.1.2
              have c_Fn := fun o => (N1.out o).1.2.2.2.1
              have c_Fd := fun o => (N1.out o).1.2.2.2.2
              go_wp2_with fail
              refine (T.out _).mono ?_
              rintro e w2 ⟨rfl, hb2⟩
              have x0 := fun o => later (balloc (o := o) (Below.refl _ _)) (later hb2 (a := ⟨w1.heap.size, 0, none⟩) (v := .int .i64 X4) (by simp [go_sem, World.cell?_alloc_past]))
              have x1 := fun o => later (balloc (o := o) (Below.refl _ _)) (later hb2 (a := ⟨w1.heap.size, 1, none⟩) (v := .int .i64 Y4) (by simp [go_sem, World.cell?_alloc_past]))
              have N2 := hide (fun o => ((N1.out _).next hb2).next (balloc (o := o) (Below.refl _ _)))
              clear c_al c_ah c_Fn c_Fd hb2 N1
              have c_al := fun o => (N2.out o).2.1.1.1
              have c_Fn := fun o => (N2.out o).1.2.2.2.1
              have c_Fd := fun o => (N2.out o).1.2.2.2.2
              go_wp2_with fail
              refine (M.out _).mono ?_
              rintro e w3 ⟨rfl, hb3⟩
              have z0 := later hb3 (x0 _)
              have z1 := later hb3 (x1 _)
              have y0 := later hb3 (a := ⟨w2.heap.size, 0, none⟩) (v := .int .i64 x4) (by simp [go_sem, World.cell?_alloc_past])
              have y1 := later hb3 (a := ⟨w2.heap.size, 1, none⟩) (v := .int .i64 y4) (by simp [go_sem, World.cell?_alloc_past])
              have N3 := hide ((N2.out _).next hb3)
              clear c_al c_Fn c_Fd hb3 N2 x0 x1
              go_wp2_with fail
              refine (I.out _).mono ?_
              rintro e w4 ⟨rfl, hb4⟩
              have v0 := later hb4 y0
              have v1 := later hb4 y1
              have N4 := hide (N3.out.next hb4)
              clear y0 y1 z0 z1 hb4 N3
              go_wp2_with fail
              go_meet
              exact N4.out
          case rest =>
            have N0 := hide hcut
            clear hcut
            have B0 := N0.out.2.2
            go_wp2_with fail
            refine (known_any _).mono ?_
            rintro e w9 ⟨rfl, hb9⟩
            go_wp2_with fail
            go_ret
            exact ⟨rfl, (by repeat (first | exact Below.refl _ _ | assumption | apply balloc | apply bdrew | (refine bset ?_ (by first | (simp; done) | omega | (simp; omega)) _) | (refine bnext ?_ (by assumption))))⟩

/-- The walk of UnitsAllResults. -/
theorem part_of {l h b c x y : Int} (e : partQ l h b c = (x, y)) (h0 : l ≤ h) : l ≤ x ∧ x ≤ y ∧ y ≤ h := by
  have := part_in (b := b) (c := c) h0
  rw [e] at this
  exact this
theorem ins_of {a b X Y : Int} (h : insQ a b X Y = true) : Ins a b X Y true := fun W => by
  have := inside_any a b X Y W
  rwa [h] at this
theorem mdv_of {a b c how n r E : Int} (h : mulDivQ a b c how = (n, r, E)) : Mdv a b c how n r E := fun w => by
  have := mulDiv_any a b c how w
  rwa [h] at this
theorem not_zero_of {E : Int} (h : ¬ E = 0) : (E == 0) = false := by simpa using h
theorem unitsAllResults_walk (A1 A2 B1 B2 U Fn Fd i1 i2 j1 j2 how : Int) (w : World) (i : (0 ≤ i1 ∧ i1 ≤ 65535) ∧ 0 ≤ i2 ∧ i2 ≤ 65535) (j : (0 ≤ j1 ∧ j1 ≤ 65535) ∧ 0 ≤ j2 ∧ j2 ≤ 65535) (how0 : 0 ≤ how) (how1 : how ≤ 255) :
    Calls Try.prog 17 #[.agg #[.int .i64 A1, .int .i64 A2, .int .i64 B1, .int .i64 B2, .int .i64 U, .int .i64 Fn, .int .i64 Fd], .agg #[.int .u16 i1, .int .u16 i2, .int .u16 j1, .int .u16 j2], .int .u8 how] w fun e w' => e = .returned (.bool true) ∧ Below w.heap.size w w' := by
  obtain ⟨PA, hA⟩ : ∃ x, partQ A1 A2 i1 i2 = x := ⟨_, rfl⟩
  obtain ⟨PB, hB⟩ : ∃ x, partQ B1 B2 j1 j2 = x := ⟨_, rfl⟩
  obtain ⟨al, ah⟩ := PA
  obtain ⟨bl, bh⟩ := PB
  have hw : howOk (1 + how % 3) = true := by unfold howOk; simp; omega
  obtain ⟨⟨X1, Y1, E1⟩, h1⟩ : ∃ x, lessQ A1 A2 B1 B2 = x := ⟨_, rfl⟩
  obtain ⟨⟨X2, Y2, E2⟩, h2⟩ : ∃ x, timesQ A1 A2 B1 B2 U = x := ⟨_, rfl⟩
  obtain ⟨⟨X3, Y3, E3⟩, h3⟩ : ∃ x, overQ A1 A2 B1 B2 U = x := ⟨_, rfl⟩
  obtain ⟨⟨X4, Y4, E4⟩, h4⟩ : ∃ x, scaleQ A1 A2 Fn Fd = x := ⟨_, rfl⟩
  have T1 : Lss A1 A2 B1 B2 X1 Y1 E1 := fun W => by have := less_any A1 A2 B1 B2 W; rwa [h1] at this
  have T2 : Tms A1 A2 B1 B2 U X2 Y2 E2 := fun W => by have := times_any A1 A2 B1 B2 U W; rwa [h2] at this
  have T3 : Ovr A1 A2 B1 B2 U X3 Y3 E3 := fun W => by have := over_any A1 A2 B1 B2 U W; rwa [h3] at this
  have T4 : Scl A1 A2 Fn Fd X4 Y4 E4 := fun W => by have := scale_any A1 A2 Fn Fd W; rwa [h4] at this
  have G1 : (E1 == 0) = false ∨ (E1 = 0 ∧ ((-1000000000000000 ≤ al ∧ al ≤ 1000000000000000) ∧ (-1000000000000000 ≤ ah ∧ ah ≤ 1000000000000000) ∧ (-1000000000000000 ≤ bl ∧ bl ≤ 1000000000000000) ∧ (-1000000000000000 ≤ bh ∧ bh ≤ 1000000000000000)) ∧ Hid (Lss al ah bl bh (al - bh) (ah - bl) 0) ∧ Hid (Ins (al - bh) (ah - bl) X1 Y1 true)) := by
    by_cases hE : E1 = 0
    · subst hE
      have v := less_ok h1
      obtain ⟨a0, a1, a2⟩ := part_of hA v.1.2.1
      obtain ⟨b0, b1, b2⟩ := part_of hB v.2.2.1
      obtain ⟨l1, l2⟩ := less_part h1 a0 a1 a2 b0 b1 b2
      obtain ⟨⟨v1, v2, v3⟩, v4, v5, v6⟩ := v
      refine .inr ⟨rfl, ⟨⟨by omega, by omega⟩, ⟨by omega, by omega⟩, ⟨by omega, by omega⟩, by omega, by omega⟩, fun W => ?_, ins_of l2⟩
      have := less_any al ah bl bh W
      rwa [l1] at this
    · exact .inl (not_zero_of hE)
  have G2 : ∃ x2 y2 n2 r2, (E2 == 0) = false ∨ (E2 = 0 ∧ Hid (Tms al ah bl bh U x2 y2 0) ∧ Hid (Ins x2 y2 X2 Y2 true) ∧ Hid (Mdv al bh U (1 + how % 3) n2 r2 0) ∧ decide (n2 < x2) = false ∧ decide (y2 < n2) = false) := by
    by_cases hE : E2 = 0
    · subst hE
      have v := times_ok h2
      obtain ⟨a0, a1, a2⟩ := part_of hA v.1.2.1
      obtain ⟨b0, b1, b2⟩ := part_of hB v.2.2.1
      obtain ⟨x, y, l1, l2, n, r, l3, l4, l5⟩ := times_part h2 hw a0 a1 a2 b0 b1 b2
      refine ⟨x, y, n, r, .inr ⟨rfl, fun W => ?_, ins_of l2, mdv_of l3, decide_eq_false (by omega), decide_eq_false (by omega)⟩⟩
      have := times_any al ah bl bh U W
      rwa [l1] at this
    · exact ⟨0, 0, 0, 0, .inl (not_zero_of hE)⟩
  have G3 : ∃ x2 y2 n2 r2, (E3 == 0) = false ∨ (E3 = 0 ∧ Hid (Ovr al ah bl bh U x2 y2 0) ∧ Hid (Ins x2 y2 X3 Y3 true) ∧ Hid (Mdv ah U bh (1 + how % 3) n2 r2 0) ∧ decide (n2 < x2) = false ∧ decide (y2 < n2) = false) := by
    by_cases hE : E3 = 0
    · subst hE
      have v := over_ok h3
      obtain ⟨a0, a1, a2⟩ := part_of hA v.1.2.1
      obtain ⟨b0, b1, b2⟩ := part_of hB v.2.2.1
      obtain ⟨x, y, l1, l2, n, r, l3, l4, l5⟩ := over_part h3 hw a0 a1 a2 b0 b1 b2
      refine ⟨x, y, n, r, .inr ⟨rfl, fun W => ?_, ins_of l2, mdv_of l3, decide_eq_false (by omega), decide_eq_false (by omega)⟩⟩
      have := over_any al ah bl bh U W
      rwa [l1] at this
    · exact ⟨0, 0, 0, 0, .inl (not_zero_of hE)⟩
  have G4 : ∃ x2 y2 n2 r2, (E4 == 0) = false ∨ (E4 = 0 ∧ Hid (Scl al ah Fn Fd x2 y2 0) ∧ Hid (Ins x2 y2 X4 Y4 true) ∧ Hid (Mdv al Fn Fd (1 + how % 3) n2 r2 0) ∧ decide (n2 < x2) = false ∧ decide (y2 < n2) = false) := by
    by_cases hE : E4 = 0
    · subst hE
      have v := scale_ok h4
      obtain ⟨a0, a1, a2⟩ := part_of hA v.2.1
      obtain ⟨x, y, l1, l2, n, r, l3, l4, l5⟩ := scale_part h4 hw a0 a1 a2
      refine ⟨x, y, n, r, .inr ⟨rfl, fun W => ?_, ins_of l2, mdv_of l3, decide_eq_false (by omega), decide_eq_false (by omega)⟩⟩
      have := scale_any al ah Fn Fd W
      rwa [l1] at this
    · exact ⟨0, 0, 0, 0, .inl (not_zero_of hE)⟩
  obtain ⟨x2, y2, n2, r2, G2⟩ := G2
  obtain ⟨x3, y3, n3, r3, G3⟩ := G3
  obtain ⟨x4, y4, n4, r4, G4⟩ := G4
  obtain ⟨⟨i10, i11⟩, i20, i21⟩ := i
  obtain ⟨⟨j10, j11⟩, j20, j21⟩ := j
  exact ar_start A1 A2 B1 B2 U Fn Fd i1 i2 j1 j2 how al ah bl bh X1 Y1 E1 X2 Y2 E2 x2 y2 n2 r2 X3 Y3 E3 x3 y3 n3 r3 X4 Y4 E4 x4 y4 n4 r4 w i10 i11 i20 i21 j10 j11 j20 j21 how0 how1 hA hB T1 G1 T2 G2 T3 G3 T4 G4
end Go.Proofs.Ytdnppmncmnmckaa
