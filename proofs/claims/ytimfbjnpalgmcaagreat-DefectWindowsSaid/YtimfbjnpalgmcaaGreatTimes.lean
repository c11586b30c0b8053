/-
  units: ends, result, Times.
-/
import Derived.Test.YtimfbjnpalgmcaaGreatGath
import Derived.LoopN
namespace Go.Proofs.YtimfbjnpalgmcaaGreat
set_option linter.unusedSimpArgs false
set_option linter.unusedVariables false
open Go.RowKit

theorem ends_any (x y : Int) (w : World) :
    Calls Tryz.prog 97 #[.agg #[.int .i64 x, .int .i64 y]] w fun e w' => e = .returned (.agg #[.int .i64 x, .int .i64 y]) ∧ Below w.heap.size w w' := by
  go_enter Tryz.func97, Tryz.ntmps97
  go_wp2
  exact bodyPost_ret (v := .agg #[.int .i64 x, .int .i64 y]) (by simp [results, Tryz.results97, go_sem]) rfl ⟨rfl, (by repeat (first | exact Below.refl _ _ | assumption | apply balloc | apply bdrew | (refine below_drewN ?_ _) | (refine bset ?_ (by first | (simp; done) | omega | (simp; omega)) _) | (refine bnext ?_ (by assumption))))⟩

/-- What is returned of what has been gathered. -/
def gRes (g : Gth) : Int × Int × Int := if g.o then (0, 0, 10) else (g.l, g.h, 0)
set_option maxHeartbeats 400000 in
theorem result_any (g : Gth) (w : World) :
    Calls Tryz.prog 100 #[.agg #[.int .i64 g.l, .int .i64 g.h, .bool g.s, .bool g.o]] w fun e w' => e = .returned (.tuple #[.agg #[.int .i64 (gRes g).1, .int .i64 (gRes g).2.1], .int .i64 (gRes g).2.2]) ∧ Below w.heap.size w w' := by
  obtain ⟨l, hh, s, o⟩ := g
  cases o with
  | true =>
    go_enter Tryz.func100, Tryz.ntmps100
    go_wp2
    exact bodyPost_ret (v := .tuple #[.agg #[.int .i64 0, .int .i64 0], .int .i64 10]) (by simp [results, Tryz.results100, go_sem]) rfl ⟨rfl, (by repeat (first | exact Below.refl _ _ | assumption | apply balloc | apply bdrew | (refine below_drewN ?_ _) | (refine bset ?_ (by first | (simp; done) | omega | (simp; omega)) _) | (refine bnext ?_ (by assumption))))⟩
  | false =>
    go_enter Tryz.func100, Tryz.ntmps100
    go_wp2
    exact bodyPost_ret (v := .tuple #[.agg #[.int .i64 l, .int .i64 hh], .int .i64 0]) (by simp [results, Tryz.results100, go_sem]) rfl ⟨rfl, (by repeat (first | exact Below.refl _ _ | assumption | apply balloc | apply bdrew | (refine below_drewN ?_ _) | (refine bset ?_ (by first | (simp; done) | omega | (simp; omega)) _) | (refine bnext ?_ (by assumption))))⟩

/-! ### Times -/
theorem times1_any (c : Int) (p : Addr) (w : World) (hp : w.cell? p = some (.int .i64 c)) :
    Calls Tryz.prog 146 #[.pointer (some p)] w fun e w' => e = .returned (.bool (isDiv c)) ∧ Below w.heap.size w w' := by
  go_enter Tryz.func146, Tryz.ntmps146
  go_wp2_with (go_at_call 104; refine (isDivisor_any _ _).mono ?_; rintro e w' ⟨rfl, hb⟩)
  go_ret
  exact ⟨rfl, (by repeat (first | exact Below.refl _ _ | assumption | apply balloc | apply bdrew | (refine below_drewN ?_ _) | (refine bset ?_ (by first | (simp; done) | omega | (simp; omega)) _) | (refine bnext ?_ (by assumption))))⟩
theorem times_tells (k : Bool) (c : Int) (p : Addr) (w : World) (hk : isDiv c = k) (hp : w.cell? p = some (.int .i64 c)) : Tells w 146 #[.pointer (some p)] k := by
  subst hk
  exact ⟨enters_any Tryz.func146 (by kernel_rfl) rfl _, fun W hW => times1_any c p W (later hW hp)⟩

/-- The conditions of Times come to E. -/
def TimesCond (al ah bl bh c E : Int) (k1 k2 : Bool) : Prop := [(al, ah), (bl, bh)].all rangeOk = k1 ∧ isDiv c = k2 ∧ ∀ f g x y, firstE [⟨2, f, x, k1⟩, ⟨3, g, y, k2⟩] = E

set_option maxHeartbeats 800000 in
theorem times_bad (al ah bl bh c E : Int) (k1 k2 : Bool) (w : World) (hE : (E == 0) = false) (h : Hid (TimesCond al ah bl bh c E k1 k2)) :
    Calls Tryz.prog 121 #[.agg #[.int .i64 al, .int .i64 ah], .agg #[.int .i64 bl, .int .i64 bh], .int .i64 c] w fun e w' => e = .returned (.tuple #[.agg #[.int .i64 0, .int .i64 0], .int .i64 E]) ∧ Below w.heap.size w w' := by
  go_enter Tryz.func121, Tryz.ntmps121
  go_wp2_with (first | (go_at_call 92; refine (validRanges_any _ _ _ _).mono ?_; rintro e w' ⟨rfl, rfl⟩) | (go_at_call 52; refine (unless_any _ _ _ _).mono ?_; rintro e w' ⟨rfl, rfl⟩))
  refine (firstError_is E [⟨2, 109, #[.pointer (some ⟨w.heap.size + 1 + 1 + 1 + 1 + 1 + 1 + 1, 0, none⟩), .pointer (some ⟨w.heap.size + 1 + 1 + 1 + 1 + 1 + 1, 0, none⟩)], k1⟩, ⟨3, 109, #[.pointer (some ⟨w.heap.size + 1 + 1 + 1 + 1 + 1 + 1 + 1 + 1 + 1, 0, none⟩), .pointer (some ⟨w.heap.size + 1 + 1 + 1 + 1 + 1 + 1 + 1 + 1, 0, none⟩)], k2⟩] _ _ _ (h.out.2.2 _ _ _ _) (by simp) (by simp) (cnds_two_at (by simp))
    (tells_two (validRanges_tells k1 (some ⟨w.heap.size + 1 + 1 + 1 + 1, 0, none⟩) 2 2 [(al, ah), (bl, bh)] ⟨w.heap.size + 1 + 1 + 1 + 1 + 1, 0, none⟩ ⟨w.heap.size + 1 + 1 + 1 + 1 + 1 + 1 + 1, 0, none⟩ ⟨w.heap.size + 1 + 1 + 1 + 1 + 1 + 1, 0, none⟩ _ h.out.1 rfl (by simp) (by simp [go_sem, World.cell?_alloc_past]) (by simp [go_sem, World.cell?_alloc_past]) (by simp [go_sem, World.cell?_alloc_past]) (pairs_two_of (by simp [go_sem, World.cell?_alloc_past]) (by simp [go_sem, World.cell?_alloc_past]) (by simp [go_sem, World.cell?_alloc_past]) (by simp [go_sem, World.cell?_alloc_past])))
      (fun _ => unless_tells 3 _ _ k2 ⟨w.heap.size + 1 + 1 + 1 + 1 + 1 + 1 + 1 + 1, 0, none⟩ ⟨w.heap.size + 1 + 1 + 1 + 1 + 1 + 1 + 1 + 1 + 1, 0, none⟩ _ rfl (times_tells k2 c ⟨w.heap.size + 1 + 1, 0, none⟩ _ h.out.2.1 (by simp [go_sem, World.cell?_alloc_past])) (by simp [go_sem, World.cell?_alloc_past]) (by simp [go_sem, World.cell?_alloc_past])))).mono ?_
  rintro e w1 ⟨rfl, hb⟩
  have c4 := later hb (a := ⟨w.heap.size + 1 + 1 + 1, 0, none⟩) (v := .int .i64 0) (by simp [go_sem, World.cell?_alloc_past])
  have c5 := later hb (a := ⟨w.heap.size + 1 + 1 + 1, 1, none⟩) (v := .int .i64 0) (by simp [go_sem, World.cell?_alloc_past])
  have f4 := free_later hb (a := ⟨w.heap.size + 1 + 1 + 1, 0, none⟩) (v := .int .i64 0) (by simp [go_sem, World.cell?_alloc_past]) (by simp [go_sem, World.cell?_alloc_past])
  have f5 := free_later hb (a := ⟨w.heap.size + 1 + 1 + 1, 1, none⟩) (v := .int .i64 0) (by simp [go_sem, World.cell?_alloc_past]) (by simp [go_sem, World.cell?_alloc_past])
  go_wp2_with fail
  exact bodyPost_ret (v := .tuple #[.agg #[.int .i64 0, .int .i64 0], .int .i64 E]) (by simp [results, Tryz.results121, go_sem, c4, c5]) rfl ⟨rfl, (by repeat (first | exact Below.refl _ _ | assumption | apply balloc | apply bdrew | (refine below_drewN ?_ _) | (refine bset ?_ (by first | (simp; done) | omega | (simp; omega)) _) | (refine bnext ?_ (by assumption))))⟩

/-- The products of the ends are gathered. -/
def gTimes (al ah bl bh c : Int) : Gth := gQuo (gQuo (gQuo (gQuo ⟨0, 0, false, false⟩ al bl c) al bh c) ah bl c) ah bh c

/-- What the walk through Times, Over and Scale reads behind a call: the second range, the divisor, the result's cells. -/
def TSt (n : Nat) (bl bh c : Int) (w : World) : Prop :=
  (w.cell? ⟨n + 1, 0, none⟩ = some (.int .i64 bl) ∧ w.cell? ⟨n + 1, 1, none⟩ = some (.int .i64 bh) ∧ w.cell? ⟨n + 1 + 1, 0, none⟩ = some (.int .i64 c)) ∧
  w.cell? ⟨n + 1 + 1 + 1, 0, none⟩ = some (.int .i64 0) ∧ w.cell? ⟨n + 1 + 1 + 1, 1, none⟩ = some (.int .i64 0) ∧ w.frozen? ⟨n + 1 + 1 + 1, 0, none⟩ = false ∧ w.frozen? ⟨n + 1 + 1 + 1, 1, none⟩ = false
theorem tst_later {n : Nat} {bl bh c : Int} {w W : World} (h : TSt n bl bh c w) (hb : Below w.heap.size w W) : TSt n bl bh c W := by
  obtain ⟨⟨h1, h2, h3⟩, h4, h5, h6, h7⟩ := h
  exact ⟨⟨later hb h1, later hb h2, later hb h3⟩, later hb h4, later hb h5, free_later hb h4 h6, free_later hb h5 h7⟩
theorem tst_touch {n b : Nat} {bl bh c : Int} {w W : World} (h : TSt n bl bh c w) (hb : Touch b w W) (hn : n + 1 + 1 + 1 < b) : TSt n bl bh c W := by
  obtain ⟨⟨h1, h2, h3⟩, h4, h5, h6, h7⟩ := h
  exact ⟨⟨hb.cell (by simp; omega) h1, hb.cell (by simp; omega) h2, hb.cell (by simp; omega) h3⟩, hb.cell (by simp; omega) h4, hb.cell (by simp; omega) h5, hb.free (by simp; omega) h4 h6, hb.free (by simp; omega) h5 h7⟩

set_option maxHeartbeats 1600000 in
theorem times_good (al ah bl bh c : Int) (w : World) (h : Hid (TimesCond al ah bl bh c 0 true true)) (a0 : -1000000000000000 ≤ al) (a1 : al ≤ 1000000000000000) (a2 : -1000000000000000 ≤ ah) (a3 : ah ≤ 1000000000000000)
    (b0 : -1000000000000000 ≤ bl) (b1 : bl ≤ 1000000000000000) (b2 : -1000000000000000 ≤ bh) (b3 : bh ≤ 1000000000000000) (c0 : 1 ≤ c) (c1 : c ≤ 1000000000000000) :
    Calls Tryz.prog 121 #[.agg #[.int .i64 al, .int .i64 ah], .agg #[.int .i64 bl, .int .i64 bh], .int .i64 c] w fun e w' => e = .returned (.tuple #[.agg #[.int .i64 (gRes (gTimes al ah bl bh c)).1, .int .i64 (gRes (gTimes al ah bl bh c)).2.1], .int .i64 (gRes (gTimes al ah bl bh c)).2.2]) ∧ Below w.heap.size w w' := by
  have i0 : ∀ (x y : Value) w, (Instr.index 158 (.agg #[x, y]) (.int .i64 0)).run Tryz.prog w = .ok x w := fun _ _ _ => by kernel_rfl
  have i1 : ∀ (x y : Value) w, (Instr.index 158 (.agg #[x, y]) (.int .i64 1)).run Tryz.prog w = .ok y w := fun _ _ _ => by kernel_rfl
  have Q1 := hide fun b g w hg => addQuotient_any b g al bl c w hg a0 a1 b0 b1 c0 c1
  have Q2 := hide fun b g w hg => addQuotient_any b g al bh c w hg a0 a1 b2 b3 c0 c1
  have Q3 := hide fun b g w hg => addQuotient_any b g ah bl c w hg a2 a3 b0 b1 c0 c1
  have Q4 := hide fun b g w hg => addQuotient_any b g ah bh c w hg a2 a3 b2 b3 c0 c1
  clear a0 a1 a2 a3 b0 b1 b2 b3 c0 c1
  go_enter Tryz.func121, Tryz.ntmps121
  go_wp2_with (first | (go_at_call 92; refine (validRanges_any _ _ _ _).mono ?_; rintro e w' ⟨rfl, rfl⟩) | (go_at_call 52; refine (unless_any _ _ _ _).mono ?_; rintro e w' ⟨rfl, rfl⟩))
  refine (firstError_is 0 [⟨2, 109, #[.pointer (some ⟨w.heap.size + 1 + 1 + 1 + 1 + 1 + 1 + 1, 0, none⟩), .pointer (some ⟨w.heap.size + 1 + 1 + 1 + 1 + 1 + 1, 0, none⟩)], true⟩, ⟨3, 109, #[.pointer (some ⟨w.heap.size + 1 + 1 + 1 + 1 + 1 + 1 + 1 + 1 + 1, 0, none⟩), .pointer (some ⟨w.heap.size + 1 + 1 + 1 + 1 + 1 + 1 + 1 + 1, 0, none⟩)], true⟩] _ _ _ (h.out.2.2 _ _ _ _) (by simp) (by simp) (cnds_two_at (by simp))
    (tells_two (validRanges_tells true (some ⟨w.heap.size + 1 + 1 + 1 + 1, 0, none⟩) 2 2 [(al, ah), (bl, bh)] ⟨w.heap.size + 1 + 1 + 1 + 1 + 1, 0, none⟩ ⟨w.heap.size + 1 + 1 + 1 + 1 + 1 + 1 + 1, 0, none⟩ ⟨w.heap.size + 1 + 1 + 1 + 1 + 1 + 1, 0, none⟩ _ h.out.1 rfl (by simp) (by simp [go_sem, World.cell?_alloc_past]) (by simp [go_sem, World.cell?_alloc_past]) (by simp [go_sem, World.cell?_alloc_past]) (pairs_two_of (by simp [go_sem, World.cell?_alloc_past]) (by simp [go_sem, World.cell?_alloc_past]) (by simp [go_sem, World.cell?_alloc_past]) (by simp [go_sem, World.cell?_alloc_past])))
      (fun _ => unless_tells 3 _ _ true ⟨w.heap.size + 1 + 1 + 1 + 1 + 1 + 1 + 1 + 1, 0, none⟩ ⟨w.heap.size + 1 + 1 + 1 + 1 + 1 + 1 + 1 + 1 + 1, 0, none⟩ _ rfl (times_tells true c ⟨w.heap.size + 1 + 1, 0, none⟩ _ h.out.2.1 (by simp [go_sem, World.cell?_alloc_past])) (by simp [go_sem, World.cell?_alloc_past]) (by simp [go_sem, World.cell?_alloc_past])))).mono ?_
  rintro e w1 ⟨rfl, hb⟩
  have c4 := later hb (a := ⟨w.heap.size + 1 + 1 + 1, 0, none⟩) (v := .int .i64 0) (by simp [go_sem, World.cell?_alloc_past])
  have c5 := later hb (a := ⟨w.heap.size + 1 + 1 + 1, 1, none⟩) (v := .int .i64 0) (by simp [go_sem, World.cell?_alloc_past])
  have f4 := free_later hb (a := ⟨w.heap.size + 1 + 1 + 1, 0, none⟩) (v := .int .i64 0) (by simp [go_sem, World.cell?_alloc_past]) (by simp [go_sem, World.cell?_alloc_past])
  have f5 := free_later hb (a := ⟨w.heap.size + 1 + 1 + 1, 1, none⟩) (v := .int .i64 0) (by simp [go_sem, World.cell?_alloc_past]) (by simp [go_sem, World.cell?_alloc_past])
  have c0 := later hb (a := ⟨w.heap.size, 0, none⟩) (v := .int .i64 al) (by simp [go_sem, World.cell?_alloc_past])
  have c1 := later hb (a := ⟨w.heap.size, 1, none⟩) (v := .int .i64 ah) (by simp [go_sem, World.cell?_alloc_past])
  have c2 := later hb (a := ⟨w.heap.size + 1, 0, none⟩) (v := .int .i64 bl) (by simp [go_sem, World.cell?_alloc_past])
  have c3 := later hb (a := ⟨w.heap.size + 1, 1, none⟩) (v := .int .i64 bh) (by simp [go_sem, World.cell?_alloc_past])
  have c6 := later hb (a := ⟨w.heap.size + 1 + 1, 0, none⟩) (v := .int .i64 c) (by simp [go_sem, World.cell?_alloc_past])
  have z0 := World.block_lt_of_cell? _ _ c0
  have z2 := World.block_lt_of_cell? _ _ c2
  have z6 := World.block_lt_of_cell? _ _ c6
  have z4 := World.block_lt_of_cell? _ _ c4
  simp only at z0 z2 z6 z4
  go_wp2_with fail
  refine (ends_any _ _ _).mono ?_
  rintro e w2 ⟨rfl, hb2⟩
  have g2 := gat_later (b := w1.heap.size) (g := ⟨0, 0, false, false⟩) ⟨⟨(by simp [go_sem, World.cell?_alloc_past]), (by simp [go_sem, World.cell?_alloc_past]), (by simp [go_sem, World.cell?_alloc_past]), (by simp [go_sem, World.cell?_alloc_past])⟩, (by simp [go_sem, World.cell?_alloc_past]), (by simp [go_sem, World.cell?_alloc_past]), (by simp [go_sem, World.cell?_alloc_past]), (by simp [go_sem, World.cell?_alloc_past])⟩ hb2
  have S1 : TSt w.heap.size bl bh c w1 := ⟨⟨c2, c3, c6⟩, c4, c5, f4, f5⟩
  have S2 := tst_later (tst_later S1 (balloc (Below.refl _ _))) hb2
  have B1 : Below w.heap.size w w1 := (by repeat (first | exact Below.refl _ _ | assumption | apply balloc | apply bdrew | (refine below_drewN ?_ _) | (refine bset ?_ (by first | (simp; done) | omega | (simp; omega)) _) | (refine bnext ?_ (by assumption))))
  have B2 : Below w.heap.size w w2 := bnext (balloc B1) hb2
  clear hb c0 c1 c2 c3 c6 c4 c5 f4 f5 S1
  go_wp2_with fail
  refine wp_loop_rounds 3 ?_
  rw [rounds_succ]
  have ⟨⟨d2, d3, d6⟩, d4, d5, y4, y5⟩ := S2
  go_wp2_with fail
  refine (ends_any _ _ _).mono ?_
  rintro e w3 ⟨rfl, hb3⟩
  have g3 := gat_later g2 hb3
  have S3 := tst_later S2 hb3
  have B3 := bnext B2 hb3
  clear d2 d3 d6 d4 d5 y4 y5 S2 hb3 hb2 g2
  go_wp2_with fail
  refine wp_loop_rounds 3 ?_
  rw [rounds_succ]
  have ⟨⟨d2, d3, d6⟩, d4, d5, y4, y5⟩ := S3
  go_wp2_with fail
  refine (Q1.out _ _ _ g3).mono ?_
  rintro e w4 ⟨rfl, g4, t4⟩
  have S4 := tst_touch S3 t4 z4
  have B4 := t4.below B3 B1.size
  clear d2 d3 d6 d4 d5 y4 y5 S3 t4 g3
  go_wp2_with fail
  rw [rounds_succ]
  have ⟨⟨d2, d3, d6⟩, d4, d5, y4, y5⟩ := S4
  go_wp2_with fail
  refine (Q2.out _ _ _ g4).mono ?_
  rintro e w5 ⟨rfl, g5, t5⟩
  have S5 := tst_touch S4 t5 z4
  have B5 := t5.below B4 B1.size
  clear d2 d3 d6 d4 d5 y4 y5 S4 t5 g4
  go_wp2_with fail
  rw [rounds_succ]
  have ⟨⟨d2, d3, d6⟩, d4, d5, y4, y5⟩ := S5
  go_wp2_with fail
  rw [rounds_succ]
  go_wp2_with fail
  refine (ends_any _ _ _).mono ?_
  rintro e w6 ⟨rfl, hb6⟩
  have g6 := gat_later g5 hb6
  have S6 := tst_later S5 hb6
  have B6 := bnext B5 hb6
  clear d2 d3 d6 d4 d5 y4 y5 S5 hb6 g5
  go_wp2_with fail
  refine wp_loop_rounds 3 ?_
  rw [rounds_succ]
  have ⟨⟨d2, d3, d6⟩, d4, d5, y4, y5⟩ := S6
  go_wp2_with fail
  refine (Q3.out _ _ _ g6).mono ?_
  rintro e w7 ⟨rfl, g7, t7⟩
  have S7 := tst_touch S6 t7 z4
  have B7 := t7.below B6 B1.size
  clear d2 d3 d6 d4 d5 y4 y5 S6 t7 g6
  go_wp2_with fail
  rw [rounds_succ]
  have ⟨⟨d2, d3, d6⟩, d4, d5, y4, y5⟩ := S7
  go_wp2_with fail
  refine (Q4.out _ _ _ g7).mono ?_
  rintro e w8 ⟨rfl, g8, t8⟩
  have S8 := tst_touch S7 t8 z4
  have B8 := t8.below B7 B1.size
  clear d2 d3 d6 d4 d5 y4 y5 S7 t8 g7
  go_wp2_with fail
  rw [rounds_succ]
  have ⟨⟨d2, d3, d6⟩, d4, d5, y4, y5⟩ := S8
  go_wp2_with fail
  rw [rounds_succ]
  have ⟨⟨a0, a1, a2, a3⟩, _⟩ := g8
  go_wp2_with fail
  refine (result_any _ _).mono ?_
  rintro e w9 ⟨rfl, hb9⟩
  have ⟨_, e4, e5, e6, e7⟩ := tst_later S8 hb9
  clear d2 d3 d6 d4 d5 y4 y5 a0 a1 a2 a3 S8
  go_wp2_with fail
  exact bodyPost_ret (v := .tuple #[.agg #[.int .i64 (gRes (gTimes al ah bl bh c)).1, .int .i64 (gRes (gTimes al ah bl bh c)).2.1], .int .i64 (gRes (gTimes al ah bl bh c)).2.2]) (by simp [results, Tryz.results121, go_sem, e4, e5, gTimes]) rfl ⟨rfl, (by repeat (first | exact Below.refl _ _ | assumption | apply balloc | apply bdrew | (refine below_drewN ?_ _) | (refine bset ?_ (by first | (simp; done) | omega | (simp; omega)) _) | (refine bnext ?_ (by assumption))))⟩

theorem range2_bounds {al ah bl bh : Int} (h : [(al, ah), (bl, bh)].all rangeOk = true) : (-1000000000000000 ≤ al ∧ al ≤ ah ∧ ah ≤ 1000000000000000) ∧ -1000000000000000 ≤ bl ∧ bl ≤ bh ∧ bh ≤ 1000000000000000 := by
  simp [rangeOk, allIn] at h
  omega
/-- The results of Times. -/
def timesQ (al ah bl bh c : Int) : Int × Int × Int :=
  if [(al, ah), (bl, bh)].all rangeOk = false then (0, 0, 2) else if isDiv c = false then (0, 0, 3) else gRes (gTimes al ah bl bh c)
theorem times_any (al ah bl bh c : Int) (w : World) :
    Calls Tryz.prog 121 #[.agg #[.int .i64 al, .int .i64 ah], .agg #[.int .i64 bl, .int .i64 bh], .int .i64 c] w fun e w' => e = .returned (.tuple #[.agg #[.int .i64 (timesQ al ah bl bh c).1, .int .i64 (timesQ al ah bl bh c).2.1], .int .i64 (timesQ al ah bl bh c).2.2]) ∧ Below w.heap.size w w' := by
  unfold timesQ
  cases h1 : [(al, ah), (bl, bh)].all rangeOk with
  | false =>
    rw [if_pos rfl]
    exact times_bad al ah bl bh c 2 false (isDiv c) w rfl (show TimesCond al ah bl bh c 2 false (isDiv c) from ⟨h1, rfl, fun _ _ _ _ => rfl⟩)
  | true =>
    cases h2 : isDiv c with
    | false =>
      rw [if_neg (by simp), if_pos rfl]
      exact times_bad al ah bl bh c 3 true false w rfl (show TimesCond al ah bl bh c 3 true false from ⟨h1, h2, fun _ _ _ _ => rfl⟩)
    | true =>
      rw [if_neg (by simp), if_neg (by simp)]
      obtain ⟨⟨a0, a1, a2⟩, b0, b1, b2⟩ := range2_bounds h1
      have hc : 1 ≤ c ∧ c ≤ 1000000000000000 := by unfold isDiv at h2; simpa using h2
      exact times_good al ah bl bh c w (show TimesCond al ah bl bh c 0 true true from ⟨h1, h2, fun _ _ _ _ => rfl⟩) a0 (by omega) (by omega) a2 b0 (by omega) (by omega) b2 hc.1 hc.2
end Go.Proofs.YtimfbjnpalgmcaaGreat
