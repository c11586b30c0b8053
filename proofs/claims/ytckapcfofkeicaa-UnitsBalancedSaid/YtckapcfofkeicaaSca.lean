/-
  units.Scale, the reference's, UnitsScales: the walk.
-/
import Derived.Test.YtckapcfofkeicaaPrs
import Derived.Test.YtckapcfofkeicaaCmpW
namespace Go.Proofs.Ytckapcfofkeicaa
set_option linter.unusedSimpArgs false
set_option linter.unusedVariables false
open Go.RowKit

/-- The conditions of Scale come to E. -/
def ScCond (al ah nu de E : Int) (k1 k2 : Bool) : Prop :=
  [(al, ah)].all rangeOk = k1 ∧ [(nu, de)].all fracOk = k2 ∧ ∀ f1 c1 f2 c2, firstE [⟨2, f1, c1, k1⟩, ⟨2, f2, c2, k2⟩] = E
/-- The fraction's and the result's cells. -/
def SSt (n : Nat) (nu de : Int) (w : World) : Prop := (w.cell? ⟨n + 1, 0, none⟩ = some (.int .i64 nu) ∧ w.cell? ⟨n + 1, 1, none⟩ = some (.int .i64 de)) ∧ w.cell? ⟨n + 1 + 1, 0, none⟩ = some (.int .i64 0) ∧ w.cell? ⟨n + 1 + 1, 1, none⟩ = some (.int .i64 0) ∧ w.frozen? ⟨n + 1 + 1, 0, none⟩ = false ∧ w.frozen? ⟨n + 1 + 1, 1, none⟩ = false
theorem sst_later {n : Nat} {nu de : Int} {w W : World} (h : SSt n nu de w) (hb : Below w.heap.size w W) : SSt n nu de W := by
  obtain ⟨⟨h1, h2⟩, h4, h5, h6, h7⟩ := h
  exact ⟨⟨later hb h1, later hb h2⟩, later hb h4, later hb h5, free_later hb h4 h6, free_later hb h5 h7⟩
theorem sst_touch {n b : Nat} {nu de : Int} {w W : World} (h : SSt n nu de w) (hb : Touch b w W) (hn : n + 1 + 1 < b) : SSt n nu de W := by
  obtain ⟨⟨h1, h2⟩, h4, h5, h6, h7⟩ := h
  exact ⟨⟨hb.cell (by simp; omega) h1, hb.cell (by simp; omega) h2⟩, hb.cell (by simp; omega) h4, hb.cell (by simp; omega) h5, hb.free (by simp; omega) h4 h6, hb.free (by simp; omega) h5 h7⟩

set_option maxHeartbeats 3200000 in
theorem scale_bad (al ah nu de E : Int) (k1 k2 : Bool) (w : World) (hE : (E == 0) = false) (hc : Hid (ScCond al ah nu de E k1 k2)) :
    Calls Try.prog 44 #[.agg #[.int .i64 al, .int .i64 ah], .agg #[.int .i64 nu, .int .i64 de]] w fun e w' => e = .returned (.tuple #[.agg #[.int .i64 0, .int .i64 0], .int .i64 E]) ∧ Below w.heap.size w w' := by
  go_enter Try.func44, Try.ntmps44
  go_upto_region 1 with fail
  go_cut [6] from 10 (fun s6 wx => s6 = .int .i64 E ∧ (wx.cell? ⟨w.heap.size, 0, none⟩ = some (.int .i64 al) ∧ wx.cell? ⟨w.heap.size, 1, none⟩ = some (.int .i64 ah)) ∧ SSt w.heap.size nu de wx ∧ Below w.heap.size w wx)
  case first =>
    go_region_held3 (fun w' => w'.cell? ⟨w.heap.size, 0, none⟩ = some (.int .i64 al) ∧ w'.cell? ⟨w.heap.size, 1, none⟩ = some (.int .i64 ah) ∧ w'.cell? ⟨w.heap.size + 1, 0, none⟩ = some (.int .i64 nu) ∧ w'.cell? ⟨w.heap.size + 1, 1, none⟩ = some (.int .i64 de) ∧ SSt w.heap.size nu de w' ∧ Below w.heap.size w w')
      (first | (refine ⟨?_, ?_, ?_, ?_, ⟨⟨?_, ?_⟩, ?_, ?_, ?_, ?_⟩, bdrew (balloc (balloc (balloc (Below.refl _ _))))⟩ <;> simp [go_sem, World.cell?_alloc_past]; done) | (go_split_ands; first | (exact ⟨later hbD (by assumption), later hbD (by assumption), later hbD (by assumption), later hbD (by assumption), sst_later (by assumption) hbD, bnext (by assumption) hbD⟩) | (exact ⟨later hbB (by assumption), later hbB (by assumption), later hbB (by assumption), later hbB (by assumption), sst_later (by assumption) hbB, bnext (by assumption) hbB⟩) | (exact ⟨later hbC (by assumption), later hbC (by assumption), later hbC (by assumption), later hbC (by assumption), sst_later (by assumption) hbC, bnext (by assumption) hbC⟩)) | (go_split_ands; exact ⟨later (balloc (Below.refl _ _)) (by assumption), later (balloc (Below.refl _ _)) (by assumption), later (balloc (Below.refl _ _)) (by assumption), later (balloc (Below.refl _ _)) (by assumption), sst_later (by assumption) (balloc (Below.refl _ _)), balloc (by assumption)⟩) | go_keep)
      (first
        | (go_at_call 86; refine (validRanges_ex k1 _ 1 1 [(al, ah)] _ hc.out.1 rfl (by simp) (pairs_one_of (by repeat (first | (simp [go_sem, World.cell?_alloc_past]; done) | refine later hbD ?_ | refine later hbC ?_ | refine later hbB ?_ | refine later hbA ?_ | refine later (balloc (Below.refl _ _)) ?_)) (by repeat (first | (simp [go_sem, World.cell?_alloc_past]; done) | refine later hbD ?_ | refine later hbC ?_ | refine later hbB ?_ | refine later hbA ?_ | refine later (balloc (Below.refl _ _)) ?_)))).mono ?_; rintro e wB ⟨rfl, hB, hbB⟩; (try simp at hB))
        | (go_at_call 78; refine (validFractions_ex k2 _ 1 1 [(nu, de)] _ hc.out.2.1 rfl (by simp) (pairs_one_of (by repeat (first | (simp [go_sem, World.cell?_alloc_past]; done) | refine later hbD ?_ | refine later hbC ?_ | refine later hbB ?_ | refine later hbA ?_ | refine later (balloc (Below.refl _ _)) ?_)) (by repeat (first | (simp [go_sem, World.cell?_alloc_past]; done) | refine later hbD ?_ | refine later hbC ?_ | refine later hbB ?_ | refine later hbA ?_ | refine later (balloc (Below.refl _ _)) ?_)))).mono ?_; rintro e wC ⟨rfl, hC, hbC⟩; (try simp at hC))
        | (go_at_call 67; go_loud (refine (firstError_is E [⟨2, 114, _, k1⟩, ⟨2, 114, _, k2⟩] _ _ _ (hc.out.2.2 _ _ _ _) (by simp) (by simp) (cnds_two_at (by simp)) (tells_two (cnd_later hB (by repeat (first | exact Below.refl _ _ | assumption | apply balloc | apply bdrew | (refine bnext ?_ (by assumption))))) (fun _ => cnd_later hC (by repeat (first | exact Below.refl _ _ | assumption | apply balloc | apply bdrew | (refine bnext ?_ (by assumption))))))).mono ?_); rintro e wD ⟨rfl, hbD⟩))
    all_goals (go_wp2_with fail; go_meet; exact ⟨rfl, ⟨by go_split_ands; assumption, by go_split_ands; assumption⟩, by go_split_ands; assumption, by go_split_ands; assumption⟩)
  case rest =>
    obtain ⟨rfl, ⟨c0, c1⟩, ⟨⟨c2, c3⟩, c4, c5, f4, f5⟩, hbw⟩ := hcut
    go_wp2_with fail
    exact bodyPost_ret (v := .tuple #[.agg #[.int .i64 0, .int .i64 0], .int .i64 E]) (by simp [results, Try.results44, go_sem, c4, c5]) rfl ⟨rfl, (by repeat (first | exact Below.refl _ _ | assumption | apply balloc | apply bdrew | (refine bset ?_ (by first | (simp; done) | omega | (simp; omega)) _) | (refine bnext ?_ (by assumption))))⟩
/-- What is gathered by Scale. -/
def gScale (al ah nu de : Int) : Gth := gQuo (gQuo ⟨0, 0, false, false⟩ al nu de) ah nu de
set_option maxHeartbeats 3200000 in
theorem scale_good (al ah nu de : Int) (w : World) (hc : Hid (ScCond al ah nu de 0 true true)) (a0 : -1000000000000000 ≤ al) (a1 : al ≤ 1000000000000000) (a2 : -1000000000000000 ≤ ah) (a3 : ah ≤ 1000000000000000)
    (b0 : -1000000000000000 ≤ nu) (b1 : nu ≤ 1000000000000000) (c0 : 1 ≤ de) (c1 : de ≤ 1000000000000000) :
    Calls Try.prog 44 #[.agg #[.int .i64 al, .int .i64 ah], .agg #[.int .i64 nu, .int .i64 de]] w fun e w' => e = .returned (.tuple #[.agg #[.int .i64 (gRes (gScale al ah nu de)).1, .int .i64 (gRes (gScale al ah nu de)).2.1], .int .i64 (gRes (gScale al ah nu de)).2.2]) ∧ Below w.heap.size w w' := by
  have i0 : ∀ (x y : Value) w, (Instr.index 128 (.agg #[x, y]) (.int .i64 0)).run Try.prog w = .ok x w := fun _ _ _ => by kernel_rfl
  have i1 : ∀ (x y : Value) w, (Instr.index 128 (.agg #[x, y]) (.int .i64 1)).run Try.prog w = .ok y w := fun _ _ _ => by kernel_rfl
  have Q1 := hide fun b g w hg => addQuotient_any b g al nu de w hg a0 a1 b0 b1 c0 c1
  have Q2 := hide fun b g w hg => addQuotient_any b g ah nu de w hg a2 a3 b0 b1 c0 c1
  clear a0 a1 a2 a3 b0 b1 c0 c1
  go_enter Try.func44, Try.ntmps44
  go_upto_region 1 with fail
  go_cut [6] from 10 (fun s6 wx => s6 = .int .i64 0 ∧ (wx.cell? ⟨w.heap.size, 0, none⟩ = some (.int .i64 al) ∧ wx.cell? ⟨w.heap.size, 1, none⟩ = some (.int .i64 ah)) ∧ SSt w.heap.size nu de wx ∧ Below w.heap.size w wx)
  case first =>
    go_region_held3 (fun w' => w'.cell? ⟨w.heap.size, 0, none⟩ = some (.int .i64 al) ∧ w'.cell? ⟨w.heap.size, 1, none⟩ = some (.int .i64 ah) ∧ w'.cell? ⟨w.heap.size + 1, 0, none⟩ = some (.int .i64 nu) ∧ w'.cell? ⟨w.heap.size + 1, 1, none⟩ = some (.int .i64 de) ∧ SSt w.heap.size nu de w' ∧ Below w.heap.size w w')
      (first | (refine ⟨?_, ?_, ?_, ?_, ⟨⟨?_, ?_⟩, ?_, ?_, ?_, ?_⟩, bdrew (balloc (balloc (balloc (Below.refl _ _))))⟩ <;> simp [go_sem, World.cell?_alloc_past]; done) | (go_split_ands; first | (exact ⟨later hbD (by assumption), later hbD (by assumption), later hbD (by assumption), later hbD (by assumption), sst_later (by assumption) hbD, bnext (by assumption) hbD⟩) | (exact ⟨later hbB (by assumption), later hbB (by assumption), later hbB (by assumption), later hbB (by assumption), sst_later (by assumption) hbB, bnext (by assumption) hbB⟩) | (exact ⟨later hbC (by assumption), later hbC (by assumption), later hbC (by assumption), later hbC (by assumption), sst_later (by assumption) hbC, bnext (by assumption) hbC⟩)) | (go_split_ands; exact ⟨later (balloc (Below.refl _ _)) (by assumption), later (balloc (Below.refl _ _)) (by assumption), later (balloc (Below.refl _ _)) (by assumption), later (balloc (Below.refl _ _)) (by assumption), sst_later (by assumption) (balloc (Below.refl _ _)), balloc (by assumption)⟩) | go_keep)
      (first
        | (go_at_call 86; refine (validRanges_ex true _ 1 1 [(al, ah)] _ hc.out.1 rfl (by simp) (pairs_one_of (by repeat (first | (simp [go_sem, World.cell?_alloc_past]; done) | refine later hbD ?_ | refine later hbC ?_ | refine later hbB ?_ | refine later hbA ?_ | refine later (balloc (Below.refl _ _)) ?_)) (by repeat (first | (simp [go_sem, World.cell?_alloc_past]; done) | refine later hbD ?_ | refine later hbC ?_ | refine later hbB ?_ | refine later hbA ?_ | refine later (balloc (Below.refl _ _)) ?_)))).mono ?_; rintro e wB ⟨rfl, hB, hbB⟩; (try simp at hB))
        | (go_at_call 78; refine (validFractions_ex true _ 1 1 [(nu, de)] _ hc.out.2.1 rfl (by simp) (pairs_one_of (by repeat (first | (simp [go_sem, World.cell?_alloc_past]; done) | refine later hbD ?_ | refine later hbC ?_ | refine later hbB ?_ | refine later hbA ?_ | refine later (balloc (Below.refl _ _)) ?_)) (by repeat (first | (simp [go_sem, World.cell?_alloc_past]; done) | refine later hbD ?_ | refine later hbC ?_ | refine later hbB ?_ | refine later hbA ?_ | refine later (balloc (Below.refl _ _)) ?_)))).mono ?_; rintro e wC ⟨rfl, hC, hbC⟩; (try simp at hC))
        | (go_at_call 67; go_loud (refine (firstError_is 0 [⟨2, 114, _, true⟩, ⟨2, 114, _, true⟩] _ _ _ (hc.out.2.2 _ _ _ _) (by simp) (by simp) (cnds_two_at (by simp)) (tells_two (cnd_later hB (by repeat (first | exact Below.refl _ _ | assumption | apply balloc | apply bdrew | (refine bnext ?_ (by assumption))))) (fun _ => cnd_later hC (by repeat (first | exact Below.refl _ _ | assumption | apply balloc | apply bdrew | (refine bnext ?_ (by assumption))))))).mono ?_); rintro e wD ⟨rfl, hbD⟩))
    all_goals (go_wp2_with fail; go_meet; exact ⟨rfl, ⟨by go_split_ands; assumption, by go_split_ands; assumption⟩, by go_split_ands; assumption, by go_split_ands; assumption⟩)
  case rest =>
    obtain ⟨rfl, ⟨c0, c1⟩, S1, hbw⟩ := hcut
    have ⟨⟨c2, c3⟩, c4, c5, f4, f5⟩ := S1
    have z4 : w.heap.size + 1 + 1 < wc.heap.size := World.block_lt_of_cell? _ _ c4
    have c0' := fun o => later (balloc (o := o) (Below.refl _ _)) c0
    have c1' := fun o => later (balloc (o := o) (Below.refl _ _)) c1
    go_wp2_with fail
    refine (ends_any _ _ _).mono ?_
    rintro e w2 ⟨rfl, hb2⟩
    have g2 := gat_later (b := wc.heap.size) (g := ⟨0, 0, false, false⟩) ⟨⟨(by simp [go_sem, World.cell?_alloc_past]), (by simp [go_sem, World.cell?_alloc_past]), (by simp [go_sem, World.cell?_alloc_past]), (by simp [go_sem, World.cell?_alloc_past])⟩, (by simp [go_sem, World.cell?_alloc_past]), (by simp [go_sem, World.cell?_alloc_past]), (by simp [go_sem, World.cell?_alloc_past]), (by simp [go_sem, World.cell?_alloc_past])⟩ hb2
    have S2 := sst_later (sst_later S1 (balloc (Below.refl _ _))) hb2
    have B2 : Below w.heap.size w w2 := bnext (balloc hbw) hb2
    clear c0' c1' c0 c1 c2 c3 c4 c5 f4 f5 S1 hb2
    go_wp2_with fail
    refine wp_loop_rounds 3 ?_
    rw [rounds_succ]
    have ⟨⟨d2, d3⟩, d4, d5, y4, y5⟩ := S2
    go_wp2_with fail
    refine (Q1.out _ _ _ g2).mono ?_
    rintro e w3 ⟨rfl, g3, t3⟩
    have S3 := sst_touch S2 t3 z4
    have B3 := t3.below B2 hbw.size
    clear d2 d3 d4 d5 y4 y5 S2 t3 g2
    go_wp2_with fail
    rw [rounds_succ]
    have ⟨⟨d2, d3⟩, d4, d5, y4, y5⟩ := S3
    go_wp2_with fail
    refine (Q2.out _ _ _ g3).mono ?_
    rintro e w4 ⟨rfl, g4, t4⟩
    have S4 := sst_touch S3 t4 z4
    have B4 := t4.below B3 hbw.size
    clear d2 d3 d4 d5 y4 y5 S3 t4 g3
    go_wp2_with fail
    rw [rounds_succ]
    have ⟨⟨a0, a1, a2, a3⟩, _⟩ := g4
    have ⟨⟨d2, d3⟩, d4, d5, y4, y5⟩ := S4
    go_wp2_with fail
    refine (result_any _ _).mono ?_
    rintro e w9 ⟨rfl, hb9⟩
    have ⟨_, e4, e5, e6, e7⟩ := sst_later S4 hb9
    clear d2 d3 d4 d5 y4 y5 a0 a1 a2 a3 S4
    go_wp2_with fail
    exact bodyPost_ret (v := .tuple #[.agg #[.int .i64 (gRes (gScale al ah nu de)).1, .int .i64 (gRes (gScale al ah nu de)).2.1], .int .i64 (gRes (gScale al ah nu de)).2.2]) (by simp [results, Try.results44, go_sem, e4, e5, gScale]) rfl ⟨rfl, (by repeat (first | exact Below.refl _ _ | assumption | apply balloc | apply bdrew | (refine bset ?_ (by first | (simp; done) | omega | (simp; omega)) _) | (refine bnext ?_ (by assumption))))⟩

/-- The results of Scale. -/
def scaleQ (al ah nu de : Int) : Int × Int × Int :=
  if rangeOk (al, ah) = false then (0, 0, 2) else if fracOk (nu, de) = false then (0, 0, 2) else gRes (gScale al ah nu de)
theorem range1_bounds {al ah : Int} (h : rangeOk (al, ah) = true) : -1000000000000000 ≤ al ∧ al ≤ ah ∧ ah ≤ 1000000000000000 := by
  simp [rangeOk, allIn] at h
  omega
theorem frac1_bounds {n d : Int} (h : fracOk (n, d) = true) : (-1000000000000000 ≤ n ∧ n ≤ 1000000000000000) ∧ 1 ≤ d ∧ d ≤ 1000000000000000 := by
  simp [fracOk, allIn, isDiv] at h
  omega
theorem scale_any (al ah nu de : Int) (w : World) :
    Calls Try.prog 44 #[.agg #[.int .i64 al, .int .i64 ah], .agg #[.int .i64 nu, .int .i64 de]] w fun e w' => e = .returned (.tuple #[.agg #[.int .i64 (scaleQ al ah nu de).1, .int .i64 (scaleQ al ah nu de).2.1], .int .i64 (scaleQ al ah nu de).2.2]) ∧ Below w.heap.size w w' := by
  unfold scaleQ
  have r1 : [(al, ah)].all rangeOk = rangeOk (al, ah) := by simp
  have r2 : [(nu, de)].all fracOk = fracOk (nu, de) := by simp
  cases h1 : rangeOk (al, ah) with
  | false =>
    rw [if_pos rfl]
    exact scale_bad al ah nu de 2 false _ w rfl (show ScCond al ah nu de 2 false _ from ⟨r1.trans h1, rfl, fun _ _ _ _ => rfl⟩)
  | true =>
    rw [if_neg (by simp)]
    cases h2 : fracOk (nu, de) with
    | false =>
      rw [if_pos rfl]
      exact scale_bad al ah nu de 2 true false w rfl (show ScCond al ah nu de 2 true false from ⟨r1.trans h1, r2.trans h2, fun _ _ _ _ => rfl⟩)
    | true =>
      rw [if_neg (by simp)]
      obtain ⟨a0, a1, a2⟩ := range1_bounds h1
      obtain ⟨⟨b0, b1⟩, b2, b3⟩ := frac1_bounds h2
      exact scale_good al ah nu de w (show ScCond al ah nu de 0 true true from ⟨r1.trans h1, r2.trans h2, fun _ _ _ _ => rfl⟩) a0 (by omega) (by omega) a2 b0 b1 b2 b3

theorem spread_one (al ah n1 d1 : Int) (a0 : -1000000000000000 ≤ al) (a1 : al ≤ 1000000000000000) (a2 : -1000000000000000 ≤ ah) (a3 : ah ≤ 1000000000000000) (h1 : -1000000000000000 ≤ n1) (h2 : n1 ≤ 1000000000000000) (h3 : 1 ≤ d1) (h4 : d1 ≤ 1000000000000000)
    (x : Int × Int × Int) (hx : gRes (gScale al ah n1 d1) = x) (a b : Option Addr) (ca cb : Nat) (w : World) (i1 : IsInts w a [al, ah]) (i2 : IsPairs w b [(n1, d1)]) :
    Calls Try.prog 100 #[.slice a 2 ca, .slice b 1 cb] w fun e w' => e = .returned (.tuple #[.agg #[.int .i64 x.1, .int .i64 x.2.1], .int .i64 x.2.2]) ∧ Below w.heap.size w w' := by
  have hq : ∀ i, i < 2 → 1 ≤ (qOf [al, ah] [(n1, d1)] 1 i).2.2 := by
    intro i hi
    match i, hi with
    | 0, _ => exact h3
    | 1, _ => exact h3
  have S := spread_is (qOf [al, ah] [(n1, d1)] 1) 1 hq
  have e : gRes (gF (qOf [al, ah] [(n1, d1)] 1) (1 + 1)) = x := hx
  rw [e] at S
  rw [S]
  refine spread_walk [al, ah] [(n1, d1)] a b ca cb 1 _ _ _ w rfl (by simp) (by omega) (hide ?_) (hide ?_) (hide fun W => fits_spr _ W) (hide i1) (hide i2)
  · intro i hi
    match i, hi with
    | 0, _ => exact ⟨a0, a1⟩
    | 1, _ => exact ⟨a2, a3⟩
  · intro i hi
    match i, hi with
    | 0, _ => exact ⟨⟨h1, h2⟩, h3, h4⟩

set_option maxHeartbeats 1600000 in
theorem refScale_bad1 (al ah nu de : Int) (w : World) (R1 : Hid (∀ W, Calls Try.prog 99 #[.agg #[.int .i64 al, .int .i64 ah]] W fun e w' => e = .returned (.bool false) ∧ Below W.heap.size W w')) :
    Calls Try.prog 45 #[.agg #[.int .i64 al, .int .i64 ah], .agg #[.int .i64 nu, .int .i64 de]] w fun e w' => e = .returned (.tuple #[.agg #[.int .i64 0, .int .i64 0], .int .i64 2]) ∧ Below w.heap.size w w' := by
  go_enter Try.func45, Try.ntmps45
  go_wp2_with fail
  refine (R1.out _).mono ?_
  rintro e w1 ⟨rfl, hb1⟩
  have c4 := later hb1 (a := ⟨w.heap.size + 1 + 1, 0, none⟩) (v := .int .i64 0) (by simp [go_sem, World.cell?_alloc_past])
  have c5 := later hb1 (a := ⟨w.heap.size + 1 + 1, 1, none⟩) (v := .int .i64 0) (by simp [go_sem, World.cell?_alloc_past])
  have f4 := free_later hb1 (a := ⟨w.heap.size + 1 + 1, 0, none⟩) (v := .int .i64 0) (by simp [go_sem, World.cell?_alloc_past]) (by simp [go_sem, World.cell?_alloc_past])
  have f5 := free_later hb1 (a := ⟨w.heap.size + 1 + 1, 1, none⟩) (v := .int .i64 0) (by simp [go_sem, World.cell?_alloc_past]) (by simp [go_sem, World.cell?_alloc_past])
  go_wp2_with fail
  exact bodyPost_ret (v := .tuple #[.agg #[.int .i64 0, .int .i64 0], .int .i64 2]) (by simp [results, Try.results45, go_sem, c4, c5]) rfl ⟨rfl, (by repeat (first | exact Below.refl _ _ | assumption | apply balloc | apply bdrew | (refine bset ?_ (by first | (simp; done) | omega | (simp; omega)) _) | (refine bnext ?_ (by assumption))))⟩
set_option maxHeartbeats 1600000 in
theorem refScale_bad2 (al ah nu de : Int) (w : World) (R1 : Hid (∀ W, Calls Try.prog 99 #[.agg #[.int .i64 al, .int .i64 ah]] W fun e w' => e = .returned (.bool true) ∧ Below W.heap.size W w')) (R2 : Hid (∀ W, Calls Try.prog 24 #[.agg #[.int .i64 nu, .int .i64 de]] W fun e w' => e = .returned (.bool false) ∧ Below W.heap.size W w')) :
    Calls Try.prog 45 #[.agg #[.int .i64 al, .int .i64 ah], .agg #[.int .i64 nu, .int .i64 de]] w fun e w' => e = .returned (.tuple #[.agg #[.int .i64 0, .int .i64 0], .int .i64 2]) ∧ Below w.heap.size w w' := by
  go_enter Try.func45, Try.ntmps45
  go_wp2_with fail
  refine (R1.out _).mono ?_
  rintro e w1 ⟨rfl, hb1⟩
  have c4 := later hb1 (a := ⟨w.heap.size + 1 + 1, 0, none⟩) (v := .int .i64 0) (by simp [go_sem, World.cell?_alloc_past])
  have c5 := later hb1 (a := ⟨w.heap.size + 1 + 1, 1, none⟩) (v := .int .i64 0) (by simp [go_sem, World.cell?_alloc_past])
  have f4 := free_later hb1 (a := ⟨w.heap.size + 1 + 1, 0, none⟩) (v := .int .i64 0) (by simp [go_sem, World.cell?_alloc_past]) (by simp [go_sem, World.cell?_alloc_past])
  have f5 := free_later hb1 (a := ⟨w.heap.size + 1 + 1, 1, none⟩) (v := .int .i64 0) (by simp [go_sem, World.cell?_alloc_past]) (by simp [go_sem, World.cell?_alloc_past])
  have c0 := later hb1 (a := ⟨w.heap.size, 0, none⟩) (v := .int .i64 al) (by simp [go_sem, World.cell?_alloc_past])
  have c1 := later hb1 (a := ⟨w.heap.size, 1, none⟩) (v := .int .i64 ah) (by simp [go_sem, World.cell?_alloc_past])
  have c2 := later hb1 (a := ⟨w.heap.size + 1, 0, none⟩) (v := .int .i64 nu) (by simp [go_sem, World.cell?_alloc_past])
  have c3 := later hb1 (a := ⟨w.heap.size + 1, 1, none⟩) (v := .int .i64 de) (by simp [go_sem, World.cell?_alloc_past])
  go_wp2_with fail
  refine (R2.out _).mono ?_
  rintro e w2 ⟨rfl, hb2⟩
  have e0 := later hb2 c0
  have e1 := later hb2 c1
  have e2 := fun o => later (balloc (o := o) (Below.refl _ _)) (later hb2 c2)
  have e3 := fun o => later (balloc (o := o) (Below.refl _ _)) (later hb2 c3)
  have ⟨d4, g4⟩ := cf_later hb2 ⟨c4, f4⟩
  have ⟨d5, g5⟩ := cf_later hb2 ⟨c5, f5⟩
  clear c0 c1 c2 c3 c4 c5 f4 f5
  go_wp2_with fail
  exact bodyPost_ret (v := .tuple #[.agg #[.int .i64 0, .int .i64 0], .int .i64 2]) (by simp [results, Try.results45, go_sem, d4, d5]) rfl ⟨rfl, (by repeat (first | exact Below.refl _ _ | assumption | apply balloc | apply bdrew | (refine bset ?_ (by first | (simp; done) | omega | (simp; omega)) _) | (refine bnext ?_ (by assumption))))⟩
set_option maxHeartbeats 1600000 in
theorem refScale_good (al ah nu de x y E : Int) (w : World) (R1 : Hid (∀ W, Calls Try.prog 99 #[.agg #[.int .i64 al, .int .i64 ah]] W fun e w' => e = .returned (.bool true) ∧ Below W.heap.size W w')) (R2 : Hid (∀ W, Calls Try.prog 24 #[.agg #[.int .i64 nu, .int .i64 de]] W fun e w' => e = .returned (.bool true) ∧ Below W.heap.size W w')) (F : Hid (∀ a b ca cb W, IsInts W a [al, ah] → IsPairs W b [(nu, de)] → Calls Try.prog 100 #[.slice a 2 ca, .slice b 1 cb] W fun e w' => e = .returned (.tuple #[.agg #[.int .i64 x, .int .i64 y], .int .i64 E]) ∧ Below W.heap.size W w')) :
    Calls Try.prog 45 #[.agg #[.int .i64 al, .int .i64 ah], .agg #[.int .i64 nu, .int .i64 de]] w fun e w' => e = .returned (.tuple #[.agg #[.int .i64 x, .int .i64 y], .int .i64 E]) ∧ Below w.heap.size w w' := by
  go_enter Try.func45, Try.ntmps45
  go_wp2_with fail
  refine (R1.out _).mono ?_
  rintro e w1 ⟨rfl, hb1⟩
  have c4 := later hb1 (a := ⟨w.heap.size + 1 + 1, 0, none⟩) (v := .int .i64 0) (by simp [go_sem, World.cell?_alloc_past])
  have c5 := later hb1 (a := ⟨w.heap.size + 1 + 1, 1, none⟩) (v := .int .i64 0) (by simp [go_sem, World.cell?_alloc_past])
  have f4 := free_later hb1 (a := ⟨w.heap.size + 1 + 1, 0, none⟩) (v := .int .i64 0) (by simp [go_sem, World.cell?_alloc_past]) (by simp [go_sem, World.cell?_alloc_past])
  have f5 := free_later hb1 (a := ⟨w.heap.size + 1 + 1, 1, none⟩) (v := .int .i64 0) (by simp [go_sem, World.cell?_alloc_past]) (by simp [go_sem, World.cell?_alloc_past])
  have c0 := later hb1 (a := ⟨w.heap.size, 0, none⟩) (v := .int .i64 al) (by simp [go_sem, World.cell?_alloc_past])
  have c1 := later hb1 (a := ⟨w.heap.size, 1, none⟩) (v := .int .i64 ah) (by simp [go_sem, World.cell?_alloc_past])
  have c2 := later hb1 (a := ⟨w.heap.size + 1, 0, none⟩) (v := .int .i64 nu) (by simp [go_sem, World.cell?_alloc_past])
  have c3 := later hb1 (a := ⟨w.heap.size + 1, 1, none⟩) (v := .int .i64 de) (by simp [go_sem, World.cell?_alloc_past])
  go_wp2_with fail
  refine (R2.out _).mono ?_
  rintro e w2 ⟨rfl, hb2⟩
  have e0 := later hb2 c0
  have e1 := later hb2 c1
  have e2 := fun o => later (balloc (o := o) (Below.refl _ _)) (later hb2 c2)
  have e3 := fun o => later (balloc (o := o) (Below.refl _ _)) (later hb2 c3)
  have ⟨d4, g4⟩ := cf_later hb2 ⟨c4, f4⟩
  have ⟨d5, g5⟩ := cf_later hb2 ⟨c5, f5⟩
  clear c0 c1 c2 c3 c4 c5 f4 f5
  go_wp2_with fail
  refine (F.out (some ⟨w2.heap.size, 0, none⟩) (some ⟨w2.heap.size + 1, 0, none⟩) _ _ _ ?_ ?_).mono ?_
  · exact ints_two_of (by simp [go_sem, World.cell?_alloc_past]) (by simp [go_sem, World.cell?_alloc_past])
  · exact pairs_one_of (by simp [go_sem, World.cell?_alloc_past]) (by simp [go_sem, World.cell?_alloc_past])
  rintro e w3 ⟨rfl, hb3⟩
  have ⟨c4, f4⟩ := cf_later hb3 (cf_later (balloc (balloc (Below.refl _ _))) ⟨d4, g4⟩)
  have ⟨c5, f5⟩ := cf_later hb3 (cf_later (balloc (balloc (Below.refl _ _))) ⟨d5, g5⟩)
  go_wp2_with fail
  have yy := two_set (x := .int .i64 x) (y := .int .i64 y) c4 c5
  exact bodyPost_ret (v := .tuple #[.agg #[.int .i64 x, .int .i64 y], .int .i64 E]) (by simp [results, Try.results45, go_sem, yy.1, yy.2]) rfl ⟨rfl, (by repeat (first | exact Below.refl _ _ | assumption | apply balloc | apply bdrew | (refine bset ?_ (by first | (simp; done) | omega | (simp; omega)) _) | (refine bnext ?_ (by assumption))))⟩
theorem refScale_any (al ah nu de : Int) (w : World) :
    Calls Try.prog 45 #[.agg #[.int .i64 al, .int .i64 ah], .agg #[.int .i64 nu, .int .i64 de]] w fun e w' => e = .returned (.tuple #[.agg #[.int .i64 (scaleQ al ah nu de).1, .int .i64 (scaleQ al ah nu de).2.1], .int .i64 (scaleQ al ah nu de).2.2]) ∧ Below w.heap.size w w' := by
  have R1 := fun W => refRange_any al ah W
  have R2 := fun W => refFrac_any nu de W
  unfold scaleQ
  cases h1 : rangeOk (al, ah) with
  | false => rw [h1] at R1; rw [if_pos rfl]; exact refScale_bad1 al ah nu de w R1
  | true =>
    rw [h1] at R1
    rw [if_neg (by simp)]
    cases h2 : fracOk (nu, de) with
    | false => rw [h2] at R2; rw [if_pos rfl]; exact refScale_bad2 al ah nu de w R1 R2
    | true =>
      rw [h2] at R2
      rw [if_neg (by simp)]
      obtain ⟨a0, a1, a2⟩ := range1_bounds h1
      obtain ⟨⟨b0, b1⟩, b2, b3⟩ := frac1_bounds h2
      exact refScale_good al ah nu de _ _ _ w R1 R2 (hide fun a b ca cb W i1 i2 => spread_one al ah nu de a0 (by omega) (by omega) a2 b0 b1 b2 b3 _ rfl a b ca cb W i1 i2)

set_option maxRecDepth 100000 in
set_option maxHeartbeats 3200000 in
theorem unitsScales_walk (al ah nu de : Int) (w : World) :
    Calls Try.prog 8 #[.agg #[.int .i64 al, .int .i64 ah], .agg #[.int .i64 nu, .int .i64 de]] w fun e w' => e = .returned (.bool true) ∧ Below w.heap.size w w' := by
  obtain ⟨A, hA⟩ : ∃ q, scaleQ al ah nu de = q := ⟨_, rfl⟩
  obtain ⟨A1, A2, A3⟩ := A
  have F1 := hide fun w => by have := scale_any al ah nu de w; rw [hA] at this; exact this
  have G1 := hide fun w => by have := refScale_any al ah nu de w; rw [hA] at this; exact this
  clear hA
  go_enter Try.func8, Try.ntmps8
  go_wp2_with fail
  refine (F1.out _).mono ?_
  rintro e w1 ⟨rfl, hb1⟩
  have y0 := fun o => later (balloc (o := o) (Below.refl _ _)) (later hb1 (a := ⟨w.heap.size, 0, none⟩) (v := .int .i64 al) (by simp [go_sem, World.cell?_alloc_past]))
  have y1 := fun o => later (balloc (o := o) (Below.refl _ _)) (later hb1 (a := ⟨w.heap.size, 1, none⟩) (v := .int .i64 ah) (by simp [go_sem, World.cell?_alloc_past]))
  have y2 := fun o => later (balloc (o := o) (Below.refl _ _)) (later hb1 (a := ⟨w.heap.size + 1, 0, none⟩) (v := .int .i64 nu) (by simp [go_sem, World.cell?_alloc_past]))
  have y3 := fun o => later (balloc (o := o) (Below.refl _ _)) (later hb1 (a := ⟨w.heap.size + 1, 1, none⟩) (v := .int .i64 de) (by simp [go_sem, World.cell?_alloc_past]))
  go_wp2_with fail
  refine (G1.out _).mono ?_
  rintro e w2 ⟨rfl, hb2⟩
  have x0 := fun o => later (balloc (o := o) (Below.refl _ _)) (later hb2 (a := ⟨w1.heap.size, 0, none⟩) (v := .int .i64 A1) (by simp [go_sem, World.cell?_alloc_past]))
  have x1 := fun o => later (balloc (o := o) (Below.refl _ _)) (later hb2 (a := ⟨w1.heap.size, 1, none⟩) (v := .int .i64 A2) (by simp [go_sem, World.cell?_alloc_past]))
  clear y0 y1 y2 y3
  go_wp2_with fail
  refine (known_any _).mono ?_
  rintro e w7 ⟨rfl, hb7⟩
  go_wp2_with fail
  go_ret
  exact ⟨rfl, (by repeat (first | exact Below.refl _ _ | assumption | apply balloc | apply bdrew | (refine bset ?_ (by first | (simp; done) | omega | (simp; omega)) _) | (refine bnext ?_ (by assumption))))⟩
end Go.Proofs.Ytckapcfofkeicaa
