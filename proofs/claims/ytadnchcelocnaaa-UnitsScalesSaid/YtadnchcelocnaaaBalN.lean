/-
  units: Balance, where the ranges are valid.
-/
import Derived.Test.YtadnchcelocnaaaBalA
namespace Go.Proofs.Ytadnchcelocnaaa
set_option linter.unusedSimpArgs false
set_option linter.unusedVariables false
open Go.RowKit

set_option maxHeartbeats 3200000 in
theorem balance_none (rs : List (Int × Int)) (a : Option Addr) (cap : Nat) (wl wh TL TH : Int) (w : World) (hc : Hid (BalCond rs wl wh 0 true true true)) (hl : rs.length ≤ 100) (h : Hid (IsPairs w a rs))
    (hT : Hid (∀ W, IsPairs W a rs → Calls Try.prog 88 #[.slice a rs.length cap] W fun e w' => e = .returned (.agg #[.int .i64 TL, .int .i64 TH]) ∧ Below W.heap.size W w')) (hd : Hid (decide (max TL wl ≤ min TH wh) = false)) :
    Calls Try.prog 46 #[.slice a rs.length cap, .agg #[.int .i64 wl, .int .i64 wh]] w fun e w' => e = .returned (.tuple #[.slice none 0 0, .agg #[.int .i64 0, .int .i64 0], .int .i64 7]) ∧ Below w.heap.size w w' := by
  go_enter Try.func46, Try.ntmps46
  go_upto_region 1 with fail
  go_cut [6] (fun s6 wx => s6 = .int .i64 0 ∧ (wx.cell? ⟨w.heap.size, 0, none⟩ = some (.int .i64 wl) ∧ wx.cell? ⟨w.heap.size, 1, none⟩ = some (.int .i64 wh)) ∧ (CF wx ⟨w.heap.size + 1, 0, none⟩ (.int .i64 0) ∧ CF wx ⟨w.heap.size + 1, 1, none⟩ (.int .i64 0)) ∧ Below w.heap.size w wx)
  case first =>
    have tok1 : True := trivial
    go_region_held3 (fun w' => w'.cell? ⟨w.heap.size, 0, none⟩ = some (.int .i64 wl) ∧ w'.cell? ⟨w.heap.size, 1, none⟩ = some (.int .i64 wh))
      (first | (refine ⟨?_, ?_⟩ <;> simp [go_sem, World.cell?_alloc_past]; done) | (go_split_ands; first | (exact ⟨later hbD (by assumption), later hbD (by assumption)⟩) | (exact ⟨later hbC (by assumption), later hbC (by assumption)⟩) | (exact ⟨later hbB (by assumption), later hbB (by assumption)⟩) | (exact ⟨later hbA (by assumption), later hbA (by assumption)⟩)) | (go_split_ands; exact ⟨later (balloc (Below.refl _ _)) (by assumption), later (balloc (Below.refl _ _)) (by assumption)⟩) | go_keep)
      (first
        | (go_at_call 81; refine (atMost_ex true _ _ _ hc.out.1).mono ?_; rintro e wA ⟨rfl, hA, hbA⟩; (try simp at hA))
        | (go_at_call 86; have _t := tok1; refine (validRanges_ex true a cap rs.length rs _ hc.out.2.1 rfl (by omega) (pairs_later h.out (by repeat (first | exact Below.refl _ _ | assumption | apply balloc | apply bdrew | (refine bnext ?_ (by assumption)))))).mono ?_; rintro e wB ⟨rfl, hB, hbB⟩; clear tok1 _t; (try simp at hB))
        | (go_at_call 86; refine (validRanges_ex true _ 1 1 [(wl, wh)] _ hc.out.2.2.1 rfl (by simp) (pairs_one_of (by repeat (first | (simp [go_sem, World.cell?_alloc_past]; done) | refine later hbD ?_ | refine later hbC ?_ | refine later hbB ?_ | refine later hbA ?_ | refine later (balloc (Below.refl _ _)) ?_)) (by repeat (first | (simp [go_sem, World.cell?_alloc_past]; done) | refine later hbD ?_ | refine later hbC ?_ | refine later hbB ?_ | refine later hbA ?_ | refine later (balloc (Below.refl _ _)) ?_)))).mono ?_; rintro e wC ⟨rfl, hC, hbC⟩; (try simp at hC))
        | (go_at_call 67; go_loud (refine (firstError_is 0 [⟨5, 114, _, true⟩, ⟨2, 114, _, true⟩, ⟨2, 114, _, true⟩] _ _ _ (hc.out.2.2.2 _ _ _ _ _ _) (by simp) (by simp) (cnds_three_at (by simp)) (tells_three (cnd_later hA (by repeat (first | exact Below.refl _ _ | assumption | apply balloc | apply bdrew | (refine bnext ?_ (by assumption))))) (fun _ => cnd_later hB (by repeat (first | exact Below.refl _ _ | assumption | apply balloc | apply bdrew | (refine bnext ?_ (by assumption))))) (fun _ _ => cnd_later hC (by repeat (first | exact Below.refl _ _ | assumption | apply balloc | apply bdrew | (refine bnext ?_ (by assumption))))))).mono ?_); rintro e wD ⟨rfl, hbD⟩))
    all_goals (go_wp2_with fail; go_meet; exact ⟨rfl, ⟨(by repeat (first | (simp [go_sem, World.cell?_alloc_past]; done) | refine later hbD ?_ | refine later hbC ?_ | refine later hbB ?_ | refine later hbA ?_ | refine later (balloc (Below.refl _ _)) ?_)), (by repeat (first | (simp [go_sem, World.cell?_alloc_past]; done) | refine later hbD ?_ | refine later hbC ?_ | refine later hbB ?_ | refine later hbA ?_ | refine later (balloc (Below.refl _ _)) ?_))⟩, ⟨(by repeat (first | (refine ⟨?_, ?_⟩ <;> (simp [go_sem, World.cell?_alloc_past]; done)) | refine cf_later hbD ?_ | refine cf_later hbC ?_ | refine cf_later hbB ?_ | refine cf_later hbA ?_ | refine cf_later (balloc (Below.refl _ _)) ?_)), (by repeat (first | (refine ⟨?_, ?_⟩ <;> (simp [go_sem, World.cell?_alloc_past]; done)) | refine cf_later hbD ?_ | refine cf_later hbC ?_ | refine cf_later hbB ?_ | refine cf_later hbA ?_ | refine cf_later (balloc (Below.refl _ _)) ?_))⟩, (by repeat (first | exact Below.refl _ _ | assumption | apply balloc | apply bdrew | (refine bnext ?_ (by assumption))))⟩)
  case rest =>
    have X := fun W => common_any TL TH wl wh W
    rw [hd.out] at X
    have X' := hide X
    clear X
    obtain ⟨rfl, ⟨c0, c1⟩, ⟨⟨c4, f4⟩, c5, f5⟩, hbw⟩ := hcut
    go_wp2_with fail
    refine (hT.out _ (pairs_later h.out hbw)).mono ?_
    rintro e w2 ⟨rfl, hb2⟩
    have d0 := later hb2 c0
    have d1 := later hb2 c1
    have ⟨d4, g4⟩ := cf_later hb2 ⟨c4, f4⟩
    have ⟨d5, g5⟩ := cf_later hb2 ⟨c5, f5⟩
    have z0 := World.block_lt_of_cell? _ _ d0
    have z4 := World.block_lt_of_cell? _ _ d4
    simp only at z0 z4
    have hbw2 := bnext hbw hb2
    clear c0 c1 c4 f4 c5 f5 hbw hb2
    go_wp2_with fail
    refine (X'.out _).mono ?_
    rintro e w3 ⟨rfl, hb3⟩
    have ⟨e4, k4⟩ := cf_later hb3 (cf_later (balloc (Below.refl _ _)) ⟨d4, g4⟩)
    have ⟨e5, k5⟩ := cf_later hb3 (cf_later (balloc (Below.refl _ _)) ⟨d5, g5⟩)
    go_wp2_with fail
    have y1 := two_set (x := .int .i64 (max TL wl)) (y := .int .i64 (min TH wh)) e4 e5
    have y2 := two_set (x := .int .i64 0) (y := .int .i64 0) y1.1 y1.2
    exact bodyPost_ret (v := .tuple #[.slice none 0 0, .agg #[.int .i64 0, .int .i64 0], .int .i64 7]) (by simp [results, Try.results46, go_sem, y2.1, y2.2]) rfl ⟨rfl, (by repeat (first | exact Below.refl _ _ | assumption | apply balloc | apply bdrew | (refine bset ?_ (by first | (simp; done) | omega | (simp; omega)) _) | (refine bnext ?_ (by assumption))))⟩

end Go.Proofs.Ytadnchcelocnaaa
