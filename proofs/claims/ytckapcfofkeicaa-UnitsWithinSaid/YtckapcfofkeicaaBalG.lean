/-
  units: limited, total, common. units: Balance: its conditions. units: Balance, where the ranges are valid. units: Balance, where something is left.
-/
import Derived.Test.YtckapcfofkeicaaTimes
import Derived.Deep.DeepCutAuto
import Derived.OwnWalk
namespace Go.Proofs.Ytckapcfofkeicaa
set_option linter.unusedSimpArgs false
set_option linter.unusedVariables false
open Go.RowKit

set_option maxHeartbeats 400000 in
/-- What two ranges have in common, and whether they have anything. -/
theorem common_any (al ah bl bh : Int) (w : World) :
    Calls Try.prog 90 #[.agg #[.int .i64 al, .int .i64 ah], .agg #[.int .i64 bl, .int .i64 bh]] w fun e w' => e = .returned (.tuple #[.agg #[.int .i64 (max al bl), .int .i64 (min ah bh)], .bool (decide (max al bl ≤ min ah bh))]) ∧ Below w.heap.size w w' := by
  have e1 : (if al < bl then bl else al) = max al bl := by rw [Int.max_def]; split <;> split <;> omega
  have e2 : (if bh < ah then bh else ah) = min ah bh := by rw [Int.min_def]; split <;> split <;> omega
  generalize max al bl = x at *
  generalize min ah bh = y at *
  go_enter Try.func90, Try.ntmps90
  go_wp2
  exact bodyPost_ret (v := .tuple #[.agg #[.int .i64 x, .int .i64 y], .bool (decide (x ≤ y))]) (by simp [results, Try.results90, go_sem]) rfl ⟨rfl, (by repeat (first | exact Below.refl _ _ | assumption | apply balloc | apply bdrew | (refine bset ?_ (by first | (simp; done) | omega | (simp; omega)) _) | (refine bnext ?_ (by assumption))))⟩

set_option maxHeartbeats 400000 in
theorem limited_any (x y : Int) (k : Bool) (w : World) (hk : Hid (allIn 1000000000000000 [x, y] = k)) :
    Calls Try.prog 87 #[.agg #[.int .i64 x, .int .i64 y]] w fun e w' => e = .returned (.tuple #[.agg #[.int .i64 (if k then x else 0), .int .i64 (if k then y else 0)], .int .i64 (if k then 0 else 10)]) ∧ Below w.heap.size w w' := by
  have C := fun w' hw => areNumbers_any [x, y] (some ⟨w.heap.size + 1 + 1, 0, none⟩) 2 w' hw (by simp)
  rw [hk.out] at C
  have C' := hide C
  clear C
  cases k with
  | false =>
    go_enter Try.func87, Try.ntmps87
    go_wp2_with (go_at_call 71; refine (C'.out _ (ints_two_at (by simp))).mono ?_; rintro e w' ⟨rfl, rfl⟩)
    exact bodyPost_ret (v := .tuple #[.agg #[.int .i64 0, .int .i64 0], .int .i64 10]) (by simp [results, Try.results87, go_sem]) rfl ⟨rfl, (by repeat (first | exact Below.refl _ _ | assumption | apply balloc | apply bdrew | (refine bset ?_ (by first | (simp; done) | omega | (simp; omega)) _) | (refine bnext ?_ (by assumption))))⟩
  | true =>
    go_enter Try.func87, Try.ntmps87
    go_wp2_with (go_at_call 71; refine (C'.out _ (ints_two_at (by simp))).mono ?_; rintro e w' ⟨rfl, rfl⟩)
    exact bodyPost_ret (v := .tuple #[.agg #[.int .i64 x, .int .i64 y], .int .i64 0]) (by simp [results, Try.results87, go_sem]) rfl ⟨rfl, (by repeat (first | exact Below.refl _ _ | assumption | apply balloc | apply bdrew | (refine bset ?_ (by first | (simp; done) | omega | (simp; omega)) _) | (refine bnext ?_ (by assumption))))⟩

set_option maxHeartbeats 800000 in
theorem total_any (rs : List (Int × Int)) (a : Option Addr) (cap : Nat) (w : World) (L H : Nat → Int) (hl : rs.length ≤ 1000) (h : Hid (IsPairs w a rs)) (hL0 : Hid (L 0 = 0)) (hH0 : Hid (H 0 = 0))
    (hL : Hid (∀ k, k < rs.length → L k + (rs.getD k (0, 0)).1 = L (k + 1))) (hH : Hid (∀ k, k < rs.length → H k + (rs.getD k (0, 0)).2 = H (k + 1)))
    (bL : Hid (∀ k, k ≤ rs.length → -1000000000000000000 ≤ L k ∧ L k ≤ 1000000000000000000)) (bH : Hid (∀ k, k ≤ rs.length → -1000000000000000000 ≤ H k ∧ H k ≤ 1000000000000000000)) :
    Calls Try.prog 88 #[.slice a rs.length cap] w fun e w' => e = .returned (.agg #[.int .i64 (L rs.length), .int .i64 (H rs.length)]) ∧ Below w.heap.size w w' := by
  go_enter Try.func88, Try.ntmps88
  go_wp2
  go_loopw [8] (fun i wr => ∃ k : Nat, k ≤ rs.length ∧ i = .int .i64 (k : Int) ∧ (wr.cell? ⟨w.heap.size, 0, none⟩ = some (.int .i64 0) ∧ wr.cell? ⟨w.heap.size, 1, none⟩ = some (.int .i64 0) ∧ wr.frozen? ⟨w.heap.size, 0, none⟩ = false ∧ wr.frozen? ⟨w.heap.size, 1, none⟩ = false) ∧
    (wr.cell? ⟨w.heap.size + 1, 0, none⟩ = some (.int .i64 (L k)) ∧ wr.cell? ⟨w.heap.size + 1, 1, none⟩ = some (.int .i64 (H k)) ∧ wr.frozen? ⟨w.heap.size + 1, 0, none⟩ = false ∧ wr.frozen? ⟨w.heap.size + 1, 1, none⟩ = false) ∧ Below w.heap.size w wr) (fun i _ => rs.length - (intOf i).toNat)
  case atStart => exact ⟨0, by omega, rfl, ⟨(by simp [go_sem, World.cell?_alloc_past]), (by simp [go_sem, World.cell?_alloc_past]), (by simp [go_sem, World.cell?_alloc_past]), (by simp [go_sem, World.cell?_alloc_past])⟩, ⟨by rw [hL0.out]; exact (by simp [go_sem, World.cell?_alloc_past]), by rw [hH0.out]; exact (by simp [go_sem, World.cell?_alloc_past]), (by simp [go_sem, World.cell?_alloc_past]), (by simp [go_sem, World.cell?_alloc_past])⟩, (by repeat (first | exact Below.refl _ _ | assumption | apply balloc | apply bdrew | (refine bset ?_ (by first | (simp; done) | omega | (simp; omega)) _) | (refine bnext ?_ (by assumption))))⟩
  case round =>
    obtain ⟨k, hk, rfl, ⟨r1, r2, r3, r4⟩, ⟨t1, t2, t3, t4⟩, hbw⟩ := hrel
    have z0 := World.block_lt_of_cell? _ _ t1
    simp only at z0
    by_cases hlt : k < rs.length
    · obtain ⟨b, off, rfl, hc⟩ : ∃ b off, a = some ⟨b, off, none⟩ ∧ ∀ i, i < rs.length → wr.cell? ⟨b, off + i * 2, none⟩ = some (.int .i64 (rs.getD i (0, 0)).1) ∧ wr.cell? ⟨b, off + i * 2 + 1, none⟩ = some (.int .i64 (rs.getD i (0, 0)).2) := by
        rcases pairs_later h.out hbw with h | h
        · subst h; simp at hlt
        · exact h
      obtain ⟨c1, c2⟩ := hc k hlt
      clear hc
      have e1 := hL.out k hlt
      have e2 := hH.out k hlt
      obtain ⟨x1, x2⟩ := bL.out (k + 1) (by omega)
      obtain ⟨x3, x4⟩ := bH.out (k + 1) (by omega)
      generalize rs.getD k (0, 0) = z at *
      obtain ⟨x, y⟩ := z
      simp only at c1 c2 e1 e2
      have Y := two_set (x := .int .i64 (L (k + 1))) (y := .int .i64 (H (k + 1))) t1 t2
      have F1 : ((wr.setCell ⟨w.heap.size + 1, 0, none⟩ (.int .i64 (L (k + 1)))).setCell ⟨w.heap.size + 1, 1, none⟩ (.int .i64 (H (k + 1)))).frozen? ⟨w.heap.size + 1, 0, none⟩ = false := by simp [go_sem, t3]
      have F2 : ((wr.setCell ⟨w.heap.size + 1, 0, none⟩ (.int .i64 (L (k + 1)))).setCell ⟨w.heap.size + 1, 1, none⟩ (.int .i64 (H (k + 1)))).frozen? ⟨w.heap.size + 1, 1, none⟩ = false := by simp [go_sem, t4]
      have HY := hide Y
      have HF1 := hide F1
      have HF2 := hide F2
      clear Y F1 F2
      go_wp2
      go_roundw
      case rel =>
        have Ta : ∀ o, Touch (w.heap.size + 1) wr (((wr.setCell ⟨w.heap.size + 1, 0, none⟩ (.int .i64 (L (k + 1)))).setCell ⟨w.heap.size + 1, 1, none⟩ (.int .i64 (H (k + 1)))).alloc o) := fun o => (by repeat (first | exact Touch.refl _ _ | assumption | (refine tset ?_ (by rfl) _) | apply talloc | apply tdrew | (refine tnext ?_ (by assumption)) | (refine Touch.trans ?_ (by assumption))))
        have Be := fun o => balloc (o := o) (Below.refl _ ((wr.setCell ⟨w.heap.size + 1, 0, none⟩ (.int .i64 (L (k + 1)))).setCell ⟨w.heap.size + 1, 1, none⟩ (.int .i64 (H (k + 1)))))
        exact ⟨k + 1, by omega, by go_num, ⟨(Ta _).cell (by simp) r1, (Ta _).cell (by simp) r2, (Ta _).free (by simp) r1 r3, (Ta _).free (by simp) r2 r4⟩,
          ⟨later (Be _) HY.out.1, later (Be _) HY.out.2, free_later (Be _) HY.out.1 HF1.out, free_later (Be _) HY.out.2 HF2.out⟩, (Ta _).below hbw (by omega)⟩
      case measure => simp [intOf]; omega
    · obtain rfl : k = rs.length := by omega
      go_wp2
      exact bodyPost_ret (v := .agg #[.int .i64 (L rs.length), .int .i64 (H rs.length)]) (by simp [results, Try.results88, go_sem, r1, r2]) rfl ⟨rfl, (by repeat (first | exact Below.refl _ _ | assumption | apply balloc | apply bdrew | (refine bset ?_ (by first | (simp; done) | omega | (simp; omega)) _) | (refine bnext ?_ (by assumption))))⟩
end Go.Proofs.Ytckapcfofkeicaa

namespace Go.Proofs.Ytckapcfofkeicaa
set_option linter.unusedSimpArgs false
set_option linter.unusedVariables false
open Go.RowKit

/-- A cell that holds v and may be written. -/
def CF (w : World) (a : Addr) (v : Value) : Prop := w.cell? a = some v ∧ w.frozen? a = false
theorem cf_later {w W : World} {a : Addr} {v : Value} (hb : Below w.heap.size w W) (h : CF w a v) : CF W a v := ⟨later hb h.1, free_later hb h.1 h.2⟩

/-- The conditions of Balance come to E. -/
def BalCond (rs : List (Int × Int)) (wl wh E : Int) (k1 k2 k3 : Bool) : Prop :=
  decide ((rs.length : Int) ≤ 100) = k1 ∧ rs.all rangeOk = k2 ∧ [(wl, wh)].all rangeOk = k3 ∧ ∀ f1 c1 f2 c2 f3 c3, firstE [⟨5, f1, c1, k1⟩, ⟨2, f2, c2, k2⟩, ⟨2, f3, c3, k3⟩] = E

set_option maxHeartbeats 3200000 in
theorem balance_bad (rs : List (Int × Int)) (a : Option Addr) (cap : Nat) (wl wh E : Int) (k1 k2 k3 : Bool) (w : World) (hE : (E == 0) = false) (hc : Hid (BalCond rs wl wh E k1 k2 k3)) (hl : rs.length ≤ 140737488351232) (h : Hid (IsPairs w a rs)) :
    Calls Try.prog 46 #[.slice a rs.length cap, .agg #[.int .i64 wl, .int .i64 wh]] w fun e w' => e = .returned (.tuple #[.slice none 0 0, .agg #[.int .i64 0, .int .i64 0], .int .i64 E]) ∧ Below w.heap.size w w' := by
  go_enter Try.func46, Try.ntmps46
  go_upto_region 1 with fail
  go_cut [6] (fun s6 wx => s6 = .int .i64 E ∧ (wx.cell? ⟨w.heap.size, 0, none⟩ = some (.int .i64 wl) ∧ wx.cell? ⟨w.heap.size, 1, none⟩ = some (.int .i64 wh)) ∧ (CF wx ⟨w.heap.size + 1, 0, none⟩ (.int .i64 0) ∧ CF wx ⟨w.heap.size + 1, 1, none⟩ (.int .i64 0)) ∧ Below w.heap.size w wx)
  case first =>
    have tok1 : True := trivial
    go_region_held3 (fun w' => w'.cell? ⟨w.heap.size, 0, none⟩ = some (.int .i64 wl) ∧ w'.cell? ⟨w.heap.size, 1, none⟩ = some (.int .i64 wh))
      (first | (refine ⟨?_, ?_⟩ <;> simp [go_sem, World.cell?_alloc_past]; done) | (go_split_ands; first | (exact ⟨later hbD (by assumption), later hbD (by assumption)⟩) | (exact ⟨later hbC (by assumption), later hbC (by assumption)⟩) | (exact ⟨later hbB (by assumption), later hbB (by assumption)⟩) | (exact ⟨later hbA (by assumption), later hbA (by assumption)⟩)) | (go_split_ands; exact ⟨later (balloc (Below.refl _ _)) (by assumption), later (balloc (Below.refl _ _)) (by assumption)⟩) | go_keep)
      (first
        | (go_at_call 81; refine (atMost_ex k1 _ _ _ hc.out.1).mono ?_; rintro e wA ⟨rfl, hA, hbA⟩; (try simp at hA))
        | (go_at_call 86; have _t := tok1; refine (validRanges_ex k2 a cap rs.length rs _ hc.out.2.1 rfl hl (pairs_later h.out (by repeat (first | exact Below.refl _ _ | assumption | apply balloc | apply bdrew | (refine bnext ?_ (by assumption)))))).mono ?_; rintro e wB ⟨rfl, hB, hbB⟩; clear tok1 _t; (try simp at hB))
        | (go_at_call 86; refine (validRanges_ex k3 _ 1 1 [(wl, wh)] _ hc.out.2.2.1 rfl (by simp) (pairs_one_of (by repeat (first | (simp [go_sem, World.cell?_alloc_past]; done) | refine later hbD ?_ | refine later hbC ?_ | refine later hbB ?_ | refine later hbA ?_ | refine later (balloc (Below.refl _ _)) ?_)) (by repeat (first | (simp [go_sem, World.cell?_alloc_past]; done) | refine later hbD ?_ | refine later hbC ?_ | refine later hbB ?_ | refine later hbA ?_ | refine later (balloc (Below.refl _ _)) ?_)))).mono ?_; rintro e wC ⟨rfl, hC, hbC⟩; (try simp at hC))
        | (go_at_call 67; go_loud (refine (firstError_is E [⟨5, 114, _, k1⟩, ⟨2, 114, _, k2⟩, ⟨2, 114, _, k3⟩] _ _ _ (hc.out.2.2.2 _ _ _ _ _ _) (by simp) (by simp) (cnds_three_at (by simp)) (tells_three (cnd_later hA (by repeat (first | exact Below.refl _ _ | assumption | apply balloc | apply bdrew | (refine bnext ?_ (by assumption))))) (fun _ => cnd_later hB (by repeat (first | exact Below.refl _ _ | assumption | apply balloc | apply bdrew | (refine bnext ?_ (by assumption))))) (fun _ _ => cnd_later hC (by repeat (first | exact Below.refl _ _ | assumption | apply balloc | apply bdrew | (refine bnext ?_ (by assumption))))))).mono ?_); rintro e wD ⟨rfl, hbD⟩))
    all_goals (go_wp2_with fail; go_meet; exact ⟨rfl, ⟨(by repeat (first | (simp [go_sem, World.cell?_alloc_past]; done) | refine later hbD ?_ | refine later hbC ?_ | refine later hbB ?_ | refine later hbA ?_ | refine later (balloc (Below.refl _ _)) ?_)), (by repeat (first | (simp [go_sem, World.cell?_alloc_past]; done) | refine later hbD ?_ | refine later hbC ?_ | refine later hbB ?_ | refine later hbA ?_ | refine later (balloc (Below.refl _ _)) ?_))⟩, ⟨(by repeat (first | (refine ⟨?_, ?_⟩ <;> (simp [go_sem, World.cell?_alloc_past]; done)) | refine cf_later hbD ?_ | refine cf_later hbC ?_ | refine cf_later hbB ?_ | refine cf_later hbA ?_ | refine cf_later (balloc (Below.refl _ _)) ?_)), (by repeat (first | (refine ⟨?_, ?_⟩ <;> (simp [go_sem, World.cell?_alloc_past]; done)) | refine cf_later hbD ?_ | refine cf_later hbC ?_ | refine cf_later hbB ?_ | refine cf_later hbA ?_ | refine cf_later (balloc (Below.refl _ _)) ?_))⟩, (by repeat (first | exact Below.refl _ _ | assumption | apply balloc | apply bdrew | (refine bnext ?_ (by assumption))))⟩)
  case rest =>
    obtain ⟨rfl, ⟨c0, c1⟩, ⟨⟨c4, f4⟩, c5, f5⟩, hbw⟩ := hcut
    go_wp2
    exact bodyPost_ret (v := .tuple #[.slice none 0 0, .agg #[.int .i64 0, .int .i64 0], .int .i64 E]) (by simp [results, Try.results46, go_sem, c4, c5]) rfl ⟨rfl, (by repeat (first | exact Below.refl _ _ | assumption | apply balloc | apply bdrew | (refine bset ?_ (by first | (simp; done) | omega | (simp; omega)) _) | (refine bnext ?_ (by assumption))))⟩
end Go.Proofs.Ytckapcfofkeicaa

namespace Go.Proofs.Ytckapcfofkeicaa
set_option linter.unusedSimpArgs false
set_option linter.unusedVariables false
open Go.RowKit

set_option maxHeartbeats 3200000 in
theorem balance_none (rs : List (Int × Int)) (a : Option Addr) (cap : Nat) (wl wh TL TH : Int) (w : World) (hc : Hid (BalCond rs wl wh 0 true true true)) (hl : rs.length ≤ 100) (h : Hid (IsPairs w a rs))
    (hT : Hid (∀ W, IsPairs W a rs → Calls Try.prog 88 #[.slice a rs.length cap] W fun e w' => e = .returned (.agg #[.int .i64 TL, .int .i64 TH]) ∧ Below W.heap.size W w')) (hd : Hid (decide (max TL wl ≤ min TH wh) = false)) :
    Calls Try.prog 46 #[.slice a rs.length cap, .agg #[.int .i64 wl, .int .i64 wh]] w fun e w' => e = .returned (.tuple #[.slice none 0 0, .agg #[.int .i64 0, .int .i64 0], .int .i64 7]) ∧ Below w.heap.size w w' := by
  go_enter Try.func46, Try.ntmps46
  go_upto_region 1 with fail
  go_cut [6] (fun s6 wx => s6 = .int .i64 0 ∧ (wx.cell? ⟨w.heap.size, 0, none⟩ = some (.int .i64 wl) ∧ wx.cell? ⟨w.heap.size, 1, none⟩ = some (.int .i64 wh)) ∧ (CF wx ⟨w.heap.size + 1, 0, none⟩ (.int .i64 0) ∧ CF wx ⟨w.heap.size + 1, 1, none⟩ (.int .i64 0)) ∧ Below w.heap.size w wx)
  case first =>
    have tok1 : True := trivial
    go_region_held3 (fun w' => w'.cell? ⟨w.heap.size, 0, none⟩ = some (.int .i64 wl) ∧ w'.cell? ⟨w.heap.size, 1, none⟩ = some (.int .i64 wh))
      (first | (refine ⟨?_, ?_⟩ <;> simp [go_sem, World.cell?_alloc_past]; done) | (go_split_ands; first | (exact ⟨later hbD (by assumption), later hbD (by assumption)⟩) | (exact ⟨later hbC (by assumption), later hbC (by assumption)⟩) | (exact ⟨later hbB (by assumption), later hbB (by assumption)⟩) | (exact ⟨later hbA (by assumption), later hbA (by assumption)⟩)) | (go_split_ands; exact ⟨later (balloc (Below.refl _ _)) (by assumption), later (balloc (Below.refl _ _)) (by assumption)⟩) | go_keep)
      (first
        | (go_at_call 81; refine (atMost_ex true _ _ _ hc.out.1).mono ?_; rintro e wA ⟨rfl, hA, hbA⟩; (try simp at hA))
        | (go_at_call 86; have _t := tok1; refine (validRanges_ex true a cap rs.length rs _ hc.out.2.1 rfl (by omega) (pairs_later h.out (by repeat (first | exact Below.refl _ _ | assumption | apply balloc | apply bdrew | (refine bnext ?_ (by assumption)))))).mono ?_; rintro e wB ⟨rfl, hB, hbB⟩; clear tok1 _t; (try simp at hB))
        | (go_at_call 86; refine (validRanges_ex true _ 1 1 [(wl, wh)] _ hc.out.2.2.1 rfl (by simp) (pairs_one_of (by repeat (first | (simp [go_sem, World.cell?_alloc_past]; done) | refine later hbD ?_ | refine later hbC ?_ | refine later hbB ?_ | refine later hbA ?_ | refine later (balloc (Below.refl _ _)) ?_)) (by repeat (first | (simp [go_sem, World.cell?_alloc_past]; done) | refine later hbD ?_ | refine later hbC ?_ | refine later hbB ?_ | refine later hbA ?_ | refine later (balloc (Below.refl _ _)) ?_)))).mono ?_; rintro e wC ⟨rfl, hC, hbC⟩; (try simp at hC))
        | (go_at_call 67; go_loud (refine (firstError_is 0 [⟨5, 114, _, true⟩, ⟨2, 114, _, true⟩, ⟨2, 114, _, true⟩] _ _ _ (hc.out.2.2.2 _ _ _ _ _ _) (by simp) (by simp) (cnds_three_at (by simp)) (tells_three (cnd_later hA (by repeat (first | exact Below.refl _ _ | assumption | apply balloc | apply bdrew | (refine bnext ?_ (by assumption))))) (fun _ => cnd_later hB (by repeat (first | exact Below.refl _ _ | assumption | apply balloc | apply bdrew | (refine bnext ?_ (by assumption))))) (fun _ _ => cnd_later hC (by repeat (first | exact Below.refl _ _ | assumption | apply balloc | apply bdrew | (refine bnext ?_ (by assumption))))))).mono ?_); rintro e wD ⟨rfl, hbD⟩))
    all_goals (go_wp2_with fail; go_meet; exact ⟨rfl, ⟨(by repeat (first | (simp [go_sem, World.cell?_alloc_past]; done) | refine later hbD ?_ | refine later hbC ?_ | refine later hbB ?_ | refine later hbA ?_ | refine later (balloc (Below.refl _ _)) ?_)), (by repeat (first | (simp [go_sem, World.cell?_alloc_past]; done) | refine later hbD ?_ | refine later hbC ?_ | refine later hbB ?_ | refine later hbA ?_ | refine later (balloc (Below.refl _ _)) ?_))⟩, ⟨(by repeat (first | (refine ⟨?_, ?_⟩ <;> (simp [go_sem, World.cell?_alloc_past]; done)) | refine cf_later hbD ?_ | refine cf_later hbC ?_ | refine cf_later hbB ?_ | refine cf_later hbA ?_ | refine cf_later (balloc (Below.refl _ _)) ?_)), (by repeat (first | (refine ⟨?_, ?_⟩ <;> (simp [go_sem, World.cell?_alloc_past]; done)) | refine cf_later hbD ?_ | refine cf_later hbC ?_ | refine cf_later hbB ?_ | refine cf_later hbA ?_ | refine cf_later (balloc (Below.refl _ _)) ?_))⟩, (by repeat (first | exact Below.refl _ _ | assumption | apply balloc | apply bdrew | (refine bnext ?_ (by assumption))))⟩)
  case rest =>
    have X := fun W => common_any TL TH wl wh W
    rw [hd.out] at X
    have X' := hide X
    clear X
    obtain ⟨rfl, ⟨c0, c1⟩, ⟨⟨c4, f4⟩, c5, f5⟩, hbw⟩ := hcut
    go_wp2_with fail
    refine (hT.out _ (pairs_later h.out hbw)).mono ?_
    rintro e w2 ⟨rfl, hb2⟩
    have d0 := later hb2 c0
    have d1 := later hb2 c1
    have ⟨d4, g4⟩ := cf_later hb2 ⟨c4, f4⟩
    have ⟨d5, g5⟩ := cf_later hb2 ⟨c5, f5⟩
    have z0 := World.block_lt_of_cell? _ _ d0
    have z4 := World.block_lt_of_cell? _ _ d4
    simp only at z0 z4
    have hbw2 := bnext hbw hb2
    clear c0 c1 c4 f4 c5 f5 hbw hb2
    go_wp2_with fail
    refine (X'.out _).mono ?_
    rintro e w3 ⟨rfl, hb3⟩
    have ⟨e4, k4⟩ := cf_later hb3 (cf_later (balloc (Below.refl _ _)) ⟨d4, g4⟩)
    have ⟨e5, k5⟩ := cf_later hb3 (cf_later (balloc (Below.refl _ _)) ⟨d5, g5⟩)
    go_wp2_with fail
    have y1 := two_set (x := .int .i64 (max TL wl)) (y := .int .i64 (min TH wh)) e4 e5
    have y2 := two_set (x := .int .i64 0) (y := .int .i64 0) y1.1 y1.2
    exact bodyPost_ret (v := .tuple #[.slice none 0 0, .agg #[.int .i64 0, .int .i64 0], .int .i64 7]) (by simp [results, Try.results46, go_sem, y2.1, y2.2]) rfl ⟨rfl, (by repeat (first | exact Below.refl _ _ | assumption | apply balloc | apply bdrew | (refine bset ?_ (by first | (simp; done) | omega | (simp; omega)) _) | (refine bnext ?_ (by assumption))))⟩

end Go.Proofs.Ytckapcfofkeicaa

namespace Go.Proofs.Ytckapcfofkeicaa
set_option linter.unusedSimpArgs false
set_option linter.unusedVariables false
open Go.RowKit

theorem range_info : (Try.prog.info? 46).map (fun i => (i.zero, i.size, i.bytes)) = some (some (.agg #[.int .i64 0, .int .i64 0]), 2, 16) := by kernel_rfl

theorem sz_set (W : World) (p : Addr) (v : Value) : (W.setCell p v).heap.size = W.heap.size := by simp [World.setCell]

theorem cf_touch {b : Nat} {w W : World} {p : Addr} {v : Value} (h : Touch b w W) (hp : p.block ≠ b) (hc : CF w p v) : CF W p v := ⟨h.cell hp hc.1, h.free hp hc.1 hc.2⟩

/-- The ranges after k rounds: the first k are there. -/
def narrowAt (f : Nat → Int × Int) (n k : Nat) : List Value := (List.range (n * 2)).map fun j => .int .i64 (if j / 2 < k then (if j % 2 = 0 then (f (j / 2)).1 else (f (j / 2)).2) else 0)
theorem narrowAt_zero (f : Nat → Int × Int) (n : Nat) : (madeCells (Value.agg #[.int .i64 0, .int .i64 0]).cells (n * 2)).toList = narrowAt f n 0 := by
  unfold madeCells narrowAt
  simp [Value.cells]
  intro i _
  obtain h | h : i % 2 = 0 ∨ i % 2 = 1 := by omega
  · rw [h]; rfl
  · rw [h]; rfl
theorem narrowAt_set (f : Nat → Int × Int) (n k : Nat) (h : k < n) : ((narrowAt f n k).set (k * 2) (.int .i64 (f k).1)).set (k * 2 + 1) (.int .i64 (f k).2) = narrowAt f n (k + 1) := by
  unfold narrowAt
  apply List.ext_getElem
  · simp
  · intro i h1 h2
    rw [List.getElem_set, List.getElem_set]
    by_cases e : k * 2 + 1 = i
    · subst e
      have a : (k * 2 + 1) / 2 = k := by omega
      have b : (k * 2 + 1) % 2 = 1 := by omega
      simp [a, b]
    · rw [if_neg e]
      by_cases e' : k * 2 = i
      · subst e'
        have a : k * 2 / 2 = k := by omega
        have b : k * 2 % 2 = 0 := by omega
        simp [a, b]
      · rw [if_neg e']
        have : (i / 2 < k + 1) ↔ (i / 2 < k) := by omega
        simp [this]
theorem narrowAt_get (f : Nat → Int × Int) (n k : Nat) (h : k < n) : (narrowAt f n k)[k * 2]? = some (.int .i64 0) ∧ (narrowAt f n k)[k * 2 + 1]? = some (.int .i64 0) := by
  unfold narrowAt
  have a : ¬ k * 2 / 2 < k := by omega
  have b : ¬ (k * 2 + 1) / 2 < k := by omega
  constructor
  · rw [List.getElem?_map, List.getElem?_range (by omega)]; simp [a]
  · rw [List.getElem?_map, List.getElem?_range (by omega)]; simp [b]

set_option maxRecDepth 100000 in
set_option maxHeartbeats 3200000 in
theorem balance_good (rs : List (Int × Int)) (a : Option Addr) (cap : Nat) (wl wh TL TH SL SH : Int) (w : World) (hc : Hid (BalCond rs wl wh 0 true true true)) (hl : rs.length ≤ 100) (h : Hid (IsPairs w a rs))
    (hT : Hid (∀ W, IsPairs W a rs → Calls Try.prog 88 #[.slice a rs.length cap] W fun e w' => e = .returned (.agg #[.int .i64 TL, .int .i64 TH]) ∧ Below W.heap.size W w')) (hS1 : Hid (max TL wl = SL)) (hS2 : Hid (min TH wh = SH)) (hd : Hid (decide (SL ≤ SH) = true)) (hSb : Hid (-1000000000000000000 ≤ SL ∧ SL ≤ 1000000000000000000 ∧ -1000000000000000000 ≤ SH ∧ SH ≤ 1000000000000000000)) (f : Nat → Int × Int)
    (hr : Hid (∀ k, k < rs.length → -1000000000000000 ≤ (rs.getD k (0, 0)).1 ∧ (rs.getD k (0, 0)).1 ≤ 1000000000000000 ∧ -1000000000000000 ≤ (rs.getD k (0, 0)).2 ∧ (rs.getD k (0, 0)).2 ≤ 1000000000000000))
    (hw : Hid (-1000000000000000 ≤ wl ∧ wl ≤ 1000000000000000 ∧ -1000000000000000 ≤ wh ∧ wh ≤ 1000000000000000)) (hTb : Hid (-1000000000000000000 ≤ TL ∧ TL ≤ 1000000000000000000 ∧ -1000000000000000000 ≤ TH ∧ TH ≤ 1000000000000000000))
    (hf : Hid (∀ k, k < rs.length → f k = (max (rs.getD k (0, 0)).1 (SL - (TH - (rs.getD k (0, 0)).2)), min (rs.getD k (0, 0)).2 (SH - (TL - (rs.getD k (0, 0)).1))))) :
    Calls Try.prog 46 #[.slice a rs.length cap, .agg #[.int .i64 wl, .int .i64 wh]] w fun e w' => ∃ g, e = .returned (.tuple #[.slice (some ⟨g, 0, none⟩) rs.length rs.length, .agg #[.int .i64 SL, .int .i64 SH], .int .i64 0]) ∧ w'.ownsRow w.heap.size 46 2 (.slice (some ⟨g, 0, none⟩) rs.length rs.length) rs.length (narrowAt f rs.length rs.length) ∧ Below w.heap.size w w' := by
  obtain ⟨ti, hi, hz0, hz1, hz2⟩ := info_parts range_info
  have m1 := hide (show ti.bytes * rs.length ≤ 281474976710656 by rw [hz2]; omega)
  have m2 := hide (show rs.length ≤ maxLen by unfold maxLen; omega)
  have HI := hide hi
  have HZ0 := hide hz0
  have HZ1 := hide hz1
  clear hi hz0 hz1 hz2
  go_enter Try.func46, Try.ntmps46
  go_upto_region 1 with fail
  go_cut [6] (fun s6 wx => s6 = .int .i64 0 ∧ (wx.cell? ⟨w.heap.size, 0, none⟩ = some (.int .i64 wl) ∧ wx.cell? ⟨w.heap.size, 1, none⟩ = some (.int .i64 wh)) ∧ (CF wx ⟨w.heap.size + 1, 0, none⟩ (.int .i64 0) ∧ CF wx ⟨w.heap.size + 1, 1, none⟩ (.int .i64 0)) ∧ Below w.heap.size w wx)
  case first =>
    have tok1 : True := trivial
    go_region_held3 (fun w' => w'.cell? ⟨w.heap.size, 0, none⟩ = some (.int .i64 wl) ∧ w'.cell? ⟨w.heap.size, 1, none⟩ = some (.int .i64 wh))
      (first | (refine ⟨?_, ?_⟩ <;> simp [go_sem, World.cell?_alloc_past]; done) | (go_split_ands; first | (exact ⟨later hbD (by assumption), later hbD (by assumption)⟩) | (exact ⟨later hbC (by assumption), later hbC (by assumption)⟩) | (exact ⟨later hbB (by assumption), later hbB (by assumption)⟩) | (exact ⟨later hbA (by assumption), later hbA (by assumption)⟩)) | (go_split_ands; exact ⟨later (balloc (Below.refl _ _)) (by assumption), later (balloc (Below.refl _ _)) (by assumption)⟩) | go_keep)
      (first
        | (go_at_call 81; refine (atMost_ex true _ _ _ hc.out.1).mono ?_; rintro e wA ⟨rfl, hA, hbA⟩; (try simp at hA))
        | (go_at_call 86; have _t := tok1; refine (validRanges_ex true a cap rs.length rs _ hc.out.2.1 rfl (by omega) (pairs_later h.out (by repeat (first | exact Below.refl _ _ | assumption | apply balloc | apply bdrew | (refine bnext ?_ (by assumption)))))).mono ?_; rintro e wB ⟨rfl, hB, hbB⟩; clear tok1 _t; (try simp at hB))
        | (go_at_call 86; refine (validRanges_ex true _ 1 1 [(wl, wh)] _ hc.out.2.2.1 rfl (by simp) (pairs_one_of (by repeat (first | (simp [go_sem, World.cell?_alloc_past]; done) | refine later hbD ?_ | refine later hbC ?_ | refine later hbB ?_ | refine later hbA ?_ | refine later (balloc (Below.refl _ _)) ?_)) (by repeat (first | (simp [go_sem, World.cell?_alloc_past]; done) | refine later hbD ?_ | refine later hbC ?_ | refine later hbB ?_ | refine later hbA ?_ | refine later (balloc (Below.refl _ _)) ?_)))).mono ?_; rintro e wC ⟨rfl, hC, hbC⟩; (try simp at hC))
        | (go_at_call 67; go_loud (refine (firstError_is 0 [⟨5, 114, _, true⟩, ⟨2, 114, _, true⟩, ⟨2, 114, _, true⟩] _ _ _ (hc.out.2.2.2 _ _ _ _ _ _) (by simp) (by simp) (cnds_three_at (by simp)) (tells_three (cnd_later hA (by repeat (first | exact Below.refl _ _ | assumption | apply balloc | apply bdrew | (refine bnext ?_ (by assumption))))) (fun _ => cnd_later hB (by repeat (first | exact Below.refl _ _ | assumption | apply balloc | apply bdrew | (refine bnext ?_ (by assumption))))) (fun _ _ => cnd_later hC (by repeat (first | exact Below.refl _ _ | assumption | apply balloc | apply bdrew | (refine bnext ?_ (by assumption))))))).mono ?_); rintro e wD ⟨rfl, hbD⟩))
    all_goals (go_wp2_with fail; go_meet; exact ⟨rfl, ⟨(by repeat (first | (simp [go_sem, World.cell?_alloc_past]; done) | refine later hbD ?_ | refine later hbC ?_ | refine later hbB ?_ | refine later hbA ?_ | refine later (balloc (Below.refl _ _)) ?_)), (by repeat (first | (simp [go_sem, World.cell?_alloc_past]; done) | refine later hbD ?_ | refine later hbC ?_ | refine later hbB ?_ | refine later hbA ?_ | refine later (balloc (Below.refl _ _)) ?_))⟩, ⟨(by repeat (first | (refine ⟨?_, ?_⟩ <;> (simp [go_sem, World.cell?_alloc_past]; done)) | refine cf_later hbD ?_ | refine cf_later hbC ?_ | refine cf_later hbB ?_ | refine cf_later hbA ?_ | refine cf_later (balloc (Below.refl _ _)) ?_)), (by repeat (first | (refine ⟨?_, ?_⟩ <;> (simp [go_sem, World.cell?_alloc_past]; done)) | refine cf_later hbD ?_ | refine cf_later hbC ?_ | refine cf_later hbB ?_ | refine cf_later hbA ?_ | refine cf_later (balloc (Below.refl _ _)) ?_))⟩, (by repeat (first | exact Below.refl _ _ | assumption | apply balloc | apply bdrew | (refine bnext ?_ (by assumption))))⟩)
  case rest =>
    have X := fun W => common_any TL TH wl wh W
    rw [hS1.out, hS2.out, hd.out] at X
    have X' := hide X
    clear X
    obtain ⟨rfl, ⟨c0, c1⟩, ⟨⟨c4, f4⟩, c5, f5⟩, hbw⟩ := hcut
    go_wp2_with fail
    refine (hT.out _ (pairs_later h.out hbw)).mono ?_
    rintro e w2 ⟨rfl, hb2⟩
    have d0 := later hb2 c0
    have d1 := later hb2 c1
    have ⟨d4, g4⟩ := cf_later hb2 ⟨c4, f4⟩
    have ⟨d5, g5⟩ := cf_later hb2 ⟨c5, f5⟩
    have z0 := World.block_lt_of_cell? _ _ d0
    have z4 := World.block_lt_of_cell? _ _ d4
    simp only at z0 z4
    have hbw2 := bnext hbw hb2
    clear c0 c1 c4 f4 c5 f5 hbw hb2
    go_wp2_with fail
    refine (X'.out _).mono ?_
    rintro e w3 ⟨rfl, hb3⟩
    have ⟨e4, k4⟩ := cf_later hb3 (cf_later (balloc (Below.refl _ _)) ⟨d4, g4⟩)
    have ⟨e5, k5⟩ := cf_later hb3 (cf_later (balloc (Below.refl _ _)) ⟨d5, g5⟩)
    have y1 := two_set (x := .int .i64 SL) (y := .int .i64 SH) e4 e5
    have v4 : ((w3.setCell ⟨w.heap.size + 1, 0, none⟩ (.int .i64 SL)).setCell ⟨w.heap.size + 1, 1, none⟩ (.int .i64 SH)).frozen? ⟨w.heap.size + 1, 0, none⟩ = false := by simp [go_sem, k4]
    have v5 : ((w3.setCell ⟨w.heap.size + 1, 0, none⟩ (.int .i64 SL)).setCell ⟨w.heap.size + 1, 1, none⟩ (.int .i64 SH)).frozen? ⟨w.heap.size + 1, 1, none⟩ = false := by simp [go_sem, k5]
    have q0 := later hb3 (a := ⟨w2.heap.size, 0, none⟩) (v := .int .i64 TL) (by simp [go_sem, World.cell?_alloc_past])
    have q1 := later hb3 (a := ⟨w2.heap.size, 1, none⟩) (v := .int .i64 TH) (by simp [go_sem, World.cell?_alloc_past])
    have Tq : Touch (w.heap.size + 1) w3 ((w3.setCell ⟨w.heap.size + 1, 0, none⟩ (.int .i64 SL)).setCell ⟨w.heap.size + 1, 1, none⟩ (.int .i64 SH)) := (by repeat (first | exact Touch.refl _ _ | assumption | (refine tset ?_ (by rfl) _) | apply talloc | apply tdrew | (refine tnext ?_ (by assumption)) | (refine Touch.trans ?_ (by assumption))))
    have q0' := Tq.cell (by simp; omega) q0
    have q1' := Tq.cell (by simp; omega) q1
    have hbw3 := Tq.below (bnext (balloc hbw2) hb3) (by omega)
    have Y1 := hide y1
    have V4 := hide v4
    have V5 := hide v5
    have zq := World.block_lt_of_cell? _ _ q0
    have zs := World.block_lt_of_cell? _ _ e4
    simp only at zq zs
    have Q0 := hide q0'
    have Q1 := hide q1'
    have zg := hide hbw3.size
    clear y1 v4 v5 q0 q1 q0' q1' Tq
    go_wp2_with (at_make; refine wpList_make_full _ rfl (.tmp 39) (.tmp 39) 43 rfl w.heap.size 46 ti (.agg #[.int .i64 0, .int .i64 0]) 2 Try.underlying43 HI.out HZ0.out HZ1.out .i64 .i64 _ _ rs.length rfl rfl rfl rfl m1.out m2.out zg.out ?_; intro w5 hown hgrow; rw [sz_set, sz_set] at hown; have hb5 := (Below.refl _ _).grown hgrow (Nat.le_refl _) (fun k hk => by cases hk); have Hown := hide hown; have Hb5 := hide hb5; clear hown hgrow hb5)
    have B5 := hbw3.trans (Hb5.out.mono zg.out)
    clear hbw3
    go_loopw [43] (fun i wr => ∃ k : Nat, k ≤ rs.length ∧ i = .int .i64 (k : Int) ∧ (CF wr ⟨w.heap.size + 1, 0, none⟩ (.int .i64 SL) ∧ CF wr ⟨w.heap.size + 1, 1, none⟩ (.int .i64 SH)) ∧ (wr.cell? ⟨w2.heap.size, 0, none⟩ = some (.int .i64 TL) ∧ wr.cell? ⟨w2.heap.size, 1, none⟩ = some (.int .i64 TH)) ∧
      wr.ownsRow w.heap.size 46 2 (.slice (some ⟨w3.heap.size, 0, none⟩) rs.length rs.length) rs.length (narrowAt f rs.length k) ∧ Below w.heap.size w wr) (fun i _ => rs.length - (intOf i).toNat)
    case atStart => exact ⟨0, by omega, rfl, ⟨⟨later Hb5.out Y1.out.1, free_later Hb5.out Y1.out.1 V4.out⟩, later Hb5.out Y1.out.2, free_later Hb5.out Y1.out.2 V5.out⟩, ⟨later Hb5.out Q0.out, later Hb5.out Q1.out⟩, by rw [← narrowAt_zero]; exact Hown.out, B5⟩
    case round =>
      clear B5 Hown Hb5 Y1 V4 V5 Q0 Q1
      obtain ⟨k, hk, rfl, ⟨⟨s0, u0⟩, s1, u1⟩, ⟨q0, q1⟩, hown, hbw⟩ := hrel
      by_cases hlt : k < rs.length
      · obtain ⟨b, off, rfl, hcc⟩ : ∃ b off, a = some ⟨b, off, none⟩ ∧ ∀ i, i < rs.length → wr.cell? ⟨b, off + i * 2, none⟩ = some (.int .i64 (rs.getD i (0, 0)).1) ∧ wr.cell? ⟨b, off + i * 2 + 1, none⟩ = some (.int .i64 (rs.getD i (0, 0)).2) := by
          rcases pairs_later h.out hbw with h | h
          · subst h; simp at hlt
          · exact h
        obtain ⟨p1, p2⟩ := hcc k hlt
        clear hcc
        obtain ⟨x1, x2, x3, x4⟩ := hr.out k hlt
        obtain ⟨t1, t2, t3, t4⟩ := hTb.out
        obtain ⟨t5, t6, t7, t8⟩ := hSb.out
        have hfk := hf.out k hlt
        have HFk := hide hfk
        have Hown := hide hown
        clear hfk hown
        generalize rs.getD k (0, 0) = z at *
        obtain ⟨x, y⟩ := z
        simp only at p1 p2 x1 x2 x3 x4 HFk
        have zq0 := World.block_lt_of_cell? _ _ q0
        have zs0 := World.block_lt_of_cell? _ _ s0
        simp only at zq0 zs0
        have zw : w.heap.size < wr.heap.size := by omega
        go_wp2_with fail
        refine (common_any x y _ _ _).mono ?_
        rintro e w6 ⟨rfl, hb6⟩
        have B6 : Below wr.heap.size wr w6 := (by repeat (first | exact Below.refl _ _ | assumption | apply balloc | apply bdrew | (refine bnext ?_ (by assumption))))
        have n6 := owns_later Hown.out B6
        have j0 := n6.cellAt (k * 2) (by omega)
        have j1 := n6.cellAt (k * 2 + 1) (by omega)
        rw [(narrowAt_get f rs.length k hlt).1] at j0
        rw [(narrowAt_get f rs.length k hlt).2] at j1
        have j2 := n6.frozenAt (k * 2)
        have j3 := n6.frozenAt (k * 2 + 1)
        have n7 := ((n6.stored (k * 2) (.int .i64 (f k).1)).1.stored (k * 2 + 1) (.int .i64 (f k).2)).1
        rw [narrowAt_set f rs.length k hlt] at n7
        rw [HFk.out] at n7
        simp only at n7
        have N7 := hide n7
        have Tg := hide (show Touch w3.heap.size w6 ((w6.setCell ⟨w3.heap.size, k * 2, none⟩ (.int .i64 (max x (SL - (TH - y))))).setCell ⟨w3.heap.size, k * 2 + 1, none⟩ (.int .i64 (min y (SH - (TL - x))))) from (by repeat (first | exact Touch.refl _ _ | assumption | (refine tset ?_ (by rfl) _) | apply talloc | apply tdrew | (refine tnext ?_ (by assumption)) | (refine Touch.trans ?_ (by assumption)))))
        have a0 := hide (cf_later B6 ⟨s0, u0⟩)
        have a1 := hide (cf_later B6 ⟨s1, u1⟩)
        have a2 := hide (later B6 q0)
        have a3 := hide (later B6 q1)
        have B7 := hide (bnext hbw B6)
        clear s0 u0 s1 u1 q0 q1 B6 n6 n7 Hown
        generalize max x (SL - (TH - y)) = mx at *
        generalize min y (SH - (TL - x)) = mn at *
        go_wp2_with fail
        go_roundw
        case rel => exact ⟨k + 1, by omega, by go_num, ⟨cf_touch Tg.out (by simp; omega) a0.out, cf_touch Tg.out (by simp; omega) a1.out⟩, ⟨Tg.out.cell (by simp; omega) a2.out, Tg.out.cell (by simp; omega) a3.out⟩, N7.out, Tg.out.below B7.out (by omega)⟩
        case measure => simp [intOf]; omega
      · obtain rfl : k = rs.length := by omega
        have O1 := hide ((ownsRow_setCell_other (ownsRow_setCell_other hown (a := ⟨w.heap.size + 1, 0, none⟩) (by simp [Value.ownBlock]; omega) (.int .i64 SL)) (a := ⟨w.heap.size + 1, 1, none⟩) (by simp [Value.ownBlock]; omega) (.int .i64 SH)).drew)
        have y1 := hide (two_set (x := .int .i64 SL) (y := .int .i64 SH) s0 s1)
        have B9 := hide (bdrew (bset (bset hbw (p := ⟨w.heap.size + 1, 0, none⟩) (by simp) (.int .i64 SL)) (p := ⟨w.heap.size + 1, 1, none⟩) (by simp) (.int .i64 SH)))
        clear hown hbw
        go_wp2_with fail
        go_region
        go_wp2
        have Y1 := y1.out
        exact bodyPost_ret (v := .tuple #[.slice (some ⟨w3.heap.size, 0, none⟩) rs.length rs.length, .agg #[.int .i64 SL, .int .i64 SH], .int .i64 0]) (by simp [results, Try.results46, go_sem, Y1.1, Y1.2]) rfl ⟨w3.heap.size, rfl, O1.out, B9.out⟩

end Go.Proofs.Ytckapcfofkeicaa
