/-
  units: Balance: its conditions.
-/
import Derived.Test.YtadnchcelocnaaaBal
import Derived.Deep.DeepCutAuto
namespace Go.Proofs.Ytadnchcelocnaaa
set_option linter.unusedSimpArgs false
set_option linter.unusedVariables false
open Go.RowKit

/-- A cell that holds v and may be written. -/
def CF (w : World) (a : Addr) (v : Value) : Prop := w.cell? a = some v ∧ w.frozen? a = false
theorem cf_later {w W : World} {a : Addr} {v : Value} (hb : Below w.heap.size w W) (h : CF w a v) : CF W a v := ⟨later hb h.1, free_later hb h.1 h.2⟩

/-- The conditions of Balance come to E. -/
def BalCond (rs : List (Int × Int)) (wl wh E : Int) (k1 k2 k3 : Bool) : Prop :=
  decide ((rs.length : Int) ≤ 100) = k1 ∧ rs.all rangeOk = k2 ∧ [(wl, wh)].all rangeOk = k3 ∧ ∀ f1 c1 f2 c2 f3 c3, firstE [⟨5, f1, c1, k1⟩, ⟨2, f2, c2, k2⟩, ⟨2, f3, c3, k3⟩] = E

set_option maxHeartbeats 3200000 in
theorem balance_bad (rs : List (Int × Int)) (a : Option Addr) (cap : Nat) (wl wh E : Int) (k1 k2 k3 : Bool) (w : World) (hE : (E == 0) = false) (hc : Hid (BalCond rs wl wh E k1 k2 k3)) (hl : rs.length ≤ 140737488351232) (h : Hid (IsPairs w a rs)) :
    Calls Try.prog 46 #[.slice a rs.length cap, .agg #[.int .i64 wl, .int .i64 wh]] w fun e w' => e = .returned (.tuple #[.slice none 0 0, .agg #[.int .i64 0, .int .i64 0], .int .i64 E]) ∧ Below w.heap.size w w' := by
  go_enter Try.func46, Try.ntmps46
  go_upto_region 1 with fail
  go_cut [6] (fun s6 wx => s6 = .int .i64 E ∧ (wx.cell? ⟨w.heap.size, 0, none⟩ = some (.int .i64 wl) ∧ wx.cell? ⟨w.heap.size, 1, none⟩ = some (.int .i64 wh)) ∧ (CF wx ⟨w.heap.size + 1, 0, none⟩ (.int .i64 0) ∧ CF wx ⟨w.heap.size + 1, 1, none⟩ (.int .i64 0)) ∧ Below w.heap.size w wx)
  case first =>
    have tok1 : True := trivial
    go_region_held3 (fun w' => w'.cell? ⟨w.heap.size, 0, none⟩ = some (.int .i64 wl) ∧ w'.cell? ⟨w.heap.size, 1, none⟩ = some (.int .i64 wh))
      (first | (refine ⟨?_, ?_⟩ <;> simp [go_sem, World.cell?_alloc_past]; done) | (go_split_ands; first | (exact ⟨later hbD (by assumption), later hbD (by assumption)⟩) | (exact ⟨later hbC (by assumption), later hbC (by assumption)⟩) | (exact ⟨later hbB (by assumption), later hbB (by assumption)⟩) | (exact ⟨later hbA (by assumption), later hbA (by assumption)⟩)) | (go_split_ands; exact ⟨later (balloc (Below.refl _ _)) (by assumption), later (balloc (Below.refl _ _)) (by assumption)⟩) | go_keep)
      (first
        | (go_at_call 81; refine (atMost_ex k1 _ _ _ hc.out.1).mono ?_; rintro e wA ⟨rfl, hA, hbA⟩; (try simp at hA))
        | (go_at_call 86; have _t := tok1; refine (validRanges_ex k2 a cap rs.length rs _ hc.out.2.1 rfl hl (pairs_later h.out (by repeat (first | exact Below.refl _ _ | assumption | apply balloc | apply bdrew | (refine bnext ?_ (by assumption)))))).mono ?_; rintro e wB ⟨rfl, hB, hbB⟩; clear tok1 _t; (try simp at hB))
        | (go_at_call 86; refine (validRanges_ex k3 _ 1 1 [(wl, wh)] _ hc.out.2.2.1 rfl (by simp) (pairs_one_of (by repeat (first | (simp [go_sem, World.cell?_alloc_past]; done) | refine later hbD ?_ | refine later hbC ?_ | refine later hbB ?_ | refine later hbA ?_ | refine later (balloc (Below.refl _ _)) ?_)) (by repeat (first | (simp [go_sem, World.cell?_alloc_past]; done) | refine later hbD ?_ | refine later hbC ?_ | refine later hbB ?_ | refine later hbA ?_ | refine later (balloc (Below.refl _ _)) ?_)))).mono ?_; rintro e wC ⟨rfl, hC, hbC⟩; (try simp at hC))
        | (go_at_call 67; go_loud (refine (firstError_is E [⟨5, 114, _, k1⟩, ⟨2, 114, _, k2⟩, ⟨2, 114, _, k3⟩] _ _ _ (hc.out.2.2.2 _ _ _ _ _ _) (by simp) (by simp) (cnds_three_at (by simp)) (tells_three (cnd_later hA (by repeat (first | exact Below.refl _ _ | assumption | apply balloc | apply bdrew | (refine bnext ?_ (by assumption))))) (fun _ => cnd_later hB (by repeat (first | exact Below.refl _ _ | assumption | apply balloc | apply bdrew | (refine bnext ?_ (by assumption))))) (fun _ _ => cnd_later hC (by repeat (first | exact Below.refl _ _ | assumption | apply balloc | apply bdrew | (refine bnext ?_ (by assumption))))))).mono ?_); rintro e wD ⟨rfl, hbD⟩))
    all_goals (go_wp2_with fail; go_meet; exact ⟨rfl, ⟨(by repeat (first | (simp [go_sem, World.cell?_alloc_past]; done) | refine later hbD ?_ | refine later hbC ?_ | refine later hbB ?_ | refine later hbA ?_ | refine later (balloc (Below.refl _ _)) ?_)), (by repeat (first | (simp [go_sem, World.cell?_alloc_past]; done) | refine later hbD ?_ | refine later hbC ?_ | refine later hbB ?_ | refine later hbA ?_ | refine later (balloc (Below.refl _ _)) ?_))⟩, ⟨(by repeat (first | (refine ⟨?_, ?_⟩ <;> (simp [go_sem, World.cell?_alloc_past]; done)) | refine cf_later hbD ?_ | refine cf_later hbC ?_ | refine cf_later hbB ?_ | refine cf_later hbA ?_ | refine cf_later (balloc (Below.refl _ _)) ?_)), (by repeat (first | (refine ⟨?_, ?_⟩ <;> (simp [go_sem, World.cell?_alloc_past]; done)) | refine cf_later hbD ?_ | refine cf_later hbC ?_ | refine cf_later hbB ?_ | refine cf_later hbA ?_ | refine cf_later (balloc (Below.refl _ _)) ?_))⟩, (by repeat (first | exact Below.refl _ _ | assumption | apply balloc | apply bdrew | (refine bnext ?_ (by assumption))))⟩)
  case rest =>
    obtain ⟨rfl, ⟨c0, c1⟩, ⟨⟨c4, f4⟩, c5, f5⟩, hbw⟩ := hcut
    go_wp2
    exact bodyPost_ret (v := .tuple #[.slice none 0 0, .agg #[.int .i64 0, .int .i64 0], .int .i64 E]) (by simp [results, Try.results46, go_sem, c4, c5]) rfl ⟨rfl, (by repeat (first | exact Below.refl _ _ | assumption | apply balloc | apply bdrew | (refine bset ?_ (by first | (simp; done) | omega | (simp; omega)) _) | (refine bnext ?_ (by assumption))))⟩
end Go.Proofs.Ytadnchcelocnaaa
