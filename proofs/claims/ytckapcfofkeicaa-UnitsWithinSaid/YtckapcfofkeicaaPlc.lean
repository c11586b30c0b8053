/-
  The statements' own helpers: place, inside, point, part.
-/
import Derived.Test.YtckapcfofkeicaaKnown
import Derived.BigQuiet
import Derived.Deep.RegionHeld3
namespace Go.Proofs.Ytckapcfofkeicaa
set_option linter.unusedSimpArgs false
set_option linter.unusedVariables false
open Go.RowKit

/-- A number of a range, by a number that is brought into it. -/
def placeQ (l h b : Int) : Int := if h ≤ l ∨ l < -1000000000000000 ∨ 1000000000000000 < h then l else l + b % (h - l + 1)
set_option maxHeartbeats 1600000 in
theorem place_any (l h b : Int) (w : World) (b0 : 0 ≤ b) (b1 : b ≤ 65535) :
    Calls Try.prog 64 #[.agg #[.int .i64 l, .int .i64 h], .int .u16 b] w fun e w' => e = .returned (.int .i64 (placeQ l h b)) ∧ Below w.heap.size w w' := by
  by_cases h1 : h ≤ l
  · have E := hide (show placeQ l h b = l by unfold placeQ; rw [if_pos (.inl h1)])
    have d1 : decide (h ≤ l) = true := decide_eq_true h1
    clear h1 b0 b1
    go_enter Try.func64, Try.ntmps64
    go_wp2_with fail
    go_ret
    exact ⟨congrArg (fun x => Ending.returned (Value.int .i64 x)) E.out.symm, (by repeat (first | exact Below.refl _ _ | assumption | apply balloc | apply bdrew | (refine bset ?_ (by first | (simp; done) | omega | (simp; omega)) _) | (refine bnext ?_ (by assumption))))⟩
  · have d1 : decide (h ≤ l) = false := decide_eq_false h1
    by_cases h2 : l < -1000000000000000
    · have E := hide (show placeQ l h b = l by unfold placeQ; rw [if_pos (.inr (.inl h2))])
      have d2 : decide (l < -1000000000000000) = true := decide_eq_true h2
      clear h1 h2 b0 b1
      go_enter Try.func64, Try.ntmps64
      go_wp2_with fail
      go_ret
      exact ⟨congrArg (fun x => Ending.returned (Value.int .i64 x)) E.out.symm, (by repeat (first | exact Below.refl _ _ | assumption | apply balloc | apply bdrew | (refine bset ?_ (by first | (simp; done) | omega | (simp; omega)) _) | (refine bnext ?_ (by assumption))))⟩
    · have d2 : decide (l < -1000000000000000) = false := decide_eq_false h2
      by_cases h3 : 1000000000000000 < h
      · have E := hide (show placeQ l h b = l by unfold placeQ; rw [if_pos (.inr (.inr h3))])
        have d3 : decide (1000000000000000 < h) = true := decide_eq_true h3
        clear h1 h2 h3 b0 b1
        go_enter Try.func64, Try.ntmps64
        go_wp2_with fail
        go_ret
        exact ⟨congrArg (fun x => Ending.returned (Value.int .i64 x)) E.out.symm, (by repeat (first | exact Below.refl _ _ | assumption | apply balloc | apply bdrew | (refine bset ?_ (by first | (simp; done) | omega | (simp; omega)) _) | (refine bnext ?_ (by assumption))))⟩
      · have d3 : decide (1000000000000000 < h) = false := decide_eq_false h3
        have E := hide (show placeQ l h b = l + b % (h - l + 1) by unfold placeQ; rw [if_neg (by omega)])
        have T : 0 ≤ b % (h - l + 1) := Int.emod_nonneg b (by omega)
        have T2 : b % (h - l + 1) < h - l + 1 := Int.emod_lt_of_pos b (by omega)
        have hs : h - l + 1 ≠ 0 := by omega
        go_enter Try.func64, Try.ntmps64
        go_wp2_with fail
        go_quiet (fail)
        go_wp2_with fail
        go_ret
        exact ⟨congrArg (fun x => Ending.returned (Value.int .i64 x)) E.out.symm, below_drewN (balloc (Below.refl _ _)) _⟩

/-- One range is in another one. -/
def insQ (al ah bl bh : Int) : Bool := decide (bl ≤ al) && (decide (ah ≤ bh) && decide (al ≤ ah))
theorem inside_go (al ah bl bh : Int) (k1 k2 k3 : Bool) (w : World) (h1 : decide (bl ≤ al) = k1) (h2 : decide (ah ≤ bh) = k2) (h3 : decide (al ≤ ah) = k3) :
    Calls Try.prog 63 #[.agg #[.int .i64 al, .int .i64 ah], .agg #[.int .i64 bl, .int .i64 bh]] w fun e w' => e = .returned (.bool (k1 && (k2 && k3))) ∧ Below w.heap.size w w' := by
  cases k1
  · go_enter Try.func63, Try.ntmps63
    go_wp2_with fail
    go_ret
    exact ⟨rfl, (by repeat (first | exact Below.refl _ _ | assumption | apply balloc | apply bdrew | (refine bset ?_ (by first | (simp; done) | omega | (simp; omega)) _) | (refine bnext ?_ (by assumption))))⟩
  · cases k2
    · go_enter Try.func63, Try.ntmps63
      go_wp2_with fail
      go_ret
      exact ⟨rfl, (by repeat (first | exact Below.refl _ _ | assumption | apply balloc | apply bdrew | (refine bset ?_ (by first | (simp; done) | omega | (simp; omega)) _) | (refine bnext ?_ (by assumption))))⟩
    · cases k3
      all_goals
        go_enter Try.func63, Try.ntmps63
        go_wp2_with fail
        go_ret
        exact ⟨rfl, (by repeat (first | exact Below.refl _ _ | assumption | apply balloc | apply bdrew | (refine bset ?_ (by first | (simp; done) | omega | (simp; omega)) _) | (refine bnext ?_ (by assumption))))⟩
theorem inside_any (al ah bl bh : Int) (w : World) :
    Calls Try.prog 63 #[.agg #[.int .i64 al, .int .i64 ah], .agg #[.int .i64 bl, .int .i64 bh]] w fun e w' => e = .returned (.bool (insQ al ah bl bh)) ∧ Below w.heap.size w w' := inside_go al ah bl bh _ _ _ w rfl rfl rfl
theorem point_any (n : Int) (w : World) :
    Calls Try.prog 65 #[.int .i64 n] w fun e w' => e = .returned (.agg #[.int .i64 n, .int .i64 n]) ∧ Below w.heap.size w w' := by
  go_enter Try.func65, Try.ntmps65
  go_wp2
  exact bodyPost_ret (v := .agg #[.int .i64 n, .int .i64 n]) (by simp [results, Try.results65, go_sem]) rfl ⟨rfl, (by repeat (first | exact Below.refl _ _ | assumption | apply balloc | apply bdrew | (refine bset ?_ (by first | (simp; done) | omega | (simp; omega)) _) | (refine bnext ?_ (by assumption))))⟩

/-- A part of a range, by two places. -/
def partQ (l h b c : Int) : Int × Int := (min (placeQ l h b) (placeQ l h c), max (placeQ l h b) (placeQ l h c))
set_option maxRecDepth 100000 in
set_option maxHeartbeats 3200000 in
theorem part_any (l h b c : Int) (w : World) (b0 : 0 ≤ b) (b1 : b ≤ 65535) (c0 : 0 ≤ c) (c1 : c ≤ 65535) :
    Calls Try.prog 62 #[.agg #[.int .i64 l, .int .i64 h], .agg #[.int .u16 b, .int .u16 c]] w fun e w' => e = .returned (.agg #[.int .i64 (partQ l h b c).1, .int .i64 (partQ l h b c).2]) ∧ Below w.heap.size w w' := by
  have P := hide fun (d : Int) (W : World) (h0 : 0 ≤ d) (h1 : d ≤ 65535) => place_any l h d W h0 h1
  have M : Hid (partQ l h b c = (min (placeQ l h b) (placeQ l h c), max (placeQ l h b) (placeQ l h c))) := rfl
  obtain ⟨r, hr⟩ : ∃ r, partQ l h b c = r := ⟨_, rfl⟩
  rw [hr] at M ⊢
  clear hr
  obtain ⟨r1, r2⟩ := r
  go_enter Try.func62, Try.ntmps62
  go_upto_region 1 with fail
  go_cut [5, 6] from 7 (fun s5 s6 wx => s5 = .int .i64 (placeQ l h b) ∧ s6 = .int .i64 (placeQ l h c) ∧ (CF wx ⟨w.heap.size + 1 + 1, 0, none⟩ (.int .i64 0) ∧ CF wx ⟨w.heap.size + 1 + 1, 1, none⟩ (.int .i64 0)) ∧ Below w.heap.size w wx)
  case first =>
    go_region_held3 (fun w' => w'.cell? ⟨w.heap.size, 0, none⟩ = some (.int .i64 l) ∧ w'.cell? ⟨w.heap.size, 1, none⟩ = some (.int .i64 h) ∧ w'.cell? ⟨w.heap.size + 1, 0, none⟩ = some (.int .u16 b) ∧ w'.cell? ⟨w.heap.size + 1, 1, none⟩ = some (.int .u16 c) ∧ (CF w' ⟨w.heap.size + 1 + 1, 0, none⟩ (.int .i64 0) ∧ CF w' ⟨w.heap.size + 1 + 1, 1, none⟩ (.int .i64 0)) ∧ Below w.heap.size w w')
      (first | (refine ⟨?_, ?_, ?_, ?_, ⟨⟨?_, ?_⟩, ?_, ?_⟩, bdrew (balloc (balloc (balloc (Below.refl _ _))))⟩ <;> simp [go_sem, World.cell?_alloc_past]; done) | (go_split_ands; first | (exact ⟨later hbB (by assumption), later hbB (by assumption), later hbB (by assumption), later hbB (by assumption), ⟨cf_later hbB (by assumption), cf_later hbB (by assumption)⟩, bnext (by assumption) hbB⟩) | (exact ⟨later hbC (by assumption), later hbC (by assumption), later hbC (by assumption), later hbC (by assumption), ⟨cf_later hbC (by assumption), cf_later hbC (by assumption)⟩, bnext (by assumption) hbC⟩)) | go_keep)
      (first | (go_at_call 64; refine (P.out _ _ (by assumption) (by assumption)).mono ?_; rintro e wB ⟨rfl, hbB⟩))
    all_goals (go_wp2_with fail; go_meet; exact ⟨rfl, rfl, by go_split_ands; exact ⟨by assumption, by assumption⟩, by go_split_ands; assumption⟩)
  case rest =>
    obtain ⟨rfl, rfl, ⟨⟨c4, f4⟩, c5, f5⟩, hbw⟩ := hcut
    generalize placeQ l h b = x at *
    generalize placeQ l h c = y at *
    rcases Int.lt_trichotomy x y with hxy | rfl | hxy
    · have N : Hid (r1 = x ∧ r2 = y) := by have := M.out; simp only [Prod.mk.injEq] at this; constructor <;> omega
      go_wp2_with fail
      have yy := two_set (x := .int .i64 x) (y := .int .i64 y) c4 c5
      exact bodyPost_ret (v := .agg #[.int .i64 x, .int .i64 y]) (by simp [results, Try.results62, go_sem, yy.1, yy.2]) rfl ⟨by rw [N.out.1, N.out.2], (by repeat (first | exact Below.refl _ _ | assumption | apply balloc | apply bdrew | (refine bset ?_ (by first | (simp; done) | omega | (simp; omega)) _) | (refine bnext ?_ (by assumption))))⟩
    · have N : Hid (r1 = x ∧ r2 = x) := by have := M.out; simp only [Prod.mk.injEq] at this; constructor <;> omega
      go_wp2_with fail
      have yy := two_set (x := .int .i64 x) (y := .int .i64 x) c4 c5
      exact bodyPost_ret (v := .agg #[.int .i64 x, .int .i64 x]) (by simp [results, Try.results62, go_sem, yy.1, yy.2]) rfl ⟨by rw [N.out.1, N.out.2], (by repeat (first | exact Below.refl _ _ | assumption | apply balloc | apply bdrew | (refine bset ?_ (by first | (simp; done) | omega | (simp; omega)) _) | (refine bnext ?_ (by assumption))))⟩
    · have N : Hid (r1 = y ∧ r2 = x) := by have := M.out; simp only [Prod.mk.injEq] at this; constructor <;> omega
      go_wp2_with fail
      have yy := two_set (x := .int .i64 y) (y := .int .i64 x) c4 c5
      exact bodyPost_ret (v := .agg #[.int .i64 y, .int .i64 x]) (by simp [results, Try.results62, go_sem, yy.1, yy.2]) rfl ⟨by rw [N.out.1, N.out.2], (by repeat (first | exact Below.refl _ _ | assumption | apply balloc | apply bdrew | (refine bset ?_ (by first | (simp; done) | omega | (simp; omega)) _) | (refine bnext ?_ (by assumption))))⟩
end Go.Proofs.Ytckapcfofkeicaa
