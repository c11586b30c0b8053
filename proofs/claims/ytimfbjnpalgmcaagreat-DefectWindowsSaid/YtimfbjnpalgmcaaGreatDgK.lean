/-
  The document's examples of chapter 5: their values; the statements' own helpers. The statements' own helper known of chapter 5: what the document's examples say. The statements' own helper known of chapter 5: its walk.
-/
import Derived.Test.YtimfbjnpalgmcaaGreatDgV
import Derived.Test.YtimfbjnpalgmcaaGreatDgC
import Derived.Test.YtimfbjnpalgmcaaGreatDfN
import Derived.Test.YtimfbjnpalgmcaaGreatDfO
import Derived.Test.YtimfbjnpalgmcaaGreatDfJ
import Derived.Test.YtimfbjnpalgmcaaGreatFirst
import Derived.BigQuiet
namespace Go.Proofs.YtimfbjnpalgmcaaGreat
set_option linter.unusedSimpArgs false
set_option linter.unusedVariables false
open Go.RowKit

def silM : Mdl := ⟨1, 2, 2, 3, 4, 5, 5, 6, 8⟩
def rmpR : List (Int × Int) := [(0, 10), (10, 20)]
def rmpF : List (Int × Int) := [(0, 10000), (10, 10000)]
def rampG : Gr := ⟨rmpR, 0, [(2, 2)], rmpF⟩
def heatK : Heat := ⟨40, 5000, 5000, 5000, 5000, 5000, 5000, 5000, 5000, 5000, 5000⟩
theorem k0 : mdlOk silM = true := by decide
theorem k1 : regQ silM (10, 14) (2, 2) = (28, 0) := by decide
def winK : List (Int × Int) := [(0, 4), (11, 16), (13, 1000000), (0, 6), (11, 24), (13, 1000000)]
theorem k2 : winN silM [(2, 2), (2, 3)] 6 2 = winK := by decide
theorem k2s (ds : List (Int × Int)) (h : ds.Perm (winN silM [(2, 2), (2, 3)] 6 2)) (hs : ds.Pairwise (fun a b => a.1 ≤ b.1)) : gapR 0 ds = [(7, 10)] := by
  rw [k2] at h
  have p : ([(0, 4), (0, 6), (11, 16), (11, 24), (13, 1000000), (13, 1000000)] : List (Int × Int)).Perm winK := by decide
  rw [gapR_perm ds _ 0 (h.trans p.symm) hs (by decide) (fun r hr => (winN_far silM [(2, 2), (2, 3)] 6 2 r (by rw [k2]; exact h.subset hr)).2.1)]
  decide
theorem k3 : whyQ silM [(2, 2)] 6 11 = (0, 3, 0) := by decide
theorem k4a : valueQ rmpR 0 2 = (10, 12, 0) := by decide
theorem k4b : valueQ rmpR 0 1 = (10, 11, 0) := by decide
theorem k4c : valueQ rmpR 1 2 = (11, 12, 0) := by decide
theorem k4d : valueQ rmpF 0 2 = (10000, 10000, 0) ∧ valueQ rmpF 0 1 = (10000, 10000, 0) ∧ valueQ rmpF 1 2 = (10000, 10000, 0) := by decide
theorem k5 : grwOk rampG = true := by decide
def pK (v : Int × Int) (j : Nat) : Nat := regN silM (rateQ v 0) (gradQ (10000, 10000) (([(2, 2)] : List (Int × Int)).getD j (0, 0)))
theorem k6 : pK (10, 12) 0 = 12 := by decide
def pU (k : Int) : Nat → Nat := pK (10 + k, 11 + k)
theorem k7 : usaN (fun k => wantQ (pU k) 12 1) 0 10 = [(0, 2)] := by decide
theorem k4 (k : Int) (h0 : 0 ≤ k) (h1 : k < 10) : valueQ rmpR k (k + 1) = (10 + k, 11 + k, 0) ∧ valueQ rmpF k (k + 1) = (10000, 10000, 0) := by
  rcases (show k = 0 ∨ k = 1 ∨ k = 2 ∨ k = 3 ∨ k = 4 ∨ k = 5 ∨ k = 6 ∨ k = 7 ∨ k = 8 ∨ k = 9 by omega) with rfl | rfl | rfl | rfl | rfl | rfl | rfl | rfl | rfl | rfl <;> decide
theorem k8 : (annQ [heatK] 100 101 31).a = 70 ∧ (annQ [heatK] 100 101 31).b = 71 ∧ (annQ [heatK] 100 101 31).c = 30 ∧ (annQ [heatK] 100 101 31).d = 31 ∧ (annQ [heatK] 100 101 31).e = 0 := by decide

theorem pairs2 {w : World} {q : Nat} {x0 y0 x1 y1 : Int} (c0 : w.cell? ⟨q, 0, none⟩ = some (.int .i64 x0)) (c1 : w.cell? ⟨q, 1, none⟩ = some (.int .i64 y0)) (c2 : w.cell? ⟨q, 2, none⟩ = some (.int .i64 x1)) (c3 : w.cell? ⟨q, 3, none⟩ = some (.int .i64 y1)) : IsPairs w (some ⟨q, 0, none⟩) [(x0, y0), (x1, y1)] := by
  refine .inr ⟨q, 0, rfl, fun i hi => ?_⟩
  match i, hi with
  | 0, _ => exact ⟨c0, c1⟩
  | 1, _ => exact ⟨c2, c3⟩
theorem pairs1 {w : World} {q : Nat} {x0 y0 : Int} (c0 : w.cell? ⟨q, 0, none⟩ = some (.int .i64 x0)) (c1 : w.cell? ⟨q, 1, none⟩ = some (.int .i64 y0)) : IsPairs w (some ⟨q, 0, none⟩) [(x0, y0)] := by
  refine .inr ⟨q, 0, rfl, fun i hi => ?_⟩
  match i, hi with
  | 0, _ => exact ⟨c0, c1⟩
set_option maxHeartbeats 1000000 in
theorem silicon_any (w : World) : Calls Tryz.prog 58 #[] w fun e w' => e = .returned (mdlV silM) ∧ Below w.heap.size w w' := by
  go_enter Tryz.func58, Tryz.ntmps58
  go_wp2_with fail
  exact bodyPost_ret (v := mdlV silM) (by simp [results, Tryz.results58, go_sem]; rfl) rfl ⟨rfl, (by repeat (first | exact Below.refl _ _ | assumption | apply balloc | apply bdrew | (refine below_drewN ?_ _) | (refine bset ?_ (by first | (simp; done) | omega | (simp; omega)) _) | (refine bnext ?_ (by assumption))))⟩
set_option maxHeartbeats 1000000 in
theorem ramp_any (w : World) : Calls Tryz.prog 59 #[] w fun e w' => ∃ a b c : Nat, e = .returned (.agg #[.slice (some ⟨a, 0, none⟩) 2 2, .int .i64 0, .slice (some ⟨b, 0, none⟩) 1 1, .slice (some ⟨c, 0, none⟩) 2 2]) ∧ IsGr w' rampG ⟨some ⟨a, 0, none⟩, 2, some ⟨b, 0, none⟩, 1, some ⟨c, 0, none⟩, 2⟩ ∧ Below w.heap.size w w' := by
  go_enter Tryz.func59, Tryz.ntmps59
  go_wp2_with fail
  exact bodyPost_ret (v := .agg #[.slice (some ⟨w.heap.size + 1, 0, none⟩) 2 2, .int .i64 0, .slice (some ⟨w.heap.size + 1 + 1, 0, none⟩) 1 1, .slice (some ⟨w.heap.size + 1 + 1 + 1, 0, none⟩) 2 2]) (by simp [results, Tryz.results59, go_sem]) rfl ⟨_, _, _, rfl, ⟨⟨pairs2 (by simp [go_sem]) (by simp [go_sem]) (by simp [go_sem]) (by simp [go_sem]), pairs1 (by simp [go_sem]) (by simp [go_sem])⟩, pairs2 (by simp [go_sem]) (by simp [go_sem]) (by simp [go_sem]) (by simp [go_sem])⟩, (by repeat (first | exact Below.refl _ _ | assumption | apply balloc | apply bdrew | (refine below_drewN ?_ _) | (refine bset ?_ (by first | (simp; done) | omega | (simp; omega)) _) | (refine bnext ?_ (by assumption))))⟩
set_option maxHeartbeats 1000000 in
theorem sameRanges5_any (a b : Option Addr) (ca cb : Nat) (zs ys : List (Int × Int)) (w : World) (hl : zs.length ≤ 140737488351232) (hm : ys.length ≤ 140737488351232) (h1 : IsPairs w a zs) (h2 : IsPairs w b ys) :
    Calls Tryz.prog 27 #[.slice a zs.length ca, .slice b ys.length cb] w fun e w' => e = .returned (.bool (decide (zs = ys))) ∧ Below w.heap.size w w' := by
  have H1 := hide h1
  have H2 := hide h2
  clear h1 h2
  by_cases hlen : zs.length = ys.length
  · have hb : ((zs.length : Int) != (ys.length : Int)) = false := by simp [hlen]
    have HL := hide hlen
    clear hlen
    go_enter Tryz.func27, Tryz.ntmps27
    go_wp2_with fail
    go_loopw [5] (fun i wr => ∃ k : Nat, k ≤ zs.length ∧ i = .int .i64 (k : Int) ∧ zs.take k = ys.take k ∧ Below w.heap.size w wr) (fun i _ => zs.length - (intOf i).toNat)
    case atStart => exact ⟨0, by omega, rfl, rfl, Below.refl _ _⟩
    case round =>
      obtain ⟨k, hk, rfl, hall, hbw⟩ := hrel
      have Hall := hide hall
      clear hall
      by_cases hlt : k < zs.length
      · have hlt2 : k < ys.length := by have := HL.out; omega
        obtain ⟨b1, o1, rfl, hc1⟩ : ∃ b off, a = some ⟨b, off, none⟩ ∧ ∀ i, i < zs.length → wr.cell? ⟨b, off + i * 2, none⟩ = some (.int .i64 (zs.getD i (0, 0)).1) ∧ wr.cell? ⟨b, off + i * 2 + 1, none⟩ = some (.int .i64 (zs.getD i (0, 0)).2) := by
          rcases pairs_later H1.out hbw with h | h
          · subst h; simp at hlt
          · exact h
        obtain ⟨b2, o2, rfl, hc2⟩ : ∃ b' off, b = some ⟨b', off, none⟩ ∧ ∀ i, i < ys.length → wr.cell? ⟨b', off + i * 2, none⟩ = some (.int .i64 (ys.getD i (0, 0)).1) ∧ wr.cell? ⟨b', off + i * 2 + 1, none⟩ = some (.int .i64 (ys.getD i (0, 0)).2) := by
          rcases pairs_later H2.out hbw with h | h
          · subst h; simp at hlt2
          · exact h
        obtain ⟨c1, c2⟩ := hc1 k hlt
        obtain ⟨c3, c4⟩ := hc2 k hlt2
        clear hc1 hc2
        have S1 := hide fun h => take_step (d := ((0, 0) : Int × Int)) Hall.out hlt hlt2 h
        have S2 := hide fun h => take_differ (zs := zs) (ys := ys) (k := k) (d := ((0, 0) : Int × Int)) h
        generalize zs.getD k (0, 0) = x at *
        generalize ys.getD k (0, 0) = y at *
        obtain ⟨x1, x2⟩ := x
        obtain ⟨y1, y2⟩ := y
        simp only at c1 c2 c3 c4
        by_cases hxy : x1 = y1
        · subst hxy
          by_cases hxy2 : x2 = y2
          · subst hxy2
            have E := hide (S1.out rfl)
            go_wp2_with fail
            go_quiet (fail)
            go_wp2_with fail
            go_roundw
            case rel => exact ⟨k + 1, by omega, by go_num, E.out, below_drewN hbw _⟩
            case measure => simp [intOf]; omega
          · have E := S2.out (by simpa using hxy2)
            have hne : (x2 == y2) = false := by simpa using hxy2
            clear hxy2
            go_wp2_with fail
            go_quiet (fail)
            go_wp2_with fail
            go_ret
            exact ⟨ret_bool (decide_eq_false E).symm, below_drewN hbw _⟩
        · have E := S2.out (by simp; intro h; exact absurd h hxy)
          have hne : (x1 == y1) = false := by simpa using hxy
          clear hxy
          go_wp2_with fail
          go_quiet (fail)
          go_wp2_with fail
          go_ret
          exact ⟨ret_bool (decide_eq_false E).symm, below_drewN hbw _⟩
      · have E := hide (take_all Hall.out hlt HL.out)
        have hlt' : ¬ (k : Int) < (zs.length : Int) := by omega
        go_wp2
        go_ret
        exact ⟨ret_bool (decide_eq_true E.out).symm, hbw⟩
  · have hb : ((zs.length : Int) != (ys.length : Int)) = true := by simp; omega
    have E : zs ≠ ys := by rintro rfl; exact hlen rfl
    clear hlen
    go_enter Tryz.func27, Tryz.ntmps27
    go_wp2_with fail
    go_ret
    exact ⟨ret_bool (decide_eq_false E).symm, (by repeat (first | exact Below.refl _ _ | assumption | apply balloc | apply bdrew | (refine below_drewN ?_ _) | (refine bset ?_ (by first | (simp; done) | omega | (simp; omega)) _) | (refine bnext ?_ (by assumption))))⟩

end Go.Proofs.YtimfbjnpalgmcaaGreat

namespace Go.Proofs.YtimfbjnpalgmcaaGreat
set_option linter.unusedSimpArgs false
set_option linter.unusedVariables false
open Go.RowKit

theorem kn_regions (w : World) : Calls Tryz.prog 15 #[mdlV silM, .agg #[.int .i64 10, .int .i64 14], .agg #[.int .i64 2, .int .i64 2]] w fun e w' => e = .returned (.tuple #[.int .u8 28, .int .i64 0]) ∧ Below w.heap.size w w' := by
  have h := bigRegions_any silM 10 14 2 2 w
  rwa [k1] at h
theorem kn_window (w : World) (a : Option Addr) (c : Nat) (h : IsPairs w a [(2, 2), (2, 3)]) : Calls Tryz.prog 23 #[mdlV silM, .slice a 2 c, .int .u8 6] w fun e w' => ∃ b c, e = .returned (.tuple #[.slice b 1 c, .int .i64 0]) ∧ IsPairs w' b [(7, 10)] ∧ Below w.heap.size w w' := by
  refine (window_good silM [(2, 2), (2, 3)] 6 a c w [(7, 10)] k0 (by decide) (by decide) (by decide) h (by rw [show ([(2, 2), (2, 3)] : List (Int × Int)).length = 2 from rfl, k2]; decide) k2s).mono ?_
  rintro e w' ⟨v, rfl, hown, hb⟩
  obtain ⟨b, c, rfl, _, hp⟩ := own_pairs hown
  exact ⟨b, c, rfl, hp, hb⟩
theorem kn_why (w : World) (a : Option Addr) (c : Nat) (h : IsPairs w a [(2, 2)]) : Calls Tryz.prog 25 #[mdlV silM, .slice a 1 c, .int .u8 6, .int .i64 11] w fun e w' => e = .returned (.tuple #[.int .i64 0, .int .i64 3, .int .i64 0]) ∧ Below w.heap.size w w' := by
  have h := why_any silM [(2, 2)] 6 11 a c w (by decide) (by decide) h
  rwa [k3] at h
theorem kn_printed (lo hi v1 v2 : Int) (a b c : Option Addr) (ac bc cc : Nat) (W : World) (hv : valueQ rmpR lo hi = (v1, v2, 0)) (hf : valueQ rmpF lo hi = (10000, 10000, 0)) (vb : (0 ≤ v1 ∧ v1 ≤ v2) ∧ v2 ≤ 1000000) (h : IsGr W rampG ⟨a, ac, b, bc, c, cc⟩) :
    Calls Tryz.prog 74 #[mdlV silM, .agg #[.slice a 2 ac, .int .i64 0, .slice b 1 bc, .slice c 2 cc], .int .i64 lo, .int .i64 hi] W (PrPost W 1 (pK (v1, v2))) :=
  printed_go 1 2 2 3 4 5 5 6 8 0 lo hi v1 v2 10000 10000 rmpR [(2, 2)] rmpF a b c ac bc cc (pK (v1, v2)) W k0 (show ([(2, 2)] : List (Int × Int)).all grOk = true by decide) (by decide) ⟨by decide, by decide⟩ (by decide) (by decide) hv hf (by omega) (by decide) (fun j => rfl) h
theorem kn_print (w : World) (a b c : Option Addr) (ac bc cc z cp : Nat) (h : IsGr w rampG ⟨a, ac, b, bc, c, cc⟩) (hc : IsInts w (some ⟨z, 0, none⟩) [0, 2]) :
    Calls Tryz.prog 33 #[mdlV silM, .agg #[.slice a 2 ac, .int .i64 0, .slice b 1 bc, .slice c 2 cc], .slice (some ⟨z, 0, none⟩) 2 cp] w fun e w' => ∃ g cap q, e = .returned (.tuple #[.slice (some ⟨g, 0, none⟩) 1 cap, .int .i64 0]) ∧ w'.cell? ⟨g, 0, none⟩ = some (.slice (some ⟨q, 0, none⟩) 1 1) ∧ w'.cell? ⟨q, 0, none⟩ = some (.int .u8 12) ∧ Below w.heap.size w w' := by
  refine (print_go 1 2 2 3 4 5 5 6 8 0 0 2 rmpR [(2, 2)] rmpF a b c ac bc cc z cp (pK (10, 12)) w k0 (grwOk_of k5) h hc (by decide) (by decide) (by decide) (hide (fun W hb => kn_printed 0 2 10 12 a b c ac bc cc W k4a k4d.1 (by decide) (gr_later h hb)))).mono ?_
  rintro e w' ⟨g, cap, q, rfl, h1, h2, hb⟩
  refine ⟨g, cap, q, rfl, h1, ?_, hb⟩
  obtain ⟨cs, hg, _, hc⟩ := h2
  have e := hc 0 (by decide)
  have e : cs[0]? = some (.int .u8 ((pK (10, 12) 0 : Nat) : Int)) := e
  rw [k6] at e
  simp [World.cell?, hg, e]
theorem kn_usable (w : World) (a b c : Option Addr) (ac bc cc : Nat) (h : IsGr w rampG ⟨a, ac, b, bc, c, cc⟩) :
    Calls Tryz.prog 38 #[mdlV silM, .agg #[.slice a 2 ac, .int .i64 0, .slice b 1 bc, .slice c 2 cc], .int .u8 12] w fun e w' => ∃ b c, e = .returned (.tuple #[.slice b 1 c, .int .i64 0]) ∧ IsPairs w' b [(0, 2)] ∧ Below w.heap.size w w' := by
  refine (usable_go 1 2 2 3 4 5 5 6 8 0 12 0 10 rmpR [(2, 2)] rmpF a b c ac bc cc pU (fun k => wantQ (pU k) 12 1) w k0 (grwOk_of k5) h (by decide) (by decide) (by decide) (by decide) (by decide) (by decide) (hide (fun k => rfl)) (hide (fun W k h0 h1 hb => ?_))).mono ?_
  · exact kn_printed k (k + 1) (10 + k) (11 + k) a b c ac bc cc W (k4 k h0 h1).1 (k4 k h0 h1).2 (by omega) (gr_later h hb)
  · rintro e w' ⟨v, rfl, hown, hb⟩
    rw [show ((10 : Int) - 0).toNat = 10 by decide, k7] at hown
    obtain ⟨b', c', rfl, _, hp⟩ := own_pairs hown
    exact ⟨b', c', rfl, hp, hb⟩
theorem kn_anneal (w : World) (a : Option Addr) (c : Nat) (h : IsHeats w a [heatK]) : Calls Tryz.prog 40 #[.slice a 1 c, .agg #[.int .i64 100, .int .i64 101], .int .u8 31] w fun e w' => e = .returned (.tuple #[.agg #[.int .i64 70, .int .i64 71], .agg #[.int .i64 30, .int .i64 31], .int .i64 0]) ∧ Below w.heap.size w w' := by
  have h := anneal_any [heatK] 100 101 31 a c w (by decide) h
  rwa [k8.1, k8.2.1, k8.2.2.1, k8.2.2.2.1, k8.2.2.2.2] at h
theorem kn_same (zs : List (Int × Int)) (w : World) (a b : Option Addr) (ca cb : Nat) (hn : zs.length = 1) (h1 : IsPairs w a zs) (h2 : IsPairs w b zs) : Calls Tryz.prog 27 #[.slice a 1 ca, .slice b 1 cb] w fun e w' => e = .returned (.bool true) ∧ Below w.heap.size w w' := by
  have h := sameRanges5_any a b ca cb zs zs w (by omega) (by omega) h1 h2
  rw [hn] at h
  rwa [decide_eq_true rfl] at h
/-- The heat step of the examples, as far as it has been written. -/
def HK (W : World) (p k : Nat) : Prop := W.cell? ⟨p, 0, none⟩ = some (.int .i64 40) ∧ (∀ o, W.frozen? ⟨p, o, none⟩ = false) ∧ ∀ o, 1 ≤ o → o < 11 → W.cell? ⟨p, o, none⟩ = some (.int .i64 (if o < 1 + 2 * k then 5000 else 0))
theorem hk_step {W : World} {p k : Nat} (h : HK W p k) (hk : k < 5) : HK ((W.setCell ⟨p, 1 + k * 2, none⟩ (.int .i64 5000)).setCell ⟨p, 1 + k * 2 + 1, none⟩ (.int .i64 5000)) p (k + 1) := by
  obtain ⟨h0, hf, hc⟩ := h
  have s1 : (W.setCell ⟨p, 1 + k * 2, none⟩ (.int .i64 5000)).cell? ⟨p, 1 + k * 2, none⟩ = some (.int .i64 5000) := set_selfR (by rw [hc _ (by omega) (by omega)]; rfl)
  have o1 : ∀ o, o ≠ 1 + k * 2 → (W.setCell ⟨p, 1 + k * 2, none⟩ (.int .i64 5000)).cell? ⟨p, o, none⟩ = W.cell? ⟨p, o, none⟩ := fun o ho => World.cell?_setCell_other _ _ _ _ (fun hh => ho (by have := congrArg Addr.off hh; simp at this; omega))
  have s2 : ((W.setCell ⟨p, 1 + k * 2, none⟩ (.int .i64 5000)).setCell ⟨p, 1 + k * 2 + 1, none⟩ (.int .i64 5000)).cell? ⟨p, 1 + k * 2 + 1, none⟩ = some (.int .i64 5000) := set_selfR (by rw [o1 _ (by omega), hc _ (by omega) (by omega)]; rfl)
  have o2 : ∀ o, o ≠ 1 + k * 2 + 1 → ((W.setCell ⟨p, 1 + k * 2, none⟩ (.int .i64 5000)).setCell ⟨p, 1 + k * 2 + 1, none⟩ (.int .i64 5000)).cell? ⟨p, o, none⟩ = (W.setCell ⟨p, 1 + k * 2, none⟩ (.int .i64 5000)).cell? ⟨p, o, none⟩ := fun o ho => World.cell?_setCell_other _ _ _ _ (fun hh => ho (by have := congrArg Addr.off hh; simp at this; omega))
  refine ⟨by rw [o2 _ (by omega), o1 _ (by omega)]; exact h0, fun o => by simp [go_sem, hf], fun o a b => ?_⟩
  by_cases e1 : o = 1 + k * 2 + 1
  · subst e1; rw [s2, if_pos (by omega)]
  · rw [o2 _ e1]
    by_cases e2 : o = 1 + k * 2
    · subst e2; rw [s1, if_pos (by omega)]
    · rw [o1 _ e2, hc o a b]
      by_cases e3 : o < 1 + 2 * k
      · rw [if_pos e3, if_pos (by omega)]
      · rw [if_neg e3, if_neg (by omega)]
theorem hk_later {w W : World} {p k : Nat} (h : HK w p k) (hp : p < w.heap.size) (hb : Below w.heap.size w W) : HK W p k := ⟨later hb h.1, fun o => (hb.frozen (p := ⟨p, o, none⟩) hp).trans (h.2.1 o), fun o a b => later hb (h.2.2 o a b)⟩
theorem hk_heat {W : World} {p : Nat} (h : HK W p 5) : HeatAt W p 0 heatK := ⟨h.1, h.2.2 _ (by omega) (by omega), h.2.2 _ (by omega) (by omega), h.2.2 _ (by omega) (by omega), h.2.2 _ (by omega) (by omega), h.2.2 _ (by omega) (by omega), h.2.2 _ (by omega) (by omega), h.2.2 _ (by omega) (by omega), h.2.2 _ (by omega) (by omega), h.2.2 _ (by omega) (by omega), h.2.2 _ (by omega) (by omega)⟩
end Go.Proofs.YtimfbjnpalgmcaaGreat

namespace Go.Proofs.YtimfbjnpalgmcaaGreat
set_option linter.unusedSimpArgs false
set_option linter.unusedVariables false
open Go.RowKit

theorem ints2 {w : World} {q : Nat} {x y : Int} (c0 : w.cell? ⟨q, 0, none⟩ = some (.int .i64 x)) (c1 : w.cell? ⟨q, 1, none⟩ = some (.int .i64 y)) : IsInts w (some ⟨q, 0, none⟩) [x, y] := by
  refine .inr ⟨q, 0, rfl, fun i hi => ?_⟩
  match i, hi with
  | 0, _ => exact c0
  | 1, _ => exact c1
set_option maxRecDepth 100000 in
set_option maxHeartbeats 6400000 in
theorem known5_any (w : World) : Calls Tryz.prog 19 #[] w fun e w' => e = .returned (.bool true) ∧ Below w.heap.size w w' := by
  have SI := hide (fun W => (show Calls Tryz.prog 58 #[] W fun e w' => e = .returned (.agg #[.int .i64 1, .int .i64 2, .int .i64 2, .int .i64 3, .int .i64 4, .int .i64 5, .int .i64 5, .int .i64 6, .int .i64 8]) ∧ Below W.heap.size W w' from silicon_any W))
  go_enter Tryz.func19, Tryz.ntmps19
  go_wp2_with fail
  refine (SI.out _).mono ?_
  rintro e w1 ⟨rfl, hb1⟩
  go_wp2_with fail
  refine (kn_regions _).mono ?_
  rintro e w2 ⟨rfl, hb2⟩
  have B2 := hide (bnext hb1 hb2)
  clear hb1 hb2
  go_wp2_with fail
  refine (SI.out _).mono ?_
  rintro e w3 ⟨rfl, hb3⟩
  go_wp2_with fail
  refine (kn_window _ _ _ (pairs2 (by simp [go_sem, World.cell?_alloc_past]) (by simp [go_sem, World.cell?_alloc_past]) (by simp [go_sem, World.cell?_alloc_past]) (by simp [go_sem, World.cell?_alloc_past]))).mono ?_
  rintro e w4 ⟨b4, c4, rfl, hp4, hb4⟩
  have P4 := hide hp4
  have B4 := hide (show Below w.heap.size w w4 from bnext (balloc (bnext B2.out hb3)) hb4)
  clear hp4 hb3 hb4 B2
  go_wp2_with fail
  refine (SI.out _).mono ?_
  rintro e w5 ⟨rfl, hb5⟩
  go_wp2_with fail
  refine (kn_why _ _ _ (pairs1 (by simp [go_sem, World.cell?_alloc_past]) (by simp [go_sem, World.cell?_alloc_past]))).mono ?_
  rintro e w6 ⟨rfl, hb6⟩
  have P6 := hide (pairs_later P4.out (bnext (balloc hb5) hb6))
  have B6 := hide (show Below w.heap.size w w6 from bnext (balloc (bnext B4.out hb5)) hb6)
  clear hb5 hb6 B4 P4
  go_wp2_with fail
  refine (kn_same [(7, 10)] _ _ _ _ _ rfl (pairs_later P6.out (balloc (Below.refl _ _))) (pairs1 (by simp [go_sem, World.cell?_alloc_past]) (by simp [go_sem, World.cell?_alloc_past]))).mono ?_
  rintro e w7 ⟨rfl, hb7⟩
  have B7 := hide (show Below w.heap.size w w7 from bnext (balloc B6.out) hb7)
  clear hb7 B6 P6
  go_wp2_with fail
  refine (SI.out _).mono ?_
  rintro e w8 ⟨rfl, hb8⟩
  go_wp2_with fail
  refine (ramp_any _).mono ?_
  rintro e w9 ⟨qa, qb, qc, rfl, hr9, hb9⟩
  have R9 := hide (gr_later hr9 (show Below w9.heap.size w9 (w9.alloc (.cells #[.int .i64 0, .int .i64 2] 3)) from balloc (Below.refl _ _)))
  have B9 := hide (bnext (bnext B7.out hb8) hb9)
  clear hr9 hb8 hb9 B7
  go_wp2_with fail
  refine (kn_print _ _ _ _ _ _ _ _ _ R9.out (ints2 (by simp [go_sem, World.cell?_alloc_past]) (by simp [go_sem, World.cell?_alloc_past]))).mono ?_
  rintro e w10 ⟨g, gc, q, rfl, hg, hq, hb10⟩
  have B10 := hide (show Below w.heap.size w w10 from bnext (balloc B9.out) hb10)
  have G10 := hide (And.intro hg hq)
  clear hb10 hg hq R9 B9
  go_wp2_with fail
  refine (SI.out _).mono ?_
  rintro e w11 ⟨rfl, hb11⟩
  go_wp2_with fail
  refine (ramp_any _).mono ?_
  rintro e w12 ⟨ra, rb, rc, rfl, hr12, hb12⟩
  have R12 := hide hr12
  clear hr12
  go_wp2_with fail
  refine (kn_usable _ _ _ _ _ _ _ R12.out).mono ?_
  rintro e w13 ⟨b13, c13, rfl, hp13, hb13⟩
  have B13 := hide (bnext (bnext (bnext B10.out hb11) hb12) hb13)
  have G13 := hide (show w13.cell? ⟨g, 0, none⟩ = some (.slice (some ⟨q, 0, none⟩) 1 1) ∧ w13.cell? ⟨q, 0, none⟩ = some (.int .u8 12) from ⟨later hb13 (later hb12 (later hb11 G10.out.1)), later hb13 (later hb12 (later hb11 G10.out.2))⟩)
  have P13 := hide hp13
  clear hb11 hb12 hb13 hp13 R12 G10 B10
  go_upto_region 10 with fail
  obtain ⟨w14, hw14⟩ : ∃ z, z = w13.alloc (.cells #[.int .i64 40, .int .i64 0, .int .i64 0, .int .i64 0, .int .i64 0, .int .i64 0, .int .i64 0, .int .i64 0, .int .i64 0, .int .i64 0, .int .i64 0] 114) := ⟨_, rfl⟩
  rw [← hw14]
  obtain ⟨p, hp⟩ : ∃ z, w13.heap.size = z := ⟨_, rfl⟩
  have H0 := hide (show HK w14 p 0 by
    rw [hw14, ← hp]
    refine ⟨(by simp [go_sem, World.cell?_alloc_past]), fun o => by simp [go_sem], fun o a b => ?_⟩
    rcases (show o = 1 ∨ o = 2 ∨ o = 3 ∨ o = 4 ∨ o = 5 ∨ o = 6 ∨ o = 7 ∨ o = 8 ∨ o = 9 ∨ o = 10 by omega) with rfl | rfl | rfl | rfl | rfl | rfl | rfl | rfl | rfl | rfl <;> exact (by simp [go_sem, World.cell?_alloc_past]))
  have L0 := hide (show p < w14.heap.size by rw [hw14, ← hp]; simp)
  have B14 := hide (show Below w.heap.size w w14 by rw [hw14]; exact balloc B13.out)
  have W14 := hide (show Below p w13 w14 by rw [hw14, ← hp]; exact balloc (Below.refl _ _))
  have PL := hide (show w.heap.size ≤ p by rw [← hp]; exact B13.out.size)
  rw [hp]
  have HP := hide hp
  clear hw14 hp
  go_loopw [11] (fun i wr => ∃ k : Nat, k ≤ 5 ∧ i = .int .i64 (k : Int) ∧ Hid (HK wr p k) ∧ Hid (p < wr.heap.size) ∧ Below p w14 wr) (fun i _ => 5 - (intOf i).toNat)
  case atStart => exact ⟨0, by omega, rfl, H0, L0, Below.refl _ _⟩
  case round =>
    obtain ⟨k, hk, rfl, hh, hlp, hb⟩ := hrel
    by_cases hlt : k < 5
    · have HS := hide (hk_step hh.out hlt)
      have ca := hh.out.2.2 (1 + k * 2) (by omega) (by omega)
      have cb := hh.out.2.2 (1 + k * 2 + 1) (by omega) (by omega)
      have fa := hh.out.2.1 (1 + k * 2)
      have fb := hh.out.2.1 (1 + k * 2 + 1)
      go_wp2_with fail
      go_roundw
      case rel => exact ⟨k + 1, by omega, by go_num, HS, hide (by simp [World.setCell]; exact hlp.out), (hb.setCell (p := ⟨p, _, none⟩) (Nat.le_refl _) _).setCell (p := ⟨p, _, none⟩) (Nat.le_refl _) _⟩
      case measure => simp [intOf]; omega
    · obtain rfl : k = 5 := by omega
      have ⟨c0, c1, c2, c3, c4, c5, c6, c7, c8, c9, c10⟩ := hk_heat hh.out
      simp only [heatK, Nat.zero_add] at c0 c1 c2 c3 c4 c5 c6 c7 c8 c9 c10
      have BW := hide (show Below w13.heap.size w13 wr by rw [HP.out]; exact W14.out.trans hb)
      have BB := hide (show Below w.heap.size w wr from B14.out.trans (Below.mono hb PL.out))
      clear hb hh hlp H0 L0 B14 W14 PL HP
      go_wp2_with fail
      have HT := hide (show IsHeats (wr.alloc (.cells #[.int .i64 40, .int .i64 5000, .int .i64 5000, .int .i64 5000, .int .i64 5000, .int .i64 5000, .int .i64 5000, .int .i64 5000, .int .i64 5000, .int .i64 5000, .int .i64 5000] 114)) (some ⟨wr.heap.size, 0, none⟩) [heatK] by
        refine .inr ⟨_, 0, rfl, fun i hi => ?_⟩
        match i, hi with
        | 0, _ =>
          show HeatAt _ wr.heap.size 0 heatK
          refine ⟨?_, ?_, ?_, ?_, ?_, ?_, ?_, ?_, ?_, ?_, ?_⟩ <;> simp [go_sem, heatK])
      clear c0 c1 c2 c3 c4 c5 c6 c7 c8 c9 c10
      refine (kn_anneal _ _ _ HT.out).mono ?_
      rintro e w15 ⟨rfl, hb15⟩
      have BX := hide (bnext (balloc BB.out) hb15)
      have BY := hide (bnext (balloc BW.out) hb15)
      clear hb15 HT BB BW
      have g1 := fun x y => (show ((w15.alloc x).alloc y).cell? ⟨g, 0, none⟩ = some (.slice (some ⟨q, 0, none⟩) 1 1) from later (balloc (balloc (Below.refl _ _))) (later BY.out G13.out.1))
      have g2 := fun x y => (show ((w15.alloc x).alloc y).cell? ⟨q, 0, none⟩ = some (.int .u8 12) from later (balloc (balloc (Below.refl _ _))) (later BY.out G13.out.2))
      have P15 := hide (pairs_later P13.out BY.out)
      clear G13 P13 BY
      go_wp2_with fail
      refine (kn_same [(0, 2)] _ _ _ _ _ rfl (pairs_later P15.out (balloc (balloc (balloc (Below.refl _ _))))) (pairs1 (by simp [go_sem, World.cell?_alloc_past]) (by simp [go_sem, World.cell?_alloc_past]))).mono ?_
      rintro e w16 ⟨rfl, hb16⟩
      have x0 := later hb16 (a := ⟨w15.heap.size, 0, none⟩) (v := .int .i64 70) (by simp [go_sem, World.cell?_alloc_past])
      have x1 := later hb16 (a := ⟨w15.heap.size, 1, none⟩) (v := .int .i64 71) (by simp [go_sem, World.cell?_alloc_past])
      have x2 := later hb16 (a := ⟨w15.heap.size + 1, 0, none⟩) (v := .int .i64 30) (by simp [go_sem, World.cell?_alloc_past])
      have x3 := later hb16 (a := ⟨w15.heap.size + 1, 1, none⟩) (v := .int .i64 31) (by simp [go_sem, World.cell?_alloc_past])
      have BZ := hide (show Below w.heap.size w w16 from bnext (balloc (balloc (balloc BX.out))) hb16)
      clear hb16 P15 BX g1 g2
      go_wp2_with fail
      go_ret
      exact ⟨rfl, BZ.out⟩
end Go.Proofs.YtimfbjnpalgmcaaGreat
