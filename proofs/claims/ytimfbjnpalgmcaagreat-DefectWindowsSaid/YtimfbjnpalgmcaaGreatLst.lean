/-
  units.Sum, and the reference's. The reference: fits, Sum. units.someRanges. units.Meet, units.Hull. units.Meet. The reference: Meet, Hull. UnitsLists: the walk.
-/
import Derived.Test.YtimfbjnpalgmcaaGreatRefR
import Derived.BigQuiet
import Derived.Deep.DeepCutAuto
import Derived.Deep.RegionHeld3
import Derived.BigRegion
import Derived.Test.YtimfbjnpalgmcaaGreatFrameD
namespace Go.Proofs.YtimfbjnpalgmcaaGreat
set_option linter.unusedSimpArgs false
set_option linter.unusedVariables false
open Go.RowKit

/-- What Sum returns. -/
def sumQ (rs : List (Int × Int)) : Int × Int × Int :=
  if (listE rs == 0) = false then (0, 0, listE rs) else if allIn 1000000000000000 [sumL rs rs.length, sumH rs rs.length] = true then (sumL rs rs.length, sumH rs rs.length, 0) else (0, 0, 10)
/-- The conditions on a list of ranges come to E. -/
def ListCond (rs : List (Int × Int)) (E : Int) (k1 k2 : Bool) : Prop := decide ((rs.length : Int) ≤ 100) = k1 ∧ rs.all rangeOk = k2 ∧ ∀ f1 c1 f2 c2, firstE [⟨5, f1, c1, k1⟩, ⟨2, f2, c2, k2⟩] = E
theorem listE_cases (rs : List (Int × Int)) : (∃ E k1 k2, (E == 0) = false ∧ listE rs = E ∧ ListCond rs E k1 k2) ∨ (listE rs = 0 ∧ rs.length ≤ 100 ∧ rs.all rangeOk = true ∧ ListCond rs 0 true true) := by
  unfold listE
  cases h1 : decide ((rs.length : Int) ≤ 100) with
  | false => exact .inl ⟨5, false, _, rfl, by rw [if_pos rfl], h1, rfl, fun _ _ _ _ => rfl⟩
  | true =>
    cases h2 : rs.all rangeOk with
    | false => exact .inl ⟨2, true, false, rfl, by rw [if_neg (by simp), if_pos rfl], h1, h2, fun _ _ _ _ => rfl⟩
    | true => exact .inr ⟨by rw [if_neg (by simp), if_neg (by simp)], by have := of_decide_eq_true h1; omega, rfl, h1, h2, fun _ _ _ _ => rfl⟩
end Go.Proofs.YtimfbjnpalgmcaaGreat

namespace Go.Proofs.YtimfbjnpalgmcaaGreat
set_option linter.unusedSimpArgs false
set_option linter.unusedVariables false
open Go.RowKit

theorem fits_go (l u : Int) (w : World) (k1 k2 : Bool) (N1 : Hid (Num l k1)) (N2 : Hid (Num u k2)) :
    Calls Tryz.prog 166 #[.int .i64 l, .int .i64 u, .bool true] w fun e w' => e = .returned (.tuple #[.agg #[.int .i64 (if (k1 && k2) = true then l else 0), .int .i64 (if (k1 && k2) = true then u else 0)], .int .i64 (if (k1 && k2) = true then 0 else 10)]) ∧ Below w.heap.size w w' := by
  cases k1
  · go_enter Tryz.func166, Tryz.ntmps166
    go_wp2_with fail
    refine (N1.out _).mono ?_
    rintro e w1 ⟨rfl, rfl⟩
    go_wp2_with fail
    exact bodyPost_ret (v := .tuple #[.agg #[.int .i64 0, .int .i64 0], .int .i64 10]) (by simp [results, Tryz.results166, go_sem]) rfl ⟨rfl, (by repeat (first | exact Below.refl _ _ | assumption | apply balloc | apply bdrew | (refine below_drewN ?_ _) | (refine bset ?_ (by first | (simp; done) | omega | (simp; omega)) _) | (refine bnext ?_ (by assumption))))⟩
  · cases k2
    · go_enter Tryz.func166, Tryz.ntmps166
      go_wp2_with fail
      refine (N1.out _).mono ?_
      rintro e w1 ⟨rfl, rfl⟩
      go_wp2_with fail
      refine (N2.out _).mono ?_
      rintro e w1 ⟨rfl, rfl⟩
      go_wp2_with fail
      exact bodyPost_ret (v := .tuple #[.agg #[.int .i64 0, .int .i64 0], .int .i64 10]) (by simp [results, Tryz.results166, go_sem]) rfl ⟨rfl, (by repeat (first | exact Below.refl _ _ | assumption | apply balloc | apply bdrew | (refine below_drewN ?_ _) | (refine bset ?_ (by first | (simp; done) | omega | (simp; omega)) _) | (refine bnext ?_ (by assumption))))⟩
    · go_enter Tryz.func166, Tryz.ntmps166
      go_wp2_with fail
      refine (N1.out _).mono ?_
      rintro e w1 ⟨rfl, rfl⟩
      go_wp2_with fail
      refine (N2.out _).mono ?_
      rintro e w1 ⟨rfl, rfl⟩
      go_wp2_with fail
      exact bodyPost_ret (v := .tuple #[.agg #[.int .i64 l, .int .i64 u], .int .i64 0]) (by simp [results, Tryz.results166, go_sem]) rfl ⟨rfl, (by repeat (first | exact Below.refl _ _ | assumption | apply balloc | apply bdrew | (refine below_drewN ?_ _) | (refine bset ?_ (by first | (simp; done) | omega | (simp; omega)) _) | (refine bnext ?_ (by assumption))))⟩
theorem fits_any (l h : Int) (w : World) :
    Calls Tryz.prog 166 #[.int .i64 l, .int .i64 h, .bool true] w fun e w' => e = .returned (.tuple #[.agg #[.int .i64 (if allIn 1000000000000000 [l, h] = true then l else 0), .int .i64 (if allIn 1000000000000000 [l, h] = true then h else 0)], .int .i64 (if allIn 1000000000000000 [l, h] = true then 0 else 10)]) ∧ Below w.heap.size w w' := by
  have g := fits_go l h w _ _ (num_of rfl) (num_of rfl)
  rwa [← allIn_both] at g

end Go.Proofs.YtimfbjnpalgmcaaGreat

namespace Go.Proofs.YtimfbjnpalgmcaaGreat
set_option linter.unusedSimpArgs false
set_option linter.unusedVariables false
open Go.RowKit

/-- The error of a list of ranges that may not be empty. -/
def someE (rs : List (Int × Int)) : Int := if (listE rs == 0) = false then listE rs else if rs.length = 0 then 2 else 0
theorem some1_any (a : Option Addr) (n cap : Nat) (p : Addr) (w : World) (hn : n ≤ 140737488351232) (hp : w.cell? p = some (.slice a n cap)) :
    Calls Tryz.prog 152 #[.pointer (some p)] w fun e w' => e = .returned (.bool (decide (0 < (n : Int)))) ∧ w = w' := by
  go_enter Tryz.func152, Tryz.ntmps152
  go_wp2
  go_ret
  exact ⟨ret_bool (by simp), rfl⟩
theorem some1_tells (k : Bool) (a : Option Addr) (n cap : Nat) (p : Addr) (w : World) (hk : decide (0 < (n : Int)) = k) (hn : n ≤ 140737488351232) (hp : w.cell? p = some (.slice a n cap)) :
    Tells w 152 #[.pointer (some p)] k := by
  subst hk
  exact ⟨enters_any Tryz.func152 (by kernel_rfl) rfl _, fun W hW => (some1_any a n cap p W hn (later hW hp)).mono (by rintro e w' ⟨rfl, rfl⟩; exact ⟨rfl, Below.refl _ _⟩)⟩
/-- The conditions come to E. -/
def SomeCond (rs : List (Int × Int)) (E : Int) (k1 k2 k3 : Bool) : Prop :=
  decide ((rs.length : Int) ≤ 100) = k1 ∧ rs.all rangeOk = k2 ∧ decide (0 < (rs.length : Int)) = k3 ∧ ∀ f1 c1 f2 c2 f3 c3, firstE [⟨5, f1, c1, k1⟩, ⟨2, f2, c2, k2⟩, ⟨2, f3, c3, k3⟩] = E
set_option maxHeartbeats 3200000 in
theorem some_go (rs : List (Int × Int)) (a : Option Addr) (cap : Nat) (E : Int) (k1 k2 k3 : Bool) (w : World) (hc : Hid (SomeCond rs E k1 k2 k3)) (hl : rs.length ≤ 140737488351232) (h : Hid (IsPairs w a rs)) :
    Calls Tryz.prog 130 #[.slice a rs.length cap] w fun e w' => e = .returned (.int .i64 E) ∧ Below w.heap.size w w' := by
  go_enter Tryz.func130, Tryz.ntmps130
  go_upto_region 1 with fail
  go_cut [2] from 3 (fun s2 wx => s2 = .int .i64 E ∧ Below w.heap.size w wx)
  case first =>
    go_region_held3 (fun w' => w'.cell? ⟨w.heap.size, 0, none⟩ = some (.slice a rs.length cap) ∧ Below w.heap.size w w')
      (first | (refine ⟨?_, bdrew (balloc (Below.refl _ _))⟩ <;> simp [go_sem, World.cell?_alloc_past]; done) | (go_split_ands; first | (exact ⟨later hbD (by assumption), bnext (by assumption) hbD⟩) | (exact ⟨later hbA (by assumption), bnext (by assumption) hbA⟩) | (exact ⟨later hbB (by assumption), bnext (by assumption) hbB⟩) | (exact ⟨later hbC (by assumption), bnext (by assumption) hbC⟩)) | (go_split_ands; exact ⟨later (balloc (Below.refl _ _)) (by assumption), balloc (by assumption)⟩) | go_keep)
      (first
        | (go_at_call 70; refine (atMost_ex k1 _ _ _ hc.out.1).mono ?_; rintro e wA ⟨rfl, hA, hbA⟩; (try simp at hA))
        | (go_at_call 92; refine (validRanges_ex k2 a cap rs.length rs _ hc.out.2.1 rfl hl (pairs_later h.out (by repeat (first | exact Below.refl _ _ | assumption | apply balloc | apply bdrew | (refine bnext ?_ (by assumption)))))).mono ?_; rintro e wB ⟨rfl, hB, hbB⟩; (try simp at hB))
        | (go_at_call 52; refine (unless_ex 2 _ _ k3 _ rfl (some1_tells k3 a rs.length cap ⟨w.heap.size, 0, none⟩ _ hc.out.2.2.1 hl (by go_split_ands; assumption))).mono ?_; rintro e wC ⟨rfl, hC, hbC⟩; (try simp at hC))
        | (go_at_call 50; go_loud (refine (firstError_is E [⟨5, 109, _, k1⟩, ⟨2, 109, _, k2⟩, ⟨2, 109, _, k3⟩] _ _ _ (hc.out.2.2.2 _ _ _ _ _ _) (by simp) (by simp) (cnds_three_at (by simp)) (tells_three (cnd_later hA (by repeat (first | exact Below.refl _ _ | assumption | apply balloc | apply bdrew | (refine bnext ?_ (by assumption))))) (fun _ => cnd_later hB (by repeat (first | exact Below.refl _ _ | assumption | apply balloc | apply bdrew | (refine bnext ?_ (by assumption))))) (fun _ _ => cnd_later hC (by repeat (first | exact Below.refl _ _ | assumption | apply balloc | apply bdrew | (refine bnext ?_ (by assumption))))))).mono ?_); rintro e wD ⟨rfl, hbD⟩))
    all_goals (go_wp2_with fail; go_meet; exact ⟨rfl, by go_split_ands; assumption⟩)
  case rest =>
    obtain ⟨rfl, hbw⟩ := hcut
    go_wp2
    go_ret
    exact ⟨rfl, hbw⟩
theorem some_any (rs : List (Int × Int)) (a : Option Addr) (cap : Nat) (w : World) (hl : rs.length ≤ 140737488351232) (h : IsPairs w a rs) :
    Calls Tryz.prog 130 #[.slice a rs.length cap] w fun e w' => e = .returned (.int .i64 (someE rs)) ∧ Below w.heap.size w w' := by
  refine some_go rs a cap _ _ _ _ w ⟨rfl, rfl, rfl, fun f1 c1 f2 c2 f3 c3 => ?_⟩ hl h
  unfold someE listE
  simp only [firstE]
  by_cases h1 : (rs.length : Int) ≤ 100
  · rw [decide_eq_true h1]
    cases h2 : rs.all rangeOk with
    | false => simp
    | true =>
      by_cases h3 : rs.length = 0
      · simp [h3]
      · have : 0 < (rs.length : Int) := by omega
        simp [h3, this]
  · rw [decide_eq_false h1]; simp
end Go.Proofs.YtimfbjnpalgmcaaGreat

namespace Go.Proofs.YtimfbjnpalgmcaaGreat
set_option linter.unusedSimpArgs false
set_option linter.unusedVariables false
open Go.RowKit

/-- The greatest (least) of the lower (upper) ends of the first k + 1 ranges. -/
def mxL (rs : List (Int × Int)) : Nat → Int
  | 0 => (rs.getD 0 (0, 0)).1
  | k + 1 => max (mxL rs k) (rs.getD (k + 1) (0, 0)).1
def mnL (rs : List (Int × Int)) : Nat → Int
  | 0 => (rs.getD 0 (0, 0)).1
  | k + 1 => min (mnL rs k) (rs.getD (k + 1) (0, 0)).1
def mxH (rs : List (Int × Int)) : Nat → Int
  | 0 => (rs.getD 0 (0, 0)).2
  | k + 1 => max (mxH rs k) (rs.getD (k + 1) (0, 0)).2
def mnH (rs : List (Int × Int)) : Nat → Int
  | 0 => (rs.getD 0 (0, 0)).2
  | k + 1 => min (mnH rs k) (rs.getD (k + 1) (0, 0)).2
theorem meet_stays {rs : List (Int × Int)} {k : Nat} (h : mnH rs k < mxL rs k) : ∀ j, mnH rs (k + j) < mxL rs (k + j)
  | 0 => h
  | j + 1 => by
    have := meet_stays h j
    rw [← Nat.add_assoc]
    simp only [mxL, mnH]
    omega
def meetQ (rs : List (Int × Int)) : Int × Int × Int :=
  if (someE rs == 0) = false then (0, 0, someE rs) else if mxL rs (rs.length - 1) ≤ mnH rs (rs.length - 1) then (mxL rs (rs.length - 1), mnH rs (rs.length - 1), 0) else (0, 0, 7)
def hullQ (rs : List (Int × Int)) : Int × Int × Int :=
  if (someE rs == 0) = false then (0, 0, someE rs) else (mnL rs (rs.length - 1), mxH rs (rs.length - 1), 0)
/-- What has been gathered of the first k ranges. -/
def hullG (rs : List (Int × Int)) : Nat → Gth
  | 0 => ⟨0, 0, false, false⟩
  | k + 1 => ⟨mnL rs k, mxH rs k, true, false⟩
theorem hullG_step (rs : List (Int × Int)) (k : Nat) : gAdd (hullG rs k) (rs.getD k (0, 0)).1 (rs.getD k (0, 0)).2 = hullG rs (k + 1) := by
  cases k <;> rfl

set_option maxHeartbeats 1600000 in
theorem hull_bad (rs : List (Int × Int)) (a : Option Addr) (cap : Nat) (E : Int) (w : World) (L : Hid (∀ w, IsPairs w a rs → Calls Tryz.prog 130 #[.slice a rs.length cap] w fun e w' => e = .returned (.int .i64 E) ∧ Below w.heap.size w w')) (hE : (E == 0) = false) (h : Hid (IsPairs w a rs)) :
    Calls Tryz.prog 86 #[.slice a rs.length cap] w fun e w' => e = .returned (.tuple #[.agg #[.int .i64 0, .int .i64 0], .int .i64 E]) ∧ Below w.heap.size w w' := by
  go_enter Tryz.func86, Tryz.ntmps86
  go_wp2_with fail
  refine (L.out _ (pairs_later h.out (by repeat (first | exact Below.refl _ _ | assumption | apply balloc | apply bdrew | (refine below_drewN ?_ _) | (refine bset ?_ (by first | (simp; done) | omega | (simp; omega)) _) | (refine bnext ?_ (by assumption)))))).mono ?_
  rintro e w1 ⟨rfl, hb1⟩
  have c4 := later hb1 (a := ⟨w.heap.size, 0, none⟩) (v := .int .i64 0) (by simp [go_sem, World.cell?_alloc_past])
  have c5 := later hb1 (a := ⟨w.heap.size, 1, none⟩) (v := .int .i64 0) (by simp [go_sem, World.cell?_alloc_past])
  have f4 := free_later hb1 (a := ⟨w.heap.size, 0, none⟩) (v := .int .i64 0) (by simp [go_sem, World.cell?_alloc_past]) (by simp [go_sem, World.cell?_alloc_past])
  have f5 := free_later hb1 (a := ⟨w.heap.size, 1, none⟩) (v := .int .i64 0) (by simp [go_sem, World.cell?_alloc_past]) (by simp [go_sem, World.cell?_alloc_past])
  go_wp2_with fail
  exact bodyPost_ret (v := .tuple #[.agg #[.int .i64 0, .int .i64 0], .int .i64 E]) (by simp [results, Tryz.results86, go_sem, c4, c5]) rfl ⟨rfl, (by repeat (first | exact Below.refl _ _ | assumption | apply balloc | apply bdrew | (refine below_drewN ?_ _) | (refine bset ?_ (by first | (simp; done) | omega | (simp; omega)) _) | (refine bnext ?_ (by assumption))))⟩
set_option maxHeartbeats 3200000 in
theorem hull_good (rs : List (Int × Int)) (a : Option Addr) (cap m : Nat) (w : World) (L : Hid (∀ w, IsPairs w a rs → Calls Tryz.prog 130 #[.slice a rs.length cap] w fun e w' => e = .returned (.int .i64 0) ∧ Below w.heap.size w w')) (hl : rs.length ≤ 100) (hm : rs.length = m + 1) (h : Hid (IsPairs w a rs)) :
    Calls Tryz.prog 86 #[.slice a rs.length cap] w fun e w' => e = .returned (.tuple #[.agg #[.int .i64 (mnL rs m), .int .i64 (mxH rs m)], .int .i64 0]) ∧ Below w.heap.size w w' := by
  have HM := hide hm
  clear hm
  go_enter Tryz.func86, Tryz.ntmps86
  go_wp2_with fail
  refine (L.out _ (pairs_later h.out (by repeat (first | exact Below.refl _ _ | assumption | apply balloc | apply bdrew | (refine below_drewN ?_ _) | (refine bset ?_ (by first | (simp; done) | omega | (simp; omega)) _) | (refine bnext ?_ (by assumption)))))).mono ?_
  rintro e w1 ⟨rfl, hb1⟩
  have c4 := later hb1 (a := ⟨w.heap.size, 0, none⟩) (v := .int .i64 0) (by simp [go_sem, World.cell?_alloc_past])
  have c5 := later hb1 (a := ⟨w.heap.size, 1, none⟩) (v := .int .i64 0) (by simp [go_sem, World.cell?_alloc_past])
  have f4 := free_later hb1 (a := ⟨w.heap.size, 0, none⟩) (v := .int .i64 0) (by simp [go_sem, World.cell?_alloc_past]) (by simp [go_sem, World.cell?_alloc_past])
  have f5 := free_later hb1 (a := ⟨w.heap.size, 1, none⟩) (v := .int .i64 0) (by simp [go_sem, World.cell?_alloc_past]) (by simp [go_sem, World.cell?_alloc_past])
  have B1 : Below w.heap.size w w1 := (by repeat (first | exact Below.refl _ _ | assumption | apply balloc | apply bdrew | (refine below_drewN ?_ _) | (refine bset ?_ (by first | (simp; done) | omega | (simp; omega)) _) | (refine bnext ?_ (by assumption))))
  have z4 : w.heap.size < w1.heap.size := World.block_lt_of_cell? _ _ c4
  clear hb1
  go_wp2_with fail
  go_loopw [16] (fun i wr => ∃ k : Nat, k ≤ rs.length ∧ i = .int .i64 (k : Int) ∧ GAt wr w1.heap.size (hullG rs k) ∧ Below w1.heap.size w1 wr) (fun i _ => rs.length - (intOf i).toNat)
  case atStart => exact ⟨0, by omega, rfl, by simp [GAt, hullG, go_sem, World.cell?_alloc_past], balloc (Below.refl _ _)⟩
  case round =>
    obtain ⟨k, hk, rfl, hg, hbw⟩ := hrel
    have HG := hide hg
    clear hg
    by_cases hlt : k < rs.length
    · obtain ⟨b, off, rfl, hc⟩ : ∃ b off, a = some ⟨b, off, none⟩ ∧ ∀ i, i < rs.length → wr.cell? ⟨b, off + i * 2, none⟩ = some (.int .i64 (rs.getD i (0, 0)).1) ∧ wr.cell? ⟨b, off + i * 2 + 1, none⟩ = some (.int .i64 (rs.getD i (0, 0)).2) := by
        rcases pairs_later (pairs_later h.out B1) hbw with h | h
        · subst h; simp at hlt
        · exact h
      obtain ⟨c1, c2⟩ := hc k hlt
      clear hc
      have S := hide (hullG_step rs k)
      obtain ⟨z, hz⟩ : ∃ z, rs.getD k (0, 0) = z := ⟨_, rfl⟩
      rw [hz] at c1 c2 S
      clear hz
      obtain ⟨p, q⟩ := z
      simp only at c1 c2 S
      have A := hide fun w h => add_any w1.heap.size (hullG rs k) p q w h
      go_wp2_with fail
      refine (A.out _ (gat_later HG.out (balloc (Below.refl _ _)))).mono ?_
      rintro e w2 ⟨rfl, hg2, ht2⟩
      rw [S.out] at hg2
      have HG2 := hide hg2
      have B2 := hide (show Below w1.heap.size w1 w2 from ht2.below (balloc hbw) (Nat.le_refl _))
      clear hg2 ht2
      go_wp2_with fail
      go_roundw
      case rel => exact ⟨k + 1, by omega, by go_num, HG2.out, B2.out⟩
      case measure => simp [intOf]; omega
    · obtain rfl : k = rs.length := by omega
      rw [HM.out] at HG
      have e : hullG rs (m + 1) = ⟨mnL rs m, mxH rs m, true, false⟩ := rfl
      rw [e] at HG
      have ⟨⟨a0, a1, a2, a3⟩, _⟩ := HG.out
      have R := hide fun w => result_any ⟨mnL rs m, mxH rs m, true, false⟩ w
      have ⟨d4, g4⟩ := cf_later hbw ⟨c4, f4⟩
      have ⟨d5, g5⟩ := cf_later hbw ⟨c5, f5⟩
      clear c4 c5 f4 f5 e HG
      simp only at a0 a1 a2 a3
      go_wp2_with fail
      refine (R.out _).mono ?_
      rintro e w3 ⟨rfl, hb3⟩
      have ⟨c4, f4⟩ := cf_later hb3 ⟨d4, g4⟩
      have ⟨c5, f5⟩ := cf_later hb3 ⟨d5, g5⟩
      have B3 : Below w.heap.size w w3 := bnext (bnext B1 hbw) hb3
      clear d4 d5 g4 g5 a0 a1 a2 a3
      go_wp2_with fail
      have yy := two_set (x := .int .i64 (mnL rs m)) (y := .int .i64 (mxH rs m)) c4 c5
      exact bodyPost_ret (v := .tuple #[.agg #[.int .i64 (mnL rs m), .int .i64 (mxH rs m)], .int .i64 0]) (by simp [results, Tryz.results86, go_sem, gRes, yy.1, yy.2]) rfl ⟨rfl, bset (bset B3 (by simp) _) (by simp) _⟩
end Go.Proofs.YtimfbjnpalgmcaaGreat

namespace Go.Proofs.YtimfbjnpalgmcaaGreat
set_option linter.unusedSimpArgs false
set_option linter.unusedVariables false
open Go.RowKit

/-- What the loop of Meet holds: the result's cell and the range so far. -/
def MSt (n g : Nat) (l h : Int) (w : World) : Prop := (CF w ⟨n, 0, none⟩ (.int .i64 0) ∧ CF w ⟨n, 1, none⟩ (.int .i64 0)) ∧ CF w ⟨g, 0, none⟩ (.int .i64 l) ∧ CF w ⟨g, 1, none⟩ (.int .i64 h)
theorem mst_later {n g : Nat} {l h : Int} {w W : World} (s : MSt n g l h w) (hb : Below w.heap.size w W) : MSt n g l h W := by
  obtain ⟨⟨a, b⟩, c, d⟩ := s
  exact ⟨⟨cf_later hb a, cf_later hb b⟩, cf_later hb c, cf_later hb d⟩
theorem cf_set2 {w : World} {n m i : Nat} {x y v : Value} (hne : m ≠ n) (h : CF w ⟨m, i, none⟩ v) : CF ((w.setCell ⟨n, 0, none⟩ x).setCell ⟨n, 1, none⟩ y) ⟨m, i, none⟩ v := by
  refine ⟨?_, ?_⟩
  · exact (World.cell?_of_block (w := w) ((Below.heap_setCell _ ⟨n, 1, none⟩ _ m hne).trans (Below.heap_setCell _ ⟨n, 0, none⟩ _ m hne))).trans h.1
  · exact (World.frozen?_of_block (w := w) ((Below.heap_setCell _ ⟨n, 1, none⟩ _ m hne).trans (Below.heap_setCell _ ⟨n, 0, none⟩ _ m hne))).trans h.2
theorem mst_set {n g : Nat} {l h x y : Int} {w : World} (s : MSt n g l h w) (hne : n ≠ g) : MSt n g x y ((w.setCell ⟨g, 0, none⟩ (.int .i64 x)).setCell ⟨g, 1, none⟩ (.int .i64 y)) := by
  obtain ⟨⟨a, b⟩, c, d⟩ := s
  have yy := two_set (x := .int .i64 x) (y := .int .i64 y) c.1 d.1
  exact ⟨⟨cf_set2 hne a, cf_set2 hne b⟩, ⟨yy.1, by simp [go_sem, c.2]⟩, ⟨yy.2, by simp [go_sem, d.2]⟩⟩

theorem some_zero {rs : List (Int × Int)} (h : (someE rs == 0) = true) : (listE rs == 0) = true ∧ rs.length ≠ 0 := by
  unfold someE at h
  cases e : (listE rs == 0)
  · rw [e, if_pos rfl] at h; rw [e] at h; exact absurd h (by decide)
  · rw [e, if_neg (by decide)] at h
    refine ⟨rfl, fun h0 => ?_⟩
    rw [if_pos h0] at h; exact absurd h (by decide)
theorem some_ranges {rs : List (Int × Int)} (h : (someE rs == 0) = true) : rs.all rangeOk = true ∧ rs.length ≤ 100 := by
  rcases listE_cases rs with ⟨E, k1, k2, hE, e, hc⟩ | ⟨e, hn, h2, hc⟩
  · have := (some_zero h).1; rw [e, hE] at this; exact absurd this (by decide)
  · exact ⟨h2, hn⟩
/-- units.Hull of ranges, whatever they are. -/
theorem hull_any (rs : List (Int × Int)) (a : Option Addr) (cap : Nat) (w : World) (hl : rs.length ≤ 140737488351232) (h : IsPairs w a rs) :
    Calls Tryz.prog 86 #[.slice a rs.length cap] w fun e w' => e = .returned (.tuple #[.agg #[.int .i64 (hullQ rs).1, .int .i64 (hullQ rs).2.1], .int .i64 (hullQ rs).2.2]) ∧ Below w.heap.size w w' := by
  have L := fun w h => some_any rs a cap w hl h
  cases hE : (someE rs == 0)
  · have := hull_bad rs a cap (someE rs) w (hide L) hE (hide h)
    simpa only [hullQ, hE, if_true] using this
  · have e0 : someE rs = 0 := by simpa using hE
    rw [e0] at L
    obtain ⟨m, hm⟩ : ∃ m, rs.length = m + 1 := ⟨rs.length - 1, by have := (some_zero hE).2; omega⟩
    have e1 : rs.length - 1 = m := by omega
    have := hull_good rs a cap m w (hide L) (some_ranges hE).2 hm (hide h)
    have q : hullQ rs = (mnL rs m, mxH rs m, 0) := by simp [hullQ, hE, e1]
    rw [q]
    exact this
end Go.Proofs.YtimfbjnpalgmcaaGreat

namespace Go.Proofs.YtimfbjnpalgmcaaGreat
set_option linter.unusedSimpArgs false
set_option linter.unusedVariables false
open Go.RowKit

theorem listE_len {rs : List (Int × Int)} (h : (listE rs == 0) = true) : rs.length ≤ 100 := by
  rcases listE_cases rs with ⟨E, k1, k2, hE, e, hc⟩ | ⟨e, hn, h2, hc⟩
  · rw [e, hE] at h; exact absurd h (by decide)
  · exact hn
end Go.Proofs.YtimfbjnpalgmcaaGreat

namespace Go.Proofs.YtimfbjnpalgmcaaGreat
set_option linter.unusedSimpArgs false
set_option linter.unusedVariables false
open Go.RowKit

theorem pairs_of_own_cap {w : World} {base : Nat} {T : TypeId} {v : Value} {zs : List (Int × Int)} (h : w.ownsRow base T 2 v zs.length (rowOf zs)) : ∃ b c, v = .slice b zs.length c ∧ zs.length ≤ c ∧ IsPairs w b zs := by
  obtain ⟨b, c, rfl, hp⟩ := pairs_of_owned h rfl
  refine ⟨b, c, rfl, ?_, hp⟩
  rcases h.2 with ⟨e, e'⟩ | ⟨g, cap, cur, e, _, _, hc, _⟩
  · omega
  · cases e; exact hc
/-- A list of ranges of its own, told, with its room. -/
def PairsPostC (w : World) (zs : List (Int × Int)) (e : Ending) (w' : World) : Prop := ∃ b c, e = .returned (.slice b zs.length c) ∧ zs.length ≤ c ∧ IsPairs w' b zs ∧ Below w.heap.size w w'
end Go.Proofs.YtimfbjnpalgmcaaGreat
