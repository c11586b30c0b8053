/-
  units.Sum, and the reference's. The reference: fits, Sum. units.someRanges. units.Meet, units.Hull. units.Meet. The reference: Meet, Hull. UnitsLists: the walk.
-/
import Derived.Test.YtckapcfofkeicaaRefR
import Derived.BigQuiet
import Derived.Deep.DeepCutAuto
import Derived.Deep.RegionHeld3
import Derived.BigRegion
import Derived.Test.YtckapcfofkeicaaFrameD
namespace Go.Proofs.Ytckapcfofkeicaa
set_option linter.unusedSimpArgs false
set_option linter.unusedVariables false
open Go.RowKit

/-- What Sum returns. -/
def sumQ (rs : List (Int × Int)) : Int × Int × Int :=
  if (listE rs == 0) = false then (0, 0, listE rs) else if allIn 1000000000000000 [sumL rs rs.length, sumH rs rs.length] = true then (sumL rs rs.length, sumH rs rs.length, 0) else (0, 0, 10)
/-- The conditions on a list of ranges come to E. -/
def ListCond (rs : List (Int × Int)) (E : Int) (k1 k2 : Bool) : Prop := decide ((rs.length : Int) ≤ 100) = k1 ∧ rs.all rangeOk = k2 ∧ ∀ f1 c1 f2 c2, firstE [⟨5, f1, c1, k1⟩, ⟨2, f2, c2, k2⟩] = E
set_option maxHeartbeats 1600000 in
theorem sum_bad (rs : List (Int × Int)) (a : Option Addr) (cap : Nat) (E : Int) (k1 k2 : Bool) (w : World) (hE : (E == 0) = false) (hc : Hid (ListCond rs E k1 k2)) (hl : rs.length ≤ 140737488351232) (h : Hid (IsPairs w a rs)) :
    Calls Try.prog 31 #[.slice a rs.length cap] w fun e w' => e = .returned (.tuple #[.agg #[.int .i64 0, .int .i64 0], .int .i64 E]) ∧ Below w.heap.size w w' := by
  go_enter Try.func31, Try.ntmps31
  go_wp2_with fail
  refine (atMost_ex k1 _ _ _ hc.out.1).mono ?_
  rintro e wA ⟨rfl, hA, hbA⟩
  (try simp at hA)
  have c4 := later hbA (a := ⟨w.heap.size, 0, none⟩) (v := .int .i64 0) (by simp [go_sem, World.cell?_alloc_past])
  have c5 := later hbA (a := ⟨w.heap.size, 1, none⟩) (v := .int .i64 0) (by simp [go_sem, World.cell?_alloc_past])
  have f4 := free_later hbA (a := ⟨w.heap.size, 0, none⟩) (v := .int .i64 0) (by simp [go_sem, World.cell?_alloc_past]) (by simp [go_sem, World.cell?_alloc_past])
  have f5 := free_later hbA (a := ⟨w.heap.size, 1, none⟩) (v := .int .i64 0) (by simp [go_sem, World.cell?_alloc_past]) (by simp [go_sem, World.cell?_alloc_past])
  go_wp2_with fail
  refine (validRanges_ex k2 a cap rs.length rs _ hc.out.2.1 rfl hl (pairs_later h.out (show Below w.heap.size w wA from (by repeat (first | exact Below.refl _ _ | assumption | apply balloc | apply bdrew | (refine bset ?_ (by first | (simp; done) | omega | (simp; omega)) _) | (refine bnext ?_ (by assumption))))))).mono ?_
  rintro e wB ⟨rfl, hB, hbB⟩
  (try simp at hB)
  go_wp2_with fail
  refine (firstError_is E [⟨5, 114, _, k1⟩, ⟨2, 114, _, k2⟩] _ _ _ (hc.out.2.2 _ _ _ _) (by simp) (by simp) (cnds_two_at (by simp)) (tells_two (cnd_later hA (show Below wA.heap.size wA _ from balloc hbB)) (fun _ => cnd_later hB (balloc (Below.refl _ _))))).mono ?_
  rintro e wC ⟨rfl, hbC⟩
  have ⟨d4, g4⟩ := cf_later hbC (cf_later (balloc (Below.refl _ _)) (cf_later hbB ⟨c4, f4⟩))
  have ⟨d5, g5⟩ := cf_later hbC (cf_later (balloc (Below.refl _ _)) (cf_later hbB ⟨c5, f5⟩))
  go_wp2_with fail
  exact bodyPost_ret (v := .tuple #[.agg #[.int .i64 0, .int .i64 0], .int .i64 E]) (by simp [results, Try.results31, go_sem, d4, d5]) rfl ⟨rfl, (by repeat (first | exact Below.refl _ _ | assumption | apply balloc | apply bdrew | (refine bset ?_ (by first | (simp; done) | omega | (simp; omega)) _) | (refine bnext ?_ (by assumption))))⟩
set_option maxHeartbeats 1600000 in
theorem sum_good (rs : List (Int × Int)) (a : Option Addr) (cap : Nat) (L H x y E : Int) (w : World) (hc : Hid (ListCond rs 0 true true)) (hl : rs.length ≤ 140737488351232) (h : Hid (IsPairs w a rs))
    (hT : Hid (∀ W, IsPairs W a rs → Calls Try.prog 88 #[.slice a rs.length cap] W fun e w' => e = .returned (.agg #[.int .i64 L, .int .i64 H]) ∧ Below W.heap.size W w'))
    (hLi : Hid (∀ W, Calls Try.prog 87 #[.agg #[.int .i64 L, .int .i64 H]] W fun e w' => e = .returned (.tuple #[.agg #[.int .i64 x, .int .i64 y], .int .i64 E]) ∧ Below W.heap.size W w')) :
    Calls Try.prog 31 #[.slice a rs.length cap] w fun e w' => e = .returned (.tuple #[.agg #[.int .i64 x, .int .i64 y], .int .i64 E]) ∧ Below w.heap.size w w' := by
  go_enter Try.func31, Try.ntmps31
  go_wp2_with fail
  refine (atMost_ex true _ _ _ hc.out.1).mono ?_
  rintro e wA ⟨rfl, hA, hbA⟩
  (try simp at hA)
  have c4 := later hbA (a := ⟨w.heap.size, 0, none⟩) (v := .int .i64 0) (by simp [go_sem, World.cell?_alloc_past])
  have c5 := later hbA (a := ⟨w.heap.size, 1, none⟩) (v := .int .i64 0) (by simp [go_sem, World.cell?_alloc_past])
  have f4 := free_later hbA (a := ⟨w.heap.size, 0, none⟩) (v := .int .i64 0) (by simp [go_sem, World.cell?_alloc_past]) (by simp [go_sem, World.cell?_alloc_past])
  have f5 := free_later hbA (a := ⟨w.heap.size, 1, none⟩) (v := .int .i64 0) (by simp [go_sem, World.cell?_alloc_past]) (by simp [go_sem, World.cell?_alloc_past])
  go_wp2_with fail
  refine (validRanges_ex true a cap rs.length rs _ hc.out.2.1 rfl hl (pairs_later h.out (show Below w.heap.size w wA from (by repeat (first | exact Below.refl _ _ | assumption | apply balloc | apply bdrew | (refine bset ?_ (by first | (simp; done) | omega | (simp; omega)) _) | (refine bnext ?_ (by assumption))))))).mono ?_
  rintro e wB ⟨rfl, hB, hbB⟩
  (try simp at hB)
  go_wp2_with fail
  refine (firstError_is 0 [⟨5, 114, _, true⟩, ⟨2, 114, _, true⟩] _ _ _ (hc.out.2.2 _ _ _ _) (by simp) (by simp) (cnds_two_at (by simp)) (tells_two (cnd_later hA (show Below wA.heap.size wA _ from balloc hbB)) (fun _ => cnd_later hB (balloc (Below.refl _ _))))).mono ?_
  rintro e wC ⟨rfl, hbC⟩
  have ⟨d4, g4⟩ := cf_later hbC (cf_later (balloc (Below.refl _ _)) (cf_later hbB ⟨c4, f4⟩))
  have ⟨d5, g5⟩ := cf_later hbC (cf_later (balloc (Below.refl _ _)) (cf_later hbB ⟨c5, f5⟩))
  have BC : Below w.heap.size w wC := (by repeat (first | exact Below.refl _ _ | assumption | apply balloc | apply bdrew | (refine bset ?_ (by first | (simp; done) | omega | (simp; omega)) _) | (refine bnext ?_ (by assumption))))
  clear c4 c5 f4 f5
  go_wp2_with fail
  refine (hT.out _ (pairs_later h.out BC)).mono ?_
  rintro e wD ⟨rfl, hbD⟩
  have ⟨c4, f4⟩ := cf_later hbD ⟨d4, g4⟩
  have ⟨c5, f5⟩ := cf_later hbD ⟨d5, g5⟩
  clear d4 d5 g4 g5
  go_wp2_with fail
  refine (hLi.out _).mono ?_
  rintro e wE ⟨rfl, hbE⟩
  have ⟨d4, g4⟩ := cf_later hbE ⟨c4, f4⟩
  have ⟨d5, g5⟩ := cf_later hbE ⟨c5, f5⟩
  have z4 := World.block_lt_of_cell? _ _ d4
  clear c4 c5 f4 f5
  go_wp2_with fail
  have yy := two_set (x := .int .i64 x) (y := .int .i64 y) d4 d5
  exact bodyPost_ret (v := .tuple #[.agg #[.int .i64 x, .int .i64 y], .int .i64 E]) (by simp [results, Try.results31, go_sem, yy.1, yy.2]) rfl ⟨rfl, bset (bset (bnext (bnext BC hbD) hbE) (by simp) _) (by simp) _⟩

theorem listE_cases (rs : List (Int × Int)) : (∃ E k1 k2, (E == 0) = false ∧ listE rs = E ∧ ListCond rs E k1 k2) ∨ (listE rs = 0 ∧ rs.length ≤ 100 ∧ rs.all rangeOk = true ∧ ListCond rs 0 true true) := by
  unfold listE
  cases h1 : decide ((rs.length : Int) ≤ 100) with
  | false => exact .inl ⟨5, false, _, rfl, by rw [if_pos rfl], h1, rfl, fun _ _ _ _ => rfl⟩
  | true =>
    cases h2 : rs.all rangeOk with
    | false => exact .inl ⟨2, true, false, rfl, by rw [if_neg (by simp), if_pos rfl], h1, h2, fun _ _ _ _ => rfl⟩
    | true => exact .inr ⟨by rw [if_neg (by simp), if_neg (by simp)], by have := of_decide_eq_true h1; omega, rfl, h1, h2, fun _ _ _ _ => rfl⟩
theorem total_of {rs : List (Int × Int)} (hn : rs.length ≤ 100) (h2 : rs.all rangeOk = true) (a : Option Addr) (cap : Nat) : ∀ W, IsPairs W a rs → Calls Try.prog 88 #[.slice a rs.length cap] W fun e w' => e = .returned (.agg #[.int .i64 (sumL rs rs.length), .int .i64 (sumH rs rs.length)]) ∧ Below W.heap.size W w' := fun W hW =>
  total_any rs a cap W (sumL rs) (sumH rs) (by omega) hW (by simp [sumL, isum, Hid]) (by simp [sumH, isum, Hid]) (fun k hk => sumL_step hk) (fun k hk => sumH_step hk)
    (fun k hk => by have := sums_bound h2 k hk; omega) (fun k hk => by have := sums_bound h2 k hk; omega)
theorem sum_any (rs : List (Int × Int)) (a : Option Addr) (cap : Nat) (w : World) (hl : rs.length ≤ 140737488351232) (h : IsPairs w a rs) :
    Calls Try.prog 31 #[.slice a rs.length cap] w fun e w' => e = .returned (.tuple #[.agg #[.int .i64 (sumQ rs).1, .int .i64 (sumQ rs).2.1], .int .i64 (sumQ rs).2.2]) ∧ Below w.heap.size w w' := by
  unfold sumQ
  rcases listE_cases rs with ⟨E, k1, k2, hE, e, hc⟩ | ⟨e, hn, h2, hc⟩
  · rw [e, if_pos hE]
    exact sum_bad rs a cap E k1 k2 w hE hc hl h
  · rw [e, if_neg (by simp)]
    have hLi := fun W => limited_any (sumL rs rs.length) (sumH rs rs.length) (allIn 1000000000000000 [sumL rs rs.length, sumH rs rs.length]) W rfl
    refine sum_good rs a cap _ _ _ _ _ w hc hl h (total_of hn h2 a cap) (fun W => (hLi W).mono ?_)
    rintro e' w' ⟨he, hb⟩
    refine ⟨?_, hb⟩
    rw [he]
    cases allIn 1000000000000000 [sumL rs rs.length, sumH rs rs.length] <;> rfl
end Go.Proofs.Ytckapcfofkeicaa

namespace Go.Proofs.Ytckapcfofkeicaa
set_option linter.unusedSimpArgs false
set_option linter.unusedVariables false
open Go.RowKit

theorem fits_go (l u : Int) (w : World) (k1 k2 : Bool) (N1 : Hid (Num l k1)) (N2 : Hid (Num u k2)) :
    Calls Try.prog 94 #[.int .i64 l, .int .i64 u, .bool true] w fun e w' => e = .returned (.tuple #[.agg #[.int .i64 (if (k1 && k2) = true then l else 0), .int .i64 (if (k1 && k2) = true then u else 0)], .int .i64 (if (k1 && k2) = true then 0 else 10)]) ∧ Below w.heap.size w w' := by
  cases k1
  · go_enter Try.func94, Try.ntmps94
    go_wp2_with fail
    refine (N1.out _).mono ?_
    rintro e w1 ⟨rfl, rfl⟩
    go_wp2_with fail
    exact bodyPost_ret (v := .tuple #[.agg #[.int .i64 0, .int .i64 0], .int .i64 10]) (by simp [results, Try.results94, go_sem]) rfl ⟨rfl, (by repeat (first | exact Below.refl _ _ | assumption | apply balloc | apply bdrew | (refine bset ?_ (by first | (simp; done) | omega | (simp; omega)) _) | (refine bnext ?_ (by assumption))))⟩
  · cases k2
    · go_enter Try.func94, Try.ntmps94
      go_wp2_with fail
      refine (N1.out _).mono ?_
      rintro e w1 ⟨rfl, rfl⟩
      go_wp2_with fail
      refine (N2.out _).mono ?_
      rintro e w1 ⟨rfl, rfl⟩
      go_wp2_with fail
      exact bodyPost_ret (v := .tuple #[.agg #[.int .i64 0, .int .i64 0], .int .i64 10]) (by simp [results, Try.results94, go_sem]) rfl ⟨rfl, (by repeat (first | exact Below.refl _ _ | assumption | apply balloc | apply bdrew | (refine bset ?_ (by first | (simp; done) | omega | (simp; omega)) _) | (refine bnext ?_ (by assumption))))⟩
    · go_enter Try.func94, Try.ntmps94
      go_wp2_with fail
      refine (N1.out _).mono ?_
      rintro e w1 ⟨rfl, rfl⟩
      go_wp2_with fail
      refine (N2.out _).mono ?_
      rintro e w1 ⟨rfl, rfl⟩
      go_wp2_with fail
      exact bodyPost_ret (v := .tuple #[.agg #[.int .i64 l, .int .i64 u], .int .i64 0]) (by simp [results, Try.results94, go_sem]) rfl ⟨rfl, (by repeat (first | exact Below.refl _ _ | assumption | apply balloc | apply bdrew | (refine bset ?_ (by first | (simp; done) | omega | (simp; omega)) _) | (refine bnext ?_ (by assumption))))⟩
theorem fits_any (l h : Int) (w : World) :
    Calls Try.prog 94 #[.int .i64 l, .int .i64 h, .bool true] w fun e w' => e = .returned (.tuple #[.agg #[.int .i64 (if allIn 1000000000000000 [l, h] = true then l else 0), .int .i64 (if allIn 1000000000000000 [l, h] = true then h else 0)], .int .i64 (if allIn 1000000000000000 [l, h] = true then 0 else 10)]) ∧ Below w.heap.size w w' := by
  have g := fits_go l h w _ _ (num_of rfl) (num_of rfl)
  rwa [← allIn_both] at g

set_option maxHeartbeats 3200000 in
theorem refSum_bad (rs : List (Int × Int)) (a : Option Addr) (cap : Nat) (E : Int) (w : World) (L : Hid (∀ w, IsPairs w a rs → Calls Try.prog 93 #[.slice a rs.length cap] w fun e w' => e = .returned (.int .i64 E) ∧ Below w.heap.size w w')) (hE : (E == 0) = false) (h : Hid (IsPairs w a rs)) :
    Calls Try.prog 34 #[.slice a rs.length cap] w fun e w' => e = .returned (.tuple #[.agg #[.int .i64 0, .int .i64 0], .int .i64 E]) ∧ Below w.heap.size w w' := by
  go_enter Try.func34, Try.ntmps34
  go_wp2_with fail
  refine (L.out _ (pairs_later h.out (by repeat (first | exact Below.refl _ _ | assumption | apply balloc | apply bdrew | (refine bset ?_ (by first | (simp; done) | omega | (simp; omega)) _) | (refine bnext ?_ (by assumption)))))).mono ?_
  rintro e w1 ⟨rfl, hb1⟩
  have c4 := later hb1 (a := ⟨w.heap.size, 0, none⟩) (v := .int .i64 0) (by simp [go_sem, World.cell?_alloc_past])
  have c5 := later hb1 (a := ⟨w.heap.size, 1, none⟩) (v := .int .i64 0) (by simp [go_sem, World.cell?_alloc_past])
  have f4 := free_later hb1 (a := ⟨w.heap.size, 0, none⟩) (v := .int .i64 0) (by simp [go_sem, World.cell?_alloc_past]) (by simp [go_sem, World.cell?_alloc_past])
  have f5 := free_later hb1 (a := ⟨w.heap.size, 1, none⟩) (v := .int .i64 0) (by simp [go_sem, World.cell?_alloc_past]) (by simp [go_sem, World.cell?_alloc_past])
  go_wp2_with fail
  exact bodyPost_ret (v := .tuple #[.agg #[.int .i64 0, .int .i64 0], .int .i64 E]) (by simp [results, Try.results34, go_sem, c4, c5]) rfl ⟨rfl, (by repeat (first | exact Below.refl _ _ | assumption | apply balloc | apply bdrew | (refine bset ?_ (by first | (simp; done) | omega | (simp; omega)) _) | (refine bnext ?_ (by assumption))))⟩
set_option maxRecDepth 100000 in
set_option maxHeartbeats 6400000 in
theorem refSum_good (rs : List (Int × Int)) (a : Option Addr) (cap : Nat) (x y E : Int) (w : World) (L : Hid (∀ w, IsPairs w a rs → Calls Try.prog 93 #[.slice a rs.length cap] w fun e w' => e = .returned (.int .i64 0) ∧ Below w.heap.size w w')) (h : Hid (IsPairs w a rs)) (hl : rs.length ≤ 100) (hr : Hid (rs.all rangeOk = true))
    (F : Hid (∀ W, Calls Try.prog 94 #[.int .i64 (sumL rs rs.length), .int .i64 (sumH rs rs.length), .bool true] W fun e w' => e = .returned (.tuple #[.agg #[.int .i64 x, .int .i64 y], .int .i64 E]) ∧ Below W.heap.size W w')) :
    Calls Try.prog 34 #[.slice a rs.length cap] w fun e w' => e = .returned (.tuple #[.agg #[.int .i64 x, .int .i64 y], .int .i64 E]) ∧ Below w.heap.size w w' := by
  go_enter Try.func34, Try.ntmps34
  go_wp2_with fail
  refine (L.out _ (pairs_later h.out (by repeat (first | exact Below.refl _ _ | assumption | apply balloc | apply bdrew | (refine bset ?_ (by first | (simp; done) | omega | (simp; omega)) _) | (refine bnext ?_ (by assumption)))))).mono ?_
  rintro e w1 ⟨rfl, hb1⟩
  have c4 := later hb1 (a := ⟨w.heap.size, 0, none⟩) (v := .int .i64 0) (by simp [go_sem, World.cell?_alloc_past])
  have c5 := later hb1 (a := ⟨w.heap.size, 1, none⟩) (v := .int .i64 0) (by simp [go_sem, World.cell?_alloc_past])
  have f4 := free_later hb1 (a := ⟨w.heap.size, 0, none⟩) (v := .int .i64 0) (by simp [go_sem, World.cell?_alloc_past]) (by simp [go_sem, World.cell?_alloc_past])
  have f5 := free_later hb1 (a := ⟨w.heap.size, 1, none⟩) (v := .int .i64 0) (by simp [go_sem, World.cell?_alloc_past]) (by simp [go_sem, World.cell?_alloc_past])
  have B1 : Below w.heap.size w w1 := (by repeat (first | exact Below.refl _ _ | assumption | apply balloc | apply bdrew | (refine bset ?_ (by first | (simp; done) | omega | (simp; omega)) _) | (refine bnext ?_ (by assumption))))
  go_wp2_with fail
  go_loopw [5, 6, 7] (fun lo hi i wr => ∃ k : Nat, k ≤ rs.length ∧ i = .int .i64 (k : Int) ∧ lo = .int .i64 (sumL rs k) ∧ hi = .int .i64 (sumH rs k) ∧ Below w1.heap.size w1 wr) (fun _ _ i _ => rs.length - (intOf i).toNat)
  case atStart => exact ⟨0, by omega, rfl, by simp [sumL, isum], by simp [sumH, isum], Below.refl _ _⟩
  case round =>
    obtain ⟨k, hk, rfl, rfl, rfl, hbw⟩ := hrel
    by_cases hlt : k < rs.length
    · obtain ⟨b, off, rfl, hc⟩ : ∃ b off, a = some ⟨b, off, none⟩ ∧ ∀ i, i < rs.length → wr.cell? ⟨b, off + i * 2, none⟩ = some (.int .i64 (rs.getD i (0, 0)).1) ∧ wr.cell? ⟨b, off + i * 2 + 1, none⟩ = some (.int .i64 (rs.getD i (0, 0)).2) := by
        rcases pairs_later (pairs_later h.out B1) hbw with h | h
        · subst h; simp at hlt
        · exact h
      obtain ⟨c1, c2⟩ := hc k hlt
      clear hc
      have e1 := sumL_step hlt
      have e2 := sumH_step hlt
      have s0 := sums_bound hr.out k (by omega)
      have s1 := sums_bound hr.out (k + 1) (by omega)
      obtain ⟨x, hx⟩ : ∃ x, sumL rs (k + 1) = x := ⟨_, rfl⟩
      obtain ⟨y, hy⟩ : ∃ y, sumH rs (k + 1) = y := ⟨_, rfl⟩
      rw [hx] at e1 s1
      rw [hy] at e2 s1
      have HX := hide hx
      have HY := hide hy
      clear hx hy
      generalize rs.getD k (0, 0) = z at *
      obtain ⟨p, q⟩ := z
      simp only at c1 c2 e1 e2
      obtain ⟨⟨s2, s3⟩, s4, s5⟩ := s0
      obtain ⟨⟨s6, s7⟩, s8, s9⟩ := s1
      have t1 : sumL rs k + p ≤ 1000000000000000000 ∧ -1000000000000000000 ≤ sumL rs k + p := by omega
      have t2 : sumH rs k + q ≤ 1000000000000000000 ∧ -1000000000000000000 ≤ sumH rs k + q := by omega
      go_wp2_with fail
      go_quiet (fail)
      go_wp2_with fail
      go_roundw
      case rel => exact ⟨k + 1, by omega, by go_num, by rw [HX.out], by rw [HY.out], below_drewN hbw _⟩
      case measure => simp [intOf]; omega
    · obtain rfl : k = rs.length := by omega
      have ⟨d4, g4⟩ := cf_later hbw ⟨c4, f4⟩
      have ⟨d5, g5⟩ := cf_later hbw ⟨c5, f5⟩
      clear c4 c5 f4 f5
      go_wp2_with fail
      refine (F.out _).mono ?_
      rintro e w3 ⟨rfl, hb3⟩
      have ⟨c4, f4⟩ := cf_later hb3 ⟨d4, g4⟩
      have ⟨c5, f5⟩ := cf_later hb3 ⟨d5, g5⟩
      have B3 : Below w.heap.size w w3 := bnext (bnext B1 hbw) hb3
      clear d4 d5 g4 g5
      go_wp2_with fail
      have yy := two_set (x := .int .i64 x) (y := .int .i64 y) c4 c5
      exact bodyPost_ret (v := .tuple #[.agg #[.int .i64 x, .int .i64 y], .int .i64 E]) (by simp [results, Try.results34, go_sem, yy.1, yy.2]) rfl ⟨rfl, bset (bset B3 (by simp) _) (by simp) _⟩
theorem refSum_any (rs : List (Int × Int)) (a : Option Addr) (cap : Nat) (w : World) (hl : rs.length ≤ 140737488351232) (h : IsPairs w a rs) :
    Calls Try.prog 34 #[.slice a rs.length cap] w fun e w' => e = .returned (.tuple #[.agg #[.int .i64 (sumQ rs).1, .int .i64 (sumQ rs).2.1], .int .i64 (sumQ rs).2.2]) ∧ Below w.heap.size w w' := by
  have L := fun (w : World) (h : IsPairs w a rs) => refList_any a cap rs w hl h
  unfold sumQ
  rcases listE_cases rs with ⟨E, k1, k2, hE, e, hc⟩ | ⟨e, hn, h2, hc⟩
  · rw [e] at L
    rw [e, if_pos hE]
    exact refSum_bad rs a cap E w L hE h
  · rw [e] at L
    rw [e, if_neg (by simp)]
    refine refSum_good rs a cap _ _ _ w L h hn h2 (fun W => (fits_any (sumL rs rs.length) (sumH rs rs.length) W).mono ?_)
    rintro e' w' ⟨he, hb⟩
    refine ⟨?_, hb⟩
    rw [he]
    cases allIn 1000000000000000 [sumL rs rs.length, sumH rs rs.length] <;> rfl
end Go.Proofs.Ytckapcfofkeicaa

namespace Go.Proofs.Ytckapcfofkeicaa
set_option linter.unusedSimpArgs false
set_option linter.unusedVariables false
open Go.RowKit

/-- The error of a list of ranges that may not be empty. -/
def someE (rs : List (Int × Int)) : Int := if (listE rs == 0) = false then listE rs else if rs.length = 0 then 2 else 0
theorem some1_any (a : Option Addr) (n cap : Nat) (p : Addr) (w : World) (hn : n ≤ 140737488351232) (hp : w.cell? p = some (.slice a n cap)) :
    Calls Try.prog 124 #[.pointer (some p)] w fun e w' => e = .returned (.bool (decide (0 < (n : Int)))) ∧ w = w' := by
  go_enter Try.func124, Try.ntmps124
  go_wp2
  go_ret
  exact ⟨ret_bool (by simp), rfl⟩
theorem some1_tells (k : Bool) (a : Option Addr) (n cap : Nat) (p : Addr) (w : World) (hk : decide (0 < (n : Int)) = k) (hn : n ≤ 140737488351232) (hp : w.cell? p = some (.slice a n cap)) :
    Tells w 124 #[.pointer (some p)] k := by
  subst hk
  exact ⟨enters_any Try.func124 (by kernel_rfl) rfl _, fun W hW => (some1_any a n cap p W hn (later hW hp)).mono (by rintro e w' ⟨rfl, rfl⟩; exact ⟨rfl, Below.refl _ _⟩)⟩
/-- The conditions come to E. -/
def SomeCond (rs : List (Int × Int)) (E : Int) (k1 k2 k3 : Bool) : Prop :=
  decide ((rs.length : Int) ≤ 100) = k1 ∧ rs.all rangeOk = k2 ∧ decide (0 < (rs.length : Int)) = k3 ∧ ∀ f1 c1 f2 c2 f3 c3, firstE [⟨5, f1, c1, k1⟩, ⟨2, f2, c2, k2⟩, ⟨2, f3, c3, k3⟩] = E
set_option maxHeartbeats 3200000 in
theorem some_go (rs : List (Int × Int)) (a : Option Addr) (cap : Nat) (E : Int) (k1 k2 k3 : Bool) (w : World) (hc : Hid (SomeCond rs E k1 k2 k3)) (hl : rs.length ≤ 140737488351232) (h : Hid (IsPairs w a rs)) :
    Calls Try.prog 89 #[.slice a rs.length cap] w fun e w' => e = .returned (.int .i64 E) ∧ Below w.heap.size w w' := by
  go_enter Try.func89, Try.ntmps89
  go_upto_region 1 with fail
  go_cut [2] from 3 (fun s2 wx => s2 = .int .i64 E ∧ Below w.heap.size w wx)
  case first =>
    go_region_held3 (fun w' => w'.cell? ⟨w.heap.size, 0, none⟩ = some (.slice a rs.length cap) ∧ Below w.heap.size w w')
      (first | (refine ⟨?_, bdrew (balloc (Below.refl _ _))⟩ <;> simp [go_sem, World.cell?_alloc_past]; done) | (go_split_ands; first | (exact ⟨later hbD (by assumption), bnext (by assumption) hbD⟩) | (exact ⟨later hbA (by assumption), bnext (by assumption) hbA⟩) | (exact ⟨later hbB (by assumption), bnext (by assumption) hbB⟩) | (exact ⟨later hbC (by assumption), bnext (by assumption) hbC⟩)) | (go_split_ands; exact ⟨later (balloc (Below.refl _ _)) (by assumption), balloc (by assumption)⟩) | go_keep)
      (first
        | (go_at_call 81; refine (atMost_ex k1 _ _ _ hc.out.1).mono ?_; rintro e wA ⟨rfl, hA, hbA⟩; (try simp at hA))
        | (go_at_call 86; refine (validRanges_ex k2 a cap rs.length rs _ hc.out.2.1 rfl hl (pairs_later h.out (by repeat (first | exact Below.refl _ _ | assumption | apply balloc | apply bdrew | (refine bnext ?_ (by assumption)))))).mono ?_; rintro e wB ⟨rfl, hB, hbB⟩; (try simp at hB))
        | (go_at_call 68; refine (unless_ex 2 _ _ k3 _ rfl (some1_tells k3 a rs.length cap ⟨w.heap.size, 0, none⟩ _ hc.out.2.2.1 hl (by go_split_ands; assumption))).mono ?_; rintro e wC ⟨rfl, hC, hbC⟩; (try simp at hC))
        | (go_at_call 67; go_loud (refine (firstError_is E [⟨5, 114, _, k1⟩, ⟨2, 114, _, k2⟩, ⟨2, 114, _, k3⟩] _ _ _ (hc.out.2.2.2 _ _ _ _ _ _) (by simp) (by simp) (cnds_three_at (by simp)) (tells_three (cnd_later hA (by repeat (first | exact Below.refl _ _ | assumption | apply balloc | apply bdrew | (refine bnext ?_ (by assumption))))) (fun _ => cnd_later hB (by repeat (first | exact Below.refl _ _ | assumption | apply balloc | apply bdrew | (refine bnext ?_ (by assumption))))) (fun _ _ => cnd_later hC (by repeat (first | exact Below.refl _ _ | assumption | apply balloc | apply bdrew | (refine bnext ?_ (by assumption))))))).mono ?_); rintro e wD ⟨rfl, hbD⟩))
    all_goals (go_wp2_with fail; go_meet; exact ⟨rfl, by go_split_ands; assumption⟩)
  case rest =>
    obtain ⟨rfl, hbw⟩ := hcut
    go_wp2
    go_ret
    exact ⟨rfl, hbw⟩
theorem some_any (rs : List (Int × Int)) (a : Option Addr) (cap : Nat) (w : World) (hl : rs.length ≤ 140737488351232) (h : IsPairs w a rs) :
    Calls Try.prog 89 #[.slice a rs.length cap] w fun e w' => e = .returned (.int .i64 (someE rs)) ∧ Below w.heap.size w w' := by
  refine some_go rs a cap _ _ _ _ w ⟨rfl, rfl, rfl, fun f1 c1 f2 c2 f3 c3 => ?_⟩ hl h
  unfold someE listE
  simp only [firstE]
  by_cases h1 : (rs.length : Int) ≤ 100
  · rw [decide_eq_true h1]
    cases h2 : rs.all rangeOk with
    | false => simp
    | true =>
      by_cases h3 : rs.length = 0
      · simp [h3]
      · have : 0 < (rs.length : Int) := by omega
        simp [h3, this]
  · rw [decide_eq_false h1]; simp
end Go.Proofs.Ytckapcfofkeicaa

namespace Go.Proofs.Ytckapcfofkeicaa
set_option linter.unusedSimpArgs false
set_option linter.unusedVariables false
open Go.RowKit

/-- The greatest (least) of the lower (upper) ends of the first k + 1 ranges. -/
def mxL (rs : List (Int × Int)) : Nat → Int
  | 0 => (rs.getD 0 (0, 0)).1
  | k + 1 => max (mxL rs k) (rs.getD (k + 1) (0, 0)).1
def mnL (rs : List (Int × Int)) : Nat → Int
  | 0 => (rs.getD 0 (0, 0)).1
  | k + 1 => min (mnL rs k) (rs.getD (k + 1) (0, 0)).1
def mxH (rs : List (Int × Int)) : Nat → Int
  | 0 => (rs.getD 0 (0, 0)).2
  | k + 1 => max (mxH rs k) (rs.getD (k + 1) (0, 0)).2
def mnH (rs : List (Int × Int)) : Nat → Int
  | 0 => (rs.getD 0 (0, 0)).2
  | k + 1 => min (mnH rs k) (rs.getD (k + 1) (0, 0)).2
theorem meet_stays {rs : List (Int × Int)} {k : Nat} (h : mnH rs k < mxL rs k) : ∀ j, mnH rs (k + j) < mxL rs (k + j)
  | 0 => h
  | j + 1 => by
    have := meet_stays h j
    rw [← Nat.add_assoc]
    simp only [mxL, mnH]
    omega
def meetQ (rs : List (Int × Int)) : Int × Int × Int :=
  if (someE rs == 0) = false then (0, 0, someE rs) else if mxL rs (rs.length - 1) ≤ mnH rs (rs.length - 1) then (mxL rs (rs.length - 1), mnH rs (rs.length - 1), 0) else (0, 0, 7)
def hullQ (rs : List (Int × Int)) : Int × Int × Int :=
  if (someE rs == 0) = false then (0, 0, someE rs) else (mnL rs (rs.length - 1), mxH rs (rs.length - 1), 0)
/-- What has been gathered of the first k ranges. -/
def hullG (rs : List (Int × Int)) : Nat → Gth
  | 0 => ⟨0, 0, false, false⟩
  | k + 1 => ⟨mnL rs k, mxH rs k, true, false⟩
theorem hullG_step (rs : List (Int × Int)) (k : Nat) : gAdd (hullG rs k) (rs.getD k (0, 0)).1 (rs.getD k (0, 0)).2 = hullG rs (k + 1) := by
  cases k <;> rfl

set_option maxHeartbeats 1600000 in
theorem hull_bad (rs : List (Int × Int)) (a : Option Addr) (cap : Nat) (E : Int) (w : World) (L : Hid (∀ w, IsPairs w a rs → Calls Try.prog 89 #[.slice a rs.length cap] w fun e w' => e = .returned (.int .i64 E) ∧ Below w.heap.size w w')) (hE : (E == 0) = false) (h : Hid (IsPairs w a rs)) :
    Calls Try.prog 33 #[.slice a rs.length cap] w fun e w' => e = .returned (.tuple #[.agg #[.int .i64 0, .int .i64 0], .int .i64 E]) ∧ Below w.heap.size w w' := by
  go_enter Try.func33, Try.ntmps33
  go_wp2_with fail
  refine (L.out _ (pairs_later h.out (by repeat (first | exact Below.refl _ _ | assumption | apply balloc | apply bdrew | (refine bset ?_ (by first | (simp; done) | omega | (simp; omega)) _) | (refine bnext ?_ (by assumption)))))).mono ?_
  rintro e w1 ⟨rfl, hb1⟩
  have c4 := later hb1 (a := ⟨w.heap.size, 0, none⟩) (v := .int .i64 0) (by simp [go_sem, World.cell?_alloc_past])
  have c5 := later hb1 (a := ⟨w.heap.size, 1, none⟩) (v := .int .i64 0) (by simp [go_sem, World.cell?_alloc_past])
  have f4 := free_later hb1 (a := ⟨w.heap.size, 0, none⟩) (v := .int .i64 0) (by simp [go_sem, World.cell?_alloc_past]) (by simp [go_sem, World.cell?_alloc_past])
  have f5 := free_later hb1 (a := ⟨w.heap.size, 1, none⟩) (v := .int .i64 0) (by simp [go_sem, World.cell?_alloc_past]) (by simp [go_sem, World.cell?_alloc_past])
  go_wp2_with fail
  exact bodyPost_ret (v := .tuple #[.agg #[.int .i64 0, .int .i64 0], .int .i64 E]) (by simp [results, Try.results33, go_sem, c4, c5]) rfl ⟨rfl, (by repeat (first | exact Below.refl _ _ | assumption | apply balloc | apply bdrew | (refine bset ?_ (by first | (simp; done) | omega | (simp; omega)) _) | (refine bnext ?_ (by assumption))))⟩
set_option maxHeartbeats 3200000 in
theorem hull_good (rs : List (Int × Int)) (a : Option Addr) (cap m : Nat) (w : World) (L : Hid (∀ w, IsPairs w a rs → Calls Try.prog 89 #[.slice a rs.length cap] w fun e w' => e = .returned (.int .i64 0) ∧ Below w.heap.size w w')) (hl : rs.length ≤ 100) (hm : rs.length = m + 1) (h : Hid (IsPairs w a rs)) :
    Calls Try.prog 33 #[.slice a rs.length cap] w fun e w' => e = .returned (.tuple #[.agg #[.int .i64 (mnL rs m), .int .i64 (mxH rs m)], .int .i64 0]) ∧ Below w.heap.size w w' := by
  have HM := hide hm
  clear hm
  go_enter Try.func33, Try.ntmps33
  go_wp2_with fail
  refine (L.out _ (pairs_later h.out (by repeat (first | exact Below.refl _ _ | assumption | apply balloc | apply bdrew | (refine bset ?_ (by first | (simp; done) | omega | (simp; omega)) _) | (refine bnext ?_ (by assumption)))))).mono ?_
  rintro e w1 ⟨rfl, hb1⟩
  have c4 := later hb1 (a := ⟨w.heap.size, 0, none⟩) (v := .int .i64 0) (by simp [go_sem, World.cell?_alloc_past])
  have c5 := later hb1 (a := ⟨w.heap.size, 1, none⟩) (v := .int .i64 0) (by simp [go_sem, World.cell?_alloc_past])
  have f4 := free_later hb1 (a := ⟨w.heap.size, 0, none⟩) (v := .int .i64 0) (by simp [go_sem, World.cell?_alloc_past]) (by simp [go_sem, World.cell?_alloc_past])
  have f5 := free_later hb1 (a := ⟨w.heap.size, 1, none⟩) (v := .int .i64 0) (by simp [go_sem, World.cell?_alloc_past]) (by simp [go_sem, World.cell?_alloc_past])
  have B1 : Below w.heap.size w w1 := (by repeat (first | exact Below.refl _ _ | assumption | apply balloc | apply bdrew | (refine bset ?_ (by first | (simp; done) | omega | (simp; omega)) _) | (refine bnext ?_ (by assumption))))
  have z4 : w.heap.size < w1.heap.size := World.block_lt_of_cell? _ _ c4
  clear hb1
  go_wp2_with fail
  go_loopw [16] (fun i wr => ∃ k : Nat, k ≤ rs.length ∧ i = .int .i64 (k : Int) ∧ GAt wr w1.heap.size (hullG rs k) ∧ Below w1.heap.size w1 wr) (fun i _ => rs.length - (intOf i).toNat)
  case atStart => exact ⟨0, by omega, rfl, by simp [GAt, hullG, go_sem, World.cell?_alloc_past], balloc (Below.refl _ _)⟩
  case round =>
    obtain ⟨k, hk, rfl, hg, hbw⟩ := hrel
    have HG := hide hg
    clear hg
    by_cases hlt : k < rs.length
    · obtain ⟨b, off, rfl, hc⟩ : ∃ b off, a = some ⟨b, off, none⟩ ∧ ∀ i, i < rs.length → wr.cell? ⟨b, off + i * 2, none⟩ = some (.int .i64 (rs.getD i (0, 0)).1) ∧ wr.cell? ⟨b, off + i * 2 + 1, none⟩ = some (.int .i64 (rs.getD i (0, 0)).2) := by
        rcases pairs_later (pairs_later h.out B1) hbw with h | h
        · subst h; simp at hlt
        · exact h
      obtain ⟨c1, c2⟩ := hc k hlt
      clear hc
      have S := hide (hullG_step rs k)
      obtain ⟨z, hz⟩ : ∃ z, rs.getD k (0, 0) = z := ⟨_, rfl⟩
      rw [hz] at c1 c2 S
      clear hz
      obtain ⟨p, q⟩ := z
      simp only at c1 c2 S
      have A := hide fun w h => add_any w1.heap.size (hullG rs k) p q w h
      go_wp2_with fail
      refine (A.out _ (gat_later HG.out (balloc (Below.refl _ _)))).mono ?_
      rintro e w2 ⟨rfl, hg2, ht2⟩
      rw [S.out] at hg2
      have HG2 := hide hg2
      have B2 := hide (show Below w1.heap.size w1 w2 from ht2.below (balloc hbw) (Nat.le_refl _))
      clear hg2 ht2
      go_wp2_with fail
      go_roundw
      case rel => exact ⟨k + 1, by omega, by go_num, HG2.out, B2.out⟩
      case measure => simp [intOf]; omega
    · obtain rfl : k = rs.length := by omega
      rw [HM.out] at HG
      have e : hullG rs (m + 1) = ⟨mnL rs m, mxH rs m, true, false⟩ := rfl
      rw [e] at HG
      have ⟨⟨a0, a1, a2, a3⟩, _⟩ := HG.out
      have R := hide fun w => result_any ⟨mnL rs m, mxH rs m, true, false⟩ w
      have ⟨d4, g4⟩ := cf_later hbw ⟨c4, f4⟩
      have ⟨d5, g5⟩ := cf_later hbw ⟨c5, f5⟩
      clear c4 c5 f4 f5 e HG
      simp only at a0 a1 a2 a3
      go_wp2_with fail
      refine (R.out _).mono ?_
      rintro e w3 ⟨rfl, hb3⟩
      have ⟨c4, f4⟩ := cf_later hb3 ⟨d4, g4⟩
      have ⟨c5, f5⟩ := cf_later hb3 ⟨d5, g5⟩
      have B3 : Below w.heap.size w w3 := bnext (bnext B1 hbw) hb3
      clear d4 d5 g4 g5 a0 a1 a2 a3
      go_wp2_with fail
      have yy := two_set (x := .int .i64 (mnL rs m)) (y := .int .i64 (mxH rs m)) c4 c5
      exact bodyPost_ret (v := .tuple #[.agg #[.int .i64 (mnL rs m), .int .i64 (mxH rs m)], .int .i64 0]) (by simp [results, Try.results33, go_sem, gRes, yy.1, yy.2]) rfl ⟨rfl, bset (bset B3 (by simp) _) (by simp) _⟩
end Go.Proofs.Ytckapcfofkeicaa

namespace Go.Proofs.Ytckapcfofkeicaa
set_option linter.unusedSimpArgs false
set_option linter.unusedVariables false
open Go.RowKit

set_option maxHeartbeats 1600000 in
theorem meet_bad (rs : List (Int × Int)) (a : Option Addr) (cap : Nat) (E : Int) (w : World) (L : Hid (∀ w, IsPairs w a rs → Calls Try.prog 89 #[.slice a rs.length cap] w fun e w' => e = .returned (.int .i64 E) ∧ Below w.heap.size w w')) (hE : (E == 0) = false) (h : Hid (IsPairs w a rs)) :
    Calls Try.prog 32 #[.slice a rs.length cap] w fun e w' => e = .returned (.tuple #[.agg #[.int .i64 0, .int .i64 0], .int .i64 E]) ∧ Below w.heap.size w w' := by
  go_enter Try.func32, Try.ntmps32
  go_wp2_with fail
  refine (L.out _ (pairs_later h.out (by repeat (first | exact Below.refl _ _ | assumption | apply balloc | apply bdrew | (refine bset ?_ (by first | (simp; done) | omega | (simp; omega)) _) | (refine bnext ?_ (by assumption)))))).mono ?_
  rintro e w1 ⟨rfl, hb1⟩
  have c4 := later hb1 (a := ⟨w.heap.size, 0, none⟩) (v := .int .i64 0) (by simp [go_sem, World.cell?_alloc_past])
  have c5 := later hb1 (a := ⟨w.heap.size, 1, none⟩) (v := .int .i64 0) (by simp [go_sem, World.cell?_alloc_past])
  have f4 := free_later hb1 (a := ⟨w.heap.size, 0, none⟩) (v := .int .i64 0) (by simp [go_sem, World.cell?_alloc_past]) (by simp [go_sem, World.cell?_alloc_past])
  have f5 := free_later hb1 (a := ⟨w.heap.size, 1, none⟩) (v := .int .i64 0) (by simp [go_sem, World.cell?_alloc_past]) (by simp [go_sem, World.cell?_alloc_past])
  go_wp2_with fail
  exact bodyPost_ret (v := .tuple #[.agg #[.int .i64 0, .int .i64 0], .int .i64 E]) (by simp [results, Try.results32, go_sem, c4, c5]) rfl ⟨rfl, (by repeat (first | exact Below.refl _ _ | assumption | apply balloc | apply bdrew | (refine bset ?_ (by first | (simp; done) | omega | (simp; omega)) _) | (refine bnext ?_ (by assumption))))⟩
/-- What the loop of Meet holds: the result's cell and the range so far. -/
def MSt (n g : Nat) (l h : Int) (w : World) : Prop := (CF w ⟨n, 0, none⟩ (.int .i64 0) ∧ CF w ⟨n, 1, none⟩ (.int .i64 0)) ∧ CF w ⟨g, 0, none⟩ (.int .i64 l) ∧ CF w ⟨g, 1, none⟩ (.int .i64 h)
theorem mst_later {n g : Nat} {l h : Int} {w W : World} (s : MSt n g l h w) (hb : Below w.heap.size w W) : MSt n g l h W := by
  obtain ⟨⟨a, b⟩, c, d⟩ := s
  exact ⟨⟨cf_later hb a, cf_later hb b⟩, cf_later hb c, cf_later hb d⟩
theorem cf_set2 {w : World} {n m i : Nat} {x y v : Value} (hne : m ≠ n) (h : CF w ⟨m, i, none⟩ v) : CF ((w.setCell ⟨n, 0, none⟩ x).setCell ⟨n, 1, none⟩ y) ⟨m, i, none⟩ v := by
  refine ⟨?_, ?_⟩
  · exact (World.cell?_of_block (w := w) ((Below.heap_setCell _ ⟨n, 1, none⟩ _ m hne).trans (Below.heap_setCell _ ⟨n, 0, none⟩ _ m hne))).trans h.1
  · exact (World.frozen?_of_block (w := w) ((Below.heap_setCell _ ⟨n, 1, none⟩ _ m hne).trans (Below.heap_setCell _ ⟨n, 0, none⟩ _ m hne))).trans h.2
theorem mst_set {n g : Nat} {l h x y : Int} {w : World} (s : MSt n g l h w) (hne : n ≠ g) : MSt n g x y ((w.setCell ⟨g, 0, none⟩ (.int .i64 x)).setCell ⟨g, 1, none⟩ (.int .i64 y)) := by
  obtain ⟨⟨a, b⟩, c, d⟩ := s
  have yy := two_set (x := .int .i64 x) (y := .int .i64 y) c.1 d.1
  exact ⟨⟨cf_set2 hne a, cf_set2 hne b⟩, ⟨yy.1, by simp [go_sem, c.2]⟩, ⟨yy.2, by simp [go_sem, d.2]⟩⟩

set_option maxRecDepth 100000 in
set_option maxHeartbeats 6400000 in
theorem meet_good (rs : List (Int × Int)) (a : Option Addr) (cap m : Nat) (x y E : Int) (HX : Hid (mxL rs m ≤ mnH rs m → x = mxL rs m ∧ y = mnH rs m ∧ E = 0)) (HN : Hid (¬ mxL rs m ≤ mnH rs m → x = 0 ∧ y = 0 ∧ E = 7)) (w : World) (L : Hid (∀ w, IsPairs w a rs → Calls Try.prog 89 #[.slice a rs.length cap] w fun e w' => e = .returned (.int .i64 0) ∧ Below w.heap.size w w')) (hl : rs.length ≤ 100) (hm : rs.length = m + 1) (hcap : rs.length ≤ cap) (hr : Hid (rs.all rangeOk = true)) (h : Hid (IsPairs w a rs)) :
    Calls Try.prog 32 #[.slice a rs.length cap] w fun e w' => e = .returned (.tuple #[.agg #[.int .i64 x, .int .i64 y], .int .i64 E]) ∧ Below w.heap.size w w' := by
  obtain ⟨b, off, rfl, hc0⟩ : ∃ b off, a = some ⟨b, off, none⟩ ∧ ∀ i, i < rs.length → w.cell? ⟨b, off + i * 2, none⟩ = some (.int .i64 (rs.getD i (0, 0)).1) ∧ w.cell? ⟨b, off + i * 2 + 1, none⟩ = some (.int .i64 (rs.getD i (0, 0)).2) := by
    rcases h.out with h | h
    · subst h; simp at hm
    · exact h
  have HC := hide hc0
  rw [hm] at L hcap hl
  rw [hm]
  clear hc0
  go_enter Try.func32, Try.ntmps32
  go_wp2_with fail
  refine (L.out _ (pairs_later h.out (by repeat (first | exact Below.refl _ _ | assumption | apply balloc | apply bdrew | (refine bset ?_ (by first | (simp; done) | omega | (simp; omega)) _) | (refine bnext ?_ (by assumption)))))).mono ?_
  rintro e w1 ⟨rfl, hb1⟩
  have c4 := later hb1 (a := ⟨w.heap.size, 0, none⟩) (v := .int .i64 0) (by simp [go_sem, World.cell?_alloc_past])
  have c5 := later hb1 (a := ⟨w.heap.size, 1, none⟩) (v := .int .i64 0) (by simp [go_sem, World.cell?_alloc_past])
  have f4 := free_later hb1 (a := ⟨w.heap.size, 0, none⟩) (v := .int .i64 0) (by simp [go_sem, World.cell?_alloc_past]) (by simp [go_sem, World.cell?_alloc_past])
  have f5 := free_later hb1 (a := ⟨w.heap.size, 1, none⟩) (v := .int .i64 0) (by simp [go_sem, World.cell?_alloc_past]) (by simp [go_sem, World.cell?_alloc_past])
  have B1 : Below w.heap.size w w1 := (by repeat (first | exact Below.refl _ _ | assumption | apply balloc | apply bdrew | (refine bset ?_ (by first | (simp; done) | omega | (simp; omega)) _) | (refine bnext ?_ (by assumption))))
  have z4 : w.heap.size < w1.heap.size := World.block_lt_of_cell? _ _ c4
  obtain ⟨q0, q1⟩ := HC.out 0 (by omega)
  rw [Nat.zero_mul, Nat.add_zero] at q0 q1
  have r0 := later B1 q0
  have r1 := later B1 q1
  have X0 := hide (show (rs.getD 0 (0, 0)).1 = mxL rs 0 from rfl)
  have X1 := hide (show (rs.getD 0 (0, 0)).2 = mnH rs 0 from rfl)
  rw [X0.out] at r0
  rw [X1.out] at r1
  clear hb1 q0 q1
  have hb0 : b < w.heap.size := World.block_lt_of_cell? _ _ (HC.out 0 (by omega)).1
  have M0 : mxL rs 0 ≤ mnH rs 0 := by
    have := range_get hr.out (k := 0) (by omega)
    simp only [mxL, mnH]; omega
  have C1 : CF w1 ⟨w.heap.size, 0, none⟩ (.int .i64 0) := ⟨c4, f4⟩
  have C2 : CF w1 ⟨w.heap.size, 1, none⟩ (.int .i64 0) := ⟨c5, f5⟩
  clear c4 c5 f4 f5 X0 X1
  go_wp2_with fail
  all_goals
    go_loopw [22] (fun i wr => ∃ k : Nat, k ≤ m ∧ i = .int .i64 (k : Int) ∧ MSt w.heap.size w1.heap.size (mxL rs k) (mnH rs k) wr ∧ mxL rs k ≤ mnH rs k ∧ Below w.heap.size w wr) (fun i _ => m - (intOf i).toNat)
    case atStart => exact ⟨0, by omega, rfl, ⟨⟨cf_later (balloc (Below.refl _ _)) C1, cf_later (balloc (Below.refl _ _)) C2⟩, ⟨by simp [go_sem], by simp [go_sem]⟩, ⟨by simp [go_sem], by simp [go_sem]⟩⟩, M0, balloc B1⟩
    case round =>
      obtain ⟨k, hk, rfl, hM, hle, hbw⟩ := hrel
      have HMs := hide hM
      have HLE := hide hle
      have ⟨⟨⟨s4, t4⟩, s5, t5⟩, ⟨s6, t6⟩, s7, t7⟩ := hM
      clear hM hle r0 r1
      by_cases hlt : k < m
      · obtain ⟨c1, c2⟩ := HC.out (k + 1) (by omega)
        have c1 := later hbw c1
        have c2 := later hbw c2
        rw [show off + (k + 1) * 2 = off + 2 + k * 2 by omega] at c1 c2
        have X := hide (show mxL rs (k + 1) = max (mxL rs k) (rs.getD (k + 1) (0, 0)).1 from rfl)
        have Y := hide (show mnH rs (k + 1) = min (mnH rs k) (rs.getD (k + 1) (0, 0)).2 from rfl)
        obtain ⟨z, hz⟩ : ∃ z, rs.getD (k + 1) (0, 0) = z := ⟨_, rfl⟩
        rw [hz] at c1 c2 X Y
        clear hz
        obtain ⟨p, q⟩ := z
        simp only at c1 c2 X Y
        have s6' := fun o => later (balloc (o := o) (Below.refl _ _)) s6
        have s7' := fun o => later (balloc (o := o) (Below.refl _ _)) s7
        have C := hide fun w => common_any (mxL rs k) (mnH rs k) p q w
        by_cases hok : max (mxL rs k) p ≤ min (mnH rs k) q
        · have d1 : decide (max (mxL rs k) p ≤ min (mnH rs k) q) = true := decide_eq_true hok
          rw [d1] at C
          clear d1
          go_wp2_with fail
          all_goals
            refine (C.out _).mono ?_
            rintro e w3 ⟨rfl, hb3⟩
            have M3 := mst_later (mst_later HMs.out (balloc (Below.refl _ _))) hb3
            have M4 := hide (mst_later M3 (balloc (o := .cells #[.int .i64 (max (mxL rs k) p), .int .i64 (min (mnH rs k) q)] 46) (Below.refl _ _)))
            have ⟨⟨⟨u4, v4⟩, u5, v5⟩, ⟨u6, v6⟩, u7, v7⟩ := M4.out
            have B3 : Below w.heap.size w w3 := bnext (balloc hbw) hb3
            have MS := hide (mst_set (x := max (mxL rs k) p) (y := min (mnH rs k) q) M4.out (by omega))
            clear M3 s6' s7' s4 t4 s5 t5 s6 t6 s7 t7
            go_wp2_with fail
            go_roundw
            case rel => exact ⟨k + 1, by omega, by go_num, by rw [X.out, Y.out]; exact MS.out, by rw [X.out, Y.out]; exact hok, bset (bset (balloc B3) (by first | (simp; done) | (simp; omega)) _) (by first | (simp; done) | (simp; omega)) _⟩
            case measure => simp [intOf]; omega
        · have d1 : decide (max (mxL rs k) p ≤ min (mnH rs k) q) = false := decide_eq_false hok
          rw [d1] at C
          clear d1
          have N : ¬ mxL rs m ≤ mnH rs m := by
            have := meet_stays (rs := rs) (k := k + 1) (by rw [X.out, Y.out]; omega) (m - (k + 1))
            rw [show k + 1 + (m - (k + 1)) = m by omega] at this
            omega
          have NN := hide (HN.out (by omega))
          clear N
          go_wp2_with fail
          all_goals
            refine (C.out _).mono ?_
            rintro e w3 ⟨rfl, hb3⟩
            have M3 := mst_later (mst_later HMs.out (balloc (Below.refl _ _))) hb3
            have M4 := hide (mst_later M3 (balloc (o := .cells #[.int .i64 (max (mxL rs k) p), .int .i64 (min (mnH rs k) q)] 46) (Below.refl _ _)))
            have ⟨⟨⟨u4, v4⟩, u5, v5⟩, ⟨u6, v6⟩, u7, v7⟩ := M4.out
            have B3 : Below w.heap.size w w3 := bnext (balloc hbw) hb3
            clear M3 s6' s7' s4 t4 s5 t5 s6 t6 s7 t7
            go_wp2_with fail
            have yy := two_set (x := .int .i64 0) (y := .int .i64 0) u4 u5
            exact bodyPost_ret (v := .tuple #[.agg #[.int .i64 0, .int .i64 0], .int .i64 7]) (by simp [results, Try.results32, go_sem, yy.1, yy.2]) rfl ⟨by rw [NN.out.1, NN.out.2.1, NN.out.2.2], bset (bset (balloc B3) (by simp) _) (by simp) _⟩
      · obtain rfl : k = m := by omega
        have NN := hide (HX.out HLE.out)
        have hlt' : ¬ (k : Int) < (k : Int) := by omega
        go_wp2
        have yy := two_set (x := .int .i64 (mxL rs k)) (y := .int .i64 (mnH rs k)) s4 s5
        exact bodyPost_ret (v := .tuple #[.agg #[.int .i64 (mxL rs k), .int .i64 (mnH rs k)], .int .i64 0]) (by simp [results, Try.results32, go_sem, yy.1, yy.2]) rfl ⟨by rw [NN.out.1, NN.out.2.1, NN.out.2.2], bset (bset hbw (by simp) _) (by simp) _⟩
theorem some_zero {rs : List (Int × Int)} (h : (someE rs == 0) = true) : (listE rs == 0) = true ∧ rs.length ≠ 0 := by
  unfold someE at h
  cases e : (listE rs == 0)
  · rw [e, if_pos rfl] at h; rw [e] at h; exact absurd h (by decide)
  · rw [e, if_neg (by decide)] at h
    refine ⟨rfl, fun h0 => ?_⟩
    rw [if_pos h0] at h; exact absurd h (by decide)
theorem some_ranges {rs : List (Int × Int)} (h : (someE rs == 0) = true) : rs.all rangeOk = true ∧ rs.length ≤ 100 := by
  rcases listE_cases rs with ⟨E, k1, k2, hE, e, hc⟩ | ⟨e, hn, h2, hc⟩
  · have := (some_zero h).1; rw [e, hE] at this; exact absurd this (by decide)
  · exact ⟨h2, hn⟩
/-- units.Meet of ranges, whatever they are. -/
theorem meet_any (rs : List (Int × Int)) (a : Option Addr) (cap : Nat) (w : World) (hl : rs.length ≤ 140737488351232) (hcap : rs.length ≤ cap) (h : IsPairs w a rs) :
    Calls Try.prog 32 #[.slice a rs.length cap] w fun e w' => e = .returned (.tuple #[.agg #[.int .i64 (meetQ rs).1, .int .i64 (meetQ rs).2.1], .int .i64 (meetQ rs).2.2]) ∧ Below w.heap.size w w' := by
  have L := fun w h => some_any rs a cap w hl h
  cases hE : (someE rs == 0)
  · have := meet_bad rs a cap (someE rs) w (hide L) hE (hide h)
    simpa only [meetQ, hE, if_true] using this
  · have e0 : someE rs = 0 := by simpa using hE
    rw [e0] at L
    obtain ⟨m, hm⟩ : ∃ m, rs.length = m + 1 := ⟨rs.length - 1, by have := (some_zero hE).2; omega⟩
    have e1 : rs.length - 1 = m := by omega
    refine (meet_good rs a cap m (meetQ rs).1 (meetQ rs).2.1 (meetQ rs).2.2 (hide ?_) (hide ?_) w (hide L) (some_ranges hE).2 hm hcap (hide (some_ranges hE).1) (hide h))
    · intro h; simp [meetQ, hE, e1, h]
    · intro h; simp [meetQ, hE, e1, h]
/-- units.Hull of ranges, whatever they are. -/
theorem hull_any (rs : List (Int × Int)) (a : Option Addr) (cap : Nat) (w : World) (hl : rs.length ≤ 140737488351232) (h : IsPairs w a rs) :
    Calls Try.prog 33 #[.slice a rs.length cap] w fun e w' => e = .returned (.tuple #[.agg #[.int .i64 (hullQ rs).1, .int .i64 (hullQ rs).2.1], .int .i64 (hullQ rs).2.2]) ∧ Below w.heap.size w w' := by
  have L := fun w h => some_any rs a cap w hl h
  cases hE : (someE rs == 0)
  · have := hull_bad rs a cap (someE rs) w (hide L) hE (hide h)
    simpa only [hullQ, hE, if_true] using this
  · have e0 : someE rs = 0 := by simpa using hE
    rw [e0] at L
    obtain ⟨m, hm⟩ : ∃ m, rs.length = m + 1 := ⟨rs.length - 1, by have := (some_zero hE).2; omega⟩
    have e1 : rs.length - 1 = m := by omega
    have := hull_good rs a cap m w (hide L) (some_ranges hE).2 hm (hide h)
    have q : hullQ rs = (mnL rs m, mxH rs m, 0) := by simp [hullQ, hE, e1]
    rw [q]
    exact this
end Go.Proofs.Ytckapcfofkeicaa

namespace Go.Proofs.Ytckapcfofkeicaa
set_option linter.unusedSimpArgs false
set_option linter.unusedVariables false
open Go.RowKit

set_option maxHeartbeats 3200000 in
theorem refMeet_bad (rs : List (Int × Int)) (a : Option Addr) (cap : Nat) (E : Int) (w : World) (L : Hid (∀ w, IsPairs w a rs → Calls Try.prog 93 #[.slice a rs.length cap] w fun e w' => e = .returned (.int .i64 E) ∧ Below w.heap.size w w')) (hE : (E == 0) = false) (h : Hid (IsPairs w a rs)) :
    Calls Try.prog 35 #[.slice a rs.length cap] w fun e w' => e = .returned (.tuple #[.agg #[.int .i64 0, .int .i64 0], .int .i64 E]) ∧ Below w.heap.size w w' := by
  go_enter Try.func35, Try.ntmps35
  go_wp2_with fail
  refine (L.out _ (pairs_later h.out (by repeat (first | exact Below.refl _ _ | assumption | apply balloc | apply bdrew | (refine bset ?_ (by first | (simp; done) | omega | (simp; omega)) _) | (refine bnext ?_ (by assumption)))))).mono ?_
  rintro e w1 ⟨rfl, hb1⟩
  have c4 := later hb1 (a := ⟨w.heap.size, 0, none⟩) (v := .int .i64 0) (by simp [go_sem, World.cell?_alloc_past])
  have c5 := later hb1 (a := ⟨w.heap.size, 1, none⟩) (v := .int .i64 0) (by simp [go_sem, World.cell?_alloc_past])
  have f4 := free_later hb1 (a := ⟨w.heap.size, 0, none⟩) (v := .int .i64 0) (by simp [go_sem, World.cell?_alloc_past]) (by simp [go_sem, World.cell?_alloc_past])
  have f5 := free_later hb1 (a := ⟨w.heap.size, 1, none⟩) (v := .int .i64 0) (by simp [go_sem, World.cell?_alloc_past]) (by simp [go_sem, World.cell?_alloc_past])
  go_wp2_with fail
  exact bodyPost_ret (v := .tuple #[.agg #[.int .i64 0, .int .i64 0], .int .i64 E]) (by simp [results, Try.results35, go_sem, c4, c5]) rfl ⟨rfl, (by repeat (first | exact Below.refl _ _ | assumption | apply balloc | apply bdrew | (refine bset ?_ (by first | (simp; done) | omega | (simp; omega)) _) | (refine bnext ?_ (by assumption))))⟩
set_option maxHeartbeats 3200000 in
theorem refMeet_none (a : Option Addr) (cap : Nat) (w : World) (L : Hid (∀ w, Calls Try.prog 93 #[.slice a 0 cap] w fun e w' => e = .returned (.int .i64 0) ∧ Below w.heap.size w w')) :
    Calls Try.prog 35 #[.slice a 0 cap] w fun e w' => e = .returned (.tuple #[.agg #[.int .i64 0, .int .i64 0], .int .i64 2]) ∧ Below w.heap.size w w' := by
  go_enter Try.func35, Try.ntmps35
  go_wp2_with fail
  refine (L.out _).mono ?_
  rintro e w1 ⟨rfl, hb1⟩
  have c4 := later hb1 (a := ⟨w.heap.size, 0, none⟩) (v := .int .i64 0) (by simp [go_sem, World.cell?_alloc_past])
  have c5 := later hb1 (a := ⟨w.heap.size, 1, none⟩) (v := .int .i64 0) (by simp [go_sem, World.cell?_alloc_past])
  have f4 := free_later hb1 (a := ⟨w.heap.size, 0, none⟩) (v := .int .i64 0) (by simp [go_sem, World.cell?_alloc_past]) (by simp [go_sem, World.cell?_alloc_past])
  have f5 := free_later hb1 (a := ⟨w.heap.size, 1, none⟩) (v := .int .i64 0) (by simp [go_sem, World.cell?_alloc_past]) (by simp [go_sem, World.cell?_alloc_past])
  go_wp2_with fail
  exact bodyPost_ret (v := .tuple #[.agg #[.int .i64 0, .int .i64 0], .int .i64 2]) (by simp [results, Try.results35, go_sem, c4, c5]) rfl ⟨rfl, (by repeat (first | exact Below.refl _ _ | assumption | apply balloc | apply bdrew | (refine bset ?_ (by first | (simp; done) | omega | (simp; omega)) _) | (refine bnext ?_ (by assumption))))⟩

set_option maxRecDepth 100000 in
set_option maxHeartbeats 6400000 in
theorem refMeet_good (rs : List (Int × Int)) (a : Option Addr) (cap m : Nat) (x y E : Int) (HX : Hid (mxL rs m ≤ mnH rs m → x = mxL rs m ∧ y = mnH rs m ∧ E = 0)) (HN : Hid (¬ mxL rs m ≤ mnH rs m → x = 0 ∧ y = 0 ∧ E = 7)) (w : World) (L : Hid (∀ w, IsPairs w a rs → Calls Try.prog 93 #[.slice a rs.length cap] w fun e w' => e = .returned (.int .i64 0) ∧ Below w.heap.size w w')) (hl : rs.length ≤ 100) (hm : rs.length = m + 1) (h : Hid (IsPairs w a rs)) :
    Calls Try.prog 35 #[.slice a rs.length cap] w fun e w' => e = .returned (.tuple #[.agg #[.int .i64 x, .int .i64 y], .int .i64 E]) ∧ Below w.heap.size w w' := by
  obtain ⟨b, off, rfl, hc0⟩ : ∃ b off, a = some ⟨b, off, none⟩ ∧ ∀ i, i < rs.length → w.cell? ⟨b, off + i * 2, none⟩ = some (.int .i64 (rs.getD i (0, 0)).1) ∧ w.cell? ⟨b, off + i * 2 + 1, none⟩ = some (.int .i64 (rs.getD i (0, 0)).2) := by
    rcases h.out with h | h
    · subst h; simp at hm
    · exact h
  have HC := hide hc0
  rw [hm] at L hl
  rw [hm]
  clear hc0
  go_enter Try.func35, Try.ntmps35
  go_wp2_with fail
  refine (L.out _ (pairs_later h.out (by repeat (first | exact Below.refl _ _ | assumption | apply balloc | apply bdrew | (refine bset ?_ (by first | (simp; done) | omega | (simp; omega)) _) | (refine bnext ?_ (by assumption)))))).mono ?_
  rintro e w1 ⟨rfl, hb1⟩
  have c4 := later hb1 (a := ⟨w.heap.size, 0, none⟩) (v := .int .i64 0) (by simp [go_sem, World.cell?_alloc_past])
  have c5 := later hb1 (a := ⟨w.heap.size, 1, none⟩) (v := .int .i64 0) (by simp [go_sem, World.cell?_alloc_past])
  have f4 := free_later hb1 (a := ⟨w.heap.size, 0, none⟩) (v := .int .i64 0) (by simp [go_sem, World.cell?_alloc_past]) (by simp [go_sem, World.cell?_alloc_past])
  have f5 := free_later hb1 (a := ⟨w.heap.size, 1, none⟩) (v := .int .i64 0) (by simp [go_sem, World.cell?_alloc_past]) (by simp [go_sem, World.cell?_alloc_past])
  have B1 : Below w.heap.size w w1 := (by repeat (first | exact Below.refl _ _ | assumption | apply balloc | apply bdrew | (refine bset ?_ (by first | (simp; done) | omega | (simp; omega)) _) | (refine bnext ?_ (by assumption))))
  have z4 : w.heap.size < w1.heap.size := World.block_lt_of_cell? _ _ c4
  obtain ⟨q0, q1⟩ := HC.out 0 (by omega)
  rw [Nat.zero_mul, Nat.add_zero] at q0 q1
  have r0 := later B1 q0
  have r1 := later B1 q1
  have X0 := hide (show (rs.getD 0 (0, 0)).1 = mxL rs 0 from rfl)
  have X1 := hide (show (rs.getD 0 (0, 0)).2 = mnH rs 0 from rfl)
  rw [X0.out] at r0
  rw [X1.out] at r1
  clear hb1 q0 q1
  have hb0 : b < w.heap.size := World.block_lt_of_cell? _ _ (HC.out 0 (by omega)).1
  have C1 : CF w1 ⟨w.heap.size, 0, none⟩ (.int .i64 0) := ⟨c4, f4⟩
  have C2 : CF w1 ⟨w.heap.size, 1, none⟩ (.int .i64 0) := ⟨c5, f5⟩
  clear c4 c5 f4 f5 X0 X1
  go_wp2_with fail
  go_loopw [6] (fun i wr => ∃ k : Nat, k ≤ m ∧ i = .int .i64 ((k : Int) + 1) ∧ MSt w.heap.size w1.heap.size (mxL rs k) (mnH rs k) wr ∧ Below w.heap.size w wr) (fun i _ => m + 1 - (intOf i).toNat)
  case atStart => exact ⟨0, by omega, rfl, ⟨⟨cf_later (balloc (Below.refl _ _)) C1, cf_later (balloc (Below.refl _ _)) C2⟩, ⟨by simp [go_sem], by simp [go_sem]⟩, ⟨by simp [go_sem], by simp [go_sem]⟩⟩, balloc B1⟩
  case round =>
    obtain ⟨k, hk, rfl, hM, hbw⟩ := hrel
    have HMs := hide hM
    have ⟨⟨⟨s4, t4⟩, s5, t5⟩, ⟨s6, t6⟩, s7, t7⟩ := hM
    clear hM r0 r1
    by_cases hlt : k < m
    · obtain ⟨c1, c2⟩ := HC.out (k + 1) (by omega)
      have c1 := later hbw c1
      have c2 := later hbw c2
      have X := hide (show mxL rs (k + 1) = max (mxL rs k) (rs.getD (k + 1) (0, 0)).1 from rfl)
      have Y := hide (show mnH rs (k + 1) = min (mnH rs k) (rs.getD (k + 1) (0, 0)).2 from rfl)
      obtain ⟨z, hz⟩ : ∃ z, rs.getD (k + 1) (0, 0) = z := ⟨_, rfl⟩
      rw [hz] at c1 c2 X Y
      clear hz
      obtain ⟨p, q⟩ := z
      simp only at c1 c2 X Y
      have hm1 : (if mxL rs k < p then p else mxL rs k) = max (mxL rs k) p := by split <;> omega
      have hm2 : (if q < mnH rs k then q else mnH rs k) = min (mnH rs k) q := by split <;> omega
      have MS := hide fun (u : World) (h : MSt w.heap.size w1.heap.size (mxL rs k) (mnH rs k) u) => mst_set (x := max (mxL rs k) p) (y := min (mnH rs k) q) h (show w.heap.size ≠ w1.heap.size by omega)
      go_wp2_with fail
      go_big_region
      all_goals
        go_wp2_with fail
        go_roundw
        case rel => exact ⟨k + 1, by omega, by go_num, by rw [X.out, Y.out]; first | exact MS.out _ HMs.out | exact MS.out _ (mst_later HMs.out (bdrew (Below.refl _ _))) | (have := MS.out _ (mst_later HMs.out (bdrew (Below.refl _ _))); simpa [hm1, hm2] using this), bset (bset (bdrew hbw) (by first | (simp; done) | (simp; omega)) _) (by first | (simp; done) | (simp; omega)) _⟩
        case measure => simp [intOf]; omega
    · obtain rfl : k = m := by omega
      have hlt' : ¬ (k : Int) + 1 < (k : Int) + 1 := by omega
      by_cases hle : mnH rs k < mxL rs k
      · have NN := hide (HN.out (by omega))
        have d1 : decide (mnH rs k < mxL rs k) = true := decide_eq_true hle
        go_wp2_with fail
        have yy := two_set (x := .int .i64 0) (y := .int .i64 0) s4 s5
        exact bodyPost_ret (v := .tuple #[.agg #[.int .i64 0, .int .i64 0], .int .i64 7]) (by simp [results, Try.results35, go_sem, yy.1, yy.2]) rfl ⟨by rw [NN.out.1, NN.out.2.1, NN.out.2.2], bset (bset hbw (by simp) _) (by simp) _⟩
      · have NN := hide (HX.out (by omega))
        have d1 : decide (mnH rs k < mxL rs k) = false := decide_eq_false hle
        go_wp2_with fail
        have yy := two_set (x := .int .i64 (mxL rs k)) (y := .int .i64 (mnH rs k)) s4 s5
        exact bodyPost_ret (v := .tuple #[.agg #[.int .i64 (mxL rs k), .int .i64 (mnH rs k)], .int .i64 0]) (by simp [results, Try.results35, go_sem, yy.1, yy.2]) rfl ⟨by rw [NN.out.1, NN.out.2.1, NN.out.2.2], bset (bset hbw (by simp) _) (by simp) _⟩
set_option maxHeartbeats 3200000 in
theorem refHull_bad (rs : List (Int × Int)) (a : Option Addr) (cap : Nat) (E : Int) (w : World) (L : Hid (∀ w, IsPairs w a rs → Calls Try.prog 93 #[.slice a rs.length cap] w fun e w' => e = .returned (.int .i64 E) ∧ Below w.heap.size w w')) (hE : (E == 0) = false) (h : Hid (IsPairs w a rs)) :
    Calls Try.prog 36 #[.slice a rs.length cap] w fun e w' => e = .returned (.tuple #[.agg #[.int .i64 0, .int .i64 0], .int .i64 E]) ∧ Below w.heap.size w w' := by
  go_enter Try.func36, Try.ntmps36
  go_wp2_with fail
  refine (L.out _ (pairs_later h.out (by repeat (first | exact Below.refl _ _ | assumption | apply balloc | apply bdrew | (refine bset ?_ (by first | (simp; done) | omega | (simp; omega)) _) | (refine bnext ?_ (by assumption)))))).mono ?_
  rintro e w1 ⟨rfl, hb1⟩
  have c4 := later hb1 (a := ⟨w.heap.size, 0, none⟩) (v := .int .i64 0) (by simp [go_sem, World.cell?_alloc_past])
  have c5 := later hb1 (a := ⟨w.heap.size, 1, none⟩) (v := .int .i64 0) (by simp [go_sem, World.cell?_alloc_past])
  have f4 := free_later hb1 (a := ⟨w.heap.size, 0, none⟩) (v := .int .i64 0) (by simp [go_sem, World.cell?_alloc_past]) (by simp [go_sem, World.cell?_alloc_past])
  have f5 := free_later hb1 (a := ⟨w.heap.size, 1, none⟩) (v := .int .i64 0) (by simp [go_sem, World.cell?_alloc_past]) (by simp [go_sem, World.cell?_alloc_past])
  go_wp2_with fail
  exact bodyPost_ret (v := .tuple #[.agg #[.int .i64 0, .int .i64 0], .int .i64 E]) (by simp [results, Try.results36, go_sem, c4, c5]) rfl ⟨rfl, (by repeat (first | exact Below.refl _ _ | assumption | apply balloc | apply bdrew | (refine bset ?_ (by first | (simp; done) | omega | (simp; omega)) _) | (refine bnext ?_ (by assumption))))⟩
set_option maxHeartbeats 3200000 in
theorem refHull_none (a : Option Addr) (cap : Nat) (w : World) (L : Hid (∀ w, Calls Try.prog 93 #[.slice a 0 cap] w fun e w' => e = .returned (.int .i64 0) ∧ Below w.heap.size w w')) :
    Calls Try.prog 36 #[.slice a 0 cap] w fun e w' => e = .returned (.tuple #[.agg #[.int .i64 0, .int .i64 0], .int .i64 2]) ∧ Below w.heap.size w w' := by
  go_enter Try.func36, Try.ntmps36
  go_wp2_with fail
  refine (L.out _).mono ?_
  rintro e w1 ⟨rfl, hb1⟩
  have c4 := later hb1 (a := ⟨w.heap.size, 0, none⟩) (v := .int .i64 0) (by simp [go_sem, World.cell?_alloc_past])
  have c5 := later hb1 (a := ⟨w.heap.size, 1, none⟩) (v := .int .i64 0) (by simp [go_sem, World.cell?_alloc_past])
  have f4 := free_later hb1 (a := ⟨w.heap.size, 0, none⟩) (v := .int .i64 0) (by simp [go_sem, World.cell?_alloc_past]) (by simp [go_sem, World.cell?_alloc_past])
  have f5 := free_later hb1 (a := ⟨w.heap.size, 1, none⟩) (v := .int .i64 0) (by simp [go_sem, World.cell?_alloc_past]) (by simp [go_sem, World.cell?_alloc_past])
  go_wp2_with fail
  exact bodyPost_ret (v := .tuple #[.agg #[.int .i64 0, .int .i64 0], .int .i64 2]) (by simp [results, Try.results36, go_sem, c4, c5]) rfl ⟨rfl, (by repeat (first | exact Below.refl _ _ | assumption | apply balloc | apply bdrew | (refine bset ?_ (by first | (simp; done) | omega | (simp; omega)) _) | (refine bnext ?_ (by assumption))))⟩

set_option maxRecDepth 100000 in
set_option maxHeartbeats 6400000 in
theorem refHull_good (rs : List (Int × Int)) (a : Option Addr) (cap m : Nat) (w : World) (L : Hid (∀ w, IsPairs w a rs → Calls Try.prog 93 #[.slice a rs.length cap] w fun e w' => e = .returned (.int .i64 0) ∧ Below w.heap.size w w')) (hl : rs.length ≤ 100) (hm : rs.length = m + 1) (h : Hid (IsPairs w a rs)) :
    Calls Try.prog 36 #[.slice a rs.length cap] w fun e w' => e = .returned (.tuple #[.agg #[.int .i64 (mnL rs m), .int .i64 (mxH rs m)], .int .i64 0]) ∧ Below w.heap.size w w' := by
  obtain ⟨b, off, rfl, hc0⟩ : ∃ b off, a = some ⟨b, off, none⟩ ∧ ∀ i, i < rs.length → w.cell? ⟨b, off + i * 2, none⟩ = some (.int .i64 (rs.getD i (0, 0)).1) ∧ w.cell? ⟨b, off + i * 2 + 1, none⟩ = some (.int .i64 (rs.getD i (0, 0)).2) := by
    rcases h.out with h | h
    · subst h; simp at hm
    · exact h
  have HC := hide hc0
  rw [hm] at L hl
  rw [hm]
  clear hc0
  go_enter Try.func36, Try.ntmps36
  go_wp2_with fail
  refine (L.out _ (pairs_later h.out (by repeat (first | exact Below.refl _ _ | assumption | apply balloc | apply bdrew | (refine bset ?_ (by first | (simp; done) | omega | (simp; omega)) _) | (refine bnext ?_ (by assumption)))))).mono ?_
  rintro e w1 ⟨rfl, hb1⟩
  have c4 := later hb1 (a := ⟨w.heap.size, 0, none⟩) (v := .int .i64 0) (by simp [go_sem, World.cell?_alloc_past])
  have c5 := later hb1 (a := ⟨w.heap.size, 1, none⟩) (v := .int .i64 0) (by simp [go_sem, World.cell?_alloc_past])
  have f4 := free_later hb1 (a := ⟨w.heap.size, 0, none⟩) (v := .int .i64 0) (by simp [go_sem, World.cell?_alloc_past]) (by simp [go_sem, World.cell?_alloc_past])
  have f5 := free_later hb1 (a := ⟨w.heap.size, 1, none⟩) (v := .int .i64 0) (by simp [go_sem, World.cell?_alloc_past]) (by simp [go_sem, World.cell?_alloc_past])
  have B1 : Below w.heap.size w w1 := (by repeat (first | exact Below.refl _ _ | assumption | apply balloc | apply bdrew | (refine bset ?_ (by first | (simp; done) | omega | (simp; omega)) _) | (refine bnext ?_ (by assumption))))
  have z4 : w.heap.size < w1.heap.size := World.block_lt_of_cell? _ _ c4
  obtain ⟨q0, q1⟩ := HC.out 0 (by omega)
  rw [Nat.zero_mul, Nat.add_zero] at q0 q1
  have r0 := later B1 q0
  have r1 := later B1 q1
  have X0 := hide (show (rs.getD 0 (0, 0)).1 = mnL rs 0 from rfl)
  have X1 := hide (show (rs.getD 0 (0, 0)).2 = mxH rs 0 from rfl)
  rw [X0.out] at r0
  rw [X1.out] at r1
  clear hb1 q0 q1
  have hb0 : b < w.heap.size := World.block_lt_of_cell? _ _ (HC.out 0 (by omega)).1
  have C1 : CF w1 ⟨w.heap.size, 0, none⟩ (.int .i64 0) := ⟨c4, f4⟩
  have C2 : CF w1 ⟨w.heap.size, 1, none⟩ (.int .i64 0) := ⟨c5, f5⟩
  clear c4 c5 f4 f5 X0 X1
  go_wp2_with fail
  go_loopw [6] (fun i wr => ∃ k : Nat, k ≤ m ∧ i = .int .i64 ((k : Int) + 1) ∧ MSt w.heap.size w1.heap.size (mnL rs k) (mxH rs k) wr ∧ Below w.heap.size w wr) (fun i _ => m + 1 - (intOf i).toNat)
  case atStart => exact ⟨0, by omega, rfl, ⟨⟨cf_later (balloc (Below.refl _ _)) C1, cf_later (balloc (Below.refl _ _)) C2⟩, ⟨by simp [go_sem], by simp [go_sem]⟩, ⟨by simp [go_sem], by simp [go_sem]⟩⟩, balloc B1⟩
  case round =>
    obtain ⟨k, hk, rfl, hM, hbw⟩ := hrel
    have HMs := hide hM
    have ⟨⟨⟨s4, t4⟩, s5, t5⟩, ⟨s6, t6⟩, s7, t7⟩ := hM
    clear hM r0 r1
    by_cases hlt : k < m
    · obtain ⟨c1, c2⟩ := HC.out (k + 1) (by omega)
      have c1 := later hbw c1
      have c2 := later hbw c2
      have X := hide (show mnL rs (k + 1) = min (mnL rs k) (rs.getD (k + 1) (0, 0)).1 from rfl)
      have Y := hide (show mxH rs (k + 1) = max (mxH rs k) (rs.getD (k + 1) (0, 0)).2 from rfl)
      obtain ⟨z, hz⟩ : ∃ z, rs.getD (k + 1) (0, 0) = z := ⟨_, rfl⟩
      rw [hz] at c1 c2 X Y
      clear hz
      obtain ⟨p, q⟩ := z
      simp only at c1 c2 X Y
      have hm1 : (if p < mnL rs k then p else mnL rs k) = min (mnL rs k) p := by split <;> omega
      have hm2 : (if mxH rs k < q then q else mxH rs k) = max (mxH rs k) q := by split <;> omega
      have MS := hide fun (u : World) (h : MSt w.heap.size w1.heap.size (mnL rs k) (mxH rs k) u) => mst_set (x := min (mnL rs k) p) (y := max (mxH rs k) q) h (show w.heap.size ≠ w1.heap.size by omega)
      go_wp2_with fail
      go_big_region
      all_goals
        go_wp2_with fail
        go_roundw
        case rel => exact ⟨k + 1, by omega, by go_num, by rw [X.out, Y.out]; first | exact MS.out _ HMs.out | exact MS.out _ (mst_later HMs.out (bdrew (Below.refl _ _))) | (have := MS.out _ (mst_later HMs.out (bdrew (Below.refl _ _))); simpa [hm1, hm2] using this), bset (bset (bdrew hbw) (by first | (simp; done) | (simp; omega)) _) (by first | (simp; done) | (simp; omega)) _⟩
        case measure => simp [intOf]; omega
    · obtain rfl : k = m := by omega
      have hlt' : ¬ (k : Int) + 1 < (k : Int) + 1 := by omega
      go_wp2_with fail
      have yy := two_set (x := .int .i64 (mnL rs k)) (y := .int .i64 (mxH rs k)) s4 s5
      exact bodyPost_ret (v := .tuple #[.agg #[.int .i64 (mnL rs k), .int .i64 (mxH rs k)], .int .i64 0]) (by simp [results, Try.results36, go_sem, yy.1, yy.2]) rfl ⟨rfl, bset (bset hbw (by simp) _) (by simp) _⟩
theorem listE_len {rs : List (Int × Int)} (h : (listE rs == 0) = true) : rs.length ≤ 100 := by
  rcases listE_cases rs with ⟨E, k1, k2, hE, e, hc⟩ | ⟨e, hn, h2, hc⟩
  · rw [e, hE] at h; exact absurd h (by decide)
  · exact hn
theorem refMeet_any (rs : List (Int × Int)) (a : Option Addr) (cap : Nat) (w : World) (hl : rs.length ≤ 140737488351232) (h : IsPairs w a rs) :
    Calls Try.prog 35 #[.slice a rs.length cap] w fun e w' => e = .returned (.tuple #[.agg #[.int .i64 (meetQ rs).1, .int .i64 (meetQ rs).2.1], .int .i64 (meetQ rs).2.2]) ∧ Below w.heap.size w w' := by
  have L := fun w h => refList_any a cap rs w hl h
  cases hE : (listE rs == 0)
  · have e1 : someE rs = listE rs := by unfold someE; rw [hE, if_pos rfl]
    have e2 : (someE rs == 0) = false := by rw [e1, hE]
    have := refMeet_bad rs a cap (listE rs) w (hide L) hE (hide h)
    have q : meetQ rs = (0, 0, listE rs) := by unfold meetQ; rw [e2, if_pos rfl, e1]
    rw [q]; exact this
  · have hle := listE_len hE
    have e0 : listE rs = 0 := by simpa using hE
    rw [e0] at L
    by_cases h0 : rs.length = 0
    · have e1 : someE rs = 2 := by unfold someE; rw [hE, if_neg (by decide), if_pos h0]
      have q : meetQ rs = (0, 0, 2) := by unfold meetQ; rw [e1]; rfl
      rw [q]
      obtain rfl := List.eq_nil_of_length_eq_zero h0
      exact refMeet_none a cap w (hide fun w => L w (.inl rfl))
    · have e1 : someE rs = 0 := by unfold someE; rw [hE, if_neg (by decide), if_neg h0]
      obtain ⟨m, hm⟩ : ∃ m, rs.length = m + 1 := ⟨rs.length - 1, by omega⟩
      have e2 : rs.length - 1 = m := by omega
      refine refMeet_good rs a cap m (meetQ rs).1 (meetQ rs).2.1 (meetQ rs).2.2 (hide ?_) (hide ?_) w (hide L) hle hm (hide h)
      · intro h; simp [meetQ, e1, e2, h]
      · intro h; simp [meetQ, e1, e2, h]
theorem refHull_any (rs : List (Int × Int)) (a : Option Addr) (cap : Nat) (w : World) (hl : rs.length ≤ 140737488351232) (h : IsPairs w a rs) :
    Calls Try.prog 36 #[.slice a rs.length cap] w fun e w' => e = .returned (.tuple #[.agg #[.int .i64 (hullQ rs).1, .int .i64 (hullQ rs).2.1], .int .i64 (hullQ rs).2.2]) ∧ Below w.heap.size w w' := by
  have L := fun w h => refList_any a cap rs w hl h
  cases hE : (listE rs == 0)
  · have e1 : someE rs = listE rs := by unfold someE; rw [hE, if_pos rfl]
    have e2 : (someE rs == 0) = false := by rw [e1, hE]
    have := refHull_bad rs a cap (listE rs) w (hide L) hE (hide h)
    have q : hullQ rs = (0, 0, listE rs) := by unfold hullQ; rw [e2, if_pos rfl, e1]
    rw [q]; exact this
  · have hle := listE_len hE
    have e0 : listE rs = 0 := by simpa using hE
    rw [e0] at L
    by_cases h0 : rs.length = 0
    · have e1 : someE rs = 2 := by unfold someE; rw [hE, if_neg (by decide), if_pos h0]
      have q : hullQ rs = (0, 0, 2) := by unfold hullQ; rw [e1]; rfl
      rw [q]
      obtain rfl := List.eq_nil_of_length_eq_zero h0
      exact refHull_none a cap w (hide fun w => L w (.inl rfl))
    · have e1 : someE rs = 0 := by unfold someE; rw [hE, if_neg (by decide), if_neg h0]
      obtain ⟨m, hm⟩ : ∃ m, rs.length = m + 1 := ⟨rs.length - 1, by omega⟩
      have e2 : rs.length - 1 = m := by omega
      have q : hullQ rs = (mnL rs m, mxH rs m, 0) := by simp [hullQ, e1, e2]
      rw [q]
      exact refHull_good rs a cap m w (hide L) hle hm (hide h)
end Go.Proofs.Ytckapcfofkeicaa

namespace Go.Proofs.Ytckapcfofkeicaa
set_option linter.unusedSimpArgs false
set_option linter.unusedVariables false
open Go.RowKit

theorem pairs_of_own_cap {w : World} {base : Nat} {T : TypeId} {v : Value} {zs : List (Int × Int)} (h : w.ownsRow base T 2 v zs.length (rowOf zs)) : ∃ b c, v = .slice b zs.length c ∧ zs.length ≤ c ∧ IsPairs w b zs := by
  obtain ⟨b, c, rfl, hp⟩ := pairs_of_owned h rfl
  refine ⟨b, c, rfl, ?_, hp⟩
  rcases h.2 with ⟨e, e'⟩ | ⟨g, cap, cur, e, _, _, hc, _⟩
  · omega
  · cases e; exact hc
/-- A list of ranges of its own, told, with its room. -/
def PairsPostC (w : World) (zs : List (Int × Int)) (e : Ending) (w' : World) : Prop := ∃ b c, e = .returned (.slice b zs.length c) ∧ zs.length ≤ c ∧ IsPairs w' b zs ∧ Below w.heap.size w w'
set_option maxHeartbeats 1600000 in
theorem ownRanges_cap (a : Option Addr) (cap : Nat) (zs : List (Int × Int)) (w : World) (hl : zs.length ≤ 1000) (ha : a = none → cap = 0 ∧ zs = []) (h : IsPairs w a zs) :
    Calls Try.prog 30 #[.slice a zs.length cap] w fun e w' => PairsPostC w zs e w' := by
  obtain ⟨ti, hi, hz0, hz1, hz2⟩ := info_parts range_info
  have HI := hide hi
  have HZ0 := hide hz0
  have HZ1 := hide hz1
  have HZ2 := hide hz2
  clear hi hz0 hz1 hz2
  have OWN := hide (World.ownsRow_lit (base := w.heap.size) (e := 46) (size := 2) w #[] 0 (Nat.le_refl _) (by unfold maxLen; omega) rfl)
  cases a with
  | none =>
    obtain ⟨rfl, rfl⟩ := ha rfl
    go_enter Try.func30, Try.ntmps30
    go_wp2_with (at_builtin; refine wpList_append_own_none rfl (.tmp 3) (.tmp 4) 43 rfl w.heap.size 46 ti 2 Try.underlying43 HI.out _ 0 [] rfl OWN.out rfl ?_)
    refine bodyPost_ret (v := .slice (some ⟨w.heap.size, 0, none⟩) 0 0) (by simp [results, Try.results30, go_sem]) rfl ⟨_, _, rfl, Nat.le_refl _, .inl rfl, (by repeat (first | exact Below.refl _ _ | assumption | apply balloc | apply bdrew | (refine bset ?_ (by first | (simp; done) | omega | (simp; omega)) _) | (refine bnext ?_ (by assumption))))⟩
  | some ad =>
    have HC := hide (rowOf_cell rfl h)
    have HL := hide hl
    obtain ⟨row, hrow⟩ : ∃ row, rowOf zs = row := ⟨_, rfl⟩
    have HR := hide hrow
    have H1 := hide (rowOf_ones (zs := zs))
    have HN := hide (rowOf_length zs)
    rw [hrow] at HC H1 HN
    clear h ha hl hrow
    go_enter Try.func30, Try.ntmps30
    go_wp2_with (at_builtin; refine wpList_append_own _ rfl (.tmp 3) (.tmp 4) 43 rfl w.heap.size 46 ti (.agg #[.int .i64 0, .int .i64 0]) 2 16 Try.underlying43 HI.out HZ0.out HZ1.out HZ2.out rfl (by decide) _ 0 [] rfl OWN.out ad zs.length cap row rfl HN.out ?_ H1.out ?_ ?_ ?_ ?_)
    · intro j u hu; exact later (balloc (Below.refl _ _)) (HC.out j u hu)
    · have := HL.out; unfold maxLen; omega
    · have := HL.out; omega
    · intro v' w1 hown1 hgrow _
      rw [← HR.out] at hown1
      obtain ⟨b, c, rfl, hb, hp⟩ := pairs_of_own_cap hown1
      have HP := hide hp
      have HG := hide hgrow
      have HB := hide hb
      clear hown1 hgrow hp hb
      go_wp2_with fail
      refine bodyPost_ret (v := .slice b zs.length c) (by simp [results, Try.results30, go_sem]) rfl ⟨_, _, rfl, HB.out, HP.out, ?_⟩
      exact app_below (v := .slice (some ⟨w.heap.size, 0, none⟩) 0 0) (Below.refl _ _) (Nat.le_refl _) (fun k hk => by simp [Value.ownBlock] at hk; omega) HG.out

set_option maxHeartbeats 6400000 in
theorem unitsLists_walk (rs : List (Int × Int)) (a : Option Addr) (cap : Nat) (w : World) (hl : rs.length ≤ maxLen ∧ (a = none → cap = 0 ∧ rs = [])) (h : IsPairs w a rs) :
    Calls Try.prog 6 #[.slice a rs.length cap] w fun e w' => e = .returned (.bool true) ∧ Below w.heap.size w w' := by
  by_cases hlen : 110 < rs.length
  · have d1 : decide (110 < (rs.length : Int)) = true := decide_eq_true (by omega)
    obtain ⟨hm, _⟩ := hl
    unfold maxLen at hm
    go_enter Try.func6, Try.ntmps6
    go_wp2_with fail
    refine (known_any _).mono ?_
    rintro e w1 ⟨rfl, hb1⟩
    go_wp2_with fail
    go_ret
    exact ⟨rfl, (by repeat (first | exact Below.refl _ _ | assumption | apply balloc | apply bdrew | (refine bset ?_ (by first | (simp; done) | omega | (simp; omega)) _) | (refine bnext ?_ (by assumption))))⟩
  · have d1 : decide (110 < (rs.length : Int)) = false := decide_eq_false (by omega)
    have H := hide h
    have HA := hide hl.2
    clear hl h
    obtain ⟨A, hA⟩ : ∃ q, sumQ rs = q := ⟨_, rfl⟩
    obtain ⟨B, hB⟩ : ∃ q, meetQ rs = q := ⟨_, rfl⟩
    obtain ⟨C, hC⟩ : ∃ q, hullQ rs = q := ⟨_, rfl⟩
    obtain ⟨A1, A2, A3⟩ := A
    obtain ⟨B1, B2, B3⟩ := B
    obtain ⟨C1, C2, C3⟩ := C
    have F1 := hide fun a cap w hl h => by have := sum_any rs a cap w hl h; rw [hA] at this; exact this
    have F2 := hide fun a cap w hl hc h => by have := meet_any rs a cap w hl hc h; rw [hB] at this; exact this
    have F3 := hide fun a cap w hl h => by have := hull_any rs a cap w hl h; rw [hC] at this; exact this
    have G1 := hide fun a cap w hl h => by have := refSum_any rs a cap w hl h; rw [hA] at this; exact this
    have G2 := hide fun a cap w hl h => by have := refMeet_any rs a cap w hl h; rw [hB] at this; exact this
    have G3 := hide fun a cap w hl h => by have := refHull_any rs a cap w hl h; rw [hC] at this; exact this
    clear hA hB hC
    go_enter Try.func6, Try.ntmps6
    go_wp2_with fail
    refine (ownRanges_cap a cap rs _ (by omega) HA.out H.out).mono ?_
    rintro e w1 ⟨b1, c1, rfl, hc1, hi1, hb1⟩
    have H1 := hide (pairs_later H.out hb1)
    have I1 := hide hi1
    have HC1 := hide hc1
    clear hi1 H hc1
    go_wp2_with fail
    refine (F1.out b1 c1 _ (by omega) I1.out).mono ?_
    rintro e w2 ⟨rfl, hb2⟩
    have H2 := hide (fun o => pairs_later (pairs_later H1.out hb2) (balloc (o := o) (Below.refl _ _)))
    have I2 := hide (fun o => pairs_later (pairs_later I1.out hb2) (balloc (o := o) (Below.refl _ _)))
    clear H1 I1
    go_wp2_with fail
    refine (F2.out b1 c1 _ (by omega) HC1.out (I2.out _)).mono ?_
    rintro e w3 ⟨rfl, hb3⟩
    have x0 := fun o => later (balloc (o := o) (Below.refl _ _)) (later hb3 (a := ⟨w2.heap.size, 0, none⟩) (v := .int .i64 A1) (by simp [go_sem, World.cell?_alloc_past]))
    have x1 := fun o => later (balloc (o := o) (Below.refl _ _)) (later hb3 (a := ⟨w2.heap.size, 1, none⟩) (v := .int .i64 A2) (by simp [go_sem, World.cell?_alloc_past]))
    have H3 := hide (fun o => pairs_later (pairs_later (H2.out _) hb3) (balloc (o := o) (Below.refl _ _)))
    have I3 := hide (fun o => pairs_later (pairs_later (I2.out _) hb3) (balloc (o := o) (Below.refl _ _)))
    clear H2 I2
    go_wp2_with fail
    refine (F3.out b1 c1 _ (by omega) (I3.out _)).mono ?_
    rintro e w4 ⟨rfl, hb4⟩
    have y0 := fun o => later (balloc (o := o) (Below.refl _ _)) (later hb4 (x0 _))
    have y1 := fun o => later (balloc (o := o) (Below.refl _ _)) (later hb4 (x1 _))
    have y2 := fun o => later (balloc (o := o) (Below.refl _ _)) (later hb4 (a := ⟨w3.heap.size, 0, none⟩) (v := .int .i64 B1) (by simp [go_sem, World.cell?_alloc_past]))
    have y3 := fun o => later (balloc (o := o) (Below.refl _ _)) (later hb4 (a := ⟨w3.heap.size, 1, none⟩) (v := .int .i64 B2) (by simp [go_sem, World.cell?_alloc_past]))
    have H4 := hide (fun o => pairs_later (pairs_later (H3.out _) hb4) (balloc (o := o) (Below.refl _ _)))
    have I4 := hide (fun o => pairs_later (pairs_later (I3.out _) hb4) (balloc (o := o) (Below.refl _ _)))
    clear H3 I3 x0 x1
    go_wp2_with fail
    refine (G1.out a cap _ (by omega) (H4.out _)).mono ?_
    rintro e w5 ⟨rfl, hb5⟩
    have z0 := fun o => later (balloc (o := o) (Below.refl _ _)) (later hb5 (y0 _))
    have z1 := fun o => later (balloc (o := o) (Below.refl _ _)) (later hb5 (y1 _))
    have z2 := fun o => later (balloc (o := o) (Below.refl _ _)) (later hb5 (y2 _))
    have z3 := fun o => later (balloc (o := o) (Below.refl _ _)) (later hb5 (y3 _))
    have z4 := fun o => later (balloc (o := o) (Below.refl _ _)) (later hb5 (a := ⟨w4.heap.size, 0, none⟩) (v := .int .i64 C1) (by simp [go_sem, World.cell?_alloc_past]))
    have z5 := fun o => later (balloc (o := o) (Below.refl _ _)) (later hb5 (a := ⟨w4.heap.size, 1, none⟩) (v := .int .i64 C2) (by simp [go_sem, World.cell?_alloc_past]))
    have H5 := hide (fun o => pairs_later (pairs_later (H4.out _) hb5) (balloc (o := o) (Below.refl _ _)))
    have I5 := hide (fun o => pairs_later (pairs_later (I4.out _) hb5) (balloc (o := o) (Below.refl _ _)))
    clear H4 I4 y0 y1 y2 y3
    go_wp2_with fail
    refine (G2.out a cap _ (by omega) (H5.out _)).mono ?_
    rintro e w6 ⟨rfl, hb6⟩
    have x0 := fun o => later (balloc (o := o) (Below.refl _ _)) (later hb6 (z0 _))
    have x1 := fun o => later (balloc (o := o) (Below.refl _ _)) (later hb6 (z1 _))
    have x2 := fun o => later (balloc (o := o) (Below.refl _ _)) (later hb6 (z2 _))
    have x3 := fun o => later (balloc (o := o) (Below.refl _ _)) (later hb6 (z3 _))
    have x4 := fun o => later (balloc (o := o) (Below.refl _ _)) (later hb6 (z4 _))
    have x5 := fun o => later (balloc (o := o) (Below.refl _ _)) (later hb6 (z5 _))
    have x6 := fun o => later (balloc (o := o) (Below.refl _ _)) (later hb6 (a := ⟨w5.heap.size, 0, none⟩) (v := .int .i64 A1) (by simp [go_sem, World.cell?_alloc_past]))
    have x7 := fun o => later (balloc (o := o) (Below.refl _ _)) (later hb6 (a := ⟨w5.heap.size, 1, none⟩) (v := .int .i64 A2) (by simp [go_sem, World.cell?_alloc_past]))
    have H6 := hide (fun o => pairs_later (pairs_later (H5.out _) hb6) (balloc (o := o) (Below.refl _ _)))
    have I6 := hide (fun o => pairs_later (pairs_later (I5.out _) hb6) (balloc (o := o) (Below.refl _ _)))
    clear H5 I5 z0 z1 z2 z3 z4 z5
    go_wp2_with fail
    refine (G3.out a cap _ (by omega) (H6.out _)).mono ?_
    rintro e w7 ⟨rfl, hb7⟩
    have y0 := fun o => later (balloc (o := o) (Below.refl _ _)) (later hb7 (x0 _))
    have y1 := fun o => later (balloc (o := o) (Below.refl _ _)) (later hb7 (x1 _))
    have y2 := fun o => later (balloc (o := o) (Below.refl _ _)) (later hb7 (x2 _))
    have y3 := fun o => later (balloc (o := o) (Below.refl _ _)) (later hb7 (x3 _))
    have y4 := fun o => later (balloc (o := o) (Below.refl _ _)) (later hb7 (x4 _))
    have y5 := fun o => later (balloc (o := o) (Below.refl _ _)) (later hb7 (x5 _))
    have y6 := fun o => later (balloc (o := o) (Below.refl _ _)) (later hb7 (x6 _))
    have y7 := fun o => later (balloc (o := o) (Below.refl _ _)) (later hb7 (x7 _))
    have y8 := fun o => later (balloc (o := o) (Below.refl _ _)) (later hb7 (a := ⟨w6.heap.size, 0, none⟩) (v := .int .i64 B1) (by simp [go_sem, World.cell?_alloc_past]))
    have y9 := fun o => later (balloc (o := o) (Below.refl _ _)) (later hb7 (a := ⟨w6.heap.size, 1, none⟩) (v := .int .i64 B2) (by simp [go_sem, World.cell?_alloc_past]))
    have H7 := hide (fun o => pairs_later (pairs_later (H6.out _) hb7) (balloc (o := o) (Below.refl _ _)))
    have I7 := hide (fun o => pairs_later (pairs_later (I6.out _) hb7) (balloc (o := o) (Below.refl _ _)))
    clear H6 I6 x0 x1 x2 x3 x4 x5 x6 x7
    go_wp2_with fail
    refine (sameRanges_any b1 a c1 cap rs rs _ (by omega) (by omega) (I7.out _) (H7.out _)).mono ?_
    rw [decide_eq_true rfl]
    rintro e w8 ⟨rfl, hb8⟩
    go_wp2_with fail
    refine (known_any _).mono ?_
    rintro e w9 ⟨rfl, hb9⟩
    go_wp2_with fail
    go_ret
    exact ⟨rfl, (by repeat (first | exact Below.refl _ _ | assumption | apply balloc | apply bdrew | (refine bset ?_ (by first | (simp; done) | omega | (simp; omega)) _) | (refine bnext ?_ (by assumption))))⟩
end Go.Proofs.Ytckapcfofkeicaa
