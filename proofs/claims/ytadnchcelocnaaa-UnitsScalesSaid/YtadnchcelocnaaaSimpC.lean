/-
  units: Simplest.
-/
import Derived.Test.YtadnchcelocnaaaSimp
namespace Go.Proofs.Ytadnchcelocnaaa
set_option linter.unusedSimpArgs false
set_option linter.unusedVariables false
open Go.RowKit

theorem sgn3_le {x y : Int} : decide (sgn3 x y ≤ 0) = decide (x ≤ y) := by
  unfold sgn3
  by_cases h : x < y
  · rw [if_pos h]; simp; omega
  · rw [if_neg h]
    by_cases h2 : x = y
    · rw [if_pos h2]; simp; omega
    · rw [if_neg h2]; simp; omega

set_option maxHeartbeats 400000 in
theorem simplest1_any (k : Bool) (an ad bn bd : Int) (p q : Nat) (w : World) (hk : decide (an * bd ≤ bn * ad) = k) (a0 : -1000000000000000 ≤ an) (a1 : an ≤ 1000000000000000) (a2 : -1000000000000000 ≤ ad) (a3 : ad ≤ 1000000000000000)
    (b0 : -1000000000000000 ≤ bn) (b1 : bn ≤ 1000000000000000) (b2 : -1000000000000000 ≤ bd) (b3 : bd ≤ 1000000000000000)
    (h0 : w.cell? ⟨p, 0, none⟩ = some (.int .i64 an)) (h1 : w.cell? ⟨p, 1, none⟩ = some (.int .i64 ad)) (h2 : w.cell? ⟨q, 0, none⟩ = some (.int .i64 bn)) (h3 : w.cell? ⟨q, 1, none⟩ = some (.int .i64 bd)) :
    Calls Try.prog 112 #[.pointer (some ⟨p, 0, none⟩), .pointer (some ⟨q, 0, none⟩)] w fun e w' => e = .returned (.bool k) ∧ Below w.heap.size w w' := by
  have C := hide fun w => compareFractions_any an ad bn bd w a0 a1 a2 a3 b0 b1 b2 b3
  rw [← sgn3_le] at hk
  have K := hide hk
  clear a0 a1 a2 a3 b0 b1 b2 b3 hk
  go_enter Try.func112, Try.ntmps112
  go_wp2_with (go_at_call 79; refine (C.out _).mono ?_; rintro e w' ⟨rfl, hb⟩)
  go_ret
  exact ⟨ret_bool K.out, (by repeat (first | exact Below.refl _ _ | assumption | apply balloc | apply bdrew | (refine bset ?_ (by first | (simp; done) | omega | (simp; omega)) _) | (refine bnext ?_ (by assumption))))⟩
theorem simplest_tells (k : Bool) (an ad bn bd : Int) (p q : Nat) (w : World) (hk : decide (an * bd ≤ bn * ad) = k) (B : frac2Ok an ad bn bd = true)
    (h0 : w.cell? ⟨p, 0, none⟩ = some (.int .i64 an)) (h1 : w.cell? ⟨p, 1, none⟩ = some (.int .i64 ad)) (h2 : w.cell? ⟨q, 0, none⟩ = some (.int .i64 bn)) (h3 : w.cell? ⟨q, 1, none⟩ = some (.int .i64 bd)) :
    Tells w 112 #[.pointer (some ⟨p, 0, none⟩), .pointer (some ⟨q, 0, none⟩)] k := by
  obtain ⟨⟨⟨a0, a1⟩, a2, a3⟩, ⟨b0, b1⟩, b2, b3⟩ := frac2_bounds B
  exact ⟨enters_any Try.func112 (by kernel_rfl) rfl _, fun W hW => simplest1_any k an ad bn bd p q W hk a0 a1 (by omega) a3 b0 b1 (by omega) b3 (later hW h0) (later hW h1) (later hW h2) (later hW h3)⟩

/-- The conditions of Simplest come to E. -/
def SimpCond (an ad bn bd E : Int) (k1 k2 : Bool) : Prop := [(an, ad), (bn, bd)].all fracOk = k1 ∧ (k1 = true → frac2Ok an ad bn bd = true ∧ decide (an * bd ≤ bn * ad) = k2) ∧ ∀ f g c d, firstE [⟨2, f, c, k1⟩, ⟨2, g, d, k2⟩] = E

set_option maxHeartbeats 800000 in
theorem simplestC_bad (an ad bn bd : Int) (k1 k2 : Bool) (w : World) (h : Hid (SimpCond an ad bn bd 2 k1 k2)) :
    Calls Try.prog 60 #[.agg #[.int .i64 an, .int .i64 ad], .agg #[.int .i64 bn, .int .i64 bd]] w fun e w' => e = .returned (.tuple #[.agg #[.int .i64 0, .int .i64 0], .int .i64 2]) ∧ Below w.heap.size w w' := by
  go_enter Try.func60, Try.ntmps60
  go_wp2_with (first | (go_at_call 78; refine (validFractions_any _ _ _ _).mono ?_; rintro e w' ⟨rfl, rfl⟩) | (go_at_call 68; refine (unless_any _ _ _ _).mono ?_; rintro e w' ⟨rfl, rfl⟩))
  refine (firstError_is 2 [⟨2, 114, #[.pointer (some ⟨w.heap.size + 1 + 1 + 1 + 1 + 1 + 1, 0, none⟩), .pointer (some ⟨w.heap.size + 1 + 1 + 1 + 1 + 1, 0, none⟩)], k1⟩, ⟨2, 114, #[.pointer (some ⟨w.heap.size + 1 + 1 + 1 + 1 + 1 + 1 + 1 + 1, 0, none⟩), .pointer (some ⟨w.heap.size + 1 + 1 + 1 + 1 + 1 + 1 + 1, 0, none⟩)], k2⟩] _ _ _ (h.out.2.2 _ _ _ _) (by simp) (by simp) (cnds_two_at (by simp))
    (tells_two (validFractions_tells k1 (some ⟨w.heap.size + 1 + 1 + 1, 0, none⟩) 2 2 [(an, ad), (bn, bd)] ⟨w.heap.size + 1 + 1 + 1 + 1, 0, none⟩ ⟨w.heap.size + 1 + 1 + 1 + 1 + 1 + 1, 0, none⟩ ⟨w.heap.size + 1 + 1 + 1 + 1 + 1, 0, none⟩ _ h.out.1 rfl (by simp) (by simp [go_sem, World.cell?_alloc_past]) (by simp [go_sem, World.cell?_alloc_past]) (by simp [go_sem, World.cell?_alloc_past]) (pairs_two_of (by simp [go_sem, World.cell?_alloc_past]) (by simp [go_sem, World.cell?_alloc_past]) (by simp [go_sem, World.cell?_alloc_past]) (by simp [go_sem, World.cell?_alloc_past])))
      (fun hk => unless_tells 2 _ _ k2 ⟨w.heap.size + 1 + 1 + 1 + 1 + 1 + 1 + 1, 0, none⟩ ⟨w.heap.size + 1 + 1 + 1 + 1 + 1 + 1 + 1 + 1, 0, none⟩ _ rfl (simplest_tells k2 an ad bn bd w.heap.size (w.heap.size + 1) _ (h.out.2.1 hk).2 (h.out.2.1 hk).1 (by simp [go_sem, World.cell?_alloc_past]) (by simp [go_sem, World.cell?_alloc_past]) (by simp [go_sem, World.cell?_alloc_past]) (by simp [go_sem, World.cell?_alloc_past])) (by simp [go_sem, World.cell?_alloc_past]) (by simp [go_sem, World.cell?_alloc_past])))).mono ?_
  rintro e w1 ⟨rfl, hb⟩
  have c4 := later hb (a := ⟨w.heap.size + 1 + 1, 0, none⟩) (v := .int .i64 0) (by simp [go_sem, World.cell?_alloc_past])
  have c5 := later hb (a := ⟨w.heap.size + 1 + 1, 1, none⟩) (v := .int .i64 0) (by simp [go_sem, World.cell?_alloc_past])
  have f4 := free_later hb (a := ⟨w.heap.size + 1 + 1, 0, none⟩) (v := .int .i64 0) (by simp [go_sem, World.cell?_alloc_past]) (by simp [go_sem, World.cell?_alloc_past])
  have f5 := free_later hb (a := ⟨w.heap.size + 1 + 1, 1, none⟩) (v := .int .i64 0) (by simp [go_sem, World.cell?_alloc_past]) (by simp [go_sem, World.cell?_alloc_past])
  go_wp2_with fail
  exact bodyPost_ret (v := .tuple #[.agg #[.int .i64 0, .int .i64 0], .int .i64 2]) (by simp [results, Try.results60, go_sem, c4, c5]) rfl ⟨rfl, (by repeat (first | exact Below.refl _ _ | assumption | apply balloc | apply bdrew | (refine bset ?_ (by first | (simp; done) | omega | (simp; omega)) _) | (refine bnext ?_ (by assumption))))⟩
set_option maxHeartbeats 800000 in
theorem simplestC_good (n d an ad bn bd : Int) (k1 k2 : Bool) (w : World) (h : Hid (SimpCond an ad bn bd 0 k1 k2)) (C : Hid (∀ w : World, Calls Try.prog 113 #[.agg #[.int .i64 an, .int .i64 ad], .agg #[.int .i64 bn, .int .i64 bd]] w fun e w' => e = .returned (.agg #[.int .i64 n, .int .i64 d]) ∧ Below w.heap.size w w')) :
    Calls Try.prog 60 #[.agg #[.int .i64 an, .int .i64 ad], .agg #[.int .i64 bn, .int .i64 bd]] w fun e w' => e = .returned (.tuple #[.agg #[.int .i64 n, .int .i64 d], .int .i64 0]) ∧ Below w.heap.size w w' := by
  go_enter Try.func60, Try.ntmps60
  go_wp2_with (first | (go_at_call 78; refine (validFractions_any _ _ _ _).mono ?_; rintro e w' ⟨rfl, rfl⟩) | (go_at_call 68; refine (unless_any _ _ _ _).mono ?_; rintro e w' ⟨rfl, rfl⟩))
  refine (firstError_is 0 [⟨2, 114, #[.pointer (some ⟨w.heap.size + 1 + 1 + 1 + 1 + 1 + 1, 0, none⟩), .pointer (some ⟨w.heap.size + 1 + 1 + 1 + 1 + 1, 0, none⟩)], k1⟩, ⟨2, 114, #[.pointer (some ⟨w.heap.size + 1 + 1 + 1 + 1 + 1 + 1 + 1 + 1, 0, none⟩), .pointer (some ⟨w.heap.size + 1 + 1 + 1 + 1 + 1 + 1 + 1, 0, none⟩)], k2⟩] _ _ _ (h.out.2.2 _ _ _ _) (by simp) (by simp) (cnds_two_at (by simp))
    (tells_two (validFractions_tells k1 (some ⟨w.heap.size + 1 + 1 + 1, 0, none⟩) 2 2 [(an, ad), (bn, bd)] ⟨w.heap.size + 1 + 1 + 1 + 1, 0, none⟩ ⟨w.heap.size + 1 + 1 + 1 + 1 + 1 + 1, 0, none⟩ ⟨w.heap.size + 1 + 1 + 1 + 1 + 1, 0, none⟩ _ h.out.1 rfl (by simp) (by simp [go_sem, World.cell?_alloc_past]) (by simp [go_sem, World.cell?_alloc_past]) (by simp [go_sem, World.cell?_alloc_past]) (pairs_two_of (by simp [go_sem, World.cell?_alloc_past]) (by simp [go_sem, World.cell?_alloc_past]) (by simp [go_sem, World.cell?_alloc_past]) (by simp [go_sem, World.cell?_alloc_past])))
      (fun hk => unless_tells 2 _ _ k2 ⟨w.heap.size + 1 + 1 + 1 + 1 + 1 + 1 + 1, 0, none⟩ ⟨w.heap.size + 1 + 1 + 1 + 1 + 1 + 1 + 1 + 1, 0, none⟩ _ rfl (simplest_tells k2 an ad bn bd w.heap.size (w.heap.size + 1) _ (h.out.2.1 hk).2 (h.out.2.1 hk).1 (by simp [go_sem, World.cell?_alloc_past]) (by simp [go_sem, World.cell?_alloc_past]) (by simp [go_sem, World.cell?_alloc_past]) (by simp [go_sem, World.cell?_alloc_past])) (by simp [go_sem, World.cell?_alloc_past]) (by simp [go_sem, World.cell?_alloc_past])))).mono ?_
  rintro e w1 ⟨rfl, hb⟩
  have c4 := later hb (a := ⟨w.heap.size + 1 + 1, 0, none⟩) (v := .int .i64 0) (by simp [go_sem, World.cell?_alloc_past])
  have c5 := later hb (a := ⟨w.heap.size + 1 + 1, 1, none⟩) (v := .int .i64 0) (by simp [go_sem, World.cell?_alloc_past])
  have f4 := free_later hb (a := ⟨w.heap.size + 1 + 1, 0, none⟩) (v := .int .i64 0) (by simp [go_sem, World.cell?_alloc_past]) (by simp [go_sem, World.cell?_alloc_past])
  have f5 := free_later hb (a := ⟨w.heap.size + 1 + 1, 1, none⟩) (v := .int .i64 0) (by simp [go_sem, World.cell?_alloc_past]) (by simp [go_sem, World.cell?_alloc_past])
  have c0 := later hb (a := ⟨w.heap.size, 0, none⟩) (v := .int .i64 an) (by simp [go_sem, World.cell?_alloc_past])
  have c1 := later hb (a := ⟨w.heap.size, 1, none⟩) (v := .int .i64 ad) (by simp [go_sem, World.cell?_alloc_past])
  have c2 := later hb (a := ⟨w.heap.size + 1, 0, none⟩) (v := .int .i64 bn) (by simp [go_sem, World.cell?_alloc_past])
  have c3 := later hb (a := ⟨w.heap.size + 1, 1, none⟩) (v := .int .i64 bd) (by simp [go_sem, World.cell?_alloc_past])
  go_wp2_with fail
  refine (C.out _).mono ?_
  rintro e w2 ⟨rfl, hb2⟩
  have c4' := later hb2 c4
  have c5' := later hb2 c5
  have f4' := free_later hb2 c4 f4
  have f5' := free_later hb2 c5 f5
  clear c4 c5 f4 f5
  go_wp2_with fail
  exact bodyPost_ret (v := .tuple #[.agg #[.int .i64 n, .int .i64 d], .int .i64 0]) (by simp [results, Try.results60, go_sem, c4', c5']) rfl ⟨rfl, (by repeat (first | exact Below.refl _ _ | assumption | apply balloc | apply bdrew | (refine bset ?_ (by first | (simp; done) | omega | (simp; omega)) _) | (refine bnext ?_ (by assumption))))⟩

/-- The results of Simplest (k: a bound on the rounds). -/
def simplestQ (k : Nat) (an ad bn bd : Int) : (Int × Int) × Int :=
  if (frac2Ok an ad bn bd && decide (an * bd ≤ bn * ad)) = true then (simpQ k an ad bn bd, 0) else ((0, 0), 2)

theorem simplestF_any (k : Nat) (an ad bn bd : Int) (w : World) (hk : ad + bd ≤ k) :
    Calls Try.prog 60 #[.agg #[.int .i64 an, .int .i64 ad], .agg #[.int .i64 bn, .int .i64 bd]] w fun e w' => e = .returned (.tuple #[.agg #[.int .i64 (simplestQ k an ad bn bd).1.1, .int .i64 (simplestQ k an ad bn bd).1.2], .int .i64 (simplestQ k an ad bn bd).2]) ∧ Below w.heap.size w w' := by
  unfold simplestQ
  cases h1 : frac2Ok an ad bn bd with
  | false =>
    rw [if_neg (by simp)]
    exact simplestC_bad an ad bn bd false true w ⟨h1, fun h => (by simp at h), fun _ _ _ _ => rfl⟩
  | true =>
    cases h2 : decide (an * bd ≤ bn * ad) with
    | false =>
      rw [if_neg (by simp)]
      exact simplestC_bad an ad bn bd true false w ⟨h1, fun _ => ⟨h1, h2⟩, fun _ _ _ _ => rfl⟩
    | true =>
      rw [if_pos (by simp)]
      obtain ⟨⟨⟨a0, a1⟩, a2, a3⟩, ⟨b0, b1⟩, b2, b3⟩ := frac2_bounds h1
      exact simplestC_good _ _ an ad bn bd true true w ⟨h1, fun _ => ⟨h1, h2⟩, fun _ _ _ _ => rfl⟩
        (fun w => simplest_any k an ad bn bd w a0 a1 a2 a3 b0 b1 b2 b3 (show Hid _ from of_decide_eq_true (p := an * bd ≤ bn * ad) h2) hk)
end Go.Proofs.Ytadnchcelocnaaa
