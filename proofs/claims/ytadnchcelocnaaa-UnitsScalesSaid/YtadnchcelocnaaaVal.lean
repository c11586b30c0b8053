/-
  units.Value, whatever table and range.
-/
import Derived.Test.YtadnchcelocnaaaValG
namespace Go.Proofs.Ytadnchcelocnaaa
set_option linter.unusedSimpArgs false
set_option linter.unusedVariables false
open Go.RowKit

theorem knot_of {ks : List (Int × Int)} (h : tabOk ks = true) {k : Nat} (hk : k < ks.length) : knotOk ks k = true := by
  unfold tabOk at h
  simp only [Bool.and_eq_true, List.all_eq_true, List.mem_range] at h
  exact h.2.2 k hk
theorem len_of {ks : List (Int × Int)} (h : tabOk ks = true) : 2 ≤ ks.length ∧ ks.length ≤ 60 := by
  unfold tabOk at h
  simp only [Bool.and_eq_true, decide_eq_true_eq] at h
  exact ⟨h.1, h.2.1⟩
theorem pcOk_of {ks : List (Int × Int)} (h : tabOk ks = true) : ∀ k, k < ks.length - 1 → pcOk (seg ks k) := by
  intro k hk
  have h0 := knot_of h (k := k) (by omega)
  have h1 := knot_of h (k := k + 1) (by omega)
  unfold knotOk at h0 h1
  unfold pcOk seg
  dsimp only
  simp only [Bool.and_eq_true, Bool.or_eq_true, decide_eq_true_eq, allIn, List.all_cons, List.all_nil, Nat.add_sub_cancel] at h0 h1
  omega

/-- The results of Value. -/
def valueQ (ks : List (Int × Int)) (lo hi : Int) : Int × Int × Int :=
  if tabOk ks = false then (0, 0, 2) else if [(lo, hi)].all rangeOk = false then (0, 0, 2) else if inDom ks lo hi = false then (0, 0, 7) else gRes (vAll lo hi (segs ks (ks.length - 1)))
theorem value_any (ks : List (Int × Int)) (a : Option Addr) (cap : Nat) (lo hi : Int) (w : World) (hl : ks.length ≤ 8796093022208) (h : IsPairs w a ks) :
    Calls Try.prog 50 #[.slice a ks.length cap, .agg #[.int .i64 lo, .int .i64 hi]] w fun e w' => e = .returned (.tuple #[.agg #[.int .i64 (valueQ ks lo hi).1, .int .i64 (valueQ ks lo hi).2.1], .int .i64 (valueQ ks lo hi).2.2]) ∧ Below w.heap.size w w' := by
  unfold valueQ
  have ht : ∀ c n, [(⟨c, n, ks⟩ : Tb)].all Tb.ok = tabOk ks := fun c n => by simp [Tb.ok]
  cases h1 : tabOk ks with
  | false =>
    rw [if_pos rfl]
    exact value_bad ks a cap lo hi 2 false ([(lo, hi)].all rangeOk) false w rfl ⟨(ht _ _).trans h1, rfl, fun h => (by simp at h), fun _ _ _ _ _ _ => rfl⟩ hl h
  | true =>
    rw [if_neg (by simp)]
    cases h2 : [(lo, hi)].all rangeOk with
    | false =>
      rw [if_pos rfl]
      exact value_bad ks a cap lo hi 2 true false (inDom ks lo hi) w rfl ⟨(ht _ _).trans h1, h2, fun _ => ⟨rfl, (len_of h1).1⟩, fun _ _ _ _ _ _ => rfl⟩ hl h
    | true =>
      rw [if_neg (by simp)]
      cases h3 : inDom ks lo hi with
      | false =>
        rw [if_pos rfl]
        exact value_bad ks a cap lo hi 7 true true false w rfl ⟨(ht _ _).trans h1, h2, fun _ => ⟨h3, (len_of h1).1⟩, fun _ _ _ _ _ _ => rfl⟩ hl h
      | true =>
        rw [if_neg (by simp)]
        exact value_good ks a cap lo hi w ⟨(ht _ _).trans h1, h2, fun _ => ⟨h3, (len_of h1).1⟩, fun _ _ _ _ _ _ => rfl⟩ hl h (pcOk_of h1)
end Go.Proofs.Ytadnchcelocnaaa
