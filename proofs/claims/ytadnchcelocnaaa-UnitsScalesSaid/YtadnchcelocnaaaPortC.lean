/-
  units: Portions, whatever the number and the weights are.
-/
import Derived.Test.YtadnchcelocnaaaPortB
namespace Go.Proofs.Ytadnchcelocnaaa
set_option linter.unusedSimpArgs false
set_option linter.unusedVariables false
open Go.RowKit

/-- The sum of a list. -/
def isum (l : List Int) : Int := l.foldl (fun s x => s + x) 0
theorem isum_step {l : List Int} {k : Nat} (hk : k < l.length) : isum (l.take (k + 1)) = isum (l.take k) + l.getD k 0 := by
  unfold isum
  rw [List.take_succ_eq_append_getElem hk, List.foldl_append]
  simp only [List.foldl_cons, List.foldl_nil, List.getD_eq_getElem?_getD, List.getElem?_eq_getElem hk, Option.getD_some]
theorem allAm_get {l : List Int} (h : allAm l = true) {k : Nat} (hk : k < l.length) : 0 ≤ l.getD k 0 ∧ l.getD k 0 ≤ 1000000000000000 := by
  unfold allAm at h
  rw [List.all_eq_true] at h
  have := h l[k] (List.getElem_mem hk)
  simp only [List.getD_eq_getElem?_getD, List.getElem?_eq_getElem hk, Option.getD_some]
  simpa using this
theorem isum_bounds {l : List Int} (h : allAm l = true) (hl : l.length ≤ 1000) : ∀ k, k ≤ l.length → 0 ≤ isum (l.take k) ∧ isum (l.take k) ≤ k * 1000000000000000 ∧ sumW (l.take k) = isum (l.take k) := by
  intro k
  induction k with
  | zero => intro _; simp [isum, sumW]
  | succ k ih =>
    intro hk
    obtain ⟨a, b, c⟩ := ih (by omega)
    obtain ⟨d, e⟩ := allAm_get h (show k < l.length by omega)
    rw [isum_step (by omega), sumW_step (by omega), c, IntWalk.wrap64_in _ (by omega)]
    omega
theorem isum_mono {l : List Int} (h : allAm l = true) : ∀ j k, k + j ≤ l.length → isum (l.take k) ≤ isum (l.take (k + j)) := by
  intro j
  induction j with
  | zero => intro k _; simp
  | succ j ih =>
    intro k hk
    have := ih k (by omega)
    have d := (allAm_get h (show k + j < l.length by omega)).1
    rw [← Nat.add_assoc, isum_step (by omega)]
    omega

/-- A product over a divisor, rounded down, if it is a number. -/
theorem mulDivQ_down {a b c : Int} (a0 : -1000000000000000 ≤ a) (a1 : a ≤ 1000000000000000) (b0 : -1000000000000000 ≤ b) (b1 : b ≤ 1000000000000000) (c0 : 1 ≤ c) (c1 : c ≤ 1000000000000000)
    (q0 : -1000000000000000 ≤ a * b / c) (q1 : a * b / c ≤ 1000000000000000) : mulDivQ a b c 1 = (a * b / c, a * b % c, 0) := by
  have hc : isDiv c = true := by simp [isDiv, c0, c1]
  have hA : (allIn 1000000000000000 [a, b] && isDiv c) = true := by rw [hc, Bool.and_true, allIn_two]; omega
  have hf : floorQ (a * b) c = (a * b / c, a * b % c, true) := by
    unfold floorQ
    by_cases h : 0 ≤ a * b
    · rw [if_pos h, if_pos q1]
    · rw [if_neg h]
      have e1 := Int.mul_ediv_add_emod (a * b) c
      have r0 := Int.emod_nonneg (a * b) (show c ≠ 0 by omega)
      have : (-(a * b) - 1) / c ≤ 1000000000000000 := by
        have : (-(a * b) - 1) / c < 1000000000000001 := by
          apply Int.ediv_lt_of_lt_mul (by omega)
          have : -1000000000000000 * c ≤ a * b := by
            have := (Int.le_ediv_iff_mul_le (show 0 < c by omega)).1 q0
            omega
          omega
        omega
      rw [if_pos this]
  have hd : divQ (a * b) c 1 = (a * b / c, a * b % c, true) := by
    unfold divQ
    rw [hf, if_neg (by simp), if_neg (by simp [upQ])]
    have : allIn 1000000000000000 [a * b / c] = true := by simp [allIn, q0, q1]
    rw [this]
  unfold mulDivQ
  rw [if_neg (by decide), hA, if_neg (by simp), hd, if_neg (by simp)]

/-- The error of Portions, or 0. -/
def portE (n : Int) (ws : List Int) : Int :=
  if decide ((ws.length : Int) ≤ 100) = false then 5 else if (allAm [n] && allAm ws) = false then 3 else if allIn 1000000000000000 [sumW ws] = false then 10 else if decide (0 < sumW ws) = false then 2 else 0
/-- What the first k parts are together. -/
def upTo (n : Int) (ws : List Int) (k : Nat) : Int := n * isum (ws.take k) / isum ws
/-- The parts. -/
def portQ (n : Int) (ws : List Int) : List Int := if portE n ws = 0 then (List.range ws.length).map (fun i => upTo n ws (i + 1) - upTo n ws i) else []

theorem portE_zero {n : Int} {ws : List Int} (h : portE n ws = 0) : ws.length ≤ 100 ∧ (0 ≤ n ∧ n ≤ 1000000000000000) ∧ allAm ws = true ∧ sumW ws = isum ws ∧ 1 ≤ isum ws ∧ isum ws ≤ 1000000000000000 := by
  unfold portE at h
  cases h1 : decide ((ws.length : Int) ≤ 100) <;> rw [h1] at h
  · simp at h
  cases h2 : (allAm [n] && allAm ws) <;> rw [h2] at h
  · simp at h
  cases h3 : allIn 1000000000000000 [sumW ws] <;> rw [h3] at h
  · simp at h
  cases h4 : decide (0 < sumW ws) <;> rw [h4] at h
  · simp at h
  have l := of_decide_eq_true h1
  rw [Bool.and_eq_true] at h2
  have hn : 0 ≤ n ∧ n ≤ 1000000000000000 := by simpa [allAm] using h2.1
  obtain ⟨a, b, c⟩ := isum_bounds h2.2 (by omega) ws.length (Nat.le_refl _)
  rw [List.take_of_length_le (Nat.le_refl _)] at a b c
  have s1 := of_decide_eq_true h4
  have s2 : sumW ws ≤ 1000000000000000 := by simp [allIn] at h3; omega
  refine ⟨by omega, hn, h2.2, c, by omega, by omega⟩

theorem upTo_ok {n : Int} {ws : List Int} (h : portE n ws = 0) (k : Nat) (hk : k ≤ ws.length) :
    (0 ≤ isum (ws.take k) ∧ isum (ws.take k) ≤ 1000000000000000) ∧ (0 ≤ upTo n ws k ∧ upTo n ws k ≤ n) ∧ mulDivQ n (isum (ws.take k)) (sumW ws) 1 = (upTo n ws k, n * isum (ws.take k) % isum ws, 0) := by
  obtain ⟨hl, ⟨n0, n1⟩, ha, hs, s0, s1⟩ := portE_zero h
  obtain ⟨a, _, _⟩ := isum_bounds ha (by omega) k hk
  have m := isum_mono ha (ws.length - k) k (by omega)
  rw [show k + (ws.length - k) = ws.length by omega, List.take_of_length_le (Nat.le_refl _)] at m
  have u0 : 0 ≤ upTo n ws k := Int.ediv_nonneg (Int.mul_nonneg n0 a) (by omega)
  have u1 : upTo n ws k ≤ n := by
    unfold upTo
    have : n * isum (ws.take k) / isum ws < n + 1 := by
      apply Int.ediv_lt_of_lt_mul (by omega)
      have x1 := Int.mul_le_mul_of_nonneg_left m n0
      rw [Int.add_mul]
      omega
    omega
  refine ⟨by omega, ⟨u0, u1⟩, ?_⟩
  rw [hs]
  exact mulDivQ_down (by omega) n1 (by omega) (by omega) s0 s1 (by unfold upTo at u0; omega) (by unfold upTo at u1; omega)

/-- The elements of a slice of integers of the call's own. -/
theorem ints_of_owned {w : World} {base g n : Nat} {T : TypeId} {zs : List Int} (h : w.ownsRow base T 1 (.slice (some ⟨g, 0, none⟩) n n) n (zs.map (Value.int .i64))) (hn : n = zs.length) : IsInts w (some ⟨g, 0, none⟩) zs := by
  refine .inr ⟨g, 0, rfl, fun i hi => ?_⟩
  have := h.cellAt i (by omega)
  rw [Nat.zero_add, this]
  simp [hi]

theorem portions_any (n : Int) (ws : List Int) (a : Option Addr) (cap : Nat) (w : World) (hl : ws.length ≤ 140737488351232) (h : IsInts w a ws) :
    Calls Try.prog 27 #[.int .i64 n, .slice a ws.length cap] w fun e w' => ∃ b c, e = .returned (.tuple #[.slice b (portQ n ws).length c, .int .i64 (portE n ws)]) ∧ IsInts w' b (portQ n ws) ∧ Below w.heap.size w w' := by
  have bad : ∀ (E : Int) (k1 k2 k3 k4 : Bool), (E == 0) = false → portE n ws = E → PortCond n ws E k1 k2 k3 k4 → Calls Try.prog 27 #[.int .i64 n, .slice a ws.length cap] w fun e w' => ∃ b c, e = .returned (.tuple #[.slice b (portQ n ws).length c, .int .i64 (portE n ws)]) ∧ IsInts w' b (portQ n ws) ∧ Below w.heap.size w w' := by
    intro E k1 k2 k3 k4 hE he hc
    refine (portions_bad n ws a cap w E k1 k2 k3 k4 hE hc hl h).mono ?_
    rintro e w' ⟨rfl, hb⟩
    have : portQ n ws = [] := by unfold portQ; rw [if_neg (by rw [he]; simpa using hE)]
    rw [this, he]
    exact ⟨none, 0, rfl, .inl rfl, hb⟩
  cases h1 : decide ((ws.length : Int) ≤ 100) with
  | false => exact bad 5 false _ _ _ rfl (by unfold portE; rw [h1]; rfl) ⟨h1, rfl, rfl, rfl, fun _ _ _ _ _ _ _ _ => rfl⟩
  | true =>
    cases h2 : (allAm [n] && allAm ws) with
    | false => exact bad 3 true false _ _ rfl (by unfold portE; rw [h1, h2]; rfl) ⟨h1, h2, rfl, rfl, fun _ _ _ _ _ _ _ _ => rfl⟩
    | true =>
      cases h3 : allIn 1000000000000000 [sumW ws] with
      | false => exact bad 10 true true false _ rfl (by unfold portE; rw [h1, h2, h3]; rfl) ⟨h1, h2, h3, rfl, fun _ _ _ _ _ _ _ _ => rfl⟩
      | true =>
        cases h4 : decide (0 < sumW ws) with
        | false => exact bad 2 true true true false rfl (by unfold portE; rw [h1, h2, h3, h4]; rfl) ⟨h1, h2, h3, h4, fun _ _ _ _ _ _ _ _ => rfl⟩
        | true =>
          have hE : portE n ws = 0 := by unfold portE; rw [h1, h2, h3, h4]; rfl
          obtain ⟨hl', ⟨n0, n1⟩, _⟩ := portE_zero hE
          refine (portions_good n ws a cap w (fun k => isum (ws.take k)) (upTo n ws) (fun k => n * isum (ws.take k) % isum ws) ⟨h1, h2, h3, h4, fun _ _ _ _ _ _ _ _ => rfl⟩ hl' h
            (fun k hk => by have := (upTo_ok hE k hk).1; omega) (fun k hk => (isum_step hk).symm) rfl (fun k hk => by have := (upTo_ok hE k hk).2.1; omega) (fun k hk => (upTo_ok hE k hk).2.2) (by simp [upTo, isum])).mono ?_
          rintro e w' ⟨g, rfl, hown, hb⟩
          have hq : portQ n ws = (List.range ws.length).map (fun i => upTo n ws (i + 1) - upTo n ws i) := by unfold portQ; rw [if_pos hE]
          have hlen : (portQ n ws).length = ws.length := by rw [hq]; simp
          rw [hE, hlen]
          refine ⟨_, _, rfl, ints_of_owned (base := w.heap.size) (T := 3) (n := ws.length) ?_ hlen.symm, hb⟩
          have : partsAt (upTo n ws) ws.length ws.length = (portQ n ws).map (Value.int .i64) := by
            rw [hq, partsAt, List.map_map]
            apply List.map_congr_left
            intro i hi
            simp at hi
            simp [hi]
          rw [← this]
          exact hown
end Go.Proofs.Ytadnchcelocnaaa
