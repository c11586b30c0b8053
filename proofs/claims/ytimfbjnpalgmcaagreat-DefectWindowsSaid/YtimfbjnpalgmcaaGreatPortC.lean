/-
  units: Portions: its closures and the sum. units: Portions, where nothing is wrong. units: Portions, whatever the number and the weights are.
-/
import Derived.Test.YtimfbjnpalgmcaaGreatMulDiv
import Derived.OwnWalk
namespace Go.Proofs.YtimfbjnpalgmcaaGreat
set_option linter.unusedSimpArgs false
set_option linter.unusedVariables false
open Go.RowKit

/-! ### The conditions -/
/-- The sum of the weights, as the machine has it. -/
def sumW (l : List Int) : Int := l.foldl (fun s x => wrap64 (s + x)) 0
theorem sumW_step {l : List Int} {k : Nat} (hk : k < l.length) : sumW (l.take (k + 1)) = wrap64 (sumW (l.take k) + l.getD k 0) := by
  unfold sumW
  rw [List.take_succ_eq_append_getElem hk, List.foldl_append]
  simp only [List.foldl_cons, List.foldl_nil, List.getD_eq_getElem?_getD, List.getElem?_eq_getElem hk, Option.getD_some]

/-- The conditions of Portions come to E. -/
def PortCond (n : Int) (ws : List Int) (E : Int) (k1 k2 k3 k4 : Bool) : Prop :=
  decide ((ws.length : Int) ≤ 100) = k1 ∧ (allAm [n] && allAm ws) = k2 ∧ allIn 1000000000000000 [sumW ws] = k3 ∧ decide (0 < sumW ws) = k4 ∧ ∀ f1 c1 f2 c2 f3 c3 f4 c4, firstE [⟨5, f1, c1, k1⟩, ⟨3, f2, c2, k2⟩, ⟨10, f3, c3, k3⟩, ⟨2, f4, c4, k4⟩] = E

end Go.Proofs.YtimfbjnpalgmcaaGreat

namespace Go.Proofs.YtimfbjnpalgmcaaGreat
set_option linter.unusedSimpArgs false
set_option linter.unusedVariables false
open Go.RowKit

theorem owns_later {w W : World} {base : Nat} {e : TypeId} {size : Nat} {v : Value} {n : Nat} {xs : List Value} (h : w.ownsRow base e size v n xs) (hb : Below w.heap.size w W) : W.ownsRow base e size v n xs := by
  obtain ⟨h1, h2⟩ := h
  refine ⟨h1, ?_⟩
  rcases h2 with h2 | ⟨g, cap, cur, hv, hg, hh, r⟩
  · exact .inl h2
  · exact .inr ⟨g, cap, cur, hv, hg, by rw [hb.block g (lt_of_block hh)]; exact hh, r⟩

theorem int_info : (Tryz.prog.info? 3).map (fun i => (i.zero, i.size, i.bytes)) = some (some (.int .i64 0), 1, 8) := by kernel_rfl

/-- The parts after k rounds: the first k are there. -/
def partsAt (U : Nat → Int) (n k : Nat) : List Value := (List.range n).map fun i => .int .i64 (if i < k then U (i + 1) - U i else 0)
theorem partsAt_zero (U : Nat → Int) (n : Nat) : (madeCells (Value.int .i64 0).cells (n * 1)).toList = partsAt U n 0 := by
  unfold madeCells partsAt
  simp [Value.cells]
  intro i _
  rw [Nat.mod_one]; rfl
theorem partsAt_set (U : Nat → Int) (n k : Nat) (h : k < n) : (partsAt U n k).set k (.int .i64 (U (k + 1) - U k)) = partsAt U n (k + 1) := by
  unfold partsAt
  apply List.ext_getElem
  · simp
  · intro i h1 h2
    rw [List.getElem_set]
    by_cases e : k = i
    · subst e; simp
    · simp [e]; congr 1; by_cases c : i < k
      · simp [c]; omega
      · simp [c]; omega
theorem partsAt_get (U : Nat → Int) (n k : Nat) (h : k < n) : (partsAt U n k)[k]? = some (.int .i64 0) := by
  unfold partsAt
  simp [h]

end Go.Proofs.YtimfbjnpalgmcaaGreat

namespace Go.Proofs.YtimfbjnpalgmcaaGreat
set_option linter.unusedSimpArgs false
set_option linter.unusedVariables false
open Go.RowKit

/-- The sum of a list. -/
def isum (l : List Int) : Int := l.foldl (fun s x => s + x) 0
theorem isum_step {l : List Int} {k : Nat} (hk : k < l.length) : isum (l.take (k + 1)) = isum (l.take k) + l.getD k 0 := by
  unfold isum
  rw [List.take_succ_eq_append_getElem hk, List.foldl_append]
  simp only [List.foldl_cons, List.foldl_nil, List.getD_eq_getElem?_getD, List.getElem?_eq_getElem hk, Option.getD_some]
theorem allAm_get {l : List Int} (h : allAm l = true) {k : Nat} (hk : k < l.length) : 0 ≤ l.getD k 0 ∧ l.getD k 0 ≤ 1000000000000000 := by
  unfold allAm at h
  rw [List.all_eq_true] at h
  have := h l[k] (List.getElem_mem hk)
  simp only [List.getD_eq_getElem?_getD, List.getElem?_eq_getElem hk, Option.getD_some]
  simpa using this
theorem isum_bounds {l : List Int} (h : allAm l = true) (hl : l.length ≤ 1000) : ∀ k, k ≤ l.length → 0 ≤ isum (l.take k) ∧ isum (l.take k) ≤ k * 1000000000000000 ∧ sumW (l.take k) = isum (l.take k) := by
  intro k
  induction k with
  | zero => intro _; simp [isum, sumW]
  | succ k ih =>
    intro hk
    obtain ⟨a, b, c⟩ := ih (by omega)
    obtain ⟨d, e⟩ := allAm_get h (show k < l.length by omega)
    rw [isum_step (by omega), sumW_step (by omega), c, IntWalk.wrap64_in _ (by omega)]
    omega
theorem isum_mono {l : List Int} (h : allAm l = true) : ∀ j k, k + j ≤ l.length → isum (l.take k) ≤ isum (l.take (k + j)) := by
  intro j
  induction j with
  | zero => intro k _; simp
  | succ j ih =>
    intro k hk
    have := ih k (by omega)
    have d := (allAm_get h (show k + j < l.length by omega)).1
    rw [← Nat.add_assoc, isum_step (by omega)]
    omega

/-- A product over a divisor, rounded down, if it is a number. -/
theorem mulDivQ_down {a b c : Int} (a0 : -1000000000000000 ≤ a) (a1 : a ≤ 1000000000000000) (b0 : -1000000000000000 ≤ b) (b1 : b ≤ 1000000000000000) (c0 : 1 ≤ c) (c1 : c ≤ 1000000000000000)
    (q0 : -1000000000000000 ≤ a * b / c) (q1 : a * b / c ≤ 1000000000000000) : mulDivQ a b c 1 = (a * b / c, a * b % c, 0) := by
  have hc : isDiv c = true := by simp [isDiv, c0, c1]
  have hA : (allIn 1000000000000000 [a, b] && isDiv c) = true := by rw [hc, Bool.and_true, allIn_two]; omega
  have hf : floorQ (a * b) c = (a * b / c, a * b % c, true) := by
    unfold floorQ
    by_cases h : 0 ≤ a * b
    · rw [if_pos h, if_pos q1]
    · rw [if_neg h]
      have e1 := Int.mul_ediv_add_emod (a * b) c
      have r0 := Int.emod_nonneg (a * b) (show c ≠ 0 by omega)
      have : (-(a * b) - 1) / c ≤ 1000000000000000 := by
        have : (-(a * b) - 1) / c < 1000000000000001 := by
          apply Int.ediv_lt_of_lt_mul (by omega)
          have : -1000000000000000 * c ≤ a * b := by
            have := (Int.le_ediv_iff_mul_le (show 0 < c by omega)).1 q0
            omega
          omega
        omega
      rw [if_pos this]
  have hd : divQ (a * b) c 1 = (a * b / c, a * b % c, true) := by
    unfold divQ
    rw [hf, if_neg (by simp), if_neg (by simp [upQ])]
    have : allIn 1000000000000000 [a * b / c] = true := by simp [allIn, q0, q1]
    rw [this]
  unfold mulDivQ
  rw [if_neg (by decide), hA, if_neg (by simp), hd, if_neg (by simp)]

/-- The error of Portions, or 0. -/
def portE (n : Int) (ws : List Int) : Int :=
  if decide ((ws.length : Int) ≤ 100) = false then 5 else if (allAm [n] && allAm ws) = false then 3 else if allIn 1000000000000000 [sumW ws] = false then 10 else if decide (0 < sumW ws) = false then 2 else 0
/-- What the first k parts are together. -/
def upTo (n : Int) (ws : List Int) (k : Nat) : Int := n * isum (ws.take k) / isum ws
/-- The parts. -/
def portQ (n : Int) (ws : List Int) : List Int := if portE n ws = 0 then (List.range ws.length).map (fun i => upTo n ws (i + 1) - upTo n ws i) else []

theorem portE_zero {n : Int} {ws : List Int} (h : portE n ws = 0) : ws.length ≤ 100 ∧ (0 ≤ n ∧ n ≤ 1000000000000000) ∧ allAm ws = true ∧ sumW ws = isum ws ∧ 1 ≤ isum ws ∧ isum ws ≤ 1000000000000000 := by
  unfold portE at h
  cases h1 : decide ((ws.length : Int) ≤ 100) <;> rw [h1] at h
  · simp at h
  cases h2 : (allAm [n] && allAm ws) <;> rw [h2] at h
  · simp at h
  cases h3 : allIn 1000000000000000 [sumW ws] <;> rw [h3] at h
  · simp at h
  cases h4 : decide (0 < sumW ws) <;> rw [h4] at h
  · simp at h
  have l := of_decide_eq_true h1
  rw [Bool.and_eq_true] at h2
  have hn : 0 ≤ n ∧ n ≤ 1000000000000000 := by simpa [allAm] using h2.1
  obtain ⟨a, b, c⟩ := isum_bounds h2.2 (by omega) ws.length (Nat.le_refl _)
  rw [List.take_of_length_le (Nat.le_refl _)] at a b c
  have s1 := of_decide_eq_true h4
  have s2 : sumW ws ≤ 1000000000000000 := by simp [allIn] at h3; omega
  refine ⟨by omega, hn, h2.2, c, by omega, by omega⟩

theorem upTo_ok {n : Int} {ws : List Int} (h : portE n ws = 0) (k : Nat) (hk : k ≤ ws.length) :
    (0 ≤ isum (ws.take k) ∧ isum (ws.take k) ≤ 1000000000000000) ∧ (0 ≤ upTo n ws k ∧ upTo n ws k ≤ n) ∧ mulDivQ n (isum (ws.take k)) (sumW ws) 1 = (upTo n ws k, n * isum (ws.take k) % isum ws, 0) := by
  obtain ⟨hl, ⟨n0, n1⟩, ha, hs, s0, s1⟩ := portE_zero h
  obtain ⟨a, _, _⟩ := isum_bounds ha (by omega) k hk
  have m := isum_mono ha (ws.length - k) k (by omega)
  rw [show k + (ws.length - k) = ws.length by omega, List.take_of_length_le (Nat.le_refl _)] at m
  have u0 : 0 ≤ upTo n ws k := Int.ediv_nonneg (Int.mul_nonneg n0 a) (by omega)
  have u1 : upTo n ws k ≤ n := by
    unfold upTo
    have : n * isum (ws.take k) / isum ws < n + 1 := by
      apply Int.ediv_lt_of_lt_mul (by omega)
      have x1 := Int.mul_le_mul_of_nonneg_left m n0
      rw [Int.add_mul]
      omega
    omega
  refine ⟨by omega, ⟨u0, u1⟩, ?_⟩
  rw [hs]
  exact mulDivQ_down (by omega) n1 (by omega) (by omega) s0 s1 (by unfold upTo at u0; omega) (by unfold upTo at u1; omega)

/-- The elements of a slice of integers of the call's own. -/
theorem ints_of_owned {w : World} {base g n : Nat} {T : TypeId} {zs : List Int} (h : w.ownsRow base T 1 (.slice (some ⟨g, 0, none⟩) n n) n (zs.map (Value.int .i64))) (hn : n = zs.length) : IsInts w (some ⟨g, 0, none⟩) zs := by
  refine .inr ⟨g, 0, rfl, fun i hi => ?_⟩
  have := h.cellAt i (by omega)
  rw [Nat.zero_add, this]
  simp [hi]

end Go.Proofs.YtimfbjnpalgmcaaGreat
