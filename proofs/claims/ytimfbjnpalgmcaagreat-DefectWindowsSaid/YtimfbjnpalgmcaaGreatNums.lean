/-
  units.within, areNumbers, areAmounts, isDivisor.
-/
import Derived.Test.YtimfbjnpalgmcaaGreatRows
import Derived.WalkKit
import Derived.WalkSpells
import Derived.BigQuiet
import Derived.Deep.QuietTactic
import Derived.WalkSmall
namespace Go.Proofs.YtimfbjnpalgmcaaGreat
set_option linter.unusedSimpArgs false
set_option linter.unusedVariables false
open Go.RowKit

theorem hide {p : Prop} (h : p) : Hid p := h

/-! ### What lay there when the call began lies there: one step, and then another -/
theorem bnext {w W w' : World} (h : Below w.heap.size w W) (k : Below W.heap.size W w') : Below w.heap.size w w' := h.trans (k.mono h.size)
theorem balloc {w W : World} (h : Below w.heap.size w W) {o : Obj} : Below w.heap.size w (W.alloc o) := h.alloc h.size o
theorem bdrew {w W : World} (h : Below w.heap.size w W) : Below w.heap.size w W.drew := h.drew
theorem bset {w W : World} {p : Addr} (h : Below w.heap.size w W) (hp : w.heap.size ≤ p.block) (u : Value) : Below w.heap.size w (W.setCell p u) := h.setCell hp u

theorem later {w w' : World} {a : Addr} {v : Value} (hb : Below w.heap.size w w') (h : w.cell? a = some v) : w'.cell? a = some v := (hb.cell (World.block_lt_of_cell? _ _ h)).trans h

theorem free_later {w w' : World} {a : Addr} {v : Value} (hb : Below w.heap.size w w') (h : w.cell? a = some v) (hf : w.frozen? a = false) : w'.frozen? a = false := (hb.frozen (World.block_lt_of_cell? _ _ h)).trans hf

/-- The elements of a slice of integers, as they lie in memory. -/
def IsInts (w : World) (a : Option Addr) (zs : List Int) : Prop :=
  zs = [] ∨ ∃ b off, a = some ⟨b, off, none⟩ ∧ ∀ i, i < zs.length → w.cell? ⟨b, off + i, none⟩ = some (.int .i64 (zs.getD i 0))

/-- All numbers are from -m to m. -/
def allIn (m : Int) (zs : List Int) : Bool := zs.all fun n => decide (-m ≤ n) && decide (n ≤ m)
theorem allIn_nil (m : Int) : allIn m [] = true := rfl
theorem allIn_step {m : Int} {zs : List Int} {k : Nat} (hk : k < zs.length) (h : allIn m (zs.take k) = true) (h1 : -m ≤ zs.getD k 0) (h2 : zs.getD k 0 ≤ m) : allIn m (zs.take (k + 1)) = true := by
  rw [List.take_succ_eq_append_getElem hk]
  simp only [List.getD_eq_getElem?_getD, List.getElem?_eq_getElem hk, Option.getD_some] at h1 h2
  unfold allIn at *
  rw [List.all_append, h]
  simp [h1, h2]
theorem allIn_stop {m : Int} {zs : List Int} {k : Nat} (hk : k < zs.length) (h : ¬ (-m ≤ zs.getD k 0 ∧ zs.getD k 0 ≤ m)) : allIn m zs = false := by
  simp only [List.getD_eq_getElem?_getD, List.getElem?_eq_getElem hk, Option.getD_some] at h
  unfold allIn
  rw [List.all_eq_false]
  refine ⟨zs[k], List.getElem_mem hk, ?_⟩
  simpa using h

theorem ret_bool {a b : Bool} (h : a = b) : Ending.returned (.bool a) = .returned (.bool b) := by rw [h]

set_option maxHeartbeats 400000 in
theorem within_any (m : Int) (zs : List Int) (a : Option Addr) (cap : Nat) (w : World) (h : IsInts w a zs) (hm : 0 ≤ m) (hm' : m ≤ 1000000000000000) (hl : zs.length ≤ 140737488351232) :
    Calls Tryz.prog 137 #[.int .i64 m, .slice a zs.length cap] w fun e w' => e = .returned (.bool (allIn m zs)) ∧ w = w' := by
  go_enter Tryz.func137, Tryz.ntmps137
  go_wp2
  go_loop [9] (fun i => ∃ k : Nat, k ≤ zs.length ∧ i = .int .i64 (k : Int) ∧ allIn m (zs.take k) = true) (fun i => zs.length - (intOf i).toNat)
  case atStart => exact ⟨0, by omega, rfl, rfl⟩
  case round =>
    obtain ⟨k, hk, rfl, hall⟩ := hrel
    have Hall := hide hall
    clear hall
    by_cases hlt : k < zs.length
    · obtain ⟨b, off, rfl, hc⟩ : ∃ b off, a = some ⟨b, off, none⟩ ∧ ∀ i, i < zs.length → w.cell? ⟨b, off + i, none⟩ = some (.int .i64 (zs.getD i 0)) := by
        rcases h with h | h
        · subst h; simp at hlt
        · exact h
      have hck := hc k hlt
      clear hc h
      obtain ⟨z, hz⟩ : ∃ z, zs.getD k 0 = z := ⟨_, rfl⟩
      rw [hz] at hck
      have Hz := hide hz
      clear hz
      by_cases c1 : z < -m
      · have e := allIn_stop (m := m) hlt (by rw [Hz.out]; omega)
        go_wp2
        go_ret
        exact ⟨rfl, rfl⟩
      · by_cases c2 : m < z
        · have e := allIn_stop (m := m) hlt (by rw [Hz.out]; omega)
          go_wp2
          go_ret
          exact ⟨rfl, rfl⟩
        · have e := hide (allIn_step (m := m) hlt Hall.out (by rw [Hz.out]; omega) (by rw [Hz.out]; omega))
          go_wp2
          go_round
          case rel => exact ⟨k + 1, by omega, by go_num, e.out⟩
          case measure => simp [intOf]; omega
    · have e : allIn m zs = true := by
        have := Hall.out
        rwa [List.take_of_length_le (by omega)] at this
      go_wp2
      go_ret
      exact ⟨rfl, rfl⟩

theorem areNumbers_any (zs : List Int) (a : Option Addr) (cap : Nat) (w : World) (h : IsInts w a zs) (hl : zs.length ≤ 140737488351232) :
    Calls Tryz.prog 103 #[.slice a zs.length cap] w fun e w' => e = .returned (.bool (allIn 1000000000000000 zs)) ∧ w = w' := by
  go_enter Tryz.func103, Tryz.ntmps103
  go_wp2_with (go_at_call 137; refine (within_any _ zs a cap _ h (by omega) (by omega) hl).mono ?_; rintro e w' ⟨rfl, rfl⟩)
  go_ret
  exact ⟨rfl, rfl⟩

def isDiv (c : Int) : Bool := decide (1 ≤ c) && decide (c ≤ 1000000000000000)
theorem isDiv_one {c : Int} (h : 1 ≤ c) : allIn 1000000000000000 [c] = isDiv c := by
  unfold isDiv allIn
  have h1 : -1000000000000000 ≤ c := by omega
  simp [h, h1]

/-- A slice literal of one integer, of two. -/
theorem ints_one (w : World) (c : Int) (T : TypeId) : IsInts (w.alloc (.cells #[.int .i64 c] T)) (some ⟨w.heap.size, 0, none⟩) [c] := by
  refine .inr ⟨_, _, rfl, fun i hi => ?_⟩
  obtain rfl : i = 0 := by simpa using hi
  simp [go_sem]

theorem ints_two (w : World) (a b : Int) (T : TypeId) : IsInts (w.alloc (.cells #[.int .i64 a, .int .i64 b] T)) (some ⟨w.heap.size, 0, none⟩) [a, b] := by
  refine .inr ⟨_, _, rfl, fun i hi => ?_⟩
  simp at hi
  obtain rfl | rfl : i = 0 ∨ i = 1 := by omega
  · simp [go_sem]
  · simp [go_sem]

theorem isDivisor_any (c : Int) (w : World) :
    Calls Tryz.prog 104 #[.int .i64 c] w fun e w' => e = .returned (.bool (isDiv c)) ∧ Below w.heap.size w w' := by
  by_cases h : 1 ≤ c
  · go_enter Tryz.func104, Tryz.ntmps104
    go_wp2_with (go_at_call 103; refine (areNumbers_any [c] _ _ _ (ints_one _ _ _) (by simp)).mono ?_; rintro e w' ⟨rfl, rfl⟩)
    go_ret
    exact ⟨ret_bool (isDiv_one h), (Below.refl _ _).alloc (Nat.le_refl _) _⟩
  · go_enter Tryz.func104, Tryz.ntmps104
    go_wp2
    go_ret
    exact ⟨ret_bool (by unfold isDiv; simp; omega), Below.refl _ _⟩

/-- All numbers are from 0 to the greatest one. -/
def allAm (zs : List Int) : Bool := zs.all fun n => decide (0 ≤ n) && decide (n ≤ 1000000000000000)
theorem allAm_of {zs : List Int} (h : zs.all (fun n => decide (0 ≤ n)) = true) : allIn 1000000000000000 zs = allAm zs := by
  unfold allIn allAm
  rw [List.all_eq_true] at h
  rw [Bool.eq_iff_iff, List.all_eq_true, List.all_eq_true]
  constructor
  · intro g x hx
    have a := g x hx; have b := h x hx
    simp only [Bool.and_eq_true, decide_eq_true_eq] at *
    exact ⟨b, a.2⟩
  · intro g x hx
    have a := g x hx
    simp only [Bool.and_eq_true, decide_eq_true_eq] at *
    exact ⟨by omega, a.2⟩
theorem allNo_step {zs : List Int} {k : Nat} (hk : k < zs.length) (h : (zs.take k).all (fun n => decide (0 ≤ n)) = true) (h1 : 0 ≤ zs.getD k 0) : (zs.take (k + 1)).all (fun n => decide (0 ≤ n)) = true := by
  rw [List.take_succ_eq_append_getElem hk]
  simp only [List.getD_eq_getElem?_getD, List.getElem?_eq_getElem hk, Option.getD_some] at h1
  rw [List.all_append, h]
  simp [h1]
theorem allAm_stop {zs : List Int} {k : Nat} (hk : k < zs.length) (h : zs.getD k 0 < 0) : allAm zs = false := by
  simp only [List.getD_eq_getElem?_getD, List.getElem?_eq_getElem hk, Option.getD_some] at h
  unfold allAm
  rw [List.all_eq_false]
  refine ⟨zs[k], List.getElem_mem hk, ?_⟩
  simp; omega

end Go.Proofs.YtimfbjnpalgmcaaGreat
