/-
  units: limited, total, common. units: Balance: its conditions. units: Balance, where the ranges are valid. units: Balance, where something is left.
-/
import Derived.Test.YtimfbjnpalgmcaaGreatTimes
import Derived.Deep.DeepCutAuto
import Derived.OwnWalk
namespace Go.Proofs.YtimfbjnpalgmcaaGreat
set_option linter.unusedSimpArgs false
set_option linter.unusedVariables false
open Go.RowKit

set_option maxHeartbeats 400000 in
/-- What two ranges have in common, and whether they have anything. -/
theorem common_any (al ah bl bh : Int) (w : World) :
    Calls Tryz.prog 95 #[.agg #[.int .i64 al, .int .i64 ah], .agg #[.int .i64 bl, .int .i64 bh]] w fun e w' => e = .returned (.tuple #[.agg #[.int .i64 (max al bl), .int .i64 (min ah bh)], .bool (decide (max al bl ≤ min ah bh))]) ∧ Below w.heap.size w w' := by
  have e1 : (if al < bl then bl else al) = max al bl := by rw [Int.max_def]; split <;> split <;> omega
  have e2 : (if bh < ah then bh else ah) = min ah bh := by rw [Int.min_def]; split <;> split <;> omega
  generalize max al bl = x at *
  generalize min ah bh = y at *
  go_enter Tryz.func95, Tryz.ntmps95
  go_wp2
  exact bodyPost_ret (v := .tuple #[.agg #[.int .i64 x, .int .i64 y], .bool (decide (x ≤ y))]) (by simp [results, Tryz.results95, go_sem]) rfl ⟨rfl, (by repeat (first | exact Below.refl _ _ | assumption | apply balloc | apply bdrew | (refine below_drewN ?_ _) | (refine bset ?_ (by first | (simp; done) | omega | (simp; omega)) _) | (refine bnext ?_ (by assumption))))⟩

end Go.Proofs.YtimfbjnpalgmcaaGreat

namespace Go.Proofs.YtimfbjnpalgmcaaGreat
set_option linter.unusedSimpArgs false
set_option linter.unusedVariables false
open Go.RowKit

/-- A cell that holds v and may be written. -/
def CF (w : World) (a : Addr) (v : Value) : Prop := w.cell? a = some v ∧ w.frozen? a = false
theorem cf_later {w W : World} {a : Addr} {v : Value} (hb : Below w.heap.size w W) (h : CF w a v) : CF W a v := ⟨later hb h.1, free_later hb h.1 h.2⟩

/-- The conditions of Balance come to E. -/
def BalCond (rs : List (Int × Int)) (wl wh E : Int) (k1 k2 k3 : Bool) : Prop :=
  decide ((rs.length : Int) ≤ 100) = k1 ∧ rs.all rangeOk = k2 ∧ [(wl, wh)].all rangeOk = k3 ∧ ∀ f1 c1 f2 c2 f3 c3, firstE [⟨5, f1, c1, k1⟩, ⟨2, f2, c2, k2⟩, ⟨2, f3, c3, k3⟩] = E

end Go.Proofs.YtimfbjnpalgmcaaGreat

namespace Go.Proofs.YtimfbjnpalgmcaaGreat
set_option linter.unusedSimpArgs false
set_option linter.unusedVariables false
open Go.RowKit

end Go.Proofs.YtimfbjnpalgmcaaGreat

namespace Go.Proofs.YtimfbjnpalgmcaaGreat
set_option linter.unusedSimpArgs false
set_option linter.unusedVariables false
open Go.RowKit

theorem range_info : (Tryz.prog.info? 23).map (fun i => (i.zero, i.size, i.bytes)) = some (some (.agg #[.int .i64 0, .int .i64 0]), 2, 16) := by kernel_rfl

theorem sz_set (W : World) (p : Addr) (v : Value) : (W.setCell p v).heap.size = W.heap.size := by simp [World.setCell]

theorem cf_touch {b : Nat} {w W : World} {p : Addr} {v : Value} (h : Touch b w W) (hp : p.block ≠ b) (hc : CF w p v) : CF W p v := ⟨h.cell hp hc.1, h.free hp hc.1 hc.2⟩

/-- The ranges after k rounds: the first k are there. -/
def narrowAt (f : Nat → Int × Int) (n k : Nat) : List Value := (List.range (n * 2)).map fun j => .int .i64 (if j / 2 < k then (if j % 2 = 0 then (f (j / 2)).1 else (f (j / 2)).2) else 0)
theorem narrowAt_zero (f : Nat → Int × Int) (n : Nat) : (madeCells (Value.agg #[.int .i64 0, .int .i64 0]).cells (n * 2)).toList = narrowAt f n 0 := by
  unfold madeCells narrowAt
  simp [Value.cells]
  intro i _
  obtain h | h : i % 2 = 0 ∨ i % 2 = 1 := by omega
  · rw [h]; rfl
  · rw [h]; rfl
theorem narrowAt_set (f : Nat → Int × Int) (n k : Nat) (h : k < n) : ((narrowAt f n k).set (k * 2) (.int .i64 (f k).1)).set (k * 2 + 1) (.int .i64 (f k).2) = narrowAt f n (k + 1) := by
  unfold narrowAt
  apply List.ext_getElem
  · simp
  · intro i h1 h2
    rw [List.getElem_set, List.getElem_set]
    by_cases e : k * 2 + 1 = i
    · subst e
      have a : (k * 2 + 1) / 2 = k := by omega
      have b : (k * 2 + 1) % 2 = 1 := by omega
      simp [a, b]
    · rw [if_neg e]
      by_cases e' : k * 2 = i
      · subst e'
        have a : k * 2 / 2 = k := by omega
        have b : k * 2 % 2 = 0 := by omega
        simp [a, b]
      · rw [if_neg e']
        have : (i / 2 < k + 1) ↔ (i / 2 < k) := by omega
        simp [this]
theorem narrowAt_get (f : Nat → Int × Int) (n k : Nat) (h : k < n) : (narrowAt f n k)[k * 2]? = some (.int .i64 0) ∧ (narrowAt f n k)[k * 2 + 1]? = some (.int .i64 0) := by
  unfold narrowAt
  have a : ¬ k * 2 / 2 < k := by omega
  have b : ¬ (k * 2 + 1) / 2 < k := by omega
  constructor
  · rw [List.getElem?_map, List.getElem?_range (by omega)]; simp [a]
  · rw [List.getElem?_map, List.getElem?_range (by omega)]; simp [b]

end Go.Proofs.YtimfbjnpalgmcaaGreat
