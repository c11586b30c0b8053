/-
  units.Value's condition.
-/
import Derived.Test.YtadnchcelocnaaaWhereC
import Derived.BigQuiet
namespace Go.Proofs.Ytadnchcelocnaaa
set_option linter.unusedSimpArgs false
set_option linter.unusedVariables false
open Go.RowKit

def inDom (ks : List (Int × Int)) (lo hi : Int) : Bool := decide ((ks.getD 0 (0, 0)).1 ≤ lo) && decide (hi ≤ (ks.getD (ks.length - 1) (0, 0)).1)

set_option maxHeartbeats 2000000 in
theorem value1_any (lo hi : Int) (a : Option Addr) (cap m : Nat) (ks : List (Int × Int)) (pb qb : Nat) (w : World) (hm : ks.length = m + 1) (hl : ks.length ≤ 8796093022208)
    (p1 : w.cell? ⟨pb, 0, none⟩ = some (.int .i64 lo)) (p2 : w.cell? ⟨pb, 1, none⟩ = some (.int .i64 hi)) (hq : w.cell? ⟨qb, 0, none⟩ = some (.slice a (m + 1) cap)) (h : IsPairs w a ks) :
    Calls Try.prog 102 #[.pointer (some ⟨pb, 0, none⟩), .pointer (some ⟨qb, 0, none⟩)] w fun e w' => e = .returned (.bool (inDom ks lo hi)) ∧ Below w.heap.size w w' := by
  obtain ⟨b, off, rfl, hc⟩ : ∃ b off, a = some ⟨b, off, none⟩ ∧ ∀ i, i < ks.length → w.cell? ⟨b, off + i * 2, none⟩ = some (.int .i64 (ks.getD i (0, 0)).1) ∧ w.cell? ⟨b, off + i * 2 + 1, none⟩ = some (.int .i64 (ks.getD i (0, 0)).2) := by
    rcases h with h | h
    · subst h; simp at hm
    · exact h
  clear h
  obtain ⟨c1, _⟩ := hc 0 (by omega)
  obtain ⟨c2, _⟩ := hc m (by omega)
  clear hc
  have E : inDom ks lo hi = (decide ((ks.getD 0 (0, 0)).1 ≤ lo) && decide (hi ≤ (ks.getD m (0, 0)).1)) := by unfold inDom; rw [hm]; rfl
  rw [E]
  clear E
  have hwk : IntKind.wrap .i64 (m : Int) = m := IntWalk.i64_in _ (by omega)
  generalize ks.getD 0 (0, 0) = z0 at *
  generalize ks.getD m (0, 0) = z1 at *
  obtain ⟨x0, y0⟩ := z0
  obtain ⟨x1, y1⟩ := z1
  simp only [Nat.zero_mul, Nat.add_zero] at c1 c2
  have hm0 : (0 : Int) < (m : Int) + 1 := by omega
  have hm1 : (m : Int) < (m : Int) + 1 := by omega
  clear hl hm
  simp only
  by_cases h1 : x0 ≤ lo
  · by_cases h2 : hi ≤ x1
    · rw [decide_eq_true h1, decide_eq_true h2]
      have d1 : decide (x0 ≤ lo) = true := decide_eq_true h1
      have d2 : decide (hi ≤ x1) = true := decide_eq_true h2
      go_enter Try.func102, Try.ntmps102
      go_wp2_with fail
      go_quiet (fail)
      go_wp2
      go_ret
      exact ⟨rfl, below_drewN (Below.refl _ _) _⟩
    · rw [decide_eq_true h1, decide_eq_false h2]
      have d1 : decide (x0 ≤ lo) = true := decide_eq_true h1
      have d2 : decide (hi ≤ x1) = false := decide_eq_false h2
      go_enter Try.func102, Try.ntmps102
      go_wp2_with fail
      go_quiet (fail)
      go_wp2
      go_ret
      exact ⟨rfl, below_drewN (Below.refl _ _) _⟩
  · rw [decide_eq_false h1]
    have d1 : decide (x0 ≤ lo) = false := decide_eq_false h1
    go_enter Try.func102, Try.ntmps102
    go_wp2_with fail
    go_quiet (fail)
    go_wp2
    go_ret
    exact ⟨rfl, below_drewN (Below.refl _ _) _⟩
theorem value_tells (k : Bool) (lo hi : Int) (a : Option Addr) (cap m : Nat) (ks : List (Int × Int)) (pb qb : Nat) (w : World) (hk : inDom ks lo hi = k) (hm : ks.length = m + 1) (hl : ks.length ≤ 8796093022208)
    (p1 : w.cell? ⟨pb, 0, none⟩ = some (.int .i64 lo)) (p2 : w.cell? ⟨pb, 1, none⟩ = some (.int .i64 hi)) (hq : w.cell? ⟨qb, 0, none⟩ = some (.slice a (m + 1) cap)) (h : IsPairs w a ks) :
    Tells w 102 #[.pointer (some ⟨pb, 0, none⟩), .pointer (some ⟨qb, 0, none⟩)] k := by
  subst hk
  exact ⟨enters_any Try.func102 (by kernel_rfl) rfl _, fun W hW => value1_any lo hi a cap m ks pb qb W hm hl (later hW p1) (later hW p2) (later hW hq) (pairs_later h hW)⟩
end Go.Proofs.Ytadnchcelocnaaa
