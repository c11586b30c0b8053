/-
  The statements' own helpers: ownInts, ownRanges, ownKnots.
-/
import Derived.Test.YtimfbjnpalgmcaaGreatRun
import Derived.Laws.OwnMore
import Derived.Laws.AppendOwnNone
namespace Go.Proofs.YtimfbjnpalgmcaaGreat
set_option linter.unusedSimpArgs false
set_option linter.unusedVariables false
open Go.RowKit

theorem ints_of_own {w : World} {base n : Nat} {T : TypeId} {v : Value} {zs : List Int} (h : w.ownsRow base T 1 v n (zs.map (Value.int .i64))) (hn : n = zs.length) : ∃ b c, v = .slice b n c ∧ IsInts w b zs := by
  subst hn
  rcases h.2 with ⟨e, e'⟩ | ⟨g, cap, cur, rfl, _⟩
  · exact ⟨none, 0, by rw [e, e'], .inl (List.eq_nil_of_length_eq_zero e')⟩
  · refine ⟨_, _, rfl, .inr ⟨g, 0, rfl, fun i hi => ?_⟩⟩
    rw [Nat.zero_add, h.cellAt i (by omega), List.getElem?_map, List.getElem?_eq_getElem hi]
    simp [List.getD_eq_getElem?_getD, List.getElem?_eq_getElem hi]

/-- A list of integers of its own, told. -/
def IntsPost (w : World) (zs : List Int) (e : Ending) (w' : World) : Prop := ∃ b c, e = .returned (.slice b zs.length c) ∧ (b = none → c = 0 ∧ zs = []) ∧ IsInts w' b zs ∧ Below w.heap.size w w'
theorem pairs_of_own {w : World} {base : Nat} {T : TypeId} {v : Value} {zs : List (Int × Int)} (h : w.ownsRow base T 2 v zs.length (rowOf zs)) : ∃ b c, v = .slice b zs.length c ∧ (b = none → c = 0 ∧ zs = []) ∧ IsPairs w b zs := by
  obtain ⟨b, c, rfl, hp⟩ := pairs_of_owned h rfl
  refine ⟨b, c, rfl, ?_, hp⟩
  rintro rfl
  rcases h.2 with ⟨e, e'⟩ | ⟨g, cap, cur, e, _⟩
  · have hz := List.eq_nil_of_length_eq_zero e'; subst hz; cases e; exact ⟨rfl, rfl⟩
  · cases e
theorem rowOf_cell {w : World} {a : Option Addr} {zs : List (Int × Int)} {ad : Addr} (ha : a = some ad) (h : IsPairs w a zs) : ∀ (j : Nat) (u : Value), (rowOf zs)[j]? = some u → w.cell? (ad.add j) = some u := by
  intro j u hu
  rcases h with h | ⟨b, off, e, h⟩
  · subst h; simp [rowOf] at hu
  · rw [ha] at e; cases e
    have hj : j < (rowOf zs).length := (List.getElem?_eq_some_iff.1 hu).1
    rw [rowOf_length] at hj
    have r := rowOf_at zs (j / 2) (by omega)
    have c := h (j / 2) (by omega)
    have hadd : (⟨b, off, none⟩ : Addr).add j = ⟨b, off + j, none⟩ := by
      by_cases hz : j = 0
      · subst hz; simp [Addr.add]
      · simp [Addr.add, hz]
    rw [hadd]
    by_cases h0 : j % 2 = 0
    · rw [show j / 2 * 2 = j by omega] at r c
      rw [r.1] at hu
      cases hu
      exact c.1
    · have e1 : j / 2 * 2 + 1 = j := by omega
      rw [e1] at r
      rw [r.2] at hu
      cases hu
      have := c.2
      rwa [Nat.add_assoc, e1] at this
/-- A list of ranges (or knots) of its own, told. -/
def PairsPost (w : World) (zs : List (Int × Int)) (e : Ending) (w' : World) : Prop := ∃ b c, e = .returned (.slice b zs.length c) ∧ (b = none → c = 0 ∧ zs = []) ∧ IsPairs w' b zs ∧ Below w.heap.size w w'
theorem rowOf_ones {zs : List (Int × Int)} : ∀ u ∈ rowOf zs, u.oneCell' = true := by
  intro u hu
  simp [rowOf] at hu
  obtain ⟨a, b, _, rfl | rfl⟩ := hu <;> rfl
end Go.Proofs.YtimfbjnpalgmcaaGreat
