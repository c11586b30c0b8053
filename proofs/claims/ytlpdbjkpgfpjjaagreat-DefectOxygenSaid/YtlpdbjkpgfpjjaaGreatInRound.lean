/-
  A region that draws its order, in a round of a loop over an iterator: what 'wpAnyH' says of it, its fenced twin says.
-/
import Derived.Test.YtlpdbjkpgfpjjaaGreatPcSeq
import Derived.Deep.RegionHeld3
namespace Go.Proofs.YtlpdbjkpgfpjjaaGreat
set_option linter.unusedSimpArgs false
set_option linter.unusedVariables false
open Go.RowKit

theorem anyIn_of_anyH {l n : Nat} {P : Program} {md : Region.Mode} {ops : Array Oper} {Q : Exit → Act → World → Prop} {S : World → Prop}
    (hd : ∀ (i : Nat) (o : Oper), ops[i]? = some o → ∀ c, o.op ≠ .defer c) (hL : ¬ LetsOut Q) :
    ∀ (fuel : Nat) (listed : Array Bool) (a : Act) (w : World), wpAnyH P md ops Q S fuel listed a w → wpAnyIn (Fence.wide.inRound l) n P md ops Q fuel listed a w
  | 0, _, _, _, h => h
  | fuel + 1, listed, a, w, h => by
    refine ⟨h.1, fun i hi => ?_⟩
    have h2 := h.2 i hi
    unfold wpOp at h2
    unfold wpOpIn
    split at h2
    · rename_i hn
      simp only [hn]
      exact anyIn_of_anyH hd hL fuel _ _ _ h2.2
    · rename_i o ho
      simp only [ho]
      split at h2
      · rename_i hw
        simp only [hw, if_true]
        rcases h2 with h2 | h2
        · refine ⟨fun _ _ => trivial, ?_⟩
          unfold Oper.wp at h2
          rw [Oper.semAt_eq _ _ _ (hd i o ho)]
          generalize (execOp a.eval o).run P w = r at *
          cases r with
          | ok x w' =>
            cases x <;> simp only [Oper.upon, Oper.uponIn] at h2 ⊢
            all_goals first
              | exact anyIn_of_anyH hd hL fuel _ _ _ h2.2
              | exact h2.elim
              | (refine ⟨fun h => (by cases h), (CallsIn.inRound l (callsIn_wide.2 h2)).mono ?_⟩
                 intro e w'' he
                 cases e with
                 | returned v => exact anyIn_of_anyH hd hL fuel _ _ _ he.2
                 | panicked ch => exact he
                 | outgrown => exact (hL he).elim)
              | (refine ⟨fun h => (by cases h), fun c cs _ => ?_⟩
                 obtain ⟨v, w'', hr, hs⟩ := h2 c cs
                 exact ⟨v, w'', anyIn_of_anyH hd hL fuel _ _ _ hr.2, stepsIn_wide.2 hs⟩)
          | halt x w' => cases x <;> simp only [Oper.upon, Oper.uponIn] at h2 ⊢ <;> exact h2
        · exact (hL h2.2).elim
      · rename_i hw
        simp only [hw]
        exact ⟨fun _ _ => trivial, anyIn_of_anyH hd hL fuel _ _ _ h2.2⟩
def noDefer (ops : Array Oper) : Bool := ops.all fun o => match o.op with | .defer _ => false | _ => true
theorem noDefer_spec {ops : Array Oper} (h : noDefer ops = true) : ∀ (i : Nat) (o : Oper), ops[i]? = some o → ∀ c, o.op ≠ .defer c := by
  intro i o ho c hc
  unfold noDefer at h
  rw [Array.all_eq_true] at h
  obtain ⟨hi, rfl⟩ := Array.getElem?_eq_some_iff.1 ho
  have := h i hi
  rw [hc] at this
  simp at this
theorem region_inRound {l n id : Nat} {P : Program} {ops : Array Oper} {Q : Exit → Act → World → Prop} {a : Act} {w : World} (S : World → Prop)
    (hm : P.follows .mixedOrders = true) (hd : ∀ (i : Nat) (o : Oper), ops[i]? = some o → ∀ c, o.op ≠ .defer c) (hL : ¬ LetsOut Q) (hS : S w.drew)
    (h : S w.drew → wpAnyH P .any ops Q S ops.size (Array.replicate ops.size false) a w.drew) : (Code.region id ops true).wpIn (Fence.wide.inRound l) n P Q a w :=
  wpIn_region_any hm (anyIn_of_anyH hd hL _ _ _ _ (h hS))
end Go.Proofs.YtlpdbjkpgfpjjaaGreat
