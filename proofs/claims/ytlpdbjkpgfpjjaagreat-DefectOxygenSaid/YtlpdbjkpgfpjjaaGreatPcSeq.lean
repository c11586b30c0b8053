/-
  units.pieces' iterator, as a contract.
-/
import Derived.Test.YtlpdbjkpgfpjjaaGreatPiece
namespace Go.Proofs.YtlpdbjkpgfpjjaaGreat
set_option linter.unusedSimpArgs false
set_option linter.unusedVariables false
open Go.RowKit

theorem segs_take (ks : List (Int × Int)) {k : Nat} (hk : k ≤ ks.length - 1) : segs ks k <+: segs ks (ks.length - 1) := by
  refine ⟨((List.range (ks.length - 1)).map (seg ks)).drop k, ?_⟩
  have : segs ks k = ((List.range (ks.length - 1)).map (seg ks)).take k := by
    rw [← List.map_take, List.take_range, Nat.min_eq_left hk]; rfl
  rw [this, List.take_append_drop]; rfl

/-- The iterator yields the pieces, in order, whatever the body does that keeps what it reads; each of them is known to be ok. -/
theorem pieces_stops (n : Nat) (hn : 1 ≤ n) (p : Addr) (a : Option Addr) (cap : Nat) (ks : List (Int × Int)) (hreach : ks.length ≤ 8796093022208) (ok : Pc → Prop) (hok : ∀ k, k < ks.length - 1 → ok (seg ks k))
    (Kp : World → World → Prop) (hKf : ∀ A B, Kp A B → PF p a cap ks A → PF p a cap ks B) (w : World) (h : PF p a cap ks w) :
    SeqStopsK Fence.wide n Tryz.prog 136 #[.pointer (some p)] (fun x : { x : Pc // ok x } => encP x.1) Kp (fun ys => ys.map Subtype.val = segs ks (ks.length - 1)) (fun _ => True) (ks.length - 1) w := fun l J Jx W hW hJ _ hY h0 => by
  refine (pieces1_in n hn l p a cap ks hreach Kp hKf (fun ps W => ∃ qs : List { x : Pc // ok x }, qs.map Subtype.val = ps ∧ J qs W) (fun ps W => ∃ qs : List { x : Pc // ok x }, qs.map Subtype.val = ps ∧ Jx qs W)
    (fun s W hs => by obtain ⟨qs, e, hs⟩ := hs; exact ⟨qs, e, hJ qs W W.drew none hs (grown_drew W) (fun r e => by cases e)⟩)
    (fun k W1 hk hj => by
      obtain ⟨qs, e, hj⟩ := hj
      have hlen : qs.length = k := by have := congrArg List.length e; simpa [segs_length] using this
      refine YieldAt.mono (hY qs ⟨seg ks k, hok k hk⟩ W1 hj (by omega)) ?_
      rintro e' W' (⟨he, h1, h2⟩ | ⟨he, h1⟩)
      · exact .inl ⟨he, ⟨_, by rw [segs_succ, List.map_append, e]; rfl, h1⟩, h2⟩
      · exact .inr ⟨he, ⟨_, by rw [segs_succ, List.map_append, e]; rfl, h1⟩⟩)
    W ⟨later hW h.1, pairs_later h.2 hW⟩ ⟨[], rfl, h0⟩).mono ?_
  rintro e W' ⟨he, ⟨qs, e1, hj⟩ | ⟨pre, _, qs, _, hj⟩⟩
  · exact ⟨he, .inl ⟨qs, e1, hj⟩⟩
  · exact ⟨he, .inr ⟨qs, trivial, hj⟩⟩
end Go.Proofs.YtlpdbjkpgfpjjaaGreat
