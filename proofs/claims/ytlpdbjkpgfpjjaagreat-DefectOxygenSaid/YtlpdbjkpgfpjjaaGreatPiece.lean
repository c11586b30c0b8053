/-
  units.pieces, and what it returns: an iterator over the pieces of a table.
-/
import Derived.RangeFuncNested
import Derived.RangeFuncBound
import Derived.RangeFuncCalls
import Derived.RangeFuncLeaves
import Derived.Shelf.Abstract
import Derived.Shelf.RegionOpen
import Derived.WalkKit
import Derived.OwnWalkIn
import Derived.TacticsInMore
import Derived.LoopNIn
import Derived.LoopIn
import Derived.Sort.CutIn
import Derived.IntWalk
import Derived.Test.YtlpdbjkpgfpjjaaGreatBalG
namespace Go.Proofs.YtlpdbjkpgfpjjaaGreat
set_option linter.unusedSimpArgs false
set_option linter.unusedVariables false
open Go.RowKit Go.Shelf

attribute [local go_sem] Oper.semAt_some

abbrev Pc := (Int × Int) × (Int × Int)
def seg (ks : List (Int × Int)) (k : Nat) : Pc := (ks.getD k (0, 0), ks.getD (k + 1) (0, 0))
def segs (ks : List (Int × Int)) (k : Nat) : List Pc := (List.range k).map (seg ks)
theorem segs_succ (ks : List (Int × Int)) (k : Nat) : segs ks (k + 1) = segs ks k ++ [seg ks k] := by simp [segs, List.range_succ]
theorem segs_length (ks : List (Int × Int)) (k : Nat) : (segs ks k).length = k := by simp [segs]
def encP (x : Pc) : Array Value := #[.agg #[.int .i64 x.1.1, .int .i64 x.1.2, .int .i64 x.2.1, .int .i64 x.2.2]]
/-- What the iterator reads. -/
def PF (p : Addr) (a : Option Addr) (cap : Nat) (ks : List (Int × Int)) (w : World) : Prop := w.cell? p = some (.slice a ks.length cap) ∧ IsPairs w a ks
theorem grown_drew (w : World) : w.grownBy w.drew none := ⟨rfl, rfl, rfl, Nat.le_refl _, fun _ _ _ => rfl⟩

theorem pieces_in (n : Nat) (a : Option Addr) (len cap : Nat) (w : World) :
    CallsIn Fence.wide n Tryz.prog 94 #[.slice a len cap] w fun e w' => e = .returned (.func (.func 136) #[] #[.pointer (some ⟨w.heap.size, 0, none⟩)]) ∧ w' = w.alloc (.cells #[.slice a len cap] 56) := by
  refine callsIn_of_wp Tryz.func94 rfl trivial ?_ rfl
  simp only [Tryz.ntmps94, List.size_toArray, List.length_cons, List.length_nil, Nat.reduceAdd, Nat.reduceSub, Array.replicate_succ, Array.replicate_zero, List.push_toArray, List.append_toArray, List.nil_append, List.cons_append]
  gi_wp2
  go_ret
  exact ⟨rfl, rfl⟩

set_option maxRecDepth 100000 in
set_option maxHeartbeats 2000000 in
theorem pieces1_in (n : Nat) (hn : 1 ≤ n) (l : Nat) (p : Addr) (a : Option Addr) (cap : Nat) (ks : List (Int × Int)) (hreach : ks.length ≤ 8796093022208)
    (Kp : World → World → Prop) (hKf : ∀ A B, Kp A B → PF p a cap ks A → PF p a cap ks B) (J Jx : List Pc → World → Prop) (hJd : ∀ s W, J s W → J s W.drew)
    (hY : ∀ k W, k < ks.length - 1 → J (segs ks k) W → YieldAt Fence.wide (n - 1) Tryz.prog l (encP (seg ks k)) W fun e W' =>
      (e = .returned (.bool true) ∧ J (segs ks (k + 1)) W' ∧ Kp W W') ∨ (e = .returned (.bool false) ∧ Jx (segs ks (k + 1)) W'))
    (W : World) (hPF : PF p a cap ks W) (h0 : J [] W) :
    CallsIn Fence.wide n Tryz.prog 136 #[.func (.yield l) #[] #[], .pointer (some p)] W fun e W' => (∃ v, e = .returned v) ∧
      (J (segs ks (ks.length - 1)) W' ∨ (∃ pre, (∃ k, k ≤ ks.length - 1 ∧ pre = segs ks k) ∧ Jx pre W')) := by
  refine callsIn_of_wp Tryz.func136 rfl trivial ?_ rfl
  simp only [Tryz.ntmps136, List.size_toArray, List.length_cons, List.length_nil, Nat.reduceAdd, Nat.reduceSub, Array.replicate_succ, Array.replicate_zero, List.push_toArray, List.append_toArray, List.nil_append, List.cons_append]
  have hmx : Tryz.prog.follows .mixedOrders = true := by kernel_rfl
  gi_wp2
  gi_loopw [3] (fun i wr => ∃ k : Nat, k ≤ ks.length - 1 ∧ i = .int .i64 ((k : Int) + 1) ∧ J (segs ks k) wr ∧ PF p a cap ks wr)
    (fun i _ => ks.length - (intOf i).toNat)
  case atStart => exact ⟨0, Nat.zero_le _, rfl, h0, hPF⟩
  case round =>
    obtain ⟨k, hk, rfl, hJs, hP⟩ := hrel
    obtain ⟨hbx, hps⟩ := id hP
    by_cases hlt : k + 1 < ks.length
    · obtain ⟨b, off, rfl, hc⟩ : ∃ b off, a = some ⟨b, off, none⟩ ∧ ∀ i, i < ks.length → wr.cell? ⟨b, off + i * 2, none⟩ = some (.int .i64 (ks.getD i (0, 0)).1) ∧ wr.cell? ⟨b, off + i * 2 + 1, none⟩ = some (.int .i64 (ks.getD i (0, 0)).2) := by
        rcases hps with h | h
        · subst h; simp at hlt
        · exact h
      obtain ⟨c1, c2⟩ := hc k (by omega)
      obtain ⟨c3, c4⟩ := hc (k + 1) hlt
      obtain ⟨fn, tmps, assign, body, hy, hR⟩ := hY k wr.drew (by omega) (hJd _ _ hJs)
      have hss := segs_succ ks k
      obtain ⟨⟨⟨x0, y0⟩, ⟨x1, y1⟩⟩, hs⟩ : ∃ v, seg ks k = v := ⟨_, rfl⟩
      have hs' := hs
      simp only [seg, Prod.mk.injEq] at hs'
      rw [hs'.1] at c1 c2
      rw [hs'.2] at c3 c4
      rw [hs] at hy hss
      clear hs hs' hY hc
      have hR1 := hR.mono (R' := fun e W' => ∃ v, e = .returned (.bool v) ∧ ((v = true ∧ J (segs ks (k + 1)) W' ∧ Kp wr.drew W') ∨ (v = false ∧ Jx (segs ks (k + 1)) W'))) (by
        rintro e W3 (⟨rfl, h⟩ | ⟨rfl, h⟩)
        · exact ⟨_, rfl, .inl ⟨rfl, h⟩⟩
        · exact ⟨_, rfl, .inr ⟨rfl, h⟩⟩)
      clear hR
      have hwk : IntKind.wrap .i64 (k : Int) = k := IntWalk.i64_in _ (by omega)
      have hlt' : (k : Int) < ks.length := by omega
      have hlt2 : (k : Int) + 1 < ks.length := by omega
      dsimp only [encP] at hy
      gi_wp2
      gi_cut [22] from 4 (fun v W' => (v = .bool false ∧ J (segs ks (k + 1)) W' ∧ PF p (some ⟨b, off, none⟩) cap ks W') ∨ (v = .bool true ∧ Jx (segs ks (k + 1)) W'))
      case first =>
        gi_region_with (refine hR1.mono ?_; rintro e W3 ⟨v, rfl, hv⟩)
        all_goals gi_wp2
        all_goals gi_meet
        all_goals (rcases hv with ⟨rfl, hJ3, hk3⟩ | ⟨rfl, hJx3⟩)
        all_goals first | exact .inl ⟨rfl, hJ3, hKf _ _ hk3 hP⟩ | exact .inr ⟨rfl, hJx3⟩
      case rest =>
        rcases hcut with ⟨rfl, hJ3, hP3⟩ | ⟨rfl, hJx3⟩
        · gi_wp2
          go_roundw
          case rel => exact ⟨k + 1, by omega, by simp, hJ3, hP3⟩
          case measure => simp [intOf]; omega
        · gi_wp2
          refine bodyPost_ret (results_none rfl _ _ _) rfl ?_
          exact ⟨⟨_, rfl⟩, .inr ⟨_, ⟨k + 1, by omega, rfl⟩, hJx3⟩⟩
    · obtain rfl : k = ks.length - 1 := by omega
      gi_wp2
      go_end0
      exact ⟨⟨_, rfl⟩, .inl hJs⟩
end Go.Proofs.YtlpdbjkpgfpjjaaGreat
