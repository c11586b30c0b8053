/-
  units.pieces, and what it returns: an iterator over the pieces of a table. units.piece: across, turned, at. units.piece.where. units.piece.where, on a slope; and for any piece. units.piece.where, for any piece. units: isTable. units: validTables. units.CheckTable. units.pieces' iterator, as a contract. A region that draws its order, in a round of a loop over an iterator: what 'wpAnyH' says of it, its fenced twin says.
-/
import Derived.RangeFuncNested
import Derived.RangeFuncBound
import Derived.RangeFuncCalls
import Derived.RangeFuncLeaves
import Derived.Shelf.Abstract
import Derived.Shelf.RegionOpen
import Derived.WalkKit
import Derived.OwnWalkIn
import Derived.TacticsInMore
import Derived.LoopNIn
import Derived.LoopIn
import Derived.Sort.CutIn
import Derived.IntWalk
import Derived.Test.YtimfbjnpalgmcaaGreatBalG
import Derived.Deep.RegionHeld3
import Derived.Deep.DeepCutAuto
import Derived.BigQuiet
namespace Go.Proofs.YtimfbjnpalgmcaaGreat
set_option linter.unusedSimpArgs false
set_option linter.unusedVariables false
open Go.RowKit Go.Shelf

attribute [local go_sem] Oper.semAt_some

abbrev Pc := (Int × Int) × (Int × Int)
def seg (ks : List (Int × Int)) (k : Nat) : Pc := (ks.getD k (0, 0), ks.getD (k + 1) (0, 0))
def segs (ks : List (Int × Int)) (k : Nat) : List Pc := (List.range k).map (seg ks)
theorem segs_succ (ks : List (Int × Int)) (k : Nat) : segs ks (k + 1) = segs ks k ++ [seg ks k] := by simp [segs, List.range_succ]
theorem segs_length (ks : List (Int × Int)) (k : Nat) : (segs ks k).length = k := by simp [segs]
def encP (x : Pc) : Array Value := #[.agg #[.int .i64 x.1.1, .int .i64 x.1.2, .int .i64 x.2.1, .int .i64 x.2.2]]
/-- What the iterator reads. -/
def PF (p : Addr) (a : Option Addr) (cap : Nat) (ks : List (Int × Int)) (w : World) : Prop := w.cell? p = some (.slice a ks.length cap) ∧ IsPairs w a ks
theorem grown_drew (w : World) : w.grownBy w.drew none := ⟨rfl, rfl, rfl, Nat.le_refl _, fun _ _ _ => rfl⟩

theorem pieces_in (n : Nat) (a : Option Addr) (len cap : Nat) (w : World) :
    CallsIn Fence.wide n Tryz.prog 94 #[.slice a len cap] w fun e w' => e = .returned (.func (.func 136) #[] #[.pointer (some ⟨w.heap.size, 0, none⟩)]) ∧ w' = w.alloc (.cells #[.slice a len cap] 56) := by
  refine callsIn_of_wp Tryz.func94 rfl trivial ?_ rfl
  simp only [Tryz.ntmps94, List.size_toArray, List.length_cons, List.length_nil, Nat.reduceAdd, Nat.reduceSub, Array.replicate_succ, Array.replicate_zero, List.push_toArray, List.append_toArray, List.nil_append, List.cons_append]
  gi_wp2
  go_ret
  exact ⟨rfl, rfl⟩

set_option maxRecDepth 100000 in
set_option maxHeartbeats 2000000 in
theorem pieces1_in (n : Nat) (hn : 1 ≤ n) (l : Nat) (p : Addr) (a : Option Addr) (cap : Nat) (ks : List (Int × Int)) (hreach : ks.length ≤ 8796093022208)
    (Kp : World → World → Prop) (hKf : ∀ A B, Kp A B → PF p a cap ks A → PF p a cap ks B) (J Jx : List Pc → World → Prop) (hJd : ∀ s W, J s W → J s W.drew)
    (hY : ∀ k W, k < ks.length - 1 → J (segs ks k) W → YieldAt Fence.wide (n - 1) Tryz.prog l (encP (seg ks k)) W fun e W' =>
      (e = .returned (.bool true) ∧ J (segs ks (k + 1)) W' ∧ Kp W W') ∨ (e = .returned (.bool false) ∧ Jx (segs ks (k + 1)) W'))
    (W : World) (hPF : PF p a cap ks W) (h0 : J [] W) :
    CallsIn Fence.wide n Tryz.prog 136 #[.func (.yield l) #[] #[], .pointer (some p)] W fun e W' => (∃ v, e = .returned v) ∧
      (J (segs ks (ks.length - 1)) W' ∨ (∃ pre, (∃ k, k ≤ ks.length - 1 ∧ pre = segs ks k) ∧ Jx pre W')) := by
  refine callsIn_of_wp Tryz.func136 rfl trivial ?_ rfl
  simp only [Tryz.ntmps136, List.size_toArray, List.length_cons, List.length_nil, Nat.reduceAdd, Nat.reduceSub, Array.replicate_succ, Array.replicate_zero, List.push_toArray, List.append_toArray, List.nil_append, List.cons_append]
  have hmx : Tryz.prog.follows .mixedOrders = true := by kernel_rfl
  gi_wp2
  gi_loopw [3] (fun i wr => ∃ k : Nat, k ≤ ks.length - 1 ∧ i = .int .i64 ((k : Int) + 1) ∧ J (segs ks k) wr ∧ PF p a cap ks wr)
    (fun i _ => ks.length - (intOf i).toNat)
  case atStart => exact ⟨0, Nat.zero_le _, rfl, h0, hPF⟩
  case round =>
    obtain ⟨k, hk, rfl, hJs, hP⟩ := hrel
    obtain ⟨hbx, hps⟩ := id hP
    by_cases hlt : k + 1 < ks.length
    · obtain ⟨b, off, rfl, hc⟩ : ∃ b off, a = some ⟨b, off, none⟩ ∧ ∀ i, i < ks.length → wr.cell? ⟨b, off + i * 2, none⟩ = some (.int .i64 (ks.getD i (0, 0)).1) ∧ wr.cell? ⟨b, off + i * 2 + 1, none⟩ = some (.int .i64 (ks.getD i (0, 0)).2) := by
        rcases hps with h | h
        · subst h; simp at hlt
        · exact h
      obtain ⟨c1, c2⟩ := hc k (by omega)
      obtain ⟨c3, c4⟩ := hc (k + 1) hlt
      obtain ⟨fn, tmps, assign, body, hy, hR⟩ := hY k wr.drew (by omega) (hJd _ _ hJs)
      have hss := segs_succ ks k
      obtain ⟨⟨⟨x0, y0⟩, ⟨x1, y1⟩⟩, hs⟩ : ∃ v, seg ks k = v := ⟨_, rfl⟩
      have hs' := hs
      simp only [seg, Prod.mk.injEq] at hs'
      rw [hs'.1] at c1 c2
      rw [hs'.2] at c3 c4
      rw [hs] at hy hss
      clear hs hs' hY hc
      have hR1 := hR.mono (R' := fun e W' => ∃ v, e = .returned (.bool v) ∧ ((v = true ∧ J (segs ks (k + 1)) W' ∧ Kp wr.drew W') ∨ (v = false ∧ Jx (segs ks (k + 1)) W'))) (by
        rintro e W3 (⟨rfl, h⟩ | ⟨rfl, h⟩)
        · exact ⟨_, rfl, .inl ⟨rfl, h⟩⟩
        · exact ⟨_, rfl, .inr ⟨rfl, h⟩⟩)
      clear hR
      have hwk : IntKind.wrap .i64 (k : Int) = k := IntWalk.i64_in _ (by omega)
      have hlt' : (k : Int) < ks.length := by omega
      have hlt2 : (k : Int) + 1 < ks.length := by omega
      dsimp only [encP] at hy
      gi_wp2
      gi_cut [22] from 4 (fun v W' => (v = .bool false ∧ J (segs ks (k + 1)) W' ∧ PF p (some ⟨b, off, none⟩) cap ks W') ∨ (v = .bool true ∧ Jx (segs ks (k + 1)) W'))
      case first =>
        gi_region_with (refine hR1.mono ?_; rintro e W3 ⟨v, rfl, hv⟩)
        all_goals gi_wp2
        all_goals gi_meet
        all_goals (rcases hv with ⟨rfl, hJ3, hk3⟩ | ⟨rfl, hJx3⟩)
        all_goals first | exact .inl ⟨rfl, hJ3, hKf _ _ hk3 hP⟩ | exact .inr ⟨rfl, hJx3⟩
      case rest =>
        rcases hcut with ⟨rfl, hJ3, hP3⟩ | ⟨rfl, hJx3⟩
        · gi_wp2
          go_roundw
          case rel => exact ⟨k + 1, by omega, by simp, hJ3, hP3⟩
          case measure => simp [intOf]; omega
        · gi_wp2
          refine bodyPost_ret (results_none rfl _ _ _) rfl ?_
          exact ⟨⟨_, rfl⟩, .inr ⟨_, ⟨k + 1, by omega, rfl⟩, hJx3⟩⟩
    · obtain rfl : k = ks.length - 1 := by omega
      gi_wp2
      go_end0
      exact ⟨⟨_, rfl⟩, .inl hJs⟩
end Go.Proofs.YtimfbjnpalgmcaaGreat

namespace Go.Proofs.YtimfbjnpalgmcaaGreat
set_option linter.unusedSimpArgs false
set_option linter.unusedVariables false
open Go.RowKit

set_option maxHeartbeats 400000 in
theorem across_any (x0 y0 x1 y1 : Int) (w : World) :
    Calls Tryz.prog 96 #[.agg #[.int .i64 x0, .int .i64 y0, .int .i64 x1, .int .i64 y1]] w fun e w' => e = .returned (.agg #[.int .i64 x0, .int .i64 x1]) ∧ Below w.heap.size w w' := by
  go_enter Tryz.func96, Tryz.ntmps96
  go_wp2
  exact bodyPost_ret (v := .agg #[.int .i64 x0, .int .i64 x1]) (by simp [results, Tryz.results96, go_sem]) rfl ⟨rfl, (by repeat (first | exact Below.refl _ _ | assumption | apply balloc | apply bdrew | (refine below_drewN ?_ _) | (refine bset ?_ (by first | (simp; done) | omega | (simp; omega)) _) | (refine bnext ?_ (by assumption))))⟩

/-- The value of a piece at x, rounded. -/
def atQ (x0 y0 x1 y1 x how : Int) : Int := y0 + (divQ ((y1 - y0) * (x - x0)) (x1 - x0) how).1

set_option maxHeartbeats 1600000 in
theorem at_any (x0 y0 x1 y1 x how : Int) (w : World) (hy : -1000000000000000 ≤ y1 - y0 ∧ y1 - y0 ≤ 1000000000000000) (hx : -1000000000000000 ≤ x - x0 ∧ x - x0 ≤ 1000000000000000) (hc : 1 ≤ x1 - x0 ∧ x1 - x0 ≤ 1000000000000000)
    (hr : ∀ v, v = (divQ ((y1 - y0) * (x - x0)) (x1 - x0) how).1 → -9223372036854775808 ≤ y0 + v ∧ y0 + v ≤ 9223372036854775807) :
    Calls Tryz.prog 99 #[.agg #[.int .i64 x0, .int .i64 y0, .int .i64 x1, .int .i64 y1], .int .i64 x, .int .u8 how] w fun e w' => e = .returned (.int .i64 (atQ x0 y0 x1 y1 x how)) ∧ Below w.heap.size w w' := by
  have P := prod_abs hy.1 hy.2 hx.1 hx.2
  have M := fun w => product_any (y1 - y0) (x - x0) w hy.1 hy.2 hx.1 hx.2
  have D := fun w => divide_any how ((y1 - y0) * (x - x0)) (x1 - x0) w P.1 P.2 hc.1 hc.2
  unfold Div at D
  unfold atQ
  have e1 : IntKind.i64.wrap (y1 - y0) = y1 - y0 := IntWalk.i64_in _ (by omega)
  have e2 : IntKind.i64.wrap (x - x0) = x - x0 := IntWalk.i64_in _ (by omega)
  have e3 : IntKind.i64.wrap (x1 - x0) = x1 - x0 := IntWalk.i64_in _ (by omega)
  generalize divQ ((y1 - y0) * (x - x0)) (x1 - x0) how = d at *
  obtain ⟨n, r, k⟩ := d
  simp only at D
  have e4 : IntKind.i64.wrap (y0 + n) = y0 + n := IntWalk.i64_in _ (hr n rfl)
  generalize (y1 - y0) * (x - x0) = N at *
  have M' := hide M
  have D' := hide D
  clear D M P hr hy hx hc
  go_enter Tryz.func99, Tryz.ntmps99
  go_wp2_with fail
  go_region_held3 (fun w' => w'.cell? ⟨w.heap.size, 0, none⟩ = some (.int .i64 x0) ∧ w'.cell? ⟨w.heap.size, 1, none⟩ = some (.int .i64 y0) ∧ w'.cell? ⟨w.heap.size, 2, none⟩ = some (.int .i64 x1) ∧ w'.cell? ⟨w.heap.size, 3, none⟩ = some (.int .i64 y1) ∧ Below w.heap.size w w')
    (first | (refine ⟨?_, ?_, ?_, ?_, bdrew (balloc (Below.refl _ _))⟩ <;> simp [go_sem, World.cell?_alloc_past]; done) | (go_split_ands; exact ⟨later hb2 (by assumption), later hb2 (by assumption), later hb2 (by assumption), later hb2 (by assumption), bnext (by assumption) hb2⟩) | go_keep)
    (first
      | (go_at_call 105; refine (M'.out _).mono ?_; rintro e w2 ⟨rfl, hb2⟩)
      | (go_at_call 106; refine (D'.out _).mono ?_; rintro e w2 ⟨rfl, hb2⟩))
  all_goals
    go_wp2
    go_ret
    exact ⟨rfl, (by repeat (first | exact Below.refl _ _ | assumption | apply balloc | apply bdrew | (refine below_drewN ?_ _) | (refine bset ?_ (by first | (simp; done) | omega | (simp; omega)) _) | (refine bnext ?_ (by assumption))))⟩
end Go.Proofs.YtimfbjnpalgmcaaGreat

namespace Go.Proofs.YtimfbjnpalgmcaaGreat
set_option linter.unusedSimpArgs false
set_option linter.unusedVariables false
open Go.RowKit

/-- What the walk through where reads behind a call. -/
def WSt (n : Nat) (x0 y0 x1 y1 l h : Int) (w : World) : Prop :=
  (w.cell? ⟨n, 0, none⟩ = some (.int .i64 x0) ∧ w.cell? ⟨n, 1, none⟩ = some (.int .i64 y0) ∧ w.cell? ⟨n, 2, none⟩ = some (.int .i64 x1) ∧ w.cell? ⟨n, 3, none⟩ = some (.int .i64 y1)) ∧
  (w.cell? ⟨n + 1, 0, none⟩ = some (.int .i64 l) ∧ w.cell? ⟨n + 1, 1, none⟩ = some (.int .i64 h) ∧ w.frozen? ⟨n + 1, 0, none⟩ = false ∧ w.frozen? ⟨n + 1, 1, none⟩ = false) ∧
  w.cell? ⟨n + 1 + 1, 0, none⟩ = some (.int .i64 0) ∧ w.cell? ⟨n + 1 + 1, 1, none⟩ = some (.int .i64 0) ∧ w.frozen? ⟨n + 1 + 1, 0, none⟩ = false ∧ w.frozen? ⟨n + 1 + 1, 1, none⟩ = false
theorem wst_later {n : Nat} {x0 y0 x1 y1 l h : Int} {w W : World} (s : WSt n x0 y0 x1 y1 l h w) (hb : Below w.heap.size w W) : WSt n x0 y0 x1 y1 l h W := by
  obtain ⟨⟨h1, h2, h3, h4⟩, ⟨h5, h6, h7, h8⟩, h9, h10, h11, h12⟩ := s
  exact ⟨⟨later hb h1, later hb h2, later hb h3, later hb h4⟩, ⟨later hb h5, later hb h6, free_later hb h5 h7, free_later hb h6 h8⟩, later hb h9, later hb h10, free_later hb h9 h11, free_later hb h10 h12⟩

end Go.Proofs.YtimfbjnpalgmcaaGreat

namespace Go.Proofs.YtimfbjnpalgmcaaGreat
set_option linter.unusedSimpArgs false
set_option linter.unusedVariables false
open Go.RowKit

end Go.Proofs.YtimfbjnpalgmcaaGreat

namespace Go.Proofs.YtimfbjnpalgmcaaGreat
set_option linter.unusedSimpArgs false
set_option linter.unusedVariables false
open Go.RowKit

theorem divQ_bounds (N c how : Int) (h0 : 1 ≤ c) (h1 : c ≤ 1000000000000000) : -2000000000000000 ≤ (divQ N c how).1 ∧ (divQ N c how).1 ≤ 2000000000000000 := by
  have B := floorQ_bounds N c h0 h1
  unfold divQ
  generalize floorQ N c = f at *
  split
  · simp
  · split
    · simp only; omega
    · simp only; omega

/-- Where the value of a piece that doesn't fall is in a range. -/
def whereUp (x0 y0 x1 y1 lo hi : Int) : (Int × Int) × Bool :=
  if ¬ max lo y0 ≤ min hi y1 then ((0, 0), false)
  else if y0 = y1 then ((x0, x1), true)
  else ((x0 + (divQ ((max lo y0 - y0) * (x1 - x0)) (y1 - y0) 2).1, x0 + (divQ ((min hi y1 - y0) * (x1 - x0)) (y1 - y0) 1).1),
    decide ((divQ ((max lo y0 - y0) * (x1 - x0)) (y1 - y0) 2).1 ≤ (divQ ((min hi y1 - y0) * (x1 - x0)) (y1 - y0) 1).1))
def whereQ (x0 y0 x1 y1 lo hi : Int) : (Int × Int) × Bool := if y1 < y0 then whereUp x0 (-y0) x1 (-y1) (-hi) (-lo) else whereUp x0 y0 x1 y1 lo hi

end Go.Proofs.YtimfbjnpalgmcaaGreat

namespace Go.Proofs.YtimfbjnpalgmcaaGreat
set_option linter.unusedSimpArgs false
set_option linter.unusedVariables false
open Go.RowKit

def knotOk (ks : List (Int × Int)) (k : Nat) : Bool := allIn 1000000000000 [(ks.getD k (0, 0)).1, (ks.getD k (0, 0)).2] && (decide (k = 0) || decide ((ks.getD (k - 1) (0, 0)).1 < (ks.getD k (0, 0)).1))
def tabOk (ks : List (Int × Int)) : Bool := decide (2 ≤ ks.length) && (decide (ks.length ≤ 60) && (List.range ks.length).all (knotOk ks))

theorem ints_drew {w : World} {a : Option Addr} {zs : List Int} (h : IsInts w a zs) : IsInts w.drew a zs := h
theorem range_step {f : Nat → Bool} {k : Nat} (h : (List.range k).all f = true) (h1 : f k = true) : (List.range (k + 1)).all f = true := by
  rw [List.range_succ, List.all_append, h]; simp [h1]
theorem range_stop {f : Nat → Bool} {k n : Nat} (hk : k < n) (h1 : f k = false) : (List.range n).all f = false := by
  rw [List.all_eq_false]; exact ⟨k, by simpa using hk, by simp [h1]⟩

set_option maxHeartbeats 16000000 in
theorem isTable_any (a : Option Addr) (cap : Nat) (ks : List (Int × Int)) (w : World) (hl : ks.length ≤ 8796093022208) (h : IsPairs w a ks) :
    Calls Tryz.prog 134 #[.slice a ks.length cap] w fun e w' => e = .returned (.bool (tabOk ks)) ∧ Below w.heap.size w w' := by
  have hd : Hid (IsPairs w a ks) := h
  clear h
  by_cases h1 : ks.length < 2
  · have E : tabOk ks = false := by simp [tabOk]; omega
    have h1' : (ks.length : Int) < 2 := by omega
    go_enter Tryz.func134, Tryz.ntmps134
    go_wp2
    go_ret
    first | exact ⟨ret_bool E.symm, (by repeat (first | exact Below.refl _ _ | assumption | apply balloc | apply bdrew | (refine below_drewN ?_ _) | (refine bset ?_ (by first | (simp; done) | omega | (simp; omega)) _) | (refine bnext ?_ (by assumption))))⟩ | exact ⟨rfl, (by repeat (first | exact Below.refl _ _ | assumption | apply balloc | apply bdrew | (refine below_drewN ?_ _) | (refine bset ?_ (by first | (simp; done) | omega | (simp; omega)) _) | (refine bnext ?_ (by assumption))))⟩
  by_cases h2 : 60 < ks.length
  · have E : tabOk ks = false := by simp [tabOk]; omega
    have h1' : ¬ (ks.length : Int) < 2 := by omega
    have h2' : (60 : Int) < (ks.length : Int) := by omega
    go_enter Tryz.func134, Tryz.ntmps134
    go_wp2
    go_ret
    first | exact ⟨ret_bool E.symm, (by repeat (first | exact Below.refl _ _ | assumption | apply balloc | apply bdrew | (refine below_drewN ?_ _) | (refine bset ?_ (by first | (simp; done) | omega | (simp; omega)) _) | (refine bnext ?_ (by assumption))))⟩ | exact ⟨rfl, (by repeat (first | exact Below.refl _ _ | assumption | apply balloc | apply bdrew | (refine below_drewN ?_ _) | (refine bset ?_ (by first | (simp; done) | omega | (simp; omega)) _) | (refine bnext ?_ (by assumption))))⟩
  have E : tabOk ks = (List.range ks.length).all (knotOk ks) := by simp [tabOk, show 2 ≤ ks.length by omega, show ks.length ≤ 60 by omega]
  rw [E]
  have h1' : ¬ (ks.length : Int) < 2 := by omega
  have h2' : ¬ (60 : Int) < (ks.length : Int) := by omega
  go_enter Tryz.func134, Tryz.ntmps134
  go_wp2
  go_loopw [15] (fun i wr => ∃ k : Nat, k ≤ ks.length ∧ i = .int .i64 (k : Int) ∧ (List.range k).all (knotOk ks) = true ∧ Below w.heap.size w wr) (fun i _ => ks.length - (intOf i).toNat)
  case atStart => exact ⟨0, by omega, rfl, rfl, Below.refl _ _⟩
  case round =>
    obtain ⟨k, hk, rfl, hall, hbw⟩ := hrel
    have Hall := hide hall
    clear hall
    by_cases hlt : k < ks.length
    · obtain ⟨b, off, rfl, hc⟩ : ∃ b off, a = some ⟨b, off, none⟩ ∧ ∀ i, i < ks.length → wr.cell? ⟨b, off + i * 2, none⟩ = some (.int .i64 (ks.getD i (0, 0)).1) ∧ wr.cell? ⟨b, off + i * 2 + 1, none⟩ = some (.int .i64 (ks.getD i (0, 0)).2) := by
        rcases pairs_later hd.out hbw with h | h
        · subst h; simp at hlt
        · exact h
      obtain ⟨c1, c2⟩ := hc k hlt
      obtain ⟨c3, _⟩ := hc (k - 1) (by omega)
      have hblk : b < wr.heap.size := World.block_lt_of_cell? _ _ c1
      clear hc
      have S1 := hide fun h => range_step (f := knotOk ks) (k := k) Hall.out h
      have S2 := hide fun h => range_stop (f := knotOk ks) hlt h
      have K : knotOk ks k = (allIn 1000000000000 [(ks.getD k (0, 0)).1, (ks.getD k (0, 0)).2] && (decide (k = 0) || decide ((ks.getD (k - 1) (0, 0)).1 < (ks.getD k (0, 0)).1))) := rfl
      generalize knotOk ks k = ok at *
      generalize ks.getD k (0, 0) = z at *
      generalize ks.getD (k - 1) (0, 0) = z' at *
      obtain ⟨x, y⟩ := z
      obtain ⟨x', y'⟩ := z'
      simp only at c1 c2 c3 K
      have C := fun w' hw => within_any 1000000000000 [x, y] (some ⟨wr.heap.size + 1, 0, none⟩) 2 w' hw (by omega) (by omega) (by simp)
      generalize allIn 1000000000000 [x, y] = g at *
      have C' := hide C
      clear C
      have K' := hide K
      clear K
      go_upto_region 6 with fail
      go_cut [41] from 20 (fun v w' => v = .bool (!ok) ∧ Below w.heap.size w w')
      case first =>
        cases g with
        | false =>
          obtain rfl : ok = false := by rw [K'.out]; rfl
          refine wp_region_held_drew (S := (fun w' => w'.cell? ⟨b, off + (k - 1) * 2, none⟩ = some (.int .i64 x') ∧ w'.cell? ⟨wr.heap.size, 0, none⟩ = some (.int .i64 x) ∧ w'.cell? ⟨wr.heap.size, 1, none⟩ = some (.int .i64 y) ∧ Below w.heap.size w w')) (by kernel_rfl) (by refine ⟨?_, ?_, ?_, bdrew (balloc hbw)⟩ <;> simp [go_sem, World.cell?_alloc_past, hblk, c3]) (fun hHeld => ?_)
          (refine wpAnyH_take (i := 0) (v := ?_) rfl (by kernel_rfl) (by kernel_rfl) (by kernel_rfl) (fun _ _ _ h => h) (Or.inl ⟨by kernel_rfl, ?_⟩) (by assumption) ?_; rotate_left; focus (intro w hSw; (try dsimp only at hSw); go_simp; try with_reducible rfl))
          (simp only [Act.put, List.getElem_toArray, List.getElem_cons_zero, List.getElem_cons_succ, List.setIfInBounds_toArray, List.set_cons_zero, List.set_cons_succ])
          (refine wpAnyH_take (i := 1) (v := ?_) rfl (by kernel_rfl) (by kernel_rfl) (by kernel_rfl) (fun _ _ _ h => h) (Or.inl ⟨by kernel_rfl, ?_⟩) (by assumption) ?_; rotate_left; focus (intro w hSw; (try dsimp only at hSw); go_simp; try with_reducible rfl))
          (simp only [Act.put, List.getElem_toArray, List.getElem_cons_zero, List.getElem_cons_succ, List.setIfInBounds_toArray, List.set_cons_zero, List.set_cons_succ])
          (refine wpAnyH_take (i := 2) (v := ?_) rfl (by kernel_rfl) (by kernel_rfl) (by kernel_rfl) (fun _ _ _ h => h) (Or.inl ⟨by kernel_rfl, ?_⟩) (by assumption) ?_; rotate_left; focus (intro w hSw; (try dsimp only at hSw); go_simp; try with_reducible rfl))
          (simp only [Act.put, List.getElem_toArray, List.getElem_cons_zero, List.getElem_cons_succ, List.setIfInBounds_toArray, List.set_cons_zero, List.set_cons_succ])
          (refine wpAnyH_take (i := 3) (v := ?_) rfl (by kernel_rfl) (by kernel_rfl) (by kernel_rfl) (fun _ _ _ h => h) (Or.inl ⟨by kernel_rfl, ?_⟩) (by assumption) ?_; rotate_left; focus (intro w hSw; (try dsimp only at hSw); go_simp; try with_reducible rfl))
          (simp only [Act.put, List.getElem_toArray, List.getElem_cons_zero, List.getElem_cons_succ, List.setIfInBounds_toArray, List.set_cons_zero, List.set_cons_succ])
          refine wpAnyH_ready (rs := [4]) (by kernel_rfl) (by simp) ?_
          refine AllReadyH.cons rfl (fun K hK => ?_) AllReadyH.nil
          go_simp
          refine hK.out _ _ ?_ (fun hHeld2 => ?_)
          · obtain ⟨q1, q2, q3, q4⟩ := hHeld; exact ⟨later (balloc (Below.refl _ _)) q1, later (balloc (Below.refl _ _)) q2, later (balloc (Below.refl _ _)) q3, balloc q4⟩
          clear hK K
          (try simp only [Act.put, List.setIfInBounds_toArray, List.set_cons_zero, List.set_cons_succ])
          refine wpAnyH_ready (rs := [5]) (by kernel_rfl) (by simp) ?_
          refine AllReadyH.cons rfl (fun K hK => ?_) AllReadyH.nil
          go_simp
          go_at_call 137; refine (C'.out _ (by first | exact ints_two_at (by simp) | exact ints_drew (ints_two_at (by simp)))).mono ?_; rintro e w' ⟨rfl, rfl⟩
          (try go_wp2_with fail)
          refine hK.out _ _ hHeld2 (fun hHeld3 => ?_)
          clear hK K
          (try simp only [Act.put, List.setIfInBounds_toArray, List.set_cons_zero, List.set_cons_succ])
          (refine wpAnyH_take (i := 6) (v := ?_) rfl (by kernel_rfl) (by kernel_rfl) (by kernel_rfl) (fun _ _ _ h => h) (Or.inl ⟨by kernel_rfl, ?_⟩) (by assumption) ?_; rotate_left; focus (intro w hSw; (try dsimp only at hSw); go_simp; try with_reducible rfl))
          (simp only [Act.put, List.getElem_toArray, List.getElem_cons_zero, List.getElem_cons_succ, List.setIfInBounds_toArray, List.set_cons_zero, List.set_cons_succ])
          (refine wpAnyH_take (i := 7) (v := ?_) rfl (by kernel_rfl) (by kernel_rfl) (by kernel_rfl) (fun _ _ _ h => h) (Or.inl ⟨by kernel_rfl, ?_⟩) (by assumption) ?_; rotate_left; focus (intro w hSw; (try dsimp only at hSw); go_simp; try with_reducible rfl))
          (simp only [Act.put, List.getElem_toArray, List.getElem_cons_zero, List.getElem_cons_succ, List.setIfInBounds_toArray, List.set_cons_zero, List.set_cons_succ])
          (refine wpAnyH_take (i := 8) (v := undef) rfl (by kernel_rfl) (by kernel_rfl) (by kernel_rfl) (fun _ _ _ h => h) (Or.inr ⟨by kernel_rfl, rfl⟩) (by assumption) ?_)
          (simp only [Act.put, List.getElem_toArray, List.getElem_cons_zero, List.getElem_cons_succ, List.setIfInBounds_toArray, List.set_cons_zero, List.set_cons_succ])
          (refine wpAnyH_take (i := 9) (v := undef) rfl (by kernel_rfl) (by kernel_rfl) (by kernel_rfl) (fun _ _ _ h => h) (Or.inr ⟨by kernel_rfl, rfl⟩) (by assumption) ?_)
          (simp only [Act.put, List.getElem_toArray, List.getElem_cons_zero, List.getElem_cons_succ, List.setIfInBounds_toArray, List.set_cons_zero, List.set_cons_succ])
          (refine wpAnyH_take (i := 10) (v := undef) rfl (by kernel_rfl) (by kernel_rfl) (by kernel_rfl) (fun _ _ _ h => h) (Or.inr ⟨by kernel_rfl, rfl⟩) (by assumption) ?_)
          (simp only [Act.put, List.getElem_toArray, List.getElem_cons_zero, List.getElem_cons_succ, List.setIfInBounds_toArray, List.set_cons_zero, List.set_cons_succ])
          (refine wpAnyH_take (i := 11) (v := undef) rfl (by kernel_rfl) (by kernel_rfl) (by kernel_rfl) (fun _ _ _ h => h) (Or.inr ⟨by kernel_rfl, rfl⟩) (by assumption) ?_)
          (simp only [Act.put, List.getElem_toArray, List.getElem_cons_zero, List.getElem_cons_succ, List.setIfInBounds_toArray, List.set_cons_zero, List.set_cons_succ])
          (refine wpAnyH_take (i := 12) (v := undef) rfl (by kernel_rfl) (by kernel_rfl) (by kernel_rfl) (fun _ _ _ h => h) (Or.inr ⟨by kernel_rfl, rfl⟩) (by assumption) ?_)
          (simp only [Act.put, List.getElem_toArray, List.getElem_cons_zero, List.getElem_cons_succ, List.setIfInBounds_toArray, List.set_cons_zero, List.set_cons_succ])
          (refine wpAnyH_take (i := 13) (v := undef) rfl (by kernel_rfl) (by kernel_rfl) (by kernel_rfl) (fun _ _ _ h => h) (Or.inr ⟨by kernel_rfl, rfl⟩) (by assumption) ?_)
          (simp only [Act.put, List.getElem_toArray, List.getElem_cons_zero, List.getElem_cons_succ, List.setIfInBounds_toArray, List.set_cons_zero, List.set_cons_succ])
          (refine wpAnyH_take (i := 14) (v := undef) rfl (by kernel_rfl) (by kernel_rfl) (by kernel_rfl) (fun _ _ _ h => h) (Or.inr ⟨by kernel_rfl, rfl⟩) (by assumption) ?_)
          (simp only [Act.put, List.getElem_toArray, List.getElem_cons_zero, List.getElem_cons_succ, List.setIfInBounds_toArray, List.set_cons_zero, List.set_cons_succ])
          (refine wpAnyH_take (i := 15) (v := undef) rfl (by kernel_rfl) (by kernel_rfl) (by kernel_rfl) (fun _ _ _ h => h) (Or.inr ⟨by kernel_rfl, rfl⟩) (by assumption) ?_)
          (simp only [Act.put, List.getElem_toArray, List.getElem_cons_zero, List.getElem_cons_succ, List.setIfInBounds_toArray, List.set_cons_zero, List.set_cons_succ])
          (refine wpAnyH_take (i := 16) (v := undef) rfl (by kernel_rfl) (by kernel_rfl) (by kernel_rfl) (fun _ _ _ h => h) (Or.inr ⟨by kernel_rfl, rfl⟩) (by assumption) ?_)
          (simp only [Act.put, List.getElem_toArray, List.getElem_cons_zero, List.getElem_cons_succ, List.setIfInBounds_toArray, List.set_cons_zero, List.set_cons_succ])
          (refine wpAnyH_take (i := 17) (v := undef) rfl (by kernel_rfl) (by kernel_rfl) (by kernel_rfl) (fun _ _ _ h => h) (Or.inr ⟨by kernel_rfl, rfl⟩) (by assumption) ?_)
          (simp only [Act.put, List.getElem_toArray, List.getElem_cons_zero, List.getElem_cons_succ, List.setIfInBounds_toArray, List.set_cons_zero, List.set_cons_succ])
          (refine wpAnyH_take (i := 18) (v := undef) rfl (by kernel_rfl) (by kernel_rfl) (by kernel_rfl) (fun _ _ _ h => h) (Or.inr ⟨by kernel_rfl, rfl⟩) (by assumption) ?_)
          (simp only [Act.put, List.getElem_toArray, List.getElem_cons_zero, List.getElem_cons_succ, List.setIfInBounds_toArray, List.set_cons_zero, List.set_cons_succ])
          (refine wpAnyH_take (i := 19) (v := undef) rfl (by kernel_rfl) (by kernel_rfl) (by kernel_rfl) (fun _ _ _ h => h) (Or.inr ⟨by kernel_rfl, rfl⟩) (by assumption) ?_)
          (simp only [Act.put, List.getElem_toArray, List.getElem_cons_zero, List.getElem_cons_succ, List.setIfInBounds_toArray, List.set_cons_zero, List.set_cons_succ])
          (refine wpAnyH_take (i := 20) (v := undef) rfl (by kernel_rfl) (by kernel_rfl) (by kernel_rfl) (fun _ _ _ h => h) (Or.inr ⟨by kernel_rfl, rfl⟩) (by assumption) ?_)
          (simp only [Act.put, List.getElem_toArray, List.getElem_cons_zero, List.getElem_cons_succ, List.setIfInBounds_toArray, List.set_cons_zero, List.set_cons_succ])
          (refine wpAnyH_take (i := 21) (v := ?_) rfl (by kernel_rfl) (by kernel_rfl) (by kernel_rfl) (fun _ _ _ h => h) (Or.inl ⟨by kernel_rfl, ?_⟩) (by assumption) ?_; rotate_left; focus (intro w hSw; (try dsimp only at hSw); go_simp; try with_reducible rfl))
          (simp only [Act.put, List.getElem_toArray, List.getElem_cons_zero, List.getElem_cons_succ, List.setIfInBounds_toArray, List.set_cons_zero, List.set_cons_succ])
          refine wpAnyH_done (by kernel_rfl) ?_ _
          go_wp2
          go_meet
          exact ⟨rfl, hHeld3.2.2.2⟩
        | true =>
          have K2 : ok = (decide (k = 0) || decide (x' < x)) := by rw [K'.out]; rfl
          by_cases k0 : k = 0
          · subst k0
            obtain rfl : ok = true := by rw [K2]; rfl
            clear K2 K'
            simp only [Nat.zero_sub, Nat.zero_mul, Nat.add_zero] at c3
            refine wp_region_held_drew (S := (fun w' => w'.cell? ⟨b, off, none⟩ = some (.int .i64 x') ∧ w'.cell? ⟨wr.heap.size, 0, none⟩ = some (.int .i64 x) ∧ w'.cell? ⟨wr.heap.size, 1, none⟩ = some (.int .i64 y) ∧ Below w.heap.size w w')) (by kernel_rfl) (by refine ⟨?_, ?_, ?_, bdrew (balloc hbw)⟩ <;> simp [go_sem, World.cell?_alloc_past, hblk, c3]) (fun hHeld => ?_)
            (refine wpAnyH_take (i := 0) (v := ?_) rfl (by kernel_rfl) (by kernel_rfl) (by kernel_rfl) (fun _ _ _ h => h) (Or.inl ⟨by kernel_rfl, ?_⟩) (by assumption) ?_; rotate_left; focus (intro w hSw; (try dsimp only at hSw); go_simp; try with_reducible rfl))
            (simp only [Act.put, List.getElem_toArray, List.getElem_cons_zero, List.getElem_cons_succ, List.setIfInBounds_toArray, List.set_cons_zero, List.set_cons_succ])
            (refine wpAnyH_take (i := 1) (v := ?_) rfl (by kernel_rfl) (by kernel_rfl) (by kernel_rfl) (fun _ _ _ h => h) (Or.inl ⟨by kernel_rfl, ?_⟩) (by assumption) ?_; rotate_left; focus (intro w hSw; (try dsimp only at hSw); go_simp; try with_reducible rfl))
            (simp only [Act.put, List.getElem_toArray, List.getElem_cons_zero, List.getElem_cons_succ, List.setIfInBounds_toArray, List.set_cons_zero, List.set_cons_succ])
            (refine wpAnyH_take (i := 2) (v := ?_) rfl (by kernel_rfl) (by kernel_rfl) (by kernel_rfl) (fun _ _ _ h => h) (Or.inl ⟨by kernel_rfl, ?_⟩) (by assumption) ?_; rotate_left; focus (intro w hSw; (try dsimp only at hSw); go_simp; try with_reducible rfl))
            (simp only [Act.put, List.getElem_toArray, List.getElem_cons_zero, List.getElem_cons_succ, List.setIfInBounds_toArray, List.set_cons_zero, List.set_cons_succ])
            (refine wpAnyH_take (i := 3) (v := ?_) rfl (by kernel_rfl) (by kernel_rfl) (by kernel_rfl) (fun _ _ _ h => h) (Or.inl ⟨by kernel_rfl, ?_⟩) (by assumption) ?_; rotate_left; focus (intro w hSw; (try dsimp only at hSw); go_simp; try with_reducible rfl))
            (simp only [Act.put, List.getElem_toArray, List.getElem_cons_zero, List.getElem_cons_succ, List.setIfInBounds_toArray, List.set_cons_zero, List.set_cons_succ])
            refine wpAnyH_ready (rs := [4]) (by kernel_rfl) (by simp) ?_
            refine AllReadyH.cons rfl (fun K hK => ?_) AllReadyH.nil
            go_simp
            refine hK.out _ _ ?_ (fun hHeld2 => ?_)
            · obtain ⟨q1, q2, q3, q4⟩ := hHeld; exact ⟨later (balloc (Below.refl _ _)) q1, later (balloc (Below.refl _ _)) q2, later (balloc (Below.refl _ _)) q3, balloc q4⟩
            clear hK K
            (try simp only [Act.put, List.setIfInBounds_toArray, List.set_cons_zero, List.set_cons_succ])
            refine wpAnyH_ready (rs := [5]) (by kernel_rfl) (by simp) ?_
            refine AllReadyH.cons rfl (fun K hK => ?_) AllReadyH.nil
            go_simp
            go_at_call 137; refine (C'.out _ (by first | exact ints_two_at (by simp) | exact ints_drew (ints_two_at (by simp)))).mono ?_; rintro e w' ⟨rfl, rfl⟩
            (try go_wp2_with fail)
            refine hK.out _ _ hHeld2 (fun hHeld3 => ?_)
            clear hK K
            (try simp only [Act.put, List.setIfInBounds_toArray, List.set_cons_zero, List.set_cons_succ])
            (refine wpAnyH_take (i := 6) (v := ?_) rfl (by kernel_rfl) (by kernel_rfl) (by kernel_rfl) (fun _ _ _ h => h) (Or.inl ⟨by kernel_rfl, ?_⟩) (by assumption) ?_; rotate_left; focus (intro w hSw; (try dsimp only at hSw); go_simp; try with_reducible rfl))
            (simp only [Act.put, List.getElem_toArray, List.getElem_cons_zero, List.getElem_cons_succ, List.setIfInBounds_toArray, List.set_cons_zero, List.set_cons_succ])
            (refine wpAnyH_take (i := 7) (v := ?_) rfl (by kernel_rfl) (by kernel_rfl) (by kernel_rfl) (fun _ _ _ h => h) (Or.inl ⟨by kernel_rfl, ?_⟩) (by assumption) ?_; rotate_left; focus (intro w hSw; (try dsimp only at hSw); go_simp; try with_reducible rfl))
            (simp only [Act.put, List.getElem_toArray, List.getElem_cons_zero, List.getElem_cons_succ, List.setIfInBounds_toArray, List.set_cons_zero, List.set_cons_succ])
            (refine wpAnyH_take (i := 8) (v := ?_) rfl (by kernel_rfl) (by kernel_rfl) (by kernel_rfl) (fun _ _ _ h => h) (Or.inl ⟨by kernel_rfl, ?_⟩) (by assumption) ?_; rotate_left; focus (intro w hSw; (try dsimp only at hSw); go_simp; try with_reducible rfl))
            (simp only [Act.put, List.getElem_toArray, List.getElem_cons_zero, List.getElem_cons_succ, List.setIfInBounds_toArray, List.set_cons_zero, List.set_cons_succ])
            (refine wpAnyH_take (i := 9) (v := ?_) rfl (by kernel_rfl) (by kernel_rfl) (by kernel_rfl) (fun _ _ _ h => h) (Or.inl ⟨by kernel_rfl, ?_⟩) (by assumption) ?_; rotate_left; focus (intro w hSw; (try dsimp only at hSw); go_simp; try with_reducible rfl))
            (simp only [Act.put, List.getElem_toArray, List.getElem_cons_zero, List.getElem_cons_succ, List.setIfInBounds_toArray, List.set_cons_zero, List.set_cons_succ])
            (refine wpAnyH_take (i := 10) (v := ?_) rfl (by kernel_rfl) (by kernel_rfl) (by kernel_rfl) (fun _ _ _ h => h) (Or.inl ⟨by kernel_rfl, ?_⟩) (by assumption) ?_; rotate_left; focus (intro w hSw; (try dsimp only at hSw); go_simp; try with_reducible rfl))
            (simp only [Act.put, List.getElem_toArray, List.getElem_cons_zero, List.getElem_cons_succ, List.setIfInBounds_toArray, List.set_cons_zero, List.set_cons_succ])
            (refine wpAnyH_take (i := 11) (v := undef) rfl (by kernel_rfl) (by kernel_rfl) (by kernel_rfl) (fun _ _ _ h => h) (Or.inr ⟨by kernel_rfl, rfl⟩) (by assumption) ?_)
            (simp only [Act.put, List.getElem_toArray, List.getElem_cons_zero, List.getElem_cons_succ, List.setIfInBounds_toArray, List.set_cons_zero, List.set_cons_succ])
            (refine wpAnyH_take (i := 12) (v := undef) rfl (by kernel_rfl) (by kernel_rfl) (by kernel_rfl) (fun _ _ _ h => h) (Or.inr ⟨by kernel_rfl, rfl⟩) (by assumption) ?_)
            (simp only [Act.put, List.getElem_toArray, List.getElem_cons_zero, List.getElem_cons_succ, List.setIfInBounds_toArray, List.set_cons_zero, List.set_cons_succ])
            (refine wpAnyH_take (i := 13) (v := undef) rfl (by kernel_rfl) (by kernel_rfl) (by kernel_rfl) (fun _ _ _ h => h) (Or.inr ⟨by kernel_rfl, rfl⟩) (by assumption) ?_)
            (simp only [Act.put, List.getElem_toArray, List.getElem_cons_zero, List.getElem_cons_succ, List.setIfInBounds_toArray, List.set_cons_zero, List.set_cons_succ])
            (refine wpAnyH_take (i := 14) (v := undef) rfl (by kernel_rfl) (by kernel_rfl) (by kernel_rfl) (fun _ _ _ h => h) (Or.inr ⟨by kernel_rfl, rfl⟩) (by assumption) ?_)
            (simp only [Act.put, List.getElem_toArray, List.getElem_cons_zero, List.getElem_cons_succ, List.setIfInBounds_toArray, List.set_cons_zero, List.set_cons_succ])
            (refine wpAnyH_take (i := 15) (v := undef) rfl (by kernel_rfl) (by kernel_rfl) (by kernel_rfl) (fun _ _ _ h => h) (Or.inr ⟨by kernel_rfl, rfl⟩) (by assumption) ?_)
            (simp only [Act.put, List.getElem_toArray, List.getElem_cons_zero, List.getElem_cons_succ, List.setIfInBounds_toArray, List.set_cons_zero, List.set_cons_succ])
            (refine wpAnyH_take (i := 16) (v := undef) rfl (by kernel_rfl) (by kernel_rfl) (by kernel_rfl) (fun _ _ _ h => h) (Or.inr ⟨by kernel_rfl, rfl⟩) (by assumption) ?_)
            (simp only [Act.put, List.getElem_toArray, List.getElem_cons_zero, List.getElem_cons_succ, List.setIfInBounds_toArray, List.set_cons_zero, List.set_cons_succ])
            (refine wpAnyH_take (i := 17) (v := undef) rfl (by kernel_rfl) (by kernel_rfl) (by kernel_rfl) (fun _ _ _ h => h) (Or.inr ⟨by kernel_rfl, rfl⟩) (by assumption) ?_)
            (simp only [Act.put, List.getElem_toArray, List.getElem_cons_zero, List.getElem_cons_succ, List.setIfInBounds_toArray, List.set_cons_zero, List.set_cons_succ])
            (refine wpAnyH_take (i := 18) (v := undef) rfl (by kernel_rfl) (by kernel_rfl) (by kernel_rfl) (fun _ _ _ h => h) (Or.inr ⟨by kernel_rfl, rfl⟩) (by assumption) ?_)
            (simp only [Act.put, List.getElem_toArray, List.getElem_cons_zero, List.getElem_cons_succ, List.setIfInBounds_toArray, List.set_cons_zero, List.set_cons_succ])
            (refine wpAnyH_take (i := 19) (v := undef) rfl (by kernel_rfl) (by kernel_rfl) (by kernel_rfl) (fun _ _ _ h => h) (Or.inr ⟨by kernel_rfl, rfl⟩) (by assumption) ?_)
            (simp only [Act.put, List.getElem_toArray, List.getElem_cons_zero, List.getElem_cons_succ, List.setIfInBounds_toArray, List.set_cons_zero, List.set_cons_succ])
            (refine wpAnyH_take (i := 20) (v := ?_) rfl (by kernel_rfl) (by kernel_rfl) (by kernel_rfl) (fun _ _ _ h => h) (Or.inl ⟨by kernel_rfl, ?_⟩) (by assumption) ?_; rotate_left; focus (intro w hSw; (try dsimp only at hSw); go_simp; try with_reducible rfl))
            (simp only [Act.put, List.getElem_toArray, List.getElem_cons_zero, List.getElem_cons_succ, List.setIfInBounds_toArray, List.set_cons_zero, List.set_cons_succ])
            (refine wpAnyH_take (i := 21) (v := ?_) rfl (by kernel_rfl) (by kernel_rfl) (by kernel_rfl) (fun _ _ _ h => h) (Or.inl ⟨by kernel_rfl, ?_⟩) (by assumption) ?_; rotate_left; focus (intro w hSw; (try dsimp only at hSw); go_simp; try with_reducible rfl))
            (simp only [Act.put, List.getElem_toArray, List.getElem_cons_zero, List.getElem_cons_succ, List.setIfInBounds_toArray, List.set_cons_zero, List.set_cons_succ])
            refine wpAnyH_done (by kernel_rfl) ?_ _
            go_wp2
            go_meet
            exact ⟨rfl, hHeld3.2.2.2⟩
          · obtain ⟨j, rfl⟩ : ∃ j, k = j + 1 := ⟨k - 1, by omega⟩
            simp only [Nat.add_sub_cancel] at c3
            have hwk : IntKind.wrap .i64 (j : Int) = j := IntWalk.i64_in _ (by omega)
            have hj0 : (0 : Int) < (j : Int) + 1 := by omega
            have hj1 : (j : Int) < ks.length := by omega
            have hne : b ≠ wr.heap.size := by omega
            by_cases hx : x' < x
            · obtain rfl : ok = true := by rw [K2]; simp [hx]
              have hx' : ¬ x ≤ x' := by omega
              have hd3 : decide (x ≤ x') = false := decide_eq_false hx'
              clear K2 K'
              refine wp_region_held_drew (S := (fun w' => w'.cell? ⟨b, off + j * 2, none⟩ = some (.int .i64 x') ∧ w'.cell? ⟨wr.heap.size, 0, none⟩ = some (.int .i64 x) ∧ w'.cell? ⟨wr.heap.size, 1, none⟩ = some (.int .i64 y) ∧ Below w.heap.size w w')) (by kernel_rfl) (by refine ⟨?_, ?_, ?_, bdrew (balloc hbw)⟩ <;> simp [go_sem, World.cell?_alloc_past, hblk, c3]) (fun hHeld => ?_)
              (refine wpAnyH_take (i := 0) (v := ?_) rfl (by kernel_rfl) (by kernel_rfl) (by kernel_rfl) (fun _ _ _ h => h) (Or.inl ⟨by kernel_rfl, ?_⟩) (by assumption) ?_; rotate_left; focus (intro w hSw; (try dsimp only at hSw); go_simp; try with_reducible rfl))
              (simp only [Act.put, List.getElem_toArray, List.getElem_cons_zero, List.getElem_cons_succ, List.setIfInBounds_toArray, List.set_cons_zero, List.set_cons_succ])
              (refine wpAnyH_take (i := 1) (v := ?_) rfl (by kernel_rfl) (by kernel_rfl) (by kernel_rfl) (fun _ _ _ h => h) (Or.inl ⟨by kernel_rfl, ?_⟩) (by assumption) ?_; rotate_left; focus (intro w hSw; (try dsimp only at hSw); go_simp; try with_reducible rfl))
              (simp only [Act.put, List.getElem_toArray, List.getElem_cons_zero, List.getElem_cons_succ, List.setIfInBounds_toArray, List.set_cons_zero, List.set_cons_succ])
              (refine wpAnyH_take (i := 2) (v := ?_) rfl (by kernel_rfl) (by kernel_rfl) (by kernel_rfl) (fun _ _ _ h => h) (Or.inl ⟨by kernel_rfl, ?_⟩) (by assumption) ?_; rotate_left; focus (intro w hSw; (try dsimp only at hSw); go_simp; try with_reducible rfl))
              (simp only [Act.put, List.getElem_toArray, List.getElem_cons_zero, List.getElem_cons_succ, List.setIfInBounds_toArray, List.set_cons_zero, List.set_cons_succ])
              (refine wpAnyH_take (i := 3) (v := ?_) rfl (by kernel_rfl) (by kernel_rfl) (by kernel_rfl) (fun _ _ _ h => h) (Or.inl ⟨by kernel_rfl, ?_⟩) (by assumption) ?_; rotate_left; focus (intro w hSw; (try dsimp only at hSw); go_simp; try with_reducible rfl))
              (simp only [Act.put, List.getElem_toArray, List.getElem_cons_zero, List.getElem_cons_succ, List.setIfInBounds_toArray, List.set_cons_zero, List.set_cons_succ])
              refine wpAnyH_ready (rs := [4]) (by kernel_rfl) (by simp) ?_
              refine AllReadyH.cons rfl (fun K hK => ?_) AllReadyH.nil
              go_simp
              refine hK.out _ _ ?_ (fun hHeld2 => ?_)
              · obtain ⟨q1, q2, q3, q4⟩ := hHeld; exact ⟨later (balloc (Below.refl _ _)) q1, later (balloc (Below.refl _ _)) q2, later (balloc (Below.refl _ _)) q3, balloc q4⟩
              clear hK K
              (try simp only [Act.put, List.setIfInBounds_toArray, List.set_cons_zero, List.set_cons_succ])
              refine wpAnyH_ready (rs := [5]) (by kernel_rfl) (by simp) ?_
              refine AllReadyH.cons rfl (fun K hK => ?_) AllReadyH.nil
              go_simp
              go_at_call 137; refine (C'.out _ (by first | exact ints_two_at (by simp) | exact ints_drew (ints_two_at (by simp)))).mono ?_; rintro e w' ⟨rfl, rfl⟩
              (try go_wp2_with fail)
              refine hK.out _ _ hHeld2 (fun hHeld3 => ?_)
              clear hK K
              (try simp only [Act.put, List.setIfInBounds_toArray, List.set_cons_zero, List.set_cons_succ])
              (refine wpAnyH_take (i := 6) (v := ?_) rfl (by kernel_rfl) (by kernel_rfl) (by kernel_rfl) (fun _ _ _ h => h) (Or.inl ⟨by kernel_rfl, ?_⟩) (by assumption) ?_; rotate_left; focus (intro w hSw; (try dsimp only at hSw); go_simp; try with_reducible rfl))
              (simp only [Act.put, List.getElem_toArray, List.getElem_cons_zero, List.getElem_cons_succ, List.setIfInBounds_toArray, List.set_cons_zero, List.set_cons_succ])
              (refine wpAnyH_take (i := 7) (v := ?_) rfl (by kernel_rfl) (by kernel_rfl) (by kernel_rfl) (fun _ _ _ h => h) (Or.inl ⟨by kernel_rfl, ?_⟩) (by assumption) ?_; rotate_left; focus (intro w hSw; (try dsimp only at hSw); go_simp; try with_reducible rfl))
              (simp only [Act.put, List.getElem_toArray, List.getElem_cons_zero, List.getElem_cons_succ, List.setIfInBounds_toArray, List.set_cons_zero, List.set_cons_succ])
              (refine wpAnyH_take (i := 8) (v := ?_) rfl (by kernel_rfl) (by kernel_rfl) (by kernel_rfl) (fun _ _ _ h => h) (Or.inl ⟨by kernel_rfl, ?_⟩) (by assumption) ?_; rotate_left; focus (intro w hSw; (try dsimp only at hSw); go_simp; try with_reducible rfl))
              (simp only [Act.put, List.getElem_toArray, List.getElem_cons_zero, List.getElem_cons_succ, List.setIfInBounds_toArray, List.set_cons_zero, List.set_cons_succ])
              (refine wpAnyH_take (i := 9) (v := ?_) rfl (by kernel_rfl) (by kernel_rfl) (by kernel_rfl) (fun _ _ _ h => h) (Or.inl ⟨by kernel_rfl, ?_⟩) (by assumption) ?_; rotate_left; focus (intro w hSw; (try dsimp only at hSw); go_simp; try with_reducible rfl))
              (simp only [Act.put, List.getElem_toArray, List.getElem_cons_zero, List.getElem_cons_succ, List.setIfInBounds_toArray, List.set_cons_zero, List.set_cons_succ])
              (refine wpAnyH_take (i := 10) (v := ?_) rfl (by kernel_rfl) (by kernel_rfl) (by kernel_rfl) (fun _ _ _ h => h) (Or.inl ⟨by kernel_rfl, ?_⟩) (by assumption) ?_; rotate_left; focus (intro w hSw; (try dsimp only at hSw); go_simp; try with_reducible rfl))
              (simp only [Act.put, List.getElem_toArray, List.getElem_cons_zero, List.getElem_cons_succ, List.setIfInBounds_toArray, List.set_cons_zero, List.set_cons_succ])
              (refine wpAnyH_take (i := 11) (v := ?_) rfl (by kernel_rfl) (by kernel_rfl) (by kernel_rfl) (fun _ _ _ h => h) (Or.inl ⟨by kernel_rfl, ?_⟩) (by assumption) ?_; rotate_left; focus (intro w hSw; (try dsimp only at hSw); go_simp; try with_reducible rfl))
              (simp only [Act.put, List.getElem_toArray, List.getElem_cons_zero, List.getElem_cons_succ, List.setIfInBounds_toArray, List.set_cons_zero, List.set_cons_succ])
              (refine wpAnyH_take (i := 12) (v := ?_) rfl (by kernel_rfl) (by kernel_rfl) (by kernel_rfl) (fun _ _ _ h => h) (Or.inl ⟨by kernel_rfl, ?_⟩) (by assumption) ?_; rotate_left; focus (intro w hSw; (try dsimp only at hSw); go_simp; try with_reducible rfl))
              (simp only [Act.put, List.getElem_toArray, List.getElem_cons_zero, List.getElem_cons_succ, List.setIfInBounds_toArray, List.set_cons_zero, List.set_cons_succ])
              (refine wpAnyH_take (i := 13) (v := ?_) rfl (by kernel_rfl) (by kernel_rfl) (by kernel_rfl) (fun _ _ _ h => h) (Or.inl ⟨by kernel_rfl, ?_⟩) (by assumption) ?_; rotate_left; focus (intro w hSw; (try dsimp only at hSw); go_simp; try with_reducible rfl))
              (simp only [Act.put, List.getElem_toArray, List.getElem_cons_zero, List.getElem_cons_succ, List.setIfInBounds_toArray, List.set_cons_zero, List.set_cons_succ])
              (refine wpAnyH_take (i := 14) (v := ?_) rfl (by kernel_rfl) (by kernel_rfl) (by kernel_rfl) (fun _ _ _ h => h) (Or.inl ⟨by kernel_rfl, ?_⟩) (by assumption) ?_; rotate_left; focus (intro w hSw; (try dsimp only at hSw); go_simp; try with_reducible rfl))
              (simp only [Act.put, List.getElem_toArray, List.getElem_cons_zero, List.getElem_cons_succ, List.setIfInBounds_toArray, List.set_cons_zero, List.set_cons_succ])
              (refine wpAnyH_take (i := 15) (v := ?_) rfl (by kernel_rfl) (by kernel_rfl) (by kernel_rfl) (fun _ _ _ h => h) (Or.inl ⟨by kernel_rfl, ?_⟩) (by assumption) ?_; rotate_left; focus (intro w hSw; (try dsimp only at hSw); go_simp; try with_reducible rfl))
              (simp only [Act.put, List.getElem_toArray, List.getElem_cons_zero, List.getElem_cons_succ, List.setIfInBounds_toArray, List.set_cons_zero, List.set_cons_succ])
              (refine wpAnyH_take (i := 16) (v := ?_) rfl (by kernel_rfl) (by kernel_rfl) (by kernel_rfl) (fun _ _ _ h => h) (Or.inl ⟨by kernel_rfl, ?_⟩) (by assumption) ?_; rotate_left; focus (intro w hSw; (try dsimp only at hSw); go_simp; try with_reducible rfl))
              (simp only [Act.put, List.getElem_toArray, List.getElem_cons_zero, List.getElem_cons_succ, List.setIfInBounds_toArray, List.set_cons_zero, List.set_cons_succ])
              (refine wpAnyH_take (i := 17) (v := ?_) rfl (by kernel_rfl) (by kernel_rfl) (by kernel_rfl) (fun _ _ _ h => h) (Or.inl ⟨by kernel_rfl, ?_⟩) (by assumption) ?_; rotate_left; focus (intro w hSw; (try dsimp only at hSw); go_simp; try with_reducible rfl))
              (simp only [Act.put, List.getElem_toArray, List.getElem_cons_zero, List.getElem_cons_succ, List.setIfInBounds_toArray, List.set_cons_zero, List.set_cons_succ])
              (refine wpAnyH_take (i := 18) (v := ?_) rfl (by kernel_rfl) (by kernel_rfl) (by kernel_rfl) (fun _ _ _ h => h) (Or.inl ⟨by kernel_rfl, ?_⟩) (by assumption) ?_; rotate_left; focus (intro w hSw; (try dsimp only at hSw); go_simp; try with_reducible rfl))
              (simp only [Act.put, List.getElem_toArray, List.getElem_cons_zero, List.getElem_cons_succ, List.setIfInBounds_toArray, List.set_cons_zero, List.set_cons_succ])
              (refine wpAnyH_take (i := 19) (v := ?_) rfl (by kernel_rfl) (by kernel_rfl) (by kernel_rfl) (fun _ _ _ h => h) (Or.inl ⟨by kernel_rfl, ?_⟩) (by assumption) ?_; rotate_left; focus (intro w hSw; (try dsimp only at hSw); go_simp; try with_reducible rfl))
              (simp only [Act.put, List.getElem_toArray, List.getElem_cons_zero, List.getElem_cons_succ, List.setIfInBounds_toArray, List.set_cons_zero, List.set_cons_succ])
              (refine wpAnyH_take (i := 20) (v := ?_) rfl (by kernel_rfl) (by kernel_rfl) (by kernel_rfl) (fun _ _ _ h => h) (Or.inl ⟨by kernel_rfl, ?_⟩) (by assumption) ?_; rotate_left; focus (intro w hSw; (try dsimp only at hSw); go_simp; try with_reducible rfl))
              (simp only [Act.put, List.getElem_toArray, List.getElem_cons_zero, List.getElem_cons_succ, List.setIfInBounds_toArray, List.set_cons_zero, List.set_cons_succ])
              (refine wpAnyH_take (i := 21) (v := ?_) rfl (by kernel_rfl) (by kernel_rfl) (by kernel_rfl) (fun _ _ _ h => h) (Or.inl ⟨by kernel_rfl, ?_⟩) (by assumption) ?_; rotate_left; focus (intro w hSw; (try dsimp only at hSw); go_simp; try with_reducible rfl))
              (simp only [Act.put, List.getElem_toArray, List.getElem_cons_zero, List.getElem_cons_succ, List.setIfInBounds_toArray, List.set_cons_zero, List.set_cons_succ])
              refine wpAnyH_done (by kernel_rfl) ?_ _
              clear hx hx' hwk hj0 hj1 hne c1 c2 c3 hblk
              go_wp2
              go_meet
              exact ⟨by first | rfl | (rw [hd3]; rfl), hHeld3.2.2.2⟩
            · obtain rfl : ok = false := by rw [K2]; simp [hx]
              have hx' : x ≤ x' := by omega
              have hd3 : decide (x ≤ x') = true := decide_eq_true hx'
              clear K2 K'
              refine wp_region_held_drew (S := (fun w' => w'.cell? ⟨b, off + j * 2, none⟩ = some (.int .i64 x') ∧ w'.cell? ⟨wr.heap.size, 0, none⟩ = some (.int .i64 x) ∧ w'.cell? ⟨wr.heap.size, 1, none⟩ = some (.int .i64 y) ∧ Below w.heap.size w w')) (by kernel_rfl) (by refine ⟨?_, ?_, ?_, bdrew (balloc hbw)⟩ <;> simp [go_sem, World.cell?_alloc_past, hblk, c3]) (fun hHeld => ?_)
              (refine wpAnyH_take (i := 0) (v := ?_) rfl (by kernel_rfl) (by kernel_rfl) (by kernel_rfl) (fun _ _ _ h => h) (Or.inl ⟨by kernel_rfl, ?_⟩) (by assumption) ?_; rotate_left; focus (intro w hSw; (try dsimp only at hSw); go_simp; try with_reducible rfl))
              (simp only [Act.put, List.getElem_toArray, List.getElem_cons_zero, List.getElem_cons_succ, List.setIfInBounds_toArray, List.set_cons_zero, List.set_cons_succ])
              (refine wpAnyH_take (i := 1) (v := ?_) rfl (by kernel_rfl) (by kernel_rfl) (by kernel_rfl) (fun _ _ _ h => h) (Or.inl ⟨by kernel_rfl, ?_⟩) (by assumption) ?_; rotate_left; focus (intro w hSw; (try dsimp only at hSw); go_simp; try with_reducible rfl))
              (simp only [Act.put, List.getElem_toArray, List.getElem_cons_zero, List.getElem_cons_succ, List.setIfInBounds_toArray, List.set_cons_zero, List.set_cons_succ])
              (refine wpAnyH_take (i := 2) (v := ?_) rfl (by kernel_rfl) (by kernel_rfl) (by kernel_rfl) (fun _ _ _ h => h) (Or.inl ⟨by kernel_rfl, ?_⟩) (by assumption) ?_; rotate_left; focus (intro w hSw; (try dsimp only at hSw); go_simp; try with_reducible rfl))
              (simp only [Act.put, List.getElem_toArray, List.getElem_cons_zero, List.getElem_cons_succ, List.setIfInBounds_toArray, List.set_cons_zero, List.set_cons_succ])
              (refine wpAnyH_take (i := 3) (v := ?_) rfl (by kernel_rfl) (by kernel_rfl) (by kernel_rfl) (fun _ _ _ h => h) (Or.inl ⟨by kernel_rfl, ?_⟩) (by assumption) ?_; rotate_left; focus (intro w hSw; (try dsimp only at hSw); go_simp; try with_reducible rfl))
              (simp only [Act.put, List.getElem_toArray, List.getElem_cons_zero, List.getElem_cons_succ, List.setIfInBounds_toArray, List.set_cons_zero, List.set_cons_succ])
              refine wpAnyH_ready (rs := [4]) (by kernel_rfl) (by simp) ?_
              refine AllReadyH.cons rfl (fun K hK => ?_) AllReadyH.nil
              go_simp
              refine hK.out _ _ ?_ (fun hHeld2 => ?_)
              · obtain ⟨q1, q2, q3, q4⟩ := hHeld; exact ⟨later (balloc (Below.refl _ _)) q1, later (balloc (Below.refl _ _)) q2, later (balloc (Below.refl _ _)) q3, balloc q4⟩
              clear hK K
              (try simp only [Act.put, List.setIfInBounds_toArray, List.set_cons_zero, List.set_cons_succ])
              refine wpAnyH_ready (rs := [5]) (by kernel_rfl) (by simp) ?_
              refine AllReadyH.cons rfl (fun K hK => ?_) AllReadyH.nil
              go_simp
              go_at_call 137; refine (C'.out _ (by first | exact ints_two_at (by simp) | exact ints_drew (ints_two_at (by simp)))).mono ?_; rintro e w' ⟨rfl, rfl⟩
              (try go_wp2_with fail)
              refine hK.out _ _ hHeld2 (fun hHeld3 => ?_)
              clear hK K
              (try simp only [Act.put, List.setIfInBounds_toArray, List.set_cons_zero, List.set_cons_succ])
              (refine wpAnyH_take (i := 6) (v := ?_) rfl (by kernel_rfl) (by kernel_rfl) (by kernel_rfl) (fun _ _ _ h => h) (Or.inl ⟨by kernel_rfl, ?_⟩) (by assumption) ?_; rotate_left; focus (intro w hSw; (try dsimp only at hSw); go_simp; try with_reducible rfl))
              (simp only [Act.put, List.getElem_toArray, List.getElem_cons_zero, List.getElem_cons_succ, List.setIfInBounds_toArray, List.set_cons_zero, List.set_cons_succ])
              (refine wpAnyH_take (i := 7) (v := ?_) rfl (by kernel_rfl) (by kernel_rfl) (by kernel_rfl) (fun _ _ _ h => h) (Or.inl ⟨by kernel_rfl, ?_⟩) (by assumption) ?_; rotate_left; focus (intro w hSw; (try dsimp only at hSw); go_simp; try with_reducible rfl))
              (simp only [Act.put, List.getElem_toArray, List.getElem_cons_zero, List.getElem_cons_succ, List.setIfInBounds_toArray, List.set_cons_zero, List.set_cons_succ])
              (refine wpAnyH_take (i := 8) (v := ?_) rfl (by kernel_rfl) (by kernel_rfl) (by kernel_rfl) (fun _ _ _ h => h) (Or.inl ⟨by kernel_rfl, ?_⟩) (by assumption) ?_; rotate_left; focus (intro w hSw; (try dsimp only at hSw); go_simp; try with_reducible rfl))
              (simp only [Act.put, List.getElem_toArray, List.getElem_cons_zero, List.getElem_cons_succ, List.setIfInBounds_toArray, List.set_cons_zero, List.set_cons_succ])
              (refine wpAnyH_take (i := 9) (v := ?_) rfl (by kernel_rfl) (by kernel_rfl) (by kernel_rfl) (fun _ _ _ h => h) (Or.inl ⟨by kernel_rfl, ?_⟩) (by assumption) ?_; rotate_left; focus (intro w hSw; (try dsimp only at hSw); go_simp; try with_reducible rfl))
              (simp only [Act.put, List.getElem_toArray, List.getElem_cons_zero, List.getElem_cons_succ, List.setIfInBounds_toArray, List.set_cons_zero, List.set_cons_succ])
              (refine wpAnyH_take (i := 10) (v := ?_) rfl (by kernel_rfl) (by kernel_rfl) (by kernel_rfl) (fun _ _ _ h => h) (Or.inl ⟨by kernel_rfl, ?_⟩) (by assumption) ?_; rotate_left; focus (intro w hSw; (try dsimp only at hSw); go_simp; try with_reducible rfl))
              (simp only [Act.put, List.getElem_toArray, List.getElem_cons_zero, List.getElem_cons_succ, List.setIfInBounds_toArray, List.set_cons_zero, List.set_cons_succ])
              (refine wpAnyH_take (i := 11) (v := ?_) rfl (by kernel_rfl) (by kernel_rfl) (by kernel_rfl) (fun _ _ _ h => h) (Or.inl ⟨by kernel_rfl, ?_⟩) (by assumption) ?_; rotate_left; focus (intro w hSw; (try dsimp only at hSw); go_simp; try with_reducible rfl))
              (simp only [Act.put, List.getElem_toArray, List.getElem_cons_zero, List.getElem_cons_succ, List.setIfInBounds_toArray, List.set_cons_zero, List.set_cons_succ])
              (refine wpAnyH_take (i := 12) (v := ?_) rfl (by kernel_rfl) (by kernel_rfl) (by kernel_rfl) (fun _ _ _ h => h) (Or.inl ⟨by kernel_rfl, ?_⟩) (by assumption) ?_; rotate_left; focus (intro w hSw; (try dsimp only at hSw); go_simp; try with_reducible rfl))
              (simp only [Act.put, List.getElem_toArray, List.getElem_cons_zero, List.getElem_cons_succ, List.setIfInBounds_toArray, List.set_cons_zero, List.set_cons_succ])
              (refine wpAnyH_take (i := 13) (v := ?_) rfl (by kernel_rfl) (by kernel_rfl) (by kernel_rfl) (fun _ _ _ h => h) (Or.inl ⟨by kernel_rfl, ?_⟩) (by assumption) ?_; rotate_left; focus (intro w hSw; (try dsimp only at hSw); go_simp; try with_reducible rfl))
              (simp only [Act.put, List.getElem_toArray, List.getElem_cons_zero, List.getElem_cons_succ, List.setIfInBounds_toArray, List.set_cons_zero, List.set_cons_succ])
              (refine wpAnyH_take (i := 14) (v := ?_) rfl (by kernel_rfl) (by kernel_rfl) (by kernel_rfl) (fun _ _ _ h => h) (Or.inl ⟨by kernel_rfl, ?_⟩) (by assumption) ?_; rotate_left; focus (intro w hSw; (try dsimp only at hSw); go_simp; try with_reducible rfl))
              (simp only [Act.put, List.getElem_toArray, List.getElem_cons_zero, List.getElem_cons_succ, List.setIfInBounds_toArray, List.set_cons_zero, List.set_cons_succ])
              (refine wpAnyH_take (i := 15) (v := ?_) rfl (by kernel_rfl) (by kernel_rfl) (by kernel_rfl) (fun _ _ _ h => h) (Or.inl ⟨by kernel_rfl, ?_⟩) (by assumption) ?_; rotate_left; focus (intro w hSw; (try dsimp only at hSw); go_simp; try with_reducible rfl))
              (simp only [Act.put, List.getElem_toArray, List.getElem_cons_zero, List.getElem_cons_succ, List.setIfInBounds_toArray, List.set_cons_zero, List.set_cons_succ])
              (refine wpAnyH_take (i := 16) (v := ?_) rfl (by kernel_rfl) (by kernel_rfl) (by kernel_rfl) (fun _ _ _ h => h) (Or.inl ⟨by kernel_rfl, ?_⟩) (by assumption) ?_; rotate_left; focus (intro w hSw; (try dsimp only at hSw); go_simp; try with_reducible rfl))
              (simp only [Act.put, List.getElem_toArray, List.getElem_cons_zero, List.getElem_cons_succ, List.setIfInBounds_toArray, List.set_cons_zero, List.set_cons_succ])
              (refine wpAnyH_take (i := 17) (v := ?_) rfl (by kernel_rfl) (by kernel_rfl) (by kernel_rfl) (fun _ _ _ h => h) (Or.inl ⟨by kernel_rfl, ?_⟩) (by assumption) ?_; rotate_left; focus (intro w hSw; (try dsimp only at hSw); go_simp; try with_reducible rfl))
              (simp only [Act.put, List.getElem_toArray, List.getElem_cons_zero, List.getElem_cons_succ, List.setIfInBounds_toArray, List.set_cons_zero, List.set_cons_succ])
              (refine wpAnyH_take (i := 18) (v := ?_) rfl (by kernel_rfl) (by kernel_rfl) (by kernel_rfl) (fun _ _ _ h => h) (Or.inl ⟨by kernel_rfl, ?_⟩) (by assumption) ?_; rotate_left; focus (intro w hSw; (try dsimp only at hSw); go_simp; try with_reducible rfl))
              (simp only [Act.put, List.getElem_toArray, List.getElem_cons_zero, List.getElem_cons_succ, List.setIfInBounds_toArray, List.set_cons_zero, List.set_cons_succ])
              (refine wpAnyH_take (i := 19) (v := ?_) rfl (by kernel_rfl) (by kernel_rfl) (by kernel_rfl) (fun _ _ _ h => h) (Or.inl ⟨by kernel_rfl, ?_⟩) (by assumption) ?_; rotate_left; focus (intro w hSw; (try dsimp only at hSw); go_simp; try with_reducible rfl))
              (simp only [Act.put, List.getElem_toArray, List.getElem_cons_zero, List.getElem_cons_succ, List.setIfInBounds_toArray, List.set_cons_zero, List.set_cons_succ])
              (refine wpAnyH_take (i := 20) (v := ?_) rfl (by kernel_rfl) (by kernel_rfl) (by kernel_rfl) (fun _ _ _ h => h) (Or.inl ⟨by kernel_rfl, ?_⟩) (by assumption) ?_; rotate_left; focus (intro w hSw; (try dsimp only at hSw); go_simp; try with_reducible rfl))
              (simp only [Act.put, List.getElem_toArray, List.getElem_cons_zero, List.getElem_cons_succ, List.setIfInBounds_toArray, List.set_cons_zero, List.set_cons_succ])
              (refine wpAnyH_take (i := 21) (v := ?_) rfl (by kernel_rfl) (by kernel_rfl) (by kernel_rfl) (fun _ _ _ h => h) (Or.inl ⟨by kernel_rfl, ?_⟩) (by assumption) ?_; rotate_left; focus (intro w hSw; (try dsimp only at hSw); go_simp; try with_reducible rfl))
              (simp only [Act.put, List.getElem_toArray, List.getElem_cons_zero, List.getElem_cons_succ, List.setIfInBounds_toArray, List.set_cons_zero, List.set_cons_succ])
              refine wpAnyH_done (by kernel_rfl) ?_ _
              clear hx hx' hwk hj0 hj1 hne c1 c2 c3 hblk
              go_wp2
              go_meet
              exact ⟨by first | rfl | (rw [hd3]; rfl), hHeld3.2.2.2⟩
      case rest =>
        obtain ⟨rfl, hbc⟩ := hcut
        cases ok with
        | true =>
          go_wp2
          go_roundw
          case rel => exact ⟨k + 1, by omega, by go_num, S1.out (by first | rfl | trivial), hbc⟩
          case measure => simp [intOf]; omega
        | false =>
          go_wp2
          go_ret
          exact ⟨ret_bool (S2.out (by first | rfl | trivial)).symm, hbc⟩
    · obtain rfl : k = ks.length := by omega
      go_wp2
      go_ret
      exact ⟨ret_bool Hall.out.symm, hbw⟩
end Go.Proofs.YtimfbjnpalgmcaaGreat

namespace Go.Proofs.YtimfbjnpalgmcaaGreat
set_option linter.unusedSimpArgs false
set_option linter.unusedVariables false
open Go.RowKit

/-- A table of a list of tables. -/
structure Tb where
  a : Option Addr
  cap : Nat
  ks : List (Int × Int)
def Tb.ok (t : Tb) : Bool := tabOk t.ks
instance : Inhabited Tb := ⟨⟨none, 0, []⟩⟩
def IsTabs (w : World) (a : Option Addr) (ts : List Tb) : Prop :=
  ts = [] ∨ ∃ b off, a = some ⟨b, off, none⟩ ∧ ∀ i, i < ts.length → w.cell? ⟨b, off + i, none⟩ = some (.slice (ts.getD i default).a (ts.getD i default).ks.length (ts.getD i default).cap) ∧ IsPairs w (ts.getD i default).a (ts.getD i default).ks ∧ (ts.getD i default).ks.length ≤ 8796093022208
theorem tabs_later {w W : World} {a : Option Addr} {ts : List Tb} (h : IsTabs w a ts) (hb : Below w.heap.size w W) : IsTabs W a ts := by
  rcases h with h | ⟨b, off, e, h⟩
  · exact .inl h
  · exact .inr ⟨b, off, e, fun i hi => ⟨later hb (h i hi).1, pairs_later (h i hi).2.1 hb, (h i hi).2.2⟩⟩
theorem tabs_one_of {W : World} {n : Nat} {t : Tb} (h0 : W.cell? ⟨n, 0, none⟩ = some (.slice t.a t.ks.length t.cap)) (h1 : IsPairs W t.a t.ks) (h2 : t.ks.length ≤ 8796093022208) : IsTabs W (some ⟨n, 0, none⟩) [t] := by
  refine .inr ⟨_, _, rfl, fun i hi => ?_⟩
  obtain rfl : i = 0 := by simpa using hi
  exact ⟨h0, h1, h2⟩

set_option maxHeartbeats 1000000 in
theorem validTables1_any (a : Option Addr) (cap : Nat) (ts : List Tb) (p : Addr) (w : World) (hl : ts.length ≤ 140737488351232) (hp : w.cell? p = some (.slice a ts.length cap)) (h : IsTabs w a ts) :
    Calls Tryz.prog 133 #[.pointer (some p)] w fun e w' => e = .returned (.bool (ts.all Tb.ok)) ∧ Below w.heap.size w w' := by
  have hd : Hid (IsTabs w a ts) := h
  clear h
  go_enter Tryz.func133, Tryz.ntmps133
  go_wp2
  go_loopw [6] (fun i wr => ∃ k : Nat, k ≤ ts.length ∧ i = .int .i64 (k : Int) ∧ (ts.take k).all Tb.ok = true ∧ Below w.heap.size w wr) (fun i _ => ts.length - (intOf i).toNat)
  case atStart => exact ⟨0, by omega, rfl, rfl, Below.refl _ _⟩
  case round =>
    obtain ⟨k, hk, rfl, hall, hbw⟩ := hrel
    have Hall := hide hall
    clear hall
    by_cases hlt : k < ts.length
    · obtain ⟨b, off, rfl, hc⟩ : ∃ b off, a = some ⟨b, off, none⟩ ∧ ∀ i, i < ts.length → wr.cell? ⟨b, off + i, none⟩ = some (.slice (ts.getD i default).a (ts.getD i default).ks.length (ts.getD i default).cap) ∧ IsPairs wr (ts.getD i default).a (ts.getD i default).ks ∧ (ts.getD i default).ks.length ≤ 8796093022208 := by
        rcases tabs_later hd.out hbw with h | h
        · subst h; simp at hlt
        · exact h
      obtain ⟨c1, c2, c3⟩ := hc k hlt
      clear hc
      have S1 := hide (all_step (f := Tb.ok) (d := default) hlt Hall.out)
      have S2 := hide (all_stop (f := Tb.ok) (l := ts) (d := default) hlt)
      generalize ts.getD k default = z at *
      obtain ⟨za, zc, zk⟩ := z
      simp only at c1 c2 c3
      have C := isTable_any za zc zk wr c3 c2
      have c2' := hide c2
      clear c2
      cases hA : tabOk zk with
      | false =>
        have E := S2.out hA
        rw [hA] at C
        have C' := hide C
        clear hA C
        go_wp2_with (go_at_call 134; refine (C'.out).mono ?_; rintro e w' ⟨rfl, hb⟩)
        go_ret
        exact ⟨ret_bool E.symm, bnext hbw hb⟩
      | true =>
        have E := hide (S1.out hA)
        rw [hA] at C
        have C' := hide C
        clear hA C
        go_wp2_with (go_at_call 134; refine (C'.out).mono ?_; rintro e w' ⟨rfl, hb⟩)
        go_roundw
        case rel => exact ⟨k + 1, by omega, by go_num, E.out, bnext hbw hb⟩
        case measure => simp [intOf]; omega
    · have E := all_end hlt Hall.out
      go_wp2
      go_ret
      exact ⟨ret_bool E.symm, hbw⟩
theorem validTables1_tells (k : Bool) (a : Option Addr) (cap n : Nat) (ts : List Tb) (p : Addr) (w : World) (hk : ts.all Tb.ok = k) (hn : n = ts.length) (hl : ts.length ≤ 140737488351232) (hp : w.cell? p = some (.slice a n cap)) (h : IsTabs w a ts) :
    Tells w 133 #[.pointer (some p)] k := by
  subst hn hk
  exact ⟨enters_any Tryz.func133 (by kernel_rfl) rfl _, fun W hW => validTables1_any a cap ts p W hl (later hW hp) (tabs_later h hW)⟩
theorem validTables_any (a : Option Addr) (n cap : Nat) (w : World) :
    Calls Tryz.prog 91 #[.slice a n cap] w fun e w' => e = .returned (.func (.func 109) #[] #[.pointer (some ⟨w.heap.size + 1 + 1, 0, none⟩), .pointer (some ⟨w.heap.size + 1, 0, none⟩)]) ∧
      ((w.alloc (.cells #[.slice a n cap] 188)).alloc (.cells #[.int .i64 2] 27)).alloc (.cells #[.func (.func 133) #[] #[.pointer (some ⟨w.heap.size, 0, none⟩)]] 34) = w' := by
  go_enter Tryz.func91, Tryz.ntmps91
  go_wp2_with (go_at_call 52; refine (unless_any _ _ _ _).mono ?_; rintro e w' ⟨rfl, rfl⟩)
  exact bodyPost_ret (v := .func (.func 109) #[] #[.pointer (some ⟨w.heap.size + 1 + 1, 0, none⟩), .pointer (some ⟨w.heap.size + 1, 0, none⟩)]) (by simp [results, Tryz.results91, go_sem]) rfl ⟨rfl, rfl⟩
theorem validTables_tells (k : Bool) (a : Option Addr) (cap n : Nat) (ts : List Tb) (p r s : Addr) (w : World) (hk : ts.all Tb.ok = k) (hn : n = ts.length) (hl : ts.length ≤ 140737488351232) (hp : w.cell? p = some (.slice a n cap))
    (hr : w.cell? r = some (.func (.func 133) #[] #[.pointer (some p)])) (hs : w.cell? s = some (.int .i64 2)) (h : IsTabs w a ts) :
    CndTells w ⟨2, 109, #[.pointer (some r), .pointer (some s)], k⟩ := unless_tells 2 _ _ k s r w rfl (validTables1_tells k a cap n ts p w hk hn hl hp h) hs hr
theorem validTables_ex (k : Bool) (a : Option Addr) (cap n : Nat) (ts : List Tb) (w : World) (hk : ts.all Tb.ok = k) (hn : n = ts.length) (hl : ts.length ≤ 140737488351232) (h : IsTabs w a ts) :
    Calls Tryz.prog 91 #[.slice a n cap] w fun e w' => e = .returned (.func (.func 109) #[] #[.pointer (some ⟨w.heap.size + 1 + 1, 0, none⟩), .pointer (some ⟨w.heap.size + 1, 0, none⟩)]) ∧
      CndTells w' ⟨2, 109, #[.pointer (some ⟨w.heap.size + 1 + 1, 0, none⟩), .pointer (some ⟨w.heap.size + 1, 0, none⟩)], k⟩ ∧ Below w.heap.size w w' :=
  (validTables_any a n cap w).mono (by
    rintro e w' ⟨rfl, rfl⟩
    exact ⟨rfl, validTables_tells k a cap n ts ⟨w.heap.size, 0, none⟩ ⟨w.heap.size + 1 + 1, 0, none⟩ ⟨w.heap.size + 1, 0, none⟩ _ hk hn hl (by simp [go_sem, World.cell?_alloc_past]) (by simp [go_sem, World.cell?_alloc_past]) (by simp [go_sem, World.cell?_alloc_past]) (tabs_later h (by repeat (first | exact Below.refl _ _ | assumption | apply balloc | apply bdrew | (refine below_drewN ?_ _) | (refine bset ?_ (by first | (simp; done) | omega | (simp; omega)) _) | (refine bnext ?_ (by assumption))))), (by repeat (first | exact Below.refl _ _ | assumption | apply balloc | apply bdrew | (refine below_drewN ?_ _) | (refine bset ?_ (by first | (simp; done) | omega | (simp; omega)) _) | (refine bnext ?_ (by assumption))))⟩)
/-- Unless, of a closure that tells only if P. -/
theorem unless_exif (E : Int) (f : Nat) (caps : Array Value) (k : Bool) (w : World) (P : Prop) (hE : (E == 0) = false) (h : P → Tells w f caps k) :
    Calls Tryz.prog 52 #[.int .i64 E, .func (.func f) #[] caps] w fun e w' => e = .returned (.func (.func 109) #[] #[.pointer (some ⟨w.heap.size + 1, 0, none⟩), .pointer (some ⟨w.heap.size, 0, none⟩)]) ∧ (P → CndTells w' ⟨E, 109, #[.pointer (some ⟨w.heap.size + 1, 0, none⟩), .pointer (some ⟨w.heap.size, 0, none⟩)], k⟩) ∧ Below w.heap.size w w' :=
  (unless_any E f caps w).mono (by
    rintro e w' ⟨rfl, rfl⟩
    exact ⟨rfl, fun p => unless_tells E f caps k _ _ _ hE (tells_later (h p) (by repeat (first | exact Below.refl _ _ | assumption | apply balloc | apply bdrew | (refine below_drewN ?_ _) | (refine bset ?_ (by first | (simp; done) | omega | (simp; omega)) _) | (refine bnext ?_ (by assumption))))) (by simp [go_sem, World.cell?_alloc_past]) (by simp [go_sem, World.cell?_alloc_past]), (by repeat (first | exact Below.refl _ _ | assumption | apply balloc | apply bdrew | (refine below_drewN ?_ _) | (refine bset ?_ (by first | (simp; done) | omega | (simp; omega)) _) | (refine bnext ?_ (by assumption))))⟩)
end Go.Proofs.YtimfbjnpalgmcaaGreat

namespace Go.Proofs.YtimfbjnpalgmcaaGreat
set_option linter.unusedSimpArgs false
set_option linter.unusedVariables false
open Go.RowKit

set_option maxHeartbeats 1600000 in
theorem checkTable_go (k : Bool) (E : Int) (ks : List (Int × Int)) (a : Option Addr) (cap : Nat) (w : World) (hk : [(⟨a, cap, ks⟩ : Tb)].all Tb.ok = k) (hE : Hid (∀ f c, firstE [⟨2, f, c, k⟩] = E)) (hl : ks.length ≤ 8796093022208) (h : Hid (IsPairs w a ks)) :
    Calls Tryz.prog 151 #[.slice a ks.length cap] w fun e w' => e = .returned (.int .i64 E) ∧ Below w.heap.size w w' := by
  have HK := hide hk
  clear hk
  go_enter Tryz.func151, Tryz.ntmps151
  go_wp2_with fail
  refine (validTables_ex k _ 1 1 [⟨a, cap, ks⟩] _ HK.out rfl (by simp) (tabs_one_of (t := ⟨a, cap, ks⟩) (by simp [go_sem, World.cell?_alloc_past]) (pairs_later h.out (by repeat (first | exact Below.refl _ _ | assumption | apply balloc | apply bdrew | (refine below_drewN ?_ _) | (refine bset ?_ (by first | (simp; done) | omega | (simp; omega)) _) | (refine bnext ?_ (by assumption))))) hl)).mono ?_
  rintro e wB ⟨rfl, hB, hbB⟩
  (try simp at hB)
  go_wp2_with fail
  refine (firstError_is E [⟨2, 109, _, k⟩] _ _ _ (hE.out _ _) (by simp) (by simp) (cnds_one_at (by simp)) (tells_one (cnd_later hB (by repeat (first | exact Below.refl _ _ | assumption | apply balloc | apply bdrew | (refine below_drewN ?_ _) | (refine bset ?_ (by first | (simp; done) | omega | (simp; omega)) _) | (refine bnext ?_ (by assumption))))))).mono ?_
  rintro e wD ⟨rfl, hbD⟩
  go_wp2_with fail
  go_ret
  exact ⟨rfl, (by repeat (first | exact Below.refl _ _ | assumption | apply balloc | apply bdrew | (refine below_drewN ?_ _) | (refine bset ?_ (by first | (simp; done) | omega | (simp; omega)) _) | (refine bnext ?_ (by assumption))))⟩
theorem checkTable_any (ks : List (Int × Int)) (a : Option Addr) (cap : Nat) (w : World) (hl : ks.length ≤ 8796093022208) (h : IsPairs w a ks) :
    Calls Tryz.prog 151 #[.slice a ks.length cap] w fun e w' => e = .returned (.int .i64 (if tabOk ks = true then 0 else 2)) ∧ Below w.heap.size w w' := by
  have ht : [(⟨a, cap, ks⟩ : Tb)].all Tb.ok = tabOk ks := by simp [Tb.ok]
  cases hk : tabOk ks with
  | true => exact checkTable_go true 0 ks a cap w (ht.trans hk) (fun _ _ => rfl) hl h
  | false => exact checkTable_go false 2 ks a cap w (ht.trans hk) (fun _ _ => rfl) hl h
end Go.Proofs.YtimfbjnpalgmcaaGreat

namespace Go.Proofs.YtimfbjnpalgmcaaGreat
set_option linter.unusedSimpArgs false
set_option linter.unusedVariables false
open Go.RowKit

theorem segs_take (ks : List (Int × Int)) {k : Nat} (hk : k ≤ ks.length - 1) : segs ks k <+: segs ks (ks.length - 1) := by
  refine ⟨((List.range (ks.length - 1)).map (seg ks)).drop k, ?_⟩
  have : segs ks k = ((List.range (ks.length - 1)).map (seg ks)).take k := by
    rw [← List.map_take, List.take_range, Nat.min_eq_left hk]; rfl
  rw [this, List.take_append_drop]; rfl

/-- The iterator yields the pieces, in order, whatever the body does that keeps what it reads; each of them is known to be ok. -/
theorem pieces_stops (n : Nat) (hn : 1 ≤ n) (p : Addr) (a : Option Addr) (cap : Nat) (ks : List (Int × Int)) (hreach : ks.length ≤ 8796093022208) (ok : Pc → Prop) (hok : ∀ k, k < ks.length - 1 → ok (seg ks k))
    (Kp : World → World → Prop) (hKf : ∀ A B, Kp A B → PF p a cap ks A → PF p a cap ks B) (w : World) (h : PF p a cap ks w) :
    SeqStopsK Fence.wide n Tryz.prog 136 #[.pointer (some p)] (fun x : { x : Pc // ok x } => encP x.1) Kp (fun ys => ys.map Subtype.val = segs ks (ks.length - 1)) (fun _ => True) (ks.length - 1) w := fun l J Jx W hW hJ _ hY h0 => by
  refine (pieces1_in n hn l p a cap ks hreach Kp hKf (fun ps W => ∃ qs : List { x : Pc // ok x }, qs.map Subtype.val = ps ∧ J qs W) (fun ps W => ∃ qs : List { x : Pc // ok x }, qs.map Subtype.val = ps ∧ Jx qs W)
    (fun s W hs => by obtain ⟨qs, e, hs⟩ := hs; exact ⟨qs, e, hJ qs W W.drew none hs (grown_drew W) (fun r e => by cases e)⟩)
    (fun k W1 hk hj => by
      obtain ⟨qs, e, hj⟩ := hj
      have hlen : qs.length = k := by have := congrArg List.length e; simpa [segs_length] using this
      refine YieldAt.mono (hY qs ⟨seg ks k, hok k hk⟩ W1 hj (by omega)) ?_
      rintro e' W' (⟨he, h1, h2⟩ | ⟨he, h1⟩)
      · exact .inl ⟨he, ⟨_, by rw [segs_succ, List.map_append, e]; rfl, h1⟩, h2⟩
      · exact .inr ⟨he, ⟨_, by rw [segs_succ, List.map_append, e]; rfl, h1⟩⟩)
    W ⟨later hW h.1, pairs_later h.2 hW⟩ ⟨[], rfl, h0⟩).mono ?_
  rintro e W' ⟨he, ⟨qs, e1, hj⟩ | ⟨pre, _, qs, _, hj⟩⟩
  · exact ⟨he, .inl ⟨qs, e1, hj⟩⟩
  · exact ⟨he, .inr ⟨qs, trivial, hj⟩⟩
end Go.Proofs.YtimfbjnpalgmcaaGreat

namespace Go.Proofs.YtimfbjnpalgmcaaGreat
set_option linter.unusedSimpArgs false
set_option linter.unusedVariables false
open Go.RowKit

theorem anyIn_of_anyH {l n : Nat} {P : Program} {md : Region.Mode} {ops : Array Oper} {Q : Exit → Act → World → Prop} {S : World → Prop}
    (hd : ∀ (i : Nat) (o : Oper), ops[i]? = some o → ∀ c, o.op ≠ .defer c) (hL : ¬ LetsOut Q) :
    ∀ (fuel : Nat) (listed : Array Bool) (a : Act) (w : World), wpAnyH P md ops Q S fuel listed a w → wpAnyIn (Fence.wide.inRound l) n P md ops Q fuel listed a w
  | 0, _, _, _, h => h
  | fuel + 1, listed, a, w, h => by
    refine ⟨h.1, fun i hi => ?_⟩
    have h2 := h.2 i hi
    unfold wpOp at h2
    unfold wpOpIn
    split at h2
    · rename_i hn
      simp only [hn]
      exact anyIn_of_anyH hd hL fuel _ _ _ h2.2
    · rename_i o ho
      simp only [ho]
      split at h2
      · rename_i hw
        simp only [hw, if_true]
        rcases h2 with h2 | h2
        · refine ⟨fun _ _ => trivial, ?_⟩
          unfold Oper.wp at h2
          rw [Oper.semAt_eq _ _ _ (hd i o ho)]
          generalize (execOp a.eval o).run P w = r at *
          cases r with
          | ok x w' =>
            cases x <;> simp only [Oper.upon, Oper.uponIn] at h2 ⊢
            all_goals first
              | exact anyIn_of_anyH hd hL fuel _ _ _ h2.2
              | exact h2.elim
              | (refine ⟨fun h => (by cases h), (CallsIn.inRound l (callsIn_wide.2 h2)).mono ?_⟩
                 intro e w'' he
                 cases e with
                 | returned v => exact anyIn_of_anyH hd hL fuel _ _ _ he.2
                 | panicked ch => exact he
                 | outgrown => exact (hL he).elim)
              | (refine ⟨fun h => (by cases h), fun c cs _ => ?_⟩
                 obtain ⟨v, w'', hr, hs⟩ := h2 c cs
                 exact ⟨v, w'', anyIn_of_anyH hd hL fuel _ _ _ hr.2, stepsIn_wide.2 hs⟩)
          | halt x w' => cases x <;> simp only [Oper.upon, Oper.uponIn] at h2 ⊢ <;> exact h2
        · exact (hL h2.2).elim
      · rename_i hw
        simp only [hw]
        exact ⟨fun _ _ => trivial, anyIn_of_anyH hd hL fuel _ _ _ h2.2⟩
def noDefer (ops : Array Oper) : Bool := ops.all fun o => match o.op with | .defer _ => false | _ => true
theorem noDefer_spec {ops : Array Oper} (h : noDefer ops = true) : ∀ (i : Nat) (o : Oper), ops[i]? = some o → ∀ c, o.op ≠ .defer c := by
  intro i o ho c hc
  unfold noDefer at h
  rw [Array.all_eq_true] at h
  obtain ⟨hi, rfl⟩ := Array.getElem?_eq_some_iff.1 ho
  have := h i hi
  rw [hc] at this
  simp at this
theorem region_inRound {l n id : Nat} {P : Program} {ops : Array Oper} {Q : Exit → Act → World → Prop} {a : Act} {w : World} (S : World → Prop)
    (hm : P.follows .mixedOrders = true) (hd : ∀ (i : Nat) (o : Oper), ops[i]? = some o → ∀ c, o.op ≠ .defer c) (hL : ¬ LetsOut Q) (hS : S w.drew)
    (h : S w.drew → wpAnyH P .any ops Q S ops.size (Array.replicate ops.size false) a w.drew) : (Code.region id ops true).wpIn (Fence.wide.inRound l) n P Q a w :=
  wpIn_region_any hm (anyIn_of_anyH hd hL _ _ _ _ (h hS))
end Go.Proofs.YtimfbjnpalgmcaaGreat
