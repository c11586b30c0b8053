/-
  units.Value's condition. units.Value: its conditions. units.Value. units.Value, whatever table and range.
-/
import Derived.Test.YtimfbjnpalgmcaaGreatPiece
import Derived.BigQuiet
namespace Go.Proofs.YtimfbjnpalgmcaaGreat
set_option linter.unusedSimpArgs false
set_option linter.unusedVariables false
open Go.RowKit

def inDom (ks : List (Int × Int)) (lo hi : Int) : Bool := decide ((ks.getD 0 (0, 0)).1 ≤ lo) && decide (hi ≤ (ks.getD (ks.length - 1) (0, 0)).1)

set_option maxHeartbeats 2000000 in
theorem value1_any (lo hi : Int) (a : Option Addr) (cap m : Nat) (ks : List (Int × Int)) (pb qb : Nat) (w : World) (hm : ks.length = m + 1) (hl : ks.length ≤ 8796093022208)
    (p1 : w.cell? ⟨pb, 0, none⟩ = some (.int .i64 lo)) (p2 : w.cell? ⟨pb, 1, none⟩ = some (.int .i64 hi)) (hq : w.cell? ⟨qb, 0, none⟩ = some (.slice a (m + 1) cap)) (h : IsPairs w a ks) :
    Calls Tryz.prog 93 #[.pointer (some ⟨pb, 0, none⟩), .pointer (some ⟨qb, 0, none⟩)] w fun e w' => e = .returned (.bool (inDom ks lo hi)) ∧ Below w.heap.size w w' := by
  obtain ⟨b, off, rfl, hc⟩ : ∃ b off, a = some ⟨b, off, none⟩ ∧ ∀ i, i < ks.length → w.cell? ⟨b, off + i * 2, none⟩ = some (.int .i64 (ks.getD i (0, 0)).1) ∧ w.cell? ⟨b, off + i * 2 + 1, none⟩ = some (.int .i64 (ks.getD i (0, 0)).2) := by
    rcases h with h | h
    · subst h; simp at hm
    · exact h
  clear h
  obtain ⟨c1, _⟩ := hc 0 (by omega)
  obtain ⟨c2, _⟩ := hc m (by omega)
  clear hc
  have E : inDom ks lo hi = (decide ((ks.getD 0 (0, 0)).1 ≤ lo) && decide (hi ≤ (ks.getD m (0, 0)).1)) := by unfold inDom; rw [hm]; rfl
  rw [E]
  clear E
  have hwk : IntKind.wrap .i64 (m : Int) = m := IntWalk.i64_in _ (by omega)
  generalize ks.getD 0 (0, 0) = z0 at *
  generalize ks.getD m (0, 0) = z1 at *
  obtain ⟨x0, y0⟩ := z0
  obtain ⟨x1, y1⟩ := z1
  simp only [Nat.zero_mul, Nat.add_zero] at c1 c2
  have hm0 : (0 : Int) < (m : Int) + 1 := by omega
  have hm1 : (m : Int) < (m : Int) + 1 := by omega
  clear hl hm
  simp only
  by_cases h1 : x0 ≤ lo
  · by_cases h2 : hi ≤ x1
    · rw [decide_eq_true h1, decide_eq_true h2]
      have d1 : decide (x0 ≤ lo) = true := decide_eq_true h1
      have d2 : decide (hi ≤ x1) = true := decide_eq_true h2
      go_enter Tryz.func93, Tryz.ntmps93
      go_wp2_with fail
      go_quiet (fail)
      go_wp2
      go_ret
      exact ⟨rfl, below_drewN (Below.refl _ _) _⟩
    · rw [decide_eq_true h1, decide_eq_false h2]
      have d1 : decide (x0 ≤ lo) = true := decide_eq_true h1
      have d2 : decide (hi ≤ x1) = false := decide_eq_false h2
      go_enter Tryz.func93, Tryz.ntmps93
      go_wp2_with fail
      go_quiet (fail)
      go_wp2
      go_ret
      exact ⟨rfl, below_drewN (Below.refl _ _) _⟩
  · rw [decide_eq_false h1]
    have d1 : decide (x0 ≤ lo) = false := decide_eq_false h1
    go_enter Tryz.func93, Tryz.ntmps93
    go_wp2_with fail
    go_quiet (fail)
    go_wp2
    go_ret
    exact ⟨rfl, below_drewN (Below.refl _ _) _⟩
theorem value_tells (k : Bool) (lo hi : Int) (a : Option Addr) (cap m : Nat) (ks : List (Int × Int)) (pb qb : Nat) (w : World) (hk : inDom ks lo hi = k) (hm : ks.length = m + 1) (hl : ks.length ≤ 8796093022208)
    (p1 : w.cell? ⟨pb, 0, none⟩ = some (.int .i64 lo)) (p2 : w.cell? ⟨pb, 1, none⟩ = some (.int .i64 hi)) (hq : w.cell? ⟨qb, 0, none⟩ = some (.slice a (m + 1) cap)) (h : IsPairs w a ks) :
    Tells w 93 #[.pointer (some ⟨pb, 0, none⟩), .pointer (some ⟨qb, 0, none⟩)] k := by
  subst hk
  exact ⟨enters_any Tryz.func93 (by kernel_rfl) rfl _, fun W hW => value1_any lo hi a cap m ks pb qb W hm hl (later hW p1) (later hW p2) (later hW hq) (pairs_later h hW)⟩
end Go.Proofs.YtimfbjnpalgmcaaGreat

namespace Go.Proofs.YtimfbjnpalgmcaaGreat
set_option linter.unusedSimpArgs false
set_option linter.unusedVariables false
open Go.RowKit

theorem value_tells' (k : Bool) (lo hi : Int) (a : Option Addr) (cap : Nat) (ks : List (Int × Int)) (pb qb : Nat) (w : World) (hk : inDom ks lo hi = k) (h2 : 2 ≤ ks.length) (hl : ks.length ≤ 8796093022208)
    (p1 : w.cell? ⟨pb, 0, none⟩ = some (.int .i64 lo)) (p2 : w.cell? ⟨pb, 1, none⟩ = some (.int .i64 hi)) (hq : w.cell? ⟨qb, 0, none⟩ = some (.slice a ks.length cap)) (h : IsPairs w a ks) :
    Tells w 93 #[.pointer (some ⟨pb, 0, none⟩), .pointer (some ⟨qb, 0, none⟩)] k := by
  obtain ⟨m, hm⟩ : ∃ m, ks.length = m + 1 := ⟨ks.length - 1, by omega⟩
  exact value_tells k lo hi a cap m ks pb qb w hk hm hl p1 p2 (by rw [← hm]; exact hq) h

/-- The conditions of Value come to E. -/
def ValCond (ks : List (Int × Int)) (lo hi E : Int) (k1 k2 k3 : Bool) : Prop :=
  [(⟨none, 0, ks⟩ : Tb)].all Tb.ok = k1 ∧ [(lo, hi)].all rangeOk = k2 ∧ (k1 = true → inDom ks lo hi = k3 ∧ 2 ≤ ks.length) ∧ ∀ f1 c1 f2 c2 f3 c3, firstE [⟨2, f1, c1, k1⟩, ⟨2, f2, c2, k2⟩, ⟨7, f3, c3, k3⟩] = E
theorem tb_ok (a : Option Addr) (cap : Nat) (ks : List (Int × Int)) : [(⟨a, cap, ks⟩ : Tb)].all Tb.ok = [(⟨none, 0, ks⟩ : Tb)].all Tb.ok := rfl

set_option maxHeartbeats 3200000 in
theorem value_bad (ks : List (Int × Int)) (a : Option Addr) (cap : Nat) (lo hi E : Int) (k1 k2 k3 : Bool) (w : World) (hE : (E == 0) = false) (hc : Hid (ValCond ks lo hi E k1 k2 k3)) (hl : ks.length ≤ 8796093022208) (h : Hid (IsPairs w a ks)) :
    Calls Tryz.prog 48 #[.slice a ks.length cap, .agg #[.int .i64 lo, .int .i64 hi]] w fun e w' => e = .returned (.tuple #[.agg #[.int .i64 0, .int .i64 0], .int .i64 E]) ∧ Below w.heap.size w w' := by
  go_enter Tryz.func48, Tryz.ntmps48
  go_upto_region 1 with fail
  go_cut [6] from 8 (fun s6 wx => s6 = .int .i64 E ∧ wx.cell? ⟨w.heap.size, 0, none⟩ = some (.slice a ks.length cap) ∧ (wx.cell? ⟨w.heap.size + 1, 0, none⟩ = some (.int .i64 lo) ∧ wx.cell? ⟨w.heap.size + 1, 1, none⟩ = some (.int .i64 hi)) ∧ (CF wx ⟨w.heap.size + 1 + 1, 0, none⟩ (.int .i64 0) ∧ CF wx ⟨w.heap.size + 1 + 1, 1, none⟩ (.int .i64 0)) ∧ Below w.heap.size w wx)
  case first =>
    go_region_held3 (fun w' => w'.cell? ⟨w.heap.size, 0, none⟩ = some (.slice a ks.length cap) ∧ w'.cell? ⟨w.heap.size + 1, 0, none⟩ = some (.int .i64 lo) ∧ w'.cell? ⟨w.heap.size + 1, 1, none⟩ = some (.int .i64 hi) ∧ (CF w' ⟨w.heap.size + 1 + 1, 0, none⟩ (.int .i64 0) ∧ CF w' ⟨w.heap.size + 1 + 1, 1, none⟩ (.int .i64 0)) ∧ Below w.heap.size w w')
      (first | (refine ⟨?_, ?_, ?_, ⟨⟨?_, ?_⟩, ?_, ?_⟩, bdrew (balloc (balloc (balloc (Below.refl _ _))))⟩ <;> simp [go_sem, World.cell?_alloc_past]; done) | (go_split_ands; first | (exact ⟨later hbD (by assumption), later hbD (by assumption), later hbD (by assumption), ⟨cf_later hbD (by assumption), cf_later hbD (by assumption)⟩, bnext (by assumption) hbD⟩) | (exact ⟨later hbB (by assumption), later hbB (by assumption), later hbB (by assumption), ⟨cf_later hbB (by assumption), cf_later hbB (by assumption)⟩, bnext (by assumption) hbB⟩) | (exact ⟨later hbA (by assumption), later hbA (by assumption), later hbA (by assumption), ⟨cf_later hbA (by assumption), cf_later hbA (by assumption)⟩, bnext (by assumption) hbA⟩) | (exact ⟨later hbC (by assumption), later hbC (by assumption), later hbC (by assumption), ⟨cf_later hbC (by assumption), cf_later hbC (by assumption)⟩, bnext (by assumption) hbC⟩)) | (go_split_ands; exact ⟨later (balloc (Below.refl _ _)) (by assumption), later (balloc (Below.refl _ _)) (by assumption), later (balloc (Below.refl _ _)) (by assumption), ⟨cf_later (balloc (Below.refl _ _)) (by assumption), cf_later (balloc (Below.refl _ _)) (by assumption)⟩, balloc (by assumption)⟩) | go_keep)
      (first
        | (go_at_call 91; refine (validTables_ex k1 _ 1 1 [⟨a, cap, ks⟩] _ hc.out.1 rfl (by simp) (tabs_one_of (t := ⟨a, cap, ks⟩) (by repeat (first | (simp [go_sem, World.cell?_alloc_past]; done) | refine later hbD ?_ | refine later hbC ?_ | refine later hbB ?_ | refine later hbA ?_ | refine later (balloc (Below.refl _ _)) ?_)) (pairs_later h.out (by repeat (first | exact Below.refl _ _ | assumption | apply balloc | apply bdrew | (refine bnext ?_ (by assumption))))) hl)).mono ?_; rintro e wB ⟨rfl, hB, hbB⟩; (try simp at hB))
        | (go_at_call 92; refine (validRanges_ex k2 _ 1 1 [(lo, hi)] _ hc.out.2.1 rfl (by simp) (pairs_one_of (by repeat (first | (simp [go_sem, World.cell?_alloc_past]; done) | refine later hbD ?_ | refine later hbC ?_ | refine later hbB ?_ | refine later hbA ?_ | refine later (balloc (Below.refl _ _)) ?_)) (by repeat (first | (simp [go_sem, World.cell?_alloc_past]; done) | refine later hbD ?_ | refine later hbC ?_ | refine later hbB ?_ | refine later hbA ?_ | refine later (balloc (Below.refl _ _)) ?_)))).mono ?_; rintro e wC ⟨rfl, hC, hbC⟩; (try simp at hC))
        | (go_at_call 52; refine (unless_exif 7 _ _ k3 _ (k1 = true) rfl (fun t1 => value_tells' k3 lo hi a cap ks (w.heap.size + 1) w.heap.size _ (hc.out.2.2.1 t1).1 (hc.out.2.2.1 t1).2 hl (by go_split_ands; assumption) (by go_split_ands; assumption) (by go_split_ands; assumption) (pairs_later h.out (by repeat (first | exact Below.refl _ _ | assumption | apply balloc | apply bdrew | (refine bnext ?_ (by assumption))))))).mono ?_; rintro e wA ⟨rfl, hA, hbA⟩; (try simp at hA))
        | (go_at_call 50; go_loud (refine (firstError_is E [⟨2, 109, _, k1⟩, ⟨2, 109, _, k2⟩, ⟨7, 109, _, k3⟩] _ _ _ (hc.out.2.2.2 _ _ _ _ _ _) (by simp) (by simp) (cnds_three_at (by simp)) (tells_three (cnd_later hB (by repeat (first | exact Below.refl _ _ | assumption | apply balloc | apply bdrew | (refine bnext ?_ (by assumption))))) (fun _ => cnd_later hC (by repeat (first | exact Below.refl _ _ | assumption | apply balloc | apply bdrew | (refine bnext ?_ (by assumption))))) (fun t1 _ => cnd_later (by first | exact hA t1 | exact hA) (by repeat (first | exact Below.refl _ _ | assumption | apply balloc | apply bdrew | (refine bnext ?_ (by assumption))))))).mono ?_); rintro e wD ⟨rfl, hbD⟩))
    all_goals (go_wp2_with fail; go_meet; exact ⟨rfl, by go_split_ands; assumption, ⟨by go_split_ands; assumption, by go_split_ands; assumption⟩, ⟨by go_split_ands; assumption, by go_split_ands; assumption⟩, by go_split_ands; assumption⟩)
  case rest =>
    obtain ⟨rfl, hsl, ⟨c0, c1⟩, ⟨⟨c4, f4⟩, c5, f5⟩, hbw⟩ := hcut
    go_wp2
    exact bodyPost_ret (v := .tuple #[.agg #[.int .i64 0, .int .i64 0], .int .i64 E]) (by simp [results, Tryz.results48, go_sem, c4, c5]) rfl ⟨rfl, (by repeat (first | exact Below.refl _ _ | assumption | apply balloc | apply bdrew | (refine below_drewN ?_ _) | (refine bset ?_ (by first | (simp; done) | omega | (simp; omega)) _) | (refine bnext ?_ (by assumption))))⟩
end Go.Proofs.YtimfbjnpalgmcaaGreat

namespace Go.Proofs.YtimfbjnpalgmcaaGreat
set_option linter.unusedSimpArgs false
set_option linter.unusedVariables false
open Go.RowKit Go.Shelf

attribute [local go_sem] Oper.semAt_some

/-- What a piece adds to what has been gathered. -/
def vStep (lo hi : Int) (g : Gth) (x : Pc) : Gth :=
  if max x.1.1 lo ≤ min x.2.1 hi then
    gAdd (gAdd g (atQ x.1.1 x.1.2 x.2.1 x.2.2 (max x.1.1 lo) 1) (atQ x.1.1 x.1.2 x.2.1 x.2.2 (max x.1.1 lo) 2)) (atQ x.1.1 x.1.2 x.2.1 x.2.2 (min x.2.1 hi) 1) (atQ x.1.1 x.1.2 x.2.1 x.2.2 (min x.2.1 hi) 2)
  else g
def vAll (lo hi : Int) (ps : List Pc) : Gth := ps.foldl (vStep lo hi) ⟨0, 0, false, false⟩

theorem vAll_snoc (lo hi : Int) (l : List Pc) (p : Pc) : vAll lo hi (l ++ [p]) = vStep lo hi (vAll lo hi l) p := by simp [vAll]
/-- A piece of a table that is ok. -/
def pcOk (x : Pc) : Prop := ((-1000000000000 ≤ x.1.1 ∧ x.1.1 < x.2.1) ∧ x.2.1 ≤ 1000000000000) ∧ (-1000000000000 ≤ x.1.2 ∧ x.1.2 ≤ 1000000000000) ∧ -1000000000000 ≤ x.2.2 ∧ x.2.2 ≤ 1000000000000
/-- Of what lay below n, nothing but the block b has changed. -/
structure Kv (n b : Nat) (A B : World) : Prop where
  os : B.os = A.os
  tape : B.tape = A.tape
  output : B.output = A.output
  size : A.heap.size ≤ B.heap.size
  block : ∀ k, k < n → k ≠ b → B.heap[k]? = A.heap[k]?
theorem Kv.refl (n b : Nat) (A : World) : Kv n b A A := ⟨rfl, rfl, rfl, Nat.le_refl _, fun _ _ _ => rfl⟩
theorem Kv.trans {n b : Nat} {A B C : World} (h : Kv n b A B) (k : Kv n b B C) : Kv n b A C :=
  ⟨k.os.trans h.os, k.tape.trans h.tape, k.output.trans h.output, Nat.le_trans h.size k.size, fun i hi hb => (k.block i hi hb).trans (h.block i hi hb)⟩
theorem Kv.put {n b : Nat} (W : World) (l : Nat) (o o' : Obj) (hl : n ≤ l) (_ : W.heap[l]? = some o) : Kv n b W (W.putObj l o') :=
  ⟨rfl, rfl, rfl, by simp, fun k hk _ => World.putObj_heap_other (by omega)⟩
theorem Kv.grown {n b : Nat} {A B C : World} {row : Option Nat} (h : Kv n b A B) (hn : n ≤ A.heap.size) (hg : B.grownBy C row) (hr : ∀ r, row = some r → n ≤ r) : Kv n b A C :=
  h.trans ⟨hg.os, hg.tape, hg.output, hg.size, fun k hk _ => hg.block k (by have := h.size; omega) (fun e => by have := hr k e.symm; omega)⟩
theorem Kv.cell {n b : Nat} {A B : World} (h : Kv n b A B) {p : Addr} {v : Value} (hp : p.block < n) (hb : p.block ≠ b) (hc : A.cell? p = some v) : B.cell? p = some v :=
  (World.cell?_of_block (w := A) (h.block p.block hp hb)).trans hc
theorem Kv.free {n b : Nat} {A B : World} (h : Kv n b A B) {p : Addr} (hp : p.block < n) (hb : p.block ≠ b) (hf : A.frozen? p = false) : B.frozen? p = false :=
  (World.frozen?_of_block (w := A) (h.block p.block hp hb)).trans hf
theorem pf_kv {n gb : Nat} {p : Addr} {a : Option Addr} {cap : Nat} {ks : List (Int × Int)} {w A B : World} (h : IsPairs w a ks) (hg : w.heap.size ≤ gb) (hn : w.heap.size ≤ n) (hp : p.block < n) (hpb : p.block ≠ gb)
    (hk : Kv n gb A B) (hP : PF p a cap ks A) : PF p a cap ks B := by
  refine ⟨Kv.cell hk hp hpb hP.1, ?_⟩
  rcases hP.2 with e | ⟨b, off, e, hc⟩
  · exact .inl e
  · refine .inr ⟨b, off, e, fun i hi => ?_⟩
    have hb : b < w.heap.size := by
      rcases h with e' | ⟨b', off', e', hc'⟩
      · subst e'; simp at hi
      · rw [e] at e'; cases e'; exact World.block_lt_of_cell? _ _ (hc' i hi).1
    exact ⟨Kv.cell hk (show b < n by omega) (show b ≠ gb by omega) (hc i hi).1, Kv.cell hk (show b < n by omega) (show b ≠ gb by omega) (hc i hi).2⟩
theorem keeps_of_below {W W' : World} (h : Below W.heap.size W W') : KeepsOthers W W' := ⟨h.size, fun k o hk _ => (h.block k (Array.getElem?_eq_some_iff.1 hk).1).trans hk⟩
theorem keeps_of_touch {b : Nat} {W W' : World} {v : Value} (h : Touch b W W') (hc : W.cell? ⟨b, 0, none⟩ = some v) : KeepsOthers W W' := ⟨h.size, fun k o hk ho => by
  have hkb : k ≠ b := by
    intro e
    subst e
    obtain ⟨o', ho', hcc⟩ := cells_of_cell hc
    rw [hk] at ho'
    cases ho'
    rw [ho] at hcc
    cases hcc
  exact (h.block k (Array.getElem?_eq_some_iff.1 hk).1 hkb).trans hk⟩
theorem kv_of_touch {n b : Nat} {W W' : World} (h : Touch b W W') (hn : n ≤ W.heap.size) : Kv n b W W' := ⟨h.os, h.tape, h.output, h.size, fun k hk hb => h.block k (by omega) hb⟩
theorem gat_own (b : Nat) {β : Type} (f : β → Gth) : Own (fun (s : β) W => GAt W b (f s)) := fun s A B row hs hg hr => by
  obtain ⟨⟨a0, a1, a2, a3⟩, f0, f1, f2, f3⟩ := hs
  exact ⟨⟨cell_kept a0 hg hr, cell_kept a1 hg hr, cell_kept a2 hg hr, cell_kept a3 hg hr⟩, (frozen_kept a0 hg hr).trans f0, (frozen_kept a1 hg hr).trans f1, (frozen_kept a2 hg hr).trans f2, (frozen_kept a3 hg hr).trans f3⟩

set_option maxRecDepth 100000 in
set_option maxHeartbeats 3200000 in
theorem value_good (ks : List (Int × Int)) (a : Option Addr) (cap : Nat) (lo hi : Int) (w : World) (hc : Hid (ValCond ks lo hi 0 true true true)) (hl : ks.length ≤ 8796093022208) (h : Hid (IsPairs w a ks)) (hok : ∀ k, k < ks.length - 1 → pcOk (seg ks k)) :
    Calls Tryz.prog 48 #[.slice a ks.length cap, .agg #[.int .i64 lo, .int .i64 hi]] w fun e w' => e = .returned (.tuple #[.agg #[.int .i64 (gRes (vAll lo hi (segs ks (ks.length - 1)))).1, .int .i64 (gRes (vAll lo hi (segs ks (ks.length - 1)))).2.1], .int .i64 (gRes (vAll lo hi (segs ks (ks.length - 1)))).2.2]) ∧ Below w.heap.size w w' := by
  refine (callsIn_wide (n := 6)).1 ?_
  refine callsIn_of_wp_marks Tryz.func48 rfl trivial ?_ rfl
  simp only [Tryz.ntmps48, List.size_toArray, List.length_cons, List.length_nil, Nat.reduceAdd, Nat.reduceSub, Array.replicate_succ, Array.replicate_zero, List.push_toArray, List.append_toArray, List.nil_append, List.cons_append]
  refine wpIn_wide.2 ?_
  go_upto_region 1 with fail
  go_cut [6] from 8 (fun s6 wx => s6 = .int .i64 0 ∧ wx.cell? ⟨w.heap.size, 0, none⟩ = some (.slice a ks.length cap) ∧ (wx.cell? ⟨w.heap.size + 1, 0, none⟩ = some (.int .i64 lo) ∧ wx.cell? ⟨w.heap.size + 1, 1, none⟩ = some (.int .i64 hi)) ∧ (CF wx ⟨w.heap.size + 1 + 1, 0, none⟩ (.int .i64 0) ∧ CF wx ⟨w.heap.size + 1 + 1, 1, none⟩ (.int .i64 0)) ∧ Below w.heap.size w wx)
  case first =>
    go_region_held3 (fun w' => w'.cell? ⟨w.heap.size, 0, none⟩ = some (.slice a ks.length cap) ∧ w'.cell? ⟨w.heap.size + 1, 0, none⟩ = some (.int .i64 lo) ∧ w'.cell? ⟨w.heap.size + 1, 1, none⟩ = some (.int .i64 hi) ∧ (CF w' ⟨w.heap.size + 1 + 1, 0, none⟩ (.int .i64 0) ∧ CF w' ⟨w.heap.size + 1 + 1, 1, none⟩ (.int .i64 0)) ∧ Below w.heap.size w w')
      (first | (refine ⟨?_, ?_, ?_, ⟨⟨?_, ?_⟩, ?_, ?_⟩, bdrew (balloc (balloc (balloc (Below.refl _ _))))⟩ <;> simp [go_sem, World.cell?_alloc_past]; done) | (go_split_ands; first | (exact ⟨later hbD (by assumption), later hbD (by assumption), later hbD (by assumption), ⟨cf_later hbD (by assumption), cf_later hbD (by assumption)⟩, bnext (by assumption) hbD⟩) | (exact ⟨later hbB (by assumption), later hbB (by assumption), later hbB (by assumption), ⟨cf_later hbB (by assumption), cf_later hbB (by assumption)⟩, bnext (by assumption) hbB⟩) | (exact ⟨later hbA (by assumption), later hbA (by assumption), later hbA (by assumption), ⟨cf_later hbA (by assumption), cf_later hbA (by assumption)⟩, bnext (by assumption) hbA⟩) | (exact ⟨later hbC (by assumption), later hbC (by assumption), later hbC (by assumption), ⟨cf_later hbC (by assumption), cf_later hbC (by assumption)⟩, bnext (by assumption) hbC⟩)) | (go_split_ands; exact ⟨later (balloc (Below.refl _ _)) (by assumption), later (balloc (Below.refl _ _)) (by assumption), later (balloc (Below.refl _ _)) (by assumption), ⟨cf_later (balloc (Below.refl _ _)) (by assumption), cf_later (balloc (Below.refl _ _)) (by assumption)⟩, balloc (by assumption)⟩) | go_keep)
      (first
        | (go_at_call 91; refine (validTables_ex true _ 1 1 [⟨a, cap, ks⟩] _ hc.out.1 rfl (by simp) (tabs_one_of (t := ⟨a, cap, ks⟩) (by repeat (first | (simp [go_sem, World.cell?_alloc_past]; done) | refine later hbD ?_ | refine later hbC ?_ | refine later hbB ?_ | refine later hbA ?_ | refine later (balloc (Below.refl _ _)) ?_)) (pairs_later h.out (by repeat (first | exact Below.refl _ _ | assumption | apply balloc | apply bdrew | (refine bnext ?_ (by assumption))))) hl)).mono ?_; rintro e wB ⟨rfl, hB, hbB⟩; (try simp at hB))
        | (go_at_call 92; refine (validRanges_ex true _ 1 1 [(lo, hi)] _ hc.out.2.1 rfl (by simp) (pairs_one_of (by repeat (first | (simp [go_sem, World.cell?_alloc_past]; done) | refine later hbD ?_ | refine later hbC ?_ | refine later hbB ?_ | refine later hbA ?_ | refine later (balloc (Below.refl _ _)) ?_)) (by repeat (first | (simp [go_sem, World.cell?_alloc_past]; done) | refine later hbD ?_ | refine later hbC ?_ | refine later hbB ?_ | refine later hbA ?_ | refine later (balloc (Below.refl _ _)) ?_)))).mono ?_; rintro e wC ⟨rfl, hC, hbC⟩; (try simp at hC))
        | (go_at_call 52; refine (unless_exif 7 _ _ true _ (true = true) rfl (fun t1 => value_tells' true lo hi a cap ks (w.heap.size + 1) w.heap.size _ (hc.out.2.2.1 t1).1 (hc.out.2.2.1 t1).2 hl (by go_split_ands; assumption) (by go_split_ands; assumption) (by go_split_ands; assumption) (pairs_later h.out (by repeat (first | exact Below.refl _ _ | assumption | apply balloc | apply bdrew | (refine bnext ?_ (by assumption))))))).mono ?_; rintro e wA ⟨rfl, hA, hbA⟩; (try simp at hA))
        | (go_at_call 50; go_loud (refine (firstError_is 0 [⟨2, 109, _, true⟩, ⟨2, 109, _, true⟩, ⟨7, 109, _, true⟩] _ _ _ (hc.out.2.2.2 _ _ _ _ _ _) (by simp) (by simp) (cnds_three_at (by simp)) (tells_three (cnd_later hB (by repeat (first | exact Below.refl _ _ | assumption | apply balloc | apply bdrew | (refine bnext ?_ (by assumption))))) (fun _ => cnd_later hC (by repeat (first | exact Below.refl _ _ | assumption | apply balloc | apply bdrew | (refine bnext ?_ (by assumption))))) (fun t1 _ => cnd_later (by first | exact hA t1 | exact hA) (by repeat (first | exact Below.refl _ _ | assumption | apply balloc | apply bdrew | (refine bnext ?_ (by assumption))))))).mono ?_); rintro e wD ⟨rfl, hbD⟩))
    all_goals (go_wp2_with fail; go_meet; exact ⟨rfl, by go_split_ands; assumption, ⟨by go_split_ands; assumption, by go_split_ands; assumption⟩, ⟨by go_split_ands; assumption, by go_split_ands; assumption⟩, by go_split_ands; assumption⟩)
  case rest =>
    obtain ⟨rfl, hsl, ⟨c0, c1⟩, ⟨⟨c4, f4⟩, c5, f5⟩, hbw⟩ := hcut
    have z0 : w.heap.size < wc.heap.size := World.block_lt_of_cell? _ _ hsl
    have z1 : w.heap.size + 1 < wc.heap.size := World.block_lt_of_cell? _ _ c0
    have z4 : w.heap.size + 1 + 1 < wc.heap.size := World.block_lt_of_cell? _ _ c4
    have P' := hide fun w => (callsIn_wide (n := 5)).1 (pieces_in 5 a ks.length cap w)
    go_wp2_with (go_at_call 94; refine (P'.out _).mono ?_; rintro e w2 ⟨rfl, rfl⟩)
    have gG : GAt ((wc.alloc (.cells #[.int .i64 0, .int .i64 0, .bool false, .bool false] 149)).alloc (.cells #[.slice a ks.length cap] 56)) wc.heap.size ⟨0, 0, false, false⟩ := by simp [GAt, go_sem, World.cell?_alloc_past]
    have gP : PF ⟨wc.heap.size + 1, 0, none⟩ a cap ks ((wc.alloc (.cells #[.int .i64 0, .int .i64 0, .bool false, .bool false] 149)).alloc (.cells #[.slice a ks.length cap] 56)) := ⟨by simp [go_sem], pairs_later h.out (balloc (balloc hbw))⟩
    have gB : Below wc.heap.size wc ((wc.alloc (.cells #[.int .i64 0, .int .i64 0, .bool false, .bool false] 149)).alloc (.cells #[.slice a ks.length cap] 56)) := balloc (balloc (Below.refl _ _))
    have gS : ((wc.alloc (.cells #[.int .i64 0, .int .i64 0, .bool false, .bool false] 149)).alloc (.cells #[.slice a ks.length cap] 56)).heap.size = wc.heap.size + 2 := by simp
    obtain ⟨w5, hw5⟩ : ∃ w5, (wc.alloc (.cells #[.int .i64 0, .int .i64 0, .bool false, .bool false] 149)).alloc (.cells #[.slice a ks.length cap] 56) = w5 := ⟨_, rfl⟩
    rw [hw5] at gG gP gB gS ⊢
    clear hw5
    refine wpIn_wide (n := 6).1 ?_
    refine wpIn_rangeFunc_ownH (F := Fence.wide) (n := 6) rfl (by omega) (gf := 136) (lb := #[.pointer (some ⟨wc.heap.size + 1, 0, none⟩)]) rfl trivial (enters_of Tryz.func136 (by kernel_rfl) rfl)
      (pieces_stops 5 (by omega) ⟨wc.heap.size + 1, 0, none⟩ a cap ks hl pcOk hok (Kv w5.heap.size wc.heap.size) (fun A B hk hp => ?keep) w5 gP)
      (fun h1 h2 => h1.trans h2) (fun W l o o' h1 h2 _ _ => Kv.put W l o o' h1 h2) (Below.refl _ _) (fun _ => rfl)
      (fun pre W => GAt W wc.heap.size (vAll lo hi (pre.map Subtype.val)) ∧ Kv w5.heap.size wc.heap.size w5 W)
      (fun _ _ _ => False)
      (OwnFrom.and (Own.from (gat_own _ _) _) (fun s A B row hs hg hr => hs.grown (Nat.le_refl _) hg (fun r e => (hr r e).1)))
      (fun _ _ _ _ _ hs _ _ => hs)
      ⟨gG, Kv.refl _ _ _⟩
      (fun x a' W => ∃ Bx, w5.heap.size ≤ Bx ∧ (W.cell? ⟨Bx, 0, none⟩ = some (.int .i64 x.1.1.1) ∧ W.cell? ⟨Bx, 1, none⟩ = some (.int .i64 x.1.1.2) ∧ W.cell? ⟨Bx, 2, none⟩ = some (.int .i64 x.1.2.1) ∧ W.cell? ⟨Bx, 3, none⟩ = some (.int .i64 x.1.2.2)) ∧ a' = { tmps := #[.slice a ks.length cap, .agg #[.int .i64 lo, .int .i64 hi], .pointer (some ⟨w.heap.size, 0, none⟩), .pointer (some ⟨w.heap.size + 1, 0, none⟩), .pointer (some ⟨w.heap.size + 1 + 1, 0, none⟩), .int .i64 0, .int .i64 0, .pointer (some ⟨wc.heap.size, 0, none⟩), .pointer (some ⟨Bx, 0, none⟩), u9, u10, u11, u12, u13, u14, u15, u16, u17, u18, u19, u20, u21, u22, .int .i64 0, .bool false, u25, u26, .slice a ks.length cap, .func (.func 136) #[] #[.pointer (some ⟨wc.heap.size + 1, 0, none⟩)], .agg #[.int .i64 x.1.1.1, .int .i64 x.1.1.2, .int .i64 x.1.2.1, .int .i64 x.1.2.2], u30, u31, u32, u33, u34, u35, u36, u37, u38, u39, u40, u41, u42, u43, u44, u45, u46, u47, u48, u49, u50, u51, u52, u53, u54, u55], defers := [] })
      (fun x a' _ X Y row hs hg hr => by obtain ⟨Bx, h1, ⟨h2, h3, h4, h5⟩, h6⟩ := hs; exact ⟨Bx, h1, ⟨cell_kept h2 hg (fun r e => (hr r e).2), cell_kept h3 hg (fun r e => (hr r e).2), cell_kept h4 hg (fun r e => (hr r e).2), cell_kept h5 hg (fun r e => (hr r e).2)⟩, h6⟩)
      ?assign ?body ?done ?stop
    case keep => exact pf_kv h.out (by omega) (by omega) (by simp; omega) (by simp) hk hp
    case assign =>
      rintro l pre ⟨⟨⟨x0, y0⟩, ⟨x1, y1⟩⟩, hx⟩ W K ⟨hG, hK⟩ hKK
      have hKs := hK.size
      simp only [encP] at *
      have B1 : Below W.heap.size W (W.alloc (.cells #[.int .i64 x0, .int .i64 y0, .int .i64 x1, .int .i64 y1] 154)) := balloc (Below.refl _ _)
      gi_wp2
      exact hKK _ _ ((KeepsOthers.alloc _ _).from _) (Kv.grown (Kv.refl _ _ _) hKs (World.grownBy_alloc W _ none) (fun r e => by cases e)) ⟨gat_later hG B1, hK.grown (Nat.le_refl _) (World.grownBy_alloc W _ none) (fun r e => by cases e)⟩ ⟨W.heap.size, hKs, by simp [go_sem], rfl⟩
    case body =>
      rintro l pre ⟨⟨⟨x0, y0⟩, ⟨x1, y1⟩⟩, hx⟩ a' W hl5 ⟨r, hr⟩ ⟨hG, hK⟩ ⟨Bx, hBx, ⟨b0, b1, b2, b3⟩, rfl⟩ hlt
      have d0 := Kv.cell hK (show w.heap.size + 1 < w5.heap.size by omega) (show w.heap.size + 1 ≠ wc.heap.size by omega) (later gB c0)
      have d1 := Kv.cell hK (show w.heap.size + 1 < w5.heap.size by omega) (show w.heap.size + 1 ≠ wc.heap.size by omega) (later gB c1)
      simp only at b0 b1 b2 b3
      have hKs := hK.size
      have KK : ∀ V, Below W.heap.size W V → Kv w5.heap.size wc.heap.size W V := fun V hV => ⟨hV.os, hV.tape, hV.output, hV.size, fun k hk _ => hV.block k (by omega)⟩
      have GG : ∀ V, Below W.heap.size W V → GAt V wc.heap.size (vAll lo hi (pre.map Subtype.val)) := fun V hV => gat_later hG hV
      have AA : vAll lo hi ((pre ++ [(⟨((x0, y0), (x1, y1)), hx⟩ : { x : Pc // pcOk x })]).map Subtype.val) = vStep lo hi (vAll lo hi (pre.map Subtype.val)) ((x0, y0), (x1, y1)) := by rw [List.map_append]; exact vAll_snoc _ _ _ _
      gi_upto_region 7 with fail
      dsimp only
      gi_cut [9, 10] from 30 (fun s9 s10 wx => ∃ B9, s9 = .pointer (some ⟨B9, 0, none⟩) ∧ W.heap.size ≤ B9 ∧ s10 = .bool (decide (max x0 lo ≤ min x1 hi)) ∧ (wx.cell? ⟨B9, 0, none⟩ = some (.int .i64 (max x0 lo)) ∧ wx.cell? ⟨B9, 1, none⟩ = some (.int .i64 (min x1 hi))) ∧ Below W.heap.size W wx ∧ KeepsOthers W wx)
      case first =>
        refine region_inRound (fun w' => w'.cell? ⟨Bx, 0, none⟩ = some (.int .i64 x0) ∧ w'.cell? ⟨Bx, 1, none⟩ = some (.int .i64 y0) ∧ w'.cell? ⟨Bx, 2, none⟩ = some (.int .i64 x1) ∧ w'.cell? ⟨Bx, 3, none⟩ = some (.int .i64 y1) ∧ w'.cell? ⟨w.heap.size + 1, 0, none⟩ = some (.int .i64 lo) ∧ w'.cell? ⟨w.heap.size + 1, 1, none⟩ = some (.int .i64 hi) ∧ Below W.heap.size W w') (by kernel_rfl) (noDefer_spec (by kernel_rfl)) ?hL ⟨b0, b1, b2, b3, d0, d1, bdrew (Below.refl _ _)⟩ (fun hHeld => ?_)
        case hL => (rintro ⟨_, _, h⟩; exact h)
        (refine wpAnyH_take (i := 0) (v := ?_) rfl (by kernel_rfl) (by kernel_rfl) (by kernel_rfl) (fun _ _ _ h => h) (Or.inl ⟨by kernel_rfl, ?_⟩) (by assumption) ?_; rotate_left; focus (intro w hSw; (try dsimp only at hSw); go_simp; try with_reducible rfl))
        (try (simp only [Act.put, List.getElem_toArray, List.getElem_cons_zero, List.getElem_cons_succ, List.setIfInBounds_toArray, List.set_cons_zero, List.set_cons_succ]))
        (refine wpAnyH_take (i := 2) (v := ?_) rfl (by kernel_rfl) (by kernel_rfl) (by kernel_rfl) (fun _ _ _ h => h) (Or.inl ⟨by kernel_rfl, ?_⟩) (by assumption) ?_; rotate_left; focus (intro w hSw; (try dsimp only at hSw); go_simp; try with_reducible rfl))
        (try (simp only [Act.put, List.getElem_toArray, List.getElem_cons_zero, List.getElem_cons_succ, List.setIfInBounds_toArray, List.set_cons_zero, List.set_cons_succ]))
        refine wpAnyH_ready (rs := [1, 7]) (by kernel_rfl) (by simp) ?_
        refine AllReadyH.cons rfl (fun K hK => ?_) (AllReadyH.cons rfl (fun K hK => ?_) AllReadyH.nil)
        · go_simp
          go_at_call 96; refine (across_any _ _ _ _ _).mono ?_; rintro e wA ⟨rfl, hbA⟩
          (try go_wp2_with fail)
          have hB : Below W.heap.size W wA := bnext hHeld.2.2.2.2.2.2 hbA
          have hszA := hB.size
          refine hK.out _ _ ⟨later hB b0, later hB b1, later hB b2, later hB b3, later hB d0, later hB d1, hB⟩ (fun hHeld' => ?_)
          clear hK K hHeld
          have hHeld := hHeld'
          clear hHeld'
          (try (simp only [Act.put, List.getElem_toArray, List.getElem_cons_zero, List.getElem_cons_succ, List.setIfInBounds_toArray, List.set_cons_zero, List.set_cons_succ]))
          refine wpAnyH_ready (rs := [3, 7]) (by kernel_rfl) (by simp) ?_
          refine AllReadyH.cons rfl (fun K hK => ?_) (AllReadyH.cons rfl (fun K hK => ?_) AllReadyH.nil)
          · go_simp
            go_at_call 95; refine (common_any _ _ _ _ _).mono ?_; rintro e wC ⟨rfl, hbC⟩
            (try go_wp2_with fail)
            have hB : Below W.heap.size W wC := bnext hHeld.2.2.2.2.2.2 hbC
            have hszC := hB.size
            have hBC := hB
            refine hK.out _ _ ⟨later hB b0, later hB b1, later hB b2, later hB b3, later hB d0, later hB d1, hB⟩ (fun hHeld' => ?_)
            clear hK K hHeld
            have hHeld := hHeld'
            clear hHeld'
            (try (simp only [Act.put, List.getElem_toArray, List.getElem_cons_zero, List.getElem_cons_succ, List.setIfInBounds_toArray, List.set_cons_zero, List.set_cons_succ]))
            (refine wpAnyH_take (i := 4) (v := ?_) rfl (by kernel_rfl) (by kernel_rfl) (by kernel_rfl) (fun _ _ _ h => h) (Or.inl ⟨by kernel_rfl, ?_⟩) (by assumption) ?_; rotate_left; focus (intro w hSw; (try dsimp only at hSw); go_simp; try with_reducible rfl))
            (try (simp only [Act.put, List.getElem_toArray, List.getElem_cons_zero, List.getElem_cons_succ, List.setIfInBounds_toArray, List.set_cons_zero, List.set_cons_succ]))
            (refine wpAnyH_take (i := 5) (v := ?_) rfl (by kernel_rfl) (by kernel_rfl) (by kernel_rfl) (fun _ _ _ h => h) (Or.inl ⟨by kernel_rfl, ?_⟩) (by assumption) ?_; rotate_left; focus (intro w hSw; (try dsimp only at hSw); go_simp; try with_reducible rfl))
            (try (simp only [Act.put, List.getElem_toArray, List.getElem_cons_zero, List.getElem_cons_succ, List.setIfInBounds_toArray, List.set_cons_zero, List.set_cons_succ]))
            (refine wpAnyH_take (i := 6) (v := ?_) rfl (by kernel_rfl) (by kernel_rfl) (by kernel_rfl) (fun _ _ _ h => h) (Or.inl ⟨by kernel_rfl, ?_⟩) (by assumption) ?_; rotate_left; focus (intro w hSw; (try dsimp only at hSw); go_simp; try with_reducible rfl))
            (try (simp only [Act.put, List.getElem_toArray, List.getElem_cons_zero, List.getElem_cons_succ, List.setIfInBounds_toArray, List.set_cons_zero, List.set_cons_succ]))
            refine wpAnyH_ready (rs := [7]) (by kernel_rfl) (by simp) ?_
            refine AllReadyH.cons rfl (fun K hK => ?_) AllReadyH.nil
            go_simp
            have hB := balloc hHeld.2.2.2.2.2.2 (o := .cells #[.int .i64 0, .int .i64 0] 23)
            refine hK.out _ _ ⟨later hB b0, later hB b1, later hB b2, later hB b3, later hB d0, later hB d1, hB⟩ (fun hHeld' => ?_)
            clear hK K hHeld
            have hHeld := hHeld'
            clear hHeld'
            (try (simp only [Act.put, List.getElem_toArray, List.getElem_cons_zero, List.getElem_cons_succ, List.setIfInBounds_toArray, List.set_cons_zero, List.set_cons_succ]))
            have hsz := hHeld.2.2.2.2.2.2.size
            refine wpAnyH_ready (rs := [8]) (by kernel_rfl) (by simp) ?_
            refine AllReadyH.cons rfl (fun K hK => ?_) AllReadyH.nil
            go_simp
            have hB := balloc hBC (o := .cells #[.int .i64 (max x0 lo), .int .i64 (min x1 hi)] 23)
            refine hK.out _ _ ⟨later hB b0, later hB b1, later hB b2, later hB b3, later hB d0, later hB d1, hB⟩ (fun hHeld' => ?_)
            clear hK K hHeld
            have hHeld := hHeld'
            clear hHeld'
            (try (simp only [Act.put, List.getElem_toArray, List.getElem_cons_zero, List.getElem_cons_succ, List.setIfInBounds_toArray, List.set_cons_zero, List.set_cons_succ]))
            (refine wpAnyH_take (i := 9) (v := ?_) rfl (by kernel_rfl) (by kernel_rfl) (by kernel_rfl) (fun _ _ _ h => h) (Or.inl ⟨by kernel_rfl, ?_⟩) (by assumption) ?_; rotate_left; focus (intro w hSw; (try dsimp only at hSw); go_simp; try with_reducible rfl))
            (try (simp only [Act.put, List.getElem_toArray, List.getElem_cons_zero, List.getElem_cons_succ, List.setIfInBounds_toArray, List.set_cons_zero, List.set_cons_succ]))
            refine wpAnyH_done (by kernel_rfl) ?_ _
            gi_wp2
            gi_meet
            exact ⟨_, rfl, by first | exact hszC | exact hszA | exact Nat.le_refl _, rfl, by first | exact two_set n2 n3 | exact two_set n0 n1 | (constructor <;> simp [go_sem]), hHeld.2.2.2.2.2.2, keeps_of_below hHeld.2.2.2.2.2.2⟩
          · go_simp
            have hB := balloc hHeld.2.2.2.2.2.2 (o := .cells #[.int .i64 0, .int .i64 0] 23)
            refine hK.out _ _ ⟨later hB b0, later hB b1, later hB b2, later hB b3, later hB d0, later hB d1, hB⟩ (fun hHeld' => ?_)
            clear hK K hHeld
            have hHeld := hHeld'
            clear hHeld'
            (try (simp only [Act.put, List.getElem_toArray, List.getElem_cons_zero, List.getElem_cons_succ, List.setIfInBounds_toArray, List.set_cons_zero, List.set_cons_succ]))
            refine wpAnyH_ready (rs := [3]) (by kernel_rfl) (by simp) ?_
            refine AllReadyH.cons rfl (fun K hK => ?_) AllReadyH.nil
            go_simp
            go_at_call 95; refine (common_any _ _ _ _ _).mono ?_; rintro e wC ⟨rfl, hbC⟩
            (try go_wp2_with fail)
            have hB : Below W.heap.size W wC := bnext hHeld.2.2.2.2.2.2 hbC
            have hszC := hB.size
            have hBC := hB
            have n0 : wC.cell? ⟨wA.heap.size, 0, none⟩ = some (.int .i64 0) := later hbC (by simp [go_sem])
            have n1 : wC.cell? ⟨wA.heap.size, 1, none⟩ = some (.int .i64 0) := later hbC (by simp [go_sem])
            have m0 : wC.frozen? ⟨wA.heap.size, 0, none⟩ = false := free_later hbC (v := .int .i64 0) (by simp [go_sem]) (by simp [go_sem])
            have m1 : wC.frozen? ⟨wA.heap.size, 1, none⟩ = false := free_later hbC (v := .int .i64 0) (by simp [go_sem]) (by simp [go_sem])
            refine hK.out _ _ ⟨later hB b0, later hB b1, later hB b2, later hB b3, later hB d0, later hB d1, hB⟩ (fun hHeld' => ?_)
            clear hK K hHeld
            have hHeld := hHeld'
            clear hHeld'
            (try (simp only [Act.put, List.getElem_toArray, List.getElem_cons_zero, List.getElem_cons_succ, List.setIfInBounds_toArray, List.set_cons_zero, List.set_cons_succ]))
            (refine wpAnyH_take (i := 4) (v := ?_) rfl (by kernel_rfl) (by kernel_rfl) (by kernel_rfl) (fun _ _ _ h => h) (Or.inl ⟨by kernel_rfl, ?_⟩) (by assumption) ?_; rotate_left; focus (intro w hSw; (try dsimp only at hSw); go_simp; try with_reducible rfl))
            (try (simp only [Act.put, List.getElem_toArray, List.getElem_cons_zero, List.getElem_cons_succ, List.setIfInBounds_toArray, List.set_cons_zero, List.set_cons_succ]))
            (refine wpAnyH_take (i := 5) (v := ?_) rfl (by kernel_rfl) (by kernel_rfl) (by kernel_rfl) (fun _ _ _ h => h) (Or.inl ⟨by kernel_rfl, ?_⟩) (by assumption) ?_; rotate_left; focus (intro w hSw; (try dsimp only at hSw); go_simp; try with_reducible rfl))
            (try (simp only [Act.put, List.getElem_toArray, List.getElem_cons_zero, List.getElem_cons_succ, List.setIfInBounds_toArray, List.set_cons_zero, List.set_cons_succ]))
            (refine wpAnyH_take (i := 6) (v := ?_) rfl (by kernel_rfl) (by kernel_rfl) (by kernel_rfl) (fun _ _ _ h => h) (Or.inl ⟨by kernel_rfl, ?_⟩) (by assumption) ?_; rotate_left; focus (intro w hSw; (try dsimp only at hSw); go_simp; try with_reducible rfl))
            (try (simp only [Act.put, List.getElem_toArray, List.getElem_cons_zero, List.getElem_cons_succ, List.setIfInBounds_toArray, List.set_cons_zero, List.set_cons_succ]))
            refine wpAnyH_ready (rs := [8]) (by kernel_rfl) (by simp) ?_
            refine AllReadyH.cons rfl (fun K hK => ?_) AllReadyH.nil
            go_simp
            have hB := bset (bset hHeld.2.2.2.2.2.2 (p := ⟨wA.heap.size, 0, none⟩) (by first | (simp; done) | omega | (simp; omega)) (.int .i64 (max x0 lo))) (p := ⟨wA.heap.size, 1, none⟩) (by first | (simp; done) | omega | (simp; omega)) (.int .i64 (min x1 hi))
            refine hK.out _ _ ⟨later hB b0, later hB b1, later hB b2, later hB b3, later hB d0, later hB d1, hB⟩ (fun hHeld' => ?_)
            clear hK K hHeld
            have hHeld := hHeld'
            clear hHeld'
            (try (simp only [Act.put, List.getElem_toArray, List.getElem_cons_zero, List.getElem_cons_succ, List.setIfInBounds_toArray, List.set_cons_zero, List.set_cons_succ]))
            (refine wpAnyH_take (i := 9) (v := ?_) rfl (by kernel_rfl) (by kernel_rfl) (by kernel_rfl) (fun _ _ _ h => h) (Or.inl ⟨by kernel_rfl, ?_⟩) (by assumption) ?_; rotate_left; focus (intro w hSw; (try dsimp only at hSw); go_simp; try with_reducible rfl))
            (try (simp only [Act.put, List.getElem_toArray, List.getElem_cons_zero, List.getElem_cons_succ, List.setIfInBounds_toArray, List.set_cons_zero, List.set_cons_succ]))
            refine wpAnyH_done (by kernel_rfl) ?_ _
            gi_wp2
            gi_meet
            exact ⟨_, rfl, by first | exact hszC | exact hszA | exact Nat.le_refl _, rfl, by first | exact two_set n2 n3 | exact two_set n0 n1 | (constructor <;> simp [go_sem]), hHeld.2.2.2.2.2.2, keeps_of_below hHeld.2.2.2.2.2.2⟩
        · go_simp
          have hB := balloc hHeld.2.2.2.2.2.2 (o := .cells #[.int .i64 0, .int .i64 0] 23)
          refine hK.out _ _ ⟨later hB b0, later hB b1, later hB b2, later hB b3, later hB d0, later hB d1, hB⟩ (fun hHeld' => ?_)
          clear hK K hHeld
          have hHeld := hHeld'
          clear hHeld'
          (try (simp only [Act.put, List.getElem_toArray, List.getElem_cons_zero, List.getElem_cons_succ, List.setIfInBounds_toArray, List.set_cons_zero, List.set_cons_succ]))
          refine wpAnyH_ready (rs := [1]) (by kernel_rfl) (by simp) ?_
          refine AllReadyH.cons rfl (fun K hK => ?_) AllReadyH.nil
          go_simp
          go_at_call 96; refine (across_any _ _ _ _ _).mono ?_; rintro e wA ⟨rfl, hbA⟩
          (try go_wp2_with fail)
          have hB : Below W.heap.size W wA := bnext hHeld.2.2.2.2.2.2 hbA
          have hszA := hB.size
          have n0 : wA.cell? ⟨W.heap.size, 0, none⟩ = some (.int .i64 0) := later hbA (by simp [go_sem])
          have n1 : wA.cell? ⟨W.heap.size, 1, none⟩ = some (.int .i64 0) := later hbA (by simp [go_sem])
          have m0 : wA.frozen? ⟨W.heap.size, 0, none⟩ = false := free_later hbA (v := .int .i64 0) (by simp [go_sem]) (by simp [go_sem])
          have m1 : wA.frozen? ⟨W.heap.size, 1, none⟩ = false := free_later hbA (v := .int .i64 0) (by simp [go_sem]) (by simp [go_sem])
          refine hK.out _ _ ⟨later hB b0, later hB b1, later hB b2, later hB b3, later hB d0, later hB d1, hB⟩ (fun hHeld' => ?_)
          clear hK K hHeld
          have hHeld := hHeld'
          clear hHeld'
          (try (simp only [Act.put, List.getElem_toArray, List.getElem_cons_zero, List.getElem_cons_succ, List.setIfInBounds_toArray, List.set_cons_zero, List.set_cons_succ]))
          refine wpAnyH_ready (rs := [3]) (by kernel_rfl) (by simp) ?_
          refine AllReadyH.cons rfl (fun K hK => ?_) AllReadyH.nil
          go_simp
          go_at_call 95; refine (common_any _ _ _ _ _).mono ?_; rintro e wC ⟨rfl, hbC⟩
          (try go_wp2_with fail)
          have hB : Below W.heap.size W wC := bnext hHeld.2.2.2.2.2.2 hbC
          have hszC := hB.size
          have hBC := hB
          have n2 : wC.cell? ⟨W.heap.size, 0, none⟩ = some (.int .i64 0) := later hbC n0
          have n3 : wC.cell? ⟨W.heap.size, 1, none⟩ = some (.int .i64 0) := later hbC n1
          have m2 : wC.frozen? ⟨W.heap.size, 0, none⟩ = false := free_later hbC n0 m0
          have m3 : wC.frozen? ⟨W.heap.size, 1, none⟩ = false := free_later hbC n1 m1
          refine hK.out _ _ ⟨later hB b0, later hB b1, later hB b2, later hB b3, later hB d0, later hB d1, hB⟩ (fun hHeld' => ?_)
          clear hK K hHeld
          have hHeld := hHeld'
          clear hHeld'
          (try (simp only [Act.put, List.getElem_toArray, List.getElem_cons_zero, List.getElem_cons_succ, List.setIfInBounds_toArray, List.set_cons_zero, List.set_cons_succ]))
          (refine wpAnyH_take (i := 4) (v := ?_) rfl (by kernel_rfl) (by kernel_rfl) (by kernel_rfl) (fun _ _ _ h => h) (Or.inl ⟨by kernel_rfl, ?_⟩) (by assumption) ?_; rotate_left; focus (intro w hSw; (try dsimp only at hSw); go_simp; try with_reducible rfl))
          (try (simp only [Act.put, List.getElem_toArray, List.getElem_cons_zero, List.getElem_cons_succ, List.setIfInBounds_toArray, List.set_cons_zero, List.set_cons_succ]))
          (refine wpAnyH_take (i := 5) (v := ?_) rfl (by kernel_rfl) (by kernel_rfl) (by kernel_rfl) (fun _ _ _ h => h) (Or.inl ⟨by kernel_rfl, ?_⟩) (by assumption) ?_; rotate_left; focus (intro w hSw; (try dsimp only at hSw); go_simp; try with_reducible rfl))
          (try (simp only [Act.put, List.getElem_toArray, List.getElem_cons_zero, List.getElem_cons_succ, List.setIfInBounds_toArray, List.set_cons_zero, List.set_cons_succ]))
          (refine wpAnyH_take (i := 6) (v := ?_) rfl (by kernel_rfl) (by kernel_rfl) (by kernel_rfl) (fun _ _ _ h => h) (Or.inl ⟨by kernel_rfl, ?_⟩) (by assumption) ?_; rotate_left; focus (intro w hSw; (try dsimp only at hSw); go_simp; try with_reducible rfl))
          (try (simp only [Act.put, List.getElem_toArray, List.getElem_cons_zero, List.getElem_cons_succ, List.setIfInBounds_toArray, List.set_cons_zero, List.set_cons_succ]))
          refine wpAnyH_ready (rs := [8]) (by kernel_rfl) (by simp) ?_
          refine AllReadyH.cons rfl (fun K hK => ?_) AllReadyH.nil
          go_simp
          have hB := bset (bset hHeld.2.2.2.2.2.2 (p := ⟨W.heap.size, 0, none⟩) (by first | (simp; done) | omega | (simp; omega)) (.int .i64 (max x0 lo))) (p := ⟨W.heap.size, 1, none⟩) (by first | (simp; done) | omega | (simp; omega)) (.int .i64 (min x1 hi))
          refine hK.out _ _ ⟨later hB b0, later hB b1, later hB b2, later hB b3, later hB d0, later hB d1, hB⟩ (fun hHeld' => ?_)
          clear hK K hHeld
          have hHeld := hHeld'
          clear hHeld'
          (try (simp only [Act.put, List.getElem_toArray, List.getElem_cons_zero, List.getElem_cons_succ, List.setIfInBounds_toArray, List.set_cons_zero, List.set_cons_succ]))
          (refine wpAnyH_take (i := 9) (v := ?_) rfl (by kernel_rfl) (by kernel_rfl) (by kernel_rfl) (fun _ _ _ h => h) (Or.inl ⟨by kernel_rfl, ?_⟩) (by assumption) ?_; rotate_left; focus (intro w hSw; (try dsimp only at hSw); go_simp; try with_reducible rfl))
          (try (simp only [Act.put, List.getElem_toArray, List.getElem_cons_zero, List.getElem_cons_succ, List.setIfInBounds_toArray, List.set_cons_zero, List.set_cons_succ]))
          refine wpAnyH_done (by kernel_rfl) ?_ _
          gi_wp2
          gi_meet
          exact ⟨_, rfl, by first | exact hszC | exact hszA | exact Nat.le_refl _, rfl, by first | exact two_set n2 n3 | exact two_set n0 n1 | (constructor <;> simp [go_sem]), hHeld.2.2.2.2.2.2, keeps_of_below hHeld.2.2.2.2.2.2⟩
      case rest =>
        obtain ⟨B9, rfl, hB9, rfl, ⟨q0, q1⟩, hBw, hKo⟩ := hcut
        by_cases hov : max x0 lo ≤ min x1 hi
        · rw [decide_eq_true hov]
          gi_wp2_with (refine ⟨trivial, ?_⟩; gi_at_call 97; refine (CallsIn.inRound l (callsIn_wide.2 (ends_any (max x0 lo) (min x1 hi) _))).mono ?_; rintro e w8 ⟨rfl, hb8⟩)
          have g8 := gat_later (GG _ hBw) hb8
          have B8 := bnext hBw hb8
          have K8 := KK _ B8
          have O8 := keeps_of_below B8
          have e0 := later B8 b0
          have e1 := later B8 b1
          have e2 := later B8 b2
          have e3 := later B8 b3
          refine wpIn_loop_rounds 3 ?_
          rw [roundsIn_succ]
          have i0 : ∀ (x y : Value) w, (Instr.index 158 (.agg #[x, y]) (.int .i64 0)).run Tryz.prog w = .ok x w := fun _ _ _ => by kernel_rfl
          have i1 : ∀ (x y : Value) w, (Instr.index 158 (.agg #[x, y]) (.int .i64 1)).run Tryz.prog w = .ok y w := fun _ _ _ => by kernel_rfl
          have AT : ∀ x how V, (x0 ≤ x ∧ x ≤ x1) → Calls Tryz.prog 99 #[.agg #[.int .i64 x0, .int .i64 y0, .int .i64 x1, .int .i64 y1], .int .i64 x, .int .u8 how] V fun e w' => e = .returned (.int .i64 (atQ x0 y0 x1 y1 x how)) ∧ Below V.heap.size V w' := fun x how V hx' => at_any x0 y0 x1 y1 x how V (by have := hx; simp only [pcOk] at this; omega) (by have := hx; simp only [pcOk] at this; omega) (by have := hx; simp only [pcOk] at this; omega) (fun v e => by have := hx; simp only [pcOk] at this; have B := divQ_bounds ((y1 - y0) * (x - x0)) (x1 - x0) how (by omega) (by omega); rw [← e] at B; omega)
          have hxb := hx
          simp only [pcOk] at hxb
          gi_upto_region 12 with fail
          (try dsimp only)
          refine region_inRound (fun w' => w'.cell? ⟨Bx, 0, none⟩ = some (.int .i64 x0) ∧ w'.cell? ⟨Bx, 1, none⟩ = some (.int .i64 y0) ∧ w'.cell? ⟨Bx, 2, none⟩ = some (.int .i64 x1) ∧ w'.cell? ⟨Bx, 3, none⟩ = some (.int .i64 y1)) (by kernel_rfl) (noDefer_spec (by kernel_rfl)) (by rintro ⟨_, _, h⟩; exact h) ⟨e0, e1, e2, e3⟩ (fun hHeld => ?_)
          (refine wpAnyH_take (i := 0) (v := ?_) rfl (by kernel_rfl) (by kernel_rfl) (by kernel_rfl) (fun _ _ _ h => h) (Or.inl ⟨by kernel_rfl, ?_⟩) (by assumption) ?_; rotate_left; focus (intro w hSw; (try dsimp only at hSw); go_simp; try with_reducible rfl))
          (try (simp only [Act.put, List.getElem_toArray, List.getElem_cons_zero, List.getElem_cons_succ, List.setIfInBounds_toArray, List.set_cons_zero, List.set_cons_succ]))
          (refine wpAnyH_take (i := 1) (v := ?_) rfl (by kernel_rfl) (by kernel_rfl) (by kernel_rfl) (fun _ _ _ h => h) (Or.inl ⟨by kernel_rfl, ?_⟩) (by assumption) ?_; rotate_left; focus (intro w hSw; (try dsimp only at hSw); go_simp; try with_reducible rfl))
          (try (simp only [Act.put, List.getElem_toArray, List.getElem_cons_zero, List.getElem_cons_succ, List.setIfInBounds_toArray, List.set_cons_zero, List.set_cons_succ]))
          (refine wpAnyH_take (i := 3) (v := ?_) rfl (by kernel_rfl) (by kernel_rfl) (by kernel_rfl) (fun _ _ _ h => h) (Or.inl ⟨by kernel_rfl, ?_⟩) (by assumption) ?_; rotate_left; focus (intro w hSw; (try dsimp only at hSw); go_simp; try with_reducible rfl))
          (try (simp only [Act.put, List.getElem_toArray, List.getElem_cons_zero, List.getElem_cons_succ, List.setIfInBounds_toArray, List.set_cons_zero, List.set_cons_succ]))
          (refine wpAnyH_take (i := 4) (v := ?_) rfl (by kernel_rfl) (by kernel_rfl) (by kernel_rfl) (fun _ _ _ h => h) (Or.inl ⟨by kernel_rfl, ?_⟩) (by assumption) ?_; rotate_left; focus (intro w hSw; (try dsimp only at hSw); go_simp; try with_reducible rfl))
          (try (simp only [Act.put, List.getElem_toArray, List.getElem_cons_zero, List.getElem_cons_succ, List.setIfInBounds_toArray, List.set_cons_zero, List.set_cons_succ]))
          refine wpAnyH_ready (rs := [2]) (by kernel_rfl) (by simp) ?_
          refine AllReadyH.cons rfl (fun K hK => ?_) AllReadyH.nil
          go_simp
          go_at_call 99; refine (AT (max x0 lo) 1 _ (by omega)).mono ?_; rintro e wA1 ⟨rfl, hbA1⟩
          (try go_wp2_with fail)
          have gA1 := gat_later (w := w8.drew) g8 hbA1
          refine hK.out _ _ ⟨later hbA1 hHeld.1, later hbA1 hHeld.2.1, later hbA1 hHeld.2.2.1, later hbA1 hHeld.2.2.2⟩ (fun hHeld' => ?_)
          clear hK K hHeld
          have hHeld := hHeld'
          clear hHeld'
          (try (simp only [Act.put, List.getElem_toArray, List.getElem_cons_zero, List.getElem_cons_succ, List.setIfInBounds_toArray, List.set_cons_zero, List.set_cons_succ]))
          refine wpAnyH_ready (rs := [5]) (by kernel_rfl) (by simp) ?_
          refine AllReadyH.cons rfl (fun K hK => ?_) AllReadyH.nil
          go_simp
          go_at_call 99; refine (AT (max x0 lo) 2 _ (by omega)).mono ?_; rintro e wB1 ⟨rfl, hbB1⟩
          (try go_wp2_with fail)
          have gB1 := gat_later (w := wA1) gA1 hbB1
          refine hK.out _ _ ⟨later hbB1 hHeld.1, later hbB1 hHeld.2.1, later hbB1 hHeld.2.2.1, later hbB1 hHeld.2.2.2⟩ (fun hHeld' => ?_)
          clear hK K hHeld
          have hHeld := hHeld'
          clear hHeld'
          (try (simp only [Act.put, List.getElem_toArray, List.getElem_cons_zero, List.getElem_cons_succ, List.setIfInBounds_toArray, List.set_cons_zero, List.set_cons_succ]))
          refine wpAnyH_ready (rs := [6]) (by kernel_rfl) (by simp) ?_
          refine AllReadyH.cons rfl (fun K hK => ?_) AllReadyH.nil
          go_simp
          go_at_call 98; refine (add_any _ _ _ _ _ gB1).mono ?_; rintro e wC1 ⟨rfl, gC1, tC1⟩
          (try go_wp2_with fail)
          refine hK.out _ _ ⟨tC1.cell (by simp; omega) hHeld.1, tC1.cell (by simp; omega) hHeld.2.1, tC1.cell (by simp; omega) hHeld.2.2.1, tC1.cell (by simp; omega) hHeld.2.2.2⟩ (fun hHeld' => ?_)
          clear hK K hHeld
          have hHeld := hHeld'
          clear hHeld'
          (try (simp only [Act.put, List.getElem_toArray, List.getElem_cons_zero, List.getElem_cons_succ, List.setIfInBounds_toArray, List.set_cons_zero, List.set_cons_succ]))
          refine wpAnyH_done (by kernel_rfl) ?_ _
          have KC1 : Below w8.drew.heap.size w8.drew wB1 := hbA1.trans (hbB1.mono hbA1.size)
          gi_wp2
          rw [roundsIn_succ]
          gi_upto_region 12 with fail
          (try dsimp only)
          refine region_inRound (fun w' => w'.cell? ⟨Bx, 0, none⟩ = some (.int .i64 x0) ∧ w'.cell? ⟨Bx, 1, none⟩ = some (.int .i64 y0) ∧ w'.cell? ⟨Bx, 2, none⟩ = some (.int .i64 x1) ∧ w'.cell? ⟨Bx, 3, none⟩ = some (.int .i64 y1)) (by kernel_rfl) (noDefer_spec (by kernel_rfl)) (by rintro ⟨_, _, h⟩; exact h) ⟨hHeld.1, hHeld.2.1, hHeld.2.2.1, hHeld.2.2.2⟩ (fun hHeld => ?_)
          (refine wpAnyH_take (i := 0) (v := ?_) rfl (by kernel_rfl) (by kernel_rfl) (by kernel_rfl) (fun _ _ _ h => h) (Or.inl ⟨by kernel_rfl, ?_⟩) (by assumption) ?_; rotate_left; focus (intro w hSw; (try dsimp only at hSw); go_simp; try with_reducible rfl))
          (try (simp only [Act.put, List.getElem_toArray, List.getElem_cons_zero, List.getElem_cons_succ, List.setIfInBounds_toArray, List.set_cons_zero, List.set_cons_succ]))
          (refine wpAnyH_take (i := 1) (v := ?_) rfl (by kernel_rfl) (by kernel_rfl) (by kernel_rfl) (fun _ _ _ h => h) (Or.inl ⟨by kernel_rfl, ?_⟩) (by assumption) ?_; rotate_left; focus (intro w hSw; (try dsimp only at hSw); go_simp; try with_reducible rfl))
          (try (simp only [Act.put, List.getElem_toArray, List.getElem_cons_zero, List.getElem_cons_succ, List.setIfInBounds_toArray, List.set_cons_zero, List.set_cons_succ]))
          (refine wpAnyH_take (i := 3) (v := ?_) rfl (by kernel_rfl) (by kernel_rfl) (by kernel_rfl) (fun _ _ _ h => h) (Or.inl ⟨by kernel_rfl, ?_⟩) (by assumption) ?_; rotate_left; focus (intro w hSw; (try dsimp only at hSw); go_simp; try with_reducible rfl))
          (try (simp only [Act.put, List.getElem_toArray, List.getElem_cons_zero, List.getElem_cons_succ, List.setIfInBounds_toArray, List.set_cons_zero, List.set_cons_succ]))
          (refine wpAnyH_take (i := 4) (v := ?_) rfl (by kernel_rfl) (by kernel_rfl) (by kernel_rfl) (fun _ _ _ h => h) (Or.inl ⟨by kernel_rfl, ?_⟩) (by assumption) ?_; rotate_left; focus (intro w hSw; (try dsimp only at hSw); go_simp; try with_reducible rfl))
          (try (simp only [Act.put, List.getElem_toArray, List.getElem_cons_zero, List.getElem_cons_succ, List.setIfInBounds_toArray, List.set_cons_zero, List.set_cons_succ]))
          refine wpAnyH_ready (rs := [2]) (by kernel_rfl) (by simp) ?_
          refine AllReadyH.cons rfl (fun K hK => ?_) AllReadyH.nil
          go_simp
          go_at_call 99; refine (AT (min x1 hi) 1 _ (by omega)).mono ?_; rintro e wA2 ⟨rfl, hbA2⟩
          (try go_wp2_with fail)
          have gA2 := gat_later (w := wC1.drew) gC1 hbA2
          refine hK.out _ _ ⟨later hbA2 hHeld.1, later hbA2 hHeld.2.1, later hbA2 hHeld.2.2.1, later hbA2 hHeld.2.2.2⟩ (fun hHeld' => ?_)
          clear hK K hHeld
          have hHeld := hHeld'
          clear hHeld'
          (try (simp only [Act.put, List.getElem_toArray, List.getElem_cons_zero, List.getElem_cons_succ, List.setIfInBounds_toArray, List.set_cons_zero, List.set_cons_succ]))
          refine wpAnyH_ready (rs := [5]) (by kernel_rfl) (by simp) ?_
          refine AllReadyH.cons rfl (fun K hK => ?_) AllReadyH.nil
          go_simp
          go_at_call 99; refine (AT (min x1 hi) 2 _ (by omega)).mono ?_; rintro e wB2 ⟨rfl, hbB2⟩
          (try go_wp2_with fail)
          have gB2 := gat_later (w := wA2) gA2 hbB2
          refine hK.out _ _ ⟨later hbB2 hHeld.1, later hbB2 hHeld.2.1, later hbB2 hHeld.2.2.1, later hbB2 hHeld.2.2.2⟩ (fun hHeld' => ?_)
          clear hK K hHeld
          have hHeld := hHeld'
          clear hHeld'
          (try (simp only [Act.put, List.getElem_toArray, List.getElem_cons_zero, List.getElem_cons_succ, List.setIfInBounds_toArray, List.set_cons_zero, List.set_cons_succ]))
          refine wpAnyH_ready (rs := [6]) (by kernel_rfl) (by simp) ?_
          refine AllReadyH.cons rfl (fun K hK => ?_) AllReadyH.nil
          go_simp
          go_at_call 98; refine (add_any _ _ _ _ _ gB2).mono ?_; rintro e wC2 ⟨rfl, gC2, tC2⟩
          (try go_wp2_with fail)
          refine hK.out _ _ ⟨tC2.cell (by simp; omega) hHeld.1, tC2.cell (by simp; omega) hHeld.2.1, tC2.cell (by simp; omega) hHeld.2.2.1, tC2.cell (by simp; omega) hHeld.2.2.2⟩ (fun hHeld' => ?_)
          clear hK K hHeld
          have hHeld := hHeld'
          clear hHeld'
          (try (simp only [Act.put, List.getElem_toArray, List.getElem_cons_zero, List.getElem_cons_succ, List.setIfInBounds_toArray, List.set_cons_zero, List.set_cons_succ]))
          refine wpAnyH_done (by kernel_rfl) ?_ _
          have KC2 : Below wC1.drew.heap.size wC1.drew wB2 := hbA2.trans (hbB2.mono hbA2.size)
          gi_wp2
          rw [roundsIn_succ]
          gi_wp2
          have K8d : Kv w5.heap.size _ W w8.drew := ⟨K8.os, K8.tape, K8.output, K8.size, K8.block⟩
          have zA := K8.size
          have zB := KC1.size
          have zC := tC1.size
          have zD := KC2.size
          have KF1 : Kv w5.heap.size _ W wC1 := (K8d.trans (kv_of_touch (touch_of KC1) (show w5.heap.size ≤ w8.heap.size by omega))).trans (kv_of_touch tC1 (by simp at zB; omega))
          have KF1d : Kv w5.heap.size _ W wC1.drew := ⟨KF1.os, KF1.tape, KF1.output, KF1.size, KF1.block⟩
          have zE := KF1.size
          have KF : Kv w5.heap.size _ W wC2 := (KF1d.trans (kv_of_touch (touch_of KC2) (show w5.heap.size ≤ wC1.heap.size by omega))).trans (kv_of_touch tC2 (by simp at zD; omega))
          have OF : KeepsOthers W wC2 := ((((O8.trans (KeepsOthers.drew _)).trans (keeps_of_below KC1)).trans (keeps_of_touch tC1 gB1.1.1)).trans ((KeepsOthers.drew _).trans (keeps_of_below KC2))).trans (keeps_of_touch tC2 gB2.1.1)
          exact ⟨OF.from _, gS ▸ KF, by rw [AA]; unfold vStep; rw [if_pos hov]; exact gC2, gS ▸ hK.trans KF⟩
        · have hv : vStep lo hi (vAll lo hi (pre.map Subtype.val)) ((x0, y0), (x1, y1)) = vAll lo hi (pre.map Subtype.val) := by unfold vStep; rw [if_neg hov]
          have hv' := hide hv
          clear hv
          rw [decide_eq_false hov]
          gi_wp2
          exact ⟨hKo.from _, gS ▸ KK _ hBw, by rw [AA, hv'.out]; exact GG _ hBw, gS ▸ hK.trans (KK _ hBw)⟩
    case done =>
      rintro D ys W hD hys ⟨hG, hK⟩ hDD
      rw [hys] at hG
      have R' := hide fun w => result_any (vAll lo hi (segs ks (ks.length - 1))) w
      obtain ⟨g, hgv⟩ : ∃ g, vAll lo hi (segs ks (ks.length - 1)) = g := ⟨_, rfl⟩
      rw [hgv] at hG R'
      have hgv' := hide hgv
      clear hgv
      obtain ⟨⟨a0, a1, a2, a3⟩, f0, f1, f2, f3⟩ := id hG
      have d4 := Kv.cell hK (show w.heap.size + 1 + 1 < w5.heap.size by omega) (show w.heap.size + 1 + 1 ≠ wc.heap.size by omega) (later gB c4)
      have d5 := Kv.cell hK (show w.heap.size + 1 + 1 < w5.heap.size by omega) (show w.heap.size + 1 + 1 ≠ wc.heap.size by omega) (later gB c5)
      have e4 := Kv.free hK (show w.heap.size + 1 + 1 < w5.heap.size by omega) (show w.heap.size + 1 + 1 ≠ wc.heap.size by omega) (free_later gB c4 f4)
      have e5 := Kv.free hK (show w.heap.size + 1 + 1 < w5.heap.size by omega) (show w.heap.size + 1 + 1 ≠ wc.heap.size by omega) (free_later gB c5 f5)
      go_wp2_with (go_at_call 100; refine (R'.out _).mono ?_; rintro e w6 ⟨rfl, hb6⟩; have d4' := later hb6 d4; have d5' := later hb6 d5; have e4' := free_later hb6 d4 e4; have e5' := free_later hb6 d5 e5)
      have hD6 : w6.heap[D]? = some (.deferred (some [])) := (hb6.block D (Array.getElem?_eq_some_iff.1 hDD).1).trans hDD
      have hD7 := (KeepsOthers.setCell (w6.setCell ⟨w.heap.size + 1 + 1, 0, none⟩ (.int .i64 (gRes g).1)) ⟨w.heap.size + 1 + 1, 1, none⟩ (.int .i64 (gRes g).2.1)).same D _ ((KeepsOthers.setCell w6 ⟨w.heap.size + 1 + 1, 0, none⟩ (.int .i64 (gRes g).1)).same D _ hD6 rfl) rfl
      have y := two_set (x := .int .i64 (gRes g).1) (y := .int .i64 (gRes g).2.1) d4' d5'
      have y0 := cell_kept y.1 (grownBy_putObj' _ D (.deferred none)) (fun r e => by cases e; exact ⟨_, hD7, rfl⟩)
      have y1 := cell_kept y.2 (grownBy_putObj' _ D (.deferred none)) (fun r e => by cases e; exact ⟨_, hD7, rfl⟩)
      have B5 : Below w.heap.size w w5 := bnext hbw (gB.mono (Nat.le_refl _))
      have BW : Below w.heap.size w W := ⟨hK.os.trans B5.os, hK.tape.trans B5.tape, hK.output.trans B5.output, Nat.le_trans B5.size hK.size, fun k hk => (hK.block k (by omega) (by omega)).trans (B5.block k hk)⟩
      have B7 : Below w.heap.size w ((w6.setCell ⟨w.heap.size + 1 + 1, 0, none⟩ (.int .i64 (gRes g).1)).setCell ⟨w.heap.size + 1 + 1, 1, none⟩ (.int .i64 (gRes g).2.1)) := bset (bset (bnext BW hb6) (by simp; omega) _) (by simp; omega) _
      refine ⟨by simp, .inl ⟨_, _, rfl, run_takeDeferred hD7, ?_⟩⟩
      rw [hgv'.out]
      refine ⟨.tuple #[.agg #[.int .i64 (gRes g).1, .int .i64 (gRes g).2.1], .int .i64 (gRes g).2.2], ?_, rfl, ?_⟩
      · simp [results, Tryz.results48, go_sem, y0, y1]
      · exact B7.trans (belowK_b (w := w) (Nat.le_refl _) _ D _ _ (by omega) hD7 rfl rfl)
    case stop =>
      rintro D c pre W _ _ h _
      exact h.elim
end Go.Proofs.YtimfbjnpalgmcaaGreat

namespace Go.Proofs.YtimfbjnpalgmcaaGreat
set_option linter.unusedSimpArgs false
set_option linter.unusedVariables false
open Go.RowKit

theorem knot_of {ks : List (Int × Int)} (h : tabOk ks = true) {k : Nat} (hk : k < ks.length) : knotOk ks k = true := by
  unfold tabOk at h
  simp only [Bool.and_eq_true, List.all_eq_true, List.mem_range] at h
  exact h.2.2 k hk
theorem len_of {ks : List (Int × Int)} (h : tabOk ks = true) : 2 ≤ ks.length ∧ ks.length ≤ 60 := by
  unfold tabOk at h
  simp only [Bool.and_eq_true, decide_eq_true_eq] at h
  exact ⟨h.1, h.2.1⟩
theorem pcOk_of {ks : List (Int × Int)} (h : tabOk ks = true) : ∀ k, k < ks.length - 1 → pcOk (seg ks k) := by
  intro k hk
  have h0 := knot_of h (k := k) (by omega)
  have h1 := knot_of h (k := k + 1) (by omega)
  unfold knotOk at h0 h1
  unfold pcOk seg
  dsimp only
  simp only [Bool.and_eq_true, Bool.or_eq_true, decide_eq_true_eq, allIn, List.all_cons, List.all_nil, Nat.add_sub_cancel] at h0 h1
  omega

/-- The results of Value. -/
def valueQ (ks : List (Int × Int)) (lo hi : Int) : Int × Int × Int :=
  if tabOk ks = false then (0, 0, 2) else if [(lo, hi)].all rangeOk = false then (0, 0, 2) else if inDom ks lo hi = false then (0, 0, 7) else gRes (vAll lo hi (segs ks (ks.length - 1)))
theorem value_any (ks : List (Int × Int)) (a : Option Addr) (cap : Nat) (lo hi : Int) (w : World) (hl : ks.length ≤ 8796093022208) (h : IsPairs w a ks) :
    Calls Tryz.prog 48 #[.slice a ks.length cap, .agg #[.int .i64 lo, .int .i64 hi]] w fun e w' => e = .returned (.tuple #[.agg #[.int .i64 (valueQ ks lo hi).1, .int .i64 (valueQ ks lo hi).2.1], .int .i64 (valueQ ks lo hi).2.2]) ∧ Below w.heap.size w w' := by
  unfold valueQ
  have ht : ∀ c n, [(⟨c, n, ks⟩ : Tb)].all Tb.ok = tabOk ks := fun c n => by simp [Tb.ok]
  cases h1 : tabOk ks with
  | false =>
    rw [if_pos rfl]
    exact value_bad ks a cap lo hi 2 false ([(lo, hi)].all rangeOk) false w rfl ⟨(ht _ _).trans h1, rfl, fun h => (by simp at h), fun _ _ _ _ _ _ => rfl⟩ hl h
  | true =>
    rw [if_neg (by simp)]
    cases h2 : [(lo, hi)].all rangeOk with
    | false =>
      rw [if_pos rfl]
      exact value_bad ks a cap lo hi 2 true false (inDom ks lo hi) w rfl ⟨(ht _ _).trans h1, h2, fun _ => ⟨rfl, (len_of h1).1⟩, fun _ _ _ _ _ _ => rfl⟩ hl h
    | true =>
      rw [if_neg (by simp)]
      cases h3 : inDom ks lo hi with
      | false =>
        rw [if_pos rfl]
        exact value_bad ks a cap lo hi 7 true true false w rfl ⟨(ht _ _).trans h1, h2, fun _ => ⟨h3, (len_of h1).1⟩, fun _ _ _ _ _ _ => rfl⟩ hl h
      | true =>
        rw [if_neg (by simp)]
        exact value_good ks a cap lo hi w ⟨(ht _ _).trans h1, h2, fun _ => ⟨h3, (len_of h1).1⟩, fun _ _ _ _ _ _ => rfl⟩ hl h (pcOk_of h1)
end Go.Proofs.YtimfbjnpalgmcaaGreat
