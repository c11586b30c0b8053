/-
  units.gathered: add, addQuotient, result; ends.
-/
import Derived.Test.YtimfbjnpalgmcaaGreatPortC
import Derived.RegionTactic
import Derived.ChangeAlike
import Derived.BigRegion
namespace Go.Proofs.YtimfbjnpalgmcaaGreat
set_option linter.unusedSimpArgs false
set_option linter.unusedVariables false
open Go.RowKit

/-- Of what was there before, nothing but the block b has changed. -/
structure Touch (b : Nat) (w w' : World) : Prop where
  os : w'.os = w.os
  tape : w'.tape = w.tape
  output : w'.output = w.output
  size : w.heap.size ≤ w'.heap.size
  block : ∀ k, k < w.heap.size → k ≠ b → w'.heap[k]? = w.heap[k]?
theorem Touch.refl (b : Nat) (w : World) : Touch b w w := ⟨rfl, rfl, rfl, Nat.le_refl _, fun _ _ _ => rfl⟩
theorem touch_of {b : Nat} {w w' : World} (h : Below w.heap.size w w') : Touch b w w' := ⟨h.os, h.tape, h.output, h.size, fun k hk _ => h.block k hk⟩
theorem Touch.trans {b : Nat} {w W w' : World} (h : Touch b w W) (k : Touch b W w') : Touch b w w' :=
  ⟨k.os.trans h.os, k.tape.trans h.tape, k.output.trans h.output, Nat.le_trans h.size k.size, fun i hi hb => (k.block i (Nat.lt_of_lt_of_le hi h.size) hb).trans (h.block i hi hb)⟩
theorem tnext {b : Nat} {w W w' : World} (h : Touch b w W) (k : Below W.heap.size W w') : Touch b w w' := h.trans (touch_of k)
theorem tset {b : Nat} {w W : World} {p : Addr} (h : Touch b w W) (hp : p.block = b) (u : Value) : Touch b w (W.setCell p u) :=
  h.trans ⟨rfl, rfl, rfl, by simp [World.setCell], fun k _ hb => Below.heap_setCell _ _ _ _ (by omega)⟩
theorem talloc {b : Nat} {w W : World} (h : Touch b w W) {o : Obj} : Touch b w (W.alloc o) :=
  h.trans ⟨rfl, rfl, rfl, by simp, fun k hk _ => Below.heap_alloc _ _ _ (by omega)⟩
theorem tdrew {b : Nat} {w W : World} (h : Touch b w W) : Touch b w W.drew := ⟨h.os, h.tape, h.output, h.size, h.block⟩
theorem Touch.cell {b : Nat} {w w' : World} (h : Touch b w w') {p : Addr} {v : Value} (hp : p.block ≠ b) (hc : w.cell? p = some v) : w'.cell? p = some v :=
  (World.cell?_of_block (w := w) (h.block p.block (World.block_lt_of_cell? _ _ hc) hp)).trans hc
theorem Touch.free {b : Nat} {w w' : World} (h : Touch b w w') {p : Addr} {v : Value} (hp : p.block ≠ b) (hc : w.cell? p = some v) (hf : w.frozen? p = false) : w'.frozen? p = false :=
  (World.frozen?_of_block (w := w) (h.block p.block (World.block_lt_of_cell? _ _ hc) hp)).trans hf
theorem Touch.below {b : Nat} {w W w' : World} (h : Below w.heap.size w W) (k : Touch b W w') (hb : w.heap.size ≤ b) : Below w.heap.size w w' :=
  h.trans ⟨k.os, k.tape, k.output, k.size, fun i hi => k.block i (Nat.lt_of_lt_of_le hi h.size) (by omega)⟩

/-- What has been gathered. -/
structure Gth where
  l : Int
  h : Int
  s : Bool
  o : Bool
/-- It lies in the block b, and may be written. -/
def GAt (w : World) (b : Nat) (g : Gth) : Prop :=
  (w.cell? ⟨b, 0, none⟩ = some (.int .i64 g.l) ∧ w.cell? ⟨b, 1, none⟩ = some (.int .i64 g.h) ∧ w.cell? ⟨b, 2, none⟩ = some (.bool g.s) ∧ w.cell? ⟨b, 3, none⟩ = some (.bool g.o)) ∧
  (w.frozen? ⟨b, 0, none⟩ = false ∧ w.frozen? ⟨b, 1, none⟩ = false ∧ w.frozen? ⟨b, 2, none⟩ = false ∧ w.frozen? ⟨b, 3, none⟩ = false)
theorem gat_later {w W : World} {b : Nat} {g : Gth} (h : GAt w b g) (hb : Below w.heap.size w W) : GAt W b g := by
  obtain ⟨⟨a, b, c, d⟩, e, f, i, j⟩ := h
  exact ⟨⟨later hb a, later hb b, later hb c, later hb d⟩, free_later hb a e, free_later hb b f, free_later hb c i, free_later hb d j⟩

theorem gat_over {w : World} {b : Nat} {g : Gth} (u : Bool) (hg : GAt w b g) : GAt (w.setCell ⟨b, 3, none⟩ (.bool u)) b ⟨g.l, g.h, g.s, u⟩ := by
  obtain ⟨⟨a0, a1, a2, a3⟩, f0, f1, f2, f3⟩ := hg
  refine ⟨⟨?_, ?_, ?_, ?_⟩, ?_, ?_, ?_, ?_⟩ <;> simp [go_sem, a0, a1, a2, a3, f0, f1, f2, f3]

def gAdd (g : Gth) (low high : Int) : Gth := if g.s then ⟨min g.l low, max g.h high, true, g.o⟩ else ⟨low, high, true, g.o⟩

set_option maxHeartbeats 800000 in
theorem add_first (b : Nat) (l h low high : Int) (o : Bool) (w : World) (hg : GAt w b ⟨l, h, false, o⟩) :
    Calls Tryz.prog 98 #[.pointer (some ⟨b, 0, none⟩), .int .i64 low, .int .i64 high] w fun e w' => e = .returned (.tuple #[]) ∧ GAt w' b ⟨low, high, true, o⟩ ∧ Touch b w w' := by
  obtain ⟨⟨a0, a1, a2, a3⟩, f0, f1, f2, f3⟩ := hg
  simp only at a0 a1 a2 a3
  go_enter Tryz.func98, Tryz.ntmps98
  go_wp2
  refine bodyPost_ret (results_none rfl _ _ _) rfl ⟨rfl, ?_, ?_⟩
  · refine ⟨⟨?_, ?_, ?_, ?_⟩, ?_, ?_, ?_, ?_⟩ <;> simp [go_sem, a0, a1, a2, a3, f0, f1, f2, f3]
  · exact (by repeat (first | exact Touch.refl _ _ | assumption | (refine tset ?_ (by rfl) _) | apply talloc | apply tdrew | (refine tnext ?_ (by assumption)) | (refine Touch.trans ?_ (by assumption))))
set_option maxHeartbeats 800000 in
theorem add_more (b : Nat) (l hh low high : Int) (o : Bool) (w : World) (hg : GAt w b ⟨l, hh, true, o⟩) :
    Calls Tryz.prog 98 #[.pointer (some ⟨b, 0, none⟩), .int .i64 low, .int .i64 high] w fun e w' => e = .returned (.tuple #[]) ∧ GAt w' b ⟨min l low, max hh high, true, o⟩ ∧ Touch b w w' := by
  obtain ⟨⟨a0, a1, a2, a3⟩, f0, f1, f2, f3⟩ := hg
  simp only at a0 a1 a2 a3
  go_enter Tryz.func98, Tryz.ntmps98
  go_wp2
  go_region
  go_end0
  have e1 : (if low < l then low else l) = min l low := by rw [Int.min_def]; split <;> split <;> omega
  have e2 : (if hh < high then high else hh) = max hh high := by rw [Int.max_def]; split <;> split <;> omega
  rw [e1, e2]
  refine ⟨rfl, ?_, ?_⟩
  · refine ⟨⟨?_, ?_, ?_, ?_⟩, ?_, ?_, ?_, ?_⟩ <;> simp [go_sem, a0, a1, a2, a3, f0, f1, f2, f3]
  · exact (by repeat (first | exact Touch.refl _ _ | assumption | (refine tset ?_ (by rfl) _) | apply talloc | apply tdrew | (refine tnext ?_ (by assumption)) | (refine Touch.trans ?_ (by assumption))))
theorem add_any (b : Nat) (g : Gth) (low high : Int) (w : World) (hg : GAt w b g) :
    Calls Tryz.prog 98 #[.pointer (some ⟨b, 0, none⟩), .int .i64 low, .int .i64 high] w fun e w' => e = .returned (.tuple #[]) ∧ GAt w' b (gAdd g low high) ∧ Touch b w w' := by
  obtain ⟨l, h, s, o⟩ := g
  cases s with
  | false => exact add_first b l h low high o w hg
  | true => exact add_more b l h low high o w hg

/-- A quotient is added. -/
def gQuo (g : Gth) (x y c : Int) : Gth :=
  gAdd ⟨g.l, g.h, g.s, g.o || !(divQ (x * y) c 1).2.2 || !(divQ (x * y) c 2).2.2⟩ (divQ (x * y) c 1).1 (divQ (x * y) c 2).1

set_option maxHeartbeats 1600000 in
theorem addQuotient_any (b : Nat) (g : Gth) (x y c : Int) (w : World) (hg : GAt w b g) (x0 : -1000000000000000 ≤ x) (x1 : x ≤ 1000000000000000) (y0 : -1000000000000000 ≤ y) (y1 : y ≤ 1000000000000000) (c0 : 1 ≤ c) (c1 : c ≤ 1000000000000000) :
    Calls Tryz.prog 147 #[.pointer (some ⟨b, 0, none⟩), .int .i64 x, .int .i64 y, .int .i64 c] w fun e w' => e = .returned (.tuple #[]) ∧ GAt w' b (gQuo g x y c) ∧ Touch b w w' := by
  have P := prod_abs x0 x1 y0 y1
  have M := hide fun w => product_any x y w x0 x1 y0 y1
  have D1 := fun w => divide_any 1 (x * y) c w P.1 P.2 c0 c1
  have D2 := fun w => divide_any 2 (x * y) c w P.1 P.2 c0 c1
  unfold Div at D1 D2
  unfold gQuo
  generalize divQ (x * y) c 1 = d1 at *
  generalize divQ (x * y) c 2 = d2 at *
  obtain ⟨n1, r1, k1⟩ := d1
  obtain ⟨n2, r2, k2⟩ := d2
  simp only at D1 D2
  have D1' := hide D1
  have D2' := hide D2
  obtain ⟨l, hh, s, o⟩ := g
  clear D1 D2 P x0 x1 y0 y1 c0 c1
  go_enter Tryz.func147, Tryz.ntmps147
  go_wp2_with fail
  refine (M.out _).mono ?_
  rintro e w1 ⟨rfl, hb1⟩
  have hg1 := gat_later hg hb1
  go_wp2_with fail
  refine (D1'.out _).mono ?_
  rintro e w2 ⟨rfl, hb2⟩
  have q0 := later hb2 (a := ⟨w1.heap.size, 0, none⟩) (v := .int .i64 (x * y / 18446744073709551616)) (by simp [go_sem, World.cell?_alloc_past])
  have q1 := later hb2 (a := ⟨w1.heap.size, 1, none⟩) (v := .int .u64 (x * y % 18446744073709551616)) (by simp [go_sem, World.cell?_alloc_past])
  go_wp2_with fail
  refine (D2'.out _).mono ?_
  rintro e w3 ⟨rfl, hb3⟩
  have hg3 := gat_later hg (bnext (bnext (balloc hb1) hb2) hb3)
  have T3 := hide (touch_of (b := b) (bnext (bnext (balloc hb1) hb2) hb3))
  clear q0 q1 hb1 hb2 hb3 hg1
  have HG3 := hg3
  obtain ⟨⟨a0, a1, a2, a3⟩, f0, f1, f2, f3⟩ := hg3
  simp only at a0 a1 a2 a3
  clear hg
  cases o <;> cases k1 <;> cases k2
  all_goals
    go_wp2_with fail
    refine (add_any b _ _ _ _ (gat_over _ HG3)).mono ?_
    rintro e w4 ⟨rfl, hg4, ht4⟩
    go_wp2_with fail
    go_end0
    exact ⟨rfl, hg4, (tset T3.out rfl _).trans ht4⟩
end Go.Proofs.YtimfbjnpalgmcaaGreat
