/-
  A range that is appended to a list of ranges.
-/
import Derived.Test.YtimfbjnpalgmcaaGreatRun
import Derived.Test.YtimfbjnpalgmcaaGreatOwn
import Derived.Deep.AppendLies
import Derived.Deep.RegionHeld3
import Derived.Deep.DeepCutAuto
import Derived.BigRegion
namespace Go.Proofs.YtimfbjnpalgmcaaGreat
set_option linter.unusedSimpArgs false
set_option linter.unusedVariables false
open Go.RowKit

/-- What lay there before a call reads as before, behind the call and behind up to two new objects. -/
theorem bcellR {W w1 : World} (hb : Below W.heap.size W w1) : ((∀ b o, b < W.heap.size → w1.cell? ⟨b, o, none⟩ = W.cell? ⟨b, o, none⟩) ∧ (∀ b o, b < W.heap.size → w1.frozen? ⟨b, o, none⟩ = W.frozen? ⟨b, o, none⟩)) ∧
    ((∀ b o x, b < W.heap.size → (w1.alloc x).cell? ⟨b, o, none⟩ = W.cell? ⟨b, o, none⟩) ∧ (∀ b o x, b < W.heap.size → (w1.alloc x).frozen? ⟨b, o, none⟩ = W.frozen? ⟨b, o, none⟩)) ∧
    (∀ b o x y, b < W.heap.size → ((w1.alloc x).alloc y).cell? ⟨b, o, none⟩ = W.cell? ⟨b, o, none⟩) ∧ (∀ b o x y, b < W.heap.size → ((w1.alloc x).alloc y).frozen? ⟨b, o, none⟩ = W.frozen? ⟨b, o, none⟩) ∧
    ((∀ b, b < W.heap.size → ¬ b = w1.heap.size) ∧ (∀ b, b < W.heap.size → ¬ w1.heap.size = b) ∧ (∀ b, b < W.heap.size → ¬ b = w1.heap.size + 1) ∧ (∀ b, b < W.heap.size → ¬ w1.heap.size + 1 = b)) ∧ ((∀ b, b < W.heap.size → b < w1.heap.size) ∧ (∀ b, b < W.heap.size → b ≤ w1.heap.size) ∧ (∀ b, b < W.heap.size → b < w1.heap.size + 1) ∧ (∀ b, b < W.heap.size → b ≤ w1.heap.size + 1) ∧ (∀ b, b < W.heap.size → b < w1.heap.size + 1 + 1)) ∧ W.heap.size ≤ w1.heap.size :=
  ⟨⟨fun b o h => hb.cell (p := ⟨b, o, none⟩) h, fun b o h => hb.frozen (p := ⟨b, o, none⟩) h⟩,
    ⟨fun b o x h => (balloc hb).cell (p := ⟨b, o, none⟩) h, fun b o x h => (balloc hb).frozen (p := ⟨b, o, none⟩) h⟩,
    fun b o x y h => (balloc (balloc hb)).cell (p := ⟨b, o, none⟩) h, fun b o x y h => (balloc (balloc hb)).frozen (p := ⟨b, o, none⟩) h,
    ⟨fun b h => by have := hb.size; omega, fun b h => by have := hb.size; omega, fun b h => by have := hb.size; omega, fun b h => by have := hb.size; omega⟩, ⟨fun b h => by have := hb.size; omega, fun b h => by have := hb.size; omega, fun b h => by have := hb.size; omega, fun b h => by have := hb.size; omega, fun b h => by have := hb.size; omega⟩, hb.size⟩

theorem set_selfR {w : World} {b o : Nat} {v : Value} (h : (w.cell? ⟨b, o, none⟩).isSome = true) : (w.setCell ⟨b, o, none⟩ v).cell? ⟨b, o, none⟩ = some v := by
  obtain ⟨u, hu⟩ := Option.isSome_iff_exists.1 h
  simp [go_sem, hu]
/-- One range more behind a list of ranges of the function's own. -/
theorem wpList_append_rg {w : World} {ops : Array Oper} {rest : List Oper} {o : Oper} {a : Act} {Q : Exit → Act → World → Prop} (hgd : o.guard = none) (s x : Operand)
    (ho : o.op = .call { callee := .builtin .append, args := #[s, x], argTypes := #[41, 41] })
    (base : Nat) (v : Value) (zs : List (Int × Int)) (hs : a.eval s = v) (hown : w.ownsRow base 23 2 v zs.length (rowOf zs)) (q : Nat) (y z : Int) (hx : a.eval x = .slice (some ⟨q, 0, none⟩) 1 1)
    (c0 : w.cell? ⟨q, 0, none⟩ = some (.int .i64 y)) (c1 : w.cell? ⟨q, 1, none⟩ = some (.int .i64 z)) (hn : zs.length ≤ 1000000) (hbase : base ≤ w.heap.size)
    (h : ∀ g cap w', w'.ownsRow base 23 2 (.slice (some ⟨g, 0, none⟩) (zs.length + 1) cap) (zs.length + 1) (rowOf (zs ++ [(y, z)])) → w.grownBy w' v.ownBlock → (v.ownBlock = some g ∨ g = w.heap.size) → g < w'.heap.size → wpList Tryz.prog ops Q rest (a.put o.dst (.slice (some ⟨g, 0, none⟩) (zs.length + 1) cap)) w') : wpList Tryz.prog ops Q (o :: rest) a w := by
  obtain ⟨ti, hi, hz0, hz1, hz2⟩ := info_parts range_info
  refine wpList_append_lies w hgd s x 41 ho base 23 ti (.agg #[.int .i64 0, .int .i64 0]) 2 16 Tryz.underlying41 hi hz0 hz1 hz2 rfl (by decide) v zs.length (rowOf zs) hs hown ⟨q, 0, none⟩ 1 1 [.int .i64 y, .int .i64 z] hx rfl ?_ ?_ (by decide) ?_ ?_ hbase _ rfl ?_
  · intro j u hu
    match j, hu with
    | 0, hu => simp at hu; subst hu; exact c0
    | 1, hu => simp at hu; subst hu; exact c1
    | j + 2, hu => simp at hu
  · intro u hu; simp at hu; rcases hu with rfl | rfl <;> rfl
  · unfold maxLen; omega
  · omega
  · intro g cap w' k1 k2 k3 k4
    refine h g cap w' ?_ k2 k3 k4
    rw [rowOf_snoc]
    exact k1
/-- What a list of one's own is. -/
theorem own_pairs {w : World} {base : Nat} {v : Value} {zs : List (Int × Int)} (h : w.ownsRow base 23 2 v zs.length (rowOf zs)) : ∃ b c, v = .slice b zs.length c ∧ (b = none → c = 0 ∧ zs = []) ∧ IsPairs w b zs := pairs_of_own h
theorem pairs_set {W : World} {a : Option Addr} {ps : List (Int × Int)} {p : Addr} {u : Value} (h : IsPairs W a ps) (hne : ∀ ad, a = some ad → ad.block ≠ p.block) : IsPairs (W.setCell p u) a ps := by
  rcases h with h | ⟨b, off, e, h⟩
  · exact .inl h
  · refine .inr ⟨b, off, e, fun i hi => ?_⟩
    have n := hne _ e
    exact ⟨(World.cell?_setCell_other _ _ _ _ (fun hh => n (by have := congrArg Addr.block hh; exact this.symm))).trans (h i hi).1, (World.cell?_setCell_other _ _ _ _ (fun hh => n (by have := congrArg Addr.block hh; exact this.symm))).trans (h i hi).2⟩
end Go.Proofs.YtimfbjnpalgmcaaGreat
