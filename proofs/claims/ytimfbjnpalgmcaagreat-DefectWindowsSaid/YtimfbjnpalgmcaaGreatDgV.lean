/-
  defect: gaps. defect: gaps, at a row of one's own. defect: Window, where the model and the zones are valid and some rate is spoilt.
-/
import Derived.Test.YtimfbjnpalgmcaaGreatSrt
import Derived.Test.YtimfbjnpalgmcaaGreatApp
import Derived.Test.YtimfbjnpalgmcaaGreatWh
import Derived.Test.YtimfbjnpalgmcaaGreatFirst
import Derived.Test.YtimfbjnpalgmcaaGreatDgC
import Derived.Test.YtimfbjnpalgmcaaGreatDfJ
import Derived.Laws.AppendOwnNone
namespace Go.Proofs.YtimfbjnpalgmcaaGreat
set_option linter.unusedSimpArgs false
set_option linter.unusedVariables false
open Go.Shelf Go.RowKit Go.Lib Go.Sort

def cmpQ (a b : Int) : Int := if a < b then -1 else if b < a then 1 else 0
theorem isNaN_any (x : Int) (w : World) : Calls Tryz.prog 144 #[.int .i64 x] w fun e w' => e = .returned (.bool false) ∧ w = w' := by
  go_enter Tryz.func144, Tryz.ntmps144
  go_wp2_with fail
  go_ret
  exact ⟨ret_bool (by simp), rfl⟩
theorem compare_ints (a b : Int) (w : World) : Calls Tryz.prog 117 #[.int .i64 a, .int .i64 b] w fun e w' => e = .returned (.int .i64 (cmpQ a b)) ∧ w = w' := by
  by_cases h1 : a < b
  · have d1 : decide (a < b) = true := decide_eq_true h1
    have E := hide (show cmpQ a b = -1 by unfold cmpQ; rw [if_pos h1])
    clear h1
    go_enter Tryz.func117, Tryz.ntmps117
    go_wp2_with fail
    refine (isNaN_any _ _).mono ?_
    rintro e w1 ⟨rfl, rfl⟩
    go_wp2_with fail
    refine (isNaN_any _ _).mono ?_
    rintro e w1 ⟨rfl, rfl⟩
    go_wp2_with fail
    go_ret
    exact ⟨by rw [E.out]; rfl, rfl⟩
  · have d1 : decide (a < b) = false := decide_eq_false h1
    by_cases h2 : b < a
    · have d2 : decide (b < a) = true := decide_eq_true h2
      have E := hide (show cmpQ a b = 1 by unfold cmpQ; rw [if_neg h1, if_pos h2])
      clear h1 h2
      go_enter Tryz.func117, Tryz.ntmps117
      go_wp2_with fail
      refine (isNaN_any _ _).mono ?_
      rintro e w1 ⟨rfl, rfl⟩
      go_wp2_with fail
      refine (isNaN_any _ _).mono ?_
      rintro e w1 ⟨rfl, rfl⟩
      go_wp2_with fail
      go_ret
      exact ⟨by rw [E.out]; rfl, rfl⟩
    · have d2 : decide (b < a) = false := decide_eq_false h2
      have E := hide (show cmpQ a b = 0 by unfold cmpQ; rw [if_neg h1, if_neg h2])
      clear h1 h2
      go_enter Tryz.func117, Tryz.ntmps117
      go_wp2_with fail
      refine (isNaN_any _ _).mono ?_
      rintro e w1 ⟨rfl, rfl⟩
      go_wp2_with fail
      refine (isNaN_any _ _).mono ?_
      rintro e w1 ⟨rfl, rfl⟩
      go_wp2_with fail
      go_ret
      exact ⟨by rw [E.out]; rfl, rfl⟩
def encRg (x : Int × Int) : List Value := [.int .i64 x.1, .int .i64 x.2]
theorem gaps1_any (x y : Int × Int) (W : World) : Calls Tryz.prog 116 #[.agg #[.int .i64 x.1, .int .i64 x.2], .agg #[.int .i64 y.1, .int .i64 y.2]] W fun e w' => e = .returned (.int .i64 (cmpQ x.1 y.1)) ∧ ∃ q os', w' = grow (W.drewN q) os' := by
  have hcon := hide (fun W' => compare_ints x.1 y.1 W')
  generalize cmpQ x.1 y.1 = r at hcon ⊢
  go_enter Tryz.func116, Tryz.ntmps116
  go_wp2_with fail
  refine (hcon.out _).mono ?_
  rintro e w' ⟨rfl, rfl⟩
  go_wp2_with fail
  go_ret
  exact ⟨rfl, 0, _, by rw [alloc_eq_grow, alloc_eq_grow, grow_grow]; rfl⟩
theorem gapsLays (blk off size : Nat) (w : World) : CmpLays Tryz.prog 116 #[] encRg 2 (fun x y => cmpQ x.1 y.1) blk off size w := fun _ _ _ _ x y => gaps1_any x y _
theorem ltRg (x y : Int × Int) : ltOf (fun x y : Int × Int => cmpQ x.1 y.1) x y = decide (x.1 < y.1) := by
  unfold ltOf cmpQ
  by_cases h1 : x.1 < y.1
  · simp [h1]
  · by_cases h2 : y.1 < x.1 <;> simp [h1, h2]
theorem swoRg : SWO (ltOf fun x y : Int × Int => cmpQ x.1 y.1) where
  irrefl x := by rw [ltRg]; simp
  trans x y z h1 h2 := by rw [ltRg] at *; simp at *; omega
  ntrans x y z h1 h2 := by rw [ltRg] at *; simp at *; omega
theorem sortRg_any (blk off cap : Nat) (d : Array (Int × Int)) (w : World) (hH : HoldsK encRg 2 w blk off d) (hblk : blk < w.heap.size) (hsz : d.size < 4611686018427387904) :
    Calls Tryz.prog 115 #[.slice (some ⟨blk, off, none⟩) d.size cap, .func (.func 116) #[] #[]] w fun e w' => e = .returned (.tuple #[]) ∧ ∃ d' n os, PermIn 0 d.size d d' ∧ SortedIn (ltOf fun x y : Int × Int => cmpQ x.1 y.1) 0 d.size d' ∧ w' = sortWorldK encRg 2 w blk off n d' os := by
  have eg : ∀ args w, (callFunc 116 args).run Tryz.prog w = .ok (.enter 116 args) w := enters_of Tryz.func116 (by kernel_rfl) rfl
  exact AnyQ.slices_SortFunc sortRg 2 Tryz.isAgg23 Tryz.sizeOf23 encRg (fun _ => rfl) (fun x v hv => by simp [encRg] at hv; rcases hv with rfl | rfl <;> rfl) (fun x y => cmpQ x.1 y.1) swoRg 116 #[] blk off cap d w eg (gapsLays blk off d.size w) hH hblk hsz
end Go.Proofs.YtimfbjnpalgmcaaGreat

namespace Go.Proofs.YtimfbjnpalgmcaaGreat
set_option linter.unusedSimpArgs false
set_option linter.unusedVariables false
open Go.Shelf Go.RowKit Go.Lib Go.Sort

/-! What the loop builds, and that the order of ranges with one low end does not matter. -/
def nxtG (ds : List (Int × Int)) : Nat → Int
  | 0 => 0
  | k + 1 => max (nxtG ds k) ((ds.getD k (0, 0)).2 + 1)
def gapN (ds : List (Int × Int)) : Nat → List (Int × Int)
  | 0 => []
  | k + 1 => if nxtG ds k < (ds.getD k (0, 0)).1 then gapN ds k ++ [(nxtG ds k, (ds.getD k (0, 0)).1 - 1)] else gapN ds k
def gapF (ds : List (Int × Int)) : List (Int × Int) := if nxtG ds ds.length ≤ 1000000 then gapN ds ds.length ++ [(nxtG ds ds.length, 1000000)] else gapN ds ds.length
def gapR : Int → List (Int × Int) → List (Int × Int)
  | x, [] => if x ≤ 1000000 then [(x, 1000000)] else []
  | x, r :: l => if x < r.1 then (x, r.1 - 1) :: gapR (max x (r.2 + 1)) l else gapR (max x (r.2 + 1)) l
theorem gapN_len (ds : List (Int × Int)) : ∀ k, (gapN ds k).length ≤ k := by
  intro k
  induction k with
  | zero => simp [gapN]
  | succ k ih => unfold gapN; split <;> first | (simp; omega) | omega
theorem gapF_len (ds : List (Int × Int)) : (gapF ds).length ≤ ds.length + 1 := by
  have := gapN_len ds ds.length
  unfold gapF; split <;> first | (simp; omega) | omega
theorem nxtG_far (ds : List (Int × Int)) (h : ∀ r ∈ ds, 0 ≤ r.1 ∧ r.1 ≤ r.2 ∧ r.2 ≤ 1000000) : ∀ k, k ≤ ds.length → 0 ≤ nxtG ds k ∧ nxtG ds k ≤ 1000001 := by
  intro k
  induction k with
  | zero => intro _; simp [nxtG]
  | succ k ih =>
    intro hk
    have hm : ds.getD k (0, 0) ∈ ds := by
      rw [List.getD_eq_getElem?_getD, List.getElem?_eq_getElem (by omega)]; simp
    have := h _ hm
    have := ih (by omega)
    unfold nxtG
    omega
theorem gapN_R (ds : List (Int × Int)) : ∀ k, k ≤ ds.length → gapN ds k ++ gapR (nxtG ds k) (ds.drop k) = gapR 0 ds := by
  intro k
  induction k with
  | zero => intro _; simp [gapN, nxtG]
  | succ k ih =>
    intro hk
    have hd : ds.drop k = ds.getD k (0, 0) :: ds.drop (k + 1) := by
      rw [List.getD_eq_getElem?_getD, List.getElem?_eq_getElem (by omega)]
      exact List.drop_eq_getElem_cons (by omega)
    rw [← ih (by omega), hd, show gapN ds (k + 1) = if nxtG ds k < (ds.getD k (0, 0)).1 then gapN ds k ++ [(nxtG ds k, (ds.getD k (0, 0)).1 - 1)] else gapN ds k from rfl, show nxtG ds (k + 1) = max (nxtG ds k) ((ds.getD k (0, 0)).2 + 1) from rfl]
    simp only [gapR]
    split <;> simp
theorem gapF_R (ds : List (Int × Int)) : gapF ds = gapR 0 ds := by
  have := gapN_R ds ds.length (Nat.le_refl _)
  rw [← this, List.drop_length]
  unfold gapF gapR
  split <;> simp
theorem gapR_swap (x : Int) (a b : Int × Int) (l : List (Int × Int)) (h : a.1 = b.1) (ha : a.1 ≤ a.2) (hb : b.1 ≤ b.2) : gapR x (a :: b :: l) = gapR x (b :: a :: l) := by
  have e : max (max x (a.2 + 1)) (b.2 + 1) = max (max x (b.2 + 1)) (a.2 + 1) := by omega
  have n1 : ¬ max x (a.2 + 1) < b.1 := by omega
  have n2 : ¬ max x (b.2 + 1) < a.1 := by omega
  simp only [gapR]
  rw [if_neg n1, if_neg n2, e, h]
theorem gapR_front (r : Int × Int) (hr : r.1 ≤ r.2) (s : List (Int × Int)) : ∀ (p : List (Int × Int)) (x : Int), (∀ q ∈ p, q.1 = r.1 ∧ q.1 ≤ q.2) → gapR x (p ++ r :: s) = gapR x (r :: (p ++ s)) := by
  intro p
  induction p with
  | nil => intro x _; rfl
  | cons q p ih =>
    intro x hp
    have hq := hp q (by simp)
    have h1 : ∀ y, gapR y (p ++ r :: s) = gapR y (r :: (p ++ s)) := fun y => ih y fun t ht => hp t (by simp [ht])
    have h2 : gapR x (q :: (p ++ r :: s)) = gapR x (q :: r :: (p ++ s)) := by simp only [gapR]; rw [h1]; rfl
    rw [List.cons_append, h2, gapR_swap x q r _ hq.1 hq.2 hr]; rfl
theorem gapR_perm : ∀ (l l' : List (Int × Int)) (x : Int), l.Perm l' → l.Pairwise (fun a b => a.1 ≤ b.1) → l'.Pairwise (fun a b => a.1 ≤ b.1) → (∀ r ∈ l, r.1 ≤ r.2) → gapR x l = gapR x l' := by
  intro l
  induction l with
  | nil => intro l' x hp _ _ _; rw [hp.nil_eq]
  | cons r l ih =>
    intro l' x hp h1 h2 h3
    obtain ⟨p, s, rfl⟩ := List.append_of_mem (hp.subset (List.mem_cons_self))
    have hps : l.Perm (p ++ s) := by
      have := hp.trans List.perm_middle
      exact this.cons_inv
    have hpr : ∀ q ∈ p, q.1 = r.1 ∧ q.1 ≤ q.2 := by
      intro q hq
      have a1 : q.1 ≤ r.1 := (List.pairwise_append.1 h2).2.2 q hq r (by simp)
      have a2 : q ∈ l := hps.symm.subset (by simp [hq])
      have a3 : r.1 ≤ q.1 := (List.pairwise_cons.1 h1).1 q a2
      exact ⟨by omega, h3 q (by simp [a2])⟩
    rw [gapR_front r (h3 r (by simp)) s p x hpr]
    have := ih (p ++ s) (max x (r.2 + 1)) hps (List.pairwise_cons.1 h1).2 (h2.sublist (by simp)) fun t ht => h3 t (by simp [ht])
    simp only [gapR]
    rw [this]

/-! The row. -/
theorem below_sorted {w : World} (blk off n : Nat) (d : Array (Int × Int)) (os : Array Obj) (hblk : blk < w.heap.size) : Below blk w (sortWorldK encRg 2 w blk off n d os) := by
  refine ⟨rfl, rfl, rfl, size_sortWorldK_c _ _ _ _ _ _ _ _, fun k hk => ?_⟩
  unfold sortWorldK
  rw [heap_grow_old _ _ (by rw [size_putRowK]; exact Nat.lt_trans hk hblk)]
  have : blk ≠ k := by omega
  simp [putRowK, putRow, mapBlock, Sort.ahead, Array.getElem?_modify, this]
theorem pairs_holds {w : World} {blk off : Nat} {d : Array (Int × Int)} (h : HoldsK encRg 2 w blk off d) : IsPairs w (some ⟨blk, off, none⟩) d.toList := by
  refine .inr ⟨blk, off, rfl, fun i hi => ?_⟩
  have hi' : i < d.size := by simpa using hi
  have e : d.toList.getD i (0, 0) = d[i]! := by
    rw [List.getD_eq_getElem?_getD, getElem!_pos d i hi']; simp [hi']
  have a := (h (i * 2) (by rw [size_flatK]; omega)).1
  have b := (h (i * 2 + 1) (by rw [size_flatK]; omega)).1
  rw [get_flatK _ _ _ _ (by omega)] at a b
  rw [show i * 2 / 2 = i by omega, show i * 2 % 2 = 0 by omega] at a
  rw [show (i * 2 + 1) / 2 = i by omega, show (i * 2 + 1) % 2 = 1 by omega] at b
  rw [e]
  exact ⟨a, b⟩
theorem holds_own {w : World} {base g cap : Nat} {T : TypeId} {ps : List (Int × Int)} (h : w.ownsRow base T 2 (.slice (some ⟨g, 0, none⟩) ps.length cap) ps.length (rowOf ps)) : HoldsK encRg 2 w g 0 ps.toArray := by
  obtain ⟨b, c, e, _, hp⟩ := pairs_of_own h
  have fz : ∀ o, w.frozen? ⟨g, o, none⟩ = false := by
    rcases h.2 with ⟨e', _⟩ | ⟨g', cap', cur, e', _, hg, _⟩
    · cases e'
    · cases e'
      intro o
      simp [World.frozen?, hg]
  intro j hj
  refine ⟨?_, fz _⟩
  rw [size_flatK] at hj
  have hj' : j / 2 < ps.length := by simp at hj; omega
  rcases hp with h0 | ⟨b', off, e2, hp⟩
  · subst h0; simp at hj'
  · cases e
    cases e2
    have c := hp (j / 2) hj'
    have e1 : (ps.toArray)[j / 2]! = ps.getD (j / 2) (0, 0) := by
      rw [List.getD_eq_getElem?_getD, getElem!_pos _ _ (by simpa using hj')]; simp [hj']
    rw [get_flatK _ _ _ _ hj, e1]
    rcases Nat.mod_two_eq_zero_or_one j with m | m
    · rw [m, show (0 : Nat) + j = 0 + j / 2 * 2 by omega]; exact c.1
    · rw [m, show (0 : Nat) + j = 0 + j / 2 * 2 + 1 by omega]; exact c.2
theorem perm_of_in {d d' : Array (Int × Int)} (h : PermIn 0 d.size d d') : d'.toList.Perm d.toList := by
  have := h.2.2
  rw [show d'.extract 0 d.size = d' by rw [← h.1]; simp, show d.extract 0 d.size = d by simp] at this
  exact this
theorem pairwise_of_sorted {d : Array (Int × Int)} (h : SortedIn (ltOf fun x y : Int × Int => cmpQ x.1 y.1) 0 d.size d) : d.toList.Pairwise (fun a b => a.1 ≤ b.1) := by
  rw [List.pairwise_iff_getElem]
  intro i j hi hj hij
  have := h i j (by omega) hij (by simpa using hj)
  rw [ltRg, getElem!_pos d j (by simpa using hj), getElem!_pos d i (by simpa using hi)] at this
  simpa using this

/-! The walk. -/
def GpPost (w : World) (blk : Nat) (L : List (Int × Int)) (e : Ending) (w' : World) : Prop := ∃ v, e = .returned v ∧ w'.ownsRow w.heap.size 23 2 v L.length (rowOf L) ∧ Below blk w w'
set_option maxRecDepth 100000 in
set_option maxHeartbeats 6400000 in
theorem gaps_go (blk off n cap : Nat) (w : World) (F : List (Int × Int)) (hn1 : Hid (n ≤ 1000)) (hblk : Hid (blk < w.heap.size)) (Q : List (Int × Int) → World → Prop)
    (hQ : Hid (∀ ds W1, Q ds W1 → ∃ (nx : Nat → Int) (N : Nat → List (Int × Int)), Hid (ds.length = n) ∧ Hid (IsPairs W1 (some ⟨blk, off, none⟩) ds) ∧ Hid (Below blk w W1) ∧ Hid (nx 0 = 0) ∧ Hid (∀ k, nx (k + 1) = max (nx k) ((ds.getD k (0, 0)).2 + 1)) ∧ Hid (∀ k, k ≤ n → 0 ≤ nx k ∧ nx k ≤ 1000001) ∧ Hid (∀ k, k < n → 0 ≤ (ds.getD k (0, 0)).1 ∧ (ds.getD k (0, 0)).1 ≤ 1000000 ∧ 0 ≤ (ds.getD k (0, 0)).2 ∧ (ds.getD k (0, 0)).2 ≤ 1000000) ∧
      Hid (N 0 = []) ∧ Hid (∀ k, N (k + 1) = if nx k < (ds.getD k (0, 0)).1 then N k ++ [(nx k, (ds.getD k (0, 0)).1 - 1)] else N k) ∧ Hid (∀ k, (N k).length ≤ k) ∧ Hid (F = if nx n ≤ 1000000 then N n ++ [(nx n, 1000000)] else N n)))
    (hS : Hid (Calls Tryz.prog 115 #[.slice (some ⟨blk, off, none⟩) n cap, .func (.func 116) #[] #[]] w fun e w' => e = .returned (.tuple #[]) ∧ ∃ ds, Q ds w')) :
    Calls Tryz.prog 65 #[.slice (some ⟨blk, off, none⟩) n cap] w (GpPost w blk F) := by
  go_enter Tryz.func65, Tryz.ntmps65
  go_wp2_with fail
  refine hS.out.mono ?_
  rintro e w1 ⟨rfl, ds, hq⟩
  obtain ⟨nx, N, hn, hp, hW, hx0, hx, hxf, hr, hN0, hN, hL, hF⟩ := hQ.out ds w1 hq
  clear hq hQ
  clear hS
  go_wp2_with fail
  go_loopw [3, 4, 11] (fun v x i wr => ∃ k : Nat, k ≤ n ∧ i = .int .i64 (k : Int) ∧ x = .int .i64 (nx k) ∧ Hid (wr.ownsRow w1.heap.size 23 2 v (N k).length (rowOf (N k))) ∧ Below w1.heap.size w1 wr) (fun _ _ i _ => n - (intOf i).toNat)
  case atStart => exact ⟨0, by omega, rfl, by rw [hx0.out], hide (by rw [hN0.out]; exact World.ownsRow_nil _ _ _ _), Below.refl _ _⟩
  case round =>
    obtain ⟨k, hk, rfl, rfl, hown, hb⟩ := hrel
    by_cases hlt : k < n
    · obtain ⟨c1, c2⟩ : wr.cell? ⟨blk, off + k * 2, none⟩ = some (.int .i64 (ds.getD k (0, 0)).1) ∧ wr.cell? ⟨blk, off + k * 2 + 1, none⟩ = some (.int .i64 (ds.getD k (0, 0)).2) := by
        rcases pairs_later hp.out hb with h | ⟨b', o', e', h⟩
        · have := hn.out; subst h; simp at this; omega
        · cases e'; exact h k (by have := hn.out; omega)
      have HNk := hide (hN.out k)
      have HLk := hide (hL.out k)
      have HXk := hide (hx.out k)
      have HXf := hide (hxf.out k hk)
      have HR := hide (hr.out k hlt)
      generalize (ds.getD k (0, 0)).1 = x at *
      generalize (ds.getD k (0, 0)).2 = y at *
      have k0 : k ≤ 1000 := by have := hn1.out; omega
      go_upto_region 7 with fail
      obtain ⟨w5, hw5⟩ : ∃ z, z = wr.alloc (.cells #[.int .i64 x, .int .i64 y] 23) := ⟨_, rfl⟩
      rw [← hw5]
      obtain ⟨p3, hp3⟩ : ∃ p, wr.heap.size = p := ⟨_, rfl⟩
      have L3 : w5.cell? ⟨p3, 0, none⟩ = some (.int .i64 x) := by rw [hw5, ← hp3]; exact (by simp [go_sem, World.cell?_alloc_past])
      have H3 : w5.cell? ⟨p3, 1, none⟩ = some (.int .i64 y) := by rw [hw5, ← hp3]; exact (by simp [go_sem, World.cell?_alloc_past])
      have B5 := hide (show Below w1.heap.size w1 w5 by rw [hw5]; exact balloc hb)
      have O5 := hide (show w5.ownsRow w1.heap.size 23 2 _ (N k).length (rowOf (N k)) by rw [hw5]; exact hown.out.alloc _)
      have SB := hide (show w1.heap.size ≤ w5.heap.size from B5.out.size)
      have OL := hide (fun k' (hk' : (Value.ownBlock _) = some k') => (show k' < p3 by rw [← hp3]; exact (hown.out.lt k' hk').2))
      rw [hp3]
      clear hw5 hp3 hown hb c1 c2
      generalize nx k = t at *
      have wy : IntKind.i64.wrap (y + 1) = y + 1 := IntWalk.i64_in _ (by have := HR.out; omega)
      have wx : IntKind.i64.wrap (x - 1) = x - 1 := IntWalk.i64_in _ (by have := HR.out; omega)
      by_cases hc : t < x
      · have dc : decide (t < x) = true := decide_eq_true hc
        have HE := hide (show N (k + 1) = N k ++ [(t, x - 1)] by rw [HNk.out, if_pos hc])
        clear hc HNk
        obtain ⟨x1, hx1⟩ : ∃ x1, x - 1 = x1 := ⟨_, rfl⟩
        rw [hx1] at wx HE
        go_wp2_with (at_builtin; refine wpList_append_rg rfl (.tmp 19) (.tmp 25) rfl w1.heap.size _ (N k) rfl (O5.out.alloc _) _ t x1 rfl ?_ ?_ ?_ ?_ ?_)
        · exact (by simp [go_sem, World.cell?_alloc_past])
        · exact (by simp [go_sem, World.cell?_alloc_past])
        · have := HLk.out; omega
        · have := SB.out; simp; omega
        · intro g gc w3 hown3 hgrow hx3 hlt3
          have B3 := hide (Below.grown (balloc (o := .cells #[.int .i64 t, .int .i64 x1] 23) B5.out) hgrow (by have := SB.out; simp; omega) (fun k' hk' => (O5.out.lt k' hk').1))
          have N3 := hide (show w3.ownsRow w1.heap.size 23 2 (.slice (some ⟨g, 0, none⟩) ((N k).length + 1) gc) (N k ++ [(t, x1)]).length (rowOf (N k ++ [(t, x1)])) by simpa using hown3)
          have H4 : w3.cell? ⟨p3, 1, none⟩ = some (.int .i64 y) := hgrow.cell (later (balloc (Below.refl _ _)) H3) (fun e => Nat.lt_irrefl _ (OL.out _ e.symm))
          clear hown3 hgrow hx3 L3 H3
          go_wp2_with fail
          go_roundw
          case rel => exact ⟨k + 1, by omega, by go_num, by rw [HXk.out], hide (by rw [HE.out]; exact N3.out), B3.out⟩
          case measure => simp [intOf]; omega
      · have dc : decide (t < x) = false := decide_eq_false hc
        have HE := hide (show N (k + 1) = N k by rw [HNk.out, if_neg hc])
        clear hc HNk
        go_wp2_with fail
        go_roundw
        case rel => exact ⟨k + 1, by omega, by go_num, by rw [HXk.out], hide (by rw [HE.out]; exact O5.out), B5.out⟩
        case measure => simp [intOf]; omega
    · obtain rfl : k = n := by omega
      have HNk := hF
      have HLk := hide (hL.out k)
      have HXf := hide (hxf.out k hk)
      have B5 := hide hb
      have SB := hide (show w1.heap.size ≤ wr.heap.size from hb.size)
      have W5 := hide (hW.out.trans (Below.mono hb (by have := hW.out.size; have := hblk.out; omega)))
      have k0 : k ≤ 1000 := hn1.out
      clear hb hN hL hx hr
      generalize nx k = t at *
      by_cases hc : t ≤ 1000000
      · have dc : decide (t ≤ 1000000) = true := decide_eq_true hc
        have HE := hide (show F = N k ++ [(t, 1000000)] by rw [HNk.out, if_pos hc])
        clear hc HNk hF
        go_wp2_with (at_builtin; refine wpList_append_rg rfl (.tmp 35) (.tmp 38) rfl w1.heap.size _ (N k) rfl (hown.out.alloc _) _ t 1000000 rfl ?_ ?_ ?_ ?_ ?_)
        · exact (by simp [go_sem, World.cell?_alloc_past])
        · exact (by simp [go_sem, World.cell?_alloc_past])
        · have := HLk.out; omega
        · have := SB.out; simp; omega
        · intro g gc w3 hown3 hgrow hx3 hlt3
          have B3 := hide (Below.grown (balloc (o := .cells #[.int .i64 t, .int .i64 1000000] 23) B5.out) hgrow (by have := SB.out; simp; omega) (fun k' hk' => (hown.out.lt k' hk').1))
          have N3 := hide (show w3.ownsRow w1.heap.size 23 2 (.slice (some ⟨g, 0, none⟩) ((N k).length + 1) gc) (N k ++ [(t, 1000000)]).length (rowOf (N k ++ [(t, 1000000)])) by simpa using hown3)
          have W3 := hide (hW.out.trans (Below.mono B3.out (show blk ≤ w1.heap.size by have := hW.out.size; have := hblk.out; omega)))
          have RV : Value.slice (some ⟨g, 0, none⟩) (N k ++ [(t, 1000000)]).length gc = .slice (some ⟨g, 0, none⟩) ((N k).length + 1) gc := by simp
          clear hown3 hgrow hx3
          go_wp2_with fail
          exact bodyPost_ret (v := .slice (some ⟨g, 0, none⟩) ((N k).length + 1) gc) (by simp [results, Tryz.results65, go_sem]) rfl ⟨_, rfl, by rw [HE.out]; exact owns_base N3.out hW.out.size, W3.out⟩
      · have dc : decide (t ≤ 1000000) = false := decide_eq_false hc
        have HE := hide (show F = N k by rw [HNk.out, if_neg hc])
        clear hc HNk hF
        obtain ⟨b9, c9, rfl, _, _⟩ := own_pairs hown.out
        go_wp2_with fail
        exact bodyPost_ret (v := .slice b9 (N k).length c9) (by simp [results, Tryz.results65, go_sem]) rfl ⟨_, rfl, by rw [HE.out]; exact owns_base hown.out hW.out.size, W5.out⟩
theorem gaps_any (g cap : Nat) (ps : List (Int × Int)) (w : World) (base : Nat) (hps : Hid (∀ r ∈ ps, 0 ≤ r.1 ∧ r.1 ≤ r.2 ∧ r.2 ≤ 1000000)) (hl : ps.length ≤ 1000) (hown : w.ownsRow base 23 2 (.slice (some ⟨g, 0, none⟩) ps.length cap) ps.length (rowOf ps)) (L : List (Int × Int)) (hL : ∀ ds : List (Int × Int), ds.Perm ps → ds.Pairwise (fun a b => a.1 ≤ b.1) → gapR 0 ds = L) :
    Calls Tryz.prog 65 #[.slice (some ⟨g, 0, none⟩) ps.length cap] w (GpPost w g L) := by
  have hblk : g < w.heap.size := (hown.lt g rfl).2
  have hH := holds_own hown
  have hs := sortRg_any g 0 cap ps.toArray w hH hblk (by simp; omega)
  refine gaps_go g 0 ps.length cap w L hl hblk (fun ds W => ds.Perm ps ∧ ds.Pairwise (fun a b => a.1 ≤ b.1) ∧ IsPairs W (some ⟨g, 0, none⟩) ds ∧ Below g w W) ?_ (hs.mono ?_)
  · rintro ds W ⟨q1, q2, q3, q4⟩
    have far : ∀ r ∈ ds, 0 ≤ r.1 ∧ r.1 ≤ r.2 ∧ r.2 ≤ 1000000 := fun r hr => hps.out r (q1.subset hr)
    have len := q1.length_eq
    refine ⟨nxtG ds, gapN ds, len, q3, q4, rfl, fun k => rfl, fun k hk => nxtG_far ds far k (by omega), fun k hk => ?_, rfl, fun k => rfl, gapN_len ds, ?_⟩
    · have hm : ds.getD k (0, 0) ∈ ds := by
        rw [List.getD_eq_getElem?_getD, List.getElem?_eq_getElem (by omega)]; simp
      have := far _ hm
      omega
    · rw [← hL ds q1 q2, ← gapF_R, ← len]; rfl
  · rintro e W ⟨rfl, d', n, os, p1, p2, rfl⟩
    have sz : d'.size = ps.toArray.size := p1.1
    refine ⟨rfl, d'.toList, by simpa using perm_of_in p1, pairwise_of_sorted (by rw [sz]; exact p2), pairs_holds (holdsK_sortWorldK_c _ _ _ _ _ ps.toArray d' n os hH hblk sz), below_sorted g 0 n d' os hblk⟩
end Go.Proofs.YtimfbjnpalgmcaaGreat

namespace Go.Proofs.YtimfbjnpalgmcaaGreat
set_option linter.unusedSimpArgs false
set_option linter.unusedVariables false
open Go.RowKit

/-- A list of ranges behind a list of ranges of the function's own. -/
theorem wpList_append_rgs {w : World} {ops : Array Oper} {rest : List Oper} {o : Oper} {a : Act} {Q : Exit → Act → World → Prop} (hgd : o.guard = none) (s x : Operand)
    (ho : o.op = .call { callee := .builtin .append, args := #[s, x], argTypes := #[41, 41] })
    (base : Nat) (v : Value) (zs ys : List (Int × Int)) (hs : a.eval s = v) (hown : w.ownsRow base 23 2 v zs.length (rowOf zs)) (b : Option Addr) (c : Nat) (hx : a.eval x = .slice b ys.length c)
    (hb : b = none → c = 0 ∧ ys = []) (hy : IsPairs w b ys) (hn : zs.length ≤ 1000000) (hm : ys.length ≤ 1000000) (hbase : base ≤ w.heap.size)
    (h : ∀ v' w', w'.ownsRow base 23 2 v' (zs ++ ys).length (rowOf (zs ++ ys)) → w.grownBy w' v.ownBlock → wpList Tryz.prog ops Q rest (a.put o.dst v') w') : wpList Tryz.prog ops Q (o :: rest) a w := by
  obtain ⟨ti, hi, hz0, hz1, hz2⟩ := info_parts range_info
  have er : rowOf (zs ++ ys) = rowOf zs ++ rowOf ys := by simp [rowOf]
  cases b with
  | none =>
    obtain ⟨rfl, rfl⟩ := hb rfl
    refine wpList_append_own_none hgd s x 41 ho base 23 ti 2 Tryz.underlying41 hi v zs.length (rowOf zs) hs hown hx ?_
    exact h v w (by rw [List.append_nil]; exact hown) (World.grownBy.refl _ _)
  | some ad =>
    refine wpList_append_own _ hgd s x 41 ho base 23 ti (.agg #[.int .i64 0, .int .i64 0]) 2 16 Tryz.underlying41 hi hz0 hz1 hz2 rfl (by decide) v zs.length (rowOf zs) hs hown ad ys.length c (rowOf ys) hx (rowOf_length ys) (rowOf_cell rfl hy) (rowOf_ones (zs := ys)) ?_ ?_ hbase ?_
    · unfold maxLen; omega
    · omega
    · intro v' w' k1 k2 _
      exact h v' w' (by rw [er, List.length_append]; exact k1) k2

def winN (m : Mdl) (zs : List (Int × Int)) (s : Int) : Nat → List (Int × Int)
  | 0 => []
  | k + 1 => winN m zs s k ++ spoN m (zs.getD k (0, 0)) s 5
theorem winN_len (m : Mdl) (zs : List (Int × Int)) (s : Int) : ∀ k, (winN m zs s k).length ≤ 5 * k := by
  intro k
  induction k with
  | zero => simp [winN]
  | succ k ih =>
    have := spoN_len m (zs.getD k (0, 0)) s 5
    unfold winN
    simp only [List.length_append]
    omega
theorem spoN_far (m : Mdl) (z : Int × Int) (s : Int) : ∀ k, ∀ r ∈ spoN m z s k, 0 ≤ r.1 ∧ r.1 ≤ r.2 ∧ r.2 ≤ 1000000 := by
  intro k
  induction k with
  | zero => simp [spoN]
  | succ k ih =>
    unfold spoN
    split
    · rename_i h
      intro r hr
      rcases List.mem_append.1 hr with hr | hr
      · exact ih r hr
      · simp only [List.mem_singleton] at hr
        subst hr
        simp only [spoB, Bool.and_eq_true, decide_eq_true_eq] at h
        have a1 := firQ_far m (sideL m k) z.1
        have a2 := firQ_far m (sideH m k) z.2
        exact ⟨a1.1, h.2.2, by show firQ m (sideH m k) z.2 - 1 ≤ 1000000; omega⟩
    · exact ih
theorem winN_far (m : Mdl) (zs : List (Int × Int)) (s : Int) : ∀ k, ∀ r ∈ winN m zs s k, 0 ≤ r.1 ∧ r.1 ≤ r.2 ∧ r.2 ≤ 1000000 := by
  intro k
  induction k with
  | zero => simp [winN]
  | succ k ih =>
    unfold winN
    intro r hr
    rcases List.mem_append.1 hr with hr | hr
    · exact ih r hr
    · exact spoN_far _ _ _ _ r hr
def WiPost (w : World) (L : List (Int × Int)) (e : Ending) (w' : World) : Prop := ∃ v, e = .returned (.tuple #[v, .int .i64 0]) ∧ w'.ownsRow w.heap.size 23 2 v L.length (rowOf L) ∧ Below w.heap.size w w'
set_option maxRecDepth 100000 in
set_option maxHeartbeats 6400000 in
theorem window_go (s' a0 b0 a1 b1 a2 b2 a3 b3 : Int) (zs : List (Int × Int)) (s : Int) (a : Option Addr) (cap : Nat) (w : World) (N : Nat → List (Int × Int)) (S : Int × Int → List (Int × Int)) (L : List (Int × Int)) (hl : Hid (zs.length ≤ 20)) (h : Hid (IsPairs w a zs)) (hg : Hid (∀ k, k < zs.length → grOk (zs.getD k (0, 0)) = true))
    (hN0 : Hid (N 0 = [])) (hN : Hid (∀ k, N (k + 1) = N k ++ S (zs.getD k (0, 0)))) (hL : Hid (∀ k, (N k).length ≤ 5 * k)) (hSL : Hid (∀ z, (S z).length ≤ 5)) (hne : Hid (N zs.length ≠ []))
    (hV : Hid (∀ W, IsPairs W a zs → Calls Tryz.prog 63 #[.agg #[.int .i64 s', .int .i64 a0, .int .i64 b0, .int .i64 a1, .int .i64 b1, .int .i64 a2, .int .i64 b2, .int .i64 a3, .int .i64 b3], .slice a zs.length cap, .int .u8 s] W fun e w' => e = .returned (.func (.func 112) #[] #[.pointer (some ⟨W.heap.size, 0, none⟩), .pointer (some ⟨W.heap.size + 1, 0, none⟩), .pointer (some ⟨W.heap.size + 1 + 1, 0, none⟩)]) ∧
      CndTells w' ⟨0, 112, #[.pointer (some ⟨W.heap.size, 0, none⟩), .pointer (some ⟨W.heap.size + 1, 0, none⟩), .pointer (some ⟨W.heap.size + 1 + 1, 0, none⟩)], true⟩ ∧ Below W.heap.size W w'))
    (hSp : Hid (∀ z W, grOk z = true → Calls Tryz.prog 64 #[.agg #[.int .i64 s', .int .i64 a0, .int .i64 b0, .int .i64 a1, .int .i64 b1, .int .i64 a2, .int .i64 b2, .int .i64 a3, .int .i64 b3], .agg #[.int .i64 z.1, .int .i64 z.2], .int .u8 s] W (SpPost W (S z))))
    (hG : Hid (∀ g gc base W, World.ownsRow W base 23 2 (.slice (some ⟨g, 0, none⟩) (N zs.length).length gc) (N zs.length).length (rowOf (N zs.length)) → Calls Tryz.prog 65 #[.slice (some ⟨g, 0, none⟩) (N zs.length).length gc] W (GpPost W g L))) :
    Calls Tryz.prog 23 #[.agg #[.int .i64 s', .int .i64 a0, .int .i64 b0, .int .i64 a1, .int .i64 b1, .int .i64 a2, .int .i64 b2, .int .i64 a3, .int .i64 b3], .slice a zs.length cap, .int .u8 s] w (WiPost w L) := by
  have MN := hide (mdlAt_new w ⟨s', a0, b0, a1, b1, a2, b2, a3, b3⟩ 26)
  have FE := hide (fun c1 => (show firstE [⟨0, 112, c1, true⟩] = 0 by simp [firstE]))
  go_enter Tryz.func23, Tryz.ntmps23
  go_wp2_with fail
  refine (hV.out _ (pairs_later h.out (by repeat (first | exact Below.refl _ _ | assumption | apply balloc | apply bdrew | (refine below_drewN ?_ _) | (refine bset ?_ (by first | (simp; done) | omega | (simp; omega)) _) | (refine bnext ?_ (by assumption)))))).mono ?_
  rintro e wA ⟨rfl, hA, hbA⟩
  (try simp at hA)
  have HA := hide hA
  have M1 := hide (mdlAt_later MN.out (show Below (w.alloc (.cells #[.int .i64 s', .int .i64 a0, .int .i64 b0, .int .i64 a1, .int .i64 b1, .int .i64 a2, .int .i64 b2, .int .i64 a3, .int .i64 b3] 26)).heap.size _ wA from (by repeat (first | exact Below.refl _ _ | assumption | apply balloc | apply bdrew | (refine below_drewN ?_ _) | (refine bset ?_ (by first | (simp; done) | omega | (simp; omega)) _) | (refine bnext ?_ (by assumption))))))
  have BA := hide (show Below w.heap.size w wA from (by repeat (first | exact Below.refl _ _ | assumption | apply balloc | apply bdrew | (refine below_drewN ?_ _) | (refine bset ?_ (by first | (simp; done) | omega | (simp; omega)) _) | (refine bnext ?_ (by assumption)))))
  clear hA hbA MN hV
  go_wp2_with fail
  refine (firstError_is 0 [⟨0, 112, _, true⟩] _ _ _ (FE.out _) (by simp) (by simp) (cnds_one_at (by simp)) (tells_one (cnd_later HA.out (balloc (Below.refl _ _))))).mono ?_
  rintro e wC ⟨rfl, hbC⟩
  have BC := hide (show Below wA.heap.size wA wC from (by repeat (first | exact Below.refl _ _ | assumption | apply balloc | apply bdrew | (refine below_drewN ?_ _) | (refine bset ?_ (by first | (simp; done) | omega | (simp; omega)) _) | (refine bnext ?_ (by assumption)))))
  clear hbC HA FE
  go_wp2_with fail
  go_loopw [9, 23] (fun v i wr => ∃ k : Nat, k ≤ zs.length ∧ i = .int .i64 (k : Int) ∧ Hid (wr.ownsRow wC.heap.size 23 2 v (N k).length (rowOf (N k))) ∧ Below wC.heap.size wC wr) (fun _ i _ => zs.length - (intOf i).toNat)
  case atStart => exact ⟨0, by omega, rfl, hide (by rw [hN0.out]; exact World.ownsRow_nil _ _ _ _), Below.refl _ _⟩
  case round =>
    obtain ⟨k, hk, rfl, hown, hb⟩ := hrel
    by_cases hlt : k < zs.length
    · obtain ⟨b, off, rfl, hc⟩ : ∃ b off, a = some ⟨b, off, none⟩ ∧ ∀ i, i < zs.length → wr.cell? ⟨b, off + i * 2, none⟩ = some (.int .i64 (zs.getD i (0, 0)).1) ∧ wr.cell? ⟨b, off + i * 2 + 1, none⟩ = some (.int .i64 (zs.getD i (0, 0)).2) := by
        rcases pairs_later h.out (bnext (bnext BA.out BC.out) hb) with h | h
        · subst h; simp at hlt
        · exact h
      obtain ⟨c1, c2⟩ := hc k hlt
      clear hc
      have HNk := hide (hN.out k)
      have HLk := hide (hL.out k)
      have gz := hg.out k hlt
      have SP := hide (fun W => hSp.out (zs.getD k (0, 0)) W gz)
      have SL := hide (hSL.out (zs.getD k (0, 0)))
      generalize hz : zs.getD k (0, 0) = z at *
      clear gz hz
      generalize S z = Sz at *
      obtain ⟨z1, z2⟩ := z
      simp only at c1 c2 SP
      have k20 : k ≤ 20 := by have := hl.out; omega
      go_upto_region 8 with fail
      obtain ⟨w5, hw5⟩ : ∃ z, z = wr.alloc (.cells #[.int .i64 z1, .int .i64 z2] 23) := ⟨_, rfl⟩
      rw [← hw5]
      obtain ⟨p3, hp3⟩ : ∃ p, wr.heap.size = p := ⟨_, rfl⟩
      have L3 : w5.cell? ⟨p3, 0, none⟩ = some (.int .i64 z1) := by rw [hw5, ← hp3]; exact (by simp [go_sem, World.cell?_alloc_past])
      have H3 : w5.cell? ⟨p3, 1, none⟩ = some (.int .i64 z2) := by rw [hw5, ← hp3]; exact (by simp [go_sem, World.cell?_alloc_past])
      have B5 := hide (show Below wC.heap.size wC w5 by rw [hw5]; exact balloc hb)
      have O5 := hide (show w5.ownsRow wC.heap.size 23 2 _ (N k).length (rowOf (N k)) by rw [hw5]; exact hown.out.alloc _)
      rw [hp3]
      have ⟨⟨⟨⟨m1, m2⟩, m3⟩, m4, m5⟩, ⟨m6, m7⟩, m8, m9⟩ := mdlAt_later M1.out (bnext BC.out B5.out)
      simp only at m1 m2 m3 m4 m5 m6 m7 m8 m9
      clear hw5 hp3 hown hb c1 c2
      go_wp2_with fail
      refine (SP.out _).mono ?_
      rintro e w6 ⟨v6, rfl, own6, hb6⟩
      obtain ⟨b9, c9, rfl, hnil, hp9⟩ := own_pairs own6
      have O6 := hide (owns_later O5.out hb6)
      have B6 := hide (bnext B5.out hb6)
      have HB9 := hide hnil
      have HP9 := hide hp9
      clear own6 hb6 hnil hp9 m1 m2 m3 m4 m5 m6 m7 m8 m9 L3 H3
      go_wp2_with (at_builtin; refine wpList_append_rgs rfl (.tmp 27) (.tmp 31) rfl wC.heap.size _ (N k) Sz rfl O6.out b9 c9 rfl HB9.out HP9.out ?_ ?_ ?_ ?_)
      · have := HLk.out; omega
      · have := SL.out; omega
      · exact B6.out.size
      · intro v7 w7 hown7 hgrow
        have B7 := hide (Below.grown B6.out hgrow B6.out.size (fun k' hk' => (O6.out.lt k' hk').1))
        have N7 := hide hown7
        clear hown7 hgrow
        go_wp2_with fail
        go_roundw
        case rel => exact ⟨k + 1, by omega, by go_num, hide (by rw [HNk.out, List.length_append]; exact N7.out), B7.out⟩
        case measure => simp [intOf]; omega
    · obtain rfl : k = zs.length := by omega
      obtain ⟨g, gc, rfl, hg1, hg2⟩ := hown.out.form (List.length_pos_iff.2 hne.out)
      have GP := hide (hG.out g gc _ wr hown.out)
      have B5 := hide hb
      have SG := hide (show w.heap.size ≤ wr.heap.size by have := BA.out.size; have := BC.out.size; have := hb.size; omega)
      clear hown hb hN hL hSL hSp hG
      go_wp2_with fail
      refine GP.out.mono ?_
      rintro e w8 ⟨v8, rfl, own8, hb8⟩
      have O8 := hide (owns_base own8 SG.out)
      have B8 := hide (bnext (bnext BA.out BC.out) (B5.out.trans (Below.mono hb8 hg1)))
      clear own8 hb8
      go_wp2_with fail
      exact bodyPost_ret (v := .tuple #[v8, .int .i64 0]) (by simp [results, Tryz.results23, go_sem]) rfl ⟨_, rfl, O8.out, B8.out⟩
theorem window_good (m : Mdl) (zs : List (Int × Int)) (s : Int) (a : Option Addr) (cap : Nat) (w : World) (L : List (Int × Int)) (hm : mdlOk m = true) (hl : zs.length ≤ 20) (hz : zs.all grOk = true) (hs : s < 32) (h : IsPairs w a zs) (hne : winN m zs s zs.length ≠ []) (hL : ∀ ds : List (Int × Int), ds.Perm (winN m zs s zs.length) → ds.Pairwise (fun a b => a.1 ≤ b.1) → gapR 0 ds = L) :
    Calls Tryz.prog 23 #[mdlV m, .slice a zs.length cap, .int .u8 s] w (WiPost w L) := by
  have e0 : zonE m zs s = 0 := by unfold zonE; rw [hm, hz]; simp; omega
  have hg : ∀ k, k < zs.length → grOk (zs.getD k (0, 0)) = true := fun k hk => List.all_eq_true.1 hz _ (by simp [hk])
  have hV := fun W (g : IsPairs W a zs) => validZones_ex m zs s a cap W (by omega) g
  rw [e0] at hV
  have len := winN_len m zs s zs.length
  exact window_go m.s _ _ _ _ _ _ _ _ zs s a cap w (winN m zs s) (fun z => spoN m z s 5) L hl h hg rfl (fun k => rfl) (winN_len m zs s) (fun z => spoN_len m z s 5) hne hV (fun z W g => spoilt_any m z s W hm g) (fun g gc base W hown => gaps_any g gc _ W base (winN_far m zs s _) (by omega) hown L hL)
end Go.Proofs.YtimfbjnpalgmcaaGreat
