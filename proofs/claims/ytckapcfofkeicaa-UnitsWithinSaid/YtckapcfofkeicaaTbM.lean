/-
  Tables: the value is the least range round the values at the ends and at the knots between them.
-/
import Derived.Test.YtckapcfofkeicaaPrs
namespace Go.Proofs.Ytckapcfofkeicaa
set_option linter.unusedSimpArgs false
set_option linter.unusedVariables false

def kX (ks : List (Int × Int)) (i : Nat) : Int := (ks.getD i (0, 0)).1
def kY (ks : List (Int × Int)) (i : Nat) : Int := (ks.getD i (0, 0)).2
/-- What the piece i has at x, rounded down and rounded up. -/
def dnQ (ks : List (Int × Int)) (i : Nat) (x : Int) : Int := kY ks i + (kY ks (i + 1) - kY ks i) * (x - kX ks i) / (kX ks (i + 1) - kX ks i)
def upQx (ks : List (Int × Int)) (i : Nat) (x : Int) : Int := kY ks i + upV ((kY ks (i + 1) - kY ks i) * (x - kX ks i)) (kX ks (i + 1) - kX ks i)

theorem knot_bounds {ks : List (Int × Int)} (h : tabOk ks = true) {i : Nat} (hi : i < ks.length) : (-1000000000000 ≤ kX ks i ∧ kX ks i ≤ 1000000000000) ∧ -1000000000000 ≤ kY ks i ∧ kY ks i ≤ 1000000000000 := by
  have h0 := knot_of h hi
  unfold knotOk at h0
  unfold kX kY
  simp only [Bool.and_eq_true, decide_eq_true_eq, allIn, List.all_cons, List.all_nil] at h0
  omega
theorem knot_next {ks : List (Int × Int)} (h : tabOk ks = true) {i : Nat} (hi : i + 1 < ks.length) : kX ks i < kX ks (i + 1) := by
  have h0 := knot_of h hi
  unfold knotOk at h0
  unfold kX
  simp only [Bool.and_eq_true, Bool.or_eq_true, decide_eq_true_eq, Nat.add_sub_cancel] at h0
  omega
theorem knot_mono {ks : List (Int × Int)} (h : tabOk ks = true) : ∀ (d i : Nat), i + d < ks.length → kX ks i ≤ kX ks (i + d) ∧ (0 < d → kX ks i < kX ks (i + d)) := by
  intro d
  induction d with
  | zero => intro i _; exact ⟨Int.le_refl _, fun h => by omega⟩
  | succ d ih =>
    intro i hi
    have a := (ih i (by omega)).1
    have b := knot_next h (i := i + d) hi
    rw [← Nat.add_assoc]
    exact ⟨by omega, fun _ => by omega⟩
theorem knot_lt {ks : List (Int × Int)} (h : tabOk ks = true) {i j : Nat} (hij : i < j) (hj : j < ks.length) : kX ks i < kX ks j := by
  have := (knot_mono h (j - i) i (by omega)).2 (by omega)
  rwa [show i + (j - i) = j by omega] at this
theorem knot_le {ks : List (Int × Int)} (h : tabOk ks = true) {i j : Nat} (hij : i ≤ j) (hj : j < ks.length) : kX ks i ≤ kX ks j := by
  have := (knot_mono h (j - i) i (by omega)).1
  rwa [show i + (j - i) = j by omega] at this

/-- A quotient between 0 and the whole rise. -/
theorem rise_bounds {d c e : Int} (c0 : 1 ≤ c) (e0 : 0 ≤ e) (e1 : e ≤ c) (d0 : -2000000000000 ≤ d) (d1 : d ≤ 2000000000000) : (-2000000000000 ≤ d * e / c ∧ d * e / c ≤ 2000000000000) ∧ -2000000000000 ≤ upV (d * e) c ∧ upV (d * e) c ≤ 2000000000000 := by
  have ee := Int.mul_ediv_add_emod (d * e) c
  have r0 := Int.emod_nonneg (d * e) (show c ≠ 0 by omega)
  have r1 := Int.emod_lt_of_pos (d * e) (show 0 < c by omega)
  have hi : d * e ≤ 2000000000000 * c := by
    rcases Int.le_total 0 d with h | h
    · have a := Int.mul_le_mul_of_nonneg_left e1 h
      have b := Int.mul_le_mul_of_nonneg_right d1 (show 0 ≤ c by omega)
      omega
    · have := Int.mul_nonpos_of_nonpos_of_nonneg h e0
      omega
  have lo : -2000000000000 * c ≤ d * e := by
    rcases Int.le_total 0 d with h | h
    · have := Int.mul_nonneg h e0
      omega
    · have a := Int.mul_le_mul_of_nonpos_left h e1
      have b := Int.mul_le_mul_of_nonneg_right d0 (show 0 ≤ c by omega)
      omega
  unfold upV
  generalize d * e / c = q at *
  generalize d * e % c = r at *
  have q1 : q ≤ 2000000000000 := by
    have : c * q ≤ c * 2000000000000 := by omega
    exact Int.le_of_mul_le_mul_left this (by omega)
  have q0 : -2000000000000 ≤ q := by
    have : c * (-2000000000000 - 1) < c * q := by rw [Int.mul_sub]; omega
    have := Int.lt_of_mul_lt_mul_left this (by omega)
    omega
  refine ⟨⟨q0, q1⟩, ?_⟩
  split
  · refine ⟨by omega, ?_⟩
    have : c * q < c * 2000000000000 := by omega
    have := Int.lt_of_mul_lt_mul_left this (by omega)
    omega
  · omega
theorem atQ_is {ks : List (Int × Int)} (h : tabOk ks = true) {i : Nat} (hi : i + 1 < ks.length) {x : Int} (x0 : kX ks i ≤ x) (x1 : x ≤ kX ks (i + 1)) :
    atQ (seg ks i).1.1 (seg ks i).1.2 (seg ks i).2.1 (seg ks i).2.2 x 1 = dnQ ks i x ∧ atQ (seg ks i).1.1 (seg ks i).1.2 (seg ks i).2.1 (seg ks i).2.2 x 2 = upQx ks i x := by
  have b0 := knot_bounds h (show i < ks.length by omega)
  have b1 := knot_bounds h hi
  have n := knot_next h hi
  have R := rise_bounds (d := kY ks (i + 1) - kY ks i) (c := kX ks (i + 1) - kX ks i) (e := x - kX ks i) (by omega) (by omega) (by omega) (by omega) (by omega)
  have e1 : atQ (seg ks i).1.1 (seg ks i).1.2 (seg ks i).2.1 (seg ks i).2.2 x 1 = kY ks i + (divQ ((kY ks (i + 1) - kY ks i) * (x - kX ks i)) (kX ks (i + 1) - kX ks i) 1).1 := rfl
  have e2 : atQ (seg ks i).1.1 (seg ks i).1.2 (seg ks i).2.1 (seg ks i).2.2 x 2 = kY ks i + (divQ ((kY ks (i + 1) - kY ks i) * (x - kX ks i)) (kX ks (i + 1) - kX ks i) 2).1 := rfl
  rw [e1, e2]
  unfold dnQ upQx
  generalize (kY ks (i + 1) - kY ks i) * (x - kX ks i) = N at *
  constructor
  · rcases divQ_down (N := N) (c := kX ks (i + 1) - kX ks i) (by omega) with ⟨_, e, _⟩ | ⟨_, e⟩
    · rw [e]
    · omega
  · rcases divQ_up (N := N) (c := kX ks (i + 1) - kX ks i) (by omega) with ⟨_, e, _⟩ | ⟨_, e⟩
    · rw [e]
    · omega
/-- At its ends a piece has the values of its knots. -/
theorem dn_left {ks : List (Int × Int)} {i : Nat} : dnQ ks i (kX ks i) = kY ks i ∧ upQx ks i (kX ks i) = kY ks i := by
  unfold dnQ upQx upV
  rw [Int.sub_self, Int.mul_zero]
  simp
theorem dn_right {ks : List (Int × Int)} (h : tabOk ks = true) {i : Nat} (hi : i + 1 < ks.length) : dnQ ks i (kX ks (i + 1)) = kY ks (i + 1) ∧ upQx ks i (kX ks (i + 1)) = kY ks (i + 1) := by
  have n := knot_next h hi
  unfold dnQ upQx upV
  rw [Int.mul_ediv_cancel _ (by omega), Int.mul_emod_left]
  simp
  omega
/-- Where two pieces meet they have the same value. -/
theorem dn_same {ks : List (Int × Int)} (h : tabOk ks = true) {i j : Nat} (hi : i + 1 < ks.length) (hj : j + 1 < ks.length) {x : Int} (i0 : kX ks i ≤ x) (i1 : x ≤ kX ks (i + 1)) (j0 : kX ks j ≤ x) (j1 : x ≤ kX ks (j + 1)) :
    dnQ ks i x = dnQ ks j x ∧ upQx ks i x = upQx ks j x := by
  have key : ∀ i j : Nat, i < j → j + 1 < ks.length → kX ks j ≤ x → x ≤ kX ks (i + 1) → dnQ ks i x = dnQ ks j x ∧ upQx ks i x = upQx ks j x := by
    intro i j hij hj a b
    have e1 := knot_le h (show i + 1 ≤ j by omega) (by omega)
    have e2 : x = kX ks j := by omega
    have e3 : j = i + 1 := by
      rcases Nat.lt_or_ge (i + 1) j with h2 | h2
      · have := knot_lt h h2 (by omega)
        omega
      · omega
    subst e3
    rw [e2, (dn_right h (by omega)).1, (dn_right h (by omega)).2, dn_left.1, dn_left.2]
    exact ⟨rfl, rfl⟩
  rcases Nat.lt_trichotomy i j with hij | hij | hij
  · exact key i j hij hj j0 i1
  · subst hij; exact ⟨rfl, rfl⟩
  · have := key j i hij hi i0 j1
    exact ⟨this.1.symm, this.2.symm⟩

/-- The piece j has integers of the range. -/
def cnd (ks : List (Int × Int)) (lo hi : Int) (j : Nat) : Prop := max (kX ks j) lo ≤ min (kX ks (j + 1)) hi
def loAll (ks : List (Int × Int)) (lo hi v : Int) (k : Nat) : Prop := ∀ j, j < k → cnd ks lo hi j → v ≤ dnQ ks j (max (kX ks j) lo) ∧ v ≤ dnQ ks j (min (kX ks (j + 1)) hi)
def hiAll (ks : List (Int × Int)) (lo hi v : Int) (k : Nat) : Prop := ∀ j, j < k → cnd ks lo hi j → upQx ks j (max (kX ks j) lo) ≤ v ∧ upQx ks j (min (kX ks (j + 1)) hi) ≤ v
theorem loAll_succ {ks : List (Int × Int)} {lo hi v : Int} {k : Nat} (c : cnd ks lo hi k) : loAll ks lo hi v (k + 1) ↔ loAll ks lo hi v k ∧ v ≤ dnQ ks k (max (kX ks k) lo) ∧ v ≤ dnQ ks k (min (kX ks (k + 1)) hi) := by
  constructor
  · intro h; exact ⟨fun j hj => h j (by omega), h k (by omega) c⟩
  · intro h j hj cj
    rcases Nat.lt_or_ge j k with h2 | h2
    · exact h.1 j h2 cj
    · obtain rfl : j = k := by omega
      exact h.2
theorem hiAll_succ {ks : List (Int × Int)} {lo hi v : Int} {k : Nat} (c : cnd ks lo hi k) : hiAll ks lo hi v (k + 1) ↔ hiAll ks lo hi v k ∧ upQx ks k (max (kX ks k) lo) ≤ v ∧ upQx ks k (min (kX ks (k + 1)) hi) ≤ v := by
  constructor
  · intro h; exact ⟨fun j hj => h j (by omega), h k (by omega) c⟩
  · intro h j hj cj
    rcases Nat.lt_or_ge j k with h2 | h2
    · exact h.1 j h2 cj
    · obtain rfl : j = k := by omega
      exact h.2
theorem loAll_skip {ks : List (Int × Int)} {lo hi v : Int} {k : Nat} (c : ¬ cnd ks lo hi k) : loAll ks lo hi v (k + 1) ↔ loAll ks lo hi v k := by
  constructor
  · intro h j hj; exact h j (by omega)
  · intro h j hj cj
    rcases Nat.lt_or_ge j k with h2 | h2
    · exact h j h2 cj
    · obtain rfl : j = k := by omega
      exact absurd cj c
theorem hiAll_skip {ks : List (Int × Int)} {lo hi v : Int} {k : Nat} (c : ¬ cnd ks lo hi k) : hiAll ks lo hi v (k + 1) ↔ hiAll ks lo hi v k := by
  constructor
  · intro h j hj; exact h j (by omega)
  · intro h j hj cj
    rcases Nat.lt_or_ge j k with h2 | h2
    · exact h j h2 cj
    · obtain rfl : j = k := by omega
      exact absurd cj c

/-- What has been gathered behind k pieces. -/
def Gthd (ks : List (Int × Int)) (lo hi : Int) (k : Nat) (g : Gth) : Prop :=
  g.o = false ∧ ((g.s = false ∧ ∀ j, j < k → ¬ cnd ks lo hi j) ∨ (g.s = true ∧ (∃ j, j < k ∧ cnd ks lo hi j) ∧ (∀ v, v ≤ g.l ↔ loAll ks lo hi v k) ∧ (∀ v, g.h ≤ v ↔ hiAll ks lo hi v k)))
theorem gthd_all {ks : List (Int × Int)} (h : tabOk ks = true) (lo hi : Int) : ∀ k, k + 1 ≤ ks.length → Gthd ks lo hi k (vAll lo hi (segs ks k)) := by
  intro k
  induction k with
  | zero => intro _; exact ⟨rfl, .inl ⟨rfl, fun j hj => by omega⟩⟩
  | succ k ih =>
    intro hk
    obtain ⟨ho, H⟩ := ih (by omega)
    rw [segs_succ, vAll_snoc]
    generalize vAll lo hi (segs ks k) = g at *
    have st : vStep lo hi g (seg ks k) = if max (kX ks k) lo ≤ min (kX ks (k + 1)) hi then gAdd (gAdd g (atQ (seg ks k).1.1 (seg ks k).1.2 (seg ks k).2.1 (seg ks k).2.2 (max (kX ks k) lo) 1) (atQ (seg ks k).1.1 (seg ks k).1.2 (seg ks k).2.1 (seg ks k).2.2 (max (kX ks k) lo) 2)) (atQ (seg ks k).1.1 (seg ks k).1.2 (seg ks k).2.1 (seg ks k).2.2 (min (kX ks (k + 1)) hi) 1) (atQ (seg ks k).1.1 (seg ks k).1.2 (seg ks k).2.1 (seg ks k).2.2 (min (kX ks (k + 1)) hi) 2) else g := rfl
    rw [st]
    by_cases c : max (kX ks k) lo ≤ min (kX ks (k + 1)) hi
    · have n := knot_next h (i := k) (by omega)
      obtain ⟨a1, a2⟩ := atQ_is h (i := k) (by omega) (x := max (kX ks k) lo) (by omega) (by omega)
      obtain ⟨b1, b2⟩ := atQ_is h (i := k) (by omega) (x := min (kX ks (k + 1)) hi) (by omega) (by omega)
      rw [if_pos c, a1, a2, b1, b2]
      have c' : cnd ks lo hi k := c
      rcases H with ⟨hs, hn⟩ | ⟨hs, he, hl, hh⟩
      · have e : gAdd g (dnQ ks k (max (kX ks k) lo)) (upQx ks k (max (kX ks k) lo)) = ⟨dnQ ks k (max (kX ks k) lo), upQx ks k (max (kX ks k) lo), true, g.o⟩ := by unfold gAdd; rw [hs, if_neg (by simp)]
        rw [e]
        refine ⟨ho, .inr ⟨rfl, ⟨k, by omega, c'⟩, fun v => ?_, fun v => ?_⟩⟩
        · rw [loAll_succ c']
          have : loAll ks lo hi v k := fun j hj cj => absurd cj (hn j hj)
          simp only [gAdd, if_true, this, true_and]
          omega
        · rw [hiAll_succ c']
          have : hiAll ks lo hi v k := fun j hj cj => absurd cj (hn j hj)
          simp only [gAdd, if_true, this, true_and]
          omega
      · have e : gAdd g (dnQ ks k (max (kX ks k) lo)) (upQx ks k (max (kX ks k) lo)) = ⟨min g.l (dnQ ks k (max (kX ks k) lo)), max g.h (upQx ks k (max (kX ks k) lo)), true, g.o⟩ := by unfold gAdd; rw [hs, if_pos rfl]
        rw [e]
        refine ⟨ho, .inr ⟨rfl, ⟨k, by omega, c'⟩, fun v => ?_, fun v => ?_⟩⟩
        · rw [loAll_succ c', ← hl v]
          simp only [gAdd, if_true]
          omega
        · rw [hiAll_succ c', ← hh v]
          simp only [gAdd, if_true]
          omega
    · rw [if_neg c]
      have c' : ¬ cnd ks lo hi k := c
      refine ⟨ho, ?_⟩
      rcases H with ⟨hs, hn⟩ | ⟨hs, ⟨j, hj, cj⟩, hl, hh⟩
      · refine .inl ⟨hs, fun j hj => ?_⟩
        rcases Nat.lt_or_ge j k with h2 | h2
        · exact hn j h2
        · obtain rfl : j = k := by omega
          exact c'
      · exact .inr ⟨hs, ⟨j, by omega, cj⟩, fun v => (hl v).trans (loAll_skip c').symm, fun v => (hh v).trans (hiAll_skip c').symm⟩

/-- The reference: the values at the ends, and of the knots between them. -/
def rLo (ks : List (Int × Int)) (lo hi d : Int) : Nat → Int
  | 0 => d
  | k + 1 => if lo < kX ks k ∧ kX ks k < hi then min (rLo ks lo hi d k) (kY ks k) else rLo ks lo hi d k
def rHi (ks : List (Int × Int)) (lo hi d : Int) : Nat → Int
  | 0 => d
  | k + 1 => if lo < kX ks k ∧ kX ks k < hi then max (rHi ks lo hi d k) (kY ks k) else rHi ks lo hi d k
theorem rLo_le {ks : List (Int × Int)} {lo hi d v : Int} : ∀ k, v ≤ rLo ks lo hi d k ↔ v ≤ d ∧ ∀ j, j < k → lo < kX ks j → kX ks j < hi → v ≤ kY ks j := by
  intro k
  induction k with
  | zero => exact ⟨fun h => ⟨h, fun j hj => by omega⟩, fun h => h.1⟩
  | succ k ih =>
    have st : (∀ j, j < k + 1 → lo < kX ks j → kX ks j < hi → v ≤ kY ks j) ↔ (∀ j, j < k → lo < kX ks j → kX ks j < hi → v ≤ kY ks j) ∧ (lo < kX ks k → kX ks k < hi → v ≤ kY ks k) := by
      constructor
      · intro h; exact ⟨fun j hj => h j (by omega), h k (by omega)⟩
      · intro h j hj
        rcases Nat.lt_or_ge j k with h2 | h2
        · exact h.1 j h2
        · obtain rfl : j = k := by omega
          exact h.2
    rw [st]
    unfold rLo
    split
    · rename_i c
      have : v ≤ min (rLo ks lo hi d k) (kY ks k) ↔ v ≤ rLo ks lo hi d k ∧ v ≤ kY ks k := by omega
      rw [this, ih]
      constructor
      · intro ⟨⟨a, b⟩, e⟩; exact ⟨a, b, fun _ _ => e⟩
      · intro ⟨a, b, e⟩; exact ⟨⟨a, b⟩, e c.1 c.2⟩
    · rename_i c
      rw [ih]
      constructor
      · intro ⟨a, b⟩; exact ⟨a, b, fun x y => absurd ⟨x, y⟩ c⟩
      · intro ⟨a, b, _⟩; exact ⟨a, b⟩
theorem rHi_le {ks : List (Int × Int)} {lo hi d v : Int} : ∀ k, rHi ks lo hi d k ≤ v ↔ d ≤ v ∧ ∀ j, j < k → lo < kX ks j → kX ks j < hi → kY ks j ≤ v := by
  intro k
  induction k with
  | zero => exact ⟨fun h => ⟨h, fun j hj => by omega⟩, fun h => h.1⟩
  | succ k ih =>
    have st : (∀ j, j < k + 1 → lo < kX ks j → kX ks j < hi → kY ks j ≤ v) ↔ (∀ j, j < k → lo < kX ks j → kX ks j < hi → kY ks j ≤ v) ∧ (lo < kX ks k → kX ks k < hi → kY ks k ≤ v) := by
      constructor
      · intro h; exact ⟨fun j hj => h j (by omega), h k (by omega)⟩
      · intro h j hj
        rcases Nat.lt_or_ge j k with h2 | h2
        · exact h.1 j h2
        · obtain rfl : j = k := by omega
          exact h.2
    rw [st]
    unfold rHi
    split
    · rename_i c
      have : max (rHi ks lo hi d k) (kY ks k) ≤ v ↔ rHi ks lo hi d k ≤ v ∧ kY ks k ≤ v := by omega
      rw [this, ih]
      constructor
      · intro ⟨⟨a, b⟩, e⟩; exact ⟨a, b, fun _ _ => e⟩
      · intro ⟨a, b, e⟩; exact ⟨⟨a, b⟩, e c.1 c.2⟩
    · rename_i c
      rw [ih]
      constructor
      · intro ⟨a, b⟩; exact ⟨a, b, fun x y => absurd ⟨x, y⟩ c⟩
      · intro ⟨a, b, _⟩; exact ⟨a, b⟩

/-- The piece i has x. -/
def Has (ks : List (Int × Int)) (i : Nat) (x : Int) : Prop := i + 1 < ks.length ∧ kX ks i ≤ x ∧ x ≤ kX ks (i + 1)
theorem has_ex {ks : List (Int × Int)} {x : Int} : ∀ m, m + 1 < ks.length → kX ks 0 ≤ x → x ≤ kX ks (m + 1) → ∃ i, Has ks i x := by
  intro m
  induction m with
  | zero => intro h a b; exact ⟨0, h, a, b⟩
  | succ m ih =>
    intro h a b
    rcases Int.lt_or_le (kX ks (m + 1)) x with c | c
    · exact ⟨m + 1, h, by omega, b⟩
    · exact ih (by omega) a c

theorem both_le {a b : Int} (h : ∀ v, v ≤ a ↔ v ≤ b) : a = b := by
  have h1 := (h a).1 (Int.le_refl _)
  have h2 := (h b).2 (Int.le_refl _)
  omega
theorem both_ge {a b : Int} (h : ∀ v, a ≤ v ↔ b ≤ v) : a = b := by
  have h1 := (h a).1 (Int.le_refl _)
  have h2 := (h b).2 (Int.le_refl _)
  omega
/-- The value of a table at a range. -/
theorem value_ref {ks : List (Int × Int)} (h : tabOk ks = true) {lo hi : Int} (hlh : lo ≤ hi) {i j : Nat} (hi' : Has ks i lo) (hj' : Has ks j hi) :
    gRes (vAll lo hi (segs ks (ks.length - 1))) = (rLo ks lo hi (min (dnQ ks i lo) (dnQ ks j hi)) ks.length, rHi ks lo hi (max (upQx ks i lo) (upQx ks j hi)) ks.length, 0) := by
  have len := len_of h
  obtain ⟨ho, H⟩ := gthd_all h lo hi (ks.length - 1) (by omega)
  obtain ⟨i1, i2, i3⟩ := hi'
  obtain ⟨j1, j2, j3⟩ := hj'
  have ci : cnd ks lo hi i := by unfold cnd; omega
  have cj : cnd ks lo hi j := by unfold cnd; omega
  rcases H with ⟨_, hn⟩ | ⟨_, _, hl, hh⟩
  · exact absurd ci (hn i (by omega))
  have same : ∀ k x, k + 1 < ks.length → kX ks k ≤ x → x ≤ kX ks (k + 1) → ∀ m, m + 1 < ks.length → kX ks m ≤ x → x ≤ kX ks (m + 1) → dnQ ks k x = dnQ ks m x ∧ upQx ks k x = upQx ks m x :=
    fun k x a b c m d e f => dn_same h a d b c e f
  have el : (vAll lo hi (segs ks (ks.length - 1))).l = rLo ks lo hi (min (dnQ ks i lo) (dnQ ks j hi)) ks.length := by
    refine both_le fun v => ?_
    rw [hl v, rLo_le]
    constructor
    · intro A
      refine ⟨?_, fun m hm m1 m2 => ?_⟩
      · have a := (A i (by omega) ci).1
        have b := (A j (by omega) cj).2
        rw [show max (kX ks i) lo = lo by omega] at a
        rw [show min (kX ks (j + 1)) hi = hi by omega] at b
        omega
      · obtain ⟨m', rfl⟩ : ∃ m', m = m' + 1 := by
          rcases m with _ | m'
          · have := knot_le h (show 0 ≤ i by omega) (by omega)
            omega
          · exact ⟨m', rfl⟩
        have n := knot_next h (i := m') (by omega)
        have c : cnd ks lo hi m' := by unfold cnd; omega
        have b := (A m' (by omega) c).2
        rw [show min (kX ks (m' + 1)) hi = kX ks (m' + 1) by omega, (dn_right h (by omega)).1] at b
        exact b
    · intro ⟨A, B⟩ m hm c
      unfold cnd at c
      have n := knot_next h (i := m) (by omega)
      constructor
      · by_cases c1 : kX ks m ≤ lo
        · rw [show max (kX ks m) lo = lo by omega, (same m lo (by omega) c1 (by omega) i i1 i2 i3).1]; omega
        · rw [show max (kX ks m) lo = kX ks m by omega]
          by_cases c2 : kX ks m < hi
          · rw [dn_left.1]; exact B m (by omega) (by omega) c2
          · have e : kX ks m = hi := by omega
            rw [e, (same m hi (by omega) (by omega) (by omega) j j1 j2 j3).1]; omega
      · by_cases c1 : hi ≤ kX ks (m + 1)
        · rw [show min (kX ks (m + 1)) hi = hi by omega, (same m hi (by omega) (by omega) c1 j j1 j2 j3).1]; omega
        · rw [show min (kX ks (m + 1)) hi = kX ks (m + 1) by omega]
          by_cases c2 : lo < kX ks (m + 1)
          · rw [(dn_right h (by omega)).1]; exact B (m + 1) (by omega) c2 (by omega)
          · have e : kX ks (m + 1) = lo := by omega
            rw [e, (same m lo (by omega) (by omega) (by omega) i i1 i2 i3).1]; omega
  have eh : (vAll lo hi (segs ks (ks.length - 1))).h = rHi ks lo hi (max (upQx ks i lo) (upQx ks j hi)) ks.length := by
    refine both_ge fun v => ?_
    rw [hh v, rHi_le]
    constructor
    · intro A
      refine ⟨?_, fun m hm m1 m2 => ?_⟩
      · have a := (A i (by omega) ci).1
        have b := (A j (by omega) cj).2
        rw [show max (kX ks i) lo = lo by omega] at a
        rw [show min (kX ks (j + 1)) hi = hi by omega] at b
        omega
      · obtain ⟨m', rfl⟩ : ∃ m', m = m' + 1 := by
          rcases m with _ | m'
          · have := knot_le h (show 0 ≤ i by omega) (by omega)
            omega
          · exact ⟨m', rfl⟩
        have n := knot_next h (i := m') (by omega)
        have c : cnd ks lo hi m' := by unfold cnd; omega
        have b := (A m' (by omega) c).2
        rw [show min (kX ks (m' + 1)) hi = kX ks (m' + 1) by omega, (dn_right h (by omega)).2] at b
        exact b
    · intro ⟨A, B⟩ m hm c
      unfold cnd at c
      have n := knot_next h (i := m) (by omega)
      constructor
      · by_cases c1 : kX ks m ≤ lo
        · rw [show max (kX ks m) lo = lo by omega, (same m lo (by omega) c1 (by omega) i i1 i2 i3).2]; omega
        · rw [show max (kX ks m) lo = kX ks m by omega]
          by_cases c2 : kX ks m < hi
          · rw [dn_left.2]; exact B m (by omega) (by omega) c2
          · have e : kX ks m = hi := by omega
            rw [e, (same m hi (by omega) (by omega) (by omega) j j1 j2 j3).2]; omega
      · by_cases c1 : hi ≤ kX ks (m + 1)
        · rw [show min (kX ks (m + 1)) hi = hi by omega, (same m hi (by omega) (by omega) c1 j j1 j2 j3).2]; omega
        · rw [show min (kX ks (m + 1)) hi = kX ks (m + 1) by omega]
          by_cases c2 : lo < kX ks (m + 1)
          · rw [(dn_right h (by omega)).2]; exact B (m + 1) (by omega) c2 (by omega)
          · have e : kX ks (m + 1) = lo := by omega
            rw [e, (same m lo (by omega) (by omega) (by omega) i i1 i2 i3).2]; omega
  rw [gRes, if_neg (by rw [ho]; simp), el, eh]
end Go.Proofs.Ytckapcfofkeicaa
