/-
  Tables: the value over a range, by what lies below and above it; at one integer; of a part of the range.
-/
import Derived.Test.YtimfbjnpalgmcaaGreatWhM
namespace Go.Proofs.YtimfbjnpalgmcaaGreat
set_option linter.unusedSimpArgs false
set_option linter.unusedVariables false

theorem inDom_kX {ks : List (Int × Int)} {lo hi : Int} : inDom ks lo hi = (decide (kX ks 0 ≤ lo) && decide (hi ≤ kX ks (ks.length - 1))) := rfl
theorem up_dn {N c : Int} (c0 : 0 < c) : N / c ≤ upV N c ∧ upV N c ≤ N / c + 1 := by
  unfold upV
  split <;> omega
theorem dn_up {ks : List (Int × Int)} (h : tabOk ks = true) {i : Nat} (hi : i + 1 < ks.length) {x : Int} : dnQ ks i x ≤ upQx ks i x ∧ upQx ks i x ≤ dnQ ks i x + 1 := by
  have n := knot_next h hi
  have := up_dn (N := (kY ks (i + 1) - kY ks i) * (x - kX ks i)) (c := kX ks (i + 1) - kX ks i) (by omega)
  unfold dnQ upQx
  omega
/-- Value, where it is defined: its ends are told by what lies below, and above. -/
structure ValIs (ks : List (Int × Int)) (lo hi vl vh : Int) (i j : Nat) : Prop where
  is : valueQ ks lo hi = (vl, vh, 0)
  low : ∀ v, v ≤ vl ↔ (v ≤ dnQ ks i lo ∧ v ≤ dnQ ks j hi) ∧ ∀ m, m < ks.length → lo < kX ks m → kX ks m < hi → v ≤ kY ks m
  high : ∀ v, vh ≤ v ↔ (upQx ks i lo ≤ v ∧ upQx ks j hi ≤ v) ∧ ∀ m, m < ks.length → lo < kX ks m → kX ks m < hi → kY ks m ≤ v
theorem val_is {ks : List (Int × Int)} (h : tabOk ks = true) {lo hi : Int} (hlh : lo ≤ hi) {i j : Nat} (hi' : Has ks i lo) (hj' : Has ks j hi) :
    ∃ vl vh, ValIs ks lo hi vl vh i j := by
  have b0 := knot_bounds h (show i < ks.length by have := hi'.1; omega)
  have b1 := knot_bounds h hj'.1
  have r1 : [(lo, hi)].all rangeOk = true := by
    obtain ⟨_, x0, _⟩ := hi'
    obtain ⟨_, _, x1⟩ := hj'
    simp [rangeOk, allIn]
    omega
  have r2 : inDom ks lo hi = true := by
    have e1 := knot_le h (i := 0) (j := i) (by omega) (by have := hi'.1; omega)
    have e2 := knot_le h (i := j + 1) (j := ks.length - 1) (by have := hj'.1; omega) (by have := hj'.1; omega)
    obtain ⟨_, x0, _⟩ := hi'
    obtain ⟨_, _, x1⟩ := hj'
    rw [inDom_kX, Bool.and_eq_true, decide_eq_true_eq, decide_eq_true_eq]
    omega
  refine ⟨_, _, ⟨by unfold valueQ; rw [if_neg (by simp [h]), if_neg (by simp [r1]), if_neg (by simp [r2])]; exact value_ref h hlh hi' hj', fun v => ?_, fun v => ?_⟩⟩
  · rw [rLo_le]
    constructor
    · intro ⟨a, b⟩; exact ⟨by omega, b⟩
    · intro ⟨a, b⟩; exact ⟨by omega, b⟩
  · rw [rHi_le]
    constructor
    · intro ⟨a, b⟩; exact ⟨by omega, b⟩
    · intro ⟨a, b⟩; exact ⟨by omega, b⟩
/-- At one integer. -/
theorem val_point {ks : List (Int × Int)} (h : tabOk ks = true) {p : Int} {i : Nat} (hp : Has ks i p) : valueQ ks p p = (dnQ ks i p, upQx ks i p, 0) := by
  obtain ⟨vl, vh, V⟩ := val_is h (Int.le_refl p) hp hp
  have e1 : vl = dnQ ks i p := both_le fun v => by
    rw [V.low v]
    constructor
    · intro ⟨a, _⟩; exact a.1
    · intro a; exact ⟨⟨a, a⟩, fun m _ h1 h2 => by omega⟩
  have e2 : vh = upQx ks i p := both_ge fun v => by
    rw [V.high v]
    constructor
    · intro ⟨a, _⟩; exact a.1
    · intro a; exact ⟨⟨a, a⟩, fun m _ h1 h2 => by omega⟩
  rw [V.is, e1, e2]
/-- The value at an integer of a range is in the range's value. -/
theorem val_in {ks : List (Int × Int)} (h : tabOk ks = true) {lo hi vl vh p : Int} {i j k : Nat} (hi' : Has ks i lo) (hj' : Has ks j hi) (V : ValIs ks lo hi vl vh i j) (hk : Has ks k p) (p0 : lo ≤ p) (p1 : p ≤ hi) : vl ≤ dnQ ks k p ∧ upQx ks k p ≤ vh := by
  have L := (V.low vl).1 (Int.le_refl _)
  have H := (V.high vh).1 (Int.le_refl _)
  obtain ⟨k1, k2, k3⟩ := hk
  have n := knot_next h k1
  -- the piece's part in the range
  have left : vl ≤ dnQ ks k (max (kX ks k) lo) ∧ upQx ks k (max (kX ks k) lo) ≤ vh := by
    rcases Int.lt_or_le lo (kX ks k) with c | c
    · rw [show max (kX ks k) lo = kX ks k by omega, dn_left.1, dn_left.2]
      rcases Int.lt_or_le (kX ks k) hi with c2 | c2
      · exact ⟨L.2 k (by omega) c c2, H.2 k (by omega) c c2⟩
      · have e : kX ks k = hi := by omega
        have s := dn_same h k1 hj'.1 (x := hi) (by omega) (by omega) hj'.2.1 hj'.2.2
        rw [← e, dn_left.1, dn_left.2] at s
        rw [e] at s
        have := L.1.2
        have := H.1.2
        omega
    · rw [show max (kX ks k) lo = lo by omega]
      have s := dn_same h k1 hi'.1 (x := lo) (by omega) (by omega) hi'.2.1 hi'.2.2
      rw [s.1, s.2]
      exact ⟨L.1.1, H.1.1⟩
  have right : vl ≤ dnQ ks k (min (kX ks (k + 1)) hi) ∧ upQx ks k (min (kX ks (k + 1)) hi) ≤ vh := by
    rcases Int.lt_or_le (kX ks (k + 1)) hi with c | c
    · rw [show min (kX ks (k + 1)) hi = kX ks (k + 1) by omega, (dn_right h k1).1, (dn_right h k1).2]
      rcases Int.lt_or_le lo (kX ks (k + 1)) with c2 | c2
      · exact ⟨L.2 (k + 1) k1 c2 c, H.2 (k + 1) k1 c2 c⟩
      · have e : kX ks (k + 1) = lo := by omega
        have s := dn_same h k1 hi'.1 (x := lo) (by omega) (by omega) hi'.2.1 hi'.2.2
        rw [← e, (dn_right h k1).1, (dn_right h k1).2] at s
        rw [e] at s
        have := L.1.1
        have := H.1.1
        omega
    · rw [show min (kX ks (k + 1)) hi = hi by omega]
      have s := dn_same h k1 hj'.1 (x := hi) (by omega) (by omega) hj'.2.1 hj'.2.2
      rw [s.1, s.2]
      exact ⟨L.1.2, H.1.2⟩
  rcases Int.le_total (kY ks k) (kY ks (k + 1)) with c | c
  · have a := dn_mono h k1 (x := max (kX ks k) lo) (y := p) (by omega) c
    have b := dn_mono h k1 (x := p) (y := min (kX ks (k + 1)) hi) (by omega) c
    omega
  · have a := dn_anti h k1 (x := max (kX ks k) lo) (y := p) (by omega) c
    have b := dn_anti h k1 (x := p) (y := min (kX ks (k + 1)) hi) (by omega) c
    omega
/-- Of a part of a range the value is a part of the range's value. -/
theorem val_sub {ks : List (Int × Int)} (h : tabOk ks = true) {lo hi lo' hi' v1 v2 u1 u2 : Int} (x0 : kX ks 0 ≤ lo) (x1 : hi ≤ kX ks (ks.length - 1)) (h0 : lo ≤ lo') (h1 : lo' ≤ hi') (h2 : hi' ≤ hi) (V : valueQ ks lo hi = (v1, v2, 0)) (U : valueQ ks lo' hi' = (u1, u2, 0)) : v1 ≤ u1 ∧ u2 ≤ v2 := by
  have len := len_of h
  have ll : ks.length - 2 + 1 = ks.length - 1 := by omega
  have H : ∀ x, lo ≤ x → x ≤ hi → ∃ i, Has ks i x := fun x a b => has_ex (ks := ks) (x := x) (ks.length - 2) (by omega) (by omega) (by rw [ll]; omega)
  obtain ⟨i, hi1⟩ := H lo (by omega) (by omega)
  obtain ⟨j, hj1⟩ := H hi (by omega) (by omega)
  obtain ⟨i', hi2⟩ := H lo' (by omega) (by omega)
  obtain ⟨j', hj2⟩ := H hi' (by omega) (by omega)
  obtain ⟨a, b, A⟩ := val_is h (show lo ≤ hi by omega) hi1 hj1
  obtain ⟨c, d, B⟩ := val_is h h1 hi2 hj2
  have e1 := A.is
  have e2 := B.is
  rw [V] at e1
  rw [U] at e2
  cases e1
  cases e2
  have p := val_in h hi1 hj1 A hi2 h0 (by omega)
  have q := val_in h hi1 hj1 A hj2 (by omega) h2
  have L := ((A.low _).1 (Int.le_refl _)).2
  have M := ((A.high _).1 (Int.le_refl _)).2
  exact ⟨(B.low _).2 ⟨⟨p.1, q.1⟩, fun m hm a b => L m hm (by omega) (by omega)⟩, (B.high _).2 ⟨⟨p.2, q.2⟩, fun m hm a b => M m hm (by omega) (by omega)⟩⟩
end Go.Proofs.YtimfbjnpalgmcaaGreat
