/-
  Tables: where the value of a piece is in a range; what halving finds; how the runs join.
-/
import Derived.Test.YtimfbjnpalgmcaaGreatPrs
import Derived.Test.YtimfbjnpalgmcaaGreatWh
namespace Go.Proofs.YtimfbjnpalgmcaaGreat
set_option linter.unusedSimpArgs false
set_option linter.unusedVariables false

/-- The value of a piece at x is in a range. -/
def inP (x0 y0 x1 y1 lo hi x : Int) : Prop := (lo - y0) * (x1 - x0) ≤ (y1 - y0) * (x - x0) ∧ (y1 - y0) * (x - x0) ≤ (hi - y0) * (x1 - x0)

theorem up_le {N c k : Int} (c0 : 0 < c) : upV N c ≤ k ↔ N ≤ k * c := by
  unfold upV
  have e := Int.mul_ediv_add_emod N c
  have r0 := Int.emod_nonneg N (show c ≠ 0 by omega)
  have r1 := Int.emod_lt_of_pos N c0
  generalize N / c = q at *
  generalize N % c = r at *
  have m : c * q + r = N := e
  rw [Int.mul_comm k c]
  constructor
  · intro h
    split at h
    · have : c * (q + 1) ≤ c * k := Int.mul_le_mul_of_nonneg_left h (by omega)
      rw [Int.mul_add] at this
      omega
    · have : c * q ≤ c * k := Int.mul_le_mul_of_nonneg_left (by omega) (by omega)
      omega
  · intro h
    split
    · have : c * q < c * k := by omega
      have := Int.lt_of_mul_lt_mul_left this (by omega)
      omega
    · have : c * q ≤ c * k := by omega
      have := Int.le_of_mul_le_mul_left this (by omega)
      omega
theorem le_dn {N c k : Int} (c0 : 0 < c) : k ≤ N / c ↔ k * c ≤ N := Int.le_ediv_iff_mul_le c0

theorem inP_turn {x0 y0 x1 y1 lo hi x : Int} : inP x0 (-y0) x1 (-y1) (-hi) (-lo) x ↔ inP x0 y0 x1 y1 lo hi x := by
  unfold inP
  have e1 : (-hi - -y0) * (x1 - x0) = -((hi - y0) * (x1 - x0)) := by rw [← Int.neg_mul]; congr 1; omega
  have e2 : (-lo - -y0) * (x1 - x0) = -((lo - y0) * (x1 - x0)) := by rw [← Int.neg_mul]; congr 1; omega
  have e3 : (-y1 - -y0) * (x - x0) = -((y1 - y0) * (x - x0)) := by rw [← Int.neg_mul]; congr 1; omega
  rw [e1, e2, e3]
  omega

/-- What 'where' answers of a piece that doesn't fall. -/
theorem whUp {x0 y0 x1 y1 lo hi : Int} (hy : y0 ≤ y1) (hx : x0 < x1) (b0 : -1000000000000 ≤ x0) (b1 : x1 ≤ 1000000000000) :
    ((whereUp x0 y0 x1 y1 lo hi).2 = true → (x0 ≤ (whereUp x0 y0 x1 y1 lo hi).1.1 ∧ (whereUp x0 y0 x1 y1 lo hi).1.1 ≤ (whereUp x0 y0 x1 y1 lo hi).1.2) ∧ (whereUp x0 y0 x1 y1 lo hi).1.2 ≤ x1) ∧
    ∀ x, x0 ≤ x → x ≤ x1 → (inP x0 y0 x1 y1 lo hi x ↔ (whereUp x0 y0 x1 y1 lo hi).2 = true ∧ (whereUp x0 y0 x1 y1 lo hi).1.1 ≤ x ∧ x ≤ (whereUp x0 y0 x1 y1 lo hi).1.2) := by
  have c0 : 0 < x1 - x0 := by omega
  -- the value lies between the knots' values
  have mid : ∀ x, x0 ≤ x → x ≤ x1 → 0 ≤ (y1 - y0) * (x - x0) ∧ (y1 - y0) * (x - x0) ≤ (y1 - y0) * (x1 - x0) := fun x h0 h1 =>
    ⟨Int.mul_nonneg (by omega) (by omega), Int.mul_le_mul_of_nonneg_left (by omega) (by omega)⟩
  have mul_lt : ∀ {a b : Int}, a * (x1 - x0) ≤ b * (x1 - x0) → a ≤ b := fun h => Int.le_of_mul_le_mul_right h c0
  have mul_mono : ∀ {a b : Int}, a ≤ b → a * (x1 - x0) ≤ b * (x1 - x0) := fun h => Int.mul_le_mul_of_nonneg_right h (by omega)
  unfold whereUp inP
  by_cases h1 : max lo y0 ≤ min hi y1
  · rw [if_neg (by omega)]
    by_cases h2 : y0 = y1
    · rw [if_pos h2]
      subst h2
      refine ⟨fun _ => by simp only; omega, fun x a b => ?_⟩
      have z : (y0 - y0) * (x - x0) = 0 := by rw [Int.sub_self, Int.zero_mul]
      rw [z]
      have m1 : (lo - y0) * (x1 - x0) ≤ 0 * (x1 - x0) := mul_mono (by omega)
      have m2 : 0 * (x1 - x0) ≤ (hi - y0) * (x1 - x0) := mul_mono (by omega)
      rw [Int.zero_mul] at m1 m2
      simp only
      exact ⟨fun _ => ⟨trivial, a, b⟩, fun _ => ⟨m1, m2⟩⟩
    · rw [if_neg h2]
      have r0 : 0 < y1 - y0 := by omega
      obtain ⟨A, hA⟩ : ∃ A, max lo y0 = A := ⟨_, rfl⟩
      obtain ⟨B, hB⟩ : ∃ B, min hi y1 = B := ⟨_, rfl⟩
      rw [hA, hB]
      rw [hA, hB] at h1
      have A0 : 0 * (x1 - x0) ≤ (A - y0) * (x1 - x0) := mul_mono (by omega)
      have A1 : (A - y0) * (x1 - x0) ≤ (y1 - y0) * (x1 - x0) := mul_mono (by omega)
      have B0 : 0 * (x1 - x0) ≤ (B - y0) * (x1 - x0) := mul_mono (by omega)
      have B1 : (B - y0) * (x1 - x0) ≤ (y1 - y0) * (x1 - x0) := mul_mono (by omega)
      rw [Int.zero_mul] at A0 B0
      have l0 : 0 ≤ upV ((A - y0) * (x1 - x0)) (y1 - y0) := by
        rcases Int.lt_or_le (upV ((A - y0) * (x1 - x0)) (y1 - y0)) 0 with h | h
        · have := (up_le (N := (A - y0) * (x1 - x0)) (k := -1) r0).1 (by omega)
          omega
        · exact h
      have l1 : upV ((A - y0) * (x1 - x0)) (y1 - y0) ≤ x1 - x0 := (up_le r0).2 (by rw [Int.mul_comm (x1 - x0) (y1 - y0)]; exact A1)
      have g0 : 0 ≤ (B - y0) * (x1 - x0) / (y1 - y0) := (le_dn r0).2 (by omega)
      have g1 : (B - y0) * (x1 - x0) / (y1 - y0) ≤ x1 - x0 := by
        rcases Int.lt_or_le (x1 - x0) ((B - y0) * (x1 - x0) / (y1 - y0)) with h | h
        · have := (le_dn (N := (B - y0) * (x1 - x0)) (k := x1 - x0 + 1) r0).1 (by omega)
          rw [Int.add_mul, Int.mul_comm (x1 - x0) (y1 - y0)] at this
          omega
        · exact h
      have eU : (divQ ((A - y0) * (x1 - x0)) (y1 - y0) 2).1 = upV ((A - y0) * (x1 - x0)) (y1 - y0) := by
        rcases divQ_up1 (N := (A - y0) * (x1 - x0)) (c := y1 - y0) (by omega) with ⟨_, e, _⟩ | ⟨_, e⟩
        · exact e
        · omega
      have eD : (divQ ((B - y0) * (x1 - x0)) (y1 - y0) 1).1 = (B - y0) * (x1 - x0) / (y1 - y0) := by
        rcases divQ_dn1 (N := (B - y0) * (x1 - x0)) (c := y1 - y0) (by omega) with ⟨_, e, _⟩ | ⟨_, e⟩
        · exact e
        · omega
      rw [eU, eD]
      refine ⟨fun hd => by have := of_decide_eq_true hd; simp only; omega, fun x a b => ?_⟩
      obtain ⟨m0, m1⟩ := mid x a b
      have k1 : (lo - y0) * (x1 - x0) ≤ (y1 - y0) * (x - x0) ↔ upV ((A - y0) * (x1 - x0)) (y1 - y0) ≤ x - x0 := by
        rw [up_le r0, Int.mul_comm (x - x0)]
        rcases Int.le_total lo y0 with h | h
        · have ea : A = y0 := by omega
          rw [ea, Int.sub_self, Int.zero_mul]
          have := mul_mono (show lo - y0 ≤ 0 by omega)
          omega
        · have ea : A = lo := by omega
          rw [ea]
      have k2 : (y1 - y0) * (x - x0) ≤ (hi - y0) * (x1 - x0) ↔ x - x0 ≤ (B - y0) * (x1 - x0) / (y1 - y0) := by
        rw [le_dn r0, Int.mul_comm (x - x0)]
        rcases Int.le_total y1 hi with h | h
        · have eb : B = y1 := by omega
          rw [eb]
          have := mul_mono (show y1 - y0 ≤ hi - y0 by omega)
          omega
        · have eb : B = hi := by omega
          rw [eb]
      rw [k1, k2]
      simp only [decide_eq_true_eq]
      omega
  · rw [if_pos (by omega)]
    refine ⟨fun h => by simp at h, fun x a b => ?_⟩
    obtain ⟨m0, m1⟩ := mid x a b
    simp only [Bool.false_eq_true, false_and, iff_false]
    rintro ⟨h2, h3⟩
    refine h1 ?_
    have a1 : lo ≤ y1 := by have := mul_lt (Int.le_trans h2 m1); omega
    have a2 : lo ≤ hi := by have := mul_lt (Int.le_trans h2 h3); omega
    have a3 : y0 ≤ hi := by have := mul_lt (a := 0) (b := hi - y0) (by rw [Int.zero_mul]; exact Int.le_trans m0 h3); omega
    omega
/-- What 'where' answers of any piece. -/
theorem whQ {x0 y0 x1 y1 lo hi : Int} (hx : x0 < x1) (b0 : -1000000000000 ≤ x0) (b1 : x1 ≤ 1000000000000) :
    ((whereQ x0 y0 x1 y1 lo hi).2 = true → (x0 ≤ (whereQ x0 y0 x1 y1 lo hi).1.1 ∧ (whereQ x0 y0 x1 y1 lo hi).1.1 ≤ (whereQ x0 y0 x1 y1 lo hi).1.2) ∧ (whereQ x0 y0 x1 y1 lo hi).1.2 ≤ x1) ∧
    ∀ x, x0 ≤ x → x ≤ x1 → (inP x0 y0 x1 y1 lo hi x ↔ (whereQ x0 y0 x1 y1 lo hi).2 = true ∧ (whereQ x0 y0 x1 y1 lo hi).1.1 ≤ x ∧ x ≤ (whereQ x0 y0 x1 y1 lo hi).1.2) := by
  unfold whereQ
  by_cases h : y1 < y0
  · rw [if_pos h]
    have := whUp (x0 := x0) (y0 := -y0) (x1 := x1) (y1 := -y1) (lo := -hi) (hi := -lo) (by omega) hx b0 b1
    exact ⟨this.1, fun x a b => inP_turn.symm.trans (this.2 x a b)⟩
  · rw [if_neg h]
    exact whUp (by omega) hx b0 b1

/-! ### On a table -/
/-- The value of the piece i at x is in a range. -/
def inI (ks : List (Int × Int)) (lo hi : Int) (i : Nat) (x : Int) : Prop := lo ≤ dnQ ks i x ∧ upQx ks i x ≤ hi
theorem inI_is {ks : List (Int × Int)} (h : tabOk ks = true) {i : Nat} (hi' : i + 1 < ks.length) {lo hi x : Int} : inI ks lo hi i x ↔ inP (kX ks i) (kY ks i) (kX ks (i + 1)) (kY ks (i + 1)) lo hi x := by
  have n := knot_next h hi'
  unfold inI inP dnQ upQx
  have c0 : 0 < kX ks (i + 1) - kX ks i := by omega
  rw [show (lo ≤ kY ks i + (kY ks (i + 1) - kY ks i) * (x - kX ks i) / (kX ks (i + 1) - kX ks i)) ↔ (lo - kY ks i ≤ (kY ks (i + 1) - kY ks i) * (x - kX ks i) / (kX ks (i + 1) - kX ks i)) by omega, le_dn c0]
  rw [show (kY ks i + upV ((kY ks (i + 1) - kY ks i) * (x - kX ks i)) (kX ks (i + 1) - kX ks i) ≤ hi) ↔ (upV ((kY ks (i + 1) - kY ks i) * (x - kX ks i)) (kX ks (i + 1) - kX ks i) ≤ hi - kY ks i) by omega, up_le c0]
/-- The run of the piece i. -/
def pRun (ks : List (Int × Int)) (lo hi : Int) (i : Nat) : (Int × Int) × Bool := whereQ (kX ks i) (kY ks i) (kX ks (i + 1)) (kY ks (i + 1)) lo hi
theorem pRun_is {ks : List (Int × Int)} (h : tabOk ks = true) {i : Nat} (hi' : i + 1 < ks.length) (lo hi : Int) :
    ((pRun ks lo hi i).2 = true → (kX ks i ≤ (pRun ks lo hi i).1.1 ∧ (pRun ks lo hi i).1.1 ≤ (pRun ks lo hi i).1.2) ∧ (pRun ks lo hi i).1.2 ≤ kX ks (i + 1)) ∧
    ∀ x, kX ks i ≤ x → x ≤ kX ks (i + 1) → (inI ks lo hi i x ↔ (pRun ks lo hi i).2 = true ∧ (pRun ks lo hi i).1.1 ≤ x ∧ x ≤ (pRun ks lo hi i).1.2) := by
  have n := knot_next h hi'
  have b0 := knot_bounds h (show i < ks.length by omega)
  have b1 := knot_bounds h hi'
  have := whQ (x0 := kX ks i) (y0 := kY ks i) (x1 := kX ks (i + 1)) (y1 := kY ks (i + 1)) (lo := lo) (hi := hi) n (by omega) (by omega)
  exact ⟨this.1, fun x a b => (inI_is h hi').trans (this.2 x a b)⟩
theorem wStep_is {ks : List (Int × Int)} {lo hi : Int} {i : Nat} {rs : List (Int × Int)} : wStep lo hi rs (seg ks i) = if (pRun ks lo hi i).2 = true then appR rs (pRun ks lo hi i).1 else rs := rfl

theorem appR_last (rs : List (Int × Int)) (r : Int × Int) : ∃ ds z, appR rs r = ds ++ [z] ∧ z.2 = r.2 := by
  rcases List.eq_nil_or_concat rs with rfl | ⟨ds, z, e⟩
  · exact ⟨[], r, rfl, rfl⟩
  · rw [show rs = ds ++ [z] by rw [e]; simp, appR_snoc]
    split
    · exact ⟨ds, (z.1, r.2), rfl, rfl⟩
    · exact ⟨ds ++ [z], r, rfl, rfl⟩
/-- The runs up to the knot k, and whether the last one ends there. -/
def RunsUp (ks : List (Int × Int)) (lo hi : Int) (k : Nat) (rs : List (Int × Int)) : Prop :=
  (rs = [] → k = 0 ∨ ¬ (lo ≤ kY ks k ∧ kY ks k ≤ hi)) ∧ ∀ ds z, rs = ds ++ [z] → (-1000000000000 ≤ z.2 ∧ z.2 ≤ kX ks k) ∧ (z.2 = kX ks k ↔ lo ≤ kY ks k ∧ kY ks k ≤ hi)
theorem runs_up {ks : List (Int × Int)} (h : tabOk ks = true) (lo hi : Int) : ∀ k, k + 1 ≤ ks.length → RunsUp ks lo hi k (wAll lo hi (segs ks k)) := by
  intro k
  induction k with
  | zero => intro _; exact ⟨fun _ => .inl rfl, fun ds z e => by simp [segs, wAll] at e⟩
  | succ k ih =>
    intro hk
    obtain ⟨i1, i2⟩ := ih (by omega)
    have n := knot_next h (i := k) (by omega)
    have kb := knot_bounds h (i := k) (by omega)
    obtain ⟨p1, p2⟩ := pRun_is h (i := k) (by omega) lo hi
    have pe := p2 (kX ks (k + 1)) (by omega) (Int.le_refl _)
    have e : inI ks lo hi k (kX ks (k + 1)) ↔ lo ≤ kY ks (k + 1) ∧ kY ks (k + 1) ≤ hi := by
      unfold inI
      rw [(dn_right h (by omega)).1, (dn_right h (by omega)).2]
    rw [segs_succ, wAll_snoc, wStep_is]
    cases hp : (pRun ks lo hi k).2 with
    | false =>
      rw [if_neg (by simp)]
      have no : ¬ (lo ≤ kY ks (k + 1) ∧ kY ks (k + 1) ≤ hi) := fun hh => by have := (pe.1 (e.2 hh)).1; rw [hp] at this; simp at this
      refine ⟨fun _ => .inr no, fun ds z he => ?_⟩
      obtain ⟨a, _⟩ := i2 ds z he
      refine ⟨⟨by omega, by omega⟩, fun hz => by omega, fun hh => (no hh).elim⟩
    | true =>
      rw [if_pos rfl]
      obtain ⟨ds, z, ez, hz⟩ := appR_last (wAll lo hi (segs ks k)) (pRun ks lo hi k).1
      rw [ez]
      refine ⟨fun hh => by simp at hh, fun ds' z' he => ?_⟩
      have hzz : z = z' := by
        have := congrArg List.getLast? he
        simpa using this
      subst hzz
      obtain ⟨⟨q1, q2⟩, q3⟩ := p1 hp
      rw [hz]
      refine ⟨⟨by omega, q3⟩, fun hh => e.1 (pe.2 ⟨hp, by omega, by omega⟩), fun hh => ?_⟩
      have := (pe.1 (e.2 hh)).2.2
      omega
/-- The reference joins runs that are next to one another: these touch. -/
theorem touch_is {ks : List (Int × Int)} (h : tabOk ks = true) {lo hi : Int} {k : Nat} (hk : k + 1 < ks.length) {ds : List (Int × Int)} {z : Int × Int} (e : wAll lo hi (segs ks k) = ds ++ [z]) (hp : (pRun ks lo hi k).2 = true) :
    ((pRun ks lo hi k).1.1 ≤ z.2 + 1 ↔ (pRun ks lo hi k).1.1 = z.2) ∧ -1000000000000 ≤ z.2 ∧ z.2 ≤ 1000000000000 := by
  have kb := knot_bounds h (i := k) (by omega)
  obtain ⟨i1, i2⟩ := runs_up h lo hi k (by omega)
  obtain ⟨a, b⟩ := i2 ds z e
  obtain ⟨p1, p2⟩ := pRun_is h (i := k) hk lo hi
  obtain ⟨⟨q1, q2⟩, q3⟩ := p1 hp
  have n := knot_next h (i := k) hk
  have pe := p2 (kX ks k) (Int.le_refl _) (by omega)
  have ee : inI ks lo hi k (kX ks k) ↔ lo ≤ kY ks k ∧ kY ks k ≤ hi := by
    unfold inI
    rw [dn_left.1, dn_left.2]
  refine ⟨⟨fun hh => ?_, fun hh => by omega⟩, by omega, by omega⟩
  · by_cases hy : lo ≤ kY ks k ∧ kY ks k ≤ hi
    · have := b.2 hy
      have := (pe.1 (ee.2 hy)).2.1
      omega
    · have h1 : z.2 ≠ kX ks k := fun hz => hy (b.1 hz)
      have h2 : (pRun ks lo hi k).1.1 ≠ kX ks k := fun hz => hy (ee.1 (pe.2 ⟨hp, by omega, by omega⟩))
      omega

/-! ### Halving -/
/-- A question's answer changes at v, from no to yes. -/
def FirstIs (P : Int → Bool) (a b v : Int) : Prop := (a ≤ v ∧ v ≤ b + 1) ∧ ∀ x, a ≤ x → x ≤ b → (P x = true ↔ v ≤ x)
def Mono (P : Int → Bool) (a b : Int) : Prop := ∀ x y, a ≤ x → x ≤ y → y ≤ b → P x = true → P y = true
theorem first_is {P : Int → Bool} {a b l v : Int} (hm : Mono P a b) (h0 : l + 1 = v) (ha : a - 1 ≤ l) (hb : v ≤ b + 1) (hl : a ≤ l → P l = false) (hv : v ≤ b → P v = true) : FirstIs P a b v := by
  refine ⟨by omega, fun x x0 x1 => ⟨fun hx => ?_, fun hx => ?_⟩⟩
  · rcases Int.lt_or_le x v with h | h
    · have h2 := hm x l x0 (by omega) (by omega) hx
      rw [hl (by omega)] at h2
      cases h2
    · exact h
  · exact hm v x (by omega) hx x1 (hv (by omega))

/-- The answer of a question: 1 at least, 2 above, 3 at most, others below. -/
def ask (q d u y : Int) : Bool := if q = 1 then decide (y ≤ d) else if q = 2 then decide (y < u) else if q = 3 then decide (u ≤ y) else decide (d < y)
theorem dn_mono {ks : List (Int × Int)} (h : tabOk ks = true) {i : Nat} (hi : i + 1 < ks.length) {x y : Int} (hxy : x ≤ y) (hr : kY ks i ≤ kY ks (i + 1)) : dnQ ks i x ≤ dnQ ks i y ∧ upQx ks i x ≤ upQx ks i y := by
  have n := knot_next h hi
  have c0 : 0 < kX ks (i + 1) - kX ks i := by omega
  have m : (kY ks (i + 1) - kY ks i) * (x - kX ks i) ≤ (kY ks (i + 1) - kY ks i) * (y - kX ks i) := Int.mul_le_mul_of_nonneg_left (by omega) (by omega)
  unfold dnQ upQx
  constructor
  · have := Int.ediv_le_ediv c0 m
    omega
  · have := (up_le (N := (kY ks (i + 1) - kY ks i) * (x - kX ks i)) (k := upV ((kY ks (i + 1) - kY ks i) * (y - kX ks i)) (kX ks (i + 1) - kX ks i)) c0).2 (Int.le_trans m ((up_le c0).1 (Int.le_refl _)))
    omega
theorem dn_anti {ks : List (Int × Int)} (h : tabOk ks = true) {i : Nat} (hi : i + 1 < ks.length) {x y : Int} (hxy : x ≤ y) (hr : kY ks (i + 1) ≤ kY ks i) : dnQ ks i y ≤ dnQ ks i x ∧ upQx ks i y ≤ upQx ks i x := by
  have n := knot_next h hi
  have c0 : 0 < kX ks (i + 1) - kX ks i := by omega
  have m : (kY ks (i + 1) - kY ks i) * (y - kX ks i) ≤ (kY ks (i + 1) - kY ks i) * (x - kX ks i) := Int.mul_le_mul_of_nonpos_left (by omega) (by omega)
  unfold dnQ upQx
  constructor
  · have := Int.ediv_le_ediv c0 m
    omega
  · have := (up_le (N := (kY ks (i + 1) - kY ks i) * (y - kX ks i)) (k := upV ((kY ks (i + 1) - kY ks i) * (x - kX ks i)) (kX ks (i + 1) - kX ks i)) c0).2 (Int.le_trans m ((up_le c0).1 (Int.le_refl _)))
    omega
/-- The questions that the reference asks of a piece have answers that change once. -/
theorem ask_mono {ks : List (Int × Int)} (h : tabOk ks = true) {i : Nat} (hi : i + 1 < ks.length) {q y : Int} (hq : (kY ks i ≤ kY ks (i + 1) ∧ (q = 1 ∨ q = 2)) ∨ (kY ks (i + 1) ≤ kY ks i ∧ (q = 3 ∨ q = 4))) :
    Mono (fun x => ask q (dnQ ks i x) (upQx ks i x) y) (kX ks i) (kX ks (i + 1)) := by
  intro a b _ hab _ hx
  rcases hq with ⟨hr, rfl | rfl⟩ | ⟨hr, rfl | rfl⟩
  · have := dn_mono h hi hab hr
    simp [ask] at hx ⊢; omega
  · have := dn_mono h hi hab hr
    simp [ask] at hx ⊢; omega
  · have := dn_anti h hi hab hr
    simp [ask] at hx ⊢; omega
  · have := dn_anti h hi hab hr
    simp [ask] at hx ⊢; omega
/-- What the reference finds of a piece is its run. -/
theorem found_is {ks : List (Int × Int)} (h : tabOk ks = true) {i : Nat} (hi' : i + 1 < ks.length) {lo hi p q u v : Int}
    (hpq : (kY ks i ≤ kY ks (i + 1) ∧ p = 1 ∧ q = 2) ∨ (kY ks (i + 1) ≤ kY ks i ∧ p = 3 ∧ q = 4))
    (hu : FirstIs (fun x => ask p (dnQ ks i x) (upQx ks i x) (if p = 1 then lo else hi)) (kX ks i) (kX ks (i + 1)) u) (hv : FirstIs (fun x => ask q (dnQ ks i x) (upQx ks i x) (if q = 2 then hi else lo)) (kX ks i) (kX ks (i + 1)) v) :
    ((pRun ks lo hi i).2 = false ∧ v - 1 < u) ∨ ((pRun ks lo hi i).2 = true ∧ (pRun ks lo hi i).1 = (u, v - 1) ∧ u ≤ v - 1) := by
  obtain ⟨⟨u0, u1⟩, u2⟩ := hu
  obtain ⟨⟨v0, v1⟩, v2⟩ := hv
  obtain ⟨p1, p2⟩ := pRun_is h hi' lo hi
  have n := knot_next h hi'
  have key : ∀ x, kX ks i ≤ x → x ≤ kX ks (i + 1) → (inI ks lo hi i x ↔ u ≤ x ∧ x ≤ v - 1) := by
    intro x a b
    have e1 := u2 x a b
    have e2 := v2 x a b
    unfold inI
    rcases hpq with ⟨_, rfl, rfl⟩ | ⟨_, rfl, rfl⟩
    · simp [ask] at e1 e2; omega
    · simp [ask] at e1 e2; omega
  rcases Int.lt_or_le (v - 1) u with hlt | hle
  · refine .inl ⟨?_, hlt⟩
    cases hp : (pRun ks lo hi i).2 with
    | false => rfl
    | true =>
      obtain ⟨⟨a1, a2⟩, a3⟩ := p1 hp
      have := (key _ a1 (by omega)).1 ((p2 _ a1 (by omega)).2 ⟨hp, Int.le_refl _, a2⟩)
      omega
  · have hin := (p2 u u0 (by omega)).1 ((key u u0 (by omega)).2 ⟨Int.le_refl _, hle⟩)
    obtain ⟨hp, b1, b2⟩ := hin
    obtain ⟨⟨a1, a2⟩, a3⟩ := p1 hp
    have c1 := (key _ a1 (by omega)).1 ((p2 _ a1 (by omega)).2 ⟨hp, Int.le_refl _, a2⟩)
    have c2 := (key _ (by omega) a3).1 ((p2 _ (by omega) a3).2 ⟨hp, a2, Int.le_refl _⟩)
    have c3 := (p2 (v - 1) (by omega) (by omega)).1 ((key (v - 1) (by omega) (by omega)).2 ⟨hle, Int.le_refl _⟩)
    refine .inr ⟨hp, ?_, hle⟩
    refine Prod.ext ?_ ?_ <;> (simp only; omega)
end Go.Proofs.YtimfbjnpalgmcaaGreat
