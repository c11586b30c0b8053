/-
  UnitsWithin: the value at each integer of a range; all values turned; the runs are those integers at which the value is in a range. UnitsWithin: stands; the table whose values are turned, as it lies in memory.
-/
import Derived.Test.YtckapcfofkeicaaWhM
import Derived.Test.YtckapcfofkeicaaPlc
import Derived.Test.YtckapcfofkeicaaTbO
import Derived.Test.YtckapcfofkeicaaThL
namespace Go.Proofs.Ytckapcfofkeicaa
set_option linter.unusedSimpArgs false
set_option linter.unusedVariables false
set_option maxRecDepth 4000

/-! ### The runs -/
/-- The value at an integer is in a range. -/
def inY (ks : List (Int × Int)) (lo hi x : Int) : Prop := ∃ i, Has ks i x ∧ inI ks lo hi i x
theorem inY_of {ks : List (Int × Int)} (h : tabOk ks = true) {i : Nat} {lo hi x : Int} (hx : Has ks i x) : inY ks lo hi x ↔ inI ks lo hi i x := by
  constructor
  · rintro ⟨j, hj, h2⟩
    have s := dn_same h hj.1 hx.1 hj.2.1 hj.2.2 hx.2.1 hx.2.2
    unfold inI at *
    rw [← s.1, ← s.2]
    exact h2
  · intro h2
    exact ⟨i, hx, h2⟩
structure RunsOk (ks : List (Int × Int)) (lo hi : Int) (k : Nat) (rs : List (Int × Int)) : Prop where
  a : ∀ r, r ∈ rs → (kX ks 0 ≤ r.1 ∧ r.1 ≤ r.2) ∧ r.2 ≤ kX ks k
  b : rs.Pairwise fun r s => r.2 + 1 < s.1
  c : ∀ x, kX ks 0 ≤ x → x ≤ kX ks k → 0 < k → (inY ks lo hi x ↔ ∃ r, r ∈ rs ∧ r.1 ≤ x ∧ x ≤ r.2)
  z : k = 0 → rs = []
theorem runs_ok {ks : List (Int × Int)} (h : tabOk ks = true) (lo hi : Int) : ∀ k, k + 1 ≤ ks.length → RunsOk ks lo hi k (wAll lo hi (segs ks k)) := by
  intro k
  induction k with
  | zero => intro _; exact ⟨fun r hr => by simp [segs, wAll] at hr, by simp [segs, wAll], fun x _ _ h0 => by omega, fun _ => by simp [segs, wAll]⟩
  | succ k ih =>
    intro hk
    obtain ⟨A, B, C, Z⟩ := ih (by omega)
    have n := knot_next h (i := k) (by omega)
    have n0 := knot_le h (i := 0) (j := k) (by omega) (by omega)
    obtain ⟨p1, p2⟩ := pRun_is h (i := k) (by omega) lo hi
    have tch := fun ds z e hp => touch_is h (lo := lo) (hi := hi) (k := k) (by omega) (ds := ds) (z := z) e hp
    rw [segs_succ, wAll_snoc, wStep_is]
    generalize wAll lo hi (segs ks k) = R at *
    generalize pRun ks lo hi k = P at *
    obtain ⟨⟨p, q⟩, ok⟩ := P
    simp only at p1 p2 tch ⊢
    -- what the new list holds
    have mem : ∀ x, (∃ r, r ∈ (if ok = true then appR R (p, q) else R) ∧ r.1 ≤ x ∧ x ≤ r.2) ↔ (∃ r, r ∈ R ∧ r.1 ≤ x ∧ x ≤ r.2) ∨ (ok = true ∧ p ≤ x ∧ x ≤ q) := by
      intro x
      cases ok with
      | false => simp
      | true =>
        rw [if_pos rfl]
        obtain ⟨⟨a1, a2⟩, a3⟩ := p1 rfl
        rcases List.eq_nil_or_concat R with rfl | ⟨ds, z, e⟩
        · simp [appR_nil]
        · rw [List.concat_eq_append] at e
          subst e
          have zz := A z (by simp)
          rw [appR_snoc]
          split
          · rename_i ht
            simp only at ht
            constructor
            · rintro ⟨r, hr, h1, h2⟩
              rcases List.mem_append.1 hr with hr | hr
              · exact .inl ⟨r, List.mem_append.2 (.inl hr), h1, h2⟩
              · simp at hr
                subst hr
                simp only at h1 h2
                rcases Int.lt_or_le z.2 x with h3 | h3
                · exact .inr ⟨rfl, by omega, h2⟩
                · exact .inl ⟨z, by simp, h1, h3⟩
            · rintro (⟨r, hr, h1, h2⟩ | ⟨_, h1, h2⟩)
              · rcases List.mem_append.1 hr with hr | hr
                · exact ⟨r, List.mem_append.2 (.inl hr), h1, h2⟩
                · simp at hr
                  subst hr
                  exact ⟨(r.1, q), by simp, h1, by simp only; omega⟩
              · exact ⟨(z.1, q), by simp, by simp only; omega, h2⟩
          · constructor
            · rintro ⟨r, hr, h1, h2⟩
              rcases List.mem_append.1 hr with hr | hr
              · exact .inl ⟨r, hr, h1, h2⟩
              · simp at hr
                subst hr
                exact .inr ⟨rfl, h1, h2⟩
            · rintro (⟨r, hr, h1, h2⟩ | ⟨_, h1, h2⟩)
              · exact ⟨r, List.mem_append.2 (.inl hr), h1, h2⟩
              · exact ⟨(p, q), by simp, h1, h2⟩
    refine ⟨?_, ?_, ?_, fun h0 => by omega⟩
    · intro r hr
      cases ok with
      | false =>
        have := A r (by simpa using hr)
        omega
      | true =>
        rw [if_pos rfl] at hr
        obtain ⟨⟨a1, a2⟩, a3⟩ := p1 rfl
        rcases List.eq_nil_or_concat R with rfl | ⟨ds, z, e⟩
        · simp [appR_nil] at hr
          subst hr
          simp only
          omega
        · rw [List.concat_eq_append] at e
          subst e
          have zz := A z (by simp)
          rw [appR_snoc] at hr
          split at hr
          · rename_i ht
            simp only at ht
            rcases List.mem_append.1 hr with hr | hr
            · have := A r (List.mem_append.2 (.inl hr))
              omega
            · simp at hr
              subst hr
              simp only
              omega
          · rcases List.mem_append.1 hr with hr | hr
            · have := A r hr
              omega
            · simp at hr
              subst hr
              simp only
              omega
    · cases ok with
      | false => simpa using B
      | true =>
        rw [if_pos rfl]
        obtain ⟨⟨a1, a2⟩, a3⟩ := p1 rfl
        rcases List.eq_nil_or_concat R with rfl | ⟨ds, z, e⟩
        · simp [appR_nil]
        · rw [List.concat_eq_append] at e
          subst e
          have zz := A z (by simp)
          have tt := (tch ds z rfl rfl).1
          rw [List.pairwise_append] at B
          obtain ⟨B1, B2, B3⟩ := B
          rw [appR_snoc]
          split
          · rw [List.pairwise_append]
            refine ⟨B1, by simp, fun r hr s hs => ?_⟩
            simp at hs
            subst hs
            exact B3 r hr z (by simp)
          · rename_i ht
            simp only at ht
            rw [List.pairwise_append]
            refine ⟨List.pairwise_append.2 ⟨B1, B2, B3⟩, by simp, fun r hr s hs => ?_⟩
            simp at hs
            subst hs
            simp only
            have hz : z.2 + 1 < p := by omega
            rcases List.mem_append.1 hr with hr | hr
            · have := B3 r hr z (by simp)
              omega
            · simp at hr
              subst hr
              exact hz
    · intro x x0 x1 _
      rw [mem x]
      rcases Int.lt_or_le x (kX ks k) with hx | hx
      · have k0 : 0 < k := by
          rcases Nat.eq_zero_or_pos k with h0 | h0
          · subst h0; omega
          · exact h0
        rw [C x x0 (by omega) k0]
        constructor
        · exact .inl
        · rintro (h2 | ⟨hp, h1, h2⟩)
          · exact h2
          · have := p1 hp
            omega
      · have hs : Has ks k x := ⟨by omega, hx, x1⟩
        rw [inY_of h hs, p2 x hx x1]
        constructor
        · exact .inr
        · rintro (⟨r, hr, h1, h2⟩ | h2)
          · have ar := A r hr
            have e : x = kX ks k := by omega
            have k0 : 0 < k := by
              rcases Nat.eq_zero_or_pos k with h0 | h0
              · rw [Z h0] at hr; simp at hr
              · exact h0
            have := (C x x0 (by omega) k0).2 ⟨r, hr, h1, h2⟩
            exact (p2 x hx x1).1 ((inY_of h hs).1 this)
          · exact h2

/-! ### Values -/
theorem inDom_kX {ks : List (Int × Int)} {lo hi : Int} : inDom ks lo hi = (decide (kX ks 0 ≤ lo) && decide (hi ≤ kX ks (ks.length - 1))) := rfl
theorem up_dn {N c : Int} (c0 : 0 < c) : N / c ≤ upV N c ∧ upV N c ≤ N / c + 1 := by
  unfold upV
  split <;> omega
theorem dn_up {ks : List (Int × Int)} (h : tabOk ks = true) {i : Nat} (hi : i + 1 < ks.length) {x : Int} : dnQ ks i x ≤ upQx ks i x ∧ upQx ks i x ≤ dnQ ks i x + 1 := by
  have n := knot_next h hi
  have := up_dn (N := (kY ks (i + 1) - kY ks i) * (x - kX ks i)) (c := kX ks (i + 1) - kX ks i) (by omega)
  unfold dnQ upQx
  omega
/-- Value, where it is defined: its ends are told by what lies below, and above. -/
structure ValIs (ks : List (Int × Int)) (lo hi vl vh : Int) (i j : Nat) : Prop where
  is : valueQ ks lo hi = (vl, vh, 0)
  low : ∀ v, v ≤ vl ↔ (v ≤ dnQ ks i lo ∧ v ≤ dnQ ks j hi) ∧ ∀ m, m < ks.length → lo < kX ks m → kX ks m < hi → v ≤ kY ks m
  high : ∀ v, vh ≤ v ↔ (upQx ks i lo ≤ v ∧ upQx ks j hi ≤ v) ∧ ∀ m, m < ks.length → lo < kX ks m → kX ks m < hi → kY ks m ≤ v
theorem val_is {ks : List (Int × Int)} (h : tabOk ks = true) {lo hi : Int} (hlh : lo ≤ hi) {i j : Nat} (hi' : Has ks i lo) (hj' : Has ks j hi) :
    ∃ vl vh, ValIs ks lo hi vl vh i j := by
  have b0 := knot_bounds h (show i < ks.length by have := hi'.1; omega)
  have b1 := knot_bounds h hj'.1
  have r1 : [(lo, hi)].all rangeOk = true := by
    obtain ⟨_, x0, _⟩ := hi'
    obtain ⟨_, _, x1⟩ := hj'
    simp [rangeOk, allIn]
    omega
  have r2 : inDom ks lo hi = true := by
    have e1 := knot_le h (i := 0) (j := i) (by omega) (by have := hi'.1; omega)
    have e2 := knot_le h (i := j + 1) (j := ks.length - 1) (by have := hj'.1; omega) (by have := hj'.1; omega)
    obtain ⟨_, x0, _⟩ := hi'
    obtain ⟨_, _, x1⟩ := hj'
    rw [inDom_kX, Bool.and_eq_true, decide_eq_true_eq, decide_eq_true_eq]
    omega
  refine ⟨_, _, ⟨by unfold valueQ; rw [if_neg (by simp [h]), if_neg (by simp [r1]), if_neg (by simp [r2])]; exact value_ref h hlh hi' hj', fun v => ?_, fun v => ?_⟩⟩
  · rw [rLo_le]
    constructor
    · intro ⟨a, b⟩; exact ⟨by omega, b⟩
    · intro ⟨a, b⟩; exact ⟨by omega, b⟩
  · rw [rHi_le]
    constructor
    · intro ⟨a, b⟩; exact ⟨by omega, b⟩
    · intro ⟨a, b⟩; exact ⟨by omega, b⟩
/-- At one integer. -/
theorem val_point {ks : List (Int × Int)} (h : tabOk ks = true) {p : Int} {i : Nat} (hp : Has ks i p) : valueQ ks p p = (dnQ ks i p, upQx ks i p, 0) := by
  obtain ⟨vl, vh, V⟩ := val_is h (Int.le_refl p) hp hp
  have e1 : vl = dnQ ks i p := both_le fun v => by
    rw [V.low v]
    constructor
    · intro ⟨a, _⟩; exact a.1
    · intro a; exact ⟨⟨a, a⟩, fun m _ h1 h2 => by omega⟩
  have e2 : vh = upQx ks i p := both_ge fun v => by
    rw [V.high v]
    constructor
    · intro ⟨a, _⟩; exact a.1
    · intro a; exact ⟨⟨a, a⟩, fun m _ h1 h2 => by omega⟩
  rw [V.is, e1, e2]
/-- The value at an integer of a range is in the range's value. -/
theorem val_in {ks : List (Int × Int)} (h : tabOk ks = true) {lo hi vl vh p : Int} {i j k : Nat} (hi' : Has ks i lo) (hj' : Has ks j hi) (V : ValIs ks lo hi vl vh i j) (hk : Has ks k p) (p0 : lo ≤ p) (p1 : p ≤ hi) : vl ≤ dnQ ks k p ∧ upQx ks k p ≤ vh := by
  have L := (V.low vl).1 (Int.le_refl _)
  have H := (V.high vh).1 (Int.le_refl _)
  obtain ⟨k1, k2, k3⟩ := hk
  have n := knot_next h k1
  -- the piece's part in the range
  have left : vl ≤ dnQ ks k (max (kX ks k) lo) ∧ upQx ks k (max (kX ks k) lo) ≤ vh := by
    rcases Int.lt_or_le lo (kX ks k) with c | c
    · rw [show max (kX ks k) lo = kX ks k by omega, dn_left.1, dn_left.2]
      rcases Int.lt_or_le (kX ks k) hi with c2 | c2
      · exact ⟨L.2 k (by omega) c c2, H.2 k (by omega) c c2⟩
      · have e : kX ks k = hi := by omega
        have s := dn_same h k1 hj'.1 (x := hi) (by omega) (by omega) hj'.2.1 hj'.2.2
        rw [← e, dn_left.1, dn_left.2] at s
        rw [e] at s
        have := L.1.2
        have := H.1.2
        omega
    · rw [show max (kX ks k) lo = lo by omega]
      have s := dn_same h k1 hi'.1 (x := lo) (by omega) (by omega) hi'.2.1 hi'.2.2
      rw [s.1, s.2]
      exact ⟨L.1.1, H.1.1⟩
  have right : vl ≤ dnQ ks k (min (kX ks (k + 1)) hi) ∧ upQx ks k (min (kX ks (k + 1)) hi) ≤ vh := by
    rcases Int.lt_or_le (kX ks (k + 1)) hi with c | c
    · rw [show min (kX ks (k + 1)) hi = kX ks (k + 1) by omega, (dn_right h k1).1, (dn_right h k1).2]
      rcases Int.lt_or_le lo (kX ks (k + 1)) with c2 | c2
      · exact ⟨L.2 (k + 1) k1 c2 c, H.2 (k + 1) k1 c2 c⟩
      · have e : kX ks (k + 1) = lo := by omega
        have s := dn_same h k1 hi'.1 (x := lo) (by omega) (by omega) hi'.2.1 hi'.2.2
        rw [← e, (dn_right h k1).1, (dn_right h k1).2] at s
        rw [e] at s
        have := L.1.1
        have := H.1.1
        omega
    · rw [show min (kX ks (k + 1)) hi = hi by omega]
      have s := dn_same h k1 hj'.1 (x := hi) (by omega) (by omega) hj'.2.1 hj'.2.2
      rw [s.1, s.2]
      exact ⟨L.1.2, H.1.2⟩
  rcases Int.le_total (kY ks k) (kY ks (k + 1)) with c | c
  · have a := dn_mono h k1 (x := max (kX ks k) lo) (y := p) (by omega) c
    have b := dn_mono h k1 (x := p) (y := min (kX ks (k + 1)) hi) (by omega) c
    omega
  · have a := dn_anti h k1 (x := max (kX ks k) lo) (y := p) (by omega) c
    have b := dn_anti h k1 (x := p) (y := min (kX ks (k + 1)) hi) (by omega) c
    omega
/-- A run's value is in the range. -/
theorem val_run {ks : List (Int × Int)} (h : tabOk ks = true) {lo hi vl vh yl yh : Int} {i j : Nat} (hlh : lo ≤ hi) (hi' : Has ks i lo) (hj' : Has ks j hi) (V : ValIs ks lo hi vl vh i j) (hy : ∀ x, lo ≤ x → x ≤ hi → inY ks yl yh x) : yl ≤ vl ∧ vh ≤ yh := by
  have a := (inY_of h hi').1 (hy lo (Int.le_refl _) hlh)
  have b := (inY_of h hj').1 (hy hi hlh (Int.le_refl _))
  unfold inI at a b
  have knot : ∀ m, m < ks.length → lo < kX ks m → kX ks m < hi → yl ≤ kY ks m ∧ kY ks m ≤ yh := by
    intro m hm h1 h2
    obtain ⟨m', rfl⟩ : ∃ m', m = m' + 1 := by
      rcases m with _ | m'
      · have := knot_le h (i := 0) (j := i) (by omega) (by have := hi'.1; omega)
        have := hi'.2.1
        omega
      · exact ⟨m', rfl⟩
    have n := knot_next h (i := m') (by omega)
    have c := (inY_of h (i := m') ⟨by omega, by omega, Int.le_refl _⟩).1 (hy (kX ks (m' + 1)) (by omega) (by omega))
    unfold inI at c
    rw [(dn_right h (by omega)).1, (dn_right h (by omega)).2] at c
    exact c
  exact ⟨(V.low yl).2 ⟨⟨a.1, b.1⟩, fun m hm h1 h2 => (knot m hm h1 h2).1⟩, (V.high yh).2 ⟨⟨a.2, b.2⟩, fun m hm h1 h2 => (knot m hm h1 h2).2⟩⟩

/-! ### All values turned -/
def turn (ks : List (Int × Int)) : List (Int × Int) := ks.map fun k => (k.1, -k.2)
theorem turn_length (ks : List (Int × Int)) : (turn ks).length = ks.length := by simp [turn]
theorem turn_x {ks : List (Int × Int)} {i : Nat} : kX (turn ks) i = kX ks i := by
  unfold kX turn
  rw [List.getD_eq_getElem?_getD, List.getD_eq_getElem?_getD, List.getElem?_map]
  cases ks[i]? <;> rfl
theorem turn_y {ks : List (Int × Int)} {i : Nat} : kY (turn ks) i = -kY ks i := by
  unfold kY turn
  rw [List.getD_eq_getElem?_getD, List.getD_eq_getElem?_getD, List.getElem?_map]
  cases ks[i]? <;> simp
theorem knotOk_kX {ks : List (Int × Int)} {k : Nat} : knotOk ks k = (allIn 1000000000000 [kX ks k, kY ks k] && (decide (k = 0) || decide (kX ks (k - 1) < kX ks k))) := rfl
theorem turn_ok {ks : List (Int × Int)} (h : tabOk ks = true) : tabOk (turn ks) = true := by
  have e : ∀ k, knotOk (turn ks) k = knotOk ks k := by
    intro k
    rw [knotOk_kX, knotOk_kX, turn_x, turn_x, turn_y]
    congr 1
    simp only [allIn, List.all_cons, List.all_nil, Bool.and_true]
    congr 1
    rw [Bool.eq_iff_iff]
    simp only [Bool.and_eq_true, decide_eq_true_eq]
    omega
  unfold tabOk at *
  rw [turn_length]
  rw [show knotOk (turn ks) = knotOk ks from funext e]
  exact h
theorem neg_divW {N c : Int} (c0 : 0 < c) : (-N) / c = -upV N c ∧ upV (-N) c = -(N / c) := by
  constructor
  · refine both_le fun v => ?_
    rw [le_dn c0]
    have := up_le (N := N) (k := -v) c0
    rw [Int.neg_mul] at this
    omega
  · refine both_ge fun v => ?_
    rw [up_le c0]
    have := le_dn (N := N) (k := -v) c0
    rw [Int.neg_mul] at this
    omega
theorem turn_dn {ks : List (Int × Int)} (h : tabOk ks = true) {i : Nat} (hi : i + 1 < ks.length) {x : Int} : dnQ (turn ks) i x = -upQx ks i x ∧ upQx (turn ks) i x = -dnQ ks i x := by
  have n := knot_next h hi
  have c0 : 0 < kX ks (i + 1) - kX ks i := by omega
  unfold dnQ upQx
  rw [turn_x, turn_x, turn_y, turn_y]
  have e : (-kY ks (i + 1) - -kY ks i) * (x - kX ks i) = -((kY ks (i + 1) - kY ks i) * (x - kX ks i)) := by rw [← Int.neg_mul]; congr 1; omega
  rw [e, (neg_divW c0).1, (neg_divW c0).2]
  omega
theorem turn_has {ks : List (Int × Int)} {i : Nat} {x : Int} (hx : Has ks i x) : Has (turn ks) i x := by
  unfold Has at *
  rw [turn_x, turn_x, turn_length]
  exact hx
theorem val_turn {ks : List (Int × Int)} (h : tabOk ks = true) {lo hi vl vh : Int} {i j : Nat} (hlh : lo ≤ hi) (hi' : Has ks i lo) (hj' : Has ks j hi) (V : ValIs ks lo hi vl vh i j) : valueQ (turn ks) lo hi = (-vh, -vl, 0) := by
  obtain ⟨tl, th, T⟩ := val_is (turn_ok h) hlh (turn_has hi') (turn_has hj')
  have e1 : tl = -vh := both_le fun v => by
    have x := T.low v
    have y := V.high (-v)
    rw [(turn_dn h hi'.1).1, (turn_dn h hj'.1).1, turn_length] at x
    rw [x]
    have : v ≤ -vh ↔ vh ≤ -v := by omega
    rw [this, y]
    constructor
    · intro ⟨a, b⟩; exact ⟨by omega, fun m hm h1 h2 => by have := b m hm (by rw [turn_x]; exact h1) (by rw [turn_x]; exact h2); rw [turn_y] at this; omega⟩
    · intro ⟨a, b⟩; exact ⟨by omega, fun m hm h1 h2 => by rw [turn_x] at h1 h2; have := b m hm h1 h2; rw [turn_y]; omega⟩
  have e2 : th = -vl := both_ge fun v => by
    have x := T.high v
    have y := V.low (-v)
    rw [(turn_dn h hi'.1).2, (turn_dn h hj'.1).2, turn_length] at x
    rw [x]
    have : -vl ≤ v ↔ -v ≤ vl := by omega
    rw [this, y]
    constructor
    · intro ⟨a, b⟩; exact ⟨by omega, fun m hm h1 h2 => by have := b m hm (by rw [turn_x]; exact h1) (by rw [turn_x]; exact h2); rw [turn_y] at this; omega⟩
    · intro ⟨a, b⟩; exact ⟨by omega, fun m hm h1 h2 => by rw [turn_x] at h1 h2; have := b m hm h1 h2; rw [turn_y]; omega⟩
  rw [T.is, e1, e2]
end Go.Proofs.Ytckapcfofkeicaa

namespace Go.Proofs.Ytckapcfofkeicaa
set_option linter.unusedSimpArgs false
set_option linter.unusedVariables false
open Go.RowKit

set_option maxHeartbeats 1600000 in
theorem stands_any (ks : List (Int × Int)) (a : Option Addr) (cap : Nat) (x yl yh : Int) (m : Nat) (w : World) (ht : tabOk ks = true) (hx : Has ks m x) (ha : a = none → cap = 0 ∧ ks = []) (h : IsPairs w a ks) :
    Calls Try.prog 66 #[.slice a ks.length cap, .int .i64 x, .agg #[.int .i64 yl, .int .i64 yh]] w fun e w' => e = .returned (.bool (insQ (dnQ ks m x) (upQx ks m x) yl yh)) ∧ Below w.heap.size w w' := by
  have l := (len_of ht).2
  have V := val_point ht hx
  obtain ⟨D, hD⟩ : ∃ D, dnQ ks m x = D := ⟨_, rfl⟩
  obtain ⟨U, hU⟩ : ∃ U, upQx ks m x = U := ⟨_, rfl⟩
  rw [hD, hU] at V ⊢
  have VC := hide (fun (a : Option Addr) (cap : Nat) (W : World) (hp : IsPairs W a ks) => (show Calls Try.prog 50 #[.slice a ks.length cap, .agg #[.int .i64 x, .int .i64 x]] W fun e w' => e = .returned (.tuple #[.agg #[.int .i64 D, .int .i64 U], .int .i64 0]) ∧ Below W.heap.size W w' by have hV := value_any ks a cap x x W (by omega) hp; rwa [V] at hV))
  have HA := hide ha
  have H := hide h
  clear hD hU V ha h hx ht
  go_enter Try.func66, Try.ntmps66
  go_wp2_with fail
  refine (ownKnots_any a cap ks _ (by omega) HA.out (pairs_later H.out (by repeat (first | exact Below.refl _ _ | assumption | apply balloc | apply bdrew | (refine bset ?_ (by first | (simp; done) | omega | (simp; omega)) _) | (refine bnext ?_ (by assumption)))))).mono ?_
  rintro e w1 ⟨b1, c1, rfl, _, hi1, hb1⟩
  have y0 := later hb1 (a := ⟨w.heap.size, 0, none⟩) (v := .int .i64 yl) (by simp [go_sem, World.cell?_alloc_past])
  have y1 := later hb1 (a := ⟨w.heap.size, 1, none⟩) (v := .int .i64 yh) (by simp [go_sem, World.cell?_alloc_past])
  have B1 := hide (show Below w.heap.size w w1 from (by repeat (first | exact Below.refl _ _ | assumption | apply balloc | apply bdrew | (refine bset ?_ (by first | (simp; done) | omega | (simp; omega)) _) | (refine bnext ?_ (by assumption)))))
  have I1 := hide hi1
  clear hi1 hb1
  go_wp2_with fail
  refine (point_any x _).mono ?_
  rintro e w2 ⟨rfl, hb2⟩
  have z0 := later hb2 y0
  have z1 := later hb2 y1
  have B2 := hide (bnext B1.out hb2)
  have I2 := hide (pairs_later I1.out hb2)
  clear y0 y1 hb2 B1 I1
  go_wp2_with fail
  refine (VC.out _ _ _ I2.out).mono ?_
  rintro e w3 ⟨rfl, hb3⟩
  have y0 := fun o => later (balloc (o := o) (Below.refl _ _)) (later hb3 z0)
  have y1 := fun o => later (balloc (o := o) (Below.refl _ _)) (later hb3 z1)
  have B3 := hide (bnext B2.out hb3)
  clear z0 z1 hb3 B2 I2
  go_wp2_with fail
  refine (inside_any D U yl yh _).mono ?_
  rintro e w4 ⟨rfl, hb4⟩
  have B4 := bnext (balloc (o := .cells #[.int .i64 D, .int .i64 U] 46) B3.out) hb4
  clear y0 y1 hb4
  go_wp2_with fail
  go_ret
  exact ⟨rfl, B4⟩

/-- The first k values are turned. -/
def turnK (ks : List (Int × Int)) (k : Nat) : List (Int × Int) := turn (ks.take k) ++ ks.drop k
theorem turnK_zero (ks : List (Int × Int)) : turnK ks 0 = ks := by simp [turnK, turn]
theorem turnK_all (ks : List (Int × Int)) : turnK ks ks.length = turn ks := by simp [turnK, turn]
theorem turnK_length (ks : List (Int × Int)) (k : Nat) (hk : k ≤ ks.length) : (turnK ks k).length = ks.length := by simp [turnK, turn]; omega
theorem rowOf_app (A B : List (Int × Int)) : rowOf (A ++ B) = rowOf A ++ rowOf B := by simp [rowOf]
theorem turnK_get (ks : List (Int × Int)) (k : Nat) (hk : k < ks.length) : (rowOf (turnK ks k))[k * 2 + 1]? = some (.int .i64 (kY ks k)) := by
  have e : ks.drop k = ks[k] :: ks.drop (k + 1) := List.drop_eq_getElem_cons hk
  have l : (rowOf (turn (ks.take k))).length = k * 2 := by rw [rowOf_length, turn_length]; simp; omega
  unfold turnK
  rw [rowOf_app, e, List.getElem?_append_right (by omega), l]
  have h1 : kY ks k = ks[k].2 := by simp [kY, List.getD_eq_getElem?_getD, hk]
  rw [h1]
  generalize ks[k] = z
  generalize ks.drop (k + 1) = D
  simp [rowOf, show k * 2 + 1 - k * 2 = 1 by omega]
theorem turnK_set (ks : List (Int × Int)) (k : Nat) (hk : k < ks.length) : (rowOf (turnK ks k)).set (k * 2 + 1) (.int .i64 (-kY ks k)) = rowOf (turnK ks (k + 1)) := by
  have e : ks.drop k = ks[k] :: ks.drop (k + 1) := List.drop_eq_getElem_cons hk
  have t : ks.take (k + 1) = ks.take k ++ [ks[k]] := List.take_succ_eq_append_getElem hk
  have l : (rowOf (turn (ks.take k))).length = k * 2 := by rw [rowOf_length, turn_length]; simp; omega
  have h1 : kY ks k = ks[k].2 := by simp [kY, List.getD_eq_getElem?_getD, hk]
  unfold turnK
  rw [rowOf_app, e, List.set_append_right _ _ (by omega), l, t, show k * 2 + 1 - k * 2 = 1 by omega, h1]
  rw [show turn (ks.take k ++ [ks[k]]) = turn (ks.take k) ++ [(ks[k].1, -ks[k].2)] by simp only [turn, List.map_append, List.map_cons, List.map_nil], List.append_assoc, rowOf_app]
  generalize ks[k] = z
  generalize ks.drop (k + 1) = D
  simp [rowOf]
theorem dn_far {ks : List (Int × Int)} (h : tabOk ks = true) {i : Nat} {x : Int} (hx : Has ks i x) : (-3000000000000 ≤ dnQ ks i x ∧ dnQ ks i x ≤ 3000000000000) ∧ -3000000000000 ≤ upQx ks i x ∧ upQx ks i x ≤ 3000000000000 := by
  obtain ⟨h1, h2, h3⟩ := hx
  have b0 := knot_bounds h (show i < ks.length by omega)
  have b1 := knot_bounds h h1
  have n := knot_next h h1
  have R := rise_bounds (d := kY ks (i + 1) - kY ks i) (c := kX ks (i + 1) - kX ks i) (e := x - kX ks i) (by omega) (by omega) (by omega) (by omega) (by omega)
  unfold dnQ upQx
  omega
theorem place_inW {l h b : Int} (h0 : l ≤ h) : l ≤ placeQ l h b ∧ placeQ l h b ≤ h := by
  unfold placeQ
  split
  · omega
  · have := Int.emod_nonneg b (show h - l + 1 ≠ 0 by omega)
    have := Int.emod_lt_of_pos b (show 0 < h - l + 1 by omega)
    omega
/-- All that the statement's main way finds of the table and the numbers that it tries. -/
structure WiFacts (ks : List (Int × Int)) (lo hi p vl vh d u : Int) : Prop where
  r : (kX ks 0 ≤ lo ∧ lo ≤ p) ∧ p ≤ hi ∧ hi ≤ kX ks (ks.length - 1)
  v : valueQ ks lo hi = (vl, vh, 0)
  o : valueQ ks p p = (d, u, 0)
  t : valueQ (turn ks) lo hi = (-vh, -vl, 0)
  n : (vl ≤ d ∧ d ≤ u) ∧ u ≤ vh ∧ u ≤ d + 1
  f : (-3000000000000 ≤ vl ∧ vl ≤ 3000000000000) ∧ -3000000000000 ≤ vh ∧ vh ≤ 3000000000000
  y : ∀ yl yh, inY ks yl yh p ↔ yl ≤ d ∧ u ≤ yh
theorem wi_facts {ks : List (Int × Int)} (h : tabOk ks = true) (t0 t1 t2 : Int) :
    ∃ vl vh d u, WiFacts ks (partQ (kX ks 0) (kX ks (ks.length - 1)) t0 t1).1 (partQ (kX ks 0) (kX ks (ks.length - 1)) t0 t1).2 (placeQ (partQ (kX ks 0) (kX ks (ks.length - 1)) t0 t1).1 (partQ (kX ks 0) (kX ks (ks.length - 1)) t0 t1).2 t2) vl vh d u := by
  have len := len_of h
  have ab := knot_le h (i := 0) (j := ks.length - 1) (by omega) (by omega)
  have q0 := place_inW (b := t0) ab
  have q1 := place_inW (b := t1) ab
  obtain ⟨lo, hlo⟩ : ∃ x, (partQ (kX ks 0) (kX ks (ks.length - 1)) t0 t1).1 = x := ⟨_, rfl⟩
  obtain ⟨hi, hhi⟩ : ∃ x, (partQ (kX ks 0) (kX ks (ks.length - 1)) t0 t1).2 = x := ⟨_, rfl⟩
  rw [hlo, hhi]
  have e0 : lo = min (placeQ (kX ks 0) (kX ks (ks.length - 1)) t0) (placeQ (kX ks 0) (kX ks (ks.length - 1)) t1) := hlo.symm
  have e1 : hi = max (placeQ (kX ks 0) (kX ks (ks.length - 1)) t0) (placeQ (kX ks 0) (kX ks (ks.length - 1)) t1) := hhi.symm
  have lh : lo ≤ hi := by omega
  have q2 := place_inW (b := t2) lh
  generalize placeQ lo hi t2 = p at *
  have hm : ks.length - 2 + 1 = ks.length - 1 := by omega
  obtain ⟨i, hi1⟩ := has_ex (ks := ks) (x := lo) (ks.length - 2) (by omega) (by omega) (by rw [hm]; omega)
  obtain ⟨j, hj1⟩ := has_ex (ks := ks) (x := hi) (ks.length - 2) (by omega) (by omega) (by rw [hm]; omega)
  obtain ⟨k, hk1⟩ := has_ex (ks := ks) (x := p) (ks.length - 2) (by omega) (by omega) (by rw [hm]; omega)
  obtain ⟨vl, vh, V⟩ := val_is h lh hi1 hj1
  have inn := val_in h hi1 hj1 V hk1 q2.1 q2.2
  have du := dn_up h hk1.1 (x := p)
  have L := (V.low vl).1 (Int.le_refl _)
  have H := (V.high vh).1 (Int.le_refl _)
  have f1 := dn_far h hi1
  have f2 := dn_far h hj1
  have f3 := dn_far h hk1
  have kb : ∀ m, m < ks.length → -1000000000000 ≤ kY ks m ∧ kY ks m ≤ 1000000000000 := fun m hm => (knot_bounds h hm).2
  have g1 : -3000000000000 ≤ vl := (V.low _).2 ⟨by omega, fun m hm _ _ => by have := kb m hm; omega⟩
  have g2 : vh ≤ 3000000000000 := (V.high _).2 ⟨by omega, fun m hm _ _ => by have := kb m hm; omega⟩
  exact ⟨vl, vh, _, _, ⟨by omega, V.is, val_point h hk1, val_turn h lh hi1 hj1 V, by omega, by omega, fun yl yh => inY_of h hk1⟩⟩
def aR (R : List (Int × Int)) (i : Nat) : Int := (R.getD i (0, 0)).1
def bR (R : List (Int × Int)) (i : Nat) : Int := (R.getD i (0, 0)).2
/-- What the statement finds of each run. -/
structure RunFacts (ks : List (Int × Int)) (yl yh : Int) (R : List (Int × Int)) : Prop where
  ends : ∀ i, i < R.length → (kX ks 0 ≤ aR R i ∧ aR R i ≤ bR R i) ∧ bR R i ≤ kX ks (ks.length - 1)
  gaps : ∀ i, i + 1 < R.length → bR R i < aR R (i + 1) - 1
  vals : ∀ i, i < R.length → ∃ vl vh, valueQ ks (aR R i) (bR R i) = (vl, vh, 0) ∧ insQ vl vh yl yh = true
  before : ∀ i, i < R.length → kX ks 0 < aR R i → ∃ m, Has ks m (aR R i - 1) ∧ insQ (dnQ ks m (aR R i - 1)) (upQx ks m (aR R i - 1)) yl yh = false
  behind : ∀ i, i < R.length → bR R i < kX ks (ks.length - 1) → ∃ m, Has ks m (bR R i + 1) ∧ insQ (dnQ ks m (bR R i + 1)) (upQx ks m (bR R i + 1)) yl yh = false
  all : ∀ x, kX ks 0 ≤ x → x ≤ kX ks (ks.length - 1) → (inY ks yl yh x ↔ ∃ i, i < R.length ∧ aR R i ≤ x ∧ x ≤ bR R i)

theorem getD_mem {R : List (Int × Int)} {i : Nat} (hi : i < R.length) : R.getD i (0, 0) ∈ R := by
  rw [List.getD_eq_getElem?_getD, List.getElem?_eq_getElem hi, Option.getD_some]
  exact List.getElem_mem hi
theorem mem_getD {R : List (Int × Int)} {r : Int × Int} (hr : r ∈ R) : ∃ i, i < R.length ∧ R.getD i (0, 0) = r := by
  obtain ⟨i, hi, e⟩ := List.mem_iff_getElem.1 hr
  exact ⟨i, hi, by rw [List.getD_eq_getElem?_getD, List.getElem?_eq_getElem hi, Option.getD_some, e]⟩
theorem ins_is {ks : List (Int × Int)} (h : tabOk ks = true) {m : Nat} {x yl yh : Int} (hx : Has ks m x) : insQ (dnQ ks m x) (upQx ks m x) yl yh = true ↔ inY ks yl yh x := by
  have := dn_up h hx.1 (x := x)
  rw [inY_of h hx]
  unfold insQ inI
  simp only [Bool.and_eq_true, decide_eq_true_eq]
  omega
theorem run_facts {ks : List (Int × Int)} (h : tabOk ks = true) (yl yh : Int) : RunFacts ks yl yh (wAll yl yh (segs ks (ks.length - 1))) := by
  have len := len_of h
  obtain ⟨A, B, C, _⟩ := runs_ok h yl yh (ks.length - 1) (by omega)
  generalize wAll yl yh (segs ks (ks.length - 1)) = R at *
  have hm : ks.length - 2 + 1 = ks.length - 1 := by omega
  have has : ∀ x, kX ks 0 ≤ x → x ≤ kX ks (ks.length - 1) → ∃ m, Has ks m x := fun x x0 x1 => has_ex (ks := ks) (x := x) (ks.length - 2) (by omega) x0 (by rw [hm]; exact x1)
  have sep : ∀ i j, i < j → j < R.length → bR R i + 1 < aR R j := by
    intro i j hij hj
    have := (List.pairwise_iff_getElem.1 B) i j (by omega) hj hij
    have g : ∀ m (hm : m < R.length), R.getD m (0, 0) = R[m] := fun m hm => by rw [List.getD_eq_getElem?_getD, List.getElem?_eq_getElem hm, Option.getD_some]
    unfold aR bR
    rw [g i (by omega), g j hj]
    exact this
  have E : ∀ i, i < R.length → (kX ks 0 ≤ aR R i ∧ aR R i ≤ bR R i) ∧ bR R i ≤ kX ks (ks.length - 1) := fun i hi => A _ (getD_mem hi)
  have all : ∀ x, kX ks 0 ≤ x → x ≤ kX ks (ks.length - 1) → (inY ks yl yh x ↔ ∃ i, i < R.length ∧ aR R i ≤ x ∧ x ≤ bR R i) := by
    intro x x0 x1
    rw [C x x0 x1 (by omega)]
    constructor
    · rintro ⟨r, hr, h1, h2⟩
      obtain ⟨i, hi, rfl⟩ := mem_getD hr
      exact ⟨i, hi, h1, h2⟩
    · rintro ⟨i, hi, h1, h2⟩
      exact ⟨_, getD_mem hi, h1, h2⟩
  have out : ∀ i x, i < R.length → (x = aR R i - 1 ∨ x = bR R i + 1) → kX ks 0 ≤ x → x ≤ kX ks (ks.length - 1) → ∃ m, Has ks m x ∧ insQ (dnQ ks m x) (upQx ks m x) yl yh = false := by
    intro i x hi hx x0 x1
    obtain ⟨m, hm⟩ := has x x0 x1
    refine ⟨m, hm, ?_⟩
    rw [Bool.eq_false_iff]
    intro hh
    obtain ⟨j, hj, h1, h2⟩ := (all x x0 x1).1 ((ins_is h hm).1 hh)
    have e := E i hi
    rcases Nat.lt_trichotomy i j with c | c | c
    · have := sep i j c hj
      omega
    · subst c
      omega
    · have := sep j i c hi
      omega
  refine ⟨E, fun i hi => by have := sep i (i + 1) (by omega) hi; omega, fun i hi => ?_, fun i hi hlt => out i _ hi (.inl rfl) (by omega) (by have := E i hi; omega), fun i hi hlt => out i _ hi (.inr rfl) (by have := E i hi; omega) (by omega), all⟩
  have e := E i hi
  obtain ⟨m, hm1⟩ := has (aR R i) (by omega) (by omega)
  obtain ⟨m', hm2⟩ := has (bR R i) (by omega) (by omega)
  obtain ⟨vl, vh, V⟩ := val_is h (by omega) hm1 hm2
  have y := val_run h (by omega) hm1 hm2 V (yl := yl) (yh := yh) fun x x0 x1 => (all x (by omega) (by omega)).2 ⟨i, hi, x0, x1⟩
  have inn := val_in h hm1 hm2 V hm1 (Int.le_refl _) (by omega)
  have du := dn_up h hm1.1 (x := aR R i)
  refine ⟨vl, vh, V.is, ?_⟩
  unfold insQ
  simp only [Bool.and_eq_true, decide_eq_true_eq]
  omega
end Go.Proofs.Ytckapcfofkeicaa
