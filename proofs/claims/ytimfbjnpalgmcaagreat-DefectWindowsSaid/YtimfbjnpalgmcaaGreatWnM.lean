/-
  Windows of rates: runs of rates, told by what lies in them; the runs that are in none of some ranges; the runs that are put together from one change to the next.
-/
import Derived.Test.YtimfbjnpalgmcaaGreatDgV
namespace Go.Proofs.YtimfbjnpalgmcaaGreat
set_option linter.unusedSimpArgs false
set_option linter.unusedVariables false

/-- Runs, from x on, that do not touch. -/
def CR : Int → List (Int × Int) → Prop
  | _, [] => True
  | x, r :: l => (x ≤ r.1 ∧ r.1 ≤ r.2) ∧ CR (r.2 + 2) l
def inC (L : List (Int × Int)) (v : Int) : Bool := L.any fun r => decide (r.1 ≤ v) && decide (v ≤ r.2)
theorem cr_mono {x y : Int} {L : List (Int × Int)} (h : CR x L) (hy : y ≤ x) : CR y L := by
  cases L with
  | nil => trivial
  | cons r l => exact ⟨⟨by have := h.1.1; omega, h.1.2⟩, h.2⟩
theorem cr_low {x v : Int} {L : List (Int × Int)} (h : CR x L) (hv : inC L v = true) : x ≤ v := by
  induction L generalizing x with
  | nil => cases hv
  | cons r l ih =>
    simp only [inC, List.any_cons, Bool.or_eq_true, Bool.and_eq_true, decide_eq_true_eq] at hv
    rcases hv with hv | hv
    · have := h.1.1; omega
    · have := ih h.2 hv
      have := h.1
      omega
theorem inC_cons (r : Int × Int) (l : List (Int × Int)) (v : Int) : inC (r :: l) v = ((decide (r.1 ≤ v) && decide (v ≤ r.2)) || inC l v) := rfl
theorem inC_head {r : Int × Int} {l : List (Int × Int)} {v : Int} (h0 : r.1 ≤ v) (h1 : v ≤ r.2) : inC (r :: l) v = true := by
  rw [inC_cons, decide_eq_true h0, decide_eq_true h1]; rfl
/-- Such runs are told by the rates in them. -/
theorem cr_unique : ∀ (L M : List (Int × Int)) (x y : Int), CR x L → CR y M → (∀ v, inC L v = inC M v) → L = M := by
  intro L
  induction L with
  | nil =>
    intro M x y _ hM h
    cases M with
    | nil => rfl
    | cons b m =>
      have := h b.1
      rw [inC_head (Int.le_refl _) hM.1.2] at this
      cases this
  | cons a l ih =>
    intro M x y hL hM h
    cases M with
    | nil =>
      have := h a.1
      rw [inC_head (Int.le_refl _) hL.1.2] at this
      cases this
    | cons b m =>
      have e1 : a.1 = b.1 := by
        have p := cr_low (x := b.1) (v := a.1) (L := b :: m) ⟨⟨Int.le_refl _, hM.1.2⟩, hM.2⟩ (by rw [← h]; exact inC_head (Int.le_refl _) hL.1.2)
        have q := cr_low (x := a.1) (v := b.1) (L := a :: l) ⟨⟨Int.le_refl _, hL.1.2⟩, hL.2⟩ (by rw [h]; exact inC_head (Int.le_refl _) hM.1.2)
        omega
      have out : ∀ {r : Int × Int} {k : List (Int × Int)} {z : Int}, CR z (r :: k) → inC (r :: k) (r.2 + 1) = false := by
        intro r k z hz
        cases c : inC (r :: k) (r.2 + 1) with
        | false => rfl
        | true =>
          rw [inC_cons, decide_eq_false (show ¬ r.2 + 1 ≤ r.2 by omega)] at c
          simp at c
          have := cr_low hz.2 c
          omega
      have e2 : a.2 = b.2 := by
        rcases Int.lt_trichotomy a.2 b.2 with c | c | c
        · have p := h (a.2 + 1)
          rw [out hL, inC_head (by have := hL.1.2; omega) (by omega)] at p
          cases p
        · exact c
        · have p := h (b.2 + 1)
          rw [out hM, inC_head (by have := hM.1.2; omega) (by omega)] at p
          cases p
      have e : a = b := by
        obtain ⟨a1, a2⟩ := a
        obtain ⟨b1, b2⟩ := b
        simp only at e1 e2
        rw [e1, e2]
      subst e
      congr 1
      refine ih m (a.2 + 2) (a.2 + 2) hL.2 hM.2 fun v => ?_
      by_cases c : v ≤ a.2
      · have p : inC l v = false := by
          cases d : inC l v with
          | false => rfl
          | true => have := cr_low hL.2 d; omega
        have q : inC m v = false := by
          cases d : inC m v with
          | false => rfl
          | true => have := cr_low hM.2 d; omega
        rw [p, q]
      · have p := h v
        rw [inC_cons, inC_cons, decide_eq_false c] at p
        simpa using p

/-! ### The runs in none of some ranges -/
theorem gapR_cr : ∀ (ds : List (Int × Int)) (x : Int), (∀ r ∈ ds, r.1 ≤ r.2) → CR x (gapR x ds) := by
  intro ds
  induction ds with
  | nil =>
    intro x _
    unfold gapR
    split
    · exact ⟨⟨Int.le_refl _, by simp only; omega⟩, trivial⟩
    · trivial
  | cons r l ih =>
    intro x h
    have hr := h r (by simp)
    have hl : ∀ q ∈ l, q.1 ≤ q.2 := fun q hq => h q (by simp [hq])
    unfold gapR
    split
    · exact ⟨⟨Int.le_refl _, by simp only; omega⟩, cr_mono (ih _ hl) (by simp only; omega)⟩
    · exact cr_mono (ih _ hl) (by omega)
theorem gapR_in : ∀ (ds : List (Int × Int)) (x v : Int), ds.Pairwise (fun a b => a.1 ≤ b.1) → (∀ r ∈ ds, r.1 ≤ r.2 ∧ r.2 ≤ 1000000) → inC (gapR x ds) v = (decide (x ≤ v) && (decide (v ≤ 1000000) && !(inC ds v))) := by
  intro ds
  induction ds with
  | nil =>
    intro x v _ _
    unfold gapR
    split
    · simp [inC]
    · rename_i c
      by_cases d : x ≤ v
      · rw [decide_eq_false (show ¬ v ≤ 1000000 by omega)]; simp [inC]
      · rw [decide_eq_false d]; rfl
  | cons r l ih =>
    intro x v hp h
    have hr := h r (by simp)
    have hl : ∀ q ∈ l, q.1 ≤ q.2 ∧ q.2 ≤ 1000000 := fun q hq => h q (by simp [hq])
    have hp1 := (List.pairwise_cons.1 hp).1
    have I := ih (max x (r.2 + 1)) v (List.pairwise_cons.1 hp).2 hl
    have below : v < r.1 → inC l v = false := fun c => by
      cases d : inC l v with
      | false => rfl
      | true =>
        obtain ⟨q, hq, e⟩ := List.any_eq_true.1 d
        simp only [Bool.and_eq_true, decide_eq_true_eq] at e
        have := hp1 q hq
        omega
    unfold gapR
    rw [inC_cons]
    by_cases c1 : v < r.1
    · rw [below c1, decide_eq_false (show ¬ r.1 ≤ v by omega)]
      have J : inC (gapR (max x (r.2 + 1)) l) v = false := by rw [I, decide_eq_false (show ¬ max x (r.2 + 1) ≤ v by omega)]; rfl
      split
      · rw [inC_cons, J, decide_eq_true (show v ≤ 1000000 by omega), show decide (v ≤ r.1 - 1) = true from decide_eq_true (by omega)]; simp
      · rw [J, decide_eq_false (show ¬ x ≤ v by omega)]; rfl
    · have N : decide (v ≤ r.1 - 1) = false := decide_eq_false (by omega)
      have K : inC (if x < r.1 then (x, r.1 - 1) :: gapR (max x (r.2 + 1)) l else gapR (max x (r.2 + 1)) l) v = inC (gapR (max x (r.2 + 1)) l) v := by
        split
        · rw [inC_cons, N]; simp
        · rfl
      rw [K, I, decide_eq_true (show r.1 ≤ v by omega)]
      by_cases c2 : v ≤ r.2
      · rw [decide_eq_true c2, decide_eq_false (show ¬ max x (r.2 + 1) ≤ v by omega)]; simp
      · rw [decide_eq_false c2, show decide (max x (r.2 + 1) ≤ v) = decide (x ≤ v) from decide_eq_decide.2 (by omega)]; simp

/-! ### Runs put together from the left -/
/-- A run more, which may go on with the last one. -/
def appC (L : List (Int × Int)) (r : Int × Int) : List (Int × Int) :=
  match L.getLast? with
  | some z => if z.2 = r.1 - 1 then L.dropLast ++ [(z.1, r.2)] else L ++ [r]
  | none => [r]
theorem appC_snoc (ds : List (Int × Int)) (z r : Int × Int) : appC (ds ++ [z]) r = if z.2 = r.1 - 1 then ds ++ [(z.1, r.2)] else (ds ++ [z]) ++ [r] := by simp [appC]
theorem cr_snoc : ∀ (L : List (Int × Int)) (x : Int) (r : Int × Int), CR x (L ++ [r]) ↔ CR x L ∧ (x ≤ r.1 ∧ r.1 ≤ r.2) ∧ ∀ q ∈ L, q.2 + 2 ≤ r.1 := by
  intro L
  induction L with
  | nil => intro x r; simp [CR]
  | cons a l ih =>
    intro x r
    simp only [List.cons_append, CR]
    rw [ih]
    constructor
    · rintro ⟨h1, h2, h3, h4⟩
      exact ⟨⟨h1, h2⟩, ⟨by omega, h3.2⟩, fun q hq => by
        rcases List.mem_cons.1 hq with e | hq
        · subst e; omega
        · exact h4 q hq⟩
    · rintro ⟨⟨h1, h2⟩, h3, h4⟩
      exact ⟨h1, h2, ⟨h4 a (by simp), h3.2⟩, fun q hq => h4 q (by simp [hq])⟩
theorem inC_app (L M : List (Int × Int)) (v : Int) : inC (L ++ M) v = (inC L v || inC M v) := by simp [inC, List.any_append]
theorem inC_one (r : Int × Int) (v : Int) : inC [r] v = (decide (r.1 ≤ v) && decide (v ≤ r.2)) := by simp [inC]
/-- Runs below v; and one more, from v on. -/
theorem appC_cr {L : List (Int × Int)} {x v w : Int} (h : CR x L) (hx : x ≤ v) (hv : ∀ q ∈ L, q.2 < v) (hw : v < w) : CR x (appC L (v, w - 1)) ∧ (∀ q ∈ appC L (v, w - 1), q.2 < w) ∧ ∀ u, inC (appC L (v, w - 1)) u = (inC L u || (decide (v ≤ u) && decide (u < w))) := by
  have d : ∀ u, decide (u ≤ w - 1) = decide (u < w) := fun u => decide_eq_decide.2 (by omega)
  rcases List.eq_nil_or_concat L with hL | ⟨ds, z, hL⟩
  · subst hL
    refine ⟨⟨⟨hx, by simp only; omega⟩, trivial⟩, fun q hq => ?_, fun u => ?_⟩
    · simp [appC] at hq; subst hq; simp only; omega
    · simp only [appC, List.getLast?_nil, inC_one, d]; simp [inC]
  · have hL' : L = ds ++ [z] := by simpa using hL
    subst hL'
    obtain ⟨h1, h2, h3⟩ := (cr_snoc ds x z).1 h
    have zv := hv z (by simp)
    rw [appC_snoc]
    by_cases c : z.2 = v - 1
    · rw [if_pos c]
      refine ⟨(cr_snoc _ _ _).2 ⟨h1, ⟨h2.1, by simp only; omega⟩, h3⟩, fun q hq => ?_, fun u => ?_⟩
      · rcases List.mem_append.1 hq with hq | hq
        · have := hv q (by simp [hq]); omega
        · simp at hq; subst hq; simp only; omega
      · rw [inC_app, inC_app, inC_one, inC_one, Bool.or_assoc]
        congr 1
        simp only
        rw [← Bool.decide_and, ← Bool.decide_and, ← Bool.decide_and, ← Bool.decide_or]
        exact decide_eq_decide.2 (by omega)
    · rw [if_neg c]
      refine ⟨(cr_snoc _ _ _).2 ⟨h, ⟨hx, by simp only; omega⟩, fun q hq => ?_⟩, fun q hq => ?_, fun u => ?_⟩
      · rcases List.mem_append.1 hq with hq | hq
        · have := h3 q hq; simp only; omega
        · simp at hq; subst hq; simp only; omega
      · rcases List.mem_append.1 hq with hq | hq
        · have := hv q hq; omega
        · simp at hq; subst hq; simp only; omega
      · rw [inC_app, inC_one, d]
/-- From v on, as far as n changes reach: the runs where it is good. -/
def refW (nx : Int → Int) (good : Int → Bool) : Nat → Int → List (Int × Int) → List (Int × Int)
  | 0, _, L => L
  | n + 1, v, L => if v ≤ 1000000 then refW nx good n (nx v) (if good v then appC L (v, nx v - 1) else L) else L
theorem refW_is {nx : Int → Int} {good : Int → Bool} (hn : ∀ v, 0 ≤ v → v ≤ 1000000 → v < nx v ∧ nx v ≤ 1000001) (hg : ∀ v u, 0 ≤ v → v ≤ u → u < nx v → v ≤ 1000000 → good u = good v) : ∀ (n : Nat) (v : Int) (L : List (Int × Int)), 0 ≤ v → v ≤ 1000001 → 1000001 - v ≤ n → CR 0 L → (∀ q ∈ L, q.2 < v) → (∀ u, inC L u = (decide (0 ≤ u) && (decide (u < v) && good u))) → CR 0 (refW nx good n v L) ∧ ∀ u, inC (refW nx good n v L) u = (decide (0 ≤ u) && (decide (u < 1000001) && good u)) := by
  intro n
  induction n with
  | zero =>
    intro v L v0 v1 hv hL _ hI
    obtain rfl : v = 1000001 := by omega
    exact ⟨hL, hI⟩
  | succ n ih =>
    intro v L v0 v1 hv hL hq hI
    unfold refW
    by_cases c : v ≤ 1000000
    · rw [if_pos c]
      have N := hn v v0 c
      have step : ∀ u, (decide (0 ≤ u) && (decide (u < nx v) && good u)) = ((decide (0 ≤ u) && (decide (u < v) && good u)) || (decide (v ≤ u) && (decide (u < nx v) && good v))) := by
        intro u
        by_cases e : u < v
        · rw [decide_eq_true e, decide_eq_true (show u < nx v by omega), decide_eq_false (show ¬ v ≤ u by omega)]; simp
        · rw [decide_eq_false e, decide_eq_true (show v ≤ u by omega), decide_eq_true (show 0 ≤ u by omega)]
          by_cases f : u < nx v
          · rw [decide_eq_true f, hg v u v0 (by omega) f c]; simp
          · rw [decide_eq_false f]; rfl
      cases g : good v with
      | true =>
        obtain ⟨a1, a2, a3⟩ := appC_cr (w := nx v) hL v0 hq N.1
        refine ih (nx v) _ (by omega) N.2 (by omega) a1 a2 fun u => ?_
        simp only [if_true] at *
        rw [a3 u, hI u, step u, g]; simp
      | false =>
        refine ih (nx v) L (by omega) N.2 (by omega) hL (fun q h => by have := hq q h; omega) fun u => ?_
        rw [hI u, step u, g]; simp
    · rw [if_neg c]
      obtain rfl : v = 1000001 := by omega
      exact ⟨hL, hI⟩

/-! ### The rates at which something unwanted is possible -/
def badZ (m : Mdl) (s v : Int) (z : Int × Int) (n : Nat) : Bool := (List.range n).any fun k => !selB s k && canB m (v, v) z k
def badV (m : Mdl) (zs : List (Int × Int)) (s v : Int) : Bool := zs.any fun z => badZ m s v z 5
theorem can_at {m : Mdl} (h : MdlOk m) {z : Int × Int} {v : Int} (v0 : 0 ≤ v) (v1 : v ≤ 1000000) (k : Nat) : canB m (v, v) z k = (decide (sideL m k < sideH m k) && (decide ((spoR m z k).1 ≤ v) && decide (v ≤ (spoR m z k).2))) := by
  unfold canB spoR
  simp only
  rw [firQ_abv h.s1 v0 v1, firQ_abv h.s1 v0 v1]
  congr 2
  rw [← decide_not]
  exact decide_eq_decide.2 (by omega)
theorem spoN_in {m : Mdl} (h : MdlOk m) {z : Int × Int} {s v : Int} (v0 : 0 ≤ v) (v1 : v ≤ 1000000) : ∀ k, inC (spoN m z s k) v = badZ m s v z k := by
  intro k
  induction k with
  | zero => simp [spoN, inC, badZ]
  | succ k ih =>
    have e : badZ m s v z (k + 1) = (badZ m s v z k || (!selB s k && canB m (v, v) z k)) := by
      unfold badZ
      rw [List.range_succ, List.any_append]; simp
    rw [e, ← ih, can_at h v0 v1, show spoN m z s (k + 1) = if spoB m z s k then spoN m z s k ++ [spoR m z k] else spoN m z s k from rfl]
    unfold spoB
    generalize spoN m z s k = SP at *
    cases selB s k with
    | true => simp
    | false =>
      by_cases c1 : sideL m k < sideH m k
      · rw [decide_eq_true c1]
        by_cases c2 : (spoR m z k).1 ≤ (spoR m z k).2
        · rw [decide_eq_true c2]
          simp only [Bool.not_false, Bool.and_self, if_true, Bool.true_and]
          rw [inC_app, inC_one]
        · rw [decide_eq_false c2]
          have : (decide ((spoR m z k).1 ≤ v) && decide (v ≤ (spoR m z k).2)) = false := by
            rw [← Bool.decide_and]
            exact decide_eq_false (by omega)
          rw [this]; simp
      · rw [decide_eq_false c1]; simp
theorem winN_in {m : Mdl} (h : MdlOk m) {zs : List (Int × Int)} {s v : Int} (v0 : 0 ≤ v) (v1 : v ≤ 1000000) : inC (winN m zs s zs.length) v = badV m zs s v := by
  have H : ∀ k, k ≤ zs.length → inC (winN m zs s k) v = (zs.take k).any fun z => badZ m s v z 5 := by
    intro k
    induction k with
    | zero => intro _; simp [winN, inC]
    | succ k ih =>
      intro hk
      unfold winN
      rw [inC_app, ih (by omega), spoN_in h v0 v1, List.take_add_one, List.any_append, List.getElem?_eq_getElem (by omega), List.getD_eq_getElem?_getD, List.getElem?_eq_getElem (by omega)]
      simp
  rw [H zs.length (Nat.le_refl _), List.take_length]
  rfl
theorem bad_bits : ∀ A : Fin 32, ∀ S : Fin 32, (bits BinOp.andNot IntKind.u8 (A.val : Int) (S.val : Int) != 0) = ((List.range 5).any fun k => !selB (S.val : Int) k && decide (A.val / 2 ^ k % 2 = 1)) := by decide +kernel
theorem badQ_is {m : Mdl} {s v : Int} {z : Int × Int} (s0 : 0 ≤ s) (s1 : s < 32) : (badQ m s v z != 0) = badZ m s v z 5 := by
  have a : regN m (v, v) z < 32 := setN_lt _ 5
  have b := bad_bits ⟨regN m (v, v) z, a⟩ ⟨s.toNat, by omega⟩
  simp only at b
  rw [show ((s.toNat : Nat) : Int) = s by omega] at b
  unfold badQ badZ
  rw [b]
  have e : ∀ k, k < 5 → decide (regN m (v, v) z / 2 ^ k % 2 = 1) = canB m (v, v) z k := fun k hk => by
    have := setN_bit (canB m (v, v) z) 5 k hk
    unfold regN
    rw [this]
    cases canB m (v, v) z k <;> rfl
  simp only [List.range, List.range.loop, List.any_cons, List.any_nil]
  rw [e 0 (by omega), e 1 (by omega), e 2 (by omega), e 3 (by omega), e 4 (by omega)]

/-! ### Where something can change -/
def lowA (m : Mdl) (z : Int × Int) (k : Nat) : Int := m.lo k * z.1 / m.s + 1
def higA (m : Mdl) (z : Int × Int) (k : Nat) : Int := m.hi k * z.2 / m.s + 1
def nxA (v n a : Int) : Int := if v < a then min n a else n
def nxK (m : Mdl) (z : Int × Int) (v n : Int) : Nat → Int
  | 0 => n
  | k + 1 => nxA v (nxA v (nxK m z v n k) (lowA m z k)) (higA m z k)
def nxZ (m : Mdl) (zs : List (Int × Int)) (v : Int) : Nat → Int
  | 0 => 1000001
  | i + 1 => nxK m (zs.getD i (0, 0)) v (nxZ m zs v i) 4
theorem nxA_le {v n a : Int} : nxA v n a ≤ n ∧ (v < a → nxA v n a ≤ a) ∧ (v < n → v < nxA v n a) := by
  unfold nxA
  split <;> omega
theorem nxK_le {m : Mdl} {z : Int × Int} {v n : Int} : ∀ K, nxK m z v n K ≤ n ∧ (v < n → v < nxK m z v n K) ∧ ∀ k, k < K → (v < lowA m z k → nxK m z v n K ≤ lowA m z k) ∧ (v < higA m z k → nxK m z v n K ≤ higA m z k) := by
  intro K
  induction K with
  | zero => exact ⟨Int.le_refl _, fun h => h, fun k hk => by omega⟩
  | succ K ih =>
    obtain ⟨i1, i2, i3⟩ := ih
    have a := nxA_le (v := v) (n := nxK m z v n K) (a := lowA m z K)
    have b := nxA_le (v := v) (n := nxA v (nxK m z v n K) (lowA m z K)) (a := higA m z K)
    show nxA v (nxA v (nxK m z v n K) (lowA m z K)) (higA m z K) ≤ n ∧ (v < n → v < nxA v (nxA v (nxK m z v n K) (lowA m z K)) (higA m z K)) ∧ ∀ k, k < K + 1 → (v < lowA m z k → nxA v (nxA v (nxK m z v n K) (lowA m z K)) (higA m z K) ≤ lowA m z k) ∧ (v < higA m z k → nxA v (nxA v (nxK m z v n K) (lowA m z K)) (higA m z K) ≤ higA m z k)
    refine ⟨by omega, fun h => b.2.2 (a.2.2 (i2 h)), fun k hk => ?_⟩
    by_cases c : k < K
    · have j := i3 k c
      exact ⟨fun h => by have := j.1 h; omega, fun h => by have := j.2 h; omega⟩
    · obtain rfl : k = K := by omega
      exact ⟨fun h => by have := a.2.1 h; omega, fun h => b.2.1 h⟩
theorem nxZ_le {m : Mdl} {zs : List (Int × Int)} {v : Int} (hv : v ≤ 1000000) : ∀ n, nxZ m zs v n ≤ 1000001 ∧ v < nxZ m zs v n ∧ ∀ i, i < n → ∀ k, k < 4 → (v < lowA m (zs.getD i (0, 0)) k → nxZ m zs v n ≤ lowA m (zs.getD i (0, 0)) k) ∧ (v < higA m (zs.getD i (0, 0)) k → nxZ m zs v n ≤ higA m (zs.getD i (0, 0)) k) := by
  intro n
  induction n with
  | zero => exact ⟨Int.le_refl _, by show v < 1000001; omega, fun i hi => by omega⟩
  | succ n ih =>
    obtain ⟨i1, i2, i3⟩ := ih
    obtain ⟨a1, a2, a3⟩ := nxK_le (m := m) (z := zs.getD n (0, 0)) (v := v) (n := nxZ m zs v n) 4
    refine ⟨Int.le_trans a1 i1, a2 i2, fun i hi k hk => ?_⟩
    by_cases c : i < n
    · have j := i3 i c k hk
      exact ⟨fun h => Int.le_trans a1 (j.1 h), fun h => Int.le_trans a1 (j.2 h)⟩
    · obtain rfl : i = n := by omega
      exact a3 k hk
/-- Between two changes no zone begins or ceases to be in a region. -/
theorem can_still {m : Mdl} (h : MdlOk m) {zs : List (Int × Int)} (hz : ∀ i, i < zs.length → grOk (zs.getD i (0, 0)) = true) {v u : Int} (v0 : 0 ≤ v) (v1 : v ≤ 1000000) (vu : v ≤ u) (un : u < nxZ m zs v zs.length) {i : Nat} (hi : i < zs.length) {k : Nat} (hk : k < 5) : canB m (u, u) (zs.getD i (0, 0)) k = canB m (v, v) (zs.getD i (0, 0)) k := by
  obtain ⟨n1, n2, n3⟩ := nxZ_le (m := m) (zs := zs) v1 zs.length
  have g := hz i hi
  simp only [grOk, rgOk, Bool.and_eq_true, decide_eq_true_eq] at g
  have N := n3 i hi
  rw [can_at h (by omega) (by omega), can_at h v0 v1]
  generalize zs.getD i (0, 0) = z at *
  have s1 := h.s1
  have s2 := h.s2
  have low : decide ((spoR m z k).1 ≤ u) = decide ((spoR m z k).1 ≤ v) := by
    refine decide_eq_decide.2 ⟨fun c => ?_, fun c => by omega⟩
    unfold spoR firQ sideL at *
    simp only at *
    by_cases k0 : k = 0
    · subst k0
      simp only [if_true] at *
      have : -1 * z.1 / m.s < 0 := Int.ediv_neg_of_neg_of_pos (by omega) (by omega)
      omega
    · simp only [if_neg k0] at *
      have := (N (k - 1) (by omega)).1
      unfold lowA at this
      omega
  have high : decide (u ≤ (spoR m z k).2) = decide (v ≤ (spoR m z k).2) := by
    refine decide_eq_decide.2 ⟨fun c => by omega, fun c => ?_⟩
    unfold spoR firQ sideH at *
    simp only at *
    by_cases k4 : k < 4
    · simp only [if_pos k4] at *
      have := (N k k4).2
      unfold higA at this
      omega
    · simp only [if_neg k4] at *
      have : 1000000 ≤ 1000000000000 * z.2 / m.s := by
        rw [Int.le_ediv_iff_mul_le (by omega)]
        have := Int.mul_le_mul_of_nonneg_left s2 (show (0 : Int) ≤ 1000000 by omega)
        omega
      omega
  rw [low, high]
theorem bad_still {m : Mdl} (h : MdlOk m) {zs : List (Int × Int)} (hz : ∀ i, i < zs.length → grOk (zs.getD i (0, 0)) = true) {s v u : Int} (v0 : 0 ≤ v) (v1 : v ≤ 1000000) (vu : v ≤ u) (un : u < nxZ m zs v zs.length) : badV m zs s u = badV m zs s v := by
  have e : ∀ z ∈ zs, badZ m s u z 5 = badZ m s v z 5 := fun z hzm => by
    obtain ⟨i, hi, rfl⟩ := List.getElem_of_mem hzm
    unfold badZ
    simp only [List.range, List.range.loop, List.any_cons, List.any_nil]
    have c := fun k hk => can_still h hz v0 v1 vu un hi (k := k) hk
    rw [List.getD_eq_getElem?_getD, List.getElem?_eq_getElem hi, Option.getD_some] at c
    rw [c 0 (by omega), c 1 (by omega), c 2 (by omega), c 3 (by omega), c 4 (by omega)]
  unfold badV
  rw [Bool.eq_iff_iff, List.any_eq_true, List.any_eq_true]
  exact ⟨fun ⟨z, a, b⟩ => ⟨z, a, by rw [← e z a]; exact b⟩, fun ⟨z, a, b⟩ => ⟨z, a, by rw [e z a]; exact b⟩⟩
/-- The window: the runs in none of the spoilt ranges are those that are put together from change to change. -/
theorem window_is {m : Mdl} (h : MdlOk m) {zs : List (Int × Int)} (hz : ∀ i, i < zs.length → grOk (zs.getD i (0, 0)) = true) {s : Int} {ds : List (Int × Int)} (hp : ds.Perm (winN m zs s zs.length)) (hs : ds.Pairwise (fun a b => a.1 ≤ b.1)) {n : Nat} (hn : 1000001 ≤ n) :
    gapR 0 ds = refW (fun v => nxZ m zs v zs.length) (fun v => !badV m zs s v) n 0 [] := by
  have far : ∀ r ∈ ds, 0 ≤ r.1 ∧ r.1 ≤ r.2 ∧ r.2 ≤ 1000000 := fun r hr => winN_far m zs s zs.length r (hp.subset hr)
  obtain ⟨R1, R2⟩ := refW_is (nx := fun v => nxZ m zs v zs.length) (good := fun v => !badV m zs s v) (fun v v0 v1 => ⟨(nxZ_le v1 zs.length).2.1, (nxZ_le v1 zs.length).1⟩) (fun v u v0 vu un v1 => by show (!badV m zs s u) = (!badV m zs s v); rw [bad_still h hz v0 v1 vu un]) n 0 [] (by omega) (by omega) (by omega) trivial (fun q hq => by cases hq) (fun u => by
    by_cases c : 0 ≤ u
    · rw [decide_eq_false (show ¬ u < 0 by omega)]; simp [inC]
    · rw [decide_eq_false c]; rfl)
  refine cr_unique _ _ 0 0 (gapR_cr ds 0 fun r hr => (far r hr).2.1) R1 fun v => ?_
  rw [gapR_in ds 0 v hs (fun r hr => (far r hr).2), R2 v]
  by_cases c0 : 0 ≤ v
  · by_cases c1 : v ≤ 1000000
    · rw [decide_eq_true c1, decide_eq_true (show v < 1000001 by omega)]
      have e : inC ds v = inC (winN m zs s zs.length) v := by
        unfold inC
        rw [Bool.eq_iff_iff, List.any_eq_true, List.any_eq_true]
        exact ⟨fun ⟨z, a, b⟩ => ⟨z, hp.subset a, b⟩, fun ⟨z, a, b⟩ => ⟨z, hp.symm.subset a, b⟩⟩
      rw [e, winN_in h c0 c1]
    · rw [decide_eq_false c1, decide_eq_false (show ¬ v < 1000001 by omega)]; simp
  · rw [decide_eq_false c0]; rfl
end Go.Proofs.YtimfbjnpalgmcaaGreat
