/-
  DefectSlices: the numbers.
-/
import Derived.Test.YtimfbjnpalgmcaaGreatVaM
import Derived.Test.YtimfbjnpalgmcaaGreatVaI
import Derived.Test.YtimfbjnpalgmcaaGreatDtM
import Derived.Test.YtimfbjnpalgmcaaGreatDfO
namespace Go.Proofs.YtimfbjnpalgmcaaGreat
set_option linter.unusedSimpArgs false
set_option linter.unusedVariables false

theorem can_mono {m : Mdl} (h : MdlOk m) {x y p q x' y' p' q' : Int} (x0 : 0 ≤ x) (xx : x ≤ x') (x'0 : x' ≤ y') (yy : y' ≤ y) (p0 : 1 ≤ p) (pp : p ≤ p') (qq : q' ≤ q) (k : Nat) (hc : canB m (x', y') (p', q') k = true) : canB m (x, y) (p, q) k = true := by
  have s0 : 0 ≤ m.s := by have := h.s1; omega
  have xs : x * m.s ≤ x' * m.s := Int.mul_le_mul_of_nonneg_right xx s0
  have ys : y' * m.s ≤ y * m.s := Int.mul_le_mul_of_nonneg_right yy s0
  have y0 : 0 ≤ y' * m.s := Int.mul_nonneg (by omega) s0
  unfold canB abv at *
  simp only [Bool.and_eq_true, Bool.not_eq_true', decide_eq_true_eq, decide_eq_false_iff_not, Int.not_lt] at *
  obtain ⟨h1, h2, h3⟩ := hc
  refine ⟨h1, ?_, ?_⟩
  · rcases Int.lt_or_le (sideL m k) 0 with l | l
    · have := Int.mul_lt_mul_of_pos_right l (show 0 < p by omega)
      omega
    · have := Int.mul_le_mul_of_nonneg_left pp l
      omega
  · have := Int.mul_le_mul_of_nonneg_left qq (sideH_far h k).1
    omega
theorem reg_bit {m : Mdl} {v g : Int × Int} {k : Nat} (hk : k < 5) : regN m v g / 2 ^ k % 2 = if canB m v g k then 1 else 0 := setN_bit (canB m v g) 5 k hk
/-- A part of the ranges has no other regions. -/
theorem reg_sub {m : Mdl} {v g v' g' : Int × Int} (h : ∀ k, k < 5 → canB m v' g' k = true → canB m v g k = true) : bits BinOp.andNot IntKind.u8 (regN m v' g' : Int) (regN m v g : Int) = 0 := by
  have a : regN m v' g' < 2 ^ 5 := setN_lt _ 5
  have b : regN m v g < 2 ^ 5 := setN_lt _ 5
  refine sub_bits ⟨regN m v' g', a⟩ ⟨regN m v g, b⟩ fun j hj => ?_
  have e : regN m v' g' / 2 ^ j.val % 2 = 1 := hj
  show regN m v g / 2 ^ j.val % 2 = 1
  rw [reg_bit j.isLt] at e ⊢
  cases c : canB m v' g' j.val with
  | false => rw [c] at e; simp at e
  | true => rw [h j.val j.isLt c]; rfl
theorem clamp_mono {lo hi a b : Int} (h : a ≤ b) : clampQ lo hi a ≤ clampQ lo hi b := by unfold clampQ; omega
theorem rate_sub {v u : Int × Int} {off : Int} (h1 : v.1 ≤ u.1) (h2 : u.2 ≤ v.2) : (rateQ v off).1 ≤ (rateQ u off).1 ∧ (rateQ u off).2 ≤ (rateQ v off).2 := by
  unfold rateQ
  exact ⟨clamp_mono (by omega), clamp_mono (by omega)⟩
theorem div_mono {a b : Int} (h : a ≤ b) : a / 10000 ≤ b / 10000 := by omega
theorem grad_sub {f x z : Int × Int} (h1 : f.1 ≤ x.1) (h2 : x.2 ≤ f.2) (z1 : 0 ≤ z.1) (z2 : 0 ≤ z.2) : (gradQ f z).1 ≤ (gradQ x z).1 ∧ (gradQ x z).2 ≤ (gradQ f z).2 := by
  have a := Int.mul_le_mul_of_nonneg_left h1 z1
  have b := Int.mul_le_mul_of_nonneg_left h2 z2
  unfold gradQ
  exact ⟨clamp_mono (by omega), clamp_mono (by omega)⟩
/-- A slice's regions in a longer one's. -/
theorem slice_sub {m : Mdl} (h : MdlOk m) {v u f x z : Int × Int} {off : Int} (o0 : 0 ≤ off) (v1 : v.1 ≤ u.1) (u0 : u.1 ≤ u.2) (v2 : u.2 ≤ v.2) (f0 : 1 ≤ f.1) (f1 : f.1 ≤ x.1) (x0 : x.1 ≤ x.2) (f2 : x.2 ≤ f.2) (hz : grOk z = true) :
    bits BinOp.andNot IntKind.u8 (regN m (rateQ u off) (gradQ x z) : Int) (regN m (rateQ v off) (gradQ f z) : Int) = 0 := by
  have hz' := hz
  simp [grOk, rgOk] at hz'
  have rs := rate_sub (off := off) v1 v2
  have gs := grad_sub (z := z) f1 f2 (by omega) (by omega)
  have ru := rate_ok (v := u) u0 o0
  have rv := rate_ok (v := v) (by omega) o0
  have gv := grad_ok (f := f) f0 (by omega) hz
  simp only [grOk, rgOk, Bool.and_eq_true, decide_eq_true_eq] at ru rv gv
  refine reg_sub fun k _ hc => ?_
  have c := can_mono h (x := (rateQ v off).1) (y := (rateQ v off).2) (p := (gradQ f z).1) (q := (gradQ f z).2) (x' := (rateQ u off).1) (y' := (rateQ u off).2) (p' := (gradQ x z).1) (q' := (gradQ x z).2) (by omega) rs.1 (by omega) rs.2 (by omega) gs.1 gs.2 k hc
  exact c
/-- To the nearest: between rounded down and rounded up. -/
theorem near_in {N : Int} (h0 : 0 ≤ N) (h1 : N ≤ 100000000000) : N / 10000 ≤ (divQ N 10000 3).1 ∧ (divQ N 10000 3).1 ≤ (N + 9999) / 10000 ∧ (divQ N 10000 3).2.2 = true := by
  have e : floorQ N 10000 = (N / 10000, N % 10000, true) := by
    unfold floorQ
    rw [if_pos h0, if_pos (by omega)]
  unfold divQ
  rw [e]
  simp only [Bool.true_eq_false, if_false]
  split
  · rename_i u
    have r : 0 < N % 10000 := by
      simp only [upQ, Bool.or_eq_true, Bool.and_eq_true, decide_eq_true_eq] at u
      rcases u with u | u
      · omega
      · rcases u.2 with a | a <;> omega
    refine ⟨by simp only; omega, by simp only; omega, ?_⟩
    simp [allIn]
    omega
  · refine ⟨by simp only; omega, by simp only; omega, ?_⟩
    simp [allIn]
    omega
theorem mul_near {a b : Int} (a0 : 0 ≤ a) (a1 : a ≤ 1000000) (b0 : 0 ≤ b) (b1 : b ≤ 20000) : a * b / 10000 ≤ (mulDivQ a b 10000 3).1 ∧ (mulDivQ a b 10000 3).1 ≤ (a * b + 9999) / 10000 ∧ (mulDivQ a b 10000 3).2.2 = 0 := by
  have p0 : 0 ≤ a * b := Int.mul_nonneg a0 b0
  have p1 : a * b ≤ 1000000 * 20000 := mul_le2 a0 a1 b0 b1
  have n := near_in p0 (by omega)
  unfold mulDivQ
  rw [if_neg (by decide), if_neg (by simp [allIn, isDiv]; omega), n.2.2, if_neg (by simp)]
  exact ⟨n.1, n.2.1, rfl⟩
/-- Whatever the rate, the gradient and the borders truly are, the region is among the printed ones. -/
theorem slice_true {m : Mdl} (h : MdlOk m) (t : Tru) {v u f z : Int × Int} {off x1 b c : Int} (o0 : 0 ≤ off) (v1 : v.1 ≤ u.1) (u0 : u.1 ≤ u.2) (u1 : 0 ≤ u.2) (v2 : u.2 ≤ v.2) (f0 : 1 ≤ f.1) (f1 : f.1 ≤ x1) (f2 : x1 ≤ f.2) (f3 : f.2 ≤ 20000) (hz : grOk z = true) :
    regN m (rateQ v off) (gradQ f z) / 2 ^ (inT m t (max 0 (min 1000000 (plN (max 0 (u.1 - off)) (u.2 + off) b))) (max 1 (min 1000000 (mulDivQ (plN z.1 z.2 c) x1 10000 3).1)) 4) % 2 = 1 := by
  have hz' := hz
  simp [grOk, rgOk] at hz'
  have P := plN_in (x := max 0 (u.1 - off)) (y := u.2 + off) b (by omega)
  have G := plN_in (x := z.1) (y := z.2) c (by omega)
  generalize plN (max 0 (u.1 - off)) (u.2 + off) b = p at *
  generalize plN z.1 z.2 c = g at *
  have M := mul_near (a := g) (b := x1) (by omega) (by omega) (by omega) (by omega)
  generalize (mulDivQ g x1 10000 3).1 = n at *
  have a1 := mul_le2 (show 0 ≤ z.1 by omega) G.1 (show 0 ≤ f.1 by omega) f1
  have a2 := mul_le2 (show 0 ≤ g by omega) G.2 (show 0 ≤ x1 by omega) f2
  have k4 := inT_le m t (max 0 (min 1000000 p)) (max 1 (min 1000000 n)) 4
  rw [reg_bit (by omega)]
  have c := can_true h t (x := (rateQ v off).1) (y := (rateQ v off).2) (p := (gradQ f z).1) (q := (gradQ f z).2) (v := max 0 (min 1000000 p)) (g := max 1 (min 1000000 n))
    (by unfold rateQ clampQ; simp only; omega) (by unfold rateQ clampQ; simp only; omega) (by unfold rateQ clampQ; simp only; omega) (by unfold rateQ clampQ; simp only; omega) (by unfold gradQ clampQ; simp only; omega) (by unfold gradQ clampQ; simp only; omega) (by unfold gradQ clampQ; simp only; omega)
  rw [show canB m (rateQ v off) (gradQ f z) (inT m t (max 0 (min 1000000 p)) (max 1 (min 1000000 n)) 4) = true from c]
  rfl

/-! ### The stretches -/
/-- Stretches that ascend with a gap between, from x to y. -/
def GapRuns (x y : Int) (L : List (Int × Int)) : Prop := (∀ i, i < L.length → x ≤ (L.getD i (0, 0)).1 ∧ (L.getD i (0, 0)).1 < (L.getD i (0, 0)).2 ∧ (L.getD i (0, 0)).2 ≤ y) ∧ ∀ i, i + 1 < L.length → (L.getD i (0, 0)).2 < (L.getD (i + 1) (0, 0)).1
def inRuns (L : List (Int × Int)) (k : Int) : Bool := L.any fun r => decide (r.1 ≤ k) && decide (k < r.2)
theorem getD_app1 {L M : List (Int × Int)} {i : Nat} (h : i < L.length) : (L ++ M).getD i (0, 0) = L.getD i (0, 0) := by
  rw [List.getD_eq_getElem?_getD, List.getD_eq_getElem?_getD, List.getElem?_append_left h]
theorem getD_app2 {L : List (Int × Int)} {r : Int × Int} : (L ++ [r]).getD L.length (0, 0) = r := by
  rw [List.getD_eq_getElem?_getD, List.getElem?_append_right (Nat.le_refl _)]; simp
theorem runs_snoc {x y y' : Int} {L : List (Int × Int)} {r : Int × Int} (h : GapRuns x y L) (hy : y ≤ y') (h0 : x ≤ r.1) (h1 : r.1 < r.2) (h2 : r.2 ≤ y') (hl : ∀ z, L.getLast? = some z → z.2 < r.1) : GapRuns x y' (L ++ [r]) := by
  refine ⟨fun i hi => ?_, fun i hi => ?_⟩
  · simp only [List.length_append, List.length_singleton] at hi
    by_cases c : i < L.length
    · rw [getD_app1 c]; have := h.1 i c; omega
    · obtain rfl : i = L.length := by omega
      rw [getD_app2]; omega
  · simp only [List.length_append, List.length_singleton] at hi
    by_cases c : i + 1 < L.length
    · rw [getD_app1 c, getD_app1 (by omega)]; exact h.2 i c
    · have e : i + 1 = L.length := by omega
      rw [getD_app1 (by omega), e, getD_app2]
      refine hl _ ?_
      rw [List.getLast?_eq_getElem?, List.getD_eq_getElem?_getD, show L.length - 1 = i by omega, List.getElem?_eq_getElem (by omega)]
      rfl
theorem runs_init {x y : Int} {L : List (Int × Int)} {r : Int × Int} (h : GapRuns x y (L ++ [r])) : GapRuns x y L ∧ (∀ z, L.getLast? = some z → z.2 < r.1) ∧ x ≤ r.1 ∧ r.1 < r.2 ∧ r.2 ≤ y := by
  refine ⟨⟨fun i hi => ?_, fun i hi => ?_⟩, ?_, ?_⟩
  · have := h.1 i (by simp; omega); rwa [getD_app1 hi] at this
  · have := h.2 i (by simp; omega); rwa [getD_app1 (by omega), getD_app1 hi] at this
  · intro z hz
    rcases L with _ | ⟨a, L⟩
    · simp at hz
    · have := h.2 L.length (by simp)
      rw [getD_app1 (by simp)] at this
      rw [show L.length + 1 = (a :: L).length from rfl, getD_app2] at this
      rw [List.getLast?_eq_getElem?] at hz
      rw [List.getD_eq_getElem?_getD, show L.length = (a :: L).length - 1 by simp, hz] at this
      exact this
  · have := h.1 L.length (by simp)
    rwa [getD_app2] at this
theorem usaN_runs (fine : Int → Bool) (x : Int) : ∀ n : Nat, GapRuns x (x + n) (usaN fine x n) ∧ ∀ k, inRuns (usaN fine x n) k = (decide (x ≤ k) && (decide (k < x + n) && fine k)) := by
  intro n
  induction n with
  | zero =>
    refine ⟨⟨fun i hi => by simp [usaN] at hi, fun i hi => by simp [usaN] at hi⟩, fun k => ?_⟩
    have : (decide (x ≤ k) && (decide (k < x + (0 : Nat)) && fine k)) = false := by
      by_cases c : x ≤ k
      · rw [decide_eq_false (show ¬ k < x + (0 : Nat) by omega)]; simp
      · rw [decide_eq_false c]; rfl
    rw [this]; rfl
  | succ n ih =>
    obtain ⟨R, I⟩ := ih
    have step : ∀ k, (decide (x ≤ k) && (decide (k < x + ((n + 1 : Nat) : Int)) && fine k)) = ((decide (x ≤ k) && (decide (k < x + n) && fine k)) || (decide (k = x + n) && fine (x + n))) := by
      intro k
      by_cases c : k = x + n
      · subst c
        rw [decide_eq_true (show x ≤ x + (n : Int) by omega), decide_eq_true (show x + (n : Int) < x + ((n + 1 : Nat) : Int) by omega), decide_eq_false (show ¬ x + (n : Int) < x + n by omega), decide_eq_true rfl]; simp
      · rw [decide_eq_false c, show decide (k < x + ((n + 1 : Nat) : Int)) = decide (k < x + n) from decide_eq_decide.2 (by omega)]; simp
    show GapRuns x (x + ((n + 1 : Nat) : Int)) (if fine (x + n) then appR (usaN fine x n) (x + n, x + n + 1) else usaN fine x n) ∧ ∀ k, inRuns (if fine (x + n) then appR (usaN fine x n) (x + n, x + n + 1) else usaN fine x n) k = _
    generalize usaN fine x n = L at *
    cases hf : fine (x + n) with
    | false =>
      refine ⟨⟨fun i hi => by have := R.1 i hi; simp only [Bool.false_eq_true, if_false]; omega, fun i hi => R.2 i hi⟩, fun k => ?_⟩
      rw [step k, hf, if_neg (by simp), I k]; simp
    | true =>
      simp only [if_true]
      rcases List.eq_nil_or_concat L with hL | ⟨ds, z, hL⟩
      · subst hL
        rw [appR_nil]
        refine ⟨runs_snoc (L := []) R (by omega) (by simp only; omega) (by simp only; omega) (by simp only; omega) (fun z hz => by simp at hz), fun k => ?_⟩
        rw [step k, ← I k, hf]
        simp only [inRuns, List.any_nil, List.any_cons, Bool.or_false, Bool.false_or, Bool.and_true]
        rw [← Bool.decide_and]
        exact decide_eq_decide.2 (by omega)
      · have hL' : L = ds ++ [z] := by simpa using hL
        subst hL'
        obtain ⟨a, b, c0, c1, c2⟩ := runs_init R
        rw [appR_snoc]
        by_cases e : x + (n : Int) = z.2
        · rw [if_pos e]
          refine ⟨runs_snoc a (by omega) c0 (by simp only; omega) (by simp only; omega) b, fun k => ?_⟩
          rw [step k, ← I k, hf]
          simp only [inRuns, List.any_append, List.any_cons, List.any_nil, Bool.or_false, Bool.and_true, Bool.or_assoc]
          congr 1
          rw [← Bool.decide_and, ← Bool.decide_and, ← Bool.decide_or]
          exact decide_eq_decide.2 (by omega)
        · rw [if_neg e]
          refine ⟨runs_snoc R (by omega) (by simp only; omega) (by simp only; omega) (by simp only; omega) (fun z' hz => by simp at hz; subst hz; simp only; omega), fun k => ?_⟩
          rw [step k, ← I k, hf]
          simp only [inRuns, List.any_append, List.any_cons, List.any_nil, Bool.or_false, Bool.and_true, Bool.or_assoc]
          congr 2
          rw [← Bool.decide_and]
          exact decide_eq_decide.2 (by omega)
end Go.Proofs.YtimfbjnpalgmcaaGreat
