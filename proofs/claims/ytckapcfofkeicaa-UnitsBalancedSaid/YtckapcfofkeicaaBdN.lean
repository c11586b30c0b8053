/-
  UnitsBalanced: the numbers. UnitsBalanced: units.Balance's answer lies in a block of its own. UnitsBalanced: the parts that the statement tries, and what Balance answers of them. UnitsBalanced: what the statement finds of the narrowed parts.
-/
import Derived.Test.YtckapcfofkeicaaRefB
import Derived.Test.YtckapcfofkeicaaBalance
import Derived.Test.YtckapcfofkeicaaPlc
import Derived.Test.YtckapcfofkeicaaAll
namespace Go.Proofs.Ytckapcfofkeicaa
set_option linter.unusedSimpArgs false
set_option linter.unusedVariables false

/-- A sum over the first k. -/
def sm (f : Nat → Int) : Nat → Int
  | 0 => 0
  | k + 1 => sm f k + f k
theorem sm_mono {f g : Nat → Int} : ∀ k, (∀ j, j < k → f j ≤ g j) → sm f k ≤ sm g k := by
  intro k
  induction k with
  | zero => intro _; exact Int.le_refl _
  | succ k ih => intro h; have := ih fun j hj => h j (by omega); have := h k (by omega); simp only [sm]; omega
theorem sm_eq {f g : Nat → Int} : ∀ k, (∀ j, j < k → f j = g j) → sm f k = sm g k := by
  intro k
  induction k with
  | zero => intro _; rfl
  | succ k ih => intro h; have := ih fun j hj => h j (by omega); have := h k (by omega); simp only [sm]; omega
theorem sm_sub {f g : Nat → Int} : ∀ k, sm (fun j => f j - g j) k = sm f k - sm g k := by
  intro k
  induction k with
  | zero => rfl
  | succ k ih => simp only [sm]; omega
theorem sm_add {f g : Nat → Int} : ∀ k, sm (fun j => f j + g j) k = sm f k + sm g k := by
  intro k
  induction k with
  | zero => rfl
  | succ k ih => simp only [sm]; omega
/-- All but the one. -/
def but (i : Nat) (f : Nat → Int) (j : Nat) : Int := if j = i then 0 else f j
theorem sm_but {f : Nat → Int} {i : Nat} : ∀ k, (k ≤ i → sm (but i f) k = sm f k) ∧ (i < k → sm (but i f) k = sm f k - f i) := by
  intro k
  induction k with
  | zero => exact ⟨fun _ => rfl, fun h => by omega⟩
  | succ k ih =>
    refine ⟨fun h => ?_, fun h => ?_⟩
    · have := ih.1 (by omega)
      simp only [sm, but, this]
      rw [if_neg (by omega)]
    · rcases Nat.lt_or_ge i k with h2 | h2
      · have := ih.2 h2
        simp only [sm, but]
        rw [if_neg (by omega)]
        omega
      · obtain rfl : i = k := by omega
        have := ih.1 (Nat.le_refl _)
        simp only [sm, but, if_true]
        omega
theorem sm_but_le {f g : Nat → Int} {k i : Nat} (hi : i < k) (h : ∀ j, j < k → f j ≤ g j) : sm f k - f i ≤ sm g k - g i := by
  rw [← (sm_but (f := f) k).2 hi, ← (sm_but (f := g) k).2 hi]
  refine sm_mono k fun j hj => ?_
  unfold but
  split
  · omega
  · exact h j hj
/-- What is cut off at d adds up to at least d, or to all. -/
theorem sm_min {w : Nat → Int} {d : Int} (d0 : 0 ≤ d) : ∀ k, (∀ j, j < k → 0 ≤ w j) → min (sm w k) d ≤ sm (fun j => min (w j) d) k ∧ 0 ≤ sm (fun j => min (w j) d) k := by
  intro k
  induction k with
  | zero => intro _; simp only [sm]; omega
  | succ k ih =>
    intro h
    obtain ⟨a, b⟩ := ih fun j hj => h j (by omega)
    have := h k (by omega)
    simp only [sm]
    omega
theorem sm_min_but {w : Nat → Int} {d : Int} (d0 : 0 ≤ d) {k i : Nat} (hi : i < k) (h : ∀ j, j < k → 0 ≤ w j) : min (sm w k - w i) d ≤ sm (fun j => min (w j) d) k - min (w i) d := by
  have a := (sm_min (w := but i w) d0 k (fun j hj => by have := h j hj; unfold but; split <;> omega)).1
  rw [(sm_but k).2 hi] at a
  rw [← (sm_but (f := fun j => min (w j) d) k).2 hi]
  refine Int.le_trans a (Int.le_of_eq (sm_eq k fun j _ => ?_))
  unfold but
  split
  · omega
  · rfl

/-- Parts a to b, what is narrowed to sL, sH. -/
structure Bal (a b : Nat → Int) (n : Nat) (sL sH : Int) : Prop where
  ab : ∀ j, j < n → a j ≤ b j
  l0 : sm a n ≤ sL
  l1 : sL ≤ sH
  h1 : sH ≤ sm b n
def nL (a b : Nat → Int) (n : Nat) (sL : Int) (i : Nat) : Int := max (a i) (sL - (sm b n - b i))
def nH (a b : Nat → Int) (n : Nat) (sH : Int) (i : Nat) : Int := min (b i) (sH - (sm a n - a i))
theorem Bal.width {a b : Nat → Int} {n : Nat} {sL sH : Int} (B : Bal a b n sL sH) {i : Nat} (hi : i < n) : b i - a i ≤ sm b n - sm a n := by
  have := sm_but_le (f := a) (g := b) hi B.ab
  omega
theorem Bal.low {a b : Nat → Int} {n : Nat} {sL sH : Int} (B : Bal a b n sL sH) : sm (nL a b n sL) n ≤ sL := by
  have h0 := B.l0; have h1 := B.l1; have h2 := B.h1
  have m := (sm_min (w := fun j => b j - a j) (d := sm b n - sL) (by omega) n (fun j hj => by have := B.ab j hj; omega)).1
  rw [sm_sub] at m
  have e : sm (nL a b n sL) n = sm b n - sm (fun j => min (b j - a j) (sm b n - sL)) n := by
    rw [← sm_sub]
    refine sm_eq n fun j hj => ?_
    unfold nL
    omega
  omega
theorem Bal.high {a b : Nat → Int} {n : Nat} {sL sH : Int} (B : Bal a b n sL sH) : sH ≤ sm (nH a b n sH) n := by
  have h0 := B.l0; have h1 := B.l1; have h2 := B.h1
  have m := (sm_min (w := fun j => b j - a j) (d := sH - sm a n) (by omega) n (fun j hj => by have := B.ab j hj; omega)).1
  rw [sm_sub] at m
  have e : sm (nH a b n sH) n = sm a n + sm (fun j => min (b j - a j) (sH - sm a n)) n := by
    rw [← sm_add]
    refine sm_eq n fun j hj => ?_
    unfold nH
    omega
  omega
theorem Bal.low_one {a b : Nat → Int} {n : Nat} {sL sH : Int} (B : Bal a b n sL sH) {i : Nat} (hi : i < n) : sL - (sm (nH a b n sH) n - nH a b n sH i) ≤ nL a b n sL i := by
  have h0 := B.l0; have h1 := B.l1; have h2 := B.h1
  have m := sm_min_but (w := fun j => b j - a j) (d := sH - sm a n) (by omega) hi (fun j hj => by have := B.ab j hj; omega)
  rw [sm_sub] at m
  have e : sm (nH a b n sH) n = sm a n + sm (fun j => min (b j - a j) (sH - sm a n)) n := by
    rw [← sm_add]
    refine sm_eq n fun j hj => ?_
    unfold nH
    omega
  have e2 : nH a b n sH i = a i + min (b i - a i) (sH - sm a n) := by unfold nH; omega
  rw [e, e2]
  unfold nL
  (try simp only at m)
  omega
theorem Bal.high_one {a b : Nat → Int} {n : Nat} {sL sH : Int} (B : Bal a b n sL sH) {i : Nat} (hi : i < n) : nH a b n sH i ≤ sH - (sm (nL a b n sL) n - nL a b n sL i) := by
  have h0 := B.l0; have h1 := B.l1; have h2 := B.h1
  have m := sm_min_but (w := fun j => b j - a j) (d := sm b n - sL) (by omega) hi (fun j hj => by have := B.ab j hj; omega)
  rw [sm_sub] at m
  have e : sm (nL a b n sL) n = sm b n - sm (fun j => min (b j - a j) (sm b n - sL)) n := by
    rw [← sm_sub]
    refine sm_eq n fun j hj => ?_
    unfold nL
    omega
  have e2 : nL a b n sL i = b i - min (b i - a i) (sm b n - sL) := by unfold nL; omega
  rw [e, e2]
  unfold nH
  (try simp only at m)
  omega
theorem Bal.ordered {a b : Nat → Int} {n : Nat} {sL sH : Int} (B : Bal a b n sL sH) {i : Nat} (hi : i < n) : a i ≤ nL a b n sL i ∧ nL a b n sL i ≤ nH a b n sH i ∧ nH a b n sH i ≤ b i := by
  have h0 := B.l0; have h1 := B.l1; have h2 := B.h1
  have w := B.width hi
  have ab := B.ab i hi
  unfold nL nH
  omega
/-- What is true lies in what is left. -/
theorem Bal.truth {a b T : Nat → Int} {n : Nat} {sL sH : Int} (B : Bal a b n sL sH) (hT : ∀ j, j < n → a j ≤ T j ∧ T j ≤ b j) (t0 : sL ≤ sm T n) (t1 : sm T n ≤ sH) {i : Nat} (hi : i < n) : nL a b n sL i ≤ T i ∧ T i ≤ nH a b n sH i := by
  have x := sm_but_le (f := T) (g := b) hi (fun j hj => (hT j hj).2)
  have y := sm_but_le (f := a) (g := T) hi (fun j hj => (hT j hj).1)
  have := hT i hi
  unfold nL nH
  omega
/-- The tests of one part's ends, where sL, sH are those of the whole from wl to wh. -/
theorem Bal.tests {a b : Nat → Int} {n : Nat} {sL sH wl wh A : Int} (B : Bal a b n sL sH) (eL : sL = max (sm a n) wl) (eH : sH = min (sm b n) wh) (A0 : sm a n ≤ A) (A1 : A ≤ sm b n) (A2 : wl ≤ A) (A3 : A ≤ wh) {i : Nat} (hi : i < n) :
    (¬ nL a b n sL i + (sm b n - b i) < wl ∧ ¬ wh < nL a b n sL i + (sm a n - a i)) ∧ (¬ wh < nH a b n sH i + (sm a n - a i) ∧ ¬ nH a b n sH i + (sm b n - b i) < wl) ∧
    ¬ (a i < nL a b n sL i ∧ wl ≤ nL a b n sL i - 1 + (sm b n - b i)) ∧ ¬ (nH a b n sH i < b i ∧ nH a b n sH i + 1 + (sm a n - a i) ≤ wh) := by
  have w := B.width hi
  have ab := B.ab i hi
  unfold nL nH
  subst eL eH
  omega

/-! ### On lists -/
def aF (rs : List (Int × Int)) (i : Nat) : Int := (rs.getD i (0, 0)).1
def bF (rs : List (Int × Int)) (i : Nat) : Int := (rs.getD i (0, 0)).2
theorem sumL_is {rs : List (Int × Int)} : ∀ k, k ≤ rs.length → sumL rs k = sm (aF rs) k := by
  intro k
  induction k with
  | zero => intro _; simp [sumL, isum, sm]
  | succ k ih => intro h; rw [← sumL_step (by omega), ih (by omega)]; rfl
theorem sumH_is {rs : List (Int × Int)} : ∀ k, k ≤ rs.length → sumH rs k = sm (bF rs) k := by
  intro k
  induction k with
  | zero => intro _; simp [sumH, isum, sm]
  | succ k ih => intro h; rw [← sumH_step (by omega), ih (by omega)]; rfl
end Go.Proofs.Ytckapcfofkeicaa

namespace Go.Proofs.Ytckapcfofkeicaa
set_option linter.unusedSimpArgs false
set_option linter.unusedVariables false
open Go.RowKit

/-- units.Balance: what it answers lies in a block of its own. -/
theorem balance_fresh (rs : List (Int × Int)) (a : Option Addr) (cap : Nat) (wl wh : Int) (w : World) (hl : rs.length ≤ 140737488351232) (h : IsPairs w a rs) :
    Calls Try.prog 46 #[.slice a rs.length cap, .agg #[.int .i64 wl, .int .i64 wh]] w fun e w' => ∃ b c, e = .returned (.tuple #[.slice b (balN rs wl wh).length c, .agg #[.int .i64 (balS rs wl wh).1, .int .i64 (balS rs wl wh).2], .int .i64 (balE rs wl wh)]) ∧ ((IsPairs w' b (balN rs wl wh) ∧ (balN rs wl wh = [] ∨ ∃ g, b = some ⟨g, 0, none⟩ ∧ w.heap.size ≤ g)) ∧ (b = none → c = 0 ∧ balN rs wl wh = [])) ∧ Below w.heap.size w w' := by
  have fall : ∀ E : Int, (E == 0) = false → balE rs wl wh = E → (Calls Try.prog 46 #[.slice a rs.length cap, .agg #[.int .i64 wl, .int .i64 wh]] w fun e w' => e = .returned (.tuple #[.slice none 0 0, .agg #[.int .i64 0, .int .i64 0], .int .i64 E]) ∧ Below w.heap.size w w') →
      Calls Try.prog 46 #[.slice a rs.length cap, .agg #[.int .i64 wl, .int .i64 wh]] w fun e w' => ∃ b c, e = .returned (.tuple #[.slice b (balN rs wl wh).length c, .agg #[.int .i64 (balS rs wl wh).1, .int .i64 (balS rs wl wh).2], .int .i64 (balE rs wl wh)]) ∧ ((IsPairs w' b (balN rs wl wh) ∧ (balN rs wl wh = [] ∨ ∃ g, b = some ⟨g, 0, none⟩ ∧ w.heap.size ≤ g)) ∧ (b = none → c = 0 ∧ balN rs wl wh = [])) ∧ Below w.heap.size w w' := by
    intro E hE he hC
    refine hC.mono ?_
    rintro e w' ⟨rfl, hb⟩
    have hne : ¬ balE rs wl wh = 0 := by rw [he]; simpa using hE
    have e1 : balN rs wl wh = [] := by unfold balN; rw [if_neg hne]
    have e2 : balS rs wl wh = (0, 0) := by unfold balS; rw [if_neg hne]
    rw [e1, e2, he]
    exact ⟨none, 0, rfl, ⟨⟨.inl rfl, .inl rfl⟩, fun _ => ⟨rfl, rfl⟩⟩, hb⟩
  cases h1 : decide ((rs.length : Int) ≤ 100) with
  | false => exact fall 5 rfl (by unfold balE; rw [h1]; rfl) (balance_bad rs a cap wl wh 5 false _ _ w rfl ⟨h1, rfl, rfl, fun _ _ _ _ _ _ => rfl⟩ hl h)
  | true =>
    cases h2 : rs.all rangeOk with
    | false => exact fall 2 rfl (by unfold balE; rw [h1, h2]; rfl) (balance_bad rs a cap wl wh 2 true false _ w rfl ⟨h1, h2, rfl, fun _ _ _ _ _ _ => rfl⟩ hl h)
    | true =>
      cases h3 : [(wl, wh)].all rangeOk with
      | false => exact fall 2 rfl (by unfold balE; rw [h1, h2, h3]; rfl) (balance_bad rs a cap wl wh 2 true true false w rfl ⟨h1, h2, h3, fun _ _ _ _ _ _ => rfl⟩ hl h)
      | true =>
        have hn : rs.length ≤ 100 := by have := of_decide_eq_true h1; omega
        have hT : ∀ W, IsPairs W a rs → Calls Try.prog 88 #[.slice a rs.length cap] W fun e w' => e = .returned (.agg #[.int .i64 (sumL rs rs.length), .int .i64 (sumH rs rs.length)]) ∧ Below W.heap.size W w' := fun W hW =>
          total_any rs a cap W (sumL rs) (sumH rs) (by omega) hW (by simp [sumL, isum, Hid]) (by simp [sumH, isum, Hid]) (fun k hk => sumL_step hk) (fun k hk => sumH_step hk)
            (fun k hk => by have := sums_bound h2 k hk; omega) (fun k hk => by have := sums_bound h2 k hk; omega)
        have B := sums_bound h2 rs.length (Nat.le_refl _)
        have hW : -1000000000000000 ≤ wl ∧ wl ≤ 1000000000000000 ∧ -1000000000000000 ≤ wh ∧ wh ≤ 1000000000000000 := by
          have h3' := h3
          simp [rangeOk, allIn] at h3'
          omega
        by_cases h4 : max (sumL rs rs.length) wl ≤ min (sumH rs rs.length) wh
        · have hE : balE rs wl wh = 0 := by unfold balE; rw [h1, h2, h3]; simp [h4]
          refine (balance_good rs a cap wl wh (sumL rs rs.length) (sumH rs rs.length) (max (sumL rs rs.length) wl) (min (sumH rs rs.length) wh) w ⟨h1, h2, h3, fun _ _ _ _ _ _ => rfl⟩ hn h hT rfl rfl (decide_eq_true h4) (show Hid _ from (by refine ⟨?_, ?_, ?_, ?_⟩ <;> omega)) (balPart rs wl wh)
            (fun k hk => by have := range_get h2 hk; omega) hW (show Hid _ from (by refine ⟨?_, ?_, ?_, ?_⟩ <;> omega)) (fun k hk => rfl)).mono ?_
          rintro e w' ⟨g, rfl, hown, hb⟩
          have e1 : balN rs wl wh = (List.range rs.length).map (balPart rs wl wh) := by unfold balN; rw [if_pos hE]
          have e2 : balS rs wl wh = (max (sumL rs rs.length) wl, min (sumH rs rs.length) wh) := by unfold balS; rw [if_pos hE]
          have hlen : (balN rs wl wh).length = rs.length := by rw [e1]; simp
          rw [narrowAt_row, ← e1] at hown
          obtain ⟨b, c, hv, hp⟩ := pairs_of_owned hown hlen.symm
          cases hv
          rw [hE, hlen, e2]
          exact ⟨_, _, rfl, ⟨⟨hp, .inr ⟨g, rfl, (hown.lt g rfl).1⟩⟩, fun h => by cases h⟩, hb⟩
        · have hE : balE rs wl wh = 7 := by unfold balE; rw [h1, h2, h3]; simp [h4]
          exact fall 7 rfl hE (balance_none rs a cap wl wh (sumL rs rs.length) (sumH rs rs.length) w ⟨h1, h2, h3, fun _ _ _ _ _ _ => rfl⟩ hn h hT (decide_eq_false h4))
end Go.Proofs.Ytckapcfofkeicaa

namespace Go.Proofs.Ytckapcfofkeicaa
set_option linter.unusedSimpArgs false
set_option linter.unusedVariables false
open Go.RowKit

def byF (zs : List Int) (i : Nat) : Int := if i < zs.length then zs.getD i 0 else 0
/-- What the parts truly are. -/
def tF (rs : List (Int × Int)) (zs : List Int) (i : Nat) : Int := placeQ (aF rs i) (bF rs i) (byF zs i)
def tRow (rs : List (Int × Int)) (zs : List Int) (k : Nat) : List Value := (List.range k).map fun j => .int .i64 (tF rs zs j)
theorem tRow_succ (rs : List (Int × Int)) (zs : List Int) (k : Nat) : tRow rs zs (k + 1) = tRow rs zs k ++ [Value.int .i64 (tF rs zs k)] := by unfold tRow; rw [List.range_succ, List.map_append]; rfl
/-- A part that the statement tries. -/
def triedOk (rs : List (Int × Int)) (i : Nat) : Prop := aF rs i ≤ bF rs i ∧ -1000000000000 ≤ aF rs i ∧ bF rs i ≤ 1000000000000
theorem sm_bounds {rs : List (Int × Int)} {zs : List Int} : ∀ k : Nat, k ≤ 12 → (∀ j, j < k → triedOk rs j) → -12000000000000 ≤ sm (tF rs zs) k ∧ sm (tF rs zs) k ≤ 12000000000000 := by
  have key : ∀ k : Nat, (∀ j, j < k → triedOk rs j) → -(k * 1000000000000) ≤ sm (tF rs zs) k ∧ sm (tF rs zs) k ≤ k * 1000000000000 := by
    intro k
    induction k with
    | zero => intro _; simp [sm]
    | succ k ih =>
      intro h
      have := ih fun j hj => h j (by omega)
      obtain ⟨o1, o2, o3⟩ := h k (by omega)
      have p := place_in (b := byF zs k) o1
      have e : tF rs zs k = placeQ (aF rs k) (bF rs k) (byF zs k) := rfl
      simp only [sm]
      omega
  intro k hk h
  have := key k h
  omega
theorem sm_tried {rs : List (Int × Int)} {zs : List Int} (ht : ∀ j, j < rs.length → triedOk rs j) : sm (aF rs) rs.length ≤ sm (tF rs zs) rs.length ∧ sm (tF rs zs) rs.length ≤ sm (bF rs) rs.length := by
  have p : ∀ j, j < rs.length → aF rs j ≤ tF rs zs j ∧ tF rs zs j ≤ bF rs j := fun j hj => place_in (ht j hj).1
  exact ⟨sm_mono _ fun j hj => (p j hj).1, sm_mono _ fun j hj => (p j hj).2⟩
theorem all_tried {rs : List (Int × Int)} (ht : ∀ j, j < rs.length → triedOk rs j) : rs.all rangeOk = true := by
  refine List.all_eq_true.2 fun r hr => ?_
  obtain ⟨j, hj, rfl⟩ := List.mem_iff_getElem.1 hr
  obtain ⟨o1, o2, o3⟩ := ht j hj
  have e : rs.getD j (0, 0) = rs[j] := by simp [List.getD_eq_getElem?_getD, hj]
  unfold aF bF at *
  rw [e] at o1 o2 o3
  simp [rangeOk, allIn]
  omega
/-- Balance of tried parts with a whole round their true sum. -/
theorem bal_tried {rs : List (Int × Int)} {zs : List Int} (hl : rs.length ≤ 12) (ht : ∀ j, j < rs.length → triedOk rs j) {u0 u1 : Int} (a00 : 0 ≤ u0) (a01 : u0 ≤ 4294967295) (a10 : 0 ≤ u1) (a11 : u1 ≤ 4294967295) :
    balE rs (sm (tF rs zs) rs.length - u0) (sm (tF rs zs) rs.length + u1) = 0 ∧
    balS rs (sm (tF rs zs) rs.length - u0) (sm (tF rs zs) rs.length + u1) = (max (sm (aF rs) rs.length) (sm (tF rs zs) rs.length - u0), min (sm (bF rs) rs.length) (sm (tF rs zs) rs.length + u1)) := by
  have b := sm_bounds (zs := zs) rs.length hl ht
  obtain ⟨s0, s1⟩ := sm_tried (zs := zs) ht
  have hw : [(sm (tF rs zs) rs.length - u0, sm (tF rs zs) rs.length + u1)].all rangeOk = true := by
    simp [rangeOk, allIn]
    omega
  have h0 : balE rs (sm (tF rs zs) rs.length - u0) (sm (tF rs zs) rs.length + u1) = 0 := by
    unfold balE
    rw [if_neg (by simp; omega), if_neg (by simp [all_tried ht]), if_neg (by simp [hw]), if_pos]
    rw [sumL_is _ (Nat.le_refl _), sumH_is _ (Nat.le_refl _)]
    omega
  refine ⟨h0, ?_⟩
  unfold balS
  rw [if_pos h0, sumL_is _ (Nat.le_refl _), sumH_is _ (Nat.le_refl _)]
end Go.Proofs.Ytckapcfofkeicaa

namespace Go.Proofs.Ytckapcfofkeicaa
set_option linter.unusedSimpArgs false
set_option linter.unusedVariables false
open Go.RowKit

/-- What is known of the narrowed parts N2, their sum, the whole, and what the parts truly are. -/
structure BdFacts (rs N2 : List (Int × Int)) (T : Nat → Int) (wl wh sl sh S : Int) : Prop where
  len : N2.length = rs.length
  sum : (wl ≤ sl ∧ sl ≤ S) ∧ S ≤ sh ∧ sh ≤ wh
  far : -13000000000000 ≤ wl ∧ wh ≤ 13000000000000
  part : ∀ i, i < rs.length → (aF rs i ≤ aF N2 i ∧ aF N2 i ≤ T i) ∧ T i ≤ bF N2 i ∧ bF N2 i ≤ bF rs i
  tried : ∀ i, i < rs.length → triedOk rs i
  tests : ∀ i, i < rs.length → (¬ aF N2 i + (sm (bF rs) rs.length - bF rs i) < wl ∧ ¬ wh < aF N2 i + (sm (aF rs) rs.length - aF rs i)) ∧ (¬ wh < bF N2 i + (sm (aF rs) rs.length - aF rs i) ∧ ¬ bF N2 i + (sm (bF rs) rs.length - bF rs i) < wl) ∧
    ¬ (aF rs i < aF N2 i ∧ wl ≤ aF N2 i - 1 + (sm (bF rs) rs.length - bF rs i)) ∧ ¬ (bF N2 i < bF rs i ∧ bF N2 i + 1 + (sm (aF rs) rs.length - aF rs i) ≤ wh)
  sums : ∀ k, k ≤ rs.length → (-12000000000000 ≤ sm (aF rs) k ∧ sm (aF rs) k ≤ 12000000000000) ∧ -12000000000000 ≤ sm (bF rs) k ∧ sm (bF rs) k ≤ 12000000000000
  again : balE N2 sl sh = 0 ∧ balS N2 sl sh = (sl, sh) ∧ balN N2 sl sh = N2

theorem sm_far {f : Nat → Int} : ∀ k : Nat, (∀ j, j < k → -1000000000000 ≤ f j ∧ f j ≤ 1000000000000) → -(k * 1000000000000) ≤ sm f k ∧ sm f k ≤ k * 1000000000000 := by
  intro k
  induction k with
  | zero => intro _; simp [sm]
  | succ k ih =>
    intro h
    have := ih fun j hj => h j (by omega)
    have := h k (by omega)
    simp only [sm]
    omega
theorem mapped_get {f : Nat → Int × Int} {n i : Nat} (hi : i < n) : ((List.range n).map f).getD i (0, 0) = f i := by
  simp [List.getD_eq_getElem?_getD, hi]

theorem bd_facts {rs : List (Int × Int)} {zs : List Int} (hl : rs.length ≤ 12) (ht : ∀ j, j < rs.length → triedOk rs j) {u0 u1 : Int} (a00 : 0 ≤ u0) (a01 : u0 ≤ 4294967295) (a10 : 0 ≤ u1) (a11 : u1 ≤ 4294967295) :
    BdFacts rs (balN rs (sm (tF rs zs) rs.length - u0) (sm (tF rs zs) rs.length + u1)) (tF rs zs) (sm (tF rs zs) rs.length - u0) (sm (tF rs zs) rs.length + u1)
      (balS rs (sm (tF rs zs) rs.length - u0) (sm (tF rs zs) rs.length + u1)).1 (balS rs (sm (tF rs zs) rs.length - u0) (sm (tF rs zs) rs.length + u1)).2 (sm (tF rs zs) rs.length) := by
  obtain ⟨e0, e1⟩ := bal_tried (zs := zs) hl ht a00 a01 a10 a11
  have b := sm_bounds (zs := zs) rs.length hl ht
  obtain ⟨s0, s1⟩ := sm_tried (zs := zs) ht
  have eN : balN rs (sm (tF rs zs) rs.length - u0) (sm (tF rs zs) rs.length + u1) = (List.range rs.length).map (balPart rs (sm (tF rs zs) rs.length - u0) (sm (tF rs zs) rs.length + u1)) := by unfold balN; rw [if_pos e0]
  rw [eN, e1]
  have eL := sumL_is (rs := rs) _ (Nat.le_refl _)
  have eH := sumH_is (rs := rs) _ (Nat.le_refl _)
  have hT : ∀ j, j < rs.length → aF rs j ≤ tF rs zs j ∧ tF rs zs j ≤ bF rs j := fun j hj => place_in (ht j hj).1
  obtain ⟨S, hS⟩ : ∃ S, sm (tF rs zs) rs.length = S := ⟨_, rfl⟩
  have hS' := hS
  clear e0 e1 eN
  rw [hS] at b s0 s1 ⊢
  obtain ⟨wl, hwl⟩ : ∃ x, S - u0 = x := ⟨_, rfl⟩
  obtain ⟨wh, hwh⟩ : ∃ x, S + u1 = x := ⟨_, rfl⟩
  rw [hwl, hwh]
  obtain ⟨sl, hsl⟩ : ∃ x, max (sm (aF rs) rs.length) wl = x := ⟨_, rfl⟩
  obtain ⟨sh, hsh⟩ : ∃ x, min (sm (bF rs) rs.length) wh = x := ⟨_, rfl⟩
  have gp : ∀ i, i < rs.length → aF ((List.range rs.length).map (balPart rs wl wh)) i = nL (aF rs) (bF rs) rs.length sl i ∧ bF ((List.range rs.length).map (balPart rs wl wh)) i = nH (aF rs) (bF rs) rs.length sh i := by
    intro i hi
    unfold aF bF nL nH
    rw [mapped_get hi]
    unfold balPart
    rw [eL, eH, hsl, hsh]
    exact ⟨rfl, rfl⟩
  have lenN : ((List.range rs.length).map (balPart rs wl wh)).length = rs.length := by simp
  obtain ⟨N, hN⟩ : ∃ N, (List.range rs.length).map (balPart rs wl wh) = N := ⟨_, rfl⟩
  rw [hN] at gp lenN ⊢
  clear hN
  rw [hsl, hsh]
  have B : Bal (aF rs) (bF rs) rs.length sl sh := ⟨fun j hj => (ht j hj).1, by omega, by omega, by omega⟩
  have sumsA := fun k (hk : k ≤ rs.length) => sm_far (f := aF rs) k fun j hj => by have := ht j (by omega); unfold triedOk at this; omega
  have sumsB := fun k (hk : k ≤ rs.length) => sm_far (f := bF rs) k fun j hj => by have := ht j (by omega); unfold triedOk at this; omega
  have tr := fun i (hi : i < rs.length) => B.truth hT (by rw [hS']; omega) (by rw [hS']; omega) hi
  have od := fun i (hi : i < rs.length) => B.ordered hi
  have tt := fun i (hi : i < rs.length) => B.tests (A := S) hsl.symm hsh.symm (by omega) (by omega) (by omega) (by omega) hi
  have tn : ∀ j, j < N.length → triedOk N j := by
    intro j hj
    rw [lenN] at hj
    obtain ⟨g1, g2⟩ := gp j hj
    have := od j hj
    have := ht j hj
    unfold triedOk at *
    rw [g1, g2]
    omega
  have sA : sumL N N.length = sm (nL (aF rs) (bF rs) rs.length sl) rs.length := by rw [sumL_is _ (Nat.le_refl _), lenN]; exact sm_eq _ fun j hj => (gp j hj).1
  have sB : sumH N N.length = sm (nH (aF rs) (bF rs) rs.length sh) rs.length := by rw [sumH_is _ (Nat.le_refl _), lenN]; exact sm_eq _ fun j hj => (gp j hj).2
  have lo := B.low
  have hi := B.high
  have ag : balE N sl sh = 0 := by
    have h1 : [(sl, sh)].all rangeOk = true := by
      simp [rangeOk, allIn]
      omega
    unfold balE
    rw [if_neg (by simp; omega), if_neg (by simp [all_tried tn]), if_neg (by simp [h1]), if_pos]
    rw [sA, sB]
    omega
  refine ⟨lenN, by omega, by omega, fun i hi => ?_, ht, fun i hi => ?_, fun k hk => ?_, ag, ?_, ?_⟩
  · obtain ⟨g1, g2⟩ := gp i hi
    rw [g1, g2]
    have := od i hi
    have := tr i hi
    omega
  · obtain ⟨g1, g2⟩ := gp i hi
    rw [g1, g2]
    exact tt i hi
  · have := sumsA k hk
    have := sumsB k hk
    omega
  · unfold balS
    rw [if_pos ag, sA, sB]
    congr 1 <;> omega
  · unfold balN
    rw [if_pos ag]
    refine List.ext_getElem (by simp) fun i h1 h2 => ?_
    rw [lenN] at h2
    have e3 : N[i] = N.getD i (0, 0) := by simp [List.getD_eq_getElem?_getD, lenN, h2]
    rw [e3]
    simp only [List.getElem_map, List.getElem_range]
    obtain ⟨g1, g2⟩ := gp i h2
    have g1' : (N.getD i (0, 0)).1 = nL (aF rs) (bF rs) rs.length sl i := g1
    have g2' : (N.getD i (0, 0)).2 = nH (aF rs) (bF rs) rs.length sh i := g2
    unfold balPart
    rw [sA, sB, g1', g2']
    have l1 := B.low_one h2
    have l2 := B.high_one h2
    refine Prod.ext ?_ ?_
    · rw [g1']; simp only; omega
    · rw [g2']; simp only; omega
end Go.Proofs.Ytckapcfofkeicaa
