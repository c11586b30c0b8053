/-
  units.Balance, whatever parts and whole.
-/
import Derived.Test.YtckapcfofkeicaaRun
namespace Go.Proofs.Ytckapcfofkeicaa
set_option linter.unusedSimpArgs false
set_option linter.unusedVariables false
open Go.RowKit

theorem rowOf_at : ∀ (rs : List (Int × Int)) (i : Nat), i < rs.length → (rowOf rs)[i * 2]? = some (.int .i64 (rs.getD i (0, 0)).1) ∧ (rowOf rs)[i * 2 + 1]? = some (.int .i64 (rs.getD i (0, 0)).2)
  | [], i, hi => by simp at hi
  | r :: rs, 0, _ => by simp [rowOf]
  | r :: rs, i + 1, hi => by
    have h := rowOf_at rs i (by simpa using hi)
    have e1 : (i + 1) * 2 = i * 2 + 1 + 1 := by omega
    have e2 : (i + 1) * 2 + 1 = i * 2 + 1 + 1 + 1 := by omega
    rw [e1]
    have e : rowOf (r :: rs) = .int .i64 r.1 :: .int .i64 r.2 :: rowOf rs := by simp [rowOf]
    rw [e]
    simpa using h
theorem pairs_of_owned {w : World} {base n : Nat} {T : TypeId} {v : Value} {rs : List (Int × Int)} (h : w.ownsRow base T 2 v n (rowOf rs)) (hn : n = rs.length) : ∃ b c, v = .slice b n c ∧ IsPairs w b rs := by
  subst hn
  rcases h.2 with ⟨e, e'⟩ | ⟨g, cap, cur, rfl, _⟩
  · exact ⟨none, 0, by rw [e, e'], .inl (List.eq_nil_of_length_eq_zero e')⟩
  · refine ⟨_, _, rfl, .inr ⟨g, 0, rfl, fun i hi => ?_⟩⟩
    have r := rowOf_at rs i hi
    exact ⟨by rw [Nat.zero_add, h.cellAt (i * 2) (by omega)]; exact r.1, by rw [Nat.zero_add, h.cellAt (i * 2 + 1) (by omega)]; exact r.2⟩
theorem narrowAt_row (f : Nat → Int × Int) (n : Nat) : narrowAt f n n = rowOf ((List.range n).map f) := by
  have hlen : (rowOf ((List.range n).map f)).length = n * 2 := by rw [rowOf_length]; simp
  apply List.ext_getElem?
  intro j
  by_cases hj : j < n * 2
  · have hi : j / 2 < ((List.range n).map f).length := by simp; omega
    have r := rowOf_at ((List.range n).map f) (j / 2) hi
    have hd : ((List.range n).map f).getD (j / 2) (0, 0) = f (j / 2) := by
      rw [List.getD_eq_getElem?_getD, List.getElem?_map, List.getElem?_range (by omega)]; rfl
    rw [hd] at r
    have hl : (narrowAt f n n)[j]? = some (.int .i64 (if j % 2 = 0 then (f (j / 2)).1 else (f (j / 2)).2)) := by
      unfold narrowAt
      rw [List.getElem?_map, List.getElem?_range hj]
      simp [show j / 2 < n by omega]
    rw [hl]
    by_cases h0 : j % 2 = 0
    · rw [if_pos h0]
      have e : j / 2 * 2 = j := by omega
      rw [e] at r
      exact r.1.symm
    · rw [if_neg h0]
      have e : j / 2 * 2 + 1 = j := by omega
      rw [e] at r
      exact r.2.symm
  · rw [List.getElem?_eq_none (by simp [narrowAt]; omega), List.getElem?_eq_none (by omega)]

/-- The sums of the ends of the first k ranges. -/
def sumL (rs : List (Int × Int)) (k : Nat) : Int := isum ((rs.map Prod.fst).take k)
def sumH (rs : List (Int × Int)) (k : Nat) : Int := isum ((rs.map Prod.snd).take k)
theorem sumL_step {rs : List (Int × Int)} {k : Nat} (hk : k < rs.length) : sumL rs k + (rs.getD k (0, 0)).1 = sumL rs (k + 1) := by
  unfold sumL
  rw [isum_step (by simpa using hk)]
  simp [List.getD_eq_getElem?_getD, List.getElem?_eq_getElem hk]
theorem sumH_step {rs : List (Int × Int)} {k : Nat} (hk : k < rs.length) : sumH rs k + (rs.getD k (0, 0)).2 = sumH rs (k + 1) := by
  unfold sumH
  rw [isum_step (by simpa using hk)]
  simp [List.getD_eq_getElem?_getD, List.getElem?_eq_getElem hk]
theorem range_get {rs : List (Int × Int)} (h : rs.all rangeOk = true) {k : Nat} (hk : k < rs.length) : (-1000000000000000 ≤ (rs.getD k (0, 0)).1 ∧ (rs.getD k (0, 0)).1 ≤ (rs.getD k (0, 0)).2) ∧ (rs.getD k (0, 0)).2 ≤ 1000000000000000 := by
  have h1 := List.all_eq_true.1 h _ (List.getElem_mem hk)
  rw [List.getD_eq_getElem?_getD, List.getElem?_eq_getElem hk, Option.getD_some]
  simp [rangeOk, allIn] at h1
  omega
theorem sums_bound {rs : List (Int × Int)} (h : rs.all rangeOk = true) : ∀ k, k ≤ rs.length → (-(k * 1000000000000000) ≤ sumL rs k ∧ sumL rs k ≤ k * 1000000000000000) ∧ -(k * 1000000000000000) ≤ sumH rs k ∧ sumH rs k ≤ k * 1000000000000000
  | 0, _ => by simp [sumL, sumH, isum]
  | k + 1, hk => by
    have ih := sums_bound h k (by omega)
    have r := range_get h (k := k) (by omega)
    rw [← sumL_step (by omega), ← sumH_step (by omega)]
    push_cast
    omega

/-- Balance: its error, the sum, and what the parts are narrowed to. -/
def balE (rs : List (Int × Int)) (wl wh : Int) : Int :=
  if decide ((rs.length : Int) ≤ 100) = false then 5 else if rs.all rangeOk = false then 2 else if [(wl, wh)].all rangeOk = false then 2
  else if max (sumL rs rs.length) wl ≤ min (sumH rs rs.length) wh then 0 else 7
def balS (rs : List (Int × Int)) (wl wh : Int) : Int × Int := if balE rs wl wh = 0 then (max (sumL rs rs.length) wl, min (sumH rs rs.length) wh) else (0, 0)
def balPart (rs : List (Int × Int)) (wl wh : Int) (k : Nat) : Int × Int :=
  (max (rs.getD k (0, 0)).1 (max (sumL rs rs.length) wl - (sumH rs rs.length - (rs.getD k (0, 0)).2)), min (rs.getD k (0, 0)).2 (min (sumH rs rs.length) wh - (sumL rs rs.length - (rs.getD k (0, 0)).1)))
def balN (rs : List (Int × Int)) (wl wh : Int) : List (Int × Int) := if balE rs wl wh = 0 then (List.range rs.length).map (balPart rs wl wh) else []

theorem balance_any (rs : List (Int × Int)) (a : Option Addr) (cap : Nat) (wl wh : Int) (w : World) (hl : rs.length ≤ 140737488351232) (h : IsPairs w a rs) :
    Calls Try.prog 46 #[.slice a rs.length cap, .agg #[.int .i64 wl, .int .i64 wh]] w fun e w' => ∃ b c, e = .returned (.tuple #[.slice b (balN rs wl wh).length c, .agg #[.int .i64 (balS rs wl wh).1, .int .i64 (balS rs wl wh).2], .int .i64 (balE rs wl wh)]) ∧ IsPairs w' b (balN rs wl wh) ∧ Below w.heap.size w w' := by
  have fall : ∀ E : Int, (E == 0) = false → balE rs wl wh = E → (Calls Try.prog 46 #[.slice a rs.length cap, .agg #[.int .i64 wl, .int .i64 wh]] w fun e w' => e = .returned (.tuple #[.slice none 0 0, .agg #[.int .i64 0, .int .i64 0], .int .i64 E]) ∧ Below w.heap.size w w') →
      Calls Try.prog 46 #[.slice a rs.length cap, .agg #[.int .i64 wl, .int .i64 wh]] w fun e w' => ∃ b c, e = .returned (.tuple #[.slice b (balN rs wl wh).length c, .agg #[.int .i64 (balS rs wl wh).1, .int .i64 (balS rs wl wh).2], .int .i64 (balE rs wl wh)]) ∧ IsPairs w' b (balN rs wl wh) ∧ Below w.heap.size w w' := by
    intro E hE he hC
    refine hC.mono ?_
    rintro e w' ⟨rfl, hb⟩
    have hne : ¬ balE rs wl wh = 0 := by rw [he]; simpa using hE
    have e1 : balN rs wl wh = [] := by unfold balN; rw [if_neg hne]
    have e2 : balS rs wl wh = (0, 0) := by unfold balS; rw [if_neg hne]
    rw [e1, e2, he]
    exact ⟨none, 0, rfl, .inl rfl, hb⟩
  cases h1 : decide ((rs.length : Int) ≤ 100) with
  | false => exact fall 5 rfl (by unfold balE; rw [h1]; rfl) (balance_bad rs a cap wl wh 5 false _ _ w rfl ⟨h1, rfl, rfl, fun _ _ _ _ _ _ => rfl⟩ hl h)
  | true =>
    cases h2 : rs.all rangeOk with
    | false => exact fall 2 rfl (by unfold balE; rw [h1, h2]; rfl) (balance_bad rs a cap wl wh 2 true false _ w rfl ⟨h1, h2, rfl, fun _ _ _ _ _ _ => rfl⟩ hl h)
    | true =>
      cases h3 : [(wl, wh)].all rangeOk with
      | false => exact fall 2 rfl (by unfold balE; rw [h1, h2, h3]; rfl) (balance_bad rs a cap wl wh 2 true true false w rfl ⟨h1, h2, h3, fun _ _ _ _ _ _ => rfl⟩ hl h)
      | true =>
        have hn : rs.length ≤ 100 := by have := of_decide_eq_true h1; omega
        have hT : ∀ W, IsPairs W a rs → Calls Try.prog 88 #[.slice a rs.length cap] W fun e w' => e = .returned (.agg #[.int .i64 (sumL rs rs.length), .int .i64 (sumH rs rs.length)]) ∧ Below W.heap.size W w' := fun W hW =>
          total_any rs a cap W (sumL rs) (sumH rs) (by omega) hW (by simp [sumL, isum, Hid]) (by simp [sumH, isum, Hid]) (fun k hk => sumL_step hk) (fun k hk => sumH_step hk)
            (fun k hk => by have := sums_bound h2 k hk; omega) (fun k hk => by have := sums_bound h2 k hk; omega)
        have B := sums_bound h2 rs.length (Nat.le_refl _)
        have hW : -1000000000000000 ≤ wl ∧ wl ≤ 1000000000000000 ∧ -1000000000000000 ≤ wh ∧ wh ≤ 1000000000000000 := by
          have h3' := h3
          simp [rangeOk, allIn] at h3'
          omega
        by_cases h4 : max (sumL rs rs.length) wl ≤ min (sumH rs rs.length) wh
        · have hE : balE rs wl wh = 0 := by unfold balE; rw [h1, h2, h3]; simp [h4]
          refine (balance_good rs a cap wl wh (sumL rs rs.length) (sumH rs rs.length) (max (sumL rs rs.length) wl) (min (sumH rs rs.length) wh) w ⟨h1, h2, h3, fun _ _ _ _ _ _ => rfl⟩ hn h hT rfl rfl (decide_eq_true h4) (show Hid _ from (by refine ⟨?_, ?_, ?_, ?_⟩ <;> omega)) (balPart rs wl wh)
            (fun k hk => by have := range_get h2 hk; omega) hW (show Hid _ from (by refine ⟨?_, ?_, ?_, ?_⟩ <;> omega)) (fun k hk => rfl)).mono ?_
          rintro e w' ⟨g, rfl, hown, hb⟩
          have e1 : balN rs wl wh = (List.range rs.length).map (balPart rs wl wh) := by unfold balN; rw [if_pos hE]
          have e2 : balS rs wl wh = (max (sumL rs rs.length) wl, min (sumH rs rs.length) wh) := by unfold balS; rw [if_pos hE]
          have hlen : (balN rs wl wh).length = rs.length := by rw [e1]; simp
          rw [narrowAt_row, ← e1] at hown
          obtain ⟨b, c, hv, hp⟩ := pairs_of_owned hown hlen.symm
          cases hv
          rw [hE, hlen, e2]
          exact ⟨_, _, rfl, hp, hb⟩
        · have hE : balE rs wl wh = 7 := by unfold balE; rw [h1, h2, h3]; simp [h4]
          exact fall 7 rfl hE (balance_none rs a cap wl wh (sumL rs rs.length) (sumH rs rs.length) w ⟨h1, h2, h3, fun _ _ _ _ _ _ => rfl⟩ hn h hT (decide_eq_false h4))
end Go.Proofs.Ytckapcfofkeicaa
