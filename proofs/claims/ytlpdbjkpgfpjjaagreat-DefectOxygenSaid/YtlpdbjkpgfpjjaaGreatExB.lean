/-
  What a quotient is, and that of the opposite number.
-/
import Derived.Test.YtlpdbjkpgfpjjaaGreatDivQ
namespace Go.Proofs.YtlpdbjkpgfpjjaaGreat
set_option linter.unusedSimpArgs false
set_option linter.unusedVariables false

theorem allIn_one {x : Int} : allIn 1000000000000000 [x] = true ↔ -1000000000000000 ≤ x ∧ x ≤ 1000000000000000 := by simp [allIn]
theorem floorQ_of {N c : Int} (hc : 1 ≤ c) (h0 : -1000000000000001 ≤ N / c) (h1 : N / c ≤ 1000000000000000) : floorQ N c = (N / c, N % c, true) := by
  unfold floorQ
  by_cases h : 0 ≤ N
  · rw [if_pos h, if_pos h1]
  · have b : (-N - 1) / c ≤ 1000000000000000 := by
      have : (-N - 1) / c < 1000000000000001 := by
        apply Int.ediv_lt_of_lt_mul (by omega)
        have := (Int.le_ediv_iff_mul_le (show 0 < c by omega)).1 h0
        omega
      omega
    rw [if_neg h, if_pos b]
theorem floorQ_true {N c : Int} (hc : 1 ≤ c) (h : (floorQ N c).2.2 = true) : floorQ N c = (N / c, N % c, true) ∧ -1000000000000001 ≤ N / c ∧ N / c ≤ 1000000000000000 := by
  unfold floorQ at h
  by_cases hN : 0 ≤ N
  · rw [if_pos hN] at h
    by_cases hb : N / c ≤ 1000000000000000
    · have h0 := Int.ediv_nonneg hN (show 0 ≤ c by omega)
      have : -1000000000000001 ≤ N / c := by omega
      exact ⟨floorQ_of hc this hb, this, hb⟩
    · rw [if_neg hb] at h; simp at h
  · rw [if_neg hN] at h
    by_cases hb : (-N - 1) / c ≤ 1000000000000000
    · have h1 : N / c < 0 := by
        apply Int.ediv_lt_of_lt_mul (by omega)
        omega
      have h2 : -1000000000000001 ≤ N / c := by
        rw [Int.le_ediv_iff_mul_le (by omega)]
        have := Int.lt_mul_of_ediv_lt (show 0 < c by omega) (show (-N - 1) / c < 1000000000000001 by omega)
        omega
      exact ⟨floorQ_of hc h2 (by omega), h2, by omega⟩
    · rw [if_neg hb] at h; simp at h
theorem divQ_eq {N c how q s : Int} (hf : floorQ N c = (q, s, true)) : divQ N c how = if upQ how q s c = true then (q + 1, -(c - s), allIn 1000000000000000 [q + 1]) else (q, s, allIn 1000000000000000 [q]) := by
  unfold divQ; rw [hf]; simp
theorem trip {a b n r : Int} (h1 : a = n) (h2 : b = r) (h3 : -1000000000000000 ≤ n ∧ n ≤ 1000000000000000) : ((a, b, allIn 1000000000000000 [a]) : Int × Int × Bool) = (n, r, true) := by
  subst h1 h2; rw [allIn_one.2 h3]
theorem untrip {a b n r : Int} (h : ((a, b, allIn 1000000000000000 [a]) : Int × Int × Bool) = (n, r, true)) : a = n ∧ b = r ∧ -1000000000000000 ≤ n ∧ n ≤ 1000000000000000 := by
  simp only [Prod.mk.injEq] at h
  obtain ⟨rfl, rfl, h⟩ := h
  exact ⟨rfl, rfl, allIn_one.1 h⟩
theorem neg_div {N c : Int} (hc : 1 ≤ c) : (N % c = 0 → -N / c = -(N / c) ∧ -N % c = 0) ∧ (0 < N % c → -N / c = -(N / c) - 1 ∧ -N % c = c - N % c) := by
  have e := Int.mul_ediv_add_emod N c
  have r1 := Int.emod_lt_of_pos N (show 0 < c by omega)
  refine ⟨fun h => (Int.ediv_emod_unique (by omega)).2 ⟨?_, by omega, by omega⟩, fun h => (Int.ediv_emod_unique (by omega)).2 ⟨?_, by omega, by omega⟩⟩
  · rw [Int.mul_neg]; omega
  · rw [Int.mul_sub, Int.mul_neg, Int.mul_one]; omega

/-- What divQ returns of a number, if it returns one; and of the opposite number. -/
structure Turned (N c how n r how' : Int) : Prop where
  exact : N = n * c + r
  low : -1000000000000000 ≤ n
  high : n ≤ 1000000000000000
  less : -c < r ∧ r < c
  turned : divQ (-N) c how' = (-n, -r, true)

theorem half_even {q : Int} (h : q.tmod 2 = 0) : (-q).tmod 2 = 0 := by rw [Int.neg_tmod, h]; rfl
theorem half_next {q : Int} (h : ¬ q.tmod 2 = 0) : (q + 1).tmod 2 = 0 := by
  have h1 : ¬ q % 2 = 0 := fun e => h (Int.tmod_eq_zero_of_dvd (Int.dvd_of_emod_eq_zero e))
  exact Int.tmod_eq_zero_of_dvd (Int.dvd_of_emod_eq_zero (by omega))
theorem half_odd {q : Int} (h : q.tmod 2 = 0) : ¬ (-q - 1).tmod 2 = 0 := by
  intro e
  have h1 := Int.emod_eq_zero_of_dvd (Int.dvd_of_tmod_eq_zero h)
  have h2 := Int.emod_eq_zero_of_dvd (Int.dvd_of_tmod_eq_zero e)
  omega
theorem half_odd' {q : Int} (h : ¬ q.tmod 2 = 0) : (-q - 1).tmod 2 = 0 := by
  have h1 : ¬ q % 2 = 0 := fun e => h (Int.tmod_eq_zero_of_dvd (Int.dvd_of_emod_eq_zero e))
  exact Int.tmod_eq_zero_of_dvd (Int.dvd_of_emod_eq_zero (by omega))

theorem divQ_facts {N c how n r : Int} (hc : 1 ≤ c) (h : divQ N c how = (n, r, true)) :
    (floorQ N c = (N / c, N % c, true) ∧ -1000000000000001 ≤ N / c ∧ N / c ≤ 1000000000000000) ∧ ((upQ how (N / c) (N % c) c = true ∧ N / c + 1 = n ∧ -(c - N % c) = r) ∨ (upQ how (N / c) (N % c) c = false ∧ N / c = n ∧ N % c = r)) ∧ -1000000000000000 ≤ n ∧ n ≤ 1000000000000000 := by
  have hf : (floorQ N c).2.2 = true := by
    cases hb : (floorQ N c).2.2 with
    | true => rfl
    | false => unfold divQ at h; rw [hb] at h; simp at h
  have F := floorQ_true hc hf
  rw [divQ_eq F.1] at h
  refine ⟨F, ?_⟩
  cases hu : upQ how (N / c) (N % c) c with
  | true =>
    rw [hu, if_pos rfl] at h
    obtain ⟨e1, e2, e3⟩ := untrip h
    exact ⟨.inl ⟨rfl, e1, e2⟩, e3⟩
  | false =>
    rw [hu, if_neg (by simp)] at h
    obtain ⟨e1, e2, e3⟩ := untrip h
    exact ⟨.inr ⟨rfl, e1, e2⟩, e3⟩
theorem upQ1 (n r c : Int) : upQ 1 n r c = false := by simp [upQ]
theorem upQ2 (n r c : Int) : upQ 2 n r c = decide (0 < r) := by simp [upQ]
theorem upQ3 (n r c : Int) : upQ 3 n r c = (decide (c - r < r) || (decide (r = c - r) && decide (¬ n.tmod 2 = 0))) := by simp [upQ]

theorem turn_one {N c n r : Int} (hc : 1 ≤ c) (h : divQ N c 1 = (n, r, true)) : Turned N c 1 n r 2 ∧ 0 ≤ r := by
  obtain ⟨⟨hf, q0, q1⟩, hu, n0, n1⟩ := divQ_facts hc h
  have e := Int.mul_ediv_add_emod N c
  have r0 := Int.emod_nonneg N (show c ≠ 0 by omega)
  have r1 := Int.emod_lt_of_pos N (show 0 < c by omega)
  rw [upQ1] at hu
  rcases hu with ⟨hu, _⟩ | ⟨_, rfl, rfl⟩
  · cases hu
  obtain ⟨d0, d1⟩ := neg_div (N := N) hc
  refine ⟨⟨by rw [Int.mul_comm]; exact e.symm, n0, n1, by omega, ?_⟩, r0⟩
  by_cases hs : N % c = 0
  · obtain ⟨a1, a2⟩ := d0 hs
    rw [divQ_eq (floorQ_of hc (by omega) (by omega)), upQ2, a1, a2, if_neg (by simp)]
    exact trip rfl (by omega) (by omega)
  · obtain ⟨a1, a2⟩ := d1 (by omega)
    rw [divQ_eq (floorQ_of hc (by omega) (by omega)), upQ2, a1, a2, if_pos (decide_eq_true (by omega))]
    exact trip (by omega) (by omega) (by omega)
theorem turn_two {N c n r : Int} (hc : 1 ≤ c) (h : divQ N c 2 = (n, r, true)) : Turned N c 2 n r 1 ∧ r ≤ 0 := by
  obtain ⟨⟨hf, q0, q1⟩, hu, n0, n1⟩ := divQ_facts hc h
  have e := Int.mul_ediv_add_emod N c
  have r0 := Int.emod_nonneg N (show c ≠ 0 by omega)
  have r1 := Int.emod_lt_of_pos N (show 0 < c by omega)
  rw [upQ2] at hu
  obtain ⟨d0, d1⟩ := neg_div (N := N) hc
  rcases hu with ⟨hu, rfl, rfl⟩ | ⟨hu, rfl, rfl⟩
  · have hs := of_decide_eq_true hu
    obtain ⟨a1, a2⟩ := d1 hs
    refine ⟨⟨by rw [Int.add_mul, Int.mul_comm]; omega, n0, n1, by omega, ?_⟩, by omega⟩
    rw [divQ_eq (floorQ_of hc (by omega) (by omega)), upQ1, a1, a2, if_neg (by simp)]
    exact trip (by omega) (by omega) (by omega)
  · have hs := of_decide_eq_false hu
    obtain ⟨a1, a2⟩ := d0 (by omega)
    refine ⟨⟨by rw [Int.mul_comm]; exact e.symm, n0, n1, by omega, ?_⟩, by omega⟩
    rw [divQ_eq (floorQ_of hc (by omega) (by omega)), upQ1, a1, a2, if_neg (by simp)]
    exact trip rfl (by omega) (by omega)
theorem turn_three {N c n r : Int} (hc : 1 ≤ c) (h : divQ N c 3 = (n, r, true)) : Turned N c 3 n r 3 ∧ 2 * r ≤ c ∧ -2 * r ≤ c ∧ (2 * r = c ∨ -2 * r = c → n.tmod 2 = 0) := by
  obtain ⟨⟨hf, q0, q1⟩, hu, n0, n1⟩ := divQ_facts hc h
  have e := Int.mul_ediv_add_emod N c
  have r0 := Int.emod_nonneg N (show c ≠ 0 by omega)
  have r1 := Int.emod_lt_of_pos N (show 0 < c by omega)
  rw [upQ3] at hu
  obtain ⟨d0, d1⟩ := neg_div (N := N) hc
  rcases hu with ⟨hu, rfl, rfl⟩ | ⟨hu, rfl, rfl⟩
  · simp only [Bool.or_eq_true, Bool.and_eq_true, decide_eq_true_eq] at hu
    have hs : 0 < N % c := by omega
    obtain ⟨a1, a2⟩ := d1 hs
    refine ⟨⟨by rw [Int.add_mul, Int.mul_comm]; omega, n0, n1, by omega, ?_⟩, by omega, by omega, ?_⟩
    · rw [divQ_eq (floorQ_of hc (by omega) (by omega)), upQ3, a1, a2, if_neg ?_]
      · exact trip (by omega) (by omega) (by omega)
      · simp only [Bool.or_eq_true, Bool.and_eq_true, decide_eq_true_eq]
        rintro (hx | ⟨hx, hy⟩)
        · omega
        · rcases hu with hu | ⟨_, hu⟩
          · omega
          · exact hy (half_odd' hu)
    · intro hx
      rcases hu with hu | ⟨_, hu⟩
      · omega
      · exact half_next hu
  · simp only [Bool.or_eq_false_iff, Bool.and_eq_false_iff, decide_eq_false_iff_not] at hu
    obtain ⟨hu1, hu2⟩ := hu
    refine ⟨⟨by rw [Int.mul_comm]; exact e.symm, n0, n1, by omega, ?_⟩, by omega, by omega, ?_⟩
    · by_cases hs : N % c = 0
      · obtain ⟨a1, a2⟩ := d0 hs
        rw [divQ_eq (floorQ_of hc (by omega) (by omega)), upQ3, a1, a2, if_neg ?_]
        · exact trip rfl (by omega) (by omega)
        · simp only [Bool.or_eq_true, Bool.and_eq_true, decide_eq_true_eq]
          rintro (hx | ⟨hx, hy⟩) <;> omega
      · obtain ⟨a1, a2⟩ := d1 (by omega)
        rw [divQ_eq (floorQ_of hc (by omega) (by omega)), upQ3, a1, a2, if_pos ?_]
        · exact trip (by omega) (by omega) (by omega)
        · simp only [Bool.or_eq_true, Bool.and_eq_true, decide_eq_true_eq]
          by_cases hx : N % c = c - N % c
          · refine .inr ⟨by omega, ?_⟩
            rcases hu2 with hu2 | hu2
            · exact absurd hx hu2
            · exact half_odd (Classical.not_not.1 hu2)
          · exact .inl (by omega)
    · intro hx
      rcases hu2 with hu2 | hu2
      · omega
      · exact Classical.not_not.1 hu2
end Go.Proofs.YtlpdbjkpgfpjjaaGreat
