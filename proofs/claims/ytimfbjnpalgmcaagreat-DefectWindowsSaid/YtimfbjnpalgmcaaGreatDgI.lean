/-
  defect: heat treatments, the numbers. defect: heat treatments, the walks.
-/
import Derived.Test.YtimfbjnpalgmcaaGreatDgC
import Derived.Test.YtimfbjnpalgmcaaGreatTimes
namespace Go.Proofs.YtimfbjnpalgmcaaGreat
set_option linter.unusedSimpArgs false
set_option linter.unusedVariables false

/-- A step of a heat treatment. -/
structure Heat where
  d : Int
  a0 : Int
  b0 : Int
  a1 : Int
  b1 : Int
  a2 : Int
  b2 : Int
  a3 : Int
  b3 : Int
  a4 : Int
  b4 : Int
deriving Inhabited
def Heat.lo (h : Heat) : Nat → Int
  | 0 => h.a0
  | 1 => h.a1
  | 2 => h.a2
  | 3 => h.a3
  | _ => h.a4
def Heat.hi (h : Heat) : Nat → Int
  | 0 => h.b0
  | 1 => h.b1
  | 2 => h.b2
  | 3 => h.b3
  | _ => h.b4
def spdOk (h : Heat) : Bool := [(h.a0, h.b0), (h.a1, h.b1), (h.a2, h.b2), (h.a3, h.b3), (h.a4, h.b4)].all (rgOk 10000)
def heatOk (h : Heat) : Bool := decide (0 ≤ h.d) && (decide (h.d ≤ 1000000) && spdOk h)
theorem heat_far {h : Heat} (k : heatOk h = true) : (0 ≤ h.d ∧ h.d ≤ 1000000) ∧ ∀ r, 0 ≤ h.lo r ∧ h.lo r ≤ h.hi r ∧ h.hi r ≤ 10000 := by
  obtain ⟨d, a0, b0, a1, b1, a2, b2, a3, b3, a4, b4⟩ := h
  simp [heatOk, spdOk, rgOk] at k
  obtain ⟨h1, h2, ⟨h3, h4, h5⟩, ⟨h6, h7, h8⟩, ⟨h9, h10, h11⟩, ⟨h12, h13, h14⟩, h15, h16, h17⟩ := k
  refine ⟨⟨h1, h2⟩, fun r => ?_⟩
  match r with
  | 0 => exact ⟨h3, h4, h5⟩
  | 1 => exact ⟨h6, h7, h8⟩
  | 2 => exact ⟨h9, h10, h11⟩
  | 3 => exact ⟨h12, h13, h14⟩
  | r + 4 => exact ⟨h15, h16, h17⟩

/-- Quotients of numbers that aren't below 0. -/
theorem divQ_down {N c : Int} (h0 : 0 ≤ N) (h1 : N ≤ 1000000000000) (c1 : 1 ≤ c) (c2 : c ≤ 1000000) : (divQ N c 1).1 = N / c ∧ (divQ N c 1).2.2 = true := by
  have q : N / c ≤ N := Int.ediv_le_self c h0
  have f : floorQ N c = (N / c, N % c, true) := by unfold floorQ; rw [if_pos h0, if_pos (by omega)]
  have n0 := Int.ediv_nonneg h0 (show 0 ≤ c by omega)
  unfold divQ
  rw [f]
  simp [upQ, allIn]
  omega
theorem divQ_up {N c : Int} (h0 : 0 ≤ N) (h1 : N ≤ 1000000000000) (c1 : 1 ≤ c) (c2 : c ≤ 1000000) : (divQ N c 2).1 = (N + (c - 1)) / c ∧ (divQ N c 2).2.2 = true := by
  have q : N / c ≤ N := Int.ediv_le_self c h0
  have n0 := Int.ediv_nonneg h0 (show 0 ≤ c by omega)
  have r0 := Int.emod_nonneg N (show c ≠ 0 by omega)
  have r1 := Int.emod_lt_of_pos N (show 0 < c by omega)
  have e := Int.mul_ediv_add_emod N c
  have f : floorQ N c = (N / c, N % c, true) := by unfold floorQ; rw [if_pos h0, if_pos (by omega)]
  have g : (N + (c - 1)) / c = if 0 < N % c then N / c + 1 else N / c := by
    have e2 : N + (c - 1) = (N % c + (c - 1)) + c * (N / c) := by omega
    rw [e2, Int.add_mul_ediv_left _ _ (show c ≠ 0 by omega)]
    split
    · have : (N % c + (c - 1)) / c = 1 := by
        rw [show N % c + (c - 1) = (N % c - 1) + c * 1 by omega, Int.add_mul_ediv_left _ _ (show c ≠ 0 by omega), Int.ediv_eq_zero_of_lt (by omega) (by omega)]; rfl
      omega
    · have : (N % c + (c - 1)) / c = 0 := Int.ediv_eq_zero_of_lt (by omega) (by omega)
      omega
  unfold divQ
  rw [f, g]
  by_cases hr : 0 < N % c
  · simp [upQ, allIn, hr]
    omega
  · simp [upQ, allIn, hr]
    omega
/-- A range times a range, of numbers that aren't below 0. -/
theorem timesQ_is {al ah bl bh c : Int} (a0 : 0 ≤ al) (a1 : al ≤ ah) (a2 : ah ≤ 1000000) (b0 : 0 ≤ bl) (b1 : bl ≤ bh) (b2 : bh ≤ 1000000) (c1 : 1 ≤ c) (c2 : c ≤ 1000000) :
    timesQ al ah bl bh c = (al * bl / c, (ah * bh + (c - 1)) / c, 0) := by
  have m1 : al * bl ≤ al * bh := Int.mul_le_mul_of_nonneg_left b1 a0
  have m2 : al * bl ≤ ah * bl := Int.mul_le_mul_of_nonneg_right a1 b0
  have m3 : ah * bl ≤ ah * bh := Int.mul_le_mul_of_nonneg_left b1 (by omega)
  have m4 : al * bh ≤ ah * bh := Int.mul_le_mul_of_nonneg_right a1 (by omega)
  have m0 : 0 ≤ al * bl := Int.mul_nonneg a0 b0
  have m5 : ah * bh ≤ 1000000 * 1000000 := Int.mul_le_mul a2 b2 (by omega) (by omega)
  have q1 := divQ_down (N := al * bl) (c := c) (by omega) (by omega) c1 c2
  have q2 := divQ_down (N := al * bh) (c := c) (by omega) (by omega) c1 c2
  have q3 := divQ_down (N := ah * bl) (c := c) (by omega) (by omega) c1 c2
  have q4 := divQ_down (N := ah * bh) (c := c) (by omega) (by omega) c1 c2
  have u1 := divQ_up (N := al * bl) (c := c) (by omega) (by omega) c1 c2
  have u2 := divQ_up (N := al * bh) (c := c) (by omega) (by omega) c1 c2
  have u3 := divQ_up (N := ah * bl) (c := c) (by omega) (by omega) c1 c2
  have u4 := divQ_up (N := ah * bh) (c := c) (by omega) (by omega) c1 c2
  have d1 : al * bl / c ≤ al * bh / c := Int.ediv_le_ediv (by omega) m1
  have d2 : al * bl / c ≤ ah * bl / c := Int.ediv_le_ediv (by omega) m2
  have d3 : al * bl / c ≤ ah * bh / c := Int.ediv_le_ediv (by omega) (by omega)
  have v1 : (al * bl + (c - 1)) / c ≤ (ah * bh + (c - 1)) / c := Int.ediv_le_ediv (by omega) (by omega)
  have v2 : (al * bh + (c - 1)) / c ≤ (ah * bh + (c - 1)) / c := Int.ediv_le_ediv (by omega) (by omega)
  have v3 : (ah * bl + (c - 1)) / c ≤ (ah * bh + (c - 1)) / c := Int.ediv_le_ediv (by omega) (by omega)
  unfold timesQ
  rw [if_neg (by simp [rangeOk, allIn]; omega), if_neg (by simp [isDiv]; omega)]
  unfold gTimes gQuo gRes
  simp only [q1, q2, q3, q4, u1, u2, u3, u4]
  simp [gAdd]
  omega

/-- From which to which number of units can fall out in a step. -/
def fallL (h : Heat) (r : Nat) (x : Int) : Int := max 0 (x - h.d) * h.lo r / 10000
def fallH (h : Heat) (r : Nat) (x : Int) : Int := (max 0 (x - h.d) * h.hi r + 9999) / 10000
theorem fall_far {h : Heat} (k : heatOk h = true) {r : Nat} {x : Int} (x0 : 0 ≤ x) (x1 : x ≤ 1000000) : (0 ≤ fallL h r x ∧ fallL h r x ≤ fallH h r x) ∧ fallH h r x ≤ max 0 (x - h.d) ∧ fallH h r x ≤ x := by
  obtain ⟨⟨d0, d1⟩, f⟩ := heat_far k
  obtain ⟨l0, l1, l2⟩ := f r
  unfold fallL fallH
  generalize hE : max 0 (x - h.d) = E
  have e0 : 0 ≤ E := by omega
  have e1 : E ≤ x := by omega
  have m1 : E * h.lo r ≤ E * h.hi r := Int.mul_le_mul_of_nonneg_left l1 e0
  have m2 : E * h.hi r ≤ E * 10000 := Int.mul_le_mul_of_nonneg_left l2 e0
  have m0 : 0 ≤ E * h.lo r := Int.mul_nonneg e0 l0
  generalize E * h.lo r = p at *
  generalize E * h.hi r = q at *
  omega
theorem falls_is {h : Heat} (k : heatOk h = true) {r : Nat} {x : Int} (x0 : 0 ≤ x) (x1 : x ≤ 1000000) : timesQ (max 0 (x - h.d)) (max 0 (x - h.d)) (h.lo r) (h.hi r) 10000 = (fallL h r x, fallH h r x, 0) := by
  obtain ⟨⟨d0, d1⟩, f⟩ := heat_far k
  obtain ⟨l0, l1, l2⟩ := f r
  rw [timesQ_is (by omega) (by omega) (by omega) l0 l1 (by omega) (by omega) (by omega)]
  rfl
/-- What is left after some steps, if the most, or the least, falls out each time. -/
def keptS (much : Bool) (r : Nat) (x : Int) (h : Heat) : Int := x - if much then fallH h r x else fallL h r x
def keptQ (much : Bool) (r : Nat) (x : Int) (hs : List Heat) : Int := hs.foldl (keptS much r) x
theorem keptS_far {h : Heat} (k : heatOk h = true) {r : Nat} {x : Int} (much : Bool) (x0 : 0 ≤ x) (x1 : x ≤ 1000000) : 0 ≤ keptS much r x h ∧ keptS much r x h ≤ x := by
  have f := fall_far (r := r) k x0 x1
  unfold keptS
  split <;> omega
theorem keptQ_far {hs : List Heat} (k : hs.all heatOk = true) {r : Nat} {x : Int} (much : Bool) (x0 : 0 ≤ x) (x1 : x ≤ 1000000) : 0 ≤ keptQ much r x hs ∧ keptQ much r x hs ≤ x := by
  unfold keptQ
  induction hs generalizing x with
  | nil => exact ⟨x0, Int.le_refl _⟩
  | cons h hs ih =>
    simp only [List.all_cons, Bool.and_eq_true] at k
    have f := keptS_far (r := r) k.1 much x0 x1
    have g := ih k.2 f.1 (by omega)
    simp only [List.foldl_cons]
    omega
theorem keptQ_snoc (much : Bool) (r : Nat) (x : Int) {hs : List Heat} {k : Nat} (hk : k < hs.length) : keptQ much r x (hs.take (k + 1)) = keptS much r (keptQ much r x (hs.take k)) (hs.getD k default) := by
  unfold keptQ
  rw [List.take_succ_eq_append_getElem hk, List.foldl_append]
  simp [hk]
end Go.Proofs.YtimfbjnpalgmcaaGreat

namespace Go.Proofs.YtimfbjnpalgmcaaGreat
set_option linter.unusedSimpArgs false
set_option linter.unusedVariables false
open Go.RowKit

/-- A step in memory. -/
def HeatAt (W : World) (b o : Nat) (h : Heat) : Prop := W.cell? ⟨b, o, none⟩ = some (.int .i64 h.d) ∧ W.cell? ⟨b, o + 1, none⟩ = some (.int .i64 h.a0) ∧ W.cell? ⟨b, o + 2, none⟩ = some (.int .i64 h.b0) ∧ W.cell? ⟨b, o + 3, none⟩ = some (.int .i64 h.a1) ∧ W.cell? ⟨b, o + 4, none⟩ = some (.int .i64 h.b1) ∧ W.cell? ⟨b, o + 5, none⟩ = some (.int .i64 h.a2) ∧ W.cell? ⟨b, o + 6, none⟩ = some (.int .i64 h.b2) ∧ W.cell? ⟨b, o + 7, none⟩ = some (.int .i64 h.a3) ∧ W.cell? ⟨b, o + 8, none⟩ = some (.int .i64 h.b3) ∧ W.cell? ⟨b, o + 9, none⟩ = some (.int .i64 h.a4) ∧ W.cell? ⟨b, o + 10, none⟩ = some (.int .i64 h.b4)
theorem heatAt_later {w W : World} {b o : Nat} {h : Heat} (k : HeatAt w b o h) (hb : Below w.heap.size w W) : HeatAt W b o h := by
  obtain ⟨c0, c1, c2, c3, c4, c5, c6, c7, c8, c9, c10⟩ := k
  exact ⟨later hb c0, later hb c1, later hb c2, later hb c3, later hb c4, later hb c5, later hb c6, later hb c7, later hb c8, later hb c9, later hb c10⟩
def IsHeats (w : World) (a : Option Addr) (hs : List Heat) : Prop := hs = [] ∨ ∃ b off, a = some ⟨b, off, none⟩ ∧ ∀ i, i < hs.length → HeatAt w b (off + i * 11) (hs.getD i default)
theorem heats_later {w W : World} {a : Option Addr} {hs : List Heat} (h : IsHeats w a hs) (hb : Below w.heap.size w W) : IsHeats W a hs := by
  rcases h with h | ⟨b, off, e, h⟩
  · exact .inl h
  · exact .inr ⟨b, off, e, fun i hi => heatAt_later (h i hi) hb⟩
theorem pairs_heat {W : World} {q : Nat} {h : Heat} (k : HeatAt W q 0 h) : IsPairs W (some ⟨q, 1, none⟩) [(h.a0, h.b0), (h.a1, h.b1), (h.a2, h.b2), (h.a3, h.b3), (h.a4, h.b4)] := by
  obtain ⟨c0, c1, c2, c3, c4, c5, c6, c7, c8, c9, c10⟩ := k
  refine .inr ⟨_, _, rfl, fun i hi => ?_⟩
  simp at hi
  obtain rfl | rfl | rfl | rfl | rfl : i = 0 ∨ i = 1 ∨ i = 2 ∨ i = 3 ∨ i = 4 := by omega
  · exact ⟨c1, c2⟩
  · exact ⟨c3, c4⟩
  · exact ⟨c5, c6⟩
  · exact ⟨c7, c8⟩
  · exact ⟨c9, c10⟩
theorem heatAt_new (w : World) (h : Heat) (T : TypeId) : HeatAt (w.alloc (.cells #[.int .i64 h.d, .int .i64 h.a0, .int .i64 h.b0, .int .i64 h.a1, .int .i64 h.b1, .int .i64 h.a2, .int .i64 h.b2, .int .i64 h.a3, .int .i64 h.b3, .int .i64 h.a4, .int .i64 h.b4] T)) w.heap.size 0 h := by
  refine ⟨?_, ?_, ?_, ?_, ?_, ?_, ?_, ?_, ?_, ?_, ?_⟩ <;> exact (by simp [go_sem, World.cell?_alloc_past])
def heatV (h : Heat) : Value := .agg #[.int .i64 h.d, .int .i64 h.a0, .int .i64 h.b0, .int .i64 h.a1, .int .i64 h.b1, .int .i64 h.a2, .int .i64 h.b2, .int .i64 h.a3, .int .i64 h.b3, .int .i64 h.a4, .int .i64 h.b4]

set_option maxRecDepth 100000 in
set_option maxHeartbeats 3200000 in
theorem areHeats_any (hs : List Heat) (a : Option Addr) (cap : Nat) (w : World) (hl : hs.length ≤ 8796093022208) (h : IsHeats w a hs) :
    Calls Tryz.prog 81 #[.slice a hs.length cap] w fun e w' => e = .returned (.bool (hs.all heatOk)) ∧ Below w.heap.size w w' := by
  have HI := hide h
  clear h
  obtain ⟨u, hu⟩ : ∃ u, hs.all heatOk = u := ⟨_, rfl⟩
  have HU := hide hu
  rw [hu]
  clear hu
  go_enter Tryz.func81, Tryz.ntmps81
  go_wp2_with fail
  go_loopw [7] (fun i wr => ∃ k : Nat, k ≤ hs.length ∧ i = .int .i64 (k : Int) ∧ Hid ((hs.take k).all heatOk = true) ∧ Below w.heap.size w wr) (fun i _ => hs.length - (intOf i).toNat)
  case atStart => exact ⟨0, by omega, rfl, rfl, Below.refl _ _⟩
  case round =>
    obtain ⟨k, hk, rfl, hall, hbw⟩ := hrel
    by_cases hlt : k < hs.length
    · obtain ⟨b, off, rfl, c0, c1, c2, c3, c4, c5, c6, c7, c8, c9, c10⟩ : ∃ b off, a = some ⟨b, off, none⟩ ∧ HeatAt wr b (off + k * 11) (hs.getD k default) := by
        rcases heats_later HI.out hbw with h | ⟨b, off, e, h⟩
        · subst h; simp at hlt
        · exact ⟨b, off, e, h k hlt⟩
      have S1 := hide (all_step (f := heatOk) (d := default) hlt hall.out)
      have S2 := hide (all_stop (f := heatOk) (l := hs) (d := default) hlt)
      generalize hs.getD k default = g at *
      obtain ⟨d, a0, b0, a1, b1, a2, b2, a3, b3, a4, b4⟩ := g
      simp only at c0 c1 c2 c3 c4 c5 c6 c7 c8 c9 c10
      have k0 : 0 ≤ (k : Int) := by omega
      have k1 : (k : Int) < hs.length := by omega
      have AR := hide (fun (W : World) (n : Nat) (g : IsPairs W (some ⟨n, 1, none⟩) [(a0, b0), (a1, b1), (a2, b2), (a3, b3), (a4, b4)]) => (show Calls Tryz.prog 82 #[.int .i64 10000, .slice (some ⟨n, 1, none⟩) 5 5] W fun e w' => e = .returned (.bool (spdOk ⟨d, a0, b0, a1, b1, a2, b2, a3, b3, a4, b4⟩)) ∧ Below W.heap.size W w' from areRanges_any 10000 (some ⟨n, 1, none⟩) 5 [(a0, b0), (a1, b1), (a2, b2), (a3, b3), (a4, b4)] W (by simp) g))
      have G := hide (show heatOk ⟨d, a0, b0, a1, b1, a2, b2, a3, b3, a4, b4⟩ = (decide (0 ≤ d) && (decide (d ≤ 1000000) && spdOk ⟨d, a0, b0, a1, b1, a2, b2, a3, b3, a4, b4⟩)) from rfl)
      generalize spdOk ⟨d, a0, b0, a1, b1, a2, b2, a3, b3, a4, b4⟩ = v at *
      generalize heatOk ⟨d, a0, b0, a1, b1, a2, b2, a3, b3, a4, b4⟩ = hk' at *
      clear hall
      by_cases g1 : d < 0
      · have d1 : decide (d < 0) = true := decide_eq_true g1
        have E := hide (show u = false by rw [← HU.out]; exact S2.out (by rw [G.out, decide_eq_false (show ¬ 0 ≤ d by omega)]; rfl))
        clear g1
        go_wp2_with fail
        go_ret
        exact ⟨ret_bool E.out.symm, balloc hbw⟩
      · have d1 : decide (d < 0) = false := decide_eq_false g1
        by_cases g2 : 1000000 < d
        · have d2 : decide (1000000 < d) = true := decide_eq_true g2
          have E := hide (show u = false by rw [← HU.out]; exact S2.out (by rw [G.out, decide_eq_false (show ¬ d ≤ 1000000 by omega)]; simp))
          clear g1 g2
          go_wp2_with fail
          go_ret
          exact ⟨ret_bool E.out.symm, balloc hbw⟩
        · have d2 : decide (1000000 < d) = false := decide_eq_false g2
          have GG := hide (show hk' = v by rw [G.out, decide_eq_true (show 0 ≤ d by omega), decide_eq_true (show d ≤ 1000000 by omega)]; rfl)
          clear g1 g2
          go_wp2_with fail
          refine (AR.out _ _ (pairs_heat (heatAt_new wr ⟨d, a0, b0, a1, b1, a2, b2, a3, b3, a4, b4⟩ 114))).mono ?_
          rintro e w5 ⟨rfl, hb5⟩
          have B5 := hide (bnext (balloc hbw) hb5)
          clear hb5 c0 c1 c2 c3 c4 c5 c6 c7 c8 c9 c10
          cases v
          · have E := hide (show u = false by rw [← HU.out]; exact S2.out (by rw [GG.out]))
            go_wp2_with fail
            go_ret
            exact ⟨ret_bool E.out.symm, B5.out⟩
          · have E := hide (S1.out (by rw [GG.out]))
            go_wp2_with fail
            go_roundw
            case rel => exact ⟨k + 1, by omega, by go_num, E, B5.out⟩
            case measure => simp [intOf]; omega
    · have E := hide (show u = true by rw [← HU.out]; exact all_end hlt hall.out)
      go_wp2_with fail
      go_ret
      exact ⟨ret_bool E.out.symm, hbw⟩

theorem heatAt_at {W : World} {b j : Nat} {h : Heat} (k : HeatAt W b 0 h) (hj : j < 5) : W.cell? ⟨b, 1 + j * 2, none⟩ = some (.int .i64 (h.lo j)) ∧ W.cell? ⟨b, 1 + j * 2 + 1, none⟩ = some (.int .i64 (h.hi j)) := by
  obtain ⟨c0, c1, c2, c3, c4, c5, c6, c7, c8, c9, c10⟩ := k
  match j, hj with
  | 0, _ => exact ⟨c1, c2⟩
  | 1, _ => exact ⟨c3, c4⟩
  | 2, _ => exact ⟨c5, c6⟩
  | 3, _ => exact ⟨c7, c8⟩
  | 4, _ => exact ⟨c9, c10⟩
set_option maxRecDepth 100000 in
set_option maxHeartbeats 3200000 in
theorem falls_any (h : Heat) (x : Int) (r : Nat) (w : World) (hr : r < 5) (k : heatOk h = true) (x0 : 0 ≤ x) (x1 : x ≤ 1000000) :
    Calls Tryz.prog 127 #[heatV h, .int .i64 x, .int .i64 (r : Int)] w fun e w' => e = .returned (.agg #[.int .i64 (fallL h r x), .int .i64 (fallH h r x)]) ∧ Below w.heap.size w w' := by
  have d0 := (heat_far k).1.1
  have d9 := (heat_far k).1.2
  have TI := hide (fun (W : World) => (show Calls Tryz.prog 121 #[.agg #[.int .i64 (max 0 (x - h.d)), .int .i64 (max 0 (x - h.d))], .agg #[.int .i64 (h.lo r), .int .i64 (h.hi r)], .int .i64 10000] W fun e w' => e = .returned (.tuple #[.agg #[.int .i64 (fallL h r x), .int .i64 (fallH h r x)], .int .i64 0]) ∧ Below W.heap.size W w' by
    have g := times_any (max 0 (x - h.d)) (max 0 (x - h.d)) (h.lo r) (h.hi r) 10000 W
    rw [falls_is k x0 x1] at g
    exact g))
  have C := hide (fun (W : World) (b : Nat) (g : HeatAt W b 0 h) => heatAt_at g hr)
  have HN := hide (heatAt_new w h 114)
  have wd : wrap64 (x - h.d) = x - h.d := (IntWalk.i64_left _).symm.trans (IntWalk.i64_in _ (by omega))
  have mx : (if 0 < x - h.d then x - h.d else 0) = max 0 (x - h.d) := by split <;> omega
  have mx' : (if x - h.d < 0 then 0 else x - h.d) = max 0 (x - h.d) := by split <;> omega
  have r0 : 0 ≤ (r : Int) := by omega
  have r1 : (r : Int) < 5 := by omega
  obtain ⟨d, a0, b0, a1, b1, a2, b2, a3, b3, a4, b4⟩ := h
  unfold heatV
  simp only at wd mx mx' ⊢
  generalize hl : Heat.lo _ r = l at *
  generalize hh' : Heat.hi _ r = hh at *
  generalize fallL _ r x = fl at *
  generalize fallH _ r x = fh at *
  have HL := hide hl
  have HH := hide hh'
  clear hl hh'
  simp only at TI
  obtain ⟨D, hD⟩ : ∃ D, x - d = D := ⟨_, rfl⟩
  rw [hD] at wd mx mx' TI
  obtain ⟨M, hM⟩ : ∃ M, max 0 D = M := ⟨_, rfl⟩
  rw [hM] at mx mx' TI
  have HD := hide hD
  have wd' : wrap64 (x - d) = D := by rw [HD.out]; exact wd
  clear hM k d0 d9 x0 x1 wd hD
  go_enter Tryz.func127, Tryz.ntmps127
  go_upto_region 1 with fail
  obtain ⟨w0, hw0⟩ : ∃ x, x = (w.alloc (.cells #[.int .i64 d, .int .i64 a0, .int .i64 b0, .int .i64 a1, .int .i64 b1, .int .i64 a2, .int .i64 b2, .int .i64 a3, .int .i64 b3, .int .i64 a4, .int .i64 b4] 114)).alloc (.cells #[.int .i64 0, .int .i64 0] 23) := ⟨_, rfl⟩
  rw [← hw0]
  have H0 := hide (show HeatAt w0 w.heap.size 0 ⟨d, a0, b0, a1, b1, a2, b2, a3, b3, a4, b4⟩ by rw [hw0]; exact heatAt_later HN.out (balloc (Below.refl _ _)))
  have B0 := hide (show Below w.heap.size w w0 by rw [hw0]; exact balloc (balloc (Below.refl _ _)))
  have Z0 : w0.cell? ⟨w.heap.size + 1, 0, none⟩ = some (.int .i64 0) := by rw [hw0]; exact (by simp [go_sem, World.cell?_alloc_past])
  have Z1 : w0.cell? ⟨w.heap.size + 1, 1, none⟩ = some (.int .i64 0) := by rw [hw0]; exact (by simp [go_sem, World.cell?_alloc_past])
  have F0 : w0.frozen? ⟨w.heap.size + 1, 0, none⟩ = false := by rw [hw0]; simp [go_sem]
  have F1 : w0.frozen? ⟨w.heap.size + 1, 1, none⟩ = false := by rw [hw0]; simp [go_sem]
  clear hw0 HN
  obtain ⟨e1, e2⟩ := C.out _ _ H0.out
  have c0 := H0.out.1
  simp only at c0
  go_wp2_with fail
  refine (TI.out _).mono ?_
  rintro e w1 ⟨rfl, hb1⟩
  have z0 := later hb1 Z0
  have z1 := later hb1 Z1
  have f0 := free_later hb1 Z0 F0
  have f1 := free_later hb1 Z1 F1
  have z0' := fun o => later (balloc (o := o) (Below.refl _ _)) z0
  have z1' := fun o => later (balloc (o := o) (Below.refl _ _)) z1
  have f0' := fun o => free_later (balloc (o := o) (Below.refl _ _)) z0 f0
  have f1' := fun o => free_later (balloc (o := o) (Below.refl _ _)) z1 f1
  have B1 := hide (bnext B0.out hb1)
  have zl : w.heap.size + 1 < w1.heap.size := (show _ < _ from World.block_lt_of_cell? _ _ z0)
  clear e1 e2 c0 Z0 Z1 F0 F1 hb1 C H0 HL HH HD B0 TI
  go_wp2_with fail
  exact bodyPost_ret (v := .agg #[.int .i64 fl, .int .i64 fh]) (by simp [results, Tryz.results127, go_sem, zl, z0, z1]) rfl ⟨rfl, balloc (bset (bset B1.out (by simp) _) (by simp) _)⟩

/-- What a choice between the ends of a range returns. -/
theorem most_any (x y : Int) (w : World) : Calls Tryz.prog 128 #[.agg #[.int .i64 x, .int .i64 y]] w fun e w' => e = .returned (.int .i64 y) ∧ Below w.heap.size w w' := by
  go_enter Tryz.func128, Tryz.ntmps128
  go_wp2_with fail
  go_ret
  exact ⟨rfl, (by repeat (first | exact Below.refl _ _ | assumption | apply balloc | apply bdrew | (refine below_drewN ?_ _) | (refine bset ?_ (by first | (simp; done) | omega | (simp; omega)) _) | (refine bnext ?_ (by assumption))))⟩
theorem least_any (x y : Int) (w : World) : Calls Tryz.prog 129 #[.agg #[.int .i64 x, .int .i64 y]] w fun e w' => e = .returned (.int .i64 x) ∧ Below w.heap.size w w' := by
  go_enter Tryz.func129, Tryz.ntmps129
  go_wp2_with fail
  go_ret
  exact ⟨rfl, (by repeat (first | exact Below.refl _ _ | assumption | apply balloc | apply bdrew | (refine below_drewN ?_ _) | (refine bset ?_ (by first | (simp; done) | omega | (simp; omega)) _) | (refine bnext ?_ (by assumption))))⟩
/-- The choice of the most, or the least. -/
def chF (much : Bool) : Nat := if much then 128 else 129
theorem choice_any (much : Bool) (x y : Int) (w : World) : Calls Tryz.prog (chF much) #[.agg #[.int .i64 x, .int .i64 y]] w fun e w' => e = .returned (.int .i64 (if much then y else x)) ∧ Below w.heap.size w w' := by
  cases much
  · exact least_any x y w
  · exact most_any x y w
theorem choice_enters (much : Bool) (caps : Array Value) (W : World) : (callFunc (chF much) caps).run Tryz.prog W = .ok (.enter (chF much) caps) W := by
  cases much
  · exact enters_any Tryz.func129 (by kernel_rfl) rfl _ _
  · exact enters_any Tryz.func128 (by kernel_rfl) rfl _ _

set_option maxRecDepth 100000 in
set_option maxHeartbeats 3200000 in
theorem after_go (F : Nat) (much : Bool) (hs : List Heat) (x : Int) (r : Nat) (a : Option Addr) (cap : Nat) (p q s : Nat) (w : World) (hr : r < 5) (hl : hs.length ≤ 8796093022208) (h : Hid (IsHeats w a hs)) (hok : Hid (hs.all heatOk = true)) (x0 : 0 ≤ x) (x1 : x ≤ 1000000) (hF : Hid (chF much = F)) (h1 : w.cell? ⟨p, 0, none⟩ = some (.int .i64 x)) (h2 : w.cell? ⟨q, 0, none⟩ = some (.slice a hs.length cap)) (h3 : w.cell? ⟨s, 0, none⟩ = some (.int .i64 (r : Int))) :
    Calls Tryz.prog 126 #[.func (.func F) #[] #[], .pointer (some ⟨p, 0, none⟩), .pointer (some ⟨q, 0, none⟩), .pointer (some ⟨s, 0, none⟩)] w fun e w' => e = .returned (.int .i64 (keptQ much r x hs)) ∧ Below w.heap.size w w' := by
  have EN := hide (fun (caps : Array Value) (W : World) => (show (callFunc F caps).run Tryz.prog W = .ok (.enter F caps) W by rw [← hF.out]; exact choice_enters much caps W))
  have CH := hide (fun (y z : Int) (W : World) => (show Calls Tryz.prog F #[.agg #[.int .i64 y, .int .i64 z]] W fun e w' => e = .returned (.int .i64 (if much then z else y)) ∧ Below W.heap.size W w' by rw [← hF.out]; exact choice_any much y z W))
  have XB := hide (fun (k : Nat) => keptQ_far (hs := hs.take k) (r := r) (x := x) (by
    have := hok.out
    rw [List.all_eq_true] at this ⊢
    intro y hy
    exact this y (List.mem_of_mem_take hy)) much x0 x1)
  have H3 := hide h3
  have HX := hide (show keptQ much r x hs = keptQ much r x (hs.take hs.length) by rw [List.take_length])
  generalize keptQ much r x hs = R at *
  clear x0 h3
  go_enter Tryz.func126, Tryz.ntmps126
  go_wp2_with fail
  go_loopw [6, 12] (fun c i wr => ∃ k : Nat, k ≤ hs.length ∧ i = .int .i64 (k : Int) ∧ c = .int .i64 (keptQ much r x (hs.take k)) ∧ Below w.heap.size w wr) (fun _ i _ => hs.length - (intOf i).toNat)
  case atStart => exact ⟨0, by omega, rfl, rfl, Below.refl _ _⟩
  case round =>
    obtain ⟨k, hk, rfl, rfl, hb⟩ := hrel
    by_cases hlt : k < hs.length
    · obtain ⟨b, off, rfl, c0, c1, c2, c3, c4, c5, c6, c7, c8, c9, c10⟩ : ∃ b off, a = some ⟨b, off, none⟩ ∧ HeatAt wr b (off + k * 11) (hs.getD k default) := by
        rcases heats_later h.out hb with h | ⟨b, off, e, h⟩
        · subst h; simp at hlt
        · exact ⟨b, off, e, h k hlt⟩
      have gk : heatOk (hs.getD k default) = true := List.all_eq_true.1 hok.out _ (by simp [hlt])
      have SN := hide (keptQ_snoc much r x hlt)
      have xb := XB.out k
      have c11 := later hb H3.out
      have c12 := fun o => later (balloc (o := o) (Below.refl _ _)) c11
      generalize keptQ much r x (hs.take k) = X at *
      have FL := hide (fun W => falls_any (hs.getD k default) X r W hr gk xb.1 (by omega))
      have FF := hide (fall_far (r := r) gk xb.1 (show X ≤ 1000000 by omega))
      have SS := hide (show keptS much r X (hs.getD k default) = X - if much then fallH (hs.getD k default) r X else fallL (hs.getD k default) r X from rfl)
      rw [← SN.out] at SS
      generalize hYk : keptQ much r x (hs.take (k + 1)) = Y at *
      have HYk := hide hYk
      clear hYk
      generalize hs.getD k default = g at *
      clear gk SN
      obtain ⟨d, a0, b0, a1, b1, a2, b2, a3, b3, a4, b4⟩ := g
      unfold heatV at FL
      simp only at c0 c1 c2 c3 c4 c5 c6 c7 c8 c9 c10 FL
      generalize fallL _ r X = fl at *
      generalize fallH _ r X = fh at *
      obtain ⟨T, hT⟩ : ∃ T, (if much then fh else fl) = T := ⟨_, rfl⟩
      have TB : 0 ≤ T ∧ T ≤ X := by have := FF.out; rw [← hT]; split <;> omega
      have CT := hide (fun (W : World) => (show Calls Tryz.prog F #[.agg #[.int .i64 fl, .int .i64 fh]] W fun e w' => e = .returned (.int .i64 T) ∧ Below W.heap.size W w' by rw [← hT]; exact CH.out fl fh W))
      have HY := hide (show Y = X - T by rw [SS.out, hT])
      have wy : wrap64 (X - T) = Y := by rw [HY.out]; exact (IntWalk.i64_left _).symm.trans (IntWalk.i64_in _ (by omega))
      clear hT FF SS
      have k0 : 0 ≤ (k : Int) := by omega
      have k1 : (k : Int) < hs.length := by omega
      have en := EN.out
      go_wp2_with fail
      refine (FL.out _).mono ?_
      rintro e w4 ⟨rfl, hb4⟩
      have B4 := hide (bnext (balloc hb) hb4)
      clear c0 c1 c2 c3 c4 c5 c6 c7 c8 c9 c10 c11 c12 hb4
      go_wp2_with fail
      refine (CT.out _).mono ?_
      rintro e w5 ⟨rfl, hb5⟩
      have B5 := hide (bnext B4.out hb5)
      clear hb5
      go_wp2_with fail
      go_roundw
      case rel => exact ⟨k + 1, by omega, by go_num, by rw [HYk.out, HY.out], B5.out⟩
      case measure => simp [intOf]; omega
    · obtain rfl : k = hs.length := by omega
      go_wp2_with fail
      go_ret
      exact ⟨ret_eq1 HX.out.symm, hb⟩
theorem after_any (much : Bool) (hs : List Heat) (x : Int) (r : Nat) (a : Option Addr) (cap : Nat) (p q s : Nat) (w : World) (hr : r < 5) (hl : hs.length ≤ 8796093022208) (h : IsHeats w a hs) (hok : hs.all heatOk = true) (x0 : 0 ≤ x) (x1 : x ≤ 1000000) (h1 : w.cell? ⟨p, 0, none⟩ = some (.int .i64 x)) (h2 : w.cell? ⟨q, 0, none⟩ = some (.slice a hs.length cap)) (h3 : w.cell? ⟨s, 0, none⟩ = some (.int .i64 (r : Int))) :
    Calls Tryz.prog 126 #[.func (.func (chF much)) #[] #[], .pointer (some ⟨p, 0, none⟩), .pointer (some ⟨q, 0, none⟩), .pointer (some ⟨s, 0, none⟩)] w fun e w' => e = .returned (.int .i64 (keptQ much r x hs)) ∧ Below w.heap.size w w' :=
  after_go _ much hs x r a cap p q s w hr hl h hok x0 x1 rfl h1 h2 h3

set_option maxRecDepth 100000 in
set_option maxHeartbeats 3200000 in
theorem kept_any (hs : List Heat) (x : Int) (r : Nat) (a : Option Addr) (cap : Nat) (w : World) (hr : r < 5) (hl : hs.length ≤ 8796093022208) (h : IsHeats w a hs) (hok : hs.all heatOk = true) (x0 : 0 ≤ x) (x1 : x ≤ 1000000) :
    Calls Tryz.prog 85 #[.slice a hs.length cap, .int .i64 x, .int .i64 (r : Int)] w fun e w' => e = .returned (.agg #[.int .i64 (keptQ true r x hs), .int .i64 (keptQ false r x hs)]) ∧ Below w.heap.size w w' := by
  have AF := hide (fun (much : Bool) (W : World) (g : Below w.heap.size w W) (h1 : W.cell? ⟨w.heap.size + 1, 0, none⟩ = some (.int .i64 x)) (h2 : W.cell? ⟨w.heap.size, 0, none⟩ = some (.slice a hs.length cap)) (h3 : W.cell? ⟨w.heap.size + 1 + 1, 0, none⟩ = some (.int .i64 (r : Int))) => after_any much hs x r a cap (w.heap.size + 1) w.heap.size (w.heap.size + 1 + 1) W hr hl (heats_later h g) hok x0 x1 h1 h2 h3)
  have A1 := hide (fun W g h1 h2 h3 => (show Calls Tryz.prog 126 #[.func (.func 128) #[] #[], .pointer (some ⟨w.heap.size + 1, 0, none⟩), .pointer (some ⟨w.heap.size, 0, none⟩), .pointer (some ⟨w.heap.size + 1 + 1, 0, none⟩)] W fun e w' => e = .returned (.int .i64 (keptQ true r x hs)) ∧ Below W.heap.size W w' from AF.out true W g h1 h2 h3))
  have A2 := hide (fun W g h1 h2 h3 => (show Calls Tryz.prog 126 #[.func (.func 129) #[] #[], .pointer (some ⟨w.heap.size + 1, 0, none⟩), .pointer (some ⟨w.heap.size, 0, none⟩), .pointer (some ⟨w.heap.size + 1 + 1, 0, none⟩)] W fun e w' => e = .returned (.int .i64 (keptQ false r x hs)) ∧ Below W.heap.size W w' from AF.out false W g h1 h2 h3))
  have en := fun (caps : Array Value) (W : World) => (show (callFunc 126 caps).run Tryz.prog W = .ok (.enter 126 caps) W from enters_any Tryz.func126 (by kernel_rfl) rfl _ _)
  generalize keptQ true r x hs = P at *
  generalize keptQ false r x hs = Q at *
  have HL := hide hl
  clear AF h hok x0 x1 hr hl
  go_enter Tryz.func85, Tryz.ntmps85
  go_upto_region 2 with fail
  obtain ⟨w0, hw0⟩ : ∃ y, y = (((w.alloc (.cells #[.slice a hs.length cap] 75)).alloc (.cells #[.int .i64 x] 3)).alloc (.cells #[.int .i64 (r : Int)] 3)).alloc (.cells #[.int .i64 0, .int .i64 0] 23) := ⟨_, rfl⟩
  rw [← hw0]
  have B0 := hide (show Below w.heap.size w w0 by rw [hw0]; exact (by repeat (first | exact Below.refl _ _ | assumption | apply balloc | apply bdrew | (refine below_drewN ?_ _) | (refine bset ?_ (by first | (simp; done) | omega | (simp; omega)) _) | (refine bnext ?_ (by assumption)))))
  have Z0 : w0.cell? ⟨w.heap.size + 1 + 1 + 1, 0, none⟩ = some (.int .i64 0) := by rw [hw0]; exact (by simp [go_sem, World.cell?_alloc_past])
  have Z1 : w0.cell? ⟨w.heap.size + 1 + 1 + 1, 1, none⟩ = some (.int .i64 0) := by rw [hw0]; exact (by simp [go_sem, World.cell?_alloc_past])
  have F0 : w0.frozen? ⟨w.heap.size + 1 + 1 + 1, 0, none⟩ = false := by rw [hw0]; simp [go_sem]
  have F1 : w0.frozen? ⟨w.heap.size + 1 + 1 + 1, 1, none⟩ = false := by rw [hw0]; simp [go_sem]
  have C1 : w0.cell? ⟨w.heap.size + 1, 0, none⟩ = some (.int .i64 x) := by rw [hw0]; exact (by simp [go_sem, World.cell?_alloc_past])
  have C0 : w0.cell? ⟨w.heap.size, 0, none⟩ = some (.slice a hs.length cap) := by rw [hw0]; exact (by simp [go_sem, World.cell?_alloc_past])
  have C2 : w0.cell? ⟨w.heap.size + 1 + 1, 0, none⟩ = some (.int .i64 (r : Int)) := by rw [hw0]; exact (by simp [go_sem, World.cell?_alloc_past])
  clear hw0
  go_wp2_with fail
  refine (A1.out w0 B0.out C1 C0 C2).mono ?_
  rintro e w1 ⟨rfl, hb1⟩
  have z0 := later hb1 Z0
  have z1 := later hb1 Z1
  have f0 := free_later hb1 Z0 F0
  have f1 := free_later hb1 Z1 F1
  have d0 := later hb1 C0
  have d1 := later hb1 C1
  have d2 := later hb1 C2
  have B1 := hide (bnext B0.out hb1)
  clear Z0 Z1 F0 F1 C0 C1 C2 hb1
  go_wp2_with fail
  refine (A2.out w1 B1.out d1 d0 d2).mono ?_
  rintro e w2 ⟨rfl, hb2⟩
  have y0 := later hb2 z0
  have y1 := later hb2 z1
  have g0 := free_later hb2 z0 f0
  have g1 := free_later hb2 z1 f1
  have B2 := hide (bnext B1.out hb2)
  clear z0 z1 f0 f1 d0 d1 d2 hb2
  go_wp2_with fail
  exact bodyPost_ret (v := .agg #[.int .i64 P, .int .i64 Q]) (by simp [results, Tryz.results85, go_sem, y0, y1]) rfl ⟨rfl, bset (bset B2.out (by simp; omega) _) (by simp; omega) _⟩
end Go.Proofs.YtimfbjnpalgmcaaGreat
