/-
  The reference of chapter 5: heat treatments.
-/
import Derived.Test.YtlpdbjkpgfpjjaaGreatHeX
namespace Go.Proofs.YtlpdbjkpgfpjjaaGreat
set_option linter.unusedSimpArgs false
set_option linter.unusedVariables false
open Go.RowKit

theorem heatAt_spd {W : World} {b o : Nat} {h : Heat} (k : HeatAt W b o h) {r : Nat} (hr : r < 5) : W.cell? ⟨b, o + 1 + r * 2, none⟩ = some (.int .i64 (h.lo r)) ∧ W.cell? ⟨b, o + 1 + r * 2 + 1, none⟩ = some (.int .i64 (h.hi r)) := by
  obtain ⟨c0, c1, c2, c3, c4, c5, c6, c7, c8, c9, c10⟩ := k
  obtain rfl | rfl | rfl | rfl | rfl : r = 0 ∨ r = 1 ∨ r = 2 ∨ r = 3 ∨ r = 4 := by omega
  · exact ⟨c1, c2⟩
  · exact ⟨c3, c4⟩
  · exact ⟨c5, c6⟩
  · exact ⟨c7, c8⟩
  · exact ⟨c9, c10⟩
/-- What a step of the reference computes with. -/
def StepIs (much : Bool) (X X' d L H : Int) : Prop := ∃ A, IntKind.wrap .i64 (X - d) = A ∧ ((A ≤ 0 ∧ X' = X) ∨ (¬ A ≤ 0 ∧ ∃ P N Q, IntKind.wrap .i64 (A * (if much then H else L)) = P ∧ (if much then IntKind.wrap .i64 (P + 9999) = N else P = N) ∧ IntKind.wrap .i64 (N.tdiv 10000) = Q ∧ N / 10000 = Q ∧ (0 ≤ N ∧ N ≤ 1000000000000000) ∧ IntKind.wrap .i64 (X - Q) = X'))
theorem stepIs_kept {h : Heat} (k : heatOk h = true) {r : Nat} {x : Int} (much : Bool) (x0 : 0 ≤ x) (x1 : x ≤ 1000000) : StepIs much x (keptS much r x h) h.d (h.lo r) (h.hi r) := by
  obtain ⟨⟨d0, d1⟩, f⟩ := heat_far k
  obtain ⟨l0, l1, l2⟩ := f r
  refine ⟨x - h.d, IntWalk.i64_in _ (by omega), ?_⟩
  by_cases hz : x - h.d ≤ 0
  · left
    have e : max 0 (x - h.d) = 0 := by omega
    refine ⟨hz, ?_⟩
    unfold keptS fallL fallH
    rw [e]
    cases much <;> simp
  · right
    have e : max 0 (x - h.d) = x - h.d := by omega
    refine ⟨hz, ?_⟩
    unfold keptS fallL fallH
    rw [e]
    generalize hA : x - h.d = A at *
    have m1 : 0 ≤ A * h.lo r := Int.mul_nonneg (by omega) l0
    have m2 : A * h.lo r ≤ 1000000 * 10000 := Int.mul_le_mul (by omega) (by omega) l0 (by omega)
    have m3 : 0 ≤ A * h.hi r := Int.mul_nonneg (by omega) (by omega)
    have m4 : A * h.hi r ≤ 1000000 * 10000 := Int.mul_le_mul (by omega) (by omega) (by omega) (by omega)
    cases much with
    | true =>
      refine ⟨A * h.hi r, A * h.hi r + 9999, (A * h.hi r + 9999) / 10000, IntWalk.i64_in _ (by simp only [if_true]; omega), IntWalk.i64_in _ (by omega), IntWalk.i64_quo _ _ (by omega), rfl, by omega, ?_⟩
      simp only [if_true]
      exact IntWalk.i64_in _ (by omega)
    | false =>
      refine ⟨A * h.lo r, A * h.lo r, A * h.lo r / 10000, IntWalk.i64_in _ (by simp only [Bool.false_eq_true, if_false]; omega), rfl, IntWalk.i64_quo _ _ (by omega), rfl, by omega, ?_⟩
      simp only [Bool.false_eq_true, if_false]
      exact IntWalk.i64_in _ (by omega)
set_option maxRecDepth 100000 in
set_option maxHeartbeats 3200000 in
theorem refAfter_go (hs : List Heat) (x : Int) (r : Nat) (much : Bool) (a : Option Addr) (cap : Nat) (X : Nat → Int) (w : World) (hr : r < 5) (hl : hs.length ≤ 8796093022208) (h : Hid (IsHeats w a hs)) (hX0 : Hid (X 0 = x)) (hX : Hid (∀ k, k < hs.length → StepIs much (X k) (X (k + 1)) (hs.getD k default).d ((hs.getD k default).lo r) ((hs.getD k default).hi r))) :
    Calls Tryz.prog 88 #[.slice a hs.length cap, .int .i64 x, .int .i64 (r : Int), .bool much] w fun e w' => e = .returned (.int .i64 (X hs.length)) ∧ Below w.heap.size w w' := by
  obtain ⟨n, hn⟩ : ∃ n, hs.length = n := ⟨_, rfl⟩
  have HN := hide hn
  rw [hn]
  rw [hn] at hl
  clear hn
  have r0 : 0 ≤ (r : Int) := by omega
  have r5 : (r : Int) < 5 := by omega
  go_enter Tryz.func88, Tryz.ntmps88
  go_wp2_with fail
  go_loopw [1, 9] (fun o i wr => ∃ k : Nat, k ≤ n ∧ i = .int .i64 (k : Int) ∧ o = .int .i64 (X k) ∧ Below w.heap.size w wr) (fun _ i _ => n - (intOf i).toNat)
  case atStart => exact ⟨0, by omega, rfl, by rw [hX0.out], Below.refl _ _⟩
  case round =>
    obtain ⟨k, hk, rfl, rfl, hb⟩ := hrel
    by_cases hlt : k < n
    · obtain ⟨b, off, rfl, hH⟩ : ∃ b off, a = some ⟨b, off, none⟩ ∧ HeatAt wr b (off + k * 11) (hs.getD k default) := by
        have hlt' : k < hs.length := by rw [HN.out]; exact hlt
        rcases heats_later h.out hb with h | ⟨b, off, e, h⟩
        · subst h; simp at hlt'
        · exact ⟨b, off, e, h k hlt'⟩
      have c0 := hH.1
      obtain ⟨c1, c2⟩ := heatAt_spd hH hr
      obtain ⟨A, hA, hS⟩ := hX.out k (by rw [HN.out]; exact hlt)
      generalize (hs.getD k default).d = d at *
      generalize (hs.getD k default).lo r = L at *
      generalize (hs.getD k default).hi r = H at *
      have HS := hide hS
      have B3 := hide hb
      have k0 : 0 ≤ (k : Int) := by omega
      have k1 : (k : Int) < (n : Int) := by omega
      clear hS hH hb
      obtain ⟨x', hx'⟩ : ∃ z, X (k + 1) = z := ⟨_, rfl⟩
      obtain ⟨xk, hxk⟩ : ∃ z, X k = z := ⟨_, rfl⟩
      rw [hx', hxk] at HS
      rw [hxk] at hA
      rw [hxk]
      have HX' := hide hx'
      clear hx' hxk
      by_cases hz : A ≤ 0
      · obtain rfl : x' = xk := by rcases HS.out with ⟨_, e⟩ | ⟨e, _⟩; exact e; exact absurd hz e
        go_wp2_with fail
        go_roundw
        case rel => exact ⟨k + 1, by omega, by go_num, by rw [HX'.out], B3.out⟩
        case measure => simp [intOf]; omega
      · obtain ⟨P, N, Q, hP, hN, hq1, hq2, ⟨hn0, hn1⟩, hQ⟩ : ∃ P N Q, IntKind.wrap .i64 (A * (if much then H else L)) = P ∧ (if much then IntKind.wrap .i64 (P + 9999) = N else P = N) ∧ IntKind.wrap .i64 (N.tdiv 10000) = Q ∧ N / 10000 = Q ∧ (0 ≤ N ∧ N ≤ 1000000000000000) ∧ IntKind.wrap .i64 (xk - Q) = x' := by
          rcases HS.out with ⟨e, _⟩ | ⟨_, e⟩
          · exact absurd e hz
          · exact e
        clear HS
        cases much with
        | true =>
          simp only [if_true] at hP hN
          go_wp2_with fail
          go_roundw
          case rel => exact ⟨k + 1, by omega, by go_num, by rw [HX'.out], balloc B3.out⟩
          case measure => simp [intOf]; omega
        | false =>
          simp only [Bool.false_eq_true, if_false] at hP hN
          subst hN
          go_wp2_with fail
          go_roundw
          case rel => exact ⟨k + 1, by omega, by go_num, by rw [HX'.out], balloc B3.out⟩
          case measure => simp [intOf]; omega
    · obtain rfl : k = n := by omega
      go_wp2_with fail
      go_ret
      exact ⟨rfl, hb⟩
theorem refAfter_any (hs : List Heat) (x : Int) (r : Nat) (much : Bool) (a : Option Addr) (cap : Nat) (w : World) (hr : r < 5) (hl : hs.length ≤ 8796093022208) (h : IsHeats w a hs) (ok : hs.all heatOk = true) (x0 : 0 ≤ x) (x1 : x ≤ 1000000) :
    Calls Tryz.prog 88 #[.slice a hs.length cap, .int .i64 x, .int .i64 (r : Int), .bool much] w fun e w' => e = .returned (.int .i64 (keptQ much r x hs)) ∧ Below w.heap.size w w' := by
  have c := refAfter_go hs x r much a cap (fun k => keptQ much r x (hs.take k)) w hr hl h rfl (hide fun k hk => by
    have f := keptQ_far (all_take ok k) (r := r) much x0 x1
    simp only [keptQ_snoc much r x hk]
    exact stepIs_kept (all_getD ok hk) much f.1 (by omega))
  simpa using c
/-- Speeds below the k-th one are well. -/
theorem spd_all {h : Heat} (k : ∀ j, j < 5 → spN 0 10000 (h.lo j, h.hi j) = true) : spdOk h = true := by
  have k0 := k 0 (by omega)
  have k1 := k 1 (by omega)
  have k2 := k 2 (by omega)
  have k3 := k 3 (by omega)
  have k4 := k 4 (by omega)
  simp only [Heat.lo, Heat.hi] at k0 k1 k2 k3 k4
  simp only [spdOk, List.all_cons, List.all_nil, Bool.and_true, Bool.and_eq_true]
  exact ⟨k0, k1, k2, k3, k4⟩
theorem spd_none {h : Heat} {j : Nat} (hj : j < 5) (k : spN 0 10000 (h.lo j, h.hi j) = false) : spdOk h = false := by
  cases e : spdOk h with
  | false => rfl
  | true =>
    simp only [spdOk, List.all_cons, List.all_nil, Bool.and_true, Bool.and_eq_true] at e
    obtain ⟨e0, e1, e2, e3, e4⟩ := e
    rw [← k]
    obtain rfl | rfl | rfl | rfl | rfl : j = 0 ∨ j = 1 ∨ j = 2 ∨ j = 3 ∨ j = 4 := by omega
    · exact e0.symm
    · exact e1.symm
    · exact e2.symm
    · exact e3.symm
    · exact e4.symm
set_option maxRecDepth 100000 in
set_option maxHeartbeats 3200000 in
theorem refHeat_go (hs : List Heat) (x y s : Int) (a : Option Addr) (cap : Nat) (E : Int) (w : World) (hl : hs.length ≤ 8796093022208) (h : Hid (IsHeats w a hs))
    (h5 : Hid (30 < (hs.length : Int) → E = 5)) (h2 : Hid (∀ k, ¬ 30 < (hs.length : Int) → k < hs.length → heatOk (hs.getD k default) = false → E = 2)) (he : Hid (¬ 30 < (hs.length : Int) → (∀ k, k < hs.length → heatOk (hs.getD k default) = true) → E = if spN 0 1000000 (x, y) && decide (s < 32) then (if s = 0 then 7 else 0) else 2)) (s0 : 0 ≤ s) :
    Calls Tryz.prog 87 #[.slice a hs.length cap, .agg #[.int .i64 x, .int .i64 y], .int .u8 s] w fun e w' => e = .returned (.int .i64 E) ∧ Below w.heap.size w w' := by
  obtain ⟨n, hn⟩ : ∃ n, hs.length = n := ⟨_, rfl⟩
  have HN := hide hn
  rw [hn] at hl h5 h2 he ⊢
  clear hn
  by_cases h30 : 30 < (n : Int)
  · obtain rfl : E = 5 := h5.out h30
    clear h5 h2 he
    go_enter Tryz.func87, Tryz.ntmps87
    go_wp2_with fail
    go_ret
    exact ⟨rfl, (by repeat (first | exact Below.refl _ _ | assumption | apply balloc | apply bdrew | (refine below_drewN ?_ _) | (refine bset ?_ (by first | (simp; done) | omega | (simp; omega)) _) | (refine bnext ?_ (by assumption))))⟩
  · have H2 := hide (fun k => h2.out k h30)
    have HE := hide (he.out h30)
    clear h5 h2 he
    have R1 := hide (show RgAt (w.alloc (.cells #[.int .i64 x, .int .i64 y] 23)) w.heap.size x y from ⟨(by simp [go_sem, World.cell?_alloc_past]), (by simp [go_sem, World.cell?_alloc_past])⟩)
    go_enter Tryz.func87, Tryz.ntmps87
    go_wp2_with fail
    obtain ⟨w1, hw1⟩ : ∃ z, z = w.alloc (.cells #[.int .i64 x, .int .i64 y] 23) := ⟨_, rfl⟩
    have R2 := hide (show RgAt w1 w.heap.size x y by rw [hw1]; exact R1.out)
    have B1 := hide (show Below w.heap.size w w1 by rw [hw1]; exact (by repeat (first | exact Below.refl _ _ | assumption | apply balloc | apply bdrew | (refine below_drewN ?_ _) | (refine bset ?_ (by first | (simp; done) | omega | (simp; omega)) _) | (refine bnext ?_ (by assumption)))))
    have I1 := hide (show IsHeats w1 a hs by rw [hw1]; exact heats_later h.out (balloc (Below.refl _ _)))
    rw [← hw1]
    clear hw1 R1 h
    go_loopw [7] (fun i wr => ∃ k : Nat, k ≤ n ∧ i = .int .i64 (k : Int) ∧ Hid (∀ j, j < k → heatOk (hs.getD j default) = true) ∧ Below w1.heap.size w1 wr) (fun i _ => n - (intOf i).toNat)
    case atStart => exact ⟨0, by omega, rfl, hide (fun j hj => by omega), Below.refl _ _⟩
    case round =>
      obtain ⟨k, hk, rfl, hall, hb⟩ := hrel
      by_cases hlt : k < n
      · as_aux_lemma =>
        obtain ⟨b, off, rfl, hH⟩ : ∃ b off, a = some ⟨b, off, none⟩ ∧ HeatAt wr b (off + k * 11) (hs.getD k default) := by
          have hlt' : k < hs.length := by rw [HN.out]; exact hlt
          rcases heats_later I1.out hb with h | ⟨b, off, e, h⟩
          · subst h; simp at hlt'
          · exact ⟨b, off, e, h k hlt'⟩
        have HH := hide hH
        have HK := hide (show heatOk (hs.getD k default) = (decide (0 ≤ (hs.getD k default).d) && (decide ((hs.getD k default).d ≤ 1000000) && spdOk (hs.getD k default))) from rfl)
        have H2k := hide (H2.out k hlt)
        have NX := hide (fun (e : heatOk (hs.getD k default) = true) => (show ∀ j, j < k + 1 → heatOk (hs.getD j default) = true from fun j hj => by
          by_cases ej : j = k
          · rw [ej]; exact e
          · exact hall.out j (by omega)))
        have SA := hide (spd_all (h := hs.getD k default))
        have SN := hide (fun j hj => spd_none (h := hs.getD k default) (j := j) hj)
        have BB := hide (bnext B1.out hb)
        have B3 := hide hb
        have k0 : 0 ≤ (k : Int) := by omega
        have k1 : (k : Int) < (n : Int) := by omega
        clear hH hb hall H2
        generalize hs.getD k default = g at *
        go_wp2_with fail
        go_loopw [8] (fun i wq => ∃ j : Nat, j ≤ 5 ∧ i = .int .i64 (j : Int) ∧ Hid (∀ t, t < j → spN 0 10000 (g.lo t, g.hi t) = true) ∧ Below wr.heap.size wr wq) (fun i _ => 5 - (intOf i).toNat)
        case atStart => exact ⟨0, by omega, rfl, hide (fun j hj => by omega), Below.refl _ _⟩
        case round =>
          obtain ⟨j, hj, rfl, hal, hbq⟩ := hrel
          by_cases hjt : j < 5
          · obtain ⟨c1, c2⟩ := heatAt_spd (heatAt_later HH.out hbq) hjt
            have j0 : 0 ≤ (j : Int) := by omega
            have j1 : (j : Int) < 5 := by omega
            have SP := hide (fun W => refSpan_any (g.lo j) (g.hi j) 0 10000 W)
            have SNj := hide (SN.out j hjt)
            have NJ := hide (fun (e : spN 0 10000 (g.lo j, g.hi j) = true) => (show ∀ t, t < j + 1 → spN 0 10000 (g.lo t, g.hi t) = true from fun t ht => by
              by_cases ej : t = j
              · rw [ej]; exact e
              · exact hal.out t (by omega)))
            have BQ := hide hbq
            clear hal hbq
            generalize spN 0 10000 (g.lo j, g.hi j) = sp at *
            generalize g.lo j = L at *
            generalize g.hi j = H at *
            go_wp2_with fail
            refine (SP.out _).mono ?_
            rintro e w4 ⟨rfl, hb4⟩
            have B4 := hide (bnext BQ.out hb4)
            clear hb4 BQ c1 c2
            cases sp with
            | false =>
              have E2 := hide (H2k.out (by rw [HK.out, SNj.out rfl]; simp))
              go_wp2_with fail
              go_ret
              obtain rfl := E2.out
              exact ⟨rfl, bnext BB.out B4.out⟩
            | true =>
              have NJ' := hide (NJ.out rfl)
              go_wp2_with fail
              go_roundw
              case rel => exact ⟨j + 1, by omega, by go_num, NJ', B4.out⟩
              case measure => simp [intOf]; omega
          · obtain rfl : j = 5 := by omega
            have S1 := SA.out hal.out
            have HK' := hide (show heatOk g = (decide (0 ≤ g.d) && decide (g.d ≤ 1000000)) by rw [HK.out, S1, Bool.and_true])
            have c0 := (heatAt_later HH.out hbq).1
            have B4 := hide (bnext BB.out hbq)
            have B5 := hide (bnext B3.out hbq)
            clear hbq SA SN hal HK S1 HH
            generalize heatOk g = ok at *
            generalize g.d = d at *
            by_cases g1 : d < 0
            · have d1 : decide (d < 0) = true := decide_eq_true g1
              have E2 := hide (H2k.out (by rw [HK'.out, decide_eq_false (show ¬ 0 ≤ d by omega)]; rfl))
              clear g1
              go_wp2_with fail
              go_ret
              obtain rfl := E2.out
              exact ⟨rfl, B4.out⟩
            · have d1 : decide (d < 0) = false := decide_eq_false g1
              by_cases g2 : 1000000 < d
              · have d2 : decide (1000000 < d) = true := decide_eq_true g2
                have E2 := hide (H2k.out (by rw [HK'.out, decide_eq_false (show ¬ d ≤ 1000000 by omega)]; simp))
                clear g1 g2
                go_wp2_with fail
                go_ret
                obtain rfl := E2.out
                exact ⟨rfl, B4.out⟩
              · have d2 : decide (1000000 < d) = false := decide_eq_false g2
                have NX' := hide (NX.out (by rw [HK'.out, decide_eq_true (show 0 ≤ d by omega), decide_eq_true (show d ≤ 1000000 by omega)]; rfl))
                clear g1 g2
                go_wp2_with fail
                go_roundw
                case rel => exact ⟨k + 1, by omega, by go_num, NX', B5.out⟩
                case measure => simp [intOf]; omega
      · as_aux_lemma =>
        obtain rfl : k = n := by omega
        have HE' := hide (HE.out hall.out)
        have B3 := hide (bnext B1.out hb)
        have SP := hide (fun W => refSpan_any x y 0 1000000 W)
        have ⟨q1, q2⟩ := rgAt_later R2.out hb
        generalize spN 0 1000000 (x, y) = sp at *
        clear hb HE H2 hall
        go_wp2_with fail
        refine (SP.out _).mono ?_
        rintro e w4 ⟨rfl, hb4⟩
        have B4 := hide (bnext B3.out hb4)
        clear hb4 B3 q1 q2
        cases sp with
        | false =>
          have E2 := hide (show E = 2 from HE'.out)
          go_wp2_with fail
          go_ret
          obtain rfl := E2.out
          exact ⟨rfl, B4.out⟩
        | true =>
          by_cases g1 : s < 32
          · have d1 : decide (31 < s) = false := decide_eq_false (by omega)
            by_cases g2 : s = 0
            · subst g2
              have E2 := hide (show E = 7 from HE'.out)
              go_wp2_with fail
              go_ret
              obtain rfl := E2.out
              exact ⟨rfl, B4.out⟩
            · have d2 : (s == 0) = false := by simpa using g2
              have E2 := hide (show E = 0 by rw [HE'.out, decide_eq_true g1, if_neg g2]; rfl)
              clear g2
              go_wp2_with fail
              go_ret
              obtain rfl := E2.out
              exact ⟨rfl, B4.out⟩
          · have d1 : decide (31 < s) = true := decide_eq_true (by omega)
            have E2 := hide (show E = 2 by rw [HE'.out, decide_eq_false g1]; rfl)
            go_wp2_with fail
            go_ret
            obtain rfl := E2.out
            exact ⟨rfl, B4.out⟩
theorem refHeat_any (hs : List Heat) (x y s : Int) (a : Option Addr) (cap : Nat) (w : World) (hl : hs.length ≤ 8796093022208) (h : IsHeats w a hs) (s0 : 0 ≤ s) :
    Calls Tryz.prog 87 #[.slice a hs.length cap, .agg #[.int .i64 x, .int .i64 y], .int .u8 s] w fun e w' => e = .returned (.int .i64 (annE hs x y s)) ∧ Below w.heap.size w w' := by
  refine refHeat_go hs x y s a cap _ w hl h (hide fun h => ?_) (hide fun k h hk hf => ?_) (hide fun h hk => ?_) s0
  · unfold annE; rw [decide_eq_false (by omega)]; rfl
  · have : hs.all heatOk = false := by
      cases e : hs.all heatOk with
      | false => rfl
      | true => rw [all_getD e hk] at hf; cases hf
    unfold annE; rw [decide_eq_true (by omega), this]; rfl
  · have ok : hs.all heatOk = true := by
      rw [List.all_eq_true]
      intro g hg
      obtain ⟨i, hi, e⟩ := List.getElem_of_mem hg
      have := hk i hi
      rw [List.getD_eq_getElem?_getD, List.getElem?_eq_getElem hi, Option.getD_some, e] at this
      exact this
    unfold annE
    rw [decide_eq_true (by omega), ok, show spN 0 1000000 (x, y) = rgOk 1000000 (x, y) from rfl]
    simp only [Bool.true_and, if_true]
    by_cases hs0 : s = 0
    · subst hs0; rfl
    · have : (s != 0) = true := by simpa using hs0
      rw [this, if_neg hs0]; rfl
end Go.Proofs.YtlpdbjkpgfpjjaaGreat
