/-
  The statements' own helpers of chapter 5: a number of a range, the region of a place.
-/
import Derived.Test.YtlpdbjkpgfpjjaaGreatDgC
namespace Go.Proofs.YtlpdbjkpgfpjjaaGreat
set_option linter.unusedSimpArgs false
set_option linter.unusedVariables false
open Go.RowKit

/-- A number of a range. -/
def plN (x y b : Int) : Int := if x < y ∧ 0 ≤ x ∧ y ≤ 1000000000000000 then x + b % (y - x + 1) else x
theorem plN_in {x y : Int} (b : Int) (h : x ≤ y) : x ≤ plN x y b ∧ plN x y b ≤ y := by
  unfold plN
  split
  · have := Int.emod_nonneg b (show y - x + 1 ≠ 0 by omega)
    have := Int.emod_lt_of_pos b (show 0 < y - x + 1 by omega)
    omega
  · omega
set_option maxHeartbeats 1600000 in
theorem place_any (x y b : Int) (w : World) (hx : -9223372036854775808 ≤ x ∧ x ≤ 9223372036854775807) (b0 : 0 ≤ b) (b1 : b ≤ 65535) :
    Calls Tryz.prog 42 #[.agg #[.int .i64 x, .int .i64 y], .int .u16 b] w fun e w' => e = .returned (.int .i64 (plN x y b)) ∧ Below w.heap.size w w' := by
  by_cases h1 : x < y
  · have d1 : decide (y ≤ x) = false := decide_eq_false (by omega)
    by_cases h2 : 0 ≤ x
    · have d2 : decide (x < 0) = false := decide_eq_false (by omega)
      by_cases h3 : y ≤ 1000000000000000
      · have d3 : decide (1000000000000000 < y) = false := decide_eq_false (by omega)
        obtain ⟨n, hn⟩ : ∃ n, y - x + 1 = n := ⟨_, rfl⟩
        have E : plN x y b = x + b % n := by unfold plN; rw [if_pos ⟨h1, h2, h3⟩, hn]
        have t : b.tmod n = b % n := Int.tmod_eq_emod_of_nonneg b0
        have m0 := Int.emod_nonneg b (show n ≠ 0 by omega)
        have m1 := Int.emod_lt_of_pos b (show 0 < n by omega)
        have w1 : IntKind.i64.wrap (y - x) = y - x := IntWalk.i64_in _ (by omega)
        have w2 : IntKind.i64.wrap n = n := IntWalk.i64_in _ (by omega)
        have w4 : IntKind.i64.wrap b = b := IntWalk.i64_in _ (by omega)
        have n0 : ¬ n = 0 := by omega
        generalize b % n = r at *
        have w3 : IntKind.i64.wrap (x + r) = x + r := IntWalk.i64_in _ (by omega)
        rw [E]
        clear h1 h2 h3 E m0 m1
        go_enter Tryz.func42, Tryz.ntmps42
        go_wp2_with fail
        go_quiet (fail)
        go_wp2_with fail
        go_ret
        exact ⟨by simp [go_sem], (by repeat (first | exact Below.refl _ _ | assumption | apply balloc | apply bdrew | (refine below_drewN ?_ _) | (refine bset ?_ (by first | (simp; done) | omega | (simp; omega)) _) | (refine bnext ?_ (by assumption))))⟩
      · have d3 : decide (1000000000000000 < y) = true := decide_eq_true (by omega)
        have E : plN x y b = x := by unfold plN; rw [if_neg (by omega)]
        rw [E]
        clear h1 h2 h3 E
        go_enter Tryz.func42, Tryz.ntmps42
        go_wp2_with fail
        go_ret
        exact ⟨rfl, (by repeat (first | exact Below.refl _ _ | assumption | apply balloc | apply bdrew | (refine below_drewN ?_ _) | (refine bset ?_ (by first | (simp; done) | omega | (simp; omega)) _) | (refine bnext ?_ (by assumption))))⟩
    · have d2 : decide (x < 0) = true := decide_eq_true (by omega)
      have E : plN x y b = x := by unfold plN; rw [if_neg (by omega)]
      rw [E]
      clear h1 h2 E
      go_enter Tryz.func42, Tryz.ntmps42
      go_wp2_with fail
      go_ret
      exact ⟨rfl, (by repeat (first | exact Below.refl _ _ | assumption | apply balloc | apply bdrew | (refine below_drewN ?_ _) | (refine bset ?_ (by first | (simp; done) | omega | (simp; omega)) _) | (refine bnext ?_ (by assumption))))⟩
  · have d1 : decide (y ≤ x) = true := decide_eq_true (by omega)
    have E : plN x y b = x := by unfold plN; rw [if_neg (by omega)]
    rw [E]
    clear h1 E
    go_enter Tryz.func42, Tryz.ntmps42
    go_wp2_with fail
    go_ret
    exact ⟨rfl, (by repeat (first | exact Below.refl _ _ | assumption | apply balloc | apply bdrew | (refine below_drewN ?_ _) | (refine bset ?_ (by first | (simp; done) | omega | (simp; omega)) _) | (refine bnext ?_ (by assumption))))⟩
/-- The cells of a model's borders, by number. -/
theorem mdlAt_lo {W : World} {q : Nat} {m : Mdl} (h : MdlAt W q m) (k : Nat) (hk : k < 4) : W.cell? ⟨q, 1 + k * 2, none⟩ = some (.int .i64 (m.lo k)) := by
  have ⟨⟨⟨⟨m1, m2⟩, m3⟩, m4, m5⟩, ⟨m6, m7⟩, m8, m9⟩ := h
  rcases (show k = 0 ∨ k = 1 ∨ k = 2 ∨ k = 3 by omega) with rfl | rfl | rfl | rfl <;> assumption
theorem mdlAt_hi {W : World} {q : Nat} {m : Mdl} (h : MdlAt W q m) (k : Nat) (hk : k < 4) : W.cell? ⟨q, 1 + k * 2 + 1, none⟩ = some (.int .i64 (m.hi k)) := by
  have ⟨⟨⟨⟨m1, m2⟩, m3⟩, m4, m5⟩, ⟨m6, m7⟩, m8, m9⟩ := h
  rcases (show k = 0 ∨ k = 1 ∨ k = 2 ∨ k = 3 by omega) with rfl | rfl | rfl | rfl <;> assumption
/-- The true borders, each at least the one before it; how many of them the ratio is above. -/
structure Tru where
  t0 : Int
  t1 : Int
  t2 : Int
  t3 : Int
  r : Int
  g : Int
def Tru.b (t : Tru) : Nat → Int
  | 0 => t.t0
  | 1 => t.t1
  | 2 => t.t2
  | _ => t.t3
def TruOk (t : Tru) : Prop := (∀ k, 0 ≤ t.b k ∧ t.b k ≤ 65535) ∧ (0 ≤ t.r ∧ t.r ≤ 65535) ∧ (0 ≤ t.g ∧ t.g ≤ 65535)
def brT (m : Mdl) (t : Tru) : Nat → Int
  | 0 => 0
  | k + 1 => max (brT m t k) (plN (m.lo k) (m.hi k) (t.b k))
def inT (m : Mdl) (t : Tru) (v g : Int) : Nat → Nat
  | 0 => 0
  | k + 1 => inT m t v g k + if brT m t (k + 1) * g < v * m.s then 1 else 0
theorem brT_far {m : Mdl} (h : MdlOk m) (t : Tru) : ∀ k, 0 ≤ brT m t k ∧ brT m t k ≤ 1000000 := by
  intro k
  induction k with
  | zero => simp [brT]
  | succ k ih =>
    have a := plN_in (x := m.lo k) (y := m.hi k) (t.b k) (h.lohi k)
    have := h.lo0 k
    have := h.hi0 k
    unfold brT
    omega
theorem inT_le (m : Mdl) (t : Tru) (v g : Int) : ∀ k, inT m t v g k ≤ k := by
  intro k
  induction k with
  | zero => simp [inT]
  | succ k ih => unfold inT; split <;> omega
def truV (t : Tru) : Value := .agg #[.int .u16 t.t0, .int .u16 t.t1, .int .u16 t.t2, .int .u16 t.t3, .int .u16 t.r, .int .u16 t.g]
theorem truAt_new (w : World) (t : Tru) (T : TypeId) (k : Nat) (hk : k < 4) : (w.alloc (.cells #[.int .u16 t.t0, .int .u16 t.t1, .int .u16 t.t2, .int .u16 t.t3, .int .u16 t.r, .int .u16 t.g] T)).cell? ⟨w.heap.size, 0 + k, none⟩ = some (.int .u16 (t.b k)) := by
  rcases (show k = 0 ∨ k = 1 ∨ k = 2 ∨ k = 3 by omega) with rfl | rfl | rfl | rfl <;> simp [go_sem, Tru.b]
set_option maxRecDepth 100000 in
set_option maxHeartbeats 3200000 in
theorem region_go (s a0 b0 a1 b1 a2 b2 a3 b3 t0 t1 t2 t3 tr tg v g V : Int) (LO HI TB BR : Nat → Int) (K : Nat → Nat) (w : World) (hs : 1 ≤ s ∧ s ≤ 1000000) (hv : 0 ≤ v ∧ v ≤ 1000000) (hg : 1 ≤ g ∧ g ≤ 1000000) (hV : v * s = V)
    (hlo : Hid (∀ W q k, MdlAt W q ⟨s, a0, b0, a1, b1, a2, b2, a3, b3⟩ → k < 4 → W.cell? ⟨q, 1 + k * 2, none⟩ = some (.int .i64 (LO k)) ∧ W.cell? ⟨q, 1 + k * 2 + 1, none⟩ = some (.int .i64 (HI k))))
    (htb : Hid (∀ k, k < 4 → ((w.alloc (.cells #[.int .i64 s, .int .i64 a0, .int .i64 b0, .int .i64 a1, .int .i64 b1, .int .i64 a2, .int .i64 b2, .int .i64 a3, .int .i64 b3] 26)).alloc (.cells #[.int .u16 t0, .int .u16 t1, .int .u16 t2, .int .u16 t3, .int .u16 tr, .int .u16 tg] 84)).cell? ⟨w.heap.size + 1, k, none⟩ = some (.int .u16 (TB k))))
    (hP : Hid (∀ k W, k < 4 → Calls Tryz.prog 42 #[.agg #[.int .i64 (LO k), .int .i64 (HI k)], .int .u16 (TB k)] W fun e w' => e = .returned (.int .i64 (plN (LO k) (HI k) (TB k))) ∧ Below W.heap.size W w'))
    (hB0 : Hid (BR 0 = 0)) (hB : Hid (∀ k, BR (k + 1) = max (BR k) (plN (LO k) (HI k) (TB k)))) (hBf : Hid (∀ k, 0 ≤ BR k ∧ BR k ≤ 1000000)) (hK0 : Hid (K 0 = 0)) (hK : Hid (∀ k, K (k + 1) = K k + if BR (k + 1) * g < V then 1 else 0)) (hKf : Hid (∀ k, K k ≤ k)) :
    Calls Tryz.prog 43 #[.agg #[.int .i64 s, .int .i64 a0, .int .i64 b0, .int .i64 a1, .int .i64 b1, .int .i64 a2, .int .i64 b2, .int .i64 a3, .int .i64 b3], .agg #[.int .u16 t0, .int .u16 t1, .int .u16 t2, .int .u16 t3, .int .u16 tr, .int .u16 tg], .int .i64 v, .int .i64 g] w fun e w' => e = .returned (.int .i64 (K 4 : Int)) ∧ Below w.heap.size w w' := by
  have MN := hide (mdlAt_new w ⟨s, a0, b0, a1, b1, a2, b2, a3, b3⟩ 26)
  have Vf : 0 ≤ V ∧ V ≤ 1000000000000 := by
    rw [← hV]
    exact ⟨Int.mul_nonneg hv.1 (by omega), Int.le_trans (Int.mul_le_mul_of_nonneg_left hs.2 hv.1) (by omega)⟩
  have HV := hide hV
  have WV := hide (show IntKind.i64.wrap V = V from IntWalk.i64_in _ (by omega))
  have HG := hide hg
  clear hs hv hg Vf hV
  go_enter Tryz.func43, Tryz.ntmps43
  go_wp2_with fail
  obtain ⟨w1, hw1⟩ : ∃ z, z = (w.alloc (.cells #[.int .i64 s, .int .i64 a0, .int .i64 b0, .int .i64 a1, .int .i64 b1, .int .i64 a2, .int .i64 b2, .int .i64 a3, .int .i64 b3] 26)).alloc (.cells #[.int .u16 t0, .int .u16 t1, .int .u16 t2, .int .u16 t3, .int .u16 tr, .int .u16 tg] 84) := ⟨_, rfl⟩
  have M1 := hide (show MdlAt w1 w.heap.size ⟨s, a0, b0, a1, b1, a2, b2, a3, b3⟩ by rw [hw1]; exact mdlAt_later MN.out (balloc (Below.refl _ _)))
  have B1 := hide (show Below w.heap.size w w1 by rw [hw1]; exact (by repeat (first | exact Below.refl _ _ | assumption | apply balloc | apply bdrew | (refine below_drewN ?_ _) | (refine bset ?_ (by first | (simp; done) | omega | (simp; omega)) _) | (refine bnext ?_ (by assumption)))))
  have T1 := hide (fun k (hk : k < 4) => (show w1.cell? ⟨w.heap.size + 1, k, none⟩ = some (.int .u16 (TB k)) by rw [hw1]; exact htb.out k hk))
  rw [← hw1]
  clear hw1 MN htb
  go_loopw [9, 10, 11] (fun n l i wr => ∃ k : Nat, k ≤ 4 ∧ i = .int .i64 (k : Int) ∧ l = .int .i64 (BR k) ∧ n = .int .i64 (K k : Int) ∧ Below w1.heap.size w1 wr) (fun _ _ i _ => 4 - (intOf i).toNat)
  case atStart => exact ⟨0, by omega, rfl, by rw [hB0.out], by rw [hK0.out]; rfl, Below.refl _ _⟩
  case round =>
    obtain ⟨k, hk, rfl, rfl, rfl, hb⟩ := hrel
    by_cases hlt : k < 4
    · have C1 := hide (hlo.out wr w.heap.size k (mdlAt_later M1.out hb) hlt)
      have C2 := hide (later hb (T1.out k hlt))
      have PL := hide (fun W => hP.out k W hlt)
      have HBk := hide (hB.out k)
      have HBf := hide (hBf.out (k + 1))
      have HKk := hide (hK.out k)
      have HKf := hide (hKf.out k)
      have ⟨⟨⟨⟨m1, _⟩, _⟩, _, _⟩, ⟨_, _⟩, _, _⟩ := mdlAt_later M1.out hb
      simp only at m1
      have k0 : 0 ≤ (k : Int) := by omega
      have k1 : (k : Int) < 4 := by omega
      have B5 := hide hb
      generalize plN (LO k) (HI k) (TB k) = P at *
      generalize LO k = x at *
      generalize HI k = y at *
      generalize TB k = tb at *
      generalize BR k = br at *
      generalize hbr1 : BR (k + 1) = br1 at *
      have HBR := hide hbr1
      clear hbr1
      clear hb
      go_upto_region 5 with fail
      have KP := hide (fun (W : World) (hb : Below wr.heap.size wr W) => (show W.cell? ⟨w.heap.size, 1 + k * 2, none⟩ = some (.int .i64 x) ∧ W.cell? ⟨w.heap.size, 1 + k * 2 + 1, none⟩ = some (.int .i64 y) ∧ W.cell? ⟨w.heap.size + 1, k, none⟩ = some (.int .u16 tb) ∧ Below wr.heap.size wr W from ⟨later hb C1.out.1, later hb C1.out.2, later hb C2.out, hb⟩))
      clear m1
      go_cut [12] from 17 to 28 (fun s12 wx => s12 = .int .i64 br1 ∧ Below wr.heap.size wr wx)
      case first =>
        go_region_held3 (fun W => W.cell? ⟨w.heap.size, 1 + k * 2, none⟩ = some (.int .i64 x) ∧ W.cell? ⟨w.heap.size, 1 + k * 2 + 1, none⟩ = some (.int .i64 y) ∧ W.cell? ⟨w.heap.size + 1, k, none⟩ = some (.int .u16 tb) ∧ Below wr.heap.size wr W) ((go_split_ands; refine KP.out _ ?_; exact (by repeat (first | exact Below.refl _ _ | assumption | apply balloc | apply bdrew | (refine below_drewN ?_ _) | (refine bset ?_ (by first | (simp; done) | omega | (simp; omega)) _) | (refine bnext ?_ (by assumption)))))) ((go_at_call 42; refine (PL.out _).mono ?_; rintro e wA ⟨rfl, hbA⟩))
        all_goals go_wp2_with fail
        all_goals (go_meet; exact ⟨by rw [HBk.out]; congr 1; omega, by go_split_ands; assumption⟩)
      case rest =>
        obtain ⟨rfl, hb9⟩ := hcut
        have B9 := hide (bnext B5.out hb9)
        have ⟨⟨⟨⟨m1, _⟩, _⟩, _, _⟩, ⟨_, _⟩, _, _⟩ := mdlAt_later M1.out B9.out
        simp only at m1
        obtain ⟨U, hU⟩ : ∃ U, br1 * g = U := ⟨_, rfl⟩
        have Uf : 0 ≤ U ∧ U ≤ 1000000000000 := by
          have f := HBf.out
          have hg := HG.out
          rw [← hU]
          exact ⟨Int.mul_nonneg f.1 (by omega), Int.le_trans (Int.mul_le_mul_of_nonneg_right f.2 (by omega)) (by omega)⟩
        have WU : IntKind.i64.wrap U = U := IntWalk.i64_in _ (by omega)
        have wV := WV.out
        have hV := HV.out
        have kf := HKf.out
        have wk : IntKind.i64.wrap ((K k : Int) + 1) = (K k : Int) + 1 := IntWalk.i64_in _ (by omega)
        rw [hU] at HKk
        clear Uf hb9 KP kf
        by_cases hc : U < V
        · have dc : decide (U < V) = true := decide_eq_true hc
          have HK1 := hide (show K (k + 1) = K k + 1 by rw [HKk.out, if_pos hc])
          clear hc HKk
          go_wp2_with fail
          go_roundw
          case rel => exact ⟨k + 1, by omega, by go_num, by rw [HBR.out], by rw [HK1.out]; push_cast; rfl, B9.out⟩
          case measure => simp [intOf]; omega
        · have dc : decide (U < V) = false := decide_eq_false hc
          have HK1 := hide (show K (k + 1) = K k by rw [HKk.out, if_neg hc]; rfl)
          clear hc HKk
          go_wp2_with fail
          go_roundw
          case rel => exact ⟨k + 1, by omega, by go_num, by rw [HBR.out], by rw [HK1.out], B9.out⟩
          case measure => simp [intOf]; omega
    · obtain rfl : k = 4 := by omega
      have B9 := hide (bnext B1.out hb)
      go_wp2_with fail
      go_ret
      exact ⟨rfl, B9.out⟩
theorem region_any (m : Mdl) (t : Tru) (v g : Int) (w : World) (hm : MdlOk m) (ht : TruOk t) (hv : 0 ≤ v ∧ v ≤ 1000000) (hg : 1 ≤ g ∧ g ≤ 1000000) :
    Calls Tryz.prog 43 #[mdlV m, truV t, .int .i64 v, .int .i64 g] w fun e w' => e = .returned (.int .i64 (inT m t v g 4 : Int)) ∧ Below w.heap.size w w' :=
  region_go m.s m.a0 m.b0 m.a1 m.b1 m.a2 m.b2 m.a3 m.b3 t.t0 t.t1 t.t2 t.t3 t.r t.g v g _ m.lo m.hi t.b (brT m t) (inT m t v g) w ⟨hm.s1, hm.s2⟩ hv hg rfl (fun W q k h hk => ⟨mdlAt_lo h k hk, mdlAt_hi h k hk⟩)
    (fun k hk => by have := truAt_new (w.alloc (.cells #[.int .i64 m.s, .int .i64 m.a0, .int .i64 m.b0, .int .i64 m.a1, .int .i64 m.b1, .int .i64 m.a2, .int .i64 m.b2, .int .i64 m.a3, .int .i64 m.b3] 26)) t 84 k hk; simpa using this)
    (fun k W hk => place_any _ _ _ W (by have := hm.lo0 k; have := hm.lohi k; have := hm.hi0 k; omega) (ht.1 k).1 (ht.1 k).2) rfl (fun k => rfl) (fun k => brT_far hm t k) rfl (fun k => rfl) (fun k => inT_le m t v g k)
end Go.Proofs.YtlpdbjkpgfpjjaaGreat
