/-
  The reference of chapter 5: Can, Regions; and the walk of DefectRegions. The reference of chapter 5: Can and Regions for all regions; and the walk of DefectRegions.
-/
import Derived.Test.YtimfbjnpalgmcaaGreatDtA
import Derived.Test.YtimfbjnpalgmcaaGreatDgK
namespace Go.Proofs.YtimfbjnpalgmcaaGreat
set_option linter.unusedSimpArgs false
set_option linter.unusedVariables false
open Go.RowKit

set_option maxRecDepth 100000 in
set_option maxHeartbeats 3200000 in
theorem refCan_first (s a0 b0 a1 b1 a2 b2 a3 b3 x y p q XS HQ : Int) (v : Bool) (w : World) (hx : Hid (IntKind.i64.wrap (x * s) = XS)) (hq : Hid (IntKind.i64.wrap (b0 * q) = HQ)) (hv : Hid (decide (HQ < XS) = v)) :
    Calls Tryz.prog 60 #[.agg #[.int .i64 s, .int .i64 a0, .int .i64 b0, .int .i64 a1, .int .i64 b1, .int .i64 a2, .int .i64 b2, .int .i64 a3, .int .i64 b3], .agg #[.int .i64 x, .int .i64 y], .agg #[.int .i64 p, .int .i64 q], .int .i64 0] w fun e w' => e = .returned (.bool (!v)) ∧ Below w.heap.size w w' := by
  have qx := hx.out
  have qq := hq.out
  cases v with
  | true =>
    have dv := hv.out
    go_enter Tryz.func60, Tryz.ntmps60
    go_upto_region 1 with fail
    go_quiet (fail)
    go_upto_region 3 with fail
    go_quiet (fail)
    go_wp2_with fail
    go_ret
    exact ⟨rfl, (by repeat (first | exact Below.refl _ _ | assumption | apply balloc | apply bdrew | (refine below_drewN ?_ _) | (refine bset ?_ (by first | (simp; done) | omega | (simp; omega)) _) | (refine bnext ?_ (by assumption))))⟩
  | false =>
    have dv := hv.out
    go_enter Tryz.func60, Tryz.ntmps60
    go_upto_region 1 with fail
    go_quiet (fail)
    go_upto_region 3 with fail
    go_quiet (fail)
    go_upto_region 5 with fail
    go_quiet (fail)
    go_wp2_with fail
    go_ret
    exact ⟨rfl, (by repeat (first | exact Below.refl _ _ | assumption | apply balloc | apply bdrew | (refine below_drewN ?_ _) | (refine bset ?_ (by first | (simp; done) | omega | (simp; omega)) _) | (refine bnext ?_ (by assumption))))⟩
set_option maxRecDepth 100000 in
set_option maxHeartbeats 3200000 in
theorem refCan_last (s a0 b0 a1 b1 a2 b2 a3 b3 x y p q YS LP : Int) (u : Bool) (w : World) (hy : Hid (IntKind.i64.wrap (y * s) = YS)) (hp : Hid (IntKind.i64.wrap (a3 * p) = LP)) (hu : Hid (decide (YS ≤ LP) = u)) :
    Calls Tryz.prog 60 #[.agg #[.int .i64 s, .int .i64 a0, .int .i64 b0, .int .i64 a1, .int .i64 b1, .int .i64 a2, .int .i64 b2, .int .i64 a3, .int .i64 b3], .agg #[.int .i64 x, .int .i64 y], .agg #[.int .i64 p, .int .i64 q], .int .i64 4] w fun e w' => e = .returned (.bool (!u)) ∧ Below w.heap.size w w' := by
  have qy := hy.out
  have qp := hp.out
  cases u with
  | true =>
    have dv := hu.out
    go_enter Tryz.func60, Tryz.ntmps60
    go_upto_region 1 with fail
    go_quiet (fail)
    go_wp2_with fail
    go_ret
    exact ⟨rfl, (by repeat (first | exact Below.refl _ _ | assumption | apply balloc | apply bdrew | (refine below_drewN ?_ _) | (refine bset ?_ (by first | (simp; done) | omega | (simp; omega)) _) | (refine bnext ?_ (by assumption))))⟩
  | false =>
    have dv := hu.out
    go_enter Tryz.func60, Tryz.ntmps60
    go_upto_region 1 with fail
    go_quiet (fail)
    go_upto_region 3 with fail
    go_quiet (fail)
    go_upto_region 5 with fail
    go_quiet (fail)
    go_wp2_with fail
    go_ret
    exact ⟨rfl, (by repeat (first | exact Below.refl _ _ | assumption | apply balloc | apply bdrew | (refine below_drewN ?_ _) | (refine bset ?_ (by first | (simp; done) | omega | (simp; omega)) _) | (refine bnext ?_ (by assumption))))⟩
/-- One of the three regions in between. -/
def CanMid (s a0 b0 a1 b1 a2 b2 a3 b3 x y p q : Int) (k lj hk : Int) : Prop := ∀ (XS YS LP HQ : Int) (u v t : Bool) (w : World), Hid (IntKind.i64.wrap (x * s) = XS) → Hid (IntKind.i64.wrap (y * s) = YS) → Hid (IntKind.i64.wrap (lj * p) = LP) → Hid (IntKind.i64.wrap (hk * q) = HQ) → Hid (decide (YS ≤ LP) = u) → Hid (decide (HQ < XS) = v) → Hid (decide (lj < hk) = t) →
    Calls Tryz.prog 60 #[.agg #[.int .i64 s, .int .i64 a0, .int .i64 b0, .int .i64 a1, .int .i64 b1, .int .i64 a2, .int .i64 b2, .int .i64 a3, .int .i64 b3], .agg #[.int .i64 x, .int .i64 y], .agg #[.int .i64 p, .int .i64 q], .int .i64 k] w fun e w' => e = .returned (.bool (!u && (!v && t))) ∧ Below w.heap.size w w'
set_option maxRecDepth 100000 in
set_option maxHeartbeats 6400000 in
theorem refCan_mid (s a0 b0 a1 b1 a2 b2 a3 b3 x y p q : Int) : CanMid s a0 b0 a1 b1 a2 b2 a3 b3 x y p q 1 a0 b1 ∧ CanMid s a0 b0 a1 b1 a2 b2 a3 b3 x y p q 2 a1 b2 ∧ CanMid s a0 b0 a1 b1 a2 b2 a3 b3 x y p q 3 a2 b3 := by
  refine ⟨?_, ?_, ?_⟩
  all_goals
    intro XS YS LP HQ u v t w hx hy hp hq hu hv ht
    have qx := hx.out
    have qy := hy.out
    have qp := hp.out
    have qq := hq.out
    have du := hu.out
    have dv := hv.out
    have dt := ht.out
    cases u with
    | true => as_aux_lemma =>
      go_enter Tryz.func60, Tryz.ntmps60
      go_upto_region 1 with fail
      go_quiet (fail)
      go_wp2_with fail
      go_ret
      exact ⟨rfl, (by repeat (first | exact Below.refl _ _ | assumption | apply balloc | apply bdrew | (refine below_drewN ?_ _) | (refine bset ?_ (by first | (simp; done) | omega | (simp; omega)) _) | (refine bnext ?_ (by assumption))))⟩
    | false => as_aux_lemma =>
      cases v with
      | true =>
        go_enter Tryz.func60, Tryz.ntmps60
        go_upto_region 1 with fail
        go_quiet (fail)
        go_upto_region 3 with fail
        go_quiet (fail)
        go_wp2_with fail
        go_ret
        exact ⟨rfl, (by repeat (first | exact Below.refl _ _ | assumption | apply balloc | apply bdrew | (refine below_drewN ?_ _) | (refine bset ?_ (by first | (simp; done) | omega | (simp; omega)) _) | (refine bnext ?_ (by assumption))))⟩
      | false =>
        go_enter Tryz.func60, Tryz.ntmps60
        go_upto_region 1 with fail
        go_quiet (fail)
        go_upto_region 3 with fail
        go_quiet (fail)
        go_upto_region 5 with fail
        go_quiet (fail)
        go_wp2_with fail
        go_ret
        exact ⟨ret_bool (by simp), (by repeat (first | exact Below.refl _ _ | assumption | apply balloc | apply bdrew | (refine below_drewN ?_ _) | (refine bset ?_ (by first | (simp; done) | omega | (simp; omega)) _) | (refine bnext ?_ (by assumption))))⟩
end Go.Proofs.YtimfbjnpalgmcaaGreat

namespace Go.Proofs.YtimfbjnpalgmcaaGreat
set_option linter.unusedSimpArgs false
set_option linter.unusedVariables false
open Go.RowKit

theorem wrap_mul {a b : Int} (a0 : -1 ≤ a) (a1 : a ≤ 1000000) (b0 : 0 ≤ b) (b1 : b ≤ 1000000) : IntKind.i64.wrap (a * b) = a * b := by
  have := mul_far a0 a1 b0 b1 (by omega)
  exact IntWalk.i64_in _ (by omega)
theorem canB_is (m : Mdl) (x y p q : Int) (k : Nat) : canB m (x, y) (p, q) k = (!decide (y * m.s ≤ sideL m k * p) && (!decide (sideH m k * q < x * m.s) && decide (sideL m k < sideH m k))) := by
  unfold canB abv
  rw [Bool.eq_iff_iff]
  simp
  omega
theorem refCan_any (m : Mdl) (x y p q : Int) (k : Nat) (w : World) (hm : MdlOk m) (x0 : 0 ≤ x) (xy : x ≤ y) (y1 : y ≤ 1000000) (p0 : 1 ≤ p) (pq : p ≤ q) (q1 : q ≤ 1000000) (hk : k < 5) :
    Calls Tryz.prog 60 #[mdlV m, .agg #[.int .i64 x, .int .i64 y], .agg #[.int .i64 p, .int .i64 q], .int .i64 (k : Int)] w fun e w' => e = .returned (.bool (canB m (x, y) (p, q) k)) ∧ Below w.heap.size w w' := by
  have s1 := hm.s1
  have s2 := hm.s2
  have LB : ∀ k, 0 ≤ m.lo k ∧ m.lo k ≤ 1000000 := fun k => by have := hm.lo0 k; have := hm.lohi k; have := hm.hi0 k; omega
  have HB : ∀ k, 0 ≤ m.hi k ∧ m.hi k ≤ 1000000 := fun k => by have := hm.lo0 k; have := hm.lohi k; have := hm.hi0 k; omega
  have WX : IntKind.i64.wrap (x * m.s) = x * m.s := wrap_mul (by omega) (by omega) (by omega) (by omega)
  have WY : IntKind.i64.wrap (y * m.s) = y * m.s := wrap_mul (by omega) (by omega) (by omega) (by omega)
  have WL : ∀ k, IntKind.i64.wrap (m.lo k * p) = m.lo k * p := fun k => wrap_mul (by have := LB k; omega) (LB k).2 (by omega) (by omega)
  have WH : ∀ k, IntKind.i64.wrap (m.hi k * q) = m.hi k * q := fun k => wrap_mul (by have := HB k; omega) (HB k).2 (by omega) (by omega)
  have YS0 : 0 ≤ y * m.s := Int.mul_nonneg (by omega) (by omega)
  have XS1 : x * m.s ≤ 1000000 * 1000000 := Int.mul_le_mul (by omega) s2 (by omega) (by omega)
  rw [canB_is]
  obtain rfl | rfl | rfl | rfl | rfl : k = 0 ∨ k = 1 ∨ k = 2 ∨ k = 3 ∨ k = 4 := by omega
  · have c := refCan_first m.s m.a0 m.b0 m.a1 m.b1 m.a2 m.b2 m.a3 m.b3 x y p q _ _ _ w (hide WX) (hide (WH 0)) (hide rfl)
    have e1 : decide (y * m.s ≤ sideL m 0 * p) = false := decide_eq_false (by show ¬ y * m.s ≤ -1 * p; omega)
    have e2 : decide (sideL m 0 < sideH m 0) = true := decide_eq_true (by show (-1 : Int) < m.hi 0; have := HB 0; omega)
    rw [e1, e2, Bool.and_true, Bool.not_false, Bool.true_and, show sideH m 0 = m.hi 0 from rfl]
    exact c
  · exact (refCan_mid m.s m.a0 m.b0 m.a1 m.b1 m.a2 m.b2 m.a3 m.b3 x y p q).1 _ _ _ _ _ _ _ w (hide WX) (hide WY) (hide (WL 0)) (hide (WH 1)) (hide rfl) (hide rfl) (hide rfl)
  · exact (refCan_mid m.s m.a0 m.b0 m.a1 m.b1 m.a2 m.b2 m.a3 m.b3 x y p q).2.1 _ _ _ _ _ _ _ w (hide WX) (hide WY) (hide (WL 1)) (hide (WH 2)) (hide rfl) (hide rfl) (hide rfl)
  · exact (refCan_mid m.s m.a0 m.b0 m.a1 m.b1 m.a2 m.b2 m.a3 m.b3 x y p q).2.2 _ _ _ _ _ _ _ w (hide WX) (hide WY) (hide (WL 2)) (hide (WH 3)) (hide rfl) (hide rfl) (hide rfl)
  · have c := refCan_last m.s m.a0 m.b0 m.a1 m.b1 m.a2 m.b2 m.a3 m.b3 x y p q _ _ _ w (hide WY) (hide (WL 3)) (hide rfl)
    have M5 : (1000000000000 : Int) * 1 ≤ 1000000000000 * q := Int.mul_le_mul_of_nonneg_left (by omega) (by omega)
    have e1 : decide (sideH m 4 * q < x * m.s) = false := decide_eq_false (by show ¬ 1000000000000 * q < x * m.s; omega)
    have e2 : decide (sideL m 4 < sideH m 4) = true := decide_eq_true (by show m.lo 3 < 1000000000000; have := LB 3; omega)
    rw [e1, e2, Bool.not_false, Bool.true_and, Bool.and_true, show sideL m 4 = m.lo 3 from rfl]
    exact c
/-- A model, a rate and a gradient in memory, one behind the other. -/
def ThAt (W : World) (i : Nat) (m : Mdl) (x y p q : Int) : Prop := MdlAt W i m ∧ RgAt W (i + 1) x y ∧ RgAt W (i + 1 + 1) p q
theorem thAt_later {w W : World} {i : Nat} {m : Mdl} {x y p q : Int} (h : ThAt w i m x y p q) (hb : Below w.heap.size w W) : ThAt W i m x y p q := ⟨mdlAt_later h.1 hb, rgAt_later h.2.1 hb, rgAt_later h.2.2 hb⟩
theorem thAt_new (w : World) (m : Mdl) (x y p q : Int) (T U V : TypeId) : ThAt (((w.alloc (.cells #[.int .i64 m.s, .int .i64 m.a0, .int .i64 m.b0, .int .i64 m.a1, .int .i64 m.b1, .int .i64 m.a2, .int .i64 m.b2, .int .i64 m.a3, .int .i64 m.b3] T)).alloc (.cells #[.int .i64 x, .int .i64 y] U)).alloc (.cells #[.int .i64 p, .int .i64 q] V)) w.heap.size m x y p q :=
  ⟨mdlAt_later (mdlAt_new w m T) (by repeat (first | exact Below.refl _ _ | assumption | apply balloc | apply bdrew | (refine below_drewN ?_ _) | (refine bset ?_ (by first | (simp; done) | omega | (simp; omega)) _) | (refine bnext ?_ (by assumption)))), ⟨(by simp [go_sem, World.cell?_alloc_past]), (by simp [go_sem, World.cell?_alloc_past])⟩, ⟨(by simp [go_sem, World.cell?_alloc_past]), (by simp [go_sem, World.cell?_alloc_past])⟩⟩
set_option maxRecDepth 100000 in
set_option maxHeartbeats 3200000 in
theorem refRegions_go (s a0 b0 a1 b1 a2 b2 a3 b3 x y p q : Int) (f : Nat → Bool) (w : World)
    (CA : Hid (∀ (k : Nat) W, k < 5 → Calls Tryz.prog 60 #[.agg #[.int .i64 s, .int .i64 a0, .int .i64 b0, .int .i64 a1, .int .i64 b1, .int .i64 a2, .int .i64 b2, .int .i64 a3, .int .i64 b3], .agg #[.int .i64 x, .int .i64 y], .agg #[.int .i64 p, .int .i64 q], .int .i64 (k : Int)] W fun e w' => e = .returned (.bool (f k)) ∧ Below W.heap.size W w')) :
    Calls Tryz.prog 20 #[.agg #[.int .i64 s, .int .i64 a0, .int .i64 b0, .int .i64 a1, .int .i64 b1, .int .i64 a2, .int .i64 b2, .int .i64 a3, .int .i64 b3], .agg #[.int .i64 x, .int .i64 y], .agg #[.int .i64 p, .int .i64 q]] w fun e w' => e = .returned (.int .u8 ((setN f 5 : Nat) : Int)) ∧ Below w.heap.size w w' := by
  have TN := hide (thAt_new w ⟨s, a0, b0, a1, b1, a2, b2, a3, b3⟩ x y p q 26 23 23)
  go_enter Tryz.func20, Tryz.ntmps20
  go_wp2_with fail
  obtain ⟨w1, hw1⟩ : ∃ z, z = ((w.alloc (.cells #[.int .i64 s, .int .i64 a0, .int .i64 b0, .int .i64 a1, .int .i64 b1, .int .i64 a2, .int .i64 b2, .int .i64 a3, .int .i64 b3] 26)).alloc (.cells #[.int .i64 x, .int .i64 y] 23)).alloc (.cells #[.int .i64 p, .int .i64 q] 23) := ⟨_, rfl⟩
  have T1 := hide (show ThAt w1 w.heap.size ⟨s, a0, b0, a1, b1, a2, b2, a3, b3⟩ x y p q by rw [hw1]; exact TN.out)
  have B1 := hide (show Below w.heap.size w w1 by rw [hw1]; exact (by repeat (first | exact Below.refl _ _ | assumption | apply balloc | apply bdrew | (refine below_drewN ?_ _) | (refine bset ?_ (by first | (simp; done) | omega | (simp; omega)) _) | (refine bnext ?_ (by assumption)))))
  rw [← hw1]
  clear hw1 TN
  go_loopw [7, 8] (fun c i wr => ∃ k : Nat, k ≤ 5 ∧ i = .int .i64 (k : Int) ∧ c = .int .u8 ((setN f k : Nat) : Int) ∧ Below w1.heap.size w1 wr) (fun _ i _ => 5 - (intOf i).toNat)
  case atStart => exact ⟨0, by omega, rfl, rfl, Below.refl _ _⟩
  case round =>
    obtain ⟨k, hk, rfl, rfl, hb⟩ := hrel
    by_cases hlt : k < 5
    · have FK := hide (show setN f (k + 1) = setN f k + if f k then 2 ^ k else 0 from rfl)
      have SL := hide (setN_lt f k)
      have CK := hide (CA.out k)
      generalize f k = fk at *
      have B3 := hide hb
      have ⟨⟨⟨⟨⟨m1, m2⟩, m3⟩, m4, m5⟩, ⟨m6, m7⟩, m8, m9⟩, ⟨x1, x2⟩, p1, p2⟩ := (thAt_later T1.out hb)
      simp only at m1 m2 m3 m4 m5 m6 m7 m8 m9
      have k0 : 0 ≤ (k : Int) := by omega
      have k1 : (k : Int) < 5 := by omega
      clear hb
      go_wp2_with fail
      refine (CK.out _ hlt).mono ?_
      rintro e w4 ⟨rfl, hb4⟩
      have B4 := hide (bnext B3.out hb4)
      clear m1 m2 m3 m4 m5 m6 m7 m8 m9 x1 x2 p1 p2
      clear hb4 B3 CK
      cases fk with
      | false =>
        go_wp2_with fail
        go_roundw
        case rel => exact ⟨k + 1, by omega, by go_num, by rw [FK.out]; rfl, B4.out⟩
        case measure => simp [intOf]; omega
      | true =>
        have OB := or_bit hlt SL.out
        have R := hide (show Value.int .u8 (bits BinOp.or IntKind.u8 ((setN f k : Nat) : Int) (2 ^ k)) = .int .u8 ((setN f (k + 1) : Nat) : Int) by rw [OB, FK.out]; rfl)
        clear OB FK
        obtain rfl | rfl | rfl | rfl | rfl : k = 0 ∨ k = 1 ∨ k = 2 ∨ k = 3 ∨ k = 4 := by omega
        all_goals
          go_wp2_with fail
          go_roundw
          case rel => exact ⟨_, by decide, by go_num, R.out, B4.out⟩
          case measure => simp [intOf]
    · obtain rfl : k = 5 := by omega
      go_wp2_with fail
      go_ret
      exact ⟨rfl, bnext B1.out hb⟩
theorem refRegions_any (m : Mdl) (x y p q : Int) (w : World) (hm : MdlOk m) (x0 : 0 ≤ x) (xy : x ≤ y) (y1 : y ≤ 1000000) (p0 : 1 ≤ p) (pq : p ≤ q) (q1 : q ≤ 1000000) :
    Calls Tryz.prog 20 #[mdlV m, .agg #[.int .i64 x, .int .i64 y], .agg #[.int .i64 p, .int .i64 q]] w fun e w' => e = .returned (.int .u8 ((regN m (x, y) (p, q) : Nat) : Int)) ∧ Below w.heap.size w w' :=
  refRegions_go m.s m.a0 m.b0 m.a1 m.b1 m.a2 m.b2 m.a3 m.b3 x y p q (canB m (x, y) (p, q)) w (hide fun k W hk => refCan_any m x y p q k W hm x0 xy y1 p0 pq q1 hk)
set_option maxRecDepth 100000 in
set_option maxHeartbeats 6400000 in
theorem defectRegions_go (s a0 b0 a1 b1 a2 b2 a3 b3 x y p q E1 E2 : Int) (S : Nat) (k1 k2 k3 : Bool) (w : World)
    (CM : Hid (∀ W, Calls Tryz.prog 14 #[.agg #[.int .i64 s, .int .i64 a0, .int .i64 b0, .int .i64 a1, .int .i64 b1, .int .i64 a2, .int .i64 b2, .int .i64 a3, .int .i64 b3]] W fun e w' => e = .returned (.int .i64 E1) ∧ Below W.heap.size W w'))
    (RG : Hid (∀ W, Calls Tryz.prog 15 #[.agg #[.int .i64 s, .int .i64 a0, .int .i64 b0, .int .i64 a1, .int .i64 b1, .int .i64 a2, .int .i64 b2, .int .i64 a3, .int .i64 b3], .agg #[.int .i64 x, .int .i64 y], .agg #[.int .i64 p, .int .i64 q]] W fun e w' => e = .returned (.tuple #[.int .u8 (S : Int), .int .i64 E2]) ∧ Below W.heap.size W w'))
    (MO : Hid (∀ W, Calls Tryz.prog 16 #[.agg #[.int .i64 s, .int .i64 a0, .int .i64 b0, .int .i64 a1, .int .i64 b1, .int .i64 a2, .int .i64 b2, .int .i64 a3, .int .i64 b3]] W fun e w' => e = .returned (.bool k1) ∧ Below W.heap.size W w'))
    (RT : Hid (∀ W, Calls Tryz.prog 17 #[.agg #[.int .i64 x, .int .i64 y]] W fun e w' => e = .returned (.bool k2) ∧ Below W.heap.size W w'))
    (GR : Hid (∀ W, Calls Tryz.prog 18 #[.agg #[.int .i64 p, .int .i64 q]] W fun e w' => e = .returned (.bool k3) ∧ Below W.heap.size W w'))
    (RR : Hid (k1 = true → k2 = true → k3 = true → E2 = 0 ∧ ∀ W, Calls Tryz.prog 20 #[.agg #[.int .i64 s, .int .i64 a0, .int .i64 b0, .int .i64 a1, .int .i64 b1, .int .i64 a2, .int .i64 b2, .int .i64 a3, .int .i64 b3], .agg #[.int .i64 x, .int .i64 y], .agg #[.int .i64 p, .int .i64 q]] W fun e w' => e = .returned (.int .u8 (S : Int)) ∧ Below W.heap.size W w'))
    (h1 : Hid (E1 = if k1 then 0 else 2)) (h2 : Hid ((k1 && (k2 && k3)) = false → S = 0 ∧ E2 = 2)) :
    Calls Tryz.prog 3 #[.agg #[.int .i64 s, .int .i64 a0, .int .i64 b0, .int .i64 a1, .int .i64 b1, .int .i64 a2, .int .i64 b2, .int .i64 a3, .int .i64 b3], .agg #[.int .i64 x, .int .i64 y], .agg #[.int .i64 p, .int .i64 q]] w fun e w' => e = .returned (.bool true) ∧ Below w.heap.size w w' := by
  have T0 := hide (thAt_new w ⟨s, a0, b0, a1, b1, a2, b2, a3, b3⟩ x y p q 26 23 23)
  cases k1 with
  | false => as_aux_lemma =>
    obtain rfl : E1 = 2 := h1.out
    obtain ⟨rfl, rfl⟩ := h2.out rfl
    clear h1 h2 RR
    go_enter Tryz.func3, Tryz.ntmps3
    go_wp2_with fail
    refine (CM.out _).mono ?_
    rintro e w1 ⟨rfl, hb1⟩
    have T1 := hide (thAt_later T0.out hb1)
    have B1 := hide (show Below w.heap.size w w1 from (by repeat (first | exact Below.refl _ _ | assumption | apply balloc | apply bdrew | (refine below_drewN ?_ _) | (refine bset ?_ (by first | (simp; done) | omega | (simp; omega)) _) | (refine bnext ?_ (by assumption)))))
    clear hb1 T0
    have ⟨⟨⟨⟨⟨m1, m2⟩, m3⟩, m4, m5⟩, ⟨m6, m7⟩, m8, m9⟩, ⟨x1, x2⟩, p1, p2⟩ := T1.out
    simp only at m1 m2 m3 m4 m5 m6 m7 m8 m9
    go_wp2_with fail
    refine (RG.out _).mono ?_
    rintro e w2 ⟨rfl, hb2⟩
    have T2 := hide (thAt_later T1.out hb2)
    have B2 := hide (bnext B1.out hb2)
    clear m1 m2 m3 m4 m5 m6 m7 m8 m9 x1 x2 p1 p2
    clear hb2 T1 B1
    have ⟨⟨⟨⟨⟨m1, m2⟩, m3⟩, m4, m5⟩, ⟨m6, m7⟩, m8, m9⟩, ⟨x1, x2⟩, p1, p2⟩ := T2.out
    simp only at m1 m2 m3 m4 m5 m6 m7 m8 m9
    go_wp2_with fail
    refine (MO.out _).mono ?_
    rintro e w3 ⟨rfl, hb3⟩
    have T3 := hide (thAt_later T2.out hb3)
    have B3 := hide (bnext B2.out hb3)
    clear m1 m2 m3 m4 m5 m6 m7 m8 m9 x1 x2 p1 p2
    clear hb3 T2 B2
    have ⟨⟨⟨⟨⟨m1, m2⟩, m3⟩, m4, m5⟩, ⟨m6, m7⟩, m8, m9⟩, ⟨x1, x2⟩, p1, p2⟩ := T3.out
    simp only at m1 m2 m3 m4 m5 m6 m7 m8 m9
    go_wp2_with fail
    refine (MO.out _).mono ?_
    rintro e w4 ⟨rfl, hb4⟩
    have T4 := hide (thAt_later T3.out hb4)
    have B4 := hide (bnext B3.out hb4)
    clear m1 m2 m3 m4 m5 m6 m7 m8 m9 x1 x2 p1 p2
    clear hb4 T3 B3
    have ⟨⟨⟨⟨⟨m1, m2⟩, m3⟩, m4, m5⟩, ⟨m6, m7⟩, m8, m9⟩, ⟨x1, x2⟩, p1, p2⟩ := T4.out
    simp only at m1 m2 m3 m4 m5 m6 m7 m8 m9
    go_wp2_with fail
    refine (known5_any _).mono ?_
    rintro e w5 ⟨rfl, hb5⟩
    have B5 := hide (bnext B4.out hb5)
    clear m1 m2 m3 m4 m5 m6 m7 m8 m9 x1 x2 p1 p2
    clear hb5 B4 T4
    go_wp2_with fail
    go_ret
    exact ⟨rfl, B5.out⟩
  | true =>
    obtain rfl : E1 = 0 := h1.out
    cases k2 with
    | false => as_aux_lemma =>
      obtain ⟨rfl, rfl⟩ := h2.out rfl
      clear h1 h2 RR
      go_enter Tryz.func3, Tryz.ntmps3
      go_wp2_with fail
      refine (CM.out _).mono ?_
      rintro e w1 ⟨rfl, hb1⟩
      have T1 := hide (thAt_later T0.out hb1)
      have B1 := hide (show Below w.heap.size w w1 from (by repeat (first | exact Below.refl _ _ | assumption | apply balloc | apply bdrew | (refine below_drewN ?_ _) | (refine bset ?_ (by first | (simp; done) | omega | (simp; omega)) _) | (refine bnext ?_ (by assumption)))))
      clear hb1 T0
      have ⟨⟨⟨⟨⟨m1, m2⟩, m3⟩, m4, m5⟩, ⟨m6, m7⟩, m8, m9⟩, ⟨x1, x2⟩, p1, p2⟩ := T1.out
      simp only at m1 m2 m3 m4 m5 m6 m7 m8 m9
      go_wp2_with fail
      refine (RG.out _).mono ?_
      rintro e w2 ⟨rfl, hb2⟩
      have T2 := hide (thAt_later T1.out hb2)
      have B2 := hide (bnext B1.out hb2)
      clear m1 m2 m3 m4 m5 m6 m7 m8 m9 x1 x2 p1 p2
      clear hb2 T1 B1
      have ⟨⟨⟨⟨⟨m1, m2⟩, m3⟩, m4, m5⟩, ⟨m6, m7⟩, m8, m9⟩, ⟨x1, x2⟩, p1, p2⟩ := T2.out
      simp only at m1 m2 m3 m4 m5 m6 m7 m8 m9
      go_wp2_with fail
      refine (MO.out _).mono ?_
      rintro e w3 ⟨rfl, hb3⟩
      have T3 := hide (thAt_later T2.out hb3)
      have B3 := hide (bnext B2.out hb3)
      clear m1 m2 m3 m4 m5 m6 m7 m8 m9 x1 x2 p1 p2
      clear hb3 T2 B2
      have ⟨⟨⟨⟨⟨m1, m2⟩, m3⟩, m4, m5⟩, ⟨m6, m7⟩, m8, m9⟩, ⟨x1, x2⟩, p1, p2⟩ := T3.out
      simp only at m1 m2 m3 m4 m5 m6 m7 m8 m9
      go_wp2_with fail
      refine (MO.out _).mono ?_
      rintro e w4 ⟨rfl, hb4⟩
      have T4 := hide (thAt_later T3.out hb4)
      have B4 := hide (bnext B3.out hb4)
      clear m1 m2 m3 m4 m5 m6 m7 m8 m9 x1 x2 p1 p2
      clear hb4 T3 B3
      have ⟨⟨⟨⟨⟨m1, m2⟩, m3⟩, m4, m5⟩, ⟨m6, m7⟩, m8, m9⟩, ⟨x1, x2⟩, p1, p2⟩ := T4.out
      simp only at m1 m2 m3 m4 m5 m6 m7 m8 m9
      go_wp2_with fail
      refine (RT.out _).mono ?_
      rintro e w5 ⟨rfl, hb5⟩
      have T5 := hide (thAt_later T4.out hb5)
      have B5 := hide (bnext B4.out hb5)
      clear m1 m2 m3 m4 m5 m6 m7 m8 m9 x1 x2 p1 p2
      clear hb5 T4 B4
      have ⟨⟨⟨⟨⟨m1, m2⟩, m3⟩, m4, m5⟩, ⟨m6, m7⟩, m8, m9⟩, ⟨x1, x2⟩, p1, p2⟩ := T5.out
      simp only at m1 m2 m3 m4 m5 m6 m7 m8 m9
      go_wp2_with fail
      refine (known5_any _).mono ?_
      rintro e w6 ⟨rfl, hb6⟩
      have B6 := hide (bnext B5.out hb6)
      clear m1 m2 m3 m4 m5 m6 m7 m8 m9 x1 x2 p1 p2
      clear hb6 B5 T5
      go_wp2_with fail
      go_ret
      exact ⟨rfl, B6.out⟩
    | true =>
      cases k3 with
      | false => as_aux_lemma =>
        obtain ⟨rfl, rfl⟩ := h2.out rfl
        clear h1 h2 RR
        go_enter Tryz.func3, Tryz.ntmps3
        go_wp2_with fail
        refine (CM.out _).mono ?_
        rintro e w1 ⟨rfl, hb1⟩
        have T1 := hide (thAt_later T0.out hb1)
        have B1 := hide (show Below w.heap.size w w1 from (by repeat (first | exact Below.refl _ _ | assumption | apply balloc | apply bdrew | (refine below_drewN ?_ _) | (refine bset ?_ (by first | (simp; done) | omega | (simp; omega)) _) | (refine bnext ?_ (by assumption)))))
        clear hb1 T0
        have ⟨⟨⟨⟨⟨m1, m2⟩, m3⟩, m4, m5⟩, ⟨m6, m7⟩, m8, m9⟩, ⟨x1, x2⟩, p1, p2⟩ := T1.out
        simp only at m1 m2 m3 m4 m5 m6 m7 m8 m9
        go_wp2_with fail
        refine (RG.out _).mono ?_
        rintro e w2 ⟨rfl, hb2⟩
        have T2 := hide (thAt_later T1.out hb2)
        have B2 := hide (bnext B1.out hb2)
        clear m1 m2 m3 m4 m5 m6 m7 m8 m9 x1 x2 p1 p2
        clear hb2 T1 B1
        have ⟨⟨⟨⟨⟨m1, m2⟩, m3⟩, m4, m5⟩, ⟨m6, m7⟩, m8, m9⟩, ⟨x1, x2⟩, p1, p2⟩ := T2.out
        simp only at m1 m2 m3 m4 m5 m6 m7 m8 m9
        go_wp2_with fail
        refine (MO.out _).mono ?_
        rintro e w3 ⟨rfl, hb3⟩
        have T3 := hide (thAt_later T2.out hb3)
        have B3 := hide (bnext B2.out hb3)
        clear m1 m2 m3 m4 m5 m6 m7 m8 m9 x1 x2 p1 p2
        clear hb3 T2 B2
        have ⟨⟨⟨⟨⟨m1, m2⟩, m3⟩, m4, m5⟩, ⟨m6, m7⟩, m8, m9⟩, ⟨x1, x2⟩, p1, p2⟩ := T3.out
        simp only at m1 m2 m3 m4 m5 m6 m7 m8 m9
        go_wp2_with fail
        refine (MO.out _).mono ?_
        rintro e w4 ⟨rfl, hb4⟩
        have T4 := hide (thAt_later T3.out hb4)
        have B4 := hide (bnext B3.out hb4)
        clear m1 m2 m3 m4 m5 m6 m7 m8 m9 x1 x2 p1 p2
        clear hb4 T3 B3
        have ⟨⟨⟨⟨⟨m1, m2⟩, m3⟩, m4, m5⟩, ⟨m6, m7⟩, m8, m9⟩, ⟨x1, x2⟩, p1, p2⟩ := T4.out
        simp only at m1 m2 m3 m4 m5 m6 m7 m8 m9
        go_wp2_with fail
        refine (RT.out _).mono ?_
        rintro e w5 ⟨rfl, hb5⟩
        have T5 := hide (thAt_later T4.out hb5)
        have B5 := hide (bnext B4.out hb5)
        clear m1 m2 m3 m4 m5 m6 m7 m8 m9 x1 x2 p1 p2
        clear hb5 T4 B4
        have ⟨⟨⟨⟨⟨m1, m2⟩, m3⟩, m4, m5⟩, ⟨m6, m7⟩, m8, m9⟩, ⟨x1, x2⟩, p1, p2⟩ := T5.out
        simp only at m1 m2 m3 m4 m5 m6 m7 m8 m9
        go_wp2_with fail
        refine (GR.out _).mono ?_
        rintro e w6 ⟨rfl, hb6⟩
        have T6 := hide (thAt_later T5.out hb6)
        have B6 := hide (bnext B5.out hb6)
        clear m1 m2 m3 m4 m5 m6 m7 m8 m9 x1 x2 p1 p2
        clear hb6 T5 B5
        have ⟨⟨⟨⟨⟨m1, m2⟩, m3⟩, m4, m5⟩, ⟨m6, m7⟩, m8, m9⟩, ⟨x1, x2⟩, p1, p2⟩ := T6.out
        simp only at m1 m2 m3 m4 m5 m6 m7 m8 m9
        go_wp2_with fail
        refine (known5_any _).mono ?_
        rintro e w7 ⟨rfl, hb7⟩
        have B7 := hide (bnext B6.out hb7)
        clear m1 m2 m3 m4 m5 m6 m7 m8 m9 x1 x2 p1 p2
        clear hb7 B6 T6
        go_wp2_with fail
        go_ret
        exact ⟨rfl, B7.out⟩
      | true => as_aux_lemma =>
        obtain ⟨rfl, R3⟩ := RR.out rfl rfl rfl
        have RF := hide R3
        clear h1 h2 RR R3
        go_enter Tryz.func3, Tryz.ntmps3
        go_wp2_with fail
        refine (CM.out _).mono ?_
        rintro e w1 ⟨rfl, hb1⟩
        have T1 := hide (thAt_later T0.out hb1)
        have B1 := hide (show Below w.heap.size w w1 from (by repeat (first | exact Below.refl _ _ | assumption | apply balloc | apply bdrew | (refine below_drewN ?_ _) | (refine bset ?_ (by first | (simp; done) | omega | (simp; omega)) _) | (refine bnext ?_ (by assumption)))))
        clear hb1 T0
        have ⟨⟨⟨⟨⟨m1, m2⟩, m3⟩, m4, m5⟩, ⟨m6, m7⟩, m8, m9⟩, ⟨x1, x2⟩, p1, p2⟩ := T1.out
        simp only at m1 m2 m3 m4 m5 m6 m7 m8 m9
        go_wp2_with fail
        refine (RG.out _).mono ?_
        rintro e w2 ⟨rfl, hb2⟩
        have T2 := hide (thAt_later T1.out hb2)
        have B2 := hide (bnext B1.out hb2)
        clear m1 m2 m3 m4 m5 m6 m7 m8 m9 x1 x2 p1 p2
        clear hb2 T1 B1
        have ⟨⟨⟨⟨⟨m1, m2⟩, m3⟩, m4, m5⟩, ⟨m6, m7⟩, m8, m9⟩, ⟨x1, x2⟩, p1, p2⟩ := T2.out
        simp only at m1 m2 m3 m4 m5 m6 m7 m8 m9
        go_wp2_with fail
        refine (MO.out _).mono ?_
        rintro e w3 ⟨rfl, hb3⟩
        have T3 := hide (thAt_later T2.out hb3)
        have B3 := hide (bnext B2.out hb3)
        clear m1 m2 m3 m4 m5 m6 m7 m8 m9 x1 x2 p1 p2
        clear hb3 T2 B2
        have ⟨⟨⟨⟨⟨m1, m2⟩, m3⟩, m4, m5⟩, ⟨m6, m7⟩, m8, m9⟩, ⟨x1, x2⟩, p1, p2⟩ := T3.out
        simp only at m1 m2 m3 m4 m5 m6 m7 m8 m9
        go_wp2_with fail
        refine (MO.out _).mono ?_
        rintro e w4 ⟨rfl, hb4⟩
        have T4 := hide (thAt_later T3.out hb4)
        have B4 := hide (bnext B3.out hb4)
        clear m1 m2 m3 m4 m5 m6 m7 m8 m9 x1 x2 p1 p2
        clear hb4 T3 B3
        have ⟨⟨⟨⟨⟨m1, m2⟩, m3⟩, m4, m5⟩, ⟨m6, m7⟩, m8, m9⟩, ⟨x1, x2⟩, p1, p2⟩ := T4.out
        simp only at m1 m2 m3 m4 m5 m6 m7 m8 m9
        go_wp2_with fail
        refine (RT.out _).mono ?_
        rintro e w5 ⟨rfl, hb5⟩
        have T5 := hide (thAt_later T4.out hb5)
        have B5 := hide (bnext B4.out hb5)
        clear m1 m2 m3 m4 m5 m6 m7 m8 m9 x1 x2 p1 p2
        clear hb5 T4 B4
        have ⟨⟨⟨⟨⟨m1, m2⟩, m3⟩, m4, m5⟩, ⟨m6, m7⟩, m8, m9⟩, ⟨x1, x2⟩, p1, p2⟩ := T5.out
        simp only at m1 m2 m3 m4 m5 m6 m7 m8 m9
        go_wp2_with fail
        refine (GR.out _).mono ?_
        rintro e w6 ⟨rfl, hb6⟩
        have T6 := hide (thAt_later T5.out hb6)
        have B6 := hide (bnext B5.out hb6)
        clear m1 m2 m3 m4 m5 m6 m7 m8 m9 x1 x2 p1 p2
        clear hb6 T5 B5
        have ⟨⟨⟨⟨⟨m1, m2⟩, m3⟩, m4, m5⟩, ⟨m6, m7⟩, m8, m9⟩, ⟨x1, x2⟩, p1, p2⟩ := T6.out
        simp only at m1 m2 m3 m4 m5 m6 m7 m8 m9
        go_wp2_with fail
        refine (RF.out _).mono ?_
        rintro e w7 ⟨rfl, hb7⟩
        have T7 := hide (thAt_later T6.out hb7)
        have B7 := hide (bnext B6.out hb7)
        clear m1 m2 m3 m4 m5 m6 m7 m8 m9 x1 x2 p1 p2
        clear hb7 T6 B6
        have ⟨⟨⟨⟨⟨m1, m2⟩, m3⟩, m4, m5⟩, ⟨m6, m7⟩, m8, m9⟩, ⟨x1, x2⟩, p1, p2⟩ := T7.out
        simp only at m1 m2 m3 m4 m5 m6 m7 m8 m9
        go_wp2_with fail
        refine (known5_any _).mono ?_
        rintro e w8 ⟨rfl, hb8⟩
        have B8 := hide (bnext B7.out hb8)
        clear m1 m2 m3 m4 m5 m6 m7 m8 m9 x1 x2 p1 p2
        clear hb8 B7 T7
        go_wp2_with fail
        go_ret
        exact ⟨rfl, B8.out⟩
theorem defectRegions_walk (m : Mdl) (x y p q : Int) (w : World) :
    Calls Tryz.prog 3 #[mdlV m, .agg #[.int .i64 x, .int .i64 y], .agg #[.int .i64 p, .int .i64 q]] w fun e w' => e = .returned (.bool true) ∧ Below w.heap.size w w' := by
  refine defectRegions_go m.s m.a0 m.b0 m.a1 m.b1 m.a2 m.b2 m.a3 m.b3 x y p q _ _ _ (mdlOk m) (rgOk 1000000 (x, y)) (grOk (p, q)) w (hide fun W => checkModel_any m W) (hide fun W => bigRegions_any m x y p q W) (hide fun W => refModel_any m W) (hide fun W => refRate_any x y W) (hide fun W => refGradient_any p q W) (hide fun o1 o2 o3 => ?_) (hide ?_) (hide fun h => ?_)
  · have r2 : 0 ≤ x ∧ x ≤ y ∧ y ≤ 1000000 := by simpa [rgOk] using o2
    have r3 : 1 ≤ p ∧ p ≤ q ∧ q ≤ 1000000 := by simp [grOk, rgOk] at o3; omega
    have e : regQ m (x, y) (p, q) = (regN m (x, y) (p, q), 0) := by unfold regQ regE; rw [o1, o2, o3]; rfl
    rw [e]
    exact ⟨rfl, fun W => refRegions_any m x y p q W (mdlOk_of o1) r2.1 r2.2.1 r2.2.2 r3.1 r3.2.1 r3.2.2⟩
  · rfl
  · have e : regQ m (x, y) (p, q) = (0, 2) := by
      unfold regQ regE
      cases h1 : mdlOk m
      · rfl
      · rw [h1] at h
        have h' : (rgOk 1000000 (x, y) && grOk (p, q)) = false := by simpa using h
        rw [h']; rfl
    rw [e]
    exact ⟨rfl, rfl⟩
end Go.Proofs.YtimfbjnpalgmcaaGreat
