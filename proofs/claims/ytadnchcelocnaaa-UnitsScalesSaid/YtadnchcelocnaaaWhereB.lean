/-
  units.piece.where, on a slope; and for any piece.
-/
import Derived.Test.YtadnchcelocnaaaWhere
namespace Go.Proofs.Ytadnchcelocnaaa
set_option linter.unusedSimpArgs false
set_option linter.unusedVariables false
open Go.RowKit

set_option maxHeartbeats 1600000 in
theorem where_slope (x0 y0 x1 y1 lo hi : Int) (w : World) (hy : y0 < y1) (h1 : max lo y0 ≤ min hi y1)
    (bx : -1000000000000 ≤ x0 ∧ x0 < x1 ∧ x1 ≤ 1000000000000) (by' : -1000000000000 ≤ y0 ∧ y1 ≤ 1000000000000)
    (r0 : ∀ v, v = (divQ ((max lo y0 - y0) * (x1 - x0)) (y1 - y0) 2).1 → -2000000000000000 ≤ v ∧ v ≤ 2000000000000000) (r1 : ∀ v, v = (divQ ((min hi y1 - y0) * (x1 - x0)) (y1 - y0) 1).1 → -2000000000000000 ≤ v ∧ v ≤ 2000000000000000) :
    Calls Try.prog 107 #[.agg #[.int .i64 x0, .int .i64 y0, .int .i64 x1, .int .i64 y1], .agg #[.int .i64 lo, .int .i64 hi]] w fun e w' =>
      e = .returned (.tuple #[.agg #[.int .i64 (x0 + (divQ ((max lo y0 - y0) * (x1 - x0)) (y1 - y0) 2).1), .int .i64 (x0 + (divQ ((min hi y1 - y0) * (x1 - x0)) (y1 - y0) 1).1)], .bool (decide ((divQ ((max lo y0 - y0) * (x1 - x0)) (y1 - y0) 2).1 ≤ (divQ ((min hi y1 - y0) * (x1 - x0)) (y1 - y0) 1).1))]) ∧ Below w.heap.size w w' := by
  have C := fun w => common_any lo hi y0 y1 w
  rw [decide_eq_true h1] at C
  have bl : y0 ≤ max lo y0 ∧ max lo y0 ≤ y1 := by omega
  have bh : y0 ≤ min hi y1 ∧ min hi y1 ≤ y1 := by omega
  generalize max lo y0 = l at *
  generalize min hi y1 = h at *
  have P1 := prod_abs (show -1000000000000000 ≤ l - y0 by omega) (show l - y0 ≤ 1000000000000000 by omega) (show -1000000000000000 ≤ x1 - x0 by omega) (show x1 - x0 ≤ 1000000000000000 by omega)
  have P2 := prod_abs (show -1000000000000000 ≤ h - y0 by omega) (show h - y0 ≤ 1000000000000000 by omega) (show -1000000000000000 ≤ x1 - x0 by omega) (show x1 - x0 ≤ 1000000000000000 by omega)
  have M1 := fun w => product_any (l - y0) (x1 - x0) w (by omega) (by omega) (by omega) (by omega)
  have M2 := fun w => product_any (h - y0) (x1 - x0) w (by omega) (by omega) (by omega) (by omega)
  have D1 := fun w => divide_any 2 ((l - y0) * (x1 - x0)) (y1 - y0) w P1.1 P1.2 (by omega) (by omega)
  have D2 := fun w => divide_any 1 ((h - y0) * (x1 - x0)) (y1 - y0) w P2.1 P2.2 (by omega) (by omega)
  unfold Div at D1 D2
  generalize divQ ((l - y0) * (x1 - x0)) (y1 - y0) 2 = d1 at *
  generalize divQ ((h - y0) * (x1 - x0)) (y1 - y0) 1 = d2 at *
  obtain ⟨n1, q1, g1⟩ := d1
  obtain ⟨n2, q2, g2⟩ := d2
  have r0' := r0 n1 rfl
  have r1' := r1 n2 rfl
  simp only at D1 D2
  have e1 : IntKind.i64.wrap (x1 - x0) = x1 - x0 := IntWalk.i64_in _ (by omega)
  have e2 : IntKind.i64.wrap (y1 - y0) = y1 - y0 := IntWalk.i64_in _ (by omega)
  have e3 : IntKind.i64.wrap (l - y0) = l - y0 := IntWalk.i64_in _ (by omega)
  have e4 : IntKind.i64.wrap (h - y0) = h - y0 := IntWalk.i64_in _ (by omega)
  have e5 : IntKind.i64.wrap (x0 + n1) = x0 + n1 := IntWalk.i64_in _ (by omega)
  have e6 : IntKind.i64.wrap (x0 + n2) = x0 + n2 := IntWalk.i64_in _ (by omega)
  have ne1 : ¬ y1 < y0 := by omega
  have ne2 : ¬ y0 = y1 := by omega
  generalize (l - y0) * (x1 - x0) = N1 at *
  generalize (h - y0) * (x1 - x0) = N2 at *
  have C' := hide C
  have M1' := hide M1
  have M2' := hide M2
  have D1' := hide D1
  have D2' := hide D2
  clear C M1 M2 D1 D2 P1 P2 r0 r1 r0' r1' bl bh bx by' h1 hy
  go_enter Try.func107, Try.ntmps107
  go_wp2_with (go_at_call 90; refine (C'.out _).mono ?_; rintro e w1 ⟨rfl, hb⟩; have S0 : WSt w.heap.size x0 y0 x1 y1 lo hi w1 := wst_later (by simp [WSt, go_sem, World.cell?_alloc_past]) hb; obtain ⟨⟨k1, k2, k3, k4⟩, ⟨k5, k6, k7, k8⟩, k9, k10, k11, k12⟩ := id S0)
  go_region
  go_wp2_with (first
    | (go_at_call 73; refine (M1'.out _).mono ?_; clear M1'; rintro e w2 ⟨rfl, hb2⟩; have S1 : WSt w.heap.size x0 y0 x1 y1 l h w2 := wst_later (by simp [WSt, go_sem, k1, k2, k3, k4, k5, k6, k7, k8, k9, k10, k11, k12]) hb2; obtain ⟨⟨a1, a2, a3, a4⟩, ⟨a5, a6, a7, a8⟩, a9, a10, a11, a12⟩ := id S1)
    | (go_at_call 74; refine (D1'.out _).mono ?_; clear D1'; rintro e w3 ⟨rfl, hb3⟩; have S2 := wst_later S1 hb3; obtain ⟨⟨b1, b2, b3, b4⟩, ⟨b5, b6, b7, b8⟩, b9, b10, b11, b12⟩ := id S2)
    | (go_at_call 73; refine (M2'.out _).mono ?_; clear M2'; rintro e w4 ⟨rfl, hb4⟩; have S3 := wst_later S2 hb4; obtain ⟨⟨c1, c2, c3, c4⟩, ⟨c5, c6, c7, c8⟩, c9, c10, c11, c12⟩ := id S3)
    | (go_at_call 74; refine (D2'.out _).mono ?_; clear D2'; rintro e w5 ⟨rfl, hb5⟩; have S4 := wst_later S3 hb5; obtain ⟨⟨d1, d2, d3, d4⟩, ⟨d5, d6, d7, d8⟩, d9, d10, d11, d12⟩ := id S4))
  exact bodyPost_ret (v := .tuple #[.agg #[.int .i64 (x0 + n1), .int .i64 (x0 + n2)], .bool (decide (n1 ≤ n2))]) (by simp [results, Try.results107, go_sem, d9, d10]) rfl ⟨rfl, (by repeat (first | exact Below.refl _ _ | assumption | apply balloc | apply bdrew | (refine bset ?_ (by first | (simp; done) | omega | (simp; omega)) _) | (refine bnext ?_ (by assumption))))⟩
end Go.Proofs.Ytadnchcelocnaaa
