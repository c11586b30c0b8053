/-
  The statements' own helper known: what the document's examples say.
-/
import Derived.Test.YtckapcfofkeicaaWh
import Derived.Test.YtckapcfofkeicaaBalance
import Derived.Test.YtckapcfofkeicaaSame
namespace Go.Proofs.Ytckapcfofkeicaa
set_option linter.unusedSimpArgs false
set_option linter.unusedVariables false
open Go.RowKit

theorem known_mulDiv (w : World) : Calls Try.prog 20 #[.int .i64 (-7), .int .i64 5, .int .i64 3, .int .u8 3] w fun e w' => e = .returned (.tuple #[.int .i64 (-12), .int .i64 1, .int .i64 0]) ∧ Below w.heap.size w w' := by
  have h := mulDiv_any (-7) 5 3 3 w
  rwa [show mulDivQ (-7) 5 3 3 = (-12, 1, 0) by kernel_rfl] at h
theorem known_simplest (w : World) : Calls Try.prog 60 #[.agg #[.int .i64 314, .int .i64 100], .agg #[.int .i64 315, .int .i64 100]] w fun e w' => e = .returned (.tuple #[.agg #[.int .i64 22, .int .i64 7], .int .i64 0]) ∧ Below w.heap.size w w' := by
  have h := simplestF_any 200 314 100 315 100 w (by omega)
  rwa [show simplestQ 200 314 100 315 100 = ((22, 7), 0) by kernel_rfl] at h
theorem known_portions (w : World) (a : Option Addr) (hi : IsInts w a [2, 0, 1]) : Calls Try.prog 27 #[.int .i64 10, .slice a 3 3] w fun e w' => ∃ b c, e = .returned (.tuple #[.slice b 3 c, .int .i64 0]) ∧ IsInts w' b [6, 0, 4] ∧ Below w.heap.size w w' := by
  have h := portions_any 10 [2, 0, 1] a 3 w (by simp) hi
  rwa [show portQ 10 [2, 0, 1] = [6, 0, 4] by kernel_rfl, show portE 10 [2, 0, 1] = 0 by kernel_rfl] at h
theorem known_times (w : World) : Calls Try.prog 39 #[.agg #[.int .i64 2, .int .i64 3], .agg #[.int .i64 (-4), .int .i64 5], .int .i64 2] w fun e w' => e = .returned (.tuple #[.agg #[.int .i64 (-6), .int .i64 8], .int .i64 0]) ∧ Below w.heap.size w w' := by
  have h := times_any 2 3 (-4) 5 2 w
  rwa [show timesQ 2 3 (-4) 5 2 = (-6, 8, 0) by kernel_rfl] at h
theorem known_balance (w : World) (a : Option Addr) (hi : IsPairs w a [(0, 10), (3, 5), (2, 9)]) : Calls Try.prog 46 #[.slice a 3 3, .agg #[.int .i64 18, .int .i64 30]] w fun e w' => ∃ b c, e = .returned (.tuple #[.slice b 3 c, .agg #[.int .i64 18, .int .i64 24], .int .i64 0]) ∧ IsPairs w' b [(4, 10), (3, 5), (3, 9)] ∧ Below w.heap.size w w' := by
  have h := balance_any [(0, 10), (3, 5), (2, 9)] a 3 18 30 w (by simp) hi
  rwa [show balN [(0, 10), (3, 5), (2, 9)] 18 30 = [(4, 10), (3, 5), (3, 9)] by kernel_rfl, show balS [(0, 10), (3, 5), (2, 9)] 18 30 = (18, 24) by kernel_rfl, show balE [(0, 10), (3, 5), (2, 9)] 18 30 = 0 by kernel_rfl] at h
theorem known_where (w : World) (a : Option Addr) (hi : IsPairs w a hillK) : Calls Try.prog 53 #[.slice a 3 3, .agg #[.int .i64 2, .int .i64 4]] w fun e w' => ∃ b c, e = .returned (.tuple #[.slice b 2 c, .int .i64 0]) ∧ IsPairs w' b [(4, 8), (12, 16)] ∧ Below w.heap.size w w' := by
  have h := whereT_any hillK a 3 2 4 w (by simp [hillK]) hi
  rw [show whereTQ hillK 2 4 = ([(4, 8), (12, 16)], 0) by kernel_rfl] at h
  refine h.mono ?_
  rintro e w' ⟨v, rfl, hown, hb⟩
  obtain ⟨b, c, rfl, hp⟩ := pairs_of_owned hown rfl
  exact ⟨b, c, rfl, hp, hb⟩
theorem known_value (w : World) (a : Option Addr) (hi : IsPairs w a hillK) : Calls Try.prog 50 #[.slice a 3 3, .agg #[.int .i64 3, .int .i64 12]] w fun e w' => e = .returned (.tuple #[.agg #[.int .i64 1, .int .i64 5], .int .i64 0]) ∧ Below w.heap.size w w' := by
  have h := value_any hillK a 3 3 12 w (by simp [hillK]) hi
  rwa [show valueQ hillK 3 12 = (1, 5, 0) by kernel_rfl] at h
theorem known_ints (w : World) (a b : Option Addr) (ca cb : Nat) (h1 : IsInts w a [6, 0, 4]) (h2 : IsInts w b [6, 0, 4]) : Calls Try.prog 29 #[.slice a 3 ca, .slice b 3 cb] w fun e w' => e = .returned (.bool true) ∧ Below w.heap.size w w' := by
  have h := sameInts_any a b ca cb [6, 0, 4] [6, 0, 4] w (by simp) (by simp) h1 h2
  rwa [show decide (([6, 0, 4] : List Int) = [6, 0, 4]) = true by rfl] at h
theorem known_same (n : Nat) (zs : List (Int × Int)) (w : World) (a b : Option Addr) (ca cb : Nat) (hn : zs.length = n) (hl : zs.length ≤ 1000) (h1 : IsPairs w a zs) (h2 : IsPairs w b zs) : Calls Try.prog 37 #[.slice a n ca, .slice b n cb] w fun e w' => e = .returned (.bool true) ∧ Below w.heap.size w w' := by
  subst hn
  have h := sameRanges_any a b ca cb zs zs w (by omega) (by omega) h1 h2
  rwa [decide_eq_true rfl] at h
theorem ints_three_of {W : World} {n : Nat} {a b c : Int} (h0 : W.cell? ⟨n, 0, none⟩ = some (.int .i64 a)) (h1 : W.cell? ⟨n, 1, none⟩ = some (.int .i64 b)) (h2 : W.cell? ⟨n, 2, none⟩ = some (.int .i64 c)) : IsInts W (some ⟨n, 0, none⟩) [a, b, c] := by
  refine .inr ⟨_, _, rfl, fun i hi => ?_⟩
  simp at hi
  obtain rfl | rfl | rfl : i = 0 ∨ i = 1 ∨ i = 2 := by omega
  · exact h0
  · exact h1
  · exact h2

set_option maxHeartbeats 3200000 in
theorem known_any (w : World) : Calls Try.prog 22 #[] w fun e w' => e = .returned (.bool true) ∧ Below w.heap.size w w' := by
  go_enter Try.func22, Try.ntmps22
  go_wp2_with fail
  refine (known_mulDiv _).mono ?_
  rintro e w1 ⟨rfl, hb1⟩
  go_wp2_with fail
  refine (known_simplest _).mono ?_
  rintro e w2 ⟨rfl, hb2⟩
  go_wp2_with fail
  refine (known_portions _ _ (ints_three_of (by simp [go_sem, World.cell?_alloc_past]) (by simp [go_sem, World.cell?_alloc_past]) (by simp [go_sem, World.cell?_alloc_past]))).mono ?_
  rintro e w3 ⟨b3, n3, rfl, hi3, hb3⟩
  have f0 := later hb3 (a := ⟨w2.heap.size, 0, none⟩) (v := .int .i64 22) (by simp [go_sem, World.cell?_alloc_past])
  have f1 := later hb3 (a := ⟨w2.heap.size, 1, none⟩) (v := .int .i64 7) (by simp [go_sem, World.cell?_alloc_past])
  have B3 : Below w.heap.size w w3 := (by repeat (first | exact Below.refl _ _ | assumption | apply balloc | apply bdrew | (refine bset ?_ (by first | (simp; done) | omega | (simp; omega)) _) | (refine bnext ?_ (by assumption))))
  clear hb1 hb2 hb3
  go_wp2_with fail
  refine (known_ints _ _ _ _ _ (ints_later hi3 (balloc (Below.refl _ _))) (ints_three_of (by simp [go_sem, World.cell?_alloc_past]) (by simp [go_sem, World.cell?_alloc_past]) (by simp [go_sem, World.cell?_alloc_past]))).mono ?_
  rintro e w4 ⟨rfl, hb4⟩
  have B4 : Below w.heap.size w w4 := (by repeat (first | exact Below.refl _ _ | assumption | apply balloc | apply bdrew | (refine bset ?_ (by first | (simp; done) | omega | (simp; omega)) _) | (refine bnext ?_ (by assumption))))
  clear hb4 f0 f1 hi3 B3
  go_wp2_with fail
  refine (known_times _).mono ?_
  rintro e w5 ⟨rfl, hb5⟩
  have B5 : Below w.heap.size w w5 := (by repeat (first | exact Below.refl _ _ | assumption | apply balloc | apply bdrew | (refine bset ?_ (by first | (simp; done) | omega | (simp; omega)) _) | (refine bnext ?_ (by assumption))))
  clear hb5 B4
  go_wp2_with fail
  refine (known_balance _ _ (pairs_three_of (by simp [go_sem, World.cell?_alloc_past]) (by simp [go_sem, World.cell?_alloc_past]) (by simp [go_sem, World.cell?_alloc_past]) (by simp [go_sem, World.cell?_alloc_past]) (by simp [go_sem, World.cell?_alloc_past]) (by simp [go_sem, World.cell?_alloc_past]))).mono ?_
  rintro e w6 ⟨b6, n6, rfl, hi6, hb6⟩
  have x0 := later hb6 (a := ⟨w5.heap.size, 0, none⟩) (v := .int .i64 (-6)) (by simp [go_sem, World.cell?_alloc_past])
  have x1 := later hb6 (a := ⟨w5.heap.size, 1, none⟩) (v := .int .i64 8) (by simp [go_sem, World.cell?_alloc_past])
  have B6 : Below w.heap.size w w6 := (by repeat (first | exact Below.refl _ _ | assumption | apply balloc | apply bdrew | (refine bset ?_ (by first | (simp; done) | omega | (simp; omega)) _) | (refine bnext ?_ (by assumption))))
  have Hi6 := hide hi6
  clear hb6 B5 hi6
  go_wp2_with fail
  refine (hill_any _).mono ?_
  rintro e w7 ⟨rfl, hi7, hb7⟩
  have y0 := later hb7 (a := ⟨w6.heap.size, 0, none⟩) (v := .int .i64 18) (by simp [go_sem, World.cell?_alloc_past])
  have y1 := later hb7 (a := ⟨w6.heap.size, 1, none⟩) (v := .int .i64 24) (by simp [go_sem, World.cell?_alloc_past])
  have x0' := later hb7 (later (balloc (Below.refl _ _)) x0)
  have x1' := later hb7 (later (balloc (Below.refl _ _)) x1)
  have Hi6' := hide (pairs_later (pairs_later Hi6.out (balloc (Below.refl _ _))) hb7)
  have B7 : Below w.heap.size w w7 := (by repeat (first | exact Below.refl _ _ | assumption | apply balloc | apply bdrew | (refine bset ?_ (by first | (simp; done) | omega | (simp; omega)) _) | (refine bnext ?_ (by assumption))))
  simp only [World.size_alloc] at hi7
  have Hi7 := hide hi7
  clear hb7 B6 hi7 x0 x1 Hi6
  go_wp2_with fail
  refine (known_where _ _ Hi7.out).mono ?_
  rintro e w8 ⟨b8, n8, rfl, hi8, hb8⟩
  have y0' := later hb8 y0
  have y1' := later hb8 y1
  have x0 := later hb8 x0'
  have x1 := later hb8 x1'
  have Hi6 := hide (pairs_later Hi6'.out hb8)
  have B8 : Below w.heap.size w w8 := (by repeat (first | exact Below.refl _ _ | assumption | apply balloc | apply bdrew | (refine bset ?_ (by first | (simp; done) | omega | (simp; omega)) _) | (refine bnext ?_ (by assumption))))
  have Hi8 := hide hi8
  clear hb8 B7 hi8 x0' x1' y0 y1 Hi6' Hi7
  go_wp2_with fail
  refine (hill_any _).mono ?_
  rintro e w9 ⟨rfl, hi9, hb9⟩
  have y0 := later hb9 y0'
  have y1 := later hb9 y1'
  have x0' := later hb9 x0
  have x1' := later hb9 x1
  have Hi6' := hide (pairs_later Hi6.out hb9)
  have Hi8' := hide (pairs_later Hi8.out hb9)
  have Hi9 := hide hi9
  have B9 : Below w.heap.size w w9 := (by repeat (first | exact Below.refl _ _ | assumption | apply balloc | apply bdrew | (refine bset ?_ (by first | (simp; done) | omega | (simp; omega)) _) | (refine bnext ?_ (by assumption))))
  clear hb9 B8 hi9 x0 x1 y0' y1' Hi6 Hi8
  go_wp2_with fail
  refine (known_value _ _ Hi9.out).mono ?_
  rintro e w10 ⟨rfl, hb10⟩
  have y0' := later hb10 y0
  have y1' := later hb10 y1
  have x0 := fun o => later (balloc (o := o) (Below.refl _ _)) (later hb10 x0')
  have x1 := fun o => later (balloc (o := o) (Below.refl _ _)) (later hb10 x1')
  have Hi6 := hide (pairs_later Hi6'.out hb10)
  have Hi8 := hide (pairs_later Hi8'.out hb10)
  have B10 : Below w.heap.size w w10 := (by repeat (first | exact Below.refl _ _ | assumption | apply balloc | apply bdrew | (refine bset ?_ (by first | (simp; done) | omega | (simp; omega)) _) | (refine bnext ?_ (by assumption))))
  clear hb10 B9 x0' x1' y0 y1 Hi6' Hi8' Hi9
  go_wp2_with fail
  refine (known_same 3 [(4, 10), (3, 5), (3, 9)] _ _ _ _ _ rfl (by simp) (pairs_later Hi6.out (balloc (balloc (Below.refl _ _)))) (pairs_three_of (by simp [go_sem, World.cell?_alloc_past]) (by simp [go_sem, World.cell?_alloc_past]) (by simp [go_sem, World.cell?_alloc_past]) (by simp [go_sem, World.cell?_alloc_past]) (by simp [go_sem, World.cell?_alloc_past]) (by simp [go_sem, World.cell?_alloc_past]))).mono ?_
  rintro e w11 ⟨rfl, hb11⟩
  have y0 := later hb11 (later (balloc (balloc (Below.refl _ _))) y0')
  have y1 := later hb11 (later (balloc (balloc (Below.refl _ _))) y1')
  have Hi8' := hide (pairs_later (pairs_later Hi8.out (balloc (balloc (Below.refl _ _)))) hb11)
  have B11 : Below w.heap.size w w11 := (by repeat (first | exact Below.refl _ _ | assumption | apply balloc | apply bdrew | (refine bset ?_ (by first | (simp; done) | omega | (simp; omega)) _) | (refine bnext ?_ (by assumption))))
  clear hb11 B10 x0 x1 y0' y1' Hi6 Hi8
  go_wp2_with fail
  refine (known_same 2 [(4, 8), (12, 16)] _ _ _ _ _ rfl (by simp) (pairs_later Hi8'.out (balloc (Below.refl _ _))) (pairs_two_of (by simp [go_sem, World.cell?_alloc_past]) (by simp [go_sem, World.cell?_alloc_past]) (by simp [go_sem, World.cell?_alloc_past]) (by simp [go_sem, World.cell?_alloc_past]))).mono ?_
  rintro e w12 ⟨rfl, hb12⟩
  go_wp2_with fail
  go_ret
  exact ⟨rfl, (by repeat (first | exact Below.refl _ _ | assumption | apply balloc | apply bdrew | (refine bset ?_ (by first | (simp; done) | omega | (simp; omega)) _) | (refine bnext ?_ (by assumption))))⟩
end Go.Proofs.Ytckapcfofkeicaa
