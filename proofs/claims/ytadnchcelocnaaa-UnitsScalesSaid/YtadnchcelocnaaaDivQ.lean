/-
  units.wide: divide.
-/
import Derived.Test.YtadnchcelocnaaaDivide
namespace Go.Proofs.Ytadnchcelocnaaa
set_option linter.unusedSimpArgs false
set_option linter.unusedVariables false
open Go.RowKit

/-- Is the quotient n with the rest r (of the divisor c) rounded up? -/
def upQ (how n r c : Int) : Bool := (decide (how = 2) && decide (0 < r)) || (decide (how = 3) && (decide (c - r < r) || (decide (r = c - r) && decide (¬ n.tmod 2 = 0))))
def divQ (N c how : Int) : Int × Int × Bool :=
  if (floorQ N c).2.2 = false then (0, 0, false)
  else if upQ how (floorQ N c).1 (floorQ N c).2.1 c = true then ((floorQ N c).1 + 1, -(c - (floorQ N c).2.1), allIn 1000000000000000 [(floorQ N c).1 + 1])
  else ((floorQ N c).1, (floorQ N c).2.1, allIn 1000000000000000 [(floorQ N c).1])

/-- 'divide' comes to what the quotient q, its rest r and ok come to. -/
def Div (how N c : Int) (w : World) : Prop :=
  Calls Try.prog 74 #[.agg #[.int .i64 (N / 18446744073709551616), .int .u64 (N % 18446744073709551616)], .int .i64 c, .int .u8 how] w fun e w' => e = .returned (.tuple #[.int .i64 (divQ N c how).1, .int .i64 (divQ N c how).2.1, .bool (divQ N c how).2.2]) ∧ Below w.heap.size w w'

/-- What a walk through 'divide' needs of 'floor'. -/
def Flo (N c n r : Int) (k : Bool) : Prop := ∀ w : World,
  Calls Try.prog 117 #[.agg #[.int .i64 (N / 18446744073709551616), .int .u64 (N % 18446744073709551616)], .int .i64 c] w fun e w' => e = .returned (.tuple #[.int .i64 n, .int .i64 r, .bool k]) ∧ Below w.heap.size w w'

section
variable (how N c n r : Int) (w : World)
set_option maxHeartbeats 400000

theorem div_far (H : Flo N c n r false) (hf : Hid (floorQ N c = (n, r, false))) : Div how N c w := by
  unfold Div
  have e : divQ N c how = (0, 0, false) := by unfold divQ; rw [hf.out, if_pos rfl]
  rw [e]
  clear e
  go_enter Try.func74, Try.ntmps74
  go_wp2_with (go_at_call 117; refine (H _).mono ?_; rintro e w' ⟨rfl, hb⟩)
  go_ret3
  exact ⟨rfl, (by repeat (first | exact Below.refl _ _ | assumption | apply balloc | apply bdrew | (refine bset ?_ (by first | (simp; done) | omega | (simp; omega)) _) | (refine bnext ?_ (by assumption))))⟩

theorem div_up2 (H : Flo N c n r true) (hf : Hid (floorQ N c = (n, r, true))) (c0 : 1 ≤ c) (c1 : c ≤ 1000000000000000) (n0 : -1000000000000001 ≤ n) (n1 : n ≤ 1000000000000000) (r0 : 0 ≤ r) (r1 : r < c) (h : 0 < r) : Div 2 N c w := by
  unfold Div
  have e : divQ N c 2 = (n + 1, -(c - r), allIn 1000000000000000 [n + 1]) := by unfold divQ; rw [hf.out, if_neg (by simp), if_pos (by simp [upQ, h])]
  rw [e]
  clear e
  go_enter Try.func74, Try.ntmps74
  go_wp2_with (first | (go_at_call 117; refine (H _).mono ?_; rintro e w' ⟨rfl, hb⟩) | (go_at_call 71; refine (areNumbers_any [n + 1] _ _ _ (ints_one _ _ _) (by simp)).mono ?_; rintro e w' ⟨rfl, rfl⟩))
  go_ret3
  exact ⟨rfl, (by repeat (first | exact Below.refl _ _ | assumption | apply balloc | apply bdrew | (refine bset ?_ (by first | (simp; done) | omega | (simp; omega)) _) | (refine bnext ?_ (by assumption))))⟩

theorem div_stay2 (H : Flo N (c) n r true) (hf : Hid (floorQ N (c) = (n, r, true))) (c0 : 1 ≤ c) (c1 : c ≤ 1000000000000000) (n0 : -1000000000000001 ≤ n) (n1 : n ≤ 1000000000000000) (r0 : 0 ≤ r) (r1 : r < c) (h : r ≤ 0) : Div 2 N (c) w := by
  unfold Div
  have e : divQ N (c) 2 = (n, r, allIn 1000000000000000 [n]) := by unfold divQ; rw [hf.out, if_neg (by simp), if_neg (by simp [upQ]; omega)]
  rw [e]
  clear e
  go_enter Try.func74, Try.ntmps74
  go_wp2_with (first | (go_at_call 117; refine (H _).mono ?_; rintro e w' ⟨rfl, hb⟩) | (go_at_call 71; refine (areNumbers_any [n] _ _ _ (ints_one _ _ _) (by simp)).mono ?_; rintro e w' ⟨rfl, rfl⟩))
  go_ret3
  exact ⟨rfl, (by repeat (first | exact Below.refl _ _ | assumption | apply balloc | apply bdrew | (refine bset ?_ (by first | (simp; done) | omega | (simp; omega)) _) | (refine bnext ?_ (by assumption))))⟩

theorem div_up3a (H : Flo N (c) n r true) (hf : Hid (floorQ N (c) = (n, r, true))) (c0 : 1 ≤ c) (c1 : c ≤ 1000000000000000) (n0 : -1000000000000001 ≤ n) (n1 : n ≤ 1000000000000000) (r0 : 0 ≤ r) (r1 : r < c) (h : c - r < r) : Div 3 N (c) w := by
  unfold Div
  have e : divQ N (c) 3 = (n + 1, -(c - r), allIn 1000000000000000 [n + 1]) := by unfold divQ; rw [hf.out, if_neg (by simp), if_pos (by simp [upQ, h])]
  rw [e]
  clear e
  go_enter Try.func74, Try.ntmps74
  go_wp2_with (first | (go_at_call 117; refine (H _).mono ?_; rintro e w' ⟨rfl, hb⟩) | (go_at_call 71; refine (areNumbers_any [n + 1] _ _ _ (ints_one _ _ _) (by simp)).mono ?_; rintro e w' ⟨rfl, rfl⟩))
  go_ret3
  exact ⟨rfl, (by repeat (first | exact Below.refl _ _ | assumption | apply balloc | apply bdrew | (refine bset ?_ (by first | (simp; done) | omega | (simp; omega)) _) | (refine bnext ?_ (by assumption))))⟩

theorem div_up3b (H : Flo N (r + r) n r true) (hf : Hid (floorQ N (r + r) = (n, r, true))) (c0 : 1 ≤ r + r) (c1 : r + r ≤ 1000000000000000) (n0 : -1000000000000001 ≤ n) (n1 : n ≤ 1000000000000000) (r0 : 0 ≤ r) (r1 : r < r + r) (h : (n.tmod 2 != 0) = true) : Div 3 N (r + r) w := by
  unfold Div
  have e : divQ N (r + r) 3 = (n + 1, -(r + r - r), allIn 1000000000000000 [n + 1]) := by unfold divQ; rw [hf.out, if_neg (by simp), if_pos (by simp [upQ] at h ⊢; omega)]
  rw [e]
  clear e
  have x1 : r + r - r = r := by omega
  go_enter Try.func74, Try.ntmps74
  go_wp2_with (first | (go_at_call 117; refine (H _).mono ?_; rintro e w' ⟨rfl, hb⟩) | (go_at_call 71; refine (areNumbers_any [n + 1] _ _ _ (ints_one _ _ _) (by simp)).mono ?_; rintro e w' ⟨rfl, rfl⟩))
  go_ret3
  exact ⟨ret_iib (by rw [x1]), (by repeat (first | exact Below.refl _ _ | assumption | apply balloc | apply bdrew | (refine bset ?_ (by first | (simp; done) | omega | (simp; omega)) _) | (refine bnext ?_ (by assumption))))⟩

theorem div_stay3b (H : Flo N (r + r) n r true) (hf : Hid (floorQ N (r + r) = (n, r, true))) (c0 : 1 ≤ r + r) (c1 : r + r ≤ 1000000000000000) (n0 : -1000000000000001 ≤ n) (n1 : n ≤ 1000000000000000) (r0 : 0 ≤ r) (r1 : r < r + r) (h : (n.tmod 2 != 0) = false) : Div 3 N (r + r) w := by
  unfold Div
  have e : divQ N (r + r) 3 = (n, r, allIn 1000000000000000 [n]) := by unfold divQ; rw [hf.out, if_neg (by simp), if_neg (by simp [upQ] at h ⊢; omega)]
  rw [e]
  clear e
  have x1 : r + r - r = r := by omega
  go_enter Try.func74, Try.ntmps74
  go_wp2_with (first | (go_at_call 117; refine (H _).mono ?_; rintro e w' ⟨rfl, hb⟩) | (go_at_call 71; refine (areNumbers_any [n] _ _ _ (ints_one _ _ _) (by simp)).mono ?_; rintro e w' ⟨rfl, rfl⟩))
  go_ret3
  exact ⟨rfl, (by repeat (first | exact Below.refl _ _ | assumption | apply balloc | apply bdrew | (refine bset ?_ (by first | (simp; done) | omega | (simp; omega)) _) | (refine bnext ?_ (by assumption))))⟩

theorem div_stay3c (H : Flo N (c) n r true) (hf : Hid (floorQ N (c) = (n, r, true))) (c0 : 1 ≤ c) (c1 : c ≤ 1000000000000000) (n0 : -1000000000000001 ≤ n) (n1 : n ≤ 1000000000000000) (r0 : 0 ≤ r) (r1 : r < c) (h : r < c - r) : Div 3 N (c) w := by
  unfold Div
  have e : divQ N (c) 3 = (n, r, allIn 1000000000000000 [n]) := by unfold divQ; rw [hf.out, if_neg (by simp), if_neg (by simp [upQ]; omega)]
  rw [e]
  clear e
  have x1 : (r == c - r) = false := by simp; omega
  go_enter Try.func74, Try.ntmps74
  go_wp2_with (first | (go_at_call 117; refine (H _).mono ?_; rintro e w' ⟨rfl, hb⟩) | (go_at_call 71; refine (areNumbers_any [n] _ _ _ (ints_one _ _ _) (by simp)).mono ?_; rintro e w' ⟨rfl, rfl⟩))
  go_ret3
  exact ⟨rfl, (by repeat (first | exact Below.refl _ _ | assumption | apply balloc | apply bdrew | (refine bset ?_ (by first | (simp; done) | omega | (simp; omega)) _) | (refine bnext ?_ (by assumption))))⟩

theorem div_stay1 (H : Flo N (c) n r true) (hf : Hid (floorQ N (c) = (n, r, true))) (c0 : 1 ≤ c) (c1 : c ≤ 1000000000000000) (n0 : -1000000000000001 ≤ n) (n1 : n ≤ 1000000000000000) (r0 : 0 ≤ r) (r1 : r < c) (h2 : (how == 2) = false) (h3 : (how == 3) = false) : Div how N (c) w := by
  unfold Div
  have e : divQ N (c) how = (n, r, allIn 1000000000000000 [n]) := by unfold divQ; rw [hf.out, if_neg (by simp), if_neg (by simp at h2 h3; simp [upQ, h2, h3])]
  rw [e]
  clear e
  go_enter Try.func74, Try.ntmps74
  go_wp2_with (first | (go_at_call 117; refine (H _).mono ?_; rintro e w' ⟨rfl, hb⟩) | (go_at_call 71; refine (areNumbers_any [n] _ _ _ (ints_one _ _ _) (by simp)).mono ?_; rintro e w' ⟨rfl, rfl⟩))
  go_ret3
  exact ⟨rfl, (by repeat (first | exact Below.refl _ _ | assumption | apply balloc | apply bdrew | (refine bset ?_ (by first | (simp; done) | omega | (simp; omega)) _) | (refine bnext ?_ (by assumption))))⟩
end

theorem divide_any (how N c : Int) (w : World) (h0 : -1000000000000000000000000000000 ≤ N) (h1 : N ≤ 1000000000000000000000000000000) (c0 : 1 ≤ c) (c1 : c ≤ 1000000000000000) : Div how N c w := by
  have H : Flo N c (floorQ N c).1 (floorQ N c).2.1 (floorQ N c).2.2 := fun w => floor_any N c w h0 h1 c0 c1
  have B := floorQ_bounds N c c0 c1
  have R : (floorQ N c).2.2 = true → (floorQ N c).2.1 < c := by
    have r1 := Int.emod_lt_of_pos N (show 0 < c by omega)
    unfold floorQ
    split <;> split <;> simp <;> omega
  obtain ⟨Q, hQ⟩ : ∃ Q, floorQ N c = Q := ⟨_, rfl⟩
  rw [hQ] at H B R
  obtain ⟨n, r, k⟩ := Q
  obtain ⟨B1, B2, B3, B4⟩ := B
  simp only at B1 B2 B3 B4 R H
  cases k with
  | false => exact div_far how N c n r w H hQ
  | true =>
    have R := R rfl
    by_cases w2 : how = 2
    · subst w2
      by_cases h : 0 < r
      · exact div_up2 N c n r w H hQ c0 c1 B1 B2 B3 R h
      · exact div_stay2 N c n r w H hQ c0 c1 B1 B2 B3 R (by omega)
    · by_cases w3 : how = 3
      · subst w3
        by_cases g1 : c - r < r
        · exact div_up3a N c n r w H hQ c0 c1 B1 B2 B3 R g1
        · by_cases g2 : r < c - r
          · exact div_stay3c N c n r w H hQ c0 c1 B1 B2 B3 R g2
          · obtain rfl : c = r + r := by omega
            by_cases g3 : (n.tmod 2 != 0) = true
            · exact div_up3b N n r w H hQ c0 c1 B1 B2 B3 R g3
            · exact div_stay3b N n r w H hQ c0 c1 B1 B2 B3 R (by simpa using g3)
      · exact div_stay1 how N c n r w H hQ c0 c1 B1 B2 B3 R (by simpa using w2) (by simpa using w3)
end Go.Proofs.Ytadnchcelocnaaa
