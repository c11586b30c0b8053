/-
  The reference: spread; what it has to do with what is gathered. The reference: spread, walked. units.Less, units.Over. The reference: Less, Times, Over. UnitsPairs: the walk. Tables: the value is the least range round the values at the ends and at the knots between them.
-/
import Derived.Test.YtimfbjnpalgmcaaGreatLst
import Derived.Test.YtimfbjnpalgmcaaGreatFrame
import Derived.Deep.RegionHeld3
namespace Go.Proofs.YtimfbjnpalgmcaaGreat
set_option linter.unusedSimpArgs false
set_option linter.unusedVariables false
open Go.RowKit

/-- What is rounded up. -/
def upV (N c : Int) : Int := N / c + (if 0 < N % c then 1 else 0)
theorem divQ_dn1 {N c : Int} (c0 : 1 ≤ c) : ((divQ N c 1).2.2 = true ∧ (divQ N c 1).1 = N / c ∧ -1000000000000000 ≤ N / c ∧ N / c ≤ 1000000000000000) ∨ ((divQ N c 1).2.2 = false ∧ (N / c < -1000000000000000 ∨ 1000000000000000 < N / c)) := by
  cases hf : (floorQ N c).2.2 with
  | false =>
    have o := floorQ_out c0 hf
    have hd : (divQ N c 1).2.2 = false := by unfold divQ; rw [hf]; simp
    exact .inr ⟨hd, by omega⟩
  | true =>
    obtain ⟨f, _, _⟩ := floorQ_true c0 hf
    rw [divQ_eq f, upQ1, if_neg (by simp)]
    cases hk : allIn 1000000000000000 [N / c] with
    | true => exact .inl ⟨rfl, rfl, (allIn_one.1 hk).1, (allIn_one.1 hk).2⟩
    | false =>
      refine .inr ⟨rfl, ?_⟩
      by_cases h0 : -1000000000000000 ≤ N / c
      · by_cases h1 : N / c ≤ 1000000000000000
        · rw [allIn_one.2 ⟨h0, h1⟩] at hk; cases hk
        · omega
      · omega
theorem divQ_up1 {N c : Int} (c0 : 1 ≤ c) : ((divQ N c 2).2.2 = true ∧ (divQ N c 2).1 = upV N c ∧ -1000000000000000 ≤ upV N c ∧ upV N c ≤ 1000000000000000) ∨ ((divQ N c 2).2.2 = false ∧ (upV N c < -1000000000000000 ∨ 1000000000000000 < upV N c)) := by
  cases hf : (floorQ N c).2.2 with
  | false =>
    have o := floorQ_out c0 hf
    have hd : (divQ N c 2).2.2 = false := by unfold divQ; rw [hf]; simp
    refine .inr ⟨hd, ?_⟩
    unfold upV
    split <;> omega
  | true =>
    obtain ⟨f, _, _⟩ := floorQ_true c0 hf
    have e : upV N c = if upQ 2 (N / c) (N % c) c = true then N / c + 1 else N / c := by
      unfold upV; rw [upQ2]
      by_cases h : 0 < N % c
      · rw [if_pos h, if_pos (decide_eq_true h)]
      · rw [if_neg h, if_neg (by simpa using h)]; omega
    rw [divQ_eq f]
    have fin : ∀ v : Int, (allIn 1000000000000000 [v] = true ∧ True ∧ -1000000000000000 ≤ v ∧ v ≤ 1000000000000000) ∨ (allIn 1000000000000000 [v] = false ∧ (v < -1000000000000000 ∨ 1000000000000000 < v)) := by
      intro v
      cases hk : allIn 1000000000000000 [v] with
      | true => exact .inl ⟨rfl, trivial, (allIn_one.1 hk).1, (allIn_one.1 hk).2⟩
      | false =>
        refine .inr ⟨rfl, ?_⟩
        by_cases h0 : -1000000000000000 ≤ v
        · by_cases h1 : v ≤ 1000000000000000
          · rw [allIn_one.2 ⟨h0, h1⟩] at hk; cases hk
          · omega
        · omega
    rw [e]
    cases hu : upQ 2 (N / c) (N % c) c with
    | true => simp only [if_true]; exact fin _
    | false => simp only [Bool.false_eq_true, if_false]; exact fin _
/-- The reference's Floor, and what it is rounded up to. -/
theorem refFlo_cases {N c : Int} (c0 : 1 ≤ c) : ((refFlo N c).2.2 = true ∧ (refFlo N c).1 = N / c ∧ (refFlo N c).1 + (if 0 < (refFlo N c).2.1 then 1 else 0) = upV N c) ∨ ((refFlo N c).2.2 = false ∧ (N / c < -1000000000000001 ∨ 1000000000000000 < N / c)) := by
  cases h : (refFlo N c).2.2 with
  | false => exact .inr ⟨rfl, floorQ_out c0 (refFlo_false c0 h)⟩
  | true =>
    obtain ⟨e, _, _⟩ := refFlo_true c0 h
    refine .inl ⟨rfl, by rw [e], ?_⟩
    rw [e]; rfl
theorem upV_le {N c : Int} : N / c ≤ upV N c ∧ upV N c ≤ N / c + 1 := by unfold upV; split <;> omega

/-- What has been gathered of the first quotients. -/
def gF (q : Nat → Int × Int × Int) : Nat → Gth
  | 0 => ⟨0, 0, false, false⟩
  | j + 1 => gQuo (gF q j) (q j).1 (q j).2.1 (q j).2.2
/-- What the reference holds after the first quotients. -/
def rStep (first : Bool) (s : Int × Int × Bool) (f : Int × Int × Bool) : Int × Int × Bool :=
  (min (if first then f.1 else s.1) f.1, max (if first then f.1 + (if 0 < f.2.1 then 1 else 0) else s.2.1) (f.1 + (if 0 < f.2.1 then 1 else 0)), s.2.2 && f.2.2)
def rF (q : Nat → Int × Int × Int) : Nat → Int × Int × Bool
  | 0 => (0, 0, true)
  | j + 1 => rStep (decide (j = 0)) (rF q j) (refFlo ((q j).1 * (q j).2.1) (q j).2.2)
theorem spread_inv (q : Nat → Int × Int × Int) (n : Nat) (hc : ∀ j, j < n → 1 ≤ (q j).2.2) : ∀ j, j < n →
    (gF q (j + 1)).s = true ∧ ((gF q (j + 1)).o = false → (rF q (j + 1)).2.2 = true ∧ (gF q (j + 1)).l = (rF q (j + 1)).1 ∧ (gF q (j + 1)).h = (rF q (j + 1)).2.1 ∧ (-1000000000000000 ≤ (rF q (j + 1)).1 ∧ (rF q (j + 1)).1 ≤ 1000000000000000) ∧ -1000000000000000 ≤ (rF q (j + 1)).2.1 ∧ (rF q (j + 1)).2.1 ≤ 1000000000000000) ∧
    ((gF q (j + 1)).o = true → (rF q (j + 1)).2.2 = true → (rF q (j + 1)).1 < -1000000000000000 ∨ 1000000000000000 < (rF q (j + 1)).2.1) := by
  intro j
  induction j with
  | zero =>
    intro hj
    have c0 := hc 0 hj
    have D := divQ_dn1 (N := (q 0).1 * (q 0).2.1) c0
    have U := divQ_up1 (N := (q 0).1 * (q 0).2.1) c0
    have R := refFlo_cases (N := (q 0).1 * (q 0).2.1) c0
    have V := upV_le (N := (q 0).1 * (q 0).2.1) (c := (q 0).2.2)
    simp only [gF, rF, gQuo, gAdd, rStep, decide_true, if_true, Bool.false_or, Bool.true_and, Bool.false_eq_true, if_false]
    generalize refFlo ((q 0).1 * (q 0).2.1) (q 0).2.2 = f at *
    generalize divQ ((q 0).1 * (q 0).2.1) (q 0).2.2 1 = d at *
    generalize divQ ((q 0).1 * (q 0).2.1) (q 0).2.2 2 = u at *
    generalize upV ((q 0).1 * (q 0).2.1) (q 0).2.2 = v at *
    generalize (q 0).1 * (q 0).2.1 / (q 0).2.2 = x at *
    obtain ⟨f1, f2, f3⟩ := f
    obtain ⟨d1, d2, d3⟩ := d
    obtain ⟨u1, u2, u3⟩ := u
    simp only at *
    generalize f1 + (if 0 < f2 then 1 else 0) = y at *
    refine ⟨trivial, ?_, ?_⟩
    · intro h
      rcases D with ⟨rfl, rfl, D⟩ | ⟨rfl, D⟩
      · rcases U with ⟨rfl, rfl, U⟩ | ⟨rfl, U⟩
        · rcases R with ⟨rfl, rfl, rfl⟩ | ⟨rfl, R⟩
          · refine ⟨rfl, ?_, ?_, ?_, ?_⟩ <;> omega
          · omega
        · simp at h
      · simp at h
    · intro h k
      rcases R with ⟨rfl, rfl, rfl⟩ | ⟨rfl, R⟩
      · rcases D with ⟨rfl, rfl, D⟩ | ⟨rfl, D⟩
        · rcases U with ⟨rfl, rfl, U⟩ | ⟨rfl, U⟩
          · simp at h
          · omega
        · omega
      · cases k
  | succ j ih =>
    intro hj
    obtain ⟨i1, i2, i3⟩ := ih (by omega)
    have c0 := hc (j + 1) hj
    have D := divQ_dn1 (N := (q (j + 1)).1 * (q (j + 1)).2.1) c0
    have U := divQ_up1 (N := (q (j + 1)).1 * (q (j + 1)).2.1) c0
    have R := refFlo_cases (N := (q (j + 1)).1 * (q (j + 1)).2.1) c0
    have V := upV_le (N := (q (j + 1)).1 * (q (j + 1)).2.1) (c := (q (j + 1)).2.2)
    have e1 : gF q (j + 1 + 1) = gQuo (gF q (j + 1)) (q (j + 1)).1 (q (j + 1)).2.1 (q (j + 1)).2.2 := rfl
    have e2 : rF q (j + 1 + 1) = rStep false (rF q (j + 1)) (refFlo ((q (j + 1)).1 * (q (j + 1)).2.1) (q (j + 1)).2.2) := rfl
    rw [e1, e2]
    clear e1 e2 ih
    generalize gF q (j + 1) = g at *
    generalize rF q (j + 1) = s at *
    unfold gQuo gAdd rStep
    generalize refFlo ((q (j + 1)).1 * (q (j + 1)).2.1) (q (j + 1)).2.2 = f at *
    generalize divQ ((q (j + 1)).1 * (q (j + 1)).2.1) (q (j + 1)).2.2 1 = d at *
    generalize divQ ((q (j + 1)).1 * (q (j + 1)).2.1) (q (j + 1)).2.2 2 = u at *
    generalize upV ((q (j + 1)).1 * (q (j + 1)).2.1) (q (j + 1)).2.2 = v at *
    generalize (q (j + 1)).1 * (q (j + 1)).2.1 / (q (j + 1)).2.2 = x at *
    obtain ⟨f1, f2, f3⟩ := f
    obtain ⟨d1, d2, d3⟩ := d
    obtain ⟨u1, u2, u3⟩ := u
    obtain ⟨gl, gh, gs, go⟩ := g
    obtain ⟨s1, s2, s3⟩ := s
    simp only [Bool.false_eq_true, if_false] at *
    subst i1
    simp only [if_true]
    generalize f1 + (if 0 < f2 then 1 else 0) = y at *
    refine ⟨trivial, ?_, ?_⟩
    · intro h
      rcases D with ⟨rfl, rfl, D⟩ | ⟨rfl, D⟩
      · rcases U with ⟨rfl, rfl, U⟩ | ⟨rfl, U⟩
        · have h' : go = false := by simpa using h
          obtain ⟨rfl, rfl, rfl, b1, b2⟩ := i2 h'
          rcases R with ⟨rfl, rfl, rfl⟩ | ⟨rfl, R⟩
          · refine ⟨rfl, rfl, rfl, ?_, ?_⟩ <;> omega
          · omega
        · simp at h
      · simp at h
    · intro h k
      have k1 : s3 = true := by cases s3 <;> simp_all
      have k2 : f3 = true := by cases f3 <;> simp_all
      rcases R with ⟨_, rfl, rfl⟩ | ⟨r, R⟩
      · rcases D with ⟨rfl, rfl, D⟩ | ⟨rfl, D⟩
        · rcases U with ⟨rfl, rfl, U⟩ | ⟨rfl, U⟩
          · have h' : go = true := by simpa using h
            have := i3 h' k1
            omega
          · omega
        · omega
      · rw [k2] at r; cases r
/-- What the reference's spread returns. -/
def sprQ (s : Int × Int × Bool) : Int × Int × Int := if (s.2.2 && allIn 1000000000000000 [s.1, s.2.1]) = true then (s.1, s.2.1, 0) else (0, 0, 10)
theorem spread_is (q : Nat → Int × Int × Int) (j : Nat) (hc : ∀ i, i < j + 1 → 1 ≤ (q i).2.2) : gRes (gF q (j + 1)) = sprQ (rF q (j + 1)) := by
  obtain ⟨i1, i2, i3⟩ := spread_inv q (j + 1) hc j (by omega)
  unfold gRes sprQ
  cases ho : (gF q (j + 1)).o with
  | false =>
    obtain ⟨a, b, c, d, e⟩ := i2 ho
    rw [if_neg (by simp), a, Bool.true_and, if_pos (allIn_two.2 ⟨d, e⟩), b, c]
  | true =>
    rw [if_pos rfl, if_neg]
    intro h
    rw [Bool.and_eq_true] at h
    have := i3 ho h.1
    have k := allIn_two.1 h.2
    omega
end Go.Proofs.YtimfbjnpalgmcaaGreat

namespace Go.Proofs.YtimfbjnpalgmcaaGreat
set_option linter.unusedSimpArgs false
set_option linter.unusedVariables false
open Go.RowKit

/-- The quotients in their order. -/
def qOf (xs : List Int) (fs : List (Int × Int)) (m j : Nat) : Int × Int × Int := (xs.getD (j / m) 0, (fs.getD (j % m) (0, 0)).1, (fs.getD (j % m) (0, 0)).2)
theorem qOf_at (xs : List Int) (fs : List (Int × Int)) {m i k : Nat} (hk : k < m) : qOf xs fs m (i * m + k) = (xs.getD i 0, (fs.getD k (0, 0)).1, (fs.getD k (0, 0)).2) := by
  have e1 : (i * m + k) / m = i := by
    rw [Nat.mul_comm, Nat.mul_add_div (by omega), Nat.div_eq_of_lt hk, Nat.add_zero]
  have e2 : (i * m + k) % m = k := by
    rw [Nat.mul_comm, Nat.mul_add_mod, Nat.mod_eq_of_lt hk]
  unfold qOf
  rw [e1, e2]
/-- The reference's state, as it lies in the walk's slots. -/
def sAt (s : Int × Int × Bool) (lo hi all : Value) : Prop := lo = .int .i64 s.1 ∧ hi = .int .i64 s.2.1 ∧ all = .bool s.2.2

set_option maxRecDepth 100000 in
set_option maxHeartbeats 6400000 in
theorem spread_walk (xs : List Int) (fs : List (Int × Int)) (a b : Option Addr) (ca cb m : Nat) (x y E : Int) (w : World) (hm : fs.length = m) (hx : xs.length ≤ 1000) (hf : m ≤ 1000) (hxs : Hid (∀ i, i < xs.length → -1000000000000000 ≤ xs.getD i 0 ∧ xs.getD i 0 ≤ 1000000000000000))
    (hfs : Hid (∀ k, k < m → (-1000000000000000 ≤ (fs.getD k (0, 0)).1 ∧ (fs.getD k (0, 0)).1 ≤ 1000000000000000) ∧ 1 ≤ (fs.getD k (0, 0)).2 ∧ (fs.getD k (0, 0)).2 ≤ 1000000000000000))
    (F : Hid (∀ W, Calls Tryz.prog 166 #[.int .i64 (rF (qOf xs fs m) (xs.length * m)).1, .int .i64 (rF (qOf xs fs m) (xs.length * m)).2.1, .bool (rF (qOf xs fs m) (xs.length * m)).2.2] W fun e w' => e = .returned (.tuple #[.agg #[.int .i64 x, .int .i64 y], .int .i64 E]) ∧ Below W.heap.size W w'))
    (h1 : Hid (IsInts w a xs)) (h2 : Hid (IsPairs w b fs)) :
    Calls Tryz.prog 150 #[.slice a xs.length ca, .slice b fs.length cb] w fun e w' => e = .returned (.tuple #[.agg #[.int .i64 x, .int .i64 y], .int .i64 E]) ∧ Below w.heap.size w w' := by
  obtain ⟨R, hR⟩ : ∃ R : Nat → Int × Int × Bool, (∀ j, rF (qOf xs fs m) j = R j) := ⟨_, fun _ => rfl⟩
  have HS : Hid (∀ i k, k < m → rStep (decide (i * m + k = 0)) (R (i * m + k)) (refFlo (xs.getD i 0 * (fs.getD k (0, 0)).1) (fs.getD k (0, 0)).2) = R (i * m + k + 1)) := by
    intro i k hk
    rw [← hR, ← hR]
    show _ = rStep _ _ _
    rw [qOf_at xs fs hk]
  have R0 : Hid (R 0 = (0, 0, true)) := (hR 0).symm
  rw [hR] at F
  clear hR
  have HM := hide hm
  rw [hm]
  clear hm
  go_enter Tryz.func150, Tryz.ntmps150
  go_wp2_with fail
  go_loopw [6, 7, 8, 9] (fun lo hi all i wr => ∃ k : Nat, k ≤ xs.length ∧ i = .int .i64 (k : Int) ∧ sAt (R (k * m)) lo hi all ∧ CF wr ⟨w.heap.size, 0, none⟩ (.int .i64 0) ∧ CF wr ⟨w.heap.size, 1, none⟩ (.int .i64 0) ∧ Below w.heap.size w wr) (fun _ _ _ i _ => xs.length - (intOf i).toNat)
  case atStart => exact ⟨0, by omega, rfl, by rw [Nat.zero_mul, R0.out]; exact ⟨rfl, rfl, rfl⟩, ⟨by simp [go_sem], by simp [go_sem]⟩, ⟨by simp [go_sem], by simp [go_sem]⟩, (by repeat (first | exact Below.refl _ _ | assumption | apply balloc | apply bdrew | (refine below_drewN ?_ _) | (refine bset ?_ (by first | (simp; done) | omega | (simp; omega)) _) | (refine bnext ?_ (by assumption))))⟩
  case round =>
    obtain ⟨i, hi, rfl, hs, hc4, hc5, hbw⟩ := hrel
    have HC4 := hide hc4
    have HC5 := hide hc5
    obtain ⟨⟨s1, s2, s3⟩, hsv⟩ : ∃ s, R (i * m) = s := ⟨_, rfl⟩
    rw [hsv] at hs
    have HSV := hide hsv
    clear hc4 hc5 hsv
    obtain ⟨rfl, rfl, rfl⟩ := hs
    by_cases hlt : i < xs.length
    · go_wp2_with fail
      go_loopw [6, 7, 8, 10] (fun lo hi all j wr => ∃ k : Nat, k ≤ m ∧ j = .int .i64 (k : Int) ∧ sAt (R (i * m + k)) lo hi all ∧ CF wr ⟨w.heap.size, 0, none⟩ (.int .i64 0) ∧ CF wr ⟨w.heap.size, 1, none⟩ (.int .i64 0) ∧ Below w.heap.size w wr) (fun _ _ _ j _ => m - (intOf j).toNat)
      case atStart => exact ⟨0, by omega, rfl, by rw [Nat.add_zero, HSV.out]; exact ⟨rfl, rfl, rfl⟩, HC4.out, HC5.out, hbw⟩
      case round =>
        obtain ⟨k, hk, rfl, hs, hc4, hc5, hbj⟩ := hrel
        have HC4' := hide hc4
        have HC5' := hide hc5
        clear hc4 hc5
        obtain ⟨⟨t1, t2, t3⟩, htv⟩ : ∃ s, R (i * m + k) = s := ⟨_, rfl⟩
        rw [htv] at hs
        have HTV := hide htv
        clear htv
        obtain ⟨rfl, rfl, rfl⟩ := hs
        simp only
        by_cases hkm : k < m
        · have bx := hxs.out i hlt
          have bf := hfs.out k hkm
          have S := hide (HS.out i k hkm)
          rw [HTV.out] at S
          obtain ⟨⟨ab, ao⟩, rfl, hca⟩ : ∃ p : Nat × Nat, a = some ⟨p.1, p.2, none⟩ ∧ wr.cell? ⟨p.1, p.2 + i, none⟩ = some (.int .i64 (xs.getD i 0)) := by
            rcases ints_later h1.out hbj with h | ⟨b, off, e, h⟩
            · subst h; simp at hlt
            · exact ⟨(b, off), e, h i hlt⟩
          obtain ⟨⟨bb, bo⟩, rfl, hcb, hcd⟩ : ∃ p : Nat × Nat, b = some ⟨p.1, p.2, none⟩ ∧ wr.cell? ⟨p.1, p.2 + k * 2, none⟩ = some (.int .i64 (fs.getD k (0, 0)).1) ∧ wr.cell? ⟨p.1, p.2 + k * 2 + 1, none⟩ = some (.int .i64 (fs.getD k (0, 0)).2) := by
            rcases pairs_later h2.out hbj with h | ⟨b, off, e, h⟩
            · have := HM.out; subst h; simp at this; omega
            · exact ⟨(b, off), e, h k (by rw [HM.out]; exact hkm)⟩
          simp only at hca hcb hcd
          generalize xs.getD i 0 = u at *
          generalize fs.getD k (0, 0) = z at *
          obtain ⟨p, q⟩ := z
          simp only at hcb hcd bf S
          have FL := hide fun W => refFloor_any u p q W bx.1 bx.2 bf.1.1 bf.1.2 bf.2.1 bf.2.2
          have FB : Hid ((refFlo (u * p) q).2.2 = true → -3000000000000000 ≤ (refFlo (u * p) q).1 ∧ (refFlo (u * p) q).1 ≤ 3000000000000000) := fun h => by
            obtain ⟨e, e1, e2⟩ := refFlo_true bf.2.1 h
            rw [e]; exact ⟨e1, e2⟩
          have FN : Hid ((refFlo (u * p) q).2.2 = false → (refFlo (u * p) q).1 = 0) := fun h => by
            unfold refFlo at h ⊢
            split at h
            · cases h
            · rename_i hh; rw [if_neg hh]
          generalize refFlo (u * p) q = f at *
          obtain ⟨n, r, ok⟩ := f
          simp only at FL FB FN
          have hn : -3000000000000000 ≤ n ∧ n ≤ 3000000000000000 := by
            cases ok with
            | true => exact FB.out rfl
            | false => have := FN.out rfl; omega
          obtain ⟨n0, n1⟩ := hn
          clear bx bf FB FN
          go_upto_region 8 with fail
          go_region_held3 (fun w' => w'.cell? ⟨ab, ao + i, none⟩ = some (.int .i64 u) ∧ w'.cell? ⟨bb, bo + k * 2, none⟩ = some (.int .i64 p) ∧ w'.cell? ⟨bb, bo + k * 2 + 1, none⟩ = some (.int .i64 q) ∧ Below wr.heap.size wr w')
            (first | (exact ⟨hca, hcb, hcd, Below.refl _ _⟩) | (exact ⟨hca, hcb, hcd, bdrew (Below.refl _ _)⟩) | (go_split_ands; exact ⟨later hb3 (by assumption), later hb3 (by assumption), later hb3 (by assumption), bnext (by assumption) hb3⟩) | go_keep)
            (first | (go_at_call 165; refine (FL.out _).mono ?_; rintro e w3 ⟨rfl, hb3⟩))
          all_goals
            have HB : Below wr.heap.size wr w3 := by go_split_ands; assumption
            have D4 := hide (cf_later HB HC4'.out)
            have D5 := hide (cf_later HB HC5'.out)
            have BJ : Below w.heap.size w w3 := bnext hbj HB
            have HLT := hide hlt
            have TAIL : Hid (∀ fb lo hi al up, decide (i * m + k = 0) = fb → up = n + (if 0 < r then 1 else 0) → lo = min (if fb then n else t1) n → hi = max (if fb then up else t2) up → al = (t3 && ok) → sAt (R (i * m + (k + 1))) (.int .i64 lo) (.int .i64 hi) (.bool al)) := by
              intro fb lo hi al up h0 h1 h2 h3 h4
              rw [show i * m + (k + 1) = i * m + k + 1 from rfl, ← S.out, h0]
              subst h1 h2 h3 h4
              exact ⟨rfl, rfl, rfl⟩
            clear S hb3 HB
            have Z : (i = 0 ∧ k = 0 ∧ decide (i * m + k = 0) = true) ∨ (¬ i = 0 ∧ decide (i * m + k = 0) = false) ∨ (i = 0 ∧ ¬ k = 0 ∧ decide (i * m + k = 0) = false) := by
              by_cases h0 : i = 0
              · by_cases h1 : k = 0
                · exact .inl ⟨h0, h1, by subst h0 h1; simp⟩
                · exact .inr (.inr ⟨h0, h1, decide_eq_false (by omega)⟩)
              · refine .inr (.inl ⟨h0, decide_eq_false ?_⟩)
                have := Nat.mul_pos (show 0 < i by omega) (show 0 < m by omega)
                omega
            by_cases hr : 0 < r
            · have d1 : decide (0 < r) = true := decide_eq_true hr
              have T2 := hide fun fb lo hi al h0 h2 h3 h4 => TAIL.out fb lo hi al (n + 1) h0 (by rw [if_pos hr]) h2 h3 h4
              clear TAIL hr
              rcases Z with ⟨z0, z1, z2⟩ | ⟨z0, z2⟩ | ⟨z0, z1, z2⟩
              · have e0 : ((i : Int) == 0) = true := by simp [z0]
                have e1 : ((k : Int) == 0) = true := by simp [z1]
                have Z2 := hide z2
                clear z2 z0 z1
                cases t3
                all_goals
                  go_wp2_with fail
                  go_roundw
                  case rel => exact ⟨k + 1, by omega, by go_num, T2.out true _ _ _ Z2.out (by simp; try omega) (by simp; try omega) (by simp), D4.out, D5.out, BJ⟩
                  case measure => simp [intOf]; omega
              · have e0 : ((i : Int) == 0) = false := by simp [z0]
                have Z2 := hide z2
                clear z2 z0
                cases t3
                all_goals
                  go_wp2_with fail
                  go_roundw
                  case rel => exact ⟨k + 1, by omega, by go_num, T2.out false _ _ _ Z2.out (by simp; try omega) (by simp; try omega) (by simp), D4.out, D5.out, BJ⟩
                  case measure => simp [intOf]; omega
              · have e0 : ((i : Int) == 0) = true := by simp [z0]
                have e1 : ((k : Int) == 0) = false := by simp [z1]
                have Z2 := hide z2
                clear z2 z0 z1
                cases t3
                all_goals
                  go_wp2_with fail
                  go_roundw
                  case rel => exact ⟨k + 1, by omega, by go_num, T2.out false _ _ _ Z2.out (by simp; try omega) (by simp; try omega) (by simp), D4.out, D5.out, BJ⟩
                  case measure => simp [intOf]; omega
            · have d1 : decide (0 < r) = false := decide_eq_false hr
              have T2 := hide fun fb lo hi al h0 h2 h3 h4 => TAIL.out fb lo hi al n h0 (by rw [if_neg hr]; omega) h2 h3 h4
              clear TAIL hr
              rcases Z with ⟨z0, z1, z2⟩ | ⟨z0, z2⟩ | ⟨z0, z1, z2⟩
              · have e0 : ((i : Int) == 0) = true := by simp [z0]
                have e1 : ((k : Int) == 0) = true := by simp [z1]
                have Z2 := hide z2
                clear z2 z0 z1
                cases t3
                all_goals
                  go_wp2_with fail
                  go_roundw
                  case rel => exact ⟨k + 1, by omega, by go_num, T2.out true _ _ _ Z2.out (by simp; try omega) (by simp; try omega) (by simp), D4.out, D5.out, BJ⟩
                  case measure => simp [intOf]; omega
              · have e0 : ((i : Int) == 0) = false := by simp [z0]
                have Z2 := hide z2
                clear z2 z0
                cases t3
                all_goals
                  go_wp2_with fail
                  go_roundw
                  case rel => exact ⟨k + 1, by omega, by go_num, T2.out false _ _ _ Z2.out (by simp; try omega) (by simp; try omega) (by simp), D4.out, D5.out, BJ⟩
                  case measure => simp [intOf]; omega
              · have e0 : ((i : Int) == 0) = true := by simp [z0]
                have e1 : ((k : Int) == 0) = false := by simp [z1]
                have Z2 := hide z2
                clear z2 z0 z1
                cases t3
                all_goals
                  go_wp2_with fail
                  go_roundw
                  case rel => exact ⟨k + 1, by omega, by go_num, T2.out false _ _ _ Z2.out (by simp; try omega) (by simp; try omega) (by simp), D4.out, D5.out, BJ⟩
                  case measure => simp [intOf]; omega
        · obtain rfl : k = m := by omega
          have hkm' : ¬ (k : Int) < (k : Int) := by omega
          go_wp2_with fail
          go_roundw
          case rel => exact ⟨i + 1, by omega, by go_num, by rw [Nat.succ_mul, HTV.out]; exact ⟨rfl, rfl, rfl⟩, HC4'.out, HC5'.out, hbj⟩
          case measure => simp [intOf]; omega
    · obtain rfl : i = xs.length := by omega
      rw [HSV.out] at F
      have hlt' : ¬ (xs.length : Int) < (xs.length : Int) := by omega
      go_wp2_with fail
      refine (F.out _).mono ?_
      rintro e w3 ⟨rfl, hb3⟩
      have ⟨c4, f4⟩ := cf_later hb3 HC4.out
      have ⟨c5, f5⟩ := cf_later hb3 HC5.out
      go_wp2_with fail
      have yy := two_set (x := .int .i64 x) (y := .int .i64 y) c4 c5
      exact bodyPost_ret (v := .tuple #[.agg #[.int .i64 x, .int .i64 y], .int .i64 E]) (by simp [results, Tryz.results150, go_sem, yy.1, yy.2]) rfl ⟨rfl, bset (bset (bnext hbw hb3) (by simp) _) (by simp) _⟩
end Go.Proofs.YtimfbjnpalgmcaaGreat

namespace Go.Proofs.YtimfbjnpalgmcaaGreat
set_option linter.unusedSimpArgs false
set_option linter.unusedVariables false
open Go.RowKit

/-- What Less returns. -/
def lessQ (al ah bl bh : Int) : Int × Int × Int :=
  if [(al, ah), (bl, bh)].all rangeOk = false then (0, 0, 2) else if allIn 1000000000000000 [al - bh, ah - bl] = true then (al - bh, ah - bl, 0) else (0, 0, 10)
/-- The conditions of Over come to E. -/
def OverCond (al ah bl bh c E : Int) (k1 k2 : Bool) : Prop := [(al, ah), (bl, bh)].all rangeOk = k1 ∧ (isDiv c && decide (1 ≤ bl)) = k2 ∧ ∀ f g x y, firstE [⟨2, f, x, k1⟩, ⟨3, g, y, k2⟩] = E

/-- The quotients of the ends are gathered. -/
def gOver (al ah bl bh c : Int) : Gth := gQuo (gQuo (gQuo (gQuo ⟨0, 0, false, false⟩ al c bl) al c bh) ah c bl) ah c bh
/-- The results of Over. -/
def overQ (al ah bl bh c : Int) : Int × Int × Int :=
  if [(al, ah), (bl, bh)].all rangeOk = false then (0, 0, 2) else if (isDiv c && decide (1 ≤ bl)) = false then (0, 0, 3) else gRes (gOver al ah bl bh c)
end Go.Proofs.YtimfbjnpalgmcaaGreat

namespace Go.Proofs.YtimfbjnpalgmcaaGreat
set_option linter.unusedSimpArgs false
set_option linter.unusedVariables false
open Go.RowKit

theorem ints_two_of {W : World} {n : Nat} {a b : Int} (h0 : W.cell? ⟨n, 0, none⟩ = some (.int .i64 a)) (h1 : W.cell? ⟨n, 1, none⟩ = some (.int .i64 b)) : IsInts W (some ⟨n, 0, none⟩) [a, b] := by
  refine .inr ⟨n, 0, rfl, fun i hi => ?_⟩
  match i, hi with
  | 0, _ => exact h0
  | 1, _ => exact h1
theorem fits_not (l u : Int) (w : World) :
    Calls Tryz.prog 166 #[.int .i64 l, .int .i64 u, .bool false] w fun e w' => e = .returned (.tuple #[.agg #[.int .i64 0, .int .i64 0], .int .i64 10]) ∧ Below w.heap.size w w' := by
  go_enter Tryz.func166, Tryz.ntmps166
  go_wp2_with fail
  exact bodyPost_ret (v := .tuple #[.agg #[.int .i64 0, .int .i64 0], .int .i64 10]) (by simp [results, Tryz.results166, go_sem]) rfl ⟨rfl, (by repeat (first | exact Below.refl _ _ | assumption | apply balloc | apply bdrew | (refine below_drewN ?_ _) | (refine bset ?_ (by first | (simp; done) | omega | (simp; omega)) _) | (refine bnext ?_ (by assumption))))⟩
theorem fits_spr (s : Int × Int × Bool) (w : World) :
    Calls Tryz.prog 166 #[.int .i64 s.1, .int .i64 s.2.1, .bool s.2.2] w fun e w' => e = .returned (.tuple #[.agg #[.int .i64 (sprQ s).1, .int .i64 (sprQ s).2.1], .int .i64 (sprQ s).2.2]) ∧ Below w.heap.size w w' := by
  obtain ⟨l, u, k⟩ := s
  unfold sprQ
  cases k with
  | false => rw [if_neg (by simp)]; exact fits_not l u w
  | true =>
    have g := fits_any l u w
    simp only [Bool.true_and]
    cases hk : allIn 1000000000000000 [l, u] <;> (rw [hk] at g; simpa using g)
theorem spread_two (al ah n1 d1 n2 d2 : Int) (a0 : -1000000000000000 ≤ al) (a1 : al ≤ 1000000000000000) (a2 : -1000000000000000 ≤ ah) (a3 : ah ≤ 1000000000000000) (h1 : -1000000000000000 ≤ n1) (h2 : n1 ≤ 1000000000000000) (h3 : 1 ≤ d1) (h4 : d1 ≤ 1000000000000000) (h5 : -1000000000000000 ≤ n2) (h6 : n2 ≤ 1000000000000000) (h7 : 1 ≤ d2) (h8 : d2 ≤ 1000000000000000)
    (x : Int × Int × Int) (hx : gRes (gQuo (gQuo (gQuo (gQuo ⟨0, 0, false, false⟩ al n1 d1) al n2 d2) ah n1 d1) ah n2 d2) = x) (a b : Option Addr) (ca cb : Nat) (w : World) (i1 : IsInts w a [al, ah]) (i2 : IsPairs w b [(n1, d1), (n2, d2)]) :
    Calls Tryz.prog 150 #[.slice a 2 ca, .slice b 2 cb] w fun e w' => e = .returned (.tuple #[.agg #[.int .i64 x.1, .int .i64 x.2.1], .int .i64 x.2.2]) ∧ Below w.heap.size w w' := by
  have hq : ∀ i, i < 4 → 1 ≤ (qOf [al, ah] [(n1, d1), (n2, d2)] 2 i).2.2 := by
    intro i hi
    match i, hi with
    | 0, _ => exact h3
    | 1, _ => exact h7
    | 2, _ => exact h3
    | 3, _ => exact h7
  have S := spread_is (qOf [al, ah] [(n1, d1), (n2, d2)] 2) 3 hq
  have e : gRes (gF (qOf [al, ah] [(n1, d1), (n2, d2)] 2) (3 + 1)) = x := hx
  rw [e] at S
  rw [S]
  refine spread_walk [al, ah] [(n1, d1), (n2, d2)] a b ca cb 2 _ _ _ w rfl (by simp) (by omega) (hide ?_) (hide ?_) (hide fun W => fits_spr _ W) (hide i1) (hide i2)
  · intro i hi
    match i, hi with
    | 0, _ => exact ⟨a0, a1⟩
    | 1, _ => exact ⟨a2, a3⟩
  · intro i hi
    match i, hi with
    | 0, _ => exact ⟨⟨h1, h2⟩, h3, h4⟩
    | 1, _ => exact ⟨⟨h5, h6⟩, h7, h8⟩

set_option maxHeartbeats 1600000 in
theorem refTimes_bad1 (al ah bl bh c : Int) (w : World) (R1 : Hid (∀ W, Calls Tryz.prog 148 #[.agg #[.int .i64 al, .int .i64 ah]] W fun e w' => e = .returned (.bool false) ∧ Below W.heap.size W w')) :
    Calls Tryz.prog 123 #[.agg #[.int .i64 al, .int .i64 ah], .agg #[.int .i64 bl, .int .i64 bh], .int .i64 c] w fun e w' => e = .returned (.tuple #[.agg #[.int .i64 0, .int .i64 0], .int .i64 2]) ∧ Below w.heap.size w w' := by
  go_enter Tryz.func123, Tryz.ntmps123
  go_wp2_with fail
  refine (R1.out _).mono ?_
  rintro e w1 ⟨rfl, hb1⟩
  have c4 := later hb1 (a := ⟨w.heap.size + 1 + 1, 0, none⟩) (v := .int .i64 0) (by simp [go_sem, World.cell?_alloc_past])
  have c5 := later hb1 (a := ⟨w.heap.size + 1 + 1, 1, none⟩) (v := .int .i64 0) (by simp [go_sem, World.cell?_alloc_past])
  have f4 := free_later hb1 (a := ⟨w.heap.size + 1 + 1, 0, none⟩) (v := .int .i64 0) (by simp [go_sem, World.cell?_alloc_past]) (by simp [go_sem, World.cell?_alloc_past])
  have f5 := free_later hb1 (a := ⟨w.heap.size + 1 + 1, 1, none⟩) (v := .int .i64 0) (by simp [go_sem, World.cell?_alloc_past]) (by simp [go_sem, World.cell?_alloc_past])
  go_wp2_with fail
  exact bodyPost_ret (v := .tuple #[.agg #[.int .i64 0, .int .i64 0], .int .i64 2]) (by simp [results, Tryz.results123, go_sem, c4, c5]) rfl ⟨rfl, (by repeat (first | exact Below.refl _ _ | assumption | apply balloc | apply bdrew | (refine below_drewN ?_ _) | (refine bset ?_ (by first | (simp; done) | omega | (simp; omega)) _) | (refine bnext ?_ (by assumption))))⟩
set_option maxHeartbeats 1600000 in
theorem refTimes_bad2 (al ah bl bh c : Int) (w : World) (R1 : Hid (∀ W, Calls Tryz.prog 148 #[.agg #[.int .i64 al, .int .i64 ah]] W fun e w' => e = .returned (.bool true) ∧ Below W.heap.size W w')) (R2 : Hid (∀ W, Calls Tryz.prog 148 #[.agg #[.int .i64 bl, .int .i64 bh]] W fun e w' => e = .returned (.bool false) ∧ Below W.heap.size W w')) :
    Calls Tryz.prog 123 #[.agg #[.int .i64 al, .int .i64 ah], .agg #[.int .i64 bl, .int .i64 bh], .int .i64 c] w fun e w' => e = .returned (.tuple #[.agg #[.int .i64 0, .int .i64 0], .int .i64 2]) ∧ Below w.heap.size w w' := by
  go_enter Tryz.func123, Tryz.ntmps123
  go_wp2_with fail
  refine (R1.out _).mono ?_
  rintro e w1 ⟨rfl, hb1⟩
  have c4 := later hb1 (a := ⟨w.heap.size + 1 + 1, 0, none⟩) (v := .int .i64 0) (by simp [go_sem, World.cell?_alloc_past])
  have c5 := later hb1 (a := ⟨w.heap.size + 1 + 1, 1, none⟩) (v := .int .i64 0) (by simp [go_sem, World.cell?_alloc_past])
  have f4 := free_later hb1 (a := ⟨w.heap.size + 1 + 1, 0, none⟩) (v := .int .i64 0) (by simp [go_sem, World.cell?_alloc_past]) (by simp [go_sem, World.cell?_alloc_past])
  have f5 := free_later hb1 (a := ⟨w.heap.size + 1 + 1, 1, none⟩) (v := .int .i64 0) (by simp [go_sem, World.cell?_alloc_past]) (by simp [go_sem, World.cell?_alloc_past])
  have c0 := later hb1 (a := ⟨w.heap.size, 0, none⟩) (v := .int .i64 al) (by simp [go_sem, World.cell?_alloc_past])
  have c1 := later hb1 (a := ⟨w.heap.size, 1, none⟩) (v := .int .i64 ah) (by simp [go_sem, World.cell?_alloc_past])
  have c2 := later hb1 (a := ⟨w.heap.size + 1, 0, none⟩) (v := .int .i64 bl) (by simp [go_sem, World.cell?_alloc_past])
  have c3 := later hb1 (a := ⟨w.heap.size + 1, 1, none⟩) (v := .int .i64 bh) (by simp [go_sem, World.cell?_alloc_past])
  go_wp2_with fail
  refine (R2.out _).mono ?_
  rintro e w2 ⟨rfl, hb2⟩
  have e0 := later hb2 c0
  have e1 := later hb2 c1
  have e2 := later hb2 c2
  have e3 := later hb2 c3
  have ⟨d4, g4⟩ := cf_later hb2 ⟨c4, f4⟩
  have ⟨d5, g5⟩ := cf_later hb2 ⟨c5, f5⟩
  clear c0 c1 c2 c3 c4 c5 f4 f5
  go_wp2_with fail
  exact bodyPost_ret (v := .tuple #[.agg #[.int .i64 0, .int .i64 0], .int .i64 2]) (by simp [results, Tryz.results123, go_sem, d4, d5]) rfl ⟨rfl, (by repeat (first | exact Below.refl _ _ | assumption | apply balloc | apply bdrew | (refine below_drewN ?_ _) | (refine bset ?_ (by first | (simp; done) | omega | (simp; omega)) _) | (refine bnext ?_ (by assumption))))⟩
set_option maxHeartbeats 1600000 in
theorem refTimes_bad3a (al ah bl bh c : Int) (w : World) (R1 : Hid (∀ W, Calls Tryz.prog 148 #[.agg #[.int .i64 al, .int .i64 ah]] W fun e w' => e = .returned (.bool true) ∧ Below W.heap.size W w')) (R2 : Hid (∀ W, Calls Tryz.prog 148 #[.agg #[.int .i64 bl, .int .i64 bh]] W fun e w' => e = .returned (.bool true) ∧ Below W.heap.size W w')) (h1 : decide (c < 1) = true) :
    Calls Tryz.prog 123 #[.agg #[.int .i64 al, .int .i64 ah], .agg #[.int .i64 bl, .int .i64 bh], .int .i64 c] w fun e w' => e = .returned (.tuple #[.agg #[.int .i64 0, .int .i64 0], .int .i64 3]) ∧ Below w.heap.size w w' := by
  go_enter Tryz.func123, Tryz.ntmps123
  go_wp2_with fail
  refine (R1.out _).mono ?_
  rintro e w1 ⟨rfl, hb1⟩
  have c4 := later hb1 (a := ⟨w.heap.size + 1 + 1, 0, none⟩) (v := .int .i64 0) (by simp [go_sem, World.cell?_alloc_past])
  have c5 := later hb1 (a := ⟨w.heap.size + 1 + 1, 1, none⟩) (v := .int .i64 0) (by simp [go_sem, World.cell?_alloc_past])
  have f4 := free_later hb1 (a := ⟨w.heap.size + 1 + 1, 0, none⟩) (v := .int .i64 0) (by simp [go_sem, World.cell?_alloc_past]) (by simp [go_sem, World.cell?_alloc_past])
  have f5 := free_later hb1 (a := ⟨w.heap.size + 1 + 1, 1, none⟩) (v := .int .i64 0) (by simp [go_sem, World.cell?_alloc_past]) (by simp [go_sem, World.cell?_alloc_past])
  have c0 := later hb1 (a := ⟨w.heap.size, 0, none⟩) (v := .int .i64 al) (by simp [go_sem, World.cell?_alloc_past])
  have c1 := later hb1 (a := ⟨w.heap.size, 1, none⟩) (v := .int .i64 ah) (by simp [go_sem, World.cell?_alloc_past])
  have c2 := later hb1 (a := ⟨w.heap.size + 1, 0, none⟩) (v := .int .i64 bl) (by simp [go_sem, World.cell?_alloc_past])
  have c3 := later hb1 (a := ⟨w.heap.size + 1, 1, none⟩) (v := .int .i64 bh) (by simp [go_sem, World.cell?_alloc_past])
  go_wp2_with fail
  refine (R2.out _).mono ?_
  rintro e w2 ⟨rfl, hb2⟩
  have e0 := later hb2 c0
  have e1 := later hb2 c1
  have e2 := later hb2 c2
  have e3 := later hb2 c3
  have ⟨d4, g4⟩ := cf_later hb2 ⟨c4, f4⟩
  have ⟨d5, g5⟩ := cf_later hb2 ⟨c5, f5⟩
  clear c0 c1 c2 c3 c4 c5 f4 f5
  go_wp2_with fail
  exact bodyPost_ret (v := .tuple #[.agg #[.int .i64 0, .int .i64 0], .int .i64 3]) (by simp [results, Tryz.results123, go_sem, d4, d5]) rfl ⟨rfl, (by repeat (first | exact Below.refl _ _ | assumption | apply balloc | apply bdrew | (refine below_drewN ?_ _) | (refine bset ?_ (by first | (simp; done) | omega | (simp; omega)) _) | (refine bnext ?_ (by assumption))))⟩
set_option maxHeartbeats 1600000 in
theorem refTimes_bad3b (al ah bl bh c : Int) (w : World) (R1 : Hid (∀ W, Calls Tryz.prog 148 #[.agg #[.int .i64 al, .int .i64 ah]] W fun e w' => e = .returned (.bool true) ∧ Below W.heap.size W w')) (R2 : Hid (∀ W, Calls Tryz.prog 148 #[.agg #[.int .i64 bl, .int .i64 bh]] W fun e w' => e = .returned (.bool true) ∧ Below W.heap.size W w')) (h1 : decide (c < 1) = false) (h2 : decide (1000000000000000 < c) = true) :
    Calls Tryz.prog 123 #[.agg #[.int .i64 al, .int .i64 ah], .agg #[.int .i64 bl, .int .i64 bh], .int .i64 c] w fun e w' => e = .returned (.tuple #[.agg #[.int .i64 0, .int .i64 0], .int .i64 3]) ∧ Below w.heap.size w w' := by
  go_enter Tryz.func123, Tryz.ntmps123
  go_wp2_with fail
  refine (R1.out _).mono ?_
  rintro e w1 ⟨rfl, hb1⟩
  have c4 := later hb1 (a := ⟨w.heap.size + 1 + 1, 0, none⟩) (v := .int .i64 0) (by simp [go_sem, World.cell?_alloc_past])
  have c5 := later hb1 (a := ⟨w.heap.size + 1 + 1, 1, none⟩) (v := .int .i64 0) (by simp [go_sem, World.cell?_alloc_past])
  have f4 := free_later hb1 (a := ⟨w.heap.size + 1 + 1, 0, none⟩) (v := .int .i64 0) (by simp [go_sem, World.cell?_alloc_past]) (by simp [go_sem, World.cell?_alloc_past])
  have f5 := free_later hb1 (a := ⟨w.heap.size + 1 + 1, 1, none⟩) (v := .int .i64 0) (by simp [go_sem, World.cell?_alloc_past]) (by simp [go_sem, World.cell?_alloc_past])
  have c0 := later hb1 (a := ⟨w.heap.size, 0, none⟩) (v := .int .i64 al) (by simp [go_sem, World.cell?_alloc_past])
  have c1 := later hb1 (a := ⟨w.heap.size, 1, none⟩) (v := .int .i64 ah) (by simp [go_sem, World.cell?_alloc_past])
  have c2 := later hb1 (a := ⟨w.heap.size + 1, 0, none⟩) (v := .int .i64 bl) (by simp [go_sem, World.cell?_alloc_past])
  have c3 := later hb1 (a := ⟨w.heap.size + 1, 1, none⟩) (v := .int .i64 bh) (by simp [go_sem, World.cell?_alloc_past])
  go_wp2_with fail
  refine (R2.out _).mono ?_
  rintro e w2 ⟨rfl, hb2⟩
  have e0 := later hb2 c0
  have e1 := later hb2 c1
  have e2 := later hb2 c2
  have e3 := later hb2 c3
  have ⟨d4, g4⟩ := cf_later hb2 ⟨c4, f4⟩
  have ⟨d5, g5⟩ := cf_later hb2 ⟨c5, f5⟩
  clear c0 c1 c2 c3 c4 c5 f4 f5
  go_wp2_with fail
  exact bodyPost_ret (v := .tuple #[.agg #[.int .i64 0, .int .i64 0], .int .i64 3]) (by simp [results, Tryz.results123, go_sem, d4, d5]) rfl ⟨rfl, (by repeat (first | exact Below.refl _ _ | assumption | apply balloc | apply bdrew | (refine below_drewN ?_ _) | (refine bset ?_ (by first | (simp; done) | omega | (simp; omega)) _) | (refine bnext ?_ (by assumption))))⟩
set_option maxHeartbeats 1600000 in
theorem refTimes_good (al ah bl bh c x y E : Int) (w : World) (R1 : Hid (∀ W, Calls Tryz.prog 148 #[.agg #[.int .i64 al, .int .i64 ah]] W fun e w' => e = .returned (.bool true) ∧ Below W.heap.size W w')) (R2 : Hid (∀ W, Calls Tryz.prog 148 #[.agg #[.int .i64 bl, .int .i64 bh]] W fun e w' => e = .returned (.bool true) ∧ Below W.heap.size W w')) (F : Hid (∀ a b ca cb W, IsInts W a [al, ah] → IsPairs W b [(bl, c), (bh, c)] → Calls Tryz.prog 150 #[.slice a 2 ca, .slice b 2 cb] W fun e w' => e = .returned (.tuple #[.agg #[.int .i64 x, .int .i64 y], .int .i64 E]) ∧ Below W.heap.size W w')) (h1 : decide (c < 1) = false) (h2 : decide (1000000000000000 < c) = false) :
    Calls Tryz.prog 123 #[.agg #[.int .i64 al, .int .i64 ah], .agg #[.int .i64 bl, .int .i64 bh], .int .i64 c] w fun e w' => e = .returned (.tuple #[.agg #[.int .i64 x, .int .i64 y], .int .i64 E]) ∧ Below w.heap.size w w' := by
  go_enter Tryz.func123, Tryz.ntmps123
  go_wp2_with fail
  refine (R1.out _).mono ?_
  rintro e w1 ⟨rfl, hb1⟩
  have c4 := later hb1 (a := ⟨w.heap.size + 1 + 1, 0, none⟩) (v := .int .i64 0) (by simp [go_sem, World.cell?_alloc_past])
  have c5 := later hb1 (a := ⟨w.heap.size + 1 + 1, 1, none⟩) (v := .int .i64 0) (by simp [go_sem, World.cell?_alloc_past])
  have f4 := free_later hb1 (a := ⟨w.heap.size + 1 + 1, 0, none⟩) (v := .int .i64 0) (by simp [go_sem, World.cell?_alloc_past]) (by simp [go_sem, World.cell?_alloc_past])
  have f5 := free_later hb1 (a := ⟨w.heap.size + 1 + 1, 1, none⟩) (v := .int .i64 0) (by simp [go_sem, World.cell?_alloc_past]) (by simp [go_sem, World.cell?_alloc_past])
  have c0 := later hb1 (a := ⟨w.heap.size, 0, none⟩) (v := .int .i64 al) (by simp [go_sem, World.cell?_alloc_past])
  have c1 := later hb1 (a := ⟨w.heap.size, 1, none⟩) (v := .int .i64 ah) (by simp [go_sem, World.cell?_alloc_past])
  have c2 := later hb1 (a := ⟨w.heap.size + 1, 0, none⟩) (v := .int .i64 bl) (by simp [go_sem, World.cell?_alloc_past])
  have c3 := later hb1 (a := ⟨w.heap.size + 1, 1, none⟩) (v := .int .i64 bh) (by simp [go_sem, World.cell?_alloc_past])
  go_wp2_with fail
  refine (R2.out _).mono ?_
  rintro e w2 ⟨rfl, hb2⟩
  have e0 := later hb2 c0
  have e1 := later hb2 c1
  have e2 := later hb2 c2
  have e3 := later hb2 c3
  have ⟨d4, g4⟩ := cf_later hb2 ⟨c4, f4⟩
  have ⟨d5, g5⟩ := cf_later hb2 ⟨c5, f5⟩
  clear c0 c1 c2 c3 c4 c5 f4 f5
  have e2' := fun o => later (balloc (o := o) (Below.refl _ _)) e2
  have e3' := fun o => later (balloc (o := o) (Below.refl _ _)) e3
  go_wp2_with fail
  refine (F.out (some ⟨w2.heap.size, 0, none⟩) (some ⟨w2.heap.size + 1, 0, none⟩) _ _ _ ?_ ?_).mono ?_
  · exact ints_two_of (by simp [go_sem, World.cell?_alloc_past]) (by simp [go_sem, World.cell?_alloc_past])
  · exact pairs_two_of (by simp [go_sem, World.cell?_alloc_past]) (by simp [go_sem, World.cell?_alloc_past]) (by simp [go_sem, World.cell?_alloc_past]) (by simp [go_sem, World.cell?_alloc_past])
  rintro e w3 ⟨rfl, hb3⟩
  have ⟨c4, f4⟩ := cf_later hb3 (cf_later (balloc (balloc (Below.refl _ _))) ⟨d4, g4⟩)
  have ⟨c5, f5⟩ := cf_later hb3 (cf_later (balloc (balloc (Below.refl _ _))) ⟨d5, g5⟩)
  go_wp2_with fail
  have yy := two_set (x := .int .i64 x) (y := .int .i64 y) c4 c5
  exact bodyPost_ret (v := .tuple #[.agg #[.int .i64 x, .int .i64 y], .int .i64 E]) (by simp [results, Tryz.results123, go_sem, yy.1, yy.2]) rfl ⟨rfl, (by repeat (first | exact Below.refl _ _ | assumption | apply balloc | apply bdrew | (refine below_drewN ?_ _) | (refine bset ?_ (by first | (simp; done) | omega | (simp; omega)) _) | (refine bnext ?_ (by assumption))))⟩
theorem two_ok (al ah bl bh : Int) : [(al, ah), (bl, bh)].all rangeOk = (rangeOk (al, ah) && rangeOk (bl, bh)) := by simp
theorem refTimes_any (al ah bl bh c : Int) (w : World) :
    Calls Tryz.prog 123 #[.agg #[.int .i64 al, .int .i64 ah], .agg #[.int .i64 bl, .int .i64 bh], .int .i64 c] w fun e w' => e = .returned (.tuple #[.agg #[.int .i64 (timesQ al ah bl bh c).1, .int .i64 (timesQ al ah bl bh c).2.1], .int .i64 (timesQ al ah bl bh c).2.2]) ∧ Below w.heap.size w w' := by
  have R1 := fun W => refRange_any al ah W
  have R2 := fun W => refRange_any bl bh W
  unfold timesQ
  cases h1 : rangeOk (al, ah) with
  | false => rw [h1] at R1; rw [two_ok, h1, Bool.false_and, if_pos rfl]; exact refTimes_bad1 al ah bl bh c w R1
  | true =>
    rw [h1] at R1
    cases h2 : rangeOk (bl, bh) with
    | false => rw [h2] at R2; rw [two_ok, h1, h2, Bool.and_false, if_pos rfl]; exact refTimes_bad2 al ah bl bh c w R1 R2
    | true =>
      rw [h2] at R2
      have hh : [(al, ah), (bl, bh)].all rangeOk = true := by rw [two_ok, h1, h2]; rfl
      obtain ⟨⟨a0, a1, a2⟩, b0, b1, b2⟩ := range2_bounds hh
      rw [hh, if_neg (by simp)]
      by_cases c0 : c < 1
      · rw [if_pos (by simp [isDiv]; omega)]; exact refTimes_bad3a al ah bl bh c w R1 R2 (decide_eq_true c0)
      · by_cases c1 : 1000000000000000 < c
        · rw [if_pos (by simp [isDiv]; omega)]; exact refTimes_bad3b al ah bl bh c w R1 R2 (decide_eq_false c0) (decide_eq_true c1)
        · rw [if_neg (by simp [isDiv]; omega)]
          exact refTimes_good al ah bl bh c _ _ _ w R1 R2 (hide fun a b ca cb W i1 i2 => spread_two al ah bl c bh c a0 (by omega) (by omega) a2 b0 (by omega) (by omega) (by omega) (by omega) b2 (by omega) (by omega) _ rfl a b ca cb W i1 i2) (decide_eq_false c0) (decide_eq_false c1)
end Go.Proofs.YtimfbjnpalgmcaaGreat

namespace Go.Proofs.YtimfbjnpalgmcaaGreat
set_option linter.unusedSimpArgs false
set_option linter.unusedVariables false
open Go.RowKit

end Go.Proofs.YtimfbjnpalgmcaaGreat

namespace Go.Proofs.YtimfbjnpalgmcaaGreat
set_option linter.unusedSimpArgs false
set_option linter.unusedVariables false

def kX (ks : List (Int × Int)) (i : Nat) : Int := (ks.getD i (0, 0)).1
def kY (ks : List (Int × Int)) (i : Nat) : Int := (ks.getD i (0, 0)).2
/-- What the piece i has at x, rounded down and rounded up. -/
def dnQ (ks : List (Int × Int)) (i : Nat) (x : Int) : Int := kY ks i + (kY ks (i + 1) - kY ks i) * (x - kX ks i) / (kX ks (i + 1) - kX ks i)
def upQx (ks : List (Int × Int)) (i : Nat) (x : Int) : Int := kY ks i + upV ((kY ks (i + 1) - kY ks i) * (x - kX ks i)) (kX ks (i + 1) - kX ks i)

theorem knot_bounds {ks : List (Int × Int)} (h : tabOk ks = true) {i : Nat} (hi : i < ks.length) : (-1000000000000 ≤ kX ks i ∧ kX ks i ≤ 1000000000000) ∧ -1000000000000 ≤ kY ks i ∧ kY ks i ≤ 1000000000000 := by
  have h0 := knot_of h hi
  unfold knotOk at h0
  unfold kX kY
  simp only [Bool.and_eq_true, decide_eq_true_eq, allIn, List.all_cons, List.all_nil] at h0
  omega
theorem knot_next {ks : List (Int × Int)} (h : tabOk ks = true) {i : Nat} (hi : i + 1 < ks.length) : kX ks i < kX ks (i + 1) := by
  have h0 := knot_of h hi
  unfold knotOk at h0
  unfold kX
  simp only [Bool.and_eq_true, Bool.or_eq_true, decide_eq_true_eq, Nat.add_sub_cancel] at h0
  omega
theorem knot_mono {ks : List (Int × Int)} (h : tabOk ks = true) : ∀ (d i : Nat), i + d < ks.length → kX ks i ≤ kX ks (i + d) ∧ (0 < d → kX ks i < kX ks (i + d)) := by
  intro d
  induction d with
  | zero => intro i _; exact ⟨Int.le_refl _, fun h => by omega⟩
  | succ d ih =>
    intro i hi
    have a := (ih i (by omega)).1
    have b := knot_next h (i := i + d) hi
    rw [← Nat.add_assoc]
    exact ⟨by omega, fun _ => by omega⟩
theorem knot_lt {ks : List (Int × Int)} (h : tabOk ks = true) {i j : Nat} (hij : i < j) (hj : j < ks.length) : kX ks i < kX ks j := by
  have := (knot_mono h (j - i) i (by omega)).2 (by omega)
  rwa [show i + (j - i) = j by omega] at this
theorem knot_le {ks : List (Int × Int)} (h : tabOk ks = true) {i j : Nat} (hij : i ≤ j) (hj : j < ks.length) : kX ks i ≤ kX ks j := by
  have := (knot_mono h (j - i) i (by omega)).1
  rwa [show i + (j - i) = j by omega] at this

/-- A quotient between 0 and the whole rise. -/
theorem rise_bounds {d c e : Int} (c0 : 1 ≤ c) (e0 : 0 ≤ e) (e1 : e ≤ c) (d0 : -2000000000000 ≤ d) (d1 : d ≤ 2000000000000) : (-2000000000000 ≤ d * e / c ∧ d * e / c ≤ 2000000000000) ∧ -2000000000000 ≤ upV (d * e) c ∧ upV (d * e) c ≤ 2000000000000 := by
  have ee := Int.mul_ediv_add_emod (d * e) c
  have r0 := Int.emod_nonneg (d * e) (show c ≠ 0 by omega)
  have r1 := Int.emod_lt_of_pos (d * e) (show 0 < c by omega)
  have hi : d * e ≤ 2000000000000 * c := by
    rcases Int.le_total 0 d with h | h
    · have a := Int.mul_le_mul_of_nonneg_left e1 h
      have b := Int.mul_le_mul_of_nonneg_right d1 (show 0 ≤ c by omega)
      omega
    · have := Int.mul_nonpos_of_nonpos_of_nonneg h e0
      omega
  have lo : -2000000000000 * c ≤ d * e := by
    rcases Int.le_total 0 d with h | h
    · have := Int.mul_nonneg h e0
      omega
    · have a := Int.mul_le_mul_of_nonpos_left h e1
      have b := Int.mul_le_mul_of_nonneg_right d0 (show 0 ≤ c by omega)
      omega
  unfold upV
  generalize d * e / c = q at *
  generalize d * e % c = r at *
  have q1 : q ≤ 2000000000000 := by
    have : c * q ≤ c * 2000000000000 := by omega
    exact Int.le_of_mul_le_mul_left this (by omega)
  have q0 : -2000000000000 ≤ q := by
    have : c * (-2000000000000 - 1) < c * q := by rw [Int.mul_sub]; omega
    have := Int.lt_of_mul_lt_mul_left this (by omega)
    omega
  refine ⟨⟨q0, q1⟩, ?_⟩
  split
  · refine ⟨by omega, ?_⟩
    have : c * q < c * 2000000000000 := by omega
    have := Int.lt_of_mul_lt_mul_left this (by omega)
    omega
  · omega
theorem atQ_is {ks : List (Int × Int)} (h : tabOk ks = true) {i : Nat} (hi : i + 1 < ks.length) {x : Int} (x0 : kX ks i ≤ x) (x1 : x ≤ kX ks (i + 1)) :
    atQ (seg ks i).1.1 (seg ks i).1.2 (seg ks i).2.1 (seg ks i).2.2 x 1 = dnQ ks i x ∧ atQ (seg ks i).1.1 (seg ks i).1.2 (seg ks i).2.1 (seg ks i).2.2 x 2 = upQx ks i x := by
  have b0 := knot_bounds h (show i < ks.length by omega)
  have b1 := knot_bounds h hi
  have n := knot_next h hi
  have R := rise_bounds (d := kY ks (i + 1) - kY ks i) (c := kX ks (i + 1) - kX ks i) (e := x - kX ks i) (by omega) (by omega) (by omega) (by omega) (by omega)
  have e1 : atQ (seg ks i).1.1 (seg ks i).1.2 (seg ks i).2.1 (seg ks i).2.2 x 1 = kY ks i + (divQ ((kY ks (i + 1) - kY ks i) * (x - kX ks i)) (kX ks (i + 1) - kX ks i) 1).1 := rfl
  have e2 : atQ (seg ks i).1.1 (seg ks i).1.2 (seg ks i).2.1 (seg ks i).2.2 x 2 = kY ks i + (divQ ((kY ks (i + 1) - kY ks i) * (x - kX ks i)) (kX ks (i + 1) - kX ks i) 2).1 := rfl
  rw [e1, e2]
  unfold dnQ upQx
  generalize (kY ks (i + 1) - kY ks i) * (x - kX ks i) = N at *
  constructor
  · rcases divQ_dn1 (N := N) (c := kX ks (i + 1) - kX ks i) (by omega) with ⟨_, e, _⟩ | ⟨_, e⟩
    · rw [e]
    · omega
  · rcases divQ_up1 (N := N) (c := kX ks (i + 1) - kX ks i) (by omega) with ⟨_, e, _⟩ | ⟨_, e⟩
    · rw [e]
    · omega
/-- At its ends a piece has the values of its knots. -/
theorem dn_left {ks : List (Int × Int)} {i : Nat} : dnQ ks i (kX ks i) = kY ks i ∧ upQx ks i (kX ks i) = kY ks i := by
  unfold dnQ upQx upV
  rw [Int.sub_self, Int.mul_zero]
  simp
theorem dn_right {ks : List (Int × Int)} (h : tabOk ks = true) {i : Nat} (hi : i + 1 < ks.length) : dnQ ks i (kX ks (i + 1)) = kY ks (i + 1) ∧ upQx ks i (kX ks (i + 1)) = kY ks (i + 1) := by
  have n := knot_next h hi
  unfold dnQ upQx upV
  rw [Int.mul_ediv_cancel _ (by omega), Int.mul_emod_left]
  simp
  omega
/-- Where two pieces meet they have the same value. -/
theorem dn_same {ks : List (Int × Int)} (h : tabOk ks = true) {i j : Nat} (hi : i + 1 < ks.length) (hj : j + 1 < ks.length) {x : Int} (i0 : kX ks i ≤ x) (i1 : x ≤ kX ks (i + 1)) (j0 : kX ks j ≤ x) (j1 : x ≤ kX ks (j + 1)) :
    dnQ ks i x = dnQ ks j x ∧ upQx ks i x = upQx ks j x := by
  have key : ∀ i j : Nat, i < j → j + 1 < ks.length → kX ks j ≤ x → x ≤ kX ks (i + 1) → dnQ ks i x = dnQ ks j x ∧ upQx ks i x = upQx ks j x := by
    intro i j hij hj a b
    have e1 := knot_le h (show i + 1 ≤ j by omega) (by omega)
    have e2 : x = kX ks j := by omega
    have e3 : j = i + 1 := by
      rcases Nat.lt_or_ge (i + 1) j with h2 | h2
      · have := knot_lt h h2 (by omega)
        omega
      · omega
    subst e3
    rw [e2, (dn_right h (by omega)).1, (dn_right h (by omega)).2, dn_left.1, dn_left.2]
    exact ⟨rfl, rfl⟩
  rcases Nat.lt_trichotomy i j with hij | hij | hij
  · exact key i j hij hj j0 i1
  · subst hij; exact ⟨rfl, rfl⟩
  · have := key j i hij hi i0 j1
    exact ⟨this.1.symm, this.2.symm⟩

/-- The piece j has integers of the range. -/
def cnd (ks : List (Int × Int)) (lo hi : Int) (j : Nat) : Prop := max (kX ks j) lo ≤ min (kX ks (j + 1)) hi
def loAll (ks : List (Int × Int)) (lo hi v : Int) (k : Nat) : Prop := ∀ j, j < k → cnd ks lo hi j → v ≤ dnQ ks j (max (kX ks j) lo) ∧ v ≤ dnQ ks j (min (kX ks (j + 1)) hi)
def hiAll (ks : List (Int × Int)) (lo hi v : Int) (k : Nat) : Prop := ∀ j, j < k → cnd ks lo hi j → upQx ks j (max (kX ks j) lo) ≤ v ∧ upQx ks j (min (kX ks (j + 1)) hi) ≤ v
theorem loAll_succ {ks : List (Int × Int)} {lo hi v : Int} {k : Nat} (c : cnd ks lo hi k) : loAll ks lo hi v (k + 1) ↔ loAll ks lo hi v k ∧ v ≤ dnQ ks k (max (kX ks k) lo) ∧ v ≤ dnQ ks k (min (kX ks (k + 1)) hi) := by
  constructor
  · intro h; exact ⟨fun j hj => h j (by omega), h k (by omega) c⟩
  · intro h j hj cj
    rcases Nat.lt_or_ge j k with h2 | h2
    · exact h.1 j h2 cj
    · obtain rfl : j = k := by omega
      exact h.2
theorem hiAll_succ {ks : List (Int × Int)} {lo hi v : Int} {k : Nat} (c : cnd ks lo hi k) : hiAll ks lo hi v (k + 1) ↔ hiAll ks lo hi v k ∧ upQx ks k (max (kX ks k) lo) ≤ v ∧ upQx ks k (min (kX ks (k + 1)) hi) ≤ v := by
  constructor
  · intro h; exact ⟨fun j hj => h j (by omega), h k (by omega) c⟩
  · intro h j hj cj
    rcases Nat.lt_or_ge j k with h2 | h2
    · exact h.1 j h2 cj
    · obtain rfl : j = k := by omega
      exact h.2
theorem loAll_skip {ks : List (Int × Int)} {lo hi v : Int} {k : Nat} (c : ¬ cnd ks lo hi k) : loAll ks lo hi v (k + 1) ↔ loAll ks lo hi v k := by
  constructor
  · intro h j hj; exact h j (by omega)
  · intro h j hj cj
    rcases Nat.lt_or_ge j k with h2 | h2
    · exact h j h2 cj
    · obtain rfl : j = k := by omega
      exact absurd cj c
theorem hiAll_skip {ks : List (Int × Int)} {lo hi v : Int} {k : Nat} (c : ¬ cnd ks lo hi k) : hiAll ks lo hi v (k + 1) ↔ hiAll ks lo hi v k := by
  constructor
  · intro h j hj; exact h j (by omega)
  · intro h j hj cj
    rcases Nat.lt_or_ge j k with h2 | h2
    · exact h j h2 cj
    · obtain rfl : j = k := by omega
      exact absurd cj c

/-- What has been gathered behind k pieces. -/
def Gthd (ks : List (Int × Int)) (lo hi : Int) (k : Nat) (g : Gth) : Prop :=
  g.o = false ∧ ((g.s = false ∧ ∀ j, j < k → ¬ cnd ks lo hi j) ∨ (g.s = true ∧ (∃ j, j < k ∧ cnd ks lo hi j) ∧ (∀ v, v ≤ g.l ↔ loAll ks lo hi v k) ∧ (∀ v, g.h ≤ v ↔ hiAll ks lo hi v k)))
theorem gthd_all {ks : List (Int × Int)} (h : tabOk ks = true) (lo hi : Int) : ∀ k, k + 1 ≤ ks.length → Gthd ks lo hi k (vAll lo hi (segs ks k)) := by
  intro k
  induction k with
  | zero => intro _; exact ⟨rfl, .inl ⟨rfl, fun j hj => by omega⟩⟩
  | succ k ih =>
    intro hk
    obtain ⟨ho, H⟩ := ih (by omega)
    rw [segs_succ, vAll_snoc]
    generalize vAll lo hi (segs ks k) = g at *
    have st : vStep lo hi g (seg ks k) = if max (kX ks k) lo ≤ min (kX ks (k + 1)) hi then gAdd (gAdd g (atQ (seg ks k).1.1 (seg ks k).1.2 (seg ks k).2.1 (seg ks k).2.2 (max (kX ks k) lo) 1) (atQ (seg ks k).1.1 (seg ks k).1.2 (seg ks k).2.1 (seg ks k).2.2 (max (kX ks k) lo) 2)) (atQ (seg ks k).1.1 (seg ks k).1.2 (seg ks k).2.1 (seg ks k).2.2 (min (kX ks (k + 1)) hi) 1) (atQ (seg ks k).1.1 (seg ks k).1.2 (seg ks k).2.1 (seg ks k).2.2 (min (kX ks (k + 1)) hi) 2) else g := rfl
    rw [st]
    by_cases c : max (kX ks k) lo ≤ min (kX ks (k + 1)) hi
    · have n := knot_next h (i := k) (by omega)
      obtain ⟨a1, a2⟩ := atQ_is h (i := k) (by omega) (x := max (kX ks k) lo) (by omega) (by omega)
      obtain ⟨b1, b2⟩ := atQ_is h (i := k) (by omega) (x := min (kX ks (k + 1)) hi) (by omega) (by omega)
      rw [if_pos c, a1, a2, b1, b2]
      have c' : cnd ks lo hi k := c
      rcases H with ⟨hs, hn⟩ | ⟨hs, he, hl, hh⟩
      · have e : gAdd g (dnQ ks k (max (kX ks k) lo)) (upQx ks k (max (kX ks k) lo)) = ⟨dnQ ks k (max (kX ks k) lo), upQx ks k (max (kX ks k) lo), true, g.o⟩ := by unfold gAdd; rw [hs, if_neg (by simp)]
        rw [e]
        refine ⟨ho, .inr ⟨rfl, ⟨k, by omega, c'⟩, fun v => ?_, fun v => ?_⟩⟩
        · rw [loAll_succ c']
          have : loAll ks lo hi v k := fun j hj cj => absurd cj (hn j hj)
          simp only [gAdd, if_true, this, true_and]
          omega
        · rw [hiAll_succ c']
          have : hiAll ks lo hi v k := fun j hj cj => absurd cj (hn j hj)
          simp only [gAdd, if_true, this, true_and]
          omega
      · have e : gAdd g (dnQ ks k (max (kX ks k) lo)) (upQx ks k (max (kX ks k) lo)) = ⟨min g.l (dnQ ks k (max (kX ks k) lo)), max g.h (upQx ks k (max (kX ks k) lo)), true, g.o⟩ := by unfold gAdd; rw [hs, if_pos rfl]
        rw [e]
        refine ⟨ho, .inr ⟨rfl, ⟨k, by omega, c'⟩, fun v => ?_, fun v => ?_⟩⟩
        · rw [loAll_succ c', ← hl v]
          simp only [gAdd, if_true]
          omega
        · rw [hiAll_succ c', ← hh v]
          simp only [gAdd, if_true]
          omega
    · rw [if_neg c]
      have c' : ¬ cnd ks lo hi k := c
      refine ⟨ho, ?_⟩
      rcases H with ⟨hs, hn⟩ | ⟨hs, ⟨j, hj, cj⟩, hl, hh⟩
      · refine .inl ⟨hs, fun j hj => ?_⟩
        rcases Nat.lt_or_ge j k with h2 | h2
        · exact hn j h2
        · obtain rfl : j = k := by omega
          exact c'
      · exact .inr ⟨hs, ⟨j, by omega, cj⟩, fun v => (hl v).trans (loAll_skip c').symm, fun v => (hh v).trans (hiAll_skip c').symm⟩

/-- The reference: the values at the ends, and of the knots between them. -/
def rLo (ks : List (Int × Int)) (lo hi d : Int) : Nat → Int
  | 0 => d
  | k + 1 => if lo < kX ks k ∧ kX ks k < hi then min (rLo ks lo hi d k) (kY ks k) else rLo ks lo hi d k
def rHi (ks : List (Int × Int)) (lo hi d : Int) : Nat → Int
  | 0 => d
  | k + 1 => if lo < kX ks k ∧ kX ks k < hi then max (rHi ks lo hi d k) (kY ks k) else rHi ks lo hi d k
theorem rLo_le {ks : List (Int × Int)} {lo hi d v : Int} : ∀ k, v ≤ rLo ks lo hi d k ↔ v ≤ d ∧ ∀ j, j < k → lo < kX ks j → kX ks j < hi → v ≤ kY ks j := by
  intro k
  induction k with
  | zero => exact ⟨fun h => ⟨h, fun j hj => by omega⟩, fun h => h.1⟩
  | succ k ih =>
    have st : (∀ j, j < k + 1 → lo < kX ks j → kX ks j < hi → v ≤ kY ks j) ↔ (∀ j, j < k → lo < kX ks j → kX ks j < hi → v ≤ kY ks j) ∧ (lo < kX ks k → kX ks k < hi → v ≤ kY ks k) := by
      constructor
      · intro h; exact ⟨fun j hj => h j (by omega), h k (by omega)⟩
      · intro h j hj
        rcases Nat.lt_or_ge j k with h2 | h2
        · exact h.1 j h2
        · obtain rfl : j = k := by omega
          exact h.2
    rw [st]
    unfold rLo
    split
    · rename_i c
      have : v ≤ min (rLo ks lo hi d k) (kY ks k) ↔ v ≤ rLo ks lo hi d k ∧ v ≤ kY ks k := by omega
      rw [this, ih]
      constructor
      · intro ⟨⟨a, b⟩, e⟩; exact ⟨a, b, fun _ _ => e⟩
      · intro ⟨a, b, e⟩; exact ⟨⟨a, b⟩, e c.1 c.2⟩
    · rename_i c
      rw [ih]
      constructor
      · intro ⟨a, b⟩; exact ⟨a, b, fun x y => absurd ⟨x, y⟩ c⟩
      · intro ⟨a, b, _⟩; exact ⟨a, b⟩
theorem rHi_le {ks : List (Int × Int)} {lo hi d v : Int} : ∀ k, rHi ks lo hi d k ≤ v ↔ d ≤ v ∧ ∀ j, j < k → lo < kX ks j → kX ks j < hi → kY ks j ≤ v := by
  intro k
  induction k with
  | zero => exact ⟨fun h => ⟨h, fun j hj => by omega⟩, fun h => h.1⟩
  | succ k ih =>
    have st : (∀ j, j < k + 1 → lo < kX ks j → kX ks j < hi → kY ks j ≤ v) ↔ (∀ j, j < k → lo < kX ks j → kX ks j < hi → kY ks j ≤ v) ∧ (lo < kX ks k → kX ks k < hi → kY ks k ≤ v) := by
      constructor
      · intro h; exact ⟨fun j hj => h j (by omega), h k (by omega)⟩
      · intro h j hj
        rcases Nat.lt_or_ge j k with h2 | h2
        · exact h.1 j h2
        · obtain rfl : j = k := by omega
          exact h.2
    rw [st]
    unfold rHi
    split
    · rename_i c
      have : max (rHi ks lo hi d k) (kY ks k) ≤ v ↔ rHi ks lo hi d k ≤ v ∧ kY ks k ≤ v := by omega
      rw [this, ih]
      constructor
      · intro ⟨⟨a, b⟩, e⟩; exact ⟨a, b, fun _ _ => e⟩
      · intro ⟨a, b, e⟩; exact ⟨⟨a, b⟩, e c.1 c.2⟩
    · rename_i c
      rw [ih]
      constructor
      · intro ⟨a, b⟩; exact ⟨a, b, fun x y => absurd ⟨x, y⟩ c⟩
      · intro ⟨a, b, _⟩; exact ⟨a, b⟩

/-- The piece i has x. -/
def Has (ks : List (Int × Int)) (i : Nat) (x : Int) : Prop := i + 1 < ks.length ∧ kX ks i ≤ x ∧ x ≤ kX ks (i + 1)
theorem has_ex {ks : List (Int × Int)} {x : Int} : ∀ m, m + 1 < ks.length → kX ks 0 ≤ x → x ≤ kX ks (m + 1) → ∃ i, Has ks i x := by
  intro m
  induction m with
  | zero => intro h a b; exact ⟨0, h, a, b⟩
  | succ m ih =>
    intro h a b
    rcases Int.lt_or_le (kX ks (m + 1)) x with c | c
    · exact ⟨m + 1, h, by omega, b⟩
    · exact ih (by omega) a c

theorem both_le {a b : Int} (h : ∀ v, v ≤ a ↔ v ≤ b) : a = b := by
  have h1 := (h a).1 (Int.le_refl _)
  have h2 := (h b).2 (Int.le_refl _)
  omega
theorem both_ge {a b : Int} (h : ∀ v, a ≤ v ↔ b ≤ v) : a = b := by
  have h1 := (h a).1 (Int.le_refl _)
  have h2 := (h b).2 (Int.le_refl _)
  omega
/-- The value of a table at a range. -/
theorem value_ref {ks : List (Int × Int)} (h : tabOk ks = true) {lo hi : Int} (hlh : lo ≤ hi) {i j : Nat} (hi' : Has ks i lo) (hj' : Has ks j hi) :
    gRes (vAll lo hi (segs ks (ks.length - 1))) = (rLo ks lo hi (min (dnQ ks i lo) (dnQ ks j hi)) ks.length, rHi ks lo hi (max (upQx ks i lo) (upQx ks j hi)) ks.length, 0) := by
  have len := len_of h
  obtain ⟨ho, H⟩ := gthd_all h lo hi (ks.length - 1) (by omega)
  obtain ⟨i1, i2, i3⟩ := hi'
  obtain ⟨j1, j2, j3⟩ := hj'
  have ci : cnd ks lo hi i := by unfold cnd; omega
  have cj : cnd ks lo hi j := by unfold cnd; omega
  rcases H with ⟨_, hn⟩ | ⟨_, _, hl, hh⟩
  · exact absurd ci (hn i (by omega))
  have same : ∀ k x, k + 1 < ks.length → kX ks k ≤ x → x ≤ kX ks (k + 1) → ∀ m, m + 1 < ks.length → kX ks m ≤ x → x ≤ kX ks (m + 1) → dnQ ks k x = dnQ ks m x ∧ upQx ks k x = upQx ks m x :=
    fun k x a b c m d e f => dn_same h a d b c e f
  have el : (vAll lo hi (segs ks (ks.length - 1))).l = rLo ks lo hi (min (dnQ ks i lo) (dnQ ks j hi)) ks.length := by
    refine both_le fun v => ?_
    rw [hl v, rLo_le]
    constructor
    · intro A
      refine ⟨?_, fun m hm m1 m2 => ?_⟩
      · have a := (A i (by omega) ci).1
        have b := (A j (by omega) cj).2
        rw [show max (kX ks i) lo = lo by omega] at a
        rw [show min (kX ks (j + 1)) hi = hi by omega] at b
        omega
      · obtain ⟨m', rfl⟩ : ∃ m', m = m' + 1 := by
          rcases m with _ | m'
          · have := knot_le h (show 0 ≤ i by omega) (by omega)
            omega
          · exact ⟨m', rfl⟩
        have n := knot_next h (i := m') (by omega)
        have c : cnd ks lo hi m' := by unfold cnd; omega
        have b := (A m' (by omega) c).2
        rw [show min (kX ks (m' + 1)) hi = kX ks (m' + 1) by omega, (dn_right h (by omega)).1] at b
        exact b
    · intro ⟨A, B⟩ m hm c
      unfold cnd at c
      have n := knot_next h (i := m) (by omega)
      constructor
      · by_cases c1 : kX ks m ≤ lo
        · rw [show max (kX ks m) lo = lo by omega, (same m lo (by omega) c1 (by omega) i i1 i2 i3).1]; omega
        · rw [show max (kX ks m) lo = kX ks m by omega]
          by_cases c2 : kX ks m < hi
          · rw [dn_left.1]; exact B m (by omega) (by omega) c2
          · have e : kX ks m = hi := by omega
            rw [e, (same m hi (by omega) (by omega) (by omega) j j1 j2 j3).1]; omega
      · by_cases c1 : hi ≤ kX ks (m + 1)
        · rw [show min (kX ks (m + 1)) hi = hi by omega, (same m hi (by omega) (by omega) c1 j j1 j2 j3).1]; omega
        · rw [show min (kX ks (m + 1)) hi = kX ks (m + 1) by omega]
          by_cases c2 : lo < kX ks (m + 1)
          · rw [(dn_right h (by omega)).1]; exact B (m + 1) (by omega) c2 (by omega)
          · have e : kX ks (m + 1) = lo := by omega
            rw [e, (same m lo (by omega) (by omega) (by omega) i i1 i2 i3).1]; omega
  have eh : (vAll lo hi (segs ks (ks.length - 1))).h = rHi ks lo hi (max (upQx ks i lo) (upQx ks j hi)) ks.length := by
    refine both_ge fun v => ?_
    rw [hh v, rHi_le]
    constructor
    · intro A
      refine ⟨?_, fun m hm m1 m2 => ?_⟩
      · have a := (A i (by omega) ci).1
        have b := (A j (by omega) cj).2
        rw [show max (kX ks i) lo = lo by omega] at a
        rw [show min (kX ks (j + 1)) hi = hi by omega] at b
        omega
      · obtain ⟨m', rfl⟩ : ∃ m', m = m' + 1 := by
          rcases m with _ | m'
          · have := knot_le h (show 0 ≤ i by omega) (by omega)
            omega
          · exact ⟨m', rfl⟩
        have n := knot_next h (i := m') (by omega)
        have c : cnd ks lo hi m' := by unfold cnd; omega
        have b := (A m' (by omega) c).2
        rw [show min (kX ks (m' + 1)) hi = kX ks (m' + 1) by omega, (dn_right h (by omega)).2] at b
        exact b
    · intro ⟨A, B⟩ m hm c
      unfold cnd at c
      have n := knot_next h (i := m) (by omega)
      constructor
      · by_cases c1 : kX ks m ≤ lo
        · rw [show max (kX ks m) lo = lo by omega, (same m lo (by omega) c1 (by omega) i i1 i2 i3).2]; omega
        · rw [show max (kX ks m) lo = kX ks m by omega]
          by_cases c2 : kX ks m < hi
          · rw [dn_left.2]; exact B m (by omega) (by omega) c2
          · have e : kX ks m = hi := by omega
            rw [e, (same m hi (by omega) (by omega) (by omega) j j1 j2 j3).2]; omega
      · by_cases c1 : hi ≤ kX ks (m + 1)
        · rw [show min (kX ks (m + 1)) hi = hi by omega, (same m hi (by omega) (by omega) c1 j j1 j2 j3).2]; omega
        · rw [show min (kX ks (m + 1)) hi = kX ks (m + 1) by omega]
          by_cases c2 : lo < kX ks (m + 1)
          · rw [(dn_right h (by omega)).2]; exact B (m + 1) (by omega) c2 (by omega)
          · have e : kX ks (m + 1) = lo := by omega
            rw [e, (same m lo (by omega) (by omega) (by omega) i i1 i2 i3).2]; omega
  rw [gRes, if_neg (by rw [ho]; simp), el, eh]
end Go.Proofs.YtimfbjnpalgmcaaGreat
