/-
  The reference: spread; what it has to do with what is gathered. The reference: spread, walked. units.Less, units.Over. The reference: Less, Times, Over. UnitsPairs: the walk.
-/
import Derived.Test.YtckapcfofkeicaaLst
import Derived.Test.YtckapcfofkeicaaMdW
import Derived.Deep.RegionHeld3
namespace Go.Proofs.Ytckapcfofkeicaa
set_option linter.unusedSimpArgs false
set_option linter.unusedVariables false
open Go.RowKit

/-- What is rounded up. -/
def upV (N c : Int) : Int := N / c + (if 0 < N % c then 1 else 0)
theorem divQ_down {N c : Int} (c0 : 1 ≤ c) : ((divQ N c 1).2.2 = true ∧ (divQ N c 1).1 = N / c ∧ -1000000000000000 ≤ N / c ∧ N / c ≤ 1000000000000000) ∨ ((divQ N c 1).2.2 = false ∧ (N / c < -1000000000000000 ∨ 1000000000000000 < N / c)) := by
  cases hf : (floorQ N c).2.2 with
  | false =>
    have o := floorQ_out c0 hf
    have hd : (divQ N c 1).2.2 = false := by unfold divQ; rw [hf]; simp
    exact .inr ⟨hd, by omega⟩
  | true =>
    obtain ⟨f, _, _⟩ := floorQ_true c0 hf
    rw [divQ_eq f, upQ1, if_neg (by simp)]
    cases hk : allIn 1000000000000000 [N / c] with
    | true => exact .inl ⟨rfl, rfl, (allIn_one.1 hk).1, (allIn_one.1 hk).2⟩
    | false =>
      refine .inr ⟨rfl, ?_⟩
      by_cases h0 : -1000000000000000 ≤ N / c
      · by_cases h1 : N / c ≤ 1000000000000000
        · rw [allIn_one.2 ⟨h0, h1⟩] at hk; cases hk
        · omega
      · omega
theorem divQ_up {N c : Int} (c0 : 1 ≤ c) : ((divQ N c 2).2.2 = true ∧ (divQ N c 2).1 = upV N c ∧ -1000000000000000 ≤ upV N c ∧ upV N c ≤ 1000000000000000) ∨ ((divQ N c 2).2.2 = false ∧ (upV N c < -1000000000000000 ∨ 1000000000000000 < upV N c)) := by
  cases hf : (floorQ N c).2.2 with
  | false =>
    have o := floorQ_out c0 hf
    have hd : (divQ N c 2).2.2 = false := by unfold divQ; rw [hf]; simp
    refine .inr ⟨hd, ?_⟩
    unfold upV
    split <;> omega
  | true =>
    obtain ⟨f, _, _⟩ := floorQ_true c0 hf
    have e : upV N c = if upQ 2 (N / c) (N % c) c = true then N / c + 1 else N / c := by
      unfold upV; rw [upQ2]
      by_cases h : 0 < N % c
      · rw [if_pos h, if_pos (decide_eq_true h)]
      · rw [if_neg h, if_neg (by simpa using h)]; omega
    rw [divQ_eq f]
    have fin : ∀ v : Int, (allIn 1000000000000000 [v] = true ∧ True ∧ -1000000000000000 ≤ v ∧ v ≤ 1000000000000000) ∨ (allIn 1000000000000000 [v] = false ∧ (v < -1000000000000000 ∨ 1000000000000000 < v)) := by
      intro v
      cases hk : allIn 1000000000000000 [v] with
      | true => exact .inl ⟨rfl, trivial, (allIn_one.1 hk).1, (allIn_one.1 hk).2⟩
      | false =>
        refine .inr ⟨rfl, ?_⟩
        by_cases h0 : -1000000000000000 ≤ v
        · by_cases h1 : v ≤ 1000000000000000
          · rw [allIn_one.2 ⟨h0, h1⟩] at hk; cases hk
          · omega
        · omega
    rw [e]
    cases hu : upQ 2 (N / c) (N % c) c with
    | true => simp only [if_true]; exact fin _
    | false => simp only [Bool.false_eq_true, if_false]; exact fin _
/-- The reference's Floor, and what it is rounded up to. -/
theorem refFlo_cases {N c : Int} (c0 : 1 ≤ c) : ((refFlo N c).2.2 = true ∧ (refFlo N c).1 = N / c ∧ (refFlo N c).1 + (if 0 < (refFlo N c).2.1 then 1 else 0) = upV N c) ∨ ((refFlo N c).2.2 = false ∧ (N / c < -1000000000000001 ∨ 1000000000000000 < N / c)) := by
  cases h : (refFlo N c).2.2 with
  | false => exact .inr ⟨rfl, floorQ_out c0 (refFlo_false c0 h)⟩
  | true =>
    obtain ⟨e, _, _⟩ := refFlo_true c0 h
    refine .inl ⟨rfl, by rw [e], ?_⟩
    rw [e]; rfl
theorem upV_le {N c : Int} : N / c ≤ upV N c ∧ upV N c ≤ N / c + 1 := by unfold upV; split <;> omega

/-- What has been gathered of the first quotients. -/
def gF (q : Nat → Int × Int × Int) : Nat → Gth
  | 0 => ⟨0, 0, false, false⟩
  | j + 1 => gQuo (gF q j) (q j).1 (q j).2.1 (q j).2.2
/-- What the reference holds after the first quotients. -/
def rStep (first : Bool) (s : Int × Int × Bool) (f : Int × Int × Bool) : Int × Int × Bool :=
  (min (if first then f.1 else s.1) f.1, max (if first then f.1 + (if 0 < f.2.1 then 1 else 0) else s.2.1) (f.1 + (if 0 < f.2.1 then 1 else 0)), s.2.2 && f.2.2)
def rF (q : Nat → Int × Int × Int) : Nat → Int × Int × Bool
  | 0 => (0, 0, true)
  | j + 1 => rStep (decide (j = 0)) (rF q j) (refFlo ((q j).1 * (q j).2.1) (q j).2.2)
theorem spread_inv (q : Nat → Int × Int × Int) (n : Nat) (hc : ∀ j, j < n → 1 ≤ (q j).2.2) : ∀ j, j < n →
    (gF q (j + 1)).s = true ∧ ((gF q (j + 1)).o = false → (rF q (j + 1)).2.2 = true ∧ (gF q (j + 1)).l = (rF q (j + 1)).1 ∧ (gF q (j + 1)).h = (rF q (j + 1)).2.1 ∧ (-1000000000000000 ≤ (rF q (j + 1)).1 ∧ (rF q (j + 1)).1 ≤ 1000000000000000) ∧ -1000000000000000 ≤ (rF q (j + 1)).2.1 ∧ (rF q (j + 1)).2.1 ≤ 1000000000000000) ∧
    ((gF q (j + 1)).o = true → (rF q (j + 1)).2.2 = true → (rF q (j + 1)).1 < -1000000000000000 ∨ 1000000000000000 < (rF q (j + 1)).2.1) := by
  intro j
  induction j with
  | zero =>
    intro hj
    have c0 := hc 0 hj
    have D := divQ_down (N := (q 0).1 * (q 0).2.1) c0
    have U := divQ_up (N := (q 0).1 * (q 0).2.1) c0
    have R := refFlo_cases (N := (q 0).1 * (q 0).2.1) c0
    have V := upV_le (N := (q 0).1 * (q 0).2.1) (c := (q 0).2.2)
    simp only [gF, rF, gQuo, gAdd, rStep, decide_true, if_true, Bool.false_or, Bool.true_and, Bool.false_eq_true, if_false]
    generalize refFlo ((q 0).1 * (q 0).2.1) (q 0).2.2 = f at *
    generalize divQ ((q 0).1 * (q 0).2.1) (q 0).2.2 1 = d at *
    generalize divQ ((q 0).1 * (q 0).2.1) (q 0).2.2 2 = u at *
    generalize upV ((q 0).1 * (q 0).2.1) (q 0).2.2 = v at *
    generalize (q 0).1 * (q 0).2.1 / (q 0).2.2 = x at *
    obtain ⟨f1, f2, f3⟩ := f
    obtain ⟨d1, d2, d3⟩ := d
    obtain ⟨u1, u2, u3⟩ := u
    simp only at *
    generalize f1 + (if 0 < f2 then 1 else 0) = y at *
    refine ⟨trivial, ?_, ?_⟩
    · intro h
      rcases D with ⟨rfl, rfl, D⟩ | ⟨rfl, D⟩
      · rcases U with ⟨rfl, rfl, U⟩ | ⟨rfl, U⟩
        · rcases R with ⟨rfl, rfl, rfl⟩ | ⟨rfl, R⟩
          · refine ⟨rfl, ?_, ?_, ?_, ?_⟩ <;> omega
          · omega
        · simp at h
      · simp at h
    · intro h k
      rcases R with ⟨rfl, rfl, rfl⟩ | ⟨rfl, R⟩
      · rcases D with ⟨rfl, rfl, D⟩ | ⟨rfl, D⟩
        · rcases U with ⟨rfl, rfl, U⟩ | ⟨rfl, U⟩
          · simp at h
          · omega
        · omega
      · cases k
  | succ j ih =>
    intro hj
    obtain ⟨i1, i2, i3⟩ := ih (by omega)
    have c0 := hc (j + 1) hj
    have D := divQ_down (N := (q (j + 1)).1 * (q (j + 1)).2.1) c0
    have U := divQ_up (N := (q (j + 1)).1 * (q (j + 1)).2.1) c0
    have R := refFlo_cases (N := (q (j + 1)).1 * (q (j + 1)).2.1) c0
    have V := upV_le (N := (q (j + 1)).1 * (q (j + 1)).2.1) (c := (q (j + 1)).2.2)
    have e1 : gF q (j + 1 + 1) = gQuo (gF q (j + 1)) (q (j + 1)).1 (q (j + 1)).2.1 (q (j + 1)).2.2 := rfl
    have e2 : rF q (j + 1 + 1) = rStep false (rF q (j + 1)) (refFlo ((q (j + 1)).1 * (q (j + 1)).2.1) (q (j + 1)).2.2) := rfl
    rw [e1, e2]
    clear e1 e2 ih
    generalize gF q (j + 1) = g at *
    generalize rF q (j + 1) = s at *
    unfold gQuo gAdd rStep
    generalize refFlo ((q (j + 1)).1 * (q (j + 1)).2.1) (q (j + 1)).2.2 = f at *
    generalize divQ ((q (j + 1)).1 * (q (j + 1)).2.1) (q (j + 1)).2.2 1 = d at *
    generalize divQ ((q (j + 1)).1 * (q (j + 1)).2.1) (q (j + 1)).2.2 2 = u at *
    generalize upV ((q (j + 1)).1 * (q (j + 1)).2.1) (q (j + 1)).2.2 = v at *
    generalize (q (j + 1)).1 * (q (j + 1)).2.1 / (q (j + 1)).2.2 = x at *
    obtain ⟨f1, f2, f3⟩ := f
    obtain ⟨d1, d2, d3⟩ := d
    obtain ⟨u1, u2, u3⟩ := u
    obtain ⟨gl, gh, gs, go⟩ := g
    obtain ⟨s1, s2, s3⟩ := s
    simp only [Bool.false_eq_true, if_false] at *
    subst i1
    simp only [if_true]
    generalize f1 + (if 0 < f2 then 1 else 0) = y at *
    refine ⟨trivial, ?_, ?_⟩
    · intro h
      rcases D with ⟨rfl, rfl, D⟩ | ⟨rfl, D⟩
      · rcases U with ⟨rfl, rfl, U⟩ | ⟨rfl, U⟩
        · have h' : go = false := by simpa using h
          obtain ⟨rfl, rfl, rfl, b1, b2⟩ := i2 h'
          rcases R with ⟨rfl, rfl, rfl⟩ | ⟨rfl, R⟩
          · refine ⟨rfl, rfl, rfl, ?_, ?_⟩ <;> omega
          · omega
        · simp at h
      · simp at h
    · intro h k
      have k1 : s3 = true := by cases s3 <;> simp_all
      have k2 : f3 = true := by cases f3 <;> simp_all
      rcases R with ⟨_, rfl, rfl⟩ | ⟨r, R⟩
      · rcases D with ⟨rfl, rfl, D⟩ | ⟨rfl, D⟩
        · rcases U with ⟨rfl, rfl, U⟩ | ⟨rfl, U⟩
          · have h' : go = true := by simpa using h
            have := i3 h' k1
            omega
          · omega
        · omega
      · rw [k2] at r; cases r
/-- What the reference's spread returns. -/
def sprQ (s : Int × Int × Bool) : Int × Int × Int := if (s.2.2 && allIn 1000000000000000 [s.1, s.2.1]) = true then (s.1, s.2.1, 0) else (0, 0, 10)
theorem spread_is (q : Nat → Int × Int × Int) (j : Nat) (hc : ∀ i, i < j + 1 → 1 ≤ (q i).2.2) : gRes (gF q (j + 1)) = sprQ (rF q (j + 1)) := by
  obtain ⟨i1, i2, i3⟩ := spread_inv q (j + 1) hc j (by omega)
  unfold gRes sprQ
  cases ho : (gF q (j + 1)).o with
  | false =>
    obtain ⟨a, b, c, d, e⟩ := i2 ho
    rw [if_neg (by simp), a, Bool.true_and, if_pos (allIn_two.2 ⟨d, e⟩), b, c]
  | true =>
    rw [if_pos rfl, if_neg]
    intro h
    rw [Bool.and_eq_true] at h
    have := i3 ho h.1
    have k := allIn_two.1 h.2
    omega
end Go.Proofs.Ytckapcfofkeicaa

namespace Go.Proofs.Ytckapcfofkeicaa
set_option linter.unusedSimpArgs false
set_option linter.unusedVariables false
open Go.RowKit

/-- The quotients in their order. -/
def qOf (xs : List Int) (fs : List (Int × Int)) (m j : Nat) : Int × Int × Int := (xs.getD (j / m) 0, (fs.getD (j % m) (0, 0)).1, (fs.getD (j % m) (0, 0)).2)
theorem qOf_at (xs : List Int) (fs : List (Int × Int)) {m i k : Nat} (hk : k < m) : qOf xs fs m (i * m + k) = (xs.getD i 0, (fs.getD k (0, 0)).1, (fs.getD k (0, 0)).2) := by
  have e1 : (i * m + k) / m = i := by
    rw [Nat.mul_comm, Nat.mul_add_div (by omega), Nat.div_eq_of_lt hk, Nat.add_zero]
  have e2 : (i * m + k) % m = k := by
    rw [Nat.mul_comm, Nat.mul_add_mod, Nat.mod_eq_of_lt hk]
  unfold qOf
  rw [e1, e2]
/-- The reference's state, as it lies in the walk's slots. -/
def sAt (s : Int × Int × Bool) (lo hi all : Value) : Prop := lo = .int .i64 s.1 ∧ hi = .int .i64 s.2.1 ∧ all = .bool s.2.2

set_option maxRecDepth 100000 in
set_option maxHeartbeats 6400000 in
theorem spread_walk (xs : List Int) (fs : List (Int × Int)) (a b : Option Addr) (ca cb m : Nat) (x y E : Int) (w : World) (hm : fs.length = m) (hx : xs.length ≤ 1000) (hf : m ≤ 1000) (hxs : Hid (∀ i, i < xs.length → -1000000000000000 ≤ xs.getD i 0 ∧ xs.getD i 0 ≤ 1000000000000000))
    (hfs : Hid (∀ k, k < m → (-1000000000000000 ≤ (fs.getD k (0, 0)).1 ∧ (fs.getD k (0, 0)).1 ≤ 1000000000000000) ∧ 1 ≤ (fs.getD k (0, 0)).2 ∧ (fs.getD k (0, 0)).2 ≤ 1000000000000000))
    (F : Hid (∀ W, Calls Try.prog 94 #[.int .i64 (rF (qOf xs fs m) (xs.length * m)).1, .int .i64 (rF (qOf xs fs m) (xs.length * m)).2.1, .bool (rF (qOf xs fs m) (xs.length * m)).2.2] W fun e w' => e = .returned (.tuple #[.agg #[.int .i64 x, .int .i64 y], .int .i64 E]) ∧ Below W.heap.size W w'))
    (h1 : Hid (IsInts w a xs)) (h2 : Hid (IsPairs w b fs)) :
    Calls Try.prog 100 #[.slice a xs.length ca, .slice b fs.length cb] w fun e w' => e = .returned (.tuple #[.agg #[.int .i64 x, .int .i64 y], .int .i64 E]) ∧ Below w.heap.size w w' := by
  obtain ⟨R, hR⟩ : ∃ R : Nat → Int × Int × Bool, (∀ j, rF (qOf xs fs m) j = R j) := ⟨_, fun _ => rfl⟩
  have HS : Hid (∀ i k, k < m → rStep (decide (i * m + k = 0)) (R (i * m + k)) (refFlo (xs.getD i 0 * (fs.getD k (0, 0)).1) (fs.getD k (0, 0)).2) = R (i * m + k + 1)) := by
    intro i k hk
    rw [← hR, ← hR]
    show _ = rStep _ _ _
    rw [qOf_at xs fs hk]
  have R0 : Hid (R 0 = (0, 0, true)) := (hR 0).symm
  rw [hR] at F
  clear hR
  have HM := hide hm
  rw [hm]
  clear hm
  go_enter Try.func100, Try.ntmps100
  go_wp2_with fail
  go_loopw [6, 7, 8, 9] (fun lo hi all i wr => ∃ k : Nat, k ≤ xs.length ∧ i = .int .i64 (k : Int) ∧ sAt (R (k * m)) lo hi all ∧ CF wr ⟨w.heap.size, 0, none⟩ (.int .i64 0) ∧ CF wr ⟨w.heap.size, 1, none⟩ (.int .i64 0) ∧ Below w.heap.size w wr) (fun _ _ _ i _ => xs.length - (intOf i).toNat)
  case atStart => exact ⟨0, by omega, rfl, by rw [Nat.zero_mul, R0.out]; exact ⟨rfl, rfl, rfl⟩, ⟨by simp [go_sem], by simp [go_sem]⟩, ⟨by simp [go_sem], by simp [go_sem]⟩, (by repeat (first | exact Below.refl _ _ | assumption | apply balloc | apply bdrew | (refine bset ?_ (by first | (simp; done) | omega | (simp; omega)) _) | (refine bnext ?_ (by assumption))))⟩
  case round =>
    obtain ⟨i, hi, rfl, hs, hc4, hc5, hbw⟩ := hrel
    have HC4 := hide hc4
    have HC5 := hide hc5
    obtain ⟨⟨s1, s2, s3⟩, hsv⟩ : ∃ s, R (i * m) = s := ⟨_, rfl⟩
    rw [hsv] at hs
    have HSV := hide hsv
    clear hc4 hc5 hsv
    obtain ⟨rfl, rfl, rfl⟩ := hs
    by_cases hlt : i < xs.length
    · go_wp2_with fail
      go_loopw [6, 7, 8, 10] (fun lo hi all j wr => ∃ k : Nat, k ≤ m ∧ j = .int .i64 (k : Int) ∧ sAt (R (i * m + k)) lo hi all ∧ CF wr ⟨w.heap.size, 0, none⟩ (.int .i64 0) ∧ CF wr ⟨w.heap.size, 1, none⟩ (.int .i64 0) ∧ Below w.heap.size w wr) (fun _ _ _ j _ => m - (intOf j).toNat)
      case atStart => exact ⟨0, by omega, rfl, by rw [Nat.add_zero, HSV.out]; exact ⟨rfl, rfl, rfl⟩, HC4.out, HC5.out, hbw⟩
      case round =>
        obtain ⟨k, hk, rfl, hs, hc4, hc5, hbj⟩ := hrel
        have HC4' := hide hc4
        have HC5' := hide hc5
        clear hc4 hc5
        obtain ⟨⟨t1, t2, t3⟩, htv⟩ : ∃ s, R (i * m + k) = s := ⟨_, rfl⟩
        rw [htv] at hs
        have HTV := hide htv
        clear htv
        obtain ⟨rfl, rfl, rfl⟩ := hs
        simp only
        by_cases hkm : k < m
        · have bx := hxs.out i hlt
          have bf := hfs.out k hkm
          have S := hide (HS.out i k hkm)
          rw [HTV.out] at S
          obtain ⟨⟨ab, ao⟩, rfl, hca⟩ : ∃ p : Nat × Nat, a = some ⟨p.1, p.2, none⟩ ∧ wr.cell? ⟨p.1, p.2 + i, none⟩ = some (.int .i64 (xs.getD i 0)) := by
            rcases ints_later h1.out hbj with h | ⟨b, off, e, h⟩
            · subst h; simp at hlt
            · exact ⟨(b, off), e, h i hlt⟩
          obtain ⟨⟨bb, bo⟩, rfl, hcb, hcd⟩ : ∃ p : Nat × Nat, b = some ⟨p.1, p.2, none⟩ ∧ wr.cell? ⟨p.1, p.2 + k * 2, none⟩ = some (.int .i64 (fs.getD k (0, 0)).1) ∧ wr.cell? ⟨p.1, p.2 + k * 2 + 1, none⟩ = some (.int .i64 (fs.getD k (0, 0)).2) := by
            rcases pairs_later h2.out hbj with h | ⟨b, off, e, h⟩
            · have := HM.out; subst h; simp at this; omega
            · exact ⟨(b, off), e, h k (by rw [HM.out]; exact hkm)⟩
          simp only at hca hcb hcd
          generalize xs.getD i 0 = u at *
          generalize fs.getD k (0, 0) = z at *
          obtain ⟨p, q⟩ := z
          simp only at hcb hcd bf S
          have FL := hide fun W => refFloor_any u p q W bx.1 bx.2 bf.1.1 bf.1.2 bf.2.1 bf.2.2
          have FB : Hid ((refFlo (u * p) q).2.2 = true → -3000000000000000 ≤ (refFlo (u * p) q).1 ∧ (refFlo (u * p) q).1 ≤ 3000000000000000) := fun h => by
            obtain ⟨e, e1, e2⟩ := refFlo_true bf.2.1 h
            rw [e]; exact ⟨e1, e2⟩
          have FN : Hid ((refFlo (u * p) q).2.2 = false → (refFlo (u * p) q).1 = 0) := fun h => by
            unfold refFlo at h ⊢
            split at h
            · cases h
            · rename_i hh; rw [if_neg hh]
          generalize refFlo (u * p) q = f at *
          obtain ⟨n, r, ok⟩ := f
          simp only at FL FB FN
          have hn : -3000000000000000 ≤ n ∧ n ≤ 3000000000000000 := by
            cases ok with
            | true => exact FB.out rfl
            | false => have := FN.out rfl; omega
          obtain ⟨n0, n1⟩ := hn
          clear bx bf FB FN
          go_upto_region 8 with fail
          go_region_held3 (fun w' => w'.cell? ⟨ab, ao + i, none⟩ = some (.int .i64 u) ∧ w'.cell? ⟨bb, bo + k * 2, none⟩ = some (.int .i64 p) ∧ w'.cell? ⟨bb, bo + k * 2 + 1, none⟩ = some (.int .i64 q) ∧ Below wr.heap.size wr w')
            (first | (exact ⟨hca, hcb, hcd, Below.refl _ _⟩) | (exact ⟨hca, hcb, hcd, bdrew (Below.refl _ _)⟩) | (go_split_ands; exact ⟨later hb3 (by assumption), later hb3 (by assumption), later hb3 (by assumption), bnext (by assumption) hb3⟩) | go_keep)
            (first | (go_at_call 76; refine (FL.out _).mono ?_; rintro e w3 ⟨rfl, hb3⟩))
          all_goals
            have HB : Below wr.heap.size wr w3 := by go_split_ands; assumption
            have D4 := hide (cf_later HB HC4'.out)
            have D5 := hide (cf_later HB HC5'.out)
            have BJ : Below w.heap.size w w3 := bnext hbj HB
            have HLT := hide hlt
            have TAIL : Hid (∀ fb lo hi al up, decide (i * m + k = 0) = fb → up = n + (if 0 < r then 1 else 0) → lo = min (if fb then n else t1) n → hi = max (if fb then up else t2) up → al = (t3 && ok) → sAt (R (i * m + (k + 1))) (.int .i64 lo) (.int .i64 hi) (.bool al)) := by
              intro fb lo hi al up h0 h1 h2 h3 h4
              rw [show i * m + (k + 1) = i * m + k + 1 from rfl, ← S.out, h0]
              subst h1 h2 h3 h4
              exact ⟨rfl, rfl, rfl⟩
            clear S hb3 HB
            have Z : (i = 0 ∧ k = 0 ∧ decide (i * m + k = 0) = true) ∨ (¬ i = 0 ∧ decide (i * m + k = 0) = false) ∨ (i = 0 ∧ ¬ k = 0 ∧ decide (i * m + k = 0) = false) := by
              by_cases h0 : i = 0
              · by_cases h1 : k = 0
                · exact .inl ⟨h0, h1, by subst h0 h1; simp⟩
                · exact .inr (.inr ⟨h0, h1, decide_eq_false (by omega)⟩)
              · refine .inr (.inl ⟨h0, decide_eq_false ?_⟩)
                have := Nat.mul_pos (show 0 < i by omega) (show 0 < m by omega)
                omega
            by_cases hr : 0 < r
            · have d1 : decide (0 < r) = true := decide_eq_true hr
              have T2 := hide fun fb lo hi al h0 h2 h3 h4 => TAIL.out fb lo hi al (n + 1) h0 (by rw [if_pos hr]) h2 h3 h4
              clear TAIL hr
              rcases Z with ⟨z0, z1, z2⟩ | ⟨z0, z2⟩ | ⟨z0, z1, z2⟩
              · have e0 : ((i : Int) == 0) = true := by simp [z0]
                have e1 : ((k : Int) == 0) = true := by simp [z1]
                have Z2 := hide z2
                clear z2 z0 z1
                cases t3
                all_goals
                  go_wp2_with fail
                  go_roundw
                  case rel => exact ⟨k + 1, by omega, by go_num, T2.out true _ _ _ Z2.out (by simp; try omega) (by simp; try omega) (by simp), D4.out, D5.out, BJ⟩
                  case measure => simp [intOf]; omega
              · have e0 : ((i : Int) == 0) = false := by simp [z0]
                have Z2 := hide z2
                clear z2 z0
                cases t3
                all_goals
                  go_wp2_with fail
                  go_roundw
                  case rel => exact ⟨k + 1, by omega, by go_num, T2.out false _ _ _ Z2.out (by simp; try omega) (by simp; try omega) (by simp), D4.out, D5.out, BJ⟩
                  case measure => simp [intOf]; omega
              · have e0 : ((i : Int) == 0) = true := by simp [z0]
                have e1 : ((k : Int) == 0) = false := by simp [z1]
                have Z2 := hide z2
                clear z2 z0 z1
                cases t3
                all_goals
                  go_wp2_with fail
                  go_roundw
                  case rel => exact ⟨k + 1, by omega, by go_num, T2.out false _ _ _ Z2.out (by simp; try omega) (by simp; try omega) (by simp), D4.out, D5.out, BJ⟩
                  case measure => simp [intOf]; omega
            · have d1 : decide (0 < r) = false := decide_eq_false hr
              have T2 := hide fun fb lo hi al h0 h2 h3 h4 => TAIL.out fb lo hi al n h0 (by rw [if_neg hr]; omega) h2 h3 h4
              clear TAIL hr
              rcases Z with ⟨z0, z1, z2⟩ | ⟨z0, z2⟩ | ⟨z0, z1, z2⟩
              · have e0 : ((i : Int) == 0) = true := by simp [z0]
                have e1 : ((k : Int) == 0) = true := by simp [z1]
                have Z2 := hide z2
                clear z2 z0 z1
                cases t3
                all_goals
                  go_wp2_with fail
                  go_roundw
                  case rel => exact ⟨k + 1, by omega, by go_num, T2.out true _ _ _ Z2.out (by simp; try omega) (by simp; try omega) (by simp), D4.out, D5.out, BJ⟩
                  case measure => simp [intOf]; omega
              · have e0 : ((i : Int) == 0) = false := by simp [z0]
                have Z2 := hide z2
                clear z2 z0
                cases t3
                all_goals
                  go_wp2_with fail
                  go_roundw
                  case rel => exact ⟨k + 1, by omega, by go_num, T2.out false _ _ _ Z2.out (by simp; try omega) (by simp; try omega) (by simp), D4.out, D5.out, BJ⟩
                  case measure => simp [intOf]; omega
              · have e0 : ((i : Int) == 0) = true := by simp [z0]
                have e1 : ((k : Int) == 0) = false := by simp [z1]
                have Z2 := hide z2
                clear z2 z0 z1
                cases t3
                all_goals
                  go_wp2_with fail
                  go_roundw
                  case rel => exact ⟨k + 1, by omega, by go_num, T2.out false _ _ _ Z2.out (by simp; try omega) (by simp; try omega) (by simp), D4.out, D5.out, BJ⟩
                  case measure => simp [intOf]; omega
        · obtain rfl : k = m := by omega
          have hkm' : ¬ (k : Int) < (k : Int) := by omega
          go_wp2_with fail
          go_roundw
          case rel => exact ⟨i + 1, by omega, by go_num, by rw [Nat.succ_mul, HTV.out]; exact ⟨rfl, rfl, rfl⟩, HC4'.out, HC5'.out, hbj⟩
          case measure => simp [intOf]; omega
    · obtain rfl : i = xs.length := by omega
      rw [HSV.out] at F
      have hlt' : ¬ (xs.length : Int) < (xs.length : Int) := by omega
      go_wp2_with fail
      refine (F.out _).mono ?_
      rintro e w3 ⟨rfl, hb3⟩
      have ⟨c4, f4⟩ := cf_later hb3 HC4.out
      have ⟨c5, f5⟩ := cf_later hb3 HC5.out
      go_wp2_with fail
      have yy := two_set (x := .int .i64 x) (y := .int .i64 y) c4 c5
      exact bodyPost_ret (v := .tuple #[.agg #[.int .i64 x, .int .i64 y], .int .i64 E]) (by simp [results, Try.results100, go_sem, yy.1, yy.2]) rfl ⟨rfl, bset (bset (bnext hbw hb3) (by simp) _) (by simp) _⟩
end Go.Proofs.Ytckapcfofkeicaa

namespace Go.Proofs.Ytckapcfofkeicaa
set_option linter.unusedSimpArgs false
set_option linter.unusedVariables false
open Go.RowKit

/-- What Less returns. -/
def lessQ (al ah bl bh : Int) : Int × Int × Int :=
  if [(al, ah), (bl, bh)].all rangeOk = false then (0, 0, 2) else if allIn 1000000000000000 [al - bh, ah - bl] = true then (al - bh, ah - bl, 0) else (0, 0, 10)
set_option maxHeartbeats 1600000 in
theorem less_bad (al ah bl bh : Int) (w : World) (hk : Hid ([(al, ah), (bl, bh)].all rangeOk = false)) :
    Calls Try.prog 38 #[.agg #[.int .i64 al, .int .i64 ah], .agg #[.int .i64 bl, .int .i64 bh]] w fun e w' => e = .returned (.tuple #[.agg #[.int .i64 0, .int .i64 0], .int .i64 2]) ∧ Below w.heap.size w w' := by
  go_enter Try.func38, Try.ntmps38
  go_wp2_with fail
  refine (validRanges_ex false _ 2 2 [(al, ah), (bl, bh)] _ hk.out rfl (by simp) (pairs_two_of (by simp [go_sem, World.cell?_alloc_past]) (by simp [go_sem, World.cell?_alloc_past]) (by simp [go_sem, World.cell?_alloc_past]) (by simp [go_sem, World.cell?_alloc_past]))).mono ?_
  rintro e wB ⟨rfl, hB, hbB⟩
  (try simp at hB)
  have c4 := later hbB (a := ⟨w.heap.size + 1 + 1, 0, none⟩) (v := .int .i64 0) (by simp [go_sem, World.cell?_alloc_past])
  have c5 := later hbB (a := ⟨w.heap.size + 1 + 1, 1, none⟩) (v := .int .i64 0) (by simp [go_sem, World.cell?_alloc_past])
  have f4 := free_later hbB (a := ⟨w.heap.size + 1 + 1, 0, none⟩) (v := .int .i64 0) (by simp [go_sem, World.cell?_alloc_past]) (by simp [go_sem, World.cell?_alloc_past])
  have f5 := free_later hbB (a := ⟨w.heap.size + 1 + 1, 1, none⟩) (v := .int .i64 0) (by simp [go_sem, World.cell?_alloc_past]) (by simp [go_sem, World.cell?_alloc_past])
  go_wp2_with fail
  refine (firstError_is 2 [⟨2, 114, _, false⟩] _ _ _ rfl (by simp) (by simp) (cnds_one_at (by simp)) (tells_one (cnd_later hB (balloc (Below.refl _ _))))).mono ?_
  rintro e wC ⟨rfl, hbC⟩
  have ⟨d4, g4⟩ := cf_later hbC (cf_later (balloc (Below.refl _ _)) ⟨c4, f4⟩)
  have ⟨d5, g5⟩ := cf_later hbC (cf_later (balloc (Below.refl _ _)) ⟨c5, f5⟩)
  go_wp2_with fail
  exact bodyPost_ret (v := .tuple #[.agg #[.int .i64 0, .int .i64 0], .int .i64 2]) (by simp [results, Try.results38, go_sem, d4, d5]) rfl ⟨rfl, (by repeat (first | exact Below.refl _ _ | assumption | apply balloc | apply bdrew | (refine bset ?_ (by first | (simp; done) | omega | (simp; omega)) _) | (refine bnext ?_ (by assumption))))⟩
set_option maxHeartbeats 1600000 in
theorem less_good (al ah bl bh x y E : Int) (w : World) (hk : Hid ([(al, ah), (bl, bh)].all rangeOk = true)) (a0 : -1000000000000000 ≤ al) (a1 : al ≤ 1000000000000000) (a2 : -1000000000000000 ≤ ah) (a3 : ah ≤ 1000000000000000)
    (b0 : -1000000000000000 ≤ bl) (b1 : bl ≤ 1000000000000000) (b2 : -1000000000000000 ≤ bh) (b3 : bh ≤ 1000000000000000)
    (F : Hid (∀ W, Calls Try.prog 87 #[.agg #[.int .i64 (al - bh), .int .i64 (ah - bl)]] W fun e w' => e = .returned (.tuple #[.agg #[.int .i64 x, .int .i64 y], .int .i64 E]) ∧ Below W.heap.size W w')) :
    Calls Try.prog 38 #[.agg #[.int .i64 al, .int .i64 ah], .agg #[.int .i64 bl, .int .i64 bh]] w fun e w' => e = .returned (.tuple #[.agg #[.int .i64 x, .int .i64 y], .int .i64 E]) ∧ Below w.heap.size w w' := by
  go_enter Try.func38, Try.ntmps38
  go_wp2_with fail
  refine (validRanges_ex true _ 2 2 [(al, ah), (bl, bh)] _ hk.out rfl (by simp) (pairs_two_of (by simp [go_sem, World.cell?_alloc_past]) (by simp [go_sem, World.cell?_alloc_past]) (by simp [go_sem, World.cell?_alloc_past]) (by simp [go_sem, World.cell?_alloc_past]))).mono ?_
  rintro e wB ⟨rfl, hB, hbB⟩
  (try simp at hB)
  have c0 := later hbB (a := ⟨w.heap.size, 0, none⟩) (v := .int .i64 al) (by simp [go_sem, World.cell?_alloc_past])
  have c1 := later hbB (a := ⟨w.heap.size, 1, none⟩) (v := .int .i64 ah) (by simp [go_sem, World.cell?_alloc_past])
  have c2 := later hbB (a := ⟨w.heap.size + 1, 0, none⟩) (v := .int .i64 bl) (by simp [go_sem, World.cell?_alloc_past])
  have c3 := later hbB (a := ⟨w.heap.size + 1, 1, none⟩) (v := .int .i64 bh) (by simp [go_sem, World.cell?_alloc_past])
  have c4 := later hbB (a := ⟨w.heap.size + 1 + 1, 0, none⟩) (v := .int .i64 0) (by simp [go_sem, World.cell?_alloc_past])
  have c5 := later hbB (a := ⟨w.heap.size + 1 + 1, 1, none⟩) (v := .int .i64 0) (by simp [go_sem, World.cell?_alloc_past])
  have f4 := free_later hbB (a := ⟨w.heap.size + 1 + 1, 0, none⟩) (v := .int .i64 0) (by simp [go_sem, World.cell?_alloc_past]) (by simp [go_sem, World.cell?_alloc_past])
  have f5 := free_later hbB (a := ⟨w.heap.size + 1 + 1, 1, none⟩) (v := .int .i64 0) (by simp [go_sem, World.cell?_alloc_past]) (by simp [go_sem, World.cell?_alloc_past])
  go_wp2_with fail
  refine (firstError_is 0 [⟨2, 114, _, true⟩] _ _ _ rfl (by simp) (by simp) (cnds_one_at (by simp)) (tells_one (cnd_later hB (balloc (Below.refl _ _))))).mono ?_
  rintro e wC ⟨rfl, hbC⟩
  have e0 := later hbC (later (balloc (Below.refl _ _)) c0)
  have e1 := later hbC (later (balloc (Below.refl _ _)) c1)
  have e2 := later hbC (later (balloc (Below.refl _ _)) c2)
  have e3 := later hbC (later (balloc (Below.refl _ _)) c3)
  have ⟨d4, g4⟩ := cf_later hbC (cf_later (balloc (Below.refl _ _)) ⟨c4, f4⟩)
  have ⟨d5, g5⟩ := cf_later hbC (cf_later (balloc (Below.refl _ _)) ⟨c5, f5⟩)
  clear c0 c1 c2 c3 c4 c5 f4 f5
  go_wp2_with fail
  refine (F.out _).mono ?_
  rintro e wD ⟨rfl, hbD⟩
  have ⟨c4, f4⟩ := cf_later hbD ⟨d4, g4⟩
  have ⟨c5, f5⟩ := cf_later hbD ⟨d5, g5⟩
  go_wp2_with fail
  have yy := two_set (x := .int .i64 x) (y := .int .i64 y) c4 c5
  exact bodyPost_ret (v := .tuple #[.agg #[.int .i64 x, .int .i64 y], .int .i64 E]) (by simp [results, Try.results38, go_sem, yy.1, yy.2]) rfl ⟨rfl, (by repeat (first | exact Below.refl _ _ | assumption | apply balloc | apply bdrew | (refine bset ?_ (by first | (simp; done) | omega | (simp; omega)) _) | (refine bnext ?_ (by assumption))))⟩
theorem less_any (al ah bl bh : Int) (w : World) :
    Calls Try.prog 38 #[.agg #[.int .i64 al, .int .i64 ah], .agg #[.int .i64 bl, .int .i64 bh]] w fun e w' => e = .returned (.tuple #[.agg #[.int .i64 (lessQ al ah bl bh).1, .int .i64 (lessQ al ah bl bh).2.1], .int .i64 (lessQ al ah bl bh).2.2]) ∧ Below w.heap.size w w' := by
  unfold lessQ
  cases h1 : [(al, ah), (bl, bh)].all rangeOk with
  | false => rw [if_pos rfl]; exact less_bad al ah bl bh w h1
  | true =>
    rw [if_neg (by simp)]
    obtain ⟨⟨a0, a1, a2⟩, b0, b1, b2⟩ := range2_bounds h1
    refine less_good al ah bl bh _ _ _ w h1 a0 (by omega) (by omega) a2 b0 (by omega) (by omega) b2 (hide fun W => ?_)
    have g := limited_any (al - bh) (ah - bl) _ W (hide rfl)
    cases hk : allIn 1000000000000000 [al - bh, ah - bl] <;> (rw [hk] at g; simpa using g)

theorem over1_any (c bl bh : Int) (p q : Nat) (w : World) (hp : w.cell? ⟨p, 0, none⟩ = some (.int .i64 c)) (hq : w.cell? ⟨q, 0, none⟩ = some (.int .i64 bl)) (hq2 : w.cell? ⟨q, 1, none⟩ = some (.int .i64 bh)) :
    Calls Try.prog 98 #[.pointer (some ⟨p, 0, none⟩), .pointer (some ⟨q, 0, none⟩)] w fun e w' => e = .returned (.bool (isDiv c && decide (1 ≤ bl))) ∧ Below w.heap.size w w' := by
  have D := hide fun w => isDivisor_any c w
  cases hk : isDiv c with
  | false =>
    rw [hk] at D
    clear hk
    go_enter Try.func98, Try.ntmps98
    go_wp2_with fail
    refine (D.out _).mono ?_
    rintro e w1 ⟨rfl, hb1⟩
    go_wp2_with fail
    go_ret
    exact ⟨rfl, (by repeat (first | exact Below.refl _ _ | assumption | apply balloc | apply bdrew | (refine bset ?_ (by first | (simp; done) | omega | (simp; omega)) _) | (refine bnext ?_ (by assumption))))⟩
  | true =>
    rw [hk] at D
    clear hk
    go_enter Try.func98, Try.ntmps98
    go_wp2_with fail
    refine (D.out _).mono ?_
    rintro e w1 ⟨rfl, hb1⟩
    have hq' := later hb1 hq
    have hq2' := later hb1 hq2
    go_wp2_with fail
    go_ret
    exact ⟨ret_bool (by simp), (by repeat (first | exact Below.refl _ _ | assumption | apply balloc | apply bdrew | (refine bset ?_ (by first | (simp; done) | omega | (simp; omega)) _) | (refine bnext ?_ (by assumption))))⟩
theorem over_tells (k : Bool) (c bl bh : Int) (p q : Nat) (w : World) (hk : (isDiv c && decide (1 ≤ bl)) = k) (hp : w.cell? ⟨p, 0, none⟩ = some (.int .i64 c)) (hq : w.cell? ⟨q, 0, none⟩ = some (.int .i64 bl)) (hq2 : w.cell? ⟨q, 1, none⟩ = some (.int .i64 bh)) : Tells w 98 #[.pointer (some ⟨p, 0, none⟩), .pointer (some ⟨q, 0, none⟩)] k := by
  subst hk
  exact ⟨enters_any Try.func98 (by kernel_rfl) rfl _, fun W hW => over1_any c bl bh p q W (later hW hp) (later hW hq) (later hW hq2)⟩

/-- The conditions of Over come to E. -/
def OverCond (al ah bl bh c E : Int) (k1 k2 : Bool) : Prop := [(al, ah), (bl, bh)].all rangeOk = k1 ∧ (isDiv c && decide (1 ≤ bl)) = k2 ∧ ∀ f g x y, firstE [⟨2, f, x, k1⟩, ⟨3, g, y, k2⟩] = E

set_option maxHeartbeats 800000 in
theorem over_bad (al ah bl bh c E : Int) (k1 k2 : Bool) (w : World) (hE : (E == 0) = false) (h : Hid (OverCond al ah bl bh c E k1 k2)) :
    Calls Try.prog 40 #[.agg #[.int .i64 al, .int .i64 ah], .agg #[.int .i64 bl, .int .i64 bh], .int .i64 c] w fun e w' => e = .returned (.tuple #[.agg #[.int .i64 0, .int .i64 0], .int .i64 E]) ∧ Below w.heap.size w w' := by
  go_enter Try.func40, Try.ntmps40
  go_wp2_with (first | (go_at_call 86; refine (validRanges_any _ _ _ _).mono ?_; rintro e w' ⟨rfl, rfl⟩) | (go_at_call 68; refine (unless_any _ _ _ _).mono ?_; rintro e w' ⟨rfl, rfl⟩))
  refine (firstError_is E [⟨2, 114, #[.pointer (some ⟨w.heap.size + 1 + 1 + 1 + 1 + 1 + 1 + 1, 0, none⟩), .pointer (some ⟨w.heap.size + 1 + 1 + 1 + 1 + 1 + 1, 0, none⟩)], k1⟩, ⟨3, 114, #[.pointer (some ⟨w.heap.size + 1 + 1 + 1 + 1 + 1 + 1 + 1 + 1 + 1, 0, none⟩), .pointer (some ⟨w.heap.size + 1 + 1 + 1 + 1 + 1 + 1 + 1 + 1, 0, none⟩)], k2⟩] _ _ _ (h.out.2.2 _ _ _ _) (by simp) (by simp) (cnds_two_at (by simp))
    (tells_two (validRanges_tells k1 (some ⟨w.heap.size + 1 + 1 + 1 + 1, 0, none⟩) 2 2 [(al, ah), (bl, bh)] ⟨w.heap.size + 1 + 1 + 1 + 1 + 1, 0, none⟩ ⟨w.heap.size + 1 + 1 + 1 + 1 + 1 + 1 + 1, 0, none⟩ ⟨w.heap.size + 1 + 1 + 1 + 1 + 1 + 1, 0, none⟩ _ h.out.1 rfl (by simp) (by simp [go_sem, World.cell?_alloc_past]) (by simp [go_sem, World.cell?_alloc_past]) (by simp [go_sem, World.cell?_alloc_past]) (pairs_two_of (by simp [go_sem, World.cell?_alloc_past]) (by simp [go_sem, World.cell?_alloc_past]) (by simp [go_sem, World.cell?_alloc_past]) (by simp [go_sem, World.cell?_alloc_past])))
      (fun _ => unless_tells 3 _ _ k2 ⟨w.heap.size + 1 + 1 + 1 + 1 + 1 + 1 + 1 + 1, 0, none⟩ ⟨w.heap.size + 1 + 1 + 1 + 1 + 1 + 1 + 1 + 1 + 1, 0, none⟩ _ rfl (over_tells k2 c bl bh (w.heap.size + 1 + 1) (w.heap.size + 1) _ h.out.2.1 (by simp [go_sem, World.cell?_alloc_past]) (by simp [go_sem, World.cell?_alloc_past]) (by simp [go_sem, World.cell?_alloc_past])) (by simp [go_sem, World.cell?_alloc_past]) (by simp [go_sem, World.cell?_alloc_past])))).mono ?_
  rintro e w1 ⟨rfl, hb⟩
  have c4 := later hb (a := ⟨w.heap.size + 1 + 1 + 1, 0, none⟩) (v := .int .i64 0) (by simp [go_sem, World.cell?_alloc_past])
  have c5 := later hb (a := ⟨w.heap.size + 1 + 1 + 1, 1, none⟩) (v := .int .i64 0) (by simp [go_sem, World.cell?_alloc_past])
  have f4 := free_later hb (a := ⟨w.heap.size + 1 + 1 + 1, 0, none⟩) (v := .int .i64 0) (by simp [go_sem, World.cell?_alloc_past]) (by simp [go_sem, World.cell?_alloc_past])
  have f5 := free_later hb (a := ⟨w.heap.size + 1 + 1 + 1, 1, none⟩) (v := .int .i64 0) (by simp [go_sem, World.cell?_alloc_past]) (by simp [go_sem, World.cell?_alloc_past])
  go_wp2_with fail
  exact bodyPost_ret (v := .tuple #[.agg #[.int .i64 0, .int .i64 0], .int .i64 E]) (by simp [results, Try.results40, go_sem, c4, c5]) rfl ⟨rfl, (by repeat (first | exact Below.refl _ _ | assumption | apply balloc | apply bdrew | (refine bset ?_ (by first | (simp; done) | omega | (simp; omega)) _) | (refine bnext ?_ (by assumption))))⟩

/-- The quotients of the ends are gathered. -/
def gOver (al ah bl bh c : Int) : Gth := gQuo (gQuo (gQuo (gQuo ⟨0, 0, false, false⟩ al c bl) al c bh) ah c bl) ah c bh
set_option maxHeartbeats 1600000 in
theorem over_good (al ah bl bh c : Int) (w : World) (h : Hid (OverCond al ah bl bh c 0 true true)) (a0 : -1000000000000000 ≤ al) (a1 : al ≤ 1000000000000000) (a2 : -1000000000000000 ≤ ah) (a3 : ah ≤ 1000000000000000)
    (b0 : 1 ≤ bl) (b1 : bl ≤ 1000000000000000) (b2 : 1 ≤ bh) (b3 : bh ≤ 1000000000000000) (c0 : 1 ≤ c) (c1 : c ≤ 1000000000000000) :
    Calls Try.prog 40 #[.agg #[.int .i64 al, .int .i64 ah], .agg #[.int .i64 bl, .int .i64 bh], .int .i64 c] w fun e w' => e = .returned (.tuple #[.agg #[.int .i64 (gRes (gOver al ah bl bh c)).1, .int .i64 (gRes (gOver al ah bl bh c)).2.1], .int .i64 (gRes (gOver al ah bl bh c)).2.2]) ∧ Below w.heap.size w w' := by
  have i0 : ∀ (x y : Value) w, (Instr.index 128 (.agg #[x, y]) (.int .i64 0)).run Try.prog w = .ok x w := fun _ _ _ => by kernel_rfl
  have i1 : ∀ (x y : Value) w, (Instr.index 128 (.agg #[x, y]) (.int .i64 1)).run Try.prog w = .ok y w := fun _ _ _ => by kernel_rfl
  have Q1 := hide fun b g w hg => addQuotient_any b g al c bl w hg a0 a1 (by omega) c1 b0 b1
  have Q2 := hide fun b g w hg => addQuotient_any b g al c bh w hg a0 a1 (by omega) c1 b2 b3
  have Q3 := hide fun b g w hg => addQuotient_any b g ah c bl w hg a2 a3 (by omega) c1 b0 b1
  have Q4 := hide fun b g w hg => addQuotient_any b g ah c bh w hg a2 a3 (by omega) c1 b2 b3
  clear a0 a1 a2 a3 b0 b1 b2 b3 c0 c1
  go_enter Try.func40, Try.ntmps40
  go_wp2_with (first | (go_at_call 86; refine (validRanges_any _ _ _ _).mono ?_; rintro e w' ⟨rfl, rfl⟩) | (go_at_call 68; refine (unless_any _ _ _ _).mono ?_; rintro e w' ⟨rfl, rfl⟩))
  refine (firstError_is 0 [⟨2, 114, #[.pointer (some ⟨w.heap.size + 1 + 1 + 1 + 1 + 1 + 1 + 1, 0, none⟩), .pointer (some ⟨w.heap.size + 1 + 1 + 1 + 1 + 1 + 1, 0, none⟩)], true⟩, ⟨3, 114, #[.pointer (some ⟨w.heap.size + 1 + 1 + 1 + 1 + 1 + 1 + 1 + 1 + 1, 0, none⟩), .pointer (some ⟨w.heap.size + 1 + 1 + 1 + 1 + 1 + 1 + 1 + 1, 0, none⟩)], true⟩] _ _ _ (h.out.2.2 _ _ _ _) (by simp) (by simp) (cnds_two_at (by simp))
    (tells_two (validRanges_tells true (some ⟨w.heap.size + 1 + 1 + 1 + 1, 0, none⟩) 2 2 [(al, ah), (bl, bh)] ⟨w.heap.size + 1 + 1 + 1 + 1 + 1, 0, none⟩ ⟨w.heap.size + 1 + 1 + 1 + 1 + 1 + 1 + 1, 0, none⟩ ⟨w.heap.size + 1 + 1 + 1 + 1 + 1 + 1, 0, none⟩ _ h.out.1 rfl (by simp) (by simp [go_sem, World.cell?_alloc_past]) (by simp [go_sem, World.cell?_alloc_past]) (by simp [go_sem, World.cell?_alloc_past]) (pairs_two_of (by simp [go_sem, World.cell?_alloc_past]) (by simp [go_sem, World.cell?_alloc_past]) (by simp [go_sem, World.cell?_alloc_past]) (by simp [go_sem, World.cell?_alloc_past])))
      (fun _ => unless_tells 3 _ _ true ⟨w.heap.size + 1 + 1 + 1 + 1 + 1 + 1 + 1 + 1, 0, none⟩ ⟨w.heap.size + 1 + 1 + 1 + 1 + 1 + 1 + 1 + 1 + 1, 0, none⟩ _ rfl (over_tells true c bl bh (w.heap.size + 1 + 1) (w.heap.size + 1) _ h.out.2.1 (by simp [go_sem, World.cell?_alloc_past]) (by simp [go_sem, World.cell?_alloc_past]) (by simp [go_sem, World.cell?_alloc_past])) (by simp [go_sem, World.cell?_alloc_past]) (by simp [go_sem, World.cell?_alloc_past])))).mono ?_
  rintro e w1 ⟨rfl, hb⟩
  have c4 := later hb (a := ⟨w.heap.size + 1 + 1 + 1, 0, none⟩) (v := .int .i64 0) (by simp [go_sem, World.cell?_alloc_past])
  have c5 := later hb (a := ⟨w.heap.size + 1 + 1 + 1, 1, none⟩) (v := .int .i64 0) (by simp [go_sem, World.cell?_alloc_past])
  have f4 := free_later hb (a := ⟨w.heap.size + 1 + 1 + 1, 0, none⟩) (v := .int .i64 0) (by simp [go_sem, World.cell?_alloc_past]) (by simp [go_sem, World.cell?_alloc_past])
  have f5 := free_later hb (a := ⟨w.heap.size + 1 + 1 + 1, 1, none⟩) (v := .int .i64 0) (by simp [go_sem, World.cell?_alloc_past]) (by simp [go_sem, World.cell?_alloc_past])
  have c0 := later hb (a := ⟨w.heap.size, 0, none⟩) (v := .int .i64 al) (by simp [go_sem, World.cell?_alloc_past])
  have c1 := later hb (a := ⟨w.heap.size, 1, none⟩) (v := .int .i64 ah) (by simp [go_sem, World.cell?_alloc_past])
  have c2 := later hb (a := ⟨w.heap.size + 1, 0, none⟩) (v := .int .i64 bl) (by simp [go_sem, World.cell?_alloc_past])
  have c3 := later hb (a := ⟨w.heap.size + 1, 1, none⟩) (v := .int .i64 bh) (by simp [go_sem, World.cell?_alloc_past])
  have c6 := later hb (a := ⟨w.heap.size + 1 + 1, 0, none⟩) (v := .int .i64 c) (by simp [go_sem, World.cell?_alloc_past])
  have z0 := World.block_lt_of_cell? _ _ c0
  have z2 := World.block_lt_of_cell? _ _ c2
  have z6 := World.block_lt_of_cell? _ _ c6
  have z4 := World.block_lt_of_cell? _ _ c4
  simp only at z0 z2 z6 z4
  go_wp2_with fail
  refine (ends_any _ _ _).mono ?_
  rintro e w2 ⟨rfl, hb2⟩
  have g2 := gat_later (b := w1.heap.size) (g := ⟨0, 0, false, false⟩) ⟨⟨(by simp [go_sem, World.cell?_alloc_past]), (by simp [go_sem, World.cell?_alloc_past]), (by simp [go_sem, World.cell?_alloc_past]), (by simp [go_sem, World.cell?_alloc_past])⟩, (by simp [go_sem, World.cell?_alloc_past]), (by simp [go_sem, World.cell?_alloc_past]), (by simp [go_sem, World.cell?_alloc_past]), (by simp [go_sem, World.cell?_alloc_past])⟩ hb2
  have S1 : TSt w.heap.size bl bh c w1 := ⟨⟨c2, c3, c6⟩, c4, c5, f4, f5⟩
  have S2 := tst_later (tst_later S1 (balloc (Below.refl _ _))) hb2
  have B1 : Below w.heap.size w w1 := (by repeat (first | exact Below.refl _ _ | assumption | apply balloc | apply bdrew | (refine bset ?_ (by first | (simp; done) | omega | (simp; omega)) _) | (refine bnext ?_ (by assumption))))
  have B2 : Below w.heap.size w w2 := bnext (balloc B1) hb2
  clear hb c0 c1 c2 c3 c6 c4 c5 f4 f5 S1
  go_wp2_with fail
  refine wp_loop_rounds 3 ?_
  rw [rounds_succ]
  have ⟨⟨d2, d3, d6⟩, d4, d5, y4, y5⟩ := S2
  go_wp2_with fail
  refine (ends_any _ _ _).mono ?_
  rintro e w3 ⟨rfl, hb3⟩
  have g3 := gat_later g2 hb3
  have S3 := tst_later S2 hb3
  have B3 := bnext B2 hb3
  clear d2 d3 d6 d4 d5 y4 y5 S2 hb3 hb2 g2
  go_wp2_with fail
  refine wp_loop_rounds 3 ?_
  rw [rounds_succ]
  have ⟨⟨d2, d3, d6⟩, d4, d5, y4, y5⟩ := S3
  go_wp2_with fail
  refine (Q1.out _ _ _ g3).mono ?_
  rintro e w4 ⟨rfl, g4, t4⟩
  have S4 := tst_touch S3 t4 z4
  have B4 := t4.below B3 B1.size
  clear d2 d3 d6 d4 d5 y4 y5 S3 t4 g3
  go_wp2_with fail
  rw [rounds_succ]
  have ⟨⟨d2, d3, d6⟩, d4, d5, y4, y5⟩ := S4
  go_wp2_with fail
  refine (Q2.out _ _ _ g4).mono ?_
  rintro e w5 ⟨rfl, g5, t5⟩
  have S5 := tst_touch S4 t5 z4
  have B5 := t5.below B4 B1.size
  clear d2 d3 d6 d4 d5 y4 y5 S4 t5 g4
  go_wp2_with fail
  rw [rounds_succ]
  have ⟨⟨d2, d3, d6⟩, d4, d5, y4, y5⟩ := S5
  go_wp2_with fail
  rw [rounds_succ]
  go_wp2_with fail
  refine (ends_any _ _ _).mono ?_
  rintro e w6 ⟨rfl, hb6⟩
  have g6 := gat_later g5 hb6
  have S6 := tst_later S5 hb6
  have B6 := bnext B5 hb6
  clear d2 d3 d6 d4 d5 y4 y5 S5 hb6 g5
  go_wp2_with fail
  refine wp_loop_rounds 3 ?_
  rw [rounds_succ]
  have ⟨⟨d2, d3, d6⟩, d4, d5, y4, y5⟩ := S6
  go_wp2_with fail
  refine (Q3.out _ _ _ g6).mono ?_
  rintro e w7 ⟨rfl, g7, t7⟩
  have S7 := tst_touch S6 t7 z4
  have B7 := t7.below B6 B1.size
  clear d2 d3 d6 d4 d5 y4 y5 S6 t7 g6
  go_wp2_with fail
  rw [rounds_succ]
  have ⟨⟨d2, d3, d6⟩, d4, d5, y4, y5⟩ := S7
  go_wp2_with fail
  refine (Q4.out _ _ _ g7).mono ?_
  rintro e w8 ⟨rfl, g8, t8⟩
  have S8 := tst_touch S7 t8 z4
  have B8 := t8.below B7 B1.size
  clear d2 d3 d6 d4 d5 y4 y5 S7 t8 g7
  go_wp2_with fail
  rw [rounds_succ]
  have ⟨⟨d2, d3, d6⟩, d4, d5, y4, y5⟩ := S8
  go_wp2_with fail
  rw [rounds_succ]
  have ⟨⟨a0, a1, a2, a3⟩, _⟩ := g8
  go_wp2_with fail
  refine (result_any _ _).mono ?_
  rintro e w9 ⟨rfl, hb9⟩
  have ⟨_, e4, e5, e6, e7⟩ := tst_later S8 hb9
  clear d2 d3 d6 d4 d5 y4 y5 a0 a1 a2 a3 S8
  go_wp2_with fail
  exact bodyPost_ret (v := .tuple #[.agg #[.int .i64 (gRes (gOver al ah bl bh c)).1, .int .i64 (gRes (gOver al ah bl bh c)).2.1], .int .i64 (gRes (gOver al ah bl bh c)).2.2]) (by simp [results, Try.results40, go_sem, e4, e5, gOver]) rfl ⟨rfl, (by repeat (first | exact Below.refl _ _ | assumption | apply balloc | apply bdrew | (refine bset ?_ (by first | (simp; done) | omega | (simp; omega)) _) | (refine bnext ?_ (by assumption))))⟩

/-- The results of Over. -/
def overQ (al ah bl bh c : Int) : Int × Int × Int :=
  if [(al, ah), (bl, bh)].all rangeOk = false then (0, 0, 2) else if (isDiv c && decide (1 ≤ bl)) = false then (0, 0, 3) else gRes (gOver al ah bl bh c)
theorem over_any (al ah bl bh c : Int) (w : World) :
    Calls Try.prog 40 #[.agg #[.int .i64 al, .int .i64 ah], .agg #[.int .i64 bl, .int .i64 bh], .int .i64 c] w fun e w' => e = .returned (.tuple #[.agg #[.int .i64 (overQ al ah bl bh c).1, .int .i64 (overQ al ah bl bh c).2.1], .int .i64 (overQ al ah bl bh c).2.2]) ∧ Below w.heap.size w w' := by
  unfold overQ
  cases h1 : [(al, ah), (bl, bh)].all rangeOk with
  | false =>
    rw [if_pos rfl]
    exact over_bad al ah bl bh c 2 false _ w rfl (show OverCond al ah bl bh c 2 false _ from ⟨h1, rfl, fun _ _ _ _ => rfl⟩)
  | true =>
    cases h2 : (isDiv c && decide (1 ≤ bl)) with
    | false =>
      rw [if_neg (by simp), if_pos rfl]
      exact over_bad al ah bl bh c 3 true false w rfl (show OverCond al ah bl bh c 3 true false from ⟨h1, h2, fun _ _ _ _ => rfl⟩)
    | true =>
      rw [if_neg (by simp), if_neg (by simp)]
      obtain ⟨⟨a0, a1, a2⟩, b0, b1, b2⟩ := range2_bounds h1
      have h2' := h2
      rw [Bool.and_eq_true] at h2'
      have hc : 1 ≤ c ∧ c ≤ 1000000000000000 := by have := h2'.1; unfold isDiv at this; simpa using this
      have hb : 1 ≤ bl := of_decide_eq_true h2'.2
      exact over_good al ah bl bh c w (show OverCond al ah bl bh c 0 true true from ⟨h1, h2, fun _ _ _ _ => rfl⟩) a0 (by omega) (by omega) a2 hb (by omega) (by omega) b2 hc.1 hc.2
end Go.Proofs.Ytckapcfofkeicaa

namespace Go.Proofs.Ytckapcfofkeicaa
set_option linter.unusedSimpArgs false
set_option linter.unusedVariables false
open Go.RowKit

theorem ints_two_of {W : World} {n : Nat} {a b : Int} (h0 : W.cell? ⟨n, 0, none⟩ = some (.int .i64 a)) (h1 : W.cell? ⟨n, 1, none⟩ = some (.int .i64 b)) : IsInts W (some ⟨n, 0, none⟩) [a, b] := by
  refine .inr ⟨n, 0, rfl, fun i hi => ?_⟩
  match i, hi with
  | 0, _ => exact h0
  | 1, _ => exact h1
theorem fits_not (l u : Int) (w : World) :
    Calls Try.prog 94 #[.int .i64 l, .int .i64 u, .bool false] w fun e w' => e = .returned (.tuple #[.agg #[.int .i64 0, .int .i64 0], .int .i64 10]) ∧ Below w.heap.size w w' := by
  go_enter Try.func94, Try.ntmps94
  go_wp2_with fail
  exact bodyPost_ret (v := .tuple #[.agg #[.int .i64 0, .int .i64 0], .int .i64 10]) (by simp [results, Try.results94, go_sem]) rfl ⟨rfl, (by repeat (first | exact Below.refl _ _ | assumption | apply balloc | apply bdrew | (refine bset ?_ (by first | (simp; done) | omega | (simp; omega)) _) | (refine bnext ?_ (by assumption))))⟩
theorem fits_spr (s : Int × Int × Bool) (w : World) :
    Calls Try.prog 94 #[.int .i64 s.1, .int .i64 s.2.1, .bool s.2.2] w fun e w' => e = .returned (.tuple #[.agg #[.int .i64 (sprQ s).1, .int .i64 (sprQ s).2.1], .int .i64 (sprQ s).2.2]) ∧ Below w.heap.size w w' := by
  obtain ⟨l, u, k⟩ := s
  unfold sprQ
  cases k with
  | false => rw [if_neg (by simp)]; exact fits_not l u w
  | true =>
    have g := fits_any l u w
    simp only [Bool.true_and]
    cases hk : allIn 1000000000000000 [l, u] <;> (rw [hk] at g; simpa using g)
theorem spread_two (al ah n1 d1 n2 d2 : Int) (a0 : -1000000000000000 ≤ al) (a1 : al ≤ 1000000000000000) (a2 : -1000000000000000 ≤ ah) (a3 : ah ≤ 1000000000000000) (h1 : -1000000000000000 ≤ n1) (h2 : n1 ≤ 1000000000000000) (h3 : 1 ≤ d1) (h4 : d1 ≤ 1000000000000000) (h5 : -1000000000000000 ≤ n2) (h6 : n2 ≤ 1000000000000000) (h7 : 1 ≤ d2) (h8 : d2 ≤ 1000000000000000)
    (x : Int × Int × Int) (hx : gRes (gQuo (gQuo (gQuo (gQuo ⟨0, 0, false, false⟩ al n1 d1) al n2 d2) ah n1 d1) ah n2 d2) = x) (a b : Option Addr) (ca cb : Nat) (w : World) (i1 : IsInts w a [al, ah]) (i2 : IsPairs w b [(n1, d1), (n2, d2)]) :
    Calls Try.prog 100 #[.slice a 2 ca, .slice b 2 cb] w fun e w' => e = .returned (.tuple #[.agg #[.int .i64 x.1, .int .i64 x.2.1], .int .i64 x.2.2]) ∧ Below w.heap.size w w' := by
  have hq : ∀ i, i < 4 → 1 ≤ (qOf [al, ah] [(n1, d1), (n2, d2)] 2 i).2.2 := by
    intro i hi
    match i, hi with
    | 0, _ => exact h3
    | 1, _ => exact h7
    | 2, _ => exact h3
    | 3, _ => exact h7
  have S := spread_is (qOf [al, ah] [(n1, d1), (n2, d2)] 2) 3 hq
  have e : gRes (gF (qOf [al, ah] [(n1, d1), (n2, d2)] 2) (3 + 1)) = x := hx
  rw [e] at S
  rw [S]
  refine spread_walk [al, ah] [(n1, d1), (n2, d2)] a b ca cb 2 _ _ _ w rfl (by simp) (by omega) (hide ?_) (hide ?_) (hide fun W => fits_spr _ W) (hide i1) (hide i2)
  · intro i hi
    match i, hi with
    | 0, _ => exact ⟨a0, a1⟩
    | 1, _ => exact ⟨a2, a3⟩
  · intro i hi
    match i, hi with
    | 0, _ => exact ⟨⟨h1, h2⟩, h3, h4⟩
    | 1, _ => exact ⟨⟨h5, h6⟩, h7, h8⟩

set_option maxHeartbeats 1600000 in
theorem refLess_bad1 (al ah bl bh : Int) (w : World) (R1 : Hid (∀ W, Calls Try.prog 99 #[.agg #[.int .i64 al, .int .i64 ah]] W fun e w' => e = .returned (.bool false) ∧ Below W.heap.size W w')) :
    Calls Try.prog 41 #[.agg #[.int .i64 al, .int .i64 ah], .agg #[.int .i64 bl, .int .i64 bh]] w fun e w' => e = .returned (.tuple #[.agg #[.int .i64 0, .int .i64 0], .int .i64 2]) ∧ Below w.heap.size w w' := by
  go_enter Try.func41, Try.ntmps41
  go_wp2_with fail
  refine (R1.out _).mono ?_
  rintro e w1 ⟨rfl, hb1⟩
  have c4 := later hb1 (a := ⟨w.heap.size + 1 + 1, 0, none⟩) (v := .int .i64 0) (by simp [go_sem, World.cell?_alloc_past])
  have c5 := later hb1 (a := ⟨w.heap.size + 1 + 1, 1, none⟩) (v := .int .i64 0) (by simp [go_sem, World.cell?_alloc_past])
  have f4 := free_later hb1 (a := ⟨w.heap.size + 1 + 1, 0, none⟩) (v := .int .i64 0) (by simp [go_sem, World.cell?_alloc_past]) (by simp [go_sem, World.cell?_alloc_past])
  have f5 := free_later hb1 (a := ⟨w.heap.size + 1 + 1, 1, none⟩) (v := .int .i64 0) (by simp [go_sem, World.cell?_alloc_past]) (by simp [go_sem, World.cell?_alloc_past])
  go_wp2_with fail
  exact bodyPost_ret (v := .tuple #[.agg #[.int .i64 0, .int .i64 0], .int .i64 2]) (by simp [results, Try.results41, go_sem, c4, c5]) rfl ⟨rfl, (by repeat (first | exact Below.refl _ _ | assumption | apply balloc | apply bdrew | (refine bset ?_ (by first | (simp; done) | omega | (simp; omega)) _) | (refine bnext ?_ (by assumption))))⟩
set_option maxHeartbeats 1600000 in
theorem refLess_bad2 (al ah bl bh : Int) (w : World) (R1 : Hid (∀ W, Calls Try.prog 99 #[.agg #[.int .i64 al, .int .i64 ah]] W fun e w' => e = .returned (.bool true) ∧ Below W.heap.size W w')) (R2 : Hid (∀ W, Calls Try.prog 99 #[.agg #[.int .i64 bl, .int .i64 bh]] W fun e w' => e = .returned (.bool false) ∧ Below W.heap.size W w')) :
    Calls Try.prog 41 #[.agg #[.int .i64 al, .int .i64 ah], .agg #[.int .i64 bl, .int .i64 bh]] w fun e w' => e = .returned (.tuple #[.agg #[.int .i64 0, .int .i64 0], .int .i64 2]) ∧ Below w.heap.size w w' := by
  go_enter Try.func41, Try.ntmps41
  go_wp2_with fail
  refine (R1.out _).mono ?_
  rintro e w1 ⟨rfl, hb1⟩
  have c4 := later hb1 (a := ⟨w.heap.size + 1 + 1, 0, none⟩) (v := .int .i64 0) (by simp [go_sem, World.cell?_alloc_past])
  have c5 := later hb1 (a := ⟨w.heap.size + 1 + 1, 1, none⟩) (v := .int .i64 0) (by simp [go_sem, World.cell?_alloc_past])
  have f4 := free_later hb1 (a := ⟨w.heap.size + 1 + 1, 0, none⟩) (v := .int .i64 0) (by simp [go_sem, World.cell?_alloc_past]) (by simp [go_sem, World.cell?_alloc_past])
  have f5 := free_later hb1 (a := ⟨w.heap.size + 1 + 1, 1, none⟩) (v := .int .i64 0) (by simp [go_sem, World.cell?_alloc_past]) (by simp [go_sem, World.cell?_alloc_past])
  have c0 := later hb1 (a := ⟨w.heap.size, 0, none⟩) (v := .int .i64 al) (by simp [go_sem, World.cell?_alloc_past])
  have c1 := later hb1 (a := ⟨w.heap.size, 1, none⟩) (v := .int .i64 ah) (by simp [go_sem, World.cell?_alloc_past])
  have c2 := later hb1 (a := ⟨w.heap.size + 1, 0, none⟩) (v := .int .i64 bl) (by simp [go_sem, World.cell?_alloc_past])
  have c3 := later hb1 (a := ⟨w.heap.size + 1, 1, none⟩) (v := .int .i64 bh) (by simp [go_sem, World.cell?_alloc_past])
  go_wp2_with fail
  refine (R2.out _).mono ?_
  rintro e w2 ⟨rfl, hb2⟩
  have e0 := later hb2 c0
  have e1 := later hb2 c1
  have e2 := later hb2 c2
  have e3 := later hb2 c3
  have ⟨d4, g4⟩ := cf_later hb2 ⟨c4, f4⟩
  have ⟨d5, g5⟩ := cf_later hb2 ⟨c5, f5⟩
  clear c0 c1 c2 c3 c4 c5 f4 f5
  go_wp2_with fail
  exact bodyPost_ret (v := .tuple #[.agg #[.int .i64 0, .int .i64 0], .int .i64 2]) (by simp [results, Try.results41, go_sem, d4, d5]) rfl ⟨rfl, (by repeat (first | exact Below.refl _ _ | assumption | apply balloc | apply bdrew | (refine bset ?_ (by first | (simp; done) | omega | (simp; omega)) _) | (refine bnext ?_ (by assumption))))⟩
set_option maxHeartbeats 1600000 in
theorem refLess_good (al ah bl bh x y E : Int) (w : World) (R1 : Hid (∀ W, Calls Try.prog 99 #[.agg #[.int .i64 al, .int .i64 ah]] W fun e w' => e = .returned (.bool true) ∧ Below W.heap.size W w')) (R2 : Hid (∀ W, Calls Try.prog 99 #[.agg #[.int .i64 bl, .int .i64 bh]] W fun e w' => e = .returned (.bool true) ∧ Below W.heap.size W w')) (F : Hid (∀ W, Calls Try.prog 94 #[.int .i64 (al - bh), .int .i64 (ah - bl), .bool true] W fun e w' => e = .returned (.tuple #[.agg #[.int .i64 x, .int .i64 y], .int .i64 E]) ∧ Below W.heap.size W w')) (a0 : -1000000000000000 ≤ al) (a1 : al ≤ 1000000000000000) (a2 : -1000000000000000 ≤ ah) (a3 : ah ≤ 1000000000000000) (b0 : -1000000000000000 ≤ bl) (b1 : bl ≤ 1000000000000000) (b2 : -1000000000000000 ≤ bh) (b3 : bh ≤ 1000000000000000) :
    Calls Try.prog 41 #[.agg #[.int .i64 al, .int .i64 ah], .agg #[.int .i64 bl, .int .i64 bh]] w fun e w' => e = .returned (.tuple #[.agg #[.int .i64 x, .int .i64 y], .int .i64 E]) ∧ Below w.heap.size w w' := by
  go_enter Try.func41, Try.ntmps41
  go_wp2_with fail
  refine (R1.out _).mono ?_
  rintro e w1 ⟨rfl, hb1⟩
  have c4 := later hb1 (a := ⟨w.heap.size + 1 + 1, 0, none⟩) (v := .int .i64 0) (by simp [go_sem, World.cell?_alloc_past])
  have c5 := later hb1 (a := ⟨w.heap.size + 1 + 1, 1, none⟩) (v := .int .i64 0) (by simp [go_sem, World.cell?_alloc_past])
  have f4 := free_later hb1 (a := ⟨w.heap.size + 1 + 1, 0, none⟩) (v := .int .i64 0) (by simp [go_sem, World.cell?_alloc_past]) (by simp [go_sem, World.cell?_alloc_past])
  have f5 := free_later hb1 (a := ⟨w.heap.size + 1 + 1, 1, none⟩) (v := .int .i64 0) (by simp [go_sem, World.cell?_alloc_past]) (by simp [go_sem, World.cell?_alloc_past])
  have c0 := later hb1 (a := ⟨w.heap.size, 0, none⟩) (v := .int .i64 al) (by simp [go_sem, World.cell?_alloc_past])
  have c1 := later hb1 (a := ⟨w.heap.size, 1, none⟩) (v := .int .i64 ah) (by simp [go_sem, World.cell?_alloc_past])
  have c2 := later hb1 (a := ⟨w.heap.size + 1, 0, none⟩) (v := .int .i64 bl) (by simp [go_sem, World.cell?_alloc_past])
  have c3 := later hb1 (a := ⟨w.heap.size + 1, 1, none⟩) (v := .int .i64 bh) (by simp [go_sem, World.cell?_alloc_past])
  go_wp2_with fail
  refine (R2.out _).mono ?_
  rintro e w2 ⟨rfl, hb2⟩
  have e0 := later hb2 c0
  have e1 := later hb2 c1
  have e2 := later hb2 c2
  have e3 := later hb2 c3
  have ⟨d4, g4⟩ := cf_later hb2 ⟨c4, f4⟩
  have ⟨d5, g5⟩ := cf_later hb2 ⟨c5, f5⟩
  clear c0 c1 c2 c3 c4 c5 f4 f5
  go_wp2_with fail
  refine (F.out _).mono ?_
  rintro e w3 ⟨rfl, hb3⟩
  have ⟨c4, f4⟩ := cf_later hb3 ⟨d4, g4⟩
  have ⟨c5, f5⟩ := cf_later hb3 ⟨d5, g5⟩
  go_wp2_with fail
  have yy := two_set (x := .int .i64 x) (y := .int .i64 y) c4 c5
  exact bodyPost_ret (v := .tuple #[.agg #[.int .i64 x, .int .i64 y], .int .i64 E]) (by simp [results, Try.results41, go_sem, yy.1, yy.2]) rfl ⟨rfl, (by repeat (first | exact Below.refl _ _ | assumption | apply balloc | apply bdrew | (refine bset ?_ (by first | (simp; done) | omega | (simp; omega)) _) | (refine bnext ?_ (by assumption))))⟩
set_option maxHeartbeats 1600000 in
theorem refTimes_bad1 (al ah bl bh c : Int) (w : World) (R1 : Hid (∀ W, Calls Try.prog 99 #[.agg #[.int .i64 al, .int .i64 ah]] W fun e w' => e = .returned (.bool false) ∧ Below W.heap.size W w')) :
    Calls Try.prog 42 #[.agg #[.int .i64 al, .int .i64 ah], .agg #[.int .i64 bl, .int .i64 bh], .int .i64 c] w fun e w' => e = .returned (.tuple #[.agg #[.int .i64 0, .int .i64 0], .int .i64 2]) ∧ Below w.heap.size w w' := by
  go_enter Try.func42, Try.ntmps42
  go_wp2_with fail
  refine (R1.out _).mono ?_
  rintro e w1 ⟨rfl, hb1⟩
  have c4 := later hb1 (a := ⟨w.heap.size + 1 + 1, 0, none⟩) (v := .int .i64 0) (by simp [go_sem, World.cell?_alloc_past])
  have c5 := later hb1 (a := ⟨w.heap.size + 1 + 1, 1, none⟩) (v := .int .i64 0) (by simp [go_sem, World.cell?_alloc_past])
  have f4 := free_later hb1 (a := ⟨w.heap.size + 1 + 1, 0, none⟩) (v := .int .i64 0) (by simp [go_sem, World.cell?_alloc_past]) (by simp [go_sem, World.cell?_alloc_past])
  have f5 := free_later hb1 (a := ⟨w.heap.size + 1 + 1, 1, none⟩) (v := .int .i64 0) (by simp [go_sem, World.cell?_alloc_past]) (by simp [go_sem, World.cell?_alloc_past])
  go_wp2_with fail
  exact bodyPost_ret (v := .tuple #[.agg #[.int .i64 0, .int .i64 0], .int .i64 2]) (by simp [results, Try.results42, go_sem, c4, c5]) rfl ⟨rfl, (by repeat (first | exact Below.refl _ _ | assumption | apply balloc | apply bdrew | (refine bset ?_ (by first | (simp; done) | omega | (simp; omega)) _) | (refine bnext ?_ (by assumption))))⟩
set_option maxHeartbeats 1600000 in
theorem refTimes_bad2 (al ah bl bh c : Int) (w : World) (R1 : Hid (∀ W, Calls Try.prog 99 #[.agg #[.int .i64 al, .int .i64 ah]] W fun e w' => e = .returned (.bool true) ∧ Below W.heap.size W w')) (R2 : Hid (∀ W, Calls Try.prog 99 #[.agg #[.int .i64 bl, .int .i64 bh]] W fun e w' => e = .returned (.bool false) ∧ Below W.heap.size W w')) :
    Calls Try.prog 42 #[.agg #[.int .i64 al, .int .i64 ah], .agg #[.int .i64 bl, .int .i64 bh], .int .i64 c] w fun e w' => e = .returned (.tuple #[.agg #[.int .i64 0, .int .i64 0], .int .i64 2]) ∧ Below w.heap.size w w' := by
  go_enter Try.func42, Try.ntmps42
  go_wp2_with fail
  refine (R1.out _).mono ?_
  rintro e w1 ⟨rfl, hb1⟩
  have c4 := later hb1 (a := ⟨w.heap.size + 1 + 1, 0, none⟩) (v := .int .i64 0) (by simp [go_sem, World.cell?_alloc_past])
  have c5 := later hb1 (a := ⟨w.heap.size + 1 + 1, 1, none⟩) (v := .int .i64 0) (by simp [go_sem, World.cell?_alloc_past])
  have f4 := free_later hb1 (a := ⟨w.heap.size + 1 + 1, 0, none⟩) (v := .int .i64 0) (by simp [go_sem, World.cell?_alloc_past]) (by simp [go_sem, World.cell?_alloc_past])
  have f5 := free_later hb1 (a := ⟨w.heap.size + 1 + 1, 1, none⟩) (v := .int .i64 0) (by simp [go_sem, World.cell?_alloc_past]) (by simp [go_sem, World.cell?_alloc_past])
  have c0 := later hb1 (a := ⟨w.heap.size, 0, none⟩) (v := .int .i64 al) (by simp [go_sem, World.cell?_alloc_past])
  have c1 := later hb1 (a := ⟨w.heap.size, 1, none⟩) (v := .int .i64 ah) (by simp [go_sem, World.cell?_alloc_past])
  have c2 := later hb1 (a := ⟨w.heap.size + 1, 0, none⟩) (v := .int .i64 bl) (by simp [go_sem, World.cell?_alloc_past])
  have c3 := later hb1 (a := ⟨w.heap.size + 1, 1, none⟩) (v := .int .i64 bh) (by simp [go_sem, World.cell?_alloc_past])
  go_wp2_with fail
  refine (R2.out _).mono ?_
  rintro e w2 ⟨rfl, hb2⟩
  have e0 := later hb2 c0
  have e1 := later hb2 c1
  have e2 := later hb2 c2
  have e3 := later hb2 c3
  have ⟨d4, g4⟩ := cf_later hb2 ⟨c4, f4⟩
  have ⟨d5, g5⟩ := cf_later hb2 ⟨c5, f5⟩
  clear c0 c1 c2 c3 c4 c5 f4 f5
  go_wp2_with fail
  exact bodyPost_ret (v := .tuple #[.agg #[.int .i64 0, .int .i64 0], .int .i64 2]) (by simp [results, Try.results42, go_sem, d4, d5]) rfl ⟨rfl, (by repeat (first | exact Below.refl _ _ | assumption | apply balloc | apply bdrew | (refine bset ?_ (by first | (simp; done) | omega | (simp; omega)) _) | (refine bnext ?_ (by assumption))))⟩
set_option maxHeartbeats 1600000 in
theorem refTimes_bad3a (al ah bl bh c : Int) (w : World) (R1 : Hid (∀ W, Calls Try.prog 99 #[.agg #[.int .i64 al, .int .i64 ah]] W fun e w' => e = .returned (.bool true) ∧ Below W.heap.size W w')) (R2 : Hid (∀ W, Calls Try.prog 99 #[.agg #[.int .i64 bl, .int .i64 bh]] W fun e w' => e = .returned (.bool true) ∧ Below W.heap.size W w')) (h1 : decide (c < 1) = true) :
    Calls Try.prog 42 #[.agg #[.int .i64 al, .int .i64 ah], .agg #[.int .i64 bl, .int .i64 bh], .int .i64 c] w fun e w' => e = .returned (.tuple #[.agg #[.int .i64 0, .int .i64 0], .int .i64 3]) ∧ Below w.heap.size w w' := by
  go_enter Try.func42, Try.ntmps42
  go_wp2_with fail
  refine (R1.out _).mono ?_
  rintro e w1 ⟨rfl, hb1⟩
  have c4 := later hb1 (a := ⟨w.heap.size + 1 + 1, 0, none⟩) (v := .int .i64 0) (by simp [go_sem, World.cell?_alloc_past])
  have c5 := later hb1 (a := ⟨w.heap.size + 1 + 1, 1, none⟩) (v := .int .i64 0) (by simp [go_sem, World.cell?_alloc_past])
  have f4 := free_later hb1 (a := ⟨w.heap.size + 1 + 1, 0, none⟩) (v := .int .i64 0) (by simp [go_sem, World.cell?_alloc_past]) (by simp [go_sem, World.cell?_alloc_past])
  have f5 := free_later hb1 (a := ⟨w.heap.size + 1 + 1, 1, none⟩) (v := .int .i64 0) (by simp [go_sem, World.cell?_alloc_past]) (by simp [go_sem, World.cell?_alloc_past])
  have c0 := later hb1 (a := ⟨w.heap.size, 0, none⟩) (v := .int .i64 al) (by simp [go_sem, World.cell?_alloc_past])
  have c1 := later hb1 (a := ⟨w.heap.size, 1, none⟩) (v := .int .i64 ah) (by simp [go_sem, World.cell?_alloc_past])
  have c2 := later hb1 (a := ⟨w.heap.size + 1, 0, none⟩) (v := .int .i64 bl) (by simp [go_sem, World.cell?_alloc_past])
  have c3 := later hb1 (a := ⟨w.heap.size + 1, 1, none⟩) (v := .int .i64 bh) (by simp [go_sem, World.cell?_alloc_past])
  go_wp2_with fail
  refine (R2.out _).mono ?_
  rintro e w2 ⟨rfl, hb2⟩
  have e0 := later hb2 c0
  have e1 := later hb2 c1
  have e2 := later hb2 c2
  have e3 := later hb2 c3
  have ⟨d4, g4⟩ := cf_later hb2 ⟨c4, f4⟩
  have ⟨d5, g5⟩ := cf_later hb2 ⟨c5, f5⟩
  clear c0 c1 c2 c3 c4 c5 f4 f5
  go_wp2_with fail
  exact bodyPost_ret (v := .tuple #[.agg #[.int .i64 0, .int .i64 0], .int .i64 3]) (by simp [results, Try.results42, go_sem, d4, d5]) rfl ⟨rfl, (by repeat (first | exact Below.refl _ _ | assumption | apply balloc | apply bdrew | (refine bset ?_ (by first | (simp; done) | omega | (simp; omega)) _) | (refine bnext ?_ (by assumption))))⟩
set_option maxHeartbeats 1600000 in
theorem refTimes_bad3b (al ah bl bh c : Int) (w : World) (R1 : Hid (∀ W, Calls Try.prog 99 #[.agg #[.int .i64 al, .int .i64 ah]] W fun e w' => e = .returned (.bool true) ∧ Below W.heap.size W w')) (R2 : Hid (∀ W, Calls Try.prog 99 #[.agg #[.int .i64 bl, .int .i64 bh]] W fun e w' => e = .returned (.bool true) ∧ Below W.heap.size W w')) (h1 : decide (c < 1) = false) (h2 : decide (1000000000000000 < c) = true) :
    Calls Try.prog 42 #[.agg #[.int .i64 al, .int .i64 ah], .agg #[.int .i64 bl, .int .i64 bh], .int .i64 c] w fun e w' => e = .returned (.tuple #[.agg #[.int .i64 0, .int .i64 0], .int .i64 3]) ∧ Below w.heap.size w w' := by
  go_enter Try.func42, Try.ntmps42
  go_wp2_with fail
  refine (R1.out _).mono ?_
  rintro e w1 ⟨rfl, hb1⟩
  have c4 := later hb1 (a := ⟨w.heap.size + 1 + 1, 0, none⟩) (v := .int .i64 0) (by simp [go_sem, World.cell?_alloc_past])
  have c5 := later hb1 (a := ⟨w.heap.size + 1 + 1, 1, none⟩) (v := .int .i64 0) (by simp [go_sem, World.cell?_alloc_past])
  have f4 := free_later hb1 (a := ⟨w.heap.size + 1 + 1, 0, none⟩) (v := .int .i64 0) (by simp [go_sem, World.cell?_alloc_past]) (by simp [go_sem, World.cell?_alloc_past])
  have f5 := free_later hb1 (a := ⟨w.heap.size + 1 + 1, 1, none⟩) (v := .int .i64 0) (by simp [go_sem, World.cell?_alloc_past]) (by simp [go_sem, World.cell?_alloc_past])
  have c0 := later hb1 (a := ⟨w.heap.size, 0, none⟩) (v := .int .i64 al) (by simp [go_sem, World.cell?_alloc_past])
  have c1 := later hb1 (a := ⟨w.heap.size, 1, none⟩) (v := .int .i64 ah) (by simp [go_sem, World.cell?_alloc_past])
  have c2 := later hb1 (a := ⟨w.heap.size + 1, 0, none⟩) (v := .int .i64 bl) (by simp [go_sem, World.cell?_alloc_past])
  have c3 := later hb1 (a := ⟨w.heap.size + 1, 1, none⟩) (v := .int .i64 bh) (by simp [go_sem, World.cell?_alloc_past])
  go_wp2_with fail
  refine (R2.out _).mono ?_
  rintro e w2 ⟨rfl, hb2⟩
  have e0 := later hb2 c0
  have e1 := later hb2 c1
  have e2 := later hb2 c2
  have e3 := later hb2 c3
  have ⟨d4, g4⟩ := cf_later hb2 ⟨c4, f4⟩
  have ⟨d5, g5⟩ := cf_later hb2 ⟨c5, f5⟩
  clear c0 c1 c2 c3 c4 c5 f4 f5
  go_wp2_with fail
  exact bodyPost_ret (v := .tuple #[.agg #[.int .i64 0, .int .i64 0], .int .i64 3]) (by simp [results, Try.results42, go_sem, d4, d5]) rfl ⟨rfl, (by repeat (first | exact Below.refl _ _ | assumption | apply balloc | apply bdrew | (refine bset ?_ (by first | (simp; done) | omega | (simp; omega)) _) | (refine bnext ?_ (by assumption))))⟩
set_option maxHeartbeats 1600000 in
theorem refTimes_good (al ah bl bh c x y E : Int) (w : World) (R1 : Hid (∀ W, Calls Try.prog 99 #[.agg #[.int .i64 al, .int .i64 ah]] W fun e w' => e = .returned (.bool true) ∧ Below W.heap.size W w')) (R2 : Hid (∀ W, Calls Try.prog 99 #[.agg #[.int .i64 bl, .int .i64 bh]] W fun e w' => e = .returned (.bool true) ∧ Below W.heap.size W w')) (F : Hid (∀ a b ca cb W, IsInts W a [al, ah] → IsPairs W b [(bl, c), (bh, c)] → Calls Try.prog 100 #[.slice a 2 ca, .slice b 2 cb] W fun e w' => e = .returned (.tuple #[.agg #[.int .i64 x, .int .i64 y], .int .i64 E]) ∧ Below W.heap.size W w')) (h1 : decide (c < 1) = false) (h2 : decide (1000000000000000 < c) = false) :
    Calls Try.prog 42 #[.agg #[.int .i64 al, .int .i64 ah], .agg #[.int .i64 bl, .int .i64 bh], .int .i64 c] w fun e w' => e = .returned (.tuple #[.agg #[.int .i64 x, .int .i64 y], .int .i64 E]) ∧ Below w.heap.size w w' := by
  go_enter Try.func42, Try.ntmps42
  go_wp2_with fail
  refine (R1.out _).mono ?_
  rintro e w1 ⟨rfl, hb1⟩
  have c4 := later hb1 (a := ⟨w.heap.size + 1 + 1, 0, none⟩) (v := .int .i64 0) (by simp [go_sem, World.cell?_alloc_past])
  have c5 := later hb1 (a := ⟨w.heap.size + 1 + 1, 1, none⟩) (v := .int .i64 0) (by simp [go_sem, World.cell?_alloc_past])
  have f4 := free_later hb1 (a := ⟨w.heap.size + 1 + 1, 0, none⟩) (v := .int .i64 0) (by simp [go_sem, World.cell?_alloc_past]) (by simp [go_sem, World.cell?_alloc_past])
  have f5 := free_later hb1 (a := ⟨w.heap.size + 1 + 1, 1, none⟩) (v := .int .i64 0) (by simp [go_sem, World.cell?_alloc_past]) (by simp [go_sem, World.cell?_alloc_past])
  have c0 := later hb1 (a := ⟨w.heap.size, 0, none⟩) (v := .int .i64 al) (by simp [go_sem, World.cell?_alloc_past])
  have c1 := later hb1 (a := ⟨w.heap.size, 1, none⟩) (v := .int .i64 ah) (by simp [go_sem, World.cell?_alloc_past])
  have c2 := later hb1 (a := ⟨w.heap.size + 1, 0, none⟩) (v := .int .i64 bl) (by simp [go_sem, World.cell?_alloc_past])
  have c3 := later hb1 (a := ⟨w.heap.size + 1, 1, none⟩) (v := .int .i64 bh) (by simp [go_sem, World.cell?_alloc_past])
  go_wp2_with fail
  refine (R2.out _).mono ?_
  rintro e w2 ⟨rfl, hb2⟩
  have e0 := later hb2 c0
  have e1 := later hb2 c1
  have e2 := later hb2 c2
  have e3 := later hb2 c3
  have ⟨d4, g4⟩ := cf_later hb2 ⟨c4, f4⟩
  have ⟨d5, g5⟩ := cf_later hb2 ⟨c5, f5⟩
  clear c0 c1 c2 c3 c4 c5 f4 f5
  have e2' := fun o => later (balloc (o := o) (Below.refl _ _)) e2
  have e3' := fun o => later (balloc (o := o) (Below.refl _ _)) e3
  go_wp2_with fail
  refine (F.out (some ⟨w2.heap.size, 0, none⟩) (some ⟨w2.heap.size + 1, 0, none⟩) _ _ _ ?_ ?_).mono ?_
  · exact ints_two_of (by simp [go_sem, World.cell?_alloc_past]) (by simp [go_sem, World.cell?_alloc_past])
  · exact pairs_two_of (by simp [go_sem, World.cell?_alloc_past]) (by simp [go_sem, World.cell?_alloc_past]) (by simp [go_sem, World.cell?_alloc_past]) (by simp [go_sem, World.cell?_alloc_past])
  rintro e w3 ⟨rfl, hb3⟩
  have ⟨c4, f4⟩ := cf_later hb3 (cf_later (balloc (balloc (Below.refl _ _))) ⟨d4, g4⟩)
  have ⟨c5, f5⟩ := cf_later hb3 (cf_later (balloc (balloc (Below.refl _ _))) ⟨d5, g5⟩)
  go_wp2_with fail
  have yy := two_set (x := .int .i64 x) (y := .int .i64 y) c4 c5
  exact bodyPost_ret (v := .tuple #[.agg #[.int .i64 x, .int .i64 y], .int .i64 E]) (by simp [results, Try.results42, go_sem, yy.1, yy.2]) rfl ⟨rfl, (by repeat (first | exact Below.refl _ _ | assumption | apply balloc | apply bdrew | (refine bset ?_ (by first | (simp; done) | omega | (simp; omega)) _) | (refine bnext ?_ (by assumption))))⟩
set_option maxHeartbeats 1600000 in
theorem refOver_bad1 (al ah bl bh c : Int) (w : World) (R1 : Hid (∀ W, Calls Try.prog 99 #[.agg #[.int .i64 al, .int .i64 ah]] W fun e w' => e = .returned (.bool false) ∧ Below W.heap.size W w')) :
    Calls Try.prog 43 #[.agg #[.int .i64 al, .int .i64 ah], .agg #[.int .i64 bl, .int .i64 bh], .int .i64 c] w fun e w' => e = .returned (.tuple #[.agg #[.int .i64 0, .int .i64 0], .int .i64 2]) ∧ Below w.heap.size w w' := by
  go_enter Try.func43, Try.ntmps43
  go_wp2_with fail
  refine (R1.out _).mono ?_
  rintro e w1 ⟨rfl, hb1⟩
  have c4 := later hb1 (a := ⟨w.heap.size + 1 + 1, 0, none⟩) (v := .int .i64 0) (by simp [go_sem, World.cell?_alloc_past])
  have c5 := later hb1 (a := ⟨w.heap.size + 1 + 1, 1, none⟩) (v := .int .i64 0) (by simp [go_sem, World.cell?_alloc_past])
  have f4 := free_later hb1 (a := ⟨w.heap.size + 1 + 1, 0, none⟩) (v := .int .i64 0) (by simp [go_sem, World.cell?_alloc_past]) (by simp [go_sem, World.cell?_alloc_past])
  have f5 := free_later hb1 (a := ⟨w.heap.size + 1 + 1, 1, none⟩) (v := .int .i64 0) (by simp [go_sem, World.cell?_alloc_past]) (by simp [go_sem, World.cell?_alloc_past])
  go_wp2_with fail
  exact bodyPost_ret (v := .tuple #[.agg #[.int .i64 0, .int .i64 0], .int .i64 2]) (by simp [results, Try.results43, go_sem, c4, c5]) rfl ⟨rfl, (by repeat (first | exact Below.refl _ _ | assumption | apply balloc | apply bdrew | (refine bset ?_ (by first | (simp; done) | omega | (simp; omega)) _) | (refine bnext ?_ (by assumption))))⟩
set_option maxHeartbeats 1600000 in
theorem refOver_bad2 (al ah bl bh c : Int) (w : World) (R1 : Hid (∀ W, Calls Try.prog 99 #[.agg #[.int .i64 al, .int .i64 ah]] W fun e w' => e = .returned (.bool true) ∧ Below W.heap.size W w')) (R2 : Hid (∀ W, Calls Try.prog 99 #[.agg #[.int .i64 bl, .int .i64 bh]] W fun e w' => e = .returned (.bool false) ∧ Below W.heap.size W w')) :
    Calls Try.prog 43 #[.agg #[.int .i64 al, .int .i64 ah], .agg #[.int .i64 bl, .int .i64 bh], .int .i64 c] w fun e w' => e = .returned (.tuple #[.agg #[.int .i64 0, .int .i64 0], .int .i64 2]) ∧ Below w.heap.size w w' := by
  go_enter Try.func43, Try.ntmps43
  go_wp2_with fail
  refine (R1.out _).mono ?_
  rintro e w1 ⟨rfl, hb1⟩
  have c4 := later hb1 (a := ⟨w.heap.size + 1 + 1, 0, none⟩) (v := .int .i64 0) (by simp [go_sem, World.cell?_alloc_past])
  have c5 := later hb1 (a := ⟨w.heap.size + 1 + 1, 1, none⟩) (v := .int .i64 0) (by simp [go_sem, World.cell?_alloc_past])
  have f4 := free_later hb1 (a := ⟨w.heap.size + 1 + 1, 0, none⟩) (v := .int .i64 0) (by simp [go_sem, World.cell?_alloc_past]) (by simp [go_sem, World.cell?_alloc_past])
  have f5 := free_later hb1 (a := ⟨w.heap.size + 1 + 1, 1, none⟩) (v := .int .i64 0) (by simp [go_sem, World.cell?_alloc_past]) (by simp [go_sem, World.cell?_alloc_past])
  have c0 := later hb1 (a := ⟨w.heap.size, 0, none⟩) (v := .int .i64 al) (by simp [go_sem, World.cell?_alloc_past])
  have c1 := later hb1 (a := ⟨w.heap.size, 1, none⟩) (v := .int .i64 ah) (by simp [go_sem, World.cell?_alloc_past])
  have c2 := later hb1 (a := ⟨w.heap.size + 1, 0, none⟩) (v := .int .i64 bl) (by simp [go_sem, World.cell?_alloc_past])
  have c3 := later hb1 (a := ⟨w.heap.size + 1, 1, none⟩) (v := .int .i64 bh) (by simp [go_sem, World.cell?_alloc_past])
  go_wp2_with fail
  refine (R2.out _).mono ?_
  rintro e w2 ⟨rfl, hb2⟩
  have e0 := later hb2 c0
  have e1 := later hb2 c1
  have e2 := later hb2 c2
  have e3 := later hb2 c3
  have ⟨d4, g4⟩ := cf_later hb2 ⟨c4, f4⟩
  have ⟨d5, g5⟩ := cf_later hb2 ⟨c5, f5⟩
  clear c0 c1 c2 c3 c4 c5 f4 f5
  go_wp2_with fail
  exact bodyPost_ret (v := .tuple #[.agg #[.int .i64 0, .int .i64 0], .int .i64 2]) (by simp [results, Try.results43, go_sem, d4, d5]) rfl ⟨rfl, (by repeat (first | exact Below.refl _ _ | assumption | apply balloc | apply bdrew | (refine bset ?_ (by first | (simp; done) | omega | (simp; omega)) _) | (refine bnext ?_ (by assumption))))⟩
set_option maxHeartbeats 1600000 in
theorem refOver_bad3a (al ah bl bh c : Int) (w : World) (R1 : Hid (∀ W, Calls Try.prog 99 #[.agg #[.int .i64 al, .int .i64 ah]] W fun e w' => e = .returned (.bool true) ∧ Below W.heap.size W w')) (R2 : Hid (∀ W, Calls Try.prog 99 #[.agg #[.int .i64 bl, .int .i64 bh]] W fun e w' => e = .returned (.bool true) ∧ Below W.heap.size W w')) (h1 : decide (c < 1) = true) :
    Calls Try.prog 43 #[.agg #[.int .i64 al, .int .i64 ah], .agg #[.int .i64 bl, .int .i64 bh], .int .i64 c] w fun e w' => e = .returned (.tuple #[.agg #[.int .i64 0, .int .i64 0], .int .i64 3]) ∧ Below w.heap.size w w' := by
  go_enter Try.func43, Try.ntmps43
  go_wp2_with fail
  refine (R1.out _).mono ?_
  rintro e w1 ⟨rfl, hb1⟩
  have c4 := later hb1 (a := ⟨w.heap.size + 1 + 1, 0, none⟩) (v := .int .i64 0) (by simp [go_sem, World.cell?_alloc_past])
  have c5 := later hb1 (a := ⟨w.heap.size + 1 + 1, 1, none⟩) (v := .int .i64 0) (by simp [go_sem, World.cell?_alloc_past])
  have f4 := free_later hb1 (a := ⟨w.heap.size + 1 + 1, 0, none⟩) (v := .int .i64 0) (by simp [go_sem, World.cell?_alloc_past]) (by simp [go_sem, World.cell?_alloc_past])
  have f5 := free_later hb1 (a := ⟨w.heap.size + 1 + 1, 1, none⟩) (v := .int .i64 0) (by simp [go_sem, World.cell?_alloc_past]) (by simp [go_sem, World.cell?_alloc_past])
  have c0 := later hb1 (a := ⟨w.heap.size, 0, none⟩) (v := .int .i64 al) (by simp [go_sem, World.cell?_alloc_past])
  have c1 := later hb1 (a := ⟨w.heap.size, 1, none⟩) (v := .int .i64 ah) (by simp [go_sem, World.cell?_alloc_past])
  have c2 := later hb1 (a := ⟨w.heap.size + 1, 0, none⟩) (v := .int .i64 bl) (by simp [go_sem, World.cell?_alloc_past])
  have c3 := later hb1 (a := ⟨w.heap.size + 1, 1, none⟩) (v := .int .i64 bh) (by simp [go_sem, World.cell?_alloc_past])
  go_wp2_with fail
  refine (R2.out _).mono ?_
  rintro e w2 ⟨rfl, hb2⟩
  have e0 := later hb2 c0
  have e1 := later hb2 c1
  have e2 := later hb2 c2
  have e3 := later hb2 c3
  have ⟨d4, g4⟩ := cf_later hb2 ⟨c4, f4⟩
  have ⟨d5, g5⟩ := cf_later hb2 ⟨c5, f5⟩
  clear c0 c1 c2 c3 c4 c5 f4 f5
  go_wp2_with fail
  exact bodyPost_ret (v := .tuple #[.agg #[.int .i64 0, .int .i64 0], .int .i64 3]) (by simp [results, Try.results43, go_sem, d4, d5]) rfl ⟨rfl, (by repeat (first | exact Below.refl _ _ | assumption | apply balloc | apply bdrew | (refine bset ?_ (by first | (simp; done) | omega | (simp; omega)) _) | (refine bnext ?_ (by assumption))))⟩
set_option maxHeartbeats 1600000 in
theorem refOver_bad3b (al ah bl bh c : Int) (w : World) (R1 : Hid (∀ W, Calls Try.prog 99 #[.agg #[.int .i64 al, .int .i64 ah]] W fun e w' => e = .returned (.bool true) ∧ Below W.heap.size W w')) (R2 : Hid (∀ W, Calls Try.prog 99 #[.agg #[.int .i64 bl, .int .i64 bh]] W fun e w' => e = .returned (.bool true) ∧ Below W.heap.size W w')) (h1 : decide (c < 1) = false) (h2 : decide (1000000000000000 < c) = true) :
    Calls Try.prog 43 #[.agg #[.int .i64 al, .int .i64 ah], .agg #[.int .i64 bl, .int .i64 bh], .int .i64 c] w fun e w' => e = .returned (.tuple #[.agg #[.int .i64 0, .int .i64 0], .int .i64 3]) ∧ Below w.heap.size w w' := by
  go_enter Try.func43, Try.ntmps43
  go_wp2_with fail
  refine (R1.out _).mono ?_
  rintro e w1 ⟨rfl, hb1⟩
  have c4 := later hb1 (a := ⟨w.heap.size + 1 + 1, 0, none⟩) (v := .int .i64 0) (by simp [go_sem, World.cell?_alloc_past])
  have c5 := later hb1 (a := ⟨w.heap.size + 1 + 1, 1, none⟩) (v := .int .i64 0) (by simp [go_sem, World.cell?_alloc_past])
  have f4 := free_later hb1 (a := ⟨w.heap.size + 1 + 1, 0, none⟩) (v := .int .i64 0) (by simp [go_sem, World.cell?_alloc_past]) (by simp [go_sem, World.cell?_alloc_past])
  have f5 := free_later hb1 (a := ⟨w.heap.size + 1 + 1, 1, none⟩) (v := .int .i64 0) (by simp [go_sem, World.cell?_alloc_past]) (by simp [go_sem, World.cell?_alloc_past])
  have c0 := later hb1 (a := ⟨w.heap.size, 0, none⟩) (v := .int .i64 al) (by simp [go_sem, World.cell?_alloc_past])
  have c1 := later hb1 (a := ⟨w.heap.size, 1, none⟩) (v := .int .i64 ah) (by simp [go_sem, World.cell?_alloc_past])
  have c2 := later hb1 (a := ⟨w.heap.size + 1, 0, none⟩) (v := .int .i64 bl) (by simp [go_sem, World.cell?_alloc_past])
  have c3 := later hb1 (a := ⟨w.heap.size + 1, 1, none⟩) (v := .int .i64 bh) (by simp [go_sem, World.cell?_alloc_past])
  go_wp2_with fail
  refine (R2.out _).mono ?_
  rintro e w2 ⟨rfl, hb2⟩
  have e0 := later hb2 c0
  have e1 := later hb2 c1
  have e2 := later hb2 c2
  have e3 := later hb2 c3
  have ⟨d4, g4⟩ := cf_later hb2 ⟨c4, f4⟩
  have ⟨d5, g5⟩ := cf_later hb2 ⟨c5, f5⟩
  clear c0 c1 c2 c3 c4 c5 f4 f5
  go_wp2_with fail
  exact bodyPost_ret (v := .tuple #[.agg #[.int .i64 0, .int .i64 0], .int .i64 3]) (by simp [results, Try.results43, go_sem, d4, d5]) rfl ⟨rfl, (by repeat (first | exact Below.refl _ _ | assumption | apply balloc | apply bdrew | (refine bset ?_ (by first | (simp; done) | omega | (simp; omega)) _) | (refine bnext ?_ (by assumption))))⟩
set_option maxHeartbeats 1600000 in
theorem refOver_bad3c (al ah bl bh c : Int) (w : World) (R1 : Hid (∀ W, Calls Try.prog 99 #[.agg #[.int .i64 al, .int .i64 ah]] W fun e w' => e = .returned (.bool true) ∧ Below W.heap.size W w')) (R2 : Hid (∀ W, Calls Try.prog 99 #[.agg #[.int .i64 bl, .int .i64 bh]] W fun e w' => e = .returned (.bool true) ∧ Below W.heap.size W w')) (h1 : decide (c < 1) = false) (h2 : decide (1000000000000000 < c) = false) (h3 : decide (bl < 1) = true) :
    Calls Try.prog 43 #[.agg #[.int .i64 al, .int .i64 ah], .agg #[.int .i64 bl, .int .i64 bh], .int .i64 c] w fun e w' => e = .returned (.tuple #[.agg #[.int .i64 0, .int .i64 0], .int .i64 3]) ∧ Below w.heap.size w w' := by
  go_enter Try.func43, Try.ntmps43
  go_wp2_with fail
  refine (R1.out _).mono ?_
  rintro e w1 ⟨rfl, hb1⟩
  have c4 := later hb1 (a := ⟨w.heap.size + 1 + 1, 0, none⟩) (v := .int .i64 0) (by simp [go_sem, World.cell?_alloc_past])
  have c5 := later hb1 (a := ⟨w.heap.size + 1 + 1, 1, none⟩) (v := .int .i64 0) (by simp [go_sem, World.cell?_alloc_past])
  have f4 := free_later hb1 (a := ⟨w.heap.size + 1 + 1, 0, none⟩) (v := .int .i64 0) (by simp [go_sem, World.cell?_alloc_past]) (by simp [go_sem, World.cell?_alloc_past])
  have f5 := free_later hb1 (a := ⟨w.heap.size + 1 + 1, 1, none⟩) (v := .int .i64 0) (by simp [go_sem, World.cell?_alloc_past]) (by simp [go_sem, World.cell?_alloc_past])
  have c0 := later hb1 (a := ⟨w.heap.size, 0, none⟩) (v := .int .i64 al) (by simp [go_sem, World.cell?_alloc_past])
  have c1 := later hb1 (a := ⟨w.heap.size, 1, none⟩) (v := .int .i64 ah) (by simp [go_sem, World.cell?_alloc_past])
  have c2 := later hb1 (a := ⟨w.heap.size + 1, 0, none⟩) (v := .int .i64 bl) (by simp [go_sem, World.cell?_alloc_past])
  have c3 := later hb1 (a := ⟨w.heap.size + 1, 1, none⟩) (v := .int .i64 bh) (by simp [go_sem, World.cell?_alloc_past])
  go_wp2_with fail
  refine (R2.out _).mono ?_
  rintro e w2 ⟨rfl, hb2⟩
  have e0 := later hb2 c0
  have e1 := later hb2 c1
  have e2 := later hb2 c2
  have e3 := later hb2 c3
  have ⟨d4, g4⟩ := cf_later hb2 ⟨c4, f4⟩
  have ⟨d5, g5⟩ := cf_later hb2 ⟨c5, f5⟩
  clear c0 c1 c2 c3 c4 c5 f4 f5
  go_wp2_with fail
  exact bodyPost_ret (v := .tuple #[.agg #[.int .i64 0, .int .i64 0], .int .i64 3]) (by simp [results, Try.results43, go_sem, d4, d5]) rfl ⟨rfl, (by repeat (first | exact Below.refl _ _ | assumption | apply balloc | apply bdrew | (refine bset ?_ (by first | (simp; done) | omega | (simp; omega)) _) | (refine bnext ?_ (by assumption))))⟩
set_option maxHeartbeats 1600000 in
theorem refOver_good (al ah bl bh c x y E : Int) (w : World) (R1 : Hid (∀ W, Calls Try.prog 99 #[.agg #[.int .i64 al, .int .i64 ah]] W fun e w' => e = .returned (.bool true) ∧ Below W.heap.size W w')) (R2 : Hid (∀ W, Calls Try.prog 99 #[.agg #[.int .i64 bl, .int .i64 bh]] W fun e w' => e = .returned (.bool true) ∧ Below W.heap.size W w')) (F : Hid (∀ a b ca cb W, IsInts W a [al, ah] → IsPairs W b [(c, bl), (c, bh)] → Calls Try.prog 100 #[.slice a 2 ca, .slice b 2 cb] W fun e w' => e = .returned (.tuple #[.agg #[.int .i64 x, .int .i64 y], .int .i64 E]) ∧ Below W.heap.size W w')) (h1 : decide (c < 1) = false) (h2 : decide (1000000000000000 < c) = false) (h3 : decide (bl < 1) = false) :
    Calls Try.prog 43 #[.agg #[.int .i64 al, .int .i64 ah], .agg #[.int .i64 bl, .int .i64 bh], .int .i64 c] w fun e w' => e = .returned (.tuple #[.agg #[.int .i64 x, .int .i64 y], .int .i64 E]) ∧ Below w.heap.size w w' := by
  go_enter Try.func43, Try.ntmps43
  go_wp2_with fail
  refine (R1.out _).mono ?_
  rintro e w1 ⟨rfl, hb1⟩
  have c4 := later hb1 (a := ⟨w.heap.size + 1 + 1, 0, none⟩) (v := .int .i64 0) (by simp [go_sem, World.cell?_alloc_past])
  have c5 := later hb1 (a := ⟨w.heap.size + 1 + 1, 1, none⟩) (v := .int .i64 0) (by simp [go_sem, World.cell?_alloc_past])
  have f4 := free_later hb1 (a := ⟨w.heap.size + 1 + 1, 0, none⟩) (v := .int .i64 0) (by simp [go_sem, World.cell?_alloc_past]) (by simp [go_sem, World.cell?_alloc_past])
  have f5 := free_later hb1 (a := ⟨w.heap.size + 1 + 1, 1, none⟩) (v := .int .i64 0) (by simp [go_sem, World.cell?_alloc_past]) (by simp [go_sem, World.cell?_alloc_past])
  have c0 := later hb1 (a := ⟨w.heap.size, 0, none⟩) (v := .int .i64 al) (by simp [go_sem, World.cell?_alloc_past])
  have c1 := later hb1 (a := ⟨w.heap.size, 1, none⟩) (v := .int .i64 ah) (by simp [go_sem, World.cell?_alloc_past])
  have c2 := later hb1 (a := ⟨w.heap.size + 1, 0, none⟩) (v := .int .i64 bl) (by simp [go_sem, World.cell?_alloc_past])
  have c3 := later hb1 (a := ⟨w.heap.size + 1, 1, none⟩) (v := .int .i64 bh) (by simp [go_sem, World.cell?_alloc_past])
  go_wp2_with fail
  refine (R2.out _).mono ?_
  rintro e w2 ⟨rfl, hb2⟩
  have e0 := later hb2 c0
  have e1 := later hb2 c1
  have e2 := later hb2 c2
  have e3 := later hb2 c3
  have ⟨d4, g4⟩ := cf_later hb2 ⟨c4, f4⟩
  have ⟨d5, g5⟩ := cf_later hb2 ⟨c5, f5⟩
  clear c0 c1 c2 c3 c4 c5 f4 f5
  have e2' := fun o => later (balloc (o := o) (Below.refl _ _)) e2
  have e3' := fun o => later (balloc (o := o) (Below.refl _ _)) e3
  go_wp2_with fail
  refine (F.out (some ⟨w2.heap.size, 0, none⟩) (some ⟨w2.heap.size + 1, 0, none⟩) _ _ _ ?_ ?_).mono ?_
  · exact ints_two_of (by simp [go_sem, World.cell?_alloc_past]) (by simp [go_sem, World.cell?_alloc_past])
  · exact pairs_two_of (by simp [go_sem, World.cell?_alloc_past]) (by simp [go_sem, World.cell?_alloc_past]) (by simp [go_sem, World.cell?_alloc_past]) (by simp [go_sem, World.cell?_alloc_past])
  rintro e w3 ⟨rfl, hb3⟩
  have ⟨c4, f4⟩ := cf_later hb3 (cf_later (balloc (balloc (Below.refl _ _))) ⟨d4, g4⟩)
  have ⟨c5, f5⟩ := cf_later hb3 (cf_later (balloc (balloc (Below.refl _ _))) ⟨d5, g5⟩)
  go_wp2_with fail
  have yy := two_set (x := .int .i64 x) (y := .int .i64 y) c4 c5
  exact bodyPost_ret (v := .tuple #[.agg #[.int .i64 x, .int .i64 y], .int .i64 E]) (by simp [results, Try.results43, go_sem, yy.1, yy.2]) rfl ⟨rfl, (by repeat (first | exact Below.refl _ _ | assumption | apply balloc | apply bdrew | (refine bset ?_ (by first | (simp; done) | omega | (simp; omega)) _) | (refine bnext ?_ (by assumption))))⟩

theorem two_ok (al ah bl bh : Int) : [(al, ah), (bl, bh)].all rangeOk = (rangeOk (al, ah) && rangeOk (bl, bh)) := by simp
theorem refLess_any (al ah bl bh : Int) (w : World) :
    Calls Try.prog 41 #[.agg #[.int .i64 al, .int .i64 ah], .agg #[.int .i64 bl, .int .i64 bh]] w fun e w' => e = .returned (.tuple #[.agg #[.int .i64 (lessQ al ah bl bh).1, .int .i64 (lessQ al ah bl bh).2.1], .int .i64 (lessQ al ah bl bh).2.2]) ∧ Below w.heap.size w w' := by
  have R1 := fun W => refRange_any al ah W
  have R2 := fun W => refRange_any bl bh W
  unfold lessQ
  cases h1 : rangeOk (al, ah) with
  | false => rw [h1] at R1; rw [two_ok, h1, Bool.false_and, if_pos rfl]; exact refLess_bad1 al ah bl bh w R1
  | true =>
    rw [h1] at R1
    cases h2 : rangeOk (bl, bh) with
    | false => rw [h2] at R2; rw [two_ok, h1, h2, Bool.and_false, if_pos rfl]; exact refLess_bad2 al ah bl bh w R1 R2
    | true =>
      rw [h2] at R2
      have hh : [(al, ah), (bl, bh)].all rangeOk = true := by rw [two_ok, h1, h2]; rfl
      obtain ⟨⟨a0, a1, a2⟩, b0, b1, b2⟩ := range2_bounds hh
      rw [hh, if_neg (by simp)]
      refine refLess_good al ah bl bh _ _ _ w R1 R2 (hide fun W => ?_) a0 (by omega) (by omega) a2 b0 (by omega) (by omega) b2
      have g := fits_any (al - bh) (ah - bl) W
      cases hk : allIn 1000000000000000 [al - bh, ah - bl] <;> (rw [hk] at g; simpa using g)
theorem refTimes_any (al ah bl bh c : Int) (w : World) :
    Calls Try.prog 42 #[.agg #[.int .i64 al, .int .i64 ah], .agg #[.int .i64 bl, .int .i64 bh], .int .i64 c] w fun e w' => e = .returned (.tuple #[.agg #[.int .i64 (timesQ al ah bl bh c).1, .int .i64 (timesQ al ah bl bh c).2.1], .int .i64 (timesQ al ah bl bh c).2.2]) ∧ Below w.heap.size w w' := by
  have R1 := fun W => refRange_any al ah W
  have R2 := fun W => refRange_any bl bh W
  unfold timesQ
  cases h1 : rangeOk (al, ah) with
  | false => rw [h1] at R1; rw [two_ok, h1, Bool.false_and, if_pos rfl]; exact refTimes_bad1 al ah bl bh c w R1
  | true =>
    rw [h1] at R1
    cases h2 : rangeOk (bl, bh) with
    | false => rw [h2] at R2; rw [two_ok, h1, h2, Bool.and_false, if_pos rfl]; exact refTimes_bad2 al ah bl bh c w R1 R2
    | true =>
      rw [h2] at R2
      have hh : [(al, ah), (bl, bh)].all rangeOk = true := by rw [two_ok, h1, h2]; rfl
      obtain ⟨⟨a0, a1, a2⟩, b0, b1, b2⟩ := range2_bounds hh
      rw [hh, if_neg (by simp)]
      by_cases c0 : c < 1
      · rw [if_pos (by simp [isDiv]; omega)]; exact refTimes_bad3a al ah bl bh c w R1 R2 (decide_eq_true c0)
      · by_cases c1 : 1000000000000000 < c
        · rw [if_pos (by simp [isDiv]; omega)]; exact refTimes_bad3b al ah bl bh c w R1 R2 (decide_eq_false c0) (decide_eq_true c1)
        · rw [if_neg (by simp [isDiv]; omega)]
          exact refTimes_good al ah bl bh c _ _ _ w R1 R2 (hide fun a b ca cb W i1 i2 => spread_two al ah bl c bh c a0 (by omega) (by omega) a2 b0 (by omega) (by omega) (by omega) (by omega) b2 (by omega) (by omega) _ rfl a b ca cb W i1 i2) (decide_eq_false c0) (decide_eq_false c1)
theorem refOver_any (al ah bl bh c : Int) (w : World) :
    Calls Try.prog 43 #[.agg #[.int .i64 al, .int .i64 ah], .agg #[.int .i64 bl, .int .i64 bh], .int .i64 c] w fun e w' => e = .returned (.tuple #[.agg #[.int .i64 (overQ al ah bl bh c).1, .int .i64 (overQ al ah bl bh c).2.1], .int .i64 (overQ al ah bl bh c).2.2]) ∧ Below w.heap.size w w' := by
  have R1 := fun W => refRange_any al ah W
  have R2 := fun W => refRange_any bl bh W
  unfold overQ
  cases h1 : rangeOk (al, ah) with
  | false => rw [h1] at R1; rw [two_ok, h1, Bool.false_and, if_pos rfl]; exact refOver_bad1 al ah bl bh c w R1
  | true =>
    rw [h1] at R1
    cases h2 : rangeOk (bl, bh) with
    | false => rw [h2] at R2; rw [two_ok, h1, h2, Bool.and_false, if_pos rfl]; exact refOver_bad2 al ah bl bh c w R1 R2
    | true =>
      rw [h2] at R2
      have hh : [(al, ah), (bl, bh)].all rangeOk = true := by rw [two_ok, h1, h2]; rfl
      obtain ⟨⟨a0, a1, a2⟩, b0, b1, b2⟩ := range2_bounds hh
      rw [hh, if_neg (by simp)]
      by_cases c0 : c < 1
      · rw [if_pos (by simp [isDiv]; omega)]; exact refOver_bad3a al ah bl bh c w R1 R2 (decide_eq_true c0)
      · by_cases c1 : 1000000000000000 < c
        · rw [if_pos (by simp [isDiv]; omega)]; exact refOver_bad3b al ah bl bh c w R1 R2 (decide_eq_false c0) (decide_eq_true c1)
        · by_cases c2 : bl < 1
          · rw [if_pos (by simp [isDiv]; omega)]; exact refOver_bad3c al ah bl bh c w R1 R2 (decide_eq_false c0) (decide_eq_false c1) (decide_eq_true c2)
          · rw [if_neg (by simp [isDiv]; omega)]
            exact refOver_good al ah bl bh c _ _ _ w R1 R2 (hide fun a b ca cb W i1 i2 => spread_two al ah c bl c bh a0 (by omega) (by omega) a2 (by omega) (by omega) (by omega) (by omega) (by omega) (by omega) (by omega) b2 _ rfl a b ca cb W i1 i2) (decide_eq_false c0) (decide_eq_false c1) (decide_eq_false c2)
end Go.Proofs.Ytckapcfofkeicaa

namespace Go.Proofs.Ytckapcfofkeicaa
set_option linter.unusedSimpArgs false
set_option linter.unusedVariables false
open Go.RowKit

set_option maxRecDepth 100000 in
set_option maxHeartbeats 6400000 in
theorem unitsPairs_walk (al ah bl bh c : Int) (w : World) :
    Calls Try.prog 7 #[.agg #[.int .i64 al, .int .i64 ah], .agg #[.int .i64 bl, .int .i64 bh], .int .i64 c] w fun e w' => e = .returned (.bool true) ∧ Below w.heap.size w w' := by
  obtain ⟨A, hA⟩ : ∃ q, lessQ al ah bl bh = q := ⟨_, rfl⟩
  obtain ⟨B, hB⟩ : ∃ q, timesQ al ah bl bh c = q := ⟨_, rfl⟩
  obtain ⟨C, hC⟩ : ∃ q, overQ al ah bl bh c = q := ⟨_, rfl⟩
  obtain ⟨A1, A2, A3⟩ := A
  obtain ⟨B1, B2, B3⟩ := B
  obtain ⟨C1, C2, C3⟩ := C
  have F1 := hide fun w => by have := less_any al ah bl bh w; rw [hA] at this; exact this
  have F2 := hide fun w => by have := times_any al ah bl bh c w; rw [hB] at this; exact this
  have F3 := hide fun w => by have := over_any al ah bl bh c w; rw [hC] at this; exact this
  have G1 := hide fun w => by have := refLess_any al ah bl bh w; rw [hA] at this; exact this
  have G2 := hide fun w => by have := refTimes_any al ah bl bh c w; rw [hB] at this; exact this
  have G3 := hide fun w => by have := refOver_any al ah bl bh c w; rw [hC] at this; exact this
  clear hA hB hC
  go_enter Try.func7, Try.ntmps7
  go_wp2_with fail
  refine (F1.out _).mono ?_
  rintro e w1 ⟨rfl, hb1⟩
  have x0 := fun o => later (balloc (o := o) (Below.refl _ _)) (later hb1 (a := ⟨w.heap.size, 0, none⟩) (v := .int .i64 al) (by simp [go_sem, World.cell?_alloc_past]))
  have x1 := fun o => later (balloc (o := o) (Below.refl _ _)) (later hb1 (a := ⟨w.heap.size, 1, none⟩) (v := .int .i64 ah) (by simp [go_sem, World.cell?_alloc_past]))
  have x2 := fun o => later (balloc (o := o) (Below.refl _ _)) (later hb1 (a := ⟨w.heap.size + 1, 0, none⟩) (v := .int .i64 bl) (by simp [go_sem, World.cell?_alloc_past]))
  have x3 := fun o => later (balloc (o := o) (Below.refl _ _)) (later hb1 (a := ⟨w.heap.size + 1, 1, none⟩) (v := .int .i64 bh) (by simp [go_sem, World.cell?_alloc_past]))
  go_wp2_with fail
  refine (F2.out _).mono ?_
  rintro e w2 ⟨rfl, hb2⟩
  have y0 := fun o => later (balloc (o := o) (Below.refl _ _)) (later hb2 (x0 _))
  have y1 := fun o => later (balloc (o := o) (Below.refl _ _)) (later hb2 (x1 _))
  have y2 := fun o => later (balloc (o := o) (Below.refl _ _)) (later hb2 (x2 _))
  have y3 := fun o => later (balloc (o := o) (Below.refl _ _)) (later hb2 (x3 _))
  have y4 := fun o => later (balloc (o := o) (Below.refl _ _)) (later hb2 (a := ⟨w1.heap.size, 0, none⟩) (v := .int .i64 A1) (by simp [go_sem, World.cell?_alloc_past]))
  have y5 := fun o => later (balloc (o := o) (Below.refl _ _)) (later hb2 (a := ⟨w1.heap.size, 1, none⟩) (v := .int .i64 A2) (by simp [go_sem, World.cell?_alloc_past]))
  clear x0 x1 x2 x3
  go_wp2_with fail
  refine (F3.out _).mono ?_
  rintro e w3 ⟨rfl, hb3⟩
  have x0 := fun o => later (balloc (o := o) (Below.refl _ _)) (later hb3 (y0 _))
  have x1 := fun o => later (balloc (o := o) (Below.refl _ _)) (later hb3 (y1 _))
  have x2 := fun o => later (balloc (o := o) (Below.refl _ _)) (later hb3 (y2 _))
  have x3 := fun o => later (balloc (o := o) (Below.refl _ _)) (later hb3 (y3 _))
  have x4 := fun o => later (balloc (o := o) (Below.refl _ _)) (later hb3 (y4 _))
  have x5 := fun o => later (balloc (o := o) (Below.refl _ _)) (later hb3 (y5 _))
  have x6 := fun o => later (balloc (o := o) (Below.refl _ _)) (later hb3 (a := ⟨w2.heap.size, 0, none⟩) (v := .int .i64 B1) (by simp [go_sem, World.cell?_alloc_past]))
  have x7 := fun o => later (balloc (o := o) (Below.refl _ _)) (later hb3 (a := ⟨w2.heap.size, 1, none⟩) (v := .int .i64 B2) (by simp [go_sem, World.cell?_alloc_past]))
  clear y0 y1 y2 y3 y4 y5
  go_wp2_with fail
  refine (G1.out _).mono ?_
  rintro e w4 ⟨rfl, hb4⟩
  have y0 := fun o => later (balloc (o := o) (Below.refl _ _)) (later hb4 (x0 _))
  have y1 := fun o => later (balloc (o := o) (Below.refl _ _)) (later hb4 (x1 _))
  have y2 := fun o => later (balloc (o := o) (Below.refl _ _)) (later hb4 (x2 _))
  have y3 := fun o => later (balloc (o := o) (Below.refl _ _)) (later hb4 (x3 _))
  have y4 := fun o => later (balloc (o := o) (Below.refl _ _)) (later hb4 (x4 _))
  have y5 := fun o => later (balloc (o := o) (Below.refl _ _)) (later hb4 (x5 _))
  have y6 := fun o => later (balloc (o := o) (Below.refl _ _)) (later hb4 (x6 _))
  have y7 := fun o => later (balloc (o := o) (Below.refl _ _)) (later hb4 (x7 _))
  have y8 := fun o => later (balloc (o := o) (Below.refl _ _)) (later hb4 (a := ⟨w3.heap.size, 0, none⟩) (v := .int .i64 C1) (by simp [go_sem, World.cell?_alloc_past]))
  have y9 := fun o => later (balloc (o := o) (Below.refl _ _)) (later hb4 (a := ⟨w3.heap.size, 1, none⟩) (v := .int .i64 C2) (by simp [go_sem, World.cell?_alloc_past]))
  clear x0 x1 x2 x3 x4 x5 x6 x7
  go_wp2_with fail
  refine (G2.out _).mono ?_
  rintro e w5 ⟨rfl, hb5⟩
  have x0 := fun o => later (balloc (o := o) (Below.refl _ _)) (later hb5 (y0 _))
  have x1 := fun o => later (balloc (o := o) (Below.refl _ _)) (later hb5 (y1 _))
  have x2 := fun o => later (balloc (o := o) (Below.refl _ _)) (later hb5 (y2 _))
  have x3 := fun o => later (balloc (o := o) (Below.refl _ _)) (later hb5 (y3 _))
  have x4 := fun o => later (balloc (o := o) (Below.refl _ _)) (later hb5 (y4 _))
  have x5 := fun o => later (balloc (o := o) (Below.refl _ _)) (later hb5 (y5 _))
  have x6 := fun o => later (balloc (o := o) (Below.refl _ _)) (later hb5 (y6 _))
  have x7 := fun o => later (balloc (o := o) (Below.refl _ _)) (later hb5 (y7 _))
  have x8 := fun o => later (balloc (o := o) (Below.refl _ _)) (later hb5 (y8 _))
  have x9 := fun o => later (balloc (o := o) (Below.refl _ _)) (later hb5 (y9 _))
  have x10 := fun o => later (balloc (o := o) (Below.refl _ _)) (later hb5 (a := ⟨w4.heap.size, 0, none⟩) (v := .int .i64 A1) (by simp [go_sem, World.cell?_alloc_past]))
  have x11 := fun o => later (balloc (o := o) (Below.refl _ _)) (later hb5 (a := ⟨w4.heap.size, 1, none⟩) (v := .int .i64 A2) (by simp [go_sem, World.cell?_alloc_past]))
  clear y0 y1 y2 y3 y4 y5 y6 y7 y8 y9
  go_wp2_with fail
  refine (G3.out _).mono ?_
  rintro e w6 ⟨rfl, hb6⟩
  have y4 := fun o => later (balloc (o := o) (Below.refl _ _)) (later hb6 (x4 _))
  have y5 := fun o => later (balloc (o := o) (Below.refl _ _)) (later hb6 (x5 _))
  have y6 := fun o => later (balloc (o := o) (Below.refl _ _)) (later hb6 (x6 _))
  have y7 := fun o => later (balloc (o := o) (Below.refl _ _)) (later hb6 (x7 _))
  have y8 := fun o => later (balloc (o := o) (Below.refl _ _)) (later hb6 (x8 _))
  have y9 := fun o => later (balloc (o := o) (Below.refl _ _)) (later hb6 (x9 _))
  have y10 := fun o => later (balloc (o := o) (Below.refl _ _)) (later hb6 (x10 _))
  have y11 := fun o => later (balloc (o := o) (Below.refl _ _)) (later hb6 (x11 _))
  have y12 := fun o => later (balloc (o := o) (Below.refl _ _)) (later hb6 (a := ⟨w5.heap.size, 0, none⟩) (v := .int .i64 B1) (by simp [go_sem, World.cell?_alloc_past]))
  have y13 := fun o => later (balloc (o := o) (Below.refl _ _)) (later hb6 (a := ⟨w5.heap.size, 1, none⟩) (v := .int .i64 B2) (by simp [go_sem, World.cell?_alloc_past]))
  clear x0 x1 x2 x3 x4 x5 x6 x7 x8 x9 x10 x11
  go_wp2_with fail
  refine (known_any _).mono ?_
  rintro e w7 ⟨rfl, hb7⟩
  go_wp2_with fail
  go_ret
  exact ⟨rfl, (by repeat (first | exact Below.refl _ _ | assumption | apply balloc | apply bdrew | (refine bset ?_ (by first | (simp; done) | omega | (simp; omega)) _) | (refine bnext ?_ (by assumption))))⟩
end Go.Proofs.Ytckapcfofkeicaa
