/-
  defect: models, the regions that a place can be in, judgements: the numbers. defect: sets, ranges of rates and gradients. defect: ranges of gradients; rates above borders; the sides of regions. defect: the regions that a place can be in. defect: Regions, Judge. defect: the conditions on zones. defect: Why.
-/
import Derived.Test.YtimfbjnpalgmcaaGreatFirst
import Derived.LoopN
import Derived.Deep.QuietTactic
import Derived.BigQuiet
import Derived.Deep.DeepCutAuto
import Derived.Deep.RegionHeld3
import Derived.BigRegion
namespace Go.Proofs.YtimfbjnpalgmcaaGreat
set_option linter.unusedSimpArgs false
set_option linter.unusedVariables false

/-- A model: its scale, and the ends of its four borders. -/
structure Mdl where
  s : Int
  a0 : Int
  b0 : Int
  a1 : Int
  b1 : Int
  a2 : Int
  b2 : Int
  a3 : Int
  b3 : Int

def Mdl.lo (m : Mdl) : Nat → Int
  | 0 => m.a0
  | 1 => m.a1
  | 2 => m.a2
  | _ => m.a3
def Mdl.hi (m : Mdl) : Nat → Int
  | 0 => m.b0
  | 1 => m.b1
  | 2 => m.b2
  | _ => m.b3

/-- The borders don't descend. -/
def ascOk (m : Mdl) : Bool := (decide (m.a0 ≤ m.a1) && decide (m.b0 ≤ m.b1)) && ((decide (m.a1 ≤ m.a2) && decide (m.b1 ≤ m.b2)) && (decide (m.a2 ≤ m.a3) && decide (m.b2 ≤ m.b3)))
def brdOk (m : Mdl) : Bool := [(m.a0, m.b0), (m.a1, m.b1), (m.a2, m.b2), (m.a3, m.b3)].all (rgOk 1000000)
def mdlOk (m : Mdl) : Bool := ascOk m && (decide (1 ≤ m.s) && (decide (m.s ≤ 1000000) && brdOk m))

/-- Ranges of gradients. -/
def grOk (r : Int × Int) : Bool := decide (1 ≤ r.1) && rgOk 1000000 r

/-- What is known of a valid model. -/
structure MdlOk (m : Mdl) : Prop where
  s1 : 1 ≤ m.s
  s2 : m.s ≤ 1000000
  lo0 : ∀ k, 0 ≤ m.lo k
  lohi : ∀ k, m.lo k ≤ m.hi k
  hi0 : ∀ k, m.hi k ≤ 1000000
  los : ∀ k, m.lo k ≤ m.lo (k + 1)
  his : ∀ k, m.hi k ≤ m.hi (k + 1)
theorem mdlOk_of {m : Mdl} (h : mdlOk m = true) : MdlOk m := by
  obtain ⟨s, a0, b0, a1, b1, a2, b2, a3, b3⟩ := m
  simp [mdlOk, ascOk, brdOk, rgOk] at h
  obtain ⟨⟨⟨h1, h2⟩, ⟨h3, h4⟩, h5, h6⟩, h7, h8, ⟨h9, h10, h11⟩, ⟨h12, h13, h14⟩, ⟨h15, h16, h17⟩, h18, h19, h20⟩ := h
  refine ⟨h7, h8, ?_, ?_, ?_, ?_, ?_⟩ <;> intro k <;> match k with
    | 0 => simp only [Mdl.lo, Mdl.hi]; omega
    | 1 => simp only [Mdl.lo, Mdl.hi]; omega
    | 2 => simp only [Mdl.lo, Mdl.hi]; omega
    | k + 3 => simp only [Mdl.lo, Mdl.hi]; omega

/-- The least number of the border below a region, and the greatest one of the border above it. -/
def sideL (m : Mdl) (k : Nat) : Int := if k = 0 then -1 else m.lo (k - 1)
def sideH (m : Mdl) (k : Nat) : Int := if k < 4 then m.hi k else 1000000000000
theorem sideL_far {m : Mdl} (h : MdlOk m) (k : Nat) : -1 ≤ sideL m k ∧ sideL m k ≤ 1000000 := by
  unfold sideL
  have := h.lo0 (k - 1); have := h.lohi (k - 1); have := h.hi0 (k - 1)
  split <;> omega
theorem sideH_far {m : Mdl} (h : MdlOk m) (k : Nat) : 0 ≤ sideH m k ∧ sideH m k ≤ 1000000000000 := by
  unfold sideH
  have := h.lo0 k; have := h.lohi k; have := h.hi0 k
  split <;> omega

/-- Is a rate above a border at a gradient? -/
def abv (m : Mdl) (v b g : Int) : Bool := decide (b * g < v * m.s)
def canB (m : Mdl) (v g : Int × Int) (k : Nat) : Bool := decide (sideL m k < sideH m k) && (abv m v.2 (sideL m k) g.1 && !abv m v.1 (sideH m k) g.2)
/-- A set of the numbers below k, as bits. -/
def setN (f : Nat → Bool) : Nat → Nat
  | 0 => 0
  | k + 1 => setN f k + if f k then 2 ^ k else 0
def regN (m : Mdl) (v g : Int × Int) : Nat := setN (canB m v g) 5
theorem setN_lt (f : Nat → Bool) : ∀ k, setN f k < 2 ^ k := by
  intro k
  induction k with
  | zero => simp [setN]
  | succ k ih => simp only [setN, Nat.pow_succ]; split <;> omega
theorem setN_bit (f : Nat → Bool) (n : Nat) : ∀ k, k < n → setN f n / 2 ^ k % 2 = if f k then 1 else 0 := by
  induction n with
  | zero => intro k hk; omega
  | succ n ih =>
    intro k hk
    have hlt := setN_lt f n
    simp only [setN]
    by_cases e : k = n
    · subst e
      rw [Nat.add_comm]
      split
      · rw [Nat.add_div_left _ (Nat.two_pow_pos _), Nat.div_eq_of_lt hlt]
      · rw [Nat.zero_add, Nat.div_eq_of_lt hlt]
    · have hk' : k < n := by omega
      rw [← ih k hk']
      split
      · rw [show (2 : Nat) ^ n = 2 ^ k * (2 * 2 ^ (n - k - 1)) by rw [← Nat.mul_assoc, Nat.mul_comm (2 ^ k) 2, Nat.mul_assoc, ← Nat.pow_add, ← Nat.pow_succ']; congr 1; omega]
        rw [Nat.add_mul_div_left _ _ (Nat.two_pow_pos k), Nat.add_mul_mod_self_left]
      · rw [Nat.add_zero]
theorem mul_far {b g x y : Int} (b0 : -1 ≤ b) (b1 : b ≤ x) (g0 : 0 ≤ g) (g1 : g ≤ y) (x0 : 0 ≤ x) : -y ≤ b * g ∧ b * g ≤ x * y := by
  have h1 : (-1) * g ≤ b * g := Int.mul_le_mul_of_nonneg_right b0 g0
  have h2 : b * g ≤ x * g := Int.mul_le_mul_of_nonneg_right b1 g0
  have h3 : x * g ≤ x * y := Int.mul_le_mul_of_nonneg_left g1 x0
  omega

end Go.Proofs.YtimfbjnpalgmcaaGreat

namespace Go.Proofs.YtimfbjnpalgmcaaGreat
set_option linter.unusedSimpArgs false
set_option linter.unusedVariables false
open Go.RowKit

theorem ret_u8 {a b : Int} (h : a = b) : Ending.returned (.int .u8 a) = .returned (.int .u8 b) := by rw [h]
theorem only_any (k : Nat) (hk : k < 6) (w : World) :
    Calls Tryz.prog 84 #[.int .i64 (k : Int)] w fun e w' => e = .returned (.int .u8 ((2 ^ k : Nat) : Int)) ∧ w = w' := by
  rcases (show k = 0 ∨ k = 1 ∨ k = 2 ∨ k = 3 ∨ k = 4 ∨ k = 5 by omega) with rfl | rfl | rfl | rfl | rfl | rfl
  all_goals
    go_enter Tryz.func84, Tryz.ntmps84
    go_wp2_with fail
    go_ret
    exact ⟨rfl, rfl⟩
theorem isSet_any (s : Int) (w : World) :
    Calls Tryz.prog 62 #[.int .u8 s] w fun e w' => e = .returned (.bool (decide (s < 32))) ∧ w = w' := by
  go_enter Tryz.func62, Tryz.ntmps62
  go_wp2_with fail
  refine (only_any 5 (by omega) _).mono ?_
  rintro e w1 ⟨rfl, rfl⟩
  go_wp2_with fail
  go_ret
  exact ⟨rfl, rfl⟩
theorem isRate_any (a b : Int) (w : World) :
    Calls Tryz.prog 54 #[.agg #[.int .i64 a, .int .i64 b]] w fun e w' => e = .returned (.bool (rgOk 1000000 (a, b))) ∧ Below w.heap.size w w' := by
  obtain ⟨u, hu⟩ : ∃ u, rgOk 1000000 (a, b) = u := ⟨_, rfl⟩
  have AR := hide (fun (W : World) (n : Nat) (h : IsPairs W (some ⟨n, 0, none⟩) [(a, b)]) => (show Calls Tryz.prog 82 #[.int .i64 1000000, .slice (some ⟨n, 0, none⟩) 1 1] W fun e w' => e = .returned (.bool u) ∧ Below W.heap.size W w' by
    have g := areRanges_any 1000000 (some ⟨n, 0, none⟩) 1 [(a, b)] W (by simp) h
    rwa [show [(a, b)].all (rgOk 1000000) = u by simp [hu]] at g))
  rw [hu]
  clear hu
  go_enter Tryz.func54, Tryz.ntmps54
  go_wp2_with fail
  refine (AR.out _ _ (pairs_one_of (by simp [go_sem, World.cell?_alloc_past]) (by simp [go_sem, World.cell?_alloc_past]))).mono ?_
  rintro e w1 ⟨rfl, hb1⟩
  go_wp2_with fail
  go_ret
  exact ⟨rfl, (by repeat (first | exact Below.refl _ _ | assumption | apply balloc | apply bdrew | (refine below_drewN ?_ _) | (refine bset ?_ (by first | (simp; done) | omega | (simp; omega)) _) | (refine bnext ?_ (by assumption))))⟩
end Go.Proofs.YtimfbjnpalgmcaaGreat

namespace Go.Proofs.YtimfbjnpalgmcaaGreat
set_option linter.unusedSimpArgs false
set_option linter.unusedVariables false
open Go.RowKit

theorem all_and {α : Type} (f g : α → Bool) : ∀ l : List α, l.all (fun x => f x && g x) = (l.all f && l.all g) := by
  intro l
  induction l with
  | nil => rfl
  | cons x l ih => simp only [List.all_cons, ih]; cases f x <;> cases g x <;> cases l.all f <;> cases l.all g <;> rfl
def oneUp (r : Int × Int) : Bool := decide (1 ≤ r.1)
theorem grOk_all (rs : List (Int × Int)) : rs.all grOk = (rs.all oneUp && rs.all (rgOk 1000000)) := all_and oneUp (rgOk 1000000) rs

set_option maxHeartbeats 1000000 in
theorem areGradients_any (a : Option Addr) (cap : Nat) (rs : List (Int × Int)) (w : World) (hl : rs.length ≤ 140737488351232) (h : Hid (IsPairs w a rs)) :
    Calls Tryz.prog 55 #[.slice a rs.length cap] w fun e w' => e = .returned (.bool (rs.all grOk)) ∧ Below w.heap.size w w' := by
  have AR := hide (fun (W : World) (g : IsPairs W a rs) => areRanges_any 1000000 a cap rs W hl g)
  obtain ⟨u, hu⟩ : ∃ u, rs.all grOk = u := ⟨_, rfl⟩
  have HU := hide (hu.symm.trans (grOk_all rs))
  rw [hu]
  clear hu
  go_enter Tryz.func55, Tryz.ntmps55
  go_wp2_with fail
  go_loopw [7] (fun i wr => ∃ k : Nat, k ≤ rs.length ∧ i = .int .i64 (k : Int) ∧ Hid ((rs.take k).all oneUp = true) ∧ Below w.heap.size w wr) (fun i _ => rs.length - (intOf i).toNat)
  case atStart => exact ⟨0, by omega, rfl, rfl, Below.refl _ _⟩
  case round =>
    obtain ⟨k, hk, rfl, hall, hbw⟩ := hrel
    by_cases hlt : k < rs.length
    · obtain ⟨b, off, rfl, hc⟩ : ∃ b off, a = some ⟨b, off, none⟩ ∧ ∀ i, i < rs.length → wr.cell? ⟨b, off + i * 2, none⟩ = some (.int .i64 (rs.getD i (0, 0)).1) ∧ wr.cell? ⟨b, off + i * 2 + 1, none⟩ = some (.int .i64 (rs.getD i (0, 0)).2) := by
        rcases pairs_later h.out hbw with h | h
        · subst h; simp at hlt
        · exact h
      obtain ⟨c1, c2⟩ := hc k hlt
      clear hc
      have S1 := hide (all_step (f := oneUp) (d := (0, 0)) hlt hall.out)
      have S2 := hide (all_stop (f := oneUp) (l := rs) (d := (0, 0)) hlt)
      generalize rs.getD k (0, 0) = z at *
      obtain ⟨x, y⟩ := z
      simp only at c1 c2
      have k0 : 0 ≤ (k : Int) := by omega
      have k1 : (k : Int) < rs.length := by omega
      clear hall
      by_cases g1 : x < 1
      · have d1 : decide (x < 1) = true := decide_eq_true g1
        have E := hide (show u = false by rw [HU.out, S2.out (show oneUp (x, y) = false from decide_eq_false (show ¬ 1 ≤ x by omega))]; rfl)
        clear g1
        go_wp2_with fail
        go_ret
        exact ⟨ret_bool E.out.symm, balloc hbw⟩
      · have d1 : decide (x < 1) = false := decide_eq_false g1
        have E := hide (S1.out (show oneUp (x, y) = true from decide_eq_true (show 1 ≤ x by omega)))
        clear g1
        go_wp2_with fail
        go_roundw
        case rel => exact ⟨k + 1, by omega, by go_num, E, balloc hbw⟩
        case measure => simp [intOf]; omega
    · have E := hide (show u = rs.all (rgOk 1000000) by rw [HU.out, all_end hlt hall.out]; rfl)
      go_wp2_with fail
      refine (AR.out _ (pairs_later h.out hbw)).mono ?_
      rintro e w1 ⟨rfl, hb1⟩
      go_wp2_with fail
      go_ret
      exact ⟨ret_bool E.out.symm, bnext hbw hb1⟩

/-- A model, by value. -/
def mdlV (m : Mdl) : Value := .agg #[.int .i64 m.s, .int .i64 m.a0, .int .i64 m.b0, .int .i64 m.a1, .int .i64 m.b1, .int .i64 m.a2, .int .i64 m.b2, .int .i64 m.a3, .int .i64 m.b3]
/-- A model in memory. -/
def MdlAt (W : World) (q : Nat) (m : Mdl) : Prop :=
  (((W.cell? ⟨q, 0, none⟩ = some (.int .i64 m.s) ∧ W.cell? ⟨q, 1, none⟩ = some (.int .i64 m.a0)) ∧ W.cell? ⟨q, 2, none⟩ = some (.int .i64 m.b0)) ∧ (W.cell? ⟨q, 3, none⟩ = some (.int .i64 m.a1) ∧ W.cell? ⟨q, 4, none⟩ = some (.int .i64 m.b1))) ∧
    ((W.cell? ⟨q, 5, none⟩ = some (.int .i64 m.a2) ∧ W.cell? ⟨q, 6, none⟩ = some (.int .i64 m.b2)) ∧ (W.cell? ⟨q, 7, none⟩ = some (.int .i64 m.a3) ∧ W.cell? ⟨q, 8, none⟩ = some (.int .i64 m.b3)))
theorem mdlAt_later {w W : World} {q : Nat} {m : Mdl} (h : MdlAt w q m) (hb : Below w.heap.size w W) : MdlAt W q m := by
  obtain ⟨⟨⟨⟨h1, h2⟩, h3⟩, h4, h5⟩, ⟨h6, h7⟩, h8, h9⟩ := h
  exact ⟨⟨⟨⟨later hb h1, later hb h2⟩, later hb h3⟩, later hb h4, later hb h5⟩, ⟨later hb h6, later hb h7⟩, later hb h8, later hb h9⟩
theorem mdlAt_new (w : World) (m : Mdl) (T : TypeId) : MdlAt (w.alloc (.cells #[.int .i64 m.s, .int .i64 m.a0, .int .i64 m.b0, .int .i64 m.a1, .int .i64 m.b1, .int .i64 m.a2, .int .i64 m.b2, .int .i64 m.a3, .int .i64 m.b3] T)) w.heap.size m := by
  refine ⟨⟨⟨⟨?_, ?_⟩, ?_⟩, ?_, ?_⟩, ⟨?_, ?_⟩, ?_, ?_⟩ <;> exact (by simp [go_sem, World.cell?_alloc_past])

theorem pairs_mdl {W : World} {q : Nat} {m : Mdl} (h : MdlAt W q m) : IsPairs W (some ⟨q, 1, none⟩) [(m.a0, m.b0), (m.a1, m.b1), (m.a2, m.b2), (m.a3, m.b3)] := by
  obtain ⟨⟨⟨⟨h1, h2⟩, h3⟩, h4, h5⟩, ⟨h6, h7⟩, h8, h9⟩ := h
  refine .inr ⟨_, _, rfl, fun i hi => ?_⟩
  simp at hi
  obtain rfl | rfl | rfl | rfl : i = 0 ∨ i = 1 ∨ i = 2 ∨ i = 3 := by omega
  · exact ⟨h2, h3⟩
  · exact ⟨h4, h5⟩
  · exact ⟨h6, h7⟩
  · exact ⟨h8, h9⟩

theorem above_go (s a0 b0 a1 b1 a2 b2 a3 b3 v b g p q : Int) (w : World) (hp : Hid (IntKind.wrap .i64 (b * g) = p)) (hq : Hid (IntKind.wrap .i64 (v * s) = q)) :
    Calls Tryz.prog 111 #[.agg #[.int .i64 s, .int .i64 a0, .int .i64 b0, .int .i64 a1, .int .i64 b1, .int .i64 a2, .int .i64 b2, .int .i64 a3, .int .i64 b3], .int .i64 v, .int .i64 b, .int .i64 g] w fun e w' => e = .returned (.bool (decide (p < q))) ∧ Below w.heap.size w w' := by
  have h1 : wrap64 (b * g) = p := (IntWalk.i64_left _).symm.trans hp.out
  have h2 : wrap64 (v * s) = q := (IntWalk.i64_left _).symm.trans hq.out
  go_enter Tryz.func111, Tryz.ntmps111
  go_wp2_with fail
  go_ret
  exact ⟨rfl, (by repeat (first | exact Below.refl _ _ | assumption | apply balloc | apply bdrew | (refine below_drewN ?_ _) | (refine bset ?_ (by first | (simp; done) | omega | (simp; omega)) _) | (refine bnext ?_ (by assumption))))⟩
theorem above_any (m : Mdl) (v b g : Int) (w : World) (hm : MdlOk m) (v0 : 0 ≤ v) (v1 : v ≤ 1000000) (b0 : -1 ≤ b) (b1 : b ≤ 1000000000000) (g0 : 0 ≤ g) (g1 : g ≤ 1000000) :
    Calls Tryz.prog 111 #[mdlV m, .int .i64 v, .int .i64 b, .int .i64 g] w fun e w' => e = .returned (.bool (abv m v b g)) ∧ Below w.heap.size w w' := by
  have f1 := mul_far b0 b1 g0 g1 (by omega)
  have f2 := mul_far (show -1 ≤ v by omega) v1 (show 0 ≤ m.s by have := hm.s1; omega) hm.s2 (by omega)
  exact above_go _ _ _ _ _ _ _ _ _ v b g _ _ w (IntWalk.i64_in _ (by omega)) (IntWalk.i64_in _ (by omega))

set_option maxRecDepth 100000 in
set_option maxHeartbeats 1600000 in
theorem sides_any (m : Mdl) (w : World) :
    Calls Tryz.prog 110 #[mdlV m] w fun e w' => e = .returned (.agg #[.int .i64 (-1), .int .i64 m.b0, .int .i64 m.a0, .int .i64 m.b1, .int .i64 m.a1, .int .i64 m.b2, .int .i64 m.a2, .int .i64 m.b3, .int .i64 m.a3, .int .i64 1000000000000]) ∧ Below w.heap.size w w' := by
  obtain ⟨s, a0, b0, a1, b1, a2, b2, a3, b3⟩ := m
  unfold mdlV
  simp only
  go_enter Tryz.func110, Tryz.ntmps110
  go_wp2_with fail
  refine wp_loop_rounds 6 ?_
  rw [rounds_succ]
  go_wp2_with fail
  rw [rounds_succ]
  go_wp2_with fail
  rw [rounds_succ]
  go_wp2_with fail
  rw [rounds_succ]
  go_wp2_with fail
  rw [rounds_succ]
  go_wp2_with fail
  rw [rounds_succ]
  go_wp2_with fail
  exact bodyPost_ret (v := .agg #[.int .i64 (-1), .int .i64 b0, .int .i64 a0, .int .i64 b1, .int .i64 a1, .int .i64 b2, .int .i64 a2, .int .i64 b3, .int .i64 a3, .int .i64 1000000000000]) (by simp [results, Tryz.results110, go_sem]) rfl ⟨rfl, (by repeat (first | exact Below.refl _ _ | assumption | apply balloc | apply bdrew | (refine below_drewN ?_ _) | (refine bset ?_ (by first | (simp; done) | omega | (simp; omega)) _) | (refine bnext ?_ (by assumption))))⟩

/-! ### isModel -/
set_option maxRecDepth 100000 in
set_option maxHeartbeats 3200000 in
theorem isModel_go (s a0 b0 a1 b1 a2 b2 a3 b3 : Int) (r : Bool) (w : World) (h : Hid (mdlOk ⟨s, a0, b0, a1, b1, a2, b2, a3, b3⟩ = r)) :
    Calls Tryz.prog 108 #[.agg #[.int .i64 s, .int .i64 a0, .int .i64 b0, .int .i64 a1, .int .i64 b1, .int .i64 a2, .int .i64 b2, .int .i64 a3, .int .i64 b3]] w fun e w' => e = .returned (.bool r) ∧ Below w.heap.size w w' := by
  have AR := hide (fun (W : World) (n : Nat) (g : IsPairs W (some ⟨n, 1, none⟩) [(a0, b0), (a1, b1), (a2, b2), (a3, b3)]) => (show Calls Tryz.prog 82 #[.int .i64 1000000, .slice (some ⟨n, 1, none⟩) 4 4] W fun e w' => e = .returned (.bool (brdOk ⟨s, a0, b0, a1, b1, a2, b2, a3, b3⟩)) ∧ Below W.heap.size W w' from areRanges_any 1000000 (some ⟨n, 1, none⟩) 4 [(a0, b0), (a1, b1), (a2, b2), (a3, b3)] W (by simp) g))
  have i0 := fun W => (show (Instr.index 24 (.agg #[.int .i64 a0, .int .i64 b0, .int .i64 a1, .int .i64 b1, .int .i64 a2, .int .i64 b2, .int .i64 a3, .int .i64 b3]) (.int .i64 0)).run Tryz.prog W = .ok (.agg #[.int .i64 a0, .int .i64 b0]) W by kernel_rfl)
  have i1 := fun W => (show (Instr.index 24 (.agg #[.int .i64 a0, .int .i64 b0, .int .i64 a1, .int .i64 b1, .int .i64 a2, .int .i64 b2, .int .i64 a3, .int .i64 b3]) (.int .i64 1)).run Tryz.prog W = .ok (.agg #[.int .i64 a1, .int .i64 b1]) W by kernel_rfl)
  have i2 := fun W => (show (Instr.index 24 (.agg #[.int .i64 a0, .int .i64 b0, .int .i64 a1, .int .i64 b1, .int .i64 a2, .int .i64 b2, .int .i64 a3, .int .i64 b3]) (.int .i64 2)).run Tryz.prog W = .ok (.agg #[.int .i64 a2, .int .i64 b2]) W by kernel_rfl)
  have i3 := fun W => (show (Instr.index 24 (.agg #[.int .i64 a0, .int .i64 b0, .int .i64 a1, .int .i64 b1, .int .i64 a2, .int .i64 b2, .int .i64 a3, .int .i64 b3]) (.int .i64 3)).run Tryz.prog W = .ok (.agg #[.int .i64 a3, .int .i64 b3]) W by kernel_rfl)
  by_cases g1 : a1 < a0
  · have d1 : decide (a1 < a0) = true := decide_eq_true g1
    obtain rfl : r = false := by rw [← h.out]; simp [mdlOk, ascOk]; intros; omega
    clear g1 h
    go_enter Tryz.func108, Tryz.ntmps108
    go_wp2_with fail
    refine wp_loop_rounds 6 ?_
    (rw [rounds_succ]; go_wp2_with fail; go_quiet (fail); go_wp2_with fail)
    (rw [rounds_succ]; go_wp2_with fail; go_quiet (fail); go_wp2_with fail)
    go_ret
    exact ⟨rfl, (by repeat (first | exact Below.refl _ _ | assumption | apply balloc | apply bdrew | (refine below_drewN ?_ _) | (refine bset ?_ (by first | (simp; done) | omega | (simp; omega)) _) | (refine bnext ?_ (by assumption))))⟩
  · have d1 : decide (a1 < a0) = false := decide_eq_false g1
    by_cases g2 : b1 < b0
    · have d2 : decide (b1 < b0) = true := decide_eq_true g2
      obtain rfl : r = false := by rw [← h.out]; simp [mdlOk, ascOk]; intros; omega
      clear g1 g2 h
      go_enter Tryz.func108, Tryz.ntmps108
      go_wp2_with fail
      refine wp_loop_rounds 6 ?_
      (rw [rounds_succ]; go_wp2_with fail; go_quiet (fail); go_wp2_with fail)
      (rw [rounds_succ]; go_wp2_with fail; go_quiet (fail); go_wp2_with fail)
      go_ret
      exact ⟨rfl, (by repeat (first | exact Below.refl _ _ | assumption | apply balloc | apply bdrew | (refine below_drewN ?_ _) | (refine bset ?_ (by first | (simp; done) | omega | (simp; omega)) _) | (refine bnext ?_ (by assumption))))⟩
    · have d2 : decide (b1 < b0) = false := decide_eq_false g2
      by_cases g3 : a2 < a1
      · have d3 : decide (a2 < a1) = true := decide_eq_true g3
        obtain rfl : r = false := by rw [← h.out]; simp [mdlOk, ascOk]; intros; omega
        clear g1 g2 g3 h
        go_enter Tryz.func108, Tryz.ntmps108
        go_wp2_with fail
        refine wp_loop_rounds 6 ?_
        (rw [rounds_succ]; go_wp2_with fail; go_quiet (fail); go_wp2_with fail)
        (rw [rounds_succ]; go_wp2_with fail; go_quiet (fail); go_wp2_with fail)
        (rw [rounds_succ]; go_wp2_with fail; go_quiet (fail); go_wp2_with fail)
        go_ret
        exact ⟨rfl, (by repeat (first | exact Below.refl _ _ | assumption | apply balloc | apply bdrew | (refine below_drewN ?_ _) | (refine bset ?_ (by first | (simp; done) | omega | (simp; omega)) _) | (refine bnext ?_ (by assumption))))⟩
      · have d3 : decide (a2 < a1) = false := decide_eq_false g3
        by_cases g4 : b2 < b1
        · have d4 : decide (b2 < b1) = true := decide_eq_true g4
          obtain rfl : r = false := by rw [← h.out]; simp [mdlOk, ascOk]; intros; omega
          clear g1 g2 g3 g4 h
          go_enter Tryz.func108, Tryz.ntmps108
          go_wp2_with fail
          refine wp_loop_rounds 6 ?_
          (rw [rounds_succ]; go_wp2_with fail; go_quiet (fail); go_wp2_with fail)
          (rw [rounds_succ]; go_wp2_with fail; go_quiet (fail); go_wp2_with fail)
          (rw [rounds_succ]; go_wp2_with fail; go_quiet (fail); go_wp2_with fail)
          go_ret
          exact ⟨rfl, (by repeat (first | exact Below.refl _ _ | assumption | apply balloc | apply bdrew | (refine below_drewN ?_ _) | (refine bset ?_ (by first | (simp; done) | omega | (simp; omega)) _) | (refine bnext ?_ (by assumption))))⟩
        · have d4 : decide (b2 < b1) = false := decide_eq_false g4
          by_cases g5 : a3 < a2
          · have d5 : decide (a3 < a2) = true := decide_eq_true g5
            obtain rfl : r = false := by rw [← h.out]; simp [mdlOk, ascOk]; intros; omega
            clear g1 g2 g3 g4 g5 h
            go_enter Tryz.func108, Tryz.ntmps108
            go_wp2_with fail
            refine wp_loop_rounds 6 ?_
            (rw [rounds_succ]; go_wp2_with fail; go_quiet (fail); go_wp2_with fail)
            (rw [rounds_succ]; go_wp2_with fail; go_quiet (fail); go_wp2_with fail)
            (rw [rounds_succ]; go_wp2_with fail; go_quiet (fail); go_wp2_with fail)
            (rw [rounds_succ]; go_wp2_with fail; go_quiet (fail); go_wp2_with fail)
            go_ret
            exact ⟨rfl, (by repeat (first | exact Below.refl _ _ | assumption | apply balloc | apply bdrew | (refine below_drewN ?_ _) | (refine bset ?_ (by first | (simp; done) | omega | (simp; omega)) _) | (refine bnext ?_ (by assumption))))⟩
          · have d5 : decide (a3 < a2) = false := decide_eq_false g5
            by_cases g6 : b3 < b2
            · have d6 : decide (b3 < b2) = true := decide_eq_true g6
              obtain rfl : r = false := by rw [← h.out]; simp [mdlOk, ascOk]; intros; omega
              clear g1 g2 g3 g4 g5 g6 h
              go_enter Tryz.func108, Tryz.ntmps108
              go_wp2_with fail
              refine wp_loop_rounds 6 ?_
              (rw [rounds_succ]; go_wp2_with fail; go_quiet (fail); go_wp2_with fail)
              (rw [rounds_succ]; go_wp2_with fail; go_quiet (fail); go_wp2_with fail)
              (rw [rounds_succ]; go_wp2_with fail; go_quiet (fail); go_wp2_with fail)
              (rw [rounds_succ]; go_wp2_with fail; go_quiet (fail); go_wp2_with fail)
              go_ret
              exact ⟨rfl, (by repeat (first | exact Below.refl _ _ | assumption | apply balloc | apply bdrew | (refine below_drewN ?_ _) | (refine bset ?_ (by first | (simp; done) | omega | (simp; omega)) _) | (refine bnext ?_ (by assumption))))⟩
            · have d6 : decide (b3 < b2) = false := decide_eq_false g6
              have HA := hide (show ascOk ⟨s, a0, b0, a1, b1, a2, b2, a3, b3⟩ = true by simp [ascOk]; omega)
              clear g1 g2 g3 g4 g5 g6
              obtain ⟨u, hu⟩ : ∃ u, brdOk ⟨s, a0, b0, a1, b1, a2, b2, a3, b3⟩ = u := ⟨_, rfl⟩
              rw [hu] at AR
              have HR := hide (show r = (decide (1 ≤ s) && (decide (s ≤ 1000000) && u)) by rw [← h.out, ← hu]; unfold mdlOk; rw [HA.out]; rfl)
              clear h hu HA
              go_enter Tryz.func108, Tryz.ntmps108
              go_wp2_with fail
              refine wp_loop_rounds 6 ?_
              (rw [rounds_succ]; go_wp2_with fail; go_quiet (fail); go_wp2_with fail)
              (rw [rounds_succ]; go_wp2_with fail; go_quiet (fail); go_wp2_with fail)
              (rw [rounds_succ]; go_wp2_with fail; go_quiet (fail); go_wp2_with fail)
              (rw [rounds_succ]; go_wp2_with fail; go_quiet (fail); go_wp2_with fail)
              rw [rounds_succ]
              by_cases h1 : 1 ≤ s
              · have e1 : decide (1 ≤ s) = true := decide_eq_true h1
                by_cases h2 : s ≤ 1000000
                · have e2 : decide (s ≤ 1000000) = true := decide_eq_true h2
                  obtain rfl : r = u := by rw [HR.out, e1, e2]; rfl
                  clear h1 h2 HR
                  go_wp2_with fail
                  refine (AR.out _ _ (pairs_mdl (mdlAt_later (mdlAt_new w ⟨s, a0, b0, a1, b1, a2, b2, a3, b3⟩ 26) (by repeat (first | exact Below.refl _ _ | assumption | apply balloc | apply bdrew | (refine below_drewN ?_ _) | (refine bset ?_ (by first | (simp; done) | omega | (simp; omega)) _) | (refine bnext ?_ (by assumption))))))).mono ?_
                  rintro e w1 ⟨rfl, hb1⟩
                  have BF : Below w.heap.size w w1 := (by repeat (first | exact Below.refl _ _ | assumption | apply balloc | apply bdrew | (refine below_drewN ?_ _) | (refine bset ?_ (by first | (simp; done) | omega | (simp; omega)) _) | (refine bnext ?_ (by assumption))))
                  clear hb1 AR
                  go_wp2_with fail
                  go_ret
                  exact ⟨rfl, BF⟩
                · have e2 : decide (s ≤ 1000000) = false := decide_eq_false h2
                  obtain rfl : r = false := by rw [HR.out, e1, e2]; rfl
                  clear h1 h2 HR
                  go_wp2_with fail
                  go_ret
                  exact ⟨rfl, (by repeat (first | exact Below.refl _ _ | assumption | apply balloc | apply bdrew | (refine below_drewN ?_ _) | (refine bset ?_ (by first | (simp; done) | omega | (simp; omega)) _) | (refine bnext ?_ (by assumption))))⟩
              · have e1 : decide (1 ≤ s) = false := decide_eq_false h1
                obtain rfl : r = false := by rw [HR.out, e1]; rfl
                clear h1 HR
                go_wp2_with fail
                go_ret
                exact ⟨rfl, (by repeat (first | exact Below.refl _ _ | assumption | apply balloc | apply bdrew | (refine below_drewN ?_ _) | (refine bset ?_ (by first | (simp; done) | omega | (simp; omega)) _) | (refine bnext ?_ (by assumption))))⟩
theorem isModel_any (m : Mdl) (w : World) : Calls Tryz.prog 108 #[mdlV m] w fun e w' => e = .returned (.bool (mdlOk m)) ∧ Below w.heap.size w w' := by
  obtain ⟨s, a0, b0, a1, b1, a2, b2, a3, b3⟩ := m
  exact isModel_go s a0 b0 a1 b1 a2 b2 a3 b3 _ w rfl
end Go.Proofs.YtimfbjnpalgmcaaGreat

namespace Go.Proofs.YtimfbjnpalgmcaaGreat
set_option linter.unusedSimpArgs false
set_option linter.unusedVariables false
open Go.RowKit

/-- A range in memory. -/
def RgAt (W : World) (q : Nat) (x y : Int) : Prop := W.cell? ⟨q, 0, none⟩ = some (.int .i64 x) ∧ W.cell? ⟨q, 1, none⟩ = some (.int .i64 y)
theorem rgAt_later {w W : World} {q : Nat} {x y : Int} (h : RgAt w q x y) (hb : Below w.heap.size w W) : RgAt W q x y := ⟨later hb h.1, later hb h.2⟩

theorem or_bits : ∀ k : Fin 5, ∀ m : Fin 16, m.val < 2 ^ k.val → bits BinOp.or IntKind.u8 (m.val : Int) (2 ^ k.val) = ((m.val + 2 ^ k.val : Nat) : Int) := by decide +kernel
theorem or_bit {k m : Nat} (hk : k < 5) (hm : m < 2 ^ k) : bits BinOp.or IntKind.u8 (m : Int) (2 ^ k) = ((m + 2 ^ k : Nat) : Int) := by
  have h16 : m < 16 := by
    rcases (show k = 0 ∨ k = 1 ∨ k = 2 ∨ k = 3 ∨ k = 4 by omega) with rfl | rfl | rfl | rfl | rfl <;> omega
  exact or_bits ⟨k, hk⟩ ⟨m, h16⟩ hm

set_option maxRecDepth 100000 in
set_option maxHeartbeats 3200000 in
theorem regions_go (s a0 b0 a1 b1 a2 b2 a3 b3 x y p q : Int) (w : World) (hm : MdlOk ⟨s, a0, b0, a1, b1, a2, b2, a3, b3⟩) (x0 : 0 ≤ x) (xy : x ≤ y) (y1 : y ≤ 1000000) (p0 : 1 ≤ p) (pq : p ≤ q) (q1 : q ≤ 1000000) :
    Calls Tryz.prog 56 #[.agg #[.int .i64 s, .int .i64 a0, .int .i64 b0, .int .i64 a1, .int .i64 b1, .int .i64 a2, .int .i64 b2, .int .i64 a3, .int .i64 b3], .agg #[.int .i64 x, .int .i64 y], .agg #[.int .i64 p, .int .i64 q]] w fun e w' => e = .returned (.int .u8 ((regN ⟨s, a0, b0, a1, b1, a2, b2, a3, b3⟩ (x, y) (p, q) : Nat) : Int)) ∧ Below w.heap.size w w' := by
  have SD := hide (fun (W : World) => sides_any ⟨s, a0, b0, a1, b1, a2, b2, a3, b3⟩ W)
  have AB1 := hide (fun (W : World) (k : Nat) => above_any ⟨s, a0, b0, a1, b1, a2, b2, a3, b3⟩ y (sideL ⟨s, a0, b0, a1, b1, a2, b2, a3, b3⟩ k) p W hm (by omega) y1 (sideL_far hm k).1 (by have := (sideL_far hm k).2; omega) (by omega) (by omega))
  have AB2 := hide (fun (W : World) (k : Nat) => above_any ⟨s, a0, b0, a1, b1, a2, b2, a3, b3⟩ x (sideH ⟨s, a0, b0, a1, b1, a2, b2, a3, b3⟩ k) q W hm x0 (by omega) (by have := (sideH_far hm k).1; omega) (sideH_far hm k).2 (by omega) q1)
  have IX := hide (fun (k : Nat) (hk : k < 5) (W : World) => (show (Instr.index 112 (.agg #[.int .i64 (-1), .int .i64 b0, .int .i64 a0, .int .i64 b1, .int .i64 a1, .int .i64 b2, .int .i64 a2, .int .i64 b3, .int .i64 a3, .int .i64 1000000000000]) (.int .i64 (k : Int))).run Tryz.prog W = .ok (.agg #[.int .i64 (sideL ⟨s, a0, b0, a1, b1, a2, b2, a3, b3⟩ k), .int .i64 (sideH ⟨s, a0, b0, a1, b1, a2, b2, a3, b3⟩ k)]) W by
    rcases (show k = 0 ∨ k = 1 ∨ k = 2 ∨ k = 3 ∨ k = 4 by omega) with rfl | rfl | rfl | rfl | rfl
    · kernel_rfl
    · kernel_rfl
    · kernel_rfl
    · kernel_rfl
    · kernel_rfl))
  have HF := hide (fun (k : Nat) => (show canB ⟨s, a0, b0, a1, b1, a2, b2, a3, b3⟩ (x, y) (p, q) k = (decide (sideL ⟨s, a0, b0, a1, b1, a2, b2, a3, b3⟩ k < sideH ⟨s, a0, b0, a1, b1, a2, b2, a3, b3⟩ k) && (abv ⟨s, a0, b0, a1, b1, a2, b2, a3, b3⟩ y (sideL ⟨s, a0, b0, a1, b1, a2, b2, a3, b3⟩ k) p && !abv ⟨s, a0, b0, a1, b1, a2, b2, a3, b3⟩ x (sideH ⟨s, a0, b0, a1, b1, a2, b2, a3, b3⟩ k) q)) from rfl))
  have HN := hide (show regN ⟨s, a0, b0, a1, b1, a2, b2, a3, b3⟩ (x, y) (p, q) = setN (canB ⟨s, a0, b0, a1, b1, a2, b2, a3, b3⟩ (x, y) (p, q)) 5 from rfl)
  generalize regN ⟨s, a0, b0, a1, b1, a2, b2, a3, b3⟩ (x, y) (p, q) = R at *
  generalize canB ⟨s, a0, b0, a1, b1, a2, b2, a3, b3⟩ (x, y) (p, q) = f at *
  generalize sideL ⟨s, a0, b0, a1, b1, a2, b2, a3, b3⟩ = SL at *
  generalize sideH ⟨s, a0, b0, a1, b1, a2, b2, a3, b3⟩ = SH at *
  have SL' := hide (fun k => (show _ from rfl : abv ⟨s, a0, b0, a1, b1, a2, b2, a3, b3⟩ y (SL k) p = abv ⟨s, a0, b0, a1, b1, a2, b2, a3, b3⟩ y (SL k) p))
  obtain ⟨t1, ht1⟩ : ∃ t : Nat → Bool, ∀ k, abv ⟨s, a0, b0, a1, b1, a2, b2, a3, b3⟩ y (SL k) p = t k := ⟨_, fun _ => rfl⟩
  obtain ⟨t2, ht2⟩ : ∃ t : Nat → Bool, ∀ k, abv ⟨s, a0, b0, a1, b1, a2, b2, a3, b3⟩ x (SH k) q = t k := ⟨_, fun _ => rfl⟩
  simp only [ht1] at AB1 HF
  simp only [ht2] at AB2 HF
  clear ht1 ht2 SL' x0 xy y1 p0 pq q1 hm
  have MN := hide (mdlAt_new w ⟨s, a0, b0, a1, b1, a2, b2, a3, b3⟩ 26)
  go_enter Tryz.func56, Tryz.ntmps56
  go_wp2_with fail
  refine (SD.out _).mono ?_
  rintro e w1 ⟨rfl, hb1⟩
  have M1 := hide (mdlAt_later MN.out (show Below (w.alloc (.cells #[.int .i64 s, .int .i64 a0, .int .i64 b0, .int .i64 a1, .int .i64 b1, .int .i64 a2, .int .i64 b2, .int .i64 a3, .int .i64 b3] 26)).heap.size _ w1 from (by repeat (first | exact Below.refl _ _ | assumption | apply balloc | apply bdrew | (refine below_drewN ?_ _) | (refine bset ?_ (by first | (simp; done) | omega | (simp; omega)) _) | (refine bnext ?_ (by assumption))))))
  have X1 := hide (rgAt_later (q := w.heap.size + 1) (x := x) (y := y) ⟨(by simp [go_sem, World.cell?_alloc_past]), (by simp [go_sem, World.cell?_alloc_past])⟩ hb1)
  have P1 := hide (rgAt_later (q := w.heap.size + 1 + 1) (x := p) (y := q) ⟨(by simp [go_sem, World.cell?_alloc_past]), (by simp [go_sem, World.cell?_alloc_past])⟩ hb1)
  have B1 := hide (show Below w.heap.size w w1 from (by repeat (first | exact Below.refl _ _ | assumption | apply balloc | apply bdrew | (refine below_drewN ?_ _) | (refine bset ?_ (by first | (simp; done) | omega | (simp; omega)) _) | (refine bnext ?_ (by assumption)))))
  clear hb1 MN SD
  go_wp2_with fail
  go_loopw [7, 12] (fun c i wr => ∃ k : Nat, k ≤ 5 ∧ i = .int .i64 (k : Int) ∧ c = .int .u8 ((setN f k : Nat) : Int) ∧ Below w1.heap.size w1 wr) (fun _ i _ => 5 - (intOf i).toNat)
  case atStart => exact ⟨0, by omega, rfl, rfl, Below.refl _ _⟩
  case round =>
    obtain ⟨k, hk, rfl, rfl, hb⟩ := hrel
    by_cases hlt : k < 5
    · have ix := IX.out k hlt
      have c1 := fun W => AB1.out W k
      have c2 := fun W => AB2.out W k
      have fk := HF.out k
      generalize SL k = L at *
      generalize SH k = H at *
      have k0 : 0 ≤ (k : Int) := by omega
      have k1 : (k : Int) < 5 := by omega
      generalize t1 k = u1 at *
      generalize t2 k = u2 at *
      go_upto_region 5 with fail
      obtain ⟨w3, hw3⟩ : ∃ x, x = wr.alloc (.cells #[.int .i64 L, .int .i64 H] 23) := ⟨_, rfl⟩
      rw [← hw3]
      have B3 := hide (show Below w1.heap.size w1 w3 by rw [hw3]; exact balloc hb)
      have L3 : w3.cell? ⟨wr.heap.size, 0, none⟩ = some (.int .i64 L) := by rw [hw3]; exact (by simp [go_sem, World.cell?_alloc_past])
      have H3 : w3.cell? ⟨wr.heap.size, 1, none⟩ = some (.int .i64 H) := by rw [hw3]; exact (by simp [go_sem, World.cell?_alloc_past])
      clear hw3 hb
      by_cases g : L < H
      · have d : decide (L < H) = true := decide_eq_true g
        rw [d] at fk
        have FK := hide fk
        clear g fk
        have ⟨⟨⟨⟨m1, m2⟩, m3⟩, m4, m5⟩, ⟨m6, m7⟩, m8, m9⟩ := mdlAt_later M1.out B3.out
        have ⟨x1, x2⟩ := rgAt_later X1.out B3.out
        have ⟨p1, p2⟩ := rgAt_later P1.out B3.out
        simp only at m1 m2 m3 m4 m5 m6 m7 m8 m9
        go_wp2_with fail
        refine (c1 _).mono ?_
        rintro e w4 ⟨rfl, hb4⟩
        have B4 := hide (bnext B3.out hb4)
        have L4 := later hb4 L3
        have H4 := later hb4 H3
        clear m1 m2 m3 m4 m5 m6 m7 m8 m9 x1 x2 p1 p2 L3 H3 hb4 B3
        cases u1
        · go_wp2_with fail
          go_roundw
          case rel => exact ⟨k + 1, by omega, by go_num, by simp [setN, FK.out], B4.out⟩
          case measure => simp [intOf]; omega
        · skip
          have ⟨⟨⟨⟨m1, m2⟩, m3⟩, m4, m5⟩, ⟨m6, m7⟩, m8, m9⟩ := mdlAt_later M1.out B4.out
          have ⟨x1, x2⟩ := rgAt_later X1.out B4.out
          have ⟨p1, p2⟩ := rgAt_later P1.out B4.out
          simp only at m1 m2 m3 m4 m5 m6 m7 m8 m9
          go_wp2_with fail
          refine (c2 _).mono ?_
          rintro e w5 ⟨rfl, hb5⟩
          have B5 := hide (bnext B4.out hb5)
          clear m1 m2 m3 m4 m5 m6 m7 m8 m9 x1 x2 p1 p2 L4 H4 hb5 B4
          cases u2
          · go_wp2_with fail
            refine (only_any k (by omega) _).mono ?_
            rintro e w6 ⟨rfl, rfl⟩
            go_wp2_with fail
            have OB := or_bit hlt (setN_lt f k)
            go_roundw
            case rel => exact ⟨k + 1, by omega, by go_num, by rw [OB, setN, FK.out]; rfl, B5.out⟩
            case measure => simp [intOf]; omega
          · go_wp2_with fail
            go_roundw
            case rel => exact ⟨k + 1, by omega, by go_num, by simp [setN, FK.out], B5.out⟩
            case measure => simp [intOf]; omega
      · have d : decide (L < H) = false := decide_eq_false g
        rw [d] at fk
        have FK := hide fk
        clear g fk
        go_wp2_with fail
        go_roundw
        case rel => exact ⟨k + 1, by omega, by go_num, by simp [setN, FK.out], B3.out⟩
        case measure => simp [intOf]; omega
    · obtain rfl : k = 5 := by omega
      go_wp2_with fail
      go_ret
      exact ⟨ret_u8 (by rw [HN.out]), bnext B1.out hb⟩
theorem regions_any (m : Mdl) (v g : Int × Int) (w : World) (hm : mdlOk m = true) (hv : rgOk 1000000 v = true) (hg : grOk g = true) :
    Calls Tryz.prog 56 #[mdlV m, .agg #[.int .i64 v.1, .int .i64 v.2], .agg #[.int .i64 g.1, .int .i64 g.2]] w fun e w' => e = .returned (.int .u8 ((regN m v g : Nat) : Int)) ∧ Below w.heap.size w w' := by
  obtain ⟨x, y⟩ := v
  obtain ⟨p, q⟩ := g
  simp [rgOk, grOk] at hv hg
  obtain ⟨s, a0, b0, a1, b1, a2, b2, a3, b3⟩ := m
  exact regions_go s a0 b0 a1 b1 a2 b2 a3 b3 x y p q w (mdlOk_of hm) (by omega) (by omega) (by omega) (by omega) (by omega) (by omega)

/-! ### The conditions -/
theorem validModel1_any (m : Mdl) (q : Nat) (w : World) (h : MdlAt w q m) :
    Calls Tryz.prog 107 #[.pointer (some ⟨q, 0, none⟩)] w fun e w' => e = .returned (.bool (mdlOk m)) ∧ Below w.heap.size w w' := by
  have IM := hide (fun (W : World) => isModel_any m W)
  obtain ⟨u, hu⟩ : ∃ u, mdlOk m = u := ⟨_, rfl⟩
  rw [hu] at IM ⊢
  clear hu
  obtain ⟨s, a0, b0, a1, b1, a2, b2, a3, b3⟩ := m
  have ⟨⟨⟨⟨m1, m2⟩, m3⟩, m4, m5⟩, ⟨m6, m7⟩, m8, m9⟩ := h
  simp only at m1 m2 m3 m4 m5 m6 m7 m8 m9
  clear h
  go_enter Tryz.func107, Tryz.ntmps107
  go_wp2_with fail
  refine (IM.out _).mono ?_
  rintro e w1 ⟨rfl, hb1⟩
  go_wp2_with fail
  go_ret
  exact ⟨rfl, hb1⟩
theorem validModel_ex (m : Mdl) (k : Bool) (w : World) (hk : mdlOk m = k) :
    Calls Tryz.prog 51 #[mdlV m] w fun e w' => e = .returned (.func (.func 109) #[] #[.pointer (some ⟨w.heap.size + 1 + 1, 0, none⟩), .pointer (some ⟨w.heap.size + 1, 0, none⟩)]) ∧
      CndTells w' ⟨2, 109, #[.pointer (some ⟨w.heap.size + 1 + 1, 0, none⟩), .pointer (some ⟨w.heap.size + 1, 0, none⟩)], k⟩ ∧ Below w.heap.size w w' := by
  have TL := hide (fun (W : World) (h : MdlAt W w.heap.size m) => (show Tells W 107 #[.pointer (some ⟨w.heap.size, 0, none⟩)] k from
    hk ▸ ⟨enters_any Tryz.func107 (by kernel_rfl) rfl _, fun V hV => validModel1_any m w.heap.size V (mdlAt_later h hV)⟩))
  have MN := hide (mdlAt_new w m 26)
  clear hk
  obtain ⟨s, a0, b0, a1, b1, a2, b2, a3, b3⟩ := m
  show Calls Tryz.prog 51 #[.agg #[.int .i64 s, .int .i64 a0, .int .i64 b0, .int .i64 a1, .int .i64 b1, .int .i64 a2, .int .i64 b2, .int .i64 a3, .int .i64 b3]] w _
  go_enter Tryz.func51, Tryz.ntmps51
  go_wp2_with fail
  refine (unless_ex 2 107 #[.pointer (some ⟨w.heap.size, 0, none⟩)] k _ rfl (TL.out _ MN.out)).mono ?_
  rintro e w1 ⟨rfl, h1, hb1⟩
  (try simp at h1)
  have H1 := hide h1
  clear h1
  go_wp2_with fail
  exact bodyPost_ret (v := .func (.func 109) #[] #[.pointer (some ⟨w.heap.size + 1 + 1, 0, none⟩), .pointer (some ⟨w.heap.size + 1, 0, none⟩)]) (by simp [results, Tryz.results51, go_sem]) rfl ⟨rfl, H1.out, (by repeat (first | exact Below.refl _ _ | assumption | apply balloc | apply bdrew | (refine below_drewN ?_ _) | (refine bset ?_ (by first | (simp; done) | omega | (simp; omega)) _) | (refine bnext ?_ (by assumption))))⟩
def mdlE (m : Mdl) : Int := if mdlOk m then 0 else 2
theorem checkModel_any (m : Mdl) (w : World) :
    Calls Tryz.prog 14 #[mdlV m] w fun e w' => e = .returned (.int .i64 (mdlE m)) ∧ Below w.heap.size w w' := by
  obtain ⟨k, hk⟩ : ∃ k, mdlOk m = k := ⟨_, rfl⟩
  have VM := hide (fun (W : World) => validModel_ex m k W hk)
  obtain ⟨E, hE⟩ : ∃ E, mdlE m = E := ⟨_, rfl⟩
  have FE := hide (fun (c : Array Value) => (show firstE [⟨2, 109, c, k⟩] = E by rw [← hE, mdlE, hk]; cases k <;> rfl))
  rw [hE]
  clear hE hk
  obtain ⟨s, a0, b0, a1, b1, a2, b2, a3, b3⟩ := m
  show Calls Tryz.prog 14 #[.agg #[.int .i64 s, .int .i64 a0, .int .i64 b0, .int .i64 a1, .int .i64 b1, .int .i64 a2, .int .i64 b2, .int .i64 a3, .int .i64 b3]] w _
  go_enter Tryz.func14, Tryz.ntmps14
  go_wp2_with fail
  refine (VM.out _).mono ?_
  rintro e wA ⟨rfl, hA, hbA⟩
  (try simp at hA)
  have HA := hide hA
  clear hA
  go_wp2_with fail
  refine (firstError_is E [⟨2, 109, _, k⟩] _ _ _ (FE.out _) (by simp) (by simp) (cnds_one_at (by simp)) (tells_one (cnd_later HA.out (balloc (Below.refl _ _))))).mono ?_
  rintro e wC ⟨rfl, hbC⟩
  have BF : Below w.heap.size w wC := (by repeat (first | exact Below.refl _ _ | assumption | apply balloc | apply bdrew | (refine below_drewN ?_ _) | (refine bset ?_ (by first | (simp; done) | omega | (simp; omega)) _) | (refine bnext ?_ (by assumption))))
  go_wp2_with fail
  go_ret
  exact ⟨rfl, BF⟩
end Go.Proofs.YtimfbjnpalgmcaaGreat

namespace Go.Proofs.YtimfbjnpalgmcaaGreat
set_option linter.unusedSimpArgs false
set_option linter.unusedVariables false
open Go.RowKit

theorem regions1_any (x y p q : Int) (n m : Nat) (w : World) (h1 : RgAt w n x y) (h2 : RgAt w m p q) :
    Calls Tryz.prog 53 #[.pointer (some ⟨n, 0, none⟩), .pointer (some ⟨m, 0, none⟩)] w fun e w' => e = .returned (.bool (rgOk 1000000 (x, y) && grOk (p, q))) ∧ Below w.heap.size w w' := by
  have IR := hide (fun (W : World) => isRate_any x y W)
  have AG := hide (fun (W : World) (k : Nat) (h : IsPairs W (some ⟨k, 0, none⟩) [(p, q)]) => (show Calls Tryz.prog 55 #[.slice (some ⟨k, 0, none⟩) 1 1] W fun e w' => e = .returned (.bool (grOk (p, q))) ∧ Below W.heap.size W w' by
    have g := areGradients_any (some ⟨k, 0, none⟩) 1 [(p, q)] W (by simp) h
    rwa [show [(p, q)].all grOk = grOk (p, q) by simp] at g))
  generalize rgOk 1000000 (x, y) = u at *
  generalize grOk (p, q) = v at *
  have ⟨c1, c2⟩ := h1
  have P := hide h2
  clear h1 h2
  cases u
  · go_enter Tryz.func53, Tryz.ntmps53
    go_wp2_with fail
    refine (IR.out _).mono ?_
    rintro e w1 ⟨rfl, hb1⟩
    go_wp2_with fail
    go_ret
    exact ⟨rfl, hb1⟩
  · go_enter Tryz.func53, Tryz.ntmps53
    go_wp2_with fail
    refine (IR.out _).mono ?_
    rintro e w1 ⟨rfl, hb1⟩
    have ⟨d1, d2⟩ := rgAt_later P.out hb1
    go_wp2_with fail
    refine (AG.out _ _ (pairs_one_of (by simp [go_sem, World.cell?_alloc_past]) (by simp [go_sem, World.cell?_alloc_past]))).mono ?_
    rintro e w2 ⟨rfl, hb2⟩
    go_wp2_with fail
    go_ret
    exact ⟨rfl, (by repeat (first | exact Below.refl _ _ | assumption | apply balloc | apply bdrew | (refine below_drewN ?_ _) | (refine bset ?_ (by first | (simp; done) | omega | (simp; omega)) _) | (refine bnext ?_ (by assumption))))⟩

def regE (m : Mdl) (v g : Int × Int) : Int := if mdlOk m then if rgOk 1000000 v && grOk g then 0 else 2 else 2
def regQ (m : Mdl) (v g : Int × Int) : Nat × Int := if regE m v g = 0 then (regN m v g, 0) else (0, regE m v g)
set_option maxHeartbeats 1600000 in
theorem bigRegions_go (m : Mdl) (x y p q E : Int) (R : Nat) (k1 k2 : Bool) (w : World) (h1 : mdlOk m = k1) (h2 : (rgOk 1000000 (x, y) && grOk (p, q)) = k2) (hE : Hid (∀ c d, firstE [⟨2, 109, c, k1⟩, ⟨2, 109, d, k2⟩] = E)) (hR : E ≠ 0 → R = 0) (hR0 : E = 0 → R = regN m (x, y) (p, q)) :
    Calls Tryz.prog 15 #[mdlV m, .agg #[.int .i64 x, .int .i64 y], .agg #[.int .i64 p, .int .i64 q]] w fun e w' => e = .returned (.tuple #[.int .u8 ((R : Nat) : Int), .int .i64 E]) ∧ Below w.heap.size w w' := by
  have VM := hide (fun (W : World) => validModel_ex m k1 W h1)
  have TL := hide (fun (W : World) (g1 : RgAt W (w.heap.size + 1) x y) (g2 : RgAt W (w.heap.size + 1 + 1) p q) => (show Tells W 53 #[.pointer (some ⟨w.heap.size + 1, 0, none⟩), .pointer (some ⟨w.heap.size + 1 + 1, 0, none⟩)] k2 from
    h2 ▸ ⟨enters_any Tryz.func53 (by kernel_rfl) rfl _, fun V hV => regions1_any x y p q (w.heap.size + 1) (w.heap.size + 1 + 1) V (rgAt_later g1 hV) (rgAt_later g2 hV)⟩))
  have RG := hide (fun (W : World) (h0 : E = 0) => (show Calls Tryz.prog 56 #[mdlV m, .agg #[.int .i64 x, .int .i64 y], .agg #[.int .i64 p, .int .i64 q]] W fun e w' => e = .returned (.int .u8 ((R : Nat) : Int)) ∧ Below W.heap.size W w' by
    rw [hR0 h0]
    have f := hE.out #[] #[]
    have a : k1 = true ∧ k2 = true := by
      cases k1 <;> cases k2 <;> simp [firstE] at f <;> first | omega | exact ⟨rfl, rfl⟩
    rw [a.1] at h1
    rw [a.2] at h2
    simp only [Bool.and_eq_true] at h2
    exact regions_any m (x, y) (p, q) W h1 h2.1 h2.2))
  have HR := hide hR
  have MN := hide (mdlAt_new w m 26)
  clear h1 h2 hR hR0
  obtain ⟨s, a0, b0, a1, b1, a2, b2, a3, b3⟩ := m
  unfold mdlV at *
  simp only at VM RG ⊢
  go_enter Tryz.func15, Tryz.ntmps15
  go_wp2_with fail
  refine (VM.out _).mono ?_
  rintro e wA ⟨rfl, hA, hbA⟩
  (try simp at hA)
  have HA := hide hA
  have X1 := hide (rgAt_later (q := w.heap.size + 1) (x := x) (y := y) ⟨(by simp [go_sem, World.cell?_alloc_past]), (by simp [go_sem, World.cell?_alloc_past])⟩ hbA)
  have P1 := hide (rgAt_later (q := w.heap.size + 1 + 1) (x := p) (y := q) ⟨(by simp [go_sem, World.cell?_alloc_past]), (by simp [go_sem, World.cell?_alloc_past])⟩ hbA)
  have M1 := hide (mdlAt_later MN.out (show Below (w.alloc (.cells #[.int .i64 s, .int .i64 a0, .int .i64 b0, .int .i64 a1, .int .i64 b1, .int .i64 a2, .int .i64 b2, .int .i64 a3, .int .i64 b3] 26)).heap.size _ wA from (by repeat (first | exact Below.refl _ _ | assumption | apply balloc | apply bdrew | (refine below_drewN ?_ _) | (refine bset ?_ (by first | (simp; done) | omega | (simp; omega)) _) | (refine bnext ?_ (by assumption))))))
  have BA := hide (show Below w.heap.size w wA from (by repeat (first | exact Below.refl _ _ | assumption | apply balloc | apply bdrew | (refine below_drewN ?_ _) | (refine bset ?_ (by first | (simp; done) | omega | (simp; omega)) _) | (refine bnext ?_ (by assumption)))))
  clear hA hbA MN VM
  go_wp2_with fail
  refine (unless_ex 2 53 #[.pointer (some ⟨w.heap.size + 1, 0, none⟩), .pointer (some ⟨w.heap.size + 1 + 1, 0, none⟩)] k2 wA rfl (TL.out wA X1.out P1.out)).mono ?_
  rintro e wB ⟨rfl, hB, hbB⟩
  (try simp at hB)
  have HB := hide hB
  clear hB
  go_wp2_with fail
  refine (firstError_is E [⟨2, 109, _, k1⟩, ⟨2, 109, _, k2⟩] _ _ _ (hE.out _ _) (by simp) (by simp) (cnds_two_at (by simp)) (tells_two (cnd_later HA.out (show Below wA.heap.size wA _ from balloc hbB)) (fun _ => cnd_later HB.out (balloc (Below.refl _ _))))).mono ?_
  rintro e wC ⟨rfl, hbC⟩
  have BC := hide (show Below wA.heap.size wA wC from (by repeat (first | exact Below.refl _ _ | assumption | apply balloc | apply bdrew | (refine below_drewN ?_ _) | (refine bset ?_ (by first | (simp; done) | omega | (simp; omega)) _) | (refine bnext ?_ (by assumption)))))
  clear hbB hbC HA HB
  by_cases e0 : E = 0
  · subst e0
    have ⟨⟨⟨⟨m1, m2⟩, m3⟩, m4, m5⟩, ⟨m6, m7⟩, m8, m9⟩ := mdlAt_later M1.out BC.out
    have ⟨x1, x2⟩ := rgAt_later X1.out BC.out
    have ⟨p1, p2⟩ := rgAt_later P1.out BC.out
    simp only at m1 m2 m3 m4 m5 m6 m7 m8 m9
    go_wp2_with fail
    refine (RG.out _ (by first | rfl | trivial)).mono ?_
    rintro e w5 ⟨rfl, hb5⟩
    clear m1 m2 m3 m4 m5 m6 m7 m8 m9 x1 x2 p1 p2
    go_wp2_with fail
    exact bodyPost_ret (v := .tuple #[.int .u8 ((R : Nat) : Int), .int .i64 0]) (by simp [results, Tryz.results15, go_sem]) rfl ⟨rfl, bnext (bnext BA.out BC.out) hb5⟩
  · have d : (E != 0) = true := by simpa using e0
    obtain rfl : R = 0 := HR.out e0
    clear e0
    go_wp2_with fail
    exact bodyPost_ret (v := .tuple #[.int .u8 0, .int .i64 E]) (by simp [results, Tryz.results15, go_sem]) rfl ⟨rfl, bnext BA.out BC.out⟩
theorem bigRegions_any (m : Mdl) (x y p q : Int) (w : World) :
    Calls Tryz.prog 15 #[mdlV m, .agg #[.int .i64 x, .int .i64 y], .agg #[.int .i64 p, .int .i64 q]] w fun e w' => e = .returned (.tuple #[.int .u8 (((regQ m (x, y) (p, q)).1 : Nat) : Int), .int .i64 (regQ m (x, y) (p, q)).2]) ∧ Below w.heap.size w w' := by
  refine bigRegions_go m x y p q _ _ (mdlOk m) (rgOk 1000000 (x, y) && grOk (p, q)) w rfl rfl (fun c d => ?_) ?_ ?_
  · unfold regQ regE
    cases mdlOk m <;> cases (rgOk 1000000 (x, y) && grOk (p, q)) <;> rfl
  · unfold regQ
    split <;> simp
  · unfold regQ
    split
    · intro _; rfl
    · intro h; exact absurd h (by assumption)

/-! ### Judge -/
theorem judge1_any (c d : Int) (p q : Addr) (w : World) (h1 : w.cell? p = some (.int .u8 c)) (h2 : w.cell? q = some (.int .u8 d)) :
    Calls Tryz.prog 61 #[.pointer (some p), .pointer (some q)] w fun e w' => e = .returned (.bool (decide (c < 32) && decide (d < 32))) ∧ Below w.heap.size w w' := by
  by_cases g1 : c < 32
  · have d1 : decide (c < 32) = true := decide_eq_true g1
    rw [d1]
    go_enter Tryz.func61, Tryz.ntmps61
    go_wp2_with fail
    refine (isSet_any c _).mono ?_
    rintro e w1 ⟨rfl, rfl⟩
    go_wp2_with fail
    refine (isSet_any d _).mono ?_
    rintro e w1 ⟨rfl, rfl⟩
    go_wp2_with fail
    go_ret
    exact ⟨rfl, Below.refl _ _⟩
  · have d1 : decide (c < 32) = false := decide_eq_false g1
    rw [d1]
    go_enter Tryz.func61, Tryz.ntmps61
    go_wp2_with fail
    refine (isSet_any c _).mono ?_
    rintro e w1 ⟨rfl, rfl⟩
    go_wp2_with fail
    go_ret
    exact ⟨rfl, Below.refl _ _⟩
/-- Judge: the grade, and the error. -/
def judE (c d : Int) : Int := if decide (c < 32) && decide (d < 32) then 0 else 2
def judG (c d : Int) : Int := if (bits BinOp.andNot IntKind.u8 c d == 0) = true then 1 else if (bits BinOp.and IntKind.u8 c d == 0) = true then 3 else 2
def judQ (c d : Int) : Int × Int := if judE c d = 0 then (judG c d, 0) else (0, judE c d)
set_option maxHeartbeats 1600000 in
theorem judge_any (c d : Int) (w : World) :
    Calls Tryz.prog 21 #[.int .u8 c, .int .u8 d] w fun e w' => e = .returned (.tuple #[.int .u8 (judQ c d).1, .int .i64 (judQ c d).2]) ∧ Below w.heap.size w w' := by
  obtain ⟨k, hk⟩ : ∃ k, (decide (c < 32) && decide (d < 32)) = k := ⟨_, rfl⟩
  have TL := hide (fun (W : World) (g1 : W.cell? ⟨w.heap.size, 0, none⟩ = some (.int .u8 c)) (g2 : W.cell? ⟨w.heap.size + 1, 0, none⟩ = some (.int .u8 d)) => (show Tells W 61 #[.pointer (some ⟨w.heap.size, 0, none⟩), .pointer (some ⟨w.heap.size + 1, 0, none⟩)] k from
    hk ▸ ⟨enters_any Tryz.func61 (by kernel_rfl) rfl _, fun V hV => judge1_any c d _ _ V (later hV g1) (later hV g2)⟩))
  obtain ⟨E, hE⟩ : ∃ E, judE c d = E := ⟨_, rfl⟩
  have FE := hide (fun (c : Array Value) => (show firstE [⟨2, 109, c, k⟩] = E by rw [← hE, judE, hk]; cases k <;> rfl))
  have HQ := hide (show judQ c d = if E = 0 then (judG c d, 0) else (0, E) by rw [judQ, hE])
  generalize judQ c d = Q at *
  clear hE hk
  go_enter Tryz.func21, Tryz.ntmps21
  go_wp2_with fail
  refine (unless_ex 2 61 #[.pointer (some ⟨w.heap.size, 0, none⟩), .pointer (some ⟨w.heap.size + 1, 0, none⟩)] k _ rfl (TL.out _ (by simp [go_sem, World.cell?_alloc_past]) (by simp [go_sem, World.cell?_alloc_past]))).mono ?_
  rintro e wB ⟨rfl, hB, hbB⟩
  (try simp at hB)
  have HB := hide hB
  have c1 := later (a := ⟨w.heap.size, 0, none⟩) (v := .int .u8 c) hbB (by simp [go_sem, World.cell?_alloc_past])
  have c2 := later (a := ⟨w.heap.size + 1, 0, none⟩) (v := .int .u8 d) hbB (by simp [go_sem, World.cell?_alloc_past])
  have BB := hide (show Below w.heap.size w wB from (by repeat (first | exact Below.refl _ _ | assumption | apply balloc | apply bdrew | (refine below_drewN ?_ _) | (refine bset ?_ (by first | (simp; done) | omega | (simp; omega)) _) | (refine bnext ?_ (by assumption)))))
  clear hB hbB
  go_wp2_with fail
  refine (firstError_is E [⟨2, 109, _, k⟩] _ _ _ (FE.out _) (by simp) (by simp) (cnds_one_at (by simp)) (tells_one (cnd_later HB.out (balloc (Below.refl _ _))))).mono ?_
  rintro e wC ⟨rfl, hbC⟩
  have d1 := later hbC (later (balloc (Below.refl _ _)) c1)
  have d2 := later hbC (later (balloc (Below.refl _ _)) c2)
  have BC := hide (show Below wB.heap.size wB wC from (by repeat (first | exact Below.refl _ _ | assumption | apply balloc | apply bdrew | (refine below_drewN ?_ _) | (refine bset ?_ (by first | (simp; done) | omega | (simp; omega)) _) | (refine bnext ?_ (by assumption)))))
  clear hbC c1 c2
  by_cases e0 : E = 0
  · subst e0
    have HG := hide (show Q = (judG c d, 0) from HQ.out)
    clear HQ
    by_cases b1 : (bits BinOp.andNot IntKind.u8 c d == 0) = true
    · have hq := hide (show Q = (1, 0) by rw [HG.out, judG, if_pos b1])
      go_wp2_with fail
      exact bodyPost_ret (v := .tuple #[.int .u8 1, .int .i64 0]) (by simp [results, Tryz.results21, go_sem]) rfl ⟨by rw [hq.out], bnext BB.out BC.out⟩
    · have b1' : (bits BinOp.andNot IntKind.u8 c d == 0) = false := by simpa using b1
      by_cases b2 : (bits BinOp.and IntKind.u8 c d == 0) = true
      · have hq := hide (show Q = (3, 0) by rw [HG.out, judG, if_neg b1, if_pos b2])
        clear b1
        go_wp2_with fail
        exact bodyPost_ret (v := .tuple #[.int .u8 3, .int .i64 0]) (by simp [results, Tryz.results21, go_sem]) rfl ⟨by rw [hq.out], bnext BB.out BC.out⟩
      · have b2' : (bits BinOp.and IntKind.u8 c d == 0) = false := by simpa using b2
        have hq := hide (show Q = (2, 0) by rw [HG.out, judG, if_neg b1, if_neg b2])
        clear b1 b2
        go_wp2_with fail
        exact bodyPost_ret (v := .tuple #[.int .u8 2, .int .i64 0]) (by simp [results, Tryz.results21, go_sem]) rfl ⟨by rw [hq.out], bnext BB.out BC.out⟩
  · have d : (E != 0) = true := by simpa using e0
    have hq := hide (show Q = (0, E) by rw [HQ.out, if_neg e0])
    clear e0 HQ
    go_wp2_with fail
    exact bodyPost_ret (v := .tuple #[.int .u8 0, .int .i64 E]) (by simp [results, Tryz.results21, go_sem]) rfl ⟨by rw [hq.out], bnext BB.out BC.out⟩
end Go.Proofs.YtimfbjnpalgmcaaGreat

namespace Go.Proofs.YtimfbjnpalgmcaaGreat
set_option linter.unusedSimpArgs false
set_option linter.unusedVariables false
open Go.RowKit

theorem zones1_any (zs : List (Int × Int)) (s : Int) (a : Option Addr) (cap : Nat) (p q : Addr) (w : World) (hl : zs.length ≤ 140737488351232) (h : IsPairs w a zs) (h1 : w.cell? p = some (.slice a zs.length cap)) (h2 : w.cell? q = some (.int .u8 s)) :
    Calls Tryz.prog 113 #[.pointer (some p), .pointer (some q)] w fun e w' => e = .returned (.bool (zs.all grOk && decide (s < 32))) ∧ Below w.heap.size w w' := by
  have AG := hide (areGradients_any a cap zs w hl h)
  clear h
  cases hu : zs.all grOk
  · rw [hu] at AG
    clear hu
    go_enter Tryz.func113, Tryz.ntmps113
    go_wp2_with fail
    refine AG.out.mono ?_
    rintro e w1 ⟨rfl, hb1⟩
    go_wp2_with fail
    go_ret
    exact ⟨rfl, hb1⟩
  · rw [hu] at AG
    clear hu
    go_enter Tryz.func113, Tryz.ntmps113
    go_wp2_with fail
    refine AG.out.mono ?_
    rintro e w1 ⟨rfl, hb1⟩
    have c2 := later hb1 h2
    go_wp2_with fail
    refine (isSet_any s _).mono ?_
    rintro e w1 ⟨rfl, rfl⟩
    go_wp2_with fail
    go_ret
    exact ⟨rfl, hb1⟩

/-- The error of zones. -/
def zonE (m : Mdl) (zs : List (Int × Int)) (s : Int) : Int := if mdlOk m then if decide ((zs.length : Int) ≤ 20) then if zs.all grOk && decide (s < 32) then 0 else 2 else 5 else 2
def ZonCond (m : Mdl) (zs : List (Int × Int)) (s : Int) (E : Int) (k1 k2 k3 : Bool) : Prop :=
  mdlOk m = k1 ∧ decide ((zs.length : Int) ≤ 20) = k2 ∧ (zs.all grOk && decide (s < 32)) = k3 ∧ ∀ c1 c2 c3, firstE [⟨2, 109, c1, k1⟩, ⟨5, 109, c2, k2⟩, ⟨2, 109, c3, k3⟩] = E
theorem zonCond_of (m : Mdl) (zs : List (Int × Int)) (s : Int) : ZonCond m zs s (zonE m zs s) (mdlOk m) (decide ((zs.length : Int) ≤ 20)) (zs.all grOk && decide (s < 32)) := by
  refine ⟨rfl, rfl, rfl, fun c1 c2 c3 => ?_⟩
  unfold zonE
  simp only [firstE]
set_option maxHeartbeats 6400000 in
theorem zones2_go (s' a0 b0 a1 b1 a2 b2 a3 b3 : Int) (zs : List (Int × Int)) (s E : Int) (k1 k2 k3 : Bool) (a : Option Addr) (cap qm qz qs : Nat) (w : World) (hc : Hid (ZonCond ⟨s', a0, b0, a1, b1, a2, b2, a3, b3⟩ zs s E k1 k2 k3)) (hl : zs.length ≤ 140737488351232) (h : Hid (IsPairs w a zs)) (h0 : MdlAt w qm ⟨s', a0, b0, a1, b1, a2, b2, a3, b3⟩) (h1 : w.cell? ⟨qz, 0, none⟩ = some (.slice a zs.length cap)) (h2 : w.cell? ⟨qs, 0, none⟩ = some (.int .u8 s)) :
    Calls Tryz.prog 112 #[.pointer (some ⟨qm, 0, none⟩), .pointer (some ⟨qz, 0, none⟩), .pointer (some ⟨qs, 0, none⟩)] w fun e w' => e = .returned (.int .i64 E) ∧ Below w.heap.size w w' := by
  have VM := hide (fun (W : World) => (show Calls Tryz.prog 51 #[.agg #[.int .i64 s', .int .i64 a0, .int .i64 b0, .int .i64 a1, .int .i64 b1, .int .i64 a2, .int .i64 b2, .int .i64 a3, .int .i64 b3]] W fun e w' => e = .returned (.func (.func 109) #[] #[.pointer (some ⟨W.heap.size + 1 + 1, 0, none⟩), .pointer (some ⟨W.heap.size + 1, 0, none⟩)]) ∧
      CndTells w' ⟨2, 109, #[.pointer (some ⟨W.heap.size + 1 + 1, 0, none⟩), .pointer (some ⟨W.heap.size + 1, 0, none⟩)], k1⟩ ∧ Below W.heap.size W w' from validModel_ex ⟨s', a0, b0, a1, b1, a2, b2, a3, b3⟩ k1 W hc.out.1))
  have TL := hide (fun (W : World) (hb : Below w.heap.size w W) => (show Tells W 113 #[.pointer (some ⟨qz, 0, none⟩), .pointer (some ⟨qs, 0, none⟩)] k3 from
    hc.out.2.2.1 ▸ ⟨enters_any Tryz.func113 (by kernel_rfl) rfl _, fun V hV => zones1_any zs s a cap _ _ V hl (pairs_later h.out (bnext hb hV)) (later (bnext hb hV) h1) (later (bnext hb hV) h2)⟩))
  have ⟨⟨⟨⟨m1, m2⟩, m3⟩, m4, m5⟩, ⟨m6, m7⟩, m8, m9⟩ := h0
  simp only at m1 m2 m3 m4 m5 m6 m7 m8 m9
  clear h0
  go_enter Tryz.func112, Tryz.ntmps112
  go_upto_region 1 with fail
  go_cut [3] from 4 (fun s2 wx => s2 = .int .i64 E ∧ Below w.heap.size w wx)
  case first =>
    go_region_held3 (fun w' => w'.cell? ⟨qm, 0, none⟩ = some (.int .i64 s') ∧ w'.cell? ⟨qm, 1, none⟩ = some (.int .i64 a0) ∧ w'.cell? ⟨qm, 2, none⟩ = some (.int .i64 b0) ∧ w'.cell? ⟨qm, 3, none⟩ = some (.int .i64 a1) ∧ w'.cell? ⟨qm, 4, none⟩ = some (.int .i64 b1) ∧ w'.cell? ⟨qm, 5, none⟩ = some (.int .i64 a2) ∧ w'.cell? ⟨qm, 6, none⟩ = some (.int .i64 b2) ∧ w'.cell? ⟨qm, 7, none⟩ = some (.int .i64 a3) ∧ w'.cell? ⟨qm, 8, none⟩ = some (.int .i64 b3) ∧ w'.cell? ⟨qz, 0, none⟩ = some (.slice a zs.length cap) ∧ Below w.heap.size w w')
      (first | (exact ⟨m1, m2, m3, m4, m5, m6, m7, m8, m9, h1, bdrew (Below.refl _ _)⟩) | (go_split_ands; first | (exact ⟨later hbD (by assumption), later hbD (by assumption), later hbD (by assumption), later hbD (by assumption), later hbD (by assumption), later hbD (by assumption), later hbD (by assumption), later hbD (by assumption), later hbD (by assumption), later hbD (by assumption), bnext (by assumption) hbD⟩) | (exact ⟨later hbA (by assumption), later hbA (by assumption), later hbA (by assumption), later hbA (by assumption), later hbA (by assumption), later hbA (by assumption), later hbA (by assumption), later hbA (by assumption), later hbA (by assumption), later hbA (by assumption), bnext (by assumption) hbA⟩) | (exact ⟨later hbB (by assumption), later hbB (by assumption), later hbB (by assumption), later hbB (by assumption), later hbB (by assumption), later hbB (by assumption), later hbB (by assumption), later hbB (by assumption), later hbB (by assumption), later hbB (by assumption), bnext (by assumption) hbB⟩) | (exact ⟨later hbC (by assumption), later hbC (by assumption), later hbC (by assumption), later hbC (by assumption), later hbC (by assumption), later hbC (by assumption), later hbC (by assumption), later hbC (by assumption), later hbC (by assumption), later hbC (by assumption), bnext (by assumption) hbC⟩)) | (go_split_ands; exact ⟨later (balloc (Below.refl _ _)) (by assumption), later (balloc (Below.refl _ _)) (by assumption), later (balloc (Below.refl _ _)) (by assumption), later (balloc (Below.refl _ _)) (by assumption), later (balloc (Below.refl _ _)) (by assumption), later (balloc (Below.refl _ _)) (by assumption), later (balloc (Below.refl _ _)) (by assumption), later (balloc (Below.refl _ _)) (by assumption), later (balloc (Below.refl _ _)) (by assumption), later (balloc (Below.refl _ _)) (by assumption), balloc (by assumption)⟩) | go_keep)
      (first
        | (go_at_call 70; refine (atMost_ex k2 _ _ _ hc.out.2.1).mono ?_; rintro e wA ⟨rfl, hA, hbA⟩; (try simp at hA))
        | (go_at_call 51; refine (VM.out _).mono ?_; rintro e wB ⟨rfl, hB, hbB⟩; (try simp at hB))
        | (go_at_call 52; refine (unless_ex 2 _ _ k3 _ rfl (TL.out _ (by go_split_ands; assumption))).mono ?_; rintro e wC ⟨rfl, hC, hbC⟩; (try simp at hC))
        | (go_at_call 50; go_loud (refine (firstError_is E [⟨2, 109, _, k1⟩, ⟨5, 109, _, k2⟩, ⟨2, 109, _, k3⟩] _ _ _ (hc.out.2.2.2 _ _ _) (by simp) (by simp) (cnds_three_at (by simp)) (tells_three (cnd_later hB (by repeat (first | exact Below.refl _ _ | assumption | apply balloc | apply bdrew | (refine bnext ?_ (by assumption))))) (fun _ => cnd_later hA (by repeat (first | exact Below.refl _ _ | assumption | apply balloc | apply bdrew | (refine bnext ?_ (by assumption))))) (fun _ _ => cnd_later hC (by repeat (first | exact Below.refl _ _ | assumption | apply balloc | apply bdrew | (refine bnext ?_ (by assumption))))))).mono ?_); rintro e wD ⟨rfl, hbD⟩))
    all_goals (go_wp2_with fail; go_meet; exact ⟨rfl, by go_split_ands; assumption⟩)
  case rest =>
    obtain ⟨rfl, hbw⟩ := hcut
    go_wp2
    go_ret
    exact ⟨rfl, hbw⟩
theorem validZones_ex (m : Mdl) (zs : List (Int × Int)) (s : Int) (a : Option Addr) (cap : Nat) (w : World) (hl : zs.length ≤ 140737488351232) (h : IsPairs w a zs) :
    Calls Tryz.prog 63 #[mdlV m, .slice a zs.length cap, .int .u8 s] w fun e w' => e = .returned (.func (.func 112) #[] #[.pointer (some ⟨w.heap.size, 0, none⟩), .pointer (some ⟨w.heap.size + 1, 0, none⟩), .pointer (some ⟨w.heap.size + 1 + 1, 0, none⟩)]) ∧
      CndTells w' ⟨zonE m zs s, 112, #[.pointer (some ⟨w.heap.size, 0, none⟩), .pointer (some ⟨w.heap.size + 1, 0, none⟩), .pointer (some ⟨w.heap.size + 1 + 1, 0, none⟩)], zonE m zs s == 0⟩ ∧ Below w.heap.size w w' := by
  have key : ∀ w', Below w.heap.size w w' → MdlAt w' w.heap.size m → w'.cell? ⟨w.heap.size + 1, 0, none⟩ = some (.slice a zs.length cap) → w'.cell? ⟨w.heap.size + 1 + 1, 0, none⟩ = some (.int .u8 s) → CndTells w' ⟨zonE m zs s, 112, #[.pointer (some ⟨w.heap.size, 0, none⟩), .pointer (some ⟨w.heap.size + 1, 0, none⟩), .pointer (some ⟨w.heap.size + 1 + 1, 0, none⟩)], zonE m zs s == 0⟩ := fun w' hb hr h1 h2 =>
    ⟨enters_any Tryz.func112 (by kernel_rfl) rfl _, fun h0 => h0, fun W hW => by
      have e : Cnd.val ⟨zonE m zs s, 112, #[.pointer (some ⟨w.heap.size, 0, none⟩), .pointer (some ⟨w.heap.size + 1, 0, none⟩), .pointer (some ⟨w.heap.size + 1 + 1, 0, none⟩)], zonE m zs s == 0⟩ = zonE m zs s := by
        unfold Cnd.val
        simp only
        split
        · rename_i h1; exact (eq_of_beq h1).symm
        · rfl
      rw [e]
      obtain ⟨s', a0, b0, a1, b1, a2, b2, a3, b3⟩ := m
      exact zones2_go s' a0 b0 a1 b1 a2 b2 a3 b3 zs s _ _ _ _ a cap _ _ _ W (zonCond_of _ zs s) hl (pairs_later h (bnext hb hW)) (mdlAt_later hr hW) (later hW h1) (later hW h2)⟩
  have HK := hide key
  clear key
  have RA := hide (mdlAt_new w m 26)
  obtain ⟨s', a0, b0, a1, b1, a2, b2, a3, b3⟩ := m
  show Calls Tryz.prog 63 #[.agg #[.int .i64 s', .int .i64 a0, .int .i64 b0, .int .i64 a1, .int .i64 b1, .int .i64 a2, .int .i64 b2, .int .i64 a3, .int .i64 b3], .slice a zs.length cap, .int .u8 s] w _
  go_enter Tryz.func63, Tryz.ntmps63
  go_wp2_with fail
  exact bodyPost_ret (v := .func (.func 112) #[] #[.pointer (some ⟨w.heap.size, 0, none⟩), .pointer (some ⟨w.heap.size + 1, 0, none⟩), .pointer (some ⟨w.heap.size + 1 + 1, 0, none⟩)]) (by simp [results, Tryz.results63, go_sem]) rfl ⟨rfl, HK.out _ (by repeat (first | exact Below.refl _ _ | assumption | apply balloc | apply bdrew | (refine below_drewN ?_ _) | (refine bset ?_ (by first | (simp; done) | omega | (simp; omega)) _) | (refine bnext ?_ (by assumption)))) (mdlAt_later RA.out (by repeat (first | exact Below.refl _ _ | assumption | apply balloc | apply bdrew | (refine below_drewN ?_ _) | (refine bset ?_ (by first | (simp; done) | omega | (simp; omega)) _) | (refine bnext ?_ (by assumption))))) (by simp [go_sem, World.cell?_alloc_past]) (by simp [go_sem, World.cell?_alloc_past]), (by repeat (first | exact Below.refl _ _ | assumption | apply balloc | apply bdrew | (refine below_drewN ?_ _) | (refine bset ?_ (by first | (simp; done) | omega | (simp; omega)) _) | (refine bnext ?_ (by assumption))))⟩

/-! ### TrailingZeros8 -/
def tzQ (x : Nat) : Int := if x % 2 = 1 then 0 else if x % 4 = 2 then 1 else if x % 8 = 4 then 2 else if x % 16 = 8 then 3 else if x % 32 = 16 then 4 else 8
set_option maxHeartbeats 6400000 in
set_option maxRecDepth 100000 in
theorem tz8_any (x : Nat) (hx : x < 32) (w : World) :
    Calls Tryz.prog 67 #[.int .u8 (x : Int)] w fun e w' => e = .returned (.int .i64 (tzQ x)) ∧ w = w' := by
  rcases (show x = 0 ∨ x = 1 ∨ x = 2 ∨ x = 3 ∨ x = 4 ∨ x = 5 ∨ x = 6 ∨ x = 7 ∨ x = 8 ∨ x = 9 ∨ x = 10 ∨ x = 11 ∨ x = 12 ∨ x = 13 ∨ x = 14 ∨ x = 15 ∨ x = 16 ∨ x = 17 ∨ x = 18 ∨ x = 19 ∨ x = 20 ∨ x = 21 ∨ x = 22 ∨ x = 23 ∨ x = 24 ∨ x = 25 ∨ x = 26 ∨ x = 27 ∨ x = 28 ∨ x = 29 ∨ x = 30 ∨ x = 31 by omega) with rfl | rfl | rfl | rfl | rfl | rfl | rfl | rfl | rfl | rfl | rfl | rfl | rfl | rfl | rfl | rfl | rfl | rfl | rfl | rfl | rfl | rfl | rfl | rfl | rfl | rfl | rfl | rfl | rfl | rfl | rfl | rfl
  all_goals
    go_enter Tryz.func67, Tryz.ntmps67
    go_wp2_with fail
    go_ret
    exact ⟨by kernel_rfl, rfl⟩
end Go.Proofs.YtimfbjnpalgmcaaGreat

namespace Go.Proofs.YtimfbjnpalgmcaaGreat
set_option linter.unusedSimpArgs false
set_option linter.unusedVariables false
open Go.RowKit

/-- What is unwanted of a zone at a rate. -/
def badQ (m : Mdl) (s rate : Int) (z : Int × Int) : Int := bits BinOp.andNot IntKind.u8 ((regN m (rate, rate) z : Nat) : Int) s
/-- The first zone from the i-th on with something unwanted, and the region. -/
def whyF (f : Int × Int → Int) : List (Int × Int) → Nat → Int × Int
  | [], _ => (-1, 0)
  | z :: zs, i => if f z != 0 then ((i : Int), tzQ (f z).toNat) else whyF f zs (i + 1)
def whyE (m : Mdl) (zs : List (Int × Int)) (s rate : Int) : Int := if zonE m zs s == 0 then if rgOk 1000000 (rate, rate) then 0 else 3 else zonE m zs s
def whyQ (m : Mdl) (zs : List (Int × Int)) (s rate : Int) : Int × Int × Int := if whyE m zs s rate = 0 then ((whyF (badQ m s rate) zs 0).1, (whyF (badQ m s rate) zs 0).2, 0) else (0, 0, whyE m zs s rate)
theorem whyF_drop (f : Int × Int → Int) (zs : List (Int × Int)) : ∀ k, (∀ j, j < k → j < zs.length → (f (zs.getD j (0, 0)) != 0) = false) → whyF f zs 0 = whyF f (zs.drop k) k := by
  intro k
  induction k with
  | zero => intro _; rfl
  | succ k ih =>
    intro h
    rw [ih (fun j hj => h j (by omega))]
    by_cases hk : k < zs.length
    · have e : zs.drop k = zs.getD k (0, 0) :: zs.drop (k + 1) := by
        rw [List.drop_eq_getElem_cons hk]; simp [hk]
      rw [e, whyF, h k (by omega) hk]
      rfl
    · rw [List.drop_of_length_le (by omega), List.drop_of_length_le (by omega)]; rfl
theorem andNot_far : ∀ a b : Fin 32, 0 ≤ bits BinOp.andNot IntKind.u8 (a.val : Int) (b.val : Int) ∧ bits BinOp.andNot IntKind.u8 (a.val : Int) (b.val : Int) < 32 := by decide +kernel
theorem andNot_lt {a : Nat} {b : Int} (ha : a < 32) (b0 : 0 ≤ b) (b1 : b < 32) : ∃ x : Nat, x < 32 ∧ bits BinOp.andNot IntKind.u8 (a : Int) b = (x : Int) := by
  obtain ⟨n, rfl⟩ := Int.eq_ofNat_of_zero_le b0
  have h := andNot_far ⟨a, ha⟩ ⟨n, by omega⟩
  simp only at h
  exact ⟨(bits BinOp.andNot IntKind.u8 (a : Int) (n : Int)).toNat, by omega, by omega⟩

theorem why1_any (x y : Int) (p : Nat) (w : World) (h1 : RgAt w p x y) :
    Calls Tryz.prog 66 #[.pointer (some ⟨p, 0, none⟩)] w fun e w' => e = .returned (.bool (rgOk 1000000 (x, y))) ∧ Below w.heap.size w w' := by
  have ⟨c1, c2⟩ := h1
  have IR := hide (fun W => isRate_any x y W)
  clear h1
  go_enter Tryz.func66, Tryz.ntmps66
  go_wp2_with fail
  refine (IR.out _).mono ?_
  rintro e w1 ⟨rfl, hb1⟩
  go_wp2_with fail
  go_ret
  exact ⟨rfl, hb1⟩

set_option maxRecDepth 100000 in
set_option maxHeartbeats 6400000 in
theorem why_any (m : Mdl) (zs : List (Int × Int)) (s rate : Int) (a : Option Addr) (cap : Nat) (w : World) (hl : zs.length ≤ 140737488351232) (s0 : 0 ≤ s) (h : IsPairs w a zs) :
    Calls Tryz.prog 25 #[mdlV m, .slice a zs.length cap, .int .u8 s, .int .i64 rate] w fun e w' => e = .returned (.tuple #[.int .i64 (whyQ m zs s rate).1, .int .i64 (whyQ m zs s rate).2.1, .int .i64 (whyQ m zs s rate).2.2]) ∧ Below w.heap.size w w' := by
  have HI := hide h
  have VZ := hide (fun W (g : IsPairs W a zs) => validZones_ex m zs s a cap W hl g)
  have TL := hide (fun (W : World) (q : Nat) (g1 : RgAt W q rate rate) => (show Tells W 66 #[.pointer (some ⟨q, 0, none⟩)] (rgOk 1000000 (rate, rate)) from
    ⟨enters_any Tryz.func66 (by kernel_rfl) rfl _, fun V hV => why1_any rate rate q V (rgAt_later g1 hV)⟩))
  have FE := hide (fun c1 c2 => (show firstE [⟨zonE m zs s, 112, c1, zonE m zs s == 0⟩, ⟨3, 109, c2, rgOk 1000000 (rate, rate)⟩] = whyE m zs s rate by unfold whyE; simp only [firstE]))
  have OK := hide (show whyE m zs s rate = 0 → mdlOk m = true ∧ (zs.all grOk = true ∧ s < 32) ∧ rgOk 1000000 (rate, rate) = true by
    unfold whyE zonE
    cases mdlOk m <;> cases decide ((zs.length : Int) ≤ 20) <;> cases hk : (zs.all grOk && decide (s < 32)) <;> cases rgOk 1000000 (rate, rate) <;> simp
    simp at hk
    simpa using hk)
  have RG := hide (fun (W : World) (z : Int × Int) (h1 : mdlOk m = true) (h2 : rgOk 1000000 (rate, rate) = true) (h3 : grOk z = true) => (show Calls Tryz.prog 56 #[mdlV m, .agg #[.int .i64 rate, .int .i64 rate], .agg #[.int .i64 z.1, .int .i64 z.2]] W fun e w' => e = .returned (.int .u8 ((regN m (rate, rate) z : Nat) : Int)) ∧ Below W.heap.size W w' from regions_any m (rate, rate) z W h1 h2 h3))
  have HQ := hide (show whyQ m zs s rate = if whyE m zs s rate = 0 then ((whyF (badQ m s rate) zs 0).1, (whyF (badQ m s rate) zs 0).2, 0) else (0, 0, whyE m zs s rate) from rfl)
  have HB := hide (fun z => (show badQ m s rate z = bits BinOp.andNot IntKind.u8 ((regN m (rate, rate) z : Nat) : Int) s from rfl))
  have S0 := hide s0
  have RL := hide (fun z => (show regN m (rate, rate) z < 32 from setN_lt _ 5))
  have MN := hide (mdlAt_new w m 26)
  generalize whyQ m zs s rate = Q at *
  generalize whyE m zs s rate = E at *
  generalize zonE m zs s = Z at *
  generalize rgOk 1000000 (rate, rate) = kr at *
  generalize badQ m s rate = bad at *
  generalize mdlOk m = km at *
  generalize regN m (rate, rate) = R at *
  clear h s0
  obtain ⟨s', a0, b0, a1, b1, a2, b2, a3, b3⟩ := m
  unfold mdlV at *
  simp only at VZ RG ⊢
  go_enter Tryz.func25, Tryz.ntmps25
  go_wp2_with fail
  refine (VZ.out _ (pairs_later HI.out (by repeat (first | exact Below.refl _ _ | assumption | apply balloc | apply bdrew | (refine below_drewN ?_ _) | (refine bset ?_ (by first | (simp; done) | omega | (simp; omega)) _) | (refine bnext ?_ (by assumption)))))).mono ?_
  rintro e wA ⟨rfl, hA, hbA⟩
  (try simp at hA)
  have HA := hide hA
  have X1 := hide (rgAt_later (q := w.heap.size + 1) (x := rate) (y := rate) ⟨(by simp [go_sem, World.cell?_alloc_past]), (by simp [go_sem, World.cell?_alloc_past])⟩ hbA)
  have M1 := hide (mdlAt_later MN.out (show Below (w.alloc (.cells #[.int .i64 s', .int .i64 a0, .int .i64 b0, .int .i64 a1, .int .i64 b1, .int .i64 a2, .int .i64 b2, .int .i64 a3, .int .i64 b3] 26)).heap.size _ wA from (by repeat (first | exact Below.refl _ _ | assumption | apply balloc | apply bdrew | (refine below_drewN ?_ _) | (refine bset ?_ (by first | (simp; done) | omega | (simp; omega)) _) | (refine bnext ?_ (by assumption))))))
  have BA := hide (show Below w.heap.size w wA from (by repeat (first | exact Below.refl _ _ | assumption | apply balloc | apply bdrew | (refine below_drewN ?_ _) | (refine bset ?_ (by first | (simp; done) | omega | (simp; omega)) _) | (refine bnext ?_ (by assumption)))))
  clear hA hbA MN VZ
  go_wp2_with fail
  refine (unless_ex 3 66 #[.pointer (some ⟨w.heap.size + 1, 0, none⟩)] kr wA rfl (TL.out wA _ X1.out)).mono ?_
  rintro e wB ⟨rfl, hB, hbB⟩
  (try simp at hB)
  have HBB := hide hB
  clear hB
  go_wp2_with fail
  refine (firstError_is E [⟨Z, 112, _, Z == 0⟩, ⟨3, 109, _, kr⟩] _ _ _ (FE.out _ _) (by simp) (by simp) (cnds_two_at (by simp)) (tells_two (cnd_later HA.out (show Below wA.heap.size wA _ from balloc hbB)) (fun _ => cnd_later HBB.out (balloc (Below.refl _ _))))).mono ?_
  rintro e wC ⟨rfl, hbC⟩
  have BC := hide (show Below wA.heap.size wA wC from (by repeat (first | exact Below.refl _ _ | assumption | apply balloc | apply bdrew | (refine below_drewN ?_ _) | (refine bset ?_ (by first | (simp; done) | omega | (simp; omega)) _) | (refine bnext ?_ (by assumption)))))
  clear hbB hbC HA HBB
  by_cases e0 : E = 0
  · obtain ⟨o1, ⟨o2, o3⟩, o4⟩ := OK.out e0
    subst e0
    have HG := hide (show Q = ((whyF bad zs 0).1, (whyF bad zs 0).2, 0) from HQ.out)
    have O1 := hide o1
    have O2 := hide o2
    have O3 := hide o3
    have O4 := hide o4
    clear o1 o2 o3 o4 HQ OK FE
    go_wp2_with fail
    go_loopw [31] (fun i wr => ∃ k : Nat, k ≤ zs.length ∧ i = .int .i64 (k : Int) ∧ Hid (∀ j, j < k → j < zs.length → (bad (zs.getD j (0, 0)) != 0) = false) ∧ Below wC.heap.size wC wr) (fun i _ => zs.length - (intOf i).toNat)
    case atStart => exact ⟨0, by omega, rfl, hide (fun j hj => by omega), Below.refl _ _⟩
    case round =>
      obtain ⟨k, hk, rfl, hall, hbw⟩ := hrel
      by_cases hlt : k < zs.length
      · obtain ⟨b, off, rfl, hc⟩ : ∃ b off, a = some ⟨b, off, none⟩ ∧ ∀ i, i < zs.length → wr.cell? ⟨b, off + i * 2, none⟩ = some (.int .i64 (zs.getD i (0, 0)).1) ∧ wr.cell? ⟨b, off + i * 2 + 1, none⟩ = some (.int .i64 (zs.getD i (0, 0)).2) := by
          rcases pairs_later HI.out (bnext (bnext BA.out BC.out) hbw) with h | h
          · subst h; simp at hlt
          · exact h
        obtain ⟨c1, c2⟩ := hc k hlt
        clear hc
        have gz : grOk (zs.getD k (0, 0)) = true := List.all_eq_true.1 O2.out _ (by simp [hlt])
        have WD := hide (whyF_drop bad zs k hall.out)
        have W1 := hide (show whyF bad (zs.drop k) k = if bad (zs.getD k (0, 0)) != 0 then ((k : Int), tzQ (bad (zs.getD k (0, 0))).toNat) else whyF bad (zs.drop (k + 1)) (k + 1) by
          rw [show zs.drop k = zs.getD k (0, 0) :: zs.drop (k + 1) by rw [List.drop_eq_getElem_cons hlt]; simp [hlt]]; rfl)
        have S1 := hide (fun (h0 : (bad (zs.getD k (0, 0)) != 0) = false) => (show ∀ j, j < k + 1 → j < zs.length → (bad (zs.getD j (0, 0)) != 0) = false from fun j hj hz => by
          by_cases e : j = k
          · rw [e]; exact h0
          · exact hall.out j (by omega) hz))
        have RZ := hide (fun W => RG.out W (zs.getD k (0, 0)) O1.out O4.out gz)
        obtain ⟨x, hx, ex⟩ := andNot_lt (RL.out (zs.getD k (0, 0))) S0.out O3.out
        have EB := hide (show bad (zs.getD k (0, 0)) = (x : Int) by rw [HB.out, ex])
        have EX := hide ex
        clear ex gz hall
        generalize bad (zs.getD k (0, 0)) = bk at *
        generalize zs.getD k (0, 0) = z at *
        generalize R z = Rz at *
        obtain ⟨z1, z2⟩ := z
        simp only at c1 c2 RZ
        have k0 : 0 ≤ (k : Int) := by omega
        have k1 : (k : Int) < zs.length := by omega
        go_upto_region 8 with fail
        obtain ⟨w3, hw3⟩ : ∃ x, x = wr.alloc (.cells #[.int .i64 z1, .int .i64 z2] 23) := ⟨_, rfl⟩
        rw [← hw3]
        have B3 := hide (show Below wC.heap.size wC w3 by rw [hw3]; exact balloc hbw)
        have L3 : w3.cell? ⟨wr.heap.size, 0, none⟩ = some (.int .i64 z1) := by rw [hw3]; exact (by simp [go_sem, World.cell?_alloc_past])
        have H3 : w3.cell? ⟨wr.heap.size, 1, none⟩ = some (.int .i64 z2) := by rw [hw3]; exact (by simp [go_sem, World.cell?_alloc_past])
        clear hw3 hbw c1 c2
        have ⟨⟨⟨⟨m1, m2⟩, m3⟩, m4, m5⟩, ⟨m6, m7⟩, m8, m9⟩ := mdlAt_later M1.out (bnext BC.out B3.out)
        have ⟨x1, x2⟩ := rgAt_later X1.out (bnext BC.out B3.out)
        simp only at m1 m2 m3 m4 m5 m6 m7 m8 m9
        go_wp2_with fail
        refine (RZ.out _).mono ?_
        rintro e w5 ⟨rfl, hb5⟩
        have B5 := hide (bnext B3.out hb5)
        clear m1 m2 m3 m4 m5 m6 m7 m8 m9 x1 x2 L3 H3 hb5 B3
        have ex := EX.out
        by_cases hz : x = 0
        · subst hz
          have S2 := hide (S1.out (by rw [EB.out]; rfl))
          clear S1
          have dz : (((0 : Nat) : Int) != 0) = false := rfl
          go_wp2_with fail
          go_roundw
          case rel => exact ⟨k + 1, by omega, by go_num, S2, B5.out⟩
          case measure => simp [intOf]; omega
        · have dz : ((x : Int) != 0) = true := by simpa using hz
          have hq := hide (show Q = ((k : Int), tzQ x, 0) by rw [HG.out, WD.out, W1.out, EB.out, dz]; rfl)
          clear hz S1
          go_wp2_with fail
          refine (tz8_any x hx _).mono ?_
          rintro e w6 ⟨rfl, rfl⟩
          go_wp2_with fail
          exact bodyPost_ret (v := .tuple #[.int .i64 (k : Int), .int .i64 (tzQ x), .int .i64 0]) (by simp [results, Tryz.results25, go_sem]) rfl ⟨by rw [hq.out], bnext (bnext BA.out BC.out) B5.out⟩
      · have hq := hide (show Q = (-1, 0, 0) by rw [HG.out, whyF_drop bad zs k hall.out, List.drop_of_length_le (by omega)]; rfl)
        go_wp2_with fail
        exact bodyPost_ret (v := .tuple #[.int .i64 (-1), .int .i64 0, .int .i64 0]) (by simp [results, Tryz.results25, go_sem]) rfl ⟨by rw [hq.out], bnext (bnext BA.out BC.out) hbw⟩
  · have d : (E != 0) = true := by simpa using e0
    have hq := hide (show Q = (0, 0, E) by rw [HQ.out, if_neg e0])
    clear e0 HQ OK
    go_wp2_with fail
    exact bodyPost_ret (v := .tuple #[.int .i64 0, .int .i64 0, .int .i64 E]) (by simp [results, Tryz.results25, go_sem]) rfl ⟨by rw [hq.out], bnext BA.out BC.out⟩
end Go.Proofs.YtimfbjnpalgmcaaGreat
