/-
  defect: the first rate that is above a border. defect: the rates at which a zone can be in a region that is not wanted.
-/
import Derived.Test.YtlpdbjkpgfpjjaaGreatDgW
import Derived.Test.YtlpdbjkpgfpjjaaGreatDiv
import Derived.Test.YtlpdbjkpgfpjjaaGreatDfJ
import Derived.Test.YtlpdbjkpgfpjjaaGreatWh
namespace Go.Proofs.YtlpdbjkpgfpjjaaGreat
set_option linter.unusedSimpArgs false
set_option linter.unusedVariables false
open Go.RowKit

/-- The first rate above a border at a gradient, or the one after the last rate. -/
def firQ (m : Mdl) (b g : Int) : Int := min (max 0 (b * g / m.s + 1)) 1000001
theorem firQ_far (m : Mdl) (b g : Int) : 0 ≤ firQ m b g ∧ firQ m b g ≤ 1000001 := by unfold firQ; omega
theorem firQ_abv {m : Mdl} (hm : 1 ≤ m.s) {b g v : Int} (v0 : 0 ≤ v) (v1 : v ≤ 1000000) : abv m v b g = decide (firQ m b g ≤ v) := by
  unfold abv firQ
  have h : b * g < v * m.s ↔ b * g / m.s < v := (Int.ediv_lt_iff_lt_mul (by omega)).symm
  rw [decide_eq_decide, h]
  omega
set_option maxHeartbeats 1600000 in
theorem search_go (T : Int) (F : Nat) (c1 c2 c3 : Value) (w : World) (t0 : 0 ≤ T) (t1 : T ≤ 1000001) (en : ∀ (caps : Array Value) (W : World), (callFunc F caps).run Tryz.prog W = .ok (.enter F caps) W)
    (HF : Hid (∀ v W, 0 ≤ v → v ≤ 1000000 → Below w.heap.size w W → Calls Tryz.prog F #[.int .i64 v, c1, c2, c3] W fun e w' => e = .returned (.bool (decide (T ≤ v))) ∧ Below W.heap.size W w')) :
    Calls Tryz.prog 140 #[.int .i64 1000001, .func (.func F) #[] #[c1, c2, c3]] w fun e w' => e = .returned (.int .i64 T) ∧ Below w.heap.size w w' := by
  go_enter Tryz.func140, Tryz.ntmps140
  go_wp2_with fail
  go_loopw [5, 6] (fun i j wr => ∃ a b : Int, i = .int .i64 a ∧ j = .int .i64 b ∧ ((0 ≤ a ∧ a ≤ T) ∧ (T ≤ b ∧ b ≤ 1000001)) ∧ Below w.heap.size w wr) (fun i j _ => (intOf j - intOf i).toNat)
  case atStart => exact ⟨0, 1000001, rfl, rfl, by omega, Below.refl _ _⟩
  case round =>
    obtain ⟨a, b, rfl, rfl, ⟨⟨a0, a1⟩, b0, b1⟩, hb⟩ := hrel
    by_cases hlt : a < b
    · go_wp2_with fail
      obtain ⟨M, hM⟩ : ∃ M, (a + b) / 2 = M := ⟨_, rfl⟩
      rw [hM]
      have mb : a ≤ M ∧ M < b := by omega
      refine (HF.out M wr (by omega) (by omega) hb).mono ?_
      rintro e w1 ⟨rfl, hb1⟩
      have B1 := hide (bnext hb hb1)
      have HM := hide hM
      clear hb hb1 hM
      by_cases hc : T ≤ M
      · have d : decide (T ≤ M) = true := decide_eq_true hc
        rw [d]
        go_wp2_with fail
        go_roundw
        case rel => exact ⟨a, M, rfl, rfl, by omega, B1.out⟩
        case measure => have := HM.out; simp [intOf]; omega
      · have d : decide (T ≤ M) = false := decide_eq_false hc
        rw [d]
        go_wp2_with fail
        go_roundw
        case rel => exact ⟨M + 1, b, rfl, rfl, by omega, B1.out⟩
        case measure => have := HM.out; simp [intOf]; omega
    · go_wp2_with fail
      go_ret
      exact ⟨ret_eq1 (by omega), hb⟩
theorem firstAbove1_any (m : Mdl) (b g v : Int) (q r u : Nat) (w : World) (hm : MdlOk m) (v0 : 0 ≤ v) (v1 : v ≤ 1000000) (b0 : -1 ≤ b) (b1 : b ≤ 1000000000000) (g0 : 0 ≤ g) (g1 : g ≤ 1000000) (hq : MdlAt w q m) (hr : w.cell? ⟨r, 0, none⟩ = some (.int .i64 b)) (hu : w.cell? ⟨u, 0, none⟩ = some (.int .i64 g)) :
    Calls Tryz.prog 141 #[.int .i64 v, .pointer (some ⟨q, 0, none⟩), .pointer (some ⟨r, 0, none⟩), .pointer (some ⟨u, 0, none⟩)] w fun e w' => e = .returned (.bool (abv m v b g)) ∧ Below w.heap.size w w' := by
  have AB := hide (above_any m v b g w hm v0 v1 b0 b1 g0 g1)
  generalize abv m v b g = k at *
  obtain ⟨s, a0, b0, a1, b1, a2, b2, a3, b3⟩ := m
  have ⟨⟨⟨⟨m1, m2⟩, m3⟩, m4, m5⟩, ⟨m6, m7⟩, m8, m9⟩ := hq
  unfold mdlV at AB
  simp only at m1 m2 m3 m4 m5 m6 m7 m8 m9 AB
  clear hq hm
  go_enter Tryz.func141, Tryz.ntmps141
  go_wp2_with fail
  refine AB.out.mono ?_
  rintro e w1 ⟨rfl, hb1⟩
  go_wp2_with fail
  go_ret
  exact ⟨rfl, hb1⟩
theorem firstAbove_any (m : Mdl) (b g : Int) (w : World) (hm : MdlOk m) (b0 : -1 ≤ b) (b1 : b ≤ 1000000000000) (g0 : 0 ≤ g) (g1 : g ≤ 1000000) :
    Calls Tryz.prog 114 #[mdlV m, .int .i64 b, .int .i64 g] w fun e w' => e = .returned (.int .i64 (firQ m b g)) ∧ Below w.heap.size w w' := by
  have F1 := hide (fun v W (v0 : 0 ≤ v) (v1 : v ≤ 1000000) (hq : MdlAt W w.heap.size m) (hr : W.cell? ⟨w.heap.size + 1, 0, none⟩ = some (.int .i64 b)) (hu : W.cell? ⟨w.heap.size + 1 + 1, 0, none⟩ = some (.int .i64 g)) => (show Calls Tryz.prog 141 #[.int .i64 v, .pointer (some ⟨w.heap.size, 0, none⟩), .pointer (some ⟨w.heap.size + 1, 0, none⟩), .pointer (some ⟨w.heap.size + 1 + 1, 0, none⟩)] W fun e w' => e = .returned (.bool (decide (firQ m b g ≤ v))) ∧ Below W.heap.size W w' by
    rw [← firQ_abv hm.s1 v0 v1]; exact firstAbove1_any m b g v _ _ _ W hm v0 v1 b0 b1 g0 g1 hq hr hu))
  have en : ∀ (caps : Array Value) (W : World), (callFunc 141 caps).run Tryz.prog W = .ok (.enter 141 caps) W := fun caps W => enters_any Tryz.func141 (by kernel_rfl) rfl _ _
  have FB := firQ_far m b g
  have MN := hide (mdlAt_new w m 26)
  generalize firQ m b g = T at *
  have EN := hide en
  clear en hm b0 b1 g0 g1
  obtain ⟨s, a0, b0, a1, b1, a2, b2, a3, b3⟩ := m
  unfold mdlV
  simp only
  go_enter Tryz.func114, Tryz.ntmps114
  go_wp2_with fail
  refine (search_go T 141 _ _ _ _ FB.1 FB.2 EN.out (hide (fun v W v0 v1 hb => F1.out v W v0 v1 (mdlAt_later MN.out (bnext (by repeat (first | exact Below.refl _ _ | assumption | apply balloc | apply bdrew | (refine below_drewN ?_ _) | (refine bset ?_ (by first | (simp; done) | omega | (simp; omega)) _) | (refine bnext ?_ (by assumption)))) hb)) (later hb (by simp [go_sem, World.cell?_alloc_past])) (later hb (by simp [go_sem, World.cell?_alloc_past]))))).mono ?_
  rintro e w1 ⟨rfl, hb1⟩
  go_wp2_with fail
  go_ret
  exact ⟨rfl, (by repeat (first | exact Below.refl _ _ | assumption | apply balloc | apply bdrew | (refine below_drewN ?_ _) | (refine bset ?_ (by first | (simp; done) | omega | (simp; omega)) _) | (refine bnext ?_ (by assumption))))⟩
end Go.Proofs.YtlpdbjkpgfpjjaaGreat

namespace Go.Proofs.YtlpdbjkpgfpjjaaGreat
set_option linter.unusedSimpArgs false
set_option linter.unusedVariables false
open Go.RowKit

/-- The rates at which a zone can be in a region. -/
def spoR (m : Mdl) (z : Int × Int) (k : Nat) : Int × Int := (firQ m (sideL m k) z.1, firQ m (sideH m k) z.2 - 1)
def spoB (m : Mdl) (z : Int × Int) (s : Int) (k : Nat) : Bool := !selB s k && (decide (sideL m k < sideH m k) && decide ((spoR m z k).1 ≤ (spoR m z k).2))
def spoN (m : Mdl) (z : Int × Int) (s : Int) : Nat → List (Int × Int)
  | 0 => []
  | k + 1 => if spoB m z s k then spoN m z s k ++ [spoR m z k] else spoN m z s k
theorem spoN_len (m : Mdl) (z : Int × Int) (s : Int) : ∀ k, (spoN m z s k).length ≤ k := by
  intro k
  induction k with
  | zero => simp [spoN]
  | succ k ih => unfold spoN; split <;> first | (simp; omega) | omega
def SpPost (w : World) (L : List (Int × Int)) (e : Ending) (w' : World) : Prop := ∃ v, e = .returned v ∧ w'.ownsRow w.heap.size 23 2 v L.length (rowOf L) ∧ Below w.heap.size w w'
set_option maxRecDepth 100000 in
set_option maxHeartbeats 6400000 in
theorem spoilt_go (s a0 b0 a1 b1 a2 b2 a3 b3 z1 z2 sw : Int) (f : Nat → Bool) (R : Nat → Int × Int) (N : Nat → List (Int × Int)) (w : World) (hm : MdlOk ⟨s, a0, b0, a1, b1, a2, b2, a3, b3⟩) (g1 : 0 ≤ z1) (g2 : z1 ≤ z2) (g3 : z2 ≤ 1000000)
    (hN0 : Hid (N 0 = [])) (hN : Hid (∀ k, N (k + 1) = if !selB sw k && (decide (sideL ⟨s, a0, b0, a1, b1, a2, b2, a3, b3⟩ k < sideH ⟨s, a0, b0, a1, b1, a2, b2, a3, b3⟩ k) && decide ((R k).1 ≤ (R k).2)) then N k ++ [R k] else N k)) (hL : Hid (∀ k, (N k).length ≤ k)) (hR : Hid (∀ k, R k = (firQ ⟨s, a0, b0, a1, b1, a2, b2, a3, b3⟩ (sideL ⟨s, a0, b0, a1, b1, a2, b2, a3, b3⟩ k) z1, firQ ⟨s, a0, b0, a1, b1, a2, b2, a3, b3⟩ (sideH ⟨s, a0, b0, a1, b1, a2, b2, a3, b3⟩ k) z2 - 1))) :
    Calls Tryz.prog 64 #[.agg #[.int .i64 s, .int .i64 a0, .int .i64 b0, .int .i64 a1, .int .i64 b1, .int .i64 a2, .int .i64 b2, .int .i64 a3, .int .i64 b3], .agg #[.int .i64 z1, .int .i64 z2], .int .u8 sw] w (SpPost w (N 5)) := by
  have SD := hide (fun (W : World) => sides_any ⟨s, a0, b0, a1, b1, a2, b2, a3, b3⟩ W)
  have FA := hide (fun (W : World) (k : Nat) => (show Calls Tryz.prog 114 #[.agg #[.int .i64 s, .int .i64 a0, .int .i64 b0, .int .i64 a1, .int .i64 b1, .int .i64 a2, .int .i64 b2, .int .i64 a3, .int .i64 b3], .int .i64 (sideL ⟨s, a0, b0, a1, b1, a2, b2, a3, b3⟩ k), .int .i64 z1] W fun e w' => e = .returned (.int .i64 (firQ ⟨s, a0, b0, a1, b1, a2, b2, a3, b3⟩ (sideL ⟨s, a0, b0, a1, b1, a2, b2, a3, b3⟩ k) z1)) ∧ Below W.heap.size W w' from firstAbove_any ⟨s, a0, b0, a1, b1, a2, b2, a3, b3⟩ _ z1 W hm (sideL_far hm k).1 (by have := (sideL_far hm k).2; omega) g1 (by omega)))
  have FB := hide (fun (W : World) (k : Nat) => (show Calls Tryz.prog 114 #[.agg #[.int .i64 s, .int .i64 a0, .int .i64 b0, .int .i64 a1, .int .i64 b1, .int .i64 a2, .int .i64 b2, .int .i64 a3, .int .i64 b3], .int .i64 (sideH ⟨s, a0, b0, a1, b1, a2, b2, a3, b3⟩ k), .int .i64 z2] W fun e w' => e = .returned (.int .i64 (firQ ⟨s, a0, b0, a1, b1, a2, b2, a3, b3⟩ (sideH ⟨s, a0, b0, a1, b1, a2, b2, a3, b3⟩ k) z2)) ∧ Below W.heap.size W w' from firstAbove_any ⟨s, a0, b0, a1, b1, a2, b2, a3, b3⟩ _ z2 W hm (by have := (sideH_far hm k).1; omega) (sideH_far hm k).2 (by omega) g3))
  have FF := hide (fun (k : Nat) => (show (0 ≤ firQ ⟨s, a0, b0, a1, b1, a2, b2, a3, b3⟩ (sideL ⟨s, a0, b0, a1, b1, a2, b2, a3, b3⟩ k) z1 ∧ firQ ⟨s, a0, b0, a1, b1, a2, b2, a3, b3⟩ (sideL ⟨s, a0, b0, a1, b1, a2, b2, a3, b3⟩ k) z1 ≤ 1000001) ∧ 0 ≤ firQ ⟨s, a0, b0, a1, b1, a2, b2, a3, b3⟩ (sideH ⟨s, a0, b0, a1, b1, a2, b2, a3, b3⟩ k) z2 ∧ firQ ⟨s, a0, b0, a1, b1, a2, b2, a3, b3⟩ (sideH ⟨s, a0, b0, a1, b1, a2, b2, a3, b3⟩ k) z2 ≤ 1000001 from ⟨firQ_far _ _ _, firQ_far _ _ _⟩))
  have IX := hide (fun (k : Nat) (hk : k < 5) (W : World) => (show (Instr.index 112 (.agg #[.int .i64 (-1), .int .i64 b0, .int .i64 a0, .int .i64 b1, .int .i64 a1, .int .i64 b2, .int .i64 a2, .int .i64 b3, .int .i64 a3, .int .i64 1000000000000]) (.int .i64 (k : Int))).run Tryz.prog W = .ok (.agg #[.int .i64 (sideL ⟨s, a0, b0, a1, b1, a2, b2, a3, b3⟩ k), .int .i64 (sideH ⟨s, a0, b0, a1, b1, a2, b2, a3, b3⟩ k)]) W by
    rcases (show k = 0 ∨ k = 1 ∨ k = 2 ∨ k = 3 ∨ k = 4 by omega) with rfl | rfl | rfl | rfl | rfl
    · kernel_rfl
    · kernel_rfl
    · kernel_rfl
    · kernel_rfl
    · kernel_rfl))
  generalize sideL ⟨s, a0, b0, a1, b1, a2, b2, a3, b3⟩ = SL at *
  generalize sideH ⟨s, a0, b0, a1, b1, a2, b2, a3, b3⟩ = SH at *
  have MN := hide (mdlAt_new w ⟨s, a0, b0, a1, b1, a2, b2, a3, b3⟩ 26)
  clear hm g1 g2 g3
  go_enter Tryz.func64, Tryz.ntmps64
  go_wp2_with fail
  refine (SD.out _).mono ?_
  rintro e w1 ⟨rfl, hb1⟩
  have M1 := hide (mdlAt_later MN.out (show Below (w.alloc (.cells #[.int .i64 s, .int .i64 a0, .int .i64 b0, .int .i64 a1, .int .i64 b1, .int .i64 a2, .int .i64 b2, .int .i64 a3, .int .i64 b3] 26)).heap.size _ w1 from (by repeat (first | exact Below.refl _ _ | assumption | apply balloc | apply bdrew | (refine below_drewN ?_ _) | (refine bset ?_ (by first | (simp; done) | omega | (simp; omega)) _) | (refine bnext ?_ (by assumption))))))
  have X1 := hide (rgAt_later (q := w.heap.size + 1) (x := z1) (y := z2) ⟨(by simp [go_sem, World.cell?_alloc_past]), (by simp [go_sem, World.cell?_alloc_past])⟩ hb1)
  have B1 := hide (show Below w.heap.size w w1 from (by repeat (first | exact Below.refl _ _ | assumption | apply balloc | apply bdrew | (refine below_drewN ?_ _) | (refine bset ?_ (by first | (simp; done) | omega | (simp; omega)) _) | (refine bnext ?_ (by assumption)))))
  clear hb1 MN SD
  go_wp2_with fail
  go_loopw [7, 13] (fun v i wr => ∃ k : Nat, k ≤ 5 ∧ i = .int .i64 (k : Int) ∧ Hid (wr.ownsRow w1.heap.size 23 2 v (N k).length (rowOf (N k))) ∧ Below w1.heap.size w1 wr) (fun _ i _ => 5 - (intOf i).toNat)
  case atStart => exact ⟨0, by omega, rfl, hide (by rw [hN0.out]; exact World.ownsRow_nil _ _ _ _), Below.refl _ _⟩
  case round =>
    obtain ⟨k, hk, rfl, hown, hb⟩ := hrel
    by_cases hlt : k < 5
    · have ix := IX.out k hlt
      have HNk := hide (hN.out k)
      have HLk := hide (hL.out k)
      have HRk := hide (hR.out k)
      have A1 := hide (fun W => FA.out W k)
      have A2 := hide (fun W => FB.out W k)
      have AF := hide (FF.out k)
      generalize SL k = L at *
      generalize SH k = H at *
      generalize firQ ⟨s, a0, b0, a1, b1, a2, b2, a3, b3⟩ L z1 = lo at *
      generalize firQ ⟨s, a0, b0, a1, b1, a2, b2, a3, b3⟩ H z2 = h2 at *
      obtain ⟨P, hP⟩ : ∃ P : Int, ((2 ^ k : Nat) : Int) = P := ⟨_, rfl⟩
      have ON := hide (fun (W : World) => (show Calls Tryz.prog 84 #[.int .i64 (k : Int)] W fun e w' => e = .returned (.int .u8 P) ∧ W = w' from (only_any k (by omega) W).mono (by rintro e w' ⟨rfl, rfl⟩; exact ⟨by rw [hP], rfl⟩)))
      have HP := hide (show selB sw k = !(bits BinOp.and IntKind.u8 sw P == 0) by rw [selB, hP])
      clear hP
      have k0 : 0 ≤ (k : Int) := by omega
      have k1 : (k : Int) < 5 := by omega
      go_upto_region 5 with fail
      obtain ⟨w5, hw5⟩ : ∃ z, z = wr.alloc (.cells #[.int .i64 L, .int .i64 H] 23) := ⟨_, rfl⟩
      rw [← hw5]
      obtain ⟨p3, hp3⟩ : ∃ p, wr.heap.size = p := ⟨_, rfl⟩
      have L3 : w5.cell? ⟨p3, 0, none⟩ = some (.int .i64 L) := by rw [hw5, ← hp3]; exact (by simp [go_sem, World.cell?_alloc_past])
      have H3 : w5.cell? ⟨p3, 1, none⟩ = some (.int .i64 H) := by rw [hw5, ← hp3]; exact (by simp [go_sem, World.cell?_alloc_past])
      have B5 := hide (show Below w1.heap.size w1 w5 by rw [hw5]; exact balloc hb)
      have O5 := hide (show w5.ownsRow w1.heap.size 23 2 _ (N k).length (rowOf (N k)) by rw [hw5]; exact hown.out.alloc _)
      rw [hp3]
      have LH := hide (And.intro L3 H3)
      clear hw5 hp3 hown hb
      cases hsel : (bits BinOp.and IntKind.u8 sw P == 0) with
      | false =>
        have dn : (bits BinOp.and IntKind.u8 sw P != 0) = true := by simpa [bne] using hsel
        have HE := hide (show N (k + 1) = N k by rw [HNk.out, HP.out, hsel]; rfl)
        clear hsel HP HNk
        go_wp2_with fail
        refine (ON.out _).mono ?_
        rintro e w6 ⟨rfl, rfl⟩
        go_wp2_with fail
        go_roundw
        case rel => exact ⟨k + 1, by omega, by go_num, hide (by rw [HE.out]; exact O5.out), B5.out⟩
        case measure => simp [intOf]; omega
      | true =>
        have dn : (bits BinOp.and IntKind.u8 sw P != 0) = false := by simpa [bne] using hsel
        by_cases hLH : L < H
        · have dL : decide (H ≤ L) = false := decide_eq_false (by omega)
          have HE := hide (show N (k + 1) = if decide (lo ≤ h2 - 1) then N k ++ [(lo, h2 - 1)] else N k by rw [HNk.out, HP.out, hsel, decide_eq_true hLH, HRk.out]; rfl)
          clear hsel HP HNk hLH
          go_wp2_with fail
          refine (ON.out _).mono ?_
          rintro e w6 ⟨rfl, rfl⟩
          go_upto_region 6 with fail
          have KP := hide (fun (W : World) (hb : Below w5.heap.size w5 W) => (show W.cell? ⟨w.heap.size, 0, none⟩ = some (.int .i64 s) ∧ W.cell? ⟨w.heap.size, 1, none⟩ = some (.int .i64 a0) ∧ W.cell? ⟨w.heap.size, 2, none⟩ = some (.int .i64 b0) ∧ W.cell? ⟨w.heap.size, 3, none⟩ = some (.int .i64 a1) ∧ W.cell? ⟨w.heap.size, 4, none⟩ = some (.int .i64 b1) ∧ W.cell? ⟨w.heap.size, 5, none⟩ = some (.int .i64 a2) ∧ W.cell? ⟨w.heap.size, 6, none⟩ = some (.int .i64 b2) ∧ W.cell? ⟨w.heap.size, 7, none⟩ = some (.int .i64 a3) ∧ W.cell? ⟨w.heap.size, 8, none⟩ = some (.int .i64 b3) ∧ W.cell? ⟨w.heap.size + 1, 0, none⟩ = some (.int .i64 z1) ∧ W.cell? ⟨w.heap.size + 1, 1, none⟩ = some (.int .i64 z2) ∧ W.cell? ⟨p3, 0, none⟩ = some (.int .i64 L) ∧ W.cell? ⟨p3, 1, none⟩ = some (.int .i64 H) ∧ Below w5.heap.size w5 W from
            have ⟨⟨⟨⟨m1, m2⟩, m3⟩, m4, m5⟩, ⟨m6, m7⟩, m8, m9⟩ := mdlAt_later M1.out (bnext B5.out hb)
            have ⟨y1, y2⟩ := rgAt_later X1.out (bnext B5.out hb)
            ⟨m1, m2, m3, m4, m5, m6, m7, m8, m9, y1, y2, later hb LH.out.1, later hb LH.out.2, hb⟩))
          have wd : IntKind.i64.wrap (h2 - 1) = h2 - 1 := IntWalk.i64_in _ (by have := AF.out; omega)
          clear L3 H3
          go_cut [10] from 29 to 42 (fun s10 wx => ∃ p, s10 = .pointer (some ⟨p, 0, none⟩) ∧ (wx.cell? ⟨p, 0, none⟩ = some (.int .i64 lo) ∧ wx.cell? ⟨p, 1, none⟩ = some (.int .i64 (h2 - 1))) ∧ Below w5.heap.size w5 wx)
          case first =>
            as_aux_lemma =>
            go_region_held3 (fun W => W.cell? ⟨w.heap.size, 0, none⟩ = some (.int .i64 s) ∧ W.cell? ⟨w.heap.size, 1, none⟩ = some (.int .i64 a0) ∧ W.cell? ⟨w.heap.size, 2, none⟩ = some (.int .i64 b0) ∧ W.cell? ⟨w.heap.size, 3, none⟩ = some (.int .i64 a1) ∧ W.cell? ⟨w.heap.size, 4, none⟩ = some (.int .i64 b1) ∧ W.cell? ⟨w.heap.size, 5, none⟩ = some (.int .i64 a2) ∧ W.cell? ⟨w.heap.size, 6, none⟩ = some (.int .i64 b2) ∧ W.cell? ⟨w.heap.size, 7, none⟩ = some (.int .i64 a3) ∧ W.cell? ⟨w.heap.size, 8, none⟩ = some (.int .i64 b3) ∧ W.cell? ⟨w.heap.size + 1, 0, none⟩ = some (.int .i64 z1) ∧ W.cell? ⟨w.heap.size + 1, 1, none⟩ = some (.int .i64 z2) ∧ W.cell? ⟨p3, 0, none⟩ = some (.int .i64 L) ∧ W.cell? ⟨p3, 1, none⟩ = some (.int .i64 H) ∧ Below w5.heap.size w5 W)
              ((go_split_ands; refine KP.out _ ?_; exact (by repeat (first | exact Below.refl _ _ | assumption | apply balloc | apply bdrew | (refine below_drewN ?_ _) | (refine bset ?_ (by first | (simp; done) | omega | (simp; omega)) _) | (refine bnext ?_ (by assumption))))))
              (first | (go_at_call_of 114 L; refine (A1.out _).mono ?_; first | (have hq := hbA; clear hq; rintro e wB ⟨rfl, hbB⟩; obtain ⟨⟨hcB, hfB⟩, ⟨hcB2, hfB2⟩, hcB3, hfB3, ⟨hnB1, hnB2, hnB3, hnB4⟩, ⟨hlB1, hlB2, hlB3, hlB4, hlB5⟩, hsB⟩ := bcellR hbB; (try simp at hsB); (try have zB1 := hcB w5.heap.size 0 (by first | (simp; done) | omega | (simp; omega))); (try have zB2 := hfB w5.heap.size 0 (by first | (simp; done) | omega | (simp; omega))); (try have zB3 := hcB w5.heap.size 1 (by first | (simp; done) | omega | (simp; omega))); (try have zB4 := hfB w5.heap.size 1 (by first | (simp; done) | omega | (simp; omega))); (try have zB5 := hcB (w5.heap.size + 1) 0 (by first | (simp; done) | omega | (simp; omega))); (try have zB6 := hfB (w5.heap.size + 1) 0 (by first | (simp; done) | omega | (simp; omega))); (try have zB7 := hcB (w5.heap.size + 1) 1 (by first | (simp; done) | omega | (simp; omega))); (try have zB8 := hfB (w5.heap.size + 1) 1 (by first | (simp; done) | omega | (simp; omega)))) | (rintro e wA ⟨rfl, hbA⟩; obtain ⟨⟨hcA, hfA⟩, ⟨hcA2, hfA2⟩, hcA3, hfA3, ⟨hnA1, hnA2, hnA3, hnA4⟩, ⟨hlA1, hlA2, hlA3, hlA4, hlA5⟩, hsA⟩ := bcellR hbA; (try simp at hsA); (try have zA1 := hcA w5.heap.size 0 (by first | (simp; done) | omega | (simp; omega))); (try have zA2 := hfA w5.heap.size 0 (by first | (simp; done) | omega | (simp; omega))); (try have zA3 := hcA w5.heap.size 1 (by first | (simp; done) | omega | (simp; omega))); (try have zA4 := hfA w5.heap.size 1 (by first | (simp; done) | omega | (simp; omega))); (try have zA5 := hcA (w5.heap.size + 1) 0 (by first | (simp; done) | omega | (simp; omega))); (try have zA6 := hfA (w5.heap.size + 1) 0 (by first | (simp; done) | omega | (simp; omega))); (try have zA7 := hcA (w5.heap.size + 1) 1 (by first | (simp; done) | omega | (simp; omega))); (try have zA8 := hfA (w5.heap.size + 1) 1 (by first | (simp; done) | omega | (simp; omega))))) | (go_at_call_of 114 H; refine (A2.out _).mono ?_; first | (have hq := hbA; clear hq; rintro e wB ⟨rfl, hbB⟩; obtain ⟨⟨hcB, hfB⟩, ⟨hcB2, hfB2⟩, hcB3, hfB3, ⟨hnB1, hnB2, hnB3, hnB4⟩, ⟨hlB1, hlB2, hlB3, hlB4, hlB5⟩, hsB⟩ := bcellR hbB; (try simp at hsB); (try have zB1 := hcB w5.heap.size 0 (by first | (simp; done) | omega | (simp; omega))); (try have zB2 := hfB w5.heap.size 0 (by first | (simp; done) | omega | (simp; omega))); (try have zB3 := hcB w5.heap.size 1 (by first | (simp; done) | omega | (simp; omega))); (try have zB4 := hfB w5.heap.size 1 (by first | (simp; done) | omega | (simp; omega))); (try have zB5 := hcB (w5.heap.size + 1) 0 (by first | (simp; done) | omega | (simp; omega))); (try have zB6 := hfB (w5.heap.size + 1) 0 (by first | (simp; done) | omega | (simp; omega))); (try have zB7 := hcB (w5.heap.size + 1) 1 (by first | (simp; done) | omega | (simp; omega))); (try have zB8 := hfB (w5.heap.size + 1) 1 (by first | (simp; done) | omega | (simp; omega)))) | (rintro e wA ⟨rfl, hbA⟩; obtain ⟨⟨hcA, hfA⟩, ⟨hcA2, hfA2⟩, hcA3, hfA3, ⟨hnA1, hnA2, hnA3, hnA4⟩, ⟨hlA1, hlA2, hlA3, hlA4, hlA5⟩, hsA⟩ := bcellR hbA; (try simp at hsA); (try have zA1 := hcA w5.heap.size 0 (by first | (simp; done) | omega | (simp; omega))); (try have zA2 := hfA w5.heap.size 0 (by first | (simp; done) | omega | (simp; omega))); (try have zA3 := hcA w5.heap.size 1 (by first | (simp; done) | omega | (simp; omega))); (try have zA4 := hfA w5.heap.size 1 (by first | (simp; done) | omega | (simp; omega))); (try have zA5 := hcA (w5.heap.size + 1) 0 (by first | (simp; done) | omega | (simp; omega))); (try have zA6 := hfA (w5.heap.size + 1) 0 (by first | (simp; done) | omega | (simp; omega))); (try have zA7 := hcA (w5.heap.size + 1) 1 (by first | (simp; done) | omega | (simp; omega))); (try have zA8 := hfA (w5.heap.size + 1) 1 (by first | (simp; done) | omega | (simp; omega))))))
            all_goals
              go_wp2_with fail
              go_meet
              refine ⟨_, rfl, ⟨?_, ?_⟩, ?_⟩
              rotate_left 2
              · exact (by repeat (first | exact Below.refl _ _ | exact hbA | exact hbB | apply balloc | apply bdrew | (refine bset ?_ (by first | (simp; done) | omega | (simp; omega)) _) | (refine bnext ?_ hbB) | (refine bnext ?_ hbA)))
              all_goals first | (simp [go_sem]; done) | (simp (maxDischargeDepth := 8) [go_sem, set_selfR, hcB, hfB, hcB2, hfB2, hcB3, hfB3, hnB1, hnB2, hnB3, hnB4, hlB1, hlB2, hlB3, hlB4, hlB5, hcA, hfA, hcA2, hfA2, hcA3, hfA3, hnA1, hnA2, hnA3, hnA4, hlA1, hlA2, hlA3, hlA4, hlA5]; done)
          case rest =>
            obtain ⟨p, rfl, ⟨n1, n2⟩, hb9⟩ := hcut
            have O9 := hide (owns_later O5.out hb9)
            have B9 := hide (bnext B5.out hb9)
            have SB := hide (show w1.heap.size ≤ wc.heap.size from B9.out.size)
            clear hb9 wd
            by_cases hc : lo ≤ h2 - 1
            · have dc : decide (lo ≤ h2 - 1) = true := decide_eq_true hc
              have HE2 := hide (show N (k + 1) = N k ++ [(lo, h2 - 1)] by rw [HE.out, dc]; rfl)
              clear hc HE
              obtain ⟨h3, hh3⟩ : ∃ h3, h2 - 1 = h3 := ⟨_, rfl⟩
              rw [hh3] at n2 dc HE2
              clear hh3
              go_wp2_with (at_builtin; refine wpList_append_rg rfl (.tmp 48) (.tmp 50) rfl w1.heap.size _ (N k) rfl (O9.out.alloc _) _ lo h3 rfl ?_ ?_ ?_ ?_ ?_)
              · exact (by simp [go_sem, World.cell?_alloc_past])
              · exact (by simp [go_sem, World.cell?_alloc_past])
              · have := HLk.out; omega
              · have := SB.out; simp; omega
              · intro g gc w3 hown3 hgrow hx3 hlt3
                have B3 := hide (Below.grown (balloc (o := .cells #[.int .i64 lo, .int .i64 h3] 23) B9.out) hgrow (by have := SB.out; simp; omega) (fun k' hk' => (O9.out.lt k' hk').1))
                have N3 := hide (show w3.ownsRow w1.heap.size 23 2 (.slice (some ⟨g, 0, none⟩) ((N k).length + 1) gc) (N k ++ [(lo, h3)]).length (rowOf (N k ++ [(lo, h3)])) by simpa using hown3)
                clear hown3 hgrow hx3 n1 n2
                go_wp2_with fail
                go_roundw
                case rel => exact ⟨k + 1, by omega, by go_num, hide (by rw [HE2.out]; exact N3.out), B3.out⟩
                case measure => simp [intOf]; omega
            · have dc : decide (lo ≤ h2 - 1) = false := decide_eq_false hc
              have HE2 := hide (show N (k + 1) = N k by rw [HE.out, dc]; rfl)
              clear hc HE
              go_wp2_with fail
              go_roundw
              case rel => exact ⟨k + 1, by omega, by go_num, hide (by rw [HE2.out]; exact O9.out), B9.out⟩
              case measure => simp [intOf]; omega
        · have dL : decide (H ≤ L) = true := decide_eq_true (by omega)
          have HE := hide (show N (k + 1) = N k by rw [HNk.out, HP.out, hsel, decide_eq_false hLH]; rfl)
          clear hsel HP HNk hLH
          go_wp2_with fail
          refine (ON.out _).mono ?_
          rintro e w6 ⟨rfl, rfl⟩
          go_wp2_with fail
          go_roundw
          case rel => exact ⟨k + 1, by omega, by go_num, hide (by rw [HE.out]; exact O5.out), B5.out⟩
          case measure => simp [intOf]; omega
    · obtain rfl : k = 5 := by omega
      obtain ⟨b9, c9, rfl, _, _⟩ := own_pairs hown.out
      go_wp2_with fail
      exact bodyPost_ret (v := .slice b9 (N 5).length c9) (by simp [results, Tryz.results64, go_sem]) rfl ⟨_, rfl, owns_base hown.out B1.out.size, bnext B1.out hb⟩
theorem spoilt_any (m : Mdl) (z : Int × Int) (sw : Int) (w : World) (hm : mdlOk m = true) (hz : grOk z = true) :
    Calls Tryz.prog 64 #[mdlV m, .agg #[.int .i64 z.1, .int .i64 z.2], .int .u8 sw] w (SpPost w (spoN m z sw 5)) := by
  simp [grOk, rgOk] at hz
  obtain ⟨z1, z2⟩ := z
  obtain ⟨s, a0, b0, a1, b1, a2, b2, a3, b3⟩ := m
  exact spoilt_go s a0 b0 a1 b1 a2 b2 a3 b3 z1 z2 sw (fun _ => true) _ _ w (mdlOk_of hm) (by omega) (by omega) (by omega) rfl (fun k => rfl) (spoN_len _ _ _) (fun k => rfl)
end Go.Proofs.YtlpdbjkpgfpjjaaGreat
