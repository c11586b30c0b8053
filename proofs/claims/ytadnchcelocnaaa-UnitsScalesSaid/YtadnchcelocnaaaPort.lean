/-
  units: Portions: its closures and the sum.
-/
import Derived.Test.YtadnchcelocnaaaSimpC
namespace Go.Proofs.Ytadnchcelocnaaa
set_option linter.unusedSimpArgs false
set_option linter.unusedVariables false
open Go.RowKit

/-! ### The conditions -/
set_option maxHeartbeats 400000 in
theorem portions1_any (n : Int) (ws : List Int) (a : Option Addr) (cap : Nat) (p q : Addr) (w : World) (hp : w.cell? p = some (.int .i64 n)) (hq : w.cell? q = some (.slice a ws.length cap)) (hl : ws.length ≤ 140737488351232) (h : IsInts w a ws) :
    Calls Try.prog 82 #[.pointer (some p), .pointer (some q)] w fun e w' => e = .returned (.bool (allAm [n] && allAm ws)) ∧ Below w.heap.size w w' := by
  have C := fun w' hw => areAmounts_any [n] (some ⟨w.heap.size, 0, none⟩) 1 w' hw (by simp)
  cases hA : allAm [n] with
  | false =>
    rw [hA] at C
    have C' := hide C
    clear hA C
    go_enter Try.func82, Try.ntmps82
    go_wp2_with (go_at_call 83; refine (C'.out _ (ints_one_at rfl)).mono ?_; rintro e w' ⟨rfl, rfl⟩)
    go_ret
    exact ⟨rfl, (by repeat (first | exact Below.refl _ _ | assumption | apply balloc | apply bdrew | (refine bset ?_ (by first | (simp; done) | omega | (simp; omega)) _) | (refine bnext ?_ (by assumption))))⟩
  | true =>
    rw [hA] at C
    have C' := hide C
    clear hA C
    have D := fun T => areAmounts_any ws a cap (w.alloc (.cells #[.int .i64 n] T)) (ints_later h (balloc (Below.refl _ _))) hl
    have D' := hide D
    have hq' := fun o => later (balloc (o := o) (Below.refl _ _)) hq
    clear D h
    go_enter Try.func82, Try.ntmps82
    go_wp2_with fail
    refine (C'.out _ (ints_one_at rfl)).mono ?_
    rintro e w1 ⟨rfl, rfl⟩
    go_wp2_with fail
    refine (D'.out _).mono ?_
    rintro e w1 ⟨rfl, rfl⟩
    go_wp2_with fail
    go_ret
    exact ⟨rfl, (by repeat (first | exact Below.refl _ _ | assumption | apply balloc | apply bdrew | (refine bset ?_ (by first | (simp; done) | omega | (simp; omega)) _) | (refine bnext ?_ (by assumption))))⟩
theorem portions1_tells (k : Bool) (n : Int) (ws : List Int) (a : Option Addr) (cap m : Nat) (p q : Addr) (w : World) (hk : (allAm [n] && allAm ws) = k) (hm : m = ws.length) (hp : w.cell? p = some (.int .i64 n)) (hq : w.cell? q = some (.slice a m cap)) (hl : ws.length ≤ 140737488351232) (h : IsInts w a ws) :
    Tells w 82 #[.pointer (some p), .pointer (some q)] k := by
  subst hk hm
  exact ⟨enters_any Try.func82 (by kernel_rfl) rfl _, fun W hW => portions1_any n ws a cap p q W (later hW hp) (later hW hq) hl (ints_later h hW)⟩

theorem portions2_any (s : Int) (p : Addr) (w : World) (hp : w.cell? p = some (.int .i64 s)) :
    Calls Try.prog 84 #[.pointer (some p)] w fun e w' => e = .returned (.bool (allIn 1000000000000000 [s])) ∧ Below w.heap.size w w' := by
  go_enter Try.func84, Try.ntmps84
  go_wp2_with (go_at_call 71; refine (areNumbers_any [s] (some ⟨w.heap.size, 0, none⟩) 1 _ (ints_one_at rfl) (by simp)).mono ?_; rintro e w' ⟨rfl, rfl⟩)
  go_ret
  exact ⟨rfl, (by repeat (first | exact Below.refl _ _ | assumption | apply balloc | apply bdrew | (refine bset ?_ (by first | (simp; done) | omega | (simp; omega)) _) | (refine bnext ?_ (by assumption))))⟩
theorem portions2_tells (k : Bool) (s : Int) (p : Addr) (w : World) (hk : allIn 1000000000000000 [s] = k) (hp : w.cell? p = some (.int .i64 s)) :
    Tells w 84 #[.pointer (some p)] k := by
  subst hk
  exact ⟨enters_any Try.func84 (by kernel_rfl) rfl _, fun W hW => portions2_any s p W (later hW hp)⟩
theorem portions3_any (s : Int) (p : Addr) (w : World) (hp : w.cell? p = some (.int .i64 s)) :
    Calls Try.prog 85 #[.pointer (some p)] w fun e w' => e = .returned (.bool (decide (0 < s))) ∧ w = w' := by
  go_enter Try.func85, Try.ntmps85
  go_wp2
  go_ret
  exact ⟨rfl, rfl⟩
theorem portions3_tells (k : Bool) (s : Int) (p : Addr) (w : World) (hk : decide (0 < s) = k) (hp : w.cell? p = some (.int .i64 s)) :
    Tells w 85 #[.pointer (some p)] k := by
  subst hk
  exact ⟨enters_any Try.func85 (by kernel_rfl) rfl _, fun W hW => (portions3_any s p W (later hW hp)).mono (by rintro e w' ⟨rfl, rfl⟩; exact ⟨rfl, Below.refl _ _⟩)⟩

/-- The sum of the weights, as the machine has it. -/
def sumW (l : List Int) : Int := l.foldl (fun s x => wrap64 (s + x)) 0
theorem sumW_step {l : List Int} {k : Nat} (hk : k < l.length) : sumW (l.take (k + 1)) = wrap64 (sumW (l.take k) + l.getD k 0) := by
  unfold sumW
  rw [List.take_succ_eq_append_getElem hk, List.foldl_append]
  simp only [List.foldl_cons, List.foldl_nil, List.getD_eq_getElem?_getD, List.getElem?_eq_getElem hk, Option.getD_some]

/-- The conditions of Portions come to E. -/
def PortCond (n : Int) (ws : List Int) (E : Int) (k1 k2 k3 k4 : Bool) : Prop :=
  decide ((ws.length : Int) ≤ 100) = k1 ∧ (allAm [n] && allAm ws) = k2 ∧ allIn 1000000000000000 [sumW ws] = k3 ∧ decide (0 < sumW ws) = k4 ∧ ∀ f1 c1 f2 c2 f3 c3 f4 c4, firstE [⟨5, f1, c1, k1⟩, ⟨3, f2, c2, k2⟩, ⟨10, f3, c3, k3⟩, ⟨2, f4, c4, k4⟩] = E

set_option maxHeartbeats 1600000 in
theorem portions_bad (n : Int) (ws : List Int) (a : Option Addr) (cap : Nat) (w : World) (E : Int) (k1 k2 k3 k4 : Bool) (hE : (E == 0) = false) (hc : Hid (PortCond n ws E k1 k2 k3 k4)) (hl : ws.length ≤ 140737488351232) (h : Hid (IsInts w a ws)) :
    Calls Try.prog 27 #[.int .i64 n, .slice a ws.length cap] w fun e w' => e = .returned (.tuple #[.slice none 0 0, .int .i64 E]) ∧ Below w.heap.size w w' := by
  go_enter Try.func27, Try.ntmps27
  go_wp2_with fail
  go_loopw [20] (fun i wr => ∃ k : Nat, k ≤ ws.length ∧ i = .int .i64 (k : Int) ∧ wr = ((w.alloc (.cells #[.int .i64 n] 3)).alloc (.cells #[.slice a ws.length cap] 37)).alloc (.cells #[.int .i64 (sumW (ws.take k))] 3)) (fun i _ => ws.length - (intOf i).toNat)
  case atStart => exact ⟨0, by omega, rfl, rfl⟩
  case round =>
    obtain ⟨k, hk, rfl, hwr⟩ := hrel
    by_cases hlt : k < ws.length
    · subst hwr
      obtain ⟨b, off, rfl, hc⟩ : ∃ b off, a = some ⟨b, off, none⟩ ∧ ∀ i, i < ws.length → w.cell? ⟨b, off + i, none⟩ = some (.int .i64 (ws.getD i 0)) := by
        rcases h.out with h | h
        · subst h; simp at hlt
        · exact h
      have hck := fun o1 o2 o3 => later (balloc (o := o3) (balloc (o := o2) (balloc (o := o1) (Below.refl _ _)))) (hc k hlt)
      clear hc
      have S := hide (sumW_step hlt)
      generalize ws.getD k 0 = z at *
      generalize sumW (ws.take k) = s at *
      go_wp2_with fail
      go_roundw
      case rel => exact ⟨k + 1, by omega, by go_num, by rw [S.out]⟩
      case measure => simp [intOf]; omega
    · rw [List.take_of_length_le (by omega)] at hwr
      subst hwr
      go_wp2_with (first | (go_at_call 81; refine (atMost_any _ _ _).mono ?_; rintro e w' ⟨rfl, rfl⟩) | (go_at_call 68; refine (unless_any _ _ _ _).mono ?_; rintro e w' ⟨rfl, rfl⟩))
      refine (firstError_is E [⟨5, 114, #[.pointer (some ⟨w.heap.size + 1 + 1 + 1 + 1 + 1 + 1, 0, none⟩), .pointer (some ⟨w.heap.size + 1 + 1 + 1 + 1 + 1, 0, none⟩)], k1⟩, ⟨3, 114, #[.pointer (some ⟨w.heap.size + 1 + 1 + 1 + 1 + 1 + 1 + 1 + 1, 0, none⟩), .pointer (some ⟨w.heap.size + 1 + 1 + 1 + 1 + 1 + 1 + 1, 0, none⟩)], k2⟩, ⟨10, 114, #[.pointer (some ⟨w.heap.size + 1 + 1 + 1 + 1 + 1 + 1 + 1 + 1 + 1 + 1, 0, none⟩), .pointer (some ⟨w.heap.size + 1 + 1 + 1 + 1 + 1 + 1 + 1 + 1 + 1, 0, none⟩)], k3⟩, ⟨2, 114, #[.pointer (some ⟨w.heap.size + 1 + 1 + 1 + 1 + 1 + 1 + 1 + 1 + 1 + 1 + 1 + 1, 0, none⟩), .pointer (some ⟨w.heap.size + 1 + 1 + 1 + 1 + 1 + 1 + 1 + 1 + 1 + 1 + 1, 0, none⟩)], k4⟩] _ _ _ (hc.out.2.2.2.2 _ _ _ _ _ _ _ _) (by simp) (by simp) (cnds_four_at (by simp))
        (tells_four (atMost_tells k1 ws.length 100 ⟨w.heap.size + 1 + 1 + 1 + 1, 0, none⟩ ⟨w.heap.size + 1 + 1 + 1, 0, none⟩ ⟨w.heap.size + 1 + 1 + 1 + 1 + 1 + 1, 0, none⟩ ⟨w.heap.size + 1 + 1 + 1 + 1 + 1, 0, none⟩ _ hc.out.1 (by simp [go_sem, World.cell?_alloc_past]) (by simp [go_sem, World.cell?_alloc_past]) (by simp [go_sem, World.cell?_alloc_past]) (by simp [go_sem, World.cell?_alloc_past]))
          (fun _ => unless_tells 3 _ _ k2 ⟨w.heap.size + 1 + 1 + 1 + 1 + 1 + 1 + 1, 0, none⟩ ⟨w.heap.size + 1 + 1 + 1 + 1 + 1 + 1 + 1 + 1, 0, none⟩ _ rfl (portions1_tells k2 n ws a cap ws.length ⟨w.heap.size, 0, none⟩ ⟨w.heap.size + 1, 0, none⟩ _ hc.out.2.1 rfl (by simp [go_sem, World.cell?_alloc_past]) (by simp [go_sem, World.cell?_alloc_past]) hl (ints_later h.out (by repeat (first | exact Below.refl _ _ | assumption | apply balloc | apply bdrew | (refine bset ?_ (by first | (simp; done) | omega | (simp; omega)) _) | (refine bnext ?_ (by assumption)))))) (by simp [go_sem, World.cell?_alloc_past]) (by simp [go_sem, World.cell?_alloc_past]))
          (fun _ _ => unless_tells 10 _ _ k3 ⟨w.heap.size + 1 + 1 + 1 + 1 + 1 + 1 + 1 + 1 + 1, 0, none⟩ ⟨w.heap.size + 1 + 1 + 1 + 1 + 1 + 1 + 1 + 1 + 1 + 1, 0, none⟩ _ rfl (portions2_tells k3 (sumW ws) ⟨w.heap.size + 1 + 1, 0, none⟩ _ hc.out.2.2.1 (by simp [go_sem, World.cell?_alloc_past])) (by simp [go_sem, World.cell?_alloc_past]) (by simp [go_sem, World.cell?_alloc_past]))
          (fun _ _ _ => unless_tells 2 _ _ k4 ⟨w.heap.size + 1 + 1 + 1 + 1 + 1 + 1 + 1 + 1 + 1 + 1 + 1, 0, none⟩ ⟨w.heap.size + 1 + 1 + 1 + 1 + 1 + 1 + 1 + 1 + 1 + 1 + 1 + 1, 0, none⟩ _ rfl (portions3_tells k4 (sumW ws) ⟨w.heap.size + 1 + 1, 0, none⟩ _ hc.out.2.2.2.1 (by simp [go_sem, World.cell?_alloc_past])) (by simp [go_sem, World.cell?_alloc_past]) (by simp [go_sem, World.cell?_alloc_past])))).mono ?_
      rintro e w1 ⟨rfl, hb⟩
      go_wp2_with fail
      go_ret2
      exact ⟨rfl, (by repeat (first | exact Below.refl _ _ | assumption | apply balloc | apply bdrew | (refine bset ?_ (by first | (simp; done) | omega | (simp; omega)) _) | (refine bnext ?_ (by assumption))))⟩
end Go.Proofs.Ytadnchcelocnaaa
