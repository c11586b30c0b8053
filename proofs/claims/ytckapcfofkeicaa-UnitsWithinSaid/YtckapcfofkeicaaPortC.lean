/-
  units: Portions: its closures and the sum. units: Portions, where nothing is wrong. units: Portions, whatever the number and the weights are.
-/
import Derived.Test.YtckapcfofkeicaaSimpC
import Derived.OwnWalk
namespace Go.Proofs.Ytckapcfofkeicaa
set_option linter.unusedSimpArgs false
set_option linter.unusedVariables false
open Go.RowKit

/-! ### The conditions -/
set_option maxHeartbeats 400000 in
theorem portions1_any (n : Int) (ws : List Int) (a : Option Addr) (cap : Nat) (p q : Addr) (w : World) (hp : w.cell? p = some (.int .i64 n)) (hq : w.cell? q = some (.slice a ws.length cap)) (hl : ws.length ≤ 140737488351232) (h : IsInts w a ws) :
    Calls Try.prog 82 #[.pointer (some p), .pointer (some q)] w fun e w' => e = .returned (.bool (allAm [n] && allAm ws)) ∧ Below w.heap.size w w' := by
  have C := fun w' hw => areAmounts_any [n] (some ⟨w.heap.size, 0, none⟩) 1 w' hw (by simp)
  cases hA : allAm [n] with
  | false =>
    rw [hA] at C
    have C' := hide C
    clear hA C
    go_enter Try.func82, Try.ntmps82
    go_wp2_with (go_at_call 83; refine (C'.out _ (ints_one_at rfl)).mono ?_; rintro e w' ⟨rfl, rfl⟩)
    go_ret
    exact ⟨rfl, (by repeat (first | exact Below.refl _ _ | assumption | apply balloc | apply bdrew | (refine bset ?_ (by first | (simp; done) | omega | (simp; omega)) _) | (refine bnext ?_ (by assumption))))⟩
  | true =>
    rw [hA] at C
    have C' := hide C
    clear hA C
    have D := fun T => areAmounts_any ws a cap (w.alloc (.cells #[.int .i64 n] T)) (ints_later h (balloc (Below.refl _ _))) hl
    have D' := hide D
    have hq' := fun o => later (balloc (o := o) (Below.refl _ _)) hq
    clear D h
    go_enter Try.func82, Try.ntmps82
    go_wp2_with fail
    refine (C'.out _ (ints_one_at rfl)).mono ?_
    rintro e w1 ⟨rfl, rfl⟩
    go_wp2_with fail
    refine (D'.out _).mono ?_
    rintro e w1 ⟨rfl, rfl⟩
    go_wp2_with fail
    go_ret
    exact ⟨rfl, (by repeat (first | exact Below.refl _ _ | assumption | apply balloc | apply bdrew | (refine bset ?_ (by first | (simp; done) | omega | (simp; omega)) _) | (refine bnext ?_ (by assumption))))⟩
theorem portions1_tells (k : Bool) (n : Int) (ws : List Int) (a : Option Addr) (cap m : Nat) (p q : Addr) (w : World) (hk : (allAm [n] && allAm ws) = k) (hm : m = ws.length) (hp : w.cell? p = some (.int .i64 n)) (hq : w.cell? q = some (.slice a m cap)) (hl : ws.length ≤ 140737488351232) (h : IsInts w a ws) :
    Tells w 82 #[.pointer (some p), .pointer (some q)] k := by
  subst hk hm
  exact ⟨enters_any Try.func82 (by kernel_rfl) rfl _, fun W hW => portions1_any n ws a cap p q W (later hW hp) (later hW hq) hl (ints_later h hW)⟩

theorem portions2_any (s : Int) (p : Addr) (w : World) (hp : w.cell? p = some (.int .i64 s)) :
    Calls Try.prog 84 #[.pointer (some p)] w fun e w' => e = .returned (.bool (allIn 1000000000000000 [s])) ∧ Below w.heap.size w w' := by
  go_enter Try.func84, Try.ntmps84
  go_wp2_with (go_at_call 71; refine (areNumbers_any [s] (some ⟨w.heap.size, 0, none⟩) 1 _ (ints_one_at rfl) (by simp)).mono ?_; rintro e w' ⟨rfl, rfl⟩)
  go_ret
  exact ⟨rfl, (by repeat (first | exact Below.refl _ _ | assumption | apply balloc | apply bdrew | (refine bset ?_ (by first | (simp; done) | omega | (simp; omega)) _) | (refine bnext ?_ (by assumption))))⟩
theorem portions2_tells (k : Bool) (s : Int) (p : Addr) (w : World) (hk : allIn 1000000000000000 [s] = k) (hp : w.cell? p = some (.int .i64 s)) :
    Tells w 84 #[.pointer (some p)] k := by
  subst hk
  exact ⟨enters_any Try.func84 (by kernel_rfl) rfl _, fun W hW => portions2_any s p W (later hW hp)⟩
theorem portions3_any (s : Int) (p : Addr) (w : World) (hp : w.cell? p = some (.int .i64 s)) :
    Calls Try.prog 85 #[.pointer (some p)] w fun e w' => e = .returned (.bool (decide (0 < s))) ∧ w = w' := by
  go_enter Try.func85, Try.ntmps85
  go_wp2
  go_ret
  exact ⟨rfl, rfl⟩
theorem portions3_tells (k : Bool) (s : Int) (p : Addr) (w : World) (hk : decide (0 < s) = k) (hp : w.cell? p = some (.int .i64 s)) :
    Tells w 85 #[.pointer (some p)] k := by
  subst hk
  exact ⟨enters_any Try.func85 (by kernel_rfl) rfl _, fun W hW => (portions3_any s p W (later hW hp)).mono (by rintro e w' ⟨rfl, rfl⟩; exact ⟨rfl, Below.refl _ _⟩)⟩

/-- The sum of the weights, as the machine has it. -/
def sumW (l : List Int) : Int := l.foldl (fun s x => wrap64 (s + x)) 0
theorem sumW_step {l : List Int} {k : Nat} (hk : k < l.length) : sumW (l.take (k + 1)) = wrap64 (sumW (l.take k) + l.getD k 0) := by
  unfold sumW
  rw [List.take_succ_eq_append_getElem hk, List.foldl_append]
  simp only [List.foldl_cons, List.foldl_nil, List.getD_eq_getElem?_getD, List.getElem?_eq_getElem hk, Option.getD_some]

/-- The conditions of Portions come to E. -/
def PortCond (n : Int) (ws : List Int) (E : Int) (k1 k2 k3 k4 : Bool) : Prop :=
  decide ((ws.length : Int) ≤ 100) = k1 ∧ (allAm [n] && allAm ws) = k2 ∧ allIn 1000000000000000 [sumW ws] = k3 ∧ decide (0 < sumW ws) = k4 ∧ ∀ f1 c1 f2 c2 f3 c3 f4 c4, firstE [⟨5, f1, c1, k1⟩, ⟨3, f2, c2, k2⟩, ⟨10, f3, c3, k3⟩, ⟨2, f4, c4, k4⟩] = E

set_option maxHeartbeats 1600000 in
theorem portions_bad (n : Int) (ws : List Int) (a : Option Addr) (cap : Nat) (w : World) (E : Int) (k1 k2 k3 k4 : Bool) (hE : (E == 0) = false) (hc : Hid (PortCond n ws E k1 k2 k3 k4)) (hl : ws.length ≤ 140737488351232) (h : Hid (IsInts w a ws)) :
    Calls Try.prog 27 #[.int .i64 n, .slice a ws.length cap] w fun e w' => e = .returned (.tuple #[.slice none 0 0, .int .i64 E]) ∧ Below w.heap.size w w' := by
  go_enter Try.func27, Try.ntmps27
  go_wp2_with fail
  go_loopw [20] (fun i wr => ∃ k : Nat, k ≤ ws.length ∧ i = .int .i64 (k : Int) ∧ wr = ((w.alloc (.cells #[.int .i64 n] 3)).alloc (.cells #[.slice a ws.length cap] 37)).alloc (.cells #[.int .i64 (sumW (ws.take k))] 3)) (fun i _ => ws.length - (intOf i).toNat)
  case atStart => exact ⟨0, by omega, rfl, rfl⟩
  case round =>
    obtain ⟨k, hk, rfl, hwr⟩ := hrel
    by_cases hlt : k < ws.length
    · subst hwr
      obtain ⟨b, off, rfl, hc⟩ : ∃ b off, a = some ⟨b, off, none⟩ ∧ ∀ i, i < ws.length → w.cell? ⟨b, off + i, none⟩ = some (.int .i64 (ws.getD i 0)) := by
        rcases h.out with h | h
        · subst h; simp at hlt
        · exact h
      have hck := fun o1 o2 o3 => later (balloc (o := o3) (balloc (o := o2) (balloc (o := o1) (Below.refl _ _)))) (hc k hlt)
      clear hc
      have S := hide (sumW_step hlt)
      generalize ws.getD k 0 = z at *
      generalize sumW (ws.take k) = s at *
      go_wp2_with fail
      go_roundw
      case rel => exact ⟨k + 1, by omega, by go_num, by rw [S.out]⟩
      case measure => simp [intOf]; omega
    · rw [List.take_of_length_le (by omega)] at hwr
      subst hwr
      go_wp2_with (first | (go_at_call 81; refine (atMost_any _ _ _).mono ?_; rintro e w' ⟨rfl, rfl⟩) | (go_at_call 68; refine (unless_any _ _ _ _).mono ?_; rintro e w' ⟨rfl, rfl⟩))
      refine (firstError_is E [⟨5, 114, #[.pointer (some ⟨w.heap.size + 1 + 1 + 1 + 1 + 1 + 1, 0, none⟩), .pointer (some ⟨w.heap.size + 1 + 1 + 1 + 1 + 1, 0, none⟩)], k1⟩, ⟨3, 114, #[.pointer (some ⟨w.heap.size + 1 + 1 + 1 + 1 + 1 + 1 + 1 + 1, 0, none⟩), .pointer (some ⟨w.heap.size + 1 + 1 + 1 + 1 + 1 + 1 + 1, 0, none⟩)], k2⟩, ⟨10, 114, #[.pointer (some ⟨w.heap.size + 1 + 1 + 1 + 1 + 1 + 1 + 1 + 1 + 1 + 1, 0, none⟩), .pointer (some ⟨w.heap.size + 1 + 1 + 1 + 1 + 1 + 1 + 1 + 1 + 1, 0, none⟩)], k3⟩, ⟨2, 114, #[.pointer (some ⟨w.heap.size + 1 + 1 + 1 + 1 + 1 + 1 + 1 + 1 + 1 + 1 + 1 + 1, 0, none⟩), .pointer (some ⟨w.heap.size + 1 + 1 + 1 + 1 + 1 + 1 + 1 + 1 + 1 + 1 + 1, 0, none⟩)], k4⟩] _ _ _ (hc.out.2.2.2.2 _ _ _ _ _ _ _ _) (by simp) (by simp) (cnds_four_at (by simp))
        (tells_four (atMost_tells k1 ws.length 100 ⟨w.heap.size + 1 + 1 + 1 + 1, 0, none⟩ ⟨w.heap.size + 1 + 1 + 1, 0, none⟩ ⟨w.heap.size + 1 + 1 + 1 + 1 + 1 + 1, 0, none⟩ ⟨w.heap.size + 1 + 1 + 1 + 1 + 1, 0, none⟩ _ hc.out.1 (by simp [go_sem, World.cell?_alloc_past]) (by simp [go_sem, World.cell?_alloc_past]) (by simp [go_sem, World.cell?_alloc_past]) (by simp [go_sem, World.cell?_alloc_past]))
          (fun _ => unless_tells 3 _ _ k2 ⟨w.heap.size + 1 + 1 + 1 + 1 + 1 + 1 + 1, 0, none⟩ ⟨w.heap.size + 1 + 1 + 1 + 1 + 1 + 1 + 1 + 1, 0, none⟩ _ rfl (portions1_tells k2 n ws a cap ws.length ⟨w.heap.size, 0, none⟩ ⟨w.heap.size + 1, 0, none⟩ _ hc.out.2.1 rfl (by simp [go_sem, World.cell?_alloc_past]) (by simp [go_sem, World.cell?_alloc_past]) hl (ints_later h.out (by repeat (first | exact Below.refl _ _ | assumption | apply balloc | apply bdrew | (refine bset ?_ (by first | (simp; done) | omega | (simp; omega)) _) | (refine bnext ?_ (by assumption)))))) (by simp [go_sem, World.cell?_alloc_past]) (by simp [go_sem, World.cell?_alloc_past]))
          (fun _ _ => unless_tells 10 _ _ k3 ⟨w.heap.size + 1 + 1 + 1 + 1 + 1 + 1 + 1 + 1 + 1, 0, none⟩ ⟨w.heap.size + 1 + 1 + 1 + 1 + 1 + 1 + 1 + 1 + 1 + 1, 0, none⟩ _ rfl (portions2_tells k3 (sumW ws) ⟨w.heap.size + 1 + 1, 0, none⟩ _ hc.out.2.2.1 (by simp [go_sem, World.cell?_alloc_past])) (by simp [go_sem, World.cell?_alloc_past]) (by simp [go_sem, World.cell?_alloc_past]))
          (fun _ _ _ => unless_tells 2 _ _ k4 ⟨w.heap.size + 1 + 1 + 1 + 1 + 1 + 1 + 1 + 1 + 1 + 1 + 1, 0, none⟩ ⟨w.heap.size + 1 + 1 + 1 + 1 + 1 + 1 + 1 + 1 + 1 + 1 + 1 + 1, 0, none⟩ _ rfl (portions3_tells k4 (sumW ws) ⟨w.heap.size + 1 + 1, 0, none⟩ _ hc.out.2.2.2.1 (by simp [go_sem, World.cell?_alloc_past])) (by simp [go_sem, World.cell?_alloc_past]) (by simp [go_sem, World.cell?_alloc_past])))).mono ?_
      rintro e w1 ⟨rfl, hb⟩
      go_wp2_with fail
      go_ret2
      exact ⟨rfl, (by repeat (first | exact Below.refl _ _ | assumption | apply balloc | apply bdrew | (refine bset ?_ (by first | (simp; done) | omega | (simp; omega)) _) | (refine bnext ?_ (by assumption))))⟩
end Go.Proofs.Ytckapcfofkeicaa

namespace Go.Proofs.Ytckapcfofkeicaa
set_option linter.unusedSimpArgs false
set_option linter.unusedVariables false
open Go.RowKit

theorem owns_later {w W : World} {base : Nat} {e : TypeId} {size : Nat} {v : Value} {n : Nat} {xs : List Value} (h : w.ownsRow base e size v n xs) (hb : Below w.heap.size w W) : W.ownsRow base e size v n xs := by
  obtain ⟨h1, h2⟩ := h
  refine ⟨h1, ?_⟩
  rcases h2 with h2 | ⟨g, cap, cur, hv, hg, hh, r⟩
  · exact .inl h2
  · exact .inr ⟨g, cap, cur, hv, hg, by rw [hb.block g (lt_of_block hh)]; exact hh, r⟩

theorem int_info : (Try.prog.info? 3).map (fun i => (i.zero, i.size, i.bytes)) = some (some (.int .i64 0), 1, 8) := by kernel_rfl

/-- The parts after k rounds: the first k are there. -/
def partsAt (U : Nat → Int) (n k : Nat) : List Value := (List.range n).map fun i => .int .i64 (if i < k then U (i + 1) - U i else 0)
theorem partsAt_zero (U : Nat → Int) (n : Nat) : (madeCells (Value.int .i64 0).cells (n * 1)).toList = partsAt U n 0 := by
  unfold madeCells partsAt
  simp [Value.cells]
  intro i _
  rw [Nat.mod_one]; rfl
theorem partsAt_set (U : Nat → Int) (n k : Nat) (h : k < n) : (partsAt U n k).set k (.int .i64 (U (k + 1) - U k)) = partsAt U n (k + 1) := by
  unfold partsAt
  apply List.ext_getElem
  · simp
  · intro i h1 h2
    rw [List.getElem_set]
    by_cases e : k = i
    · subst e; simp
    · simp [e]; congr 1; by_cases c : i < k
      · simp [c]; omega
      · simp [c]; omega
theorem partsAt_get (U : Nat → Int) (n k : Nat) (h : k < n) : (partsAt U n k)[k]? = some (.int .i64 0) := by
  unfold partsAt
  simp [h]

set_option maxHeartbeats 1600000 in
theorem portions_good (n : Int) (ws : List Int) (a : Option Addr) (cap : Nat) (w : World) (T U R : Nat → Int) (hc : Hid (PortCond n ws 0 true true true true)) (hl : ws.length ≤ 100) (h : Hid (IsInts w a ws))
    (hT : ∀ k, k ≤ ws.length → -1000000000000000 ≤ T k ∧ T k ≤ 1000000000000000) (hTs : Hid (∀ k, k < ws.length → T k + ws.getD k 0 = T (k + 1))) (hT0 : T 0 = 0)
    (hU : ∀ k, k ≤ ws.length → -1000000000000000 ≤ U k ∧ U k ≤ 1000000000000000) (hUs : Hid (∀ k, k ≤ ws.length → mulDivQ n (T k) (sumW ws) 1 = (U k, R k, 0))) (hU0 : U 0 = 0) :
    Calls Try.prog 27 #[.int .i64 n, .slice a ws.length cap] w fun e w' => ∃ g, e = .returned (.tuple #[.slice (some ⟨g, 0, none⟩) ws.length ws.length, .int .i64 0]) ∧ w'.ownsRow w.heap.size 3 1 (.slice (some ⟨g, 0, none⟩) ws.length ws.length) ws.length (partsAt U ws.length ws.length) ∧ Below w.heap.size w w' := by
  obtain ⟨ti, hi, hz0, hz1, hz2⟩ := info_parts int_info
  have m1 := hide (show ti.bytes * ws.length ≤ 281474976710656 by rw [hz2]; omega)
  have m2 := hide (show ws.length ≤ maxLen by unfold maxLen; omega)
  have HI := hide hi
  have HZ0 := hide hz0
  have HZ1 := hide hz1
  clear hi hz0 hz1 hz2
  have HT := hide hT
  have HU := hide hU
  have HT0 := hide hT0
  have HU0 := hide hU0
  clear hT hU hT0 hU0
  go_enter Try.func27, Try.ntmps27
  go_wp2_with fail
  go_loopw [20] (fun i wr => ∃ k : Nat, k ≤ ws.length ∧ i = .int .i64 (k : Int) ∧ wr = ((w.alloc (.cells #[.int .i64 n] 3)).alloc (.cells #[.slice a ws.length cap] 37)).alloc (.cells #[.int .i64 (sumW (ws.take k))] 3)) (fun i _ => ws.length - (intOf i).toNat)
  case atStart => exact ⟨0, by omega, rfl, rfl⟩
  case round =>
    obtain ⟨k, hk, rfl, hwr⟩ := hrel
    by_cases hlt : k < ws.length
    · subst hwr
      obtain ⟨b, off, rfl, hc⟩ : ∃ b off, a = some ⟨b, off, none⟩ ∧ ∀ i, i < ws.length → w.cell? ⟨b, off + i, none⟩ = some (.int .i64 (ws.getD i 0)) := by
        rcases h.out with h | h
        · subst h; simp at hlt
        · exact h
      have hck := fun o1 o2 o3 => later (balloc (o := o3) (balloc (o := o2) (balloc (o := o1) (Below.refl _ _)))) (hc k hlt)
      clear hc
      have S := hide (sumW_step hlt)
      generalize ws.getD k 0 = z at *
      generalize sumW (ws.take k) = s at *
      go_wp2_with fail
      go_roundw
      case rel => exact ⟨k + 1, by omega, by go_num, by rw [S.out]⟩
      case measure => simp [intOf]; omega
    · rw [List.take_of_length_le (by omega)] at hwr
      subst hwr
      go_wp2_with (first | (go_at_call 81; refine (atMost_any _ _ _).mono ?_; rintro e w' ⟨rfl, rfl⟩) | (go_at_call 68; refine (unless_any _ _ _ _).mono ?_; rintro e w' ⟨rfl, rfl⟩))
      refine (firstError_is 0 [⟨5, 114, #[.pointer (some ⟨w.heap.size + 1 + 1 + 1 + 1 + 1 + 1, 0, none⟩), .pointer (some ⟨w.heap.size + 1 + 1 + 1 + 1 + 1, 0, none⟩)], true⟩, ⟨3, 114, #[.pointer (some ⟨w.heap.size + 1 + 1 + 1 + 1 + 1 + 1 + 1 + 1, 0, none⟩), .pointer (some ⟨w.heap.size + 1 + 1 + 1 + 1 + 1 + 1 + 1, 0, none⟩)], true⟩, ⟨10, 114, #[.pointer (some ⟨w.heap.size + 1 + 1 + 1 + 1 + 1 + 1 + 1 + 1 + 1 + 1, 0, none⟩), .pointer (some ⟨w.heap.size + 1 + 1 + 1 + 1 + 1 + 1 + 1 + 1 + 1, 0, none⟩)], true⟩, ⟨2, 114, #[.pointer (some ⟨w.heap.size + 1 + 1 + 1 + 1 + 1 + 1 + 1 + 1 + 1 + 1 + 1 + 1, 0, none⟩), .pointer (some ⟨w.heap.size + 1 + 1 + 1 + 1 + 1 + 1 + 1 + 1 + 1 + 1 + 1, 0, none⟩)], true⟩] _ _ _ (hc.out.2.2.2.2 _ _ _ _ _ _ _ _) (by simp) (by simp) (cnds_four_at (by simp))
        (tells_four (atMost_tells true ws.length 100 ⟨w.heap.size + 1 + 1 + 1 + 1, 0, none⟩ ⟨w.heap.size + 1 + 1 + 1, 0, none⟩ ⟨w.heap.size + 1 + 1 + 1 + 1 + 1 + 1, 0, none⟩ ⟨w.heap.size + 1 + 1 + 1 + 1 + 1, 0, none⟩ _ hc.out.1 (by simp [go_sem, World.cell?_alloc_past]) (by simp [go_sem, World.cell?_alloc_past]) (by simp [go_sem, World.cell?_alloc_past]) (by simp [go_sem, World.cell?_alloc_past]))
          (fun _ => unless_tells 3 _ _ true ⟨w.heap.size + 1 + 1 + 1 + 1 + 1 + 1 + 1, 0, none⟩ ⟨w.heap.size + 1 + 1 + 1 + 1 + 1 + 1 + 1 + 1, 0, none⟩ _ rfl (portions1_tells true n ws a cap ws.length ⟨w.heap.size, 0, none⟩ ⟨w.heap.size + 1, 0, none⟩ _ hc.out.2.1 rfl (by simp [go_sem, World.cell?_alloc_past]) (by simp [go_sem, World.cell?_alloc_past]) (by omega) (ints_later h.out (by repeat (first | exact Below.refl _ _ | assumption | apply balloc | apply bdrew | (refine bset ?_ (by first | (simp; done) | omega | (simp; omega)) _) | (refine bnext ?_ (by assumption)))))) (by simp [go_sem, World.cell?_alloc_past]) (by simp [go_sem, World.cell?_alloc_past]))
          (fun _ _ => unless_tells 10 _ _ true ⟨w.heap.size + 1 + 1 + 1 + 1 + 1 + 1 + 1 + 1 + 1, 0, none⟩ ⟨w.heap.size + 1 + 1 + 1 + 1 + 1 + 1 + 1 + 1 + 1 + 1, 0, none⟩ _ rfl (portions2_tells true (sumW ws) ⟨w.heap.size + 1 + 1, 0, none⟩ _ hc.out.2.2.1 (by simp [go_sem, World.cell?_alloc_past])) (by simp [go_sem, World.cell?_alloc_past]) (by simp [go_sem, World.cell?_alloc_past]))
          (fun _ _ _ => unless_tells 2 _ _ true ⟨w.heap.size + 1 + 1 + 1 + 1 + 1 + 1 + 1 + 1 + 1 + 1 + 1, 0, none⟩ ⟨w.heap.size + 1 + 1 + 1 + 1 + 1 + 1 + 1 + 1 + 1 + 1 + 1 + 1, 0, none⟩ _ rfl (portions3_tells true (sumW ws) ⟨w.heap.size + 1 + 1, 0, none⟩ _ hc.out.2.2.2.1 (by simp [go_sem, World.cell?_alloc_past])) (by simp [go_sem, World.cell?_alloc_past]) (by simp [go_sem, World.cell?_alloc_past])))).mono ?_
      rintro e w1 ⟨rfl, hb⟩
      have c0 := later hb (a := ⟨w.heap.size, 0, none⟩) (v := .int .i64 n) (by simp [go_sem, World.cell?_alloc_past])
      have c1 := later hb (a := ⟨w.heap.size + 1, 0, none⟩) (v := .slice a ws.length cap) (by simp [go_sem, World.cell?_alloc_past])
      have c2 := later hb (a := ⟨w.heap.size + 1 + 1, 0, none⟩) (v := .int .i64 (sumW ws)) (by simp [go_sem, World.cell?_alloc_past])
      have hbl : Below w.heap.size w w1 := (by repeat (first | exact Below.refl _ _ | assumption | apply balloc | apply bdrew | (refine bset ?_ (by first | (simp; done) | omega | (simp; omega)) _) | (refine bnext ?_ (by assumption))))
      clear hb
      have M3 := hide hbl.size
      have z0 := hide (World.block_lt_of_cell? _ _ c0)
      have z1 := hide (World.block_lt_of_cell? _ _ c1)
      have z2 := hide (World.block_lt_of_cell? _ _ c2)
      go_wp2_with (at_make; refine wpList_make_full _ rfl (.tmp 43) (.tmp 43) 37 rfl w.heap.size 3 ti (.int .i64 0) 1 Try.underlying37 HI.out HZ0.out HZ1.out .i64 .i64 _ _ ws.length rfl rfl rfl rfl m1.out m2.out M3.out ?_; intro w2 hown hgrow; have hb2 := (Below.refl w1.heap.size w1).grown hgrow (Nat.le_refl _) (fun k hk => by cases hk); have d0 := later hb2 c0; have d1 := later hb2 c1; have d2 := later hb2 c2; have Hown := hide hown; clear hown hgrow c0 c1 c2)
      have hbw := bnext hbl hb2
      go_loopw [11, 12, 47] (fun bf gv i wr => ∃ k : Nat, k ≤ ws.length ∧ i = .int .i64 (k : Int) ∧ bf = .int .i64 (T k) ∧ gv = .int .i64 (U k) ∧ wr.ownsRow w.heap.size 3 1 (.slice (some ⟨w1.heap.size, 0, none⟩) ws.length ws.length) ws.length (partsAt U ws.length k) ∧
        wr.cell? ⟨w.heap.size, 0, none⟩ = some (.int .i64 n) ∧ wr.cell? ⟨w.heap.size + 1, 0, none⟩ = some (.slice a ws.length cap) ∧ wr.cell? ⟨w.heap.size + 1 + 1, 0, none⟩ = some (.int .i64 (sumW ws)) ∧ Below w.heap.size w wr) (fun _ _ i _ => ws.length - (intOf i).toNat)
      case atStart => exact ⟨0, by omega, rfl, by rw [HT0.out], by rw [HU0.out], by rw [← partsAt_zero]; exact Hown.out, d0, d1, d2, hbw⟩
      case round =>
        clear d0 d1 d2 hbw Hown hb2
        obtain ⟨k2, hk2, rfl, rfl, rfl, hown, d0, d1, d2, hbw⟩ := hrel
        by_cases hlt2 : k2 < ws.length
        · obtain ⟨b, off, rfl, hc⟩ : ∃ b off, a = some ⟨b, off, none⟩ ∧ ∀ i, i < ws.length → wr.cell? ⟨b, off + i, none⟩ = some (.int .i64 (ws.getD i 0)) := by
            rcases ints_later h.out hbw with h | h
            · subst h; simp at hlt2
            · exact h
          have hck := hc k2 hlt2
          clear hc
          have e1 := hTs.out k2 hlt2
          obtain ⟨t1, t2⟩ := HT.out (k2 + 1) (by omega)
          obtain ⟨u1, u2⟩ := HU.out (k2 + 1) (by omega)
          obtain ⟨u3, u4⟩ := HU.out k2 (by omega)
          have e2 := hUs.out (k2 + 1) (by omega)
          have C := fun W => mulDiv_any n (T (k2 + 1)) (sumW ws) 1 W
          rw [e2] at C
          have C' := hide C
          have Hown := hide hown
          clear e2 C hown
          generalize ws.getD k2 0 = z at *
          go_wp2_with fail
          refine (C'.out _).mono ?_
          rintro e w3 ⟨rfl, hb3⟩
          have hown3 := owns_later Hown.out hb3
          have q1 := hown3.cellAt k2 (by omega)
          rw [partsAt_get U ws.length k2 hlt2] at q1
          have q2 := hown3.frozenAt k2
          have Hown3 := hide (hown3.stored k2 (.int .i64 (U (k2 + 1) - U k2))).1
          have d0' := hide (later hb3 d0)
          have d1' := hide (later hb3 d1)
          have d2' := hide (later hb3 d2)
          have bs := hide ((Below.refl w1.heap.size w3).setCell (p := ⟨w1.heap.size, k2, none⟩) (Nat.le_refl _) (.int .i64 (U (k2 + 1) - U k2)))
          have be := hide ((bnext hbw hb3).setCell (p := ⟨w1.heap.size, k2, none⟩) M3.out (.int .i64 (U (k2 + 1) - U k2)))
          clear hown3
          rw [partsAt_set U ws.length k2 hlt2] at Hown3
          go_wp2_with fail
          go_roundw
          case rel => exact ⟨k2 + 1, by omega, by go_num, rfl, rfl, Hown3.out, (bs.out.cell z0.out).trans d0'.out, (bs.out.cell z1.out).trans d1'.out, (bs.out.cell z2.out).trans d2'.out, be.out⟩
          case measure => simp [intOf]; omega
        · obtain rfl : k2 = ws.length := by omega
          go_wp2_with fail
          go_ret2
          exact ⟨w1.heap.size, rfl, hown, hbw⟩
end Go.Proofs.Ytckapcfofkeicaa

namespace Go.Proofs.Ytckapcfofkeicaa
set_option linter.unusedSimpArgs false
set_option linter.unusedVariables false
open Go.RowKit

/-- The sum of a list. -/
def isum (l : List Int) : Int := l.foldl (fun s x => s + x) 0
theorem isum_step {l : List Int} {k : Nat} (hk : k < l.length) : isum (l.take (k + 1)) = isum (l.take k) + l.getD k 0 := by
  unfold isum
  rw [List.take_succ_eq_append_getElem hk, List.foldl_append]
  simp only [List.foldl_cons, List.foldl_nil, List.getD_eq_getElem?_getD, List.getElem?_eq_getElem hk, Option.getD_some]
theorem allAm_get {l : List Int} (h : allAm l = true) {k : Nat} (hk : k < l.length) : 0 ≤ l.getD k 0 ∧ l.getD k 0 ≤ 1000000000000000 := by
  unfold allAm at h
  rw [List.all_eq_true] at h
  have := h l[k] (List.getElem_mem hk)
  simp only [List.getD_eq_getElem?_getD, List.getElem?_eq_getElem hk, Option.getD_some]
  simpa using this
theorem isum_bounds {l : List Int} (h : allAm l = true) (hl : l.length ≤ 1000) : ∀ k, k ≤ l.length → 0 ≤ isum (l.take k) ∧ isum (l.take k) ≤ k * 1000000000000000 ∧ sumW (l.take k) = isum (l.take k) := by
  intro k
  induction k with
  | zero => intro _; simp [isum, sumW]
  | succ k ih =>
    intro hk
    obtain ⟨a, b, c⟩ := ih (by omega)
    obtain ⟨d, e⟩ := allAm_get h (show k < l.length by omega)
    rw [isum_step (by omega), sumW_step (by omega), c, IntWalk.wrap64_in _ (by omega)]
    omega
theorem isum_mono {l : List Int} (h : allAm l = true) : ∀ j k, k + j ≤ l.length → isum (l.take k) ≤ isum (l.take (k + j)) := by
  intro j
  induction j with
  | zero => intro k _; simp
  | succ j ih =>
    intro k hk
    have := ih k (by omega)
    have d := (allAm_get h (show k + j < l.length by omega)).1
    rw [← Nat.add_assoc, isum_step (by omega)]
    omega

/-- A product over a divisor, rounded down, if it is a number. -/
theorem mulDivQ_down {a b c : Int} (a0 : -1000000000000000 ≤ a) (a1 : a ≤ 1000000000000000) (b0 : -1000000000000000 ≤ b) (b1 : b ≤ 1000000000000000) (c0 : 1 ≤ c) (c1 : c ≤ 1000000000000000)
    (q0 : -1000000000000000 ≤ a * b / c) (q1 : a * b / c ≤ 1000000000000000) : mulDivQ a b c 1 = (a * b / c, a * b % c, 0) := by
  have hc : isDiv c = true := by simp [isDiv, c0, c1]
  have hA : (allIn 1000000000000000 [a, b] && isDiv c) = true := by rw [hc, Bool.and_true, allIn_two]; omega
  have hf : floorQ (a * b) c = (a * b / c, a * b % c, true) := by
    unfold floorQ
    by_cases h : 0 ≤ a * b
    · rw [if_pos h, if_pos q1]
    · rw [if_neg h]
      have e1 := Int.mul_ediv_add_emod (a * b) c
      have r0 := Int.emod_nonneg (a * b) (show c ≠ 0 by omega)
      have : (-(a * b) - 1) / c ≤ 1000000000000000 := by
        have : (-(a * b) - 1) / c < 1000000000000001 := by
          apply Int.ediv_lt_of_lt_mul (by omega)
          have : -1000000000000000 * c ≤ a * b := by
            have := (Int.le_ediv_iff_mul_le (show 0 < c by omega)).1 q0
            omega
          omega
        omega
      rw [if_pos this]
  have hd : divQ (a * b) c 1 = (a * b / c, a * b % c, true) := by
    unfold divQ
    rw [hf, if_neg (by simp), if_neg (by simp [upQ])]
    have : allIn 1000000000000000 [a * b / c] = true := by simp [allIn, q0, q1]
    rw [this]
  unfold mulDivQ
  rw [if_neg (by decide), hA, if_neg (by simp), hd, if_neg (by simp)]

/-- The error of Portions, or 0. -/
def portE (n : Int) (ws : List Int) : Int :=
  if decide ((ws.length : Int) ≤ 100) = false then 5 else if (allAm [n] && allAm ws) = false then 3 else if allIn 1000000000000000 [sumW ws] = false then 10 else if decide (0 < sumW ws) = false then 2 else 0
/-- What the first k parts are together. -/
def upTo (n : Int) (ws : List Int) (k : Nat) : Int := n * isum (ws.take k) / isum ws
/-- The parts. -/
def portQ (n : Int) (ws : List Int) : List Int := if portE n ws = 0 then (List.range ws.length).map (fun i => upTo n ws (i + 1) - upTo n ws i) else []

theorem portE_zero {n : Int} {ws : List Int} (h : portE n ws = 0) : ws.length ≤ 100 ∧ (0 ≤ n ∧ n ≤ 1000000000000000) ∧ allAm ws = true ∧ sumW ws = isum ws ∧ 1 ≤ isum ws ∧ isum ws ≤ 1000000000000000 := by
  unfold portE at h
  cases h1 : decide ((ws.length : Int) ≤ 100) <;> rw [h1] at h
  · simp at h
  cases h2 : (allAm [n] && allAm ws) <;> rw [h2] at h
  · simp at h
  cases h3 : allIn 1000000000000000 [sumW ws] <;> rw [h3] at h
  · simp at h
  cases h4 : decide (0 < sumW ws) <;> rw [h4] at h
  · simp at h
  have l := of_decide_eq_true h1
  rw [Bool.and_eq_true] at h2
  have hn : 0 ≤ n ∧ n ≤ 1000000000000000 := by simpa [allAm] using h2.1
  obtain ⟨a, b, c⟩ := isum_bounds h2.2 (by omega) ws.length (Nat.le_refl _)
  rw [List.take_of_length_le (Nat.le_refl _)] at a b c
  have s1 := of_decide_eq_true h4
  have s2 : sumW ws ≤ 1000000000000000 := by simp [allIn] at h3; omega
  refine ⟨by omega, hn, h2.2, c, by omega, by omega⟩

theorem upTo_ok {n : Int} {ws : List Int} (h : portE n ws = 0) (k : Nat) (hk : k ≤ ws.length) :
    (0 ≤ isum (ws.take k) ∧ isum (ws.take k) ≤ 1000000000000000) ∧ (0 ≤ upTo n ws k ∧ upTo n ws k ≤ n) ∧ mulDivQ n (isum (ws.take k)) (sumW ws) 1 = (upTo n ws k, n * isum (ws.take k) % isum ws, 0) := by
  obtain ⟨hl, ⟨n0, n1⟩, ha, hs, s0, s1⟩ := portE_zero h
  obtain ⟨a, _, _⟩ := isum_bounds ha (by omega) k hk
  have m := isum_mono ha (ws.length - k) k (by omega)
  rw [show k + (ws.length - k) = ws.length by omega, List.take_of_length_le (Nat.le_refl _)] at m
  have u0 : 0 ≤ upTo n ws k := Int.ediv_nonneg (Int.mul_nonneg n0 a) (by omega)
  have u1 : upTo n ws k ≤ n := by
    unfold upTo
    have : n * isum (ws.take k) / isum ws < n + 1 := by
      apply Int.ediv_lt_of_lt_mul (by omega)
      have x1 := Int.mul_le_mul_of_nonneg_left m n0
      rw [Int.add_mul]
      omega
    omega
  refine ⟨by omega, ⟨u0, u1⟩, ?_⟩
  rw [hs]
  exact mulDivQ_down (by omega) n1 (by omega) (by omega) s0 s1 (by unfold upTo at u0; omega) (by unfold upTo at u1; omega)

/-- The elements of a slice of integers of the call's own. -/
theorem ints_of_owned {w : World} {base g n : Nat} {T : TypeId} {zs : List Int} (h : w.ownsRow base T 1 (.slice (some ⟨g, 0, none⟩) n n) n (zs.map (Value.int .i64))) (hn : n = zs.length) : IsInts w (some ⟨g, 0, none⟩) zs := by
  refine .inr ⟨g, 0, rfl, fun i hi => ?_⟩
  have := h.cellAt i (by omega)
  rw [Nat.zero_add, this]
  simp [hi]

theorem portions_any (n : Int) (ws : List Int) (a : Option Addr) (cap : Nat) (w : World) (hl : ws.length ≤ 140737488351232) (h : IsInts w a ws) :
    Calls Try.prog 27 #[.int .i64 n, .slice a ws.length cap] w fun e w' => ∃ b c, e = .returned (.tuple #[.slice b (portQ n ws).length c, .int .i64 (portE n ws)]) ∧ IsInts w' b (portQ n ws) ∧ Below w.heap.size w w' := by
  have bad : ∀ (E : Int) (k1 k2 k3 k4 : Bool), (E == 0) = false → portE n ws = E → PortCond n ws E k1 k2 k3 k4 → Calls Try.prog 27 #[.int .i64 n, .slice a ws.length cap] w fun e w' => ∃ b c, e = .returned (.tuple #[.slice b (portQ n ws).length c, .int .i64 (portE n ws)]) ∧ IsInts w' b (portQ n ws) ∧ Below w.heap.size w w' := by
    intro E k1 k2 k3 k4 hE he hc
    refine (portions_bad n ws a cap w E k1 k2 k3 k4 hE hc hl h).mono ?_
    rintro e w' ⟨rfl, hb⟩
    have : portQ n ws = [] := by unfold portQ; rw [if_neg (by rw [he]; simpa using hE)]
    rw [this, he]
    exact ⟨none, 0, rfl, .inl rfl, hb⟩
  cases h1 : decide ((ws.length : Int) ≤ 100) with
  | false => exact bad 5 false _ _ _ rfl (by unfold portE; rw [h1]; rfl) ⟨h1, rfl, rfl, rfl, fun _ _ _ _ _ _ _ _ => rfl⟩
  | true =>
    cases h2 : (allAm [n] && allAm ws) with
    | false => exact bad 3 true false _ _ rfl (by unfold portE; rw [h1, h2]; rfl) ⟨h1, h2, rfl, rfl, fun _ _ _ _ _ _ _ _ => rfl⟩
    | true =>
      cases h3 : allIn 1000000000000000 [sumW ws] with
      | false => exact bad 10 true true false _ rfl (by unfold portE; rw [h1, h2, h3]; rfl) ⟨h1, h2, h3, rfl, fun _ _ _ _ _ _ _ _ => rfl⟩
      | true =>
        cases h4 : decide (0 < sumW ws) with
        | false => exact bad 2 true true true false rfl (by unfold portE; rw [h1, h2, h3, h4]; rfl) ⟨h1, h2, h3, h4, fun _ _ _ _ _ _ _ _ => rfl⟩
        | true =>
          have hE : portE n ws = 0 := by unfold portE; rw [h1, h2, h3, h4]; rfl
          obtain ⟨hl', ⟨n0, n1⟩, _⟩ := portE_zero hE
          refine (portions_good n ws a cap w (fun k => isum (ws.take k)) (upTo n ws) (fun k => n * isum (ws.take k) % isum ws) ⟨h1, h2, h3, h4, fun _ _ _ _ _ _ _ _ => rfl⟩ hl' h
            (fun k hk => by have := (upTo_ok hE k hk).1; omega) (fun k hk => (isum_step hk).symm) rfl (fun k hk => by have := (upTo_ok hE k hk).2.1; omega) (fun k hk => (upTo_ok hE k hk).2.2) (by simp [upTo, isum])).mono ?_
          rintro e w' ⟨g, rfl, hown, hb⟩
          have hq : portQ n ws = (List.range ws.length).map (fun i => upTo n ws (i + 1) - upTo n ws i) := by unfold portQ; rw [if_pos hE]
          have hlen : (portQ n ws).length = ws.length := by rw [hq]; simp
          rw [hE, hlen]
          refine ⟨_, _, rfl, ints_of_owned (base := w.heap.size) (T := 3) (n := ws.length) ?_ hlen.symm, hb⟩
          have : partsAt (upTo n ws) ws.length ws.length = (portQ n ws).map (Value.int .i64) := by
            rw [hq, partsAt, List.map_map]
            apply List.map_congr_left
            intro i hi
            simp at hi
            simp [hi]
          rw [← this]
          exact hown
end Go.Proofs.Ytckapcfofkeicaa
