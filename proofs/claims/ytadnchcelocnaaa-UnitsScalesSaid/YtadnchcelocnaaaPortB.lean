/-
  units: Portions, where nothing is wrong.
-/
import Derived.Test.YtadnchcelocnaaaPort
import Derived.OwnWalk
namespace Go.Proofs.Ytadnchcelocnaaa
set_option linter.unusedSimpArgs false
set_option linter.unusedVariables false
open Go.RowKit

theorem owns_later {w W : World} {base : Nat} {e : TypeId} {size : Nat} {v : Value} {n : Nat} {xs : List Value} (h : w.ownsRow base e size v n xs) (hb : Below w.heap.size w W) : W.ownsRow base e size v n xs := by
  obtain ⟨h1, h2⟩ := h
  refine ⟨h1, ?_⟩
  rcases h2 with h2 | ⟨g, cap, cur, hv, hg, hh, r⟩
  · exact .inl h2
  · exact .inr ⟨g, cap, cur, hv, hg, by rw [hb.block g (lt_of_block hh)]; exact hh, r⟩

theorem int_info : (Try.prog.info? 3).map (fun i => (i.zero, i.size, i.bytes)) = some (some (.int .i64 0), 1, 8) := by kernel_rfl

/-- The parts after k rounds: the first k are there. -/
def partsAt (U : Nat → Int) (n k : Nat) : List Value := (List.range n).map fun i => .int .i64 (if i < k then U (i + 1) - U i else 0)
theorem partsAt_zero (U : Nat → Int) (n : Nat) : (madeCells (Value.int .i64 0).cells (n * 1)).toList = partsAt U n 0 := by
  unfold madeCells partsAt
  simp [Value.cells]
  intro i _
  rw [Nat.mod_one]; rfl
theorem partsAt_set (U : Nat → Int) (n k : Nat) (h : k < n) : (partsAt U n k).set k (.int .i64 (U (k + 1) - U k)) = partsAt U n (k + 1) := by
  unfold partsAt
  apply List.ext_getElem
  · simp
  · intro i h1 h2
    rw [List.getElem_set]
    by_cases e : k = i
    · subst e; simp
    · simp [e]; congr 1; by_cases c : i < k
      · simp [c]; omega
      · simp [c]; omega
theorem partsAt_get (U : Nat → Int) (n k : Nat) (h : k < n) : (partsAt U n k)[k]? = some (.int .i64 0) := by
  unfold partsAt
  simp [h]

set_option maxHeartbeats 1600000 in
theorem portions_good (n : Int) (ws : List Int) (a : Option Addr) (cap : Nat) (w : World) (T U R : Nat → Int) (hc : Hid (PortCond n ws 0 true true true true)) (hl : ws.length ≤ 100) (h : Hid (IsInts w a ws))
    (hT : ∀ k, k ≤ ws.length → -1000000000000000 ≤ T k ∧ T k ≤ 1000000000000000) (hTs : Hid (∀ k, k < ws.length → T k + ws.getD k 0 = T (k + 1))) (hT0 : T 0 = 0)
    (hU : ∀ k, k ≤ ws.length → -1000000000000000 ≤ U k ∧ U k ≤ 1000000000000000) (hUs : Hid (∀ k, k ≤ ws.length → mulDivQ n (T k) (sumW ws) 1 = (U k, R k, 0))) (hU0 : U 0 = 0) :
    Calls Try.prog 27 #[.int .i64 n, .slice a ws.length cap] w fun e w' => ∃ g, e = .returned (.tuple #[.slice (some ⟨g, 0, none⟩) ws.length ws.length, .int .i64 0]) ∧ w'.ownsRow w.heap.size 3 1 (.slice (some ⟨g, 0, none⟩) ws.length ws.length) ws.length (partsAt U ws.length ws.length) ∧ Below w.heap.size w w' := by
  obtain ⟨ti, hi, hz0, hz1, hz2⟩ := info_parts int_info
  have m1 := hide (show ti.bytes * ws.length ≤ 281474976710656 by rw [hz2]; omega)
  have m2 := hide (show ws.length ≤ maxLen by unfold maxLen; omega)
  have HI := hide hi
  have HZ0 := hide hz0
  have HZ1 := hide hz1
  clear hi hz0 hz1 hz2
  have HT := hide hT
  have HU := hide hU
  have HT0 := hide hT0
  have HU0 := hide hU0
  clear hT hU hT0 hU0
  go_enter Try.func27, Try.ntmps27
  go_wp2_with fail
  go_loopw [20] (fun i wr => ∃ k : Nat, k ≤ ws.length ∧ i = .int .i64 (k : Int) ∧ wr = ((w.alloc (.cells #[.int .i64 n] 3)).alloc (.cells #[.slice a ws.length cap] 37)).alloc (.cells #[.int .i64 (sumW (ws.take k))] 3)) (fun i _ => ws.length - (intOf i).toNat)
  case atStart => exact ⟨0, by omega, rfl, rfl⟩
  case round =>
    obtain ⟨k, hk, rfl, hwr⟩ := hrel
    by_cases hlt : k < ws.length
    · subst hwr
      obtain ⟨b, off, rfl, hc⟩ : ∃ b off, a = some ⟨b, off, none⟩ ∧ ∀ i, i < ws.length → w.cell? ⟨b, off + i, none⟩ = some (.int .i64 (ws.getD i 0)) := by
        rcases h.out with h | h
        · subst h; simp at hlt
        · exact h
      have hck := fun o1 o2 o3 => later (balloc (o := o3) (balloc (o := o2) (balloc (o := o1) (Below.refl _ _)))) (hc k hlt)
      clear hc
      have S := hide (sumW_step hlt)
      generalize ws.getD k 0 = z at *
      generalize sumW (ws.take k) = s at *
      go_wp2_with fail
      go_roundw
      case rel => exact ⟨k + 1, by omega, by go_num, by rw [S.out]⟩
      case measure => simp [intOf]; omega
    · rw [List.take_of_length_le (by omega)] at hwr
      subst hwr
      go_wp2_with (first | (go_at_call 81; refine (atMost_any _ _ _).mono ?_; rintro e w' ⟨rfl, rfl⟩) | (go_at_call 68; refine (unless_any _ _ _ _).mono ?_; rintro e w' ⟨rfl, rfl⟩))
      refine (firstError_is 0 [⟨5, 114, #[.pointer (some ⟨w.heap.size + 1 + 1 + 1 + 1 + 1 + 1, 0, none⟩), .pointer (some ⟨w.heap.size + 1 + 1 + 1 + 1 + 1, 0, none⟩)], true⟩, ⟨3, 114, #[.pointer (some ⟨w.heap.size + 1 + 1 + 1 + 1 + 1 + 1 + 1 + 1, 0, none⟩), .pointer (some ⟨w.heap.size + 1 + 1 + 1 + 1 + 1 + 1 + 1, 0, none⟩)], true⟩, ⟨10, 114, #[.pointer (some ⟨w.heap.size + 1 + 1 + 1 + 1 + 1 + 1 + 1 + 1 + 1 + 1, 0, none⟩), .pointer (some ⟨w.heap.size + 1 + 1 + 1 + 1 + 1 + 1 + 1 + 1 + 1, 0, none⟩)], true⟩, ⟨2, 114, #[.pointer (some ⟨w.heap.size + 1 + 1 + 1 + 1 + 1 + 1 + 1 + 1 + 1 + 1 + 1 + 1, 0, none⟩), .pointer (some ⟨w.heap.size + 1 + 1 + 1 + 1 + 1 + 1 + 1 + 1 + 1 + 1 + 1, 0, none⟩)], true⟩] _ _ _ (hc.out.2.2.2.2 _ _ _ _ _ _ _ _) (by simp) (by simp) (cnds_four_at (by simp))
        (tells_four (atMost_tells true ws.length 100 ⟨w.heap.size + 1 + 1 + 1 + 1, 0, none⟩ ⟨w.heap.size + 1 + 1 + 1, 0, none⟩ ⟨w.heap.size + 1 + 1 + 1 + 1 + 1 + 1, 0, none⟩ ⟨w.heap.size + 1 + 1 + 1 + 1 + 1, 0, none⟩ _ hc.out.1 (by simp [go_sem, World.cell?_alloc_past]) (by simp [go_sem, World.cell?_alloc_past]) (by simp [go_sem, World.cell?_alloc_past]) (by simp [go_sem, World.cell?_alloc_past]))
          (fun _ => unless_tells 3 _ _ true ⟨w.heap.size + 1 + 1 + 1 + 1 + 1 + 1 + 1, 0, none⟩ ⟨w.heap.size + 1 + 1 + 1 + 1 + 1 + 1 + 1 + 1, 0, none⟩ _ rfl (portions1_tells true n ws a cap ws.length ⟨w.heap.size, 0, none⟩ ⟨w.heap.size + 1, 0, none⟩ _ hc.out.2.1 rfl (by simp [go_sem, World.cell?_alloc_past]) (by simp [go_sem, World.cell?_alloc_past]) (by omega) (ints_later h.out (by repeat (first | exact Below.refl _ _ | assumption | apply balloc | apply bdrew | (refine bset ?_ (by first | (simp; done) | omega | (simp; omega)) _) | (refine bnext ?_ (by assumption)))))) (by simp [go_sem, World.cell?_alloc_past]) (by simp [go_sem, World.cell?_alloc_past]))
          (fun _ _ => unless_tells 10 _ _ true ⟨w.heap.size + 1 + 1 + 1 + 1 + 1 + 1 + 1 + 1 + 1, 0, none⟩ ⟨w.heap.size + 1 + 1 + 1 + 1 + 1 + 1 + 1 + 1 + 1 + 1, 0, none⟩ _ rfl (portions2_tells true (sumW ws) ⟨w.heap.size + 1 + 1, 0, none⟩ _ hc.out.2.2.1 (by simp [go_sem, World.cell?_alloc_past])) (by simp [go_sem, World.cell?_alloc_past]) (by simp [go_sem, World.cell?_alloc_past]))
          (fun _ _ _ => unless_tells 2 _ _ true ⟨w.heap.size + 1 + 1 + 1 + 1 + 1 + 1 + 1 + 1 + 1 + 1 + 1, 0, none⟩ ⟨w.heap.size + 1 + 1 + 1 + 1 + 1 + 1 + 1 + 1 + 1 + 1 + 1 + 1, 0, none⟩ _ rfl (portions3_tells true (sumW ws) ⟨w.heap.size + 1 + 1, 0, none⟩ _ hc.out.2.2.2.1 (by simp [go_sem, World.cell?_alloc_past])) (by simp [go_sem, World.cell?_alloc_past]) (by simp [go_sem, World.cell?_alloc_past])))).mono ?_
      rintro e w1 ⟨rfl, hb⟩
      have c0 := later hb (a := ⟨w.heap.size, 0, none⟩) (v := .int .i64 n) (by simp [go_sem, World.cell?_alloc_past])
      have c1 := later hb (a := ⟨w.heap.size + 1, 0, none⟩) (v := .slice a ws.length cap) (by simp [go_sem, World.cell?_alloc_past])
      have c2 := later hb (a := ⟨w.heap.size + 1 + 1, 0, none⟩) (v := .int .i64 (sumW ws)) (by simp [go_sem, World.cell?_alloc_past])
      have hbl : Below w.heap.size w w1 := (by repeat (first | exact Below.refl _ _ | assumption | apply balloc | apply bdrew | (refine bset ?_ (by first | (simp; done) | omega | (simp; omega)) _) | (refine bnext ?_ (by assumption))))
      clear hb
      have M3 := hide hbl.size
      have z0 := hide (World.block_lt_of_cell? _ _ c0)
      have z1 := hide (World.block_lt_of_cell? _ _ c1)
      have z2 := hide (World.block_lt_of_cell? _ _ c2)
      go_wp2_with (at_make; refine wpList_make_full _ rfl (.tmp 43) (.tmp 43) 37 rfl w.heap.size 3 ti (.int .i64 0) 1 Try.underlying37 HI.out HZ0.out HZ1.out .i64 .i64 _ _ ws.length rfl rfl rfl rfl m1.out m2.out M3.out ?_; intro w2 hown hgrow; have hb2 := (Below.refl w1.heap.size w1).grown hgrow (Nat.le_refl _) (fun k hk => by cases hk); have d0 := later hb2 c0; have d1 := later hb2 c1; have d2 := later hb2 c2; have Hown := hide hown; clear hown hgrow c0 c1 c2)
      have hbw := bnext hbl hb2
      go_loopw [11, 12, 47] (fun bf gv i wr => ∃ k : Nat, k ≤ ws.length ∧ i = .int .i64 (k : Int) ∧ bf = .int .i64 (T k) ∧ gv = .int .i64 (U k) ∧ wr.ownsRow w.heap.size 3 1 (.slice (some ⟨w1.heap.size, 0, none⟩) ws.length ws.length) ws.length (partsAt U ws.length k) ∧
        wr.cell? ⟨w.heap.size, 0, none⟩ = some (.int .i64 n) ∧ wr.cell? ⟨w.heap.size + 1, 0, none⟩ = some (.slice a ws.length cap) ∧ wr.cell? ⟨w.heap.size + 1 + 1, 0, none⟩ = some (.int .i64 (sumW ws)) ∧ Below w.heap.size w wr) (fun _ _ i _ => ws.length - (intOf i).toNat)
      case atStart => exact ⟨0, by omega, rfl, by rw [HT0.out], by rw [HU0.out], by rw [← partsAt_zero]; exact Hown.out, d0, d1, d2, hbw⟩
      case round =>
        clear d0 d1 d2 hbw Hown hb2
        obtain ⟨k2, hk2, rfl, rfl, rfl, hown, d0, d1, d2, hbw⟩ := hrel
        by_cases hlt2 : k2 < ws.length
        · obtain ⟨b, off, rfl, hc⟩ : ∃ b off, a = some ⟨b, off, none⟩ ∧ ∀ i, i < ws.length → wr.cell? ⟨b, off + i, none⟩ = some (.int .i64 (ws.getD i 0)) := by
            rcases ints_later h.out hbw with h | h
            · subst h; simp at hlt2
            · exact h
          have hck := hc k2 hlt2
          clear hc
          have e1 := hTs.out k2 hlt2
          obtain ⟨t1, t2⟩ := HT.out (k2 + 1) (by omega)
          obtain ⟨u1, u2⟩ := HU.out (k2 + 1) (by omega)
          obtain ⟨u3, u4⟩ := HU.out k2 (by omega)
          have e2 := hUs.out (k2 + 1) (by omega)
          have C := fun W => mulDiv_any n (T (k2 + 1)) (sumW ws) 1 W
          rw [e2] at C
          have C' := hide C
          have Hown := hide hown
          clear e2 C hown
          generalize ws.getD k2 0 = z at *
          go_wp2_with fail
          refine (C'.out _).mono ?_
          rintro e w3 ⟨rfl, hb3⟩
          have hown3 := owns_later Hown.out hb3
          have q1 := hown3.cellAt k2 (by omega)
          rw [partsAt_get U ws.length k2 hlt2] at q1
          have q2 := hown3.frozenAt k2
          have Hown3 := hide (hown3.stored k2 (.int .i64 (U (k2 + 1) - U k2))).1
          have d0' := hide (later hb3 d0)
          have d1' := hide (later hb3 d1)
          have d2' := hide (later hb3 d2)
          have bs := hide ((Below.refl w1.heap.size w3).setCell (p := ⟨w1.heap.size, k2, none⟩) (Nat.le_refl _) (.int .i64 (U (k2 + 1) - U k2)))
          have be := hide ((bnext hbw hb3).setCell (p := ⟨w1.heap.size, k2, none⟩) M3.out (.int .i64 (U (k2 + 1) - U k2)))
          clear hown3
          rw [partsAt_set U ws.length k2 hlt2] at Hown3
          go_wp2_with fail
          go_roundw
          case rel => exact ⟨k2 + 1, by omega, by go_num, rfl, rfl, Hown3.out, (bs.out.cell z0.out).trans d0'.out, (bs.out.cell z1.out).trans d1'.out, (bs.out.cell z2.out).trans d2'.out, be.out⟩
          case measure => simp [intOf]; omega
        · obtain rfl : k2 = ws.length := by omega
          go_wp2_with fail
          go_ret2
          exact ⟨w1.heap.size, rfl, hown, hbw⟩
end Go.Proofs.Ytadnchcelocnaaa
