/-
  The statements' own helpers: sameInts, sameRanges, hill.
-/
import Derived.Test.YtckapcfofkeicaaConds
import Derived.BigQuiet
namespace Go.Proofs.Ytckapcfofkeicaa
set_option linter.unusedSimpArgs false
set_option linter.unusedVariables false
open Go.RowKit

theorem take_step {α : Type} {zs ys : List α} {k : Nat} {d : α} (h : zs.take k = ys.take k) (hk : k < zs.length) (hy : k < ys.length) (he : zs.getD k d = ys.getD k d) : zs.take (k + 1) = ys.take (k + 1) := by
  rw [List.take_succ_eq_append_getElem hk, List.take_succ_eq_append_getElem hy, h]
  simp only [List.getD_eq_getElem?_getD, List.getElem?_eq_getElem hk, List.getElem?_eq_getElem hy, Option.getD_some] at he
  rw [he]
theorem take_differ {α : Type} {zs ys : List α} {k : Nat} {d : α} (he : ¬ zs.getD k d = ys.getD k d) : zs ≠ ys := by
  rintro rfl; exact he rfl
theorem take_all {α : Type} {zs ys : List α} {k : Nat} (h : zs.take k = ys.take k) (hk : ¬ k < zs.length) (hl : zs.length = ys.length) : zs = ys := by
  rwa [List.take_of_length_le (by omega), List.take_of_length_le (by omega)] at h

set_option maxHeartbeats 1000000 in
theorem sameInts_any (a b : Option Addr) (ca cb : Nat) (zs ys : List Int) (w : World) (hl : zs.length ≤ 140737488351232) (hm : ys.length ≤ 140737488351232) (h1 : IsInts w a zs) (h2 : IsInts w b ys) :
    Calls Try.prog 29 #[.slice a zs.length ca, .slice b ys.length cb] w fun e w' => e = .returned (.bool (decide (zs = ys))) ∧ Below w.heap.size w w' := by
  have H1 := hide h1
  have H2 := hide h2
  clear h1 h2
  by_cases hlen : zs.length = ys.length
  · have hb : ((zs.length : Int) != (ys.length : Int)) = false := by simp [hlen]
    have HL := hide hlen
    clear hlen
    go_enter Try.func29, Try.ntmps29
    go_wp2_with fail
    go_loopw [5] (fun i wr => ∃ k : Nat, k ≤ zs.length ∧ i = .int .i64 (k : Int) ∧ zs.take k = ys.take k ∧ Below w.heap.size w wr) (fun i _ => zs.length - (intOf i).toNat)
    case atStart => exact ⟨0, by omega, rfl, rfl, Below.refl _ _⟩
    case round =>
      obtain ⟨k, hk, rfl, hall, hbw⟩ := hrel
      have Hall := hide hall
      clear hall
      by_cases hlt : k < zs.length
      · have hlt2 : k < ys.length := by have := HL.out; omega
        obtain ⟨b1, o1, rfl, hc1⟩ : ∃ b off, a = some ⟨b, off, none⟩ ∧ ∀ i, i < zs.length → wr.cell? ⟨b, off + i, none⟩ = some (.int .i64 (zs.getD i 0)) := by
          rcases ints_later H1.out hbw with h | h
          · subst h; simp at hlt
          · exact h
        obtain ⟨b2, o2, rfl, hc2⟩ : ∃ b' off, b = some ⟨b', off, none⟩ ∧ ∀ i, i < ys.length → wr.cell? ⟨b', off + i, none⟩ = some (.int .i64 (ys.getD i 0)) := by
          rcases ints_later H2.out hbw with h | h
          · subst h; simp at hlt2
          · exact h
        have c1 := hc1 k hlt
        have c2 := hc2 k hlt2
        clear hc1 hc2
        have S1 := hide fun h => take_step (d := 0) Hall.out hlt hlt2 h
        have S2 := hide fun h => take_differ (zs := zs) (ys := ys) (k := k) (d := 0) h
        generalize zs.getD k 0 = x at *
        generalize ys.getD k 0 = y at *
        by_cases hxy : x = y
        · subst hxy
          have E := hide (S1.out rfl)
          go_wp2_with fail
          go_quiet (fail)
          go_wp2_with fail
          go_roundw
          case rel => exact ⟨k + 1, by omega, by go_num, E.out, below_drewN hbw _⟩
          case measure => simp [intOf]; omega
        · have E := S2.out hxy
          have hne : (x != y) = true := by simpa using hxy
          clear hxy
          go_wp2_with fail
          go_quiet (fail)
          go_wp2_with fail
          go_ret
          exact ⟨ret_bool (decide_eq_false E).symm, below_drewN hbw _⟩
      · have E := hide (take_all Hall.out hlt HL.out)
        have hlt' : ¬ (k : Int) < (zs.length : Int) := by omega
        go_wp2
        go_ret
        exact ⟨ret_bool (decide_eq_true E.out).symm, hbw⟩
  · have hb : ((zs.length : Int) != (ys.length : Int)) = true := by simp; omega
    have E : zs ≠ ys := by rintro rfl; exact hlen rfl
    clear hlen
    go_enter Try.func29, Try.ntmps29
    go_wp2_with fail
    go_ret
    exact ⟨ret_bool (decide_eq_false E).symm, (by repeat (first | exact Below.refl _ _ | assumption | apply balloc | apply bdrew | (refine bset ?_ (by first | (simp; done) | omega | (simp; omega)) _) | (refine bnext ?_ (by assumption))))⟩

set_option maxHeartbeats 1000000 in
theorem sameRanges_any (a b : Option Addr) (ca cb : Nat) (zs ys : List (Int × Int)) (w : World) (hl : zs.length ≤ 140737488351232) (hm : ys.length ≤ 140737488351232) (h1 : IsPairs w a zs) (h2 : IsPairs w b ys) :
    Calls Try.prog 37 #[.slice a zs.length ca, .slice b ys.length cb] w fun e w' => e = .returned (.bool (decide (zs = ys))) ∧ Below w.heap.size w w' := by
  have H1 := hide h1
  have H2 := hide h2
  clear h1 h2
  by_cases hlen : zs.length = ys.length
  · have hb : ((zs.length : Int) != (ys.length : Int)) = false := by simp [hlen]
    have HL := hide hlen
    clear hlen
    go_enter Try.func37, Try.ntmps37
    go_wp2_with fail
    go_loopw [5] (fun i wr => ∃ k : Nat, k ≤ zs.length ∧ i = .int .i64 (k : Int) ∧ zs.take k = ys.take k ∧ Below w.heap.size w wr) (fun i _ => zs.length - (intOf i).toNat)
    case atStart => exact ⟨0, by omega, rfl, rfl, Below.refl _ _⟩
    case round =>
      obtain ⟨k, hk, rfl, hall, hbw⟩ := hrel
      have Hall := hide hall
      clear hall
      by_cases hlt : k < zs.length
      · have hlt2 : k < ys.length := by have := HL.out; omega
        obtain ⟨b1, o1, rfl, hc1⟩ : ∃ b off, a = some ⟨b, off, none⟩ ∧ ∀ i, i < zs.length → wr.cell? ⟨b, off + i * 2, none⟩ = some (.int .i64 (zs.getD i (0, 0)).1) ∧ wr.cell? ⟨b, off + i * 2 + 1, none⟩ = some (.int .i64 (zs.getD i (0, 0)).2) := by
          rcases pairs_later H1.out hbw with h | h
          · subst h; simp at hlt
          · exact h
        obtain ⟨b2, o2, rfl, hc2⟩ : ∃ b' off, b = some ⟨b', off, none⟩ ∧ ∀ i, i < ys.length → wr.cell? ⟨b', off + i * 2, none⟩ = some (.int .i64 (ys.getD i (0, 0)).1) ∧ wr.cell? ⟨b', off + i * 2 + 1, none⟩ = some (.int .i64 (ys.getD i (0, 0)).2) := by
          rcases pairs_later H2.out hbw with h | h
          · subst h; simp at hlt2
          · exact h
        obtain ⟨c1, c2⟩ := hc1 k hlt
        obtain ⟨c3, c4⟩ := hc2 k hlt2
        clear hc1 hc2
        have S1 := hide fun h => take_step (d := ((0, 0) : Int × Int)) Hall.out hlt hlt2 h
        have S2 := hide fun h => take_differ (zs := zs) (ys := ys) (k := k) (d := ((0, 0) : Int × Int)) h
        generalize zs.getD k (0, 0) = x at *
        generalize ys.getD k (0, 0) = y at *
        obtain ⟨x1, x2⟩ := x
        obtain ⟨y1, y2⟩ := y
        simp only at c1 c2 c3 c4
        by_cases hxy : x1 = y1
        · subst hxy
          by_cases hxy2 : x2 = y2
          · subst hxy2
            have E := hide (S1.out rfl)
            go_wp2_with fail
            go_quiet (fail)
            go_wp2_with fail
            go_roundw
            case rel => exact ⟨k + 1, by omega, by go_num, E.out, below_drewN hbw _⟩
            case measure => simp [intOf]; omega
          · have E := S2.out (by simpa using hxy2)
            have hne : (x2 == y2) = false := by simpa using hxy2
            clear hxy2
            go_wp2_with fail
            go_quiet (fail)
            go_wp2_with fail
            go_ret
            exact ⟨ret_bool (decide_eq_false E).symm, below_drewN hbw _⟩
        · have E := S2.out (by simp; intro h; exact absurd h hxy)
          have hne : (x1 == y1) = false := by simpa using hxy
          clear hxy
          go_wp2_with fail
          go_quiet (fail)
          go_wp2_with fail
          go_ret
          exact ⟨ret_bool (decide_eq_false E).symm, below_drewN hbw _⟩
      · have E := hide (take_all Hall.out hlt HL.out)
        have hlt' : ¬ (k : Int) < (zs.length : Int) := by omega
        go_wp2
        go_ret
        exact ⟨ret_bool (decide_eq_true E.out).symm, hbw⟩
  · have hb : ((zs.length : Int) != (ys.length : Int)) = true := by simp; omega
    have E : zs ≠ ys := by rintro rfl; exact hlen rfl
    clear hlen
    go_enter Try.func37, Try.ntmps37
    go_wp2_with fail
    go_ret
    exact ⟨ret_bool (decide_eq_false E).symm, (by repeat (first | exact Below.refl _ _ | assumption | apply balloc | apply bdrew | (refine bset ?_ (by first | (simp; done) | omega | (simp; omega)) _) | (refine bnext ?_ (by assumption))))⟩

/-- The table of the document's examples. -/
def hillK : List (Int × Int) := [(0, 0), (10, 5), (20, 0)]
theorem hill_any (w : World) :
    Calls Try.prog 77 #[] w fun e w' => e = .returned (.slice (some ⟨w.heap.size, 0, none⟩) 3 3) ∧ IsPairs w' (some ⟨w.heap.size, 0, none⟩) hillK ∧ Below w.heap.size w w' := by
  go_enter Try.func77, Try.ntmps77
  go_wp2_with fail
  exact bodyPost_ret (v := .slice (some ⟨w.heap.size, 0, none⟩) 3 3) (by simp [results, Try.results77, go_sem]) rfl ⟨rfl, pairs_three_of (by simp [go_sem, World.cell?_alloc_past]) (by simp [go_sem, World.cell?_alloc_past]) (by simp [go_sem, World.cell?_alloc_past]) (by simp [go_sem, World.cell?_alloc_past]) (by simp [go_sem, World.cell?_alloc_past]) (by simp [go_sem, World.cell?_alloc_past]), (by repeat (first | exact Below.refl _ _ | assumption | apply balloc | apply bdrew | (refine bset ?_ (by first | (simp; done) | omega | (simp; omega)) _) | (refine bnext ?_ (by assumption))))⟩
end Go.Proofs.Ytckapcfofkeicaa
