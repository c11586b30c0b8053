/-
  units: limited, total, common.
-/
import Derived.Test.YtadnchcelocnaaaTimes
namespace Go.Proofs.Ytadnchcelocnaaa
set_option linter.unusedSimpArgs false
set_option linter.unusedVariables false
open Go.RowKit

set_option maxHeartbeats 400000 in
/-- What two ranges have in common, and whether they have anything. -/
theorem common_any (al ah bl bh : Int) (w : World) :
    Calls Try.prog 90 #[.agg #[.int .i64 al, .int .i64 ah], .agg #[.int .i64 bl, .int .i64 bh]] w fun e w' => e = .returned (.tuple #[.agg #[.int .i64 (max al bl), .int .i64 (min ah bh)], .bool (decide (max al bl ≤ min ah bh))]) ∧ Below w.heap.size w w' := by
  have e1 : (if al < bl then bl else al) = max al bl := by rw [Int.max_def]; split <;> split <;> omega
  have e2 : (if bh < ah then bh else ah) = min ah bh := by rw [Int.min_def]; split <;> split <;> omega
  generalize max al bl = x at *
  generalize min ah bh = y at *
  go_enter Try.func90, Try.ntmps90
  go_wp2
  exact bodyPost_ret (v := .tuple #[.agg #[.int .i64 x, .int .i64 y], .bool (decide (x ≤ y))]) (by simp [results, Try.results90, go_sem]) rfl ⟨rfl, (by repeat (first | exact Below.refl _ _ | assumption | apply balloc | apply bdrew | (refine bset ?_ (by first | (simp; done) | omega | (simp; omega)) _) | (refine bnext ?_ (by assumption))))⟩

set_option maxHeartbeats 400000 in
theorem limited_any (x y : Int) (k : Bool) (w : World) (hk : Hid (allIn 1000000000000000 [x, y] = k)) :
    Calls Try.prog 87 #[.agg #[.int .i64 x, .int .i64 y]] w fun e w' => e = .returned (.tuple #[.agg #[.int .i64 (if k then x else 0), .int .i64 (if k then y else 0)], .int .i64 (if k then 0 else 10)]) ∧ Below w.heap.size w w' := by
  have C := fun w' hw => areNumbers_any [x, y] (some ⟨w.heap.size + 1 + 1, 0, none⟩) 2 w' hw (by simp)
  rw [hk.out] at C
  have C' := hide C
  clear C
  cases k with
  | false =>
    go_enter Try.func87, Try.ntmps87
    go_wp2_with (go_at_call 71; refine (C'.out _ (ints_two_at (by simp))).mono ?_; rintro e w' ⟨rfl, rfl⟩)
    exact bodyPost_ret (v := .tuple #[.agg #[.int .i64 0, .int .i64 0], .int .i64 10]) (by simp [results, Try.results87, go_sem]) rfl ⟨rfl, (by repeat (first | exact Below.refl _ _ | assumption | apply balloc | apply bdrew | (refine bset ?_ (by first | (simp; done) | omega | (simp; omega)) _) | (refine bnext ?_ (by assumption))))⟩
  | true =>
    go_enter Try.func87, Try.ntmps87
    go_wp2_with (go_at_call 71; refine (C'.out _ (ints_two_at (by simp))).mono ?_; rintro e w' ⟨rfl, rfl⟩)
    exact bodyPost_ret (v := .tuple #[.agg #[.int .i64 x, .int .i64 y], .int .i64 0]) (by simp [results, Try.results87, go_sem]) rfl ⟨rfl, (by repeat (first | exact Below.refl _ _ | assumption | apply balloc | apply bdrew | (refine bset ?_ (by first | (simp; done) | omega | (simp; omega)) _) | (refine bnext ?_ (by assumption))))⟩

set_option maxHeartbeats 800000 in
theorem total_any (rs : List (Int × Int)) (a : Option Addr) (cap : Nat) (w : World) (L H : Nat → Int) (hl : rs.length ≤ 1000) (h : Hid (IsPairs w a rs)) (hL0 : Hid (L 0 = 0)) (hH0 : Hid (H 0 = 0))
    (hL : Hid (∀ k, k < rs.length → L k + (rs.getD k (0, 0)).1 = L (k + 1))) (hH : Hid (∀ k, k < rs.length → H k + (rs.getD k (0, 0)).2 = H (k + 1)))
    (bL : Hid (∀ k, k ≤ rs.length → -1000000000000000000 ≤ L k ∧ L k ≤ 1000000000000000000)) (bH : Hid (∀ k, k ≤ rs.length → -1000000000000000000 ≤ H k ∧ H k ≤ 1000000000000000000)) :
    Calls Try.prog 88 #[.slice a rs.length cap] w fun e w' => e = .returned (.agg #[.int .i64 (L rs.length), .int .i64 (H rs.length)]) ∧ Below w.heap.size w w' := by
  go_enter Try.func88, Try.ntmps88
  go_wp2
  go_loopw [8] (fun i wr => ∃ k : Nat, k ≤ rs.length ∧ i = .int .i64 (k : Int) ∧ (wr.cell? ⟨w.heap.size, 0, none⟩ = some (.int .i64 0) ∧ wr.cell? ⟨w.heap.size, 1, none⟩ = some (.int .i64 0) ∧ wr.frozen? ⟨w.heap.size, 0, none⟩ = false ∧ wr.frozen? ⟨w.heap.size, 1, none⟩ = false) ∧
    (wr.cell? ⟨w.heap.size + 1, 0, none⟩ = some (.int .i64 (L k)) ∧ wr.cell? ⟨w.heap.size + 1, 1, none⟩ = some (.int .i64 (H k)) ∧ wr.frozen? ⟨w.heap.size + 1, 0, none⟩ = false ∧ wr.frozen? ⟨w.heap.size + 1, 1, none⟩ = false) ∧ Below w.heap.size w wr) (fun i _ => rs.length - (intOf i).toNat)
  case atStart => exact ⟨0, by omega, rfl, ⟨(by simp [go_sem, World.cell?_alloc_past]), (by simp [go_sem, World.cell?_alloc_past]), (by simp [go_sem, World.cell?_alloc_past]), (by simp [go_sem, World.cell?_alloc_past])⟩, ⟨by rw [hL0.out]; exact (by simp [go_sem, World.cell?_alloc_past]), by rw [hH0.out]; exact (by simp [go_sem, World.cell?_alloc_past]), (by simp [go_sem, World.cell?_alloc_past]), (by simp [go_sem, World.cell?_alloc_past])⟩, (by repeat (first | exact Below.refl _ _ | assumption | apply balloc | apply bdrew | (refine bset ?_ (by first | (simp; done) | omega | (simp; omega)) _) | (refine bnext ?_ (by assumption))))⟩
  case round =>
    obtain ⟨k, hk, rfl, ⟨r1, r2, r3, r4⟩, ⟨t1, t2, t3, t4⟩, hbw⟩ := hrel
    have z0 := World.block_lt_of_cell? _ _ t1
    simp only at z0
    by_cases hlt : k < rs.length
    · obtain ⟨b, off, rfl, hc⟩ : ∃ b off, a = some ⟨b, off, none⟩ ∧ ∀ i, i < rs.length → wr.cell? ⟨b, off + i * 2, none⟩ = some (.int .i64 (rs.getD i (0, 0)).1) ∧ wr.cell? ⟨b, off + i * 2 + 1, none⟩ = some (.int .i64 (rs.getD i (0, 0)).2) := by
        rcases pairs_later h.out hbw with h | h
        · subst h; simp at hlt
        · exact h
      obtain ⟨c1, c2⟩ := hc k hlt
      clear hc
      have e1 := hL.out k hlt
      have e2 := hH.out k hlt
      obtain ⟨x1, x2⟩ := bL.out (k + 1) (by omega)
      obtain ⟨x3, x4⟩ := bH.out (k + 1) (by omega)
      generalize rs.getD k (0, 0) = z at *
      obtain ⟨x, y⟩ := z
      simp only at c1 c2 e1 e2
      have Y := two_set (x := .int .i64 (L (k + 1))) (y := .int .i64 (H (k + 1))) t1 t2
      have F1 : ((wr.setCell ⟨w.heap.size + 1, 0, none⟩ (.int .i64 (L (k + 1)))).setCell ⟨w.heap.size + 1, 1, none⟩ (.int .i64 (H (k + 1)))).frozen? ⟨w.heap.size + 1, 0, none⟩ = false := by simp [go_sem, t3]
      have F2 : ((wr.setCell ⟨w.heap.size + 1, 0, none⟩ (.int .i64 (L (k + 1)))).setCell ⟨w.heap.size + 1, 1, none⟩ (.int .i64 (H (k + 1)))).frozen? ⟨w.heap.size + 1, 1, none⟩ = false := by simp [go_sem, t4]
      have HY := hide Y
      have HF1 := hide F1
      have HF2 := hide F2
      clear Y F1 F2
      go_wp2
      go_roundw
      case rel =>
        have Ta : ∀ o, Touch (w.heap.size + 1) wr (((wr.setCell ⟨w.heap.size + 1, 0, none⟩ (.int .i64 (L (k + 1)))).setCell ⟨w.heap.size + 1, 1, none⟩ (.int .i64 (H (k + 1)))).alloc o) := fun o => (by repeat (first | exact Touch.refl _ _ | assumption | (refine tset ?_ (by rfl) _) | apply talloc | apply tdrew | (refine tnext ?_ (by assumption)) | (refine Touch.trans ?_ (by assumption))))
        have Be := fun o => balloc (o := o) (Below.refl _ ((wr.setCell ⟨w.heap.size + 1, 0, none⟩ (.int .i64 (L (k + 1)))).setCell ⟨w.heap.size + 1, 1, none⟩ (.int .i64 (H (k + 1)))))
        exact ⟨k + 1, by omega, by go_num, ⟨(Ta _).cell (by simp) r1, (Ta _).cell (by simp) r2, (Ta _).free (by simp) r1 r3, (Ta _).free (by simp) r2 r4⟩,
          ⟨later (Be _) HY.out.1, later (Be _) HY.out.2, free_later (Be _) HY.out.1 HF1.out, free_later (Be _) HY.out.2 HF2.out⟩, (Ta _).below hbw (by omega)⟩
      case measure => simp [intOf]; omega
    · obtain rfl : k = rs.length := by omega
      go_wp2
      exact bodyPost_ret (v := .agg #[.int .i64 (L rs.length), .int .i64 (H rs.length)]) (by simp [results, Try.results88, go_sem, r1, r2]) rfl ⟨rfl, (by repeat (first | exact Below.refl _ _ | assumption | apply balloc | apply bdrew | (refine bset ?_ (by first | (simp; done) | omega | (simp; omega)) _) | (refine bnext ?_ (by assumption))))⟩
end Go.Proofs.Ytadnchcelocnaaa
