/-
  check.AtMost, and units: validRanges, validFractions.
-/
import Derived.Test.YtlpdbjkpgfpjjaaGreatFirst
import Derived.Shelf.Abstract
namespace Go.Proofs.YtlpdbjkpgfpjjaaGreat
set_option linter.unusedSimpArgs false
set_option linter.unusedVariables false
open Go.RowKit

/-- The elements of a slice of structs of two integers (ranges, fractions, knots), as they lie in memory. -/
def IsPairs (w : World) (a : Option Addr) (ps : List (Int × Int)) : Prop :=
  ps = [] ∨ ∃ b off, a = some ⟨b, off, none⟩ ∧ ∀ i, i < ps.length → w.cell? ⟨b, off + i * 2, none⟩ = some (.int .i64 (ps.getD i (0, 0)).1) ∧ w.cell? ⟨b, off + i * 2 + 1, none⟩ = some (.int .i64 (ps.getD i (0, 0)).2)
theorem pairs_later {w W : World} {a : Option Addr} {ps : List (Int × Int)} (h : IsPairs w a ps) (hb : Below w.heap.size w W) : IsPairs W a ps := by
  rcases h with h | ⟨b, off, e, h⟩
  · exact .inl h
  · exact .inr ⟨b, off, e, fun i hi => ⟨later hb (h i hi).1, later hb (h i hi).2⟩⟩
theorem ints_later {w W : World} {a : Option Addr} {zs : List Int} (h : IsInts w a zs) (hb : Below w.heap.size w W) : IsInts W a zs := by
  rcases h with h | ⟨b, off, e, h⟩
  · exact .inl h
  · exact .inr ⟨b, off, e, fun i hi => later hb (h i hi)⟩

/-- A list of which every element passes a test: one element more, or one that does not pass. -/
theorem all_step {α : Type} {f : α → Bool} {l : List α} {d : α} {k : Nat} (hk : k < l.length) (h : (l.take k).all f = true) (h1 : f (l.getD k d) = true) : (l.take (k + 1)).all f = true := by
  rw [List.take_succ_eq_append_getElem hk, List.all_append, h]
  simp only [List.getD_eq_getElem?_getD, List.getElem?_eq_getElem hk, Option.getD_some] at h1
  simp [h1]
theorem all_stop {α : Type} {f : α → Bool} {l : List α} {d : α} {k : Nat} (hk : k < l.length) (h1 : f (l.getD k d) = false) : l.all f = false := by
  simp only [List.getD_eq_getElem?_getD, List.getElem?_eq_getElem hk, Option.getD_some] at h1
  rw [List.all_eq_false]
  exact ⟨l[k], List.getElem_mem hk, by simp [h1]⟩
theorem all_end {α : Type} {f : α → Bool} {l : List α} {k : Nat} (hk : ¬ k < l.length) (h : (l.take k).all f = true) : l.all f = true := by
  rwa [List.take_of_length_le (by omega)] at h

theorem enters_any {f : FuncId} {fn : Func} {c : Code} (hf : Tryz.prog.funcs[f]? = some fn) (hname : (fn.name == "runtime.NumGoroutine") = false) (hb : fn.body = some c) (args : Array Value) (W : World) : (callFunc f args).run Tryz.prog W = .ok (.enter f args) W := enters_of hf hname hb args W

theorem ints_two_at {w : World} {n : Nat} {a b : Int} {T : TypeId} (hn : w.heap.size = n) : IsInts (w.alloc (.cells #[.int .i64 a, .int .i64 b] T)) (some ⟨n, 0, none⟩) [a, b] := by subst hn; exact ints_two w a b T
theorem ints_one_at {w : World} {n : Nat} {a : Int} {T : TypeId} (hn : w.heap.size = n) : IsInts (w.alloc (.cells #[.int .i64 a] T)) (some ⟨n, 0, none⟩) [a] := by subst hn; exact ints_one w a T

/-! ### atMost -/
theorem atMost1_any (l m : Int) (p q : Addr) (w : World) (hp : w.cell? p = some (.int .i64 l)) (hq : w.cell? q = some (.int .i64 m)) :
    Calls Tryz.prog 119 #[.pointer (some p), .pointer (some q)] w fun e w' => e = .returned (.bool (decide (l ≤ m))) ∧ w = w' := by
  go_enter Tryz.func119, Tryz.ntmps119
  go_wp2
  go_ret
  exact ⟨rfl, rfl⟩
theorem atMost1_tells (k : Bool) (l m : Int) (p q : Addr) (w : World) (hk : decide (l ≤ m) = k) (hp : w.cell? p = some (.int .i64 l)) (hq : w.cell? q = some (.int .i64 m)) :
    Tells w 119 #[.pointer (some p), .pointer (some q)] k := by
  subst hk
  exact ⟨enters_any Tryz.func119 (by kernel_rfl) rfl _, fun W hW => (atMost1_any l m p q W (later hW hp) (later hW hq)).mono (by rintro e w' ⟨rfl, rfl⟩; exact ⟨rfl, Below.refl _ _⟩)⟩
theorem atMost_any (m l : Int) (w : World) :
    Calls Tryz.prog 70 #[.int .i64 m, .int .i64 l] w fun e w' => e = .returned (.func (.func 109) #[] #[.pointer (some ⟨w.heap.size + 1 + 1 + 1, 0, none⟩), .pointer (some ⟨w.heap.size + 1 + 1, 0, none⟩)]) ∧
      (((w.alloc (.cells #[.int .i64 m] 3)).alloc (.cells #[.int .i64 l] 3)).alloc (.cells #[.int .i64 5] 27)).alloc (.cells #[.func (.func 119) #[] #[.pointer (some ⟨w.heap.size + 1, 0, none⟩), .pointer (some ⟨w.heap.size, 0, none⟩)]] 34) = w' := by
  go_enter Tryz.func70, Tryz.ntmps70
  go_wp2_with (go_at_call 52; refine (unless_any _ _ _ _).mono ?_; rintro e w' ⟨rfl, rfl⟩)
  exact bodyPost_ret (v := .func (.func 109) #[] #[.pointer (some ⟨w.heap.size + 1 + 1 + 1, 0, none⟩), .pointer (some ⟨w.heap.size + 1 + 1, 0, none⟩)]) (by simp [results, Tryz.results70, go_sem]) rfl ⟨rfl, rfl⟩
theorem atMost_tells (k : Bool) (l m : Int) (p q r s : Addr) (w : World) (hk : decide (l ≤ m) = k) (hp : w.cell? p = some (.int .i64 l)) (hq : w.cell? q = some (.int .i64 m))
    (hr : w.cell? r = some (.func (.func 119) #[] #[.pointer (some p), .pointer (some q)])) (hs : w.cell? s = some (.int .i64 5)) :
    CndTells w ⟨5, 109, #[.pointer (some r), .pointer (some s)], k⟩ := unless_tells 5 _ _ k s r w rfl (atMost1_tells k l m p q w hk hp hq) hs hr
theorem atMost_ex (k : Bool) (m l : Int) (w : World) (hk : decide (l ≤ m) = k) :
    Calls Tryz.prog 70 #[.int .i64 m, .int .i64 l] w fun e w' => e = .returned (.func (.func 109) #[] #[.pointer (some ⟨w.heap.size + 1 + 1 + 1, 0, none⟩), .pointer (some ⟨w.heap.size + 1 + 1, 0, none⟩)]) ∧
      CndTells w' ⟨5, 109, #[.pointer (some ⟨w.heap.size + 1 + 1 + 1, 0, none⟩), .pointer (some ⟨w.heap.size + 1 + 1, 0, none⟩)], k⟩ ∧ Below w.heap.size w w' :=
  (atMost_any m l w).mono (by
    rintro e w' ⟨rfl, rfl⟩
    exact ⟨rfl, atMost_tells k l m ⟨w.heap.size + 1, 0, none⟩ ⟨w.heap.size, 0, none⟩ ⟨w.heap.size + 1 + 1 + 1, 0, none⟩ ⟨w.heap.size + 1 + 1, 0, none⟩ _ hk (by simp [go_sem, World.cell?_alloc_past]) (by simp [go_sem, World.cell?_alloc_past]) (by simp [go_sem, World.cell?_alloc_past]) (by simp [go_sem, World.cell?_alloc_past]), (by repeat (first | exact Below.refl _ _ | assumption | apply balloc | apply bdrew | (refine below_drewN ?_ _) | (refine bset ?_ (by first | (simp; done) | omega | (simp; omega)) _) | (refine bnext ?_ (by assumption))))⟩)

/-! ### validRanges -/
def rangeOk (r : Int × Int) : Bool := allIn 1000000000000000 [r.1, r.2] && decide (r.1 ≤ r.2)
set_option maxHeartbeats 1000000 in
theorem validRanges1_any (a : Option Addr) (cap : Nat) (rs : List (Int × Int)) (p : Addr) (w : World) (hl : rs.length ≤ 140737488351232) (hp : w.cell? p = some (.slice a rs.length cap)) (h : IsPairs w a rs) :
    Calls Tryz.prog 135 #[.pointer (some p)] w fun e w' => e = .returned (.bool (rs.all rangeOk)) ∧ Below w.heap.size w w' := by
  have hd : Hid (IsPairs w a rs) := h
  clear h
  go_enter Tryz.func135, Tryz.ntmps135
  go_wp2
  go_loopw [6] (fun i wr => ∃ k : Nat, k ≤ rs.length ∧ i = .int .i64 (k : Int) ∧ (rs.take k).all rangeOk = true ∧ Below w.heap.size w wr) (fun i _ => rs.length - (intOf i).toNat)
  case atStart => exact ⟨0, by omega, rfl, rfl, Below.refl _ _⟩
  case round =>
    obtain ⟨k, hk, rfl, hall, hbw⟩ := hrel
    have Hall := hide hall
    clear hall
    by_cases hlt : k < rs.length
    · obtain ⟨b, off, rfl, hc⟩ : ∃ b off, a = some ⟨b, off, none⟩ ∧ ∀ i, i < rs.length → wr.cell? ⟨b, off + i * 2, none⟩ = some (.int .i64 (rs.getD i (0, 0)).1) ∧ wr.cell? ⟨b, off + i * 2 + 1, none⟩ = some (.int .i64 (rs.getD i (0, 0)).2) := by
        rcases pairs_later hd.out hbw with h | h
        · subst h; simp at hlt
        · exact h
      obtain ⟨c1, c2⟩ := hc k hlt
      clear hc
      have S1 := hide (all_step (f := rangeOk) (d := (0, 0)) hlt Hall.out)
      have S2 := hide (all_stop (f := rangeOk) (l := rs) (d := (0, 0)) hlt)
      generalize rs.getD k (0, 0) = z at *
      obtain ⟨x, y⟩ := z
      simp only at c1 c2
      cases hA : allIn 1000000000000000 [x, y] with
      | false =>
        have E := S2.out (by simp [rangeOk, hA])
        have C := hide fun w' hw => areNumbers_any [x, y] (some ⟨wr.heap.size + 1, 0, none⟩) 2 w' hw (by simp)
        rw [hA] at C
        clear hA
        go_wp2_with (go_at_call 103; refine (C.out _ (ints_two_at (by simp))).mono ?_; rintro e w' ⟨rfl, rfl⟩)
        go_ret
        exact ⟨ret_bool E.symm, balloc (balloc hbw)⟩
      | true =>
        have C := hide fun w' hw => areNumbers_any [x, y] (some ⟨wr.heap.size + 1, 0, none⟩) 2 w' hw (by simp)
        rw [hA] at C
        by_cases hxy : y < x
        · have E := S2.out (by simp [rangeOk]; intro; omega)
          clear hA
          go_wp2_with (go_at_call 103; refine (C.out _ (ints_two_at (by simp))).mono ?_; rintro e w' ⟨rfl, rfl⟩)
          go_ret
          exact ⟨ret_bool E.symm, balloc (balloc hbw)⟩
        · have E := hide (S1.out (by simp [rangeOk, hA]; omega))
          clear hA
          go_wp2_with (go_at_call 103; refine (C.out _ (ints_two_at (by simp))).mono ?_; rintro e w' ⟨rfl, rfl⟩)
          go_roundw
          case rel => exact ⟨k + 1, by omega, by go_num, E.out, balloc (balloc hbw)⟩
          case measure => simp [intOf]; omega
    · have E := all_end hlt Hall.out
      go_wp2
      go_ret
      exact ⟨ret_bool E.symm, hbw⟩
theorem validRanges1_tells (k : Bool) (a : Option Addr) (cap n : Nat) (rs : List (Int × Int)) (p : Addr) (w : World) (hk : rs.all rangeOk = k) (hn : n = rs.length) (hl : rs.length ≤ 140737488351232) (hp : w.cell? p = some (.slice a n cap)) (h : IsPairs w a rs) :
    Tells w 135 #[.pointer (some p)] k := by
  subst hn hk
  exact ⟨enters_any Tryz.func135 (by kernel_rfl) rfl _, fun W hW => validRanges1_any a cap rs p W hl (later hW hp) (pairs_later h hW)⟩
theorem validRanges_any (a : Option Addr) (n cap : Nat) (w : World) :
    Calls Tryz.prog 92 #[.slice a n cap] w fun e w' => e = .returned (.func (.func 109) #[] #[.pointer (some ⟨w.heap.size + 1 + 1, 0, none⟩), .pointer (some ⟨w.heap.size + 1, 0, none⟩)]) ∧
      ((w.alloc (.cells #[.slice a n cap] 41)).alloc (.cells #[.int .i64 2] 27)).alloc (.cells #[.func (.func 135) #[] #[.pointer (some ⟨w.heap.size, 0, none⟩)]] 34) = w' := by
  go_enter Tryz.func92, Tryz.ntmps92
  go_wp2_with (go_at_call 52; refine (unless_any _ _ _ _).mono ?_; rintro e w' ⟨rfl, rfl⟩)
  exact bodyPost_ret (v := .func (.func 109) #[] #[.pointer (some ⟨w.heap.size + 1 + 1, 0, none⟩), .pointer (some ⟨w.heap.size + 1, 0, none⟩)]) (by simp [results, Tryz.results92, go_sem]) rfl ⟨rfl, rfl⟩
theorem validRanges_tells (k : Bool) (a : Option Addr) (cap n : Nat) (rs : List (Int × Int)) (p r s : Addr) (w : World) (hk : rs.all rangeOk = k) (hn : n = rs.length) (hl : rs.length ≤ 140737488351232) (hp : w.cell? p = some (.slice a n cap))
    (hr : w.cell? r = some (.func (.func 135) #[] #[.pointer (some p)])) (hs : w.cell? s = some (.int .i64 2)) (h : IsPairs w a rs) :
    CndTells w ⟨2, 109, #[.pointer (some r), .pointer (some s)], k⟩ := unless_tells 2 _ _ k s r w rfl (validRanges1_tells k a cap n rs p w hk hn hl hp h) hs hr
theorem validRanges_ex (k : Bool) (a : Option Addr) (cap n : Nat) (rs : List (Int × Int)) (w : World) (hk : rs.all rangeOk = k) (hn : n = rs.length) (hl : rs.length ≤ 140737488351232) (h : IsPairs w a rs) :
    Calls Tryz.prog 92 #[.slice a n cap] w fun e w' => e = .returned (.func (.func 109) #[] #[.pointer (some ⟨w.heap.size + 1 + 1, 0, none⟩), .pointer (some ⟨w.heap.size + 1, 0, none⟩)]) ∧
      CndTells w' ⟨2, 109, #[.pointer (some ⟨w.heap.size + 1 + 1, 0, none⟩), .pointer (some ⟨w.heap.size + 1, 0, none⟩)], k⟩ ∧ Below w.heap.size w w' :=
  (validRanges_any a n cap w).mono (by
    rintro e w' ⟨rfl, rfl⟩
    exact ⟨rfl, validRanges_tells k a cap n rs ⟨w.heap.size, 0, none⟩ ⟨w.heap.size + 1 + 1, 0, none⟩ ⟨w.heap.size + 1, 0, none⟩ _ hk hn hl (by simp [go_sem, World.cell?_alloc_past]) (by simp [go_sem, World.cell?_alloc_past]) (by simp [go_sem, World.cell?_alloc_past]) (pairs_later h (by repeat (first | exact Below.refl _ _ | assumption | apply balloc | apply bdrew | (refine below_drewN ?_ _) | (refine bset ?_ (by first | (simp; done) | omega | (simp; omega)) _) | (refine bnext ?_ (by assumption))))), (by repeat (first | exact Below.refl _ _ | assumption | apply balloc | apply bdrew | (refine below_drewN ?_ _) | (refine bset ?_ (by first | (simp; done) | omega | (simp; omega)) _) | (refine bnext ?_ (by assumption))))⟩)

/-! ### validFractions -/
def fracOk (f : Int × Int) : Bool := allIn 1000000000000000 [f.1] && isDiv f.2
set_option maxHeartbeats 1000000 in
theorem validFractions1_any (a : Option Addr) (cap : Nat) (rs : List (Int × Int)) (p : Addr) (w : World) (hl : rs.length ≤ 140737488351232) (hp : w.cell? p = some (.slice a rs.length cap)) (h : IsPairs w a rs) :
    Calls Tryz.prog 131 #[.pointer (some p)] w fun e w' => e = .returned (.bool (rs.all fracOk)) ∧ Below w.heap.size w w' := by
  have hd : Hid (IsPairs w a rs) := h
  clear h
  go_enter Tryz.func131, Tryz.ntmps131
  go_wp2
  go_loopw [6] (fun i wr => ∃ k : Nat, k ≤ rs.length ∧ i = .int .i64 (k : Int) ∧ (rs.take k).all fracOk = true ∧ Below w.heap.size w wr) (fun i _ => rs.length - (intOf i).toNat)
  case atStart => exact ⟨0, by omega, rfl, rfl, Below.refl _ _⟩
  case round =>
    obtain ⟨k, hk, rfl, hall, hbw⟩ := hrel
    have Hall := hide hall
    clear hall
    by_cases hlt : k < rs.length
    · obtain ⟨b, off, rfl, hc⟩ : ∃ b off, a = some ⟨b, off, none⟩ ∧ ∀ i, i < rs.length → wr.cell? ⟨b, off + i * 2, none⟩ = some (.int .i64 (rs.getD i (0, 0)).1) ∧ wr.cell? ⟨b, off + i * 2 + 1, none⟩ = some (.int .i64 (rs.getD i (0, 0)).2) := by
        rcases pairs_later hd.out hbw with h | h
        · subst h; simp at hlt
        · exact h
      obtain ⟨c1, c2⟩ := hc k hlt
      clear hc
      have S1 := hide (all_step (f := fracOk) (d := (0, 0)) hlt Hall.out)
      have S2 := hide (all_stop (f := fracOk) (l := rs) (d := (0, 0)) hlt)
      generalize rs.getD k (0, 0) = z at *
      obtain ⟨x, y⟩ := z
      simp only at c1 c2
      have C := fun w' hw => areNumbers_any [x] (some ⟨wr.heap.size + 1, 0, none⟩) 1 w' hw (by simp)
      have D := fun w' => isDivisor_any y w'
      cases hA : allIn 1000000000000000 [x] with
      | false =>
        have E := S2.out (by simp [fracOk, hA])
        rw [hA] at C
        have C' := hide C
        clear hA C D
        go_wp2_with (go_at_call 103; refine (C'.out _ (ints_one_at (by simp))).mono ?_; rintro e w' ⟨rfl, rfl⟩)
        go_ret
        exact ⟨ret_bool E.symm, balloc (balloc hbw)⟩
      | true =>
        rw [hA] at C
        have C' := hide C
        clear C
        cases hB : isDiv y with
        | false =>
          have E := S2.out (by simp [fracOk, hB])
          rw [hB] at D
          have D' := hide D
          clear hA hB D
          go_wp2_with (first | (go_at_call 103; refine (C'.out _ (ints_one_at (by simp))).mono ?_; rintro e w' ⟨rfl, rfl⟩) | (go_at_call 104; refine (D'.out _).mono ?_; rintro e w' ⟨rfl, hb⟩))
          go_ret
          exact ⟨ret_bool E.symm, bnext (balloc (balloc hbw)) (by assumption)⟩
        | true =>
          have E := hide (S1.out (by simp [fracOk, hA, hB]))
          rw [hB] at D
          have D' := hide D
          clear hA hB D
          go_wp2_with (first | (go_at_call 103; refine (C'.out _ (ints_one_at (by simp))).mono ?_; rintro e w' ⟨rfl, rfl⟩) | (go_at_call 104; refine (D'.out _).mono ?_; rintro e w' ⟨rfl, hb⟩))
          go_roundw
          case rel => exact ⟨k + 1, by omega, by go_num, E.out, bnext (balloc (balloc hbw)) (by assumption)⟩
          case measure => simp [intOf]; omega
    · have E := all_end hlt Hall.out
      go_wp2
      go_ret
      exact ⟨ret_bool E.symm, hbw⟩
theorem validFractions1_tells (k : Bool) (a : Option Addr) (cap n : Nat) (rs : List (Int × Int)) (p : Addr) (w : World) (hk : rs.all fracOk = k) (hn : n = rs.length) (hl : rs.length ≤ 140737488351232) (hp : w.cell? p = some (.slice a n cap)) (h : IsPairs w a rs) :
    Tells w 131 #[.pointer (some p)] k := by
  subst hn hk
  exact ⟨enters_any Tryz.func131 (by kernel_rfl) rfl _, fun W hW => validFractions1_any a cap rs p W hl (later hW hp) (pairs_later h hW)⟩
theorem validFractions_any (a : Option Addr) (n cap : Nat) (w : World) :
    Calls Tryz.prog 89 #[.slice a n cap] w fun e w' => e = .returned (.func (.func 109) #[] #[.pointer (some ⟨w.heap.size + 1 + 1, 0, none⟩), .pointer (some ⟨w.heap.size + 1, 0, none⟩)]) ∧
      ((w.alloc (.cells #[.slice a n cap] 186)).alloc (.cells #[.int .i64 2] 27)).alloc (.cells #[.func (.func 131) #[] #[.pointer (some ⟨w.heap.size, 0, none⟩)]] 34) = w' := by
  go_enter Tryz.func89, Tryz.ntmps89
  go_wp2_with (go_at_call 52; refine (unless_any _ _ _ _).mono ?_; rintro e w' ⟨rfl, rfl⟩)
  exact bodyPost_ret (v := .func (.func 109) #[] #[.pointer (some ⟨w.heap.size + 1 + 1, 0, none⟩), .pointer (some ⟨w.heap.size + 1, 0, none⟩)]) (by simp [results, Tryz.results89, go_sem]) rfl ⟨rfl, rfl⟩
theorem validFractions_tells (k : Bool) (a : Option Addr) (cap n : Nat) (rs : List (Int × Int)) (p r s : Addr) (w : World) (hk : rs.all fracOk = k) (hn : n = rs.length) (hl : rs.length ≤ 140737488351232) (hp : w.cell? p = some (.slice a n cap))
    (hr : w.cell? r = some (.func (.func 131) #[] #[.pointer (some p)])) (hs : w.cell? s = some (.int .i64 2)) (h : IsPairs w a rs) :
    CndTells w ⟨2, 109, #[.pointer (some r), .pointer (some s)], k⟩ := unless_tells 2 _ _ k s r w rfl (validFractions1_tells k a cap n rs p w hk hn hl hp h) hs hr
theorem validFractions_ex (k : Bool) (a : Option Addr) (cap n : Nat) (rs : List (Int × Int)) (w : World) (hk : rs.all fracOk = k) (hn : n = rs.length) (hl : rs.length ≤ 140737488351232) (h : IsPairs w a rs) :
    Calls Tryz.prog 89 #[.slice a n cap] w fun e w' => e = .returned (.func (.func 109) #[] #[.pointer (some ⟨w.heap.size + 1 + 1, 0, none⟩), .pointer (some ⟨w.heap.size + 1, 0, none⟩)]) ∧
      CndTells w' ⟨2, 109, #[.pointer (some ⟨w.heap.size + 1 + 1, 0, none⟩), .pointer (some ⟨w.heap.size + 1, 0, none⟩)], k⟩ ∧ Below w.heap.size w w' :=
  (validFractions_any a n cap w).mono (by
    rintro e w' ⟨rfl, rfl⟩
    exact ⟨rfl, validFractions_tells k a cap n rs ⟨w.heap.size, 0, none⟩ ⟨w.heap.size + 1 + 1, 0, none⟩ ⟨w.heap.size + 1, 0, none⟩ _ hk hn hl (by simp [go_sem, World.cell?_alloc_past]) (by simp [go_sem, World.cell?_alloc_past]) (by simp [go_sem, World.cell?_alloc_past]) (pairs_later h (by repeat (first | exact Below.refl _ _ | assumption | apply balloc | apply bdrew | (refine below_drewN ?_ _) | (refine bset ?_ (by first | (simp; done) | omega | (simp; omega)) _) | (refine bnext ?_ (by assumption))))), (by repeat (first | exact Below.refl _ _ | assumption | apply balloc | apply bdrew | (refine below_drewN ?_ _) | (refine bset ?_ (by first | (simp; done) | omega | (simp; omega)) _) | (refine bnext ?_ (by assumption))))⟩)

theorem pairs_one_at {w : World} {n : Nat} {a b : Int} {T : TypeId} (hn : w.heap.size = n) : IsPairs (w.alloc (.cells #[.int .i64 a, .int .i64 b] T)) (some ⟨n, 0, none⟩) [(a, b)] := by
  subst hn
  refine .inr ⟨_, _, rfl, fun i hi => ?_⟩
  obtain rfl : i = 0 := by simpa using hi
  simp [go_sem]
theorem pairs_two_at {w : World} {n : Nat} {a b c d : Int} {T : TypeId} (hn : w.heap.size = n) : IsPairs (w.alloc (.cells #[.int .i64 a, .int .i64 b, .int .i64 c, .int .i64 d] T)) (some ⟨n, 0, none⟩) [(a, b), (c, d)] := by
  subst hn
  refine .inr ⟨_, _, rfl, fun i hi => ?_⟩
  simp at hi
  obtain rfl | rfl : i = 0 ∨ i = 1 := by omega
  · simp [go_sem]
  · simp [go_sem]
theorem pairs_three_at {w : World} {n : Nat} {a b c d f g : Int} {T : TypeId} (hn : w.heap.size = n) : IsPairs (w.alloc (.cells #[.int .i64 a, .int .i64 b, .int .i64 c, .int .i64 d, .int .i64 f, .int .i64 g] T)) (some ⟨n, 0, none⟩) [(a, b), (c, d), (f, g)] := by
  subst hn
  refine .inr ⟨_, _, rfl, fun i hi => ?_⟩
  simp at hi
  obtain rfl | rfl | rfl : i = 0 ∨ i = 1 ∨ i = 2 := by omega
  · simp [go_sem]
  · simp [go_sem]
  · simp [go_sem]

theorem pairs_nil (W : World) (a : Option Addr) : IsPairs W a [] := .inl rfl
theorem pairs_one_of {W : World} {n : Nat} {a b : Int} (h0 : W.cell? ⟨n, 0, none⟩ = some (.int .i64 a)) (h1 : W.cell? ⟨n, 1, none⟩ = some (.int .i64 b)) : IsPairs W (some ⟨n, 0, none⟩) [(a, b)] := by
  refine .inr ⟨_, _, rfl, fun i hi => ?_⟩
  obtain rfl : i = 0 := by simpa using hi
  exact ⟨h0, h1⟩
theorem pairs_two_of {W : World} {n : Nat} {a b c d : Int} (h0 : W.cell? ⟨n, 0, none⟩ = some (.int .i64 a)) (h1 : W.cell? ⟨n, 1, none⟩ = some (.int .i64 b)) (h2 : W.cell? ⟨n, 2, none⟩ = some (.int .i64 c)) (h3 : W.cell? ⟨n, 3, none⟩ = some (.int .i64 d)) : IsPairs W (some ⟨n, 0, none⟩) [(a, b), (c, d)] := by
  refine .inr ⟨_, _, rfl, fun i hi => ?_⟩
  simp at hi
  obtain rfl | rfl : i = 0 ∨ i = 1 := by omega
  · exact ⟨h0, h1⟩
  · exact ⟨h2, h3⟩
theorem pairs_three_of {W : World} {n : Nat} {a b c d f g : Int} (h0 : W.cell? ⟨n, 0, none⟩ = some (.int .i64 a)) (h1 : W.cell? ⟨n, 1, none⟩ = some (.int .i64 b)) (h2 : W.cell? ⟨n, 2, none⟩ = some (.int .i64 c)) (h3 : W.cell? ⟨n, 3, none⟩ = some (.int .i64 d)) (h4 : W.cell? ⟨n, 4, none⟩ = some (.int .i64 f)) (h5 : W.cell? ⟨n, 5, none⟩ = some (.int .i64 g)) : IsPairs W (some ⟨n, 0, none⟩) [(a, b), (c, d), (f, g)] := by
  refine .inr ⟨_, _, rfl, fun i hi => ?_⟩
  simp at hi
  obtain rfl | rfl | rfl : i = 0 ∨ i = 1 ∨ i = 2 := by omega
  · exact ⟨h0, h1⟩
  · exact ⟨h2, h3⟩
  · exact ⟨h4, h5⟩
end Go.Proofs.YtlpdbjkpgfpjjaaGreat
