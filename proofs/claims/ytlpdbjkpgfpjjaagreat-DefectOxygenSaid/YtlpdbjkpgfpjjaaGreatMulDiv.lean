/-
  units.MulDiv.
-/
import Derived.Test.YtlpdbjkpgfpjjaaGreatFirst
import Derived.Test.YtlpdbjkpgfpjjaaGreatDivQ
import Derived.Shelf.Abstract
namespace Go.Proofs.YtlpdbjkpgfpjjaaGreat
set_option linter.unusedSimpArgs false
set_option linter.unusedVariables false
open Go.RowKit

def howOk (how : Int) : Bool := decide (how = 1) || decide (how = 2) || decide (how = 3)

theorem box_at (w : World) (v : Value) (T : TypeId) : (w.alloc (.cells #[v] T)).cell? ⟨w.heap.size, 0, none⟩ = some v := by simp [go_sem]

set_option maxHeartbeats 400000 in
theorem mulDiv1_any (how : Int) (p : Addr) (w : World) (h : w.cell? p = some (.int .u8 how)) :
    Calls Tryz.prog 101 #[.pointer (some p)] w fun e w' => e = .returned (.bool (howOk how)) ∧ w = w' := by
  by_cases h1 : how = 1
  · subst h1
    go_enter Tryz.func101, Tryz.ntmps101
    go_wp2
    go_ret
    exact ⟨rfl, rfl⟩
  · have e1 : (how == 1) = false := by simpa using h1
    by_cases h2 : how = 2
    · subst h2
      go_enter Tryz.func101, Tryz.ntmps101
      go_wp2
      go_ret
      exact ⟨rfl, rfl⟩
    · have e2 : (how == 2) = false := by simpa using h2
      by_cases h3 : how = 3
      · subst h3
        go_enter Tryz.func101, Tryz.ntmps101
        go_wp2
        go_ret
        exact ⟨rfl, rfl⟩
      · have e3 : (how == 3) = false := by simpa using h3
        have e : howOk how = false := by simp [howOk, h1, h2, h3]
        go_enter Tryz.func101, Tryz.ntmps101
        go_wp2
        go_ret
        exact ⟨ret_bool e.symm, rfl⟩

set_option maxHeartbeats 400000 in
theorem mulDiv2_any (a b c : Int) (p q r : Addr) (w : World) (hp : w.cell? p = some (.int .i64 a)) (hq : w.cell? q = some (.int .i64 b)) (hr : w.cell? r = some (.int .i64 c)) :
    Calls Tryz.prog 102 #[.pointer (some p), .pointer (some q), .pointer (some r)] w fun e w' => e = .returned (.bool (allIn 1000000000000000 [a, b] && isDiv c)) ∧ Below w.heap.size w w' := by
  cases hA : allIn 1000000000000000 [a, b] with
  | false =>
    have C := fun w' hw => areNumbers_any [a, b] (some ⟨w.heap.size, 0, none⟩) 2 w' hw (by simp)
    rw [hA] at C
    clear hA
    go_enter Tryz.func102, Tryz.ntmps102
    go_wp2_with (go_at_call 103; refine (C _ (ints_two _ _ _ _)).mono ?_; rintro e w' ⟨rfl, rfl⟩)
    go_ret
    exact ⟨rfl, (by repeat (first | exact Below.refl _ _ | assumption | apply balloc | apply bdrew | (refine below_drewN ?_ _) | (refine bset ?_ (by first | (simp; done) | omega | (simp; omega)) _) | (refine bnext ?_ (by assumption))))⟩
  | true =>
    have C := fun w' hw => areNumbers_any [a, b] (some ⟨w.heap.size, 0, none⟩) 2 w' hw (by simp)
    rw [hA] at C
    clear hA
    have hr' := fun T => later (a := r) (Below.refl w.heap.size w |>.alloc (Nat.le_refl _) (.cells #[.int .i64 a, .int .i64 b] T)) hr
    go_enter Tryz.func102, Tryz.ntmps102
    go_wp2_with (first | (go_at_call 103; refine (C _ (ints_two _ _ _ _)).mono ?_; rintro e w' ⟨rfl, rfl⟩) | (go_at_call 104; refine (isDivisor_any c _).mono ?_; rintro e w' ⟨rfl, hb⟩))
    go_ret
    exact ⟨rfl, (by repeat (first | exact Below.refl _ _ | assumption | apply balloc | apply bdrew | (refine below_drewN ?_ _) | (refine bset ?_ (by first | (simp; done) | omega | (simp; omega)) _) | (refine bnext ?_ (by assumption))))⟩

/-- The conditions of MulDiv, with what their closures have captured in the blocks from B on. -/
def mdConds (a b c how : Int) (B : Nat) : List Cnd :=
  [⟨2, 109, #[.pointer (some ⟨B + 1 + 1 + 1 + 1 + 1, 0, none⟩), .pointer (some ⟨B + 1 + 1 + 1 + 1, 0, none⟩)], howOk how⟩,
   ⟨3, 109, #[.pointer (some ⟨B + 1 + 1 + 1 + 1 + 1 + 1 + 1, 0, none⟩), .pointer (some ⟨B + 1 + 1 + 1 + 1 + 1 + 1, 0, none⟩)], allIn 1000000000000000 [a, b] && isDiv c⟩]

theorem enters_md1 (args : Array Value) (W : World) : (callFunc 101 args).run Tryz.prog W = .ok (.enter 101 args) W := enters_of Tryz.func101 (by kernel_rfl) rfl args W
theorem enters_md2 (args : Array Value) (W : World) : (callFunc 102 args).run Tryz.prog W = .ok (.enter 102 args) W := enters_of Tryz.func102 (by kernel_rfl) rfl args W

theorem mdConds_tell (a b c how : Int) (w : World) (B : Nat) (h0 : w.cell? ⟨B, 0, none⟩ = some (.int .i64 a)) (h1 : w.cell? ⟨B + 1, 0, none⟩ = some (.int .i64 b)) (h2 : w.cell? ⟨B + 1 + 1, 0, none⟩ = some (.int .i64 c)) (h3 : w.cell? ⟨B + 1 + 1 + 1, 0, none⟩ = some (.int .u8 how))
    (h4 : w.cell? ⟨B + 1 + 1 + 1 + 1, 0, none⟩ = some (.int .i64 2)) (h5 : w.cell? ⟨B + 1 + 1 + 1 + 1 + 1, 0, none⟩ = some (.func (.func 101) #[] #[.pointer (some ⟨B + 1 + 1 + 1, 0, none⟩)]))
    (h6 : w.cell? ⟨B + 1 + 1 + 1 + 1 + 1 + 1, 0, none⟩ = some (.int .i64 3)) (h7 : w.cell? ⟨B + 1 + 1 + 1 + 1 + 1 + 1 + 1, 0, none⟩ = some (.func (.func 102) #[] #[.pointer (some ⟨B, 0, none⟩), .pointer (some ⟨B + 1, 0, none⟩), .pointer (some ⟨B + 1 + 1, 0, none⟩)])) :
    ∀ i d, (mdConds a b c how B)[i]? = some d → (∀ x ∈ (mdConds a b c how B).take i, x.holds = true) → CndTells w d :=
  tells_two
    (unless_tells 2 _ _ (howOk how) _ _ w rfl ⟨enters_md1 _, fun W hW => (mulDiv1_any how _ W (later hW h3)).mono (by rintro e w' ⟨rfl, rfl⟩; exact ⟨rfl, Below.refl _ _⟩)⟩ h4 h5)
    (fun _ => unless_tells 3 _ _ (allIn 1000000000000000 [a, b] && isDiv c) _ _ w rfl ⟨enters_md2 _, fun W hW => mulDiv2_any a b c _ _ _ W (later hW h0) (later hW h1) (later hW h2)⟩ h6 h7)

/-- The world in which MulDiv asks its conditions. -/
def mdW (w : World) (a b c how : Int) : World :=
  ((((((((w.alloc (.cells #[.int .i64 a] 3)).alloc (.cells #[.int .i64 b] 3)).alloc (.cells #[.int .i64 c] 3)).alloc (.cells #[.int .u8 how] 107)).alloc
    (.cells #[.int .i64 2] 27)).alloc (.cells #[.func (.func 101) #[] #[.pointer (some ⟨w.heap.size + 1 + 1 + 1, 0, none⟩)]] 34)).alloc
    (.cells #[.int .i64 3] 27)).alloc (.cells #[.func (.func 102) #[] #[.pointer (some ⟨w.heap.size, 0, none⟩), .pointer (some ⟨w.heap.size + 1, 0, none⟩), .pointer (some ⟨w.heap.size + 1 + 1, 0, none⟩)]] 34)).alloc
    (.cells #[.func (.func 109) #[] #[.pointer (some ⟨w.heap.size + 1 + 1 + 1 + 1 + 1, 0, none⟩), .pointer (some ⟨w.heap.size + 1 + 1 + 1 + 1, 0, none⟩)], .func (.func 109) #[] #[.pointer (some ⟨w.heap.size + 1 + 1 + 1 + 1 + 1 + 1 + 1, 0, none⟩), .pointer (some ⟨w.heap.size + 1 + 1 + 1 + 1 + 1 + 1, 0, none⟩)]] 118)
theorem mdW_cells (w : World) (a b c how : Int) : (mdW w a b c how).cell? ⟨w.heap.size, 0, none⟩ = some (.int .i64 a) ∧ (mdW w a b c how).cell? ⟨w.heap.size + 1, 0, none⟩ = some (.int .i64 b) ∧ (mdW w a b c how).cell? ⟨w.heap.size + 1 + 1, 0, none⟩ = some (.int .i64 c) ∧ (mdW w a b c how).cell? ⟨w.heap.size + 1 + 1 + 1, 0, none⟩ = some (.int .u8 how) := by
  unfold mdW
  refine ⟨?_, ?_, ?_, ?_⟩ <;> simp [go_sem, World.cell?_alloc_past]

theorem md_first (w : World) (a b c how : Int) : Calls Tryz.prog 50 #[.slice (some ⟨w.heap.size + 1 + 1 + 1 + 1 + 1 + 1 + 1 + 1, 0, none⟩) 2 2] (mdW w a b c how) fun e w' => e = .returned (.int .i64 (firstE (mdConds a b c how w.heap.size))) ∧ Below (mdW w a b c how).heap.size (mdW w a b c how) w' := by
  obtain ⟨h0, h1, h2, h3⟩ := mdW_cells w a b c how
  refine firstError_any (mdConds a b c how w.heap.size) (w.heap.size + 1 + 1 + 1 + 1 + 1 + 1 + 1 + 1) 2 (mdW w a b c how) (by simp [mdConds]) (by simp [mdW]) ?_ (mdConds_tell a b c how _ _ h0 h1 h2 h3 (by unfold mdW; simp [go_sem, World.cell?_alloc_past]) (by unfold mdW; simp [go_sem, World.cell?_alloc_past]) (by unfold mdW; simp [go_sem, World.cell?_alloc_past]) (by unfold mdW; simp [go_sem, World.cell?_alloc_past]))
  unfold mdW mdConds
  exact cnds_two_at (by simp)

theorem firstE_md (a b c how : Int) (B : Nat) : firstE (mdConds a b c how B) = if howOk how = true then (if (allIn 1000000000000000 [a, b] && isDiv c) = true then 0 else 3) else 2 := by
  simp only [mdConds, firstE]

set_option maxHeartbeats 800000 in
theorem mulDiv_bad (a b c how : Int) (w : World) (E : Int) (hE : (E == 0) = false) (h : Hid (∀ B, firstE (mdConds a b c how B) = E)) :
    Calls Tryz.prog 49 #[.int .i64 a, .int .i64 b, .int .i64 c, .int .u8 how] w fun e w' => e = .returned (.tuple #[.int .i64 0, .int .i64 0, .int .i64 E]) ∧ Below w.heap.size w w' := by
  have F := md_first w a b c how
  rw [h.out, mdW] at F
  have F' := hide F
  clear F
  go_enter Tryz.func49, Tryz.ntmps49
  go_wp2_with (first | (go_at_call 52; refine (unless_any _ _ _ _).mono ?_; rintro e w' ⟨rfl, rfl⟩) | (go_at_call 50; refine (F'.out).mono ?_; rintro e w' ⟨rfl, hb⟩))
  go_ret3
  exact ⟨rfl, (by repeat (first | exact Below.refl _ _ | assumption | apply balloc | apply bdrew | (refine below_drewN ?_ _) | (refine bset ?_ (by first | (simp; done) | omega | (simp; omega)) _) | (refine bnext ?_ (by assumption))))⟩

set_option maxHeartbeats 800000 in
theorem mulDiv_good (a b c how : Int) (w : World) (n r : Int) (h : Hid (∀ B, firstE (mdConds a b c how B) = 0)) (hd : Hid (divQ (a * b) c how = (n, r, true)))
    (a0 : -1000000000000000 ≤ a) (a1 : a ≤ 1000000000000000) (b0 : -1000000000000000 ≤ b) (b1 : b ≤ 1000000000000000) (D : ∀ w, Div how (a * b) c w) :
    Calls Tryz.prog 49 #[.int .i64 a, .int .i64 b, .int .i64 c, .int .u8 how] w fun e w' => e = .returned (.tuple #[.int .i64 n, .int .i64 r, .int .i64 0]) ∧ Below w.heap.size w w' := by
  have F := md_first w a b c how
  obtain ⟨k0, k1, k2, k3⟩ := mdW_cells w a b c how
  rw [h.out] at F
  unfold Div at D
  rw [hd.out] at D
  unfold mdW at F k0 k1 k2 k3
  have D' := hide D
  have F' := hide F
  clear F D
  go_enter Tryz.func49, Tryz.ntmps49
  go_wp2_with (first | (go_at_call 52; refine (unless_any _ _ _ _).mono ?_; rintro e w' ⟨rfl, rfl⟩) | go_at_call 50; refine F'.out.mono ?_; rintro e w1 ⟨rfl, hb⟩; have c0 := later hb k0; have c1 := later hb k1; have c2 := later hb k2; have c3 := later hb k3)
  go_region_held3 (fun w' => w'.cell? ⟨w.heap.size, 0, none⟩ = some (.int .i64 a) ∧ w'.cell? ⟨w.heap.size + 1, 0, none⟩ = some (.int .i64 b) ∧ w'.cell? ⟨w.heap.size + 1 + 1, 0, none⟩ = some (.int .i64 c) ∧ w'.cell? ⟨w.heap.size + 1 + 1 + 1, 0, none⟩ = some (.int .u8 how) ∧ Below w1.heap.size w1 w')
    (first | (exact ⟨c0, c1, c2, c3, bdrew (Below.refl _ _)⟩) | (go_split_ands; exact ⟨later hb2 (by assumption), later hb2 (by assumption), later hb2 (by assumption), later hb2 (by assumption), bnext (by assumption) hb2⟩) | go_keep)
    (first
      | (go_at_call 105; refine (product_any a b _ a0 a1 b0 b1).mono ?_; rintro e w2 ⟨rfl, hb2⟩)
      | (go_at_call 106; refine (D'.out _).mono ?_; rintro e w2 ⟨rfl, hb2⟩))
  go_wp2
  go_ret3
  exact ⟨rfl, (by repeat (first | exact Below.refl _ _ | assumption | apply balloc | apply bdrew | (refine below_drewN ?_ _) | (refine bset ?_ (by first | (simp; done) | omega | (simp; omega)) _) | (refine bnext ?_ (by assumption))))⟩
set_option maxHeartbeats 800000 in
theorem mulDiv_over (a b c how : Int) (w : World) (n r : Int) (h : Hid (∀ B, firstE (mdConds a b c how B) = 0)) (hd : Hid (divQ (a * b) c how = (n, r, false)))
    (a0 : -1000000000000000 ≤ a) (a1 : a ≤ 1000000000000000) (b0 : -1000000000000000 ≤ b) (b1 : b ≤ 1000000000000000) (D : ∀ w, Div how (a * b) c w) :
    Calls Tryz.prog 49 #[.int .i64 a, .int .i64 b, .int .i64 c, .int .u8 how] w fun e w' => e = .returned (.tuple #[.int .i64 0, .int .i64 0, .int .i64 10]) ∧ Below w.heap.size w w' := by
  have F := md_first w a b c how
  obtain ⟨k0, k1, k2, k3⟩ := mdW_cells w a b c how
  rw [h.out] at F
  unfold Div at D
  rw [hd.out] at D
  unfold mdW at F k0 k1 k2 k3
  have D' := hide D
  have F' := hide F
  clear F D
  go_enter Tryz.func49, Tryz.ntmps49
  go_wp2_with (first | (go_at_call 52; refine (unless_any _ _ _ _).mono ?_; rintro e w' ⟨rfl, rfl⟩) | go_at_call 50; refine F'.out.mono ?_; rintro e w1 ⟨rfl, hb⟩; have c0 := later hb k0; have c1 := later hb k1; have c2 := later hb k2; have c3 := later hb k3)
  go_region_held3 (fun w' => w'.cell? ⟨w.heap.size, 0, none⟩ = some (.int .i64 a) ∧ w'.cell? ⟨w.heap.size + 1, 0, none⟩ = some (.int .i64 b) ∧ w'.cell? ⟨w.heap.size + 1 + 1, 0, none⟩ = some (.int .i64 c) ∧ w'.cell? ⟨w.heap.size + 1 + 1 + 1, 0, none⟩ = some (.int .u8 how) ∧ Below w1.heap.size w1 w')
    (first | (exact ⟨c0, c1, c2, c3, bdrew (Below.refl _ _)⟩) | (go_split_ands; exact ⟨later hb2 (by assumption), later hb2 (by assumption), later hb2 (by assumption), later hb2 (by assumption), bnext (by assumption) hb2⟩) | go_keep)
    (first
      | (go_at_call 105; refine (product_any a b _ a0 a1 b0 b1).mono ?_; rintro e w2 ⟨rfl, hb2⟩)
      | (go_at_call 106; refine (D'.out _).mono ?_; rintro e w2 ⟨rfl, hb2⟩))
  go_wp2
  go_ret3
  exact ⟨rfl, (by repeat (first | exact Below.refl _ _ | assumption | apply balloc | apply bdrew | (refine below_drewN ?_ _) | (refine bset ?_ (by first | (simp; done) | omega | (simp; omega)) _) | (refine bnext ?_ (by assumption))))⟩

/-- The results of MulDiv. -/
def mulDivQ (a b c how : Int) : Int × Int × Int :=
  if howOk how = false then (0, 0, 2) else if (allIn 1000000000000000 [a, b] && isDiv c) = false then (0, 0, 3)
  else if (divQ (a * b) c how).2.2 = false then (0, 0, 10) else ((divQ (a * b) c how).1, (divQ (a * b) c how).2.1, 0)

theorem allIn_two {a b : Int} : allIn 1000000000000000 [a, b] = true ↔ (-1000000000000000 ≤ a ∧ a ≤ 1000000000000000) ∧ -1000000000000000 ≤ b ∧ b ≤ 1000000000000000 := by
  unfold allIn; simp

theorem mulDiv_any (a b c how : Int) (w : World) :
    Calls Tryz.prog 49 #[.int .i64 a, .int .i64 b, .int .i64 c, .int .u8 how] w fun e w' => e = .returned (.tuple #[.int .i64 (mulDivQ a b c how).1, .int .i64 (mulDivQ a b c how).2.1, .int .i64 (mulDivQ a b c how).2.2]) ∧ Below w.heap.size w w' := by
  unfold mulDivQ
  cases h1 : howOk how with
  | false =>
    rw [if_pos rfl]
    exact mulDiv_bad a b c how w 2 rfl (fun B => by rw [firstE_md, h1]; rfl)
  | true =>
    cases h2 : (allIn 1000000000000000 [a, b] && isDiv c) with
    | false =>
      rw [if_neg (by simp), if_pos rfl]
      exact mulDiv_bad a b c how w 3 rfl (fun B => by rw [firstE_md, h1, h2]; rfl)
    | true =>
      rw [if_neg (by simp), if_neg (by simp)]
      have hF : ∀ B, firstE (mdConds a b c how B) = 0 := fun B => by rw [firstE_md, h1, h2]; rfl
      rw [Bool.and_eq_true, allIn_two] at h2
      obtain ⟨⟨⟨a0, a1⟩, b0, b1⟩, hc⟩ := h2
      have hc' : 1 ≤ c ∧ c ≤ 1000000000000000 := by unfold isDiv at hc; simpa using hc
      have P := prod_abs a0 a1 b0 b1
      have D : ∀ w, Div how (a * b) c w := fun w => divide_any how (a * b) c w P.1 P.2 hc'.1 hc'.2
      obtain ⟨Q, hQ⟩ : ∃ Q, divQ (a * b) c how = Q := ⟨_, rfl⟩
      rw [hQ]
      obtain ⟨n, r, k⟩ := Q
      cases k with
      | false => exact mulDiv_over a b c how w n r hF hQ a0 a1 b0 b1 D
      | true => exact mulDiv_good a b c how w n r hF hQ a0 a1 b0 b1 D
end Go.Proofs.YtlpdbjkpgfpjjaaGreat
