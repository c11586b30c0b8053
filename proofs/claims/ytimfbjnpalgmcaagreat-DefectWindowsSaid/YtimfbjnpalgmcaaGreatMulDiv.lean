/-
  units.MulDiv. units: compareFractions, Compare. units: simplest, Simplest. units: Simplest.
-/
import Derived.Test.YtimfbjnpalgmcaaGreatFirst
import Derived.Test.YtimfbjnpalgmcaaGreatDivQ
import Derived.Shelf.Abstract
namespace Go.Proofs.YtimfbjnpalgmcaaGreat
set_option linter.unusedSimpArgs false
set_option linter.unusedVariables false
open Go.RowKit

def howOk (how : Int) : Bool := decide (how = 1) || decide (how = 2) || decide (how = 3)

theorem box_at (w : World) (v : Value) (T : TypeId) : (w.alloc (.cells #[v] T)).cell? ⟨w.heap.size, 0, none⟩ = some v := by simp [go_sem]

set_option maxHeartbeats 400000 in
theorem mulDiv1_any (how : Int) (p : Addr) (w : World) (h : w.cell? p = some (.int .u8 how)) :
    Calls Tryz.prog 101 #[.pointer (some p)] w fun e w' => e = .returned (.bool (howOk how)) ∧ w = w' := by
  by_cases h1 : how = 1
  · subst h1
    go_enter Tryz.func101, Tryz.ntmps101
    go_wp2
    go_ret
    exact ⟨rfl, rfl⟩
  · have e1 : (how == 1) = false := by simpa using h1
    by_cases h2 : how = 2
    · subst h2
      go_enter Tryz.func101, Tryz.ntmps101
      go_wp2
      go_ret
      exact ⟨rfl, rfl⟩
    · have e2 : (how == 2) = false := by simpa using h2
      by_cases h3 : how = 3
      · subst h3
        go_enter Tryz.func101, Tryz.ntmps101
        go_wp2
        go_ret
        exact ⟨rfl, rfl⟩
      · have e3 : (how == 3) = false := by simpa using h3
        have e : howOk how = false := by simp [howOk, h1, h2, h3]
        go_enter Tryz.func101, Tryz.ntmps101
        go_wp2
        go_ret
        exact ⟨ret_bool e.symm, rfl⟩

set_option maxHeartbeats 400000 in
theorem mulDiv2_any (a b c : Int) (p q r : Addr) (w : World) (hp : w.cell? p = some (.int .i64 a)) (hq : w.cell? q = some (.int .i64 b)) (hr : w.cell? r = some (.int .i64 c)) :
    Calls Tryz.prog 102 #[.pointer (some p), .pointer (some q), .pointer (some r)] w fun e w' => e = .returned (.bool (allIn 1000000000000000 [a, b] && isDiv c)) ∧ Below w.heap.size w w' := by
  cases hA : allIn 1000000000000000 [a, b] with
  | false =>
    have C := fun w' hw => areNumbers_any [a, b] (some ⟨w.heap.size, 0, none⟩) 2 w' hw (by simp)
    rw [hA] at C
    clear hA
    go_enter Tryz.func102, Tryz.ntmps102
    go_wp2_with (go_at_call 103; refine (C _ (ints_two _ _ _ _)).mono ?_; rintro e w' ⟨rfl, rfl⟩)
    go_ret
    exact ⟨rfl, (by repeat (first | exact Below.refl _ _ | assumption | apply balloc | apply bdrew | (refine below_drewN ?_ _) | (refine bset ?_ (by first | (simp; done) | omega | (simp; omega)) _) | (refine bnext ?_ (by assumption))))⟩
  | true =>
    have C := fun w' hw => areNumbers_any [a, b] (some ⟨w.heap.size, 0, none⟩) 2 w' hw (by simp)
    rw [hA] at C
    clear hA
    have hr' := fun T => later (a := r) (Below.refl w.heap.size w |>.alloc (Nat.le_refl _) (.cells #[.int .i64 a, .int .i64 b] T)) hr
    go_enter Tryz.func102, Tryz.ntmps102
    go_wp2_with (first | (go_at_call 103; refine (C _ (ints_two _ _ _ _)).mono ?_; rintro e w' ⟨rfl, rfl⟩) | (go_at_call 104; refine (isDivisor_any c _).mono ?_; rintro e w' ⟨rfl, hb⟩))
    go_ret
    exact ⟨rfl, (by repeat (first | exact Below.refl _ _ | assumption | apply balloc | apply bdrew | (refine below_drewN ?_ _) | (refine bset ?_ (by first | (simp; done) | omega | (simp; omega)) _) | (refine bnext ?_ (by assumption))))⟩

/-- The conditions of MulDiv, with what their closures have captured in the blocks from B on. -/
def mdConds (a b c how : Int) (B : Nat) : List Cnd :=
  [⟨2, 109, #[.pointer (some ⟨B + 1 + 1 + 1 + 1 + 1, 0, none⟩), .pointer (some ⟨B + 1 + 1 + 1 + 1, 0, none⟩)], howOk how⟩,
   ⟨3, 109, #[.pointer (some ⟨B + 1 + 1 + 1 + 1 + 1 + 1 + 1, 0, none⟩), .pointer (some ⟨B + 1 + 1 + 1 + 1 + 1 + 1, 0, none⟩)], allIn 1000000000000000 [a, b] && isDiv c⟩]

theorem enters_md1 (args : Array Value) (W : World) : (callFunc 101 args).run Tryz.prog W = .ok (.enter 101 args) W := enters_of Tryz.func101 (by kernel_rfl) rfl args W
theorem enters_md2 (args : Array Value) (W : World) : (callFunc 102 args).run Tryz.prog W = .ok (.enter 102 args) W := enters_of Tryz.func102 (by kernel_rfl) rfl args W

theorem mdConds_tell (a b c how : Int) (w : World) (B : Nat) (h0 : w.cell? ⟨B, 0, none⟩ = some (.int .i64 a)) (h1 : w.cell? ⟨B + 1, 0, none⟩ = some (.int .i64 b)) (h2 : w.cell? ⟨B + 1 + 1, 0, none⟩ = some (.int .i64 c)) (h3 : w.cell? ⟨B + 1 + 1 + 1, 0, none⟩ = some (.int .u8 how))
    (h4 : w.cell? ⟨B + 1 + 1 + 1 + 1, 0, none⟩ = some (.int .i64 2)) (h5 : w.cell? ⟨B + 1 + 1 + 1 + 1 + 1, 0, none⟩ = some (.func (.func 101) #[] #[.pointer (some ⟨B + 1 + 1 + 1, 0, none⟩)]))
    (h6 : w.cell? ⟨B + 1 + 1 + 1 + 1 + 1 + 1, 0, none⟩ = some (.int .i64 3)) (h7 : w.cell? ⟨B + 1 + 1 + 1 + 1 + 1 + 1 + 1, 0, none⟩ = some (.func (.func 102) #[] #[.pointer (some ⟨B, 0, none⟩), .pointer (some ⟨B + 1, 0, none⟩), .pointer (some ⟨B + 1 + 1, 0, none⟩)])) :
    ∀ i d, (mdConds a b c how B)[i]? = some d → (∀ x ∈ (mdConds a b c how B).take i, x.holds = true) → CndTells w d :=
  tells_two
    (unless_tells 2 _ _ (howOk how) _ _ w rfl ⟨enters_md1 _, fun W hW => (mulDiv1_any how _ W (later hW h3)).mono (by rintro e w' ⟨rfl, rfl⟩; exact ⟨rfl, Below.refl _ _⟩)⟩ h4 h5)
    (fun _ => unless_tells 3 _ _ (allIn 1000000000000000 [a, b] && isDiv c) _ _ w rfl ⟨enters_md2 _, fun W hW => mulDiv2_any a b c _ _ _ W (later hW h0) (later hW h1) (later hW h2)⟩ h6 h7)

/-- The world in which MulDiv asks its conditions. -/
def mdW (w : World) (a b c how : Int) : World :=
  ((((((((w.alloc (.cells #[.int .i64 a] 3)).alloc (.cells #[.int .i64 b] 3)).alloc (.cells #[.int .i64 c] 3)).alloc (.cells #[.int .u8 how] 107)).alloc
    (.cells #[.int .i64 2] 27)).alloc (.cells #[.func (.func 101) #[] #[.pointer (some ⟨w.heap.size + 1 + 1 + 1, 0, none⟩)]] 34)).alloc
    (.cells #[.int .i64 3] 27)).alloc (.cells #[.func (.func 102) #[] #[.pointer (some ⟨w.heap.size, 0, none⟩), .pointer (some ⟨w.heap.size + 1, 0, none⟩), .pointer (some ⟨w.heap.size + 1 + 1, 0, none⟩)]] 34)).alloc
    (.cells #[.func (.func 109) #[] #[.pointer (some ⟨w.heap.size + 1 + 1 + 1 + 1 + 1, 0, none⟩), .pointer (some ⟨w.heap.size + 1 + 1 + 1 + 1, 0, none⟩)], .func (.func 109) #[] #[.pointer (some ⟨w.heap.size + 1 + 1 + 1 + 1 + 1 + 1 + 1, 0, none⟩), .pointer (some ⟨w.heap.size + 1 + 1 + 1 + 1 + 1 + 1, 0, none⟩)]] 118)
theorem mdW_cells (w : World) (a b c how : Int) : (mdW w a b c how).cell? ⟨w.heap.size, 0, none⟩ = some (.int .i64 a) ∧ (mdW w a b c how).cell? ⟨w.heap.size + 1, 0, none⟩ = some (.int .i64 b) ∧ (mdW w a b c how).cell? ⟨w.heap.size + 1 + 1, 0, none⟩ = some (.int .i64 c) ∧ (mdW w a b c how).cell? ⟨w.heap.size + 1 + 1 + 1, 0, none⟩ = some (.int .u8 how) := by
  unfold mdW
  refine ⟨?_, ?_, ?_, ?_⟩ <;> simp [go_sem, World.cell?_alloc_past]

theorem md_first (w : World) (a b c how : Int) : Calls Tryz.prog 50 #[.slice (some ⟨w.heap.size + 1 + 1 + 1 + 1 + 1 + 1 + 1 + 1, 0, none⟩) 2 2] (mdW w a b c how) fun e w' => e = .returned (.int .i64 (firstE (mdConds a b c how w.heap.size))) ∧ Below (mdW w a b c how).heap.size (mdW w a b c how) w' := by
  obtain ⟨h0, h1, h2, h3⟩ := mdW_cells w a b c how
  refine firstError_any (mdConds a b c how w.heap.size) (w.heap.size + 1 + 1 + 1 + 1 + 1 + 1 + 1 + 1) 2 (mdW w a b c how) (by simp [mdConds]) (by simp [mdW]) ?_ (mdConds_tell a b c how _ _ h0 h1 h2 h3 (by unfold mdW; simp [go_sem, World.cell?_alloc_past]) (by unfold mdW; simp [go_sem, World.cell?_alloc_past]) (by unfold mdW; simp [go_sem, World.cell?_alloc_past]) (by unfold mdW; simp [go_sem, World.cell?_alloc_past]))
  unfold mdW mdConds
  exact cnds_two_at (by simp)

theorem firstE_md (a b c how : Int) (B : Nat) : firstE (mdConds a b c how B) = if howOk how = true then (if (allIn 1000000000000000 [a, b] && isDiv c) = true then 0 else 3) else 2 := by
  simp only [mdConds, firstE]

set_option maxHeartbeats 800000 in
theorem mulDiv_bad (a b c how : Int) (w : World) (E : Int) (hE : (E == 0) = false) (h : Hid (∀ B, firstE (mdConds a b c how B) = E)) :
    Calls Tryz.prog 49 #[.int .i64 a, .int .i64 b, .int .i64 c, .int .u8 how] w fun e w' => e = .returned (.tuple #[.int .i64 0, .int .i64 0, .int .i64 E]) ∧ Below w.heap.size w w' := by
  have F := md_first w a b c how
  rw [h.out, mdW] at F
  have F' := hide F
  clear F
  go_enter Tryz.func49, Tryz.ntmps49
  go_wp2_with (first | (go_at_call 52; refine (unless_any _ _ _ _).mono ?_; rintro e w' ⟨rfl, rfl⟩) | (go_at_call 50; refine (F'.out).mono ?_; rintro e w' ⟨rfl, hb⟩))
  go_ret3
  exact ⟨rfl, (by repeat (first | exact Below.refl _ _ | assumption | apply balloc | apply bdrew | (refine below_drewN ?_ _) | (refine bset ?_ (by first | (simp; done) | omega | (simp; omega)) _) | (refine bnext ?_ (by assumption))))⟩

set_option maxHeartbeats 800000 in
theorem mulDiv_good (a b c how : Int) (w : World) (n r : Int) (h : Hid (∀ B, firstE (mdConds a b c how B) = 0)) (hd : Hid (divQ (a * b) c how = (n, r, true)))
    (a0 : -1000000000000000 ≤ a) (a1 : a ≤ 1000000000000000) (b0 : -1000000000000000 ≤ b) (b1 : b ≤ 1000000000000000) (D : ∀ w, Div how (a * b) c w) :
    Calls Tryz.prog 49 #[.int .i64 a, .int .i64 b, .int .i64 c, .int .u8 how] w fun e w' => e = .returned (.tuple #[.int .i64 n, .int .i64 r, .int .i64 0]) ∧ Below w.heap.size w w' := by
  have F := md_first w a b c how
  obtain ⟨k0, k1, k2, k3⟩ := mdW_cells w a b c how
  rw [h.out] at F
  unfold Div at D
  rw [hd.out] at D
  unfold mdW at F k0 k1 k2 k3
  have D' := hide D
  have F' := hide F
  clear F D
  go_enter Tryz.func49, Tryz.ntmps49
  go_wp2_with (first | (go_at_call 52; refine (unless_any _ _ _ _).mono ?_; rintro e w' ⟨rfl, rfl⟩) | go_at_call 50; refine F'.out.mono ?_; rintro e w1 ⟨rfl, hb⟩; have c0 := later hb k0; have c1 := later hb k1; have c2 := later hb k2; have c3 := later hb k3)
  go_region_held3 (fun w' => w'.cell? ⟨w.heap.size, 0, none⟩ = some (.int .i64 a) ∧ w'.cell? ⟨w.heap.size + 1, 0, none⟩ = some (.int .i64 b) ∧ w'.cell? ⟨w.heap.size + 1 + 1, 0, none⟩ = some (.int .i64 c) ∧ w'.cell? ⟨w.heap.size + 1 + 1 + 1, 0, none⟩ = some (.int .u8 how) ∧ Below w1.heap.size w1 w')
    (first | (exact ⟨c0, c1, c2, c3, bdrew (Below.refl _ _)⟩) | (go_split_ands; exact ⟨later hb2 (by assumption), later hb2 (by assumption), later hb2 (by assumption), later hb2 (by assumption), bnext (by assumption) hb2⟩) | go_keep)
    (first
      | (go_at_call 105; refine (product_any a b _ a0 a1 b0 b1).mono ?_; rintro e w2 ⟨rfl, hb2⟩)
      | (go_at_call 106; refine (D'.out _).mono ?_; rintro e w2 ⟨rfl, hb2⟩))
  go_wp2
  go_ret3
  exact ⟨rfl, (by repeat (first | exact Below.refl _ _ | assumption | apply balloc | apply bdrew | (refine below_drewN ?_ _) | (refine bset ?_ (by first | (simp; done) | omega | (simp; omega)) _) | (refine bnext ?_ (by assumption))))⟩
set_option maxHeartbeats 800000 in
theorem mulDiv_over (a b c how : Int) (w : World) (n r : Int) (h : Hid (∀ B, firstE (mdConds a b c how B) = 0)) (hd : Hid (divQ (a * b) c how = (n, r, false)))
    (a0 : -1000000000000000 ≤ a) (a1 : a ≤ 1000000000000000) (b0 : -1000000000000000 ≤ b) (b1 : b ≤ 1000000000000000) (D : ∀ w, Div how (a * b) c w) :
    Calls Tryz.prog 49 #[.int .i64 a, .int .i64 b, .int .i64 c, .int .u8 how] w fun e w' => e = .returned (.tuple #[.int .i64 0, .int .i64 0, .int .i64 10]) ∧ Below w.heap.size w w' := by
  have F := md_first w a b c how
  obtain ⟨k0, k1, k2, k3⟩ := mdW_cells w a b c how
  rw [h.out] at F
  unfold Div at D
  rw [hd.out] at D
  unfold mdW at F k0 k1 k2 k3
  have D' := hide D
  have F' := hide F
  clear F D
  go_enter Tryz.func49, Tryz.ntmps49
  go_wp2_with (first | (go_at_call 52; refine (unless_any _ _ _ _).mono ?_; rintro e w' ⟨rfl, rfl⟩) | go_at_call 50; refine F'.out.mono ?_; rintro e w1 ⟨rfl, hb⟩; have c0 := later hb k0; have c1 := later hb k1; have c2 := later hb k2; have c3 := later hb k3)
  go_region_held3 (fun w' => w'.cell? ⟨w.heap.size, 0, none⟩ = some (.int .i64 a) ∧ w'.cell? ⟨w.heap.size + 1, 0, none⟩ = some (.int .i64 b) ∧ w'.cell? ⟨w.heap.size + 1 + 1, 0, none⟩ = some (.int .i64 c) ∧ w'.cell? ⟨w.heap.size + 1 + 1 + 1, 0, none⟩ = some (.int .u8 how) ∧ Below w1.heap.size w1 w')
    (first | (exact ⟨c0, c1, c2, c3, bdrew (Below.refl _ _)⟩) | (go_split_ands; exact ⟨later hb2 (by assumption), later hb2 (by assumption), later hb2 (by assumption), later hb2 (by assumption), bnext (by assumption) hb2⟩) | go_keep)
    (first
      | (go_at_call 105; refine (product_any a b _ a0 a1 b0 b1).mono ?_; rintro e w2 ⟨rfl, hb2⟩)
      | (go_at_call 106; refine (D'.out _).mono ?_; rintro e w2 ⟨rfl, hb2⟩))
  go_wp2
  go_ret3
  exact ⟨rfl, (by repeat (first | exact Below.refl _ _ | assumption | apply balloc | apply bdrew | (refine below_drewN ?_ _) | (refine bset ?_ (by first | (simp; done) | omega | (simp; omega)) _) | (refine bnext ?_ (by assumption))))⟩

/-- The results of MulDiv. -/
def mulDivQ (a b c how : Int) : Int × Int × Int :=
  if howOk how = false then (0, 0, 2) else if (allIn 1000000000000000 [a, b] && isDiv c) = false then (0, 0, 3)
  else if (divQ (a * b) c how).2.2 = false then (0, 0, 10) else ((divQ (a * b) c how).1, (divQ (a * b) c how).2.1, 0)

theorem allIn_two {a b : Int} : allIn 1000000000000000 [a, b] = true ↔ (-1000000000000000 ≤ a ∧ a ≤ 1000000000000000) ∧ -1000000000000000 ≤ b ∧ b ≤ 1000000000000000 := by
  unfold allIn; simp

theorem mulDiv_any (a b c how : Int) (w : World) :
    Calls Tryz.prog 49 #[.int .i64 a, .int .i64 b, .int .i64 c, .int .u8 how] w fun e w' => e = .returned (.tuple #[.int .i64 (mulDivQ a b c how).1, .int .i64 (mulDivQ a b c how).2.1, .int .i64 (mulDivQ a b c how).2.2]) ∧ Below w.heap.size w w' := by
  unfold mulDivQ
  cases h1 : howOk how with
  | false =>
    rw [if_pos rfl]
    exact mulDiv_bad a b c how w 2 rfl (fun B => by rw [firstE_md, h1]; rfl)
  | true =>
    cases h2 : (allIn 1000000000000000 [a, b] && isDiv c) with
    | false =>
      rw [if_neg (by simp), if_pos rfl]
      exact mulDiv_bad a b c how w 3 rfl (fun B => by rw [firstE_md, h1, h2]; rfl)
    | true =>
      rw [if_neg (by simp), if_neg (by simp)]
      have hF : ∀ B, firstE (mdConds a b c how B) = 0 := fun B => by rw [firstE_md, h1, h2]; rfl
      rw [Bool.and_eq_true, allIn_two] at h2
      obtain ⟨⟨⟨a0, a1⟩, b0, b1⟩, hc⟩ := h2
      have hc' : 1 ≤ c ∧ c ≤ 1000000000000000 := by unfold isDiv at hc; simpa using hc
      have P := prod_abs a0 a1 b0 b1
      have D : ∀ w, Div how (a * b) c w := fun w => divide_any how (a * b) c w P.1 P.2 hc'.1 hc'.2
      obtain ⟨Q, hQ⟩ : ∃ Q, divQ (a * b) c how = Q := ⟨_, rfl⟩
      rw [hQ]
      obtain ⟨n, r, k⟩ := Q
      cases k with
      | false => exact mulDiv_over a b c how w n r hF hQ a0 a1 b0 b1 D
      | true => exact mulDiv_good a b c how w n r hF hQ a0 a1 b0 b1 D
end Go.Proofs.YtimfbjnpalgmcaaGreat

namespace Go.Proofs.YtimfbjnpalgmcaaGreat
set_option linter.unusedSimpArgs false
set_option linter.unusedVariables false
open Go.RowKit

set_option maxHeartbeats 1600000 in
theorem compareFractions_any (an ad bn bd : Int) (w : World) (a0 : -1000000000000000 ≤ an) (a1 : an ≤ 1000000000000000) (a2 : -1000000000000000 ≤ ad) (a3 : ad ≤ 1000000000000000)
    (b0 : -1000000000000000 ≤ bn) (b1 : bn ≤ 1000000000000000) (b2 : -1000000000000000 ≤ bd) (b3 : bd ≤ 1000000000000000) :
    Calls Tryz.prog 90 #[.agg #[.int .i64 an, .int .i64 ad], .agg #[.int .i64 bn, .int .i64 bd]] w fun e w' => e = .returned (.int .i64 (sgn3 (an * bd) (bn * ad))) ∧ Below w.heap.size w w' := by
  go_enter Tryz.func90, Tryz.ntmps90
  go_wp2
  go_region_held3 (fun w' => w'.cell? ⟨w.heap.size, 0, none⟩ = some (.int .i64 an) ∧ w'.cell? ⟨w.heap.size, 1, none⟩ = some (.int .i64 ad) ∧ w'.cell? ⟨w.heap.size + 1, 0, none⟩ = some (.int .i64 bn) ∧ w'.cell? ⟨w.heap.size + 1, 1, none⟩ = some (.int .i64 bd) ∧ Below w.heap.size w w')
    (first | (refine ⟨?_, ?_, ?_, ?_, bdrew (balloc (balloc (Below.refl _ _)))⟩ <;> simp [go_sem, World.cell?_alloc_past]; done) | (go_split_ands; exact ⟨later hb2 (by assumption), later hb2 (by assumption), later hb2 (by assumption), later hb2 (by assumption), bnext (by assumption) hb2⟩) | go_keep)
    (first
      | (go_at_call 105; refine (product_any _ _ _ (by assumption) (by assumption) (by assumption) (by assumption)).mono ?_; rintro e w2 ⟨rfl, hb2⟩)
      | (go_at_call 132; refine (compare_any _ _ _).mono ?_; rintro e w2 ⟨rfl, hb2⟩))
  all_goals
    go_wp2
    go_ret
    exact ⟨rfl, (by repeat (first | exact Below.refl _ _ | assumption | apply balloc | apply bdrew | (refine below_drewN ?_ _) | (refine bset ?_ (by first | (simp; done) | omega | (simp; omega)) _) | (refine bnext ?_ (by assumption))))⟩

/-- The fractions a and b of a call, as a list. -/
def frac2Ok (an ad bn bd : Int) : Bool := [(an, ad), (bn, bd)].all fracOk
theorem frac2_bounds {an ad bn bd : Int} (h : frac2Ok an ad bn bd = true) : ((-1000000000000000 ≤ an ∧ an ≤ 1000000000000000) ∧ 1 ≤ ad ∧ ad ≤ 1000000000000000) ∧ (-1000000000000000 ≤ bn ∧ bn ≤ 1000000000000000) ∧ 1 ≤ bd ∧ bd ≤ 1000000000000000 := by
  simpa [frac2Ok, fracOk, allIn, isDiv] using h

set_option maxHeartbeats 800000 in
theorem compare_bad (an ad bn bd : Int) (w : World) (h : Hid ([(an, ad), (bn, bd)].all fracOk = false)) :
    Calls Tryz.prog 44 #[.agg #[.int .i64 an, .int .i64 ad], .agg #[.int .i64 bn, .int .i64 bd]] w fun e w' => e = .returned (.tuple #[.int .i64 0, .int .i64 2]) ∧ Below w.heap.size w w' := by
  go_enter Tryz.func44, Tryz.ntmps44
  go_wp2_with (go_at_call 89; refine (validFractions_any _ _ _ _).mono ?_; rintro e w' ⟨rfl, rfl⟩)
  refine (firstError_is 2 [⟨2, 109, #[.pointer (some ⟨w.heap.size + 1 + 1 + 1 + 1 + 1, 0, none⟩), .pointer (some ⟨w.heap.size + 1 + 1 + 1 + 1, 0, none⟩)], false⟩] _ _ _ rfl (by simp) (by simp) (cnds_one_at (by simp)) (tells_one (validFractions_tells false (some ⟨w.heap.size + 1 + 1, 0, none⟩) 2 2 [(an, ad), (bn, bd)] ⟨w.heap.size + 1 + 1 + 1, 0, none⟩ ⟨w.heap.size + 1 + 1 + 1 + 1 + 1, 0, none⟩ ⟨w.heap.size + 1 + 1 + 1 + 1, 0, none⟩ _ h.out rfl (by simp) (by simp [go_sem, World.cell?_alloc_past]) (by simp [go_sem, World.cell?_alloc_past]) (by simp [go_sem, World.cell?_alloc_past]) (pairs_two_of (by simp [go_sem, World.cell?_alloc_past]) (by simp [go_sem, World.cell?_alloc_past]) (by simp [go_sem, World.cell?_alloc_past]) (by simp [go_sem, World.cell?_alloc_past]))))).mono ?_
  rintro e w1 ⟨rfl, hb⟩
  go_wp2_with fail
  go_ret2
  exact ⟨rfl, (by repeat (first | exact Below.refl _ _ | assumption | apply balloc | apply bdrew | (refine below_drewN ?_ _) | (refine bset ?_ (by first | (simp; done) | omega | (simp; omega)) _) | (refine bnext ?_ (by assumption))))⟩

set_option maxHeartbeats 800000 in
theorem compare_good (an ad bn bd : Int) (w : World) (h : Hid ([(an, ad), (bn, bd)].all fracOk = true)) (B : frac2Ok an ad bn bd = true) :
    Calls Tryz.prog 44 #[.agg #[.int .i64 an, .int .i64 ad], .agg #[.int .i64 bn, .int .i64 bd]] w fun e w' => e = .returned (.tuple #[.int .i64 (sgn3 (an * bd) (bn * ad)), .int .i64 0]) ∧ Below w.heap.size w w' := by
  obtain ⟨⟨⟨a0, a1⟩, a2, a3⟩, ⟨b0, b1⟩, b2, b3⟩ := frac2_bounds B
  have C := hide fun w => compareFractions_any an ad bn bd w a0 a1 (by omega) a3 b0 b1 (by omega) b3
  clear B a0 a1 a2 a3 b0 b1 b2 b3
  go_enter Tryz.func44, Tryz.ntmps44
  go_wp2_with (go_at_call 89; refine (validFractions_any _ _ _ _).mono ?_; rintro e w' ⟨rfl, rfl⟩)
  refine (firstError_is 0 [⟨2, 109, #[.pointer (some ⟨w.heap.size + 1 + 1 + 1 + 1 + 1, 0, none⟩), .pointer (some ⟨w.heap.size + 1 + 1 + 1 + 1, 0, none⟩)], true⟩] _ _ _ rfl (by simp) (by simp) (cnds_one_at (by simp)) (tells_one (validFractions_tells true (some ⟨w.heap.size + 1 + 1, 0, none⟩) 2 2 [(an, ad), (bn, bd)] ⟨w.heap.size + 1 + 1 + 1, 0, none⟩ ⟨w.heap.size + 1 + 1 + 1 + 1 + 1, 0, none⟩ ⟨w.heap.size + 1 + 1 + 1 + 1, 0, none⟩ _ h.out rfl (by simp) (by simp [go_sem, World.cell?_alloc_past]) (by simp [go_sem, World.cell?_alloc_past]) (by simp [go_sem, World.cell?_alloc_past]) (pairs_two_of (by simp [go_sem, World.cell?_alloc_past]) (by simp [go_sem, World.cell?_alloc_past]) (by simp [go_sem, World.cell?_alloc_past]) (by simp [go_sem, World.cell?_alloc_past]))))).mono ?_
  rintro e w1 ⟨rfl, hb⟩
  have c0 := later hb (a := ⟨w.heap.size, 0, none⟩) (v := .int .i64 an) (by simp [go_sem, World.cell?_alloc_past])
  have c1 := later hb (a := ⟨w.heap.size, 1, none⟩) (v := .int .i64 ad) (by simp [go_sem, World.cell?_alloc_past])
  have c2 := later hb (a := ⟨w.heap.size + 1, 0, none⟩) (v := .int .i64 bn) (by simp [go_sem, World.cell?_alloc_past])
  have c3 := later hb (a := ⟨w.heap.size + 1, 1, none⟩) (v := .int .i64 bd) (by simp [go_sem, World.cell?_alloc_past])
  go_wp2_with (go_at_call 90; refine (C.out _).mono ?_; rintro e w' ⟨rfl, hb2⟩)
  go_ret2
  exact ⟨rfl, (by repeat (first | exact Below.refl _ _ | assumption | apply balloc | apply bdrew | (refine below_drewN ?_ _) | (refine bset ?_ (by first | (simp; done) | omega | (simp; omega)) _) | (refine bnext ?_ (by assumption))))⟩

def compareQ (an ad bn bd : Int) : Int × Int := if frac2Ok an ad bn bd = true then (sgn3 (an * bd) (bn * ad), 0) else (0, 2)
theorem compareFrac_any (an ad bn bd : Int) (w : World) :
    Calls Tryz.prog 44 #[.agg #[.int .i64 an, .int .i64 ad], .agg #[.int .i64 bn, .int .i64 bd]] w fun e w' => e = .returned (.tuple #[.int .i64 (compareQ an ad bn bd).1, .int .i64 (compareQ an ad bn bd).2]) ∧ Below w.heap.size w w' := by
  unfold compareQ
  by_cases h : frac2Ok an ad bn bd = true
  · rw [if_pos h]
    exact compare_good an ad bn bd w h h
  · rw [if_neg h]
    exact compare_bad an ad bn bd w (by have : frac2Ok an ad bn bd = false := by simpa using h
                                        exact this)
end Go.Proofs.YtimfbjnpalgmcaaGreat

namespace Go.Proofs.YtimfbjnpalgmcaaGreat
set_option linter.unusedSimpArgs false
set_option linter.unusedVariables false
open Go.RowKit

/-! ### A number over a divisor, rounded down -/
theorem mulDivQ_floor {a c : Int} (a0 : -1000000000000000 ≤ a) (a1 : a ≤ 1000000000000000) (c0 : 1 ≤ c) (c1 : c ≤ 1000000000000000) : mulDivQ a 1 c 1 = (a / c, a % c, 0) := by
  have hc : isDiv c = true := by simp [isDiv, c0, c1]
  have hA : (allIn 1000000000000000 [a, 1] && isDiv c) = true := by rw [hc, Bool.and_true, allIn_two]; omega
  have hq : a / c ≤ 1000000000000000 ∧ -1000000000000000 ≤ a / c := by
    constructor
    · have : a / c < 1000000000000001 := Int.ediv_lt_of_lt_mul (by omega) (by omega)
      omega
    · exact Int.le_ediv_of_mul_le (by omega) (by omega)
  have hf : floorQ (a * 1) c = (a / c, a % c, true) := by
    rw [Int.mul_one]
    unfold floorQ
    split
    · rw [if_pos hq.1]
    · rename_i h
      have : (-a - 1) / c < 1000000000000000 := Int.ediv_lt_of_lt_mul (by omega) (by omega)
      rw [if_pos (by omega)]
  have hd : divQ (a * 1) c 1 = (a / c, a % c, true) := by
    unfold divQ
    rw [hf, if_neg (by simp), if_neg (by simp [upQ])]
    have : allIn 1000000000000000 [a / c] = true := by simp [allIn, hq]
    rw [this]
  unfold mulDivQ
  rw [if_neg (by decide), hA, if_neg (by simp), hd, if_neg (by simp)]
theorem mulDiv_floor (a c : Int) (w : World) (a0 : -1000000000000000 ≤ a) (a1 : a ≤ 1000000000000000) (c0 : 1 ≤ c) (c1 : c ≤ 1000000000000000) :
    Calls Tryz.prog 49 #[.int .i64 a, .int .i64 1, .int .i64 c, .int .u8 1] w fun e w' => e = .returned (.tuple #[.int .i64 (a / c), .int .i64 (a % c), .int .i64 0]) ∧ Below w.heap.size w w' := by
  have := mulDiv_any a 1 c 1 w
  rwa [mulDivQ_floor a0 a1 c0 c1] at this

/-! ### The simplest fraction between two -/
def simpQ : Nat → Int → Int → Int → Int → Int × Int
  | 0, _, _, _, _ => (0, 1)
  | k + 1, an, ad, bn, bd =>
    if an % ad = 0 then (an / ad, 1)
    else if an / ad < bn / bd then (an / ad + 1, 1)
    else (an / ad * (simpQ k bd (bn % bd) ad (an % ad)).1 + (simpQ k bd (bn % bd) ad (an % ad)).2, (simpQ k bd (bn % bd) ad (an % ad)).1)

/-- What the next round is called with, if both whole parts are the same. -/
theorem simp_next {an ad bn bd : Int} (ha : 1 ≤ ad) (hb : 1 ≤ bd) (h : an * bd ≤ bn * ad) (hr : ¬ an % ad = 0) (hw : ¬ an / ad < bn / bd) :
    1 ≤ an % ad ∧ an % ad < ad ∧ 1 ≤ bn % bd ∧ bn % bd < bd ∧ an / ad = bn / bd ∧ bd * (an % ad) ≤ ad * (bn % bd) := by
  have r0 := Int.emod_nonneg an (show ad ≠ 0 by omega)
  have r1 := Int.emod_lt_of_pos an (show 0 < ad by omega)
  have s0 := Int.emod_nonneg bn (show bd ≠ 0 by omega)
  have s1 := Int.emod_lt_of_pos bn (show 0 < bd by omega)
  have ea := Int.mul_ediv_add_emod an ad
  have eb := Int.mul_ediv_add_emod bn bd
  have hle : an / ad ≤ bn / bd := by
    rw [Int.le_ediv_iff_mul_le (by omega)]
    have h1 : an / ad * ad ≤ an := by rw [Int.mul_comm]; omega
    have h2 : an / ad * ad * bd ≤ an * bd := Int.mul_le_mul_of_nonneg_right h1 (by omega)
    have h3 : an / ad * bd * ad ≤ bn * ad := by rw [Int.mul_right_comm]; omega
    exact Int.le_of_mul_le_mul_right h3 (by omega)
  have he : an / ad = bn / bd := by omega
  have key : bd * (an % ad) ≤ ad * (bn % bd) := by
    have e1 : an * bd = ad * bd * (an / ad) + bd * (an % ad) := by
      conv => lhs; rw [← ea]
      rw [Int.add_mul, Int.mul_right_comm, Int.mul_comm (an % ad)]
    have e2 : bn * ad = ad * bd * (bn / bd) + ad * (bn % bd) := by
      conv => lhs; rw [← eb]
      rw [Int.add_mul, Int.mul_comm (bn % bd), Int.mul_right_comm, Int.mul_comm bd ad]
    rw [e1, e2, he] at h
    omega
  refine ⟨by omega, r1, ?_, s1, he, key⟩
  rcases Int.lt_or_le 0 (bn % bd) with h0 | h0
  · omega
  · have : bn % bd = 0 := by omega
    rw [this, Int.mul_zero] at key
    have : 0 < bd * (an % ad) := Int.mul_pos (by omega) (by omega)
    omega

/-- The result lies between the two fractions; its divisor is no greater than theirs; from 0 on its number is no greater than theirs. -/
theorem simpQ_bounds : ∀ (k : Nat) (an ad bn bd : Int), 1 ≤ ad → 1 ≤ bd → an * bd ≤ bn * ad → ad + bd ≤ k →
    (1 ≤ (simpQ k an ad bn bd).2 ∧ (simpQ k an ad bn bd).2 ≤ ad ∧ (simpQ k an ad bn bd).2 ≤ bd) ∧ (an * (simpQ k an ad bn bd).2 ≤ (simpQ k an ad bn bd).1 * ad ∧ (simpQ k an ad bn bd).1 * bd ≤ bn * (simpQ k an ad bn bd).2) ∧
    (0 ≤ an → (simpQ k an ad bn bd).1 ≤ an ∧ (simpQ k an ad bn bd).1 ≤ bn) := by
  intro k
  induction k with
  | zero => intro an ad bn bd ha hb h hk; omega
  | succ k ih =>
    intro an ad bn bd ha hb h hk
    unfold simpQ
    have ea := Int.mul_ediv_add_emod an ad
    have eb := Int.mul_ediv_add_emod bn bd
    have s0 := Int.emod_nonneg bn (show bd ≠ 0 by omega)
    have hwa : 0 ≤ an → 0 ≤ an / ad := fun h => Int.ediv_nonneg h (by omega)
    have hwb : 0 ≤ bn / bd → bn / bd ≤ bn := fun h0 => by
      have := Int.mul_le_mul_of_nonneg_right hb h0
      omega
    have hwa' : 0 ≤ an → an / ad ≤ ad * (an / ad) := fun h0 => by
      have := Int.mul_le_mul_of_nonneg_right ha (hwa h0)
      omega
    by_cases hr : an % ad = 0
    · rw [if_pos hr]
      simp only
      rw [hr] at ea
      have e : an / ad * bd * ad = an * bd := by rw [Int.mul_right_comm, Int.mul_comm (an / ad) ad, show ad * (an / ad) = an by omega]
      have h5 : an / ad * bd ≤ bn := Int.le_of_mul_le_mul_right (by rw [e]; exact h) (show 0 < ad by omega)
      refine ⟨⟨by omega, ha, hb⟩, ⟨by rw [Int.mul_one, Int.mul_comm]; omega, by omega⟩, fun h0 => ?_⟩
      have := hwa' h0
      have h6 : an / ad ≤ bn / bd := (Int.le_ediv_iff_mul_le (show 0 < bd by omega)).2 h5
      have := hwb (by have := hwa h0; omega)
      omega
    · rw [if_neg hr]
      have r0 := Int.emod_nonneg an (show ad ≠ 0 by omega)
      have r1 := Int.emod_lt_of_pos an (show 0 < ad by omega)
      by_cases hw : an / ad < bn / bd
      · rw [if_pos hw]
        simp only
        have h1 : (an / ad + 1) * bd ≤ bn := (Int.le_ediv_iff_mul_le (show 0 < bd by omega)).1 (show an / ad + 1 ≤ bn / bd by omega)
        refine ⟨⟨by omega, ha, hb⟩, ⟨?_, by omega⟩, fun h0 => ?_⟩
        · rw [Int.add_mul, Int.mul_comm (an / ad)]; omega
        · have := hwa' h0
          have := hwb (by have := hwa h0; omega)
          omega
      · rw [if_neg hw]
        simp only
        obtain ⟨n1, n2, n3, n4, n5, n6⟩ := simp_next ha hb h hr hw
        obtain ⟨⟨b1, b2, b3⟩, ⟨b4, b5⟩, b6⟩ := ih bd (bn % bd) ad (an % ad) n3 n1 n6 (by omega)
        obtain ⟨hpb, hpa⟩ := b6 (by omega)
        generalize (simpQ k bd (bn % bd) ad (an % ad)).1 = p at *
        generalize (simpQ k bd (bn % bd) ad (an % ad)).2 = q at *
        have hp1 : bd ≤ bd * q := by
          have := Int.mul_le_mul_of_nonneg_left b1 (show 0 ≤ bd by omega)
          omega
        have hp0 : 1 ≤ p := by
          rcases Int.lt_or_le 0 p with h0 | h0
          · omega
          · have : p * (bn % bd) ≤ 0 := Int.mul_nonpos_of_nonpos_of_nonneg h0 (by omega)
            omega
        refine ⟨⟨hp0, hpa, hpb⟩, ⟨?_, ?_⟩, fun h0 => ?_⟩
        · have : an * p = ad * (an / ad * p) + p * (an % ad) := by
            conv => lhs; rw [← ea]
            rw [Int.add_mul, Int.mul_assoc, Int.mul_comm (an % ad)]
          rw [this, Int.add_mul, Int.mul_comm _ ad, Int.mul_comm q ad]
          omega
        · have : bn * p = bd * (an / ad * p) + p * (bn % bd) := by
            conv => lhs; rw [← eb]
            rw [Int.add_mul, Int.mul_assoc, Int.mul_comm (bn % bd), n5]
          rw [this, Int.add_mul, Int.mul_comm _ bd, Int.mul_comm q bd]
          omega
        · have y0 := hwa h0
          have y1 := Int.mul_le_mul_of_nonneg_left hpa y0
          have y2 := Int.mul_le_mul_of_nonneg_left hpb y0
          rw [Int.mul_comm (an / ad) ad] at y1
          rw [Int.mul_comm (an / ad) bd] at y2
          have y3 : bd * (an / ad) = bd * (bn / bd) := by rw [n5]
          omega

/-- No product or sum of 'simplest' wraps around. -/
theorem simp_wrap {an ad p q : Int} (a0 : -1000000000000000 ≤ an) (a1 : an ≤ 1000000000000000) (d0 : 1 ≤ ad) (d1 : ad ≤ 1000000000000000) (p0 : 1 ≤ p) (p1 : p ≤ ad) (q1 : q ≤ ad) (q0 : 1 ≤ q) :
    -4000000000000000 ≤ an / ad * p ∧ an / ad * p ≤ 4000000000000000 := by
  have ea := Int.mul_ediv_add_emod an ad
  have r0 := Int.emod_nonneg an (show ad ≠ 0 by omega)
  have r1 := Int.emod_lt_of_pos an (show 0 < ad by omega)
  rcases Int.lt_or_le (an / ad) 0 with h | h
  · have y1 := Int.mul_le_mul_of_nonpos_left (show an / ad ≤ 0 by omega) p1
    have y2 : an / ad * p ≤ 0 := Int.mul_nonpos_of_nonpos_of_nonneg (by omega) (by omega)
    rw [Int.mul_comm (an / ad) ad] at y1
    omega
  · have y1 := Int.mul_le_mul_of_nonneg_left p1 h
    have y2 : 0 ≤ an / ad * p := Int.mul_nonneg h (by omega)
    rw [Int.mul_comm (an / ad) ad] at y1
    omega

/-- Two cells that were stored. -/
theorem two_set {w : World} {n : Nat} {x y v0 v1 : Value} (h0 : w.cell? ⟨n, 0, none⟩ = some v0) (h1 : w.cell? ⟨n, 1, none⟩ = some v1) :
    ((w.setCell ⟨n, 0, none⟩ x).setCell ⟨n, 1, none⟩ y).cell? ⟨n, 0, none⟩ = some x ∧ ((w.setCell ⟨n, 0, none⟩ x).setCell ⟨n, 1, none⟩ y).cell? ⟨n, 1, none⟩ = some y := by
  constructor <;> simp [go_sem, h0, h1]

end Go.Proofs.YtimfbjnpalgmcaaGreat

namespace Go.Proofs.YtimfbjnpalgmcaaGreat
set_option linter.unusedSimpArgs false
set_option linter.unusedVariables false
open Go.RowKit

theorem sgn3_le {x y : Int} : decide (sgn3 x y ≤ 0) = decide (x ≤ y) := by
  unfold sgn3
  by_cases h : x < y
  · rw [if_pos h]; simp; omega
  · rw [if_neg h]
    by_cases h2 : x = y
    · rw [if_pos h2]; simp; omega
    · rw [if_neg h2]; simp; omega

/-- The conditions of Simplest come to E. -/
def SimpCond (an ad bn bd E : Int) (k1 k2 : Bool) : Prop := [(an, ad), (bn, bd)].all fracOk = k1 ∧ (k1 = true → frac2Ok an ad bn bd = true ∧ decide (an * bd ≤ bn * ad) = k2) ∧ ∀ f g c d, firstE [⟨2, f, c, k1⟩, ⟨2, g, d, k2⟩] = E

/-- The results of Simplest (k: a bound on the rounds). -/
def simplestQ (k : Nat) (an ad bn bd : Int) : (Int × Int) × Int :=
  if (frac2Ok an ad bn bd && decide (an * bd ≤ bn * ad)) = true then (simpQ k an ad bn bd, 0) else ((0, 0), 2)

end Go.Proofs.YtimfbjnpalgmcaaGreat
