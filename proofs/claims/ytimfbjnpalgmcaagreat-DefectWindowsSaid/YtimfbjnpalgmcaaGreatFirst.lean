/-
  check.First, for whatever conditions; check.Unless. check.AtMost, and units: validRanges, validFractions. check.AreRanges: ranges from 0 to a greatest number. The statements' own helpers: sameInts, sameRanges, hill.
-/
import Derived.Test.YtimfbjnpalgmcaaGreatNums
import Derived.Laws.EntriesVeiled
import Derived.Shelf.Abstract
import Derived.BigQuiet
namespace Go.Proofs.YtimfbjnpalgmcaaGreat
set_option linter.unusedSimpArgs false
set_option linter.unusedVariables false
open Go.RowKit

/-- A condition: its error, its closure's function and what it has captured, and whether it holds. -/
structure Cnd where
  e : Int
  f : Nat
  caps : Array Value
  holds : Bool

/-- The first error. -/
def firstE : List Cnd → Int
  | [] => 0
  | c :: cs => if c.holds then firstE cs else c.e

/-- The conditions lie in memory from the block b on. -/
def CndsAt (w : World) (b : Nat) (cs : List Cnd) : Prop :=
  ∀ i c, cs[i]? = some c → w.cell? ⟨b, i, none⟩ = some (.func (.func c.f) #[] c.caps)

/-- The closure f with its captures tells the Boolean k in each world that has come of w. -/
def Tells (w : World) (f : Nat) (caps : Array Value) (k : Bool) : Prop :=
  (∀ (W : World), (callFunc f caps).run Tryz.prog W = .ok (.enter f caps) W) ∧
  ∀ W, Below w.heap.size w W → Calls Tryz.prog f caps W fun e W' => e = .returned (.bool k) ∧ Below W.heap.size W W'

/-- What a condition returns. -/
def Cnd.val (c : Cnd) : Int := if c.holds then 0 else c.e

/-- The closure of a condition tells its error, or none, in each world that has come of w. -/
def CndTells (w : World) (c : Cnd) : Prop :=
  (∀ (W : World), (callFunc c.f c.caps).run Tryz.prog W = .ok (.enter c.f c.caps) W) ∧ (c.holds = false → (c.e == 0) = false) ∧
  ∀ W, Below w.heap.size w W → Calls Tryz.prog c.f c.caps W fun e W' => e = .returned (.int .i64 c.val) ∧ Below W.heap.size W W'
theorem below_trans {w W V : World} (h : Below w.heap.size w W) (h2 : Below W.heap.size W V) : Below w.heap.size w V := bnext h h2
theorem cnd_later {w W : World} {c : Cnd} (h : CndTells w c) (hb : Below w.heap.size w W) : CndTells W c := ⟨h.1, h.2.1, fun V hV => h.2.2 V (below_trans hb hV)⟩

theorem firstE_stop {cs : List Cnd} {k : Nat} {c : Cnd} (hc : cs[k]? = some c) (h : ∀ d ∈ cs.take k, d.holds = true) (hf : c.holds = false) : firstE cs = c.e := by
  induction cs generalizing k with
  | nil => simp at hc
  | cons d ds ih =>
    cases k with
    | zero => simp at hc; subst hc; unfold firstE; simp [hf]
    | succ k =>
      have h1 : d.holds = true := h d (by simp)
      unfold firstE
      rw [if_pos h1]
      exact ih (by simpa using hc) (fun x hx => h x (by simp [hx]))
theorem firstE_all {cs : List Cnd} (h : ∀ d ∈ cs, d.holds = true) : firstE cs = 0 := by
  induction cs with
  | nil => rfl
  | cons d ds ih => unfold firstE; rw [if_pos (h d (by simp))]; exact ih (fun x hx => h x (by simp [hx]))
theorem holds_step {cs : List Cnd} {k : Nat} {c : Cnd} (hc : cs[k]? = some c) (h : ∀ d ∈ cs.take k, d.holds = true) (hf : c.holds = true) : ∀ d ∈ cs.take (k + 1), d.holds = true := by
  intro d hd
  rw [List.take_add_one] at hd
  simp [hc] at hd
  rcases hd with hd | rfl
  · exact h d hd
  · exact hf

set_option maxHeartbeats 400000 in
theorem firstError_any (cs : List Cnd) (b cap : Nat) (w : World) (hl : cs.length ≤ 1000) (hb : b < w.heap.size) (hm : CndsAt w b cs)
    (ht : ∀ i c, cs[i]? = some c → (∀ d ∈ cs.take i, d.holds = true) → CndTells w c) :
    Calls Tryz.prog 50 #[.slice (some ⟨b, 0, none⟩) cs.length cap] w fun e w' => e = .returned (.int .i64 (firstE cs)) ∧ Below w.heap.size w w' := by
  have Ht := hide ht
  have Hm := hide hm
  clear ht hm
  go_enter Tryz.func50, Tryz.ntmps50
  go_wp2
  go_loopw [8] (fun i wr => ∃ k : Nat, k ≤ cs.length ∧ i = .int .i64 (k : Int) ∧ (∀ d ∈ cs.take k, d.holds = true) ∧ Below w.heap.size w wr) (fun i _ => cs.length - (intOf i).toNat)
  case atStart => exact ⟨0, by omega, rfl, by simp, Below.refl _ _⟩
  case round =>
    obtain ⟨k, hk, rfl, hall, hbw⟩ := hrel
    have Hall := hide hall
    clear hall
    by_cases hlt : k < cs.length
    · obtain ⟨c, hc⟩ : ∃ c, cs[k]? = some c := ⟨cs[k], List.getElem?_eq_getElem hlt⟩
      have c1 := Hm.out k c hc
      rw [← hbw.cell (p := ⟨b, k, none⟩) hb] at c1
      obtain ⟨t1, t0, t2⟩ := Ht.out k c hc Hall.out
      obtain ⟨ce, cf, caps, ch⟩ := c
      simp only at c1 t1
      cases ch with
      | false =>
        have E := firstE_stop hc Hall.out rfl
        have e0 : (ce == 0) = false := t0 rfl
        have e1 : (ce != 0) = true := by simpa using e0
        have T2 : Hid (∀ W, Below w.heap.size w W → Calls Tryz.prog cf caps W fun e W' => e = .returned (.int .i64 ce) ∧ Below W.heap.size W W') := t2
        clear hc t0 t2
        go_wp2_with fail
        refine (T2.out _ hbw).mono ?_
        rintro e w1 ⟨rfl, hb1⟩
        go_wp2_with fail
        go_ret
        exact ⟨congrArg (fun x => Ending.returned (Value.int .i64 x)) E.symm, bnext hbw hb1⟩
      | true =>
        have E := hide (holds_step hc Hall.out rfl)
        have T2 : Hid (∀ W, Below w.heap.size w W → Calls Tryz.prog cf caps W fun e W' => e = .returned (.int .i64 0) ∧ Below W.heap.size W W') := t2
        clear hc t0 t2
        go_wp2_with fail
        refine (T2.out _ hbw).mono ?_
        rintro e w1 ⟨rfl, hb1⟩
        go_wp2_with fail
        go_roundw
        case rel => exact ⟨k + 1, by omega, by go_num, E.out, bnext hbw hb1⟩
        case measure => simp [intOf]; omega
    · have E := firstE_all (cs := cs) (by
        have := Hall.out
        rwa [List.take_of_length_le (by omega)] at this)
      go_wp2
      go_ret
      exact ⟨congrArg (fun x => Ending.returned (Value.int .i64 x)) E.symm, hbw⟩

theorem firstError_is (E : Int) (cs : List Cnd) (b cap : Nat) (w : World) (hE : firstE cs = E) (hl : cs.length ≤ 1000) (hb : b < w.heap.size) (hm : CndsAt w b cs)
    (ht : ∀ i c, cs[i]? = some c → (∀ d ∈ cs.take i, d.holds = true) → CndTells w c) :
    Calls Tryz.prog 50 #[.slice (some ⟨b, 0, none⟩) cs.length cap] w fun e w' => e = .returned (.int .i64 E) ∧ Below w.heap.size w w' := by
  subst hE
  exact firstError_any cs b cap w hl hb hm ht

theorem tells_one {w : World} {c : Cnd} (h : CndTells w c) : ∀ i d, ([c] : List Cnd)[i]? = some d → (∀ x ∈ ([c] : List Cnd).take i, x.holds = true) → CndTells w d := by
  intro i d hd _
  match i, hd with
  | 0, hd => simp at hd; subst hd; exact h
  | i + 1, hd => simp at hd
theorem tells_two {w : World} {c1 c2 : Cnd} (h1 : CndTells w c1) (h2 : c1.holds = true → CndTells w c2) : ∀ i d, ([c1, c2] : List Cnd)[i]? = some d → (∀ x ∈ ([c1, c2] : List Cnd).take i, x.holds = true) → CndTells w d := by
  intro i d hd hx
  match i, hd with
  | 0, hd => simp at hd; subst hd; exact h1
  | 1, hd => simp at hd; subst hd; exact h2 (hx c1 (by simp))
  | i + 2, hd => simp at hd
theorem tells_three {w : World} {c1 c2 c3 : Cnd} (h1 : CndTells w c1) (h2 : c1.holds = true → CndTells w c2) (h3 : c1.holds = true → c2.holds = true → CndTells w c3) : ∀ i d, ([c1, c2, c3] : List Cnd)[i]? = some d → (∀ x ∈ ([c1, c2, c3] : List Cnd).take i, x.holds = true) → CndTells w d := by
  intro i d hd hx
  match i, hd with
  | 0, hd => simp at hd; subst hd; exact h1
  | 1, hd => simp at hd; subst hd; exact h2 (hx c1 (by simp))
  | 2, hd => simp at hd; subst hd; exact h3 (hx c1 (by simp)) (hx c2 (by simp))
  | i + 3, hd => simp at hd
theorem tells_four {w : World} {c1 c2 c3 c4 : Cnd} (h1 : CndTells w c1) (h2 : c1.holds = true → CndTells w c2) (h3 : c1.holds = true → c2.holds = true → CndTells w c3) (h4 : c1.holds = true → c2.holds = true → c3.holds = true → CndTells w c4) : ∀ i d, ([c1, c2, c3, c4] : List Cnd)[i]? = some d → (∀ x ∈ ([c1, c2, c3, c4] : List Cnd).take i, x.holds = true) → CndTells w d := by
  intro i d hd hx
  match i, hd with
  | 0, hd => simp at hd; subst hd; exact h1
  | 1, hd => simp at hd; subst hd; exact h2 (hx c1 (by simp))
  | 2, hd => simp at hd; subst hd; exact h3 (hx c1 (by simp)) (hx c2 (by simp))
  | 3, hd => simp at hd; subst hd; exact h4 (hx c1 (by simp)) (hx c2 (by simp)) (hx c3 (by simp))
  | i + 4, hd => simp at hd

theorem cnds_one_at {w : World} {n : Nat} {c : Cnd} {T : TypeId} (hn : w.heap.size = n) : CndsAt (w.alloc (.cells #[.func (.func c.f) #[] c.caps] T)) n [c] := by
  subst hn
  intro i x hx
  match i, hx with
  | 0, hx => simp at hx; subst hx; simp [go_sem]
  | i + 1, hx => simp at hx
theorem cnds_two_at {w : World} {n : Nat} {c d : Cnd} {T : TypeId} (hn : w.heap.size = n) : CndsAt (w.alloc (.cells #[.func (.func c.f) #[] c.caps, .func (.func d.f) #[] d.caps] T)) n [c, d] := by
  subst hn
  intro i x hx
  match i, hx with
  | 0, hx => simp at hx; subst hx; simp [go_sem]
  | 1, hx => simp at hx; subst hx; simp [go_sem]
  | i + 2, hx => simp at hx
theorem cnds_three_at {w : World} {n : Nat} {c d f : Cnd} {T : TypeId} (hn : w.heap.size = n) : CndsAt (w.alloc (.cells #[.func (.func c.f) #[] c.caps, .func (.func d.f) #[] d.caps, .func (.func f.f) #[] f.caps] T)) n [c, d, f] := by
  subst hn
  intro i x hx
  match i, hx with
  | 0, hx => simp at hx; subst hx; simp [go_sem]
  | 1, hx => simp at hx; subst hx; simp [go_sem]
  | 2, hx => simp at hx; subst hx; simp [go_sem]
  | i + 3, hx => simp at hx
theorem cnds_four_at {w : World} {n : Nat} {c d f g : Cnd} {T : TypeId} (hn : w.heap.size = n) : CndsAt (w.alloc (.cells #[.func (.func c.f) #[] c.caps, .func (.func d.f) #[] d.caps, .func (.func f.f) #[] f.caps, .func (.func g.f) #[] g.caps] T)) n [c, d, f, g] := by
  subst hn
  intro i x hx
  match i, hx with
  | 0, hx => simp at hx; subst hx; simp [go_sem]
  | 1, hx => simp at hx; subst hx; simp [go_sem]
  | 2, hx => simp at hx; subst hx; simp [go_sem]
  | 3, hx => simp at hx; subst hx; simp [go_sem]
  | i + 4, hx => simp at hx

/-! ### Unless -/
theorem unless1_any (E : Int) (f : Nat) (caps : Array Value) (k : Bool) (p q : Addr) (w : World) (h : Tells w f caps k) (hp : w.cell? p = some (.int .i64 E)) (hq : w.cell? q = some (.func (.func f) #[] caps)) :
    Calls Tryz.prog 109 #[.pointer (some q), .pointer (some p)] w fun e w' => e = .returned (.int .i64 (if k then 0 else E)) ∧ Below w.heap.size w w' := by
  obtain ⟨t1, t2⟩ := h
  have T2 := hide t2
  clear t2
  cases k with
  | false =>
    go_enter Tryz.func109, Tryz.ntmps109
    go_wp2_with fail
    refine (T2.out _ (Below.refl _ _)).mono ?_
    rintro e w1 ⟨rfl, hb1⟩
    have c1 := later hb1 hp
    go_wp2_with fail
    go_ret
    exact ⟨rfl, (by repeat (first | exact Below.refl _ _ | assumption | apply balloc | apply bdrew | (refine below_drewN ?_ _) | (refine bset ?_ (by first | (simp; done) | omega | (simp; omega)) _) | (refine bnext ?_ (by assumption))))⟩
  | true =>
    go_enter Tryz.func109, Tryz.ntmps109
    go_wp2_with fail
    refine (T2.out _ (Below.refl _ _)).mono ?_
    rintro e w1 ⟨rfl, hb1⟩
    go_wp2_with fail
    go_ret
    exact ⟨rfl, (by repeat (first | exact Below.refl _ _ | assumption | apply balloc | apply bdrew | (refine below_drewN ?_ _) | (refine bset ?_ (by first | (simp; done) | omega | (simp; omega)) _) | (refine bnext ?_ (by assumption))))⟩
theorem tells_later {w W : World} {f : Nat} {caps : Array Value} {k : Bool} (h : Tells w f caps k) (hb : Below w.heap.size w W) : Tells W f caps k := ⟨h.1, fun V hV => h.2 V (below_trans hb hV)⟩
theorem unless_any (E : Int) (f : Nat) (caps : Array Value) (w : World) :
    Calls Tryz.prog 52 #[.int .i64 E, .func (.func f) #[] caps] w fun e w' => e = .returned (.func (.func 109) #[] #[.pointer (some ⟨w.heap.size + 1, 0, none⟩), .pointer (some ⟨w.heap.size, 0, none⟩)]) ∧ (w.alloc (.cells #[.int .i64 E] 27)).alloc (.cells #[.func (.func f) #[] caps] 34) = w' := by
  go_enter Tryz.func52, Tryz.ntmps52
  go_wp2
  exact bodyPost_ret (v := .func (.func 109) #[] #[.pointer (some ⟨w.heap.size + 1, 0, none⟩), .pointer (some ⟨w.heap.size, 0, none⟩)]) (by simp [results, Tryz.results52, go_sem]) rfl ⟨rfl, rfl⟩
theorem unless_tells (E : Int) (f : Nat) (caps : Array Value) (k : Bool) (p q : Addr) (w : World) (hE : (E == 0) = false) (h : Tells w f caps k) (hp : w.cell? p = some (.int .i64 E)) (hq : w.cell? q = some (.func (.func f) #[] caps)) :
    CndTells w ⟨E, 109, #[.pointer (some q), .pointer (some p)], k⟩ :=
  ⟨enters_of Tryz.func109 (by kernel_rfl) rfl _, fun _ => hE, fun W hW => unless1_any E f caps k p q W (tells_later h hW) (later hW hp) (later hW hq)⟩
/-- Unless: the condition that it returns tells the error E, or none. -/
theorem unless_ex (E : Int) (f : Nat) (caps : Array Value) (k : Bool) (w : World) (hE : (E == 0) = false) (h : Tells w f caps k) :
    Calls Tryz.prog 52 #[.int .i64 E, .func (.func f) #[] caps] w fun e w' => e = .returned (.func (.func 109) #[] #[.pointer (some ⟨w.heap.size + 1, 0, none⟩), .pointer (some ⟨w.heap.size, 0, none⟩)]) ∧ CndTells w' ⟨E, 109, #[.pointer (some ⟨w.heap.size + 1, 0, none⟩), .pointer (some ⟨w.heap.size, 0, none⟩)], k⟩ ∧ Below w.heap.size w w' :=
  (unless_any E f caps w).mono (by
    rintro e w' ⟨rfl, rfl⟩
    exact ⟨rfl, unless_tells E f caps k _ _ _ hE (tells_later h (by repeat (first | exact Below.refl _ _ | assumption | apply balloc | apply bdrew | (refine below_drewN ?_ _) | (refine bset ?_ (by first | (simp; done) | omega | (simp; omega)) _) | (refine bnext ?_ (by assumption))))) (by simp [go_sem, World.cell?_alloc_past]) (by simp [go_sem, World.cell?_alloc_past]), (by repeat (first | exact Below.refl _ _ | assumption | apply balloc | apply bdrew | (refine below_drewN ?_ _) | (refine bset ?_ (by first | (simp; done) | omega | (simp; omega)) _) | (refine bnext ?_ (by assumption))))⟩)
end Go.Proofs.YtimfbjnpalgmcaaGreat

namespace Go.Proofs.YtimfbjnpalgmcaaGreat
set_option linter.unusedSimpArgs false
set_option linter.unusedVariables false
open Go.RowKit

/-- The elements of a slice of structs of two integers (ranges, fractions, knots), as they lie in memory. -/
def IsPairs (w : World) (a : Option Addr) (ps : List (Int × Int)) : Prop :=
  ps = [] ∨ ∃ b off, a = some ⟨b, off, none⟩ ∧ ∀ i, i < ps.length → w.cell? ⟨b, off + i * 2, none⟩ = some (.int .i64 (ps.getD i (0, 0)).1) ∧ w.cell? ⟨b, off + i * 2 + 1, none⟩ = some (.int .i64 (ps.getD i (0, 0)).2)
theorem pairs_later {w W : World} {a : Option Addr} {ps : List (Int × Int)} (h : IsPairs w a ps) (hb : Below w.heap.size w W) : IsPairs W a ps := by
  rcases h with h | ⟨b, off, e, h⟩
  · exact .inl h
  · exact .inr ⟨b, off, e, fun i hi => ⟨later hb (h i hi).1, later hb (h i hi).2⟩⟩
theorem ints_later {w W : World} {a : Option Addr} {zs : List Int} (h : IsInts w a zs) (hb : Below w.heap.size w W) : IsInts W a zs := by
  rcases h with h | ⟨b, off, e, h⟩
  · exact .inl h
  · exact .inr ⟨b, off, e, fun i hi => later hb (h i hi)⟩

/-- A list of which every element passes a test: one element more, or one that does not pass. -/
theorem all_step {α : Type} {f : α → Bool} {l : List α} {d : α} {k : Nat} (hk : k < l.length) (h : (l.take k).all f = true) (h1 : f (l.getD k d) = true) : (l.take (k + 1)).all f = true := by
  rw [List.take_succ_eq_append_getElem hk, List.all_append, h]
  simp only [List.getD_eq_getElem?_getD, List.getElem?_eq_getElem hk, Option.getD_some] at h1
  simp [h1]
theorem all_stop {α : Type} {f : α → Bool} {l : List α} {d : α} {k : Nat} (hk : k < l.length) (h1 : f (l.getD k d) = false) : l.all f = false := by
  simp only [List.getD_eq_getElem?_getD, List.getElem?_eq_getElem hk, Option.getD_some] at h1
  rw [List.all_eq_false]
  exact ⟨l[k], List.getElem_mem hk, by simp [h1]⟩
theorem all_end {α : Type} {f : α → Bool} {l : List α} {k : Nat} (hk : ¬ k < l.length) (h : (l.take k).all f = true) : l.all f = true := by
  rwa [List.take_of_length_le (by omega)] at h

theorem enters_any {f : FuncId} {fn : Func} {c : Code} (hf : Tryz.prog.funcs[f]? = some fn) (hname : (fn.name == "runtime.NumGoroutine") = false) (hb : fn.body = some c) (args : Array Value) (W : World) : (callFunc f args).run Tryz.prog W = .ok (.enter f args) W := enters_of hf hname hb args W

theorem ints_two_at {w : World} {n : Nat} {a b : Int} {T : TypeId} (hn : w.heap.size = n) : IsInts (w.alloc (.cells #[.int .i64 a, .int .i64 b] T)) (some ⟨n, 0, none⟩) [a, b] := by subst hn; exact ints_two w a b T
theorem ints_one_at {w : World} {n : Nat} {a : Int} {T : TypeId} (hn : w.heap.size = n) : IsInts (w.alloc (.cells #[.int .i64 a] T)) (some ⟨n, 0, none⟩) [a] := by subst hn; exact ints_one w a T

/-! ### atMost -/
theorem atMost1_any (l m : Int) (p q : Addr) (w : World) (hp : w.cell? p = some (.int .i64 l)) (hq : w.cell? q = some (.int .i64 m)) :
    Calls Tryz.prog 119 #[.pointer (some p), .pointer (some q)] w fun e w' => e = .returned (.bool (decide (l ≤ m))) ∧ w = w' := by
  go_enter Tryz.func119, Tryz.ntmps119
  go_wp2
  go_ret
  exact ⟨rfl, rfl⟩
theorem atMost1_tells (k : Bool) (l m : Int) (p q : Addr) (w : World) (hk : decide (l ≤ m) = k) (hp : w.cell? p = some (.int .i64 l)) (hq : w.cell? q = some (.int .i64 m)) :
    Tells w 119 #[.pointer (some p), .pointer (some q)] k := by
  subst hk
  exact ⟨enters_any Tryz.func119 (by kernel_rfl) rfl _, fun W hW => (atMost1_any l m p q W (later hW hp) (later hW hq)).mono (by rintro e w' ⟨rfl, rfl⟩; exact ⟨rfl, Below.refl _ _⟩)⟩
theorem atMost_any (m l : Int) (w : World) :
    Calls Tryz.prog 70 #[.int .i64 m, .int .i64 l] w fun e w' => e = .returned (.func (.func 109) #[] #[.pointer (some ⟨w.heap.size + 1 + 1 + 1, 0, none⟩), .pointer (some ⟨w.heap.size + 1 + 1, 0, none⟩)]) ∧
      (((w.alloc (.cells #[.int .i64 m] 3)).alloc (.cells #[.int .i64 l] 3)).alloc (.cells #[.int .i64 5] 27)).alloc (.cells #[.func (.func 119) #[] #[.pointer (some ⟨w.heap.size + 1, 0, none⟩), .pointer (some ⟨w.heap.size, 0, none⟩)]] 34) = w' := by
  go_enter Tryz.func70, Tryz.ntmps70
  go_wp2_with (go_at_call 52; refine (unless_any _ _ _ _).mono ?_; rintro e w' ⟨rfl, rfl⟩)
  exact bodyPost_ret (v := .func (.func 109) #[] #[.pointer (some ⟨w.heap.size + 1 + 1 + 1, 0, none⟩), .pointer (some ⟨w.heap.size + 1 + 1, 0, none⟩)]) (by simp [results, Tryz.results70, go_sem]) rfl ⟨rfl, rfl⟩
theorem atMost_tells (k : Bool) (l m : Int) (p q r s : Addr) (w : World) (hk : decide (l ≤ m) = k) (hp : w.cell? p = some (.int .i64 l)) (hq : w.cell? q = some (.int .i64 m))
    (hr : w.cell? r = some (.func (.func 119) #[] #[.pointer (some p), .pointer (some q)])) (hs : w.cell? s = some (.int .i64 5)) :
    CndTells w ⟨5, 109, #[.pointer (some r), .pointer (some s)], k⟩ := unless_tells 5 _ _ k s r w rfl (atMost1_tells k l m p q w hk hp hq) hs hr
theorem atMost_ex (k : Bool) (m l : Int) (w : World) (hk : decide (l ≤ m) = k) :
    Calls Tryz.prog 70 #[.int .i64 m, .int .i64 l] w fun e w' => e = .returned (.func (.func 109) #[] #[.pointer (some ⟨w.heap.size + 1 + 1 + 1, 0, none⟩), .pointer (some ⟨w.heap.size + 1 + 1, 0, none⟩)]) ∧
      CndTells w' ⟨5, 109, #[.pointer (some ⟨w.heap.size + 1 + 1 + 1, 0, none⟩), .pointer (some ⟨w.heap.size + 1 + 1, 0, none⟩)], k⟩ ∧ Below w.heap.size w w' :=
  (atMost_any m l w).mono (by
    rintro e w' ⟨rfl, rfl⟩
    exact ⟨rfl, atMost_tells k l m ⟨w.heap.size + 1, 0, none⟩ ⟨w.heap.size, 0, none⟩ ⟨w.heap.size + 1 + 1 + 1, 0, none⟩ ⟨w.heap.size + 1 + 1, 0, none⟩ _ hk (by simp [go_sem, World.cell?_alloc_past]) (by simp [go_sem, World.cell?_alloc_past]) (by simp [go_sem, World.cell?_alloc_past]) (by simp [go_sem, World.cell?_alloc_past]), (by repeat (first | exact Below.refl _ _ | assumption | apply balloc | apply bdrew | (refine below_drewN ?_ _) | (refine bset ?_ (by first | (simp; done) | omega | (simp; omega)) _) | (refine bnext ?_ (by assumption))))⟩)

/-! ### validRanges -/
def rangeOk (r : Int × Int) : Bool := allIn 1000000000000000 [r.1, r.2] && decide (r.1 ≤ r.2)
set_option maxHeartbeats 1000000 in
theorem validRanges1_any (a : Option Addr) (cap : Nat) (rs : List (Int × Int)) (p : Addr) (w : World) (hl : rs.length ≤ 140737488351232) (hp : w.cell? p = some (.slice a rs.length cap)) (h : IsPairs w a rs) :
    Calls Tryz.prog 135 #[.pointer (some p)] w fun e w' => e = .returned (.bool (rs.all rangeOk)) ∧ Below w.heap.size w w' := by
  have hd : Hid (IsPairs w a rs) := h
  clear h
  go_enter Tryz.func135, Tryz.ntmps135
  go_wp2
  go_loopw [6] (fun i wr => ∃ k : Nat, k ≤ rs.length ∧ i = .int .i64 (k : Int) ∧ (rs.take k).all rangeOk = true ∧ Below w.heap.size w wr) (fun i _ => rs.length - (intOf i).toNat)
  case atStart => exact ⟨0, by omega, rfl, rfl, Below.refl _ _⟩
  case round =>
    obtain ⟨k, hk, rfl, hall, hbw⟩ := hrel
    have Hall := hide hall
    clear hall
    by_cases hlt : k < rs.length
    · obtain ⟨b, off, rfl, hc⟩ : ∃ b off, a = some ⟨b, off, none⟩ ∧ ∀ i, i < rs.length → wr.cell? ⟨b, off + i * 2, none⟩ = some (.int .i64 (rs.getD i (0, 0)).1) ∧ wr.cell? ⟨b, off + i * 2 + 1, none⟩ = some (.int .i64 (rs.getD i (0, 0)).2) := by
        rcases pairs_later hd.out hbw with h | h
        · subst h; simp at hlt
        · exact h
      obtain ⟨c1, c2⟩ := hc k hlt
      clear hc
      have S1 := hide (all_step (f := rangeOk) (d := (0, 0)) hlt Hall.out)
      have S2 := hide (all_stop (f := rangeOk) (l := rs) (d := (0, 0)) hlt)
      generalize rs.getD k (0, 0) = z at *
      obtain ⟨x, y⟩ := z
      simp only at c1 c2
      cases hA : allIn 1000000000000000 [x, y] with
      | false =>
        have E := S2.out (by simp [rangeOk, hA])
        have C := hide fun w' hw => areNumbers_any [x, y] (some ⟨wr.heap.size + 1, 0, none⟩) 2 w' hw (by simp)
        rw [hA] at C
        clear hA
        go_wp2_with (go_at_call 103; refine (C.out _ (ints_two_at (by simp))).mono ?_; rintro e w' ⟨rfl, rfl⟩)
        go_ret
        exact ⟨ret_bool E.symm, balloc (balloc hbw)⟩
      | true =>
        have C := hide fun w' hw => areNumbers_any [x, y] (some ⟨wr.heap.size + 1, 0, none⟩) 2 w' hw (by simp)
        rw [hA] at C
        by_cases hxy : y < x
        · have E := S2.out (by simp [rangeOk]; intro; omega)
          clear hA
          go_wp2_with (go_at_call 103; refine (C.out _ (ints_two_at (by simp))).mono ?_; rintro e w' ⟨rfl, rfl⟩)
          go_ret
          exact ⟨ret_bool E.symm, balloc (balloc hbw)⟩
        · have E := hide (S1.out (by simp [rangeOk, hA]; omega))
          clear hA
          go_wp2_with (go_at_call 103; refine (C.out _ (ints_two_at (by simp))).mono ?_; rintro e w' ⟨rfl, rfl⟩)
          go_roundw
          case rel => exact ⟨k + 1, by omega, by go_num, E.out, balloc (balloc hbw)⟩
          case measure => simp [intOf]; omega
    · have E := all_end hlt Hall.out
      go_wp2
      go_ret
      exact ⟨ret_bool E.symm, hbw⟩
theorem validRanges1_tells (k : Bool) (a : Option Addr) (cap n : Nat) (rs : List (Int × Int)) (p : Addr) (w : World) (hk : rs.all rangeOk = k) (hn : n = rs.length) (hl : rs.length ≤ 140737488351232) (hp : w.cell? p = some (.slice a n cap)) (h : IsPairs w a rs) :
    Tells w 135 #[.pointer (some p)] k := by
  subst hn hk
  exact ⟨enters_any Tryz.func135 (by kernel_rfl) rfl _, fun W hW => validRanges1_any a cap rs p W hl (later hW hp) (pairs_later h hW)⟩
theorem validRanges_any (a : Option Addr) (n cap : Nat) (w : World) :
    Calls Tryz.prog 92 #[.slice a n cap] w fun e w' => e = .returned (.func (.func 109) #[] #[.pointer (some ⟨w.heap.size + 1 + 1, 0, none⟩), .pointer (some ⟨w.heap.size + 1, 0, none⟩)]) ∧
      ((w.alloc (.cells #[.slice a n cap] 41)).alloc (.cells #[.int .i64 2] 27)).alloc (.cells #[.func (.func 135) #[] #[.pointer (some ⟨w.heap.size, 0, none⟩)]] 34) = w' := by
  go_enter Tryz.func92, Tryz.ntmps92
  go_wp2_with (go_at_call 52; refine (unless_any _ _ _ _).mono ?_; rintro e w' ⟨rfl, rfl⟩)
  exact bodyPost_ret (v := .func (.func 109) #[] #[.pointer (some ⟨w.heap.size + 1 + 1, 0, none⟩), .pointer (some ⟨w.heap.size + 1, 0, none⟩)]) (by simp [results, Tryz.results92, go_sem]) rfl ⟨rfl, rfl⟩
theorem validRanges_tells (k : Bool) (a : Option Addr) (cap n : Nat) (rs : List (Int × Int)) (p r s : Addr) (w : World) (hk : rs.all rangeOk = k) (hn : n = rs.length) (hl : rs.length ≤ 140737488351232) (hp : w.cell? p = some (.slice a n cap))
    (hr : w.cell? r = some (.func (.func 135) #[] #[.pointer (some p)])) (hs : w.cell? s = some (.int .i64 2)) (h : IsPairs w a rs) :
    CndTells w ⟨2, 109, #[.pointer (some r), .pointer (some s)], k⟩ := unless_tells 2 _ _ k s r w rfl (validRanges1_tells k a cap n rs p w hk hn hl hp h) hs hr
theorem validRanges_ex (k : Bool) (a : Option Addr) (cap n : Nat) (rs : List (Int × Int)) (w : World) (hk : rs.all rangeOk = k) (hn : n = rs.length) (hl : rs.length ≤ 140737488351232) (h : IsPairs w a rs) :
    Calls Tryz.prog 92 #[.slice a n cap] w fun e w' => e = .returned (.func (.func 109) #[] #[.pointer (some ⟨w.heap.size + 1 + 1, 0, none⟩), .pointer (some ⟨w.heap.size + 1, 0, none⟩)]) ∧
      CndTells w' ⟨2, 109, #[.pointer (some ⟨w.heap.size + 1 + 1, 0, none⟩), .pointer (some ⟨w.heap.size + 1, 0, none⟩)], k⟩ ∧ Below w.heap.size w w' :=
  (validRanges_any a n cap w).mono (by
    rintro e w' ⟨rfl, rfl⟩
    exact ⟨rfl, validRanges_tells k a cap n rs ⟨w.heap.size, 0, none⟩ ⟨w.heap.size + 1 + 1, 0, none⟩ ⟨w.heap.size + 1, 0, none⟩ _ hk hn hl (by simp [go_sem, World.cell?_alloc_past]) (by simp [go_sem, World.cell?_alloc_past]) (by simp [go_sem, World.cell?_alloc_past]) (pairs_later h (by repeat (first | exact Below.refl _ _ | assumption | apply balloc | apply bdrew | (refine below_drewN ?_ _) | (refine bset ?_ (by first | (simp; done) | omega | (simp; omega)) _) | (refine bnext ?_ (by assumption))))), (by repeat (first | exact Below.refl _ _ | assumption | apply balloc | apply bdrew | (refine below_drewN ?_ _) | (refine bset ?_ (by first | (simp; done) | omega | (simp; omega)) _) | (refine bnext ?_ (by assumption))))⟩)

/-! ### validFractions -/
def fracOk (f : Int × Int) : Bool := allIn 1000000000000000 [f.1] && isDiv f.2
set_option maxHeartbeats 1000000 in
theorem validFractions1_any (a : Option Addr) (cap : Nat) (rs : List (Int × Int)) (p : Addr) (w : World) (hl : rs.length ≤ 140737488351232) (hp : w.cell? p = some (.slice a rs.length cap)) (h : IsPairs w a rs) :
    Calls Tryz.prog 131 #[.pointer (some p)] w fun e w' => e = .returned (.bool (rs.all fracOk)) ∧ Below w.heap.size w w' := by
  have hd : Hid (IsPairs w a rs) := h
  clear h
  go_enter Tryz.func131, Tryz.ntmps131
  go_wp2
  go_loopw [6] (fun i wr => ∃ k : Nat, k ≤ rs.length ∧ i = .int .i64 (k : Int) ∧ (rs.take k).all fracOk = true ∧ Below w.heap.size w wr) (fun i _ => rs.length - (intOf i).toNat)
  case atStart => exact ⟨0, by omega, rfl, rfl, Below.refl _ _⟩
  case round =>
    obtain ⟨k, hk, rfl, hall, hbw⟩ := hrel
    have Hall := hide hall
    clear hall
    by_cases hlt : k < rs.length
    · obtain ⟨b, off, rfl, hc⟩ : ∃ b off, a = some ⟨b, off, none⟩ ∧ ∀ i, i < rs.length → wr.cell? ⟨b, off + i * 2, none⟩ = some (.int .i64 (rs.getD i (0, 0)).1) ∧ wr.cell? ⟨b, off + i * 2 + 1, none⟩ = some (.int .i64 (rs.getD i (0, 0)).2) := by
        rcases pairs_later hd.out hbw with h | h
        · subst h; simp at hlt
        · exact h
      obtain ⟨c1, c2⟩ := hc k hlt
      clear hc
      have S1 := hide (all_step (f := fracOk) (d := (0, 0)) hlt Hall.out)
      have S2 := hide (all_stop (f := fracOk) (l := rs) (d := (0, 0)) hlt)
      generalize rs.getD k (0, 0) = z at *
      obtain ⟨x, y⟩ := z
      simp only at c1 c2
      have C := fun w' hw => areNumbers_any [x] (some ⟨wr.heap.size + 1, 0, none⟩) 1 w' hw (by simp)
      have D := fun w' => isDivisor_any y w'
      cases hA : allIn 1000000000000000 [x] with
      | false =>
        have E := S2.out (by simp [fracOk, hA])
        rw [hA] at C
        have C' := hide C
        clear hA C D
        go_wp2_with (go_at_call 103; refine (C'.out _ (ints_one_at (by simp))).mono ?_; rintro e w' ⟨rfl, rfl⟩)
        go_ret
        exact ⟨ret_bool E.symm, balloc (balloc hbw)⟩
      | true =>
        rw [hA] at C
        have C' := hide C
        clear C
        cases hB : isDiv y with
        | false =>
          have E := S2.out (by simp [fracOk, hB])
          rw [hB] at D
          have D' := hide D
          clear hA hB D
          go_wp2_with (first | (go_at_call 103; refine (C'.out _ (ints_one_at (by simp))).mono ?_; rintro e w' ⟨rfl, rfl⟩) | (go_at_call 104; refine (D'.out _).mono ?_; rintro e w' ⟨rfl, hb⟩))
          go_ret
          exact ⟨ret_bool E.symm, bnext (balloc (balloc hbw)) (by assumption)⟩
        | true =>
          have E := hide (S1.out (by simp [fracOk, hA, hB]))
          rw [hB] at D
          have D' := hide D
          clear hA hB D
          go_wp2_with (first | (go_at_call 103; refine (C'.out _ (ints_one_at (by simp))).mono ?_; rintro e w' ⟨rfl, rfl⟩) | (go_at_call 104; refine (D'.out _).mono ?_; rintro e w' ⟨rfl, hb⟩))
          go_roundw
          case rel => exact ⟨k + 1, by omega, by go_num, E.out, bnext (balloc (balloc hbw)) (by assumption)⟩
          case measure => simp [intOf]; omega
    · have E := all_end hlt Hall.out
      go_wp2
      go_ret
      exact ⟨ret_bool E.symm, hbw⟩
theorem validFractions1_tells (k : Bool) (a : Option Addr) (cap n : Nat) (rs : List (Int × Int)) (p : Addr) (w : World) (hk : rs.all fracOk = k) (hn : n = rs.length) (hl : rs.length ≤ 140737488351232) (hp : w.cell? p = some (.slice a n cap)) (h : IsPairs w a rs) :
    Tells w 131 #[.pointer (some p)] k := by
  subst hn hk
  exact ⟨enters_any Tryz.func131 (by kernel_rfl) rfl _, fun W hW => validFractions1_any a cap rs p W hl (later hW hp) (pairs_later h hW)⟩
theorem validFractions_any (a : Option Addr) (n cap : Nat) (w : World) :
    Calls Tryz.prog 89 #[.slice a n cap] w fun e w' => e = .returned (.func (.func 109) #[] #[.pointer (some ⟨w.heap.size + 1 + 1, 0, none⟩), .pointer (some ⟨w.heap.size + 1, 0, none⟩)]) ∧
      ((w.alloc (.cells #[.slice a n cap] 186)).alloc (.cells #[.int .i64 2] 27)).alloc (.cells #[.func (.func 131) #[] #[.pointer (some ⟨w.heap.size, 0, none⟩)]] 34) = w' := by
  go_enter Tryz.func89, Tryz.ntmps89
  go_wp2_with (go_at_call 52; refine (unless_any _ _ _ _).mono ?_; rintro e w' ⟨rfl, rfl⟩)
  exact bodyPost_ret (v := .func (.func 109) #[] #[.pointer (some ⟨w.heap.size + 1 + 1, 0, none⟩), .pointer (some ⟨w.heap.size + 1, 0, none⟩)]) (by simp [results, Tryz.results89, go_sem]) rfl ⟨rfl, rfl⟩
theorem validFractions_tells (k : Bool) (a : Option Addr) (cap n : Nat) (rs : List (Int × Int)) (p r s : Addr) (w : World) (hk : rs.all fracOk = k) (hn : n = rs.length) (hl : rs.length ≤ 140737488351232) (hp : w.cell? p = some (.slice a n cap))
    (hr : w.cell? r = some (.func (.func 131) #[] #[.pointer (some p)])) (hs : w.cell? s = some (.int .i64 2)) (h : IsPairs w a rs) :
    CndTells w ⟨2, 109, #[.pointer (some r), .pointer (some s)], k⟩ := unless_tells 2 _ _ k s r w rfl (validFractions1_tells k a cap n rs p w hk hn hl hp h) hs hr
theorem validFractions_ex (k : Bool) (a : Option Addr) (cap n : Nat) (rs : List (Int × Int)) (w : World) (hk : rs.all fracOk = k) (hn : n = rs.length) (hl : rs.length ≤ 140737488351232) (h : IsPairs w a rs) :
    Calls Tryz.prog 89 #[.slice a n cap] w fun e w' => e = .returned (.func (.func 109) #[] #[.pointer (some ⟨w.heap.size + 1 + 1, 0, none⟩), .pointer (some ⟨w.heap.size + 1, 0, none⟩)]) ∧
      CndTells w' ⟨2, 109, #[.pointer (some ⟨w.heap.size + 1 + 1, 0, none⟩), .pointer (some ⟨w.heap.size + 1, 0, none⟩)], k⟩ ∧ Below w.heap.size w w' :=
  (validFractions_any a n cap w).mono (by
    rintro e w' ⟨rfl, rfl⟩
    exact ⟨rfl, validFractions_tells k a cap n rs ⟨w.heap.size, 0, none⟩ ⟨w.heap.size + 1 + 1, 0, none⟩ ⟨w.heap.size + 1, 0, none⟩ _ hk hn hl (by simp [go_sem, World.cell?_alloc_past]) (by simp [go_sem, World.cell?_alloc_past]) (by simp [go_sem, World.cell?_alloc_past]) (pairs_later h (by repeat (first | exact Below.refl _ _ | assumption | apply balloc | apply bdrew | (refine below_drewN ?_ _) | (refine bset ?_ (by first | (simp; done) | omega | (simp; omega)) _) | (refine bnext ?_ (by assumption))))), (by repeat (first | exact Below.refl _ _ | assumption | apply balloc | apply bdrew | (refine below_drewN ?_ _) | (refine bset ?_ (by first | (simp; done) | omega | (simp; omega)) _) | (refine bnext ?_ (by assumption))))⟩)

theorem pairs_one_at {w : World} {n : Nat} {a b : Int} {T : TypeId} (hn : w.heap.size = n) : IsPairs (w.alloc (.cells #[.int .i64 a, .int .i64 b] T)) (some ⟨n, 0, none⟩) [(a, b)] := by
  subst hn
  refine .inr ⟨_, _, rfl, fun i hi => ?_⟩
  obtain rfl : i = 0 := by simpa using hi
  simp [go_sem]
theorem pairs_two_at {w : World} {n : Nat} {a b c d : Int} {T : TypeId} (hn : w.heap.size = n) : IsPairs (w.alloc (.cells #[.int .i64 a, .int .i64 b, .int .i64 c, .int .i64 d] T)) (some ⟨n, 0, none⟩) [(a, b), (c, d)] := by
  subst hn
  refine .inr ⟨_, _, rfl, fun i hi => ?_⟩
  simp at hi
  obtain rfl | rfl : i = 0 ∨ i = 1 := by omega
  · simp [go_sem]
  · simp [go_sem]
theorem pairs_three_at {w : World} {n : Nat} {a b c d f g : Int} {T : TypeId} (hn : w.heap.size = n) : IsPairs (w.alloc (.cells #[.int .i64 a, .int .i64 b, .int .i64 c, .int .i64 d, .int .i64 f, .int .i64 g] T)) (some ⟨n, 0, none⟩) [(a, b), (c, d), (f, g)] := by
  subst hn
  refine .inr ⟨_, _, rfl, fun i hi => ?_⟩
  simp at hi
  obtain rfl | rfl | rfl : i = 0 ∨ i = 1 ∨ i = 2 := by omega
  · simp [go_sem]
  · simp [go_sem]
  · simp [go_sem]

theorem pairs_nil (W : World) (a : Option Addr) : IsPairs W a [] := .inl rfl
theorem pairs_one_of {W : World} {n : Nat} {a b : Int} (h0 : W.cell? ⟨n, 0, none⟩ = some (.int .i64 a)) (h1 : W.cell? ⟨n, 1, none⟩ = some (.int .i64 b)) : IsPairs W (some ⟨n, 0, none⟩) [(a, b)] := by
  refine .inr ⟨_, _, rfl, fun i hi => ?_⟩
  obtain rfl : i = 0 := by simpa using hi
  exact ⟨h0, h1⟩
theorem pairs_two_of {W : World} {n : Nat} {a b c d : Int} (h0 : W.cell? ⟨n, 0, none⟩ = some (.int .i64 a)) (h1 : W.cell? ⟨n, 1, none⟩ = some (.int .i64 b)) (h2 : W.cell? ⟨n, 2, none⟩ = some (.int .i64 c)) (h3 : W.cell? ⟨n, 3, none⟩ = some (.int .i64 d)) : IsPairs W (some ⟨n, 0, none⟩) [(a, b), (c, d)] := by
  refine .inr ⟨_, _, rfl, fun i hi => ?_⟩
  simp at hi
  obtain rfl | rfl : i = 0 ∨ i = 1 := by omega
  · exact ⟨h0, h1⟩
  · exact ⟨h2, h3⟩
theorem pairs_three_of {W : World} {n : Nat} {a b c d f g : Int} (h0 : W.cell? ⟨n, 0, none⟩ = some (.int .i64 a)) (h1 : W.cell? ⟨n, 1, none⟩ = some (.int .i64 b)) (h2 : W.cell? ⟨n, 2, none⟩ = some (.int .i64 c)) (h3 : W.cell? ⟨n, 3, none⟩ = some (.int .i64 d)) (h4 : W.cell? ⟨n, 4, none⟩ = some (.int .i64 f)) (h5 : W.cell? ⟨n, 5, none⟩ = some (.int .i64 g)) : IsPairs W (some ⟨n, 0, none⟩) [(a, b), (c, d), (f, g)] := by
  refine .inr ⟨_, _, rfl, fun i hi => ?_⟩
  simp at hi
  obtain rfl | rfl | rfl : i = 0 ∨ i = 1 ∨ i = 2 := by omega
  · exact ⟨h0, h1⟩
  · exact ⟨h2, h3⟩
  · exact ⟨h4, h5⟩
end Go.Proofs.YtimfbjnpalgmcaaGreat

namespace Go.Proofs.YtimfbjnpalgmcaaGreat
set_option linter.unusedSimpArgs false
set_option linter.unusedVariables false
open Go.RowKit

/-- A range from 0 to a greatest number. -/
def rgOk (most : Int) (r : Int × Int) : Bool := decide (0 ≤ r.1) && (decide (r.1 ≤ r.2) && decide (r.2 ≤ most))

/-! ### AreRanges -/
set_option maxHeartbeats 1000000 in
theorem areRanges_any (most : Int) (a : Option Addr) (cap : Nat) (rs : List (Int × Int)) (w : World) (hl : rs.length ≤ 140737488351232) (h : Hid (IsPairs w a rs)) :
    Calls Tryz.prog 82 #[.int .i64 most, .slice a rs.length cap] w fun e w' => e = .returned (.bool (rs.all (rgOk most))) ∧ Below w.heap.size w w' := by
  go_enter Tryz.func82, Tryz.ntmps82
  go_wp2_with fail
  go_loopw [9] (fun i wr => ∃ k : Nat, k ≤ rs.length ∧ i = .int .i64 (k : Int) ∧ Hid ((rs.take k).all (rgOk most) = true) ∧ Below w.heap.size w wr) (fun i _ => rs.length - (intOf i).toNat)
  case atStart => exact ⟨0, by omega, rfl, rfl, Below.refl _ _⟩
  case round =>
    obtain ⟨k, hk, rfl, hall, hbw⟩ := hrel
    by_cases hlt : k < rs.length
    · obtain ⟨b, off, rfl, hc⟩ : ∃ b off, a = some ⟨b, off, none⟩ ∧ ∀ i, i < rs.length → wr.cell? ⟨b, off + i * 2, none⟩ = some (.int .i64 (rs.getD i (0, 0)).1) ∧ wr.cell? ⟨b, off + i * 2 + 1, none⟩ = some (.int .i64 (rs.getD i (0, 0)).2) := by
        rcases pairs_later h.out hbw with h | h
        · subst h; simp at hlt
        · exact h
      obtain ⟨c1, c2⟩ := hc k hlt
      clear hc
      have S1 := hide (all_step (f := rgOk most) (d := (0, 0)) hlt hall.out)
      have S2 := hide (all_stop (f := rgOk most) (l := rs) (d := (0, 0)) hlt)
      generalize rs.getD k (0, 0) = z at *
      obtain ⟨x, y⟩ := z
      simp only at c1 c2
      have k0 : 0 ≤ (k : Int) := by omega
      have k1 : (k : Int) < rs.length := by omega
      have G := hide (show rgOk most (x, y) = (decide (0 ≤ x) && (decide (x ≤ y) && decide (y ≤ most))) from rfl)
      clear hall
      by_cases g1 : x < 0
      · have d1 : decide (x < 0) = true := decide_eq_true g1
        have E := hide (S2.out (by rw [G.out, decide_eq_false (show ¬ 0 ≤ x by omega)]; rfl))
        clear g1
        go_wp2_with fail
        go_ret
        exact ⟨ret_bool E.out.symm, balloc hbw⟩
      · have d1 : decide (x < 0) = false := decide_eq_false g1
        by_cases g2 : y < x
        · have d2 : decide (y < x) = true := decide_eq_true g2
          have E := hide (S2.out (by rw [G.out, decide_eq_false (show ¬ x ≤ y by omega)]; simp))
          clear g1 g2
          go_wp2_with fail
          go_ret
          exact ⟨ret_bool E.out.symm, balloc hbw⟩
        · have d2 : decide (y < x) = false := decide_eq_false g2
          by_cases g3 : most < y
          · have d3 : decide (most < y) = true := decide_eq_true g3
            have E := hide (S2.out (by rw [G.out, decide_eq_false (show ¬ y ≤ most by omega)]; simp))
            clear g1 g2 g3
            go_wp2_with fail
            go_ret
            exact ⟨ret_bool E.out.symm, balloc hbw⟩
          · have d3 : decide (most < y) = false := decide_eq_false g3
            have E := hide (S1.out (by rw [G.out, decide_eq_true (show 0 ≤ x by omega), decide_eq_true (show x ≤ y by omega), decide_eq_true (show y ≤ most by omega)]; rfl))
            clear g1 g2 g3
            go_wp2_with fail
            go_roundw
            case rel => exact ⟨k + 1, by omega, by go_num, E, balloc hbw⟩
            case measure => simp [intOf]; omega
    · have E := all_end hlt hall.out
      go_wp2_with fail
      go_ret
      exact ⟨ret_bool E.symm, hbw⟩
end Go.Proofs.YtimfbjnpalgmcaaGreat

namespace Go.Proofs.YtimfbjnpalgmcaaGreat
set_option linter.unusedSimpArgs false
set_option linter.unusedVariables false
open Go.RowKit

theorem take_step {α : Type} {zs ys : List α} {k : Nat} {d : α} (h : zs.take k = ys.take k) (hk : k < zs.length) (hy : k < ys.length) (he : zs.getD k d = ys.getD k d) : zs.take (k + 1) = ys.take (k + 1) := by
  rw [List.take_succ_eq_append_getElem hk, List.take_succ_eq_append_getElem hy, h]
  simp only [List.getD_eq_getElem?_getD, List.getElem?_eq_getElem hk, List.getElem?_eq_getElem hy, Option.getD_some] at he
  rw [he]
theorem take_differ {α : Type} {zs ys : List α} {k : Nat} {d : α} (he : ¬ zs.getD k d = ys.getD k d) : zs ≠ ys := by
  rintro rfl; exact he rfl
theorem take_all {α : Type} {zs ys : List α} {k : Nat} (h : zs.take k = ys.take k) (hk : ¬ k < zs.length) (hl : zs.length = ys.length) : zs = ys := by
  rwa [List.take_of_length_le (by omega), List.take_of_length_le (by omega)] at h

/-- The table of the document's examples. -/
def hillK : List (Int × Int) := [(0, 0), (10, 5), (20, 0)]
end Go.Proofs.YtimfbjnpalgmcaaGreat
