/-
  check.First, for whatever conditions; check.Unless.
-/
import Derived.Test.YtlpdbjkpgfpjjaaGreatNums
import Derived.Laws.EntriesVeiled
import Derived.Shelf.Abstract
namespace Go.Proofs.YtlpdbjkpgfpjjaaGreat
set_option linter.unusedSimpArgs false
set_option linter.unusedVariables false
open Go.RowKit

/-- A condition: its error, its closure's function and what it has captured, and whether it holds. -/
structure Cnd where
  e : Int
  f : Nat
  caps : Array Value
  holds : Bool

/-- The first error. -/
def firstE : List Cnd → Int
  | [] => 0
  | c :: cs => if c.holds then firstE cs else c.e

/-- The conditions lie in memory from the block b on. -/
def CndsAt (w : World) (b : Nat) (cs : List Cnd) : Prop :=
  ∀ i c, cs[i]? = some c → w.cell? ⟨b, i, none⟩ = some (.func (.func c.f) #[] c.caps)

/-- The closure f with its captures tells the Boolean k in each world that has come of w. -/
def Tells (w : World) (f : Nat) (caps : Array Value) (k : Bool) : Prop :=
  (∀ (W : World), (callFunc f caps).run Tryz.prog W = .ok (.enter f caps) W) ∧
  ∀ W, Below w.heap.size w W → Calls Tryz.prog f caps W fun e W' => e = .returned (.bool k) ∧ Below W.heap.size W W'

/-- What a condition returns. -/
def Cnd.val (c : Cnd) : Int := if c.holds then 0 else c.e

/-- The closure of a condition tells its error, or none, in each world that has come of w. -/
def CndTells (w : World) (c : Cnd) : Prop :=
  (∀ (W : World), (callFunc c.f c.caps).run Tryz.prog W = .ok (.enter c.f c.caps) W) ∧ (c.holds = false → (c.e == 0) = false) ∧
  ∀ W, Below w.heap.size w W → Calls Tryz.prog c.f c.caps W fun e W' => e = .returned (.int .i64 c.val) ∧ Below W.heap.size W W'
theorem below_trans {w W V : World} (h : Below w.heap.size w W) (h2 : Below W.heap.size W V) : Below w.heap.size w V := bnext h h2
theorem cnd_later {w W : World} {c : Cnd} (h : CndTells w c) (hb : Below w.heap.size w W) : CndTells W c := ⟨h.1, h.2.1, fun V hV => h.2.2 V (below_trans hb hV)⟩

theorem firstE_stop {cs : List Cnd} {k : Nat} {c : Cnd} (hc : cs[k]? = some c) (h : ∀ d ∈ cs.take k, d.holds = true) (hf : c.holds = false) : firstE cs = c.e := by
  induction cs generalizing k with
  | nil => simp at hc
  | cons d ds ih =>
    cases k with
    | zero => simp at hc; subst hc; unfold firstE; simp [hf]
    | succ k =>
      have h1 : d.holds = true := h d (by simp)
      unfold firstE
      rw [if_pos h1]
      exact ih (by simpa using hc) (fun x hx => h x (by simp [hx]))
theorem firstE_all {cs : List Cnd} (h : ∀ d ∈ cs, d.holds = true) : firstE cs = 0 := by
  induction cs with
  | nil => rfl
  | cons d ds ih => unfold firstE; rw [if_pos (h d (by simp))]; exact ih (fun x hx => h x (by simp [hx]))
theorem holds_step {cs : List Cnd} {k : Nat} {c : Cnd} (hc : cs[k]? = some c) (h : ∀ d ∈ cs.take k, d.holds = true) (hf : c.holds = true) : ∀ d ∈ cs.take (k + 1), d.holds = true := by
  intro d hd
  rw [List.take_add_one] at hd
  simp [hc] at hd
  rcases hd with hd | rfl
  · exact h d hd
  · exact hf

set_option maxHeartbeats 400000 in
theorem firstError_any (cs : List Cnd) (b cap : Nat) (w : World) (hl : cs.length ≤ 1000) (hb : b < w.heap.size) (hm : CndsAt w b cs)
    (ht : ∀ i c, cs[i]? = some c → (∀ d ∈ cs.take i, d.holds = true) → CndTells w c) :
    Calls Tryz.prog 50 #[.slice (some ⟨b, 0, none⟩) cs.length cap] w fun e w' => e = .returned (.int .i64 (firstE cs)) ∧ Below w.heap.size w w' := by
  have Ht := hide ht
  have Hm := hide hm
  clear ht hm
  go_enter Tryz.func50, Tryz.ntmps50
  go_wp2
  go_loopw [8] (fun i wr => ∃ k : Nat, k ≤ cs.length ∧ i = .int .i64 (k : Int) ∧ (∀ d ∈ cs.take k, d.holds = true) ∧ Below w.heap.size w wr) (fun i _ => cs.length - (intOf i).toNat)
  case atStart => exact ⟨0, by omega, rfl, by simp, Below.refl _ _⟩
  case round =>
    obtain ⟨k, hk, rfl, hall, hbw⟩ := hrel
    have Hall := hide hall
    clear hall
    by_cases hlt : k < cs.length
    · obtain ⟨c, hc⟩ : ∃ c, cs[k]? = some c := ⟨cs[k], List.getElem?_eq_getElem hlt⟩
      have c1 := Hm.out k c hc
      rw [← hbw.cell (p := ⟨b, k, none⟩) hb] at c1
      obtain ⟨t1, t0, t2⟩ := Ht.out k c hc Hall.out
      obtain ⟨ce, cf, caps, ch⟩ := c
      simp only at c1 t1
      cases ch with
      | false =>
        have E := firstE_stop hc Hall.out rfl
        have e0 : (ce == 0) = false := t0 rfl
        have e1 : (ce != 0) = true := by simpa using e0
        have T2 : Hid (∀ W, Below w.heap.size w W → Calls Tryz.prog cf caps W fun e W' => e = .returned (.int .i64 ce) ∧ Below W.heap.size W W') := t2
        clear hc t0 t2
        go_wp2_with fail
        refine (T2.out _ hbw).mono ?_
        rintro e w1 ⟨rfl, hb1⟩
        go_wp2_with fail
        go_ret
        exact ⟨congrArg (fun x => Ending.returned (Value.int .i64 x)) E.symm, bnext hbw hb1⟩
      | true =>
        have E := hide (holds_step hc Hall.out rfl)
        have T2 : Hid (∀ W, Below w.heap.size w W → Calls Tryz.prog cf caps W fun e W' => e = .returned (.int .i64 0) ∧ Below W.heap.size W W') := t2
        clear hc t0 t2
        go_wp2_with fail
        refine (T2.out _ hbw).mono ?_
        rintro e w1 ⟨rfl, hb1⟩
        go_wp2_with fail
        go_roundw
        case rel => exact ⟨k + 1, by omega, by go_num, E.out, bnext hbw hb1⟩
        case measure => simp [intOf]; omega
    · have E := firstE_all (cs := cs) (by
        have := Hall.out
        rwa [List.take_of_length_le (by omega)] at this)
      go_wp2
      go_ret
      exact ⟨congrArg (fun x => Ending.returned (Value.int .i64 x)) E.symm, hbw⟩

theorem firstError_is (E : Int) (cs : List Cnd) (b cap : Nat) (w : World) (hE : firstE cs = E) (hl : cs.length ≤ 1000) (hb : b < w.heap.size) (hm : CndsAt w b cs)
    (ht : ∀ i c, cs[i]? = some c → (∀ d ∈ cs.take i, d.holds = true) → CndTells w c) :
    Calls Tryz.prog 50 #[.slice (some ⟨b, 0, none⟩) cs.length cap] w fun e w' => e = .returned (.int .i64 E) ∧ Below w.heap.size w w' := by
  subst hE
  exact firstError_any cs b cap w hl hb hm ht

theorem tells_one {w : World} {c : Cnd} (h : CndTells w c) : ∀ i d, ([c] : List Cnd)[i]? = some d → (∀ x ∈ ([c] : List Cnd).take i, x.holds = true) → CndTells w d := by
  intro i d hd _
  match i, hd with
  | 0, hd => simp at hd; subst hd; exact h
  | i + 1, hd => simp at hd
theorem tells_two {w : World} {c1 c2 : Cnd} (h1 : CndTells w c1) (h2 : c1.holds = true → CndTells w c2) : ∀ i d, ([c1, c2] : List Cnd)[i]? = some d → (∀ x ∈ ([c1, c2] : List Cnd).take i, x.holds = true) → CndTells w d := by
  intro i d hd hx
  match i, hd with
  | 0, hd => simp at hd; subst hd; exact h1
  | 1, hd => simp at hd; subst hd; exact h2 (hx c1 (by simp))
  | i + 2, hd => simp at hd
theorem tells_three {w : World} {c1 c2 c3 : Cnd} (h1 : CndTells w c1) (h2 : c1.holds = true → CndTells w c2) (h3 : c1.holds = true → c2.holds = true → CndTells w c3) : ∀ i d, ([c1, c2, c3] : List Cnd)[i]? = some d → (∀ x ∈ ([c1, c2, c3] : List Cnd).take i, x.holds = true) → CndTells w d := by
  intro i d hd hx
  match i, hd with
  | 0, hd => simp at hd; subst hd; exact h1
  | 1, hd => simp at hd; subst hd; exact h2 (hx c1 (by simp))
  | 2, hd => simp at hd; subst hd; exact h3 (hx c1 (by simp)) (hx c2 (by simp))
  | i + 3, hd => simp at hd
theorem tells_four {w : World} {c1 c2 c3 c4 : Cnd} (h1 : CndTells w c1) (h2 : c1.holds = true → CndTells w c2) (h3 : c1.holds = true → c2.holds = true → CndTells w c3) (h4 : c1.holds = true → c2.holds = true → c3.holds = true → CndTells w c4) : ∀ i d, ([c1, c2, c3, c4] : List Cnd)[i]? = some d → (∀ x ∈ ([c1, c2, c3, c4] : List Cnd).take i, x.holds = true) → CndTells w d := by
  intro i d hd hx
  match i, hd with
  | 0, hd => simp at hd; subst hd; exact h1
  | 1, hd => simp at hd; subst hd; exact h2 (hx c1 (by simp))
  | 2, hd => simp at hd; subst hd; exact h3 (hx c1 (by simp)) (hx c2 (by simp))
  | 3, hd => simp at hd; subst hd; exact h4 (hx c1 (by simp)) (hx c2 (by simp)) (hx c3 (by simp))
  | i + 4, hd => simp at hd

theorem cnds_one_at {w : World} {n : Nat} {c : Cnd} {T : TypeId} (hn : w.heap.size = n) : CndsAt (w.alloc (.cells #[.func (.func c.f) #[] c.caps] T)) n [c] := by
  subst hn
  intro i x hx
  match i, hx with
  | 0, hx => simp at hx; subst hx; simp [go_sem]
  | i + 1, hx => simp at hx
theorem cnds_two_at {w : World} {n : Nat} {c d : Cnd} {T : TypeId} (hn : w.heap.size = n) : CndsAt (w.alloc (.cells #[.func (.func c.f) #[] c.caps, .func (.func d.f) #[] d.caps] T)) n [c, d] := by
  subst hn
  intro i x hx
  match i, hx with
  | 0, hx => simp at hx; subst hx; simp [go_sem]
  | 1, hx => simp at hx; subst hx; simp [go_sem]
  | i + 2, hx => simp at hx
theorem cnds_three_at {w : World} {n : Nat} {c d f : Cnd} {T : TypeId} (hn : w.heap.size = n) : CndsAt (w.alloc (.cells #[.func (.func c.f) #[] c.caps, .func (.func d.f) #[] d.caps, .func (.func f.f) #[] f.caps] T)) n [c, d, f] := by
  subst hn
  intro i x hx
  match i, hx with
  | 0, hx => simp at hx; subst hx; simp [go_sem]
  | 1, hx => simp at hx; subst hx; simp [go_sem]
  | 2, hx => simp at hx; subst hx; simp [go_sem]
  | i + 3, hx => simp at hx
theorem cnds_four_at {w : World} {n : Nat} {c d f g : Cnd} {T : TypeId} (hn : w.heap.size = n) : CndsAt (w.alloc (.cells #[.func (.func c.f) #[] c.caps, .func (.func d.f) #[] d.caps, .func (.func f.f) #[] f.caps, .func (.func g.f) #[] g.caps] T)) n [c, d, f, g] := by
  subst hn
  intro i x hx
  match i, hx with
  | 0, hx => simp at hx; subst hx; simp [go_sem]
  | 1, hx => simp at hx; subst hx; simp [go_sem]
  | 2, hx => simp at hx; subst hx; simp [go_sem]
  | 3, hx => simp at hx; subst hx; simp [go_sem]
  | i + 4, hx => simp at hx

/-! ### Unless -/
theorem unless1_any (E : Int) (f : Nat) (caps : Array Value) (k : Bool) (p q : Addr) (w : World) (h : Tells w f caps k) (hp : w.cell? p = some (.int .i64 E)) (hq : w.cell? q = some (.func (.func f) #[] caps)) :
    Calls Tryz.prog 109 #[.pointer (some q), .pointer (some p)] w fun e w' => e = .returned (.int .i64 (if k then 0 else E)) ∧ Below w.heap.size w w' := by
  obtain ⟨t1, t2⟩ := h
  have T2 := hide t2
  clear t2
  cases k with
  | false =>
    go_enter Tryz.func109, Tryz.ntmps109
    go_wp2_with fail
    refine (T2.out _ (Below.refl _ _)).mono ?_
    rintro e w1 ⟨rfl, hb1⟩
    have c1 := later hb1 hp
    go_wp2_with fail
    go_ret
    exact ⟨rfl, (by repeat (first | exact Below.refl _ _ | assumption | apply balloc | apply bdrew | (refine below_drewN ?_ _) | (refine bset ?_ (by first | (simp; done) | omega | (simp; omega)) _) | (refine bnext ?_ (by assumption))))⟩
  | true =>
    go_enter Tryz.func109, Tryz.ntmps109
    go_wp2_with fail
    refine (T2.out _ (Below.refl _ _)).mono ?_
    rintro e w1 ⟨rfl, hb1⟩
    go_wp2_with fail
    go_ret
    exact ⟨rfl, (by repeat (first | exact Below.refl _ _ | assumption | apply balloc | apply bdrew | (refine below_drewN ?_ _) | (refine bset ?_ (by first | (simp; done) | omega | (simp; omega)) _) | (refine bnext ?_ (by assumption))))⟩
theorem tells_later {w W : World} {f : Nat} {caps : Array Value} {k : Bool} (h : Tells w f caps k) (hb : Below w.heap.size w W) : Tells W f caps k := ⟨h.1, fun V hV => h.2 V (below_trans hb hV)⟩
theorem unless_any (E : Int) (f : Nat) (caps : Array Value) (w : World) :
    Calls Tryz.prog 52 #[.int .i64 E, .func (.func f) #[] caps] w fun e w' => e = .returned (.func (.func 109) #[] #[.pointer (some ⟨w.heap.size + 1, 0, none⟩), .pointer (some ⟨w.heap.size, 0, none⟩)]) ∧ (w.alloc (.cells #[.int .i64 E] 27)).alloc (.cells #[.func (.func f) #[] caps] 34) = w' := by
  go_enter Tryz.func52, Tryz.ntmps52
  go_wp2
  exact bodyPost_ret (v := .func (.func 109) #[] #[.pointer (some ⟨w.heap.size + 1, 0, none⟩), .pointer (some ⟨w.heap.size, 0, none⟩)]) (by simp [results, Tryz.results52, go_sem]) rfl ⟨rfl, rfl⟩
theorem unless_tells (E : Int) (f : Nat) (caps : Array Value) (k : Bool) (p q : Addr) (w : World) (hE : (E == 0) = false) (h : Tells w f caps k) (hp : w.cell? p = some (.int .i64 E)) (hq : w.cell? q = some (.func (.func f) #[] caps)) :
    CndTells w ⟨E, 109, #[.pointer (some q), .pointer (some p)], k⟩ :=
  ⟨enters_of Tryz.func109 (by kernel_rfl) rfl _, fun _ => hE, fun W hW => unless1_any E f caps k p q W (tells_later h hW) (later hW hp) (later hW hq)⟩
/-- Unless: the condition that it returns tells the error E, or none. -/
theorem unless_ex (E : Int) (f : Nat) (caps : Array Value) (k : Bool) (w : World) (hE : (E == 0) = false) (h : Tells w f caps k) :
    Calls Tryz.prog 52 #[.int .i64 E, .func (.func f) #[] caps] w fun e w' => e = .returned (.func (.func 109) #[] #[.pointer (some ⟨w.heap.size + 1, 0, none⟩), .pointer (some ⟨w.heap.size, 0, none⟩)]) ∧ CndTells w' ⟨E, 109, #[.pointer (some ⟨w.heap.size + 1, 0, none⟩), .pointer (some ⟨w.heap.size, 0, none⟩)], k⟩ ∧ Below w.heap.size w w' :=
  (unless_any E f caps w).mono (by
    rintro e w' ⟨rfl, rfl⟩
    exact ⟨rfl, unless_tells E f caps k _ _ _ hE (tells_later h (by repeat (first | exact Below.refl _ _ | assumption | apply balloc | apply bdrew | (refine below_drewN ?_ _) | (refine bset ?_ (by first | (simp; done) | omega | (simp; omega)) _) | (refine bnext ?_ (by assumption))))) (by simp [go_sem, World.cell?_alloc_past]) (by simp [go_sem, World.cell?_alloc_past]), (by repeat (first | exact Below.refl _ _ | assumption | apply balloc | apply bdrew | (refine below_drewN ?_ _) | (refine bset ?_ (by first | (simp; done) | omega | (simp; omega)) _) | (refine bnext ?_ (by assumption))))⟩)
end Go.Proofs.YtlpdbjkpgfpjjaaGreat
