/-
  units: validTables.
-/
import Derived.Test.YtadnchcelocnaaaTab
namespace Go.Proofs.Ytadnchcelocnaaa
set_option linter.unusedSimpArgs false
set_option linter.unusedVariables false
open Go.RowKit

/-- A table of a list of tables. -/
structure Tb where
  a : Option Addr
  cap : Nat
  ks : List (Int × Int)
def Tb.ok (t : Tb) : Bool := tabOk t.ks
instance : Inhabited Tb := ⟨⟨none, 0, []⟩⟩
def IsTabs (w : World) (a : Option Addr) (ts : List Tb) : Prop :=
  ts = [] ∨ ∃ b off, a = some ⟨b, off, none⟩ ∧ ∀ i, i < ts.length → w.cell? ⟨b, off + i, none⟩ = some (.slice (ts.getD i default).a (ts.getD i default).ks.length (ts.getD i default).cap) ∧ IsPairs w (ts.getD i default).a (ts.getD i default).ks ∧ (ts.getD i default).ks.length ≤ 8796093022208
theorem tabs_later {w W : World} {a : Option Addr} {ts : List Tb} (h : IsTabs w a ts) (hb : Below w.heap.size w W) : IsTabs W a ts := by
  rcases h with h | ⟨b, off, e, h⟩
  · exact .inl h
  · exact .inr ⟨b, off, e, fun i hi => ⟨later hb (h i hi).1, pairs_later (h i hi).2.1 hb, (h i hi).2.2⟩⟩
theorem tabs_one_of {W : World} {n : Nat} {t : Tb} (h0 : W.cell? ⟨n, 0, none⟩ = some (.slice t.a t.ks.length t.cap)) (h1 : IsPairs W t.a t.ks) (h2 : t.ks.length ≤ 8796093022208) : IsTabs W (some ⟨n, 0, none⟩) [t] := by
  refine .inr ⟨_, _, rfl, fun i hi => ?_⟩
  obtain rfl : i = 0 := by simpa using hi
  exact ⟨h0, h1, h2⟩

set_option maxHeartbeats 1000000 in
theorem validTables1_any (a : Option Addr) (cap : Nat) (ts : List Tb) (p : Addr) (w : World) (hl : ts.length ≤ 140737488351232) (hp : w.cell? p = some (.slice a ts.length cap)) (h : IsTabs w a ts) :
    Calls Try.prog 126 #[.pointer (some p)] w fun e w' => e = .returned (.bool (ts.all Tb.ok)) ∧ Below w.heap.size w w' := by
  have hd : Hid (IsTabs w a ts) := h
  clear h
  go_enter Try.func126, Try.ntmps126
  go_wp2
  go_loopw [6] (fun i wr => ∃ k : Nat, k ≤ ts.length ∧ i = .int .i64 (k : Int) ∧ (ts.take k).all Tb.ok = true ∧ Below w.heap.size w wr) (fun i _ => ts.length - (intOf i).toNat)
  case atStart => exact ⟨0, by omega, rfl, rfl, Below.refl _ _⟩
  case round =>
    obtain ⟨k, hk, rfl, hall, hbw⟩ := hrel
    have Hall := hide hall
    clear hall
    by_cases hlt : k < ts.length
    · obtain ⟨b, off, rfl, hc⟩ : ∃ b off, a = some ⟨b, off, none⟩ ∧ ∀ i, i < ts.length → wr.cell? ⟨b, off + i, none⟩ = some (.slice (ts.getD i default).a (ts.getD i default).ks.length (ts.getD i default).cap) ∧ IsPairs wr (ts.getD i default).a (ts.getD i default).ks ∧ (ts.getD i default).ks.length ≤ 8796093022208 := by
        rcases tabs_later hd.out hbw with h | h
        · subst h; simp at hlt
        · exact h
      obtain ⟨c1, c2, c3⟩ := hc k hlt
      clear hc
      have S1 := hide (all_step (f := Tb.ok) (d := default) hlt Hall.out)
      have S2 := hide (all_stop (f := Tb.ok) (l := ts) (d := default) hlt)
      generalize ts.getD k default = z at *
      obtain ⟨za, zc, zk⟩ := z
      simp only at c1 c2 c3
      have C := isTable_any za zc zk wr c3 c2
      have c2' := hide c2
      clear c2
      cases hA : tabOk zk with
      | false =>
        have E := S2.out hA
        rw [hA] at C
        have C' := hide C
        clear hA C
        go_wp2_with (go_at_call 127; refine (C'.out).mono ?_; rintro e w' ⟨rfl, hb⟩)
        go_ret
        exact ⟨ret_bool E.symm, bnext hbw hb⟩
      | true =>
        have E := hide (S1.out hA)
        rw [hA] at C
        have C' := hide C
        clear hA C
        go_wp2_with (go_at_call 127; refine (C'.out).mono ?_; rintro e w' ⟨rfl, hb⟩)
        go_roundw
        case rel => exact ⟨k + 1, by omega, by go_num, E.out, bnext hbw hb⟩
        case measure => simp [intOf]; omega
    · have E := all_end hlt Hall.out
      go_wp2
      go_ret
      exact ⟨ret_bool E.symm, hbw⟩
theorem validTables1_tells (k : Bool) (a : Option Addr) (cap n : Nat) (ts : List Tb) (p : Addr) (w : World) (hk : ts.all Tb.ok = k) (hn : n = ts.length) (hl : ts.length ≤ 140737488351232) (hp : w.cell? p = some (.slice a n cap)) (h : IsTabs w a ts) :
    Tells w 126 #[.pointer (some p)] k := by
  subst hn hk
  exact ⟨enters_any Try.func126 (by kernel_rfl) rfl _, fun W hW => validTables1_any a cap ts p W hl (later hW hp) (tabs_later h hW)⟩
theorem validTables_any (a : Option Addr) (n cap : Nat) (w : World) :
    Calls Try.prog 101 #[.slice a n cap] w fun e w' => e = .returned (.func (.func 114) #[] #[.pointer (some ⟨w.heap.size + 1 + 1, 0, none⟩), .pointer (some ⟨w.heap.size + 1, 0, none⟩)]) ∧
      ((w.alloc (.cells #[.slice a n cap] 69)).alloc (.cells #[.int .i64 2] 24)).alloc (.cells #[.func (.func 126) #[] #[.pointer (some ⟨w.heap.size, 0, none⟩)]] 28) = w' := by
  go_enter Try.func101, Try.ntmps101
  go_wp2_with (go_at_call 68; refine (unless_any _ _ _ _).mono ?_; rintro e w' ⟨rfl, rfl⟩)
  exact bodyPost_ret (v := .func (.func 114) #[] #[.pointer (some ⟨w.heap.size + 1 + 1, 0, none⟩), .pointer (some ⟨w.heap.size + 1, 0, none⟩)]) (by simp [results, Try.results101, go_sem]) rfl ⟨rfl, rfl⟩
theorem validTables_tells (k : Bool) (a : Option Addr) (cap n : Nat) (ts : List Tb) (p r s : Addr) (w : World) (hk : ts.all Tb.ok = k) (hn : n = ts.length) (hl : ts.length ≤ 140737488351232) (hp : w.cell? p = some (.slice a n cap))
    (hr : w.cell? r = some (.func (.func 126) #[] #[.pointer (some p)])) (hs : w.cell? s = some (.int .i64 2)) (h : IsTabs w a ts) :
    CndTells w ⟨2, 114, #[.pointer (some r), .pointer (some s)], k⟩ := unless_tells 2 _ _ k s r w rfl (validTables1_tells k a cap n ts p w hk hn hl hp h) hs hr
theorem validTables_ex (k : Bool) (a : Option Addr) (cap n : Nat) (ts : List Tb) (w : World) (hk : ts.all Tb.ok = k) (hn : n = ts.length) (hl : ts.length ≤ 140737488351232) (h : IsTabs w a ts) :
    Calls Try.prog 101 #[.slice a n cap] w fun e w' => e = .returned (.func (.func 114) #[] #[.pointer (some ⟨w.heap.size + 1 + 1, 0, none⟩), .pointer (some ⟨w.heap.size + 1, 0, none⟩)]) ∧
      CndTells w' ⟨2, 114, #[.pointer (some ⟨w.heap.size + 1 + 1, 0, none⟩), .pointer (some ⟨w.heap.size + 1, 0, none⟩)], k⟩ ∧ Below w.heap.size w w' :=
  (validTables_any a n cap w).mono (by
    rintro e w' ⟨rfl, rfl⟩
    exact ⟨rfl, validTables_tells k a cap n ts ⟨w.heap.size, 0, none⟩ ⟨w.heap.size + 1 + 1, 0, none⟩ ⟨w.heap.size + 1, 0, none⟩ _ hk hn hl (by simp [go_sem, World.cell?_alloc_past]) (by simp [go_sem, World.cell?_alloc_past]) (by simp [go_sem, World.cell?_alloc_past]) (tabs_later h (by repeat (first | exact Below.refl _ _ | assumption | apply balloc | apply bdrew | (refine bset ?_ (by first | (simp; done) | omega | (simp; omega)) _) | (refine bnext ?_ (by assumption))))), (by repeat (first | exact Below.refl _ _ | assumption | apply balloc | apply bdrew | (refine bset ?_ (by first | (simp; done) | omega | (simp; omega)) _) | (refine bnext ?_ (by assumption))))⟩)
/-- Unless, of a closure that tells only if P. -/
theorem unless_exif (E : Int) (f : Nat) (caps : Array Value) (k : Bool) (w : World) (P : Prop) (hE : (E == 0) = false) (h : P → Tells w f caps k) :
    Calls Try.prog 68 #[.int .i64 E, .func (.func f) #[] caps] w fun e w' => e = .returned (.func (.func 114) #[] #[.pointer (some ⟨w.heap.size + 1, 0, none⟩), .pointer (some ⟨w.heap.size, 0, none⟩)]) ∧ (P → CndTells w' ⟨E, 114, #[.pointer (some ⟨w.heap.size + 1, 0, none⟩), .pointer (some ⟨w.heap.size, 0, none⟩)], k⟩) ∧ Below w.heap.size w w' :=
  (unless_any E f caps w).mono (by
    rintro e w' ⟨rfl, rfl⟩
    exact ⟨rfl, fun p => unless_tells E f caps k _ _ _ hE (tells_later (h p) (by repeat (first | exact Below.refl _ _ | assumption | apply balloc | apply bdrew | (refine bset ?_ (by first | (simp; done) | omega | (simp; omega)) _) | (refine bnext ?_ (by assumption))))) (by simp [go_sem, World.cell?_alloc_past]) (by simp [go_sem, World.cell?_alloc_past]), (by repeat (first | exact Below.refl _ _ | assumption | apply balloc | apply bdrew | (refine bset ?_ (by first | (simp; done) | omega | (simp; omega)) _) | (refine bnext ?_ (by assumption))))⟩)
end Go.Proofs.Ytadnchcelocnaaa
