/-
  The statements' own helpers: ownInts, ownRanges, ownKnots.
-/
import Derived.Test.YtckapcfofkeicaaBalance
import Derived.Laws.OwnMore
import Derived.Laws.AppendOwnNone
namespace Go.Proofs.Ytckapcfofkeicaa
set_option linter.unusedSimpArgs false
set_option linter.unusedVariables false
open Go.RowKit

theorem ints_of_own {w : World} {base n : Nat} {T : TypeId} {v : Value} {zs : List Int} (h : w.ownsRow base T 1 v n (zs.map (Value.int .i64))) (hn : n = zs.length) : ∃ b c, v = .slice b n c ∧ IsInts w b zs := by
  subst hn
  rcases h.2 with ⟨e, e'⟩ | ⟨g, cap, cur, rfl, _⟩
  · exact ⟨none, 0, by rw [e, e'], .inl (List.eq_nil_of_length_eq_zero e')⟩
  · refine ⟨_, _, rfl, .inr ⟨g, 0, rfl, fun i hi => ?_⟩⟩
    rw [Nat.zero_add, h.cellAt i (by omega), List.getElem?_map, List.getElem?_eq_getElem hi]
    simp [List.getD_eq_getElem?_getD, List.getElem?_eq_getElem hi]

/-- A list of integers of its own, told. -/
def IntsPost (w : World) (zs : List Int) (e : Ending) (w' : World) : Prop := ∃ b c, e = .returned (.slice b zs.length c) ∧ (b = none → c = 0 ∧ zs = []) ∧ IsInts w' b zs ∧ Below w.heap.size w w'
set_option maxHeartbeats 1600000 in
theorem ownInts_any (a : Option Addr) (cap : Nat) (zs : List Int) (w : World) (hl : zs.length ≤ 1000) (ha : a = none → cap = 0 ∧ zs = []) (h : IsInts w a zs) :
    Calls Try.prog 26 #[.slice a zs.length cap] w fun e w' => IntsPost w zs e w' := by
  obtain ⟨ti, hi, hz0, hz1, hz2⟩ := info_parts int_info
  have HI := hide hi
  have HZ0 := hide hz0
  have HZ1 := hide hz1
  have HZ2 := hide hz2
  clear hi hz0 hz1 hz2
  have OWN := hide (World.ownsRow_lit (base := w.heap.size) (e := 3) (size := 1) w #[] 0 (Nat.le_refl _) (by unfold maxLen; omega) rfl)
  cases a with
  | none =>
    obtain ⟨rfl, rfl⟩ := ha rfl
    go_enter Try.func26, Try.ntmps26
    go_wp2_with (at_builtin; refine wpList_append_own_none rfl (.tmp 3) (.tmp 4) 37 rfl w.heap.size 3 ti 1 Try.underlying37 HI.out _ 0 [] rfl OWN.out rfl ?_)
    refine bodyPost_ret (v := .slice (some ⟨w.heap.size, 0, none⟩) 0 0) (by simp [results, Try.results26, go_sem]) rfl ⟨_, _, rfl, (fun h => by cases h), .inl rfl, (by repeat (first | exact Below.refl _ _ | assumption | apply balloc | apply bdrew | (refine bset ?_ (by first | (simp; done) | omega | (simp; omega)) _) | (refine bnext ?_ (by assumption))))⟩
  | some ad =>
    have hc : ∀ (j : Nat) (u : Value), (zs.map (Value.int .i64))[j]? = some u → w.cell? (ad.add j) = some u := by
      intro j u hu
      rcases h with h | ⟨b, off, e, h⟩
      · subst h; simp at hu
      · cases e
        by_cases hj : j < zs.length
        · have := h j hj
          simp [List.getElem?_map, List.getElem?_eq_getElem hj] at hu
          subst hu
          rw [List.getD_eq_getElem?_getD, List.getElem?_eq_getElem hj, Option.getD_some] at this
          by_cases hz : j = 0
          · subst hz; simpa [Addr.add] using this
          · simpa [Addr.add, hz] using this
        · rw [List.getElem?_eq_none (by simp; omega)] at hu; cases hu
    have HC := hide hc
    have HL := hide hl
    clear hc h ha hl
    go_enter Try.func26, Try.ntmps26
    go_wp2_with (at_builtin; refine wpList_append_own _ rfl (.tmp 3) (.tmp 4) 37 rfl w.heap.size 3 ti (.int .i64 0) 1 8 Try.underlying37 HI.out HZ0.out HZ1.out HZ2.out rfl (by decide) _ 0 [] rfl OWN.out ad zs.length cap (zs.map (Value.int .i64)) rfl (by simp) ?_ ?_ ?_ ?_ ?_ ?_)
    · intro j u hu; exact later (balloc (Below.refl _ _)) (HC.out j (.int .i64 u) (by rw [List.getElem?_map, hu]; rfl))
    · intro u _; rfl
    · have := HL.out; unfold maxLen; omega
    · have := HL.out; omega
    · intro v' w1 hown1 hgrow _
      obtain ⟨b, c, rfl, hp⟩ := ints_of_own hown1 rfl
      have hb : b = none → c = 0 ∧ zs = [] := by
        rintro rfl
        rcases hown1.2 with ⟨e, e'⟩ | ⟨g, cap, cur, e, _⟩
        · have hz := List.eq_nil_of_length_eq_zero e'; subst hz; cases e; exact ⟨rfl, rfl⟩
        · cases e
      have HP := hide hp
      have HG := hide hgrow
      have HB := hide hb
      clear hown1 hgrow hp hb
      go_wp2_with fail
      refine bodyPost_ret (v := .slice b zs.length c) (by simp [results, Try.results26, go_sem]) rfl ⟨_, _, rfl, HB.out, HP.out, ?_⟩
      exact app_below (v := .slice (some ⟨w.heap.size, 0, none⟩) 0 0) (Below.refl _ _) (Nat.le_refl _) (fun k hk => by simp [Value.ownBlock] at hk; omega) HG.out

theorem pairs_of_own {w : World} {base : Nat} {T : TypeId} {v : Value} {zs : List (Int × Int)} (h : w.ownsRow base T 2 v zs.length (rowOf zs)) : ∃ b c, v = .slice b zs.length c ∧ (b = none → c = 0 ∧ zs = []) ∧ IsPairs w b zs := by
  obtain ⟨b, c, rfl, hp⟩ := pairs_of_owned h rfl
  refine ⟨b, c, rfl, ?_, hp⟩
  rintro rfl
  rcases h.2 with ⟨e, e'⟩ | ⟨g, cap, cur, e, _⟩
  · have hz := List.eq_nil_of_length_eq_zero e'; subst hz; cases e; exact ⟨rfl, rfl⟩
  · cases e
theorem rowOf_cell {w : World} {a : Option Addr} {zs : List (Int × Int)} {ad : Addr} (ha : a = some ad) (h : IsPairs w a zs) : ∀ (j : Nat) (u : Value), (rowOf zs)[j]? = some u → w.cell? (ad.add j) = some u := by
  intro j u hu
  rcases h with h | ⟨b, off, e, h⟩
  · subst h; simp [rowOf] at hu
  · rw [ha] at e; cases e
    have hj : j < (rowOf zs).length := (List.getElem?_eq_some_iff.1 hu).1
    rw [rowOf_length] at hj
    have r := rowOf_at zs (j / 2) (by omega)
    have c := h (j / 2) (by omega)
    have hadd : (⟨b, off, none⟩ : Addr).add j = ⟨b, off + j, none⟩ := by
      by_cases hz : j = 0
      · subst hz; simp [Addr.add]
      · simp [Addr.add, hz]
    rw [hadd]
    by_cases h0 : j % 2 = 0
    · rw [show j / 2 * 2 = j by omega] at r c
      rw [r.1] at hu
      cases hu
      exact c.1
    · have e1 : j / 2 * 2 + 1 = j := by omega
      rw [e1] at r
      rw [r.2] at hu
      cases hu
      have := c.2
      rwa [Nat.add_assoc, e1] at this
/-- A list of ranges (or knots) of its own, told. -/
def PairsPost (w : World) (zs : List (Int × Int)) (e : Ending) (w' : World) : Prop := ∃ b c, e = .returned (.slice b zs.length c) ∧ (b = none → c = 0 ∧ zs = []) ∧ IsPairs w' b zs ∧ Below w.heap.size w w'
theorem rowOf_ones {zs : List (Int × Int)} : ∀ u ∈ rowOf zs, u.oneCell' = true := by
  intro u hu
  simp [rowOf] at hu
  obtain ⟨a, b, _, rfl | rfl⟩ := hu <;> rfl
set_option maxHeartbeats 1600000 in
theorem ownRanges_any (a : Option Addr) (cap : Nat) (zs : List (Int × Int)) (w : World) (hl : zs.length ≤ 1000) (ha : a = none → cap = 0 ∧ zs = []) (h : IsPairs w a zs) :
    Calls Try.prog 30 #[.slice a zs.length cap] w fun e w' => PairsPost w zs e w' := by
  obtain ⟨ti, hi, hz0, hz1, hz2⟩ := info_parts range_info
  have HI := hide hi
  have HZ0 := hide hz0
  have HZ1 := hide hz1
  have HZ2 := hide hz2
  clear hi hz0 hz1 hz2
  have OWN := hide (World.ownsRow_lit (base := w.heap.size) (e := 46) (size := 2) w #[] 0 (Nat.le_refl _) (by unfold maxLen; omega) rfl)
  cases a with
  | none =>
    obtain ⟨rfl, rfl⟩ := ha rfl
    go_enter Try.func30, Try.ntmps30
    go_wp2_with (at_builtin; refine wpList_append_own_none rfl (.tmp 3) (.tmp 4) 43 rfl w.heap.size 46 ti 2 Try.underlying43 HI.out _ 0 [] rfl OWN.out rfl ?_)
    refine bodyPost_ret (v := .slice (some ⟨w.heap.size, 0, none⟩) 0 0) (by simp [results, Try.results30, go_sem]) rfl ⟨_, _, rfl, (fun h => by cases h), .inl rfl, (by repeat (first | exact Below.refl _ _ | assumption | apply balloc | apply bdrew | (refine bset ?_ (by first | (simp; done) | omega | (simp; omega)) _) | (refine bnext ?_ (by assumption))))⟩
  | some ad =>
    have HC := hide (rowOf_cell rfl h)
    have HL := hide hl
    obtain ⟨row, hrow⟩ : ∃ row, rowOf zs = row := ⟨_, rfl⟩
    have HR := hide hrow
    have H1 := hide (rowOf_ones (zs := zs))
    have HN := hide (rowOf_length zs)
    rw [hrow] at HC H1 HN
    clear h ha hl hrow
    go_enter Try.func30, Try.ntmps30
    go_wp2_with (at_builtin; refine wpList_append_own _ rfl (.tmp 3) (.tmp 4) 43 rfl w.heap.size 46 ti (.agg #[.int .i64 0, .int .i64 0]) 2 16 Try.underlying43 HI.out HZ0.out HZ1.out HZ2.out rfl (by decide) _ 0 [] rfl OWN.out ad zs.length cap row rfl HN.out ?_ H1.out ?_ ?_ ?_ ?_)
    · intro j u hu; exact later (balloc (Below.refl _ _)) (HC.out j u hu)
    · have := HL.out; unfold maxLen; omega
    · have := HL.out; omega
    · intro v' w1 hown1 hgrow _
      rw [← HR.out] at hown1
      obtain ⟨b, c, rfl, hb, hp⟩ := pairs_of_own hown1
      have HP := hide hp
      have HG := hide hgrow
      have HB := hide hb
      clear hown1 hgrow hp hb
      go_wp2_with fail
      refine bodyPost_ret (v := .slice b zs.length c) (by simp [results, Try.results30, go_sem]) rfl ⟨_, _, rfl, HB.out, HP.out, ?_⟩
      exact app_below (v := .slice (some ⟨w.heap.size, 0, none⟩) 0 0) (Below.refl _ _) (Nat.le_refl _) (fun k hk => by simp [Value.ownBlock] at hk; omega) HG.out
end Go.Proofs.Ytckapcfofkeicaa
