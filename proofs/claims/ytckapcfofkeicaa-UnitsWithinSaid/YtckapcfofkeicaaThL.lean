/-
  UnitsThroughs: the walk.
-/
import Derived.Test.YtckapcfofkeicaaThR
import Derived.Deep.AppendLies
namespace Go.Proofs.Ytckapcfofkeicaa
set_option linter.unusedSimpArgs false
set_option linter.unusedVariables false
open Go.RowKit

def OwnKn (w : World) (zs : List (Int × Int)) (e : Ending) (w' : World) : Prop := ∃ v, e = .returned v ∧ w'.ownsRow w.heap.size 64 2 v zs.length (rowOf zs) ∧ Below w.heap.size w w'
set_option maxHeartbeats 1600000 in
theorem ownKnots_owns (a : Option Addr) (cap : Nat) (zs : List (Int × Int)) (w : World) (hl : zs.length ≤ 1000) (ha : a = none → cap = 0 ∧ zs = []) (h : IsPairs w a zs) :
    Calls Try.prog 48 #[.slice a zs.length cap] w fun e w' => OwnKn w zs e w' := by
  obtain ⟨ti, hi, hz0, hz1, hz2⟩ := info_parts knot_info
  have HI := hide hi
  have HZ0 := hide hz0
  have HZ1 := hide hz1
  have HZ2 := hide hz2
  clear hi hz0 hz1 hz2
  have OWN := hide (World.ownsRow_lit (base := w.heap.size) (e := 64) (size := 2) w #[] 0 (Nat.le_refl _) (by unfold maxLen; omega) rfl)
  cases a with
  | none =>
    obtain ⟨rfl, rfl⟩ := ha rfl
    go_enter Try.func48, Try.ntmps48
    go_wp2_with (at_builtin; refine wpList_append_own_none rfl (.tmp 3) (.tmp 4) 59 rfl w.heap.size 64 ti 2 Try.underlying59 HI.out _ 0 [] rfl OWN.out rfl ?_)
    refine bodyPost_ret (v := .slice (some ⟨w.heap.size, 0, none⟩) 0 0) (by simp [results, Try.results48, go_sem]) rfl ⟨_, rfl, OWN.out, (by repeat (first | exact Below.refl _ _ | assumption | apply balloc | apply bdrew | (refine bset ?_ (by first | (simp; done) | omega | (simp; omega)) _) | (refine bnext ?_ (by assumption))))⟩
  | some ad =>
    have HC := hide (rowOf_cell rfl h)
    have HL := hide hl
    obtain ⟨row, hrow⟩ : ∃ row, rowOf zs = row := ⟨_, rfl⟩
    have HR := hide hrow
    have H1 := hide (rowOf_ones (zs := zs))
    have HN := hide (rowOf_length zs)
    rw [hrow] at HC H1 HN
    clear h ha hl hrow
    go_enter Try.func48, Try.ntmps48
    go_wp2_with (at_builtin; refine wpList_append_own _ rfl (.tmp 3) (.tmp 4) 59 rfl w.heap.size 64 ti (.agg #[.int .i64 0, .int .i64 0]) 2 16 Try.underlying59 HI.out HZ0.out HZ1.out HZ2.out rfl (by decide) _ 0 [] rfl OWN.out ad zs.length cap row rfl HN.out ?_ H1.out ?_ ?_ ?_ ?_)
    · intro j u hu; exact later (balloc (Below.refl _ _)) (HC.out j u hu)
    · have := HL.out; unfold maxLen; omega
    · have := HL.out; omega
    · intro v' w1 hown1 hgrow _
      rw [← HR.out] at hown1
      have HP := hide hown1
      have HG := hide hgrow
      clear hown1 hgrow
      go_wp2_with fail
      refine bodyPost_ret (v := v') (by simp [results, Try.results48, go_sem]) rfl ⟨_, rfl, HP.out, ?_⟩
      exact app_below (v := .slice (some ⟨w.heap.size, 0, none⟩) 0 0) (Below.refl _ _) (Nat.le_refl _) (fun k hk => by simp [Value.ownBlock] at hk; omega) HG.out


theorem knots_info : (Try.prog.info? 59).map (fun i => (i.zero, i.size, i.bytes)) = some (some (.slice none 0 0), 1, 24) := by kernel_rfl
/-- A table, as a slice's value. -/
def tbV (t : Tb) : Value := .slice t.a t.ks.length t.cap
/-- A table of the call's own, not in the block that may be written. -/
def Copied (w : World) (row : Option Nat) (t : Tb) : Prop :=
  t.ks.length ≤ 70 ∧ (t.ks = [] ∨ ∃ b off, t.a = some ⟨b, off, none⟩ ∧ some b ≠ row ∧ ∀ i, i < t.ks.length → w.cell? ⟨b, off + i * 2, none⟩ = some (.int .i64 (t.ks.getD i (0, 0)).1) ∧ w.cell? ⟨b, off + i * 2 + 1, none⟩ = some (.int .i64 (t.ks.getD i (0, 0)).2))
theorem copied_pairs {w : World} {row : Option Nat} {t : Tb} (h : Copied w row t) : IsPairs w t.a t.ks := by
  rcases h.2 with h | ⟨b, off, e, _, h⟩
  · exact .inl h
  · exact .inr ⟨b, off, e, h⟩
/-- Through a call, a new object and an append. -/
theorem copied_next {w w1 w3 : World} {o : Obj} {v : Value} {g : Nat} {t : Tb} (h : Copied w v.ownBlock t) (hb : Below w.heap.size w w1) (hg : (w1.alloc o).grownBy w3 v.ownBlock) (hx : v.ownBlock = some g ∨ g = (w1.alloc o).heap.size) : Copied w3 (some g) t := by
  refine ⟨h.1, ?_⟩
  rcases h.2 with h | ⟨b, off, e, hne, h⟩
  · exact .inl h
  · by_cases hz : t.ks = []
    · exact .inl hz
    · have hl : 0 < t.ks.length := List.length_pos_iff.2 hz
      have lt0 : b < w.heap.size := World.block_lt_of_cell? _ _ (h 0 hl).1
      have lt1 : b < (w1.alloc o).heap.size := by have := hb.size; simp; omega
      refine .inr ⟨b, off, e, ?_, fun i hi => ⟨?_, ?_⟩⟩
      · rcases hx with hx | hx
        · rw [← hx]; exact hne
        · intro e2; simp only [Option.some.injEq] at e2; omega
      · rw [hg.cell_far ⟨b, off + i * 2, none⟩ lt1 hne]; exact later (balloc (Below.refl _ _)) (later hb (h i hi).1)
      · rw [hg.cell_far ⟨b, off + i * 2 + 1, none⟩ lt1 hne]; exact later (balloc (Below.refl _ _)) (later hb (h i hi).2)
theorem copied_new {w w1 w3 : World} {o : Obj} {v c : Value} {g : Nat} {ks : List (Int × Int)} (hl : ks.length ≤ 70) (hown : w1.ownsRow w.heap.size 64 2 c ks.length (rowOf ks)) (hv : ∀ k, v.ownBlock = some k → k < w.heap.size) (hb : Below w.heap.size w w1) (hg : (w1.alloc o).grownBy w3 v.ownBlock) (hx : v.ownBlock = some g ∨ g = (w1.alloc o).heap.size) :
    ∃ u : Tb, c = tbV u ∧ u.ks = ks ∧ Copied w3 (some g) u := by
  obtain ⟨b1, c1, rfl, _, hp⟩ := pairs_of_own hown
  refine ⟨⟨b1, c1, ks⟩, rfl, rfl, hl, ?_⟩
  rcases hp with h | ⟨b, off, rfl, h⟩
  · exact .inl h
  · by_cases hz : ks = []
    · exact .inl hz
    · have hl0 : 0 < ks.length := List.length_pos_iff.2 hz
      have lt1 : b < w1.heap.size := World.block_lt_of_cell? _ _ (h 0 hl0).1
      have lo : w.heap.size ≤ b := (hown.lt b rfl).1
      have lt2 : b < (w1.alloc o).heap.size := by simp; omega
      have hne : some b ≠ v.ownBlock := fun e => by have := hv b e.symm; omega
      refine .inr ⟨b, off, rfl, ?_, fun i hi => ⟨?_, ?_⟩⟩
      · rcases hx with hx | hx
        · rw [← hx]; exact hne
        · intro e2; simp only [Option.some.injEq] at e2; omega
      · rw [hg.cell_far ⟨b, off + i * 2, none⟩ lt2 hne]; exact later (balloc (Below.refl _ _)) (h i hi).1
      · rw [hg.cell_far ⟨b, off + i * 2 + 1, none⟩ lt2 hne]; exact later (balloc (Below.refl _ _)) (h i hi).2
/-- The first tables are copied. -/
def CopyAt (B : Nat) (ts : List Tb) (k : Nat) (v : Value) (wr : World) : Prop :=
  ∃ us : List Tb, us.length = k ∧ us.map Tb.ks = (ts.take k).map Tb.ks ∧ (∃ g c, v = .slice (some ⟨g, 0, none⟩) k c) ∧ wr.ownsRow B 59 1 v k (us.map tbV) ∧ ∀ u ∈ us, Copied wr v.ownBlock u
theorem thrQ_congr {us ts : List Tb} (h : us.map Tb.ks = ts.map Tb.ks) (lo hi : Int) : thrQ us lo hi = thrQ ts lo hi := by
  have hl : us.length = ts.length := by have := congrArg List.length h; simpa using this
  have ha : ∀ l : List Tb, l.all Tb.ok = (l.map Tb.ks).all tabOk := fun l => by rw [List.all_map]; rfl
  unfold thrQ
  rw [hl, ha us, ha ts, h]
theorem tabs_of_copy {B : Nat} {ts : List Tb} {k : Nat} {v : Value} {wr : World} (h : CopyAt B ts k v wr) : ∃ us g c, v = .slice (some ⟨g, 0, none⟩) us.length c ∧ us.length = k ∧ us.map Tb.ks = (ts.take k).map Tb.ks ∧ IsTabs wr (some ⟨g, 0, none⟩) us := by
  obtain ⟨us, hl, hm, ⟨g, c, rfl⟩, ho, hc⟩ := h
  subst hl
  refine ⟨us, g, c, rfl, rfl, hm, .inr ⟨g, 0, rfl, fun i hi => ?_⟩⟩
  have e : us.getD i default = us[i] := by simp [List.getD_eq_getElem?_getD, hi]
  have hu := hc us[i] (List.getElem_mem hi)
  rw [e]
  refine ⟨?_, copied_pairs hu, by have := hu.1; omega⟩
  rw [Nat.zero_add, ho.cellAt i (by omega), List.getElem?_map, List.getElem?_eq_getElem hi]
  rfl
end Go.Proofs.Ytckapcfofkeicaa
