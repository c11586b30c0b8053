/-
  The reference: Balance.
-/
import Derived.Test.YtckapcfofkeicaaRefR
import Derived.Deep.RegionHeld3
import Derived.Deep.AppendLies
namespace Go.Proofs.Ytckapcfofkeicaa
set_option linter.unusedSimpArgs false
set_option linter.unusedVariables false
open Go.RowKit

/-- What Balance returns, told. -/
def BalPost (rs : List (Int × Int)) (wl wh : Int) (w : World) (e : Ending) (w' : World) : Prop :=
  ∃ b c, e = .returned (.tuple #[.slice b (balN rs wl wh).length c, .agg #[.int .i64 (balS rs wl wh).1, .int .i64 (balS rs wl wh).2], .int .i64 (balE rs wl wh)]) ∧ IsPairs w' b (balN rs wl wh) ∧ Below w.heap.size w w'
theorem bal_bad {rs : List (Int × Int)} {wl wh E : Int} {w w' : World} (h : balE rs wl wh = E) (hE : (E == 0) = false) (hb : Below w.heap.size w w') : BalPost rs wl wh w (.returned (.tuple #[.slice none 0 0, .agg #[.int .i64 0, .int .i64 0], .int .i64 E])) w' := by
  have hne : ¬ balE rs wl wh = 0 := by rw [h]; simpa using hE
  have e1 : balN rs wl wh = [] := by unfold balN; rw [if_neg hne]
  have e2 : balS rs wl wh = (0, 0) := by unfold balS; rw [if_neg hne]
  exact ⟨none, 0, by rw [e1, e2, h]; rfl, .inl e1, hb⟩

/-- What all ranges but one are together is least at most what it is greatest. -/
theorem others_le {rs : List (Int × Int)} (h : rs.all rangeOk = true) {k : Nat} (hk : k < rs.length) : sumL rs rs.length - (rs.getD k (0, 0)).1 ≤ sumH rs rs.length - (rs.getD k (0, 0)).2 := by
  have mono : ∀ j i, i + j ≤ rs.length → sumH rs i - sumL rs i ≤ sumH rs (i + j) - sumL rs (i + j) := by
    intro j
    induction j with
    | zero => intro i _; simp
    | succ j ih =>
      intro i hi
      have a := ih i (by omega)
      have r := range_get h (k := i + j) (by omega)
      rw [← Nat.add_assoc, ← sumL_step (by omega), ← sumH_step (by omega)]
      omega
  have m0 := mono k 0 (by omega)
  have m1 := mono (rs.length - (k + 1)) (k + 1) (by omega)
  rw [show k + 1 + (rs.length - (k + 1)) = rs.length by omega, ← sumL_step hk, ← sumH_step hk] at m1
  rw [Nat.zero_add] at m0
  have z1 : sumL rs 0 = 0 := by simp [sumL, isum]
  have z2 : sumH rs 0 = 0 := by simp [sumH, isum]
  omega
theorem balPart_is {rs : List (Int × Int)} (h : rs.all rangeOk = true) {wl wh : Int} {k : Nat} (hk : k < rs.length) :
    balPart rs wl wh k = (max (rs.getD k (0, 0)).1 (wl - (sumH rs rs.length - (rs.getD k (0, 0)).2)), min (rs.getD k (0, 0)).2 (wh - (sumL rs rs.length - (rs.getD k (0, 0)).1))) := by
  have o := others_le h hk
  unfold balPart
  congr 1 <;> omega
/-- The parts that have been narrowed after k rounds. -/
def narrowed (rs : List (Int × Int)) (wl wh : Int) (k : Nat) : List (Int × Int) := (List.range k).map (balPart rs wl wh)
theorem narrowed_succ (rs : List (Int × Int)) (wl wh : Int) (k : Nat) : rowOf (narrowed rs wl wh (k + 1)) = rowOf (narrowed rs wl wh k) ++ [.int .i64 (balPart rs wl wh k).1, .int .i64 (balPart rs wl wh k).2] := by
  unfold narrowed
  rw [List.range_succ, List.map_append]
  exact rowOf_snoc _ _

set_option maxHeartbeats 3200000 in
theorem refBalance_bad (rs : List (Int × Int)) (a : Option Addr) (cap : Nat) (wl wh E : Int) (w : World) (L : Hid (∀ w, IsPairs w a rs → Calls Try.prog 93 #[.slice a rs.length cap] w fun e w' => e = .returned (.int .i64 E) ∧ Below w.heap.size w w')) (hE : (E == 0) = false) (he : Hid (balE rs wl wh = E)) (h : Hid (IsPairs w a rs)) :
    Calls Try.prog 47 #[.slice a rs.length cap, .agg #[.int .i64 wl, .int .i64 wh]] w fun e w' => BalPost rs wl wh w e w' := by
  go_enter Try.func47, Try.ntmps47
  go_wp2_with fail
  refine (L.out _ (pairs_later h.out (by repeat (first | exact Below.refl _ _ | assumption | apply balloc | apply bdrew | (refine bset ?_ (by first | (simp; done) | omega | (simp; omega)) _) | (refine bnext ?_ (by assumption)))))).mono ?_
  rintro e w1 ⟨rfl, hb1⟩
  have c4 := later hb1 (a := ⟨w.heap.size + 1, 0, none⟩) (v := .int .i64 0) (by simp [go_sem, World.cell?_alloc_past])
  have c5 := later hb1 (a := ⟨w.heap.size + 1, 1, none⟩) (v := .int .i64 0) (by simp [go_sem, World.cell?_alloc_past])
  have f4 := free_later hb1 (a := ⟨w.heap.size + 1, 0, none⟩) (v := .int .i64 0) (by simp [go_sem, World.cell?_alloc_past]) (by simp [go_sem, World.cell?_alloc_past])
  have f5 := free_later hb1 (a := ⟨w.heap.size + 1, 1, none⟩) (v := .int .i64 0) (by simp [go_sem, World.cell?_alloc_past]) (by simp [go_sem, World.cell?_alloc_past])
  go_wp2_with fail
  exact bodyPost_ret (v := .tuple #[.slice none 0 0, .agg #[.int .i64 0, .int .i64 0], .int .i64 E]) (by simp [results, Try.results47, go_sem, c4, c5]) rfl (bal_bad he.out hE (by repeat (first | exact Below.refl _ _ | assumption | apply balloc | apply bdrew | (refine bset ?_ (by first | (simp; done) | omega | (simp; omega)) _) | (refine bnext ?_ (by assumption)))))
set_option maxHeartbeats 3200000 in
theorem refBalance_badW (rs : List (Int × Int)) (a : Option Addr) (cap : Nat) (wl wh : Int) (w : World) (L : Hid (∀ w, IsPairs w a rs → Calls Try.prog 93 #[.slice a rs.length cap] w fun e w' => e = .returned (.int .i64 0) ∧ Below w.heap.size w w')) (R : Hid (∀ w, Calls Try.prog 99 #[.agg #[.int .i64 wl, .int .i64 wh]] w fun e w' => e = .returned (.bool false) ∧ Below w.heap.size w w')) (he : Hid (balE rs wl wh = 2)) (h : Hid (IsPairs w a rs)) :
    Calls Try.prog 47 #[.slice a rs.length cap, .agg #[.int .i64 wl, .int .i64 wh]] w fun e w' => BalPost rs wl wh w e w' := by
  go_enter Try.func47, Try.ntmps47
  go_wp2_with fail
  refine (L.out _ (pairs_later h.out (by repeat (first | exact Below.refl _ _ | assumption | apply balloc | apply bdrew | (refine bset ?_ (by first | (simp; done) | omega | (simp; omega)) _) | (refine bnext ?_ (by assumption)))))).mono ?_
  rintro e w1 ⟨rfl, hb1⟩
  have c0 := later hb1 (a := ⟨w.heap.size, 0, none⟩) (v := .int .i64 wl) (by simp [go_sem, World.cell?_alloc_past])
  have c1 := later hb1 (a := ⟨w.heap.size, 1, none⟩) (v := .int .i64 wh) (by simp [go_sem, World.cell?_alloc_past])
  have c4 := later hb1 (a := ⟨w.heap.size + 1, 0, none⟩) (v := .int .i64 0) (by simp [go_sem, World.cell?_alloc_past])
  have c5 := later hb1 (a := ⟨w.heap.size + 1, 1, none⟩) (v := .int .i64 0) (by simp [go_sem, World.cell?_alloc_past])
  have f4 := free_later hb1 (a := ⟨w.heap.size + 1, 0, none⟩) (v := .int .i64 0) (by simp [go_sem, World.cell?_alloc_past]) (by simp [go_sem, World.cell?_alloc_past])
  have f5 := free_later hb1 (a := ⟨w.heap.size + 1, 1, none⟩) (v := .int .i64 0) (by simp [go_sem, World.cell?_alloc_past]) (by simp [go_sem, World.cell?_alloc_past])
  go_wp2_with fail
  refine (R.out _).mono ?_
  rintro e w2 ⟨rfl, hb2⟩
  have d4 := later hb2 c4
  have d5 := later hb2 c5
  have g4 := free_later hb2 c4 f4
  have g5 := free_later hb2 c5 f5
  go_wp2_with fail
  exact bodyPost_ret (v := .tuple #[.slice none 0 0, .agg #[.int .i64 0, .int .i64 0], .int .i64 2]) (by simp [results, Try.results47, go_sem, d4, d5]) rfl (bal_bad he.out rfl (by repeat (first | exact Below.refl _ _ | assumption | apply balloc | apply bdrew | (refine bset ?_ (by first | (simp; done) | omega | (simp; omega)) _) | (refine bnext ?_ (by assumption)))))

theorem cell_new_drewN (w : World) (n : Nat) (cs : Array Value) (T : TypeId) (i : Nat) : ((w.drewN n).alloc (.cells cs T)).cell? ⟨w.heap.size, i, none⟩ = cs[i]? := cell_of_row _ _ _ cs T (0, 0) (heap_alloc_new (w.drewN n) _)
theorem set2_far {w : World} {n m i : Nat} {x y v : Value} (hne : m ≠ n) (h : w.cell? ⟨m, i, none⟩ = some v) : ((w.setCell ⟨n, 0, none⟩ x).setCell ⟨n, 1, none⟩ y).cell? ⟨m, i, none⟩ = some v :=
  (World.cell?_of_block (w := w) ((Below.heap_setCell _ ⟨n, 1, none⟩ _ m hne).trans (Below.heap_setCell _ ⟨n, 0, none⟩ _ m hne))).trans h
theorem bcell {B : Nat} {w w' : World} {a : Addr} {v : Value} (h : Below B w w') (hb : a.block < B) (hc : w.cell? a = some v) : w'.cell? a = some v := (World.cell?_of_block (w := w) (h.block a.block hb)).trans hc
set_option maxRecDepth 100000 in
set_option maxHeartbeats 12800000 in
theorem refBalance_good (rs : List (Int × Int)) (a : Option Addr) (cap : Nat) (wl wh : Int) (w : World) (L : Hid (∀ w, IsPairs w a rs → Calls Try.prog 93 #[.slice a rs.length cap] w fun e w' => e = .returned (.int .i64 0) ∧ Below w.heap.size w w')) (R : Hid (∀ w, Calls Try.prog 99 #[.agg #[.int .i64 wl, .int .i64 wh]] w fun e w' => e = .returned (.bool true) ∧ Below w.heap.size w w')) (h : Hid (IsPairs w a rs))
    (hl : rs.length ≤ 100) (hr : Hid (rs.all rangeOk = true)) (hw : -1000000000000000 ≤ wl ∧ wl ≤ wh ∧ wh ≤ 1000000000000000) (hE : Hid (balE rs wl wh = if max (sumL rs rs.length) wl ≤ min (sumH rs rs.length) wh then 0 else 7)) :
    Calls Try.prog 47 #[.slice a rs.length cap, .agg #[.int .i64 wl, .int .i64 wh]] w fun e w' => BalPost rs wl wh w e w' := by
  obtain ⟨ti, hi, hz0, hz1, hz2⟩ := info_parts range_info
  have HI := hide hi
  have HZ0 := hide hz0
  have HZ1 := hide hz1
  have HZ2 := hide hz2
  obtain ⟨w0, w1', w2'⟩ := hw
  clear hi hz0 hz1 hz2
  go_enter Try.func47, Try.ntmps47
  go_wp2_with fail
  refine (L.out _ (pairs_later h.out (by repeat (first | exact Below.refl _ _ | assumption | apply balloc | apply bdrew | (refine bset ?_ (by first | (simp; done) | omega | (simp; omega)) _) | (refine bnext ?_ (by assumption)))))).mono ?_
  rintro e w1 ⟨rfl, hb1⟩
  have c0 := later hb1 (a := ⟨w.heap.size, 0, none⟩) (v := .int .i64 wl) (by simp [go_sem, World.cell?_alloc_past])
  have c1 := later hb1 (a := ⟨w.heap.size, 1, none⟩) (v := .int .i64 wh) (by simp [go_sem, World.cell?_alloc_past])
  have c4 := later hb1 (a := ⟨w.heap.size + 1, 0, none⟩) (v := .int .i64 0) (by simp [go_sem, World.cell?_alloc_past])
  have c5 := later hb1 (a := ⟨w.heap.size + 1, 1, none⟩) (v := .int .i64 0) (by simp [go_sem, World.cell?_alloc_past])
  have f4 := free_later hb1 (a := ⟨w.heap.size + 1, 0, none⟩) (v := .int .i64 0) (by simp [go_sem, World.cell?_alloc_past]) (by simp [go_sem, World.cell?_alloc_past])
  have f5 := free_later hb1 (a := ⟨w.heap.size + 1, 1, none⟩) (v := .int .i64 0) (by simp [go_sem, World.cell?_alloc_past]) (by simp [go_sem, World.cell?_alloc_past])
  go_wp2_with fail
  refine (R.out _).mono ?_
  rintro e w2 ⟨rfl, hb2⟩
  have d0 := later hb2 c0
  have d1 := later hb2 c1
  have ⟨d4, g4⟩ := cf_later hb2 ⟨c4, f4⟩
  have ⟨d5, g5⟩ := cf_later hb2 ⟨c5, f5⟩
  have B2 : Below w.heap.size w w2 := (by repeat (first | exact Below.refl _ _ | assumption | apply balloc | apply bdrew | (refine bset ?_ (by first | (simp; done) | omega | (simp; omega)) _) | (refine bnext ?_ (by assumption))))
  have z4 : w.heap.size + 1 < w2.heap.size := World.block_lt_of_cell? _ _ d4
  have OWN := hide (World.ownsRow_lit (base := w2.heap.size) (e := 46) (size := 2) w2 #[] 0 (Nat.le_refl _) (by unfold maxLen; omega) rfl)
  clear hb1 hb2 c0 c1 c4 c5 f4 f5
  go_wp2_with fail
  go_loopw [9, 10, 11] (fun lo hi i wr => ∃ k : Nat, k ≤ rs.length ∧ i = .int .i64 (k : Int) ∧ lo = .int .i64 (sumL rs k) ∧ hi = .int .i64 (sumH rs k) ∧ wr.heap = (w2.alloc (.cells #[] 46)).heap ∧ Below w.heap.size w wr ∧ Below w2.heap.size w2 wr) (fun _ _ i _ => rs.length - (intOf i).toNat)
  case atStart => exact ⟨0, by omega, rfl, by simp [sumL, isum], by simp [sumH, isum], rfl, (by repeat (first | exact Below.refl _ _ | assumption | apply balloc | apply bdrew | (refine bset ?_ (by first | (simp; done) | omega | (simp; omega)) _) | (refine bnext ?_ (by assumption)))), (by repeat (first | exact Below.refl _ _ | assumption | apply balloc | apply bdrew | (refine bset ?_ (by first | (simp; done) | omega | (simp; omega)) _) | (refine bnext ?_ (by assumption))))⟩
  case round =>
    obtain ⟨k, hk, rfl, rfl, rfl, hheap, hbw, hb2w⟩ := hrel
    have HH := hide hheap
    clear hheap
    by_cases hlt : k < rs.length
    · obtain ⟨b, off, rfl, hc⟩ : ∃ b off, a = some ⟨b, off, none⟩ ∧ ∀ i, i < rs.length → wr.cell? ⟨b, off + i * 2, none⟩ = some (.int .i64 (rs.getD i (0, 0)).1) ∧ wr.cell? ⟨b, off + i * 2 + 1, none⟩ = some (.int .i64 (rs.getD i (0, 0)).2) := by
        rcases pairs_later h.out hbw with h | h
        · subst h; simp at hlt
        · exact h
      obtain ⟨c1, c2⟩ := hc k hlt
      clear hc
      have e1 := sumL_step hlt
      have e2 := sumH_step hlt
      have s0 := sums_bound hr.out k (by omega)
      have s1 := sums_bound hr.out (k + 1) (by omega)
      obtain ⟨x, hx⟩ : ∃ x, sumL rs (k + 1) = x := ⟨_, rfl⟩
      obtain ⟨y, hy⟩ : ∃ y, sumH rs (k + 1) = y := ⟨_, rfl⟩
      rw [hx] at e1 s1
      rw [hy] at e2 s1
      have HX := hide hx
      have HY := hide hy
      clear hx hy
      generalize rs.getD k (0, 0) = z at *
      obtain ⟨p, q⟩ := z
      simp only at c1 c2 e1 e2
      obtain ⟨⟨s2, s3⟩, s4, s5⟩ := s0
      obtain ⟨⟨s6, s7⟩, s8, s9⟩ := s1
      have t1 : sumL rs k + p ≤ 1000000000000000000 ∧ -1000000000000000000 ≤ sumL rs k + p := by omega
      have t2 : sumH rs k + q ≤ 1000000000000000000 ∧ -1000000000000000000 ≤ sumH rs k + q := by omega
      go_wp2_with fail
      go_quiet (fail)
      go_wp2_with fail
      go_roundw
      case rel => exact ⟨k + 1, by omega, by go_num, by rw [HX.out], by rw [HY.out], HH.out, below_drewN hbw _, below_drewN hb2w _⟩
      case measure => simp [intOf]; omega
    · obtain rfl : k = rs.length := by omega
      have x0 := later hb2w d0
      have x1 := later hb2w d1
      have ⟨x4, y4⟩ := cf_later hb2w ⟨d4, g4⟩
      have ⟨x5, y5⟩ := cf_later hb2w ⟨d5, g5⟩
      have s0 := sums_bound hr.out rs.length (Nat.le_refl _)
      obtain ⟨⟨s2, s3⟩, s4, s5⟩ := s0
      have zl : w.heap.size < w2.heap.size := by omega
      by_cases hA : wh < sumL rs rs.length
      · have E := hide (show balE rs wl wh = 7 by rw [hE.out, if_neg (by omega)])
        have q1 : decide (wh < sumL rs rs.length) = true := decide_eq_true hA
        go_wp2_with fail
        exact bodyPost_ret (v := .tuple #[.slice none 0 0, .agg #[.int .i64 0, .int .i64 0], .int .i64 7]) (by simp [results, Try.results47, go_sem, x4, x5]) rfl (bal_bad E.out rfl (bset (bset hbw (by simp) _) (by simp) _))
      · have q1 : decide (wh < sumL rs rs.length) = false := decide_eq_false hA
        by_cases hB : sumH rs rs.length < wl
        · have E := hide (show balE rs wl wh = 7 by rw [hE.out, if_neg (by omega)])
          have q2 : decide (sumH rs rs.length < wl) = true := decide_eq_true hB
          go_wp2_with fail
          exact bodyPost_ret (v := .tuple #[.slice none 0 0, .agg #[.int .i64 0, .int .i64 0], .int .i64 7]) (by simp [results, Try.results47, go_sem, x4, x5]) rfl (bal_bad E.out rfl (bset (bset hbw (by simp) _) (by simp) _))
        · have q2 : decide (sumH rs rs.length < wl) = false := decide_eq_false hB
          have E := hide (show balE rs wl wh = 0 by
            rw [hE.out, if_pos]
            have : sumL rs rs.length ≤ sumH rs rs.length := by
              by_cases h0 : 0 < rs.length
              · have a1 := others_le hr.out h0
                have a2 := range_get hr.out h0
                omega
              · have e0 : rs.length = 0 := by omega
                rw [e0]; simp [sumL, sumH]
            omega)
          have OWN' := hide (show wr.ownsRow w2.heap.size 46 2 (.slice (some ⟨w2.heap.size, 0, none⟩) 0 0) 0 [] from by
            obtain ⟨o1, o2⟩ := OWN.out
            refine ⟨o1, ?_⟩
            rw [HH.out]
            exact o2)
          go_wp2_with fail
          go_loopw [8, 12] (fun v i wr => ∃ k : Nat, k ≤ rs.length ∧ i = .int .i64 (k : Int) ∧ wr.ownsRow w2.heap.size 46 2 v k (rowOf (narrowed rs wl wh k)) ∧ Below w2.heap.size w2 wr) (fun _ i _ => rs.length - (intOf i).toNat)
          case atStart => exact ⟨0, by omega, rfl, OWN'.out, hb2w⟩
          case round =>
            obtain ⟨j, hj, rfl, hown, hbj⟩ := hrel
            have HO := hide hown
            clear hown
            have x0 := later hbj d0
            have x1 := later hbj d1
            by_cases hlt : j < rs.length
            · obtain ⟨b, off, rfl, hc0⟩ : ∃ b off, a = some ⟨b, off, none⟩ ∧ ∀ i, i < rs.length → w.cell? ⟨b, off + i * 2, none⟩ = some (.int .i64 (rs.getD i (0, 0)).1) ∧ w.cell? ⟨b, off + i * 2 + 1, none⟩ = some (.int .i64 (rs.getD i (0, 0)).2) := by
                rcases h.out with h | h
                · subst h; simp at hlt
                · exact h
              obtain ⟨c1', c2'⟩ := hc0 j hlt
              have hbb : b < w.heap.size := World.block_lt_of_cell? _ _ c1'
              have c1 := later hbj (later B2 c1')
              have c2 := later hbj (later B2 c2')
              clear hc0 c1' c2'
              have rg := range_get hr.out hlt
              have ol := others_le hr.out hlt
              have BP := balPart_is hr.out (wl := wl) (wh := wh) hlt
              have NS := narrowed_succ rs wl wh j
              rw [BP] at NS
              obtain ⟨z, hz⟩ : ∃ z, rs.getD j (0, 0) = z := ⟨_, rfl⟩
              rw [hz] at c1 c2 rg ol NS
              clear BP hz
              obtain ⟨p, q⟩ := z
              obtain ⟨SL, hSL⟩ : ∃ x, sumL rs rs.length = x := ⟨_, rfl⟩
              obtain ⟨SH, hSH⟩ : ∃ x, sumH rs rs.length = x := ⟨_, rfl⟩
              rw [hSL, hSH] at ol NS
              rw [hSL] at s2 s3
              rw [hSH] at s4 s5
              rw [hSL, hSH]
              simp only at c1 c2 rg ol NS
              have NS' := hide NS
              clear NS
              obtain ⟨⟨r0, r1⟩, r2⟩ := rg
              have hz2 : w2.heap.size ≤ wr.heap.size := hbj.size
              have u1 : ∀ o, (wr.alloc o).heap.size = wr.heap.size + 1 := fun o => by simp
              have HLT := hide HO.out.lt
              go_wp2_with fail
              go_quiet (fail)
              have hw1 : IntKind.wrap .i64 (wl - (SH - q)) = wl - (SH - q) := IntWalk.i64_in _ (by omega)
              have hw2 : IntKind.wrap .i64 (wh - (SL - p)) = wh - (SL - p) := IntWalk.i64_in _ (by omega)
              have hm1 : (if p < wl - (SH - q) then wl - (SH - q) else p) = max p (wl - (SH - q)) := by split <;> omega
              have hm2 : (if wh - (SL - p) < q then wh - (SL - p) else q) = min q (wh - (SL - p)) := by split <;> omega
              go_upto_region 18 with fail
              go_region_held3 (fun w' => w'.cell? ⟨w.heap.size, 0, none⟩ = some (.int .i64 wl) ∧ w'.cell? ⟨w.heap.size, 1, none⟩ = some (.int .i64 wh) ∧ w'.cell? ⟨b, off + j * 2, none⟩ = some (.int .i64 p) ∧ w'.cell? ⟨b, off + j * 2 + 1, none⟩ = some (.int .i64 q))
                (first | (exact ⟨x0, x1, c1, c2⟩) | (exact ⟨bcell hB4 (by first | omega | (simp; omega)) x0, bcell hB4 (by first | omega | (simp; omega)) x1, bcell hB4 (by first | omega | (simp; omega)) c1, bcell hB4 (by first | omega | (simp; omega)) c2⟩) | (go_split_ands; exact ⟨later (balloc (Below.refl _ _)) (by assumption), later (balloc (Below.refl _ _)) (by assumption), later (balloc (Below.refl _ _)) (by assumption), later (balloc (Below.refl _ _)) (by assumption)⟩) | go_keep)
                ((refine step_append_lies _ (by rfl) (.tmp 77) (.tmp 99) 43 (by rfl) w2.heap.size 46 ti (.agg #[.int .i64 0, .int .i64 0]) 2 16 Try.underlying43 HI.out HZ0.out HZ1.out HZ2.out rfl (by decide) _ j (rowOf (narrowed rs wl wh j)) (by rfl) (by first | exact ((owns_drewN HO.out _).drew).alloc _ | exact (HO.out.drew).alloc _ | exact HO.out.alloc _) _ 1 1 [.int .i64 (max p (wl - (SH - q))), .int .i64 (min q (wh - (SL - p)))] (by rfl) rfl (by intro i u hu; match i, hu with | 0, hu => (simp at hu; subst hu; simp [go_sem, Addr.add, hw1, hw2, hm1, hm2, cell_new_drewN]) | 1, hu => (simp at hu; subst hu; simp [go_sem, Addr.add, hw1, hw2, hm1, hm2, cell_new_drewN]) | i + 2, hu => simp at hu) (by intro u hu; simp at hu; rcases hu with rfl | rfl <;> rfl) (by omega) (by unfold maxLen; omega) (by omega) (by first | (simp; done) | omega | (simp; omega)) _ rfl ?_; intro g gc w4 hown4 hgrow _ _; have hB4 : Below w2.heap.size wr w4 := Below.grown (by first | exact ((below_drewN (Below.refl w2.heap.size wr) _).drew).alloc (by first | (simp; done) | omega | (simp; omega)) _ | exact ((Below.refl w2.heap.size wr).drew).alloc (by first | (simp; done) | omega | (simp; omega)) _) hgrow (by first | (simp; done) | omega | (simp; omega)) (fun k hk => (HLT.out k hk).1); rw [← NS'.out] at hown4))
              all_goals
                have HO4 := hide hown4
                clear hown4 hgrow
                go_wp2_with fail
                go_roundw
                case rel => exact ⟨j + 1, by omega, by go_num, HO4.out, hbj.trans hB4⟩
                case measure => simp [intOf]; omega
            · obtain rfl : j = rs.length := by omega
              have hv := HO.out
              have e1 : narrowed rs wl wh rs.length = balN rs wl wh := by unfold balN narrowed; rw [if_pos E.out]
              have e2 : (balN rs wl wh).length = rs.length := by rw [← e1]; simp [narrowed]
              have e3 : balS rs wl wh = (max (sumL rs rs.length) wl, min (sumH rs rs.length) wh) := by unfold balS; rw [if_pos E.out]
              rw [e1] at hv
              obtain ⟨bv, cv, rfl, hp⟩ := pairs_of_owned hv e2.symm
              have hgv : ∀ g, bv = some g → w2.heap.size ≤ g.block := by
                rintro g rfl
                exact (hv.lt g.block rfl).1
              have HP := hide hp
              have HE2 := hide e2
              have HE3 := hide e3
              have HV := hide hv
              have ⟨y4', z4'⟩ := cf_later hbj ⟨d4, g4⟩
              have ⟨y5', z5'⟩ := cf_later hbj ⟨d5, g5⟩
              have hw3 : (if sumL rs rs.length < wl then wl else sumL rs rs.length) = max (sumL rs rs.length) wl := by split <;> omega
              have hw4 : (if wh < sumH rs rs.length then wh else sumH rs rs.length) = min (sumH rs rs.length) wh := by split <;> omega
              clear hp hv e1 e2 e3 HO
              go_upto_region 19 with fail
              go_region_held3 (fun w' => w'.cell? ⟨w.heap.size, 0, none⟩ = some (.int .i64 wl) ∧ w'.cell? ⟨w.heap.size, 1, none⟩ = some (.int .i64 wh))
                (first | (exact ⟨x0, x1⟩) | (go_split_ands; exact ⟨set2_far (by omega) (by assumption), set2_far (by omega) (by assumption)⟩) | go_keep)
                (fail)
              all_goals
                (try go_wp2_with fail)
                have yy := two_set (x := .int .i64 (max (sumL rs rs.length) wl)) (y := .int .i64 (min (sumH rs rs.length) wh)) y4' y5'
                have hv2 := ownsRow_setCell_below (ownsRow_setCell_below (HV.out.drew) (a := ⟨w.heap.size + 1, 0, none⟩) (by simp; omega) (.int .i64 (max (sumL rs rs.length) wl))) (a := ⟨w.heap.size + 1, 1, none⟩) (by simp; omega) (.int .i64 (min (sumH rs rs.length) wh))
                obtain ⟨b', c', he, hp'⟩ := pairs_of_owned hv2 HE2.out.symm
                cases he
                have BB : Below w.heap.size w wr := below_trans B2 hbj
                refine bodyPost_ret (v := .tuple #[.slice bv rs.length cv, .agg #[.int .i64 (max (sumL rs rs.length) wl), .int .i64 (min (sumH rs rs.length) wh)], .int .i64 0]) (by simp [results, Try.results47, go_sem, yy.1, yy.2, hw3, hw4]) rfl ⟨bv, cv, by rw [HE2.out, HE3.out, E.out], hp', ?_⟩
                exact bset (bset (bdrew BB) (by simp) _) (by simp) _
end Go.Proofs.Ytckapcfofkeicaa
