/-
  Heat treatments: the numbers; lists of steps in memory; two numbers in memory that may be written; the reference's span.
-/
import Derived.Test.YtlpdbjkpgfpjjaaGreatDfJ
import Derived.Test.YtlpdbjkpgfpjjaaGreatDtA
import Derived.Test.YtlpdbjkpgfpjjaaGreatFrameS
import Derived.Laws.OwnMore
import Derived.Laws.AppendOwnNone
import Derived.Deep.RegionLawGrows
namespace Go.Proofs.YtlpdbjkpgfpjjaaGreat
set_option linter.unusedSimpArgs false
set_option linter.unusedVariables false

theorem fall_mono {h : Heat} (k : heatOk h = true) {r : Nat} {x y : Int} (xy : x ≤ y) : (fallL h r x ≤ fallL h r y ∧ fallL h r y ≤ fallL h r x + (y - x)) ∧ fallH h r x ≤ fallH h r y ∧ fallH h r y ≤ fallH h r x + (y - x) := by
  obtain ⟨⟨d0, d1⟩, f⟩ := heat_far k
  obtain ⟨l0, l1, l2⟩ := f r
  unfold fallL fallH
  have e1 : max 0 (x - h.d) ≤ max 0 (y - h.d) := by omega
  have e2 : max 0 (y - h.d) ≤ max 0 (x - h.d) + (y - x) := by omega
  generalize max 0 (x - h.d) = A at *
  obtain ⟨t, ht⟩ : ∃ t, max 0 (y - h.d) = A + t := ⟨max 0 (y - h.d) - A, by omega⟩
  rw [ht] at e1 e2 ⊢
  have t0 : 0 ≤ t := by omega
  have m1 : 0 ≤ t * h.lo r := Int.mul_nonneg t0 l0
  have m2 : t * h.lo r ≤ t * h.hi r := Int.mul_le_mul_of_nonneg_left l1 t0
  have m3 : t * h.hi r ≤ t * 10000 := Int.mul_le_mul_of_nonneg_left l2 t0
  rw [Int.add_mul, Int.add_mul]
  generalize A * h.lo r = p
  generalize A * h.hi r = q
  generalize t * h.lo r = u at *
  generalize t * h.hi r = v at *
  omega
theorem keptS_mono {h : Heat} (k : heatOk h = true) (much : Bool) {r : Nat} {x y : Int} (xy : x ≤ y) : keptS much r x h ≤ keptS much r y h ∧ keptS much r y h ≤ keptS much r x h + (y - x) := by
  have f := fall_mono (r := r) k xy
  unfold keptS
  cases much <;> simp <;> omega
theorem keptQ_mono {hs : List Heat} (k : hs.all heatOk = true) (much : Bool) {r : Nat} {x y : Int} (xy : x ≤ y) : keptQ much r x hs ≤ keptQ much r y hs ∧ keptQ much r y hs ≤ keptQ much r x hs + (y - x) := by
  unfold keptQ
  induction hs generalizing x y with
  | nil => exact ⟨xy, by simp; omega⟩
  | cons h hs ih =>
    simp only [List.all_cons, Bool.and_eq_true] at k
    have f := keptS_mono (r := r) k.1 much xy
    have g := ih k.2 f.1
    simp only [List.foldl_cons]
    omega
theorem keptS_less {h : Heat} (k : heatOk h = true) {r : Nat} {x y : Int} (x0 : 0 ≤ x) (xy : x ≤ y) (y1 : y ≤ 1000000) : keptS true r x h ≤ keptS false r y h := by
  have f := fall_far (r := r) k x0 (by omega)
  have g := keptS_mono (r := r) k false xy
  unfold keptS at *
  simp at *
  omega
theorem keptQ_less {hs : List Heat} (k : hs.all heatOk = true) {r : Nat} {x y : Int} (x0 : 0 ≤ x) (xy : x ≤ y) (y1 : y ≤ 1000000) : keptQ true r x hs ≤ keptQ false r y hs := by
  unfold keptQ
  induction hs generalizing x y with
  | nil => exact xy
  | cons h hs ih =>
    simp only [List.all_cons, Bool.and_eq_true] at k
    have f := keptS_less (r := r) k.1 x0 xy y1
    have a := keptS_far (r := r) k.1 true x0 (by omega)
    have b := keptS_far (r := r) k.1 false (x := y) (by omega) y1
    simp only [List.foldl_cons]
    exact ih k.2 a.1 f (by omega)
theorem all_getD {hs : List Heat} (k : hs.all heatOk = true) {i : Nat} (hi : i < hs.length) : heatOk (hs.getD i default) = true := by
  rw [List.getD_eq_getElem?_getD, List.getElem?_eq_getElem hi, Option.getD_some]
  exact List.all_eq_true.1 k _ (List.getElem_mem hi)
theorem all_take {hs : List Heat} (k : hs.all heatOk = true) (n : Nat) : (hs.take n).all heatOk = true := by
  rw [List.all_eq_true] at k ⊢
  exact fun h hm => k h (List.mem_of_mem_take hm)
/-- A true step: some part falls out. -/
def ovS (r : Nat) (b x : Int) (h : Heat) : Int := if x - h.d ≤ 0 then x else x - plN ((x - h.d) * h.lo r / 10000) (((x - h.d) * h.hi r + 9999) / 10000) b
/-- A true course. -/
def ovQ (hs : List Heat) (ps : List Int) (r : Nat) (x : Int) : Nat → Int
  | 0 => x
  | k + 1 => ovS r (ps.getD k 0) (ovQ hs ps r x k) (hs.getD k default)
theorem ovS_between {h : Heat} (k : heatOk h = true) {r : Nat} {b x : Int} (x0 : 0 ≤ x) (x1 : x ≤ 1000000) : keptS true r x h ≤ ovS r b x h ∧ ovS r b x h ≤ keptS false r x h := by
  have f := fall_far (r := r) k x0 x1
  unfold ovS
  split
  · rename_i hz
    have e : max 0 (x - h.d) = 0 := by omega
    unfold keptS fallL fallH at *
    rw [e] at f ⊢
    simp <;> omega
  · rename_i hz
    have e : max 0 (x - h.d) = x - h.d := by omega
    unfold keptS fallL fallH at *
    rw [e] at f ⊢
    have := plN_in b f.1.2
    simp
    omega
theorem ovQ_between {hs : List Heat} (k : hs.all heatOk = true) (ps : List Int) {r : Nat} {x : Int} (x0 : 0 ≤ x) (x1 : x ≤ 1000000) : ∀ n, n ≤ hs.length → (0 ≤ ovQ hs ps r x n ∧ ovQ hs ps r x n ≤ 1000000) ∧ keptQ true r x (hs.take n) ≤ ovQ hs ps r x n ∧ ovQ hs ps r x n ≤ keptQ false r x (hs.take n) := by
  intro n
  induction n with
  | zero => intro _; simp [ovQ, keptQ]; omega
  | succ n ih =>
    intro hn
    obtain ⟨⟨a, b⟩, c, d⟩ := ih (by omega)
    have ok := all_getD k (i := n) (by omega)
    have s := ovS_between (r := r) (b := ps.getD n 0) ok a b
    have t := keptQ_far (all_take k n) (r := r) true x0 x1
    have f := keptQ_far (all_take k n) (r := r) false x0 x1
    have m1 := keptS_mono (r := r) ok true c
    have m2 := keptS_mono (r := r) ok false d
    have l1 := keptS_far (r := r) ok true a b
    have l2 := keptS_far (r := r) ok false a b
    rw [keptQ_snoc true r x (by omega), keptQ_snoc false r x (by omega)]
    simp only [ovQ]
    omega

theorem selB_one : ∀ k : Fin 5, ∀ i : Fin 5, selB ((2 ^ k.val : Nat) : Int) i.val = decide (i = k) := by decide +kernel
theorem selB_all : ∀ i : Fin 5, selB 31 i.val = true := by decide +kernel
theorem annL_one (hs : List Heat) (x y : Int) {k : Nat} (hk : k < 5) : annL hs x y ((2 ^ k : Nat) : Int) 5 = [(keptQ true k x hs, keptQ false k y hs)] ∧ annF hs x y ((2 ^ k : Nat) : Int) 5 = [(x - keptQ false k x hs, y - keptQ true k y hs)] := by
  have s0 := selB_one ⟨k, hk⟩ 0
  have s1 := selB_one ⟨k, hk⟩ 1
  have s2 := selB_one ⟨k, hk⟩ 2
  have s3 := selB_one ⟨k, hk⟩ 3
  have s4 := selB_one ⟨k, hk⟩ 4
  simp only [Fin.val_zero, Fin.val_one, Fin.val_two, Fin.isValue] at s0 s1 s2 s3 s4
  change selB _ 3 = _ at s3
  change selB _ 4 = _ at s4
  simp only [annL, annF, s0, s1, s2, s3, s4]
  obtain rfl | rfl | rfl | rfl | rfl : k = 0 ∨ k = 1 ∨ k = 2 ∨ k = 3 ∨ k = 4 := by omega
  all_goals simp
theorem annL_all (hs : List Heat) (x y : Int) : annL hs x y 31 5 = [(keptQ true 0 x hs, keptQ false 0 y hs), (keptQ true 1 x hs, keptQ false 1 y hs), (keptQ true 2 x hs, keptQ false 2 y hs), (keptQ true 3 x hs, keptQ false 3 y hs), (keptQ true 4 x hs, keptQ false 4 y hs)] ∧ annF hs x y 31 5 = [(x - keptQ false 0 x hs, y - keptQ true 0 y hs), (x - keptQ false 1 x hs, y - keptQ true 1 y hs), (x - keptQ false 2 x hs, y - keptQ true 2 y hs), (x - keptQ false 3 x hs, y - keptQ true 3 y hs), (x - keptQ false 4 x hs, y - keptQ true 4 y hs)] := by
  have s0 := selB_all 0
  have s1 := selB_all 1
  have s2 := selB_all 2
  have s3 := selB_all 3
  have s4 := selB_all 4
  change selB 31 0 = _ at s0
  change selB 31 1 = _ at s1
  change selB 31 2 = _ at s2
  change selB 31 3 = _ at s3
  change selB 31 4 = _ at s4
  simp [annL, annF, s0, s1, s2, s3, s4]
theorem hull_is {rs : List (Int × Int)} (h0 : rs ≠ []) (hl : rs.length ≤ 100) (h : rs.all rangeOk = true) : hullQ rs = (mnL rs (rs.length - 1), mxH rs (rs.length - 1), 0) := by
  have e1 : listE rs = 0 := by unfold listE; rw [decide_eq_true (by omega), h]; rfl
  have e2 : someE rs = 0 := by
    unfold someE
    rw [e1, if_neg (by decide), if_neg (by intro h; exact h0 (List.eq_nil_of_length_eq_zero h))]
  unfold hullQ
  rw [e2, if_neg (by decide)]
theorem annQ_one {hs : List Heat} (k : hs.all heatOk = true) (hl : hs.length ≤ 30) {x y : Int} (x0 : 0 ≤ x) (xy : x ≤ y) (y1 : y ≤ 1000000) {r : Nat} (hr : r < 5) : annQ hs x y ((2 ^ r : Nat) : Int) = ⟨keptQ true r x hs, keptQ false r y hs, x - keptQ false r x hs, y - keptQ true r y hs, 0⟩ := by
  have p : (1 : Int) ≤ ((2 ^ r : Nat) : Int) ∧ ((2 ^ r : Nat) : Int) < 32 := by
    obtain rfl | rfl | rfl | rfl | rfl : r = 0 ∨ r = 1 ∨ r = 2 ∨ r = 3 ∨ r = 4 := by omega
    all_goals decide
  have e : annE hs x y ((2 ^ r : Nat) : Int) = 0 := by
    generalize ((2 ^ r : Nat) : Int) = z at *
    unfold annE
    rw [decide_eq_true (by omega), k, decide_eq_true p.2]
    simp [rgOk, x0, xy, y1]
    omega
  have a := keptQ_far k (r := r) true x0 (by omega)
  have b := keptQ_far k (r := r) false (x := y) (by omega) y1
  have c := keptQ_far k (r := r) false x0 (by omega)
  have d := keptQ_far k (r := r) true (x := y) (by omega) y1
  have l := keptQ_less k (r := r) x0 xy y1
  have m := keptQ_mono k false (r := r) xy
  have n := keptQ_less k (r := r) (show 0 ≤ y by omega) (Int.le_refl y) y1
  unfold annQ
  rw [if_pos e, (annL_one hs x y hr).1, (annL_one hs x y hr).2]
  rw [hull_is (by simp) (by simp) (by simp [rangeOk, allIn]; omega), hull_is (by simp) (by simp) (by simp [rangeOk, allIn]; omega)]
  simp [mnL, mxH]
theorem annQ_all {hs : List Heat} (k : hs.all heatOk = true) (hl : hs.length ≤ 30) {x y : Int} (x0 : 0 ≤ x) (xy : x ≤ y) (y1 : y ≤ 1000000) : (annQ hs x y 31).e = 0 ∧ ∀ r, r < 5 → ((annQ hs x y 31).a ≤ keptQ true r x hs ∧ keptQ false r y hs ≤ (annQ hs x y 31).b) ∧ (annQ hs x y 31).c ≤ x - keptQ false r x hs ∧ y - keptQ true r y hs ≤ (annQ hs x y 31).d := by
  have e : annE hs x y 31 = 0 := by
    unfold annE
    rw [decide_eq_true (by omega), k]
    simp [rgOk, x0, xy, y1]
  have F : ∀ r, (0 ≤ keptQ true r x hs ∧ keptQ true r x hs ≤ x) ∧ (0 ≤ keptQ false r y hs ∧ keptQ false r y hs ≤ y) ∧ (0 ≤ keptQ false r x hs ∧ keptQ false r x hs ≤ x) ∧ (0 ≤ keptQ true r y hs ∧ keptQ true r y hs ≤ y) ∧ keptQ true r x hs ≤ keptQ false r y hs ∧ keptQ false r y hs ≤ keptQ false r x hs + (y - x) ∧ keptQ true r y hs ≤ keptQ false r y hs := fun r =>
    ⟨keptQ_far k true x0 (by omega), keptQ_far k false (by omega) y1, keptQ_far k false x0 (by omega), keptQ_far k true (by omega) y1, keptQ_less k x0 xy y1, (keptQ_mono k false xy).2, keptQ_less k (by omega) (Int.le_refl y) y1⟩
  have f0 := F 0
  have f1 := F 1
  have f2 := F 2
  have f3 := F 3
  have f4 := F 4
  unfold annQ
  rw [if_pos e, (annL_all hs x y).1, (annL_all hs x y).2]
  rw [hull_is (by simp) (by simp) (by simp [rangeOk, allIn]; omega), hull_is (by simp) (by simp) (by simp [rangeOk, allIn]; omega)]
  refine ⟨rfl, fun r hr => ?_⟩
  simp only [mnL, mxH, List.length_cons, List.length_nil, Nat.zero_add, Nat.reduceAdd, Nat.add_one_sub_one, List.getD_cons_zero, List.getD_cons_succ]
  obtain rfl | rfl | rfl | rfl | rfl : r = 0 ∨ r = 1 ∨ r = 2 ∨ r = 3 ∨ r = 4 := by omega
  all_goals omega
end Go.Proofs.YtlpdbjkpgfpjjaaGreat

namespace Go.Proofs.YtlpdbjkpgfpjjaaGreat
set_option linter.unusedSimpArgs false
set_option linter.unusedVariables false
open Go.ChangeShapes Go.WideShapes Go.ChangeAt Go.RowKit Go.Joins

/-- A step's cells. -/
def heatC (h : Heat) : List Value := [.int .i64 h.d, .int .i64 h.a0, .int .i64 h.b0, .int .i64 h.a1, .int .i64 h.b1, .int .i64 h.a2, .int .i64 h.b2, .int .i64 h.a3, .int .i64 h.b3, .int .i64 h.a4, .int .i64 h.b4]
def heatRow (hs : List Heat) : List Value := hs.flatMap heatC
theorem heatRow_length (hs : List Heat) : (heatRow hs).length = hs.length * 11 := by
  induction hs with
  | nil => rfl
  | cons h hs ih => simp only [heatRow, List.flatMap_cons, List.length_append, List.length_cons] at ih ⊢; rw [ih]; simp [heatC]; omega
theorem heatRow_at (hs : List Heat) : ∀ i r, i < hs.length → r < 11 → (heatRow hs)[i * 11 + r]? = (heatC (hs.getD i default))[r]? := by
  induction hs with
  | nil => intro i r hi; simp at hi
  | cons h hs ih =>
    intro i r hi hr
    have hc : (heatC h).length = 11 := rfl
    simp only [heatRow, List.flatMap_cons]
    match i with
    | 0 => rw [List.getElem?_append_left (by omega)]; simp
    | i + 1 =>
      rw [List.getElem?_append_right (by omega), show (i + 1) * 11 + r - (heatC h).length = i * 11 + r by omega]
      simp only [List.length_cons] at hi
      have := ih i r (by omega) hr
      simpa [heatRow] using this
theorem heatAt_iff {W : World} {b o : Nat} {h : Heat} : HeatAt W b o h ↔ ∀ r, r < 11 → W.cell? ⟨b, o + r, none⟩ = (heatC h)[r]? := by
  constructor
  · rintro ⟨c0, c1, c2, c3, c4, c5, c6, c7, c8, c9, c10⟩ r hr
    match r, hr with
    | 0, _ => exact c0
    | 1, _ => exact c1
    | 2, _ => exact c2
    | 3, _ => exact c3
    | 4, _ => exact c4
    | 5, _ => exact c5
    | 6, _ => exact c6
    | 7, _ => exact c7
    | 8, _ => exact c8
    | 9, _ => exact c9
    | 10, _ => exact c10
  · intro k
    exact ⟨k 0 (by omega), k 1 (by omega), k 2 (by omega), k 3 (by omega), k 4 (by omega), k 5 (by omega), k 6 (by omega), k 7 (by omega), k 8 (by omega), k 9 (by omega), k 10 (by omega)⟩
theorem heatRow_cell {w : World} {a : Option Addr} {hs : List Heat} {ad : Addr} (ha : a = some ad) (h : IsHeats w a hs) : ∀ (j : Nat) (u : Value), (heatRow hs)[j]? = some u → w.cell? (ad.add j) = some u := by
  intro j u hu
  rcases h with h | ⟨b, off, e, h⟩
  · subst h; simp [heatRow] at hu
  · rw [ha] at e; cases e
    have hj : j < (heatRow hs).length := (List.getElem?_eq_some_iff.1 hu).1
    rw [heatRow_length] at hj
    have c := heatAt_iff.1 (h (j / 11) (by omega)) (j % 11) (by omega)
    have r := heatRow_at hs (j / 11) (j % 11) (by omega) (by omega)
    rw [show j / 11 * 11 + j % 11 = j by omega, hu] at r
    have hadd : (⟨b, off, none⟩ : Addr).add j = ⟨b, off + j, none⟩ := by
      by_cases hz : j = 0
      · subst hz; simp [Addr.add]
      · simp [Addr.add, hz]
    rw [hadd, r, ← c, show off + j / 11 * 11 + j % 11 = off + j by omega]
theorem heatRow_ones {hs : List Heat} : ∀ u ∈ heatRow hs, u.oneCell' = true := by
  intro u hu
  simp only [heatRow, List.mem_flatMap] at hu
  obtain ⟨h, _, hu⟩ := hu
  simp only [heatC, List.mem_cons, List.not_mem_nil, or_false] at hu
  rcases hu with rfl | rfl | rfl | rfl | rfl | rfl | rfl | rfl | rfl | rfl | rfl <;> rfl
theorem heats_of_own {w : World} {base : Nat} {T : TypeId} {v : Value} {hs : List Heat} (h : w.ownsRow base T 11 v hs.length (heatRow hs)) : ∃ b c, v = .slice b hs.length c ∧ IsHeats w b hs := by
  rcases h.2 with ⟨e, e'⟩ | ⟨g, cap, cur, rfl, _⟩
  · exact ⟨none, 0, by rw [e, e'], .inl (List.eq_nil_of_length_eq_zero e')⟩
  · refine ⟨_, _, rfl, .inr ⟨g, 0, rfl, fun i hi => heatAt_iff.2 fun r hr => ?_⟩⟩
    rw [Nat.zero_add, h.cellAt (i * 11 + r) (by omega), heatRow_at hs i r hi hr]
theorem heatCells : Tryz.prog.cellsOf 114 = 11 := by kernel_rfl
theorem spdCells : Tryz.prog.cellsOf 112 = 10 := by kernel_rfl
section
variable {H : Type} {enc : TypeId × Value → H} {w : World} {base : Nat} {spare : Nat → Bool} {held : Bool} {fuel : Nat} {y : DataW H × List MemPlace}
theorem spd_cells {c0 c1 c2 c3 c4 c5 c6 c7 c8 c9 : Value} (h : DataW.trod enc Tryz.prog w base spare held fuel 112 [c0, c1, c2, c3, c4, c5, c6, c7, c8, c9] = some y) : ∃ a b c d e f g i j k : Int, c0 = .int .i64 a ∧ c1 = .int .i64 b ∧ c2 = .int .i64 c ∧ c3 = .int .i64 d ∧ c4 = .int .i64 e ∧ c5 = .int .i64 f ∧ c6 = .int .i64 g ∧ c7 = .int .i64 i ∧ c8 = .int .i64 j ∧ c9 = .int .i64 k := by
  obtain ⟨xs, m, _, _, _, hl, hel⟩ := DataW.trod_array Tryz.underlying112 h
  match xs, hl with
  | [x0, x1, x2, x3, x4], _ =>
    have h0 := hel 0 (by omega)
    have h1 := hel 1 (by omega)
    have h2 := hel 2 (by omega)
    have h3 := hel 3 (by omega)
    have h4 := hel 4 (by omega)
    simp [range5Cells] at h0 h1 h2 h3 h4
    obtain ⟨a, b, ea, eb⟩ := range_cells5 h0
    obtain ⟨c, d, ec, ed⟩ := range_cells5 h1
    obtain ⟨e, f, ee, ef⟩ := range_cells5 h2
    obtain ⟨g, i, eg, ei⟩ := range_cells5 h3
    obtain ⟨j, k, ej, ek⟩ := range_cells5 h4
    exact ⟨a, b, c, d, e, f, g, i, j, k, ea, eb, ec, ed, ee, ef, eg, ei, ej, ek⟩
theorem heat_cells {cs : List Value} (hl : cs.length = 11) (h : DataW.trod enc Tryz.prog w base spare held fuel 114 cs = some y) : ∃ m : Heat, cs = heatC m := by
  match cs, hl with
  | [c0, c1, c2, c3, c4, c5, c6, c7, c8, c9, c10], _ =>
    obtain ⟨y0, y1, n, _, _, h0, h1⟩ := trod_struct2 Tryz.underlying114 h
    simp [intCell5, spdCells] at h0 h1
    obtain ⟨s, rfl⟩ := int_cell5 h0
    obtain ⟨a, b, c, d, e, f, g, i, j, k, rfl, rfl, rfl, rfl, rfl, rfl, rfl, rfl, rfl, rfl⟩ := spd_cells h1
    exact ⟨⟨s, a, b, c, d, e, f, g, i, j, k⟩, rfl⟩
end
set_option maxRecDepth 100000 in
/-- A slice of steps that came in. -/
theorem open_heatsS {H : Type} {enc : TypeId × Value → H} {w : World} {b0 : Nat} {r : Reach} {v : Value} {d : DataW H} {p : List MemPlace}
    (hv : Value.okWide Tryz.prog w r b0 75 v) (h : DataW.Trod enc Tryz.prog w 0 (fun _ => true) true 75 v d p) :
    ∃ (a : Option Addr) (n cap : Nat) (hs : List Heat), v = .slice a n cap ∧ n = hs.length ∧ (hs.length ≤ maxLen ∧ (a = none → cap = 0 ∧ hs = [])) ∧ IsHeats w a hs := by
  obtain ⟨a, len, cap, rfl⟩ := okWide_slice Tryz.underlying75 hv
  obtain ⟨fuel, hf⟩ := h
  rcases Go.Deep.open_slice Tryz.underlying75 hf with ⟨hcs, _⟩ | ⟨x, l, c, m, n, D, Pl, hcs, _, hl, hm, hmm, _, hx⟩
  · simp [Value.cells] at hcs
    obtain ⟨rfl, rfl, rfl⟩ := hcs
    exact ⟨none, 0, 0, [], rfl, rfl, ⟨by simp, fun _ => ⟨rfl, rfl⟩⟩, .inl rfl⟩
  · simp [Value.cells] at hcs
    obtain ⟨rfl, rfl, rfl⟩ := hcs
    have hlm : len ≤ m := by rw [hmm]; simp; omega
    have num : ∀ i, i < m → ∃ q : Heat, ∀ r, r < 11 → w.cell? ((x.add (i * 11)).add r) = (heatC q)[r]? := by
      intro i hi
      obtain ⟨cs', h1, h2⟩ := hx i hi
      rw [heatCells] at h1
      obtain ⟨_, hlen, hcell⟩ := World.cells?_some h1
      obtain ⟨q, rfl⟩ := heat_cells hlen h2
      exact ⟨q, hcell⟩
    have pick : ∃ f : Nat → Heat, ∀ i, i < m → ∀ r, r < 11 → w.cell? ((x.add (i * 11)).add r) = (heatC (f i))[r]? := by
      refine ⟨fun i => if hi : i < m then Classical.choose (num i hi) else default, fun i hi => ?_⟩
      simp only [hi, dif_pos]
      exact Classical.choose_spec (num i hi)
    obtain ⟨f, hfp⟩ := pick
    have hlen : ((List.range len).map f).length = len := by simp
    refine ⟨some x, len, cap, (List.range len).map f, rfl, hlen.symm, ⟨by rw [hlen]; omega, fun h => by cases h⟩, ?_⟩
    by_cases h0 : len = 0
    · left; subst h0; simp
    · obtain ⟨b, off, spot⟩ := x
      have hc : w.cell? (((⟨b, off, spot⟩ : Addr).add (0 * 11)).add 0) = some (.int .i64 (f 0).d) := hfp 0 (by omega) 0 (by omega)
      have hspot : spot = none := by simpa [Addr.add] using World.cell?_spot hc
      subst hspot
      refine .inr ⟨b, off, rfl, fun i hi => heatAt_iff.2 fun r hr => ?_⟩
      rw [hlen] at hi
      have hadd : ∀ o j, (⟨b, o, none⟩ : Addr).add j = ⟨b, o + j, none⟩ := by
        intro o j
        by_cases hz : j = 0
        · subst hz; simp [Addr.add]
        · simp [Addr.add, hz]
      have q := hfp i (by omega) r hr
      rw [hadd, hadd] at q
      have hg : ((List.range len).map f).getD i default = f i := by
        rw [List.getD_eq_getElem?_getD, List.getElem?_map, List.getElem?_range hi]; rfl
      rw [hg]
      exact q
theorem heat_info : (Tryz.prog.info? 114).map (fun i => (i.zero, i.size, i.bytes)) = some (some (.agg #[.int .i64 0, .int .i64 0, .int .i64 0, .int .i64 0, .int .i64 0, .int .i64 0, .int .i64 0, .int .i64 0, .int .i64 0, .int .i64 0, .int .i64 0]), 11, 88) := by kernel_rfl
theorem append_none_heats (ty L : Nat) (w : World) : (Builtin.append_ #[75, 75] ty #[.slice (some ⟨L, 0, none⟩) 0 0, .slice none 0 0]).run Tryz.prog w = .ok (.slice (some ⟨L, 0, none⟩) 0 0) w := by
  obtain ⟨ti, hi, hz0, hz1, hz2⟩ := info_parts heat_info
  simp [Builtin.append_, run_underlying Tryz.underlying75, sizeOf, typeInfo, hi, Builtin.lenOf, Builtin.firstCells, go_sem]
/-- A list of one's own of some steps, as one step of a region that draws its order. -/
theorem step_heats {ops : Array Oper} {o : Oper} {a : Act} {w : World} {K : Act → World → Prop} {Q : Exit → Act → World → Prop} {E : Prop} (hgd : o.guard = none) (s x : Operand)
    (ho : o.op = .call { callee := .builtin .append, args := #[s, x], argTypes := #[75, 75] }) (L : Nat) (hs : a.eval s = .slice (some ⟨L, 0, none⟩) 0 0)
    (b : Option Addr) (n c : Nat) (l : List Heat) (hn : n = l.length) (hx : a.eval x = .slice b n c) (hb : b = none → c = 0 ∧ l = []) (hl : l.length ≤ 1000) (hi : IsHeats w b l)
    (h : ∀ b' c' w', IsHeats w' b' l → Below w.heap.size w w' → K (a.put o.dst (.slice b' n c')) w') :
    if Region.wanted o (yielded ops a.tmps) = true then Oper.wp Tryz.prog o a w K Q else E := by
  subst hn
  obtain ⟨ti, hti, hz0, hz1, hz2⟩ := info_parts heat_info
  cases b with
  | none =>
    obtain ⟨rfl, rfl⟩ := hb rfl
    have hw : Region.wanted o (yielded ops a.tmps) = true := by simp [Region.wanted, hgd]
    rw [if_pos hw]
    have hrun := append_none_heats o.type L w
    unfold Oper.wp
    simp only [List.length_nil] at hx
    simp [execOp, ho, resolve, invoke, builtin, hs, hx, hrun, Result.andThen]
    exact h _ _ _ (.inl rfl) (Below.refl _ _)
  | some ad =>
    have hc := heatRow_cell rfl hi
    by_cases h0 : l.length = 0
    · have he := List.eq_nil_of_length_eq_zero h0
      subst he
      refine step_append_room hgd s x 75 ho 114 ti 11 Tryz.underlying75 hti hz1 L 0 0 0 hs ad 0 c [] hx rfl (fun j u hu => by simp at hu) (fun u hu => by simp at hu) (by omega) (fun j hj => by simp at hj) ?_
      exact h _ _ _ (.inl rfl) (by simpa [World.setCells] using Below.refl _ _)
    · refine step_append_grows hgd s x 75 ho 114 ti _ 11 88 Tryz.underlying75 hti hz0 hz1 hz2 rfl (by decide) (some ⟨L, 0, none⟩) 0 0 [] hs (fun h => by cases h) rfl (fun b hb j u hu => by simp at hu) ad l.length c (heatRow l) hx (heatRow_length l) hc heatRow_ones (by omega) (by unfold maxLen; omega) (by omega) ?_
      intro v' w' hown hgrow
      rw [List.nil_append, Nat.zero_add] at hown
      obtain ⟨b', c', rfl, hp⟩ := heats_of_own hown
      exact h _ _ _ hp (Below.grown (Below.refl _ _) hgrow (Nat.le_refl _) (fun k hk => by cases hk))
end Go.Proofs.YtlpdbjkpgfpjjaaGreat

namespace Go.Proofs.YtlpdbjkpgfpjjaaGreat
set_option linter.unusedSimpArgs false
set_option linter.unusedVariables false
open Go.RowKit

/-- Two numbers in memory that may be written. -/
def TF (W : World) (q : Nat) (a b : Int) : Prop := W.cell? ⟨q, 0, none⟩ = some (.int .i64 a) ∧ W.cell? ⟨q, 1, none⟩ = some (.int .i64 b) ∧ W.frozen? ⟨q, 0, none⟩ = false ∧ W.frozen? ⟨q, 1, none⟩ = false
theorem tf_later {w W : World} {q : Nat} {a b : Int} (h : TF w q a b) (hb : Below w.heap.size w W) : TF W q a b := by
  obtain ⟨h0, h1, h2, h3⟩ := h
  have hq := World.block_lt_of_cell? _ _ h0
  exact ⟨later hb h0, later hb h1, (hb.frozen (p := ⟨q, 0, none⟩) hq).trans h2, (hb.frozen (p := ⟨q, 1, none⟩) hq).trans h3⟩
theorem tf_set {W : World} {q : Nat} {a b a' b' : Int} (h : TF W q a b) : TF ((W.setCell ⟨q, 0, none⟩ (.int .i64 a')).setCell ⟨q, 1, none⟩ (.int .i64 b')) q a' b' := by
  obtain ⟨h0, h1, h2, h3⟩ := h
  have e1 : (W.setCell ⟨q, 0, none⟩ (.int .i64 a')).cell? ⟨q, 1, none⟩ = some (.int .i64 b) := (World.cell?_setCell_other _ _ _ _ (by simp)).trans h1
  have e0 : (W.setCell ⟨q, 0, none⟩ (.int .i64 a')).cell? ⟨q, 0, none⟩ = some (.int .i64 a') := set_selfR (by rw [h0]; rfl)
  exact ⟨(World.cell?_setCell_other _ _ _ _ (by simp)).trans e0, set_selfR (by rw [e1]; rfl), by simp [go_sem, h2], by simp [go_sem, h3]⟩
theorem tf_other {W : World} {q r : Nat} {a b u v : Int} (h : TF W q a b) (hr : q ≠ r) : TF ((W.setCell ⟨r, 0, none⟩ (.int .i64 u)).setCell ⟨r, 1, none⟩ (.int .i64 v)) q a b := by
  obtain ⟨h0, h1, h2, h3⟩ := h
  refine ⟨?_, ?_, by simp [go_sem, h2], by simp [go_sem, h3]⟩
  · exact (World.cell?_setCell_other _ _ _ _ (by first | (simp; done) | (simp; omega))).trans ((World.cell?_setCell_other _ _ _ _ (by first | (simp; done) | (simp; omega))).trans h0)
  · exact (World.cell?_setCell_other _ _ _ _ (by first | (simp; done) | (simp; omega))).trans ((World.cell?_setCell_other _ _ _ _ (by first | (simp; done) | (simp; omega))).trans h1)
theorem below_set2 {B q : Nat} {a W : World} {u v : Value} (h : Below B a W) (hq : B ≤ q) : Below B a ((W.setCell ⟨q, 0, none⟩ u).setCell ⟨q, 1, none⟩ v) := (h.setCell (p := ⟨q, 0, none⟩) hq _).setCell (p := ⟨q, 1, none⟩) hq _
/-- A range from one number to another one. -/
def spN (lo hi : Int) (r : Int × Int) : Bool := decide (lo ≤ r.1) && (decide (r.1 ≤ r.2) && decide (r.2 ≤ hi))
theorem refSpan_any (x y lo hi : Int) (w : World) :
    Calls Tryz.prog 57 #[.agg #[.int .i64 x, .int .i64 y], .int .i64 lo, .int .i64 hi] w fun e w' => e = .returned (.bool (spN lo hi (x, y))) ∧ Below w.heap.size w w' := by
  by_cases h1 : lo ≤ x
  · have d1 : decide (lo ≤ x) = true := decide_eq_true h1
    by_cases h2 : x ≤ y
    · have d2 : decide (x ≤ y) = true := decide_eq_true h2
      have E : spN lo hi (x, y) = decide (y ≤ hi) := by unfold spN; simp [d1, d2]
      rw [E]
      clear h1 h2 E
      go_enter Tryz.func57, Tryz.ntmps57
      go_wp2_with fail
      go_ret
      exact ⟨rfl, (by repeat (first | exact Below.refl _ _ | assumption | apply balloc | apply bdrew | (refine below_drewN ?_ _) | (refine bset ?_ (by first | (simp; done) | omega | (simp; omega)) _) | (refine bnext ?_ (by assumption))))⟩
    · have d2 : decide (x ≤ y) = false := decide_eq_false h2
      have E : spN lo hi (x, y) = false := by unfold spN; simp [d1, d2]
      rw [E]
      clear h1 h2 E
      go_enter Tryz.func57, Tryz.ntmps57
      go_wp2_with fail
      go_ret
      exact ⟨rfl, (by repeat (first | exact Below.refl _ _ | assumption | apply balloc | apply bdrew | (refine below_drewN ?_ _) | (refine bset ?_ (by first | (simp; done) | omega | (simp; omega)) _) | (refine bnext ?_ (by assumption))))⟩
  · have d1 : decide (lo ≤ x) = false := decide_eq_false h1
    have E : spN lo hi (x, y) = false := by unfold spN; simp [d1]
    rw [E]
    clear h1 E
    go_enter Tryz.func57, Tryz.ntmps57
    go_wp2_with fail
    go_ret
    exact ⟨rfl, (by repeat (first | exact Below.refl _ _ | assumption | apply balloc | apply bdrew | (refine below_drewN ?_ _) | (refine bset ?_ (by first | (simp; done) | omega | (simp; omega)) _) | (refine bnext ?_ (by assumption))))⟩
end Go.Proofs.YtlpdbjkpgfpjjaaGreat
