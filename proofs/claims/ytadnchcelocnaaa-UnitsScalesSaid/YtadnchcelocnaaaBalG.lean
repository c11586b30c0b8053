/-
  units: Balance, where something is left.
-/
import Derived.Test.YtadnchcelocnaaaBalN
import Derived.OwnWalk
namespace Go.Proofs.Ytadnchcelocnaaa
set_option linter.unusedSimpArgs false
set_option linter.unusedVariables false
open Go.RowKit

theorem range_info : (Try.prog.info? 46).map (fun i => (i.zero, i.size, i.bytes)) = some (some (.agg #[.int .i64 0, .int .i64 0]), 2, 16) := by kernel_rfl

theorem sz_set (W : World) (p : Addr) (v : Value) : (W.setCell p v).heap.size = W.heap.size := by simp [World.setCell]

theorem cf_touch {b : Nat} {w W : World} {p : Addr} {v : Value} (h : Touch b w W) (hp : p.block ≠ b) (hc : CF w p v) : CF W p v := ⟨h.cell hp hc.1, h.free hp hc.1 hc.2⟩

/-- The ranges after k rounds: the first k are there. -/
def narrowAt (f : Nat → Int × Int) (n k : Nat) : List Value := (List.range (n * 2)).map fun j => .int .i64 (if j / 2 < k then (if j % 2 = 0 then (f (j / 2)).1 else (f (j / 2)).2) else 0)
theorem narrowAt_zero (f : Nat → Int × Int) (n : Nat) : (madeCells (Value.agg #[.int .i64 0, .int .i64 0]).cells (n * 2)).toList = narrowAt f n 0 := by
  unfold madeCells narrowAt
  simp [Value.cells]
  intro i _
  obtain h | h : i % 2 = 0 ∨ i % 2 = 1 := by omega
  · rw [h]; rfl
  · rw [h]; rfl
theorem narrowAt_set (f : Nat → Int × Int) (n k : Nat) (h : k < n) : ((narrowAt f n k).set (k * 2) (.int .i64 (f k).1)).set (k * 2 + 1) (.int .i64 (f k).2) = narrowAt f n (k + 1) := by
  unfold narrowAt
  apply List.ext_getElem
  · simp
  · intro i h1 h2
    rw [List.getElem_set, List.getElem_set]
    by_cases e : k * 2 + 1 = i
    · subst e
      have a : (k * 2 + 1) / 2 = k := by omega
      have b : (k * 2 + 1) % 2 = 1 := by omega
      simp [a, b]
    · rw [if_neg e]
      by_cases e' : k * 2 = i
      · subst e'
        have a : k * 2 / 2 = k := by omega
        have b : k * 2 % 2 = 0 := by omega
        simp [a, b]
      · rw [if_neg e']
        have : (i / 2 < k + 1) ↔ (i / 2 < k) := by omega
        simp [this]
theorem narrowAt_get (f : Nat → Int × Int) (n k : Nat) (h : k < n) : (narrowAt f n k)[k * 2]? = some (.int .i64 0) ∧ (narrowAt f n k)[k * 2 + 1]? = some (.int .i64 0) := by
  unfold narrowAt
  have a : ¬ k * 2 / 2 < k := by omega
  have b : ¬ (k * 2 + 1) / 2 < k := by omega
  constructor
  · rw [List.getElem?_map, List.getElem?_range (by omega)]; simp [a]
  · rw [List.getElem?_map, List.getElem?_range (by omega)]; simp [b]

set_option maxRecDepth 100000 in
set_option maxHeartbeats 3200000 in
theorem balance_good (rs : List (Int × Int)) (a : Option Addr) (cap : Nat) (wl wh TL TH SL SH : Int) (w : World) (hc : Hid (BalCond rs wl wh 0 true true true)) (hl : rs.length ≤ 100) (h : Hid (IsPairs w a rs))
    (hT : Hid (∀ W, IsPairs W a rs → Calls Try.prog 88 #[.slice a rs.length cap] W fun e w' => e = .returned (.agg #[.int .i64 TL, .int .i64 TH]) ∧ Below W.heap.size W w')) (hS1 : Hid (max TL wl = SL)) (hS2 : Hid (min TH wh = SH)) (hd : Hid (decide (SL ≤ SH) = true)) (hSb : Hid (-1000000000000000000 ≤ SL ∧ SL ≤ 1000000000000000000 ∧ -1000000000000000000 ≤ SH ∧ SH ≤ 1000000000000000000)) (f : Nat → Int × Int)
    (hr : Hid (∀ k, k < rs.length → -1000000000000000 ≤ (rs.getD k (0, 0)).1 ∧ (rs.getD k (0, 0)).1 ≤ 1000000000000000 ∧ -1000000000000000 ≤ (rs.getD k (0, 0)).2 ∧ (rs.getD k (0, 0)).2 ≤ 1000000000000000))
    (hw : Hid (-1000000000000000 ≤ wl ∧ wl ≤ 1000000000000000 ∧ -1000000000000000 ≤ wh ∧ wh ≤ 1000000000000000)) (hTb : Hid (-1000000000000000000 ≤ TL ∧ TL ≤ 1000000000000000000 ∧ -1000000000000000000 ≤ TH ∧ TH ≤ 1000000000000000000))
    (hf : Hid (∀ k, k < rs.length → f k = (max (rs.getD k (0, 0)).1 (SL - (TH - (rs.getD k (0, 0)).2)), min (rs.getD k (0, 0)).2 (SH - (TL - (rs.getD k (0, 0)).1))))) :
    Calls Try.prog 46 #[.slice a rs.length cap, .agg #[.int .i64 wl, .int .i64 wh]] w fun e w' => ∃ g, e = .returned (.tuple #[.slice (some ⟨g, 0, none⟩) rs.length rs.length, .agg #[.int .i64 SL, .int .i64 SH], .int .i64 0]) ∧ w'.ownsRow w.heap.size 46 2 (.slice (some ⟨g, 0, none⟩) rs.length rs.length) rs.length (narrowAt f rs.length rs.length) ∧ Below w.heap.size w w' := by
  obtain ⟨ti, hi, hz0, hz1, hz2⟩ := info_parts range_info
  have m1 := hide (show ti.bytes * rs.length ≤ 281474976710656 by rw [hz2]; omega)
  have m2 := hide (show rs.length ≤ maxLen by unfold maxLen; omega)
  have HI := hide hi
  have HZ0 := hide hz0
  have HZ1 := hide hz1
  clear hi hz0 hz1 hz2
  go_enter Try.func46, Try.ntmps46
  go_upto_region 1 with fail
  go_cut [6] (fun s6 wx => s6 = .int .i64 0 ∧ (wx.cell? ⟨w.heap.size, 0, none⟩ = some (.int .i64 wl) ∧ wx.cell? ⟨w.heap.size, 1, none⟩ = some (.int .i64 wh)) ∧ (CF wx ⟨w.heap.size + 1, 0, none⟩ (.int .i64 0) ∧ CF wx ⟨w.heap.size + 1, 1, none⟩ (.int .i64 0)) ∧ Below w.heap.size w wx)
  case first =>
    have tok1 : True := trivial
    go_region_held3 (fun w' => w'.cell? ⟨w.heap.size, 0, none⟩ = some (.int .i64 wl) ∧ w'.cell? ⟨w.heap.size, 1, none⟩ = some (.int .i64 wh))
      (first | (refine ⟨?_, ?_⟩ <;> simp [go_sem, World.cell?_alloc_past]; done) | (go_split_ands; first | (exact ⟨later hbD (by assumption), later hbD (by assumption)⟩) | (exact ⟨later hbC (by assumption), later hbC (by assumption)⟩) | (exact ⟨later hbB (by assumption), later hbB (by assumption)⟩) | (exact ⟨later hbA (by assumption), later hbA (by assumption)⟩)) | (go_split_ands; exact ⟨later (balloc (Below.refl _ _)) (by assumption), later (balloc (Below.refl _ _)) (by assumption)⟩) | go_keep)
      (first
        | (go_at_call 81; refine (atMost_ex true _ _ _ hc.out.1).mono ?_; rintro e wA ⟨rfl, hA, hbA⟩; (try simp at hA))
        | (go_at_call 86; have _t := tok1; refine (validRanges_ex true a cap rs.length rs _ hc.out.2.1 rfl (by omega) (pairs_later h.out (by repeat (first | exact Below.refl _ _ | assumption | apply balloc | apply bdrew | (refine bnext ?_ (by assumption)))))).mono ?_; rintro e wB ⟨rfl, hB, hbB⟩; clear tok1 _t; (try simp at hB))
        | (go_at_call 86; refine (validRanges_ex true _ 1 1 [(wl, wh)] _ hc.out.2.2.1 rfl (by simp) (pairs_one_of (by repeat (first | (simp [go_sem, World.cell?_alloc_past]; done) | refine later hbD ?_ | refine later hbC ?_ | refine later hbB ?_ | refine later hbA ?_ | refine later (balloc (Below.refl _ _)) ?_)) (by repeat (first | (simp [go_sem, World.cell?_alloc_past]; done) | refine later hbD ?_ | refine later hbC ?_ | refine later hbB ?_ | refine later hbA ?_ | refine later (balloc (Below.refl _ _)) ?_)))).mono ?_; rintro e wC ⟨rfl, hC, hbC⟩; (try simp at hC))
        | (go_at_call 67; go_loud (refine (firstError_is 0 [⟨5, 114, _, true⟩, ⟨2, 114, _, true⟩, ⟨2, 114, _, true⟩] _ _ _ (hc.out.2.2.2 _ _ _ _ _ _) (by simp) (by simp) (cnds_three_at (by simp)) (tells_three (cnd_later hA (by repeat (first | exact Below.refl _ _ | assumption | apply balloc | apply bdrew | (refine bnext ?_ (by assumption))))) (fun _ => cnd_later hB (by repeat (first | exact Below.refl _ _ | assumption | apply balloc | apply bdrew | (refine bnext ?_ (by assumption))))) (fun _ _ => cnd_later hC (by repeat (first | exact Below.refl _ _ | assumption | apply balloc | apply bdrew | (refine bnext ?_ (by assumption))))))).mono ?_); rintro e wD ⟨rfl, hbD⟩))
    all_goals (go_wp2_with fail; go_meet; exact ⟨rfl, ⟨(by repeat (first | (simp [go_sem, World.cell?_alloc_past]; done) | refine later hbD ?_ | refine later hbC ?_ | refine later hbB ?_ | refine later hbA ?_ | refine later (balloc (Below.refl _ _)) ?_)), (by repeat (first | (simp [go_sem, World.cell?_alloc_past]; done) | refine later hbD ?_ | refine later hbC ?_ | refine later hbB ?_ | refine later hbA ?_ | refine later (balloc (Below.refl _ _)) ?_))⟩, ⟨(by repeat (first | (refine ⟨?_, ?_⟩ <;> (simp [go_sem, World.cell?_alloc_past]; done)) | refine cf_later hbD ?_ | refine cf_later hbC ?_ | refine cf_later hbB ?_ | refine cf_later hbA ?_ | refine cf_later (balloc (Below.refl _ _)) ?_)), (by repeat (first | (refine ⟨?_, ?_⟩ <;> (simp [go_sem, World.cell?_alloc_past]; done)) | refine cf_later hbD ?_ | refine cf_later hbC ?_ | refine cf_later hbB ?_ | refine cf_later hbA ?_ | refine cf_later (balloc (Below.refl _ _)) ?_))⟩, (by repeat (first | exact Below.refl _ _ | assumption | apply balloc | apply bdrew | (refine bnext ?_ (by assumption))))⟩)
  case rest =>
    have X := fun W => common_any TL TH wl wh W
    rw [hS1.out, hS2.out, hd.out] at X
    have X' := hide X
    clear X
    obtain ⟨rfl, ⟨c0, c1⟩, ⟨⟨c4, f4⟩, c5, f5⟩, hbw⟩ := hcut
    go_wp2_with fail
    refine (hT.out _ (pairs_later h.out hbw)).mono ?_
    rintro e w2 ⟨rfl, hb2⟩
    have d0 := later hb2 c0
    have d1 := later hb2 c1
    have ⟨d4, g4⟩ := cf_later hb2 ⟨c4, f4⟩
    have ⟨d5, g5⟩ := cf_later hb2 ⟨c5, f5⟩
    have z0 := World.block_lt_of_cell? _ _ d0
    have z4 := World.block_lt_of_cell? _ _ d4
    simp only at z0 z4
    have hbw2 := bnext hbw hb2
    clear c0 c1 c4 f4 c5 f5 hbw hb2
    go_wp2_with fail
    refine (X'.out _).mono ?_
    rintro e w3 ⟨rfl, hb3⟩
    have ⟨e4, k4⟩ := cf_later hb3 (cf_later (balloc (Below.refl _ _)) ⟨d4, g4⟩)
    have ⟨e5, k5⟩ := cf_later hb3 (cf_later (balloc (Below.refl _ _)) ⟨d5, g5⟩)
    have y1 := two_set (x := .int .i64 SL) (y := .int .i64 SH) e4 e5
    have v4 : ((w3.setCell ⟨w.heap.size + 1, 0, none⟩ (.int .i64 SL)).setCell ⟨w.heap.size + 1, 1, none⟩ (.int .i64 SH)).frozen? ⟨w.heap.size + 1, 0, none⟩ = false := by simp [go_sem, k4]
    have v5 : ((w3.setCell ⟨w.heap.size + 1, 0, none⟩ (.int .i64 SL)).setCell ⟨w.heap.size + 1, 1, none⟩ (.int .i64 SH)).frozen? ⟨w.heap.size + 1, 1, none⟩ = false := by simp [go_sem, k5]
    have q0 := later hb3 (a := ⟨w2.heap.size, 0, none⟩) (v := .int .i64 TL) (by simp [go_sem, World.cell?_alloc_past])
    have q1 := later hb3 (a := ⟨w2.heap.size, 1, none⟩) (v := .int .i64 TH) (by simp [go_sem, World.cell?_alloc_past])
    have Tq : Touch (w.heap.size + 1) w3 ((w3.setCell ⟨w.heap.size + 1, 0, none⟩ (.int .i64 SL)).setCell ⟨w.heap.size + 1, 1, none⟩ (.int .i64 SH)) := (by repeat (first | exact Touch.refl _ _ | assumption | (refine tset ?_ (by rfl) _) | apply talloc | apply tdrew | (refine tnext ?_ (by assumption)) | (refine Touch.trans ?_ (by assumption))))
    have q0' := Tq.cell (by simp; omega) q0
    have q1' := Tq.cell (by simp; omega) q1
    have hbw3 := Tq.below (bnext (balloc hbw2) hb3) (by omega)
    have Y1 := hide y1
    have V4 := hide v4
    have V5 := hide v5
    have zq := World.block_lt_of_cell? _ _ q0
    have zs := World.block_lt_of_cell? _ _ e4
    simp only at zq zs
    have Q0 := hide q0'
    have Q1 := hide q1'
    have zg := hide hbw3.size
    clear y1 v4 v5 q0 q1 q0' q1' Tq
    go_wp2_with (at_make; refine wpList_make_full _ rfl (.tmp 39) (.tmp 39) 43 rfl w.heap.size 46 ti (.agg #[.int .i64 0, .int .i64 0]) 2 Try.underlying43 HI.out HZ0.out HZ1.out .i64 .i64 _ _ rs.length rfl rfl rfl rfl m1.out m2.out zg.out ?_; intro w5 hown hgrow; rw [sz_set, sz_set] at hown; have hb5 := (Below.refl _ _).grown hgrow (Nat.le_refl _) (fun k hk => by cases hk); have Hown := hide hown; have Hb5 := hide hb5; clear hown hgrow hb5)
    have B5 := hbw3.trans (Hb5.out.mono zg.out)
    clear hbw3
    go_loopw [43] (fun i wr => ∃ k : Nat, k ≤ rs.length ∧ i = .int .i64 (k : Int) ∧ (CF wr ⟨w.heap.size + 1, 0, none⟩ (.int .i64 SL) ∧ CF wr ⟨w.heap.size + 1, 1, none⟩ (.int .i64 SH)) ∧ (wr.cell? ⟨w2.heap.size, 0, none⟩ = some (.int .i64 TL) ∧ wr.cell? ⟨w2.heap.size, 1, none⟩ = some (.int .i64 TH)) ∧
      wr.ownsRow w.heap.size 46 2 (.slice (some ⟨w3.heap.size, 0, none⟩) rs.length rs.length) rs.length (narrowAt f rs.length k) ∧ Below w.heap.size w wr) (fun i _ => rs.length - (intOf i).toNat)
    case atStart => exact ⟨0, by omega, rfl, ⟨⟨later Hb5.out Y1.out.1, free_later Hb5.out Y1.out.1 V4.out⟩, later Hb5.out Y1.out.2, free_later Hb5.out Y1.out.2 V5.out⟩, ⟨later Hb5.out Q0.out, later Hb5.out Q1.out⟩, by rw [← narrowAt_zero]; exact Hown.out, B5⟩
    case round =>
      clear B5 Hown Hb5 Y1 V4 V5 Q0 Q1
      obtain ⟨k, hk, rfl, ⟨⟨s0, u0⟩, s1, u1⟩, ⟨q0, q1⟩, hown, hbw⟩ := hrel
      by_cases hlt : k < rs.length
      · obtain ⟨b, off, rfl, hcc⟩ : ∃ b off, a = some ⟨b, off, none⟩ ∧ ∀ i, i < rs.length → wr.cell? ⟨b, off + i * 2, none⟩ = some (.int .i64 (rs.getD i (0, 0)).1) ∧ wr.cell? ⟨b, off + i * 2 + 1, none⟩ = some (.int .i64 (rs.getD i (0, 0)).2) := by
          rcases pairs_later h.out hbw with h | h
          · subst h; simp at hlt
          · exact h
        obtain ⟨p1, p2⟩ := hcc k hlt
        clear hcc
        obtain ⟨x1, x2, x3, x4⟩ := hr.out k hlt
        obtain ⟨t1, t2, t3, t4⟩ := hTb.out
        obtain ⟨t5, t6, t7, t8⟩ := hSb.out
        have hfk := hf.out k hlt
        have HFk := hide hfk
        have Hown := hide hown
        clear hfk hown
        generalize rs.getD k (0, 0) = z at *
        obtain ⟨x, y⟩ := z
        simp only at p1 p2 x1 x2 x3 x4 HFk
        have zq0 := World.block_lt_of_cell? _ _ q0
        have zs0 := World.block_lt_of_cell? _ _ s0
        simp only at zq0 zs0
        have zw : w.heap.size < wr.heap.size := by omega
        go_wp2_with fail
        refine (common_any x y _ _ _).mono ?_
        rintro e w6 ⟨rfl, hb6⟩
        have B6 : Below wr.heap.size wr w6 := (by repeat (first | exact Below.refl _ _ | assumption | apply balloc | apply bdrew | (refine bnext ?_ (by assumption))))
        have n6 := owns_later Hown.out B6
        have j0 := n6.cellAt (k * 2) (by omega)
        have j1 := n6.cellAt (k * 2 + 1) (by omega)
        rw [(narrowAt_get f rs.length k hlt).1] at j0
        rw [(narrowAt_get f rs.length k hlt).2] at j1
        have j2 := n6.frozenAt (k * 2)
        have j3 := n6.frozenAt (k * 2 + 1)
        have n7 := ((n6.stored (k * 2) (.int .i64 (f k).1)).1.stored (k * 2 + 1) (.int .i64 (f k).2)).1
        rw [narrowAt_set f rs.length k hlt] at n7
        rw [HFk.out] at n7
        simp only at n7
        have N7 := hide n7
        have Tg := hide (show Touch w3.heap.size w6 ((w6.setCell ⟨w3.heap.size, k * 2, none⟩ (.int .i64 (max x (SL - (TH - y))))).setCell ⟨w3.heap.size, k * 2 + 1, none⟩ (.int .i64 (min y (SH - (TL - x))))) from (by repeat (first | exact Touch.refl _ _ | assumption | (refine tset ?_ (by rfl) _) | apply talloc | apply tdrew | (refine tnext ?_ (by assumption)) | (refine Touch.trans ?_ (by assumption)))))
        have a0 := hide (cf_later B6 ⟨s0, u0⟩)
        have a1 := hide (cf_later B6 ⟨s1, u1⟩)
        have a2 := hide (later B6 q0)
        have a3 := hide (later B6 q1)
        have B7 := hide (bnext hbw B6)
        clear s0 u0 s1 u1 q0 q1 B6 n6 n7 Hown
        generalize max x (SL - (TH - y)) = mx at *
        generalize min y (SH - (TL - x)) = mn at *
        go_wp2_with fail
        go_roundw
        case rel => exact ⟨k + 1, by omega, by go_num, ⟨cf_touch Tg.out (by simp; omega) a0.out, cf_touch Tg.out (by simp; omega) a1.out⟩, ⟨Tg.out.cell (by simp; omega) a2.out, Tg.out.cell (by simp; omega) a3.out⟩, N7.out, Tg.out.below B7.out (by omega)⟩
        case measure => simp [intOf]; omega
      · obtain rfl : k = rs.length := by omega
        have O1 := hide ((ownsRow_setCell_other (ownsRow_setCell_other hown (a := ⟨w.heap.size + 1, 0, none⟩) (by simp [Value.ownBlock]; omega) (.int .i64 SL)) (a := ⟨w.heap.size + 1, 1, none⟩) (by simp [Value.ownBlock]; omega) (.int .i64 SH)).drew)
        have y1 := hide (two_set (x := .int .i64 SL) (y := .int .i64 SH) s0 s1)
        have B9 := hide (bdrew (bset (bset hbw (p := ⟨w.heap.size + 1, 0, none⟩) (by simp) (.int .i64 SL)) (p := ⟨w.heap.size + 1, 1, none⟩) (by simp) (.int .i64 SH)))
        clear hown hbw
        go_wp2_with fail
        go_region
        go_wp2
        have Y1 := y1.out
        exact bodyPost_ret (v := .tuple #[.slice (some ⟨w3.heap.size, 0, none⟩) rs.length rs.length, .agg #[.int .i64 SL, .int .i64 SH], .int .i64 0]) (by simp [results, Try.results46, go_sem, Y1.1, Y1.2]) rfl ⟨w3.heap.size, rfl, O1.out, B9.out⟩

end Go.Proofs.Ytadnchcelocnaaa
