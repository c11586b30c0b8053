/-
  DefectAnneals: the walk.
-/
import Derived.Test.YtlpdbjkpgfpjjaaGreatAnA
import Derived.Test.YtlpdbjkpgfpjjaaGreatDgK
namespace Go.Proofs.YtlpdbjkpgfpjjaaGreat
set_option linter.unusedSimpArgs false
set_option linter.unusedVariables false
open Go.RowKit

set_option maxRecDepth 100000 in
set_option maxHeartbeats 6400000 in
theorem defectAnneals_many (x y s : Int) (n : Nat) (a : Option Addr) (cap : Nat) (w : World) (hn : 40 < n) :
    Calls Tryz.prog 8 #[.slice a n cap, .agg #[.int .i64 x, .int .i64 y], .int .u8 s] w fun e w' => e = .returned (.bool true) ∧ Below w.heap.size w w' := by
  have d : (40 : Int) < (n : Int) := by omega
  go_enter Tryz.func8, Tryz.ntmps8
  go_wp2_with fail
  refine (known5_any _).mono ?_
  rintro e w1 ⟨rfl, hb1⟩
  go_wp2_with fail
  go_ret
  exact ⟨rfl, (by repeat (first | exact Below.refl _ _ | assumption | apply balloc | apply bdrew | (refine below_drewN ?_ _) | (refine bset ?_ (by first | (simp; done) | omega | (simp; omega)) _) | (refine bnext ?_ (by assumption))))⟩
set_option maxRecDepth 100000 in
set_option maxHeartbeats 6400000 in
theorem defectAnneals_go (x y s A B C D E : Int) (n : Nat) (hs : List Heat) (a : Option Addr) (cap : Nat) (w : World) (hn : ¬ 40 < n) (HL : Hid (n = hs.length)) (NIL : Hid (a = none → cap = 0 ∧ hs = []))
    (h : Hid (IsHeats w a hs))
    (AN : Hid (∀ W b c, IsHeats W b hs → Calls Tryz.prog 40 #[.slice b n c, .agg #[.int .i64 x, .int .i64 y], .int .u8 s] W fun e w' => e = .returned (.tuple #[.agg #[.int .i64 A, .int .i64 B], .agg #[.int .i64 C, .int .i64 D], .int .i64 E]) ∧ Below W.heap.size W w'))
    (RN : Hid (∀ W b c, IsHeats W b hs → Calls Tryz.prog 41 #[.slice b n c, .agg #[.int .i64 x, .int .i64 y], .int .u8 s] W fun e w' => e = .returned (.tuple #[.agg #[.int .i64 A, .int .i64 B], .agg #[.int .i64 C, .int .i64 D], .int .i64 E]) ∧ Below W.heap.size W w')) :
    Calls Tryz.prog 8 #[.slice a n cap, .agg #[.int .i64 x, .int .i64 y], .int .u8 s] w fun e w' => e = .returned (.bool true) ∧ Below w.heap.size w w' := by
  have d : ¬ (40 : Int) < (n : Int) := by omega
  have LL := hide hn
  clear hn
  go_enter Tryz.func8, Tryz.ntmps8
  go_upto_region 3 with fail
  obtain ⟨w0, hw0⟩ : ∃ z, z = w.alloc (.cells #[.int .i64 x, .int .i64 y] 23) := ⟨_, rfl⟩
  rw [← hw0]
  have B0 := hide (show Below w.heap.size w w0 by rw [hw0]; exact (by repeat (first | exact Below.refl _ _ | assumption | apply balloc | apply bdrew | (refine below_drewN ?_ _) | (refine bset ?_ (by first | (simp; done) | omega | (simp; omega)) _) | (refine bnext ?_ (by assumption)))))
  have R0 := hide (show RgAt w0 w.heap.size x y by rw [hw0]; exact ⟨(by simp [go_sem, World.cell?_alloc_past]), (by simp [go_sem, World.cell?_alloc_past])⟩)
  have H0 := hide (show IsHeats w0 a hs by rw [hw0]; exact heats_later h.out (balloc (Below.refl _ _)))
  clear hw0 h
  have KP := hide (fun (W : World) (hb : Below w0.heap.size w0 W) => (show (W.cell? ⟨w.heap.size, 0, none⟩ = some (.int .i64 x) ∧ W.cell? ⟨w.heap.size, 1, none⟩ = some (.int .i64 y)) ∧ Below w0.heap.size w0 W from
    ⟨⟨later hb R0.out.1, later hb R0.out.2⟩, hb⟩))
  go_cut [7, 8, 9] from 17 to 26 (fun s7 s8 s9 wx => ∃ p q, s7 = .pointer (some ⟨p, 0, none⟩) ∧ s8 = .pointer (some ⟨q, 0, none⟩) ∧ s9 = .int .i64 E ∧ TF wx p A B ∧ TF wx q C D ∧ (w0.heap.size ≤ p ∧ w0.heap.size ≤ q) ∧ Below w0.heap.size w0 wx)
  case first =>
    as_aux_lemma =>
    clear RN
    go_region_held3 (fun W => (W.cell? ⟨w.heap.size, 0, none⟩ = some (.int .i64 x) ∧ W.cell? ⟨w.heap.size, 1, none⟩ = some (.int .i64 y)) ∧ Below w0.heap.size w0 W)
      ((go_split_ands; refine KP.out _ ?_; exact (by repeat (first | exact Below.refl _ _ | assumption | apply balloc | apply bdrew | (refine below_drewN ?_ _) | (refine bset ?_ (by first | (simp; done) | omega | (simp; omega)) _) | (refine bnext ?_ (by assumption))))))
      (first | (go_at_call 40; refine (AN.out _ _ _ (by first | exact hAp | exact heats_later hAp (by repeat (first | exact Below.refl _ _ | assumption | apply balloc | apply bdrew | (refine below_drewN ?_ _) | (refine bset ?_ (by first | (simp; done) | omega | (simp; omega)) _) | (refine bnext ?_ (by assumption)))))).mono ?_; rintro e wB ⟨rfl, hbB⟩; obtain ⟨⟨hcB, hfB⟩, ⟨hcB2, hfB2⟩, hcB3, hfB3, ⟨hnB1, hnB2, hnB3, hnB4⟩, ⟨hlB1, hlB2, hlB3, hlB4, hlB5⟩, hsB⟩ := bcellR hbB; (try simp at hsB); (try have zB1 := hcB w0.heap.size 0 (by first | (simp; done) | omega | (simp; omega))); (try have zB2 := hfB w0.heap.size 0 (by first | (simp; done) | omega | (simp; omega))); (try have zB3 := hcB w0.heap.size 1 (by first | (simp; done) | omega | (simp; omega))); (try have zB4 := hfB w0.heap.size 1 (by first | (simp; done) | omega | (simp; omega))); (try have zB5 := hcB (w0.heap.size + 1) 0 (by first | (simp; done) | omega | (simp; omega))); (try have zB6 := hfB (w0.heap.size + 1) 0 (by first | (simp; done) | omega | (simp; omega))); (try have zB7 := hcB (w0.heap.size + 1) 1 (by first | (simp; done) | omega | (simp; omega))); (try have zB8 := hfB (w0.heap.size + 1) 1 (by first | (simp; done) | omega | (simp; omega))); (try have zB9 := hcB (w0.heap.size + 1 + 1) 0 (by first | (simp; done) | omega | (simp; omega))); (try have zB10 := hfB (w0.heap.size + 1 + 1) 0 (by first | (simp; done) | omega | (simp; omega))); (try have zB11 := hcB (w0.heap.size + 1 + 1) 1 (by first | (simp; done) | omega | (simp; omega))); (try have zB12 := hfB (w0.heap.size + 1 + 1) 1 (by first | (simp; done) | omega | (simp; omega))); (try have yBa1 := fun x => hcB2 w0.heap.size 0 x (by first | (simp; done) | omega | (simp; omega))); (try have yBb1 := fun x => hfB2 w0.heap.size 0 x (by first | (simp; done) | omega | (simp; omega))); (try have yBa2 := fun x => hcB2 w0.heap.size 1 x (by first | (simp; done) | omega | (simp; omega))); (try have yBb2 := fun x => hfB2 w0.heap.size 1 x (by first | (simp; done) | omega | (simp; omega))); (try have yBc2 := hnB1 w0.heap.size (by first | (simp; done) | omega | (simp; omega))); (try have yBd2 := hnB2 w0.heap.size (by first | (simp; done) | omega | (simp; omega))); (try have yBe2 := hlB1 w0.heap.size (by first | (simp; done) | omega | (simp; omega))); (try have yBa3 := fun x => hcB2 (w0.heap.size + 1) 0 x (by first | (simp; done) | omega | (simp; omega))); (try have yBb3 := fun x => hfB2 (w0.heap.size + 1) 0 x (by first | (simp; done) | omega | (simp; omega))); (try have yBa4 := fun x => hcB2 (w0.heap.size + 1) 1 x (by first | (simp; done) | omega | (simp; omega))); (try have yBb4 := fun x => hfB2 (w0.heap.size + 1) 1 x (by first | (simp; done) | omega | (simp; omega))); (try have yBc4 := hnB1 (w0.heap.size + 1) (by first | (simp; done) | omega | (simp; omega))); (try have yBd4 := hnB2 (w0.heap.size + 1) (by first | (simp; done) | omega | (simp; omega))); (try have yBe4 := hlB1 (w0.heap.size + 1) (by first | (simp; done) | omega | (simp; omega))); (try have yBa5 := fun x => hcB2 (w0.heap.size + 1 + 1) 0 x (by first | (simp; done) | omega | (simp; omega))); (try have yBb5 := fun x => hfB2 (w0.heap.size + 1 + 1) 0 x (by first | (simp; done) | omega | (simp; omega))); (try have yBa6 := fun x => hcB2 (w0.heap.size + 1 + 1) 1 x (by first | (simp; done) | omega | (simp; omega))); (try have yBb6 := fun x => hfB2 (w0.heap.size + 1 + 1) 1 x (by first | (simp; done) | omega | (simp; omega))); (try have yBc6 := hnB1 (w0.heap.size + 1 + 1) (by first | (simp; done) | omega | (simp; omega))); (try have yBd6 := hnB2 (w0.heap.size + 1 + 1) (by first | (simp; done) | omega | (simp; omega))); (try have yBe6 := hlB1 (w0.heap.size + 1 + 1) (by first | (simp; done) | omega | (simp; omega)))) | (refine step_heats rfl (.tmp 18) (.tmp 19) rfl _ (by rfl) _ _ _ _ HL.out (by rfl) NIL.out (by have := LL.out; have := HL.out; omega) (heats_later H0.out (by repeat (first | exact Below.refl _ _ | assumption | apply balloc | apply bdrew | (refine below_drewN ?_ _) | (refine bset ?_ (by first | (simp; done) | omega | (simp; omega)) _) | (refine bnext ?_ (by assumption))))) ?_; intro b' c' wA hAp hbA; obtain ⟨⟨hcA, hfA⟩, ⟨hcA2, hfA2⟩, hcA3, hfA3, ⟨hnA1, hnA2, hnA3, hnA4⟩, ⟨hlA1, hlA2, hlA3, hlA4, hlA5⟩, hsA⟩ := bcellR hbA; (try simp at hsA); (try have zA1 := hcA w0.heap.size 0 (by first | (simp; done) | omega | (simp; omega))); (try have zA2 := hfA w0.heap.size 0 (by first | (simp; done) | omega | (simp; omega))); (try have zA3 := hcA w0.heap.size 1 (by first | (simp; done) | omega | (simp; omega))); (try have zA4 := hfA w0.heap.size 1 (by first | (simp; done) | omega | (simp; omega))); (try have zA5 := hcA (w0.heap.size + 1) 0 (by first | (simp; done) | omega | (simp; omega))); (try have zA6 := hfA (w0.heap.size + 1) 0 (by first | (simp; done) | omega | (simp; omega))); (try have zA7 := hcA (w0.heap.size + 1) 1 (by first | (simp; done) | omega | (simp; omega))); (try have zA8 := hfA (w0.heap.size + 1) 1 (by first | (simp; done) | omega | (simp; omega))); (try have zA9 := hcA (w0.heap.size + 1 + 1) 0 (by first | (simp; done) | omega | (simp; omega))); (try have zA10 := hfA (w0.heap.size + 1 + 1) 0 (by first | (simp; done) | omega | (simp; omega))); (try have zA11 := hcA (w0.heap.size + 1 + 1) 1 (by first | (simp; done) | omega | (simp; omega))); (try have zA12 := hfA (w0.heap.size + 1 + 1) 1 (by first | (simp; done) | omega | (simp; omega))); (try have yAa1 := fun x => hcA2 w0.heap.size 0 x (by first | (simp; done) | omega | (simp; omega))); (try have yAb1 := fun x => hfA2 w0.heap.size 0 x (by first | (simp; done) | omega | (simp; omega))); (try have yAa2 := fun x => hcA2 w0.heap.size 1 x (by first | (simp; done) | omega | (simp; omega))); (try have yAb2 := fun x => hfA2 w0.heap.size 1 x (by first | (simp; done) | omega | (simp; omega))); (try have yAc2 := hnA1 w0.heap.size (by first | (simp; done) | omega | (simp; omega))); (try have yAd2 := hnA2 w0.heap.size (by first | (simp; done) | omega | (simp; omega))); (try have yAe2 := hlA1 w0.heap.size (by first | (simp; done) | omega | (simp; omega))); (try have yAa3 := fun x => hcA2 (w0.heap.size + 1) 0 x (by first | (simp; done) | omega | (simp; omega))); (try have yAb3 := fun x => hfA2 (w0.heap.size + 1) 0 x (by first | (simp; done) | omega | (simp; omega))); (try have yAa4 := fun x => hcA2 (w0.heap.size + 1) 1 x (by first | (simp; done) | omega | (simp; omega))); (try have yAb4 := fun x => hfA2 (w0.heap.size + 1) 1 x (by first | (simp; done) | omega | (simp; omega))); (try have yAc4 := hnA1 (w0.heap.size + 1) (by first | (simp; done) | omega | (simp; omega))); (try have yAd4 := hnA2 (w0.heap.size + 1) (by first | (simp; done) | omega | (simp; omega))); (try have yAe4 := hlA1 (w0.heap.size + 1) (by first | (simp; done) | omega | (simp; omega))); (try have yAa5 := fun x => hcA2 (w0.heap.size + 1 + 1) 0 x (by first | (simp; done) | omega | (simp; omega))); (try have yAb5 := fun x => hfA2 (w0.heap.size + 1 + 1) 0 x (by first | (simp; done) | omega | (simp; omega))); (try have yAa6 := fun x => hcA2 (w0.heap.size + 1 + 1) 1 x (by first | (simp; done) | omega | (simp; omega))); (try have yAb6 := fun x => hfA2 (w0.heap.size + 1 + 1) 1 x (by first | (simp; done) | omega | (simp; omega))); (try have yAc6 := hnA1 (w0.heap.size + 1 + 1) (by first | (simp; done) | omega | (simp; omega))); (try have yAd6 := hnA2 (w0.heap.size + 1 + 1) (by first | (simp; done) | omega | (simp; omega))); (try have yAe6 := hlA1 (w0.heap.size + 1 + 1) (by first | (simp; done) | omega | (simp; omega)))))
    all_goals
      go_wp2_with fail
      go_meet
      refine ⟨_, _, rfl, rfl, rfl, ⟨?_, ?_, ?_, ?_⟩, ⟨?_, ?_, ?_, ?_⟩, ⟨?_, ?_⟩, ?_⟩
      rotate_left 8
      · have sA := hbA.size; have sB := hbB.size; (try simp at sA); (try simp at sB); first | omega | (simp; done) | (simp <;> omega)
      · have sA := hbA.size; have sB := hbB.size; (try simp at sA); (try simp at sB); first | omega | (simp; done) | (simp <;> omega)
      · exact (by repeat (first | exact Below.refl _ _ | exact hbA | exact hbB | apply balloc | apply bdrew | (refine bset ?_ (by first | (simp; done) | omega | (simp; omega)) _) | (refine bnext ?_ hbB) | (refine bnext ?_ hbA)))
      all_goals first | (simp [go_sem]; done) | (simp (maxDischargeDepth := 8) [go_sem, set_selfR, hcB, hfB, hcB2, hfB2, hcB3, hfB3, hnB1, hnB2, hnB3, hnB4, hlB1, hlB2, hlB3, hlB4, hlB5, hcA, hfA, hcA2, hfA2, hcA3, hfA3, hnA1, hnA2, hnA3, hnA4, hlA1, hlA2, hlA3, hlA4, hlA5]; done)
  case rest =>
    obtain ⟨p, q, rfl, rfl, rfl, hp, hq, ⟨lp, lq⟩, hb5⟩ := hcut
    obtain ⟨w5, hw5⟩ : ∃ z, wc = z := ⟨_, rfl⟩
    rw [hw5] at hp hq hb5 ⊢
    have P5 := hide hp
    have Q5 := hide hq
    have B5 := hide (bnext B0.out hb5)
    have H5 := hide (heats_later H0.out hb5)
    have ⟨r0, r1⟩ := rgAt_later R0.out hb5
    clear hp hq lp lq hb5 hw5 KP AN H0 R0
    go_wp2_with fail
    refine (RN.out _ _ _ H5.out).mono ?_
    rintro e w6 ⟨rfl, hb6⟩
    have ⟨p0, p1, _, _⟩ := tf_later P5.out hb6
    have ⟨q0, q1, _, _⟩ := tf_later Q5.out hb6
    have lp := World.block_lt_of_cell? _ _ p0
    have lq := World.block_lt_of_cell? _ _ q0
    simp only at lp lq
    have n1 : ¬ p = w6.heap.size := by omega
    have n2 : ¬ p = w6.heap.size + 1 := by omega
    have n3 : ¬ q = w6.heap.size := by omega
    have n4 : ¬ q = w6.heap.size + 1 := by omega
    have B6 := hide (bnext B5.out hb6)
    clear r0 r1 hb6 P5 Q5 B5 H5 RN
    go_wp2_with fail
    refine (known5_any _).mono ?_
    rintro e w7 ⟨rfl, hb7⟩
    go_wp2_with fail
    go_ret
    exact ⟨rfl, bnext (by repeat (first | exact B6.out | apply balloc | apply bdrew | (refine bset ?_ (by have := B6.out.size; simp <;> omega) _))) hb7⟩
theorem defectAnneals_walk (hs : List Heat) (x y s : Int) (a : Option Addr) (cap : Nat) (w : World) (hl : hs.length ≤ maxLen ∧ (a = none → cap = 0 ∧ hs = [])) (h : IsHeats w a hs) (s0 : 0 ≤ s) :
    Calls Tryz.prog 8 #[.slice a hs.length cap, .agg #[.int .i64 x, .int .i64 y], .int .u8 s] w fun e w' => e = .returned (.bool true) ∧ Below w.heap.size w w' := by
  by_cases hn : 40 < hs.length
  · exact defectAnneals_many x y s hs.length a cap w hn
  · exact defectAnneals_go x y s _ _ _ _ _ hs.length hs a cap w hn (hide rfl) (hide hl.2) (hide h) (hide fun W b c hW => anneal_any hs x y s b c W (by omega) hW) (hide fun W b c hW => refAnneal_any hs x y s b c W (by omega) hW s0)
end Go.Proofs.YtlpdbjkpgfpjjaaGreat
