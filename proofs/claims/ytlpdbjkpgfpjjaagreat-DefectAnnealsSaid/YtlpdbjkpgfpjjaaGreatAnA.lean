/-
  The reference of chapter 5: Anneal.
-/
import Derived.Test.YtlpdbjkpgfpjjaaGreatAnR
namespace Go.Proofs.YtlpdbjkpgfpjjaaGreat
set_option linter.unusedSimpArgs false
set_option linter.unusedVariables false
open Go.RowKit

/-- What has been gathered of some regions: whether there was one, what is left, what has fallen out. -/
structure Acc where
  some : Bool
  a : Int
  b : Int
  c : Int
  d : Int
def accS (p : Acc) (q1 q4 d1 d2 : Int) : Acc := ⟨true, min (if p.some then p.a else q1) q1, max (if p.some then p.b else q4) q4, min (if p.some then p.c else d1) d1, max (if p.some then p.d else d2) d2⟩
theorem tf_drew {W : World} {q : Nat} {a b : Int} (h : TF W q a b) : TF W.drew q a b := tf_later h (bdrew (Below.refl _ _))
set_option maxRecDepth 100000 in
set_option maxHeartbeats 6400000 in
theorem refAnneal_go (x y s E RA RB RC RD : Int) (n : Nat) (hs : List Heat) (a : Option Addr) (cap : Nat) (SB : Nat → Bool) (G : Nat → Acc) (Q1 Q2 Q3 Q4 : Nat → Int) (w : World)
    (h : Hid (IsHeats w a hs)) (HE : Hid (∀ W, IsHeats W a hs → Calls Tryz.prog 87 #[.slice a n cap, .agg #[.int .i64 x, .int .i64 y], .int .u8 s] W fun e w' => e = .returned (.int .i64 E) ∧ Below W.heap.size W w'))
    (hbd : Hid (E = 0 → (0 ≤ x ∧ x ≤ 1000000) ∧ (0 ≤ y ∧ y ≤ 1000000) ∧ ∀ k, (0 ≤ Q2 k ∧ Q2 k ≤ x) ∧ (0 ≤ Q3 k ∧ Q3 k ≤ y)))
    (A1 : Hid (E = 0 → ∀ (k : Nat) W, k < 5 → IsHeats W a hs → Calls Tryz.prog 88 #[.slice a n cap, .int .i64 x, .int .i64 (k : Int), .bool true] W fun e w' => e = .returned (.int .i64 (Q1 k)) ∧ Below W.heap.size W w'))
    (A2 : Hid (E = 0 → ∀ (k : Nat) W, k < 5 → IsHeats W a hs → Calls Tryz.prog 88 #[.slice a n cap, .int .i64 x, .int .i64 (k : Int), .bool false] W fun e w' => e = .returned (.int .i64 (Q2 k)) ∧ Below W.heap.size W w'))
    (A3 : Hid (E = 0 → ∀ (k : Nat) W, k < 5 → IsHeats W a hs → Calls Tryz.prog 88 #[.slice a n cap, .int .i64 y, .int .i64 (k : Int), .bool true] W fun e w' => e = .returned (.int .i64 (Q3 k)) ∧ Below W.heap.size W w'))
    (A4 : Hid (E = 0 → ∀ (k : Nat) W, k < 5 → IsHeats W a hs → Calls Tryz.prog 88 #[.slice a n cap, .int .i64 y, .int .i64 (k : Int), .bool false] W fun e w' => e = .returned (.int .i64 (Q4 k)) ∧ Below W.heap.size W w'))
    (hSB : Hid (E = 0 → ∀ k, k < 5 → (bits BinOp.and IntKind.u8 (s / 2 ^ k) 1 == 0) = !SB k)) (hG0 : Hid (G 0 = ⟨false, 0, 0, 0, 0⟩)) (hG : Hid (∀ k, G (k + 1) = if SB k then accS (G k) (Q1 k) (Q4 k) (x - Q2 k) (y - Q3 k) else G k))
    (hR : Hid (if E = 0 then (RA = (G 5).a ∧ RB = (G 5).b) ∧ (RC = (G 5).c ∧ RD = (G 5).d) else (RA = 0 ∧ RB = 0) ∧ (RC = 0 ∧ RD = 0))) :
    Calls Tryz.prog 41 #[.slice a n cap, .agg #[.int .i64 x, .int .i64 y], .int .u8 s] w fun e w' => e = .returned (.tuple #[.agg #[.int .i64 RA, .int .i64 RB], .agg #[.int .i64 RC, .int .i64 RD], .int .i64 E]) ∧ Below w.heap.size w w' := by
  go_enter Tryz.func41, Tryz.ntmps41
  go_upto_region 1 with fail
  obtain ⟨w0, hw0⟩ : ∃ z, z = ((w.alloc (.cells #[.int .i64 x, .int .i64 y] 23)).alloc (.cells #[.int .i64 0, .int .i64 0] 23)).alloc (.cells #[.int .i64 0, .int .i64 0] 23) := ⟨_, rfl⟩
  rw [← hw0]
  have B0 := hide (show Below w.heap.size w w0 by rw [hw0]; exact (by repeat (first | exact Below.refl _ _ | assumption | apply balloc | apply bdrew | (refine below_drewN ?_ _) | (refine bset ?_ (by first | (simp; done) | omega | (simp; omega)) _) | (refine bnext ?_ (by assumption)))))
  have R0 := hide (show RgAt w0 w.heap.size x y by rw [hw0]; exact ⟨(by simp [go_sem, World.cell?_alloc_past]), (by simp [go_sem, World.cell?_alloc_past])⟩)
  have U0 := hide (show TF w0 (w.heap.size + 1) 0 0 by rw [hw0]; refine ⟨?_, ?_, ?_, ?_⟩ <;> simp [go_sem])
  have V0 := hide (show TF w0 (w.heap.size + 1 + 1) 0 0 by rw [hw0]; refine ⟨?_, ?_, ?_, ?_⟩ <;> simp [go_sem])
  have I0 := hide (show IsHeats w0 a hs from heats_later h.out (by rw [hw0]; exact (by repeat (first | exact Below.refl _ _ | assumption | apply balloc | apply bdrew | (refine below_drewN ?_ _) | (refine bset ?_ (by first | (simp; done) | omega | (simp; omega)) _) | (refine bnext ?_ (by assumption))))))
  have ⟨r0, r1⟩ := R0.out
  clear hw0
  go_wp2_with fail
  refine (HE.out _ I0.out).mono ?_
  rintro e wC ⟨rfl, hbC⟩
  have BC := hide (bnext B0.out hbC)
  have RX := hide (rgAt_later R0.out hbC)
  have UC := hide (tf_later U0.out hbC)
  have VC := hide (tf_later V0.out hbC)
  have IC := hide (heats_later I0.out hbC)
  clear r0 r1 hbC R0 U0 V0 I0 B0 HE h
  have ⟨u0, u1, u2, u3⟩ := UC.out
  have ⟨v0, v1, v2, v3⟩ := VC.out
  by_cases e0 : E = 0
  · have HB := hide (hbd.out e0)
    have K1 := hide (A1.out e0)
    have K2 := hide (A2.out e0)
    have K3 := hide (A3.out e0)
    have K4 := hide (A4.out e0)
    have KS := hide (hSB.out e0)
    have HR := hide (show (RA = (G 5).a ∧ RB = (G 5).b) ∧ (RC = (G 5).c ∧ RD = (G 5).d) by have := hR.out; rwa [if_pos e0] at this)
    subst e0
    clear hR hbd A1 A2 A3 A4 hSB
    clear u0 u1 u2 u3 v0 v1 v2 v3
    go_upto_region 4 with fail
    go_cut [10, 11, 12] from 25 to 26 (fun s10 s11 s12 wx => s10 = .pointer (some ⟨wC.heap.size, 0, none⟩) ∧ s11 = .pointer (some ⟨wC.heap.size + 1, 0, none⟩) ∧ s12 = .bool false ∧ TF wx wC.heap.size 0 0 ∧ TF wx (wC.heap.size + 1) 0 0 ∧ Below wC.heap.size wC wx)
    case first =>
      go_wp2_with fail
      go_meet
      refine ⟨rfl, rfl, rfl, ⟨?_, ?_, ?_, ?_⟩, ⟨?_, ?_, ?_, ?_⟩, ?_⟩
      all_goals first | (simp [go_sem]; done) | exact (by repeat (first | exact Below.refl _ _ | assumption | apply balloc | apply bdrew | (refine below_drewN ?_ _) | (refine bset ?_ (by first | (simp; done) | omega | (simp; omega)) _) | (refine bnext ?_ (by assumption))))
    case rest =>
    obtain ⟨rfl, rfl, rfl, hx4, hy4, hb4⟩ := hcut
    obtain ⟨w4, hw4⟩ : ∃ z, wc = z := ⟨_, rfl⟩
    rw [hw4] at hx4 hy4 hb4 ⊢
    have X4 := hide hx4
    have Y4 := hide hy4
    have B4 := hide hb4
    obtain ⟨pa, hpa⟩ : ∃ z, wC.heap.size = z := ⟨_, rfl⟩
    have PA := hide hpa
    rw [hpa] at X4 Y4 ⊢
    clear hw4 hpa hx4 hy4 hb4
    go_wp2_with fail
    go_loopw [12, 13] (fun o i wr => ∃ k : Nat, k ≤ 5 ∧ i = .int .i64 (k : Int) ∧ o = .bool (G k).some ∧ TF wr pa (G k).a (G k).b ∧ TF wr (pa + 1) (G k).c (G k).d ∧ Below wC.heap.size wC wr) (fun _ i _ => 5 - (intOf i).toNat)
    case atStart => exact ⟨0, by omega, rfl, by rw [hG0.out], by rw [hG0.out]; exact X4.out, by rw [hG0.out]; exact Y4.out, B4.out⟩
    case round =>
      obtain ⟨k, hk, rfl, rfl, hX, hY, hb⟩ := hrel
      by_cases hlt : k < 5
      · have k0 : 0 ≤ (k : Int) := by omega
        have k1 : (k : Int) < 5 := by omega
        have GK := hide (hG.out k)
        have SK := KS.out k hlt
        have K1k := hide (fun W => K1.out k W hlt)
        have K2k := hide (fun W => K2.out k W hlt)
        have K3k := hide (fun W => K3.out k W hlt)
        have K4k := hide (fun W => K4.out k W hlt)
        have HBk := hide (And.intro HB.out.1 (And.intro HB.out.2.1 (HB.out.2.2 k)))
        have XK := hide hX
        have YK := hide hY
        have BK := hide hb
        obtain ⟨g', hg'⟩ : ∃ z, G (k + 1) = z := ⟨_, rfl⟩
        rw [hg'] at GK
        have GN := hide hg'
        clear hX hY hb hg'
        generalize G k = g at *
        generalize SB k = sb at *
        generalize Q1 k = q1 at *
        generalize Q2 k = q2 at *
        generalize Q3 k = q3 at *
        generalize Q4 k = q4 at *
        obtain ⟨gs, ga, gb, gc, gd⟩ := g
        simp only at XK YK GK
        cases sb with
        | false =>
          as_aux_lemma =>
          have SK' : (bits BinOp.and IntKind.u8 (s / 2 ^ k) 1 == 0) = true := SK
          have GE := hide (show g' = ⟨gs, ga, gb, gc, gd⟩ by simpa using GK.out)
          clear SK
          go_wp2_with fail
          go_roundw
          case rel => exact ⟨k + 1, by omega, by go_num, by rw [GN.out, GE.out], by rw [GN.out, GE.out]; exact XK.out, by rw [GN.out, GE.out]; exact YK.out, BK.out⟩
          case measure => simp [intOf]; omega
        | true =>
          have SK' : (bits BinOp.and IntKind.u8 (s / 2 ^ k) 1 == 0) = false := SK
          have GE := hide (show g' = accS ⟨gs, ga, gb, gc, gd⟩ q1 q4 (x - q2) (y - q3) by simpa using GK.out)
          clear SK GK
          go_upto_region 9 with fail
          have KP := hide (fun (W : World) (hb : Below wr.heap.size wr W) => (show (W.cell? ⟨w.heap.size, 0, none⟩ = some (.int .i64 x) ∧ W.cell? ⟨w.heap.size, 1, none⟩ = some (.int .i64 y)) ∧ Below wr.heap.size wr W from
            ⟨⟨later hb (later BK.out RX.out.1), later hb (later BK.out RX.out.2)⟩, hb⟩))
          go_cut [14] from 37 to 47 (fun s14 wx => ∃ p, s14 = .pointer (some ⟨p, 0, none⟩) ∧ TF wx p q1 q4 ∧ wr.heap.size ≤ p ∧ Below wr.heap.size wr wx)
          case first =>
            as_aux_lemma =>
            have KX := hide (fun W (hb : Below wr.heap.size wr W) => K1k.out W (heats_later IC.out (bnext BK.out hb)))
            have KY := hide (fun W (hb : Below wr.heap.size wr W) => K4k.out W (heats_later IC.out (bnext BK.out hb)))
            clear K1k K2k K3k K4k SK'
            go_region_held3 (fun W => (W.cell? ⟨w.heap.size, 0, none⟩ = some (.int .i64 x) ∧ W.cell? ⟨w.heap.size, 1, none⟩ = some (.int .i64 y)) ∧ Below wr.heap.size wr W)
              ((go_split_ands; refine KP.out _ ?_; exact (by repeat (first | exact Below.refl _ _ | assumption | apply balloc | apply bdrew | (refine below_drewN ?_ _) | (refine bset ?_ (by first | (simp; done) | omega | (simp; omega)) _) | (refine bnext ?_ (by assumption))))))
              (first | (go_at_call_of 88 x; refine (KX.out _ (by exact (by repeat (first | exact Below.refl _ _ | assumption | apply balloc | apply bdrew | (refine below_drewN ?_ _) | (refine bset ?_ (by first | (simp; done) | omega | (simp; omega)) _) | (refine bnext ?_ (by assumption)))))).mono ?_; first | (have hq := hbA; clear hq; rintro e wB ⟨rfl, hbB⟩; obtain ⟨⟨hcB, hfB⟩, ⟨hcB2, hfB2⟩, hcB3, hfB3, ⟨hnB1, hnB2, hnB3, hnB4⟩, ⟨hlB1, hlB2, hlB3, hlB4, hlB5⟩, hsB⟩ := bcellR hbB; (try simp at hsB); (try have zB1 := hcB wr.heap.size 0 (by first | (simp; done) | omega | (simp; omega))); (try have zB2 := hfB wr.heap.size 0 (by first | (simp; done) | omega | (simp; omega))); (try have zB3 := hcB wr.heap.size 1 (by first | (simp; done) | omega | (simp; omega))); (try have zB4 := hfB wr.heap.size 1 (by first | (simp; done) | omega | (simp; omega))); (try have zB5 := hcB (wr.heap.size + 1) 0 (by first | (simp; done) | omega | (simp; omega))); (try have zB6 := hfB (wr.heap.size + 1) 0 (by first | (simp; done) | omega | (simp; omega))); (try have zB7 := hcB (wr.heap.size + 1) 1 (by first | (simp; done) | omega | (simp; omega))); (try have zB8 := hfB (wr.heap.size + 1) 1 (by first | (simp; done) | omega | (simp; omega)))) | (rintro e wA ⟨rfl, hbA⟩; obtain ⟨⟨hcA, hfA⟩, ⟨hcA2, hfA2⟩, hcA3, hfA3, ⟨hnA1, hnA2, hnA3, hnA4⟩, ⟨hlA1, hlA2, hlA3, hlA4, hlA5⟩, hsA⟩ := bcellR hbA; (try simp at hsA); (try have zA1 := hcA wr.heap.size 0 (by first | (simp; done) | omega | (simp; omega))); (try have zA2 := hfA wr.heap.size 0 (by first | (simp; done) | omega | (simp; omega))); (try have zA3 := hcA wr.heap.size 1 (by first | (simp; done) | omega | (simp; omega))); (try have zA4 := hfA wr.heap.size 1 (by first | (simp; done) | omega | (simp; omega))); (try have zA5 := hcA (wr.heap.size + 1) 0 (by first | (simp; done) | omega | (simp; omega))); (try have zA6 := hfA (wr.heap.size + 1) 0 (by first | (simp; done) | omega | (simp; omega))); (try have zA7 := hcA (wr.heap.size + 1) 1 (by first | (simp; done) | omega | (simp; omega))); (try have zA8 := hfA (wr.heap.size + 1) 1 (by first | (simp; done) | omega | (simp; omega))))) | (go_at_call_of 88 y; refine (KY.out _ (by exact (by repeat (first | exact Below.refl _ _ | assumption | apply balloc | apply bdrew | (refine below_drewN ?_ _) | (refine bset ?_ (by first | (simp; done) | omega | (simp; omega)) _) | (refine bnext ?_ (by assumption)))))).mono ?_; first | (have hq := hbA; clear hq; rintro e wB ⟨rfl, hbB⟩; obtain ⟨⟨hcB, hfB⟩, ⟨hcB2, hfB2⟩, hcB3, hfB3, ⟨hnB1, hnB2, hnB3, hnB4⟩, ⟨hlB1, hlB2, hlB3, hlB4, hlB5⟩, hsB⟩ := bcellR hbB; (try simp at hsB); (try have zB1 := hcB wr.heap.size 0 (by first | (simp; done) | omega | (simp; omega))); (try have zB2 := hfB wr.heap.size 0 (by first | (simp; done) | omega | (simp; omega))); (try have zB3 := hcB wr.heap.size 1 (by first | (simp; done) | omega | (simp; omega))); (try have zB4 := hfB wr.heap.size 1 (by first | (simp; done) | omega | (simp; omega))); (try have zB5 := hcB (wr.heap.size + 1) 0 (by first | (simp; done) | omega | (simp; omega))); (try have zB6 := hfB (wr.heap.size + 1) 0 (by first | (simp; done) | omega | (simp; omega))); (try have zB7 := hcB (wr.heap.size + 1) 1 (by first | (simp; done) | omega | (simp; omega))); (try have zB8 := hfB (wr.heap.size + 1) 1 (by first | (simp; done) | omega | (simp; omega)))) | (rintro e wA ⟨rfl, hbA⟩; obtain ⟨⟨hcA, hfA⟩, ⟨hcA2, hfA2⟩, hcA3, hfA3, ⟨hnA1, hnA2, hnA3, hnA4⟩, ⟨hlA1, hlA2, hlA3, hlA4, hlA5⟩, hsA⟩ := bcellR hbA; (try simp at hsA); (try have zA1 := hcA wr.heap.size 0 (by first | (simp; done) | omega | (simp; omega))); (try have zA2 := hfA wr.heap.size 0 (by first | (simp; done) | omega | (simp; omega))); (try have zA3 := hcA wr.heap.size 1 (by first | (simp; done) | omega | (simp; omega))); (try have zA4 := hfA wr.heap.size 1 (by first | (simp; done) | omega | (simp; omega))); (try have zA5 := hcA (wr.heap.size + 1) 0 (by first | (simp; done) | omega | (simp; omega))); (try have zA6 := hfA (wr.heap.size + 1) 0 (by first | (simp; done) | omega | (simp; omega))); (try have zA7 := hcA (wr.heap.size + 1) 1 (by first | (simp; done) | omega | (simp; omega))); (try have zA8 := hfA (wr.heap.size + 1) 1 (by first | (simp; done) | omega | (simp; omega))))))
            all_goals
              go_wp2_with fail
              go_meet
              refine ⟨_, rfl, ⟨?_, ?_, ?_, ?_⟩, ?_, ?_⟩
              rotate_left 4
              · have sA := hbA.size; have sB := hbB.size; (try simp at sA); (try simp at sB); first | omega | (simp; done) | (simp <;> omega)
              · exact (by repeat (first | exact Below.refl _ _ | exact hbA | exact hbB | apply balloc | apply bdrew | (refine bset ?_ (by first | (simp; done) | omega | (simp; omega)) _) | (refine bnext ?_ hbB) | (refine bnext ?_ hbA)))
              all_goals first | (simp [go_sem]; done) | (simp (maxDischargeDepth := 8) [go_sem, set_selfR, hcB, hfB, hcB2, hfB2, hcB3, hfB3, hnB1, hnB2, hnB3, hnB4, hlB1, hlB2, hlB3, hlB4, hlB5, hcA, hfA, hcA2, hfA2, hcA3, hfA3, hnA1, hnA2, hnA3, hnA4, hlA1, hlA2, hlA3, hlA4, hlA5]; done)
          case rest =>
            obtain ⟨p, rfl, hp, hwp, hb5⟩ := hcut
            have P5 := hide hp
            have PW := hide hwp
            have B5 := hide hb5
            obtain ⟨w5, hw5⟩ : ∃ z, wc = z := ⟨_, rfl⟩
            rw [hw5] at P5 B5 ⊢
            clear hp hwp hb5 hw5 KP
            have KP := hide (fun (W : World) (hb : Below w5.heap.size w5 W) => (show (W.cell? ⟨w.heap.size, 0, none⟩ = some (.int .i64 x) ∧ W.cell? ⟨w.heap.size, 1, none⟩ = some (.int .i64 y)) ∧ Below w5.heap.size w5 W from
              ⟨⟨later hb (later B5.out (later BK.out RX.out.1)), later hb (later B5.out (later BK.out RX.out.2))⟩, hb⟩))
            obtain ⟨d1, hd1⟩ : ∃ d, x - q2 = d := ⟨_, rfl⟩
            obtain ⟨d2, hd2⟩ : ∃ d, y - q3 = d := ⟨_, rfl⟩
            have wd1 : IntKind.wrap .i64 (x - q2) = d1 := by rw [← hd1]; exact IntWalk.i64_in _ (by have := HBk.out; omega)
            have wd2 : IntKind.wrap .i64 (y - q3) = d2 := by rw [← hd2]; exact IntWalk.i64_in _ (by have := HBk.out; omega)
            rw [hd1, hd2] at GE
            go_upto_region 10 with fail
            go_cut [15] from 48 to 64 (fun s15 wx => ∃ q, s15 = .pointer (some ⟨q, 0, none⟩) ∧ TF wx q d1 d2 ∧ w5.heap.size ≤ q ∧ Below w5.heap.size w5 wx)
            case first =>
              as_aux_lemma =>
              have KX := hide (fun W (hb : Below w5.heap.size w5 W) => K2k.out W (heats_later IC.out (bnext (bnext BK.out B5.out) hb)))
              have KY := hide (fun W (hb : Below w5.heap.size w5 W) => K3k.out W (heats_later IC.out (bnext (bnext BK.out B5.out) hb)))
              clear K1k K2k K3k K4k SK' hd1 hd2
              go_region_held3 (fun W => (W.cell? ⟨w.heap.size, 0, none⟩ = some (.int .i64 x) ∧ W.cell? ⟨w.heap.size, 1, none⟩ = some (.int .i64 y)) ∧ Below w5.heap.size w5 W)
                ((go_split_ands; refine KP.out _ ?_; exact (by repeat (first | exact Below.refl _ _ | assumption | apply balloc | apply bdrew | (refine below_drewN ?_ _) | (refine bset ?_ (by first | (simp; done) | omega | (simp; omega)) _) | (refine bnext ?_ (by assumption))))))
                (first | (go_at_call_of 88 x; refine (KX.out _ (by exact (by repeat (first | exact Below.refl _ _ | assumption | apply balloc | apply bdrew | (refine below_drewN ?_ _) | (refine bset ?_ (by first | (simp; done) | omega | (simp; omega)) _) | (refine bnext ?_ (by assumption)))))).mono ?_; first | (have hq := hbA; clear hq; rintro e wB ⟨rfl, hbB⟩; obtain ⟨⟨hcB, hfB⟩, ⟨hcB2, hfB2⟩, hcB3, hfB3, ⟨hnB1, hnB2, hnB3, hnB4⟩, ⟨hlB1, hlB2, hlB3, hlB4, hlB5⟩, hsB⟩ := bcellR hbB; (try simp at hsB); (try have zB1 := hcB w5.heap.size 0 (by first | (simp; done) | omega | (simp; omega))); (try have zB2 := hfB w5.heap.size 0 (by first | (simp; done) | omega | (simp; omega))); (try have zB3 := hcB w5.heap.size 1 (by first | (simp; done) | omega | (simp; omega))); (try have zB4 := hfB w5.heap.size 1 (by first | (simp; done) | omega | (simp; omega))); (try have zB5 := hcB (w5.heap.size + 1) 0 (by first | (simp; done) | omega | (simp; omega))); (try have zB6 := hfB (w5.heap.size + 1) 0 (by first | (simp; done) | omega | (simp; omega))); (try have zB7 := hcB (w5.heap.size + 1) 1 (by first | (simp; done) | omega | (simp; omega))); (try have zB8 := hfB (w5.heap.size + 1) 1 (by first | (simp; done) | omega | (simp; omega)))) | (rintro e wA ⟨rfl, hbA⟩; obtain ⟨⟨hcA, hfA⟩, ⟨hcA2, hfA2⟩, hcA3, hfA3, ⟨hnA1, hnA2, hnA3, hnA4⟩, ⟨hlA1, hlA2, hlA3, hlA4, hlA5⟩, hsA⟩ := bcellR hbA; (try simp at hsA); (try have zA1 := hcA w5.heap.size 0 (by first | (simp; done) | omega | (simp; omega))); (try have zA2 := hfA w5.heap.size 0 (by first | (simp; done) | omega | (simp; omega))); (try have zA3 := hcA w5.heap.size 1 (by first | (simp; done) | omega | (simp; omega))); (try have zA4 := hfA w5.heap.size 1 (by first | (simp; done) | omega | (simp; omega))); (try have zA5 := hcA (w5.heap.size + 1) 0 (by first | (simp; done) | omega | (simp; omega))); (try have zA6 := hfA (w5.heap.size + 1) 0 (by first | (simp; done) | omega | (simp; omega))); (try have zA7 := hcA (w5.heap.size + 1) 1 (by first | (simp; done) | omega | (simp; omega))); (try have zA8 := hfA (w5.heap.size + 1) 1 (by first | (simp; done) | omega | (simp; omega))))) | (go_at_call_of 88 y; refine (KY.out _ (by exact (by repeat (first | exact Below.refl _ _ | assumption | apply balloc | apply bdrew | (refine below_drewN ?_ _) | (refine bset ?_ (by first | (simp; done) | omega | (simp; omega)) _) | (refine bnext ?_ (by assumption)))))).mono ?_; first | (have hq := hbA; clear hq; rintro e wB ⟨rfl, hbB⟩; obtain ⟨⟨hcB, hfB⟩, ⟨hcB2, hfB2⟩, hcB3, hfB3, ⟨hnB1, hnB2, hnB3, hnB4⟩, ⟨hlB1, hlB2, hlB3, hlB4, hlB5⟩, hsB⟩ := bcellR hbB; (try simp at hsB); (try have zB1 := hcB w5.heap.size 0 (by first | (simp; done) | omega | (simp; omega))); (try have zB2 := hfB w5.heap.size 0 (by first | (simp; done) | omega | (simp; omega))); (try have zB3 := hcB w5.heap.size 1 (by first | (simp; done) | omega | (simp; omega))); (try have zB4 := hfB w5.heap.size 1 (by first | (simp; done) | omega | (simp; omega))); (try have zB5 := hcB (w5.heap.size + 1) 0 (by first | (simp; done) | omega | (simp; omega))); (try have zB6 := hfB (w5.heap.size + 1) 0 (by first | (simp; done) | omega | (simp; omega))); (try have zB7 := hcB (w5.heap.size + 1) 1 (by first | (simp; done) | omega | (simp; omega))); (try have zB8 := hfB (w5.heap.size + 1) 1 (by first | (simp; done) | omega | (simp; omega)))) | (rintro e wA ⟨rfl, hbA⟩; obtain ⟨⟨hcA, hfA⟩, ⟨hcA2, hfA2⟩, hcA3, hfA3, ⟨hnA1, hnA2, hnA3, hnA4⟩, ⟨hlA1, hlA2, hlA3, hlA4, hlA5⟩, hsA⟩ := bcellR hbA; (try simp at hsA); (try have zA1 := hcA w5.heap.size 0 (by first | (simp; done) | omega | (simp; omega))); (try have zA2 := hfA w5.heap.size 0 (by first | (simp; done) | omega | (simp; omega))); (try have zA3 := hcA w5.heap.size 1 (by first | (simp; done) | omega | (simp; omega))); (try have zA4 := hfA w5.heap.size 1 (by first | (simp; done) | omega | (simp; omega))); (try have zA5 := hcA (w5.heap.size + 1) 0 (by first | (simp; done) | omega | (simp; omega))); (try have zA6 := hfA (w5.heap.size + 1) 0 (by first | (simp; done) | omega | (simp; omega))); (try have zA7 := hcA (w5.heap.size + 1) 1 (by first | (simp; done) | omega | (simp; omega))); (try have zA8 := hfA (w5.heap.size + 1) 1 (by first | (simp; done) | omega | (simp; omega))))))
              all_goals
                go_wp2_with fail
                go_meet
                refine ⟨_, rfl, ⟨?_, ?_, ?_, ?_⟩, ?_, ?_⟩
                rotate_left 4
                · have sA := hbA.size; have sB := hbB.size; (try simp at sA); (try simp at sB); first | omega | (simp; done) | (simp <;> omega)
                · exact (by repeat (first | exact Below.refl _ _ | exact hbA | exact hbB | apply balloc | apply bdrew | (refine bset ?_ (by first | (simp; done) | omega | (simp; omega)) _) | (refine bnext ?_ hbB) | (refine bnext ?_ hbA)))
                all_goals first | (simp [go_sem]; done) | (simp (maxDischargeDepth := 8) [go_sem, set_selfR, hcB, hfB, hcB2, hfB2, hcB3, hfB3, hnB1, hnB2, hnB3, hnB4, hlB1, hlB2, hlB3, hlB4, hlB5, hcA, hfA, hcA2, hfA2, hcA3, hfA3, hnA1, hnA2, hnA3, hnA4, hlA1, hlA2, hlA3, hlA4, hlA5]; done)
            case rest =>
              obtain ⟨q, rfl, hq, hwq, hb6⟩ := hcut
              obtain ⟨w6, hw6⟩ : ∃ z, wc = z := ⟨_, rfl⟩
              rw [hw6] at hq hb6 ⊢
              have Q6 := hide hq
              have P6 := hide (tf_later P5.out hb6)
              have QW := hide (show p ≠ q from by have := World.block_lt_of_cell? _ _ P5.out.1; simp only at this; omega)
              have PB := hide (show (pa ≠ p ∧ pa + 1 ≠ p) ∧ (pa ≠ q ∧ pa + 1 ≠ q) by
                have l1 := World.block_lt_of_cell? _ _ XK.out.1
                have l2 := World.block_lt_of_cell? _ _ YK.out.1
                have l3 := PW.out
                have l4 := B5.out.size
                simp only at l1 l2
                omega)
              have X6 := hide (tf_later (tf_later XK.out B5.out) hb6)
              have Y6 := hide (tf_later (tf_later YK.out B5.out) hb6)
              have B6 := hide (show Below wC.heap.size wC w6 from bnext (bnext BK.out B5.out) hb6)
              clear hq hwq hb6 hw6 P5 B5 PW XK YK KP wd1 wd2 hd1 hd2 K1k K2k K3k K4k BK
              obtain ⟨ma, hma⟩ : ∃ z, (if gs then ga else q1) = z := ⟨_, rfl⟩
              obtain ⟨mb, hmb⟩ : ∃ z, (if gs then gb else q4) = z := ⟨_, rfl⟩
              obtain ⟨mc, hmc⟩ : ∃ z, (if gs then gc else d1) = z := ⟨_, rfl⟩
              obtain ⟨md, hmd⟩ : ∃ z, (if gs then gd else d2) = z := ⟨_, rfl⟩
              have GF := hide (show g' = ⟨true, min ma q1, max mb q4, min mc d1, max md d2⟩ by rw [GE.out, accS, ← hma, ← hmb, ← hmc, ← hmd])
              have HM := hide (And.intro (And.intro hma hmb) (And.intro hmc hmd))
              clear hma hmb hmc hmd GE
              go_upto_if 66 with fail
              go_cut [12] from 66 to 68 (fun s12 wx => s12 = .bool true ∧ TF wx pa ma mb ∧ TF wx (pa + 1) mc md ∧ TF wx p q1 q4 ∧ TF wx q d1 d2 ∧ Below wC.heap.size wC wx)
              case first =>
                as_aux_lemma =>
                have ⟨x0, x1, x2, x3⟩ := X6.out
                have ⟨y0, y1, y2, y3⟩ := Y6.out
                have ⟨p0, p1, p2, p3⟩ := P6.out
                have ⟨q0, q1', q2', q3'⟩ := Q6.out
                have ⟨⟨n1, n2⟩, n3, n4⟩ := PB.out
                cases gs with
                | true =>
                  obtain ⟨⟨rfl, rfl⟩, rfl, rfl⟩ := HM.out
                  go_wp2_with fail
                  go_meet
                  exact ⟨rfl, X6.out, Y6.out, P6.out, Q6.out, B6.out⟩
                | false =>
                  obtain ⟨⟨rfl, rfl⟩, rfl, rfl⟩ := HM.out
                  go_upto_region 12 with fail
                  go_region
                  all_goals (go_wp2_with fail; go_meet)
                  simp only [Bool.false_eq_true, if_false]
                  exact ⟨by first | rfl | trivial, tf_drew (tf_other (tf_set X6.out) (by omega)), tf_drew (tf_set (tf_other Y6.out (by omega))), tf_drew (tf_other (tf_other P6.out (Ne.symm n1)) (Ne.symm n2)), tf_drew (tf_other (tf_other Q6.out (Ne.symm n3)) (Ne.symm n4)), bdrew (below_set2 (below_set2 B6.out (by rw [PA.out]; exact Nat.le_refl _)) (by rw [PA.out]; omega))⟩
              case rest =>
                obtain ⟨rfl, hx, hy, hp, hq, hb7⟩ := hcut
                obtain ⟨w7, hw7⟩ : ∃ z, wc = z := ⟨_, rfl⟩
                rw [hw7] at hx hy hp hq hb7 ⊢
                have X7 := hide hx
                have Y7 := hide hy
                have Q7 := hide hq
                have B7 := hide hb7
                have ⟨x0, x1, x2, x3⟩ := hx
                have ⟨p0, p1, _, _⟩ := hp
                have m1 : (if q1 < ma then q1 else ma) = min ma q1 := by omega
                have m2 : (if mb < q4 then q4 else mb) = max mb q4 := by omega
                clear hx hy hp hq hb7 hw7 X6 Y6 P6 Q6 B6 HM
                go_upto_region 14 with fail
                obtain ⟨w8, hw8⟩ : ∃ z, z = (w7.setCell ⟨pa, 0, none⟩ (.int .i64 (min ma q1))).setCell ⟨pa, 1, none⟩ (.int .i64 (max mb q4)) := ⟨_, rfl⟩
                rw [← hw8]
                have X8 := hide (show TF w8 pa (min ma q1) (max mb q4) by rw [hw8]; exact tf_set X7.out)
                have Y8 := hide (show TF w8 (pa + 1) mc md by rw [hw8]; exact tf_other Y7.out (by omega))
                have Q8 := hide (show TF w8 q d1 d2 by rw [hw8]; exact tf_other Q7.out (fun e => PB.out.2.1 e.symm))
                have B8 := hide (show Below wC.heap.size wC w8 by rw [hw8]; exact below_set2 B7.out (by rw [PA.out]; exact Nat.le_refl _))
                have ⟨y0, y1, y2, y3⟩ := Y8.out
                have ⟨q0, q1', _, _⟩ := Q8.out
                have m3 : (if d1 < mc then d1 else mc) = min mc d1 := by omega
                have m4 : (if md < d2 then d2 else md) = max md d2 := by omega
                clear hw8 x0 x1 x2 x3 p0 p1 m1 m2 X7 Y7 Q7 B7
                go_wp2_with fail
                go_roundw
                case rel => exact ⟨k + 1, by omega, by go_num, by rw [GN.out, GF.out], by rw [GN.out, GF.out]; exact tf_other X8.out (by omega), by rw [GN.out, GF.out]; exact tf_set Y8.out, below_set2 B8.out (by rw [PA.out]; omega)⟩
                case measure => simp [intOf]; omega
      · obtain rfl : k = 5 := by omega
        obtain ⟨⟨e1, e2⟩, e3, e4⟩ := HR.out
        rw [← e1, ← e2] at hX
        rw [← e3, ← e4] at hY
        have ⟨u0, u1, u2, u3⟩ := tf_later UC.out hb
        have ⟨v0, v1, v2, v3⟩ := tf_later VC.out hb
        have ⟨x0, x1, _, _⟩ := hX
        have ⟨y0, y1, _, _⟩ := hY
        have l1 := World.block_lt_of_cell? _ _ UC.out.1
        have l2 := World.block_lt_of_cell? _ _ VC.out.1
        simp only [PA.out] at l1 l2
        have n1 : ¬ pa = w.heap.size + 1 := by omega
        have n2 : ¬ w.heap.size + 1 = pa := by omega
        have n3 : ¬ pa + 1 = w.heap.size + 1 := by omega
        have n4 : ¬ w.heap.size + 1 = pa + 1 := by omega
        have n5 : ¬ pa = w.heap.size + 1 + 1 := by omega
        have n6 : ¬ w.heap.size + 1 + 1 = pa := by omega
        have n7 : ¬ pa + 1 = w.heap.size + 1 + 1 := by omega
        have n8 : ¬ w.heap.size + 1 + 1 = pa + 1 := by omega
        have BR := hide (bnext BC.out hb)
        clear hX hY hb e1 e2 e3 e4 HR l1 l2 HB K1 K2 K3 K4 KS hG
        go_upto_region 15 with fail
        go_region
        all_goals go_wp2_with fail
        all_goals
          exact bodyPost_ret (v := .tuple #[.agg #[.int .i64 RA, .int .i64 RB], .agg #[.int .i64 RC, .int .i64 RD], .int .i64 0]) (by simp [results, Tryz.results41, go_sem, u0, u1, v0, v1]) rfl ⟨rfl, (by repeat (first | exact BR.out | apply bdrew | (refine bset ?_ (by simp <;> omega) _)))⟩
  · have d : (E != 0) = true := by simpa using e0
    have HR := hide (show (RA = 0 ∧ RB = 0) ∧ (RC = 0 ∧ RD = 0) by have := hR.out; rwa [if_neg e0] at this)
    clear e0 hR hbd A1 A2 A3 A4 hSB
    go_wp2_with fail
    obtain ⟨⟨rfl, rfl⟩, rfl, rfl⟩ := HR.out
    exact bodyPost_ret (v := .tuple #[.agg #[.int .i64 0, .int .i64 0], .agg #[.int .i64 0, .int .i64 0], .int .i64 E]) (by simp [results, Tryz.results41, go_sem, u0, u1, v0, v1]) rfl ⟨rfl, bset (bset (bset (bset BC.out (by simp <;> omega) _) (by simp <;> omega) _) (by simp <;> omega) _) (by simp <;> omega) _⟩
/-- What the reference gathers of the first k regions. -/
def accQ (hs : List Heat) (x y s : Int) : Nat → Acc
  | 0 => ⟨false, 0, 0, 0, 0⟩
  | k + 1 => if selB s k then accS (accQ hs x y s k) (keptQ true k x hs) (keptQ false k y hs) (x - keptQ false k x hs) (y - keptQ true k y hs) else accQ hs x y s k
theorem mnL_pre (l : List (Int × Int)) (z : Int × Int) : ∀ j, j < l.length → mnL (l ++ [z]) j = mnL l j ∧ mxH (l ++ [z]) j = mxH l j := by
  intro j
  induction j with
  | zero =>
    intro h
    simp only [mnL, mxH, List.getD_eq_getElem?_getD, List.getElem?_append_left h]
    exact ⟨trivial, trivial⟩
  | succ j ih =>
    intro h
    obtain ⟨e1, e2⟩ := ih (by omega)
    simp only [mnL, mxH, List.getD_eq_getElem?_getD, List.getElem?_append_left h, e1, e2]
    exact ⟨trivial, trivial⟩
theorem mnL_snoc {l : List (Int × Int)} (z : Int × Int) (h : l ≠ []) : mnL (l ++ [z]) ((l ++ [z]).length - 1) = min (mnL l (l.length - 1)) z.1 ∧ mxH (l ++ [z]) ((l ++ [z]).length - 1) = max (mxH l (l.length - 1)) z.2 := by
  obtain ⟨n, hn⟩ : ∃ n, l.length = n + 1 := ⟨l.length - 1, by have := List.length_pos_iff.2 h; omega⟩
  have e : (l ++ [z]).length - 1 = n + 1 := by simp [hn]
  obtain ⟨e1, e2⟩ := mnL_pre l z n (by omega)
  rw [e, show l.length - 1 = n by omega]
  have g : (l ++ [z])[n + 1]? = some z := by rw [← hn]; simp
  simp only [mnL, mxH, e1, e2, List.getD_eq_getElem?_getD, g, Option.getD_some]
  exact ⟨trivial, trivial⟩
theorem accQ_is (hs : List Heat) (x y s : Int) : ∀ k, (annL hs x y s k = [] ∧ annF hs x y s k = [] ∧ accQ hs x y s k = ⟨false, 0, 0, 0, 0⟩) ∨ (annL hs x y s k ≠ [] ∧ annF hs x y s k ≠ [] ∧ accQ hs x y s k = ⟨true, mnL (annL hs x y s k) ((annL hs x y s k).length - 1), mxH (annL hs x y s k) ((annL hs x y s k).length - 1), mnL (annF hs x y s k) ((annF hs x y s k).length - 1), mxH (annF hs x y s k) ((annF hs x y s k).length - 1)⟩) := by
  intro k
  induction k with
  | zero => exact .inl ⟨rfl, rfl, rfl⟩
  | succ k ih =>
    simp only [annL, annF, accQ]
    cases selB s k with
    | false => simpa using ih
    | true =>
      right
      simp only [if_true]
      refine ⟨by simp, by simp, ?_⟩
      rcases ih with ⟨h1, h2, h3⟩ | ⟨h1, h2, h3⟩
      · rw [h1, h2, h3]
        simp [accS, mnL, mxH]
      · obtain ⟨e1, e2⟩ := mnL_snoc (keptQ true k x hs, keptQ false k y hs) h1
        obtain ⟨e3, e4⟩ := mnL_snoc (x - keptQ false k x hs, y - keptQ true k y hs) h2
        rw [h3, e1, e2, e3, e4]
        simp [accS]
theorem ann_ranges {hs : List Heat} (ok : hs.all heatOk = true) {x y : Int} (s : Int) (x0 : 0 ≤ x) (xy : x ≤ y) (y1 : y ≤ 1000000) : ∀ k, (annL hs x y s k).all rangeOk = true ∧ (annF hs x y s k).all rangeOk = true := by
  intro k
  induction k with
  | zero => exact ⟨rfl, rfl⟩
  | succ k ih =>
    simp only [annL, annF]
    split
    · have a := keptQ_far ok (r := k) true x0 (by omega)
      have b := keptQ_far ok (r := k) false (x := y) (by omega) y1
      have c := keptQ_far ok (r := k) false x0 (by omega)
      have d := keptQ_far ok (r := k) true (x := y) (by omega) y1
      have l := keptQ_less ok (r := k) x0 xy y1
      have m := keptQ_mono ok false (r := k) xy
      have n := keptQ_less ok (r := k) (show 0 ≤ y by omega) (Int.le_refl y) y1
      rw [List.all_append, List.all_append, ih.1, ih.2]
      simp [rangeOk, allIn]
      omega
    · exact ih
theorem sel_bit : ∀ s : Fin 32, ∀ k : Fin 5, (bits BinOp.and IntKind.u8 ((s.val : Int) / 2 ^ k.val) 1 == 0) = !selB (s.val : Int) k.val := by decide +kernel
theorem sel_some : ∀ s : Fin 32, s.val ≠ 0 → ∃ k : Fin 5, selB (s.val : Int) k.val = true := by decide +kernel
theorem annL_some (hs : List Heat) (x y s : Int) {k : Nat} (h : selB s k = true) : ∀ n, k < n → annL hs x y s n ≠ [] := by
  intro n
  induction n with
  | zero => intro h; omega
  | succ n ih =>
    intro hk
    simp only [annL]
    split
    · simp
    · rename_i hn
      refine ih ?_
      by_cases e : k = n
      · subst e; rw [h] at hn; exact absurd rfl hn
      · omega
theorem refAnneal_any (hs : List Heat) (x y s : Int) (a : Option Addr) (cap : Nat) (w : World) (hl : hs.length ≤ 8796093022208) (h : IsHeats w a hs) (s0 : 0 ≤ s) :
    Calls Tryz.prog 41 #[.slice a hs.length cap, .agg #[.int .i64 x, .int .i64 y], .int .u8 s] w fun e w' => e = .returned (.tuple #[.agg #[.int .i64 (annQ hs x y s).a, .int .i64 (annQ hs x y s).b], .agg #[.int .i64 (annQ hs x y s).c, .int .i64 (annQ hs x y s).d], .int .i64 (annQ hs x y s).e]) ∧ Below w.heap.size w w' := by
  have OK : annE hs x y s = 0 → (hs.all heatOk = true ∧ s < 32 ∧ s ≠ 0) ∧ 0 ≤ x ∧ x ≤ y ∧ y ≤ 1000000 := by
    intro e0
    unfold annE at e0
    split at e0
    · split at e0
      · rename_i hk
        simp [rgOk] at hk
        split at e0
        · rename_i hz
          refine ⟨⟨by simpa using hk.1, by omega, by simpa using hz⟩, by omega⟩
        · simp at e0
      · simp at e0
    · simp at e0
  have E : (annQ hs x y s).e = annE hs x y s := by
    unfold annQ
    split
    · exact Eq.symm (by assumption)
    · rfl
  rw [E]
  refine refAnneal_go x y s _ _ _ _ _ _ hs a cap (selB s) (accQ hs x y s) (fun k => keptQ true k x hs) (fun k => keptQ false k x hs) (fun k => keptQ true k y hs) (fun k => keptQ false k y hs) w (hide h) (hide fun W hW => refHeat_any hs x y s a cap W hl hW s0)
    (hide fun e0 => ?_) (hide fun e0 k W hk hW => ?_) (hide fun e0 k W hk hW => ?_) (hide fun e0 k W hk hW => ?_) (hide fun e0 k W hk hW => ?_) (hide fun e0 k hk => ?_) (hide rfl) (hide fun k => rfl) (hide ?_)
  · obtain ⟨⟨k1, k2, k3⟩, x0, xy, y1⟩ := OK e0
    refine ⟨by omega, by omega, fun k => ?_⟩
    have c := keptQ_far k1 (r := k) false x0 (by omega)
    have d := keptQ_far k1 (r := k) true (x := y) (by omega) y1
    exact ⟨c, d⟩
  · obtain ⟨⟨k1, k2, k3⟩, x0, xy, y1⟩ := OK e0
    exact refAfter_any hs x k true a cap W hk hl hW k1 x0 (by omega)
  · obtain ⟨⟨k1, k2, k3⟩, x0, xy, y1⟩ := OK e0
    exact refAfter_any hs x k false a cap W hk hl hW k1 x0 (by omega)
  · obtain ⟨⟨k1, k2, k3⟩, x0, xy, y1⟩ := OK e0
    exact refAfter_any hs y k true a cap W hk hl hW k1 (by omega) y1
  · obtain ⟨⟨k1, k2, k3⟩, x0, xy, y1⟩ := OK e0
    exact refAfter_any hs y k false a cap W hk hl hW k1 (by omega) y1
  · obtain ⟨⟨k1, k2, k3⟩, x0, xy, y1⟩ := OK e0
    have g := sel_bit ⟨s.toNat, by omega⟩ ⟨k, hk⟩
    simp only at g
    rwa [show ((s.toNat : Nat) : Int) = s by omega] at g
  · by_cases e0 : annE hs x y s = 0
    · obtain ⟨⟨k1, k2, k3⟩, x0, xy, y1⟩ := OK e0
      rw [if_pos e0]
      obtain ⟨j, hj⟩ := sel_some ⟨s.toNat, by omega⟩ (by simp only; omega)
      simp only at hj
      rw [show ((s.toNat : Nat) : Int) = s by omega] at hj
      obtain ⟨r1, r2⟩ := ann_ranges k1 s x0 xy y1 5
      rcases accQ_is hs x y s 5 with ⟨h1, _, _⟩ | ⟨h1, h2, h3⟩
      · exact absurd h1 (annL_some hs x y s hj 5 j.2)
      · rw [h3]
        unfold annQ
        rw [if_pos e0, hull_is h1 (by have := annL_len hs x y s 5; omega) r1, hull_is h2 (by have := annF_len hs x y s 5; omega) r2]
        exact ⟨⟨rfl, rfl⟩, rfl, rfl⟩
    · rw [if_neg e0]
      unfold annQ
      rw [if_neg e0]
      exact ⟨⟨rfl, rfl⟩, rfl, rfl⟩
end Go.Proofs.YtlpdbjkpgfpjjaaGreat
