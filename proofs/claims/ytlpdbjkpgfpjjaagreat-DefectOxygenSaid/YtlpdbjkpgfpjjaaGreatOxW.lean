/-
  DefectOxygen: the walk.
-/
import Derived.Test.YtlpdbjkpgfpjjaaGreatAnR
import Derived.Test.YtlpdbjkpgfpjjaaGreatOvO
import Derived.Test.YtlpdbjkpgfpjjaaGreatDgK
namespace Go.Proofs.YtlpdbjkpgfpjjaaGreat
set_option linter.unusedSimpArgs false
set_option linter.unusedVariables false
set_option linter.unusedSimpArgs false
set_option linter.unusedVariables false
open Go.RowKit

/-- What a true step computes with. -/
def OvIs (X X' d L H b : Int) : Prop := ∃ A, IntKind.wrap .i64 (X - d) = A ∧ ((A ≤ 0 ∧ X' = X) ∨ (¬ A ≤ 0 ∧ ∃ P1 Q1 P2 N2 Q2 V, (IntKind.wrap .i64 (A * L) = P1 ∧ IntKind.wrap .i64 (P1.tdiv 10000) = Q1 ∧ P1 / 10000 = Q1 ∧ 0 ≤ P1 ∧ P1 ≤ 1000000000000000) ∧ (IntKind.wrap .i64 (A * H) = P2 ∧ IntKind.wrap .i64 (P2 + 9999) = N2 ∧ IntKind.wrap .i64 (N2.tdiv 10000) = Q2 ∧ N2 / 10000 = Q2 ∧ 0 ≤ N2 ∧ N2 ≤ 1000000000000000) ∧ plN Q1 Q2 b = V ∧ (-9223372036854775808 ≤ Q1 ∧ Q1 ≤ 9223372036854775807) ∧ IntKind.wrap .i64 (X - V) = X'))
theorem ovIs_step {h : Heat} (k : heatOk h = true) {r : Nat} {x : Int} (b : Int) (x0 : 0 ≤ x) (x1 : x ≤ 1000000) : OvIs x (ovS r b x h) h.d (h.lo r) (h.hi r) b := by
  have f := fall_far (r := r) k x0 x1
  obtain ⟨⟨d0, d1⟩, g⟩ := heat_far k
  obtain ⟨l0, l1, l2⟩ := g r
  refine ⟨x - h.d, IntWalk.i64_in _ (by omega), ?_⟩
  by_cases hz : x - h.d ≤ 0
  · left
    exact ⟨hz, by unfold ovS; rw [if_pos hz]⟩
  · right
    refine ⟨hz, ?_⟩
    unfold ovS
    rw [if_neg hz]
    have e : max 0 (x - h.d) = x - h.d := by omega
    unfold fallL fallH at f
    rw [e] at f
    have pl := plN_in b f.1.2
    generalize hA : x - h.d = A at *
    have m1 : 0 ≤ A * h.lo r := Int.mul_nonneg (by omega) l0
    have m2 : A * h.lo r ≤ 1000000 * 10000 := Int.mul_le_mul (by omega) (by omega) l0 (by omega)
    have m3 : 0 ≤ A * h.hi r := Int.mul_nonneg (by omega) (by omega)
    have m4 : A * h.hi r ≤ 1000000 * 10000 := Int.mul_le_mul (by omega) (by omega) (by omega) (by omega)
    exact ⟨A * h.lo r, A * h.lo r / 10000, A * h.hi r, A * h.hi r + 9999, (A * h.hi r + 9999) / 10000, _, ⟨IntWalk.i64_in _ (by omega), IntWalk.i64_quo _ _ (by omega), rfl, by omega, by omega⟩, ⟨IntWalk.i64_in _ (by omega), IntWalk.i64_in _ (by omega), IntWalk.i64_quo _ _ (by omega), rfl, by omega, by omega⟩, rfl, by omega, IntWalk.i64_in _ (by omega)⟩
/-- A list of one's own of some steps, in a region that has one order. -/
theorem wpList_heats {ops : Array Oper} {rest : List Oper} {o : Oper} {a : Act} {w : World} {Q : Exit → Act → World → Prop} (hgd : o.guard = none) (s x : Operand)
    (ho : o.op = .call { callee := .builtin .append, args := #[s, x], argTypes := #[75, 75] }) (L : Nat) (hs : a.eval s = .slice (some ⟨L, 0, none⟩) 0 0)
    (b : Option Addr) (n c : Nat) (l : List Heat) (hn : n = l.length) (hx : a.eval x = .slice b n c) (hb : b = none → c = 0 ∧ l = []) (hl : l.length ≤ 1000) (hi : IsHeats w b l)
    (h : ∀ b' c' w', IsHeats w' b' l → Below w.heap.size w w' → wpList Tryz.prog ops Q rest (a.put o.dst (.slice b' n c')) w') : wpList Tryz.prog ops Q (o :: rest) a w := by
  refine wpList_plain hgd fun K hK => ?_
  have hw : Region.wanted o (yielded ops a.tmps) = true := by simp [Region.wanted, hgd]
  have g := step_heats (ops := ops) (K := K) (Q := Q) (E := True) hgd s x ho L hs b n c l hn hx hb hl hi (fun b' c' w' h1 h2 => hK _ _ (h b' c' w' h1 h2))
  rw [if_pos hw] at g
  exact g
/-- An oven in memory. -/
def OvAt (W : World) (q : Nat) (o g : Int) (pb : Option Addr) (pn pc : Nat) : Prop := W.cell? ⟨q, 0, none⟩ = some (.int .u16 o) ∧ W.cell? ⟨q, 1, none⟩ = some (.int .u8 g) ∧ W.cell? ⟨q, 2, none⟩ = some (.slice pb pn pc)
theorem ovAt_later {w W : World} {q : Nat} {o g : Int} {pb : Option Addr} {pn pc : Nat} (h : OvAt w q o g pb pn pc) (hb : Below w.heap.size w W) : OvAt W q o g pb pn pc := ⟨later hb h.1, later hb h.2.1, later hb h.2.2⟩
set_option maxRecDepth 100000 in
set_option maxHeartbeats 3200000 in
theorem defectOxygen_many (x y o g : Int) (n pn pc : Nat) (a pb : Option Addr) (cap : Nat) (w : World) (hn : 30 < n) :
    Calls Tryz.prog 13 #[.slice a n cap, .agg #[.int .i64 x, .int .i64 y], .agg #[.int .u16 o, .int .u8 g, .slice pb pn pc]] w fun e w' => e = .returned (.bool true) ∧ Below w.heap.size w w' := by
  have d : (30 : Int) < (n : Int) := by omega
  go_enter Tryz.func13, Tryz.ntmps13
  go_wp2_with fail
  refine (known5_any _).mono ?_
  rintro e w1 ⟨rfl, hb1⟩
  go_wp2_with fail
  go_ret
  exact ⟨rfl, (by repeat (first | exact Below.refl _ _ | assumption | apply balloc | apply bdrew | (refine below_drewN ?_ _) | (refine bset ?_ (by first | (simp; done) | omega | (simp; omega)) _) | (refine bnext ?_ (by assumption))))⟩
set_option maxRecDepth 100000 in
set_option maxHeartbeats 12800000 in
theorem defectOxygen_go (x y o g v P E L0 L1 F0 F1 A0 A1 O0 O1 z0 z1 f0 f1 b0 b1 c0 c1 V2 : Int) (r n : Nat) (hs : List Heat) (ps : List Int) (a pb : Option Addr) (cap pn pc : Nat) (X : Nat → Int) (w : World) (hn : ¬ 30 < n) (HL : Hid (n = hs.length)) (NIL : Hid (a = none → cap = 0 ∧ hs = [])) (CAP : Hid (n ≤ cap)) (hr : r < 5) (hgr : Hid (IntKind.wrap .i64 (g.tmod 5) = (r : Int) ∧ g % 5 = (r : Int) ∧ (0 ≤ g ∧ g ≤ 255)))
    (hsh : Hid ((IntKind.wrap .u8 (2 ^ r) = P ∧ IntKind.wrap .u8 (1 * 2 ^ r) = P) ∧ IntKind.wrap .u64 (r : Int) = (r : Int) ∧ min r 8 = r)) (h : Hid (IsHeats w a hs)) (hp : Hid (IsPart w pb ps)) (PN : Hid (pn = ps.length))
    (AN1 : Hid (∀ W b c, IsHeats W b hs → Calls Tryz.prog 40 #[.slice b n c, .agg #[.int .i64 x, .int .i64 y], .int .u8 P] W fun e w' => e = .returned (.tuple #[.agg #[.int .i64 L0, .int .i64 L1], .agg #[.int .i64 F0, .int .i64 F1], .int .i64 E]) ∧ Below W.heap.size W w'))
    (hE : Hid (E ≠ 0 → E = 2 ∧ (L0 = 0 ∧ L1 = 0) ∧ F0 = 0 ∧ F1 = 0))
    (PL : Hid (E = 0 → ∀ W, Calls Tryz.prog 42 #[.agg #[.int .i64 x, .int .i64 y], .int .u16 o] W fun e w' => e = .returned (.int .i64 v) ∧ Below W.heap.size W w'))
    (HX : Hid (E = 0 → X 0 = v ∧ ∀ k, k < n → OvIs (X k) (X (k + 1)) (hs.getD k default).d ((hs.getD k default).lo r) ((hs.getD k default).hi r) (ps.getD k 0)))
    (AN2 : Hid (E = 0 → ∀ W b c, IsHeats W b hs → Calls Tryz.prog 40 #[.slice b n c, .agg #[.int .i64 x, .int .i64 y], .int .u8 31] W fun e w' => e = .returned (.tuple #[.agg #[.int .i64 A0, .int .i64 A1], .agg #[.int .i64 O0, .int .i64 O1], .int .i64 0]) ∧ Below W.heap.size W w'))
    (AN3 : Hid (E = 0 → ∀ W b c, IsHeats W b hs → Calls Tryz.prog 40 #[.slice b n c, .agg #[.int .i64 v, .int .i64 v], .int .u8 P] W fun e w' => e = .returned (.tuple #[.agg #[.int .i64 z0, .int .i64 z1], .agg #[.int .i64 f0, .int .i64 f1], .int .i64 0]) ∧ Below W.heap.size W w'))
    (AN4 : Hid (E = 0 → ∀ m W b c, n = m + 1 → IsHeats W b (hs.take m) → Calls Tryz.prog 40 #[.slice b m c, .agg #[.int .i64 x, .int .i64 y], .int .u8 P] W fun e w' => e = .returned (.tuple #[.agg #[.int .i64 b0, .int .i64 b1], .agg #[.int .i64 c0, .int .i64 c1], .int .i64 0]) ∧ Below W.heap.size W w'))
    (f19 : Hid (E = 0 → (L0 ≤ X n ∧ X n ≤ L1) ∧ IntKind.wrap .i64 (v - X n) = V2 ∧ F0 ≤ V2 ∧ V2 ≤ F1))
    (f23 : Hid (E = 0 → (A0 ≤ L0 ∧ L1 ≤ A1) ∧ O0 ≤ F0 ∧ F1 ≤ O1))
    (f25 : Hid (E = 0 → ((L0 ≤ z0 ∧ z1 ≤ L1) ∧ F0 ≤ f0 ∧ f1 ≤ F1) ∧ IntKind.wrap .i64 (z0 + f1) = v ∧ IntKind.wrap .i64 (z1 + f0) = v))
    (f28 : Hid (E = 0 → n = 0 → z0 = v ∧ z1 = v)) (f30 : Hid (E = 0 → ∀ m, n = m + 1 → L0 ≤ b0 ∧ L1 ≤ b1)) :
    Calls Tryz.prog 13 #[.slice a n cap, .agg #[.int .i64 x, .int .i64 y], .agg #[.int .u16 o, .int .u8 g, .slice pb pn pc]] w fun e w' => e = .returned (.bool true) ∧ Below w.heap.size w w' := by
  have d : ¬ (30 : Int) < (n : Int) := by omega
  have r0 : 0 ≤ (r : Int) := by omega
  have r5 : (r : Int) < 5 := by omega
  have LL := hide (show ¬ 40 < n by omega)
  have ⟨gr1, gr2, gr3, gr4⟩ := hgr.out
  clear hn hgr
  go_enter Tryz.func13, Tryz.ntmps13
  go_upto_region 4 with fail
  obtain ⟨w0, hw0⟩ : ∃ z, z = (w.alloc (.cells #[.int .i64 x, .int .i64 y] 23)).alloc (.cells #[.int .u16 o, .int .u8 g, .slice pb pn pc] 111) := ⟨_, rfl⟩
  rw [← hw0]
  have B0 := hide (show Below w.heap.size w w0 by rw [hw0]; exact (by repeat (first | exact Below.refl _ _ | assumption | apply balloc | apply bdrew | (refine below_drewN ?_ _) | (refine bset ?_ (by first | (simp; done) | omega | (simp; omega)) _) | (refine bnext ?_ (by assumption)))))
  have R0 := hide (show RgAt w0 w.heap.size x y by rw [hw0]; exact ⟨(by simp [go_sem, World.cell?_alloc_past]), (by simp [go_sem, World.cell?_alloc_past])⟩)
  have V0 := hide (show OvAt w0 (w.heap.size + 1) o g pb pn pc by rw [hw0]; exact ⟨(by simp [go_sem, World.cell?_alloc_past]), (by simp [go_sem, World.cell?_alloc_past]), (by simp [go_sem, World.cell?_alloc_past])⟩)
  have H0 := hide (show IsHeats w0 a hs by rw [hw0]; exact heats_later h.out (by repeat (first | exact Below.refl _ _ | assumption | apply balloc | apply bdrew | (refine below_drewN ?_ _) | (refine bset ?_ (by first | (simp; done) | omega | (simp; omega)) _) | (refine bnext ?_ (by assumption)))))
  have P0 := hide (show IsPart w0 pb ps by rw [hw0]; exact part_later hp.out (by repeat (first | exact Below.refl _ _ | assumption | apply balloc | apply bdrew | (refine below_drewN ?_ _) | (refine bset ?_ (by first | (simp; done) | omega | (simp; omega)) _) | (refine bnext ?_ (by assumption)))))
  clear hw0 h hp
  rw [gr2]
  go_cut [8, 9, 10] from 32 to 43 (fun s8 s9 s10 wx => ∃ p q, s8 = .pointer (some ⟨p, 0, none⟩) ∧ s9 = .pointer (some ⟨q, 0, none⟩) ∧ s10 = .int .i64 E ∧ RgAt wx p L0 L1 ∧ RgAt wx q F0 F1 ∧ Below w0.heap.size w0 wx)
  case first =>
    as_aux_lemma =>
    have KP := hide (fun (W : World) (hb : Below w0.heap.size w0 W) => (show (W.cell? ⟨w.heap.size, 0, none⟩ = some (.int .i64 x) ∧ W.cell? ⟨w.heap.size, 1, none⟩ = some (.int .i64 y)) ∧ Below w0.heap.size w0 W from ⟨⟨later hb R0.out.1, later hb R0.out.2⟩, hb⟩))
    have ⟨⟨sh1, sh2⟩, sh3, sh4⟩ := hsh.out
    clear hE PL HX AN2 AN3 AN4 f19 f23 f25 f28 f30 hsh
    go_region_held3 (fun W => (W.cell? ⟨w.heap.size, 0, none⟩ = some (.int .i64 x) ∧ W.cell? ⟨w.heap.size, 1, none⟩ = some (.int .i64 y)) ∧ Below w0.heap.size w0 W)
      ((go_split_ands; refine KP.out _ ?_; exact (by repeat (first | exact Below.refl _ _ | assumption | apply balloc | apply bdrew | (refine below_drewN ?_ _) | (refine bset ?_ (by first | (simp; done) | omega | (simp; omega)) _) | (refine bnext ?_ (by assumption))))))
      (first | (go_at_call 40; refine (AN1.out _ _ _ (by first | exact hAp | exact heats_later hAp (by repeat (first | exact Below.refl _ _ | assumption | apply balloc | apply bdrew | (refine below_drewN ?_ _) | (refine bset ?_ (by first | (simp; done) | omega | (simp; omega)) _) | (refine bnext ?_ (by assumption)))))).mono ?_; rintro e wB ⟨rfl, hbB⟩; obtain ⟨⟨hcB, hfB⟩, ⟨hcB2, hfB2⟩, hcB3, hfB3, ⟨hnB1, hnB2, hnB3, hnB4⟩, ⟨hlB1, hlB2, hlB3, hlB4, hlB5⟩, hsB⟩ := bcellR hbB; (try simp at hsB); (try have zB1 := hcB w0.heap.size 0 (by first | (simp; done) | omega | (simp; omega))); (try have zB2 := hfB w0.heap.size 0 (by first | (simp; done) | omega | (simp; omega))); (try have zB3 := hcB w0.heap.size 1 (by first | (simp; done) | omega | (simp; omega))); (try have zB4 := hfB w0.heap.size 1 (by first | (simp; done) | omega | (simp; omega))); (try have zB5 := hcB (w0.heap.size + 1) 0 (by first | (simp; done) | omega | (simp; omega))); (try have zB6 := hfB (w0.heap.size + 1) 0 (by first | (simp; done) | omega | (simp; omega))); (try have zB7 := hcB (w0.heap.size + 1) 1 (by first | (simp; done) | omega | (simp; omega))); (try have zB8 := hfB (w0.heap.size + 1) 1 (by first | (simp; done) | omega | (simp; omega))); (try have zB9 := hcB (w0.heap.size + 1 + 1) 0 (by first | (simp; done) | omega | (simp; omega))); (try have zB10 := hfB (w0.heap.size + 1 + 1) 0 (by first | (simp; done) | omega | (simp; omega))); (try have zB11 := hcB (w0.heap.size + 1 + 1) 1 (by first | (simp; done) | omega | (simp; omega))); (try have zB12 := hfB (w0.heap.size + 1 + 1) 1 (by first | (simp; done) | omega | (simp; omega))); (try have yBa1 := fun x => hcB2 w0.heap.size 0 x (by first | (simp; done) | omega | (simp; omega))); (try have yBb1 := fun x => hfB2 w0.heap.size 0 x (by first | (simp; done) | omega | (simp; omega))); (try have yBa2 := fun x => hcB2 w0.heap.size 1 x (by first | (simp; done) | omega | (simp; omega))); (try have yBb2 := fun x => hfB2 w0.heap.size 1 x (by first | (simp; done) | omega | (simp; omega))); (try have yBc2 := hnB1 w0.heap.size (by first | (simp; done) | omega | (simp; omega))); (try have yBd2 := hnB2 w0.heap.size (by first | (simp; done) | omega | (simp; omega))); (try have yBe2 := hlB1 w0.heap.size (by first | (simp; done) | omega | (simp; omega))); (try have yBa3 := fun x => hcB2 (w0.heap.size + 1) 0 x (by first | (simp; done) | omega | (simp; omega))); (try have yBb3 := fun x => hfB2 (w0.heap.size + 1) 0 x (by first | (simp; done) | omega | (simp; omega))); (try have yBa4 := fun x => hcB2 (w0.heap.size + 1) 1 x (by first | (simp; done) | omega | (simp; omega))); (try have yBb4 := fun x => hfB2 (w0.heap.size + 1) 1 x (by first | (simp; done) | omega | (simp; omega))); (try have yBc4 := hnB1 (w0.heap.size + 1) (by first | (simp; done) | omega | (simp; omega))); (try have yBd4 := hnB2 (w0.heap.size + 1) (by first | (simp; done) | omega | (simp; omega))); (try have yBe4 := hlB1 (w0.heap.size + 1) (by first | (simp; done) | omega | (simp; omega))); (try have yBa5 := fun x => hcB2 (w0.heap.size + 1 + 1) 0 x (by first | (simp; done) | omega | (simp; omega))); (try have yBb5 := fun x => hfB2 (w0.heap.size + 1 + 1) 0 x (by first | (simp; done) | omega | (simp; omega))); (try have yBa6 := fun x => hcB2 (w0.heap.size + 1 + 1) 1 x (by first | (simp; done) | omega | (simp; omega))); (try have yBb6 := fun x => hfB2 (w0.heap.size + 1 + 1) 1 x (by first | (simp; done) | omega | (simp; omega))); (try have yBc6 := hnB1 (w0.heap.size + 1 + 1) (by first | (simp; done) | omega | (simp; omega))); (try have yBd6 := hnB2 (w0.heap.size + 1 + 1) (by first | (simp; done) | omega | (simp; omega))); (try have yBe6 := hlB1 (w0.heap.size + 1 + 1) (by first | (simp; done) | omega | (simp; omega)))) | (refine step_heats rfl (.tmp 33) (.tmp 34) rfl _ (by rfl) _ _ _ _ HL.out (by rfl) NIL.out (by have := LL.out; have := HL.out; omega) (heats_later H0.out (by repeat (first | exact Below.refl _ _ | assumption | apply balloc | apply bdrew | (refine below_drewN ?_ _) | (refine bset ?_ (by first | (simp; done) | omega | (simp; omega)) _) | (refine bnext ?_ (by assumption))))) ?_; intro b' c' wA hAp hbA; obtain ⟨⟨hcA, hfA⟩, ⟨hcA2, hfA2⟩, hcA3, hfA3, ⟨hnA1, hnA2, hnA3, hnA4⟩, ⟨hlA1, hlA2, hlA3, hlA4, hlA5⟩, hsA⟩ := bcellR hbA; (try simp at hsA); (try have zA1 := hcA w0.heap.size 0 (by first | (simp; done) | omega | (simp; omega))); (try have zA2 := hfA w0.heap.size 0 (by first | (simp; done) | omega | (simp; omega))); (try have zA3 := hcA w0.heap.size 1 (by first | (simp; done) | omega | (simp; omega))); (try have zA4 := hfA w0.heap.size 1 (by first | (simp; done) | omega | (simp; omega))); (try have zA5 := hcA (w0.heap.size + 1) 0 (by first | (simp; done) | omega | (simp; omega))); (try have zA6 := hfA (w0.heap.size + 1) 0 (by first | (simp; done) | omega | (simp; omega))); (try have zA7 := hcA (w0.heap.size + 1) 1 (by first | (simp; done) | omega | (simp; omega))); (try have zA8 := hfA (w0.heap.size + 1) 1 (by first | (simp; done) | omega | (simp; omega))); (try have zA9 := hcA (w0.heap.size + 1 + 1) 0 (by first | (simp; done) | omega | (simp; omega))); (try have zA10 := hfA (w0.heap.size + 1 + 1) 0 (by first | (simp; done) | omega | (simp; omega))); (try have zA11 := hcA (w0.heap.size + 1 + 1) 1 (by first | (simp; done) | omega | (simp; omega))); (try have zA12 := hfA (w0.heap.size + 1 + 1) 1 (by first | (simp; done) | omega | (simp; omega))); (try have yAa1 := fun x => hcA2 w0.heap.size 0 x (by first | (simp; done) | omega | (simp; omega))); (try have yAb1 := fun x => hfA2 w0.heap.size 0 x (by first | (simp; done) | omega | (simp; omega))); (try have yAa2 := fun x => hcA2 w0.heap.size 1 x (by first | (simp; done) | omega | (simp; omega))); (try have yAb2 := fun x => hfA2 w0.heap.size 1 x (by first | (simp; done) | omega | (simp; omega))); (try have yAc2 := hnA1 w0.heap.size (by first | (simp; done) | omega | (simp; omega))); (try have yAd2 := hnA2 w0.heap.size (by first | (simp; done) | omega | (simp; omega))); (try have yAe2 := hlA1 w0.heap.size (by first | (simp; done) | omega | (simp; omega))); (try have yAa3 := fun x => hcA2 (w0.heap.size + 1) 0 x (by first | (simp; done) | omega | (simp; omega))); (try have yAb3 := fun x => hfA2 (w0.heap.size + 1) 0 x (by first | (simp; done) | omega | (simp; omega))); (try have yAa4 := fun x => hcA2 (w0.heap.size + 1) 1 x (by first | (simp; done) | omega | (simp; omega))); (try have yAb4 := fun x => hfA2 (w0.heap.size + 1) 1 x (by first | (simp; done) | omega | (simp; omega))); (try have yAc4 := hnA1 (w0.heap.size + 1) (by first | (simp; done) | omega | (simp; omega))); (try have yAd4 := hnA2 (w0.heap.size + 1) (by first | (simp; done) | omega | (simp; omega))); (try have yAe4 := hlA1 (w0.heap.size + 1) (by first | (simp; done) | omega | (simp; omega))); (try have yAa5 := fun x => hcA2 (w0.heap.size + 1 + 1) 0 x (by first | (simp; done) | omega | (simp; omega))); (try have yAb5 := fun x => hfA2 (w0.heap.size + 1 + 1) 0 x (by first | (simp; done) | omega | (simp; omega))); (try have yAa6 := fun x => hcA2 (w0.heap.size + 1 + 1) 1 x (by first | (simp; done) | omega | (simp; omega))); (try have yAb6 := fun x => hfA2 (w0.heap.size + 1 + 1) 1 x (by first | (simp; done) | omega | (simp; omega))); (try have yAc6 := hnA1 (w0.heap.size + 1 + 1) (by first | (simp; done) | omega | (simp; omega))); (try have yAd6 := hnA2 (w0.heap.size + 1 + 1) (by first | (simp; done) | omega | (simp; omega))); (try have yAe6 := hlA1 (w0.heap.size + 1 + 1) (by first | (simp; done) | omega | (simp; omega)))))
    all_goals
      go_wp2_with fail
      go_meet
      refine ⟨_, _, rfl, rfl, rfl, ⟨?_, ?_⟩, ⟨?_, ?_⟩, ?_⟩
      rotate_left 4
      · exact (by repeat (first | exact Below.refl _ _ | exact hbA | exact hbB | apply balloc | apply bdrew | (refine bset ?_ (by first | (simp; done) | omega | (simp; omega)) _) | (refine bnext ?_ hbB) | (refine bnext ?_ hbA)))
      all_goals first | (simp [go_sem]; done) | (simp (maxDischargeDepth := 8) [go_sem, set_selfR, hcB, hfB, hcB2, hfB2, hcB3, hfB3, hnB1, hnB2, hnB3, hnB4, hlB1, hlB2, hlB3, hlB4, hlB5, hcA, hfA, hcA2, hfA2, hcA3, hfA3, hnA1, hnA2, hnA3, hnA4, hlA1, hlA2, hlA3, hlA4, hlA5]; done)
  case rest =>
    obtain ⟨p, q, rfl, rfl, rfl, hp, hq, hb5⟩ := hcut
    obtain ⟨w5, hw5⟩ : ∃ z, wc = z := ⟨_, rfl⟩
    rw [hw5] at hp hq hb5 ⊢
    have T8 := hide hp
    have T9 := hide hq
    have B5 := hide hb5
    have BW := hide (bnext B0.out hb5)
    clear hp hq hb5 hw5 AN1
    by_cases e0 : E = 0
    · skip
      have PL' := hide (PL.out e0)
      have HX' := hide (HX.out e0)
      have G2 := hide (AN2.out e0)
      have G3 := hide (AN3.out e0)
      have G4 := hide (AN4.out e0)
      have F19 := hide (f19.out e0)
      have F23 := hide (f23.out e0)
      have F25 := hide (f25.out e0)
      have F28 := hide (f28.out e0)
      have F30 := hide (f30.out e0)
      subst e0
      clear PL HX AN2 AN3 AN4 f19 f23 f25 f28 f30 hE
      have ⟨q0, q1⟩ := rgAt_later R0.out B5.out
      have ⟨o0, o1, o2⟩ := ovAt_later V0.out B5.out
      go_wp2_with fail
      refine (PL'.out _).mono ?_
      rintro e w6 ⟨rfl, hb6⟩
      have T8' := hide (rgAt_later T8.out hb6)
      have T9' := hide (rgAt_later T9.out hb6)
      have B6 := hide (bnext B5.out hb6)
      clear q0 q1 o0 o1 o2 hb6 T8 T9 B5 BW PL'
      go_upto_region 10 with fail
      go_loopw [12, 13] (fun m i wr => ∃ k : Nat, k ≤ n ∧ i = .int .i64 (k : Int) ∧ m = .int .i64 (X k) ∧ Below w6.heap.size w6 wr) (fun _ i _ => n - (intOf i).toNat)
      case atStart => exact ⟨0, by omega, rfl, by rw [HX'.out.1], Below.refl _ _⟩
      case round =>
        obtain ⟨k, hk, rfl, rfl, hb⟩ := hrel
        by_cases hlt : k < n
        · as_aux_lemma =>
          obtain ⟨b, off, rfl, hH⟩ : ∃ b off, a = some ⟨b, off, none⟩ ∧ HeatAt wr b (off + k * 11) (hs.getD k default) := by
            have hlt' : k < hs.length := by rw [← HL.out]; exact hlt
            rcases heats_later H0.out (bnext B6.out hb) with h | ⟨b, off, e, h⟩
            · subst h; simp at hlt'
            · exact ⟨b, off, e, h k hlt'⟩
          have h0 := hH.1
          obtain ⟨h1, h2⟩ := heatAt_spd hH hr
          obtain ⟨A, hA, hS⟩ := HX'.out.2 k hlt
          generalize (hs.getD k default).d = d' at *
          generalize (hs.getD k default).lo r = L at *
          generalize (hs.getD k default).hi r = H at *
          obtain ⟨bb, hbb⟩ : ∃ z, ps.getD k 0 = z := ⟨_, rfl⟩
          rw [hbb] at hS
          have HS := hide hS
          have HBB := hide hbb
          have B3 := hide hb
          have k0 : 0 ≤ (k : Int) := by omega
          have k1 : (k : Int) < (n : Int) := by omega
          have ⟨o0, o1, o2⟩ := ovAt_later V0.out (bnext B6.out hb)
          have PK := hide (part_later P0.out (bnext B6.out hb))
          obtain ⟨x', hx'⟩ : ∃ z, X (k + 1) = z := ⟨_, rfl⟩
          obtain ⟨xk, hxk⟩ : ∃ z, X k = z := ⟨_, rfl⟩
          rw [hx', hxk] at HS
          rw [hxk] at hA
          rw [hxk]
          have HX1 := hide hx'
          clear hS hH hb hbb hx' hxk F19 F23 F25 F28 F30 G2 G3 G4 HX' T8' T9'
          by_cases hz : A ≤ 0
          · obtain rfl : x' = xk := by rcases HS.out with ⟨_, e⟩ | ⟨e, _⟩; exact e; exact absurd hz e
            go_wp2_with fail
            go_roundw
            case rel => exact ⟨k + 1, by omega, by go_num, by rw [HX1.out], B3.out⟩
            case measure => simp [intOf]; omega
          · obtain ⟨P1, Q1, P2, N2, Q2, V, ⟨hP1, hQ1, hQ1', hP10, hP11⟩, ⟨hP2, hN2, hQ2, hQ2', hN20, hN21⟩, hV, hQb, hX'⟩ : ∃ P1 Q1 P2 N2 Q2 V, (IntKind.wrap .i64 (A * L) = P1 ∧ IntKind.wrap .i64 (P1.tdiv 10000) = Q1 ∧ P1 / 10000 = Q1 ∧ 0 ≤ P1 ∧ P1 ≤ 1000000000000000) ∧ (IntKind.wrap .i64 (A * H) = P2 ∧ IntKind.wrap .i64 (P2 + 9999) = N2 ∧ IntKind.wrap .i64 (N2.tdiv 10000) = Q2 ∧ N2 / 10000 = Q2 ∧ 0 ≤ N2 ∧ N2 ≤ 1000000000000000) ∧ plN Q1 Q2 bb = V ∧ (-9223372036854775808 ≤ Q1 ∧ Q1 ≤ 9223372036854775807) ∧ IntKind.wrap .i64 (xk - V) = x' := by
              rcases HS.out with ⟨e, _⟩ | ⟨_, e⟩
              · exact absurd e hz
              · exact e
            have BB : 0 ≤ bb ∧ bb ≤ 65535 := by
              rw [← HBB.out]
              by_cases hk : k < ps.length
              · rcases PK.out with e | ⟨_, _, _, e⟩
                · rw [e] at hk; simp at hk
                · exact (e k hk).2
              · rw [List.getD_eq_getElem?_getD, List.getElem?_eq_none (by omega)]; simp
            have PLC := hide (fun W => (show Calls Tryz.prog 42 #[.agg #[.int .i64 Q1, .int .i64 Q2], .int .u16 bb] W fun e w' => e = .returned (.int .i64 V) ∧ Below W.heap.size W w' by
              have c := place_any Q1 Q2 bb W hQb BB.1 BB.2
              rwa [hV] at c))
            clear HS hV hQb BB
            by_cases hkp : k < pn
            · obtain ⟨b2, off2, rfl, hc2⟩ : ∃ b2 off2, pb = some ⟨b2, off2, none⟩ ∧ wr.cell? ⟨b2, off2 + k, none⟩ = some (.int .u16 bb) := by
                have hk' : k < ps.length := by rw [← PN.out]; exact hkp
                rcases PK.out with e | ⟨b2, off2, e, g⟩
                · rw [e] at hk'; simp at hk'
                · exact ⟨b2, off2, e, by rw [← HBB.out]; exact (g k hk').1⟩
              have kp : (k : Int) < (pn : Int) := by omega
              go_wp2_with fail
              refine (PLC.out _).mono ?_
              rintro e w7 ⟨rfl, hb7⟩
              have B7 := hide (bnext (balloc B3.out) hb7)
              clear hb7
              go_wp2_with fail
              go_roundw
              case rel => exact ⟨k + 1, by omega, by go_num, by rw [HX1.out], B7.out⟩
              case measure => simp [intOf]; omega
            · obtain rfl : bb = 0 := by rw [← HBB.out, List.getD_eq_getElem?_getD, List.getElem?_eq_none (by rw [← PN.out]; omega)]; rfl
              have kp : ¬ (k : Int) < (pn : Int) := by omega
              go_wp2_with fail
              refine (PLC.out _).mono ?_
              rintro e w7 ⟨rfl, hb7⟩
              have B7 := hide (bnext (balloc B3.out) hb7)
              clear hb7
              go_wp2_with fail
              go_roundw
              case rel => exact ⟨k + 1, by omega, by go_num, by rw [HX1.out], B7.out⟩
              case measure => simp [intOf]; omega
        · obtain rfl : k = n := by omega
          obtain ⟨⟨g1, g2⟩, g3, g4, g5⟩ := F19.out
          obtain ⟨N, hN⟩ : ∃ z, X k = z := ⟨_, rfl⟩
          rw [hN] at g1 g2 g3
          rw [hN]
          have y1 : decide (N < L0) = false := decide_eq_false (by omega)
          have y2 : decide (L1 < N) = false := decide_eq_false (by omega)
          have y3 : decide (V2 < F0) = false := decide_eq_false (by omega)
          have y4 : decide (F1 < V2) = false := decide_eq_false (by omega)
          have T8 := hide (rgAt_later T8'.out hb)
          have T9 := hide (rgAt_later T9'.out hb)
          have B7 := hide (bnext B6.out hb)
          have ⟨t0, t1⟩ := T8.out
          have ⟨t2, t3⟩ := T9.out
          clear g1 g2 g4 g5 hN hb F19 HX' T8' T9' B6 P0 PN
          go_upto_region 21 with fail
          clear t0 t1 t2 t3 y1 y2 y3 y4 g3
          have KP := hide (fun (W : World) (hb : Below wr.heap.size wr W) => (show (W.cell? ⟨w.heap.size, 0, none⟩ = some (.int .i64 x) ∧ W.cell? ⟨w.heap.size, 1, none⟩ = some (.int .i64 y)) ∧ Below wr.heap.size wr W from ⟨⟨later hb (later B7.out R0.out.1), later hb (later B7.out R0.out.2)⟩, hb⟩))
          have H7 := hide (heats_later H0.out B7.out)
          go_cut [17, 18, 10] from 140 to 148 (fun s8 s9 s10 wx => ∃ p q, s8 = .pointer (some ⟨p, 0, none⟩) ∧ s9 = .pointer (some ⟨q, 0, none⟩) ∧ s10 = .int .i64 0 ∧ RgAt wx p A0 A1 ∧ RgAt wx q O0 O1 ∧ Below wr.heap.size wr wx)
          case first =>
            as_aux_lemma =>
            clear F23 F25 F28 F30 G3 G4 T8 T9 hsh gr1 gr2 gr3 gr4
            go_region_held3 (fun W => (W.cell? ⟨w.heap.size, 0, none⟩ = some (.int .i64 x) ∧ W.cell? ⟨w.heap.size, 1, none⟩ = some (.int .i64 y)) ∧ Below wr.heap.size wr W)
              ((go_split_ands; refine KP.out _ ?_; exact (by repeat (first | exact Below.refl _ _ | assumption | apply balloc | apply bdrew | (refine below_drewN ?_ _) | (refine bset ?_ (by first | (simp; done) | omega | (simp; omega)) _) | (refine bnext ?_ (by assumption))))))
              (first | (go_at_call 40; refine (G2.out _ _ _ (by first | exact hAp | exact heats_later hAp (by repeat (first | exact Below.refl _ _ | assumption | apply balloc | apply bdrew | (refine below_drewN ?_ _) | (refine bset ?_ (by first | (simp; done) | omega | (simp; omega)) _) | (refine bnext ?_ (by assumption)))))).mono ?_; rintro e wB ⟨rfl, hbB⟩; obtain ⟨⟨hcB, hfB⟩, ⟨hcB2, hfB2⟩, hcB3, hfB3, ⟨hnB1, hnB2, hnB3, hnB4⟩, ⟨hlB1, hlB2, hlB3, hlB4, hlB5⟩, hsB⟩ := bcellR hbB; (try simp at hsB); (try have zB1 := hcB wr.heap.size 0 (by first | (simp; done) | omega | (simp; omega))); (try have zB2 := hfB wr.heap.size 0 (by first | (simp; done) | omega | (simp; omega))); (try have zB3 := hcB wr.heap.size 1 (by first | (simp; done) | omega | (simp; omega))); (try have zB4 := hfB wr.heap.size 1 (by first | (simp; done) | omega | (simp; omega))); (try have zB5 := hcB (wr.heap.size + 1) 0 (by first | (simp; done) | omega | (simp; omega))); (try have zB6 := hfB (wr.heap.size + 1) 0 (by first | (simp; done) | omega | (simp; omega))); (try have zB7 := hcB (wr.heap.size + 1) 1 (by first | (simp; done) | omega | (simp; omega))); (try have zB8 := hfB (wr.heap.size + 1) 1 (by first | (simp; done) | omega | (simp; omega))); (try have zB9 := hcB (wr.heap.size + 1 + 1) 0 (by first | (simp; done) | omega | (simp; omega))); (try have zB10 := hfB (wr.heap.size + 1 + 1) 0 (by first | (simp; done) | omega | (simp; omega))); (try have zB11 := hcB (wr.heap.size + 1 + 1) 1 (by first | (simp; done) | omega | (simp; omega))); (try have zB12 := hfB (wr.heap.size + 1 + 1) 1 (by first | (simp; done) | omega | (simp; omega))); (try have yBa1 := fun x => hcB2 wr.heap.size 0 x (by first | (simp; done) | omega | (simp; omega))); (try have yBb1 := fun x => hfB2 wr.heap.size 0 x (by first | (simp; done) | omega | (simp; omega))); (try have yBa2 := fun x => hcB2 wr.heap.size 1 x (by first | (simp; done) | omega | (simp; omega))); (try have yBb2 := fun x => hfB2 wr.heap.size 1 x (by first | (simp; done) | omega | (simp; omega))); (try have yBc2 := hnB1 wr.heap.size (by first | (simp; done) | omega | (simp; omega))); (try have yBd2 := hnB2 wr.heap.size (by first | (simp; done) | omega | (simp; omega))); (try have yBe2 := hlB1 wr.heap.size (by first | (simp; done) | omega | (simp; omega))); (try have yBa3 := fun x => hcB2 (wr.heap.size + 1) 0 x (by first | (simp; done) | omega | (simp; omega))); (try have yBb3 := fun x => hfB2 (wr.heap.size + 1) 0 x (by first | (simp; done) | omega | (simp; omega))); (try have yBa4 := fun x => hcB2 (wr.heap.size + 1) 1 x (by first | (simp; done) | omega | (simp; omega))); (try have yBb4 := fun x => hfB2 (wr.heap.size + 1) 1 x (by first | (simp; done) | omega | (simp; omega))); (try have yBc4 := hnB1 (wr.heap.size + 1) (by first | (simp; done) | omega | (simp; omega))); (try have yBd4 := hnB2 (wr.heap.size + 1) (by first | (simp; done) | omega | (simp; omega))); (try have yBe4 := hlB1 (wr.heap.size + 1) (by first | (simp; done) | omega | (simp; omega))); (try have yBa5 := fun x => hcB2 (wr.heap.size + 1 + 1) 0 x (by first | (simp; done) | omega | (simp; omega))); (try have yBb5 := fun x => hfB2 (wr.heap.size + 1 + 1) 0 x (by first | (simp; done) | omega | (simp; omega))); (try have yBa6 := fun x => hcB2 (wr.heap.size + 1 + 1) 1 x (by first | (simp; done) | omega | (simp; omega))); (try have yBb6 := fun x => hfB2 (wr.heap.size + 1 + 1) 1 x (by first | (simp; done) | omega | (simp; omega))); (try have yBc6 := hnB1 (wr.heap.size + 1 + 1) (by first | (simp; done) | omega | (simp; omega))); (try have yBd6 := hnB2 (wr.heap.size + 1 + 1) (by first | (simp; done) | omega | (simp; omega))); (try have yBe6 := hlB1 (wr.heap.size + 1 + 1) (by first | (simp; done) | omega | (simp; omega)))) | (refine step_heats rfl (.tmp 141) (.tmp 142) rfl _ (by rfl) _ _ _ _ HL.out (by rfl) NIL.out (by have := LL.out; have := HL.out; omega) (heats_later H7.out (by repeat (first | exact Below.refl _ _ | assumption | apply balloc | apply bdrew | (refine below_drewN ?_ _) | (refine bset ?_ (by first | (simp; done) | omega | (simp; omega)) _) | (refine bnext ?_ (by assumption))))) ?_; intro b' c' wA hAp hbA; obtain ⟨⟨hcA, hfA⟩, ⟨hcA2, hfA2⟩, hcA3, hfA3, ⟨hnA1, hnA2, hnA3, hnA4⟩, ⟨hlA1, hlA2, hlA3, hlA4, hlA5⟩, hsA⟩ := bcellR hbA; (try simp at hsA); (try have zA1 := hcA wr.heap.size 0 (by first | (simp; done) | omega | (simp; omega))); (try have zA2 := hfA wr.heap.size 0 (by first | (simp; done) | omega | (simp; omega))); (try have zA3 := hcA wr.heap.size 1 (by first | (simp; done) | omega | (simp; omega))); (try have zA4 := hfA wr.heap.size 1 (by first | (simp; done) | omega | (simp; omega))); (try have zA5 := hcA (wr.heap.size + 1) 0 (by first | (simp; done) | omega | (simp; omega))); (try have zA6 := hfA (wr.heap.size + 1) 0 (by first | (simp; done) | omega | (simp; omega))); (try have zA7 := hcA (wr.heap.size + 1) 1 (by first | (simp; done) | omega | (simp; omega))); (try have zA8 := hfA (wr.heap.size + 1) 1 (by first | (simp; done) | omega | (simp; omega))); (try have zA9 := hcA (wr.heap.size + 1 + 1) 0 (by first | (simp; done) | omega | (simp; omega))); (try have zA10 := hfA (wr.heap.size + 1 + 1) 0 (by first | (simp; done) | omega | (simp; omega))); (try have zA11 := hcA (wr.heap.size + 1 + 1) 1 (by first | (simp; done) | omega | (simp; omega))); (try have zA12 := hfA (wr.heap.size + 1 + 1) 1 (by first | (simp; done) | omega | (simp; omega))); (try have yAa1 := fun x => hcA2 wr.heap.size 0 x (by first | (simp; done) | omega | (simp; omega))); (try have yAb1 := fun x => hfA2 wr.heap.size 0 x (by first | (simp; done) | omega | (simp; omega))); (try have yAa2 := fun x => hcA2 wr.heap.size 1 x (by first | (simp; done) | omega | (simp; omega))); (try have yAb2 := fun x => hfA2 wr.heap.size 1 x (by first | (simp; done) | omega | (simp; omega))); (try have yAc2 := hnA1 wr.heap.size (by first | (simp; done) | omega | (simp; omega))); (try have yAd2 := hnA2 wr.heap.size (by first | (simp; done) | omega | (simp; omega))); (try have yAe2 := hlA1 wr.heap.size (by first | (simp; done) | omega | (simp; omega))); (try have yAa3 := fun x => hcA2 (wr.heap.size + 1) 0 x (by first | (simp; done) | omega | (simp; omega))); (try have yAb3 := fun x => hfA2 (wr.heap.size + 1) 0 x (by first | (simp; done) | omega | (simp; omega))); (try have yAa4 := fun x => hcA2 (wr.heap.size + 1) 1 x (by first | (simp; done) | omega | (simp; omega))); (try have yAb4 := fun x => hfA2 (wr.heap.size + 1) 1 x (by first | (simp; done) | omega | (simp; omega))); (try have yAc4 := hnA1 (wr.heap.size + 1) (by first | (simp; done) | omega | (simp; omega))); (try have yAd4 := hnA2 (wr.heap.size + 1) (by first | (simp; done) | omega | (simp; omega))); (try have yAe4 := hlA1 (wr.heap.size + 1) (by first | (simp; done) | omega | (simp; omega))); (try have yAa5 := fun x => hcA2 (wr.heap.size + 1 + 1) 0 x (by first | (simp; done) | omega | (simp; omega))); (try have yAb5 := fun x => hfA2 (wr.heap.size + 1 + 1) 0 x (by first | (simp; done) | omega | (simp; omega))); (try have yAa6 := fun x => hcA2 (wr.heap.size + 1 + 1) 1 x (by first | (simp; done) | omega | (simp; omega))); (try have yAb6 := fun x => hfA2 (wr.heap.size + 1 + 1) 1 x (by first | (simp; done) | omega | (simp; omega))); (try have yAc6 := hnA1 (wr.heap.size + 1 + 1) (by first | (simp; done) | omega | (simp; omega))); (try have yAd6 := hnA2 (wr.heap.size + 1 + 1) (by first | (simp; done) | omega | (simp; omega))); (try have yAe6 := hlA1 (wr.heap.size + 1 + 1) (by first | (simp; done) | omega | (simp; omega)))))
            all_goals
              go_wp2_with fail
              go_meet
              refine ⟨_, _, rfl, rfl, rfl, ⟨?_, ?_⟩, ⟨?_, ?_⟩, ?_⟩
              rotate_left 4
              · exact (by repeat (first | exact Below.refl _ _ | exact hbA | exact hbB | apply balloc | apply bdrew | (refine bset ?_ (by first | (simp; done) | omega | (simp; omega)) _) | (refine bnext ?_ hbB) | (refine bnext ?_ hbA)))
              all_goals first | (simp [go_sem]; done) | (simp (maxDischargeDepth := 8) [go_sem, set_selfR, hcB, hfB, hcB2, hfB2, hcB3, hfB3, hnB1, hnB2, hnB3, hnB4, hlB1, hlB2, hlB3, hlB4, hlB5, hcA, hfA, hcA2, hfA2, hcA3, hfA3, hnA1, hnA2, hnA3, hnA4, hlA1, hlA2, hlA3, hlA4, hlA5]; done)
          case rest =>
            obtain ⟨p17, q18, rfl, rfl, rfl, hp, hq, hb5⟩ := hcut
            obtain ⟨w8, hw8⟩ : ∃ z, wc = z := ⟨_, rfl⟩
            rw [hw8] at hp hq hb5 ⊢
            have T17 := hide hp
            have T18 := hide hq
            have T8b := hide (rgAt_later T8.out hb5)
            have T9b := hide (rgAt_later T9.out hb5)
            have B8 := hide (bnext B7.out hb5)
            have H8 := hide (heats_later H7.out hb5)
            clear hp hq hb5 hw8 KP T8 T9 B7 H7 G2
            have KP := hide (fun (W : World) (hb : Below w8.heap.size w8 W) => (show (W.cell? ⟨w.heap.size, 0, none⟩ = some (.int .i64 x) ∧ W.cell? ⟨w.heap.size, 1, none⟩ = some (.int .i64 y)) ∧ Below w8.heap.size w8 W from ⟨⟨later hb (later B8.out R0.out.1), later hb (later B8.out R0.out.2)⟩, hb⟩))
            go_upto_region 22 with fail
            go_cut [19, 20, 21] from 149 to 162 (fun s8 s9 s10 wx => ∃ p q, s8 = .pointer (some ⟨p, 0, none⟩) ∧ s9 = .pointer (some ⟨q, 0, none⟩) ∧ s10 = .int .i64 0 ∧ RgAt wx p z0 z1 ∧ RgAt wx q f0 f1 ∧ Below w8.heap.size w8 wx)
            case first =>
              as_aux_lemma =>
              have ⟨⟨sh1, sh2⟩, sh3, sh4⟩ := hsh.out
              clear F23 F25 F28 F30 G4 T8b T9b T17 T18 hsh KP
              go_wp2_with (at_builtin; refine wpList_heats rfl (.tmp 150) (.tmp 151) rfl _ rfl _ _ _ _ HL.out rfl NIL.out (by have := LL.out; have := HL.out; omega) (heats_later H8.out (balloc (Below.refl _ _))) ?_)
              intro b' c' wA hAp hbA
              have BA := hide (show Below w8.heap.size w8 wA from bnext (balloc (Below.refl _ _)) (by rw [World.size_alloc]; exact hbA))
              clear hbA
              go_wp2_with fail
              refine (G3.out _ _ _ hAp).mono ?_
              rintro e wB ⟨rfl, hbB⟩
              have BB := hide (bnext BA.out hbB)
              clear hbB hAp
              go_wp2_with fail
              go_meet
              refine ⟨_, _, rfl, rfl, rfl, ⟨?_, ?_⟩, ⟨?_, ?_⟩, ?_⟩
              rotate_left 4
              · exact (by repeat (first | exact BB.out | apply balloc | apply bdrew | (refine bset ?_ (by have := BB.out.size; simp <;> omega) _)))
              all_goals (simp [go_sem]; done)
            case rest =>
              obtain ⟨p19, q20, rfl, rfl, rfl, hp, hq, hb5⟩ := hcut
              obtain ⟨w9, hw9⟩ : ∃ z, wc = z := ⟨_, rfl⟩
              rw [hw9] at hp hq hb5 ⊢
              have T19 := hide hp
              have T20 := hide hq
              have T8c := hide (rgAt_later T8b.out hb5)
              have T9c := hide (rgAt_later T9b.out hb5)
              have B9 := hide (bnext B8.out hb5)
              have H9 := hide (heats_later H8.out hb5)
              have ⟨a0, a1⟩ := rgAt_later T17.out hb5
              have ⟨a2, a3⟩ := rgAt_later T18.out hb5
              have ⟨t0, t1⟩ := T8c.out
              have ⟨t2, t3⟩ := T9c.out
              have ⟨s0, s1⟩ := T19.out
              have ⟨s2, s3⟩ := T20.out
              obtain ⟨⟨k1, k2⟩, k3, k4⟩ := F23.out
              obtain ⟨⟨⟨m1, m2⟩, m3, m4⟩, m5, m6⟩ := F25.out
              have y1 : decide (L0 < A0) = false := decide_eq_false (by omega)
              have y2 : decide (A1 < L1) = false := decide_eq_false (by omega)
              have y3 : decide (F0 < O0) = false := decide_eq_false (by omega)
              have y4 : decide (O1 < F1) = false := decide_eq_false (by omega)
              have y5 : decide (z0 < L0) = false := decide_eq_false (by omega)
              have y6 : decide (L1 < z1) = false := decide_eq_false (by omega)
              have y7 : decide (f0 < F0) = false := decide_eq_false (by omega)
              have y8 : decide (F1 < f1) = false := decide_eq_false (by omega)
              have F28' := F28
              clear hp hq hb5 hw9 KP T8b T9b T17 T18 B8 H8 G3 k1 k2 k3 k4 m1 m2 m3 m4 F23 F25 F28
              by_cases hk0 : k = 0
              · as_aux_lemma =>
                subst hk0
                obtain ⟨rfl, rfl⟩ := F28'.out rfl
                have BW := hide (bnext B0.out B9.out)
                clear F28' F30 G4
                go_wp2_with fail
                refine (known5_any _).mono ?_
                rintro e w10 ⟨rfl, hb10⟩
                go_wp2_with fail
                go_ret
                exact ⟨rfl, bnext BW.out hb10⟩
              · obtain ⟨m, hm⟩ : ∃ m, k = m + 1 := ⟨k - 1, by omega⟩
                have HM := hide hm
                obtain ⟨u1, u2⟩ := F30.out m hm
                have G4' := hide (fun W b c => G4.out m W b c hm)
                have kz : (k : Int) ≠ 0 := by omega
                have kb : ((k : Int) == 0) = false := by simpa using hk0
                clear F28' F30 G4 hk0 hm
                go_upto_region 29 with fail
                clear a0 a1 a2 a3 t0 t1 t2 t3 s0 s1 s2 s3 y1 y2 y3 y4 y5 y6 y7 y8 m5 m6 T19 T20
                have KP := hide (fun (W : World) (hb : Below w9.heap.size w9 W) => (show (W.cell? ⟨w.heap.size, 0, none⟩ = some (.int .i64 x) ∧ W.cell? ⟨w.heap.size, 1, none⟩ = some (.int .i64 y)) ∧ Below w9.heap.size w9 W from ⟨⟨later hb (later B9.out R0.out.1), later hb (later B9.out R0.out.2)⟩, hb⟩))
                go_cut [22, 23, 10] from 252 to 267 (fun s8 s9 s10 wx => ∃ p q, s8 = .pointer (some ⟨p, 0, none⟩) ∧ s9 = .pointer (some ⟨q, 0, none⟩) ∧ s10 = .int .i64 0 ∧ RgAt wx p b0 b1 ∧ RgAt wx q c0 c1 ∧ Below w9.heap.size w9 wx)
                case first =>
                  as_aux_lemma =>
                  have ⟨⟨sh1, sh2⟩, sh3, sh4⟩ := hsh.out
                  obtain ⟨b', off', rfl⟩ : ∃ b' off', a = some ⟨b', off', none⟩ := by
                    rcases H9.out with e | ⟨b', off', e, _⟩
                    · have := HL.out; have := HM.out; rw [e] at *; simp at *; omega
                    · exact ⟨b', off', e⟩
                  have HT := hide (show IsHeats w9 (some ⟨b', off', none⟩) (hs.take m) from heats_take H9.out m)
                  have NILm := hide (show (some ⟨b', off', none⟩ : Option Addr) = none → cap = 0 ∧ hs.take m = [] from fun e => by cases e)
                  have HLm := hide (show m = (hs.take m).length by rw [List.length_take]; have := HL.out; have := HM.out; omega)
                  have wk : IntKind.wrap .i64 ((k : Int) - 1) = (m : Int) := by have := HM.out; rw [show (k : Int) - 1 = m by omega]; exact IntWalk.i64_in _ (by have := LL.out; omega)
                  have mc : m ≤ cap := by have := CAP.out; have := HM.out; omega
                  have mk : m ≤ k := by have := HM.out; omega
                  have LLm := hide (show ¬ 40 < m by have := LL.out; have := HM.out; omega)
                  clear u1 u2 T8c T9c hsh gr1 gr2 gr3 gr4 H0
                  go_region_held3 (fun W => (W.cell? ⟨w.heap.size, 0, none⟩ = some (.int .i64 x) ∧ W.cell? ⟨w.heap.size, 1, none⟩ = some (.int .i64 y)) ∧ Below w9.heap.size w9 W)
                    ((go_split_ands; refine KP.out _ ?_; exact (by repeat (first | exact Below.refl _ _ | assumption | apply balloc | apply bdrew | (refine below_drewN ?_ _) | (refine bset ?_ (by first | (simp; done) | omega | (simp; omega)) _) | (refine bnext ?_ (by assumption))))))
                    (first | (go_at_call 40; refine (G4'.out _ _ _ (by first | exact hAp | exact heats_later hAp (by repeat (first | exact Below.refl _ _ | assumption | apply balloc | apply bdrew | (refine below_drewN ?_ _) | (refine bset ?_ (by first | (simp; done) | omega | (simp; omega)) _) | (refine bnext ?_ (by assumption)))))).mono ?_; rintro e wB ⟨rfl, hbB⟩; obtain ⟨⟨hcB, hfB⟩, ⟨hcB2, hfB2⟩, hcB3, hfB3, ⟨hnB1, hnB2, hnB3, hnB4⟩, ⟨hlB1, hlB2, hlB3, hlB4, hlB5⟩, hsB⟩ := bcellR hbB; (try simp at hsB); (try have zB1 := hcB w9.heap.size 0 (by first | (simp; done) | omega | (simp; omega))); (try have zB2 := hfB w9.heap.size 0 (by first | (simp; done) | omega | (simp; omega))); (try have zB3 := hcB w9.heap.size 1 (by first | (simp; done) | omega | (simp; omega))); (try have zB4 := hfB w9.heap.size 1 (by first | (simp; done) | omega | (simp; omega))); (try have zB5 := hcB (w9.heap.size + 1) 0 (by first | (simp; done) | omega | (simp; omega))); (try have zB6 := hfB (w9.heap.size + 1) 0 (by first | (simp; done) | omega | (simp; omega))); (try have zB7 := hcB (w9.heap.size + 1) 1 (by first | (simp; done) | omega | (simp; omega))); (try have zB8 := hfB (w9.heap.size + 1) 1 (by first | (simp; done) | omega | (simp; omega))); (try have zB9 := hcB (w9.heap.size + 1 + 1) 0 (by first | (simp; done) | omega | (simp; omega))); (try have zB10 := hfB (w9.heap.size + 1 + 1) 0 (by first | (simp; done) | omega | (simp; omega))); (try have zB11 := hcB (w9.heap.size + 1 + 1) 1 (by first | (simp; done) | omega | (simp; omega))); (try have zB12 := hfB (w9.heap.size + 1 + 1) 1 (by first | (simp; done) | omega | (simp; omega))); (try have yBa1 := fun x => hcB2 w9.heap.size 0 x (by first | (simp; done) | omega | (simp; omega))); (try have yBb1 := fun x => hfB2 w9.heap.size 0 x (by first | (simp; done) | omega | (simp; omega))); (try have yBa2 := fun x => hcB2 w9.heap.size 1 x (by first | (simp; done) | omega | (simp; omega))); (try have yBb2 := fun x => hfB2 w9.heap.size 1 x (by first | (simp; done) | omega | (simp; omega))); (try have yBc2 := hnB1 w9.heap.size (by first | (simp; done) | omega | (simp; omega))); (try have yBd2 := hnB2 w9.heap.size (by first | (simp; done) | omega | (simp; omega))); (try have yBe2 := hlB1 w9.heap.size (by first | (simp; done) | omega | (simp; omega))); (try have yBa3 := fun x => hcB2 (w9.heap.size + 1) 0 x (by first | (simp; done) | omega | (simp; omega))); (try have yBb3 := fun x => hfB2 (w9.heap.size + 1) 0 x (by first | (simp; done) | omega | (simp; omega))); (try have yBa4 := fun x => hcB2 (w9.heap.size + 1) 1 x (by first | (simp; done) | omega | (simp; omega))); (try have yBb4 := fun x => hfB2 (w9.heap.size + 1) 1 x (by first | (simp; done) | omega | (simp; omega))); (try have yBc4 := hnB1 (w9.heap.size + 1) (by first | (simp; done) | omega | (simp; omega))); (try have yBd4 := hnB2 (w9.heap.size + 1) (by first | (simp; done) | omega | (simp; omega))); (try have yBe4 := hlB1 (w9.heap.size + 1) (by first | (simp; done) | omega | (simp; omega))); (try have yBa5 := fun x => hcB2 (w9.heap.size + 1 + 1) 0 x (by first | (simp; done) | omega | (simp; omega))); (try have yBb5 := fun x => hfB2 (w9.heap.size + 1 + 1) 0 x (by first | (simp; done) | omega | (simp; omega))); (try have yBa6 := fun x => hcB2 (w9.heap.size + 1 + 1) 1 x (by first | (simp; done) | omega | (simp; omega))); (try have yBb6 := fun x => hfB2 (w9.heap.size + 1 + 1) 1 x (by first | (simp; done) | omega | (simp; omega))); (try have yBc6 := hnB1 (w9.heap.size + 1 + 1) (by first | (simp; done) | omega | (simp; omega))); (try have yBd6 := hnB2 (w9.heap.size + 1 + 1) (by first | (simp; done) | omega | (simp; omega))); (try have yBe6 := hlB1 (w9.heap.size + 1 + 1) (by first | (simp; done) | omega | (simp; omega)))) | (refine step_heats rfl (.tmp 253) (.tmp 258) rfl _ (by rfl) _ _ _ _ HLm.out (by rfl) NILm.out (by have := LLm.out; have := HLm.out; omega) (heats_later HT.out (by repeat (first | exact Below.refl _ _ | assumption | apply balloc | apply bdrew | (refine below_drewN ?_ _) | (refine bset ?_ (by first | (simp; done) | omega | (simp; omega)) _) | (refine bnext ?_ (by assumption))))) ?_; intro b' c' wA hAp hbA; obtain ⟨⟨hcA, hfA⟩, ⟨hcA2, hfA2⟩, hcA3, hfA3, ⟨hnA1, hnA2, hnA3, hnA4⟩, ⟨hlA1, hlA2, hlA3, hlA4, hlA5⟩, hsA⟩ := bcellR hbA; (try simp at hsA); (try have zA1 := hcA w9.heap.size 0 (by first | (simp; done) | omega | (simp; omega))); (try have zA2 := hfA w9.heap.size 0 (by first | (simp; done) | omega | (simp; omega))); (try have zA3 := hcA w9.heap.size 1 (by first | (simp; done) | omega | (simp; omega))); (try have zA4 := hfA w9.heap.size 1 (by first | (simp; done) | omega | (simp; omega))); (try have zA5 := hcA (w9.heap.size + 1) 0 (by first | (simp; done) | omega | (simp; omega))); (try have zA6 := hfA (w9.heap.size + 1) 0 (by first | (simp; done) | omega | (simp; omega))); (try have zA7 := hcA (w9.heap.size + 1) 1 (by first | (simp; done) | omega | (simp; omega))); (try have zA8 := hfA (w9.heap.size + 1) 1 (by first | (simp; done) | omega | (simp; omega))); (try have zA9 := hcA (w9.heap.size + 1 + 1) 0 (by first | (simp; done) | omega | (simp; omega))); (try have zA10 := hfA (w9.heap.size + 1 + 1) 0 (by first | (simp; done) | omega | (simp; omega))); (try have zA11 := hcA (w9.heap.size + 1 + 1) 1 (by first | (simp; done) | omega | (simp; omega))); (try have zA12 := hfA (w9.heap.size + 1 + 1) 1 (by first | (simp; done) | omega | (simp; omega))); (try have yAa1 := fun x => hcA2 w9.heap.size 0 x (by first | (simp; done) | omega | (simp; omega))); (try have yAb1 := fun x => hfA2 w9.heap.size 0 x (by first | (simp; done) | omega | (simp; omega))); (try have yAa2 := fun x => hcA2 w9.heap.size 1 x (by first | (simp; done) | omega | (simp; omega))); (try have yAb2 := fun x => hfA2 w9.heap.size 1 x (by first | (simp; done) | omega | (simp; omega))); (try have yAc2 := hnA1 w9.heap.size (by first | (simp; done) | omega | (simp; omega))); (try have yAd2 := hnA2 w9.heap.size (by first | (simp; done) | omega | (simp; omega))); (try have yAe2 := hlA1 w9.heap.size (by first | (simp; done) | omega | (simp; omega))); (try have yAa3 := fun x => hcA2 (w9.heap.size + 1) 0 x (by first | (simp; done) | omega | (simp; omega))); (try have yAb3 := fun x => hfA2 (w9.heap.size + 1) 0 x (by first | (simp; done) | omega | (simp; omega))); (try have yAa4 := fun x => hcA2 (w9.heap.size + 1) 1 x (by first | (simp; done) | omega | (simp; omega))); (try have yAb4 := fun x => hfA2 (w9.heap.size + 1) 1 x (by first | (simp; done) | omega | (simp; omega))); (try have yAc4 := hnA1 (w9.heap.size + 1) (by first | (simp; done) | omega | (simp; omega))); (try have yAd4 := hnA2 (w9.heap.size + 1) (by first | (simp; done) | omega | (simp; omega))); (try have yAe4 := hlA1 (w9.heap.size + 1) (by first | (simp; done) | omega | (simp; omega))); (try have yAa5 := fun x => hcA2 (w9.heap.size + 1 + 1) 0 x (by first | (simp; done) | omega | (simp; omega))); (try have yAb5 := fun x => hfA2 (w9.heap.size + 1 + 1) 0 x (by first | (simp; done) | omega | (simp; omega))); (try have yAa6 := fun x => hcA2 (w9.heap.size + 1 + 1) 1 x (by first | (simp; done) | omega | (simp; omega))); (try have yAb6 := fun x => hfA2 (w9.heap.size + 1 + 1) 1 x (by first | (simp; done) | omega | (simp; omega))); (try have yAc6 := hnA1 (w9.heap.size + 1 + 1) (by first | (simp; done) | omega | (simp; omega))); (try have yAd6 := hnA2 (w9.heap.size + 1 + 1) (by first | (simp; done) | omega | (simp; omega))); (try have yAe6 := hlA1 (w9.heap.size + 1 + 1) (by first | (simp; done) | omega | (simp; omega)))))
                  all_goals
                    go_wp2_with fail
                    go_meet
                    refine ⟨_, _, rfl, rfl, rfl, ⟨?_, ?_⟩, ⟨?_, ?_⟩, ?_⟩
                    rotate_left 4
                    · exact (by repeat (first | exact Below.refl _ _ | exact hbA | exact hbB | apply balloc | apply bdrew | (refine bset ?_ (by first | (simp; done) | omega | (simp; omega)) _) | (refine bnext ?_ hbB) | (refine bnext ?_ hbA)))
                    all_goals first | (simp [go_sem]; done) | (simp (maxDischargeDepth := 8) [go_sem, set_selfR, hcB, hfB, hcB2, hfB2, hcB3, hfB3, hnB1, hnB2, hnB3, hnB4, hlB1, hlB2, hlB3, hlB4, hlB5, hcA, hfA, hcA2, hfA2, hcA3, hfA3, hnA1, hnA2, hnA3, hnA4, hlA1, hlA2, hlA3, hlA4, hlA5]; done)
                case rest =>
                  obtain ⟨p22, q23, rfl, rfl, rfl, hp, hq, hb5⟩ := hcut
                  have BW := hide (bnext B0.out (bnext B9.out hb5))
                  have ⟨a0, a1⟩ := hp
                  have ⟨t0, t1⟩ := rgAt_later T8c.out hb5
                  have y1 : decide (L0 ≤ b0) = true := decide_eq_true u1
                  have y2 : decide (L1 ≤ b1) = true := decide_eq_true u2
                  clear hp hq hb5 KP u1 u2
                  go_wp2_with fail
                  refine (known5_any _).mono ?_
                  rintro e w10 ⟨rfl, hb10⟩
                  go_wp2_with fail
                  go_ret
                  exact ⟨rfl, bnext BW.out hb10⟩
    · as_aux_lemma =>
      obtain ⟨rfl, ⟨rfl, rfl⟩, rfl, rfl⟩ := hE.out e0
      have ⟨t0, t1⟩ := T8.out
      have ⟨t2, t3⟩ := T9.out
      clear hE PL HX AN2 AN3 AN4 f19 f23 f25 f28 f30 e0
      go_wp2_with fail
      refine (known5_any _).mono ?_
      rintro e w6 ⟨rfl, hb6⟩
      go_wp2_with fail
      go_ret
      exact ⟨rfl, bnext BW.out hb6⟩
theorem oxy_ok {hs : List Heat} {x y P : Int} (h : (annQ hs x y P).e = 0) : hs.all heatOk = true ∧ (0 ≤ x ∧ x ≤ y ∧ y ≤ 1000000) := by
  have e0 : annE hs x y P = 0 := by
    unfold annQ at h
    split at h
    · assumption
    · exact h
  unfold annE at e0
  split at e0
  · split at e0
    · rename_i hk
      simp [rgOk] at hk
      exact ⟨by simpa using hk.1, by omega⟩
    · simp at e0
  · simp at e0
theorem oxy_bad {hs : List Heat} {x y P : Int} (hl : hs.length ≤ 30) (hP : P ≠ 0) (h : (annQ hs x y P).e ≠ 0) : (annQ hs x y P).e = 2 ∧ ((annQ hs x y P).a = 0 ∧ (annQ hs x y P).b = 0) ∧ (annQ hs x y P).c = 0 ∧ (annQ hs x y P).d = 0 := by
  have ne : annE hs x y P ≠ 0 := by
    intro e
    apply h
    unfold annQ
    rw [if_pos e]
  have e2 : annE hs x y P = 2 := by
    have hp : (P != 0) = true := by simpa using hP
    unfold annE at ne ⊢
    rw [decide_eq_true (by omega), hp] at ne ⊢
    simp only [if_true] at ne ⊢
    split
    · rename_i hk; rw [if_pos hk] at ne; exact absurd rfl ne
    · rfl
  unfold annQ
  rw [if_neg ne]
  exact ⟨e2, ⟨rfl, rfl⟩, rfl, rfl⟩
theorem defectOxygen_walk (hs : List Heat) (ps : List Int) (x y o g : Int) (a pb : Option Addr) (cap pn pc : Nat) (w : World) (hl : hs.length ≤ maxLen ∧ (a = none → cap = 0 ∧ hs = [])) (hc : hs.length ≤ cap) (h : IsHeats w a hs) (hp : IsPart w pb ps) (hpn : pn = ps.length) (ho : 0 ≤ o ∧ o ≤ 65535) (hg : 0 ≤ g ∧ g ≤ 255) :
    Calls Tryz.prog 13 #[.slice a hs.length cap, .agg #[.int .i64 x, .int .i64 y], .agg #[.int .u16 o, .int .u8 g, .slice pb pn pc]] w fun e w' => e = .returned (.bool true) ∧ Below w.heap.size w w' := by
  by_cases hn : 30 < hs.length
  · exact defectOxygen_many x y o g hs.length pn pc a pb cap w hn
  obtain ⟨r, hr⟩ : ∃ r : Nat, g % 5 = (r : Int) := ⟨(g % 5).toNat, by omega⟩
  have r5 : r < 5 := by omega
  have n30 : hs.length ≤ 30 := by omega
  have PW : (IntKind.wrap .u8 (2 ^ r) = ((2 ^ r : Nat) : Int) ∧ IntKind.wrap .u8 (1 * 2 ^ r) = ((2 ^ r : Nat) : Int)) ∧ ((2 ^ r : Nat) : Int) ≠ 0 := by
    obtain rfl | rfl | rfl | rfl | rfl : r = 0 ∨ r = 1 ∨ r = 2 ∨ r = 3 ∨ r = 4 := by omega
    all_goals decide
  have G := hide (fun (e0 : (annQ hs x y ((2 ^ r : Nat) : Int)).e = 0) => (show hs.all heatOk = true ∧ (0 ≤ x ∧ x ≤ y ∧ y ≤ 1000000) ∧ (x ≤ plN x y o ∧ plN x y o ≤ y) from ⟨(oxy_ok e0).1, (oxy_ok e0).2, plN_in o (oxy_ok e0).2.2.1⟩))
  refine defectOxygen_go x y o g (plN x y o) ((2 ^ r : Nat) : Int) (annQ hs x y ((2 ^ r : Nat) : Int)).e (annQ hs x y ((2 ^ r : Nat) : Int)).a (annQ hs x y ((2 ^ r : Nat) : Int)).b (annQ hs x y ((2 ^ r : Nat) : Int)).c (annQ hs x y ((2 ^ r : Nat) : Int)).d
    (annQ hs x y 31).a (annQ hs x y 31).b (annQ hs x y 31).c (annQ hs x y 31).d (keptQ true r (plN x y o) hs) (keptQ false r (plN x y o) hs) (plN x y o - keptQ false r (plN x y o) hs) (plN x y o - keptQ true r (plN x y o) hs)
    (keptQ true r x (hs.take (hs.length - 1))) (keptQ false r y (hs.take (hs.length - 1))) (x - keptQ false r x (hs.take (hs.length - 1))) (y - keptQ true r y (hs.take (hs.length - 1))) (plN x y o - ovQ hs ps r (plN x y o) hs.length) r hs.length hs ps a pb cap pn pc (ovQ hs ps r (plN x y o)) w hn (hide rfl) (hide hl.2) (hide hc) r5
    (hide ⟨by rw [Int.tmod_eq_emod_of_nonneg hg.1, hr]; exact IntWalk.i64_in _ (by omega), hr, hg⟩) (hide ⟨PW.1, by rw [show IntKind.wrap .u64 (r : Int) = (r : Int) % 18446744073709551616 from rfl]; omega, by omega⟩) (hide h) (hide hp) (hide hpn) (hide fun W b c hW => anneal_any hs x y _ b c W (by omega) hW) (hide fun e0 => oxy_bad n30 PW.2 e0)
    (hide fun e0 W => ?_) (hide fun e0 => ?_) (hide fun e0 W b c hW => ?_) (hide fun e0 W b c hW => ?_) (hide fun e0 m W b c hm hW => ?_) (hide fun e0 => ?_) (hide fun e0 => ?_) (hide fun e0 => ?_) (hide fun e0 hz => ?_) (hide fun e0 m hm => ?_)
  · obtain ⟨ok, ⟨x0, xy, y1⟩, v0, v1⟩ := G.out e0
    exact place_any x y o W (by omega) ho.1 ho.2
  · obtain ⟨ok, ⟨x0, xy, y1⟩, v0, v1⟩ := G.out e0
    refine ⟨rfl, fun k hk => ?_⟩
    have b := ovQ_between ok ps (r := r) (x := plN x y o) (by omega) (by omega) k (by omega)
    exact ovIs_step (all_getD ok hk) _ b.1.1 b.1.2
  · obtain ⟨ok, ⟨x0, xy, y1⟩, v0, v1⟩ := G.out e0
    have c' := anneal_any hs x y 31 b c W (by omega) hW
    rwa [(annQ_all ok n30 x0 xy y1).1] at c'
  · obtain ⟨ok, ⟨x0, xy, y1⟩, v0, v1⟩ := G.out e0
    have c' := anneal_any hs (plN x y o) (plN x y o) ((2 ^ r : Nat) : Int) b c W (by omega) hW
    rwa [annQ_one ok n30 (by omega) (Int.le_refl _) (by omega) r5] at c'
  · obtain ⟨ok, ⟨x0, xy, y1⟩, v0, v1⟩ := G.out e0
    have em : hs.length - 1 = m := by omega
    have lm : (hs.take m).length = m := by rw [List.length_take]; omega
    have c' := anneal_any (hs.take m) x y ((2 ^ r : Nat) : Int) b c W (by omega) hW
    rw [annQ_one (all_take ok m) (by omega) x0 xy y1 r5, lm] at c'
    rw [em]
    exact c'
  · obtain ⟨ok, ⟨x0, xy, y1⟩, v0, v1⟩ := G.out e0
    rw [annQ_one ok n30 x0 xy y1 r5]
    have b := ovQ_between ok ps (r := r) (x := plN x y o) (by omega) (by omega) hs.length (by omega)
    rw [List.take_length] at b
    have m1 := keptQ_mono ok true (r := r) v0
    have m2 := keptQ_mono ok false (r := r) v0
    have m3 := keptQ_mono ok true (r := r) v1
    have m4 := keptQ_mono ok false (r := r) v1
    simp only
    refine ⟨by omega, IntWalk.i64_in _ (by omega), by omega⟩
  · obtain ⟨ok, ⟨x0, xy, y1⟩, v0, v1⟩ := G.out e0
    rw [annQ_one ok n30 x0 xy y1 r5]
    exact (annQ_all ok n30 x0 xy y1).2 r r5
  · obtain ⟨ok, ⟨x0, xy, y1⟩, v0, v1⟩ := G.out e0
    rw [annQ_one ok n30 x0 xy y1 r5]
    have m1 := keptQ_mono ok true (r := r) v0
    have m2 := keptQ_mono ok false (r := r) v0
    have m3 := keptQ_mono ok true (r := r) v1
    have m4 := keptQ_mono ok false (r := r) v1
    have k1 := keptQ_far ok true (r := r) (x := plN x y o) (by omega) (by omega)
    have k2 := keptQ_far ok false (r := r) (x := plN x y o) (by omega) (by omega)
    simp only
    refine ⟨by omega, ?_, ?_⟩
    · rw [show keptQ true r (plN x y o) hs + (plN x y o - keptQ true r (plN x y o) hs) = plN x y o by omega]; exact IntWalk.i64_in _ (by omega)
    · rw [show keptQ false r (plN x y o) hs + (plN x y o - keptQ false r (plN x y o) hs) = plN x y o by omega]; exact IntWalk.i64_in _ (by omega)
  · have e := List.eq_nil_of_length_eq_zero hz
    subst e
    exact ⟨rfl, rfl⟩
  · obtain ⟨ok, ⟨x0, xy, y1⟩, v0, v1⟩ := G.out e0
    rw [annQ_one ok n30 x0 xy y1 r5]
    have em : hs.length - 1 = m := by omega
    have tk : hs.take (m + 1) = hs := by rw [← hm, List.take_length]
    have s1 := keptQ_snoc true r x (hs := hs) (k := m) (by omega)
    have s2 := keptQ_snoc false r y (hs := hs) (k := m) (by omega)
    rw [tk] at s1 s2
    have k1 := keptQ_far (all_take ok m) true (r := r) x0 (by omega)
    have k2 := keptQ_far (all_take ok m) false (r := r) (x := y) (by omega) y1
    have l1 := keptS_far (all_getD ok (i := m) (by omega)) (r := r) true k1.1 (by omega)
    have l2 := keptS_far (all_getD ok (i := m) (by omega)) (r := r) false k2.1 (by omega)
    rw [em]
    simp only
    rw [s1, s2]
    omega
end Go.Proofs.YtlpdbjkpgfpjjaaGreat
