/-
  defect: Anneal. defect: the first rate that is above a border. defect: the rates at which a zone can be in a region that is not wanted.
-/
import Derived.Test.YtimfbjnpalgmcaaGreatDgI
import Derived.Test.YtimfbjnpalgmcaaGreatApp
import Derived.Test.YtimfbjnpalgmcaaGreatLst
import Derived.Test.YtimfbjnpalgmcaaGreatDgC
import Derived.Test.YtimfbjnpalgmcaaGreatDiv
import Derived.Test.YtimfbjnpalgmcaaGreatWh
namespace Go.Proofs.YtimfbjnpalgmcaaGreat
set_option linter.unusedSimpArgs false
set_option linter.unusedVariables false
open Go.RowKit

theorem anneal1_any (hs : List Heat) (x y s : Int) (a : Option Addr) (cap : Nat) (p q t : Nat) (w : World) (hl : hs.length ≤ 8796093022208) (h : IsHeats w a hs) (h1 : w.cell? ⟨p, 0, none⟩ = some (.slice a hs.length cap)) (h2 : RgAt w q x y) (h3 : w.cell? ⟨t, 0, none⟩ = some (.int .u8 s)) :
    Calls Tryz.prog 80 #[.pointer (some ⟨p, 0, none⟩), .pointer (some ⟨q, 0, none⟩), .pointer (some ⟨t, 0, none⟩)] w fun e w' => e = .returned (.bool (hs.all heatOk && (rgOk 1000000 (x, y) && decide (s < 32)))) ∧ Below w.heap.size w w' := by
  have AH := hide (areHeats_any hs a cap w hl h)
  have AR := hide (fun (W : World) (k : Nat) (h : IsPairs W (some ⟨k, 0, none⟩) [(x, y)]) => (show Calls Tryz.prog 82 #[.int .i64 1000000, .slice (some ⟨k, 0, none⟩) 1 1] W fun e w' => e = .returned (.bool (rgOk 1000000 (x, y))) ∧ Below W.heap.size W w' by
    have g := areRanges_any 1000000 (some ⟨k, 0, none⟩) 1 [(x, y)] W (by simp) h
    rwa [show [(x, y)].all (rgOk 1000000) = rgOk 1000000 (x, y) by simp] at g))
  generalize hs.all heatOk = u at *
  generalize rgOk 1000000 (x, y) = v at *
  have P := hide h2
  have S := hide h3
  clear h h2 h3
  cases u
  · go_enter Tryz.func80, Tryz.ntmps80
    go_wp2_with fail
    refine AH.out.mono ?_
    rintro e w1 ⟨rfl, hb1⟩
    go_wp2_with fail
    go_ret
    exact ⟨rfl, hb1⟩
  · cases v
    · go_enter Tryz.func80, Tryz.ntmps80
      go_wp2_with fail
      refine AH.out.mono ?_
      rintro e w1 ⟨rfl, hb1⟩
      have ⟨d1, d2⟩ := rgAt_later P.out hb1
      go_wp2_with fail
      refine (AR.out _ _ (pairs_one_of (by simp [go_sem, World.cell?_alloc_past]) (by simp [go_sem, World.cell?_alloc_past]))).mono ?_
      rintro e w2 ⟨rfl, hb2⟩
      have B2 : Below w.heap.size w w2 := (by repeat (first | exact Below.refl _ _ | assumption | apply balloc | apply bdrew | (refine below_drewN ?_ _) | (refine bset ?_ (by first | (simp; done) | omega | (simp; omega)) _) | (refine bnext ?_ (by assumption))))
      clear hb1 hb2 d1 d2
      go_wp2_with fail
      go_ret
      exact ⟨rfl, B2⟩
    · go_enter Tryz.func80, Tryz.ntmps80
      go_wp2_with fail
      refine AH.out.mono ?_
      rintro e w1 ⟨rfl, hb1⟩
      have ⟨d1, d2⟩ := rgAt_later P.out hb1
      go_wp2_with fail
      refine (AR.out _ _ (pairs_one_of (by simp [go_sem, World.cell?_alloc_past]) (by simp [go_sem, World.cell?_alloc_past]))).mono ?_
      rintro e w2 ⟨rfl, hb2⟩
      have B2 : Below w.heap.size w w2 := (by repeat (first | exact Below.refl _ _ | assumption | apply balloc | apply bdrew | (refine below_drewN ?_ _) | (refine bset ?_ (by first | (simp; done) | omega | (simp; omega)) _) | (refine bnext ?_ (by assumption))))
      have d3 := later B2 S.out
      clear hb1 hb2 d1 d2
      go_wp2_with fail
      refine (isSet_any s _).mono ?_
      rintro e w3 ⟨rfl, rfl⟩
      go_wp2_with fail
      go_ret
      exact ⟨rfl, B2⟩
theorem anneal2_any (s : Int) (p : Addr) (w : World) (h : w.cell? p = some (.int .u8 s)) :
    Calls Tryz.prog 83 #[.pointer (some p)] w fun e w' => e = .returned (.bool (s != 0)) ∧ Below w.heap.size w w' := by
  go_enter Tryz.func83, Tryz.ntmps83
  go_wp2_with fail
  go_ret
  exact ⟨rfl, Below.refl _ _⟩

/-- Is a region in a set? -/
def selB (s : Int) (k : Nat) : Bool := !(bits BinOp.and IntKind.u8 s ((2 ^ k : Nat) : Int) == 0)
/-- What is left, and what has fallen out, region by region. -/
def annL (hs : List Heat) (x y s : Int) : Nat → List (Int × Int)
  | 0 => []
  | k + 1 => if selB s k then annL hs x y s k ++ [(keptQ true k x hs, keptQ false k y hs)] else annL hs x y s k
def annF (hs : List Heat) (x y s : Int) : Nat → List (Int × Int)
  | 0 => []
  | k + 1 => if selB s k then annF hs x y s k ++ [(x - keptQ false k x hs, y - keptQ true k y hs)] else annF hs x y s k
theorem annL_len (hs : List Heat) (x y s : Int) : ∀ k, (annL hs x y s k).length ≤ k := by
  intro k
  induction k with
  | zero => simp [annL]
  | succ k ih => unfold annL; split <;> first | (simp; omega) | omega
theorem annF_len (hs : List Heat) (x y s : Int) : ∀ k, (annF hs x y s k).length ≤ k := by
  intro k
  induction k with
  | zero => simp [annF]
  | succ k ih => unfold annF; split <;> first | (simp; omega) | omega
def annE (hs : List Heat) (x y s : Int) : Int := if decide ((hs.length : Int) ≤ 30) then if hs.all heatOk && (rgOk 1000000 (x, y) && decide (s < 32)) then if s != 0 then 0 else 7 else 2 else 5
structure AnnR where
  a : Int
  b : Int
  c : Int
  d : Int
  e : Int
def annQ (hs : List Heat) (x y s : Int) : AnnR := if annE hs x y s = 0 then ⟨(hullQ (annL hs x y s 5)).1, (hullQ (annL hs x y s 5)).2.1, (hullQ (annF hs x y s 5)).1, (hullQ (annF hs x y s 5)).2.1, 0⟩ else ⟨0, 0, 0, 0, annE hs x y s⟩

/-- The two lists, each of its own. -/
structure Two (base : Nat) (vL vF : Value) (L F : List (Int × Int)) (W : World) : Prop where
  l : W.ownsRow base 23 2 vL L.length (rowOf L)
  f : W.ownsRow base 23 2 vF F.length (rowOf F)
  ne : ∀ g, vL.ownBlock = some g → vF.ownBlock ≠ some g
theorem two_later {base : Nat} {vL vF : Value} {L F : List (Int × Int)} {W W' : World} (h : Two base vL vF L F W) (hb : Below W.heap.size W W') : Two base vL vF L F W' := ⟨owns_later h.l hb, owns_later h.f hb, h.ne⟩
theorem two_l {base : Nat} {vL vF : Value} {L F : List (Int × Int)} {W W' : World} {z : Int × Int} {g cap : Nat} (h : Two base vL vF L F W) (hown : W'.ownsRow base 23 2 (.slice (some ⟨g, 0, none⟩) (L.length + 1) cap) (L.length + 1) (rowOf (L ++ [z]))) (hg : W.grownBy W' vL.ownBlock) (hx : vL.ownBlock = some g ∨ g = W.heap.size) : Two base (.slice (some ⟨g, 0, none⟩) (L.length + 1) cap) vF (L ++ [z]) F W' := by
  refine ⟨by simpa using hown, h.f.kept hg ?_, ?_⟩
  · cases hv : vL.ownBlock with
    | none => cases hf : vF.ownBlock <;> simp
    | some k => right; exact h.ne k hv
  · intro k hk
    simp [Value.ownBlock] at hk
    subst hk
    rcases hx with hx | hx
    · exact h.ne g hx
    · intro hf
      have := (h.f.lt g hf).2
      omega
theorem two_f {base : Nat} {vL vF : Value} {L F : List (Int × Int)} {W W' : World} {z : Int × Int} {g cap : Nat} (h : Two base vL vF L F W) (hown : W'.ownsRow base 23 2 (.slice (some ⟨g, 0, none⟩) (F.length + 1) cap) (F.length + 1) (rowOf (F ++ [z]))) (hg : W.grownBy W' vF.ownBlock) (hx : vF.ownBlock = some g ∨ g = W.heap.size) : Two base vL (.slice (some ⟨g, 0, none⟩) (F.length + 1) cap) L (F ++ [z]) W' := by
  refine ⟨h.l.kept hg ?_, by simpa using hown, ?_⟩
  · cases hv : vL.ownBlock with
    | none => left; rfl
    | some k => right; exact fun e => h.ne k hv e.symm
  · intro k hk
    simp [Value.ownBlock]
    intro e
    subst e
    rcases hx with hx | hx
    · exact h.ne g hk hx
    · have := (h.l.lt g hk).2
      omega

set_option maxRecDepth 100000 in
set_option maxHeartbeats 6400000 in
theorem anneal_go (hs : List Heat) (x y s E A B C D : Int) (L F : Nat → List (Int × Int)) (a : Option Addr) (cap : Nat) (w : World) (hl : hs.length ≤ 8796093022208) (h : Hid (IsHeats w a hs))
    (hok : Hid (E = 0 → hs.all heatOk = true ∧ (0 ≤ x ∧ x ≤ y) ∧ y ≤ 1000000)) (hE : Hid (∀ c1 c2 c3, firstE [⟨5, 109, c1, decide ((hs.length : Int) ≤ 30)⟩, ⟨2, 109, c2, hs.all heatOk && (rgOk 1000000 (x, y) && decide (s < 32))⟩, ⟨7, 109, c3, s != 0⟩] = E))
    (hL0 : Hid (L 0 = [] ∧ F 0 = [])) (hL : Hid (∀ k, (L k).length ≤ k ∧ (F k).length ≤ k)) (hS : Hid (∀ k, k < 5 → if selB s k then L (k + 1) = L k ++ [(keptQ true k x hs, keptQ false k y hs)] ∧ F (k + 1) = F k ++ [(x - keptQ false k x hs, y - keptQ true k y hs)] else L (k + 1) = L k ∧ F (k + 1) = F k))
    (hR : Hid (if E = 0 then (A = (hullQ (L 5)).1 ∧ B = (hullQ (L 5)).2.1) ∧ (C = (hullQ (F 5)).1 ∧ D = (hullQ (F 5)).2.1) else (A = 0 ∧ B = 0) ∧ (C = 0 ∧ D = 0))) :
    Calls Tryz.prog 40 #[.slice a hs.length cap, .agg #[.int .i64 x, .int .i64 y], .int .u8 s] w fun e w' => e = .returned (.tuple #[.agg #[.int .i64 A, .int .i64 B], .agg #[.int .i64 C, .int .i64 D], .int .i64 E]) ∧ Below w.heap.size w w' := by
  have T1 := hide (fun (W : World) (hb : Below w.heap.size w W) (h1 : W.cell? ⟨w.heap.size, 0, none⟩ = some (.slice a hs.length cap)) (h2 : RgAt W (w.heap.size + 1) x y) (h3 : W.cell? ⟨w.heap.size + 1 + 1, 0, none⟩ = some (.int .u8 s)) => (show Tells W 80 #[.pointer (some ⟨w.heap.size, 0, none⟩), .pointer (some ⟨w.heap.size + 1, 0, none⟩), .pointer (some ⟨w.heap.size + 1 + 1, 0, none⟩)] (hs.all heatOk && (rgOk 1000000 (x, y) && decide (s < 32))) from
    ⟨enters_any Tryz.func80 (by kernel_rfl) rfl _, fun V hV => anneal1_any hs x y s a cap _ _ _ V hl (heats_later h.out (bnext hb hV)) (later hV h1) (rgAt_later h2 hV) (later hV h3)⟩))
  have T2 := hide (fun (W : World) (h3 : W.cell? ⟨w.heap.size + 1 + 1, 0, none⟩ = some (.int .u8 s)) => (show Tells W 83 #[.pointer (some ⟨w.heap.size + 1 + 1, 0, none⟩)] (s != 0) from
    ⟨enters_any Tryz.func83 (by kernel_rfl) rfl _, fun V hV => anneal2_any s _ V (later hV h3)⟩))
  have KA := hide (fun (h0 : E = 0) (W : World) (k : Nat) (z : Int) (hk : k < 5) (hb : Below w.heap.size w W) (hz : z = x ∨ z = y) => kept_any hs z k a cap W hk hl (heats_later h.out hb) (hok.out h0).1 (by have := hok.out h0; rcases hz with rfl | rfl <;> omega) (by have := hok.out h0; rcases hz with rfl | rfl <;> omega))
  have KB := hide (fun (h0 : E = 0) (k : Nat) => (show (∀ b, 0 ≤ keptQ b k x hs ∧ keptQ b k x hs ≤ x) ∧ ∀ b, 0 ≤ keptQ b k y hs ∧ keptQ b k y hs ≤ y from ⟨fun b => keptQ_far (hok.out h0).1 b (by have := hok.out h0; omega) (by have := hok.out h0; omega), fun b => keptQ_far (hok.out h0).1 b (by have := hok.out h0; omega) (by have := hok.out h0; omega)⟩))
  generalize (hs.all heatOk && (rgOk 1000000 (x, y) && decide (s < 32))) = k2 at *
  generalize hk1 : decide ((hs.length : Int) ≤ 30) = k1 at *
  generalize (s != 0) = k3 at *
  have HK1 := hide hk1
  clear hk1
  go_enter Tryz.func40, Tryz.ntmps40
  go_upto_region 1 with fail
  obtain ⟨w0, hw0⟩ : ∃ z, z = ((((w.alloc (.cells #[.slice a hs.length cap] 75)).alloc (.cells #[.int .i64 x, .int .i64 y] 23)).alloc (.cells #[.int .u8 s] 29)).alloc (.cells #[.int .i64 0, .int .i64 0] 23)).alloc (.cells #[.int .i64 0, .int .i64 0] 23) := ⟨_, rfl⟩
  rw [← hw0]
  have B0 := hide (show Below w.heap.size w w0 by rw [hw0]; exact (by repeat (first | exact Below.refl _ _ | assumption | apply balloc | apply bdrew | (refine below_drewN ?_ _) | (refine bset ?_ (by first | (simp; done) | omega | (simp; omega)) _) | (refine bnext ?_ (by assumption)))))
  have C0 := hide (show w0.cell? ⟨w.heap.size, 0, none⟩ = some (.slice a hs.length cap) by rw [hw0]; exact (by simp [go_sem, World.cell?_alloc_past]))
  have C1 := hide (show RgAt w0 (w.heap.size + 1) x y by rw [hw0]; exact ⟨(by simp [go_sem, World.cell?_alloc_past]), (by simp [go_sem, World.cell?_alloc_past])⟩)
  have C2 := hide (show w0.cell? ⟨w.heap.size + 1 + 1, 0, none⟩ = some (.int .u8 s) by rw [hw0]; exact (by simp [go_sem, World.cell?_alloc_past]))
  have R1 := hide (show RgAt w0 (w.heap.size + 1 + 1 + 1) 0 0 ∧ RgAt w0 (w.heap.size + 1 + 1 + 1 + 1) 0 0 by rw [hw0]; exact ⟨⟨(by simp [go_sem, World.cell?_alloc_past]), (by simp [go_sem, World.cell?_alloc_past])⟩, (by simp [go_sem, World.cell?_alloc_past]), (by simp [go_sem, World.cell?_alloc_past])⟩)
  have R2 := hide (show (w0.frozen? ⟨w.heap.size + 1 + 1 + 1, 0, none⟩ = false ∧ w0.frozen? ⟨w.heap.size + 1 + 1 + 1, 1, none⟩ = false) ∧ (w0.frozen? ⟨w.heap.size + 1 + 1 + 1 + 1, 0, none⟩ = false ∧ w0.frozen? ⟨w.heap.size + 1 + 1 + 1 + 1, 1, none⟩ = false) by rw [hw0]; simp [go_sem])
  clear hw0
  have c0 := C0.out
  go_wp2_with fail
  refine (atMost_ex k1 _ _ _ HK1.out).mono ?_
  rintro e wA ⟨rfl, hA, hbA⟩
  (try simp at hA)
  have HA := hide hA
  have BA := hide (bnext B0.out hbA)
  have A0 := hide (later hbA C0.out)
  have A1 := hide (rgAt_later C1.out hbA)
  have A2 := hide (later hbA C2.out)
  have bA := hide hbA
  clear hA hbA c0
  go_wp2_with fail
  refine (unless_ex 2 _ _ k2 wA rfl (T1.out wA BA.out A0.out A1.out A2.out)).mono ?_
  rintro e wB ⟨rfl, hB, hbB⟩
  (try simp at hB)
  have HB := hide hB
  have A3 := hide (later hbB A2.out)
  have bB := hide hbB
  clear hB hbB
  go_wp2_with fail
  refine (unless_ex 7 _ _ k3 wB rfl (T2.out wB A3.out)).mono ?_
  rintro e wD ⟨rfl, hD, hbD⟩
  (try simp at hD)
  have HD := hide hD
  have bD := hide hbD
  clear hD hbD
  go_wp2_with fail
  refine (firstError_is E [⟨5, 109, _, k1⟩, ⟨2, 109, _, k2⟩, ⟨7, 109, _, k3⟩] _ _ _ (hE.out _ _ _) (by simp) (by simp) (cnds_three_at (by simp)) (tells_three (cnd_later HA.out (show Below wA.heap.size wA _ from balloc (bnext bB.out bD.out))) (fun _ => cnd_later HB.out (show Below wB.heap.size wB _ from balloc bD.out)) (fun _ _ => cnd_later HD.out (balloc (Below.refl _ _))))).mono ?_
  rintro e wC ⟨rfl, hbC⟩
  have BC := hide (show Below w0.heap.size w0 wC from bnext (balloc (bnext (bnext bA.out bB.out) bD.out)) hbC)
  clear hbC HA HB HD A0 A1 A2 A3 bA bB bD BA T1 T2 hE
  by_cases e0 : E = 0
  · have KA' := hide (KA.out e0)
    have KB' := hide (KB.out e0)
    have HR := hide (show (A = (hullQ (L 5)).1 ∧ B = (hullQ (L 5)).2.1) ∧ (C = (hullQ (F 5)).1 ∧ D = (hullQ (F 5)).2.1) by have := hR.out; rwa [if_pos e0] at this)
    have HX := hide (hok.out e0)
    subst e0
    clear hR KA KB hok
    go_wp2_with fail
    go_loopw [9, 10, 28] (fun v9 v10 i wr => ∃ k : Nat, k ≤ 5 ∧ i = .int .i64 (k : Int) ∧ Hid (Two wC.heap.size v9 v10 (L k) (F k) wr) ∧ Below wC.heap.size wC wr) (fun _ _ i _ => 5 - (intOf i).toNat)
    case atStart => exact ⟨0, by omega, rfl, hide (by rw [hL0.out.1, hL0.out.2]; exact ⟨World.ownsRow_nil _ _ _ _, World.ownsRow_nil _ _ _ _, fun g hg => by simp [Value.ownBlock] at hg⟩), Below.refl _ _⟩
    case round =>
      obtain ⟨k, hk, rfl, hT, hb⟩ := hrel
      by_cases hlt : k < 5
      · have hS' := hide (hS.out k hlt)
        obtain ⟨P, hP⟩ : ∃ P : Int, ((2 ^ k : Nat) : Int) = P := ⟨_, rfl⟩
        have ON := hide (fun (W : World) => (show Calls Tryz.prog 84 #[.int .i64 (k : Int)] W fun e w' => e = .returned (.int .u8 P) ∧ w' = W from (only_any k (by omega) W).mono (by rintro e w' ⟨rfl, rfl⟩; exact ⟨by rw [hP], rfl⟩)))
        have HP := hide (show selB s k = !(bits BinOp.and IntKind.u8 s P == 0) by rw [selB, hP])
        clear hP
        have k0 : 0 ≤ (k : Int) := by omega
        have k1 : (k : Int) < 5 := by omega
        have c2 := later hb (later BC.out C2.out)
        have Bk := hide hb
        clear hb
        go_wp2_with fail
        go_quiet ((go_at_call 84; exact Calls.quiet_of_same (ON.out _)))
        obtain ⟨w5, hw5⟩ : ∃ z, z = wr.drewN nq := ⟨_, rfl⟩
        rw [← hw5]
        have B5 := hide (show Below wC.heap.size wC w5 by rw [hw5]; exact below_drewN Bk.out _)
        have T5 := hide (show Two wC.heap.size _ _ (L k) (F k) w5 by rw [hw5]; exact two_later hT.out (below_drewN (Below.refl _ _) _))
        clear hw5 hT Bk c2 ON
        cases hsel : (bits BinOp.and IntKind.u8 s P == 0) with
        | true =>
          have HL := hide (show L (k + 1) = L k ∧ F (k + 1) = F k by have := hS'.out; rwa [HP.out, hsel, if_neg (by simp)] at this)
          clear hS' HP
          go_wp2_with fail
          go_roundw
          case rel => exact ⟨k + 1, by omega, by go_num, hide (by rw [HL.out.1, HL.out.2]; exact T5.out), B5.out⟩
          case measure => simp [intOf]; omega
        | false =>
          have HL := hide (show L (k + 1) = L k ++ [(keptQ true k x hs, keptQ false k y hs)] ∧ F (k + 1) = F k ++ [(x - keptQ false k x hs, y - keptQ true k y hs)] by have := hS'.out; rwa [HP.out, hsel, if_pos (by simp)] at this)
          have KK := hide (fun W z hb hz => KA'.out W k z hlt hb hz)
          have KF := hide (show ((0 ≤ keptQ true k x hs ∧ keptQ true k x hs ≤ x) ∧ (0 ≤ keptQ false k x hs ∧ keptQ false k x hs ≤ x)) ∧ ((0 ≤ keptQ true k y hs ∧ keptQ true k y hs ≤ y) ∧ (0 ≤ keptQ false k y hs ∧ keptQ false k y hs ≤ y)) from ⟨⟨(KB'.out k).1 true, (KB'.out k).1 false⟩, (KB'.out k).2 true, (KB'.out k).2 false⟩)
          have LL := hide (hL.out k)
          clear hS' HP
          go_upto_region 9 with fail
          generalize hq1 : keptQ true k x hs = q1 at *
          generalize hq2 : keptQ false k x hs = q2 at *
          generalize hq3 : keptQ true k y hs = q3 at *
          generalize hq4 : keptQ false k y hs = q4 at *
          have KP := hide (fun (W : World) (hb : Below w5.heap.size w5 W) => (show (W.cell? ⟨w.heap.size, 0, none⟩ = some (.slice a hs.length cap) ∧ W.cell? ⟨w.heap.size + 1, 0, none⟩ = some (.int .i64 x) ∧ W.cell? ⟨w.heap.size + 1, 1, none⟩ = some (.int .i64 y)) ∧ Below w5.heap.size w5 W from
            ⟨⟨later hb (later B5.out (later BC.out C0.out)), later hb (later B5.out (later BC.out C1.out.1)), later hb (later B5.out (later BC.out C1.out.2))⟩, hb⟩))
          have KX := hide (fun W (hb : Below w5.heap.size w5 W) => (show Calls Tryz.prog 85 #[.slice a hs.length cap, .int .i64 x, .int .i64 (k : Int)] W fun e w' => e = .returned (.agg #[.int .i64 q1, .int .i64 q2]) ∧ Below W.heap.size W w' by
            rw [← hq1, ← hq2]; exact KK.out W x (bnext (bnext (bnext B0.out BC.out) B5.out) hb) (.inl rfl)))
          have KY := hide (fun W (hb : Below w5.heap.size w5 W) => (show Calls Tryz.prog 85 #[.slice a hs.length cap, .int .i64 y, .int .i64 (k : Int)] W fun e w' => e = .returned (.agg #[.int .i64 q3, .int .i64 q4]) ∧ Below W.heap.size W w' by
            rw [← hq3, ← hq4]; exact KK.out W y (bnext (bnext (bnext B0.out BC.out) B5.out) hb) (.inr rfl)))
          have KQ := hide (fun W z u v (hb : Below w5.heap.size w5 W) (hz : (z = x ∧ u = q1 ∧ v = q2) ∨ (z = y ∧ u = q3 ∧ v = q4)) => (show Calls Tryz.prog 85 #[.slice a hs.length cap, .int .i64 z, .int .i64 (k : Int)] W fun e w' => e = .returned (.agg #[.int .i64 u, .int .i64 v]) ∧ Below W.heap.size W w' by
            rcases hz with ⟨rfl, rfl, rfl⟩ | ⟨rfl, rfl, rfl⟩
            · exact KX.out W hb
            · exact KY.out W hb))
          clear hq1 hq2 hq3 hq4 KK
          go_cut [12, 13] from 36 to 45 (fun s12 s13 wx => ∃ p q, s12 = .pointer (some ⟨p, 0, none⟩) ∧ s13 = .pointer (some ⟨q, 0, none⟩) ∧ (w5.heap.size ≤ p ∧ w5.heap.size ≤ q) ∧ ((wx.cell? ⟨p, 0, none⟩ = some (.int .i64 q1) ∧ wx.cell? ⟨p, 1, none⟩ = some (.int .i64 q2)) ∧ (wx.cell? ⟨q, 0, none⟩ = some (.int .i64 q3) ∧ wx.cell? ⟨q, 1, none⟩ = some (.int .i64 q4))) ∧ Below w5.heap.size w5 wx)
          case first => as_aux_lemma =>
            go_region_held3 (fun w' => (w'.cell? ⟨w.heap.size, 0, none⟩ = some (.slice a hs.length cap) ∧ w'.cell? ⟨w.heap.size + 1, 0, none⟩ = some (.int .i64 x) ∧ w'.cell? ⟨w.heap.size + 1, 1, none⟩ = some (.int .i64 y)) ∧ Below w5.heap.size w5 w')
              ((go_split_ands; refine KP.out _ ?_; exact (by repeat (first | exact Below.refl _ _ | assumption | apply balloc | apply bdrew | (refine below_drewN ?_ _) | (refine bset ?_ (by first | (simp; done) | omega | (simp; omega)) _) | (refine bnext ?_ (by assumption))))))
              (first | (go_at_call_of 85 x; refine (KX.out _ (by exact (by repeat (first | exact Below.refl _ _ | assumption | apply balloc | apply bdrew | (refine below_drewN ?_ _) | (refine bset ?_ (by first | (simp; done) | omega | (simp; omega)) _) | (refine bnext ?_ (by assumption)))))).mono ?_; first | (have hq := hbA; clear hq; rintro e wB ⟨rfl, hbB⟩; obtain ⟨⟨hcB, hfB⟩, ⟨hcB2, hfB2⟩, hcB3, hfB3, ⟨hnB1, hnB2, hnB3, hnB4⟩, ⟨hlB1, hlB2, hlB3, hlB4, hlB5⟩, hsB⟩ := bcellR hbB; (try simp at hsB); (try have zB1 := hcB w5.heap.size 0 (by first | (simp; done) | omega | (simp; omega))); (try have zB2 := hfB w5.heap.size 0 (by first | (simp; done) | omega | (simp; omega))); (try have zB3 := hcB w5.heap.size 1 (by first | (simp; done) | omega | (simp; omega))); (try have zB4 := hfB w5.heap.size 1 (by first | (simp; done) | omega | (simp; omega))); (try have zB5 := hcB (w5.heap.size + 1) 0 (by first | (simp; done) | omega | (simp; omega))); (try have zB6 := hfB (w5.heap.size + 1) 0 (by first | (simp; done) | omega | (simp; omega))); (try have zB7 := hcB (w5.heap.size + 1) 1 (by first | (simp; done) | omega | (simp; omega))); (try have zB8 := hfB (w5.heap.size + 1) 1 (by first | (simp; done) | omega | (simp; omega)))) | (rintro e wA ⟨rfl, hbA⟩; obtain ⟨⟨hcA, hfA⟩, ⟨hcA2, hfA2⟩, hcA3, hfA3, ⟨hnA1, hnA2, hnA3, hnA4⟩, ⟨hlA1, hlA2, hlA3, hlA4, hlA5⟩, hsA⟩ := bcellR hbA; (try simp at hsA); (try have zA1 := hcA w5.heap.size 0 (by first | (simp; done) | omega | (simp; omega))); (try have zA2 := hfA w5.heap.size 0 (by first | (simp; done) | omega | (simp; omega))); (try have zA3 := hcA w5.heap.size 1 (by first | (simp; done) | omega | (simp; omega))); (try have zA4 := hfA w5.heap.size 1 (by first | (simp; done) | omega | (simp; omega))); (try have zA5 := hcA (w5.heap.size + 1) 0 (by first | (simp; done) | omega | (simp; omega))); (try have zA6 := hfA (w5.heap.size + 1) 0 (by first | (simp; done) | omega | (simp; omega))); (try have zA7 := hcA (w5.heap.size + 1) 1 (by first | (simp; done) | omega | (simp; omega))); (try have zA8 := hfA (w5.heap.size + 1) 1 (by first | (simp; done) | omega | (simp; omega))))) | (go_at_call_of 85 y; refine (KY.out _ (by exact (by repeat (first | exact Below.refl _ _ | assumption | apply balloc | apply bdrew | (refine below_drewN ?_ _) | (refine bset ?_ (by first | (simp; done) | omega | (simp; omega)) _) | (refine bnext ?_ (by assumption)))))).mono ?_; first | (have hq := hbA; clear hq; rintro e wB ⟨rfl, hbB⟩; obtain ⟨⟨hcB, hfB⟩, ⟨hcB2, hfB2⟩, hcB3, hfB3, ⟨hnB1, hnB2, hnB3, hnB4⟩, ⟨hlB1, hlB2, hlB3, hlB4, hlB5⟩, hsB⟩ := bcellR hbB; (try simp at hsB); (try have zB1 := hcB w5.heap.size 0 (by first | (simp; done) | omega | (simp; omega))); (try have zB2 := hfB w5.heap.size 0 (by first | (simp; done) | omega | (simp; omega))); (try have zB3 := hcB w5.heap.size 1 (by first | (simp; done) | omega | (simp; omega))); (try have zB4 := hfB w5.heap.size 1 (by first | (simp; done) | omega | (simp; omega))); (try have zB5 := hcB (w5.heap.size + 1) 0 (by first | (simp; done) | omega | (simp; omega))); (try have zB6 := hfB (w5.heap.size + 1) 0 (by first | (simp; done) | omega | (simp; omega))); (try have zB7 := hcB (w5.heap.size + 1) 1 (by first | (simp; done) | omega | (simp; omega))); (try have zB8 := hfB (w5.heap.size + 1) 1 (by first | (simp; done) | omega | (simp; omega)))) | (rintro e wA ⟨rfl, hbA⟩; obtain ⟨⟨hcA, hfA⟩, ⟨hcA2, hfA2⟩, hcA3, hfA3, ⟨hnA1, hnA2, hnA3, hnA4⟩, ⟨hlA1, hlA2, hlA3, hlA4, hlA5⟩, hsA⟩ := bcellR hbA; (try simp at hsA); (try have zA1 := hcA w5.heap.size 0 (by first | (simp; done) | omega | (simp; omega))); (try have zA2 := hfA w5.heap.size 0 (by first | (simp; done) | omega | (simp; omega))); (try have zA3 := hcA w5.heap.size 1 (by first | (simp; done) | omega | (simp; omega))); (try have zA4 := hfA w5.heap.size 1 (by first | (simp; done) | omega | (simp; omega))); (try have zA5 := hcA (w5.heap.size + 1) 0 (by first | (simp; done) | omega | (simp; omega))); (try have zA6 := hfA (w5.heap.size + 1) 0 (by first | (simp; done) | omega | (simp; omega))); (try have zA7 := hcA (w5.heap.size + 1) 1 (by first | (simp; done) | omega | (simp; omega))); (try have zA8 := hfA (w5.heap.size + 1) 1 (by first | (simp; done) | omega | (simp; omega))))))
            all_goals
              go_wp2_with fail
              go_meet
              refine ⟨_, _, rfl, rfl, ⟨?_, ?_⟩, ⟨⟨?_, ?_⟩, ?_, ?_⟩, ?_⟩
              · have sA := hbA.size; have sB := hbB.size; (try simp at sA); (try simp at sB); omega
              · have sA := hbA.size; have sB := hbB.size; (try simp at sA); (try simp at sB); omega
              rotate_left 4
              · exact (by repeat (first | exact Below.refl _ _ | exact hbA | exact hbB | apply balloc | apply bdrew | (refine bset ?_ (by first | (simp; done) | omega | (simp; omega)) _) | (refine bnext ?_ hbB) | (refine bnext ?_ hbA)))
              all_goals first | (simp [go_sem]; done) | (simp (maxDischargeDepth := 8) [go_sem, set_selfR, hcB, hfB, hcB2, hfB2, hcB3, hfB3, hnB1, hnB2, hnB3, hnB4, hlB1, hlB2, hlB3, hlB4, hlB5, hcA, hfA, hcA2, hfA2, hcA3, hfA3, hnA1, hnA2, hnA3, hnA4, hlA1, hlA2, hlA3, hlA4, hlA5]; done)
          case rest =>
            obtain ⟨p, q, rfl, rfl, ⟨hp, hq⟩, HN, hb9⟩ := hcut
            have B9 := hide (bnext B5.out hb9)
            have T9 := hide (two_later T5.out hb9)
            have PL := hide (fun g hg => (show g < p ∧ g < q by have := (T5.out.l.lt g hg).2; omega))
            have PF := hide (fun g hg => (show g < p ∧ g < q by have := (T5.out.f.lt g hg).2; omega))
            have PS := hide (show p < wc.heap.size ∧ q < wc.heap.size from ⟨World.block_lt_of_cell? _ _ HN.1.1, World.block_lt_of_cell? _ _ HN.2.1⟩)
            have NP := hide HN
            clear HN hb9 KX KY KQ KP hp hq T5
            have ⟨⟨n1, n2⟩, n3, n4⟩ := NP.out
            have SB := hide (show wC.heap.size ≤ wc.heap.size from B9.out.size)
            go_wp2_with (at_builtin; refine wpList_append_rg rfl (.tmp 46) (.tmp 52) rfl wC.heap.size _ (L k) rfl (T9.out.l.alloc _) _ q1 q4 rfl ?_ ?_ ?_ ?_ ?_)
            · exact (by simp [go_sem, World.cell?_alloc_past])
            · exact (by simp [go_sem, World.cell?_alloc_past])
            · have := LL.out; omega
            · have := SB.out; simp; omega
            · intro g cp w7 hown hgrow hx hlt7
              have T7 := hide (two_l (two_later T9.out (balloc (Below.refl _ _))) hown hgrow (by rw [World.size_alloc]; exact hx))
              have B7 := hide (Below.grown (balloc B9.out) hgrow (by have := SB.out; simp; omega) (fun k hk => (T9.out.l.lt k hk).1))
              have N2 := hgrow.cell (later (balloc (Below.refl _ _)) n2) (fun e => by have := PL.out p e.symm; omega)
              have N3 := hgrow.cell (later (balloc (Below.refl _ _)) n3) (fun e => by have := PL.out q e.symm; omega)
              have X7 := hide (rgAt_later (rgAt_later C1.out BC.out) B7.out)
              have ⟨x1, x2⟩ := X7.out
              have SB7 := hide (show wC.heap.size ≤ w7.heap.size from B7.out.size)
              clear hown hgrow hx hlt7 n1 n2 n3 n4
              obtain ⟨d1, hd1⟩ : ∃ d, x - q2 = d := ⟨_, rfl⟩
              obtain ⟨d2, hd2⟩ : ∃ d, y - q3 = d := ⟨_, rfl⟩
              have wd1 : wrap64 (x - q2) = d1 := by rw [← hd1]; exact (IntWalk.i64_left _).symm.trans (IntWalk.i64_in _ (by have := KF.out; have := HX.out; omega))
              have wd2 : wrap64 (y - q3) = d2 := by rw [← hd2]; exact (IntWalk.i64_left _).symm.trans (IntWalk.i64_in _ (by have := KF.out; have := HX.out; omega))
              have HD := hide (And.intro hd1 hd2)
              clear hd1 hd2
              go_wp2_with (at_builtin; refine wpList_append_rg rfl (.tmp 54) (.tmp 66) rfl wC.heap.size _ (F k) rfl (T7.out.f.alloc _) _ d1 d2 rfl ?_ ?_ ?_ ?_ ?_)
              · exact (by simp [go_sem, World.cell?_alloc_past])
              · exact (by simp [go_sem, World.cell?_alloc_past])
              · have := LL.out; omega
              · have := SB7.out; simp; omega
              · intro g8 cp8 w8 hown hgrow hx hlt8
                have T8 := hide (two_f (two_later T7.out (balloc (Below.refl _ _))) hown hgrow (by rw [World.size_alloc]; exact hx))
                have B8 := hide (Below.grown (balloc B7.out) hgrow (by have := SB7.out; simp; omega) (fun k hk => (T7.out.f.lt k hk).1))
                have H8 := hide (show L (k + 1) = L k ++ [(q1, q4)] ∧ F (k + 1) = F k ++ [(d1, d2)] by rw [HL.out.1, HL.out.2, HD.out.1, HD.out.2]; exact ⟨rfl, rfl⟩)
                clear hown hgrow hx hlt8 N2 N3 x1 x2
                go_wp2_with fail
                go_roundw
                case rel => exact ⟨k + 1, by omega, by go_num, hide (by rw [H8.out.1, H8.out.2]; exact T8.out), B8.out⟩
                case measure => simp [intOf]; omega
      · obtain rfl : k = 5 := by omega
        obtain ⟨b1, cp1, rfl, _, hp1⟩ := own_pairs hT.out.l
        obtain ⟨b2, cp2, rfl, _, hp2⟩ := own_pairs hT.out.f
        have H1 := hide (hull_any (L 5) b1 cp1 _ (by have := hL.out 5; omega) hp1)
        have H2 := hide (fun W (hp : IsPairs W b2 (F 5)) => hull_any (F 5) b2 cp2 W (by have := hL.out 5; omega) hp)
        have NE := hide (fun ad (e : b2 = some ad) => (show ad.block ≠ w.heap.size + 1 + 1 + 1 by
          have := (hT.out.f.lt ad.block (by rw [e]; rfl)).1
          have := World.block_lt_of_cell? _ _ (later BC.out R1.out.1.1)
          simp only at this
          omega))
        have P2 := hide hp2
        obtain ⟨e1, H1⟩ : ∃ e1 : Int, Hid (Calls Tryz.prog 86 #[.slice b1 (L 5).length cp1] wr fun e w' => e = .returned (.tuple #[.agg #[.int .i64 A, .int .i64 B], .int .i64 e1]) ∧ Below wr.heap.size wr w') := ⟨_, by rw [HR.out.1.1, HR.out.1.2]; exact H1.out⟩
        obtain ⟨e2, H2⟩ : ∃ e2 : Int, Hid (∀ W, IsPairs W b2 (F 5) → Calls Tryz.prog 86 #[.slice b2 (F 5).length cp2] W fun e w' => e = .returned (.tuple #[.agg #[.int .i64 C, .int .i64 D], .int .i64 e2]) ∧ Below W.heap.size W w') := ⟨_, by rw [HR.out.2.1, HR.out.2.2]; exact H2.out⟩
        clear HR
        have BR := hide (bnext B0.out (bnext BC.out (Below.mono hb (by have := BC.out.size; omega))))
        have ⟨⟨f0, f1⟩, f2, f3⟩ := (show (wr.frozen? ⟨w.heap.size + 1 + 1 + 1, 0, none⟩ = false ∧ wr.frozen? ⟨w.heap.size + 1 + 1 + 1, 1, none⟩ = false) ∧ (wr.frozen? ⟨w.heap.size + 1 + 1 + 1 + 1, 0, none⟩ = false ∧ wr.frozen? ⟨w.heap.size + 1 + 1 + 1 + 1, 1, none⟩ = false) by
          have hw : Below w0.heap.size w0 wr := bnext BC.out hb
          exact ⟨⟨free_later hw R1.out.1.1 R2.out.1.1, free_later hw R1.out.1.2 R2.out.1.2⟩, free_later hw R1.out.2.1 R2.out.2.1, free_later hw R1.out.2.2 R2.out.2.2⟩)
        have ⟨⟨r0, r1⟩, r2, r3⟩ := (show RgAt wr (w.heap.size + 1 + 1 + 1) 0 0 ∧ RgAt wr (w.heap.size + 1 + 1 + 1 + 1) 0 0 from ⟨rgAt_later R1.out.1 (bnext BC.out (Below.mono hb (by have := BC.out.size; omega))), rgAt_later R1.out.2 (bnext BC.out (Below.mono hb (by have := BC.out.size; omega)))⟩)
        clear hp1 hp2 hT
        go_wp2_with fail
        refine H1.out.mono ?_
        rintro e w1 ⟨rfl, hb1⟩
        have s0 := later hb1 r0
        have s1 := later hb1 r1
        have s2 := later hb1 r2
        have s3 := later hb1 r3
        have g0 := free_later hb1 r0 f0
        have g1 := free_later hb1 r1 f1
        have g2 := free_later hb1 r2 f2
        have g3 := free_later hb1 r3 f3
        have B1 := hide (bnext BR.out hb1)
        have BW1 := hide hb1
        clear r0 r1 r2 r3 f0 f1 f2 f3 hb1 hb
        go_upto_region 14 with fail
        obtain ⟨w2, hw2⟩ : ∃ z, z = (w1.setCell ⟨w.heap.size + 1 + 1 + 1, 0, none⟩ (.int .i64 A)).setCell ⟨w.heap.size + 1 + 1 + 1, 1, none⟩ (.int .i64 B) := ⟨_, rfl⟩
        rw [← hw2]
        have PW := hide (show IsPairs w2 b2 (F 5) by rw [hw2]; exact pairs_set (pairs_set (pairs_later P2.out BW1.out) NE.out) NE.out)
        have t0 : w2.cell? ⟨w.heap.size + 1 + 1 + 1, 0, none⟩ = some (.int .i64 A) := by rw [hw2]; simp [go_sem, s0, s1]
        have t1 : w2.cell? ⟨w.heap.size + 1 + 1 + 1, 1, none⟩ = some (.int .i64 B) := by rw [hw2]; simp [go_sem, s0, s1]
        have t2 : w2.cell? ⟨w.heap.size + 1 + 1 + 1 + 1, 0, none⟩ = some (.int .i64 0) := by rw [hw2]; simp [go_sem, s2]
        have t3 : w2.cell? ⟨w.heap.size + 1 + 1 + 1 + 1, 1, none⟩ = some (.int .i64 0) := by rw [hw2]; simp [go_sem, s3]
        have j0 : w2.frozen? ⟨w.heap.size + 1 + 1 + 1, 0, none⟩ = false := by rw [hw2]; simp [go_sem, g0]
        have j1 : w2.frozen? ⟨w.heap.size + 1 + 1 + 1, 1, none⟩ = false := by rw [hw2]; simp [go_sem, g1]
        have j2 : w2.frozen? ⟨w.heap.size + 1 + 1 + 1 + 1, 0, none⟩ = false := by rw [hw2]; simp [go_sem, g2]
        have j3 : w2.frozen? ⟨w.heap.size + 1 + 1 + 1 + 1, 1, none⟩ = false := by rw [hw2]; simp [go_sem, g3]
        have B2 := hide (show Below w.heap.size w w2 by rw [hw2]; exact bset (bset B1.out (by simp; omega) _) (by simp; omega) _)
        clear hw2 s0 s1 s2 s3 g0 g1 g2 g3 B1 BW1 H1
        go_wp2_with fail
        refine (H2.out _ PW.out).mono ?_
        rintro e w3 ⟨rfl, hb3⟩
        have s0 := later hb3 t0
        have s1 := later hb3 t1
        have s2 := later hb3 t2
        have s3 := later hb3 t3
        have g0 := free_later hb3 t0 j0
        have g1 := free_later hb3 t1 j1
        have g2 := free_later hb3 t2 j2
        have g3 := free_later hb3 t3 j3
        have B3 := hide (bnext B2.out hb3)
        clear t0 t1 t2 t3 j0 j1 j2 j3 hb3 PW B2
        go_upto_region 15 with fail
        obtain ⟨w4, hw4⟩ : ∃ z, z = (w3.setCell ⟨w.heap.size + 1 + 1 + 1 + 1, 0, none⟩ (.int .i64 C)).setCell ⟨w.heap.size + 1 + 1 + 1 + 1, 1, none⟩ (.int .i64 D) := ⟨_, rfl⟩
        rw [← hw4]
        have t0 : w4.cell? ⟨w.heap.size + 1 + 1 + 1, 0, none⟩ = some (.int .i64 A) := by rw [hw4]; simp [go_sem, s0]
        have t1 : w4.cell? ⟨w.heap.size + 1 + 1 + 1, 1, none⟩ = some (.int .i64 B) := by rw [hw4]; simp [go_sem, s1]
        have t2 : w4.cell? ⟨w.heap.size + 1 + 1 + 1 + 1, 0, none⟩ = some (.int .i64 C) := by rw [hw4]; simp [go_sem, s2, s3]
        have t3 : w4.cell? ⟨w.heap.size + 1 + 1 + 1 + 1, 1, none⟩ = some (.int .i64 D) := by rw [hw4]; simp [go_sem, s2, s3]
        have j0 : w4.frozen? ⟨w.heap.size + 1 + 1 + 1, 0, none⟩ = false := by rw [hw4]; simp [go_sem, g0]
        have j1 : w4.frozen? ⟨w.heap.size + 1 + 1 + 1, 1, none⟩ = false := by rw [hw4]; simp [go_sem, g1]
        have j2 : w4.frozen? ⟨w.heap.size + 1 + 1 + 1 + 1, 0, none⟩ = false := by rw [hw4]; simp [go_sem, g2]
        have j3 : w4.frozen? ⟨w.heap.size + 1 + 1 + 1 + 1, 1, none⟩ = false := by rw [hw4]; simp [go_sem, g3]
        have B4 := hide (show Below w.heap.size w w4 by rw [hw4]; exact bset (bset B3.out (by simp; omega) _) (by simp; omega) _)
        clear hw4 s0 s1 s2 s3 g0 g1 g2 g3 B3
        go_region_with (fail)
        all_goals go_wp2_with fail
        all_goals
          exact bodyPost_ret (v := .tuple #[.agg #[.int .i64 A, .int .i64 B], .agg #[.int .i64 C, .int .i64 D], .int .i64 0]) (by simp [results, Tryz.results40, go_sem, t0, t1, t2, t3]) rfl ⟨rfl, (by repeat (first | exact B4.out | apply bdrew | (refine bset ?_ (by simp; omega) _)))⟩
  · have d : (E != 0) = true := by simpa using e0
    have HR := hide (show (A = 0 ∧ B = 0) ∧ (C = 0 ∧ D = 0) by have := hR.out; rwa [if_neg e0] at this)
    have ⟨⟨r0, r1⟩, r2, r3⟩ := (show RgAt wC (w.heap.size + 1 + 1 + 1) 0 0 ∧ RgAt wC (w.heap.size + 1 + 1 + 1 + 1) 0 0 from ⟨rgAt_later R1.out.1 BC.out, rgAt_later R1.out.2 BC.out⟩)
    have f0 := free_later BC.out R1.out.1.1 R2.out.1.1
    have f1 := free_later BC.out R1.out.1.2 R2.out.1.2
    have f2 := free_later BC.out R1.out.2.1 R2.out.2.1
    have f3 := free_later BC.out R1.out.2.2 R2.out.2.2
    clear e0 hR
    go_wp2_with fail
    obtain ⟨⟨rfl, rfl⟩, rfl, rfl⟩ := HR.out
    exact bodyPost_ret (v := .tuple #[.agg #[.int .i64 0, .int .i64 0], .agg #[.int .i64 0, .int .i64 0], .int .i64 E]) (by simp [results, Tryz.results40, go_sem, r0, r1, r2, r3]) rfl ⟨rfl, bset (bset (bset (bset (bnext B0.out BC.out) (by simp; omega) _) (by simp; omega) _) (by simp; omega) _) (by simp; omega) _⟩
theorem anneal_any (hs : List Heat) (x y s : Int) (a : Option Addr) (cap : Nat) (w : World) (hl : hs.length ≤ 8796093022208) (h : IsHeats w a hs) :
    Calls Tryz.prog 40 #[.slice a hs.length cap, .agg #[.int .i64 x, .int .i64 y], .int .u8 s] w fun e w' => e = .returned (.tuple #[.agg #[.int .i64 (annQ hs x y s).a, .int .i64 (annQ hs x y s).b], .agg #[.int .i64 (annQ hs x y s).c, .int .i64 (annQ hs x y s).d], .int .i64 (annQ hs x y s).e]) ∧ Below w.heap.size w w' := by
  refine anneal_go hs x y s _ _ _ _ _ (annL hs x y s) (annF hs x y s) a cap w hl h ?_ ?_ ⟨rfl, rfl⟩ (fun k => ⟨annL_len hs x y s k, annF_len hs x y s k⟩) ?_ ?_
  · intro h0
    have e0 : annE hs x y s = 0 := by
      unfold annQ at h0
      split at h0
      · assumption
      · exact h0
    unfold annE at e0
    split at e0
    · split at e0
      · rename_i hk
        simp [rgOk] at hk
        refine ⟨by simpa using hk.1, ?_⟩
        omega
      · simp at e0
    · simp at e0
  · intro c1 c2 c3
    have e : (annQ hs x y s).e = annE hs x y s := by
      unfold annQ
      split
      · exact Eq.symm (by assumption)
      · rfl
    rw [e]
    unfold annE
    simp only [firstE]
  · intro k hk
    simp only [annL, annF]
    split <;> exact ⟨rfl, rfl⟩
  · unfold annQ
    by_cases e0 : annE hs x y s = 0
    · rw [if_pos e0]
      simp
      exact hide trivial
    · rw [if_neg e0]
      simp [e0]
      exact hide trivial
end Go.Proofs.YtimfbjnpalgmcaaGreat

namespace Go.Proofs.YtimfbjnpalgmcaaGreat
set_option linter.unusedSimpArgs false
set_option linter.unusedVariables false
open Go.RowKit

/-- The first rate above a border at a gradient, or the one after the last rate. -/
def firQ (m : Mdl) (b g : Int) : Int := min (max 0 (b * g / m.s + 1)) 1000001
theorem firQ_far (m : Mdl) (b g : Int) : 0 ≤ firQ m b g ∧ firQ m b g ≤ 1000001 := by unfold firQ; omega
theorem firQ_abv {m : Mdl} (hm : 1 ≤ m.s) {b g v : Int} (v0 : 0 ≤ v) (v1 : v ≤ 1000000) : abv m v b g = decide (firQ m b g ≤ v) := by
  unfold abv firQ
  have h : b * g < v * m.s ↔ b * g / m.s < v := (Int.ediv_lt_iff_lt_mul (by omega)).symm
  rw [decide_eq_decide, h]
  omega
set_option maxHeartbeats 1600000 in
theorem search_go (T : Int) (F : Nat) (c1 c2 c3 : Value) (w : World) (t0 : 0 ≤ T) (t1 : T ≤ 1000001) (en : ∀ (caps : Array Value) (W : World), (callFunc F caps).run Tryz.prog W = .ok (.enter F caps) W)
    (HF : Hid (∀ v W, 0 ≤ v → v ≤ 1000000 → Below w.heap.size w W → Calls Tryz.prog F #[.int .i64 v, c1, c2, c3] W fun e w' => e = .returned (.bool (decide (T ≤ v))) ∧ Below W.heap.size W w')) :
    Calls Tryz.prog 140 #[.int .i64 1000001, .func (.func F) #[] #[c1, c2, c3]] w fun e w' => e = .returned (.int .i64 T) ∧ Below w.heap.size w w' := by
  go_enter Tryz.func140, Tryz.ntmps140
  go_wp2_with fail
  go_loopw [5, 6] (fun i j wr => ∃ a b : Int, i = .int .i64 a ∧ j = .int .i64 b ∧ ((0 ≤ a ∧ a ≤ T) ∧ (T ≤ b ∧ b ≤ 1000001)) ∧ Below w.heap.size w wr) (fun i j _ => (intOf j - intOf i).toNat)
  case atStart => exact ⟨0, 1000001, rfl, rfl, by omega, Below.refl _ _⟩
  case round =>
    obtain ⟨a, b, rfl, rfl, ⟨⟨a0, a1⟩, b0, b1⟩, hb⟩ := hrel
    by_cases hlt : a < b
    · go_wp2_with fail
      obtain ⟨M, hM⟩ : ∃ M, (a + b) / 2 = M := ⟨_, rfl⟩
      rw [hM]
      have mb : a ≤ M ∧ M < b := by omega
      refine (HF.out M wr (by omega) (by omega) hb).mono ?_
      rintro e w1 ⟨rfl, hb1⟩
      have B1 := hide (bnext hb hb1)
      have HM := hide hM
      clear hb hb1 hM
      by_cases hc : T ≤ M
      · have d : decide (T ≤ M) = true := decide_eq_true hc
        rw [d]
        go_wp2_with fail
        go_roundw
        case rel => exact ⟨a, M, rfl, rfl, by omega, B1.out⟩
        case measure => have := HM.out; simp [intOf]; omega
      · have d : decide (T ≤ M) = false := decide_eq_false hc
        rw [d]
        go_wp2_with fail
        go_roundw
        case rel => exact ⟨M + 1, b, rfl, rfl, by omega, B1.out⟩
        case measure => have := HM.out; simp [intOf]; omega
    · go_wp2_with fail
      go_ret
      exact ⟨ret_eq1 (by omega), hb⟩
theorem firstAbove1_any (m : Mdl) (b g v : Int) (q r u : Nat) (w : World) (hm : MdlOk m) (v0 : 0 ≤ v) (v1 : v ≤ 1000000) (b0 : -1 ≤ b) (b1 : b ≤ 1000000000000) (g0 : 0 ≤ g) (g1 : g ≤ 1000000) (hq : MdlAt w q m) (hr : w.cell? ⟨r, 0, none⟩ = some (.int .i64 b)) (hu : w.cell? ⟨u, 0, none⟩ = some (.int .i64 g)) :
    Calls Tryz.prog 141 #[.int .i64 v, .pointer (some ⟨q, 0, none⟩), .pointer (some ⟨r, 0, none⟩), .pointer (some ⟨u, 0, none⟩)] w fun e w' => e = .returned (.bool (abv m v b g)) ∧ Below w.heap.size w w' := by
  have AB := hide (above_any m v b g w hm v0 v1 b0 b1 g0 g1)
  generalize abv m v b g = k at *
  obtain ⟨s, a0, b0, a1, b1, a2, b2, a3, b3⟩ := m
  have ⟨⟨⟨⟨m1, m2⟩, m3⟩, m4, m5⟩, ⟨m6, m7⟩, m8, m9⟩ := hq
  unfold mdlV at AB
  simp only at m1 m2 m3 m4 m5 m6 m7 m8 m9 AB
  clear hq hm
  go_enter Tryz.func141, Tryz.ntmps141
  go_wp2_with fail
  refine AB.out.mono ?_
  rintro e w1 ⟨rfl, hb1⟩
  go_wp2_with fail
  go_ret
  exact ⟨rfl, hb1⟩
theorem firstAbove_any (m : Mdl) (b g : Int) (w : World) (hm : MdlOk m) (b0 : -1 ≤ b) (b1 : b ≤ 1000000000000) (g0 : 0 ≤ g) (g1 : g ≤ 1000000) :
    Calls Tryz.prog 114 #[mdlV m, .int .i64 b, .int .i64 g] w fun e w' => e = .returned (.int .i64 (firQ m b g)) ∧ Below w.heap.size w w' := by
  have F1 := hide (fun v W (v0 : 0 ≤ v) (v1 : v ≤ 1000000) (hq : MdlAt W w.heap.size m) (hr : W.cell? ⟨w.heap.size + 1, 0, none⟩ = some (.int .i64 b)) (hu : W.cell? ⟨w.heap.size + 1 + 1, 0, none⟩ = some (.int .i64 g)) => (show Calls Tryz.prog 141 #[.int .i64 v, .pointer (some ⟨w.heap.size, 0, none⟩), .pointer (some ⟨w.heap.size + 1, 0, none⟩), .pointer (some ⟨w.heap.size + 1 + 1, 0, none⟩)] W fun e w' => e = .returned (.bool (decide (firQ m b g ≤ v))) ∧ Below W.heap.size W w' by
    rw [← firQ_abv hm.s1 v0 v1]; exact firstAbove1_any m b g v _ _ _ W hm v0 v1 b0 b1 g0 g1 hq hr hu))
  have en : ∀ (caps : Array Value) (W : World), (callFunc 141 caps).run Tryz.prog W = .ok (.enter 141 caps) W := fun caps W => enters_any Tryz.func141 (by kernel_rfl) rfl _ _
  have FB := firQ_far m b g
  have MN := hide (mdlAt_new w m 26)
  generalize firQ m b g = T at *
  have EN := hide en
  clear en hm b0 b1 g0 g1
  obtain ⟨s, a0, b0, a1, b1, a2, b2, a3, b3⟩ := m
  unfold mdlV
  simp only
  go_enter Tryz.func114, Tryz.ntmps114
  go_wp2_with fail
  refine (search_go T 141 _ _ _ _ FB.1 FB.2 EN.out (hide (fun v W v0 v1 hb => F1.out v W v0 v1 (mdlAt_later MN.out (bnext (by repeat (first | exact Below.refl _ _ | assumption | apply balloc | apply bdrew | (refine below_drewN ?_ _) | (refine bset ?_ (by first | (simp; done) | omega | (simp; omega)) _) | (refine bnext ?_ (by assumption)))) hb)) (later hb (by simp [go_sem, World.cell?_alloc_past])) (later hb (by simp [go_sem, World.cell?_alloc_past]))))).mono ?_
  rintro e w1 ⟨rfl, hb1⟩
  go_wp2_with fail
  go_ret
  exact ⟨rfl, (by repeat (first | exact Below.refl _ _ | assumption | apply balloc | apply bdrew | (refine below_drewN ?_ _) | (refine bset ?_ (by first | (simp; done) | omega | (simp; omega)) _) | (refine bnext ?_ (by assumption))))⟩
end Go.Proofs.YtimfbjnpalgmcaaGreat

namespace Go.Proofs.YtimfbjnpalgmcaaGreat
set_option linter.unusedSimpArgs false
set_option linter.unusedVariables false
open Go.RowKit

/-- The rates at which a zone can be in a region. -/
def spoR (m : Mdl) (z : Int × Int) (k : Nat) : Int × Int := (firQ m (sideL m k) z.1, firQ m (sideH m k) z.2 - 1)
def spoB (m : Mdl) (z : Int × Int) (s : Int) (k : Nat) : Bool := !selB s k && (decide (sideL m k < sideH m k) && decide ((spoR m z k).1 ≤ (spoR m z k).2))
def spoN (m : Mdl) (z : Int × Int) (s : Int) : Nat → List (Int × Int)
  | 0 => []
  | k + 1 => if spoB m z s k then spoN m z s k ++ [spoR m z k] else spoN m z s k
theorem spoN_len (m : Mdl) (z : Int × Int) (s : Int) : ∀ k, (spoN m z s k).length ≤ k := by
  intro k
  induction k with
  | zero => simp [spoN]
  | succ k ih => unfold spoN; split <;> first | (simp; omega) | omega
def SpPost (w : World) (L : List (Int × Int)) (e : Ending) (w' : World) : Prop := ∃ v, e = .returned v ∧ w'.ownsRow w.heap.size 23 2 v L.length (rowOf L) ∧ Below w.heap.size w w'
set_option maxRecDepth 100000 in
set_option maxHeartbeats 6400000 in
theorem spoilt_go (s a0 b0 a1 b1 a2 b2 a3 b3 z1 z2 sw : Int) (f : Nat → Bool) (R : Nat → Int × Int) (N : Nat → List (Int × Int)) (w : World) (hm : MdlOk ⟨s, a0, b0, a1, b1, a2, b2, a3, b3⟩) (g1 : 0 ≤ z1) (g2 : z1 ≤ z2) (g3 : z2 ≤ 1000000)
    (hN0 : Hid (N 0 = [])) (hN : Hid (∀ k, N (k + 1) = if !selB sw k && (decide (sideL ⟨s, a0, b0, a1, b1, a2, b2, a3, b3⟩ k < sideH ⟨s, a0, b0, a1, b1, a2, b2, a3, b3⟩ k) && decide ((R k).1 ≤ (R k).2)) then N k ++ [R k] else N k)) (hL : Hid (∀ k, (N k).length ≤ k)) (hR : Hid (∀ k, R k = (firQ ⟨s, a0, b0, a1, b1, a2, b2, a3, b3⟩ (sideL ⟨s, a0, b0, a1, b1, a2, b2, a3, b3⟩ k) z1, firQ ⟨s, a0, b0, a1, b1, a2, b2, a3, b3⟩ (sideH ⟨s, a0, b0, a1, b1, a2, b2, a3, b3⟩ k) z2 - 1))) :
    Calls Tryz.prog 64 #[.agg #[.int .i64 s, .int .i64 a0, .int .i64 b0, .int .i64 a1, .int .i64 b1, .int .i64 a2, .int .i64 b2, .int .i64 a3, .int .i64 b3], .agg #[.int .i64 z1, .int .i64 z2], .int .u8 sw] w (SpPost w (N 5)) := by
  have SD := hide (fun (W : World) => sides_any ⟨s, a0, b0, a1, b1, a2, b2, a3, b3⟩ W)
  have FA := hide (fun (W : World) (k : Nat) => (show Calls Tryz.prog 114 #[.agg #[.int .i64 s, .int .i64 a0, .int .i64 b0, .int .i64 a1, .int .i64 b1, .int .i64 a2, .int .i64 b2, .int .i64 a3, .int .i64 b3], .int .i64 (sideL ⟨s, a0, b0, a1, b1, a2, b2, a3, b3⟩ k), .int .i64 z1] W fun e w' => e = .returned (.int .i64 (firQ ⟨s, a0, b0, a1, b1, a2, b2, a3, b3⟩ (sideL ⟨s, a0, b0, a1, b1, a2, b2, a3, b3⟩ k) z1)) ∧ Below W.heap.size W w' from firstAbove_any ⟨s, a0, b0, a1, b1, a2, b2, a3, b3⟩ _ z1 W hm (sideL_far hm k).1 (by have := (sideL_far hm k).2; omega) g1 (by omega)))
  have FB := hide (fun (W : World) (k : Nat) => (show Calls Tryz.prog 114 #[.agg #[.int .i64 s, .int .i64 a0, .int .i64 b0, .int .i64 a1, .int .i64 b1, .int .i64 a2, .int .i64 b2, .int .i64 a3, .int .i64 b3], .int .i64 (sideH ⟨s, a0, b0, a1, b1, a2, b2, a3, b3⟩ k), .int .i64 z2] W fun e w' => e = .returned (.int .i64 (firQ ⟨s, a0, b0, a1, b1, a2, b2, a3, b3⟩ (sideH ⟨s, a0, b0, a1, b1, a2, b2, a3, b3⟩ k) z2)) ∧ Below W.heap.size W w' from firstAbove_any ⟨s, a0, b0, a1, b1, a2, b2, a3, b3⟩ _ z2 W hm (by have := (sideH_far hm k).1; omega) (sideH_far hm k).2 (by omega) g3))
  have FF := hide (fun (k : Nat) => (show (0 ≤ firQ ⟨s, a0, b0, a1, b1, a2, b2, a3, b3⟩ (sideL ⟨s, a0, b0, a1, b1, a2, b2, a3, b3⟩ k) z1 ∧ firQ ⟨s, a0, b0, a1, b1, a2, b2, a3, b3⟩ (sideL ⟨s, a0, b0, a1, b1, a2, b2, a3, b3⟩ k) z1 ≤ 1000001) ∧ 0 ≤ firQ ⟨s, a0, b0, a1, b1, a2, b2, a3, b3⟩ (sideH ⟨s, a0, b0, a1, b1, a2, b2, a3, b3⟩ k) z2 ∧ firQ ⟨s, a0, b0, a1, b1, a2, b2, a3, b3⟩ (sideH ⟨s, a0, b0, a1, b1, a2, b2, a3, b3⟩ k) z2 ≤ 1000001 from ⟨firQ_far _ _ _, firQ_far _ _ _⟩))
  have IX := hide (fun (k : Nat) (hk : k < 5) (W : World) => (show (Instr.index 112 (.agg #[.int .i64 (-1), .int .i64 b0, .int .i64 a0, .int .i64 b1, .int .i64 a1, .int .i64 b2, .int .i64 a2, .int .i64 b3, .int .i64 a3, .int .i64 1000000000000]) (.int .i64 (k : Int))).run Tryz.prog W = .ok (.agg #[.int .i64 (sideL ⟨s, a0, b0, a1, b1, a2, b2, a3, b3⟩ k), .int .i64 (sideH ⟨s, a0, b0, a1, b1, a2, b2, a3, b3⟩ k)]) W by
    rcases (show k = 0 ∨ k = 1 ∨ k = 2 ∨ k = 3 ∨ k = 4 by omega) with rfl | rfl | rfl | rfl | rfl
    · kernel_rfl
    · kernel_rfl
    · kernel_rfl
    · kernel_rfl
    · kernel_rfl))
  generalize sideL ⟨s, a0, b0, a1, b1, a2, b2, a3, b3⟩ = SL at *
  generalize sideH ⟨s, a0, b0, a1, b1, a2, b2, a3, b3⟩ = SH at *
  have MN := hide (mdlAt_new w ⟨s, a0, b0, a1, b1, a2, b2, a3, b3⟩ 26)
  clear hm g1 g2 g3
  go_enter Tryz.func64, Tryz.ntmps64
  go_wp2_with fail
  refine (SD.out _).mono ?_
  rintro e w1 ⟨rfl, hb1⟩
  have M1 := hide (mdlAt_later MN.out (show Below (w.alloc (.cells #[.int .i64 s, .int .i64 a0, .int .i64 b0, .int .i64 a1, .int .i64 b1, .int .i64 a2, .int .i64 b2, .int .i64 a3, .int .i64 b3] 26)).heap.size _ w1 from (by repeat (first | exact Below.refl _ _ | assumption | apply balloc | apply bdrew | (refine below_drewN ?_ _) | (refine bset ?_ (by first | (simp; done) | omega | (simp; omega)) _) | (refine bnext ?_ (by assumption))))))
  have X1 := hide (rgAt_later (q := w.heap.size + 1) (x := z1) (y := z2) ⟨(by simp [go_sem, World.cell?_alloc_past]), (by simp [go_sem, World.cell?_alloc_past])⟩ hb1)
  have B1 := hide (show Below w.heap.size w w1 from (by repeat (first | exact Below.refl _ _ | assumption | apply balloc | apply bdrew | (refine below_drewN ?_ _) | (refine bset ?_ (by first | (simp; done) | omega | (simp; omega)) _) | (refine bnext ?_ (by assumption)))))
  clear hb1 MN SD
  go_wp2_with fail
  go_loopw [7, 13] (fun v i wr => ∃ k : Nat, k ≤ 5 ∧ i = .int .i64 (k : Int) ∧ Hid (wr.ownsRow w1.heap.size 23 2 v (N k).length (rowOf (N k))) ∧ Below w1.heap.size w1 wr) (fun _ i _ => 5 - (intOf i).toNat)
  case atStart => exact ⟨0, by omega, rfl, hide (by rw [hN0.out]; exact World.ownsRow_nil _ _ _ _), Below.refl _ _⟩
  case round =>
    obtain ⟨k, hk, rfl, hown, hb⟩ := hrel
    by_cases hlt : k < 5
    · have ix := IX.out k hlt
      have HNk := hide (hN.out k)
      have HLk := hide (hL.out k)
      have HRk := hide (hR.out k)
      have A1 := hide (fun W => FA.out W k)
      have A2 := hide (fun W => FB.out W k)
      have AF := hide (FF.out k)
      generalize SL k = L at *
      generalize SH k = H at *
      generalize firQ ⟨s, a0, b0, a1, b1, a2, b2, a3, b3⟩ L z1 = lo at *
      generalize firQ ⟨s, a0, b0, a1, b1, a2, b2, a3, b3⟩ H z2 = h2 at *
      obtain ⟨P, hP⟩ : ∃ P : Int, ((2 ^ k : Nat) : Int) = P := ⟨_, rfl⟩
      have ON := hide (fun (W : World) => (show Calls Tryz.prog 84 #[.int .i64 (k : Int)] W fun e w' => e = .returned (.int .u8 P) ∧ W = w' from (only_any k (by omega) W).mono (by rintro e w' ⟨rfl, rfl⟩; exact ⟨by rw [hP], rfl⟩)))
      have HP := hide (show selB sw k = !(bits BinOp.and IntKind.u8 sw P == 0) by rw [selB, hP])
      clear hP
      have k0 : 0 ≤ (k : Int) := by omega
      have k1 : (k : Int) < 5 := by omega
      go_upto_region 5 with fail
      obtain ⟨w5, hw5⟩ : ∃ z, z = wr.alloc (.cells #[.int .i64 L, .int .i64 H] 23) := ⟨_, rfl⟩
      rw [← hw5]
      obtain ⟨p3, hp3⟩ : ∃ p, wr.heap.size = p := ⟨_, rfl⟩
      have L3 : w5.cell? ⟨p3, 0, none⟩ = some (.int .i64 L) := by rw [hw5, ← hp3]; exact (by simp [go_sem, World.cell?_alloc_past])
      have H3 : w5.cell? ⟨p3, 1, none⟩ = some (.int .i64 H) := by rw [hw5, ← hp3]; exact (by simp [go_sem, World.cell?_alloc_past])
      have B5 := hide (show Below w1.heap.size w1 w5 by rw [hw5]; exact balloc hb)
      have O5 := hide (show w5.ownsRow w1.heap.size 23 2 _ (N k).length (rowOf (N k)) by rw [hw5]; exact hown.out.alloc _)
      rw [hp3]
      have LH := hide (And.intro L3 H3)
      clear hw5 hp3 hown hb
      cases hsel : (bits BinOp.and IntKind.u8 sw P == 0) with
      | false =>
        have dn : (bits BinOp.and IntKind.u8 sw P != 0) = true := by simpa [bne] using hsel
        have HE := hide (show N (k + 1) = N k by rw [HNk.out, HP.out, hsel]; rfl)
        clear hsel HP HNk
        go_wp2_with fail
        refine (ON.out _).mono ?_
        rintro e w6 ⟨rfl, rfl⟩
        go_wp2_with fail
        go_roundw
        case rel => exact ⟨k + 1, by omega, by go_num, hide (by rw [HE.out]; exact O5.out), B5.out⟩
        case measure => simp [intOf]; omega
      | true =>
        have dn : (bits BinOp.and IntKind.u8 sw P != 0) = false := by simpa [bne] using hsel
        by_cases hLH : L < H
        · have dL : decide (H ≤ L) = false := decide_eq_false (by omega)
          have HE := hide (show N (k + 1) = if decide (lo ≤ h2 - 1) then N k ++ [(lo, h2 - 1)] else N k by rw [HNk.out, HP.out, hsel, decide_eq_true hLH, HRk.out]; rfl)
          clear hsel HP HNk hLH
          go_wp2_with fail
          refine (ON.out _).mono ?_
          rintro e w6 ⟨rfl, rfl⟩
          go_upto_region 6 with fail
          have KP := hide (fun (W : World) (hb : Below w5.heap.size w5 W) => (show W.cell? ⟨w.heap.size, 0, none⟩ = some (.int .i64 s) ∧ W.cell? ⟨w.heap.size, 1, none⟩ = some (.int .i64 a0) ∧ W.cell? ⟨w.heap.size, 2, none⟩ = some (.int .i64 b0) ∧ W.cell? ⟨w.heap.size, 3, none⟩ = some (.int .i64 a1) ∧ W.cell? ⟨w.heap.size, 4, none⟩ = some (.int .i64 b1) ∧ W.cell? ⟨w.heap.size, 5, none⟩ = some (.int .i64 a2) ∧ W.cell? ⟨w.heap.size, 6, none⟩ = some (.int .i64 b2) ∧ W.cell? ⟨w.heap.size, 7, none⟩ = some (.int .i64 a3) ∧ W.cell? ⟨w.heap.size, 8, none⟩ = some (.int .i64 b3) ∧ W.cell? ⟨w.heap.size + 1, 0, none⟩ = some (.int .i64 z1) ∧ W.cell? ⟨w.heap.size + 1, 1, none⟩ = some (.int .i64 z2) ∧ W.cell? ⟨p3, 0, none⟩ = some (.int .i64 L) ∧ W.cell? ⟨p3, 1, none⟩ = some (.int .i64 H) ∧ Below w5.heap.size w5 W from
            have ⟨⟨⟨⟨m1, m2⟩, m3⟩, m4, m5⟩, ⟨m6, m7⟩, m8, m9⟩ := mdlAt_later M1.out (bnext B5.out hb)
            have ⟨y1, y2⟩ := rgAt_later X1.out (bnext B5.out hb)
            ⟨m1, m2, m3, m4, m5, m6, m7, m8, m9, y1, y2, later hb LH.out.1, later hb LH.out.2, hb⟩))
          have wd : IntKind.i64.wrap (h2 - 1) = h2 - 1 := IntWalk.i64_in _ (by have := AF.out; omega)
          clear L3 H3
          go_cut [10] from 29 to 42 (fun s10 wx => ∃ p, s10 = .pointer (some ⟨p, 0, none⟩) ∧ (wx.cell? ⟨p, 0, none⟩ = some (.int .i64 lo) ∧ wx.cell? ⟨p, 1, none⟩ = some (.int .i64 (h2 - 1))) ∧ Below w5.heap.size w5 wx)
          case first =>
            as_aux_lemma =>
            go_region_held3 (fun W => W.cell? ⟨w.heap.size, 0, none⟩ = some (.int .i64 s) ∧ W.cell? ⟨w.heap.size, 1, none⟩ = some (.int .i64 a0) ∧ W.cell? ⟨w.heap.size, 2, none⟩ = some (.int .i64 b0) ∧ W.cell? ⟨w.heap.size, 3, none⟩ = some (.int .i64 a1) ∧ W.cell? ⟨w.heap.size, 4, none⟩ = some (.int .i64 b1) ∧ W.cell? ⟨w.heap.size, 5, none⟩ = some (.int .i64 a2) ∧ W.cell? ⟨w.heap.size, 6, none⟩ = some (.int .i64 b2) ∧ W.cell? ⟨w.heap.size, 7, none⟩ = some (.int .i64 a3) ∧ W.cell? ⟨w.heap.size, 8, none⟩ = some (.int .i64 b3) ∧ W.cell? ⟨w.heap.size + 1, 0, none⟩ = some (.int .i64 z1) ∧ W.cell? ⟨w.heap.size + 1, 1, none⟩ = some (.int .i64 z2) ∧ W.cell? ⟨p3, 0, none⟩ = some (.int .i64 L) ∧ W.cell? ⟨p3, 1, none⟩ = some (.int .i64 H) ∧ Below w5.heap.size w5 W)
              ((go_split_ands; refine KP.out _ ?_; exact (by repeat (first | exact Below.refl _ _ | assumption | apply balloc | apply bdrew | (refine below_drewN ?_ _) | (refine bset ?_ (by first | (simp; done) | omega | (simp; omega)) _) | (refine bnext ?_ (by assumption))))))
              (first | (go_at_call_of 114 L; refine (A1.out _).mono ?_; first | (have hq := hbA; clear hq; rintro e wB ⟨rfl, hbB⟩; obtain ⟨⟨hcB, hfB⟩, ⟨hcB2, hfB2⟩, hcB3, hfB3, ⟨hnB1, hnB2, hnB3, hnB4⟩, ⟨hlB1, hlB2, hlB3, hlB4, hlB5⟩, hsB⟩ := bcellR hbB; (try simp at hsB); (try have zB1 := hcB w5.heap.size 0 (by first | (simp; done) | omega | (simp; omega))); (try have zB2 := hfB w5.heap.size 0 (by first | (simp; done) | omega | (simp; omega))); (try have zB3 := hcB w5.heap.size 1 (by first | (simp; done) | omega | (simp; omega))); (try have zB4 := hfB w5.heap.size 1 (by first | (simp; done) | omega | (simp; omega))); (try have zB5 := hcB (w5.heap.size + 1) 0 (by first | (simp; done) | omega | (simp; omega))); (try have zB6 := hfB (w5.heap.size + 1) 0 (by first | (simp; done) | omega | (simp; omega))); (try have zB7 := hcB (w5.heap.size + 1) 1 (by first | (simp; done) | omega | (simp; omega))); (try have zB8 := hfB (w5.heap.size + 1) 1 (by first | (simp; done) | omega | (simp; omega)))) | (rintro e wA ⟨rfl, hbA⟩; obtain ⟨⟨hcA, hfA⟩, ⟨hcA2, hfA2⟩, hcA3, hfA3, ⟨hnA1, hnA2, hnA3, hnA4⟩, ⟨hlA1, hlA2, hlA3, hlA4, hlA5⟩, hsA⟩ := bcellR hbA; (try simp at hsA); (try have zA1 := hcA w5.heap.size 0 (by first | (simp; done) | omega | (simp; omega))); (try have zA2 := hfA w5.heap.size 0 (by first | (simp; done) | omega | (simp; omega))); (try have zA3 := hcA w5.heap.size 1 (by first | (simp; done) | omega | (simp; omega))); (try have zA4 := hfA w5.heap.size 1 (by first | (simp; done) | omega | (simp; omega))); (try have zA5 := hcA (w5.heap.size + 1) 0 (by first | (simp; done) | omega | (simp; omega))); (try have zA6 := hfA (w5.heap.size + 1) 0 (by first | (simp; done) | omega | (simp; omega))); (try have zA7 := hcA (w5.heap.size + 1) 1 (by first | (simp; done) | omega | (simp; omega))); (try have zA8 := hfA (w5.heap.size + 1) 1 (by first | (simp; done) | omega | (simp; omega))))) | (go_at_call_of 114 H; refine (A2.out _).mono ?_; first | (have hq := hbA; clear hq; rintro e wB ⟨rfl, hbB⟩; obtain ⟨⟨hcB, hfB⟩, ⟨hcB2, hfB2⟩, hcB3, hfB3, ⟨hnB1, hnB2, hnB3, hnB4⟩, ⟨hlB1, hlB2, hlB3, hlB4, hlB5⟩, hsB⟩ := bcellR hbB; (try simp at hsB); (try have zB1 := hcB w5.heap.size 0 (by first | (simp; done) | omega | (simp; omega))); (try have zB2 := hfB w5.heap.size 0 (by first | (simp; done) | omega | (simp; omega))); (try have zB3 := hcB w5.heap.size 1 (by first | (simp; done) | omega | (simp; omega))); (try have zB4 := hfB w5.heap.size 1 (by first | (simp; done) | omega | (simp; omega))); (try have zB5 := hcB (w5.heap.size + 1) 0 (by first | (simp; done) | omega | (simp; omega))); (try have zB6 := hfB (w5.heap.size + 1) 0 (by first | (simp; done) | omega | (simp; omega))); (try have zB7 := hcB (w5.heap.size + 1) 1 (by first | (simp; done) | omega | (simp; omega))); (try have zB8 := hfB (w5.heap.size + 1) 1 (by first | (simp; done) | omega | (simp; omega)))) | (rintro e wA ⟨rfl, hbA⟩; obtain ⟨⟨hcA, hfA⟩, ⟨hcA2, hfA2⟩, hcA3, hfA3, ⟨hnA1, hnA2, hnA3, hnA4⟩, ⟨hlA1, hlA2, hlA3, hlA4, hlA5⟩, hsA⟩ := bcellR hbA; (try simp at hsA); (try have zA1 := hcA w5.heap.size 0 (by first | (simp; done) | omega | (simp; omega))); (try have zA2 := hfA w5.heap.size 0 (by first | (simp; done) | omega | (simp; omega))); (try have zA3 := hcA w5.heap.size 1 (by first | (simp; done) | omega | (simp; omega))); (try have zA4 := hfA w5.heap.size 1 (by first | (simp; done) | omega | (simp; omega))); (try have zA5 := hcA (w5.heap.size + 1) 0 (by first | (simp; done) | omega | (simp; omega))); (try have zA6 := hfA (w5.heap.size + 1) 0 (by first | (simp; done) | omega | (simp; omega))); (try have zA7 := hcA (w5.heap.size + 1) 1 (by first | (simp; done) | omega | (simp; omega))); (try have zA8 := hfA (w5.heap.size + 1) 1 (by first | (simp; done) | omega | (simp; omega))))))
            all_goals
              go_wp2_with fail
              go_meet
              refine ⟨_, rfl, ⟨?_, ?_⟩, ?_⟩
              rotate_left 2
              · exact (by repeat (first | exact Below.refl _ _ | exact hbA | exact hbB | apply balloc | apply bdrew | (refine bset ?_ (by first | (simp; done) | omega | (simp; omega)) _) | (refine bnext ?_ hbB) | (refine bnext ?_ hbA)))
              all_goals first | (simp [go_sem]; done) | (simp (maxDischargeDepth := 8) [go_sem, set_selfR, hcB, hfB, hcB2, hfB2, hcB3, hfB3, hnB1, hnB2, hnB3, hnB4, hlB1, hlB2, hlB3, hlB4, hlB5, hcA, hfA, hcA2, hfA2, hcA3, hfA3, hnA1, hnA2, hnA3, hnA4, hlA1, hlA2, hlA3, hlA4, hlA5]; done)
          case rest =>
            obtain ⟨p, rfl, ⟨n1, n2⟩, hb9⟩ := hcut
            have O9 := hide (owns_later O5.out hb9)
            have B9 := hide (bnext B5.out hb9)
            have SB := hide (show w1.heap.size ≤ wc.heap.size from B9.out.size)
            clear hb9 wd
            by_cases hc : lo ≤ h2 - 1
            · have dc : decide (lo ≤ h2 - 1) = true := decide_eq_true hc
              have HE2 := hide (show N (k + 1) = N k ++ [(lo, h2 - 1)] by rw [HE.out, dc]; rfl)
              clear hc HE
              obtain ⟨h3, hh3⟩ : ∃ h3, h2 - 1 = h3 := ⟨_, rfl⟩
              rw [hh3] at n2 dc HE2
              clear hh3
              go_wp2_with (at_builtin; refine wpList_append_rg rfl (.tmp 48) (.tmp 50) rfl w1.heap.size _ (N k) rfl (O9.out.alloc _) _ lo h3 rfl ?_ ?_ ?_ ?_ ?_)
              · exact (by simp [go_sem, World.cell?_alloc_past])
              · exact (by simp [go_sem, World.cell?_alloc_past])
              · have := HLk.out; omega
              · have := SB.out; simp; omega
              · intro g gc w3 hown3 hgrow hx3 hlt3
                have B3 := hide (Below.grown (balloc (o := .cells #[.int .i64 lo, .int .i64 h3] 23) B9.out) hgrow (by have := SB.out; simp; omega) (fun k' hk' => (O9.out.lt k' hk').1))
                have N3 := hide (show w3.ownsRow w1.heap.size 23 2 (.slice (some ⟨g, 0, none⟩) ((N k).length + 1) gc) (N k ++ [(lo, h3)]).length (rowOf (N k ++ [(lo, h3)])) by simpa using hown3)
                clear hown3 hgrow hx3 n1 n2
                go_wp2_with fail
                go_roundw
                case rel => exact ⟨k + 1, by omega, by go_num, hide (by rw [HE2.out]; exact N3.out), B3.out⟩
                case measure => simp [intOf]; omega
            · have dc : decide (lo ≤ h2 - 1) = false := decide_eq_false hc
              have HE2 := hide (show N (k + 1) = N k by rw [HE.out, dc]; rfl)
              clear hc HE
              go_wp2_with fail
              go_roundw
              case rel => exact ⟨k + 1, by omega, by go_num, hide (by rw [HE2.out]; exact O9.out), B9.out⟩
              case measure => simp [intOf]; omega
        · have dL : decide (H ≤ L) = true := decide_eq_true (by omega)
          have HE := hide (show N (k + 1) = N k by rw [HNk.out, HP.out, hsel, decide_eq_false hLH]; rfl)
          clear hsel HP HNk hLH
          go_wp2_with fail
          refine (ON.out _).mono ?_
          rintro e w6 ⟨rfl, rfl⟩
          go_wp2_with fail
          go_roundw
          case rel => exact ⟨k + 1, by omega, by go_num, hide (by rw [HE.out]; exact O5.out), B5.out⟩
          case measure => simp [intOf]; omega
    · obtain rfl : k = 5 := by omega
      obtain ⟨b9, c9, rfl, _, _⟩ := own_pairs hown.out
      go_wp2_with fail
      exact bodyPost_ret (v := .slice b9 (N 5).length c9) (by simp [results, Tryz.results64, go_sem]) rfl ⟨_, rfl, owns_base hown.out B1.out.size, bnext B1.out hb⟩
theorem spoilt_any (m : Mdl) (z : Int × Int) (sw : Int) (w : World) (hm : mdlOk m = true) (hz : grOk z = true) :
    Calls Tryz.prog 64 #[mdlV m, .agg #[.int .i64 z.1, .int .i64 z.2], .int .u8 sw] w (SpPost w (spoN m z sw 5)) := by
  simp [grOk, rgOk] at hz
  obtain ⟨z1, z2⟩ := z
  obtain ⟨s, a0, b0, a1, b1, a2, b2, a3, b3⟩ := m
  exact spoilt_go s a0 b0 a1 b1 a2 b2 a3 b3 z1 z2 sw (fun _ => true) _ _ w (mdlOk_of hm) (by omega) (by omega) (by omega) rfl (fun k => rfl) (spoN_len _ _ _) (fun k => rfl)
end Go.Proofs.YtimfbjnpalgmcaaGreat
