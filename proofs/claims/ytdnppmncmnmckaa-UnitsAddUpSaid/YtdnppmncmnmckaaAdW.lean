/-
  UnitsAddUp: the walk.
-/
import Derived.Test.YtdnppmncmnmckaaAdM
import Derived.Test.YtdnppmncmnmckaaFrameF
import Derived.Deep.RegionHeld3
import Derived.Deep.AppendLies
import Derived.BigQuiet
namespace Go.Proofs.Ytdnppmncmnmckaa
set_option linter.unusedSimpArgs false
set_option linter.unusedVariables false
open Go.RowKit

/-- A list of integers of its own, with what it owns. -/
def OwnPost (w : World) (zs : List Int) (e : Ending) (w' : World) : Prop := ∃ v, e = .returned v ∧ w'.ownsRow w.heap.size 3 1 v zs.length (zs.map (Value.int .i64)) ∧ Below w.heap.size w w'
set_option maxHeartbeats 1600000 in
theorem ownInts_owns (a : Option Addr) (cap : Nat) (zs : List Int) (w : World) (hl : zs.length ≤ 1000) (ha : a = none → cap = 0 ∧ zs = []) (h : IsInts w a zs) :
    Calls Try.prog 26 #[.slice a zs.length cap] w fun e w' => OwnPost w zs e w' := by
  obtain ⟨ti, hi, hz0, hz1, hz2⟩ := info_parts int_info
  have HI := hide hi
  have HZ0 := hide hz0
  have HZ1 := hide hz1
  have HZ2 := hide hz2
  clear hi hz0 hz1 hz2
  have OWN := hide (World.ownsRow_lit (base := w.heap.size) (e := 3) (size := 1) w #[] 0 (Nat.le_refl _) (by unfold maxLen; omega) rfl)
  cases a with
  | none =>
    obtain ⟨rfl, rfl⟩ := ha rfl
    go_enter Try.func26, Try.ntmps26
    go_wp2_with (at_builtin; refine wpList_append_own_none rfl (.tmp 3) (.tmp 4) 37 rfl w.heap.size 3 ti 1 Try.underlying37 HI.out _ 0 [] rfl OWN.out rfl ?_)
    refine bodyPost_ret (v := .slice (some ⟨w.heap.size, 0, none⟩) 0 0) (by simp [results, Try.results26, go_sem]) rfl ⟨_, rfl, OWN.out, (by repeat (first | exact Below.refl _ _ | assumption | apply balloc | apply bdrew | (refine bset ?_ (by first | (simp; done) | omega | (simp; omega)) _) | (refine bnext ?_ (by assumption))))⟩
  | some ad =>
    have hc : ∀ (j : Nat) (u : Value), (zs.map (Value.int .i64))[j]? = some u → w.cell? (ad.add j) = some u := by
      intro j u hu
      rcases h with h | ⟨b, off, e, h⟩
      · subst h; simp at hu
      · cases e
        by_cases hj : j < zs.length
        · have := h j hj
          simp [List.getElem?_map, List.getElem?_eq_getElem hj] at hu
          subst hu
          rw [List.getD_eq_getElem?_getD, List.getElem?_eq_getElem hj, Option.getD_some] at this
          by_cases hz : j = 0
          · subst hz; simpa [Addr.add] using this
          · simpa [Addr.add, hz] using this
        · rw [List.getElem?_eq_none (by simp; omega)] at hu; cases hu
    have HC := hide hc
    have HL := hide hl
    clear hc h ha hl
    go_enter Try.func26, Try.ntmps26
    go_wp2_with (at_builtin; refine wpList_append_own _ rfl (.tmp 3) (.tmp 4) 37 rfl w.heap.size 3 ti (.int .i64 0) 1 8 Try.underlying37 HI.out HZ0.out HZ1.out HZ2.out rfl (by decide) _ 0 [] rfl OWN.out ad zs.length cap (zs.map (Value.int .i64)) rfl (by simp) ?_ ?_ ?_ ?_ ?_ ?_)
    · intro j u hu; exact later (balloc (Below.refl _ _)) (HC.out j (.int .i64 u) (by rw [List.getElem?_map, hu]; rfl))
    · intro u _; rfl
    · have := HL.out; unfold maxLen; omega
    · have := HL.out; omega
    · intro v' w1 hown1 hgrow _
      have HP := hide hown1
      have HG := hide hgrow
      clear hown1 hgrow
      go_wp2_with fail
      refine bodyPost_ret (v := v') (by simp [results, Try.results26, go_sem]) rfl ⟨_, rfl, HP.out, ?_⟩
      exact app_below (v := .slice (some ⟨w.heap.size, 0, none⟩) 0 0) (Below.refl _ _) (Nat.le_refl _) (fun k hk => by simp [Value.ownBlock] at hk; omega) HG.out

/-- What Portions returns: the parts, or an error. -/
def PtsPost (L : List Int) (m : Nat) (E : Int) (W : World) (e : Ending) (w' : World) : Prop := ∃ b c, e = .returned (.tuple #[.slice b m c, .int .i64 E]) ∧ IsInts w' b L ∧ Below W.heap.size W w'
def Pts (n : Int) (ws L : List Int) (m : Nat) (E : Int) : Prop := ∀ a cap W, IsInts W a ws → Calls Try.prog 27 #[.int .i64 n, .slice a ws.length cap] W fun e w' => PtsPost L m E W e w'

set_option maxRecDepth 100000 in
set_option maxHeartbeats 1600000 in
theorem addUp_long (n t : Int) (ws : List Int) (a : Option Addr) (cap : Nat) (w : World) (hm : ws.length ≤ maxLen) (hl : 100 < ws.length) :
    Calls Try.prog 16 #[.int .i64 n, .slice a ws.length cap, .int .u8 t] w fun e w' => e = .returned (.bool true) ∧ Below w.heap.size w w' := by
  have d1 : decide (100 < (ws.length : Int)) = true := decide_eq_true (by omega)
  unfold maxLen at hm
  go_enter Try.func16, Try.ntmps16
  go_wp2_with fail
  refine (known_any _).mono ?_
  rintro e w1 ⟨rfl, hb1⟩
  go_wp2_with fail
  go_ret
  exact ⟨rfl, (by repeat (first | exact Below.refl _ _ | assumption | apply balloc | apply bdrew | (refine bset ?_ (by first | (simp; done) | omega | (simp; omega)) _) | (refine bnext ?_ (by assumption))))⟩

set_option maxRecDepth 100000 in
set_option maxHeartbeats 3200000 in
theorem addUp_bad (n t : Int) (ws : List Int) (a : Option Addr) (cap : Nat) (E : Int) (w : World) (hl : ws.length ≤ 100) (hE : ¬ E = 0) (ha : Hid (a = none → cap = 0 ∧ ws = [])) (h : Hid (IsInts w a ws))
    (P : Hid (Pts n ws [] 0 E)) :
    Calls Try.prog 16 #[.int .i64 n, .slice a ws.length cap, .int .u8 t] w fun e w' => e = .returned (.bool true) ∧ Below w.heap.size w w' := by
  have d1 : decide (100 < (ws.length : Int)) = false := decide_eq_false (by omega)
  have e1 : (E != 0) = true := by simpa using hE
  go_enter Try.func16, Try.ntmps16
  go_wp2_with fail
  refine (ownInts_any a cap ws _ (by omega) ha.out h.out).mono ?_
  rintro e w1 ⟨b1, c1, rfl, hA1, hi1, hb1⟩
  have H1 := hide hi1
  have B1 := hide hb1
  clear hi1 hA1 hb1
  go_wp2_with fail
  refine (P.out b1 c1 w1 H1.out).mono ?_
  rintro e w2 ⟨b, c, rfl, _, hb2⟩
  have B2 := hide (bnext B1.out hb2)
  clear hb2
  go_wp2_with fail
  refine (known_any _).mono ?_
  rintro e w3 ⟨rfl, hb3⟩
  have B2' := B2.out
  go_wp2_with fail
  go_ret
  exact ⟨rfl, (by repeat (first | exact Below.refl _ _ | assumption | apply balloc | apply bdrew | (refine bset ?_ (by first | (simp; done) | omega | (simp; omega)) _) | (refine bnext ?_ (by assumption))))⟩

def Mdw (a b c how n r E : Int) : Prop := ∀ w, Calls Try.prog 20 #[.int .i64 a, .int .i64 b, .int .i64 c, .int .u8 how] w fun e w' => e = .returned (.tuple #[.int .i64 n, .int .i64 r, .int .i64 E]) ∧ Below w.heap.size w w'
/-- The running sums of the weights, and of the parts. -/
def AdS (ws : List Int) (S : Nat → Int) (A : Int) : Prop := S 0 = 0 ∧ S ws.length = A ∧ ∀ i, i < ws.length → S (i + 1) = S i + ws.getD i 0 ∧ (0 ≤ S i ∧ S i ≤ 1000000000000000) ∧ (0 ≤ ws.getD i 0 ∧ ws.getD i 0 ≤ 1000000000000000) ∧ S (i + 1) ≤ 1000000000000000
def AdU (ws L : List Int) (U : Nat → Int) (n : Int) : Prop := U 0 = 0 ∧ U ws.length = n ∧ ∀ i, i < ws.length → U (i + 1) = U i + L.getD i 0 ∧ (0 ≤ U i ∧ U i ≤ n) ∧ (0 ≤ L.getD i 0 ∧ L.getD i 0 ≤ n) ∧ (ws.getD i 0 = 0 → L.getD i 0 = 0)

/-- The parts of the joined weights. -/
def AdJ (L J : List Int) (k N : Nat) : Prop := J.length = N ∧ ∀ i, i < N → (i < k → J.getD i 0 = L.getD i 0) ∧ (i = k → J.getD i 0 = L.getD k 0 + L.getD (k + 1) 0) ∧ (k < i → J.getD i 0 = L.getD (i + 1) 0)
theorem one_cell {W : World} {ad : Addr} {v : Value} (h : W.cell? ad = some v) : ∀ j u, ([v] : List Value)[j]? = some u → W.cell? (ad.add j) = some u := by
  intro j u hu
  match j, hu with
  | 0, hu =>
    simp at hu
    subst hu
    simpa [Addr.add] using h
  | j + 1, hu => simp at hu
theorem ones_drop {l : List Int} {k : Nat} : ∀ u ∈ List.drop k (l.map (Value.int .i64)), u.oneCell' = true := by
  intro u hu
  obtain ⟨z, _, rfl⟩ := List.mem_map.1 (List.mem_of_mem_drop hu)
  rfl
/-- A part of the weights, copied. -/
def CutPost (B : Nat) (zs : List Int) (k : Nat) (W : World) (e : Ending) (w' : World) : Prop := ∃ v, e = .returned v ∧ w'.ownsRow B 3 1 v k (zs.map (Value.int .i64)) ∧ Below W.heap.size W w'
theorem cut_any {ws : List Int} {ab ao cap k : Nat} {w2 : World} (hl : ws.length ≤ 100) (hk : k < ws.length) (h : IsInts w2 (some ⟨ab, ao, none⟩) ws) (W : World) (hb : Below w2.heap.size w2 W) :
    Calls Try.prog 26 #[.slice (some ⟨ab, ao, none⟩) k cap] W fun e w' => CutPost w2.heap.size (ws.take k) k W e w' := by
  have hlen : (ws.take k).length = k := by simp; omega
  have hi : IsInts W (some ⟨ab, ao, none⟩) (ws.take k) := by
    rcases ints_later h hb with h | ⟨b, off, e, h⟩
    · subst h; simp at hk
    · refine .inr ⟨b, off, e, fun i hi => ?_⟩
      rw [hlen] at hi
      rw [h i (by omega)]
      simp [List.getD_eq_getElem?_getD, List.getElem?_take, hi]
  have := ownInts_owns (some ⟨ab, ao, none⟩) cap (ws.take k) W (by omega) (fun h => by cases h) hi
  rw [hlen] at this
  refine this.mono ?_
  rintro e w' ⟨v, rfl, ho, hbb⟩
  rw [hlen] at ho
  exact ⟨v, rfl, Go.Joins.ownsRow_le ho hb.size, hbb⟩

set_option maxRecDepth 100000 in
set_option maxHeartbeats 6400000 in
theorem addUp_good (n t A : Int) (ws L : List Int) (S U : Nat → Int) (ab ao cap : Nat) (w : World) (hl : ws.length ≤ 100) (hl0 : 1 ≤ ws.length) (n0 : 0 ≤ n) (n1 : n ≤ 1000000000000000) (t0 : 0 ≤ t) (t1 : t ≤ 255)
    (HW : Hid (∀ i, i < ws.length → w.cell? ⟨ab, ao + i, none⟩ = some (.int .i64 (ws.getD i 0)))) (HI : Hid (IsInts w (some ⟨ab, ao, none⟩) ws))
    (P : Hid (Pts n ws L ws.length 0)) (LL : Hid (L.length = ws.length)) (HS : Hid (AdS ws S A)) (HU : Hid (AdU ws L U n)) (HM : Hid (∀ i, i < ws.length → ∃ r, Mdw n (S (i + 1)) A 1 (U (i + 1)) r 0)) (hcap : ws.length ≤ cap)
    (HJ : Hid (∀ k : Nat, k + 1 < ws.length → ∃ J, Pts n (joinL ws k) J (ws.length - 1) 0 ∧ AdJ L J k (ws.length - 1))) :
    Calls Try.prog 16 #[.int .i64 n, .slice (some ⟨ab, ao, none⟩) ws.length cap, .int .u8 t] w fun e w' => e = .returned (.bool true) ∧ Below w.heap.size w w' := by
  have d1 : decide (100 < (ws.length : Int)) = false := decide_eq_false (by omega)
  go_enter Try.func16, Try.ntmps16
  go_wp2_with fail
  refine (ownInts_any _ cap ws _ (by omega) (fun h => by cases h) HI.out).mono ?_
  rintro e w1 ⟨b1, c1, rfl, hA1, hi1, hb1⟩
  have H1 := hide hi1
  have B1 := hide hb1
  clear hi1 hA1 hb1
  go_wp2_with fail
  refine (P.out b1 c1 w1 H1.out).mono ?_
  rintro e w2 ⟨b, c, rfl, hi2, hb2⟩
  have B2 := hide (bnext B1.out hb2)
  obtain ⟨lb, lo, rfl, hL⟩ : ∃ lb lo, b = some ⟨lb, lo, none⟩ ∧ ∀ i, i < ws.length → w2.cell? ⟨lb, lo + i, none⟩ = some (.int .i64 (L.getD i 0)) := by
    rcases hi2 with h | ⟨lb, lo, e, h⟩
    · have := LL.out; rw [h] at this; simp at this; omega
    · exact ⟨lb, lo, e, fun i hi => h i (by rw [LL.out]; exact hi)⟩
  have HL2 := hide hL
  have HW2 := hide (fun i hi => later B2.out (HW.out i hi))
  clear hi2 hb2 hL H1 B1
  go_wp2_with fail
  go_loop [9, 12] (fun all i => ∃ k : Nat, k ≤ ws.length ∧ i = .int .i64 (k : Int) ∧ all = .int .i64 (S k)) (fun _ i => ws.length - (intOf i).toNat)
  case atStart => exact ⟨0, by omega, rfl, by rw [HS.out.1]⟩
  case round =>
    obtain ⟨k, hk, rfl, rfl⟩ := hrel
    by_cases hlt : k < ws.length
    · have c1 := HW2.out k hlt
      obtain ⟨s1, ⟨s2, s3⟩, ⟨s4, s5⟩, s6⟩ := HS.out.2.2 k hlt
      rw [s1] at s6
      have E1 := hide s1
      clear s1
      generalize S k = s at *
      generalize ws.getD k 0 = x at *
      go_wp2_with fail
      all_goals
        go_round
        case rel => exact ⟨k + 1, by omega, by go_num, by rw [E1.out]⟩
        case measure => simp [intOf]; omega
    · obtain rfl : k = ws.length := by omega
      have eA := HS.out.2.1
      rw [eA]
      have EA := hide eA
      clear eA hk
      go_wp2_with fail
      go_loopw [10, 11, 13] (fun sm up i wr => ∃ k : Nat, k ≤ ws.length ∧ i = .int .i64 (k : Int) ∧ sm = .int .i64 (U k) ∧ up = .int .i64 (S k) ∧ Below w2.heap.size w2 wr) (fun _ _ i _ => ws.length - (intOf i).toNat)
      case atStart => exact ⟨0, by omega, rfl, by rw [HU.out.1], by rw [HS.out.1], Below.refl _ _⟩
      case round =>
        obtain ⟨k, hk, rfl, rfl, rfl, hbw⟩ := hrel
        by_cases hlt2 : k < ws.length
        · have c1 := later hbw (HW2.out k hlt2)
          have l1 := later hbw (HL2.out k hlt2)
          obtain ⟨s1, ⟨s2, s3⟩, ⟨s4, s5⟩, s6⟩ := HS.out.2.2 k hlt2
          obtain ⟨u1, ⟨u2, u3⟩, ⟨u4, u5⟩, u6⟩ := HU.out.2.2 k hlt2
          obtain ⟨r, M⟩ := HM.out k hlt2
          rw [s1, u1] at M
          rw [s1] at s6
          have E1 := hide s1
          have E2 := hide u1
          have Z := hide u6
          have MM := hide M
          clear s1 u1 M u6
          generalize S k = s at *
          generalize U k = u at *
          generalize ws.getD k 0 = x at *
          generalize L.getD k 0 = y at *
          have q1 : decide (y < 0) = false := decide_eq_false (by omega)
          have q2 : decide (n < y) = false := decide_eq_false (by omega)
          have hw1 : IntKind.wrap .i64 (u + y) = u + y := IntWalk.i64_in _ (by omega)
          have hw2 : IntKind.wrap .i64 (s + x) = s + x := IntWalk.i64_in _ (by omega)
          have HW1 := hide hw1
          have HW2' := hide hw2
          clear hw1 hw2
          have CS : ((x == 0) = true ∧ (y != 0) = false) ∨ (x == 0) = false := by
            by_cases hx : x = 0
            · exact .inl ⟨by simpa using hx, by simpa using Z.out hx⟩
            · exact .inr (by simpa using hx)
          rcases CS with ⟨hx, hy⟩ | hx
          all_goals
            go_wp2_with fail
            have hw1 := HW1.out
            have hw2 := HW2'.out
            go_quiet (fail)
            go_wp2_with fail
            refine (MM.out _).mono ?_
            rintro e w5 ⟨rfl, hb5⟩
            go_wp2_with fail
            go_roundw
            case rel => exact ⟨k + 1, by omega, by go_num, by rw [E2.out], by rw [E1.out], bnext (below_drewN hbw _) hb5⟩
            case measure => simp [intOf]; omega
        · obtain rfl : k = ws.length := by omega
          rw [HU.out.2.1]
          obtain ⟨kk, rfl⟩ : ∃ kk : Nat, t = (kk : Int) := ⟨t.toNat, by omega⟩
          by_cases hkk : kk + 1 < ws.length
          · have q3 : decide ((ws.length : Int) ≤ (kk : Int) + 1) = false := decide_eq_false (by omega)
            obtain ⟨ti, hi, hz0, hz1, hz2⟩ := info_parts int_info
            have TI := hide hi
            have HZ0 := hide hz0
            have HZ1 := hide hz1
            have HZ2 := hide hz2
            clear hi hz0 hz1 hz2
            have c1' := HW2.out kk (by omega)
            have c2' := HW2.out (kk + 1) hkk
            have CW := hide (fun (W : World) (hb : Below w2.heap.size w2 W) => cut_any (cap := cap) hl (show kk < ws.length by omega) (ints_later HI.out B2.out) W hb)
            obtain ⟨_, _, ⟨x0, x1⟩, _⟩ := HS.out.2.2 kk (by omega)
            obtain ⟨_, _, ⟨y0, y1⟩, _⟩ := HS.out.2.2 (kk + 1) hkk
            obtain ⟨J, PJ, AJ⟩ := HJ.out kk hkk
            have PJ' := hide PJ
            have AJ' := hide AJ
            have HX := hide (show joinL ws kk = ws.take kk ++ ([ws.getD kk 0 + ws.getD (kk + 1) 0] ++ ws.drop (kk + 2)) from rfl)
            clear PJ AJ
            generalize ws.getD kk 0 = x at *
            generalize ws.getD (kk + 1) 0 = y at *
            have KP := hide (fun (W : World) (hb : Below w2.heap.size w2 W) => (show (W.cell? ⟨ab, ao + kk, none⟩ = some (.int .i64 x) ∧ W.cell? ⟨ab, ao + (kk + 1), none⟩ = some (.int .i64 y)) ∧ Below w2.heap.size w2 W from ⟨⟨later hb c1', later hb c2'⟩, hb⟩))
            have hkc : (kk : Int) ≤ (cap : Int) := by omega
            have hkn : ((kk : Int) + 1).toNat = kk + 1 := by omega
            have hkp : 0 ≤ (kk : Int) + 1 := by omega
            have hkl : (kk : Int) + 1 < (ws.length : Int) := by omega
            have hkl0 : (kk : Int) < (ws.length : Int) := by omega
            have hk00 : 0 ≤ (kk : Int) := by omega
            have hkw : IntKind.wrap .i64 ((kk : Int) + 1) = (kk : Int) + 1 := IntWalk.i64_in _ (by omega)
            have hxy : IntKind.wrap .i64 (x + y) = x + y := IntWalk.i64_in _ (by omega)
            have HBW := hide hbw
            clear c1' c2' hbw
            go_upto_region 27 with fail
            go_cut [18] from 22 (fun s18 wx => ∃ v, s18 = v ∧ wx.ownsRow w2.heap.size 3 1 v (kk + 1) ((ws.take kk).map (Value.int .i64) ++ [.int .i64 (x + y)]) ∧ Below w2.heap.size w2 wx)
            case first =>
              have hbw := HBW.out
              go_region_held3 (fun w' => (w'.cell? ⟨ab, ao + kk, none⟩ = some (.int .i64 x) ∧ w'.cell? ⟨ab, ao + (kk + 1), none⟩ = some (.int .i64 y)) ∧ Below w2.heap.size w2 w')
                ((go_split_ands; refine KP.out _ ?_; exact (by repeat (first | exact Below.refl _ _ | assumption | apply balloc | apply bdrew | (refine bset ?_ (by first | (simp; done) | omega | (simp; omega)) _) | (refine bnext ?_ (by assumption))))))
                (first | (go_at_call 26; refine (CW.out _ (by exact (by repeat (first | exact Below.refl _ _ | assumption | apply balloc | apply bdrew | (refine bset ?_ (by first | (simp; done) | omega | (simp; omega)) _) | (refine bnext ?_ (by assumption)))))).mono ?_; rintro e wB ⟨v, rfl, hownB, hbB⟩) | (refine step_append_lies _ rfl (.tmp 132) (.tmp 143) 37 rfl w2.heap.size 3 ti (.int .i64 0) 1 8 Try.underlying37 TI.out HZ0.out HZ1.out HZ2.out rfl (by decide) _ kk ((ws.take kk).map (Value.int .i64)) (by rfl) (by first | exact hownB | exact hownB.alloc _ | exact hownB.drew | exact (hownB.alloc _).drew | exact hownB.drew.alloc _) _ 1 1 [.int .i64 (x + y)] (by rfl) rfl (one_cell (by first | (simp [go_sem, hxy]; done) | exact later hbB (by simp [go_sem, hxy]))) (by intro u hu; simp at hu; subst hu; rfl) (by omega) (by unfold maxLen; omega) (by omega) (by first | (exact (show Below w2.heap.size w2 _ from (by repeat (first | exact Below.refl _ _ | assumption | apply balloc | apply bdrew | (refine bset ?_ (by first | (simp; done) | omega | (simp; omega)) _) | (refine bnext ?_ (by assumption))))).size)) _ rfl ?_; intro g gc w4 hown4 hgrow _ _; have hB4 : Below w2.heap.size w2 w4 := Below.grown (by exact (by repeat (first | exact Below.refl _ _ | assumption | apply balloc | apply bdrew | (refine bset ?_ (by first | (simp; done) | omega | (simp; omega)) _) | (refine bnext ?_ (by assumption))))) hgrow (by exact (show Below w2.heap.size w2 _ from (by repeat (first | exact Below.refl _ _ | assumption | apply balloc | apply bdrew | (refine bset ?_ (by first | (simp; done) | omega | (simp; omega)) _) | (refine bnext ?_ (by assumption))))).size) (fun k hk => (hownB.lt k hk).1)))
              all_goals
                go_wp2_with fail
                go_meet
                exact ⟨_, rfl, hown4, hB4⟩
            case rest =>
              obtain ⟨v, rfl, hv, hbv⟩ := hcut
              obtain ⟨g, gc, rfl, _, _⟩ := hv.form (by omega)
              have HV := hide hv
              have HBV := hide hbv
              have hJl : (joinL ws kk).length = kk + 1 + (ws.length - (kk + 2)) := by rw [joinL_length hkk]; omega
              have hJm : List.take kk (ws.map (Value.int .i64)) ++ Value.int .i64 (x + y) :: List.drop (kk + 2) (ws.map (Value.int .i64)) = (joinL ws kk).map (Value.int .i64) := by rw [HX.out]; simp
              have HJL := hide hJl
              have HJM := hide hJm
              have HJ0 := hide (fun (h : ws.length ≤ kk + 2) => (show List.take kk (ws.map (Value.int .i64)) ++ [Value.int .i64 (x + y)] = (joinL ws kk).map (Value.int .i64) by rw [HX.out, List.drop_eq_nil_of_le h]; simp))
              have hk2 : ((kk : Int) + 2).toNat = kk + 2 := by omega
              have hk20 : 0 ≤ (kk : Int) + 2 := by omega
              have hk2l : (kk : Int) + 2 ≤ (ws.length : Int) := by omega
              have hk2w : IntKind.wrap .i64 ((kk : Int) + 2) = (kk : Int) + 2 := IntWalk.i64_in _ (by omega)
              have NC := hide (fun (ad : Addr) (h : ad = ⟨ab, ao + (kk + 2), none⟩ ∨ kk + 2 = ws.length) => (show ∀ (j : Nat) (u : Value), ((ws.drop (kk + 2)).map (Value.int .i64))[j]? = some u → wc.cell? (ad.add j) = some u by
                intro j u hu
                by_cases hj : j < ws.length - (kk + 2)
                · rcases h with rfl | h
                  · have c := later HBV.out (HW2.out (kk + 2 + j) (by omega))
                    have e : (⟨ab, ao + (kk + 2), none⟩ : Addr).add j = ⟨ab, ao + (kk + 2 + j), none⟩ := by
                      by_cases hz : j = 0
                      · subst hz; simp [Addr.add]
                      · simp [Addr.add, hz, Nat.add_assoc]
                    rw [e, c]
                    rw [List.getElem?_map, List.getElem?_drop, List.getElem?_eq_getElem (by omega)] at hu
                    simp at hu
                    subst hu
                    simp [List.getD_eq_getElem?_getD, List.getElem?_eq_getElem (show kk + 2 + j < ws.length by omega)]
                  · omega
                · rw [List.getElem?_eq_none (by simp; omega)] at hu; cases hu))
              clear hv hbv hJl hJm
              go_upto_region 28 with fail
              go_cut [8, 19] from 22 (fun s8 s19 wx => s8 = .int .i64 0 ∧ ∃ b4 c4, s19 = .slice b4 (ws.length - 1) c4 ∧ IsInts wx b4 J ∧ Below w2.heap.size w2 wx)
              case first => as_aux_lemma =>
                by_cases hc2 : kk + 2 = cap
                · obtain rfl : cap = kk + 2 := hc2.symm
                  have hJ0 := HJ0.out (by omega)
                  have HL0 := hide (show kk + 1 + (ws.length - (kk + 2)) = kk + 1 by omega)
                  go_wp2_with (at_builtin; refine wpList_append_own _ rfl (.tmp 147) (.tmp 151) 37 rfl w2.heap.size 3 ti (.int .i64 0) 1 8 Try.underlying37 TI.out HZ0.out HZ1.out HZ2.out rfl (by decide) _ (kk + 1) ((ws.take kk).map (Value.int .i64) ++ [Value.int .i64 (x + y)]) rfl HV.out _ 0 _ ([] : List Value) rfl (by simp) ?_ ?_ ?_ ?_ ?_ ?_)
                  · unfold maxLen; omega
                  · omega
                  · exact HBV.out.size
                  · intro v' w3 hown3 hgrow _
                    (try rw [hJ0] at hown3)
                    obtain ⟨b3, c3, rfl, hp3⟩ := ints_of_own hown3 (by have := HJL.out; omega)
                    have H3 := hide hp3
                    have HB3 := hide (Below.grown HBV.out hgrow HBV.out.size (fun k hk => (HV.out.lt k hk).1))
                    have PP := PJ'.out b3 c3
                    rw [HJL.out, HL0.out] at PP
                    have PP' := hide PP
                    clear hown3 hgrow hp3 PP
                    go_wp2_with fail
                    refine (PP'.out _ H3.out).mono ?_
                    rintro e w4 ⟨b4, c4, rfl, hi4, hb4⟩
                    have HI4 := hide hi4
                    clear hi4
                    go_wp2_with fail
                    go_meet
                    exact ⟨rfl, b4, c4, rfl, HI4.out, bnext HB3.out hb4⟩
                · go_wp2_with (at_builtin; refine wpList_append_own _ rfl (.tmp 147) (.tmp 151) 37 rfl w2.heap.size 3 ti (.int .i64 0) 1 8 Try.underlying37 TI.out HZ0.out HZ1.out HZ2.out rfl (by decide) _ (kk + 1) ((ws.take kk).map (Value.int .i64) ++ [Value.int .i64 (x + y)]) rfl HV.out _ (ws.length - (kk + 2)) _ ((ws.drop (kk + 2)).map (Value.int .i64)) rfl (by simp) ?_ ?_ ?_ ?_ ?_ ?_)
                  · exact NC.out _ (.inl rfl)
                  · first | (intro u _; rfl) | (exact ones_drop) | (intro u hu; exact ones_drop u (by simpa using hu))
                  · unfold maxLen; omega
                  · omega
                  · exact HBV.out.size
                  · intro v' w3 hown3 hgrow _
                    rw [HJM.out] at hown3
                    obtain ⟨b3, c3, rfl, hp3⟩ := ints_of_own hown3 (by have := HJL.out; omega)
                    have H3 := hide hp3
                    have HB3 := hide (Below.grown HBV.out hgrow HBV.out.size (fun k hk => (HV.out.lt k hk).1))
                    have PP := PJ'.out b3 c3
                    rw [HJL.out] at PP
                    have PP' := hide PP
                    clear hown3 hgrow hp3 PP
                    go_wp2_with fail
                    refine (PP'.out _ H3.out).mono ?_
                    rintro e w4 ⟨b4, c4, rfl, hi4, hb4⟩
                    have HI4 := hide hi4
                    clear hi4
                    go_wp2_with fail
                    go_meet
                    exact ⟨rfl, b4, c4, rfl, HI4.out, bnext HB3.out hb4⟩
              case rest =>
                obtain ⟨rfl, b4, c4, rfl, hi4, hb4⟩ := hcut
                obtain ⟨jb, jo, rfl, hM⟩ : ∃ jb jo, b4 = some ⟨jb, jo, none⟩ ∧ ∀ i, i < ws.length - 1 → wc.cell? ⟨jb, jo + i, none⟩ = some (.int .i64 (J.getD i 0)) := by
                  rcases hi4 with h | ⟨jb, jo, e, h⟩
                  · have := AJ'.out.1; rw [h] at this; simp at this; (try omega)
                  · exact ⟨jb, jo, e, fun i hi => h i (by rw [AJ'.out.1]; exact hi)⟩
                have HM4 := hide hM
                have HB4 := hide hb4
                have HL4 := hide (fun i hi => later hb4 (HL2.out i hi))
                clear hM hb4 hi4 NC HV HBV HX KP CW
                go_wp2_with fail
                go_loopw [20] (fun i wr => ∃ j : Nat, j ≤ ws.length - 1 ∧ i = .int .i64 (j : Int) ∧ Below wc.heap.size wc wr) (fun i _ => ws.length - 1 - (intOf i).toNat)
                case atStart => exact ⟨0, by omega, rfl, Below.refl _ _⟩
                case round =>
                  obtain ⟨j, hj, rfl, hbj⟩ := hrel
                  by_cases h3 : j < ws.length - 1
                  · have m1 := later hbj (HM4.out j h3)
                    obtain ⟨e1, e2, e3⟩ := AJ'.out.2 j h3
                    rcases Nat.lt_trichotomy j kk with hjk | hjk | hjk
                    · have l1 := later hbj (HL4.out j (by omega))
                      rw [e1 hjk] at m1
                      clear e1 e2 e3
                      have t1 : ((j : Int) == (kk : Int)) = false := by simp; omega
                      have t2 : decide ((kk : Int) < (j : Int)) = false := decide_eq_false (by omega)
                      generalize L.getD j 0 = z at *
                      go_wp2_with fail
                      go_roundw
                      case rel => exact ⟨j + 1, by omega, by go_num, hbj⟩
                      case measure => simp [intOf]; omega
                    · subst hjk
                      have l1 := later hbj (HL4.out j (by omega))
                      have l2 := later hbj (HL4.out (j + 1) (by omega))
                      rw [e2 rfl] at m1
                      clear e1 e2 e3
                      obtain ⟨_, _, ⟨p0, p1⟩, _⟩ := HU.out.2.2 j (by omega)
                      obtain ⟨_, _, ⟨p2, p3⟩, _⟩ := HU.out.2.2 (j + 1) (by omega)
                      generalize L.getD j 0 = p at *
                      generalize L.getD (j + 1) 0 = q at *
                      have hpq : IntKind.wrap .i64 (p + q) = p + q := IntWalk.i64_in _ (by omega)
                      go_wp2_with fail
                      go_quiet (fail)
                      go_wp2_with fail
                      go_roundw
                      case rel => exact ⟨j + 1, by omega, by go_num, below_drewN hbj _⟩
                      case measure => simp [intOf]; omega
                    · have l1 := later hbj (HL4.out j (by omega))
                      have l2 := later hbj (HL4.out (j + 1) (by omega))
                      rw [e3 hjk] at m1
                      clear e1 e2 e3
                      have t1 : ((j : Int) == (kk : Int)) = false := by simp; omega
                      have t2 : decide ((kk : Int) < (j : Int)) = true := decide_eq_true (by omega)
                      generalize L.getD j 0 = z at *
                      generalize L.getD (j + 1) 0 = q at *
                      have hjn : ((j : Int) + 1).toNat = j + 1 := by omega
                      have hjp : 0 ≤ (j : Int) + 1 := by omega
                      have hjl : (j : Int) + 1 < (ws.length : Int) := by omega
                      go_wp2_with fail
                      go_roundw
                      case rel => exact ⟨j + 1, by omega, by go_num, hbj⟩
                      case measure => simp [intOf]; omega
                  · obtain rfl : j = ws.length - 1 := by omega
                    have BB := bnext B2.out (HB4.out.trans (hbj.mono HB4.out.size))
                    go_wp2_with fail
                    refine (known_any _).mono ?_
                    rintro e w6 ⟨rfl, hb6⟩
                    go_wp2_with fail
                    go_ret
                    exact ⟨rfl, (by repeat (first | exact Below.refl _ _ | assumption | apply balloc | apply bdrew | (refine bset ?_ (by first | (simp; done) | omega | (simp; omega)) _) | (refine bnext ?_ (by assumption))))⟩
          · have q3 : decide ((ws.length : Int) ≤ (kk : Int) + 1) = true := decide_eq_true (by omega)
            have BB := bnext B2.out hbw
            go_wp2_with fail
            refine (known_any _).mono ?_
            rintro e w6 ⟨rfl, hb6⟩
            go_wp2_with fail
            go_ret
            exact ⟨rfl, (by repeat (first | exact Below.refl _ _ | assumption | apply balloc | apply bdrew | (refine bset ?_ (by first | (simp; done) | omega | (simp; omega)) _) | (refine bnext ?_ (by assumption))))⟩

theorem pts_of {n : Int} {ws : List Int} (hl : ws.length ≤ 140737488351232) {E : Int} {L : List Int} {m : Nat} (hE : portE n ws = E) (hL : portQ n ws = L) (hm : L.length = m) : Pts n ws L m E := fun a cap W h => by
  subst hE hL hm
  refine (portions_any n ws a cap W hl h).mono ?_
  rintro e w' ⟨b, c, rfl, hi, hb⟩
  exact ⟨b, c, rfl, hi, hb⟩

/-- The walk of UnitsAddUp. -/
theorem unitsAddUp_walk (n t : Int) (ws : List Int) (a : Option Addr) (cap : Nat) (w : World) (hl : ws.length ≤ maxLen ∧ (a = none → cap = 0 ∧ ws = [])) (hc : ws.length ≤ cap) (h : IsInts w a ws) (t0 : 0 ≤ t) (t1 : t ≤ 255) :
    Calls Try.prog 16 #[.int .i64 n, .slice a ws.length cap, .int .u8 t] w fun e w' => e = .returned (.bool true) ∧ Below w.heap.size w w' := by
  by_cases hlen : 100 < ws.length
  · exact addUp_long n t ws a cap w hl.1 hlen
  · by_cases hE : portE n ws = 0
    · obtain ⟨_, ⟨n0, n1⟩, ha, hs, s0, s1⟩ := portE_zero hE
      have hne : 1 ≤ ws.length := by
        rcases Nat.eq_zero_or_pos ws.length with h0 | h0
        · rw [List.eq_nil_of_length_eq_zero h0] at s0; simp [isum] at s0
        · exact h0
      have hi := h
      rcases h with h | ⟨ab, ao, rfl, h⟩
      · rw [h] at hne; simp at hne
      · refine addUp_good n t (isum ws) ws (portQ n ws) (fun i => isum (ws.take i)) (upTo n ws) ab ao cap w (by omega) hne n0 n1 t0 t1 h hi (pts_of (by omega) hE rfl (portQ_len hE)) (portQ_len hE) ⟨rfl, (show isum (ws.take ws.length) = isum ws by rw [List.take_of_length_le (Nat.le_refl _)]), fun i hi => ?_⟩ ⟨upTo_none, upTo_all hE, fun i hi => ?_⟩ (fun i hi => ?_) hc fun k hk => ?_
        · have st := isum_step (l := ws) (k := i) hi
          have b1 := (upTo_ok hE i (by omega)).1
          have b2 := (upTo_ok hE (i + 1) (by omega)).1
          have g := allAm_get ha hi
          exact ⟨st, b1, g, b2.2⟩
        · obtain ⟨p1, p2, p3⟩ := part_ok hE hi
          have b1 := (upTo_ok hE i (by omega)).2.1
          refine ⟨?_, b1, ⟨p1, p2⟩, p3⟩
          rw [portQ_get hE hi]; omega
        · have m := (upTo_ok hE (i + 1) (by omega)).2.2
          rw [hs] at m
          refine ⟨n * isum (ws.take (i + 1)) % isum ws, fun W => ?_⟩
          have := mulDiv_any n (isum (ws.take (i + 1))) (isum ws) 1 W
          rw [m] at this
          exact this
        · have jl := joinL_length hk
          have jz := joinL_zero hE hk
          refine ⟨_, pts_of (by omega) jz rfl ((portQ_len jz).trans jl), (portQ_len jz).trans jl, fun i hi => joined_ok hE hk (by omega)⟩
    · exact addUp_bad n t ws a cap (portE n ws) w (by omega) hE hl.2 h (pts_of (by omega) rfl (portQ_bad hE) rfl)
end Go.Proofs.Ytdnppmncmnmckaa
