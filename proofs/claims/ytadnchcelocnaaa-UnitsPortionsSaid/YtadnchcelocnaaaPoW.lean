/-
  The reference: Portions.
-/
import Derived.Test.YtadnchcelocnaaaRefF
import Derived.Test.YtadnchcelocnaaaOwn
namespace Go.Proofs.Ytadnchcelocnaaa
set_option linter.unusedSimpArgs false
set_option linter.unusedVariables false
open Go.RowKit

/-- What Portions returns, told. -/
def PortPost (n : Int) (ws : List Int) (w : World) (e : Ending) (w' : World) : Prop :=
  ∃ b c, e = .returned (.tuple #[.slice b (portQ n ws).length c, .int .i64 (portE n ws)]) ∧ IsInts w' b (portQ n ws) ∧ Below w.heap.size w w'
theorem port_bad {n E : Int} {ws : List Int} {w w' : World} (h : portE n ws = E) (hE : (E == 0) = false) (hb : Below w.heap.size w w') : PortPost n ws w (.returned (.tuple #[.slice none 0 0, .int .i64 E])) w' := by
  have : portQ n ws = [] := by unfold portQ; rw [if_neg (by rw [h]; simpa using hE)]
  refine ⟨none, 0, ?_, .inl this, hb⟩
  rw [this, h]; rfl
theorem allAm_one {n : Int} : allAm [n] = true ↔ 0 ≤ n ∧ n ≤ 1000000000000000 := by simp [allAm]
theorem allAm_take {l : List Int} {k : Nat} (hk : k < l.length) (h : allAm (l.take k) = true) (h0 : 0 ≤ l.getD k 0) (h1 : l.getD k 0 ≤ 1000000000000000) : allAm (l.take (k + 1)) = true := by
  unfold allAm at h ⊢
  exact all_step (d := 0) hk h (by simpa using ⟨h0, h1⟩)
theorem allAm_not {l : List Int} {k : Nat} (hk : k < l.length) (h : ¬ (0 ≤ l.getD k 0 ∧ l.getD k 0 ≤ 1000000000000000)) : allAm l = false := by
  cases hh : allAm l with
  | false => rfl
  | true => exact absurd (allAm_get hh hk) h
/-- The parts that have been found after k rounds. -/
def partRow (n : Int) (ws : List Int) (k : Nat) : List Value := (List.range k).map fun i => .int .i64 (upTo n ws (i + 1) - upTo n ws i)
theorem partRow_succ (n : Int) (ws : List Int) (k : Nat) : partRow n ws (k + 1) = partRow n ws k ++ [.int .i64 (upTo n ws (k + 1) - upTo n ws k)] := by simp [partRow, List.range_succ]
theorem isum_take_all (ws : List Int) : isum (ws.take ws.length) = isum ws := by rw [List.take_of_length_le (Nat.le_refl _)]
theorem flo_part {n : Int} {ws : List Int} (h : portE n ws = 0) {k : Nat} (hk : k ≤ ws.length) : refFlo (n * isum (ws.take k)) (isum ws) = (upTo n ws k, n * isum (ws.take k) % isum ws, true) := by
  obtain ⟨⟨t0, t1⟩, ⟨u0, u1⟩, _⟩ := upTo_ok h k hk
  obtain ⟨_, ⟨n0, n1⟩, _, _, s0, s1⟩ := portE_zero h
  unfold refFlo
  have hp : 0 ≤ n * isum (ws.take k) := Int.mul_nonneg n0 t0
  rw [show max (n * isum (ws.take k)) (-(n * isum (ws.take k))) = n * isum (ws.take k) by omega]
  rw [if_pos (show n * isum (ws.take k) / isum ws ≤ 2000000000000000 by unfold upTo at u1; omega)]
  rfl

set_option maxHeartbeats 6400000 in
theorem refPortions_any (n : Int) (ws : List Int) (a : Option Addr) (cap : Nat) (w : World) (hl : ws.length ≤ 140737488351232) (h : IsInts w a ws) :
    Calls Try.prog 28 #[.int .i64 n, .slice a ws.length cap] w fun e w' => PortPost n ws w e w' := by
  obtain ⟨ti, hi, hz0, hz1, hz2⟩ := info_parts int_info
  have HI := hide hi
  have HZ0 := hide hz0
  have HZ1 := hide hz1
  have HZ2 := hide hz2
  have H := hide h
  clear hi hz0 hz1 hz2 h
  by_cases h1 : 100 < ws.length
  · have E := hide (show portE n ws = 5 by unfold portE; rw [show decide ((ws.length : Int) ≤ 100) = false from decide_eq_false (by omega)]; rfl)
    have d1 : decide (100 < (ws.length : Int)) = true := decide_eq_true (by omega)
    go_enter Try.func28, Try.ntmps28
    go_wp2_with fail
    go_ret2
    exact port_bad E.out rfl (Below.refl _ _)
  have d1 : decide (100 < (ws.length : Int)) = false := decide_eq_false (by omega)
  have k1 : decide ((ws.length : Int) ≤ 100) = true := decide_eq_true (by omega)
  by_cases h2 : 0 ≤ n ∧ n ≤ 1000000000000000
  · have d2 : decide (n < 0) = false := decide_eq_false (by omega)
    have d3 : decide (1000000000000000 < n) = false := decide_eq_false (by omega)
    have hn := allAm_one.2 h2
    obtain ⟨n0, n1⟩ := h2
    have HN := hide hn
    have K1 := hide k1
    clear hn k1
    go_enter Try.func28, Try.ntmps28
    go_wp2_with fail
    go_loopw [6, 7] (fun s i wr => ∃ k : Nat, k ≤ ws.length ∧ i = .int .i64 (k : Int) ∧ s = .int .i64 (isum (ws.take k)) ∧ allAm (ws.take k) = true ∧ Below w.heap.size w wr) (fun _ i _ => ws.length - (intOf i).toNat)
    case atStart => exact ⟨0, by omega, rfl, rfl, rfl, Below.refl _ _⟩
    case round =>
      obtain ⟨k, hk, rfl, rfl, hall, hbw⟩ := hrel
      have Hall := hide hall
      clear hall
      by_cases hlt : k < ws.length
      · obtain ⟨b, off, rfl, hc⟩ : ∃ b off, a = some ⟨b, off, none⟩ ∧ ∀ i, i < ws.length → wr.cell? ⟨b, off + i, none⟩ = some (.int .i64 (ws.getD i 0)) := by
          rcases ints_later H.out hbw with h | h
          · subst h; simp at hlt
          · exact h
        have hck := hc k hlt
        clear hc
        have bs := isum_bounds Hall.out (by simp; omega) (ws.take k).length (Nat.le_refl _)
        rw [List.take_of_length_le (Nat.le_refl _)] at bs
        have S := hide (isum_step hlt)
        have hkl : ((ws.take k).length : Int) ≤ 100 := by simp; omega
        have b0 : 0 ≤ isum (ws.take k) := bs.1
        have b1 : isum (ws.take k) ≤ 100000000000000000 := by have := bs.2.1; omega
        clear bs
        have T := hide (allAm_take hlt Hall.out)
        have N := hide (allAm_not hlt)
        obtain ⟨z, hz⟩ : ∃ z, ws.getD k 0 = z := ⟨_, rfl⟩
        rw [hz] at hck S T N
        clear hz
        obtain ⟨s, hs⟩ : ∃ s, isum (ws.take k) = s := ⟨_, rfl⟩
        rw [hs] at b0 b1 S
        rw [hs]
        clear hs
        by_cases z0 : z < 0
        · have E := hide (show portE n ws = 3 by unfold portE; rw [K1.out, if_neg (by simp), N.out (by omega), Bool.and_false]; rfl)
          have q0 : decide (z < 0) = true := decide_eq_true z0
          go_wp2_with fail
          go_ret2
          exact port_bad E.out rfl hbw
        · have q0 : decide (z < 0) = false := decide_eq_false z0
          by_cases z1 : 1000000000000000 < z
          · have E := hide (show portE n ws = 3 by unfold portE; rw [K1.out, if_neg (by simp), N.out (by omega), Bool.and_false]; rfl)
            have q1 : decide (1000000000000000 < z) = true := decide_eq_true z1
            go_wp2_with fail
            go_ret2
            exact port_bad E.out rfl hbw
          · have q1 : decide (1000000000000000 < z) = false := decide_eq_false z1
            go_wp2_with fail
            go_roundw
            case rel => exact ⟨k + 1, by omega, by go_num, by rw [S.out], T.out (by omega) (by omega), hbw⟩
            case measure => simp [intOf]; omega
      · obtain rfl : k = ws.length := by omega
        rw [List.take_of_length_le (Nat.le_refl _)] at Hall
        rw [isum_take_all]
        obtain ⟨s0, s1, s2⟩ := isum_bounds Hall.out (by omega) ws.length (Nat.le_refl _)
        rw [List.take_of_length_le (Nat.le_refl _)] at s0 s1 s2
        have k2 : (allAm [n] && allAm ws) = true := by rw [HN.out, Hall.out]; rfl
        have PE := fun E (hE : (if allIn 1000000000000000 [isum ws] = false then (10 : Int) else if decide (0 < isum ws) = false then 2 else 0) = E) => show portE n ws = E by
          unfold portE; rw [K1.out, if_neg (by simp), k2, if_neg (by simp), s2]; exact hE
        clear s2 k2
        by_cases hS : 1000000000000000 < isum ws
        · have E := hide (PE 10 (by rw [if_pos (by
            cases hh : allIn 1000000000000000 [isum ws] with
            | false => rfl
            | true => have := (allIn_one.1 hh).2; omega)]))
          have q1 : decide (1000000000000000 < isum ws) = true := decide_eq_true hS
          clear PE
          go_wp2_with fail
          go_ret2
          exact port_bad E.out rfl hbw
        · have q1 : decide (1000000000000000 < isum ws) = false := decide_eq_false hS
          have k3 : allIn 1000000000000000 [isum ws] = true := allIn_one.2 ⟨by omega, by omega⟩
          by_cases hZ : isum ws = 0
          · have E := hide (PE 2 (by rw [k3, if_neg (by simp), decide_eq_false (by omega), if_pos rfl]))
            have q2 : (isum ws == 0) = true := by simpa using hZ
            clear PE k3 hZ
            go_wp2_with fail
            go_ret2
            exact port_bad E.out rfl hbw
          · have E := hide (PE 0 (by rw [k3, if_neg (by simp), decide_eq_true (by omega), if_neg (by simp)]))
            have q2 : (isum ws == 0) = false := by simpa using hZ
            have S0 : 1 ≤ isum ws := by omega
            have U := fun k hk => upTo_ok E.out (k := k) hk
            have FL := fun k hk => flo_part E.out (k := k) hk
            have HU := hide U
            have HFL := hide FL
            have HS1 := hide (show isum ws ≤ 1000000000000000 by omega)
            have M3 := hide hbw.size
            have OWN := hide (World.ownsRow_lit (base := w.heap.size) (e := 3) (size := 1) wr #[] 0 hbw.size (by unfold maxLen; omega) rfl)
            clear PE k3 hZ U FL hk hlt
            go_wp2_with fail
            go_loopw [8, 9, 10, 11] (fun v s bf i wx => ∃ k : Nat, k ≤ ws.length ∧ i = .int .i64 (k : Int) ∧ s = .int .i64 (isum (ws.take k)) ∧ bf = .int .i64 (upTo n ws k) ∧ wx.ownsRow w.heap.size 3 1 v k (partRow n ws k) ∧ Below w.heap.size w wx) (fun _ _ _ i _ => ws.length - (intOf i).toNat)
            case atStart => exact ⟨0, by omega, rfl, rfl, by simp [upTo, isum], OWN.out, balloc hbw⟩
            case round =>
              obtain ⟨j, hj, rfl, rfl, rfl, hown, hbx⟩ := hrel
              have HO := hide hown
              clear hown
              by_cases hlt : j < ws.length
              · obtain ⟨b, off, rfl, hc⟩ : ∃ b off, a = some ⟨b, off, none⟩ ∧ ∀ i, i < ws.length → wr.cell? ⟨b, off + i, none⟩ = some (.int .i64 (ws.getD i 0)) := by
                  rcases ints_later H.out hbx with h | h
                  · subst h; simp at hlt
                  · exact h
                have hck := hc j hlt
                clear hc
                obtain ⟨⟨t0, t1⟩, ⟨u0, u1⟩, _⟩ := HU.out (j + 1) (by omega)
                obtain ⟨_, ⟨u2, u3⟩, _⟩ := HU.out j (by omega)
                have S := isum_step hlt
                have S' := S.symm
                have fl := HFL.out (j + 1) (by omega)
                have F := fun w => refFloor_any n (isum (ws.take (j + 1))) (isum ws) w (by omega) n1 (by omega) t1 S0 HS1.out
                rw [fl] at F
                have HF := hide F
                have HS := hide S
                clear F fl S
                obtain ⟨z, hz⟩ : ∃ z, ws.getD j 0 = z := ⟨_, rfl⟩
                rw [hz] at hck S'
                clear hz
                go_wp2_with fail
                refine (HF.out _).mono ?_
                rintro e w3 ⟨rfl, hb3⟩
                have HO3 := hide (owns_later HO.out hb3)
                have B3 := hide (bnext hbx hb3)
                go_wp2_with (at_builtin; refine wpList_append_own _ rfl (.tmp 73) (.tmp 77) 37 rfl w.heap.size 3 ti (.int .i64 0) 1 8 Try.underlying37 HI.out HZ0.out HZ1.out HZ2.out rfl (by decide) _ j (partRow n ws j) rfl (HO3.out.alloc _) ⟨w3.heap.size, 0, none⟩ 1 1 [.int .i64 (upTo n ws (j + 1) - upTo n ws j)] rfl rfl ?_ ?_ ?_ ?_ ?_ ?_)
                · intro i u hu
                  match i, hu with
                  | 0, hu => simp at hu; subst hu; simp [go_sem, Addr.add]
                  | i + 1, hu => simp at hu
                · intro u hu; simp at hu; subst hu; rfl
                · have := d1; unfold maxLen; omega
                · omega
                · have := B3.out.size; simp; omega
                · intro v' w4 hown4 hgrow _
                  rw [← partRow_succ] at hown4
                  have B4 := hide (Below.grown (balloc B3.out) hgrow (by have := B3.out.size; simp; omega) (fun k hk => ((HO3.out.lt) k hk).1))
                  have HO4 := hide hown4
                  clear hown4 hgrow
                  go_wp2_with fail
                  go_roundw
                  case rel => exact ⟨j + 1, by omega, by go_num, by rw [HS.out], rfl, HO4.out, B4.out⟩
                  case measure => simp [intOf]; omega
              · obtain rfl : j = ws.length := by omega
                have hv := HO.out
                have e1 : partRow n ws ws.length = (portQ n ws).map (Value.int .i64) := by unfold portQ partRow; rw [if_pos E.out, List.map_map]; rfl
                have e2 : (portQ n ws).length = ws.length := by unfold portQ; rw [if_pos E.out]; simp
                rw [e1] at hv
                obtain ⟨bv, cv, rfl, hp⟩ := ints_of_own hv e2.symm
                have HP := hide hp
                have B5 := hide hbx
                clear hp hv e1 HO hbx
                go_wp2
                refine bodyPost_ret (v := .tuple #[.slice bv ws.length cv, .int .i64 0]) (by simp [results, Try.results28, go_sem]) rfl ⟨bv, cv, by rw [e2, E.out], HP.out, B5.out⟩
  · have E := hide (show portE n ws = 3 by
      unfold portE; rw [k1, if_neg (by simp)]
      have : allAm [n] = false := by
        cases hh : allAm [n] with
        | false => rfl
        | true => exact absurd (allAm_one.1 hh) h2
      rw [this, Bool.false_and]; rfl)
    by_cases hn : n < 0
    · have d2 : decide (n < 0) = true := decide_eq_true hn
      go_enter Try.func28, Try.ntmps28
      go_wp2_with fail
      go_ret2
      exact port_bad E.out rfl (Below.refl _ _)
    · have d2 : decide (n < 0) = false := decide_eq_false hn
      have d3 : decide (1000000000000000 < n) = true := decide_eq_true (by omega)
      go_enter Try.func28, Try.ntmps28
      go_wp2_with fail
      go_ret2
      exact port_bad E.out rfl (Below.refl _ _)
end Go.Proofs.Ytadnchcelocnaaa
