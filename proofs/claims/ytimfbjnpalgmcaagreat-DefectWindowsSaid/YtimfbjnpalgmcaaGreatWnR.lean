/-
  The reference of chapter 5: Why, next, Window.
-/
import Derived.Test.YtimfbjnpalgmcaaGreatWnM
import Derived.Test.YtimfbjnpalgmcaaGreatDrC
namespace Go.Proofs.YtimfbjnpalgmcaaGreat
set_option linter.unusedSimpArgs false
set_option linter.unusedVariables false
open Go.RowKit

theorem bad_shift : ∀ b : Fin 32, ∀ k : Fin 5, bits BinOp.and IntKind.u8 ((b.val : Int) / 2 ^ k.val) 1 = ((b.val / 2 ^ k.val % 2 : Nat) : Int) := by decide +kernel
theorem tz_first : ∀ b : Fin 32, ∀ k : Fin 5, (∀ j : Fin 5, j < k → b.val / 2 ^ j.val % 2 = 0) → b.val / 2 ^ k.val % 2 = 1 → tzQ b.val = (k.val : Int) := by decide +kernel
theorem no_bits : ∀ b : Fin 32, (∀ j : Fin 5, b.val / 2 ^ j.val % 2 = 0) → b.val = 0 := by decide +kernel
set_option maxRecDepth 100000 in
set_option maxHeartbeats 6400000 in
theorem refWhy_go (s' a0 b0 a1 b1 a2 b2 a3 b3 s v E1 E2 : Int) (zs : List (Int × Int)) (bad : Int × Int → Int) (R BN : Int × Int → Nat) (a : Option Addr) (cap : Nat) (w : World) (hl : zs.length ≤ 20) (HI : Hid (IsPairs w a zs))
    (RG : Hid (∀ W z, z ∈ zs → Calls Tryz.prog 20 #[.agg #[.int .i64 s', .int .i64 a0, .int .i64 b0, .int .i64 a1, .int .i64 b1, .int .i64 a2, .int .i64 b2, .int .i64 a3, .int .i64 b3], .agg #[.int .i64 v, .int .i64 v], .agg #[.int .i64 z.1, .int .i64 z.2]] W fun e w' => e = .returned (.int .u8 (R z : Int)) ∧ Below W.heap.size W w'))
    (HB : Hid (∀ z, bits BinOp.andNot IntKind.u8 (R z : Int) s = (BN z : Int) ∧ bad z = (BN z : Int) ∧ BN z < 32)) (HE : Hid (whyF bad zs 0 = (E1, E2))) :
    Calls Tryz.prog 29 #[.agg #[.int .i64 s', .int .i64 a0, .int .i64 b0, .int .i64 a1, .int .i64 b1, .int .i64 a2, .int .i64 b2, .int .i64 a3, .int .i64 b3], .slice a zs.length cap, .int .u8 s, .int .i64 v] w fun e w' => e = .returned (.tuple #[.int .i64 E1, .int .i64 E2]) ∧ Below w.heap.size w w' := by
  have MN := hide (mdlAt_new w ⟨s', a0, b0, a1, b1, a2, b2, a3, b3⟩ 26)
  go_enter Tryz.func29, Tryz.ntmps29
  go_upto_region 1 with fail
  obtain ⟨w0, hw0⟩ : ∃ z, z = w.alloc (.cells #[.int .i64 s', .int .i64 a0, .int .i64 b0, .int .i64 a1, .int .i64 b1, .int .i64 a2, .int .i64 b2, .int .i64 a3, .int .i64 b3] 26) := ⟨_, rfl⟩
  rw [← hw0]
  have B0 := hide (show Below w.heap.size w w0 by rw [hw0]; exact (by repeat (first | exact Below.refl _ _ | assumption | apply balloc | apply bdrew | (refine below_drewN ?_ _) | (refine bset ?_ (by first | (simp; done) | omega | (simp; omega)) _) | (refine bnext ?_ (by assumption)))))
  have M0 := hide (show MdlAt w0 w.heap.size ⟨s', a0, b0, a1, b1, a2, b2, a3, b3⟩ by rw [hw0]; exact MN.out)
  clear hw0 MN
  go_upto_region 2 with fail
  go_loopw [10] (fun i wr => ∃ k : Nat, k ≤ zs.length ∧ i = .int .i64 (k : Int) ∧ Hid (∀ j, j < k → j < zs.length → (bad (zs.getD j (0, 0)) != 0) = false) ∧ Below w0.heap.size w0 wr) (fun i _ => zs.length - (intOf i).toNat)
  case atStart => exact ⟨0, by omega, rfl, hide fun j hj => by omega, Below.refl _ _⟩
  case round =>
    obtain ⟨k, hk, rfl, hq, hbw⟩ := hrel
    have BR := hide hbw
    have k0 : 0 ≤ (k : Int) := by omega
    have kw : wrap64 ((k : Int) + 1) = k + 1 := (IntWalk.i64_left _).symm.trans (IntWalk.i64_in _ (by omega))
    have HW := hide (whyF_drop bad zs k hq.out)
    by_cases hlt : k < zs.length
    · as_aux_lemma =>
      obtain ⟨b, o, rfl, hc⟩ : ∃ b o, a = some ⟨b, o, none⟩ ∧ ∀ i, i < zs.length → wr.cell? ⟨b, o + i * 2, none⟩ = some (.int .i64 (zs.getD i (0, 0)).1) ∧ wr.cell? ⟨b, o + i * 2 + 1, none⟩ = some (.int .i64 (zs.getD i (0, 0)).2) := by
        rcases pairs_later HI.out (bnext B0.out hbw) with h | h
        · subst h; simp at hlt
        · exact h
      obtain ⟨c0, c1⟩ := hc k hlt
      have kN : (k : Int) < (zs.length : Int) := by omega
      have dk : decide ((k : Int) < (zs.length : Int)) = true := decide_eq_true kN
      have ⟨⟨⟨⟨m1', m2⟩, m3⟩, m4, m5⟩, ⟨m6, m7⟩, m8, m9⟩ := mdlAt_later M0.out hbw
      simp only at m1' m2 m3 m4 m5 m6 m7 m8 m9
      have HD := hide (show whyF bad (zs.drop k) k = if bad (zs.getD k (0, 0)) != 0 then ((k : Int), tzQ (bad (zs.getD k (0, 0))).toNat) else whyF bad (zs.drop (k + 1)) (k + 1) by
        rw [show zs.drop k = zs.getD k (0, 0) :: zs.drop (k + 1) by rw [List.drop_eq_getElem_cons hlt]; simp [hlt]]
        rfl)
      have HQ := hide (show (bad (zs.getD k (0, 0)) != 0) = false → ∀ j, j < k + 1 → j < zs.length → (bad (zs.getD j (0, 0)) != 0) = false from fun e j hj hz => by
        by_cases c : j < k
        · exact hq.out j c hz
        · obtain rfl : j = k := by omega
          exact e)
      have RZ := hide (fun W => RG.out W (zs.getD k (0, 0)) (by rw [List.getD_eq_getElem?_getD, List.getElem?_eq_getElem hlt]; exact List.getElem_mem hlt))
      have ⟨hb1, hb2, hb3⟩ := HB.out (zs.getD k (0, 0))
      rw [hb2] at HD HQ
      clear hc hq hb2
      generalize BN (zs.getD k (0, 0)) = bn at *
      generalize R (zs.getD k (0, 0)) = rr at *
      generalize zs.getD k (0, 0) = z at *
      obtain ⟨z1, z2⟩ := z
      simp only at c0 c1 RZ
      have HB1 := hide hb1
      have HB3 := hide hb3
      clear hb1 hb3
      have KP := hide (fun (W : World) (hb : Below wr.heap.size wr W) => (show W.cell? ⟨w.heap.size, 0, none⟩ = some (.int .i64 s') ∧ W.cell? ⟨w.heap.size, 1, none⟩ = some (.int .i64 a0) ∧ W.cell? ⟨w.heap.size, 2, none⟩ = some (.int .i64 b0) ∧ W.cell? ⟨w.heap.size, 3, none⟩ = some (.int .i64 a1) ∧ W.cell? ⟨w.heap.size, 4, none⟩ = some (.int .i64 b1) ∧ W.cell? ⟨w.heap.size, 5, none⟩ = some (.int .i64 a2) ∧ W.cell? ⟨w.heap.size, 6, none⟩ = some (.int .i64 b2) ∧ W.cell? ⟨w.heap.size, 7, none⟩ = some (.int .i64 a3) ∧ W.cell? ⟨w.heap.size, 8, none⟩ = some (.int .i64 b3) ∧ W.cell? ⟨b, o + k * 2, none⟩ = some (.int .i64 z1) ∧ W.cell? ⟨b, o + k * 2 + 1, none⟩ = some (.int .i64 z2) ∧ Below wr.heap.size wr W from
        ⟨later hb m1', later hb m2, later hb m3, later hb m4, later hb m5, later hb m6, later hb m7, later hb m8, later hb m9, later hb c0, later hb c1, hb⟩))
      go_upto_region 4 with fail
      clear m1' m2 m3 m4 m5 m6 m7 m8 m9 c0 c1 dk
      go_cut [11] from 13 to 41 (fun s11 wy => s11 = .int .u8 (rr : Int) ∧ Below wr.heap.size wr wy)
      case first =>
        go_region_held3 (fun W => W.cell? ⟨w.heap.size, 0, none⟩ = some (.int .i64 s') ∧ W.cell? ⟨w.heap.size, 1, none⟩ = some (.int .i64 a0) ∧ W.cell? ⟨w.heap.size, 2, none⟩ = some (.int .i64 b0) ∧ W.cell? ⟨w.heap.size, 3, none⟩ = some (.int .i64 a1) ∧ W.cell? ⟨w.heap.size, 4, none⟩ = some (.int .i64 b1) ∧ W.cell? ⟨w.heap.size, 5, none⟩ = some (.int .i64 a2) ∧ W.cell? ⟨w.heap.size, 6, none⟩ = some (.int .i64 b2) ∧ W.cell? ⟨w.heap.size, 7, none⟩ = some (.int .i64 a3) ∧ W.cell? ⟨w.heap.size, 8, none⟩ = some (.int .i64 b3) ∧ W.cell? ⟨b, o + k * 2, none⟩ = some (.int .i64 z1) ∧ W.cell? ⟨b, o + k * 2 + 1, none⟩ = some (.int .i64 z2) ∧ Below wr.heap.size wr W)
          (first | (go_split_ands; assumption) | (refine KP.out _ ?_; exact (by repeat (first | exact Below.refl _ _ | assumption | apply balloc | apply bdrew | (refine below_drewN ?_ _) | (refine bset ?_ (by first | (simp; done) | omega | (simp; omega)) _) | (refine bnext ?_ (by assumption))))) | (exact KP.out _ (Below.refl _ _)))
          (first | (go_at_call 20; refine (RZ.out _).mono ?_; rintro e wA ⟨rfl, hbA⟩))
        all_goals (go_wp2_with fail; go_meet; exact ⟨rfl, by go_split_ands; assumption⟩)
      case rest =>
      obtain ⟨rfl, hbs⟩ := hcut
      obtain ⟨ws, hws⟩ : ∃ z, z = wc := ⟨_, rfl⟩
      subst hws
      have BS := hide (bnext BR.out hbs)
      clear hbs KP RZ BR
      go_upto_region 6 with fail
      go_loopw [12] (fun j wq => ∃ t : Nat, t ≤ 5 ∧ j = .int .i64 (t : Int) ∧ Hid (∀ u : Fin 5, u.val < t → bn / 2 ^ u.val % 2 = 0) ∧ Below w0.heap.size w0 wq) (fun j _ => 5 - (intOf j).toNat)
      case atStart => exact ⟨0, by omega, rfl, hide fun u hu => by omega, BS.out⟩
      case round =>
        obtain ⟨t, ht, rfl, hz, hbq⟩ := hrel
        have BQ := hide hbq
        have t0 : 0 ≤ (t : Int) := by omega
        have tw : wrap64 ((t : Int) + 1) = t + 1 := (IntWalk.i64_left _).symm.trans (IntWalk.i64_in _ (by omega))
        by_cases ht5 : t < 5
        · have d5 : decide ((t : Int) < 5) = true := decide_eq_true (by omega)
          have hb1 := HB1.out
          have SH := bad_shift ⟨bn, HB3.out⟩ ⟨t, ht5⟩
          simp only at SH
          rcases Nat.mod_two_eq_zero_or_one (bn / 2 ^ t) with c | c
          · rw [c] at SH
            have SH' : bits BinOp.and IntKind.u8 ((bn : Int) / 2 ^ t) 1 = 0 := SH
            have HZ := hide (show ∀ u : Fin 5, u.val < t + 1 → bn / 2 ^ u.val % 2 = 0 from fun u hu => by
              by_cases d : u.val < t
              · exact hz.out u d
              · have : u.val = t := by omega
                rw [this]; exact c)
            clear SH c hbq
            go_wp2_with fail
            go_roundw
            case rel => exact ⟨t + 1, by omega, by (try rw [tw]); go_num, HZ, BQ.out⟩
            case measure => ((try rw [tw]); simp [intOf]; omega)
          · rw [c] at SH
            have SH' : bits BinOp.and IntKind.u8 ((bn : Int) / 2 ^ t) 1 = 1 := SH
            have TZ := tz_first ⟨bn, HB3.out⟩ ⟨t, ht5⟩ (fun j hj => hz.out j hj) c
            have NZ : ((bn : Int) != 0) = true := by
              have : bn ≠ 0 := by rintro rfl; simp at c
              simpa using this
            have EE := hide (show (E1, E2) = ((k : Int), (t : Int)) by
              rw [← HE.out, HW.out, HD.out, NZ, if_pos rfl]
              have : ((bn : Int)).toNat = bn := by omega
              rw [this]
              exact congrArg _ TZ)
            obtain rfl : E1 = (k : Int) := congrArg Prod.fst EE.out
            obtain rfl : E2 = (t : Int) := congrArg Prod.snd EE.out
            clear SH c TZ NZ EE hbq hz
            go_wp2_with fail
            exact bodyPost_ret (v := .tuple #[.int .i64 (k : Int), .int .i64 (t : Int)]) (by simp [results, Tryz.results29, go_sem]) rfl ⟨rfl, bnext B0.out BQ.out⟩
        · obtain rfl : t = 5 := by omega
          have d5 : decide (((5 : Nat) : Int) < 5) = false := by decide
          have N0 := no_bits ⟨bn, HB3.out⟩ (fun j => hz.out j j.isLt)
          simp only at N0
          have HZ := hide (HQ.out (by rw [N0]; rfl))
          clear hbq N0 hz
          go_wp2_with fail
          go_roundw
          case rel => exact ⟨k + 1, by omega, by (try rw [kw]); go_num, HZ, BQ.out⟩
          case measure => ((try rw [kw]); simp [intOf]; omega)
    · have dk : decide ((k : Int) < (zs.length : Int)) = false := decide_eq_false (by omega)
      have EE := hide (show (E1, E2) = ((-1 : Int), (0 : Int)) by
        rw [← HE.out, HW.out, List.drop_of_length_le (by omega)]; rfl)
      obtain rfl : E1 = -1 := congrArg Prod.fst EE.out
      obtain rfl : E2 = 0 := congrArg Prod.snd EE.out
      go_wp2_with fail
      exact bodyPost_ret (v := .tuple #[.int .i64 (-1), .int .i64 0]) (by simp [results, Tryz.results29, go_sem]) rfl ⟨rfl, bnext B0.out BR.out⟩
end Go.Proofs.YtimfbjnpalgmcaaGreat
