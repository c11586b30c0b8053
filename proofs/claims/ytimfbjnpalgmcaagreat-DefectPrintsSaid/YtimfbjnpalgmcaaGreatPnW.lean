/-
  DefectPrints: the walk.
-/
import Derived.Test.YtimfbjnpalgmcaaGreatPnR
import Derived.Test.YtimfbjnpalgmcaaGreatOwG
import Derived.Test.YtimfbjnpalgmcaaGreatDgK
namespace Go.Proofs.YtimfbjnpalgmcaaGreat
set_option linter.unusedSimpArgs false
set_option linter.unusedVariables false
open Go.RowKit

/-- A list of one's own of some integers, as one step. -/
theorem step_ints {ti : TypeInfo} (hti : Tryz.prog.info? 3 = some ti) (hz0 : ti.zero = some (.int .i64 0)) (hz1 : ti.size = 1) (hz2 : ti.bytes = 8)
    {ops : Array Oper} {o : Oper} {a : Act} {w : World} {K : Act → World → Prop} {Q : Exit → Act → World → Prop} {E : Prop} (hgd : o.guard = none) (s x : Operand)
    (ho : o.op = .call { callee := .builtin .append, args := #[s, x], argTypes := #[59, 59] }) (L : Nat) (hs : a.eval s = .slice (some ⟨L, 0, none⟩) 0 0)
    (b : Option Addr) (n c : Nat) (l : List Int) (hn : l.length = n) (hx : a.eval x = .slice b n c) (hb : b = none → c = 0 ∧ l = []) (hl : l.length ≤ 1000) (hi : IsInts w b l)
    (h : ∀ b' c' w', IsInts w' b' l → Below w.heap.size w w' → K (a.put o.dst (.slice b' n c')) w') :
    if Region.wanted o (yielded ops a.tmps) = true then Oper.wp Tryz.prog o a w K Q else E := by
  subst hn
  cases b with
  | none =>
    obtain ⟨rfl, rfl⟩ := hb rfl
    have hw : Region.wanted o (yielded ops a.tmps) = true := by simp [Region.wanted, hgd]
    rw [if_pos hw]
    have hrun := append_none_pairs Tryz.underlying59 hti o.type L w
    unfold Oper.wp
    simp only [List.length_nil] at hx
    simp [execOp, ho, resolve, invoke, builtin, hs, hx, hrun, Result.andThen]
    exact h _ _ _ (.inl rfl) (Below.refl _ _)
  | some ad =>
    have hc : ∀ (j : Nat) (u : Value), (l.map (Value.int .i64))[j]? = some u → w.cell? (ad.add j) = some u := by
      intro j u hu
      rcases hi with h | ⟨b, off, e, h⟩
      · subst h; simp at hu
      · cases e
        by_cases hj : j < l.length
        · have := h j hj
          simp [List.getElem?_map, List.getElem?_eq_getElem hj] at hu
          subst hu
          rw [List.getD_eq_getElem?_getD, List.getElem?_eq_getElem hj, Option.getD_some] at this
          by_cases hz : j = 0
          · subst hz; simpa [Addr.add] using this
          · simpa [Addr.add, hz] using this
        · rw [List.getElem?_eq_none (by simp; omega)] at hu; cases hu
    by_cases h0 : l.length = 0
    · have he := List.eq_nil_of_length_eq_zero h0
      subst he
      refine step_append_room hgd s x 59 ho 3 ti 1 Tryz.underlying59 hti hz1 L 0 0 0 hs ad 0 c [] hx rfl (fun j u hu => by simp at hu) (fun u hu => by simp at hu) (by omega) (fun j hj => by simp at hj) ?_
      exact h _ _ _ (.inl rfl) (by simpa [World.setCells] using Below.refl _ _)
    · refine step_append_grows hgd s x 59 ho 3 ti _ 1 8 Tryz.underlying59 hti hz0 hz1 hz2 rfl (by decide) (some ⟨L, 0, none⟩) 0 0 [] hs (fun h => by cases h) rfl (fun b hb j u hu => by simp at hu) ad l.length c (l.map (Value.int .i64)) hx (by simp) hc (by intro u hu; obtain ⟨z, _, rfl⟩ := List.mem_map.1 hu; rfl) (by omega) (by unfold maxLen; omega) (by omega) ?_
      intro v' w' hown hgrow
      rw [List.nil_append, Nat.zero_add] at hown
      obtain ⟨b', c', rfl, hp⟩ := ints_of_own hown rfl
      exact h _ _ _ hp (Below.grown (Below.refl _ _) hgrow (Nat.le_refl _) (fun k hk => by cases hk))
/-- A model and a growth in memory, one behind the other. -/
def MgAt2 (W : World) (i : Nat) (m : Mdl) (g : Gr) (p : GrA) : Prop := MdlAt W i m ∧ GrAt W (i + 1) g p
theorem mgAt2_later {w W : World} {i : Nat} {m : Mdl} {g : Gr} {p : GrA} (h : MgAt2 w i m g p) (hb : Below w.heap.size w W) : MgAt2 W i m g p := ⟨mdlAt_later h.1 hb, grAt_later h.2 hb⟩
theorem int_info6 : (Tryz.prog.info? 3).map (fun i => (i.zero, i.size, i.bytes)) = some (some (.int .i64 0), 1, 8) := by kernel_rfl

set_option maxRecDepth 100000 in
set_option maxHeartbeats 6400000 in
theorem defectPrints_go (s a0 b0 a1 b1 a2 b2 a3 b3 off E eg : Int) (rs zs fs : List (Int × Int)) (cs : List Int) (ra za fa a : Option Addr) (rc zc fc cp n m : Nat) (wb k1 k2 : Bool) (P : Nat → Nat → Nat) (w : World)
    (ML : Hid (wb = false → m ≤ 1000)) (HN : Hid (cs.length = n)) (HA : Hid (a = none → cp = 0 ∧ cs = [])) (HC : Hid (IsInts w a cs)) (HZ : Hid (zs.length = m)) (HI : Hid (IsPairs w za zs))
    (HG : Hid (eg = if k2 then 0 else 2)) (HE : Hid ((k1 && k2) = false → E = 2)) (HE2 : Hid (E = 0 → k1 = true ∧ k2 = true))
    (WI : Hid (∀ W, Calls Tryz.prog 30 #[.agg #[.slice ra rs.length rc, .int .i64 off, .slice za zs.length zc, .slice fa fs.length fc]] W fun e w' => e = .returned (.bool wb) ∧ Below W.heap.size W w'))
    (OW0 : Hid (wb = false → ∀ W, Below w.heap.size w W → Calls Tryz.prog 31 #[.agg #[.slice ra rs.length rc, .int .i64 off, .slice za zs.length zc, .slice fa fs.length fc]] W (OwPost W rs zs fs off)))
    (CG : Hid (wb = false → ∀ W q1 c1 q2 c2 q3 c3, (IsPairs W q1 rs ∧ IsPairs W q2 zs ∧ IsPairs W q3 fs) → Calls Tryz.prog 32 #[.agg #[.slice q1 rs.length c1, .int .i64 off, .slice q2 zs.length c2, .slice q3 fs.length c3]] W fun e w' => e = .returned (.int .i64 eg) ∧ Below W.heap.size W w'))
    (PR : Hid (wb = false → n ≤ 510 → ∀ W q1 c1 q2 c2 q3 c3 q4 c4, (IsPairs W q1 rs ∧ IsPairs W q2 zs ∧ IsPairs W q3 fs) → IsInts W q4 cs → Calls Tryz.prog 33 #[.agg #[.int .i64 s, .int .i64 a0, .int .i64 b0, .int .i64 a1, .int .i64 b1, .int .i64 a2, .int .i64 b2, .int .i64 a3, .int .i64 b3], .agg #[.slice q1 rs.length c1, .int .i64 off, .slice q2 zs.length c2, .slice q3 fs.length c3], .slice q4 n c4] W (PnPost W E (n - 1) m P)))
    (GR : Hid (wb = false → ∀ W, Below w.heap.size w W → Calls Tryz.prog 34 #[.agg #[.slice ra rs.length rc, .int .i64 off, .slice za zs.length zc, .slice fa fs.length fc]] W fun e w' => e = .returned (.bool k2) ∧ Below W.heap.size W w'))
    (MO : Hid (∀ W, Calls Tryz.prog 16 #[.agg #[.int .i64 s, .int .i64 a0, .int .i64 b0, .int .i64 a1, .int .i64 b1, .int .i64 a2, .int .i64 b2, .int .i64 a3, .int .i64 b3]] W fun e w' => e = .returned (.bool k1) ∧ Below W.heap.size W w'))
    (CU : Hid (k1 = true → k2 = true → n ≤ 510 → ∀ W, Below w.heap.size w W → Calls Tryz.prog 35 #[.agg #[.slice ra rs.length rc, .int .i64 off, .slice za zs.length zc, .slice fa fs.length fc], .slice a n cp] W fun e w' => e = .returned (.int .i64 E) ∧ Below W.heap.size W w'))
    (RP : Hid (E = 0 → n ≤ 510 → ∀ W, Below w.heap.size w W → Calls Tryz.prog 36 #[.agg #[.int .i64 s, .int .i64 a0, .int .i64 b0, .int .i64 a1, .int .i64 b1, .int .i64 a2, .int .i64 b2, .int .i64 a3, .int .i64 b3], .agg #[.slice ra rs.length rc, .int .i64 off, .slice za zs.length zc, .slice fa fs.length fc], .slice a n cp] W (RnPost W (n - 1) m P)))
    (SA : Hid (wb = false → ∀ W q1 c1, Below w.heap.size w W → IsPairs W q1 zs → Calls Tryz.prog 27 #[.slice q1 zs.length c1, .slice za zs.length zc] W fun e w' => e = .returned (.bool true) ∧ Below W.heap.size W w')) :
    Calls Tryz.prog 6 #[.agg #[.int .i64 s, .int .i64 a0, .int .i64 b0, .int .i64 a1, .int .i64 b1, .int .i64 a2, .int .i64 b2, .int .i64 a3, .int .i64 b3], .agg #[.slice ra rs.length rc, .int .i64 off, .slice za zs.length zc, .slice fa fs.length fc], .slice a n cp] w fun e w' => e = .returned (.bool true) ∧ Below w.heap.size w w' := by
  obtain ⟨ti, hi, hz0, hz1, hz2⟩ := info_parts int_info6
  have TI := hide hi
  have TZ0 := hide hz0
  have TZ1 := hide hz1
  have TZ2 := hide hz2
  clear hi hz0 hz1 hz2
  go_enter Tryz.func6, Tryz.ntmps6
  go_upto_region 1 with fail
  obtain ⟨w0, hw0⟩ : ∃ z, z = (w.alloc (.cells #[.int .i64 s, .int .i64 a0, .int .i64 b0, .int .i64 a1, .int .i64 b1, .int .i64 a2, .int .i64 b2, .int .i64 a3, .int .i64 b3] 26)).alloc (.cells #[.slice ra rs.length rc, .int .i64 off, .slice za zs.length zc, .slice fa fs.length fc] 58) := ⟨_, rfl⟩
  rw [← hw0]
  have B0 := hide (show Below w.heap.size w w0 by rw [hw0]; exact (by repeat (first | exact Below.refl _ _ | assumption | apply balloc | apply bdrew | (refine below_drewN ?_ _) | (refine bset ?_ (by first | (simp; done) | omega | (simp; omega)) _) | (refine bnext ?_ (by assumption)))))
  have T0 := hide (show MgAt2 w0 w.heap.size ⟨s, a0, b0, a1, b1, a2, b2, a3, b3⟩ ⟨rs, off, zs, fs⟩ ⟨ra, rc, za, zc, fa, fc⟩ by rw [hw0]; refine ⟨mdlAt_later (mdlAt_new w ⟨s, a0, b0, a1, b1, a2, b2, a3, b3⟩ 26) (balloc (Below.refl _ _)), ⟨?_, ?_⟩, ?_, ?_⟩ <;> exact (by simp [go_sem, World.cell?_alloc_past]))
  clear hw0
  have KM := hide (fun (W : World) (hb : Below w0.heap.size w0 W) => (show W.cell? ⟨w.heap.size, 0, none⟩ = some (.int .i64 s) ∧ W.cell? ⟨w.heap.size, 1, none⟩ = some (.int .i64 a0) ∧ W.cell? ⟨w.heap.size, 2, none⟩ = some (.int .i64 b0) ∧ W.cell? ⟨w.heap.size, 3, none⟩ = some (.int .i64 a1) ∧ W.cell? ⟨w.heap.size, 4, none⟩ = some (.int .i64 b1) ∧ W.cell? ⟨w.heap.size, 5, none⟩ = some (.int .i64 a2) ∧ W.cell? ⟨w.heap.size, 6, none⟩ = some (.int .i64 b2) ∧ W.cell? ⟨w.heap.size, 7, none⟩ = some (.int .i64 a3) ∧ W.cell? ⟨w.heap.size, 8, none⟩ = some (.int .i64 b3) ∧ W.cell? ⟨w.heap.size + 1, 0, none⟩ = some (.slice ra rs.length rc) ∧ W.cell? ⟨w.heap.size + 1, 1, none⟩ = some (.int .i64 off) ∧ W.cell? ⟨w.heap.size + 1, 2, none⟩ = some (.slice za zs.length zc) ∧ W.cell? ⟨w.heap.size + 1, 3, none⟩ = some (.slice fa fs.length fc) ∧ Below w0.heap.size w0 W from
    have ⟨⟨⟨⟨⟨m1, m2⟩, m3⟩, m4, m5⟩, ⟨m6, m7⟩, m8, m9⟩, ⟨g1, g2⟩, g3, g4⟩ := mgAt2_later T0.out hb
    ⟨m1, m2, m3, m4, m5, m6, m7, m8, m9, g1, g2, g3, g4, hb⟩))
  have ⟨_, _, _, _, _, _, _, _, _, g1, g2, g3, g4, _⟩ := KM.out _ (Below.refl _ _)
  go_wp2_with fail
  refine (WI.out _).mono ?_
  rintro e w1 ⟨rfl, hb1⟩
  have B1 := hide hb1
  clear g1 g2 g3 g4 hb1 T0 WI
  by_cases hwn : wb = true ∨ 510 < n
  · have ex : wb = true ∨ (wb = false ∧ decide (510 < (n : Int)) = true) := by
      rcases hwn with e | e
      · exact .inl e
      · cases wb with
        | true => exact .inl rfl
        | false => exact .inr ⟨rfl, decide_eq_true (by omega)⟩
    rcases ex with rfl | ⟨rfl, d⟩
    · go_wp2_with fail
      refine (known5_any _).mono ?_
      rintro e wz ⟨rfl, hbz⟩
      have BZ := hide (bnext (bnext B0.out B1.out) hbz)
      go_wp2_with fail
      go_ret
      exact ⟨rfl, BZ.out⟩
    · go_wp2_with fail
      refine (known5_any _).mono ?_
      rintro e wz ⟨rfl, hbz⟩
      have BZ := hide (bnext (bnext B0.out B1.out) hbz)
      go_wp2_with fail
      go_ret
      exact ⟨rfl, BZ.out⟩
  obtain rfl : wb = false := by cases wb with | true => exact absurd (Or.inl rfl) hwn | false => rfl
  have nn : n ≤ 510 := by omega
  have d : decide (510 < (n : Int)) = false := decide_eq_false (by omega)
  have OW := hide (OW0.out rfl)
  have CG' := hide (CG.out rfl)
  have PR' := hide (PR.out rfl nn)
  have GR' := hide (GR.out rfl)
  have CU' := hide (fun e1 e2 => CU.out e1 e2 nn)
  have RP' := hide (fun e => RP.out e nn)
  have SA' := hide (SA.out rfl)
  have NN := hide nn
  clear OW0 CG PR GR CU RP SA hwn nn
  have ⟨_, _, _, _, _, _, _, _, _, g1, g2, g3, g4, _⟩ := KM.out _ B1.out
  go_upto_region 3 with fail
  go_wp2_with fail
  refine (OW.out _ (bnext B0.out B1.out)).mono ?_
  rintro e w2 ⟨q1, c1, q2, c2, q3, c3, rfl, hP, hN, hb2⟩
  have B2 := hide (bnext B1.out hb2)
  have HP := hide hP
  clear g1 g2 g3 g4 hP hN hb2 B1 OW d
  by_cases hE : E = 0
  · as_aux_lemma =>
    subst hE
    obtain ⟨rfl, rfl⟩ := HE2.out rfl
    obtain rfl : eg = 0 := by simpa using HG.out
    obtain ⟨N, hN⟩ : ∃ N, n - 1 = N := ⟨_, rfl⟩
    have HNN := hide hN
    have RP2 := hide (fun W (hb : Below w.heap.size w W) => (show Calls Tryz.prog 36 #[.agg #[.int .i64 s, .int .i64 a0, .int .i64 b0, .int .i64 a1, .int .i64 b1, .int .i64 a2, .int .i64 b2, .int .i64 a3, .int .i64 b3], .agg #[.slice ra rs.length rc, .int .i64 off, .slice za zs.length zc, .slice fa fs.length fc], .slice a n cp] W (RnPost W N m P) by have c := RP'.out rfl W hb; rwa [HNN.out] at c))
    clear hN HE HE2 RP'
    have PRX := hide (fun (W : World) p1 c1 p2 c2 p3 c3 p4 c4 (hp : IsPairs W p1 rs ∧ IsPairs W p2 zs ∧ IsPairs W p3 fs) (hi : IsInts W p4 cs) => (show Calls Tryz.prog 33 #[.agg #[.int .i64 s, .int .i64 a0, .int .i64 b0, .int .i64 a1, .int .i64 b1, .int .i64 a2, .int .i64 b2, .int .i64 a3, .int .i64 b3], .agg #[.slice p1 rs.length c1, .int .i64 off, .slice p2 zs.length c2, .slice p3 fs.length c3], .slice p4 n c4] W (fun e w' => ∃ b c f, e = .returned (.tuple #[.slice b N c, .int .i64 0]) ∧ SetsAt w' W.heap.size (.slice b N c) N m f P ∧ Below W.heap.size W w') from
      (PR'.out W p1 c1 p2 c2 p3 c3 p4 c4 hp hi).mono fun e w' ⟨hb, hr⟩ => by
        rcases hr with ⟨_, v, f, rfl, hst⟩ | ⟨h0, _⟩
        · rw [HNN.out] at hst
          obtain ⟨b, c, rfl⟩ := sets_form hst
          exact ⟨b, c, f, rfl, hst, hb⟩
        · exact absurd rfl h0))
    clear PR'
    go_upto_region 4 with fail
    obtain ⟨Q, hQ⟩ : ∃ Q, w2.heap.size = Q := ⟨_, rfl⟩
    rw [hQ]
    obtain ⟨w3, hw3⟩ : ∃ z, z = w2.alloc (.cells #[.slice q1 rs.length c1, .int .i64 off, .slice q2 zs.length c2, .slice q3 fs.length c3] 58) := ⟨_, rfl⟩
    rw [← hw3]
    have B23 := hide (show Below w2.heap.size w2 w3 by rw [hw3]; exact (by repeat (first | exact Below.refl _ _ | assumption | apply balloc | apply bdrew | (refine below_drewN ?_ _) | (refine bset ?_ (by first | (simp; done) | omega | (simp; omega)) _) | (refine bnext ?_ (by assumption)))))
    have B3 := hide (show Below w0.heap.size w0 w3 from bnext B2.out B23.out)
    have G3 := hide (show GrAt w3 Q ⟨rs, off, zs, fs⟩ ⟨q1, c1, q2, c2, q3, c3⟩ by rw [hw3, ← hQ]; refine ⟨⟨?_, ?_⟩, ?_, ?_⟩ <;> exact (by simp [go_sem, World.cell?_alloc_past]))
    have PP := hide (fun (W : World) (hb : Below w3.heap.size w3 W) => (show IsPairs W q1 rs ∧ IsPairs W q2 zs ∧ IsPairs W q3 fs from
      ⟨pairs_later HP.out.1 (bnext B23.out hb), pairs_later HP.out.2.1 (bnext B23.out hb), pairs_later HP.out.2.2 (bnext B23.out hb)⟩))
    have KG := hide (fun (W : World) (hb : Below w3.heap.size w3 W) => (show W.cell? ⟨Q, 0, none⟩ = some (.slice q1 rs.length c1) ∧ W.cell? ⟨Q, 1, none⟩ = some (.int .i64 off) ∧ W.cell? ⟨Q, 2, none⟩ = some (.slice q2 zs.length c2) ∧ W.cell? ⟨Q, 3, none⟩ = some (.slice q3 fs.length c3) ∧ Below w3.heap.size w3 W from
      have ⟨⟨h1, h2⟩, h3, h4⟩ := grAt_later G3.out hb
      ⟨h1, h2, h3, h4, hb⟩))
    have KP := hide (fun (W : World) (hb : Below w3.heap.size w3 W) => (show W.cell? ⟨w.heap.size, 0, none⟩ = some (.int .i64 s) ∧ W.cell? ⟨w.heap.size, 1, none⟩ = some (.int .i64 a0) ∧ W.cell? ⟨w.heap.size, 2, none⟩ = some (.int .i64 b0) ∧ W.cell? ⟨w.heap.size, 3, none⟩ = some (.int .i64 a1) ∧ W.cell? ⟨w.heap.size, 4, none⟩ = some (.int .i64 b1) ∧ W.cell? ⟨w.heap.size, 5, none⟩ = some (.int .i64 a2) ∧ W.cell? ⟨w.heap.size, 6, none⟩ = some (.int .i64 b2) ∧ W.cell? ⟨w.heap.size, 7, none⟩ = some (.int .i64 a3) ∧ W.cell? ⟨w.heap.size, 8, none⟩ = some (.int .i64 b3) ∧ W.cell? ⟨w.heap.size + 1, 0, none⟩ = some (.slice ra rs.length rc) ∧ W.cell? ⟨w.heap.size + 1, 1, none⟩ = some (.int .i64 off) ∧ W.cell? ⟨w.heap.size + 1, 2, none⟩ = some (.slice za zs.length zc) ∧ W.cell? ⟨w.heap.size + 1, 3, none⟩ = some (.slice fa fs.length fc) ∧ W.cell? ⟨Q, 0, none⟩ = some (.slice q1 rs.length c1) ∧ W.cell? ⟨Q, 1, none⟩ = some (.int .i64 off) ∧ W.cell? ⟨Q, 2, none⟩ = some (.slice q2 zs.length c2) ∧ W.cell? ⟨Q, 3, none⟩ = some (.slice q3 fs.length c3) ∧ Below w3.heap.size w3 W from
      have ⟨m1, m2, m3, m4, m5, m6, m7, m8, m9, g1, g2, g3, g4, _⟩ := KM.out _ (bnext B3.out hb)
      ⟨m1, m2, m3, m4, m5, m6, m7, m8, m9, g1, g2, g3, g4, KG.out _ hb⟩))
    clear hw3 hQ G3 HP B2 B23
    have ⟨h1, h2, h3, h4, _⟩ := KG.out _ (Below.refl _ _)
    go_wp2_with fail
    refine (CG'.out _ _ _ _ _ _ _ (PP.out _ (Below.refl _ _))).mono ?_
    rintro e w4 ⟨rfl, hb4⟩
    have B4 := hide hb4
    clear h1 h2 h3 h4 hb4 CG'
    go_upto_region 5 with fail
    go_region_held3 (fun W => W.cell? ⟨w.heap.size, 0, none⟩ = some (.int .i64 s) ∧ W.cell? ⟨w.heap.size, 1, none⟩ = some (.int .i64 a0) ∧ W.cell? ⟨w.heap.size, 2, none⟩ = some (.int .i64 b0) ∧ W.cell? ⟨w.heap.size, 3, none⟩ = some (.int .i64 a1) ∧ W.cell? ⟨w.heap.size, 4, none⟩ = some (.int .i64 b1) ∧ W.cell? ⟨w.heap.size, 5, none⟩ = some (.int .i64 a2) ∧ W.cell? ⟨w.heap.size, 6, none⟩ = some (.int .i64 b2) ∧ W.cell? ⟨w.heap.size, 7, none⟩ = some (.int .i64 a3) ∧ W.cell? ⟨w.heap.size, 8, none⟩ = some (.int .i64 b3) ∧ W.cell? ⟨w.heap.size + 1, 0, none⟩ = some (.slice ra rs.length rc) ∧ W.cell? ⟨w.heap.size + 1, 1, none⟩ = some (.int .i64 off) ∧ W.cell? ⟨w.heap.size + 1, 2, none⟩ = some (.slice za zs.length zc) ∧ W.cell? ⟨w.heap.size + 1, 3, none⟩ = some (.slice fa fs.length fc) ∧ W.cell? ⟨Q, 0, none⟩ = some (.slice q1 rs.length c1) ∧ W.cell? ⟨Q, 1, none⟩ = some (.int .i64 off) ∧ W.cell? ⟨Q, 2, none⟩ = some (.slice q2 zs.length c2) ∧ W.cell? ⟨Q, 3, none⟩ = some (.slice q3 fs.length c3) ∧ Below w3.heap.size w3 W)
      ((go_split_ands; refine KP.out _ ?_; exact (by repeat (first | exact Below.refl _ _ | assumption | apply balloc | apply bdrew | (refine below_drewN ?_ _) | (refine bset ?_ (by first | (simp; done) | omega | (simp; omega)) _) | (refine bnext ?_ (by assumption))))))
      (first
        | (go_at_call 33; refine (PRX.out _ _ _ _ _ _ _ _ _ (PP.out _ (by go_split_ands; assumption)) (by first | exact hi4 | exact ints_later hi4 (by repeat (first | exact Below.refl _ _ | assumption | apply balloc | apply bdrew | (refine bnext ?_ (by assumption)))))).mono ?_; rintro e wB ⟨vb, vc, vf, rfl, hst, hbB⟩)
        | (refine step_ints TI.out TZ0.out TZ1.out TZ2.out rfl (.tmp 30) (.tmp 31) rfl _ rfl _ n cp cs HN.out rfl HA.out (by have := HN.out; have := NN.out; omega) (ints_later HC.out (bnext (bnext B0.out B3.out) (by exact (by repeat (first | exact Below.refl _ _ | assumption | apply balloc | apply bdrew | (refine below_drewN ?_ _) | (refine bset ?_ (by first | (simp; done) | omega | (simp; omega)) _) | (refine bnext ?_ (by assumption))))))) ?_; intro q4 c4 wA hi4 hbA))
    all_goals
      have LA := hide hst
      have PW := hide (show Below w3.heap.size w3 wB from (by repeat (first | exact Below.refl _ _ | assumption | apply balloc | apply bdrew | (refine below_drewN ?_ _) | (refine bset ?_ (by first | (simp; done) | omega | (simp; omega)) _) | (refine bnext ?_ (by assumption)))))
      have B5 := hide (show Below w3.heap.size w3 wB from (by repeat (first | exact Below.refl _ _ | assumption | apply balloc | apply bdrew | (refine below_drewN ?_ _) | (refine bset ?_ (by first | (simp; done) | omega | (simp; omega)) _) | (refine bnext ?_ (by assumption)))))
      clear hst hbA hbB hi4 PRX
      have ⟨m1, m2, m3, m4, m5, m6, m7, m8, m9, g1, g2, g3, g4, h1, h2, h3, h4, _⟩ := KP.out _ B5.out
      go_upto_region 6 with fail
      go_wp2_with fail
      refine (GR'.out _ (bnext (bnext B0.out B3.out) B5.out)).mono ?_
      rintro e w6 ⟨rfl, hb6⟩
      have C6 := hide hb6
      have B6 := hide (bnext B5.out hb6)
      clear m1 m2 m3 m4 m5 m6 m7 m8 m9 g1 g2 g3 g4 h1 h2 h3 h4 hb6
      have ⟨m1, m2, m3, m4, m5, m6, m7, m8, m9, g1, g2, g3, g4, h1, h2, h3, h4, _⟩ := KP.out _ B6.out
      go_wp2_with fail
      refine (SA'.out _ _ _ (bnext (bnext B0.out B3.out) B6.out) (PP.out _ B6.out).2.1).mono ?_
      rintro e w7 ⟨rfl, hb7⟩
      have C7 := hide hb7
      have B7 := hide (bnext B6.out hb7)
      clear m1 m2 m3 m4 m5 m6 m7 m8 m9 g1 g2 g3 g4 h1 h2 h3 h4 hb7
      have ⟨m1, m2, m3, m4, m5, m6, m7, m8, m9, g1, g2, g3, g4, h1, h2, h3, h4, _⟩ := KP.out _ B7.out
      go_wp2_with fail
      refine (MO.out _).mono ?_
      rintro e w8 ⟨rfl, hb8⟩
      have C8 := hide hb8
      have B8 := hide (bnext B7.out hb8)
      clear m1 m2 m3 m4 m5 m6 m7 m8 m9 g1 g2 g3 g4 h1 h2 h3 h4 hb8
      have ⟨m1, m2, m3, m4, m5, m6, m7, m8, m9, g1, g2, g3, g4, h1, h2, h3, h4, _⟩ := KP.out _ B8.out
      go_wp2_with fail
      refine (GR'.out _ (bnext (bnext B0.out B3.out) B8.out)).mono ?_
      rintro e w9 ⟨rfl, hb9⟩
      have C9 := hide hb9
      have B9 := hide (bnext B8.out hb9)
      clear m1 m2 m3 m4 m5 m6 m7 m8 m9 g1 g2 g3 g4 h1 h2 h3 h4 hb9
      have ⟨m1, m2, m3, m4, m5, m6, m7, m8, m9, g1, g2, g3, g4, h1, h2, h3, h4, _⟩ := KP.out _ B9.out
      go_wp2_with fail
      refine (CU'.out (by simp) (by simp) _ (bnext (bnext B0.out B3.out) B9.out)).mono ?_
      rintro e wX ⟨rfl, hbX⟩
      have CX := hide hbX
      have BX := hide (bnext B9.out hbX)
      clear m1 m2 m3 m4 m5 m6 m7 m8 m9 g1 g2 g3 g4 h1 h2 h3 h4 hbX
      have ⟨m1, m2, m3, m4, m5, m6, m7, m8, m9, g1, g2, g3, g4, h1, h2, h3, h4, _⟩ := KP.out _ BX.out
      have LB := hide (sets_later LA.out (bnext (bnext (bnext (bnext (bnext C6.out C7.out) C8.out) C9.out) CX.out) (Below.refl _ _)))
      go_wp2_with fail
      refine (RP2.out _ (bnext (bnext B0.out B3.out) BX.out)).mono ?_
      rintro e wY ⟨v2, f2, rfl, hst2, hbY⟩
      obtain ⟨ub, uc, rfl⟩ := sets_form hst2
      have LC := hide (sets_later LB.out hbY)
      have LD := hide hst2
      have BY := hide (bnext BX.out hbY)
      clear m1 m2 m3 m4 m5 m6 m7 m8 m9 g1 g2 g3 g4 h1 h2 h3 h4 hbY hst2 LA LB
      have dN : ((N : Int) != (N : Int)) = false := by simp
      have NB := hide (show N ≤ 1000 by have := HNN.out; have := NN.out; omega)
      have BB := hide (bnext (bnext B0.out B3.out) BY.out)
      clear B0 B3 B4 B5 B6 B7 B8 B9 BX BY C6 C7 C8 C9 CX KM KG KP PP GR' MO CU' SA' RP2 TI TZ0 TZ1 TZ2 HC HA HI HN HZ
      go_upto_region 17 with fail
      clear dN
      go_loopw [13] (fun i wr => ∃ k : Nat, k ≤ N ∧ i = .int .i64 (k : Int) ∧ Below wY.heap.size wY wr) (fun i _ => N - (intOf i).toNat)
      case atStart => exact ⟨0, by omega, rfl, Below.refl _ _⟩
      case round =>
        obtain ⟨k, hk, rfl, hbw⟩ := hrel
        have BR := hide hbw
        clear hbw
        have k0 : 0 ≤ (k : Int) := by omega
        have kw : wrap64 ((k : Int) + 1) = k + 1 := (IntWalk.i64_left _).symm.trans (IntWalk.i64_in _ (by have := NB.out; omega))
        by_cases hlt : k < N
        · as_aux_lemma =>
          have kN : (k : Int) < (N : Int) := by omega
          have dk : decide ((k : Int) < (N : Int)) = true := decide_eq_true kN
          have dm : ((m : Int) != (m : Int)) = false := by simp
          obtain ⟨g1, rfl, o1⟩ := sets_cell (sets_later LC.out BR.out) hlt
          obtain ⟨g2, rfl, o2⟩ := sets_cell (sets_later LD.out BR.out) hlt
          have CA := hide (fun j (hj : j < m) W (hb : Below wr.heap.size wr W) => later hb (((sets_later LC.out BR.out).2 k hlt).2 j hj))
          have CB := hide (fun j (hj : j < m) W (hb : Below wr.heap.size wr W) => later hb (((sets_later LD.out BR.out).2 k hlt).2 j hj))
          generalize (vf k).1 = p1 at *
          generalize (vf k).2 = p2 at *
          generalize (f2 k).1 = p3 at *
          generalize (f2 k).2 = p4 at *
          have O1 := hide o1
          have O2 := hide o2
          obtain ⟨wo, hwo⟩ : ∃ z, z = wr := ⟨_, rfl⟩
          rw [← hwo] at CA CB O1 O2 BR ⊢
          clear hwo o1 o2
          have KO := hide (fun (W : World) (hb : Below wo.heap.size wo W) => (show W.cell? ⟨g1, k, none⟩ = some (.slice (some ⟨p1, 0, none⟩) m p2) ∧ W.cell? ⟨g2, k, none⟩ = some (.slice (some ⟨p3, 0, none⟩) m p4) ∧ Below wo.heap.size wo W from ⟨later hb O1.out, later hb O2.out, hb⟩))
          go_upto_region 19 with fail
          go_region_held3 (fun W => W.cell? ⟨g1, k, none⟩ = some (.slice (some ⟨p1, 0, none⟩) m p2) ∧ W.cell? ⟨g2, k, none⟩ = some (.slice (some ⟨p3, 0, none⟩) m p4) ∧ Below wo.heap.size wo W)
            (first | (go_split_ands; assumption) | (refine KO.out _ ?_; exact (by repeat (first | exact Below.refl _ _ | assumption | apply balloc | apply bdrew | (refine below_drewN ?_ _) | (refine bset ?_ (by first | (simp; done) | omega | (simp; omega)) _) | (refine bnext ?_ (by assumption))))))
            (fail)
          all_goals
          obtain ⟨wp, hwp⟩ : ∃ z, z = wo.drew := ⟨_, rfl⟩
          have BP := hide (show Below wo.heap.size wo wp by rw [hwp]; exact bdrew (Below.refl _ _))
          go_upto_region 22 with fail
          clear dm
          go_loopw [14] (fun j wq => ∃ t : Nat, t ≤ m ∧ j = .int .i64 (t : Int) ∧ Below wo.heap.size wo wq) (fun j _ => m - (intOf j).toNat)
          case atStart => exact ⟨0, by omega, rfl, (by repeat (first | exact Below.refl _ _ | apply bdrew | (refine below_drewN ?_ _)))⟩
          case round =>
            obtain ⟨t, ht, rfl, hbq⟩ := hrel
            have BQ := hide hbq
            have o1 := later hbq O1.out
            have o2 := later hbq O2.out
            clear hbq
            have t0 : 0 ≤ (t : Int) := by omega
            have tw : wrap64 ((t : Int) + 1) = t + 1 := (IntWalk.i64_left _).symm.trans (IntWalk.i64_in _ (by have := ML.out (by simp); omega))
            by_cases hjt : t < m
            · as_aux_lemma =>
              have tm : (t : Int) < (m : Int) := by omega
              have dt : decide ((t : Int) < (m : Int)) = true := decide_eq_true tm
              have z1 := CA.out t hjt _ BQ.out
              have z2 := CB.out t hjt _ BQ.out
              generalize (P k t : Int) = u at *
              have du : (u != u) = false := by simp
              have KI := hide (fun (W : World) (hb : Below wo.heap.size wo W) (z1 : W.cell? ⟨p1, t, none⟩ = some (.int .u8 u)) (z2 : W.cell? ⟨p3, t, none⟩ = some (.int .u8 u)) => (show W.cell? ⟨g1, k, none⟩ = some (.slice (some ⟨p1, 0, none⟩) m p2) ∧ W.cell? ⟨g2, k, none⟩ = some (.slice (some ⟨p3, 0, none⟩) m p4) ∧ W.cell? ⟨p1, t, none⟩ = some (.int .u8 u) ∧ W.cell? ⟨p3, t, none⟩ = some (.int .u8 u) ∧ Below wo.heap.size wo W from ⟨later hb O1.out, later hb O2.out, z1, z2, hb⟩))
              have Z1 := hide z1
              have Z2 := hide z2
              go_upto_region 24 with fail
              clear o1 o2 z1 z2
              go_region_held3 (fun W => W.cell? ⟨g1, k, none⟩ = some (.slice (some ⟨p1, 0, none⟩) m p2) ∧ W.cell? ⟨g2, k, none⟩ = some (.slice (some ⟨p3, 0, none⟩) m p4) ∧ W.cell? ⟨p1, t, none⟩ = some (.int .u8 u) ∧ W.cell? ⟨p3, t, none⟩ = some (.int .u8 u) ∧ Below wo.heap.size wo W)
                (first | (go_split_ands; assumption) | (exact KI.out _ BQ.out Z1.out Z2.out) | (exact KI.out _ (bdrew BQ.out) Z1.out Z2.out))
                (fail)
              all_goals
                go_wp2_with fail
                go_roundw
                case rel => exact ⟨t + 1, by omega, by rw [tw]; go_num, (by first | (go_split_ands; assumption) | (repeat (first | exact BQ.out | apply bdrew | (refine below_drewN ?_ _))))⟩
                case measure => (rw [tw]; simp [intOf]; omega)
            · have dt : decide ((t : Int) < (m : Int)) = false := decide_eq_false (by omega)
              go_wp2_with fail
              go_roundw
              case rel => exact ⟨k + 1, by omega, by rw [kw]; go_num, bnext BR.out BQ.out⟩
              case measure => (rw [kw]; simp [intOf]; omega)
        · have dk : decide ((k : Int) < (N : Int)) = false := decide_eq_false (by omega)
          go_wp2_with fail
          refine (known5_any _).mono ?_
          rintro e wz ⟨rfl, hbz⟩
          have BZ := hide (bnext (bnext BB.out BR.out) hbz)
          go_wp2_with fail
          go_ret
          exact ⟨rfl, BZ.out⟩
  · have HNE := hide hE
    have d1 : (E != 0) = true := by simpa using hE
    have d2 : (E == E) = true := by simp
    clear HE2 hE RP'
    have PRX := hide (fun (W : World) p1 c1 p2 c2 p3 c3 p4 c4 (hp : IsPairs W p1 rs ∧ IsPairs W p2 zs ∧ IsPairs W p3 fs) (hi : IsInts W p4 cs) => (show Calls Tryz.prog 33 #[.agg #[.int .i64 s, .int .i64 a0, .int .i64 b0, .int .i64 a1, .int .i64 b1, .int .i64 a2, .int .i64 b2, .int .i64 a3, .int .i64 b3], .agg #[.slice p1 rs.length c1, .int .i64 off, .slice p2 zs.length c2, .slice p3 fs.length c3], .slice p4 n c4] W (fun e w' => e = .returned (.tuple #[.slice none 0 0, .int .i64 E]) ∧ Below W.heap.size W w') from
      (PR'.out W p1 c1 p2 c2 p3 c3 p4 c4 hp hi).mono fun e w' ⟨hb, hr⟩ => ⟨by rcases hr with ⟨h0, _⟩ | ⟨_, h0⟩ <;> first | exact h0 | exact absurd h0 HNE.out, hb⟩))
    clear PR'
    cases k2 with
    | false =>
      as_aux_lemma =>
      obtain rfl : E = 2 := HE.out (by simp)
      obtain rfl : eg = 2 := by simpa using HG.out
      go_upto_region 4 with fail
      obtain ⟨Q, hQ⟩ : ∃ Q, w2.heap.size = Q := ⟨_, rfl⟩
      rw [hQ]
      obtain ⟨w3, hw3⟩ : ∃ z, z = w2.alloc (.cells #[.slice q1 rs.length c1, .int .i64 off, .slice q2 zs.length c2, .slice q3 fs.length c3] 58) := ⟨_, rfl⟩
      rw [← hw3]
      have B23 := hide (show Below w2.heap.size w2 w3 by rw [hw3]; exact (by repeat (first | exact Below.refl _ _ | assumption | apply balloc | apply bdrew | (refine below_drewN ?_ _) | (refine bset ?_ (by first | (simp; done) | omega | (simp; omega)) _) | (refine bnext ?_ (by assumption)))))
      have B3 := hide (show Below w0.heap.size w0 w3 from bnext B2.out B23.out)
      have G3 := hide (show GrAt w3 Q ⟨rs, off, zs, fs⟩ ⟨q1, c1, q2, c2, q3, c3⟩ by rw [hw3, ← hQ]; refine ⟨⟨?_, ?_⟩, ?_, ?_⟩ <;> exact (by simp [go_sem, World.cell?_alloc_past]))
      have PP := hide (fun (W : World) (hb : Below w3.heap.size w3 W) => (show IsPairs W q1 rs ∧ IsPairs W q2 zs ∧ IsPairs W q3 fs from
        ⟨pairs_later HP.out.1 (bnext B23.out hb), pairs_later HP.out.2.1 (bnext B23.out hb), pairs_later HP.out.2.2 (bnext B23.out hb)⟩))
      have KG := hide (fun (W : World) (hb : Below w3.heap.size w3 W) => (show W.cell? ⟨Q, 0, none⟩ = some (.slice q1 rs.length c1) ∧ W.cell? ⟨Q, 1, none⟩ = some (.int .i64 off) ∧ W.cell? ⟨Q, 2, none⟩ = some (.slice q2 zs.length c2) ∧ W.cell? ⟨Q, 3, none⟩ = some (.slice q3 fs.length c3) ∧ Below w3.heap.size w3 W from
        have ⟨⟨h1, h2⟩, h3, h4⟩ := grAt_later G3.out hb
        ⟨h1, h2, h3, h4, hb⟩))
      have KP := hide (fun (W : World) (hb : Below w3.heap.size w3 W) => (show W.cell? ⟨w.heap.size, 0, none⟩ = some (.int .i64 s) ∧ W.cell? ⟨w.heap.size, 1, none⟩ = some (.int .i64 a0) ∧ W.cell? ⟨w.heap.size, 2, none⟩ = some (.int .i64 b0) ∧ W.cell? ⟨w.heap.size, 3, none⟩ = some (.int .i64 a1) ∧ W.cell? ⟨w.heap.size, 4, none⟩ = some (.int .i64 b1) ∧ W.cell? ⟨w.heap.size, 5, none⟩ = some (.int .i64 a2) ∧ W.cell? ⟨w.heap.size, 6, none⟩ = some (.int .i64 b2) ∧ W.cell? ⟨w.heap.size, 7, none⟩ = some (.int .i64 a3) ∧ W.cell? ⟨w.heap.size, 8, none⟩ = some (.int .i64 b3) ∧ W.cell? ⟨w.heap.size + 1, 0, none⟩ = some (.slice ra rs.length rc) ∧ W.cell? ⟨w.heap.size + 1, 1, none⟩ = some (.int .i64 off) ∧ W.cell? ⟨w.heap.size + 1, 2, none⟩ = some (.slice za zs.length zc) ∧ W.cell? ⟨w.heap.size + 1, 3, none⟩ = some (.slice fa fs.length fc) ∧ W.cell? ⟨Q, 0, none⟩ = some (.slice q1 rs.length c1) ∧ W.cell? ⟨Q, 1, none⟩ = some (.int .i64 off) ∧ W.cell? ⟨Q, 2, none⟩ = some (.slice q2 zs.length c2) ∧ W.cell? ⟨Q, 3, none⟩ = some (.slice q3 fs.length c3) ∧ Below w3.heap.size w3 W from
        have ⟨m1, m2, m3, m4, m5, m6, m7, m8, m9, g1, g2, g3, g4, _⟩ := KM.out _ (bnext B3.out hb)
        ⟨m1, m2, m3, m4, m5, m6, m7, m8, m9, g1, g2, g3, g4, KG.out _ hb⟩))
      clear hw3 hQ G3 HP B2 B23
      have ⟨h1, h2, h3, h4, _⟩ := KG.out _ (Below.refl _ _)
      go_wp2_with fail
      refine (CG'.out _ _ _ _ _ _ _ (PP.out _ (Below.refl _ _))).mono ?_
      rintro e w4 ⟨rfl, hb4⟩
      have B4 := hide hb4
      clear h1 h2 h3 h4 hb4 CG'
      go_upto_region 5 with fail
      go_region_held3 (fun W => W.cell? ⟨w.heap.size, 0, none⟩ = some (.int .i64 s) ∧ W.cell? ⟨w.heap.size, 1, none⟩ = some (.int .i64 a0) ∧ W.cell? ⟨w.heap.size, 2, none⟩ = some (.int .i64 b0) ∧ W.cell? ⟨w.heap.size, 3, none⟩ = some (.int .i64 a1) ∧ W.cell? ⟨w.heap.size, 4, none⟩ = some (.int .i64 b1) ∧ W.cell? ⟨w.heap.size, 5, none⟩ = some (.int .i64 a2) ∧ W.cell? ⟨w.heap.size, 6, none⟩ = some (.int .i64 b2) ∧ W.cell? ⟨w.heap.size, 7, none⟩ = some (.int .i64 a3) ∧ W.cell? ⟨w.heap.size, 8, none⟩ = some (.int .i64 b3) ∧ W.cell? ⟨w.heap.size + 1, 0, none⟩ = some (.slice ra rs.length rc) ∧ W.cell? ⟨w.heap.size + 1, 1, none⟩ = some (.int .i64 off) ∧ W.cell? ⟨w.heap.size + 1, 2, none⟩ = some (.slice za zs.length zc) ∧ W.cell? ⟨w.heap.size + 1, 3, none⟩ = some (.slice fa fs.length fc) ∧ W.cell? ⟨Q, 0, none⟩ = some (.slice q1 rs.length c1) ∧ W.cell? ⟨Q, 1, none⟩ = some (.int .i64 off) ∧ W.cell? ⟨Q, 2, none⟩ = some (.slice q2 zs.length c2) ∧ W.cell? ⟨Q, 3, none⟩ = some (.slice q3 fs.length c3) ∧ Below w3.heap.size w3 W)
        ((go_split_ands; refine KP.out _ ?_; exact (by repeat (first | exact Below.refl _ _ | assumption | apply balloc | apply bdrew | (refine below_drewN ?_ _) | (refine bset ?_ (by first | (simp; done) | omega | (simp; omega)) _) | (refine bnext ?_ (by assumption))))))
        (first
          | (go_at_call 33; refine (PRX.out _ _ _ _ _ _ _ _ _ (PP.out _ (by go_split_ands; assumption)) (by first | exact hi4 | exact ints_later hi4 (by repeat (first | exact Below.refl _ _ | assumption | apply balloc | apply bdrew | (refine bnext ?_ (by assumption)))))).mono ?_; rintro e wB ⟨rfl, hbB⟩)
          | (refine step_ints TI.out TZ0.out TZ1.out TZ2.out rfl (.tmp 30) (.tmp 31) rfl _ rfl _ n cp cs HN.out rfl HA.out (by have := HN.out; have := NN.out; omega) (ints_later HC.out (bnext (bnext B0.out B3.out) (by exact (by repeat (first | exact Below.refl _ _ | assumption | apply balloc | apply bdrew | (refine below_drewN ?_ _) | (refine bset ?_ (by first | (simp; done) | omega | (simp; omega)) _) | (refine bnext ?_ (by assumption))))))) ?_; intro q4 c4 wA hi4 hbA))
      all_goals
        have B5 := hide (show Below w3.heap.size w3 wB from (by repeat (first | exact Below.refl _ _ | assumption | apply balloc | apply bdrew | (refine below_drewN ?_ _) | (refine bset ?_ (by first | (simp; done) | omega | (simp; omega)) _) | (refine bnext ?_ (by assumption)))))
        clear hbA hbB hi4 PRX
        have ⟨m1, m2, m3, m4, m5, m6, m7, m8, m9, g1, g2, g3, g4, h1, h2, h3, h4, _⟩ := KP.out _ B5.out
        go_upto_region 6 with fail
        go_wp2_with fail
        refine (GR'.out _ (bnext (bnext B0.out B3.out) B5.out)).mono ?_
        rintro e w6 ⟨rfl, hb6⟩
        have B6 := hide (bnext B5.out hb6)
        clear m1 m2 m3 m4 m5 m6 m7 m8 m9 g1 g2 g3 g4 h1 h2 h3 h4 hb6
        have ⟨m1, m2, m3, m4, m5, m6, m7, m8, m9, g1, g2, g3, g4, h1, h2, h3, h4, _⟩ := KP.out _ B6.out
        go_wp2_with fail
        refine (SA'.out _ _ _ (bnext (bnext B0.out B3.out) B6.out) (PP.out _ B6.out).2.1).mono ?_
        rintro e w7 ⟨rfl, hb7⟩
        have B7 := hide (bnext B6.out hb7)
        clear m1 m2 m3 m4 m5 m6 m7 m8 m9 g1 g2 g3 g4 h1 h2 h3 h4 hb7
        have ⟨m1, m2, m3, m4, m5, m6, m7, m8, m9, g1, g2, g3, g4, h1, h2, h3, h4, _⟩ := KP.out _ B7.out
        go_wp2_with fail
        refine (MO.out _).mono ?_
        rintro e w8 ⟨rfl, hb8⟩
        have B8 := hide (bnext B7.out hb8)
        clear m1 m2 m3 m4 m5 m6 m7 m8 m9 g1 g2 g3 g4 h1 h2 h3 h4 hb8
        have ⟨m1, m2, m3, m4, m5, m6, m7, m8, m9, g1, g2, g3, g4, h1, h2, h3, h4, _⟩ := KP.out _ B8.out
        cases k1 with
        | false =>
          go_wp2_with fail
          refine (known5_any _).mono ?_
          rintro e wz ⟨rfl, hbz⟩
          have BZ := hide (bnext (bnext (bnext B0.out B3.out) B8.out) hbz)
          go_wp2_with fail
          go_ret
          exact ⟨rfl, BZ.out⟩
        | true =>
          go_wp2_with fail
          refine (GR'.out _ (bnext (bnext B0.out B3.out) B8.out)).mono ?_
          rintro e w9 ⟨rfl, hb9⟩
          have B9 := hide (bnext B8.out hb9)
          clear m1 m2 m3 m4 m5 m6 m7 m8 m9 g1 g2 g3 g4 h1 h2 h3 h4 hb9
          have ⟨m1, m2, m3, m4, m5, m6, m7, m8, m9, g1, g2, g3, g4, h1, h2, h3, h4, _⟩ := KP.out _ B9.out
          go_wp2_with fail
          refine (known5_any _).mono ?_
          rintro e wz ⟨rfl, hbz⟩
          have BZ := hide (bnext (bnext (bnext B0.out B3.out) B9.out) hbz)
          go_wp2_with fail
          go_ret
          exact ⟨rfl, BZ.out⟩
    | true =>
      as_aux_lemma =>
      obtain rfl : eg = 0 := by simpa using HG.out
      go_upto_region 4 with fail
      obtain ⟨Q, hQ⟩ : ∃ Q, w2.heap.size = Q := ⟨_, rfl⟩
      rw [hQ]
      obtain ⟨w3, hw3⟩ : ∃ z, z = w2.alloc (.cells #[.slice q1 rs.length c1, .int .i64 off, .slice q2 zs.length c2, .slice q3 fs.length c3] 58) := ⟨_, rfl⟩
      rw [← hw3]
      have B23 := hide (show Below w2.heap.size w2 w3 by rw [hw3]; exact (by repeat (first | exact Below.refl _ _ | assumption | apply balloc | apply bdrew | (refine below_drewN ?_ _) | (refine bset ?_ (by first | (simp; done) | omega | (simp; omega)) _) | (refine bnext ?_ (by assumption)))))
      have B3 := hide (show Below w0.heap.size w0 w3 from bnext B2.out B23.out)
      have G3 := hide (show GrAt w3 Q ⟨rs, off, zs, fs⟩ ⟨q1, c1, q2, c2, q3, c3⟩ by rw [hw3, ← hQ]; refine ⟨⟨?_, ?_⟩, ?_, ?_⟩ <;> exact (by simp [go_sem, World.cell?_alloc_past]))
      have PP := hide (fun (W : World) (hb : Below w3.heap.size w3 W) => (show IsPairs W q1 rs ∧ IsPairs W q2 zs ∧ IsPairs W q3 fs from
        ⟨pairs_later HP.out.1 (bnext B23.out hb), pairs_later HP.out.2.1 (bnext B23.out hb), pairs_later HP.out.2.2 (bnext B23.out hb)⟩))
      have KG := hide (fun (W : World) (hb : Below w3.heap.size w3 W) => (show W.cell? ⟨Q, 0, none⟩ = some (.slice q1 rs.length c1) ∧ W.cell? ⟨Q, 1, none⟩ = some (.int .i64 off) ∧ W.cell? ⟨Q, 2, none⟩ = some (.slice q2 zs.length c2) ∧ W.cell? ⟨Q, 3, none⟩ = some (.slice q3 fs.length c3) ∧ Below w3.heap.size w3 W from
        have ⟨⟨h1, h2⟩, h3, h4⟩ := grAt_later G3.out hb
        ⟨h1, h2, h3, h4, hb⟩))
      have KP := hide (fun (W : World) (hb : Below w3.heap.size w3 W) => (show W.cell? ⟨w.heap.size, 0, none⟩ = some (.int .i64 s) ∧ W.cell? ⟨w.heap.size, 1, none⟩ = some (.int .i64 a0) ∧ W.cell? ⟨w.heap.size, 2, none⟩ = some (.int .i64 b0) ∧ W.cell? ⟨w.heap.size, 3, none⟩ = some (.int .i64 a1) ∧ W.cell? ⟨w.heap.size, 4, none⟩ = some (.int .i64 b1) ∧ W.cell? ⟨w.heap.size, 5, none⟩ = some (.int .i64 a2) ∧ W.cell? ⟨w.heap.size, 6, none⟩ = some (.int .i64 b2) ∧ W.cell? ⟨w.heap.size, 7, none⟩ = some (.int .i64 a3) ∧ W.cell? ⟨w.heap.size, 8, none⟩ = some (.int .i64 b3) ∧ W.cell? ⟨w.heap.size + 1, 0, none⟩ = some (.slice ra rs.length rc) ∧ W.cell? ⟨w.heap.size + 1, 1, none⟩ = some (.int .i64 off) ∧ W.cell? ⟨w.heap.size + 1, 2, none⟩ = some (.slice za zs.length zc) ∧ W.cell? ⟨w.heap.size + 1, 3, none⟩ = some (.slice fa fs.length fc) ∧ W.cell? ⟨Q, 0, none⟩ = some (.slice q1 rs.length c1) ∧ W.cell? ⟨Q, 1, none⟩ = some (.int .i64 off) ∧ W.cell? ⟨Q, 2, none⟩ = some (.slice q2 zs.length c2) ∧ W.cell? ⟨Q, 3, none⟩ = some (.slice q3 fs.length c3) ∧ Below w3.heap.size w3 W from
        have ⟨m1, m2, m3, m4, m5, m6, m7, m8, m9, g1, g2, g3, g4, _⟩ := KM.out _ (bnext B3.out hb)
        ⟨m1, m2, m3, m4, m5, m6, m7, m8, m9, g1, g2, g3, g4, KG.out _ hb⟩))
      clear hw3 hQ G3 HP B2 B23
      have ⟨h1, h2, h3, h4, _⟩ := KG.out _ (Below.refl _ _)
      go_wp2_with fail
      refine (CG'.out _ _ _ _ _ _ _ (PP.out _ (Below.refl _ _))).mono ?_
      rintro e w4 ⟨rfl, hb4⟩
      have B4 := hide hb4
      clear h1 h2 h3 h4 hb4 CG'
      go_upto_region 5 with fail
      go_region_held3 (fun W => W.cell? ⟨w.heap.size, 0, none⟩ = some (.int .i64 s) ∧ W.cell? ⟨w.heap.size, 1, none⟩ = some (.int .i64 a0) ∧ W.cell? ⟨w.heap.size, 2, none⟩ = some (.int .i64 b0) ∧ W.cell? ⟨w.heap.size, 3, none⟩ = some (.int .i64 a1) ∧ W.cell? ⟨w.heap.size, 4, none⟩ = some (.int .i64 b1) ∧ W.cell? ⟨w.heap.size, 5, none⟩ = some (.int .i64 a2) ∧ W.cell? ⟨w.heap.size, 6, none⟩ = some (.int .i64 b2) ∧ W.cell? ⟨w.heap.size, 7, none⟩ = some (.int .i64 a3) ∧ W.cell? ⟨w.heap.size, 8, none⟩ = some (.int .i64 b3) ∧ W.cell? ⟨w.heap.size + 1, 0, none⟩ = some (.slice ra rs.length rc) ∧ W.cell? ⟨w.heap.size + 1, 1, none⟩ = some (.int .i64 off) ∧ W.cell? ⟨w.heap.size + 1, 2, none⟩ = some (.slice za zs.length zc) ∧ W.cell? ⟨w.heap.size + 1, 3, none⟩ = some (.slice fa fs.length fc) ∧ W.cell? ⟨Q, 0, none⟩ = some (.slice q1 rs.length c1) ∧ W.cell? ⟨Q, 1, none⟩ = some (.int .i64 off) ∧ W.cell? ⟨Q, 2, none⟩ = some (.slice q2 zs.length c2) ∧ W.cell? ⟨Q, 3, none⟩ = some (.slice q3 fs.length c3) ∧ Below w3.heap.size w3 W)
        ((go_split_ands; refine KP.out _ ?_; exact (by repeat (first | exact Below.refl _ _ | assumption | apply balloc | apply bdrew | (refine below_drewN ?_ _) | (refine bset ?_ (by first | (simp; done) | omega | (simp; omega)) _) | (refine bnext ?_ (by assumption))))))
        (first
          | (go_at_call 33; refine (PRX.out _ _ _ _ _ _ _ _ _ (PP.out _ (by go_split_ands; assumption)) (by first | exact hi4 | exact ints_later hi4 (by repeat (first | exact Below.refl _ _ | assumption | apply balloc | apply bdrew | (refine bnext ?_ (by assumption)))))).mono ?_; rintro e wB ⟨rfl, hbB⟩)
          | (refine step_ints TI.out TZ0.out TZ1.out TZ2.out rfl (.tmp 30) (.tmp 31) rfl _ rfl _ n cp cs HN.out rfl HA.out (by have := HN.out; have := NN.out; omega) (ints_later HC.out (bnext (bnext B0.out B3.out) (by exact (by repeat (first | exact Below.refl _ _ | assumption | apply balloc | apply bdrew | (refine below_drewN ?_ _) | (refine bset ?_ (by first | (simp; done) | omega | (simp; omega)) _) | (refine bnext ?_ (by assumption))))))) ?_; intro q4 c4 wA hi4 hbA))
      all_goals
        have B5 := hide (show Below w3.heap.size w3 wB from (by repeat (first | exact Below.refl _ _ | assumption | apply balloc | apply bdrew | (refine below_drewN ?_ _) | (refine bset ?_ (by first | (simp; done) | omega | (simp; omega)) _) | (refine bnext ?_ (by assumption)))))
        clear hbA hbB hi4 PRX
        have ⟨m1, m2, m3, m4, m5, m6, m7, m8, m9, g1, g2, g3, g4, h1, h2, h3, h4, _⟩ := KP.out _ B5.out
        go_upto_region 6 with fail
        go_wp2_with fail
        refine (GR'.out _ (bnext (bnext B0.out B3.out) B5.out)).mono ?_
        rintro e w6 ⟨rfl, hb6⟩
        have B6 := hide (bnext B5.out hb6)
        clear m1 m2 m3 m4 m5 m6 m7 m8 m9 g1 g2 g3 g4 h1 h2 h3 h4 hb6
        have ⟨m1, m2, m3, m4, m5, m6, m7, m8, m9, g1, g2, g3, g4, h1, h2, h3, h4, _⟩ := KP.out _ B6.out
        go_wp2_with fail
        refine (SA'.out _ _ _ (bnext (bnext B0.out B3.out) B6.out) (PP.out _ B6.out).2.1).mono ?_
        rintro e w7 ⟨rfl, hb7⟩
        have B7 := hide (bnext B6.out hb7)
        clear m1 m2 m3 m4 m5 m6 m7 m8 m9 g1 g2 g3 g4 h1 h2 h3 h4 hb7
        have ⟨m1, m2, m3, m4, m5, m6, m7, m8, m9, g1, g2, g3, g4, h1, h2, h3, h4, _⟩ := KP.out _ B7.out
        go_wp2_with fail
        refine (MO.out _).mono ?_
        rintro e w8 ⟨rfl, hb8⟩
        have B8 := hide (bnext B7.out hb8)
        clear m1 m2 m3 m4 m5 m6 m7 m8 m9 g1 g2 g3 g4 h1 h2 h3 h4 hb8
        have ⟨m1, m2, m3, m4, m5, m6, m7, m8, m9, g1, g2, g3, g4, h1, h2, h3, h4, _⟩ := KP.out _ B8.out
        cases k1 with
        | false =>
          obtain rfl : E = 2 := HE.out rfl
          go_wp2_with fail
          refine (known5_any _).mono ?_
          rintro e wz ⟨rfl, hbz⟩
          have BZ := hide (bnext (bnext (bnext B0.out B3.out) B8.out) hbz)
          go_wp2_with fail
          go_ret
          exact ⟨rfl, BZ.out⟩
        | true =>
          go_wp2_with fail
          refine (GR'.out _ (bnext (bnext B0.out B3.out) B8.out)).mono ?_
          rintro e w9 ⟨rfl, hb9⟩
          have B9 := hide (bnext B8.out hb9)
          clear m1 m2 m3 m4 m5 m6 m7 m8 m9 g1 g2 g3 g4 h1 h2 h3 h4 hb9
          have ⟨m1, m2, m3, m4, m5, m6, m7, m8, m9, g1, g2, g3, g4, h1, h2, h3, h4, _⟩ := KP.out _ B9.out
          go_wp2_with fail
          refine (CU'.out (by simp) (by simp) _ (bnext (bnext B0.out B3.out) B9.out)).mono ?_
          rintro e wX ⟨rfl, hbX⟩
          have BX := hide (bnext B9.out hbX)
          clear m1 m2 m3 m4 m5 m6 m7 m8 m9 g1 g2 g3 g4 h1 h2 h3 h4 hbX
          have ⟨m1, m2, m3, m4, m5, m6, m7, m8, m9, g1, g2, g3, g4, h1, h2, h3, h4, _⟩ := KP.out _ BX.out
          go_wp2_with fail
          refine (known5_any _).mono ?_
          rintro e wz ⟨rfl, hbz⟩
          have BZ := hide (bnext (bnext (bnext B0.out B3.out) BX.out) hbz)
          go_wp2_with fail
          go_ret
          exact ⟨rfl, BZ.out⟩
end Go.Proofs.YtimfbjnpalgmcaaGreat
