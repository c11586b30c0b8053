/-
  defect: gaps at any list of its own, an empty one too. defect: Window, any input.
-/
import Derived.Test.YtimfbjnpalgmcaaGreatDgV
import Derived.Shelf.SlSortCmp.NoneTotal
namespace Go.Proofs.YtimfbjnpalgmcaaGreat
set_option linter.unusedSimpArgs false
set_option linter.unusedVariables false
open Go.Shelf Go.RowKit Go.Lib Go.Sort

def GpAll (w : World) (base : Nat) (L : List (Int × Int)) (e : Ending) (w' : World) : Prop := ∃ v, e = .returned v ∧ w'.ownsRow w.heap.size 23 2 v L.length (rowOf L) ∧ Below base w w'
set_option maxRecDepth 100000 in
set_option maxHeartbeats 6400000 in
theorem gaps_nil (b : Option Addr) (cap : Nat) (w : World) :
    Calls Tryz.prog 65 #[.slice b 0 cap] w (GpAll w w.heap.size [(0, 1000000)]) := by
  go_enter Tryz.func65, Tryz.ntmps65
  go_wp2_with fail
  refine (AnyF.slices_SortFunc_none sortRg b cap _ _).mono ?_
  rintro e w1 ⟨rfl, e1⟩
  rw [e1]
  clear e1 w1
  go_wp2_with fail
  go_loopw [3, 4, 11] (fun v x i wr => i = .int .i64 0 ∧ x = .int .i64 0 ∧ v = .slice none 0 0 ∧ wr = w) (fun _ _ _ _ => 0)
  case atStart => exact ⟨rfl, rfl, rfl, rfl⟩
  case round =>
    obtain ⟨rfl, rfl, rfl, rfl⟩ := hrel
    have O0 := hide (World.ownsRow_nil wr wr.heap.size 23 2)
    go_wp2_with (at_builtin; refine wpList_append_rg rfl (.tmp 35) (.tmp 38) rfl wr.heap.size _ [] rfl (O0.out.alloc _) _ 0 1000000 rfl ?_ ?_ ?_ ?_ ?_)
    · exact (by simp [go_sem, World.cell?_alloc_past])
    · exact (by simp [go_sem, World.cell?_alloc_past])
    · simp
    · simp
    · intro g gc w3 hown3 hgrow hx3 hlt3
      have B3 := hide (Below.grown (balloc (o := .cells #[.int .i64 0, .int .i64 1000000] 23) (Below.refl wr.heap.size wr)) hgrow (by simp) (fun k' hk' => (O0.out.lt k' hk').1))
      have N3 := hide (show w3.ownsRow wr.heap.size 23 2 (.slice (some ⟨g, 0, none⟩) 1 gc) 1 (rowOf [(0, 1000000)]) by simpa using hown3)
      clear hown3 hgrow hx3
      go_wp2_with fail
      exact bodyPost_ret (v := .slice (some ⟨g, 0, none⟩) 1 gc) (by simp [results, Tryz.results65, go_sem]) rfl ⟨_, rfl, N3.out, B3.out⟩
theorem gaps_all (b : Option Addr) (cap : Nat) (ps : List (Int × Int)) (w : World) (base : Nat) (hps : Hid (∀ r ∈ ps, 0 ≤ r.1 ∧ r.1 ≤ r.2 ∧ r.2 ≤ 1000000)) (hl : ps.length ≤ 1000) (hb : base ≤ w.heap.size) (hown : w.ownsRow base 23 2 (.slice b ps.length cap) ps.length (rowOf ps)) (L : List (Int × Int)) (hL : ∀ ds : List (Int × Int), ds.Perm ps → ds.Pairwise (fun a b => a.1 ≤ b.1) → gapR 0 ds = L) :
    Calls Tryz.prog 65 #[.slice b ps.length cap] w (GpAll w base L) := by
  by_cases hn : ps = []
  · subst hn
    have h := hL [] (List.Perm.refl _) List.Pairwise.nil
    have e : L = [(0, 1000000)] := by rw [← h]; rfl
    subst e
    refine (gaps_nil b cap w).mono ?_
    rintro e w' ⟨v, rfl, o, hb'⟩
    exact ⟨v, rfl, o, Below.mono hb' hb⟩
  · obtain ⟨g, gc, e, hg1, hg2⟩ := hown.form (List.length_pos_iff.2 hn)
    cases e
    refine (gaps_any g cap ps w base hps hl hown L hL).mono ?_
    rintro e w' ⟨v, rfl, o, hb'⟩
    exact ⟨v, rfl, o, Below.mono hb' hg1⟩
set_option maxRecDepth 100000 in
set_option maxHeartbeats 6400000 in
theorem windowAll_go (s' a0 b0 a1 b1 a2 b2 a3 b3 : Int) (zs : List (Int × Int)) (s : Int) (a : Option Addr) (cap : Nat) (w : World) (N : Nat → List (Int × Int)) (S : Int × Int → List (Int × Int)) (L : List (Int × Int)) (hl : Hid (zs.length ≤ 20)) (h : Hid (IsPairs w a zs)) (hg : Hid (∀ k, k < zs.length → grOk (zs.getD k (0, 0)) = true))
    (hN0 : Hid (N 0 = [])) (hN : Hid (∀ k, N (k + 1) = N k ++ S (zs.getD k (0, 0)))) (hL : Hid (∀ k, (N k).length ≤ 5 * k)) (hSL : Hid (∀ z, (S z).length ≤ 5))
    (hV : Hid (∀ W, IsPairs W a zs → Calls Tryz.prog 63 #[.agg #[.int .i64 s', .int .i64 a0, .int .i64 b0, .int .i64 a1, .int .i64 b1, .int .i64 a2, .int .i64 b2, .int .i64 a3, .int .i64 b3], .slice a zs.length cap, .int .u8 s] W fun e w' => e = .returned (.func (.func 112) #[] #[.pointer (some ⟨W.heap.size, 0, none⟩), .pointer (some ⟨W.heap.size + 1, 0, none⟩), .pointer (some ⟨W.heap.size + 1 + 1, 0, none⟩)]) ∧
      CndTells w' ⟨0, 112, #[.pointer (some ⟨W.heap.size, 0, none⟩), .pointer (some ⟨W.heap.size + 1, 0, none⟩), .pointer (some ⟨W.heap.size + 1 + 1, 0, none⟩)], true⟩ ∧ Below W.heap.size W w'))
    (hSp : Hid (∀ z W, grOk z = true → Calls Tryz.prog 64 #[.agg #[.int .i64 s', .int .i64 a0, .int .i64 b0, .int .i64 a1, .int .i64 b1, .int .i64 a2, .int .i64 b2, .int .i64 a3, .int .i64 b3], .agg #[.int .i64 z.1, .int .i64 z.2], .int .u8 s] W (SpPost W (S z))))
    (hG : Hid (∀ b gc base W, base ≤ W.heap.size → World.ownsRow W base 23 2 (.slice b (N zs.length).length gc) (N zs.length).length (rowOf (N zs.length)) → Calls Tryz.prog 65 #[.slice b (N zs.length).length gc] W (GpAll W base L))) :
    Calls Tryz.prog 23 #[.agg #[.int .i64 s', .int .i64 a0, .int .i64 b0, .int .i64 a1, .int .i64 b1, .int .i64 a2, .int .i64 b2, .int .i64 a3, .int .i64 b3], .slice a zs.length cap, .int .u8 s] w (WiPost w L) := by
  have MN := hide (mdlAt_new w ⟨s', a0, b0, a1, b1, a2, b2, a3, b3⟩ 26)
  have FE := hide (fun c1 => (show firstE [⟨0, 112, c1, true⟩] = 0 by simp [firstE]))
  go_enter Tryz.func23, Tryz.ntmps23
  go_wp2_with fail
  refine (hV.out _ (pairs_later h.out (by repeat (first | exact Below.refl _ _ | assumption | apply balloc | apply bdrew | (refine below_drewN ?_ _) | (refine bset ?_ (by first | (simp; done) | omega | (simp; omega)) _) | (refine bnext ?_ (by assumption)))))).mono ?_
  rintro e wA ⟨rfl, hA, hbA⟩
  (try simp at hA)
  have HA := hide hA
  have M1 := hide (mdlAt_later MN.out (show Below (w.alloc (.cells #[.int .i64 s', .int .i64 a0, .int .i64 b0, .int .i64 a1, .int .i64 b1, .int .i64 a2, .int .i64 b2, .int .i64 a3, .int .i64 b3] 26)).heap.size _ wA from (by repeat (first | exact Below.refl _ _ | assumption | apply balloc | apply bdrew | (refine below_drewN ?_ _) | (refine bset ?_ (by first | (simp; done) | omega | (simp; omega)) _) | (refine bnext ?_ (by assumption))))))
  have BA := hide (show Below w.heap.size w wA from (by repeat (first | exact Below.refl _ _ | assumption | apply balloc | apply bdrew | (refine below_drewN ?_ _) | (refine bset ?_ (by first | (simp; done) | omega | (simp; omega)) _) | (refine bnext ?_ (by assumption)))))
  clear hA hbA MN hV
  go_wp2_with fail
  refine (firstError_is 0 [⟨0, 112, _, true⟩] _ _ _ (FE.out _) (by simp) (by simp) (cnds_one_at (by simp)) (tells_one (cnd_later HA.out (balloc (Below.refl _ _))))).mono ?_
  rintro e wC ⟨rfl, hbC⟩
  have BC := hide (show Below wA.heap.size wA wC from (by repeat (first | exact Below.refl _ _ | assumption | apply balloc | apply bdrew | (refine below_drewN ?_ _) | (refine bset ?_ (by first | (simp; done) | omega | (simp; omega)) _) | (refine bnext ?_ (by assumption)))))
  clear hbC HA FE
  go_wp2_with fail
  go_loopw [9, 23] (fun v i wr => ∃ k : Nat, k ≤ zs.length ∧ i = .int .i64 (k : Int) ∧ Hid (wr.ownsRow wC.heap.size 23 2 v (N k).length (rowOf (N k))) ∧ Below wC.heap.size wC wr) (fun _ i _ => zs.length - (intOf i).toNat)
  case atStart => exact ⟨0, by omega, rfl, hide (by rw [hN0.out]; exact World.ownsRow_nil _ _ _ _), Below.refl _ _⟩
  case round =>
    obtain ⟨k, hk, rfl, hown, hb⟩ := hrel
    by_cases hlt : k < zs.length
    · obtain ⟨b, off, rfl, hc⟩ : ∃ b off, a = some ⟨b, off, none⟩ ∧ ∀ i, i < zs.length → wr.cell? ⟨b, off + i * 2, none⟩ = some (.int .i64 (zs.getD i (0, 0)).1) ∧ wr.cell? ⟨b, off + i * 2 + 1, none⟩ = some (.int .i64 (zs.getD i (0, 0)).2) := by
        rcases pairs_later h.out (bnext (bnext BA.out BC.out) hb) with h | h
        · subst h; simp at hlt
        · exact h
      obtain ⟨c1, c2⟩ := hc k hlt
      clear hc
      have HNk := hide (hN.out k)
      have HLk := hide (hL.out k)
      have gz := hg.out k hlt
      have SP := hide (fun W => hSp.out (zs.getD k (0, 0)) W gz)
      have SL := hide (hSL.out (zs.getD k (0, 0)))
      generalize hz : zs.getD k (0, 0) = z at *
      clear gz hz
      generalize S z = Sz at *
      obtain ⟨z1, z2⟩ := z
      simp only at c1 c2 SP
      have k20 : k ≤ 20 := by have := hl.out; omega
      go_upto_region 8 with fail
      obtain ⟨w5, hw5⟩ : ∃ z, z = wr.alloc (.cells #[.int .i64 z1, .int .i64 z2] 23) := ⟨_, rfl⟩
      rw [← hw5]
      obtain ⟨p3, hp3⟩ : ∃ p, wr.heap.size = p := ⟨_, rfl⟩
      have L3 : w5.cell? ⟨p3, 0, none⟩ = some (.int .i64 z1) := by rw [hw5, ← hp3]; exact (by simp [go_sem, World.cell?_alloc_past])
      have H3 : w5.cell? ⟨p3, 1, none⟩ = some (.int .i64 z2) := by rw [hw5, ← hp3]; exact (by simp [go_sem, World.cell?_alloc_past])
      have B5 := hide (show Below wC.heap.size wC w5 by rw [hw5]; exact balloc hb)
      have O5 := hide (show w5.ownsRow wC.heap.size 23 2 _ (N k).length (rowOf (N k)) by rw [hw5]; exact hown.out.alloc _)
      rw [hp3]
      have ⟨⟨⟨⟨m1, m2⟩, m3⟩, m4, m5⟩, ⟨m6, m7⟩, m8, m9⟩ := mdlAt_later M1.out (bnext BC.out B5.out)
      simp only at m1 m2 m3 m4 m5 m6 m7 m8 m9
      clear hw5 hp3 hown hb c1 c2
      go_wp2_with fail
      refine (SP.out _).mono ?_
      rintro e w6 ⟨v6, rfl, own6, hb6⟩
      obtain ⟨b9, c9, rfl, hnil, hp9⟩ := own_pairs own6
      have O6 := hide (owns_later O5.out hb6)
      have B6 := hide (bnext B5.out hb6)
      have HB9 := hide hnil
      have HP9 := hide hp9
      clear own6 hb6 hnil hp9 m1 m2 m3 m4 m5 m6 m7 m8 m9 L3 H3
      go_wp2_with (at_builtin; refine wpList_append_rgs rfl (.tmp 27) (.tmp 31) rfl wC.heap.size _ (N k) Sz rfl O6.out b9 c9 rfl HB9.out HP9.out ?_ ?_ ?_ ?_)
      · have := HLk.out; omega
      · have := SL.out; omega
      · exact B6.out.size
      · intro v7 w7 hown7 hgrow
        have B7 := hide (Below.grown B6.out hgrow B6.out.size (fun k' hk' => (O6.out.lt k' hk').1))
        have N7 := hide hown7
        clear hown7 hgrow
        go_wp2_with fail
        go_roundw
        case rel => exact ⟨k + 1, by omega, by go_num, hide (by rw [HNk.out, List.length_append]; exact N7.out), B7.out⟩
        case measure => simp [intOf]; omega
    · obtain rfl : k = zs.length := by omega
      obtain ⟨b9, c9, rfl, _, _⟩ := own_pairs hown.out
      have GP := hide (hG.out b9 c9 _ wr hb.size hown.out)
      have B5 := hide hb
      have SG := hide (show w.heap.size ≤ wr.heap.size by have := BA.out.size; have := BC.out.size; have := hb.size; omega)
      clear hown hb hN hL hSL hSp hG
      go_wp2_with fail
      refine GP.out.mono ?_
      rintro e w8 ⟨v8, rfl, own8, hb8⟩
      have O8 := hide (owns_base own8 SG.out)
      have B8 := hide (bnext (bnext BA.out BC.out) (B5.out.trans hb8))
      clear own8 hb8
      go_wp2_with fail
      exact bodyPost_ret (v := .tuple #[v8, .int .i64 0]) (by simp [results, Tryz.results23, go_sem]) rfl ⟨_, rfl, O8.out, B8.out⟩
set_option maxRecDepth 100000 in
set_option maxHeartbeats 6400000 in
theorem windowBad_go (s' a0 b0 a1 b1 a2 b2 a3 b3 E : Int) (zs : List (Int × Int)) (s : Int) (a : Option Addr) (cap : Nat) (w : World) (h : Hid (IsPairs w a zs)) (hE : Hid ((E != 0) = true))
    (hV : Hid (∀ W, IsPairs W a zs → Calls Tryz.prog 63 #[.agg #[.int .i64 s', .int .i64 a0, .int .i64 b0, .int .i64 a1, .int .i64 b1, .int .i64 a2, .int .i64 b2, .int .i64 a3, .int .i64 b3], .slice a zs.length cap, .int .u8 s] W fun e w' => e = .returned (.func (.func 112) #[] #[.pointer (some ⟨W.heap.size, 0, none⟩), .pointer (some ⟨W.heap.size + 1, 0, none⟩), .pointer (some ⟨W.heap.size + 1 + 1, 0, none⟩)]) ∧
      CndTells w' ⟨E, 112, #[.pointer (some ⟨W.heap.size, 0, none⟩), .pointer (some ⟨W.heap.size + 1, 0, none⟩), .pointer (some ⟨W.heap.size + 1 + 1, 0, none⟩)], E == 0⟩ ∧ Below W.heap.size W w')) :
    Calls Tryz.prog 23 #[.agg #[.int .i64 s', .int .i64 a0, .int .i64 b0, .int .i64 a1, .int .i64 b1, .int .i64 a2, .int .i64 b2, .int .i64 a3, .int .i64 b3], .slice a zs.length cap, .int .u8 s] w fun e w' => e = .returned (.tuple #[.slice none 0 0, .int .i64 E]) ∧ Below w.heap.size w w' := by
  have FE := hide (fun c1 => (show firstE [⟨E, 112, c1, E == 0⟩] = E by
    have := hE.out
    have d : (E == 0) = false := by simpa using this
    simp [firstE, d]))
  go_enter Tryz.func23, Tryz.ntmps23
  go_wp2_with fail
  refine (hV.out _ (pairs_later h.out (by repeat (first | exact Below.refl _ _ | assumption | apply balloc | apply bdrew | (refine below_drewN ?_ _) | (refine bset ?_ (by first | (simp; done) | omega | (simp; omega)) _) | (refine bnext ?_ (by assumption)))))).mono ?_
  rintro e wA ⟨rfl, hA, hbA⟩
  (try simp at hA)
  have HA := hide hA
  have BA := hide (show Below w.heap.size w wA from (by repeat (first | exact Below.refl _ _ | assumption | apply balloc | apply bdrew | (refine below_drewN ?_ _) | (refine bset ?_ (by first | (simp; done) | omega | (simp; omega)) _) | (refine bnext ?_ (by assumption)))))
  clear hA hbA hV
  go_wp2_with fail
  refine (firstError_is E [⟨E, 112, _, E == 0⟩] _ _ _ (FE.out _) (by simp) (by simp) (cnds_one_at (by simp)) (tells_one (cnd_later HA.out (balloc (Below.refl _ _))))).mono ?_
  rintro e wC ⟨rfl, hbC⟩
  have BC := hide (show Below wA.heap.size wA wC from (by repeat (first | exact Below.refl _ _ | assumption | apply balloc | apply bdrew | (refine below_drewN ?_ _) | (refine bset ?_ (by first | (simp; done) | omega | (simp; omega)) _) | (refine bnext ?_ (by assumption)))))
  clear hbC HA FE
  have d := hE.out
  go_wp2_with fail
  exact bodyPost_ret (v := .tuple #[.slice none 0 0, .int .i64 E]) (by simp [results, Tryz.results23, go_sem]) rfl ⟨rfl, bnext BA.out BC.out⟩
def WaPost (w : World) (E : Int) (L : List (Int × Int)) (e : Ending) (w' : World) : Prop := ∃ v, e = .returned (.tuple #[v, .int .i64 E]) ∧ w'.ownsRow w.heap.size 23 2 v L.length (rowOf L) ∧ Below w.heap.size w w'
theorem window_any (m : Mdl) (zs : List (Int × Int)) (s : Int) (a : Option Addr) (cap : Nat) (w : World) (L : List (Int × Int)) (hl : zs.length ≤ 140737488351232) (h : IsPairs w a zs) (h0 : zonE m zs s ≠ 0 → L = []) (hL : zonE m zs s = 0 → ∀ ds : List (Int × Int), ds.Perm (winN m zs s zs.length) → ds.Pairwise (fun a b => a.1 ≤ b.1) → gapR 0 ds = L) :
    Calls Tryz.prog 23 #[mdlV m, .slice a zs.length cap, .int .u8 s] w (WaPost w (zonE m zs s) L) := by
  have hV := fun W (g : IsPairs W a zs) => validZones_ex m zs s a cap W hl g
  by_cases e0 : zonE m zs s = 0
  · have hz : zs.all grOk = true ∧ mdlOk m = true ∧ zs.length ≤ 20 := by
      unfold zonE at e0
      cases hm : mdlOk m <;> cases hk : decide ((zs.length : Int) ≤ 20) <;> cases hg : zs.all grOk <;> simp_all <;> omega
    have hg : ∀ k, k < zs.length → grOk (zs.getD k (0, 0)) = true := fun k hk => List.all_eq_true.1 hz.1 _ (by simp [hk])
    rw [e0] at hV ⊢
    have len := winN_len m zs s zs.length
    have h3 := hL e0
    refine (windowAll_go m.s _ _ _ _ _ _ _ _ zs s a cap w (winN m zs s) (fun z => spoN m z s 5) L hz.2.2 h hg rfl (fun k => rfl) (winN_len m zs s) (fun z => spoN_len m z s 5) hV (fun z W g => spoilt_any m z s W hz.2.1 g) (fun b gc base W hb hown => gaps_all b gc _ W base (winN_far m zs s _) (by omega) hb hown L h3)).mono ?_
    rintro e w' ⟨v, rfl, o, hb⟩
    exact ⟨v, rfl, o, hb⟩
  · have := h0 e0
    subst this
    refine (windowBad_go m.s _ _ _ _ _ _ _ _ (zonE m zs s) zs s a cap w h (hide (by simpa using e0)) hV).mono ?_
    rintro e w' ⟨rfl, hb⟩
    exact ⟨_, rfl, World.ownsRow_nil _ _ _ _, hb⟩
end Go.Proofs.YtimfbjnpalgmcaaGreat
