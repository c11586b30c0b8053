/-
  DefectWindows: the walk, with what its callees come to.
-/
import Derived.Test.YtimfbjnpalgmcaaGreatWnW
import Derived.Test.YtimfbjnpalgmcaaGreatDrC
namespace Go.Proofs.YtimfbjnpalgmcaaGreat
set_option linter.unusedSimpArgs false
set_option linter.unusedVariables false
open Go.RowKit

theorem whyF_neg (f : Int × Int → Int) : ∀ (zs : List (Int × Int)) (i : Nat), decide ((whyF f zs i).1 < 0) = !(zs.any fun z => f z != 0) := by
  intro zs
  induction zs with
  | nil => intro i; rfl
  | cons z zs ih =>
    intro i
    unfold whyF
    rw [List.any_cons]
    cases h : (f z != 0) with
    | true => simp only [if_true, Bool.true_or, Bool.not_true]; exact decide_eq_false (by omega)
    | false => simp only [Bool.false_or]; rw [← ih (i + 1)]; rfl
theorem gapR_len : ∀ (l : List (Int × Int)) (x : Int), (gapR x l).length ≤ l.length + 1 := by
  intro l
  induction l with
  | nil => intro x; unfold gapR; split <;> simp
  | cons r l ih =>
    intro x
    have := ih (max x (r.2 + 1))
    unfold gapR
    split <;> simp <;> omega
theorem refWhy_any (m : Mdl) (zs : List (Int × Int)) (s v : Int) (a : Option Addr) (cap : Nat) (w : World) (hm : MdlOk m) (hz : zs.all grOk = true) (hl : zs.length ≤ 20) (s0 : 0 ≤ s) (s1 : s < 32) (v0 : 0 ≤ v) (v1 : v ≤ 1000000) (h : IsPairs w a zs) :
    Calls Tryz.prog 29 #[mdlV m, .slice a zs.length cap, .int .u8 s, .int .i64 v] w fun e w' => e = .returned (.tuple #[.int .i64 (whyF (badQ m s v) zs 0).1, .int .i64 (whyF (badQ m s v) zs 0).2]) ∧ Below w.heap.size w w' := by
  refine refWhy_go m.s m.a0 m.b0 m.a1 m.b1 m.a2 m.b2 m.a3 m.b3 s v _ _ zs (badQ m s v) (fun z => regN m (v, v) z) (fun z => (badQ m s v z).toNat) a cap w hl (hide h) (hide fun W z hz' => ?_) (hide fun z => ?_) (hide rfl)
  · have g := List.all_eq_true.1 hz z hz'
    simp only [grOk, rgOk, Bool.and_eq_true, decide_eq_true_eq] at g
    exact refRegions_any m v v z.1 z.2 W hm v0 (Int.le_refl _) v1 g.1 g.2.2.1 g.2.2.2
  · obtain ⟨x, hx, ex⟩ := andNot_lt (show regN m (v, v) z < 32 from setN_lt _ 5) s0 s1
    have e : badQ m s v z = (x : Int) := ex
    simp only [e, ex, Int.toNat_natCast]
    exact ⟨trivial, trivial, hx⟩
theorem refWindow_any (m : Mdl) (zs : List (Int × Int)) (s : Int) (a : Option Addr) (cap n : Nat) (w : World) (hn : 1000001 ≤ n) (hm : MdlOk m) (hz : zs.all grOk = true) (hl : zs.length ≤ 20) (s0 : 0 ≤ s) (s1 : s < 32) (h : IsPairs w a zs) :
    Calls Tryz.prog 28 #[mdlV m, .slice a zs.length cap, .int .u8 s] w (RwPost w (refW (fun v => nxZ m zs v zs.length) (fun v => !badV m zs s v) n 0 [])) := by
  refine refWindow_go m.s m.a0 m.b0 m.a1 m.b1 m.a2 m.b2 m.a3 m.b3 s zs _ (fun v => nxZ m zs v zs.length) (fun v => !badV m zs s v) (fun v => whyF (badQ m s v) zs 0) a cap w (hide fun W v v0 v1 hb => ?_) (hide fun W v v0 v1 hb => ?_) (hide fun v v0 v1 => ?_) (hide fun v v0 v1 => ?_) (hide ⟨n, by omega, rfl⟩)
  · refine refNext_go m.s m.a0 m.b0 m.a1 m.b1 m.a2 m.b2 m.a3 m.b3 v zs m.lo m.hi (nxZ m zs v) (fun i k => nxK m (zs.getD i (0, 0)) v (nxZ m zs v i) k) (fun i k => lowA m (zs.getD i (0, 0)) k) (fun i k => higA m (zs.getD i (0, 0)) k) a cap W hl ⟨hm.s1, hm.s2⟩ (hide (pairs_later h hb))
      (hide fun W q k g hk => ⟨mdlAt_lo g k hk, mdlAt_hi g k hk⟩) (hide fun k hk => ?_) (hide fun i hi => ?_) (hide rfl) (hide fun i => ⟨rfl, rfl⟩) (hide fun i k => rfl) (hide fun i k => ⟨rfl, rfl⟩)
    · have a := hm.lo0 k; have b := hm.lohi k; have c := hm.hi0 k
      omega
    · have g := List.all_eq_true.1 hz (zs.getD i (0, 0)) (by simp [hi])
      simp only [grOk, rgOk, Bool.and_eq_true, decide_eq_true_eq] at g
      omega
  · exact refWhy_any m zs s v a cap W hm hz hl s0 s1 v0 v1 (pairs_later h hb)
  · rw [whyF_neg]
    unfold badV
    congr 1
    rw [Bool.eq_iff_iff, List.any_eq_true, List.any_eq_true]
    exact ⟨fun ⟨z, p, q⟩ => ⟨z, p, by rw [badQ_is s0 s1]; exact q⟩, fun ⟨z, p, q⟩ => ⟨z, p, by rw [badQ_is s0 s1] at q; exact q⟩⟩
  · have := nxZ_le (m := m) (zs := zs) v1 zs.length
    exact ⟨this.2.1, this.1⟩
theorem zonE_parts {m : Mdl} {zs : List (Int × Int)} {s : Int} (h : zonE m zs s = 0) : mdlOk m = true ∧ zs.all grOk = true ∧ zs.length ≤ 20 ∧ s < 32 := by
  unfold zonE at h
  cases hm : mdlOk m <;> cases hk : decide ((zs.length : Int) ≤ 20) <;> cases hg : zs.all grOk <;> simp_all <;> omega
theorem zonE_zonR (m : Mdl) (zs : List (Int × Int)) (s : Int) : zonE m zs s = cond (mdlOk m) (zonR zs s) 2 := by
  unfold zonE zonR
  cases mdlOk m with
  | false => rfl
  | true =>
    by_cases c : (zs.length : Int) ≤ 20
    · rw [decide_eq_true c, if_neg (show ¬ 20 < (zs.length : Int) by omega)]
      cases zs.all grOk with
      | false => rfl
      | true =>
        by_cases d : s < 32
        · rw [decide_eq_true d, if_neg (show ¬ 31 < s by omega)]; rfl
        · rw [decide_eq_false d, if_pos (show 31 < s by omega)]; rfl
    · rw [decide_eq_false c, if_pos (show 20 < (zs.length : Int) by omega)]; rfl
theorem defectWindows_walk (s a0 b0 a1 b1 a2 b2 a3 b3 sw rt : Int) (zs : List (Int × Int)) (za : Option Addr) (zc : Nat) (w : World) (hs : 0 ≤ sw ∧ sw ≤ 255) (NZ : za = none → zc = 0 ∧ zs = []) (h : IsPairs w za zs) :
    Calls Tryz.prog 5 #[.agg #[.int .i64 s, .int .i64 a0, .int .i64 b0, .int .i64 a1, .int .i64 b1, .int .i64 a2, .int .i64 b2, .int .i64 a3, .int .i64 b3], .agg #[.slice za zs.length zc, .int .u8 sw, .int .i64 rt]] w fun e w' => e = .returned (.bool true) ∧ Below w.heap.size w w' := by
  obtain ⟨n, hn⟩ : ∃ n : Nat, 1000001 ≤ n := ⟨_, Nat.le_refl _⟩
  obtain ⟨L, L0, L1⟩ : ∃ L, (zonE ⟨s, a0, b0, a1, b1, a2, b2, a3, b3⟩ zs sw = 0 → L = refW (fun v => nxZ ⟨s, a0, b0, a1, b1, a2, b2, a3, b3⟩ zs v zs.length) (fun v => !badV ⟨s, a0, b0, a1, b1, a2, b2, a3, b3⟩ zs sw v) n 0 []) ∧ (zonE ⟨s, a0, b0, a1, b1, a2, b2, a3, b3⟩ zs sw ≠ 0 → L = []) := by
    by_cases e : zonE ⟨s, a0, b0, a1, b1, a2, b2, a3, b3⟩ zs sw = 0
    · exact ⟨_, fun _ => rfl, fun h => absurd e h⟩
    · exact ⟨[], fun h => absurd h e, fun _ => rfl⟩
  have WL : zonE ⟨s, a0, b0, a1, b1, a2, b2, a3, b3⟩ zs sw = 0 → ∀ ds : List (Int × Int), ds.Perm (winN ⟨s, a0, b0, a1, b1, a2, b2, a3, b3⟩ zs sw zs.length) → ds.Pairwise (fun a b => a.1 ≤ b.1) → gapR 0 ds = L := fun e ds hp hd => by
    obtain ⟨p1, p2, p3, p4⟩ := zonE_parts e
    rw [L0 e]
    exact window_is (mdlOk_of p1) (fun i hi => List.all_eq_true.1 p2 _ (by simp [hi])) hp hd hn
  have LL : L.length ≤ 140737488351232 := by
    by_cases e : zonE ⟨s, a0, b0, a1, b1, a2, b2, a3, b3⟩ zs sw = 0
    · obtain ⟨p1, p2, p3, p4⟩ := zonE_parts e
      have wl := winN_len ⟨s, a0, b0, a1, b1, a2, b2, a3, b3⟩ zs sw zs.length
      obtain ⟨ds, pm, ps⟩ : ∃ ds : List (Int × Int), ds.Perm (winN ⟨s, a0, b0, a1, b1, a2, b2, a3, b3⟩ zs sw zs.length) ∧ ds.Pairwise (fun a b => a.1 ≤ b.1) :=
        ⟨_, List.mergeSort_perm _ (fun (a b : Int × Int) => decide (a.1 ≤ b.1)), (List.pairwise_mergeSort (le := fun (a b : Int × Int) => decide (a.1 ≤ b.1)) (fun a b c h1 h2 => decide_eq_true (Int.le_trans (of_decide_eq_true h1) (of_decide_eq_true h2))) (fun a b => by
          rcases Int.le_total a.1 b.1 with h | h
          · rw [decide_eq_true h]; rfl
          · rw [decide_eq_true h, Bool.or_true]) _).imp fun h => of_decide_eq_true h⟩
      have := gapR_len ds 0
      rw [WL e _ pm ps, pm.length_eq] at this
      omega
    · rw [L1 e]; simp
  have WE : ∀ r : Int, zonE ⟨s, a0, b0, a1, b1, a2, b2, a3, b3⟩ zs sw = 0 → (0 ≤ r ∧ r ≤ 1000000) → whyQ ⟨s, a0, b0, a1, b1, a2, b2, a3, b3⟩ zs sw r = ((whyF (badQ ⟨s, a0, b0, a1, b1, a2, b2, a3, b3⟩ sw r) zs 0).1, (whyF (badQ ⟨s, a0, b0, a1, b1, a2, b2, a3, b3⟩ sw r) zs 0).2, 0) := fun r e hr => by
    have : whyE ⟨s, a0, b0, a1, b1, a2, b2, a3, b3⟩ zs sw r = 0 := by
      unfold whyE rgOk
      rw [e, decide_eq_true (show 0 ≤ (r, r).1 from hr.1), decide_eq_true (show (r, r).1 ≤ (r, r).2 from Int.le_refl _), decide_eq_true (show (r, r).2 ≤ 1000000 from hr.2)]; rfl
    unfold whyQ
    rw [if_pos this]
  refine defectWindows_go s a0 b0 a1 b1 a2 b2 a3 b3 sw rt (zonE ⟨s, a0, b0, a1, b1, a2, b2, a3, b3⟩ zs sw) (zonR zs sw) (whyQ ⟨s, a0, b0, a1, b1, a2, b2, a3, b3⟩ zs sw rt).1 (whyQ ⟨s, a0, b0, a1, b1, a2, b2, a3, b3⟩ zs sw rt).2.1 (whyQ ⟨s, a0, b0, a1, b1, a2, b2, a3, b3⟩ zs sw rt).2.2 zs L za zc (mdlOk ⟨s, a0, b0, a1, b1, a2, b2, a3, b3⟩) w (hide fun l W hb => ?_) (hide fun l W q c hq => ?_) (hide fun l W q c hq => ?_) (hide fun W => ?_) (hide fun l W hb => ?_) (hide (zonE_zonR _ _ _)) (hide fun e => ?_) (hide LL) (hide fun e W hb => ?_) (hide fun e hr => ?_) (hide fun e hr => ⟨?_, fun W hb => ?_⟩)
  · exact zones_any zs za zs.length zc W rfl NZ (by omega) (pairs_later h hb)
  · exact window_any ⟨s, a0, b0, a1, b1, a2, b2, a3, b3⟩ zs sw q c W L (by omega) hq L1 WL
  · exact why_any ⟨s, a0, b0, a1, b1, a2, b2, a3, b3⟩ zs sw rt q c W (by omega) hs.1 hq
  · exact refModel_any ⟨s, a0, b0, a1, b1, a2, b2, a3, b3⟩ W
  · exact refZones_any zs sw za zc W (by omega) (pairs_later h hb)
  · have : whyE ⟨s, a0, b0, a1, b1, a2, b2, a3, b3⟩ zs sw rt = zonE ⟨s, a0, b0, a1, b1, a2, b2, a3, b3⟩ zs sw := by
      unfold whyE
      rw [show (zonE ⟨s, a0, b0, a1, b1, a2, b2, a3, b3⟩ zs sw == 0) = false by simpa using e]; rfl
    unfold whyQ
    rw [this, if_neg e]
    exact ⟨L1 e, rfl, rfl, rfl⟩
  · obtain ⟨p1, p2, p3, p4⟩ := zonE_parts e
    rw [L0 e]
    exact refWindow_any ⟨s, a0, b0, a1, b1, a2, b2, a3, b3⟩ zs sw za zc n W hn (mdlOk_of p1) p2 p3 hs.1 p4 (pairs_later h hb)
  · have : whyE ⟨s, a0, b0, a1, b1, a2, b2, a3, b3⟩ zs sw rt = 3 := by
      unfold whyE rgOk
      rw [e]
      by_cases c : 0 ≤ rt
      · rw [show decide ((rt, rt).2 ≤ 1000000) = false from decide_eq_false (by simp only; omega)]; simp
      · rw [show decide (0 ≤ (rt, rt).1) = false from decide_eq_false (by simp only; omega)]; simp
    unfold whyQ
    rw [this]
    exact ⟨rfl, rfl, rfl⟩
  · rw [WE rt e hr]
  · obtain ⟨p1, p2, p3, p4⟩ := zonE_parts e
    rw [WE rt e hr]
    exact refWhy_any ⟨s, a0, b0, a1, b1, a2, b2, a3, b3⟩ zs sw rt za zc W (mdlOk_of p1) p2 p3 hs.1 p4 hr.1 hr.2 (pairs_later h hb)
end Go.Proofs.YtimfbjnpalgmcaaGreat
