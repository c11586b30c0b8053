/-
  DefectPrints: the walk, with what its callees come to.
-/
import Derived.Test.YtimfbjnpalgmcaaGreatPnW
import Derived.Test.YtimfbjnpalgmcaaGreatVaI
import Derived.Test.YtimfbjnpalgmcaaGreatDtA
import Derived.Test.YtimfbjnpalgmcaaGreatSlX
namespace Go.Proofs.YtimfbjnpalgmcaaGreat
set_option linter.unusedSimpArgs false
set_option linter.unusedVariables false
open Go.RowKit

/-- The regions of a growth's gradients over a slice. -/
def ppQ (m : Mdl) (g : Gr) (c d : Int) (j : Nat) : Nat :=
  regN m (rateQ ((valueQ g.rs c d).1, (valueQ g.rs c d).2.1) g.off) (gradQ ((valueQ g.fs c d).1, (valueQ g.fs c d).2.1) (g.zs.getD j (0, 0)))
theorem cuts_all {lo hi : Int} {cs : List Int} (h : cutsOk lo hi cs = true) {i : Nat} (hi' : i + 1 < cs.length) : lo ≤ cs.getD i 0 ∧ cs.getD i 0 < cs.getD (i + 1) 0 ∧ cs.getD (i + 1) 0 ≤ hi := by
  have a := List.all_eq_true.1 h i (List.mem_range.2 (by omega))
  have b := List.all_eq_true.1 h (i + 1) (List.mem_range.2 hi')
  unfold cutOk at a b
  simp only [Bool.and_eq_true, Bool.or_eq_true, decide_eq_true_eq, Nat.add_sub_cancel] at a b
  refine ⟨a.1, ?_, b.2.1⟩
  rcases b.2.2 with h | h
  · omega
  · exact h
theorem defectPrints_walk (s a0 b0 a1 b1 a2 b2 a3 b3 off : Int) (rs zs fs : List (Int × Int)) (cs : List Int) (ra za fa a : Option Addr) (rc zc fc cp : Nat) (w : World)
    (NR : ra = none → rc = 0 ∧ rs = []) (NZ : za = none → zc = 0 ∧ zs = []) (NF : fa = none → fc = 0 ∧ fs = []) (NA : a = none → cp = 0 ∧ cs = []) (h : IsGr w ⟨rs, off, zs, fs⟩ ⟨ra, rc, za, zc, fa, fc⟩) (hc : IsInts w a cs) (wr : Wide rs) (wf : Wide fs) :
    Calls Tryz.prog 6 #[.agg #[.int .i64 s, .int .i64 a0, .int .i64 b0, .int .i64 a1, .int .i64 b1, .int .i64 a2, .int .i64 b2, .int .i64 a3, .int .i64 b3], .agg #[.slice ra rs.length rc, .int .i64 off, .slice za zs.length zc, .slice fa fs.length fc], .slice a cs.length cp] w fun e w' => e = .returned (.bool true) ∧ Below w.heap.size w w' := by
  obtain ⟨wb, hwb⟩ : ∃ z, wideB ⟨rs, off, zs, fs⟩ = z := ⟨_, rfl⟩
  obtain ⟨k1, hk1⟩ : ∃ z, mdlOk ⟨s, a0, b0, a1, b1, a2, b2, a3, b3⟩ = z := ⟨_, rfl⟩
  obtain ⟨k2, hk2⟩ : ∃ z, grwOk ⟨rs, off, zs, fs⟩ = z := ⟨_, rfl⟩
  obtain ⟨k3, hk3⟩ : ∃ z, decide ((cs.length : Int) ≤ 500) = z := ⟨_, rfl⟩
  obtain ⟨k4, hk4⟩ : ∃ z, cutsOk (plcQ rs).1 (plcQ rs).2 cs = z := ⟨_, rfl⟩
  obtain ⟨E, hE⟩ : ∃ z, cond (k1 && k2) (cutR (plcQ rs).1 (plcQ rs).2 cs) 2 = z := ⟨_, rfl⟩
  have CR : cutR (plcQ rs).1 (plcQ rs).2 cs = cond k3 (cond k4 0 3) 5 := by
    unfold cutR
    rw [hk4]
    cases k3 with
    | false => rw [if_pos (by have := of_decide_eq_false hk3; omega)]; rfl
    | true => rw [if_neg (by have := of_decide_eq_true hk3; omega)]; cases k4 <;> rfl
  have GO : k2 = true → GrwOk ⟨rs, off, zs, fs⟩ := fun e => grwOk_of (hk2.trans e)
  have LE : wb = false → (rs.length ≤ 70 ∧ zs.length ≤ 70) ∧ fs.length ≤ 70 := by
    rintro rfl
    unfold wideB at hwb
    simp only [Bool.or_eq_false_iff, decide_eq_false_iff_not] at hwb
    omega
  have E0 : E = 0 → (k1 = true ∧ k2 = true) ∧ k4 = true := by
    intro e
    rw [CR] at hE
    cases k1 <;> cases k2 <;> cases k3 <;> cases k4 <;> simp_all
  have V1 : k2 = true → ∀ c d, (plcQ rs).1 ≤ c → c < d → d ≤ (plcQ rs).2 → ∃ v1 v2, valueQ rs c d = (v1, v2, 0) ∧ (0 ≤ v1 ∧ v1 ≤ v2) ∧ v2 ≤ 1000000 := fun e c d h0 h1 h2 =>
    value_within (GO e).t1 (GO e).y1 (by omega) h0 h2
  have V2 : k2 = true → ∀ c d, (plcQ rs).1 ≤ c → c < d → d ≤ (plcQ rs).2 → ∃ v1 v2, valueQ fs c d = (v1, v2, 0) ∧ (1 ≤ v1 ∧ v1 ≤ v2) ∧ v2 ≤ 20000 := fun e c d h0 h1 h2 => by
    have pl : plcQ rs = plcQ fs := (GO e).pl
    exact value_within (GO e).t2 (GO e).y2 (by omega) (by rw [← pl]; exact h0) (by rw [← pl]; exact h2)
  refine defectPrints_go s a0 b0 a1 b1 a2 b2 a3 b3 off E (grwE ⟨rs, off, zs, fs⟩) rs zs fs cs ra za fa a rc zc fc cp cs.length zs.length wb k1 k2 (fun i => ppQ ⟨s, a0, b0, a1, b1, a2, b2, a3, b3⟩ ⟨rs, off, zs, fs⟩ (cs.getD i 0) (cs.getD (i + 1) 0)) w
    (hide fun e => by have := LE e; omega) (hide rfl) (hide NA) (hide hc) (hide rfl) (hide h.1.2) (hide (by unfold grwE; rw [hk2])) (hide fun e => by rw [← hE, e]; rfl) (hide fun e => (E0 e).1)
    (hide fun W => ?_) (hide fun e W hb => ?_) (hide fun e W q1 c1 q2 c2 q3 c3 hP => ?_) (hide fun e n5 W q1 c1 q2 c2 q3 c3 q4 c4 hP hI => ?_) (hide fun e W hb => ?_) (hide fun W => ?_) (hide fun e1 e2 n5 W hb => ?_) (hide fun e n5 W hb => ?_) (hide fun e W q1 c1 hb h1 => ?_)
  · have c := wide_any rs zs fs off ra za fa rc zc fc W
    rwa [hwb] at c
  · have l := LE e
    exact own_any rs zs fs off ra za fa rc zc fc W (hide (by omega)) (hide NR) (hide NZ) (hide NF) (hide (pairs_later h.1.1 hb)) (hide (pairs_later h.1.2 hb)) (hide (pairs_later h.2 hb))
  · have l := LE e
    exact checkGrowth_any ⟨rs, off, zs, fs⟩ ⟨q1, c1, q2, c2, q3, c3⟩ W ⟨⟨by simp only; omega, by simp only; omega⟩, by simp only; omega⟩ ⟨⟨hP.1, hP.2.1⟩, hP.2.2⟩
  · have l := LE e
    refine print_any s a0 b0 a1 b1 a2 b2 a3 b3 off E rs zs fs cs q1 q2 q3 q4 c1 c2 c3 c4 cs.length k1 k2 k3 k4 (fun i => ppQ ⟨s, a0, b0, a1, b1, a2, b2, a3, b3⟩ ⟨rs, off, zs, fs⟩ (cs.getD i 0) (cs.getD (i + 1) 0)) W rfl (by omega) hk1 hk2 hk3 (fun _ => hk4) ⟨⟨by simp only; omega, by simp only; omega⟩, by simp only; omega⟩ ⟨⟨hP.1, hP.2.1⟩, hP.2.2⟩ hI (hide fun c d f g => ?_) (hide fun e0 W' i hi hb => ?_)
    · rw [← hE, CR]
      cases k1 <;> cases k2 <;> cases k3 <;> cases k4 <;> rfl
    · obtain ⟨⟨e1, e2⟩, e4⟩ := E0 e0
      have g := GO e2
      have l1 := (len_of g.t1).2
      have l2 := (len_of g.t2).2
      simp only at l1 l2
      obtain ⟨h0, h1, h2⟩ := cuts_all (hk4.trans e4) hi
      obtain ⟨v1, v2, hv, vb⟩ := V1 e2 _ _ h0 h1 h2
      obtain ⟨f1, f2, hf, fb⟩ := V2 e2 _ _ h0 h1 h2
      refine printed_go s a0 b0 a1 b1 a2 b2 a3 b3 off _ _ v1 v2 f1 f2 rs zs fs q1 q2 q3 c1 c2 c3 (ppQ ⟨s, a0, b0, a1, b1, a2, b2, a3, b3⟩ ⟨rs, off, zs, fs⟩ (cs.getD i 0) (cs.getD (i + 1) 0)) W' (hk1.trans e1) (hide g.zs) g.z1 ⟨l1, l2⟩ g.o0 g.o1 (hide hv) (hide hf) (by omega) fb (hide fun j => ?_) (gr_later ⟨⟨hP.1, hP.2.1⟩, hP.2.2⟩ hb)
      unfold ppQ
      simp only [hv, hf]
  · have l := LE e
    have c := refGrowth_any ⟨rs, off, zs, fs⟩ ⟨ra, rc, za, zc, fa, fc⟩ W (gr_later h hb) (by simp only; omega) (by simp only; omega) (by simp only; omega) wr wf
    rwa [hk2] at c
  · have c := refModel_any ⟨s, a0, b0, a1, b1, a2, b2, a3, b3⟩ W
    rwa [hk1] at c
  · have g := GO e2
    have l1 := len_of g.t1
    simp only at l1
    have c := refCuts_any ⟨rs, off, zs, fs⟩ ⟨ra, rc, za, zc, fa, fc⟩ cs a cp W (by omega) (by simp only; omega) (gr_later h hb) (ints_later hc hb)
    rw [e1, e2] at hE
    rw [show cutR (plcQ rs).1 (plcQ rs).2 cs = E from hE] at c
    exact c
  · obtain ⟨⟨e1, e2⟩, e4⟩ := E0 e
    have g := GO e2
    have l1 := (len_of g.t1).2
    have l2 := (len_of g.t2).2
    simp only at l1 l2
    have z0 : 1 ≤ zs.length := g.z0
    refine refPrint_go s a0 b0 a1 b1 a2 b2 a3 b3 off rs zs fs cs ra za fa a rc zc fc cp cs.length zs.length (fun i => ppQ ⟨s, a0, b0, a1, b1, a2, b2, a3, b3⟩ ⟨rs, off, zs, fs⟩ (cs.getD i 0) (cs.getD (i + 1) 0)) W rfl (by omega) (ints_later hc hb) (by omega) (hide fun W' i hi hb' => ?_)
    obtain ⟨h0, h1, h2⟩ := cuts_all (hk4.trans e4) hi
    obtain ⟨v1, v2, hv, vb⟩ := V1 e2 _ _ h0 h1 h2
    obtain ⟨f1, f2, hf, fb⟩ := V2 e2 _ _ h0 h1 h2
    refine refSlice_any ⟨s, a0, b0, a1, b1, a2, b2, a3, b3⟩ off _ _ v1 v2 f1 f2 rs zs fs ra za fa rc zc fc (ppQ ⟨s, a0, b0, a1, b1, a2, b2, a3, b3⟩ ⟨rs, off, zs, fs⟩ (cs.getD i 0) (cs.getD (i + 1) 0)) W' (hk1.trans e1) g.zs g.z1 ⟨l1, l2⟩ g.o0 g.o1 hv hf (by omega) fb (fun j => ?_) (gr_later (gr_later h hb) hb') wr wf
    unfold ppQ
    simp only [hv, hf]
  · have l := LE e
    have c := sameRanges5_any q1 za c1 zc zs zs W (by omega) (by omega) h1 (pairs_later h.1.2 hb)
    rwa [decide_eq_true rfl] at c
end Go.Proofs.YtimfbjnpalgmcaaGreat
