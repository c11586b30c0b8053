/-
  DefectSlices: the walk, with what its callees come to.
-/
import Derived.Test.YtimfbjnpalgmcaaGreatSmW
namespace Go.Proofs.YtimfbjnpalgmcaaGreat
set_option linter.unusedSimpArgs false
set_option linter.unusedVariables false
open Go.RowKit

/-- The regions of a growth's gradients over a slice. -/
def psQ (m : Mdl) (g : Gr) (c d : Int) (j : Nat) : Nat :=
  regN m (rateQ ((valueQ g.rs c d).1, (valueQ g.rs c d).2.1) g.off) (gradQ ((valueQ g.fs c d).1, (valueQ g.fs c d).2.1) (g.zs.getD j (0, 0)))
theorem plN_one {x y : Int} (b : Int) (h : y ≤ x) : plN x y b = x := by
  unfold plN
  rw [if_neg (by omega)]
set_option maxHeartbeats 1600000 in
theorem defectSlices_walk (s a0 b0 a1 b1 a2 b2 a3 b3 off p0 p1 p2 sw : Int) (t : Tru) (rs zs fs : List (Int × Int)) (ra za fa : Option Addr) (rc zc fc : Nat) (w : World) (hp0 : 0 ≤ p0 ∧ p0 ≤ 65535) (hp1 : 0 ≤ p1 ∧ p1 ≤ 65535) (hp2 : 0 ≤ p2 ∧ p2 ≤ 65535) (ht : TruOk t) (hs : 0 ≤ sw ∧ sw ≤ 255)
    (NR : ra = none → rc = 0 ∧ rs = []) (NZ : za = none → zc = 0 ∧ zs = []) (NF : fa = none → fc = 0 ∧ fs = []) (h : IsGr w ⟨rs, off, zs, fs⟩ ⟨ra, rc, za, zc, fa, fc⟩) :
    Calls Tryz.prog 12 #[.agg #[.int .i64 s, .int .i64 a0, .int .i64 b0, .int .i64 a1, .int .i64 b1, .int .i64 a2, .int .i64 b2, .int .i64 a3, .int .i64 b3], .agg #[.slice ra rs.length rc, .int .i64 off, .slice za zs.length zc, .slice fa fs.length fc], .agg #[.int .u16 p0, .int .u16 p1, .int .u16 p2, .int .u16 t.t0, .int .u16 t.t1, .int .u16 t.t2, .int .u16 t.t3, .int .u16 t.r, .int .u16 t.g, .int .u8 sw]] w fun e w' => e = .returned (.bool true) ∧ Below w.heap.size w w' := by
  obtain ⟨wb, hwb⟩ : ∃ z, wideB ⟨rs, off, zs, fs⟩ = z := ⟨_, rfl⟩
  obtain ⟨k1, hk1⟩ : ∃ z, mdlOk ⟨s, a0, b0, a1, b1, a2, b2, a3, b3⟩ = z := ⟨_, rfl⟩
  obtain ⟨k2, hk2⟩ : ∃ z, grwOk ⟨rs, off, zs, fs⟩ = z := ⟨_, rfl⟩
  have GO : k2 = true → GrwOk ⟨rs, off, zs, fs⟩ := fun e => grwOk_of (hk2.trans e)
  have LE : wb = false → (rs.length ≤ 70 ∧ zs.length ≤ 70) ∧ fs.length ≤ 70 := by
    rintro rfl
    unfold wideB at hwb
    simp only [Bool.or_eq_false_iff, decide_eq_false_iff_not] at hwb
    omega
  have hv : wb = false ∧ k1 = true ∧ k2 = true ∨ ¬ (wb = false ∧ k1 = true ∧ k2 = true) := Decidable.em _
  obtain ⟨x, y, hxy, hp, hval⟩ : ∃ x y : Int, ((wb = false ∧ k1 = true ∧ k2 = true) → ((plcQ rs).1 = x ∧ (plcQ rs).2 = y) ∧ x < y) ∧ ((0 ≤ x ∧ x ≤ y) ∧ y ≤ 3000) ∧ (x < y → (wb = false ∧ k1 = true ∧ k2 = true)) := by
    rcases hv with e | e
    · have g := GO e.2.2
      have p := g.pr
      unfold rgOk at p
      simp only [Bool.and_eq_true, decide_eq_true_eq] at p
      have l := len_of g.t1
      simp only at l
      have k := knot_lt g.t1 (i := 0) (j := rs.length - 1) (by omega) (by simp only; omega)
      refine ⟨(plcQ rs).1, (plcQ rs).2, fun _ => ⟨⟨rfl, rfl⟩, k⟩, ?_, fun _ => e⟩
      omega
    · exact ⟨0, 0, fun h => absurd h e, by omega, fun h => by omega⟩
  obtain ⟨A, hA⟩ : ∃ z, plN x y p0 = z := ⟨_, rfl⟩
  obtain ⟨B, hB⟩ : ∃ z, plN x y p1 = z := ⟨_, rfl⟩
  have AI := plN_in (x := x) (y := y) p0 hp.1.2
  have BI := plN_in (x := x) (y := y) p1 hp.1.2
  rw [hA] at AI
  rw [hB] at BI
  obtain ⟨lo, hlo⟩ : ∃ z, min A B = z := ⟨_, rfl⟩
  obtain ⟨hi, hhi⟩ : ∃ z, max A B = z := ⟨_, rfl⟩
  obtain ⟨c, hc⟩ : ∃ z, plN lo (hi - 1) p2 = z := ⟨_, rfl⟩
  have LH : (x ≤ lo ∧ lo ≤ hi) ∧ hi ≤ y := by omega
  have CI : lo < hi → lo ≤ c ∧ c < hi := fun l => by
    have := plN_in (x := lo) (y := hi - 1) p2 (by omega)
    omega
  have CY : x ≤ c ∧ c ≤ y := by
    by_cases l : lo < hi
    · have := CI l; omega
    · have := plN_one (x := lo) (y := hi - 1) p2 (by omega); omega
  have VAL : lo < hi → wb = false ∧ k1 = true ∧ k2 = true := fun l => hval (by omega)
  have V1 : k2 = true → (plcQ rs).1 = x ∧ (plcQ rs).2 = y → ∀ c d, x ≤ c → c ≤ d → d ≤ y → ∃ v1 v2, valueQ rs c d = (v1, v2, 0) ∧ (0 ≤ v1 ∧ v1 ≤ v2) ∧ v2 ≤ 1000000 := fun e q c d h0 h1 h2 =>
    value_within (GO e).t1 (GO e).y1 h1 (by rw [q.1]; exact h0) (by rw [q.2]; exact h2)
  have V2 : k2 = true → (plcQ rs).1 = x ∧ (plcQ rs).2 = y → ∀ c d, x ≤ c → c ≤ d → d ≤ y → ∃ v1 v2, valueQ fs c d = (v1, v2, 0) ∧ (1 ≤ v1 ∧ v1 ≤ v2) ∧ v2 ≤ 20000 := fun e q c d h0 h1 h2 => by
    have pl : plcQ rs = plcQ fs := (GO e).pl
    exact value_within (GO e).t2 (GO e).y2 h1 (by rw [← pl, q.1]; exact h0) (by rw [← pl, q.2]; exact h2)
  obtain ⟨u1, hu1⟩ : ∃ z, (valueQ rs c c).1 = z := ⟨_, rfl⟩
  obtain ⟨u2, hu2⟩ : ∃ z, (valueQ rs c c).2.1 = z := ⟨_, rfl⟩
  obtain ⟨x1, hx1⟩ : ∃ z, (valueQ fs c c).1 = z := ⟨_, rfl⟩
  obtain ⟨x2, hx2⟩ : ∃ z, (valueQ fs c c).2.1 = z := ⟨_, rfl⟩
  have U : wb = false ∧ k1 = true ∧ k2 = true → valueQ rs c c = (u1, u2, 0) ∧ (0 ≤ u1 ∧ u1 ≤ u2) ∧ u2 ≤ 1000000 := fun e => by
    obtain ⟨v1, v2, hv, vb⟩ := V1 e.2.2 (hxy e).1 c c CY.1 (Int.le_refl _) CY.2
    rw [hv] at hu1 hu2
    simp only at hu1 hu2
    subst hu1 hu2
    exact ⟨hv, vb⟩
  have F : wb = false ∧ k1 = true ∧ k2 = true → valueQ fs c c = (x1, x2, 0) ∧ (1 ≤ x1 ∧ x1 ≤ x2) ∧ x2 ≤ 20000 := fun e => by
    obtain ⟨v1, v2, hv, vb⟩ := V2 e.2.2 (hxy e).1 c c CY.1 (Int.le_refl _) CY.2
    rw [hv] at hx1 hx2
    simp only at hx1 hx2
    subst hx1 hx2
    exact ⟨hv, vb⟩
  obtain ⟨V, hV⟩ : ∃ z, plN (max 0 (u1 - off)) (u2 + off) t.r = z := ⟨_, rfl⟩
  have GZ : k2 = true → ∀ k, k < zs.length → grOk (zs.getD k (0, 0)) = true := fun e k hk => List.all_eq_true.1 (GO e).zs _ (by simp [hk])
  have W32 : sw.toNat % 32 < 32 := by omega
  have wv := and31 ⟨sw.toNat, by omega⟩
  simp only at wv
  rw [show ((sw.toNat : Nat) : Int) = sw by omega] at wv
  have R := usaN_runs (fun k => wantQ (psQ ⟨s, a0, b0, a1, b1, a2, b2, a3, b3⟩ ⟨rs, off, zs, fs⟩ k (k + 1)) ((sw.toNat % 32 : Nat) : Int) zs.length) x (y - x).toNat
  have hL := usaN_len (fun k => wantQ (psQ ⟨s, a0, b0, a1, b1, a2, b2, a3, b3⟩ ⟨rs, off, zs, fs⟩ k (k + 1)) ((sw.toNat % 32 : Nat) : Int) zs.length) x (y - x).toNat
  rw [show x + (((y - x).toNat : Nat) : Int) = y by omega] at R
  have PRN : ∀ W q1 c1 q2 c2 q3 c3 c d, (IsPairs W q1 rs ∧ IsPairs W q2 zs ∧ IsPairs W q3 fs) → wb = false ∧ k1 = true ∧ k2 = true → x ≤ c → c < d → d ≤ y → ∀ W', Below W.heap.size W W' → Calls Tryz.prog 74 #[.agg #[.int .i64 s, .int .i64 a0, .int .i64 b0, .int .i64 a1, .int .i64 b1, .int .i64 a2, .int .i64 b2, .int .i64 a3, .int .i64 b3], .agg #[.slice q1 rs.length c1, .int .i64 off, .slice q2 zs.length c2, .slice q3 fs.length c3], .int .i64 c, .int .i64 d] W' (PrPost W' zs.length (psQ ⟨s, a0, b0, a1, b1, a2, b2, a3, b3⟩ ⟨rs, off, zs, fs⟩ c d)) := by
    intro W q1 c1 q2 c2 q3 c3 c d hP e h0 h1 h2 W' hb
    have g := GO e.2.2
    have l1 := (len_of g.t1).2
    have l2 := (len_of g.t2).2
    simp only at l1 l2
    obtain ⟨v1, v2, hv, vb⟩ := V1 e.2.2 (hxy e).1 c d h0 (by omega) h2
    obtain ⟨f1, f2, hf, fb⟩ := V2 e.2.2 (hxy e).1 c d h0 (by omega) h2
    refine printed_go s a0 b0 a1 b1 a2 b2 a3 b3 off c d v1 v2 f1 f2 rs zs fs q1 q2 q3 c1 c2 c3 (psQ ⟨s, a0, b0, a1, b1, a2, b2, a3, b3⟩ ⟨rs, off, zs, fs⟩ c d) W' (hk1.trans e.2.1) (hide g.zs) g.z1 ⟨l1, l2⟩ g.o0 g.o1 (hide hv) (hide hf) (by omega) fb (hide fun j => ?_) (gr_later ⟨⟨hP.1, hP.2.1⟩, hP.2.2⟩ hb)
    unfold psQ
    simp only [hv, hf]
  refine defectSlices_go s a0 b0 a1 b1 a2 b2 a3 b3 off x y A B lo hi c V sw ((sw.toNat % 32 : Nat) : Int) u1 u2 x1 x2 (mdlE ⟨s, a0, b0, a1, b1, a2, b2, a3, b3⟩) (grwE ⟨rs, off, zs, fs⟩) p0 p1 p2 t.t0 t.t1 t.t2 t.t3 t.r t.g rs zs fs (usaN (fun k => wantQ (psQ ⟨s, a0, b0, a1, b1, a2, b2, a3, b3⟩ ⟨rs, off, zs, fs⟩ k (k + 1)) ((sw.toNat % 32 : Nat) : Int) zs.length) x (y - x).toNat) ra za fa rc zc fc (rs.length - 1)
    (psQ ⟨s, a0, b0, a1, b1, a2, b2, a3, b3⟩ ⟨rs, off, zs, fs⟩ lo hi) (psQ ⟨s, a0, b0, a1, b1, a2, b2, a3, b3⟩ ⟨rs, off, zs, fs⟩ c (c + 1)) (fun k => inT ⟨s, a0, b0, a1, b1, a2, b2, a3, b3⟩ t (max 0 (min 1000000 V)) (max 1 (min 1000000 (mulDivQ (plN (zs.getD k (0, 0)).1 (zs.getD k (0, 0)).2 t.g) x1 10000 3).1)) 4) (fun k => plN (zs.getD k (0, 0)).1 (zs.getD k (0, 0)).2 t.g) (fun k => (mulDivQ (plN (zs.getD k (0, 0)).1 (zs.getD k (0, 0)).2 t.g) x1 10000 3).1) (fun k => (mulDivQ (plN (zs.getD k (0, 0)).1 (zs.getD k (0, 0)).2 t.g) x1 10000 3).2.1) wb k1 k2 w
    (hide h.1.1) (hide h.1.2) (hide fun _ _ e => ⟨(GO e).z0, (GO e).z1⟩) (hide fun W => ?_) (hide fun W => checkModel_any ⟨s, a0, b0, a1, b1, a2, b2, a3, b3⟩ W) (hide (by unfold mdlE; rw [hk1])) (hide (by unfold grwE; rw [hk2])) (hide fun e W hb => ?_) (hide fun e W q1 c1 q2 c2 q3 c3 hP => ?_)
    (hide fun W => ?_) (hide fun W => ?_) (hide ⟨hlo, hhi⟩) (hide fun _ _ _ => ⟨LH.1.1, LH.2⟩) (hide CI) (hide fun l W q1 c1 q2 c2 q3 c3 q4 hP hI => ?_) (hide fun l W q1 c1 q2 c2 q3 c3 q4 hP hI => ?_) (hide fun l W => ?_)
    (hide fun e e1 e2 => ⟨⟨(GO e2).o0, (GO e2).o1⟩, (U ⟨e, e1, e2⟩).2⟩) (hide fun l W hb => ?_) (hide fun l W hb => ?_) (hide fun l W => ?_)
    (hide fun l k hk W => ?_) (hide fun l k hk W => ?_) (hide fun l k hk W => ?_) (hide fun l k hk => ?_)
    (hide wv) (hide fun l W q1 c1 q2 c2 q3 c3 hP => ?_) (hide fun l => ⟨R.1, by omega⟩) (hide fun l => ?_) (hide fun e e1 e2 => ?_)
  · have c := wide_any rs zs fs off ra za fa rc zc fc W
    rwa [hwb] at c
  · have l := LE e
    exact own_any rs zs fs off ra za fa rc zc fc W (hide (by omega)) (hide NR) (hide NZ) (hide NF) (hide (pairs_later h.1.1 hb)) (hide (pairs_later h.1.2 hb)) (hide (pairs_later h.2 hb))
  · have l := LE e
    exact checkGrowth_any ⟨rs, off, zs, fs⟩ ⟨q1, c1, q2, c2, q3, c3⟩ W ⟨⟨by simp only; omega, by simp only; omega⟩, by simp only; omega⟩ ⟨⟨hP.1, hP.2.1⟩, hP.2.2⟩
  · have c := place_any x y p0 W (by omega) hp0.1 hp0.2
    rwa [hA] at c
  · have c := place_any x y p1 W (by omega) hp1.1 hp1.2
    rwa [hB] at c
  · have e := VAL l
    have q := (hxy e).1
    exact print_go s a0 b0 a1 b1 a2 b2 a3 b3 off lo hi rs zs fs q1 q2 q3 c1 c2 c3 q4 2 (psQ ⟨s, a0, b0, a1, b1, a2, b2, a3, b3⟩ ⟨rs, off, zs, fs⟩ lo hi) W (hk1.trans e.2.1) (GO e.2.2) ⟨⟨hP.1, hP.2.1⟩, hP.2.2⟩ hI (by rw [q.1]; omega) l (by rw [q.2]; omega) (hide fun W' hb => PRN W q1 c1 q2 c2 q3 c3 lo hi hP e (by omega) l (by omega) W' hb)
  · have e := VAL l
    have q := (hxy e).1
    have ci := CI l
    exact print_go s a0 b0 a1 b1 a2 b2 a3 b3 off c (c + 1) rs zs fs q1 q2 q3 c1 c2 c3 q4 2 (psQ ⟨s, a0, b0, a1, b1, a2, b2, a3, b3⟩ ⟨rs, off, zs, fs⟩ c (c + 1)) W (hk1.trans e.2.1) (GO e.2.2) ⟨⟨hP.1, hP.2.1⟩, hP.2.2⟩ hI (by rw [q.1]; omega) (by omega) (by rw [q.2]; omega) (hide fun W' hb => PRN W q1 c1 q2 c2 q3 c3 c (c + 1) hP e (by omega) (by omega) (by omega) W' hb)
  · have d := place_any lo (hi - 1) p2 W (by omega) hp2.1 hp2.2
    rwa [hc] at d
  · have e := VAL l
    have l1 := (len_of (GO e.2.2).t1).2
    simp only at l1
    have d := value_any rs ra rc c c W (by omega) (pairs_later h.1.1 hb)
    rwa [(U e).1] at d
  · have e := VAL l
    have l1 := (len_of (GO e.2.2).t2).2
    simp only at l1
    have d := value_any fs fa fc c c W (by omega) (pairs_later h.2 hb)
    rwa [(F e).1] at d
  · have e := VAL l
    have u := (U e).2
    have o0 : 0 ≤ off := (GO e.2.2).o0
    have o1 : off ≤ 1000000 := (GO e.2.2).o1
    have d := place_any (max 0 (u1 - off)) (u2 + off) t.r W (by omega) ht.2.1.1 ht.2.1.2
    rwa [hV] at d
  · have e := VAL l
    have g := GZ e.2.2 k hk
    simp only [grOk, rgOk, Bool.and_eq_true, decide_eq_true_eq] at g
    exact place_any _ _ t.g W (by omega) ht.2.2.1 ht.2.2.2
  · have e := VAL l
    have g := GZ e.2.2 k hk
    simp only [grOk, rgOk, Bool.and_eq_true, decide_eq_true_eq] at g
    have p := plN_in (x := (zs.getD k (0, 0)).1) (y := (zs.getD k (0, 0)).2) t.g (by omega)
    have f := (F e).2
    have d := mulDiv_any (plN (zs.getD k (0, 0)).1 (zs.getD k (0, 0)).2 t.g) x1 10000 3 W
    rwa [(mul_near (a := plN (zs.getD k (0, 0)).1 (zs.getD k (0, 0)).2 t.g) (b := x1) (by omega) (by omega) (by omega) (by omega)).2.2] at d
  · have e := VAL l
    exact region_any ⟨s, a0, b0, a1, b1, a2, b2, a3, b3⟩ t _ _ W (mdlOk_of (hk1.trans e.2.1)) ht (by omega) (by omega)
  · have e := VAL l
    have ci := CI l
    have q := (hxy e).1
    have g := GO e.2.2
    have gz := GZ e.2.2 k hk
    have hm := mdlOk_of (hk1.trans e.2.1)
    have u := U e
    have f := F e
    obtain ⟨v1, v2, hv, vb⟩ := V1 e.2.2 q c (c + 1) (by omega) (by omega) (by omega)
    obtain ⟨f1, f2, hf, fb⟩ := V2 e.2.2 q c (c + 1) (by omega) (by omega) (by omega)
    obtain ⟨n1, n2, hn, nb⟩ := V1 e.2.2 q lo hi (by omega) (by omega) (by omega)
    obtain ⟨o1, o2, ho, ob⟩ := V2 e.2.2 q lo hi (by omega) (by omega) (by omega)
    have pl : plcQ rs = plcQ fs := g.pl
    have qx0 : kX rs 0 = x := q.1
    have qy0 : kX rs (rs.length - 1) = y := q.2
    have fx0 : kX fs 0 = x := by have : (plcQ fs).1 = x := by rw [← pl]; exact q.1
                                 exact this
    have fy0 : kX fs (fs.length - 1) = y := by have : (plcQ fs).2 = y := by rw [← pl]; exact q.2
                                               exact this
    have s1 := val_sub (ks := rs) g.t1 (lo := c) (hi := c + 1) (lo' := c) (hi' := c) (by omega) (by omega) (by omega) (by omega) (by omega) hv u.1
    have s2 := val_sub (ks := fs) g.t2 (lo := c) (hi := c + 1) (lo' := c) (hi' := c) (by omega) (by omega) (by omega) (by omega) (by omega) hf f.1
    have s3 := val_sub (ks := rs) g.t1 (lo := lo) (hi := hi) (lo' := c) (hi' := c + 1) (by omega) (by omega) (by omega) (by omega) (by omega) hn hv
    have s4 := val_sub (ks := fs) g.t2 (lo := lo) (hi := hi) (lo' := c) (hi' := c + 1) (by omega) (by omega) (by omega) (by omega) (by omega) ho hf
    have o0 : 0 ≤ off := g.o0
    have T := slice_true hm t (v := (v1, v2)) (u := (u1, u2)) (f := (f1, f2)) (z := zs.getD k (0, 0)) (off := off) (x1 := x1) (b := t.r) (c := t.g) o0 s1.1 (by simp only; omega) (by simp only; omega) s1.2 (by simp only; omega) s2.1 (by simp only; omega) (by simp only; omega) gz
    have S := slice_sub hm (v := (n1, n2)) (u := (v1, v2)) (f := (o1, o2)) (x := (f1, f2)) (z := zs.getD k (0, 0)) (off := off) o0 s3.1 (by simp only; omega) s3.2 (by simp only; omega) s4.1 (by simp only; omega) s4.2 gz
    simp only at T
    rw [hV] at T
    have k5 := inT_le ⟨s, a0, b0, a1, b1, a2, b2, a3, b3⟩ t (max 0 (min 1000000 V)) (max 1 (min 1000000 (mulDivQ (plN (zs.getD k (0, 0)).1 (zs.getD k (0, 0)).2 t.g) x1 10000 3).1)) 4
    refine ⟨by omega, ?_, ?_⟩
    · have b := bit_is ⟨psQ ⟨s, a0, b0, a1, b1, a2, b2, a3, b3⟩ ⟨rs, off, zs, fs⟩ c (c + 1) k, setN_lt _ 5⟩ ⟨inT ⟨s, a0, b0, a1, b1, a2, b2, a3, b3⟩ t (max 0 (min 1000000 V)) (max 1 (min 1000000 (mulDivQ (plN (zs.getD k (0, 0)).1 (zs.getD k (0, 0)).2 t.g) x1 10000 3).1)) 4, by omega⟩
      simp only at b
      rw [b]
      have e2 : psQ ⟨s, a0, b0, a1, b1, a2, b2, a3, b3⟩ ⟨rs, off, zs, fs⟩ c (c + 1) k = regN ⟨s, a0, b0, a1, b1, a2, b2, a3, b3⟩ (rateQ (v1, v2) off) (gradQ (f1, f2) (zs.getD k (0, 0))) := by unfold psQ; simp only [hv, hf]
      rw [e2, T]
      rfl
    · have e2 : psQ ⟨s, a0, b0, a1, b1, a2, b2, a3, b3⟩ ⟨rs, off, zs, fs⟩ c (c + 1) k = regN ⟨s, a0, b0, a1, b1, a2, b2, a3, b3⟩ (rateQ (v1, v2) off) (gradQ (f1, f2) (zs.getD k (0, 0))) := by unfold psQ; simp only [hv, hf]
      have e3 : psQ ⟨s, a0, b0, a1, b1, a2, b2, a3, b3⟩ ⟨rs, off, zs, fs⟩ lo hi k = regN ⟨s, a0, b0, a1, b1, a2, b2, a3, b3⟩ (rateQ (n1, n2) off) (gradQ (o1, o2) (zs.getD k (0, 0))) := by unfold psQ; simp only [hn, ho]
      rw [e2, e3]
      exact S
  · have e := VAL l
    have g := GO e.2.2
    have q := (hxy e).1
    exact usable_go s a0 b0 a1 b1 a2 b2 a3 b3 off ((sw.toNat % 32 : Nat) : Int) x y rs zs fs q1 q2 q3 c1 c2 c3 (fun k => psQ ⟨s, a0, b0, a1, b1, a2, b2, a3, b3⟩ ⟨rs, off, zs, fs⟩ k (k + 1)) _ W (hk1.trans e.2.1) g ⟨⟨hP.1, hP.2.1⟩, hP.2.2⟩ (by omega) q.1 q.2 hp.1.2 hp.1.1 hp.2 (hide fun k => rfl) (hide fun W' k h0 h1 hb => PRN W q1 c1 q2 c2 q3 c3 k (k + 1) hP e h0 (by omega) (by omega) W' hb)
  · have ci := CI l
    rw [R.2 c, decide_eq_true (show x ≤ c by omega), decide_eq_true (show c < y by omega)]
    simp
  · have e' : wb = false ∧ k1 = true ∧ k2 = true := ⟨e, e1, e2⟩
    have q := hxy e'
    have l := len_of (GO e2).t1
    simp only at l
    exact ⟨by omega, ⟨q.1.1, q.1.2⟩, ⟨hp.1.1, q.2⟩, hp.2⟩
end Go.Proofs.YtimfbjnpalgmcaaGreat
