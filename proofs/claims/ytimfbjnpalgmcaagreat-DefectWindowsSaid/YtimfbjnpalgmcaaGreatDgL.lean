/-
  defect: growths. defect: what is printed between two places. defect: printed.
-/
import Derived.Test.YtimfbjnpalgmcaaGreatDgI
import Derived.Test.YtimfbjnpalgmcaaGreatPiece
import Derived.Test.YtimfbjnpalgmcaaGreatVal
import Derived.Test.YtimfbjnpalgmcaaGreatApp
import Derived.Deep.OwnRows
import Derived.StillTailTactics
namespace Go.Proofs.YtimfbjnpalgmcaaGreat
set_option linter.unusedSimpArgs false
set_option linter.unusedVariables false
open Go.RowKit

def yIn (lo hi : Int) (k : Int × Int) : Bool := decide (lo ≤ k.2) && decide (k.2 ≤ hi)
set_option maxHeartbeats 1600000 in
theorem defTable_any (ks : List (Int × Int)) (lo hi : Int) (a : Option Addr) (cap : Nat) (w : World) (hl : ks.length ≤ 8796093022208) (h : IsPairs w a ks) :
    Calls Tryz.prog 125 #[.slice a ks.length cap, .agg #[.int .i64 lo, .int .i64 hi]] w fun e w' => e = .returned (.bool (tabOk ks && ks.all (yIn lo hi))) ∧ Below w.heap.size w w' := by
  have CT := hide (fun W g => checkTable_any ks a cap W hl g)
  have HI := hide h
  clear h
  obtain ⟨u, hu⟩ : ∃ u, (tabOk ks && ks.all (yIn lo hi)) = u := ⟨_, rfl⟩
  rw [hu]
  cases ht : tabOk ks with
  | false =>
    rw [ht] at hu CT
    obtain rfl : false = u := by rw [← hu]; rfl
    have CF := hide (fun W g => (show Calls Tryz.prog 151 #[.slice a ks.length cap] W fun e w' => e = .returned (.int .i64 2) ∧ Below W.heap.size W w' from CT.out W g))
    clear hu CT ht
    go_enter Tryz.func125, Tryz.ntmps125
    go_wp2_with fail
    refine (CF.out _ (pairs_later HI.out (by repeat (first | exact Below.refl _ _ | assumption | apply balloc | apply bdrew | (refine below_drewN ?_ _) | (refine bset ?_ (by first | (simp; done) | omega | (simp; omega)) _) | (refine bnext ?_ (by assumption)))))).mono ?_
    rintro e w1 ⟨rfl, hb1⟩
    go_wp2_with fail
    go_ret
    exact ⟨rfl, (by repeat (first | exact Below.refl _ _ | assumption | apply balloc | apply bdrew | (refine below_drewN ?_ _) | (refine bset ?_ (by first | (simp; done) | omega | (simp; omega)) _) | (refine bnext ?_ (by assumption))))⟩
  | true =>
    rw [ht] at hu CT
    have CF := hide (fun W g => (show Calls Tryz.prog 151 #[.slice a ks.length cap] W fun e w' => e = .returned (.int .i64 0) ∧ Below W.heap.size W w' from CT.out W g))
    have HU := hide (show ks.all (yIn lo hi) = u by rw [← hu]; rfl)
    clear hu CT ht
    go_enter Tryz.func125, Tryz.ntmps125
    go_wp2_with fail
    refine (CF.out _ (pairs_later HI.out (by repeat (first | exact Below.refl _ _ | assumption | apply balloc | apply bdrew | (refine below_drewN ?_ _) | (refine bset ?_ (by first | (simp; done) | omega | (simp; omega)) _) | (refine bnext ?_ (by assumption)))))).mono ?_
    rintro e w1 ⟨rfl, hb1⟩
    have l0 := hide (later hb1 (show (w.alloc (.cells #[.int .i64 lo, .int .i64 hi] 23)).cell? ⟨w.heap.size, 0, none⟩ = some (.int .i64 lo) from (by simp [go_sem, World.cell?_alloc_past])))
    have l1 := hide (later hb1 (show (w.alloc (.cells #[.int .i64 lo, .int .i64 hi] 23)).cell? ⟨w.heap.size, 1, none⟩ = some (.int .i64 hi) from (by simp [go_sem, World.cell?_alloc_past])))
    have B1 := hide (show Below w.heap.size w w1 from (by repeat (first | exact Below.refl _ _ | assumption | apply balloc | apply bdrew | (refine below_drewN ?_ _) | (refine bset ?_ (by first | (simp; done) | omega | (simp; omega)) _) | (refine bnext ?_ (by assumption)))))
    clear hb1
    go_wp2_with fail
    go_loopw [12] (fun i wr => ∃ k : Nat, k ≤ ks.length ∧ i = .int .i64 (k : Int) ∧ Hid ((ks.take k).all (yIn lo hi) = true) ∧ Below w1.heap.size w1 wr) (fun i _ => ks.length - (intOf i).toNat)
    case atStart => exact ⟨0, by omega, rfl, rfl, Below.refl _ _⟩
    case round =>
      obtain ⟨k, hk, rfl, hall, hbw⟩ := hrel
      by_cases hlt : k < ks.length
      · obtain ⟨b, off, rfl, hc⟩ : ∃ b off, a = some ⟨b, off, none⟩ ∧ ∀ i, i < ks.length → wr.cell? ⟨b, off + i * 2, none⟩ = some (.int .i64 (ks.getD i (0, 0)).1) ∧ wr.cell? ⟨b, off + i * 2 + 1, none⟩ = some (.int .i64 (ks.getD i (0, 0)).2) := by
          rcases pairs_later HI.out (bnext B1.out hbw) with h | h
          · subst h; simp at hlt
          · exact h
        obtain ⟨c1, c2⟩ := hc k hlt
        clear hc
        have S1 := hide (all_step (f := yIn lo hi) (d := (0, 0)) hlt hall.out)
        have S2 := hide (all_stop (f := yIn lo hi) (l := ks) (d := (0, 0)) hlt)
        generalize ks.getD k (0, 0) = z at *
        obtain ⟨x, y⟩ := z
        simp only at c1 c2
        have k0 : 0 ≤ (k : Int) := by omega
        have k1 : (k : Int) < ks.length := by omega
        have G := hide (show yIn lo hi (x, y) = (decide (lo ≤ y) && decide (y ≤ hi)) from rfl)
        have m0 := fun o => later (balloc (o := o) (Below.refl _ _)) (later hbw l0.out)
        have m1 := fun o => later (balloc (o := o) (Below.refl _ _)) (later hbw l1.out)
        clear hall
        by_cases g1 : y < lo
        · have d1 : decide (y < lo) = true := decide_eq_true g1
          have E := hide (show u = false by rw [← HU.out]; exact S2.out (by rw [G.out, decide_eq_false (show ¬ lo ≤ y by omega)]; rfl))
          clear g1
          go_wp2_with fail
          go_ret
          exact ⟨ret_bool E.out.symm, balloc (bnext B1.out hbw)⟩
        · have d1 : decide (y < lo) = false := decide_eq_false g1
          by_cases g2 : hi < y
          · have d2 : decide (hi < y) = true := decide_eq_true g2
            have E := hide (show u = false by rw [← HU.out]; exact S2.out (by rw [G.out, decide_eq_false (show ¬ y ≤ hi by omega)]; simp))
            clear g1 g2
            go_wp2_with fail
            go_ret
            exact ⟨ret_bool E.out.symm, balloc (bnext B1.out hbw)⟩
          · have d2 : decide (hi < y) = false := decide_eq_false g2
            have E := hide (S1.out (by rw [G.out, decide_eq_true (show lo ≤ y by omega), decide_eq_true (show y ≤ hi by omega)]; rfl))
            clear g1 g2
            go_wp2_with fail
            go_roundw
            case rel => exact ⟨k + 1, by omega, by go_num, E, balloc hbw⟩
            case measure => simp [intOf]; omega
      · have E := hide (show u = true by rw [← HU.out]; exact all_end hlt hall.out)
        go_wp2_with fail
        go_ret
        exact ⟨ret_bool E.out.symm, bnext B1.out hbw⟩

/-- The first and the last place of a table. -/
def plcQ (ks : List (Int × Int)) : Int × Int := ((ks.getD 0 (0, 0)).1, (ks.getD (ks.length - 1) (0, 0)).1)
set_option maxHeartbeats 1600000 in
theorem places_any (ks : List (Int × Int)) (m : Nat) (a : Option Addr) (cap : Nat) (w : World) (hm : ks.length = m + 1) (hl : ks.length ≤ 8796093022208) (h : IsPairs w a ks) :
    Calls Tryz.prog 73 #[.slice a ks.length cap] w fun e w' => e = .returned (.agg #[.int .i64 (plcQ ks).1, .int .i64 (plcQ ks).2]) ∧ Below w.heap.size w w' := by
  obtain ⟨b, off, rfl, hc⟩ : ∃ b off, a = some ⟨b, off, none⟩ ∧ ∀ i, i < ks.length → w.cell? ⟨b, off + i * 2, none⟩ = some (.int .i64 (ks.getD i (0, 0)).1) ∧ w.cell? ⟨b, off + i * 2 + 1, none⟩ = some (.int .i64 (ks.getD i (0, 0)).2) := by
    rcases h with h | h
    · rw [h] at hm; simp at hm
    · exact h
  have c0 := (hc 0 (by omega)).1
  have c1 := (hc m (by omega)).1
  obtain ⟨x, hx⟩ : ∃ x, (plcQ ks).1 = x := ⟨_, rfl⟩
  obtain ⟨y, hy⟩ : ∃ y, (plcQ ks).2 = y := ⟨_, rfl⟩
  have e0 : (ks.getD 0 (0, 0)).1 = x := hx
  have e1 : (ks.getD m (0, 0)).1 = y := by rw [← hy, plcQ, show ks.length - 1 = m by omega]
  rw [e0] at c0
  simp only [Nat.zero_mul, Nat.add_zero] at c0
  rw [e1] at c1
  rw [hx, hy]
  have d0 := fun o => later (balloc (o := o) (Below.refl _ _)) c0
  have d1 := fun o => later (balloc (o := o) (Below.refl _ _)) c1
  have hlm : m + 1 ≤ 8796093022208 := by omega
  rw [hm]
  clear hc e0 e1 hx hy h hm hl
  have m0 : (0 : Int) ≤ (m : Int) := by omega
  have m1 : (m : Int) < (m : Int) + 1 := by omega
  have m2 : (0 : Int) < (m : Int) + 1 := by omega
  have m3 : IntKind.wrap .i64 (((m + 1 : Nat) : Int) - 1) = (m : Int) := by rw [show (((m + 1 : Nat) : Int) - 1) = (m : Int) by omega]; exact IntWalk.i64_in _ (by omega)
  go_enter Tryz.func73, Tryz.ntmps73
  go_upto_region 1 with fail
  go_big_region
  go_wp2_with fail
  exact bodyPost_ret (v := .agg #[.int .i64 x, .int .i64 y]) (by simp [results, Tryz.results73, go_sem]) rfl ⟨rfl, (by repeat (first | exact Below.refl _ _ | assumption | apply balloc | apply bdrew | (refine below_drewN ?_ _) | (refine bset ?_ (by first | (simp; done) | omega | (simp; omega)) _) | (refine bnext ?_ (by assumption))))⟩

/-- A growth. -/
structure Gr where
  rs : List (Int × Int)
  off : Int
  zs : List (Int × Int)
  fs : List (Int × Int)
/-- Where a growth's lists lie. -/
structure GrA where
  ra : Option Addr
  rc : Nat
  za : Option Addr
  zc : Nat
  fa : Option Addr
  fc : Nat
def grwOk (g : Gr) : Bool := (tabOk g.rs && g.rs.all (yIn 0 1000000)) && ((tabOk g.fs && g.fs.all (yIn 1 20000)) && (decide (plcQ g.rs = plcQ g.fs) && (rgOk 3000 (plcQ g.rs) && ((decide (0 ≤ g.off) && decide (g.off ≤ 1000000)) && ((decide (1 ≤ g.zs.length) && decide (g.zs.length ≤ 20)) && g.zs.all grOk)))))
def IsGr (w : World) (g : Gr) (p : GrA) : Prop := (IsPairs w p.ra g.rs ∧ IsPairs w p.za g.zs) ∧ IsPairs w p.fa g.fs
theorem gr_later {w W : World} {g : Gr} {p : GrA} (h : IsGr w g p) (hb : Below w.heap.size w W) : IsGr W g p := ⟨⟨pairs_later h.1.1 hb, pairs_later h.1.2 hb⟩, pairs_later h.2 hb⟩
def grV (g : Gr) (p : GrA) : Value := .agg #[.slice p.ra g.rs.length p.rc, .int .i64 g.off, .slice p.za g.zs.length p.zc, .slice p.fa g.fs.length p.fc]
def GrAt (W : World) (q : Nat) (g : Gr) (p : GrA) : Prop := (W.cell? ⟨q, 0, none⟩ = some (.slice p.ra g.rs.length p.rc) ∧ W.cell? ⟨q, 1, none⟩ = some (.int .i64 g.off)) ∧ (W.cell? ⟨q, 2, none⟩ = some (.slice p.za g.zs.length p.zc) ∧ W.cell? ⟨q, 3, none⟩ = some (.slice p.fa g.fs.length p.fc))
theorem grAt_later {w W : World} {q : Nat} {g : Gr} {p : GrA} (h : GrAt w q g p) (hb : Below w.heap.size w W) : GrAt W q g p := ⟨⟨later hb h.1.1, later hb h.1.2⟩, later hb h.2.1, later hb h.2.2⟩
theorem grAt_new (w : World) (g : Gr) (p : GrA) (T : TypeId) : GrAt (w.alloc (.cells #[.slice p.ra g.rs.length p.rc, .int .i64 g.off, .slice p.za g.zs.length p.zc, .slice p.fa g.fs.length p.fc] T)) w.heap.size g p := by
  refine ⟨⟨?_, ?_⟩, ?_, ?_⟩ <;> exact (by simp [go_sem, World.cell?_alloc_past])
/-- What is known of a valid growth. -/
structure GrwOk (g : Gr) : Prop where
  t1 : tabOk g.rs = true
  y1 : g.rs.all (yIn 0 1000000) = true
  t2 : tabOk g.fs = true
  y2 : g.fs.all (yIn 1 20000) = true
  pl : plcQ g.rs = plcQ g.fs
  pr : rgOk 3000 (plcQ g.rs) = true
  o0 : 0 ≤ g.off
  o1 : g.off ≤ 1000000
  z0 : 1 ≤ g.zs.length
  z1 : g.zs.length ≤ 20
  zs : g.zs.all grOk = true
theorem grwOk_of {g : Gr} (h : grwOk g = true) : GrwOk g := by
  unfold grwOk at h
  simp only [Bool.and_eq_true, decide_eq_true_eq] at h
  obtain ⟨⟨h1, h2⟩, ⟨h3, h4⟩, h5, h6, ⟨h7, h8⟩, ⟨h9, h10⟩, h11⟩ := h
  exact ⟨h1, h2, h3, h4, h5, h6, h7, h8, h9, h10, h11⟩

set_option maxRecDepth 100000 in
set_option maxHeartbeats 6400000 in
theorem isGrowth_good (rs zs fs : List (Int × Int)) (off : Int) (ra za fa : Option Addr) (rc zc fc : Nat) (w : World) (hg : GrwOk ⟨rs, off, zs, fs⟩) (h : IsGr w ⟨rs, off, zs, fs⟩ ⟨ra, rc, za, zc, fa, fc⟩) :
    Calls Tryz.prog 78 #[.agg #[.slice ra rs.length rc, .int .i64 off, .slice za zs.length zc, .slice fa fs.length fc]] w fun e w' => e = .returned (.bool true) ∧ Below w.heap.size w w' := by
  obtain ⟨x, hx⟩ : ∃ x, (plcQ rs).1 = x := ⟨_, rfl⟩
  obtain ⟨y, hy⟩ : ∃ y, (plcQ rs).2 = y := ⟨_, rfl⟩
  have r2 := len_of hg.t1
  have f2 := len_of hg.t2
  have T1 := hide (fun W (hb : Below w.heap.size w W) => (show Calls Tryz.prog 125 #[.slice ra rs.length rc, .agg #[.int .i64 0, .int .i64 1000000]] W fun e w' => e = .returned (.bool true) ∧ Below W.heap.size W w' by
    have c := defTable_any rs 0 1000000 ra rc W (by simp only at r2; omega) (pairs_later h.1.1 hb)
    rwa [show (tabOk rs && rs.all (yIn 0 1000000)) = true by rw [hg.t1, hg.y1]; rfl] at c))
  have T2 := hide (fun W (hb : Below w.heap.size w W) => (show Calls Tryz.prog 125 #[.slice fa fs.length fc, .agg #[.int .i64 1, .int .i64 20000]] W fun e w' => e = .returned (.bool true) ∧ Below W.heap.size W w' by
    have c := defTable_any fs 1 20000 fa fc W (by simp only at f2; omega) (pairs_later h.2 hb)
    rwa [show (tabOk fs && fs.all (yIn 1 20000)) = true by rw [hg.t2, hg.y2]; rfl] at c))
  have P1 := hide (fun W (hb : Below w.heap.size w W) => (show Calls Tryz.prog 73 #[.slice ra rs.length rc] W fun e w' => e = .returned (.agg #[.int .i64 x, .int .i64 y]) ∧ Below W.heap.size W w' by
    rw [← hx, ← hy]; exact places_any rs (rs.length - 1) ra rc W (by simp only at r2; omega) (by simp only at r2; omega) (pairs_later h.1.1 hb)))
  have P2 := hide (fun W (hb : Below w.heap.size w W) => (show Calls Tryz.prog 73 #[.slice fa fs.length fc] W fun e w' => e = .returned (.agg #[.int .i64 x, .int .i64 y]) ∧ Below W.heap.size W w' by
    rw [← hx, ← hy, show plcQ rs = plcQ fs from hg.pl]; exact places_any fs (fs.length - 1) fa fc W (by simp only at f2; omega) (by simp only at f2; omega) (pairs_later h.2 hb)))
  have AR := hide (fun (W : World) (k : Nat) (h : IsPairs W (some ⟨k, 0, none⟩) [(x, y)]) => (show Calls Tryz.prog 82 #[.int .i64 3000, .slice (some ⟨k, 0, none⟩) 1 1] W fun e w' => e = .returned (.bool true) ∧ Below W.heap.size W w' by
    have c := areRanges_any 3000 (some ⟨k, 0, none⟩) 1 [(x, y)] W (by simp) h
    rwa [show [(x, y)].all (rgOk 3000) = true by rw [← hx, ← hy]; simpa using hg.pr] at c))
  have AG := hide (fun W (hb : Below w.heap.size w W) => (show Calls Tryz.prog 55 #[.slice za zs.length zc] W fun e w' => e = .returned (.bool true) ∧ Below W.heap.size W w' by
    have c := areGradients_any za zc zs W (by have := hg.z1; simp only at this; omega) (pairs_later h.1.2 hb)
    rwa [show zs.all grOk = true from hg.zs] at c))
  have TT := hide (fun W al n cp lo hi (hb : Below w.heap.size w W) (hz : (al = ra ∧ n = rs.length ∧ cp = rc ∧ lo = 0 ∧ hi = 1000000) ∨ (al = fa ∧ n = fs.length ∧ cp = fc ∧ lo = 1 ∧ hi = 20000)) => (show Calls Tryz.prog 125 #[.slice al n cp, .agg #[.int .i64 lo, .int .i64 hi]] W fun e w' => e = .returned (.bool true) ∧ Below W.heap.size W w' by
    rcases hz with ⟨rfl, rfl, rfl, rfl, rfl⟩ | ⟨rfl, rfl, rfl, rfl, rfl⟩
    · exact T1.out W hb
    · exact T2.out W hb))
  have PP := hide (fun W al n cp (hb : Below w.heap.size w W) (hz : (al = ra ∧ n = rs.length ∧ cp = rc) ∨ (al = fa ∧ n = fs.length ∧ cp = fc)) => (show Calls Tryz.prog 73 #[.slice al n cp] W fun e w' => e = .returned (.agg #[.int .i64 x, .int .i64 y]) ∧ Below W.heap.size W w' by
    rcases hz with ⟨rfl, rfl, rfl⟩ | ⟨rfl, rfl, rfl⟩
    · exact P1.out W hb
    · exact P2.out W hb))
  have o0 : 0 ≤ off := hg.o0
  have o1 : off ≤ 1000000 := hg.o1
  have z0 : 1 ≤ zs.length := hg.z0
  have z1 : zs.length ≤ 20 := hg.z1
  have e0 : decide (0 ≤ off) = true := decide_eq_true o0
  have e1 : decide (off ≤ 1000000) = true := decide_eq_true o1
  have e2 : decide ((1 : Int) ≤ (zs.length : Int)) = true := decide_eq_true (by omega)
  have e3 : decide ((zs.length : Int) ≤ 20) = true := decide_eq_true (by omega)
  clear hx hy r2 f2 hg h T1 T2 P1 P2
  go_enter Tryz.func78, Tryz.ntmps78
  go_upto_region 1 with fail
  obtain ⟨w0, hw0⟩ : ∃ z, z = w.alloc (.cells #[.slice ra rs.length rc, .int .i64 off, .slice za zs.length zc, .slice fa fs.length fc] 58) := ⟨_, rfl⟩
  rw [← hw0]
  have B0 := hide (show Below w.heap.size w w0 by rw [hw0]; exact (by repeat (first | exact Below.refl _ _ | assumption | apply balloc | apply bdrew | (refine below_drewN ?_ _) | (refine bset ?_ (by first | (simp; done) | omega | (simp; omega)) _) | (refine bnext ?_ (by assumption)))))
  have KP := hide (fun (W : World) (hb : Below w0.heap.size w0 W) => (show (W.cell? ⟨w.heap.size, 0, none⟩ = some (.slice ra rs.length rc) ∧ W.cell? ⟨w.heap.size, 1, none⟩ = some (.int .i64 off) ∧ W.cell? ⟨w.heap.size, 2, none⟩ = some (.slice za zs.length zc) ∧ W.cell? ⟨w.heap.size, 3, none⟩ = some (.slice fa fs.length fc)) ∧ Below w0.heap.size w0 W by
    refine ⟨⟨later hb ?_, later hb ?_, later hb ?_, later hb ?_⟩, hb⟩ <;> (rw [hw0]; exact (by simp [go_sem, World.cell?_alloc_past]))))
  clear hw0
  go_cut [2] from 3 (fun s2 wx => s2 = .bool true ∧ Below w0.heap.size w0 wx)
  case first => as_aux_lemma =>
    go_region_held3 (fun w' => (w'.cell? ⟨w.heap.size, 0, none⟩ = some (.slice ra rs.length rc) ∧ w'.cell? ⟨w.heap.size, 1, none⟩ = some (.int .i64 off) ∧ w'.cell? ⟨w.heap.size, 2, none⟩ = some (.slice za zs.length zc) ∧ w'.cell? ⟨w.heap.size, 3, none⟩ = some (.slice fa fs.length fc)) ∧ Below w0.heap.size w0 w')
      ((go_split_ands; refine KP.out _ ?_; exact (by repeat (first | exact Below.refl _ _ | assumption | apply balloc | apply bdrew | (refine below_drewN ?_ _) | (refine bset ?_ (by first | (simp; done) | omega | (simp; omega)) _) | (refine bnext ?_ (by assumption))))))
      (first
        | (go_at_call 125; refine (TT.out _ _ _ _ _ _ (bnext B0.out (by exact (by repeat (first | exact Below.refl _ _ | assumption | apply balloc | apply bdrew | (refine below_drewN ?_ _) | (refine bset ?_ (by first | (simp; done) | omega | (simp; omega)) _) | (refine bnext ?_ (by assumption)))))) (by simp)).mono ?_; first | (have hq := hbA; clear hq; rintro e wB ⟨rfl, hbB⟩) | (rintro e wA ⟨rfl, hbA⟩))
        | (go_at_call 82; refine (AR.out _ _ (pairs_one_of (by simp [go_sem, World.cell?_alloc_past]) (by simp [go_sem, World.cell?_alloc_past]))).mono ?_; rintro e wC ⟨rfl, hbC⟩)
        | (go_at_call 55; refine (AG.out _ (bnext B0.out (by exact (by repeat (first | exact Below.refl _ _ | assumption | apply balloc | apply bdrew | (refine below_drewN ?_ _) | (refine bset ?_ (by first | (simp; done) | omega | (simp; omega)) _) | (refine bnext ?_ (by assumption))))))).mono ?_; rintro e wD ⟨rfl, hbD⟩)
        | (go_at_call 73; refine (PP.out _ _ _ _ (bnext B0.out (by exact (by repeat (first | exact Below.refl _ _ | assumption | apply balloc | apply bdrew | (refine below_drewN ?_ _) | (refine bset ?_ (by first | (simp; done) | omega | (simp; omega)) _) | (refine bnext ?_ (by assumption)))))) (by simp)).mono ?_; first | (have hq := hbF; clear hq; rintro e wG ⟨rfl, hbG⟩) | (have hq := hbE; clear hq; rintro e wF ⟨rfl, hbF⟩) | (rintro e wE ⟨rfl, hbE⟩)))
    all_goals (go_wp2_with fail; go_meet; exact ⟨rfl, by first | (go_split_ands; assumption) | exact (by repeat (first | exact Below.refl _ _ | assumption | apply balloc | apply bdrew | (refine below_drewN ?_ _) | (refine bset ?_ (by first | (simp; done) | omega | (simp; omega)) _) | (refine bnext ?_ (by assumption))))⟩)
  case rest =>
    obtain ⟨rfl, hbw⟩ := hcut
    go_wp2
    go_ret
    exact ⟨rfl, bnext B0.out hbw⟩
end Go.Proofs.YtimfbjnpalgmcaaGreat

namespace Go.Proofs.YtimfbjnpalgmcaaGreat
set_option linter.unusedSimpArgs false
set_option linter.unusedVariables false
open Go.RowKit

/-- Two cuts. -/
theorem areCuts_two (c d lo hi : Int) (p : Nat) (cap : Nat) (w : World) (h : IsInts w (some ⟨p, 0, none⟩) [c, d]) (h1 : lo ≤ c) (h2 : c < d) (h3 : d ≤ hi) :
    Calls Tryz.prog 72 #[.slice (some ⟨p, 0, none⟩) 2 cap, .agg #[.int .i64 lo, .int .i64 hi]] w fun e w' => e = .returned (.bool true) ∧ Below w.heap.size w w' := by
  obtain ⟨c0, c1⟩ : w.cell? ⟨p, 0, none⟩ = some (.int .i64 c) ∧ w.cell? ⟨p, 1, none⟩ = some (.int .i64 d) := by
    rcases h with h | ⟨b, off, e, h⟩
    · simp at h
    · cases e
      exact ⟨by simpa using h 0 (by simp), by simpa using h 1 (by simp)⟩
  have k0 := fun o => later (balloc (o := o) (Below.refl _ _)) c0
  have k1 := fun o => later (balloc (o := o) (Below.refl _ _)) c1
  have d1 : decide (c < lo) = false := decide_eq_false (by omega)
  have d2 : decide (hi < c) = false := decide_eq_false (by omega)
  have d3 : decide (d < lo) = false := decide_eq_false (by omega)
  have d4 : decide (hi < d) = false := decide_eq_false (by omega)
  have d5 : decide (d ≤ c) = false := decide_eq_false (by omega)
  clear h h1 h2 h3
  go_enter Tryz.func72, Tryz.ntmps72
  go_wp2_with fail
  refine wp_loop_rounds 3 ?_
  rw [rounds_succ]
  go_wp2_with fail
  rw [rounds_succ]
  go_wp2_with fail
  rw [rounds_succ]
  go_wp2_with fail
  go_ret
  exact ⟨rfl, (by repeat (first | exact Below.refl _ _ | assumption | apply balloc | apply bdrew | (refine below_drewN ?_ _) | (refine bset ?_ (by first | (simp; done) | omega | (simp; omega)) _) | (refine bnext ?_ (by assumption))))⟩

/-- A number that is brought between two others. -/
def clampQ (lo hi n : Int) : Int := min (max n lo) hi
theorem clamp1_any (lo hi n : Int) (p : Nat) (w : World) (h0 : w.cell? ⟨p, 0, none⟩ = some (.int .i64 lo)) (h1 : w.cell? ⟨p, 1, none⟩ = some (.int .i64 hi)) :
    Calls Tryz.prog 145 #[.int .i64 n, .pointer (some ⟨p, 0, none⟩)] w fun e w' => e = .returned (.int .i64 (clampQ lo hi n)) ∧ w = w' := by
  obtain ⟨M, hM⟩ : ∃ M, max n lo = M := ⟨_, rfl⟩
  obtain ⟨R, hR⟩ : ∃ R, clampQ lo hi n = R := ⟨_, rfl⟩
  have m1 : (if n < lo then lo else n) = M := by rw [← hM]; split <;> omega
  have m2 : (if lo < n then n else lo) = M := by rw [← hM]; split <;> omega
  have m3 : (if hi < M then hi else M) = R := by rw [← hR, clampQ, hM]; split <;> omega
  have m4 : (if M < hi then M else hi) = R := by rw [← hR, clampQ, hM]; split <;> omega
  rw [hR]
  clear hM hR
  go_enter Tryz.func145, Tryz.ntmps145
  go_wp2_with fail
  go_ret
  exact ⟨rfl, rfl⟩
set_option maxRecDepth 100000 in
set_option maxHeartbeats 3200000 in
theorem clamped_any (a b lo hi : Int) (w : World) :
    Calls Tryz.prog 120 #[.agg #[.int .i64 a, .int .i64 b], .agg #[.int .i64 lo, .int .i64 hi]] w fun e w' => e = .returned (.agg #[.int .i64 (clampQ lo hi a), .int .i64 (clampQ lo hi b)]) ∧ Below w.heap.size w w' := by
  have CC := hide (fun (W : World) n (h0 : W.cell? ⟨w.heap.size + 1, 0, none⟩ = some (.int .i64 lo)) (h1 : W.cell? ⟨w.heap.size + 1, 1, none⟩ = some (.int .i64 hi)) => clamp1_any lo hi n (w.heap.size + 1) W h0 h1)
  have en := fun (caps : Array Value) (W : World) => (show (callFunc 145 caps).run Tryz.prog W = .ok (.enter 145 caps) W from enters_any Tryz.func145 (by kernel_rfl) rfl _ _)
  generalize hP : clampQ lo hi a = P at *
  generalize hQ : clampQ lo hi b = Q at *
  have HP := hide hP
  have HQ := hide hQ
  clear hP hQ
  go_enter Tryz.func120, Tryz.ntmps120
  go_upto_region 2 with fail
  obtain ⟨w0, hw0⟩ : ∃ z, z = ((w.alloc (.cells #[.int .i64 a, .int .i64 b] 23)).alloc (.cells #[.int .i64 lo, .int .i64 hi] 23)).alloc (.cells #[.int .i64 0, .int .i64 0] 23) := ⟨_, rfl⟩
  rw [← hw0]
  have B0 := hide (show Below w.heap.size w w0 by rw [hw0]; exact (by repeat (first | exact Below.refl _ _ | assumption | apply balloc | apply bdrew | (refine below_drewN ?_ _) | (refine bset ?_ (by first | (simp; done) | omega | (simp; omega)) _) | (refine bnext ?_ (by assumption)))))
  have a0 : w0.cell? ⟨w.heap.size, 0, none⟩ = some (.int .i64 a) := by rw [hw0]; exact (by simp [go_sem, World.cell?_alloc_past])
  have a1 : w0.cell? ⟨w.heap.size, 1, none⟩ = some (.int .i64 b) := by rw [hw0]; exact (by simp [go_sem, World.cell?_alloc_past])
  have b0 : w0.cell? ⟨w.heap.size + 1, 0, none⟩ = some (.int .i64 lo) := by rw [hw0]; exact (by simp [go_sem, World.cell?_alloc_past])
  have b1 : w0.cell? ⟨w.heap.size + 1, 1, none⟩ = some (.int .i64 hi) := by rw [hw0]; exact (by simp [go_sem, World.cell?_alloc_past])
  have z0 : w0.cell? ⟨w.heap.size + 1 + 1, 0, none⟩ = some (.int .i64 0) := by rw [hw0]; exact (by simp [go_sem, World.cell?_alloc_past])
  have z1 : w0.cell? ⟨w.heap.size + 1 + 1, 1, none⟩ = some (.int .i64 0) := by rw [hw0]; exact (by simp [go_sem, World.cell?_alloc_past])
  have f0 : w0.frozen? ⟨w.heap.size + 1 + 1, 0, none⟩ = false := by rw [hw0]; simp [go_sem]
  have f1 : w0.frozen? ⟨w.heap.size + 1 + 1, 1, none⟩ = false := by rw [hw0]; simp [go_sem]
  have CP := hide (show Calls Tryz.prog 145 #[.int .i64 a, .pointer (some ⟨w.heap.size + 1, 0, none⟩)] w0.drew fun e w' => e = .returned (.int .i64 P) ∧ w' = w0.drew by
    rw [← HP.out]; exact (clamp1_any lo hi a (w.heap.size + 1) w0.drew b0 b1).mono (by rintro e w' ⟨rfl, rfl⟩; exact ⟨rfl, rfl⟩))
  have CQ := hide (show Calls Tryz.prog 145 #[.int .i64 b, .pointer (some ⟨w.heap.size + 1, 0, none⟩)] w0.drew fun e w' => e = .returned (.int .i64 Q) ∧ w' = w0.drew by
    rw [← HQ.out]; exact (clamp1_any lo hi b (w.heap.size + 1) w0.drew b0 b1).mono (by rintro e w' ⟨rfl, rfl⟩; exact ⟨rfl, rfl⟩))
  clear hw0 CC HP HQ
  go_still_tail 9, (by kernel_rfl)
  still_call CP.out
  repeat still_step
  still_call CQ.out
  repeat still_step
  refine wpStill_nil ?_
  change wpList _ _ _ _ _ w0.drew
  have z0' : w0.drew.cell? ⟨w.heap.size + 1 + 1, 0, none⟩ = some (.int .i64 0) := z0
  have z1' : w0.drew.cell? ⟨w.heap.size + 1 + 1, 1, none⟩ = some (.int .i64 0) := z1
  have f0' : w0.drew.frozen? ⟨w.heap.size + 1 + 1, 0, none⟩ = false := f0
  have f1' : w0.drew.frozen? ⟨w.heap.size + 1 + 1, 1, none⟩ = false := f1
  have B4 := hide (show Below w.heap.size w w0.drew from bdrew B0.out)
  generalize w0.drew = w4 at *
  clear a0 a1 b0 b1 z0 z1 f0 f1
  go_wp2_with fail
  exact bodyPost_ret (v := .agg #[.int .i64 P, .int .i64 Q]) (by simp [results, Tryz.results120, go_sem, z0', z1']) rfl ⟨rfl, bset (bset B4.out (by simp; omega) _) (by simp; omega) _⟩

theorem validGrowth1_good (g : Gr) (p : GrA) (q : Nat) (w : World) (hg : GrwOk g) (h : IsGr w g p) (hq : GrAt w q g p) :
    Calls Tryz.prog 118 #[.pointer (some ⟨q, 0, none⟩)] w fun e w' => e = .returned (.bool true) ∧ Below w.heap.size w w' := by
  obtain ⟨rs, off, zs, fs⟩ := g
  obtain ⟨ra, rc, za, zc, fa, fc⟩ := p
  have IG := hide (isGrowth_good rs zs fs off ra za fa rc zc fc w hg h)
  have ⟨⟨c0, c1⟩, c2, c3⟩ := hq
  simp only at c0 c1 c2 c3
  clear hg h hq
  go_enter Tryz.func118, Tryz.ntmps118
  go_wp2_with fail
  refine IG.out.mono ?_
  rintro e w1 ⟨rfl, hb1⟩
  go_wp2_with fail
  go_ret
  exact ⟨rfl, hb1⟩
theorem validGrowth_good (g : Gr) (p : GrA) (w : World) (hg : GrwOk g) (h : IsGr w g p) :
    Calls Tryz.prog 69 #[grV g p] w fun e w' => e = .returned (.func (.func 109) #[] #[.pointer (some ⟨w.heap.size + 1 + 1, 0, none⟩), .pointer (some ⟨w.heap.size + 1, 0, none⟩)]) ∧
      CndTells w' ⟨2, 109, #[.pointer (some ⟨w.heap.size + 1 + 1, 0, none⟩), .pointer (some ⟨w.heap.size + 1, 0, none⟩)], true⟩ ∧ Below w.heap.size w w' := by
  have TL := hide (fun (W : World) (hb : Below w.heap.size w W) (hq : GrAt W w.heap.size g p) => (show Tells W 118 #[.pointer (some ⟨w.heap.size, 0, none⟩)] true from
    ⟨enters_any Tryz.func118 (by kernel_rfl) rfl _, fun V hV => validGrowth1_good g p w.heap.size V hg (gr_later h (bnext hb hV)) (grAt_later hq hV)⟩))
  have MN := hide (grAt_new w g p 58)
  clear hg h
  obtain ⟨rs, off, zs, fs⟩ := g
  obtain ⟨ra, rc, za, zc, fa, fc⟩ := p
  show Calls Tryz.prog 69 #[.agg #[.slice ra rs.length rc, .int .i64 off, .slice za zs.length zc, .slice fa fs.length fc]] w _
  go_enter Tryz.func69, Tryz.ntmps69
  go_wp2_with fail
  refine (unless_ex 2 118 #[.pointer (some ⟨w.heap.size, 0, none⟩)] true _ rfl (TL.out _ (by repeat (first | exact Below.refl _ _ | assumption | apply balloc | apply bdrew | (refine below_drewN ?_ _) | (refine bset ?_ (by first | (simp; done) | omega | (simp; omega)) _) | (refine bnext ?_ (by assumption)))) MN.out)).mono ?_
  rintro e w1 ⟨rfl, h1, hb1⟩
  (try simp at h1)
  have H1 := hide h1
  clear h1
  go_wp2_with fail
  exact bodyPost_ret (v := .func (.func 109) #[] #[.pointer (some ⟨w.heap.size + 1 + 1, 0, none⟩), .pointer (some ⟨w.heap.size + 1, 0, none⟩)]) (by simp [results, Tryz.results69, go_sem]) rfl ⟨rfl, H1.out, (by repeat (first | exact Below.refl _ _ | assumption | apply balloc | apply bdrew | (refine below_drewN ?_ _) | (refine bset ?_ (by first | (simp; done) | omega | (simp; omega)) _) | (refine bnext ?_ (by assumption))))⟩
end Go.Proofs.YtimfbjnpalgmcaaGreat

namespace Go.Proofs.YtimfbjnpalgmcaaGreat
set_option linter.unusedSimpArgs false
set_option linter.unusedVariables false
open Go.RowKit

theorem rowIs_later {w W : World} {b n : Nat} {t : TypeId} {f : Nat → Value} (h : w.rowIs b t n f) (hb : Below w.heap.size w W) : W.rowIs b t n f := h.of_block (hb.block b h.lt)
/-- The gradient of a zone, by a factor. -/
def gradQ (f z : Int × Int) : Int × Int := (clampQ 1 1000000 (z.1 * f.1 / 10000), clampQ 1 1000000 ((z.2 * f.2 + 9999) / 10000))
/-- The rate, which may be off. -/
def rateQ (v : Int × Int) (off : Int) : Int × Int := (clampQ 0 1000000 (v.1 - off), clampQ 0 1000000 (v.2 + off))
theorem rate_ok {v : Int × Int} {off : Int} (h : v.1 ≤ v.2) (o : 0 ≤ off) : rgOk 1000000 (rateQ v off) = true := by
  unfold rgOk rateQ clampQ
  simp only [Bool.and_eq_true, decide_eq_true_eq]
  omega
theorem grad_ok {f z : Int × Int} (f1 : 1 ≤ f.1) (f2 : f.1 ≤ f.2) (hz : grOk z = true) : grOk (gradQ f z) = true := by
  simp [grOk, rgOk] at hz
  have m : z.1 * f.1 ≤ z.2 * f.2 := Int.le_trans (Int.mul_le_mul_of_nonneg_left f2 (by omega)) (Int.mul_le_mul_of_nonneg_right (by omega) (by omega))
  have d : z.1 * f.1 / 10000 ≤ (z.2 * f.2 + 9999) / 10000 := Int.ediv_le_ediv (by omega) (by omega)
  generalize z.1 * f.1 / 10000 = p at *
  generalize (z.2 * f.2 + 9999) / 10000 = q at *
  unfold grOk rgOk gradQ clampQ
  simp only [Bool.and_eq_true, decide_eq_true_eq]
  omega

theorem some_laterR {w W : World} {p : Addr} (h : (w.cell? p).isSome = true) (hb : Below w.heap.size w W) : (W.cell? p).isSome = true := by
  obtain ⟨v, hv⟩ := Option.isSome_iff_exists.1 h
  rw [later hb hv]; rfl
theorem frz_laterR {w W : World} {p : Addr} (h : (w.cell? p).isSome = true) (hf : w.frozen? p = false) (hb : Below w.heap.size w W) : W.frozen? p = false := by
  obtain ⟨v, hv⟩ := Option.isSome_iff_exists.1 h
  exact free_later hb hv hf
theorem some_setR {w : World} {p : Addr} {u : Value} (h : (w.cell? p).isSome = true) : ((w.setCell p u).cell? p).isSome = true := by
  obtain ⟨v, hv⟩ := Option.isSome_iff_exists.1 h
  rw [World.cell?_setCell_same _ _ _ hv]; rfl
theorem frz_setR {w : World} {p q : Addr} {u : Value} (h : w.frozen? p = false) : (w.setCell q u).frozen? p = false := (World.frozen?_setCell _ _ _ _).trans h
theorem set_info : (Tryz.prog.info? 29).map (fun i => (i.zero, i.size, i.bytes)) = some (some (.int .u8 0), 1, 1) := by kernel_rfl
def PrPost (w : World) (n : Nat) (P : Nat → Nat) (e : Ending) (w' : World) : Prop := ∃ q, e = .returned (.slice (some ⟨q, 0, none⟩) n n) ∧ w'.rowIs q 29 n (fun j => .int .u8 (P j : Int)) ∧ w.heap.size ≤ q ∧ Below w.heap.size w w'
set_option maxRecDepth 100000 in
set_option maxHeartbeats 6400000 in
theorem printed_go (s a0 b0 a1 b1 a2 b2 a3 b3 off lo hi v1 v2 f1 f2 : Int) (rs zs fs : List (Int × Int)) (ra za fa : Option Addr) (rc zc fc : Nat) (P : Nat → Nat) (w : World) (hm : mdlOk ⟨s, a0, b0, a1, b1, a2, b2, a3, b3⟩ = true) (hzs : Hid (zs.all grOk = true)) (zn : zs.length ≤ 20) (hrl : rs.length ≤ 60 ∧ fs.length ≤ 60)
    (o0 : 0 ≤ off) (o1 : off ≤ 1000000) (hv : Hid (valueQ rs lo hi = (v1, v2, 0))) (hf : Hid (valueQ fs lo hi = (f1, f2, 0))) (vb : (-1000000000000000 ≤ v1 ∧ v1 ≤ v2) ∧ v2 ≤ 1000000000000000) (fb : (1 ≤ f1 ∧ f1 ≤ f2) ∧ f2 ≤ 20000)
    (hP : Hid (∀ j, P j = regN ⟨s, a0, b0, a1, b1, a2, b2, a3, b3⟩ (rateQ (v1, v2) off) (gradQ (f1, f2) (zs.getD j (0, 0))))) (h : IsGr w ⟨rs, off, zs, fs⟩ ⟨ra, rc, za, zc, fa, fc⟩) :
    Calls Tryz.prog 74 #[.agg #[.int .i64 s, .int .i64 a0, .int .i64 b0, .int .i64 a1, .int .i64 b1, .int .i64 a2, .int .i64 b2, .int .i64 a3, .int .i64 b3], .agg #[.slice ra rs.length rc, .int .i64 off, .slice za zs.length zc, .slice fa fs.length fc], .int .i64 lo, .int .i64 hi] w (PrPost w zs.length P) := by
  have V1 := hide (fun W (hb : Below w.heap.size w W) => (show Calls Tryz.prog 48 #[.slice ra rs.length rc, .agg #[.int .i64 lo, .int .i64 hi]] W fun e w' => e = .returned (.tuple #[.agg #[.int .i64 v1, .int .i64 v2], .int .i64 0]) ∧ Below W.heap.size W w' by
    have c := value_any rs ra rc lo hi W (by omega) (pairs_later h.1.1 hb)
    rwa [hv.out] at c))
  have V2 := hide (fun W (hb : Below w.heap.size w W) => (show Calls Tryz.prog 48 #[.slice fa fs.length fc, .agg #[.int .i64 lo, .int .i64 hi]] W fun e w' => e = .returned (.tuple #[.agg #[.int .i64 f1, .int .i64 f2], .int .i64 0]) ∧ Below W.heap.size W w' by
    have c := value_any fs fa fc lo hi W (by omega) (pairs_later h.2 hb)
    rwa [hf.out] at c))
  obtain ⟨R1, hR1⟩ : ∃ x, (rateQ (v1, v2) off).1 = x := ⟨_, rfl⟩
  obtain ⟨R2, hR2⟩ : ∃ x, (rateQ (v1, v2) off).2 = x := ⟨_, rfl⟩
  have CR := hide (fun W => (show Calls Tryz.prog 120 #[.agg #[.int .i64 (v1 - off), .int .i64 (v2 + off)], .agg #[.int .i64 0, .int .i64 1000000]] W fun e w' => e = .returned (.agg #[.int .i64 R1, .int .i64 R2]) ∧ Below W.heap.size W w' by
    rw [← hR1, ← hR2]; exact clamped_any (v1 - off) (v2 + off) 0 1000000 W))
  have TZ := hide (fun (z : Int × Int) (hz : grOk z = true) W => (show Calls Tryz.prog 121 #[.agg #[.int .i64 z.1, .int .i64 z.2], .agg #[.int .i64 f1, .int .i64 f2], .int .i64 10000] W fun e w' => e = .returned (.tuple #[.agg #[.int .i64 (z.1 * f1 / 10000), .int .i64 ((z.2 * f2 + 9999) / 10000)], .int .i64 0]) ∧ Below W.heap.size W w' by
    have c := times_any z.1 z.2 f1 f2 10000 W
    simp [grOk, rgOk] at hz
    rwa [timesQ_is (by omega) (by omega) (by omega) (by omega) (by omega) (by omega) (by omega) (by omega)] at c))
  have CZ := hide (fun (z : Int × Int) W => (show Calls Tryz.prog 120 #[.agg #[.int .i64 (z.1 * f1 / 10000), .int .i64 ((z.2 * f2 + 9999) / 10000)], .agg #[.int .i64 1, .int .i64 1000000]] W fun e w' => e = .returned (.agg #[.int .i64 (gradQ (f1, f2) z).1, .int .i64 (gradQ (f1, f2) z).2]) ∧ Below W.heap.size W w' from clamped_any _ _ 1 1000000 W))
  have RZ := hide (fun (z : Int × Int) (hz : grOk z = true) W => (show Calls Tryz.prog 56 #[.agg #[.int .i64 s, .int .i64 a0, .int .i64 b0, .int .i64 a1, .int .i64 b1, .int .i64 a2, .int .i64 b2, .int .i64 a3, .int .i64 b3], .agg #[.int .i64 R1, .int .i64 R2], .agg #[.int .i64 (gradQ (f1, f2) z).1, .int .i64 (gradQ (f1, f2) z).2]] W fun e w' => e = .returned (.int .u8 ((regN ⟨s, a0, b0, a1, b1, a2, b2, a3, b3⟩ (rateQ (v1, v2) off) (gradQ (f1, f2) z) : Nat) : Int)) ∧ Below W.heap.size W w' by
    have c := regions_any ⟨s, a0, b0, a1, b1, a2, b2, a3, b3⟩ (rateQ (v1, v2) off) (gradQ (f1, f2) z) W hm (rate_ok vb.1.2 o0) (grad_ok fb.1.1 fb.1.2 hz)
    rwa [hR1, hR2] at c))
  have mk := fun W => run_make_row' (P := Tryz.prog) 68 29 (.int .u8 0) 1 Tryz.underlying68 set_info rfl .i64 .i64 zs.length (by omega) (by omega) W
  have w1' : wrap64 (v1 - off) = v1 - off := (IntWalk.i64_left _).symm.trans (IntWalk.i64_in _ (by omega))
  have w2' : wrap64 (v2 + off) = v2 + off := (IntWalk.i64_left _).symm.trans (IntWalk.i64_in _ (by omega))
  obtain ⟨D1, hD1⟩ : ∃ x, v1 - off = x := ⟨_, rfl⟩
  obtain ⟨D2, hD2⟩ : ∃ x, v2 + off = x := ⟨_, rfl⟩
  rw [hD1, hD2] at CR
  have x1 : wrap64 (v1 - off) = D1 := by rw [← hD1]; exact w1'
  have x2 : wrap64 (v2 + off) = D2 := by rw [← hD2]; exact w2'
  have HI := hide h
  clear hD1 hD2 w1' w2' hR1 hR2 h hm hv hf vb fb o0 o1
  go_enter Tryz.func74, Tryz.ntmps74
  go_upto_region 2 with fail
  obtain ⟨w0, hw0⟩ : ∃ z, z = ((w.alloc (.cells #[.int .i64 s, .int .i64 a0, .int .i64 b0, .int .i64 a1, .int .i64 b1, .int .i64 a2, .int .i64 b2, .int .i64 a3, .int .i64 b3] 26)).alloc (.cells #[.slice ra rs.length rc, .int .i64 off, .slice za zs.length zc, .slice fa fs.length fc] 58)).alloc (.cells #[.int .i64 lo, .int .i64 hi] 23) := ⟨_, rfl⟩
  rw [← hw0]
  have B0 := hide (show Below w.heap.size w w0 by rw [hw0]; exact (by repeat (first | exact Below.refl _ _ | assumption | apply balloc | apply bdrew | (refine below_drewN ?_ _) | (refine bset ?_ (by first | (simp; done) | omega | (simp; omega)) _) | (refine bnext ?_ (by assumption)))))
  have M0 := hide (show MdlAt w0 w.heap.size ⟨s, a0, b0, a1, b1, a2, b2, a3, b3⟩ by rw [hw0]; exact mdlAt_later (mdlAt_new w ⟨s, a0, b0, a1, b1, a2, b2, a3, b3⟩ 26) (by repeat (first | exact Below.refl _ _ | assumption | apply balloc | apply bdrew | (refine below_drewN ?_ _) | (refine bset ?_ (by first | (simp; done) | omega | (simp; omega)) _) | (refine bnext ?_ (by assumption)))))
  have G0 := hide (show GrAt w0 (w.heap.size + 1) ⟨rs, off, zs, fs⟩ ⟨ra, rc, za, zc, fa, fc⟩ by rw [hw0]; refine ⟨⟨?_, ?_⟩, ?_, ?_⟩ <;> exact (by simp [go_sem, World.cell?_alloc_past]))
  have A0 := hide (show RgAt w0 (w.heap.size + 1 + 1) lo hi by rw [hw0]; exact ⟨(by simp [go_sem, World.cell?_alloc_past]), (by simp [go_sem, World.cell?_alloc_past])⟩)
  clear hw0
  have ⟨⟨g0, g1⟩, g2, g3⟩ := G0.out
  have ⟨l0, l1⟩ := A0.out
  simp only at g0 g1 g2 g3
  go_wp2_with fail
  refine (V1.out _ B0.out).mono ?_
  rintro e w1 ⟨rfl, hb1⟩
  have B1 := hide (bnext B0.out hb1)
  have BB1 := hide hb1
  have e1 := fun o => later (balloc (o := o) (Below.refl _ _)) (later hb1 g1)
  clear g0 g1 g2 g3 l0 l1
  go_wp2_with fail
  refine (CR.out _).mono ?_
  rintro e w2 ⟨rfl, hb2⟩
  have BB2 := hide (show Below w1.heap.size w1 w2 from bnext (balloc (Below.refl _ _)) hb2)
  have y0 := later (a := ⟨w1.heap.size, 0, none⟩) (v := .int .i64 v1) hb2 (by simp [go_sem, World.cell?_alloc_past])
  have y1 := later (a := ⟨w1.heap.size, 1, none⟩) (v := .int .i64 v2) hb2 (by simp [go_sem, World.cell?_alloc_past])
  have yf0 := free_later (a := ⟨w1.heap.size, 0, none⟩) (v := .int .i64 v1) hb2 (by simp [go_sem, World.cell?_alloc_past]) (by simp [go_sem])
  have yf1 := free_later (a := ⟨w1.heap.size, 1, none⟩) (v := .int .i64 v2) hb2 (by simp [go_sem, World.cell?_alloc_past]) (by simp [go_sem])
  clear e1 hb1 hb2
  go_upto_region 4 with fail
  obtain ⟨w3, hw3⟩ : ∃ z, z = (w2.setCell ⟨w1.heap.size, 0, none⟩ (.int .i64 R1)).setCell ⟨w1.heap.size, 1, none⟩ (.int .i64 R2) := ⟨_, rfl⟩
  rw [← hw3]
  have BB3 := hide (show Below w1.heap.size w1 w3 by rw [hw3]; exact bset (bset BB2.out (by simp) _) (by simp) _)
  have RR3 := hide (show RgAt w3 w1.heap.size R1 R2 by rw [hw3]; constructor <;> simp [go_sem, y0, y1])
  have B3 := hide (bnext B1.out BB3.out)
  have ⟨⟨g0, g1⟩, g2, g3⟩ := grAt_later G0.out (bnext BB1.out BB3.out)
  have ⟨l0, l1⟩ := rgAt_later A0.out (bnext BB1.out BB3.out)
  simp only at g0 g1 g2 g3
  clear hw3 y0 y1 yf0 yf1 BB2
  go_wp2_with fail
  refine (V2.out _ B3.out).mono ?_
  rintro e w4 ⟨rfl, hb4⟩
  have BB4 := hide hb4
  have B4 := hide (bnext B3.out hb4)
  have e2 := fun o => later (balloc (o := o) (Below.refl _ _)) (later hb4 g2)
  clear g0 g1 g2 g3 l0 l1 hb4 x1 x2
  go_upto_region 6 with fail
  obtain ⟨w5, hw5⟩ : ∃ z, z = (w4.alloc (.cells #[.int .i64 f1, .int .i64 f2] 23)).alloc (.cells (madeCells #[.int .u8 0] zs.length) 29) := ⟨_, rfl⟩
  rw [← hw5]
  obtain ⟨Q, hQ⟩ : ∃ Q, w4.heap.size + 1 = Q := ⟨_, rfl⟩
  have RW5 := hide (show w5.rowIs Q 29 zs.length (fun _ => .int .u8 0) by
    rw [hw5, ← hQ]
    have c := World.rowIs_made (w4.alloc (.cells #[.int .i64 f1, .int .i64 f2] 23)) (.int .u8 0) zs.length 29
    rwa [World.size_alloc] at c)
  have FR5 := hide (show RgAt w5 w4.heap.size f1 f2 by rw [hw5]; exact ⟨(by simp [go_sem, World.cell?_alloc_past]), (by simp [go_sem, World.cell?_alloc_past])⟩)
  have B5 := hide (show Below w4.heap.size w4 w5 by rw [hw5]; exact (by repeat (first | exact Below.refl _ _ | assumption | apply balloc | apply bdrew | (refine below_drewN ?_ _) | (refine bset ?_ (by first | (simp; done) | omega | (simp; omega)) _) | (refine bnext ?_ (by assumption)))))
  rw [hQ]
  have HQ := hide hQ
  have ⟨⟨g0, g1⟩, g2, g3⟩ := grAt_later G0.out (bnext (bnext BB1.out BB3.out) (bnext BB4.out B5.out))
  simp only at g0 g1 g2 g3
  clear hw5 e2 mk hQ
  go_wp2_with fail
  clear g0 g1 g2 g3
  go_loopw [56] (fun i wr => ∃ k : Nat, k ≤ zs.length ∧ i = .int .i64 (k : Int) ∧ Hid (wr.rowIs Q 29 zs.length (fun j => if j < k then .int .u8 (P j : Int) else .int .u8 0)) ∧ Hid (RgAt wr w4.heap.size f1 f2) ∧ Below w4.heap.size w4 wr) (fun i _ => zs.length - (intOf i).toNat)
  case atStart => exact ⟨0, by omega, rfl, hide (RW5.out.congr (fun j hj => by simp)), FR5, B5.out⟩
  case round =>
    obtain ⟨k, hk, rfl, hrow, hfr, hbw⟩ := hrel
    by_cases hlt : k < zs.length
    · obtain ⟨b, off', rfl, hc⟩ : ∃ b off', za = some ⟨b, off', none⟩ ∧ ∀ i, i < zs.length → wr.cell? ⟨b, off' + i * 2, none⟩ = some (.int .i64 (zs.getD i (0, 0)).1) ∧ wr.cell? ⟨b, off' + i * 2 + 1, none⟩ = some (.int .i64 (zs.getD i (0, 0)).2) := by
        rcases pairs_later HI.out.1.2 (bnext B4.out hbw) with h | h
        · simp only at h; subst h; simp at hlt
        · exact h
      obtain ⟨c1, c2⟩ := hc k hlt
      clear hc
      have gz : grOk (zs.getD k (0, 0)) = true := List.all_eq_true.1 hzs.out _ (by simp [hlt])
      have TZ' := hide (TZ.out _ gz)
      have CZ' := hide (CZ.out (zs.getD k (0, 0)))
      have RZ' := hide (RZ.out _ gz)
      have PK := hide (hP.out k)
      generalize regN _ _ (gradQ (f1, f2) (zs.getD k (0, 0))) = N at *
      generalize (gradQ (f1, f2) (zs.getD k (0, 0))).1 = Z1 at *
      generalize (gradQ (f1, f2) (zs.getD k (0, 0))).2 = Z2 at *
      generalize zs.getD k (0, 0) = z at *
      obtain ⟨z1, z2⟩ := z
      simp only at c1 c2 TZ' CZ'
      generalize z1 * f1 / 10000 = T1 at *
      generalize (z2 * f2 + 9999) / 10000 = T2 at *
      have hq0 := hide (hrow.out.cell hlt)
      have hq1 := hide (hrow.out.frozen k)
      have ql := hide hrow.out.lt
      have ⟨k1, k2⟩ := hfr.out
      have k1' := fun o => later (balloc (o := o) (Below.refl _ _)) k1
      have k2' := fun o => later (balloc (o := o) (Below.refl _ _)) k2
      have i0 : 0 ≤ (k : Int) := by omega
      have i1 : (k : Int) < zs.length := by omega
      clear gz
      go_wp2_with fail
      refine (TZ'.out _).mono ?_
      rintro e w7 ⟨rfl, hb7⟩
      have B7 := hide (show Below wr.heap.size wr w7 from bnext (balloc (Below.refl _ _)) hb7)
      clear c1 c2 k1 k2 k1' k2' hb7
      go_upto_region 10 with fail
      obtain ⟨w8, hw8⟩ : ∃ z, z = w7.alloc (.cells #[.int .i64 T1, .int .i64 T2] 23) := ⟨_, rfl⟩
      rw [← hw8]
      have B8 := hide (show Below wr.heap.size wr w8 by rw [hw8]; exact balloc B7.out)
      have KP := hide (fun (W : World) (hi : (W.cell? ⟨Q, k, none⟩).isSome = true) (hf : W.frozen? ⟨Q, k, none⟩ = false) (ht : Touch Q w8 W) => (show W.cell? ⟨w.heap.size, 0, none⟩ = some (.int .i64 s) ∧ W.cell? ⟨w.heap.size, 1, none⟩ = some (.int .i64 a0) ∧ W.cell? ⟨w.heap.size, 2, none⟩ = some (.int .i64 b0) ∧ W.cell? ⟨w.heap.size, 3, none⟩ = some (.int .i64 a1) ∧ W.cell? ⟨w.heap.size, 4, none⟩ = some (.int .i64 b1) ∧ W.cell? ⟨w.heap.size, 5, none⟩ = some (.int .i64 a2) ∧ W.cell? ⟨w.heap.size, 6, none⟩ = some (.int .i64 b2) ∧ W.cell? ⟨w.heap.size, 7, none⟩ = some (.int .i64 a3) ∧ W.cell? ⟨w.heap.size, 8, none⟩ = some (.int .i64 b3) ∧ W.cell? ⟨w1.heap.size, 0, none⟩ = some (.int .i64 R1) ∧ W.cell? ⟨w1.heap.size, 1, none⟩ = some (.int .i64 R2) ∧ W.cell? ⟨w7.heap.size, 0, none⟩ = some (.int .i64 T1) ∧ W.cell? ⟨w7.heap.size, 1, none⟩ = some (.int .i64 T2) ∧ (W.cell? ⟨Q, k, none⟩).isSome = true ∧ W.frozen? ⟨Q, k, none⟩ = false ∧ Touch Q w8 W by
        obtain ⟨⟨⟨⟨m1, m2⟩, m3⟩, m4, m5⟩, ⟨m6, m7⟩, m8, m9⟩ := mdlAt_later (mdlAt_later M0.out (bnext (bnext BB1.out BB3.out) (bnext BB4.out hbw))) B8.out
        obtain ⟨r1, r2⟩ := rgAt_later (rgAt_later RR3.out (bnext BB4.out hbw)) B8.out
        have t1 : w8.cell? ⟨w7.heap.size, 0, none⟩ = some (.int .i64 T1) := by rw [hw8]; exact (by simp [go_sem, World.cell?_alloc_past])
        have t2 : w8.cell? ⟨w7.heap.size, 1, none⟩ = some (.int .i64 T2) := by rw [hw8]; exact (by simp [go_sem, World.cell?_alloc_past])
        have n1 : w.heap.size ≠ Q := by have := HQ.out; have := B4.out.size; omega
        have n2 : w1.heap.size ≠ Q := by have := HQ.out; have := BB3.out.size; have := BB4.out.size; omega
        have n3 : w7.heap.size ≠ Q := by have := ql.out; have := B7.out.size; omega
        exact ⟨ht.cell n1 m1, ht.cell n1 m2, ht.cell n1 m3, ht.cell n1 m4, ht.cell n1 m5, ht.cell n1 m6, ht.cell n1 m7, ht.cell n1 m8, ht.cell n1 m9, ht.cell n2 r1, ht.cell n2 r2, ht.cell n3 t1, ht.cell n3 t2, hi, hf, ht⟩))
      have q0 := hide (show w8.cell? ⟨Q, k, none⟩ = some (.int .u8 0) from later B8.out (by rw [hq0.out, if_neg (by omega)]))
      have q1 := hide (show w8.frozen? ⟨Q, k, none⟩ = false from free_later B8.out (by rw [hq0.out]) hq1.out)
      clear hw8
      go_region_held3 (fun W => W.cell? ⟨w.heap.size, 0, none⟩ = some (.int .i64 s) ∧ W.cell? ⟨w.heap.size, 1, none⟩ = some (.int .i64 a0) ∧ W.cell? ⟨w.heap.size, 2, none⟩ = some (.int .i64 b0) ∧ W.cell? ⟨w.heap.size, 3, none⟩ = some (.int .i64 a1) ∧ W.cell? ⟨w.heap.size, 4, none⟩ = some (.int .i64 b1) ∧ W.cell? ⟨w.heap.size, 5, none⟩ = some (.int .i64 a2) ∧ W.cell? ⟨w.heap.size, 6, none⟩ = some (.int .i64 b2) ∧ W.cell? ⟨w.heap.size, 7, none⟩ = some (.int .i64 a3) ∧ W.cell? ⟨w.heap.size, 8, none⟩ = some (.int .i64 b3) ∧ W.cell? ⟨w1.heap.size, 0, none⟩ = some (.int .i64 R1) ∧ W.cell? ⟨w1.heap.size, 1, none⟩ = some (.int .i64 R2) ∧ W.cell? ⟨w7.heap.size, 0, none⟩ = some (.int .i64 T1) ∧ W.cell? ⟨w7.heap.size, 1, none⟩ = some (.int .i64 T2) ∧ (W.cell? ⟨Q, k, none⟩).isSome = true ∧ W.frozen? ⟨Q, k, none⟩ = false ∧ Touch Q w8 W)
        (first | (exact KP.out _ (by rw [show (w8.drew).cell? ⟨Q, k, none⟩ = some (.int .u8 0) from q0.out]; rfl) q1.out (tdrew (Touch.refl _ _))) | (go_split_ands; first | (exact KP.out (wB.setCell ⟨Q, k, none⟩ (.int .u8 (N : Int))) (some_setR hiB) (frz_setR hfB) (tset htB rfl _)) | (refine KP.out _ (some_laterR ?_ hbB) (frz_laterR ?_ ?_ hbB) (tnext ?_ hbB) <;> assumption) | (refine KP.out _ (some_laterR ?_ hbA) (frz_laterR ?_ ?_ hbA) (tnext ?_ hbA) <;> assumption)))
        (first
          | (go_at_call 120; refine (CZ'.out _).mono ?_; rintro e wA ⟨rfl, hbA⟩)
          | (go_at_call 56; refine (RZ'.out _).mono ?_; rintro e wB ⟨rfl, hbB⟩; have hiB := some_laterR (p := ⟨Q, k, none⟩) (by go_split_ands; assumption) hbB; have hfB := frz_laterR (p := ⟨Q, k, none⟩) (by go_split_ands; assumption) (by go_split_ands; assumption) hbB; have htB : Touch Q w8 wB := tnext (by go_split_ands; assumption) hbB; obtain ⟨vB, hvB⟩ := Option.isSome_iff_exists.1 hiB))
      all_goals
        have BR : Below wr.heap.size wr wB := bnext (bnext (bdrew B8.out) hbA) hbB
        have RN := hide (((rowIs_later hrow.out BR).set k (.int .u8 (N : Int))).congr (g := fun j => if j < k + 1 then .int .u8 (P j : Int) else .int .u8 0) (fun j hj => by
          by_cases e : j = k
          · subst e; simp [PK.out]
          · simp only [if_neg e]
            by_cases e2 : j < k
            · rw [if_pos e2, if_pos (by omega)]
            · rw [if_neg e2, if_neg (by omega)]))
        have FN := hide (show RgAt (wB.setCell ⟨Q, k, none⟩ (.int .u8 (N : Int))) w4.heap.size f1 f2 from
          ⟨(World.cell?_setCell_other _ _ _ _ (fun hh => by have := congrArg Addr.block hh; have := HQ.out; simp only at *; omega)).trans (rgAt_later hfr.out BR).1, (World.cell?_setCell_other _ _ _ _ (fun hh => by have := congrArg Addr.block hh; have := HQ.out; simp only at *; omega)).trans (rgAt_later hfr.out BR).2⟩)
        have BN := hide (show Below w4.heap.size w4 (wB.setCell ⟨Q, k, none⟩ (.int .u8 (N : Int))) from bset (bnext hbw BR) (by have := HQ.out; simp; omega) _)
        clear BR
        go_wp2_with fail
        go_roundw
        case rel => exact ⟨k + 1, by omega, by go_num, RN, FN, BN.out⟩
        case measure => simp [intOf]; omega
    · obtain rfl : k = zs.length := by omega
      have RF := hide (hrow.out.congr (g := fun j => .int .u8 (P j : Int)) (fun j hj => by simp [hj]))
      go_wp2_with fail
      exact bodyPost_ret (v := .slice (some ⟨Q, 0, none⟩) zs.length zs.length) (by simp [results, Tryz.results74, go_sem]) rfl ⟨Q, rfl, RF.out, by have := HQ.out; have := B4.out.size; omega, bnext B4.out hbw⟩
end Go.Proofs.YtimfbjnpalgmcaaGreat
