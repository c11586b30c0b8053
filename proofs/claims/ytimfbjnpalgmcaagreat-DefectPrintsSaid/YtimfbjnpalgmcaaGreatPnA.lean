/-
  defect: Print, of any model, any growth and any cuts.
-/
import Derived.Test.YtimfbjnpalgmcaaGreatDfN
import Derived.Test.YtimfbjnpalgmcaaGreatGrG
import Derived.Test.YtimfbjnpalgmcaaGreatCuG
import Derived.Test.YtimfbjnpalgmcaaGreatSlR
namespace Go.Proofs.YtimfbjnpalgmcaaGreat
set_option linter.unusedSimpArgs false
set_option linter.unusedVariables false
open Go.RowKit

/-- A list of one's own of n lists of m sets each. -/
def SetsAt (W : World) (B : Nat) (v : Value) (n m : Nat) (f : Nat → Nat × Nat) (P : Nat → Nat → Nat) : Prop :=
  W.ownsRow B 68 1 v n ((List.range n).map fun i => Value.slice (some ⟨(f i).1, 0, none⟩) m (f i).2) ∧
  ∀ i, i < n → ((f i).1 < W.heap.size ∧ v.ownBlock ≠ some (f i).1) ∧ ∀ j, j < m → W.cell? ⟨(f i).1, j, none⟩ = some (.int .u8 (P i j : Int))
theorem sets_later {w W : World} {B n m : Nat} {v : Value} {f : Nat → Nat × Nat} {P : Nat → Nat → Nat} (h : SetsAt w B v n m f P) (hb : Below w.heap.size w W) : SetsAt W B v n m f P :=
  ⟨owns_later h.1 hb, fun i hi => ⟨⟨Nat.lt_of_lt_of_le (h.2 i hi).1.1 hb.size, (h.2 i hi).1.2⟩, fun j hj => later hb ((h.2 i hi).2 j hj)⟩⟩
theorem sets_mono {w : World} {B B' n m : Nat} {v : Value} {f : Nat → Nat × Nat} {P : Nat → Nat → Nat} (h : SetsAt w B v n m f P) (hb : B' ≤ B) : SetsAt w B' v n m f P :=
  ⟨⟨h.1.1, h.1.2.imp id fun ⟨g, cap, cur, h1, h2, h3⟩ => ⟨g, cap, cur, h1, Nat.le_trans hb h2, h3⟩⟩, h.2⟩
theorem sets_form {w : World} {B n m : Nat} {v : Value} {f : Nat → Nat × Nat} {P : Nat → Nat → Nat} (h : SetsAt w B v n m f P) : ∃ b c, v = .slice b n c := by
  rcases h.1.2 with ⟨e, e'⟩ | ⟨g, cap, cur, e, _⟩
  · subst e'; exact ⟨_, _, e⟩
  · exact ⟨_, _, e⟩
theorem sets_nil (w : World) (B m : Nat) (P : Nat → Nat → Nat) : SetsAt w B (.slice none 0 0) 0 m (fun _ => (0, 0)) P :=
  ⟨World.ownsRow_nil _ _ _ _, fun i hi => by omega⟩
theorem sets_push {W V w4 : World} {B n m g gc q c H : Nat} {v : Value} {f : Nat → Nat × Nat} {P : Nat → Nat → Nat} (h : SetsAt W B v n m f P) (hb : Below W.heap.size W V) (hq : W.heap.size ≤ q) (hlt : q < V.heap.size)
    (hrow : ∀ j, j < m → V.cell? ⟨q, j, none⟩ = some (.int .u8 (P n j : Int)))
    (hown : w4.ownsRow B 68 1 (.slice (some ⟨g, 0, none⟩) (n + 1) gc) (n + 1) (((List.range n).map fun i => Value.slice (some ⟨(f i).1, 0, none⟩) m (f i).2) ++ [Value.slice (some ⟨q, 0, none⟩) m c]))
    (hgrow : V.grownBy w4 v.ownBlock) (hlie : v.ownBlock = some g ∨ g = H) (hH : V.heap.size ≤ H) : ∃ f', SetsAt w4 B (.slice (some ⟨g, 0, none⟩) (n + 1) gc) (n + 1) m f' P := by
  have LT := h.1.lt
  refine ⟨fun i => if i < n then f i else (q, c), ?_, ?_⟩
  · have e : ((List.range (n + 1)).map fun i => Value.slice (some ⟨(if i < n then f i else (q, c)).1, 0, none⟩) m (if i < n then f i else (q, c)).2) = ((List.range n).map fun i => Value.slice (some ⟨(f i).1, 0, none⟩) m (f i).2) ++ [Value.slice (some ⟨q, 0, none⟩) m c] := by
      rw [List.range_succ, List.map_append]
      congr 1
      · exact List.map_congr_left fun i hi => by rw [if_pos (List.mem_range.1 hi)]
      · simp
    show w4.ownsRow _ _ _ _ _ ((List.range (n + 1)).map fun i => Value.slice (some ⟨(if i < n then f i else (q, c)).1, 0, none⟩) m (if i < n then f i else (q, c)).2)
    rw [e]
    exact hown
  · intro i hi
    by_cases hin : i < n
    · simp only [if_pos hin]
      obtain ⟨⟨l1, l2⟩, l3⟩ := h.2 i hin
      have l1' : (f i).1 < V.heap.size := Nat.lt_of_lt_of_le l1 hb.size
      refine ⟨⟨Nat.lt_of_lt_of_le l1' hgrow.size, ?_⟩, fun j hj => ?_⟩
      · intro e
        have e' : g = (f i).1 := by simpa [Value.ownBlock] using e
        rcases hlie with hl | hl
        · exact l2 (by rw [hl, e'])
        · omega
      · rw [hgrow.cell_far ⟨(f i).1, j, none⟩ l1' (fun e => l2 e.symm)]
        exact later hb (l3 j hj)
    · obtain rfl : i = n := by omega
      simp only [if_neg hin]
      have NE : v.ownBlock ≠ some q := fun e => by have := (LT q e).2; omega
      refine ⟨⟨Nat.lt_of_lt_of_le hlt hgrow.size, ?_⟩, fun j hj => ?_⟩
      · intro e
        have e' : g = q := by simpa [Value.ownBlock] using e
        rcases hlie with hl | hl
        · exact NE (by rw [hl, e'])
        · omega
      · rw [hgrow.cell_far ⟨q, j, none⟩ hlt (fun e => NE e.symm)]
        exact hrow j hj
/-- The k-th list, read. -/
theorem sets_cell {W : World} {B n m k : Nat} {b : Option Addr} {c : Nat} {f : Nat → Nat × Nat} {P : Nat → Nat → Nat} (h : SetsAt W B (.slice b n c) n m f P) (hk : k < n) : ∃ g, b = some ⟨g, 0, none⟩ ∧ W.cell? ⟨g, k, none⟩ = some (.slice (some ⟨(f k).1, 0, none⟩) m (f k).2) := by
  obtain ⟨g, cap, e, _, _⟩ := h.1.form (by omega)
  cases e
  refine ⟨g, rfl, ?_⟩
  rw [h.1.cellAt k (by omega), List.getElem?_map, List.getElem?_range hk]
  rfl

theorem print1_any (x y : Int) (rs : List (Int × Int)) (cs : List Int) (ra a : Option Addr) (rc : Nat) (p q n cp : Nat) (K : Bool) (w : World) (hrs : (plcQ rs).1 = x ∧ (plcQ rs).2 = y) (h2 : 1 ≤ rs.length ∧ rs.length ≤ 60) (hr : IsPairs w ra rs) (hn : cs.length = n) (nl : n ≤ 1000000000) (hc : IsInts w a cs) (hK : cutsOk x y cs = K) (k1 : w.cell? ⟨p, 0, none⟩ = some (.slice a n cp)) (k2 : w.cell? ⟨q, 0, none⟩ = some (.slice ra rs.length rc)) :
    Calls Tryz.prog 71 #[.pointer (some ⟨p, 0, none⟩), .pointer (some ⟨q, 0, none⟩)] w fun e w' => e = .returned (.bool K) ∧ Below w.heap.size w w' := by
  have PL := hide (fun W (hb : Below w.heap.size w W) => (show Calls Tryz.prog 73 #[.slice ra rs.length rc] W fun e w' => e = .returned (.agg #[.int .i64 x, .int .i64 y]) ∧ Below W.heap.size W w' by
    rw [← hrs.1, ← hrs.2]; exact places_any rs (rs.length - 1) ra rc W (by omega) (by omega) (pairs_later hr hb)))
  have AC := hide (fun W (hb : Below w.heap.size w W) => (show Calls Tryz.prog 72 #[.slice a n cp, .agg #[.int .i64 x, .int .i64 y]] W fun e w' => e = .returned (.bool K) ∧ Below W.heap.size W w' by
    have c := areCuts_any cs x y a cp W (by omega) (ints_later hc hb)
    rwa [hn, hK] at c))
  have KP := hide (fun (W : World) (hb : Below w.heap.size w W) => (show W.cell? ⟨p, 0, none⟩ = some (.slice a n cp) ∧ W.cell? ⟨q, 0, none⟩ = some (.slice ra rs.length rc) ∧ Below w.heap.size w W from ⟨later hb k1, later hb k2, hb⟩))
  clear hrs h2 hr hn nl hc hK k1 k2
  go_enter Tryz.func71, Tryz.ntmps71
  go_upto_region 1 with fail
  go_cut [2] from 3 (fun s2 wx => s2 = .bool K ∧ Below w.heap.size w wx)
  case first =>
    go_region_held3 (fun W => W.cell? ⟨p, 0, none⟩ = some (.slice a n cp) ∧ W.cell? ⟨q, 0, none⟩ = some (.slice ra rs.length rc) ∧ Below w.heap.size w W)
      ((go_split_ands; refine KP.out _ ?_; exact (by repeat (first | exact Below.refl _ _ | assumption | apply balloc | apply bdrew | (refine below_drewN ?_ _) | (refine bset ?_ (by first | (simp; done) | omega | (simp; omega)) _) | (refine bnext ?_ (by assumption))))))
      (first
        | (go_at_call 73; refine (PL.out _ (by exact (by repeat (first | exact Below.refl _ _ | assumption | apply balloc | apply bdrew | (refine below_drewN ?_ _) | (refine bset ?_ (by first | (simp; done) | omega | (simp; omega)) _) | (refine bnext ?_ (by assumption)))))).mono ?_; rintro e wA ⟨rfl, hbA⟩)
        | (go_at_call 72; refine (AC.out _ (by exact (by repeat (first | exact Below.refl _ _ | assumption | apply balloc | apply bdrew | (refine below_drewN ?_ _) | (refine bset ?_ (by first | (simp; done) | omega | (simp; omega)) _) | (refine bnext ?_ (by assumption)))))).mono ?_; rintro e wB ⟨rfl, hbB⟩))
    all_goals (go_wp2_with fail; go_meet; exact ⟨rfl, by first | (go_split_ands; assumption) | exact (by repeat (first | exact Below.refl _ _ | assumption | apply balloc | apply bdrew | (refine below_drewN ?_ _) | (refine bset ?_ (by first | (simp; done) | omega | (simp; omega)) _) | (refine bnext ?_ (by assumption))))⟩)
  case rest =>
    obtain ⟨rfl, hbw⟩ := hcut
    go_wp2
    go_ret
    exact ⟨rfl, hbw⟩
def PnPost (w : World) (E : Int) (n m : Nat) (P : Nat → Nat → Nat) (e : Ending) (w' : World) : Prop := Below w.heap.size w w' ∧ ((E = 0 ∧ ∃ v f, e = .returned (.tuple #[v, .int .i64 0]) ∧ SetsAt w' w.heap.size v n m f P) ∨ (E ≠ 0 ∧ e = .returned (.tuple #[.slice none 0 0, .int .i64 E])))
set_option maxRecDepth 100000 in
set_option maxHeartbeats 6400000 in
theorem print_any (s a0 b0 a1 b1 a2 b2 a3 b3 off E : Int) (rs zs fs : List (Int × Int)) (cs : List Int) (ra za fa a : Option Addr) (rc zc fc cp n : Nat) (k1 k2 k3 k4 : Bool) (P : Nat → Nat → Nat) (w : World) (hn : cs.length = n) (nl : n ≤ 1000000000)
    (hm : mdlOk ⟨s, a0, b0, a1, b1, a2, b2, a3, b3⟩ = k1) (hg : grwOk ⟨rs, off, zs, fs⟩ = k2) (hk3 : decide ((n : Int) ≤ 500) = k3) (hk4 : k2 = true → cutsOk (plcQ rs).1 (plcQ rs).2 cs = k4) (hl : GrLen ⟨rs, off, zs, fs⟩) (h : IsGr w ⟨rs, off, zs, fs⟩ ⟨ra, rc, za, zc, fa, fc⟩) (hc : IsInts w a cs)
    (FE : Hid (∀ c d f g, firstE [⟨2, 109, c, k1⟩, ⟨2, 109, d, k2⟩, ⟨5, 109, f, k3⟩, ⟨3, 109, g, k4⟩] = E))
    (PR : Hid (E = 0 → ∀ W i, i + 1 < n → Below w.heap.size w W → Calls Tryz.prog 74 #[.agg #[.int .i64 s, .int .i64 a0, .int .i64 b0, .int .i64 a1, .int .i64 b1, .int .i64 a2, .int .i64 b2, .int .i64 a3, .int .i64 b3], .agg #[.slice ra rs.length rc, .int .i64 off, .slice za zs.length zc, .slice fa fs.length fc], .int .i64 (cs.getD i 0), .int .i64 (cs.getD (i + 1) 0)] W (PrPost W zs.length (P i)))) :
    Calls Tryz.prog 33 #[.agg #[.int .i64 s, .int .i64 a0, .int .i64 b0, .int .i64 a1, .int .i64 b1, .int .i64 a2, .int .i64 b2, .int .i64 a3, .int .i64 b3], .agg #[.slice ra rs.length rc, .int .i64 off, .slice za zs.length zc, .slice fa fs.length fc], .slice a n cp] w (PnPost w E (n - 1) zs.length P) := by
  have VM := hide (fun (W : World) => (show Calls Tryz.prog 51 #[.agg #[.int .i64 s, .int .i64 a0, .int .i64 b0, .int .i64 a1, .int .i64 b1, .int .i64 a2, .int .i64 b2, .int .i64 a3, .int .i64 b3]] W fun e w' => e = .returned (.func (.func 109) #[] #[.pointer (some ⟨W.heap.size + 1 + 1, 0, none⟩), .pointer (some ⟨W.heap.size + 1, 0, none⟩)]) ∧
      CndTells w' ⟨2, 109, #[.pointer (some ⟨W.heap.size + 1 + 1, 0, none⟩), .pointer (some ⟨W.heap.size + 1, 0, none⟩)], k1⟩ ∧ Below W.heap.size W w' from validModel_ex ⟨s, a0, b0, a1, b1, a2, b2, a3, b3⟩ k1 W hm))
  have VG := hide (fun (W : World) (hb : Below w.heap.size w W) => (show Calls Tryz.prog 69 #[.agg #[.slice ra rs.length rc, .int .i64 off, .slice za zs.length zc, .slice fa fs.length fc]] W fun e w' => e = .returned (.func (.func 109) #[] #[.pointer (some ⟨W.heap.size + 1 + 1, 0, none⟩), .pointer (some ⟨W.heap.size + 1, 0, none⟩)]) ∧
      CndTells w' ⟨2, 109, #[.pointer (some ⟨W.heap.size + 1 + 1, 0, none⟩), .pointer (some ⟨W.heap.size + 1, 0, none⟩)], k2⟩ ∧ Below W.heap.size W w' from validGrowth_ex ⟨rs, off, zs, fs⟩ ⟨ra, rc, za, zc, fa, fc⟩ k2 W hg hl (gr_later h hb)))
  have TL := hide (fun (W : World) (hb : Below w.heap.size w W) (q1 : W.cell? ⟨w.heap.size + 1 + 1, 0, none⟩ = some (.slice a n cp)) (q2 : W.cell? ⟨w.heap.size + 1, 0, none⟩ = some (.slice ra rs.length rc)) => (show k2 = true → Tells W 71 #[.pointer (some ⟨w.heap.size + 1 + 1, 0, none⟩), .pointer (some ⟨w.heap.size + 1, 0, none⟩)] k4 from
    fun e => ⟨enters_any Tryz.func71 (by kernel_rfl) rfl _, fun V hV => print1_any _ _ rs cs ra a rc _ _ n cp k4 V ⟨rfl, rfl⟩ (by have := len_of (grwOk_of (hg.trans e)).t1; simp only at this; omega) (pairs_later h.1.1 (bnext hb hV)) hn nl (ints_later hc (bnext hb hV)) (hk4 e) (later hV q1) (later hV q2)⟩))
  have HK3 := hide hk3
  have HC := hide hc
  have HN := hide hn
  clear hn hm hg hk3 hk4 hl h hc
  go_enter Tryz.func33, Tryz.ntmps33
  go_upto_region 1 with fail
  obtain ⟨w0, hw0⟩ : ∃ y, y = ((w.alloc (.cells #[.int .i64 s, .int .i64 a0, .int .i64 b0, .int .i64 a1, .int .i64 b1, .int .i64 a2, .int .i64 b2, .int .i64 a3, .int .i64 b3] 26)).alloc (.cells #[.slice ra rs.length rc, .int .i64 off, .slice za zs.length zc, .slice fa fs.length fc] 58)).alloc (.cells #[.slice a n cp] 59) := ⟨_, rfl⟩
  rw [← hw0]
  have B0 := hide (show Below w.heap.size w w0 by rw [hw0]; exact (by repeat (first | exact Below.refl _ _ | assumption | apply balloc | apply bdrew | (refine below_drewN ?_ _) | (refine bset ?_ (by first | (simp; done) | omega | (simp; omega)) _) | (refine bnext ?_ (by assumption)))))
  have KP := hide (fun (W : World) (hb : Below w0.heap.size w0 W) => (show W.cell? ⟨w.heap.size, 0, none⟩ = some (.int .i64 s) ∧ W.cell? ⟨w.heap.size, 1, none⟩ = some (.int .i64 a0) ∧ W.cell? ⟨w.heap.size, 2, none⟩ = some (.int .i64 b0) ∧ W.cell? ⟨w.heap.size, 3, none⟩ = some (.int .i64 a1) ∧ W.cell? ⟨w.heap.size, 4, none⟩ = some (.int .i64 b1) ∧ W.cell? ⟨w.heap.size, 5, none⟩ = some (.int .i64 a2) ∧ W.cell? ⟨w.heap.size, 6, none⟩ = some (.int .i64 b2) ∧ W.cell? ⟨w.heap.size, 7, none⟩ = some (.int .i64 a3) ∧ W.cell? ⟨w.heap.size, 8, none⟩ = some (.int .i64 b3) ∧ W.cell? ⟨w.heap.size + 1, 0, none⟩ = some (.slice ra rs.length rc) ∧ W.cell? ⟨w.heap.size + 1, 1, none⟩ = some (.int .i64 off) ∧ W.cell? ⟨w.heap.size + 1, 2, none⟩ = some (.slice za zs.length zc) ∧ W.cell? ⟨w.heap.size + 1, 3, none⟩ = some (.slice fa fs.length fc) ∧ W.cell? ⟨w.heap.size + 1 + 1, 0, none⟩ = some (.slice a n cp) ∧ Below w0.heap.size w0 W by
    obtain ⟨⟨⟨⟨m1, m2⟩, m3⟩, m4, m5⟩, ⟨m6, m7⟩, m8, m9⟩ := (show MdlAt w0 w.heap.size ⟨s, a0, b0, a1, b1, a2, b2, a3, b3⟩ by rw [hw0]; exact mdlAt_later (mdlAt_new w ⟨s, a0, b0, a1, b1, a2, b2, a3, b3⟩ 26) (by repeat (first | exact Below.refl _ _ | assumption | apply balloc | apply bdrew | (refine below_drewN ?_ _) | (refine bset ?_ (by first | (simp; done) | omega | (simp; omega)) _) | (refine bnext ?_ (by assumption)))))
    refine ⟨later hb m1, later hb m2, later hb m3, later hb m4, later hb m5, later hb m6, later hb m7, later hb m8, later hb m9, later hb ?_, later hb ?_, later hb ?_, later hb ?_, later hb ?_, hb⟩ <;> (rw [hw0]; exact (by simp [go_sem, World.cell?_alloc_past]))))
  clear hw0
  go_cut [8] from 11 to 21 (fun s8 wx => s8 = .int .i64 E ∧ Below w0.heap.size w0 wx)
  case first =>
    go_region_held3 (fun W => W.cell? ⟨w.heap.size, 0, none⟩ = some (.int .i64 s) ∧ W.cell? ⟨w.heap.size, 1, none⟩ = some (.int .i64 a0) ∧ W.cell? ⟨w.heap.size, 2, none⟩ = some (.int .i64 b0) ∧ W.cell? ⟨w.heap.size, 3, none⟩ = some (.int .i64 a1) ∧ W.cell? ⟨w.heap.size, 4, none⟩ = some (.int .i64 b1) ∧ W.cell? ⟨w.heap.size, 5, none⟩ = some (.int .i64 a2) ∧ W.cell? ⟨w.heap.size, 6, none⟩ = some (.int .i64 b2) ∧ W.cell? ⟨w.heap.size, 7, none⟩ = some (.int .i64 a3) ∧ W.cell? ⟨w.heap.size, 8, none⟩ = some (.int .i64 b3) ∧ W.cell? ⟨w.heap.size + 1, 0, none⟩ = some (.slice ra rs.length rc) ∧ W.cell? ⟨w.heap.size + 1, 1, none⟩ = some (.int .i64 off) ∧ W.cell? ⟨w.heap.size + 1, 2, none⟩ = some (.slice za zs.length zc) ∧ W.cell? ⟨w.heap.size + 1, 3, none⟩ = some (.slice fa fs.length fc) ∧ W.cell? ⟨w.heap.size + 1 + 1, 0, none⟩ = some (.slice a n cp) ∧ Below w0.heap.size w0 W)
      ((go_split_ands; refine KP.out _ ?_; exact (by repeat (first | exact Below.refl _ _ | assumption | apply balloc | apply bdrew | (refine below_drewN ?_ _) | (refine bset ?_ (by first | (simp; done) | omega | (simp; omega)) _) | (refine bnext ?_ (by assumption))))))
      (first
        | (go_at_call 70; refine (atMost_ex k3 _ _ _ HK3.out).mono ?_; rintro e wA ⟨rfl, hA, hbA⟩; (try simp at hA))
        | (go_at_call 51; refine (VM.out _).mono ?_; rintro e wB ⟨rfl, hB, hbB⟩; (try simp at hB))
        | (go_at_call 69; refine (VG.out _ (bnext B0.out (by exact (by repeat (first | exact Below.refl _ _ | assumption | apply balloc | apply bdrew | (refine below_drewN ?_ _) | (refine bset ?_ (by first | (simp; done) | omega | (simp; omega)) _) | (refine bnext ?_ (by assumption))))))).mono ?_; rintro e wC ⟨rfl, hC, hbC⟩; (try simp at hC))
        | (go_at_call 52; refine (unless_exif 3 _ _ k4 _ (k2 = true) rfl (TL.out _ (bnext B0.out (by exact (by repeat (first | exact Below.refl _ _ | assumption | apply balloc | apply bdrew | (refine below_drewN ?_ _) | (refine bset ?_ (by first | (simp; done) | omega | (simp; omega)) _) | (refine bnext ?_ (by assumption)))))) (by go_split_ands; assumption) (by go_split_ands; assumption))).mono ?_; rintro e wD ⟨rfl, hD, hbD⟩; (try simp at hD))
        | (go_at_call 50; go_loud (refine (firstError_is E [⟨2, 109, _, k1⟩, ⟨2, 109, _, k2⟩, ⟨5, 109, _, k3⟩, ⟨3, 109, _, k4⟩] _ _ _ (FE.out _ _ _ _) (by simp) (by simp) (cnds_four_at (by simp)) (tells_four (cnd_later hB (by repeat (first | exact Below.refl _ _ | assumption | apply balloc | apply bdrew | (refine bnext ?_ (by assumption))))) (fun _ => cnd_later hC (by repeat (first | exact Below.refl _ _ | assumption | apply balloc | apply bdrew | (refine bnext ?_ (by assumption))))) (fun _ _ => cnd_later hA (by repeat (first | exact Below.refl _ _ | assumption | apply balloc | apply bdrew | (refine bnext ?_ (by assumption))))) (fun _ e2 _ => cnd_later (hD e2) (by repeat (first | exact Below.refl _ _ | assumption | apply balloc | apply bdrew | (refine bnext ?_ (by assumption))))))).mono ?_); rintro e wE ⟨rfl, hbE⟩))
    all_goals (go_wp2_with fail; go_meet; exact ⟨rfl, by first | (go_split_ands; assumption) | exact (by repeat (first | exact Below.refl _ _ | assumption | apply balloc | apply bdrew | (refine below_drewN ?_ _) | (refine bset ?_ (by first | (simp; done) | omega | (simp; omega)) _) | (refine bnext ?_ (by assumption))))⟩)
  case rest =>
    obtain ⟨rfl, hbw⟩ := hcut
    have BW := hide hbw
    clear hbw VM VG TL HK3 FE
    have ⟨_, _, _, _, _, _, _, _, _, _, _, _, _, k0, _⟩ := KP.out _ BW.out
    by_cases hE : E = 0
    · subst hE
      obtain ⟨ti, hi, hz0, hz1, hz2⟩ := info_parts sets_info
      have HI := hide hi
      have HZ0 := hide hz0
      have HZ1 := hide hz1
      have HZ2 := hide hz2
      clear hi hz0 hz1 hz2 k0
      go_upto_region 6 with fail
      go_loopw [9, 10] (fun v i wr => ∃ (k : Nat) (f : Nat → Nat × Nat), k ≤ n - 1 ∧ i = .int .i64 ((k : Int) + 1) ∧ Hid (SetsAt wr w0.heap.size v k zs.length f P) ∧ Below w0.heap.size w0 wr) (fun _ i _ => (n : Int).toNat - (intOf i).toNat)
      case atStart => exact ⟨0, fun _ => (0, 0), by omega, rfl, hide (sets_nil _ _ _ _), BW.out⟩
      case round =>
        obtain ⟨k, f, hk, rfl, hst, hbw⟩ := hrel
        obtain ⟨b9, c9, rfl⟩ := sets_form hst.out
        obtain ⟨j, hj⟩ : ∃ j : Int, (k : Int) + 1 = j := ⟨_, rfl⟩
        rw [hj]
        have HJ := hide hj
        have BR := hide hbw
        have ⟨_, _, _, _, _, _, _, _, _, _, _, _, _, k0, _⟩ := KP.out _ hbw
        by_cases hlt : k + 1 < n
        · have d : decide (j < (n : Int)) = true := decide_eq_true (by omega)
          obtain ⟨b, o, rfl, hcs⟩ : ∃ b o, a = some ⟨b, o, none⟩ ∧ ∀ i, i < cs.length → w.cell? ⟨b, o + i, none⟩ = some (.int .i64 (cs.getD i 0)) := by
            rcases HC.out with h | h
            · subst h; have := HN.out; simp at this; omega
            · exact h
          have C0 := hide (hcs k (by rw [HN.out]; omega))
          have C1 := hide (hcs (k + 1) (by rw [HN.out]; omega))
          have PK := hide (fun W (hb : Below w.heap.size w W) => PR.out (by simp) W k hlt hb)
          generalize cs.getD k 0 = ck at *
          generalize cs.getD (k + 1) 0 = cd at *
          have j0 : 0 ≤ j := by omega
          have j1 : j < (n : Int) := by omega
          have jt : j.toNat = k + 1 := by omega
          have jw : wrap64 (j - 1) = (k : Int) := (IntWalk.i64_left _).symm.trans ((IntWalk.i64_in _ (by omega)).trans (by omega))
          have jw2 : IntKind.i64.wrap (j - 1) = (k : Int) := (IntWalk.i64_in _ (by omega)).trans (by omega)
          have ja : IntKind.i64.wrap (j + 1) = j + 1 := IntWalk.i64_in _ (by omega)
          have i0 : 0 ≤ (k : Int) := by omega
          have i1 : (k : Int) < (n : Int) := by omega
          have KQ := hide (fun (W : World) (hb : Below w0.heap.size w0 W) => (show W.cell? ⟨w.heap.size, 0, none⟩ = some (.int .i64 s) ∧ W.cell? ⟨w.heap.size, 1, none⟩ = some (.int .i64 a0) ∧ W.cell? ⟨w.heap.size, 2, none⟩ = some (.int .i64 b0) ∧ W.cell? ⟨w.heap.size, 3, none⟩ = some (.int .i64 a1) ∧ W.cell? ⟨w.heap.size, 4, none⟩ = some (.int .i64 b1) ∧ W.cell? ⟨w.heap.size, 5, none⟩ = some (.int .i64 a2) ∧ W.cell? ⟨w.heap.size, 6, none⟩ = some (.int .i64 b2) ∧ W.cell? ⟨w.heap.size, 7, none⟩ = some (.int .i64 a3) ∧ W.cell? ⟨w.heap.size, 8, none⟩ = some (.int .i64 b3) ∧ W.cell? ⟨w.heap.size + 1, 0, none⟩ = some (.slice ra rs.length rc) ∧ W.cell? ⟨w.heap.size + 1, 1, none⟩ = some (.int .i64 off) ∧ W.cell? ⟨w.heap.size + 1, 2, none⟩ = some (.slice za zs.length zc) ∧ W.cell? ⟨w.heap.size + 1, 3, none⟩ = some (.slice fa fs.length fc) ∧ W.cell? ⟨w.heap.size + 1 + 1, 0, none⟩ = some (.slice (some ⟨b, o, none⟩) n cp) ∧ W.cell? ⟨b, o + k, none⟩ = some (.int .i64 ck) ∧ W.cell? ⟨b, o + (k + 1), none⟩ = some (.int .i64 cd) ∧ Hid (Below w0.heap.size w0 W) from
            have ⟨m1, m2, m3, m4, m5, m6, m7, m8, m9, q1, q2, q3, q4, q5, _⟩ := KP.out W hb
            ⟨m1, m2, m3, m4, m5, m6, m7, m8, m9, q1, q2, q3, q4, q5, later (bnext B0.out hb) C0.out, later (bnext B0.out hb) C1.out, hb⟩))
          clear hj hbw hcs
          go_upto_region 8 with fail
          clear k0
          refine wp_region_held_drew (S := (fun W => W.cell? ⟨w.heap.size, 0, none⟩ = some (.int .i64 s) ∧ W.cell? ⟨w.heap.size, 1, none⟩ = some (.int .i64 a0) ∧ W.cell? ⟨w.heap.size, 2, none⟩ = some (.int .i64 b0) ∧ W.cell? ⟨w.heap.size, 3, none⟩ = some (.int .i64 a1) ∧ W.cell? ⟨w.heap.size, 4, none⟩ = some (.int .i64 b1) ∧ W.cell? ⟨w.heap.size, 5, none⟩ = some (.int .i64 a2) ∧ W.cell? ⟨w.heap.size, 6, none⟩ = some (.int .i64 b2) ∧ W.cell? ⟨w.heap.size, 7, none⟩ = some (.int .i64 a3) ∧ W.cell? ⟨w.heap.size, 8, none⟩ = some (.int .i64 b3) ∧ W.cell? ⟨w.heap.size + 1, 0, none⟩ = some (.slice ra rs.length rc) ∧ W.cell? ⟨w.heap.size + 1, 1, none⟩ = some (.int .i64 off) ∧ W.cell? ⟨w.heap.size + 1, 2, none⟩ = some (.slice za zs.length zc) ∧ W.cell? ⟨w.heap.size + 1, 3, none⟩ = some (.slice fa fs.length fc) ∧ W.cell? ⟨w.heap.size + 1 + 1, 0, none⟩ = some (.slice (some ⟨b, o, none⟩) n cp) ∧ W.cell? ⟨b, o + k, none⟩ = some (.int .i64 ck) ∧ W.cell? ⟨b, o + (k + 1), none⟩ = some (.int .i64 cd) ∧ Hid (Below w0.heap.size w0 W))) (by kernel_rfl) (KQ.out _ (bdrew BR.out)) (fun h0 => ?_)
          (refine wpAnyH_take (i := 0) (v := ?_) rfl (by kernel_rfl) (by kernel_rfl) (by kernel_rfl) (fun _ _ _ h => h) (Or.inl ⟨by kernel_rfl, ?_⟩) (by assumption) ?_; rotate_left; focus (intro w hSw; (try dsimp only at hSw); go_simp; try with_reducible rfl))
          (simp only [Act.put, List.getElem_toArray, List.getElem_cons_zero, List.getElem_cons_succ, List.setIfInBounds_toArray, List.set_cons_zero, List.set_cons_succ])
          (refine wpAnyH_take (i := 1) (v := ?_) rfl (by kernel_rfl) (by kernel_rfl) (by kernel_rfl) (fun _ _ _ h => h) (Or.inl ⟨by kernel_rfl, ?_⟩) (by assumption) ?_; rotate_left; focus (intro w hSw; (try dsimp only at hSw); go_simp; try with_reducible rfl))
          (simp only [Act.put, List.getElem_toArray, List.getElem_cons_zero, List.getElem_cons_succ, List.setIfInBounds_toArray, List.set_cons_zero, List.set_cons_succ])
          (refine wpAnyH_take (i := 2) (v := ?_) rfl (by kernel_rfl) (by kernel_rfl) (by kernel_rfl) (fun _ _ _ h => h) (Or.inl ⟨by kernel_rfl, ?_⟩) (by assumption) ?_; rotate_left; focus (intro w hSw; (try dsimp only at hSw); go_simp; try with_reducible rfl))
          (simp only [Act.put, List.getElem_toArray, List.getElem_cons_zero, List.getElem_cons_succ, List.setIfInBounds_toArray, List.set_cons_zero, List.set_cons_succ])
          (refine wpAnyH_take (i := 3) (v := ?_) rfl (by kernel_rfl) (by kernel_rfl) (by kernel_rfl) (fun _ _ _ h => h) (Or.inl ⟨by kernel_rfl, ?_⟩) (by assumption) ?_; rotate_left; focus (intro w hSw; (try dsimp only at hSw); go_simp; try with_reducible rfl))
          (simp only [Act.put, List.getElem_toArray, List.getElem_cons_zero, List.getElem_cons_succ, List.setIfInBounds_toArray, List.set_cons_zero, List.set_cons_succ])
          (refine wpAnyH_take (i := 4) (v := ?_) rfl (by kernel_rfl) (by kernel_rfl) (by kernel_rfl) (fun _ _ _ h => h) (Or.inl ⟨by kernel_rfl, ?_⟩) (by assumption) ?_; rotate_left; focus (intro w hSw; (try dsimp only at hSw); go_simp; try with_reducible rfl))
          (simp only [Act.put, List.getElem_toArray, List.getElem_cons_zero, List.getElem_cons_succ, List.setIfInBounds_toArray, List.set_cons_zero, List.set_cons_succ])
          (refine wpAnyH_take (i := 5) (v := ?_) rfl (by kernel_rfl) (by kernel_rfl) (by kernel_rfl) (fun _ _ _ h => h) (Or.inl ⟨by kernel_rfl, ?_⟩) (by assumption) ?_; rotate_left; focus (intro w hSw; (try dsimp only at hSw); go_simp; try with_reducible rfl))
          (simp only [Act.put, List.getElem_toArray, List.getElem_cons_zero, List.getElem_cons_succ, List.setIfInBounds_toArray, List.set_cons_zero, List.set_cons_succ])
          (refine wpAnyH_take (i := 6) (v := ?_) rfl (by kernel_rfl) (by kernel_rfl) (by kernel_rfl) (fun _ _ _ h => h) (Or.inl ⟨by kernel_rfl, ?_⟩) (by assumption) ?_; rotate_left; focus (intro w hSw; (try dsimp only at hSw); go_simp; try with_reducible rfl))
          (simp only [Act.put, List.getElem_toArray, List.getElem_cons_zero, List.getElem_cons_succ, List.setIfInBounds_toArray, List.set_cons_zero, List.set_cons_succ])
          (refine wpAnyH_take (i := 7) (v := ?_) rfl (by kernel_rfl) (by kernel_rfl) (by kernel_rfl) (fun _ _ _ h => h) (Or.inl ⟨by kernel_rfl, ?_⟩) (by assumption) ?_; rotate_left; focus (intro w hSw; (try dsimp only at hSw); go_simp; try with_reducible rfl))
          (simp only [Act.put, List.getElem_toArray, List.getElem_cons_zero, List.getElem_cons_succ, List.setIfInBounds_toArray, List.set_cons_zero, List.set_cons_succ])
          (refine wpAnyH_take (i := 8) (v := ?_) rfl (by kernel_rfl) (by kernel_rfl) (by kernel_rfl) (fun _ _ _ h => h) (Or.inl ⟨by kernel_rfl, ?_⟩) (by assumption) ?_; rotate_left; focus (intro w hSw; (try dsimp only at hSw); go_simp; try with_reducible rfl))
          (simp only [Act.put, List.getElem_toArray, List.getElem_cons_zero, List.getElem_cons_succ, List.setIfInBounds_toArray, List.set_cons_zero, List.set_cons_succ])
          (refine wpAnyH_take (i := 9) (v := ?_) rfl (by kernel_rfl) (by kernel_rfl) (by kernel_rfl) (fun _ _ _ h => h) (Or.inl ⟨by kernel_rfl, ?_⟩) (by assumption) ?_; rotate_left; focus (intro w hSw; (try dsimp only at hSw); go_simp; try with_reducible rfl))
          (simp only [Act.put, List.getElem_toArray, List.getElem_cons_zero, List.getElem_cons_succ, List.setIfInBounds_toArray, List.set_cons_zero, List.set_cons_succ])
          (refine wpAnyH_take (i := 10) (v := ?_) rfl (by kernel_rfl) (by kernel_rfl) (by kernel_rfl) (fun _ _ _ h => h) (Or.inl ⟨by kernel_rfl, ?_⟩) (by assumption) ?_; rotate_left; focus (intro w hSw; (try dsimp only at hSw); go_simp; try with_reducible rfl))
          (simp only [Act.put, List.getElem_toArray, List.getElem_cons_zero, List.getElem_cons_succ, List.setIfInBounds_toArray, List.set_cons_zero, List.set_cons_succ])
          (refine wpAnyH_take (i := 11) (v := ?_) rfl (by kernel_rfl) (by kernel_rfl) (by kernel_rfl) (fun _ _ _ h => h) (Or.inl ⟨by kernel_rfl, ?_⟩) (by assumption) ?_; rotate_left; focus (intro w hSw; (try dsimp only at hSw); go_simp; try with_reducible rfl))
          (simp only [Act.put, List.getElem_toArray, List.getElem_cons_zero, List.getElem_cons_succ, List.setIfInBounds_toArray, List.set_cons_zero, List.set_cons_succ])
          (refine wpAnyH_ready (rs := [12]) (by kernel_rfl) (by simp) ?_; refine AllReadyH.cons rfl (fun K hK => ?_) AllReadyH.nil)
          go_simp
          go_at_call 74; refine (PK.out _ (bnext B0.out (bdrew BR.out))).mono ?_; rintro e wA ⟨q, rfl, hrow, hqs, hbA⟩
          have bA : Below wr.heap.size wr wA := bnext (bdrew (Below.refl _ _)) hbA
          have qA : wr.heap.size ≤ q := hqs
          (try go_wp2_with fail)
          refine hK.out _ _ (KQ.out _ (bnext BR.out bA)) (fun h1 => ?_)
          clear hK K
          (try simp only [Act.put, List.setIfInBounds_toArray, List.set_cons_zero, List.set_cons_succ])
          (refine wpAnyH_ready (rs := [13]) (by kernel_rfl) (by simp) ?_; refine AllReadyH.cons rfl (fun K hK => ?_) AllReadyH.nil)
          go_simp
          refine hK.out _ _ (KQ.out _ (balloc (bnext BR.out bA))) (fun h4 => ?_)
          clear hK K
          (try simp only [Act.put, List.setIfInBounds_toArray, List.set_cons_zero, List.set_cons_succ])
          (refine wpAnyH_ready (rs := [14]) (by kernel_rfl) (by simp) ?_; refine AllReadyH.cons rfl (fun K hK => ?_) AllReadyH.nil)
          have bD : Below wr.heap.size wr (wA.alloc (.cells #[.slice (some ⟨q, 0, none⟩) zs.length zs.length] 68)) := balloc bA
          have SW := hide (show w0.heap.size ≤ wr.heap.size from BR.out.size)
          refine step_append_lies _ rfl (.tmp 31) (.tmp 44) 63 rfl w0.heap.size 68 ti (.slice none 0 0) 1 24 Tryz.underlying63 HI.out HZ0.out HZ1.out HZ2.out rfl (by decide) _ k ((List.range k).map fun i => Value.slice (some ⟨(f i).1, 0, none⟩) zs.length (f i).2) rfl (owns_later hst.out.1 bD) _ 1 1 [.slice (some ⟨q, 0, none⟩) zs.length zs.length] rfl rfl (by intro j u hu; match j, hu with | 0, hu => (simp at hu; subst hu; simp [go_sem, Addr.add]) | i + 1, hu => simp at hu) (by intro u hu; simp at hu; subst hu; rfl) (by omega) (by unfold maxLen; omega) (by omega) (Nat.le_trans SW.out bD.size) _ rfl ?_
          intro g gc w6 hown6 hgrow hlie hlt6
          have hB6 : Below w0.heap.size w0 w6 := Below.grown (bnext BR.out bD) hgrow (Nat.le_trans SW.out bD.size) (fun q hq => (hst.out.1.lt q hq).1)
          have SP := hide (sets_push hst.out bD qA (Nat.lt_of_lt_of_le hrow.lt (by simp)) (fun j hj => (hrow.alloc _).cell hj) hown6 hgrow hlie (Nat.le_refl _))
          refine hK.out _ _ (KQ.out _ hB6) (fun h5 => ?_)
          clear hK K
          (try simp only [Act.put, List.setIfInBounds_toArray, List.set_cons_zero, List.set_cons_succ])
          (refine wpAnyH_take (i := 15) (v := ?_) rfl (by kernel_rfl) (by kernel_rfl) (by kernel_rfl) (fun _ _ _ h => h) (Or.inl ⟨by kernel_rfl, ?_⟩) (by assumption) ?_; rotate_left; focus (intro w hSw; (try dsimp only at hSw); go_simp; try with_reducible rfl))
          (simp only [Act.put, List.getElem_toArray, List.getElem_cons_zero, List.getElem_cons_succ, List.setIfInBounds_toArray, List.set_cons_zero, List.set_cons_succ])
          refine wpAnyH_done (by kernel_rfl) ?_ _
          all_goals
            have B6 := hide hB6
            obtain ⟨f', O6⟩ := SP.out
            have N6 := hide O6
            clear hown6 hgrow hlie hlt6 hB6 O6 SP hrow hqs bA bD qA
            go_wp2_with fail
            go_roundw
            case rel => exact ⟨k + 1, f', by omega, congrArg _ (by have := HJ.out; omega), N6, B6.out⟩
            case measure => simp [intOf]; omega
        · have d : decide (j < (n : Int)) = false := decide_eq_false (by omega)
          obtain rfl : n - 1 = k := by omega
          go_wp2_with fail
          exact bodyPost_ret (v := .tuple #[_, .int .i64 0]) (by simp [results, Tryz.results33, go_sem]) rfl ⟨bnext B0.out BR.out, .inl ⟨rfl, _, f, rfl, sets_mono hst.out B0.out.size⟩⟩
    · have d1 : (E != 0) = true := by simpa using hE
      have d2 : (E == 0) = false := by simpa using hE
      have HE := hide hE
      clear hE PR
      go_wp2_with fail
      exact bodyPost_ret (v := .tuple #[.slice none 0 0, .int .i64 E]) (by simp [results, Tryz.results33, go_sem]) rfl ⟨bnext B0.out BW.out, .inr ⟨HE.out, rfl⟩⟩
end Go.Proofs.YtimfbjnpalgmcaaGreat
