/-
  DefectTrue: the walk.
-/
import Derived.Test.YtlpdbjkpgfpjjaaGreatDtM
import Derived.Test.YtlpdbjkpgfpjjaaGreatDgK
namespace Go.Proofs.YtlpdbjkpgfpjjaaGreat
set_option linter.unusedSimpArgs false
set_option linter.unusedVariables false
open Go.RowKit

/-- A site and a truth in memory. -/
def SiAt (W : World) (i : Nat) (s a0 b0 a1 b1 a2 b2 a3 b3 x y p q t0 t1 t2 t3 tr tg : Int) : Prop := W.cell? ⟨i, 0, none⟩ = some (.int .i64 s) ∧ W.cell? ⟨i, 1, none⟩ = some (.int .i64 a0) ∧ W.cell? ⟨i, 2, none⟩ = some (.int .i64 b0) ∧ W.cell? ⟨i, 3, none⟩ = some (.int .i64 a1) ∧ W.cell? ⟨i, 4, none⟩ = some (.int .i64 b1) ∧ W.cell? ⟨i, 5, none⟩ = some (.int .i64 a2) ∧ W.cell? ⟨i, 6, none⟩ = some (.int .i64 b2) ∧ W.cell? ⟨i, 7, none⟩ = some (.int .i64 a3) ∧ W.cell? ⟨i, 8, none⟩ = some (.int .i64 b3) ∧ W.cell? ⟨i, 9, none⟩ = some (.int .i64 x) ∧ W.cell? ⟨i, 10, none⟩ = some (.int .i64 y) ∧ W.cell? ⟨i, 11, none⟩ = some (.int .i64 p) ∧ W.cell? ⟨i, 12, none⟩ = some (.int .i64 q) ∧ W.cell? ⟨i + 1, 0, none⟩ = some (.int .u16 t0) ∧ W.cell? ⟨i + 1, 1, none⟩ = some (.int .u16 t1) ∧ W.cell? ⟨i + 1, 2, none⟩ = some (.int .u16 t2) ∧ W.cell? ⟨i + 1, 3, none⟩ = some (.int .u16 t3) ∧ W.cell? ⟨i + 1, 4, none⟩ = some (.int .u16 tr) ∧ W.cell? ⟨i + 1, 5, none⟩ = some (.int .u16 tg)
theorem siAt_later {w W : World} {i : Nat} {s a0 b0 a1 b1 a2 b2 a3 b3 x y p q t0 t1 t2 t3 tr tg : Int} (h : SiAt w i s a0 b0 a1 b1 a2 b2 a3 b3 x y p q t0 t1 t2 t3 tr tg) (hb : Below w.heap.size w W) : SiAt W i s a0 b0 a1 b1 a2 b2 a3 b3 x y p q t0 t1 t2 t3 tr tg := by
  obtain ⟨c0, c1, c2, c3, c4, c5, c6, c7, c8, c9, c10, c11, c12, c13, c14, c15, c16, c17, c18⟩ := h
  exact ⟨later hb c0, later hb c1, later hb c2, later hb c3, later hb c4, later hb c5, later hb c6, later hb c7, later hb c8, later hb c9, later hb c10, later hb c11, later hb c12, later hb c13, later hb c14, later hb c15, later hb c16, later hb c17, later hb c18⟩
set_option maxHeartbeats 1600000 in
theorem siAt_new (w : World) (T U : TypeId) (s a0 b0 a1 b1 a2 b2 a3 b3 x y p q t0 t1 t2 t3 tr tg : Int) : SiAt ((w.alloc (.cells #[.int .i64 s, .int .i64 a0, .int .i64 b0, .int .i64 a1, .int .i64 b1, .int .i64 a2, .int .i64 b2, .int .i64 a3, .int .i64 b3, .int .i64 x, .int .i64 y, .int .i64 p, .int .i64 q] T)).alloc (.cells #[.int .u16 t0, .int .u16 t1, .int .u16 t2, .int .u16 t3, .int .u16 tr, .int .u16 tg] U)) w.heap.size s a0 b0 a1 b1 a2 b2 a3 b3 x y p q t0 t1 t2 t3 tr tg := by
  refine ⟨?_, ?_, ?_, ?_, ?_, ?_, ?_, ?_, ?_, ?_, ?_, ?_, ?_, ?_, ?_, ?_, ?_, ?_, ?_⟩ <;> exact (by simp [go_sem, World.cell?_alloc_past])
set_option maxRecDepth 100000 in
set_option maxHeartbeats 3200000 in
theorem defectTrue_bad (s a0 b0 a1 b1 a2 b2 a3 b3 x y p q t0 t1 t2 t3 tr tg wt : Int) (w : World) (h : regQ ⟨s, a0, b0, a1, b1, a2, b2, a3, b3⟩ (x, y) (p, q) = (0, 2)) :
    Calls Tryz.prog 9 #[.agg #[.int .i64 s, .int .i64 a0, .int .i64 b0, .int .i64 a1, .int .i64 b1, .int .i64 a2, .int .i64 b2, .int .i64 a3, .int .i64 b3, .int .i64 x, .int .i64 y, .int .i64 p, .int .i64 q], .agg #[.int .u16 t0, .int .u16 t1, .int .u16 t2, .int .u16 t3, .int .u16 tr, .int .u16 tg], .int .u8 wt] w fun e w' => e = .returned (.bool true) ∧ Below w.heap.size w w' := by
  have RG := hide (fun W => (show Calls Tryz.prog 15 #[.agg #[.int .i64 s, .int .i64 a0, .int .i64 b0, .int .i64 a1, .int .i64 b1, .int .i64 a2, .int .i64 b2, .int .i64 a3, .int .i64 b3], .agg #[.int .i64 x, .int .i64 y], .agg #[.int .i64 p, .int .i64 q]] W fun e w' => e = .returned (.tuple #[.int .u8 0, .int .i64 2]) ∧ Below W.heap.size W w' by
    have c := bigRegions_any ⟨s, a0, b0, a1, b1, a2, b2, a3, b3⟩ x y p q W
    rw [h] at c
    exact c))
  clear h
  go_enter Tryz.func9, Tryz.ntmps9
  go_wp2_with fail
  refine (RG.out _).mono ?_
  rintro e w1 ⟨rfl, hb1⟩
  go_wp2_with fail
  refine (known5_any _).mono ?_
  rintro e w2 ⟨rfl, hb2⟩
  go_wp2_with fail
  go_ret
  exact ⟨rfl, (by repeat (first | exact Below.refl _ _ | assumption | apply balloc | apply bdrew | (refine below_drewN ?_ _) | (refine bset ?_ (by first | (simp; done) | omega | (simp; omega)) _) | (refine bnext ?_ (by assumption))))⟩
set_option maxRecDepth 100000 in
set_option maxHeartbeats 6400000 in
theorem defectTrue_good (s a0 b0 a1 b1 a2 b2 a3 b3 x y p q t0 t1 t2 t3 tr tg wt v g wv j : Int) (S A K : Nat) (w : World)
    (RG : Hid (∀ W, Calls Tryz.prog 15 #[.agg #[.int .i64 s, .int .i64 a0, .int .i64 b0, .int .i64 a1, .int .i64 b1, .int .i64 a2, .int .i64 b2, .int .i64 a3, .int .i64 b3], .agg #[.int .i64 x, .int .i64 y], .agg #[.int .i64 p, .int .i64 q]] W fun e w' => e = .returned (.tuple #[.int .u8 (S : Int), .int .i64 0]) ∧ Below W.heap.size W w'))
    (PV : Hid (∀ W, Calls Tryz.prog 42 #[.agg #[.int .i64 x, .int .i64 y], .int .u16 tr] W fun e w' => e = .returned (.int .i64 v) ∧ Below W.heap.size W w'))
    (PG : Hid (∀ W, Calls Tryz.prog 42 #[.agg #[.int .i64 p, .int .i64 q], .int .u16 tg] W fun e w' => e = .returned (.int .i64 g) ∧ Below W.heap.size W w'))
    (RE : Hid (∀ W, Calls Tryz.prog 43 #[.agg #[.int .i64 s, .int .i64 a0, .int .i64 b0, .int .i64 a1, .int .i64 b1, .int .i64 a2, .int .i64 b2, .int .i64 a3, .int .i64 b3], .agg #[.int .u16 t0, .int .u16 t1, .int .u16 t2, .int .u16 t3, .int .u16 tr, .int .u16 tg], .int .i64 v, .int .i64 g] W fun e w' => e = .returned (.int .i64 (K : Int)) ∧ Below W.heap.size W w'))
    (ON : Hid (∀ W, Calls Tryz.prog 15 #[.agg #[.int .i64 s, .int .i64 a0, .int .i64 b0, .int .i64 a1, .int .i64 b1, .int .i64 a2, .int .i64 b2, .int .i64 a3, .int .i64 b3], .agg #[.int .i64 v, .int .i64 v], .agg #[.int .i64 g, .int .i64 g]] W fun e w' => e = .returned (.tuple #[.int .u8 (A : Int), .int .i64 0]) ∧ Below W.heap.size W w'))
    (JU : Hid (∀ W, Calls Tryz.prog 21 #[.int .u8 (A : Int), .int .u8 wv] W fun e w' => e = .returned (.tuple #[.int .u8 j, .int .i64 0]) ∧ Below W.heap.size W w'))
    (hw : Hid (bits BinOp.and IntKind.u8 wt 31 = wv)) (hS : Hid (S < 32)) (hK : Hid (K < 5)) (inb : Bool) (e1 : Hid (bits BinOp.and IntKind.u8 ((S : Int) / 2 ^ K) 1 = 1)) (e2 : Hid (bits BinOp.and IntKind.u8 ((A : Int) / 2 ^ K) 1 = 1)) (e3 : Hid (bits BinOp.andNot IntKind.u8 (A : Int) (S : Int) = 0)) (e4 : Hid (bits BinOp.and IntKind.u8 (wv / 2 ^ K) 1 = if inb then 1 else 0)) (hj : Hid ((inb = true → j ≠ 3) ∧ (inb = false → j ≠ 1))) :
    Calls Tryz.prog 9 #[.agg #[.int .i64 s, .int .i64 a0, .int .i64 b0, .int .i64 a1, .int .i64 b1, .int .i64 a2, .int .i64 b2, .int .i64 a3, .int .i64 b3, .int .i64 x, .int .i64 y, .int .i64 p, .int .i64 q], .agg #[.int .u16 t0, .int .u16 t1, .int .u16 t2, .int .u16 t3, .int .u16 tr, .int .u16 tg], .int .u8 wt] w fun e w' => e = .returned (.bool true) ∧ Below w.heap.size w w' := by
  have SN := hide (siAt_new w 80 84 s a0 b0 a1 b1 a2 b2 a3 b3 x y p q t0 t1 t2 t3 tr tg)
  go_enter Tryz.func9, Tryz.ntmps9
  go_wp2_with fail
  refine (RG.out _).mono ?_
  rintro e w1 ⟨rfl, hb1⟩
  have S1 := hide (siAt_later SN.out hb1)
  have B1 := hide (show Below w.heap.size w w1 from (by repeat (first | exact Below.refl _ _ | assumption | apply balloc | apply bdrew | (refine below_drewN ?_ _) | (refine bset ?_ (by first | (simp; done) | omega | (simp; omega)) _) | (refine bnext ?_ (by assumption)))))
  clear hb1 SN RG
  go_upto_region 4 with fail
  have KP := hide (fun (W : World) (hb : Below w1.heap.size w1 W) => (show W.cell? ⟨w.heap.size, 9, none⟩ = some (.int .i64 x) ∧ W.cell? ⟨w.heap.size, 10, none⟩ = some (.int .i64 y) ∧ W.cell? ⟨w.heap.size, 11, none⟩ = some (.int .i64 p) ∧ W.cell? ⟨w.heap.size, 12, none⟩ = some (.int .i64 q) ∧ W.cell? ⟨w.heap.size + 1, 4, none⟩ = some (.int .u16 tr) ∧ W.cell? ⟨w.heap.size + 1, 5, none⟩ = some (.int .u16 tg) ∧ Below w1.heap.size w1 W from
    have ⟨m0, m1, m2, m3, m4, m5, m6, m7, m8, m9, m10, m11, m12, m13, m14, m15, m16, m17, m18⟩ := siAt_later S1.out hb
    ⟨m9, m10, m11, m12, m17, m18, hb⟩))
  go_cut [9, 10] from 33 to 43 (fun s9 s10 wx => s9 = .int .i64 v ∧ s10 = .int .i64 g ∧ Below w1.heap.size w1 wx)
  case first =>
    go_region_held3 (fun W => W.cell? ⟨w.heap.size, 9, none⟩ = some (.int .i64 x) ∧ W.cell? ⟨w.heap.size, 10, none⟩ = some (.int .i64 y) ∧ W.cell? ⟨w.heap.size, 11, none⟩ = some (.int .i64 p) ∧ W.cell? ⟨w.heap.size, 12, none⟩ = some (.int .i64 q) ∧ W.cell? ⟨w.heap.size + 1, 4, none⟩ = some (.int .u16 tr) ∧ W.cell? ⟨w.heap.size + 1, 5, none⟩ = some (.int .u16 tg) ∧ Below w1.heap.size w1 W)
      ((go_split_ands; refine KP.out _ ?_; exact (by repeat (first | exact Below.refl _ _ | assumption | apply balloc | apply bdrew | (refine below_drewN ?_ _) | (refine bset ?_ (by first | (simp; done) | omega | (simp; omega)) _) | (refine bnext ?_ (by assumption))))))
      (first | (go_at_call_of 42 tr; refine (PV.out _).mono ?_; first | (have hq := hbA; clear hq; rintro e wB ⟨rfl, hbB⟩) | (rintro e wA ⟨rfl, hbA⟩)) | (go_at_call_of 42 tg; refine (PG.out _).mono ?_; first | (have hq := hbA; clear hq; rintro e wB ⟨rfl, hbB⟩) | (rintro e wA ⟨rfl, hbA⟩)))
    all_goals (go_wp2_with fail; go_meet; exact ⟨rfl, rfl, by go_split_ands; assumption⟩)
  case rest =>
    obtain ⟨rfl, rfl, hb2⟩ := hcut
    have S2 := hide (siAt_later S1.out hb2)
    have B2 := hide (bnext B1.out hb2)
    clear hb2 S1 B1 KP PV PG
    have ⟨m0, m1, m2, m3, m4, m5, m6, m7, m8, m9, m10, m11, m12, m13, m14, m15, m16, m17, m18⟩ := S2.out
    go_wp2_with fail
    refine (RE.out _).mono ?_
    rintro e w3 ⟨rfl, hb3⟩
    clear m0 m1 m2 m3 m4 m5 m6 m7 m8 m9 m10 m11 m12 m13 m14 m15 m16 m17 m18
    have ⟨m0, m1, m2, m3, m4, m5, m6, m7, m8, m9, m10, m11, m12, m13, m14, m15, m16, m17, m18⟩ := siAt_later S2.out hb3
    have B3 := hide (bnext B2.out hb3)
    clear hb3 S2 B2 RE
    go_wp2_with fail
    refine (ON.out _).mono ?_
    rintro e w4 ⟨rfl, hb4⟩
    have B4 := hide (bnext B3.out hb4)
    clear m0 m1 m2 m3 m4 m5 m6 m7 m8 m9 m10 m11 m12 m13 m14 m15 m16 m17 m18 hb4 B3 ON
    have d1 : decide ((31 : Int) < (S : Int)) = false := decide_eq_false (by have := hS.out; omega)
    have k0 : 0 ≤ (K : Int) := by omega
    have k1 : (K : Int) < 5 := by have := hK.out; omega
    have f1 := e1.out
    have f2 := e2.out
    have f3 := e3.out
    have f5 := hw.out
    clear e1 e2 e3 hw hS hK
    go_upto_region 9 with fail
    go_wp2_with fail
    refine (JU.out _).mono ?_
    rintro e w5 ⟨rfl, hb5⟩
    have B5 := hide (bnext B4.out hb5)
    clear hb5 B4 JU f1 f2 f3 f5
    cases inb with
    | true =>
      have f4 : bits BinOp.and IntKind.u8 (wv / 2 ^ K) 1 = 1 := e4.out
      have j3 : (j != 3) = true := by have := hj.out.1 rfl; simpa using this
      clear e4 hj
      by_cases hj1 : j = 1
      · have j1 : (j != 1) = false := by simp [hj1]
        clear hj1
        go_wp2_with fail
        refine (known5_any _).mono ?_
        rintro e w6 ⟨rfl, hb6⟩
        go_wp2_with fail
        go_ret
        exact ⟨rfl, bnext B5.out hb6⟩
      · have j1 : (j != 1) = true := by simpa using hj1
        clear hj1
        go_wp2_with fail
        refine (known5_any _).mono ?_
        rintro e w6 ⟨rfl, hb6⟩
        go_wp2_with fail
        go_ret
        exact ⟨rfl, bnext B5.out hb6⟩
    | false =>
      have f4 : bits BinOp.and IntKind.u8 (wv / 2 ^ K) 1 = 0 := e4.out
      have j1 : (j != 1) = true := by have := hj.out.2 rfl; simpa using this
      clear e4 hj
      by_cases hj3 : j = 3
      · have j3 : (j != 3) = false := by simp [hj3]
        clear hj3
        go_wp2_with fail
        refine (known5_any _).mono ?_
        rintro e w6 ⟨rfl, hb6⟩
        go_wp2_with fail
        go_ret
        exact ⟨rfl, bnext B5.out hb6⟩
      · have j3 : (j != 3) = true := by simpa using hj3
        clear hj3
        go_wp2_with fail
        refine (known5_any _).mono ?_
        rintro e w6 ⟨rfl, hb6⟩
        go_wp2_with fail
        go_ret
        exact ⟨rfl, bnext B5.out hb6⟩
theorem regN_bit {m : Mdl} {v g : Int × Int} {k : Nat} (hk : k < 5) (h : canB m v g k = true) : regN m v g / 2 ^ k % 2 = 1 := by
  have := setN_bit (canB m v g) 5 k hk
  rw [h] at this
  exact this
theorem regN_can {m : Mdl} {v g : Int × Int} {k : Nat} (hk : k < 5) (h : regN m v g / 2 ^ k % 2 = 1) : canB m v g k = true := by
  have e := setN_bit (canB m v g) 5 k hk
  cases c : canB m v g k with
  | true => rfl
  | false => rw [c] at e; have : regN m v g / 2 ^ k % 2 = 0 := e; omega
theorem defectTrue_walk (m : Mdl) (x y p q : Int) (t : Tru) (wt : Int) (w : World) (ht : TruOk t) (w0 : 0 ≤ wt) (w1 : wt ≤ 255) :
    Calls Tryz.prog 9 #[.agg #[.int .i64 m.s, .int .i64 m.a0, .int .i64 m.b0, .int .i64 m.a1, .int .i64 m.b1, .int .i64 m.a2, .int .i64 m.b2, .int .i64 m.a3, .int .i64 m.b3, .int .i64 x, .int .i64 y, .int .i64 p, .int .i64 q], truV t, .int .u8 wt] w fun e w' => e = .returned (.bool true) ∧ Below w.heap.size w w' := by
  by_cases hE : regE m (x, y) (p, q) = 0
  · have ok : mdlOk m = true ∧ rgOk 1000000 (x, y) = true ∧ grOk (p, q) = true := by
      unfold regE at hE
      cases h1 : mdlOk m
      · rw [h1] at hE; simp at hE
      · rw [h1] at hE
        cases h2 : rgOk 1000000 (x, y)
        · rw [h2] at hE; simp at hE
        · rw [h2] at hE
          cases h3 : grOk (p, q)
          · rw [h3] at hE; simp at hE
          · exact ⟨rfl, rfl, rfl⟩
    obtain ⟨o1, o2, o3⟩ := ok
    have hm := mdlOk_of o1
    have r2 : 0 ≤ x ∧ x ≤ y ∧ y ≤ 1000000 := by simpa [rgOk] using o2
    have r3 : 1 ≤ p ∧ p ≤ q ∧ q ≤ 1000000 := by simp [grOk, rgOk] at o3; omega
    have v1 := plN_in t.r r2.2.1
    have g1 := plN_in t.g r3.2.1
    have cT := can_true hm t r2.1 v1.1 v1.2 r2.2.2 r3.1 g1.1 g1.2
    have cO := can_true hm t (x := plN x y t.r) (y := plN x y t.r) (p := plN p q t.g) (q := plN p q t.g) (v := plN x y t.r) (g := plN p q t.g) (by omega) (Int.le_refl _) (Int.le_refl _) (by omega) (by omega) (Int.le_refl _) (Int.le_refl _)
    have kl : inT m t (plN x y t.r) (plN p q t.g) 4 < 5 := by have := inT_le m t (plN x y t.r) (plN p q t.g) 4; omega
    have S32 : regN m (x, y) (p, q) < 32 := setN_lt _ 5
    have A32 : regN m (plN x y t.r, plN x y t.r) (plN p q t.g, plN p q t.g) < 32 := setN_lt _ 5
    have bS := regN_bit kl cT
    have bA := regN_bit kl cO
    have sub := sub_bits ⟨_, A32⟩ ⟨_, S32⟩ (fun j hj => regN_bit j.2 (can_less hm r2.1 v1.1 v1.2 r3.1 g1.1 g1.2 j.val (regN_can j.2 hj)))
    have iS := bit_is ⟨_, S32⟩ ⟨_, kl⟩
    have iA := bit_is ⟨_, A32⟩ ⟨_, kl⟩
    have W32 : wt.toNat % 32 < 32 := by omega
    have iW := bit_is ⟨_, W32⟩ ⟨_, kl⟩
    have jb := judge_bits ⟨_, A32⟩ ⟨_, W32⟩ ⟨_, kl⟩ bA
    have wv := and31 ⟨wt.toNat, by omega⟩
    simp only at iS iA iW sub jb wv
    rw [bS] at iS
    rw [bA] at iA
    rw [show ((wt.toNat : Nat) : Int) = wt by omega] at wv
    have RG : ∀ W, Calls Tryz.prog 15 #[mdlV m, .agg #[.int .i64 x, .int .i64 y], .agg #[.int .i64 p, .int .i64 q]] W fun e w' => e = .returned (.tuple #[.int .u8 ((regN m (x, y) (p, q) : Nat) : Int), .int .i64 0]) ∧ Below W.heap.size W w' := fun W => by
      have c := bigRegions_any m x y p q W
      rwa [show regQ m (x, y) (p, q) = (regN m (x, y) (p, q), 0) by unfold regQ; rw [if_pos hE]] at c
    have ON : ∀ W, Calls Tryz.prog 15 #[mdlV m, .agg #[.int .i64 (plN x y t.r), .int .i64 (plN x y t.r)], .agg #[.int .i64 (plN p q t.g), .int .i64 (plN p q t.g)]] W fun e w' => e = .returned (.tuple #[.int .u8 ((regN m (plN x y t.r, plN x y t.r) (plN p q t.g, plN p q t.g) : Nat) : Int), .int .i64 0]) ∧ Below W.heap.size W w' := fun W => by
      have c := bigRegions_any m (plN x y t.r) (plN x y t.r) (plN p q t.g) (plN p q t.g) W
      have e0 : regE m (plN x y t.r, plN x y t.r) (plN p q t.g, plN p q t.g) = 0 := by
        unfold regE rgOk grOk rgOk
        rw [o1]
        simp
        omega
      rwa [show regQ m (plN x y t.r, plN x y t.r) (plN p q t.g, plN p q t.g) = (regN m (plN x y t.r, plN x y t.r) (plN p q t.g, plN p q t.g), 0) by unfold regQ; rw [if_pos e0]] at c
    have JU : ∀ W, Calls Tryz.prog 21 #[.int .u8 ((regN m (plN x y t.r, plN x y t.r) (plN p q t.g, plN p q t.g) : Nat) : Int), .int .u8 ((wt.toNat % 32 : Nat) : Int)] W fun e w' => e = .returned (.tuple #[.int .u8 (judG ((regN m (plN x y t.r, plN x y t.r) (plN p q t.g, plN p q t.g) : Nat) : Int) ((wt.toNat % 32 : Nat) : Int)), .int .i64 0]) ∧ Below W.heap.size W w' := fun W => by
      have c := judge_any ((regN m (plN x y t.r, plN x y t.r) (plN p q t.g, plN p q t.g) : Nat) : Int) ((wt.toNat % 32 : Nat) : Int) W
      have e0 : judE ((regN m (plN x y t.r, plN x y t.r) (plN p q t.g, plN p q t.g) : Nat) : Int) ((wt.toNat % 32 : Nat) : Int) = 0 := by
        unfold judE
        rw [decide_eq_true (by omega), decide_eq_true (by omega)]; rfl
      rwa [show judQ ((regN m (plN x y t.r, plN x y t.r) (plN p q t.g, plN p q t.g) : Nat) : Int) ((wt.toNat % 32 : Nat) : Int) = (judG ((regN m (plN x y t.r, plN x y t.r) (plN p q t.g, plN p q t.g) : Nat) : Int) ((wt.toNat % 32 : Nat) : Int), 0) by unfold judQ; rw [if_pos e0]] at c
    refine defectTrue_good m.s m.a0 m.b0 m.a1 m.b1 m.a2 m.b2 m.a3 m.b3 x y p q t.t0 t.t1 t.t2 t.t3 t.r t.g wt _ _ _ _ _ _ _ w RG (fun W => place_any x y t.r W (by omega) ht.2.1.1 ht.2.1.2) (fun W => place_any p q t.g W (by omega) ht.2.2.1 ht.2.2.2) (fun W => region_any m t _ _ W hm ht (by omega) (by omega)) ON JU wv S32 kl (decide (wt.toNat % 32 / 2 ^ inT m t (plN x y t.r) (plN p q t.g) 4 % 2 = 1)) iS iA sub ?_ ?_
    · refine hide ?_
      rw [iW]
      rcases Nat.mod_two_eq_zero_or_one (wt.toNat % 32 / 2 ^ inT m t (plN x y t.r) (plN p q t.g) 4) with h | h <;> rw [h] <;> rfl
    · refine hide ⟨fun h j3 => ?_, fun h j1 => ?_⟩
      · have h := of_decide_eq_true h
        unfold judG at j3
        split at j3
        · omega
        · split at j3
          · rename_i h2
            have := jb.2 (eq_of_beq h2)
            omega
          · omega
      · have h := of_decide_eq_false h
        unfold judG at j1
        split at j1
        · rename_i h2
          exact h (jb.1 (eq_of_beq h2))
        · split at j1 <;> omega
  · have e : regQ m (x, y) (p, q) = (0, 2) := by
      have e2 : regE m (x, y) (p, q) = 2 := by
        unfold regE at hE ⊢
        split at hE
        · split at hE
          · exact absurd rfl hE
          · rename_i h1 h2; rw [if_pos h1, if_neg h2]
        · rename_i h1; rw [if_neg h1]
      unfold regQ
      rw [e2]; rfl
    exact defectTrue_bad m.s m.a0 m.b0 m.a1 m.b1 m.a2 m.b2 m.a3 m.b3 x y p q t.t0 t.t1 t.t2 t.t3 t.r t.g wt w e
end Go.Proofs.YtlpdbjkpgfpjjaaGreat
