/-
  A part's results lie in the whole's (for UnitsAllResults).
-/
import Derived.Test.YtckapcfofkeicaaBox
import Derived.Test.YtckapcfofkeicaaSca
import Derived.Test.YtckapcfofkeicaaPlc
namespace Go.Proofs.Ytckapcfofkeicaa
set_option linter.unusedSimpArgs false
set_option linter.unusedVariables false

def qT (al ah bl bh c : Int) : Nat → Int × Int × Int
  | 0 => (al, bl, c)
  | 1 => (al, bh, c)
  | 2 => (ah, bl, c)
  | _ => (ah, bh, c)
theorem qT_is (al ah bl bh c : Int) : gF (qT al ah bl bh c) (3 + 1) = gTimes al ah bl bh c := rfl
def qO (al ah bl bh c : Int) : Nat → Int × Int × Int
  | 0 => (al, c, bl)
  | 1 => (al, c, bh)
  | 2 => (ah, c, bl)
  | _ => (ah, c, bh)
theorem qO_is (al ah bl bh c : Int) : gF (qO al ah bl bh c) (3 + 1) = gOver al ah bl bh c := rfl
def qS (al ah nu de : Int) : Nat → Int × Int × Int
  | 0 => (al, nu, de)
  | _ => (ah, nu, de)
theorem qS_is (al ah nu de : Int) : gF (qS al ah nu de) (1 + 1) = gScale al ah nu de := rfl
theorem gRes_ok {g : Gth} {X Y : Int} (h : gRes g = (X, Y, 0)) : g.o = false ∧ g.l = X ∧ g.h = Y := by
  unfold gRes at h
  cases ho : g.o with
  | true => rw [ho, if_pos rfl] at h; simp at h
  | false => rw [ho, if_neg (by simp)] at h; simp at h; exact ⟨rfl, h⟩
theorem gRes_of {g : Gth} (h : g.o = false) : gRes g = (g.l, g.h, 0) := by unfold gRes; rw [h, if_neg (by simp)]
theorem insQ_of {a b X Y : Int} (h1 : X ≤ a) (h2 : b ≤ Y) (h3 : a ≤ b) : insQ a b X Y = true := by
  unfold insQ; rw [decide_eq_true h1, decide_eq_true h2, decide_eq_true h3]; rfl
theorem two_of {al ah bl bh : Int} (a0 : -1000000000000000 ≤ al) (a1 : al ≤ ah) (a2 : ah ≤ 1000000000000000) (b0 : -1000000000000000 ≤ bl) (b1 : bl ≤ bh) (b2 : bh ≤ 1000000000000000) : [(al, ah), (bl, bh)].all rangeOk = true := by
  simp [rangeOk, allIn]; omega

/-- A part of a valid range lies in it. -/
theorem place_in {l h b : Int} (h0 : l ≤ h) : l ≤ placeQ l h b ∧ placeQ l h b ≤ h := by
  unfold placeQ
  split
  · omega
  · have := Int.emod_nonneg b (show h - l + 1 ≠ 0 by omega)
    have := Int.emod_lt_of_pos b (show 0 < h - l + 1 by omega)
    omega
theorem part_in {l h b c : Int} (h0 : l ≤ h) : l ≤ (partQ l h b c).1 ∧ (partQ l h b c).1 ≤ (partQ l h b c).2 ∧ (partQ l h b c).2 ≤ h := by
  have p := place_in (b := b) h0
  have q := place_in (b := c) h0
  unfold partQ
  simp only
  omega
theorem times_part {A1 A2 B1 B2 c X Y al ah bl bh how : Int} (h : timesQ A1 A2 B1 B2 c = (X, Y, 0)) (hw : howOk how = true) (a0 : A1 ≤ al) (a1 : al ≤ ah) (a2 : ah ≤ A2) (b0 : B1 ≤ bl) (b1 : bl ≤ bh) (b2 : bh ≤ B2) :
    (∃ x y, timesQ al ah bl bh c = (x, y, 0) ∧ insQ x y X Y = true ∧ ∃ n rest, mulDivQ al bh c how = (n, rest, 0) ∧ x ≤ n ∧ n ≤ y) := by
  unfold timesQ at h
  cases h1 : [(A1, A2), (B1, B2)].all rangeOk with
  | false => rw [h1, if_pos rfl] at h; simp at h
  | true =>
    cases h2 : isDiv c with
    | false => rw [h1, h2, if_neg (by simp), if_pos rfl] at h; simp at h
    | true =>
      rw [h1, h2, if_neg (by simp), if_neg (by simp)] at h
      obtain ⟨ho, rfl, rfl⟩ := gRes_ok h
      obtain ⟨⟨r0, r1, r2⟩, s0, s1, s2⟩ := range2_bounds h1
      have hc : 1 ≤ c ∧ c ≤ 1000000000000000 := by unfold isDiv at h2; simpa using h2
      have dens : ∀ al ah bl bh j, 1 ≤ (qT al ah bl bh c j).2.2 := by
        intro al ah bl bh j
        match j with
        | 0 => exact hc.1
        | 1 => exact hc.1
        | 2 => exact hc.1
        | _ + 3 => exact hc.1
      have lo : ∀ x y, A1 ≤ x → x ≤ A2 → B1 ≤ y → y ≤ B2 → ∃ j, j ≤ 3 ∧ flT (qT A1 A2 B1 B2 c j) ≤ flT (x, y, c) := by
        intro x y x0 x1 y0 y1
        rcases box_min x0 x1 y0 y1 with h | h | h | h
        · exact ⟨0, by omega, down_mono hc.1 h⟩
        · exact ⟨1, by omega, down_mono hc.1 h⟩
        · exact ⟨2, by omega, down_mono hc.1 h⟩
        · exact ⟨3, by omega, down_mono hc.1 h⟩
      have hi : ∀ x y, A1 ≤ x → x ≤ A2 → B1 ≤ y → y ≤ B2 → ∃ j, j ≤ 3 ∧ upT (x, y, c) ≤ upT (qT A1 A2 B1 B2 c j) := by
        intro x y x0 x1 y0 y1
        rcases box_max x0 x1 y0 y1 with h | h | h | h
        · exact ⟨0, by omega, up_mono hc.1 h⟩
        · exact ⟨1, by omega, up_mono hc.1 h⟩
        · exact ⟨2, by omega, up_mono hc.1 h⟩
        · exact ⟨3, by omega, up_mono hc.1 h⟩
      have parts : ∀ i, ∃ x y, qT al ah bl bh c i = (x, y, c) ∧ A1 ≤ x ∧ x ≤ A2 ∧ B1 ≤ y ∧ y ≤ B2 := by
        intro i
        match i with
        | 0 => exact ⟨al, bl, rfl, by omega⟩
        | 1 => exact ⟨al, bh, rfl, by omega⟩
        | 2 => exact ⟨ah, bl, rfl, by omega⟩
        | _ + 3 => exact ⟨ah, bh, rfl, by omega⟩
      have G := gF_in (qT A1 A2 B1 B2 c) (qT al ah bl bh c) 3 3 (fun j _ => dens _ _ _ _ j) (fun j _ => dens _ _ _ _ j)
        (fun i _ => by obtain ⟨x, y, e, x0, x1, y0, y1⟩ := parts i; rw [e]; exact lo x y x0 x1 y0 y1)
        (fun i _ => by obtain ⟨x, y, e, x0, x1, y0, y1⟩ := parts i; rw [e]; exact hi x y x0 x1 y0 y1) ho
      rw [qT_is, qT_is] at G
      obtain ⟨o', g1, g2, g3, g4⟩ := G
      have t : timesQ al ah bl bh c = ((gTimes al ah bl bh c).l, (gTimes al ah bl bh c).h, 0) := by
        unfold timesQ
        rw [two_of (by omega) a1 (by omega) (by omega) b1 (by omega), h2, if_neg (by simp), if_neg (by simp), gRes_of o']
      refine ⟨_, _, t, insQ_of g1 g2 g3, ?_⟩
      have g5 := g4 1 (by omega)
      have ok0 := gF_of (qT al ah bl bh c) 4 (fun j _ => dens _ _ _ _ j) 3 (by omega) (by rw [qT_is]; exact o')
      have ok1 := ok0.2.2 1 (by omega)
      have hv : (allIn 1000000000000000 [al, bh] && isDiv c) = true := by rw [h2, allIn_two.2 ⟨by omega, by omega⟩]; rfl
      obtain ⟨m1, m2, m3⟩ := mulDivQ_between hw hv hc.1 ok1.1 ok1.2
      simp only [flT, upT, qT] at g5
      refine ⟨(mulDivQ al bh c how).1, (mulDivQ al bh c how).2.1, ?_, by omega, by omega⟩
      rw [← m1]
theorem over_part {A1 A2 B1 B2 c X Y al ah bl bh how : Int} (h : overQ A1 A2 B1 B2 c = (X, Y, 0)) (hw : howOk how = true) (a0 : A1 ≤ al) (a1 : al ≤ ah) (a2 : ah ≤ A2) (b0 : B1 ≤ bl) (b1 : bl ≤ bh) (b2 : bh ≤ B2) :
    (∃ x y, overQ al ah bl bh c = (x, y, 0) ∧ insQ x y X Y = true ∧ ∃ n rest, mulDivQ ah c bh how = (n, rest, 0) ∧ x ≤ n ∧ n ≤ y) := by
  unfold overQ at h
  cases h1 : [(A1, A2), (B1, B2)].all rangeOk with
  | false => rw [h1, if_pos rfl] at h; simp at h
  | true =>
    cases h2 : (isDiv c && decide (1 ≤ B1)) with
    | false => rw [h1, h2, if_neg (by simp), if_pos rfl] at h; simp at h
    | true =>
      rw [h1, h2, if_neg (by simp), if_neg (by simp)] at h
      obtain ⟨ho, rfl, rfl⟩ := gRes_ok h
      obtain ⟨⟨r0, r1, r2⟩, s0, s1, s2⟩ := range2_bounds h1
      rw [Bool.and_eq_true] at h2
      have hc : 1 ≤ c ∧ c ≤ 1000000000000000 := by have := h2.1; unfold isDiv at this; simpa using this
      have hB : 1 ≤ B1 := of_decide_eq_true h2.2
      have dens : ∀ al ah bl bh, 1 ≤ bl → 1 ≤ bh → ∀ j, 1 ≤ (qO al ah bl bh c j).2.2 := by
        intro al ah bl bh h1 h2 j
        match j with
        | 0 => exact h1
        | 1 => exact h2
        | 2 => exact h1
        | _ + 3 => exact h2
      have lo : ∀ x y, A1 ≤ x → x ≤ A2 → B1 ≤ y → y ≤ B2 → ∃ j, j ≤ 3 ∧ flT (qO A1 A2 B1 B2 c j) ≤ flT (x, c, y) := by
        intro x y x0 x1 y0 y1
        rcases over_min hc.1 x0 x1 hB y0 y1 with h | h
        · exact ⟨0, by omega, h⟩
        · exact ⟨1, by omega, h⟩
      have hi : ∀ x y, A1 ≤ x → x ≤ A2 → B1 ≤ y → y ≤ B2 → ∃ j, j ≤ 3 ∧ upT (x, c, y) ≤ upT (qO A1 A2 B1 B2 c j) := by
        intro x y x0 x1 y0 y1
        rcases over_max hc.1 x0 x1 hB y0 y1 with h | h
        · exact ⟨2, by omega, h⟩
        · exact ⟨3, by omega, h⟩
      have parts : ∀ i, ∃ x y, qO al ah bl bh c i = (x, c, y) ∧ A1 ≤ x ∧ x ≤ A2 ∧ B1 ≤ y ∧ y ≤ B2 := by
        intro i
        match i with
        | 0 => exact ⟨al, bl, rfl, by omega⟩
        | 1 => exact ⟨al, bh, rfl, by omega⟩
        | 2 => exact ⟨ah, bl, rfl, by omega⟩
        | _ + 3 => exact ⟨ah, bh, rfl, by omega⟩
      have G := gF_in (qO A1 A2 B1 B2 c) (qO al ah bl bh c) 3 3 (fun j _ => dens _ _ _ _ hB (by omega) j) (fun j _ => dens _ _ _ _ (by omega) (by omega) j)
        (fun i _ => by obtain ⟨x, y, e, x0, x1, y0, y1⟩ := parts i; rw [e]; exact lo x y x0 x1 y0 y1)
        (fun i _ => by obtain ⟨x, y, e, x0, x1, y0, y1⟩ := parts i; rw [e]; exact hi x y x0 x1 y0 y1) ho
      rw [qO_is, qO_is] at G
      obtain ⟨o', g1, g2, g3, g4⟩ := G
      have t : overQ al ah bl bh c = ((gOver al ah bl bh c).l, (gOver al ah bl bh c).h, 0) := by
        unfold overQ
        rw [two_of (by omega) a1 (by omega) (by omega) b1 (by omega), h2.1, decide_eq_true (show 1 ≤ bl by omega), Bool.true_and, if_neg (by simp), if_neg (by simp), gRes_of o']
      refine ⟨_, _, t, insQ_of g1 g2 g3, ?_⟩
      have g5 := g4 3 (by omega)
      have ok0 := gF_of (qO al ah bl bh c) 4 (fun j _ => dens _ _ _ _ (by omega) (by omega) j) 3 (by omega) (by rw [qO_is]; exact o')
      have ok1 := ok0.2.2 3 (by omega)
      have hv : (allIn 1000000000000000 [ah, c] && isDiv bh) = true := by rw [allIn_two.2 ⟨by omega, by omega⟩]; simp [isDiv]; omega
      obtain ⟨m1, m2, m3⟩ := mulDivQ_between hw hv (show 1 ≤ bh by omega) ok1.1 ok1.2
      simp only [flT, upT, qO] at g5
      refine ⟨(mulDivQ ah c bh how).1, (mulDivQ ah c bh how).2.1, ?_, by omega, by omega⟩
      rw [← m1]
theorem mul_between {A1 A2 x nu : Int} (x0 : A1 ≤ x) (x1 : x ≤ A2) : (A1 * nu ≤ x * nu ∨ A2 * nu ≤ x * nu) ∧ (x * nu ≤ A1 * nu ∨ x * nu ≤ A2 * nu) := by
  by_cases h : 0 ≤ nu
  · exact ⟨.inl (Int.mul_le_mul_of_nonneg_right x0 h), .inr (Int.mul_le_mul_of_nonneg_right x1 h)⟩
  · exact ⟨.inr (Int.mul_le_mul_of_nonpos_right x1 (by omega)), .inl (Int.mul_le_mul_of_nonpos_right x0 (by omega))⟩
theorem scale_part {A1 A2 nu de X Y al ah how : Int} (h : scaleQ A1 A2 nu de = (X, Y, 0)) (hw : howOk how = true) (a0 : A1 ≤ al) (a1 : al ≤ ah) (a2 : ah ≤ A2) :
    (∃ x y, scaleQ al ah nu de = (x, y, 0) ∧ insQ x y X Y = true ∧ ∃ n rest, mulDivQ al nu de how = (n, rest, 0) ∧ x ≤ n ∧ n ≤ y) := by
  unfold scaleQ at h
  cases h1 : rangeOk (A1, A2) with
  | false => rw [h1, if_pos rfl] at h; simp at h
  | true =>
    cases h2 : fracOk (nu, de) with
    | false => rw [h1, h2, if_neg (by simp), if_pos rfl] at h; simp at h
    | true =>
      rw [h1, h2, if_neg (by simp), if_neg (by simp)] at h
      obtain ⟨ho, rfl, rfl⟩ := gRes_ok h
      obtain ⟨r0, r1, r2⟩ := range1_bounds h1
      obtain ⟨⟨s0, s1⟩, hc⟩ := frac1_bounds h2
      have dens : ∀ al ah j, 1 ≤ (qS al ah nu de j).2.2 := by
        intro al ah j
        match j with
        | 0 => exact hc.1
        | _ + 1 => exact hc.1
      have lo : ∀ x, A1 ≤ x → x ≤ A2 → ∃ j, j ≤ 1 ∧ flT (qS A1 A2 nu de j) ≤ flT (x, nu, de) := by
        intro x x0 x1
        rcases (mul_between (nu := nu) x0 x1).1 with h | h
        · exact ⟨0, by omega, down_mono hc.1 h⟩
        · exact ⟨1, by omega, down_mono hc.1 h⟩
      have hi : ∀ x, A1 ≤ x → x ≤ A2 → ∃ j, j ≤ 1 ∧ upT (x, nu, de) ≤ upT (qS A1 A2 nu de j) := by
        intro x x0 x1
        rcases (mul_between (nu := nu) x0 x1).2 with h | h
        · exact ⟨0, by omega, up_mono hc.1 h⟩
        · exact ⟨1, by omega, up_mono hc.1 h⟩
      have parts : ∀ i, ∃ x, qS al ah nu de i = (x, nu, de) ∧ A1 ≤ x ∧ x ≤ A2 := by
        intro i
        match i with
        | 0 => exact ⟨al, rfl, by omega⟩
        | _ + 1 => exact ⟨ah, rfl, by omega⟩
      have G := gF_in (qS A1 A2 nu de) (qS al ah nu de) 1 1 (fun j _ => dens _ _ j) (fun j _ => dens _ _ j)
        (fun i _ => by obtain ⟨x, e, x0, x1⟩ := parts i; rw [e]; exact lo x x0 x1)
        (fun i _ => by obtain ⟨x, e, x0, x1⟩ := parts i; rw [e]; exact hi x x0 x1) ho
      rw [qS_is, qS_is] at G
      obtain ⟨o', g1, g2, g3, g4⟩ := G
      have ra : rangeOk (al, ah) = true := by simp [rangeOk, allIn]; omega
      have t : scaleQ al ah nu de = ((gScale al ah nu de).l, (gScale al ah nu de).h, 0) := by
        unfold scaleQ
        rw [ra, h2, if_neg (by simp), if_neg (by simp), gRes_of o']
      refine ⟨_, _, t, insQ_of g1 g2 g3, ?_⟩
      have g5 := g4 0 (by omega)
      have ok0 := gF_of (qS al ah nu de) 2 (fun j _ => dens _ _ j) 1 (by omega) (by rw [qS_is]; exact o')
      have ok1 := ok0.2.2 0 (by omega)
      have hv : (allIn 1000000000000000 [al, nu] && isDiv de) = true := by rw [allIn_two.2 ⟨by omega, by omega⟩]; simp [isDiv]; omega
      obtain ⟨m1, m2, m3⟩ := mulDivQ_between hw hv hc.1 ok1.1 ok1.2
      simp only [flT, upT, qS] at g5
      refine ⟨(mulDivQ al nu de how).1, (mulDivQ al nu de how).2.1, ?_, by omega, by omega⟩
      rw [← m1]
theorem less_part {A1 A2 B1 B2 X Y al ah bl bh : Int} (h : lessQ A1 A2 B1 B2 = (X, Y, 0)) (a0 : A1 ≤ al) (a1 : al ≤ ah) (a2 : ah ≤ A2) (b0 : B1 ≤ bl) (b1 : bl ≤ bh) (b2 : bh ≤ B2) :
    lessQ al ah bl bh = (al - bh, ah - bl, 0) ∧ insQ (al - bh) (ah - bl) X Y = true := by
  unfold lessQ at h
  cases h1 : [(A1, A2), (B1, B2)].all rangeOk with
  | false => rw [h1, if_pos rfl] at h; simp at h
  | true =>
    rw [h1, if_neg (by simp)] at h
    cases h2 : allIn 1000000000000000 [A1 - B2, A2 - B1] with
    | false => rw [h2, if_neg (by simp)] at h; simp at h
    | true =>
      rw [h2, if_pos rfl] at h
      simp only [Prod.mk.injEq, and_true] at h
      obtain ⟨rfl, rfl⟩ := h
      obtain ⟨⟨r0, r1, r2⟩, s0, s1, s2⟩ := range2_bounds h1
      have k := allIn_two.1 h2
      refine ⟨?_, insQ_of (by omega) (by omega) (by omega)⟩
      unfold lessQ
      rw [two_of (by omega) a1 (by omega) (by omega) b1 (by omega), if_neg (by simp), if_pos (allIn_two.2 (by omega))]
end Go.Proofs.Ytckapcfofkeicaa
