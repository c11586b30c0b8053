/-
  UnitsThroughs: units.Through.
-/
import Derived.Test.YtckapcfofkeicaaTbW
import Derived.Deep.DeepCutAuto
namespace Go.Proofs.Ytckapcfofkeicaa
set_option linter.unusedSimpArgs false
set_option linter.unusedVariables false
open Go.RowKit

/-- The value by tables, one after another, from the table i on. -/
def thrL (lo hi : Int) (i : Nat) : List (List (Int × Int)) → Int × Int × Int × Int
  | [] => (lo, hi, 0, 0)
  | t :: ts => if (valueQ t lo hi).2.2 = 0 then thrL (valueQ t lo hi).1 (valueQ t lo hi).2.1 (i + 1) ts else (0, 0, (i : Int), (valueQ t lo hi).2.2)
def ThP (r : Int × Int × Int × Int) (w : World) (e : Ending) (w' : World) : Prop := e = .returned (.tuple #[.agg #[.int .i64 r.1, .int .i64 r.2.1], .int .i64 r.2.2.1, .int .i64 r.2.2.2]) ∧ Below w.heap.size w w'
def ThrCond (ts : List Tb) (lo hi E : Int) (k1 k2 k3 : Bool) : Prop :=
  decide ((ts.length : Int) ≤ 10) = k1 ∧ ts.all Tb.ok = k2 ∧ [(lo, hi)].all rangeOk = k3 ∧ ∀ f1 c1 f2 c2 f3 c3, firstE [⟨5, f1, c1, k1⟩, ⟨2, f2, c2, k2⟩, ⟨2, f3, c3, k3⟩] = E

set_option maxRecDepth 100000 in
set_option maxHeartbeats 3200000 in
theorem through_bad (ts : List Tb) (a : Option Addr) (cap : Nat) (lo hi E : Int) (k1 k2 k3 : Bool) (w : World) (hE : (E == 0) = false) (hc : Hid (ThrCond ts lo hi E k1 k2 k3)) (hl : ts.length ≤ 140737488351232) (h : Hid (IsTabs w a ts)) :
    Calls Try.prog 57 #[.slice a ts.length cap, .agg #[.int .i64 lo, .int .i64 hi]] w fun e w' => ThP (0, 0, 0, E) w e w' := by
  go_enter Try.func57, Try.ntmps57
  go_upto_region 1 with fail
  go_cut [6] from 9 (fun s6 wx => s6 = .int .i64 E ∧ (wx.cell? ⟨w.heap.size, 0, none⟩ = some (.int .i64 lo) ∧ wx.cell? ⟨w.heap.size, 1, none⟩ = some (.int .i64 hi)) ∧ (CF wx ⟨w.heap.size + 1, 0, none⟩ (.int .i64 0) ∧ CF wx ⟨w.heap.size + 1, 1, none⟩ (.int .i64 0)) ∧ Below w.heap.size w wx)
  case first =>
    go_region_held3 (fun w' => w'.cell? ⟨w.heap.size, 0, none⟩ = some (.int .i64 lo) ∧ w'.cell? ⟨w.heap.size, 1, none⟩ = some (.int .i64 hi))
      (first | (refine ⟨?_, ?_⟩ <;> simp [go_sem, World.cell?_alloc_past]; done) | (go_split_ands; first | (exact ⟨later hbD (by assumption), later hbD (by assumption)⟩) | (exact ⟨later hbC (by assumption), later hbC (by assumption)⟩) | (exact ⟨later hbB (by assumption), later hbB (by assumption)⟩) | (exact ⟨later hbA (by assumption), later hbA (by assumption)⟩)) | (go_split_ands; exact ⟨later (balloc (Below.refl _ _)) (by assumption), later (balloc (Below.refl _ _)) (by assumption)⟩) | go_keep)
      (first
        | (go_at_call 81; refine (atMost_ex k1 _ _ _ hc.out.1).mono ?_; rintro e wA ⟨rfl, hA, hbA⟩; (try simp at hA))
        | (go_at_call 101; refine (validTables_ex k2 a cap ts.length ts _ hc.out.2.1 rfl hl (tabs_later h.out (by repeat (first | exact Below.refl _ _ | assumption | apply balloc | apply bdrew | (refine bnext ?_ (by assumption)))))).mono ?_; rintro e wB ⟨rfl, hB, hbB⟩; (try simp at hB))
        | (go_at_call 86; refine (validRanges_ex k3 _ 1 1 [(lo, hi)] _ hc.out.2.2.1 rfl (by simp) (pairs_one_of (by repeat (first | (simp [go_sem, World.cell?_alloc_past]; done) | refine later hbD ?_ | refine later hbC ?_ | refine later hbB ?_ | refine later hbA ?_ | refine later (balloc (Below.refl _ _)) ?_)) (by repeat (first | (simp [go_sem, World.cell?_alloc_past]; done) | refine later hbD ?_ | refine later hbC ?_ | refine later hbB ?_ | refine later hbA ?_ | refine later (balloc (Below.refl _ _)) ?_)))).mono ?_; rintro e wC ⟨rfl, hC, hbC⟩; (try simp at hC))
        | (go_at_call 67; go_loud (refine (firstError_is E [⟨5, 114, _, k1⟩, ⟨2, 114, _, k2⟩, ⟨2, 114, _, k3⟩] _ _ _ (hc.out.2.2.2 _ _ _ _ _ _) (by simp) (by simp) (cnds_three_at (by simp)) (tells_three (cnd_later hA (by repeat (first | exact Below.refl _ _ | assumption | apply balloc | apply bdrew | (refine bnext ?_ (by assumption))))) (fun _ => cnd_later hB (by repeat (first | exact Below.refl _ _ | assumption | apply balloc | apply bdrew | (refine bnext ?_ (by assumption))))) (fun _ _ => cnd_later hC (by repeat (first | exact Below.refl _ _ | assumption | apply balloc | apply bdrew | (refine bnext ?_ (by assumption))))))).mono ?_); rintro e wD ⟨rfl, hbD⟩))
    all_goals (go_wp2_with fail; go_meet; exact ⟨rfl, ⟨(by repeat (first | (simp [go_sem, World.cell?_alloc_past]; done) | refine later hbD ?_ | refine later hbC ?_ | refine later hbB ?_ | refine later hbA ?_ | refine later (balloc (Below.refl _ _)) ?_)), (by repeat (first | (simp [go_sem, World.cell?_alloc_past]; done) | refine later hbD ?_ | refine later hbC ?_ | refine later hbB ?_ | refine later hbA ?_ | refine later (balloc (Below.refl _ _)) ?_))⟩, ⟨(by repeat (first | (refine ⟨?_, ?_⟩ <;> (simp [go_sem, World.cell?_alloc_past]; done)) | refine cf_later hbD ?_ | refine cf_later hbC ?_ | refine cf_later hbB ?_ | refine cf_later hbA ?_ | refine cf_later (balloc (Below.refl _ _)) ?_)), (by repeat (first | (refine ⟨?_, ?_⟩ <;> (simp [go_sem, World.cell?_alloc_past]; done)) | refine cf_later hbD ?_ | refine cf_later hbC ?_ | refine cf_later hbB ?_ | refine cf_later hbA ?_ | refine cf_later (balloc (Below.refl _ _)) ?_))⟩, (by repeat (first | exact Below.refl _ _ | assumption | apply balloc | apply bdrew | (refine bnext ?_ (by assumption))))⟩)
  case rest =>
    obtain ⟨rfl, ⟨c0, c1⟩, ⟨⟨c4, f4⟩, c5, f5⟩, hbw⟩ := hcut
    go_wp2_with fail
    have yy := two_set (x := .int .i64 0) (y := .int .i64 0) c4 c5
    exact bodyPost_ret (v := .tuple #[.agg #[.int .i64 0, .int .i64 0], .int .i64 0, .int .i64 E]) (by simp [results, Try.results57, go_sem, yy.1, yy.2, c4, c5]) rfl ⟨rfl, (by repeat (first | exact Below.refl _ _ | assumption | apply balloc | apply bdrew | (refine bset ?_ (by first | (simp; done) | omega | (simp; omega)) _) | (refine bnext ?_ (by assumption))))⟩

theorem thrL_step {lo hi x y F : Int} {k : Nat} {kss : List (List (Int × Int))} (hk : k < kss.length) (hv : valueQ (kss.getD k []) lo hi = (x, y, F)) : thrL lo hi k (kss.drop k) = if F = 0 then thrL x y (k + 1) (kss.drop (k + 1)) else (0, 0, (k : Int), F) := by
  rw [List.drop_eq_getElem_cons hk]
  have e : kss.getD k [] = kss[k] := by simp [List.getD_eq_getElem?_getD, hk]
  rw [e] at hv
  show (if (valueQ kss[k] lo hi).2.2 = 0 then _ else _) = _
  rw [hv]
theorem tabs_get {ts : List Tb} {k : Nat} (hk : k < ts.length) : (ts.map Tb.ks).getD k [] = (ts.getD k default).ks := by
  simp [List.getD_eq_getElem?_getD, hk]

set_option maxRecDepth 100000 in
set_option maxHeartbeats 6400000 in
theorem through_good (ts : List Tb) (a : Option Addr) (cap : Nat) (lo hi : Int) (R : Int × Int × Int × Int) (w : World) (hc : Hid (ThrCond ts lo hi 0 true true true)) (hl : ts.length ≤ 10) (h : Hid (IsTabs w a ts)) (hR : Hid (thrL lo hi 0 (ts.map Tb.ks) = R)) :
    Calls Try.prog 57 #[.slice a ts.length cap, .agg #[.int .i64 lo, .int .i64 hi]] w fun e w' => ThP R w e w' := by
  have hl : ts.length ≤ 140737488351232 ∧ ts.length ≤ 10 := ⟨by omega, hl⟩
  obtain ⟨hl, hl10⟩ := hl
  go_enter Try.func57, Try.ntmps57
  go_upto_region 1 with fail
  go_cut [6] from 9 (fun s6 wx => s6 = .int .i64 0 ∧ (wx.cell? ⟨w.heap.size, 0, none⟩ = some (.int .i64 lo) ∧ wx.cell? ⟨w.heap.size, 1, none⟩ = some (.int .i64 hi)) ∧ (CF wx ⟨w.heap.size + 1, 0, none⟩ (.int .i64 0) ∧ CF wx ⟨w.heap.size + 1, 1, none⟩ (.int .i64 0)) ∧ Below w.heap.size w wx)
  case first =>
    go_region_held3 (fun w' => w'.cell? ⟨w.heap.size, 0, none⟩ = some (.int .i64 lo) ∧ w'.cell? ⟨w.heap.size, 1, none⟩ = some (.int .i64 hi))
      (first | (refine ⟨?_, ?_⟩ <;> simp [go_sem, World.cell?_alloc_past]; done) | (go_split_ands; first | (exact ⟨later hbD (by assumption), later hbD (by assumption)⟩) | (exact ⟨later hbC (by assumption), later hbC (by assumption)⟩) | (exact ⟨later hbB (by assumption), later hbB (by assumption)⟩) | (exact ⟨later hbA (by assumption), later hbA (by assumption)⟩)) | (go_split_ands; exact ⟨later (balloc (Below.refl _ _)) (by assumption), later (balloc (Below.refl _ _)) (by assumption)⟩) | go_keep)
      (first
        | (go_at_call 81; refine (atMost_ex true _ _ _ hc.out.1).mono ?_; rintro e wA ⟨rfl, hA, hbA⟩; (try simp at hA))
        | (go_at_call 101; refine (validTables_ex true a cap ts.length ts _ hc.out.2.1 rfl hl (tabs_later h.out (by repeat (first | exact Below.refl _ _ | assumption | apply balloc | apply bdrew | (refine bnext ?_ (by assumption)))))).mono ?_; rintro e wB ⟨rfl, hB, hbB⟩; (try simp at hB))
        | (go_at_call 86; refine (validRanges_ex true _ 1 1 [(lo, hi)] _ hc.out.2.2.1 rfl (by simp) (pairs_one_of (by repeat (first | (simp [go_sem, World.cell?_alloc_past]; done) | refine later hbD ?_ | refine later hbC ?_ | refine later hbB ?_ | refine later hbA ?_ | refine later (balloc (Below.refl _ _)) ?_)) (by repeat (first | (simp [go_sem, World.cell?_alloc_past]; done) | refine later hbD ?_ | refine later hbC ?_ | refine later hbB ?_ | refine later hbA ?_ | refine later (balloc (Below.refl _ _)) ?_)))).mono ?_; rintro e wC ⟨rfl, hC, hbC⟩; (try simp at hC))
        | (go_at_call 67; go_loud (refine (firstError_is 0 [⟨5, 114, _, true⟩, ⟨2, 114, _, true⟩, ⟨2, 114, _, true⟩] _ _ _ (hc.out.2.2.2 _ _ _ _ _ _) (by simp) (by simp) (cnds_three_at (by simp)) (tells_three (cnd_later hA (by repeat (first | exact Below.refl _ _ | assumption | apply balloc | apply bdrew | (refine bnext ?_ (by assumption))))) (fun _ => cnd_later hB (by repeat (first | exact Below.refl _ _ | assumption | apply balloc | apply bdrew | (refine bnext ?_ (by assumption))))) (fun _ _ => cnd_later hC (by repeat (first | exact Below.refl _ _ | assumption | apply balloc | apply bdrew | (refine bnext ?_ (by assumption))))))).mono ?_); rintro e wD ⟨rfl, hbD⟩))
    all_goals (go_wp2_with fail; go_meet; exact ⟨rfl, ⟨(by repeat (first | (simp [go_sem, World.cell?_alloc_past]; done) | refine later hbD ?_ | refine later hbC ?_ | refine later hbB ?_ | refine later hbA ?_ | refine later (balloc (Below.refl _ _)) ?_)), (by repeat (first | (simp [go_sem, World.cell?_alloc_past]; done) | refine later hbD ?_ | refine later hbC ?_ | refine later hbB ?_ | refine later hbA ?_ | refine later (balloc (Below.refl _ _)) ?_))⟩, ⟨(by repeat (first | (refine ⟨?_, ?_⟩ <;> (simp [go_sem, World.cell?_alloc_past]; done)) | refine cf_later hbD ?_ | refine cf_later hbC ?_ | refine cf_later hbB ?_ | refine cf_later hbA ?_ | refine cf_later (balloc (Below.refl _ _)) ?_)), (by repeat (first | (refine ⟨?_, ?_⟩ <;> (simp [go_sem, World.cell?_alloc_past]; done)) | refine cf_later hbD ?_ | refine cf_later hbC ?_ | refine cf_later hbB ?_ | refine cf_later hbA ?_ | refine cf_later (balloc (Below.refl _ _)) ?_))⟩, (by repeat (first | exact Below.refl _ _ | assumption | apply balloc | apply bdrew | (refine bnext ?_ (by assumption))))⟩)
  case rest =>
    obtain ⟨rfl, ⟨c0, c1⟩, ⟨C4, C5⟩, hbw⟩ := hcut
    obtain ⟨c4, f4⟩ := C4
    obtain ⟨c5, f5⟩ := C5
    have y0 := two_set (x := .int .i64 lo) (y := .int .i64 hi) c4 c5
    go_wp2_with fail
    go_loopw [26] (fun i wr => ∃ (k : Nat) (l u : Int), k ≤ ts.length ∧ i = .int .i64 (k : Int) ∧ (CF wr ⟨w.heap.size + 1, 0, none⟩ (.int .i64 l) ∧ CF wr ⟨w.heap.size + 1, 1, none⟩ (.int .i64 u)) ∧ Hid (thrL l u k ((ts.map Tb.ks).drop k) = R) ∧ Below w.heap.size w wr) (fun i _ => ts.length - (intOf i).toNat)
    case atStart => exact ⟨0, lo, hi, by omega, rfl, ⟨⟨y0.1, by simpa using f4⟩, y0.2, by simpa using f5⟩, hR, bset (bset hbw (by simp) _) (by simp) _⟩
    case round =>
      obtain ⟨k, l, u, hk, rfl, ⟨⟨g4, z4⟩, g5, z5⟩, HR, hb⟩ := hrel
      by_cases hlt : k < ts.length
      · obtain ⟨b, off, rfl, ht⟩ : ∃ b off, a = some ⟨b, off, none⟩ ∧ ∀ i, i < ts.length → wr.cell? ⟨b, off + i, none⟩ = some (.slice (ts.getD i default).a (ts.getD i default).ks.length (ts.getD i default).cap) ∧ IsPairs wr (ts.getD i default).a (ts.getD i default).ks ∧ (ts.getD i default).ks.length ≤ 8796093022208 := by
          rcases tabs_later h.out hb with h | h
          · subst h; simp at hlt
          · exact h
        obtain ⟨t1, t2, t3⟩ := ht k hlt
        have e0 := tabs_get hlt
        generalize ts.getD k default = t at *
        obtain ⟨ta, tc, tk⟩ := t
        simp only at t1 t2 t3 e0
        obtain ⟨⟨x, y, F⟩, hv⟩ : ∃ v, valueQ tk l u = v := ⟨_, rfl⟩
        have V := hide (fun W (hp : IsPairs W ta tk) => (show Calls Try.prog 50 #[.slice ta tk.length tc, .agg #[.int .i64 l, .int .i64 u]] W fun e w' => e = .returned (.tuple #[.agg #[.int .i64 x, .int .i64 y], .int .i64 F]) ∧ Below W.heap.size W w' by have := value_any tk ta tc l u W t3 hp; rwa [hv] at this))
        have ST := hide (thrL_step (lo := l) (hi := u) (x := x) (y := y) (F := F) (kss := ts.map Tb.ks) (by simpa using hlt) (by rw [e0]; exact hv))
        have HT := hide t2
        have Z4 := hide (show CF wr ⟨w.heap.size + 1, 0, none⟩ (.int .i64 l) from ⟨g4, z4⟩)
        have Z5 := hide (show CF wr ⟨w.heap.size + 1, 1, none⟩ (.int .i64 u) from ⟨g5, z5⟩)
        have hk00 : 0 ≤ (k : Int) := by omega
        have hkl0 : (k : Int) < (ts.length : Int) := by omega
        clear ht e0 hv t2 z4 z5
        go_wp2_with fail
        refine (V.out _ HT.out).mono ?_
        rintro e w1 ⟨rfl, hb1⟩
        obtain ⟨c4', f4'⟩ := cf_later hb1 Z4.out
        obtain ⟨c5', f5'⟩ := cf_later hb1 Z5.out
        have B1 := hide (bnext hb hb1)
        clear g4 g5 t1 hb1 c0 c1 c4 c5 f4 f5 y0 hbw
        have yy := two_set (x := .int .i64 x) (y := .int .i64 y) c4' c5'
        by_cases hF : F = 0
        · subst hF
          have R2 := hide (show thrL x y (k + 1) ((ts.map Tb.ks).drop (k + 1)) = R by have := ST.out; rw [if_pos rfl] at this; exact this.symm.trans HR.out)
          go_wp2_with fail
          go_roundw
          case rel => exact ⟨k + 1, x, y, by omega, by go_num, ⟨⟨yy.1, by simpa using f4'⟩, yy.2, by simpa using f5'⟩, R2, bset (bset B1.out (by simp) _) (by simp) _⟩
          case measure => simp [intOf]; omega
        · have hF2 : (F != 0) = true := by simpa using hF
          have R2 : (0, 0, (k : Int), F) = R := by have := ST.out; rw [if_neg hF] at this; exact this.symm.trans HR.out
          have HR2 := hide R2
          have HF := hide hF
          clear R2 hF
          have yz := two_set (x := .int .i64 0) (y := .int .i64 0) yy.1 yy.2
          go_wp2_with fail
          refine bodyPost_ret (v := .tuple #[.agg #[.int .i64 0, .int .i64 0], .int .i64 k, .int .i64 F]) (by simp [results, Try.results57, go_sem, yz.1, yz.2]) rfl ⟨by rw [← HR2.out], ?_⟩
          exact bset (bset (bset (bset B1.out (by simp) _) (by simp) _) (by simp) _) (by simp) _
      · obtain rfl : k = ts.length := by omega
        have R2 : (l, u, 0, 0) = R := by have := HR.out; rw [List.drop_eq_nil_of_le (by simp)] at this; exact this
        have HR2 := hide R2
        clear R2
        have yz := two_set (x := .int .i64 l) (y := .int .i64 u) g4 g5
        go_wp2_with fail
        refine bodyPost_ret (v := .tuple #[.agg #[.int .i64 l, .int .i64 u], .int .i64 0, .int .i64 0]) (by simp [results, Try.results57, go_sem, yz.1, yz.2]) rfl ⟨by rw [← HR2.out], ?_⟩
        exact bset (bset hb (by simp) _) (by simp) _

/-- The results of Through. -/
def thrQ (ts : List Tb) (lo hi : Int) : Int × Int × Int × Int :=
  if decide ((ts.length : Int) ≤ 10) = false then (0, 0, 0, 5) else if ts.all Tb.ok = false then (0, 0, 0, 2) else if [(lo, hi)].all rangeOk = false then (0, 0, 0, 2) else thrL lo hi 0 (ts.map Tb.ks)
theorem through_any (ts : List Tb) (a : Option Addr) (cap : Nat) (lo hi : Int) (w : World) (hl : ts.length ≤ 140737488351232) (h : IsTabs w a ts) :
    Calls Try.prog 57 #[.slice a ts.length cap, .agg #[.int .i64 lo, .int .i64 hi]] w fun e w' => ThP (thrQ ts lo hi) w e w' := by
  unfold thrQ
  cases h1 : decide ((ts.length : Int) ≤ 10) with
  | false => rw [if_pos rfl]; exact through_bad ts a cap lo hi 5 false _ _ w rfl ⟨h1, rfl, rfl, fun _ _ _ _ _ _ => rfl⟩ hl h
  | true =>
    rw [if_neg (by simp)]
    cases h2 : ts.all Tb.ok with
    | false => rw [if_pos rfl]; exact through_bad ts a cap lo hi 2 true false _ w rfl ⟨h1, h2, rfl, fun _ _ _ _ _ _ => rfl⟩ hl h
    | true =>
      rw [if_neg (by simp)]
      cases h3 : [(lo, hi)].all rangeOk with
      | false => rw [if_pos rfl]; exact through_bad ts a cap lo hi 2 true true false w rfl ⟨h1, h2, h3, fun _ _ _ _ _ _ => rfl⟩ hl h
      | true =>
        rw [if_neg (by simp)]
        have := of_decide_eq_true h1
        exact through_good ts a cap lo hi _ w ⟨h1, h2, h3, fun _ _ _ _ _ _ => rfl⟩ (by omega) h rfl
end Go.Proofs.Ytckapcfofkeicaa
