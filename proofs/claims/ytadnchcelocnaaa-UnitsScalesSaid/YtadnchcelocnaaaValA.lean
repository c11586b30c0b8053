/-
  units.Value: its conditions.
-/
import Derived.Test.YtadnchcelocnaaaTabs
import Derived.Test.YtadnchcelocnaaaVal1
namespace Go.Proofs.Ytadnchcelocnaaa
set_option linter.unusedSimpArgs false
set_option linter.unusedVariables false
open Go.RowKit

theorem value_tells' (k : Bool) (lo hi : Int) (a : Option Addr) (cap : Nat) (ks : List (Int × Int)) (pb qb : Nat) (w : World) (hk : inDom ks lo hi = k) (h2 : 2 ≤ ks.length) (hl : ks.length ≤ 8796093022208)
    (p1 : w.cell? ⟨pb, 0, none⟩ = some (.int .i64 lo)) (p2 : w.cell? ⟨pb, 1, none⟩ = some (.int .i64 hi)) (hq : w.cell? ⟨qb, 0, none⟩ = some (.slice a ks.length cap)) (h : IsPairs w a ks) :
    Tells w 102 #[.pointer (some ⟨pb, 0, none⟩), .pointer (some ⟨qb, 0, none⟩)] k := by
  obtain ⟨m, hm⟩ : ∃ m, ks.length = m + 1 := ⟨ks.length - 1, by omega⟩
  exact value_tells k lo hi a cap m ks pb qb w hk hm hl p1 p2 (by rw [← hm]; exact hq) h

/-- The conditions of Value come to E. -/
def ValCond (ks : List (Int × Int)) (lo hi E : Int) (k1 k2 k3 : Bool) : Prop :=
  [(⟨none, 0, ks⟩ : Tb)].all Tb.ok = k1 ∧ [(lo, hi)].all rangeOk = k2 ∧ (k1 = true → inDom ks lo hi = k3 ∧ 2 ≤ ks.length) ∧ ∀ f1 c1 f2 c2 f3 c3, firstE [⟨2, f1, c1, k1⟩, ⟨2, f2, c2, k2⟩, ⟨7, f3, c3, k3⟩] = E
theorem tb_ok (a : Option Addr) (cap : Nat) (ks : List (Int × Int)) : [(⟨a, cap, ks⟩ : Tb)].all Tb.ok = [(⟨none, 0, ks⟩ : Tb)].all Tb.ok := rfl

set_option maxHeartbeats 3200000 in
theorem value_bad (ks : List (Int × Int)) (a : Option Addr) (cap : Nat) (lo hi E : Int) (k1 k2 k3 : Bool) (w : World) (hE : (E == 0) = false) (hc : Hid (ValCond ks lo hi E k1 k2 k3)) (hl : ks.length ≤ 8796093022208) (h : Hid (IsPairs w a ks)) :
    Calls Try.prog 50 #[.slice a ks.length cap, .agg #[.int .i64 lo, .int .i64 hi]] w fun e w' => e = .returned (.tuple #[.agg #[.int .i64 0, .int .i64 0], .int .i64 E]) ∧ Below w.heap.size w w' := by
  go_enter Try.func50, Try.ntmps50
  go_upto_region 1 with fail
  go_cut [6] from 8 (fun s6 wx => s6 = .int .i64 E ∧ wx.cell? ⟨w.heap.size, 0, none⟩ = some (.slice a ks.length cap) ∧ (wx.cell? ⟨w.heap.size + 1, 0, none⟩ = some (.int .i64 lo) ∧ wx.cell? ⟨w.heap.size + 1, 1, none⟩ = some (.int .i64 hi)) ∧ (CF wx ⟨w.heap.size + 1 + 1, 0, none⟩ (.int .i64 0) ∧ CF wx ⟨w.heap.size + 1 + 1, 1, none⟩ (.int .i64 0)) ∧ Below w.heap.size w wx)
  case first =>
    go_region_held3 (fun w' => w'.cell? ⟨w.heap.size, 0, none⟩ = some (.slice a ks.length cap) ∧ w'.cell? ⟨w.heap.size + 1, 0, none⟩ = some (.int .i64 lo) ∧ w'.cell? ⟨w.heap.size + 1, 1, none⟩ = some (.int .i64 hi) ∧ (CF w' ⟨w.heap.size + 1 + 1, 0, none⟩ (.int .i64 0) ∧ CF w' ⟨w.heap.size + 1 + 1, 1, none⟩ (.int .i64 0)) ∧ Below w.heap.size w w')
      (first | (refine ⟨?_, ?_, ?_, ⟨⟨?_, ?_⟩, ?_, ?_⟩, bdrew (balloc (balloc (balloc (Below.refl _ _))))⟩ <;> simp [go_sem, World.cell?_alloc_past]; done) | (go_split_ands; first | (exact ⟨later hbD (by assumption), later hbD (by assumption), later hbD (by assumption), ⟨cf_later hbD (by assumption), cf_later hbD (by assumption)⟩, bnext (by assumption) hbD⟩) | (exact ⟨later hbB (by assumption), later hbB (by assumption), later hbB (by assumption), ⟨cf_later hbB (by assumption), cf_later hbB (by assumption)⟩, bnext (by assumption) hbB⟩) | (exact ⟨later hbA (by assumption), later hbA (by assumption), later hbA (by assumption), ⟨cf_later hbA (by assumption), cf_later hbA (by assumption)⟩, bnext (by assumption) hbA⟩) | (exact ⟨later hbC (by assumption), later hbC (by assumption), later hbC (by assumption), ⟨cf_later hbC (by assumption), cf_later hbC (by assumption)⟩, bnext (by assumption) hbC⟩)) | (go_split_ands; exact ⟨later (balloc (Below.refl _ _)) (by assumption), later (balloc (Below.refl _ _)) (by assumption), later (balloc (Below.refl _ _)) (by assumption), ⟨cf_later (balloc (Below.refl _ _)) (by assumption), cf_later (balloc (Below.refl _ _)) (by assumption)⟩, balloc (by assumption)⟩) | go_keep)
      (first
        | (go_at_call 101; refine (validTables_ex k1 _ 1 1 [⟨a, cap, ks⟩] _ hc.out.1 rfl (by simp) (tabs_one_of (t := ⟨a, cap, ks⟩) (by repeat (first | (simp [go_sem, World.cell?_alloc_past]; done) | refine later hbD ?_ | refine later hbC ?_ | refine later hbB ?_ | refine later hbA ?_ | refine later (balloc (Below.refl _ _)) ?_)) (pairs_later h.out (by repeat (first | exact Below.refl _ _ | assumption | apply balloc | apply bdrew | (refine bnext ?_ (by assumption))))) hl)).mono ?_; rintro e wB ⟨rfl, hB, hbB⟩; (try simp at hB))
        | (go_at_call 86; refine (validRanges_ex k2 _ 1 1 [(lo, hi)] _ hc.out.2.1 rfl (by simp) (pairs_one_of (by repeat (first | (simp [go_sem, World.cell?_alloc_past]; done) | refine later hbD ?_ | refine later hbC ?_ | refine later hbB ?_ | refine later hbA ?_ | refine later (balloc (Below.refl _ _)) ?_)) (by repeat (first | (simp [go_sem, World.cell?_alloc_past]; done) | refine later hbD ?_ | refine later hbC ?_ | refine later hbB ?_ | refine later hbA ?_ | refine later (balloc (Below.refl _ _)) ?_)))).mono ?_; rintro e wC ⟨rfl, hC, hbC⟩; (try simp at hC))
        | (go_at_call 68; refine (unless_exif 7 _ _ k3 _ (k1 = true) rfl (fun t1 => value_tells' k3 lo hi a cap ks (w.heap.size + 1) w.heap.size _ (hc.out.2.2.1 t1).1 (hc.out.2.2.1 t1).2 hl (by go_split_ands; assumption) (by go_split_ands; assumption) (by go_split_ands; assumption) (pairs_later h.out (by repeat (first | exact Below.refl _ _ | assumption | apply balloc | apply bdrew | (refine bnext ?_ (by assumption))))))).mono ?_; rintro e wA ⟨rfl, hA, hbA⟩; (try simp at hA))
        | (go_at_call 67; go_loud (refine (firstError_is E [⟨2, 114, _, k1⟩, ⟨2, 114, _, k2⟩, ⟨7, 114, _, k3⟩] _ _ _ (hc.out.2.2.2 _ _ _ _ _ _) (by simp) (by simp) (cnds_three_at (by simp)) (tells_three (cnd_later hB (by repeat (first | exact Below.refl _ _ | assumption | apply balloc | apply bdrew | (refine bnext ?_ (by assumption))))) (fun _ => cnd_later hC (by repeat (first | exact Below.refl _ _ | assumption | apply balloc | apply bdrew | (refine bnext ?_ (by assumption))))) (fun t1 _ => cnd_later (by first | exact hA t1 | exact hA) (by repeat (first | exact Below.refl _ _ | assumption | apply balloc | apply bdrew | (refine bnext ?_ (by assumption))))))).mono ?_); rintro e wD ⟨rfl, hbD⟩))
    all_goals (go_wp2_with fail; go_meet; exact ⟨rfl, by go_split_ands; assumption, ⟨by go_split_ands; assumption, by go_split_ands; assumption⟩, ⟨by go_split_ands; assumption, by go_split_ands; assumption⟩, by go_split_ands; assumption⟩)
  case rest =>
    obtain ⟨rfl, hsl, ⟨c0, c1⟩, ⟨⟨c4, f4⟩, c5, f5⟩, hbw⟩ := hcut
    go_wp2
    exact bodyPost_ret (v := .tuple #[.agg #[.int .i64 0, .int .i64 0], .int .i64 E]) (by simp [results, Try.results50, go_sem, c4, c5]) rfl ⟨rfl, (by repeat (first | exact Below.refl _ _ | assumption | apply balloc | apply bdrew | (refine bset ?_ (by first | (simp; done) | omega | (simp; omega)) _) | (refine bnext ?_ (by assumption))))⟩
end Go.Proofs.Ytadnchcelocnaaa
