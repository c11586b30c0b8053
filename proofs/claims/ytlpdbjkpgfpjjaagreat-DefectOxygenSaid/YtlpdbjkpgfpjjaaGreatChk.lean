/-
  units.CheckTable.
-/
import Derived.Test.YtlpdbjkpgfpjjaaGreatTabs
import Derived.BigQuiet
namespace Go.Proofs.YtlpdbjkpgfpjjaaGreat
set_option linter.unusedSimpArgs false
set_option linter.unusedVariables false
open Go.RowKit

set_option maxHeartbeats 1600000 in
theorem checkTable_go (k : Bool) (E : Int) (ks : List (Int × Int)) (a : Option Addr) (cap : Nat) (w : World) (hk : [(⟨a, cap, ks⟩ : Tb)].all Tb.ok = k) (hE : Hid (∀ f c, firstE [⟨2, f, c, k⟩] = E)) (hl : ks.length ≤ 8796093022208) (h : Hid (IsPairs w a ks)) :
    Calls Tryz.prog 151 #[.slice a ks.length cap] w fun e w' => e = .returned (.int .i64 E) ∧ Below w.heap.size w w' := by
  have HK := hide hk
  clear hk
  go_enter Tryz.func151, Tryz.ntmps151
  go_wp2_with fail
  refine (validTables_ex k _ 1 1 [⟨a, cap, ks⟩] _ HK.out rfl (by simp) (tabs_one_of (t := ⟨a, cap, ks⟩) (by simp [go_sem, World.cell?_alloc_past]) (pairs_later h.out (by repeat (first | exact Below.refl _ _ | assumption | apply balloc | apply bdrew | (refine below_drewN ?_ _) | (refine bset ?_ (by first | (simp; done) | omega | (simp; omega)) _) | (refine bnext ?_ (by assumption))))) hl)).mono ?_
  rintro e wB ⟨rfl, hB, hbB⟩
  (try simp at hB)
  go_wp2_with fail
  refine (firstError_is E [⟨2, 109, _, k⟩] _ _ _ (hE.out _ _) (by simp) (by simp) (cnds_one_at (by simp)) (tells_one (cnd_later hB (by repeat (first | exact Below.refl _ _ | assumption | apply balloc | apply bdrew | (refine below_drewN ?_ _) | (refine bset ?_ (by first | (simp; done) | omega | (simp; omega)) _) | (refine bnext ?_ (by assumption))))))).mono ?_
  rintro e wD ⟨rfl, hbD⟩
  go_wp2_with fail
  go_ret
  exact ⟨rfl, (by repeat (first | exact Below.refl _ _ | assumption | apply balloc | apply bdrew | (refine below_drewN ?_ _) | (refine bset ?_ (by first | (simp; done) | omega | (simp; omega)) _) | (refine bnext ?_ (by assumption))))⟩
theorem checkTable_any (ks : List (Int × Int)) (a : Option Addr) (cap : Nat) (w : World) (hl : ks.length ≤ 8796093022208) (h : IsPairs w a ks) :
    Calls Tryz.prog 151 #[.slice a ks.length cap] w fun e w' => e = .returned (.int .i64 (if tabOk ks = true then 0 else 2)) ∧ Below w.heap.size w w' := by
  have ht : [(⟨a, cap, ks⟩ : Tb)].all Tb.ok = tabOk ks := by simp [Tb.ok]
  cases hk : tabOk ks with
  | true => exact checkTable_go true 0 ks a cap w (ht.trans hk) (fun _ _ => rfl) hl h
  | false => exact checkTable_go false 2 ks a cap w (ht.trans hk) (fun _ _ => rfl) hl h
end Go.Proofs.YtlpdbjkpgfpjjaaGreat
