/-
  units.Where.
-/
import Derived.Test.YtckapcfofkeicaaVal
import Derived.Test.YtckapcfofkeicaaRun
namespace Go.Proofs.Ytckapcfofkeicaa
set_option linter.unusedSimpArgs false
set_option linter.unusedVariables false
open Go.RowKit Go.Shelf

attribute [local go_sem] Oper.semAt_some

/-- The conditions of Where come to E. -/
def WhCond (ks : List (Int × Int)) (lo hi E : Int) (k1 k2 : Bool) : Prop :=
  [(⟨none, 0, ks⟩ : Tb)].all Tb.ok = k1 ∧ [(lo, hi)].all rangeOk = k2 ∧ ∀ f1 c1 f2 c2, firstE [⟨2, f1, c1, k1⟩, ⟨2, f2, c2, k2⟩] = E

set_option maxHeartbeats 3200000 in
theorem whereT_bad (ks : List (Int × Int)) (a : Option Addr) (cap : Nat) (lo hi E : Int) (k1 k2 : Bool) (w : World) (hE : (E == 0) = false) (hc : Hid (WhCond ks lo hi E k1 k2)) (hl : ks.length ≤ 8796093022208) (h : Hid (IsPairs w a ks)) :
    Calls Try.prog 53 #[.slice a ks.length cap, .agg #[.int .i64 lo, .int .i64 hi]] w fun e w' => e = .returned (.tuple #[.slice none 0 0, .int .i64 E]) ∧ Below w.heap.size w w' := by
  go_enter Try.func53, Try.ntmps53
  go_upto_region 1 with fail
  go_cut [6] from 11 (fun s6 wx => s6 = .int .i64 E ∧ (wx.cell? ⟨w.heap.size, 0, none⟩ = some (.int .i64 lo) ∧ wx.cell? ⟨w.heap.size, 1, none⟩ = some (.int .i64 hi)) ∧ Below w.heap.size w wx)
  case first =>
    go_region_held3 (fun w' => w'.cell? ⟨w.heap.size, 0, none⟩ = some (.int .i64 lo) ∧ w'.cell? ⟨w.heap.size, 1, none⟩ = some (.int .i64 hi) ∧ Below w.heap.size w w')
      (first | (refine ⟨?_, ?_, bdrew (balloc (Below.refl _ _))⟩ <;> simp [go_sem, World.cell?_alloc_past]; done) | (go_split_ands; first | (exact ⟨later hbD (by assumption), later hbD (by assumption), bnext (by assumption) hbD⟩) | (exact ⟨later hbB (by assumption), later hbB (by assumption), bnext (by assumption) hbB⟩) | (exact ⟨later hbC (by assumption), later hbC (by assumption), bnext (by assumption) hbC⟩)) | (go_split_ands; exact ⟨later (balloc (Below.refl _ _)) (by assumption), later (balloc (Below.refl _ _)) (by assumption), balloc (by assumption)⟩) | go_keep)
      (first
        | (go_at_call 101; refine (validTables_ex k1 _ 1 1 [⟨a, cap, ks⟩] _ hc.out.1 rfl (by simp) (tabs_one_of (t := ⟨a, cap, ks⟩) (by repeat (first | (simp [go_sem, World.cell?_alloc_past]; done) | refine later hbD ?_ | refine later hbC ?_ | refine later hbB ?_ | refine later hbA ?_ | refine later (balloc (Below.refl _ _)) ?_)) (pairs_later h.out (by repeat (first | exact Below.refl _ _ | assumption | apply balloc | apply bdrew | (refine bnext ?_ (by assumption))))) hl)).mono ?_; rintro e wB ⟨rfl, hB, hbB⟩; (try simp at hB))
        | (go_at_call 86; refine (validRanges_ex k2 _ 1 1 [(lo, hi)] _ hc.out.2.1 rfl (by simp) (pairs_one_of (by repeat (first | (simp [go_sem, World.cell?_alloc_past]; done) | refine later hbD ?_ | refine later hbC ?_ | refine later hbB ?_ | refine later hbA ?_ | refine later (balloc (Below.refl _ _)) ?_)) (by repeat (first | (simp [go_sem, World.cell?_alloc_past]; done) | refine later hbD ?_ | refine later hbC ?_ | refine later hbB ?_ | refine later hbA ?_ | refine later (balloc (Below.refl _ _)) ?_)))).mono ?_; rintro e wC ⟨rfl, hC, hbC⟩; (try simp at hC))
        | (go_at_call 67; go_loud (refine (firstError_is E [⟨2, 114, _, k1⟩, ⟨2, 114, _, k2⟩] _ _ _ (hc.out.2.2 _ _ _ _) (by simp) (by simp) (cnds_two_at (by simp)) (tells_two (cnd_later hB (by repeat (first | exact Below.refl _ _ | assumption | apply balloc | apply bdrew | (refine bnext ?_ (by assumption))))) (fun _ => cnd_later hC (by repeat (first | exact Below.refl _ _ | assumption | apply balloc | apply bdrew | (refine bnext ?_ (by assumption))))))).mono ?_); rintro e wD ⟨rfl, hbD⟩))
    all_goals (go_wp2_with fail; go_meet; exact ⟨rfl, ⟨by go_split_ands; assumption, by go_split_ands; assumption⟩, by go_split_ands; assumption⟩)
  case rest =>
    obtain ⟨rfl, ⟨c0, c1⟩, hbw⟩ := hcut
    go_wp2
    go_ret2
    exact ⟨rfl, (by repeat (first | exact Below.refl _ _ | assumption | apply balloc | apply bdrew | (refine bset ?_ (by first | (simp; done) | omega | (simp; omega)) _) | (refine bnext ?_ (by assumption))))⟩

/-- What a piece adds to the runs. -/
def wStep (lo hi : Int) (rs : List (Int × Int)) (x : Pc) : List (Int × Int) :=
  if (whereQ x.1.1 x.1.2 x.2.1 x.2.2 lo hi).2 = true then appR rs (whereQ x.1.1 x.1.2 x.2.1 x.2.2 lo hi).1 else rs
def wAll (lo hi : Int) (ps : List Pc) : List (Int × Int) := ps.foldl (wStep lo hi) []
theorem wAll_snoc (lo hi : Int) (l : List Pc) (p : Pc) : wAll lo hi (l ++ [p]) = wStep lo hi (wAll lo hi l) p := by simp [wAll]
theorem wAll_length (lo hi : Int) (l : List Pc) : (wAll lo hi l).length ≤ l.length := by
  suffices ∀ rs : List (Int × Int), (l.foldl (wStep lo hi) rs).length ≤ rs.length + l.length by simpa [wAll] using this []
  induction l with
  | nil => intro rs; simp
  | cons p l ih =>
    intro rs
    have h1 : (wStep lo hi rs p).length ≤ rs.length + 1 := by
      unfold wStep
      split
      · exact appR_length _ _
      · omega
    have := ih (wStep lo hi rs p)
    simp only [List.foldl_cons, List.length_cons]
    omega
/-- The runs that have been found lie in the variable's box. -/
def Runs (base B : Nat) (rs : List (Int × Int)) (W : World) : Prop := ∃ v, Boxed W B 43 v ∧ W.ownsRow base 46 2 v rs.length (rowOf rs) ∧ True
theorem runs_own (base B : Nat) {β : Type} (f : β → List (Int × Int)) : Own (fun (s : β) W => Runs base B (f s) W) := holdsRow_own base B 43 46 2 (fun s => (f s).length) (fun s => rowOf (f s)) (fun _ _ => True)
theorem boxed_later {w W : World} {B : Nat} {t : TypeId} {v : Value} (h : Boxed w B t v) (hb : Below w.heap.size w W) : Boxed W B t v := (hb.block B h.lt).trans h
theorem runs_later {base B : Nat} {rs : List (Int × Int)} {w W : World} (h : Runs base B rs w) (hb : Below w.heap.size w W) : Runs base B rs W := by
  obtain ⟨v, h1, h2, h3⟩ := h
  exact ⟨v, boxed_later h1 hb, owns_later h2 hb, h3⟩
theorem slice_of_owns {w : World} {base n : Nat} {e : TypeId} {size : Nat} {v : Value} {xs : List Value} (h : w.ownsRow base e size v n xs) : ∃ a cap, v = .slice a n cap := by
  rcases h.2 with ⟨e, e'⟩ | ⟨g, cap, cur, e, _⟩
  · subst e'; exact ⟨none, 0, e⟩
  · exact ⟨_, cap, e⟩

theorem kv_of_below {n b : Nat} {A B : World} (h : Below n A B) : Kv n b A B := ⟨h.os, h.tape, h.output, h.size, fun k hk _ => h.block k hk⟩
theorem kv_set {n b : Nat} (A : World) (v : Value) : Kv n b A (A.setCell ⟨b, 0, none⟩ v) := ⟨rfl, rfl, rfl, (KeepsOthers.setCell A _ v).size, fun k _ hb => Below.heap_setCell _ _ _ k hb⟩
theorem owns_base {w : World} {base base' : Nat} {e : TypeId} {size : Nat} {v : Value} {n : Nat} {xs : List Value} (h : w.ownsRow base e size v n xs) (hb : base' ≤ base) : w.ownsRow base' e size v n xs := by
  obtain ⟨h1, h2⟩ := h
  refine ⟨h1, ?_⟩
  rcases h2 with h2 | ⟨g, cap, cur, hv, hg, r⟩
  · exact .inl h2
  · exact .inr ⟨g, cap, cur, hv, by omega, r⟩

set_option maxRecDepth 100000 in
set_option maxHeartbeats 3200000 in
theorem whereT_good (ks : List (Int × Int)) (a : Option Addr) (cap : Nat) (lo hi : Int) (w : World) (hc : Hid (WhCond ks lo hi 0 true true)) (hl : ks.length ≤ 1000) (h : Hid (IsPairs w a ks)) (hok : ∀ k, k < ks.length - 1 → pcOk (seg ks k)) (br : -1000000000000000 ≤ lo ∧ lo ≤ 1000000000000000 ∧ -1000000000000000 ≤ hi ∧ hi ≤ 1000000000000000) :
    Calls Try.prog 53 #[.slice a ks.length cap, .agg #[.int .i64 lo, .int .i64 hi]] w fun e w' => ∃ v, e = .returned (.tuple #[v, .int .i64 0]) ∧ w'.ownsRow w.heap.size 46 2 v (wAll lo hi (segs ks (ks.length - 1))).length (rowOf (wAll lo hi (segs ks (ks.length - 1)))) ∧ Below w.heap.size w w' := by
  refine (callsIn_wide (n := 6)).1 ?_
  refine callsIn_of_wp_marks Try.func53 rfl trivial ?_ rfl
  simp only [Try.ntmps53, List.size_toArray, List.length_cons, List.length_nil, Nat.reduceAdd, Nat.reduceSub, Array.replicate_succ, Array.replicate_zero, List.push_toArray, List.append_toArray, List.nil_append, List.cons_append]
  refine wpIn_wide.2 ?_
  go_upto_region 1 with fail
  go_cut [6] from 11 (fun s6 wx => s6 = .int .i64 0 ∧ (wx.cell? ⟨w.heap.size, 0, none⟩ = some (.int .i64 lo) ∧ wx.cell? ⟨w.heap.size, 1, none⟩ = some (.int .i64 hi)) ∧ Below w.heap.size w wx)
  case first =>
    have hl' : ks.length ≤ 8796093022208 := by omega
    go_region_held3 (fun w' => w'.cell? ⟨w.heap.size, 0, none⟩ = some (.int .i64 lo) ∧ w'.cell? ⟨w.heap.size, 1, none⟩ = some (.int .i64 hi) ∧ Below w.heap.size w w')
      (first | (refine ⟨?_, ?_, bdrew (balloc (Below.refl _ _))⟩ <;> simp [go_sem, World.cell?_alloc_past]; done) | (go_split_ands; first | (exact ⟨later hbD (by assumption), later hbD (by assumption), bnext (by assumption) hbD⟩) | (exact ⟨later hbB (by assumption), later hbB (by assumption), bnext (by assumption) hbB⟩) | (exact ⟨later hbC (by assumption), later hbC (by assumption), bnext (by assumption) hbC⟩)) | (go_split_ands; exact ⟨later (balloc (Below.refl _ _)) (by assumption), later (balloc (Below.refl _ _)) (by assumption), balloc (by assumption)⟩) | go_keep)
      (first
        | (go_at_call 101; refine (validTables_ex true _ 1 1 [⟨a, cap, ks⟩] _ hc.out.1 rfl (by simp) (tabs_one_of (t := ⟨a, cap, ks⟩) (by repeat (first | (simp [go_sem, World.cell?_alloc_past]; done) | refine later hbD ?_ | refine later hbC ?_ | refine later hbB ?_ | refine later hbA ?_ | refine later (balloc (Below.refl _ _)) ?_)) (pairs_later h.out (by repeat (first | exact Below.refl _ _ | assumption | apply balloc | apply bdrew | (refine bnext ?_ (by assumption))))) hl')).mono ?_; rintro e wB ⟨rfl, hB, hbB⟩; (try simp at hB))
        | (go_at_call 86; refine (validRanges_ex true _ 1 1 [(lo, hi)] _ hc.out.2.1 rfl (by simp) (pairs_one_of (by repeat (first | (simp [go_sem, World.cell?_alloc_past]; done) | refine later hbD ?_ | refine later hbC ?_ | refine later hbB ?_ | refine later hbA ?_ | refine later (balloc (Below.refl _ _)) ?_)) (by repeat (first | (simp [go_sem, World.cell?_alloc_past]; done) | refine later hbD ?_ | refine later hbC ?_ | refine later hbB ?_ | refine later hbA ?_ | refine later (balloc (Below.refl _ _)) ?_)))).mono ?_; rintro e wC ⟨rfl, hC, hbC⟩; (try simp at hC))
        | (go_at_call 67; go_loud (refine (firstError_is 0 [⟨2, 114, _, true⟩, ⟨2, 114, _, true⟩] _ _ _ (hc.out.2.2 _ _ _ _) (by simp) (by simp) (cnds_two_at (by simp)) (tells_two (cnd_later hB (by repeat (first | exact Below.refl _ _ | assumption | apply balloc | apply bdrew | (refine bnext ?_ (by assumption))))) (fun _ => cnd_later hC (by repeat (first | exact Below.refl _ _ | assumption | apply balloc | apply bdrew | (refine bnext ?_ (by assumption))))))).mono ?_); rintro e wD ⟨rfl, hbD⟩))
    all_goals (go_wp2_with fail; go_meet; exact ⟨rfl, ⟨by go_split_ands; assumption, by go_split_ands; assumption⟩, by go_split_ands; assumption⟩)
  case rest =>
    obtain ⟨rfl, ⟨c0, c1⟩, hbw⟩ := hcut
    have z0 : w.heap.size < wc.heap.size := World.block_lt_of_cell? _ _ c0
    have P' := hide fun w => (callsIn_wide (n := 5)).1 (pieces_in 5 a ks.length cap w)
    go_wp2_with (go_at_call 103; refine (P'.out _).mono ?_; rintro e w2 ⟨rfl, rfl⟩)
    have gG : Runs (wc.heap.size + 2) wc.heap.size [] ((wc.alloc (.cells #[.slice none 0 0] 43)).alloc (.cells #[.slice a ks.length cap] 59)) := ⟨_, (Boxed.new wc 43 (.slice none 0 0)).alloc _, World.ownsRow_nil _ _ _ _, trivial⟩
    have gP : PF ⟨wc.heap.size + 1, 0, none⟩ a cap ks ((wc.alloc (.cells #[.slice none 0 0] 43)).alloc (.cells #[.slice a ks.length cap] 59)) := ⟨by simp [go_sem], pairs_later h.out (balloc (balloc hbw))⟩
    have gB : Below wc.heap.size wc ((wc.alloc (.cells #[.slice none 0 0] 43)).alloc (.cells #[.slice a ks.length cap] 59)) := balloc (balloc (Below.refl _ _))
    have gS : ((wc.alloc (.cells #[.slice none 0 0] 43)).alloc (.cells #[.slice a ks.length cap] 59)).heap.size = wc.heap.size + 2 := by simp
    obtain ⟨w5, hw5⟩ : ∃ w5, (wc.alloc (.cells #[.slice none 0 0] 43)).alloc (.cells #[.slice a ks.length cap] 59) = w5 := ⟨_, rfl⟩
    rw [hw5] at gG gP gB gS ⊢
    clear hw5
    rw [← gS] at gG
    refine wpIn_wide (n := 6).1 ?_
    refine wpIn_rangeFunc_ownH (F := Fence.wide) (n := 6) rfl (by omega) (gf := 128) (lb := #[.pointer (some ⟨wc.heap.size + 1, 0, none⟩)]) rfl trivial (enters_of Try.func128 (by kernel_rfl) rfl)
      (pieces_stops 5 (by omega) ⟨wc.heap.size + 1, 0, none⟩ a cap ks (by omega) pcOk hok (Kv w5.heap.size wc.heap.size) (fun A B hk hp => ?keep) w5 gP)
      (fun h1 h2 => h1.trans h2) (fun W l o o' h1 h2 _ _ => Kv.put W l o o' h1 h2) (Below.refl _ _) (fun _ => rfl)
      (fun pre W => Runs w5.heap.size wc.heap.size (wAll lo hi (pre.map Subtype.val)) W ∧ Kv w5.heap.size wc.heap.size w5 W)
      (fun _ _ _ => False)
      (OwnFrom.and (Own.from (runs_own _ _ _) _) (fun s A B row hs hg hr => hs.grown (Nat.le_refl _) hg (fun r e => (hr r e).1)))
      (fun _ _ _ _ _ hs _ _ => hs)
      ⟨gG, Kv.refl _ _ _⟩
      (fun x a' W => ∃ Bx, w5.heap.size ≤ Bx ∧ (W.cell? ⟨Bx, 0, none⟩ = some (.int .i64 x.1.1.1) ∧ W.cell? ⟨Bx, 1, none⟩ = some (.int .i64 x.1.1.2) ∧ W.cell? ⟨Bx, 2, none⟩ = some (.int .i64 x.1.2.1) ∧ W.cell? ⟨Bx, 3, none⟩ = some (.int .i64 x.1.2.2)) ∧ a' = { tmps := #[.slice a ks.length cap, .agg #[.int .i64 lo, .int .i64 hi], undef, .pointer (some ⟨w.heap.size, 0, none⟩), .slice none 0 0, .int .i64 0, .int .i64 0, .pointer (some ⟨wc.heap.size, 0, none⟩), .pointer (some ⟨Bx, 0, none⟩), undef, undef, u11, u12, u13, u14, u15, u16, u17, u18, .int .i64 0, .bool false, u21, .slice a ks.length cap, .func (.func 128) #[] #[.pointer (some ⟨wc.heap.size + 1, 0, none⟩)], .agg #[.int .i64 x.1.1.1, .int .i64 x.1.1.2, .int .i64 x.1.2.1, .int .i64 x.1.2.2], u25, u26, u27, u28, u29, u30, u31, u32, u33, u34, u35], defers := [] })
      (fun x a' _ X Y row hs hg hr => by obtain ⟨Bx, h1, ⟨h2, h3, h4, h5⟩, h6⟩ := hs; exact ⟨Bx, h1, ⟨cell_kept h2 hg (fun r e => (hr r e).2), cell_kept h3 hg (fun r e => (hr r e).2), cell_kept h4 hg (fun r e => (hr r e).2), cell_kept h5 hg (fun r e => (hr r e).2)⟩, h6⟩)
      ?assign ?body ?done ?stop
    case keep => exact pf_kv h.out (by have := hbw.size; omega) (by have := hbw.size; omega) (by simp; omega) (by simp) hk hp
    case assign =>
      rintro l pre ⟨⟨⟨x0, y0⟩, ⟨x1, y1⟩⟩, hx⟩ W K ⟨hG, hK⟩ hKK
      have hKs := hK.size
      simp only [encP] at *
      have B1 : Below W.heap.size W (W.alloc (.cells #[.int .i64 x0, .int .i64 y0, .int .i64 x1, .int .i64 y1] 139)) := balloc (Below.refl _ _)
      gi_wp2
      exact hKK _ _ ((KeepsOthers.alloc _ _).from _) (Kv.grown (Kv.refl _ _ _) hKs (World.grownBy_alloc W _ none) (fun r e => by cases e)) ⟨runs_later hG B1, hK.grown (Nat.le_refl _) (World.grownBy_alloc W _ none) (fun r e => by cases e)⟩ ⟨W.heap.size, hKs, by simp [go_sem], rfl⟩
    case body =>
      rintro l pre ⟨⟨⟨x0, y0⟩, ⟨x1, y1⟩⟩, hx⟩ a' W hl5 ⟨r, hr⟩ ⟨hG, hK⟩ ⟨Bx, hBx, ⟨b0, b1, b2, b3⟩, rfl⟩ hlt
      have hws := hbw.size
      have d0 := Kv.cell hK (show w.heap.size < w5.heap.size by omega) (show w.heap.size ≠ wc.heap.size by omega) (later gB c0)
      have d1 := Kv.cell hK (show w.heap.size < w5.heap.size by omega) (show w.heap.size ≠ wc.heap.size by omega) (later gB c1)
      simp only at b0 b1 b2 b3
      have hKs := hK.size
      have hxb := hx
      simp only [pcOk] at hxb
      have WH := fun V => where_any x0 y0 x1 y1 lo hi V (by omega) (by omega) br
      have AA : wAll lo hi ((pre ++ [(⟨((x0, y0), (x1, y1)), hx⟩ : { x : Pc // pcOk x })]).map Subtype.val) = wStep lo hi (wAll lo hi (pre.map Subtype.val)) ((x0, y0), (x1, y1)) := by rw [List.map_append]; exact wAll_snoc _ _ _ _
      have hnl : (wAll lo hi (pre.map Subtype.val)).length ≤ 1000 := by have := wAll_length lo hi (pre.map Subtype.val); rw [List.length_map] at this; omega
      have SS : wStep lo hi (wAll lo hi (pre.map Subtype.val)) ((x0, y0), (x1, y1)) = if (whereQ x0 y0 x1 y1 lo hi).2 = true then appR (wAll lo hi (pre.map Subtype.val)) (whereQ x0 y0 x1 y1 lo hi).1 else wAll lo hi (pre.map Subtype.val) := rfl
      rw [SS] at AA
      clear SS
      obtain ⟨q, hq⟩ : ∃ q, whereQ x0 y0 x1 y1 lo hi = q := ⟨_, rfl⟩
      rw [hq] at WH AA
      clear hq
      obtain ⟨⟨r1, r2⟩, ok⟩ := q
      have WH' := hide WH
      have AA' := hide AA
      have HN := hide hnl
      clear WH AA hnl hxb
      have hG' := id hG
      obtain ⟨v, hbox, hown, _⟩ := hG'
      obtain ⟨av, cv, rfl⟩ := slice_of_owns hown
      have HB := hide hbox
      have HO := hide hown
      clear hbox hown
      cases ok with
      | false =>
        gi_wp2_with (refine ⟨trivial, ?_⟩; gi_at_call 107; refine (CallsIn.inRound l (callsIn_wide.2 (WH'.out _))).mono ?_; rintro e w8 ⟨rfl, hb8⟩)
        have B8 : Below W.heap.size W (w8.alloc (.cells #[.int .i64 r1, .int .i64 r2] 46)) := balloc hb8
        have K8 : Kv w5.heap.size wc.heap.size W (w8.alloc (.cells #[.int .i64 r1, .int .i64 r2] 46)) := kv_of_below (B8.mono hKs)
        exact ⟨(keeps_of_below B8).from _, K8, by rw [AA'.out]; exact runs_later hG B8, hK.trans K8⟩
      | true =>
        gi_wp2_with (first
          | (refine ⟨trivial, ?_⟩; gi_at_call 107; refine (CallsIn.inRound l (callsIn_wide.2 (WH'.out _))).mono ?_; rintro e w8 ⟨rfl, hb8⟩; have e7 := (boxed_later HB.out hb8).cell; have e8 := fun o => later (balloc (o := o) (Below.refl _ _)) e7)
          | (refine ⟨trivial, ?_⟩; gi_at_call 108; refine (CallsIn.inRound l (callsIn_wide.2 (appendRun_any w5.heap.size _ _ r1 r2 _ HN.out (by have := hb8.size; simp; omega) ((owns_later HO.out hb8).alloc _)))).mono ?_; rintro e w9 ⟨v', rfl, hown9, hbl9, hko9⟩; obtain ⟨a9, c9, rfl⟩ := slice_of_owns hown9; have hbox9 := hide (show Boxed w9 wc.heap.size 43 _ from (hbl9.block _ (by omega)).trans ((boxed_later HB.out hb8).alloc _)); have e9 := hbox9.out.cell; have f9 := hbox9.out.frozen; have hown9' := hide hown9; clear hown9 e7 e8))
        have B8 : Below W.heap.size W (w8.alloc (.cells #[.int .i64 r1, .int .i64 r2] 46)) := balloc hb8
        have K9 : Kv w5.heap.size wc.heap.size W (w9.setCell ⟨wc.heap.size, 0, none⟩ (.slice a9 (appR (wAll lo hi (pre.map Subtype.val)) (r1, r2)).length c9)) := ((kv_of_below (B8.mono hKs)).trans (kv_of_below hbl9)).trans (kv_set _ _)
        exact ⟨(((keeps_of_below B8).trans hko9).trans (KeepsOthers.setCell _ _ _)).from _, K9, by rw [AA'.out]; exact ⟨_, Boxed.set _ hbox9.out, ownsRow_setCell_below hown9'.out (by simp; omega) _, trivial⟩, hK.trans K9⟩
    case done =>
      rintro D ys W hD hys ⟨⟨v, hbox, hown, _⟩, hK⟩ hDD
      rw [hys] at hown
      obtain ⟨av, cv, rfl⟩ := slice_of_owns hown
      have e7 := hbox.cell
      have HO := hide hown
      clear hown
      have hws := hbw.size
      have B5 : Below w.heap.size w w5 := bnext hbw (gB.mono (Nat.le_refl _))
      have BW : Below w.heap.size w W := ⟨hK.os.trans B5.os, hK.tape.trans B5.tape, hK.output.trans B5.output, Nat.le_trans B5.size hK.size, fun k hk => (hK.block k (by omega) (by omega)).trans (B5.block k hk)⟩
      obtain ⟨rs, hrs⟩ : ∃ rs, wAll lo hi (segs ks (ks.length - 1)) = rs := ⟨_, rfl⟩
      rw [hrs] at HO e7
      have hrs' := hide hrs
      clear hrs
      go_wp2_with fail
      refine ⟨by simp, .inl ⟨_, _, rfl, run_takeDeferred hDD, ?_⟩⟩
      rw [hrs'.out]
      refine ⟨.tuple #[.slice av rs.length cv, .int .i64 0], ?_, ⟨_, rfl, owns_base (ownsRow_putObj HO.out _ hDD rfl) (by omega), ?_⟩⟩
      · simp [results, Try.results53, go_sem]
      · exact BW.trans (belowK_b (w := w) (Nat.le_refl _) _ D _ _ (by omega) hDD rfl rfl)
    case stop =>
      rintro D c pre W _ _ h _
      exact h.elim

/-- The results of Where. -/
def whereTQ (ks : List (Int × Int)) (lo hi : Int) : List (Int × Int) × Int :=
  if tabOk ks = false then ([], 2) else if [(lo, hi)].all rangeOk = false then ([], 2) else (wAll lo hi (segs ks (ks.length - 1)), 0)
theorem whereT_any (ks : List (Int × Int)) (a : Option Addr) (cap : Nat) (lo hi : Int) (w : World) (hl : ks.length ≤ 8796093022208) (h : IsPairs w a ks) :
    Calls Try.prog 53 #[.slice a ks.length cap, .agg #[.int .i64 lo, .int .i64 hi]] w fun e w' => ∃ v, e = .returned (.tuple #[v, .int .i64 (whereTQ ks lo hi).2]) ∧ w'.ownsRow w.heap.size 46 2 v (whereTQ ks lo hi).1.length (rowOf (whereTQ ks lo hi).1) ∧ Below w.heap.size w w' := by
  unfold whereTQ
  have ht : ∀ c n, [(⟨c, n, ks⟩ : Tb)].all Tb.ok = tabOk ks := fun c n => by simp [Tb.ok]
  cases h1 : tabOk ks with
  | false =>
    rw [if_pos rfl]
    refine (whereT_bad ks a cap lo hi 2 false ([(lo, hi)].all rangeOk) w rfl ⟨(ht _ _).trans h1, rfl, fun _ _ _ _ => rfl⟩ hl h).mono ?_
    rintro e w' ⟨rfl, hb⟩
    exact ⟨_, rfl, World.ownsRow_nil _ _ _ _, hb⟩
  | true =>
    rw [if_neg (by simp)]
    cases h2 : [(lo, hi)].all rangeOk with
    | false =>
      rw [if_pos rfl]
      refine (whereT_bad ks a cap lo hi 2 true false w rfl ⟨(ht _ _).trans h1, h2, fun _ _ _ _ => rfl⟩ hl h).mono ?_
      rintro e w' ⟨rfl, hb⟩
      exact ⟨_, rfl, World.ownsRow_nil _ _ _ _, hb⟩
    | true =>
      rw [if_neg (by simp)]
      have h2' := h2
      simp [rangeOk, allIn] at h2'
      exact whereT_good ks a cap lo hi w ⟨(ht _ _).trans h1, h2, fun _ _ _ _ => rfl⟩ (by have := (len_of h1).2; omega) h (pcOk_of h1) (by omega)
end Go.Proofs.Ytckapcfofkeicaa
