/-
  math/bits: LeadingZeros64, Div64 at this dump.
-/
import Derived.Test.YtadnchcelocnaaaBits
namespace Go.Proofs.Ytadnchcelocnaaa
set_option linter.unusedSimpArgs false
set_option linter.unusedVariables false
open Go.RowKit

set_option maxHeartbeats 400000 in
theorem lz64_any (y s : Nat) (w : World) (hy : y < 18446744073709551616) (hs : bitLen y + s = 64) :
    Calls Try.prog 132 #[.int .u64 y] w fun e w' => e = .returned (.int .i64 (s : Int)) ∧ w = w' := by
  go_enter Try.func132, Try.ntmps132
  go_wp2_with (go_at_call 133; refine (len64_any _ _ (by omega) (by omega)).mono ?_; rintro e w' ⟨rfl, rfl⟩)
  go_ret
  refine ⟨ret_eq1 ?_, rfl⟩
  omega

set_option maxHeartbeats 400000 in
theorem div64_small (lo y : Nat) (w : World) (hy : 0 < y) (_hy2 : y < 18446744073709551616) (_hlo : lo < 18446744073709551616) :
    Calls Try.prog 131 #[.int .u64 0, .int .u64 lo, .int .u64 y] w fun e w' => e = .returned (.tuple #[.int .u64 ((lo / y : Nat) : Int), .int .u64 ((lo % y : Nat) : Int)]) ∧ Below w.heap.size w w' := by
  have h1 : ((y : Int) == 0) = false := by simp; omega
  go_enter Try.func131, Try.ntmps131
  go_wp2
  go_quiet (fail)
  go_wp2
  go_ret2
  refine ⟨ret_eq2 ?_ rfl, below_drewN (Below.refl _ _) _⟩
  have e : (lo : Int) / (y : Int) = ((lo / y : Nat) : Int) := (Int.natCast_ediv lo y).symm
  have h := Nat.div_le_self lo y
  rw [IntKind.wrap_u64, e]
  generalize lo / y = z at *
  omega

/-- What a round keeps, over integers (no numeral stands beside a cast of a natural number in the walk). -/
def KI (U u1 n1 n0 : Nat) (q r : Int) : Prop := ∃ a b : Nat, q = a ∧ r = b ∧ Bm.KInv U u1 n1 n0 a b
theorem ki_stop {U u1 n1 n0 : Nat} {q r : Int} (hn1 : 2147483648 ≤ n1) (h : KI U u1 n1 n0 q r) (hc : ¬ (4294967296 * r + u1 < q * n0)) : q = ((U * 4294967296 + u1) / (n1 * 4294967296 + n0) : Nat) := by
  obtain ⟨a, b, rfl, rfl, h⟩ := h
  have := Bm.kstop hn1 h (by rw [← Int.natCast_mul] at hc; omega)
  rw [← this]
theorem ki_bounds {U u1 n1 n0 : Nat} {q r : Int} (h : KI U u1 n1 n0 q r) : 0 ≤ q ∧ q ≤ 4294967297 ∧ 0 ≤ r ∧ r < 4294967296 := by
  obtain ⟨a, b, rfl, rfl, _, _, c, d⟩ := h
  omega
theorem ki_down {U u1 n1 n0 : Nat} {q r : Int} (hn1 : 2147483648 ≤ n1) (hn0 : n0 < 4294967296) (hU : U < n1 * 4294967296 + n0) (hu1 : u1 < 4294967296)
    (h : KI U u1 n1 n0 q r) (hc : 4294967296 ≤ q ∨ 4294967296 * r + u1 < q * n0) :
    1 ≤ q ∧ (r + n1 < 4294967296 → KI U u1 n1 n0 (q - 1) (r + n1)) ∧ (4294967296 ≤ r + n1 → q - 1 = ((U * 4294967296 + u1) / (n1 * 4294967296 + n0) : Nat)) := by
  obtain ⟨x, t, rfl, rfl, h⟩ := h
  obtain ⟨a, b, c⟩ := Bm.kdown hU hu1 h (by rw [← Int.natCast_mul] at hc; omega)
  obtain ⟨_, _, hr, hl⟩ := h
  refine ⟨by omega, fun hb => ⟨x - 1, t + n1, by omega, by omega, b, c, by omega, by omega⟩, fun hb => ?_⟩
  rw [← Bm.kbreak hn1 hn0 b c (by omega) (by omega)]
  omega
theorem ki_prod {U u1 n1 n0 : Nat} {q r : Int} (hn0 : n0 < 4294967296) (h : KI U u1 n1 n0 q r) (hc : ¬ 4294967296 ≤ q) : IntKind.u64.wrap (q * (n0 : Int)) = q * (n0 : Int) := by
  obtain ⟨a, b, rfl, rfl, h⟩ := h
  have : a * n0 ≤ 4294967295 * 4294967295 := Nat.mul_le_mul (by omega) (by omega)
  rw [IntKind.wrap_u64, ← Int.natCast_mul]
  omega

theorem start_q (U n1 : Nat) (h : 1 ≤ n1) (hU : U < 18446744073709551616) : IntKind.u64.wrap ((U : Int) / (n1 : Int)) = ((U / n1 : Nat) : Int) := by
  have e : (U : Int) / (n1 : Int) = ((U / n1 : Nat) : Int) := (Int.natCast_ediv U n1).symm
  have h := Nat.div_le_self U n1
  rw [IntKind.wrap_u64, e]
  generalize U / n1 = z at *
  omega
theorem start_r (U n1 : Nat) (h : 1 ≤ n1) (hU : U < 18446744073709551616) : IntKind.u64.wrap ((U : Int) - IntKind.u64.wrap (IntKind.u64.wrap ((U : Int) / (n1 : Int)) * (n1 : Int))) = ((U % n1 : Nat) : Int) := by
  rw [start_q U n1 h hU]
  have e := Nat.div_add_mod U n1
  rw [← Int.natCast_mul, IntKind.wrap_u64, IntKind.wrap_u64, Nat.mul_comm]
  generalize n1 * (U / n1) = z at *
  generalize U % n1 = t at *
  omega

theorem fin_q {q Q q' Q0 : Int} (h : q = Q) (h' : q' = Q0) : q * 4294967296 + q' = Q * 4294967296 + Q0 := by rw [h, h']

set_option maxRecDepth 100000 in
set_option maxHeartbeats 1600000 in
theorem div64_walk (hi lo y s Y U L n1 n0 u1 u0 Q R Q0 R0 : Nat) (w : World) (h0 : 0 < hi) (hlt : hi < y) (hy : y < 18446744073709551616) (hs : Hid (bitLen y + s = 64)) (hs' : s ≤ 63)
    (eY : IntKind.u64.wrap ((y : Int) * 2 ^ s) = (Y : Int)) (hY1 : 9223372036854775808 ≤ Y) (hY2 : Y < 18446744073709551616)
    (eL : IntKind.u64.wrap ((lo : Int) * 2 ^ s) = (L : Int)) (hL : L < 18446744073709551616)
    (eU : bits BinOp.or IntKind.u64 (IntKind.u64.wrap (↑hi * 2 ^ s)) (↑lo / 2 ^ (64 - s)) = (U : Int)) (hU : U < Y)
    (eN1 : (Y : Int) / 4294967296 = (n1 : Int)) (eN0 : (Y : Int) % 4294967296 = (n0 : Int)) (eL1 : (L : Int) / 4294967296 = (u1 : Int)) (eL0 : (L : Int) % 4294967296 = (u0 : Int))
    (hQ : Hid (Q = (U * 4294967296 + u1) / (n1 * 4294967296 + n0))) (hQb : Q < 4294967296) (hR : R < Y)
    (eR : IntKind.u64.wrap (IntKind.u64.wrap (IntKind.u64.wrap ((U : Int) * 4294967296) + (u1 : Int)) - IntKind.u64.wrap ((Q : Int) * (Y : Int))) = (R : Int))
    (hQ0 : Hid (Q0 = (R * 4294967296 + u0) / (n1 * 4294967296 + n0))) (hQ0b : Q0 < 4294967296)
    (eR0 : IntKind.u64.wrap (IntKind.u64.wrap (IntKind.u64.wrap ((R : Int) * 4294967296) + (u0 : Int)) - IntKind.u64.wrap ((Q0 : Int) * (Y : Int))) = (R0 : Int)) (hR0 : R0 < Y) :
    Calls Try.prog 131 #[.int .u64 hi, .int .u64 lo, .int .u64 y] w fun e w' => e = .returned (.tuple #[.int .u64 ((Q : Int) * 4294967296 + (Q0 : Int)), .int .u64 ((R0 : Int) / 2 ^ s)]) ∧ Below w.heap.size w w' := by
  have h1 : ((y : Int) == 0) = false := by simp; omega
  have h2 : ((hi : Int) == 0) = false := by simp; omega
  have a1 := and_low32 Y (by omega) (by omega)
  have a2 := and_low32 L (by omega) (by omega)
  rw [eN0] at a1
  rw [eL0] at a2
  have hn1 : 2147483648 ≤ n1 := by omega
  have hn1' : n1 < 4294967296 := by omega
  have hn0 : n0 < 4294967296 := by omega
  have hu1 : u1 < 4294967296 := by omega
  have hu0 : u0 < 4294967296 := by omega
  have hYn : Hid (Y = n1 * 4294967296 + n0) := by unfold Hid; omega
  have hUn : U < n1 * 4294967296 + n0 := by omega
  have hRn : R < n1 * 4294967296 + n0 := by omega
  have eD : ((n1 : Int) == 0) = false := by simp; omega
  go_enter Try.func131, Try.ntmps131
  go_wp2_with (go_at_call 132; refine (lz64_any _ s _ hy hs.out).mono ?_; rintro e w' ⟨rfl, rfl⟩)
  go_loop [15, 16] (fun a b => ∃ q r : Int, a = .int .u64 q ∧ b = .int .u64 r ∧ KI U u1 n1 n0 q r) (fun a _ => (intOf a).toNat)
  case atStart =>
    exact ⟨_, _, congrArg _ (start_q U n1 (by omega) (by omega)), congrArg _ (start_r U n1 (by omega) (by omega)), _, _, rfl, rfl, Bm.kinit hn1 hn1' hn0 hUn hu1⟩
  case round =>
    obtain ⟨q, r, rfl, rfl, hk⟩ := hrel
    obtain ⟨b1, b2, b3, b4⟩ := ki_bounds hk
    by_cases c1 : 4294967296 ≤ q
    · obtain ⟨k1, k2, k3⟩ := ki_down hn1 hn0 hUn hu1 hk (.inl c1)
      by_cases b : 4294967296 ≤ r + n1
      · have e := (k3 b).trans (congrArg _ hQ.out.symm)
        clear k2 k3
        go_wp2
        go_loop [18, 16] (fun a b => ∃ q r : Int, a = .int .u64 q ∧ b = .int .u64 r ∧ KI R u0 n1 n0 q r) (fun a _ => (intOf a).toNat)
        case atStart =>
          exact ⟨_, _, congrArg _ (start_q R n1 (by omega) (by omega)), congrArg _ (start_r R n1 (by omega) (by omega)), _, _, rfl, rfl, Bm.kinit hn1 hn1' hn0 hRn hu0⟩
        case round =>
          obtain ⟨q', r', rfl, rfl, hk'⟩ := hrel
          obtain ⟨b1', b2', b3', b4'⟩ := ki_bounds hk'
          by_cases c1' : 4294967296 ≤ q'
          · obtain ⟨k1', k2', k3'⟩ := ki_down hn1 hn0 hRn hu0 hk' (.inl c1')
            by_cases b' : 4294967296 ≤ r' + n1
            · have E' := (k3' b').trans (congrArg _ hQ0.out.symm)
              clear k2' k3'
              go_wp2
              go_ret2
              exact ⟨ret_eq2 rfl rfl, Below.refl _ _⟩
            · have H' := k2' (by omega)
              clear k2' k3'
              go_wp2
              go_round
              case rel => exact ⟨q' - 1, r' + n1, rfl, rfl, H'⟩
              case measure => simp [intOf]; omega
          · have ep' := ki_prod hn0 hk' c1'
            by_cases c2' : 4294967296 * r' + u0 < q' * n0
            · obtain ⟨k1', k2', k3'⟩ := ki_down hn1 hn0 hRn hu0 hk' (.inr c2')
              by_cases b' : 4294967296 ≤ r' + n1
              · have E' := (k3' b').trans (congrArg _ hQ0.out.symm)
                clear k2' k3'
                go_wp2
                go_ret2
                exact ⟨ret_eq2 rfl rfl, Below.refl _ _⟩
              · have H' := k2' (by omega)
                clear k2' k3'
                go_wp2
                go_round
                case rel => exact ⟨q' - 1, r' + n1, rfl, rfl, H'⟩
                case measure => simp [intOf]; omega
            · have E' : Hid (q' = (Q0 : Int)) := (ki_stop hn1 hk' c2').trans (congrArg _ hQ0.out.symm)
              have eR0' : IntKind.u64.wrap (IntKind.u64.wrap (IntKind.u64.wrap ((R : Int) * 4294967296) + (u0 : Int)) - IntKind.u64.wrap (q' * (Y : Int))) = (R0 : Int) := by rw [E'.out]; exact eR0
              go_wp2
              go_ret2
              exact ⟨ret_eq2 (fin_q rfl E'.out) rfl, Below.refl _ _⟩
      · have H := k2 (by omega)
        clear k2 k3
        go_wp2
        go_round
        case rel => exact ⟨q - 1, r + n1, rfl, rfl, H⟩
        case measure => simp [intOf]; omega
    · have ep := ki_prod hn0 hk c1
      by_cases c2 : 4294967296 * r + u1 < q * n0
      · obtain ⟨k1, k2, k3⟩ := ki_down hn1 hn0 hUn hu1 hk (.inr c2)
        by_cases b : 4294967296 ≤ r + n1
        · have e := (k3 b).trans (congrArg _ hQ.out.symm)
          clear k2 k3
          go_wp2
          go_loop [18, 16] (fun a b => ∃ q r : Int, a = .int .u64 q ∧ b = .int .u64 r ∧ KI R u0 n1 n0 q r) (fun a _ => (intOf a).toNat)
          case atStart =>
            exact ⟨_, _, congrArg _ (start_q R n1 (by omega) (by omega)), congrArg _ (start_r R n1 (by omega) (by omega)), _, _, rfl, rfl, Bm.kinit hn1 hn1' hn0 hRn hu0⟩
          case round =>
            obtain ⟨q', r', rfl, rfl, hk'⟩ := hrel
            obtain ⟨b1', b2', b3', b4'⟩ := ki_bounds hk'
            by_cases c1' : 4294967296 ≤ q'
            · obtain ⟨k1', k2', k3'⟩ := ki_down hn1 hn0 hRn hu0 hk' (.inl c1')
              by_cases b' : 4294967296 ≤ r' + n1
              · have E' := (k3' b').trans (congrArg _ hQ0.out.symm)
                clear k2' k3'
                go_wp2
                go_ret2
                exact ⟨ret_eq2 rfl rfl, Below.refl _ _⟩
              · have H' := k2' (by omega)
                clear k2' k3'
                go_wp2
                go_round
                case rel => exact ⟨q' - 1, r' + n1, rfl, rfl, H'⟩
                case measure => simp [intOf]; omega
            · have ep' := ki_prod hn0 hk' c1'
              by_cases c2' : 4294967296 * r' + u0 < q' * n0
              · obtain ⟨k1', k2', k3'⟩ := ki_down hn1 hn0 hRn hu0 hk' (.inr c2')
                by_cases b' : 4294967296 ≤ r' + n1
                · have E' := (k3' b').trans (congrArg _ hQ0.out.symm)
                  clear k2' k3'
                  go_wp2
                  go_ret2
                  exact ⟨ret_eq2 rfl rfl, Below.refl _ _⟩
                · have H' := k2' (by omega)
                  clear k2' k3'
                  go_wp2
                  go_round
                  case rel => exact ⟨q' - 1, r' + n1, rfl, rfl, H'⟩
                  case measure => simp [intOf]; omega
              · have E' : Hid (q' = (Q0 : Int)) := (ki_stop hn1 hk' c2').trans (congrArg _ hQ0.out.symm)
                have eR0' : IntKind.u64.wrap (IntKind.u64.wrap (IntKind.u64.wrap ((R : Int) * 4294967296) + (u0 : Int)) - IntKind.u64.wrap (q' * (Y : Int))) = (R0 : Int) := by rw [E'.out]; exact eR0
                go_wp2
                go_ret2
                exact ⟨ret_eq2 (fin_q rfl E'.out) rfl, Below.refl _ _⟩
        · have H := k2 (by omega)
          clear k2 k3
          go_wp2
          go_round
          case rel => exact ⟨q - 1, r + n1, rfl, rfl, H⟩
          case measure => simp [intOf]; omega
      · have e : Hid (q = (Q : Int)) := (ki_stop hn1 hk c2).trans (congrArg _ hQ.out.symm)
        have eRq : IntKind.u64.wrap (IntKind.u64.wrap (IntKind.u64.wrap ((U : Int) * 4294967296) + (u1 : Int)) - IntKind.u64.wrap (q * (Y : Int))) = (R : Int) := by rw [e.out]; exact eR
        go_wp2
        go_loop [18, 16] (fun a b => ∃ q r : Int, a = .int .u64 q ∧ b = .int .u64 r ∧ KI R u0 n1 n0 q r) (fun a _ => (intOf a).toNat)
        case atStart =>
          exact ⟨_, _, congrArg _ (start_q R n1 (by omega) (by omega)), congrArg _ (start_r R n1 (by omega) (by omega)), _, _, rfl, rfl, Bm.kinit hn1 hn1' hn0 hRn hu0⟩
        case round =>
          obtain ⟨q', r', rfl, rfl, hk'⟩ := hrel
          obtain ⟨b1', b2', b3', b4'⟩ := ki_bounds hk'
          by_cases c1' : 4294967296 ≤ q'
          · obtain ⟨k1', k2', k3'⟩ := ki_down hn1 hn0 hRn hu0 hk' (.inl c1')
            by_cases b' : 4294967296 ≤ r' + n1
            · have E' := (k3' b').trans (congrArg _ hQ0.out.symm)
              clear k2' k3'
              go_wp2
              go_ret2
              exact ⟨ret_eq2 (congrArg (· * 4294967296 + (Q0 : Int)) e.out) rfl, Below.refl _ _⟩
            · have H' := k2' (by omega)
              clear k2' k3'
              go_wp2
              go_round
              case rel => exact ⟨q' - 1, r' + n1, rfl, rfl, H'⟩
              case measure => simp [intOf]; omega
          · have ep' := ki_prod hn0 hk' c1'
            by_cases c2' : 4294967296 * r' + u0 < q' * n0
            · obtain ⟨k1', k2', k3'⟩ := ki_down hn1 hn0 hRn hu0 hk' (.inr c2')
              by_cases b' : 4294967296 ≤ r' + n1
              · have E' := (k3' b').trans (congrArg _ hQ0.out.symm)
                clear k2' k3'
                go_wp2
                go_ret2
                exact ⟨ret_eq2 (congrArg (· * 4294967296 + (Q0 : Int)) e.out) rfl, Below.refl _ _⟩
              · have H' := k2' (by omega)
                clear k2' k3'
                go_wp2
                go_round
                case rel => exact ⟨q' - 1, r' + n1, rfl, rfl, H'⟩
                case measure => simp [intOf]; omega
            · have E' : Hid (q' = (Q0 : Int)) := (ki_stop hn1 hk' c2').trans (congrArg _ hQ0.out.symm)
              have eR0' : IntKind.u64.wrap (IntKind.u64.wrap (IntKind.u64.wrap ((R : Int) * 4294967296) + (u0 : Int)) - IntKind.u64.wrap (q' * (Y : Int))) = (R0 : Int) := by rw [E'.out]; exact eR0
              go_wp2
              go_ret2
              exact ⟨ret_eq2 (fin_q e.out E'.out) rfl, Below.refl _ _⟩
end Go.Proofs.Ytadnchcelocnaaa
