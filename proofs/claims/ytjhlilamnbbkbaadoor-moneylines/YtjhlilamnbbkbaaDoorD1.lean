/- contracts: math/bits.Div64, any high part -/
import Derived.Test.YtjhlilamnbbkbaaDoorD0
namespace Go.Proofs.YtjhlilamnbbkbaaDoor
open Go.RowKit Go.Shelf
set_option maxHeartbeats 2000000 in
set_option maxRecDepth 20000 in
theorem div64_core (hi lo y s Y yn1 yn0 A C U L u1 u0 : Nat) (w : World) (hs : s < 64) (hh : 0 < hi) (hhy : hi < y)
    (e1 : IntKind.u64.wrap ((y : Int) * 2 ^ s) = (Y : Int)) (e2 : (Y : Int) / 4294967296 = (yn1 : Int)) (e3 : bits .and .u64 (Y : Int) 4294967295 = (yn0 : Int))
    (e4 : IntKind.u64.wrap ((hi : Int) * 2 ^ s) = (A : Int)) (e5 : (lo : Int) / 2 ^ (64 - s) = (C : Int)) (e6 : bits .or .u64 (A : Int) (C : Int) = (U : Int))
    (e7 : IntKind.u64.wrap ((lo : Int) * 2 ^ s) = (L : Int)) (e8 : (L : Int) / 4294967296 = (u1 : Int)) (e9 : bits .and .u64 (L : Int) 4294967295 = (u0 : Int))
    (hY : Hid (Y = yn1 * 4294967296 + yn0)) (hy2 : Hid (2147483648 ≤ yn1)) (hy1 : Hid (yn1 < 4294967296)) (hy0 : Hid (yn0 < 4294967296)) (hU : Hid (U < Y)) (hYb : Hid (Y < 18446744073709551616)) (hu1 : Hid (u1 < 4294967296)) (hu0 : Hid (u0 < 4294967296))
    (LZ : Hid (∀ W, Calls Tryd.prog 51 #[.int .u64 y] W fun e w' => e = .returned (.int .i64 s) ∧ w' = W)) :
    Calls Tryd.prog 46 #[.int .u64 hi, .int .u64 lo, .int .u64 y] w fun e w' => ∃ Q1 R1 Q2 R2 : Nat, e = .returned (.tuple #[.int .u64 (Q1 * 4294967296 + Q2 : Nat), .int .u64 (R2 / 2 ^ s : Nat)]) ∧ (U * 4294967296 + u1 = Q1 * Y + R1 ∧ R1 * 4294967296 + u0 = Q2 * Y + R2 ∧ R2 < Y) ∧ ∃ n, w' = w.drewN n := by
  have h1 : ((y : Int) == 0) = false := by simp; omega
  have h2 : ¬ (y : Int) ≤ (hi : Int) := by omega
  have h3 : ((hi : Int) == 0) = false := by simp; omega
  have h4 : ¬ ((yn1 : Int) = 0) := by have := hy2.out; omega
  have h5 : ((yn1 : Int) == 0) = false := by simpa using h4
  obtain ⟨Q, hQ⟩ : ∃ Q, Hid (Q = (U * 4294967296 + u1) / Y) := ⟨_, hide rfl⟩
  obtain ⟨q, p, r, d1, d2, d3, hqr⟩ := dv_start U u1 Y yn1 yn0 Q hY.out hy2.out hy1.out hy0.out hu1.out hU.out hQ.out
  go_enter Tryd.func46, Tryd.ntmps46
  go_wp2_with fail
  refine (LZ.out _).mono ?_
  rintro e w' ⟨rfl, rfl⟩
  go_wp2_with fail
  go_loop [15, 16] (fun a b => ∃ q r : Nat, a = .int .u64 q ∧ b = .int .u64 r ∧ Hid (U = q * yn1 + r ∧ r < 4294967296 ∧ q ≤ 4294967297 ∧ Q ≤ q)) (fun a _ => (intOf a).toNat)
  case atStart => exact ⟨q, r, rfl, rfl, hqr⟩
  case round =>
    clear d1 d2 d3 hqr e1 e2 e3 e4 e5 e6 e7 e8 e9 h1 h2 h3 hh hhy
    obtain ⟨q, r, rfl, rfl, hqr⟩ := hrel
    obtain ⟨p, m, m', f1, f2, f3, hcase⟩ := dv_round U u1 Y yn1 yn0 q r Q hY.out hy1.out hy0.out hu1.out hU.out hQ.out hqr.out.1 hqr.out.2.1 hqr.out.2.2.1 hqr.out.2.2.2
    clear hqr
    obtain ⟨a1, b1, c1, R1, x1, x2, x3, x4, hR1⟩ := dv_rest U u1 Y Q hu1.out hU.out hYb.out hQ.out
    obtain ⟨Q2, hQ2⟩ : ∃ Q2, Hid (Q2 = (R1 * 4294967296 + u0) / Y) := ⟨_, hide rfl⟩
    obtain ⟨q0, p0, r0, y1, y2, y3, hqr0⟩ := dv_start R1 u0 Y yn1 yn0 Q2 hY.out hy2.out hy1.out hy0.out hu0.out hR1.out.2.1 hQ2.out
    obtain ⟨v1, v2, k1, k2, hv⟩ := dv_join Q Q2 hR1.out.2.2 (by rw [hQ2.out]; exact dv_lt R1 u0 Y hu0.out hR1.out.2.1)
    obtain ⟨a2, b2, c2, R2, z1, z2, z3, z4, hR2⟩ := dv_rest R1 u0 Y Q2 hu0.out hR1.out.2.1 hYb.out hQ2.out
    have HE : Hid ((R2 : Int) / 2 ^ s = ((R2 / 2 ^ s : Nat) : Int)) := hide (by simp)
    have HD : Hid (U * 4294967296 + u1 = Q * Y + R1 ∧ R1 * 4294967296 + u0 = Q2 * Y + R2 ∧ R2 < Y) := hide ⟨hR1.out.1, hR2.out.1, hR2.out.2.1⟩
    rcases hcase with ⟨g1, g2, hq⟩ | ⟨q', r', g1 | ⟨g1, g2⟩, d1, d2, hlt, ⟨g3, hq⟩ | ⟨g3, hqr⟩⟩
    case inr.inl.inr =>
      clear f1 f2 f3 x1 x2 x3 x4 y1 y2 y3
      go_wp2
      go_round
      case rel => exact ⟨q', r', rfl, rfl, hqr⟩
      case measure => simp [intOf]; exact hlt.out
    case inr.inr.inr =>
      clear x1 x2 x3 x4 y1 y2 y3
      go_wp2
      go_round
      case rel => exact ⟨q', r', rfl, rfl, hqr⟩
      case measure => simp [intOf]; exact hlt.out
    all_goals
      obtain rfl := hq.out
      go_wp2_with fail
      clear x1 x2 x4 y1 y2 y3 f1 f2 f3
      go_loop [18, 16] (fun a b => ∃ q r : Nat, a = .int .u64 q ∧ b = .int .u64 r ∧ Hid (R1 = q * yn1 + r ∧ r < 4294967296 ∧ q ≤ 4294967297 ∧ Q2 ≤ q)) (fun a _ => (intOf a).toNat)
      case atStart => exact ⟨q0, r0, rfl, rfl, hqr0⟩
      case round =>
        clear hqr0
        obtain ⟨q, r, rfl, rfl, hqr⟩ := hrel
        obtain ⟨p, m, m', f1, f2, f3, hcase⟩ := dv_round R1 u0 Y yn1 yn0 q r Q2 hY.out hy1.out hy0.out hu0.out hR1.out.2.1 hQ2.out hqr.out.1 hqr.out.2.1 hqr.out.2.2.1 hqr.out.2.2.2
        clear hqr
        rcases hcase with ⟨g1, g2, hq⟩ | ⟨q', r', g1 | ⟨g1, g2⟩, d1, d2, hlt, ⟨g3, hq⟩ | ⟨g3, hqr⟩⟩
        case inr.inl.inr =>
          clear f1 f2 f3
          go_wp2
          go_round
          case rel => exact ⟨q', r', rfl, rfl, hqr⟩
          case measure => simp [intOf]; exact hlt.out
        case inr.inr.inr =>
          go_wp2
          go_round
          case rel => exact ⟨q', r', rfl, rfl, hqr⟩
          case measure => simp [intOf]; exact hlt.out
        all_goals
          obtain rfl := hq.out
          go_wp2_with fail
          go_ret2
          exact ⟨_, R1, _, R2, ret_u2 (by rw [hv.out]; omega) rfl, HD.out, 0, rfl⟩
/-- math/bits.Div64 -/
theorem div64_any (hi lo y : Nat) (hlo : lo < 18446744073709551616) (hy : y < 18446744073709551616) (hhy : hi < y) (w : World) :
    Calls Tryd.prog 46 #[.int .u64 hi, .int .u64 lo, .int .u64 y] w fun e w' => e = .returned (.tuple #[.int .u64 ((hi * 18446744073709551616 + lo) / y : Nat), .int .u64 ((hi * 18446744073709551616 + lo) % y : Nat)]) ∧ ∃ n, w' = w.drewN n := by
  rcases Nat.eq_zero_or_pos hi with rfl | hh
  · have := div64_low lo y hlo hhy w
    rw [show 0 * 18446744073709551616 + lo = lo by omega]
    exact this
  · obtain ⟨s, hs, hse, h1, h2⟩ := dv_shift y (by omega) hy
    obtain ⟨Y, yn1, yn0, A, C, U, L, u1, u0, e1, e2, e3, e4, e5, e6, e7, e8, e9, hall⟩ := dv_parts hi lo y s hlo hs hhy h1 h2
    obtain ⟨k1, k2, k3, k4, k5, k6, k7, k8, k9, k10⟩ := hall.out
    have LZ : Hid (∀ W, Calls Tryd.prog 51 #[.int .u64 y] W fun e w' => e = .returned (.int .i64 s) ∧ w' = W) := hide (fun W => by
      have := Tryd.bits_LeadingZeros64 (y : Int) W (by omega) (by omega)
      rw [hse] at this
      exact this)
    refine (div64_core hi lo y s Y yn1 yn0 A C U L u1 u0 w hs hh hhy e1 e2 e3 e4 e5 e6 e7 e8 e9 (hide k2) (hide k3) (hide k4) (hide k5) (hide k6) (hide k7) (hide k8) (hide k9) LZ).mono ?_
    rintro e w' ⟨Q1, R1, Q2, R2, rfl, ⟨g1, g2, g3⟩, n, rfl⟩
    have g4 := dv_whole (hi * 18446744073709551616 + lo) y s Y U u1 u0 Q1 R1 Q2 R2 (by omega) k1 k10 g1 g2 g3
    rw [g4.1, g4.2]
    exact ⟨rfl, n, rfl⟩
end Go.Proofs.YtjhlilamnbbkbaaDoor
