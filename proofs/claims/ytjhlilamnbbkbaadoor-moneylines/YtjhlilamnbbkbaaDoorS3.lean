/- contracts: the document's part -/
import Derived.Test.YtjhlilamnbbkbaaDoorS2
namespace Go.Proofs.YtjhlilamnbbkbaaDoor
open Go.RowKit Go.Shelf Go.Sort Go.Lib
theorem rp_half (t j : Nat) : t / 2 ^ j = 2 * (t / 2 ^ (j + 1)) + t / 2 ^ j % 2 := by
  have : t / 2 ^ (j + 1) = t / 2 ^ j / 2 := by rw [Nat.pow_succ, Nat.div_div_eq_div_mul]
  rw [this]; omega
/-- the guess stays below what is read of the total -/
theorem rp_le (Q R A Y x : Nat) (hA : 0 < A) (hx : x ≤ A) (h : Q * A + R = Y * x) : Q ≤ Y := by
  have h1 : Y * x ≤ Y * A := Nat.mul_le_mul_left _ hx
  have h2 : Q * A ≤ Y * A := by omega
  exact Nat.le_of_mul_le_mul_right h2 hA
theorem rp_end (Q R A X : Nat) (hA : 0 < A) (h : Q * A + R = X) (hR : R < A) : Q = X / A := by
  rw [← h, Nat.mul_comm Q A, Nat.mul_add_div hA, Nat.div_eq_of_lt hR, Nat.add_zero]
theorem rp_s11 (Q R A x y y1 : Nat) (hX : Q * A + R = y1 * x) (hh : y = 2 * y1 + y % 2) (hb : y % 2 = 1) (hge : A ≤ 2 * R) : (2 * Q + 1) * A + (2 * R - A + x) = y * x := by
  rw [hh, hb, Nat.add_mul, Nat.add_mul, Nat.mul_assoc, Nat.mul_assoc, ← hX]
  omega
theorem rp_s10 (Q R A x y y1 : Nat) (hX : Q * A + R = y1 * x) (hh : y = 2 * y1 + y % 2) (hb : y % 2 = 1) : (2 * Q) * A + (2 * R + x) = y * x := by
  rw [hh, hb, Nat.add_mul, Nat.mul_assoc, Nat.mul_assoc, ← hX]
  omega
theorem rp_s0 (Q R A x y y1 : Nat) (hX : Q * A + R = y1 * x) (hh : y = 2 * y1 + y % 2) (hb : ¬ y % 2 = 1) : (2 * Q) * A + (2 * R) = y * x := by
  have hb0 : y % 2 = 0 := by omega
  rw [hh, hb0, Nat.add_zero, Nat.mul_assoc, Nat.mul_assoc, ← hX]
  omega
theorem u64_eq {a b : Int} (h : a = b) : Value.int .u64 a = Value.int .u64 b := by rw [h]
set_option maxHeartbeats 1000000 in
set_option maxRecDepth 20000 in
/-- ladingref01.part -/
theorem refPart_any (t x A : Nat) (ht : t < 9223372036854775808) (hx : x ≤ A) (hA : 0 < A) (hA2 : A < 9223372036854775808) (w : World) :
    Calls Tryd.prog 38 #[.int .i64 t, .int .i64 x, .int .i64 A] w fun e w' => e = .returned (.int .i64 (t * x / A : Nat)) ∧ w' = w := by
  go_enter Tryd.func38, Tryd.ntmps38
  go_wp2_with fail
  go_loop [7, 8, 9] (fun a b i => ∃ m Q R : Nat, m ≤ 63 ∧ i = .int .i64 ((m : Int) - 1) ∧ a = .int .u64 Q ∧ b = .int .u64 R ∧ Hid (Q * A + R = t / 2 ^ m * x ∧ R < A)) (fun _ _ i => (RowKit.intOf i + 1).toNat)
  case atStart => exact ⟨63, 0, 0, by omega, rfl, rfl, rfl, hide ⟨by rw [Nat.div_eq_of_lt (by simpa using ht)]; simp, hA⟩⟩
  case round =>
    obtain ⟨m, Q, R, hm, rfl, rfl, rfl, hQR⟩ := hrel
    cases m with
    | zero =>
      have HE : Hid (Q = t * x / A) := hide (by
        have := hQR.out.1
        rw [Nat.pow_zero, Nat.div_one] at this
        exact rp_end Q R A _ hA this hQR.out.2)
      have hb : Q < 9223372036854775808 := by
        have := hQR.out.1
        rw [Nat.pow_zero, Nat.div_one] at this
        exact Nat.lt_of_le_of_lt (rp_le Q R A t x hA hx this) ht
      go_wp2
      go_ret
      exact ⟨by rw [HE.out]; rfl, rfl⟩
    | succ j =>
      have hQ := rp_le Q R A _ x hA hx hQR.out.1
      have hh := rp_half t j
      have htj : t / 2 ^ j ≤ t := Nat.div_le_self _ _
      have e1 : (t : Int) / 2 ^ j = ((t / 2 ^ j : Nat) : Int) := by simp
      have hX := hQR.out.1
      have hR := hQR.out.2
      clear hQR
      generalize t / 2 ^ (j + 1) = y1 at *
      generalize hyd : t / 2 ^ j = y at *
      replace hyd := hide hyd
      have w1 : IntKind.u64.wrap (2 * (Q : Int)) = ((2 * Q : Nat) : Int) := by rw [wrapU]; omega
      have w2 : IntKind.u64.wrap (2 * (R : Int)) = ((2 * R : Nat) : Int) := by rw [wrapU]; omega
      have hy : y < 9223372036854775808 := by omega
      have hQy : 2 * Q + 1 ≤ 9223372036854775808 := by omega
      replace hh := hide hh
      replace hX := hide hX
      replace hQ := hide hQ
      have ei : ((j + 1 : Nat) : Int) - 1 = (j : Int) := by omega
      rw [ei]
      have key : ∃ q0 r0 : Nat, Hid (q0 * A + r0 = y * x ∧ r0 < 18446744073709551616) ∧
          ((((y : Int) % 2 == 1) = true ∧ A ≤ 2 * R ∧ Hid (q0 = 2 * Q + 1 ∧ r0 = 2 * R - A + x)) ∨ (((y : Int) % 2 == 1) = true ∧ ¬ A ≤ 2 * R ∧ Hid (q0 = 2 * Q ∧ r0 = 2 * R + x)) ∨ (((y : Int) % 2 == 1) = false ∧ Hid (q0 = 2 * Q ∧ r0 = 2 * R))) := by
        by_cases hbit : y % 2 = 1
        · have tb : ((y : Int) % 2 == 1) = true := by simp; omega
          by_cases hge : A ≤ 2 * R
          · exact ⟨_, _, hide ⟨rp_s11 Q R A x y y1 hX.out hh.out hbit hge, by omega⟩, .inl ⟨tb, hge, hide ⟨rfl, rfl⟩⟩⟩
          · exact ⟨_, _, hide ⟨rp_s10 Q R A x y y1 hX.out hh.out hbit, by omega⟩, .inr (.inl ⟨tb, hge, hide ⟨rfl, rfl⟩⟩)⟩
        · have tb : ((y : Int) % 2 == 1) = false := by simp; omega
          exact ⟨_, _, hide ⟨rp_s0 Q R A x y y1 hX.out hh.out hbit, by omega⟩, .inr (.inr ⟨tb, hide ⟨rfl, rfl⟩⟩)⟩
      obtain ⟨q0, r0, h0, key⟩ := key
      rcases key with ⟨tb, hge, hv⟩ | ⟨tb, hge, hv⟩ | ⟨tb, hv⟩
      all_goals
        go_wp2_with fail
        clear w1 w2
        go_loop [7, 8] (fun a b => ∃ q r : Nat, a = .int .u64 q ∧ b = .int .u64 r ∧ Hid (q * A + r = y * x ∧ r < 18446744073709551616)) (fun _ b => (RowKit.intOf b).toNat)
        case atStart => exact ⟨q0, r0, u64_eq (by have := hv.out.1; omega), u64_eq (by have := hv.out.2; omega), h0⟩
        case round =>
          obtain ⟨q, r, rfl, rfl, hqr⟩ := hrel
          have hrb := hqr.out.2
          by_cases hge2 : A ≤ r
          · have hn : (q + 1) * A + (r - A) = y * x := by
              rw [← hqr.out.1, Nat.add_mul, Nat.one_mul]; omega
            have hq1 := rp_le (q + 1) (r - A) A y x hA hx hn
            replace hn := hide hn
            clear hqr hv h0 tb
            go_wp2
            go_round
            case rel => exact ⟨q + 1, r - A, u64_eq (by omega), u64_eq (by omega), hide ⟨hn.out, by omega⟩⟩
            case measure => simp [RowKit.intOf]; omega
          · clear hv h0 tb
            go_wp2
            go_round
            case rel => exact ⟨j, q, r, by omega, rfl, rfl, rfl, hide ⟨by rw [hyd.out]; exact hqr.out.1, by omega⟩⟩
            case measure => simp [RowKit.intOf]
end Go.Proofs.YtjhlilamnbbkbaaDoor
