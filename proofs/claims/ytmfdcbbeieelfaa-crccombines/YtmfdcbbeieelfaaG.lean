/- contracts: times, shifts, Combine -/
import Derived.Test.YtmfdcbbeieelfaaF
namespace Go.Proofs.Ytmfdcbbeieelfaa
open Go.RowKit
theorem and_two_pow (a i : Nat) : a &&& 2 ^ i = if a.testBit i then 2 ^ i else 0 := by
  apply Nat.eq_of_testBit_eq
  intro j
  rw [Nat.testBit_and, Nat.testBit_two_pow]
  by_cases h : i = j
  · subst h
    cases hb : a.testBit i <;> simp
  · cases hb : a.testBit i <;> simp [h]
theorem bit_test (a k : Nat) (ha : a < 4294967296) (hk : k < 32) : (bits .and .u32 (a : Int) (2147483648 / 2 ^ k) != 0) = a.testBit (31 - k) := by
  have e : (2147483648 : Int) / 2 ^ k = ((2 ^ (31 - k) : Nat) : Int) := by
    have h1 : (2147483648 : Nat) / 2 ^ k = 2 ^ (31 - k) := by
      rw [show 2147483648 = 2 ^ 31 from rfl, Nat.pow_div (by omega) (by decide)]
    rw [← h1]; simp
  have h2 : 2 ^ (31 - k) < 4294967296 := by
    have := Nat.pow_le_pow_right (n := 2) (by decide) (show 31 - k ≤ 31 by omega)
    omega
  rw [e, u32_and_nat a (2 ^ (31 - k)) ha h2, and_two_pow]
  cases a.testBit (31 - k)
  · simp
  · have : (2 ^ (31 - k) : Nat) ≠ 0 := Nat.ne_of_gt (Nat.two_pow_pos _)
    rw [if_pos rfl, bne_iff_ne]
    exact_mod_cast this
theorem times_any (a b : Nat) (ha : a < 4294967296) (hb : b < 4294967296) (w : World) :
    Calls Try.prog 25 #[.int .u32 a, .int .u32 b] w fun e w' => e = .returned (.int .u32 (Crc.pr a b 32 : Nat)) ∧ w' = w := by
  go_enter Try.func25, Try.ntmps25
  go_wp2
  go_loop [1, 5, 6, 7] (fun x p _ i => ∃ k : Nat, k ≤ 32 ∧ i = .int .i64 k ∧ x = .int .u32 (Crc.shN k b : Nat) ∧ p = .int .u32 (Crc.pr a b k : Nat)) (fun _ _ _ i => 32 - (intOf i).toNat)
  case atStart => exact ⟨0, by omega, rfl, rfl, rfl⟩
  case round =>
    obtain ⟨k, hk, rfl, rfl, rfl⟩ := hrel
    by_cases hlt : k < 32
    · have hd := Crc.shN_lt k b hb
      have hp := Crc.pr_lt a b k hb
      have hsn : Hid (Crc.shN (k + 1) b = Crc.sh (Crc.shN k b)) := hide (Crc.shN_succ k b)
      have hpn : Hid (Crc.pr a b (k + 1) = Crc.pr a b k ^^^ (if a.testBit (31 - k) then Crc.shN k b else 0)) := hide rfl
      have ht := bit_test a k ha hlt
      generalize Crc.shN k b = x at *
      generalize Crc.pr a b k = p at *
      cases hbit : a.testBit (31 - k)
      · rw [hbit] at ht
        have hpn' : Hid (Crc.pr a b (k + 1) = p) := hide (by rw [hpn.out, hbit]; simp)
        clear hpn hbit
        go_wp2_with (go_at_call 29; refine (shift_any _ hd _).mono ?_; rintro e w' ⟨rfl, rfl⟩)
        go_round
        case rel => exact ⟨k + 1, by omega, by go_num, by rw [hsn.out], by rw [hpn'.out]⟩
        case measure => simp [intOf]; omega
      · rw [hbit] at ht
        have hx := u32_xor_nat p x hp hd
        have hpn' : Hid (Crc.pr a b (k + 1) = p ^^^ x) := hide (by rw [hpn.out, hbit]; simp)
        clear hpn hbit
        go_wp2_with (go_at_call 29; refine (shift_any _ hd _).mono ?_; rintro e w' ⟨rfl, rfl⟩)
        go_round
        case rel => exact ⟨k + 1, by omega, by go_num, by rw [hsn.out], by rw [hpn'.out]⟩
        case measure => simp [intOf]; omega
    · obtain rfl : k = 32 := by omega
      go_wp2
      go_ret
      exact ⟨rfl, rfl⟩
theorem and_one_i64 (n : Nat) (h : n < 9223372036854775808) : bits .and .i64 (n : Int) 1 = ((n % 2 : Nat) : Int) := by
  have hx : n &&& 1 < 2 ^ 64 := Nat.and_lt_two_pow _ (by omega)
  show IntKind.i64.wrap ((BitVec.ofInt 64 (n : Int) &&& BitVec.ofInt 64 ((1 : Nat) : Int)).toNat : Int) = _
  rw [BitVec.toNat_and, ofInt_u64 n (by omega), ofInt_u64 1 (by omega), Nat.and_one_is_mod, IntKind.wrap_i64]
  omega
theorem step_mul (d j : Nat) : Crc.pr (Crc.shN (8 * d) Crc.one) (Crc.shN (8 * 2 ^ j) Crc.one) 32 = Crc.shN (8 * (d + 2 ^ j)) Crc.one := by
  rw [Crc.pr_power _ _ (Crc.shN_lt _ _ Crc.one_lt), ← Crc.shN_add, Nat.mul_add]
theorem step_sq (j : Nat) : Crc.pr (Crc.shN (8 * 2 ^ j) Crc.one) (Crc.shN (8 * 2 ^ j) Crc.one) 32 = Crc.shN (8 * 2 ^ (j + 1)) Crc.one := by
  rw [step_mul, show 2 ^ j + 2 ^ j = 2 ^ (j + 1) by rw [Nat.pow_succ]; omega]
theorem shifts_any (n : Nat) (hn : n < 9223372036854775808) (w : World) :
    Calls Try.prog 26 #[.int .i64 n] w fun e w' => e = .returned (.int .u32 (Crc.shN (8 * n) Crc.one : Nat)) ∧ w' = w := by
  go_enter Try.func26, Try.ntmps26
  go_wp2
  go_loop [0, 3, 4] (fun m f p => ∃ q d j : Nat, m = .int .i64 q ∧ d + q * 2 ^ j = n ∧ q ≤ n ∧ f = .int .u32 (Crc.shN (8 * d) Crc.one : Nat) ∧ p = .int .u32 (Crc.shN (8 * 2 ^ j) Crc.one : Nat)) (fun m _ _ => (intOf m).toNat)
  case atStart => exact ⟨n, 0, 0, rfl, by omega, by omega, rfl, rfl⟩
  case round =>
    obtain ⟨q, d, j, rfl, hq, hqn, rfl, rfl⟩ := hrel
    have hf := Crc.shN_lt (8 * d) _ Crc.one_lt
    have hp := Crc.shN_lt (8 * 2 ^ j) _ Crc.one_lt
    have h1 := Hid (d + q * 2 ^ j = n)
    by_cases h0 : q = 0
    · subst h0
      obtain rfl : d = n := by omega
      clear hq h1
      go_wp2
      go_ret
      exact ⟨rfl, rfl⟩
    · have hq0 : (0 : Int) < (q : Int) := by omega
      have e1 : Hid (Crc.pr (Crc.shN (8 * d) Crc.one) (Crc.shN (8 * 2 ^ j) Crc.one) 32 = Crc.shN (8 * (d + 2 ^ j)) Crc.one) := hide (step_mul d j)
      have e2 : Hid (Crc.pr (Crc.shN (8 * 2 ^ j) Crc.one) (Crc.shN (8 * 2 ^ j) Crc.one) 32 = Crc.shN (8 * 2 ^ (j + 1)) Crc.one) := hide (step_sq j)
      have hdiv : Hid (q = 2 * (q / 2) + q % 2) := hide (by omega)
      have HQ := hide hq
      have hpow : Hid (2 ^ (j + 1) = 2 * 2 ^ j) := hide (by rw [Nat.pow_succ]; omega)
      clear hq h1
      have ha := and_one_i64 q (by omega)
      by_cases hodd : q % 2 = 1
      · have hb : (bits .and .i64 (q : Int) 1 == 1) = true := by rw [ha, hodd]; rfl
        clear ha
        generalize Crc.shN (8 * d) Crc.one = f at *
        generalize Crc.shN (8 * 2 ^ j) Crc.one = p at *
        go_wp2_with fail
        refine (times_any f p hf hp _).mono ?_
        rintro e w' ⟨rfl, rfl⟩
        go_wp2_with fail
        refine (times_any p p hp hp _).mono ?_
        rintro e w' ⟨rfl, rfl⟩
        go_wp2
        go_round
        case rel => exact ⟨q / 2, d + 2 ^ j, j + 1, by go_num, by have := HQ.out; rw [hdiv.out, hodd] at this; rw [hpow.out]; rw [← this]; rw [Nat.add_mul, Nat.mul_assoc, Nat.mul_left_comm]; omega, by omega, by rw [e1.out], by rw [e2.out]⟩
        case measure => simp [intOf]; omega
      · have h00 : q % 2 = 0 := by omega
        have hb : (bits .and .i64 (q : Int) 1 == 1) = false := by rw [ha, h00]; rfl
        clear ha
        generalize Crc.shN (8 * 2 ^ j) Crc.one = p at *
        go_wp2_with fail
        refine (times_any p p hp hp _).mono ?_
        rintro e w' ⟨rfl, rfl⟩
        go_wp2
        go_round
        case rel => exact ⟨q / 2, d, j + 1, by go_num, by have := HQ.out; rw [hdiv.out, h00] at this; rw [hpow.out]; rw [← this]; rw [Nat.add_zero, Nat.mul_assoc, Nat.mul_left_comm], by omega, rfl, by rw [e2.out]⟩
        case measure => simp [intOf]; omega
theorem combine_ok (a b n : Nat) (ha : a < 4294967296) (hb : b < 4294967296) (hn : n ≤ 2147483648) (w : World) :
    Calls Try.prog 17 #[.int .u32 a, .int .u32 b, .int .i64 n] w fun e w' => e = .returned (.tuple #[.int .u32 (Crc.shN (8 * n) a ^^^ b : Nat), .int .i64 0]) ∧ w' = w := by
  have h1 : ¬ (n : Int) < 0 := by omega
  have h2 : ¬ (2147483648 : Int) < (n : Int) := by omega
  have hs := Crc.shN_lt (8 * n) Crc.one Crc.one_lt
  have hp : Hid (Crc.pr a (Crc.shN (8 * n) Crc.one) 32 = Crc.shN (8 * n) a) := hide (by rw [Crc.pr_shN, Crc.pr_one a ha])
  have hx : bits .xor .u32 ((Crc.shN (8 * n) a : Nat) : Int) (b : Int) = ((Crc.shN (8 * n) a ^^^ b : Nat) : Int) := u32_xor_nat _ _ (Crc.shN_lt _ _ ha) hb
  go_enter Try.func17, Try.ntmps17
  go_wp2_with fail
  refine (shifts_any n (by omega) _).mono ?_
  rintro e w' ⟨rfl, rfl⟩
  go_wp2_with fail
  refine (times_any a _ ha hs _).mono ?_
  rintro e w' ⟨rfl, rfl⟩
  rw [hp.out]
  go_wp2
  go_ret2
  exact ⟨rfl, rfl⟩
theorem combine_no (a b n : Int) (hn : n < 0 ∨ 2147483648 < n) (w : World) :
    Calls Try.prog 17 #[.int .u32 a, .int .u32 b, .int .i64 n] w fun e w' => e = .returned (.tuple #[.int .u32 0, .int .i64 2]) ∧ w' = w := by
  rcases hn with h | h
  · go_enter Try.func17, Try.ntmps17
    go_wp2
    go_ret2
    exact ⟨rfl, rfl⟩
  · have h0 : ¬ n < 0 := by omega
    go_enter Try.func17, Try.ntmps17
    go_wp2
    go_ret2
    exact ⟨rfl, rfl⟩
end Go.Proofs.Ytmfdcbbeieelfaa
