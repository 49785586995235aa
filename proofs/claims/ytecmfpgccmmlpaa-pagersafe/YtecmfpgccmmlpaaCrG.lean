/- contracts: times, shifts, Combine -/
import Derived.Test.YtecmfpgccmmlpaaCrF
namespace Go.Proofs.Ytecmfpgccmmlpaa
open Go.RowKit
set_option maxRecDepth 40000
theorem and_two_pow (a i : Nat) : a &&& 2 ^ i = if a.testBit i then 2 ^ i else 0 := by
  apply Nat.eq_of_testBit_eq
  intro j
  rw [Nat.testBit_and, Nat.testBit_two_pow]
  by_cases h : i = j
  · subst h
    cases hb : a.testBit i <;> simp
  · cases hb : a.testBit i <;> simp [h]
theorem bit_test (a k : Nat) (ha : a < 4294967296) (hk : k < 32) : (bits .and .u32 (a : Int) (2147483648 / 2 ^ k) != 0) = a.testBit (31 - k) := by
  have e : (2147483648 : Int) / 2 ^ k = ((2 ^ (31 - k) : Nat) : Int) := by
    have h1 : (2147483648 : Nat) / 2 ^ k = 2 ^ (31 - k) := by
      rw [show 2147483648 = 2 ^ 31 from rfl, Nat.pow_div (by omega) (by decide)]
    rw [← h1]; simp
  have h2 : 2 ^ (31 - k) < 4294967296 := by
    have := Nat.pow_le_pow_right (n := 2) (by decide) (show 31 - k ≤ 31 by omega)
    omega
  rw [e, u32_and_nat a (2 ^ (31 - k)) ha h2, and_two_pow]
  cases a.testBit (31 - k)
  · simp
  · have : (2 ^ (31 - k) : Nat) ≠ 0 := Nat.ne_of_gt (Nat.two_pow_pos _)
    rw [if_pos rfl, bne_iff_ne]
    exact_mod_cast this
theorem and_one_i64 (n : Nat) (h : n < 9223372036854775808) : bits .and .i64 (n : Int) 1 = ((n % 2 : Nat) : Int) := by
  have hx : n &&& 1 < 2 ^ 64 := Nat.and_lt_two_pow _ (by omega)
  show IntKind.i64.wrap ((BitVec.ofInt 64 (n : Int) &&& BitVec.ofInt 64 ((1 : Nat) : Int)).toNat : Int) = _
  rw [BitVec.toNat_and, ofInt_u64 n (by omega), ofInt_u64 1 (by omega), Nat.and_one_is_mod, IntKind.wrap_i64]
  omega
theorem step_mul (d j : Nat) : Crc.pr (Crc.shN (8 * d) Crc.one) (Crc.shN (8 * 2 ^ j) Crc.one) 32 = Crc.shN (8 * (d + 2 ^ j)) Crc.one := by
  rw [Crc.pr_power _ _ (Crc.shN_lt _ _ Crc.one_lt), ← Crc.shN_add, Nat.mul_add]
theorem step_sq (j : Nat) : Crc.pr (Crc.shN (8 * 2 ^ j) Crc.one) (Crc.shN (8 * 2 ^ j) Crc.one) 32 = Crc.shN (8 * 2 ^ (j + 1)) Crc.one := by
  rw [step_mul, show 2 ^ j + 2 ^ j = 2 ^ (j + 1) by rw [Nat.pow_succ]; omega]
end Go.Proofs.Ytecmfpgccmmlpaa
