/- arithmetic of a division of two words by one -/
import Derived.Test.YtjhlilamnbbkbaaDoorM3
import Derived.Laws.BitsLemmas
import Derived.Lib.ItoaNum
namespace Go.Proofs.YtjhlilamnbbkbaaDoor
open Go.RowKit Go.Shelf
theorem dv_eq (U Y yn1 yn0 q r : Nat) (hY : Y = yn1 * 4294967296 + yn0) (hq : U = q * yn1 + r) : q * Y + r * 4294967296 = U * 4294967296 + q * yn0 := by
  subst hY hq
  rw [Nat.mul_add, ← Nat.mul_assoc]
  generalize q * yn1 = a
  generalize q * yn0 = b
  omega
theorem dv_lt (U u1 Y : Nat) (hu : u1 < 4294967296) (hU : U < Y) : (U * 4294967296 + u1) / Y < 4294967296 := by
  rw [Nat.div_lt_iff_lt_mul (by omega)]
  omega
/-- what the two roads of a round come to -/
theorem dv_round (U u1 Y yn1 yn0 q r Q : Nat) (hY : Y = yn1 * 4294967296 + yn0) (h1 : yn1 < 4294967296) (h0 : yn0 < 4294967296) (hu : u1 < 4294967296) (hU : U < Y) (hQ : Q = (U * 4294967296 + u1) / Y)
    (hq : U = q * yn1 + r) (hr : r < 4294967296) (hqB : q ≤ 4294967297) (hQq : Q ≤ q) :
    ∃ p m m' : Nat, IntKind.u64.wrap ((q : Int) * (yn0 : Int)) = (p : Int) ∧ IntKind.u64.wrap (4294967296 * (r : Int)) = (m : Int) ∧ IntKind.u64.wrap ((m : Int) + (u1 : Int)) = (m' : Int) ∧
     ((¬ (4294967296 ≤ (q : Int)) ∧ ¬ ((m' : Int) < (p : Int)) ∧ Hid (q = Q)) ∨
      ∃ q' r' : Nat, ((4294967296 ≤ (q : Int)) ∨ (¬ (4294967296 ≤ (q : Int)) ∧ (m' : Int) < (p : Int))) ∧ IntKind.u64.wrap ((q : Int) - 1) = (q' : Int) ∧ IntKind.u64.wrap ((r : Int) + (yn1 : Int)) = (r' : Int) ∧ Hid (q' < q) ∧
        ((4294967296 ≤ (r' : Int) ∧ Hid (q' = Q)) ∨ (¬ (4294967296 ≤ (r' : Int)) ∧ Hid (U = q' * yn1 + r' ∧ r' < 4294967296 ∧ q' ≤ 4294967297 ∧ Q ≤ q')))) := by
  have E := dv_eq U Y yn1 yn0 q r hY hq
  have hQB : Q < 4294967296 := by rw [hQ]; exact dv_lt U u1 Y hu hU
  have hle : ∀ k : Nat, k ≤ Q ↔ k * Y ≤ U * 4294967296 + u1 := fun k => by rw [hQ, Nat.le_div_iff_mul_le (by omega)]
  have hp : q * yn0 ≤ 4294967297 * 4294967295 := Nat.mul_le_mul hqB (by omega)
  refine ⟨q * yn0, 4294967296 * r, 4294967296 * r + u1, ?_, ?_, ?_, ?_⟩
  · rw [wrapU, show (q : Int) * (yn0 : Int) = ((q * yn0 : Nat) : Int) by simp]
    generalize q * yn0 = a at *
    omega
  · rw [wrapU]; omega
  · rw [wrapU]; omega
  · by_cases ht : 4294967296 ≤ q ∨ 4294967296 * r + u1 < q * yn0
    · right
      have hlt : Q < q := by
        rcases ht with ht | ht
        · omega
        · refine Nat.lt_of_not_le fun h => ?_
          rw [hle] at h
          generalize q * Y = z at *
          generalize q * yn0 = a at *
          omega
      refine ⟨q - 1, r + yn1, ?_, by rw [wrapU]; omega, by rw [wrapU]; omega, hide (by omega), ?_⟩
      · by_cases hb : 4294967296 ≤ q
        · left; omega
        · right
          have := ht.resolve_left hb
          generalize q * yn0 = a at *
          omega
      · have hq2 : U = (q - 1) * yn1 + (r + yn1) := by
          rw [hq]
          have : q = (q - 1) + 1 := by omega
          generalize q - 1 = k at *
          subst this
          rw [Nat.add_mul]; omega
        by_cases hb : 4294967296 ≤ r + yn1
        · left
          refine ⟨by omega, hide ?_⟩
          have E2 := dv_eq U Y yn1 yn0 (q - 1) (r + yn1) hY hq2
          have hp2 : (q - 1) * yn0 ≤ 4294967296 * 4294967295 := Nat.mul_le_mul (by omega) (by omega)
          have h3 : q - 1 ≤ Q := by
            rw [hle]
            generalize (q - 1) * Y = z at *
            generalize (q - 1) * yn0 = a at *
            omega
          omega
        · right
          exact ⟨by omega, hide ⟨hq2, by omega, by omega, by omega⟩⟩
    · left
      rw [not_or] at ht
      refine ⟨by omega, by generalize q * yn0 = a at *; omega, hide ?_⟩
      have : q ≤ Q := by
        rw [hle]
        generalize q * Y = z at *
        generalize q * yn0 = a at *
        omega
      omega
/-- how the guess begins -/
theorem dv_start (U u1 Y yn1 yn0 Q : Nat) (hY : Y = yn1 * 4294967296 + yn0) (h2 : 2147483648 ≤ yn1) (h1 : yn1 < 4294967296) (h0 : yn0 < 4294967296) (hu : u1 < 4294967296) (hU : U < Y) (hQ : Q = (U * 4294967296 + u1) / Y) :
    ∃ q p r : Nat, IntKind.u64.wrap ((U : Int) / (yn1 : Int)) = (q : Int) ∧ IntKind.u64.wrap ((q : Int) * (yn1 : Int)) = (p : Int) ∧ IntKind.u64.wrap ((U : Int) - (p : Int)) = (r : Int) ∧ Hid (U = q * yn1 + r ∧ r < 4294967296 ∧ q ≤ 4294967297 ∧ Q ≤ q) := by
  have hd : U = U / yn1 * yn1 + U % yn1 := by rw [Nat.mul_comm]; exact (Nat.div_add_mod U yn1).symm
  have hm : U % yn1 < yn1 := Nat.mod_lt _ (by omega)
  have hQY : Q * Y ≤ U * 4294967296 + u1 := by rw [hQ]; exact Nat.div_mul_le_self _ _
  have hQU : Q ≤ U / yn1 := by
    rw [Nat.le_div_iff_mul_le (by omega)]
    rw [hY, Nat.mul_add, ← Nat.mul_assoc] at hQY
    generalize Q * yn1 = a at *
    generalize Q * yn0 = b at *
    omega
  have hqB : U / yn1 ≤ 4294967297 := by
    refine Nat.le_of_lt_succ ?_
    rw [Nat.div_lt_iff_lt_mul (by omega)]
    omega
  have hdl : U / yn1 ≤ U := Nat.div_le_self _ _
  refine ⟨U / yn1, U / yn1 * yn1, U % yn1, ?_, ?_, ?_, hide ⟨hd, by omega, hqB, hQU⟩⟩
  · rw [wrapU, show (U : Int) / (yn1 : Int) = ((U / yn1 : Nat) : Int) from rfl]
    generalize U / yn1 = a at *
    omega
  · rw [wrapU, show ((U / yn1 : Nat) : Int) * (yn1 : Int) = ((U / yn1 * yn1 : Nat) : Int) by simp]
    generalize U / yn1 * yn1 = a at *
    omega
  · rw [wrapU]
    generalize U / yn1 * yn1 = a at *
    omega
/-- what is left behind a step -/
theorem dv_rest (U u1 Y Q : Nat) (hu : u1 < 4294967296) (hU : U < Y) (hY : Y < 18446744073709551616) (hQ : Q = (U * 4294967296 + u1) / Y) :
    ∃ a b c R : Nat, IntKind.u64.wrap ((U : Int) * 4294967296) = (a : Int) ∧ IntKind.u64.wrap ((a : Int) + (u1 : Int)) = (b : Int) ∧ IntKind.u64.wrap ((Q : Int) * (Y : Int)) = (c : Int) ∧ IntKind.u64.wrap ((b : Int) - (c : Int)) = (R : Int) ∧ Hid (U * 4294967296 + u1 = Q * Y + R ∧ R < Y ∧ Q < 4294967296) := by
  have hd : U * 4294967296 + u1 = Q * Y + (U * 4294967296 + u1) % Y := by rw [hQ, Nat.mul_comm _ Y]; exact (Nat.div_add_mod _ Y).symm
  have hm : (U * 4294967296 + u1) % Y < Y := Nat.mod_lt _ (by omega)
  have hQB : Q < 4294967296 := by rw [hQ]; exact dv_lt U u1 Y hu hU
  refine ⟨U * 4294967296 % 18446744073709551616, (U * 4294967296 + u1) % 18446744073709551616, Q * Y % 18446744073709551616, (U * 4294967296 + u1) % Y, ?_, ?_, ?_, ?_, hide ⟨hd, hm, hQB⟩⟩
  · rw [wrapU]; omega
  · rw [wrapU]; omega
  · rw [wrapU, show (Q : Int) * (Y : Int) = ((Q * Y : Nat) : Int) by simp]; omega
  · rw [wrapU]
    generalize Q * Y = z at *
    generalize (U * 4294967296 + u1) % Y = R at *
    omega
theorem dv_join (Q Q2 : Nat) (h : Q < 4294967296) (h2 : Q2 < 4294967296) : ∃ v1 v2 : Nat, IntKind.u64.wrap ((Q : Int) * 4294967296) = (v1 : Int) ∧ IntKind.u64.wrap ((v1 : Int) + (Q2 : Int)) = (v2 : Int) ∧ Hid (v2 = Q * 4294967296 + Q2) := by
  refine ⟨Q * 4294967296, Q * 4294967296 + Q2, ?_, ?_, hide rfl⟩
  · rw [wrapU]; omega
  · rw [wrapU]; omega
/-- the parts that a word comes to, shifted up -/
theorem dv_parts (hi lo y s : Nat) (hlo : lo < 18446744073709551616) (hs : s < 64) (hhy : hi < y) (hy1 : 9223372036854775808 ≤ y * 2 ^ s) (hy2 : y * 2 ^ s < 18446744073709551616) :
    ∃ Y yn1 yn0 A C U L u1 u0 : Nat, IntKind.u64.wrap ((y : Int) * 2 ^ s) = (Y : Int) ∧ (Y : Int) / 4294967296 = (yn1 : Int) ∧ bits .and .u64 (Y : Int) 4294967295 = (yn0 : Int) ∧
      IntKind.u64.wrap ((hi : Int) * 2 ^ s) = (A : Int) ∧ (lo : Int) / 2 ^ (64 - s) = (C : Int) ∧ bits .or .u64 (A : Int) (C : Int) = (U : Int) ∧
      IntKind.u64.wrap ((lo : Int) * 2 ^ s) = (L : Int) ∧ (L : Int) / 4294967296 = (u1 : Int) ∧ bits .and .u64 (L : Int) 4294967295 = (u0 : Int) ∧
      Hid (Y = y * 2 ^ s ∧ Y = yn1 * 4294967296 + yn0 ∧ 2147483648 ≤ yn1 ∧ yn1 < 4294967296 ∧ yn0 < 4294967296 ∧ U < Y ∧ Y < 18446744073709551616 ∧ u1 < 4294967296 ∧ u0 < 4294967296 ∧ (hi * 18446744073709551616 + lo) * 2 ^ s = U * 18446744073709551616 + u1 * 4294967296 + u0) := by
  have W : ∀ n : Int, 0 ≤ n → n < 2 ^ 64 → IntKind.u64.wrap n = n := fun n h0 h1 => by rw [wrapU]; omega
  have M : ∀ n : Nat, n < 18446744073709551616 → bits .and .u64 (n : Int) 4294967295 = ((n % 4294967296 : Nat) : Int) := fun n hn => by
    have := bits_mask .u64 64 (by decide) W 32 (by decide) (n : Int) (by omega) (by omega)
    simpa using this
  have hpp : (2 : Nat) ^ (64 - s) * 2 ^ s = 18446744073709551616 := by rw [← Nat.pow_add, Nat.sub_add_cancel (by omega)]
  have h2 : 0 < 2 ^ s := Nat.pow_pos (by decide)
  have hA : (hi + 1) * 2 ^ s ≤ y * 2 ^ s := Nat.mul_le_mul_right _ (by omega)
  rw [Nat.add_mul, Nat.one_mul] at hA
  have hC : lo / 2 ^ (64 - s) < 2 ^ s := by
    rw [Nat.div_lt_iff_lt_mul (Nat.pow_pos (by decide)), Nat.mul_comm, hpp]; exact hlo
  have hLd : lo * 2 ^ s / 18446744073709551616 = lo / 2 ^ (64 - s) := by
    rw [← hpp, Nat.mul_div_mul_right _ _ h2]
  refine ⟨y * 2 ^ s, y * 2 ^ s / 4294967296, y * 2 ^ s % 4294967296, hi * 2 ^ s, lo / 2 ^ (64 - s), hi * 2 ^ s + lo / 2 ^ (64 - s), lo * 2 ^ s % 18446744073709551616, lo * 2 ^ s % 18446744073709551616 / 4294967296, lo * 2 ^ s % 18446744073709551616 % 4294967296, ?_, by omega, M _ hy2, ?_, ?_, ?_, ?_, by omega, M _ (by omega), ?_⟩
  · rw [wrapU, show (y : Int) * 2 ^ s = ((y * 2 ^ s : Nat) : Int) by simp]
    generalize y * 2 ^ s = a at *
    omega
  · rw [wrapU, show (hi : Int) * 2 ^ s = ((hi * 2 ^ s : Nat) : Int) by simp]
    generalize hi * 2 ^ s = a at *
    omega
  · simp
  · have hj := bits_join .u64 64 (by decide) W s ((hi * 2 ^ s : Nat) : Int) ((lo / 2 ^ (64 - s) : Nat) : Int) (by omega) (by
      rw [show (2 : Int) ^ s = ((2 ^ s : Nat) : Int) by simp, ← Int.natCast_emod, Nat.mul_mod_left]; rfl) (by omega) (by omega) (by
      rw [show (2 : Int) ^ s = ((2 ^ s : Nat) : Int) by simp]; omega) (by omega)
    rw [hj]; omega
  · rw [wrapU, show (lo : Int) * 2 ^ s = ((lo * 2 ^ s : Nat) : Int) by simp]
    omega
  · refine hide ⟨rfl, by omega, by omega, by omega, by omega, by omega, hy2, by omega, by omega, ?_⟩
    have e : (hi * 18446744073709551616 + lo) * 2 ^ s = hi * 2 ^ s * 18446744073709551616 + lo * 2 ^ s := by
      rw [Nat.add_mul, Nat.mul_right_comm]
    rw [e, ← hLd]
    generalize hi * 2 ^ s = a at *
    generalize lo * 2 ^ s = b at *
    omega
/-- the whole -/
theorem dv_whole (N y s Y U u1 u0 Q1 R1 Q2 R2 : Nat) (hY0 : 0 < Y) (hY : Y = y * 2 ^ s) (hN : N * 2 ^ s = U * 18446744073709551616 + u1 * 4294967296 + u0) (e1 : U * 4294967296 + u1 = Q1 * Y + R1) (e2 : R1 * 4294967296 + u0 = Q2 * Y + R2) (hR : R2 < Y) :
    N / y = Q1 * 4294967296 + Q2 ∧ N % y = R2 / 2 ^ s := by
  have h2 : 0 < 2 ^ s := Nat.pow_pos (by decide)
  have e3 : N * 2 ^ s = Y * (Q1 * 4294967296 + Q2) + R2 := by
    clear hY h2
    rw [Nat.mul_add, ← Nat.mul_assoc, Nat.mul_comm Y Q1, Nat.mul_comm Y Q2]
    generalize Q1 * Y = a at *
    generalize Q2 * Y = b at *
    generalize N * 2 ^ s = c at *
    have k1 : (U * 4294967296 + u1) * 4294967296 = (a + R1) * 4294967296 := by rw [e1]
    clear e1 hR
    rw [Nat.add_mul, Nat.mul_assoc, Nat.add_mul] at k1
    rw [hN, Nat.add_assoc (a * 4294967296) b R2, ← e2]
    rw [show (4294967296 : Nat) * 4294967296 = 18446744073709551616 from rfl] at k1
    rw [k1, Nat.add_assoc]
  have d1 : N * 2 ^ s / Y = Q1 * 4294967296 + Q2 := by
    rw [e3, Nat.mul_add_div hY0, Nat.div_eq_of_lt hR, Nat.add_zero]
  have d2 : N * 2 ^ s % Y = R2 := by
    rw [e3, Nat.mul_add_mod, Nat.mod_eq_of_lt hR]
  rw [hY, Nat.mul_div_mul_right _ _ h2] at d1
  rw [hY, Nat.mul_mod_mul_right] at d2
  refine ⟨d1, ?_⟩
  rw [← d2, Nat.mul_div_cancel _ h2]
/-- how far a word is shifted up -/
theorem dv_shift (y : Nat) (h0 : 0 < y) (hy : y < 18446744073709551616) : ∃ s : Nat, s < 64 ∧ (64 - (Lib.bitLen ((y : Int).toNat) : Int)) = (s : Int) ∧ 9223372036854775808 ≤ y * 2 ^ s ∧ y * 2 ^ s < 18446744073709551616 := by
  have hb := Lib.bitLenAux_bounds 64 y (by simpa using hy) (by omega)
  have he : Lib.bitLen ((y : Int).toNat) = Lib.bitLenAux 64 y := by unfold Lib.bitLen; rw [Int.toNat_natCast]
  rw [he]
  generalize Lib.bitLenAux 64 y = n at *
  have hl : n ≤ 64 := by
    refine Nat.le_of_not_lt fun h => ?_
    have h3 : (2 : Nat) ^ 64 ≤ 2 ^ (n - 1) := Nat.pow_le_pow_right (by decide) (by omega)
    have h4 := Nat.le_trans h3 hb.2.1
    rw [show (2 : Nat) ^ 64 = 18446744073709551616 from by decide] at h4
    exact absurd hy (Nat.not_lt.2 h4)
  refine ⟨64 - n, by omega, by omega, ?_, ?_⟩
  · have h1 : 2 ^ (n - 1) * 2 ^ (64 - n) ≤ y * 2 ^ (64 - n) := Nat.mul_le_mul_right _ hb.2.1
    rw [← Nat.pow_add, show n - 1 + (64 - n) = 63 by omega, show (2 : Nat) ^ 63 = 9223372036854775808 from by decide] at h1
    exact h1
  · have h1 : y * 2 ^ (64 - n) < 2 ^ n * 2 ^ (64 - n) := Nat.mul_lt_mul_of_pos_right hb.2.2 (Nat.pow_pos (by decide))
    rw [← Nat.pow_add, show n + (64 - n) = 64 by omega, show (2 : Nat) ^ 64 = 18446744073709551616 from by decide] at h1
    exact h1
end Go.Proofs.YtjhlilamnbbkbaaDoor
