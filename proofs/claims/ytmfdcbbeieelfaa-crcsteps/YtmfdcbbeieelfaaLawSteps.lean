/- the walk of CrcSteps -/
import Derived.Test.YtmfdcbbeieelfaaG
import Derived.OpenShut
namespace Go.Proofs.Ytmfdcbbeieelfaa
open Go.RowKit
theorem steps_eq (a b c n m : Nat) : Crc.shN (8 * (n + m)) a ^^^ (Crc.shN (8 * m) b ^^^ c) = Crc.shN (8 * m) (Crc.shN (8 * n) a ^^^ b) ^^^ c := by
  rw [Crc.shN_xor, ← Crc.shN_add, ← Nat.xor_assoc, Nat.mul_add, Nat.add_comm (8 * n)]
theorem xor_lt32 {a b : Nat} (ha : a < 4294967296) (hb : b < 4294967296) : a ^^^ b < 4294967296 := Nat.xor_lt_two_pow (n := 32) ha hb
theorem steps_true (a b c n m : Int) (w : World) (h : n < 0 ∨ ¬ n < 0 ∧ m < 0 ∨ ¬ n < 0 ∧ ¬ m < 0 ∧ 1073741824 < n ∨ ¬ n < 0 ∧ ¬ m < 0 ∧ ¬ 1073741824 < n ∧ 1073741824 < m) :
    Calls Try.prog 10 #[.int .u32 a, .int .u32 b, .int .u32 c, .int .i64 n, .int .i64 m] w fun e w' => e = .returned (.bool true) ∧ Below w.heap.size w w' := by
  rcases h with h | ⟨h1, h⟩ | ⟨h1, h2, h⟩ | ⟨h1, h2, h3, h⟩ <;>
  · go_enter Try.func10, Try.ntmps10
    go_wp2_with fail
    refine (lives_any _).mono ?_
    rintro e w1 ⟨rfl, hb1⟩
    go_wp2
    go_ret
    exact ⟨rfl, hb1⟩
theorem steps_good (a b c n m : Nat) (ha : a < 4294967296) (hb : b < 4294967296) (hc : c < 4294967296) (hn : n ≤ 1073741824) (hm : m ≤ 1073741824) (w : World) :
    Calls Try.prog 10 #[.int .u32 a, .int .u32 b, .int .u32 c, .int .i64 n, .int .i64 m] w fun e w' => e = .returned (.bool true) ∧ Below w.heap.size w w' := by
  have h1 : ¬ (n : Int) < 0 := by omega
  have h2 : ¬ (m : Int) < 0 := by omega
  have h3 : ¬ (1073741824 : Int) < n := by omega
  have h4 : ¬ (1073741824 : Int) < m := by omega
  have hx : Crc.shN (8 * n) a ^^^ b < 4294967296 := xor_lt32 (Crc.shN_lt _ _ ha) hb
  have hy : Crc.shN (8 * m) b ^^^ c < 4294967296 := xor_lt32 (Crc.shN_lt _ _ hb) hc
  have E := hide (steps_eq a b c n m)
  have c1 := fun W => combine_ok a b n ha hb (by omega) W
  have c2 := fun W => combine_ok (Crc.shN (8 * n) a ^^^ b) c m hx hc (by omega) W
  have c3 := fun W => combine_ok b c m hb hc (by omega) W
  have c4 := fun W => combine_ok a (Crc.shN (8 * m) b ^^^ c) (n + m) ha hy (by omega) W
  have C1 := hide c1
  have C2 := hide c2
  have C3 := hide c3
  have C4 := hide c4
  clear c1 c2 c3 c4
  go_enter Try.func10, Try.ntmps10
  go_wp2_with fail
  refine (lives_any _).mono ?_
  rintro e w1 ⟨rfl, hb1⟩
  go_wp2_with fail
  refine (C1.out _).mono ?_
  rintro e w' ⟨rfl, rfl⟩
  go_wp2_with fail
  refine (C2.out _).mono ?_
  rintro e w' ⟨rfl, rfl⟩
  go_wp2_with fail
  refine (C3.out _).mono ?_
  rintro e w' ⟨rfl, rfl⟩
  go_wp2_with fail
  rw [show (n : Int) + (m : Int) = ((n + m : Nat) : Int) from by simp]
  refine (C4.out _).mono ?_
  rintro e w' ⟨rfl, rfl⟩
  rw [E.out]
  go_wp2
  go_ret
  exact ⟨rfl, hb1⟩
theorem crcSteps.lawWalk (a b c n m : Int) (w : World) (wa : (Lit.int .u32 a).wf = true) (wb : (Lit.int .u32 b).wf = true) (wc : (Lit.int .u32 c).wf = true) (wn : (Lit.int .i64 n).wf = true) (wm : (Lit.int .i64 m).wf = true) :
    Calls Try.prog 10 #[.int .u32 a, .int .u32 b, .int .u32 c, .int .i64 n, .int .i64 m] w fun e w' => e = .returned (.bool true) ∧ Below w.heap.size w w' := by
  have ba := bounds_u32 wa
  have bb := bounds_u32 wb
  have bc := bounds_u32 wc
  by_cases h : 0 ≤ n ∧ 0 ≤ m ∧ n ≤ 1073741824 ∧ m ≤ 1073741824
  · obtain ⟨a, rfl⟩ := Int.eq_ofNat_of_zero_le ba.1
    obtain ⟨b, rfl⟩ := Int.eq_ofNat_of_zero_le bb.1
    obtain ⟨c, rfl⟩ := Int.eq_ofNat_of_zero_le bc.1
    obtain ⟨n, rfl⟩ := Int.eq_ofNat_of_zero_le h.1
    obtain ⟨m, rfl⟩ := Int.eq_ofNat_of_zero_le h.2.1
    exact steps_good a b c n m (by omega) (by omega) (by omega) (by omega) (by omega) w
  · exact steps_true a b c n m w (by omega)
end Go.Proofs.Ytmfdcbbeieelfaa
