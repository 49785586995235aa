/- contracts: Add, Sub, amount, signed, Mul -/
import Derived.Test.YtipeegjbfieknaaDoorMnM1
namespace Go.Proofs.YtipeegjbfieknaaDoor.Mn
open Go.RowKit Go.Shelf
set_option maxRecDepth 40000
def iv (l : List Int) : List Value := l.map fun x => Value.int .i64 x
theorem iv_get (l : List Int) (i : Nat) (h : i < l.length) : (iv l)[i]? = some (.int .i64 (l.getD i 0)) := by
  simp [iv, List.getElem?_eq_getElem h]
theorem isI_lit (W : World) (l : List Int) (h : ∀ x ∈ l, -9223372036854775808 ≤ x ∧ x ≤ 9223372036854775807) (hm : l.length ≤ maxLen) (m : Nat × Nat) : IsI (W.alloc (.cells (iv l).toArray 2 m)) (some ⟨W.heap.size, 0, none⟩) l.length l.length l := by
  refine ⟨rfl, Nat.le_refl _, hm, h, .inr ⟨_, 0, rfl, by simp, fun i hi => ?_⟩⟩
  have hn := heap_alloc_new W (.cells (iv l).toArray 2 m)
  simp only [World.cell?, hn]
  simpa using iv_get l i hi
theorem ret_u64 {a b : Int} (h : a = b) : Ending.returned (.int .u64 a) = .returned (.int .u64 b) := by rw [h]
/-- money.amount -/
theorem amount_any (n : Int) (h : In64 n) (w : World) :
    Calls Tryd.prog 19 #[.int .i64 n] w fun e w' => e = .returned (.int .u64 (n.natAbs : Nat)) ∧ w' = w := by
  obtain ⟨h1, h2⟩ := h
  by_cases hn : n < 0
  · have e : Hid (IntKind.u64.wrap (-IntKind.u64.wrap n) = ((n.natAbs : Nat) : Int)) := hide (by rw [wrapU, wrapU]; omega)
    go_enter Tryd.func19, Tryd.ntmps19
    go_wp2
    go_ret
    exact ⟨ret_u64 e.out, rfl⟩
  · have e : Hid (n = ((n.natAbs : Nat) : Int)) := hide (by omega)
    go_enter Tryd.func19, Tryd.ntmps19
    go_wp2
    go_ret
    exact ⟨ret_u64 e.out, rfl⟩
theorem not64 (b : Int) (h : In64 b) : bits .xor .i64 (-1) b = -1 - b := by
  obtain ⟨h1, h2⟩ := h
  show IntKind.i64.wrap ((BitVec.ofInt 64 (-1) ^^^ BitVec.ofInt 64 b).toNat : Int) = _
  have e1 : BitVec.ofInt 64 (-1) = BitVec.allOnes 64 := by decide
  rw [e1, BitVec.allOnes_xor, BitVec.toNat_not, IntKind.wrap_i64]
  have e2 : ((BitVec.ofInt 64 b).toNat : Int) = b % 18446744073709551616 := by
    rw [BitVec.toNat_ofInt]; omega
  have e3 := (BitVec.ofInt 64 b).isLt
  generalize (BitVec.ofInt 64 b).toNat = t at *
  omega
theorem signed_below (s : Nat) (h : s ≤ 9223372036854775808) (w : World) :
    Calls Tryd.prog 37 #[.int .u64 s, .bool true] w fun e w' => e = .returned (.tuple #[.int .i64 (-(s : Int)), .int .i64 0]) ∧ w' = w := by
  have t : (s : Int) ≤ 9223372036854775808 := by omega
  have e : Hid (wrap64 (IntKind.u64.wrap (-(s : Int))) = -(s : Int)) := hide (by rw [wrapU]; unfold wrap64; omega)
  go_enter Tryd.func37, Tryd.ntmps37
  go_wp2
  go_ret2
  exact ⟨ret_two e.out rfl, rfl⟩
theorem signed_above (s : Nat) (h : s ≤ 9223372036854775807) (w : World) :
    Calls Tryd.prog 37 #[.int .u64 s, .bool false] w fun e w' => e = .returned (.tuple #[.int .i64 (s : Int), .int .i64 0]) ∧ w' = w := by
  have t : (s : Int) ≤ 9223372036854775807 := by omega
  go_enter Tryd.func37, Tryd.ntmps37
  go_wp2
  go_ret2
  exact ⟨rfl, rfl⟩
theorem signed_over (s : Nat) (b : Bool) (h1 : b = true → 9223372036854775808 < s) (h2 : b = false → 9223372036854775807 < s) (w : World) :
    Calls Tryd.prog 37 #[.int .u64 s, .bool b] w fun e w' => e = .returned (.tuple #[.int .i64 0, .int .i64 5]) ∧ w' = w := by
  cases b
  · have t : ¬ (s : Int) ≤ 9223372036854775807 := by have := h2 rfl; omega
    clear h1 h2
    go_enter Tryd.func37, Tryd.ntmps37
    go_wp2
    go_ret2
    exact ⟨rfl, rfl⟩
  · have t : ¬ (s : Int) ≤ 9223372036854775808 := by have := h1 rfl; omega
    clear h1 h2
    go_enter Tryd.func37, Tryd.ntmps37
    go_wp2
    go_ret2
    exact ⟨rfl, rfl⟩
theorem mul_abs (a b : Int) : ((a.natAbs * b.natAbs : Nat) : Int) = if (decide (a < 0) != decide (b < 0)) = true then -(a * b) else a * b := by
  rw [Int.natCast_mul]
  by_cases ha : a < 0 <;> by_cases hb : b < 0
  · simp [ha, hb]
    rw [show (a.natAbs : Int) = -a by omega, show (b.natAbs : Int) = -b by omega, Int.neg_mul_neg]
  · simp [ha, hb]
    rw [show (a.natAbs : Int) = -a by omega, show (b.natAbs : Int) = b by omega, Int.neg_mul]
  · simp [ha, hb]
    rw [show (a.natAbs : Int) = a by omega, show (b.natAbs : Int) = -b by omega, Int.mul_neg]
  · simp [ha, hb]
    rw [show (a.natAbs : Int) = a by omega, show (b.natAbs : Int) = b by omega]
theorem num_in {n : Int} (h : In64 n) : num n = n := if_pos h
theorem err_in {n : Int} (h : In64 n) : err n = 0 := if_pos h
theorem num_out {n : Int} (h : ¬ In64 n) : num n = 0 := if_neg h
theorem err_out {n : Int} (h : ¬ In64 n) : err n = 5 := if_neg h
end Go.Proofs.YtipeegjbfieknaaDoor.Mn
