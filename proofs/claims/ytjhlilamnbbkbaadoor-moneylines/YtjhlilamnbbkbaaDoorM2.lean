/- contracts: Add, Sub, amount, signed, Mul -/
import Derived.Test.YtjhlilamnbbkbaaDoorM1
namespace Go.Proofs.YtjhlilamnbbkbaaDoor
open Go.RowKit Go.Shelf
def iv (l : List Int) : List Value := l.map fun x => Value.int .i64 x
theorem iv_get (l : List Int) (i : Nat) (h : i < l.length) : (iv l)[i]? = some (.int .i64 (l.getD i 0)) := by
  simp [iv, List.getElem?_eq_getElem h]
theorem isI_lit (W : World) (l : List Int) (h : ∀ x ∈ l, -9223372036854775808 ≤ x ∧ x ≤ 9223372036854775807) (hm : l.length ≤ maxLen) (m : Nat × Nat) : IsI (W.alloc (.cells (iv l).toArray 2 m)) (some ⟨W.heap.size, 0, none⟩) l.length l.length l := by
  refine ⟨rfl, Nat.le_refl _, hm, h, .inr ⟨_, 0, rfl, by simp, fun i hi => ?_⟩⟩
  have hn := heap_alloc_new W (.cells (iv l).toArray 2 m)
  simp only [World.cell?, hn]
  simpa using iv_get l i hi
theorem add_any (a b : Int) (w : World) (ha : In64 a) (hb : In64 b) :
    Calls Tryd.prog 12 #[.int .i64 a, .int .i64 b] w fun e w' => e = .returned (.tuple #[.int .i64 (num (a + b)), .int .i64 (err (a + b))]) ∧ Below w.heap.size w w' := by
  go_enter Tryd.func12, Tryd.ntmps12
  go_wp2_with fail
  refine (sumUp_any _ 2 2 [a, b] _ (isI_lit w [a, b] (by intro x hx; simp at hx; rcases hx with rfl | rfl <;> assumption) (by unfold maxLen; simp) (0, 0)) (by decide)).mono ?_
  rintro e w' ⟨rfl, rfl⟩
  rw [show [a, b].sum = a + b by simp]
  go_wp2
  go_ret2
  exact ⟨rfl, (Below.refl _ _).alloc (Nat.le_refl _) _⟩
theorem ret_u64 {a b : Int} (h : a = b) : Ending.returned (.int .u64 a) = .returned (.int .u64 b) := by rw [h]
/-- money.amount -/
theorem amount_any (n : Int) (h : In64 n) (w : World) :
    Calls Tryd.prog 32 #[.int .i64 n] w fun e w' => e = .returned (.int .u64 (n.natAbs : Nat)) ∧ w' = w := by
  obtain ⟨h1, h2⟩ := h
  by_cases hn : n < 0
  · have e : Hid (IntKind.u64.wrap (-IntKind.u64.wrap n) = ((n.natAbs : Nat) : Int)) := hide (by rw [wrapU, wrapU]; omega)
    go_enter Tryd.func32, Tryd.ntmps32
    go_wp2
    go_ret
    exact ⟨ret_u64 e.out, rfl⟩
  · have e : Hid (n = ((n.natAbs : Nat) : Int)) := hide (by omega)
    go_enter Tryd.func32, Tryd.ntmps32
    go_wp2
    go_ret
    exact ⟨ret_u64 e.out, rfl⟩
theorem not64 (b : Int) (h : In64 b) : bits .xor .i64 (-1) b = -1 - b := by
  obtain ⟨h1, h2⟩ := h
  show IntKind.i64.wrap ((BitVec.ofInt 64 (-1) ^^^ BitVec.ofInt 64 b).toNat : Int) = _
  have e1 : BitVec.ofInt 64 (-1) = BitVec.allOnes 64 := by decide
  rw [e1, BitVec.allOnes_xor, BitVec.toNat_not, IntKind.wrap_i64]
  have e2 : ((BitVec.ofInt 64 b).toNat : Int) = b % 18446744073709551616 := by
    rw [BitVec.toNat_ofInt]; omega
  have e3 := (BitVec.ofInt 64 b).isLt
  generalize (BitVec.ofInt 64 b).toNat = t at *
  omega
/-- money.Sub -/
theorem sub_any (a b : Int) (w : World) (ha : In64 a) (hb : In64 b) :
    Calls Tryd.prog 14 #[.int .i64 a, .int .i64 b] w fun e w' => e = .returned (.tuple #[.int .i64 (num (a - b)), .int .i64 (err (a - b))]) ∧ Below w.heap.size w w' := by
  have hx := not64 b hb
  have hsg : IntKind.i64.signed = true := rfl
  have hb2 : In64 (-1 - b) := by unfold In64 at *; omega
  generalize hz : (-1 - b) = z at *
  have HZ := hide hz
  clear hz
  go_enter Tryd.func14, Tryd.ntmps14
  go_wp2_with fail
  refine (sumUp_any _ 3 3 [a, z, 1] _ (isI_lit w [a, z, 1] (by intro x hx; simp at hx; rcases hx with rfl | rfl | rfl <;> first | exact ha | exact hb2 | decide) (by unfold maxLen; simp) (0, 0)) (by decide)).mono ?_
  rintro e w' ⟨rfl, rfl⟩
  rw [show [a, z, 1].sum = a - b by have := HZ.out; simp; omega]
  go_wp2
  go_ret2
  exact ⟨rfl, (Below.refl _ _).alloc (Nat.le_refl _) _⟩
theorem signed_below (s : Nat) (h : s ≤ 9223372036854775808) (w : World) :
    Calls Tryd.prog 33 #[.int .u64 s, .bool true] w fun e w' => e = .returned (.tuple #[.int .i64 (-(s : Int)), .int .i64 0]) ∧ w' = w := by
  have t : (s : Int) ≤ 9223372036854775808 := by omega
  have e : Hid (wrap64 (IntKind.u64.wrap (-(s : Int))) = -(s : Int)) := hide (by rw [wrapU]; unfold wrap64; omega)
  go_enter Tryd.func33, Tryd.ntmps33
  go_wp2
  go_ret2
  exact ⟨ret_two e.out rfl, rfl⟩
theorem signed_above (s : Nat) (h : s ≤ 9223372036854775807) (w : World) :
    Calls Tryd.prog 33 #[.int .u64 s, .bool false] w fun e w' => e = .returned (.tuple #[.int .i64 (s : Int), .int .i64 0]) ∧ w' = w := by
  have t : (s : Int) ≤ 9223372036854775807 := by omega
  go_enter Tryd.func33, Tryd.ntmps33
  go_wp2
  go_ret2
  exact ⟨rfl, rfl⟩
theorem signed_over (s : Nat) (b : Bool) (h1 : b = true → 9223372036854775808 < s) (h2 : b = false → 9223372036854775807 < s) (w : World) :
    Calls Tryd.prog 33 #[.int .u64 s, .bool b] w fun e w' => e = .returned (.tuple #[.int .i64 0, .int .i64 5]) ∧ w' = w := by
  cases b
  · have t : ¬ (s : Int) ≤ 9223372036854775807 := by have := h2 rfl; omega
    clear h1 h2
    go_enter Tryd.func33, Tryd.ntmps33
    go_wp2
    go_ret2
    exact ⟨rfl, rfl⟩
  · have t : ¬ (s : Int) ≤ 9223372036854775808 := by have := h1 rfl; omega
    clear h1 h2
    go_enter Tryd.func33, Tryd.ntmps33
    go_wp2
    go_ret2
    exact ⟨rfl, rfl⟩
theorem mul_abs (a b : Int) : ((a.natAbs * b.natAbs : Nat) : Int) = if (decide (a < 0) != decide (b < 0)) = true then -(a * b) else a * b := by
  rw [Int.natCast_mul]
  by_cases ha : a < 0 <;> by_cases hb : b < 0
  · simp [ha, hb]
    rw [show (a.natAbs : Int) = -a by omega, show (b.natAbs : Int) = -b by omega, Int.neg_mul_neg]
  · simp [ha, hb]
    rw [show (a.natAbs : Int) = -a by omega, show (b.natAbs : Int) = b by omega, Int.neg_mul]
  · simp [ha, hb]
    rw [show (a.natAbs : Int) = a by omega, show (b.natAbs : Int) = -b by omega, Int.mul_neg]
  · simp [ha, hb]
    rw [show (a.natAbs : Int) = a by omega, show (b.natAbs : Int) = b by omega]
theorem num_in {n : Int} (h : In64 n) : num n = n := if_pos h
theorem err_in {n : Int} (h : In64 n) : err n = 0 := if_pos h
theorem num_out {n : Int} (h : ¬ In64 n) : num n = 0 := if_neg h
theorem err_out {n : Int} (h : ¬ In64 n) : err n = 5 := if_neg h
set_option maxHeartbeats 400000 in
/-- money.Mul -/
theorem mul_any (a b : Int) (w : World) (ha : In64 a) (hb : In64 b) :
    Calls Tryd.prog 16 #[.int .i64 a, .int .i64 b] w fun e w' => e = .returned (.tuple #[.int .i64 (num (a * b)), .int .i64 (err (a * b))]) ∧ w' = w := by
  have hx : a.natAbs < 18446744073709551616 := by unfold In64 at ha; omega
  have hy : b.natAbs < 18446744073709551616 := by unfold In64 at hb; omega
  have hm := mul_abs a b
  have A1 := hide (fun W => amount_any a ha W)
  have A2 := hide (fun W => amount_any b hb W)
  have M := hide (fun W => Tryd.bits_Mul64 a.natAbs b.natAbs hx hy W)
  generalize hp : a * b = p at *
  generalize hq : a.natAbs * b.natAbs = q at *
  clear hp hq ha hb hx hy
  generalize a.natAbs = x at *
  generalize b.natAbs = y at *
  by_cases hhi : q / 18446744073709551616 = 0
  · rw [hhi] at M
    have hlo : q % 18446744073709551616 = q := by omega
    rw [hlo] at M
    have t : (((0 : Nat) : Int) != 0) = false := rfl
    have fin : ∀ (bl : Bool), (decide (a < 0) != decide (b < 0)) = bl → Calls Tryd.prog 33 #[.int .u64 q, .bool bl] w fun e w' => e = .returned (.tuple #[.int .i64 (num p), .int .i64 (err p)]) ∧ w' = w := by
      intro bl hbl
      rw [hbl] at hm
      cases bl
      · simp at hm
        by_cases hs : q ≤ 9223372036854775807
        · have hin : In64 p := by unfold In64; omega
          rw [num_in hin, err_in hin, ← hm]
          exact signed_above q hs w
        · have hin : ¬ In64 p := by unfold In64; omega
          rw [num_out hin, err_out hin]
          exact signed_over q false (by simp) (by omega) w
      · simp at hm
        by_cases hs : q ≤ 9223372036854775808
        · have hin : In64 p := by unfold In64; omega
          rw [num_in hin, err_in hin, show p = -(q : Int) by omega]
          exact signed_below q hs w
        · have hin : ¬ In64 p := by unfold In64; omega
          rw [num_out hin, err_out hin]
          exact signed_over q true (by omega) (by simp) w
    have F := hide (fin (!(decide (a < 0) == decide (b < 0))) rfl)
    clear fin hm hlo hhi
    go_enter Tryd.func16, Tryd.ntmps16
    go_wp2_with fail
    refine (A1.out _).mono ?_
    rintro e w' ⟨rfl, rfl⟩
    go_wp2_with fail
    refine (A2.out _).mono ?_
    rintro e w' ⟨rfl, rfl⟩
    go_wp2_with fail
    refine (M.out _).mono ?_
    rintro e w' ⟨rfl, rfl⟩
    go_wp2_with fail
    refine (F.out).mono ?_
    rintro e w' ⟨rfl, rfl⟩
    go_wp2
    go_ret2
    exact ⟨rfl, rfl⟩
  · have hin : ¬ In64 p := by
      unfold In64
      split at hm <;> omega
    have HN := hide (num_out hin)
    have HE := hide (err_out hin)
    have t : (((q / 18446744073709551616 : Nat) : Int) != 0) = true := by rw [bne_iff_ne]; omega
    clear hm hin hhi
    generalize q / 18446744073709551616 = h at *
    generalize q % 18446744073709551616 = lo at *
    go_enter Tryd.func16, Tryd.ntmps16
    go_wp2_with fail
    refine (A1.out _).mono ?_
    rintro e w' ⟨rfl, rfl⟩
    go_wp2_with fail
    refine (A2.out _).mono ?_
    rintro e w' ⟨rfl, rfl⟩
    go_wp2_with fail
    refine (M.out _).mono ?_
    rintro e w' ⟨rfl, rfl⟩
    go_wp2
    go_ret2
    exact ⟨ret_two (by rw [HN.out]) (by rw [HE.out]), rfl⟩
end Go.Proofs.YtjhlilamnbbkbaaDoor
