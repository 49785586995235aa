/- a row of bytes that the call itself made, and is written to; bytes as one number -/
import Derived.Test.YtmfdcbbeieelfaaI
namespace Go.Proofs.Ytmfdcbbeieelfaa
open Go.RowKit
def Row (w : World) (g len cap : Nat) (m : List Nat) : Prop :=
  m.length = len ∧ len ≤ cap ∧ cap ≤ maxLen ∧ ∃ cur : Array Value, w.heap[g]? = some (.cells cur 5 (0, 0)) ∧ cur.size = cap ∧ cur.toList.take len = bv m
theorem Row.of_owns {w : World} {base : Nat} {v : Value} {n : Nat} {m : List Nat} (h : w.ownsRow base 5 1 v n (bv m)) (hn : 0 < n) : ∃ g cap, v = .slice (some ⟨g, 0, none⟩) n cap ∧ base ≤ g ∧ Row w g n cap m := by
  obtain ⟨h1, h2⟩ := h
  rw [bv_length, Nat.mul_one] at h1
  rcases h2 with ⟨_, rfl⟩ | ⟨g, cap, cur, rfl, hb, hg, hn', hc, hs, ht⟩
  · omega
  · exact ⟨g, cap, rfl, hb, h1, hn', hc, cur, hg, by omega, by simpa using ht⟩
theorem Row.lt {w : World} {g len cap : Nat} {m : List Nat} (h : Row w g len cap m) : g < w.heap.size := by
  obtain ⟨_, _, _, cur, hg, _⟩ := h
  by_cases h : g < w.heap.size
  · exact h
  · rw [Array.getElem?_eq_none (by omega)] at hg; cases hg
theorem Row.cell {w : World} {g len cap : Nat} {m : List Nat} (h : Row w g len cap m) {j : Nat} (hj : j < len) : w.cell? ⟨g, j, none⟩ = some (.int .u8 (m.getD j 0 : Nat)) := by
  obtain ⟨h1, h2, h3, cur, hg, hs, ht⟩ := h
  have hv := bv_get m j (by omega)
  rw [← ht, List.getElem?_take, if_pos (by omega)] at hv
  simp only [World.cell?, hg]
  simpa using hv
theorem Row.frozen {w : World} {g len cap : Nat} {m : List Nat} (h : Row w g len cap m) (j : Nat) : w.frozen? ⟨g, j, none⟩ = false := by
  obtain ⟨h1, h2, h3, cur, hg, hs, ht⟩ := h
  simp [World.frozen?, hg]
theorem Row.set {w : World} {g len cap : Nat} {m : List Nat} (h : Row w g len cap m) (j : Nat) (x : Nat) : Row (w.setCell ⟨g, j, none⟩ (.int .u8 (x : Nat))) g len cap (m.set j x) := by
  obtain ⟨h1, h2, h3, cur, hg, hs, ht⟩ := h
  refine ⟨by simpa using h1, h2, h3, cur.setIfInBounds j (.int .u8 (x : Nat)), ?_, by simpa using hs, ?_⟩
  · simp [World.setCell, Array.getElem?_modify, hg]
  · simp only [Array.toList_setIfInBounds, List.take_set, ht]
    simp [bv, List.map_set]
theorem Row.below {B : Nat} {w w1 : World} {g len cap : Nat} {m : List Nat} (h : Row w g len cap m) (hb : Below B w w1) (hg : g < B) : Row w1 g len cap m := by
  obtain ⟨h1, h2, h3, cur, hg', hs, ht⟩ := h
  exact ⟨h1, h2, h3, cur, by rw [hb.block g hg]; exact hg', hs, ht⟩
theorem Row.isB {w : World} {g len cap : Nat} {m : List Nat} (h : Row w g len cap m) (hx : ∀ x ∈ m, x < 256) : IsB w (some ⟨g, 0, none⟩) len cap m :=
  ⟨h.1, h.2.1, h.2.2.1, hx, .inr ⟨g, 0, rfl, h.lt, fun i hi => by rw [Nat.zero_add]; exact h.cell hi⟩⟩
theorem mul_xor (k a b : Nat) : 2 ^ k * (a ^^^ b) = 2 ^ k * a ^^^ 2 ^ k * b := by
  apply Nat.eq_of_testBit_eq
  intro i
  rw [Nat.testBit_xor, Nat.testBit_two_pow_mul, Nat.testBit_two_pow_mul, Nat.testBit_two_pow_mul, Nat.testBit_xor]
  cases decide (i ≥ k) <;> simp
theorem val_set (l : List Nat) (j y : Nat) (h : j < l.length) : Crc.val (l.set j (l.getD j 0 ^^^ y)) = Crc.val l ^^^ 2 ^ (8 * j) * y := by
  induction l generalizing j with
  | nil => simp at h
  | cons x r ih =>
    cases j with
    | zero =>
      simp only [List.set_cons_zero, List.getD_cons_zero, Crc.val]
      simp only [Nat.mul_zero, Nat.pow_zero, Nat.one_mul]
      rw [Nat.xor_assoc, Nat.xor_comm y, ← Nat.xor_assoc]
    | succ j =>
      simp only [List.set_cons_succ, List.getD_cons_succ, Crc.val]
      rw [ih j (by simpa using h), show 256 = 2 ^ 8 from rfl, mul_xor, ← Nat.xor_assoc, ← Nat.mul_assoc, ← Nat.pow_add, show 8 + 8 * j = 8 * (j + 1) by omega]
theorem mem_set {l : List Nat} {j y : Nat} (h : ∀ x ∈ l, x < 256) (hy : y < 256) : ∀ x ∈ l.set j y, x < 256 := by
  intro x hx
  rcases List.mem_or_eq_of_mem_set hx with h1 | rfl
  · exact h x h1
  · exact hy
/-- what differs by a run of bits has another checksum -/
theorem update_ne (s : Nat) (l m : List Nat) (at' M : Nat) (hl : m.length = l.length) (hat : at' ≤ 8 * l.length) (hM : M ≠ 0) (hM2 : M < 4294967296) (hv : Crc.val m = Crc.val l ^^^ 2 ^ at' * M) : Crc.update s m ≠ Crc.update s l := by
  intro h
  unfold Crc.update at h
  have h1 : Crc.upd (4294967295 ^^^ s) m = Crc.upd (4294967295 ^^^ s) l := by
    have : 4294967295 ^^^ (4294967295 ^^^ Crc.upd (4294967295 ^^^ s) m) = 4294967295 ^^^ (4294967295 ^^^ Crc.upd (4294967295 ^^^ s) l) := by rw [h]
    rwa [← Nat.xor_assoc, ← Nat.xor_assoc, Nat.xor_self, Nat.zero_xor, Nat.zero_xor] at this
  rw [Crc.upd_val, Crc.upd_val, hv, hl, ← Nat.xor_assoc, Crc.shN_xor] at h1
  have h2 : Crc.shN (8 * l.length) (2 ^ at' * M) = 0 := by
    generalize Crc.shN (8 * l.length) (4294967295 ^^^ s ^^^ Crc.val l) = A at h1
    generalize Crc.shN (8 * l.length) (2 ^ at' * M) = B at h1
    have : A ^^^ (A ^^^ B) = A ^^^ A := by rw [h1]
    rwa [← Nat.xor_assoc, Nat.xor_self, Nat.zero_xor] at this
  rw [show 8 * l.length = (8 * l.length - at') + at' by omega, Crc.shN_add, Crc.shN_pow] at h2
  exact Crc.shN_ne _ _ hM2 hM h2
end Go.Proofs.Ytmfdcbbeieelfaa
