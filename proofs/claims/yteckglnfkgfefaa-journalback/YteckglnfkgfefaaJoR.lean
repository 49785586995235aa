/- sectors that differ by one byte are not both a batch's (pure) -/
import Derived.Test.YteckglnfkgfefaaJoO
namespace Go.Proofs.Yteckglnfkgfefaa
open Go.RowKit Cod
set_option maxRecDepth 40000
theorem mul_xor (k a b : Nat) : 2 ^ k * (a ^^^ b) = 2 ^ k * a ^^^ 2 ^ k * b := by
  apply Nat.eq_of_testBit_eq
  intro i
  rw [Nat.testBit_xor, Nat.testBit_two_pow_mul, Nat.testBit_two_pow_mul, Nat.testBit_two_pow_mul, Nat.testBit_xor]
  cases decide (i ≥ k) <;> simp
theorem val_set (l : List Nat) (j y : Nat) (h : j < l.length) : Crc.val (l.set j (l.getD j 0 ^^^ y)) = Crc.val l ^^^ 2 ^ (8 * j) * y := by
  induction l generalizing j with
  | nil => simp at h
  | cons x r ih =>
    cases j with
    | zero =>
      simp only [List.set_cons_zero, List.getD_cons_zero, Crc.val]
      simp only [Nat.mul_zero, Nat.pow_zero, Nat.one_mul]
      rw [Nat.xor_assoc, Nat.xor_comm y, ← Nat.xor_assoc]
    | succ j =>
      simp only [List.set_cons_succ, List.getD_cons_succ, Crc.val]
      rw [ih j (by simpa using h), show 256 = 2 ^ 8 from rfl, mul_xor, ← Nat.xor_assoc, ← Nat.mul_assoc, ← Nat.pow_add, show 8 + 8 * j = 8 * (j + 1) by omega]
/-- what differs by a run of bits has another checksum -/
theorem update_ne (s : Nat) (l m : List Nat) (at' M : Nat) (hl : m.length = l.length) (hat : at' ≤ 8 * l.length) (hM : M ≠ 0) (hM2 : M < 4294967296) (hv : Crc.val m = Crc.val l ^^^ 2 ^ at' * M) : Crc.update s m ≠ Crc.update s l := by
  intro h
  unfold Crc.update at h
  have h1 : Crc.upd (4294967295 ^^^ s) m = Crc.upd (4294967295 ^^^ s) l := by
    have : 4294967295 ^^^ (4294967295 ^^^ Crc.upd (4294967295 ^^^ s) m) = 4294967295 ^^^ (4294967295 ^^^ Crc.upd (4294967295 ^^^ s) l) := by rw [h]
    rwa [← Nat.xor_assoc, ← Nat.xor_assoc, Nat.xor_self, Nat.zero_xor, Nat.zero_xor] at this
  rw [Crc.upd_val, Crc.upd_val, hv, hl, ← Nat.xor_assoc, Crc.shN_xor] at h1
  have h2 : Crc.shN (8 * l.length) (2 ^ at' * M) = 0 := by
    generalize Crc.shN (8 * l.length) (4294967295 ^^^ s ^^^ Crc.val l) = A at h1
    generalize Crc.shN (8 * l.length) (2 ^ at' * M) = B at h1
    have : A ^^^ (A ^^^ B) = A ^^^ A := by rw [h1]
    rwa [← Nat.xor_assoc, Nat.xor_self, Nat.zero_xor] at this
  rw [show 8 * l.length = (8 * l.length - at') + at' by omega, Crc.shN_add, Crc.shN_pow] at h2
  exact Crc.shN_ne _ _ hM2 hM h2
theorem update_set {l : List Nat} {j o : Nat} (hj : j < l.length) (hl : ∀ x ∈ l, x < 256) (ho : o < 256) (hne : l.getD j 0 ≠ o) : Crc.update 0 (l.set j o) ≠ Crc.update 0 l := by
  have hv := val_set l j (l.getD j 0 ^^^ o) hj
  rw [← Nat.xor_assoc, Nat.xor_self, Nat.zero_xor] at hv
  have hx : l.getD j 0 < 256 := getD_lt l j hl
  refine update_ne 0 l (l.set j o) (8 * j) (l.getD j 0 ^^^ o) (by simp) (by omega) ?_ ?_ hv
  · intro h0
    refine hne ?_
    have : l.getD j 0 ^^^ (l.getD j 0 ^^^ o) = l.getD j 0 ^^^ 0 := by rw [h0]
    rw [← Nat.xor_assoc, Nat.xor_self, Nat.zero_xor, Nat.xor_zero] at this
    exact this.symm
  · exact Nat.lt_trans (Nat.xor_lt_two_pow (n := 8) hx ho) (by decide)
theorem leB_inj4 {a b : Nat} (ha : a < 4294967296) (hb : b < 4294967296) (h : leB a 4 = leB b 4) : a = b := by
  have := congrArg lowN h
  rw [lowN_leB, lowN_leB, Nat.mod_eq_of_lt (by omega), Nat.mod_eq_of_lt (by omega)] at this
  exact this
theorem recL_lt' (rs : List ByteArray) : ∀ x ∈ recL rs, x < 256 := by
  induction rs with
  | nil => simp [recL]
  | cons r rs ih =>
    intro x hx
    simp only [recL, List.mem_append] at hx
    rcases hx with (h | h) | h
    · exact num_lt _ x h
    · exact bl_lt _ x h
    · exact ih x h
theorem batL_lt' (rs : List ByteArray) : ∀ x ∈ batL rs, x < 256 := by
  intro x hx
  rcases List.mem_append.1 hx with h | h
  · exact num_lt _ x h
  · exact recL_lt' rs x h
/-- a sector of what lies behind its checksum -/
def sealS (b : List Nat) : List Nat := markL ++ leB (Crc.update 0 (markL ++ [0, 0, 0, 0] ++ b)) 4 ++ b
theorem rsecL_seal (l : List Nat) (s i n : Nat) : rsecL l s i n = sealS (secB l s i n) := rfl
theorem secB_length {l : List Nat} (hl : l.length ≤ 4064) (s i n : Nat) : (secB l s i n).length = 4088 := by
  simp only [secB, List.length_append, leB_length, List.length_replicate]
  omega
theorem seal_drop (b : List Nat) : (sealS b).drop 8 = b := by
  unfold sealS
  rw [List.drop_left' (by simp [markL, leB_length])]
theorem seal_mid (b : List Nat) : ((sealS b).drop 4).take 4 = leB (Crc.update 0 (markL ++ [0, 0, 0, 0] ++ b)) 4 := by
  unfold sealS
  generalize Crc.update 0 (markL ++ [0, 0, 0, 0] ++ b) = c
  rw [List.append_assoc, List.drop_left' (show markL.length = 4 from rfl), List.take_left' (leB_length ..)]
theorem seal_flip {b c : List Nat} {k o : Nat} (hb : ∀ x ∈ b, x < 256) (hc : ∀ x ∈ c, x < 256) (hk : k < 8 + b.length) (ho : o < 256) (hne : (sealS b).getD k 0 ≠ o) : sealS c ≠ (sealS b).set k o := by
  intro h
  have hlen : (sealS b).length = 8 + b.length := by simp [sealS, markL, leB_length]; omega
  have hget : (sealS c).getD k 0 = o := by
    rw [h, List.getD_eq_getElem?_getD, List.getElem?_set_self (by omega)]
    rfl
  by_cases h8 : k < 8
  · have e1 : c = b := by
      have := congrArg (List.drop 8) h
      rw [seal_drop, List.drop_set_of_lt h8, seal_drop] at this
      exact this
    rw [e1] at hget
    exact hne hget
  · have e1 : c = b.set (k - 8) o := by
      have := congrArg (List.drop 8) h
      rw [seal_drop, List.drop_set, if_neg h8, seal_drop] at this
      exact this
    have e2 : leB (Crc.update 0 (markL ++ [0, 0, 0, 0] ++ c)) 4 = leB (Crc.update 0 (markL ++ [0, 0, 0, 0] ++ b)) 4 := by
      rw [← seal_mid c, ← seal_mid b, h, List.drop_set, if_neg (by omega), List.take_set_of_le (by omega)]
    have hM : ∀ x ∈ markL ++ [0, 0, 0, 0], x < 256 := by decide
    have hB : ∀ x ∈ markL ++ [0, 0, 0, 0] ++ b, x < 256 := fun x hx => (List.mem_append.1 hx).elim (hM x) (hb x)
    have hC : ∀ x ∈ markL ++ [0, 0, 0, 0] ++ c, x < 256 := fun x hx => (List.mem_append.1 hx).elim (hM x) (hc x)
    have e3 := leB_inj4 (update_lt 0 _ (by decide) hC) (update_lt 0 _ (by decide) hB) e2
    have e4 : markL ++ [0, 0, 0, 0] ++ c = (markL ++ [0, 0, 0, 0] ++ b).set k o := by
      rw [List.set_append_right _ _ (by simp [markL]; omega), e1]
      rfl
    rw [e4] at e3
    refine update_set (by simp [markL]; omega) hB ho ?_ e3
    intro e5
    refine hne ?_
    have : (sealS b).getD k 0 = (markL ++ [0, 0, 0, 0] ++ b).getD k 0 := by
      unfold sealS
      rw [List.getD_eq_getElem?_getD, List.getD_eq_getElem?_getD, List.getElem?_append_right (by simp [markL, leB_length]; omega), List.getElem?_append_right (by simp [markL]; omega)]
      simp [markL, leB_length]
    rw [this]
    exact e5
theorem frL_flip {a b : List ByteArray} {s i k o : Nat} (hi : i < (frL a s).length) (hk : k < 4096) (ho : o < 256) (hne : ((frL a s).getD i []).getD k 0 ≠ o) : frL b s ≠ (frL a s).set i (((frL a s).getD i []).set k o) := by
  intro h
  have hl : (frL b s).length = (frL a s).length := by rw [h, List.length_set]
  have hi1 : i < pcN (batL a).length := by rw [← frL_length a s]; exact hi
  have hi2 : i < pcN (batL b).length := by rw [← frL_length b s, hl]; exact hi
  have e1 : (frL b s).getD i [] = ((frL a s).getD i []).set k o := by
    rw [h]
    simp only [List.getD_eq_getElem?_getD]
    rw [List.getElem?_set_self hi]
    rfl
  have pa := (pcAt_len hi1).2.1
  have pb := (pcAt_len hi2).2.1
  have la : ∀ x ∈ pcAt (batL a) i, x < 256 := fun x hx => batL_lt' a x (List.mem_of_mem_drop (List.mem_of_mem_take hx))
  have lb : ∀ x ∈ pcAt (batL b) i, x < 256 := fun x hx => batL_lt' b x (List.mem_of_mem_drop (List.mem_of_mem_take hx))
  rw [frL_get hi1, frL_get hi2, secL_eq _ pa, secL_eq _ pb, rsecL_seal, rsecL_seal] at e1
  rw [frL_get hi1, secL_eq _ pa, rsecL_seal] at hne
  exact seal_flip (secB_lt la _ _ _) (secB_lt lb _ _ _) (by rw [secB_length pa]; omega) ho hne e1
end Go.Proofs.Yteckglnfkgfefaa
