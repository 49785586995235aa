/- RI RJ FI -/
import Derived.Test.YtebikoekpbnpbaaRD
import Derived.Deep.QuietTactic
import Derived.BigQuiet
import Derived.Lib.SlBytesConst
import Derived.Laws.BytesArg
import Derived.OpenShut
import Derived.Test.YtebikoekpbnpbaaFH
/- contracts: the document's Seal and Open -/
namespace Go.Proofs.Ytebikoekpbnpbaa
open Go.RowKit
set_option maxRecDepth 40000
theorem update_lt (s : Nat) (l : List Nat) (hs : s < 4294967296) (hl : ∀ x ∈ l, x < 256) : Crc.update s l < 4294967296 :=
  Nat.xor_lt_two_pow (n := 32) (by decide) (Crc.upd_lt _ _ (Nat.xor_lt_two_pow (n := 32) (by decide) hs) hl)
end Go.Proofs.Ytebikoekpbnpbaa
/- a row of bytes that the call itself made, and is written to; bytes as one number -/
namespace Go.Proofs.Ytebikoekpbnpbaa
open Go.RowKit
set_option maxRecDepth 40000
theorem mul_xor (k a b : Nat) : 2 ^ k * (a ^^^ b) = 2 ^ k * a ^^^ 2 ^ k * b := by
  apply Nat.eq_of_testBit_eq
  intro i
  rw [Nat.testBit_xor, Nat.testBit_two_pow_mul, Nat.testBit_two_pow_mul, Nat.testBit_two_pow_mul, Nat.testBit_xor]
  cases decide (i ≥ k) <;> simp
theorem val_set (l : List Nat) (j y : Nat) (h : j < l.length) : Crc.val (l.set j (l.getD j 0 ^^^ y)) = Crc.val l ^^^ 2 ^ (8 * j) * y := by
  induction l generalizing j with
  | nil => simp at h
  | cons x r ih =>
    cases j with
    | zero =>
      simp only [List.set_cons_zero, List.getD_cons_zero, Crc.val]
      simp only [Nat.mul_zero, Nat.pow_zero, Nat.one_mul]
      rw [Nat.xor_assoc, Nat.xor_comm y, ← Nat.xor_assoc]
    | succ j =>
      simp only [List.set_cons_succ, List.getD_cons_succ, Crc.val]
      rw [ih j (by simpa using h), show 256 = 2 ^ 8 from rfl, mul_xor, ← Nat.xor_assoc, ← Nat.mul_assoc, ← Nat.pow_add, show 8 + 8 * j = 8 * (j + 1) by omega]
/-- what differs by a run of bits has another checksum -/
theorem update_ne (s : Nat) (l m : List Nat) (at' M : Nat) (hl : m.length = l.length) (hat : at' ≤ 8 * l.length) (hM : M ≠ 0) (hM2 : M < 4294967296) (hv : Crc.val m = Crc.val l ^^^ 2 ^ at' * M) : Crc.update s m ≠ Crc.update s l := by
  intro h
  unfold Crc.update at h
  have h1 : Crc.upd (4294967295 ^^^ s) m = Crc.upd (4294967295 ^^^ s) l := by
    have : 4294967295 ^^^ (4294967295 ^^^ Crc.upd (4294967295 ^^^ s) m) = 4294967295 ^^^ (4294967295 ^^^ Crc.upd (4294967295 ^^^ s) l) := by rw [h]
    rwa [← Nat.xor_assoc, ← Nat.xor_assoc, Nat.xor_self, Nat.zero_xor, Nat.zero_xor] at this
  rw [Crc.upd_val, Crc.upd_val, hv, hl, ← Nat.xor_assoc, Crc.shN_xor] at h1
  have h2 : Crc.shN (8 * l.length) (2 ^ at' * M) = 0 := by
    generalize Crc.shN (8 * l.length) (4294967295 ^^^ s ^^^ Crc.val l) = A at h1
    generalize Crc.shN (8 * l.length) (2 ^ at' * M) = B at h1
    have : A ^^^ (A ^^^ B) = A ^^^ A := by rw [h1]
    rwa [← Nat.xor_assoc, Nat.xor_self, Nat.zero_xor] at this
  rw [show 8 * l.length = (8 * l.length - at') + at' by omega, Crc.shN_add, Crc.shN_pow] at h2
  exact Crc.shN_ne _ _ hM2 hM h2
end Go.Proofs.Ytebikoekpbnpbaa
/- a byte that is turned -/
namespace Go.Proofs.Ytebikoekpbnpbaa
open Go.RowKit Cod
set_option maxRecDepth 100000
set_option linter.unusedVariables false
set_option linter.unusedSimpArgs false
theorem le_inj4 {a b : Nat} (ha : a < 4294967296) (hb : b < 4294967296) (h : le a = le b) : a = b := by
  unfold le at h
  simp only [List.cons.injEq, and_true] at h
  omega
theorem set_take {l : List Nat} {i x n : Nat} (h : n ≤ i) : (l.set i x).take n = l.take n := by
  rw [List.take_set, List.set_eq_of_length_le (by rw [List.length_take]; omega)]
theorem set_drop {l : List Nat} {i x n : Nat} (h : i < n) : (l.set i x).drop n = l.drop n := by
  rw [List.drop_set, if_pos h]
/-- no right page has the bytes of another one but for one byte -/
theorem flip_no {p q : Pg} (hp : checkE p = 0) (hq : checkE q = 0) (hlp : ∀ x ∈ encP p, x < 256) {A O : Nat} (hA : A < 4096) (hO : O < 256) (hne : ¬ (encP p).getD A 0 = O) : ¬ encP q = (encP p).set A O := by
  intro h
  have lp := padN_len (text_fits hp).1
  have lq := padN_len (text_fits hq).1
  have e1 : encP p = padN 4092 (textP p) ++ le (Crc.update 0 (padN 4092 (textP p))) := rfl
  have e2 : encP q = padN 4092 (textP q) ++ le (Crc.update 0 (padN 4092 (textP q))) := rfl
  have hlq : ∀ x ∈ encP q, x < 256 := by
    rw [h]
    exact mem_set hlp hO
  by_cases hc : A < 4092
  · have hd : le (Crc.update 0 (padN 4092 (textP q))) = le (Crc.update 0 (padN 4092 (textP p))) := by
      have h1 : (encP q).drop 4092 = (encP p).drop 4092 := by rw [h, set_drop hc]
      rw [e1, e2, List.drop_left' lp, List.drop_left' lq] at h1
      exact h1
    have ht : padN 4092 (textP q) = (padN 4092 (textP p)).set A O := by
      have h1 : (encP q).take 4092 = ((encP p).set A O).take 4092 := by rw [h]
      rw [List.take_set, e1, e2, List.take_left' lp, List.take_left' lq] at h1
      exact h1
    have hxp : ∀ x ∈ padN 4092 (textP p), x < 256 := fun x hx => hlp x (by rw [e1]; exact List.mem_append_left _ hx)
    have hxq : ∀ x ∈ padN 4092 (textP q), x < 256 := fun x hx => hlq x (by rw [e2]; exact List.mem_append_left _ hx)
    have hg : (encP p).getD A 0 = (padN 4092 (textP p)).getD A 0 := by
      rw [e1, List.getD_eq_getElem?_getD, List.getElem?_append_left (by omega), ← List.getD_eq_getElem?_getD]
    rw [hg] at hne
    have hlt : (padN 4092 (textP p)).getD A 0 < 256 := by
      rw [List.getD_eq_getElem?_getD, List.getElem?_eq_getElem (by omega)]
      exact hxp _ (List.getElem_mem _)
    have hcrc := le_inj4 (update_lt 0 _ (by decide) hxq) (update_lt 0 _ (by decide) hxp) hd
    have hv := val_set (padN 4092 (textP p)) A ((padN 4092 (textP p)).getD A 0 ^^^ O) (by omega)
    rw [← Nat.xor_assoc, Nat.xor_self, Nat.zero_xor, ← ht] at hv
    refine update_ne 0 (padN 4092 (textP p)) (padN 4092 (textP q)) (8 * A) ((padN 4092 (textP p)).getD A 0 ^^^ O) (by rw [lp, lq]) (by omega) ?_ ?_ hv hcrc
    · intro h0
      have h5 : (padN 4092 (textP p)).getD A 0 ^^^ ((padN 4092 (textP p)).getD A 0 ^^^ O) = (padN 4092 (textP p)).getD A 0 ^^^ 0 := by rw [h0]
      rw [← Nat.xor_assoc, Nat.xor_self, Nat.zero_xor, Nat.xor_zero] at h5
      exact hne h5.symm
    · exact Nat.lt_trans (Nat.xor_lt_two_pow (n := 8) hlt hO) (by decide)
  · have ht : padN 4092 (textP q) = padN 4092 (textP p) := by
      have h1 : (encP q).take 4092 = (encP p).take 4092 := by rw [h, set_take (by omega)]
      rw [e1, e2, List.take_left' lp, List.take_left' lq] at h1
      exact h1
    have : encP q = encP p := by rw [e1, e2, ht]
    rw [this] at h
    apply hne
    have hl : A < (encP p).length := by rw [encP_len hp]; exact hA
    have h3 : ((encP p).set A O).getD A 0 = O := by
      rw [List.getD_eq_getElem?_getD, List.getElem?_set_self hl]
      rfl
    rw [← h] at h3
    exact h3
theorem dec_self {p q : Pg} {er : Int} (hp : checkE p = 0) (h : DecR (encP p) q er) : er = 0 ∧ q = p := by
  rcases h with ⟨h1, h2, h3, h4⟩ | ⟨_, _, h3⟩
  · exact ⟨h1, h4 p hp rfl⟩
  · exact absurd rfl (h3 p hp)
theorem dec_flip {p q : Pg} {er : Int} (hp : checkE p = 0) (hlp : ∀ x ∈ encP p, x < 256) {A O : Nat} (hA : A < 4096) (hO : O < 256) (hne : ¬ (encP p).getD A 0 = O) (h : DecR ((encP p).set A O) q er) : er = 6 := by
  rcases h with ⟨h1, h2, h3, h4⟩ | ⟨h1, _⟩
  · exact absurd h3 (flip_no hp h2 hlp hA hO hne)
  · exact h1
end Go.Proofs.Ytebikoekpbnpbaa
