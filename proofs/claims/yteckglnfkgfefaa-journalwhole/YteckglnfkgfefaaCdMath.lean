/- CdMath CdMath2 -/
import Derived.RowKit3
/- what the bytes of numbers, texts and entries are, as lists -/
namespace Cod
/-- a number's bytes -/
def num (n : Nat) : List Nat := if h : n < 128 then [n] else (n % 128 + 128) :: num (n / 128)
theorem num_small {n : Nat} (h : n < 128) : num n = [n] := by rw [num, dif_pos h]
theorem num_great {n : Nat} (h : 128 ≤ n) : num n = (n % 128 + 128) :: num (n / 128) := by rw [num, dif_neg (by omega)]
theorem num_lt (n : Nat) : ∀ x ∈ num n, x < 256 := by
  induction n using Nat.strongRecOn with
  | ind n ih =>
    intro x hx
    by_cases h : n < 128
    · rw [num_small h] at hx; simp at hx; omega
    · rw [num_great (by omega)] at hx
      rcases List.mem_cons.1 hx with rfl | hx
      · omega
      · exact ih (n / 128) (by omega) x hx
theorem num_ne (n : Nat) : num n ≠ [] := by
  by_cases h : n < 128
  · rw [num_small h]; simp
  · rw [num_great (by omega)]; simp
/-- reading a number, from the group i on, acc being what the groups ahead say -/
def rd : Nat → Nat → List Nat → Option (Nat × List Nat)
  | _, _, [] => none
  | i, acc, x :: t =>
    if 10 ≤ i then none else
    if i = 9 ∧ 1 < x % 128 then none else
    if x < 128 then (if x = 0 ∧ 0 < i then none else some (acc + x % 128 * 128 ^ i, t))
    else rd (i + 1) (acc + x % 128 * 128 ^ i) t
def rdNum (l : List Nat) : Option (Nat × List Nat) := rd 0 0 l
theorem rd_nil (i acc : Nat) : rd i acc [] = none := by rw [rd]
theorem rd_ten (acc : Nat) (l : List Nat) : rd 10 acc l = none := by cases l <;> rw [rd]; rw [if_pos (Nat.le_refl _)]
theorem pow_split (i : Nat) (h : i ≤ 9) : ∃ q, 0 < q ∧ 128 ^ i * q = 18446744073709551616 ∧ (i < 9 → q % 128 = 0) ∧ (i = 9 → q = 2) := by
  match i, h with
  | 0, _ => exact ⟨18446744073709551616, by decide, by rw [Nat.pow_zero, Nat.one_mul], by decide, by decide⟩
  | 1, _ => exact ⟨144115188075855872, by decide, by decide, by decide, by decide⟩
  | 2, _ => exact ⟨1125899906842624, by decide, by decide, by decide, by decide⟩
  | 3, _ => exact ⟨8796093022208, by decide, by decide, by decide, by decide⟩
  | 4, _ => exact ⟨68719476736, by decide, by decide, by decide, by decide⟩
  | 5, _ => exact ⟨536870912, by decide, by decide, by decide, by decide⟩
  | 6, _ => exact ⟨4194304, by decide, by decide, by decide, by decide⟩
  | 7, _ => exact ⟨32768, by decide, by decide, by decide, by decide⟩
  | 8, _ => exact ⟨256, by decide, by decide, by decide, by decide⟩
  | 9, _ => exact ⟨2, by decide, by decide, by decide, by decide⟩
theorem lt_of_split {i n q : Nat} (hq : 128 ^ i * q = 18446744073709551616) : n * 128 ^ i < 18446744073709551616 ↔ n < q := by
  rw [← hq, Nat.mul_comm]
  exact ⟨fun h => Nat.lt_of_mul_lt_mul_left h, fun h => Nat.mul_lt_mul_of_pos_left h (Nat.pow_pos (by decide))⟩
theorem rd_num (n : Nat) : ∀ (i acc : Nat) (r : List Nat), i ≤ 9 → n * 128 ^ i < 18446744073709551616 → (i = 0 ∨ 0 < n) → rd i acc (num n ++ r) = some (acc + n * 128 ^ i, r) := by
  induction n using Nat.strongRecOn with
  | ind n ih =>
    intro i acc r hi hn h0
    obtain ⟨q, hq0, hq, hq1, hq2⟩ := pow_split i hi
    rw [lt_of_split hq] at hn
    by_cases h : n < 128
    · rw [num_small h, List.singleton_append, rd, if_neg (by omega), if_neg (by omega), if_pos h, if_neg (by omega), Nat.mod_eq_of_lt h]
    · have hi9 : i ≠ 9 := fun e => by have := hq2 e; omega
      rw [num_great (by omega), List.cons_append, rd, if_neg (by omega), if_neg (by omega), if_neg (by omega), ih (n / 128) (by omega) (i + 1) _ r (by omega) ?_ (by omega)]
      · have e : n * 128 ^ i = n % 128 * 128 ^ i + n / 128 * 128 ^ (i + 1) := by
          rw [Nat.pow_succ, Nat.mul_comm (128 ^ i), ← Nat.mul_assoc, ← Nat.add_mul]; congr 1; omega
        rw [e, show (n % 128 + 128) % 128 = n % 128 by omega, Nat.add_assoc]
      · have : n / 128 * 128 ^ (i + 1) ≤ n * 128 ^ i := by
          rw [Nat.pow_succ, Nat.mul_comm (128 ^ i), ← Nat.mul_assoc]; exact Nat.mul_le_mul_right _ (by omega)
        exact Nat.lt_of_le_of_lt this ((lt_of_split hq).2 hn)
theorem rd_some (l : List Nat) : ∀ (i acc m : Nat) (r : List Nat), (∀ x ∈ l, x < 256) → i ≤ 9 → rd i acc l = some (m, r) → ∃ n, m = acc + n * 128 ^ i ∧ l = num n ++ r ∧ n * 128 ^ i < 18446744073709551616 ∧ (i = 0 ∨ 0 < n) := by
  induction l with
  | nil => intro i acc m r _ _ h; rw [rd] at h; cases h
  | cons x t ih =>
    intro i acc m r hx hi h
    obtain ⟨q, hq0, hq, hq1, hq2⟩ := pow_split i hi
    rw [rd, if_neg (by omega)] at h
    have hx0 : x < 256 := hx x (by simp)
    split at h
    · cases h
    · rename_i h9
      split at h
      · rename_i hlt
        split at h
        · cases h
        · rename_i hz
          simp only [Option.some.injEq, Prod.mk.injEq] at h
          obtain ⟨rfl, rfl⟩ := h
          rw [Nat.mod_eq_of_lt hlt]
          refine ⟨x, rfl, by rw [num_small hlt]; rfl, ?_, by omega⟩
          rw [lt_of_split hq]
          by_cases e : i = 9
          · have := hq2 e; omega
          · have := hq1 (by omega); omega
      · rename_i hge
        by_cases e : i = 9
        · subst e
          cases t with
          | nil => rw [rd] at h; cases h
          | cons y t => rw [rd, if_pos (by omega)] at h; cases h
        · obtain ⟨n, hm, ht, hb, hn⟩ := ih (i + 1) _ m r (fun y hy => hx y (by simp [hy])) (by omega) h
          obtain ⟨q', hq0', hq', _, _⟩ := pow_split (i + 1) (by omega)
          have hqq : q = 128 * q' := by
            have h1 : 128 ^ i * q = 128 ^ i * (128 * q') := by rw [hq, ← hq', Nat.pow_succ, Nat.mul_assoc]
            exact Nat.eq_of_mul_eq_mul_left (Nat.pow_pos (by decide)) h1
          rw [lt_of_split hq'] at hb
          refine ⟨x % 128 + 128 * n, ?_, ?_, ?_, by omega⟩
          · rw [hm, Nat.add_mul, Nat.pow_succ, Nat.mul_comm (128 ^ i) 128, ← Nat.mul_assoc, Nat.mul_comm n 128, Nat.add_assoc]
          · rw [num_great (by omega), show (x % 128 + 128 * n) % 128 + 128 = x by omega, show (x % 128 + 128 * n) / 128 = n by omega, ht]; rfl
          · rw [lt_of_split hq]; omega
/-- there and back, a number -/
theorem rdNum_num {n : Nat} (h : n < 18446744073709551616) (r : List Nat) : rdNum (num n ++ r) = some (n, r) := by
  have := rd_num n 0 0 r (by omega) (by simpa using h) (.inl rfl)
  simpa [rdNum] using this
theorem rdNum_some {l r : List Nat} {n : Nat} (hx : ∀ x ∈ l, x < 256) (h : rdNum l = some (n, r)) : l = num n ++ r ∧ n < 18446744073709551616 := by
  obtain ⟨n', hm, hl, hb, _⟩ := rd_some l 0 0 n r hx (by omega) h
  simp only [Nat.pow_zero, Nat.mul_one, Nat.zero_add] at hm hb
  subst hm
  exact ⟨hl, hb⟩
theorem num_apart {n m : Nat} (hn : n < 18446744073709551616) (hm : m < 18446744073709551616) {r s : List Nat} (h : num n ++ r = num m ++ s) : n = m ∧ r = s := by
  have h1 := rdNum_num hn r
  rw [h, rdNum_num hm s] at h1
  simp at h1
  exact ⟨h1.1.symm, h1.2.symm⟩
/-- a text's bytes -/
def text (s : List Nat) : List Nat := num s.length ++ s
/-- reading a text of so many bytes at most: its bytes and what is behind, or the error -/
def rdText (most : Nat) (l : List Nat) : Except Nat (List Nat × List Nat) :=
  match rdNum l with
  | none => .error 6
  | some (n, r) => if most < n then .error 4 else if r.length < n then .error 6 else .ok (r.take n, r.drop n)
end Cod
/- what the bytes of texts, entries and keys are, as lists; there and back -/
namespace Cod
theorem num_len (n : Nat) : ∀ k, n < 128 ^ k → 0 < k → (num n).length ≤ k := by
  induction n using Nat.strongRecOn with
  | ind n ih =>
    intro k hn hk
    by_cases h : n < 128
    · rw [num_small h]; simp; omega
    · rw [num_great (by omega), List.length_cons]
      match k, hk with
      | 1, _ => simp at hn; omega
      | k + 2, _ =>
        have : (num (n / 128)).length ≤ k + 1 := ih (n / 128) (by omega) (k + 1) (by rw [Nat.pow_succ] at hn; omega) (by omega)
        omega
theorem num_len10 {n : Nat} (h : n < 18446744073709551616) : (num n).length ≤ 10 := num_len n 10 (Nat.lt_of_lt_of_le h (by decide)) (by omega)
/-- an entry: its key, its value -/
abbrev Ent := List Nat × List Nat
def entB (e : Ent) : List Nat := text e.1 ++ text e.2
def entsB (l : List Ent) : List Nat := l.flatMap entB
def entries (l : List Ent) : Except Nat (List Nat) :=
  if 4096 < l.length then .error 3 else if l.any (fun e => decide (256 < e.1.length ∨ 512 < e.2.length)) then .error 4 else .ok (num l.length ++ entsB l)
def rdEnt (l : List Nat) : Except Nat (Ent × List Nat) :=
  match rdText 256 l with
  | .error e => .error e
  | .ok (k, r) => match rdText 512 r with
    | .error e => .error e
    | .ok (v, r) => .ok ((k, v), r)
/-- n more entries, behind those of acc -/
def rdEnts : Nat → List Nat → List Ent → Except Nat (List Ent × List Nat)
  | 0, l, acc => .ok (acc, l)
  | n + 1, l, acc => match rdEnt l with
    | .error e => .error e
    | .ok (e, r) => rdEnts n r (acc ++ [e])
def rdEntries (l : List Nat) : Except Nat (List Ent) :=
  match rdNum l with
  | none => .error 6
  | some (n, r) => if 4096 < n then .error 3 else match rdEnts n r [] with
    | .error e => .error e
    | .ok (es, r) => if r.length = 0 then .ok es else .error 6
def fits (e : Ent) : Prop := e.1.length ≤ 256 ∧ e.2.length ≤ 512
end Cod
