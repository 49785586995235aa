/- what the bytes of numbers, texts and entries are, as lists -/
import Derived.RowKit3
namespace Cod
/-- a number's bytes -/
def num (n : Nat) : List Nat := if h : n < 128 then [n] else (n % 128 + 128) :: num (n / 128)
theorem num_small {n : Nat} (h : n < 128) : num n = [n] := by rw [num, dif_pos h]
theorem num_great {n : Nat} (h : 128 ≤ n) : num n = (n % 128 + 128) :: num (n / 128) := by rw [num, dif_neg (by omega)]
theorem num_lt (n : Nat) : ∀ x ∈ num n, x < 256 := by
  induction n using Nat.strongRecOn with
  | ind n ih =>
    intro x hx
    by_cases h : n < 128
    · rw [num_small h] at hx; simp at hx; omega
    · rw [num_great (by omega)] at hx
      rcases List.mem_cons.1 hx with rfl | hx
      · omega
      · exact ih (n / 128) (by omega) x hx
theorem num_ne (n : Nat) : num n ≠ [] := by
  by_cases h : n < 128
  · rw [num_small h]; simp
  · rw [num_great (by omega)]; simp
/-- reading a number, from the group i on, acc being what the groups ahead say -/
def rd : Nat → Nat → List Nat → Option (Nat × List Nat)
  | _, _, [] => none
  | i, acc, x :: t =>
    if 10 ≤ i then none else
    if i = 9 ∧ 1 < x % 128 then none else
    if x < 128 then (if x = 0 ∧ 0 < i then none else some (acc + x % 128 * 128 ^ i, t))
    else rd (i + 1) (acc + x % 128 * 128 ^ i) t
def rdNum (l : List Nat) : Option (Nat × List Nat) := rd 0 0 l
/-- a text's bytes -/
def text (s : List Nat) : List Nat := num s.length ++ s
/-- reading a text of so many bytes at most: its bytes and what is behind, or the error -/
def rdText (most : Nat) (l : List Nat) : Except Nat (List Nat × List Nat) :=
  match rdNum l with
  | none => .error 6
  | some (n, r) => if most < n then .error 4 else if r.length < n then .error 6 else .ok (r.take n, r.drop n)
end Cod
