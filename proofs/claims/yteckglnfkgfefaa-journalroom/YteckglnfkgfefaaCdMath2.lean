/- what the bytes of texts, entries and keys are, as lists; there and back -/
import Derived.Test.YteckglnfkgfefaaCdMath
namespace Cod
theorem num_len (n : Nat) : ∀ k, n < 128 ^ k → 0 < k → (num n).length ≤ k := by
  induction n using Nat.strongRecOn with
  | ind n ih =>
    intro k hn hk
    by_cases h : n < 128
    · rw [num_small h]; simp; omega
    · rw [num_great (by omega), List.length_cons]
      match k, hk with
      | 1, _ => simp at hn; omega
      | k + 2, _ =>
        have : (num (n / 128)).length ≤ k + 1 := ih (n / 128) (by omega) (k + 1) (by rw [Nat.pow_succ] at hn; omega) (by omega)
        omega
theorem num_len10 {n : Nat} (h : n < 18446744073709551616) : (num n).length ≤ 10 := num_len n 10 (Nat.lt_of_lt_of_le h (by decide)) (by omega)
/-- an entry: its key, its value -/
abbrev Ent := List Nat × List Nat
def entB (e : Ent) : List Nat := text e.1 ++ text e.2
def entsB (l : List Ent) : List Nat := l.flatMap entB
def entries (l : List Ent) : Except Nat (List Nat) :=
  if 4096 < l.length then .error 3 else if l.any (fun e => decide (256 < e.1.length ∨ 512 < e.2.length)) then .error 4 else .ok (num l.length ++ entsB l)
def rdEnt (l : List Nat) : Except Nat (Ent × List Nat) :=
  match rdText 256 l with
  | .error e => .error e
  | .ok (k, r) => match rdText 512 r with
    | .error e => .error e
    | .ok (v, r) => .ok ((k, v), r)
/-- n more entries, behind those of acc -/
def rdEnts : Nat → List Nat → List Ent → Except Nat (List Ent × List Nat)
  | 0, l, acc => .ok (acc, l)
  | n + 1, l, acc => match rdEnt l with
    | .error e => .error e
    | .ok (e, r) => rdEnts n r (acc ++ [e])
def rdEntries (l : List Nat) : Except Nat (List Ent) :=
  match rdNum l with
  | none => .error 6
  | some (n, r) => if 4096 < n then .error 3 else match rdEnts n r [] with
    | .error e => .error e
    | .ok (es, r) => if r.length = 0 then .ok es else .error 6
def fits (e : Ent) : Prop := e.1.length ≤ 256 ∧ e.2.length ≤ 512
end Cod
