/- what the bytes of keys are, as lists -/
import Derived.Test.YtnimlpbalfamcaaMath2
namespace Cod
/-- a part of a key: its kind, its number, its text -/
structure Part where
  k : Nat
  n : Nat
  s : List Nat
/-- eight bytes, the highest one first -/
def be8 (n : Nat) : List Nat := [n / 2 ^ 56 % 256, n / 2 ^ 48 % 256, n / 2 ^ 40 % 256, n / 2 ^ 32 % 256, n / 2 ^ 24 % 256, n / 2 ^ 16 % 256, n / 2 ^ 8 % 256, n % 256]
theorem be8_get (n k : Nat) (h : k < 8) : (be8 n).getD k 0 = n / 2 ^ (8 * (7 - k)) % 256 := by
  match k, h with
  | 0, _ => rfl
  | 1, _ => rfl
  | 2, _ => rfl
  | 3, _ => rfl
  | 4, _ => rfl
  | 5, _ => rfl
  | 6, _ => rfl
  | 7, _ => simp [be8]
theorem be8_lt (n : Nat) : ∀ x ∈ be8 n, x < 256 := by
  intro x hx; simp only [be8, List.mem_cons, List.not_mem_nil, or_false] at hx; omega
def esc : List Nat → List Nat
  | [] => []
  | x :: t => (if x = 0 then [0, 255] else [x]) ++ esc t
theorem esc_append (a b : List Nat) : esc (a ++ b) = esc a ++ esc b := by
  induction a with
  | nil => rfl
  | cons x t ih => simp [esc, ih]
theorem esc_length (a : List Nat) : (esc a).length ≤ 2 * a.length := by
  induction a with
  | nil => simp [esc]
  | cons x t ih => simp only [esc, List.length_append, List.length_cons]; split <;> simp <;> omega
theorem esc_lt {a : List Nat} (h : ∀ x ∈ a, x < 256) : ∀ x ∈ esc a, x < 256 := by
  induction a with
  | nil => simp [esc]
  | cons y t ih =>
    intro x hx
    simp only [esc, List.mem_append] at hx
    rcases hx with hx | hx
    · have := h y (by simp)
      split at hx <;> simp at hx <;> omega
    · exact ih (fun z hz => h z (by simp [hz])) x hx
def isPart (p : Part) : Bool := (p.k == 1 && p.s.isEmpty) || (p.k == 2 && p.n == 0)
def partB (p : Part) : List Nat := if p.k = 1 then 1 :: be8 p.n else 2 :: (esc p.s ++ [0, 1])
def keyB (ps : List Part) : List Nat := ps.flatMap partB
def okP (p : Part) : Prop := p.k < 256 ∧ p.n < 18446744073709551616 ∧ ∀ x ∈ p.s, x < 256
def key (ps : List Part) : Except Nat (List Nat) :=
  if 16 < ps.length then .error 3 else if !ps.all isPart then .error 15 else if 256 < (keyB ps).length then .error 4 else .ok (keyB ps)
theorem partB_lt {p : Part} (h : okP p) : ∀ x ∈ partB p, x < 256 := by
  intro x hx
  unfold partB at hx
  split at hx
  · rcases List.mem_cons.1 hx with rfl | hx
    · decide
    · exact be8_lt _ x hx
  · rcases List.mem_cons.1 hx with rfl | hx
    · decide
    · rcases List.mem_append.1 hx with hx | hx
      · exact esc_lt h.2.2 x hx
      · simp at hx; omega
theorem keyB_lt {ps : List Part} (h : ∀ p ∈ ps, okP p) : ∀ x ∈ keyB ps, x < 256 := by
  intro x hx
  simp only [keyB, List.mem_flatMap] at hx
  obtain ⟨p, hp, hx⟩ := hx
  exact partB_lt (h p hp) x hx
theorem keyB_append (a b : List Part) : keyB (a ++ b) = keyB a ++ keyB b := by simp [keyB]
theorem keyB_take_le (ps : List Part) (k : Nat) : (keyB (ps.take k)).length ≤ (keyB ps).length := by
  have : ps = ps.take k ++ ps.drop k := (List.take_append_drop k ps).symm
  conv => rhs; rw [this, keyB_append]
  simp
end Cod
