/- CdMath3 CdF CrMath -/
import Derived.Test.YteckglnfkgfefaaCdMath
import Derived.Test.YteckglnfkgfefaaCdC
/- what the bytes of keys are, as lists -/
namespace Cod
/-- a part of a key: its kind, its number, its text -/
structure Part where
  k : Nat
  n : Nat
  s : List Nat
/-- eight bytes, the highest one first -/
def be8 (n : Nat) : List Nat := [n / 2 ^ 56 % 256, n / 2 ^ 48 % 256, n / 2 ^ 40 % 256, n / 2 ^ 32 % 256, n / 2 ^ 24 % 256, n / 2 ^ 16 % 256, n / 2 ^ 8 % 256, n % 256]
def esc : List Nat → List Nat
  | [] => []
  | x :: t => (if x = 0 then [0, 255] else [x]) ++ esc t
def isPart (p : Part) : Bool := (p.k == 1 && p.s.isEmpty) || (p.k == 2 && p.n == 0)
def partB (p : Part) : List Nat := if p.k = 1 then 1 :: be8 p.n else 2 :: (esc p.s ++ [0, 1])
def keyB (ps : List Part) : List Nat := ps.flatMap partB
def okP (p : Part) : Prop := p.k < 256 ∧ p.n < 18446744073709551616 ∧ ∀ x ∈ p.s, x < 256
def key (ps : List Part) : Except Nat (List Nat) :=
  if 16 < ps.length then .error 3 else if !ps.all isPart then .error 15 else if 256 < (keyB ps).length then .error 4 else .ok (keyB ps)
end Cod
/- contracts: the writers of keys -/
namespace Go.Proofs.Yteckglnfkgfefaa
open Go.RowKit Cod
set_option maxRecDepth 40000
/-- parts in memory -/
def IsP (w : World) (a : Option Addr) (len cap : Nat) (ps : List Part) : Prop :=
  ps.length = len ∧ len ≤ cap ∧ cap ≤ maxLen ∧ (∀ p ∈ ps, okP p) ∧ (len = 0 ∧ (a = none → cap = 0) ∨ ∃ b off, a = some ⟨b, off, none⟩ ∧ b < w.heap.size ∧ ∀ i p, ps[i]? = some p → w.cell? ⟨b, off + i * 3, none⟩ = some (.int .u8 (p.k : Nat)) ∧ w.cell? ⟨b, off + i * 3 + 1, none⟩ = some (.int .u64 (p.n : Nat)) ∧ w.cell? ⟨b, off + i * 3 + 2, none⟩ = some (.string (str p.s)))
theorem IsP.below {w w1 : World} {a : Option Addr} {len cap : Nat} {ps : List Part} (h : IsP w a len cap ps) (hb : Below w.heap.size w w1) : IsP w1 a len cap ps := by
  obtain ⟨h1, h2, h3, h4, h5⟩ := h
  refine ⟨h1, h2, h3, h4, ?_⟩
  rcases h5 with h5 | ⟨b, off, rfl, hlt, hc⟩
  · exact .inl h5
  · refine .inr ⟨b, off, rfl, Nat.lt_of_lt_of_le hlt hb.size, fun i p hp => ?_⟩
    obtain ⟨c1, c2, c3⟩ := hc i p hp
    exact ⟨(hb.cell (p := ⟨b, _, none⟩) hlt).trans c1, (hb.cell (p := ⟨b, _, none⟩) hlt).trans c2, (hb.cell (p := ⟨b, _, none⟩) hlt).trans c3⟩
end Go.Proofs.Yteckglnfkgfefaa
/- The plain mathematics of CRC-32 on natural numbers: shifting is additive over exclusive or, has no kernel, and multiplication by powers of x is shifting. -/
namespace Go.Proofs.Yteckglnfkgfefaa.Crc
def P : Nat := 3988292384
def sh (c : Nat) : Nat := (c / 2) ^^^ ((c % 2) * P)
theorem xor_mod2 (a b : Nat) : (a ^^^ b) % 2 = (a % 2 + b % 2) % 2 := by
  have h : (a ^^^ b).testBit 0 = ((a.testBit 0) ^^ (b.testBit 0)) := Nat.testBit_xor _ _ _
  rw [Nat.testBit_zero, Nat.testBit_zero, Nat.testBit_zero] at h
  have h1 : a % 2 = 0 ∨ a % 2 = 1 := by omega
  have h2 : b % 2 = 0 ∨ b % 2 = 1 := by omega
  have h3 : (a ^^^ b) % 2 = 0 ∨ (a ^^^ b) % 2 = 1 := by omega
  rcases h1 with e1 | e1 <;> rcases h2 with e2 | e2 <;> rcases h3 with e3 | e3 <;> simp [e1, e2, e3] at h ⊢
theorem xor_div2 (a b : Nat) : (a ^^^ b) / 2 = a / 2 ^^^ b / 2 := Nat.xor_div_two
theorem sel (x y p : Nat) (hx : x < 2) (hy : y < 2) : ((x + y) % 2) * p = (x * p) ^^^ (y * p) := by
  have h1 : x = 0 ∨ x = 1 := by omega
  have h2 : y = 0 ∨ y = 1 := by omega
  rcases h1 with rfl | rfl <;> rcases h2 with rfl | rfl <;> simp
theorem sh_xor (a b : Nat) : sh (a ^^^ b) = sh a ^^^ sh b := by
  unfold sh
  rw [xor_mod2, xor_div2, sel _ _ _ (Nat.mod_lt _ (by decide)) (Nat.mod_lt _ (by decide))]
  simp only [Nat.xor_assoc]
  congr 1
  rw [← Nat.xor_assoc, Nat.xor_comm (b / 2), Nat.xor_assoc]
theorem sh_lt (c : Nat) (h : c < 4294967296) : sh c < 4294967296 := by
  unfold sh
  have h1 : c / 2 < 2 ^ 32 := by omega
  have h2 : (c % 2) * P < 2 ^ 32 := by
    have : c % 2 = 0 ∨ c % 2 = 1 := by omega
    rcases this with e | e <;> rw [e] <;> decide
  exact Nat.xor_lt_two_pow h1 h2
def shN : Nat → Nat → Nat
  | 0, c => c
  | n + 1, c => shN n (sh c)
theorem shN_xor (n a b : Nat) : shN n (a ^^^ b) = shN n a ^^^ shN n b := by induction n generalizing a b with
  | zero => rfl
  | succ n ih => rw [shN, sh_xor, ih]; rfl
theorem shN_add (n m c : Nat) : shN (n + m) c = shN n (shN m c) := by induction m generalizing c with
  | zero => rfl
  | succ m ih => rw [← Nat.add_assoc, shN, ih]; rfl
theorem shN_succ (n c : Nat) : shN (n + 1) c = sh (shN n c) := by rw [Nat.add_comm, shN_add]; rfl
theorem shN_lt (n c : Nat) (h : c < 4294967296) : shN n c < 4294967296 := by induction n generalizing c with
  | zero => exact h
  | succ n ih => exact ih _ (sh_lt c h)
/-- shN k (2^k * a) = a for k up to 32 shifts: low bits zero -/
theorem sh_even (a : Nat) : sh (2 * a) = a := by unfold sh; simp
theorem shN_pow (k a : Nat) : shN k (2 ^ k * a) = a := by induction k generalizing a with
  | zero => simp [shN]
  | succ k ih => rw [shN, Nat.pow_succ, Nat.mul_comm (2 ^ k) 2, Nat.mul_assoc, sh_even, ih]
theorem shN_low (k c : Nat) : shN k c = c / 2 ^ k ^^^ shN k (c % 2 ^ k) := by
  have h : c = (2 ^ k * (c / 2 ^ k)) ^^^ (c % 2 ^ k) := by
    have h1 := Nat.div_add_mod c (2 ^ k)
    have h2 := Nat.two_pow_add_eq_or_of_lt (Nat.mod_lt c (Nat.two_pow_pos k)) (c / 2 ^ k)
    apply Nat.eq_of_testBit_eq
    intro i
    rw [Nat.testBit_xor, Nat.testBit_two_pow_mul, Nat.testBit_mod_two_pow, Nat.testBit_div_two_pow]
    by_cases hi : i < k
    · have : ¬ k ≤ i := by omega
      simp [hi, this]
    · have : k ≤ i := by omega
      simp [hi, this]
  conv => lhs; rw [h]
  rw [shN_xor, shN_pow]
/-- the polynomial 1 (bits turned round) -/
def one : Nat := 2147483648
def pr (a b : Nat) : Nat → Nat
  | 0 => 0
  | i + 1 => pr a b i ^^^ (if a.testBit (31 - i) then shN i b else 0)
/-! bytes as one number -/
def val : List Nat → Nat
  | [] => 0
  | x :: r => x ^^^ 256 * val r
def upd (c : Nat) : List Nat → Nat
  | [] => c
  | x :: r => upd (shN 8 (c ^^^ x)) r
theorem upd_append (c : Nat) (l m : List Nat) : upd c (l ++ m) = upd (upd c l) m := by
  induction l generalizing c with
  | nil => rfl
  | cons x r ih => rw [List.cons_append, upd, ih, upd]
theorem upd_lt (c : Nat) (l : List Nat) (h : c < 4294967296) (hl : ∀ x ∈ l, x < 256) : upd c l < 4294967296 := by
  induction l generalizing c with
  | nil => exact h
  | cons x r ih =>
    rw [upd]
    refine ih _ (shN_lt 8 _ (Nat.xor_lt_two_pow (n := 32) h ?_)) (fun y hy => hl y (List.mem_cons_of_mem _ hy))
    have := hl x List.mem_cons_self
    omega
/-- Go's Update -/
def update (s : Nat) (l : List Nat) : Nat := 4294967295 ^^^ upd (4294967295 ^^^ s) l
end Go.Proofs.Yteckglnfkgfefaa.Crc
