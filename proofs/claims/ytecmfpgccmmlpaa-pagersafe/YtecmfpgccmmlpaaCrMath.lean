/- The plain mathematics of CRC-32 on natural numbers: shifting is additive over exclusive or, has no kernel, and multiplication by powers of x is shifting. -/
namespace Go.Proofs.Ytecmfpgccmmlpaa.Crc
def P : Nat := 3988292384
def sh (c : Nat) : Nat := (c / 2) ^^^ ((c % 2) * P)
theorem xor_mod2 (a b : Nat) : (a ^^^ b) % 2 = (a % 2 + b % 2) % 2 := by
  have h : (a ^^^ b).testBit 0 = ((a.testBit 0) ^^ (b.testBit 0)) := Nat.testBit_xor _ _ _
  rw [Nat.testBit_zero, Nat.testBit_zero, Nat.testBit_zero] at h
  have h1 : a % 2 = 0 ∨ a % 2 = 1 := by omega
  have h2 : b % 2 = 0 ∨ b % 2 = 1 := by omega
  have h3 : (a ^^^ b) % 2 = 0 ∨ (a ^^^ b) % 2 = 1 := by omega
  rcases h1 with e1 | e1 <;> rcases h2 with e2 | e2 <;> rcases h3 with e3 | e3 <;> simp [e1, e2, e3] at h ⊢
theorem xor_div2 (a b : Nat) : (a ^^^ b) / 2 = a / 2 ^^^ b / 2 := Nat.xor_div_two
theorem sel (x y p : Nat) (hx : x < 2) (hy : y < 2) : ((x + y) % 2) * p = (x * p) ^^^ (y * p) := by
  have h1 : x = 0 ∨ x = 1 := by omega
  have h2 : y = 0 ∨ y = 1 := by omega
  rcases h1 with rfl | rfl <;> rcases h2 with rfl | rfl <;> simp
theorem sh_xor (a b : Nat) : sh (a ^^^ b) = sh a ^^^ sh b := by
  unfold sh
  rw [xor_mod2, xor_div2, sel _ _ _ (Nat.mod_lt _ (by decide)) (Nat.mod_lt _ (by decide))]
  simp only [Nat.xor_assoc]
  congr 1
  rw [← Nat.xor_assoc, Nat.xor_comm (b / 2), Nat.xor_assoc]
theorem sh_zero : sh 0 = 0 := rfl
theorem sh_lt (c : Nat) (h : c < 4294967296) : sh c < 4294967296 := by
  unfold sh
  have h1 : c / 2 < 2 ^ 32 := by omega
  have h2 : (c % 2) * P < 2 ^ 32 := by
    have : c % 2 = 0 ∨ c % 2 = 1 := by omega
    rcases this with e | e <;> rw [e] <;> decide
  exact Nat.xor_lt_two_pow h1 h2
def shN : Nat → Nat → Nat
  | 0, c => c
  | n + 1, c => shN n (sh c)
theorem shN_zero (n : Nat) : shN n 0 = 0 := by induction n with
  | zero => rfl
  | succ n ih => rw [shN, sh_zero, ih]
theorem shN_xor (n a b : Nat) : shN n (a ^^^ b) = shN n a ^^^ shN n b := by induction n generalizing a b with
  | zero => rfl
  | succ n ih => rw [shN, sh_xor, ih]; rfl
theorem shN_add (n m c : Nat) : shN (n + m) c = shN n (shN m c) := by induction m generalizing c with
  | zero => rfl
  | succ m ih => rw [← Nat.add_assoc, shN, ih]; rfl
theorem shN_succ (n c : Nat) : shN (n + 1) c = sh (shN n c) := by rw [Nat.add_comm, shN_add]; rfl
theorem shN_lt (n c : Nat) (h : c < 4294967296) : shN n c < 4294967296 := by induction n generalizing c with
  | zero => exact h
  | succ n ih => exact ih _ (sh_lt c h)
theorem sh_inj0 (c : Nat) (h : c < 4294967296) (e : sh c = 0) : c = 0 := by
  unfold sh at e
  have : c % 2 = 0 ∨ c % 2 = 1 := by omega
  rcases this with e1 | e1
  · rw [e1] at e; simp at e; omega
  · exfalso
    rw [e1, Nat.one_mul] at e
    have e2 : c / 2 = P := by
      have h3 : c / 2 = (c / 2 ^^^ P) ^^^ P := by rw [Nat.xor_assoc, Nat.xor_self, Nat.xor_zero]
      rw [h3, e, Nat.zero_xor]
    unfold P at e2; omega
theorem shN_ne (n c : Nat) (h : c < 4294967296) (e : c ≠ 0) : shN n c ≠ 0 := by induction n generalizing c with
  | zero => exact e
  | succ n ih => exact ih _ (sh_lt c h) (fun h0 => e (sh_inj0 c h h0))
/-- shN k (2^k * a) = a for k up to 32 shifts: low bits zero -/
theorem sh_even (a : Nat) : sh (2 * a) = a := by unfold sh; simp
theorem shN_pow (k a : Nat) : shN k (2 ^ k * a) = a := by induction k generalizing a with
  | zero => simp [shN]
  | succ k ih => rw [shN, Nat.pow_succ, Nat.mul_comm (2 ^ k) 2, Nat.mul_assoc, sh_even, ih]
theorem shN_low (k c : Nat) : shN k c = c / 2 ^ k ^^^ shN k (c % 2 ^ k) := by
  have h : c = (2 ^ k * (c / 2 ^ k)) ^^^ (c % 2 ^ k) := by
    have h1 := Nat.div_add_mod c (2 ^ k)
    have h2 := Nat.two_pow_add_eq_or_of_lt (Nat.mod_lt c (Nat.two_pow_pos k)) (c / 2 ^ k)
    apply Nat.eq_of_testBit_eq
    intro i
    rw [Nat.testBit_xor, Nat.testBit_two_pow_mul, Nat.testBit_mod_two_pow, Nat.testBit_div_two_pow]
    by_cases hi : i < k
    · have : ¬ k ≤ i := by omega
      simp [hi, this]
    · have : k ≤ i := by omega
      simp [hi, this]
  conv => lhs; rw [h]
  rw [shN_xor, shN_pow]
/-- the polynomial 1 (bits turned round) -/
def one : Nat := 2147483648
theorem shN_one (i : Nat) (h : i ≤ 31) : shN i one = 2 ^ (31 - i) := by
  have e : one = 2 ^ i * 2 ^ (31 - i) := by
    rw [← Nat.pow_add, show i + (31 - i) = 31 by omega]; rfl
  rw [e, shN_pow]
def pr (a b : Nat) : Nat → Nat
  | 0 => 0
  | i + 1 => pr a b i ^^^ (if a.testBit (31 - i) then shN i b else 0)
theorem shN_ite (n : Nat) (c : Bool) (x : Nat) : shN n (if c then x else 0) = if c then shN n x else 0 := by
  cases c <;> simp [shN_zero]
theorem shN_comm (n m c : Nat) : shN n (shN m c) = shN m (shN n c) := by
  rw [← shN_add, ← shN_add, Nat.add_comm]
theorem pr_shN (a b n k : Nat) : pr a (shN n b) k = shN n (pr a b k) := by induction k with
  | zero => exact (shN_zero n).symm
  | succ k ih => rw [pr, pr, ih, shN_xor, shN_ite, shN_comm]
theorem pr_zero (a k : Nat) : pr a 0 k = 0 := by induction k with
  | zero => rfl
  | succ k ih => rw [pr, ih, shN_zero]; simp
theorem xor4 (a b c d : Nat) : (a ^^^ b) ^^^ (c ^^^ d) = (a ^^^ c) ^^^ (b ^^^ d) := by
  rw [Nat.xor_assoc, Nat.xor_assoc]; congr 1; rw [← Nat.xor_assoc, ← Nat.xor_assoc, Nat.xor_comm b c]
theorem pr_xor (a b c k : Nat) : pr a (b ^^^ c) k = pr a b k ^^^ pr a c k := by induction k with
  | zero => simp [pr]
  | succ k ih =>
    rw [pr, pr, pr, ih, shN_xor]
    by_cases h : a.testBit (31 - k)
    · simp only [h, if_true]; rw [xor4]
    · simp [h]
theorem pr_pr (a b c k : Nat) : pr a (pr b c k) 32 = pr b (pr a c 32) k := by induction k with
  | zero => exact pr_zero a 32
  | succ k ih =>
    have e1 : pr b c (k + 1) = pr b c k ^^^ (if b.testBit (31 - k) then shN k c else 0) := rfl
    have e2 : pr b (pr a c 32) (k + 1) = pr b (pr a c 32) k ^^^ (if b.testBit (31 - k) then shN k (pr a c 32) else 0) := rfl
    rw [e1, e2, pr_xor, ih, ← pr_shN]
    by_cases h : b.testBit (31 - k)
    · simp only [h, if_true]
    · simp [h, pr_zero]
theorem pr_one_bit (a k j : Nat) (hk : k ≤ 32) : (pr a one k).testBit j = (decide (32 - k ≤ j) && decide (j < 32) && a.testBit j) := by
  induction k with
  | zero =>
    rw [pr, Nat.zero_testBit]
    by_cases h : j < 32
    · have : ¬ 32 - 0 ≤ j := by omega
      simp [this]
    · simp [h]
  | succ k ih =>
    rw [pr, Nat.testBit_xor, ih (by omega), shN_one k (by omega)]
    by_cases h : j = 31 - k
    · subst h
      have h1 : ¬ 32 - k ≤ 31 - k := by omega
      have h3 : 31 - k < 32 := by omega
      by_cases hb : a.testBit (31 - k)
      · simp [h1, h3, hb]
      · simp [h1, h3, hb]
    · have h2 : (2 ^ (31 - k)).testBit j = false := by
        rw [Nat.testBit_two_pow]; simp; omega
      have h3 : (if a.testBit (31 - k) then 2 ^ (31 - k) else 0).testBit j = false := by
        split
        · exact h2
        · exact Nat.zero_testBit j
      rw [h3, Bool.xor_false]
      have : (32 - k ≤ j) ↔ (32 - (k + 1) ≤ j) := by omega
      simp only [this]
theorem pr_one (a : Nat) (h : a < 4294967296) : pr a one 32 = a := by
  apply Nat.eq_of_testBit_eq
  intro j
  rw [pr_one_bit a 32 j (Nat.le_refl _)]
  by_cases hj : j < 32
  · simp [hj]
  · have : a.testBit j = false := by
      apply Nat.testBit_lt_two_pow
      exact Nat.lt_of_lt_of_le h (Nat.pow_le_pow_right (n := 2) (by decide) (by omega : 32 ≤ j))
    simp [this]
theorem one_lt : one < 4294967296 := by decide
/-- times (x^p) b = x^p b -/
theorem pr_power (p b : Nat) (h : b < 4294967296) : pr (shN p one) b 32 = shN p b := by
  have e : b = pr b one 32 := (pr_one b h).symm
  conv => lhs; rw [e]
  rw [pr_pr, pr_one _ (shN_lt p one one_lt), pr_shN, pr_one b h]
theorem pr_lt (a b k : Nat) (h : b < 4294967296) : pr a b k < 4294967296 := by induction k with
  | zero => exact (by decide : 0 < 4294967296)
  | succ k ih =>
    rw [pr]
    refine Nat.xor_lt_two_pow (n := 32) ih ?_
    split
    · exact shN_lt k b h
    · decide
/-! bytes as one number -/
def val : List Nat → Nat
  | [] => 0
  | x :: r => x ^^^ 256 * val r
def upd (c : Nat) : List Nat → Nat
  | [] => c
  | x :: r => upd (shN 8 (c ^^^ x)) r
theorem upd_val (c : Nat) (l : List Nat) : upd c l = shN (8 * l.length) (c ^^^ val l) := by
  induction l generalizing c with
  | nil => simp [upd, val, shN]
  | cons x r ih =>
    rw [upd, ih, val, List.length_cons, show 8 * (r.length + 1) = 8 * r.length + 8 by omega, shN_add, ← Nat.xor_assoc, shN_xor 8 (c ^^^ x) (256 * val r), show 256 * val r = 2 ^ 8 * val r from rfl, shN_pow]
theorem upd_append (c : Nat) (l m : List Nat) : upd c (l ++ m) = upd (upd c l) m := by
  induction l generalizing c with
  | nil => rfl
  | cons x r ih => rw [List.cons_append, upd, ih, upd]
theorem upd_lt (c : Nat) (l : List Nat) (h : c < 4294967296) (hl : ∀ x ∈ l, x < 256) : upd c l < 4294967296 := by
  induction l generalizing c with
  | nil => exact h
  | cons x r ih =>
    rw [upd]
    refine ih _ (shN_lt 8 _ (Nat.xor_lt_two_pow (n := 32) h ?_)) (fun y hy => hl y (List.mem_cons_of_mem _ hy))
    have := hl x List.mem_cons_self
    omega
/-- Go's Update -/
def update (s : Nat) (l : List Nat) : Nat := 4294967295 ^^^ upd (4294967295 ^^^ s) l
end Go.Proofs.Ytecmfpgccmmlpaa.Crc
