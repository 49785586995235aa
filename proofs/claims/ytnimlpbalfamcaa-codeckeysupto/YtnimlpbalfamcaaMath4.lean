/- keys' bytes stand as their parts do -/
import Derived.Test.YtnimlpbalfamcaaMath3
namespace Cod
/-- as bytes stand -/
def lt : List Nat → List Nat → Bool
  | _, [] => false
  | [], _ :: _ => true
  | x :: xs, y :: ys => decide (x < y) || (x == y && lt xs ys)
theorem lt_cons (x y : Nat) (xs ys : List Nat) : lt (x :: xs) (y :: ys) = (decide (x < y) || (x == y && lt xs ys)) := rfl
theorem lt_self (l : List Nat) : lt l l = false := by
  induction l with
  | nil => rfl
  | cons x t ih => rw [lt_cons, ih]; simp
theorem lt_pre (p l m : List Nat) : lt (p ++ l) (p ++ m) = lt l m := by
  induction p with
  | nil => rfl
  | cons x t ih => rw [List.cons_append, List.cons_append, lt_cons, ih]; simp
theorem lt_less {x y : Nat} (h : x < y) (xs ys : List Nat) : lt (x :: xs) (y :: ys) = true := by rw [lt_cons, decide_eq_true h]; rfl
theorem lt_asym (l : List Nat) : ∀ m, lt l m = true → lt m l = false := by
  induction l with
  | nil => intro m _; cases m <;> rfl
  | cons x t ih =>
    intro m h
    cases m with
    | nil => cases h
    | cons y s =>
      rw [lt_cons] at h ⊢
      simp only [Bool.or_eq_true, decide_eq_true_eq, Bool.and_eq_true, beq_iff_eq] at h
      rcases h with h | ⟨rfl, h⟩
      · simp; omega
      · simp [ih s h]
/-- unlike, whatever is behind -/
def sep (l m : List Nat) : Prop := ∀ r s, lt (l ++ r) (m ++ s) = true
theorem sep_head {x y : Nat} (h : x < y) (l m : List Nat) : sep (x :: l) (y :: m) := fun _ _ => lt_less h _ _
theorem sep_cons {x : Nat} {l m : List Nat} (h : sep l m) : sep (x :: l) (x :: m) := fun r s => by
  rw [List.cons_append, List.cons_append, lt_cons, h r s]; simp
theorem sep_pre {p l m : List Nat} (h : sep l m) : sep (p ++ l) (p ++ m) := by
  induction p with
  | nil => exact h
  | cons x t ih => exact sep_cons ih
theorem sep_be8 {n m : Nat} (hn : n < 18446744073709551616) (hm : m < 18446744073709551616) (h : n < m) : sep (be8 n) (be8 m) := by
  unfold be8
  have en : n = (n / 2 ^ 56 % 256) * 2 ^ 56 + (n / 2 ^ 48 % 256) * 2 ^ 48 + (n / 2 ^ 40 % 256) * 2 ^ 40 + (n / 2 ^ 32 % 256) * 2 ^ 32 + (n / 2 ^ 24 % 256) * 2 ^ 24 + (n / 2 ^ 16 % 256) * 2 ^ 16 + (n / 2 ^ 8 % 256) * 2 ^ 8 + n % 256 := by omega
  have em : m = (m / 2 ^ 56 % 256) * 2 ^ 56 + (m / 2 ^ 48 % 256) * 2 ^ 48 + (m / 2 ^ 40 % 256) * 2 ^ 40 + (m / 2 ^ 32 % 256) * 2 ^ 32 + (m / 2 ^ 24 % 256) * 2 ^ 24 + (m / 2 ^ 16 % 256) * 2 ^ 16 + (m / 2 ^ 8 % 256) * 2 ^ 8 + m % 256 := by omega
  have b : ∀ x : Nat, x % 256 < 256 := fun x => Nat.mod_lt _ (by decide)
  have b0 := b (n / 2 ^ 56); have b1 := b (n / 2 ^ 48); have b2 := b (n / 2 ^ 40); have b3 := b (n / 2 ^ 32); have b4 := b (n / 2 ^ 24); have b5 := b (n / 2 ^ 16); have b6 := b (n / 2 ^ 8); have b7 := b n
  have c0 := b (m / 2 ^ 56); have c1 := b (m / 2 ^ 48); have c2 := b (m / 2 ^ 40); have c3 := b (m / 2 ^ 32); have c4 := b (m / 2 ^ 24); have c5 := b (m / 2 ^ 16); have c6 := b (m / 2 ^ 8); have c7 := b m
  generalize n / 2 ^ 56 % 256 = x0 at *
  generalize n / 2 ^ 48 % 256 = x1 at *
  generalize n / 2 ^ 40 % 256 = x2 at *
  generalize n / 2 ^ 32 % 256 = x3 at *
  generalize n / 2 ^ 24 % 256 = x4 at *
  generalize n / 2 ^ 16 % 256 = x5 at *
  generalize n / 2 ^ 8 % 256 = x6 at *
  generalize n % 256 = x7 at *
  generalize m / 2 ^ 56 % 256 = y0 at *
  generalize m / 2 ^ 48 % 256 = y1 at *
  generalize m / 2 ^ 40 % 256 = y2 at *
  generalize m / 2 ^ 32 % 256 = y3 at *
  generalize m / 2 ^ 24 % 256 = y4 at *
  generalize m / 2 ^ 16 % 256 = y5 at *
  generalize m / 2 ^ 8 % 256 = y6 at *
  generalize m % 256 = y7 at *
  rcases Nat.lt_trichotomy x0 y0 with g | g | g
  · exact sep_head g _ _
  · subst g; refine sep_cons ?_
    rcases Nat.lt_trichotomy x1 y1 with g | g | g
    · exact sep_head g _ _
    · subst g; refine sep_cons ?_
      rcases Nat.lt_trichotomy x2 y2 with g | g | g
      · exact sep_head g _ _
      · subst g; refine sep_cons ?_
        rcases Nat.lt_trichotomy x3 y3 with g | g | g
        · exact sep_head g _ _
        · subst g; refine sep_cons ?_
          rcases Nat.lt_trichotomy x4 y4 with g | g | g
          · exact sep_head g _ _
          · subst g; refine sep_cons ?_
            rcases Nat.lt_trichotomy x5 y5 with g | g | g
            · exact sep_head g _ _
            · subst g; refine sep_cons ?_
              rcases Nat.lt_trichotomy x6 y6 with g | g | g
              · exact sep_head g _ _
              · subst g; refine sep_cons ?_
                exact sep_head (by omega) _ _
              · omega
            · omega
          · omega
        · omega
      · omega
    · omega
  · omega
theorem sep_esc (s : List Nat) : ∀ t, lt s t = true → sep (esc s ++ [0, 1]) (esc t ++ [0, 1]) := by
  induction s with
  | nil =>
    intro t h
    cases t with
    | nil => cases h
    | cons y t =>
      by_cases hy : y = 0
      · subst hy; exact sep_cons (sep_head (by decide) _ _)
      · simp only [esc, hy, if_false]; exact sep_head (by omega) _ _
  | cons x s ih =>
    intro t h
    cases t with
    | nil => cases h
    | cons y t =>
      rw [lt_cons] at h
      simp only [Bool.or_eq_true, decide_eq_true_eq, Bool.and_eq_true, beq_iff_eq] at h
      rcases h with h | ⟨rfl, h⟩
      · have hy : y ≠ 0 := by omega
        by_cases hx : x = 0
        · subst hx; simp only [esc, hy, if_false, if_true]; exact sep_head h _ _
        · simp only [esc, hy, hx, if_false]; exact sep_head h _ _
      · have := ih t h
        simp only [esc]
        rw [List.append_assoc, List.append_assoc]
        exact sep_pre this
/-- how a part stands to another one: below, the same, above -/
def below (p q : Part) : Bool := decide (p.k < q.k) || (p.k == q.k && (decide (p.n < q.n) || lt p.s q.s))
theorem lt_total (l : List Nat) : ∀ m, lt l m = false → lt m l = false → l = m := by
  induction l with
  | nil => intro m h _; cases m with
    | nil => rfl
    | cons y t => cases h
  | cons x s ih =>
    intro m h1 h2
    cases m with
    | nil => cases h2
    | cons y t =>
      rw [lt_cons] at h1 h2
      simp only [Bool.or_eq_false_iff, decide_eq_false_iff_not] at h1 h2
      obtain rfl : x = y := by omega
      have h3 : lt s t = false := by simpa using h1.2
      have h4 : lt t s = false := by simpa using h2.2
      rw [ih t h3 h4]
theorem isPart_cases {p : Part} (h : isPart p = true) : (p.k = 1 ∧ p.s = []) ∨ (p.k = 2 ∧ p.n = 0) := by
  simp only [isPart, Bool.or_eq_true, Bool.and_eq_true, beq_iff_eq, List.isEmpty_iff] at h
  exact h
theorem sep_part {p q : Part} (hp : okP p) (hq : okP q) (ip : isPart p = true) (iq : isPart q = true) (h : below p q = true) : sep (partB p) (partB q) := by
  simp only [below, Bool.or_eq_true, decide_eq_true_eq, Bool.and_eq_true, beq_iff_eq] at h
  unfold partB
  rcases isPart_cases ip with ⟨k1, s1⟩ | ⟨k1, n1⟩ <;> rcases isPart_cases iq with ⟨k2, s2⟩ | ⟨k2, n2⟩
  · rw [if_pos k1, if_pos k2]
    rw [s1, s2] at h
    refine sep_cons (sep_be8 hp.2.1 hq.2.1 ?_)
    rcases h with h | ⟨_, h | h⟩
    · omega
    · exact h
    · cases h
  · rw [if_pos k1, if_neg (by omega)]; exact sep_head (by decide) _ _
  · omega
  · rw [if_neg (by omega), if_neg (by omega)]
    refine sep_cons (sep_esc _ _ ?_)
    rcases h with h | ⟨_, h | h⟩
    · omega
    · omega
    · exact h
theorem below_total {p q : Part} (ip : isPart p = true) (iq : isPart q = true) (h1 : below p q = false) (h2 : below q p = false) : p = q := by
  simp only [below, Bool.or_eq_false_iff, decide_eq_false_iff_not] at h1 h2
  have hk : p.k = q.k := by omega
  have e1 : (p.k == q.k) = true := by simp [hk]
  have e2 : (q.k == p.k) = true := by simp [hk]
  rw [e1] at h1
  rw [e2] at h2
  simp only [Bool.true_and, Bool.or_eq_false_iff, decide_eq_false_iff_not] at h1 h2
  have hn : p.n = q.n := by omega
  have hs := lt_total p.s q.s h1.2.2 h2.2.2
  cases p; cases q; simp_all
/-- how parts stand to one another, as the statement reckons it -/
def ord : List Part → List Part → Int
  | [], [] => 0
  | [], _ :: _ => -1
  | _ :: _, [] => 1
  | p :: a, q :: b => if below p q then -1 else if below q p then 1 else ord a b
theorem partB_ne (p : Part) : partB p ≠ [] := by unfold partB; split <;> simp
theorem keyB_cons (p : Part) (a : List Part) : keyB (p :: a) = partB p ++ keyB a := by simp [keyB]
theorem key_sign (a : List Part) : ∀ b, (∀ p ∈ a, okP p ∧ isPart p = true) → (∀ p ∈ b, okP p ∧ isPart p = true) →
    (if lt (keyB a) (keyB b) then -1 else if keyB a = keyB b then 0 else 1) = ord a b := by
  induction a with
  | nil =>
    intro b _ _
    cases b with
    | nil => rfl
    | cons q b =>
      rw [keyB_cons]
      have hne := partB_ne q
      cases hq : partB q with
      | nil => exact absurd hq hne
      | cons x t => simp [ord, keyB, lt]
  | cons p a ih =>
    intro b ha hb
    cases b with
    | nil =>
      rw [keyB_cons]
      have hne := partB_ne p
      cases hq : partB p with
      | nil => exact absurd hq hne
      | cons x t => simp [ord, keyB, lt]
    | cons q b =>
      obtain ⟨o1, i1⟩ := ha p (by simp)
      obtain ⟨o2, i2⟩ := hb q (by simp)
      rw [keyB_cons, keyB_cons, ord]
      by_cases h1 : below p q = true
      · rw [if_pos h1, if_pos (sep_part o1 o2 i1 i2 h1 _ _)]
      · rw [if_neg h1]
        by_cases h2 : below q p = true
        · have h3 := sep_part o2 o1 i2 i1 h2 (keyB b) (keyB a)
          have h4 := lt_asym _ _ h3
          rw [if_pos h2, h4, if_neg (by decide), if_neg]
          intro h5
          rw [h5, lt_self] at h3
          cases h3
        · rw [if_neg h2]
          obtain rfl := below_total i1 i2 (by simpa using h1) (by simpa using h2)
          rw [lt_pre, ← ih b (fun x hx => ha x (by simp [hx])) (fun x hx => hb x (by simp [hx]))]
          have : (partB p ++ keyB a = partB p ++ keyB b) ↔ keyB a = keyB b := ⟨fun h => List.append_cancel_left h, fun h => by rw [h]⟩
          simp only [this]
theorem key_pre (a : List Part) : ∀ b s, (∀ p ∈ a, okP p ∧ isPart p = true) → (∀ p ∈ b, okP p ∧ isPart p = true) → a.length = b.length → keyB b = keyB a ++ s → s = [] := by
  induction a with
  | nil =>
    intro b s _ _ hl h
    cases b with
    | nil => simpa [keyB] using h.symm
    | cons _ _ => simp at hl
  | cons p a ih =>
    intro b s ha hb hl h
    cases b with
    | nil => simp at hl
    | cons q b =>
      obtain ⟨o1, i1⟩ := ha p (by simp)
      obtain ⟨o2, i2⟩ := hb q (by simp)
      rw [keyB_cons, keyB_cons, List.append_assoc] at h
      by_cases h1 : below p q = true
      · have := sep_part o1 o2 i1 i2 h1 (keyB a ++ s) (keyB b)
        rw [← h, lt_self] at this
        cases this
      · by_cases h2 : below q p = true
        · have := sep_part o2 o1 i2 i1 h2 (keyB b) (keyB a ++ s)
          rw [← h, lt_self] at this
          cases this
        · obtain rfl := below_total i1 i2 (by simpa using h1) (by simpa using h2)
          exact ih b s (fun x hx => ha x (by simp [hx])) (fun x hx => hb x (by simp [hx])) (by simpa using hl) (List.append_cancel_left h)
end Cod
