/- how keys are read, as lists -/
import Derived.Test.YtnimlpbalfamcaaMath4
namespace Cod
/-- bytes as a number, the highest one first, behind n -/
def be (n : Nat) (l : List Nat) : Nat := l.foldl (fun m b => m * 256 + b) n
theorem be_be8 {n : Nat} (h : n < 18446744073709551616) : be 0 (be8 n) = n := by
  simp only [be, be8, List.foldl_cons, List.foldl_nil]; omega
theorem be_lt (l : List Nat) : ∀ n k, (∀ x ∈ l, x < 256) → n < 256 ^ k → be n l < 256 ^ (k + l.length) := by
  induction l with
  | nil => intro n k _ h; simpa [be] using h
  | cons x t ih =>
    intro n k hx h
    have := ih (n * 256 + x) (k + 1) (fun y hy => hx y (by simp [hy])) (by have := hx x (by simp); rw [Nat.pow_succ]; omega)
    rw [List.length_cons, show k + (t.length + 1) = k + 1 + t.length by omega]
    exact this
theorem be8_be {l : List Nat} (hl : l.length = 8) (hx : ∀ x ∈ l, x < 256) : be8 (be 0 l) = l := by
  match l, hl with
  | [a, b, c, d, e, f, g, h], _ =>
    simp only [List.mem_cons, List.not_mem_nil, or_false, forall_eq_or_imp, forall_eq] at hx
    obtain ⟨h1, h2, h3, h4, h5, h6, h7, h8⟩ := hx
    simp only [be, be8, List.foldl_cons, List.foldl_nil, List.cons.injEq, and_true]
    refine ⟨?_, ?_, ?_, ?_, ?_, ?_, ?_, ?_⟩ <;> omega
/-- the bytes of a text part, behind acc -/
def rdEsc : List Nat → List Nat → Option (List Nat × List Nat)
  | [], _ => none
  | [x], acc => if x = 0 then none else rdEsc [] (acc ++ [x])
  | x :: y :: t, acc => if x = 0 then (if y = 1 then some (acc, t) else if y = 255 then rdEsc t (acc ++ [0]) else none) else rdEsc (y :: t) (acc ++ [x])
theorem rdEsc_nil (acc : List Nat) : rdEsc [] acc = none := by rw [rdEsc]
theorem rdEsc_one (x : Nat) (acc : List Nat) : rdEsc [x] acc = none := by rw [rdEsc]; split <;> simp [rdEsc]
theorem rdEsc_cons {x : Nat} (h : x ≠ 0) (t acc : List Nat) : rdEsc (x :: t) acc = rdEsc t (acc ++ [x]) := by
  cases t with
  | nil => rw [rdEsc_one, rdEsc_nil]
  | cons y t => rw [rdEsc, if_neg h]
theorem rdEsc_zero (y : Nat) (t acc : List Nat) : rdEsc (0 :: y :: t) acc = if y = 1 then some (acc, t) else if y = 255 then rdEsc t (acc ++ [0]) else none := by rw [rdEsc, if_pos rfl]
theorem rdEsc_esc (s : List Nat) : ∀ acc r, rdEsc (esc s ++ 0 :: 1 :: r) acc = some (acc ++ s, r) := by
  induction s with
  | nil => intro acc r; simp [esc, rdEsc_zero]
  | cons x t ih =>
    intro acc r
    by_cases h : x = 0
    · subst h; simp only [esc, if_true, List.cons_append, List.nil_append, rdEsc_zero]; rw [if_neg (by decide), ih]; simp
    · simp only [esc, h, if_false, List.cons_append, List.nil_append]; rw [rdEsc_cons h, ih]; simp
theorem rdEsc_ok (n : Nat) : ∀ l acc s r, l.length ≤ n → rdEsc l acc = some (s, r) → ∃ t, s = acc ++ t ∧ l = esc t ++ 0 :: 1 :: r := by
  induction n with
  | zero =>
    intro l acc s r hl h
    obtain rfl : l = [] := List.length_eq_zero_iff.1 (by omega)
    rw [rdEsc_nil] at h; cases h
  | succ n ih =>
    intro l acc s r hl h
    match l, hl, h with
    | [], _, h => rw [rdEsc_nil] at h; cases h
    | [x], _, h => rw [rdEsc_one] at h; cases h
    | x :: y :: t, hl, h =>
      by_cases hx : x = 0
      · subst hx
        rw [rdEsc_zero] at h
        split at h
        · rename_i hy
          subst hy
          cases h
          exact ⟨[], by simp, by simp [esc]⟩
        · split at h
          · rename_i hy
            subst hy
            obtain ⟨u, h1, h2⟩ := ih t _ s r (by simp at hl; omega) h
            exact ⟨0 :: u, by rw [h1]; simp, by rw [h2]; simp [esc]⟩
          · cases h
      · rw [rdEsc_cons hx] at h
        obtain ⟨u, h1, h2⟩ := ih (y :: t) _ s r (by simp at hl ⊢; omega) h
        exact ⟨x :: u, by rw [h1]; simp, by rw [h2]; simp [esc, hx]⟩
def rdPart : List Nat → Option (Part × List Nat)
  | [] => none
  | x :: t => if x = 1 then (if t.length < 8 then none else some (⟨1, be 0 (t.take 8), []⟩, t.drop 8))
    else if x = 2 then (rdEsc t []).map (fun y => (⟨2, 0, y.1⟩, y.2)) else none
theorem rdPart_part {p : Part} (hp : okP p) (ip : isPart p = true) (r : List Nat) : rdPart (partB p ++ r) = some (p, r) := by
  obtain ⟨k, n, s⟩ := p
  rcases isPart_cases ip with ⟨h1, h2⟩ | ⟨h1, h2⟩
  · simp only at h1 h2
    subst h1 h2
    have h8 : (be8 n).length = 8 := by simp [be8]
    simp only [partB, if_true, List.cons_append, rdPart]
    rw [if_neg (by simp [h8]), List.take_left' h8, List.drop_left' h8, be_be8 hp.2.1]
  · simp only at h1 h2
    subst h1 h2
    have e : partB ⟨2, 0, s⟩ ++ r = 2 :: (esc s ++ 0 :: 1 :: r) := by simp [partB]
    rw [e]
    simp [rdPart, rdEsc_esc]
theorem rdPart_ok {l r : List Nat} {p : Part} (hx : ∀ x ∈ l, x < 256) (h : rdPart l = some (p, r)) : l = partB p ++ r ∧ okP p ∧ isPart p = true := by
  cases l with
  | nil => cases h
  | cons x t =>
    rw [rdPart] at h
    have hxt : ∀ x ∈ t, x < 256 := fun y hy => hx y (by simp [hy])
    split at h
    · rename_i h1
      subst h1
      split at h
      · cases h
      · rename_i h8
        simp only [Option.some.injEq, Prod.mk.injEq] at h
        obtain ⟨rfl, rfl⟩ := h
        have hl : (t.take 8).length = 8 := by simp; omega
        have hm : ∀ x ∈ t.take 8, x < 256 := fun y hy => hxt y (List.mem_of_mem_take hy)
        refine ⟨?_, ⟨by simp, ?_, by simp⟩, by simp [isPart]⟩
        · simp only [partB, if_true]
          rw [be8_be hl hm]
          simp
        · have := be_lt (t.take 8) 0 0 hm (by decide)
          rw [hl] at this
          simpa using this
    · split at h
      · rename_i h1
        subst h1
        cases he : rdEsc t [] with
        | none => rw [he] at h; cases h
        | some y =>
          obtain ⟨s, r'⟩ := y
          rw [he] at h
          simp only [Option.map_some, Option.some.injEq, Prod.mk.injEq] at h
          obtain ⟨rfl, rfl⟩ := h
          obtain ⟨u, h1, h2⟩ := rdEsc_ok _ t [] s r' (Nat.le_refl _) he
          simp only [List.nil_append] at h1
          subst h1
          refine ⟨by rw [h2]; simp [partB], ⟨by simp, by simp, ?_⟩, by simp [isPart]⟩
          intro x hx'
          have hes : ∀ s : List Nat, (∀ y ∈ esc s, y < 256) → ∀ y ∈ s, y < 256 := by
            intro s
            induction s with
            | nil => simp
            | cons z s ih =>
              intro h y hy
              rcases List.mem_cons.1 hy with rfl | hy
              · by_cases hz : y = 0
                · omega
                · exact h y (by simp [esc, hz])
              · exact ih (fun y hy => h y (by simp [esc, hy])) y hy
          exact hes s (fun y hy => hxt y (by rw [h2]; simp [hy])) x hx'
      · cases h
theorem rdPart_short {l r : List Nat} {p : Part} (h : rdPart l = some (p, r)) : r.length < l.length := by
  cases l with
  | nil => cases h
  | cons x t =>
    rw [rdPart] at h
    split at h
    · split at h
      · cases h
      · simp only [Option.some.injEq, Prod.mk.injEq] at h
        obtain ⟨_, rfl⟩ := h
        simp; omega
    · split at h
      · cases he : rdEsc t [] with
        | none => rw [he] at h; cases h
        | some y =>
          obtain ⟨s, r'⟩ := y
          rw [he] at h
          simp only [Option.map_some, Option.some.injEq, Prod.mk.injEq] at h
          obtain ⟨_, rfl⟩ := h
          obtain ⟨u, _, h2⟩ := rdEsc_ok _ t [] s r' (Nat.le_refl _) he
          rw [h2]; simp; omega
      · cases h
/-- parts behind acc, n at most -/
def rdParts : Nat → List Nat → List Part → Option (List Part)
  | _, [], acc => some acc
  | 0, _ :: _, _ => none
  | n + 1, x :: t, acc => match rdPart (x :: t) with
    | none => none
    | some (p, r) => rdParts n r (acc ++ [p])
theorem rdParts_nil (n : Nat) (acc : List Part) : rdParts n [] acc = some acc := by cases n <;> rw [rdParts]
theorem rdParts_more (n : Nat) : ∀ l acc, l.length ≤ n → rdParts n l acc = rdParts l.length l acc := by
  induction n using Nat.strongRecOn with
  | ind n ih =>
    intro l acc hl
    cases l with
    | nil => rw [rdParts_nil, rdParts_nil]
    | cons x t =>
      match n, hl with
      | n + 1, hl =>
        rw [List.length_cons, rdParts, rdParts]
        split
        · rfl
        · rename_i p r hp
          have := rdPart_short hp
          simp at this hl
          rw [ih n (by omega) r _ (by omega), ih t.length (by omega) r _ (by omega)]
def rdAll (l : List Nat) (acc : List Part) : Option (List Part) := rdParts l.length l acc
theorem rdAll_nil (acc : List Part) : rdAll [] acc = some acc := rfl
theorem rdAll_no {l : List Nat} (h : l ≠ []) (hp : rdPart l = none) (acc : List Part) : rdAll l acc = none := by
  cases l with
  | nil => exact absurd rfl h
  | cons x t => rw [rdAll, List.length_cons, rdParts, hp]
theorem rdAll_step {l r : List Nat} {p : Part} (hp : rdPart l = some (p, r)) (acc : List Part) : rdAll l acc = rdAll r (acc ++ [p]) := by
  cases l with
  | nil => cases hp
  | cons x t =>
    rw [rdAll, List.length_cons, rdParts, hp]
    have := rdPart_short hp
    simp at this
    exact rdParts_more _ r _ (by omega)
theorem rdAll_key (ps : List Part) : ∀ acc, (∀ p ∈ ps, okP p ∧ isPart p = true) → rdAll (keyB ps) acc = some (acc ++ ps) := by
  induction ps with
  | nil => intro acc _; simp [keyB, rdAll_nil]
  | cons p t ih =>
    intro acc h
    rw [keyB_cons, rdAll_step (rdPart_part (h p (by simp)).1 (h p (by simp)).2 _), ih _ (fun q hq => h q (by simp [hq]))]
    simp
theorem rdAll_ok (n : Nat) : ∀ l acc qs, l.length ≤ n → (∀ x ∈ l, x < 256) → rdAll l acc = some qs → ∃ t, qs = acc ++ t ∧ l = keyB t ∧ ∀ p ∈ t, okP p ∧ isPart p = true := by
  induction n with
  | zero =>
    intro l acc qs hl _ h
    obtain rfl : l = [] := List.length_eq_zero_iff.1 (by omega)
    rw [rdAll_nil] at h
    cases h
    exact ⟨[], by simp, by simp [keyB], by simp⟩
  | succ n ih =>
    intro l acc qs hl hx h
    by_cases h0 : l = []
    · subst h0
      rw [rdAll_nil] at h
      cases h
      exact ⟨[], by simp, by simp [keyB], by simp⟩
    · cases hp : rdPart l with
      | none => rw [rdAll_no h0 hp] at h; cases h
      | some y =>
        obtain ⟨p, r⟩ := y
        rw [rdAll_step hp] at h
        have hs := rdPart_short hp
        obtain ⟨h1, h2, h3⟩ := rdPart_ok hx hp
        obtain ⟨t, h4, h5, h6⟩ := ih r _ qs (by omega) (fun x hx' => hx x (by rw [h1]; simp [hx'])) h
        refine ⟨p :: t, by rw [h4]; simp, by rw [h1, h5, keyB_cons], ?_⟩
        intro q hq
        rcases List.mem_cons.1 hq with rfl | hq
        · exact ⟨h2, h3⟩
        · exact h6 q hq
/-- reading a key -/
def rdKey (l : List Nat) : Except Nat (List Part) :=
  if 256 < l.length then .error 4 else match rdAll l [] with
    | none => .error 6
    | some ps => if 16 < ps.length then .error 3 else .ok ps
theorem rdKey_key {ps : List Part} {l : List Nat} (ok : ∀ p ∈ ps, okP p) (h : key ps = .ok l) : rdKey l = .ok ps := by
  unfold key at h
  split at h
  · cases h
  · rename_i h16
    split at h
    · cases h
    · rename_i ha
      split at h
      · cases h
      · rename_i hl
        cases h
        have ha' : ∀ p ∈ ps, isPart p = true := by simpa using ha
        unfold rdKey
        rw [if_neg hl, rdAll_key ps [] (fun p hp => ⟨ok p hp, ha' p hp⟩)]
        simp only [List.nil_append]
        rw [if_neg h16]
theorem rdKey_ok {ps : List Part} {l : List Nat} (hx : ∀ x ∈ l, x < 256) (h : rdKey l = .ok ps) : key ps = .ok l ∧ l = keyB ps ∧ ∀ p ∈ ps, okP p ∧ p.s.length ≤ 256 := by
  unfold rdKey at h
  split at h
  · cases h
  · rename_i hl
    split at h
    · cases h
    · rename_i qs hq
      split at h
      · cases h
      · rename_i h16
        cases h
        obtain ⟨t, h1, h2, h3⟩ := rdAll_ok _ l [] ps (Nat.le_refl _) hx hq
        simp only [List.nil_append] at h1
        subst h1
        have ha : ps.all isPart = true := by simpa using fun p hp => (h3 p hp).2
        refine ⟨?_, h2, fun p hp => ⟨(h3 p hp).1, ?_⟩⟩
        · unfold key
          rw [if_neg h16, ha, if_neg (by decide), if_neg (by rw [← h2]; exact hl), h2]
        · have hpl : (partB p).length ≤ (keyB ps).length := by
            obtain ⟨a, b, rfl⟩ := List.append_of_mem hp
            rw [keyB_append, keyB_cons]; simp; omega
          rcases isPart_cases (h3 p hp).2 with ⟨_, e⟩ | ⟨e, _⟩
          · rw [e]; simp
          · have hb : partB p = 2 :: (esc p.s ++ [0, 1]) := by simp [partB, e]
            have he : ∀ s : List Nat, s.length ≤ (esc s).length := by
              intro s
              induction s with
              | nil => simp
              | cons x s ih => simp only [esc, List.length_append, List.length_cons]; split <;> simp <;> omega
            have := he p.s
            rw [hb] at hpl
            rw [h2] at hl
            simp at hpl
            omega
end Cod
