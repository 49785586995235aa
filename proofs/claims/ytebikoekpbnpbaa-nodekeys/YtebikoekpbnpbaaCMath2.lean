/- what the bytes of texts, entries and keys are, as lists; there and back -/
import Derived.Test.YtebikoekpbnpbaaCMath
namespace Cod
theorem num_len (n : Nat) : ∀ k, n < 128 ^ k → 0 < k → (num n).length ≤ k := by
  induction n using Nat.strongRecOn with
  | ind n ih =>
    intro k hn hk
    by_cases h : n < 128
    · rw [num_small h]; simp; omega
    · rw [num_great (by omega), List.length_cons]
      match k, hk with
      | 1, _ => simp at hn; omega
      | k + 2, _ =>
        have : (num (n / 128)).length ≤ k + 1 := ih (n / 128) (by omega) (k + 1) (by rw [Nat.pow_succ] at hn; omega) (by omega)
        omega
theorem num_len10 {n : Nat} (h : n < 18446744073709551616) : (num n).length ≤ 10 := num_len n 10 (Nat.lt_of_lt_of_le h (by decide)) (by omega)
theorem text_lt {s : List Nat} (h : ∀ x ∈ s, x < 256) : ∀ x ∈ text s, x < 256 := by
  intro x hx
  rcases List.mem_append.1 hx with hx | hx
  · exact num_lt _ x hx
  · exact h x hx
theorem rdText_text {most : Nat} {s : List Nat} (hm : s.length ≤ most) (hs : s.length < 18446744073709551616) (r : List Nat) : rdText most (text s ++ r) = .ok (s, r) := by
  unfold rdText text
  rw [List.append_assoc, rdNum_num hs]
  simp only
  rw [if_neg (by omega), if_neg (by simp)]
  simp
theorem rdText_long {most : Nat} {s : List Nat} (hm : most < s.length) (hs : s.length < 18446744073709551616) (r : List Nat) : rdText most (text s ++ r) = .error 4 := by
  unfold rdText text
  rw [List.append_assoc, rdNum_num hs]
  simp only
  rw [if_pos hm]
theorem rdText_ok {most : Nat} {l s r : List Nat} (hx : ∀ x ∈ l, x < 256) (h : rdText most l = .ok (s, r)) : l = text s ++ r ∧ s.length ≤ most ∧ s.length < 18446744073709551616 := by
  unfold rdText at h
  split at h
  · cases h
  · rename_i n t hn
    obtain ⟨hl, hb⟩ := rdNum_some hx hn
    split at h
    · cases h
    · split at h
      · cases h
      · simp only [Except.ok.injEq, Prod.mk.injEq] at h
        obtain ⟨rfl, rfl⟩ := h
        have e : (t.take n).length = n := by simp; omega
        refine ⟨?_, by omega, by omega⟩
        unfold text
        rw [e, List.append_assoc, List.take_append_drop, hl]
/-- an entry: its key, its value -/
abbrev Ent := List Nat × List Nat
def entB (e : Ent) : List Nat := text e.1 ++ text e.2
def entsB (l : List Ent) : List Nat := l.flatMap entB
def entries (l : List Ent) : Except Nat (List Nat) :=
  if 4096 < l.length then .error 3 else if l.any (fun e => decide (256 < e.1.length ∨ 512 < e.2.length)) then .error 4 else .ok (num l.length ++ entsB l)
def rdEnt (l : List Nat) : Except Nat (Ent × List Nat) :=
  match rdText 256 l with
  | .error e => .error e
  | .ok (k, r) => match rdText 512 r with
    | .error e => .error e
    | .ok (v, r) => .ok ((k, v), r)
/-- n more entries, behind those of acc -/
def rdEnts : Nat → List Nat → List Ent → Except Nat (List Ent × List Nat)
  | 0, l, acc => .ok (acc, l)
  | n + 1, l, acc => match rdEnt l with
    | .error e => .error e
    | .ok (e, r) => rdEnts n r (acc ++ [e])
def rdEntries (l : List Nat) : Except Nat (List Ent) :=
  match rdNum l with
  | none => .error 6
  | some (n, r) => if 4096 < n then .error 3 else match rdEnts n r [] with
    | .error e => .error e
    | .ok (es, r) => if r.length = 0 then .ok es else .error 6
def fits (e : Ent) : Prop := e.1.length ≤ 256 ∧ e.2.length ≤ 512
theorem rdEnt_ent {e : Ent} (h : fits e) (r : List Nat) : rdEnt (entB e ++ r) = .ok (e, r) := by
  unfold rdEnt entB
  rw [List.append_assoc, rdText_text h.1 (by have := h.1; omega)]
  simp only
  rw [rdText_text h.2 (by have := h.2; omega)]
theorem rdEnt_ok {l r : List Nat} {e : Ent} (hx : ∀ x ∈ l, x < 256) (h : rdEnt l = .ok (e, r)) : l = entB e ++ r ∧ fits e := by
  unfold rdEnt at h
  split at h
  · cases h
  · rename_i k r1 hk
    obtain ⟨h1, h2, _⟩ := rdText_ok hx hk
    have hx1 : ∀ x ∈ r1, x < 256 := fun x hx' => hx x (by rw [h1]; simp [hx'])
    split at h
    · cases h
    · rename_i v r2 hv
      obtain ⟨h3, h4, _⟩ := rdText_ok hx1 hv
      simp only [Except.ok.injEq, Prod.mk.injEq] at h
      obtain ⟨rfl, rfl⟩ := h
      exact ⟨by rw [h1, h3]; simp [entB], h2, h4⟩
theorem rdEnts_ents (es : List Ent) : ∀ (acc : List Ent) (r : List Nat), (∀ e ∈ es, fits e) → rdEnts es.length (entsB es ++ r) acc = .ok (acc ++ es, r) := by
  induction es with
  | nil => intro acc r _; simp [rdEnts, entsB]
  | cons e t ih =>
    intro acc r h
    rw [List.length_cons, rdEnts]
    have : entsB (e :: t) ++ r = entB e ++ (entsB t ++ r) := by simp [entsB]
    rw [this, rdEnt_ent (h e (by simp))]
    simp only
    rw [ih (acc ++ [e]) r (fun x hx => h x (by simp [hx]))]
    simp
theorem rdEnts_ok (n : Nat) : ∀ (l : List Nat) (acc es : List Ent) (r : List Nat), (∀ x ∈ l, x < 256) → rdEnts n l acc = .ok (es, r) → ∃ t, es = acc ++ t ∧ t.length = n ∧ l = entsB t ++ r ∧ ∀ e ∈ t, fits e := by
  induction n with
  | zero => intro l acc es r _ h; simp [rdEnts] at h; exact ⟨[], by simp [h.1], rfl, by simp [entsB, h.2], by simp⟩
  | succ n ih =>
    intro l acc es r hx h
    rw [rdEnts] at h
    split at h
    · cases h
    · rename_i e r1 he
      obtain ⟨h1, h2⟩ := rdEnt_ok hx he
      obtain ⟨t, h3, h4, h5, h6⟩ := ih r1 _ es r (fun x hx' => hx x (by rw [h1]; simp [hx'])) h
      refine ⟨e :: t, by rw [h3]; simp, by simp [h4], ?_, ?_⟩
      · rw [h1, h5]; simp [entsB]
      · intro y hy
        rcases List.mem_cons.1 hy with rfl | hy
        · exact h2
        · exact h6 y hy
theorem any_fits (l : List Ent) : l.any (fun e => decide (256 < e.1.length ∨ 512 < e.2.length)) = false ↔ ∀ e ∈ l, fits e := by
  simp only [List.any_eq_false, decide_eq_true_eq, fits]
  constructor
  · intro h e he
    have := h e he
    omega
  · intro h e he
    have := h e he
    omega
theorem rdEntries_entries {l : List Ent} {b : List Nat} (h : entries l = .ok b) : rdEntries b = .ok l := by
  unfold entries at h
  split at h
  · cases h
  · rename_i hn
    split at h
    · cases h
    · rename_i ha
      simp only [Bool.not_eq_true] at ha
      rw [any_fits] at ha
      simp only [Except.ok.injEq] at h
      subst h
      unfold rdEntries
      rw [rdNum_num (by omega)]
      simp only
      rw [if_neg (by omega)]
      have := rdEnts_ents l [] [] ha
      rw [List.append_nil] at this
      rw [this]
      simp
theorem rdEntries_ok {l : List Nat} {es : List Ent} (hx : ∀ x ∈ l, x < 256) (h : rdEntries l = .ok es) : entries es = .ok l := by
  unfold rdEntries at h
  split at h
  · cases h
  · rename_i n r hn
    obtain ⟨hl, hb⟩ := rdNum_some hx hn
    split at h
    · cases h
    · rename_i hm
      split at h
      · cases h
      · rename_i es' r' he
        split at h
        · rename_i hr
          simp only [Except.ok.injEq] at h
          subst h
          obtain ⟨t, h1, h2, h3, h4⟩ := rdEnts_ok n r [] es' r' (fun x hx' => hx x (by rw [hl]; simp [hx'])) he
          have hr0 : r' = [] := List.length_eq_zero_iff.1 hr
          subst hr0
          simp only [List.nil_append, List.append_nil] at h1 h3
          subst h1
          unfold entries
          rw [if_neg (by omega), if_neg (by rw [(any_fits es').2 h4]; simp), hl, h3, h2]
        · cases h
theorem entries_apart {a b : List Ent} {x y : List Nat} (ha : entries a = .ok x) (hb : entries b = .ok y) : x = y ↔ a = b := by
  constructor
  · intro h
    have h1 := rdEntries_entries ha
    rw [h, rdEntries_entries hb] at h1
    cases h1
    rfl
  · intro h
    subst h
    rw [ha] at hb
    cases hb
    rfl
end Cod
