/- keys that are put one by one: what a leaf has -/
import Derived.Test.YtebikoekpbnpbaaNW
namespace Go.Proofs.Ytebikoekpbnpbaa
open Go.RowKit Cod
set_option linter.unusedVariables false
set_option linter.unusedSimpArgs false
/-- a leaf that has just these -/
structure Lf (p : Pg) (S : List Nat × List Nat → Prop) (n : Nat) : Prop where
  ok : leafE p = 0
  len : p.keys.length = n
  mem : ∀ x, x ∈ p.keys.zip p.vals ↔ S x
theorem zip_mem_ins {α β : Type} {l : List α} {m : List β} (h : m.length = l.length) (i : Nat) (x : α) (y : β) (z : α × β) : z ∈ (insL l i x).zip (insL m i y) ↔ z = (x, y) ∨ z ∈ l.zip m := by
  have h1 : (l.take i).length = (m.take i).length := by rw [List.length_take, List.length_take, h]
  have e : l.zip m = (l.take i).zip (m.take i) ++ (l.drop i).zip (m.drop i) := by
    conv => lhs; rw [← List.take_append_drop i l, ← List.take_append_drop i m]
    exact List.zip_append h1
  unfold insL
  rw [List.zip_append h1, e]
  simp only [List.zip_cons_cons, List.mem_append, List.mem_cons]
  constructor
  · rintro (h | h | h)
    · exact .inr (.inl h)
    · exact .inl h
    · exact .inr (.inr h)
  · rintro (h | h | h)
    · exact .inr (.inl h)
    · exact .inl h
    · exact .inr (.inr h)
theorem zip_has {l : List (List Nat)} {m : List (List Nat)} (h : m.length = l.length) {k : List Nat} (hk : k ∈ l) : ∃ v, (k, v) ∈ l.zip m := by
  obtain ⟨i, hi, rfl⟩ := List.getElem_of_mem hk
  refine ⟨m[i]'(by omega), ?_⟩
  have : (l.zip m)[i]'(by rw [List.length_zip]; omega) = (l[i], m[i]'(by omega)) := List.getElem_zip ..
  rw [← this]
  exact List.getElem_mem _
theorem lf_put {p : Pg} {S : List Nat × List Nat → Prop} {n : Nat} {key val : List Nat} (h : Lf p S n) (hf : ∀ x, S x → ¬ x.1 = key) (hc : checkE (putP p key val) = 0) : Lf (putP p key val) (fun x => x = (key, val) ∨ S x) (n + 1) := by
  have hl := leaf_lens h.ok
  have hs := check_srt (leafE_0 h.ok).1
  have hno : hasK p.keys key = false := has_false hs (fun hm => by
    obtain ⟨v, hv⟩ := zip_has hl hm
    exact hf _ ((h.mem _).1 hv) rfl)
  have e : putP p key val = ⟨true, insL p.keys (lowK p.keys key) key, insL p.vals (lowK p.keys key) val, []⟩ := by
    unfold putP
    rw [hno]
    rfl
  refine ⟨leafE_of hc (by rw [e]), by rw [e]; show (insL _ _ _).length = _; rw [insL_len, h.len], fun x => ?_⟩
  rw [e]
  show x ∈ (insL _ _ _).zip (insL _ _ _) ↔ _
  rw [zip_mem_ins hl, h.mem]
theorem one_list {l m : List (List Nat × List Nat)} (h1 : l.Pairwise (fun x y => ltN x.1 y.1 = true)) (h2 : m.Pairwise (fun x y => ltN x.1 y.1 = true)) (h : ∀ x, x ∈ l ↔ x ∈ m) : l = m := by
  induction l generalizing m with
  | nil =>
    cases m with
    | nil => rfl
    | cons y s => exact absurd ((h y).2 (List.mem_cons_self ..)) List.not_mem_nil
  | cons x r ih =>
    cases m with
    | nil => exact absurd ((h x).1 (List.mem_cons_self ..)) List.not_mem_nil
    | cons y s =>
      obtain ⟨a1, a2⟩ := List.pairwise_cons.1 h1
      obtain ⟨b1, b2⟩ := List.pairwise_cons.1 h2
      have e : x = y := by
        rcases List.mem_cons.1 ((h x).1 (List.mem_cons_self ..)) with e | e
        · exact e
        · rcases List.mem_cons.1 ((h y).2 (List.mem_cons_self ..)) with e' | e'
          · exact e'.symm
          · have := ltN_asymm _ _ (b1 _ e)
            rw [a1 _ e'] at this
            cases this
      subst e
      rw [ih a2 b2 (fun z => ?_)]
      constructor
      · intro hz
        rcases List.mem_cons.1 ((h z).1 (List.mem_cons_of_mem _ hz)) with e | e
        · have := a1 _ hz
          rw [e, ltN_irrefl] at this
          cases this
        · exact e
      · intro hz
        rcases List.mem_cons.1 ((h z).2 (List.mem_cons_of_mem _ hz)) with e | e
        · have := b1 _ hz
          rw [e, ltN_irrefl] at this
          cases this
        · exact e
theorem zip_srt {l m : List (List Nat)} (h : m.length = l.length) (hs : SrtK l) : (l.zip m).Pairwise (fun x y => ltN x.1 y.1 = true) := by
  have e : (l.zip m).map Prod.fst = l := List.map_fst_zip (by omega)
  unfold SrtK at hs
  rw [← e, List.pairwise_map] at hs
  exact hs
theorem lf_eq {p q : Pg} {S S' : List Nat × List Nat → Prop} {n m : Nat} (h : Lf p S n) (h' : Lf q S' m) (hS : ∀ x, S x ↔ S' x) : p = q := by
  have l1 := leaf_lens h.ok
  have l2 := leaf_lens h'.ok
  have e := one_list (zip_srt l1 (check_srt (leafE_0 h.ok).1)) (zip_srt l2 (check_srt (leafE_0 h'.ok).1)) (fun x => (h.mem x).trans ((hS x).trans (h'.mem x).symm))
  have e1 : p.keys = q.keys := by
    rw [← List.map_fst_zip (l₁ := p.keys) (l₂ := p.vals) (by omega), e, List.map_fst_zip (by omega)]
  have e2 : p.vals = q.vals := by
    rw [← List.map_snd_zip (l₁ := p.keys) (l₂ := p.vals) (by omega), e, List.map_snd_zip (by omega)]
  have f1 := (leaf_eq (leaf_of (leafE_0 h.ok).1 (leafE_0 h.ok).2)).1
  have f2 := (leaf_eq (leaf_of (leafE_0 h'.ok).1 (leafE_0 h'.ok).2)).1
  rw [f1, f2, e1, e2]
/-- the pairs of two lists up to a place, by a way to number them -/
def upS (K V : List (List Nat)) (f : Nat → Nat) (i : Nat) : List Nat × List Nat → Prop := fun x => ∃ t, t < i ∧ x = (K.getD (f t) [], V.getD (f t) [])
theorem lf_0 : Lf ⟨true, [], [], []⟩ (fun _ => False) 0 := ⟨by first | kernel_rfl | rfl, rfl, fun x => by simp⟩
theorem lf_step {p : Pg} {K V : List (List Nat)} {f : Nat → Nat} {i N : Nat} (h : Lf p (upS K V f i) i) (hN : f i < N) (hi : ∀ t, t < i → f t < N ∧ ¬ f t = f i) (hd : ∀ a b, a < N → b < N → K.getD a [] = K.getD b [] → a = b)
    (hc : checkE (putP p (K.getD (f i) []) (V.getD (f i) [])) = 0) : Lf (putP p (K.getD (f i) []) (V.getD (f i) [])) (upS K V f (i + 1)) (i + 1) := by
  have := lf_put h (key := K.getD (f i) []) (val := V.getD (f i) []) (fun x ⟨t, ht, e⟩ hk => by
    rw [e] at hk
    exact (hi t ht).2 (hd _ _ (hi t ht).1 hN hk)) hc
  refine ⟨this.ok, this.len, fun x => (this.mem x).trans ?_⟩
  constructor
  · rintro (rfl | ⟨t, ht, e⟩)
    · exact ⟨i, by omega, rfl⟩
    · exact ⟨t, by omega, e⟩
  · rintro ⟨t, ht, e⟩
    by_cases hti : t = i
    · subst hti; exact .inl e
    · exact .inr ⟨t, by omega, e⟩
def rotN (n r t : Nat) : Nat := (t + r) % n
theorem rot_lt {n r t : Nat} (hn : 0 < n) : rotN n r t < n := Nat.mod_lt _ hn
theorem rot_ne {n r t i : Nat} (hti : t < i) (hi : i < n) : ¬ rotN n r t = rotN n r i := fun e => by
  unfold rotN at e
  have h := Nat.sub_mod_eq_zero_of_mod_eq e.symm
  rw [show i + r - (t + r) = i - t by omega, Nat.mod_eq_of_lt (by omega)] at h
  omega
theorem rot_all {n r s : Nat} (hs : s < n) : ∃ t, t < n ∧ rotN n r t = s := by
  have hn : 0 < n := by omega
  refine ⟨(s + (n - r % n)) % n, Nat.mod_lt _ hn, ?_⟩
  unfold rotN
  rw [Nat.mod_add_mod]
  have h1 := Nat.mod_add_div r n
  have h2 := Nat.mod_lt r hn
  have e : s + (n - r % n) + r = s + n * (1 + r / n) := by rw [Nat.mul_add, Nat.mul_one]; omega
  rw [e, Nat.add_mul_mod_self_left, Nat.mod_eq_of_lt hs]
theorem lf_same {a b : Pg} {K V : List (List Nat)} {n r : Nat} (h : Lf a (upS K V id n) n) (h' : Lf b (upS K V (rotN n r) n) n) : a = b := by
  refine lf_eq h h' (fun x => ?_)
  constructor
  · rintro ⟨t, ht, e⟩
    obtain ⟨s, hs, e'⟩ := rot_all (r := r) ht
    exact ⟨s, hs, by rw [e']; exact e⟩
  · rintro ⟨t, ht, e⟩
    exact ⟨rotN n r t, rot_lt (by omega), e⟩
end Go.Proofs.Ytebikoekpbnpbaa
