/- NR NW -/
import Derived.Test.YtebikoekpbnpbaaNN
import Derived.Test.YtebikoekpbnpbaaNT
/- what is found in a leaf that was put into, or cut -/
namespace Go.Proofs.Ytebikoekpbnpbaa
open Go.RowKit Cod
set_option linter.unusedVariables false
set_option linter.unusedSimpArgs false
/-- where a key stands, by what stands before it and at it -/
theorem low_before {l : List (List Nat)} {k : List Nat} {j : Nat} (hj : j < lowK l k) : ltN (l.getD j []) k = true := by
  unfold lowK at hj
  have hp : (l.takeWhile (fun x => ltN x k)) <+: l := List.takeWhile_prefix _
  obtain ⟨r, hr⟩ := hp
  have e : l.getD j [] = (l.takeWhile (fun x => ltN x k)).getD j [] := by
    conv => lhs; rw [← hr]
    rw [List.getD_eq_getElem?_getD, List.getD_eq_getElem?_getD, List.getElem?_append_left hj]
  rw [e]
  have hm : (l.takeWhile (fun x => ltN x k)).getD j [] ∈ l.takeWhile (fun x => ltN x k) := getD_mem hj
  have := List.all_eq_true.1 (List.all_takeWhile (p := fun x => ltN x k) (l := l)) _ hm
  exact this
theorem low_at {k : List Nat} : ∀ {l : List (List Nat)}, lowK l k < l.length → ltN (l.getD (lowK l k) []) k = false
  | [], h => absurd h (Nat.not_lt_zero _)
  | x :: r, h => by
    unfold lowK at h ⊢
    rw [List.takeWhile_cons] at h ⊢
    cases hx : ltN x k with
    | false => simp [hx]
    | true =>
      rw [hx] at h
      simp only [if_true, List.length_cons] at h ⊢
      rw [List.getD_cons_succ]
      exact low_at (l := r) (by unfold lowK; omega)
theorem insL_getD {l : List (List Nat)} {i : Nat} (h : i ≤ l.length) (x : List Nat) (j : Nat) : (insL l i x).getD j [] = if j < i then l.getD j [] else if j = i then x else l.getD (j - 1) [] := by
  rw [List.getD_eq_getElem?_getD, insL_get l h]
  split
  · rw [List.getD_eq_getElem?_getD]
  · split
    · rfl
    · rw [List.getD_eq_getElem?_getD]
theorem mem_insL {l : List (List Nat)} {i : Nat} {x y : List Nat} : y ∈ insL l i x ↔ y = x ∨ y ∈ l := by
  unfold insL
  rw [List.mem_append, List.mem_cons]
  constructor
  · rintro (h | h | h)
    · exact .inr (List.mem_of_mem_take h)
    · exact .inl h
    · exact .inr (List.mem_of_mem_drop h)
  · rintro (h | h)
    · exact .inr (.inl h)
    · rw [← List.take_append_drop i l, List.mem_append] at h
      exact h.elim .inl (fun h => .inr (.inr h))
theorem srt_ins {l : List (List Nat)} {k : List Nat} (hs : SrtK l) (hh : hasK l k = false) : SrtK (insL l (lowK l k) k) := by
  have hle := lowK_le l k
  refine List.pairwise_iff_getElem.2 (fun i j hi hj hij => ?_)
  rw [insL_len] at hi hj
  have ei : (insL l (lowK l k) k)[i] = (insL l (lowK l k) k).getD i [] := by rw [List.getD_eq_getElem?_getD, List.getElem?_eq_getElem (by rw [insL_len]; exact hi)]; rfl
  have ej : (insL l (lowK l k) k)[j] = (insL l (lowK l k) k).getD j [] := by rw [List.getD_eq_getElem?_getD, List.getElem?_eq_getElem (by rw [insL_len]; exact hj)]; rfl
  rw [ei, ej, insL_getD hle, insL_getD hle]
  have hat : lowK l k < l.length → ltN k (l.getD (lowK l k) []) = true := fun h => by
    have h1 := low_at h
    cases h2 : ltN k (l.getD (lowK l k) []) with
    | true => rfl
    | false =>
      have e := ltN_tri _ _ h1 h2
      unfold hasK at hh
      rw [decide_eq_true h, e] at hh
      simp at hh
  have hgt : ∀ t, lowK l k ≤ t → t < l.length → ltN k (l.getD t []) = true := fun t h1 h2 => by
    by_cases h3 : t = lowK l k
    · rw [h3]; exact hat (by omega)
    · exact ltN_trans _ _ _ (hat (by omega)) (srt_getD hs (by omega) h2)
  by_cases h1 : i < lowK l k
  · rw [if_pos h1]
    by_cases h2 : j < lowK l k
    · rw [if_pos h2]
      exact srt_getD hs hij (by omega)
    · rw [if_neg h2]
      by_cases h3 : j = lowK l k
      · rw [if_pos h3]
        exact low_before h1
      · rw [if_neg h3]
        exact srt_getD hs (by omega) (by omega)
  · rw [if_neg h1, if_neg (by omega : ¬ j < lowK l k), if_neg (by omega : ¬ j = lowK l k)]
    by_cases h2 : i = lowK l k
    · rw [if_pos h2]
      exact hgt (j - 1) (by omega) (by omega)
    · rw [if_neg h2]
      exact srt_getD hs (by omega) (by omega)
end Go.Proofs.Ytebikoekpbnpbaa
/- NodeFound: what is put is found, what is cut is not -/
namespace Go.Proofs.Ytebikoekpbnpbaa
open Go.RowKit Cod
set_option linter.unusedVariables false
set_option linter.unusedSimpArgs false
theorem srt_rise {l : List (List Nat)} (h : SrtK l) : riseB l = true := by
  unfold riseB
  rw [List.all_eq_true]
  intro i hi
  unfold riseAt
  by_cases h0 : i = 0
  · simp [h0]
  · rw [srt_getD h (i := i - 1) (j := i) (by omega) (List.mem_range.1 hi)]
    simp
theorem sumB_app (a b : List (List Nat)) : sumB (a ++ b) = sumB a + sumB b := by simp only [sumB, List.map_append, List.sum_append]
theorem sumB_drop (l : List (List Nat)) (i : Nat) : sumB (l.drop i) ≤ sumB l := by
  have h := sumB_app (l.take i) (l.drop i)
  rw [List.take_append_drop] at h
  omega
theorem num_mono : ∀ (b a : Nat), a ≤ b → nLen a ≤ nLen b := by
  intro b
  induction b using Nat.strongRecOn with
  | ind b ih =>
    intro a h
    unfold nLen at *
    by_cases h1 : a < 128
    · rw [num_small h1]
      have := List.length_pos_iff.2 (num_ne b)
      simp only [List.length_cons, List.length_nil]
      omega
    · rw [num_great (by omega : 128 ≤ a), num_great (by omega : 128 ≤ b)]
      simp only [List.length_cons]
      have := ih (b / 128) (by omega) (a / 128) (Nat.div_le_div_right h)
      omega
theorem leaf_of {p : Pg} (h : checkE p = 0) (hl : p.leaf = true) : leafB p = true := by
  rcases check_kind h with h | h
  · exact h
  · simp [innerB, hl] at h
theorem size_of {p : Pg} (h : checkE p = 0) : sizeP p ≤ 4096 := by
  have hk := check_kind h
  unfold checkE at h
  rw [if_pos hk] at h
  split at h
  · cases h
  · omega
theorem check_leaf {p : Pg} (h : leafB p = true) (hs : sizeP p ≤ 4096) : checkE p = 0 := by
  unfold checkE
  rw [if_pos (.inl h), if_neg (by omega)]
theorem leafE_of {q : Pg} (hc : checkE q = 0) (hl : q.leaf = true) : leafE q = 0 := by
  unfold leafE
  rw [if_pos hc, if_pos hl]
theorem hasK_at {l : List (List Nat)} {k : List Nat} (h : hasK l k = true) : lowK l k < l.length ∧ l.getD (lowK l k) [] = k := by
  unfold hasK at h
  rw [Bool.and_eq_true, decide_eq_true_eq, decide_eq_true_eq] at h
  exact h
theorem leaf_eq {p : Pg} (h : leafB p = true) : p = ⟨true, p.keys, p.vals, []⟩ ∧ p.vals.length = p.keys.length := by
  simp only [leafB, Bool.and_eq_true, decide_eq_true_eq] at h
  obtain ⟨⟨⟨⟨h1, h2⟩, h3⟩, _⟩, _⟩ := h
  obtain ⟨lf, ks, vs, is⟩ := p
  dsimp only at *
  rw [h1, List.length_eq_zero_iff.1 h3]
  exact ⟨rfl, h2⟩
/-- what NodeFound asks, of a page a that was put into and the page b that was cut from it -/
structure FoundP (p a b : Pg) (key val : List Nat) : Prop where
  aleaf : a.leaf = true
  ach : checkE a = 0
  bleaf : b.leaf = true
  bch : checkE b = 0
  afind : ∃ n, findR a key = (n, true, 0) ∧ n < a.vals.length ∧ a.vals.getD n [] = val
  cut : cutR a key = (b, true, 0)
  bfind : ∃ n, findR b key = (n, false, 0)
  lens : b.keys.length + 1 = a.keys.length
  rest : ∀ other, ¬ other = key → ∃ i j x, findR p other = (i, x, 0) ∧ findR b other = (j, x, 0) ∧ (x = true → i < p.vals.length ∧ j < b.vals.length ∧ p.vals.getD i [] = b.vals.getD j [])
end Go.Proofs.Ytebikoekpbnpbaa
