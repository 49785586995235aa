/- what is found in a leaf that was put into, or cut -/
import Derived.Test.YtebikoekpbnpbaaNN
namespace Go.Proofs.Ytebikoekpbnpbaa
open Go.RowKit Cod
set_option linter.unusedVariables false
set_option linter.unusedSimpArgs false
/-- where a key stands, by what stands before it and at it -/
theorem low_before {l : List (List Nat)} {k : List Nat} {j : Nat} (hj : j < lowK l k) : ltN (l.getD j []) k = true := by
  unfold lowK at hj
  have hp : (l.takeWhile (fun x => ltN x k)) <+: l := List.takeWhile_prefix _
  obtain ⟨r, hr⟩ := hp
  have e : l.getD j [] = (l.takeWhile (fun x => ltN x k)).getD j [] := by
    conv => lhs; rw [← hr]
    rw [List.getD_eq_getElem?_getD, List.getD_eq_getElem?_getD, List.getElem?_append_left hj]
  rw [e]
  have hm : (l.takeWhile (fun x => ltN x k)).getD j [] ∈ l.takeWhile (fun x => ltN x k) := getD_mem hj
  have := List.all_eq_true.1 (List.all_takeWhile (p := fun x => ltN x k) (l := l)) _ hm
  exact this
theorem low_at {k : List Nat} : ∀ {l : List (List Nat)}, lowK l k < l.length → ltN (l.getD (lowK l k) []) k = false
  | [], h => absurd h (Nat.not_lt_zero _)
  | x :: r, h => by
    unfold lowK at h ⊢
    rw [List.takeWhile_cons] at h ⊢
    cases hx : ltN x k with
    | false => simp [hx]
    | true =>
      rw [hx] at h
      simp only [if_true, List.length_cons] at h ⊢
      rw [List.getD_cons_succ]
      exact low_at (l := r) (by unfold lowK; omega)
theorem has_iff {l : List (List Nat)} {k : List Nat} (hs : SrtK l) : hasK l k = true ↔ k ∈ l := by
  constructor
  · intro h
    unfold hasK at h
    rw [Bool.and_eq_true, decide_eq_true_eq, decide_eq_true_eq] at h
    have hm := getD_mem h.1
    rw [h.2] at hm
    exact hm
  · intro h
    obtain ⟨i, hi, e⟩ := List.getElem_of_mem h
    have ei : l.getD i [] = k := by rw [List.getD_eq_getElem?_getD, List.getElem?_eq_getElem hi]; exact e
    have hlow : lowK l k = i := lowK_is l i (by omega) (fun j hj => by
      have := srt_getD hs hj hi
      rw [ei] at this
      exact this) (fun _ => by rw [ei]; exact ltN_irrefl k)
    unfold hasK
    rw [hlow, ei, decide_eq_true hi]
    simp
/-- a key that is there stands where it is -/
theorem low_of {l : List (List Nat)} {k : List Nat} (hs : SrtK l) {i : Nat} (hi : i < l.length) (e : l.getD i [] = k) : lowK l k = i ∧ hasK l k = true := by
  have hlow : lowK l k = i := lowK_is l i (by omega) (fun j hj => by
    have := srt_getD hs hj hi
    rw [e] at this
    exact this) (fun _ => by rw [e]; exact ltN_irrefl k)
  refine ⟨hlow, ?_⟩
  unfold hasK
  rw [hlow, e, decide_eq_true hi]
  simp
theorem insL_getD {l : List (List Nat)} {i : Nat} (h : i ≤ l.length) (x : List Nat) (j : Nat) : (insL l i x).getD j [] = if j < i then l.getD j [] else if j = i then x else l.getD (j - 1) [] := by
  rw [List.getD_eq_getElem?_getD, insL_get l h]
  split
  · rw [List.getD_eq_getElem?_getD]
  · split
    · rfl
    · rw [List.getD_eq_getElem?_getD]
theorem mem_insL {l : List (List Nat)} {i : Nat} {x y : List Nat} : y ∈ insL l i x ↔ y = x ∨ y ∈ l := by
  unfold insL
  rw [List.mem_append, List.mem_cons]
  constructor
  · rintro (h | h | h)
    · exact .inr (List.mem_of_mem_take h)
    · exact .inl h
    · exact .inr (List.mem_of_mem_drop h)
  · rintro (h | h)
    · exact .inr (.inl h)
    · rw [← List.take_append_drop i l, List.mem_append] at h
      exact h.elim .inl (fun h => .inr (.inr h))
theorem srt_del {l : List (List Nat)} (hs : SrtK l) (i : Nat) : SrtK (delL l i) := by
  unfold SrtK delL at *
  refine List.Pairwise.sublist ?_ hs
  conv => rhs; rw [← List.take_append_drop i l]
  refine List.Sublist.append_left ?_ _
  rw [show i + 1 = 1 + i by omega, Nat.add_comm 1 i, ← List.drop_drop]
  exact List.drop_sublist _ _
theorem srt_ins {l : List (List Nat)} {k : List Nat} (hs : SrtK l) (hh : hasK l k = false) : SrtK (insL l (lowK l k) k) := by
  have hle := lowK_le l k
  refine List.pairwise_iff_getElem.2 (fun i j hi hj hij => ?_)
  rw [insL_len] at hi hj
  have ei : (insL l (lowK l k) k)[i] = (insL l (lowK l k) k).getD i [] := by rw [List.getD_eq_getElem?_getD, List.getElem?_eq_getElem (by rw [insL_len]; exact hi)]; rfl
  have ej : (insL l (lowK l k) k)[j] = (insL l (lowK l k) k).getD j [] := by rw [List.getD_eq_getElem?_getD, List.getElem?_eq_getElem (by rw [insL_len]; exact hj)]; rfl
  rw [ei, ej, insL_getD hle, insL_getD hle]
  have hat : lowK l k < l.length → ltN k (l.getD (lowK l k) []) = true := fun h => by
    have h1 := low_at h
    cases h2 : ltN k (l.getD (lowK l k) []) with
    | true => rfl
    | false =>
      have e := ltN_tri _ _ h1 h2
      unfold hasK at hh
      rw [decide_eq_true h, e] at hh
      simp at hh
  have hgt : ∀ t, lowK l k ≤ t → t < l.length → ltN k (l.getD t []) = true := fun t h1 h2 => by
    by_cases h3 : t = lowK l k
    · rw [h3]; exact hat (by omega)
    · exact ltN_trans _ _ _ (hat (by omega)) (srt_getD hs (by omega) h2)
  by_cases h1 : i < lowK l k
  · rw [if_pos h1]
    by_cases h2 : j < lowK l k
    · rw [if_pos h2]
      exact srt_getD hs hij (by omega)
    · rw [if_neg h2]
      by_cases h3 : j = lowK l k
      · rw [if_pos h3]
        exact low_before h1
      · rw [if_neg h3]
        exact srt_getD hs (by omega) (by omega)
  · rw [if_neg h1, if_neg (by omega : ¬ j < lowK l k), if_neg (by omega : ¬ j = lowK l k)]
    by_cases h2 : i = lowK l k
    · rw [if_pos h2]
      exact hgt (j - 1) (by omega) (by omega)
    · rw [if_neg h2]
      exact srt_getD hs (by omega) (by omega)
/-- what was put in and struck again is as it was -/
theorem del_ins {α : Type} {l : List α} {i : Nat} (h : i ≤ l.length) (x : α) : delL (insL l i x) i = l := by
  apply List.ext_getElem?
  intro j
  rw [delL_get _ (by rw [insL_len]; omega), insL_get l h, insL_get l h]
  by_cases h1 : j < i
  · rw [if_pos h1, if_pos h1]
  · rw [if_neg h1, if_neg (by omega), if_neg (by omega), Nat.add_sub_cancel]
end Go.Proofs.Ytebikoekpbnpbaa
