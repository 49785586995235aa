/- parts of pages, and pages put together (pure) -/
import Derived.Test.YtebikoekpbnpbaaMC
import Derived.Test.YtebikoekpbnpbaaNR
namespace Go.Proofs.Ytebikoekpbnpbaa
open Go.RowKit Cod
set_option linter.unusedVariables false
set_option linter.unusedSimpArgs false
theorem subL_get {α : Type} (l : List α) (f t i : Nat) : (subL l f t)[i]? = if i < t - f then l[f + i]? else none := by
  unfold subL
  rw [List.getElem?_take, List.getElem?_drop]
theorem subL_all {α : Type} (l : List α) : subL l 0 l.length = l := by simp [subL]
theorem subL_app {α : Type} (l : List α) (f m t : Nat) (h1 : f ≤ m) (h2 : m ≤ t) (h3 : t ≤ l.length) : subL l f m ++ subL l m t = subL l f t := by
  apply List.ext_getElem?
  intro i
  have hl : (subL l f m).length = m - f := subL_len (by omega)
  by_cases hi : i < m - f
  · rw [List.getElem?_append_left (by omega), subL_get, subL_get, if_pos hi, if_pos (by omega)]
  · rw [List.getElem?_append_right (by omega), hl, subL_get, subL_get]
    by_cases h : i < t - f
    · rw [if_pos (by omega), if_pos h]
      congr 1
      omega
    · rw [if_neg (by omega), if_neg h]
theorem subL_one {l : List (List Nat)} {m : Nat} (h : m < l.length) : subL l m (m + 1) = [l.getD m []] := by
  apply List.ext_getElem?
  intro i
  rw [subL_get]
  by_cases hi : i = 0
  · subst hi
    rw [if_pos (by omega), Nat.add_zero, List.getD_eq_getElem?_getD, List.getElem?_eq_getElem h]
    rfl
  · rw [if_neg (by omega), List.getElem?_eq_none (by simp; omega)]
theorem subL_mem {α : Type} {l : List α} {f t : Nat} {x : α} (h : x ∈ subL l f t) : x ∈ l := List.mem_of_mem_drop (List.mem_of_mem_take h)
theorem subL_srt {l : List (List Nat)} (h : SrtK l) (f t : Nat) : SrtK (subL l f t) := List.Pairwise.sublist (List.Sublist.trans (List.take_sublist _ _) (List.drop_sublist _ _)) h
theorem sumK_app (a b : List Int) : sumK (a ++ b) = sumK a + sumK b := by simp only [sumK, List.map_append, List.sum_append]
theorem sumK_drop (l : List Int) (i : Nat) : sumK (l.drop i) ≤ sumK l := by
  conv => rhs; rw [← List.take_append_drop i l]
  rw [sumK_app]
  omega
theorem sumB_sub (l : List (List Nat)) (f t : Nat) : sumB (subL l f t) ≤ sumB l := Nat.le_trans (sumB_le _ _) (sumB_drop _ _)
theorem sumK_sub (l : List Int) (f t : Nat) : sumK (subL l f t) ≤ sumK l := Nat.le_trans (sumK_le _ _) (sumK_drop _ _)
/-- a part of a page -/
def partP (p : Pg) (f t : Nat) : Pg := if p.leaf = true then lpP p f t else ipP p f t
def offP (p : Pg) : Nat := if p.leaf = true then 0 else 1
/-- two pages put together -/
def mergeP (a : Pg) (k : List Nat) (b : Pg) : Pg := if a.leaf = true then ⟨true, a.keys ++ b.keys, a.vals ++ b.vals, []⟩ else ⟨false, a.keys ++ [k] ++ b.keys, [], a.kids ++ b.kids⟩
theorem part_leaf (p : Pg) (f t : Nat) : (partP p f t).leaf = p.leaf := by
  unfold partP
  cases p.leaf <;> rfl
theorem part_keys (p : Pg) (f t : Nat) : (partP p f t).keys = subL p.keys f t := by
  unfold partP
  cases p.leaf <;> rfl
theorem inner_of {p : Pg} (h : checkE p = 0) (hl : p.leaf = false) : innerB p = true := by
  rcases check_kind h with h1 | h1
  · simp [leafB, hl] at h1
  · exact h1
theorem check_inner {p : Pg} (h : innerB p = true) (hs : sizeP p ≤ 4096) : checkE p = 0 := by
  unfold checkE
  rw [if_pos (.inr h), if_neg (by omega)]
theorem part_check {p : Pg} (hp : checkE p = 0) {f t : Nat} (h1 : f < t) (h2 : t ≤ p.keys.length) : checkE (partP p f t) = 0 := by
  have hs := size_of hp
  have hsr := check_srt hp
  have hlk : (subL p.keys f t).length = t - f := subL_len h2
  unfold sizeP at hs
  have n1 := num_mono p.keys.length (t - f) (by omega)
  have n2 := sumB_sub p.keys f t
  unfold partP
  cases hl : p.leaf with
  | true =>
    have hb := leaf_of hp hl
    have hv := (leaf_eq hb).2
    simp only [leafB, Bool.and_eq_true, decide_eq_true_eq, keysB] at hb
    obtain ⟨⟨⟨⟨_, _⟩, hk0⟩, hkr, hks⟩, hvs⟩ := hb
    have n3 := sumB_sub p.vals f t
    refine check_leaf ?_ ?_
    · simp only [if_true, leafB, lpP, Bool.and_eq_true, decide_eq_true_eq, keysB]
      refine ⟨⟨⟨⟨by trivial, ?_⟩, rfl⟩, srt_rise (subL_srt hsr f t), ?_⟩, ?_⟩
      · rw [hlk, subL_len (by omega)]
      · unfold shortB at hks ⊢
        rw [List.all_eq_true] at hks ⊢
        exact fun x hx => hks x (subL_mem hx)
      · unfold shortB at hvs ⊢
        rw [List.all_eq_true] at hvs ⊢
        exact fun x hx => hvs x (subL_mem hx)
    · simp only [if_true, sizeP, lpP]
      rw [hlk]
      have e0 : sumK [] = 0 := rfl
      rw [e0]
      omega
  | false =>
    have hb := inner_of hp hl
    simp only [innerB, Bool.and_eq_true, decide_eq_true_eq, keysB] at hb
    obtain ⟨⟨⟨⟨⟨_, hk0⟩, hik⟩, hv0⟩, hkr, hks⟩, his⟩ := hb
    have n3 := sumK_sub p.kids f (t + 1)
    have hli : (subL p.kids f (t + 1)).length = t + 1 - f := subL_len (by omega)
    refine check_inner ?_ ?_
    · rw [if_neg (by decide)]
      simp only [innerB, ipP, Bool.and_eq_true, decide_eq_true_eq, keysB]
      refine ⟨⟨⟨⟨⟨rfl, decide_eq_true (show 0 < (subL p.keys f t).length by omega)⟩, decide_eq_true (show (subL p.kids f (t + 1)).length = (subL p.keys f t).length + 1 by omega)⟩, rfl⟩, srt_rise (subL_srt hsr f t), ?_⟩, ?_⟩
      · unfold shortB at hks ⊢
        rw [List.all_eq_true] at hks ⊢
        exact fun x hx => hks x (subL_mem hx)
      · unfold kidsB at his ⊢
        rw [List.all_eq_true] at his ⊢
        exact fun x hx => his x (subL_mem hx)
    · rw [if_neg (by decide)]
      simp only [sizeP, ipP]
      rw [hlk]
      have e0 : sumB [] = 0 := rfl
      rw [e0]
      omega
theorem inner_kids {p : Pg} (hp : checkE p = 0) (hl : p.leaf = false) : p.kids.length = p.keys.length + 1 ∧ p.vals = [] := by
  have := inner_lens hp hl
  exact ⟨this.2.1, List.length_eq_zero_iff.1 this.2.2.1⟩
theorem part_all {p : Pg} (hp : checkE p = 0) : partP p 0 p.keys.length = p := by
  unfold partP
  cases hl : p.leaf with
  | true =>
    have h := leaf_eq (leaf_of hp hl)
    simp only [if_true, lpP]
    rw [subL_all, ← h.2, subL_all]
    exact h.1.symm
  | false =>
    have h := inner_kids hp hl
    rw [if_neg (by decide)]
    unfold ipP
    rw [subL_all, ← h.1, subL_all, ← hl, ← h.2]
theorem part_merge {p : Pg} (hp : checkE p = 0) {f m t : Nat} (h1 : f ≤ m) (h2 : m + offP p ≤ t) (h3 : t ≤ p.keys.length) : mergeP (partP p f m) (p.keys.getD m []) (partP p (m + offP p) t) = partP p f t := by
  unfold mergeP
  rw [part_leaf]
  unfold partP offP at *
  cases hlf : p.leaf with
  | true =>
    have hv := (leaf_eq (leaf_of hp hlf)).2
    rw [hlf] at h2
    simp only [if_true, lpP, Nat.add_zero] at h2 ⊢
    rw [subL_app _ _ _ _ h1 h2 h3, subL_app _ _ _ _ h1 h2 (by omega)]
  | false =>
    have hi := inner_kids hp hlf
    rw [hlf] at h2
    rw [if_neg (show ¬ false = true by decide)] at h2
    rw [if_neg (show ¬ false = true by decide), if_neg (show ¬ false = true by decide), if_neg (show ¬ false = true by decide), if_neg (show ¬ false = true by decide)]
    unfold ipP
    simp only
    rw [← subL_one (by omega), subL_app _ _ _ _ h1 (by omega) (by omega), subL_app _ _ _ _ (by omega) h2 h3, subL_app _ _ _ _ (by omega) (by omega) (by omega)]
    rfl
theorem part_key {p : Pg} {f g t : Nat} (h : g < t - f) : (partP p f t).keys.getD g [] = p.keys.getD (f + g) [] := by
  rw [part_keys, subL_getD h]
theorem part_len {p : Pg} {f t : Nat} (h : t ≤ p.keys.length) : (partP p f t).keys.length = t - f := by rw [part_keys, subL_len h]
theorem key_short {p : Pg} (hp : checkE p = 0) {m : Nat} (h : m < p.keys.length) : (p.keys.getD m []).length ≤ 256 := by
  have hb : shortB 256 p.keys = true := by
    rcases check_kind hp with h1 | h1
    · simp only [leafB, Bool.and_eq_true, keysB] at h1
      exact h1.1.2.2
    · simp only [innerB, Bool.and_eq_true, keysB] at h1
      exact h1.1.2.2
  unfold shortB at hb
  rw [List.all_eq_true] at hb
  exact of_decide_eq_true (hb _ (getD_mem h))
/-- where a page is split -/
def SplitAt (p : Pg) (m : Nat) : Prop := 1 ≤ m ∧ m + offP p < p.keys.length
end Go.Proofs.Ytebikoekpbnpbaa
