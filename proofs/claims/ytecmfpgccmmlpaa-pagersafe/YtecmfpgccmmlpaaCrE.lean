/- contracts: Open -/
import Derived.Test.YtecmfpgccmmlpaaCrD
import Derived.Deep.QuietTactic
import Derived.BigQuiet
namespace Go.Proofs.Ytecmfpgccmmlpaa
open Go.RowKit
set_option maxRecDepth 40000
theorem end_eq (l : List Nat) (n c : Nat) (hl : l.length = n + 4) : l.drop n = le c ↔ ∀ j, j < 4 → l.getD (n + j) 0 = c / 2 ^ (8 * j) % 256 := by
  constructor
  · intro h j hj
    have e : (l.drop n).getD j 0 = (le c).getD j 0 := by rw [h]
    rw [getD_le, if_pos hj] at e
    rw [← e]; simp [List.getD_eq_getElem?_getD, List.getElem?_drop]
  · intro h
    apply List.ext_getElem?
    intro j
    by_cases hj : j < 4
    · have h1 : j < (le c).length := by simp [le]; omega
      have h2 : j < (l.drop n).length := by simp; omega
      have e := h j hj
      rw [← if_pos (c := j < 4) hj (t := c / 2 ^ (8 * j) % 256) (e := 0), ← getD_le] at e
      rw [List.getElem?_eq_getElem h1, List.getElem?_eq_getElem h2]
      rw [List.getD_eq_getElem?_getD, List.getD_eq_getElem?_getD, List.getElem?_eq_getElem h1] at e
      have h3 : n + j < l.length := by omega
      rw [List.getElem?_eq_getElem h3] at e
      simp at e
      simp [e]
    · rw [List.getElem?_eq_none (by simp; omega), List.getElem?_eq_none (by simp [le]; omega)]
end Go.Proofs.Ytecmfpgccmmlpaa
