/- MvccLast, walked -/
import Derived.Test.YtlkmcbelmldleaaGreatVXb
namespace Go.Proofs.YtlkmcbelmldleaaGreat
open Go.RowKit
set_option maxRecDepth 40000
theorem good_at {low : Nat} {l : List Vr} (h : goodB low l = true) {x : Vr} (hx : x ∈ l) : rightB x = true := by
  obtain ⟨i, hi, e⟩ := List.getElem_of_mem hx
  have := (goodB_iff.1 h).2.2 i hi
  unfold okAt at this
  rw [List.getD_eq_getElem?_getD, List.getElem?_eq_getElem hi] at this
  simp only [Option.getD_some, Bool.and_eq_true] at this
  rw [← e]
  exact this.1
theorem right_time {x : Vr} (h : rightB x = true) : 1 ≤ x.at_ ∧ x.at_ ≤ 2305843009213693952 := by
  unfold rightB timeB at h
  simp only [Bool.and_eq_true, decide_eq_true_eq] at h
  exact h.1.1.1
/-- of versions the last one -/
theorem last_split {q : List Vr} (h : q ≠ []) : ∃ r x, q = r ++ [x] ∧ lastV q = x.at_ := by
  refine ⟨q.dropLast, q.getLast h, (List.dropLast_concat_getLast h).symm, ?_⟩
  unfold lastV
  rw [List.getD_eq_getElem?_getD, List.getElem?_eq_getElem (by have := List.length_pos_iff.2 h; omega)]
  rw [List.getLast_eq_getElem]
  rfl
theorem lastTo_last {r : List Vr} {x : Vr} {t : Nat} (h : x.at_ ≤ t) : lastTo (r ++ [x]) t = some x := by
  unfold lastTo
  simp [h]
theorem last_zero {low : Nat} {l : List Vr} {key : ByteArray} (hg : goodB low l = true) (h : lastV (l.filter (sameK key)) = 0) : l.filter (sameK key) = [] := by
  by_cases hq : l.filter (sameK key) = []
  · exact hq
  · obtain ⟨r, x, e, hx⟩ := last_split hq
    have hm : x ∈ l := (List.mem_filter.1 (show x ∈ l.filter (sameK key) by rw [e]; simp)).1
    have := (right_time (good_at hg hm)).1
    omega
theorem getR_none {low : Nat} {l : List Vr} {key : ByteArray} {t : Nat} (hg : goodB low l = true) (hq : l.filter (sameK key) = []) (ht : ¬ t < low) : getR low l key t = (⟨#[]⟩, false, 0) := by
  unfold getR askE
  rw [if_pos hg, if_neg ht, hq]
  rfl
theorem getR_last {low : Nat} {l : List Vr} {key : ByteArray} {t : Nat} (hg : goodB low l = true) (h : ¬ lastV (l.filter (sameK key)) = 0) (ht : ¬ t < low) (hl : ¬ t < lastV (l.filter (sameK key))) : ∃ s b, getR low l key t = (s, b, 0) ∧ ∀ t', ¬ t' < low → ¬ t' < lastV (l.filter (sameK key)) → getR low l key t' = (s, b, 0) := by
  have hq : l.filter (sameK key) ≠ [] := fun e => h (by rw [e]; rfl)
  obtain ⟨r, x, e, hx⟩ := last_split hq
  have key' : ∀ t', ¬ t' < low → ¬ t' < lastV (l.filter (sameK key)) → getR low l key t' = (x.val, !x.gone, 0) := fun t' h1 h2 => by
    unfold getR askE
    rw [if_pos hg, if_neg h1, if_pos rfl, e, lastTo_last (by omega)]
    rfl
  exact ⟨x.val, !x.gone, key' t ht hl, key'⟩
end Go.Proofs.YtlkmcbelmldleaaGreat
