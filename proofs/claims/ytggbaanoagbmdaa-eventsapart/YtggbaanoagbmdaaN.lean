/- what Append leaves is right -/
import Derived.Test.YtggbaanoagbmdaaJ
namespace Go.Proofs.Ytggbaanoagbmdaa
theorem getD_app_left {α : Type} (l r : List α) (i : Nat) (d : α) (h : i < l.length) : (l ++ r).getD i d = l.getD i d := by
  rw [List.getD_eq_getElem?_getD, List.getD_eq_getElem?_getD, List.getElem?_append_left h]
theorem getD_app_right {α : Type} (l r : List α) (j : Nat) (d : α) : (l ++ r).getD (l.length + j) d = r.getD j d := by
  rw [List.getD_eq_getElem?_getD, List.getD_eq_getElem?_getD, List.getElem?_append_right (by omega)]
  congr 2
  omega
theorem news_getD {g n : Nat} {s m : ByteArray} {data : List ByteArray} {k j : Nat} (h : j < k) : (news g n s m data k).getD j Ev0 = newAt g n s m data j := by
  rw [List.getD_eq_getElem?_getD, List.getElem?_eq_getElem (by rw [news_len]; exact h)]
  simp [news]
theorem news_take {g n : Nat} {s m : ByteArray} {data : List ByteArray} {k j : Nat} (h : j ≤ k) : (news g n s m data k).take j = news g n s m data j := by
  simp only [news, ← List.map_take, List.take_range, Nat.min_eq_left h]
theorem news_of {g n : Nat} {s m : ByteArray} {data : List ByteArray} (k : Nat) : (news g n s m data k).filter (isOf s) = news g n s m data k := by
  refine List.filter_eq_self.2 (fun x hx => ?_)
  obtain ⟨i, _, rfl⟩ := List.mem_map.1 hx
  simp [isOf, newAt]
theorem okAt_left (l r : List Ev) (i : Nat) (h : i < l.length) : okAt (l ++ r) i = okAt l i := by
  unfold okAt cntS cntM
  rw [getD_app_left l r i Ev0 h, List.take_append_of_le_length (by omega)]
theorem num_pos {l : List Ev} (hg : goodB l = true) {x : Ev} (hx : x ∈ l) : 0 < x.num := by
  obtain ⟨i, hi, rfl⟩ := List.mem_iff_getElem.1 hx
  have h := (goodB_iff.1 hg).2 i hi
  have e : l.getD i Ev0 = l[i] := by rw [List.getD_eq_getElem?_getD, List.getElem?_eq_getElem hi]; rfl
  have hc := cntS_succ l i hi
  unfold okAt at h
  simp only [Bool.and_eq_true, decide_eq_true_eq] at h
  have h4 := h.1.2
  rw [hc, e] at h4
  omega
theorem mark_none {l : List Ev} (hg : goodB l = true) {s m : ByteArray} (hm : m.toList.isEmpty = false) (hk : ¬ 0 < markAt l s m) : l.filter (isM s m) = [] := by
  refine List.filter_eq_nil_iff.2 (fun x hx hM => hk ?_)
  simp only [isM, Bool.and_eq_true] at hM
  unfold markAt
  rw [if_neg (by simpa using hm)]
  have hin : x ∈ l.filter (isOf s) := List.mem_filter.2 ⟨hx, hM.1⟩
  cases hf : (l.filter (isOf s)).find? (hasM m) with
  | none => exact absurd hM.2 (List.find?_eq_none.1 hf x hin)
  | some y =>
    have hy := List.mem_of_find?_eq_some hf
    exact num_pos hg (List.mem_filter.1 hy).1
theorem cntL_app (l : List Ev) (s m : ByteArray) (data : List ByteArray) (g n k : Nat) : cntL (l ++ news g n s m data k) s = cntL l s + k := by
  unfold cntL
  rw [List.filter_append, news_of, List.length_append, news_len]
theorem any_false_mem {l : List ByteArray} (h : l.any longB = false) {x : ByteArray} (hx : x ∈ l) : longB x = false := by
  have := List.any_eq_false.1 h x hx
  simpa using this
theorem long_empty : longB (⟨#[]⟩ : ByteArray) = false := rfl
/-- what Append leaves is right -/
theorem good_app {l : List Ev} {s m : ByteArray} {data : List ByteArray} {k : Nat} (hg : goodB l = true) (hb : badT s m data = false) (hmk : ¬ 0 < markAt l s m) (hk : k ≤ data.length) (hlen : l.length + k ≤ 16384) : goodB (l ++ news l.length (cntL l s) s m data k) = true := by
  simp only [badT, Bool.or_eq_false_iff] at hb
  obtain ⟨hs, h2, h3⟩ := hb
  have ls : longB s = false := any_false_mem h2 (by simp)
  have lm : longB m = false := any_false_mem h2 (by simp)
  refine goodB_iff.2 ⟨by rw [List.length_append, news_len]; exact hlen, fun i hi => ?_⟩
  rw [List.length_append, news_len] at hi
  by_cases hlt : i < l.length
  · rw [okAt_left l _ i hlt]; exact (goodB_iff.1 hg).2 i hlt
  · obtain ⟨j, rfl⟩ : ∃ j, i = l.length + j := ⟨i - l.length, by omega⟩
    have hj : j < k := by omega
    have e : (l ++ news l.length (cntL l s) s m data k).getD (l.length + j) Ev0 = newAt l.length (cntL l s) s m data j := by rw [getD_app_right, news_getD hj]
    have et : (l ++ news l.length (cntL l s) s m data k).take (l.length + j + 1) = l ++ news l.length (cntL l s) s m data (j + 1) := by
      rw [Nat.add_assoc, List.take_length_add_append, news_take (by omega)]
    have hd : longB (data.getD j ⟨#[]⟩) = false := by
      rw [List.getD_eq_getElem?_getD, List.getElem?_eq_getElem (by omega)]
      exact any_false_mem h3 (List.getElem_mem (by omega))
    have hmm : longB (if j = 0 then m else ⟨#[]⟩) = false := by
      split
      · exact lm
      · rfl
    unfold okAt
    rw [e]
    simp only [Bool.and_eq_true, decide_eq_true_eq]
    refine ⟨⟨⟨⟨?_, ?_⟩, ?_⟩, ?_⟩, ?_⟩
    · simp only [newAt, hs]; rfl
    · simp only [newAt, List.any_cons, List.any_nil, ls, hd, hmm]; rfl
    · simp only [newAt]; omega
    · show ((cntL l s + j + 1 : Nat) : Int) = (cntS _ (l.length + j + 1) s : Nat)
      unfold cntS
      rw [et, List.filter_append, news_of, List.length_append, news_len]
      rfl
    · by_cases hj0 : j = 0
      · subst hj0
        show (!(!m.toList.isEmpty && decide (1 < cntM _ (l.length + 0 + 1) s m))) = true
        cases hme : m.toList.isEmpty
        · unfold cntM
          rw [et, List.filter_append, mark_none hg hme hmk]
          have : ([] ++ (news l.length (cntL l s) s m data (0 + 1)).filter (isM s m)).length ≤ 1 := by
            rw [List.nil_append]
            refine Nat.le_trans (List.length_filter_le _ _) ?_
            rw [news_len]; omega
          simp only [Bool.not_false, Bool.true_and]
          rw [decide_eq_false (by omega)]
          rfl
        · rfl
      · have : (newAt l.length (cntL l s) s m data j).ma = ⟨#[]⟩ := by simp [newAt, hj0]
        rw [this, show (⟨#[]⟩ : ByteArray).toList = [] from by rw [ByteArray.toList_eq]]
        rfl
end Go.Proofs.Ytggbaanoagbmdaa
