/- places in a stream -/
import Derived.Test.YtggbaanoagbmdaaN
import Derived.Test.YtggbaanoagbmdaaR
namespace Go.Proofs.Ytggbaanoagbmdaa
theorem okAt_num {l : List Ev} (hg : goodB l = true) {k : Nat} (hk : k < l.length) : (l.getD k Ev0).num = (cntS l (k + 1) (l.getD k Ev0).st : Int) ∧ (l.getD k Ev0).glob = (k : Int) + 1 := by
  have h := (goodB_iff.1 hg).2 k hk
  unfold okAt at h
  simp only [Bool.and_eq_true, decide_eq_true_eq] at h
  exact ⟨h.1.2, h.1.1.2⟩
theorem isOf_eq {s : ByteArray} {x : Ev} (h : isOf s x = true) : x.st = s := str_inj (of_decide_eq_true h)
/-- in a stream numbers rise by one from 1 on -/
theorem stream_num {l : List Ev} (hg : goodB l = true) (s : ByteArray) : ∀ k, k ≤ l.length → ∀ j (hj : j < ((l.take k).filter (isOf s)).length), (((l.take k).filter (isOf s))[j]).num = (j : Int) + 1
  | 0, _, j, hj => by simp at hj
  | k + 1, hk, j, hj => by
    have ih := stream_num hg s k (by omega)
    cases ho : isOf s (l.getD k Ev0)
    · have e := take_filter_neg (isOf s) l k Ev0 (by omega) ho
      simp only [e] at hj ⊢
      exact ih j hj
    · have e := take_filter_pos (isOf s) l k Ev0 (by omega) ho
      have h1 := (okAt_num hg (show k < l.length by omega)).1
      rw [isOf_eq ho] at h1
      unfold cntS at h1
      rw [e, List.length_append] at h1
      simp only [e] at hj ⊢
      by_cases hlt : j < ((l.take k).filter (isOf s)).length
      · rw [List.getElem_append_left hlt]; exact ih j hlt
      · rw [List.length_append] at hj
        simp only [List.length_cons, List.length_nil] at hj h1
        rw [List.getElem_append_right (by omega)]
        simp only [List.getElem_singleton]
        rw [h1]
        omega
theorem num_at {l : List Ev} (hg : goodB l = true) (s : ByteArray) (j : Nat) (hj : j < (l.filter (isOf s)).length) : ((l.filter (isOf s))[j]).num = (j : Int) + 1 := by
  have h := stream_num hg s l.length (Nat.le_refl _)
  simp only [List.take_length] at h
  exact h j hj
theorem glob_at {l : List Ev} (hg : goodB l = true) (j : Nat) (hj : j < l.length) : (l[j]).glob = (j : Int) + 1 := by
  have h := (okAt_num hg hj).2
  rw [List.getD_eq_getElem?_getD, List.getElem?_eq_getElem hj] at h
  exact h
theorem filter_drop (pl : Ev → Int) (fr : Int) : ∀ (zs : List Ev) (k : Nat), (∀ j (hj : j < zs.length), pl (zs[j]) = (k : Int) + j + 1) → zs.filter (fun e => decide (fr ≤ pl e)) = zs.drop (fr - 1 - k).toNat
  | [], k, _ => by simp
  | x :: r, k, h => by
    have h0 := h 0 (by simp)
    simp only [List.getElem_cons_zero] at h0
    have ih := filter_drop pl fr r (k + 1) (fun j hj => by
      have := h (j + 1) (by simpa using hj)
      simp only [List.getElem_cons_succ] at this
      rw [this]; omega)
    rw [List.filter_cons]
    by_cases hx : fr ≤ pl x
    · rw [if_pos (decide_eq_true hx), ih]
      rw [show (fr - 1 - ((k + 1 : Nat) : Int)).toNat = 0 by omega, show (fr - 1 - (k : Int)).toNat = 0 by omega]
      simp
    · rw [if_neg (by simp; omega), ih]
      rw [show (fr - 1 - (k : Int)).toNat = (fr - 1 - ((k + 1 : Nat) : Int)).toNat + 1 by omega]
      rfl
theorem pick_drop {pl : Ev → Int} {fr : Int} {mo : Nat} {zs : List Ev} (h : ∀ j (hj : j < zs.length), pl (zs[j]) = (j : Int) + 1) : pick pl fr mo zs = (zs.drop (fr - 1).toNat).take mo := by
  unfold pick
  rw [filter_drop pl fr zs 0 (fun j hj => by rw [h j hj]; omega)]
  simp
/-- what a mark's event is -/
theorem mark_some {l : List Ev} {s m : ByteArray} (hm : m.toList.isEmpty = false) (h : ¬ markAt l s m = 0) : ∃ x ∈ l.filter (isOf s), hasM m x = true ∧ x.num = markAt l s m := by
  unfold markAt at h ⊢
  rw [if_neg (by simpa using hm)] at h ⊢
  cases hf : (l.filter (isOf s)).find? (hasM m) with
  | none => rw [hf] at h; exact absurd rfl h
  | some y => exact ⟨y, List.mem_of_find?_eq_some hf, List.find?_some hf, rfl⟩
theorem mark_empty {l : List Ev} {s m : ByteArray} (hm : m.toList.isEmpty = true) : markAt l s m = 0 := by
  unfold markAt
  rw [if_pos (by simpa using hm)]
/-- the event of a mark is read by its number -/
theorem mark_read {l : List Ev} (hg : goodB l = true) {s m : ByteArray} (h : ¬ markAt l s m = 0) : ∃ x, someR l (l.filter (isOf s)) (markAt l s m) 1 (·.num) = ([x], 0) ∧ x.ma.toList = m.toList ∧ x.num = markAt l s m ∧ m.toList.isEmpty = false := by
  cases hm : m.toList.isEmpty
  case true => exact absurd (mark_empty hm) h
  case false =>
    obtain ⟨x, hx, hM, hn⟩ := mark_some hm h
    have hpos := num_pos hg (List.mem_filter.1 hx).1
    obtain ⟨j, hj, e⟩ := List.mem_iff_getElem.1 hx
    have hjn := num_at hg s j hj
    rw [e] at hjn
    refine ⟨x, ?_, of_decide_eq_true hM, hn, rfl⟩
    unfold someR
    rw [if_neg (by rw [hg]; simp), if_neg (by omega), pick_drop (num_at hg s)]
    rw [← hn, hjn, show ((j : Int) + 1 - 1).toNat = j by omega]
    rw [List.drop_eq_getElem_cons hj, e]
    rfl
theorem mark_no {l : List Ev} (hg : goodB l = true) {s m : ByteArray} (hm : m.toList.isEmpty = false) (h : markAt l s m = 0) {x : Ev} (hx : x ∈ l) : ¬ (x.st.toList = s.toList ∧ x.ma.toList = m.toList) := by
  rintro ⟨h1, h2⟩
  have := List.filter_eq_nil_iff.1 (mark_none (s := s) hg hm (by omega)) x hx
  apply this
  simp only [isM, isOf, hasM, Bool.and_eq_true, decide_eq_true_eq]
  exact ⟨h1, h2⟩
end Go.Proofs.Ytggbaanoagbmdaa
