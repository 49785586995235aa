/- EventsApart: lists -/
import Derived.Test.YtggbaanoagbmdaaLawReads
import Derived.Test.YtggbaanoagbmdaaLawParts
namespace Go.Proofs.Ytggbaanoagbmdaa
open Go.RowKit Go.Maps Go.Sort
theorem namesB_of {l : List Ev} {r : List (List UInt8)} (h : NamesOf l r) : NamesB l (bys r) := by
  refine ⟨?_, fun x => ?_⟩
  · unfold bys
    rw [List.pairwise_map]
    refine h.1.imp (fun {a b} hab => ?_)
    rw [ByteArray.toList_eq, ByteArray.toList_eq]
    simpa using hab
  · unfold bys
    rw [List.mem_map]
    constructor
    · rintro ⟨y, hy, rfl⟩
      obtain ⟨e, he, rfl⟩ := (h.2 y).1 hy
      exact ⟨e, he, rfl⟩
    · rintro ⟨e, he, rfl⟩
      exact ⟨e.st.data.toList, (h.2 _).2 ⟨e, he, rfl⟩, rfl⟩
theorem filter_or {α : Type} (p q : α → Bool) (hd : ∀ e, p e = true → q e = true → False) : ∀ l : List α, (l.filter (fun e => p e || q e)).length = (l.filter p).length + (l.filter q).length
  | [] => rfl
  | x :: r => by
    have ih := filter_or p q hd r
    simp only [List.filter_cons]
    cases hp : p x <;> cases hq : q x
    · simpa using ih
    · simp only [Bool.or_true, if_true, List.length_cons, ih]; simp; omega
    · simp only [Bool.or_false, if_true, List.length_cons, ih]; simp; omega
    · exact (hd x hp hq).elim
/-- how many events lie in the first i streams -/
def cov (l : List Ev) (T : List ByteArray) (i : Nat) : Nat := (l.filter (fun e => (T.take i).any (fun t => isOf t e))).length
theorem cov_zero (l : List Ev) (T : List ByteArray) : cov l T 0 = 0 := by simp [cov]
theorem cov_le (l : List Ev) (T : List ByteArray) (i : Nat) : cov l T i ≤ l.length := List.length_filter_le _ _
theorem cov_succ {l : List Ev} {T : List ByteArray} (h : NamesB l T) {i : Nat} (hi : i < T.length) : cov l T (i + 1) = cov l T i + (l.filter (isOf (T.getD i ⟨#[]⟩))).length := by
  unfold cov
  rw [← filter_or]
  · congr 1
    refine List.filter_congr (fun e _ => ?_)
    rw [List.take_add_one, List.getD_eq_getElem?_getD, List.getElem?_eq_getElem hi, List.any_append]
    simp
  · intro e h1 h2
    have h3 := isOf_eq h2
    obtain ⟨t, h4, h5⟩ := List.any_eq_true.1 h1
    have h6 := isOf_eq h5
    rw [← h6, h3, List.getD_eq_getElem?_getD, List.getElem?_eq_getElem hi] at h4
    obtain ⟨j, hj, e'⟩ := List.mem_iff_getElem.1 h4
    rw [List.length_take] at hj
    rw [List.getElem_take] at e'
    have := List.pairwise_iff_getElem.1 h.1 j i (by omega) hi (by omega)
    rw [e'] at this
    exact absurd this (List.lt_irrefl _)
theorem cov_all {l : List Ev} {T : List ByteArray} (h : NamesB l T) : cov l T T.length = l.length := by
  unfold cov
  rw [List.take_length, List.filter_eq_self.2]
  intro e he
  exact List.any_eq_true.2 ⟨e.st, (h.2 _).2 ⟨e, he, rfl⟩, isOf_self e⟩
theorem read_all {l : List Ev} (hg : goodB l = true) (s : ByteArray) : someR l (l.filter (isOf s)) 1 16384 (·.num) = (l.filter (isOf s), 0) := by
  unfold someR
  rw [if_neg (by rw [hg]; simp), if_neg (by decide)]
  have h := pick_s hg s 0 16384
  simp only [Int.natCast_zero, Int.zero_add, List.drop_zero] at h
  rw [show ((16384 : Int)).toNat = 16384 from rfl, h, List.take_of_length_le]
  exact Nat.le_trans (List.length_filter_le _ _) (good_len hg)
theorem stream_at {l : List Ev} (hg : goodB l = true) (s : ByteArray) {j : Nat} (hj : j < (l.filter (isOf s)).length) : ((l.filter (isOf s)).getD j Ev0).st = s ∧ ((l.filter (isOf s)).getD j Ev0).num = (j : Int) + 1 ∧ ∃ i, i < l.length ∧ l.getD i Ev0 = (l.filter (isOf s)).getD j Ev0 ∧ ((l.filter (isOf s)).getD j Ev0).glob = (i : Int) + 1 := by
  have hm : (l.filter (isOf s))[j] ∈ l.filter (isOf s) := List.getElem_mem hj
  rw [List.getD_eq_getElem?_getD, List.getElem?_eq_getElem hj, Option.getD_some]
  refine ⟨isOf_eq (List.mem_filter.1 hm).2, num_at hg s j hj, ?_⟩
  obtain ⟨i, hi, e⟩ := List.mem_iff_getElem.1 (List.mem_filter.1 hm).1
  refine ⟨i, hi, ?_, ?_⟩
  · rw [List.getD_eq_getElem?_getD, List.getElem?_eq_getElem hi, Option.getD_some, e]
  · rw [← e]; exact glob_at hg i hi
theorem apart_filter {l : List Ev} {s o m : ByteArray} {data : List ByteArray} {a b k : Nat} (h : o ≠ s) : (l ++ news a b s m data k).filter (isOf o) = l.filter (isOf o) := by
  rw [List.filter_append]
  have : (news a b s m data k).filter (isOf o) = [] := by
    rw [List.filter_eq_nil_iff]
    intro e he hc
    obtain ⟨i, _, rfl⟩ := List.mem_map.1 he
    exact h (isOf_eq hc).symm
  rw [this, List.append_nil]
end Go.Proofs.Ytggbaanoagbmdaa
