/- the document's Check: what it asks -/
import Derived.Test.YtggbaanoagbmdaaV
import Derived.Test.YtggbaanoagbmdaaT
namespace Go.Proofs.Ytggbaanoagbmdaa
theorem cnt_none {l : List Ev} {s : ByteArray} {a : Nat} : ∀ b, a ≤ b → b ≤ l.length → (∀ j, a ≤ j → j < b → ¬ (l.getD j Ev0).st.toList = s.toList) → cntS l b s = cntS l a s
  | 0, h, _, _ => by rw [show a = 0 by omega]
  | b + 1, h, hb, hn => by
    by_cases e : a = b + 1
    · rw [e]
    · have ih := cnt_none b (by omega) (by omega) (fun j h1 h2 => hn j h1 (by omega))
      unfold cntS at ih ⊢
      rw [take_filter_neg (isOf s) l b Ev0 (by omega) (decide_eq_false (hn b (by omega) (by omega)))]
      exact ih
/-- the number that the document asks for -/
theorem last_num {l : List Ev} {k : Nat} {r : Int} (hk : k < l.length) (hA : ∀ j, j < k → okAt l j = true) (h : LastAt l k r) :
    (r = -1 ∧ (cntS l k (l.getD k Ev0).st : Int) + 1 = 1) ∨ ∃ q : Nat, r = (q : Int) ∧ q < k ∧ (l.getD q Ev0).num + 1 = (cntS l k (l.getD k Ev0).st : Int) + 1 ∧ (l.getD q Ev0).num ≤ 16384 * 2 + k ∧ 0 ≤ (l.getD q Ev0).num := by
  rcases h with ⟨rfl, hn⟩ | ⟨q, rfl, hq, he, hn⟩
  · refine .inl ⟨rfl, ?_⟩
    have := cnt_none (a := 0) (s := (l.getD k Ev0).st) k (by omega) (by omega) (fun j _ h2 => hn j h2)
    rw [this]
    simp [cntS]
  · refine .inr ⟨q, rfl, hq, ?_⟩
    have hok := hA q hq
    unfold okAt at hok
    simp only [Bool.and_eq_true, decide_eq_true_eq] at hok
    have h1 := hok.1.2
    have h2 := cnt_none (a := q + 1) (s := (l.getD k Ev0).st) k (by omega) (by omega) (fun j h1 h2 => hn j (by omega) h2)
    rw [str_inj he] at h1
    have h3 : cntS l (q + 1) (l.getD k Ev0).st ≤ q + 1 := cnt_le
    rw [h2]
    omega
theorem cntM_pos {l : List Ev} {s m : ByteArray} {k : Nat} (hk : k ≤ l.length) : 0 < cntM l k s m ↔ ∃ j, j < k ∧ (l.getD j Ev0).st.toList = s.toList ∧ (l.getD j Ev0).ma.toList = m.toList := by
  unfold cntM
  rw [List.length_pos_iff_exists_mem]
  constructor
  · rintro ⟨x, hx⟩
    obtain ⟨h1, h2⟩ := List.mem_filter.1 hx
    obtain ⟨j, hj, rfl⟩ := List.mem_iff_getElem.1 h1
    rw [List.length_take] at hj
    simp only [isM, isOf, hasM, Bool.and_eq_true, decide_eq_true_eq, List.getElem_take] at h2
    refine ⟨j, by omega, ?_⟩
    rw [List.getD_eq_getElem?_getD, List.getElem?_eq_getElem (by omega)]
    exact h2
  · rintro ⟨j, hj, h1, h2⟩
    refine ⟨l.getD j Ev0, List.mem_filter.2 ⟨?_, by simp only [isM, isOf, hasM, Bool.and_eq_true, decide_eq_true_eq]; exact ⟨h1, h2⟩⟩⟩
    rw [List.getD_eq_getElem?_getD, List.getElem?_eq_getElem (by omega)]
    exact List.mem_iff_getElem.2 ⟨j, by rw [List.length_take]; omega, by simp⟩
theorem twice_iff {l : List Ev} {k : Nat} (hk : k < l.length) : TwiceAt l k ↔ (l.getD k Ev0).ma.toList.isEmpty = false ∧ 1 < cntM l k (l.getD k Ev0).st (l.getD k Ev0).ma + 1 := by
  unfold TwiceAt
  have := cntM_pos (l := l) (s := (l.getD k Ev0).st) (m := (l.getD k Ev0).ma) (k := k) (by omega)
  constructor
  · rintro ⟨h1, h2⟩
    exact ⟨h1, by have := this.2 h2; omega⟩
  · rintro ⟨h1, h2⟩
    exact ⟨h1, this.1 (by omega)⟩
end Go.Proofs.Ytggbaanoagbmdaa
