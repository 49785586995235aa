/- the document's Streams: lists -/
import Derived.Test.YtggbaanoagbmdaaZt
namespace Go.Proofs.Ytggbaanoagbmdaa
open Go.RowKit Go.Maps Go.Sort
def NamesB (l : List Ev) (T : List ByteArray) : Prop := T.Pairwise (fun x y => x.toList < y.toList) ∧ ∀ x, x ∈ T ↔ ∃ e ∈ l, e.st = x
def NmB (l : List Ev) (T : List ByteArray) : Prop := if goodB l = true then NamesB l T else T = []
theorem NamesB.start : NamesB [] [] := ⟨List.Pairwise.nil, fun x => by simp⟩
theorem NamesB.same {l : List Ev} {T : List ByteArray} {e : Ev} (h : NamesB l T) (hm : e.st ∈ T) : NamesB (l ++ [e]) T := by
  refine ⟨h.1, fun x => ?_⟩
  rw [h.2 x]
  constructor
  · rintro ⟨y, hy, he⟩; exact ⟨y, List.mem_append_left _ hy, he⟩
  · rintro ⟨y, hy, he⟩
    rcases List.mem_append.1 hy with hy | hy
    · exact ⟨y, hy, he⟩
    · simp at hy; subst hy; rw [← he]; exact (h.2 _).1 hm
theorem NamesB.ins {l : List Ev} {T : List ByteArray} {e : Ev} {n : Nat} (h : NamesB l T) (hn : n ≤ T.length) (hlo : ∀ j, j < n → (T.getD j ⟨#[]⟩).toList < e.st.toList) (hhi : n < T.length → e.st.toList < (T.getD n ⟨#[]⟩).toList) : NamesB (l ++ [e]) (T.take n ++ [e.st] ++ T.drop n) := by
  have hpw : (T.take n ++ T.drop n).Pairwise (fun x y => x.toList < y.toList) := by rw [List.take_append_drop]; exact h.1
  rw [List.pairwise_append] at hpw
  obtain ⟨h1, h2, h3⟩ := hpw
  have hA : ∀ x ∈ T.take n, x.toList < e.st.toList := fun x hx => by
    obtain ⟨j, hj, rfl⟩ := List.mem_iff_getElem.1 hx
    rw [List.length_take] at hj
    have := hlo j (by omega)
    rw [List.getD_eq_getElem?_getD, List.getElem?_eq_getElem (by omega)] at this
    rw [List.getElem_take]; exact this
  have hB : ∀ y ∈ T.drop n, e.st.toList < y.toList := fun y hy => by
    have hnl : n < T.length := by
      have := List.length_pos_of_mem hy
      rw [List.length_drop] at this
      omega
    have h0 := hhi hnl
    rw [List.getD_eq_getElem?_getD, List.getElem?_eq_getElem hnl] at h0
    rw [List.drop_eq_getElem_cons hnl] at h2 hy
    rcases List.mem_cons.1 hy with rfl | hy
    · exact h0
    · exact List.lt_trans h0 ((List.pairwise_cons.1 h2).1 y hy)
  refine ⟨?_, fun x => ?_⟩
  · rw [List.append_assoc, List.pairwise_append]
    refine ⟨h1, ?_, ?_⟩
    · simp only [List.singleton_append, List.pairwise_cons]
      exact ⟨hB, h2⟩
    · intro x hx y hy
      rcases List.mem_append.1 hy with hy | hy
      · simp at hy; subst hy; exact hA x hx
      · exact h3 x hx y hy
  · have hT : x ∈ T ↔ x ∈ T.take n ∨ x ∈ T.drop n := by rw [← List.mem_append, List.take_append_drop]
    have h0 := h.2 x
    rw [hT] at h0
    simp only [List.mem_append, List.mem_singleton]
    constructor
    · rintro ((hx | rfl) | hx)
      · obtain ⟨y, hy, he⟩ := h0.1 (.inl hx); exact ⟨y, .inl hy, he⟩
      · exact ⟨e, .inr rfl, rfl⟩
      · obtain ⟨y, hy, he⟩ := h0.1 (.inr hx); exact ⟨y, .inl hy, he⟩
    · rintro ⟨y, hy | rfl, he⟩
      · rcases h0.2 ⟨y, hy, he⟩ with h | h
        · exact .inl (.inl h)
        · exact .inr h
      · exact .inl (.inr he.symm)
theorem names_one {l : List Ev} {r : List (List UInt8)} {T : List ByteArray} (h : NamesOf l r) (h' : NamesB l T) : bys r = T := by
  have e1 : r = T.map (fun x => x.data.toList) := by
    have hp : r.Perm (T.map (fun x => x.data.toList)) := by
      have nd1 : r.Nodup := h.1.imp (fun {a b} hab e => by subst e; exact absurd hab (List.lt_irrefl a))
      have nd2 : (T.map (fun x : ByteArray => x.data.toList)).Nodup := by
        rw [List.Nodup, List.pairwise_map]
        refine h'.1.imp (fun {a b} hab e => ?_)
        rw [ByteArray.toList_eq, ByteArray.toList_eq, e] at hab
        exact absurd hab (List.lt_irrefl _)
      refine (List.perm_ext_iff_of_nodup nd1 nd2).2 (fun x => ?_)
      rw [h.2 x, List.mem_map]
      constructor
      · rintro ⟨e, he, rfl⟩; exact ⟨e.st, (h'.2 _).2 ⟨e, he, rfl⟩, rfl⟩
      · rintro ⟨y, hy, rfl⟩
        obtain ⟨e, he, rfl⟩ := (h'.2 y).1 hy
        exact ⟨e, he, rfl⟩
    refine List.Perm.eq_of_pairwise (le := fun a b => a < b) (fun a b _ _ h1 h2 => absurd (List.lt_trans h1 h2) (List.lt_irrefl a)) h.1 ?_ hp
    rw [List.pairwise_map]
    exact h'.1.imp (fun {a b} hab => by rwa [ByteArray.toList_eq, ByteArray.toList_eq] at hab)
  rw [e1]
  unfold bys
  rw [List.map_map]
  conv => rhs; rw [← List.map_id T]
  refine List.map_congr_left (fun x _ => ?_)
  rfl
theorem nm_one {l : List Ev} {r : List (List UInt8)} {T : List ByteArray} (h : Nm l r) (h' : NmB l T) : bys r = T := by
  unfold Nm at h
  unfold NmB at h'
  split at h
  · rename_i hg
    rw [if_pos hg] at h'
    exact names_one h h'
  · rename_i hg
    rw [if_neg hg] at h'
    rw [h, h']; rfl
theorem own_takeT {w : World} {base : Nat} {av : Option Addr} {cv n : Nat} {T : List ByteArray} (h : w.ownsRow base 9 1 (.slice av T.length cv) T.length (T.map Value.string)) (hn : n ≤ T.length) : w.ownsRow base 9 1 (.slice av n cv) n ((T.take n).map Value.string) := by
  refine ⟨by simp [List.length_take]; omega, ?_⟩
  rcases h.2 with ⟨e, h0⟩ | ⟨g, cap, cur, e, hb, hg, hn', hm, hs, ht⟩
  · simp at e
    obtain ⟨rfl, _, rfl⟩ := e
    obtain rfl : n = 0 := by omega
    exact .inl ⟨rfl, rfl⟩
  · simp at e
    obtain ⟨rfl, rfl⟩ := e
    refine .inr ⟨g, cv, cur, rfl, hb, hg, by omega, hm, hs, ?_⟩
    rw [List.map_take, ← ht, List.take_take]
    congr 1
    omega
theorem own_shape {w : World} {base : Nat} {av : Option Addr} {cv len : Nat} {xs : List Value} (h : w.ownsRow base 9 1 (.slice av len cv) len xs) : (av = none ∧ len = 0 ∧ cv = 0) ∨ ∃ g, av = some ⟨g, 0, none⟩ ∧ base ≤ g ∧ g < w.heap.size ∧ len ≤ cv ∧ cv ≤ 9223372036854775807 := by
  rcases h.2 with ⟨e, h0⟩ | ⟨g, cap, cur, e, hb, hg, hn', hm, hs, ht⟩
  · simp at e
    exact .inl e
  · simp at e
    obtain ⟨rfl, rfl⟩ := e
    exact .inr ⟨g, rfl, hb, (h.lt g rfl).2, hn', hm⟩
end Go.Proofs.Ytggbaanoagbmdaa
