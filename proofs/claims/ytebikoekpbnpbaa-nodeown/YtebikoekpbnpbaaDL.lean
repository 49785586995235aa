/- the document's Put: what it needs -/
import Derived.Test.YtebikoekpbnpbaaDK
namespace Go.Proofs.Ytebikoekpbnpbaa
open Go.RowKit Cod
set_option maxRecDepth 100000
set_option linter.unusedVariables false
set_option linter.unusedSimpArgs false
theorem short_ins {m : Nat} {l : List (List Nat)} (h : shortB m l = true) (i : Nat) {x : List Nat} (hx : x.length ≤ m) : shortB m (insL l i x) = true := by
  unfold shortB at h ⊢
  rw [List.all_eq_true] at h ⊢
  intro y hy
  rcases mem_insL.1 hy with rfl | hy
  · exact decide_eq_true hx
  · exact h y hy
theorem short_set {m : Nat} {l : List (List Nat)} (h : shortB m l = true) (i : Nat) {x : List Nat} (hx : x.length ≤ m) : shortB m (l.set i x) = true := by
  unfold shortB at h ⊢
  rw [List.all_eq_true] at h ⊢
  intro y hy
  rcases List.mem_or_eq_of_mem_set hy with hy | rfl
  · exact h y hy
  · exact decide_eq_true hx
theorem put_leafB {p : Pg} {key val : List Nat} (h : leafE p = 0) (h1 : key.length ≤ 256) (h2 : val.length ≤ 512) : leafB (putP p key val) = true := by
  have hb := leaf_of (leafE_0 h).1 (leafE_0 h).2
  have hsr := check_srt (leafE_0 h).1
  have hvl := (leaf_eq hb).2
  simp only [leafB, Bool.and_eq_true, decide_eq_true_eq, keysB] at hb
  obtain ⟨⟨⟨⟨_, _⟩, _⟩, hkr, hks⟩, hvs⟩ := hb
  unfold putP
  cases hh : hasK p.keys key with
  | true =>
    rw [if_pos rfl]
    unfold leafB keysB
    rw [hkr, hks, short_set hvs _ h2]
    simp [hvl]
  | false =>
    rw [if_neg (by decide)]
    unfold leafB keysB
    rw [srt_rise (srt_ins hsr hh), short_ins hks _ h1, short_ins hvs _ h2]
    simp [insL_len, hvl]
theorem put_check {p : Pg} {key val : List Nat} (h : leafE p = 0) (h1 : key.length ≤ 256) (h2 : val.length ≤ 512) : checkE (putP p key val) = (if 4096 < sizeE (putP p key val) then 7 else 0) := by
  have hb : leafB (putP p key val) = true ∨ innerB (putP p key val) = true := .inl (put_leafB h h1 h2)
  unfold checkE sizeE
  simp only [if_pos hb]
  by_cases hs : 4096 < sizeP (putP p key val)
  · rw [if_pos hs, if_pos (show (4096 : Int) < (sizeP (putP p key val) : Int) by omega)]
  · rw [if_neg hs, if_neg (show ¬ (4096 : Int) < (sizeP (putP p key val) : Int) by omega)]
theorem ElT.set {w : World} {base : Nat} {xs : List Value} {L : List (List Nat)} (h : ElT w base xs L) (i : Nat) {a : Option Addr} {n c : Nat} {l : List Nat} (hB : IsB w a n c l) (hF : NewB w base a) : ElT w base (xs.set i (.slice a n c)) (L.set i l) := by
  refine ⟨by rw [List.length_set, List.length_set, h.1], fun j hj => ?_⟩
  rw [List.length_set] at hj
  by_cases h1 : i = j
  · subst h1
    refine ⟨a, n, c, List.getElem?_set_self (by rw [h.1]; exact hj), ?_⟩
    rw [List.getD_eq_getElem?_getD, List.getElem?_set_self hj]
    exact ⟨hB, hF⟩
  · rw [List.getElem?_set_ne h1, List.getD_eq_getElem?_getD, List.getElem?_set_ne h1, ← List.getD_eq_getElem?_getD]
    exact h.2 j hj
theorem RowT.store {w : World} {base n c b lo : Nat} {xs : List Value} {L : List (List Nat)} (h : RowT w base n (.slice (some ⟨b, 0, none⟩) n c) xs L) (hlo : lo < n) {a : Option Addr} {m c' : Nat} {x : List Nat} (hB : IsB w a m c' x) (hN : NewB w base a) :
    RowT (w.setCell ⟨b, lo, none⟩ (.slice a m c')) base n (.slice (some ⟨b, 0, none⟩) n c) (xs.set lo (.slice a m c')) (L.set lo x) := by
  have hb26 : ∃ cur, w.heap[b]? = some (.cells cur 26 (0, 0)) := by
    rcases h.own.2 with ⟨e, _⟩ | ⟨g, cap, cur, e, _, hg, _⟩
    · cases e
    · cases e; exact ⟨cur, hg⟩
  obtain ⟨cur0, hg0⟩ := hb26
  have hkeep : ∀ (k : Nat) (cs : Array Value) (f : Nat × Nat), w.heap[k]? = some (Obj.cells cs 5 f) → (w.setCell ⟨b, lo, none⟩ (.slice a m c')).heap[k]? = w.heap[k]? := fun k cs f hk => Below.heap_setCell _ _ _ _ (fun e => by
    have e' : k = b := e
    rw [e', hg0] at hk
    cases hk)
  refine ⟨⟨by rw [List.length_set]; exact h.own.1, ?_⟩, ?_⟩
  · rcases h.own.2 with ⟨e, _⟩ | ⟨g, cap, cur, e, hbs, hg, hn, hm, hs, ht⟩
    · cases e
    · cases e
      refine .inr ⟨b, c, cur.setIfInBounds lo (.slice a m c'), rfl, hbs, blk_setN hg _, hn, hm, by simpa using hs, ?_⟩
      rw [Array.toList_setIfInBounds, ← ht, List.take_set]
  · have h1 := (h.els.set lo hB hN)
    exact h1.kept (by simp [World.setCell]) hkeep
theorem RowT.other {w : World} {base n b lo : Nat} {v : Value} {xs : List Value} {L : List (List Nat)} (h : RowT w base n v xs L) {cur : Array Value} {f : Nat × Nat} (hb : w.heap[b]? = some (.cells cur 26 f)) (hne : v.ownBlock ≠ some b) (u : Value) : RowT (w.setCell ⟨b, lo, none⟩ u) base n v xs L := by
  refine ⟨ownsRow_setCell_other h.own hne u, h.els.kept (by simp [World.setCell]) (fun k cs f' hk => Below.heap_setCell _ _ _ _ (fun e => by
    have e' : k = b := e
    rw [e', hb] at hk
    cases hk))⟩
theorem RowT.cell {w : World} {base n c b lo : Nat} {xs : List Value} {L : List (List Nat)} (h : RowT w base n (.slice (some ⟨b, 0, none⟩) n c) xs L) (hL : L.length = n) (hlo : lo < n) : (∃ a m d, w.cell? ⟨b, lo, none⟩ = some (.slice a m d)) ∧ w.frozen? ⟨b, lo, none⟩ = false ∧ ∃ cur, w.heap[b]? = some (.cells cur 26 (0, 0)) := by
  rcases h.own.2 with ⟨e, _⟩ | ⟨g, cap, cur, e, hbs, hg, hn, hm, hs, ht⟩
  · cases e
  · cases e
    obtain ⟨a, m, d, e, _⟩ := h.els.2 lo (by omega)
    refine ⟨⟨a, m, d, ?_⟩, frzN hg lo, cur, hg⟩
    have h7 : cur.toList[lo]? = xs[lo]? := by rw [← ht, List.getElem?_take, if_pos (by omega)]
    refine cell_blkN hg ?_
    rw [e] at h7
    simpa using h7
end Go.Proofs.Ytebikoekpbnpbaa
