/- lists of slices and of numbers put together -/
import Derived.Test.YtebikoekpbnpbaaMB
namespace Go.Proofs.Ytebikoekpbnpbaa
open Go.RowKit Cod
set_option maxRecDepth 100000
set_option linter.unusedVariables false
set_option linter.unusedSimpArgs false
/-- values that are slices of bytes -/
def ElB (w : World) (xs : List Value) (L : List (List Nat)) : Prop := xs.length = L.length ∧ ∀ i, i < L.length → ∃ a n c, xs[i]? = some (.slice a n c) ∧ IsB w a n c (L.getD i [])
theorem ElB.below {w w' : World} {xs : List Value} {L : List (List Nat)} (h : ElB w xs L) (hb : Below w.heap.size w w') : ElB w' xs L := ⟨h.1, fun i hi => by
  obtain ⟨a, n, c, e, hB⟩ := h.2 i hi
  exact ⟨a, n, c, e, hB.below hb⟩⟩
theorem ElB.one {w : World} {xs : List Value} {L : List (List Nat)} (h : ElB w xs L) : ∀ v ∈ xs, v.oneCell' = true := fun v hv => by
  obtain ⟨i, hi, rfl⟩ := List.getElem_of_mem hv
  obtain ⟨a, n, c, e, _⟩ := h.2 i (by rw [← h.1]; exact hi)
  rw [List.getElem?_eq_getElem hi] at e
  rw [Option.some.inj e]
  rfl
theorem ElB.app {w : World} {xs ys : List Value} {L M : List (List Nat)} (h : ElB w xs L) (h' : ElB w ys M) : ElB w (xs ++ ys) (L ++ M) := by
  refine ⟨by rw [List.length_append, List.length_append, h.1, h'.1], fun i hi => ?_⟩
  rw [List.length_append] at hi
  by_cases hl : i < L.length
  · obtain ⟨a, n, c, e, hB⟩ := h.2 i hl
    refine ⟨a, n, c, by rw [List.getElem?_append_left (by rw [h.1]; exact hl)]; exact e, ?_⟩
    rwa [List.getD_eq_getElem?_getD, List.getElem?_append_left hl, ← List.getD_eq_getElem?_getD]
  · obtain ⟨a, n, c, e, hB⟩ := h'.2 (i - L.length) (by omega)
    refine ⟨a, n, c, by rw [List.getElem?_append_right (by rw [h.1]; omega), h.1]; exact e, ?_⟩
    rwa [List.getD_eq_getElem?_getD, List.getElem?_append_right (by omega), ← List.getD_eq_getElem?_getD]
theorem IsL.vs {w : World} {a : Option Addr} {n c : Nat} {L : List (List Nat)} (h : IsL w a n c L) : ∃ xs, Vs w a n c xs ∧ ElB w xs L := by
  obtain ⟨h1, h2, h3, h4, h5⟩ := h
  have hf : ∀ i, ∃ x : Value, i < n → ∃ b off a' n' c', a = some ⟨b, off, none⟩ ∧ b < w.heap.size ∧ w.cell? ⟨b, off + i, none⟩ = some x ∧ x = .slice a' n' c' ∧ IsB w a' n' c' (L.getD i []) := fun i => by
    by_cases hi : i < n
    · obtain ⟨b, off, a', n', c', e, hlt, hc, hB⟩ := h5 i hi
      exact ⟨.slice a' n' c', fun _ => ⟨b, off, a', n', c', e, hlt, hc, rfl, hB⟩⟩
    · exact ⟨.slice none 0 0, fun h => absurd h hi⟩
  obtain ⟨f, hf⟩ := Classical.axiomOfChoice hf
  have hg : ∀ i, i < n → ((List.range n).map f)[i]? = some (f i) := fun i hi => by
    rw [List.getElem?_map, List.getElem?_range hi]
    rfl
  have hE : ElB w ((List.range n).map f) L := by
    refine ⟨by rw [List.length_map, List.length_range, h1], fun i hi => ?_⟩
    obtain ⟨b, off, a', n', c', e, hlt, hc, he, hB⟩ := hf i (by omega)
    exact ⟨a', n', c', by rw [hg i (by omega), he], hB⟩
  refine ⟨(List.range n).map f, ⟨by rw [List.length_map, List.length_range], h2, h3, h4, hE.one, fun i hi => ?_⟩, hE⟩
  obtain ⟨b, off, a', n', c', e, hlt, hc, he, hB⟩ := hf i hi
  exact ⟨b, off, e, hlt, by rw [hg i hi, hc]⟩
theorem own_isL {w : World} {base n : Nat} {v : Value} {xs : List Value} {L : List (List Nat)} (hl : L.length = n) (hE : ElB w xs L) (h : w.ownsRow base 26 1 v n xs) : ∃ a cap, v = .slice a n cap ∧ IsL w a n cap L := by
  rcases h.2 with ⟨rfl, rfl⟩ | ⟨g, cap, cur, rfl, hbs, hg, hn, hm, hs, ht⟩
  · exact ⟨none, 0, rfl, hl, Nat.le_refl _, Nat.zero_le _, fun _ => rfl, fun i hi => absurd hi (Nat.not_lt_zero _)⟩
  · refine ⟨_, cap, rfl, hl, hn, hm, nofun, fun i hi => ?_⟩
    obtain ⟨a, n', c, e, hB⟩ := hE.2 i (by omega)
    refine ⟨g, 0, a, n', c, rfl, heap_ltN hg, ?_, hB⟩
    rw [Nat.zero_add]
    refine cell_blkN hg ?_
    have h1 : cur.toList[i]? = xs[i]? := by
      rw [← ht, List.getElem?_take, if_pos (by omega)]
    rw [e] at h1
    simpa using h1
/-- two lists put together -/
theorem cat2L (q : Nat) (a1 a2 : Option Addr) (n1 c1 n2 c2 : Nat) (L1 L2 : List (List Nat)) (w : World) (hq : w.heap[q]? = some (.cells #[.slice a1 n1 c1, .slice a2 n2 c2] 22 (0, 0))) (h1 : IsL w a1 n1 c1 L1) (h2 : IsL w a2 n2 c2 L2) (hn : n1 + n2 ≤ 100000) :
    Calls Try.prog 60 #[.slice (some ⟨q, 0, none⟩) 2 2] w fun e w' => ∃ a c, e = .returned (.slice a (n1 + n2) c) ∧ IsL w' a (n1 + n2) c (L1 ++ L2) ∧ Below w.heap.size w w' := by
  obtain ⟨x1, hv1, he1⟩ := h1.vs
  obtain ⟨x2, hv2, he2⟩ := h2.vs
  have hR : RowsV w q 2 (fun k => if k = 0 then a1 else a2) (fun k => if k = 0 then n1 else n2) (fun k => if k = 0 then c1 else c2) (fun k => if k = 0 then x1 else x2) := by
    refine ⟨heap_ltN hq, fun k hk => ?_⟩
    rcases (by omega : k = 0 ∨ k = 1) with rfl | rfl
    · exact ⟨cell_blkN hq rfl, hv1⟩
    · exact ⟨cell_blkN hq rfl, hv2⟩
  have hp : preN (fun k => if k = 0 then n1 else n2) 2 = n1 + n2 := by show 0 + n1 + n2 = _; omega
  refine (concatL_any q 2 _ _ _ _ w hR (by omega) (by rw [hp]; exact hn)).mono ?_
  rintro e w' ⟨⟨v, rfl, ho⟩, hb⟩
  rw [hp] at ho
  have ho' : w'.ownsRow w.heap.size 26 1 v (n1 + n2) (x1 ++ x2) := ho
  obtain ⟨a, c, rfl, hL⟩ := own_isL (L := L1 ++ L2) (by rw [List.length_append, h1.1, h2.1]) ((he1.below hb).app (he2.below hb)) ho'
  exact ⟨a, c, rfl, hL, hb⟩
/-- three lists put together -/
theorem cat3L (q : Nat) (a1 a2 a3 : Option Addr) (n1 c1 n2 c2 n3 c3 : Nat) (L1 L2 L3 : List (List Nat)) (w : World) (hq : w.heap[q]? = some (.cells #[.slice a1 n1 c1, .slice a2 n2 c2, .slice a3 n3 c3] 22 (0, 0))) (h1 : IsL w a1 n1 c1 L1) (h2 : IsL w a2 n2 c2 L2) (h3 : IsL w a3 n3 c3 L3) (hn : n1 + n2 + n3 ≤ 100000) :
    Calls Try.prog 60 #[.slice (some ⟨q, 0, none⟩) 3 3] w fun e w' => ∃ a c, e = .returned (.slice a (n1 + n2 + n3) c) ∧ IsL w' a (n1 + n2 + n3) c (L1 ++ L2 ++ L3) ∧ Below w.heap.size w w' := by
  obtain ⟨x1, hv1, he1⟩ := h1.vs
  obtain ⟨x2, hv2, he2⟩ := h2.vs
  obtain ⟨x3, hv3, he3⟩ := h3.vs
  have hR : RowsV w q 3 (fun k => if k = 0 then a1 else if k = 1 then a2 else a3) (fun k => if k = 0 then n1 else if k = 1 then n2 else n3) (fun k => if k = 0 then c1 else if k = 1 then c2 else c3) (fun k => if k = 0 then x1 else if k = 1 then x2 else x3) := by
    refine ⟨heap_ltN hq, fun k hk => ?_⟩
    rcases (by omega : k = 0 ∨ k = 1 ∨ k = 2) with rfl | rfl | rfl
    · exact ⟨cell_blkN hq rfl, hv1⟩
    · exact ⟨cell_blkN hq rfl, hv2⟩
    · exact ⟨cell_blkN hq rfl, hv3⟩
  have hp : preN (fun k => if k = 0 then n1 else if k = 1 then n2 else n3) 3 = n1 + n2 + n3 := by show 0 + n1 + n2 + n3 = _; omega
  refine (concatL_any q 3 _ _ _ _ w hR (by omega) (by rw [hp]; exact hn)).mono ?_
  rintro e w' ⟨⟨v, rfl, ho⟩, hb⟩
  rw [hp] at ho
  have ho' : w'.ownsRow w.heap.size 26 1 v (n1 + n2 + n3) (x1 ++ x2 ++ x3) := ho
  obtain ⟨a, c, rfl, hL⟩ := own_isL (L := L1 ++ L2 ++ L3) (by rw [List.length_append, List.length_append, h1.1, h2.1, h3.1]) (((he1.below hb).app (he2.below hb)).app (he3.below hb)) ho'
  exact ⟨a, c, rfl, hL, hb⟩
theorem kv_app (l m : List Int) : kv (l ++ m) = kv l ++ kv m := by simp [kv]
/-- two lists of numbers put together: new memory -/
theorem cat2K (q : Nat) (a1 a2 : Option Addr) (n1 c1 n2 c2 : Nat) (L1 L2 : List Int) (w : World) (hq : w.heap[q]? = some (.cells #[.slice a1 n1 c1, .slice a2 n2 c2] 23 (0, 0))) (h1 : IsK w a1 n1 c1 L1) (h2 : IsK w a2 n2 c2 L2) (hn : n1 + n2 ≤ 100000) :
    Calls Try.prog 61 #[.slice (some ⟨q, 0, none⟩) 2 2] w fun e w' => ∃ a c, e = .returned (.slice a (n1 + n2) c) ∧ IsK w' a (n1 + n2) c (L1 ++ L2) ∧ (∀ b off, a = some ⟨b, off, none⟩ → w.heap.size ≤ b) ∧ Below w.heap.size w w' := by
  have hR : RowsV w q 2 (fun k => if k = 0 then a1 else a2) (fun k => if k = 0 then n1 else n2) (fun k => if k = 0 then c1 else c2) (fun k => if k = 0 then kv L1 else kv L2) := by
    refine ⟨heap_ltN hq, fun k hk => ?_⟩
    rcases (by omega : k = 0 ∨ k = 1) with rfl | rfl
    · exact ⟨cell_blkN hq rfl, h1.vs⟩
    · exact ⟨cell_blkN hq rfl, h2.vs⟩
  have hp : preN (fun k => if k = 0 then n1 else n2) 2 = n1 + n2 := by show 0 + n1 + n2 = _; omega
  refine (concatK_any q 2 _ _ _ _ w hR (by omega) (by rw [hp]; exact hn)).mono ?_
  rintro e w' ⟨⟨v, rfl, ho⟩, hb⟩
  rw [hp] at ho
  have ho' : w'.ownsRow w.heap.size 3 1 v (n1 + n2) (kv (L1 ++ L2)) := by rw [kv_app]; exact ho
  have g1 := h1.1
  have g2 := h2.1
  obtain ⟨a, c, rfl, hL, hF⟩ := own_isK (l := L1 ++ L2) (by rw [List.length_append, g1, g2]) (fun i hi => by
    rw [List.getD_eq_getElem?_getD]
    by_cases hl : i < L1.length
    · rw [List.getElem?_append_left hl, ← List.getD_eq_getElem?_getD]
      exact (h1.2.2.2.2 i (by omega)).1
    · rw [List.getElem?_append_right (by omega), ← List.getD_eq_getElem?_getD]
      exact (h2.2.2.2.2 _ (by omega)).1) ho'
  exact ⟨a, c, rfl, hL, hF, hb⟩
/-- a list of one -/
theorem isL_one {w : World} {q : Nat} {a : Option Addr} {n c : Nat} {l : List Nat} (hq : w.heap[q]? = some (.cells #[.slice a n c] 26 (0, 0))) (h : IsB w a n c l) : IsL w (some ⟨q, 0, none⟩) 1 1 [l] := by
  refine ⟨rfl, Nat.le_refl _, by unfold maxLen; decide, nofun, fun i hi => ?_⟩
  obtain rfl : i = 0 := by omega
  exact ⟨q, 0, a, n, c, rfl, heap_ltN hq, cell_blkN hq rfl, h⟩
end Go.Proofs.Ytebikoekpbnpbaa
