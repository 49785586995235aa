/- lists of slices and of numbers put together -/
import Derived.Test.YtebikoekpbnpbaaMA
namespace Go.Proofs.Ytebikoekpbnpbaa
open Go.RowKit Cod
set_option maxRecDepth 100000
set_option linter.unusedVariables false
set_option linter.unusedSimpArgs false
/-- values that are slices of bytes -/
def ElB (w : World) (xs : List Value) (L : List (List Nat)) : Prop := xs.length = L.length ∧ ∀ i, i < L.length → ∃ a n c, xs[i]? = some (.slice a n c) ∧ IsB w a n c (L.getD i [])
theorem ElB.below {w w' : World} {xs : List Value} {L : List (List Nat)} (h : ElB w xs L) (hb : Below w.heap.size w w') : ElB w' xs L := ⟨h.1, fun i hi => by
  obtain ⟨a, n, c, e, hB⟩ := h.2 i hi
  exact ⟨a, n, c, e, hB.below hb⟩⟩
theorem ElB.one {w : World} {xs : List Value} {L : List (List Nat)} (h : ElB w xs L) : ∀ v ∈ xs, v.oneCell' = true := fun v hv => by
  obtain ⟨i, hi, rfl⟩ := List.getElem_of_mem hv
  obtain ⟨a, n, c, e, _⟩ := h.2 i (by rw [← h.1]; exact hi)
  rw [List.getElem?_eq_getElem hi] at e
  rw [Option.some.inj e]
  rfl
theorem IsL.vs {w : World} {a : Option Addr} {n c : Nat} {L : List (List Nat)} (h : IsL w a n c L) : ∃ xs, Vs w a n c xs ∧ ElB w xs L := by
  obtain ⟨h1, h2, h3, h4, h5⟩ := h
  have hf : ∀ i, ∃ x : Value, i < n → ∃ b off a' n' c', a = some ⟨b, off, none⟩ ∧ b < w.heap.size ∧ w.cell? ⟨b, off + i, none⟩ = some x ∧ x = .slice a' n' c' ∧ IsB w a' n' c' (L.getD i []) := fun i => by
    by_cases hi : i < n
    · obtain ⟨b, off, a', n', c', e, hlt, hc, hB⟩ := h5 i hi
      exact ⟨.slice a' n' c', fun _ => ⟨b, off, a', n', c', e, hlt, hc, rfl, hB⟩⟩
    · exact ⟨.slice none 0 0, fun h => absurd h hi⟩
  obtain ⟨f, hf⟩ := Classical.axiomOfChoice hf
  have hg : ∀ i, i < n → ((List.range n).map f)[i]? = some (f i) := fun i hi => by
    rw [List.getElem?_map, List.getElem?_range hi]
    rfl
  have hE : ElB w ((List.range n).map f) L := by
    refine ⟨by rw [List.length_map, List.length_range, h1], fun i hi => ?_⟩
    obtain ⟨b, off, a', n', c', e, hlt, hc, he, hB⟩ := hf i (by omega)
    exact ⟨a', n', c', by rw [hg i (by omega), he], hB⟩
  refine ⟨(List.range n).map f, ⟨by rw [List.length_map, List.length_range], h2, h3, h4, hE.one, fun i hi => ?_⟩, hE⟩
  obtain ⟨b, off, a', n', c', e, hlt, hc, he, hB⟩ := hf i hi
  exact ⟨b, off, e, hlt, by rw [hg i hi, hc]⟩
theorem own_isL {w : World} {base n : Nat} {v : Value} {xs : List Value} {L : List (List Nat)} (hl : L.length = n) (hE : ElB w xs L) (h : w.ownsRow base 26 1 v n xs) : ∃ a cap, v = .slice a n cap ∧ IsL w a n cap L := by
  rcases h.2 with ⟨rfl, rfl⟩ | ⟨g, cap, cur, rfl, hbs, hg, hn, hm, hs, ht⟩
  · exact ⟨none, 0, rfl, hl, Nat.le_refl _, Nat.zero_le _, fun _ => rfl, fun i hi => absurd hi (Nat.not_lt_zero _)⟩
  · refine ⟨_, cap, rfl, hl, hn, hm, nofun, fun i hi => ?_⟩
    obtain ⟨a, n', c, e, hB⟩ := hE.2 i (by omega)
    refine ⟨g, 0, a, n', c, rfl, heap_ltN hg, ?_, hB⟩
    rw [Nat.zero_add]
    refine cell_blkN hg ?_
    have h1 : cur.toList[i]? = xs[i]? := by
      rw [← ht, List.getElem?_take, if_pos (by omega)]
    rw [e] at h1
    simpa using h1
end Go.Proofs.Ytebikoekpbnpbaa
