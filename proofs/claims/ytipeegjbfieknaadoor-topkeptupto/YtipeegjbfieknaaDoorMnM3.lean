/- contracts: areWeights, part, handOut -/
import Derived.Test.YtipeegjbfieknaaDoorMnM2
import Derived.Deep.QuietTactic
import Derived.BigQuiet
namespace Go.Proofs.YtipeegjbfieknaaDoor.Mn
open Go.RowKit Go.Shelf
set_option maxRecDepth 40000
def aw (l : List Int) : Bool := l.all (fun x => decide (0 ≤ x)) && l.any (fun x => decide (0 < x))
theorem take_snocI (l : List Int) (k : Nat) (h : k < l.length) : l.take (k + 1) = l.take k ++ [l.getD k 0] := by
  rw [List.take_succ_eq_append_getElem h, List.getD_eq_getElem?_getD, List.getElem?_eq_getElem h]; rfl
theorem aw_neg (l : List Int) (k : Nat) (h : k < l.length) (hn : l.getD k 0 < 0) : aw l = false := by
  unfold aw
  have : l.all (fun x => decide (0 ≤ x)) = false := by
    rw [List.all_eq_false]
    refine ⟨l[k], List.getElem_mem h, ?_⟩
    rw [List.getD_eq_getElem?_getD, List.getElem?_eq_getElem h] at hn
    simp at hn
    simp; omega
  rw [this]; rfl
theorem ret_u2 {a b c d : Int} (h : a = b) (h' : c = d) : Ending.returned (.tuple #[.int .u64 a, .int .u64 c]) = .returned (.tuple #[.int .u64 b, .int .u64 d]) := by rw [h, h']
theorem ret_i64 {a b : Int} (h : a = b) : Ending.returned (.int .i64 a) = .returned (.int .i64 b) := by rw [h]
def RowI (w : World) (g len cap : Nat) (m : List Int) : Prop :=
  m.length = len ∧ len ≤ cap ∧ cap ≤ maxLen ∧ ∃ cur : Array Value, w.heap[g]? = some (.cells cur 2 (0, 0)) ∧ cur.size = cap ∧ cur.toList.take len = iv m
theorem RowI.lt {w : World} {g len cap : Nat} {m : List Int} (h : RowI w g len cap m) : g < w.heap.size := by
  obtain ⟨_, _, _, cur, hg, _⟩ := h
  exact (Array.getElem?_eq_some_iff.1 hg).1
theorem RowI.cell {w : World} {g len cap : Nat} {m : List Int} (h : RowI w g len cap m) {j : Nat} (hj : j < len) : w.cell? ⟨g, j, none⟩ = some (.int .i64 (m.getD j 0)) := by
  obtain ⟨h1, h2, h3, cur, hg, hs, ht⟩ := h
  have hv := iv_get m j (by omega)
  rw [← ht, List.getElem?_take, if_pos (by omega)] at hv
  simp only [World.cell?, hg]
  simpa using hv
theorem RowI.frozen {w : World} {g len cap : Nat} {m : List Int} (h : RowI w g len cap m) (j : Nat) : w.frozen? ⟨g, j, none⟩ = false := by
  obtain ⟨h1, h2, h3, cur, hg, hs, ht⟩ := h
  simp [World.frozen?, hg]
theorem RowI.set {w : World} {g len cap : Nat} {m : List Int} (h : RowI w g len cap m) (j : Nat) (x : Int) : RowI (w.setCell ⟨g, j, none⟩ (.int .i64 x)) g len cap (m.set j x) := by
  obtain ⟨h1, h2, h3, cur, hg, hs, ht⟩ := h
  refine ⟨by simpa using h1, h2, h3, cur.setIfInBounds j (.int .i64 x), ?_, by simpa using hs, ?_⟩
  · simp [World.setCell, Array.getElem?_modify, hg]
  · simp only [Array.toList_setIfInBounds, List.take_set, ht]
    simp [iv, List.map_set]
theorem RowI.below {B : Nat} {w w1 : World} {g len cap : Nat} {m : List Int} (h : RowI w g len cap m) (hb : Below B w w1) (hg : g < B) : RowI w1 g len cap m := by
  obtain ⟨h1, h2, h3, cur, hg', hs, ht⟩ := h
  exact ⟨h1, h2, h3, cur, by rw [hb.block g hg]; exact hg', hs, ht⟩
theorem RowI.isI {w : World} {g len cap : Nat} {m : List Int} (h : RowI w g len cap m) (hx : ∀ x ∈ m, -9223372036854775808 ≤ x ∧ x ≤ 9223372036854775807) : IsI w (some ⟨g, 0, none⟩) len cap m :=
  ⟨h.1, h.2.1, h.2.2.1, hx, .inr ⟨g, 0, rfl, h.lt, fun i hi => by rw [Nat.zero_add]; exact h.cell hi⟩⟩
theorem IsI.below {w w1 : World} {a : Option Addr} {len cap : Nat} {l : List Int} (h : IsI w a len cap l) (hb : Below w.heap.size w w1) : IsI w1 a len cap l := by
  obtain ⟨h1, h2, h3, h4, h5⟩ := h
  refine ⟨h1, h2, h3, h4, ?_⟩
  rcases h5 with h5 | ⟨b, off, rfl, hlt, hc⟩
  · exact .inl h5
  · exact .inr ⟨b, off, rfl, Nat.lt_of_lt_of_le hlt hb.size, fun i hi => (hb.cell (p := ⟨b, off + i, none⟩) hlt).trans (hc i hi)⟩
/-- what is left, one each, to the first that have a weight -/
def hand : Int → List Int → List Int → List Int
  | n, s :: ss, x :: xs => if 0 < n ∧ 0 < x then (s + 1) :: hand (n - 1) ss xs else s :: hand n ss xs
  | _, ss, _ => ss
theorem hand_step (n : Int) (m W : List Int) (k : Nat) (h1 : k < m.length) (h2 : k < W.length) :
    hand n (m.drop k) (W.drop k) = if 0 < n ∧ 0 < W.getD k 0 then (m.getD k 0 + 1) :: hand (n - 1) (m.drop (k + 1)) (W.drop (k + 1)) else m.getD k 0 :: hand n (m.drop (k + 1)) (W.drop (k + 1)) := by
  rw [List.drop_eq_getElem_cons h1, List.drop_eq_getElem_cons h2]
  simp only [hand, List.getD_eq_getElem?_getD, List.getElem?_eq_getElem h1, List.getElem?_eq_getElem h2, Option.getD_some]
end Go.Proofs.YtipeegjbfieknaaDoor.Mn
