/- slices.SortFunc of an own row -/
import Derived.Test.YtlkmcbelmldleaaGreatVP
namespace Go.Proofs.YtlkmcbelmldleaaGreat
open Go.RowKit Go.Shelf Go.Lib Go.Sort
set_option maxRecDepth 40000
section
variable {α : Type} [Inhabited α]
theorem flatK_eq (enc : α → List Value) (k : Nat) (hk : ∀ x, (enc x).length = k) (h0 : 0 < k) (l : List α) : (flatK enc k l.toArray).toList = l.flatMap enc := by
  have hlen : ∀ q : List α, (q.flatMap enc).length = q.length * k := fun q => by
    induction q with
    | nil => simp
    | cons x r ih => rw [List.flatMap_cons, List.length_append, hk, ih, List.length_cons, Nat.succ_mul]; omega
  apply List.ext_getElem?
  intro t
  by_cases ht : t < l.length * k
  · have hq : t / k < l.length := Nat.div_lt_of_lt_mul (by rw [Nat.mul_comm]; exact ht)
    have e := flat_at enc default k hk l (t / k) (t % k) hq (Nat.mod_lt _ h0)
    rw [show t / k * k + t % k = t by rw [Nat.mul_comm]; exact Nat.div_add_mod t k] at e
    rw [e]
    have hm : t % k < (enc (l.getD (t / k) default)).length := by rw [hk]; exact Nat.mod_lt _ h0
    rw [List.getElem?_eq_getElem hm]
    simp only [flatK, Array.toList_map, Array.toList_range, List.size_toArray]
    rw [List.getElem?_map, List.getElem?_range ht]
    simp only [Option.map_some, Option.some.injEq]
    have e2 : l.toArray[t / k]! = l.getD (t / k) default := by
      rw [List.getElem!_toArray, List.getElem!_eq_getElem?_getD, List.getD_eq_getElem?_getD]
    rw [e2, getElem!_pos (enc (l.getD (t / k) default)) (t % k) hm]
  · rw [List.getElem?_eq_none (by simp [flatK]; omega), List.getElem?_eq_none (by rw [hlen]; omega)]
/-- behind a sort: the row's block -/
theorem sort_blk (enc : α → List Value) (k : Nat) (hk : ∀ x, (enc x).length = k) (h0 : 0 < k) {w : World} {g n : Nat} {e : TypeId} {os : Array Obj} {cur : Array Value} {cap : Nat} (l : List α) (hg : w.heap[g]? = some (.cells cur e (0, 0))) (hs : cur.size = cap * k) (hl : l.length ≤ cap) :
    ∃ cur', (sortWorldK enc k w g 0 n l.toArray os).heap[g]? = some (.cells cur' e (0, 0)) ∧ cur'.size = cap * k ∧ cur'.toList.take (l.length * k) = l.flatMap enc := by
  have hlt : g < w.heap.size := heap_lt hg
  refine ⟨putCells id 0 (flatK enc k l.toArray) cur, ?_, by simp [putCells, hs], ?_⟩
  · unfold sortWorldK grow
    show ((putRowK enc k (Sort.ahead w n) g 0 l.toArray).heap ++ os)[g]? = _
    rw [Array.getElem?_append_left (by simp [putRowK, putRow, mapBlock, Sort.ahead]; exact hlt)]
    simp [putRowK, putRow, mapBlock, Sort.ahead, Array.getElem?_modify, hg, onCells]
  · have hle : l.length * k ≤ cur.size := by rw [hs]; exact Nat.mul_le_mul_right k hl
    have e1 := flatK_eq enc k hk h0 l
    have e3 : (flatK enc k l.toArray).size = l.length * k := by simp
    apply List.ext_getElem?
    intro j
    rw [← e1]
    by_cases hj : j < l.length * k
    · rw [List.getElem?_take_of_lt hj, Array.getElem?_toList, Array.getElem?_toList]
      simp only [putCells, Array.getElem?_mapIdx]
      rw [Array.getElem?_eq_getElem (by omega), Array.getElem?_eq_getElem (by rw [e3]; exact hj)]
      simp only [Option.map_some, Option.some.injEq]
      rw [if_pos (by rw [e3]; omega), Nat.sub_zero, getElem!_pos _ _ (by rw [e3]; exact hj)]
      rfl
    · rw [List.getElem?_take_eq_none (by omega), List.getElem?_eq_none (by rw [Array.length_toList, e3]; omega)]
theorem sort_grown (enc : α → List Value) (k : Nat) {w : World} {g n : Nat} {os : Array Obj} (d : Array α) : w.grownBy (sortWorldK enc k w g 0 n d os) (some g) := by
  refine ⟨rfl, rfl, rfl, by simp [sortWorldK, putRowK, Sort.ahead], fun b hb hne => ?_⟩
  unfold sortWorldK grow
  show ((putRowK enc k (Sort.ahead w n) g 0 d).heap ++ os)[b]? = _
  rw [Array.getElem?_append_left (by simp [putRowK, putRow, mapBlock, Sort.ahead]; exact hb)]
  have : g ≠ b := fun e => hne (by rw [e])
  simp [putRowK, putRow, mapBlock, Sort.ahead, Array.getElem?_modify, this]
/-- the row of a slice that owns a list holds it -/
theorem row_holds (enc : α → List Value) (k : Nat) (hk : ∀ x, (enc x).length = k) {w : World} {g cap n : Nat} {e : TypeId} {cur : Array Value} {l : List α} (hl : l.length = n) (hg : w.heap[g]? = some (.cells cur e (0, 0))) (hs : cur.size = cap * k) (ht : cur.toList.take (n * k) = l.flatMap enc) :
    HoldsK enc k w g 0 l.toArray := by
  intro j hj
  rw [size_flatK, List.size_toArray] at hj
  have h0 : 0 < k := by rcases Nat.eq_zero_or_pos k with h | h; · subst h; simp at hj
                        · exact h
  have hq : j / k < l.length := Nat.div_lt_of_lt_mul (by rw [Nat.mul_comm]; exact hj)
  have := own_cells enc default k hk hl hg hs ht (j / k) (j % k) (by omega) (Nat.mod_lt _ h0)
  rw [show 0 + j / k * k + j % k = 0 + j by rw [Nat.add_assoc, Nat.mul_comm, Nat.div_add_mod]] at this
  have hm : j % k < (enc (l.getD (j / k) default)).length := by rw [hk]; exact Nat.mod_lt _ h0
  refine ⟨?_, by simp [World.frozen?, hg]⟩
  rw [this, get_flatK _ _ _ _ (by rw [List.size_toArray]; exact hj), List.getElem?_eq_getElem hm]
  have e2 : l.toArray[j / k]! = l.getD (j / k) default := by
    rw [List.getElem!_toArray, List.getElem!_eq_getElem?_getD, List.getD_eq_getElem?_getD]
  rw [e2, getElem!_pos (enc (l.getD (j / k) default)) (j % k) hm]
  rfl
end
end Go.Proofs.YtlkmcbelmldleaaGreat
