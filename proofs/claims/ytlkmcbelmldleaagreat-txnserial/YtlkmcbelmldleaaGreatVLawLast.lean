/- MvccLast, walked -/
import Derived.Test.YtlkmcbelmldleaaGreatVXb
namespace Go.Proofs.YtlkmcbelmldleaaGreat
open Go.RowKit
set_option maxRecDepth 40000
theorem good_at {low : Nat} {l : List Vr} (h : goodB low l = true) {x : Vr} (hx : x ∈ l) : rightB x = true := by
  obtain ⟨i, hi, e⟩ := List.getElem_of_mem hx
  have := (goodB_iff.1 h).2.2 i hi
  unfold okAt at this
  rw [List.getD_eq_getElem?_getD, List.getElem?_eq_getElem hi] at this
  simp only [Option.getD_some, Bool.and_eq_true] at this
  rw [← e]
  exact this.1
end Go.Proofs.YtlkmcbelmldleaaGreat
