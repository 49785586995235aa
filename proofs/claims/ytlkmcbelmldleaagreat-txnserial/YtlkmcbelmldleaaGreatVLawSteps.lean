/- MvccSteps, walked -/
import Derived.Test.YtlkmcbelmldleaaGreatVYa
import Derived.Test.YtlkmcbelmldleaaGreatVXb
namespace Go.Proofs.YtlkmcbelmldleaaGreat
open Go.RowKit
set_option maxRecDepth 40000
theorem sweepE_iff {low : Nat} {l : List Vr} {t : Nat} : sweepE low l t = 0 ↔ goodB low l = true ∧ ¬ t < low ∧ ¬ 2305843009213693952 < t := by
  unfold sweepE
  by_cases h1 : goodB low l = true
  · rw [if_pos h1]
    by_cases h2 : t < low
    · rw [if_pos h2]; simp [h2]
    · rw [if_neg h2]
      by_cases h3 : 2305843009213693952 < t
      · rw [if_pos h3]; simp [h3]
      · rw [if_neg h3]; simp [h1, h2]; omega
  · rw [if_neg h1]; simp [h1]
/-- what a sweep answers, as a filter -/
theorem sweepR_yes {low : Nat} {l : List Vr} {t : Nat} (h : sweepE low l t = 0) : sweepR low l t = (l.filter (keepB t l), t, 0) := by
  unfold sweepR
  rw [if_pos h, sweep_filter t l.length 0 l (Nat.le_refl _) (good_srt (sweepE_iff.1 h).1)]
end Go.Proofs.YtlkmcbelmldleaaGreat
