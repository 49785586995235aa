/- MvccSteps, walked -/
import Derived.Test.YtlkmcbelmldleaaGreatVYa
import Derived.Test.YtlkmcbelmldleaaGreatVXc
namespace Go.Proofs.YtlkmcbelmldleaaGreat
open Go.RowKit
set_option maxRecDepth 40000
theorem sweepE_iff {low : Nat} {l : List Vr} {t : Nat} : sweepE low l t = 0 ↔ goodB low l = true ∧ ¬ t < low ∧ ¬ 2305843009213693952 < t := by
  unfold sweepE
  by_cases h1 : goodB low l = true
  · rw [if_pos h1]
    by_cases h2 : t < low
    · rw [if_pos h2]; simp [h2]
    · rw [if_neg h2]
      by_cases h3 : 2305843009213693952 < t
      · rw [if_pos h3]; simp [h3]
      · rw [if_neg h3]; simp [h1, h2]; omega
  · rw [if_neg h1]; simp [h1]
/-- what a sweep answers, as a filter -/
theorem sweepR_yes {low : Nat} {l : List Vr} {t : Nat} (h : sweepE low l t = 0) : sweepR low l t = (l.filter (keepB t l), t, 0) := by
  unfold sweepR
  rw [if_pos h, sweep_filter t l.length 0 l (Nat.le_refl _) (good_srt (sweepE_iff.1 h).1)]
theorem sweepR_zero {low : Nat} {l : List Vr} {t : Nat} (h : (sweepR low l t).2.2 = 0) : sweepE low l t = 0 := by
  by_cases hE : sweepE low l t = 0
  · exact hE
  · unfold sweepR at h
    rw [if_neg hE] at h
    exact absurd h hE
theorem steps_fact {low : Nat} {l : List Vr} {m M : Nat} (hm : m ≤ M) (h : (sweepR low l m).2.2 = 0) :
    (sweepR (sweepR low l m).2.1 (sweepR low l m).1 M).2.2 = (sweepR low l M).2.2 ∧ ((sweepR low l M).2.2 = 0 → sweepR (sweepR low l m).2.1 (sweepR low l m).1 M = sweepR low l M ∧ sweepR (sweepR low l M).2.1 (sweepR low l M).1 M = sweepR low l M) := by
  have h1 := sweepR_zero h
  obtain ⟨g1, g2, g3⟩ := sweepE_iff.1 h1
  rw [sweepR_yes h1]
  dsimp only
  have hg2 := good_sub (low' := m) g1 (by omega) (keepB m l)
  by_cases hM : 2305843009213693952 < M
  · have e1 : sweepE m (l.filter (keepB m l)) M = 2 := by unfold sweepE; rw [if_pos hg2, if_neg (by omega), if_pos hM]
    have e2 : sweepE low l M = 2 := by unfold sweepE; rw [if_pos g1, if_neg (by omega), if_pos hM]
    have r1 : sweepR m (l.filter (keepB m l)) M = ([], 0, 2) := by unfold sweepR; rw [e1, if_neg (by decide)]
    have r2 : sweepR low l M = ([], 0, 2) := by unfold sweepR; rw [e2, if_neg (by decide)]
    rw [r1, r2]
    exact ⟨rfl, fun h => by cases h⟩
  · have e1 : sweepE m (l.filter (keepB m l)) M = 0 := sweepE_iff.2 ⟨hg2, by omega, hM⟩
    have e2 : sweepE low l M = 0 := sweepE_iff.2 ⟨g1, by omega, hM⟩
    have e3 : sweepE M (l.filter (keepB M l)) M = 0 := sweepE_iff.2 ⟨good_sub g1 (by omega) _, by omega, hM⟩
    rw [sweepR_yes e1, sweepR_yes e2, keep_twice hm]
    refine ⟨rfl, fun _ => ⟨rfl, ?_⟩⟩
    dsimp only
    rw [sweepR_yes e3, keep_twice (Nat.le_refl M)]
end Go.Proofs.YtlkmcbelmldleaaGreat
