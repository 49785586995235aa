/- the document's Check -/
import Derived.Test.YtlkmcbelmldleaaGreatVC
namespace Go.Proofs.YtlkmcbelmldleaaGreat
open Go.RowKit
set_option maxRecDepth 40000
theorem less_irrefl : ∀ a : List UInt8, Op.bytesLess a a = false := by
  intro a
  induction a with
  | nil => rfl
  | cons x r ih => simp [Op.bytesLess, ih]
theorem less_tri : ∀ a b : List UInt8, Op.bytesLess a b = false → Op.bytesLess b a = false → a = b
  | [], [], _, _ => rfl
  | [], _ :: _, h, _ => by simp [Op.bytesLess] at h
  | _ :: _, [], _, h => by simp [Op.bytesLess] at h
  | x :: r, y :: s, h1, h2 => by
    simp only [Op.bytesLess, Bool.or_eq_false_iff, Bool.and_eq_false_iff, decide_eq_false_iff_not, beq_eq_false_iff_ne] at h1 h2
    have e : x = y := by
      have a1 := h1.1
      have a2 := h2.1
      rw [UInt8.lt_iff_toNat_lt] at a1 a2
      exact UInt8.toNat_inj.1 (by omega)
    subst e
    rw [less_tri r s (h1.2.resolve_left (fun h => h rfl)) (h2.2.resolve_left (fun h => h rfl))]
theorem less_asymm : ∀ a b : List UInt8, Op.bytesLess a b = true → Op.bytesLess b a = false
  | [], [], h => by simp [Op.bytesLess] at h
  | [], _ :: _, _ => by simp [Op.bytesLess]
  | _ :: _, [], h => by simp [Op.bytesLess] at h
  | x :: r, y :: s, h1 => by
    simp only [Op.bytesLess, Bool.or_eq_true, Bool.and_eq_true, decide_eq_true_eq, beq_iff_eq] at h1
    simp only [Op.bytesLess, Bool.or_eq_false_iff, Bool.and_eq_false_iff, decide_eq_false_iff_not, beq_eq_false_iff_ne]
    rcases h1 with h | ⟨rfl, h⟩
    · rw [UInt8.lt_iff_toNat_lt] at h
      refine ⟨fun h' => ?_, .inl (fun e => ?_)⟩
      · rw [UInt8.lt_iff_toNat_lt] at h'; omega
      · subst e; omega
    · exact ⟨fun h' => by rw [UInt8.lt_iff_toNat_lt] at h'; omega, .inr (less_asymm r s h)⟩
/-- what the document asks of neighbours -/
theorem behind_not (x y : Vr) : behindB x y = !(Op.bytesLess y.key.toList x.key.toList || (decide (x.key.toList = y.key.toList) && decide (y.at_ ≤ x.at_))) := by
  unfold behindB
  cases h1 : Op.bytesLess x.key.toList y.key.toList
  · cases h2 : Op.bytesLess y.key.toList x.key.toList
    · have e := less_tri _ _ h1 h2
      rw [decide_eq_true e]
      by_cases h : x.at_ < y.at_
      · simp [h, show ¬ y.at_ ≤ x.at_ by omega]
      · simp [h, show y.at_ ≤ x.at_ by omega]
    · have ne : ¬ x.key.toList = y.key.toList := fun e => by rw [e, less_irrefl] at h2; cases h2
      simp [ne]
  · have h2 := less_asymm _ _ h1
    have ne : ¬ x.key.toList = y.key.toList := fun e => by rw [e, less_irrefl] at h1; cases h1
    simp [h2, ne]
set_option linter.unusedVariables false
end Go.Proofs.YtlkmcbelmldleaaGreat
