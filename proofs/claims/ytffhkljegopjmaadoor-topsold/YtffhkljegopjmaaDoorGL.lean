/- pays that postings come to rise by their orders -/
import Derived.Test.YtffhkljegopjmaaDoorGK
namespace Go.Proofs.YtffhkljegopjmaaDoor.Lg
open Go.RowKit
set_option maxRecDepth 40000
/-- each place has its own order's pay, or none -/
def IdxR (A : List Py) : Prop := A.length = 1025 ∧ (∀ x ∈ A, inB x) ∧ ∀ i, i < 1025 → (A.getD i Py0).o = (i : Int) ∨ A.getD i Py0 = Py0
theorem step_idx {A B : List Py} {x : Pg} (h : stepR A x = some B) (hA : IdxR A) : IdxR B := by
  unfold stepR at h
  split at h
  case isFalse => cases h
  case isTrue hp =>
    split at h
    case isTrue => cases h
    case isFalse hb =>
      cases h
      have hb' : beyB (behR (A.getD x.o.toNat Py0) x) = false := by simpa using hb
      have ht : x.o.toNat < 1025 ∧ ((x.o.toNat : Nat) : Int) = x.o := by
        simp only [postB, ordB, Bool.and_eq_true, decide_eq_true_eq] at hp
        omega
      have hin : inB (A.getD x.o.toNat Py0) := hA.2.1 _ (by
        have hl : x.o.toNat < A.length := by rw [hA.1]; exact ht.1
        rw [List.getD_eq_getElem?_getD, List.getElem?_eq_getElem hl]
        exact List.getElem_mem hl)
      refine ⟨by rw [List.length_set]; exact hA.1, fun y hy => (List.mem_or_eq_of_mem_set hy).elim (hA.2.1 y) (fun e => e ▸ inB_beh hin hp hb'), fun i hi => ?_⟩
      by_cases hi2 : i = x.o.toNat
      · subst hi2
        left
        rw [List.getD_eq_getElem?_getD, List.getElem?_set_self (by rw [hA.1]; exact ht.1)]
        exact ht.2.symm
      · rw [List.getD_eq_getElem?_getD, List.getElem?_set_ne (fun e => hi2 e.symm), ← List.getD_eq_getElem?_getD]
        exact hA.2.2 i hi
theorem fold_idx : ∀ (G : List Pg) {A B : List Py}, foldR G A = some B → IdxR A → IdxR B
  | [], A, B, h, hA => by cases h; exact hA
  | x :: r, A, B, h, hA => by
    unfold foldR at h
    split at h
    · cases h
    · exact fold_idx r h (step_idx (by assumption) hA)
theorem idx_zero : IdxR (List.replicate 1025 Py0) := by
  refine ⟨List.length_replicate .., fun x hx => ?_, fun i hi => .inr ?_⟩
  · rw [(List.mem_replicate.1 hx).2]; unfold inB i64B Py0; simp
  · rw [List.getD_eq_getElem?_getD, List.getElem?_replicate, if_pos hi]; rfl
/-- pays that rise by their orders -/
def Rise (P : List Py) : Prop := P.Pairwise (fun x y => x.o < y.o)
theorem pays_rise {G : List Pg} {P : List Py} (h : paysR G = some P) : Rise P ∧ P.length ≤ 1025 ∧ ∀ x ∈ P, inB x := by
  unfold paysR at h
  split at h
  case isFalse => cases h
  case isTrue =>
    cases hf : foldR G (List.replicate 1025 Py0) with
    | none => rw [hf] at h; cases h
    | some A =>
      rw [hf] at h
      have hA := fold_idx G hf idx_zero
      simp only [Option.bind_some] at h
      split at h
      case isTrue => cases h
      case isFalse =>
        cases h
        refine ⟨?_, ?_, fun x hx => hA.2.1 x (List.mem_filter.1 hx).1⟩
        · unfold Rise
          rw [List.pairwise_filter, List.pairwise_iff_getElem]
          intro i j hi hj hij h1 h2
          have e : ∀ k (hk : k < A.length), (!noneB A[k]) = true → A[k].o = (k : Int) := fun k hk hn => by
            have := hA.2.2 k (by rw [← hA.1]; exact hk)
            rw [List.getD_eq_getElem?_getD, List.getElem?_eq_getElem hk] at this
            rcases this with h | h
            · exact h
            · simp only [Option.getD_some] at h
              rw [h] at hn
              exact absurd hn (by decide)
          rw [e i hi h1, e j hj h2]
          omega
        · rw [← hA.1]
          exact List.length_filter_le _ _
theorem mono_of_rise {P : List Py} (h : Rise P) (n : Int) : MonoP P n := by
  intro a b hab hb hc
  by_cases e : a = b
  · subst e; exact hc
  · have := List.pairwise_iff_getElem.1 h a b (by omega) hb (by omega)
    rw [List.getD_eq_getElem?_getD, List.getElem?_eq_getElem hb] at hc
    rw [List.getD_eq_getElem?_getD, List.getElem?_eq_getElem (by omega)]
    simp only [Option.getD_some] at hc ⊢
    unfold cmpI at hc ⊢
    split at hc
    · rw [if_pos (by omega)]; decide
    · split at hc <;> omega
end Go.Proofs.YtffhkljegopjmaaDoor.Lg
