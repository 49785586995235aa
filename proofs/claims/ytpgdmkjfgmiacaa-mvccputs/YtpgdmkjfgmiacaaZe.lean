/- a sweep by neighbours -/
import Derived.Test.YtpgdmkjfgmiacaaLawSteps
namespace Go.Proofs.Ytpgdmkjfgmiacaa
open Go.RowKit
/-- the next version is of one key, and not behind the time -/
def nextB (t : Nat) (x : Vr) : Option Vr → Bool
  | none => false
  | some y => (y.key.toList == x.key.toList) && decide (y.at_ ≤ t)
def stayB (t : Nat) (x : Vr) (n : Option Vr) : Bool := !nextB t x n && (!x.gone || decide (t < x.at_))
/-- what the document's sweep leaves -/
def docS (t : Nat) : List Vr → List Vr
  | [] => []
  | x :: r => (if stayB t x r.head? = true then [x] else []) ++ docS t r
theorem docS_len (t : Nat) : ∀ l : List Vr, (docS t l).length ≤ l.length
  | [] => Nat.le_refl _
  | x :: r => by
    have := docS_len t r
    rw [docS, List.length_append]
    by_cases h : stayB t x r.head? = true
    · rw [if_pos h]; simp; omega
    · rw [if_neg h]; simp; omega
theorem stay_keep {t : Nat} {x : Vr} {r : List Vr} (h : Srt (x :: r)) : keepB t (x :: r) x = stayB t x r.head? := by
  obtain ⟨h1, h2⟩ := List.pairwise_cons.1 h
  rw [Bool.eq_iff_iff, keep_iff]
  unfold stayB
  cases r with
  | nil =>
    simp only [List.head?_nil, nextB, Bool.not_false, Bool.true_and, Bool.or_eq_true, Bool.not_eq_true', decide_eq_true_eq]
    constructor
    · rintro (h | ⟨h, _⟩)
      · exact .inr h
      · exact .inl h
    · rintro (h | h)
      · refine .inr ⟨h, fun y hy => ?_⟩
        rcases List.mem_cons.1 hy with rfl | hy
        · rintro ⟨_, h, _⟩; omega
        · cases hy
      · exact .inl h
  | cons y s =>
    simp only [List.head?_cons, nextB, Bool.and_eq_true, Bool.or_eq_true, Bool.not_eq_true', decide_eq_true_eq, Bool.and_eq_false_iff, beq_eq_false_iff_ne, decide_eq_false_iff_not, ne_eq]
    have hxy := h1 y (by simp)
    constructor
    · rintro (h | ⟨h, ha⟩)
      · refine ⟨?_, .inr h⟩
        by_cases e : y.key.toList = x.key.toList
        · have := srt_at hxy e; exact .inr (by omega)
        · exact .inl e
      · refine ⟨?_, .inl h⟩
        by_cases e : y.key.toList = x.key.toList
        · refine .inr (fun h3 => ha y (by simp) ⟨e, srt_at hxy e, h3⟩)
        · exact .inl e
    · rintro ⟨hn, hg⟩
      by_cases ht : t < x.at_
      · exact .inl ht
      · have hgf : x.gone = false := by
          rcases hg with hg | hg
          · exact hg
          · exact absurd hg ht
        refine .inr ⟨hgf, fun z hz => ?_⟩
        rintro ⟨e1, e2, e3⟩
        rcases List.mem_cons.1 hz with rfl | hz
        · omega
        rcases List.mem_cons.1 hz with rfl | hz
        · rcases hn with hn | hn
          · exact hn e1
          · exact hn e3
        · have hyz := (List.pairwise_cons.1 h2).1 z hz
          -- y lies between x and z, so it has their key
          have ek : y.key.toList = x.key.toList := by
            have a1 : Op.bytesLess y.key.toList x.key.toList = false := by
              cases hq : Op.bytesLess y.key.toList x.key.toList
              · rfl
              · unfold behindB at hxy
                have := less_asymm _ _ hq
                simp [this] at hxy
                rw [hxy.1, less_irrefl] at hq; cases hq
            have a2 : Op.bytesLess x.key.toList y.key.toList = false := by
              cases hq : Op.bytesLess x.key.toList y.key.toList
              · rfl
              · rw [← e1] at hq
                unfold behindB at hyz
                have := less_asymm _ _ hq
                simp [this] at hyz
                rw [← hyz.1, less_irrefl] at hq; cases hq
            exact less_tri _ _ a1 a2
          have := srt_at hyz (e1.trans ek.symm)
          rcases hn with hn | hn
          · exact hn ek
          · omega
theorem docS_filter (t : Nat) : ∀ l : List Vr, Srt l → docS t l = l.filter (keepB t l)
  | [], _ => rfl
  | x :: r, h => by
    have h2 := (List.pairwise_cons.1 h).2
    rw [docS, docS_filter t r h2, List.filter_cons, stay_keep h]
    have : r.filter (keepB t (x :: r)) = r.filter (keepB t r) := List.filter_congr (fun z hz => keep_cons h z hz)
    rw [this]
    cases stayB t x r.head? <;> simp
theorem docS_step (t : Nat) (l : List Vr) (k : Nat) (h : k < l.length) : docS t (l.drop k) = (if stayB t (l.getD k Vr0) l[k + 1]? = true then [l.getD k Vr0] else []) ++ docS t (l.drop (k + 1)) := by
  rw [drop_getD l k h, docS]
  simp
end Go.Proofs.Ytpgdmkjfgmiacaa
