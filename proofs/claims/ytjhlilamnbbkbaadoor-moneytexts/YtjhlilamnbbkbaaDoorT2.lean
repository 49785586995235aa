/- the document's way of reading, over lists of bytes alone -/
import Derived.Test.YtjhlilamnbbkbaaDoorT1
namespace Go.Proofs.YtjhlilamnbbkbaaDoor
open Go.RowKit Go.Shelf Go.Sort Go.Lib
def val (L : List UInt8) : Nat := L.foldl (fun n b => n * 10 + (b.toNat - 48)) 0
theorem val_snoc (L : List UInt8) (b : UInt8) : val (L ++ [b]) = val L * 10 + (b.toNat - 48) := by simp [val]
theorem fold_ge (L : List UInt8) : ∀ n, n ≤ L.foldl (fun n b => n * 10 + (b.toNat - 48)) n := by
  induction L with
  | nil => intro n; simp
  | cons b r ih => intro n; simp only [List.foldl_cons]; exact Nat.le_trans (by omega) (ih _)
theorem rd_fold (L : List UInt8) : ∀ n, (∃ v, rd n L = some v ∧ v = L.foldl (fun n b => n * 10 + (b.toNat - 48)) n) ∨ (rd n L = none ∧ 9223372036854775809 < L.foldl (fun n b => n * 10 + (b.toNat - 48)) n) := by
  induction L with
  | nil => intro n; exact .inl ⟨n, rfl, rfl⟩
  | cons b r ih =>
    intro n
    simp only [rd, List.foldl_cons]
    by_cases h : 922337203685477580 < n
    · rw [if_pos h]
      have := fold_ge r (n * 10 + (b.toNat - 48))
      exact .inr ⟨rfl, by omega⟩
    · rw [if_neg h]; exact ih _
/-- what the number v, with or without a sign, is read as -/
def parV (v : Nat) (neg : Bool) : Int × Int :=
  if neg then (if v = 0 then (0, 14) else if 9223372036854775808 < v then (0, 5) else (-(v : Int), 0)) else (if 9223372036854775807 < v then (0, 5) else ((v : Int), 0))
theorem sgn_val (D : List UInt8) (neg : Bool) : (match rd 0 D with | none => (0, 5) | some a => sgn a neg) = parV (val D) neg := by
  rcases rd_fold D 0 with ⟨v, h1, h2⟩ | ⟨h1, h2⟩
  · rw [h1]
    have : val D = v := h2.symm
    rw [this]
    unfold sgn parV
    cases neg
    · simp only [Bool.false_eq_true, if_false]
      by_cases h : v ≤ 9223372036854775807
      · rw [if_pos h, if_neg (by omega)]
      · rw [if_neg h, if_pos (by omega)]
    · simp only [if_true]
      by_cases h0 : v = 0
      · rw [if_pos h0, if_pos h0]
      · rw [if_neg h0, if_neg h0]
        by_cases h : v ≤ 9223372036854775808
        · rw [if_pos h, if_neg (by omega)]
        · rw [if_neg h, if_pos (by omega)]
  · rw [h1]
    have : 9223372036854775809 < val D := h2
    unfold parV
    cases neg
    · simp only [Bool.false_eq_true, if_false]
      rw [if_pos (by omega)]
    · simp only [if_true]
      rw [if_neg (by omega), if_pos (by omega)]
/-- the first look at a text's body -/
def Bad (T : List UInt8) : Prop := T.length < 4 ∨ T.getD (T.length - 3) 0 ≠ 46 ∨ (T.getD 0 0 = 48 ∧ 4 < T.length)
def dropDot (T : List UInt8) : List UInt8 := T.take (T.length - 3) ++ T.drop (T.length - 2)
theorem take_len (T : List UInt8) (h : 4 ≤ T.length) (hd : T.getD (T.length - 3) 0 = 46) : T = T.take (T.length - 3) ++ 46 :: T.drop (T.length - 2) := by
  have h1 : T.length - 3 < T.length := by omega
  have h2 : T[T.length - 3] = 46 := by
    rw [List.getD_eq_getElem?_getD, List.getElem?_eq_getElem h1] at hd
    simpa using hd
  have h3 := List.drop_eq_getElem_cons h1
  rw [h2, show T.length - 3 + 1 = T.length - 2 by omega] at h3
  rw [← h3, List.take_append_drop]
theorem fine_good (T : List UInt8) (hb : ¬ Bad T) (hd : dig (dropDot T) = true) : fine T = true ∧ (pcut T).1 ++ (pcut T).2 = dropDot T := by
  unfold Bad at hb
  have h4 : 4 ≤ T.length := by
    by_cases h : T.length < 4
    · exact absurd (.inl h) hb
    · omega
  have hdot : T.getD (T.length - 3) 0 = 46 := by
    by_cases h : T.getD (T.length - 3) 0 = 46
    · exact h
    · exact absurd (.inr (.inl h)) hb
  have hz : ¬ (T.getD 0 0 = 48 ∧ 4 < T.length) := fun h => hb (.inr (.inr h))
  have hT := take_len T h4 hdot
  have hd' := hd
  unfold dropDot at hd'
  have hdW : dig (T.take (T.length - 3)) = true := by
    unfold dig at hd' ⊢
    rw [List.all_append, Bool.and_eq_true] at hd'
    exact hd'.1
  have hdC : dig (T.drop (T.length - 2)) = true := by
    unfold dig at hd' ⊢
    rw [List.all_append, Bool.and_eq_true] at hd'
    exact hd'.2
  have hcut : pcut T = (T.take (T.length - 3), T.drop (T.length - 2)) := by
    rw [hT]
    have := pcut_at (T.take (T.length - 3)) (T.drop (T.length - 2)) (dig_no46 hdW)
    rw [← hT] at this ⊢
    exact this
  refine ⟨?_, by rw [hcut]; rfl⟩
  unfold fine
  rw [hcut]
  have hl2 : (T.drop (T.length - 2)).length = 2 := by simp; omega
  have hwh : whole (T.take (T.length - 3)) = true := by
    unfold whole
    rw [hdW]
    cases T with
    | nil => simp at h4
    | cons x r =>
      have hx : (x :: r).take ((x :: r).length - 3) = x :: r.take (r.length - 3) := by
        simp only [List.length_cons] at h4 ⊢
        rw [show r.length + 1 - 3 = (r.length - 3) + 1 by omega, List.take_succ_cons]
      rw [hx]
      by_cases h48 : x = 48
      · have : ¬ 4 < (x :: r).length := fun h => hz ⟨by simpa using h48, h⟩
        have hr : r.length - 3 = 0 := by simp only [List.length_cons] at *; omega
        rw [hr, h48]; rfl
      · simp [h48]
  rw [hwh, hl2, hdC]
  cases hC : T.drop (T.length - 2) with
  | nil => rw [hC] at hl2; simp at hl2
  | cons c r => rfl
theorem fine_bad (T : List UInt8) (h : fine T = true) : ¬ Bad T ∧ dig (dropDot T) = true := by
  unfold fine at h
  rw [Bool.and_eq_true, Bool.and_eq_true, Bool.and_eq_true] at h
  obtain ⟨hw, hl, hd, _⟩ := h
  have hl' : (pcut T).2.length = 2 := of_decide_eq_true hl
  have hB := pcut_back T (by intro h; rw [h] at hl'; simp at hl')
  have hdw := whole_dig hw
  generalize (pcut T).1 = W at *
  generalize (pcut T).2 = C at *
  have hW0 : W ≠ [] := by
    intro h; subst h; simp [whole, dig] at hw
  have hWl : 0 < W.length := by
    cases W with
    | nil => exact absurd rfl hW0
    | cons x r => simp
  have hTl : T.length = W.length + 3 := by rw [hB]; simp [hl']
  have hdr : dropDot T = W ++ C := by
    unfold dropDot
    rw [show T.length - 3 = W.length by omega, show T.length - 2 = W.length + 1 by omega, hB]
    simp
  refine ⟨?_, by rw [hdr]; exact dig_app hdw hd⟩
  intro hbad
  rcases hbad with h | h | ⟨h, h4⟩
  · omega
  · apply h
    rw [show T.length - 3 = W.length by omega, hB]
    simp
  · cases W with
    | nil => exact hW0 rfl
    | cons x r =>
      have hx : x = 48 := by rw [hB] at h; simpa using h
      unfold whole at hw
      rw [Bool.and_eq_true, Bool.or_eq_true] at hw
      rcases hw.2 with h1 | h1
      · have : (x :: r) = [48] := by simpa using h1
        rw [this] at hTl
        simp at hTl; omega
      · simp [hx] at h1
/-- par, as the document has it -/
theorem parB_bad (T : List UInt8) (neg : Bool) (h : Bad T ∨ dig (dropDot T) = false) : parB T neg = (0, 14) := by
  unfold parB
  rw [if_neg]
  intro hf
  obtain ⟨h1, h2⟩ := fine_bad T hf
  rcases h with h | h
  · exact h1 h
  · rw [h2] at h; cases h
theorem parB_good (T : List UInt8) (neg : Bool) (hb : ¬ Bad T) (hd : dig (dropDot T) = true) : parB T neg = parV (val (dropDot T)) neg := by
  obtain ⟨h1, h2⟩ := fine_good T hb hd
  unfold parB
  rw [if_pos h1, h2]
  exact sgn_val _ _
end Go.Proofs.YtjhlilamnbbkbaaDoor
