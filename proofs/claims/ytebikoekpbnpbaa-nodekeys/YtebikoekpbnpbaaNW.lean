/- NodeFound: what is put is found, what is cut is not -/
import Derived.Test.YtebikoekpbnpbaaNR
import Derived.Test.YtebikoekpbnpbaaNT
namespace Go.Proofs.Ytebikoekpbnpbaa
open Go.RowKit Cod
set_option linter.unusedVariables false
set_option linter.unusedSimpArgs false
theorem srt_rise {l : List (List Nat)} (h : SrtK l) : riseB l = true := by
  unfold riseB
  rw [List.all_eq_true]
  intro i hi
  unfold riseAt
  by_cases h0 : i = 0
  · simp [h0]
  · rw [srt_getD h (i := i - 1) (j := i) (by omega) (List.mem_range.1 hi)]
    simp
theorem mem_delL {α : Type} {l : List α} {i : Nat} {x : α} (h : x ∈ delL l i) : x ∈ l := by
  unfold delL at h
  rcases List.mem_append.1 h with h | h
  · exact List.mem_of_mem_take h
  · exact List.mem_of_mem_drop h
theorem short_del {m : Nat} {l : List (List Nat)} (h : shortB m l = true) (i : Nat) : shortB m (delL l i) = true := by
  unfold shortB at *
  rw [List.all_eq_true] at *
  exact fun x hx => h x (mem_delL hx)
theorem sumB_app (a b : List (List Nat)) : sumB (a ++ b) = sumB a + sumB b := by simp only [sumB, List.map_append, List.sum_append]
theorem sumB_drop (l : List (List Nat)) (i : Nat) : sumB (l.drop i) ≤ sumB l := by
  have h := sumB_app (l.take i) (l.drop i)
  rw [List.take_append_drop] at h
  omega
theorem sumB_del (l : List (List Nat)) (i : Nat) : sumB (delL l i) ≤ sumB l := by
  have h := sumB_app (l.take i) (l.drop i)
  rw [List.take_append_drop] at h
  have h2 := sumB_drop (l.drop i) 1
  rw [List.drop_drop] at h2
  unfold delL
  rw [sumB_app]
  omega
theorem num_mono : ∀ (b a : Nat), a ≤ b → nLen a ≤ nLen b := by
  intro b
  induction b using Nat.strongRecOn with
  | ind b ih =>
    intro a h
    unfold nLen at *
    by_cases h1 : a < 128
    · rw [num_small h1]
      have := List.length_pos_iff.2 (num_ne b)
      simp only [List.length_cons, List.length_nil]
      omega
    · rw [num_great (by omega : 128 ≤ a), num_great (by omega : 128 ≤ b)]
      simp only [List.length_cons]
      have := ih (b / 128) (by omega) (a / 128) (Nat.div_le_div_right h)
      omega
theorem leaf_of {p : Pg} (h : checkE p = 0) (hl : p.leaf = true) : leafB p = true := by
  rcases check_kind h with h | h
  · exact h
  · simp [innerB, hl] at h
theorem size_of {p : Pg} (h : checkE p = 0) : sizeP p ≤ 4096 := by
  have hk := check_kind h
  unfold checkE at h
  rw [if_pos hk] at h
  split at h
  · cases h
  · omega
theorem check_leaf {p : Pg} (h : leafB p = true) (hs : sizeP p ≤ 4096) : checkE p = 0 := by
  unfold checkE
  rw [if_pos (.inl h), if_neg (by omega)]
theorem check_del {p : Pg} (h : checkE p = 0) (hl : p.leaf = true) {i : Nat} (hi : i < p.keys.length) : checkE ⟨true, delL p.keys i, delL p.vals i, []⟩ = 0 := by
  have hB := leaf_of h hl
  have hS := size_of h
  have hsr := check_srt h
  simp only [leafB, keysB, Bool.and_eq_true, decide_eq_true_eq] at hB
  obtain ⟨⟨⟨⟨_, hv⟩, hk⟩, _, h1⟩, h2⟩ := hB
  have e1 := delL_len hi
  have e2 : (delL p.vals i).length = p.vals.length - 1 := delL_len (by omega)
  refine check_leaf ?_ ?_
  · simp only [leafB, keysB, Bool.and_eq_true, decide_eq_true_eq]
    refine ⟨⟨⟨⟨by first | trivial | rfl, by omega⟩, by first | trivial | rfl⟩, srt_rise (srt_del hsr i), short_del h1 i⟩, short_del h2 i⟩
  · unfold sizeP at *
    have a1 := num_mono p.keys.length (delL p.keys i).length (by omega)
    have a2 := sumB_del p.keys i
    have a3 := sumB_del p.vals i
    have a4 : sumK [] = 0 := rfl
    dsimp only
    omega
theorem not_del {l : List (List Nat)} (hs : SrtK l) {i : Nat} (hi : i < l.length) : ¬ l.getD i [] ∈ delL l i := fun h => by
  obtain ⟨j, hj, e⟩ := List.getElem_of_mem h
  rw [delL_len hi] at hj
  have e1 : (delL l i)[j]? = some (l.getD i []) := by rw [List.getElem?_eq_getElem (by rw [delL_len hi]; exact hj), e]
  rw [delL_get l hi] at e1
  by_cases h1 : j < i
  · rw [if_pos h1] at e1
    have e2 : l.getD j [] = l.getD i [] := by rw [List.getD_eq_getElem?_getD, e1]; rfl
    exact ltN_ne (srt_getD hs h1 hi) e2
  · rw [if_neg h1] at e1
    have e2 : l.getD (j + 1) [] = l.getD i [] := by rw [List.getD_eq_getElem?_getD, e1]; rfl
    exact ltN_ne (srt_getD hs (by omega : i < j + 1) (by omega)) e2.symm
theorem putR_no {p : Pg} {key val : List Nat} (h : ¬ (putR p key val).2 = 0) : (putR p key val).1 = Pg0 := by
  unfold putR at h ⊢
  by_cases h0 : leafE p = 0
  · rw [if_pos h0] at h ⊢
    by_cases h1 : 256 < key.length ∨ 512 < val.length
    · rw [if_pos h1]
    · rw [if_neg h1] at h ⊢
      by_cases h2 : checkE (putP p key val) = 0
      · rw [if_pos h2] at h; exact absurd rfl h
      · rw [if_neg h2]
  · rw [if_neg h0]
theorem putR_ok {p : Pg} {key val : List Nat} (h : (putR p key val).2 = 0) : leafE p = 0 ∧ checkE (putP p key val) = 0 ∧ putR p key val = (putP p key val, 0) := by
  unfold putR at h ⊢
  by_cases h0 : leafE p = 0
  · rw [if_pos h0] at h ⊢
    by_cases h1 : 256 < key.length ∨ 512 < val.length
    · rw [if_pos h1] at h; cases h
    · rw [if_neg h1] at h ⊢
      by_cases h2 : checkE (putP p key val) = 0
      · rw [if_pos h2]; exact ⟨h0, h2, rfl⟩
      · rw [if_neg h2] at h; exact absurd h h2
  · rw [if_neg h0] at h; exact absurd h h0
theorem find_leaf {q : Pg} (hc : checkE q = 0) (hl : q.leaf = true) (k : List Nat) : findR q k = (lowK q.keys k, hasK q.keys k, 0) := by
  unfold findR
  rw [if_pos hc, if_neg (by rw [hl]; simp)]
  rfl
theorem leafE_of {q : Pg} (hc : checkE q = 0) (hl : q.leaf = true) : leafE q = 0 := by
  unfold leafE
  rw [if_pos hc, if_pos hl]
theorem hasK_at {l : List (List Nat)} {k : List Nat} (h : hasK l k = true) : lowK l k < l.length ∧ l.getD (lowK l k) [] = k := by
  unfold hasK at h
  rw [Bool.and_eq_true, decide_eq_true_eq, decide_eq_true_eq] at h
  exact h
theorem has_false {l : List (List Nat)} {k : List Nat} (hs : SrtK l) (h : ¬ k ∈ l) : hasK l k = false := by
  cases hh : hasK l k with
  | false => rfl
  | true => exact absurd ((has_iff hs).1 hh) h
theorem leaf_eq {p : Pg} (h : leafB p = true) : p = ⟨true, p.keys, p.vals, []⟩ ∧ p.vals.length = p.keys.length := by
  simp only [leafB, Bool.and_eq_true, decide_eq_true_eq] at h
  obtain ⟨⟨⟨⟨h1, h2⟩, h3⟩, _⟩, _⟩ := h
  obtain ⟨lf, ks, vs, is⟩ := p
  dsimp only at *
  rw [h1, List.length_eq_zero_iff.1 h3]
  exact ⟨rfl, h2⟩
/-- what NodeFound asks, of a page a that was put into and the page b that was cut from it -/
structure FoundP (p a b : Pg) (key val : List Nat) : Prop where
  aleaf : a.leaf = true
  ach : checkE a = 0
  bleaf : b.leaf = true
  bch : checkE b = 0
  afind : ∃ n, findR a key = (n, true, 0) ∧ n < a.vals.length ∧ a.vals.getD n [] = val
  cut : cutR a key = (b, true, 0)
  bfind : ∃ n, findR b key = (n, false, 0)
  lens : b.keys.length + 1 = a.keys.length
  rest : ∀ other, ¬ other = key → ∃ i j x, findR p other = (i, x, 0) ∧ findR b other = (j, x, 0) ∧ (x = true → i < p.vals.length ∧ j < b.vals.length ∧ p.vals.getD i [] = b.vals.getD j [])
theorem cutR_has {q : Pg} {key : List Nat} (hc : checkE q = 0) (hl : q.leaf = true) (hh : hasK q.keys key = true) : cutR q key = (⟨true, delL q.keys (lowK q.keys key), delL q.vals (lowK q.keys key), []⟩, true, 0) := by
  unfold cutR
  rw [if_pos (leafE_of hc hl), hh]
  unfold cutP
  rw [if_pos hh]
theorem found_pure {p : Pg} {key val : List Nat} (h0 : leafE p = 0) (h1 : checkE (putP p key val) = 0) : ∃ b, FoundP p (putP p key val) b key val := by
  obtain ⟨hc, hl⟩ := leafE_0 h0
  have hB := leaf_of hc hl
  obtain ⟨hp, hvk⟩ := leaf_eq hB
  have hs := check_srt hc
  cases hh : hasK p.keys key with
  | true =>
    obtain ⟨hlt, hat⟩ := hasK_at hh
    have ea : putP p key val = ⟨true, p.keys, p.vals.set (lowK p.keys key) val, []⟩ := by unfold putP; rw [if_pos hh]
    rw [ea] at h1 ⊢
    have hlv : lowK p.keys key < (p.vals.set (lowK p.keys key) val).length := by rw [List.length_set]; omega
    have hbc := check_del h1 rfl (i := lowK p.keys key) hlt
    dsimp only at hbc
    have hsd := srt_del hs (lowK p.keys key)
    refine ⟨⟨true, delL p.keys (lowK p.keys key), delL (p.vals.set (lowK p.keys key) val) (lowK p.keys key), []⟩, rfl, h1, rfl, hbc, ⟨lowK p.keys key, ?_, hlv, ?_⟩, cutR_has h1 rfl hh, ⟨lowK (delL p.keys (lowK p.keys key)) key, ?_⟩, ?_, fun other ho => ?_⟩
    · rw [find_leaf h1 rfl]
      dsimp only
      rw [hh]
    · simp only [List.getD_eq_getElem?_getD]
      rw [List.getElem?_set_self (by omega)]
      rfl
    · rw [find_leaf hbc rfl]
      dsimp only
      rw [has_false hsd (by have := not_del hs hlt; rwa [hat] at this)]
    · have := delL_len hlt
      dsimp only
      omega
    · rw [find_leaf hc hl, find_leaf hbc rfl]
      dsimp only
      cases hx : hasK p.keys other with
      | false =>
        rw [has_false hsd (fun hm => by rw [(has_iff hs).2 (mem_delL hm)] at hx; cases hx)]
        exact ⟨_, _, false, rfl, rfl, nofun⟩
      | true =>
        obtain ⟨hi, ho'⟩ := hasK_at hx
        have hne : ¬ lowK p.keys other = lowK p.keys key := fun e => ho (by rw [← ho', e, hat])
        have hd1 : (delL p.keys (lowK p.keys key)).length = p.keys.length - 1 := delL_len hlt
        have hd2 : (delL (p.vals.set (lowK p.keys key) val) (lowK p.keys key)).length = p.vals.length - 1 := by rw [delL_len hlv, List.length_set]
        by_cases hlo : lowK p.keys other < lowK p.keys key
        · have e : (delL p.keys (lowK p.keys key)).getD (lowK p.keys other) [] = other := by
            rw [List.getD_eq_getElem?_getD, delL_get _ hlt, if_pos hlo, ← List.getD_eq_getElem?_getD, ho']
          obtain ⟨e1, e2⟩ := low_of hsd (i := lowK p.keys other) (by omega) e
          rw [e1, e2]
          refine ⟨_, _, true, rfl, rfl, fun _ => ⟨by omega, by omega, ?_⟩⟩
          rw [List.getD_eq_getElem?_getD, List.getD_eq_getElem?_getD, delL_get _ hlv, if_pos hlo, List.getElem?_set_ne (by omega)]
        · have e : (delL p.keys (lowK p.keys key)).getD (lowK p.keys other - 1) [] = other := by
            rw [List.getD_eq_getElem?_getD, delL_get _ hlt, if_neg (by omega), show lowK p.keys other - 1 + 1 = lowK p.keys other by omega, ← List.getD_eq_getElem?_getD, ho']
          obtain ⟨e1, e2⟩ := low_of hsd (i := lowK p.keys other - 1) (by omega) e
          rw [e1, e2]
          refine ⟨_, _, true, rfl, rfl, fun _ => ⟨by omega, by omega, ?_⟩⟩
          rw [List.getD_eq_getElem?_getD, List.getD_eq_getElem?_getD, delL_get _ hlv, if_neg (by omega), show lowK p.keys other - 1 + 1 = lowK p.keys other by omega, List.getElem?_set_ne (by omega)]
  | false =>
    have hle := lowK_le p.keys key
    have ea : putP p key val = ⟨true, insL p.keys (lowK p.keys key) key, insL p.vals (lowK p.keys key) val, []⟩ := by unfold putP; rw [if_neg (by rw [hh]; decide)]
    rw [ea] at h1 ⊢
    obtain ⟨e1, e2⟩ := low_of (srt_ins hs hh) (i := lowK p.keys key) (by rw [insL_len]; omega) (by rw [insL_getD hle, if_neg (by omega), if_pos rfl])
    have hcut := cutR_has (q := ⟨true, insL p.keys (lowK p.keys key) key, insL p.vals (lowK p.keys key) val, []⟩) h1 rfl e2
    dsimp only at hcut
    rw [e1, del_ins hle, del_ins (by omega), ← hp] at hcut
    refine ⟨p, rfl, h1, hl, hc, ⟨lowK p.keys key, ?_, ?_, ?_⟩, hcut, ⟨lowK p.keys key, ?_⟩, ?_, fun other ho => ?_⟩
    · rw [find_leaf h1 rfl]
      dsimp only
      rw [e1, e2]
    · dsimp only
      rw [insL_len]
      omega
    · dsimp only
      rw [insL_getD (by omega), if_neg (by omega), if_pos rfl]
    · rw [find_leaf hc hl, hh]
    · dsimp only
      rw [insL_len]
    · rw [find_leaf hc hl]
      refine ⟨_, _, hasK p.keys other, rfl, rfl, fun hx => ?_⟩
      obtain ⟨hi, _⟩ := hasK_at hx
      exact ⟨by omega, by omega, rfl⟩
end Go.Proofs.Ytebikoekpbnpbaa
