/- right cells as lists -/
import Derived.Test.YtffhkljegopjmaaDoorKJ
namespace Go.Proofs.YtffhkljegopjmaaDoor
def ltC (a b : Cl) : Prop := a.it < b.it ∨ (a.it = b.it ∧ a.wa < b.wa)
theorem Good.pw {l : List Cl} (h : Good l) : l.Pairwise ltC := by
  rw [List.pairwise_iff_getElem]
  intro i j hi hj hij
  have := h.sorted j i hij hj
  rw [List.getD_eq_getElem?_getD, List.getElem?_eq_getElem hi, List.getD_eq_getElem?_getD, List.getElem?_eq_getElem hj] at this
  exact ordC_neg.1 this
theorem Good.each {l : List Cl} (h : Good l) {x : Cl} (hx : x ∈ l) : placeB x.it x.wa = true ∧ sumB x = true := by
  obtain ⟨i, hi, rfl⟩ := List.mem_iff_getElem.1 hx
  have := h.part hi
  rw [List.getD_eq_getElem?_getD, List.getElem?_eq_getElem hi] at this
  exact this
theorem good_of {l : List Cl} (h1 : l.length ≤ 4096) (h2 : l.Pairwise ltC) (h3 : ∀ x ∈ l, placeB x.it x.wa = true ∧ sumB x = true) : Good l := by
  refine ⟨h1, fun i hi => ?_⟩
  unfold okAt
  simp only [Bool.and_eq_true, Bool.or_eq_true, decide_eq_true_eq]
  refine ⟨?_, h3 _ (getD_mem hi)⟩
  cases i with
  | zero => exact .inl rfl
  | succ i =>
    refine .inr ?_
    have := List.pairwise_iff_getElem.1 h2 i (i + 1) (by omega) hi (by omega)
    rw [Nat.add_sub_cancel, List.getD_eq_getElem?_getD, List.getElem?_eq_getElem (by omega), List.getD_eq_getElem?_getD, List.getElem?_eq_getElem hi]
    exact ordC_neg.2 this
theorem ext_sorted : ∀ (l l' : List Cl), l.Pairwise ltC → l'.Pairwise ltC → (∀ x, x ∈ l ↔ x ∈ l') → l = l'
  | [], l', _, _, h => by
    cases l' with
    | nil => rfl
    | cons b r => exact absurd ((h b).2 (List.mem_cons_self ..)) (by simp)
  | a :: r, l', h1, h2, h => by
    cases l' with
    | nil => exact absurd ((h a).1 (List.mem_cons_self ..)) (by simp)
    | cons b r' =>
      rw [List.pairwise_cons] at h1 h2
      have hab : a = b := by
        rcases List.mem_cons.1 ((h a).1 (List.mem_cons_self ..)) with e | e
        · exact e
        · rcases List.mem_cons.1 ((h b).2 (List.mem_cons_self ..)) with e' | e'
          · exact e'.symm
          · have l1 := h2.1 a e
            have l2 := h1.1 b e'
            unfold ltC at l1 l2
            omega
      subst hab
      have : r = r' := ext_sorted r r' h1.2 h2.2 (fun x => by
        have hx := h x
        simp only [List.mem_cons] at hx
        constructor
        · intro hr
          rcases hx.1 (.inr hr) with e | e
          · have := h1.1 x hr; rw [e] at this; unfold ltC at this; omega
          · exact e
        · intro hr
          rcases hx.2 (.inr hr) with e | e
          · have := h2.1 x hr; rw [e] at this; unfold ltC at this; omega
          · exact e)
      rw [this]
theorem mem_tw {α : Type} (p : α → Bool) : ∀ (l : List α) (x : α), x ∈ l.takeWhile p → p x = true
  | [], x, h => by simp at h
  | a :: r, x, h => by
    rw [List.takeWhile_cons] at h
    cases hp : p a
    · rw [hp] at h; simp at h
    · rw [hp] at h
      rcases List.mem_cons.1 h with e | e
      · rw [e]; exact hp
      · exact mem_tw p r x e
/-- right cells at a place: those ahead, those from it on -/
theorem split_at {l : List Cl} (h : l.Pairwise ltC) (t : Cl) : ∃ A D, l = A ++ D ∧ A.length = lowN l t ∧ l.take (lowN l t) = A ∧ l.drop (lowN l t) = D ∧ (∀ x ∈ A, ltC x t) ∧
    ((hasB l t = true ∧ ∃ d D', D = d :: D' ∧ d.it = t.it ∧ d.wa = t.wa ∧ l.getD (lowN l t) Cl0 = d ∧ l.drop (lowN l t + 1) = D' ∧ ∀ x ∈ D', ltC t x) ∨ (hasB l t = false ∧ ∀ x ∈ D, ltC t x)) := by
  obtain ⟨A, hA⟩ : ∃ A, l.takeWhile (fun x => decide (ordC x t < 0)) = A := ⟨_, rfl⟩
  obtain ⟨D, hD⟩ : ∃ D, l.dropWhile (fun x => decide (ordC x t < 0)) = D := ⟨_, rfl⟩
  have hl : l = A ++ D := by rw [← hA, ← hD, List.takeWhile_append_dropWhile]
  have hlen : A.length = lowN l t := by rw [← hA]; rfl
  have ht : l.take (lowN l t) = A := by rw [← hlen]; conv => lhs; rw [hl]
                                        exact List.take_left
  have hd : l.drop (lowN l t) = D := by rw [← hlen]; conv => lhs; rw [hl]
                                        exact List.drop_left
  refine ⟨A, D, hl, hlen, ht, hd, fun x hx => ?_, ?_⟩
  · rw [← hA] at hx
    have := mem_tw _ _ _ hx
    exact ordC_neg.1 (of_decide_eq_true this)
  · have hg : l.getD (lowN l t) Cl0 = D.headD Cl0 := by
      rw [← hlen, List.getD_eq_getElem?_getD]
      conv => lhs; rw [hl]
      rw [List.getElem?_append_right (Nat.le_refl _), Nat.sub_self]
      cases D <;> rfl
    have hb : hasB l t = (decide (lowN l t < l.length) && decide (ordC (l.getD (lowN l t) Cl0) t = 0)) := rfl
    have hlt : lowN l t < l.length ↔ D ≠ [] := by
      rw [← hlen, hl, List.length_append]
      cases D <;> simp
    cases hDD : D with
    | nil =>
      refine .inr ⟨?_, by simp⟩
      rw [hb, decide_eq_false (fun h => absurd hDD (hlt.1 h))]
      rfl
    | cons d D' =>
      have hnd : ¬ ordC d t < 0 := by
        have := List.head?_dropWhile_not (fun x => decide (ordC x t < 0)) l
        rw [hD, hDD] at this
        simpa using this
      rw [ordC_neg] at hnd
      have hpd : D.Pairwise ltC := by rw [hl] at h; exact (List.pairwise_append.1 h).2.1
      rw [hDD, List.pairwise_cons] at hpd
      have hgd : l.getD (lowN l t) Cl0 = d := by rw [hg, hDD]; rfl
      have h1 : decide (lowN l t < l.length) = true := decide_eq_true (hlt.2 (by rw [hDD]; simp))
      by_cases he : d.it = t.it ∧ d.wa = t.wa
      · refine .inl ⟨?_, d, D', rfl, he.1, he.2, hgd, ?_, fun x hx => ?_⟩
        · rw [hb, hgd, h1, Bool.true_and]; exact decide_eq_true (ordC_zero.2 he)
        · rw [← List.drop_drop, hd, hDD]; rfl
        · have := hpd.1 x hx
          unfold ltC at this ⊢
          omega
      · refine .inr ⟨?_, fun x hx => ?_⟩
        · rw [hb, hgd, h1, Bool.true_and]; exact decide_eq_false (fun e => he (ordC_zero.1 e))
        · rcases List.mem_cons.1 hx with e | e
          · rw [e]; unfold ltC; omega
          · have := hpd.1 x e
            unfold ltC at this ⊢
            omega
theorem cellOf_mem {l : List Cl} (h : l.Pairwise ltC) {x : Cl} (hx : x ∈ l) : hasB l (noC x.it x.wa) = true ∧ cellOf l x.it x.wa = x := by
  obtain ⟨A, D, hl, _, _, _, hA, hD⟩ := split_at h (noC x.it x.wa)
  rw [hl] at hx
  rcases List.mem_append.1 hx with hx | hx
  · have := hA x hx
    unfold ltC noC at this
    simp at this
  · rcases hD with ⟨hb, d, D', rfl, h1, h2, hg, _, hr⟩ | ⟨_, hr⟩
    · refine ⟨hb, ?_⟩
      unfold cellOf
      rw [if_pos hb, hg]
      rcases List.mem_cons.1 hx with e | e
      · exact e.symm
      · have := hr x e
        unfold ltC noC at this
        simp at this
    · have := hr x hx
      unfold ltC noC at this
      simp at this
theorem cellOf_not {l : List Cl} (h : l.Pairwise ltC) {it wa : Int} (hn : ∀ x ∈ l, ¬ (x.it = it ∧ x.wa = wa)) : hasB l (noC it wa) = false ∧ cellOf l it wa = noC it wa := by
  obtain ⟨A, D, hl, _, _, _, hA, hD⟩ := split_at h (noC it wa)
  rcases hD with ⟨hb, d, D', rfl, h1, h2, hg, _, hr⟩ | ⟨hb, hr⟩
  · exact absurd ⟨h1, h2⟩ (hn d (by rw [hl]; simp))
  · refine ⟨hb, ?_⟩
    unfold cellOf
    rw [if_neg (by rw [hb]; simp)]
theorem hasB_mem {l : List Cl} (h : l.Pairwise ltC) {it wa : Int} (hb : hasB l (noC it wa) = true) : cellOf l it wa ∈ l ∧ (cellOf l it wa).it = it ∧ (cellOf l it wa).wa = wa := by
  obtain ⟨A, D, hl, _, _, _, hA, hD⟩ := split_at h (noC it wa)
  rcases hD with ⟨_, d, D', rfl, h1, h2, hg, _, hr⟩ | ⟨hb', hr⟩
  · unfold cellOf
    rw [if_pos hb, hg]
    exact ⟨by rw [hl]; simp, h1, h2⟩
  · rw [hb] at hb'; cases hb'
/-- what stands in the cells with one as it is said -/
theorem mem_putC {l : List Cl} (h : l.Pairwise ltC) (it wa : Int) (c x : Cl) : x ∈ putC l it wa c ↔ x = c ∨ (x ∈ l ∧ ¬ (x.it = it ∧ x.wa = wa)) := by
  obtain ⟨A, D, hl, _, htk, hdr, hA, hD⟩ := split_at h (noC it wa)
  unfold putC
  rw [htk]
  rcases hD with ⟨hb, d, D', rfl, h1, h2, hg, hd', hr⟩ | ⟨hb, hr⟩
  · rw [if_pos hb, hd', hl]
    simp only [List.mem_append, List.mem_cons, List.not_mem_nil, or_false]
    constructor
    · rintro ((hx | hx) | hx)
      · refine .inr ⟨.inl hx, ?_⟩
        have := hA x hx; unfold ltC noC at this; simp only at this; omega
      · exact .inl hx
      · refine .inr ⟨.inr (.inr hx), ?_⟩
        have := hr x hx; unfold ltC noC at this; simp only at this; omega
    · rintro (hx | ⟨hx | hx | hx, hn⟩)
      · exact .inl (.inr hx)
      · exact .inl (.inl hx)
      · rw [hx] at hn; exact absurd ⟨h1, h2⟩ hn
      · exact .inr hx
  · rw [if_neg (by rw [hb]; simp), Nat.add_zero, hdr, hl]
    simp only [List.mem_append, List.mem_singleton]
    constructor
    · rintro ((hx | hx) | hx)
      · refine .inr ⟨.inl hx, ?_⟩
        have := hA x hx; unfold ltC noC at this; simp only at this; omega
      · exact .inl hx
      · refine .inr ⟨.inr hx, ?_⟩
        have := hr x hx; unfold ltC noC at this; simp only at this; omega
    · rintro (hx | ⟨hx | hx, hn⟩)
      · exact .inl (.inr hx)
      · exact .inl (.inl hx)
      · exact .inr hx
theorem putC_pw {l : List Cl} (h : l.Pairwise ltC) {it wa : Int} {c : Cl} (hi : c.it = it) (hw : c.wa = wa) : (putC l it wa c).Pairwise ltC ∧ (putC l it wa c).length = l.length + (if hasB l (noC it wa) = true then 0 else 1) := by
  obtain ⟨A, D, hl, hAl, htk, hdr, hA, hD⟩ := split_at h (noC it wa)
  unfold putC
  rw [htk]
  have hp := h
  rw [hl, List.pairwise_append] at hp
  rcases hD with ⟨hb, d, D', rfl, h1, h2, hg, hd', hr⟩ | ⟨hb, hr⟩
  · rw [if_pos hb, if_pos hb, hd']
    constructor
    · rw [List.pairwise_append, List.pairwise_append]
      refine ⟨⟨hp.1, List.pairwise_singleton _ _, ?_⟩, (List.pairwise_cons.1 hp.2.1).2, ?_⟩
      · intro x hx y hy
        rw [List.mem_singleton] at hy
        have := hA x hx
        rw [hy]; unfold ltC noC at *; simp only at this; omega
      · intro x hx y hy
        rcases List.mem_append.1 hx with hx | hx
        · exact hp.2.2 x hx y (List.mem_cons_of_mem _ hy)
        · rw [List.mem_singleton] at hx
          have := hr y hy
          rw [hx]; unfold ltC noC at *; simp only at this; omega
    · rw [hl]; simp
  · rw [if_neg (by rw [hb]; simp), if_neg (by rw [hb]; simp), Nat.add_zero, hdr]
    constructor
    · rw [List.pairwise_append, List.pairwise_append]
      refine ⟨⟨hp.1, List.pairwise_singleton _ _, ?_⟩, hp.2.1, ?_⟩
      · intro x hx y hy
        rw [List.mem_singleton] at hy
        have := hA x hx
        rw [hy]; unfold ltC noC at *; simp only at this; omega
      · intro x hx y hy
        rcases List.mem_append.1 hx with hx | hx
        · exact hp.2.2 x hx y hy
        · rw [List.mem_singleton] at hx
          have := hr y hy
          rw [hx]; unfold ltC noC at *; simp only at this; omega
    · rw [hl]; simp; omega
end Go.Proofs.YtffhkljegopjmaaDoor
