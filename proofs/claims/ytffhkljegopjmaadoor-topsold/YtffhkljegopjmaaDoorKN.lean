/- moves of lists -/
import Derived.Test.YtffhkljegopjmaaDoorKM
namespace Go.Proofs.YtffhkljegopjmaaDoor
/-- a move goes -/
structure Goes (k : Nat) (l : List Cl) (it wa n : Int) : Prop where
  good : Good l
  place : placeB it wa = true
  n1 : 1 ≤ n
  n2 : n ≤ 1048576
  chg : (chgR k (cellOf l it wa) n).1 = 0
  room : hasB l (noC it wa) = true ∨ l.length ≠ 4096
theorem moveR_goes {k : Nat} {l : List Cl} {it wa n : Int} (h : Goes k l it wa n) : moveR k l it wa n = (putC l it wa (chgR k (cellOf l it wa) n).2, 0) := by
  unfold moveR
  rw [if_neg (by rw [goodB_iff.2 h.good]; simp), if_neg (fun e => e ⟨h.place, h.n1, h.n2⟩), if_neg (fun e => e h.chg), if_neg]
  rintro ⟨h1, h2⟩
  rcases h.room with h3 | h3
  · rw [h1] at h3; cases h3
  · exact h3 h2
theorem moveR_cases (k : Nat) (l : List Cl) (it wa n : Int) : ((moveR k l it wa n).2 ≠ 0 ∧ (moveR k l it wa n).1 = []) ∨ Goes k l it wa n := by
  by_cases h1 : goodB l = false
  · left; unfold moveR; rw [if_pos h1]; exact ⟨by decide, rfl⟩
  by_cases h2 : ¬ (placeB it wa = true ∧ 1 ≤ n ∧ n ≤ 1048576)
  · left; unfold moveR; rw [if_neg h1, if_pos h2]; exact ⟨by decide, rfl⟩
  by_cases h3 : (chgR k (cellOf l it wa) n).1 ≠ 0
  · left; unfold moveR; rw [if_neg h1, if_neg h2, if_pos h3]; exact ⟨h3, rfl⟩
  by_cases h4 : hasB l (noC it wa) = false ∧ l.length = 4096
  · left; unfold moveR; rw [if_neg h1, if_neg h2, if_neg h3, if_pos h4]; exact ⟨by decide, rfl⟩
  · right
    have h2' := Classical.not_not.1 h2
    refine ⟨goodB_iff.1 (by simpa using h1), h2'.1, h2'.2.1, h2'.2.2, Classical.not_not.1 h3, ?_⟩
    cases hb : hasB l (noC it wa)
    · exact .inr (fun e => h4 ⟨hb, e⟩)
    · exact .inl rfl
/-- the cells behind a move -/
structure Behind (l r : List Cl) (it wa : Int) (c : Cl) : Prop where
  good : Good r
  has : hasB r (noC it wa) = true
  cell : cellOf r it wa = c
  other : ∀ i w, ¬ (i = it ∧ w = wa) → cellOf r i w = cellOf l i w ∧ hasB r (noC i w) = hasB l (noC i w)
  len : r.length = l.length + (if hasB l (noC it wa) = true then 0 else 1)
theorem putC_behind {l : List Cl} (hl : Good l) {it wa : Int} {c : Cl} (hi : c.it = it) (hw : c.wa = wa) (hp : placeB it wa = true) (hs : sumB c = true) (hr : hasB l (noC it wa) = true ∨ l.length ≠ 4096) : Behind l (putC l it wa c) it wa c := by
  have hpw := putC_pw hl.pw hi hw
  have hmem : ∀ x, x ∈ putC l it wa c ↔ x = c ∨ (x ∈ l ∧ ¬ (x.it = it ∧ x.wa = wa)) := fun x => mem_putC hl.pw it wa c x
  have hc := cellOf_mem hpw.1 ((hmem c).2 (.inl rfl))
  rw [hi, hw] at hc
  refine ⟨good_of ?_ hpw.1 ?_, hc.1, hc.2, fun i w hne => ?_, hpw.2⟩
  · rw [hpw.2]
    have := hl.len
    rcases hr with h | h
    · rw [if_pos h]; omega
    · split <;> omega
  · intro x hx
    rcases (hmem x).1 hx with e | e
    · rw [e, hi, hw]; exact ⟨hp, hs⟩
    · exact hl.each e.1
  · cases hb : hasB l (noC i w)
    · have hn : ∀ x ∈ putC l it wa c, ¬ (x.it = i ∧ x.wa = w) := by
        rintro x hx ⟨e1, e2⟩
        rcases (hmem x).1 hx with e | e
        · rw [e, hi] at e1; rw [e, hw] at e2; exact hne ⟨e1.symm, e2.symm⟩
        · have := (cellOf_mem hl.pw e.1).1
          rw [e1, e2, hb] at this; cases this
      have h1 := cellOf_not hpw.1 hn
      have hn' : ∀ x ∈ l, ¬ (x.it = i ∧ x.wa = w) := by
        rintro x hx ⟨e1, e2⟩
        have := (cellOf_mem hl.pw hx).1
        rw [e1, e2, hb] at this; cases this
      have h2 := cellOf_not hl.pw hn'
      exact ⟨h1.2.trans h2.2.symm, h1.1⟩
    · obtain ⟨m1, m2, m3⟩ := hasB_mem hl.pw hb
      have := cellOf_mem hpw.1 ((hmem _).2 (.inr ⟨m1, fun e => hne ⟨m2.symm.trans e.1, m3.symm.trans e.2⟩⟩))
      rw [m2, m3] at this
      exact ⟨this.2, this.1⟩
theorem Goes.behind {k : Nat} {l : List Cl} {it wa n : Int} (h : Goes k l it wa n) : Behind l (moveR k l it wa n).1 it wa (chgR k (cellOf l it wa) n).2 := by
  rw [moveR_goes h]
  have hc := cellOf_ok h.good it wa
  have hp := chgR_place k (cellOf l it wa) n
  exact putC_behind h.good (hp.1.trans hc.1) (hp.2.trans hc.2.1) h.place (chgR_ok hc.2.2 h.n1 h.chg) h.room
theorem ext_good {l l' : List Cl} (h : Good l) (h' : Good l') (hm : ∀ x, x ∈ l ↔ x ∈ l') : l = l' := ext_sorted l l' h.pw h'.pw hm
theorem mem_has {l : List Cl} (h : Good l) (x : Cl) : x ∈ l ↔ hasB l (noC x.it x.wa) = true ∧ cellOf l x.it x.wa = x := by
  constructor
  · exact fun hx => cellOf_mem h.pw hx
  · rintro ⟨h1, h2⟩
    have := (hasB_mem h.pw h1).1
    rwa [h2] at this
/-- lists are one if they have one another's cells -/
theorem ext_cells {l l' : List Cl} (h : Good l) (h' : Good l') (hc : ∀ i w, cellOf l i w = cellOf l' i w ∧ hasB l (noC i w) = hasB l' (noC i w)) : l = l' :=
  ext_good h h' (fun x => by rw [mem_has h, mem_has h', (hc x.it x.wa).1, (hc x.it x.wa).2])
theorem shift_has {k : Nat} {l : List Cl} {it wa n : Int} (hk : k ≠ 0) (h : Goes k l it wa n) : hasB l (noC it wa) = true := by
  cases hb : hasB l (noC it wa)
  · have h1 := h.chg
    rw [show cellOf l it wa = noC it wa from by unfold cellOf; rw [if_neg (by rw [hb]; simp)], chgR_none hk h.n1] at h1
    cases h1
  · rfl
/-- one change behind another that takes it back -/
theorem undo {k k' : Nat} {l : List Cl} {it wa n : Int} (hk : k ≠ 0) (h : Goes k l it wa n) (hc : chgR k' (chgR k (cellOf l it wa) n).2 n = (0, cellOf l it wa)) : moveR k' (moveR k l it wa n).1 it wa n = (l, 0) := by
  have B := h.behind
  have hh := shift_has hk h
  have g : Goes k' (moveR k l it wa n).1 it wa n := ⟨B.good, h.place, h.n1, h.n2, by rw [B.cell, hc], .inl B.has⟩
  have B2 := g.behind
  rw [B.cell, hc] at B2
  have e : (moveR k' (moveR k l it wa n).1 it wa n).1 = l := by
    refine ext_cells B2.good h.good (fun i w => ?_)
    by_cases hiw : i = it ∧ w = wa
    · rw [hiw.1, hiw.2]; exact ⟨B2.cell, B2.has.trans hh.symm⟩
    · exact ⟨(B2.other i w hiw).1.trans (B.other i w hiw).1, (B2.other i w hiw).2.trans (B.other i w hiw).2⟩
  exact Prod.ext e (by rw [moveR_goes g])
theorem back12 {l : List Cl} {it wa n : Int} (h : Goes 1 l it wa n) : moveR 2 (moveR 1 l it wa n).1 it wa n = (l, 0) := by
  refine undo (by decide) h ?_
  have hc := sumB_iff.1 (cellOf_ok h.good it wa).2.2
  have h0 := h.chg
  have h1 := h.n1
  generalize cellOf l it wa = c at *
  obtain ⟨c1, c2, c3, c4, c5, c6⟩ := c
  simp only [chgR] at h0 ⊢
  simp only at hc
  by_cases hlt : c3 < n
  · rw [if_pos hlt] at h0; cases h0
  · rw [if_neg hlt, if_neg (by show ¬ c4 + n < n; omega)]
    simp only [Prod.mk.injEq, Cl.mk.injEq, true_and, and_true]
    omega
theorem goes3 {l : List Cl} {it wa n : Int} (h : Goes 1 l it wa n) : Goes 3 (moveR 1 l it wa n).1 it wa n := by
  have B := h.behind
  refine ⟨B.good, h.place, h.n1, h.n2, ?_, .inl B.has⟩
  rw [B.cell]
  have hc := sumB_iff.1 (cellOf_ok h.good it wa).2.2
  have h0 := h.chg
  have h1 := h.n1
  generalize cellOf l it wa = c at *
  obtain ⟨c1, c2, c3, c4, c5, c6⟩ := c
  simp only [chgR] at h0 ⊢
  simp only at hc
  by_cases hlt : c3 < n
  · rw [if_pos hlt] at h0; cases h0
  · rw [if_neg hlt, if_neg (by show ¬ c4 + n < n; omega)]
theorem back134 {l : List Cl} {it wa n : Int} (h : Goes 1 l it wa n) : moveR 4 (moveR 3 (moveR 1 l it wa n).1 it wa n).1 it wa n = (l, 0) := by
  have B := h.behind
  have g3 := goes3 h
  have B3 := g3.behind
  have hh := shift_has (by decide) h
  have hch : chgR 4 (chgR 3 (chgR 1 (cellOf l it wa) n).2 n).2 n = (0, cellOf l it wa) := by
    have hc := sumB_iff.1 (cellOf_ok h.good it wa).2.2
    have h0 := h.chg
    have h1 := h.n1
    generalize cellOf l it wa = c at *
    obtain ⟨c1, c2, c3, c4, c5, c6⟩ := c
    simp only [chgR] at h0
    simp only at hc
    by_cases hlt : c3 < n
    · rw [if_pos hlt] at h0; cases h0
    · have s1 : chgR 1 ⟨c1, c2, c3, c4, c5, c6⟩ n = (0, ⟨c1, c2, c3 - n, c4 + n, c5, c6⟩) := if_neg hlt
      have s2 : chgR 3 ⟨c1, c2, c3 - n, c4 + n, c5, c6⟩ n = (0, ⟨c1, c2, c3 - n, c4 + n - n, c5 + n, c6⟩) := if_neg (by show ¬ c4 + n < n; omega)
      have s3 : chgR 4 ⟨c1, c2, c3 - n, c4 + n - n, c5 + n, c6⟩ n = (0, ⟨c1, c2, c3 - n + n, c4 + n - n, c5 + n - n, c6⟩) := if_neg (by show ¬ c5 + n < n; omega)
      rw [s1, s2, s3]
      simp only [Prod.mk.injEq, Cl.mk.injEq, true_and, and_true]
      omega
  rw [B.cell] at B3
  have g4 : Goes 4 (moveR 3 (moveR 1 l it wa n).1 it wa n).1 it wa n := ⟨B3.good, h.place, h.n1, h.n2, by rw [B3.cell, hch], .inl B3.has⟩
  have B4 := g4.behind
  rw [B3.cell, hch] at B4
  have e : (moveR 4 (moveR 3 (moveR 1 l it wa n).1 it wa n).1 it wa n).1 = l := by
    refine ext_cells B4.good h.good (fun i w => ?_)
    by_cases hiw : i = it ∧ w = wa
    · rw [hiw.1, hiw.2]; exact ⟨B4.cell, B4.has.trans hh.symm⟩
    · exact ⟨((B4.other i w hiw).1.trans (B3.other i w hiw).1).trans (B.other i w hiw).1, ((B4.other i w hiw).2.trans (B3.other i w hiw).2).trans (B.other i w hiw).2⟩
  exact Prod.ext e (by rw [moveR_goes g4])
theorem apart01 {l : List Cl} {it wa n : Int} {i2 w2 m : Int} (hne : ¬ (it = i2 ∧ wa = w2)) (h : Goes 0 l it wa n) (h2 : Goes 1 l i2 w2 m) :
    (moveR 1 (moveR 0 l it wa n).1 i2 w2 m).2 = 0 ∧ (moveR 0 (moveR 1 l i2 w2 m).1 it wa n).2 = 0 ∧ (moveR 1 (moveR 0 l it wa n).1 i2 w2 m).1 = (moveR 0 (moveR 1 l i2 w2 m).1 it wa n).1 := by
  have A := h.behind
  have B := h2.behind
  have hh2 := shift_has (by decide) h2
  have o1 := A.other i2 w2 (fun e => hne ⟨e.1.symm, e.2.symm⟩)
  have o2 := B.other it wa hne
  have gc : Goes 1 (moveR 0 l it wa n).1 i2 w2 m := ⟨A.good, h2.place, h2.n1, h2.n2, by rw [o1.1]; exact h2.chg, .inl (o1.2.trans hh2)⟩
  have gd : Goes 0 (moveR 1 l i2 w2 m).1 it wa n := ⟨B.good, h.place, h.n1, h.n2, by rw [o2.1]; exact h.chg, by
    rw [o2.2, B.len, if_pos hh2, Nat.add_zero]; exact h.room⟩
  have C := gc.behind
  have D := gd.behind
  rw [o1.1] at C
  rw [o2.1] at D
  refine ⟨by rw [moveR_goes gc], by rw [moveR_goes gd], ext_cells C.good D.good (fun i w => ?_)⟩
  by_cases e1 : i = it ∧ w = wa
  · obtain ⟨rfl, rfl⟩ := e1
    have c := C.other i w hne
    exact ⟨(c.1.trans A.cell).trans D.cell.symm, (c.2.trans A.has).trans D.has.symm⟩
  · by_cases e2 : i = i2 ∧ w = w2
    · obtain ⟨rfl, rfl⟩ := e2
      have d := D.other i w e1
      exact ⟨C.cell.trans (d.1.trans B.cell).symm, C.has.trans (d.2.trans B.has).symm⟩
    · have c := C.other i w e2
      have d := D.other i w e1
      exact ⟨(c.1.trans (A.other i w e1).1).trans (d.1.trans (B.other i w e2).1).symm, (c.2.trans (A.other i w e1).2).trans (d.2.trans (B.other i w e2).2).symm⟩
end Go.Proofs.YtffhkljegopjmaaDoor
