/- lines that are reserved, sent and taken back -/
import Derived.Test.YtffhkljegopjmaaDoorKU
namespace Go.Proofs.YtffhkljegopjmaaDoor
open Go.RowKit
/-- how many units of a cell lines have -/
def many (xs : List Ln) (i w : Int) : Int := (xs.map fun x => if x.it = i ∧ x.wa = w then x.q else 0).sum
def shR (k : Nat) (c : Cl) (m : Int) : Cl :=
  match k with
  | 1 => { c with fr := c.fr - m, he := c.he + m }
  | 3 => { c with he := c.he - m, ou := c.ou + m }
  | _ => { c with ou := c.ou - m, fr := c.fr + m }
def srcR (k : Nat) (c : Cl) : Int :=
  match k with
  | 1 => c.fr
  | 3 => c.he
  | _ => c.ou
theorem chg_is {k : Nat} (hk : k = 1 ∨ k = 3 ∨ k = 4) (c : Cl) (n : Int) : chgR k c n = if srcR k c < n then (13, c) else (0, shR k c n) := by
  rcases hk with rfl | rfl | rfl <;> rfl
theorem sh_zero (k : Nat) (c : Cl) : shR k c 0 = c := by
  unfold shR
  split <;> simp
theorem sh_add (k : Nat) (c : Cl) (m n : Int) : shR k (shR k c m) n = shR k c (m + n) := by
  unfold shR
  split <;> simp <;> omega
theorem sh_src {k : Nat} (hk : k = 1 ∨ k = 3 ∨ k = 4) (c : Cl) (m : Int) : srcR k (shR k c m) = srcR k c - m := by
  rcases hk with rfl | rfl | rfl <;> rfl
theorem many_cons (x : Ln) (r : List Ln) (i w : Int) : many (x :: r) i w = (if x.it = i ∧ x.wa = w then x.q else 0) + many r i w := by
  unfold many; simp
theorem many_pos {xs : List Ln} (h : ∀ x ∈ xs, 1 ≤ x.q) (i w : Int) : 0 ≤ many xs i w := by
  induction xs with
  | nil => simp [many]
  | cons x r ih =>
    rw [many_cons]
    have h1 := h x List.mem_cons_self
    have h2 := ih (fun y hy => h y (List.mem_cons_of_mem _ hy))
    split <;> omega
/-- lines that may be moved -/
def Fits (l : List Cl) (xs : List Ln) : Prop := ∀ x ∈ xs, placeB x.it x.wa = true ∧ 1 ≤ x.q ∧ x.q ≤ 1048576 ∧ hasB l (noC x.it x.wa) = true
theorem lines_shift {k : Nat} (hk : k = 1 ∨ k = 3 ∨ k = 4) : ∀ (xs : List Ln) (l : List Cl), Good l → (linesR k l xs).2 = 0 → Good (linesR k l xs).1 ∧ (∀ i w, cellOf (linesR k l xs).1 i w = shR k (cellOf l i w) (many xs i w) ∧ hasB (linesR k l xs).1 (noC i w) = hasB l (noC i w)) ∧ Fits l xs ∧ ∀ i w, many xs i w ≤ srcR k (cellOf l i w) := by
  intro xs
  induction xs with
  | nil =>
    intro l hl _
    refine ⟨hl, fun i w => ⟨?_, rfl⟩, fun x hx => (List.not_mem_nil hx).elim, fun i w => ?_⟩
    · show cellOf l i w = shR k (cellOf l i w) 0
      rw [sh_zero]
    · show (0 : Int) ≤ _
      have h := sumB_iff.1 (cellOf_ok hl i w).2.2
      unfold srcR
      split <;> omega
  | cons x r ih =>
    intro l hl h0
    have hk0 : k ≠ 0 := by omega
    rcases moveR_cases k l x.it x.wa x.q with ⟨h1, _⟩ | hg
    · exfalso
      simp only [linesR] at h0
      rw [if_neg h1] at h0
      exact h1 h0
    · have hm : (moveR k l x.it x.wa x.q).2 = 0 := by rw [moveR_goes hg]
      have B := hg.behind
      have hh := shift_has hk0 hg
      have hc := hg.chg
      rw [chg_is hk] at hc B
      have hns : ¬ srcR k (cellOf l x.it x.wa) < x.q := by
        intro e
        rw [if_pos e] at hc
        cases hc
      rw [if_neg hns] at B
      simp only [linesR] at h0 ⊢
      rw [if_pos hm] at h0 ⊢
      obtain ⟨g1, g2, g3, g4⟩ := ih _ B.good h0
      have hsame : ∀ i w, hasB (moveR k l x.it x.wa x.q).1 (noC i w) = hasB l (noC i w) := by
        intro i w
        by_cases e : i = x.it ∧ w = x.wa
        · rw [e.1, e.2, B.has, hh]
        · exact (B.other i w e).2
      have hcell : ∀ i w, cellOf (moveR k l x.it x.wa x.q).1 i w = shR k (cellOf l i w) (if x.it = i ∧ x.wa = w then x.q else 0) := by
        intro i w
        by_cases e : i = x.it ∧ w = x.wa
        · rw [e.1, e.2, B.cell, if_pos ⟨rfl, rfl⟩]
        · rw [if_neg (fun h => e ⟨h.1.symm, h.2.symm⟩), sh_zero]
          exact (B.other i w e).1
      refine ⟨g1, fun i w => ⟨?_, (g2 i w).2.trans (hsame i w)⟩, fun y hy => ?_, fun i w => ?_⟩
      · rw [(g2 i w).1, hcell, sh_add, many_cons]
      · rcases List.mem_cons.1 hy with rfl | hy
        · exact ⟨hg.place, hg.n1, hg.n2, hh⟩
        · obtain ⟨e1, e2, e3, e4⟩ := g3 y hy
          exact ⟨e1, e2, e3, (hsame _ _).symm.trans e4⟩
      · have := g4 i w
        rw [hcell, sh_src hk] at this
        rw [many_cons]
        omega
theorem lines_ok {k : Nat} (hk : k = 1 ∨ k = 3 ∨ k = 4) : ∀ (xs : List Ln) (l : List Cl), Good l → Fits l xs → (∀ i w, many xs i w ≤ srcR k (cellOf l i w)) → (linesR k l xs).2 = 0 := by
  intro xs
  induction xs with
  | nil => intro l _ _ _; rfl
  | cons x r ih =>
    intro l hl hf hm
    obtain ⟨e1, e2, e3, e4⟩ := hf x List.mem_cons_self
    have hpos := many_pos (xs := r) (fun y hy => (hf y (List.mem_cons_of_mem _ hy)).2.1) x.it x.wa
    have hsrc := hm x.it x.wa
    rw [many_cons, if_pos ⟨rfl, rfl⟩] at hsrc
    have hns : ¬ srcR k (cellOf l x.it x.wa) < x.q := by omega
    have hg : Goes k l x.it x.wa x.q := ⟨hl, e1, e2, e3, by rw [chg_is hk, if_neg hns], .inl e4⟩
    have B := hg.behind
    rw [chg_is hk, if_neg hns] at B
    have h0 : (moveR k l x.it x.wa x.q).2 = 0 := by rw [moveR_goes hg]
    simp only [linesR]
    rw [if_pos h0]
    refine ih _ B.good (fun y hy => ?_) (fun i w => ?_)
    · obtain ⟨f1, f2, f3, f4⟩ := hf y (List.mem_cons_of_mem _ hy)
      refine ⟨f1, f2, f3, ?_⟩
      by_cases e : y.it = x.it ∧ y.wa = x.wa
      · rw [e.1, e.2]; exact B.has
      · rw [(B.other _ _ e).2]; exact f4
    · have h1 := hm i w
      rw [many_cons] at h1
      by_cases e : i = x.it ∧ w = x.wa
      · rw [e.1, e.2] at h1 ⊢
        rw [if_pos ⟨rfl, rfl⟩] at h1
        rw [B.cell, sh_src hk]
        omega
      · rw [if_neg (fun h => e ⟨h.1.symm, h.2.symm⟩)] at h1
        rw [(B.other i w e).1]
        omega
/-- reserved, sent, taken back -/
theorem sold {l : List Cl} {xs : List Ln} (hl : Good l) (h : (linesR 1 l xs).2 = 0) : Good (linesR 1 l xs).1 ∧ (linesR 3 (linesR 1 l xs).1 xs).2 = 0 ∧ Good (linesR 3 (linesR 1 l xs).1 xs).1 ∧ linesR 4 (linesR 3 (linesR 1 l xs).1 xs).1 xs = (l, 0) ∧ Fits l xs ∧ (∀ i w, cellOf (linesR 3 (linesR 1 l xs).1 xs).1 i w = { cellOf l i w with fr := (cellOf l i w).fr - many xs i w, ou := (cellOf l i w).ou + many xs i w }) ∧ ∀ i w, 0 ≤ many xs i w ∧ many xs i w ≤ (cellOf l i w).fr := by
  obtain ⟨a1, a2, a3, a4⟩ := lines_shift (k := 1) (by omega) xs l hl h
  have hp := many_pos (xs := xs) (fun y hy => (a3 y hy).2.1)
  have fa : Fits (linesR 1 l xs).1 xs := fun y hy => ⟨(a3 y hy).1, (a3 y hy).2.1, (a3 y hy).2.2.1, by rw [(a2 _ _).2]; exact (a3 y hy).2.2.2⟩
  have h3 : (linesR 3 (linesR 1 l xs).1 xs).2 = 0 := by
    refine lines_ok (k := 3) (by omega) xs _ a1 fa (fun i w => ?_)
    rw [(a2 i w).1]
    have := sumB_iff.1 (cellOf_ok hl i w).2.2
    have := hp i w
    simp only [srcR, shR]
    omega
  obtain ⟨b1, b2, b3, b4⟩ := lines_shift (k := 3) (by omega) xs _ a1 h3
  have fb : Fits (linesR 3 (linesR 1 l xs).1 xs).1 xs := fun y hy => ⟨(a3 y hy).1, (a3 y hy).2.1, (a3 y hy).2.2.1, by rw [(b2 _ _).2, (a2 _ _).2]; exact (a3 y hy).2.2.2⟩
  have h4 : (linesR 4 (linesR 3 (linesR 1 l xs).1 xs).1 xs).2 = 0 := by
    refine lines_ok (k := 4) (by omega) xs _ b1 fb (fun i w => ?_)
    rw [(b2 i w).1, (a2 i w).1]
    have := sumB_iff.1 (cellOf_ok hl i w).2.2
    have := hp i w
    simp only [srcR, shR]
    omega
  obtain ⟨c1, c2, _, _⟩ := lines_shift (k := 4) (by omega) xs _ b1 h4
  refine ⟨a1, h3, b1, Prod.ext (ext_cells c1 hl (fun i w => ⟨?_, ?_⟩)) h4, a3, fun i w => ?_, fun i w => ⟨hp i w, a4 i w⟩⟩
  · rw [(c2 i w).1, (b2 i w).1, (a2 i w).1]
    generalize cellOf l i w = c
    obtain ⟨x1, x2, x3, x4, x5, x6⟩ := c
    simp only [shR]
    congr 1 <;> omega
  · rw [(c2 i w).2, (b2 i w).2, (a2 i w).2]
  · rw [(b2 i w).1, (a2 i w).1]
    generalize cellOf l i w = c
    obtain ⟨x1, x2, x3, x4, x5, x6⟩ := c
    simp only [shR]
    congr 1; omega
end Go.Proofs.YtffhkljegopjmaaDoor
