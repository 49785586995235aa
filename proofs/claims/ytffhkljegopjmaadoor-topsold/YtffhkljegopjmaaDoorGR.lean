/- books by their row -/
import Derived.Test.YtffhkljegopjmaaDoorGQ
namespace Go.Proofs.YtffhkljegopjmaaDoor.Lg
open Go.RowKit
set_option maxRecDepth 40000
abbrev keepB (x : Py) : Bool := !noneB x
/-- right books, and the row that their postings come to -/
def BksA (A : List Py) (P : List Py) (G : List Pg) : Prop := G.length ≤ 16384 ∧ foldR G (List.replicate 1025 Py0) = some A ∧ IdxR A ∧ P = A.filter keepB ∧ ∀ x ∈ P, owesB x = false
theorem bks_of {P : List Py} {G : List Pg} (h : checkR P G) : ∃ A, BksA A P G := by
  unfold checkR paysR at h
  split at h
  case isFalse => cases h
  case isTrue hl =>
    cases hf : foldR G (List.replicate 1025 Py0) with
    | none => rw [hf] at h; cases h
    | some A =>
      rw [hf] at h
      simp only [Option.bind_some] at h
      split at h
      case isTrue => cases h
      case isFalse ho =>
        cases h
        refine ⟨A, hl, hf, fold_idx G hf idx_zero, rfl, fun x hx => ?_⟩
        cases hb : owesB x
        · rfl
        · exact absurd (List.any_eq_true.2 ⟨x, hx, hb⟩) ho
theorem BksA.check {A P : List Py} {G : List Pg} (h : BksA A P G) : checkR P G := by
  obtain ⟨hl, hf, _, rfl, ho⟩ := h
  unfold checkR paysR
  rw [if_pos hl, hf]
  simp only [Option.bind_some]
  rw [if_neg]
  intro ha
  obtain ⟨x, hx, hb⟩ := List.any_eq_true.1 ha
  rw [ho x hx] at hb
  cases hb
/-- the order's pay in the row -/
def atA (A : List Py) (n : Int) : Py := A.getD n.toNat Py0
theorem ord_nat {n : Int} (h : ordB n = true) : n.toNat < 1025 ∧ ((n.toNat : Nat) : Int) = n := by
  simp only [ordB, decide_eq_true_eq] at h
  omega
theorem IdxR.mem {A : List Py} (h : IdxR A) {n : Int} (hn : ordB n = true) : atA A n ∈ A := by
  have hl : n.toNat < A.length := by rw [h.1]; exact (ord_nat hn).1
  unfold atA
  rw [List.getD_eq_getElem?_getD, List.getElem?_eq_getElem hl]
  exact List.getElem_mem hl
theorem IdxR.at {A : List Py} (h : IdxR A) {n : Int} (hn : ordB n = true) : (atA A n).o = n ∨ atA A n = Py0 := by
  have := h.2.2 n.toNat (ord_nat hn).1
  rwa [(ord_nat hn).2] at this
theorem keep_o {A : List Py} (h : IdxR A) {k : Nat} (hk : k < A.length) (hn : keepB A[k] = true) : A[k].o = (k : Int) := by
  have := h.2.2 k (by rw [← h.1]; exact hk)
  rw [List.getD_eq_getElem?_getD, List.getElem?_eq_getElem hk] at this
  rcases this with h | h
  · exact h
  · simp only [Option.getD_some] at h
    rw [h] at hn
    exact absurd hn (by decide)
/-- one as a list, if it is kept -/
def oneL (y : Py) : List Py := if noneB y = true then [] else [y]
theorem filter_one (y : Py) : [y].filter keepB = oneL y := by
  unfold oneL keepB
  cases h : noneB y <;> simp [h]
theorem split_row {A : List Py} (hA : IdxR A) {t : Nat} (ht : t < 1025) : ∃ F1 F2, A.filter keepB = F1 ++ oneL (A.getD t Py0) ++ F2 ∧ (∀ x ∈ F1, x.o < (t : Int)) ∧ (∀ x ∈ F2, (t : Int) < x.o) ∧ ∀ y, (A.set t y).filter keepB = F1 ++ oneL y ++ F2 := by
  have hl : t < A.length := by rw [hA.1]; exact ht
  refine ⟨(A.take t).filter keepB, (A.drop (t + 1)).filter keepB, ?_, ?_, ?_, ?_⟩
  · conv => lhs; rw [← List.take_append_drop t A, List.drop_eq_getElem_cons hl]
    rw [List.filter_append, ← List.singleton_append, List.filter_append, filter_one, List.getD_eq_getElem?_getD, List.getElem?_eq_getElem hl, Option.getD_some, List.append_assoc]
  · intro x hx
    obtain ⟨hm, hk⟩ := List.mem_filter.1 hx
    obtain ⟨i, hi, rfl⟩ := List.mem_iff_getElem.1 hm
    rw [List.length_take] at hi
    rw [List.getElem_take] at hk ⊢
    rw [keep_o hA (by omega) hk]
    omega
  · intro x hx
    obtain ⟨hm, hk⟩ := List.mem_filter.1 hx
    obtain ⟨i, hi, rfl⟩ := List.mem_iff_getElem.1 hm
    rw [List.length_drop] at hi
    rw [List.getElem_drop] at hk ⊢
    rw [keep_o hA (by omega) hk]
    omega
  · intro y
    rw [List.set_eq_take_append_cons_drop, if_pos hl, List.filter_append, ← List.singleton_append, List.filter_append, filter_one, List.append_assoc]
theorem cmpI_lt (a n : Int) : cmpI a n < 0 ↔ a < n := by
  unfold cmpI; split
  · simp; omega
  · split <;> simp <;> omega
theorem cmpI_eq (a n : Int) : cmpI a n = 0 ↔ a = n := by
  unfold cmpI; split
  · simp; omega
  · split <;> simp <;> omega
theorem low_split {F1 M : List Py} {n : Int} (h1 : ∀ x ∈ F1, x.o < n) (h2 : ∀ x ∈ M, n ≤ x.o) : lowP (F1 ++ M) n = F1.length := by
  unfold lowP
  rw [List.takeWhile_append_of_pos (by intro x hx; simp only [decide_eq_true_eq]; exact (cmpI_lt _ _).2 (h1 x hx))]
  cases M with
  | nil => simp
  | cons a r =>
    have := h2 a List.mem_cons_self
    rw [List.takeWhile_cons_of_neg (by simp only [decide_eq_true_eq]; intro hc; have := (cmpI_lt _ _).1 hc; omega)]
    simp
/-- the pay that begin has of an order -/
def payR (P : List Py) (n : Int) : Py := if hasP P n = true then P.getD (lowP P n) Py0 else ⟨n, 0, 0, 0⟩
def hiP (P : List Py) (n : Int) : Nat := if hasP P n = true then lowP P n + 1 else lowP P n
/-- the same by the row -/
def pvA (A : List Py) (n : Int) : Py := if noneB (atA A n) = true then ⟨n, 0, 0, 0⟩ else atA A n
theorem bks_low {A P : List Py} {G : List Pg} (h : BksA A P G) {n : Int} (hn : ordB n = true) : payR P n = pvA A n ∧ lowP P n ≤ hiP P n ∧ hiP P n ≤ P.length ∧ ∀ y, pwL P (lowP P n) (hiP P n) y = (A.set n.toNat y).filter keepB := by
  obtain ⟨_, _, hA, rfl, _⟩ := h
  obtain ⟨ht, hc⟩ := ord_nat hn
  obtain ⟨F1, F2, e, h1, h2, hs⟩ := split_row hA ht
  rw [hc] at h1 h2
  have hat := hA.at hn
  unfold pvA
  unfold atA at hat ⊢
  generalize A.getD n.toNat Py0 = x at *
  simp only [hs]
  generalize A.filter keepB = P at *
  subst e
  cases hx : noneB x
  · have ho : x.o = n := by
      rcases hat with h | h
      · exact h
      · rw [h] at hx; exact absurd hx (by decide)
    have e1 : oneL x = [x] := by unfold oneL; simp [hx]
    rw [e1]
    have hlow : lowP (F1 ++ [x] ++ F2) n = F1.length := by
      rw [List.append_assoc]
      refine low_split h1 ?_
      intro z hz
      rcases List.mem_append.1 hz with hz | hz
      · rw [List.mem_singleton.1 hz]; omega
      · have := h2 z hz; omega
    have hget : (F1 ++ [x] ++ F2).getD F1.length Py0 = x := by
      rw [List.append_assoc, List.getD_eq_getElem?_getD, List.getElem?_append_right (Nat.le_refl _)]
      simp
    have hh : hasP (F1 ++ [x] ++ F2) n = true := by
      unfold hasP
      rw [hlow, hget]
      simp [cmpI_eq, ho]
    unfold payR hiP
    rw [hh, hlow, hget]
    refine ⟨by simp, by simp, by simp, fun y => ?_⟩
    unfold pwL
    simp only [if_true]
    have t1 : (F1 ++ [x] ++ F2).take F1.length = F1 := by simp
    have t2 : (F1 ++ [x] ++ F2).drop (F1.length + 1) = F2 := by
      rw [List.drop_append, List.drop_of_length_le (by simp)]
      simp
    rw [t1, t2]
    rfl
  · have e1 : oneL x = [] := by unfold oneL; simp [hx]
    rw [e1, List.append_nil]
    have hlow : lowP (F1 ++ F2) n = F1.length := low_split h1 (fun z hz => by have := h2 z hz; omega)
    have hh : hasP (F1 ++ F2) n = false := by
      unfold hasP
      rw [hlow]
      cases F2 with
      | nil => simp
      | cons z r =>
        have := h2 z List.mem_cons_self
        have hget : (F1 ++ z :: r).getD F1.length Py0 = z := by
          rw [List.getD_eq_getElem?_getD, List.getElem?_append_right (Nat.le_refl _)]
          simp
        rw [hget]
        simp [cmpI_eq]
        intro e; omega
    unfold payR hiP
    rw [hh, hlow]
    refine ⟨by simp, by simp, by simp, fun y => ?_⟩
    unfold pwL
    simp only [Bool.false_eq_true, if_false]
    have t1 : (F1 ++ F2).take F1.length = F1 := by simp
    have t2 : (F1 ++ F2).drop F1.length = F2 := by simp
    rw [t1, t2]
    rfl
theorem noneB_iff (x : Py) : noneB x = true ↔ x.op = 0 ∧ x.ca = 0 ∧ x.re = 0 := by unfold noneB; simp
theorem beh_pv {A : List Py} {n : Int} (g : Pg) : behR (pvA A n) g = behR (atA A n) g := by
  unfold pvA
  split
  case isFalse => rfl
  case isTrue h =>
    obtain ⟨a, b, c⟩ := (noneB_iff _).1 h
    unfold behR
    simp only [a, b, c]
theorem pv_in {A : List Py} (hA : IdxR A) {n : Int} (hn : ordB n = true) : inB (pvA A n) ∧ (pvA A n).o = n := by
  unfold pvA
  split
  case isTrue h =>
    refine ⟨?_, rfl⟩
    simp only [ordB, decide_eq_true_eq] at hn
    unfold inB i64B
    dsimp only
    omega
  case isFalse h =>
    refine ⟨hA.2.1 _ (hA.mem hn), ?_⟩
    rcases hA.at hn with e | e
    · exact e
    · rw [e] at h; exact absurd (by decide) h
theorem BksA.pvOwes {A P : List Py} {G : List Pg} (h : BksA A P G) {n : Int} (hn : ordB n = true) : owesB (pvA A n) = false := by
  unfold pvA
  split
  case isTrue => rfl
  case isFalse hx =>
    refine h.2.2.2.2 _ ?_
    rw [h.2.2.2.1]
    exact List.mem_filter.2 ⟨h.2.2.1.mem hn, by simp [keepB, hx]⟩
/-- a posting more -/
theorem BksA.post {A P : List Py} {G : List Pg} (h : BksA A P G) {g : Pg} (hg : postB g = true) (hl : G.length < 16384) (hb : beyB (behR (pvA A g.o) g) = false) (ho : owesB (behR (pvA A g.o) g) = false) :
    BksA (A.set g.o.toNat (behR (pvA A g.o) g)) ((A.set g.o.toNat (behR (pvA A g.o) g)).filter keepB) (G ++ [g]) := by
  have hn : ordB g.o = true := by unfold postB at hg; simp only [Bool.and_eq_true] at hg; exact hg.1
  have hst : stepR A g = some (A.set g.o.toNat (behR (pvA A g.o) g)) := by
    unfold stepR
    rw [if_pos hg, if_neg, beh_pv]
    · rfl
    · rw [beh_pv] at hb
      show ¬ beyB (behR (atA A g.o) g) = true
      rw [hb]; simp
  have hf : foldR (G ++ [g]) (List.replicate 1025 Py0) = some (A.set g.o.toNat (behR (pvA A g.o) g)) := by
    rw [foldR_append, h.2.1, Option.bind_some]
    unfold foldR
    rw [hst]
    rfl
  refine ⟨by simp; omega, hf, fold_idx _ hf idx_zero, rfl, fun x hx => ?_⟩
  obtain ⟨hm, hk⟩ := List.mem_filter.1 hx
  rcases List.mem_or_eq_of_mem_set hm with hm | rfl
  · refine h.2.2.2.2 x ?_
    rw [h.2.2.2.1]
    exact List.mem_filter.2 ⟨hm, hk⟩
  · exact ho
theorem atA_set {A : List Py} (hA : IdxR A) {n m : Int} (hn : ordB n = true) (hm : ordB m = true) (y : Py) : atA (A.set n.toNat y) m = if m = n then y else atA A m := by
  obtain ⟨h1, h2⟩ := ord_nat hn
  obtain ⟨h3, h4⟩ := ord_nat hm
  unfold atA
  split
  case isTrue e =>
    subst e
    rw [List.getD_eq_getElem?_getD, List.getElem?_set_self (by rw [hA.1]; exact h1)]
    rfl
  case isFalse e =>
    rw [List.getD_eq_getElem?_getD, List.getElem?_set_ne (by omega), ← List.getD_eq_getElem?_getD]
theorem bks_none : BksA (List.replicate 1025 Py0) [] [] := by
  refine ⟨by simp, rfl, idx_zero, ?_, by simp⟩
  rw [List.filter_replicate]
  rfl
end Go.Proofs.YtffhkljegopjmaaDoor.Lg
