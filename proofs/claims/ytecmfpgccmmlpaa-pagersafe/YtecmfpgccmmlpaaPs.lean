/- a pager that stands well: pure -/
import Derived.Test.YtecmfpgccmmlpaaPr
namespace Go.Proofs.Ytecmfpgccmmlpaa
open Go.RowKit
set_option maxRecDepth 100000
set_option linter.unusedVariables false
set_option linter.unusedSimpArgs false
structure Std (n : Nat) (p : Pg) (st : St) : Prop where
  bad : p.bad = false
  snd : Snd n p.sup st
  up : st.down = false
  no : st.arm = false
theorem Std.n2 {n : Nat} {p : Pg} {st : St} (h : Std n p st) : 2 ≤ n := by have := h.snd.big; omega
/-- what a commit of a pager that stands well makes -/
def Pg.flipSt (nx : Sup) (st : St) : St := (st.syncs.goes (nx.gen % 2) (supL nx)).syncs
theorem flipSt_wr (nx : Sup) (st : St) : (Pg.flipSt nx st).wr = st.wr + 1 := by
  show (st.syncs.goes (nx.gen % 2) (supL nx)).wr = _
  rw [goes_wr]; rfl
theorem flipSt_down (nx : Sup) (st : St) : (Pg.flipSt nx st).down = st.down := by
  show (st.syncs.goes (nx.gen % 2) (supL nx)).down = _
  rw [down_goes]; rfl
theorem flipSt_arm (nx : Sup) (st : St) : (Pg.flipSt nx st).arm = st.arm := by
  show (st.syncs.goes (nx.gen % 2) (supL nx)).arm = _
  rw [arm_goes]; rfl
theorem flipSt_fr (nx : Sup) (st : St) (k : Nat) : (Pg.flipSt nx st).fr k = none := rfl
theorem flipSt_reads (nx : Sup) (st : St) {k : Nat} (hk : 2 ≤ k) : (Pg.flipSt nx st).reads k = st.reads k := by
  show ((st.syncs.goes (nx.gen % 2) (supL nx)).syncs).reads k = _
  rw [reads_syncs, reads_goes, if_neg (by omega), reads_syncs]
theorem Std.commit {n : Nat} {p : Pg} {st : St} (h : Std n p st) (root : Int) (seq : Nat) (live : Int) (hm : (p.sup.next root seq live).may = true) (hr : root = 0 ∨ (p.is root [1, 2] = true ∧ 2 + p.sup.jn ≤ root ∧ root < n)) :
    p.commit n root seq live st = ((p.settled (p.sup.next root seq live), Pg.flipSt (p.sup.next root seq live) st), 0) ∧ Std n (p.settled (p.sup.next root seq live)) (Pg.flipSt (p.sup.next root seq live) st) := by
  refine ⟨commit_ok h.bad hm (fun e => hr.elim (fun z => absurd z e) (fun z => z.1)) h.up h.n2 (by rw [h.no]; simp), h.bad, ?_, ?_, ?_⟩
  · exact h.snd.flip root seq live hm (hr.elim .inl (fun z => .inr z.2))
  · rw [flipSt_down]; exact h.up
  · rw [flipSt_arm]; exact h.no
theorem fated_keep {fr : Nat → Option (List Nat)} {l : List (Nat × Nat)} {us : List Nat} {f : Nat → List Nat} {k : Nat} (m : Nat) (h : ∀ i, i < m → us.getD i 0 ≠ k) : fated fr l us f m k = f k := by
  induction m with
  | zero => rfl
  | succ m ih =>
    rw [fated, setSyn, if_neg (fun e => h m (by omega) e.symm)]
    exact ih (fun i hi => h i (by omega))
/-- behind a power cut: what had been synced stands -/
theorem rest_keep {n : Nat} {l : List (Nat × Nat)} {st : St} (hd : st.down = true) (h : (st.rest n l).2 = 0) : (st.rest n l).1.down = false ∧ (st.rest n l).1.arm = false ∧ (∀ k, (st.rest n l).1.fr k = none) ∧ (∀ k, st.fr k = none → (st.rest n l).1.reads k = st.reads k) ∧ (st.rest n l).1.wr = st.wr := by
  unfold St.rest at h ⊢
  rw [if_pos hd] at h ⊢
  by_cases h1 : 1024 < l.length
  · rw [if_pos h1] at h; exact absurd h (show ¬ (3 : Int) = 0 by decide)
  · rw [if_neg h1] at h ⊢
    by_cases h2 : goodB l = true
    · rw [if_pos h2]
      refine ⟨rfl, rfl, fun k => rfl, fun k hk => ?_, rfl⟩
      show fated st.fr l (st.uns n) st.syn (st.uns n).length k = st.reads k
      rw [fated_keep, St.reads, hk]
      · rfl
      · intro i hi e
        have hm : (st.uns n).getD i 0 ∈ st.uns n := by
          rw [List.getD_eq_getElem?_getD, List.getElem?_eq_getElem hi]
          exact List.getElem_mem hi
        rw [e] at hm
        have := (uns_mem.1 hm).2
        rw [hk] at this
        cases this
    · rw [if_neg h2] at h; exact absurd h (show ¬ (15 : Int) = 0 by decide)
theorem rest_no {n : Nat} {l : List (Nat × Nat)} {st : St} (hd : st.down = true) (h : (st.rest n l).2 ≠ 0) : (st.rest n l).1.down = true := by
  unfold St.rest at h ⊢
  rw [if_pos hd] at h ⊢
  by_cases h1 : 1024 < l.length
  · rw [if_pos h1]; exact hd
  · rw [if_neg h1] at h ⊢
    by_cases h2 : goodB l = true
    · rw [if_pos h2] at h; exact absurd rfl h
    · rw [if_neg h2]; exact hd
theorem rest_nil_ok {n : Nat} {st : St} (hd : st.down = true) : (st.rest n []).2 = 0 := by
  rw [St.rest, if_pos hd, if_neg (by simp), if_pos (by simp [goodB])]
theorem cut_ok {st : St} (hd : st.down = false) : st.cut = (st.cuts, 0) := by rw [St.cut, if_neg (by rw [hd]; decide)]
theorem cut_dn' {st : St} (hd : st.down = true) : st.cut = (st, 8) := by rw [St.cut, if_pos hd]
theorem cut_down (st : St) : st.cut.1.down = true := by
  unfold St.cut
  split
  · assumption
  · rfl
theorem cut_same (st : St) (k : Nat) : st.cut.1.reads k = st.reads k ∧ st.cut.1.fr k = st.fr k := by
  unfold St.cut
  split <;> exact ⟨rfl, rfl⟩
/-- a new disk, made new -/
theorem fmt_std {n : Nat} {j : Int} (hf : fitsB j n = true) (hn : n ≤ 1024) : (st0.fmt n j).2 = 0 ∧ (st0.fmt n j).1.cntE n = 0 ∧ Std n ((st0.fmt n j).1.opn n) (st0.fmt n j).1 ∧ ((st0.fmt n j).1.opn n).sup = fstS j ∧ ((st0.fmt n j).1.opn n).ps = List.replicate (n - (2 + j.toNat)) 0 ∧ (st0.fmt n j).1.wr ≤ 2 ∧ (∀ k, (st0.fmt n j).1.fr k = none) := by
  obtain ⟨z1, z2, z3, z4, z5, z6⟩ := fmt_ok (st := st0) hf hn rfl rfl
  have hc := z2.cnt z3
  have ho := opn_of z2 z3
  refine ⟨z1, hc.1, ⟨by rw [ho], by rw [ho]; exact z2, z3, z4⟩, by rw [ho], by rw [ho]; rfl, z6, z5⟩
end Go.Proofs.Ytecmfpgccmmlpaa
