/- PagerSafe: what is known between two calls; pure -/
import Derived.Test.YtecmfpgccmmlpaaTa
import Derived.Test.YtecmfpgccmmlpaaLawApart
namespace Go.Proofs.Ytecmfpgccmmlpaa
open Go.RowKit
set_option maxRecDepth 100000
set_option linter.unusedVariables false
set_option linter.unusedSimpArgs false
def kAt (ks : List Nat) (i : Nat) : Nat := ks.getD i 0
theorem kAt_snoc {ks : List Nat} {P i : Nat} : kAt (ks ++ [P]) i = if i = ks.length then P else kAt ks i := by
  unfold kAt
  rw [List.getD_eq_getElem?_getD, List.getD_eq_getElem?_getD]
  by_cases h : i < ks.length
  · rw [List.getElem?_append_left h, if_neg (by omega)]
  · rw [List.getElem?_append_right (by omega)]
    by_cases e : i = ks.length
    · subst e; simp
    · rw [if_neg e, List.getElem?_eq_none (by simp; omega), List.getElem?_eq_none (by omega)]
theorem tAt_snoc {ts : List (List Nat)} {l : List Nat} {i : Nat} : (ts ++ [l]).getD i [] = if i = ts.length then l else ts.getD i [] := by
  rw [List.getD_eq_getElem?_getD, List.getD_eq_getElem?_getD]
  by_cases h : i < ts.length
  · rw [List.getElem?_append_left h, if_neg (by omega)]
  · rw [List.getElem?_append_right (by omega)]
    by_cases e : i = ts.length
    · subst e; simp
    · rw [if_neg e, List.getElem?_eq_none (by simp; omega), List.getElem?_eq_none (by omega)]
/-- ahead of the commit -/
structure SfA (n : Nat) (p : Pg) (st : St) (ks : List Nat) (ts : List (List Nat)) : Prop where
  std : Std n p st
  sup : p.sup = fstS 2
  tot : 4 + p.ps.length = n
  pg : ∀ i, i < ks.length → 4 ≤ kAt ks i ∧ kAt ks i < n ∧ p.ps.getD (kAt ks i - 4) 0 = 1
  nd : ∀ i j, i < j → j < ks.length → kAt ks i ≠ kAt ks j
  tl : ts.length = ks.length
  tx : ∀ i, i < ks.length → full (st.reads (kAt ks i)) = ts.getD i []
  wr : st.wr ≤ 2 + usedN p.ps
  few : ks.length ≤ usedN p.ps
/-- behind it, i of them given back -/
structure SfB (n : Nat) (p : Pg) (st : St) (ks : List Nat) (ts : List (List Nat)) (i : Nat) : Prop where
  std : Std n p st
  jn : p.sup.jn = 2
  tot : 4 + p.ps.length = n
  pg : ∀ i, i < ks.length → 4 ≤ kAt ks i ∧ kAt ks i < n ∧ (p.ps.getD (kAt ks i - 4) 0 = 2 ∨ p.ps.getD (kAt ks i - 4) 0 = 3)
  un : ∀ j, i ≤ j → j < ks.length → p.ps.getD (kAt ks j - 4) 0 = 2
  nd : ∀ i j, i < j → j < ks.length → kAt ks i ≠ kAt ks j
  tl : ts.length = ks.length
  tx : ∀ i, i < ks.length → full (st.reads (kAt ks i)) = ts.getD i []
  fr : ∀ k, (k < 2 ∨ ∃ i, i < ks.length ∧ k = kAt ks i) → st.fr k = none
  wr : st.wr ≤ 2000 + usedN p.ps
  few : ks.length ≤ n
theorem Std.n1024 {n : Nat} {p : Pg} {st : St} (h : Std n p st) (hj : p.sup.jn = 2) (ht : 4 + p.ps.length = n) : 36 ≤ n := by
  have := h.snd.big; omega
theorem jn_has {p : Pg} {n : Nat} (hj : p.sup.jn = 2) (ht : 4 + p.ps.length = n) (k : Nat) (h1 : 4 ≤ k) (h2 : k < n) : p.has (k : Int) = true ∧ p.spot (k : Int) = k - 4 := by
  refine ⟨decide_eq_true ?_, ?_⟩
  · rw [hj]; omega
  · rw [Pg.spot, hj]; omega
theorem snd_pg {n : Nat} {p p' : Pg} {st st' : St} (h : Std n p st) (hb : p'.bad = false) (hs : p'.sup = p.sup) (hd : Snd n p.sup st') (h1 : st'.down = false) (h2 : st'.arm = false) : Std n p' st' := ⟨hb, by rw [hs]; exact hd, h1, h2⟩
theorem told0 (p : Pg) (e : Int) (h : e ≠ 8) : p.told e = p := by
  unfold Pg.told
  rw [show (e == 8) = false by simpa using h, Bool.or_false]
theorem goes_fr (st : St) (i : Nat) (l : List Nat) (k : Nat) (h : k ≠ i) : (st.goes i l).fr k = st.fr k := by
  unfold St.goes St.puts
  cases st.arm <;> simp [h, St.less]
/-- a page given out, and written -/
theorem give_write {n : Nat} {p : Pg} {st : St} (h : Std n p st) (hj : p.sup.jn = 2) (ht : 4 + p.ps.length = n) (hi : p.ps.idxOf 0 < p.ps.length) (l : List Nat) :
    ∃ P : Nat, 4 ≤ P ∧ P < n ∧ p.ps.getD (P - 4) 0 = 0 ∧ p.alloc = ({ p with ps := p.ps.set (P - 4) 1 }, (P : Int), 0) ∧
      ({ p with ps := p.ps.set (P - 4) 1 } : Pg).write n P l st = (({ p with ps := p.ps.set (P - 4) 1 }, if l.length ≤ 4096 then st.goes P l else st), if l.length ≤ 4096 then 0 else 4) := by
  have h0 := idx_get hi
  have hne := fun i (hij : i < p.ps.idxOf 0) => idx_ne hij (by omega)
  generalize hJ : p.ps.idxOf 0 = J at *
  have hal := alloc_at h.bad hi h0 hne
  refine ⟨4 + J, by omega, by omega, by rw [show 4 + J - 4 = J by omega]; exact h0, ?_, ?_⟩
  · rw [hal, hj, show 4 + J - 4 = J by omega]
    simp only [Prod.mk.injEq, true_and, and_true]
    omega
  · rw [show 4 + J - 4 = J by omega]
    have hh := jn_has (p := { p with ps := p.ps.set J 1 }) (n := n) hj (by simpa using ht) (4 + J) (by omega) (by omega)
    have hc : ({ p with ps := p.ps.set J 1 } : Pg).chk ((4 + J : Nat) : Int) [1] = 0 := chk_of h.bad hh.1 (by
      rw [Pg.how, hh.2]
      show [1].contains ((p.ps.set J 1).getD (4 + J - 4) 0) = true
      rw [getD_set, if_pos ⟨by omega, hi⟩]; decide)
    rw [Pg.write, if_pos hc]
    by_cases hl : l.length ≤ 4096
    · have hw := write_in (n := n) (i := ((4 + J : Nat) : Int)) (l := l) (st := st) h.up (by omega) hl
      rw [if_neg (by rw [h.no]; simp)] at hw
      rw [hw, if_pos hl, if_pos hl, told0 _ _ (show ¬ (0 : Int) = 8 by decide)]
      rfl
    · have hw : st.write n ((4 + J : Nat) : Int) l = (st, 4) := by
        rw [St.write, if_neg (by rw [h.up]; decide), if_neg (fun e => e (by omega)), if_pos (by omega)]
      rw [hw, if_neg hl, if_neg hl, told0 _ _ (show ¬ (4 : Int) = 8 by decide)]
theorem alloc_full {p : Pg} (hb : p.bad = false) (hi : ¬ p.ps.idxOf 0 < p.ps.length) : p.alloc = (p, 0, 7) := by
  rw [Pg.alloc, if_neg (by rw [hb]; decide), if_neg hi]
theorem used_give {p : Pg} {P : Nat} (h : P - 4 < p.ps.length) (h0 : p.ps.getD (P - 4) 0 = 0) : usedN (p.ps.set (P - 4) 1) = usedN p.ps + 1 := by
  have := usedN_set 1 h
  rw [h0, if_pos rfl, if_neg (by decide)] at this
  omega
theorem SfA.step {n : Nat} {p : Pg} {st : St} {ks : List Nat} {ts : List (List Nat)} (h : SfA n p st ks ts) (hi : p.ps.idxOf 0 < p.ps.length) (l : List Nat) :
    ∃ P : Nat, 4 ≤ P ∧ P < n ∧ p.alloc = ({ p with ps := p.ps.set (P - 4) 1 }, (P : Int), 0) ∧
      ({ p with ps := p.ps.set (P - 4) 1 } : Pg).write n P l st = (({ p with ps := p.ps.set (P - 4) 1 }, if l.length ≤ 4096 then st.goes P l else st), if l.length ≤ 4096 then 0 else 4) ∧
      (l.length ≤ 4096 → SfA n { p with ps := p.ps.set (P - 4) 1 } (st.goes P l) (ks ++ [P]) (ts ++ [full l])) ∧ (¬ l.length ≤ 4096 → SfA n { p with ps := p.ps.set (P - 4) 1 } st ks ts) := by
  have hj : p.sup.jn = 2 := by rw [h.sup]; rfl
  obtain ⟨P, p1, p2, p3, p4, p5⟩ := give_write h.std hj h.tot hi l
  have ht := h.tot
  have hPl : P - 4 < p.ps.length := by omega
  have hu := used_give hPl p3
  have hpn : ∀ i, i < ks.length → kAt ks i ≠ P := fun i hi e => by
    have := (h.pg i hi).2.2
    rw [e, p3] at this
    exact absurd this (by decide)
  have hpg : ∀ i, i < ks.length → 4 ≤ kAt ks i ∧ kAt ks i < n ∧ (p.ps.set (P - 4) 1).getD (kAt ks i - 4) 0 = 1 := fun i hi => by
    obtain ⟨a1, a2, a3⟩ := h.pg i hi
    refine ⟨a1, a2, ?_⟩
    rw [getD_set, if_neg (fun e => hpn i hi (by omega))]; exact a3
  refine ⟨P, p1, p2, p4, p5, fun hl => ?_, fun hl => ?_⟩
  · refine ⟨snd_pg h.std h.std.bad rfl (h.std.snd.goes (by omega) l) (by rw [down_goes]; exact h.std.up) (by rw [arm_goes]; exact h.std.no), h.sup, by simpa using ht, fun i hi => ?_, fun i j hij hjl => ?_, by simp [h.tl], fun i hi => ?_, ?_, ?_⟩
    · rw [kAt_snoc]
      by_cases e : i = ks.length
      · rw [if_pos e]
        exact ⟨p1, p2, by rw [getD_set, if_pos ⟨rfl, hPl⟩]⟩
      · rw [if_neg e]; exact hpg i (by simp at hi; omega)
    · rw [kAt_snoc, kAt_snoc]
      simp at hjl
      rw [if_neg (by omega)]
      by_cases e : j = ks.length
      · rw [if_pos e]; exact hpn i (by omega)
      · rw [if_neg e]; exact h.nd i j hij (by omega)
    · rw [kAt_snoc, tAt_snoc, h.tl, reads_goes]
      by_cases e : i = ks.length
      · rw [if_pos e, if_pos e, if_pos rfl]
      · rw [if_neg e, if_neg e, if_neg (hpn i (by simp at hi; omega))]
        exact h.tx i (by simp at hi; omega)
    · rw [goes_wr]
      have := h.wr
      show _ ≤ 2 + usedN (p.ps.set (P - 4) 1)
      omega
    · have := h.few
      simp
      show _ ≤ usedN (p.ps.set (P - 4) 1)
      omega
  · refine ⟨snd_pg h.std h.std.bad rfl h.std.snd h.std.up h.std.no, h.sup, by simpa using ht, hpg, h.nd, h.tl, h.tx, ?_, ?_⟩
    · have := h.wr
      show _ ≤ 2 + usedN (p.ps.set (P - 4) 1)
      omega
    · have := h.few
      show _ ≤ usedN (p.ps.set (P - 4) 1)
      omega
theorem SfA.commit {n : Nat} {p : Pg} {st : St} {ks : List Nat} {ts : List (List Nat)} (h : SfA n p st ks ts) (hn : n ≤ 1024) :
    p.commit n 0 1 0 st = ((p.settled (p.sup.next 0 1 0), Pg.flipSt (p.sup.next 0 1 0) st), 0) ∧ SfB n (p.settled (p.sup.next 0 1 0)) (Pg.flipSt (p.sup.next 0 1 0) st) ks ts 0 := by
  have hm : (p.sup.next 0 1 0).may = true := by rw [h.sup]; decide
  obtain ⟨c1, c2⟩ := h.std.commit 0 1 0 hm (.inl rfl)
  have hu := usedN_le p.ps
  have ht := h.tot
  have hpg : ∀ i, i < ks.length → (p.ps.map settleN).getD (kAt ks i - 4) 0 = 2 := fun i hi => by
    rw [getD_settle, (h.pg i hi).2.2]; rfl
  refine ⟨c1, c2, ?_, by simpa [Pg.settled] using ht, fun i hi => ⟨(h.pg i hi).1, (h.pg i hi).2.1, .inl (hpg i hi)⟩, fun j _ hj => hpg j hj, h.nd, h.tl, fun i hi => ?_, fun k _ => flipSt_fr _ _ k, ?_, ?_⟩
  · show (p.sup.next 0 1 0).jn = 2
    rw [h.sup]; rfl
  · rw [flipSt_reads _ _ (by have := (h.pg i hi).1; omega)]; exact h.tx i hi
  · rw [flipSt_wr]
    have := h.wr
    omega
  · have := h.few
    omega
theorem SfB.skip {n : Nat} {p : Pg} {st : St} {ks : List Nat} {ts : List (List Nat)} {i : Nat} (h : SfB n p st ks ts i) : SfB n p st ks ts (i + 1) :=
  ⟨h.std, h.jn, h.tot, h.pg, fun j hj => h.un j (by omega), h.nd, h.tl, h.tx, h.fr, h.wr, h.few⟩
theorem SfB.free {n : Nat} {p : Pg} {st : St} {ks : List Nat} {ts : List (List Nat)} {i : Nat} (h : SfB n p st ks ts i) (hi : i < ks.length) :
    (p.free (kAt ks i : Nat)).2 = 0 ∧ SfB n (p.free (kAt ks i : Nat)).1 st ks ts (i + 1) := by
  obtain ⟨a1, a2, a3⟩ := h.pg i hi
  obtain ⟨b1, b2⟩ := jn_has h.jn h.tot _ a1 a2
  have h2 := h.un i (Nat.le_refl _) hi
  have hw : p.how (kAt ks i : Nat) = 2 := by rw [Pg.how, b2]; exact h2
  have hc : p.chk (kAt ks i : Nat) [1, 2] = 0 := chk_of h.std.bad b1 (by rw [hw]; decide)
  have hlt : kAt ks i - 4 < p.ps.length := by have := h.tot; omega
  have hu := usedN_set 3 hlt
  rw [h2, if_neg (by decide), if_neg (by decide)] at hu
  rw [Pg.free, if_pos hc, if_neg (by rw [hw]; decide), Pg.put, b2]
  refine ⟨rfl, snd_pg h.std h.std.bad rfl h.std.snd h.std.up h.std.no, h.jn, by simpa using h.tot, fun j hj => ?_, fun j hj hjl => ?_, h.nd, h.tl, h.tx, h.fr, ?_, h.few⟩
  · obtain ⟨c1, c2, c3⟩ := h.pg j hj
    refine ⟨c1, c2, ?_⟩
    show (p.ps.set (kAt ks i - 4) 3).getD _ 0 = 2 ∨ (p.ps.set (kAt ks i - 4) 3).getD _ 0 = 3
    rw [getD_set]
    split
    · exact .inr rfl
    · exact c3
  · have hne := h.nd i j (by omega) hjl
    obtain ⟨c1, _, _⟩ := h.pg j hjl
    show (p.ps.set (kAt ks i - 4) 3).getD _ 0 = 2
    rw [getD_set, if_neg (fun e => hne (by omega))]
    exact h.un j (by omega) hjl
  · have := h.wr
    show _ ≤ 2000 + usedN (p.ps.set (kAt ks i - 4) 3)
    omega
theorem SfB.other {n : Nat} {p : Pg} {st : St} {ks : List Nat} {ts : List (List Nat)} (h : SfB n p st ks ts ks.length) (hi : p.ps.idxOf 0 < p.ps.length) (l : List Nat) :
    ∃ P : Nat, 4 ≤ P ∧ P < n ∧ p.alloc = ({ p with ps := p.ps.set (P - 4) 1 }, (P : Int), 0) ∧ ∃ e st',
      ({ p with ps := p.ps.set (P - 4) 1 } : Pg).write n P l st = (({ p with ps := p.ps.set (P - 4) 1 }, st'), e) ∧ SfB n { p with ps := p.ps.set (P - 4) 1 } st' ks ts ks.length := by
  obtain ⟨P, p1, p2, p3, p4, p5⟩ := give_write h.std h.jn h.tot hi l
  have ht := h.tot
  have hPl : P - 4 < p.ps.length := by omega
  have hu := used_give hPl p3
  have hpn : ∀ i, i < ks.length → kAt ks i ≠ P := fun i hi e => by
    have := (h.pg i hi).2.2
    rw [e, p3] at this
    exact absurd this (by decide)
  have hpg : ∀ i, i < ks.length → 4 ≤ kAt ks i ∧ kAt ks i < n ∧ ((p.ps.set (P - 4) 1).getD (kAt ks i - 4) 0 = 2 ∨ (p.ps.set (P - 4) 1).getD (kAt ks i - 4) 0 = 3) := fun i hi => by
    obtain ⟨a1, a2, a3⟩ := h.pg i hi
    refine ⟨a1, a2, ?_⟩
    rw [getD_set, if_neg (fun e => hpn i hi (by omega))]; exact a3
  refine ⟨P, p1, p2, p4, _, _, p5, ?_⟩
  split
  · refine ⟨snd_pg h.std h.std.bad rfl (h.std.snd.goes (by omega) l) (by rw [down_goes]; exact h.std.up) (by rw [arm_goes]; exact h.std.no), h.jn, by simpa using ht, hpg, fun j hj hjl => by omega, h.nd, h.tl, fun i hi => ?_, fun k hk => ?_, ?_, h.few⟩
    · rw [reads_goes, if_neg (hpn i hi)]; exact h.tx i hi
    · rw [goes_fr _ _ _ _ (fun e => by
        rcases hk with hk | ⟨i, hi, hk⟩
        · omega
        · exact hpn i hi (hk.symm.trans e))]
      exact h.fr k hk
    · rw [goes_wr]
      have := h.wr
      show _ ≤ 2000 + usedN (p.ps.set (P - 4) 1)
      omega
  · refine ⟨snd_pg h.std h.std.bad rfl h.std.snd h.std.up h.std.no, h.jn, by simpa using ht, hpg, fun j hj hjl => by omega, h.nd, h.tl, h.tx, h.fr, ?_, h.few⟩
    have := h.wr
    show _ ≤ 2000 + usedN (p.ps.set (P - 4) 1)
    omega
/-- behind a power cut, and the disk restored -/
structure SfC (n : Nat) (s : Sup) (st : St) (ks : List Nat) (ts : List (List Nat)) : Prop where
  snd : Snd n s st
  jn : s.jn = 2
  up : st.down = false
  n36 : 36 ≤ n
  pg : ∀ i, i < ks.length → 4 ≤ kAt ks i ∧ kAt ks i < n
  nd : ∀ i j, i < j → j < ks.length → kAt ks i ≠ kAt ks j
  tl : ts.length = ks.length
  tx : ∀ i, i < ks.length → full (st.reads (kAt ks i)) = ts.getD i []
theorem SfB.rest {n : Nat} {p : Pg} {st : St} {ks : List Nat} {ts : List (List Nat)} (h : SfB n p st ks ts ks.length) {st' : St} {l : List (Nat × Nat)} (hd : st'.down = true) (hs : ∀ k, st'.reads k = st.reads k ∧ st'.fr k = st.fr k) (hr : (st'.rest n l).2 = 0) : SfC n p.sup (st'.rest n l).1 ks ts := by
  obtain ⟨r1, r2, r3, r4, r5⟩ := rest_keep hd hr
  have hk : ∀ k, (k < 2 ∨ ∃ i, i < ks.length ∧ k = kAt ks i) → (st'.rest n l).1.reads k = st.reads k := fun k hk => by
    rw [r4 k (by rw [(hs k).2]; exact h.fr k hk), (hs k).1]
  exact ⟨h.std.snd.of_reads (fun k hk2 => hk k (.inl hk2)), h.jn, r1, h.std.n1024 h.jn h.tot, fun i hi => ⟨(h.pg i hi).1, (h.pg i hi).2.1⟩, h.nd, h.tl, fun i hi => by rw [hk _ (.inr ⟨i, hi, rfl⟩)]; exact h.tx i hi⟩
theorem SfC.opn {n : Nat} {s : Sup} {st : St} {ks : List Nat} {ts : List (List Nat)} (h : SfC n s st ks ts) : st.cntE n = 0 ∧ st.opn n = ⟨s, List.replicate (n - 4) 0, false⟩ := by
  refine ⟨(h.snd.cnt h.up).1, ?_⟩
  rw [opn_of h.snd h.up, h.jn]
  rfl
theorem SfC.is {n : Nat} {s : Sup} {st : St} {ks : List Nat} {ts : List (List Nat)} (h : SfC n s st ks ts) (i : Nat) (hi : i < ks.length) : (⟨s, List.replicate (n - 4) 0, false⟩ : Pg).is (kAt ks i : Nat) [0] = true := by
  have := h.n36
  obtain ⟨b1, b2⟩ := jn_has (p := ⟨s, List.replicate (n - 4) 0, false⟩) (n := n) h.jn (by simp; omega) _ (h.pg i hi).1 (h.pg i hi).2
  rw [Pg.is, b1, Pg.how, b2, getD_rep]
  rfl
theorem keeps_sup (p : Pg) (ks : List Nat) : (p.keeps ks).sup = p.sup := by
  induction ks generalizing p with
  | nil => rfl
  | cons k ks ih => rw [show p.keeps (k :: ks) = (p.put (k : Int) 2).keeps ks from rfl, ih]; rfl
theorem keeps_bad (p : Pg) (ks : List Nat) : (p.keeps ks).bad = p.bad := by
  induction ks generalizing p with
  | nil => rfl
  | cons k ks ih => rw [show p.keeps (k :: ks) = (p.put (k : Int) 2).keeps ks from rfl, ih]; rfl
theorem keeps_len (p : Pg) (ks : List Nat) : (p.keeps ks).ps.length = p.ps.length := by
  induction ks generalizing p with
  | nil => rfl
  | cons k ks ih => rw [show p.keeps (k :: ks) = (p.put (k : Int) 2).keeps ks from rfl, ih]; simp [Pg.put]
/-- what Keep leaves -/
theorem SfC.keeps {n : Nat} {s : Sup} {st : St} {ks : List Nat} {ts : List (List Nat)} (h : SfC n s st ks ts) (m : Nat) (hm : m ≤ ks.length) :
    usedN ((⟨s, List.replicate (n - 4) 0, false⟩ : Pg).keeps (ks.take m)).ps = m ∧ ∀ i, i < ks.length → ((⟨s, List.replicate (n - 4) 0, false⟩ : Pg).keeps (ks.take m)).ps.getD (kAt ks i - 4) 0 = if i < m then 2 else 0 := by
  have h36 := h.n36
  induction m with
  | zero =>
    rw [List.take_zero, keeps_nil]
    refine ⟨?_, fun i hi => by rw [getD_rep, if_neg (by omega)]⟩
    have : ∀ k, usedN (List.replicate k 0) = 0 := fun k => by
      induction k with
      | zero => rfl
      | succ k ih => rw [List.replicate_succ, usedN_cons, ih]; rfl
    exact this _
  | succ m ih =>
    obtain ⟨i1, i2⟩ := ih (by omega)
    rw [take_snoc ks 0 (by omega), keeps_snoc]
    have hk : ks.getD m 0 = kAt ks m := rfl
    rw [hk]
    have hsup := keeps_sup (⟨s, List.replicate (n - 4) 0, false⟩ : Pg) (ks.take m)
    have hlen := keeps_len (⟨s, List.replicate (n - 4) 0, false⟩ : Pg) (ks.take m)
    generalize (⟨s, List.replicate (n - 4) 0, false⟩ : Pg).keeps (ks.take m) = q at *
    have hl : q.ps.length = n - 4 := by rw [hlen]; simp
    obtain ⟨c1, c2⟩ := h.pg m (by omega)
    obtain ⟨b1, b2⟩ := jn_has (p := q) (n := n) (by rw [hsup]; exact h.jn) (by omega) _ c1 c2
    have hlt : kAt ks m - 4 < q.ps.length := by omega
    have hu := usedN_set 2 hlt
    rw [i2 m (by omega), if_neg (Nat.lt_irrefl _), if_pos rfl, if_neg (by decide)] at hu
    rw [Pg.put, b2]
    refine ⟨by show usedN (q.ps.set _ 2) = _; omega, fun i hi => ?_⟩
    show (q.ps.set (kAt ks m - 4) 2).getD _ 0 = _
    rw [getD_set]
    by_cases e : i = m
    · subst e
      rw [if_pos ⟨rfl, hlt⟩, if_pos (Nat.lt_succ_self _)]
    · have hne : kAt ks i ≠ kAt ks m := by
        rcases Nat.lt_or_ge i m with hh | hh
        · exact h.nd i m hh (by omega)
        · exact fun e2 => h.nd m i (by omega) hi e2.symm
      have d1 := (h.pg i hi).1
      rw [if_neg (fun e2 => hne (by omega)), i2 i hi]
      by_cases e3 : i < m
      · rw [if_pos e3, if_pos (by omega)]
      · rw [if_neg e3, if_neg (by omega)]
/-- the pager in the end -/
theorem SfC.last {n : Nat} {s : Sup} {st : St} {ks : List Nat} {ts : List (List Nat)} (h : SfC n s st ks ts) : usedN ((⟨s, List.replicate (n - 4) 0, false⟩ : Pg).keeps ks).ps = ks.length ∧ ∀ i, i < ks.length → ((⟨s, List.replicate (n - 4) 0, false⟩ : Pg).keeps ks).pageE n (kAt ks i : Nat) st = 0 ∧ ((⟨s, List.replicate (n - 4) 0, false⟩ : Pg).keeps ks).pageL n (kAt ks i : Nat) st = ts.getD i [] := by
  have h36 := h.n36
  have hk := h.keeps ks.length (Nat.le_refl _)
  rw [List.take_length] at hk
  refine ⟨hk.1, fun i hi => ?_⟩
  have hw := hk.2 i hi
  rw [if_pos hi] at hw
  have hsup := keeps_sup (⟨s, List.replicate (n - 4) 0, false⟩ : Pg) ks
  have hlen := keeps_len (⟨s, List.replicate (n - 4) 0, false⟩ : Pg) ks
  have hbad := keeps_bad (⟨s, List.replicate (n - 4) 0, false⟩ : Pg) ks
  generalize (⟨s, List.replicate (n - 4) 0, false⟩ : Pg).keeps ks = q at *
  have hl : q.ps.length = n - 4 := by rw [hlen]; simp
  obtain ⟨c1, c2⟩ := h.pg i hi
  obtain ⟨b1, b2⟩ := jn_has (p := q) (n := n) (by rw [hsup]; exact h.jn) (by omega) _ c1 c2
  have hc : q.chk (kAt ks i : Nat) [1, 2, 3] = 0 := chk_of hbad b1 (by rw [Pg.how, b2, hw]; decide)
  rw [Pg.pageE, if_pos hc, Pg.pageL, if_pos hc, St.readE, if_neg (by rw [h.up]; decide), if_neg (fun e => e (by omega)), St.readL, if_neg (by rw [h.up]; decide), if_neg (fun e => e (by omega))]
  exact ⟨rfl, h.tx i hi⟩
end Go.Proofs.Ytecmfpgccmmlpaa
