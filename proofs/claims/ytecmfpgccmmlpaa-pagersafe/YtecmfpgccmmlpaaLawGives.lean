/- PagerGives, walked -/
import Derived.Test.YtecmfpgccmmlpaaPs
import Derived.Test.YtecmfpgccmmlpaaOw
namespace Go.Proofs.Ytecmfpgccmmlpaa
open Go.RowKit
set_option maxRecDepth 100000
set_option linter.unusedVariables false
set_option linter.unusedSimpArgs false
theorem getD_set (l : List Nat) (j i x : Nat) : (l.set j x).getD i 0 = if i = j ∧ j < l.length then x else l.getD i 0 := by
  rw [List.getD_eq_getElem?_getD, List.getD_eq_getElem?_getD, List.getElem?_set]
  by_cases h : j = i
  · subst h
    by_cases hl : j < l.length
    · simp [hl]
    · simp [hl]
  · rw [if_neg h, if_neg (fun e => h e.1.symm)]
theorem getD_settle (l : List Nat) (i : Nat) : (l.map settleN).getD i 0 = settleN (l.getD i 0) := by
  rw [List.getD_eq_getElem?_getD, List.getD_eq_getElem?_getD, List.getElem?_map]
  cases l[i]? <;> rfl
theorem getD_rep (n i : Nat) : (List.replicate n 0).getD i 0 = 0 := by
  rw [List.getD_eq_getElem?_getD, List.getElem?_replicate]
  split <;> rfl
theorem take_mem {l : List Int} {m : Nat} (h : m < l.length) (x : Int) : x ∈ l.take (m + 1) ↔ x ∈ l.take m ∨ x = l.getD m 0 := by
  have e : l.take (m + 1) = l.take m ++ [l.getD m 0] := by
    rw [List.take_add_one, List.getElem?_eq_getElem h, List.getD_eq_getElem?_getD, List.getElem?_eq_getElem h]; rfl
  rw [e, List.mem_append, List.mem_singleton]
/-- alloc of a page whose place is known -/
theorem alloc_at {p : Pg} {j : Nat} (hb : p.bad = false) (hj : j < p.ps.length) (h0 : p.ps.getD j 0 = 0) (hl : ∀ i, i < j → p.ps.getD i 0 ≠ 0) : p.alloc = ({ p with ps := p.ps.set j 1 }, 2 + p.sup.jn + (j : Nat), 0) := by
  have := idx_eq hl hj h0
  rw [Pg.alloc, if_neg (by rw [hb]; decide), this, if_pos hj]
/-- ahead of the first commit: k pages given out -/
def Gv1 (L k : Nat) (p : Pg) : Prop := p.sup = fstS 1 ∧ p.ps.length = L ∧ (∀ i, i < k → p.ps.getD i 0 = 1) ∧ ∀ i, k ≤ i → p.ps.getD i 0 = 0
/-- behind it: eight are kept, of which those of l are given back -/
def Gv2 (L : Nat) (l : List Int) (p : Pg) : Prop := p.sup = ⟨2, 0, 1, 1, 0⟩ ∧ p.ps.length = L ∧ (∀ i, i < 8 → p.ps.getD i 0 = if ((i : Int) + 3) ∈ l then 3 else 2) ∧ ∀ i, 8 ≤ i → p.ps.getD i 0 = 0
theorem Gv1.step {L k : Nat} {p : Pg} (h : Gv1 L k p) (hb : p.bad = false) (hk : k < L) : ∃ v, p.alloc = ({ p with ps := p.ps.set k 1 }, v, 0) ∧ Gv1 L (k + 1) { p with ps := p.ps.set k 1 } := by
  obtain ⟨h1, h2, h3, h4⟩ := h
  refine ⟨_, alloc_at hb (by omega) (h4 k (Nat.le_refl _)) (fun i hi => by rw [h3 i hi]; decide), h1, by simpa using h2, fun i hi => ?_, fun i hi => ?_⟩
  · show (p.ps.set k 1).getD i 0 = 1
    rw [getD_set]
    by_cases e : i = k
    · rw [if_pos ⟨e, by omega⟩]
    · rw [if_neg (fun h => e h.1)]; exact h3 i (by omega)
  · show (p.ps.set k 1).getD i 0 = 0
    rw [getD_set, if_neg (by omega)]
    exact h4 i (by omega)
theorem Gv1.settled {L : Nat} {p : Pg} (h : Gv1 L 8 p) : p.sup.next 0 1 0 = ⟨2, 0, 1, 1, 0⟩ ∧ Gv2 L [] (p.settled ⟨2, 0, 1, 1, 0⟩) := by
  obtain ⟨h1, h2, h3, h4⟩ := h
  refine ⟨by rw [h1]; rfl, rfl, by simpa [Pg.settled] using h2, fun i hi => ?_, fun i hi => ?_⟩
  · show (p.ps.map settleN).getD i 0 = _
    rw [getD_settle, h3 i hi]; simp [settleN]
  · show (p.ps.map settleN).getD i 0 = _
    rw [getD_settle, h4 i hi]; rfl
theorem how_at {p : Pg} {k : Int} (h1 : p.sup.jn = 1) : p.how k = p.ps.getD (k - 3).toNat 0 := by
  rw [Pg.how, Pg.spot, h1]; rfl
theorem Gv2.step {L : Nat} {l : List Int} {m : Nat} {p : Pg} (h : Gv2 L (l.take m) p) (hb : p.bad = false) (hL : 8 ≤ L) (hm : m < l.length) : Gv2 L (l.take (m + 1)) (p.free (l.getD m 0)).1 ∧ (p.free (l.getD m 0)).1.bad = false := by
  obtain ⟨h1, h2, h3, h4⟩ := h
  have hj : p.sup.jn = 1 := by rw [h1]
  have hmem := fun x => take_mem hm x
  generalize l.getD m 0 = k at *
  by_cases hk : 3 ≤ k ∧ k < 11
  · have hhas : p.has k = true := decide_eq_true (by rw [hj]; omega)
    have hhow := how_at (k := k) hj
    have h38 := h3 (k - 3).toNat (by omega)
    rw [show (((k - 3).toNat : Nat) : Int) + 3 = k by omega] at h38
    by_cases hin : k ∈ l.take m
    · have hc : ¬ p.chk k [1, 2] = 0 := by
        intro hc
        have := (chk_zero hc).2.2
        rw [hhow, h38, if_pos hin] at this
        exact absurd this (by decide)
      rw [Pg.free, if_neg hc]
      refine ⟨⟨h1, h2, fun i hi => ?_, h4⟩, hb⟩
      rw [h3 i hi]
      by_cases hi2 : ((i : Int) + 3) ∈ l.take m
      · rw [if_pos hi2, if_pos ((hmem _).2 (.inl hi2))]
      · rw [if_neg hi2, if_neg (fun e => (hmem _).1 e |>.elim hi2 (fun e => hi2 (by rw [e]; exact hin)))]
    · have hc : p.chk k [1, 2] = 0 := chk_of hb hhas (by rw [hhow, h38, if_neg hin]; decide)
      rw [Pg.free, if_pos hc, if_neg (by rw [hhow, h38, if_neg hin]; decide)]
      have hsp : p.spot k = (k - 3).toNat := by rw [Pg.spot, hj]; rfl
      refine ⟨⟨h1, by simpa [Pg.put] using h2, fun i hi => ?_, fun i hi => ?_⟩, hb⟩
      · show (p.ps.set (p.spot k) 3).getD i 0 = _
        rw [hsp, getD_set]
        by_cases e : i = (k - 3).toNat
        · rw [if_pos ⟨e, by omega⟩, if_pos ((hmem _).2 (.inr (by omega)))]
        · rw [if_neg (fun h => e h.1), h3 i hi]
          by_cases hi2 : ((i : Int) + 3) ∈ l.take m
          · rw [if_pos hi2, if_pos ((hmem _).2 (.inl hi2))]
          · rw [if_neg hi2, if_neg (fun e' => (hmem _).1 e' |>.elim hi2 (fun e' => e (by omega)))]
      · show (p.ps.set (p.spot k) 3).getD i 0 = _
        rw [hsp, getD_set, if_neg (by omega)]
        exact h4 i hi
  · have hc : ¬ p.chk k [1, 2] = 0 := by
      intro hc
      obtain ⟨_, hh, hcn⟩ := chk_zero hc
      have := p.of_has hh
      rw [hj] at this
      rw [how_at hj, h4 _ (by omega)] at hcn
      exact absurd hcn (by decide)
    rw [Pg.free, if_neg hc]
    refine ⟨⟨h1, h2, fun i hi => ?_, h4⟩, hb⟩
    rw [h3 i hi]
    by_cases hi2 : ((i : Int) + 3) ∈ l.take m
    · rw [if_pos hi2, if_pos ((hmem _).2 (.inl hi2))]
    · rw [if_neg hi2, if_neg (fun e => (hmem _).1 e |>.elim hi2 (fun e => hk (by omega)))]
/-- the least page of l, or 12 -/
def Lst (l : List Int) (x : Int) : Prop := (x = 12 ∨ (3 ≤ x ∧ x < 11 ∧ x ∈ l)) ∧ ∀ k ∈ l, 3 ≤ k → k < 11 → x ≤ k
theorem Gv2.last {L : Nat} {l : List Int} {p : Pg} (h : Gv2 L l p) (hb : p.bad = false) (hL : 12 ≤ L) (x : Int) (hx : Lst l x) :
    p.alloc = ({ p with ps := p.ps.set 8 1 }, 11, 0) ∧ p.sup.next 0 1 0 = ⟨3, 0, 1, 1, 0⟩ ∧ ∃ q, (Pg.settled { p with ps := p.ps.set 8 1 } ⟨3, 0, 1, 1, 0⟩).alloc = (q, x, 0) := by
  obtain ⟨h1, h2, h3, h4⟩ := h
  have hj : p.sup.jn = 1 := by rw [h1]
  refine ⟨?_, by rw [h1]; rfl, ?_⟩
  · have := alloc_at (j := 8) hb (by omega) (h4 8 (by omega)) (fun i hi => by rw [h3 i hi]; split <;> decide)
    rw [this, hj]; rfl
  · have hg : ∀ i, ((p.ps.set 8 1).map settleN).getD i 0 = settleN (if i = 8 then 1 else p.ps.getD i 0) := fun i => by
      rw [getD_settle, getD_set]
      by_cases e : i = 8
      · rw [if_pos ⟨e, by omega⟩, if_pos e]
      · rw [if_neg (fun h => e h.1), if_neg e]
    rcases hx.1 with rfl | ⟨ha, hb2, hc⟩
    · have := alloc_at (p := Pg.settled { p with ps := p.ps.set 8 1 } ⟨3, 0, 1, 1, 0⟩) (j := 9) hb (by simp [Pg.settled]; omega) (by
        show ((p.ps.set 8 1).map settleN).getD 9 0 = 0
        rw [hg, if_neg (by decide), h4 9 (by omega)]; rfl) (fun i hi => by
        show ((p.ps.set 8 1).map settleN).getD i 0 ≠ 0
        rw [hg]
        by_cases e : i = 8
        · rw [if_pos e]; decide
        · rw [if_neg e, h3 i (by omega), if_neg (fun e' => by have := hx.2 _ e' (by omega) (by omega); omega)]; decide)
      exact ⟨_, this⟩
    · have := alloc_at (p := Pg.settled { p with ps := p.ps.set 8 1 } ⟨3, 0, 1, 1, 0⟩) (j := (x - 3).toNat) hb (by simp [Pg.settled]; omega) (by
        show ((p.ps.set 8 1).map settleN).getD (x - 3).toNat 0 = 0
        rw [hg, if_neg (by omega), h3 _ (by omega), if_pos (by rw [show (((x - 3).toNat : Nat) : Int) + 3 = x by omega]; exact hc)]; rfl) (fun i hi => by
        show ((p.ps.set 8 1).map settleN).getD i 0 ≠ 0
        rw [hg, if_neg (by omega), h3 i (by omega), if_neg (fun e' => by have := hx.2 _ e' (by omega) (by omega); omega)]; decide)
      rw [show 2 + (Pg.settled { p with ps := p.ps.set 8 1 } ⟨3, 0, 1, 1, 0⟩).sup.jn + (((x - 3).toNat : Nat) : Int) = x by show 2 + (1 : Int) + _ = x; omega] at this
      exact ⟨_, this⟩
theorem Lst.step {l : List Int} {m : Nat} {x : Int} (h : Lst (l.take m) x) (hm : m < l.length) : Lst (l.take (m + 1)) (if 3 ≤ l.getD m 0 ∧ l.getD m 0 < 11 then min x (l.getD m 0) else x) := by
  obtain ⟨h1, h2⟩ := h
  have hmem := fun x => take_mem hm x
  generalize l.getD m 0 = k at *
  by_cases hk : 3 ≤ k ∧ k < 11
  · rw [if_pos hk]
    refine ⟨?_, fun y hy ha hb => ?_⟩
    · by_cases hx : x ≤ k
      · rw [Int.min_eq_left hx]
        exact h1.imp id (fun h => ⟨h.1, h.2.1, (hmem _).2 (.inl h.2.2)⟩)
      · rw [Int.min_eq_right (by omega)]
        exact .inr ⟨hk.1, hk.2, (hmem _).2 (.inr rfl)⟩
    · rcases (hmem _).1 hy with h | h
      · have := h2 y h ha hb; omega
      · omega
  · rw [if_neg hk]
    refine ⟨h1.imp id (fun h => ⟨h.1, h.2.1, (hmem _).2 (.inl h.2.2)⟩), fun y hy ha hb => ?_⟩
    rcases (hmem _).1 hy with h | h
    · exact h2 y h ha hb
    · omega
/-- the pager between the steps -/
def GvA (w W : World) (gp gq g gs b n k : Nat) : Prop := ∃ p st, PD w W gp gq g gs b n p st ∧ Std n p st ∧ Gv1 (n - 3) k p ∧ st.wr ≤ 2
def GvB (w W : World) (gp gq g gs b n : Nat) (l : List Int) : Prop := ∃ p st, PD w W gp gq g gs b n p st ∧ Std n p st ∧ Gv2 (n - 3) l p ∧ st.wr ≤ 3
theorem GvA.step {w W : World} {gp gq g gs b n k : Nat} (h : GvA w W gp gq g gs b n k) (hn : 35 ≤ n) (hk : k < 8) : Calls Try.prog 23 #[.pointer (some ⟨gp, 0, none⟩)] W fun e W' => (∃ v, e = .returned (.tuple #[.int .i64 v, .int .i64 0])) ∧ GvA w W' gp gq g gs b n (k + 1) := by
  obtain ⟨p, st, h1, h2, h3, h4⟩ := h
  obtain ⟨v, ha, hs⟩ := h3.step h2.bad (by omega)
  have := h1.alloc
  rw [ha] at this
  exact this.mono (fun e W' ⟨q1, q2⟩ => ⟨⟨v, q1⟩, _, st, q2, ⟨h2.bad, h2.snd, h2.up, h2.no⟩, hs, h4⟩)
theorem GvA.commit {w W : World} {gp gq g gs b n : Nat} (h : GvA w W gp gq g gs b n 8) : Calls Try.prog 17 #[.pointer (some ⟨gp, 0, none⟩), .int .i64 0, .int .u64 1, .int .i64 0] W fun e W' => e = .returned (.int .i64 0) ∧ GvB w W' gp gq g gs b n [] := by
  obtain ⟨p, st, h1, h2, h3, h4⟩ := h
  obtain ⟨e1, e2⟩ := h3.settled
  obtain ⟨hc, hs⟩ := h2.commit 0 1 0 (by rw [e1]; decide) (.inl rfl)
  have := h1.commit 0 1 0 (by decide) (by decide) (by omega)
  rw [hc] at this
  refine this.mono (fun e W' ⟨q1, q2⟩ => ⟨q1, _, _, q2, hs, ?_, by rw [flipSt_wr]; omega⟩)
  rw [e1]; exact e2
theorem GvB.step {w W : World} {gp gq g gs b n m : Nat} {l : List Int} (h : GvB w W gp gq g gs b n (l.take m)) (hn : 35 ≤ n) (hm : m < l.length) (hb : i64B (l.getD m 0)) : Calls Try.prog 26 #[.pointer (some ⟨gp, 0, none⟩), .int .i64 (l.getD m 0)] W fun e W' => (∃ v, e = .returned (.int .i64 v)) ∧ GvB w W' gp gq g gs b n (l.take (m + 1)) := by
  obtain ⟨p, st, h1, h2, h3, h4⟩ := h
  obtain ⟨hs, hbd⟩ := h3.step h2.bad (by omega) hm
  have hsup : (p.free (l.getD m 0)).1.sup = p.sup := by rw [hs.1, h3.1]
  exact (h1.free (l.getD m 0) hb.1 hb.2).mono (fun e W' ⟨q1, q2⟩ => ⟨⟨_, q1⟩, _, st, q2, ⟨hbd, by rw [hsup]; exact h2.snd, h2.up, h2.no⟩, hs, h4⟩)
/-- the last three calls -/
theorem GvB.last {w W : World} {gp gq g gs b n : Nat} {l : List Int} (h : GvB w W gp gq g gs b n l) (hn : 35 ≤ n) : Calls Try.prog 23 #[.pointer (some ⟨gp, 0, none⟩)] W fun e W' => e = .returned (.tuple #[.int .i64 11, .int .i64 0]) ∧ (Calls Try.prog 17 #[.pointer (some ⟨gp, 0, none⟩), .int .i64 0, .int .u64 1, .int .i64 0] W' fun e W'' => e = .returned (.int .i64 0) ∧ Below w.heap.size w W'' ∧ ∀ x, Lst l x → Calls Try.prog 23 #[.pointer (some ⟨gp, 0, none⟩)] W'' fun e W3 => e = .returned (.tuple #[.int .i64 x, .int .i64 0]) ∧ Below w.heap.size w W3) := by
  obtain ⟨p, st, h1, h2, h3, h4⟩ := h
  obtain ⟨a1, a2, _⟩ : p.alloc = ({ p with ps := p.ps.set 8 1 }, 11, 0) ∧ p.sup.next 0 1 0 = ⟨3, 0, 1, 1, 0⟩ ∧ True := by
    obtain ⟨g1, g2, g3, g4⟩ := h3
    refine ⟨?_, by rw [g1]; rfl, trivial⟩
    have := alloc_at (j := 8) h2.bad (by omega) (g4 8 (by omega)) (fun i hi => by rw [g3 i hi]; split <;> decide)
    rw [this, g1]; rfl
  have hA := h1.alloc
  rw [a1] at hA
  refine hA.mono ?_
  rintro e W' ⟨rfl, q2⟩
  refine ⟨rfl, ?_⟩
  have h2' : Std n { p with ps := p.ps.set 8 1 } st := ⟨h2.bad, h2.snd, h2.up, h2.no⟩
  have e1 : (Pg.sup { p with ps := p.ps.set 8 1 }).next 0 1 0 = ⟨3, 0, 1, 1, 0⟩ := a2
  obtain ⟨hc, hs⟩ := h2'.commit 0 1 0 (by rw [e1]; decide) (.inl rfl)
  have hC := q2.commit 0 1 0 (by decide) (by decide) (by omega)
  rw [hc, e1] at hC
  refine hC.mono ?_
  rintro e W'' ⟨rfl, q3⟩
  refine ⟨rfl, q3.b, fun x hx => ?_⟩
  obtain ⟨_, _, q, hq⟩ := h3.last h2.bad (by omega) x hx
  have hL := q3.alloc
  rw [hq] at hL
  exact hL.mono (fun e W3 ⟨r1, r2⟩ => ⟨r1, r2.b⟩)
set_option maxHeartbeats 4000000 in
theorem givesWalk (N : Int) (a : Option Addr) (len cap : Nat) (l : List Int) (w : World) (hN : -9223372036854775808 ≤ N ∧ N ≤ 9223372036854775807) (hK : IsK w a len cap l) (hlen : len ≤ 140737488355328) :
    Calls Try.prog 8 #[.int .i64 N, .slice a len cap] w fun e w' => e = .returned (.bool true) ∧ Below w.heap.size w w' := by
  have HK := hide hK
  have HLL := hide hK.1
  clear hK hN
  by_cases hn : 1 ≤ N ∧ N ≤ 1024
  · obtain ⟨n, rfl⟩ := Int.eq_ofNat_of_zero_le (show 0 ≤ N by omega)
    have h0 : 0 < n := by omega
    have h1 : n ≤ 1024 := by omega
    clear hn
    go_enter Try.func8, Try.ntmps8
    go_wp2_with fail
    refine (lives_any w).mono ?_
    rintro e w1 ⟨rfl, hb1⟩
    have HN := hide (DD.new w w1 hb1 n h0 h1)
    clear hb1
    go_wp2_with fail
    refine HN.out.mono ?_
    rintro e w2 ⟨g, gs, b, rfl, hd2⟩
    have HFM := hide (hd2.format 1 (by decide))
    clear hd2 HN
    by_cases hf : fitsB 1 n = true
    · obtain ⟨z1, z2, z3, z4, z5, z6, z7⟩ := fmt_std hf h1
      have h35 : 35 ≤ n := by
        have : (1 : Int) ≤ 1 ∧ (1 : Int) ≤ (n : Int) - 34 := of_decide_eq_true hf
        omega
      rw [z1] at HFM
      have HOP : Hid (∀ W : World, DD w W g gs b n (st0.fmt n 1).1 → Calls Try.prog 16 #[.pointer (some ⟨g, 0, none⟩)] W fun e W' => ∃ gp gq, e = .returned (.tuple #[.pointer (some ⟨gp, 0, none⟩), .int .i64 0]) ∧ GvA w W' gp gq g gs b n 0) := hide (fun W h => (h.openOk z2).mono (fun e W' ⟨gp, gq, h1, h2⟩ => ⟨gp, gq, h1, _, _, h2, z3, ⟨z4, by rw [z5, List.length_replicate]; rfl, fun i hi => absurd hi (Nat.not_lt_zero _), fun i _ => by rw [z5]; exact getD_rep _ _⟩, z6⟩))
      clear z1 z2 z3 z4 z5 z6 z7 hf
      go_wp2_with fail
      refine HFM.out.mono ?_
      rintro e w3 ⟨rfl, hd3⟩
      have HO3 := hide (HOP.out w3 hd3)
      clear hd3 HFM HOP
      go_wp2_with fail
      refine HO3.out.mono ?_
      rintro e w4 ⟨gp, gq, rfl, hga⟩
      have HGA := hide hga
      clear hga HO3
      go_wp2_with fail
      go_loopw [8] (fun i wr => ∃ k : Nat, k ≤ 8 ∧ i = .int .i64 (k : Nat) ∧ Hid (GvA w wr gp gq g gs b n k)) (fun i _ => 8 - (intOf i).toNat)
      case atStart => exact ⟨0, by omega, rfl, HGA⟩
      case round =>
        obtain ⟨k, hk, rfl, HI⟩ := hrel
        clear HGA
        by_cases hk8 : k < 8
        · have HST := hide (HI.out.step h35 hk8)
          clear HI
          go_wp2_with fail
          refine HST.out.mono ?_
          rintro e w5 ⟨⟨v, rfl⟩, h5⟩
          have H5 := hide h5
          clear h5 HST
          go_wp2_with fail
          exact ⟨⟨k + 1, by omega, by simp, H5⟩, by simp [intOf]; omega⟩
        · have hk88 : k = 8 := by omega
          subst hk88
          have HCM := hide HI.out.commit
          clear HI hk hk8
          go_wp2_with fail
          refine HCM.out.mono ?_
          rintro e w5 ⟨rfl, h5⟩
          have H5 := hide h5
          clear h5 HCM
          go_wp2_with fail
          go_loopw [46] (fun i wr => ∃ m : Nat, m ≤ len ∧ i = .int .i64 (m : Nat) ∧ Hid (GvB w wr gp gq g gs b n (l.take m))) (fun i _ => len - (intOf i).toNat)
          case atStart => exact ⟨0, Nat.zero_le _, rfl, by rw [List.take_zero]; exact H5⟩
          case round =>
            obtain ⟨m, hm, rfl, HI⟩ := hrel
            clear H5
            by_cases hml : m < len
            · obtain ⟨hbd, bb, off, rfl, hlt, hc⟩ := HK.out.2.2.2.2 m hml
              have hbw : Below w.heap.size w wr := by obtain ⟨p, st, h1, _⟩ := HI.out; exact h1.b
              have hcw := (hbw.cell (p := ⟨bb, off + m, none⟩) hlt).trans hc
              have HST := hide (HI.out.step h35 (by rw [HLL.out]; exact hml) hbd)
              clear HI hbw hc hbd
              generalize l.getD m 0 = kk at *
              go_wp2_with fail
              refine HST.out.mono ?_
              rintro e w6 ⟨⟨v, rfl⟩, h6⟩
              have H6 := hide h6
              clear h6 HST
              go_wp2_with fail
              exact ⟨⟨m + 1, by omega, by simp, H6⟩, by simp [intOf]; omega⟩
            · have hmm : m = len := by omega
              subst hmm
              have HLA := hide (GvB.last (l := l) (by have := HI.out; rwa [List.take_of_length_le (by rw [HLL.out]; exact Nat.le_refl _)] at this) h35)
              clear HI hm hml
              go_wp2_with fail
              refine HLA.out.mono ?_
              rintro e w6 ⟨rfl, hc6⟩
              have HC6 := hide hc6
              clear hc6 HLA
              go_wp2_with fail
              refine HC6.out.mono ?_
              rintro e w7 ⟨rfl, hbw7, hx7⟩
              have HB7 := hide hbw7
              have HX7 := hide hx7
              clear hbw7 hx7 HC6
              go_wp2_with fail
              go_loopw [72, 13] (fun i x wr => ∃ (m' : Nat) (X : Int), m' ≤ m ∧ i = .int .i64 (m' : Nat) ∧ x = .int .i64 X ∧ Hid (Lst (l.take m') X) ∧ wr = w7) (fun i _ _ => m - (intOf i).toNat)
              case atStart => exact ⟨0, 12, Nat.zero_le _, rfl, rfl, hide ⟨.inl rfl, by simp⟩, rfl⟩
              case round =>
                obtain ⟨m', X, hm', rfl, rfl, HX, rfl⟩ := hrel
                by_cases hml : m' < m
                · obtain ⟨hbd, bb, off, rfl, hlt, hc⟩ := HK.out.2.2.2.2 m' hml
                  have hcw := (HB7.out.cell (p := ⟨bb, off + m', none⟩) hlt).trans hc
                  have HST := hide (HX.out.step (by rw [HLL.out]; exact hml))
                  clear hc hbd
                  obtain ⟨kk, hkk⟩ : ∃ kk, l.getD m' 0 = kk := ⟨_, rfl⟩
                  rw [hkk] at HST hcw
                  clear hkk HX
                  by_cases hk3 : 3 ≤ kk
                  · have d3 : decide (3 ≤ kk) = true := decide_eq_true hk3
                    by_cases hk11 : kk < 11
                    · have d11 : decide (kk < 11) = true := decide_eq_true hk11
                      rw [if_pos ⟨hk3, hk11⟩] at HST
                      go_wp2_with fail
                      exact ⟨⟨m' + 1, min X kk, by omega, by simp, rfl, HST, trivial⟩, by simp [intOf]; omega⟩
                    · have d11 : decide (kk < 11) = false := decide_eq_false hk11
                      rw [if_neg (fun h => hk11 h.2)] at HST
                      clear hk3 hk11
                      go_wp2_with fail
                      exact ⟨⟨m' + 1, X, by omega, by simp, rfl, HST, trivial⟩, by simp [intOf]; omega⟩
                  · have d3 : decide (3 ≤ kk) = false := decide_eq_false hk3
                    rw [if_neg (fun h => hk3 h.1)] at HST
                    clear hk3
                    go_wp2_with fail
                    exact ⟨⟨m' + 1, X, by omega, by simp, rfl, HST, trivial⟩, by simp [intOf]; omega⟩
                · have hmm : m' = m := by omega
                  subst hmm
                  have HF := hide (HX7.out X (by have := HX.out; rwa [List.take_of_length_le (by rw [HLL.out]; exact Nat.le_refl _)] at this))
                  clear HX HX7
                  go_wp2_with fail
                  refine HF.out.mono ?_
                  rintro e w8 ⟨rfl, hb8⟩
                  have HB8 := hide hb8
                  clear hb8 HF
                  go_wp2
                  go_ret
                  exact ⟨rfl, HB8.out⟩
    · have HZ : Hid ((st0.fmt n 1).2 = 2) := hide (by rw [St.fmt, if_neg hf])
      rw [HZ.out] at HFM
      clear hf
      go_wp2_with fail
      refine HFM.out.mono ?_
      rintro e w3 ⟨rfl, hd3⟩
      have HB := hide hd3.b
      clear hd3 HFM
      go_wp2
      go_ret
      exact ⟨rfl, HB.out⟩
  · have HNO := hide (fun W => new_no W N hn)
    clear hn
    go_enter Try.func8, Try.ntmps8
    go_wp2_with fail
    refine (lives_any w).mono ?_
    rintro e w1 ⟨rfl, hb1⟩
    have HB1 := hide hb1
    clear hb1
    go_wp2_with fail
    refine (HNO.out w1).mono ?_
    rintro e w2 ⟨rfl, rfl⟩
    go_wp2_with fail
    refine (format_nil 1 w2).mono ?_
    rintro e w3 ⟨rfl, rfl⟩
    go_wp2
    go_ret
    exact ⟨rfl, HB1.out⟩
end Go.Proofs.Ytecmfpgccmmlpaa
