/- the superblock that counts: pure -/
import Derived.Test.YtecmfpgccmmlpaaPm
import Derived.Test.YtecmfpgccmmlpaaPn
namespace Go.Proofs.Ytecmfpgccmmlpaa
open Go.RowKit
set_option maxRecDepth 100000
set_option linter.unusedVariables false
set_option linter.unusedSimpArgs false
theorem reads_syncs (st : St) (k : Nat) : st.syncs.reads k = st.reads k := by simp [St.syncs, St.reads]
theorem reads_goes (st : St) (i : Nat) (l : List Nat) (k : Nat) : (st.goes i l).reads k = if k = i then l else st.reads k := by
  unfold St.goes St.puts St.reads
  by_cases hk : k = i
  · simp [hk]
  · cases h : st.arm <;> simp [hk, St.less]
theorem reads_cuts (st : St) (k : Nat) : st.cuts.reads k = st.reads k := rfl
theorem down_goes (st : St) (i : Nat) (l : List Nat) : (st.goes i l).down = st.down := by
  unfold St.goes St.puts
  cases h : st.arm <;> simp [St.less]
theorem arm_goes (st : St) (i : Nat) (l : List Nat) : (st.goes i l).arm = st.arm := by
  unfold St.goes St.puts
  cases h : st.arm <;> simp [St.less, h]
theorem write_in {n : Nat} {i : Int} {l : List Nat} {st : St} (hd : st.down = false) (hi : 0 ≤ i ∧ i < n) (hl : l.length ≤ 4096) : st.write n i l = if st.arm = true ∧ st.left = 0 then (st.cuts, 8) else (st.goes i.toNat l, 0) := by
  rw [St.write, if_neg (by rw [hd]; decide), if_neg (fun e => e hi), if_neg (by omega)]
theorem sync_up {st : St} (hd : st.down = false) : st.sync = (st.syncs, 0) := by rw [St.sync, if_neg (by rw [hd]; decide)]
theorem full_supL (s : Sup) : full (supL s) = supL s := by simp [full, fullN, supL_length]
theorem lowN_rep (k : Nat) : lowN (List.replicate k 0) = 0 := by
  induction k with
  | zero => rfl
  | succ k ih => rw [List.replicate_succ, lowN, ih]
theorem supAt_zero (n k : Nat) : supAt n k (full []) = none := by
  have h : readS (full []) = none := by
    have hf : full [] = List.replicate 4096 0 := by simp [full, fullN]
    unfold readS
    rw [hf, if_neg]
    rintro ⟨_, h2, _⟩
    have hg : (decS (List.replicate 4096 0)).gen = 0 := by
      show lowN (mid (List.replicate 4096 0) 4 12) = 0
      rw [mid_eq, List.drop_replicate, List.take_replicate, lowN_rep]
    have := (Sup.of_may h2).1
    omega
  rw [supAt, h]
  rfl
/-- the superblock s counts on the disk -/
structure Snd (n : Nat) (s : Sup) (st : St) : Prop where
  may : s.may = true
  fits : s.fits n (s.gen % 2) = true
  here : st.reads (s.gen % 2) = supL s
  there : ∀ t, supAt n ((s.gen + 1) % 2) (full (st.reads ((s.gen + 1) % 2))) = some t → t.gen < s.gen
theorem Snd.of_reads {n : Nat} {s : Sup} {st st' : St} (h : Snd n s st) (hr : ∀ k, k < 2 → st'.reads k = st.reads k) : Snd n s st' :=
  ⟨h.may, h.fits, by rw [hr _ (Nat.mod_lt _ (by decide))]; exact h.here, by rw [hr _ (Nat.mod_lt _ (by decide))]; exact h.there⟩
theorem Snd.syncs {n : Nat} {s : Sup} {st : St} (h : Snd n s st) : Snd n s st.syncs := h.of_reads (fun k _ => reads_syncs st k)
theorem Snd.cuts {n : Nat} {s : Sup} {st : St} (h : Snd n s st) : Snd n s st.cuts := h.of_reads (fun k _ => rfl)
theorem Snd.goes {n : Nat} {s : Sup} {st : St} (h : Snd n s st) {i : Nat} (hi : 2 ≤ i) (l : List Nat) : Snd n s (st.goes i l) := h.of_reads (fun k hk => by rw [reads_goes, if_neg (by omega)])
theorem Snd.big {n : Nat} {s : Sup} {st : St} (h : Snd n s st) : 1 ≤ s.jn ∧ s.jn ≤ (n : Int) - 34 := ⟨(Sup.of_fits h.fits).2.1, (Sup.of_fits h.fits).2.2.1⟩
theorem Snd.at {n : Nat} {s : Sup} {st : St} (h : Snd n s st) (hd : st.down = false) {k : Nat} (hk : k < 2) : st.sAtE n k = (if (supAt n k (full (st.reads k))).isSome then 0 else 6) ∧ st.sAtS n k = (supAt n k (full (st.reads k))).getD sup0 := by
  have hb := h.big
  have h1 : st.readE n k = 0 := by rw [St.readE, if_neg (by rw [hd]; decide), if_neg (fun e => e (by omega))]
  have h2 : st.readL n k = full (st.reads k) := by rw [St.readL, if_neg (by rw [hd]; decide), if_neg (fun e => e (by omega))]; rfl
  exact ⟨by rw [St.sAtE, h1, h2, if_neg (by decide)], by rw [St.sAtS, h1, h2, if_neg (by decide)]⟩
theorem Snd.cnt {n : Nat} {s : Sup} {st : St} (h : Snd n s st) (hd : st.down = false) : st.cntE n = 0 ∧ st.cntS n = s := by
  have hg := (Sup.of_may h.may).1
  have hs : supAt n (s.gen % 2) (full (st.reads (s.gen % 2))) = some s := by rw [h.here, full_supL]; exact supAt_of h.may h.fits
  have ht := h.there
  obtain ⟨e0, s0⟩ := h.at hd (show 0 < 2 by decide)
  obtain ⟨e1, s1⟩ := h.at hd (show 1 < 2 by decide)
  have key : st.fnd n 2 = s ∧ ¬ (st.sAtE n 0 = 8 ∨ st.sAtE n 1 = 8) := by
    refine ⟨?_, ?_⟩
    · rcases (show s.gen % 2 = 0 ∧ (s.gen + 1) % 2 = 1 ∨ s.gen % 2 = 1 ∧ (s.gen + 1) % 2 = 0 by omega) with ⟨ha, hb⟩ | ⟨ha, hb⟩
      · rw [ha] at hs
        rw [hb] at ht
        rw [hs] at e0 s0
        have f1 : st.fnd n 1 = s := by rw [St.fnd, if_pos ⟨by rw [e0]; rfl, by rw [s0]; exact hg⟩, s0]; rfl
        rw [show st.fnd n 2 = if st.sAtE n 1 = 0 ∧ (st.fnd n 1).gen < (st.sAtS n 1).gen then st.sAtS n 1 else st.fnd n 1 from rfl, f1]
        cases hx : supAt n 1 (full (st.reads 1))
        · rw [hx] at e1 s1
          rw [if_neg (fun e => by rw [e1] at e; exact absurd e.1 (by decide))]
        · rename_i t
          rw [hx] at s1
          have := ht t hx
          rw [if_neg (fun e => by rw [s1] at e; have := e.2; simp at this; omega)]
      · rw [ha] at hs
        rw [hb] at ht
        rw [hs] at e1 s1
        have f1 : (st.fnd n 1).gen < s.gen := by
          rw [show st.fnd n 1 = if st.sAtE n 0 = 0 ∧ (st.fnd n 0).gen < (st.sAtS n 0).gen then st.sAtS n 0 else st.fnd n 0 from rfl]
          cases hx : supAt n 0 (full (st.reads 0))
          · rw [hx] at e0 s0
            rw [if_neg (fun e => by rw [e0] at e; exact absurd e.1 (by decide))]
            exact hg
          · rename_i t
            rw [hx] at s0
            have := ht t hx
            split
            · rw [s0]; exact this
            · exact hg
        rw [show st.fnd n 2 = if st.sAtE n 1 = 0 ∧ (st.fnd n 1).gen < (st.sAtS n 1).gen then st.sAtS n 1 else st.fnd n 1 from rfl, if_pos ⟨by rw [e1]; rfl, by rw [s1]; exact f1⟩, s1]
        rfl
    · rw [e0, e1]
      rintro (e | e) <;> (split at e <;> exact absurd e (by decide))
  have hE : st.cntE n = 0 := by rw [St.cntE, if_neg key.2, if_neg (by rw [key.1]; omega)]
  exact ⟨hE, by rw [St.cntS, if_pos hE, key.1]⟩
theorem seq3_ok {st a b c : St} {T0 T1 T2 : St → St × Int} {e : Int} (h0 : T0 st = (a, 0)) (h1 : T1 a = (b, 0)) (h2 : T2 b = (c, e)) : seq3 st T0 T1 T2 = (c, e) := by
  rw [seq3, h0]
  simp only
  rw [if_neg (by decide), h1]
  simp only
  rw [if_neg (by decide), h2]
theorem seq3_no {st a b : St} {T0 T1 T2 : St → St × Int} {e : Int} (h0 : T0 st = (a, 0)) (h1 : T1 a = (b, e)) (he : e ≠ 0) : seq3 st T0 T1 T2 = (b, e) := by
  rw [seq3, h0]
  simp only
  rw [if_neg (by decide), h1, if_pos he]
theorem flip_ok {n : Nat} {nx : Sup} {st : St} (hd : st.down = false) (hn : 2 ≤ n) (ha : ¬ (st.arm = true ∧ st.left = 0)) : Pg.flip n nx st = ((st.syncs.goes (nx.gen % 2) (supL nx)).syncs, 0) := by
  have hw := write_in (n := n) (i := ((nx.gen % 2 : Nat) : Int)) (l := supL nx) (st := st.syncs) hd (by omega) (by rw [supL_length]; exact Nat.le_refl _)
  rw [if_neg (show ¬ (st.syncs.arm = true ∧ st.syncs.left = 0) from ha)] at hw
  rw [Pg.flip]
  exact seq3_ok (sync_up hd) hw (sync_up (by rw [down_goes]; exact hd))
theorem flip_no {n : Nat} {nx : Sup} {st : St} (hd : st.down = false) (hn : 2 ≤ n) (ha : st.arm = true ∧ st.left = 0) : Pg.flip n nx st = (st.syncs.cuts, 8) := by
  have hw := write_in (n := n) (i := ((nx.gen % 2 : Nat) : Int)) (l := supL nx) (st := st.syncs) hd (by omega) (by rw [supL_length]; exact Nat.le_refl _)
  rw [if_pos (show st.syncs.arm = true ∧ st.syncs.left = 0 from ha)] at hw
  rw [Pg.flip]
  exact seq3_no (sync_up hd) hw (by decide)
theorem Snd.flip {n : Nat} {s : Sup} {st : St} (h : Snd n s st) (root : Int) (seq : Nat) (live : Int) (hm : (s.next root seq live).may = true) (hr : root = 0 ∨ (2 + s.jn ≤ root ∧ root < n)) : Snd n (s.next root seq live) ((st.syncs.goes ((s.next root seq live).gen % 2) (supL (s.next root seq live))).syncs) := by
  have hb := h.big
  have hne : ((s.next root seq live).gen + 1) % 2 ≠ (s.next root seq live).gen % 2 := by omega
  have h1 : ((s.next root seq live).gen + 1) % 2 = s.gen % 2 := by show (s.gen + 1 + 1) % 2 = s.gen % 2; omega
  refine ⟨hm, ?_, ?_, ?_⟩
  · exact decide_eq_true ⟨rfl, hb.1, hb.2, hr⟩
  · rw [reads_syncs, reads_goes, if_pos rfl]
  · intro t ht
    rw [reads_syncs, reads_goes, if_neg hne, h1, reads_syncs, h.here, full_supL, supAt_of h.may h.fits] at ht
    cases ht
    exact Nat.lt_succ_self _
theorem fmt_ok {n : Nat} {j : Int} {st : St} (hf : fitsB j n = true) (hn : n ≤ 1024) (hd : st.down = false) (ha : st.arm = false) : (st.fmt n j).2 = 0 ∧ Snd n (fstS j) (st.fmt n j).1 ∧ (st.fmt n j).1.down = false ∧ (st.fmt n j).1.arm = false ∧ (∀ k, (st.fmt n j).1.fr k = none) ∧ (st.fmt n j).1.wr ≤ st.wr + 2 := by
  have hj : 1 ≤ j ∧ j ≤ (n : Int) - 34 := of_decide_eq_true hf
  have hw1 := write_in (n := n) (i := 1) (l := supL (fstS j)) (st := st) hd (by omega) (by rw [supL_length]; exact Nat.le_refl _)
  rw [if_neg (by rw [ha]; simp)] at hw1
  have hw2 := write_in (n := n) (i := 0) (l := []) (st := st.goes 1 (supL (fstS j))) (by rw [down_goes]; exact hd) (by omega) (by simp)
  rw [if_neg (by rw [arm_goes, ha]; simp)] at hw2
  have hE : st.fmt n j = (((st.goes 1 (supL (fstS j))).goes 0 []).syncs, 0) := by
    rw [St.fmt, if_pos hf]
    exact seq3_ok hw1 hw2 (sync_up (by rw [down_goes, down_goes]; exact hd))
  rw [hE]
  refine ⟨rfl, ⟨fst_may hf hn, decide_eq_true ⟨rfl, hj.1, hj.2, .inl rfl⟩, ?_, ?_⟩, ?_, ?_, fun k => rfl, ?_⟩
  · show ((st.goes 1 (supL (fstS j))).goes 0 []).syncs.reads 1 = _
    rw [reads_syncs, reads_goes, if_neg (by decide), reads_goes, if_pos rfl]
  · intro t ht
    rw [show ((fstS j).gen + 1) % 2 = 0 by simp [fstS]] at ht
    rw [reads_syncs, reads_goes, if_pos rfl, supAt_zero] at ht
    cases ht
  · show ((st.goes 1 (supL (fstS j))).goes 0 []).down = false
    rw [down_goes, down_goes]; exact hd
  · show ((st.goes 1 (supL (fstS j))).goes 0 []).arm = false
    rw [arm_goes, arm_goes]; exact ha
  · show ((st.goes 1 (supL (fstS j))).goes 0 []).wr ≤ _
    rw [goes_wr, goes_wr]; exact Nat.le_refl _
end Go.Proofs.Ytecmfpgccmmlpaa
