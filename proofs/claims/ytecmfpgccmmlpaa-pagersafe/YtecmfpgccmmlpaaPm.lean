/- counts -/
import Derived.Test.YtecmfpgccmmlpaaPl
namespace Go.Proofs.Ytecmfpgccmmlpaa
open Go.RowKit
set_option maxRecDepth 100000
set_option linter.unusedVariables false
set_option linter.unusedSimpArgs false
/-- the best superblock of the first k sectors -/
def St.fnd (n : Nat) (st : St) : Nat → Sup
  | 0 => sup0
  | k + 1 => if st.sAtE n k = 0 ∧ (St.fnd n st k).gen < (st.sAtS n k).gen then st.sAtS n k else St.fnd n st k
def St.cntE (n : Nat) (st : St) : Int := if st.sAtE n 0 = 8 ∨ st.sAtE n 1 = 8 then 8 else if (st.fnd n 2).gen = 0 then 6 else 0
def St.cntS (n : Nat) (st : St) : Sup := if st.cntE n = 0 then st.fnd n 2 else sup0
/-- between two sectors -/
structure Cn (w wr : World) (f : Sup) : Prop where
  b : Below w.heap.size w wr
  x : wr.heap[w.heap.size]? = some (.cells #[.int .u64 0, .int .i64 0, .int .u64 0, .int .i64 0, .int .i64 0] 24 (0, 0))
  y : wr.heap[w.heap.size + 1]? = some (.cells (supC f) 24 (0, 0))
theorem sAtS_gen {n k : Nat} {st : St} (h : st.sAtE n k = 0) : (st.sAtS n k).may = true ∧ (st.sAtS n k).fits n k = true ∧ st.readE n k = 0 ∧ st.readL n k = supL (st.sAtS n k) := by
  unfold St.sAtE at h
  unfold St.sAtS
  by_cases h1 : st.readE n k ≠ 0
  · rw [if_pos h1] at h
    exact absurd h h1
  · rw [if_neg h1] at h ⊢
    cases hs : supAt n k (st.readL n k)
    · rw [hs] at h; simp at h
    · rename_i s
      have := supAt_some hs
      exact ⟨this.1, this.2.2, by simpa using h1, this.2.1⟩
set_option maxHeartbeats 2000000 in
theorem counts_any (w : World) (g gs b n : Nat) (st : St) (h : IsD NoX w g gs b n st) : Calls Try.prog 45 #[.iface 34 (.pointer (some ⟨g, 0, none⟩))] w fun e w' => e = .returned (.tuple #[supV (st.cntS n), .int .i64 (st.cntE n)]) ∧ Below w.heap.size w w' := by
  have HD := hide h
  have HC0 : Hid (Cn w ((w.alloc (.cells #[.int .u64 0, .int .i64 0, .int .u64 0, .int .i64 0, .int .i64 0] 24)).alloc (.cells #[.int .u64 0, .int .i64 0, .int .u64 0, .int .i64 0, .int .i64 0] 24)) sup0) := hide ⟨((Below.refl _ w).alloc (Nat.le_refl _) _).alloc (by simp) _, (((Below.refl (w.heap.size + 1) (w.alloc (.cells #[.int .u64 0, .int .i64 0, .int .u64 0, .int .i64 0, .int .i64 0] 24))).alloc (by simp) _).block _ (by omega)).trans (heap_alloc_new _ _), by
    have := heap_alloc_new (w.alloc (.cells #[.int .u64 0, .int .i64 0, .int .u64 0, .int .i64 0, .int .i64 0] 24)) (.cells #[.int .u64 0, .int .i64 0, .int .u64 0, .int .i64 0, .int .i64 0] 24)
    rw [show (w.alloc (.cells #[.int .u64 0, .int .i64 0, .int .u64 0, .int .i64 0, .int .i64 0] 24)).heap.size = w.heap.size + 1 by simp] at this
    exact this⟩
  have HA : Hid ((st.sAtE n 0 = 8 ∨ st.sAtE n 1 = 8) → st.cntE n = 8 ∧ st.cntS n = sup0) := hide (fun h => by
    have : st.cntE n = 8 := by rw [St.cntE, if_pos h]
    exact ⟨this, by rw [St.cntS, this, if_neg (by decide)]⟩)
  have HB : Hid (¬ st.sAtE n 0 = 8 → ¬ st.sAtE n 1 = 8 → (st.fnd n 2).gen = 0 → st.cntE n = 6 ∧ st.cntS n = sup0) := hide (fun h1 h2 h3 => by
    have : st.cntE n = 6 := by rw [St.cntE, if_neg (fun h => h.elim h1 h2), if_pos h3]
    exact ⟨this, by rw [St.cntS, this, if_neg (by decide)]⟩)
  have HE : Hid (¬ st.sAtE n 0 = 8 → ¬ st.sAtE n 1 = 8 → ¬ (st.fnd n 2).gen = 0 → st.cntE n = 0 ∧ st.cntS n = st.fnd n 2) := hide (fun h1 h2 h3 => by
    have : st.cntE n = 0 := by rw [St.cntE, if_neg (fun h => h.elim h1 h2), if_neg h3]
    exact ⟨this, by rw [St.cntS, this, if_pos rfl]⟩)
  have HF : Hid (∀ k, st.fnd n (k + 1) = if st.sAtE n k = 0 ∧ (st.fnd n k).gen < (st.sAtS n k).gen then st.sAtS n k else st.fnd n k) := hide (fun k => rfl)
  have HF0 : Hid (st.fnd n 0 = sup0) := hide rfl
  have HSA : Hid (∀ (W : World) (k : Nat), Below w.heap.size w W → k < 2 → Calls Try.prog 64 #[.iface 34 (.pointer (some ⟨g, 0, none⟩)), .int .i64 (k : Nat)] W fun e w' => e = .returned (.tuple #[.agg (supC (st.sAtS n k)), .int .i64 (st.sAtE n k)]) ∧ Below W.heap.size W w') := hide (fun W k hW hk => superAt_any W g gs b n st (HD.out.below hW) k hk)
  generalize st.cntE n = CE at *
  generalize st.cntS n = CS at *
  generalize st.fnd n = FN at *
  obtain ⟨SE, hSE⟩ : ∃ f : Nat → Int, (fun k => st.sAtE n k) = f := ⟨_, rfl⟩
  obtain ⟨SS, hSS⟩ : ∃ f : Nat → Sup, (fun k => st.sAtS n k) = f := ⟨_, rfl⟩
  have e1 : ∀ k, st.sAtE n k = SE k := fun k => congrFun hSE k
  have e2 : ∀ k, st.sAtS n k = SS k := fun k => congrFun hSS k
  simp only [e1, e2] at HA HB HE HF HSA
  clear e1 e2 hSE hSS h HD
  go_enter Try.func45, Try.ntmps45
  go_wp2_with fail
  go_loopw [8] (fun i wr => ∃ k : Nat, k ≤ 2 ∧ i = .int .i64 (k : Nat) ∧ Hid (Cn w wr (FN k)) ∧ Hid (∀ j, j < k → ¬ SE j = 8)) (fun i _ => 2 - (intOf i).toNat)
  case atStart => exact ⟨0, Nat.zero_le _, rfl, by rw [HF0.out]; exact HC0, hide (fun j hj => absurd hj (Nat.not_lt_zero _))⟩
  case round =>
    obtain ⟨k, hk, rfl, HC, HN⟩ := hrel
    clear HC0 HF0
    by_cases hk2 : k < 2
    · have HS := hide (HSA.out wr k HC.out.b hk2)
      have hFk := HF.out k
      obtain ⟨E, hE⟩ : ∃ x, SE k = x := ⟨_, rfl⟩
      rw [hE] at HS hFk
      have HEk := hide hE
      obtain ⟨⟨sg, sr, sq, sj, sl⟩, hS⟩ : ∃ x, SS k = x := ⟨_, rfl⟩
      rw [hS] at HS hFk
      obtain ⟨⟨fg, fr, fq, fj, fl⟩, hf⟩ : ∃ x, FN k = x := ⟨_, rfl⟩
      rw [hf] at HC hFk
      have HFk := hide hFk
      unfold supC at HS
      dsimp only at HS
      clear hE hS hf hFk HSA HF
      go_wp2_with fail
      refine HS.out.mono ?_
      rintro e w2 ⟨rfl, hb2⟩
      have hx := HC.out.x
      have hy := HC.out.y
      have hbw := HC.out.b
      have hba : Below wr.heap.size wr (w2.alloc (.cells #[.int .u64 (sg : Nat), .int .i64 sr, .int .u64 (sq : Nat), .int .i64 sj, .int .i64 sl] 24)) := hb2.alloc hb2.size _
      have HB3 := hide (hbw.trans (hba.mono hbw.size))
      have HX3 := hide ((hba.block _ (heap_lt hx)).trans hx)
      have HY3 := hide ((hba.block _ (heap_lt hy)).trans hy)
      have HT3 : Hid ((w2.alloc (.cells #[.int .u64 (sg : Nat), .int .i64 sr, .int .u64 (sq : Nat), .int .i64 sj, .int .i64 sl] 24)).heap[w2.heap.size]? = some (.cells #[.int .u64 (sg : Nat), .int .i64 sr, .int .u64 (sq : Nat), .int .i64 sj, .int .i64 sl] 24 (0, 0))) := hide (heap_alloc_new w2 _)
      have hs3 : wr.heap.size ≤ w2.heap.size := hb2.size
      have hs4 := heap_lt hy
      have HNE : Hid (w2.heap.size ≠ w.heap.size + 1) := hide (by omega)
      unfold supC at HY3
      dsimp only at HY3
      clear hb2 hx hy hbw hba HS HC hs3 hs4
      have y0 := cell_bk (j := 0) HX3.out rfl
      have y1 := cell_bk (j := 1) HX3.out rfl
      have y2 := cell_bk (j := 2) HX3.out rfl
      have y3 := cell_bk (j := 3) HX3.out rfl
      have y4 := cell_bk (j := 4) HX3.out rfl
      have z0 := cell_bk (j := 0) HY3.out rfl
      have z1 := cell_bk (j := 1) HY3.out rfl
      have z2 := cell_bk (j := 2) HY3.out rfl
      have z3 := cell_bk (j := 3) HY3.out rfl
      have z4 := cell_bk (j := 4) HY3.out rfl
      simp only [List.getElem_toArray, List.getElem_cons_zero, List.getElem_cons_succ] at y0 y1 y2 y3 y4 z0 z1 z2 z3 z4
      by_cases h8 : E = 8
      · subst h8
        have f0 := froz_bk HX3.out 0
        have f1 := froz_bk HX3.out 1
        have f2 := froz_bk HX3.out 2
        have f3 := froz_bk HX3.out 3
        have f4 := froz_bk HX3.out 4
        have HZ := hide (HA.out (by rcases (show k = 0 ∨ k = 1 by omega) with rfl | rfl; exact .inl HEk.out; exact .inr HEk.out))
        clear HA HB HE HFk HN z0 z1 z2 z3 z4
        go_wp2_with fail
        (try simp only [Exit.inBlock, Exit.then])
        refine bodyPost_ret (resS2 rfl _ _ w.heap.size #[.int .u64 0, .int .i64 0, .int .u64 0, .int .i64 0, .int .i64 0] (blk5 HX3.out _ _ _ _ _) rfl rfl) rfl ?_
        exact ⟨by rw [HZ.out.1, HZ.out.2]; rfl, below5 HB3.out (Nat.le_refl _) _ _ _ _ _⟩
      · have e8 : (E == 8) = false := by simpa using h8
        have HN2 : Hid (∀ j, j < k + 1 → ¬ SE j = 8) := hide (fun j hj => by
          rcases Nat.lt_or_ge j k with h | h
          · exact HN.out j h
          · have : j = k := by omega
            rw [this, HEk.out]
            exact h8)
        by_cases h0 : E = 0
        · have e0 : (E == 0) = true := by simpa using h0
          by_cases hgt : fg < sg
          · have eg : decide ((fg : Int) < (sg : Int)) = true := decide_eq_true (by omega)
            have HC2 : Hid (Cn w (set5 (w2.alloc (.cells #[.int .u64 (sg : Nat), .int .i64 sr, .int .u64 (sq : Nat), .int .i64 sj, .int .i64 sl] 24)) (w.heap.size + 1) (.int .u64 (sg : Nat)) (.int .i64 sr) (.int .u64 (sq : Nat)) (.int .i64 sj) (.int .i64 sl)) (FN (k + 1))) := hide ⟨below5 HB3.out (by omega) _ _ _ _ _, by
              have hn : w.heap.size ≠ w.heap.size + 1 := by omega
              unfold set5
              rw [Below.heap_setCell _ _ _ _ hn, Below.heap_setCell _ _ _ _ hn, Below.heap_setCell _ _ _ _ hn, Below.heap_setCell _ _ _ _ hn, Below.heap_setCell _ _ _ _ hn]
              exact HX3.out, by rw [HFk.out, if_pos ⟨h0, hgt⟩]; exact blk5 HY3.out _ _ _ _ _⟩
            unfold set5 at HC2
            have f0 := froz_bk HY3.out 0
            have f1 := froz_bk HY3.out 1
            have f2 := froz_bk HY3.out 2
            have f3 := froz_bk HY3.out 3
            have f4 := froz_bk HY3.out 4
            clear h0 h8 HFk HN HX3 HY3 HB3
            go_wp2_with fail
            exact ⟨⟨k + 1, by omega, by simp, HC2, HN2⟩, by simp [intOf]; omega⟩
          · have eg : decide ((fg : Int) < (sg : Int)) = false := decide_eq_false (by omega)
            have eg2 : decide (fg < sg) = false := decide_eq_false hgt
            have eg3 : ¬ fg < sg := hgt
            have HC2 : Hid (Cn w (w2.alloc (.cells #[.int .u64 (sg : Nat), .int .i64 sr, .int .u64 (sq : Nat), .int .i64 sj, .int .i64 sl] 24)) (FN (k + 1))) := hide ⟨HB3.out, HX3.out, by rw [HFk.out, if_neg (fun h => hgt h.2)]; exact HY3.out⟩
            clear h0 h8 hgt HFk HN HX3 HY3 HB3
            go_wp2_with fail
            exact ⟨⟨k + 1, by omega, by simp, HC2, HN2⟩, by simp [intOf]; omega⟩
        · have e0 : (E == 0) = false := by simpa using h0
          have HC2 : Hid (Cn w (w2.alloc (.cells #[.int .u64 (sg : Nat), .int .i64 sr, .int .u64 (sq : Nat), .int .i64 sj, .int .i64 sl] 24)) (FN (k + 1))) := hide ⟨HB3.out, HX3.out, by rw [HFk.out, if_neg (fun h => h0 h.1)]; exact HY3.out⟩
          clear h0 h8 HFk HN HX3 HY3 HB3
          go_wp2_with fail
          exact ⟨⟨k + 1, by omega, by simp, HC2, HN2⟩, by simp [intOf]; omega⟩
    · have : k = 2 := by omega
      subst this
      have h80 := HN.out 0 (by omega)
      have h81 := HN.out 1 (by omega)
      have HB' := hide (HB.out h80 h81)
      have HE' := hide (HE.out h80 h81)
      obtain ⟨⟨fg, fr, fq, fj, fl⟩, hf⟩ : ∃ x, FN 2 = x := ⟨_, rfl⟩
      rw [hf] at HC HB' HE'
      have HX3 := hide HC.out.x
      have HY3 := hide HC.out.y
      have HB3 := hide HC.out.b
      unfold supC at HY3
      dsimp only at HY3 HB' HE'
      have y0 := cell_bk (j := 0) HX3.out rfl
      have y1 := cell_bk (j := 1) HX3.out rfl
      have y2 := cell_bk (j := 2) HX3.out rfl
      have y3 := cell_bk (j := 3) HX3.out rfl
      have y4 := cell_bk (j := 4) HX3.out rfl
      have z0 := cell_bk (j := 0) HY3.out rfl
      have z1 := cell_bk (j := 1) HY3.out rfl
      have z2 := cell_bk (j := 2) HY3.out rfl
      have z3 := cell_bk (j := 3) HY3.out rfl
      have z4 := cell_bk (j := 4) HY3.out rfl
      simp only [List.getElem_toArray, List.getElem_cons_zero, List.getElem_cons_succ] at y0 y1 y2 y3 y4 z0 z1 z2 z3 z4
      have f0 := froz_bk HX3.out 0
      have f1 := froz_bk HX3.out 1
      have f2 := froz_bk HX3.out 2
      have f3 := froz_bk HX3.out 3
      have f4 := froz_bk HX3.out 4
      clear HA HB HE HF HSA HN HC hf h80 h81 hk2 hk
      by_cases h0 : fg = 0
      · subst h0
        have HZ := hide (HB'.out rfl)
        clear HB' HE'
        go_wp2_with fail
        (try simp only [Exit.inBlock, Exit.then])
        refine bodyPost_ret (resS2 rfl _ _ w.heap.size #[.int .u64 0, .int .i64 0, .int .u64 0, .int .i64 0, .int .i64 0] (blk5 HX3.out _ _ _ _ _) rfl rfl) rfl ?_
        exact ⟨by rw [HZ.out.1, HZ.out.2]; rfl, below5 HB3.out (Nat.le_refl _) _ _ _ _ _⟩
      · have e0 : ((fg : Int) == 0) = false := by simpa using h0
        have HZ := hide (HE'.out h0)
        clear HB' HE' h0
        go_wp2_with fail
        (try simp only [Exit.inBlock, Exit.then])
        refine bodyPost_ret (resS2 rfl _ _ w.heap.size #[.int .u64 (fg : Nat), .int .i64 fr, .int .u64 (fq : Nat), .int .i64 fj, .int .i64 fl] (blk5 HX3.out _ _ _ _ _) rfl rfl) rfl ?_
        exact ⟨by rw [HZ.out.1, HZ.out.2]; rfl, below5 HB3.out (Nat.le_refl _) _ _ _ _ _⟩
end Go.Proofs.Ytecmfpgccmmlpaa
