/- the document's Do -/
import Derived.Test.YtdageggojaghmaaRbx
namespace Go.Proofs.Ytdageggojaghmaa
open Go.RowKit
theorem below_3 (w : World) (o o' o2 : Obj) : Below w.heap.size w (((w.alloc o).alloc o').alloc o2) := (((Below.refl w.heap.size w).alloc (Nat.le_refl _) o).alloc (by simp) o').alloc (by simp; omega) o2
theorem blk_3 (w : World) (o o' o2 : Obj) : (((w.alloc o).alloc o').alloc o2).heap[w.heap.size + 2]? = some o2 := by
  have := heap_alloc_new ((w.alloc o).alloc o') o2
  rwa [show ((w.alloc o).alloc o').heap.size = w.heap.size + 2 by simp] at this
set_option maxRecDepth 40000 in
set_option maxHeartbeats 1000000 in
theorem rdo_dn (w : World) (q cap n : Nat) (st : St) (h : IsR w q cap n st) (hd : st.down = true) (k : Nat) (h1 : 1 ≤ k) (h4 : k ≤ 4) (s1 s3 : Int) (a a' : Option Addr) (len cp len' cp' : Nat) :
    Calls Try.prog 13 #[stv q cap n st, .agg #[.int .u8 (k : Nat), .int .i64 s1, .slice a len cp, .int .i64 s3, .slice a' len' cp']] w fun e w' => e = .returned (.tuple #[stv q cap n st, .int .i64 8]) ∧ IsR w' q cap n st ∧ Below w.heap.size w w' := by
  have HR := hide h
  have HB3 := hide (below_3 w)
  have d1 : ((k : Int) == 5) = false := by simp; omega
  have d1' : decide ((k : Int) = 5) = false := by simp; omega
  have d2 : decide ((k : Int) < 1) = false := decide_eq_false (by omega)
  have d3 : decide ((6 : Int) ≤ (k : Int)) = false := decide_eq_false (by omega)
  clear h
  go_enter Try.func13, Try.ntmps13
  go_wp2
  (try simp only [Exit.inBlock, Exit.then])
  refine bodyPost_ret (res5 rfl _ _ (w.heap.size + 2) _ (blk_3 _ _ _ _) rfl rfl) rfl ?_
  exact ⟨by simp [stv, hd], HR.out.below (HB3.out _ _ _), HB3.out _ _ _⟩
set_option maxRecDepth 40000 in
set_option maxHeartbeats 1000000 in
theorem rdo_no0 (w : World) (q cap n : Nat) (st : St) (h : IsR w q cap n st)  (s1 s3 : Int) (a a' : Option Addr) (len cp len' cp' : Nat) :
    Calls Try.prog 13 #[stv q cap n st, .agg #[.int .u8 0, .int .i64 s1, .slice a len cp, .int .i64 s3, .slice a' len' cp']] w fun e w' => e = .returned (.tuple #[stv q cap n st, .int .i64 15]) ∧ IsR w' q cap n st ∧ Below w.heap.size w w' := by
  have HR := hide h
  have HB3 := hide (below_3 w)
  clear h
  go_enter Try.func13, Try.ntmps13
  go_wp2
  (try simp only [Exit.inBlock, Exit.then])
  refine bodyPost_ret (res5 rfl _ _ (w.heap.size + 2) _ (blk_3 _ _ _ _) rfl rfl) rfl ?_
  exact ⟨by simp [stv], HR.out.below (HB3.out _ _ _), HB3.out _ _ _⟩
set_option maxRecDepth 40000 in
set_option maxHeartbeats 1000000 in
theorem rdo_no6 (w : World) (q cap n : Nat) (st : St) (h : IsR w q cap n st) (k : Nat) (h6 : 6 ≤ k) (s1 s3 : Int) (a a' : Option Addr) (len cp len' cp' : Nat) :
    Calls Try.prog 13 #[stv q cap n st, .agg #[.int .u8 (k : Nat), .int .i64 s1, .slice a len cp, .int .i64 s3, .slice a' len' cp']] w fun e w' => e = .returned (.tuple #[stv q cap n st, .int .i64 15]) ∧ IsR w' q cap n st ∧ Below w.heap.size w w' := by
  have HR := hide h
  have HB3 := hide (below_3 w)
  have d1 : ((k : Int) == 5) = false := by simp; omega
  have d1' : decide ((k : Int) = 5) = false := by simp; omega
  have d2 : decide ((k : Int) < 1) = false := decide_eq_false (by omega)
  have d3 : decide ((6 : Int) ≤ (k : Int)) = true := decide_eq_true (by omega)
  clear h
  go_enter Try.func13, Try.ntmps13
  go_wp2
  (try simp only [Exit.inBlock, Exit.then])
  refine bodyPost_ret (res5 rfl _ _ (w.heap.size + 2) _ (blk_3 _ _ _ _) rfl rfl) rfl ?_
  exact ⟨by simp [stv], HR.out.below (HB3.out _ _ _), HB3.out _ _ _⟩
set_option maxRecDepth 40000 in
set_option maxHeartbeats 1000000 in
theorem rdo_cut (w : World) (q cap n : Nat) (st : St) (h : IsR w q cap n st) (hd : st.down = false) (s1 s3 : Int) (a a' : Option Addr) (len cp len' cp' : Nat) :
    Calls Try.prog 13 #[stv q cap n st, .agg #[.int .u8 4, .int .i64 s1, .slice a len cp, .int .i64 s3, .slice a' len' cp']] w fun e w' => e = .returned (.tuple #[stv q cap n st.cuts, .int .i64 0]) ∧ IsR w' q cap n st.cuts ∧ Below w.heap.size w w' := by
  have HR := hide h
  have HB3 := hide (below_3 w)
  clear h
  go_enter Try.func13, Try.ntmps13
  go_wp2
  (try simp only [Exit.inBlock, Exit.then])
  refine bodyPost_ret (res5 rfl _ _ (w.heap.size + 2) _ (blk_3 _ _ _ _) rfl rfl) rfl ?_
  exact ⟨by simp [stv, St.cuts], (⟨HR.out.n0, HR.out.n1, HR.out.row.below (HB3.out _ _ _), HR.out.wr, HR.out.left⟩ : IsR _ q cap n st.cuts), HB3.out _ _ _⟩
set_option maxRecDepth 40000 in
set_option maxHeartbeats 1000000 in
theorem rdo_write (w : World) (q cap n : Nat) (st : St) (h : IsR w q cap n st) (hd : st.down = false) (hw : st.wr < 4611686018427387904) (s1 s3 : Int) (a a' : Option Addr) (len cp len' cp' : Nat) (l : List Nat) (hB : IsB w a len cp l) :
    Calls Try.prog 13 #[stv q cap n st, .agg #[.int .u8 1, .int .i64 s1, .slice a len cp, .int .i64 s3, .slice a' len' cp']] w fun e w' => ∃ q' c', e = .returned (.tuple #[stv q' c' n (st.write n s1 l).1, .int .i64 (st.write n s1 l).2]) ∧ IsR w' q' c' n (st.write n s1 l).1 ∧ Below w.heap.size w w' := by
  have HR := hide h
  have HB := hide hB
  have HB3 := hide (below_3 w)
  clear h hB
  go_enter Try.func13, Try.ntmps13
  go_wp2_with fail
  have RW := fun W (hW : Below w.heap.size w W) => rwrite_any W q cap n st (HR.out.below hW) (by rw [hd]; simp) s1 a len cp l (HB.out.below hW) hw
  simp only [stv, hd] at RW
  refine (RW _ (HB3.out _ _ _)).mono ?_
  rintro e w1 ⟨q', c', rfl, hI, hb⟩
  generalize hs' : (st.write n s1 l).1 = s' at *
  generalize he' : (st.write n s1 l).2 = er at *
  have HS' := hide hs'
  have HE' := hide he'
  clear hs' he'
  have HBW : Hid (Below w.heap.size w w1) := hide ((HB3.out _ _ _).trans (hb.mono (HB3.out _ _ _).size))
  have hr1 : w1.heap[w.heap.size + 1 + 1]? = some (.cells #[.slice none 0 0, .bool false, .bool false, .int .i64 0, .int .i64 0] 27 (0, 0)) := by rw [hb.block (w.heap.size + 1 + 1) (by simp)]; exact blk_3 _ _ _ _
  have HRS := hide hr1
  have HRI := hide hI
  have r0 := cell_blk (j := 0) hr1 rfl
  have r1 := cell_blk (j := 1) hr1 rfl
  have r2 := cell_blk (j := 2) hr1 rfl
  have r3 := cell_blk (j := 3) hr1 rfl
  have r4 := cell_blk (j := 4) hr1 rfl
  have f0 := froz_blk hr1 0
  have f1 := froz_blk hr1 1
  have f2 := froz_blk hr1 2
  have f3 := froz_blk hr1 3
  have f4 := froz_blk hr1 4
  simp only [List.getElem_toArray, List.getElem_cons_zero, List.getElem_cons_succ] at r0 r1 r2 r3 r4
  have hq1 := heap_lt hr1
  clear hr1 hI hb
  go_wp2
  (try simp only [Exit.inBlock, Exit.then])
  refine bodyPost_ret (res5 rfl _ _ (w.heap.size + 1 + 1) #[.slice (some ⟨q', 0, none⟩) n c', .bool s'.down, .bool s'.arm, .int .i64 (s'.left : Nat), .int .i64 (s'.wr : Nat)] (by rw [blk_set (blk_set (blk_set (blk_set (blk_set HRS.out _) _) _) _) _]; rfl) rfl rfl) rfl ?_
  rw [HS'.out, HE'.out]
  exact ⟨q', c', rfl, ⟨HRI.out.n0, HRI.out.n1, HRI.out.row.set5 _ _ _ _ _ HRS.out, HRI.out.wr, HRI.out.left⟩, below_set5 HBW.out (by omega) _ _ _ _ _⟩
set_option maxRecDepth 40000 in
set_option maxHeartbeats 1000000 in
theorem rdo_rest (w : World) (q cap n : Nat) (st : St) (h : IsR w q cap n st) (s1 s3 : Int) (a a' : Option Addr) (len cp len' cp' : Nat) (l : List (Nat × Nat)) (hF : IsF w a' len' cp' l) :
    Calls Try.prog 13 #[stv q cap n st, .agg #[.int .u8 5, .int .i64 s1, .slice a len cp, .int .i64 s3, .slice a' len' cp']] w fun e w' => ∃ q' c', e = .returned (.tuple #[stv q' c' n (st.rest n l).1, .int .i64 (st.rest n l).2]) ∧ IsR w' q' c' n (st.rest n l).1 ∧ Below w.heap.size w w' := by
  have HR := hide h
  have HF := hide hF
  have HB3 := hide (below_3 w)
  clear h hF
  go_enter Try.func13, Try.ntmps13
  go_wp2_with fail
  refine (rrest_any _ q cap n st (HR.out.below (HB3.out _ _ _)) a' len' cp' l (HF.out.below (HB3.out _ _ _))).mono ?_
  rintro e w1 ⟨q', c', rfl, hI, hb⟩
  generalize hs' : (st.rest n l).1 = s' at *
  generalize he' : (st.rest n l).2 = er at *
  have HS' := hide hs'
  have HE' := hide he'
  clear hs' he'
  have HBW : Hid (Below w.heap.size w w1) := hide ((HB3.out _ _ _).trans (hb.mono (HB3.out _ _ _).size))
  have hr1 : w1.heap[w.heap.size + 1 + 1]? = some (.cells #[.slice none 0 0, .bool false, .bool false, .int .i64 0, .int .i64 0] 27 (0, 0)) := by rw [hb.block (w.heap.size + 1 + 1) (by simp)]; exact blk_3 _ _ _ _
  have HRS := hide hr1
  have HRI := hide hI
  have r0 := cell_blk (j := 0) hr1 rfl
  have r1 := cell_blk (j := 1) hr1 rfl
  have r2 := cell_blk (j := 2) hr1 rfl
  have r3 := cell_blk (j := 3) hr1 rfl
  have r4 := cell_blk (j := 4) hr1 rfl
  have f0 := froz_blk hr1 0
  have f1 := froz_blk hr1 1
  have f2 := froz_blk hr1 2
  have f3 := froz_blk hr1 3
  have f4 := froz_blk hr1 4
  simp only [List.getElem_toArray, List.getElem_cons_zero, List.getElem_cons_succ] at r0 r1 r2 r3 r4
  have hq1 := heap_lt hr1
  clear hr1 hI hb
  go_wp2
  (try simp only [Exit.inBlock, Exit.then])
  refine bodyPost_ret (res5 rfl _ _ (w.heap.size + 1 + 1) #[.slice (some ⟨q', 0, none⟩) n c', .bool s'.down, .bool s'.arm, .int .i64 (s'.left : Nat), .int .i64 (s'.wr : Nat)] (by rw [blk_set (blk_set (blk_set (blk_set (blk_set HRS.out _) _) _) _) _]; rfl) rfl rfl) rfl ?_
  rw [HS'.out, HE'.out]
  exact ⟨q', c', rfl, ⟨HRI.out.n0, HRI.out.n1, HRI.out.row.set5 _ _ _ _ _ HRS.out, HRI.out.wr, HRI.out.left⟩, below_set5 HBW.out (by omega) _ _ _ _ _⟩
set_option maxRecDepth 40000 in
set_option maxHeartbeats 1000000 in
theorem rdo_arm (w : World) (q cap n : Nat) (st : St) (h : IsR w q cap n st) (hd : st.down = false) (s1 s3 : Int) (a a' : Option Addr) (len cp len' cp' : Nat) (hc : s3 ≤ 9223372036854775807) :
    Calls Try.prog 13 #[stv q cap n st, .agg #[.int .u8 3, .int .i64 s1, .slice a len cp, .int .i64 s3, .slice a' len' cp']] w fun e w' => e = .returned (.tuple #[stv q cap n (st.arms s3), .int .i64 0]) ∧ IsR w' q cap n (st.arms s3) ∧ Below w.heap.size w w' := by
  have HR := hide h
  have HB3 := hide (below_3 w)
  clear h
  go_enter Try.func13, Try.ntmps13
  have HM : Hid (max s3 0 = ((s3.toNat : Nat) : Int)) := hide (by omega)
  by_cases h0 : 0 ≤ s3
  · have d1 : decide (0 ≤ s3) = true := decide_eq_true h0
    go_wp2_with fail
    go_region
    all_goals
      go_wp2
      (try simp only [Exit.inBlock, Exit.then])
      refine bodyPost_ret (res5 rfl _ _ (w.heap.size + 2) _ (blk_3 w _ _ _) rfl rfl) rfl ?_
      refine ⟨?_, (⟨HR.out.n0, HR.out.n1, HR.out.row.below (Below.drew (HB3.out _ _ _)), HR.out.wr, by simp only [St.arms]; omega⟩ : IsR _ q cap n (st.arms s3)), Below.drew (HB3.out _ _ _)⟩
      rw [HM.out]
      simp [stv, St.arms, hd, d1]
  · have d1 : decide (0 ≤ s3) = false := decide_eq_false h0
    go_wp2_with fail
    go_region
    all_goals
      go_wp2
      (try simp only [Exit.inBlock, Exit.then])
      refine bodyPost_ret (res5 rfl _ _ (w.heap.size + 2) _ (blk_3 w _ _ _) rfl rfl) rfl ?_
      refine ⟨?_, (⟨HR.out.n0, HR.out.n1, HR.out.row.below (Below.drew (HB3.out _ _ _)), HR.out.wr, by simp only [St.arms]; omega⟩ : IsR _ q cap n (st.arms s3)), Below.drew (HB3.out _ _ _)⟩
      rw [HM.out]
      simp [stv, St.arms, hd, d1]
theorem secs_3 (w : World) (o0 o1 o2 : Obj) (q cap n : Nat) (lo lr : Nat → List Nat) (d : Nat → Bool) (h : RowR w q cap n lo lr d) (h0 : 0 < n) (hn : n ≤ 1024) :
    ∃ c' W1, (Builtin.append_ #[25, 25] 25 #[.slice (some ⟨w.heap.size + 1 + 1 + 1, 0, none⟩) 0 0, .slice (some ⟨q, 0, none⟩) n cap]).run Try.prog ((((w.alloc o0).alloc o1).alloc o2).alloc (.cells #[] 67)) = .ok (.slice (some ⟨w.heap.size + 4, 0, none⟩) n c') W1 ∧ RowR W1 (w.heap.size + 4) c' n lo lr d ∧ Below w.heap.size w W1 ∧ W1.heap[w.heap.size]? = some o0 ∧ W1.heap[w.heap.size + 1 + 1]? = some o2 := by
  have e : (((w.alloc o0).alloc o1).alloc o2).heap.size = w.heap.size + 1 + 1 + 1 := by simp
  have hb := below_3 w o0 o1 o2
  obtain ⟨c', W1, hr, hrow, hbel⟩ := secs_at (((w.alloc o0).alloc o1).alloc o2) q cap n lo lr d (h.below hb) h0 hn
  rw [e] at hr hrow hbel
  refine ⟨c', W1, hr, hrow, hb.trans (hbel.mono (by omega)), ?_, ?_⟩
  · rw [hbel.block w.heap.size (by omega), Below.heap_alloc _ _ _ (by simp; omega), Below.heap_alloc _ _ _ (by simp), heap_alloc_new]
  · rw [hbel.block (w.heap.size + 1 + 1) (by omega)]
    exact blk_3 w o0 o1 o2
/-- the sectors when the first j are synced -/
theorem RowR.sync_step {w : World} {q cap n : Nat} {st : St} {j : Nat} {v : Value} (h : RowR w q cap n (fun i => if i < j then st.reads i else st.syn i) st.reads (fun i => if i < j then false else (st.fr i).isSome)) (hj : j < n) (hD : Dat NoX w v (st.reads j)) :
    RowR (((w.setCell ⟨q, j * 3, none⟩ v).setCell ⟨q, j * 3 + 1, none⟩ v).setCell ⟨q, j * 3 + 2, none⟩ (.bool false)) q cap n (fun i => if i < j + 1 then st.reads i else st.syn i) st.reads (fun i => if i < j + 1 then false else (st.fr i).isSome) := by
  refine (h.put hj false hD hD).congr (fun i _ => ?_) (fun i _ => ?_) (fun i _ => ?_)
  · by_cases e : i = j
    · simp [e]
    · by_cases l : i < j
      · simp [e, l, Nat.lt_succ_of_lt l]
      · simp [e, l, show ¬ i < j + 1 by omega]
  · by_cases e : i = j
    · simp [e]
    · simp [e]
  · by_cases e : i = j
    · simp [e]
    · by_cases l : i < j
      · simp [e, l, Nat.lt_succ_of_lt l]
      · simp [e, l, show ¬ i < j + 1 by omega]
set_option maxRecDepth 40000 in
set_option maxHeartbeats 4000000 in
theorem rdo_sync (w : World) (q cap n : Nat) (st : St) (h : IsR w q cap n st) (hd : st.down = false) (s1 s3 : Int) (a a' : Option Addr) (len cp len' cp' : Nat) :
    Calls Try.prog 13 #[stv q cap n st, .agg #[.int .u8 2, .int .i64 s1, .slice a len cp, .int .i64 s3, .slice a' len' cp']] w fun e w' => ∃ q' c', e = .returned (.tuple #[stv q' c' n st.syncs, .int .i64 0]) ∧ IsR w' q' c' n st.syncs ∧ Below w.heap.size w w' := by
  have HR := hide h
  have hn1 := h.n1
  obtain ⟨c', W1, hr, hrow, hbel, hbb, hbr⟩ := secs_3 w (.cells #[.slice (some ⟨q, 0, none⟩) n cap, .bool false, .bool st.arm, .int .i64 (st.left : Nat), .int .i64 (st.wr : Nat)] 27) (.cells #[.int .u8 2, .int .i64 s1, .slice a len cp, .int .i64 s3, .slice a' len' cp'] 35) (.cells #[.slice none 0 0, .bool false, .bool false, .int .i64 0, .int .i64 0] 27) q cap n _ _ _ h.row h.n0 h.n1
  have g0 := cell_blk (j := 0) hbb rfl
  have f0 := froz_blk hbb 0
  simp only [List.getElem_toArray, List.getElem_cons_zero] at g0
  have HB1 := hide hbel
  have HRW := hide hrow
  have HBB := hide hbb
  have HBR := hide hbr
  clear hrow hbel hbb hbr h
  go_enter Try.func13, Try.ntmps13
  go_wp2_with (at_builtin; refine Go.Lib.wpList_append_run _ rfl _ _ _ _ rfl _ _ rfl rfl _ _ hr ?_)
  generalize hW2 : W1.setCell ⟨w.heap.size, 0, none⟩ (.slice (some ⟨w.heap.size + 4, 0, none⟩) n c') = W2
  have hb2 : W2.heap[w.heap.size]? = some (.cells #[.slice (some ⟨w.heap.size + 4, 0, none⟩) n c', .bool false, .bool st.arm, .int .i64 (st.left : Nat), .int .i64 (st.wr : Nat)] 27 (0, 0)) := by rw [← hW2, blk_set HBB.out]; rfl
  have hr2 : W2.heap[w.heap.size + 1 + 1]? = some (.cells #[.slice none 0 0, .bool false, .bool false, .int .i64 0, .int .i64 0] 27 (0, 0)) := by rw [← hW2, blk_at (by omega)]; exact HBR.out
  have HB2 : Hid (Below w.heap.size w W2) := hide (by rw [← hW2]; exact HB1.out.setCell (Nat.le_refl _) _)
  have HRW2 : Hid (RowR W2 (w.heap.size + 4) c' n st.syn st.reads (fun i => (st.fr i).isSome)) := hide (by rw [← hW2]; exact HRW.out.set27 HBB.out)
  have HBB2 := hide hb2
  have HBR2 := hide hr2
  clear hW2 hb2 hr2 HB1 HRW HBB HBR g0 f0 hr
  go_wp2_with fail
  go_loopw [52] (fun i ws => ∃ j : Nat, j ≤ n ∧ i = .int .i64 j ∧ Hid (RowR ws (w.heap.size + 4) c' n (fun i => if i < j then st.reads i else st.syn i) st.reads (fun i => if i < j then false else (st.fr i).isSome)) ∧ Hid (Frm (fun i => i = w.heap.size + 4) W2 ws)) (fun i _ => n - (intOf i).toNat)
  case atStart => exact ⟨0, Nat.zero_le _, rfl, hide (HRW2.out.congr (fun i _ => by simp) (fun i _ => rfl) (fun i _ => by simp)), hide (Frm.refl _ _)⟩
  case round =>
    obtain ⟨j, hj, rfl, HRJ, HFJ⟩ := hrel
    have HTB : Hid (wr.heap[w.heap.size]? = some (.cells #[.slice (some ⟨w.heap.size + 4, 0, none⟩) n c', .bool false, .bool st.arm, .int .i64 (st.left : Nat), .int .i64 (st.wr : Nat)] 27 (0, 0))) := hide ((HFJ.out.block _ (heap_lt HBB2.out) (by omega)).trans HBB2.out)
    have HTR : Hid (wr.heap[w.heap.size + 1 + 1]? = some (.cells #[.slice none 0 0, .bool false, .bool false, .int .i64 0, .int .i64 0] 27 (0, 0))) := hide ((HFJ.out.block _ (heap_lt HBR2.out) (by omega)).trans HBR2.out)
    have hq0 := heap_lt HTB.out
    have hq2 := heap_lt HTR.out
    have hQl := HRJ.out.lt
    by_cases hjn : j < n
    · obtain ⟨a0, l0, c0, a1, l1, c1, z0, z1, z2, hd0, hd1⟩ := HRJ.out.sec hjn
      have HD1 := hide hd1
      obtain ⟨cur, hcur, _, _⟩ := HRJ.out.row
      have y0 := froz_blk hcur (j * 3)
      have y1 := froz_blk hcur (j * 3 + 1)
      have y2 := froz_blk hcur (j * 3 + 2)
      have g0 := cell_blk (j := 0) HTB.out rfl
      simp only [List.getElem_toArray, List.getElem_cons_zero] at g0
      have hjn' : (j : Int) < n := by omega
      generalize (if j < j then false else (st.fr j).isSome) = bb at *
      clear hd0 hd1 hcur
      go_wp2
      go_roundw
      case rel => exact ⟨j + 1, by omega, by simp, hide ((HRJ.out.sync_step hjn HD1.out).below ((Below.refl _ _).alloc (Nat.le_refl _) _)), hide ((frm_set3 HFJ.out _ _ _ _ _ _).alloc _)⟩
      case measure => simp [intOf]; omega
    · obtain rfl : j = n := by omega
      have HBF : Hid (Below w.heap.size w wr) := hide (HB2.out.trans (HFJ.out.toBelow HB2.out.size (by rintro i rfl; omega)))
      have HRS : Hid (RowR wr (w.heap.size + 4) c' j st.syncs.syn st.syncs.reads (fun i => (st.syncs.fr i).isSome)) := hide (HRJ.out.congr (fun i hi => by simp [hi, St.syncs]) (fun i hi => by simp [St.syncs, St.reads]) (fun i hi => by simp [hi, St.syncs]))
      have g0 := cell_blk (j := 0) HTB.out rfl
      have g1 := cell_blk (j := 1) HTB.out rfl
      have g2 := cell_blk (j := 2) HTB.out rfl
      have g3 := cell_blk (j := 3) HTB.out rfl
      have g4 := cell_blk (j := 4) HTB.out rfl
      have r0 := cell_blk (j := 0) HTR.out rfl
      have r1 := cell_blk (j := 1) HTR.out rfl
      have r2 := cell_blk (j := 2) HTR.out rfl
      have r3 := cell_blk (j := 3) HTR.out rfl
      have r4 := cell_blk (j := 4) HTR.out rfl
      have f0 := froz_blk HTR.out 0
      have f1 := froz_blk HTR.out 1
      have f2 := froz_blk HTR.out 2
      have f3 := froz_blk HTR.out 3
      have f4 := froz_blk HTR.out 4
      simp only [List.getElem_toArray, List.getElem_cons_zero, List.getElem_cons_succ] at g0 g1 g2 g3 g4 r0 r1 r2 r3 r4
      go_wp2
      (try simp only [Exit.inBlock, Exit.then])
      refine bodyPost_ret (res5 rfl _ _ (w.heap.size + 1 + 1) #[.slice (some ⟨w.heap.size + 4, 0, none⟩) j c', .bool false, .bool st.arm, .int .i64 (st.left : Nat), .int .i64 (st.wr : Nat)] (by rw [blk_set (blk_set (blk_set (blk_set (blk_set HTR.out _) _) _) _) _]; rfl) rfl rfl) rfl ?_
      exact ⟨w.heap.size + 4, c', by simp [stv, St.syncs, hd], ⟨HR.out.n0, HR.out.n1, HRS.out.set5 _ _ _ _ _ HTR.out, HR.out.wr, HR.out.left⟩, below_set5 HBF.out (by omega) _ _ _ _ _⟩
/-- the document's Do -/
theorem rdo_any (w : World) (q cap n : Nat) (st : St) (h : IsR w q cap n st) (c0 c1 c2 c3 c4 : Value) (s : Stp) (hs : IsS w c0 c1 c2 c3 c4 s) (hw : st.wr < 4611686018427387904) :
    Calls Try.prog 13 #[stv q cap n st, .agg #[c0, c1, c2, c3, c4]] w fun e w' => ∃ q' c', e = .returned (.tuple #[stv q' c' n (st.step n s).1, .int .i64 (st.step n s).2]) ∧ IsR w' q' c' n (st.step n s).1 ∧ Below w.heap.size w w' := by
  obtain ⟨k, s1, dat, s3, fat⟩ := s
  obtain ⟨rfl, rfl, rfl, h5, h6, ⟨a, len, cp, rfl, hB⟩, a', len', cp', rfl, hF⟩ := hs
  have hk256 : k < 256 := h5
  by_cases hd : st.down = true
  · by_cases h14 : 1 ≤ k ∧ k ≤ 4
    · have e : st.step n ⟨k, s1, dat, s3, fat⟩ = (st, 8) := by
        unfold St.step St.write St.sync St.armed St.cut
        simp only [if_pos hd]
        by_cases e1 : k = 1
        · simp [e1]
        by_cases e2 : k = 2
        · simp [e2]
        by_cases e3 : k = 3
        · simp [e3]
        have e4 : k = 4 := by omega
        simp [e4]
      rw [e]
      refine (rdo_dn w q cap n st h hd k h14.1 h14.2 s1 s3 a a' len cp len' cp').mono ?_
      rintro e w' ⟨rfl, h1, h2⟩
      exact ⟨q, cap, rfl, h1, h2⟩
    · by_cases h5 : k = 5
      · subst h5
        exact rdo_rest w q cap n st h s1 s3 a a' len cp len' cp' fat hF
      · have n1 : ¬ k = 1 := by omega
        have n2 : ¬ k = 2 := by omega
        have n3 : ¬ k = 3 := by omega
        have n4 : ¬ k = 4 := by omega
        have e : st.step n ⟨k, s1, dat, s3, fat⟩ = (st, 15) := by unfold St.step; rw [if_neg n1, if_neg n2, if_neg n3, if_neg n4, if_neg h5]
        rw [e]
        by_cases h0 : k = 0
        · subst h0
          refine (rdo_no0 w q cap n st h s1 s3 a a' len cp len' cp').mono ?_
          rintro e w' ⟨rfl, h1, h2⟩
          exact ⟨q, cap, rfl, h1, h2⟩
        · refine (rdo_no6 w q cap n st h k (by omega) s1 s3 a a' len cp len' cp').mono ?_
          rintro e w' ⟨rfl, h1, h2⟩
          exact ⟨q, cap, rfl, h1, h2⟩
  · have hd' := bool_not hd
    by_cases h1 : k = 1
    · subst h1
      exact rdo_write w q cap n st h hd' hw s1 s3 a a' len cp len' cp' dat hB
    by_cases h2 : k = 2
    · subst h2
      have e : st.step n ⟨2, s1, dat, s3, fat⟩ = (st.syncs, 0) := by unfold St.step St.sync; simp [hd]
      rw [e]
      exact rdo_sync w q cap n st h hd' s1 s3 a a' len cp len' cp'
    by_cases h3 : k = 3
    · subst h3
      have e : st.step n ⟨3, s1, dat, s3, fat⟩ = (st.arms s3, 0) := by unfold St.step St.armed; simp [hd]
      rw [e]
      refine (rdo_arm w q cap n st h hd' s1 s3 a a' len cp len' cp' h6).mono ?_
      rintro e w' ⟨rfl, h1, h2⟩
      exact ⟨q, cap, rfl, h1, h2⟩
    by_cases h4 : k = 4
    · subst h4
      have e : st.step n ⟨4, s1, dat, s3, fat⟩ = (st.cuts, 0) := by unfold St.step St.cut; simp [hd]
      rw [e]
      refine (rdo_cut w q cap n st h hd' s1 s3 a a' len cp len' cp').mono ?_
      rintro e w' ⟨rfl, h1, h2⟩
      exact ⟨q, cap, rfl, h1, h2⟩
    by_cases h5 : k = 5
    · subst h5
      exact rdo_rest w q cap n st h s1 s3 a a' len cp len' cp' fat hF
    have e : st.step n ⟨k, s1, dat, s3, fat⟩ = (st, 15) := by unfold St.step; rw [if_neg h1, if_neg h2, if_neg h3, if_neg h4, if_neg h5]
    rw [e]
    by_cases h0 : k = 0
    · subst h0
      refine (rdo_no0 w q cap n st h s1 s3 a a' len cp len' cp').mono ?_
      rintro e w' ⟨rfl, h1, h2⟩
      exact ⟨q, cap, rfl, h1, h2⟩
    · refine (rdo_no6 w q cap n st h k (by omega) s1 s3 a a' len cp len' cp').mono ?_
      rintro e w' ⟨rfl, h1, h2⟩
      exact ⟨q, cap, rfl, h1, h2⟩
end Go.Proofs.Ytdageggojaghmaa
