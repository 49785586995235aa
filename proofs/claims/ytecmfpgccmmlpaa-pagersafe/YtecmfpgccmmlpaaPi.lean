/- Page, Write, Super -/
import Derived.Test.YtecmfpgccmmlpaaPh
import Derived.Test.YtecmfpgccmmlpaaPf
import Derived.Laws.ResultCell
import Derived.Laws.Rows
namespace Go.Proofs.Ytecmfpgccmmlpaa
open Go.RowKit
set_option maxRecDepth 100000
set_option linter.unusedVariables false
set_option linter.unusedSimpArgs false
def Pg.pageE (n : Nat) (k : Int) (p : Pg) (st : St) : Int := if p.chk k [1, 2, 3] = 0 then st.readE n k else p.chk k [1, 2, 3]
def Pg.pageL (n : Nat) (k : Int) (p : Pg) (st : St) : List Nat := if p.chk k [1, 2, 3] = 0 then st.readL n k else []
def Pg.write (n : Nat) (k : Int) (l : List Nat) (p : Pg) (st : St) : (Pg × St) × Int := if p.chk k [1] = 0 then ((p.told (st.write n k l).2, (st.write n k l).1), (st.write n k l).2) else ((p, st), p.chk k [1])
theorem page_any {w : World} {gp gq g gs b n : Nat} {p : Pg} {st : St} (h : IsP w gp gq g n p) (hd : IsD NoX w g gs b n st) (k : Int) (h0 : -9223372036854775808 ≤ k) (h1 : k ≤ 9223372036854775807) : Calls Try.prog 27 #[.pointer (some ⟨gp, 0, none⟩), .int .i64 k] w fun e w' => ∃ a len cap, e = .returned (.tuple #[.slice a len cap, .int .i64 (p.pageE n k st)]) ∧ IsB w' a len cap (p.pageL n k st) ∧ Below w.heap.size w w' := by
  have HB : Hid (Below w.heap.size w (w.alloc (.cells #[.int .u8 1, .int .u8 2, .int .u8 3] 83))) := hide ((Below.refl _ w).alloc (Nat.le_refl _) _)
  have HI2 : IsB (w.alloc (.cells #[.int .u8 1, .int .u8 2, .int .u8 3] 83)) (some ⟨w.heap.size, 0, none⟩) 3 3 [1, 2, 3] := isB_lit83 w [1, 2, 3] (by decide) (by decide)
  have HC := hide (check_q (h.below HB.out) k h0 h1 _ 3 3 [1, 2, 3] HI2 (by omega))
  have HQ : Hid (∀ m, Below w.heap.size w ((w.alloc (.cells #[.int .u8 1, .int .u8 2, .int .u8 3] 83)).drewN m)) := hide (fun m => below_drewN HB.out m)
  have HE : Hid (p.pageE n k st = if p.chk k [1, 2, 3] = 0 then st.readE n k else p.chk k [1, 2, 3]) := hide rfl
  have HL : Hid (p.pageL n k st = if p.chk k [1, 2, 3] = 0 then st.readL n k else []) := hide rfl
  have c0 : ∀ m, ((w.alloc (.cells #[.int .u8 1, .int .u8 2, .int .u8 3] 83)).drewN m).cell? ⟨gp, 0, none⟩ = some (.iface 34 (.pointer (some ⟨g, 0, none⟩))) := fun m => (h.below (HQ.out m)).pc.c0
  have HR := hide (fun m => read_any (X := NoX) ((w.alloc (.cells #[.int .u8 1, .int .u8 2, .int .u8 3] 83)).drewN m) g gs b n st (hd.below (HQ.out m)) k)
  have hm : ∀ W : World, (method 251 34 (.pointer (some ⟨g, 0, none⟩)) "Read").run Try.prog W = .ok (114, .pointer (some ⟨g, 0, none⟩)) W := fun W => method_read W _
  clear HI2 h hd
  generalize p.pageE n k st = PE at *
  generalize p.pageL n k st = PL at *
  generalize st.readE n k = RE at *
  generalize st.readL n k = RL at *
  by_cases hc : p.chk k [1, 2, 3] = 0
  · rw [hc] at HC HE HL
    have HE2 : Hid (PE = RE) := hide (by rw [HE.out, if_pos rfl])
    have HL2 : Hid (PL = RL) := hide (by rw [HL.out, if_pos rfl])
    clear HE HL hc
    go_enter Try.func27, Try.ntmps27
    go_wp2_with fail
    refine HC.out.mono ?_
    rintro e w1 ⟨rfl, m, rfl⟩
    have cc := c0 m
    clear c0
    go_wp2_with fail
    (try go_at_call 114)
    refine (HR.out m).mono ?_
    rintro e w1 ⟨a, len, cap, rfl, hB, hb⟩
    have H1 := hide hB
    have H2 := hide ((HQ.out m).trans (hb.mono (HQ.out m).size))
    clear hB hb cc
    go_wp2
    go_ret2
    exact ⟨a, len, cap, by rw [HE2.out]; rfl, by rw [HL2.out]; exact H1.out, H2.out⟩
  · have e1 : (p.chk k [1, 2, 3] != 0) = true := by simpa using hc
    have HE2 : Hid (PE = p.chk k [1, 2, 3]) := hide (by rw [HE.out, if_neg hc])
    have HL2 : Hid (PL = []) := hide (by rw [HL.out, if_neg hc])
    clear HE HL hc c0
    generalize p.chk k [1, 2, 3] = E at *
    go_enter Try.func27, Try.ntmps27
    go_wp2_with fail
    refine HC.out.mono ?_
    rintro e w1 ⟨rfl, m, rfl⟩
    go_wp2
    go_ret2
    exact ⟨none, 0, 0, by rw [HE2.out]; rfl, by rw [HL2.out]; exact isB_nil _, HQ.out m⟩
theorem page_nil (k : Int) (w : World) : Calls Try.prog 27 #[.pointer none, .int .i64 k] w fun e w' => e = .returned (.tuple #[.slice none 0 0, .int .i64 1]) ∧ Below w.heap.size w w' := by
  have HB : Hid (Below w.heap.size w (w.alloc (.cells #[.int .u8 1, .int .u8 2, .int .u8 3] 83))) := hide ((Below.refl _ w).alloc (Nat.le_refl _) _)
  go_enter Try.func27, Try.ntmps27
  go_wp2_with fail
  refine (check_nil k _ _).mono ?_
  rintro e w1 ⟨rfl, rfl⟩
  go_wp2
  go_ret2
  exact ⟨rfl, HB.out⟩
theorem pwrite_nil (k : Int) (v : Value) (w : World) : Calls Try.prog 29 #[.pointer none, .int .i64 k, v] w fun e w' => e = .returned (.int .i64 1) ∧ Below w.heap.size w w' := by
  have HB : Hid (Below w.heap.size w (w.alloc (.cells #[.int .u8 1] 83))) := hide ((Below.refl _ w).alloc (Nat.le_refl _) _)
  go_enter Try.func29, Try.ntmps29
  go_wp2_with fail
  refine (check_nil k _ _).mono ?_
  rintro e w1 ⟨rfl, rfl⟩
  go_wp2
  go_ret
  exact ⟨rfl, HB.out⟩
theorem pwrite_any {w : World} {gp gq g gs b n : Nat} {p : Pg} {st : St} (h : IsP w gp gq g n p) (hd : IsD NoX w g gs b n st) (k : Int) (h0 : -9223372036854775808 ≤ k) (h1 : k ≤ 9223372036854775807) (a : Option Addr) (len cap : Nat) (l : List Nat) (hl : IsB w a len cap l) (hw : st.wr < 4611686018427387904) :
    Calls Try.prog 29 #[.pointer (some ⟨gp, 0, none⟩), .int .i64 k, .slice a len cap] w fun e w' => e = .returned (.int .i64 (p.write n k l st).2) ∧ IsP w' gp gq g n (p.write n k l st).1.1 ∧ IsD NoX w' g gs b n (p.write n k l st).1.2 ∧ Frm (fun i => SP gp gq i ∨ SD g gs b i) w w' := by
  have HB : Hid (Below w.heap.size w (w.alloc (.cells #[.int .u8 1] 83))) := hide ((Below.refl _ w).alloc (Nat.le_refl _) _)
  have HI2 : IsB (w.alloc (.cells #[.int .u8 1] 83)) (some ⟨w.heap.size, 0, none⟩) 1 1 [1] := isB_lit83 w [1] (by decide) (by decide)
  have HC := hide (check_q (h.below HB.out) k h0 h1 _ 1 1 [1] HI2 (by omega))
  have HQ : Hid (∀ m, Below w.heap.size w ((w.alloc (.cells #[.int .u8 1] 83)).drewN m)) := hide (fun m => below_drewN HB.out m)
  have HE : Hid (p.write n k l st = if p.chk k [1] = 0 then ((p.told (st.write n k l).2, (st.write n k l).1), (st.write n k l).2) else ((p, st), p.chk k [1])) := hide rfl
  have c0 : ∀ m, ((w.alloc (.cells #[.int .u8 1] 83)).drewN m).cell? ⟨gp, 0, none⟩ = some (.iface 34 (.pointer (some ⟨g, 0, none⟩))) := fun m => (h.below (HQ.out m)).pc.c0
  have HR := hide (fun m => write_any (X := NoX) ((w.alloc (.cells #[.int .u8 1] 83)).drewN m) g gs b n st (hd.below (HQ.out m)) k a len cap l (hl.below (HQ.out m)) hw)
  have hm : ∀ W : World, (method 251 34 (.pointer (some ⟨g, 0, none⟩)) "Write").run Try.prog W = .ok (115, .pointer (some ⟨g, 0, none⟩)) W := fun W => method_write W _
  have HP := hide h
  have HD := hide hd
  clear HI2 h hd hl
  generalize p.write n k l st = PE at *
  generalize st.write n k l = RE at *
  by_cases hc : p.chk k [1] = 0
  · rw [hc] at HC HE
    have HE2 : Hid (PE = ((p.told RE.2, RE.1), RE.2)) := hide (by rw [HE.out, if_pos rfl])
    clear HE hc
    go_enter Try.func29, Try.ntmps29
    go_wp2_with fail
    refine HC.out.mono ?_
    rintro e w1 ⟨rfl, m, rfl⟩
    have cc := c0 m
    clear c0
    go_wp2_with fail
    (try go_at_call 115)
    refine (HR.out m).mono ?_
    rintro e w1 ⟨rfl, h1, h2⟩
    have HP1 := hide ((HP.out.below (HQ.out m)).frmD (HD.out.below (HQ.out m)) h2)
    have HT := hide (told_any HP1.out RE.2)
    have H1 := hide h1
    have H2 := hide ((Frm.below (S := SD g gs b) (HQ.out m)).trans h2)
    clear h1 h2 cc
    go_wp2_with fail
    refine HT.out.mono ?_
    rintro e w2 ⟨rfl, h3, h4⟩
    have H3 := hide h3
    have H4 := hide (H1.out.frmP HP1.out h4)
    have H5 : Hid (Frm (fun i => SP gp gq i ∨ SD g gs b i) w w2) := hide ((H2.out.mono (fun i _ h => .inr h)).trans (h4.mono (fun i _ h => .inl h)))
    clear h3 h4 HT
    go_wp2
    go_ret
    exact ⟨by rw [HE2.out]; rfl, by rw [HE2.out]; exact H3.out, by rw [HE2.out]; exact H4.out, H5.out⟩
  · have e1 : (p.chk k [1] != 0) = true := by simpa using hc
    have HE2 : Hid (PE = ((p, st), p.chk k [1])) := hide (by rw [HE.out, if_neg hc])
    clear HE hc c0
    generalize p.chk k [1] = E at *
    go_enter Try.func29, Try.ntmps29
    go_wp2_with fail
    refine HC.out.mono ?_
    rintro e w1 ⟨rfl, m, rfl⟩
    go_wp2
    go_ret
    exact ⟨by rw [HE2.out]; rfl, by rw [HE2.out]; exact HP.out.below (HQ.out m), by rw [HE2.out]; exact HD.out.below (HQ.out m), Frm.below (HQ.out m)⟩
theorem resS1 {fn : Func} {p : Tmp} (h : fn.results = #[.cell p 24]) (tmps : Array Value) (W : World) (B : Nat) (cs : Array Value) (hb : W.heap[B]? = some (.cells cs 24 (0, 0))) (hs : cs.size = 5) (hp : tmps.getD p undef = .pointer (some ⟨B, 0, none⟩)) :
    (results fn tmps).run Try.prog W = .ok (.agg cs) W := results_cell_row h tmps W B 24 cs (0, 0) _ hp hb Try.underlying24 rfl (by rw [hs]; kernel_rfl)
theorem super_nil (w : World) : Calls Try.prog 18 #[.pointer none] w fun e w' => e = .returned (supV sup0) ∧ Below w.heap.size w w' := by
  have HB : Hid (Below w.heap.size w (w.alloc (.cells #[.int .u64 0, .int .i64 0, .int .u64 0, .int .i64 0, .int .i64 0] 24))) := hide ((Below.refl _ w).alloc (Nat.le_refl _) _)
  have HX : Hid ((w.alloc (.cells #[.int .u64 0, .int .i64 0, .int .u64 0, .int .i64 0, .int .i64 0] 24)).heap[w.heap.size]? = some (.cells #[.int .u64 0, .int .i64 0, .int .u64 0, .int .i64 0, .int .i64 0] 24 (0, 0))) := hide (heap_alloc_new w _)
  go_enter Try.func18, Try.ntmps18
  go_wp2
  (try simp only [Exit.inBlock, Exit.then])
  refine bodyPost_ret (resS1 rfl _ _ w.heap.size _ HX.out rfl rfl) rfl ?_
  exact ⟨rfl, HB.out⟩
theorem super_any {w : World} {gp gq g n : Nat} {p : Pg} (h : IsP w gp gq g n p) : Calls Try.prog 18 #[.pointer (some ⟨gp, 0, none⟩)] w fun e w' => e = .returned (supV p.sup) ∧ Below w.heap.size w w' := by
  obtain ⟨⟨gen, root, seq, jn, live⟩, ps, bad⟩ := p
  have h' : IsP (w.alloc (.cells #[.int .u64 0, .int .i64 0, .int .u64 0, .int .i64 0, .int .i64 0] 24)) gp gq g n ⟨⟨gen, root, seq, jn, live⟩, ps, bad⟩ := h.below ((Below.refl _ w).alloc (Nat.le_refl _) _)
  have g1 := cell_bk (j := 1) h'.blk rfl
  have g2 := cell_bk (j := 2) h'.blk rfl
  have g3 := cell_bk (j := 3) h'.blk rfl
  have g4 := cell_bk (j := 4) h'.blk rfl
  have g5 := cell_bk (j := 5) h'.blk rfl
  simp only [List.getElem_toArray, List.getElem_cons_zero, List.getElem_cons_succ] at g1 g2 g3 g4 g5
  have HB : Hid (Below w.heap.size w (w.alloc (.cells #[.int .u64 (gen : Nat), .int .i64 root, .int .u64 (seq : Nat), .int .i64 jn, .int .i64 live] 24))) := hide ((Below.refl _ w).alloc (Nat.le_refl _) _)
  have HX : Hid ((w.alloc (.cells #[.int .u64 (gen : Nat), .int .i64 root, .int .u64 (seq : Nat), .int .i64 jn, .int .i64 live] 24)).heap[w.heap.size]? = some (.cells #[.int .u64 (gen : Nat), .int .i64 root, .int .u64 (seq : Nat), .int .i64 jn, .int .i64 live] 24 (0, 0))) := hide (heap_alloc_new w _)
  clear h h'
  go_enter Try.func18, Try.ntmps18
  go_wp2
  (try simp only [Exit.inBlock, Exit.then])
  refine bodyPost_ret (resS1 rfl _ _ w.heap.size _ HX.out rfl rfl) rfl ?_
  exact ⟨rfl, HB.out⟩
end Go.Proofs.Ytecmfpgccmmlpaa
