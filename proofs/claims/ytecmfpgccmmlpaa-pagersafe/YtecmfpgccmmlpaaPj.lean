/- blockOf -/
import Derived.Test.YtecmfpgccmmlpaaPd
import Derived.Laws.ResultCell
import Derived.Laws.Rows
namespace Go.Proofs.Ytecmfpgccmmlpaa
open Go.RowKit
set_option maxRecDepth 100000
set_option linter.unusedVariables false
set_option linter.unusedSimpArgs false
theorem resB2 {fn : Func} {p u : Tmp} (h : fn.results = #[.cell p 73, .tmp u]) (tmps : Array Value) (W : World) (B : Nat) (cs : Array Value) (hb : W.heap[B]? = some (.cells cs 73 (0, 0))) (hs : cs.size = 3) (hp : tmps.getD p undef = .pointer (some ⟨B, 0, none⟩)) :
    (results fn tmps).run Try.prog W = .ok (.tuple #[.agg cs, tmps.getD u undef]) W := by
  rw [results_cell_tmp h, hp]
  have hl := run_loadVar_row (P := Try.prog) W B 73 73 cs (0, 0) _ hb Try.underlying73 rfl (by rw [hs]; kernel_rfl)
  simp [asAddr, Result.andThen, hl]
abbrev set3 (W : World) (B : Nat) (a b c : Value) : World := ((W.setCell ⟨B, 0, none⟩ a).setCell ⟨B, 1, none⟩ b).setCell ⟨B, 2, none⟩ c
theorem blk3 {W : World} {B : Nat} {x0 x1 x2 : Value} {t : TypeId} (h : W.heap[B]? = some (.cells #[x0, x1, x2] t (0, 0))) (a b c : Value) : (set3 W B a b c).heap[B]? = some (.cells #[a, b, c] t (0, 0)) := by
  unfold set3
  rw [blk_set (by rw [blk_set (by rw [blk_set h])])]
  rfl
theorem below3 {B0 : Nat} {w W : World} (h : Below B0 w W) {B : Nat} (hB : B0 ≤ B) (a b c : Value) : Below B0 w (set3 W B a b c) := ((h.setCell hB a).setCell hB b).setCell hB c
theorem size3 {W : World} {B : Nat} (a b c : Value) : (set3 W B a b c).heap.size = W.heap.size := by simp [World.setCell]
theorem IsB.at {W W' : World} {q o len cap : Nat} {l : List Nat} (h : IsB W (some ⟨q, o, none⟩) len cap l) (hq : W'.heap[q]? = W.heap[q]?) : IsB W' (some ⟨q, o, none⟩) len cap l := by
  obtain ⟨h1, h2, h3, h4, h5⟩ := h
  refine ⟨h1, h2, h3, h4, ?_⟩
  rcases h5 with ⟨h0, h6⟩ | ⟨b, off, e, hlt, hc⟩
  · exact .inl ⟨h0, h6⟩
  · cases e
    refine .inr ⟨q, o, rfl, ?_, fun i hi => ?_⟩
    · rw [Array.getElem?_eq_getElem hlt] at hq
      exact heap_lt hq
    · rw [← hc i hi]
      simp [World.cell?, hq]
set_option maxHeartbeats 1000000 in
theorem blockOf_ok (w : World) (g : Nat) (s : Sup) (hm : s.may = true) : Calls Try.prog 41 #[.iface 34 (.pointer (some ⟨g, 0, none⟩)), supV s] w fun e w' => ∃ q, e = .returned (.tuple #[.agg (blkC g ((s.gen % 2 : Nat) : Int) (some ⟨q, 0, none⟩) 4096 4096), .int .i64 0]) ∧ IsB w' (some ⟨q, 0, none⟩) 4096 4096 (supL s) ∧ Below w.heap.size w w' := by
  have HB0 : Hid (Below w.heap.size w ((box5 w s).alloc (.cells #[.nilIface, .int .i64 0, .slice none 0 0] 73))) := hide (((Below.refl _ w).alloc (Nat.le_refl _) _).alloc (by simp) _)
  have HX : Hid (((box5 w s).alloc (.cells #[.nilIface, .int .i64 0, .slice none 0 0] 73)).heap[w.heap.size]? = some (.cells #[.int .u64 (s.gen : Nat), .int .i64 s.root, .int .u64 (s.seq : Nat), .int .i64 s.jn, .int .i64 s.live] 24 (0, 0))) := hide (by
    refine (((Below.refl (w.heap.size + 1) (box5 w s)).alloc (by simp) _).block _ (by omega)).trans (heap_alloc_new _ _))
  have HY : Hid (((box5 w s).alloc (.cells #[.nilIface, .int .i64 0, .slice none 0 0] 73)).heap[w.heap.size + 1]? = some (.cells #[.nilIface, .int .i64 0, .slice none 0 0] 73 (0, 0))) := hide (by
    have := heap_alloc_new (box5 w s) (.cells #[.nilIface, .int .i64 0, .slice none 0 0] 73)
    rwa [show (box5 w s).heap.size = w.heap.size + 1 by simp] at this)
  have HBY := hide (bytes_ok s hm ((box5 w s).alloc (.cells #[.nilIface, .int .i64 0, .slice none 0 0] 73)))
  have HH := hide (fun W => home_any s W (by have := (s.of_may hm); omega))
  have HLT : Hid (∀ x ∈ supL s, x < 256) := hide (by
    intro x hx
    rw [supL, List.mem_append] at hx
    rcases hx with h | h
    · exact supX_lt s x h
    · simp only [le, List.mem_cons, List.not_mem_nil, or_false] at h; omega)
  clear hm
  generalize supL s = SL at *
  unfold box5 supV supC at *
  obtain ⟨gen, root, seq, jn, live⟩ := s
  dsimp only at HB0 HX HY HBY HH ⊢
  unfold blkC
  generalize hV : (gen % 2 : Nat) = GM at *
  clear hV
  have q0 := cell_bk (j := 0) HX.out rfl
  have q1 := cell_bk (j := 1) HX.out rfl
  have q2 := cell_bk (j := 2) HX.out rfl
  have q3 := cell_bk (j := 3) HX.out rfl
  have q4 := cell_bk (j := 4) HX.out rfl
  simp only [List.getElem_toArray, List.getElem_cons_zero, List.getElem_cons_succ] at q0 q1 q2 q3 q4
  go_enter Try.func41, Try.ntmps41
  go_wp2_with fail
  refine HBY.out.mono ?_
  rintro e w1 ⟨q, rfl, hq, hrow, hb1⟩
  have HB1 : Hid (Below w.heap.size w w1) := hide (HB0.out.trans (hb1.mono HB0.out.size))
  have HX1 := hide ((hb1.block _ (heap_lt HX.out)).trans HX.out)
  have HY1 := hide ((hb1.block _ (heap_lt HY.out)).trans HY.out)
  have HI := hide (hrow.isB HLT.out)
  have HQ : Hid (q ≠ w.heap.size + 1) := hide (by simp at hq; omega)
  clear hq hrow hb1 HBY HB0 HX HY q0 q1 q2 q3 q4 HLT
  have q0 := cell_bk (j := 0) HX1.out rfl
  have q1 := cell_bk (j := 1) HX1.out rfl
  have q2 := cell_bk (j := 2) HX1.out rfl
  have q3 := cell_bk (j := 3) HX1.out rfl
  have q4 := cell_bk (j := 4) HX1.out rfl
  simp only [List.getElem_toArray, List.getElem_cons_zero, List.getElem_cons_succ] at q0 q1 q2 q3 q4
  go_wp2_with fail
  refine (HH.out w1).mono ?_
  rintro e w2 ⟨rfl, hb2⟩
  have HB2 : Hid (Below w.heap.size w w2) := hide (HB1.out.trans (hb2.mono HB1.out.size))
  have HY2 := hide ((hb2.block _ (heap_lt HY1.out)).trans HY1.out)
  have HI2 := hide (HI.out.below hb2)
  clear hb2 HI HX1 HY1 HB1 q0 q1 q2 q3 q4 HH
  have y0 := cell_bk (j := 0) HY2.out rfl
  have y1 := cell_bk (j := 1) HY2.out rfl
  have y2 := cell_bk (j := 2) HY2.out rfl
  simp only [List.getElem_toArray, List.getElem_cons_zero, List.getElem_cons_succ] at y0 y1 y2
  have f0 := froz_bk HY2.out 0
  have f1 := froz_bk HY2.out 1
  have f2 := froz_bk HY2.out 2
  go_wp2
  (try simp only [Exit.inBlock, Exit.then])
  refine bodyPost_ret (resB2 rfl _ _ (w.heap.size + 1) #[.iface 34 (.pointer (some ⟨g, 0, none⟩)), .int .i64 (GM : Nat), .slice (some ⟨q, 0, none⟩) 4096 4096] (blk3 HY2.out _ _ _) rfl rfl) rfl ?_
  refine ⟨q, rfl, ?_, below3 HB2.out (by omega) _ _ _⟩
  refine HI2.out.at ?_
  have hq := HQ.out
  rw [Below.heap_setCell _ _ _ _ hq, Below.heap_setCell _ _ _ _ hq, Below.heap_setCell _ _ _ _ hq]
theorem blockOf_no (w : World) (v : Value) (s : Sup) (hm : s.may = false) : Calls Try.prog 41 #[v, supV s] w fun e w' => e = .returned (.tuple #[.agg #[.nilIface, .int .i64 0, .slice none 0 0], .int .i64 2]) ∧ Below w.heap.size w w' := by
  have HB0 : Hid (Below w.heap.size w ((box5 w s).alloc (.cells #[.nilIface, .int .i64 0, .slice none 0 0] 73))) := hide (((Below.refl _ w).alloc (Nat.le_refl _) _).alloc (by simp) _)
  have HX : Hid (((box5 w s).alloc (.cells #[.nilIface, .int .i64 0, .slice none 0 0] 73)).heap[w.heap.size]? = some (.cells #[.int .u64 (s.gen : Nat), .int .i64 s.root, .int .u64 (s.seq : Nat), .int .i64 s.jn, .int .i64 s.live] 24 (0, 0))) := hide (by
    refine (((Below.refl (w.heap.size + 1) (box5 w s)).alloc (by simp) _).block _ (by omega)).trans (heap_alloc_new _ _))
  have HY : Hid (((box5 w s).alloc (.cells #[.nilIface, .int .i64 0, .slice none 0 0] 73)).heap[w.heap.size + 1]? = some (.cells #[.nilIface, .int .i64 0, .slice none 0 0] 73 (0, 0))) := hide (by
    have := heap_alloc_new (box5 w s) (.cells #[.nilIface, .int .i64 0, .slice none 0 0] 73)
    rwa [show (box5 w s).heap.size = w.heap.size + 1 by simp] at this)
  have HBY := hide (bytes_no s hm ((box5 w s).alloc (.cells #[.nilIface, .int .i64 0, .slice none 0 0] 73)))
  clear hm
  unfold box5 supV supC at *
  obtain ⟨gen, root, seq, jn, live⟩ := s
  dsimp only at HB0 HX HY HBY ⊢
  have q0 := cell_bk (j := 0) HX.out rfl
  have q1 := cell_bk (j := 1) HX.out rfl
  have q2 := cell_bk (j := 2) HX.out rfl
  have q3 := cell_bk (j := 3) HX.out rfl
  have q4 := cell_bk (j := 4) HX.out rfl
  simp only [List.getElem_toArray, List.getElem_cons_zero, List.getElem_cons_succ] at q0 q1 q2 q3 q4
  go_enter Try.func41, Try.ntmps41
  go_wp2_with fail
  refine HBY.out.mono ?_
  rintro e w1 ⟨rfl, hb1⟩
  have HB1 : Hid (Below w.heap.size w w1) := hide (HB0.out.trans (hb1.mono HB0.out.size))
  have HY1 := hide ((hb1.block _ (heap_lt HY.out)).trans HY.out)
  clear hb1 HBY HB0 HX HY q0 q1 q2 q3 q4
  have y0 := cell_bk (j := 0) HY1.out rfl
  have y1 := cell_bk (j := 1) HY1.out rfl
  have y2 := cell_bk (j := 2) HY1.out rfl
  simp only [List.getElem_toArray, List.getElem_cons_zero, List.getElem_cons_succ] at y0 y1 y2
  have f0 := froz_bk HY1.out 0
  have f1 := froz_bk HY1.out 1
  have f2 := froz_bk HY1.out 2
  go_wp2
  (try simp only [Exit.inBlock, Exit.then])
  refine bodyPost_ret (resB2 rfl _ _ (w.heap.size + 1) #[.nilIface, .int .i64 0, .slice none 0 0] (blk3 HY1.out _ _ _) rfl rfl) rfl ?_
  exact ⟨rfl, below3 HB1.out (by omega) _ _ _⟩
end Go.Proofs.Ytecmfpgccmmlpaa
