/- the document's write -/
import Derived.Test.YtdageggojaghmaaLx
import Derived.Test.YtdageggojaghmaaWx
import Derived.Laws.ResultCell
import Derived.Laws.Rows
namespace Go.Proofs.Ytdageggojaghmaa
open Go.RowKit
/-- cells of a block that is known -/
theorem cell_blk {w : World} {b j : Nat} {cs : Array Value} {t : TypeId} {v : Value} (h : w.heap[b]? = some (.cells cs t (0, 0))) (hv : cs[j]? = some v) : w.cell? ⟨b, j, none⟩ = some v := by
  simp [World.cell?, h, hv]
theorem froz_blk {w : World} {b : Nat} {cs : Array Value} {t : TypeId} (h : w.heap[b]? = some (.cells cs t (0, 0))) (j : Nat) : w.frozen? ⟨b, j, none⟩ = false := by
  simp [World.frozen?, h]
theorem blk_at {w : World} {b j : Nat} {v : Value} {g : Nat} (h : b ≠ g) : (w.setCell ⟨b, j, none⟩ v).heap[g]? = w.heap[g]? := by
  simp [World.setCell, Array.getElem?_modify, h]
/-- append([]Sector{}, row...), the empty row made ahead of it -/
theorem secs_at (W0 : World) (q cap n : Nat) (lo lr : Nat → List Nat) (d : Nat → Bool) (h : RowR W0 q cap n lo lr d) (h0 : 0 < n) (hn : n ≤ 1024) :
    ∃ c' W1, (Builtin.append_ #[25, 25] 25 #[.slice (some ⟨W0.heap.size, 0, none⟩) 0 0, .slice (some ⟨q, 0, none⟩) n cap]).run Try.prog (W0.alloc (.cells #[] 67)) = .ok (.slice (some ⟨W0.heap.size + 1, 0, none⟩) n c') W1 ∧ RowR W1 (W0.heap.size + 1) c' n lo lr d ∧ Below W0.heap.size W0 W1 := by
  have hb : Below W0.heap.size W0 (W0.alloc (.cells #[] 67)) := (Below.refl _ _).alloc (Nat.le_refl _) _
  have e : (W0.alloc (.cells #[] 67)).heap.size = W0.heap.size + 1 := by simp
  obtain ⟨c', W1, hr, hrow, hbel⟩ := run_secs (W0.alloc (.cells #[] 67)) 25 ⟨W0.heap.size, 0, none⟩ q cap n lo lr d (h.below hb) h0 hn
  rw [e] at hr hrow hbel
  exact ⟨c', W1, hr, hrow, hb.trans (hbel.mono (by omega))⟩
theorem secs_2 (w : World) (o0 o1 : Obj) (q cap n : Nat) (lo lr : Nat → List Nat) (d : Nat → Bool) (h : RowR w q cap n lo lr d) (h0 : 0 < n) (hn : n ≤ 1024) :
    ∃ c' W1, (Builtin.append_ #[25, 25] 25 #[.slice (some ⟨w.heap.size + 1 + 1, 0, none⟩) 0 0, .slice (some ⟨q, 0, none⟩) n cap]).run Try.prog (((w.alloc o0).alloc o1).alloc (.cells #[] 67)) = .ok (.slice (some ⟨w.heap.size + 3, 0, none⟩) n c') W1 ∧ RowR W1 (w.heap.size + 3) c' n lo lr d ∧ Below w.heap.size w W1 ∧ W1.heap[w.heap.size]? = some o0 ∧ W1.heap[w.heap.size + 1]? = some o1 := by
  have e : ((w.alloc o0).alloc o1).heap.size = w.heap.size + 1 + 1 := by simp
  have hb : Below w.heap.size w ((w.alloc o0).alloc o1) := ((Below.refl _ _).alloc (Nat.le_refl _) _).alloc (by simp) _
  obtain ⟨c', W1, hr, hrow, hbel⟩ := secs_at ((w.alloc o0).alloc o1) q cap n lo lr d (h.below hb) h0 hn
  rw [e] at hr hrow hbel
  refine ⟨c', W1, hr, hrow, hb.trans (hbel.mono (by omega)), ?_, ?_⟩
  · rw [hbel.block w.heap.size (by omega), Below.heap_alloc _ _ _ (by simp), heap_alloc_new]
  · have := heap_alloc_new (w.alloc o0) o1
    rw [show (w.alloc o0).heap.size = w.heap.size + 1 by simp] at this
    rw [hbel.block (w.heap.size + 1) (by omega), this]
theorem RowR.put {w : World} {q cap n : Nat} {lo lr : Nat → List Nat} {d : Nat → Bool} (h : RowR w q cap n lo lr d) {k : Nat} (hk : k < n) {v0 v1 : Value} {l0 l1 : List Nat} (b : Bool) (h0 : Dat NoX w v0 l0) (h1 : Dat NoX w v1 l1) :
    RowR (((w.setCell ⟨q, k * 3, none⟩ v0).setCell ⟨q, k * 3 + 1, none⟩ v1).setCell ⟨q, k * 3 + 2, none⟩ (.bool b)) q cap n (fun i => if i = k then l0 else lo i) (fun i => if i = k then l1 else lr i) (fun i => if i = k then b else d i) := by
  obtain ⟨cur, hq, hs, hc⟩ := h.row
  have hnc := h.nc
  have hb := blk_set (j := k * 3 + 2) (blk_set (j := k * 3 + 1) (blk_set (j := k * 3) hq v0) v1) (.bool b)
  have hK : K5 w (((w.setCell ⟨q, k * 3, none⟩ v0).setCell ⟨q, k * 3 + 1, none⟩ v1).setCell ⟨q, k * 3 + 2, none⟩ (.bool b)) := by
    intro g c m hg
    by_cases e : q = g
    · subst e
      rw [hq] at hg
      cases hg
    · rw [blk_at e, blk_at e, blk_at e]
      exact hg
  refine ⟨hnc, h.cm, _, hb, by simp [hs], fun i hi => ?_⟩
  by_cases e : i = k
  · subst e
    simp only [if_true]
    refine ⟨v0, v1, ?_, ?_, ?_, h0.kept hK, h1.kept hK⟩
    · rw [Array.getElem?_setIfInBounds_ne (by omega), Array.getElem?_setIfInBounds_ne (by omega), Array.getElem?_setIfInBounds_self_of_lt (by omega)]
    · rw [Array.getElem?_setIfInBounds_ne (by omega), Array.getElem?_setIfInBounds_self_of_lt (by simp; omega)]
    · rw [Array.getElem?_setIfInBounds_self_of_lt (by simp; omega)]
  · simp only [if_neg e]
    obtain ⟨u0, u1, g0, g1, g2, g3, g4⟩ := hc i hi
    refine ⟨u0, u1, ?_, ?_, ?_, g3.kept hK, g4.kept hK⟩
    · rw [Array.getElem?_setIfInBounds_ne (by omega), Array.getElem?_setIfInBounds_ne (by omega), Array.getElem?_setIfInBounds_ne (by omega)]; exact g0
    · rw [Array.getElem?_setIfInBounds_ne (by omega), Array.getElem?_setIfInBounds_ne (by omega), Array.getElem?_setIfInBounds_ne (by omega)]; exact g1
    · rw [Array.getElem?_setIfInBounds_ne (by omega), Array.getElem?_setIfInBounds_ne (by omega), Array.getElem?_setIfInBounds_ne (by omega)]; exact g2
theorem goes_syn (st : St) (k : Nat) (l : List Nat) (i : Nat) : (st.goes k l).syn i = st.syn i := by unfold St.goes; cases st.arm <;> rfl
theorem goes_fr (st : St) (k : Nat) (l : List Nat) (i : Nat) : (st.goes k l).fr i = if i = k then some l else st.fr i := by unfold St.goes; cases st.arm <;> rfl
theorem goes_reads (st : St) (k : Nat) (l : List Nat) (i : Nat) : (st.goes k l).reads i = if i = k then l else st.reads i := by
  unfold St.reads
  rw [goes_fr, goes_syn]
  by_cases e : i = k
  · simp [e]
  · simp [e]
theorem RowR.goes {w : World} {q cap n : Nat} {st : St} {k : Nat} {l : List Nat} (h : RowR w q cap n (fun i => if i = k then st.syn k else st.syn i) (fun i => if i = k then l else st.reads i) (fun i => if i = k then true else (st.fr i).isSome)) : RowR w q cap n (st.goes k l).syn (st.goes k l).reads (fun i => ((st.goes k l).fr i).isSome) := by
  refine h.congr (fun i _ => ?_) (fun i _ => ?_) (fun i _ => ?_)
  · rw [goes_syn]
    by_cases e : i = k
    · simp [e]
    · simp [e]
  · rw [goes_reads]
  · rw [goes_fr]
    by_cases e : i = k
    · simp [e]
    · simp [e]
theorem K5.set27 {w : World} {B j : Nat} {cs : Array Value} {m : Nat × Nat} {v : Value} (hb : w.heap[B]? = some (.cells cs 27 m)) : K5 w (w.setCell ⟨B, j, none⟩ v) := by
  intro g c m hg
  by_cases e : B = g
  · subst e
    rw [hb] at hg
    cases hg
  · rw [blk_at e]
    exact hg
theorem RowR.set27 {w : World} {q cap n : Nat} {lo lr : Nat → List Nat} {d : Nat → Bool} (h : RowR w q cap n lo lr d) {B j : Nat} {cs : Array Value} {m : Nat × Nat} {v : Value} (hb : w.heap[B]? = some (.cells cs 27 m)) : RowR (w.setCell ⟨B, j, none⟩ v) q cap n lo lr d := by
  obtain ⟨cur, hq, _, _⟩ := h.row
  refine h.kept (blk_at ?_) (K5.set27 hb)
  rintro rfl
  rw [hb] at hq
  cases hq
theorem RowR.set5 {w : World} {q cap n : Nat} {lo lr : Nat → List Nat} {d : Nat → Bool} (h : RowR w q cap n lo lr d) {B : Nat} {cs : Array Value} {m : Nat × Nat} (v0 v1 v2 v3 v4 : Value) (hb : w.heap[B]? = some (.cells cs 27 m)) :
    RowR (((((w.setCell ⟨B, 0, none⟩ v0).setCell ⟨B, 1, none⟩ v1).setCell ⟨B, 2, none⟩ v2).setCell ⟨B, 3, none⟩ v3).setCell ⟨B, 4, none⟩ v4) q cap n lo lr d :=
  ((((h.set27 hb).set27 (blk_set hb _)).set27 (blk_set (blk_set hb _) _)).set27 (blk_set (blk_set (blk_set hb _) _) _)).set27 (blk_set (blk_set (blk_set (blk_set hb _) _) _) _)
theorem below_set5 {B0 B : Nat} {a w : World} (h : Below B0 a w) (hB : B0 ≤ B) (v0 v1 v2 v3 v4 : Value) :
    Below B0 a (((((w.setCell ⟨B, 0, none⟩ v0).setCell ⟨B, 1, none⟩ v1).setCell ⟨B, 2, none⟩ v2).setCell ⟨B, 3, none⟩ v3).setCell ⟨B, 4, none⟩ v4) :=
  ((((h.setCell hB _).setCell hB _).setCell hB _).setCell hB _).setCell hB _
/-- what a function answers whose first result is a State's own block -/
theorem res5 {fn : Func} {p u : Tmp} (h : fn.results = #[.cell p 27, .tmp u]) (tmps : Array Value) (W : World) (B : Nat) (cs : Array Value) (hb : W.heap[B]? = some (.cells cs 27 (0, 0))) (hs : cs.size = 5) (hp : tmps.getD p undef = .pointer (some ⟨B, 0, none⟩)) :
    (results fn tmps).run Try.prog W = .ok (.tuple #[.agg cs, tmps.getD u undef]) W := by
  rw [results_cell_tmp h, hp]
  have hl := run_loadVar_row (P := Try.prog) W B 27 27 cs (0, 0) _ hb Try.underlying27 rfl (by rw [hs]; kernel_rfl)
  simp [asAddr, Result.andThen, hl]
set_option maxRecDepth 40000 in
set_option maxHeartbeats 2000000 in
/-- the document's write, where it writes -/
theorem rwrite_goes (w : World) (q cap n : Nat) (st : St) (h : IsR w q cap n st) (k : Nat) (hk : k < n) (a : Option Addr) (len cp : Nat) (l : List Nat) (hB : IsB w a len cp l) (hl : len ≤ 4096) (hw : st.wr < 4611686018427387904) (ha : ¬ (st.arm = true ∧ st.left = 0)) :
    Calls Try.prog 30 #[stv q cap n st, .int .i64 (k : Int), .slice a len cp] w fun e w' => ∃ q' c', e = .returned (.tuple #[stv q' c' n (st.goes k l), .int .i64 0]) ∧ IsR w' q' c' n (st.goes k l) ∧ Below w.heap.size w w' := by
  have HR := hide h
  have HB := hide hB
  have d1 : decide ((k : Int) < 0) = false := decide_eq_false (by omega)
  have d2 : decide ((n : Int) ≤ (k : Int)) = false := decide_eq_false (by omega)
  have d3 : decide ((4096 : Int) < (len : Int)) = false := decide_eq_false (by omega)
  have hkn : (k : Int) < n := by omega
  have hn1 := h.n1
  have hlf := h.left
  have HN0 := hide h.n0
  clear h hB
  go_enter Try.func30, Try.ntmps30
  cases hA : st.arm
  · clear ha
    obtain ⟨c', W1, hr, hrow, hbel, hbb, hbr⟩ := secs_2 w (.cells #[.slice (some ⟨q, 0, none⟩) n cap, .bool st.down, .bool false, .int .i64 (st.left : Nat), .int .i64 ((st.wr : Int) + 1)] 27) (.cells #[.slice none 0 0, .bool false, .bool false, .int .i64 0, .int .i64 0] 27) q cap n _ _ _ HR.out.row HR.out.n0 HR.out.n1
    have g0 := cell_blk (j := 0) hbb rfl
    have f0 := froz_blk hbb 0
    have HB1 := hide hbel
    have HRW := hide hrow
    have HBB := hide hbb
    have HBR := hide hbr
    clear hrow hbel hbb hbr
    go_wp2_with (at_builtin; refine Go.Lib.wpList_append_run _ rfl _ _ _ _ rfl _ _ rfl rfl _ _ hr ?_)
    generalize hW2 : W1.setCell ⟨w.heap.size, 0, none⟩ (.slice (some ⟨w.heap.size + 3, 0, none⟩) n c') = W2
    have hb2 : W2.heap[w.heap.size]? = some (.cells #[.slice (some ⟨w.heap.size + 3, 0, none⟩) n c', .bool st.down, .bool false, .int .i64 (st.left : Nat), .int .i64 ((st.wr : Int) + 1)] 27 (0, 0)) := by rw [← hW2, blk_set HBB.out]; rfl
    have hr2 : W2.heap[w.heap.size + 1]? = some (.cells #[.slice none 0 0, .bool false, .bool false, .int .i64 0, .int .i64 0] 27 (0, 0)) := by rw [← hW2, blk_at (by omega)]; exact HBR.out
    have hB2 : Below w.heap.size w W2 := by rw [← hW2]; exact HB1.out.setCell (Nat.le_refl _) _
    have hrow2 : RowR W2 (w.heap.size + 3) c' n st.syn st.reads (fun i => (st.fr i).isSome) := by
      rw [← hW2]
      refine HRW.out.kept (blk_at (by omega)) ?_
      intro g cc m hg
      by_cases e : w.heap.size = g
      · subst e
        rw [HBB.out] at hg
        cases hg
      · rw [blk_at e]
        exact hg
    obtain ⟨a0, l0, c0, a1, l1, c1, z0, z1, z2, hd0, hd1⟩ := hrow2.sec hk
    have hq3 : w.heap.size + 3 < W2.heap.size := hrow2.lt
    have fz : ∀ W : World, Below W2.heap.size W2 W → ∀ j, W.frozen? ⟨w.heap.size + 3, j, none⟩ = false := by
      intro W hW j
      obtain ⟨cur, hcu, _⟩ := (hrow2.below hW).row
      exact froz_blk hcu j
    have HS : Hid (∀ W, Below W2.heap.size W2 W → (W.cell? ⟨w.heap.size, 0, none⟩ = some (.slice (some ⟨w.heap.size + 3, 0, none⟩) n c') ∧ W.cell? ⟨w.heap.size + 3, k * 3, none⟩ = some (.slice a0 l0 c0))) := hide (fun W hW => ⟨(hW.cell (p := ⟨w.heap.size, 0, none⟩) (by simp; omega)).trans (cell_blk hb2 rfl), (hW.cell (p := ⟨w.heap.size + 3, k * 3, none⟩) hq3).trans z0⟩)
    have HT : Hid (∀ W, Below W2.heap.size W2 W → (W.cell? ⟨w.heap.size + 3, k * 3 + 1, none⟩ = some (.slice a1 l1 c1) ∧ W.cell? ⟨w.heap.size + 3, k * 3 + 2, none⟩ = some (.bool (st.fr k).isSome) ∧ W.frozen? ⟨w.heap.size + 3, k * 3, none⟩ = false ∧ W.frozen? ⟨w.heap.size + 3, k * 3 + 1, none⟩ = false ∧ W.frozen? ⟨w.heap.size + 3, k * 3 + 2, none⟩ = false)) := hide (fun W hW => ⟨(hW.cell (p := ⟨w.heap.size + 3, k * 3 + 1, none⟩) hq3).trans z1, (hW.cell (p := ⟨w.heap.size + 3, k * 3 + 2, none⟩) hq3).trans z2, fz W hW _, fz W hW _, fz W hW _⟩)
    have HS3 : Hid (∀ W (v : Value), Below W2.heap.size W2 W → ((((W.setCell ⟨w.heap.size + 3, k * 3, none⟩ (.slice a0 l0 c0)).setCell ⟨w.heap.size + 3, k * 3 + 1, none⟩ v).setCell ⟨w.heap.size + 3, k * 3 + 2, none⟩ (.bool true)).cell? ⟨w.heap.size, 0, none⟩ = some (.slice (some ⟨w.heap.size + 3, 0, none⟩) n c') ∧ (((W.setCell ⟨w.heap.size + 3, k * 3, none⟩ (.slice a0 l0 c0)).setCell ⟨w.heap.size + 3, k * 3 + 1, none⟩ v).setCell ⟨w.heap.size + 3, k * 3 + 2, none⟩ (.bool true)).cell? ⟨w.heap.size + 3, k * 3, none⟩ = some (.slice a0 l0 c0))) := hide (fun W v hW => by
      have hWb := (hW.block w.heap.size (by omega)).trans hb2
      obtain ⟨cur, hcu, hsz, hcc⟩ := (hrow2.below hW).row
      have hnc := hrow2.nc
      refine ⟨cell_blk (by rw [blk_at (by omega), blk_at (by omega), blk_at (by omega)]; exact hWb) rfl, cell_blk (blk_set (blk_set (blk_set hcu _) _) _) ?_⟩
      rw [Array.getElem?_setIfInBounds_ne (by omega), Array.getElem?_setIfInBounds_ne (by omega), Array.getElem?_setIfInBounds_self_of_lt (by omega)])
    have HI2 := hide (HB.out.below hB2)
    have HD0 := hide hd0
    have HB2 := hide hb2
    have HR2 := hide hr2
    have HL2 := hide hB2
    have HRW2 := hide hrow2
    have B0 : Below W2.heap.size W2 W2.drew := Below.drew (Below.refl _ _)
    clear hW2 hb2 hr2 hB2 hrow2 hd0 hd1 z0 z1 z2 fz g0 f0 HB1 HRW HBB HBR HR HB hr hq3
    go_region_held_law (fun W => W.cell? ⟨w.heap.size, 0, none⟩ = some (.slice (some ⟨w.heap.size + 3, 0, none⟩) n c') ∧ W.cell? ⟨w.heap.size + 3, k * 3, none⟩ = some (.slice a0 l0 c0)) (first | exact HS.out _ B0 | exact HS.out _ (B0.alloc B0.size _) | exact HS.out _ hbK | exact HS3.out _ _ hbK) (first | (refine step_fresh rfl _ _ rfl _ rfl a len cp l rfl W2 HI2.out (by omega) (by first | exact B0.alloc B0.size _ | exact B0) ?_; intro aK cK wK hIK hAK hbK hbX; obtain ⟨y1, y2, y3, y4, y5⟩ := HT.out wK hbK))
    generalize hW4 : ((wK.setCell ⟨w.heap.size + 3, k * 3, none⟩ (.slice a0 l0 c0)).setCell ⟨w.heap.size + 3, k * 3 + 1, none⟩ (.slice aK len cK)).setCell ⟨w.heap.size + 3, k * 3 + 2, none⟩ (.bool true) = W4
    have hbK4 := (hbK.block w.heap.size (heap_lt HB2.out)).trans HB2.out
    have hrK4 := (hbK.block (w.heap.size + 1) (heap_lt HR2.out)).trans HR2.out
    have hb4 : W4.heap[w.heap.size]? = some (.cells #[.slice (some ⟨w.heap.size + 3, 0, none⟩) n c', .bool st.down, .bool false, .int .i64 (st.left : Nat), .int .i64 ((st.wr : Int) + 1)] 27 (0, 0)) := by rw [← hW4, blk_at (by omega), blk_at (by omega), blk_at (by omega)]; exact hbK4
    have hr4 : W4.heap[w.heap.size + 1]? = some (.cells #[.slice none 0 0, .bool false, .bool false, .int .i64 0, .int .i64 0] 27 (0, 0)) := by rw [← hW4, blk_at (by omega), blk_at (by omega), blk_at (by omega)]; exact hrK4
    have HBW : Hid (Below w.heap.size w W4) := hide (by rw [← hW4]; exact (((HL2.out.trans (hbK.mono HL2.out.size)).setCell (by simp) _).setCell (by simp) _).setCell (by simp) _)
    have hDK : Dat NoX wK (.slice aK len cK) l := ⟨aK, len, cK, rfl, hIK, hl, fun h0 b off e => ⟨(hAK h0 b off e).2.2, id⟩⟩
    have HRR : Hid (RowR W4 (w.heap.size + 3) c' n (st.goes k l).syn (st.goes k l).reads (fun i => ((st.goes k l).fr i).isSome)) := hide (by rw [← hW4]; exact ((HRW2.out.below hbK).put hk true (HD0.out.kept (K5.below hbK)) hDK).goes)
    have g0 := cell_blk (j := 0) hb4 rfl
    have g1 := cell_blk (j := 1) hb4 rfl
    have g2 := cell_blk (j := 2) hb4 rfl
    have g3 := cell_blk (j := 3) hb4 rfl
    have g4 := cell_blk (j := 4) hb4 rfl
    have r0 := cell_blk (j := 0) hr4 rfl
    have r1 := cell_blk (j := 1) hr4 rfl
    have r2 := cell_blk (j := 2) hr4 rfl
    have r3 := cell_blk (j := 3) hr4 rfl
    have r4 := cell_blk (j := 4) hr4 rfl
    have f0 := froz_blk hr4 0
    have f1 := froz_blk hr4 1
    have f2 := froz_blk hr4 2
    have f3 := froz_blk hr4 3
    have f4 := froz_blk hr4 4
    have HR4 := hide hr4
    simp only [List.getElem_toArray, List.getElem_cons_zero, List.getElem_cons_succ] at g0 g1 g2 g3 g4 r0 r1 r2 r3 r4
    clear hW4 hb4 hr4 hbK4 hrK4 hDK hIK hAK hbK hbX y1 y2 y3 y4 y5 HS HT HS3 HI2 HD0 HB2 HR2 HL2 HRW2 B0
    go_wp2
    (try simp only [Exit.inBlock, Exit.then])
    refine bodyPost_ret (res5 rfl _ _ (w.heap.size + 1) #[.slice (some ⟨w.heap.size + 3, 0, none⟩) n c', .bool st.down, .bool false, .int .i64 (st.left : Nat), .int .i64 ((st.wr : Int) + 1)] (by rw [blk_set (blk_set (blk_set (blk_set (blk_set HR4.out _) _) _) _) _]; rfl) rfl rfl) rfl ?_
    exact ⟨w.heap.size + 3, c', by simp [stv, St.goes, hA, St.puts], ⟨HN0.out, hn1, HRR.out.set5 _ _ _ _ _ HR4.out, by rw [goes_wr]; omega, by simp only [St.goes, hA, St.puts]; simpa using hlf⟩, below_set5 HBW.out (by omega) _ _ _ _ _⟩
  · have h0 : st.left ≠ 0 := fun e => ha ⟨hA, e⟩
    have h0' : ((st.left : Int) == 0) = false := by simpa using h0
    have h1' : decide ((st.left : Int) = 0) = false := by simpa using h0
    clear ha
    obtain ⟨c', W1, hr, hrow, hbel, hbb, hbr⟩ := secs_2 w (.cells #[.slice (some ⟨q, 0, none⟩) n cap, .bool st.down, .bool true, .int .i64 ((st.left : Int) - 1), .int .i64 ((st.wr : Int) + 1)] 27) (.cells #[.slice none 0 0, .bool false, .bool false, .int .i64 0, .int .i64 0] 27) q cap n _ _ _ HR.out.row HR.out.n0 HR.out.n1
    have g0 := cell_blk (j := 0) hbb rfl
    have f0 := froz_blk hbb 0
    have HB1 := hide hbel
    have HRW := hide hrow
    have HBB := hide hbb
    have HBR := hide hbr
    clear hrow hbel hbb hbr
    go_wp2_with (at_builtin; refine Go.Lib.wpList_append_run _ rfl _ _ _ _ rfl _ _ rfl rfl _ _ hr ?_)
    generalize hW2 : W1.setCell ⟨w.heap.size, 0, none⟩ (.slice (some ⟨w.heap.size + 3, 0, none⟩) n c') = W2
    have hb2 : W2.heap[w.heap.size]? = some (.cells #[.slice (some ⟨w.heap.size + 3, 0, none⟩) n c', .bool st.down, .bool true, .int .i64 ((st.left : Int) - 1), .int .i64 ((st.wr : Int) + 1)] 27 (0, 0)) := by rw [← hW2, blk_set HBB.out]; rfl
    have hr2 : W2.heap[w.heap.size + 1]? = some (.cells #[.slice none 0 0, .bool false, .bool false, .int .i64 0, .int .i64 0] 27 (0, 0)) := by rw [← hW2, blk_at (by omega)]; exact HBR.out
    have hB2 : Below w.heap.size w W2 := by rw [← hW2]; exact HB1.out.setCell (Nat.le_refl _) _
    have hrow2 : RowR W2 (w.heap.size + 3) c' n st.syn st.reads (fun i => (st.fr i).isSome) := by
      rw [← hW2]
      refine HRW.out.kept (blk_at (by omega)) ?_
      intro g cc m hg
      by_cases e : w.heap.size = g
      · subst e
        rw [HBB.out] at hg
        cases hg
      · rw [blk_at e]
        exact hg
    obtain ⟨a0, l0, c0, a1, l1, c1, z0, z1, z2, hd0, hd1⟩ := hrow2.sec hk
    have hq3 : w.heap.size + 3 < W2.heap.size := hrow2.lt
    have fz : ∀ W : World, Below W2.heap.size W2 W → ∀ j, W.frozen? ⟨w.heap.size + 3, j, none⟩ = false := by
      intro W hW j
      obtain ⟨cur, hcu, _⟩ := (hrow2.below hW).row
      exact froz_blk hcu j
    have HS : Hid (∀ W, Below W2.heap.size W2 W → (W.cell? ⟨w.heap.size, 0, none⟩ = some (.slice (some ⟨w.heap.size + 3, 0, none⟩) n c') ∧ W.cell? ⟨w.heap.size + 3, k * 3, none⟩ = some (.slice a0 l0 c0))) := hide (fun W hW => ⟨(hW.cell (p := ⟨w.heap.size, 0, none⟩) (by simp; omega)).trans (cell_blk hb2 rfl), (hW.cell (p := ⟨w.heap.size + 3, k * 3, none⟩) hq3).trans z0⟩)
    have HT : Hid (∀ W, Below W2.heap.size W2 W → (W.cell? ⟨w.heap.size + 3, k * 3 + 1, none⟩ = some (.slice a1 l1 c1) ∧ W.cell? ⟨w.heap.size + 3, k * 3 + 2, none⟩ = some (.bool (st.fr k).isSome) ∧ W.frozen? ⟨w.heap.size + 3, k * 3, none⟩ = false ∧ W.frozen? ⟨w.heap.size + 3, k * 3 + 1, none⟩ = false ∧ W.frozen? ⟨w.heap.size + 3, k * 3 + 2, none⟩ = false)) := hide (fun W hW => ⟨(hW.cell (p := ⟨w.heap.size + 3, k * 3 + 1, none⟩) hq3).trans z1, (hW.cell (p := ⟨w.heap.size + 3, k * 3 + 2, none⟩) hq3).trans z2, fz W hW _, fz W hW _, fz W hW _⟩)
    have HS3 : Hid (∀ W (v : Value), Below W2.heap.size W2 W → ((((W.setCell ⟨w.heap.size + 3, k * 3, none⟩ (.slice a0 l0 c0)).setCell ⟨w.heap.size + 3, k * 3 + 1, none⟩ v).setCell ⟨w.heap.size + 3, k * 3 + 2, none⟩ (.bool true)).cell? ⟨w.heap.size, 0, none⟩ = some (.slice (some ⟨w.heap.size + 3, 0, none⟩) n c') ∧ (((W.setCell ⟨w.heap.size + 3, k * 3, none⟩ (.slice a0 l0 c0)).setCell ⟨w.heap.size + 3, k * 3 + 1, none⟩ v).setCell ⟨w.heap.size + 3, k * 3 + 2, none⟩ (.bool true)).cell? ⟨w.heap.size + 3, k * 3, none⟩ = some (.slice a0 l0 c0))) := hide (fun W v hW => by
      have hWb := (hW.block w.heap.size (by omega)).trans hb2
      obtain ⟨cur, hcu, hsz, hcc⟩ := (hrow2.below hW).row
      have hnc := hrow2.nc
      refine ⟨cell_blk (by rw [blk_at (by omega), blk_at (by omega), blk_at (by omega)]; exact hWb) rfl, cell_blk (blk_set (blk_set (blk_set hcu _) _) _) ?_⟩
      rw [Array.getElem?_setIfInBounds_ne (by omega), Array.getElem?_setIfInBounds_ne (by omega), Array.getElem?_setIfInBounds_self_of_lt (by omega)])
    have HI2 := hide (HB.out.below hB2)
    have HD0 := hide hd0
    have HB2 := hide hb2
    have HR2 := hide hr2
    have HL2 := hide hB2
    have HRW2 := hide hrow2
    have B0 : Below W2.heap.size W2 W2.drew := Below.drew (Below.refl _ _)
    clear hW2 hb2 hr2 hB2 hrow2 hd0 hd1 z0 z1 z2 fz g0 f0 HB1 HRW HBB HBR HR HB hr hq3
    go_region_held_law (fun W => W.cell? ⟨w.heap.size, 0, none⟩ = some (.slice (some ⟨w.heap.size + 3, 0, none⟩) n c') ∧ W.cell? ⟨w.heap.size + 3, k * 3, none⟩ = some (.slice a0 l0 c0)) (first | exact HS.out _ B0 | exact HS.out _ (B0.alloc B0.size _) | exact HS.out _ hbK | exact HS3.out _ _ hbK) (first | (refine step_fresh rfl _ _ rfl _ rfl a len cp l rfl W2 HI2.out (by omega) (by first | exact B0.alloc B0.size _ | exact B0) ?_; intro aK cK wK hIK hAK hbK hbX; obtain ⟨y1, y2, y3, y4, y5⟩ := HT.out wK hbK))
    generalize hW4 : ((wK.setCell ⟨w.heap.size + 3, k * 3, none⟩ (.slice a0 l0 c0)).setCell ⟨w.heap.size + 3, k * 3 + 1, none⟩ (.slice aK len cK)).setCell ⟨w.heap.size + 3, k * 3 + 2, none⟩ (.bool true) = W4
    have hbK4 := (hbK.block w.heap.size (heap_lt HB2.out)).trans HB2.out
    have hrK4 := (hbK.block (w.heap.size + 1) (heap_lt HR2.out)).trans HR2.out
    have hb4 : W4.heap[w.heap.size]? = some (.cells #[.slice (some ⟨w.heap.size + 3, 0, none⟩) n c', .bool st.down, .bool true, .int .i64 ((st.left : Int) - 1), .int .i64 ((st.wr : Int) + 1)] 27 (0, 0)) := by rw [← hW4, blk_at (by omega), blk_at (by omega), blk_at (by omega)]; exact hbK4
    have hr4 : W4.heap[w.heap.size + 1]? = some (.cells #[.slice none 0 0, .bool false, .bool false, .int .i64 0, .int .i64 0] 27 (0, 0)) := by rw [← hW4, blk_at (by omega), blk_at (by omega), blk_at (by omega)]; exact hrK4
    have HBW : Hid (Below w.heap.size w W4) := hide (by rw [← hW4]; exact (((HL2.out.trans (hbK.mono HL2.out.size)).setCell (by simp) _).setCell (by simp) _).setCell (by simp) _)
    have hDK : Dat NoX wK (.slice aK len cK) l := ⟨aK, len, cK, rfl, hIK, hl, fun h0 b off e => ⟨(hAK h0 b off e).2.2, id⟩⟩
    have HRR : Hid (RowR W4 (w.heap.size + 3) c' n (st.goes k l).syn (st.goes k l).reads (fun i => ((st.goes k l).fr i).isSome)) := hide (by rw [← hW4]; exact ((HRW2.out.below hbK).put hk true (HD0.out.kept (K5.below hbK)) hDK).goes)
    have g0 := cell_blk (j := 0) hb4 rfl
    have g1 := cell_blk (j := 1) hb4 rfl
    have g2 := cell_blk (j := 2) hb4 rfl
    have g3 := cell_blk (j := 3) hb4 rfl
    have g4 := cell_blk (j := 4) hb4 rfl
    have r0 := cell_blk (j := 0) hr4 rfl
    have r1 := cell_blk (j := 1) hr4 rfl
    have r2 := cell_blk (j := 2) hr4 rfl
    have r3 := cell_blk (j := 3) hr4 rfl
    have r4 := cell_blk (j := 4) hr4 rfl
    have f0 := froz_blk hr4 0
    have f1 := froz_blk hr4 1
    have f2 := froz_blk hr4 2
    have f3 := froz_blk hr4 3
    have f4 := froz_blk hr4 4
    have HR4 := hide hr4
    simp only [List.getElem_toArray, List.getElem_cons_zero, List.getElem_cons_succ] at g0 g1 g2 g3 g4 r0 r1 r2 r3 r4
    clear hW4 hb4 hr4 hbK4 hrK4 hDK hIK hAK hbK hbX y1 y2 y3 y4 y5 HS HT HS3 HI2 HD0 HB2 HR2 HL2 HRW2 B0
    go_wp2
    (try simp only [Exit.inBlock, Exit.then])
    refine bodyPost_ret (res5 rfl _ _ (w.heap.size + 1) #[.slice (some ⟨w.heap.size + 3, 0, none⟩) n c', .bool st.down, .bool true, .int .i64 ((st.left : Int) - 1), .int .i64 ((st.wr : Int) + 1)] (by rw [blk_set (blk_set (blk_set (blk_set (blk_set HR4.out _) _) _) _) _]; rfl) rfl rfl) rfl ?_
    exact ⟨w.heap.size + 3, c', by simp [stv, St.goes, hA, St.puts, St.less]; omega, ⟨HN0.out, hn1, HRR.out.set5 _ _ _ _ _ HR4.out, by rw [goes_wr]; omega, by simp only [St.goes, hA, St.puts, St.less]; simp; omega⟩, below_set5 HBW.out (by omega) _ _ _ _ _⟩
/-- two blocks of States made anew -/
theorem below_2 (w : World) (o o' : Obj) : Below w.heap.size w ((w.alloc o).alloc o') := ((Below.refl w.heap.size w).alloc (Nat.le_refl _) o).alloc (by simp) o'
theorem blk_2 (w : World) (o o' : Obj) : ((w.alloc o).alloc o').heap[w.heap.size + 1]? = some o' := by
  have := heap_alloc_new (w.alloc o) o'
  rwa [show (w.alloc o).heap.size = w.heap.size + 1 by simp] at this
set_option maxRecDepth 40000 in
set_option maxHeartbeats 1000000 in
theorem rwrite_range (w : World) (q cap n : Nat) (st : St) (h : IsR w q cap n st) (i : Int) (hi : ¬ (0 ≤ i ∧ i < n)) (v : Value) :
    Calls Try.prog 30 #[stv q cap n st, .int .i64 i, v] w fun e w' => e = .returned (.tuple #[stv q cap n st, .int .i64 2]) ∧ IsR w' q cap n st ∧ Below w.heap.size w w' := by
  have HR := hide h
  have HB2 := hide (below_2 w)
  clear h
  go_enter Try.func30, Try.ntmps30
  by_cases h0 : i < 0
  · have d1 : decide (i < 0) = true := decide_eq_true h0
    clear hi h0
    go_wp2
    (try simp only [Exit.inBlock, Exit.then])
    refine bodyPost_ret (res5 rfl _ _ (w.heap.size + 1) _ (blk_2 _ _ _) rfl rfl) rfl ?_
    exact ⟨rfl, HR.out.below (HB2.out _ _), HB2.out _ _⟩
  · have d1 : decide (i < 0) = false := decide_eq_false h0
    have d2 : decide ((n : Int) ≤ i) = true := decide_eq_true (by omega)
    clear hi h0
    go_wp2
    (try simp only [Exit.inBlock, Exit.then])
    refine bodyPost_ret (res5 rfl _ _ (w.heap.size + 1) _ (blk_2 _ _ _) rfl rfl) rfl ?_
    exact ⟨rfl, HR.out.below (HB2.out _ _), HB2.out _ _⟩
set_option maxRecDepth 40000 in
set_option maxHeartbeats 1000000 in
theorem rwrite_long (w : World) (q cap n : Nat) (st : St) (h : IsR w q cap n st) (k : Nat) (hk : k < n) (a : Option Addr) (len cp : Nat) (hl : 4096 < len) :
    Calls Try.prog 30 #[stv q cap n st, .int .i64 (k : Int), .slice a len cp] w fun e w' => e = .returned (.tuple #[stv q cap n st, .int .i64 4]) ∧ IsR w' q cap n st ∧ Below w.heap.size w w' := by
  have HR := hide h
  have HB2 := hide (below_2 w)
  have d1 : decide ((k : Int) < 0) = false := decide_eq_false (by omega)
  have d2 : decide ((n : Int) ≤ (k : Int)) = false := decide_eq_false (by omega)
  have d3 : decide ((4096 : Int) < (len : Int)) = true := decide_eq_true (by omega)
  clear h hl
  go_enter Try.func30, Try.ntmps30
  go_wp2
  (try simp only [Exit.inBlock, Exit.then])
  refine bodyPost_ret (res5 rfl _ _ (w.heap.size + 1) _ (blk_2 _ _ _) rfl rfl) rfl ?_
  exact ⟨rfl, HR.out.below (HB2.out _ _), HB2.out _ _⟩
set_option maxRecDepth 40000 in
set_option maxHeartbeats 1000000 in
theorem rwrite_dies (w : World) (q cap n : Nat) (st : St) (h : IsR w q cap n st) (k : Nat) (hk : k < n) (a : Option Addr) (len cp : Nat) (hl : len ≤ 4096) (ha : st.arm = true) (h0 : st.left = 0) :
    Calls Try.prog 30 #[stv q cap n st, .int .i64 (k : Int), .slice a len cp] w fun e w' => e = .returned (.tuple #[stv q cap n st.cuts, .int .i64 8]) ∧ IsR w' q cap n st.cuts ∧ Below w.heap.size w w' := by
  have HR : Hid (∀ o o', IsR ((w.alloc o).alloc o') q cap n st.cuts) := hide (fun o o' => ⟨h.n0, h.n1, h.row.below (below_2 w o o'), h.wr, h.left⟩)
  have HB2 := hide (below_2 w)
  have d1 : decide ((k : Int) < 0) = false := decide_eq_false (by omega)
  have d2 : decide ((n : Int) ≤ (k : Int)) = false := decide_eq_false (by omega)
  have d3 : decide ((4096 : Int) < (len : Int)) = false := decide_eq_false (by omega)
  clear h hl
  go_enter Try.func30, Try.ntmps30
  go_wp2
  (try simp only [Exit.inBlock, Exit.then])
  refine bodyPost_ret (res5 rfl _ _ (w.heap.size + 1) _ (blk_2 _ _ _) rfl rfl) rfl ?_
  exact ⟨by simp [stv, St.cuts, ha, h0], HR.out _ _, HB2.out _ _⟩
/-- the document's write -/
theorem rwrite_any (w : World) (q cap n : Nat) (st : St) (h : IsR w q cap n st) (hd : ¬ st.down = true) (i : Int) (a : Option Addr) (len cp : Nat) (l : List Nat) (hB : IsB w a len cp l) (hw : st.wr < 4611686018427387904) :
    Calls Try.prog 30 #[stv q cap n st, .int .i64 i, .slice a len cp] w fun e w' => ∃ q' c', e = .returned (.tuple #[stv q' c' n (st.write n i l).1, .int .i64 (st.write n i l).2]) ∧ IsR w' q' c' n (st.write n i l).1 ∧ Below w.heap.size w w' := by
  unfold St.write
  rw [if_neg hd]
  by_cases hi : 0 ≤ i ∧ i < n
  · rw [if_neg (fun e => e hi)]
    obtain ⟨k, rfl⟩ : ∃ k : Nat, i = k := ⟨i.toNat, by omega⟩
    rw [Int.toNat_natCast]
    by_cases hl : 4096 < l.length
    · rw [if_pos hl]
      refine (rwrite_long w q cap n st h k (by omega) a len cp (by rw [← hB.1]; exact hl)).mono ?_
      rintro e w' ⟨rfl, h1, h2⟩
      exact ⟨q, cap, rfl, h1, h2⟩
    · rw [if_neg hl]
      have hl' : len ≤ 4096 := by rw [← hB.1]; omega
      by_cases ha : st.arm = true ∧ st.left = 0
      · rw [if_pos ha]
        refine (rwrite_dies w q cap n st h k (by omega) a len cp hl' ha.1 ha.2).mono ?_
        rintro e w' ⟨rfl, h1, h2⟩
        exact ⟨q, cap, rfl, h1, h2⟩
      · rw [if_neg ha]
        exact rwrite_goes w q cap n st h k (by omega) a len cp l hB hl' hw ha
  · rw [if_pos hi]
    refine (rwrite_range w q cap n st h i hi _).mono ?_
    rintro e w' ⟨rfl, h1, h2⟩
    exact ⟨q, cap, rfl, h1, h2⟩
end Go.Proofs.Ytdageggojaghmaa
