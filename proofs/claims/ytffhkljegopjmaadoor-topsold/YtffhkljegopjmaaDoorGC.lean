/- the pay behind a posting; beyond -/
import Derived.Test.YtffhkljegopjmaaDoorGB
import Derived.Laws.ResultCell
namespace Go.Proofs.YtffhkljegopjmaaDoor.Lg
open Go.RowKit
set_option maxRecDepth 40000
theorem blk_set {w : World} {g j : Nat} {cs : Array Value} {t : TypeId} {m : Nat × Nat} (h : w.heap[g]? = some (.cells cs t m)) (v : Value) : (w.setCell ⟨g, j, none⟩ v).heap[g]? = some (.cells (cs.setIfInBounds j v) t m) := by
  simp [World.setCell, Array.getElem?_modify, h]
theorem froz_blk {w : World} {b : Nat} {cs : Array Value} {t : TypeId} (h : w.heap[b]? = some (.cells cs t (0, 0))) (j : Nat) : w.frozen? ⟨b, j, none⟩ = false := by
  simp [World.frozen?, h]
/-- a block has a pay -/
def BlkP (w : World) (g : Nat) (x : Py) : Prop := w.heap[g]? = some (.cells #[.int .i64 x.o, .int .i64 x.op, .int .i64 x.ca, .int .i64 x.re] 47 (0, 0))
def BlkG (w : World) (g : Nat) (x : Pg) : Prop := w.heap[g]? = some (.cells #[.int .i64 x.o, .int .u8 x.fr, .int .u8 x.to, .int .i64 x.am] 92 (0, 0))
theorem BlkP.cells {w : World} {g : Nat} {x : Py} (h : BlkP w g x) : PayAt w g 0 x := ⟨cell_blk h rfl, cell_blk h rfl, cell_blk h rfl, cell_blk h rfl⟩
theorem BlkG.cells {w : World} {g : Nat} {x : Pg} (h : BlkG w g x) : PostAt w g 0 x := ⟨cell_blk h rfl, cell_blk h rfl, cell_blk h rfl, cell_blk h rfl⟩
theorem BlkP.froz {w : World} {g : Nat} {x : Py} (h : BlkP w g x) (j : Nat) : w.frozen? ⟨g, j, none⟩ = false := froz_blk h j
theorem BlkP.below {n : Nat} {w w' : World} {g : Nat} {x : Py} (h : BlkP w g x) (hn : g < n) (hb : Below n w w') : BlkP w' g x := (hb.block g hn).trans h
theorem BlkG.below {n : Nat} {w w' : World} {g : Nat} {x : Pg} (h : BlkG w g x) (hn : g < n) (hb : Below n w w') : BlkG w' g x := (hb.block g hn).trans h
theorem BlkP.other {w : World} {g g' j : Nat} {x : Py} (h : BlkP w g x) (hn : g ≠ g') (v : Value) : BlkP (w.setCell ⟨g', j, none⟩ v) g x := (Below.heap_setCell _ _ _ _ hn).trans h
theorem BlkG.other {w : World} {g g' j : Nat} {x : Pg} (h : BlkG w g x) (hn : g ≠ g') (v : Value) : BlkG (w.setCell ⟨g', j, none⟩ v) g x := (Below.heap_setCell _ _ _ _ hn).trans h
/-- a pay is stored whole -/
def put4 (w : World) (g : Nat) (x : Py) : World := (((w.setCell ⟨g, 0, none⟩ (.int .i64 x.o)).setCell ⟨g, 1, none⟩ (.int .i64 x.op)).setCell ⟨g, 2, none⟩ (.int .i64 x.ca)).setCell ⟨g, 3, none⟩ (.int .i64 x.re)
theorem put4_blk {w : World} {g : Nat} {x : Py} (h : BlkP w g x) (y : Py) : BlkP (put4 w g y) g y := by
  unfold put4 BlkP
  rw [blk_set (blk_set (blk_set (blk_set h _) _) _) _]
  rfl
theorem put4_below {n : Nat} {a w : World} {g : Nat} (h : Below n a w) (hn : n ≤ g) (y : Py) : Below n a (put4 w g y) :=
  (((h.setCell hn _).setCell hn _).setCell hn _).setCell hn _
theorem results_cell1 {fn : Func} {p : Tmp} {ty : TypeId} (h : fn.results = #[.cell p ty]) (tmps : Array Value) (P : Program) (w : World) :
    (results fn tmps).run P w =
      ((asAddr (tmps.getD p undef)).run P w).andThen fun a w₁ => (loadVar ty a).run P w₁ := by
  simp only [results, h]
  simp [Sem.run_bind, Result.andThen]
theorem res1p {fn : Func} {p : Tmp} (h : fn.results = #[.cell p 47]) (tmps : Array Value) (W : World) (B : Nat) (x : Py) (hb : BlkP W B x) (hp : tmps.getD p undef = .pointer (some ⟨B, 0, none⟩)) :
    (results fn tmps).run Tryd.prog W = .ok (vp x) W := by
  rw [results_cell1 h, hp]
  have hl := run_loadVar_row (P := Tryd.prog) W B 47 47 _ (0, 0) _ hb Tryd.underlying47 rfl (by kernel_rfl)
  simp [asAddr, Result.andThen, hl]
/-- the pay behind a posting -/
def behR (p : Py) (x : Pg) : Py := ⟨x.o, p.op + (if x.to = 2 then x.am else 0) - (if x.fr = 2 then x.am else 0), p.ca + (if x.to = 3 then x.am else 0), p.re + (if x.fr = 3 then x.am else 0)⟩
def SmallN (n : Int) : Prop := -2305843009213693952 ≤ n ∧ n ≤ 2305843009213693952
def SmallP (p : Py) : Prop := SmallN p.op ∧ SmallN p.ca ∧ SmallN p.re
set_option maxHeartbeats 4000000 in
theorem behind_any (p : Py) (x : Pg) (w : World) (hp : SmallP p) (hx : SmallN x.am) : Calls Tryd.prog 47 #[vp p, vg x] w fun e w' => e = .returned (vp (behR p x)) ∧ Below w.heap.size w w' := by
  obtain ⟨p1, p2, p3, p4⟩ := p
  obtain ⟨x1, x2, x3, x4⟩ := x
  unfold SmallP SmallN at hp
  unfold SmallN at hx
  dsimp only at hp hx
  have b1 : IntKind.i64.wrap (p2 + x4) = p2 + x4 := wrap64 (by omega) (by omega)
  have b2 : IntKind.i64.wrap (p3 + x4) = p3 + x4 := wrap64 (by omega) (by omega)
  have b3 : IntKind.i64.wrap (p4 + x4) = p4 + x4 := wrap64 (by omega) (by omega)
  have b4 : IntKind.i64.wrap (p2 - x4) = p2 - x4 := wrap64 (by omega) (by omega)
  have b5 : IntKind.i64.wrap (p2 + x4 - x4) = p2 := by rw [wrap64 (by omega) (by omega)]; omega
  have b6 : IntKind.i64.wrap p2 = p2 := wrap64 (by omega) (by omega)
  have HB0 := hide (Below.refl w.heap.size w)
  clear hp hx
  go_enter Tryd.func47, Tryd.ntmps47
  refine wp_seq_k (fun K0 hK0 => ?_)
  have HK0 := hide hK0
  clear hK0
  go_wp2
  generalize hW0 : ((w.alloc (.cells #[.int .i64 p1, .int .i64 p2, .int .i64 p3, .int .i64 p4] 47)).alloc (.cells #[.int .i64 x1, .int .u8 x2, .int .u8 x3, .int .i64 x4] 92)).alloc (.cells #[.int .i64 0, .int .i64 0, .int .i64 0, .int .i64 0] 47) = W0
  have HBa : Hid (Below w.heap.size w W0) := hide (hW0 ▸ ((HB0.out.alloc (Nat.le_refl _) _).alloc (by simp) _).alloc (by simp; omega) _)
  have HPa : Hid (BlkP W0 w.heap.size ⟨p1, p2, p3, p4⟩) := hide (by
    rw [← hW0]
    exact (Below.heap_alloc _ _ _ (by simp; omega)).trans ((Below.heap_alloc _ _ _ (by simp)).trans (heap_alloc_new _ _)))
  have HGa : Hid (BlkG W0 (w.heap.size + 1) ⟨x1, x2, x3, x4⟩) := hide (by
    rw [← hW0]
    refine (Below.heap_alloc _ _ _ (by simp)).trans ?_
    have := heap_alloc_new (w.alloc (.cells #[.int .i64 p1, .int .i64 p2, .int .i64 p3, .int .i64 p4] 47)) (.cells #[.int .i64 x1, .int .u8 x2, .int .u8 x3, .int .i64 x4] 92)
    rwa [show (w.alloc (.cells #[.int .i64 p1, .int .i64 p2, .int .i64 p3, .int .i64 p4] 47)).heap.size = w.heap.size + 1 by simp] at this)
  have HZa : Hid (BlkP W0 (w.heap.size + 2) Py0) := hide (by
    rw [← hW0]
    have := heap_alloc_new ((w.alloc (.cells #[.int .i64 p1, .int .i64 p2, .int .i64 p3, .int .i64 p4] 47)).alloc (.cells #[.int .i64 x1, .int .u8 x2, .int .u8 x3, .int .i64 x4] 92)) (.cells #[.int .i64 0, .int .i64 0, .int .i64 0, .int .i64 0] 47)
    rwa [show ((w.alloc (.cells #[.int .i64 p1, .int .i64 p2, .int .i64 p3, .int .i64 p4] 47)).alloc (.cells #[.int .i64 x1, .int .u8 x2, .int .u8 x3, .int .i64 x4] 92)).heap.size = w.heap.size + 2 by simp] at this)
  clear hW0 HB0
  obtain ⟨c1, c2, c3, c4⟩ := HPa.out.cells
  obtain ⟨d1, d2, d3, d4⟩ := HGa.out.cells
  have f1 := HPa.out.froz
  simp only [Nat.zero_add] at c1 c2 c3 c4 d1 d2 d3 d4
  refine HK0.out _ _ ?_
  clear HK0
  refine wp_seq_k (fun K1 hK1 => ?_)
  have HK1 := hide hK1
  clear hK1
  go_wp2
  generalize hW1 : W0.setCell ⟨w.heap.size, 0, none⟩ (.int .i64 (x1)) = W1
  have HP1 : Hid (BlkP W1 w.heap.size ⟨x1, p2, p3, p4⟩) := hide (hW1 ▸ (blk_set HPa.out _).trans rfl)
  have HG1 : Hid (BlkG W1 (w.heap.size + 1) ⟨x1, x2, x3, x4⟩) := hide (hW1 ▸ HGa.out.other (by omega) _)
  have HZ1 : Hid (BlkP W1 (w.heap.size + 2) Py0) := hide (hW1 ▸ HZa.out.other (by omega) _)
  have HB1 : Hid (Below w.heap.size w W1) := hide (hW1 ▸ HBa.out.setCell (Nat.le_refl _) _)
  clear hW1 HPa HGa HZa HBa c1 c2 c3 c4 d1 d2 d3 d4 f1
  obtain ⟨c1, c2, c3, c4⟩ := HP1.out.cells
  obtain ⟨d1, d2, d3, d4⟩ := HG1.out.cells
  have f1 := HP1.out.froz
  simp only [Nat.zero_add] at c1 c2 c3 c4 d1 d2 d3 d4
  refine HK1.out _ _ ?_
  clear HK1
  refine wp_seq_k (fun K2 hK2 => ?_)
  have HK2 := hide hK2
  clear hK2
  by_cases t2 : x3 = 2
  · subst t2
    go_wp2
    generalize hW2 : W1.setCell ⟨w.heap.size, 1, none⟩ (.int .i64 (p2 + x4)) = W2
    have HP2 : Hid (BlkP W2 w.heap.size ⟨x1, p2 + x4, p3, p4⟩) := hide (hW2 ▸ (blk_set HP1.out _).trans rfl)
    have HG2 : Hid (BlkG W2 (w.heap.size + 1) ⟨x1, x2, 2, x4⟩) := hide (hW2 ▸ HG1.out.other (by omega) _)
    have HZ2 : Hid (BlkP W2 (w.heap.size + 2) Py0) := hide (hW2 ▸ HZ1.out.other (by omega) _)
    have HB2 : Hid (Below w.heap.size w W2) := hide (hW2 ▸ HB1.out.setCell (Nat.le_refl _) _)
    clear hW2 HP1 HG1 HZ1 HB1 c1 c2 c3 c4 d1 d2 d3 d4 f1
    obtain ⟨c1, c2, c3, c4⟩ := HP2.out.cells
    obtain ⟨d1, d2, d3, d4⟩ := HG2.out.cells
    have f1 := HP2.out.froz
    simp only [Nat.zero_add] at c1 c2 c3 c4 d1 d2 d3 d4
    refine HK2.out _ _ ?_
    clear HK2
    refine wp_seq_k (fun K3 hK3 => ?_)
    have HK3 := hide hK3
    clear hK3
    by_cases h2 : x2 = 2
    · subst h2
      go_wp2
      generalize hW9 : W2.setCell ⟨w.heap.size, 1, none⟩ (.int .i64 (p2)) = W9
      have HP9 : Hid (BlkP W9 w.heap.size ⟨x1, p2, p3, p4⟩) := hide (hW9 ▸ (blk_set HP2.out _).trans rfl)
      have HG9 : Hid (BlkG W9 (w.heap.size + 1) ⟨x1, 2, 2, x4⟩) := hide (hW9 ▸ HG2.out.other (by omega) _)
      have HZ9 : Hid (BlkP W9 (w.heap.size + 2) Py0) := hide (hW9 ▸ HZ2.out.other (by omega) _)
      have HB9 : Hid (Below w.heap.size w W9) := hide (hW9 ▸ HB2.out.setCell (Nat.le_refl _) _)
      clear hW9 HP2 HG2 HZ2 HB2 c1 c2 c3 c4 d1 d2 d3 d4 f1
      obtain ⟨d1, d2, d3, d4⟩ := HZ9.out.cells
      obtain ⟨c1, c2, c3, c4⟩ := HP9.out.cells
      have f2 := HZ9.out.froz
      simp only [Py0, Nat.zero_add] at c1 c2 c3 c4 d1 d2 d3 d4
      refine HK3.out _ _ ?_
      clear HK3
      go_wp2
      refine bodyPost_ret (res1p rfl _ (put4 W9 (w.heap.size + 2) ⟨x1, p2, p3, p4⟩) (w.heap.size + 2) ⟨x1, p2, p3, p4⟩ (put4_blk HZ9.out _) rfl) rfl ?_
      exact ⟨by simp [behR], put4_below HB9.out (by omega) ⟨x1, p2, p3, p4⟩⟩
    by_cases h3 : x2 = 3
    · subst h3
      go_wp2
      generalize hW9 : W2.setCell ⟨w.heap.size, 3, none⟩ (.int .i64 (p4 + x4)) = W9
      have HP9 : Hid (BlkP W9 w.heap.size ⟨x1, p2 + x4, p3, p4 + x4⟩) := hide (hW9 ▸ (blk_set HP2.out _).trans rfl)
      have HG9 : Hid (BlkG W9 (w.heap.size + 1) ⟨x1, 3, 2, x4⟩) := hide (hW9 ▸ HG2.out.other (by omega) _)
      have HZ9 : Hid (BlkP W9 (w.heap.size + 2) Py0) := hide (hW9 ▸ HZ2.out.other (by omega) _)
      have HB9 : Hid (Below w.heap.size w W9) := hide (hW9 ▸ HB2.out.setCell (Nat.le_refl _) _)
      clear hW9 HP2 HG2 HZ2 HB2 c1 c2 c3 c4 d1 d2 d3 d4 f1
      obtain ⟨d1, d2, d3, d4⟩ := HZ9.out.cells
      obtain ⟨c1, c2, c3, c4⟩ := HP9.out.cells
      have f2 := HZ9.out.froz
      simp only [Py0, Nat.zero_add] at c1 c2 c3 c4 d1 d2 d3 d4
      refine HK3.out _ _ ?_
      clear HK3
      go_wp2
      refine bodyPost_ret (res1p rfl _ (put4 W9 (w.heap.size + 2) ⟨x1, p2 + x4, p3, p4 + x4⟩) (w.heap.size + 2) ⟨x1, p2 + x4, p3, p4 + x4⟩ (put4_blk HZ9.out _) rfl) rfl ?_
      exact ⟨by simp [behR], put4_below HB9.out (by omega) ⟨x1, p2 + x4, p3, p4 + x4⟩⟩
    go_wp2
    clear c1 c2 c3 c4 d1 d2 d3 d4 f1
    obtain ⟨d1, d2, d3, d4⟩ := HZ2.out.cells
    obtain ⟨c1, c2, c3, c4⟩ := HP2.out.cells
    have f2 := HZ2.out.froz
    simp only [Py0, Nat.zero_add] at c1 c2 c3 c4 d1 d2 d3 d4
    refine HK3.out _ _ ?_
    clear HK3
    go_wp2
    refine bodyPost_ret (res1p rfl _ (put4 W2 (w.heap.size + 2) ⟨x1, p2 + x4, p3, p4⟩) (w.heap.size + 2) ⟨x1, p2 + x4, p3, p4⟩ (put4_blk HZ2.out _) rfl) rfl ?_
    exact ⟨by simp [behR, h2, h3], put4_below HB2.out (by omega) ⟨x1, p2 + x4, p3, p4⟩⟩
  by_cases t3 : x3 = 3
  · subst t3
    go_wp2
    generalize hW2 : W1.setCell ⟨w.heap.size, 2, none⟩ (.int .i64 (p3 + x4)) = W2
    have HP2 : Hid (BlkP W2 w.heap.size ⟨x1, p2, p3 + x4, p4⟩) := hide (hW2 ▸ (blk_set HP1.out _).trans rfl)
    have HG2 : Hid (BlkG W2 (w.heap.size + 1) ⟨x1, x2, 3, x4⟩) := hide (hW2 ▸ HG1.out.other (by omega) _)
    have HZ2 : Hid (BlkP W2 (w.heap.size + 2) Py0) := hide (hW2 ▸ HZ1.out.other (by omega) _)
    have HB2 : Hid (Below w.heap.size w W2) := hide (hW2 ▸ HB1.out.setCell (Nat.le_refl _) _)
    clear hW2 HP1 HG1 HZ1 HB1 c1 c2 c3 c4 d1 d2 d3 d4 f1
    obtain ⟨c1, c2, c3, c4⟩ := HP2.out.cells
    obtain ⟨d1, d2, d3, d4⟩ := HG2.out.cells
    have f1 := HP2.out.froz
    simp only [Nat.zero_add] at c1 c2 c3 c4 d1 d2 d3 d4
    refine HK2.out _ _ ?_
    clear HK2
    refine wp_seq_k (fun K3 hK3 => ?_)
    have HK3 := hide hK3
    clear hK3
    by_cases h2 : x2 = 2
    · subst h2
      go_wp2
      generalize hW9 : W2.setCell ⟨w.heap.size, 1, none⟩ (.int .i64 (p2 - x4)) = W9
      have HP9 : Hid (BlkP W9 w.heap.size ⟨x1, p2 - x4, p3 + x4, p4⟩) := hide (hW9 ▸ (blk_set HP2.out _).trans rfl)
      have HG9 : Hid (BlkG W9 (w.heap.size + 1) ⟨x1, 2, 3, x4⟩) := hide (hW9 ▸ HG2.out.other (by omega) _)
      have HZ9 : Hid (BlkP W9 (w.heap.size + 2) Py0) := hide (hW9 ▸ HZ2.out.other (by omega) _)
      have HB9 : Hid (Below w.heap.size w W9) := hide (hW9 ▸ HB2.out.setCell (Nat.le_refl _) _)
      clear hW9 HP2 HG2 HZ2 HB2 c1 c2 c3 c4 d1 d2 d3 d4 f1
      obtain ⟨d1, d2, d3, d4⟩ := HZ9.out.cells
      obtain ⟨c1, c2, c3, c4⟩ := HP9.out.cells
      have f2 := HZ9.out.froz
      simp only [Py0, Nat.zero_add] at c1 c2 c3 c4 d1 d2 d3 d4
      refine HK3.out _ _ ?_
      clear HK3
      go_wp2
      refine bodyPost_ret (res1p rfl _ (put4 W9 (w.heap.size + 2) ⟨x1, p2 - x4, p3 + x4, p4⟩) (w.heap.size + 2) ⟨x1, p2 - x4, p3 + x4, p4⟩ (put4_blk HZ9.out _) rfl) rfl ?_
      exact ⟨by simp [behR], put4_below HB9.out (by omega) ⟨x1, p2 - x4, p3 + x4, p4⟩⟩
    by_cases h3 : x2 = 3
    · subst h3
      go_wp2
      generalize hW9 : W2.setCell ⟨w.heap.size, 3, none⟩ (.int .i64 (p4 + x4)) = W9
      have HP9 : Hid (BlkP W9 w.heap.size ⟨x1, p2, p3 + x4, p4 + x4⟩) := hide (hW9 ▸ (blk_set HP2.out _).trans rfl)
      have HG9 : Hid (BlkG W9 (w.heap.size + 1) ⟨x1, 3, 3, x4⟩) := hide (hW9 ▸ HG2.out.other (by omega) _)
      have HZ9 : Hid (BlkP W9 (w.heap.size + 2) Py0) := hide (hW9 ▸ HZ2.out.other (by omega) _)
      have HB9 : Hid (Below w.heap.size w W9) := hide (hW9 ▸ HB2.out.setCell (Nat.le_refl _) _)
      clear hW9 HP2 HG2 HZ2 HB2 c1 c2 c3 c4 d1 d2 d3 d4 f1
      obtain ⟨d1, d2, d3, d4⟩ := HZ9.out.cells
      obtain ⟨c1, c2, c3, c4⟩ := HP9.out.cells
      have f2 := HZ9.out.froz
      simp only [Py0, Nat.zero_add] at c1 c2 c3 c4 d1 d2 d3 d4
      refine HK3.out _ _ ?_
      clear HK3
      go_wp2
      refine bodyPost_ret (res1p rfl _ (put4 W9 (w.heap.size + 2) ⟨x1, p2, p3 + x4, p4 + x4⟩) (w.heap.size + 2) ⟨x1, p2, p3 + x4, p4 + x4⟩ (put4_blk HZ9.out _) rfl) rfl ?_
      exact ⟨by simp [behR], put4_below HB9.out (by omega) ⟨x1, p2, p3 + x4, p4 + x4⟩⟩
    go_wp2
    clear c1 c2 c3 c4 d1 d2 d3 d4 f1
    obtain ⟨d1, d2, d3, d4⟩ := HZ2.out.cells
    obtain ⟨c1, c2, c3, c4⟩ := HP2.out.cells
    have f2 := HZ2.out.froz
    simp only [Py0, Nat.zero_add] at c1 c2 c3 c4 d1 d2 d3 d4
    refine HK3.out _ _ ?_
    clear HK3
    go_wp2
    refine bodyPost_ret (res1p rfl _ (put4 W2 (w.heap.size + 2) ⟨x1, p2, p3 + x4, p4⟩) (w.heap.size + 2) ⟨x1, p2, p3 + x4, p4⟩ (put4_blk HZ2.out _) rfl) rfl ?_
    exact ⟨by simp [behR, h2, h3], put4_below HB2.out (by omega) ⟨x1, p2, p3 + x4, p4⟩⟩
  go_wp2
  refine HK2.out _ _ ?_
  clear HK2
  refine wp_seq_k (fun K3 hK3 => ?_)
  have HK3 := hide hK3
  clear hK3
  by_cases h2 : x2 = 2
  · subst h2
    go_wp2
    generalize hW9 : W1.setCell ⟨w.heap.size, 1, none⟩ (.int .i64 (p2 - x4)) = W9
    have HP9 : Hid (BlkP W9 w.heap.size ⟨x1, p2 - x4, p3, p4⟩) := hide (hW9 ▸ (blk_set HP1.out _).trans rfl)
    have HG9 : Hid (BlkG W9 (w.heap.size + 1) ⟨x1, 2, x3, x4⟩) := hide (hW9 ▸ HG1.out.other (by omega) _)
    have HZ9 : Hid (BlkP W9 (w.heap.size + 2) Py0) := hide (hW9 ▸ HZ1.out.other (by omega) _)
    have HB9 : Hid (Below w.heap.size w W9) := hide (hW9 ▸ HB1.out.setCell (Nat.le_refl _) _)
    clear hW9 HP1 HG1 HZ1 HB1 c1 c2 c3 c4 d1 d2 d3 d4 f1
    obtain ⟨d1, d2, d3, d4⟩ := HZ9.out.cells
    obtain ⟨c1, c2, c3, c4⟩ := HP9.out.cells
    have f2 := HZ9.out.froz
    simp only [Py0, Nat.zero_add] at c1 c2 c3 c4 d1 d2 d3 d4
    refine HK3.out _ _ ?_
    clear HK3
    go_wp2
    refine bodyPost_ret (res1p rfl _ (put4 W9 (w.heap.size + 2) ⟨x1, p2 - x4, p3, p4⟩) (w.heap.size + 2) ⟨x1, p2 - x4, p3, p4⟩ (put4_blk HZ9.out _) rfl) rfl ?_
    exact ⟨by simp [behR, t2, t3], put4_below HB9.out (by omega) ⟨x1, p2 - x4, p3, p4⟩⟩
  by_cases h3 : x2 = 3
  · subst h3
    go_wp2
    generalize hW9 : W1.setCell ⟨w.heap.size, 3, none⟩ (.int .i64 (p4 + x4)) = W9
    have HP9 : Hid (BlkP W9 w.heap.size ⟨x1, p2, p3, p4 + x4⟩) := hide (hW9 ▸ (blk_set HP1.out _).trans rfl)
    have HG9 : Hid (BlkG W9 (w.heap.size + 1) ⟨x1, 3, x3, x4⟩) := hide (hW9 ▸ HG1.out.other (by omega) _)
    have HZ9 : Hid (BlkP W9 (w.heap.size + 2) Py0) := hide (hW9 ▸ HZ1.out.other (by omega) _)
    have HB9 : Hid (Below w.heap.size w W9) := hide (hW9 ▸ HB1.out.setCell (Nat.le_refl _) _)
    clear hW9 HP1 HG1 HZ1 HB1 c1 c2 c3 c4 d1 d2 d3 d4 f1
    obtain ⟨d1, d2, d3, d4⟩ := HZ9.out.cells
    obtain ⟨c1, c2, c3, c4⟩ := HP9.out.cells
    have f2 := HZ9.out.froz
    simp only [Py0, Nat.zero_add] at c1 c2 c3 c4 d1 d2 d3 d4
    refine HK3.out _ _ ?_
    clear HK3
    go_wp2
    refine bodyPost_ret (res1p rfl _ (put4 W9 (w.heap.size + 2) ⟨x1, p2, p3, p4 + x4⟩) (w.heap.size + 2) ⟨x1, p2, p3, p4 + x4⟩ (put4_blk HZ9.out _) rfl) rfl ?_
    exact ⟨by simp [behR, t2, t3], put4_below HB9.out (by omega) ⟨x1, p2, p3, p4 + x4⟩⟩
  go_wp2
  clear c1 c2 c3 c4 d1 d2 d3 d4 f1
  obtain ⟨d1, d2, d3, d4⟩ := HZ1.out.cells
  obtain ⟨c1, c2, c3, c4⟩ := HP1.out.cells
  have f2 := HZ1.out.froz
  simp only [Py0, Nat.zero_add] at c1 c2 c3 c4 d1 d2 d3 d4
  refine HK3.out _ _ ?_
  clear HK3
  go_wp2
  refine bodyPost_ret (res1p rfl _ (put4 W1 (w.heap.size + 2) ⟨x1, p2, p3, p4⟩) (w.heap.size + 2) ⟨x1, p2, p3, p4⟩ (put4_blk HZ1.out _) rfl) rfl ?_
  exact ⟨by simp [behR, t2, t3, h2, h3], put4_below HB1.out (by omega) ⟨x1, p2, p3, p4⟩⟩
def beyB (x : Py) : Bool := decide (1152921504606846976 < x.op ∨ 1152921504606846976 < x.ca ∨ 1152921504606846976 < x.re ∨ x.op < -1152921504606846976)
theorem beyond_any (x : Py) (w : World) : Calls Tryd.prog 48 #[vp x] w fun e w' => e = .returned (.bool (beyB x)) ∧ Below w.heap.size w w' := by
  have HT : Hid (beyB x = decide (1152921504606846976 < x.op ∨ 1152921504606846976 < x.ca ∨ 1152921504606846976 < x.re ∨ x.op < -1152921504606846976)) := hide rfl
  generalize beyB x = r at *
  obtain ⟨x1, x2, x3, x4⟩ := x
  dsimp only at HT
  have HB := hide ((Below.refl _ w).alloc (Nat.le_refl _) (.cells #[.int .i64 x1, .int .i64 x2, .int .i64 x3, .int .i64 x4] 47))
  go_enter Tryd.func48, Tryd.ntmps48
  go_wp2
  all_goals go_ret
  all_goals exact ⟨ret_bool (by rw [HT.out, Bool.eq_iff_iff]; simp; omega), HB.out⟩
end Go.Proofs.YtffhkljegopjmaaDoor.Lg
