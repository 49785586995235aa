/- find, Cell -/
import Derived.Test.YtffhkljegopjmaaDoorKD
import Derived.Laws.ResultCell
namespace Go.Proofs.YtffhkljegopjmaaDoor
open Go.RowKit
set_option maxRecDepth 40000
theorem cmpI_neg {a b : Int} : cmpI a b < 0 ↔ a < b := by unfold cmpI; split <;> (try split) <;> omega
theorem cmpI_zero {a b : Int} : cmpI a b = 0 ↔ a = b := by unfold cmpI; split <;> (try split) <;> omega
theorem ordC_neg {a b : Cl} : ordC a b < 0 ↔ a.it < b.it ∨ (a.it = b.it ∧ a.wa < b.wa) := by
  unfold ordC
  by_cases h : a.it = b.it
  · rw [if_pos (cmpI_zero.2 h), cmpI_neg]; omega
  · rw [if_neg (fun e => h (cmpI_zero.1 e)), cmpI_neg]; omega
theorem ordC_zero {a b : Cl} : ordC a b = 0 ↔ a.it = b.it ∧ a.wa = b.wa := by
  unfold ordC
  by_cases h : a.it = b.it
  · rw [if_pos (cmpI_zero.2 h), cmpI_zero]; omega
  · rw [if_neg (fun e => h (cmpI_zero.1 e)), cmpI_zero]; omega
theorem getD_mem {α : Type} {l : List α} {i : Nat} {d : α} (h : i < l.length) : l.getD i d ∈ l := by
  rw [List.getD_eq_getElem?_getD, List.getElem?_eq_getElem h]; simp
/-- cells that are right -/
structure Good (l : List Cl) : Prop where
  len : l.length ≤ 4096
  ok : ∀ i, i < l.length → okAt l i = true
theorem goodB_iff {l : List Cl} : goodB l = true ↔ Good l := by
  unfold goodB
  rw [Bool.and_eq_true, decide_eq_true_eq, List.all_eq_true]
  exact ⟨fun h => ⟨h.1, fun i hi => h.2 i (List.mem_range.2 hi)⟩, fun h => ⟨h.1, fun i hi => h.2 i (List.mem_range.1 hi)⟩⟩
theorem checkE_zero {l : List Cl} : checkE l = 0 ↔ Good l := by
  unfold checkE
  rw [← goodB_iff]
  split <;> simp_all
theorem checkE_cases (l : List Cl) : (Good l ∧ checkE l = 0) ∨ (¬ Good l ∧ checkE l = 9) := by
  by_cases h : Good l
  · exact .inl ⟨h, checkE_zero.2 h⟩
  · refine .inr ⟨h, ?_⟩
    unfold checkE
    rw [if_neg (fun e => h (goodB_iff.1 e))]
theorem Good.sorted {l : List Cl} (h : Good l) : ∀ j i, i < j → j < l.length → ordC (l.getD i Cl0) (l.getD j Cl0) < 0 := by
  intro j
  induction j with
  | zero => intro i hi; omega
  | succ j ih =>
    intro i hi hj
    have := h.ok (j + 1) hj
    unfold okAt at this
    simp only [Bool.and_eq_true, Bool.or_eq_true, decide_eq_true_eq] at this
    have h1 : ordC (l.getD j Cl0) (l.getD (j + 1) Cl0) < 0 := by
      rcases this.1 with h0 | h0
      · omega
      · simpa using h0
    rcases Nat.lt_succ_iff_lt_or_eq.1 hi with h2 | h2
    · have h3 := ih i h2 (by omega)
      rw [ordC_neg] at h1 h3 ⊢
      omega
    · rw [h2]; exact h1
theorem Good.mono {l : List Cl} (h : Good l) (t : Cl) : MonoB l t := by
  intro a b hab hb hlt
  rcases Nat.lt_or_eq_of_le hab with h1 | h1
  · have h3 := h.sorted b a h1 hb
    rw [ordC_neg] at hlt h3 ⊢
    omega
  · rw [h1]; exact hlt
theorem Good.part {l : List Cl} (h : Good l) {i : Nat} (hi : i < l.length) : placeB (l.getD i Cl0).it (l.getD i Cl0).wa = true ∧ sumB (l.getD i Cl0) = true := by
  have := h.ok i hi
  unfold okAt at this
  simp only [Bool.and_eq_true, Bool.or_eq_true, decide_eq_true_eq] at this
  exact this.2
/-- the cell of an item at a warehouse -/
def cellOf (l : List Cl) (it wa : Int) : Cl := if hasB l (noC it wa) = true then l.getD (lowN l (noC it wa)) Cl0 else noC it wa
theorem hasB_lt {l : List Cl} {t : Cl} (h : hasB l t = true) : lowN l t < l.length := by
  unfold hasB at h
  simp only [Bool.and_eq_true, decide_eq_true_eq] at h
  exact h.1
theorem lowN_le (l : List Cl) (t : Cl) : lowN l t ≤ l.length := by
  unfold lowN
  exact (List.takeWhile_sublist _).length_le
theorem blk_set {w : World} {g j : Nat} {cs : Array Value} {t : TypeId} {m : Nat × Nat} (h : w.heap[g]? = some (.cells cs t m)) (v : Value) : (w.setCell ⟨g, j, none⟩ v).heap[g]? = some (.cells (cs.setIfInBounds j v) t m) := by
  simp [World.setCell, Array.getElem?_modify, h]
theorem froz_blk {w : World} {b : Nat} {cs : Array Value} {t : TypeId} (h : w.heap[b]? = some (.cells cs t (0, 0))) (j : Nat) : w.frozen? ⟨b, j, none⟩ = false := by
  simp [World.frozen?, h]
/-- a block has a cell -/
def Blk (w : World) (g : Nat) (x : Cl) : Prop := w.heap[g]? = some (.cells #[.int .i64 x.it, .int .i64 x.wa, .int .i64 x.fr, .int .i64 x.he, .int .i64 x.ou, .int .i64 x.al] 43 (0, 0))
theorem Blk.cells {w : World} {g : Nat} {x : Cl} (h : Blk w g x) : CellAt w g 0 x :=
  ⟨cell_blk h rfl, cell_blk h rfl, cell_blk h rfl, cell_blk h rfl, cell_blk h rfl, cell_blk h rfl⟩
theorem Blk.froz {w : World} {g : Nat} {x : Cl} (h : Blk w g x) (j : Nat) : w.frozen? ⟨g, j, none⟩ = false := froz_blk h j
theorem Blk.below {n : Nat} {w w' : World} {g : Nat} {x : Cl} (h : Blk w g x) (hn : g < n) (hb : Below n w w') : Blk w' g x := (hb.block g hn).trans h
/-- a cell is stored -/
def put6 (w : World) (g : Nat) (x : Cl) : World := (((((w.setCell ⟨g, 0, none⟩ (.int .i64 x.it)).setCell ⟨g, 1, none⟩ (.int .i64 x.wa)).setCell ⟨g, 2, none⟩ (.int .i64 x.fr)).setCell ⟨g, 3, none⟩ (.int .i64 x.he)).setCell ⟨g, 4, none⟩ (.int .i64 x.ou)).setCell ⟨g, 5, none⟩ (.int .i64 x.al)
theorem put6_blk {w : World} {g : Nat} {x : Cl} (h : Blk w g x) (y : Cl) : Blk (put6 w g y) g y := by
  unfold put6 Blk
  rw [blk_set (blk_set (blk_set (blk_set (blk_set (blk_set h _) _) _) _) _) _]
  rfl
theorem put6_below {n : Nat} {a w : World} {g : Nat} (h : Below n a w) (hn : n ≤ g) (y : Cl) : Below n a (put6 w g y) :=
  (((((h.setCell hn _).setCell hn _).setCell hn _).setCell hn _).setCell hn _).setCell hn _
theorem put6_other {w : World} {g g' : Nat} {x : Cl} (h : Blk w g' x) (hn : g' ≠ g) (y : Cl) : Blk (put6 w g y) g' x := by
  unfold put6 Blk
  rw [Below.heap_setCell _ _ _ _ hn, Below.heap_setCell _ _ _ _ hn, Below.heap_setCell _ _ _ _ hn, Below.heap_setCell _ _ _ _ hn, Below.heap_setCell _ _ _ _ hn, Below.heap_setCell _ _ _ _ hn]
  exact h
theorem put6_size (w : World) (g : Nat) (y : Cl) : (put6 w g y).heap.size = w.heap.size := by simp [put6]
theorem results_cell_tmp2 {fn : Func} {p u v : Tmp} {ty : TypeId} (h : fn.results = #[.cell p ty, .tmp u, .tmp v]) (tmps : Array Value) (P : Program) (w : World) :
    (results fn tmps).run P w =
      ((asAddr (tmps.getD p undef)).run P w).andThen fun a w₁ => ((loadVar ty a).run P w₁).andThen fun x w₂ => .ok (.tuple #[x, tmps.getD u undef, tmps.getD v undef]) w₂ := by
  simp only [results, h]
  simp [Sem.run_bind, Result.andThen]
theorem results_cell1 {fn : Func} {p : Tmp} {ty : TypeId} (h : fn.results = #[.cell p ty]) (tmps : Array Value) (P : Program) (w : World) :
    (results fn tmps).run P w =
      ((asAddr (tmps.getD p undef)).run P w).andThen fun a w₁ => (loadVar ty a).run P w₁ := by
  simp only [results, h]
  simp [Sem.run_bind, Result.andThen]
/-- what a function answers whose first of three results is a cell's own block -/
theorem res6 {fn : Func} {p u v : Tmp} (h : fn.results = #[.cell p 43, .tmp u, .tmp v]) (tmps : Array Value) (W : World) (B : Nat) (x : Cl) (hb : Blk W B x) (hp : tmps.getD p undef = .pointer (some ⟨B, 0, none⟩)) :
    (results fn tmps).run Tryd.prog W = .ok (.tuple #[vc x, tmps.getD u undef, tmps.getD v undef]) W := by
  rw [results_cell_tmp2 h, hp]
  have hl := run_loadVar_row (P := Tryd.prog) W B 43 43 _ (0, 0) _ hb Tryd.underlying43 rfl (by kernel_rfl)
  simp [asAddr, Result.andThen, hl]
theorem res2c {fn : Func} {p u : Tmp} (h : fn.results = #[.cell p 43, .tmp u]) (tmps : Array Value) (W : World) (B : Nat) (x : Cl) (hb : Blk W B x) (hp : tmps.getD p undef = .pointer (some ⟨B, 0, none⟩)) :
    (results fn tmps).run Tryd.prog W = .ok (.tuple #[vc x, tmps.getD u undef]) W := by
  rw [results_cell_tmp h, hp]
  have hl := run_loadVar_row (P := Tryd.prog) W B 43 43 _ (0, 0) _ hb Tryd.underlying43 rfl (by kernel_rfl)
  simp [asAddr, Result.andThen, hl]
theorem res1c {fn : Func} {p : Tmp} (h : fn.results = #[.cell p 43]) (tmps : Array Value) (W : World) (B : Nat) (x : Cl) (hb : Blk W B x) (hp : tmps.getD p undef = .pointer (some ⟨B, 0, none⟩)) :
    (results fn tmps).run Tryd.prog W = .ok (vc x) W := by
  rw [results_cell1 h, hp]
  have hl := run_loadVar_row (P := Tryd.prog) W B 43 43 _ (0, 0) _ hb Tryd.underlying43 rfl (by kernel_rfl)
  simp [asAddr, Result.andThen, hl]
set_option maxHeartbeats 1000000 in
theorem find_any (a : Option Addr) (len cap : Nat) (l : List Cl) (it wa : Int) (w : World) (h : IsC w a len cap l) (hM : Good l) : Calls Tryd.prog 32 #[.slice a len cap, .int .i64 it, .int .i64 wa] w fun e w' => e = .returned (.tuple #[vc (cellOf l it wa), .int .i64 (lowN l (noC it wa)), .bool (hasB l (noC it wa))]) ∧ Below w.heap.size w w' := by
  have HV := hide h
  have HSE := hide (fun W (hW : IsC W a len cap l) => search_any a len cap l (noC it wa) W hW (hM.mono _) (h.1 ▸ hM.len))
  have HLT := hide (fun h' : hasB l (noC it wa) = true => h.1 ▸ hasB_lt h')
  have HCO : Hid (cellOf l it wa = if hasB l (noC it wa) = true then l.getD (lowN l (noC it wa)) Cl0 else noC it wa) := hide rfl
  have HB0 := hide (Below.refl w.heap.size w)
  have hcap := h.2.1
  have hcm : cap ≤ 9223372036854775807 := h.2.2.1
  have hcm' : (cap : Int) ≤ 9223372036854775807 := by omega
  clear h hM
  generalize hasB l (noC it wa) = hb at *
  generalize lowN l (noC it wa) = lo at *
  generalize cellOf l it wa = c at *
  go_enter Tryd.func32, Tryd.ntmps32
  go_wp2_with fail
  generalize hW0 : (w.alloc (.cells #[.int .i64 0, .int .i64 0, .int .i64 0, .int .i64 0, .int .i64 0, .int .i64 0] 43)).alloc (.cells #[.int .i64 it, .int .i64 wa, .int .i64 0, .int .i64 0, .int .i64 0, .int .i64 0] 43) = W0
  have HB1 : Hid (Below w.heap.size w W0) := hide (hW0 ▸ (HB0.out.alloc (Nat.le_refl _) _).alloc (by simp) _)
  have HSZ : Hid (W0.heap.size = w.heap.size + 2) := hide (by rw [← hW0]; simp)
  have HG0 : Hid (Blk W0 w.heap.size (noC 0 0) ∧ Blk W0 (w.heap.size + 1) (noC it wa)) := hide (by
    rw [← hW0]
    refine ⟨(Below.heap_alloc _ _ _ (by simp)).trans (heap_alloc_new _ _), ?_⟩
    have := heap_alloc_new (w.alloc (.cells #[.int .i64 0, .int .i64 0, .int .i64 0, .int .i64 0, .int .i64 0, .int .i64 0] 43)) (.cells #[.int .i64 it, .int .i64 wa, .int .i64 0, .int .i64 0, .int .i64 0, .int .i64 0] 43)
    rwa [show (w.alloc (.cells #[.int .i64 0, .int .i64 0, .int .i64 0, .int .i64 0, .int .i64 0, .int .i64 0] 43)).heap.size = w.heap.size + 1 by simp] at this)
  clear hW0
  refine (HSE.out W0 (HV.out.below' HB1.out)).mono ?_
  rintro e w' ⟨rfl, HBs⟩
  have HG0' := hide (HG0.out.1.below (by rw [HSZ.out]; omega) HBs)
  have HG1' := hide (HG0.out.2.below (by rw [HSZ.out]; omega) HBs)
  have HBW := hide (HB1.out.trans (HBs.mono (by rw [HSZ.out]; omega)))
  clear HBs HG0
  obtain ⟨c1, c2, c3, c4, c5, c6⟩ := HG0'.out.cells
  obtain ⟨d1, d2, d3, d4, d5, d6⟩ := HG1'.out.cells
  have f1 := HG0'.out.froz
  have f2 := HG1'.out.froz
  simp only [noC, Nat.zero_add] at c1 c2 c3 c4 c5 c6 d1 d2 d3 d4 d5 d6
  cases hb
  · simp only [Bool.false_eq_true, if_false] at HCO
    go_wp2
    refine bodyPost_ret (res6 rfl _ (put6 w' w.heap.size (noC it wa)) w.heap.size (noC it wa) (put6_blk HG0'.out _) rfl) rfl ?_
    exact ⟨by rw [HCO.out]; rfl, put6_below HBW.out (Nat.le_refl _) (noC it wa)⟩
  · simp only [if_true] at HCO
    have hlo : lo < len := HLT.out rfl
    have hloI : (lo : Int) < len := by omega
    obtain ⟨bs, off, rfl, hbs, y0⟩ := HV.out.2.2.2.2.1 lo hlo
    rw [← HCO.out] at y0
    obtain ⟨y1, y2, y3, y4, y5, y6⟩ := c
    obtain ⟨z1, z2, z3, z4, z5, z6⟩ := y0.below hbs HBW.out
    rename_i a1 a0
    have HA1 := hide a1
    clear a1
    go_wp2
    refine HA1.out _ _ ?_
    clear HA1
    refine wp_seq_k (fun K hK => ?_)
    have HK := hide hK
    clear hK c1 c2 c3 c4 c5 c6 f1
    go_wp2
    generalize hW2 : (((((w'.setCell ⟨w.heap.size + 1, 0, none⟩ (.int .i64 y1)).setCell ⟨w.heap.size + 1, 1, none⟩ (.int .i64 y2)).setCell ⟨w.heap.size + 1, 2, none⟩ (.int .i64 y3)).setCell ⟨w.heap.size + 1, 3, none⟩ (.int .i64 y4)).setCell ⟨w.heap.size + 1, 4, none⟩ (.int .i64 y5)).setCell ⟨w.heap.size + 1, 5, none⟩ (.int .i64 y6) = W2
    have hW2' : W2 = put6 w' (w.heap.size + 1) ⟨y1, y2, y3, y4, y5, y6⟩ := hW2.symm
    have HX0 : Hid (Blk W2 w.heap.size (noC 0 0)) := hide (hW2' ▸ put6_other HG0'.out (by omega) _)
    have HX1 : Hid (Blk W2 (w.heap.size + 1) ⟨y1, y2, y3, y4, y5, y6⟩) := hide (hW2' ▸ put6_blk HG1'.out _)
    have HXW : Hid (Below w.heap.size w W2) := hide (hW2' ▸ put6_below HBW.out (by omega) _)
    clear hW2 hW2' HG0' HG1' HBW d1 d2 d3 d4 d5 d6 f2 z1 z2 z3 z4 z5 z6
    obtain ⟨c1, c2, c3, c4, c5, c6⟩ := HX0.out.cells
    obtain ⟨d1, d2, d3, d4, d5, d6⟩ := HX1.out.cells
    have f1 := HX0.out.froz
    have f2 := HX1.out.froz
    simp only [noC, Nat.zero_add] at c1 c2 c3 c4 c5 c6 d1 d2 d3 d4 d5 d6
    refine HK.out _ _ ?_
    go_wp2
    refine bodyPost_ret (res6 rfl _ (put6 W2 w.heap.size ⟨y1, y2, y3, y4, y5, y6⟩) w.heap.size ⟨y1, y2, y3, y4, y5, y6⟩ (put6_blk HX0.out _) rfl) rfl ?_
    exact ⟨rfl, put6_below HXW.out (Nat.le_refl _) ⟨y1, y2, y3, y4, y5, y6⟩⟩
end Go.Proofs.YtffhkljegopjmaaDoor
