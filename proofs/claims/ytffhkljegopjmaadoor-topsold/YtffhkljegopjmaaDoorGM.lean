/- books that are about to be changed -/
import Derived.Test.YtffhkljegopjmaaDoorGL
import Derived.Laws.ResultCell
namespace Go.Proofs.YtffhkljegopjmaaDoor.Lg
open Go.RowKit
set_option maxRecDepth 40000
/-- a change: the books' two slices, the order's pay, from, to -/
structure Cg where
  s1 : Value
  s2 : Value
  p : Py
  fr : Int
  to : Int
abbrev cgc (c : Cg) : Array Value := #[c.s1, c.s2, .int .i64 c.p.o, .int .i64 c.p.op, .int .i64 c.p.ca, .int .i64 c.p.re, .int .i64 c.fr, .int .i64 c.to]
abbrev vcg (c : Cg) : Value := .agg (cgc c)
def Cg0 : Cg := ⟨.slice none 0 0, .slice none 0 0, Py0, 0, 0⟩
def BlkC (w : World) (g : Nat) (c : Cg) : Prop := w.heap[g]? = some (.cells (cgc c) 66 (0, 0))
def BlkB (w : World) (g : Nat) (v1 v2 : Value) : Prop := w.heap[g]? = some (.cells #[v1, v2] 35 (0, 0))
theorem BlkC.below {n : Nat} {w w' : World} {g : Nat} {c : Cg} (h : BlkC w g c) (hn : g < n) (hb : Below n w w') : BlkC w' g c := (hb.block g hn).trans h
theorem BlkC.froz {w : World} {g : Nat} {c : Cg} (h : BlkC w g c) (j : Nat) : w.frozen? ⟨g, j, none⟩ = false := froz_blk h j
theorem BlkC.other {w : World} {g g' j : Nat} {c : Cg} (h : BlkC w g c) (hn : g ≠ g') (v : Value) : BlkC (w.setCell ⟨g', j, none⟩ v) g c := (Below.heap_setCell _ _ _ _ hn).trans h
theorem BlkB.below {n : Nat} {w w' : World} {g : Nat} {v1 v2 : Value} (h : BlkB w g v1 v2) (hn : g < n) (hb : Below n w w') : BlkB w' g v1 v2 := (hb.block g hn).trans h
theorem BlkB.cells {w : World} {g : Nat} {v1 v2 : Value} (h : BlkB w g v1 v2) : w.cell? ⟨g, 0, none⟩ = some v1 ∧ w.cell? ⟨g, 1, none⟩ = some v2 := ⟨cell_blk h rfl, cell_blk h rfl⟩
theorem BlkC.cells {w : World} {g : Nat} {c : Cg} (h : BlkC w g c) : w.cell? ⟨g, 0, none⟩ = some c.s1 ∧ w.cell? ⟨g, 1, none⟩ = some c.s2 ∧ w.cell? ⟨g, 2, none⟩ = some (.int .i64 c.p.o) ∧ w.cell? ⟨g, 3, none⟩ = some (.int .i64 c.p.op) ∧ w.cell? ⟨g, 4, none⟩ = some (.int .i64 c.p.ca) ∧ w.cell? ⟨g, 5, none⟩ = some (.int .i64 c.p.re) ∧ w.cell? ⟨g, 6, none⟩ = some (.int .i64 c.fr) ∧ w.cell? ⟨g, 7, none⟩ = some (.int .i64 c.to) :=
  ⟨cell_blk h rfl, cell_blk h rfl, cell_blk h rfl, cell_blk h rfl, cell_blk h rfl, cell_blk h rfl, cell_blk h rfl, cell_blk h rfl⟩
/-- a change is stored whole -/
def put8 (w : World) (g : Nat) (c : Cg) : World := (((((((w.setCell ⟨g, 0, none⟩ c.s1).setCell ⟨g, 1, none⟩ c.s2).setCell ⟨g, 2, none⟩ (.int .i64 c.p.o)).setCell ⟨g, 3, none⟩ (.int .i64 c.p.op)).setCell ⟨g, 4, none⟩ (.int .i64 c.p.ca)).setCell ⟨g, 5, none⟩ (.int .i64 c.p.re)).setCell ⟨g, 6, none⟩ (.int .i64 c.fr)).setCell ⟨g, 7, none⟩ (.int .i64 c.to)
theorem put8_blk {w : World} {g : Nat} {c : Cg} (h : BlkC w g c) (d : Cg) : BlkC (put8 w g d) g d := by
  unfold put8 BlkC
  rw [blk_set (blk_set (blk_set (blk_set (blk_set (blk_set (blk_set (blk_set h _) _) _) _) _) _) _) _]
  simp only [cgc, List.setIfInBounds_toArray, List.set_cons_zero, List.set_cons_succ]
theorem put8_below {n : Nat} {a w : World} {g : Nat} (h : Below n a w) (hn : n ≤ g) (d : Cg) : Below n a (put8 w g d) :=
  (((((((h.setCell hn _).setCell hn _).setCell hn _).setCell hn _).setCell hn _).setCell hn _).setCell hn _).setCell hn _
theorem res2cg {fn : Func} {p u : Tmp} (h : fn.results = #[.cell p 66, .tmp u]) (tmps : Array Value) (W : World) (B : Nat) (c : Cg) (hb : BlkC W B c) (hp : tmps.getD p undef = .pointer (some ⟨B, 0, none⟩)) :
    (results fn tmps).run Tryd.prog W = .ok (.tuple #[vcg c, tmps.getD u undef]) W := by
  rw [results_cell_tmp h, hp]
  have hl := run_loadVar_row (P := Tryd.prog) W B 66 66 _ (0, 0) _ hb Tryd.underlying66 rfl (by kernel_rfl)
  simp [asAddr, Result.andThen, hl]
end Go.Proofs.YtffhkljegopjmaaDoor.Lg
