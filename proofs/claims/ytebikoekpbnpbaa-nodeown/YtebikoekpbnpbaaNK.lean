/- pages that are answered; checked -/
import Derived.Test.YtebikoekpbnpbaaNJ
import Derived.Laws.ResultCell
import Derived.Laws.Rows
namespace Go.Proofs.Ytebikoekpbnpbaa
open Go.RowKit Go.Lib Cod
set_option maxRecDepth 100000
set_option linter.unusedVariables false
set_option linter.unusedSimpArgs false
def Pv0 : Pv := ⟨none, 0, 0, none, 0, 0, none, 0, 0⟩
theorem isG_0 (w : World) : IsG w Pv0 Pg0 := ⟨isL_nil w, isL_nil w, isK_nil w⟩
/-- what a function answers whose first result is a page's own block -/
theorem resP2 {fn : Func} {p u : Tmp} (h : fn.results = #[.cell p 25, .tmp u]) (tmps : Array Value) (W : World) (B : Nat) (cs : Array Value) (hb : W.heap[B]? = some (.cells cs 25 (0, 0))) (hs : cs.size = 4) (hp : tmps.getD p undef = .pointer (some ⟨B, 0, none⟩)) :
    (results fn tmps).run Try.prog W = .ok (.tuple #[.agg cs, tmps.getD u undef]) W := by
  rw [results_cell_tmp h, hp]
  have hl := run_loadVar_row (P := Try.prog) W B 25 25 cs (0, 0) _ hb Try.underlying25 rfl (by rw [hs]; kernel_rfl)
  simp [asAddr, Result.andThen, hl]
theorem resP3 {fn : Func} {p u u2 : Tmp} (h : fn.results = #[.cell p 25, .tmp u, .tmp u2]) (tmps : Array Value) (W : World) (B : Nat) (cs : Array Value) (hb : W.heap[B]? = some (.cells cs 25 (0, 0))) (hs : cs.size = 4) (hp : tmps.getD p undef = .pointer (some ⟨B, 0, none⟩)) :
    (results fn tmps).run Try.prog W = .ok (.tuple #[.agg cs, tmps.getD u undef, tmps.getD u2 undef]) W := by
  have hl := run_loadVar_row (P := Try.prog) W B 25 25 cs (0, 0) _ hb Try.underlying25 rfl (by rw [hs]; kernel_rfl)
  have hp' : tmps[p]?.getD undef = .pointer (some ⟨B, 0, none⟩) := by simpa using hp
  simp only [results, h]
  simp [Sem.run_bind, Result.andThen, asAddr, hp', hl]
abbrev set4 (W : World) (B : Nat) (a b c d : Value) : World := (((W.setCell ⟨B, 0, none⟩ a).setCell ⟨B, 1, none⟩ b).setCell ⟨B, 2, none⟩ c).setCell ⟨B, 3, none⟩ d
theorem blk4 {W : World} {B : Nat} {x0 x1 x2 x3 : Value} (h : W.heap[B]? = some (.cells #[x0, x1, x2, x3] 25 (0, 0))) (a b c d : Value) : (set4 W B a b c d).heap[B]? = some (.cells #[a, b, c, d] 25 (0, 0)) := by
  rw [blk_setN (blk_setN (blk_setN (blk_setN h a) b) c) d]
  rfl
theorem below4 {B0 : Nat} {w W : World} (h : Below B0 w W) {B : Nat} (hB : B0 ≤ B) (a b c d : Value) : Below B0 w (set4 W B a b c d) := (((h.setCell hB a).setCell hB b).setCell hB c).setCell hB d
theorem out4 {W : World} {B k : Nat} (hk : k ≠ B) (a b c d : Value) : (set4 W B a b c d).heap[k]? = W.heap[k]? := by
  rw [Below.heap_setCell _ _ _ _ hk, Below.heap_setCell _ _ _ _ hk, Below.heap_setCell _ _ _ _ hk, Below.heap_setCell _ _ _ _ hk]
theorem size4 {W : World} {B : Nat} (a b c d : Value) : (set4 W B a b c d).heap.size = W.heap.size := by simp [World.setCell]
/-- the page that checked answers -/
def ckP (p : Pg) (v : Pv) : Bool × Pv := if checkE p = 0 then (p.leaf, v) else (false, Pv0)
set_option maxHeartbeats 2000000 in
theorem checked_any (v : Pv) (p : Pg) (w : World) (h : IsG w v p) (hc : FewP v) :
    Calls Try.prog 52 #[.agg (pgc p.leaf v)] w fun e w' => e = .returned (.tuple #[.agg (pgc (ckP p v).1 (ckP p v).2), .int .i64 (checkE p)]) ∧ Below w.heap.size w w' := by
  have HB0 : Hid (Below w.heap.size w ((w.alloc (.cells (pgc p.leaf v) 25)).alloc (.cells (pgc false Pv0) 25))) := hide (((Below.refl _ w).alloc (Nat.le_refl _) _).alloc (by simp) _)
  have HX : Hid (BlkG ((w.alloc (.cells (pgc p.leaf v) 25)).alloc (.cells (pgc false Pv0) 25)) w.heap.size p.leaf v) := hide (by
    refine (((Below.refl (w.heap.size + 1) (w.alloc (.cells (pgc p.leaf v) 25))).alloc (by simp) _).block _ (by omega)).trans (heap_alloc_new _ _))
  have HY : Hid (BlkG ((w.alloc (.cells (pgc p.leaf v) 25)).alloc (.cells (pgc false Pv0) 25)) (w.heap.size + 1) false Pv0) := hide (by
    have := heap_alloc_new (w.alloc (.cells (pgc p.leaf v) 25)) (.cells (pgc false Pv0) 25)
    rwa [show (w.alloc (.cells (pgc p.leaf v) 25)).heap.size = w.heap.size + 1 by simp] at this)
  have HCK := hide (check_any v p _ (h.below HB0.out) hc)
  have HR : Hid (ckP p v = if checkE p = 0 then (p.leaf, v) else (false, Pv0)) := hide rfl
  generalize ckP p v = R at *
  obtain ⟨lf, hlf⟩ : ∃ lf, p.leaf = lf := ⟨_, rfl⟩
  rw [hlf] at HB0 HX HY HCK HR
  rw [hlf]
  clear hlf h hc
  generalize checkE p = E at *
  obtain ⟨ka, kn, kc, va, vn, vc, ia, inn, ic⟩ := v
  try dsimp only at HB0 HX HCK HY
  try dsimp only
  obtain ⟨q0, q1, q2, q3⟩ := HX.out.cells
  try dsimp only at q0 q1 q2 q3
  unfold Pv0 at HB0 HX HY HCK q0 q1 q2 q3
  try dsimp only at HB0 HX HY HCK q0 q1 q2 q3
  go_enter Try.func52, Try.ntmps52
  go_wp2_with fail
  generalize hV0 : ((w.alloc (.cells #[.bool lf, .slice ka kn kc, .slice va vn vc, .slice ia inn ic] 25)).alloc (.cells #[.bool false, .slice none 0 0, .slice none 0 0, .slice none 0 0] 25)) = V0 at *
  refine HCK.out.mono ?_
  rintro e w1 ⟨rfl, hb1⟩
  have HB1 : Hid (Below w.heap.size w w1) := hide (HB0.out.trans (hb1.mono HB0.out.size))
  have HX1 : Hid (w1.heap[w.heap.size]? = some (.cells #[.bool lf, .slice ka kn kc, .slice va vn vc, .slice ia inn ic] 25 (0, 0))) := hide ((hb1.block _ (heap_ltN HX.out)).trans HX.out)
  have HY1 : Hid (w1.heap[w.heap.size + 1]? = some (.cells #[.bool false, .slice none 0 0, .slice none 0 0, .slice none 0 0] 25 (0, 0))) := hide ((hb1.block _ (heap_ltN HY.out)).trans HY.out)
  clear hb1 HCK q0 q1 q2 q3 hV0
  have q0 : w1.cell? ⟨w.heap.size, 0, none⟩ = some (.bool lf) := cell_blkN HX1.out rfl
  have q1 : w1.cell? ⟨w.heap.size, 1, none⟩ = some (.slice ka kn kc) := cell_blkN HX1.out rfl
  have q2 : w1.cell? ⟨w.heap.size, 2, none⟩ = some (.slice va vn vc) := cell_blkN HX1.out rfl
  have q3 : w1.cell? ⟨w.heap.size, 3, none⟩ = some (.slice ia inn ic) := cell_blkN HX1.out rfl
  have y0 : w1.cell? ⟨w.heap.size + 1, 0, none⟩ = some (.bool false) := cell_blkN HY1.out rfl
  have y1 : w1.cell? ⟨w.heap.size + 1, 1, none⟩ = some (.slice none 0 0) := cell_blkN HY1.out rfl
  have y2 : w1.cell? ⟨w.heap.size + 1, 2, none⟩ = some (.slice none 0 0) := cell_blkN HY1.out rfl
  have y3 : w1.cell? ⟨w.heap.size + 1, 3, none⟩ = some (.slice none 0 0) := cell_blkN HY1.out rfl
  have f0 := frzN HY1.out 0
  have f1 := frzN HY1.out 1
  have f2 := frzN HY1.out 2
  have f3 := frzN HY1.out 3
  by_cases hE : E = 0
  · subst hE
    have HE : Hid (R = (lf, ⟨ka, kn, kc, va, vn, vc, ia, inn, ic⟩)) := hide (by rw [HR.out]; simp)
    go_wp2
    (try simp only [Exit.inBlock, Exit.then])
    refine bodyPost_ret (resP2 rfl _ _ (w.heap.size + 1) #[.bool lf, .slice ka kn kc, .slice va vn vc, .slice ia inn ic] (blk4 HY1.out _ _ _ _) rfl rfl) rfl ?_
    exact ⟨by rw [HE.out]; rfl, below4 HB1.out (by omega) _ _ _ _⟩
  · have hE2 : (E == 0) = false := by simpa using hE
    have hE4 : (E != 0) = true := by simpa using hE
    have HE : Hid (R = (false, Pv0)) := hide (by rw [HR.out, if_neg hE])
    go_wp2
    (try simp only [Exit.inBlock, Exit.then])
    refine bodyPost_ret (resP2 rfl _ _ (w.heap.size + 1) #[.bool false, .slice none 0 0, .slice none 0 0, .slice none 0 0] (blk4 HY1.out _ _ _ _) rfl rfl) rfl ?_
    exact ⟨by rw [HE.out]; rfl, below4 HB1.out (by omega) _ _ _ _⟩
end Go.Proofs.Ytebikoekpbnpbaa
