/- NG NK -/
import Derived.Test.YtebikoekpbnpbaaNF
import Derived.Test.YtebikoekpbnpbaaNI
import Derived.Laws.ResultCell
import Derived.Laws.Rows
/- Find; clones -/
namespace Go.Proofs.Ytebikoekpbnpbaa
open Go.RowKit Cod
set_option maxRecDepth 40000
set_option linter.unusedVariables false
set_option linter.unusedSimpArgs false
theorem check_kind {p : Pg} (h : checkE p = 0) : leafB p = true ∨ innerB p = true := by
  unfold checkE at h
  split at h
  · assumption
  · cases h
theorem check_srt {p : Pg} (h : checkE p = 0) : SrtK p.keys := by
  rcases check_kind h with h | h
  · unfold leafB keysB at h
    simp only [Bool.and_eq_true] at h
    exact rise_srt h.1.2.1
  · unfold innerB keysB at h
    simp only [Bool.and_eq_true] at h
    exact rise_srt h.1.2.1
/-- what Find answers -/
def findR (p : Pg) (key : List Nat) : Nat × Bool × Int := if checkE p = 0 then (lowK p.keys key + (if hasK p.keys key = true ∧ p.leaf = false then 1 else 0), hasK p.keys key, 0) else (0, false, checkE p)
set_option maxHeartbeats 2000000 in
theorem find_any (v : Pv) (p : Pg) (xa : Option Addr) (xn xc : Nat) (key : List Nat) (w : World) (h : IsG w v p) (hc : FewP v) (hk : IsB w xa xn xc key) :
    Calls Try.prog 23 #[.agg (pgc p.leaf v), .slice xa xn xc] w fun e w' => e = .returned (.tuple #[.int .i64 ((findR p key).1 : Nat), .bool (findR p key).2.1, .int .i64 (findR p key).2.2]) ∧ Below w.heap.size w w' := by
  have HB0 : Hid (Below w.heap.size w (w.alloc (.cells (pgc p.leaf v) 25))) := hide ((Below.refl _ w).alloc (Nat.le_refl _) _)
  have HX : Hid (BlkG (w.alloc (.cells (pgc p.leaf v) 25)) w.heap.size p.leaf v) := hide (heap_alloc_new _ _)
  have HCK := hide (check_any v p _ (h.below HB0.out) hc)
  have HPL : Hid (checkE p = 0 → ∀ W : World, Below w.heap.size w W → Calls Try.prog 46 #[.slice v.ka v.kn v.kc, .slice xa xn xc] W fun e w' => e = .returned (.tuple #[.int .i64 (lowK p.keys key : Nat), .bool (hasK p.keys key)]) ∧ Below W.heap.size W w') := hide (fun h0 W hW => place_any v.ka v.kn v.kc p.keys xa xn xc key W (h.keys.below hW) (hk.below hW) (check_srt h0) hc.1)
  have HLK : Hid (lowK p.keys key ≤ 2000000) := hide (Nat.le_trans (lowK_le _ _) (by rw [h.keys.1]; exact hc.1))
  have HR : Hid (findR p key = if checkE p = 0 then (lowK p.keys key + (if hasK p.keys key = true ∧ p.leaf = false then 1 else 0), hasK p.keys key, 0) else (0, false, checkE p)) := hide rfl
  generalize findR p key = R at *
  obtain ⟨lf, hlf⟩ : ∃ lf, p.leaf = lf := ⟨_, rfl⟩
  rw [hlf] at HB0 HX HCK HR
  rw [hlf]
  clear hlf h hc hk
  generalize checkE p = E at *
  generalize lowK p.keys key = lo at *
  generalize hasK p.keys key = is at *
  obtain ⟨ka, kn, kc, va, vn, vc, ia, inn, ic⟩ := v
  try dsimp only at HB0 HX HCK HPL
  try dsimp only
  obtain ⟨q0, q1, q2, q3⟩ := HX.out.cells
  try dsimp only at q0 q1 q2 q3
  go_enter Try.func23, Try.ntmps23
  go_wp2_with fail
  generalize hV0 : (w.alloc (.cells #[.bool lf, .slice ka kn kc, .slice va vn vc, .slice ia inn ic] 25)) = V0 at *
  refine HCK.out.mono ?_
  rintro e w1 ⟨rfl, hb1⟩
  have HB1 : Hid (Below w.heap.size w w1) := hide (HB0.out.trans (hb1.mono HB0.out.size))
  have HX1 : Hid (w1.heap[w.heap.size]? = some (.cells #[.bool lf, .slice ka kn kc, .slice va vn vc, .slice ia inn ic] 25 (0, 0))) := hide ((hb1.block _ (heap_ltN HX.out)).trans HX.out)
  clear hb1 HCK q0 q1 q2 q3 hV0
  have q0 : w1.cell? ⟨w.heap.size, 0, none⟩ = some (.bool lf) := cell_blkN HX1.out rfl
  have q1 : w1.cell? ⟨w.heap.size, 1, none⟩ = some (.slice ka kn kc) := cell_blkN HX1.out rfl
  by_cases hE : E = 0
  · subst hE
    have HP2 := hide (HPL.out rfl w1 HB1.out)
    clear HPL
    go_wp2_with fail
    refine HP2.out.mono ?_
    rintro e w2 ⟨rfl, hb2⟩
    have HB2 : Hid (Below w.heap.size w w2) := hide (HB1.out.trans (hb2.mono HB1.out.size))
    have HX2 : Hid (w2.heap[w.heap.size]? = some (.cells #[.bool lf, .slice ka kn kc, .slice va vn vc, .slice ia inn ic] 25 (0, 0))) := hide ((hb2.block _ (heap_ltN HX1.out)).trans HX1.out)
    clear hb2 HP2 q0 q1
    have q0 : w2.cell? ⟨w.heap.size, 0, none⟩ = some (.bool lf) := cell_blkN HX2.out rfl
    have hw : IntKind.i64.wrap ((lo : Int) + 1) = (lo : Int) + 1 := wrapN (by omega) (by have := HLK.out; omega)
    cases is <;> cases lf
    case false.false =>
      have HE : Hid (R = (lo, false, 0)) := hide (by rw [HR.out]; simp)
      go_wp2
      go_ret3
      exact ⟨by rw [HE.out]; rfl, HB2.out⟩
    case false.true =>
      have HE : Hid (R = (lo, false, 0)) := hide (by rw [HR.out]; simp)
      go_wp2
      go_ret3
      exact ⟨by rw [HE.out]; rfl, HB2.out⟩
    case true.false =>
      have HE : Hid (R = (lo + 1, true, 0)) := hide (by rw [HR.out]; simp)
      go_wp2
      go_ret3
      exact ⟨by rw [HE.out]; rfl, HB2.out⟩
    case true.true =>
      have HE : Hid (R = (lo, true, 0)) := hide (by rw [HR.out]; simp)
      go_wp2
      go_ret3
      exact ⟨by rw [HE.out]; rfl, HB2.out⟩
  · have hE2 : (E == 0) = false := by simpa using hE
    have hE4 : (E != 0) = true := by simpa using hE
    have HE : Hid (R = (0, false, E)) := hide (by rw [HR.out, if_neg hE])
    go_wp2
    go_ret3
    exact ⟨by rw [HE.out]; rfl, HB1.out⟩
/-- why a page is no right leaf -/
def leafE (p : Pg) : Int := if checkE p = 0 then (if p.leaf = true then 0 else 15) else checkE p
set_option maxHeartbeats 2000000 in
theorem checkLeaf_any (v : Pv) (p : Pg) (w : World) (h : IsG w v p) (hc : FewP v) : Calls Try.prog 48 #[.agg (pgc p.leaf v)] w fun e w' => e = .returned (.int .i64 (leafE p)) ∧ Below w.heap.size w w' := by
  have HB0 : Hid (Below w.heap.size w (w.alloc (.cells (pgc p.leaf v) 25))) := hide ((Below.refl _ w).alloc (Nat.le_refl _) _)
  have HX : Hid (BlkG (w.alloc (.cells (pgc p.leaf v) 25)) w.heap.size p.leaf v) := hide (heap_alloc_new _ _)
  have HCK := hide (check_any v p _ (h.below HB0.out) hc)
  have HR : Hid (leafE p = if checkE p = 0 then (if p.leaf = true then 0 else 15) else checkE p) := hide rfl
  generalize leafE p = R at *
  obtain ⟨lf, hlf⟩ : ∃ lf, p.leaf = lf := ⟨_, rfl⟩
  rw [hlf] at HB0 HX HCK HR
  rw [hlf]
  clear hlf h hc
  generalize checkE p = E at *
  obtain ⟨ka, kn, kc, va, vn, vc, ia, inn, ic⟩ := v
  try dsimp only at HB0 HX HCK
  try dsimp only
  obtain ⟨q0, q1, q2, q3⟩ := HX.out.cells
  try dsimp only at q0 q1 q2 q3
  go_enter Try.func48, Try.ntmps48
  go_wp2_with fail
  generalize hV0 : (w.alloc (.cells #[.bool lf, .slice ka kn kc, .slice va vn vc, .slice ia inn ic] 25)) = V0 at *
  refine HCK.out.mono ?_
  rintro e w1 ⟨rfl, hb1⟩
  have HB1 : Hid (Below w.heap.size w w1) := hide (HB0.out.trans (hb1.mono HB0.out.size))
  have q4 : w1.cell? ⟨w.heap.size, 0, none⟩ = some (.bool lf) := cell_blkN ((hb1.block _ (heap_ltN HX.out)).trans HX.out) rfl
  clear hb1 HCK q0 q1 q2 q3 hV0
  by_cases hE : E = 0
  · subst hE
    cases lf with
    | true =>
      have HE : Hid (R = 0) := hide (by rw [HR.out]; simp)
      go_wp2
      go_ret
      exact ⟨by rw [HE.out]; rfl, HB1.out⟩
    | false =>
      have HE : Hid (R = 15) := hide (by rw [HR.out]; simp)
      go_wp2
      go_ret
      exact ⟨by rw [HE.out]; rfl, HB1.out⟩
  · have hE2 : (E == 0) = false := by simpa using hE
    have hE4 : (E != 0) = true := by simpa using hE
    have HE : Hid (R = E) := hide (by rw [HR.out, if_neg hE])
    go_wp2
    go_ret
    exact ⟨by rw [HE.out]; rfl, HB1.out⟩
end Go.Proofs.Ytebikoekpbnpbaa
/- pages that are answered; checked -/
namespace Go.Proofs.Ytebikoekpbnpbaa
open Go.RowKit Go.Lib Cod
set_option maxRecDepth 100000
set_option linter.unusedVariables false
set_option linter.unusedSimpArgs false
def Pv0 : Pv := ⟨none, 0, 0, none, 0, 0, none, 0, 0⟩
theorem isG_0 (w : World) : IsG w Pv0 Pg0 := ⟨isL_nil w, isL_nil w, isK_nil w⟩
/-- what a function answers whose first result is a page's own block -/
theorem resP2 {fn : Func} {p u : Tmp} (h : fn.results = #[.cell p 25, .tmp u]) (tmps : Array Value) (W : World) (B : Nat) (cs : Array Value) (hb : W.heap[B]? = some (.cells cs 25 (0, 0))) (hs : cs.size = 4) (hp : tmps.getD p undef = .pointer (some ⟨B, 0, none⟩)) :
    (results fn tmps).run Try.prog W = .ok (.tuple #[.agg cs, tmps.getD u undef]) W := by
  rw [results_cell_tmp h, hp]
  have hl := run_loadVar_row (P := Try.prog) W B 25 25 cs (0, 0) _ hb Try.underlying25 rfl (by rw [hs]; kernel_rfl)
  simp [asAddr, Result.andThen, hl]
abbrev set4 (W : World) (B : Nat) (a b c d : Value) : World := (((W.setCell ⟨B, 0, none⟩ a).setCell ⟨B, 1, none⟩ b).setCell ⟨B, 2, none⟩ c).setCell ⟨B, 3, none⟩ d
theorem blk4 {W : World} {B : Nat} {x0 x1 x2 x3 : Value} (h : W.heap[B]? = some (.cells #[x0, x1, x2, x3] 25 (0, 0))) (a b c d : Value) : (set4 W B a b c d).heap[B]? = some (.cells #[a, b, c, d] 25 (0, 0)) := by
  rw [blk_setN (blk_setN (blk_setN (blk_setN h a) b) c) d]
  rfl
theorem below4 {B0 : Nat} {w W : World} (h : Below B0 w W) {B : Nat} (hB : B0 ≤ B) (a b c d : Value) : Below B0 w (set4 W B a b c d) := (((h.setCell hB a).setCell hB b).setCell hB c).setCell hB d
theorem out4 {W : World} {B k : Nat} (hk : k ≠ B) (a b c d : Value) : (set4 W B a b c d).heap[k]? = W.heap[k]? := by
  rw [Below.heap_setCell _ _ _ _ hk, Below.heap_setCell _ _ _ _ hk, Below.heap_setCell _ _ _ _ hk, Below.heap_setCell _ _ _ _ hk]
theorem size4 {W : World} {B : Nat} (a b c d : Value) : (set4 W B a b c d).heap.size = W.heap.size := by simp [World.setCell]
/-- the page that checked answers -/
def ckP (p : Pg) (v : Pv) : Bool × Pv := if checkE p = 0 then (p.leaf, v) else (false, Pv0)
set_option maxHeartbeats 2000000 in
theorem checked_any (v : Pv) (p : Pg) (w : World) (h : IsG w v p) (hc : FewP v) :
    Calls Try.prog 52 #[.agg (pgc p.leaf v)] w fun e w' => e = .returned (.tuple #[.agg (pgc (ckP p v).1 (ckP p v).2), .int .i64 (checkE p)]) ∧ Below w.heap.size w w' := by
  have HB0 : Hid (Below w.heap.size w ((w.alloc (.cells (pgc p.leaf v) 25)).alloc (.cells (pgc false Pv0) 25))) := hide (((Below.refl _ w).alloc (Nat.le_refl _) _).alloc (by simp) _)
  have HX : Hid (BlkG ((w.alloc (.cells (pgc p.leaf v) 25)).alloc (.cells (pgc false Pv0) 25)) w.heap.size p.leaf v) := hide (by
    refine (((Below.refl (w.heap.size + 1) (w.alloc (.cells (pgc p.leaf v) 25))).alloc (by simp) _).block _ (by omega)).trans (heap_alloc_new _ _))
  have HY : Hid (BlkG ((w.alloc (.cells (pgc p.leaf v) 25)).alloc (.cells (pgc false Pv0) 25)) (w.heap.size + 1) false Pv0) := hide (by
    have := heap_alloc_new (w.alloc (.cells (pgc p.leaf v) 25)) (.cells (pgc false Pv0) 25)
    rwa [show (w.alloc (.cells (pgc p.leaf v) 25)).heap.size = w.heap.size + 1 by simp] at this)
  have HCK := hide (check_any v p _ (h.below HB0.out) hc)
  have HR : Hid (ckP p v = if checkE p = 0 then (p.leaf, v) else (false, Pv0)) := hide rfl
  generalize ckP p v = R at *
  obtain ⟨lf, hlf⟩ : ∃ lf, p.leaf = lf := ⟨_, rfl⟩
  rw [hlf] at HB0 HX HY HCK HR
  rw [hlf]
  clear hlf h hc
  generalize checkE p = E at *
  obtain ⟨ka, kn, kc, va, vn, vc, ia, inn, ic⟩ := v
  try dsimp only at HB0 HX HCK HY
  try dsimp only
  obtain ⟨q0, q1, q2, q3⟩ := HX.out.cells
  try dsimp only at q0 q1 q2 q3
  unfold Pv0 at HB0 HX HY HCK q0 q1 q2 q3
  try dsimp only at HB0 HX HY HCK q0 q1 q2 q3
  go_enter Try.func52, Try.ntmps52
  go_wp2_with fail
  generalize hV0 : ((w.alloc (.cells #[.bool lf, .slice ka kn kc, .slice va vn vc, .slice ia inn ic] 25)).alloc (.cells #[.bool false, .slice none 0 0, .slice none 0 0, .slice none 0 0] 25)) = V0 at *
  refine HCK.out.mono ?_
  rintro e w1 ⟨rfl, hb1⟩
  have HB1 : Hid (Below w.heap.size w w1) := hide (HB0.out.trans (hb1.mono HB0.out.size))
  have HX1 : Hid (w1.heap[w.heap.size]? = some (.cells #[.bool lf, .slice ka kn kc, .slice va vn vc, .slice ia inn ic] 25 (0, 0))) := hide ((hb1.block _ (heap_ltN HX.out)).trans HX.out)
  have HY1 : Hid (w1.heap[w.heap.size + 1]? = some (.cells #[.bool false, .slice none 0 0, .slice none 0 0, .slice none 0 0] 25 (0, 0))) := hide ((hb1.block _ (heap_ltN HY.out)).trans HY.out)
  clear hb1 HCK q0 q1 q2 q3 hV0
  have q0 : w1.cell? ⟨w.heap.size, 0, none⟩ = some (.bool lf) := cell_blkN HX1.out rfl
  have q1 : w1.cell? ⟨w.heap.size, 1, none⟩ = some (.slice ka kn kc) := cell_blkN HX1.out rfl
  have q2 : w1.cell? ⟨w.heap.size, 2, none⟩ = some (.slice va vn vc) := cell_blkN HX1.out rfl
  have q3 : w1.cell? ⟨w.heap.size, 3, none⟩ = some (.slice ia inn ic) := cell_blkN HX1.out rfl
  have y0 : w1.cell? ⟨w.heap.size + 1, 0, none⟩ = some (.bool false) := cell_blkN HY1.out rfl
  have y1 : w1.cell? ⟨w.heap.size + 1, 1, none⟩ = some (.slice none 0 0) := cell_blkN HY1.out rfl
  have y2 : w1.cell? ⟨w.heap.size + 1, 2, none⟩ = some (.slice none 0 0) := cell_blkN HY1.out rfl
  have y3 : w1.cell? ⟨w.heap.size + 1, 3, none⟩ = some (.slice none 0 0) := cell_blkN HY1.out rfl
  have f0 := frzN HY1.out 0
  have f1 := frzN HY1.out 1
  have f2 := frzN HY1.out 2
  have f3 := frzN HY1.out 3
  by_cases hE : E = 0
  · subst hE
    have HE : Hid (R = (lf, ⟨ka, kn, kc, va, vn, vc, ia, inn, ic⟩)) := hide (by rw [HR.out]; simp)
    go_wp2
    (try simp only [Exit.inBlock, Exit.then])
    refine bodyPost_ret (resP2 rfl _ _ (w.heap.size + 1) #[.bool lf, .slice ka kn kc, .slice va vn vc, .slice ia inn ic] (blk4 HY1.out _ _ _ _) rfl rfl) rfl ?_
    exact ⟨by rw [HE.out]; rfl, below4 HB1.out (by omega) _ _ _ _⟩
  · have hE2 : (E == 0) = false := by simpa using hE
    have hE4 : (E != 0) = true := by simpa using hE
    have HE : Hid (R = (false, Pv0)) := hide (by rw [HR.out, if_neg hE])
    go_wp2
    (try simp only [Exit.inBlock, Exit.then])
    refine bodyPost_ret (resP2 rfl _ _ (w.heap.size + 1) #[.bool false, .slice none 0 0, .slice none 0 0, .slice none 0 0] (blk4 HY1.out _ _ _ _) rfl rfl) rfl ?_
    exact ⟨by rw [HE.out]; rfl, below4 HB1.out (by omega) _ _ _ _⟩
end Go.Proofs.Ytebikoekpbnpbaa
