/- Advance; the document's Check, Left, Next, Advance -/
import Derived.Test.YtfbfmhfceemkgaaDoorPE
namespace Go.Proofs.YtfbfmhfceemkgaaDoor.Pl
open Go.RowKit
set_option linter.unusedVariables false
def Sg0 : Sg := ⟨0, 0, 0, false⟩
theorem blk_set {w : World} {g j : Nat} {cs : Array Value} {t : TypeId} {m : Nat × Nat} (h : w.heap[g]? = some (.cells cs t m)) (v : Value) : (w.setCell ⟨g, j, none⟩ v).heap[g]? = some (.cells (cs.setIfInBounds j v) t m) := by
  simp [World.setCell, Array.getElem?_modify, h]
/-- a saga is stored -/
def put4 (w : World) (g : Nat) (s : Sg) : World := (((w.setCell ⟨g, 0, none⟩ (.int .i64 s.od)).setCell ⟨g, 1, none⟩ (.int .u8 s.k)).setCell ⟨g, 2, none⟩ (.int .i64 s.at')).setCell ⟨g, 3, none⟩ (.bool s.u)
theorem put4_blk {w : World} {g : Nat} {s : Sg} (h : Blk w g s) (y : Sg) : Blk (put4 w g y) g y := by
  unfold put4 Blk
  rw [blk_set (blk_set (blk_set (blk_set h _) _) _) _]
  rfl
theorem put4_below {n : Nat} {a w : World} {g : Nat} (h : Below n a w) (hn : n ≤ g) (y : Sg) : Below n a (put4 w g y) :=
  (((h.setCell hn _).setCell hn _).setCell hn _).setCell hn _
theorem Blk.set_at {w : World} {g : Nat} {s : Sg} (h : Blk w g s) (n : Int) : Blk (w.setCell ⟨g, 2, none⟩ (.int .i64 n)) g { s with at' := n } := by
  unfold Blk
  rw [blk_set h _]
  rfl
theorem Blk.set_u {w : World} {g : Nat} {s : Sg} (h : Blk w g s) (b : Bool) : Blk (w.setCell ⟨g, 3, none⟩ (.bool b)) g { s with u := b } := by
  unfold Blk
  rw [blk_set h _]
  rfl
theorem Blk.set_other {w : World} {g g' j : Nat} {s : Sg} (h : Blk w g' s) (hn : g' ≠ g) (v : Value) : Blk (w.setCell ⟨g, j, none⟩ v) g' s := by
  unfold Blk
  rw [Below.heap_setCell _ _ _ _ hn]
  exact h
/-- what a function answers whose first of two results is a saga's own block -/
theorem res2g {fn : Func} {p u : Tmp} (h : fn.results = #[.cell p 27, .tmp u]) (tmps : Array Value) (W : World) (B : Nat) (x : Sg) (hb : Blk W B x) (hp : tmps.getD p undef = .pointer (some ⟨B, 0, none⟩)) :
    (results fn tmps).run Tryd.prog W = .ok (.tuple #[vg x, tmps.getD u undef]) W := by
  rw [results_cell_tmp h, hp]
  have hl := run_loadVar_row (P := Tryd.prog) W B 27 27 _ (0, 0) _ hb Tryd.underlying27 rfl (by kernel_rfl)
  simp [asAddr, Result.andThen, hl]
/-- what Advance answers -/
def advR (s : Sg) (d : Bool) : Sg × Int :=
  if ¬ (nextR s).why = 0 then (Sg0, (nextR s).why)
  else if (nextR s).is = false then (Sg0, 9)
  else if d = true then ({ s with at' := if s.u = true then s.at' - 1 else s.at' + 1 }, 0)
  else (if s.u = false ∧ tuB (nextR s).st = true then { s with u := true } else s, 0)
theorem next_ok {s : Sg} (h0 : (nextR s).why = 0) : rightB s = true := by
  cases hr : rightB s
  · unfold nextR at h0
    rw [if_pos hr] at h0
    exact absurd h0 (by decide)
  · rfl
theorem right_small {s : Sg} (h : rightB s = true) : 0 ≤ s.at' ∧ s.at' ≤ 5 := by
  have h1 := right_at h
  have h2 := nL_le s.k
  omega
set_option maxHeartbeats 400000 in
theorem adv_any (s : Sg) (d : Bool) (hk : u8B s.k) (w : World) : Calls Tryd.prog 11 #[vg s, .bool d] w fun e w' => e = .returned (.tuple #[vg (advR s d).1, .int .i64 (advR s d).2]) ∧ Below w.heap.size w w' := by
  have HNX := hide (next_any s hk)
  have HR : Hid (advR s d = if ¬ (nextR s).why = 0 then (Sg0, (nextR s).why) else if (nextR s).is = false then (Sg0, 9) else if d = true then ({ s with at' := if s.u = true then s.at' - 1 else s.at' + 1 }, 0) else (if s.u = false ∧ tuB (nextR s).st = true then { s with u := true } else s, 0)) := hide rfl
  have HOK := hide (fun h => right_small (next_ok (s := s) h))
  generalize advR s d = R at *
  generalize nextR s = X at *
  obtain ⟨x1, x2, x3⟩ := X
  obtain ⟨o, k, t, u⟩ := s
  dsimp only at *
  have HTU := hide (tu_any x1)
  generalize tuB x1 = bt at *
  clear hk
  have HB0 : Hid (Below w.heap.size w ((w.alloc (.cells #[.int .i64 o, .int .u8 k, .int .i64 t, .bool u] 27)).alloc (.cells #[.int .i64 0, .int .u8 0, .int .i64 0, .bool false] 27))) := hide (((Below.refl _ w).alloc (Nat.le_refl _) _).alloc (by simp) _)
  have HG0 : Hid (Blk ((w.alloc (.cells #[.int .i64 o, .int .u8 k, .int .i64 t, .bool u] 27)).alloc (.cells #[.int .i64 0, .int .u8 0, .int .i64 0, .bool false] 27)) w.heap.size ⟨o, k, t, u⟩ ∧ Blk ((w.alloc (.cells #[.int .i64 o, .int .u8 k, .int .i64 t, .bool u] 27)).alloc (.cells #[.int .i64 0, .int .u8 0, .int .i64 0, .bool false] 27)) (w.heap.size + 1) Sg0) := hide (by
    refine ⟨(Below.heap_alloc _ _ _ (by simp)).trans (heap_alloc_new _ _), ?_⟩
    have := heap_alloc_new (w.alloc (.cells #[.int .i64 o, .int .u8 k, .int .i64 t, .bool u] 27)) (.cells #[.int .i64 0, .int .u8 0, .int .i64 0, .bool false] 27)
    rwa [show (w.alloc (.cells #[.int .i64 o, .int .u8 k, .int .i64 t, .bool u] 27)).heap.size = w.heap.size + 1 by simp] at this)
  go_enter Tryd.func11, Tryd.ntmps11
  go_wp2_with fail
  generalize (w.alloc (.cells #[.int .i64 o, .int .u8 k, .int .i64 t, .bool u] 27)).alloc (.cells #[.int .i64 0, .int .u8 0, .int .i64 0, .bool false] 27) = W0 at *
  refine (HNX.out W0).mono ?_
  rintro e w1 ⟨rfl, hb⟩
  have HB1 : Hid (Below w.heap.size w w1) := hide (HB0.out.trans (hb.mono HB0.out.size))
  have HG1 : Hid (Blk w1 w.heap.size ⟨o, k, t, u⟩) := hide (HG0.out.1.below' hb)
  have HZ1 : Hid (Blk w1 (w.heap.size + 1) Sg0) := hide (HG0.out.2.below' hb)
  clear hb HB0 HG0 HNX
  obtain ⟨c0, c1, c2, c3⟩ := HG1.out.cells
  have f1 := HG1.out.froz
  obtain ⟨d0, d1, d2, d3⟩ := HZ1.out.cells
  have f2 := HZ1.out.froz
  dsimp only [Sg0] at c0 c1 c2 c3 d0 d1 d2 d3
  by_cases hy : x3 = 0
  · subst hy
    rw [if_neg (by simp)] at HR
    have HT5 := hide (HOK.out rfl)
    cases x2
    · rw [if_pos rfl] at HR
      go_wp2
      refine bodyPost_ret (res2g rfl _ (put4 w1 (w.heap.size + 1) Sg0) (w.heap.size + 1) Sg0 (put4_blk HZ1.out _) rfl) rfl ?_
      exact ⟨by rw [HR.out]; rfl, put4_below HB1.out (by omega) Sg0⟩
    · rw [if_neg (by simp)] at HR
      cases d
      · rw [if_neg (by simp)] at HR
        cases u
        · cases bt
          · rw [if_neg (by simp)] at HR
            go_wp2_with (first | (go_at_call 22; refine (HTU.out _).mono ?_; rintro e w' ⟨rfl, he'⟩; obtain rfl := he'.symm; clear he'))
            refine bodyPost_ret (res2g rfl _ (put4 w1 (w.heap.size + 1) ⟨o, k, t, false⟩) (w.heap.size + 1) ⟨o, k, t, false⟩ (put4_blk HZ1.out _) rfl) rfl ?_
            exact ⟨by rw [HR.out]; rfl, put4_below HB1.out (by omega) ⟨o, k, t, false⟩⟩
          · rw [if_pos ⟨rfl, rfl⟩] at HR
            go_wp2_with (first | (go_at_call 22; refine (HTU.out _).mono ?_; rintro e w' ⟨rfl, he'⟩; obtain rfl := he'.symm; clear he'))
            refine bodyPost_ret (res2g rfl _ (put4 (w1.setCell ⟨w.heap.size, 3, none⟩ (.bool true)) (w.heap.size + 1) ⟨o, k, t, true⟩) (w.heap.size + 1) ⟨o, k, t, true⟩ (put4_blk (HZ1.out.set_other (by omega) _) _) rfl) rfl ?_
            exact ⟨by rw [HR.out]; rfl, put4_below (HB1.out.setCell (Nat.le_refl _) _) (by omega) ⟨o, k, t, true⟩⟩
        · rw [if_neg (by simp)] at HR
          go_wp2
          refine bodyPost_ret (res2g rfl _ (put4 w1 (w.heap.size + 1) ⟨o, k, t, true⟩) (w.heap.size + 1) ⟨o, k, t, true⟩ (put4_blk HZ1.out _) rfl) rfl ?_
          exact ⟨by rw [HR.out]; rfl, put4_below HB1.out (by omega) ⟨o, k, t, true⟩⟩
      · rw [if_pos rfl] at HR
        cases u
        · simp only [Bool.false_eq_true, if_false] at HR
          have hw : IntKind.i64.wrap (t + 1) = t + 1 := by have := HT5.out; exact wrap64 (by omega) (by omega)
          go_wp2
          refine bodyPost_ret (res2g rfl _ (put4 (w1.setCell ⟨w.heap.size, 2, none⟩ (.int .i64 (t + 1))) (w.heap.size + 1) ⟨o, k, t + 1, false⟩) (w.heap.size + 1) ⟨o, k, t + 1, false⟩ (put4_blk (HZ1.out.set_other (by omega) _) _) rfl) rfl ?_
          exact ⟨by rw [HR.out]; rfl, put4_below (HB1.out.setCell (Nat.le_refl _) _) (by omega) ⟨o, k, t + 1, false⟩⟩
        · simp only [if_true] at HR
          have hw : IntKind.i64.wrap (t - 1) = t - 1 := by have := HT5.out; exact wrap64 (by omega) (by omega)
          go_wp2
          refine bodyPost_ret (res2g rfl _ (put4 (w1.setCell ⟨w.heap.size, 2, none⟩ (.int .i64 (t - 1))) (w.heap.size + 1) ⟨o, k, t - 1, true⟩) (w.heap.size + 1) ⟨o, k, t - 1, true⟩ (put4_blk (HZ1.out.set_other (by omega) _) _) rfl) rfl ?_
          exact ⟨by rw [HR.out]; rfl, put4_below (HB1.out.setCell (Nat.le_refl _) _) (by omega) ⟨o, k, t - 1, true⟩⟩
  · rw [if_pos hy] at HR
    have hyb : (x3 == 0) = false := by simpa using hy
    go_wp2
    refine bodyPost_ret (res2g rfl _ (put4 w1 (w.heap.size + 1) Sg0) (w.heap.size + 1) Sg0 (put4_blk HZ1.out _) rfl) rfl ?_
    exact ⟨by rw [HR.out]; rfl, put4_below HB1.out (by omega) Sg0⟩
end Go.Proofs.YtfbfmhfceemkgaaDoor.Pl
