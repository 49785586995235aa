/- Advance; the document's Check, Left, Next, Advance -/
import Derived.Test.YtmkholgflhaacaaE
namespace Go.Proofs.Ytmkholgflhaacaa
open Go.RowKit
set_option linter.unusedVariables false
def Sg0 : Sg := ⟨0, 0, 0, false⟩
theorem blk_set {w : World} {g j : Nat} {cs : Array Value} {t : TypeId} {m : Nat × Nat} (h : w.heap[g]? = some (.cells cs t m)) (v : Value) : (w.setCell ⟨g, j, none⟩ v).heap[g]? = some (.cells (cs.setIfInBounds j v) t m) := by
  simp [World.setCell, Array.getElem?_modify, h]
/-- a saga is stored -/
def put4 (w : World) (g : Nat) (s : Sg) : World := (((w.setCell ⟨g, 0, none⟩ (.int .i64 s.od)).setCell ⟨g, 1, none⟩ (.int .u8 s.k)).setCell ⟨g, 2, none⟩ (.int .i64 s.at')).setCell ⟨g, 3, none⟩ (.bool s.u)
theorem put4_blk {w : World} {g : Nat} {s : Sg} (h : Blk w g s) (y : Sg) : Blk (put4 w g y) g y := by
  unfold put4 Blk
  rw [blk_set (blk_set (blk_set (blk_set h _) _) _) _]
  rfl
theorem put4_below {n : Nat} {a w : World} {g : Nat} (h : Below n a w) (hn : n ≤ g) (y : Sg) : Below n a (put4 w g y) :=
  (((h.setCell hn _).setCell hn _).setCell hn _).setCell hn _
theorem Blk.set_at {w : World} {g : Nat} {s : Sg} (h : Blk w g s) (n : Int) : Blk (w.setCell ⟨g, 2, none⟩ (.int .i64 n)) g { s with at' := n } := by
  unfold Blk
  rw [blk_set h _]
  rfl
theorem Blk.set_u {w : World} {g : Nat} {s : Sg} (h : Blk w g s) (b : Bool) : Blk (w.setCell ⟨g, 3, none⟩ (.bool b)) g { s with u := b } := by
  unfold Blk
  rw [blk_set h _]
  rfl
theorem Blk.set_other {w : World} {g g' j : Nat} {s : Sg} (h : Blk w g' s) (hn : g' ≠ g) (v : Value) : Blk (w.setCell ⟨g, j, none⟩ v) g' s := by
  unfold Blk
  rw [Below.heap_setCell _ _ _ _ hn]
  exact h
/-- what a function answers whose first of two results is a saga's own block -/
theorem res2g {fn : Func} {p u : Tmp} (h : fn.results = #[.cell p 33, .tmp u]) (tmps : Array Value) (W : World) (B : Nat) (x : Sg) (hb : Blk W B x) (hp : tmps.getD p undef = .pointer (some ⟨B, 0, none⟩)) :
    (results fn tmps).run Try.prog W = .ok (.tuple #[vg x, tmps.getD u undef]) W := by
  rw [results_cell_tmp h, hp]
  have hl := run_loadVar_row (P := Try.prog) W B 33 33 _ (0, 0) _ hb Try.underlying33 rfl (by kernel_rfl)
  simp [asAddr, Result.andThen, hl]
/-- what Advance answers -/
def advR (s : Sg) (d : Bool) : Sg × Int :=
  if ¬ (nextR s).why = 0 then (Sg0, (nextR s).why)
  else if (nextR s).is = false then (Sg0, 9)
  else if d = true then ({ s with at' := if s.u = true then s.at' - 1 else s.at' + 1 }, 0)
  else (if s.u = false ∧ tuB (nextR s).st = true then { s with u := true } else s, 0)
theorem next_ok {s : Sg} (h0 : (nextR s).why = 0) : rightB s = true := by
  cases hr : rightB s
  · unfold nextR at h0
    rw [if_pos hr] at h0
    exact absurd h0 (by decide)
  · rfl
theorem right_small {s : Sg} (h : rightB s = true) : 0 ≤ s.at' ∧ s.at' ≤ 5 := by
  have h1 := right_at h
  have h2 := nL_le s.k
  omega
set_option maxHeartbeats 400000 in
theorem adv_any (s : Sg) (d : Bool) (hk : u8B s.k) (w : World) : Calls Try.prog 21 #[vg s, .bool d] w fun e w' => e = .returned (.tuple #[vg (advR s d).1, .int .i64 (advR s d).2]) ∧ Below w.heap.size w w' := by
  have HNX := hide (next_any s hk)
  have HR : Hid (advR s d = if ¬ (nextR s).why = 0 then (Sg0, (nextR s).why) else if (nextR s).is = false then (Sg0, 9) else if d = true then ({ s with at' := if s.u = true then s.at' - 1 else s.at' + 1 }, 0) else (if s.u = false ∧ tuB (nextR s).st = true then { s with u := true } else s, 0)) := hide rfl
  have HOK := hide (fun h => right_small (next_ok (s := s) h))
  generalize advR s d = R at *
  generalize nextR s = X at *
  obtain ⟨x1, x2, x3⟩ := X
  obtain ⟨o, k, t, u⟩ := s
  dsimp only at *
  have HTU := hide (tu_any x1)
  generalize tuB x1 = bt at *
  clear hk
  have HB0 : Hid (Below w.heap.size w ((w.alloc (.cells #[.int .i64 o, .int .u8 k, .int .i64 t, .bool u] 33)).alloc (.cells #[.int .i64 0, .int .u8 0, .int .i64 0, .bool false] 33))) := hide (((Below.refl _ w).alloc (Nat.le_refl _) _).alloc (by simp) _)
  have HG0 : Hid (Blk ((w.alloc (.cells #[.int .i64 o, .int .u8 k, .int .i64 t, .bool u] 33)).alloc (.cells #[.int .i64 0, .int .u8 0, .int .i64 0, .bool false] 33)) w.heap.size ⟨o, k, t, u⟩ ∧ Blk ((w.alloc (.cells #[.int .i64 o, .int .u8 k, .int .i64 t, .bool u] 33)).alloc (.cells #[.int .i64 0, .int .u8 0, .int .i64 0, .bool false] 33)) (w.heap.size + 1) Sg0) := hide (by
    refine ⟨(Below.heap_alloc _ _ _ (by simp)).trans (heap_alloc_new _ _), ?_⟩
    have := heap_alloc_new (w.alloc (.cells #[.int .i64 o, .int .u8 k, .int .i64 t, .bool u] 33)) (.cells #[.int .i64 0, .int .u8 0, .int .i64 0, .bool false] 33)
    rwa [show (w.alloc (.cells #[.int .i64 o, .int .u8 k, .int .i64 t, .bool u] 33)).heap.size = w.heap.size + 1 by simp] at this)
  go_enter Try.func21, Try.ntmps21
  go_wp2_with fail
  generalize (w.alloc (.cells #[.int .i64 o, .int .u8 k, .int .i64 t, .bool u] 33)).alloc (.cells #[.int .i64 0, .int .u8 0, .int .i64 0, .bool false] 33) = W0 at *
  refine (HNX.out W0).mono ?_
  rintro e w1 ⟨rfl, hb⟩
  have HB1 : Hid (Below w.heap.size w w1) := hide (HB0.out.trans (hb.mono HB0.out.size))
  have HG1 : Hid (Blk w1 w.heap.size ⟨o, k, t, u⟩) := hide (HG0.out.1.below' hb)
  have HZ1 : Hid (Blk w1 (w.heap.size + 1) Sg0) := hide (HG0.out.2.below' hb)
  clear hb HB0 HG0 HNX
  obtain ⟨c0, c1, c2, c3⟩ := HG1.out.cells
  have f1 := HG1.out.froz
  obtain ⟨d0, d1, d2, d3⟩ := HZ1.out.cells
  have f2 := HZ1.out.froz
  dsimp only [Sg0] at c0 c1 c2 c3 d0 d1 d2 d3
  by_cases hy : x3 = 0
  · subst hy
    rw [if_neg (by simp)] at HR
    have HT5 := hide (HOK.out rfl)
    cases x2
    · rw [if_pos rfl] at HR
      go_wp2
      refine bodyPost_ret (res2g rfl _ (put4 w1 (w.heap.size + 1) Sg0) (w.heap.size + 1) Sg0 (put4_blk HZ1.out _) rfl) rfl ?_
      exact ⟨by rw [HR.out]; rfl, put4_below HB1.out (by omega) Sg0⟩
    · rw [if_neg (by simp)] at HR
      cases d
      · rw [if_neg (by simp)] at HR
        cases u
        · cases bt
          · rw [if_neg (by simp)] at HR
            go_wp2_with (first | (go_at_call 17; refine (HTU.out _).mono ?_; rintro e w' ⟨rfl, he'⟩; obtain rfl := he'.symm; clear he'))
            refine bodyPost_ret (res2g rfl _ (put4 w1 (w.heap.size + 1) ⟨o, k, t, false⟩) (w.heap.size + 1) ⟨o, k, t, false⟩ (put4_blk HZ1.out _) rfl) rfl ?_
            exact ⟨by rw [HR.out]; rfl, put4_below HB1.out (by omega) ⟨o, k, t, false⟩⟩
          · rw [if_pos ⟨rfl, rfl⟩] at HR
            go_wp2_with (first | (go_at_call 17; refine (HTU.out _).mono ?_; rintro e w' ⟨rfl, he'⟩; obtain rfl := he'.symm; clear he'))
            refine bodyPost_ret (res2g rfl _ (put4 (w1.setCell ⟨w.heap.size, 3, none⟩ (.bool true)) (w.heap.size + 1) ⟨o, k, t, true⟩) (w.heap.size + 1) ⟨o, k, t, true⟩ (put4_blk (HZ1.out.set_other (by omega) _) _) rfl) rfl ?_
            exact ⟨by rw [HR.out]; rfl, put4_below (HB1.out.setCell (Nat.le_refl _) _) (by omega) ⟨o, k, t, true⟩⟩
        · rw [if_neg (by simp)] at HR
          go_wp2
          refine bodyPost_ret (res2g rfl _ (put4 w1 (w.heap.size + 1) ⟨o, k, t, true⟩) (w.heap.size + 1) ⟨o, k, t, true⟩ (put4_blk HZ1.out _) rfl) rfl ?_
          exact ⟨by rw [HR.out]; rfl, put4_below HB1.out (by omega) ⟨o, k, t, true⟩⟩
      · rw [if_pos rfl] at HR
        cases u
        · simp only [Bool.false_eq_true, if_false] at HR
          have hw : IntKind.i64.wrap (t + 1) = t + 1 := by have := HT5.out; exact wrap64 (by omega) (by omega)
          go_wp2
          refine bodyPost_ret (res2g rfl _ (put4 (w1.setCell ⟨w.heap.size, 2, none⟩ (.int .i64 (t + 1))) (w.heap.size + 1) ⟨o, k, t + 1, false⟩) (w.heap.size + 1) ⟨o, k, t + 1, false⟩ (put4_blk (HZ1.out.set_other (by omega) _) _) rfl) rfl ?_
          exact ⟨by rw [HR.out]; rfl, put4_below (HB1.out.setCell (Nat.le_refl _) _) (by omega) ⟨o, k, t + 1, false⟩⟩
        · simp only [if_true] at HR
          have hw : IntKind.i64.wrap (t - 1) = t - 1 := by have := HT5.out; exact wrap64 (by omega) (by omega)
          go_wp2
          refine bodyPost_ret (res2g rfl _ (put4 (w1.setCell ⟨w.heap.size, 2, none⟩ (.int .i64 (t - 1))) (w.heap.size + 1) ⟨o, k, t - 1, true⟩) (w.heap.size + 1) ⟨o, k, t - 1, true⟩ (put4_blk (HZ1.out.set_other (by omega) _) _) rfl) rfl ?_
          exact ⟨by rw [HR.out]; rfl, put4_below (HB1.out.setCell (Nat.le_refl _) _) (by omega) ⟨o, k, t - 1, true⟩⟩
  · rw [if_pos hy] at HR
    have hyb : (x3 == 0) = false := by simpa using hy
    go_wp2
    refine bodyPost_ret (res2g rfl _ (put4 w1 (w.heap.size + 1) Sg0) (w.heap.size + 1) Sg0 (put4_blk HZ1.out _) rfl) rfl ?_
    exact ⟨by rw [HR.out]; rfl, put4_below HB1.out (by omega) Sg0⟩
set_option maxHeartbeats 1500000 in
/-- the document's Check -/
theorem rcheck_any (s : Sg) (w : World) : Calls Try.prog 26 #[vg s] w fun e w' => e = .returned (.int .i64 (checkE s)) ∧ Below w.heap.size w w' := by
  have HR : Hid (checkE s = if rightB s = true then 0 else 2) := hide rfl
  have HRB : Hid (rightB s = decide ((¬ nL s.k = 0 ∧ 0 ≤ s.at' ∧ s.at' ≤ nL s.k) ∧ (s.k = 2 → s.u = true) ∧ (s.u = true → ¬ s.at' = nL s.k) ∧ (s.u = true → s.k = 3 → s.at' = 0))) := hide rfl
  generalize checkE s = r at *
  generalize rightB s = rb at *
  obtain ⟨o, k, t, u⟩ := s
  dsimp only at *
  have HST := hide (rsteps_at k)
  generalize nL k = N at *
  have HB0 : Hid (Below w.heap.size w (w.alloc (.cells #[.int .i64 o, .int .u8 k, .int .i64 t, .bool u] 33))) := hide ((Below.refl _ w).alloc (Nat.le_refl _) _)
  have HG0 : Hid (Blk (w.alloc (.cells #[.int .i64 o, .int .u8 k, .int .i64 t, .bool u] 33)) w.heap.size ⟨o, k, t, u⟩) := hide (heap_alloc_new _ _)
  have NO : Hid (¬ ((¬ N = 0 ∧ 0 ≤ t ∧ t ≤ N) ∧ (k = 2 → u = true) ∧ (u = true → ¬ t = N) ∧ (u = true → k = 3 → t = 0)) → (2 : Int) = r) := hide (fun h => by rw [HR.out, HRB.out, decide_eq_false h]; rfl)
  have YES : Hid (((¬ N = 0 ∧ 0 ≤ t ∧ t ≤ N) ∧ (k = 2 → u = true) ∧ (u = true → ¬ t = N) ∧ (u = true → k = 3 → t = 0)) → (0 : Int) = r) := hide (fun h => by rw [HR.out, HRB.out, decide_eq_true h]; rfl)
  clear HR HRB
  go_enter Try.func26, Try.ntmps26
  go_wp2_with fail
  generalize w.alloc (.cells #[.int .i64 o, .int .u8 k, .int .i64 t, .bool u] 33) = W0 at *
  refine (HST.out W0).mono ?_
  rintro e w1 ⟨a, c, rfl, HO, hb⟩
  have HB1 : Hid (Below w.heap.size w w1) := hide (HB0.out.trans (hb.mono HB0.out.size))
  have HG1 : Hid (Blk w1 w.heap.size ⟨o, k, t, u⟩) := hide (HG0.out.below' hb)
  clear hb HO HST HB0 HG0
  obtain ⟨c0, c1, c2, c3⟩ := HG1.out.cells
  dsimp only at c0 c1 c2 c3
  by_cases hN : N = 0
  · have HF := hide (NO.out (fun h => h.1.1 hN))
    subst hN
    go_wp2
    go_ret
    exact ⟨ret_int HF.out, HB1.out⟩
  have hNi : ((N : Int) == 0) = false := by simp; omega
  have hNd : ¬ (N : Int) = 0 := by omega
  by_cases h1 : t < 0
  · have HF := hide (NO.out (fun h => by have := h.1.2.1; omega))
    go_wp2
    go_ret
    exact ⟨ret_int HF.out, HB1.out⟩
  have H1 : Hid (0 ≤ t) := hide (by omega)
  by_cases h2 : (N : Int) < t
  · have HF := hide (NO.out (fun h => by have := h.1.2.2; omega))
    go_wp2
    go_ret
    exact ⟨ret_int HF.out, HB1.out⟩
  have H2 : Hid (t ≤ N) := hide (by omega)
  cases u
  · by_cases h3 : k = 2
    · have HF := hide (NO.out (fun h => absurd (h.2.1 h3) (by simp)))
      subst h3
      go_wp2
      go_ret
      exact ⟨ret_int HF.out, HB1.out⟩
    · have HF := hide (YES.out ⟨⟨hN, H1.out, H2.out⟩, fun h => absurd h h3, fun h => absurd h (by simp), fun h => absurd h (by simp)⟩)
      go_wp2
      go_ret
      exact ⟨ret_int HF.out, HB1.out⟩
  · by_cases h4 : t = (N : Int)
    · have HF := hide (NO.out (fun h => h.2.2.1 rfl h4))
      subst h4
      by_cases h3 : k = 2
      · subst h3
        go_wp2
        go_ret
        exact ⟨ret_int HF.out, HB1.out⟩
      · go_wp2
        go_ret
        exact ⟨ret_int HF.out, HB1.out⟩
    · have h4b : (t == (N : Int)) = false := by simpa using h4
      by_cases h5 : k = 3
      · subst h5
        by_cases h6 : t = 0
        · have HF := hide (YES.out ⟨⟨hN, H1.out, H2.out⟩, fun _ => rfl, fun _ => h4, fun _ _ => h6⟩)
          subst h6
          go_wp2
          go_ret
          exact ⟨ret_int HF.out, HB1.out⟩
        · have HF := hide (NO.out (fun h => h6 (h.2.2.2 rfl rfl)))
          have h6b : (t != 0) = true := by simpa using h6
          go_wp2
          go_ret
          exact ⟨ret_int HF.out, HB1.out⟩
      · have HF := hide (YES.out ⟨⟨hN, H1.out, H2.out⟩, fun _ => rfl, fun _ => h4, fun _ h => absurd h h5⟩)
        by_cases h3 : k = 2
        · subst h3
          go_wp2
          go_ret
          exact ⟨ret_int HF.out, HB1.out⟩
        · go_wp2
          go_ret
          exact ⟨ret_int HF.out, HB1.out⟩
set_option maxHeartbeats 1000000 in
theorem rleft_any (s : Sg) (w : World) : Calls Try.prog 24 #[vg s] w fun e w' => e = .returned (.tuple #[.int .i64 (leftR s).1, .int .i64 (leftR s).2]) ∧ Below w.heap.size w w' := by
  have HF := hide (rcheck_any s)
  have HR : Hid (leftR s = if checkE s = 0 then (if s.u = true then s.at' else (nL s.k : Int) - s.at', 0) else (0, checkE s)) := hide rfl
  have HC := hide (checkE_cases s)
  have HA := hide (right_at (s := s))
  have HN := hide (nL_le s.k)
  generalize leftR s = R at *
  generalize checkE s = ce at *
  generalize rightB s = rb at *
  obtain ⟨o, k, t, u⟩ := s
  dsimp only at *
  have HST := hide (rsteps_at k)
  generalize nL k = N at *
  have HB0 : Hid (Below w.heap.size w (w.alloc (.cells #[.int .i64 o, .int .u8 k, .int .i64 t, .bool u] 33))) := hide ((Below.refl _ w).alloc (Nat.le_refl _) _)
  have HG0 : Hid (Blk (w.alloc (.cells #[.int .i64 o, .int .u8 k, .int .i64 t, .bool u] 33)) w.heap.size ⟨o, k, t, u⟩) := hide (heap_alloc_new _ _)
  go_enter Try.func24, Try.ntmps24
  go_wp2_with fail
  generalize w.alloc (.cells #[.int .i64 o, .int .u8 k, .int .i64 t, .bool u] 33) = W0 at *
  refine (HF.out W0).mono ?_
  rintro e w1 ⟨rfl, hb⟩
  have HB1 : Hid (Below w.heap.size w w1) := hide (HB0.out.trans (hb.mono HB0.out.size))
  have HG1 : Hid (Blk w1 w.heap.size ⟨o, k, t, u⟩) := hide (HG0.out.below' hb)
  clear hb HF HB0 HG0
  obtain ⟨c0, c1, c2, c3⟩ := HG1.out.cells
  dsimp only at c0 c1 c2 c3
  rcases HC.out with ⟨rfl, rfl⟩ | ⟨rfl, rfl⟩
  · rw [if_pos rfl] at HR
    have HAT := hide (HA.out rfl)
    clear HA HC
    cases u
    · rw [if_neg (by simp)] at HR
      have hw : IntKind.i64.wrap ((N : Int) - t) = (N : Int) - t := by
        have h1 := HAT.out
        have h2 := HN.out
        exact wrap64 (by omega) (by omega)
      have HS0 : Hid (∀ W : World, Below w1.heap.size w1 W → W.cell? ⟨w.heap.size, 1, none⟩ = some (.int .u8 k) ∧ W.cell? ⟨w.heap.size, 2, none⟩ = some (.int .i64 t)) := hide (fun W hW => by
        obtain ⟨_, d1, d2, _⟩ := (HG1.out.below' hW).cells
        exact ⟨d1, d2⟩)
      have HBR := hide (Below.refl w1.heap.size w1)
      go_wp2_with fail
      go_region_held (fun W : World => W.cell? ⟨w.heap.size, 1, none⟩ = some (.int .u8 k) ∧ W.cell? ⟨w.heap.size, 2, none⟩ = some (.int .i64 t)) (first | exact HS0.out _ HBR.out | exact HS0.out _ HBR.out.drew | exact HS0.out _ (HBR.out.drew.trans HB2)) (first | (go_at_call 13; refine (HST.out _).mono ?_; rintro e w2 ⟨a, c, rfl, HO, HB2⟩))
      go_wp2
      go_ret2
      exact ⟨ret_left (by rw [HR.out]) (by rw [HR.out]), HB1.out.trans ((HBR.out.drew.trans HB2).mono HB1.out.size)⟩
    · rw [if_pos rfl] at HR
      go_wp2
      go_ret2
      exact ⟨ret_left (by rw [HR.out]) (by rw [HR.out]), HB1.out⟩
  · rw [if_neg (by decide)] at HR
    go_wp2
    go_ret2
    exact ⟨ret_left (by rw [HR.out]) (by rw [HR.out]), HB1.out⟩
set_option maxHeartbeats 1000000 in
/-- the document's Next -/
theorem rnext_any (s : Sg) (w : World) : Calls Try.prog 20 #[vg s] w fun e w' => e = .returned (.tuple #[.int .u8 (nextR s).st, .bool (nextR s).is, .int .i64 (nextR s).why]) ∧ Below w.heap.size w w' := by
  have HC := hide (rcheck_any s)
  have HR : Hid (nextR s = if rightB s = false then ⟨0, false, 2⟩ else if (leftR s).1 = 0 then ⟨0, false, 0⟩ else if s.u = false then ⟨(stepsL s.k).getD s.at'.toNat 0, true, 0⟩ else ⟨unV ((stepsL s.k).getD (s.at' - 1).toNat 0), unB ((stepsL s.k).getD (s.at' - 1).toNat 0), 0⟩) := hide rfl
  have HN := hide (nL_le s.k)
  have HST := hide (rsteps_at s.k)
  have HLN : Hid ((stepsL s.k).length = nL s.k) := hide rfl
  cases hr : rightB s
  · have hc : checkE s = 2 := by unfold checkE; rw [hr]; rfl
    rw [hc] at HC
    rw [if_pos hr] at HR
    generalize nextR s = R at *
    obtain ⟨o, k, t, u⟩ := s
    dsimp only at *
    clear hr hc
    have HB0 : Hid (Below w.heap.size w (w.alloc (.cells #[.int .i64 o, .int .u8 k, .int .i64 t, .bool u] 33))) := hide ((Below.refl _ w).alloc (Nat.le_refl _) _)
    go_enter Try.func20, Try.ntmps20
    go_wp2_with fail
    generalize w.alloc (.cells #[.int .i64 o, .int .u8 k, .int .i64 t, .bool u] 33) = W0 at *
    refine (HC.out W0).mono ?_
    rintro e w1 ⟨rfl, hb⟩
    have HB1 : Hid (Below w.heap.size w w1) := hide (HB0.out.trans (hb.mono HB0.out.size))
    clear hb
    go_wp2
    go_ret3
    exact ⟨ret_next (by rw [HR.out]) (by rw [HR.out]) (by rw [HR.out]), HB1.out⟩
  · have hc : checkE s = 0 := by unfold checkE; rw [hr]; rfl
    rw [hc] at HC
    rw [leftR_right hr] at HR
    rw [if_neg (by rw [hr]; simp)] at HR
    have HAT := hide (right_at hr)
    generalize nextR s = R at *
    obtain ⟨o, k, t, u⟩ := s
    dsimp only at *
    clear hr hc
    generalize nL k = N at *
    generalize stepsL k = SL at *
    have HB0 : Hid (Below w.heap.size w (w.alloc (.cells #[.int .i64 o, .int .u8 k, .int .i64 t, .bool u] 33))) := hide ((Below.refl _ w).alloc (Nat.le_refl _) _)
    have HG0 : Hid (Blk (w.alloc (.cells #[.int .i64 o, .int .u8 k, .int .i64 t, .bool u] 33)) w.heap.size ⟨o, k, t, u⟩) := hide (heap_alloc_new _ _)
    go_enter Try.func20, Try.ntmps20
    go_wp2_with fail
    generalize w.alloc (.cells #[.int .i64 o, .int .u8 k, .int .i64 t, .bool u] 33) = W0 at *
    refine (HC.out W0).mono ?_
    rintro e w1 ⟨rfl, hb⟩
    have HB1 : Hid (Below w.heap.size w w1) := hide (HB0.out.trans (hb.mono HB0.out.size))
    have HG1 : Hid (Blk w1 w.heap.size ⟨o, k, t, u⟩) := hide (HG0.out.below' hb)
    clear hb HB0 HG0 HC
    obtain ⟨c0, c1, c2, c3⟩ := HG1.out.cells
    dsimp only at c0 c1 c2 c3
    go_wp2_with fail
    refine (HST.out w1).mono ?_
    rintro e w2 ⟨a, c, rfl, HO, hb2⟩
    have HB2 : Hid (Below w.heap.size w w2) := hide (HB1.out.trans (hb2.mono HB1.out.size))
    have HG2 := hide (HG1.out.below' hb2)
    clear hb2 HST c0 c1 c2 c3
    obtain ⟨c0, c1, c2, c3⟩ := HG2.out.cells
    dsimp only at c0 c1 c2 c3
    obtain ⟨a', c', he, hcell⟩ := HO.out.form
    rw [HLN.out] at he hcell
    cases he
    have HCE := hide hcell
    clear hcell
    cases u
    · simp only [Bool.false_eq_true, if_false, if_true] at HR
      by_cases h0 : (N : Int) - t = 0
      · rw [if_pos h0] at HR
        obtain rfl : t = (N : Int) := by omega
        go_wp2
        go_ret3
        exact ⟨ret_next (by rw [HR.out]) (by rw [HR.out]) (by rw [HR.out]), HB2.out⟩
      · rw [if_neg h0] at HR
        obtain ⟨j, hj⟩ : ∃ j : Nat, t = (j : Int) := ⟨t.toNat, by have := HAT.out.1; omega⟩
        subst hj
        have hjN : j < N := by have := HAT.out.2; omega
        have hjI : (j : Int) < (N : Int) := by omega
        have hjb : ((j : Int) == (N : Int)) = false := by simp; omega
        have hjd : ¬ j = N := by omega
        clear h0
        obtain ⟨g, rfl, hg1, hg2, hgc, hgf⟩ := HCE.out j hjN
        simp only [Int.toNat_natCast] at HR
        generalize SL.getD j 0 = x at *
        clear hgf
        go_wp2
        go_ret3
        exact ⟨ret_next (by rw [HR.out]) (by rw [HR.out]) (by rw [HR.out]), HB2.out⟩
    · simp only [if_true, Bool.true_eq_false, if_false] at HR
      by_cases h0 : t = 0
      · rw [if_pos h0] at HR
        subst h0
        go_wp2
        go_ret3
        exact ⟨ret_next (by rw [HR.out]) (by rw [HR.out]) (by rw [HR.out]), HB2.out⟩
      · rw [if_neg h0] at HR
        have ht0 : (t == 0) = false := by simpa using h0
        obtain ⟨j, hj⟩ : ∃ j : Nat, t = (j : Int) + 1 := ⟨(t - 1).toNat, by have := HAT.out.1; omega⟩
        subst hj
        have hjN : j < N := by have := HAT.out.2; omega
        have hjI : (j : Int) < (N : Int) := by omega
        have hj5 : j ≤ 5 := by have := HN.out; omega
        have hw2 : IntKind.i64.wrap (j : Int) = (j : Int) := wrap64 (by omega) (by omega)
        obtain ⟨g, rfl, hg1, hg2, hgc, hgf⟩ := HCE.out j hjN
        simp only [Int.add_sub_cancel, Int.toNat_natCast] at HR
        have HUN := hide (run_any (SL.getD j 0))
        generalize SL.getD j 0 = x at *
        clear hgf hj5
        go_wp2_with (first | (go_at_call 10; refine (HUN.out _).mono ?_; rintro e w' ⟨rfl, he'⟩; obtain rfl := he'.symm; clear he'))
        go_ret3
        exact ⟨ret_next (by rw [HR.out]) (by rw [HR.out]) (by rw [HR.out]), HB2.out⟩
set_option maxHeartbeats 400000 in
theorem radv_any (s : Sg) (d : Bool) (w : World) : Calls Try.prog 22 #[vg s, .bool d] w fun e w' => e = .returned (.tuple #[vg (advR s d).1, .int .i64 (advR s d).2]) ∧ Below w.heap.size w w' := by
  have HNX := hide (rnext_any s)
  have HR : Hid (advR s d = if ¬ (nextR s).why = 0 then (Sg0, (nextR s).why) else if (nextR s).is = false then (Sg0, 9) else if d = true then ({ s with at' := if s.u = true then s.at' - 1 else s.at' + 1 }, 0) else (if s.u = false ∧ tuB (nextR s).st = true then { s with u := true } else s, 0)) := hide rfl
  have HOK := hide (fun h => right_small (next_ok (s := s) h))
  generalize advR s d = R at *
  generalize nextR s = X at *
  obtain ⟨x1, x2, x3⟩ := X
  obtain ⟨o, k, t, u⟩ := s
  dsimp only at *
  have HTU := hide (rtu_any x1)
  generalize tuB x1 = bt at *
  have HB0 : Hid (Below w.heap.size w ((w.alloc (.cells #[.int .i64 o, .int .u8 k, .int .i64 t, .bool u] 33)).alloc (.cells #[.int .i64 0, .int .u8 0, .int .i64 0, .bool false] 33))) := hide (((Below.refl _ w).alloc (Nat.le_refl _) _).alloc (by simp) _)
  have HG0 : Hid (Blk ((w.alloc (.cells #[.int .i64 o, .int .u8 k, .int .i64 t, .bool u] 33)).alloc (.cells #[.int .i64 0, .int .u8 0, .int .i64 0, .bool false] 33)) w.heap.size ⟨o, k, t, u⟩ ∧ Blk ((w.alloc (.cells #[.int .i64 o, .int .u8 k, .int .i64 t, .bool u] 33)).alloc (.cells #[.int .i64 0, .int .u8 0, .int .i64 0, .bool false] 33)) (w.heap.size + 1) Sg0) := hide (by
    refine ⟨(Below.heap_alloc _ _ _ (by simp)).trans (heap_alloc_new _ _), ?_⟩
    have := heap_alloc_new (w.alloc (.cells #[.int .i64 o, .int .u8 k, .int .i64 t, .bool u] 33)) (.cells #[.int .i64 0, .int .u8 0, .int .i64 0, .bool false] 33)
    rwa [show (w.alloc (.cells #[.int .i64 o, .int .u8 k, .int .i64 t, .bool u] 33)).heap.size = w.heap.size + 1 by simp] at this)
  go_enter Try.func22, Try.ntmps22
  go_wp2_with fail
  generalize (w.alloc (.cells #[.int .i64 o, .int .u8 k, .int .i64 t, .bool u] 33)).alloc (.cells #[.int .i64 0, .int .u8 0, .int .i64 0, .bool false] 33) = W0 at *
  refine (HNX.out W0).mono ?_
  rintro e w1 ⟨rfl, hb⟩
  have HB1 : Hid (Below w.heap.size w w1) := hide (HB0.out.trans (hb.mono HB0.out.size))
  have HG1 : Hid (Blk w1 w.heap.size ⟨o, k, t, u⟩) := hide (HG0.out.1.below' hb)
  have HZ1 : Hid (Blk w1 (w.heap.size + 1) Sg0) := hide (HG0.out.2.below' hb)
  clear hb HB0 HG0 HNX
  obtain ⟨c0, c1, c2, c3⟩ := HG1.out.cells
  have f1 := HG1.out.froz
  obtain ⟨d0, d1, d2, d3⟩ := HZ1.out.cells
  have f2 := HZ1.out.froz
  dsimp only [Sg0] at c0 c1 c2 c3 d0 d1 d2 d3
  by_cases hy : x3 = 0
  · subst hy
    rw [if_neg (by simp)] at HR
    have HT5 := hide (HOK.out rfl)
    cases x2
    · rw [if_pos rfl] at HR
      go_wp2
      refine bodyPost_ret (res2g rfl _ (put4 w1 (w.heap.size + 1) Sg0) (w.heap.size + 1) Sg0 (put4_blk HZ1.out _) rfl) rfl ?_
      exact ⟨by rw [HR.out]; rfl, put4_below HB1.out (by omega) Sg0⟩
    · rw [if_neg (by simp)] at HR
      cases d
      · rw [if_neg (by simp)] at HR
        cases u
        · cases bt
          · rw [if_neg (by simp)] at HR
            go_wp2_with (first | (go_at_call 18; refine (HTU.out _).mono ?_; rintro e w' ⟨rfl, he'⟩; obtain rfl := he'.symm; clear he'))
            refine bodyPost_ret (res2g rfl _ (put4 w1 (w.heap.size + 1) ⟨o, k, t, false⟩) (w.heap.size + 1) ⟨o, k, t, false⟩ (put4_blk HZ1.out _) rfl) rfl ?_
            exact ⟨by rw [HR.out]; rfl, put4_below HB1.out (by omega) ⟨o, k, t, false⟩⟩
          · rw [if_pos ⟨rfl, rfl⟩] at HR
            go_wp2_with (first | (go_at_call 18; refine (HTU.out _).mono ?_; rintro e w' ⟨rfl, he'⟩; obtain rfl := he'.symm; clear he'))
            refine bodyPost_ret (res2g rfl _ (put4 (w1.setCell ⟨w.heap.size, 3, none⟩ (.bool true)) (w.heap.size + 1) ⟨o, k, t, true⟩) (w.heap.size + 1) ⟨o, k, t, true⟩ (put4_blk (HZ1.out.set_other (by omega) _) _) rfl) rfl ?_
            exact ⟨by rw [HR.out]; rfl, put4_below (HB1.out.setCell (Nat.le_refl _) _) (by omega) ⟨o, k, t, true⟩⟩
        · rw [if_neg (by simp)] at HR
          go_wp2
          refine bodyPost_ret (res2g rfl _ (put4 w1 (w.heap.size + 1) ⟨o, k, t, true⟩) (w.heap.size + 1) ⟨o, k, t, true⟩ (put4_blk HZ1.out _) rfl) rfl ?_
          exact ⟨by rw [HR.out]; rfl, put4_below HB1.out (by omega) ⟨o, k, t, true⟩⟩
      · rw [if_pos rfl] at HR
        cases u
        · simp only [Bool.false_eq_true, if_false] at HR
          have hw : IntKind.i64.wrap (t + 1) = t + 1 := by have := HT5.out; exact wrap64 (by omega) (by omega)
          go_wp2
          refine bodyPost_ret (res2g rfl _ (put4 (w1.setCell ⟨w.heap.size, 2, none⟩ (.int .i64 (t + 1))) (w.heap.size + 1) ⟨o, k, t + 1, false⟩) (w.heap.size + 1) ⟨o, k, t + 1, false⟩ (put4_blk (HZ1.out.set_other (by omega) _) _) rfl) rfl ?_
          exact ⟨by rw [HR.out]; rfl, put4_below (HB1.out.setCell (Nat.le_refl _) _) (by omega) ⟨o, k, t + 1, false⟩⟩
        · simp only [if_true] at HR
          have hw : IntKind.i64.wrap (t - 1) = t - 1 := by have := HT5.out; exact wrap64 (by omega) (by omega)
          go_wp2
          refine bodyPost_ret (res2g rfl _ (put4 (w1.setCell ⟨w.heap.size, 2, none⟩ (.int .i64 (t - 1))) (w.heap.size + 1) ⟨o, k, t - 1, true⟩) (w.heap.size + 1) ⟨o, k, t - 1, true⟩ (put4_blk (HZ1.out.set_other (by omega) _) _) rfl) rfl ?_
          exact ⟨by rw [HR.out]; rfl, put4_below (HB1.out.setCell (Nat.le_refl _) _) (by omega) ⟨o, k, t - 1, true⟩⟩
  · rw [if_pos hy] at HR
    have hyb : (x3 == 0) = false := by simpa using hy
    go_wp2
    refine bodyPost_ret (res2g rfl _ (put4 w1 (w.heap.size + 1) Sg0) (w.heap.size + 1) Sg0 (put4_blk HZ1.out _) rfl) rfl ?_
    exact ⟨by rw [HR.out]; rfl, put4_below HB1.out (by omega) Sg0⟩
end Go.Proofs.Ytmkholgflhaacaa
