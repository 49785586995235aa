/- Check, Left -/
import Derived.Test.YtfbfmhfceemkgaaDoorPC
namespace Go.Proofs.YtfbfmhfceemkgaaDoor.Pl
open Go.RowKit
set_option linter.unusedVariables false
def nL (k : Int) : Nat := (stepsL k).length
theorem nL_le (k : Int) : nL k ≤ 5 := by unfold nL stepsL; repeat' split
                                         all_goals simp
theorem steps_at (k : Int) (hk : u8B k) (w : World) : Calls Tryd.prog 14 #[.int .u8 k] w fun e w' => ∃ a c, e = .returned (.slice a (nL k) c) ∧ Hid (OwnK w' w.heap.size (.slice a (nL k) c) (stepsL k)) ∧ Below w.heap.size w w' := by
  refine (steps_any k hk w).mono ?_
  rintro e w' ⟨v, rfl, h, hb⟩
  obtain ⟨a, c, rfl, _⟩ := h.out.form
  exact ⟨a, c, rfl, h, hb⟩
theorem ret_far {x x' : Int} {b b' : Bool} (h : x = x') (h' : b = b') : Ending.returned (.tuple #[.int .i64 x, .bool b]) = .returned (.tuple #[.int .i64 x', .bool b']) := by rw [h, h']
theorem ret_left {x x' y y' : Int} (h : x = x') (h' : y = y') : Ending.returned (.tuple #[.int .i64 x, .int .i64 y]) = .returned (.tuple #[.int .i64 x', .int .i64 y']) := by rw [h, h']
/-- how far a saga may be -/
def faR (s : Sg) : Int × Bool := if nL s.k = 0 then (0, false) else if s.u = false then ((nL s.k : Int), decide (¬ s.k = 2)) else if s.k = 3 then (0, true) else ((nL s.k : Int) - 1, true)
theorem wrap64 {n : Int} (h : -9223372036854775808 ≤ n) (h' : n ≤ 9223372036854775807) : IntKind.i64.wrap n = n := by
  simp [IntKind.wrap_i64]; omega
set_option maxHeartbeats 1000000 in
theorem far_any (s : Sg) (hk : u8B s.k) (w : World) : Calls Tryd.prog 32 #[vg s] w fun e w' => e = .returned (.tuple #[.int .i64 (faR s).1, .bool (faR s).2]) ∧ Below w.heap.size w w' := by
  have HR : Hid (faR s = if nL s.k = 0 then (0, false) else if s.u = false then ((nL s.k : Int), decide (¬ s.k = 2)) else if s.k = 3 then (0, true) else ((nL s.k : Int) - 1, true)) := hide rfl
  have HN := hide (nL_le s.k)
  obtain ⟨o, k, t, u⟩ := s
  dsimp only at *
  have HST := hide (steps_at k hk)
  generalize nL k = N at *
  generalize faR ⟨o, k, t, u⟩ = R at *
  clear hk
  have HB0 : Hid (Below w.heap.size w (w.alloc (.cells #[.int .i64 o, .int .u8 k, .int .i64 t, .bool u] 27))) := hide ((Below.refl _ w).alloc (Nat.le_refl _) _)
  have HG0 : Hid (Blk (w.alloc (.cells #[.int .i64 o, .int .u8 k, .int .i64 t, .bool u] 27)) w.heap.size ⟨o, k, t, u⟩) := hide (heap_alloc_new _ _)
  go_enter Tryd.func32, Tryd.ntmps32
  go_wp2_with fail
  generalize w.alloc (.cells #[.int .i64 o, .int .u8 k, .int .i64 t, .bool u] 27) = W0 at *
  refine (HST.out W0).mono ?_
  rintro e w1 ⟨a, c, rfl, HO, hb⟩
  have HB1 : Hid (Below w.heap.size w w1) := hide (HB0.out.trans (hb.mono HB0.out.size))
  have HG1 : Hid (Blk w1 w.heap.size ⟨o, k, t, u⟩) := hide (HG0.out.below' hb)
  clear hb HO HST HB0 HG0
  obtain ⟨c0, c1, c2, c3⟩ := HG1.out.cells
  dsimp only at c0 c1 c2 c3
  by_cases hN : N = 0
  · subst hN
    rw [if_pos rfl] at HR
    go_wp2
    go_ret2
    exact ⟨ret_far (by rw [HR.out]) (by rw [HR.out]), HB1.out⟩
  · rw [if_neg hN] at HR
    have hNi : ((N : Int) == 0) = false := by simp; omega
    have hNd : ¬ (N : Int) = 0 := by omega
    cases u
    · rw [if_pos rfl] at HR
      have HS : Hid (w1.drew.cell? ⟨w.heap.size, 1, none⟩ = some (.int .u8 k)) := hide c1
      go_wp2_with fail
      go_region_held (fun W : World => W.cell? ⟨w.heap.size, 1, none⟩ = some (.int .u8 k)) (exact HS.out) (fail)
      go_wp2
      go_ret2
      exact ⟨ret_far (by rw [HR.out]) (by rw [HR.out]; show (k != 2) = decide (¬ k = 2); by_cases h : k = 2 <;> simp [h]), HB1.out.drew⟩
    · rw [if_neg (by simp)] at HR
      by_cases h3 : k = 3
      · rw [if_pos h3] at HR
        subst h3
        go_wp2
        go_ret2
        exact ⟨ret_far (by rw [HR.out]) (by rw [HR.out]), HB1.out⟩
      · rw [if_neg h3] at HR
        have hw : IntKind.i64.wrap ((N : Int) - 1) = (N : Int) - 1 := wrap64 (by omega) (by have := HN.out; omega)
        go_wp2
        go_ret2
        exact ⟨ret_far (by rw [HR.out]) (by rw [HR.out]), HB1.out⟩
/-- a right saga -/
def rightB (s : Sg) : Bool := decide ((¬ nL s.k = 0 ∧ 0 ≤ s.at' ∧ s.at' ≤ nL s.k) ∧ (s.k = 2 → s.u = true) ∧ (s.u = true → ¬ s.at' = nL s.k) ∧ (s.u = true → s.k = 3 → s.at' = 0))
def checkE (s : Sg) : Int := if rightB s = true then 0 else 2
theorem right_far (s : Sg) : rightB s = ((faR s).2 && (!decide (s.at' < 0) && !decide ((faR s).1 < s.at'))) := by
  obtain ⟨o, k, t, u⟩ := s
  unfold rightB faR
  rw [Bool.eq_iff_iff]
  dsimp only
  by_cases hN : nL k = 0
  · rw [if_pos hN]; simp [hN]
  · rw [if_neg hN]
    have h5 := nL_le k
    cases u
    · simp only [if_true, decide_eq_true_eq, Bool.and_eq_true, Bool.not_eq_true', decide_eq_false_iff_not, Bool.false_eq_true]
      constructor
      · rintro ⟨⟨_, h1, h2⟩, h3, _, _⟩; exact ⟨fun h => h3 h, by omega, by omega⟩
      · rintro ⟨h1, h2, h3⟩; exact ⟨⟨hN, by omega, by omega⟩, fun h => h1 h, fun h => absurd h (by simp), fun h => absurd h (by simp)⟩
    · by_cases h3 : k = 3
      · subst h3
        simp [show nL 3 = 3 from rfl]
        omega
      · simp [h3, hN]
        omega
set_option maxHeartbeats 1000000 in
theorem check_any (s : Sg) (hk : u8B s.k) (w : World) : Calls Tryd.prog 25 #[vg s] w fun e w' => e = .returned (.int .i64 (checkE s)) ∧ Below w.heap.size w w' := by
  have HF := hide (far_any s hk)
  have HR : Hid (checkE s = if ((faR s).2 && (!decide (s.at' < 0) && !decide ((faR s).1 < s.at'))) = true then 0 else 2) := hide (by rw [← right_far]; rfl)
  generalize checkE s = r at *
  generalize faR s = F at *
  obtain ⟨f1, f2⟩ := F
  obtain ⟨o, k, t, u⟩ := s
  dsimp only at *
  clear hk
  have HB0 : Hid (Below w.heap.size w (w.alloc (.cells #[.int .i64 o, .int .u8 k, .int .i64 t, .bool u] 27))) := hide ((Below.refl _ w).alloc (Nat.le_refl _) _)
  have HG0 : Hid (Blk (w.alloc (.cells #[.int .i64 o, .int .u8 k, .int .i64 t, .bool u] 27)) w.heap.size ⟨o, k, t, u⟩) := hide (heap_alloc_new _ _)
  go_enter Tryd.func25, Tryd.ntmps25
  go_wp2_with fail
  generalize w.alloc (.cells #[.int .i64 o, .int .u8 k, .int .i64 t, .bool u] 27) = W0 at *
  refine (HF.out W0).mono ?_
  rintro e w1 ⟨rfl, hb⟩
  have HB1 : Hid (Below w.heap.size w w1) := hide (HB0.out.trans (hb.mono HB0.out.size))
  have HG1 : Hid (Blk w1 w.heap.size ⟨o, k, t, u⟩) := hide (HG0.out.below' hb)
  clear hb HF HB0 HG0
  obtain ⟨c0, c1, c2, c3⟩ := HG1.out.cells
  dsimp only at c0 c1 c2 c3
  cases f2
  · go_wp2
    go_ret
    exact ⟨ret_int (by rw [HR.out]; simp), HB1.out⟩
  · by_cases h1 : t < 0
    · have H1 := hide (decide_eq_true h1)
      go_wp2
      go_ret
      exact ⟨ret_int (by rw [HR.out, H1.out]; simp), HB1.out⟩
    · have H1 := hide (decide_eq_false h1)
      by_cases h2 : f1 < t
      · have H2 := hide (decide_eq_true h2)
        go_wp2
        go_ret
        exact ⟨ret_int (by rw [HR.out, H1.out, H2.out]; simp), HB1.out⟩
      · have H2 := hide (decide_eq_false h2)
        go_wp2
        go_ret
        exact ⟨ret_int (by rw [HR.out, H1.out, H2.out]; simp), HB1.out⟩
/-- what Left answers -/
def leftR (s : Sg) : Int × Int := if checkE s = 0 then (if s.u = true then s.at' else (nL s.k : Int) - s.at', 0) else (0, checkE s)
theorem checkE_cases (s : Sg) : (rightB s = true ∧ checkE s = 0) ∨ (rightB s = false ∧ checkE s = 2) := by
  unfold checkE
  cases rightB s
  · exact .inr ⟨rfl, rfl⟩
  · exact .inl ⟨rfl, rfl⟩
theorem right_at {s : Sg} (h : rightB s = true) : 0 ≤ s.at' ∧ s.at' ≤ nL s.k := by
  unfold rightB at h
  exact (of_decide_eq_true h).1.2
set_option maxHeartbeats 1000000 in
theorem left_any (s : Sg) (hk : u8B s.k) (w : World) : Calls Tryd.prog 13 #[vg s] w fun e w' => e = .returned (.tuple #[.int .i64 (leftR s).1, .int .i64 (leftR s).2]) ∧ Below w.heap.size w w' := by
  have HF := hide (check_any s hk)
  have HR : Hid (leftR s = if checkE s = 0 then (if s.u = true then s.at' else (nL s.k : Int) - s.at', 0) else (0, checkE s)) := hide rfl
  have HC := hide (checkE_cases s)
  have HA := hide (right_at (s := s))
  have HN := hide (nL_le s.k)
  generalize leftR s = R at *
  generalize checkE s = ce at *
  generalize rightB s = rb at *
  obtain ⟨o, k, t, u⟩ := s
  dsimp only at *
  have HST := hide (steps_at k hk)
  generalize nL k = N at *
  clear hk
  have HB0 : Hid (Below w.heap.size w (w.alloc (.cells #[.int .i64 o, .int .u8 k, .int .i64 t, .bool u] 27))) := hide ((Below.refl _ w).alloc (Nat.le_refl _) _)
  have HG0 : Hid (Blk (w.alloc (.cells #[.int .i64 o, .int .u8 k, .int .i64 t, .bool u] 27)) w.heap.size ⟨o, k, t, u⟩) := hide (heap_alloc_new _ _)
  go_enter Tryd.func13, Tryd.ntmps13
  go_wp2_with fail
  generalize w.alloc (.cells #[.int .i64 o, .int .u8 k, .int .i64 t, .bool u] 27) = W0 at *
  refine (HF.out W0).mono ?_
  rintro e w1 ⟨rfl, hb⟩
  have HB1 : Hid (Below w.heap.size w w1) := hide (HB0.out.trans (hb.mono HB0.out.size))
  have HG1 : Hid (Blk w1 w.heap.size ⟨o, k, t, u⟩) := hide (HG0.out.below' hb)
  clear hb HF HB0 HG0
  obtain ⟨c0, c1, c2, c3⟩ := HG1.out.cells
  dsimp only at c0 c1 c2 c3
  rcases HC.out with ⟨rfl, rfl⟩ | ⟨rfl, rfl⟩
  · rw [if_pos rfl] at HR
    have HAT := hide (HA.out rfl)
    clear HA HC
    cases u
    · rw [if_neg (by simp)] at HR
      have hw : IntKind.i64.wrap ((N : Int) - t) = (N : Int) - t := by
        have h1 := HAT.out
        have h2 := HN.out
        exact wrap64 (by omega) (by omega)
      have HS0 : Hid (∀ W : World, Below w1.heap.size w1 W → W.cell? ⟨w.heap.size, 1, none⟩ = some (.int .u8 k) ∧ W.cell? ⟨w.heap.size, 2, none⟩ = some (.int .i64 t)) := hide (fun W hW => by
        obtain ⟨_, d1, d2, _⟩ := (HG1.out.below' hW).cells
        exact ⟨d1, d2⟩)
      have HBR := hide (Below.refl w1.heap.size w1)
      go_wp2_with fail
      go_region_held (fun W : World => W.cell? ⟨w.heap.size, 1, none⟩ = some (.int .u8 k) ∧ W.cell? ⟨w.heap.size, 2, none⟩ = some (.int .i64 t)) (first | exact HS0.out _ HBR.out | exact HS0.out _ HBR.out.drew | exact HS0.out _ (HBR.out.drew.trans HB2)) (first | (go_at_call 14; refine (HST.out _).mono ?_; rintro e w2 ⟨a, c, rfl, HO, HB2⟩))
      go_wp2
      go_ret2
      exact ⟨ret_left (by rw [HR.out]) (by rw [HR.out]), HB1.out.trans ((HBR.out.drew.trans HB2).mono HB1.out.size)⟩
    · rw [if_pos rfl] at HR
      go_wp2
      go_ret2
      exact ⟨ret_left (by rw [HR.out]) (by rw [HR.out]), HB1.out⟩
  · rw [if_neg (by decide)] at HR
    go_wp2
    go_ret2
    exact ⟨ret_left (by rw [HR.out]) (by rw [HR.out]), HB1.out⟩
end Go.Proofs.YtfbfmhfceemkgaaDoor.Pl
