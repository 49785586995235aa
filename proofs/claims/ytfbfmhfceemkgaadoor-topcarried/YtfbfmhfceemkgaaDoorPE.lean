/- Next, Advance -/
import Derived.Test.YtfbfmhfceemkgaaDoorPD
import Derived.Laws.ResultCell
namespace Go.Proofs.YtfbfmhfceemkgaaDoor.Pl
open Go.RowKit
set_option linter.unusedVariables false
theorem steps_u8 (k : Int) (j : Nat) : u8B ((stepsL k).getD j 0) := by
  unfold stepsL
  split
  · rcases j with _ | _ | _ | _ | _ | j <;> simp [u8B]
  · split
    · rcases j with _ | _ | _ | j <;> simp [u8B]
    · simp [u8B]
/-- what Next answers -/
structure Nx where
  st : Int
  is : Bool
  why : Int
def nextR (s : Sg) : Nx :=
  if rightB s = false then ⟨0, false, 2⟩
  else if (leftR s).1 = 0 then ⟨0, false, 0⟩
  else if s.u = false then ⟨(stepsL s.k).getD s.at'.toNat 0, true, 0⟩
  else ⟨unV ((stepsL s.k).getD (s.at' - 1).toNat 0), unB ((stepsL s.k).getD (s.at' - 1).toNat 0), 0⟩
theorem ret_next {x x' y y' : Int} {b b' : Bool} (h : x = x') (hb : b = b') (h' : y = y') : Ending.returned (.tuple #[.int .u8 x, .bool b, .int .i64 y]) = .returned (.tuple #[.int .u8 x', .bool b', .int .i64 y']) := by rw [h, hb, h']
theorem leftR_right {s : Sg} (h : rightB s = true) : leftR s = (if s.u = true then s.at' else (nL s.k : Int) - s.at', 0) := by
  unfold leftR checkE
  rw [h, if_pos rfl, if_pos rfl]
theorem leftR_wrong {s : Sg} (h : rightB s = false) : leftR s = (0, 2) := by
  unfold leftR checkE
  rw [h]
  rfl
set_option maxHeartbeats 1000000 in
theorem next_any (s : Sg) (hk : u8B s.k) (w : World) : Calls Tryd.prog 5 #[vg s] w fun e w' => e = .returned (.tuple #[.int .u8 (nextR s).st, .bool (nextR s).is, .int .i64 (nextR s).why]) ∧ Below w.heap.size w w' := by
  have HL := hide (left_any s hk)
  have HR : Hid (nextR s = if rightB s = false then ⟨0, false, 2⟩ else if (leftR s).1 = 0 then ⟨0, false, 0⟩ else if s.u = false then ⟨(stepsL s.k).getD s.at'.toNat 0, true, 0⟩ else ⟨unV ((stepsL s.k).getD (s.at' - 1).toNat 0), unB ((stepsL s.k).getD (s.at' - 1).toNat 0), 0⟩) := hide rfl
  have HN := hide (nL_le s.k)
  have HU := hide (steps_u8 s.k)
  have HST := hide (steps_at s.k hk)
  have HLN : Hid ((stepsL s.k).length = nL s.k) := hide rfl
  cases hr : rightB s
  · rw [leftR_wrong hr] at HL
    rw [if_pos hr] at HR
    generalize nextR s = R at *
    obtain ⟨o, k, t, u⟩ := s
    dsimp only at *
    clear hr hk
    have HB0 : Hid (Below w.heap.size w (w.alloc (.cells #[.int .i64 o, .int .u8 k, .int .i64 t, .bool u] 27))) := hide ((Below.refl _ w).alloc (Nat.le_refl _) _)
    go_enter Tryd.func5, Tryd.ntmps5
    go_wp2_with fail
    generalize w.alloc (.cells #[.int .i64 o, .int .u8 k, .int .i64 t, .bool u] 27) = W0 at *
    refine (HL.out W0).mono ?_
    rintro e w1 ⟨rfl, hb⟩
    have HB1 : Hid (Below w.heap.size w w1) := hide (HB0.out.trans (hb.mono HB0.out.size))
    clear hb
    go_wp2
    go_ret3
    exact ⟨ret_next (by rw [HR.out]) (by rw [HR.out]) (by rw [HR.out]), HB1.out⟩
  · rw [leftR_right hr] at HL HR
    rw [if_neg (by rw [hr]; simp)] at HR
    have HAT := hide (right_at hr)
    generalize nextR s = R at *
    obtain ⟨o, k, t, u⟩ := s
    dsimp only at *
    clear hr hk
    generalize nL k = N at *
    generalize stepsL k = SL at *
    have HB0 : Hid (Below w.heap.size w (w.alloc (.cells #[.int .i64 o, .int .u8 k, .int .i64 t, .bool u] 27))) := hide ((Below.refl _ w).alloc (Nat.le_refl _) _)
    have HG0 : Hid (Blk (w.alloc (.cells #[.int .i64 o, .int .u8 k, .int .i64 t, .bool u] 27)) w.heap.size ⟨o, k, t, u⟩) := hide (heap_alloc_new _ _)
    go_enter Tryd.func5, Tryd.ntmps5
    go_wp2_with fail
    generalize w.alloc (.cells #[.int .i64 o, .int .u8 k, .int .i64 t, .bool u] 27) = W0 at *
    refine (HL.out W0).mono ?_
    rintro e w1 ⟨rfl, hb⟩
    have HB1 : Hid (Below w.heap.size w w1) := hide (HB0.out.trans (hb.mono HB0.out.size))
    have HG1 : Hid (Blk w1 w.heap.size ⟨o, k, t, u⟩) := hide (HG0.out.below' hb)
    clear hb HB0 HG0 HL
    obtain ⟨c0, c1, c2, c3⟩ := HG1.out.cells
    dsimp only at c0 c1 c2 c3
    cases u
    · simp only [Bool.false_eq_true, if_false, if_true] at HR ⊢
      by_cases h0 : (N : Int) - t = 0
      · rw [if_pos h0] at HR
        rw [h0]
        go_wp2
        go_ret3
        exact ⟨ret_next (by rw [HR.out]) (by rw [HR.out]) (by rw [HR.out]), HB1.out⟩
      · rw [if_neg h0] at HR
        generalize hq : (N : Int) - t = q at *
        have hq0 : (q == 0) = false := by simpa using h0
        have HQ := hide hq
        clear hq
        obtain ⟨j, hj⟩ : ∃ j : Nat, t = (j : Int) := ⟨t.toNat, by have := HAT.out.1; omega⟩
        subst hj
        have hjN : j < N := by have := HAT.out.2; have := HQ.out; omega
        have hjI : (j : Int) < (N : Int) := by omega
        go_wp2_with fail
        refine (HST.out w1).mono ?_
        rintro e w2 ⟨a, c, rfl, HO, hb2⟩
        have HB2 : Hid (Below w.heap.size w w2) := hide (HB1.out.trans (hb2.mono HB1.out.size))
        have HG2 := hide (HG1.out.below' hb2)
        clear hb2 HST c0 c1 c2 c3
        obtain ⟨c0, c1, c2, c3⟩ := HG2.out.cells
        dsimp only at c0 c1 c2 c3
        obtain ⟨a', c', he, hcell⟩ := HO.out.form
        rw [HLN.out] at he hcell
        cases he
        obtain ⟨g, rfl, hg1, hg2, hgc, hgf⟩ := hcell j hjN
        simp only [Int.toNat_natCast] at HR
        generalize SL.getD j 0 = x at *
        clear hcell hgf
        go_wp2
        go_ret3
        exact ⟨ret_next (by rw [HR.out]) (by rw [HR.out]) (by rw [HR.out]), HB2.out⟩
    · simp only [if_true, Bool.true_eq_false, if_false] at HR ⊢
      by_cases h0 : t = 0
      · rw [if_pos h0] at HR
        subst h0
        go_wp2
        go_ret3
        exact ⟨ret_next (by rw [HR.out]) (by rw [HR.out]) (by rw [HR.out]), HB1.out⟩
      · rw [if_neg h0] at HR
        have ht0 : (t == 0) = false := by simpa using h0
        obtain ⟨j, hj⟩ : ∃ j : Nat, t = (j : Int) + 1 := ⟨(t - 1).toNat, by have := HAT.out.1; omega⟩
        subst hj
        have hjN : j < N := by have := HAT.out.2; omega
        have hjI : (j : Int) < (N : Int) := by omega
        have hj5 : j ≤ 5 := by have := HN.out; omega
        have hw : IntKind.i64.wrap ((j : Int) + 1 - 1) = (j : Int) := by rw [Int.add_sub_cancel]; exact wrap64 (by omega) (by omega)
        have hw2 : IntKind.i64.wrap (j : Int) = (j : Int) := wrap64 (by omega) (by omega)
        go_wp2_with fail
        refine (HST.out w1).mono ?_
        rintro e w2 ⟨a, c, rfl, HO, hb2⟩
        have HB2 : Hid (Below w.heap.size w w2) := hide (HB1.out.trans (hb2.mono HB1.out.size))
        have HG2 := hide (HG1.out.below' hb2)
        clear hb2 HST c0 c1 c2 c3
        obtain ⟨c0, c1, c2, c3⟩ := HG2.out.cells
        dsimp only at c0 c1 c2 c3
        obtain ⟨a', c', he, hcell⟩ := HO.out.form
        rw [HLN.out] at he hcell
        cases he
        obtain ⟨g, rfl, hg1, hg2, hgc, hgf⟩ := hcell j hjN
        simp only [Int.add_sub_cancel, Int.toNat_natCast] at HR
        have HUN := hide (un_any (SL.getD j 0) (HU.out j))
        generalize SL.getD j 0 = x at *
        clear hcell hgf hj5
        go_wp2_with (first | (go_at_call 15; refine (HUN.out _).mono ?_; rintro e w3 ⟨rfl, HB3⟩))
        go_ret3
        exact ⟨ret_next (by rw [HR.out]) (by rw [HR.out]) (by rw [HR.out]), HB2.out.trans (HB3.mono HB2.out.size)⟩
end Go.Proofs.YtfbfmhfceemkgaaDoor.Pl
