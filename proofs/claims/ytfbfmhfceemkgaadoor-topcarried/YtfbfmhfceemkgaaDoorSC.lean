/- Next, Ends -/
import Derived.Test.YtfbfmhfceemkgaaDoorSB
namespace Go.Proofs.YtfbfmhfceemkgaaDoor
open Go.RowKit
theorem ret_u8 {x y : Int} (h : x = y) : Ending.returned (.int .u8 x) = .returned (.int .u8 y) := by rw [h]
theorem ret_nx {x y x' y' : Int} (h : x = x') (h' : y = y') : Ending.returned (.tuple #[.int .u8 x, .int .i64 y]) = .returned (.tuple #[.int .u8 x', .int .i64 y']) := by rw [h, h']
/-- what Next answers -/
def nxR (s m : Int) : Int × Int := if stB s = true ∧ mvB m = true then (if mk s m = 0 then (0, 9) else (mk s m, 0)) else (0, 15)
theorem nx_in (s m : Nat) (hs : s < 7) (hm : 0 < m) (hm' : m < 7) (w : World) (hT : Tab w) : Calls Tryd.prog 20 #[.int .u8 s, .int .u8 m] w fun e w' => e = .returned (.tuple #[.int .u8 (nxR s m).1, .int .i64 (nxR s m).2]) ∧ w' = w := by
  have hc := hT.2 s m hs hm'
  have hst : ∀ W, Calls Tryd.prog 26 #[.int .u8 s] W fun e w' => e = .returned (.bool true) ∧ w' = W := fun W => (st_any s W).mono fun e w' h => ⟨by rw [h.1]; simp [stB]; omega, h.2⟩
  have hmv : ∀ W, Calls Tryd.prog 29 #[.int .u8 m] W fun e w' => e = .returned (.bool true) ∧ w' = W := fun W => (mv_any m W).mono fun e w' h => ⟨by rw [h.1]; simp [mvB]; omega, h.2⟩
  have HM := hide hmv
  have HS := hide hst
  have HR : Hid (nxR s m = if mk s m = 0 then (0, 9) else (mk s m, 0)) := hide (by
    unfold nxR; rw [if_pos ⟨by simp [stB]; omega, by simp [mvB]; omega⟩])
  generalize nxR s m = R at *
  clear hst hmv hT
  by_cases h0 : mk s m = 0
  · rw [if_pos h0] at HR
    rw [h0] at hc
    clear h0
    go_enter Tryd.func20, Tryd.ntmps20
    go_wp2_with (first | (go_at_call 26; refine (HS.out _).mono ?_; rintro e w' ⟨rfl, rfl⟩) | (go_at_call 29; refine (HM.out _).mono ?_; rintro e w' ⟨rfl, rfl⟩))
    go_ret2
    exact ⟨ret_nx (by rw [HR.out]) (by rw [HR.out]), rfl⟩
  · rw [if_neg h0] at HR
    go_enter Tryd.func20, Tryd.ntmps20
    go_wp2_with (first | (go_at_call 26; refine (HS.out _).mono ?_; rintro e w' ⟨rfl, rfl⟩) | (go_at_call 29; refine (HM.out _).mono ?_; rintro e w' ⟨rfl, rfl⟩))
    go_ret2
    exact ⟨ret_nx (by rw [HR.out]) (by rw [HR.out]), rfl⟩
theorem nx_no (s m : Int) (hn : ¬ (stB s = true ∧ mvB m = true)) (w : World) : Calls Tryd.prog 20 #[.int .u8 s, .int .u8 m] w fun e w' => e = .returned (.tuple #[.int .u8 (nxR s m).1, .int .i64 (nxR s m).2]) ∧ w' = w := by
  have HR : Hid (nxR s m = (0, 15)) := hide (by unfold nxR; rw [if_neg hn])
  generalize nxR s m = R at *
  have HS := hide (st_any s)
  have HM := hide (mv_any m)
  generalize stB s = b at *
  generalize mvB m = c at *
  cases b
  · go_enter Tryd.func20, Tryd.ntmps20
    go_wp2_with (first | (go_at_call 26; refine (HS.out _).mono ?_; rintro e w' ⟨rfl, rfl⟩) | (go_at_call 29; refine (HM.out _).mono ?_; rintro e w' ⟨rfl, rfl⟩))
    go_ret2
    exact ⟨ret_nx (by rw [HR.out]) (by rw [HR.out]), rfl⟩
  · cases c
    · go_enter Tryd.func20, Tryd.ntmps20
      go_wp2_with (first | (go_at_call 26; refine (HS.out _).mono ?_; rintro e w' ⟨rfl, rfl⟩) | (go_at_call 29; refine (HM.out _).mono ?_; rintro e w' ⟨rfl, rfl⟩))
      go_ret2
      exact ⟨ret_nx (by rw [HR.out]) (by rw [HR.out]), rfl⟩
    · exact absurd ⟨rfl, rfl⟩ hn
theorem next_any (s m : Int) (hs : u8B s) (hm : u8B m) (w : World) (hT : Tab w) : Calls Tryd.prog 20 #[.int .u8 s, .int .u8 m] w fun e w' => e = .returned (.tuple #[.int .u8 (nxR s m).1, .int .i64 (nxR s m).2]) ∧ w' = w := by
  by_cases hn : stB s = true ∧ mvB m = true
  · obtain ⟨h1, h2⟩ := hn
    simp only [stB, mvB, decide_eq_true_eq] at h1 h2
    obtain ⟨a, rfl⟩ := Int.eq_ofNat_of_zero_le hs.1
    obtain ⟨b, rfl⟩ := Int.eq_ofNat_of_zero_le hm.1
    exact nx_in a b (by omega) (by omega) (by omega) w hT
  · exact nx_no s m hn w
theorem enB_no (s k : Nat) (h : mk s k ≠ 0) : enB s = false := by
  unfold mk at h
  simp only [enB, decide_eq_false_iff_not]
  intro hh
  apply h
  rcases hh with hh | hh <;> simp [hh]
theorem enB_yes (s : Nat) (hs : s < 7) (h : ∀ j : Nat, j < 7 → mk s j = 0) : enB s = true := by
  have h1 := h 1 (by omega)
  have h2 := h 2 (by omega)
  have h3 := h 3 (by omega)
  have h5 := h 5 (by omega)
  have h6 := h 6 (by omega)
  rcases (by omega : s = 0 ∨ s = 1 ∨ s = 2 ∨ s = 3 ∨ s = 4 ∨ s = 5 ∨ s = 6) with rfl | rfl | rfl | rfl | rfl | rfl | rfl <;> simp_all [mk, enB]
end Go.Proofs.YtfbfmhfceemkgaaDoor
