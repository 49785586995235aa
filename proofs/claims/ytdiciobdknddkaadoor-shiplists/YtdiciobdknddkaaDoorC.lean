/- Next, Ends -/
import Derived.Test.YtdiciobdknddkaaDoorB
namespace Go.Proofs.YtdiciobdknddkaaDoor
open Go.RowKit
theorem ret_u8 {x y : Int} (h : x = y) : Ending.returned (.int .u8 x) = .returned (.int .u8 y) := by rw [h]
theorem ret_nx {x y x' y' : Int} (h : x = x') (h' : y = y') : Ending.returned (.tuple #[.int .u8 x, .int .i64 y]) = .returned (.tuple #[.int .u8 x', .int .i64 y']) := by rw [h, h']
theorem rmk_any (s m : Int) (w : World) : Calls Tryd.prog 25 #[.int .u8 s, .int .u8 m] w fun e w' => e = .returned (.int .u8 (mk s m)) ∧ w' = w := by
  go_enter Tryd.func25, Tryd.ntmps25
  go_wp2
  all_goals go_ret
  all_goals exact ⟨ret_u8 (by unfold mk; simp_all), rfl⟩
/-- what Next answers -/
def nxR (s m : Int) : Int × Int := if stB s = true ∧ mvB m = true then (if mk s m = 0 then (0, 9) else (mk s m, 0)) else (0, 15)
theorem nx_in (s m : Nat) (hs : s < 7) (hm : 0 < m) (hm' : m < 7) (w : World) (hT : Tab w) : Calls Tryd.prog 8 #[.int .u8 s, .int .u8 m] w fun e w' => e = .returned (.tuple #[.int .u8 (nxR s m).1, .int .i64 (nxR s m).2]) ∧ w' = w := by
  have hc := hT.2 s m hs hm'
  have hst : ∀ W, Calls Tryd.prog 22 #[.int .u8 s] W fun e w' => e = .returned (.bool true) ∧ w' = W := fun W => (st_any s W).mono fun e w' h => ⟨by rw [h.1]; simp [stB]; omega, h.2⟩
  have hmv : ∀ W, Calls Tryd.prog 23 #[.int .u8 m] W fun e w' => e = .returned (.bool true) ∧ w' = W := fun W => (mv_any m W).mono fun e w' h => ⟨by rw [h.1]; simp [mvB]; omega, h.2⟩
  have HM := hide hmv
  have HS := hide hst
  have HR : Hid (nxR s m = if mk s m = 0 then (0, 9) else (mk s m, 0)) := hide (by
    unfold nxR; rw [if_pos ⟨by simp [stB]; omega, by simp [mvB]; omega⟩])
  generalize nxR s m = R at *
  clear hst hmv hT
  by_cases h0 : mk s m = 0
  · rw [if_pos h0] at HR
    rw [h0] at hc
    clear h0
    go_enter Tryd.func8, Tryd.ntmps8
    go_wp2_with (first | (go_at_call 22; refine (HS.out _).mono ?_; rintro e w' ⟨rfl, rfl⟩) | (go_at_call 23; refine (HM.out _).mono ?_; rintro e w' ⟨rfl, rfl⟩))
    go_ret2
    exact ⟨ret_nx (by rw [HR.out]) (by rw [HR.out]), rfl⟩
  · rw [if_neg h0] at HR
    go_enter Tryd.func8, Tryd.ntmps8
    go_wp2_with (first | (go_at_call 22; refine (HS.out _).mono ?_; rintro e w' ⟨rfl, rfl⟩) | (go_at_call 23; refine (HM.out _).mono ?_; rintro e w' ⟨rfl, rfl⟩))
    go_ret2
    exact ⟨ret_nx (by rw [HR.out]) (by rw [HR.out]), rfl⟩
theorem nx_no (s m : Int) (hn : ¬ (stB s = true ∧ mvB m = true)) (w : World) : Calls Tryd.prog 8 #[.int .u8 s, .int .u8 m] w fun e w' => e = .returned (.tuple #[.int .u8 (nxR s m).1, .int .i64 (nxR s m).2]) ∧ w' = w := by
  have HR : Hid (nxR s m = (0, 15)) := hide (by unfold nxR; rw [if_neg hn])
  generalize nxR s m = R at *
  have HS := hide (st_any s)
  have HM := hide (mv_any m)
  generalize stB s = b at *
  generalize mvB m = c at *
  cases b
  · go_enter Tryd.func8, Tryd.ntmps8
    go_wp2_with (first | (go_at_call 22; refine (HS.out _).mono ?_; rintro e w' ⟨rfl, rfl⟩) | (go_at_call 23; refine (HM.out _).mono ?_; rintro e w' ⟨rfl, rfl⟩))
    go_ret2
    exact ⟨ret_nx (by rw [HR.out]) (by rw [HR.out]), rfl⟩
  · cases c
    · go_enter Tryd.func8, Tryd.ntmps8
      go_wp2_with (first | (go_at_call 22; refine (HS.out _).mono ?_; rintro e w' ⟨rfl, rfl⟩) | (go_at_call 23; refine (HM.out _).mono ?_; rintro e w' ⟨rfl, rfl⟩))
      go_ret2
      exact ⟨ret_nx (by rw [HR.out]) (by rw [HR.out]), rfl⟩
    · exact absurd ⟨rfl, rfl⟩ hn
theorem next_any (s m : Int) (hs : u8B s) (hm : u8B m) (w : World) (hT : Tab w) : Calls Tryd.prog 8 #[.int .u8 s, .int .u8 m] w fun e w' => e = .returned (.tuple #[.int .u8 (nxR s m).1, .int .i64 (nxR s m).2]) ∧ w' = w := by
  by_cases hn : stB s = true ∧ mvB m = true
  · obtain ⟨h1, h2⟩ := hn
    simp only [stB, mvB, decide_eq_true_eq] at h1 h2
    obtain ⟨a, rfl⟩ := Int.eq_ofNat_of_zero_le hs.1
    obtain ⟨b, rfl⟩ := Int.eq_ofNat_of_zero_le hm.1
    exact nx_in a b (by omega) (by omega) (by omega) w hT
  · exact nx_no s m hn w
theorem rnext_any (s m : Int) (w : World) : Calls Tryd.prog 9 #[.int .u8 s, .int .u8 m] w fun e w' => e = .returned (.tuple #[.int .u8 (nxR s m).1, .int .i64 (nxR s m).2]) ∧ w' = w := by
  have HR : Hid (nxR s m = if stB s = true ∧ mvB m = true then (if mk s m = 0 then (0, 9) else (mk s m, 0)) else (0, 15)) := hide rfl
  have HK := hide (kn_any m)
  have HU := hide (rmk_any s m)
  have HSB : Hid (stB s = decide (s < 7)) := hide rfl
  generalize nxR s m = R at *
  generalize mvB m = c at *
  generalize mk s m = x at *
  by_cases h7 : s < 7
  · have h7' : ¬ 7 ≤ s := by omega
    cases c
    · go_enter Tryd.func9, Tryd.ntmps9
      go_wp2_with (first | (go_at_call 24; refine (HK.out _).mono ?_; rintro e w' ⟨rfl, rfl⟩) | (go_at_call 25; refine (HU.out _).mono ?_; rintro e w' ⟨rfl, rfl⟩))
      go_ret2
      exact ⟨ret_nx (by rw [HR.out]; simp) (by rw [HR.out]; simp), rfl⟩
    · by_cases h0 : x = 0
      · subst h0
        go_enter Tryd.func9, Tryd.ntmps9
        go_wp2_with (first | (go_at_call 24; refine (HK.out _).mono ?_; rintro e w' ⟨rfl, rfl⟩) | (go_at_call 25; refine (HU.out _).mono ?_; rintro e w' ⟨rfl, rfl⟩))
        go_ret2
        exact ⟨ret_nx (by rw [HR.out, HSB.out]; simp [h7]) (by rw [HR.out, HSB.out]; simp [h7]), rfl⟩
      · go_enter Tryd.func9, Tryd.ntmps9
        go_wp2_with (first | (go_at_call 24; refine (HK.out _).mono ?_; rintro e w' ⟨rfl, rfl⟩) | (go_at_call 25; refine (HU.out _).mono ?_; rintro e w' ⟨rfl, rfl⟩))
        go_ret2
        exact ⟨ret_nx (by rw [HR.out, HSB.out]; simp [h7, h0]) (by rw [HR.out, HSB.out]; simp [h7, h0]), rfl⟩
  · have h7' : 7 ≤ s := by omega
    have H7 : Hid (stB s = false) := hide (by rw [HSB.out]; simp [h7])
    go_enter Tryd.func9, Tryd.ntmps9
    go_wp2_with (first | (go_at_call 24; refine (HK.out _).mono ?_; rintro e w' ⟨rfl, rfl⟩) | (go_at_call 25; refine (HU.out _).mono ?_; rintro e w' ⟨rfl, rfl⟩))
    all_goals go_ret2
    all_goals exact ⟨ret_nx (by rw [HR.out, H7.out]; simp) (by rw [HR.out, H7.out]; simp), rfl⟩
theorem enB_no (s k : Nat) (h : mk s k ≠ 0) : enB s = false := by
  unfold mk at h
  simp only [enB, decide_eq_false_iff_not]
  intro hh
  apply h
  rcases hh with hh | hh <;> simp [hh]
theorem enB_yes (s : Nat) (hs : s < 7) (h : ∀ j : Nat, j < 7 → mk s j = 0) : enB s = true := by
  have h1 := h 1 (by omega)
  have h2 := h 2 (by omega)
  have h3 := h 3 (by omega)
  have h5 := h 5 (by omega)
  have h6 := h 6 (by omega)
  rcases (by omega : s = 0 ∨ s = 1 ∨ s = 2 ∨ s = 3 ∨ s = 4 ∨ s = 5 ∨ s = 6) with rfl | rfl | rfl | rfl | rfl | rfl | rfl <;> simp_all [mk, enB]
theorem en_in (s : Nat) (hs : s < 7) (w : World) (hT : Tab w) : Calls Tryd.prog 13 #[.int .u8 s] w fun e w' => e = .returned (.bool (enB s)) ∧ w' = w := by
  have HT := hide hT
  have hst : ∀ W, Calls Tryd.prog 22 #[.int .u8 s] W fun e w' => e = .returned (.bool true) ∧ w' = W := fun W => (st_any s W).mono fun e w' h => ⟨by rw [h.1]; simp [stB]; omega, h.2⟩
  have HS := hide hst
  have HN := hide (fun k => enB_no s k)
  have HY := hide (enB_yes s hs)
  clear hst hT
  go_enter Tryd.func13, Tryd.ntmps13
  go_wp2_with (first | (go_at_call 22; refine (HS.out _).mono ?_; rintro e w' ⟨rfl, rfl⟩))
  go_loopw [7] (fun i wr => ∃ k : Nat, k ≤ 7 ∧ i = .int .u8 k ∧ Hid (∀ j : Nat, j < k → mk s j = 0) ∧ Tab wr ∧ wr = w') (fun i _ => 7 - (intOf i).toNat)
  case atStart => exact ⟨0, by omega, by simp, hide (fun j h => by omega), HT.out, rfl⟩
  case round =>
    obtain ⟨k, hk, rfl, HA, hTT, rfl⟩ := hrel
    by_cases h7 : k < 7
    · have hc := hTT.2 s k hs h7
      have h7i : (k : Int) < 7 := by omega
      have hww : IntKind.u8.wrap ((k : Int) + 1) = (k : Int) + 1 := by simp [IntKind.wrap_u8]; omega
      by_cases h0 : mk s k = 0
      · rw [h0] at hc
        have H0 := hide h0
        clear h0
        go_wp2
        go_roundw
        case rel => exact ⟨k + 1, by omega, by simp, hide (fun j hj => by rcases Nat.lt_succ_iff_lt_or_eq.1 hj with h | h; exact HA.out j h; rw [h]; exact H0.out), HT.out, by trivial⟩
        case measure => simp [intOf]; omega
      · have H0 := hide (HN.out k h0)
        go_wp2
        go_ret
        exact ⟨ret_bool H0.out.symm, rfl⟩
    · obtain rfl : k = 7 := by omega
      have H0 := hide (HY.out (fun j hj => HA.out j hj))
      go_wp2
      go_ret
      exact ⟨ret_bool H0.out.symm, rfl⟩
theorem ends_any (s : Int) (hs : u8B s) (w : World) (hT : Tab w) : Calls Tryd.prog 13 #[.int .u8 s] w fun e w' => e = .returned (.bool (enB s)) ∧ w' = w := by
  obtain ⟨a, rfl⟩ := Int.eq_ofNat_of_zero_le hs.1
  by_cases h : a < 7
  · exact en_in a h w hT
  · have HS := hide (st_any (a : Int))
    have h1 : stB (a : Int) = false := by simp [stB]; omega
    have h2 : Hid (enB (a : Int) = false) := hide (by simp [enB]; omega)
    rw [h1] at HS
    go_enter Tryd.func13, Tryd.ntmps13
    go_wp2_with (first | (go_at_call 22; refine (HS.out _).mono ?_; rintro e w' ⟨rfl, rfl⟩))
    go_ret
    exact ⟨ret_bool h2.out.symm, rfl⟩
end Go.Proofs.YtdiciobdknddkaaDoor
