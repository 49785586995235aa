/- ShipAgrees, walked -/
import Derived.Test.YtdiciobdknddkaaDoorM
namespace Go.Proofs.YtdiciobdknddkaaDoor
open Go.RowKit
set_option linter.unusedVariables false
theorem next_at {s m x er : Int} (hR : nxR s m = (x, er)) (hs : u8B s) (hm : u8B m) (w : World) (hT : Tab w) : Calls Tryd.prog 8 #[.int .u8 s, .int .u8 m] w fun e w' => e = .returned (.tuple #[.int .u8 x, .int .i64 er]) ∧ w' = w := by
  have := next_any s m hs hm w hT
  rwa [hR] at this
theorem lives_at (w : World) (hT : Tab w) : Calls Tryd.prog 10 #[] w fun e w' => e = .returned (.bool true) ∧ Hid (Below w.heap.size w w' ∧ Tab w') :=
  (lives_any w hT).mono fun _ _ h => ⟨h.1, h.2, hT.below' h.2⟩
theorem check_at {l : List Sh} {er : Int} (hR : checkE l = er) (a : Option Addr) (len cap : Nat) (w : World) (hT : Tab w) (h : IsH w a len cap l) : Calls Tryd.prog 20 #[.slice a len cap] w fun e w' => e = .returned (.int .i64 er) ∧ Hid (Below w.heap.size w w' ∧ Tab w') :=
  (check_any a len cap l w h).mono fun _ _ h => ⟨by rw [h.1, hR], h.2, hT.below' h.2⟩
theorem st_u8 {l : List Sh} (h : ∀ x ∈ l, okS x) (n : Int) : u8B (stL l n) := by
  induction l with
  | nil => unfold stL u8B; omega
  | cons x r ih =>
    unfold stL
    split
    · exact (h x (by simp)).2
    · exact ih (fun y hy => h y (by simp [hy]))
set_option maxHeartbeats 1000000 in
theorem agreesWalk (a : Option Addr) (len cap : Nat) (l : List Sh) (n m v : Int) (w : World) (hT : Tab w) (h : IsH w a len cap l) (hl : len * 16 ≤ 140737488355328) (hn : i64B n) (hm : u8B m) (hv : u8B v) : Calls Tryd.prog 6 #[.slice a len cap, .int .i64 n, .int .u8 m, .int .u8 v] w fun e w' => e = .returned (.bool true) ∧ Below w.heap.size w w' := by
  have HT := hide hT
  have HI := hide h
  have HLN := hide h.1
  have HM := hide hm
  have HU := hide (st_u8 h.2.2.2.1 n)
  have HL := hide lives_at
  have HA := hide (as_any m)
  clear hT h hl hn hm hv
  by_cases hg : Good 0 l ∧ orB n = true
  · have o1 := ofR_good hg.1 hg.2
    have HO := hide (fun W (t : Tab W) (i : IsH W a len cap l) => of_at o1 a len cap W t i)
    have HG := hide hg
    generalize hnx : nxR (stL l n) m = nx at *
    obtain ⟨n1, n2⟩ := nx
    have HN := hide (fun W (t : Tab W) => next_at hnx HU.out HM.out W t)
    have HMV := hide (moveR_L l n m v)
    rw [if_neg (by rw [goodL_iff]; exact fun h' => h' hg), hnx] at HMV
    dsimp only at HMV
    have HNX := hide hnx
    clear o1 hg hnx
    generalize stL l n = sn at *
    by_cases hve : v < 2
    · have hve' : ¬ 2 ≤ v := by omega
      rw [if_neg (by simp [veB, hve])] at HMV
      by_cases h2 : n2 = 0
      · subst h2
        rw [if_neg (by simp)] at HMV
        by_cases has : asB m = true ∧ v = 1
        · rw [if_pos has] at HMV
          obtain ⟨hb, rfl⟩ := has
          have HMO := hide (fun W (t : Tab W) (i : IsH W a len cap l) => move_at HMV.out rfl a len cap W t i HM.out)
          rw [hb] at HA
          clear hb
          go_enter Tryd.func6, Tryd.ntmps6
          go_wp2_with (first | (go_at_call 10; refine (HL.out w HT.out).mono ?_; rintro e w1 ⟨rfl, B1⟩) | (go_at_call 17; refine (HO.out w1 B1.out.2 (HI.out.below' B1.out.1)).mono ?_; rintro e w2 ⟨rfl, B2⟩) | (go_at_call 15; refine (HMO.out w2 B2.out.2 ((HI.out.below' B1.out.1).below' B2.out.1)).mono ?_; rintro e w3 ⟨a3, c3, rfl, H3, B3⟩) | (go_at_call 8; refine (HN.out w3 B3.out.2).mono ?_; rintro e w' ⟨rfl, he'⟩; obtain rfl := he'.symm; clear he') | (go_at_call 11; refine (HA.out _).mono ?_; rintro e w' ⟨rfl, he'⟩; obtain rfl := he'.symm; clear he'))
          go_ret
          exact ⟨rfl, B1.out.1.trans ((B2.out.1.trans (B3.out.1.mono B2.out.1.size)).mono B1.out.1.size)⟩
        · rw [if_neg has] at HMV
          have HMO := hide (fun W (t : Tab W) (i : IsH W a len cap l) => move_at HMV.out rfl a len cap W t i HM.out)
          have HD := hide (move_done HMV.out rfl)
          have HN1 := hide (nxR_zero (s := sn) (m := m) (by rw [HNX.out]))
          have HO2 : Hid (ofR (insL l ⟨n, n1⟩) n = (n1, 0)) := hide (by
            rw [ofR_good HD.out.2.2.1 HG.out.2, ins_st, if_pos rfl])
          have HC2 : Hid (checkE (insL l ⟨n, n1⟩) = 0) := hide (checkE_good HD.out.2.2.1)
          have HL2 := hide (ins_len l ⟨n, n1⟩)
          rw [HLN.out] at HL2
          generalize insL l ⟨n, n1⟩ = PU at *
          have HOF := hide (fun a k c W (t : Tab W) (i : IsH W a k c PU) => of_at HO2.out a k c W t i)
          have HCK := hide (fun a k c W (t : Tab W) (i : IsH W a k c PU) => check_at HC2.out a k c W t i)
          have hle : (len : Int) ≤ (PU.length : Int) := by have := HL2.out; omega
          have hav : asB m = false ∨ (asB m = true ∧ ¬ v = 1) := by
            cases hb : asB m
            · exact .inl rfl
            · exact .inr ⟨rfl, fun h => has ⟨hb, h⟩⟩
          clear has
          generalize PU.length = kk at *
          rcases hav with hb | ⟨hb, hv1⟩
          all_goals
            rw [hb] at HA
            clear hb
            go_enter Tryd.func6, Tryd.ntmps6
            go_wp2_with fail
            refine (HL.out w HT.out).mono ?_
            rintro e w1 ⟨rfl, B1⟩
            go_wp2_with fail
            refine (HO.out w1 B1.out.2 (HI.out.below' B1.out.1)).mono ?_
            rintro e w2 ⟨rfl, B2⟩
            go_wp2_with fail
            refine (HMO.out w2 B2.out.2 ((HI.out.below' B1.out.1).below' B2.out.1)).mono ?_
            rintro e w3 ⟨a3, c3, rfl, H3, B3⟩
            go_wp2_with fail
            refine (HN.out w3 B3.out.2).mono ?_
            rintro e w' ⟨rfl, he'⟩
            obtain rfl := he'.symm
            clear he'
            go_wp2_with fail
            refine (HA.out _).mono ?_
            rintro e w' ⟨rfl, he'⟩
            obtain rfl := he'.symm
            clear he'
            go_wp2_with fail
            refine (HOF.out a3 _ c3 w3 B3.out.2 H3.out).mono ?_
            rintro e w4 ⟨rfl, B4⟩
            go_wp2_with fail
            refine (HCK.out a3 _ c3 w4 B4.out.2 (H3.out.below' B4.out.1)).mono ?_
            rintro e w5 ⟨rfl, B5⟩
            go_wp2
            go_ret
            have b2 := B1.out.1.trans (B2.out.1.mono B1.out.1.size)
            have b3 := b2.trans (B3.out.1.mono b2.size)
            have b4 := b3.trans (B4.out.1.mono b3.size)
            exact ⟨rfl, b4.trans (B5.out.1.mono b4.size)⟩
      · rw [if_pos h2] at HMV
        have HMO := hide (fun W (t : Tab W) (i : IsH W a len cap l) => move_at HMV.out rfl a len cap W t i HM.out)
        go_enter Tryd.func6, Tryd.ntmps6
        go_wp2_with (first | (go_at_call 10; refine (HL.out w HT.out).mono ?_; rintro e w1 ⟨rfl, B1⟩) | (go_at_call 17; refine (HO.out w1 B1.out.2 (HI.out.below' B1.out.1)).mono ?_; rintro e w2 ⟨rfl, B2⟩) | (go_at_call 15; refine (HMO.out w2 B2.out.2 ((HI.out.below' B1.out.1).below' B2.out.1)).mono ?_; rintro e w3 ⟨a3, c3, rfl, H3, B3⟩) | (go_at_call 8; refine (HN.out w3 B3.out.2).mono ?_; rintro e w' ⟨rfl, he'⟩; obtain rfl := he'.symm; clear he'))
        go_ret
        exact ⟨ret_bool (by simp), B1.out.1.trans ((B2.out.1.trans (B3.out.1.mono B2.out.1.size)).mono B1.out.1.size)⟩
    · have hve' : 2 ≤ v := by omega
      rw [if_pos (by simp [veB]; omega)] at HMV
      have HMO := hide (fun W (t : Tab W) (i : IsH W a len cap l) => move_at HMV.out rfl a len cap W t i HM.out)
      go_enter Tryd.func6, Tryd.ntmps6
      go_wp2_with (first | (go_at_call 10; refine (HL.out w HT.out).mono ?_; rintro e w1 ⟨rfl, B1⟩) | (go_at_call 17; refine (HO.out w1 B1.out.2 (HI.out.below' B1.out.1)).mono ?_; rintro e w2 ⟨rfl, B2⟩) | (go_at_call 15; refine (HMO.out w2 B2.out.2 ((HI.out.below' B1.out.1).below' B2.out.1)).mono ?_; rintro e w3 ⟨a3, c3, rfl, H3, B3⟩) | (go_at_call 8; refine (HN.out w3 B3.out.2).mono ?_; rintro e w' ⟨rfl, he'⟩; obtain rfl := he'.symm; clear he'))
      go_ret
      exact ⟨rfl, B1.out.1.trans ((B2.out.1.trans (B3.out.1.mono B2.out.1.size)).mono B1.out.1.size)⟩
  · have o1 := ofR_bad hg
    have HO := hide (fun W (t : Tab W) (i : IsH W a len cap l) => of_at o1 a len cap W t i)
    have m1 := moveR_L l n m v
    rw [if_pos (by rw [goodL_iff]; exact hg)] at m1
    have HMO := hide (fun W (t : Tab W) (i : IsH W a len cap l) => move_at m1 rfl a len cap W t i HM.out)
    clear o1 m1 hg
    go_enter Tryd.func6, Tryd.ntmps6
    go_wp2_with (first | (go_at_call 10; refine (HL.out w HT.out).mono ?_; rintro e w1 ⟨rfl, B1⟩) | (go_at_call 17; refine (HO.out w1 B1.out.2 (HI.out.below' B1.out.1)).mono ?_; rintro e w2 ⟨rfl, B2⟩) | (go_at_call 15; refine (HMO.out w2 B2.out.2 ((HI.out.below' B1.out.1).below' B2.out.1)).mono ?_; rintro e w3 ⟨a3, c3, rfl, H3, B3⟩))
    go_ret
    exact ⟨rfl, B1.out.1.trans ((B2.out.1.trans (B3.out.1.mono B2.out.1.size)).mono B1.out.1.size)⟩
end Go.Proofs.YtdiciobdknddkaaDoor
