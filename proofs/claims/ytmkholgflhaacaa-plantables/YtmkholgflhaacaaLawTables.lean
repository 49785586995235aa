/- PlanTables, walked -/
import Derived.Test.YtmkholgflhaacaaH
namespace Go.Proofs.Ytmkholgflhaacaa
open Go.RowKit
set_option linter.unusedVariables false
/-- a row whose numbers are of no matter -/
def RowK (w : World) (base : Nat) (v : Value) (N : Nat) : Prop := ∃ xs : List Int, xs.length = N ∧ OwnK w base v xs
theorem OwnK.set {w : World} {base g c : Nat} {xs : List Int} (h : OwnK w base (.slice (some ⟨g, 0, none⟩) xs.length c) xs) (j : Nat) (n : Int) : OwnK (w.setCell ⟨g, j, none⟩ (.int .u8 n)) base (.slice (some ⟨g, 0, none⟩) (xs.set j n).length c) (xs.set j n) := by
  have := (World.ownsRow.stored h j (.int .u8 n)).1
  unfold OwnK
  rw [List.length_set, List.map_set]
  exact this
set_option maxRecDepth 8000 in
set_option maxHeartbeats 1000000 in
theorem tablesWalk (k s : Int) (w : World) (hk : u8B k) (hs : u8B s) : Calls Try.prog 3 #[.int .u8 k, .int .u8 s] w fun e w' => e = .returned (.bool true) ∧ Below w.heap.size w w' := by
  have HUN := hide (un_any s hs)
  have HRU := hide (run_any s)
  have HST := hide (steps_at k hk)
  have HRS := hide (rsteps_at k)
  have HSM := hide (fun v v' b b' W => same_any (stepsL k) v v' b b' W (Nat.le_trans (nL_le k) (by omega)))
  have HLV := hide lives_any
  have HA := hide (as_any s)
  have HRA := hide (ras_any s)
  have HT := hide (tu_any s)
  have HRT := hide (rtu_any s)
  have HNL : Hid ((stepsL k).length = nL k) := hide rfl
  have HN5 := hide (nL_le k)
  generalize unV s = x1 at *
  generalize unB s = x2 at *
  generalize asB s = b1 at *
  generalize tuB s = b2 at *
  generalize nL k = N at *
  generalize stepsL k = SL at *
  clear hk hs
  have hN5 : (N : Int) ≤ 5 := by have := HN5.out; omega
  go_enter Try.func3, Try.ntmps3
  go_wp2_with fail
  refine (HUN.out w).mono ?_
  rintro e w1 ⟨rfl, b1'⟩
  have HB1 := hide b1'
  clear b1'
  go_wp2_with fail
  refine (HRU.out w1).mono ?_
  rintro e w' ⟨rfl, he'⟩
  obtain rfl := he'.symm
  clear he'
  go_wp2_with fail
  refine (HST.out w1).mono ?_
  rintro e w2 ⟨a, c, rfl, HO, b2'⟩
  have HB2 : Hid (Below w.heap.size w w2) := hide (HB1.out.trans (b2'.mono HB1.out.size))
  have HO2 : Hid (OwnK w2 w.heap.size (.slice a N c) SL) := hide (HO.out.mono HB1.out.size)
  clear b2' HO HB1
  go_wp2_with fail
  refine (HRS.out w2).mono ?_
  rintro e w3 ⟨a', c', rfl, HO', b3'⟩
  have HB3 : Hid (Below w.heap.size w w3) := hide (HB2.out.trans (b3'.mono HB2.out.size))
  have HO3 : Hid (OwnK w3 w.heap.size (.slice a N c) SL) := hide (HO2.out.below b3')
  clear b3' HB2 HO2
  go_wp2_with fail
  refine (HSM.out _ _ _ _ w3 HO3.out HO'.out).mono ?_
  rintro e w4 ⟨rfl, b4'⟩
  have HB4 : Hid (Below w.heap.size w w4) := hide (HB3.out.trans (b4'.mono HB3.out.size))
  have HO4 : Hid (RowK w4 w.heap.size (.slice a N c) N) := hide ⟨SL, HNL.out, HO3.out.below b4'⟩
  clear b4' HB3 HO3 HO'
  go_wp2
  go_loopw [30] (fun i wr => ∃ j : Nat, j ≤ N ∧ i = .int .i64 j ∧ Hid (RowK wr w.heap.size (.slice a N c) N) ∧ Hid (Below w.heap.size w wr)) (fun i _ => N - (intOf i).toNat)
  case atStart => exact ⟨0, Nat.zero_le _, rfl, HO4, HB4⟩
  case round =>
    obtain ⟨j, hj, rfl, HR, HB⟩ := hrel
    by_cases hlt : j < N
    · obtain ⟨xs, hx, hO⟩ := HR.out
      obtain ⟨a2, c2, he, hc⟩ := hO.form
      rw [hx] at hc he
      cases he
      obtain ⟨g, rfl, hg1, hg2, hg3, hg4⟩ := hc j hlt
      have HRN : Hid (RowK (wr.setCell ⟨g, j, none⟩ (.int .u8 0)) w.heap.size (.slice (some ⟨g, 0, none⟩) N c) N) := hide ⟨xs.set j 0, by rw [List.length_set, hx], by
        have h2 : OwnK wr w.heap.size (.slice (some ⟨g, 0, none⟩) xs.length c) xs := by rw [hx]; exact hO
        have := h2.set j 0
        rw [List.length_set, hx] at this
        exact this⟩
      have HBN : Hid (Below w.heap.size w (wr.setCell ⟨g, j, none⟩ (.int .u8 0))) := hide (HB.out.setCell hg2 _)
      generalize xs.getD j 0 = x at *
      clear hc hO hx
      have hjI : (j : Int) < (N : Int) := by omega
      go_wp2
      go_roundw
      case rel => exact ⟨j + 1, by omega, by simp, HRN, HBN⟩
      case measure => simp [intOf]; omega
    · obtain rfl : j = N := by omega
      clear HR HO4
      go_wp2_with fail
      refine (HLV.out wr).mono ?_
      rintro e w5 ⟨rfl, b5⟩
      have HB5 : Hid (Below w.heap.size w w5) := hide (HB.out.trans (b5.mono HB.out.size))
      clear b5
      go_wp2_with (first | (go_at_call 15; refine (HA.out _).mono ?_; rintro e w' ⟨rfl, he'⟩; obtain rfl := he'.symm; clear he') | (go_at_call 16; refine (HRA.out _).mono ?_; rintro e w' ⟨rfl, he'⟩; obtain rfl := he'.symm; clear he') | (go_at_call 17; refine (HT.out _).mono ?_; rintro e w' ⟨rfl, he'⟩; obtain rfl := he'.symm; clear he') | (go_at_call 18; refine (HRT.out _).mono ?_; rintro e w' ⟨rfl, he'⟩; obtain rfl := he'.symm; clear he') | (go_at_call 11; refine (HST.out _).mono ?_; rintro e w6 ⟨a6, c6, rfl, HO6, HB6⟩) | (go_at_call 13; refine (HRS.out _).mono ?_; rintro e w7 ⟨a7, c7, rfl, HO7, HB7⟩) | (go_at_call 12; refine (HSM.out _ _ _ _ _ (HO6.out.below HB7) HO7.out).mono ?_; rintro e w8 ⟨rfl, HB8⟩))
      all_goals go_ret
      all_goals first
        | exact ⟨ret_bool (by cases b1 <;> cases b2 <;> cases x2 <;> simp_all), ((HB5.out.trans (HB6.mono HB5.out.size)).trans (HB7.mono (HB5.out.trans (HB6.mono HB5.out.size)).size)).trans (HB8.mono ((HB5.out.trans (HB6.mono HB5.out.size)).trans (HB7.mono (HB5.out.trans (HB6.mono HB5.out.size)).size)).size)⟩
end Go.Proofs.Ytmkholgflhaacaa
