/- MvccSteps, walked -/
import Derived.Test.YtpgdmkjfgmiacaaYa
import Derived.Test.YtpgdmkjfgmiacaaXc
namespace Go.Proofs.Ytpgdmkjfgmiacaa
open Go.RowKit
theorem sweepE_iff {low : Nat} {l : List Vr} {t : Nat} : sweepE low l t = 0 ↔ goodB low l = true ∧ ¬ t < low ∧ ¬ 2305843009213693952 < t := by
  unfold sweepE
  by_cases h1 : goodB low l = true
  · rw [if_pos h1]
    by_cases h2 : t < low
    · rw [if_pos h2]; simp [h2]
    · rw [if_neg h2]
      by_cases h3 : 2305843009213693952 < t
      · rw [if_pos h3]; simp [h3]
      · rw [if_neg h3]; simp [h1, h2]; omega
  · rw [if_neg h1]; simp [h1]
/-- what a sweep answers, as a filter -/
theorem sweepR_yes {low : Nat} {l : List Vr} {t : Nat} (h : sweepE low l t = 0) : sweepR low l t = (l.filter (keepB t l), t, 0) := by
  unfold sweepR
  rw [if_pos h, sweep_filter t l.length 0 l (Nat.le_refl _) (good_srt (sweepE_iff.1 h).1)]
theorem sweepR_zero {low : Nat} {l : List Vr} {t : Nat} (h : (sweepR low l t).2.2 = 0) : sweepE low l t = 0 := by
  by_cases hE : sweepE low l t = 0
  · exact hE
  · unfold sweepR at h
    rw [if_neg hE] at h
    exact absurd h hE
theorem steps_fact {low : Nat} {l : List Vr} {m M : Nat} (hm : m ≤ M) (h : (sweepR low l m).2.2 = 0) :
    (sweepR (sweepR low l m).2.1 (sweepR low l m).1 M).2.2 = (sweepR low l M).2.2 ∧ ((sweepR low l M).2.2 = 0 → sweepR (sweepR low l m).2.1 (sweepR low l m).1 M = sweepR low l M ∧ sweepR (sweepR low l M).2.1 (sweepR low l M).1 M = sweepR low l M) := by
  have h1 := sweepR_zero h
  obtain ⟨g1, g2, g3⟩ := sweepE_iff.1 h1
  rw [sweepR_yes h1]
  dsimp only
  have hg2 := good_sub (low' := m) g1 (by omega) (keepB m l)
  by_cases hM : 2305843009213693952 < M
  · have e1 : sweepE m (l.filter (keepB m l)) M = 2 := by unfold sweepE; rw [if_pos hg2, if_neg (by omega), if_pos hM]
    have e2 : sweepE low l M = 2 := by unfold sweepE; rw [if_pos g1, if_neg (by omega), if_pos hM]
    have r1 : sweepR m (l.filter (keepB m l)) M = ([], 0, 2) := by unfold sweepR; rw [e1, if_neg (by decide)]
    have r2 : sweepR low l M = ([], 0, 2) := by unfold sweepR; rw [e2, if_neg (by decide)]
    rw [r1, r2]
    exact ⟨rfl, fun h => by cases h⟩
  · have e1 : sweepE m (l.filter (keepB m l)) M = 0 := sweepE_iff.2 ⟨hg2, by omega, hM⟩
    have e2 : sweepE low l M = 0 := sweepE_iff.2 ⟨g1, by omega, hM⟩
    have e3 : sweepE M (l.filter (keepB M l)) M = 0 := sweepE_iff.2 ⟨good_sub g1 (by omega) _, by omega, hM⟩
    rw [sweepR_yes e1, sweepR_yes e2, keep_twice hm]
    refine ⟨rfl, fun _ => ⟨rfl, ?_⟩⟩
    dsimp only
    rw [sweepR_yes e3, keep_twice (Nat.le_refl M)]
set_option maxRecDepth 40000 in
set_option maxHeartbeats 4000000 in
theorem stepsWalk (a : Option Addr) (len cap : Nat) (l : List Vr) (low s t : Nat) (w : World) (hL : IsV w a len cap l) :
    Calls Try.prog 8 #[.agg #[.slice a len cap, .int .u64 (low : Nat)], .int .u64 (s : Nat), .int .u64 (t : Nat)] w fun e w' => e = .returned (.bool true) ∧ Below w.heap.size w w' := by
  have HB0 : Hid (Below w.heap.size w (w.alloc (.cells #[.slice a len cap, .int .u64 (low : Nat)] 25))) := hide ((Below.refl _ w).alloc (Nat.le_refl _) _)
  have HV0 := hide (hL.below HB0.out)
  have HT0 : Hid (Two (w.alloc (.cells #[.slice a len cap, .int .u64 (low : Nat)] 25)) w.heap.size (.slice a len cap) (.int .u64 (low : Nat))) := hide (heap_alloc_new _ _)
  have HF := hide (fun h => steps_fact (low := low) (l := l) (m := min s t) (M := max s t) (by omega) h)
  have HMI : Hid (((min s t : Nat) : Int) = min (s : Int) (t : Int)) := hide (by omega)
  have HMA : Hid (((max s t : Nat) : Int) = max (s : Int) (t : Int)) := hide (by omega)
  clear hL
  go_enter Try.func8, Try.ntmps8
  go_wp2_with fail
  generalize (w.alloc (.cells #[.slice a len cap, .int .u64 (low : Nat)] 25)) = V at *
  refine (lives_any V).mono ?_
  rintro e w1 ⟨rfl, hb1⟩
  have HB1 := hide (HB0.out.trans (hb1.mono HB0.out.size))
  have HV1 := hide (HV0.out.below hb1)
  have HT1 : Hid (Two w1 w.heap.size (.slice a len cap) (.int .u64 (low : Nat))) := hide ((hb1.block _ (heap_lt HT0.out)).trans HT0.out)
  obtain ⟨c0, c1'⟩ := cells2_of_blk HT1.out
  clear hb1 HB0 HV0 HT0
  have HS1 := hide (sweep_any a len cap low (min s t) l w1 HV1.out)
  rw [HMI.out] at HS1
  go_wp2_with fail
  refine HS1.out.mono ?_
  rintro e w2 ⟨a2, k2, rfl, hI2, hb2⟩
  clear HS1
  generalize hR1 : sweepR low l (min s t) = R1 at *
  obtain ⟨l1, low1, e1⟩ := R1
  dsimp only at hI2 HF ⊢
  have HBa : Hid (Below w2.heap.size w2 (w2.alloc (.cells #[.slice a2 l1.length k2, .int .u64 (low1 : Nat)] 25))) := hide ((Below.refl _ w2).alloc (Nat.le_refl _) _)
  have HB2a := hide (HB1.out.trans (hb2.mono HB1.out.size))
  have HB2 := hide (HB2a.out.trans (HBa.out.mono HB2a.out.size))
  have HV2 := hide ((HV1.out.below hb2).below HBa.out)
  have HX2 := hide (hI2.below HBa.out)
  have HT2 : Hid (Two (w2.alloc (.cells #[.slice a2 l1.length k2, .int .u64 (low1 : Nat)] 25)) w.heap.size (.slice a len cap) (.int .u64 (low : Nat))) := hide ((HBa.out.block _ (Nat.lt_of_lt_of_le (heap_lt HT1.out) hb2.size)).trans ((hb2.block _ (heap_lt HT1.out)).trans HT1.out))
  have HS2 := hide (sweep_any a2 l1.length k2 low1 (max s t) l1 _ HX2.out)
  rw [HMA.out] at HS2
  clear hI2 hb2 HB1 HV1 HT1 c0 c1' HBa HB2a
  go_wp2_with fail
  generalize w2.alloc (.cells #[.slice a2 l1.length k2, .int .u64 (low1 : Nat)] 25) = W2 at *
  refine HS2.out.mono ?_
  rintro e w3 ⟨a3, k3, rfl, hI3, hb3⟩
  clear HS2
  generalize hR2 : sweepR low1 l1 (max s t) = R2 at *
  obtain ⟨l2, low2, e2⟩ := R2
  dsimp only at hI3 HF ⊢
  have HBa : Hid (Below w3.heap.size w3 (w3.alloc (.cells #[.slice a3 l2.length k3, .int .u64 (low2 : Nat)] 25))) := hide ((Below.refl _ w3).alloc (Nat.le_refl _) _)
  have HB3a := hide (HB2.out.trans (hb3.mono HB2.out.size))
  have HB3 := hide (HB3a.out.trans (HBa.out.mono HB3a.out.size))
  have HV3 := hide ((HV2.out.below hb3).below HBa.out)
  have HY3 := hide (hI3.below HBa.out)
  have hT3 : Two (w3.alloc (.cells #[.slice a3 l2.length k3, .int .u64 (low2 : Nat)] 25)) w.heap.size (.slice a len cap) (.int .u64 (low : Nat)) := (HBa.out.block _ (Nat.lt_of_lt_of_le (heap_lt HT2.out) hb3.size)).trans ((hb3.block _ (heap_lt HT2.out)).trans HT2.out)
  obtain ⟨c0, c1'⟩ := cells2_of_blk hT3
  have HTY : Hid (Two (w3.alloc (.cells #[.slice a3 l2.length k3, .int .u64 (low2 : Nat)] 25)) w3.heap.size (.slice a3 l2.length k3) (.int .u64 (low2 : Nat))) := hide (heap_alloc_new _ _)
  have HS3 := hide (sweep_any a len cap low (max s t) l _ HV3.out)
  rw [HMA.out] at HS3
  clear hI3 hb3 HB2 HV2 HT2 HBa HB3a hT3 HX2
  generalize hB9 : w3.heap.size = B9 at *
  have HB9 := hide hB9
  clear hB9
  go_wp2_with fail
  rw [HB9.out]
  clear HB9
  generalize w3.alloc (.cells #[.slice a3 l2.length k3, .int .u64 (low2 : Nat)] 25) = W3 at *
  refine HS3.out.mono ?_
  rintro e w4 ⟨a4, k4, rfl, hI4, hb4⟩
  clear HS3 c0 c1'
  generalize hR3 : sweepR low l (max s t) = R3 at *
  obtain ⟨l3, low3, e3⟩ := R3
  dsimp only at hI4 HF ⊢
  clear hR1 hR2 hR3
  have HBa : Hid (Below w4.heap.size w4 (w4.alloc (.cells #[.slice a4 l3.length k4, .int .u64 (low3 : Nat)] 25))) := hide ((Below.refl _ w4).alloc (Nat.le_refl _) _)
  have HB4a := hide (HB3.out.trans (hb4.mono HB3.out.size))
  have HB4 := hide (HB4a.out.trans (HBa.out.mono HB4a.out.size))
  have HY4 := hide ((HY3.out.below hb4).below HBa.out)
  have HZ4 := hide (hI4.below HBa.out)
  have HTY4 : Hid (Two (w4.alloc (.cells #[.slice a4 l3.length k4, .int .u64 (low3 : Nat)] 25)) B9 (.slice a3 l2.length k3) (.int .u64 (low2 : Nat))) := hide ((HBa.out.block _ (Nat.lt_of_lt_of_le (heap_lt HTY.out) hb4.size)).trans ((hb4.block _ (heap_lt HTY.out)).trans HTY.out))
  have HTZ4 : Hid (Two (w4.alloc (.cells #[.slice a4 l3.length k4, .int .u64 (low3 : Nat)] 25)) w4.heap.size (.slice a4 l3.length k4) (.int .u64 (low3 : Nat))) := hide (heap_alloc_new _ _)
  clear hI4 hb4 HB3 HV3 HTY HBa HB4a HY3
  by_cases he1 : e1 = 0
  rotate_left
  · clear HF
    go_wp2
    go_ret
    exact ⟨rfl, HB4.out⟩
  subst he1
  obtain ⟨f1, f2⟩ := HF.out rfl
  subst f1
  clear HF
  by_cases he2 : e2 = 0
  rotate_left
  · clear f2
    go_wp2
    go_ret
    exact ⟨rfl, HB4.out⟩
  subst he2
  obtain ⟨g1, g2⟩ := f2 rfl
  clear f2
  cases g1
  have HS4 := hide (sweep_any a4 l2.length k4 low2 (max s t) l2 _ HZ4.out)
  rw [g2, HMA.out] at HS4
  clear g2
  dsimp only at HS4
  generalize hB8 : w4.heap.size = B8 at *
  have HB8 := hide hB8
  clear hB8
  go_wp2_with fail
  rw [HB8.out]
  clear HB8
  generalize w4.alloc (.cells #[.slice a4 l2.length k4, .int .u64 (low2 : Nat)] 25) = W4 at *
  refine HS4.out.mono ?_
  rintro e w5 ⟨a5, k5, rfl, hI5, hb5⟩
  clear HS4
  have HBa : Hid (Below w5.heap.size w5 (w5.alloc (.cells #[.slice a5 l2.length k5, .int .u64 (low2 : Nat)] 25))) := hide ((Below.refl _ w5).alloc (Nat.le_refl _) _)
  have HB5a := hide (HB4.out.trans (hb5.mono HB4.out.size))
  have HB5 := hide (HB5a.out.trans (HBa.out.mono HB5a.out.size))
  have HY5 := hide ((HY4.out.below hb5).below HBa.out)
  have HZ5 := hide ((HZ4.out.below hb5).below HBa.out)
  have HA5 := hide (hI5.below HBa.out)
  have HTY5 : Hid (Two (w5.alloc (.cells #[.slice a5 l2.length k5, .int .u64 (low2 : Nat)] 25)) B9 (.slice a3 l2.length k3) (.int .u64 (low2 : Nat))) := hide ((HBa.out.block _ (Nat.lt_of_lt_of_le (heap_lt HTY4.out) hb5.size)).trans ((hb5.block _ (heap_lt HTY4.out)).trans HTY4.out))
  have HTZ5 : Hid (Two (w5.alloc (.cells #[.slice a5 l2.length k5, .int .u64 (low2 : Nat)] 25)) B8 (.slice a4 l2.length k4) (.int .u64 (low2 : Nat))) := hide ((HBa.out.block _ (Nat.lt_of_lt_of_le (heap_lt HTZ4.out) hb5.size)).trans ((hb5.block _ (heap_lt HTZ4.out)).trans HTZ4.out))
  have HTA5 : Hid (Two (w5.alloc (.cells #[.slice a5 l2.length k5, .int .u64 (low2 : Nat)] 25)) w5.heap.size (.slice a5 l2.length k5) (.int .u64 (low2 : Nat))) := hide (heap_alloc_new _ _)
  obtain ⟨p0, p1⟩ := cells2_of_blk HTY5.out
  obtain ⟨q0, q1⟩ := cells2_of_blk HTZ5.out
  clear hI5 hb5 HB4 HTY4 HTZ4 HBa HB5a HY4 HZ4
  generalize hB7 : w5.heap.size = B7 at *
  have HB7 := hide hB7
  clear hB7
  go_wp2_with fail
  rw [HB7.out]
  clear HB7
  generalize w5.alloc (.cells #[.slice a5 l2.length k5, .int .u64 (low2 : Nat)] 25) = W5 at *
  refine (sameV_any a3 l2.length k3 low2 l2 a4 l2.length k4 low2 l2 W5 HY5.out HZ5.out).mono ?_
  rintro e w6 ⟨⟨r6, rfl, hr6⟩, hb6⟩
  obtain rfl : r6 = true := hr6.2 ⟨rfl, rfl⟩
  have HB6 := hide (HB5.out.trans (hb6.mono HB5.out.size))
  have HZ6 := hide (HZ5.out.below hb6)
  have HA6 := hide (HA5.out.below hb6)
  obtain ⟨m0, m1⟩ := cells2_of_blk ((hb6.block _ (heap_lt HTZ5.out)).trans HTZ5.out)
  obtain ⟨n0, n1⟩ := cells2_of_blk ((hb6.block _ (heap_lt HTA5.out)).trans HTA5.out)
  clear hb6 hr6 HB5 HZ5 HA5 HTZ5 HTA5 HTY5 HY5 p0 p1 q0 q1
  go_wp2_with fail
  refine (sameV_any a5 l2.length k5 low2 l2 a4 l2.length k4 low2 l2 w6 HA6.out HZ6.out).mono ?_
  rintro e w7 ⟨⟨r7, rfl, hr7⟩, hb7⟩
  obtain rfl : r7 = true := hr7.2 ⟨rfl, rfl⟩
  have HB7 := hide (HB6.out.trans (hb7.mono HB6.out.size))
  clear hb7 hr7 HB6 HZ6 HA6
  go_wp2
  go_ret
  exact ⟨rfl, HB7.out⟩
end Go.Proofs.Ytpgdmkjfgmiacaa
