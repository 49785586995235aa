/- MvccPuts, walked -/
import Derived.Test.YtpgdmkjfgmiacaaZk
import Derived.Test.YtpgdmkjfgmiacaaZf
import Derived.Test.YtpgdmkjfgmiacaaXc
namespace Go.Proofs.Ytpgdmkjfgmiacaa
open Go.RowKit
set_option maxRecDepth 40000 in
set_option maxHeartbeats 8000000 in
theorem putsWalk (a : Option Addr) (len cap : Nat) (l : List Vr) (low : Nat) (aw : Option Addr) (lw cw : Nat) (ws : List Wt) (t : Nat) (w : World) (hL : IsV w a len cap l) (hbig : len * 48 ≤ 140737488355328) (hn : a = none → cap = 0) (hW : IsW w aw lw cw ws) :
    Calls Try.prog 4 #[.agg #[.slice a len cap, .int .u64 (low : Nat)], .slice aw lw cw, .int .u64 (t : Nat)] w fun e w' => e = .returned (.bool true) ∧ Below w.heap.size w w' := by
  have HB : Hid (Below w.heap.size w (w.alloc (.cells #[.slice a len cap, .int .u64 (low : Nat)] 25))) := hide ((Below.refl _ w).alloc (Nat.le_refl _) _)
  have HV := hide (hL.below HB.out)
  have HW := hide (hW.below HB.out)
  have HT : Hid (Two (w.alloc (.cells #[.slice a len cap, .int .u64 (low : Nat)] 25)) w.heap.size (.slice a len cap) (.int .u64 (low : Nat))) := hide (heap_alloc_new _ _)
  have HBG := hide hbig
  have HNN := hide hn
  clear hL hbig hn hW
  go_enter Try.func4, Try.ntmps4
  go_wp2_with fail
  generalize (w.alloc (.cells #[.slice a len cap, .int .u64 (low : Nat)] 25)) = V at *
  refine (copy_any a len cap low l V HV.out HBG.out HNN.out).mono ?_
  rintro e w1 ⟨a1, c1, rfl, hg1, hb1⟩
  have HG := hide hg1
  clear hg1 HBG
  have HBn := hide (HB.out.trans (hb1.mono HB.out.size))
  have HVn := hide (HV.out.below hb1)
  have HWn := hide (HW.out.below hb1)
  have HTn : Hid (Two w1 w.heap.size (.slice a len cap) (.int .u64 (low : Nat))) := hide ((hb1.block _ (heap_lt HT.out)).trans HT.out)
  clear HB HV HW HT
  have HB := HBn
  clear HBn
  have HV := HVn
  clear HVn
  have HW := HWn
  clear HWn
  have HT := HTn
  clear HTn
  clear hb1
  have HA : Hid (Below w1.heap.size w1 (w1.alloc (.cells #[.slice a1 len c1, .int .u64 (low : Nat)] 25))) := hide ((Below.refl _ w1).alloc (Nat.le_refl _) _)
  have HU : Hid (Two (w1.alloc (.cells #[.slice a1 len c1, .int .u64 (low : Nat)] 25)) w1.heap.size (.slice a1 len c1) (.int .u64 (low : Nat))) := hide (heap_alloc_new _ _)
  have HBn := hide (HB.out.trans (HA.out.mono HB.out.size))
  have HVn := hide (HV.out.below HA.out)
  have HWn := hide (HW.out.below HA.out)
  have HTn : Hid (Two (w1.alloc (.cells #[.slice a1 len c1, .int .u64 (low : Nat)] 25)) w.heap.size (.slice a len cap) (.int .u64 (low : Nat))) := hide ((HA.out.block _ (heap_lt HT.out)).trans HT.out)
  have HGn := hide (HG.out.below HA.out)
  clear HB HV HW HT HG
  have HB := HBn
  clear HBn
  have HV := HVn
  clear HVn
  have HW := HWn
  clear HWn
  have HT := HTn
  clear HTn
  have HG := HGn
  clear HGn
  clear HA
  obtain ⟨HT0, HT1⟩ := cells2_of_blk HT.out
  obtain ⟨HU0, HU1⟩ := cells2_of_blk HU.out
  have HC := hide (put_any a1 len c1 low l aw lw cw ws t _ HG.out HW.out)
  go_wp2_with fail
  clear HT0 HT1 HU0 HU1
  generalize w1.alloc (.cells #[.slice a1 len c1, .int .u64 (low : Nat)] 25) = W1 at *
  generalize w1.heap.size = B0 at *
  refine HC.out.mono ?_
  rintro e w2 ⟨a2, c2, rfl, hi2, hb⟩
  clear HC
  have HBn := hide (HB.out.trans (hb.mono HB.out.size))
  have HVn := hide (HV.out.below hb)
  have HWn := hide (HW.out.below hb)
  have HTn : Hid (Two w2 w.heap.size (.slice a len cap) (.int .u64 (low : Nat))) := hide ((hb.block _ (heap_lt HT.out)).trans HT.out)
  have HGn := hide (HG.out.below hb)
  have HUn : Hid (Two w2 B0 (.slice a1 len c1) (.int .u64 (low : Nat))) := hide ((hb.block _ (heap_lt HU.out)).trans HU.out)
  clear HB HV HW HT HG HU
  have HB := HBn
  clear HBn
  have HV := HVn
  clear HVn
  have HW := HWn
  clear HWn
  have HT := HTn
  clear HTn
  have HG := HGn
  clear HGn
  have HU := HUn
  clear HUn
  clear hb
  have HP := hide hi2
  clear hi2
  have HRR : Hid (∀ (W : World), Hid (IsV W a len cap l ∧ IsW W aw lw cw ws) → Calls Try.prog 23 #[.agg #[.slice a len cap, .int .u64 (low : Nat)], .slice aw lw cw, .int .u64 (t : Nat)] W fun e w' =>
      ∃ a' c', e = .returned (.tuple #[.agg #[.slice a' (putR low l ws t).1.length c', .int .u64 ((putR low l ws t).2.1 : Nat)], .int .i64 (putR low l ws t).2.2]) ∧ IsV w' a' (putR low l ws t).1.length c' (putR low l ws t).1 ∧ Below W.heap.size W w') := hide (fun W h => rput_any a len cap low l aw lw cw ws t W h.out.1 h.out.2 HNN.out)
  clear HNN
  generalize putR low l ws t = P0 at *
  obtain ⟨p0, p1, p2⟩ := P0
  dsimp only at HP HRR ⊢
  have HA : Hid (Below w2.heap.size w2 (w2.alloc (.cells #[.slice a2 p0.length c2, .int .u64 (p1 : Nat)] 25))) := hide ((Below.refl _ w2).alloc (Nat.le_refl _) _)
  have HX : Hid (Two (w2.alloc (.cells #[.slice a2 p0.length c2, .int .u64 (p1 : Nat)] 25)) w2.heap.size (.slice a2 p0.length c2) (.int .u64 (p1 : Nat))) := hide (heap_alloc_new _ _)
  have HBn := hide (HB.out.trans (HA.out.mono HB.out.size))
  have HVn := hide (HV.out.below HA.out)
  have HWn := hide (HW.out.below HA.out)
  have HTn : Hid (Two (w2.alloc (.cells #[.slice a2 p0.length c2, .int .u64 (p1 : Nat)] 25)) w.heap.size (.slice a len cap) (.int .u64 (low : Nat))) := hide ((HA.out.block _ (heap_lt HT.out)).trans HT.out)
  have HGn := hide (HG.out.below HA.out)
  have HUn : Hid (Two (w2.alloc (.cells #[.slice a2 p0.length c2, .int .u64 (p1 : Nat)] 25)) B0 (.slice a1 len c1) (.int .u64 (low : Nat))) := hide ((HA.out.block _ (heap_lt HU.out)).trans HU.out)
  have HPn := hide (HP.out.below HA.out)
  clear HB HV HW HT HG HU HP
  have HB := HBn
  clear HBn
  have HV := HVn
  clear HVn
  have HW := HWn
  clear HWn
  have HT := HTn
  clear HTn
  have HG := HGn
  clear HGn
  have HU := HUn
  clear HUn
  have HP := HPn
  clear HPn
  clear HA
  obtain ⟨HT0, HT1⟩ := cells2_of_blk HT.out
  obtain ⟨HU0, HU1⟩ := cells2_of_blk HU.out
  obtain ⟨HX0, HX1⟩ := cells2_of_blk HX.out
  have HC := hide (HRR.out _ (hide ⟨HV.out, HW.out⟩))
  go_wp2_with fail
  clear HT0 HT1 HU0 HU1 HX0 HX1
  generalize w2.alloc (.cells #[.slice a2 p0.length c2, .int .u64 (p1 : Nat)] 25) = W2 at *
  generalize w2.heap.size = B1 at *
  refine HC.out.mono ?_
  rintro e w3 ⟨a3, c3, rfl, hi3, hb⟩
  clear HC
  have HBn := hide (HB.out.trans (hb.mono HB.out.size))
  have HVn := hide (HV.out.below hb)
  have HWn := hide (HW.out.below hb)
  have HTn : Hid (Two w3 w.heap.size (.slice a len cap) (.int .u64 (low : Nat))) := hide ((hb.block _ (heap_lt HT.out)).trans HT.out)
  have HGn := hide (HG.out.below hb)
  have HUn : Hid (Two w3 B0 (.slice a1 len c1) (.int .u64 (low : Nat))) := hide ((hb.block _ (heap_lt HU.out)).trans HU.out)
  have HPn := hide (HP.out.below hb)
  have HXn : Hid (Two w3 B1 (.slice a2 p0.length c2) (.int .u64 (p1 : Nat))) := hide ((hb.block _ (heap_lt HX.out)).trans HX.out)
  clear HB HV HW HT HG HU HP HX
  have HB := HBn
  clear HBn
  have HV := HVn
  clear HVn
  have HW := HWn
  clear HWn
  have HT := HTn
  clear HTn
  have HG := HGn
  clear HGn
  have HU := HUn
  clear HUn
  have HP := HPn
  clear HPn
  have HX := HXn
  clear HXn
  clear hb
  have HQ := hide hi3
  clear hi3 HRR
  have HA : Hid (Below w3.heap.size w3 (w3.alloc (.cells #[.slice a3 p0.length c3, .int .u64 (p1 : Nat)] 25))) := hide ((Below.refl _ w3).alloc (Nat.le_refl _) _)
  have HY : Hid (Two (w3.alloc (.cells #[.slice a3 p0.length c3, .int .u64 (p1 : Nat)] 25)) w3.heap.size (.slice a3 p0.length c3) (.int .u64 (p1 : Nat))) := hide (heap_alloc_new _ _)
  have HBn := hide (HB.out.trans (HA.out.mono HB.out.size))
  have HVn := hide (HV.out.below HA.out)
  have HWn := hide (HW.out.below HA.out)
  have HTn : Hid (Two (w3.alloc (.cells #[.slice a3 p0.length c3, .int .u64 (p1 : Nat)] 25)) w.heap.size (.slice a len cap) (.int .u64 (low : Nat))) := hide ((HA.out.block _ (heap_lt HT.out)).trans HT.out)
  have HGn := hide (HG.out.below HA.out)
  have HUn : Hid (Two (w3.alloc (.cells #[.slice a3 p0.length c3, .int .u64 (p1 : Nat)] 25)) B0 (.slice a1 len c1) (.int .u64 (low : Nat))) := hide ((HA.out.block _ (heap_lt HU.out)).trans HU.out)
  have HPn := hide (HP.out.below HA.out)
  have HXn : Hid (Two (w3.alloc (.cells #[.slice a3 p0.length c3, .int .u64 (p1 : Nat)] 25)) B1 (.slice a2 p0.length c2) (.int .u64 (p1 : Nat))) := hide ((HA.out.block _ (heap_lt HX.out)).trans HX.out)
  have HQn := hide (HQ.out.below HA.out)
  clear HB HV HW HT HG HU HP HX HQ
  have HB := HBn
  clear HBn
  have HV := HVn
  clear HVn
  have HW := HWn
  clear HWn
  have HT := HTn
  clear HTn
  have HG := HGn
  clear HGn
  have HU := HUn
  clear HUn
  have HP := HPn
  clear HPn
  have HX := HXn
  clear HXn
  have HQ := HQn
  clear HQn
  clear HA
  obtain ⟨HT0, HT1⟩ := cells2_of_blk HT.out
  obtain ⟨HU0, HU1⟩ := cells2_of_blk HU.out
  obtain ⟨HX0, HX1⟩ := cells2_of_blk HX.out
  obtain ⟨HY0, HY1⟩ := cells2_of_blk HY.out
  have HC := hide (sweep_any a1 len c1 low t l _ HG.out)
  go_wp2_with fail
  clear HT0 HT1 HU0 HU1 HX0 HX1 HY0 HY1
  generalize w3.alloc (.cells #[.slice a3 p0.length c3, .int .u64 (p1 : Nat)] 25) = W3 at *
  generalize w3.heap.size = B2 at *
  refine HC.out.mono ?_
  rintro e w4 ⟨a4, c4, rfl, hi4, hb⟩
  clear HC
  have HBn := hide (HB.out.trans (hb.mono HB.out.size))
  have HVn := hide (HV.out.below hb)
  have HWn := hide (HW.out.below hb)
  have HTn : Hid (Two w4 w.heap.size (.slice a len cap) (.int .u64 (low : Nat))) := hide ((hb.block _ (heap_lt HT.out)).trans HT.out)
  have HGn := hide (HG.out.below hb)
  have HUn : Hid (Two w4 B0 (.slice a1 len c1) (.int .u64 (low : Nat))) := hide ((hb.block _ (heap_lt HU.out)).trans HU.out)
  have HPn := hide (HP.out.below hb)
  have HXn : Hid (Two w4 B1 (.slice a2 p0.length c2) (.int .u64 (p1 : Nat))) := hide ((hb.block _ (heap_lt HX.out)).trans HX.out)
  have HQn := hide (HQ.out.below hb)
  have HYn : Hid (Two w4 B2 (.slice a3 p0.length c3) (.int .u64 (p1 : Nat))) := hide ((hb.block _ (heap_lt HY.out)).trans HY.out)
  clear HB HV HW HT HG HU HP HX HQ HY
  have HB := HBn
  clear HBn
  have HV := HVn
  clear HVn
  have HW := HWn
  clear HWn
  have HT := HTn
  clear HTn
  have HG := HGn
  clear HGn
  have HU := HUn
  clear HUn
  have HP := HPn
  clear HPn
  have HX := HXn
  clear HXn
  have HQ := HQn
  clear HQn
  have HY := HYn
  clear HYn
  clear hb
  have HR := hide hi4
  clear hi4
  have HRR : Hid (∀ (W : World), Hid (IsV W a len cap l) → Calls Try.prog 25 #[.agg #[.slice a len cap, .int .u64 (low : Nat)], .int .u64 (t : Nat)] W fun e w' =>
      ∃ a' c', e = .returned (.tuple #[.agg #[.slice a' (sweepR low l t).1.length c', .int .u64 ((sweepR low l t).2.1 : Nat)], .int .i64 (sweepR low l t).2.2]) ∧ IsV w' a' (sweepR low l t).1.length c' (sweepR low l t).1 ∧ Below W.heap.size W w') := hide (fun W h => rsweep_any a len cap low t l W h.out)
  generalize sweepR low l t = S0 at *
  obtain ⟨s0, s1, s2⟩ := S0
  dsimp only at HR HRR ⊢
  have HA : Hid (Below w4.heap.size w4 (w4.alloc (.cells #[.slice a4 s0.length c4, .int .u64 (s1 : Nat)] 25))) := hide ((Below.refl _ w4).alloc (Nat.le_refl _) _)
  have HM : Hid (Two (w4.alloc (.cells #[.slice a4 s0.length c4, .int .u64 (s1 : Nat)] 25)) w4.heap.size (.slice a4 s0.length c4) (.int .u64 (s1 : Nat))) := hide (heap_alloc_new _ _)
  have HBn := hide (HB.out.trans (HA.out.mono HB.out.size))
  have HVn := hide (HV.out.below HA.out)
  have HWn := hide (HW.out.below HA.out)
  have HTn : Hid (Two (w4.alloc (.cells #[.slice a4 s0.length c4, .int .u64 (s1 : Nat)] 25)) w.heap.size (.slice a len cap) (.int .u64 (low : Nat))) := hide ((HA.out.block _ (heap_lt HT.out)).trans HT.out)
  have HGn := hide (HG.out.below HA.out)
  have HUn : Hid (Two (w4.alloc (.cells #[.slice a4 s0.length c4, .int .u64 (s1 : Nat)] 25)) B0 (.slice a1 len c1) (.int .u64 (low : Nat))) := hide ((HA.out.block _ (heap_lt HU.out)).trans HU.out)
  have HPn := hide (HP.out.below HA.out)
  have HXn : Hid (Two (w4.alloc (.cells #[.slice a4 s0.length c4, .int .u64 (s1 : Nat)] 25)) B1 (.slice a2 p0.length c2) (.int .u64 (p1 : Nat))) := hide ((HA.out.block _ (heap_lt HX.out)).trans HX.out)
  have HQn := hide (HQ.out.below HA.out)
  have HYn : Hid (Two (w4.alloc (.cells #[.slice a4 s0.length c4, .int .u64 (s1 : Nat)] 25)) B2 (.slice a3 p0.length c3) (.int .u64 (p1 : Nat))) := hide ((HA.out.block _ (heap_lt HY.out)).trans HY.out)
  have HRn := hide (HR.out.below HA.out)
  clear HB HV HW HT HG HU HP HX HQ HY HR
  have HB := HBn
  clear HBn
  have HV := HVn
  clear HVn
  have HW := HWn
  clear HWn
  have HT := HTn
  clear HTn
  have HG := HGn
  clear HGn
  have HU := HUn
  clear HUn
  have HP := HPn
  clear HPn
  have HX := HXn
  clear HXn
  have HQ := HQn
  clear HQn
  have HY := HYn
  clear HYn
  have HR := HRn
  clear HRn
  clear HA
  obtain ⟨HT0, HT1⟩ := cells2_of_blk HT.out
  obtain ⟨HU0, HU1⟩ := cells2_of_blk HU.out
  obtain ⟨HX0, HX1⟩ := cells2_of_blk HX.out
  obtain ⟨HY0, HY1⟩ := cells2_of_blk HY.out
  obtain ⟨HM0, HM1⟩ := cells2_of_blk HM.out
  have HC := hide (HRR.out _ (hide HV.out))
  go_wp2_with fail
  clear HT0 HT1 HU0 HU1 HX0 HX1 HY0 HY1 HM0 HM1
  generalize w4.alloc (.cells #[.slice a4 s0.length c4, .int .u64 (s1 : Nat)] 25) = W4 at *
  generalize w4.heap.size = B3 at *
  refine HC.out.mono ?_
  rintro e w5 ⟨a5, c5, rfl, hi5, hb⟩
  clear HC
  have HBn := hide (HB.out.trans (hb.mono HB.out.size))
  have HVn := hide (HV.out.below hb)
  have HWn := hide (HW.out.below hb)
  have HTn : Hid (Two w5 w.heap.size (.slice a len cap) (.int .u64 (low : Nat))) := hide ((hb.block _ (heap_lt HT.out)).trans HT.out)
  have HGn := hide (HG.out.below hb)
  have HUn : Hid (Two w5 B0 (.slice a1 len c1) (.int .u64 (low : Nat))) := hide ((hb.block _ (heap_lt HU.out)).trans HU.out)
  have HPn := hide (HP.out.below hb)
  have HXn : Hid (Two w5 B1 (.slice a2 p0.length c2) (.int .u64 (p1 : Nat))) := hide ((hb.block _ (heap_lt HX.out)).trans HX.out)
  have HQn := hide (HQ.out.below hb)
  have HYn : Hid (Two w5 B2 (.slice a3 p0.length c3) (.int .u64 (p1 : Nat))) := hide ((hb.block _ (heap_lt HY.out)).trans HY.out)
  have HRn := hide (HR.out.below hb)
  have HMn : Hid (Two w5 B3 (.slice a4 s0.length c4) (.int .u64 (s1 : Nat))) := hide ((hb.block _ (heap_lt HM.out)).trans HM.out)
  clear HB HV HW HT HG HU HP HX HQ HY HR HM
  have HB := HBn
  clear HBn
  have HV := HVn
  clear HVn
  have HW := HWn
  clear HWn
  have HT := HTn
  clear HTn
  have HG := HGn
  clear HGn
  have HU := HUn
  clear HUn
  have HP := HPn
  clear HPn
  have HX := HXn
  clear HXn
  have HQ := HQn
  clear HQn
  have HY := HYn
  clear HYn
  have HR := HRn
  clear HRn
  have HM := HMn
  clear HMn
  clear hb
  have HS := hide hi5
  clear hi5 HRR
  have HA : Hid (Below w5.heap.size w5 (w5.alloc (.cells #[.slice a5 s0.length c5, .int .u64 (s1 : Nat)] 25))) := hide ((Below.refl _ w5).alloc (Nat.le_refl _) _)
  have HN : Hid (Two (w5.alloc (.cells #[.slice a5 s0.length c5, .int .u64 (s1 : Nat)] 25)) w5.heap.size (.slice a5 s0.length c5) (.int .u64 (s1 : Nat))) := hide (heap_alloc_new _ _)
  have HBn := hide (HB.out.trans (HA.out.mono HB.out.size))
  have HVn := hide (HV.out.below HA.out)
  have HWn := hide (HW.out.below HA.out)
  have HTn : Hid (Two (w5.alloc (.cells #[.slice a5 s0.length c5, .int .u64 (s1 : Nat)] 25)) w.heap.size (.slice a len cap) (.int .u64 (low : Nat))) := hide ((HA.out.block _ (heap_lt HT.out)).trans HT.out)
  have HGn := hide (HG.out.below HA.out)
  have HUn : Hid (Two (w5.alloc (.cells #[.slice a5 s0.length c5, .int .u64 (s1 : Nat)] 25)) B0 (.slice a1 len c1) (.int .u64 (low : Nat))) := hide ((HA.out.block _ (heap_lt HU.out)).trans HU.out)
  have HPn := hide (HP.out.below HA.out)
  have HXn : Hid (Two (w5.alloc (.cells #[.slice a5 s0.length c5, .int .u64 (s1 : Nat)] 25)) B1 (.slice a2 p0.length c2) (.int .u64 (p1 : Nat))) := hide ((HA.out.block _ (heap_lt HX.out)).trans HX.out)
  have HQn := hide (HQ.out.below HA.out)
  have HYn : Hid (Two (w5.alloc (.cells #[.slice a5 s0.length c5, .int .u64 (s1 : Nat)] 25)) B2 (.slice a3 p0.length c3) (.int .u64 (p1 : Nat))) := hide ((HA.out.block _ (heap_lt HY.out)).trans HY.out)
  have HRn := hide (HR.out.below HA.out)
  have HMn : Hid (Two (w5.alloc (.cells #[.slice a5 s0.length c5, .int .u64 (s1 : Nat)] 25)) B3 (.slice a4 s0.length c4) (.int .u64 (s1 : Nat))) := hide ((HA.out.block _ (heap_lt HM.out)).trans HM.out)
  have HSn := hide (HS.out.below HA.out)
  clear HB HV HW HT HG HU HP HX HQ HY HR HM HS
  have HB := HBn
  clear HBn
  have HV := HVn
  clear HVn
  have HW := HWn
  clear HWn
  have HT := HTn
  clear HTn
  have HG := HGn
  clear HGn
  have HU := HUn
  clear HUn
  have HP := HPn
  clear HPn
  have HX := HXn
  clear HXn
  have HQ := HQn
  clear HQn
  have HY := HYn
  clear HYn
  have HR := HRn
  clear HRn
  have HM := HMn
  clear HMn
  have HS := HSn
  clear HSn
  clear HA
  obtain ⟨HT0, HT1⟩ := cells2_of_blk HT.out
  obtain ⟨HU0, HU1⟩ := cells2_of_blk HU.out
  obtain ⟨HX0, HX1⟩ := cells2_of_blk HX.out
  obtain ⟨HY0, HY1⟩ := cells2_of_blk HY.out
  obtain ⟨HM0, HM1⟩ := cells2_of_blk HM.out
  obtain ⟨HN0, HN1⟩ := cells2_of_blk HN.out
  have HC := hide (lives_any (w5.alloc (.cells #[.slice a5 s0.length c5, .int .u64 (s1 : Nat)] 25)))
  go_wp2_with fail
  clear HT0 HT1 HU0 HU1 HX0 HX1 HY0 HY1 HM0 HM1 HN0 HN1
  generalize w5.alloc (.cells #[.slice a5 s0.length c5, .int .u64 (s1 : Nat)] 25) = W5 at *
  generalize w5.heap.size = B4 at *
  refine HC.out.mono ?_
  rintro e w6 ⟨rfl, hb⟩
  clear HC
  have HBn := hide (HB.out.trans (hb.mono HB.out.size))
  have HVn := hide (HV.out.below hb)
  have HWn := hide (HW.out.below hb)
  have HTn : Hid (Two w6 w.heap.size (.slice a len cap) (.int .u64 (low : Nat))) := hide ((hb.block _ (heap_lt HT.out)).trans HT.out)
  have HGn := hide (HG.out.below hb)
  have HUn : Hid (Two w6 B0 (.slice a1 len c1) (.int .u64 (low : Nat))) := hide ((hb.block _ (heap_lt HU.out)).trans HU.out)
  have HPn := hide (HP.out.below hb)
  have HXn : Hid (Two w6 B1 (.slice a2 p0.length c2) (.int .u64 (p1 : Nat))) := hide ((hb.block _ (heap_lt HX.out)).trans HX.out)
  have HQn := hide (HQ.out.below hb)
  have HYn : Hid (Two w6 B2 (.slice a3 p0.length c3) (.int .u64 (p1 : Nat))) := hide ((hb.block _ (heap_lt HY.out)).trans HY.out)
  have HRn := hide (HR.out.below hb)
  have HMn : Hid (Two w6 B3 (.slice a4 s0.length c4) (.int .u64 (s1 : Nat))) := hide ((hb.block _ (heap_lt HM.out)).trans HM.out)
  have HSn := hide (HS.out.below hb)
  have HNn : Hid (Two w6 B4 (.slice a5 s0.length c5) (.int .u64 (s1 : Nat))) := hide ((hb.block _ (heap_lt HN.out)).trans HN.out)
  clear HB HV HW HT HG HU HP HX HQ HY HR HM HS HN
  have HB := HBn
  clear HBn
  have HV := HVn
  clear HVn
  have HW := HWn
  clear HWn
  have HT := HTn
  clear HTn
  have HG := HGn
  clear HGn
  have HU := HUn
  clear HUn
  have HP := HPn
  clear HPn
  have HX := HXn
  clear HXn
  have HQ := HQn
  clear HQn
  have HY := HYn
  clear HYn
  have HR := HRn
  clear HRn
  have HM := HMn
  clear HMn
  have HS := HSn
  clear HSn
  have HN := HNn
  clear HNn
  clear hb
  obtain ⟨HT0, HT1⟩ := cells2_of_blk HT.out
  obtain ⟨HU0, HU1⟩ := cells2_of_blk HU.out
  obtain ⟨HX0, HX1⟩ := cells2_of_blk HX.out
  obtain ⟨HY0, HY1⟩ := cells2_of_blk HY.out
  obtain ⟨HM0, HM1⟩ := cells2_of_blk HM.out
  obtain ⟨HN0, HN1⟩ := cells2_of_blk HN.out
  have HC := hide (sameV_any a2 p0.length c2 p1 p0 a3 p0.length c3 p1 p0 _ HP.out HQ.out)
  go_wp2_with fail
  refine HC.out.mono ?_
  rintro e w7 ⟨⟨r, rfl, hr⟩, hb⟩
  obtain rfl : r = true := by first | exact hr.2 ⟨rfl, rfl⟩ | exact hr.2 ⟨trivial, trivial⟩ | simpa using hr
  clear hr HC
  clear HT0 HT1 HU0 HU1 HX0 HX1 HY0 HY1 HM0 HM1 HN0 HN1
  have HBn := hide (HB.out.trans (hb.mono HB.out.size))
  have HVn := hide (HV.out.below hb)
  have HWn := hide (HW.out.below hb)
  have HTn : Hid (Two w7 w.heap.size (.slice a len cap) (.int .u64 (low : Nat))) := hide ((hb.block _ (heap_lt HT.out)).trans HT.out)
  have HGn := hide (HG.out.below hb)
  have HUn : Hid (Two w7 B0 (.slice a1 len c1) (.int .u64 (low : Nat))) := hide ((hb.block _ (heap_lt HU.out)).trans HU.out)
  have HPn := hide (HP.out.below hb)
  have HXn : Hid (Two w7 B1 (.slice a2 p0.length c2) (.int .u64 (p1 : Nat))) := hide ((hb.block _ (heap_lt HX.out)).trans HX.out)
  have HQn := hide (HQ.out.below hb)
  have HYn : Hid (Two w7 B2 (.slice a3 p0.length c3) (.int .u64 (p1 : Nat))) := hide ((hb.block _ (heap_lt HY.out)).trans HY.out)
  have HRn := hide (HR.out.below hb)
  have HMn : Hid (Two w7 B3 (.slice a4 s0.length c4) (.int .u64 (s1 : Nat))) := hide ((hb.block _ (heap_lt HM.out)).trans HM.out)
  have HSn := hide (HS.out.below hb)
  have HNn : Hid (Two w7 B4 (.slice a5 s0.length c5) (.int .u64 (s1 : Nat))) := hide ((hb.block _ (heap_lt HN.out)).trans HN.out)
  clear HB HV HW HT HG HU HP HX HQ HY HR HM HS HN
  have HB := HBn
  clear HBn
  have HV := HVn
  clear HVn
  have HW := HWn
  clear HWn
  have HT := HTn
  clear HTn
  have HG := HGn
  clear HGn
  have HU := HUn
  clear HUn
  have HP := HPn
  clear HPn
  have HX := HXn
  clear HXn
  have HQ := HQn
  clear HQn
  have HY := HYn
  clear HYn
  have HR := HRn
  clear HRn
  have HM := HMn
  clear HMn
  have HS := HSn
  clear HSn
  have HN := HNn
  clear HNn
  clear hb
  obtain ⟨HT0, HT1⟩ := cells2_of_blk HT.out
  obtain ⟨HU0, HU1⟩ := cells2_of_blk HU.out
  obtain ⟨HX0, HX1⟩ := cells2_of_blk HX.out
  obtain ⟨HY0, HY1⟩ := cells2_of_blk HY.out
  obtain ⟨HM0, HM1⟩ := cells2_of_blk HM.out
  obtain ⟨HN0, HN1⟩ := cells2_of_blk HN.out
  have HC := hide (sameV_any a4 s0.length c4 s1 s0 a5 s0.length c5 s1 s0 _ HR.out HS.out)
  go_wp2_with fail
  refine HC.out.mono ?_
  rintro e w8 ⟨⟨r, rfl, hr⟩, hb⟩
  obtain rfl : r = true := by first | exact hr.2 ⟨rfl, rfl⟩ | exact hr.2 ⟨trivial, trivial⟩ | simpa using hr
  clear hr HC
  clear HT0 HT1 HU0 HU1 HX0 HX1 HY0 HY1 HM0 HM1 HN0 HN1
  have HBn := hide (HB.out.trans (hb.mono HB.out.size))
  have HVn := hide (HV.out.below hb)
  have HWn := hide (HW.out.below hb)
  have HTn : Hid (Two w8 w.heap.size (.slice a len cap) (.int .u64 (low : Nat))) := hide ((hb.block _ (heap_lt HT.out)).trans HT.out)
  have HGn := hide (HG.out.below hb)
  have HUn : Hid (Two w8 B0 (.slice a1 len c1) (.int .u64 (low : Nat))) := hide ((hb.block _ (heap_lt HU.out)).trans HU.out)
  have HPn := hide (HP.out.below hb)
  have HXn : Hid (Two w8 B1 (.slice a2 p0.length c2) (.int .u64 (p1 : Nat))) := hide ((hb.block _ (heap_lt HX.out)).trans HX.out)
  have HQn := hide (HQ.out.below hb)
  have HYn : Hid (Two w8 B2 (.slice a3 p0.length c3) (.int .u64 (p1 : Nat))) := hide ((hb.block _ (heap_lt HY.out)).trans HY.out)
  have HRn := hide (HR.out.below hb)
  have HMn : Hid (Two w8 B3 (.slice a4 s0.length c4) (.int .u64 (s1 : Nat))) := hide ((hb.block _ (heap_lt HM.out)).trans HM.out)
  have HSn := hide (HS.out.below hb)
  have HNn : Hid (Two w8 B4 (.slice a5 s0.length c5) (.int .u64 (s1 : Nat))) := hide ((hb.block _ (heap_lt HN.out)).trans HN.out)
  clear HB HV HW HT HG HU HP HX HQ HY HR HM HS HN
  have HB := HBn
  clear HBn
  have HV := HVn
  clear HVn
  have HW := HWn
  clear HWn
  have HT := HTn
  clear HTn
  have HG := HGn
  clear HGn
  have HU := HUn
  clear HUn
  have HP := HPn
  clear HPn
  have HX := HXn
  clear HXn
  have HQ := HQn
  clear HQn
  have HY := HYn
  clear HYn
  have HR := HRn
  clear HRn
  have HM := HMn
  clear HMn
  have HS := HSn
  clear HSn
  have HN := HNn
  clear HNn
  clear hb
  obtain ⟨HT0, HT1⟩ := cells2_of_blk HT.out
  obtain ⟨HU0, HU1⟩ := cells2_of_blk HU.out
  obtain ⟨HX0, HX1⟩ := cells2_of_blk HX.out
  obtain ⟨HY0, HY1⟩ := cells2_of_blk HY.out
  obtain ⟨HM0, HM1⟩ := cells2_of_blk HM.out
  obtain ⟨HN0, HN1⟩ := cells2_of_blk HN.out
  have HC := hide (sameV_any a1 len c1 low l a len cap low l _ HG.out HV.out)
  go_wp2_with fail
  refine HC.out.mono ?_
  rintro e w9 ⟨⟨r, rfl, hr⟩, hb⟩
  obtain rfl : r = true := by first | exact hr.2 ⟨rfl, rfl⟩ | exact hr.2 ⟨trivial, trivial⟩ | simpa using hr
  clear hr HC
  clear HT0 HT1 HU0 HU1 HX0 HX1 HY0 HY1 HM0 HM1 HN0 HN1
  have HBn := hide (HB.out.trans (hb.mono HB.out.size))
  have HVn := hide (HV.out.below hb)
  have HWn := hide (HW.out.below hb)
  have HTn : Hid (Two w9 w.heap.size (.slice a len cap) (.int .u64 (low : Nat))) := hide ((hb.block _ (heap_lt HT.out)).trans HT.out)
  have HGn := hide (HG.out.below hb)
  have HUn : Hid (Two w9 B0 (.slice a1 len c1) (.int .u64 (low : Nat))) := hide ((hb.block _ (heap_lt HU.out)).trans HU.out)
  have HPn := hide (HP.out.below hb)
  have HXn : Hid (Two w9 B1 (.slice a2 p0.length c2) (.int .u64 (p1 : Nat))) := hide ((hb.block _ (heap_lt HX.out)).trans HX.out)
  have HQn := hide (HQ.out.below hb)
  have HYn : Hid (Two w9 B2 (.slice a3 p0.length c3) (.int .u64 (p1 : Nat))) := hide ((hb.block _ (heap_lt HY.out)).trans HY.out)
  have HRn := hide (HR.out.below hb)
  have HMn : Hid (Two w9 B3 (.slice a4 s0.length c4) (.int .u64 (s1 : Nat))) := hide ((hb.block _ (heap_lt HM.out)).trans HM.out)
  have HSn := hide (HS.out.below hb)
  have HNn : Hid (Two w9 B4 (.slice a5 s0.length c5) (.int .u64 (s1 : Nat))) := hide ((hb.block _ (heap_lt HN.out)).trans HN.out)
  clear HB HV HW HT HG HU HP HX HQ HY HR HM HS HN
  have HB := HBn
  clear HBn
  have HV := HVn
  clear HVn
  have HW := HWn
  clear HWn
  have HT := HTn
  clear HTn
  have HG := HGn
  clear HGn
  have HU := HUn
  clear HUn
  have HP := HPn
  clear HPn
  have HX := HXn
  clear HXn
  have HQ := HQn
  clear HQn
  have HY := HYn
  clear HYn
  have HR := HRn
  clear HRn
  have HM := HMn
  clear HMn
  have HS := HSn
  clear HSn
  have HN := HNn
  clear HNn
  clear hb
  go_wp2
  go_ret
  exact ⟨rfl, HB.out⟩
end Go.Proofs.Ytpgdmkjfgmiacaa
