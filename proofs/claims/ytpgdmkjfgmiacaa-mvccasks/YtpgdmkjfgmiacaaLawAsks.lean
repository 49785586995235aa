/- MvccAsks, walked -/
import Derived.Test.YtpgdmkjfgmiacaaZd
import Derived.Test.YtpgdmkjfgmiacaaOq
import Derived.Test.YtpgdmkjfgmiacaaXc
namespace Go.Proofs.Ytpgdmkjfgmiacaa
open Go.RowKit
set_option maxRecDepth 40000 in
set_option maxHeartbeats 8000000 in
theorem asksWalk (a : Option Addr) (len cap : Nat) (l : List Vr) (low : Nat) (key to : ByteArray) (t : Nat) (w : World) (hL : IsV w a len cap l) (hbig : len * 48 ≤ 140737488355328) (hn : a = none → cap = 0) :
    Calls Try.prog 3 #[.agg #[.slice a len cap, .int .u64 (low : Nat)], .string key, .string to, .int .u64 (t : Nat)] w fun e w' => e = .returned (.bool true) ∧ Below w.heap.size w w' := by
  have HB : Hid (Below w.heap.size w (w.alloc (.cells #[.slice a len cap, .int .u64 (low : Nat)] 25))) := hide ((Below.refl _ w).alloc (Nat.le_refl _) _)
  have HV := hide (hL.below HB.out)
  have HT : Hid (Two (w.alloc (.cells #[.slice a len cap, .int .u64 (low : Nat)] 25)) w.heap.size (.slice a len cap) (.int .u64 (low : Nat))) := hide (heap_alloc_new _ _)
  have HBG := hide hbig
  have HNN := hide hn
  clear hL hbig hn
  go_enter Try.func3, Try.ntmps3
  go_wp2_with fail
  generalize (w.alloc (.cells #[.slice a len cap, .int .u64 (low : Nat)] 25)) = V at *
  refine (copy_any a len cap low l V HV.out HBG.out HNN.out).mono ?_
  rintro e w1 ⟨a1, c1, rfl, hg1, hb1⟩
  have HG := hide hg1
  clear hg1 HBG HNN
  have HBn := hide (HB.out.trans (hb1.mono HB.out.size))
  have HVn := hide (HV.out.below hb1)
  have HTn : Hid (Two w1 w.heap.size (.slice a len cap) (.int .u64 (low : Nat))) := hide ((hb1.block _ (heap_lt HT.out)).trans HT.out)
  clear HB HV HT
  have HB := HBn
  clear HBn
  have HV := HVn
  clear HVn
  have HT := HTn
  clear HTn
  clear hb1
  have HA : Hid (Below w1.heap.size w1 (w1.alloc (.cells #[.slice a1 len c1, .int .u64 (low : Nat)] 25))) := hide ((Below.refl _ w1).alloc (Nat.le_refl _) _)
  have HU : Hid (Two (w1.alloc (.cells #[.slice a1 len c1, .int .u64 (low : Nat)] 25)) w1.heap.size (.slice a1 len c1) (.int .u64 (low : Nat))) := hide (heap_alloc_new _ _)
  have HBn := hide (HB.out.trans (HA.out.mono HB.out.size))
  have HVn := hide (HV.out.below HA.out)
  have HTn : Hid (Two (w1.alloc (.cells #[.slice a1 len c1, .int .u64 (low : Nat)] 25)) w.heap.size (.slice a len cap) (.int .u64 (low : Nat))) := hide ((HA.out.block _ (heap_lt HT.out)).trans HT.out)
  have HGn := hide (HG.out.below HA.out)
  clear HB HV HT HG
  have HB := HBn
  clear HBn
  have HV := HVn
  clear HVn
  have HT := HTn
  clear HTn
  have HG := HGn
  clear HGn
  clear HA
  have HC := hide (get_any a1 len c1 low t key l _ HG.out)
  go_wp2_with fail
  generalize w1.alloc (.cells #[.slice a1 len c1, .int .u64 (low : Nat)] 25) = W1 at *
  generalize w1.heap.size = B at *
  refine HC.out.mono ?_
  rintro e w2 ⟨rfl, hb2⟩
  clear HC
  have HBn := hide (HB.out.trans (hb2.mono HB.out.size))
  have HVn := hide (HV.out.below hb2)
  have HTn : Hid (Two w2 w.heap.size (.slice a len cap) (.int .u64 (low : Nat))) := hide ((hb2.block _ (heap_lt HT.out)).trans HT.out)
  have HGn := hide (HG.out.below hb2)
  have HUn : Hid (Two w2 B (.slice a1 len c1) (.int .u64 (low : Nat))) := hide ((hb2.block _ (heap_lt HU.out)).trans HU.out)
  clear HB HV HT HG HU
  have HB := HBn
  clear HBn
  have HV := HVn
  clear HVn
  have HT := HTn
  clear HTn
  have HG := HGn
  clear HGn
  have HU := HUn
  clear HUn
  clear hb2
  obtain ⟨HT0, HT1⟩ := cells2_of_blk HT.out
  obtain ⟨HU0, HU1⟩ := cells2_of_blk HU.out
  have HC := hide (rget_any a len cap low t key l _ HV.out)
  go_wp2_with fail
  refine HC.out.mono ?_
  rintro e w3 ⟨rfl, hb⟩
  clear HC
  clear HT0 HT1 HU0 HU1
  have HBn := hide (HB.out.trans (hb.mono HB.out.size))
  have HVn := hide (HV.out.below hb)
  have HTn : Hid (Two w3 w.heap.size (.slice a len cap) (.int .u64 (low : Nat))) := hide ((hb.block _ (heap_lt HT.out)).trans HT.out)
  have HGn := hide (HG.out.below hb)
  have HUn : Hid (Two w3 B (.slice a1 len c1) (.int .u64 (low : Nat))) := hide ((hb.block _ (heap_lt HU.out)).trans HU.out)
  clear HB HV HT HG HU
  have HB := HBn
  clear HBn
  have HV := HVn
  clear HVn
  have HT := HTn
  clear HTn
  have HG := HGn
  clear HGn
  have HU := HUn
  clear HUn
  clear hb
  generalize getR low l key t = G0 at *
  obtain ⟨g0, g1, g2⟩ := G0
  dsimp only
  obtain ⟨HT0, HT1⟩ := cells2_of_blk HT.out
  obtain ⟨HU0, HU1⟩ := cells2_of_blk HU.out
  have HC := hide (scan_any a1 len c1 low t key to l _ HG.out)
  go_wp2_with fail
  refine HC.out.mono ?_
  rintro e w4 ⟨a4, c4, rfl, hp4, hb⟩
  clear HC
  clear HT0 HT1 HU0 HU1
  have HBn := hide (HB.out.trans (hb.mono HB.out.size))
  have HVn := hide (HV.out.below hb)
  have HTn : Hid (Two w4 w.heap.size (.slice a len cap) (.int .u64 (low : Nat))) := hide ((hb.block _ (heap_lt HT.out)).trans HT.out)
  have HGn := hide (HG.out.below hb)
  have HUn : Hid (Two w4 B (.slice a1 len c1) (.int .u64 (low : Nat))) := hide ((hb.block _ (heap_lt HU.out)).trans HU.out)
  clear HB HV HT HG HU
  have HB := HBn
  clear HBn
  have HV := HVn
  clear HVn
  have HT := HTn
  clear HTn
  have HG := HGn
  clear HGn
  have HU := HUn
  clear HUn
  clear hb
  have HP := hide hp4
  clear hp4
  obtain ⟨HT0, HT1⟩ := cells2_of_blk HT.out
  obtain ⟨HU0, HU1⟩ := cells2_of_blk HU.out
  have HC := hide (rscan_any a len cap low t key to l _ HV.out)
  go_wp2_with fail
  refine HC.out.mono ?_
  rintro e w5 ⟨a5, c5, rfl, hp5, hb⟩
  clear HC
  clear HT0 HT1 HU0 HU1
  have HBn := hide (HB.out.trans (hb.mono HB.out.size))
  have HVn := hide (HV.out.below hb)
  have HTn : Hid (Two w5 w.heap.size (.slice a len cap) (.int .u64 (low : Nat))) := hide ((hb.block _ (heap_lt HT.out)).trans HT.out)
  have HGn := hide (HG.out.below hb)
  have HUn : Hid (Two w5 B (.slice a1 len c1) (.int .u64 (low : Nat))) := hide ((hb.block _ (heap_lt HU.out)).trans HU.out)
  have HPn := hide (HP.out.below hb)
  clear HB HV HT HG HU HP
  have HB := HBn
  clear HBn
  have HV := HVn
  clear HVn
  have HT := HTn
  clear HTn
  have HG := HGn
  clear HGn
  have HU := HUn
  clear HUn
  have HP := HPn
  clear HPn
  clear hb
  have HR := hide hp5
  clear hp5
  generalize scanR low l key to t = S0 at *
  obtain ⟨s0, s1⟩ := S0
  dsimp only at HP HR ⊢
  obtain ⟨HT0, HT1⟩ := cells2_of_blk HT.out
  obtain ⟨HU0, HU1⟩ := cells2_of_blk HU.out
  have HC := hide (last_any a1 len c1 low key l _ HG.out)
  go_wp2_with fail
  refine HC.out.mono ?_
  rintro e w6 ⟨rfl, hb⟩
  clear HC
  clear HT0 HT1 HU0 HU1
  have HBn := hide (HB.out.trans (hb.mono HB.out.size))
  have HVn := hide (HV.out.below hb)
  have HTn : Hid (Two w6 w.heap.size (.slice a len cap) (.int .u64 (low : Nat))) := hide ((hb.block _ (heap_lt HT.out)).trans HT.out)
  have HGn := hide (HG.out.below hb)
  have HUn : Hid (Two w6 B (.slice a1 len c1) (.int .u64 (low : Nat))) := hide ((hb.block _ (heap_lt HU.out)).trans HU.out)
  have HPn := hide (HP.out.below hb)
  have HRn := hide (HR.out.below hb)
  clear HB HV HT HG HU HP HR
  have HB := HBn
  clear HBn
  have HV := HVn
  clear HVn
  have HT := HTn
  clear HTn
  have HG := HGn
  clear HGn
  have HU := HUn
  clear HUn
  have HP := HPn
  clear HPn
  have HR := HRn
  clear HRn
  clear hb
  obtain ⟨HT0, HT1⟩ := cells2_of_blk HT.out
  obtain ⟨HU0, HU1⟩ := cells2_of_blk HU.out
  have HC := hide (rlast_any a len cap low key l _ HV.out)
  go_wp2_with fail
  refine HC.out.mono ?_
  rintro e w7 ⟨rfl, hb⟩
  clear HC
  clear HT0 HT1 HU0 HU1
  have HBn := hide (HB.out.trans (hb.mono HB.out.size))
  have HVn := hide (HV.out.below hb)
  have HTn : Hid (Two w7 w.heap.size (.slice a len cap) (.int .u64 (low : Nat))) := hide ((hb.block _ (heap_lt HT.out)).trans HT.out)
  have HGn := hide (HG.out.below hb)
  have HUn : Hid (Two w7 B (.slice a1 len c1) (.int .u64 (low : Nat))) := hide ((hb.block _ (heap_lt HU.out)).trans HU.out)
  have HPn := hide (HP.out.below hb)
  have HRn := hide (HR.out.below hb)
  clear HB HV HT HG HU HP HR
  have HB := HBn
  clear HBn
  have HV := HVn
  clear HVn
  have HT := HTn
  clear HTn
  have HG := HGn
  clear HGn
  have HU := HUn
  clear HUn
  have HP := HPn
  clear HPn
  have HR := HRn
  clear HRn
  clear hb
  generalize lastR low l key = T0 at *
  obtain ⟨t0, t1⟩ := T0
  dsimp only
  have HD : Hid (Below w7.heap.size w7 w7.drew) := hide (Below.refl _ w7).drew
  have HBn := hide (HB.out.trans (HD.out.mono HB.out.size))
  have HVn := hide (HV.out.below HD.out)
  have HTn : Hid (Two w7.drew w.heap.size (.slice a len cap) (.int .u64 (low : Nat))) := hide ((HD.out.block _ (heap_lt HT.out)).trans HT.out)
  have HGn := hide (HG.out.below HD.out)
  have HUn : Hid (Two w7.drew B (.slice a1 len c1) (.int .u64 (low : Nat))) := hide ((HD.out.block _ (heap_lt HU.out)).trans HU.out)
  have HPn := hide (HP.out.below HD.out)
  have HRn := hide (HR.out.below HD.out)
  clear HB HV HT HG HU HP HR
  have HB := HBn
  clear HBn
  have HV := HVn
  clear HVn
  have HT := HTn
  clear HTn
  have HG := HGn
  clear HGn
  have HU := HUn
  clear HUn
  have HP := HPn
  clear HPn
  have HR := HRn
  clear HRn
  clear HD
  go_wp2_with fail
  refine wp_region_held_drew (S := (fun W : World => W.cell? ⟨w.heap.size, 0, none⟩ = some (.slice a len cap) ∧ W.cell? ⟨w.heap.size, 1, none⟩ = some (.int .u64 (low : Nat)) ∧ W.cell? ⟨B, 0, none⟩ = some (.slice a1 len c1) ∧ W.cell? ⟨B, 1, none⟩ = some (.int .u64 (low : Nat)))) (by kernel_rfl) ?hSa (fun hHeld => ?_)
  case hSa => exact ⟨(cells2_of_blk HT.out).1, (cells2_of_blk HT.out).2, (cells2_of_blk HU.out).1, (cells2_of_blk HU.out).2⟩
  generalize w7.drew = D0 at *
  refine hOne (i := 0) rfl (by kernel_rfl) (fun K hK => ?_)
  go_simp
  refine (lives_any _).mono ?_
  rintro e D1 ⟨rfl, hb⟩
  have HBn := hide (HB.out.trans (hb.mono HB.out.size))
  have HVn := hide (HV.out.below hb)
  have HTn : Hid (Two D1 w.heap.size (.slice a len cap) (.int .u64 (low : Nat))) := hide ((hb.block _ (heap_lt HT.out)).trans HT.out)
  have HGn := hide (HG.out.below hb)
  have HUn : Hid (Two D1 B (.slice a1 len c1) (.int .u64 (low : Nat))) := hide ((hb.block _ (heap_lt HU.out)).trans HU.out)
  have HPn := hide (HP.out.below hb)
  have HRn := hide (HR.out.below hb)
  clear HB HV HT HG HU HP HR
  have HB := HBn
  clear HBn
  have HV := HVn
  clear HVn
  have HT := HTn
  clear HTn
  have HG := HGn
  clear HGn
  have HU := HUn
  clear HUn
  have HP := HPn
  clear HPn
  have HR := HRn
  clear HRn
  clear hb hHeld
  go_simp
  refine hK.out _ _ ⟨(cells2_of_blk HT.out).1, (cells2_of_blk HT.out).2, (cells2_of_blk HU.out).1, (cells2_of_blk HU.out).2⟩ (fun hHeld => ?_)
  clear hK K
  try simp only [Act.put, List.setIfInBounds_toArray, List.set_cons_zero, List.set_cons_succ]
  refine hTake (i := 1) (v := ?v1) (some 71) rfl rfl (by kernel_rfl) (by kernel_rfl) (by kernel_rfl) (fun _ _ _ h => h) (by rfl) (by assumption) ?hy1 ?hn1
  case hy1 => (intro w hSw; (try dsimp only at hSw); go_simp; try with_reducible rfl)
  try simp only [Act.put, List.setIfInBounds_toArray, List.set_cons_zero, List.set_cons_succ]
  refine hTake (i := 2) (v := ?v2) (some 72) rfl rfl (by kernel_rfl) (by kernel_rfl) (by kernel_rfl) (fun _ _ _ h => h) (by rfl) (by assumption) ?hy2 ?hn2
  case hy2 => (intro w hSw; (try dsimp only at hSw); go_simp; try with_reducible rfl)
  try simp only [Act.put, List.setIfInBounds_toArray, List.set_cons_zero, List.set_cons_succ]
  refine hTake (i := 4) (v := ?v4) (some 74) rfl rfl (by kernel_rfl) (by kernel_rfl) (by kernel_rfl) (fun _ _ _ h => h) (by rfl) (by assumption) ?hy4 ?hn4
  case hy4 => (intro w hSw; (try dsimp only at hSw); go_simp; try with_reducible rfl)
  try simp only [Act.put, List.setIfInBounds_toArray, List.set_cons_zero, List.set_cons_succ]
  refine hOne (i := 3) rfl (by kernel_rfl) (fun K hK => ?_)
  go_simp
  refine (check_any a1 len c1 low l _ HG.out).mono ?_
  rintro e D2 ⟨rfl, hb⟩
  have HBn := hide (HB.out.trans (hb.mono HB.out.size))
  have HVn := hide (HV.out.below hb)
  have HTn : Hid (Two D2 w.heap.size (.slice a len cap) (.int .u64 (low : Nat))) := hide ((hb.block _ (heap_lt HT.out)).trans HT.out)
  have HGn := hide (HG.out.below hb)
  have HUn : Hid (Two D2 B (.slice a1 len c1) (.int .u64 (low : Nat))) := hide ((hb.block _ (heap_lt HU.out)).trans HU.out)
  have HPn := hide (HP.out.below hb)
  have HRn := hide (HR.out.below hb)
  clear HB HV HT HG HU HP HR
  have HB := HBn
  clear HBn
  have HV := HVn
  clear HVn
  have HT := HTn
  clear HTn
  have HG := HGn
  clear HGn
  have HU := HUn
  clear HUn
  have HP := HPn
  clear HPn
  have HR := HRn
  clear HRn
  clear hb hHeld
  go_simp
  refine hK.out _ _ ⟨(cells2_of_blk HT.out).1, (cells2_of_blk HT.out).2, (cells2_of_blk HU.out).1, (cells2_of_blk HU.out).2⟩ (fun hHeld => ?_)
  clear hK K
  try simp only [Act.put, List.setIfInBounds_toArray, List.set_cons_zero, List.set_cons_succ]
  refine hOne (i := 5) rfl (by kernel_rfl) (fun K hK => ?_)
  go_simp
  refine (rcheck_any a len cap low l _ HV.out).mono ?_
  rintro e D3 ⟨rfl, hb⟩
  have HBn := hide (HB.out.trans (hb.mono HB.out.size))
  have HVn := hide (HV.out.below hb)
  have HTn : Hid (Two D3 w.heap.size (.slice a len cap) (.int .u64 (low : Nat))) := hide ((hb.block _ (heap_lt HT.out)).trans HT.out)
  have HGn := hide (HG.out.below hb)
  have HUn : Hid (Two D3 B (.slice a1 len c1) (.int .u64 (low : Nat))) := hide ((hb.block _ (heap_lt HU.out)).trans HU.out)
  have HPn := hide (HP.out.below hb)
  have HRn := hide (HR.out.below hb)
  clear HB HV HT HG HU HP HR
  have HB := HBn
  clear HBn
  have HV := HVn
  clear HVn
  have HT := HTn
  clear HTn
  have HG := HGn
  clear HGn
  have HU := HUn
  clear HUn
  have HP := HPn
  clear HPn
  have HR := HRn
  clear HRn
  clear hb hHeld
  generalize checkE low l = ce at *
  go_simp
  refine hK.out _ _ ⟨(cells2_of_blk HT.out).1, (cells2_of_blk HT.out).2, (cells2_of_blk HU.out).1, (cells2_of_blk HU.out).2⟩ (fun hHeld => ?_)
  clear hK K
  try simp only [Act.put, List.setIfInBounds_toArray, List.set_cons_zero, List.set_cons_succ]
  refine hTake (i := 6) (v := ?v6) (some 76) rfl rfl (by kernel_rfl) (by kernel_rfl) (by kernel_rfl) (fun _ _ _ h => h) (by rfl) (by assumption) ?hy6 ?hn6
  case hy6 => (intro w hSw; (try dsimp only at hSw); go_simp; try with_reducible rfl)
  try simp only [Act.put, List.setIfInBounds_toArray, List.set_cons_zero, List.set_cons_succ]
  refine hTake (i := 7) (v := ?v7) (some 77) rfl rfl (by kernel_rfl) (by kernel_rfl) (by kernel_rfl) (fun _ _ _ h => h) (by rfl) (by assumption) ?hy7 ?hn7
  case hy7 => (intro w hSw; (try dsimp only at hSw); go_simp; try with_reducible rfl)
  try simp only [Act.put, List.setIfInBounds_toArray, List.set_cons_zero, List.set_cons_succ]
  refine hTake (i := 8) (v := ?v8) (some 78) rfl rfl (by kernel_rfl) (by kernel_rfl) (by kernel_rfl) (fun _ _ _ h => h) (by rfl) (by assumption) ?hy8 ?hn8
  case hy8 => (intro w hSw; (try dsimp only at hSw); go_simp; try with_reducible rfl)
  try simp only [Act.put, List.setIfInBounds_toArray, List.set_cons_zero, List.set_cons_succ]
  refine hTake (i := 9) (v := ?v9) (some 79) rfl rfl (by kernel_rfl) (by kernel_rfl) (by kernel_rfl) (fun _ _ _ h => h) (by rfl) (by assumption) ?hy9 ?hn9
  case hy9 => (intro w hSw; (try dsimp only at hSw); go_simp; try with_reducible rfl)
  try simp only [Act.put, List.setIfInBounds_toArray, List.set_cons_zero, List.set_cons_succ]
  refine hTake (i := 10) (v := ?v10) (some 80) rfl rfl (by kernel_rfl) (by kernel_rfl) (by kernel_rfl) (fun _ _ _ h => h) (by rfl) (by assumption) ?hy10 ?hn10
  case hy10 => (intro w hSw; (try dsimp only at hSw); go_simp; try with_reducible rfl)
  try simp only [Act.put, List.setIfInBounds_toArray, List.set_cons_zero, List.set_cons_succ]
  refine hTake (i := 11) (v := ?v11) (some 81) rfl rfl (by kernel_rfl) (by kernel_rfl) (by kernel_rfl) (fun _ _ _ h => h) (by rfl) (by assumption) ?hy11 ?hn11
  case hy11 => (intro w hSw; (try dsimp only at hSw); go_simp; try with_reducible rfl)
  try simp only [Act.put, List.setIfInBounds_toArray, List.set_cons_zero, List.set_cons_succ]
  refine hTake (i := 12) (v := ?v12) (some 82) rfl rfl (by kernel_rfl) (by kernel_rfl) (by kernel_rfl) (fun _ _ _ h => h) (by rfl) (by assumption) ?hy12 ?hn12
  case hy12 => (intro w hSw; (try dsimp only at hSw); go_simp; try with_reducible rfl)
  try simp only [Act.put, List.setIfInBounds_toArray, List.set_cons_zero, List.set_cons_succ]
  refine hTake (i := 13) (v := ?v13) (some 83) rfl rfl (by kernel_rfl) (by kernel_rfl) (by kernel_rfl) (fun _ _ _ h => h) (by rfl) (by assumption) ?hy13 ?hn13
  case hy13 => (intro w hSw; (try dsimp only at hSw); go_simp; try with_reducible rfl)
  try simp only [Act.put, List.setIfInBounds_toArray, List.set_cons_zero, List.set_cons_succ]
  refine hTake (i := 14) (v := ?v14) (some 84) rfl rfl (by kernel_rfl) (by kernel_rfl) (by kernel_rfl) (fun _ _ _ h => h) (by rfl) (by assumption) ?hy14 ?hn14
  case hy14 => (intro w hSw; (try dsimp only at hSw); go_simp; try with_reducible rfl)
  try simp only [Act.put, List.setIfInBounds_toArray, List.set_cons_zero, List.set_cons_succ]
  refine hTake (i := 15) (v := ?v15) (some 85) rfl rfl (by kernel_rfl) (by kernel_rfl) (by kernel_rfl) (fun _ _ _ h => h) (by rfl) (by assumption) ?hy15 ?hn15
  case hy15 => (intro w hSw; (try dsimp only at hSw); go_simp; try with_reducible rfl)
  try simp only [Act.put, List.setIfInBounds_toArray, List.set_cons_zero, List.set_cons_succ]
  refine hTake (i := 16) (v := ?v16) (some 86) rfl rfl (by kernel_rfl) (by kernel_rfl) (by kernel_rfl) (fun _ _ _ h => h) (by rfl) (by assumption) ?hy16 ?hn16
  case hy16 => (intro w hSw; (try dsimp only at hSw); go_simp; try with_reducible rfl)
  try simp only [Act.put, List.setIfInBounds_toArray, List.set_cons_zero, List.set_cons_succ]
  refine hTake (i := 17) (v := ?v17) (some 87) rfl rfl (by kernel_rfl) (by kernel_rfl) (by kernel_rfl) (fun _ _ _ h => h) (by rfl) (by assumption) ?hy17 ?hn17
  case hy17 => (intro w hSw; (try dsimp only at hSw); go_simp; try with_reducible rfl)
  try simp only [Act.put, List.setIfInBounds_toArray, List.set_cons_zero, List.set_cons_succ]
  refine hTake (i := 18) (v := ?v18) (some 88) rfl rfl (by kernel_rfl) (by kernel_rfl) (by kernel_rfl) (fun _ _ _ h => h) (by rfl) (by assumption) ?hy18 ?hn18
  case hy18 => (intro w hSw; (try dsimp only at hSw); go_simp; try with_reducible rfl)
  try simp only [Act.put, List.setIfInBounds_toArray, List.set_cons_zero, List.set_cons_succ]
  refine hTake (i := 19) (v := ?v19) (some 89) rfl rfl (by kernel_rfl) (by kernel_rfl) (by kernel_rfl) (fun _ _ _ h => h) (by rfl) (by assumption) ?hy19 ?hn19
  case hy19 => (intro w hSw; (try dsimp only at hSw); go_simp; try with_reducible rfl)
  try simp only [Act.put, List.setIfInBounds_toArray, List.set_cons_zero, List.set_cons_succ]
  refine hTake (i := 20) (v := ?v20) (some 90) rfl rfl (by kernel_rfl) (by kernel_rfl) (by kernel_rfl) (fun _ _ _ h => h) (by rfl) (by assumption) ?hy20 ?hn20
  case hy20 => (intro w hSw; (try dsimp only at hSw); go_simp; try with_reducible rfl)
  try simp only [Act.put, List.setIfInBounds_toArray, List.set_cons_zero, List.set_cons_succ]
  refine hTake (i := 21) (v := ?v21) (some 91) rfl rfl (by kernel_rfl) (by kernel_rfl) (by kernel_rfl) (fun _ _ _ h => h) (by rfl) (by assumption) ?hy21 ?hn21
  case hy21 => (intro w hSw; (try dsimp only at hSw); go_simp; try with_reducible rfl)
  try simp only [Act.put, List.setIfInBounds_toArray, List.set_cons_zero, List.set_cons_succ]
  refine hTake (i := 22) (v := ?v22) (some 92) rfl rfl (by kernel_rfl) (by kernel_rfl) (by kernel_rfl) (fun _ _ _ h => h) (by rfl) (by assumption) ?hy22 ?hn22
  case hy22 => (intro w hSw; (try dsimp only at hSw); go_simp; try with_reducible rfl)
  try simp only [Act.put, List.setIfInBounds_toArray, List.set_cons_zero, List.set_cons_succ]
  refine hTake (i := 23) (v := ?v23) (some 93) rfl rfl (by kernel_rfl) (by kernel_rfl) (by kernel_rfl) (fun _ _ _ h => h) (by rfl) (by assumption) ?hy23 ?hn23
  case hy23 => (intro w hSw; (try dsimp only at hSw); go_simp; try with_reducible rfl)
  try simp only [Act.put, List.setIfInBounds_toArray, List.set_cons_zero, List.set_cons_succ]
  refine hTake (i := 24) (v := ?v24) (some 94) rfl rfl (by kernel_rfl) (by kernel_rfl) (by kernel_rfl) (fun _ _ _ h => h) (by rfl) (by assumption) ?hy24 ?hn24
  case hy24 => (intro w hSw; (try dsimp only at hSw); go_simp; try with_reducible rfl)
  try simp only [Act.put, List.setIfInBounds_toArray, List.set_cons_zero, List.set_cons_succ]
  refine hTake (i := 25) (v := ?v25) (some 95) rfl rfl (by kernel_rfl) (by kernel_rfl) (by kernel_rfl) (fun _ _ _ h => h) (by rfl) (by assumption) ?hy25 ?hn25
  case hy25 => (intro w hSw; (try dsimp only at hSw); go_simp; try with_reducible rfl)
  try simp only [Act.put, List.setIfInBounds_toArray, List.set_cons_zero, List.set_cons_succ]
  refine hOne (i := 26) rfl (by kernel_rfl) (fun K hK => ?_)
  go_simp
  refine (sameP_any a4 s0.length c4 s0 a5 s0.length c5 s0 _ HP.out HR.out).mono ?_
  rintro e D4 ⟨⟨r, rfl, hr⟩, hb⟩
  obtain rfl : r = true := hr.2 rfl
  clear hr
  have HBn := hide (HB.out.trans (hb.mono HB.out.size))
  have HVn := hide (HV.out.below hb)
  have HTn : Hid (Two D4 w.heap.size (.slice a len cap) (.int .u64 (low : Nat))) := hide ((hb.block _ (heap_lt HT.out)).trans HT.out)
  have HGn := hide (HG.out.below hb)
  have HUn : Hid (Two D4 B (.slice a1 len c1) (.int .u64 (low : Nat))) := hide ((hb.block _ (heap_lt HU.out)).trans HU.out)
  have HPn := hide (HP.out.below hb)
  have HRn := hide (HR.out.below hb)
  clear HB HV HT HG HU HP HR
  have HB := HBn
  clear HBn
  have HV := HVn
  clear HVn
  have HT := HTn
  clear HTn
  have HG := HGn
  clear HGn
  have HU := HUn
  clear HUn
  have HP := HPn
  clear HPn
  have HR := HRn
  clear HRn
  clear hb hHeld
  go_simp
  refine hK.out _ _ ⟨(cells2_of_blk HT.out).1, (cells2_of_blk HT.out).2, (cells2_of_blk HU.out).1, (cells2_of_blk HU.out).2⟩ (fun hHeld => ?_)
  clear hK K
  try simp only [Act.put, List.setIfInBounds_toArray, List.set_cons_zero, List.set_cons_succ]
  refine hTake (i := 27) (v := ?v27) (some 97) rfl rfl (by kernel_rfl) (by kernel_rfl) (by kernel_rfl) (fun _ _ _ h => h) (by rfl) (by assumption) ?hy27 ?hn27
  case hy27 => (intro w hSw; (try dsimp only at hSw); go_simp; try with_reducible rfl)
  try simp only [Act.put, List.setIfInBounds_toArray, List.set_cons_zero, List.set_cons_succ]
  refine hTake (i := 28) (v := ?v28) (some 98) rfl rfl (by kernel_rfl) (by kernel_rfl) (by kernel_rfl) (fun _ _ _ h => h) (by rfl) (by assumption) ?hy28 ?hn28
  case hy28 => (intro w hSw; (try dsimp only at hSw); go_simp; try with_reducible rfl)
  try simp only [Act.put, List.setIfInBounds_toArray, List.set_cons_zero, List.set_cons_succ]
  refine hTake (i := 29) (v := ?v29) (some 99) rfl rfl (by kernel_rfl) (by kernel_rfl) (by kernel_rfl) (fun _ _ _ h => h) (by rfl) (by assumption) ?hy29 ?hn29
  case hy29 => (intro w hSw; (try dsimp only at hSw); go_simp; try with_reducible rfl)
  try simp only [Act.put, List.setIfInBounds_toArray, List.set_cons_zero, List.set_cons_succ]
  refine hTake (i := 30) (v := ?v30) (some 100) rfl rfl (by kernel_rfl) (by kernel_rfl) (by kernel_rfl) (fun _ _ _ h => h) (by rfl) (by assumption) ?hy30 ?hn30
  case hy30 => (intro w hSw; (try dsimp only at hSw); go_simp; try with_reducible rfl)
  try simp only [Act.put, List.setIfInBounds_toArray, List.set_cons_zero, List.set_cons_succ]
  refine hTake (i := 31) (v := ?v31) (some 101) rfl rfl (by kernel_rfl) (by kernel_rfl) (by kernel_rfl) (fun _ _ _ h => h) (by rfl) (by assumption) ?hy31 ?hn31
  case hy31 => (intro w hSw; (try dsimp only at hSw); go_simp; try with_reducible rfl)
  try simp only [Act.put, List.setIfInBounds_toArray, List.set_cons_zero, List.set_cons_succ]
  refine hTake (i := 32) (v := ?v32) (some 102) rfl rfl (by kernel_rfl) (by kernel_rfl) (by kernel_rfl) (fun _ _ _ h => h) (by rfl) (by assumption) ?hy32 ?hn32
  case hy32 => (intro w hSw; (try dsimp only at hSw); go_simp; try with_reducible rfl)
  try simp only [Act.put, List.setIfInBounds_toArray, List.set_cons_zero, List.set_cons_succ]
  refine hTake (i := 33) (v := ?v33) (some 103) rfl rfl (by kernel_rfl) (by kernel_rfl) (by kernel_rfl) (fun _ _ _ h => h) (by rfl) (by assumption) ?hy33 ?hn33
  case hy33 => (intro w hSw; (try dsimp only at hSw); go_simp; try with_reducible rfl)
  try simp only [Act.put, List.setIfInBounds_toArray, List.set_cons_zero, List.set_cons_succ]
  refine hTake (i := 34) (v := ?v34) (some 104) rfl rfl (by kernel_rfl) (by kernel_rfl) (by kernel_rfl) (fun _ _ _ h => h) (by rfl) (by assumption) ?hy34 ?hn34
  case hy34 => (intro w hSw; (try dsimp only at hSw); go_simp; try with_reducible rfl)
  try simp only [Act.put, List.setIfInBounds_toArray, List.set_cons_zero, List.set_cons_succ]
  refine hTake (i := 35) (v := ?v35) (some 105) rfl rfl (by kernel_rfl) (by kernel_rfl) (by kernel_rfl) (fun _ _ _ h => h) (by rfl) (by assumption) ?hy35 ?hn35
  case hy35 => (intro w hSw; (try dsimp only at hSw); go_simp; try with_reducible rfl)
  try simp only [Act.put, List.setIfInBounds_toArray, List.set_cons_zero, List.set_cons_succ]
  refine hTake (i := 36) (v := ?v36) (some 106) rfl rfl (by kernel_rfl) (by kernel_rfl) (by kernel_rfl) (fun _ _ _ h => h) (by rfl) (by assumption) ?hy36 ?hn36
  case hy36 => (intro w hSw; (try dsimp only at hSw); go_simp; try with_reducible rfl)
  try simp only [Act.put, List.setIfInBounds_toArray, List.set_cons_zero, List.set_cons_succ]
  refine hTake (i := 37) (v := ?v37) (some 107) rfl rfl (by kernel_rfl) (by kernel_rfl) (by kernel_rfl) (fun _ _ _ h => h) (by rfl) (by assumption) ?hy37 ?hn37
  case hy37 => (intro w hSw; (try dsimp only at hSw); go_simp; try with_reducible rfl)
  try simp only [Act.put, List.setIfInBounds_toArray, List.set_cons_zero, List.set_cons_succ]
  refine hTake (i := 38) (v := ?v38) (some 108) rfl rfl (by kernel_rfl) (by kernel_rfl) (by kernel_rfl) (fun _ _ _ h => h) (by rfl) (by assumption) ?hy38 ?hn38
  case hy38 => (intro w hSw; (try dsimp only at hSw); go_simp; try with_reducible rfl)
  try simp only [Act.put, List.setIfInBounds_toArray, List.set_cons_zero, List.set_cons_succ]
  refine hTake (i := 39) (v := ?v39) (some 109) rfl rfl (by kernel_rfl) (by kernel_rfl) (by kernel_rfl) (fun _ _ _ h => h) (by rfl) (by assumption) ?hy39 ?hn39
  case hy39 => (intro w hSw; (try dsimp only at hSw); go_simp; try with_reducible rfl)
  try simp only [Act.put, List.setIfInBounds_toArray, List.set_cons_zero, List.set_cons_succ]
  refine hTake (i := 40) (v := ?v40) (some 110) rfl rfl (by kernel_rfl) (by kernel_rfl) (by kernel_rfl) (fun _ _ _ h => h) (by rfl) (by assumption) ?hy40 ?hn40
  case hy40 => (intro w hSw; (try dsimp only at hSw); go_simp; try with_reducible rfl)
  try simp only [Act.put, List.setIfInBounds_toArray, List.set_cons_zero, List.set_cons_succ]
  refine hTake (i := 41) (v := ?v41) (some 111) rfl rfl (by kernel_rfl) (by kernel_rfl) (by kernel_rfl) (fun _ _ _ h => h) (by rfl) (by assumption) ?hy41 ?hn41
  case hy41 => (intro w hSw; (try dsimp only at hSw); go_simp; try with_reducible rfl)
  try simp only [Act.put, List.setIfInBounds_toArray, List.set_cons_zero, List.set_cons_succ]
  refine hTake (i := 42) (v := ?v42) (some 112) rfl rfl (by kernel_rfl) (by kernel_rfl) (by kernel_rfl) (fun _ _ _ h => h) (by rfl) (by assumption) ?hy42 ?hn42
  case hy42 => (intro w hSw; (try dsimp only at hSw); go_simp; try with_reducible rfl)
  try simp only [Act.put, List.setIfInBounds_toArray, List.set_cons_zero, List.set_cons_succ]
  refine hTake (i := 43) (v := ?v43) (some 113) rfl rfl (by kernel_rfl) (by kernel_rfl) (by kernel_rfl) (fun _ _ _ h => h) (by rfl) (by assumption) ?hy43 ?hn43
  case hy43 => (intro w hSw; (try dsimp only at hSw); go_simp; try with_reducible rfl)
  try simp only [Act.put, List.setIfInBounds_toArray, List.set_cons_zero, List.set_cons_succ]
  refine hTake (i := 44) (v := ?v44) (some 114) rfl rfl (by kernel_rfl) (by kernel_rfl) (by kernel_rfl) (fun _ _ _ h => h) (by rfl) (by assumption) ?hy44 ?hn44
  case hy44 => (intro w hSw; (try dsimp only at hSw); go_simp; try with_reducible rfl)
  try simp only [Act.put, List.setIfInBounds_toArray, List.set_cons_zero, List.set_cons_succ]
  refine hTake (i := 45) (v := ?v45) (some 115) rfl rfl (by kernel_rfl) (by kernel_rfl) (by kernel_rfl) (fun _ _ _ h => h) (by rfl) (by assumption) ?hy45 ?hn45
  case hy45 => (intro w hSw; (try dsimp only at hSw); go_simp; try with_reducible rfl)
  try simp only [Act.put, List.setIfInBounds_toArray, List.set_cons_zero, List.set_cons_succ]
  refine hOne (i := 46) rfl (by kernel_rfl) (fun K hK => ?_)
  go_simp
  refine (sameV_any a1 len c1 low l a len cap low l _ HG.out HV.out).mono ?_
  rintro e D5 ⟨⟨r, rfl, hr⟩, hb⟩
  obtain rfl : r = true := hr.2 ⟨rfl, rfl⟩
  clear hr
  have HBn := hide (HB.out.trans (hb.mono HB.out.size))
  have HVn := hide (HV.out.below hb)
  have HTn : Hid (Two D5 w.heap.size (.slice a len cap) (.int .u64 (low : Nat))) := hide ((hb.block _ (heap_lt HT.out)).trans HT.out)
  have HGn := hide (HG.out.below hb)
  have HUn : Hid (Two D5 B (.slice a1 len c1) (.int .u64 (low : Nat))) := hide ((hb.block _ (heap_lt HU.out)).trans HU.out)
  have HPn := hide (HP.out.below hb)
  have HRn := hide (HR.out.below hb)
  clear HB HV HT HG HU HP HR
  have HB := HBn
  clear HBn
  have HV := HVn
  clear HVn
  have HT := HTn
  clear HTn
  have HG := HGn
  clear HGn
  have HU := HUn
  clear HUn
  have HP := HPn
  clear HPn
  have HR := HRn
  clear HRn
  clear hb hHeld
  go_simp
  refine hK.out _ _ ⟨(cells2_of_blk HT.out).1, (cells2_of_blk HT.out).2, (cells2_of_blk HU.out).1, (cells2_of_blk HU.out).2⟩ (fun hHeld => ?_)
  clear hK K
  try simp only [Act.put, List.setIfInBounds_toArray, List.set_cons_zero, List.set_cons_succ]
  refine hTake (i := 47) (v := ?v47) (some 117) rfl rfl (by kernel_rfl) (by kernel_rfl) (by kernel_rfl) (fun _ _ _ h => h) (by rfl) (by assumption) ?hy47 ?hn47
  case hy47 => (intro w hSw; (try dsimp only at hSw); go_simp; try with_reducible rfl)
  try simp only [Act.put, List.setIfInBounds_toArray, List.set_cons_zero, List.set_cons_succ]
  refine hTake (i := 48) (v := ?v48) (some 8) rfl rfl (by kernel_rfl) (by kernel_rfl) (by kernel_rfl) (fun _ _ _ h => h) (by rfl) (by assumption) ?hy48 ?hn48
  case hy48 => (intro w hSw; (try dsimp only at hSw); go_simp; try with_reducible rfl)
  try simp only [Act.put, List.setIfInBounds_toArray, List.set_cons_zero, List.set_cons_succ]
  refine wpAnyH_done (by kernel_rfl) ?_ _
  go_wp2
  go_ret
  exact ⟨rfl, HB.out⟩
end Go.Proofs.Ytpgdmkjfgmiacaa
