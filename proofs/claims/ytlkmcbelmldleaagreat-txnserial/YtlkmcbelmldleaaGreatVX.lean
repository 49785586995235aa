/- mvcc.refused, whole -/
import Derived.Test.YtlkmcbelmldleaaGreatVV
namespace Go.Proofs.YtlkmcbelmldleaaGreat
open Go.RowKit Go.Shelf Go.Lib Go.Sort
set_option maxRecDepth 40000
/-- why writes can't be put to versions -/
def refE (low : Nat) (l : List Vr) (ws : List Wt) (t : Nat) : Int :=
  if goodB low l = true then (if 4096 < ws.length then 3 else if ws.any longB = true then 4 else if twiceB ws = true then 12 else if timeB t = true then (if t < low ∨ l.any (lateB t) = true then 9 else if 4096 < l.length + ws.length then 3 else 0) else 2) else 2
set_option maxRecDepth 40000 in
set_option maxHeartbeats 2000000 in
theorem refused_any (a : Option Addr) (len cap low : Nat) (l : List Vr) (aw : Option Addr) (lw cw : Nat) (ws : List Wt) (t : Nat) (w : World) (hL : IsV w a len cap l) (hW : IsW w aw lw cw ws) :
    Calls Tryz.prog 62 #[.agg #[.slice a len cap, .int .u64 (low : Nat)], .slice aw lw cw, .int .u64 (t : Nat)] w fun e w' => e = .returned (.int .i64 (refE low l ws t)) ∧ Below w.heap.size w w' := by
  have HV := hide hL
  have HW := hide hW
  have HLN := hide hL.1
  have HWN := hide hW.1
  have hcm : cap ≤ 9223372036854775807 := hL.2.2.1
  have hcap := hL.2.1
  have hcmw : cw ≤ 9223372036854775807 := hW.2.2.1
  have hcapw := hW.2.1
  have HB5 : Hid (Below w.heap.size w ((w.alloc (.cells #[.slice a len cap, .int .u64 (low : Nat)] 31)).alloc (.cells #[.int .u64 (t : Nat)] 29))) := hide (((Below.refl _ w).alloc (Nat.le_refl _) _).alloc (by simp) _)
  have bV : Hid (Two ((w.alloc (.cells #[.slice a len cap, .int .u64 (low : Nat)] 31)).alloc (.cells #[.int .u64 (t : Nat)] 29)) w.heap.size (.slice a len cap) (.int .u64 (low : Nat))) := hide ((heap_alloc_old _ _ _ (by simp)).trans (heap_alloc_new _ _))
  have bT := hide (Boxed.new (w.alloc (.cells #[.slice a len cap, .int .u64 (low : Nat)] 31)) 29 (.int .u64 (t : Nat)))
  simp only [World.size_alloc] at bT
  have HRE : Hid (refE low l ws t = if goodB low l = true then (if 4096 < lw then 3 else if ws.any longB = true then 4 else if twiceB ws = true then 12 else if timeB t = true then (if t < low ∨ l.any (lateB t) = true then 9 else if 4096 < len + lw then 3 else 0) else 2) else 2) := hide (by unfold refE; rw [hL.1, hW.1])
  clear hL hW
  generalize refE low l ws t = R at *
  have hent53 : ∀ args W, (callFunc 92 args).run Tryz.prog W = .ok (.enter 92 args) W := enters_of Tryz.func92 (by kernel_rfl) rfl
  have hent52 : ∀ args W, (callFunc 91 args).run Tryz.prog W = .ok (.enter 91 args) W := enters_of Tryz.func91 (by kernel_rfl) rfl
  go_enter Tryz.func62, Tryz.ntmps62
  go_wp2_with fail
  generalize (w.alloc (.cells #[.slice a len cap, .int .u64 (low : Nat)] 31)).alloc (.cells #[.int .u64 (t : Nat)] 29) = V at *
  refine (check_any a len cap low l V (HV.out.below HB5.out)).mono ?_
  rintro e w1 ⟨rfl, hb1⟩
  have HB1 := hide (HB5.out.trans (hb1.mono HB5.out.size))
  have HV1 : Hid (Two w1 w.heap.size (.slice a len cap) (.int .u64 (low : Nat))) := hide ((hb1.block _ (heap_lt bV.out)).trans bV.out)
  have HT1 : Hid (Boxed w1 (w.heap.size + 1) 29 (.int .u64 (t : Nat))) := hide ((hb1.block _ bT.out.lt).trans bT.out)
  clear hb1 bV bT HB5
  unfold checkE
  by_cases hg : goodB low l = true
  rotate_left
  · rw [if_neg hg]
    have HR : Hid (R = 2) := hide (by rw [HRE.out, if_neg hg])
    clear HRE hg
    go_wp2
    go_ret
    exact ⟨ret_int HR.out.symm, HB1.out⟩
  rw [if_pos hg]
  rw [if_pos hg] at HRE
  have hl0 : len ≤ 4096 := by
    have hll := HLN.out
    simp only [goodB, Bool.and_eq_true, decide_eq_true_eq] at hg
    omega
  clear hg
  by_cases h1 : 4096 < lw
  · have h1I : (4096 : Int) < (lw : Int) := by omega
    have HR : Hid (R = 3) := hide (by rw [HRE.out, if_pos h1])
    clear HRE
    go_wp2
    go_ret
    exact ⟨ret_int HR.out.symm, HB1.out⟩
  have h1I : ¬ (4096 : Int) < (lw : Int) := by omega
  rw [if_neg h1] at HRE
  go_wp2_with fail
  refine (hasW_any aw lw cw 92 #[] longB ws w1 (HW.out.below HB1.out) hent53 (fun x W hb => long_any x w1 W hb)).mono ?_
  rintro e w2 ⟨rfl, hb2⟩
  have HB2 := hide (HB1.out.trans (hb2.mono HB1.out.size))
  have HV2 : Hid (Two w2 w.heap.size (.slice a len cap) (.int .u64 (low : Nat))) := hide ((hb2.block _ (heap_lt HV1.out)).trans HV1.out)
  have HT2 : Hid (Boxed w2 (w.heap.size + 1) 29 (.int .u64 (t : Nat))) := hide ((hb2.block _ HT1.out.lt).trans HT1.out)
  clear hb2 HV1 HT1 HB1
  cases hlg : ws.any longB
  rotate_left
  · have HR : Hid (R = 4) := hide (by rw [HRE.out, if_pos hlg])
    clear HRE hlg
    go_wp2
    go_ret
    exact ⟨ret_int HR.out.symm, HB2.out⟩
  rw [if_neg (by rw [hlg]; simp)] at HRE
  clear hlg
  have HTW := hide (twice_any aw lw cw ws w2 (HW.out.below HB2.out) (by omega))
  go_wp2_with fail
  refine HTW.out.mono ?_
  rintro e w3 ⟨rfl, hb3⟩
  have HB3 := hide (HB2.out.trans (hb3.mono HB2.out.size))
  have HV3 : Hid (Two w3 w.heap.size (.slice a len cap) (.int .u64 (low : Nat))) := hide ((hb3.block _ (heap_lt HV2.out)).trans HV2.out)
  have HT3 : Hid (Boxed w3 (w.heap.size + 1) 29 (.int .u64 (t : Nat))) := hide ((hb3.block _ HT2.out.lt).trans HT2.out)
  clear hb3 HV2 HT2 HB2 HTW
  cases htw : twiceB ws
  rotate_left
  · have HR : Hid (R = 12) := hide (by rw [HRE.out, if_pos htw])
    clear HRE htw
    go_wp2
    go_ret
    exact ⟨ret_int HR.out.symm, HB3.out⟩
  rw [if_neg (by rw [htw]; simp)] at HRE
  clear htw
  have cT := HT3.out.cell
  obtain ⟨v0, v1⟩ := cells2_of_blk HV3.out
  have HTM := hide (fun W => isTime_any t W)
  go_wp2_with fail
  refine (HTM.out _).mono ?_
  rintro e w4 ⟨rfl, rfl⟩
  cases htm : timeB t
  · have HR : Hid (R = 2) := hide (by rw [HRE.out, if_neg (by rw [htm]; simp)])
    clear HRE htm HTM
    go_wp2
    go_ret
    exact ⟨ret_int HR.out.symm, HB3.out⟩
  rw [if_pos htm] at HRE
  clear htm HTM
  by_cases h2 : t < low
  · have h2I : (t : Int) < (low : Int) := by omega
    have HR : Hid (R = 9) := hide (by rw [HRE.out, if_pos (.inl h2)])
    clear HRE
    go_wp2
    go_ret
    exact ⟨ret_int HR.out.symm, HB3.out⟩
  have h2I : ¬ (t : Int) < (low : Int) := by omega
  go_wp2_with fail
  refine (hasV_any a len cap 91 #[.pointer (some ⟨w.heap.size + 1, 0, none⟩)] (lateB t) l w4 (HV.out.below HB3.out) hent52 (fun x W hb => late_any t _ x w4 W HT3.out hb)).mono ?_
  rintro e w5 ⟨rfl, hb5⟩
  have HB5 := hide (HB3.out.trans (hb5.mono HB3.out.size))
  obtain ⟨y0, y1⟩ := cells2_of_blk ((hb5.block _ (heap_lt HV3.out)).trans HV3.out)
  clear hb5 HV3 HT3 HB3 v0 v1 cT
  cases hlt : l.any (lateB t)
  rotate_left
  · have HR : Hid (R = 9) := hide (by rw [HRE.out, if_pos (.inr hlt)])
    clear HRE hlt
    go_wp2
    go_ret
    exact ⟨ret_int HR.out.symm, HB5.out⟩
  rw [if_neg (by rintro (h | h); exact h2 h; rw [hlt] at h; cases h)] at HRE
  clear hlt
  have hw : IntKind.i64.wrap ((len : Int) + (lw : Int)) = (len : Int) + (lw : Int) := wr64' (by omega) (by omega)
  by_cases h3 : 4096 < len + lw
  · have h3I : (4096 : Int) < (len : Int) + (lw : Int) := by omega
    have HR : Hid (R = 3) := hide (by rw [HRE.out, if_pos h3])
    clear HRE
    go_wp2
    go_ret
    exact ⟨ret_int HR.out.symm, HB5.out⟩
  · have h3I : ¬ (4096 : Int) < (len : Int) + (lw : Int) := by omega
    have HR : Hid (R = 0) := hide (by rw [HRE.out, if_neg h3])
    clear HRE
    go_wp2
    go_ret
    exact ⟨ret_int HR.out.symm, HB5.out⟩
end Go.Proofs.YtlkmcbelmldleaaGreat
