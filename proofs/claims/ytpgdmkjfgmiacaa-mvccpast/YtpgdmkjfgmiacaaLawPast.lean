/- MvccPast, walked -/
import Derived.Test.YtpgdmkjfgmiacaaYc
namespace Go.Proofs.Ytpgdmkjfgmiacaa
open Go.RowKit
set_option maxRecDepth 40000 in
set_option maxHeartbeats 4000000 in
theorem pastWalk (a : Option Addr) (len cap : Nat) (l : List Vr) (low : Nat) (aw : Option Addr) (lw cw : Nat) (ws : List Wt) (t ask : Nat) (key : ByteArray) (w : World) (hL : IsV w a len cap l) (hW : IsW w aw lw cw ws) :
    Calls Try.prog 5 #[.agg #[.slice a len cap, .int .u64 (low : Nat)], .slice aw lw cw, .int .u64 (t : Nat), .int .u64 (ask : Nat), .string key] w fun e w' => e = .returned (.bool true) ∧ Below w.heap.size w w' := by
  have HB0 : Hid (Below w.heap.size w (w.alloc (.cells #[.slice a len cap, .int .u64 (low : Nat)] 25))) := hide ((Below.refl _ w).alloc (Nat.le_refl _) _)
  have HV0 := hide (hL.below HB0.out)
  have HW0 := hide (hW.below HB0.out)
  have HT0 : Hid (Two (w.alloc (.cells #[.slice a len cap, .int .u64 (low : Nat)] 25)) w.heap.size (.slice a len cap) (.int .u64 (low : Nat))) := hide (heap_alloc_new _ _)
  clear hL hW
  go_enter Try.func5, Try.ntmps5
  go_wp2_with fail
  generalize (w.alloc (.cells #[.slice a len cap, .int .u64 (low : Nat)] 25)) = V at *
  refine (lives_any V).mono ?_
  rintro e w1 ⟨rfl, hb1⟩
  have HB1 := hide (HB0.out.trans (hb1.mono HB0.out.size))
  have HV1 := hide (HV0.out.below hb1)
  have HW1 := hide (HW0.out.below hb1)
  have HT1 : Hid (Two w1 w.heap.size (.slice a len cap) (.int .u64 (low : Nat))) := hide ((hb1.block _ (heap_lt HT0.out)).trans HT0.out)
  obtain ⟨c0, c1'⟩ := cells2_of_blk HT1.out
  clear hb1 HB0 HV0 HW0 HT0
  have HS1 := hide (put_any a len cap low l aw lw cw ws t w1 HV1.out HW1.out)
  go_wp2_with fail
  refine HS1.out.mono ?_
  rintro e w2 ⟨a2, k2, rfl, hI2, hb2⟩
  clear HS1 c0 c1'
  unfold putR at hI2 ⊢
  by_cases hE : refE low l ws t = 0
  rotate_left
  · simp only [if_neg hE] at hI2 ⊢
    have HBa : Hid (Below w.heap.size w (w2.alloc (.cells #[.slice a2 0 k2, .int .u64 0] 25))) := hide ((HB1.out.trans (hb2.mono HB1.out.size)).alloc (Nat.le_trans HB1.out.size hb2.size) _)
    generalize refE low l ws t = R at *
    clear hI2 hb2 HB1 HV1 HW1 HT1
    go_wp2
    go_ret
    exact ⟨rfl, HBa.out⟩
  simp only [if_pos hE] at hI2 ⊢
  have HE := hide hE
  have HGU := hide (put_good hE)
  have HBF := hide (fun key ask (ha : ask < t) => past_before hE key ha)
  have HNO := hide (fun (ha : ¬ ask < t) (hw : writ ws key = none) => past_none hE ha hw)
  have HSO := hide (fun (ha : ¬ ask < t) z (hw : writ ws key = some z) => past_some hE ha hw)
  generalize putL t l ws = u at *
  clear hE
  have HBa : Hid (Below w2.heap.size w2 (w2.alloc (.cells #[.slice a2 u.length k2, .int .u64 (low : Nat)] 25))) := hide ((Below.refl _ w2).alloc (Nat.le_refl _) _)
  have HB2a := hide (HB1.out.trans (hb2.mono HB1.out.size))
  have HB2 := hide (HB2a.out.trans (HBa.out.mono HB2a.out.size))
  have HV2 := hide ((HV1.out.below hb2).below HBa.out)
  have HW2 := hide ((HW1.out.below hb2).below HBa.out)
  have HU2 := hide (hI2.below HBa.out)
  have HT2 : Hid (Two (w2.alloc (.cells #[.slice a2 u.length k2, .int .u64 (low : Nat)] 25)) w.heap.size (.slice a len cap) (.int .u64 (low : Nat))) := hide ((HBa.out.block _ (Nat.lt_of_lt_of_le (heap_lt HT1.out) hb2.size)).trans ((hb2.block _ (heap_lt HT1.out)).trans HT1.out))
  have HTU2 : Hid (Two (w2.alloc (.cells #[.slice a2 u.length k2, .int .u64 (low : Nat)] 25)) w2.heap.size (.slice a2 u.length k2) (.int .u64 (low : Nat))) := hide (heap_alloc_new _ _)
  clear hI2 hb2 HB1 HV1 HW1 HT1 HBa HB2a
  generalize hB9 : w2.heap.size = B9 at *
  have HB9 := hide hB9
  clear hB9
  go_wp2_with fail
  rw [HB9.out]
  clear HB9
  generalize w2.alloc (.cells #[.slice a2 u.length k2, .int .u64 (low : Nat)] 25) = W2 at *
  have HCK := hide (check_any a2 u.length k2 low u W2 HU2.out)
  rw [show checkE low u = 0 by unfold checkE; rw [if_pos HGU.out]] at HCK
  refine HCK.out.mono ?_
  rintro e w3 ⟨rfl, hb3⟩
  have HB3 := hide (HB2.out.trans (hb3.mono HB2.out.size))
  have HV3 := hide (HV2.out.below hb3)
  have HW3 := hide (HW2.out.below hb3)
  have HU3 := hide (HU2.out.below hb3)
  have HT3 : Hid (Two w3 w.heap.size (.slice a len cap) (.int .u64 (low : Nat))) := hide ((hb3.block _ (heap_lt HT2.out)).trans HT2.out)
  have HTU3 : Hid (Two w3 B9 (.slice a2 u.length k2) (.int .u64 (low : Nat))) := hide ((hb3.block _ (heap_lt HTU2.out)).trans HTU2.out)
  obtain ⟨c0, c1'⟩ := cells2_of_blk HT3.out
  obtain ⟨d0, d1⟩ := cells2_of_blk HTU3.out
  clear hb3 HB2 HV2 HW2 HU2 HT2 HTU2 HCK HGU
  by_cases hask : ask < t
  · have hI : (ask : Int) < (t : Int) := by omega
    have HG1 := hide (get_any a len cap low ask key l w3 HV3.out)
    have HG2 := hide (fun W hW => get_any a2 u.length k2 low ask key u W hW)
    rw [HBF.out key ask hask] at HG2
    generalize getR low l key ask = R at *
    obtain ⟨s, b, er⟩ := R
    clear HBF HNO HSO HE
    go_wp2_with fail
    refine HG1.out.mono ?_
    rintro e w4 ⟨rfl, hb4⟩
    have HB4 := hide (HB3.out.trans (hb4.mono HB3.out.size))
    have HU4 := hide (HU3.out.below hb4)
    obtain ⟨m0, m1⟩ := cells2_of_blk ((hb4.block _ (heap_lt HTU3.out)).trans HTU3.out)
    clear hb4 HG1 HB3 HV3 HU3 HW3 HT3 HTU3 c0 c1' d0 d1
    go_wp2_with fail
    refine (HG2.out w4 HU4.out).mono ?_
    rintro e w5 ⟨rfl, hb5⟩
    have HB5 := hide (HB4.out.trans (hb5.mono HB4.out.size))
    clear hb5 HG2 HB4 HU4
    go_wp2
    go_ret
    exact ⟨rfl, HB5.out⟩
  · have hI : ¬ (ask : Int) < (t : Int) := by omega
    have HG1 := hide (get_any a len cap low t key l w3 HV3.out)
    have HG2 := hide (fun W hW => get_any a2 u.length k2 low ask key u W hW)
    have HLA := hide (fun W hW => last_any a2 u.length k2 low key u W hW)
    have HWR := hide (fun W hW => written_any aw lw cw ws key W hW)
    have HNO' := hide (HNO.out hask)
    have HSO' := hide (HSO.out hask)
    clear HBF HNO HSO HE
    cases hwr : writ ws key with
    | none =>
      obtain ⟨⟨s, b, q1, q2⟩, n, q3, q4⟩ := HNO'.out hwr
      rw [q1] at HG1
      rw [q2] at HG2
      rw [q3] at HLA
      rw [hwr] at HWR
      have q4I : (n : Int) < (t : Int) := by omega
      clear q1 q2 q3 HNO' HSO' hwr
      go_wp2_with fail
      refine HG1.out.mono ?_
      rintro e w4 ⟨rfl, hb4⟩
      have HB4 := hide (HB3.out.trans (hb4.mono HB3.out.size))
      have HU4 := hide (HU3.out.below hb4)
      have HW4 := hide (HW3.out.below hb4)
      have HTU4 : Hid (Two w4 B9 (.slice a2 u.length k2) (.int .u64 (low : Nat))) := hide ((hb4.block _ (heap_lt HTU3.out)).trans HTU3.out)
      obtain ⟨m0, m1⟩ := cells2_of_blk HTU4.out
      clear hb4 HG1 HB3 HV3 HU3 HW3 HT3 HTU3 c0 c1' d0 d1
      go_wp2_with fail
      refine (HG2.out w4 HU4.out).mono ?_
      rintro e w5 ⟨rfl, hb5⟩
      have HB5 := hide (HB4.out.trans (hb5.mono HB4.out.size))
      have HU5 := hide (HU4.out.below hb5)
      have HW5 := hide (HW4.out.below hb5)
      obtain ⟨n0, n1⟩ := cells2_of_blk ((hb5.block _ (heap_lt HTU4.out)).trans HTU4.out)
      clear hb5 HG2 HB4 HU4 HW4 HTU4 m0 m1
      go_wp2_with fail
      refine (HLA.out w5 HU5.out).mono ?_
      rintro e w6 ⟨rfl, hb6⟩
      have HB6 := hide (HB5.out.trans (hb6.mono HB5.out.size))
      have HW6 := hide (HW5.out.below hb6)
      clear hb6 HLA HB5 HU5 HW5 n0 n1
      go_wp2_with fail
      refine (HWR.out w6 HW6.out).mono ?_
      rintro e w7 ⟨rfl, hb7⟩
      have HB7 := hide ((HB6.out.trans (hb7.mono HB6.out.size)).alloc (Nat.le_trans HB6.out.size hb7.size) (.cells #[.string ⟨#[]⟩, .string ⟨#[]⟩, .bool false] 46))
      clear hb7 HWR HB6 HW6
      simp only [wvOf, Option.getD_none, Option.isSome_none, Wt0]
      go_wp2
      go_ret
      exact ⟨rfl, HB7.out⟩
    | some z =>
      obtain ⟨q1, q2, q3⟩ := HSO'.out z hwr
      generalize getR low l key t = R at *
      obtain ⟨s, b, er⟩ := R
      dsimp only at q1
      subst q1
      rw [q2] at HG2
      rw [q3] at HLA
      rw [hwr] at HWR
      clear q2 q3 HNO' HSO' hwr
      obtain ⟨z1, z2, z3⟩ := z
      dsimp only at HG2
      cases z3
      · simp only [Bool.false_eq_true, if_false, Bool.not_false] at HG2
        go_wp2_with fail
        refine HG1.out.mono ?_
        rintro e w4 ⟨rfl, hb4⟩
        have HB4 := hide (HB3.out.trans (hb4.mono HB3.out.size))
        have HU4 := hide (HU3.out.below hb4)
        have HW4 := hide (HW3.out.below hb4)
        have HTU4 : Hid (Two w4 B9 (.slice a2 u.length k2) (.int .u64 (low : Nat))) := hide ((hb4.block _ (heap_lt HTU3.out)).trans HTU3.out)
        obtain ⟨m0, m1⟩ := cells2_of_blk HTU4.out
        clear hb4 HG1 HB3 HV3 HU3 HW3 HT3 HTU3 c0 c1' d0 d1
        go_wp2_with fail
        refine (HG2.out w4 HU4.out).mono ?_
        rintro e w5 ⟨rfl, hb5⟩
        have HB5 := hide (HB4.out.trans (hb5.mono HB4.out.size))
        have HU5 := hide (HU4.out.below hb5)
        have HW5 := hide (HW4.out.below hb5)
        obtain ⟨n0, n1⟩ := cells2_of_blk ((hb5.block _ (heap_lt HTU4.out)).trans HTU4.out)
        clear hb5 HG2 HB4 HU4 HW4 HTU4 m0 m1
        go_wp2_with fail
        refine (HLA.out w5 HU5.out).mono ?_
        rintro e w6 ⟨rfl, hb6⟩
        have HB6 := hide (HB5.out.trans (hb6.mono HB5.out.size))
        have HW6 := hide (HW5.out.below hb6)
        clear hb6 HLA HB5 HU5 HW5 n0 n1
        go_wp2_with fail
        refine (HWR.out w6 HW6.out).mono ?_
        rintro e w7 ⟨rfl, hb7⟩
        have HB7 := hide ((HB6.out.trans (hb7.mono HB6.out.size)).alloc (Nat.le_trans HB6.out.size hb7.size) (.cells #[.string z1, .string z2, .bool false] 46))
        clear hb7 HWR HB6 HW6
        simp only [wvOf, Option.getD_some, Option.isSome_some]
        go_wp2
        go_ret
        exact ⟨rfl, HB7.out⟩
      · simp only [if_true, Bool.not_true] at HG2
        go_wp2_with fail
        refine HG1.out.mono ?_
        rintro e w4 ⟨rfl, hb4⟩
        have HB4 := hide (HB3.out.trans (hb4.mono HB3.out.size))
        have HU4 := hide (HU3.out.below hb4)
        have HW4 := hide (HW3.out.below hb4)
        have HTU4 : Hid (Two w4 B9 (.slice a2 u.length k2) (.int .u64 (low : Nat))) := hide ((hb4.block _ (heap_lt HTU3.out)).trans HTU3.out)
        obtain ⟨m0, m1⟩ := cells2_of_blk HTU4.out
        clear hb4 HG1 HB3 HV3 HU3 HW3 HT3 HTU3 c0 c1' d0 d1
        go_wp2_with fail
        refine (HG2.out w4 HU4.out).mono ?_
        rintro e w5 ⟨rfl, hb5⟩
        have HB5 := hide (HB4.out.trans (hb5.mono HB4.out.size))
        have HU5 := hide (HU4.out.below hb5)
        have HW5 := hide (HW4.out.below hb5)
        obtain ⟨n0, n1⟩ := cells2_of_blk ((hb5.block _ (heap_lt HTU4.out)).trans HTU4.out)
        clear hb5 HG2 HB4 HU4 HW4 HTU4 m0 m1
        go_wp2_with fail
        refine (HLA.out w5 HU5.out).mono ?_
        rintro e w6 ⟨rfl, hb6⟩
        have HB6 := hide (HB5.out.trans (hb6.mono HB5.out.size))
        have HW6 := hide (HW5.out.below hb6)
        clear hb6 HLA HB5 HU5 HW5 n0 n1
        go_wp2_with fail
        refine (HWR.out w6 HW6.out).mono ?_
        rintro e w7 ⟨rfl, hb7⟩
        have HB7 := hide ((HB6.out.trans (hb7.mono HB6.out.size)).alloc (Nat.le_trans HB6.out.size hb7.size) (.cells #[.string z1, .string z2, .bool true] 46))
        clear hb7 HWR HB6 HW6
        simp only [wvOf, Option.getD_some, Option.isSome_some]
        go_wp2
        go_ret
        exact ⟨rfl, HB7.out⟩
end Go.Proofs.Ytpgdmkjfgmiacaa
