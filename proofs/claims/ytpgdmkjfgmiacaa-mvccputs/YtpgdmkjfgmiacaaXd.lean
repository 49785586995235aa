/- lives -/
import Derived.Test.YtpgdmkjfgmiacaaXb
namespace Go.Proofs.Ytpgdmkjfgmiacaa
open Go.RowKit
set_option linter.unusedSimpArgs false
set_option linter.unusedVariables false
def cA : ByteArray := ⟨#[97]⟩
def cB : ByteArray := ⟨#[98]⟩
def c1 : ByteArray := ⟨#[49]⟩
def c2 : ByteArray := ⟨#[50]⟩
def cE : ByteArray := ⟨#[]⟩
theorem live_p1 : putR 0 [] [⟨cA, c1, false⟩] 1 = ([⟨cA, 1, c1, false⟩], 0, 0) := by
  simp [putR, refE, goodB, okAt, twiceB, timeB, lateB, longB, putL, withL, vOf, upTo, cA, c1, ByteArray.toList_eq, Op.bytesLess, ByteArray.size]
theorem live_p2 : putR 0 [⟨cA, 1, c1, false⟩] [⟨cA, cE, true⟩, ⟨cB, c2, false⟩] 5 = ([⟨cA, 1, c1, false⟩, ⟨cA, 5, cE, true⟩, ⟨cB, 5, c2, false⟩], 0, 0) := by
  simp [putR, refE, goodB, okAt, rightB, twiceB, timeB, lateB, longB, putL, withL, vOf, upTo, cA, c1, cB, c2, cE, ByteArray.toList_eq, Op.bytesLess, ByteArray.size, List.range, List.range.loop]
def lv : List Vr := [⟨cA, 1, c1, false⟩, ⟨cA, 5, cE, true⟩, ⟨cB, 5, c2, false⟩]
theorem live_good : goodB 0 lv = true := by
  simp [lv, goodB, okAt, rightB, behindB, timeB, cA, c1, cB, c2, cE, ByteArray.toList_eq, Op.bytesLess, ByteArray.size, List.range, List.range.loop]
theorem live_ask (t : Nat) : askE 0 lv t = 0 := by simp [askE, live_good]
theorem live_g1 : getR 0 lv cA 4 = (c1, true, 0) := by
  simp only [getR, live_ask, if_true]
  simp [lv, sameK, lastTo, seenR, cA, c1, cB, c2, cE, ByteArray.toList_eq]
theorem live_s : scanR 0 lv cE cE 5 = ([⟨cB, c2⟩], 0) := by
  simp only [scanR, live_ask, if_true]
  simp [lv, gpsOf, gps, hd, inSpan, scanG, sameK, lastTo, seenR, cA, c1, cB, c2, cE, ByteArray.toList_eq, Op.bytesLess]
theorem live_w : sweepR 0 lv 5 = ([⟨cB, 5, c2, false⟩], 5, 0) := by
  have h : sweepE 0 lv 5 = 0 := by simp [sweepE, live_good]
  simp only [sweepR, h, if_true]
  simp [lv, gpsOf, gps, sweepG, needL, dropOld, sameK, cA, c1, cB, c2, cE, ByteArray.toList_eq]
theorem live_g2 : getR 5 [⟨cB, 5, c2, false⟩] cA 4 = (⟨#[]⟩, false, 9) := by
  have h : goodB 5 [⟨cB, 5, c2, false⟩] = true := by
    simp [goodB, okAt, rightB, behindB, timeB, cB, c2, ByteArray.toList_eq, ByteArray.size, List.range, List.range.loop]
  simp [getR, askE, h]
theorem isV_nil (w : World) : IsV w none 0 0 [] := ⟨rfl, Nat.le_refl _, Nat.zero_le _, fun i hi => absurd hi (Nat.not_lt_zero _)⟩
theorem isW_one {w : World} {b : Nat} (x : Wt) (h : w.heap[b]? = some (.cells #[.string x.key, .string x.val, .bool x.gone] 46 (0, 0))) : IsW w (some ⟨b, 0, none⟩) 1 1 [x] := by
  refine ⟨rfl, Nat.le_refl _, by decide, fun i hi => ?_⟩
  obtain rfl : i = 0 := by omega
  exact ⟨b, 0, rfl, heap_lt h, cell_blk h rfl, cell_blk h rfl, cell_blk h rfl⟩
theorem isW_two {w : World} {b : Nat} (x y : Wt) (h : w.heap[b]? = some (.cells #[.string x.key, .string x.val, .bool x.gone, .string y.key, .string y.val, .bool y.gone] 46 (0, 0))) : IsW w (some ⟨b, 0, none⟩) 2 2 [x, y] := by
  refine ⟨rfl, Nat.le_refl _, by decide, fun i hi => ?_⟩
  rcases (by omega : i = 0 ∨ i = 1) with rfl | rfl
  · exact ⟨b, 0, rfl, heap_lt h, cell_blk h rfl, cell_blk h rfl, cell_blk h rfl⟩
  · exact ⟨b, 0, rfl, heap_lt h, cell_blk h rfl, cell_blk h rfl, cell_blk h rfl⟩
theorem isP_one {w : World} {b : Nat} (x : Pr) (h : w.heap[b]? = some (.cells #[.string x.key, .string x.val] 54 (0, 0))) : IsP w (some ⟨b, 0, none⟩) 1 1 [x] := by
  refine ⟨rfl, Nat.le_refl _, by decide, fun i hi => ?_⟩
  obtain rfl : i = 0 := by omega
  exact ⟨b, 0, rfl, heap_lt h, cell_blk h rfl, cell_blk h rfl⟩
theorem call_p1 (b : Nat) (w : World) (h : w.heap[b]? = some (.cells #[.string ⟨#[97]⟩, .string ⟨#[49]⟩, .bool false] 46 (0, 0))) :
    Calls Try.prog 22 #[.agg #[.slice none 0 0, .int .u64 0], .slice (some ⟨b, 0, none⟩) 1 1, .int .u64 1] w fun e w' => ∃ a' c', e = .returned (.tuple #[.agg #[.slice a' 1 c', .int .u64 0], .int .i64 0]) ∧ IsV w' a' 1 c' [⟨cA, 1, c1, false⟩] ∧ Below w.heap.size w w' := by
  have := put_any none 0 0 0 [] (some ⟨b, 0, none⟩) 1 1 [⟨cA, c1, false⟩] 1 w (isV_nil w) (isW_one ⟨cA, c1, false⟩ h)
  rw [live_p1] at this
  exact this
theorem call_p2 (a : Option Addr) (c b : Nat) (w : World) (hV : IsV w a 1 c [⟨cA, 1, c1, false⟩]) (h : w.heap[b]? = some (.cells #[.string ⟨#[97]⟩, .string ⟨#[]⟩, .bool true, .string ⟨#[98]⟩, .string ⟨#[50]⟩, .bool false] 46 (0, 0))) :
    Calls Try.prog 22 #[.agg #[.slice a 1 c, .int .u64 0], .slice (some ⟨b, 0, none⟩) 2 2, .int .u64 5] w fun e w' => ∃ a' c', e = .returned (.tuple #[.agg #[.slice a' 3 c', .int .u64 0], .int .i64 0]) ∧ IsV w' a' 3 c' lv ∧ Below w.heap.size w w' := by
  have := put_any a 1 c 0 [⟨cA, 1, c1, false⟩] (some ⟨b, 0, none⟩) 2 2 [⟨cA, cE, true⟩, ⟨cB, c2, false⟩] 5 w hV (isW_two _ _ h)
  rw [live_p2] at this
  exact this
theorem call_g1 (a : Option Addr) (c : Nat) (w : World) (hV : IsV w a 3 c lv) : Calls Try.prog 11 #[.agg #[.slice a 3 c, .int .u64 0], .string ⟨#[97]⟩, .int .u64 4] w fun e w' => e = .returned (.tuple #[.string ⟨#[49]⟩, .bool true, .int .i64 0]) ∧ Below w.heap.size w w' := by
  have := get_any a 3 c 0 4 cA lv w hV
  rw [live_g1] at this
  exact this
theorem call_s (a : Option Addr) (c : Nat) (w : World) (hV : IsV w a 3 c lv) : Calls Try.prog 13 #[.agg #[.slice a 3 c, .int .u64 0], .string ⟨#[]⟩, .string ⟨#[]⟩, .int .u64 5] w fun e w' => ∃ a' c', e = .returned (.tuple #[.slice a' 1 c', .int .i64 0]) ∧ IsP w' a' 1 c' [⟨cB, c2⟩] ∧ Below w.heap.size w w' := by
  have := scan_any a 3 c 0 5 cE cE lv w hV
  rw [live_s] at this
  exact this
theorem call_w (a : Option Addr) (c : Nat) (w : World) (hV : IsV w a 3 c lv) : Calls Try.prog 24 #[.agg #[.slice a 3 c, .int .u64 0], .int .u64 5] w fun e w' => ∃ a' c', e = .returned (.tuple #[.agg #[.slice a' 1 c', .int .u64 5], .int .i64 0]) ∧ IsV w' a' 1 c' [⟨cB, 5, c2, false⟩] ∧ Below w.heap.size w w' := by
  have := sweep_any a 3 c 0 5 lv w hV
  rw [live_w] at this
  exact this
theorem call_g2 (a : Option Addr) (c : Nat) (w : World) (hV : IsV w a 1 c [⟨cB, 5, c2, false⟩]) : Calls Try.prog 11 #[.agg #[.slice a 1 c, .int .u64 5], .string ⟨#[97]⟩, .int .u64 4] w fun e w' => e = .returned (.tuple #[.string ⟨#[]⟩, .bool false, .int .i64 9]) ∧ Below w.heap.size w w' := by
  have := get_any a 1 c 5 4 cA [⟨cB, 5, c2, false⟩] w hV
  rw [live_g2] at this
  exact this
theorem call_same (a : Option Addr) (c b : Nat) (w : World) (hP : IsP w a 1 c [⟨cB, c2⟩]) (h : w.heap[b]? = some (.cells #[.string ⟨#[98]⟩, .string ⟨#[50]⟩] 54 (0, 0))) : Calls Try.prog 20 #[.slice a 1 c, .slice (some ⟨b, 0, none⟩) 1 1] w fun e w' => e = .returned (.bool true) ∧ Below w.heap.size w w' := by
  refine (sameP_any a 1 c _ (some ⟨b, 0, none⟩) 1 1 [⟨cB, c2⟩] w hP (isP_one ⟨cB, c2⟩ h)).mono ?_
  rintro e w' ⟨⟨r, rfl, hr⟩, hb⟩
  exact ⟨by rw [hr.2 rfl], hb⟩
/-- a store into a box of two cells leaves versions as they are -/
theorem IsV.two {w w' : World} {a : Option Addr} {len cap : Nat} {l : List Vr} {B : Nat} {x : Option Addr} {n c : Nat} {u : Int} (h : IsV w a len cap l) (hB : Two w B (.slice x n c) (.int .u64 u)) (hs : w.heap.size ≤ w'.heap.size) (hk : ∀ b, b ≠ B → w'.heap[b]? = w.heap[b]?) : IsV w' a len cap l := by
  refine ⟨h.1, h.2.1, h.2.2.1, fun i hi => ?_⟩
  obtain ⟨b, off, e, hlt, h0, h1, h2, h3⟩ := h.2.2.2 i hi
  have hne : b ≠ B := by
    rintro rfl
    simp only [World.cell?, hB] at h0
    generalize off + i * 4 = o at h0
    rcases o with _ | _ | o <;> simp at h0
  have k : ∀ j, w'.cell? ⟨b, j, none⟩ = w.cell? ⟨b, j, none⟩ := fun j => World.cell?_of_block (hk b hne)
  exact ⟨b, off, e, Nat.lt_of_lt_of_le hlt hs, (k _).trans h0, (k _).trans h1, (k _).trans h2, (k _).trans h3⟩
set_option maxRecDepth 40000 in
set_option maxHeartbeats 2000000 in
theorem lives_any (w : World) : Calls Try.prog 17 #[] w fun e w' => e = .returned (.bool true) ∧ Below w.heap.size w w' := by
  have HB0 : Hid (Below w.heap.size w (w.alloc (.cells #[.string ⟨#[97]⟩, .string ⟨#[49]⟩, .bool false] 46))) := hide ((Below.refl _ w).alloc (Nat.le_refl _) _)
  have H1 := hide (call_p1 w.heap.size _ (heap_alloc_new w (.cells #[.string ⟨#[97]⟩, .string ⟨#[49]⟩, .bool false] 46)))
  go_enter Try.func17, Try.ntmps17
  go_wp2_with fail
  refine H1.out.mono ?_
  rintro e w1 ⟨a1, k1, rfl, hI1, hb1⟩
  have HB1 := hide (HB0.out.trans (hb1.mono HB0.out.size))
  have HI1 := hide hI1
  clear hI1 hb1 H1 HB0
  have HBX : Hid (Below w.heap.size w ((w1.alloc (.cells #[.slice a1 1 k1, .int .u64 0] 25)).alloc (.cells #[.string ⟨#[97]⟩, .string ⟨#[]⟩, .bool true, .string ⟨#[98]⟩, .string ⟨#[50]⟩, .bool false] 46))) := hide ((HB1.out.alloc HB1.out.size _).alloc (by have := HB1.out.size; simp; omega) _)
  have HBY : Hid (Below w1.heap.size w1 ((w1.alloc (.cells #[.slice a1 1 k1, .int .u64 0] 25)).alloc (.cells #[.string ⟨#[97]⟩, .string ⟨#[]⟩, .bool true, .string ⟨#[98]⟩, .string ⟨#[50]⟩, .bool false] 46))) := hide (((Below.refl _ w1).alloc (Nat.le_refl _) _).alloc (by simp) _)
  have hrow := heap_alloc_new (w1.alloc (.cells #[.slice a1 1 k1, .int .u64 0] 25)) (.cells #[.string ⟨#[97]⟩, .string ⟨#[]⟩, .bool true, .string ⟨#[98]⟩, .string ⟨#[50]⟩, .bool false] 46)
  simp only [World.size_alloc] at hrow
  have HTW : Hid (Two ((w1.alloc (.cells #[.slice a1 1 k1, .int .u64 0] 25)).alloc (.cells #[.string ⟨#[97]⟩, .string ⟨#[]⟩, .bool true, .string ⟨#[98]⟩, .string ⟨#[50]⟩, .bool false] 46)) w1.heap.size (.slice a1 1 k1) (.int .u64 0)) := hide ((heap_alloc_old _ _ _ (by simp)).trans (heap_alloc_new _ _))
  have H2 := hide (call_p2 a1 k1 _ _ (HI1.out.below HBY.out) hrow)
  have HLE : Hid (w.heap.size ≤ w1.heap.size) := hide HB1.out.size
  clear hrow HI1 HB1
  go_wp2_with fail
  refine H2.out.mono ?_
  rintro e w2 ⟨a2, k2, rfl, hI2, hb2⟩
  have HB2 := hide (HBX.out.trans (hb2.mono HBX.out.size))
  have HT2 : Hid (Two w2 w1.heap.size (.slice a1 1 k1) (.int .u64 0)) := hide ((hb2.block _ (heap_lt HTW.out)).trans HTW.out)
  obtain ⟨c0, c1'⟩ := cells2_of_blk HT2.out
  have f0 := frz HT2.out 0
  have f1 := frz HT2.out 1
  have HI2 : Hid (IsV ((w2.setCell ⟨w1.heap.size, 0, none⟩ (.slice a2 3 k2)).setCell ⟨w1.heap.size, 1, none⟩ (.int .u64 0)) a2 3 k2 lv) := hide (hI2.two HT2.out (by simp) (fun b hb => (Below.heap_setCell _ ⟨w1.heap.size, 1, none⟩ _ b hb).trans (Below.heap_setCell _ ⟨w1.heap.size, 0, none⟩ _ b hb)))
  have HB3 : Hid (Below w.heap.size w ((w2.setCell ⟨w1.heap.size, 0, none⟩ (.slice a2 3 k2)).setCell ⟨w1.heap.size, 1, none⟩ (.int .u64 0))) := hide ((HB2.out.setCell (p := ⟨w1.heap.size, 0, none⟩) HLE.out _).setCell (p := ⟨w1.heap.size, 1, none⟩) HLE.out _)
  have HT3 : Hid (Two ((w2.setCell ⟨w1.heap.size, 0, none⟩ (.slice a2 3 k2)).setCell ⟨w1.heap.size, 1, none⟩ (.int .u64 0)) w1.heap.size (.slice a2 3 k2) (.int .u64 0)) := hide (two_set HT2.out _ _)
  clear hI2 hb2 H2 HBX HBY HTW HB2 HT2
  generalize hB : w1.heap.size = B at *
  clear hB
  go_wp2_with fail
  generalize ((w2.setCell ⟨B, 0, none⟩ (.slice a2 3 k2)).setCell ⟨B, 1, none⟩ (.int .u64 0)) = w3 at *
  refine (call_g1 a2 k2 w3 HI2.out).mono ?_
  rintro e w4 ⟨rfl, hb4⟩
  have HI4 := hide (HI2.out.below hb4)
  have HB4 := hide (HB3.out.trans (hb4.mono HB3.out.size))
  have HT4 : Hid (Two w4 B (.slice a2 3 k2) (.int .u64 0)) := hide ((hb4.block _ (heap_lt HT3.out)).trans HT3.out)
  obtain ⟨d0, d1⟩ := cells2_of_blk HT4.out
  clear hb4 HI2 HB3 HT3
  go_wp2_with fail
  refine (call_s a2 k2 w4 HI4.out).mono ?_
  rintro e w5 ⟨a5, k5, rfl, hI5, hb5⟩
  have HP5 := hide hI5
  have HI5 := hide (HI4.out.below hb5)
  have HB5 := hide (HB4.out.trans (hb5.mono HB4.out.size))
  have HT5 : Hid (Two w5 B (.slice a2 3 k2) (.int .u64 0)) := hide ((hb5.block _ (heap_lt HT4.out)).trans HT4.out)
  obtain ⟨e0, e1⟩ := cells2_of_blk HT5.out
  clear hI5 hb5 HI4 HB4 HT4 d0 d1
  go_wp2_with fail
  refine (call_w a2 k2 w5 HI5.out).mono ?_
  rintro e w6 ⟨a6, k6, rfl, hI6, hb6⟩
  have HBZ : Hid (Below w6.heap.size w6 (w6.alloc (.cells #[.slice a6 1 k6, .int .u64 5] 25))) := hide ((Below.refl _ w6).alloc (Nat.le_refl _) _)
  have HP6 := hide ((HP5.out.below hb6).below HBZ.out)
  have HI6 := hide (hI6.below HBZ.out)
  have HBa := hide (HB5.out.trans (hb6.mono HB5.out.size))
  have HB6 := hide (HBa.out.trans (HBZ.out.mono HBa.out.size))
  have HT6 : Hid (Two (w6.alloc (.cells #[.slice a6 1 k6, .int .u64 5] 25)) w6.heap.size (.slice a6 1 k6) (.int .u64 5)) := hide (heap_alloc_new _ _)
  clear hI6 hb6 HI5 HB5 HT5 e0 e1 HBZ HBa HP5
  go_wp2_with fail
  refine (call_g2 a6 k6 _ HI6.out).mono ?_
  rintro e w7 ⟨rfl, hb7⟩
  have HP7 := hide (HP6.out.below hb7)
  have HB7 := hide (HB6.out.trans (hb7.mono HB6.out.size))
  have HT7 : Hid (Two w7 w6.heap.size (.slice a6 1 k6) (.int .u64 5)) := hide ((hb7.block _ (heap_lt HT6.out)).trans HT6.out)
  generalize hB9 : w6.heap.size = B9 at *
  clear hb7 HP6 HI6 HB6 HT6 hB9
  have HBR : Hid (Below w7.heap.size w7 (w7.alloc (.cells #[.string ⟨#[98]⟩, .string ⟨#[50]⟩] 54))) := hide ((Below.refl _ w7).alloc (Nat.le_refl _) _)
  have HSM := hide (call_same a5 k5 w7.heap.size _ (HP7.out.below HBR.out) (heap_alloc_new w7 (.cells #[.string ⟨#[98]⟩, .string ⟨#[50]⟩] 54)))
  go_wp2_with fail
  refine HSM.out.mono ?_
  rintro e w8 ⟨rfl, hb8⟩
  have HB8 := hide (HB7.out.trans ((HBR.out.mono HB7.out.size).trans (hb8.mono (Nat.le_trans HB7.out.size HBR.out.size))))
  obtain ⟨g0, g1⟩ := cells2_of_blk ((hb8.block _ (Nat.lt_of_lt_of_le (heap_lt HT7.out) HBR.out.size)).trans ((HBR.out.block _ (heap_lt HT7.out)).trans HT7.out))
  clear hb8 HSM HBR HB7 HT7 HP7
  go_wp2
  go_ret
  exact ⟨rfl, HB8.out⟩
end Go.Proofs.Ytpgdmkjfgmiacaa
