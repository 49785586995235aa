/- put, Move -/
import Derived.Test.YtfbfmhfceemkgaaDoorSG
import Derived.Shelf.Abstract
namespace Go.Proofs.YtfbfmhfceemkgaaDoor
open Go.RowKit
/-- the shipments with one as it is said -/
def putL (l : List Sh) (c : Sh) : List Sh := l.take (lowN l (noS c.od)) ++ [c] ++ l.drop (lowN l (noS c.od) + if hasB l (noS c.od) = true then 1 else 0)
set_option maxHeartbeats 4000000 in
theorem put_any (a : Option Addr) (len cap : Nat) (l : List Sh) (c : Sh) (w : World) (h : IsH w a len cap l) (hG : Good 0 l) (hc : okS c) : Calls Tryd.prog 21 #[.slice a len cap, vs c] w fun e w' => ∃ a' c', e = .returned (.slice a' (putL l c).length c') ∧ IsH w' a' (putL l c).length c' (putL l c) ∧ Below w.heap.size w w' ∧ Hid (NewA w.heap.size a') := by
  have HV := hide h
  have HLN := hide h.1
  have hcap := h.2.1
  have hcm : cap ≤ 9223372036854775807 := h.2.2.1
  have HLE : Hid (len ≤ 1024) := hide (by rw [← h.1]; exact hG.len0)
  have HKO := hide hc
  have HLO := hide (lowN_le l (noS c.od))
  have HHL := hide (hasB_lt (l := l) (t := noS c.od))
  have HFI := hide (fun W (hW : IsH W a len cap l) => find_any a len cap l c.od W hW hG)
  have HPT : Hid (putL l c = l.take (lowN l (noS c.od)) ++ [c] ++ l.drop (lowN l (noS c.od) + if hasB l (noS c.od) = true then 1 else 0)) := hide rfl
  generalize hasB l (noS c.od) = hb at *
  generalize lowN l (noS c.od) = lo at *
  generalize putL l c = PU at *
  generalize shOf l c.od = co at *
  obtain ⟨c1, c2⟩ := c
  obtain ⟨x1, x2⟩ := co
  dsimp only at HFI
  clear h hG hc
  go_enter Tryd.func21, Tryd.ntmps21
  go_wp2_with fail
  generalize hW0 : w.alloc (.cells #[.int .i64 c1, .int .u8 c2] 55) = W0
  have HB0 : Hid (Below w.heap.size w W0) := hide (hW0 ▸ (Below.refl _ w).alloc (Nat.le_refl _) _)
  have HG0 : Hid (Blk W0 w.heap.size ⟨c1, c2⟩) := hide (hW0 ▸ heap_alloc_new _ _)
  clear hW0
  refine (HFI.out W0 (HV.out.below' HB0.out)).mono ?_
  rintro e w2 ⟨rfl, hb2⟩
  have HB2 : Hid (Below w.heap.size w w2) := hide (HB0.out.trans (hb2.mono HB0.out.size))
  have HG2 : Hid (Blk w2 w.heap.size ⟨c1, c2⟩) := hide (HG0.out.below (heap_lt HG0.out) hb2)
  clear hb2 HFI HB0 HG0
  rename_i a1 K0 a0
  have HA1 := hide a1
  clear a1
  go_wp2
  generalize hW3 : w2.alloc (.cells #[.int .i64 x1, .int .u8 x2] 55) = w4
  have HB4 : Hid (Below w.heap.size w w4) := hide (hW3 ▸ HB2.out.alloc HB2.out.size _)
  have HG4 : Hid (Blk w4 w.heap.size ⟨c1, c2⟩) := hide (hW3 ▸ (Below.heap_alloc _ _ _ (heap_lt HG2.out)).trans HG2.out)
  have HS4 : Hid (w.heap.size < w4.heap.size) := hide (heap_lt HG4.out)
  clear hW3 HG2 HB2
  refine HA1.out _ _ ?_
  clear HA1
  have hlo : lo ≤ len := by rw [← HLN.out]; exact HLO.out
  have hloI : (lo : Int) ≤ (len : Int) := by omega
  have hloC : (lo : Int) ≤ (cap : Int) := by omega
  have hlo0 : (0 : Int) ≤ (lo : Int) := by omega
  have hlenC : (len : Int) ≤ (cap : Int) := by omega
  have HI4 := hide (HV.out.below' HB4.out)
  have HKD : Hid (∀ W, Below w4.heap.size w4 W → (W.cell? ⟨w.heap.size, 0, none⟩ = some (.int .i64 c1) ∧ W.cell? ⟨w.heap.size, 1, none⟩ = some (.int .u8 c2))) := hide (fun W hW => by
    obtain ⟨d1, d2⟩ := (HG4.out.below HS4.out hW).cells
    simp only [Nat.zero_add] at d1 d2
    exact ⟨d1, d2⟩)
  have HKA := hide (HKD.out w4.drew (Below.refl _ _).drew)
  have HKB := hide (fun o => HKD.out (w4.alloc o).drew ((Below.refl _ _).alloc (Nat.le_refl _) o).drew)
  have HKC := hide (fun o o' => HKD.out ((w4.alloc o).alloc o').drew (((Below.refl _ _).alloc (Nat.le_refl _) o).alloc (by simp) o').drew)
  cases a with
  | none =>
    obtain rfl := HV.out.2.2.2.2.2 rfl
    obtain rfl : len = 0 := by omega
    obtain rfl : lo = 0 := by omega
    have hbF : hb = false := by
      cases hb
      · rfl
      · exact absurd (HHL.out rfl) (by rw [HLN.out]; omega)
    subst hbF
    have hl0 := List.length_eq_zero_iff.1 HLN.out
    subst hl0
    simp only [Bool.false_eq_true, if_false, List.take_nil, List.drop_nil] at HPT
    have HT2 := hide (tail_calls none 0 0 [] ⟨c1, c2⟩ none 0 0 [] w4 HI4.out HI4.out HKO.out (by have := HLE.out; omega))
    go_wp2_with fail
    go_region_held (fun W : World => (W.cell? ⟨w.heap.size, 0, none⟩ = some (.int .i64 c1) ∧ W.cell? ⟨w.heap.size, 1, none⟩ = some (.int .u8 c2))) (first | exact HKA.out | exact HKB.out _ | exact HKC.out _ _ | exact HKD.out _ HBt) (first | (go_at_call 30; refine HT2.out.mono ?_; rintro e w' ⟨a', m', c', rfl, HIt, HBt, HNt⟩))
    go_wp2
    go_ret
    exact ⟨a', c', by rw [HPT.out, ← HIt.out.1]; rfl, by rw [HPT.out, ← HIt.out.1]; exact HIt.out.2, HB4.out.trans (HBt.mono HB4.out.size), hide (HNt.out.mono HB4.out.size)⟩
  | some ad =>
    cases hb
    · simp only [Bool.false_eq_true, if_false, Nat.add_zero] at HPT
      by_cases hlc : lo = cap
      · have hll : lo = len := by omega
        subst hlc
        obtain rfl : len = lo := by omega
        have HT2 := hide (tail_calls (some ad) len len (l.take len) ⟨c1, c2⟩ (some ad) (0) (0) (l.drop len) w4 (isH_take HI4.out hlo) (isH_none' HI4.out (Nat.le_refl _)) HKO.out (by have := HLE.out; omega))
        go_wp2_with fail
        go_region_held (fun W : World => (W.cell? ⟨w.heap.size, 0, none⟩ = some (.int .i64 c1) ∧ W.cell? ⟨w.heap.size, 1, none⟩ = some (.int .u8 c2))) (first | exact HKA.out | exact HKB.out _ | exact HKC.out _ _ | exact HKD.out _ HBt) (first | (go_at_call 30; refine HT2.out.mono ?_; rintro e w' ⟨a', m', c', rfl, HIt, HBt, HNt⟩))
        go_wp2
        go_ret
        exact ⟨a', c', by rw [HPT.out, ← HIt.out.1]; rfl, by rw [HPT.out, ← HIt.out.1]; exact HIt.out.2, HB4.out.trans (HBt.mono HB4.out.size), hide (HNt.out.mono HB4.out.size)⟩
      · have hlc' : lo < cap := by omega
        have hlcI : ¬ (lo : Int) = (cap : Int) := by omega
        have HT2 := hide (tail_calls (some ad) lo cap (l.take lo) ⟨c1, c2⟩ (some (ad.add (lo * 2))) (len - lo) (cap - lo) (l.drop lo) w4 (isH_take HI4.out hlo) (isH_drop' HI4.out hlo) HKO.out (by have := HLE.out; omega))
        go_wp2_with fail
        go_region_held (fun W : World => (W.cell? ⟨w.heap.size, 0, none⟩ = some (.int .i64 c1) ∧ W.cell? ⟨w.heap.size, 1, none⟩ = some (.int .u8 c2))) (first | exact HKA.out | exact HKB.out _ | exact HKC.out _ _ | exact HKD.out _ HBt) (first | (go_at_call 30; refine HT2.out.mono ?_; rintro e w' ⟨a', m', c', rfl, HIt, HBt, HNt⟩))
        go_wp2
        go_ret
        exact ⟨a', c', by rw [HPT.out, ← HIt.out.1]; rfl, by rw [HPT.out, ← HIt.out.1]; exact HIt.out.2, HB4.out.trans (HBt.mono HB4.out.size), hide (HNt.out.mono HB4.out.size)⟩
    · simp only [if_true] at HPT
      have hl1 : lo < len := by have := HHL.out rfl; rw [HLN.out] at this; exact this
      have hwl : IntKind.i64.wrap ((lo : Int) + 1) = (lo : Int) + 1 := wrap64 (by omega) (by omega)
      have hlc0 : ¬ lo = cap := by omega
      have hl1I : (lo : Int) + 1 ≤ (len : Int) := by omega
      have hl1C : (lo : Int) + 1 ≤ (cap : Int) := by omega
      have hl1N : lo + 1 ≤ len := by omega
      have hl1M : lo + 1 ≤ cap := by omega
      have hl10 : (0 : Int) ≤ (lo : Int) + 1 := by omega
      by_cases hlc : lo + 1 = cap
      · have hlcI : (lo : Int) + 1 = (cap : Int) := by omega
        have HT2 := hide (tail_calls (some ad) lo cap (l.take lo) ⟨c1, c2⟩ (some ad) 0 0 (l.drop (lo + 1)) w4 (isH_take HI4.out hlo) (isH_none' HI4.out (by omega)) HKO.out (by have := HLE.out; omega))
        go_wp2_with fail
        go_region_held (fun W : World => (W.cell? ⟨w.heap.size, 0, none⟩ = some (.int .i64 c1) ∧ W.cell? ⟨w.heap.size, 1, none⟩ = some (.int .u8 c2))) (first | exact HKA.out | exact HKB.out _ | exact HKC.out _ _ | exact HKD.out _ HBt) (first | (go_at_call 30; refine HT2.out.mono ?_; rintro e w' ⟨a', m', c', rfl, HIt, HBt, HNt⟩))
        go_wp2
        go_ret
        exact ⟨a', c', by rw [HPT.out, ← HIt.out.1]; rfl, by rw [HPT.out, ← HIt.out.1]; exact HIt.out.2, HB4.out.trans (HBt.mono HB4.out.size), hide (HNt.out.mono HB4.out.size)⟩
      · have hlcI : ¬ (lo : Int) + 1 = (cap : Int) := by omega
        have HT2 := hide (tail_calls (some ad) lo cap (l.take lo) ⟨c1, c2⟩ (some (ad.add ((lo + 1) * 2))) (len - (lo + 1)) (cap - (lo + 1)) (l.drop (lo + 1)) w4 (isH_take HI4.out hlo) (isH_drop' HI4.out hl1N) HKO.out (by have := HLE.out; omega))
        go_wp2_with fail
        go_region_held (fun W : World => (W.cell? ⟨w.heap.size, 0, none⟩ = some (.int .i64 c1) ∧ W.cell? ⟨w.heap.size, 1, none⟩ = some (.int .u8 c2))) (first | exact HKA.out | exact HKB.out _ | exact HKC.out _ _ | exact HKD.out _ HBt) (first | (go_at_call 30; refine HT2.out.mono ?_; rintro e w' ⟨a', m', c', rfl, HIt, HBt, HNt⟩))
        go_wp2
        go_ret
        exact ⟨a', c', by rw [HPT.out, ← HIt.out.1]; rfl, by rw [HPT.out, ← HIt.out.1]; exact HIt.out.2, HB4.out.trans (HBt.mono HB4.out.size), hide (HNt.out.mono HB4.out.size)⟩
end Go.Proofs.YtfbfmhfceemkgaaDoor
