/- the document's seen, Get -/
import Derived.Test.YtlkmcbelmldleaaGreatVZa
namespace Go.Proofs.YtlkmcbelmldleaaGreat
open Go.RowKit
set_option maxRecDepth 40000
theorem seen_step (key : ByteArray) (l : List Vr) (t k : Nat) (h : k < l.length) : seenR (lastTo ((l.take (k + 1)).filter (sameK key)) t) = if sameK key (l.getD k Vr0) = true ∧ (l.getD k Vr0).at_ ≤ t then ((l.getD k Vr0).val, !(l.getD k Vr0).gone) else seenR (lastTo ((l.take k).filter (sameK key)) t) := by
  rw [take_last key l k h]
  by_cases h1 : sameK key (l.getD k Vr0) = true
  · rw [if_pos h1]
    by_cases h2 : (l.getD k Vr0).at_ ≤ t
    · rw [if_pos ⟨h1, h2⟩, lastTo_last h2]; rfl
    · rw [if_neg (fun h => h2 h.2), lastTo_skip h2]
  · rw [if_neg h1, if_neg (fun h => h1 h.1), List.append_nil]
set_option maxRecDepth 40000 in
set_option maxHeartbeats 2000000 in
/-- the document's seen -/
theorem rseen_any (a : Option Addr) (len cap low t : Nat) (key : ByteArray) (l : List Vr) (w : World) (h : IsV w a len cap l) :
    Calls Tryz.prog 148 #[.agg #[.slice a len cap, .int .u64 (low : Nat)], .string key, .int .u64 (t : Nat)] w fun e w' => e = .returned (.tuple #[.string (seenR (lastTo (l.filter (sameK key)) t)).1, .bool (seenR (lastTo (l.filter (sameK key)) t)).2]) ∧ Below w.heap.size w w' := by
  have HB0 : Hid (Below w.heap.size w (w.alloc (.cells #[.slice a len cap, .int .u64 (low : Nat)] 31))) := hide ((Below.refl _ w).alloc (Nat.le_refl _) _)
  have HV1 := hide (h.below HB0.out)
  have HLN := hide h.1
  have hcm : cap ≤ 9223372036854775807 := h.2.2.1
  have hcap := h.2.1
  clear h
  go_enter Tryz.func148, Tryz.ntmps148
  go_wp2
  generalize (w.alloc (.cells #[.slice a len cap, .int .u64 (low : Nat)] 31)) = V at *
  go_loopw [8, 9, 15] (fun v8 v9 v15 wr => ∃ k : Nat, k ≤ len ∧ v15 = .int .i64 (k : Nat) ∧ v8 = .string (seenR (lastTo ((l.take k).filter (sameK key)) t)).1 ∧ v9 = .bool (seenR (lastTo ((l.take k).filter (sameK key)) t)).2 ∧ Hid (Below V.heap.size V wr)) (fun _ _ v15 _ => len - (intOf v15).toNat)
  case atStart => exact ⟨0, Nat.zero_le _, rfl, rfl, rfl, hide (Below.refl _ _)⟩
  case round =>
    obtain ⟨k, hk, rfl, rfl, rfl, HI⟩ := hrel
    by_cases hlt : k < len
    · obtain ⟨b, off, rfl, hbs, z0, z1, z2, z3⟩ := (HV1.out.below HI.out).2.2.2 k hlt
      have HTK := hide (seen_step key l t k (by rw [HLN.out]; exact hlt))
      generalize l.getD k Vr0 = x at *
      obtain ⟨x1, x2, x3, x4⟩ := x
      dsimp only at z0 z1 z2 z3 HTK
      have HBN : Hid (Below V.heap.size V (wr.alloc (.cells #[.string x1, .int .u64 (x2 : Nat), .string x3, .bool x4] 66))) := hide (HI.out.alloc HI.out.size _)
      have hw1 : IntKind.i64.wrap ((k : Int) + 1) = (k : Int) + 1 := wr64' (by omega) (by omega)
      have hi2 : (k : Int) < (len : Int) := by omega
      have hi4 : (0 : Int) ≤ (k : Int) := by omega
      cases hq : sameK key ⟨x1, x2, x3, x4⟩
      · have hqb : (x1.toList == key.toList) = false := hq
        have HE : Hid (seenR (lastTo ((l.take k).filter (sameK key)) t) = seenR (lastTo ((l.take (k + 1)).filter (sameK key)) t)) := hide (by rw [HTK.out, hq]; simp)
        clear hq HTK HI
        go_wp2
        go_roundw
        case rel => exact ⟨k + 1, by omega, by simp, by rw [HE.out], by rw [HE.out], HBN⟩
        case measure => simp [intOf]; omega
      · have hqb : (x1.toList == key.toList) = true := hq
        by_cases hxt : x2 ≤ t
        · have hxI : (x2 : Int) ≤ (t : Int) := by omega
          have HE : Hid ((x3, !x4) = seenR (lastTo ((l.take (k + 1)).filter (sameK key)) t)) := hide (by rw [HTK.out, hq, if_pos ⟨rfl, hxt⟩])
          have HS : Hid ((wr.alloc (.cells #[.string x1, .int .u64 (x2 : Nat), .string x3, .bool x4] 66)).drew.cell? ⟨wr.heap.size, 2, none⟩ = some (.string x3) ∧ (wr.alloc (.cells #[.string x1, .int .u64 (x2 : Nat), .string x3, .bool x4] 66)).drew.cell? ⟨wr.heap.size, 3, none⟩ = some (.bool x4)) := hide ⟨cell_blk (heap_alloc_new wr (.cells #[.string x1, .int .u64 (x2 : Nat), .string x3, .bool x4] 66)) rfl, cell_blk (heap_alloc_new wr (.cells #[.string x1, .int .u64 (x2 : Nat), .string x3, .bool x4] 66)) rfl⟩
          have HBD := hide HBN.out.drew
          clear hq HTK HI HBN
          go_wp2_with fail
          go_region_held (fun W : World => W.cell? ⟨wr.heap.size, 2, none⟩ = some (.string x3) ∧ W.cell? ⟨wr.heap.size, 3, none⟩ = some (.bool x4)) (exact HS.out) (fail)
          go_wp2
          go_roundw
          case rel => exact ⟨k + 1, by omega, by simp, by rw [← HE.out], by rw [← HE.out], HBD⟩
          case measure => simp [intOf]; omega
        · have hxI : ¬ (x2 : Int) ≤ (t : Int) := by omega
          have HE : Hid (seenR (lastTo ((l.take k).filter (sameK key)) t) = seenR (lastTo ((l.take (k + 1)).filter (sameK key)) t)) := hide (by rw [HTK.out, if_neg (fun h => hxt h.2)])
          clear hq HTK HI
          go_wp2
          go_roundw
          case rel => exact ⟨k + 1, by omega, by simp, by rw [HE.out], by rw [HE.out], HBN⟩
          case measure => simp [intOf]; omega
    · obtain rfl : k = len := by omega
      have hi2 : ¬ (k : Int) < (k : Int) := by omega
      have HTL : Hid (l.take k = l) := hide (by rw [← HLN.out, List.take_length])
      rw [HTL.out]
      go_wp2
      go_ret2
      exact ⟨rfl, HB0.out.trans (HI.out.mono HB0.out.size)⟩
end Go.Proofs.YtlkmcbelmldleaaGreat
