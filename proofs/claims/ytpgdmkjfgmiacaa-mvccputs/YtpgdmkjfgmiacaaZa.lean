/- the document's asked, seen, Get, Last -/
import Derived.Test.YtpgdmkjfgmiacaaYd
namespace Go.Proofs.Ytpgdmkjfgmiacaa
open Go.RowKit
set_option maxRecDepth 40000 in
set_option maxHeartbeats 1000000 in
/-- the document's asked -/
theorem rasked_any (a : Option Addr) (len cap low t : Nat) (l : List Vr) (w : World) (h : IsV w a len cap l) :
    Calls Try.prog 31 #[.agg #[.slice a len cap, .int .u64 (low : Nat)], .int .u64 (t : Nat)] w fun e w' => e = .returned (.int .i64 (askE low l t)) ∧ Below w.heap.size w w' := by
  have HB0 : Hid (Below w.heap.size w (w.alloc (.cells #[.slice a len cap, .int .u64 (low : Nat)] 25))) := hide ((Below.refl _ w).alloc (Nat.le_refl _) _)
  have HV0 := hide (h.below HB0.out)
  have HT0 : Hid (Two (w.alloc (.cells #[.slice a len cap, .int .u64 (low : Nat)] 25)) w.heap.size (.slice a len cap) (.int .u64 (low : Nat))) := hide (heap_alloc_new _ _)
  have HA : Hid (askE low l t = if goodB low l = true then if t < low then 9 else 0 else 2) := hide rfl
  generalize askE low l t = R at *
  clear h
  go_enter Try.func31, Try.ntmps31
  go_wp2_with fail
  generalize (w.alloc (.cells #[.slice a len cap, .int .u64 (low : Nat)] 25)) = V at *
  refine (rcheck_any a len cap low l V HV0.out).mono ?_
  rintro e w1 ⟨rfl, hb1⟩
  have HB1 := hide (HB0.out.trans (hb1.mono HB0.out.size))
  obtain ⟨c0, c1'⟩ := cells2_of_blk ((hb1.block _ (heap_lt HT0.out)).trans HT0.out)
  clear hb1 HB0 HV0 HT0
  unfold checkE
  by_cases hg : goodB low l = true
  · rw [if_pos hg] at HA ⊢
    clear hg
    by_cases h1 : t < low
    · have h1I : (t : Int) < (low : Int) := by omega
      have HR : Hid (R = 9) := hide (by rw [HA.out, if_pos h1])
      clear HA
      go_wp2
      go_ret
      exact ⟨ret_int HR.out.symm, HB1.out⟩
    · have h1I : ¬ (t : Int) < (low : Int) := by omega
      have HR : Hid (R = 0) := hide (by rw [HA.out, if_neg h1])
      clear HA
      go_wp2
      go_ret
      exact ⟨ret_int HR.out.symm, HB1.out⟩
  · rw [if_neg hg] at HA ⊢
    have HR : Hid (R = 2) := hide HA.out
    clear hg HA
    go_wp2
    go_ret
    exact ⟨ret_int HR.out.symm, HB1.out⟩
theorem take_last (key : ByteArray) (l : List Vr) (k : Nat) (h : k < l.length) : (l.take (k + 1)).filter (sameK key) = (l.take k).filter (sameK key) ++ (if sameK key (l.getD k Vr0) = true then [l.getD k Vr0] else []) := by
  rw [List.take_add_one, List.getElem?_eq_getElem h, List.filter_append]
  congr 1
  rw [List.getD_eq_getElem?_getD, List.getElem?_eq_getElem h]
  simp only [Option.toList_some, Option.getD_some]
  cases hs : sameK key l[k] <;> simp [hs]
set_option maxRecDepth 40000 in
set_option maxHeartbeats 1000000 in
/-- the document's Last -/
theorem rlast_any (a : Option Addr) (len cap low : Nat) (key : ByteArray) (l : List Vr) (w : World) (h : IsV w a len cap l) :
    Calls Try.prog 16 #[.agg #[.slice a len cap, .int .u64 (low : Nat)], .string key] w fun e w' => e = .returned (.tuple #[.int .u64 ((lastR low l key).1 : Nat), .int .i64 (lastR low l key).2]) ∧ Below w.heap.size w w' := by
  have HB0 : Hid (Below w.heap.size w (w.alloc (.cells #[.slice a len cap, .int .u64 (low : Nat)] 25))) := hide ((Below.refl _ w).alloc (Nat.le_refl _) _)
  have HV0 := hide (h.below HB0.out)
  have HT0 : Hid (Two (w.alloc (.cells #[.slice a len cap, .int .u64 (low : Nat)] 25)) w.heap.size (.slice a len cap) (.int .u64 (low : Nat))) := hide (heap_alloc_new _ _)
  have HLN := hide h.1
  have hcm : cap ≤ 9223372036854775807 := h.2.2.1
  have hcap := h.2.1
  clear h
  by_cases hg : goodB low l = true
  rotate_left
  · have HC : Hid (checkE low l = 2) := hide (by unfold checkE; rw [if_neg hg])
    unfold lastR
    simp only [if_neg hg]
    clear hg
    go_enter Try.func16, Try.ntmps16
    go_wp2_with fail
    generalize (w.alloc (.cells #[.slice a len cap, .int .u64 (low : Nat)] 25)) = V at *
    refine (rcheck_any a len cap low l V HV0.out).mono ?_
    rintro e w1 ⟨rfl, hb1⟩
    have HB1 := hide (HB0.out.trans (hb1.mono HB0.out.size))
    have HV1 := hide (HV0.out.below hb1)
    obtain ⟨c0, c1'⟩ := cells2_of_blk ((hb1.block _ (heap_lt HT0.out)).trans HT0.out)
    clear hb1 HB0 HV0 HT0
    rw [HC.out]
    go_wp2
    go_ret2
    exact ⟨rfl, HB1.out⟩
  have HC : Hid (checkE low l = 0) := hide (by unfold checkE; rw [if_pos hg])
  unfold lastR
  simp only [if_pos hg]
  clear hg
  go_enter Try.func16, Try.ntmps16
  go_wp2_with fail
  generalize (w.alloc (.cells #[.slice a len cap, .int .u64 (low : Nat)] 25)) = V at *
  refine (rcheck_any a len cap low l V HV0.out).mono ?_
  rintro e w1 ⟨rfl, hb1⟩
  have HB1 := hide (HB0.out.trans (hb1.mono HB0.out.size))
  have HV1 := hide (HV0.out.below hb1)
  obtain ⟨c0, c1'⟩ := cells2_of_blk ((hb1.block _ (heap_lt HT0.out)).trans HT0.out)
  clear hb1 HB0 HV0 HT0
  rw [HC.out]
  clear HC
  go_wp2
  go_loopw [7, 18] (fun v7 v18 wr => ∃ k : Nat, k ≤ len ∧ v18 = .int .i64 (k : Nat) ∧ v7 = .int .u64 ((lastV ((l.take k).filter (sameK key)) : Nat) : Int) ∧ Hid (Below w1.heap.size w1 wr)) (fun _ v18 _ => len - (intOf v18).toNat)
  case atStart => exact ⟨0, Nat.zero_le _, rfl, rfl, hide (Below.refl _ _)⟩
  case round =>
    obtain ⟨k, hk, rfl, rfl, HI⟩ := hrel
    by_cases hlt : k < len
    · obtain ⟨b, off, rfl, hbs, z0, z1, z2, z3⟩ := (HV1.out.below HI.out).2.2.2 k hlt
      have HTK := hide (take_last key l k (by rw [HLN.out]; exact hlt))
      generalize l.getD k Vr0 = x at *
      obtain ⟨x1, x2, x3, x4⟩ := x
      dsimp only at z0 z1 z2 z3
      have HBN : Hid (Below w1.heap.size w1 (wr.alloc (.cells #[.string x1, .int .u64 (x2 : Nat), .string x3, .bool x4] 51))) := hide (HI.out.alloc HI.out.size _)
      have hw1 : IntKind.i64.wrap ((k : Int) + 1) = (k : Int) + 1 := wr64' (by omega) (by omega)
      have hi2 : (k : Int) < (len : Int) := by omega
      have hi4 : (0 : Int) ≤ (k : Int) := by omega
      cases hq : sameK key ⟨x1, x2, x3, x4⟩
      · have hqb : (x1.toList == key.toList) = false := hq
        have HE : Hid (lastV ((l.take k).filter (sameK key)) = lastV ((l.take (k + 1)).filter (sameK key))) := hide (by rw [HTK.out, hq]; simp)
        clear hq HTK HI
        go_wp2
        go_roundw
        case rel => exact ⟨k + 1, by omega, by simp, by rw [HE.out], HBN⟩
        case measure => simp [intOf]; omega
      · have hqb : (x1.toList == key.toList) = true := hq
        have HE : Hid (x2 = lastV ((l.take (k + 1)).filter (sameK key))) := hide (by rw [HTK.out, hq, if_pos rfl, lastV_snoc])
        clear hq HTK HI
        go_wp2
        go_roundw
        case rel => exact ⟨k + 1, by omega, by simp, by rw [← HE.out], HBN⟩
        case measure => simp [intOf]; omega
    · obtain rfl : k = len := by omega
      have hi2 : ¬ (k : Int) < (k : Int) := by omega
      have HTL : Hid (l.take k = l) := hide (by rw [← HLN.out, List.take_length])
      rw [HTL.out]
      go_wp2
      go_ret2
      exact ⟨rfl, HB1.out.trans (HI.out.mono HB1.out.size)⟩
end Go.Proofs.Ytpgdmkjfgmiacaa
