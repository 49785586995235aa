/- the document's torn -/
import Derived.Test.YtdageggojaghmaaVx
namespace Go.Proofs.Ytdageggojaghmaa
open Go.RowKit
theorem bitT' : ∀ (mask : Fin 256) (k : Fin 8), (((mask.val : Int) / 2 ^ k.val).tmod 2 == 1) = bitB mask.val k.val := by decide +kernel
theorem bitT (mask k : Nat) (h : mask < 256) (hk : k < 8) : (((mask : Int) / 2 ^ k).tmod 2 == 1) = bitB mask k := bitT' ⟨mask, h⟩ ⟨k, hk⟩
set_option maxRecDepth 40000 in
set_option maxHeartbeats 4000000 in
/-- the document's torn -/
theorem rtorn_any (mask : Nat) (hmask : mask < 256) (a a' : Option Addr) (len cap len' cap' : Nat) (l l' : List Nat) (w : World) (h : IsB w a len cap l) (hn : len ≤ 4096) (h' : IsB w a' len' cap' l') (hn' : len' ≤ 4096) :
    Calls Try.prog 45 #[.slice a len cap, .slice a' len' cap', .int .u8 (mask : Nat)] w fun e w' => ∃ q c, e = .returned (.slice (some ⟨q, 0, none⟩) 4096 c) ∧ w.heap.size ≤ q ∧ Row w' q 4096 c (tornK mask (full l) (full l') 8) ∧ Below w.heap.size w w' := by
  have F1 := hide (rfull_any a len cap l w h hn)
  have HB' := hide h'
  have HX : Hid (∀ x ∈ full l', x < 256) := hide (full_lt h'.2.2.2.1)
  have HX0 : Hid (∀ x ∈ full l, x < 256) := hide (full_lt h.2.2.2.1)
  have HTB := hide (fun t => tornK_bit (mask := mask) (full_length (by rw [h.1]; exact hn)) (full_length (by rw [h'.1]; exact hn')) 8 (Nat.le_refl _) t)
  have HTL := hide (tornK_length (mask := mask) (full_length (by rw [h.1]; exact hn)) (full_length (by rw [h'.1]; exact hn')) 8 (Nat.le_refl _))
  have HTX := hide (tornK_lt (mask := mask) HX0.out HX.out 8)
  have HMK := hide hmask
  generalize hT : tornK mask (full l) (full l') 8 = T at *
  have HN' := hide hn'
  clear h h' hn hn' hT hmask
  go_enter Try.func45, Try.ntmps45
  go_wp2_with fail
  refine F1.out.mono ?_
  rintro e w1 ⟨q1, c1, rfl, hq1, hrow1, hb1⟩
  have HQ1 := hide hq1
  have HR1 := hide hrow1
  have HB1 := hide hb1
  have hc1 := hrow1.2.1
  clear hq1 hrow1 hb1 F1
  go_wp2_with fail
  refine (rfull_any a' len' cap' l' w1 (HB'.out.below HB1.out) HN'.out).mono ?_
  rintro e w2 ⟨q2, c2, rfl, hq2, hrow2, hb2⟩
  have HR2 := hide hrow2
  have HR1' := hide (HR1.out.below hb2 HR1.out.lt)
  have HB2 := hide (HB1.out.trans (hb2.mono HB1.out.size))
  have hc2 := hrow2.2.1
  have HLT := hide (And.intro HR1'.out.lt hrow2.lt)
  clear hq2 hrow2 hb2 HR1
  go_wp2_with fail
  go_loopw [10, 9] (fun i o wr => ∃ k : Nat, k ≤ 8 ∧ i = .int .i64 k ∧ Hid (wr.ownsRow w2.heap.size 5 1 o (k * 512) (bv (T.take (k * 512)))) ∧ Hid (Below w2.heap.size w2 wr)) (fun i _ _ => 8 - (intOf i).toNat)
  case atStart => exact ⟨0, by omega, rfl, hide (World.ownsRow_nil _ _ _ _), hide (Below.refl _ _)⟩
  case round =>
    obtain ⟨k, hk, rfl, HO, HB⟩ := hrel
    by_cases hk8 : k = 8
    · subst hk8
      have ht8 : T.take (8 * 512) = T := List.take_of_length_le (by rw [HTL.out]; omega)
      have ho := HO.out
      rw [ht8] at ho
      obtain ⟨g, c, rfl, hg, hrow⟩ := Row.of_owns ho (by omega)
      have HG := hide (And.intro hg hrow)
      clear ho hg hrow ht8
      go_wp2
      go_ret
      exact ⟨g, c, rfl, by have := HG.out.1; have := HB2.out.size; omega, HG.out.2, HB2.out.trans (HB.out.mono HB2.out.size)⟩
    · have hlt : k < 8 := by omega
      have hL : (k + 1) * 512 - k * 512 = 512 := by omega
      have HLL := hide hL
      clear hL
      have htb := HTB.out k
      by_cases hbit : bitB mask k = true
      · rw [if_pos ⟨hlt, hbit⟩] at htb
        have HGB : Hid (IsB wr (some ⟨q2, k * 512, none⟩) ((k + 1) * 512 - k * 512) (c2 - k * 512) (grain T k)) := hide (by rw [htb, HLL.out]; exact grain_isB' (HR2.out.below HB.out HLT.out.2) HX.out k hlt)
        have hb0 : (((mask : Int) / 2 ^ k).tmod 2 == 1) = true := by rw [bitT mask k HMK.out hlt]; exact hbit
        have hb1 : decide (((mask : Int) / 2 ^ k).tmod 2 = 1) = true := by simpa using hb0
        clear hbit htb
        go_wp2_with (at_builtin; refine wpList_clone rfl _ _ rfl w2.heap.size _ (k * 512) (bv (T.take (k * 512))) rfl HO.out (some ⟨q2, k * 512, none⟩) ((k + 1) * 512 - k * 512) (c2 - k * 512) (grain T k) rfl HGB.out (by omega) HB.out.size w2.heap.size w2 HB.out (Nat.le_refl _) ?_)
        intro v' w' hown' hb'
        have HO' : Hid (w'.ownsRow w2.heap.size 5 1 v' ((k + 1) * 512) (bv (T.take ((k + 1) * 512)))) := hide (by rw [← take_grain, bv_append]; rw [show k * 512 + ((k + 1) * 512 - k * 512) = (k + 1) * 512 by omega] at hown'; exact hown')
        have HB' := hide hb'
        clear hown' hb'
        go_wp2
        go_roundw
        case rel => exact ⟨k + 1, by omega, by simp, HO', HB'⟩
        case measure => simp [intOf]; omega
      · rw [if_neg (fun h => hbit h.2)] at htb
        have HGB : Hid (IsB wr (some ⟨q1, k * 512, none⟩) ((k + 1) * 512 - k * 512) (c1 - k * 512) (grain T k)) := hide (by rw [htb, HLL.out]; exact grain_isB' (HR1'.out.below HB.out HLT.out.1) HX0.out k hlt)
        have hb0 : (((mask : Int) / 2 ^ k).tmod 2 == 1) = false := by rw [bitT mask k HMK.out hlt]; exact bool_not hbit
        have hb1 : decide (((mask : Int) / 2 ^ k).tmod 2 = 1) = false := by simpa using hb0
        clear hbit htb
        go_wp2_with (at_builtin; refine wpList_clone rfl _ _ rfl w2.heap.size _ (k * 512) (bv (T.take (k * 512))) rfl HO.out (some ⟨q1, k * 512, none⟩) ((k + 1) * 512 - k * 512) (c1 - k * 512) (grain T k) rfl HGB.out (by omega) HB.out.size w2.heap.size w2 HB.out (Nat.le_refl _) ?_)
        intro v' w' hown' hb'
        have HO' : Hid (w'.ownsRow w2.heap.size 5 1 v' ((k + 1) * 512) (bv (T.take ((k + 1) * 512)))) := hide (by rw [← take_grain, bv_append]; rw [show k * 512 + ((k + 1) * 512 - k * 512) = (k + 1) * 512 by omega] at hown'; exact hown')
        have HB' := hide hb'
        clear hown' hb'
        go_wp2
        go_roundw
        case rel => exact ⟨k + 1, by omega, by simp, HO', HB'⟩
        case measure => simp [intOf]; omega
end Go.Proofs.Ytdageggojaghmaa
