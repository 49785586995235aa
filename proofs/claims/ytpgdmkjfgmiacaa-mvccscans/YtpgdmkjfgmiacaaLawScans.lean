/- MvccScans, walked -/
import Derived.Test.YtpgdmkjfgmiacaaYe
namespace Go.Proofs.Ytpgdmkjfgmiacaa
open Go.RowKit
set_option maxRecDepth 40000 in
set_option maxHeartbeats 8000000 in
theorem scansWalk (a : Option Addr) (len cap : Nat) (l : List Vr) (low : Nat) (fr to : ByteArray) (t : Nat) (w : World) (hL : IsV w a len cap l) :
    Calls Try.prog 7 #[.agg #[.slice a len cap, .int .u64 (low : Nat)], .string fr, .string to, .int .u64 (t : Nat)] w fun e w' => e = .returned (.bool true) ∧ Below w.heap.size w w' := by
  have HB0 : Hid (Below w.heap.size w (w.alloc (.cells #[.slice a len cap, .int .u64 (low : Nat)] 25))) := hide ((Below.refl _ w).alloc (Nat.le_refl _) _)
  have HV0 := hide (hL.below HB0.out)
  have HT0 : Hid (Two (w.alloc (.cells #[.slice a len cap, .int .u64 (low : Nat)] 25)) w.heap.size (.slice a len cap) (.int .u64 (low : Nat))) := hide (heap_alloc_new _ _)
  have HLN := hide hL.1
  have hcm : cap ≤ 9223372036854775807 := hL.2.2.1
  have hcap := hL.2.1
  have hq := @equal54
  have hqg := @eqg54
  clear hL
  go_enter Try.func7, Try.ntmps7
  go_wp2_with fail
  generalize (w.alloc (.cells #[.slice a len cap, .int .u64 (low : Nat)] 25)) = V at *
  refine (lives_any V).mono ?_
  rintro e w1 ⟨rfl, hb1⟩
  have HB1 := hide (HB0.out.trans (hb1.mono HB0.out.size))
  have HV1 := hide (HV0.out.below hb1)
  have HT1 : Hid (Two w1 w.heap.size (.slice a len cap) (.int .u64 (low : Nat))) := hide ((hb1.block _ (heap_lt HT0.out)).trans HT0.out)
  obtain ⟨c0, c1'⟩ := cells2_of_blk HT1.out
  clear hb1 HB0 HV0 HT0
  have HS1 := hide (scan_any a len cap low t fr to l w1 HV1.out)
  go_wp2_with fail
  refine HS1.out.mono ?_
  rintro e w2 ⟨a2, k2, rfl, hI2, hb2⟩
  clear HS1 c0 c1'
  have HB2 := hide (HB1.out.trans (hb2.mono HB1.out.size))
  have HV2 := hide (HV1.out.below hb2)
  have HT2 : Hid (Two w2 w.heap.size (.slice a len cap) (.int .u64 (low : Nat))) := hide ((hb2.block _ (heap_lt HT1.out)).trans HT1.out)
  clear hb2 HB1 HV1 HT1
  by_cases hE : askE low l t = 0
  rotate_left
  · unfold scanR at hI2 ⊢
    simp only [if_neg hE] at hI2 ⊢
    generalize askE low l t = R at *
    clear hI2 HV2 HT2
    go_wp2
    go_ret
    exact ⟨rfl, HB2.out⟩
  have hg := ask_good hE
  have hlo : ¬ t < low := by
    unfold askE at hE
    rw [if_pos hg] at hE
    intro h
    rw [if_pos h] at hE
    cases hE
  rw [scanR_good hg hlo] at hI2 ⊢
  have HGT := hide (fun key => getR_good (key := key) hg hlo)
  have HRN : Hid (scanF l fr to t none l = scanF l fr to t (prevK l 0) (l.drop 0)) := hide rfl
  generalize hR : scanF l fr to t none l = R at *
  dsimp only at hI2 ⊢
  clear hR hE hg hlo
  have HP2 := hide hI2
  have hcm2 : k2 ≤ 9223372036854775807 := hI2.2.2.1
  have hcap2 := hI2.2.1
  obtain ⟨d0, d1⟩ := cells2_of_blk HT2.out
  clear hI2
  generalize hrn : R.length = rn at *
  have HRL := hide hrn
  clear hrn
  go_wp2
  clear d0 d1
  go_loopw [11, 35] (fun v11 v35 wr => ∃ k m : Nat, k ≤ len ∧ m ≤ rn ∧ v35 = .int .i64 (k : Nat) ∧ v11 = .int .i64 (m : Nat) ∧ Hid (Below w2.heap.size w2 wr ∧ R.drop m = scanF l fr to t (prevK l k) (l.drop k))) (fun _ v35 _ => len - (intOf v35).toNat)
  case atStart => exact ⟨0, 0, Nat.zero_le _, Nat.zero_le _, rfl, rfl, hide ⟨Below.refl _ _, by rw [← HRN.out]; rfl⟩⟩
  case round =>
    obtain ⟨k, m, hk, hm, rfl, rfl, HI⟩ := hrel
    by_cases hlt : k < len
    rotate_left
    · obtain rfl : k = len := by omega
      have hi2 : ¬ (k : Int) < (k : Int) := by omega
      have hme : m = rn := by
        have h := HI.out.2
        rw [← HLN.out, List.drop_length] at h
        have h2 : R.drop m = [] := h
        have := congrArg List.length h2
        rw [List.length_drop] at this
        have h3 := HRL.out
        simp at this
        omega
      subst hme
      have HB4 := hide (HB2.out.trans (HI.out.1.mono HB2.out.size))
      clear HI
      go_wp2
      go_ret
      exact ⟨rfl, HB4.out⟩
    have HVr := hide (HV2.out.below HI.out.1)
    obtain ⟨b, off, rfl, hbs, z0, z1, z2, z3⟩ := HVr.out.2.2.2 k hlt
    have HTr : Hid (Two wr w.heap.size (.slice (some ⟨b, off, none⟩) len cap) (.int .u64 (low : Nat))) := hide ((HI.out.1.block _ (heap_lt HT2.out)).trans HT2.out)
    have HPR : Hid (∀ i, k = i + 1 → wr.cell? ⟨b, off + i * 4, none⟩ = some (.string (l.getD i Vr0).key)) := hide (fun i hi => by
      obtain ⟨b', off', e', _, y0, _⟩ := HVr.out.2.2.2 i (by omega)
      cases e'
      exact y0)
    have HST := hide (scan_step (L := l) (l := l) (fr := fr) (to := to) (t := t) (k := k) (by rw [HLN.out]; exact hlt))
    have HGX := hide (HGT.out (l.getD k Vr0).key)
    have HPV : Hid (∀ i, k = i + 1 → prevK l k = some (l.getD i Vr0).key.toList) := hide (fun i hi => by rw [hi]; rfl)
    have HP0 : Hid (k = 0 → prevK l k = none) := hide (fun hi => by rw [hi]; rfl)
    generalize hx : l.getD k Vr0 = x at *
    clear hx
    obtain ⟨x1, x2, x3, x4⟩ := x
    dsimp only at z0 z1 z2 z3
    have HBN : Hid (Below wr.heap.size wr (wr.alloc (.cells #[.string x1, .int .u64 (x2 : Nat), .string x3, .bool x4] 51)).drew) := hide ((Below.refl _ wr).alloc (Nat.le_refl _) _).drew
    have hw1 : IntKind.i64.wrap ((k : Int) + 1) = (k : Int) + 1 := wr64' (by omega) (by omega)
    have hi2 : (k : Int) < (len : Int) := by omega
    have hi4 : (0 : Int) ≤ (k : Int) := by omega
    have HK2 := hide (HI.out.1.trans (HBN.out.mono HI.out.1.size))
    have hX0 : (wr.alloc (.cells #[.string x1, .int .u64 (x2 : Nat), .string x3, .bool x4] 51)).drew.cell? ⟨wr.heap.size, 0, none⟩ = some (.string x1) := cell_blk (heap_alloc_new wr (.cells #[.string x1, .int .u64 (x2 : Nat), .string x3, .bool x4] 51)) rfl
    have hN0 : (wr.alloc (.cells #[.string x1, .int .u64 (x2 : Nat), .string x3, .bool x4] 51)).drew.cell? ⟨w.heap.size, 0, none⟩ = some (.slice (some ⟨b, off, none⟩) len cap) := (World.cell?_of_block (HBN.out.block _ (heap_lt HTr.out))).trans (cells2_of_blk HTr.out).1
    have HX0 := hide hX0
    by_cases hk0 : k = 0
    · have HS : Hid ((wr.alloc (.cells #[.string x1, .int .u64 (x2 : Nat), .string x3, .bool x4] 51)).drew.cell? ⟨w.heap.size, 0, none⟩ = some (.slice (some ⟨b, off, none⟩) len cap) ∧ (wr.alloc (.cells #[.string x1, .int .u64 (x2 : Nat), .string x3, .bool x4] 51)).drew.cell? ⟨wr.heap.size, 0, none⟩ = some (.string x1)) := hide ⟨hN0, hX0⟩
      have HNE : Hid (¬ prevK l k = some x1.toList) := hide (by rw [HP0.out hk0]; simp)
      subst hk0
      simp only [Nat.zero_mul, Nat.add_zero] at z0 z1 z2 z3
      have hi9 : (0 : Int) < (len : Int) := by omega
      have hN1 : (wr.alloc (.cells #[.string x1, .int .u64 (x2 : Nat), .string x3, .bool x4] 51)).drew.cell? ⟨w.heap.size, 1, none⟩ = some (.int .u64 (low : Nat)) := (World.cell?_of_block (HBN.out.block _ (heap_lt HTr.out))).trans (cells2_of_blk HTr.out).2
      go_wp2_with fail
      refine wp_region_held_drew (S := (fun W : World => W.cell? ⟨w.heap.size, 0, none⟩ = some (.slice (some ⟨b, off, none⟩) len cap) ∧ W.cell? ⟨wr.heap.size, 0, none⟩ = some (.string x1))) (by kernel_rfl) ?hSpa (fun hHeld => ?_)
      case hSpa => exact HS.out
      refine hTake (i := 0) (v := ?v0pa) (some 40) rfl rfl (by kernel_rfl) (by kernel_rfl) (by kernel_rfl) (fun _ _ _ h => h) (by rfl) (by assumption) ?hy0pa ?hn0pa
      case hy0pa => (intro w hSw; (try dsimp only at hSw); go_simp; try with_reducible rfl)
      try simp only [Act.put, List.setIfInBounds_toArray, List.set_cons_zero, List.set_cons_succ]
      refine hTake (i := 1) (v := ?v1pa) (some 41) rfl rfl (by kernel_rfl) (by kernel_rfl) (by kernel_rfl) (fun _ _ _ h => h) (by rfl) (by assumption) ?hy1pa ?hn1pa
      case hy1pa => (intro w hSw; (try dsimp only at hSw); go_simp; try with_reducible rfl)
      try simp only [Act.put, List.setIfInBounds_toArray, List.set_cons_zero, List.set_cons_succ]
      refine hTake (i := 2) (v := ?v2pa) (some 42) rfl rfl (by kernel_rfl) (by kernel_rfl) (by kernel_rfl) (fun _ _ _ h => h) (by rfl) (by assumption) ?hy2pa ?hn2pa
      case hy2pa => (intro w hSw; (try dsimp only at hSw); go_simp; try with_reducible rfl)
      try simp only [Act.put, List.setIfInBounds_toArray, List.set_cons_zero, List.set_cons_succ]
      refine hSkip (i := 3) (some 43) rfl rfl (by kernel_rfl) (by kernel_rfl) (by kernel_rfl) (fun _ _ _ h => h) (by rfl) (by assumption) ?_
      try simp only [Act.put, List.setIfInBounds_toArray, List.set_cons_zero, List.set_cons_succ]
      refine hSkip (i := 4) (some 44) rfl rfl (by kernel_rfl) (by kernel_rfl) (by kernel_rfl) (fun _ _ _ h => h) (by rfl) (by assumption) ?_
      try simp only [Act.put, List.setIfInBounds_toArray, List.set_cons_zero, List.set_cons_succ]
      refine hSkip (i := 5) (some 45) rfl rfl (by kernel_rfl) (by kernel_rfl) (by kernel_rfl) (fun _ _ _ h => h) (by rfl) (by assumption) ?_
      try simp only [Act.put, List.setIfInBounds_toArray, List.set_cons_zero, List.set_cons_succ]
      refine hSkip (i := 6) (some 46) rfl rfl (by kernel_rfl) (by kernel_rfl) (by kernel_rfl) (fun _ _ _ h => h) (by rfl) (by assumption) ?_
      try simp only [Act.put, List.setIfInBounds_toArray, List.set_cons_zero, List.set_cons_succ]
      refine hSkip (i := 7) (some 47) rfl rfl (by kernel_rfl) (by kernel_rfl) (by kernel_rfl) (fun _ _ _ h => h) (by rfl) (by assumption) ?_
      try simp only [Act.put, List.setIfInBounds_toArray, List.set_cons_zero, List.set_cons_succ]
      refine hSkip (i := 8) (some 48) rfl rfl (by kernel_rfl) (by kernel_rfl) (by kernel_rfl) (fun _ _ _ h => h) (by rfl) (by assumption) ?_
      try simp only [Act.put, List.setIfInBounds_toArray, List.set_cons_zero, List.set_cons_succ]
      refine hSkip (i := 9) (some 49) rfl rfl (by kernel_rfl) (by kernel_rfl) (by kernel_rfl) (fun _ _ _ h => h) (by rfl) (by assumption) ?_
      try simp only [Act.put, List.setIfInBounds_toArray, List.set_cons_zero, List.set_cons_succ]
      refine hSkip (i := 10) (some 50) rfl rfl (by kernel_rfl) (by kernel_rfl) (by kernel_rfl) (fun _ _ _ h => h) (by rfl) (by assumption) ?_
      try simp only [Act.put, List.setIfInBounds_toArray, List.set_cons_zero, List.set_cons_succ]
      refine hSkip (i := 11) (some 51) rfl rfl (by kernel_rfl) (by kernel_rfl) (by kernel_rfl) (fun _ _ _ h => h) (by rfl) (by assumption) ?_
      try simp only [Act.put, List.setIfInBounds_toArray, List.set_cons_zero, List.set_cons_succ]
      refine hSkip (i := 12) (some 52) rfl rfl (by kernel_rfl) (by kernel_rfl) (by kernel_rfl) (fun _ _ _ h => h) (by rfl) (by assumption) ?_
      try simp only [Act.put, List.setIfInBounds_toArray, List.set_cons_zero, List.set_cons_succ]
      refine hTake (i := 13) (v := ?v13pa) (some 53) rfl rfl (by kernel_rfl) (by kernel_rfl) (by kernel_rfl) (fun _ _ _ h => h) (by rfl) (by assumption) ?hy13pa ?hn13pa
      case hy13pa => (intro w hSw; (try dsimp only at hSw); go_simp; try with_reducible rfl)
      try simp only [Act.put, List.setIfInBounds_toArray, List.set_cons_zero, List.set_cons_succ]
      refine wpAnyH_done (by kernel_rfl) ?_ _
      have HNXT : Hid (R.drop m = (item l fr to t ⟨x1, x2, x3, x4⟩).toList ++ scanF l fr to t (prevK l (0 + 1)) (l.drop (0 + 1))) := hide (by
        have h := HST.out
        rw [if_neg HNE.out] at h
        exact HI.out.2.trans h)
      have HGA := hide (get_any (some ⟨b, off, none⟩) len cap low t x1 l _ (HVr.out.below HBN.out))
      rw [HGX.out] at HGA
      unfold item at HNXT
      dsimp only at HNXT HGA
      generalize seenR (lastTo (l.filter (sameK x1)) t) = sr at *
      obtain ⟨sv, sb⟩ := sr
      dsimp only at HNXT HGA
      clear HST HGX HPV HP0 HPR HGT
      go_wp2_with fail
      refine HGA.out.mono ?_
      rintro e w5 ⟨rfl, hb5⟩
      have HK5 := hide (HK2.out.trans (hb5.mono (Nat.le_trans HI.out.1.size HBN.out.size)))
      have HX5 : Hid (w5.cell? ⟨wr.heap.size, 0, none⟩ = some (.string x1)) := hide ((World.cell?_of_block (hb5.block _ (by simp [World.drew]))).trans HX0.out)
      have hx5 := HX5.out
      clear hb5 HGA
      cases sb
      · have HRR : Hid (R.drop m = scanF l fr to t (prevK l (0 + 1)) (l.drop (0 + 1))) := hide (by rw [HNXT.out]; simp)
        clear HNXT
        go_wp2
        go_roundw
        case rel => exact ⟨0 + 1, m, by omega, hm, by simp, rfl, hide ⟨HK5.out, HRR.out⟩⟩
        case measure => simp [intOf]; omega
      · have HS0 : Hid (inSpan fr to x1 = (!Op.bytesLess x1.toList fr.toList && (to.toList.isEmpty || Op.bytesLess x1.toList to.toList))) := hide rfl
        cases hf : Op.bytesLess x1.toList fr.toList
        · by_cases hte : to.toList = []
          · have HSP : Hid (inSpan fr to x1 = true) := hide (by rw [HS0.out, hf, hte]; rfl)
            have hte2 : (to.toList == ([] : List UInt8)) = true := by simpa using hte
            have HD : Hid (R.drop m = ⟨x1, sv⟩ :: scanF l fr to t (prevK l (0 + 1)) (l.drop (0 + 1))) := hide (by rw [HNXT.out, if_pos ⟨rfl, HSP.out⟩]; rfl)
            have hmr : m < rn := by
              have h := congrArg List.length HD.out
              rw [List.length_drop, HRL.out] at h
              simp at h
              omega
            have HRG : Hid (R.getD m Pr0 = ⟨x1, sv⟩ ∧ R.drop (m + 1) = scanF l fr to t (prevK l (0 + 1)) (l.drop (0 + 1))) := hide (by
              have h := HD.out
              have hml : m < R.length := by rw [HRL.out]; exact hmr
              rw [List.drop_eq_getElem_cons hml] at h
              injection h with h1 h2
              exact ⟨by rw [List.getD_eq_getElem?_getD, List.getElem?_eq_getElem hml, ← h1]; rfl, h2⟩)
            obtain ⟨pb, po, rfl, hpb, p0, p1⟩ := (HP2.out.below HK5.out).2.2.2 m hmr
            rw [HRG.out.1] at p0 p1
            dsimp only at p0 p1
            have HS5 : Hid (w5.drew.cell? ⟨pb, po + m * 2, none⟩ = some (.string x1) ∧ w5.drew.cell? ⟨pb, po + m * 2 + 1, none⟩ = some (.string sv) ∧ w5.drew.cell? ⟨wr.heap.size, 0, none⟩ = some (.string x1)) := hide ⟨p0, p1, HX5.out⟩
            have heq : eqP ⟨x1, sv⟩ ⟨x1, sv⟩ = true := (eqP_iff _ _).2 rfl
            have hwm : IntKind.i64.wrap ((m : Int) + 1) = (m : Int) + 1 := wr64' (by omega) (by omega)
            have hmI : (m : Int) < (rn : Int) := by omega
            have hmI2 : ¬ (rn : Int) ≤ (m : Int) := by omega
            have hmD : decide ((rn : Int) ≤ (m : Int)) = false := decide_eq_false hmI2
            have hmN : decide (rn ≤ m) = false := decide_eq_false (by omega)
            have hm0 : (0 : Int) ≤ (m : Int) := by omega
            have HK6 := hide HK5.out.drew
            clear p0 p1 HNXT HD hpb
            go_wp2_with fail
            refine wp_region_held_drew (S := (fun W : World => W.cell? ⟨pb, po + m * 2, none⟩ = some (.string x1) ∧ W.cell? ⟨pb, po + m * 2 + 1, none⟩ = some (.string sv) ∧ W.cell? ⟨wr.heap.size, 0, none⟩ = some (.string x1))) (by kernel_rfl) ?hSqax (fun hHeld => ?_)
            case hSqax => exact HS5.out
            refine hTake (i := 0) (v := ?v0qax) (some 83) rfl rfl (by kernel_rfl) (by kernel_rfl) (by kernel_rfl) (fun _ _ _ h => h) (by rfl) (by assumption) ?hy0qax ?hn0qax
            case hy0qax => (intro w hSw; (try dsimp only at hSw); go_simp; try with_reducible rfl)
            try simp only [Act.put, List.setIfInBounds_toArray, List.set_cons_zero, List.set_cons_succ]
            refine hTake (i := 1) (v := ?v1qax) (some 84) rfl rfl (by kernel_rfl) (by kernel_rfl) (by kernel_rfl) (fun _ _ _ h => h) (by rfl) (by assumption) ?hy1qax ?hn1qax
            case hy1qax => (intro w hSw; (try dsimp only at hSw); go_simp; try with_reducible rfl)
            try simp only [Act.put, List.setIfInBounds_toArray, List.set_cons_zero, List.set_cons_succ]
            refine hTake (i := 2) (v := ?v2qax) (some 85) rfl rfl (by kernel_rfl) (by kernel_rfl) (by kernel_rfl) (fun _ _ _ h => h) (by rfl) (by assumption) ?hy2qax ?hn2qax
            case hy2qax => (intro w hSw; (try dsimp only at hSw); go_simp; try with_reducible rfl)
            try simp only [Act.put, List.setIfInBounds_toArray, List.set_cons_zero, List.set_cons_succ]
            refine hTake (i := 3) (v := ?v3qax) (some 86) rfl rfl (by kernel_rfl) (by kernel_rfl) (by kernel_rfl) (fun _ _ _ h => h) (by rfl) (by assumption) ?hy3qax ?hn3qax
            case hy3qax => (intro w hSw; (try dsimp only at hSw); go_simp; try with_reducible rfl)
            try simp only [Act.put, List.setIfInBounds_toArray, List.set_cons_zero, List.set_cons_succ]
            refine hTake (i := 4) (v := ?v4qax) (some 87) rfl rfl (by kernel_rfl) (by kernel_rfl) (by kernel_rfl) (fun _ _ _ h => h) (by rfl) (by assumption) ?hy4qax ?hn4qax
            case hy4qax => (intro w hSw; (try dsimp only at hSw); go_simp; try with_reducible rfl)
            try simp only [Act.put, List.setIfInBounds_toArray, List.set_cons_zero, List.set_cons_succ]
            refine hTake (i := 5) (v := ?v5qax) (some 88) rfl rfl (by kernel_rfl) (by kernel_rfl) (by kernel_rfl) (fun _ _ _ h => h) (by rfl) (by assumption) ?hy5qax ?hn5qax
            case hy5qax => (intro w hSw; (try dsimp only at hSw); go_simp; try with_reducible rfl)
            try simp only [Act.put, List.setIfInBounds_toArray, List.set_cons_zero, List.set_cons_succ]
            refine hTake (i := 6) (v := ?v6qax) (some 89) rfl rfl (by kernel_rfl) (by kernel_rfl) (by kernel_rfl) (fun _ _ _ h => h) (by rfl) (by assumption) ?hy6qax ?hn6qax
            case hy6qax => (intro w hSw; (try dsimp only at hSw); go_simp; try with_reducible rfl)
            try simp only [Act.put, List.setIfInBounds_toArray, List.set_cons_zero, List.set_cons_succ]
            refine hTake (i := 7) (v := ?v7qax) (some 90) rfl rfl (by kernel_rfl) (by kernel_rfl) (by kernel_rfl) (fun _ _ _ h => h) (by rfl) (by assumption) ?hy7qax ?hn7qax
            case hy7qax => (intro w hSw; (try dsimp only at hSw); go_simp; try with_reducible rfl)
            try simp only [Act.put, List.setIfInBounds_toArray, List.set_cons_zero, List.set_cons_succ]
            refine hTake (i := 8) (v := ?v8qax) (some 91) rfl rfl (by kernel_rfl) (by kernel_rfl) (by kernel_rfl) (fun _ _ _ h => h) (by rfl) (by assumption) ?hy8qax ?hn8qax
            case hy8qax => (intro w hSw; (try dsimp only at hSw); go_simp; try with_reducible rfl)
            try simp only [Act.put, List.setIfInBounds_toArray, List.set_cons_zero, List.set_cons_succ]
            refine hTake (i := 9) (v := ?v9qax) (some 92) rfl rfl (by kernel_rfl) (by kernel_rfl) (by kernel_rfl) (fun _ _ _ h => h) (by rfl) (by assumption) ?hy9qax ?hn9qax
            case hy9qax => (intro w hSw; (try dsimp only at hSw); go_simp; try with_reducible rfl)
            try simp only [Act.put, List.setIfInBounds_toArray, List.set_cons_zero, List.set_cons_succ]
            refine hTake (i := 10) (v := ?v10qax) (some 93) rfl rfl (by kernel_rfl) (by kernel_rfl) (by kernel_rfl) (fun _ _ _ h => h) (by rfl) (by assumption) ?hy10qax ?hn10qax
            case hy10qax => (intro w hSw; (try dsimp only at hSw); go_simp; try with_reducible rfl)
            try simp only [Act.put, List.setIfInBounds_toArray, List.set_cons_zero, List.set_cons_succ]
            refine hTake (i := 11) (v := ?v11qax) (some 94) rfl rfl (by kernel_rfl) (by kernel_rfl) (by kernel_rfl) (fun _ _ _ h => h) (by rfl) (by assumption) ?hy11qax ?hn11qax
            case hy11qax => (intro w hSw; (try dsimp only at hSw); go_simp; try with_reducible rfl)
            try simp only [Act.put, List.setIfInBounds_toArray, List.set_cons_zero, List.set_cons_succ]
            refine hTake (i := 12) (v := ?v12qax) (some 95) rfl rfl (by kernel_rfl) (by kernel_rfl) (by kernel_rfl) (fun _ _ _ h => h) (by rfl) (by assumption) ?hy12qax ?hn12qax
            case hy12qax => (intro w hSw; (try dsimp only at hSw); go_simp; try with_reducible rfl)
            try simp only [Act.put, List.setIfInBounds_toArray, List.set_cons_zero, List.set_cons_succ]
            refine hTake (i := 13) (v := ?v13qax) (some 96) rfl rfl (by kernel_rfl) (by kernel_rfl) (by kernel_rfl) (fun _ _ _ h => h) (by rfl) (by assumption) ?hy13qax ?hn13qax
            case hy13qax => (intro w hSw; (try dsimp only at hSw); go_simp; try with_reducible rfl)
            try simp only [Act.put, List.setIfInBounds_toArray, List.set_cons_zero, List.set_cons_succ]
            refine hTake (i := 14) (v := ?v14qax) (some 97) rfl rfl (by kernel_rfl) (by kernel_rfl) (by kernel_rfl) (fun _ _ _ h => h) (by rfl) (by assumption) ?hy14qax ?hn14qax
            case hy14qax => (intro w hSw; (try dsimp only at hSw); go_simp; try with_reducible rfl)
            try simp only [Act.put, List.setIfInBounds_toArray, List.set_cons_zero, List.set_cons_succ]
            refine wpAnyH_done (by kernel_rfl) ?_ _
            go_wp2
            go_roundw
            case rel => exact ⟨0 + 1, m + 1, by omega, by omega, by simp, by simp, hide ⟨HK6.out, HRG.out.2⟩⟩
            case measure => simp [intOf]; omega
          · have hte2 : (to.toList == ([] : List UInt8)) = false := by simpa using hte
            have hte3 : to.toList.isEmpty = false := by simpa using hte
            cases hl : Op.bytesLess x1.toList to.toList
            · have HSP : Hid (inSpan fr to x1 = false) := hide (by rw [HS0.out, hf, hte3, hl]; rfl)
              have HRR : Hid (R.drop m = scanF l fr to t (prevK l (0 + 1)) (l.drop (0 + 1))) := hide (by rw [HNXT.out, if_neg (fun h => by have h2 := h.2; rw [HSP.out] at h2; cases h2)]; rfl)
              clear HNXT
              go_wp2
              go_roundw
              case rel => exact ⟨0 + 1, m, by omega, hm, by simp, rfl, hide ⟨HK5.out, HRR.out⟩⟩
              case measure => simp [intOf]; omega
            · have HSP : Hid (inSpan fr to x1 = true) := hide (by rw [HS0.out, hf, hte3, hl]; rfl)
              have HD : Hid (R.drop m = ⟨x1, sv⟩ :: scanF l fr to t (prevK l (0 + 1)) (l.drop (0 + 1))) := hide (by rw [HNXT.out, if_pos ⟨rfl, HSP.out⟩]; rfl)
              have hmr : m < rn := by
                have h := congrArg List.length HD.out
                rw [List.length_drop, HRL.out] at h
                simp at h
                omega
              have HRG : Hid (R.getD m Pr0 = ⟨x1, sv⟩ ∧ R.drop (m + 1) = scanF l fr to t (prevK l (0 + 1)) (l.drop (0 + 1))) := hide (by
                have h := HD.out
                have hml : m < R.length := by rw [HRL.out]; exact hmr
                rw [List.drop_eq_getElem_cons hml] at h
                injection h with h1 h2
                exact ⟨by rw [List.getD_eq_getElem?_getD, List.getElem?_eq_getElem hml, ← h1]; rfl, h2⟩)
              obtain ⟨pb, po, rfl, hpb, p0, p1⟩ := (HP2.out.below HK5.out).2.2.2 m hmr
              rw [HRG.out.1] at p0 p1
              dsimp only at p0 p1
              have HS5 : Hid (w5.drew.cell? ⟨pb, po + m * 2, none⟩ = some (.string x1) ∧ w5.drew.cell? ⟨pb, po + m * 2 + 1, none⟩ = some (.string sv) ∧ w5.drew.cell? ⟨wr.heap.size, 0, none⟩ = some (.string x1)) := hide ⟨p0, p1, HX5.out⟩
              have heq : eqP ⟨x1, sv⟩ ⟨x1, sv⟩ = true := (eqP_iff _ _).2 rfl
              have hwm : IntKind.i64.wrap ((m : Int) + 1) = (m : Int) + 1 := wr64' (by omega) (by omega)
              have hmI : (m : Int) < (rn : Int) := by omega
              have hmI2 : ¬ (rn : Int) ≤ (m : Int) := by omega
              have hmD : decide ((rn : Int) ≤ (m : Int)) = false := decide_eq_false hmI2
              have hmN : decide (rn ≤ m) = false := decide_eq_false (by omega)
              have hm0 : (0 : Int) ≤ (m : Int) := by omega
              have HK6 := hide HK5.out.drew
              clear p0 p1 HNXT HD hpb
              go_wp2_with fail
              refine wp_region_held_drew (S := (fun W : World => W.cell? ⟨pb, po + m * 2, none⟩ = some (.string x1) ∧ W.cell? ⟨pb, po + m * 2 + 1, none⟩ = some (.string sv) ∧ W.cell? ⟨wr.heap.size, 0, none⟩ = some (.string x1))) (by kernel_rfl) ?hSqay (fun hHeld => ?_)
              case hSqay => exact HS5.out
              refine hTake (i := 0) (v := ?v0qay) (some 83) rfl rfl (by kernel_rfl) (by kernel_rfl) (by kernel_rfl) (fun _ _ _ h => h) (by rfl) (by assumption) ?hy0qay ?hn0qay
              case hy0qay => (intro w hSw; (try dsimp only at hSw); go_simp; try with_reducible rfl)
              try simp only [Act.put, List.setIfInBounds_toArray, List.set_cons_zero, List.set_cons_succ]
              refine hTake (i := 1) (v := ?v1qay) (some 84) rfl rfl (by kernel_rfl) (by kernel_rfl) (by kernel_rfl) (fun _ _ _ h => h) (by rfl) (by assumption) ?hy1qay ?hn1qay
              case hy1qay => (intro w hSw; (try dsimp only at hSw); go_simp; try with_reducible rfl)
              try simp only [Act.put, List.setIfInBounds_toArray, List.set_cons_zero, List.set_cons_succ]
              refine hTake (i := 2) (v := ?v2qay) (some 85) rfl rfl (by kernel_rfl) (by kernel_rfl) (by kernel_rfl) (fun _ _ _ h => h) (by rfl) (by assumption) ?hy2qay ?hn2qay
              case hy2qay => (intro w hSw; (try dsimp only at hSw); go_simp; try with_reducible rfl)
              try simp only [Act.put, List.setIfInBounds_toArray, List.set_cons_zero, List.set_cons_succ]
              refine hTake (i := 3) (v := ?v3qay) (some 86) rfl rfl (by kernel_rfl) (by kernel_rfl) (by kernel_rfl) (fun _ _ _ h => h) (by rfl) (by assumption) ?hy3qay ?hn3qay
              case hy3qay => (intro w hSw; (try dsimp only at hSw); go_simp; try with_reducible rfl)
              try simp only [Act.put, List.setIfInBounds_toArray, List.set_cons_zero, List.set_cons_succ]
              refine hTake (i := 4) (v := ?v4qay) (some 87) rfl rfl (by kernel_rfl) (by kernel_rfl) (by kernel_rfl) (fun _ _ _ h => h) (by rfl) (by assumption) ?hy4qay ?hn4qay
              case hy4qay => (intro w hSw; (try dsimp only at hSw); go_simp; try with_reducible rfl)
              try simp only [Act.put, List.setIfInBounds_toArray, List.set_cons_zero, List.set_cons_succ]
              refine hTake (i := 5) (v := ?v5qay) (some 88) rfl rfl (by kernel_rfl) (by kernel_rfl) (by kernel_rfl) (fun _ _ _ h => h) (by rfl) (by assumption) ?hy5qay ?hn5qay
              case hy5qay => (intro w hSw; (try dsimp only at hSw); go_simp; try with_reducible rfl)
              try simp only [Act.put, List.setIfInBounds_toArray, List.set_cons_zero, List.set_cons_succ]
              refine hTake (i := 6) (v := ?v6qay) (some 89) rfl rfl (by kernel_rfl) (by kernel_rfl) (by kernel_rfl) (fun _ _ _ h => h) (by rfl) (by assumption) ?hy6qay ?hn6qay
              case hy6qay => (intro w hSw; (try dsimp only at hSw); go_simp; try with_reducible rfl)
              try simp only [Act.put, List.setIfInBounds_toArray, List.set_cons_zero, List.set_cons_succ]
              refine hTake (i := 7) (v := ?v7qay) (some 90) rfl rfl (by kernel_rfl) (by kernel_rfl) (by kernel_rfl) (fun _ _ _ h => h) (by rfl) (by assumption) ?hy7qay ?hn7qay
              case hy7qay => (intro w hSw; (try dsimp only at hSw); go_simp; try with_reducible rfl)
              try simp only [Act.put, List.setIfInBounds_toArray, List.set_cons_zero, List.set_cons_succ]
              refine hTake (i := 8) (v := ?v8qay) (some 91) rfl rfl (by kernel_rfl) (by kernel_rfl) (by kernel_rfl) (fun _ _ _ h => h) (by rfl) (by assumption) ?hy8qay ?hn8qay
              case hy8qay => (intro w hSw; (try dsimp only at hSw); go_simp; try with_reducible rfl)
              try simp only [Act.put, List.setIfInBounds_toArray, List.set_cons_zero, List.set_cons_succ]
              refine hTake (i := 9) (v := ?v9qay) (some 92) rfl rfl (by kernel_rfl) (by kernel_rfl) (by kernel_rfl) (fun _ _ _ h => h) (by rfl) (by assumption) ?hy9qay ?hn9qay
              case hy9qay => (intro w hSw; (try dsimp only at hSw); go_simp; try with_reducible rfl)
              try simp only [Act.put, List.setIfInBounds_toArray, List.set_cons_zero, List.set_cons_succ]
              refine hTake (i := 10) (v := ?v10qay) (some 93) rfl rfl (by kernel_rfl) (by kernel_rfl) (by kernel_rfl) (fun _ _ _ h => h) (by rfl) (by assumption) ?hy10qay ?hn10qay
              case hy10qay => (intro w hSw; (try dsimp only at hSw); go_simp; try with_reducible rfl)
              try simp only [Act.put, List.setIfInBounds_toArray, List.set_cons_zero, List.set_cons_succ]
              refine hTake (i := 11) (v := ?v11qay) (some 94) rfl rfl (by kernel_rfl) (by kernel_rfl) (by kernel_rfl) (fun _ _ _ h => h) (by rfl) (by assumption) ?hy11qay ?hn11qay
              case hy11qay => (intro w hSw; (try dsimp only at hSw); go_simp; try with_reducible rfl)
              try simp only [Act.put, List.setIfInBounds_toArray, List.set_cons_zero, List.set_cons_succ]
              refine hTake (i := 12) (v := ?v12qay) (some 95) rfl rfl (by kernel_rfl) (by kernel_rfl) (by kernel_rfl) (fun _ _ _ h => h) (by rfl) (by assumption) ?hy12qay ?hn12qay
              case hy12qay => (intro w hSw; (try dsimp only at hSw); go_simp; try with_reducible rfl)
              try simp only [Act.put, List.setIfInBounds_toArray, List.set_cons_zero, List.set_cons_succ]
              refine hTake (i := 13) (v := ?v13qay) (some 96) rfl rfl (by kernel_rfl) (by kernel_rfl) (by kernel_rfl) (fun _ _ _ h => h) (by rfl) (by assumption) ?hy13qay ?hn13qay
              case hy13qay => (intro w hSw; (try dsimp only at hSw); go_simp; try with_reducible rfl)
              try simp only [Act.put, List.setIfInBounds_toArray, List.set_cons_zero, List.set_cons_succ]
              refine hTake (i := 14) (v := ?v14qay) (some 97) rfl rfl (by kernel_rfl) (by kernel_rfl) (by kernel_rfl) (fun _ _ _ h => h) (by rfl) (by assumption) ?hy14qay ?hn14qay
              case hy14qay => (intro w hSw; (try dsimp only at hSw); go_simp; try with_reducible rfl)
              try simp only [Act.put, List.setIfInBounds_toArray, List.set_cons_zero, List.set_cons_succ]
              refine wpAnyH_done (by kernel_rfl) ?_ _
              go_wp2
              go_roundw
              case rel => exact ⟨0 + 1, m + 1, by omega, by omega, by simp, by simp, hide ⟨HK6.out, HRG.out.2⟩⟩
              case measure => simp [intOf]; omega
        · have HSP : Hid (inSpan fr to x1 = false) := hide (by rw [HS0.out, hf]; rfl)
          have HRR : Hid (R.drop m = scanF l fr to t (prevK l (0 + 1)) (l.drop (0 + 1))) := hide (by rw [HNXT.out, if_neg (fun h => by have h2 := h.2; rw [HSP.out] at h2; cases h2)]; rfl)
          clear HNXT
          go_wp2
          go_roundw
          case rel => exact ⟨0 + 1, m, by omega, hm, by simp, rfl, hide ⟨HK5.out, HRR.out⟩⟩
          case measure => simp [intOf]; omega
    · obtain ⟨i, hki⟩ : ∃ i, k = i + 1 := ⟨k - 1, by omega⟩
      have hp := HPR.out i hki
      have hpv := HPV.out i hki
      generalize l.getD i Vr0 = y at *
      obtain ⟨y1, y2, y3, y4⟩ := y
      dsimp only at hp hpv
      have HS : Hid ((wr.alloc (.cells #[.string x1, .int .u64 (x2 : Nat), .string x3, .bool x4] 51)).drew.cell? ⟨w.heap.size, 0, none⟩ = some (.slice (some ⟨b, off, none⟩) len cap) ∧ (wr.alloc (.cells #[.string x1, .int .u64 (x2 : Nat), .string x3, .bool x4] 51)).drew.cell? ⟨wr.heap.size, 0, none⟩ = some (.string x1) ∧ (wr.alloc (.cells #[.string x1, .int .u64 (x2 : Nat), .string x3, .bool x4] 51)).drew.cell? ⟨b, off + i * 4, none⟩ = some (.string y1)) := hide ⟨hN0, hX0, (World.cell?_of_block (HBN.out.block b hbs)).trans hp⟩
      have hw5 : IntKind.i64.wrap ((k : Int) - 1) = (i : Int) := by rw [wr64' (by omega) (by omega)]; omega
      have hw6 : IntKind.i64.wrap (i : Int) = (i : Int) := wr64' (by omega) (by omega)
      have hi5 : (0 : Int) < (k : Int) := by omega
      have hkD : decide ((0 : Int) < (k : Int)) = true := decide_eq_true hi5
      have hkN : 0 < k := by omega
      have hi6 : (i : Int) < (len : Int) := by omega
      have hi7 : (0 : Int) ≤ (i : Int) := by omega
      have hN1 : (wr.alloc (.cells #[.string x1, .int .u64 (x2 : Nat), .string x3, .bool x4] 51)).drew.cell? ⟨w.heap.size, 1, none⟩ = some (.int .u64 (low : Nat)) := (World.cell?_of_block (HBN.out.block _ (heap_lt HTr.out))).trans (cells2_of_blk HTr.out).2
      by_cases hyx : y1.toList = x1.toList
      · have HRR : Hid (R.drop m = scanF l fr to t (prevK l (k + 1)) (l.drop (k + 1))) := hide (by
          have h := HST.out
          rw [if_pos (by rw [hpv, hyx])] at h
          exact HI.out.2.trans h)
        have hqb : (y1.toList == x1.toList) = true := by simpa using hyx
        clear hp hpv hki hk0 hyx HST HPV HP0 HPR HGX hN0 hX0
        go_wp2_with fail
        refine wp_region_held_drew (S := (fun W : World => W.cell? ⟨w.heap.size, 0, none⟩ = some (.slice (some ⟨b, off, none⟩) len cap) ∧ W.cell? ⟨wr.heap.size, 0, none⟩ = some (.string x1) ∧ W.cell? ⟨b, off + i * 4, none⟩ = some (.string y1))) (by kernel_rfl) ?hSpb (fun hHeld => ?_)
        case hSpb => exact HS.out
        refine hTake (i := 0) (v := ?v0pb) (some 40) rfl rfl (by kernel_rfl) (by kernel_rfl) (by kernel_rfl) (fun _ _ _ h => h) (by rfl) (by assumption) ?hy0pb ?hn0pb
        case hy0pb => (intro w hSw; (try dsimp only at hSw); go_simp; try with_reducible rfl)
        try simp only [Act.put, List.setIfInBounds_toArray, List.set_cons_zero, List.set_cons_succ]
        refine hTake (i := 1) (v := ?v1pb) (some 41) rfl rfl (by kernel_rfl) (by kernel_rfl) (by kernel_rfl) (fun _ _ _ h => h) (by rfl) (by assumption) ?hy1pb ?hn1pb
        case hy1pb => (intro w hSw; (try dsimp only at hSw); go_simp; try with_reducible rfl)
        try simp only [Act.put, List.setIfInBounds_toArray, List.set_cons_zero, List.set_cons_succ]
        refine hTake (i := 2) (v := ?v2pb) (some 42) rfl rfl (by kernel_rfl) (by kernel_rfl) (by kernel_rfl) (fun _ _ _ h => h) (by rfl) (by assumption) ?hy2pb ?hn2pb
        case hy2pb => (intro w hSw; (try dsimp only at hSw); go_simp; try with_reducible rfl)
        try simp only [Act.put, List.setIfInBounds_toArray, List.set_cons_zero, List.set_cons_succ]
        refine hTake (i := 3) (v := ?v3pb) (some 43) rfl rfl (by kernel_rfl) (by kernel_rfl) (by kernel_rfl) (fun _ _ _ h => h) (by rfl) (by assumption) ?hy3pb ?hn3pb
        case hy3pb => (intro w hSw; (try dsimp only at hSw); go_simp; try with_reducible rfl)
        try simp only [Act.put, List.setIfInBounds_toArray, List.set_cons_zero, List.set_cons_succ]
        refine hTake (i := 4) (v := ?v4pb) (some 44) rfl rfl (by kernel_rfl) (by kernel_rfl) (by kernel_rfl) (fun _ _ _ h => h) (by rfl) (by assumption) ?hy4pb ?hn4pb
        case hy4pb => (intro w hSw; (try dsimp only at hSw); go_simp; try with_reducible rfl)
        try simp only [Act.put, List.setIfInBounds_toArray, List.set_cons_zero, List.set_cons_succ]
        refine hTake (i := 5) (v := ?v5pb) (some 45) rfl rfl (by kernel_rfl) (by kernel_rfl) (by kernel_rfl) (fun _ _ _ h => h) (by rfl) (by assumption) ?hy5pb ?hn5pb
        case hy5pb => (intro w hSw; (try dsimp only at hSw); go_simp; try with_reducible rfl)
        try simp only [Act.put, List.setIfInBounds_toArray, List.set_cons_zero, List.set_cons_succ]
        refine hTake (i := 6) (v := ?v6pb) (some 46) rfl rfl (by kernel_rfl) (by kernel_rfl) (by kernel_rfl) (fun _ _ _ h => h) (by rfl) (by assumption) ?hy6pb ?hn6pb
        case hy6pb => (intro w hSw; (try dsimp only at hSw); go_simp; try with_reducible rfl)
        try simp only [Act.put, List.setIfInBounds_toArray, List.set_cons_zero, List.set_cons_succ]
        refine hTake (i := 7) (v := ?v7pb) (some 47) rfl rfl (by kernel_rfl) (by kernel_rfl) (by kernel_rfl) (fun _ _ _ h => h) (by rfl) (by assumption) ?hy7pb ?hn7pb
        case hy7pb => (intro w hSw; (try dsimp only at hSw); go_simp; try with_reducible rfl)
        try simp only [Act.put, List.setIfInBounds_toArray, List.set_cons_zero, List.set_cons_succ]
        refine hTake (i := 8) (v := ?v8pb) (some 48) rfl rfl (by kernel_rfl) (by kernel_rfl) (by kernel_rfl) (fun _ _ _ h => h) (by rfl) (by assumption) ?hy8pb ?hn8pb
        case hy8pb => (intro w hSw; (try dsimp only at hSw); go_simp; try with_reducible rfl)
        try simp only [Act.put, List.setIfInBounds_toArray, List.set_cons_zero, List.set_cons_succ]
        refine hTake (i := 9) (v := ?v9pb) (some 49) rfl rfl (by kernel_rfl) (by kernel_rfl) (by kernel_rfl) (fun _ _ _ h => h) (by rfl) (by assumption) ?hy9pb ?hn9pb
        case hy9pb => (intro w hSw; (try dsimp only at hSw); go_simp; try with_reducible rfl)
        try simp only [Act.put, List.setIfInBounds_toArray, List.set_cons_zero, List.set_cons_succ]
        refine hTake (i := 10) (v := ?v10pb) (some 50) rfl rfl (by kernel_rfl) (by kernel_rfl) (by kernel_rfl) (fun _ _ _ h => h) (by rfl) (by assumption) ?hy10pb ?hn10pb
        case hy10pb => (intro w hSw; (try dsimp only at hSw); go_simp; try with_reducible rfl)
        try simp only [Act.put, List.setIfInBounds_toArray, List.set_cons_zero, List.set_cons_succ]
        refine hTake (i := 11) (v := ?v11pb) (some 51) rfl rfl (by kernel_rfl) (by kernel_rfl) (by kernel_rfl) (fun _ _ _ h => h) (by rfl) (by assumption) ?hy11pb ?hn11pb
        case hy11pb => (intro w hSw; (try dsimp only at hSw); go_simp; try with_reducible rfl)
        try simp only [Act.put, List.setIfInBounds_toArray, List.set_cons_zero, List.set_cons_succ]
        refine hTake (i := 12) (v := ?v12pb) (some 52) rfl rfl (by kernel_rfl) (by kernel_rfl) (by kernel_rfl) (fun _ _ _ h => h) (by rfl) (by assumption) ?hy12pb ?hn12pb
        case hy12pb => (intro w hSw; (try dsimp only at hSw); go_simp; try with_reducible rfl)
        try simp only [Act.put, List.setIfInBounds_toArray, List.set_cons_zero, List.set_cons_succ]
        refine hTake (i := 13) (v := ?v13pb) (some 53) rfl rfl (by kernel_rfl) (by kernel_rfl) (by kernel_rfl) (fun _ _ _ h => h) (by rfl) (by assumption) ?hy13pb ?hn13pb
        case hy13pb => (intro w hSw; (try dsimp only at hSw); go_simp; try with_reducible rfl)
        try simp only [Act.put, List.setIfInBounds_toArray, List.set_cons_zero, List.set_cons_succ]
        refine wpAnyH_done (by kernel_rfl) ?_ _
        go_wp2
        go_roundw
        case rel => exact ⟨k + 1, m, by omega, hm, by simp, rfl, hide ⟨HK2.out, HRR.out⟩⟩
        case measure => simp [intOf]; omega
      · have HNE : Hid (¬ prevK l k = some x1.toList) := hide (by rw [hpv]; intro e; exact hyx (Option.some.inj e))
        have hqb : (y1.toList == x1.toList) = false := by simpa using hyx
        clear hp hpv hki hk0 hyx
        go_wp2_with fail
        refine wp_region_held_drew (S := (fun W : World => W.cell? ⟨w.heap.size, 0, none⟩ = some (.slice (some ⟨b, off, none⟩) len cap) ∧ W.cell? ⟨wr.heap.size, 0, none⟩ = some (.string x1) ∧ W.cell? ⟨b, off + i * 4, none⟩ = some (.string y1))) (by kernel_rfl) ?hSpc (fun hHeld => ?_)
        case hSpc => exact HS.out
        refine hTake (i := 0) (v := ?v0pc) (some 40) rfl rfl (by kernel_rfl) (by kernel_rfl) (by kernel_rfl) (fun _ _ _ h => h) (by rfl) (by assumption) ?hy0pc ?hn0pc
        case hy0pc => (intro w hSw; (try dsimp only at hSw); go_simp; try with_reducible rfl)
        try simp only [Act.put, List.setIfInBounds_toArray, List.set_cons_zero, List.set_cons_succ]
        refine hTake (i := 1) (v := ?v1pc) (some 41) rfl rfl (by kernel_rfl) (by kernel_rfl) (by kernel_rfl) (fun _ _ _ h => h) (by rfl) (by assumption) ?hy1pc ?hn1pc
        case hy1pc => (intro w hSw; (try dsimp only at hSw); go_simp; try with_reducible rfl)
        try simp only [Act.put, List.setIfInBounds_toArray, List.set_cons_zero, List.set_cons_succ]
        refine hTake (i := 2) (v := ?v2pc) (some 42) rfl rfl (by kernel_rfl) (by kernel_rfl) (by kernel_rfl) (fun _ _ _ h => h) (by rfl) (by assumption) ?hy2pc ?hn2pc
        case hy2pc => (intro w hSw; (try dsimp only at hSw); go_simp; try with_reducible rfl)
        try simp only [Act.put, List.setIfInBounds_toArray, List.set_cons_zero, List.set_cons_succ]
        refine hTake (i := 3) (v := ?v3pc) (some 43) rfl rfl (by kernel_rfl) (by kernel_rfl) (by kernel_rfl) (fun _ _ _ h => h) (by rfl) (by assumption) ?hy3pc ?hn3pc
        case hy3pc => (intro w hSw; (try dsimp only at hSw); go_simp; try with_reducible rfl)
        try simp only [Act.put, List.setIfInBounds_toArray, List.set_cons_zero, List.set_cons_succ]
        refine hTake (i := 4) (v := ?v4pc) (some 44) rfl rfl (by kernel_rfl) (by kernel_rfl) (by kernel_rfl) (fun _ _ _ h => h) (by rfl) (by assumption) ?hy4pc ?hn4pc
        case hy4pc => (intro w hSw; (try dsimp only at hSw); go_simp; try with_reducible rfl)
        try simp only [Act.put, List.setIfInBounds_toArray, List.set_cons_zero, List.set_cons_succ]
        refine hTake (i := 5) (v := ?v5pc) (some 45) rfl rfl (by kernel_rfl) (by kernel_rfl) (by kernel_rfl) (fun _ _ _ h => h) (by rfl) (by assumption) ?hy5pc ?hn5pc
        case hy5pc => (intro w hSw; (try dsimp only at hSw); go_simp; try with_reducible rfl)
        try simp only [Act.put, List.setIfInBounds_toArray, List.set_cons_zero, List.set_cons_succ]
        refine hTake (i := 6) (v := ?v6pc) (some 46) rfl rfl (by kernel_rfl) (by kernel_rfl) (by kernel_rfl) (fun _ _ _ h => h) (by rfl) (by assumption) ?hy6pc ?hn6pc
        case hy6pc => (intro w hSw; (try dsimp only at hSw); go_simp; try with_reducible rfl)
        try simp only [Act.put, List.setIfInBounds_toArray, List.set_cons_zero, List.set_cons_succ]
        refine hTake (i := 7) (v := ?v7pc) (some 47) rfl rfl (by kernel_rfl) (by kernel_rfl) (by kernel_rfl) (fun _ _ _ h => h) (by rfl) (by assumption) ?hy7pc ?hn7pc
        case hy7pc => (intro w hSw; (try dsimp only at hSw); go_simp; try with_reducible rfl)
        try simp only [Act.put, List.setIfInBounds_toArray, List.set_cons_zero, List.set_cons_succ]
        refine hTake (i := 8) (v := ?v8pc) (some 48) rfl rfl (by kernel_rfl) (by kernel_rfl) (by kernel_rfl) (fun _ _ _ h => h) (by rfl) (by assumption) ?hy8pc ?hn8pc
        case hy8pc => (intro w hSw; (try dsimp only at hSw); go_simp; try with_reducible rfl)
        try simp only [Act.put, List.setIfInBounds_toArray, List.set_cons_zero, List.set_cons_succ]
        refine hTake (i := 9) (v := ?v9pc) (some 49) rfl rfl (by kernel_rfl) (by kernel_rfl) (by kernel_rfl) (fun _ _ _ h => h) (by rfl) (by assumption) ?hy9pc ?hn9pc
        case hy9pc => (intro w hSw; (try dsimp only at hSw); go_simp; try with_reducible rfl)
        try simp only [Act.put, List.setIfInBounds_toArray, List.set_cons_zero, List.set_cons_succ]
        refine hTake (i := 10) (v := ?v10pc) (some 50) rfl rfl (by kernel_rfl) (by kernel_rfl) (by kernel_rfl) (fun _ _ _ h => h) (by rfl) (by assumption) ?hy10pc ?hn10pc
        case hy10pc => (intro w hSw; (try dsimp only at hSw); go_simp; try with_reducible rfl)
        try simp only [Act.put, List.setIfInBounds_toArray, List.set_cons_zero, List.set_cons_succ]
        refine hTake (i := 11) (v := ?v11pc) (some 51) rfl rfl (by kernel_rfl) (by kernel_rfl) (by kernel_rfl) (fun _ _ _ h => h) (by rfl) (by assumption) ?hy11pc ?hn11pc
        case hy11pc => (intro w hSw; (try dsimp only at hSw); go_simp; try with_reducible rfl)
        try simp only [Act.put, List.setIfInBounds_toArray, List.set_cons_zero, List.set_cons_succ]
        refine hTake (i := 12) (v := ?v12pc) (some 52) rfl rfl (by kernel_rfl) (by kernel_rfl) (by kernel_rfl) (fun _ _ _ h => h) (by rfl) (by assumption) ?hy12pc ?hn12pc
        case hy12pc => (intro w hSw; (try dsimp only at hSw); go_simp; try with_reducible rfl)
        try simp only [Act.put, List.setIfInBounds_toArray, List.set_cons_zero, List.set_cons_succ]
        refine hTake (i := 13) (v := ?v13pc) (some 53) rfl rfl (by kernel_rfl) (by kernel_rfl) (by kernel_rfl) (fun _ _ _ h => h) (by rfl) (by assumption) ?hy13pc ?hn13pc
        case hy13pc => (intro w hSw; (try dsimp only at hSw); go_simp; try with_reducible rfl)
        try simp only [Act.put, List.setIfInBounds_toArray, List.set_cons_zero, List.set_cons_succ]
        refine wpAnyH_done (by kernel_rfl) ?_ _
        have HNXT : Hid (R.drop m = (item l fr to t ⟨x1, x2, x3, x4⟩).toList ++ scanF l fr to t (prevK l (k + 1)) (l.drop (k + 1))) := hide (by
          have h := HST.out
          rw [if_neg HNE.out] at h
          exact HI.out.2.trans h)
        have HGA := hide (get_any (some ⟨b, off, none⟩) len cap low t x1 l _ (HVr.out.below HBN.out))
        rw [HGX.out] at HGA
        unfold item at HNXT
        dsimp only at HNXT HGA
        generalize seenR (lastTo (l.filter (sameK x1)) t) = sr at *
        obtain ⟨sv, sb⟩ := sr
        dsimp only at HNXT HGA
        clear HST HGX HPV HP0 HPR HGT
        go_wp2_with fail
        refine HGA.out.mono ?_
        rintro e w5 ⟨rfl, hb5⟩
        have HK5 := hide (HK2.out.trans (hb5.mono (Nat.le_trans HI.out.1.size HBN.out.size)))
        have HX5 : Hid (w5.cell? ⟨wr.heap.size, 0, none⟩ = some (.string x1)) := hide ((World.cell?_of_block (hb5.block _ (by simp [World.drew]))).trans HX0.out)
        have hx5 := HX5.out
        clear hb5 HGA
        cases sb
        · have HRR : Hid (R.drop m = scanF l fr to t (prevK l (k + 1)) (l.drop (k + 1))) := hide (by rw [HNXT.out]; simp)
          clear HNXT
          go_wp2
          go_roundw
          case rel => exact ⟨k + 1, m, by omega, hm, by simp, rfl, hide ⟨HK5.out, HRR.out⟩⟩
          case measure => simp [intOf]; omega
        · have HS0 : Hid (inSpan fr to x1 = (!Op.bytesLess x1.toList fr.toList && (to.toList.isEmpty || Op.bytesLess x1.toList to.toList))) := hide rfl
          cases hf : Op.bytesLess x1.toList fr.toList
          · by_cases hte : to.toList = []
            · have HSP : Hid (inSpan fr to x1 = true) := hide (by rw [HS0.out, hf, hte]; rfl)
              have hte2 : (to.toList == ([] : List UInt8)) = true := by simpa using hte
              have HD : Hid (R.drop m = ⟨x1, sv⟩ :: scanF l fr to t (prevK l (k + 1)) (l.drop (k + 1))) := hide (by rw [HNXT.out, if_pos ⟨rfl, HSP.out⟩]; rfl)
              have hmr : m < rn := by
                have h := congrArg List.length HD.out
                rw [List.length_drop, HRL.out] at h
                simp at h
                omega
              have HRG : Hid (R.getD m Pr0 = ⟨x1, sv⟩ ∧ R.drop (m + 1) = scanF l fr to t (prevK l (k + 1)) (l.drop (k + 1))) := hide (by
                have h := HD.out
                have hml : m < R.length := by rw [HRL.out]; exact hmr
                rw [List.drop_eq_getElem_cons hml] at h
                injection h with h1 h2
                exact ⟨by rw [List.getD_eq_getElem?_getD, List.getElem?_eq_getElem hml, ← h1]; rfl, h2⟩)
              obtain ⟨pb, po, rfl, hpb, p0, p1⟩ := (HP2.out.below HK5.out).2.2.2 m hmr
              rw [HRG.out.1] at p0 p1
              dsimp only at p0 p1
              have HS5 : Hid (w5.drew.cell? ⟨pb, po + m * 2, none⟩ = some (.string x1) ∧ w5.drew.cell? ⟨pb, po + m * 2 + 1, none⟩ = some (.string sv) ∧ w5.drew.cell? ⟨wr.heap.size, 0, none⟩ = some (.string x1)) := hide ⟨p0, p1, HX5.out⟩
              have heq : eqP ⟨x1, sv⟩ ⟨x1, sv⟩ = true := (eqP_iff _ _).2 rfl
              have hwm : IntKind.i64.wrap ((m : Int) + 1) = (m : Int) + 1 := wr64' (by omega) (by omega)
              have hmI : (m : Int) < (rn : Int) := by omega
              have hmI2 : ¬ (rn : Int) ≤ (m : Int) := by omega
              have hmD : decide ((rn : Int) ≤ (m : Int)) = false := decide_eq_false hmI2
              have hmN : decide (rn ≤ m) = false := decide_eq_false (by omega)
              have hm0 : (0 : Int) ≤ (m : Int) := by omega
              have HK6 := hide HK5.out.drew
              clear p0 p1 HNXT HD hpb
              go_wp2_with fail
              refine wp_region_held_drew (S := (fun W : World => W.cell? ⟨pb, po + m * 2, none⟩ = some (.string x1) ∧ W.cell? ⟨pb, po + m * 2 + 1, none⟩ = some (.string sv) ∧ W.cell? ⟨wr.heap.size, 0, none⟩ = some (.string x1))) (by kernel_rfl) ?hSqcx (fun hHeld => ?_)
              case hSqcx => exact HS5.out
              refine hTake (i := 0) (v := ?v0qcx) (some 83) rfl rfl (by kernel_rfl) (by kernel_rfl) (by kernel_rfl) (fun _ _ _ h => h) (by rfl) (by assumption) ?hy0qcx ?hn0qcx
              case hy0qcx => (intro w hSw; (try dsimp only at hSw); go_simp; try with_reducible rfl)
              try simp only [Act.put, List.setIfInBounds_toArray, List.set_cons_zero, List.set_cons_succ]
              refine hTake (i := 1) (v := ?v1qcx) (some 84) rfl rfl (by kernel_rfl) (by kernel_rfl) (by kernel_rfl) (fun _ _ _ h => h) (by rfl) (by assumption) ?hy1qcx ?hn1qcx
              case hy1qcx => (intro w hSw; (try dsimp only at hSw); go_simp; try with_reducible rfl)
              try simp only [Act.put, List.setIfInBounds_toArray, List.set_cons_zero, List.set_cons_succ]
              refine hTake (i := 2) (v := ?v2qcx) (some 85) rfl rfl (by kernel_rfl) (by kernel_rfl) (by kernel_rfl) (fun _ _ _ h => h) (by rfl) (by assumption) ?hy2qcx ?hn2qcx
              case hy2qcx => (intro w hSw; (try dsimp only at hSw); go_simp; try with_reducible rfl)
              try simp only [Act.put, List.setIfInBounds_toArray, List.set_cons_zero, List.set_cons_succ]
              refine hTake (i := 3) (v := ?v3qcx) (some 86) rfl rfl (by kernel_rfl) (by kernel_rfl) (by kernel_rfl) (fun _ _ _ h => h) (by rfl) (by assumption) ?hy3qcx ?hn3qcx
              case hy3qcx => (intro w hSw; (try dsimp only at hSw); go_simp; try with_reducible rfl)
              try simp only [Act.put, List.setIfInBounds_toArray, List.set_cons_zero, List.set_cons_succ]
              refine hTake (i := 4) (v := ?v4qcx) (some 87) rfl rfl (by kernel_rfl) (by kernel_rfl) (by kernel_rfl) (fun _ _ _ h => h) (by rfl) (by assumption) ?hy4qcx ?hn4qcx
              case hy4qcx => (intro w hSw; (try dsimp only at hSw); go_simp; try with_reducible rfl)
              try simp only [Act.put, List.setIfInBounds_toArray, List.set_cons_zero, List.set_cons_succ]
              refine hTake (i := 5) (v := ?v5qcx) (some 88) rfl rfl (by kernel_rfl) (by kernel_rfl) (by kernel_rfl) (fun _ _ _ h => h) (by rfl) (by assumption) ?hy5qcx ?hn5qcx
              case hy5qcx => (intro w hSw; (try dsimp only at hSw); go_simp; try with_reducible rfl)
              try simp only [Act.put, List.setIfInBounds_toArray, List.set_cons_zero, List.set_cons_succ]
              refine hTake (i := 6) (v := ?v6qcx) (some 89) rfl rfl (by kernel_rfl) (by kernel_rfl) (by kernel_rfl) (fun _ _ _ h => h) (by rfl) (by assumption) ?hy6qcx ?hn6qcx
              case hy6qcx => (intro w hSw; (try dsimp only at hSw); go_simp; try with_reducible rfl)
              try simp only [Act.put, List.setIfInBounds_toArray, List.set_cons_zero, List.set_cons_succ]
              refine hTake (i := 7) (v := ?v7qcx) (some 90) rfl rfl (by kernel_rfl) (by kernel_rfl) (by kernel_rfl) (fun _ _ _ h => h) (by rfl) (by assumption) ?hy7qcx ?hn7qcx
              case hy7qcx => (intro w hSw; (try dsimp only at hSw); go_simp; try with_reducible rfl)
              try simp only [Act.put, List.setIfInBounds_toArray, List.set_cons_zero, List.set_cons_succ]
              refine hTake (i := 8) (v := ?v8qcx) (some 91) rfl rfl (by kernel_rfl) (by kernel_rfl) (by kernel_rfl) (fun _ _ _ h => h) (by rfl) (by assumption) ?hy8qcx ?hn8qcx
              case hy8qcx => (intro w hSw; (try dsimp only at hSw); go_simp; try with_reducible rfl)
              try simp only [Act.put, List.setIfInBounds_toArray, List.set_cons_zero, List.set_cons_succ]
              refine hTake (i := 9) (v := ?v9qcx) (some 92) rfl rfl (by kernel_rfl) (by kernel_rfl) (by kernel_rfl) (fun _ _ _ h => h) (by rfl) (by assumption) ?hy9qcx ?hn9qcx
              case hy9qcx => (intro w hSw; (try dsimp only at hSw); go_simp; try with_reducible rfl)
              try simp only [Act.put, List.setIfInBounds_toArray, List.set_cons_zero, List.set_cons_succ]
              refine hTake (i := 10) (v := ?v10qcx) (some 93) rfl rfl (by kernel_rfl) (by kernel_rfl) (by kernel_rfl) (fun _ _ _ h => h) (by rfl) (by assumption) ?hy10qcx ?hn10qcx
              case hy10qcx => (intro w hSw; (try dsimp only at hSw); go_simp; try with_reducible rfl)
              try simp only [Act.put, List.setIfInBounds_toArray, List.set_cons_zero, List.set_cons_succ]
              refine hTake (i := 11) (v := ?v11qcx) (some 94) rfl rfl (by kernel_rfl) (by kernel_rfl) (by kernel_rfl) (fun _ _ _ h => h) (by rfl) (by assumption) ?hy11qcx ?hn11qcx
              case hy11qcx => (intro w hSw; (try dsimp only at hSw); go_simp; try with_reducible rfl)
              try simp only [Act.put, List.setIfInBounds_toArray, List.set_cons_zero, List.set_cons_succ]
              refine hTake (i := 12) (v := ?v12qcx) (some 95) rfl rfl (by kernel_rfl) (by kernel_rfl) (by kernel_rfl) (fun _ _ _ h => h) (by rfl) (by assumption) ?hy12qcx ?hn12qcx
              case hy12qcx => (intro w hSw; (try dsimp only at hSw); go_simp; try with_reducible rfl)
              try simp only [Act.put, List.setIfInBounds_toArray, List.set_cons_zero, List.set_cons_succ]
              refine hTake (i := 13) (v := ?v13qcx) (some 96) rfl rfl (by kernel_rfl) (by kernel_rfl) (by kernel_rfl) (fun _ _ _ h => h) (by rfl) (by assumption) ?hy13qcx ?hn13qcx
              case hy13qcx => (intro w hSw; (try dsimp only at hSw); go_simp; try with_reducible rfl)
              try simp only [Act.put, List.setIfInBounds_toArray, List.set_cons_zero, List.set_cons_succ]
              refine hTake (i := 14) (v := ?v14qcx) (some 97) rfl rfl (by kernel_rfl) (by kernel_rfl) (by kernel_rfl) (fun _ _ _ h => h) (by rfl) (by assumption) ?hy14qcx ?hn14qcx
              case hy14qcx => (intro w hSw; (try dsimp only at hSw); go_simp; try with_reducible rfl)
              try simp only [Act.put, List.setIfInBounds_toArray, List.set_cons_zero, List.set_cons_succ]
              refine wpAnyH_done (by kernel_rfl) ?_ _
              go_wp2
              go_roundw
              case rel => exact ⟨k + 1, m + 1, by omega, by omega, by simp, by simp, hide ⟨HK6.out, HRG.out.2⟩⟩
              case measure => simp [intOf]; omega
            · have hte2 : (to.toList == ([] : List UInt8)) = false := by simpa using hte
              have hte3 : to.toList.isEmpty = false := by simpa using hte
              cases hl : Op.bytesLess x1.toList to.toList
              · have HSP : Hid (inSpan fr to x1 = false) := hide (by rw [HS0.out, hf, hte3, hl]; rfl)
                have HRR : Hid (R.drop m = scanF l fr to t (prevK l (k + 1)) (l.drop (k + 1))) := hide (by rw [HNXT.out, if_neg (fun h => by have h2 := h.2; rw [HSP.out] at h2; cases h2)]; rfl)
                clear HNXT
                go_wp2
                go_roundw
                case rel => exact ⟨k + 1, m, by omega, hm, by simp, rfl, hide ⟨HK5.out, HRR.out⟩⟩
                case measure => simp [intOf]; omega
              · have HSP : Hid (inSpan fr to x1 = true) := hide (by rw [HS0.out, hf, hte3, hl]; rfl)
                have HD : Hid (R.drop m = ⟨x1, sv⟩ :: scanF l fr to t (prevK l (k + 1)) (l.drop (k + 1))) := hide (by rw [HNXT.out, if_pos ⟨rfl, HSP.out⟩]; rfl)
                have hmr : m < rn := by
                  have h := congrArg List.length HD.out
                  rw [List.length_drop, HRL.out] at h
                  simp at h
                  omega
                have HRG : Hid (R.getD m Pr0 = ⟨x1, sv⟩ ∧ R.drop (m + 1) = scanF l fr to t (prevK l (k + 1)) (l.drop (k + 1))) := hide (by
                  have h := HD.out
                  have hml : m < R.length := by rw [HRL.out]; exact hmr
                  rw [List.drop_eq_getElem_cons hml] at h
                  injection h with h1 h2
                  exact ⟨by rw [List.getD_eq_getElem?_getD, List.getElem?_eq_getElem hml, ← h1]; rfl, h2⟩)
                obtain ⟨pb, po, rfl, hpb, p0, p1⟩ := (HP2.out.below HK5.out).2.2.2 m hmr
                rw [HRG.out.1] at p0 p1
                dsimp only at p0 p1
                have HS5 : Hid (w5.drew.cell? ⟨pb, po + m * 2, none⟩ = some (.string x1) ∧ w5.drew.cell? ⟨pb, po + m * 2 + 1, none⟩ = some (.string sv) ∧ w5.drew.cell? ⟨wr.heap.size, 0, none⟩ = some (.string x1)) := hide ⟨p0, p1, HX5.out⟩
                have heq : eqP ⟨x1, sv⟩ ⟨x1, sv⟩ = true := (eqP_iff _ _).2 rfl
                have hwm : IntKind.i64.wrap ((m : Int) + 1) = (m : Int) + 1 := wr64' (by omega) (by omega)
                have hmI : (m : Int) < (rn : Int) := by omega
                have hmI2 : ¬ (rn : Int) ≤ (m : Int) := by omega
                have hmD : decide ((rn : Int) ≤ (m : Int)) = false := decide_eq_false hmI2
                have hmN : decide (rn ≤ m) = false := decide_eq_false (by omega)
                have hm0 : (0 : Int) ≤ (m : Int) := by omega
                have HK6 := hide HK5.out.drew
                clear p0 p1 HNXT HD hpb
                go_wp2_with fail
                refine wp_region_held_drew (S := (fun W : World => W.cell? ⟨pb, po + m * 2, none⟩ = some (.string x1) ∧ W.cell? ⟨pb, po + m * 2 + 1, none⟩ = some (.string sv) ∧ W.cell? ⟨wr.heap.size, 0, none⟩ = some (.string x1))) (by kernel_rfl) ?hSqcy (fun hHeld => ?_)
                case hSqcy => exact HS5.out
                refine hTake (i := 0) (v := ?v0qcy) (some 83) rfl rfl (by kernel_rfl) (by kernel_rfl) (by kernel_rfl) (fun _ _ _ h => h) (by rfl) (by assumption) ?hy0qcy ?hn0qcy
                case hy0qcy => (intro w hSw; (try dsimp only at hSw); go_simp; try with_reducible rfl)
                try simp only [Act.put, List.setIfInBounds_toArray, List.set_cons_zero, List.set_cons_succ]
                refine hTake (i := 1) (v := ?v1qcy) (some 84) rfl rfl (by kernel_rfl) (by kernel_rfl) (by kernel_rfl) (fun _ _ _ h => h) (by rfl) (by assumption) ?hy1qcy ?hn1qcy
                case hy1qcy => (intro w hSw; (try dsimp only at hSw); go_simp; try with_reducible rfl)
                try simp only [Act.put, List.setIfInBounds_toArray, List.set_cons_zero, List.set_cons_succ]
                refine hTake (i := 2) (v := ?v2qcy) (some 85) rfl rfl (by kernel_rfl) (by kernel_rfl) (by kernel_rfl) (fun _ _ _ h => h) (by rfl) (by assumption) ?hy2qcy ?hn2qcy
                case hy2qcy => (intro w hSw; (try dsimp only at hSw); go_simp; try with_reducible rfl)
                try simp only [Act.put, List.setIfInBounds_toArray, List.set_cons_zero, List.set_cons_succ]
                refine hTake (i := 3) (v := ?v3qcy) (some 86) rfl rfl (by kernel_rfl) (by kernel_rfl) (by kernel_rfl) (fun _ _ _ h => h) (by rfl) (by assumption) ?hy3qcy ?hn3qcy
                case hy3qcy => (intro w hSw; (try dsimp only at hSw); go_simp; try with_reducible rfl)
                try simp only [Act.put, List.setIfInBounds_toArray, List.set_cons_zero, List.set_cons_succ]
                refine hTake (i := 4) (v := ?v4qcy) (some 87) rfl rfl (by kernel_rfl) (by kernel_rfl) (by kernel_rfl) (fun _ _ _ h => h) (by rfl) (by assumption) ?hy4qcy ?hn4qcy
                case hy4qcy => (intro w hSw; (try dsimp only at hSw); go_simp; try with_reducible rfl)
                try simp only [Act.put, List.setIfInBounds_toArray, List.set_cons_zero, List.set_cons_succ]
                refine hTake (i := 5) (v := ?v5qcy) (some 88) rfl rfl (by kernel_rfl) (by kernel_rfl) (by kernel_rfl) (fun _ _ _ h => h) (by rfl) (by assumption) ?hy5qcy ?hn5qcy
                case hy5qcy => (intro w hSw; (try dsimp only at hSw); go_simp; try with_reducible rfl)
                try simp only [Act.put, List.setIfInBounds_toArray, List.set_cons_zero, List.set_cons_succ]
                refine hTake (i := 6) (v := ?v6qcy) (some 89) rfl rfl (by kernel_rfl) (by kernel_rfl) (by kernel_rfl) (fun _ _ _ h => h) (by rfl) (by assumption) ?hy6qcy ?hn6qcy
                case hy6qcy => (intro w hSw; (try dsimp only at hSw); go_simp; try with_reducible rfl)
                try simp only [Act.put, List.setIfInBounds_toArray, List.set_cons_zero, List.set_cons_succ]
                refine hTake (i := 7) (v := ?v7qcy) (some 90) rfl rfl (by kernel_rfl) (by kernel_rfl) (by kernel_rfl) (fun _ _ _ h => h) (by rfl) (by assumption) ?hy7qcy ?hn7qcy
                case hy7qcy => (intro w hSw; (try dsimp only at hSw); go_simp; try with_reducible rfl)
                try simp only [Act.put, List.setIfInBounds_toArray, List.set_cons_zero, List.set_cons_succ]
                refine hTake (i := 8) (v := ?v8qcy) (some 91) rfl rfl (by kernel_rfl) (by kernel_rfl) (by kernel_rfl) (fun _ _ _ h => h) (by rfl) (by assumption) ?hy8qcy ?hn8qcy
                case hy8qcy => (intro w hSw; (try dsimp only at hSw); go_simp; try with_reducible rfl)
                try simp only [Act.put, List.setIfInBounds_toArray, List.set_cons_zero, List.set_cons_succ]
                refine hTake (i := 9) (v := ?v9qcy) (some 92) rfl rfl (by kernel_rfl) (by kernel_rfl) (by kernel_rfl) (fun _ _ _ h => h) (by rfl) (by assumption) ?hy9qcy ?hn9qcy
                case hy9qcy => (intro w hSw; (try dsimp only at hSw); go_simp; try with_reducible rfl)
                try simp only [Act.put, List.setIfInBounds_toArray, List.set_cons_zero, List.set_cons_succ]
                refine hTake (i := 10) (v := ?v10qcy) (some 93) rfl rfl (by kernel_rfl) (by kernel_rfl) (by kernel_rfl) (fun _ _ _ h => h) (by rfl) (by assumption) ?hy10qcy ?hn10qcy
                case hy10qcy => (intro w hSw; (try dsimp only at hSw); go_simp; try with_reducible rfl)
                try simp only [Act.put, List.setIfInBounds_toArray, List.set_cons_zero, List.set_cons_succ]
                refine hTake (i := 11) (v := ?v11qcy) (some 94) rfl rfl (by kernel_rfl) (by kernel_rfl) (by kernel_rfl) (fun _ _ _ h => h) (by rfl) (by assumption) ?hy11qcy ?hn11qcy
                case hy11qcy => (intro w hSw; (try dsimp only at hSw); go_simp; try with_reducible rfl)
                try simp only [Act.put, List.setIfInBounds_toArray, List.set_cons_zero, List.set_cons_succ]
                refine hTake (i := 12) (v := ?v12qcy) (some 95) rfl rfl (by kernel_rfl) (by kernel_rfl) (by kernel_rfl) (fun _ _ _ h => h) (by rfl) (by assumption) ?hy12qcy ?hn12qcy
                case hy12qcy => (intro w hSw; (try dsimp only at hSw); go_simp; try with_reducible rfl)
                try simp only [Act.put, List.setIfInBounds_toArray, List.set_cons_zero, List.set_cons_succ]
                refine hTake (i := 13) (v := ?v13qcy) (some 96) rfl rfl (by kernel_rfl) (by kernel_rfl) (by kernel_rfl) (fun _ _ _ h => h) (by rfl) (by assumption) ?hy13qcy ?hn13qcy
                case hy13qcy => (intro w hSw; (try dsimp only at hSw); go_simp; try with_reducible rfl)
                try simp only [Act.put, List.setIfInBounds_toArray, List.set_cons_zero, List.set_cons_succ]
                refine hTake (i := 14) (v := ?v14qcy) (some 97) rfl rfl (by kernel_rfl) (by kernel_rfl) (by kernel_rfl) (fun _ _ _ h => h) (by rfl) (by assumption) ?hy14qcy ?hn14qcy
                case hy14qcy => (intro w hSw; (try dsimp only at hSw); go_simp; try with_reducible rfl)
                try simp only [Act.put, List.setIfInBounds_toArray, List.set_cons_zero, List.set_cons_succ]
                refine wpAnyH_done (by kernel_rfl) ?_ _
                go_wp2
                go_roundw
                case rel => exact ⟨k + 1, m + 1, by omega, by omega, by simp, by simp, hide ⟨HK6.out, HRG.out.2⟩⟩
                case measure => simp [intOf]; omega
          · have HSP : Hid (inSpan fr to x1 = false) := hide (by rw [HS0.out, hf]; rfl)
            have HRR : Hid (R.drop m = scanF l fr to t (prevK l (k + 1)) (l.drop (k + 1))) := hide (by rw [HNXT.out, if_neg (fun h => by have h2 := h.2; rw [HSP.out] at h2; cases h2)]; rfl)
            clear HNXT
            go_wp2
            go_roundw
            case rel => exact ⟨k + 1, m, by omega, hm, by simp, rfl, hide ⟨HK5.out, HRR.out⟩⟩
            case measure => simp [intOf]; omega
end Go.Proofs.Ytpgdmkjfgmiacaa
