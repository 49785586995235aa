/- TopKept, walked -/
import Derived.Test.YtipeegjbfieknaaDoorTA
import Derived.Lib.SlBytesConst
namespace Go.Proofs.YtipeegjbfieknaaDoor
open Go.RowKit Cod
/-- no block is set apart -/
def X0 : Nat → Prop := fun _ => False
theorem wr64k {x : Int} (h1 : -9223372036854775808 ≤ x) (h2 : x ≤ 9223372036854775807) : IntKind.i64.wrap x = x := by
  rw [IntKind.wrap_i64]; omega
set_option maxRecDepth 40000 in
set_option maxHeartbeats 8000000 in
theorem keptWalk (a : Option Addr) (len cap : Nat) (zs : List Int) (at_ : Int) (af : Option Addr) (lf cf : Nat) (fs : List (Nat × Nat)) (w : World) (hP : Mn.POW w) (hZ : Mn.IsI w a len cap zs) (hat : Mn.In64 at_) (hF : IsF w af lf cf fs) (hbig : len ≤ 1048576) :
    Calls Tryd.prog 3 #[.slice a len cap, .int .i64 at_, .slice af lf cf] w fun e w' => e = .returned (.bool true) ∧ Below w.heap.size w w' := by
  have HZ := hide hZ
  have HF := hide hF
  have HP := hide hP
  have HAT := hide hat
  have HLN := hide hZ.1
  have hcap := hZ.2.1
  have hcm : cap ≤ 9223372036854775807 := hZ.2.2.1
  clear hZ hF hP hat
  go_enter Tryd.func3, Tryd.ntmps3
  go_wp2_with fail
  refine (begins_any w HP.out).mono ?_
  rintro e w1 ⟨rfl, hb1⟩
  have HB1 := hide hb1
  clear hb1
  go_wp2
  go_loopw [7, 26] (fun v7 v26 wr => ∃ (k : Nat) (a7 : Option Addr) (n7 c7 : Nat), k ≤ len ∧ v26 = .int .i64 (k : Nat) ∧ v7 = .slice a7 n7 c7 ∧ Hid (Below w.heap.size w wr ∧ IsB wr a7 n7 c7 (encL (zs.take k)))) (fun _ v26 _ => len - (intOf v26).toNat)
  case atStart => exact ⟨0, none, 0, 0, Nat.zero_le _, rfl, rfl, hide ⟨HB1.out, isB_nil _⟩⟩
  case round =>
    obtain ⟨k, a7, n7, c7, hk, rfl, rfl, HI⟩ := hrel
    have HIZ : Hid (∀ z ∈ zs, Mn.In64 z) := hide HZ.out.2.2.2.1
    have HN7 : Hid (n7 ≤ 31 * k) := hide (by
      have h1 := HI.out.2.1
      have h2 := encL_len (zs.take k) (fun z hz => HIZ.out z (List.mem_of_mem_take hz))
      rw [h1, List.length_take] at h2
      have : min k zs.length ≤ k := Nat.min_le_left _ _
      omega)
    by_cases hlt : k < len
    · have HZr := hide (HZ.out.below HI.out.1)
      obtain ⟨b, off, ea, hbs, hc⟩ : ∃ b off, a = some ⟨b, off, none⟩ ∧ b < wr.heap.size ∧ ∀ i, i < len → wr.cell? ⟨b, off + i, none⟩ = some (.int .i64 (zs.getD i 0)) := by
        rcases HZr.out.2.2.2.2 with h | h
        · omega
        · exact h
      subst ea
      have z0 := hc k hlt
      clear hc
      have HST := hide (encL_step zs k (by rw [HLN.out]; exact hlt))
      have HIN : Hid (Mn.In64 (zs.getD k 0)) := hide (HIZ.out _ (by
        rw [List.getD_eq_getElem?_getD, List.getElem?_eq_getElem (by rw [HLN.out]; exact hlt)]
        exact List.getElem_mem _))
      generalize zs.getD k 0 = z at *
      have hw1 : IntKind.i64.wrap ((k : Int) + 1) = (k : Int) + 1 := wr64k (by omega) (by omega)
      have hi2 : (k : Int) < (len : Int) := by omega
      have hi4 : (0 : Int) ≤ (k : Int) := by omega
      have HTX := hide (Mn.text_any z HIN.out wr (Mn.POW.below HP.out HI.out.1))
      go_wp2_with fail
      refine HTX.out.mono ?_
      rintro e w2 ⟨rfl, hb2⟩
      have HB2 := hide (HI.out.1.trans (hb2.mono HI.out.1.size))
      have HBB := hide (HI.out.2.below hb2)
      clear hb2 HTX
      have HTT := hide (text_any a7 n7 c7 (amt z) _ w2 HBB.out (by have := HN7.out; have := amt_size z HIN.out; omega))
      go_wp2_with fail
      refine HTT.out.mono ?_
      rintro e w3 ⟨v, rfl, hown, hb3⟩
      obtain ⟨a8, c8, rfl, hB8⟩ := owns_isB hown (by rw [← HST.out]; exact encL_lt _)
      have HN3 : Hid (Below w.heap.size w w3 ∧ IsB w3 a8 (n7 + (num (amt z).size).length + (amt z).size) c8 (encL (zs.take (k + 1)))) := hide ⟨HB2.out.trans (hb3.mono HB2.out.size), by rw [HST.out]; exact hB8⟩
      clear hown hb3 hB8 HTT
      go_wp2
      go_roundw
      case rel => exact ⟨k + 1, a8, _, c8, by omega, by simp, rfl, HN3⟩
      case measure => simp [intOf]; omega
    obtain rfl : k = len := by omega
    have hi2 : ¬ (k : Int) < (k : Int) := by omega
    have HBL : Hid (IsB wr a7 n7 c7 (encL zs)) := hide (by have := HI.out.2; rwa [← HLN.out, List.take_length] at this)
    have HBr : Hid (Below w.heap.size w wr) := hide HI.out.1
    have HLE : Hid ((encL zs).length = n7) := hide HBL.out.1
    have hn7 : n7 ≤ 40000000 := by have := HN7.out; omega
    clear HI HN7
    have HSL := hide (seal_any a7 n7 c7 (encL zs) wr HBL.out (by omega))
    go_wp2_with fail
    refine HSL.out.mono ?_
    rintro e w3 ⟨gq, rfl, hown, hb3⟩
    obtain ⟨aq, cq, eq, hBq⟩ := owns_isB hown (by
      intro x hx
      rcases List.mem_append.1 hx with hx | hx
      · exact encL_lt _ x hx
      · exact le_lt _ x hx)
    cases eq
    have HB3 := hide (HBr.out.trans (hb3.mono HBr.out.size))
    have HQ3 := hide hBq
    have HQL : Hid ((encL zs ++ le (Crc.update 0 (encL zs))).length = n7 + 4) := hide hBq.1
    have HOK := hide (sealed_ok (encL zs) n7 HLE.out)
    have HTK := hide (sealed_take (encL zs) n7 HLE.out)
    clear hown hb3 hBq HSL HBr HBL
    obtain ⟨SL, HSLD⟩ : ∃ l, Hid (encL zs ++ le (Crc.update 0 (encL zs)) = l) := ⟨_, hide rfl⟩
    rw [HSLD.out] at HQ3 HQL HOK HTK
    by_cases hs4 : 4096 < n7 + 4
    · have hs4I : (4096 : Int) < (n7 : Int) + 4 := by omega
      go_wp2
      go_ret
      exact ⟨rfl, HB3.out⟩
    have hs4I : ¬ (4096 : Int) < (n7 : Int) + 4 := by omega
    have hs4D : decide ((4096 : Int) < (n7 : Int) + 4) = false := decide_eq_false hs4I
    have hs4N : decide (4096 < n7 + 4) = false := decide_eq_false hs4
    have HNW := hide (new_ok (X := X0) w3 8 (by decide) (by decide) (fun i h => by cases h))
    rw [show ((8 : Nat) : Int) = 8 from rfl] at HNW
    go_wp2_with fail
    refine HNW.out.mono ?_
    rintro e w4 ⟨g, gs, b, rfl, hD4, hb4, hsd⟩
    have HS4 := hide hb4
    have HD4 := hide hD4
    have HSD := hide hsd
    clear hD4 hb4 hsd HNW
    have HWR := hide (write_any (X := X0) w4 g gs b 8 st0 HD4.out at_ (some ⟨gq, 0, none⟩) (n7 + 4) (n7 + 4) SL (HQ3.out.below HS4.out) (by decide))
    by_cases hin : 0 ≤ at_ ∧ at_ < 8
    rotate_left
    · rw [w_out at_ SL hin] at HWR
      go_wp2_with fail
      refine HWR.out.mono ?_
      rintro e w5 ⟨rfl, hD5, hf5⟩
      have HB5 : Hid (Below w.heap.size w w5) := hide ((HB3.out.trans (HS4.out.mono HB3.out.size)).trans ((hf5.toBelow HS4.out.size HSD.out).mono HB3.out.size))
      clear hD5 hf5 HWR
      by_cases h0 : at_ < 0
      · go_wp2
        go_ret
        exact ⟨rfl, HB5.out⟩
      · have h7 : 7 < at_ := by omega
        go_wp2
        go_ret
        exact ⟨rfl, HB5.out⟩
    obtain ⟨i, rfl⟩ := Int.eq_ofNat_of_zero_le hin.1
    have hi8 : i < 8 := by omega
    have hs5 : SL.length ≤ 4096 := by rw [HQL.out]; omega
    rw [w_in i SL hi8 hs5] at HWR
    clear hin hs5
    obtain ⟨j, HJ⟩ : ∃ j : Nat, Hid (j = (i + 1) % 8) := ⟨_, hide rfl⟩
    have HIJ : Hid (j < 8 ∧ i ≠ j) := hide (by have := HJ.out; omega)
    have hwi : IntKind.i64.wrap ((i : Int) + 1) = (i : Int) + 1 := wr64k (by omega) (by omega)
    have hti : ((i : Int) + 1).tmod 8 = (j : Int) := by rw [Int.tmod_eq_emod_of_nonneg (by omega)]; have := HJ.out; omega
    have hwj : IntKind.i64.wrap (j : Int) = (j : Int) := wr64k (by omega) (by have := HIJ.out; omega)
    have hi8I : ((i : Int) + 1) ≤ 8 := by omega
    go_wp2_with fail
    refine HWR.out.mono ?_
    rintro e w5 ⟨rfl, hD5, hf5⟩
    have HD5 := hide hD5
    have HS5 : Hid (Below w3.heap.size w3 w5) := hide (HS4.out.trans (hf5.toBelow HS4.out.size HSD.out))
    clear hD5 hf5 HWR HD4 HS4
    have HSY := hide (sync_any (X := X0) w5 g gs b 8 _ HD5.out)
    rw [s_in i SL] at HSY
    go_wp2_with fail
    refine HSY.out.mono ?_
    rintro e w6 ⟨rfl, hD6, hf6⟩
    have HS6 : Hid (Below w3.heap.size w3 w6) := hide (HS5.out.trans (hf6.toBelow HS5.out.size HSD.out))
    have HD6 := hide hD6
    clear hD6 hf6 HSY HD5 HS5
    have hcv : (convert 25 25 (.slice (some ⟨w6.heap.size, 0, none⟩) 4 4)).run Tryd.prog (w6.alloc (.cells #[.int .u8 106, .int .u8 117, .int .u8 110, .int .u8 107] 5)) = .ok (.slice (some ⟨w6.heap.size, 0, none⟩) 4 4) (w6.alloc (.cells #[.int .u8 106, .int .u8 117, .int .u8 110, .int .u8 107] 5 (4, 5))) := Lib.run_convert_bytes_const w6 25 5 _ 4 4 Tryd.underlying25 Tryd.underlying5
    have HBJ : Hid (Below w6.heap.size w6 (w6.alloc (.cells #[.int .u8 106, .int .u8 117, .int .u8 110, .int .u8 107] 5 (4, 5)))) := hide ((Below.refl _ w6).alloc (Nat.le_refl _) _)
    have HM : Hid (IsB (w6.alloc (.cells #[.int .u8 106, .int .u8 117, .int .u8 110, .int .u8 107] 5 (4, 5))) (some ⟨w6.heap.size, 0, none⟩) 4 4 junk) := hide (isB_lit w6 junk (by decide) (by decide) (4, 5))
    have HWJ := hide (write_any (X := X0) _ g gs b 8 _ (HD6.out.below HBJ.out) (j : Int) (some ⟨w6.heap.size, 0, none⟩) 4 4 junk HM.out (by show 1 < _; decide))
    rw [w_junk i j SL HIJ.out.1] at HWJ
    have HS6b : Hid (Below w3.heap.size w3 (w6.alloc (.cells #[.int .u8 106, .int .u8 117, .int .u8 110, .int .u8 107] 5 (4, 5)))) := hide (HS6.out.trans (HBJ.out.mono HS6.out.size))
    clear HBJ HM HD6 HS6
    go_wp2_with fail
    generalize (w6.alloc (.cells #[.int .u8 106, .int .u8 117, .int .u8 110, .int .u8 107] 5 (4, 5))) = W6 at *
    refine HWJ.out.mono ?_
    rintro e w7 ⟨rfl, hD7, hf7⟩
    have HS7 : Hid (Below w3.heap.size w3 w7) := hide (HS6b.out.trans (hf7.toBelow HS6b.out.size HSD.out))
    have HCT := hide (cut_any (X := X0) w7 g gs b 8 _ hD7)
    rw [c_in i j SL] at HCT
    clear hD7 hf7 HWJ HS6b hcv
    go_wp2_with fail
    refine HCT.out.mono ?_
    rintro e w8 ⟨rfl, hD8, hf8⟩
    have HS8 : Hid (Below w3.heap.size w3 w8) := hide (HS7.out.trans (hf8.toBelow HS7.out.size HSD.out))
    have HB8 : Hid (Below w.heap.size w w8) := hide (HB3.out.trans (HS8.out.mono HB3.out.size))
    have HRS := hide (rest_any (X := X0) w8 g gs b 8 _ hD8 af lf cf fs (HF.out.below HB8.out))
    clear hD8 hf8 HCT HS7
    rcases r_in i j SL fs with (hr | hr) | hr
    · rw [hr] at HRS
      clear hr
      go_wp2_with fail
      refine HRS.out.mono ?_
      rintro e w9 ⟨rfl, hD9, hf9⟩
      have HB9 : Hid (Below w.heap.size w w9) := hide (HB8.out.trans ((hf9.toBelow HS8.out.size HSD.out).mono HB3.out.size))
      have HDN := hide (down_any (X := X0) w9 g gs b 8 _ hD9)
      rw [show (cutSt i j SL).down = true from rfl] at HDN
      clear hD9 hf9 HRS
      go_wp2_with fail
      refine HDN.out.mono ?_
      rintro e w10 ⟨rfl, rfl⟩
      clear HDN
      go_wp2
      go_ret
      exact ⟨rfl, HB9.out⟩
    · rw [hr] at HRS
      clear hr
      go_wp2_with fail
      refine HRS.out.mono ?_
      rintro e w9 ⟨rfl, hD9, hf9⟩
      have HB9 : Hid (Below w.heap.size w w9) := hide (HB8.out.trans ((hf9.toBelow HS8.out.size HSD.out).mono HB3.out.size))
      have HDN := hide (down_any (X := X0) w9 g gs b 8 _ hD9)
      rw [show (cutSt i j SL).down = true from rfl] at HDN
      clear hD9 hf9 HRS
      go_wp2_with fail
      refine HDN.out.mono ?_
      rintro e w10 ⟨rfl, rfl⟩
      clear HDN
      go_wp2
      go_ret
      exact ⟨rfl, HB9.out⟩
    rw [hr] at HRS
    clear hr
    go_wp2_with fail
    refine HRS.out.mono ?_
    rintro e w9 ⟨rfl, hD9, hf9⟩
    have HS9 : Hid (Below w3.heap.size w3 w9) := hide (HS8.out.trans (hf9.toBelow HS8.out.size HSD.out))
    have HRD := hide (read_any (X := X0) w9 g gs b 8 _ hD9 (i : Int))
    rw [(e_in i j SL fs hi8 HIJ.out.2).1, (e_in i j SL fs hi8 HIJ.out.2).2] at HRD
    clear hD9 hf9 HRS HS8 HB8
    go_wp2_with fail
    refine HRD.out.mono ?_
    rintro e w10 ⟨aS, lS, cS, rfl, hBs, hb10⟩
    have HB10 : Hid (Below w.heap.size w w10) := hide ((HB3.out.trans (HS9.out.mono HB3.out.size)).trans (hb10.mono (Nat.le_trans HB3.out.size HS9.out.size)))
    have hls : lS = 4096 := by rw [← hBs.1]; exact full_len SL (by rw [HQL.out]; omega)
    subst hls
    obtain ⟨bs, os, eas⟩ : ∃ b off, aS = some ⟨b, off, none⟩ := by
      rcases hBs.2.2.2.2 with h | ⟨b, off, h, _⟩
      · exact absurd h.1 (by decide)
      · exact ⟨b, off, h⟩
    subst eas
    have HBT : Hid (IsB w10 (some ⟨bs, os, none⟩) (n7 + 4) cS SL) := hide (by
      have := hBs.front (n7 + 4) (by omega)
      rwa [← HQL.out, full_take SL, HQL.out] at this)
    have hcs : 4096 ≤ cS := hBs.2.1
    have hcsm : cS ≤ 9223372036854775807 := hBs.2.2.1
    clear hBs hb10 HRD HS9
    have HOP := hide (open_any bs os (n7 + 4) cS SL w10 HBT.out (by omega) (by omega))
    have hq1 : ¬ (4096 : Int) < (n7 : Int) + 4 := by omega
    have hq2 : (n7 : Int) + 4 ≤ (cS : Int) := by omega
    have hq3 : n7 + 4 ≤ cS := by omega
    go_wp2_with fail
    refine HOP.out.mono ?_
    rintro e w11 ⟨h11, hb11⟩
    obtain ⟨v11, rfl, hown⟩ : ∃ v, e = .returned (.tuple #[v, .int .i64 0]) ∧ w11.ownsRow w10.heap.size 5 1 v (n7 + 4 - 4) (bv (SL.take (n7 + 4 - 4))) := by
      rcases h11 with ⟨_, h⟩ | ⟨h, _⟩
      · exact h
      · exact absurd HOK.out h
    rw [HTK.out, Nat.add_sub_cancel] at hown
    obtain ⟨a11, c11, rfl, hB11⟩ := owns_isB hown (encL_lt _)
    have HB11 : Hid (Below w.heap.size w w11 ∧ IsB w11 a11 n7 c11 (encL (zs.drop 0))) := hide ⟨HB10.out.trans (hb11.mono HB10.out.size), hB11⟩
    clear h11 hown hB11 hb11 HOP HBT HB10
    have HIZ2 : Hid (∀ z ∈ zs, Mn.In64 z) := hide HIZ.out
    go_wp2
    generalize wr = wq at *
    go_loopw [14, 99] (fun v14 v99 wr => ∃ (m : Nat) (a9 : Option Addr) (n9 c9 : Nat), m ≤ k ∧ v99 = .int .i64 (m : Nat) ∧ v14 = .slice a9 n9 c9 ∧ Hid (Below w.heap.size w wr ∧ IsB wr a9 n9 c9 (encL (zs.drop m)))) (fun _ v99 _ => k - (intOf v99).toNat)
    case atStart => exact ⟨0, a11, n7, c11, Nat.zero_le _, rfl, rfl, HB11⟩
    case round =>
      obtain ⟨m, a9, n9, c9, hm, rfl, rfl, HI⟩ := hrel
      have HN9 : Hid (n9 ≤ 40000000) := hide (by
        have h1 := HI.out.2.1
        have h2 := encL_len (zs.drop m) (fun z hz => HIZ2.out z (List.mem_of_mem_drop hz))
        rw [h1, List.length_drop, HLN.out] at h2
        omega)
      by_cases hlm : m < k
      · have HZr := hide (HZ.out.below HI.out.1)
        obtain ⟨bz, oz, ea, hbz, hc⟩ : ∃ b off, a = some ⟨b, off, none⟩ ∧ b < wr.heap.size ∧ ∀ i, i < k → wr.cell? ⟨b, off + i, none⟩ = some (.int .i64 (zs.getD i 0)) := by
          rcases HZr.out.2.2.2.2 with h | h
          · omega
          · exact h
        subst ea
        have z0 := hc m hlm
        clear hc
        have HST := hide (encL_drop zs m (by rw [HLN.out]; exact hlm))
        have HIN : Hid (Mn.In64 (zs.getD m 0)) := hide (HIZ2.out _ (by
          rw [List.getD_eq_getElem?_getD, List.getElem?_eq_getElem (by rw [HLN.out]; exact hlm)]
          exact List.getElem_mem _))
        generalize zs.getD m 0 = z at *
        have hw2 : IntKind.i64.wrap ((m : Int) + 1) = (m : Int) + 1 := wr64k (by omega) (by omega)
        have hi6 : (m : Int) < (k : Int) := by omega
        have hi7 : (0 : Int) ≤ (m : Int) := by omega
        have HRT := hide (readText_of a9 n9 c9 _ wr HI.out.2 (by have := HN9.out; omega) (bl (amt z)) (encL (zs.drop (m + 1))) (by rw [HST.out]; exact recA_read z HIN.out _))
        rw [str_bl] at HRT
        have HPA : Hid (∀ W, Calls Tryd.prog 17 #[.string (amt z)] W fun e w' => e = .returned (.tuple #[.int .i64 z, .int .i64 0]) ∧ Below W.heap.size W w') := hide (fun W => by
          have h := Mn.parse_any (Mn.txt z) (by have h1 := amt_size z HIN.out; have h2 : (amt z).size = (Mn.txt z).length := by simp [amt, ByteArray.size]
                                                omega) W
          rw [Mn.par_txt z HIN.out] at h
          exact h)
        have tz : (z != z) = false := by simp
        go_wp2_with fail
        refine HRT.out.mono ?_
        rintro e w12 ⟨⟨a12, c12, rfl, hB12⟩, hb12⟩
        have HB12 := hide (HI.out.1.trans (hb12.mono HI.out.1.size))
        have HI12 := hide hB12
        clear hB12 hb12 HRT
        go_wp2_with fail
        refine (HPA.out w12).mono ?_
        rintro e w13 ⟨rfl, hb13⟩
        have HN13 : Hid (Below w.heap.size w w13 ∧ IsB w13 a12 (encL (zs.drop (m + 1))).length c12 (encL (zs.drop (m + 1)))) := hide ⟨HB12.out.trans (hb13.mono HB12.out.size), HI12.out.below hb13⟩
        clear hb13 HB12 HI12
        go_wp2
        go_roundw
        case rel => exact ⟨m + 1, a12, _, c12, by omega, by simp, rfl, HN13⟩
        case measure => simp [intOf]; omega
      · obtain rfl : m = k := by omega
        have hi6 : ¬ (m : Int) < (m : Int) := by omega
        have hn9 : n9 = 0 := by
          have h1 := HI.out.2.1
          rw [← HLN.out, List.drop_length] at h1
          exact h1.symm
        subst hn9
        have HBF := hide HI.out.1
        clear HI
        go_wp2
        go_ret
        exact ⟨rfl, HBF.out⟩
end Go.Proofs.YtipeegjbfieknaaDoor
