/- the walk of DiskSafe -/
import Derived.Test.YtdageggojaghmaaI
namespace Go.Proofs.Ytdageggojaghmaa.diskSafe
open Go.RowKit
set_option maxRecDepth 40000 in
set_option maxHeartbeats 16000000 in
theorem walk_some (N : Nat) (sa ma fa : Option Addr) (sl sc ml mc fl fc : Nat) (ls lm : List Stp) (lf : List (Nat × Nat)) (w : World) (hN0 : 0 < N) (hN : N ≤ 1024) (hS : IsSS w sa sl sc ls) (hM : IsSS w ma ml mc lm) (hD : IsF w fa fl fc lf) :
    Calls Try.prog 5 #[.int .i64 (N : Int), .slice sa sl sc, .slice ma ml mc, .slice fa fl fc] w fun e w' => e = .returned (.bool true) ∧ Below w.heap.size w w' := by
  have LV := hide (lives_true w)
  have NW : Hid (∀ W, Calls Try.prog 10 #[.int .i64 (N : Int)] W fun e w' => ∃ g gs b, e = .returned (.pointer (some ⟨g, 0, none⟩)) ∧ IsD w' g gs b N st0 ∧ Below W.heap.size W w' ∧ ∀ i, SD g gs b i → W.heap.size ≤ i) := hide (fun W => new_ok W N hN0 hN)
  have HS := hide hS
  have HD := hide hD
  have hsc := hS.2.1
  have hsl : sl ≤ 140737488355328 := by have := hS.2.2.2.1; simp only [reachBytes] at this; omega
  have HSZ := hide hsl
  have HM := hide hM
  have hmc := hM.2.1
  have hml : ml ≤ 140737488355328 := by have := hM.2.2.2.1; simp only [reachBytes] at this; omega
  have HMZ := hide hml
  have HLS := hide hS.1
  generalize hB : w.heap.size = B at *
  have HBE := hide hB
  clear hB hS hD hM
  go_enter Try.func5, Try.ntmps5
  go_wp2_with fail
  refine LV.out.mono ?_
  rintro e w1 ⟨rfl, hb1⟩
  have HB1 := hide hb1
  clear hb1
  go_wp2_with fail
  refine (NW.out w1).mono ?_
  rintro e w2 ⟨g, gs, b, rfl, hI2, hb2, hfr⟩
  have HZ1 : B ≤ w1.heap.size := by have := HB1.out.size; have := HBE.out; omega
  have HFR : Hid (∀ i, SD g gs b i → B ≤ i) := hide (fun i hi => Nat.le_trans HZ1 (hfr i hi))
  have H2 := hide hI2
  have HB2 := hide (HB1.out.trans (hb2.mono HZ1))
  have HZ : Hid (∀ W, Below B w W → B ≤ W.heap.size) := hide (fun W hW => by have := hW.size; have := HBE.out; omega)
  clear hI2 hb2 hfr HZ1
  go_wp2_with fail
  go_loopw [44] (fun i wr => ∃ j : Nat, j ≤ sl ∧ i = .int .i64 j ∧ Hid (IsD wr g gs b N (st0.steps N ls j)) ∧ Hid (Frm (SD g gs b) w2 wr)) (fun i _ => sl - (intOf i).toNat)
  case atStart => exact ⟨0, Nat.zero_le _, rfl, H2, hide (Frm.refl _ _)⟩
  case round =>
    obtain ⟨j, hj, rfl, HI, HF⟩ := hrel
    have HSB : Hid (IsSS wr sa sl sc ls) := hide ((HS.out.below (HBE.out ▸ HB2.out)).frm H2.out HF.out)
    by_cases hlt : j < sl
    · obtain ⟨bs, off, c0, c1, c2, c3, c4, rfl, hbs, z0, z1, z2, z3, z4, hstp⟩ := HSB.out.2.2.2.2 j hlt
      generalize hsj : ls.getD j Stp0 = s at *
      have HSJ := hide hsj
      have HST := hide hstp
      obtain ⟨rfl, rfl, rfl, _, _, ⟨a2, l2, k2, rfl, _⟩, a4, l4, k4, rfl, _⟩ := id hstp
      have HWR : Hid ((st0.steps N ls j).wr < 4611686018427387904) := hide (by have h1 := steps_wr N ls st0 j; have h2 := HSZ.out; have h0 : st0.wr = 0 := rfl; omega)
      have HAL := hide (fun o : Obj => (Below.refl wr.heap.size wr).alloc (Nat.le_refl _) o)
      clear hstp hsj
      go_wp2_with fail
      generalize hW : wr.alloc (Obj.cells #[.int .u8 (s.kind : Nat), .int .i64 s.sec, .slice a2 l2 k2, .int .i64 s.cnt, .slice a4 l4 k4] 35) = W1
      have HBW : Hid (Below wr.heap.size wr W1) := hide (by rw [← hW]; exact HAL.out _)
      clear hW HAL z0 z1 z2 z3 z4
      refine (do_any W1 g gs b N _ (HI.out.below HBW.out) _ _ _ _ _ s (HST.out.below HBW.out) HWR.out).mono ?_
      rintro e w3 ⟨rfl, hI3, hF3⟩
      have HI3 : Hid (IsD w3 g gs b N (st0.steps N ls (j + 1))) := hide (by simp only [St.steps]; rw [HSJ.out]; exact hI3)
      have HF3 := hide (HF.out.trans ((Frm.below (S := SD g gs b) HBW.out).trans hF3))
      clear hI3 hF3
      go_wp2
      go_roundw
      case rel => exact ⟨j + 1, by omega, by simp, HI3, HF3⟩
      case measure => simp [intOf]; omega
    · obtain rfl : j = sl := by omega
      have HB3 := hide (HB2.out.trans (HF.out.toBelow (HZ.out _ HB2.out) HFR.out))
      have HWS : Hid ((st0.steps N ls j).wr ≤ 140737488355328) := hide (by have h1 := steps_wr N ls st0 j; have h2 := HSZ.out; have h0 : st0.wr = 0 := rfl; omega)
      generalize hst : St.steps N ls st0 j = st at *
      clear hst hlt HSB
      have DW := hide (down_any wr g gs b N st HI.out)
      cases hdn : st.down
      · rw [hdn] at DW
        go_wp2_with fail
        refine DW.out.mono ?_
        rintro e w4 ⟨rfl, rfl⟩
        go_wp2_with fail
        refine (arm_up w4 g gs b N st HI.out hdn (-1) (by omega)).mono ?_
        rintro e w5 ⟨rfl, hI5, hF5⟩
        have H5 := hide hI5
        have HB5 := hide (HB3.out.trans (hF5.toBelow (HZ.out _ HB3.out) HFR.out))
        clear hI5 hF5 DW
        go_wp2_with fail
        refine (sync_ok w5 g gs b N (st.arms (-1)) H5.out hdn).mono ?_
        rintro e w6 ⟨rfl, hI6, hF6⟩
        have H6 := hide hI6
        have HB6 := hide (HB5.out.trans (hF6.toBelow (HZ.out _ HB5.out) HFR.out))
        have HSA : Hid ((st.arms (-1)).syncs.arm = false) := hide (by simp [St.arms, St.syncs])
        have HSY := hide (sync_synced (st.arms (-1)) hdn).2
        have HWS6 : Hid ((st.arms (-1)).syncs.wr ≤ 140737488355328) := HWS
        generalize (st.arms (-1)).syncs = s8 at *
        clear hI6 hF6 hdn H5 HWS
        go_wp2_with fail
        refine (fork_any w6 g gs b N s8 H6.out).mono ?_
        rintro e w7 ⟨g3, gs3, b3, X3, rfl, hI7, hb7, hfr7⟩
        have H7 := hide (H6.out.below hb7)
        have HB7 := hide (HB6.out.trans (hb7.mono (HZ.out _ HB6.out)))
        have HK7 := hide hI7
        have HS3 : Hid (∀ i, SD g gs b i → ¬ SD g3 gs3 b3 i) := hide (fun i h1 h2 => by have := sd_lt H6.out i h1; have := hfr7 i h2; omega)
        clear hI7 hb7 hfr7
        go_wp2_with fail
        go_loopw [62] (fun i wr => ∃ j : Nat, j ≤ ml ∧ i = .int .i64 j ∧ Hid (IsD wr g gs b N (s8.wsteps N lm j)) ∧ Hid (IsD wr g3 gs3 b3 N { s8 with xs := X3 }) ∧ Hid (Below B w wr)) (fun i _ => ml - (intOf i).toNat)
        case atStart => exact ⟨0, Nat.zero_le _, rfl, H7, HK7, HB7⟩
        case round =>
          clear HI HF
          obtain ⟨j', hj', rfl, HI, HK, HB⟩ := hrel
          have HSB : Hid (IsSS wr ma ml mc lm) := hide (HM.out.below (HBE.out ▸ HB.out))
          have hinv := wsteps_inv N lm s8 HSY.out.1 HSA.out j'
          have HINV := hide hinv
          clear hinv
          by_cases hlt : j' < ml
          · obtain ⟨bs, off, c0, c1, c2, c3, c4, rfl, hbs, z0, z1, z2, z3, z4, hstp⟩ := HSB.out.2.2.2.2 j' hlt
            generalize hsj : lm.getD j' Stp0 = s at *
            have HSJ := hide hsj
            have HST := hide hstp
            obtain ⟨rfl, rfl, rfl, _, _, ⟨a2, l2, k2, rfl, _⟩, a4, l4, k4, rfl, _⟩ := id hstp
            have HAL := hide (fun o : Obj => (Below.refl wr.heap.size wr).alloc (Nat.le_refl _) o)
            have HWR : Hid ((s8.wsteps N lm j').wr < 4611686018427387904) := hide (by have h1 := HINV.out.2.2.2; have h2 := HMZ.out; have h0 := HWS6.out; omega)
            have HWE : Hid (s8.wsteps N lm (j' + 1) = if s.kind = 1 then ((s8.wsteps N lm j').step N s).1 else s8.wsteps N lm j') := hide (by simp only [St.wsteps]; rw [HSJ.out])
            clear hstp hsj
            by_cases hk1 : s.kind = 1
            · rw [if_pos hk1] at HWE
              have d1 : decide ((s.kind : Int) = 1) = true := decide_eq_true (by omega)
              have d2 : decide (s.kind = 1) = true := decide_eq_true hk1
              have d3 : ((s.kind : Int) == 1) = true := by rw [hk1]; rfl
              clear hk1
              go_wp2_with fail
              generalize hW : wr.alloc (Obj.cells #[.int .u8 (s.kind : Nat), .int .i64 s.sec, .slice a2 l2 k2, .int .i64 s.cnt, .slice a4 l4 k4] 35) = W1
              have HBW : Hid (Below wr.heap.size wr W1) := hide (by rw [← hW]; exact HAL.out _)
              clear hW HAL z0 z1 z2 z3 z4
              refine (do_any W1 g gs b N _ (HI.out.below HBW.out) _ _ _ _ _ s (HST.out.below HBW.out) HWR.out).mono ?_
              rintro e w3 ⟨rfl, hI3, hF3⟩
              have HI3 := hide hI3
              rw [← HWE.out] at HI3
              have HK3 := hide ((HK.out.below HBW.out).beside (HI.out.below HBW.out) hF3 HS3.out)
              have HB3 := hide (HB.out.trans ((HBW.out.mono (HZ.out _ HB.out)).trans (hF3.toBelow (Nat.le_trans (HZ.out _ HB.out) HBW.out.size) HFR.out)))
              clear hI3 hF3
              go_wp2
              go_roundw
              case rel => exact ⟨j' + 1, by omega, by simp, HI3, HK3, HB3⟩
              case measure => simp [intOf]; omega
            · rw [if_neg hk1] at HWE
              have d1 : decide ((s.kind : Int) = 1) = false := decide_eq_false (by omega)
              have d2 : decide (s.kind = 1) = false := decide_eq_false hk1
              have d3 : ((s.kind : Int) == 1) = false := by simpa using (by omega : ¬ (s.kind : Int) = 1)
              have HBN := hide (fun o => HAL.out o)
              go_wp2_with fail
              go_roundw
              case rel => exact ⟨j' + 1, by omega, by simp, hide (by rw [HWE.out]; exact HI.out.below (HAL.out _)), hide (HK.out.below (HAL.out _)), hide (HB.out.trans ((HAL.out _).mono (HZ.out _ HB.out)))⟩
              case measure => simp [intOf]; omega
          · obtain rfl : j' = ml := by omega
            generalize s8.wsteps N lm j' = sw at *
            clear hlt HSB
            have HF0 := hide (HD.out.below (HBE.out ▸ HB.out))
            go_wp2_with fail
            refine (fork_any wr g gs b N sw HI.out).mono ?_
            rintro e w8 ⟨g4, gs4, b4, X4, rfl, hI8, hb8, hfr8⟩
            have H8 := hide (HI.out.below hb8)
            have HK8 := hide (HK.out.below hb8)
            have HL8 := hide hI8
            have HB8 := hide (HB.out.trans (hb8.mono (HZ.out _ HB.out)))
            have HF8 := hide (HF0.out.below hb8)
            have HS4 : Hid (∀ i, SD g gs b i → ¬ SD g4 gs4 b4 i) := hide (fun i h1 h2 => by have := sd_lt HI.out i h1; have := hfr8 i h2; omega)
            clear hI8 hb8 hfr8
            go_wp2_with fail
            refine (uns_any w8 g gs b N sw H8.out).mono ?_
            rintro e w9 ⟨v, rfl, hrow, hb9⟩
            obtain ⟨au, cu, rfl, hcu, hU⟩ := isU_row hrow
            have HLT8 := hide H8.out.lts
            have H9 := hide (H8.out.below hb9)
            have HK9 := hide (HK8.out.below hb9)
            have HL9 := hide (HL8.out.below hb9)
            have HB9 := hide (HB8.out.trans (hb9.mono (HZ.out _ HB8.out)))
            have HF9 := hide (HF8.out.below hb9)
            have HU9 := hide hU
            have hlenU : (sw.uns N).length ≤ 1024 := Nat.le_trans (uns_len sw N) hN
            clear hrow hb9 hU
            go_wp2_with fail
            refine (cut_up w9 g gs b N sw H9.out HINV.out.2.1).mono ?_
            rintro e w10 ⟨rfl, hI10, hF10⟩
            have H10 := hide hI10
            have HK10 := hide (HK9.out.beside H9.out hF10 HS3.out)
            have HL10 := hide (HL9.out.beside H9.out hF10 HS4.out)
            have HB10 := hide (HB9.out.trans (hF10.toBelow (HZ.out _ HB9.out) HFR.out))
            have HF10 := hide (HF9.out.frm H9.out hF10)
            have HU10 := hide (HU9.out.frm hF10 HLT8.out)
            clear hI10 hF10
            go_wp2_with fail
            refine (cut_dn w10 g gs b N sw.cuts H10.out rfl).mono ?_
            rintro e w105 ⟨rfl, rfl⟩
            have RS := rest_any w105 g gs b N sw.cuts H10.out fa fl fc lf HF10.out
            rcases rest_cases sw.cuts N lf rfl with hr | hr | hr
            · rw [hr] at RS
              have RS' := hide RS
              clear RS hr
              go_wp2_with fail
              refine RS'.out.mono ?_
              rintro e w11 ⟨rfl, hI11, hF11⟩
              have HB11 := hide (HB10.out.trans (hF11.toBelow (HZ.out _ HB10.out) HFR.out))
              have DW := hide (down_any w11 g gs b N sw.cuts hI11)
              have hdc : sw.cuts.down = true := rfl
              rw [hdc] at DW
              clear hI11 hF11 RS' hdc
              go_wp2_with fail
              refine DW.out.mono ?_
              rintro e w12 ⟨rfl, rfl⟩
              go_wp2
              go_ret
              exact ⟨by first | rfl | simp, HB11.out⟩
            · rw [hr] at RS
              have RS' := hide RS
              clear RS hr
              go_wp2_with fail
              refine RS'.out.mono ?_
              rintro e w11 ⟨rfl, hI11, hF11⟩
              have HB11 := hide (HB10.out.trans (hF11.toBelow (HZ.out _ HB10.out) HFR.out))
              have DW := hide (down_any w11 g gs b N sw.cuts hI11)
              have hdc : sw.cuts.down = true := rfl
              rw [hdc] at DW
              clear hI11 hF11 RS' hdc
              go_wp2_with fail
              refine DW.out.mono ?_
              rintro e w12 ⟨rfl, rfl⟩
              go_wp2
              go_ret
              exact ⟨by first | rfl | simp, HB11.out⟩
            · rw [hr] at RS
              have RS' := hide RS
              clear RS hr
              go_wp2_with fail
              refine RS'.out.mono ?_
              rintro e w11 ⟨rfl, hI11, hF11⟩
              have H11 := hide hI11
              have HK11 := hide (HK10.out.beside H10.out hF11 HS3.out)
              have HL11 := hide (HL10.out.beside H10.out hF11 HS4.out)
              have HB11 := hide (HB10.out.trans (hF11.toBelow (HZ.out _ HB10.out) HFR.out))
              have HU11 := hide (HU10.out.frm hF11 HLT8.out)
              clear hI11 hF11 RS'
              go_wp2_with fail
              have HUS := hide (fun t (ht : t < N) => fates_safe sw N lf t (by rw [HINV.out.2.2.1]; have := (HK7.out.dat ht).2; rw [show ({ s8 with xs := X3 } : St).reads t = s8.syn t from HSY.out.reads t] at this; exact this) (HI.out.dat ht).2)
              have HS9 : Hid (Synced ((sw.cuts.fates lf (sw.cuts.uns N) (sw.cuts.uns N).length).back) ((sw.fates lf (sw.uns N) (sw.uns N).length).syn)) := hide ⟨rfl, fun _ => rfl, rfl⟩
              generalize (sw.cuts.fates lf (sw.cuts.uns N) (sw.cuts.uns N).length).back = s9 at *
              generalize (sw.fates lf (sw.uns N) (sw.uns N).length).syn = f9 at *
              have HSX : Hid (∀ t, ({ s8 with xs := X3 } : St).reads t = sw.syn t) := hide (fun t => by rw [HINV.out.2.2.1]; exact HSY.out.reads t)
              generalize hus : sw.uns N = us at *
              clear hus
              go_loopw [18] (fun i wr => ∃ t : Nat, t ≤ N ∧ t ≤ 16 ∧ i = .int .i64 t ∧ Hid (IsD wr g gs b N s9) ∧ Hid (IsD wr g3 gs3 b3 N { s8 with xs := X3 }) ∧ Hid (IsD wr g4 gs4 b4 N { sw with xs := X4 }) ∧ Hid (IsU wr w8.heap.size au us) ∧ Hid (Below B w wr)) (fun i _ => 16 - (intOf i).toNat)
              case atStart => exact ⟨0, Nat.zero_le _, Nat.zero_le _, rfl, H11, HK11, HL11, HU11, HB11⟩
              case round =>
                clear HI HK HB
                obtain ⟨t, ht, ht6, rfl, HI, HK, HL, HU, HB⟩ := hrel
                by_cases htN : t < N ∧ t < 16
                · obtain ⟨htN, ht16⟩ := htN
                  have dn : decide ((t : Int) < (N : Int)) = true := decide_eq_true (by omega)
                  have RA := read_ok wr g3 gs3 b3 N { s8 with xs := X3 } HK.out HSY.out.1 t htN
                  rw [HSX.out t] at RA
                  have RA' := hide RA
                  clear RA
                  obtain ⟨hq1, hq2⟩ := HUS.out t htN
                  have HQ1 : Hid (t ∉ us → full (f9 t) = full (sw.syn t)) := hide (fun h => by rw [hq1 h])
                  have HQ2 := hide hq2
                  have HXC : Hid (∀ x ∈ full (f9 t), x < 256) := hide (full_lt (by have := (HI.out.dat htN).1; rw [HS9.out.reads t] at this; exact this))
                  have HXA : Hid (∀ x ∈ full (sw.syn t), x < 256) := hide (full_lt (by have := (HK.out.dat htN).1; rw [HSX.out t] at this; exact this))
                  have HXB : Hid (∀ x ∈ full (sw.reads t), x < 256) := hide (full_lt (HL.out.dat htN).1)
                  clear hq1 hq2
                  go_wp2_with fail
                  refine RA'.out.mono ?_
                  rintro e wa ⟨qa, rfl, hqa, hrowa, hba⟩
                  have HIa := hide (HI.out.below hba)
                  have HKa := hide (HK.out.below hba)
                  have HLa := hide (HL.out.below hba)
                  have HUa := hide (HU.out.below hba)
                  have HBa := hide (HB.out.trans (hba.mono (HZ.out _ HB.out)))
                  have HRa := hide hrowa
                  have RB := read_ok wa g4 gs4 b4 N { sw with xs := X4 } HLa.out HINV.out.2.1 t htN
                  have RB' := hide RB
                  clear hqa hrowa hba RA' RB
                  go_wp2_with fail
                  refine RB'.out.mono ?_
                  rintro e wb ⟨qb, rfl, hqb, hrowb, hbb⟩
                  have HIb := hide (HIa.out.below hbb)
                  have HKb := hide (HKa.out.below hbb)
                  have HLb := hide (HLa.out.below hbb)
                  have HUb := hide (HUa.out.below hbb)
                  have HBb := hide (HBa.out.trans (hbb.mono (HZ.out _ HBa.out)))
                  have HRab := hide (HRa.out.below hbb HRa.out.lt)
                  have HRb : Hid (Row wb qb 4096 4096 (full (sw.reads t))) := hide hrowb
                  have RC := read_ok wb g gs b N s9 HIb.out HS9.out.1 t htN
                  rw [HS9.out.reads t] at RC
                  have RC' := hide RC
                  clear hqb hrowb hbb RB' RC HRa
                  go_wp2_with fail
                  refine RC'.out.mono ?_
                  rintro e wc ⟨qc, rfl, hqc, hrowc, hbc⟩
                  have HIc := hide (HIb.out.below hbc)
                  have HKc := hide (HKb.out.below hbc)
                  have HLc := hide (HLb.out.below hbc)
                  have HUc := hide (HUb.out.below hbc)
                  have HBc := hide (HBb.out.trans (hbc.mono (HZ.out _ HBb.out)))
                  have HA := hide (HRab.out.below hbc HRab.out.lt)
                  have HBr := hide (HRb.out.below hbc HRb.out.lt)
                  have HC := hide hrowc
                  clear hqc hrowc hbc RC' HRab HRb
                  generalize hFA : full (sw.syn t) = FA at *
                  generalize hFB : full (sw.reads t) = FB at *
                  generalize hFC : full (f9 t) = FC at *
                  clear hFA hFB hFC
                  go_wp2_with fail
                  go_loopw [164, 25] (fun i fl wr => ∃ u : Nat, u ≤ us.length ∧ i = .int .i64 u ∧ (∃ bb : Bool, fl = .bool bb ∧ Hid (bb = true ↔ t ∈ us.take u)) ∧ wr = wc) (fun i _ _ => us.length - (intOf i).toNat)
                  case atStart => exact ⟨0, Nat.zero_le _, rfl, ⟨false, rfl, hide (by simp)⟩, rfl⟩
                  case round =>
                    obtain ⟨u, hu, rfl, ⟨bb, rfl, HBBT⟩, rfl⟩ := hrel
                    by_cases hul : u < us.length
                    · obtain ⟨q, rfl, _, _, x, hx, hcx⟩ := HUc.out u hul
                      have HTK : Hid (us.take (u + 1) = us.take u ++ [x]) := hide (by rw [List.take_add_one, hx]; rfl)
                      cases bb
                      · by_cases hxt : x = t
                        · subst hxt
                          have HN : Hid (true = true ↔ x ∈ us.take (u + 1)) := hide (by rw [HTK.out]; simp)
                          go_wp2
                          go_roundw
                          case rel => exact ⟨u + 1, by omega, by simp, ⟨true, by simp, HN⟩, by first | rfl | trivial⟩
                          case measure => simp [intOf]; omega
                        · have d1 : decide ((x : Int) = (t : Int)) = false := decide_eq_false (by omega)
                          have d2 : ((x : Int) == (t : Int)) = false := by simpa using (by omega : ¬ (x : Int) = (t : Int))
                          have d3 : decide (x = t) = false := decide_eq_false hxt
                          have HN : Hid (false = true ↔ t ∈ us.take (u + 1)) := hide (by
                            rw [HTK.out, List.mem_append]
                            constructor
                            · intro h; cases h
                            · rintro (h | h)
                              · exact HBBT.out.2 h
                              · simp at h; exact absurd h.symm hxt)
                          go_wp2
                          go_roundw
                          case rel => exact ⟨u + 1, by omega, by simp, ⟨false, by first | rfl | simp [hxt] | (simp; omega), HN⟩, by first | rfl | trivial⟩
                          case measure => simp [intOf]; omega
                      · have HN : Hid (true = true ↔ t ∈ us.take (u + 1)) := hide (by rw [HTK.out]; simp; exact .inl (HBBT.out.1 rfl))
                        go_wp2
                        go_roundw
                        case rel => exact ⟨u + 1, by omega, by simp, ⟨true, by first | rfl | simp, HN⟩, by first | rfl | trivial⟩
                        case measure => simp [intOf]; omega
                    · obtain rfl : u = us.length := by omega
                      cases bb
                      · have hnot : t ∉ us := fun h => by have := HBBT.out.2 (by rw [List.take_length]; exact h); cases this
                        have hCA := HQ1.out hnot
                        have cv1 := conv_str (HC.out.isB HXC.out)
                        have cv2 := conv_str (HA.out.isB HXA.out)
                        rw [hCA] at cv1
                        generalize str FA = sFA at *
                        clear hnot hCA hul
                        go_wp2_with fail
                        go_loopw [28] (fun i wr' => ∃ u : Nat, u ≤ 8 ∧ i = .int .i64 ((u * 512 : Nat) : Int) ∧ wr' = wr) (fun i _ => 4096 - (intOf i).toNat)
                        case atStart => exact ⟨0, Nat.zero_le _, rfl, rfl⟩
                        case round =>
                          obtain ⟨u, hu, rfl, rfl⟩ := hrel
                          by_cases hu8 : u < 8
                          · have cvC := conv_str (grain_isB HC.out HXC.out u hu8)
                            have cvA := conv_str (grain_isB HA.out HXA.out u hu8)
                            have cvB := conv_str (grain_isB HBr.out HXB.out u hu8)
                            have hg : str (grain FC u) = str (grain FA u) ∨ str (grain FC u) = str (grain FB u) := (HQ2.out u).imp (congrArg str) (congrArg str)
                            obtain ⟨F, hFe⟩ : ∃ F : Nat, F = u * 512 := ⟨_, rfl⟩
                            have HFe := hide hFe
                            have hF1 : F + 512 ≤ 4096 := by omega
                            rw [← hFe] at cvC cvA cvB
                            rw [← hFe]
                            obtain ⟨E, hE⟩ : ∃ E : Nat, E = F + 512 := ⟨_, rfl⟩
                            have HE := hide hE
                            have e1 : IntKind.i64.wrap ((F : Int) + 512) = (E : Int) := by
                              have hw : (F : Int) + 512 = (E : Int) := by omega
                              rw [hw]
                              simp [IntKind.wrap, IntKind.bits, IntKind.signed]
                              omega
                            have t2 : E - F = 512 := by omega
                            have t4 : E ≤ 4096 := by omega
                            have t5 : F ≤ E := by omega
                            have t6 : (E : Int) ≤ 4096 := by omega
                            have t7 : (F : Int) ≤ 4096 := by omega
                            have t8 : F ≤ 4096 := by omega
                            have t9 : (F : Int) < 4096 := by omega
                            have t3 : ¬ 4096 = F := by omega
                            generalize str (grain FC u) = sC at *
                            generalize str (grain FA u) = sA at *
                            generalize str (grain FB u) = sB at *
                            clear hFe hE
                            rcases hg with rfl | rfl
                            · go_wp2
                              go_roundw
                              case rel => exact ⟨u + 1, by omega, by simp; have := HFe.out; have := HE.out; omega, by first | rfl | trivial⟩
                              case measure => have := HFe.out; have := HE.out; simp [intOf]; omega
                            · go_wp2
                              all_goals
                                go_roundw
                                case rel => exact ⟨u + 1, by omega, by simp; have := HFe.out; have := HE.out; omega, by first | rfl | trivial⟩
                                case measure => have := HFe.out; have := HE.out; simp [intOf]; omega
                          · obtain rfl : u = 8 := by omega
                            go_wp2
                            go_roundw
                            case rel => exact ⟨t + 1, by omega, by omega, by simp, HIc, HKc, HLc, HUc, HBc⟩
                            case measure => simp [intOf]; omega
                      · clear hul
                        go_wp2_with fail
                        go_loopw [28] (fun i wr' => ∃ u : Nat, u ≤ 8 ∧ i = .int .i64 ((u * 512 : Nat) : Int) ∧ wr' = wr) (fun i _ => 4096 - (intOf i).toNat)
                        case atStart => exact ⟨0, Nat.zero_le _, rfl, rfl⟩
                        case round =>
                          obtain ⟨u, hu, rfl, rfl⟩ := hrel
                          by_cases hu8 : u < 8
                          · have cvC := conv_str (grain_isB HC.out HXC.out u hu8)
                            have cvA := conv_str (grain_isB HA.out HXA.out u hu8)
                            have cvB := conv_str (grain_isB HBr.out HXB.out u hu8)
                            have hg : str (grain FC u) = str (grain FA u) ∨ str (grain FC u) = str (grain FB u) := (HQ2.out u).imp (congrArg str) (congrArg str)
                            obtain ⟨F, hFe⟩ : ∃ F : Nat, F = u * 512 := ⟨_, rfl⟩
                            have HFe := hide hFe
                            have hF1 : F + 512 ≤ 4096 := by omega
                            rw [← hFe] at cvC cvA cvB
                            rw [← hFe]
                            obtain ⟨E, hE⟩ : ∃ E : Nat, E = F + 512 := ⟨_, rfl⟩
                            have HE := hide hE
                            have e1 : IntKind.i64.wrap ((F : Int) + 512) = (E : Int) := by
                              have hw : (F : Int) + 512 = (E : Int) := by omega
                              rw [hw]
                              simp [IntKind.wrap, IntKind.bits, IntKind.signed]
                              omega
                            have t2 : E - F = 512 := by omega
                            have t4 : E ≤ 4096 := by omega
                            have t5 : F ≤ E := by omega
                            have t6 : (E : Int) ≤ 4096 := by omega
                            have t7 : (F : Int) ≤ 4096 := by omega
                            have t8 : F ≤ 4096 := by omega
                            have t9 : (F : Int) < 4096 := by omega
                            have t3 : ¬ 4096 = F := by omega
                            generalize str (grain FC u) = sC at *
                            generalize str (grain FA u) = sA at *
                            generalize str (grain FB u) = sB at *
                            clear hFe hE
                            rcases hg with rfl | rfl
                            · go_wp2
                              go_roundw
                              case rel => exact ⟨u + 1, by omega, by simp; have := HFe.out; have := HE.out; omega, by first | rfl | trivial⟩
                              case measure => have := HFe.out; have := HE.out; simp [intOf]; omega
                            · go_wp2
                              all_goals
                                go_roundw
                                case rel => exact ⟨u + 1, by omega, by simp; have := HFe.out; have := HE.out; omega, by first | rfl | trivial⟩
                                case measure => have := HFe.out; have := HE.out; simp [intOf]; omega
                          · obtain rfl : u = 8 := by omega
                            go_wp2
                            go_roundw
                            case rel => exact ⟨t + 1, by omega, by omega, by simp, HIc, HKc, HLc, HUc, HBc⟩
                            case measure => simp [intOf]; omega
                · have UN := hide (uns_any wr g gs b N s9 HI.out)
                  have DW := hide (down_any wr g gs b N s9 HI.out)
                  have hu0 : (s9.uns N).length = 0 := by rw [uns_none s9 N HS9.out.2.1]; rfl
                  have HU0 := hide hu0
                  clear hu0
                  by_cases htN1 : t < N
                  · obtain rfl : t = 16 := by omega
                    have dn : decide ((16 : Int) < (N : Int)) = true := decide_eq_true (by omega)
                    go_wp2_with fail
                    refine UN.out.mono ?_
                    rintro e wu ⟨v, rfl, hrow, hbu⟩
                    obtain ⟨a0, c0, rfl, _, _⟩ := isU_row hrow
                    rw [HU0.out]
                    have DU := hide (down_any wu g gs b N s9 (HI.out.below hbu))
                    rw [HS9.out.1] at DU
                    have HBU := hide (HB.out.trans (hbu.mono (HZ.out _ HB.out)))
                    clear hrow hbu UN DW
                    go_wp2_with fail
                    refine DU.out.mono ?_
                    rintro e wv ⟨rfl, rfl⟩
                    go_wp2
                    go_ret
                    exact ⟨rfl, HBU.out⟩
                  · have dn : decide ((t : Int) < (N : Int)) = false := decide_eq_false (by omega)
                    go_wp2_with fail
                    refine UN.out.mono ?_
                    rintro e wu ⟨v, rfl, hrow, hbu⟩
                    obtain ⟨a0, c0, rfl, _, _⟩ := isU_row hrow
                    rw [HU0.out]
                    have DU := hide (down_any wu g gs b N s9 (HI.out.below hbu))
                    rw [HS9.out.1] at DU
                    have HBU := hide (HB.out.trans (hbu.mono (HZ.out _ HB.out)))
                    clear hrow hbu UN DW
                    go_wp2_with fail
                    refine DU.out.mono ?_
                    rintro e wv ⟨rfl, rfl⟩
                    go_wp2
                    go_ret
                    exact ⟨rfl, HBU.out⟩
      · rw [hdn] at DW
        go_wp2_with fail
        refine DW.out.mono ?_
        rintro e w6 ⟨rfl, rfl⟩
        go_wp2
        go_ret
        exact ⟨rfl, HB3.out⟩
set_option maxRecDepth 40000 in
set_option maxHeartbeats 4000000 in
/-- DiskSafe, where there is no such disk -/
theorem walk_none (n : Int) (v d f : Value) (w : World) (hn : ¬ (1 ≤ n ∧ n ≤ 1024)) :
    Calls Try.prog 5 #[.int .i64 n, v, d, f] w fun e w' => e = .returned (.bool true) ∧ Below w.heap.size w w' := by
  have LV := hide (lives_true w)
  have NN : Hid (∀ W, Calls Try.prog 10 #[.int .i64 n] W fun e w' => e = .returned (.pointer none) ∧ w' = W) := hide (fun W => new_no W n hn)
  by_cases h1 : n < 1
  · have d1 : decide (n < 1) = true := decide_eq_true h1
    clear hn h1
    go_enter Try.func5, Try.ntmps5
    go_wp2_with fail
    refine LV.out.mono ?_
    rintro e w1 ⟨rfl, hb1⟩
    have HB1 := hide hb1
    clear hb1
    go_wp2_with fail
    refine (NN.out w1).mono ?_
    rintro e w2 ⟨rfl, rfl⟩
    go_wp2
    go_ret
    exact ⟨by simp, HB1.out⟩
  · have d1 : decide (n < 1) = false := decide_eq_false h1
    have d2 : decide (1024 < n) = true := decide_eq_true (by omega)
    clear hn h1
    go_enter Try.func5, Try.ntmps5
    go_wp2_with fail
    refine LV.out.mono ?_
    rintro e w1 ⟨rfl, hb1⟩
    have HB1 := hide hb1
    clear hb1
    go_wp2_with fail
    refine (NN.out w1).mono ?_
    rintro e w2 ⟨rfl, rfl⟩
    go_wp2
    go_ret
    exact ⟨by simp, HB1.out⟩
/-- the walk of DiskSafe -/
theorem lawWalk (n : Int) (sa : Option Addr) (sl sc : Nat) (ls : List Stp) (ma : Option Addr) (ml mc : Nat) (lm : List Stp) (fa : Option Addr) (fl fc : Nat) (lf : List (Nat × Nat)) (w : World) (_hn : (Lit.int .i64 n).wf = true) (hS : IsSS w sa sl sc ls) (hM : IsSS w ma ml mc lm) (hD : IsF w fa fl fc lf) :
    Calls Try.prog 5 #[.int .i64 n, .slice sa sl sc, .slice ma ml mc, .slice fa fl fc] w fun e w' => e = .returned (.bool true) ∧ Below w.heap.size w w' := by
  by_cases h : 1 ≤ n ∧ n ≤ 1024
  · obtain ⟨N, rfl⟩ : ∃ N : Nat, n = N := ⟨n.toNat, by omega⟩
    exact walk_some N sa ma fa sl sc ml mc fl fc ls lm lf w (by omega) (by omega) hS hM hD
  · exact walk_none n _ _ _ w h
end Go.Proofs.Ytdageggojaghmaa.diskSafe
