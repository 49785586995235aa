/- the walk of DiskSynced -/
import Derived.Test.YtdageggojaghmaaF
namespace Go.Proofs.Ytdageggojaghmaa.diskSynced
open Go.RowKit
set_option maxRecDepth 40000 in
set_option maxHeartbeats 4000000 in
theorem walk_some (N : Nat) (sa fa : Option Addr) (sl sc fl fc : Nat) (ls : List Stp) (lf : List (Nat × Nat)) (w : World) (hN0 : 0 < N) (hN : N ≤ 1024) (hS : IsSS w sa sl sc ls) (hD : IsF w fa fl fc lf) :
    Calls Try.prog 9 #[.int .i64 (N : Int), .slice sa sl sc, .slice fa fl fc] w fun e w' => e = .returned (.bool true) ∧ Below w.heap.size w w' := by
  have LV := hide (lives_true w)
  have NW : Hid (∀ W, Calls Try.prog 10 #[.int .i64 (N : Int)] W fun e w' => ∃ g gs b, e = .returned (.pointer (some ⟨g, 0, none⟩)) ∧ IsD w' g gs b N st0 ∧ Below W.heap.size W w' ∧ ∀ i, SD g gs b i → W.heap.size ≤ i) := hide (fun W => new_ok W N hN0 hN)
  have HS := hide hS
  have HD := hide hD
  have hsc := hS.2.1
  have hsl : sl ≤ 140737488355328 := by have := hS.2.2.2.1; simp only [reachBytes] at this; omega
  have HSZ := hide hsl
  have HLS := hide hS.1
  generalize hB : w.heap.size = B at *
  have HBE := hide hB
  clear hB hS hD
  go_enter Try.func9, Try.ntmps9
  go_wp2_with fail
  refine LV.out.mono ?_
  rintro e w1 ⟨rfl, hb1⟩
  have HB1 := hide hb1
  clear hb1
  go_wp2_with fail
  refine (NW.out w1).mono ?_
  rintro e w2 ⟨g, gs, b, rfl, hI2, hb2, hfr⟩
  have HZ1 : B ≤ w1.heap.size := by have := HB1.out.size; have := HBE.out; omega
  have HFR : Hid (∀ i, SD g gs b i → B ≤ i) := hide (fun i hi => Nat.le_trans HZ1 (hfr i hi))
  have H2 := hide hI2
  have HB2 := hide (HB1.out.trans (hb2.mono HZ1))
  have HZ : Hid (∀ W, Below B w W → B ≤ W.heap.size) := hide (fun W hW => by have := hW.size; have := HBE.out; omega)
  clear hI2 hb2 hfr HZ1
  go_wp2_with fail
  go_loopw [30] (fun i wr => ∃ j : Nat, j ≤ sl ∧ i = .int .i64 j ∧ Hid (IsD wr g gs b N (st0.steps N ls j)) ∧ Hid (Frm (SD g gs b) w2 wr)) (fun i _ => sl - (intOf i).toNat)
  case atStart => exact ⟨0, Nat.zero_le _, rfl, H2, hide (Frm.refl _ _)⟩
  case round =>
    obtain ⟨j, hj, rfl, HI, HF⟩ := hrel
    have HSB : Hid (IsSS wr sa sl sc ls) := hide ((HS.out.below (HBE.out ▸ HB2.out)).frm H2.out HF.out)
    by_cases hlt : j < sl
    · obtain ⟨bs, off, c0, c1, c2, c3, c4, rfl, hbs, z0, z1, z2, z3, z4, hstp⟩ := HSB.out.2.2.2.2 j hlt
      generalize hsj : ls.getD j Stp0 = s at *
      have HSJ := hide hsj
      have HST := hide hstp
      obtain ⟨rfl, rfl, rfl, _, _, ⟨a2, l2, k2, rfl, _⟩, a4, l4, k4, rfl, _⟩ := id hstp
      have HWR : Hid ((st0.steps N ls j).wr < 4611686018427387904) := hide (by have h1 := steps_wr N ls st0 j; have h2 := HSZ.out; have h0 : st0.wr = 0 := rfl; omega)
      have HAL := hide (fun o : Obj => (Below.refl wr.heap.size wr).alloc (Nat.le_refl _) o)
      clear hstp hsj
      go_wp2_with fail
      generalize hW : wr.alloc (Obj.cells #[.int .u8 (s.kind : Nat), .int .i64 s.sec, .slice a2 l2 k2, .int .i64 s.cnt, .slice a4 l4 k4] 35) = W1
      have HBW : Hid (Below wr.heap.size wr W1) := hide (by rw [← hW]; exact HAL.out _)
      clear hW HAL z0 z1 z2 z3 z4
      refine (do_any W1 g gs b N _ (HI.out.below HBW.out) _ _ _ _ _ s (HST.out.below HBW.out) HWR.out).mono ?_
      rintro e w3 ⟨rfl, hI3, hF3⟩
      have HI3 : Hid (IsD w3 g gs b N (st0.steps N ls (j + 1))) := hide (by simp only [St.steps]; rw [HSJ.out]; exact hI3)
      have HF3 := hide (HF.out.trans ((Frm.below (S := SD g gs b) HBW.out).trans hF3))
      clear hI3 hF3
      go_wp2
      go_roundw
      case rel => exact ⟨j + 1, by omega, by simp, HI3, HF3⟩
      case measure => simp [intOf]; omega
    · obtain rfl : j = sl := by omega
      have HB3 := hide (HB2.out.trans (HF.out.toBelow (HZ.out _ HB2.out) HFR.out))
      have HDB : Hid (IsF wr fa fl fc lf) := hide ((HD.out.below (HBE.out ▸ HB2.out)).frm H2.out HF.out)
      generalize hst : St.steps N ls st0 j = st at *
      clear hst hlt
      cases hdn : st.down
      · have SY := hide (sync_ok wr g gs b N st HI.out hdn)
        have HSY := hide (sync_synced st hdn).2
        generalize st.syncs = s at *
        generalize s.syn = f at *
        go_wp2_with fail
        refine SY.out.mono ?_
        rintro e w5 ⟨rfl, hI5, hF5⟩
        have H5 := hide hI5
        have HB5 := hide (HB3.out.trans (hF5.toBelow (HZ.out _ HB3.out) HFR.out))
        have HD5 := hide (HDB.out.frm HI.out hF5)
        clear hI5 hF5 SY hdn
        go_wp2_with fail
        refine (uns_any w5 g gs b N s H5.out).mono ?_
        rintro e w6 ⟨v, rfl, hrow, hb6⟩
        obtain ⟨au, cu, rfl, _, _⟩ := isU_row hrow
        have hu0 : (s.uns N).length = 0 := by rw [uns_none s N HSY.out.2.1]; rfl
        rw [hu0]
        have H6 := hide (H5.out.below hb6)
        have HB6 := hide (HB5.out.trans (hb6.mono (HZ.out _ HB5.out)))
        have HD6 := hide (HD5.out.below hb6)
        clear hrow hb6 hu0
        go_wp2_with fail
        refine (fork_any w6 g gs b N s H6.out).mono ?_
        rintro e w7 ⟨g', gs', b', X, rfl, hI7, hb7, hfr7⟩
        have H7 := hide (H6.out.below hb7)
        have HB7 := hide (HB6.out.trans (hb7.mono (HZ.out _ HB6.out)))
        have HD7 := hide (HD6.out.below hb7)
        have HK7 := hide hI7
        have HSP : Hid (∀ i, SD g gs b i → ¬ SD g' gs' b' i) := hide (fun i h1 h2 => by have := sd_lt H6.out i h1; have := hfr7 i h2; omega)
        have HSX : Hid (Synced { s with xs := X } f) := hide ⟨HSY.out.1, HSY.out.2.1, HSY.out.2.2⟩
        clear hI7 hb7 hfr7
        go_wp2_with fail
        refine (cut_up w7 g gs b N s H7.out HSY.out.1).mono ?_
        rintro e w8 ⟨rfl, hI8, hF8⟩
        have H8 := hide hI8
        have HB8 := hide (HB7.out.trans (hF8.toBelow (HZ.out _ HB7.out) HFR.out))
        have HD8 := hide (HD7.out.frm H7.out hF8)
        have HK8 := hide (HK7.out.beside H7.out hF8 HSP.out)
        clear hI8 hF8
        rcases rest_synced s.cuts f N lf rfl HSY.out.2.1 HSY.out.2.2 with ⟨hr2, hr1⟩ | ⟨hr2, hr1, _⟩
        · have RS := rest_any w8 g gs b N s.cuts H8.out fa fl fc lf HD8.out
          rw [hr2] at RS
          have RS' := hide RS
          have HS2 := hide hr1
          generalize (s.cuts.rest N lf).1 = s2 at *
          clear RS hr1 hr2
          go_wp2_with fail
          refine RS'.out.mono ?_
          rintro e w9 ⟨rfl, hI9, hF9⟩
          have H9 := hide hI9
          have HB9 := hide (HB8.out.trans (hF9.toBelow (HZ.out _ HB8.out) HFR.out))
          have HK9 := hide (HK8.out.beside H8.out hF9 HSP.out)
          clear hI9 hF9
          go_wp2_with fail
          go_loopw [11] (fun i wr => ∃ t : Nat, t ≤ N ∧ t ≤ 16 ∧ i = .int .i64 t ∧ Hid (IsD wr g gs b N s2) ∧ Hid (IsD wr g' gs' b' N { s with xs := X }) ∧ Hid (Below B w wr)) (fun i _ => 16 - (intOf i).toNat)
          case atStart => exact ⟨0, Nat.zero_le _, Nat.zero_le _, rfl, H9, HK9, HB9⟩
          case round =>
            obtain ⟨t, ht, ht6, rfl, HI, HK, HB⟩ := hrel
            by_cases htN : t < N
            · by_cases ht16 : t < 16
              · have dn : decide ((t : Int) < (N : Int)) = true := decide_eq_true (by omega)
                have RA := read_any wr g' gs' b' N { s with xs := X } HK.out t
                obtain ⟨e1, e2⟩ := HSX.out.readE htN
                rw [e1, e2] at RA
                have RA' := hide RA
                clear RA e1 e2
                go_wp2_with fail
                refine RA'.out.mono ?_
                rintro e wa ⟨a1, l1, k1, rfl, hB1, hba⟩
                have HIa := hide (HI.out.below hba)
                have HKa := hide (HK.out.below hba)
                have HBa := hide (HB.out.trans (hba.mono (HZ.out _ HB.out)))
                have HR1 := hide hB1
                clear hB1 hba RA'
                have RB := read_any wa g gs b N s2 HIa.out t
                obtain ⟨e1, e2⟩ := HS2.out.readE htN
                rw [e1, e2] at RB
                have RB' := hide RB
                clear RB e1 e2
                go_wp2_with fail
                refine RB'.out.mono ?_
                rintro e wb ⟨a2, l2, k2, rfl, hB2, hbb⟩
                have HIb := hide (HIa.out.below hbb)
                have HKb := hide (HKa.out.below hbb)
                have HBb := hide (HBa.out.trans (hbb.mono (HZ.out _ HBa.out)))
                have cv1 := conv_str (HR1.out.below hbb)
                have cv2 := conv_str hB2
                generalize str (full (f t)) = L at *
                clear hB2 hbb RB'
                go_wp2
                go_roundw
                case rel => exact ⟨t + 1, by omega, by omega, by simp, HIb, HKb, HBb⟩
                case measure => simp [intOf]; omega
              · obtain rfl : t = 16 := by omega
                go_wp2
                go_ret
                exact ⟨rfl, HB.out⟩
            · obtain rfl : t = N := by omega
              go_wp2
              go_ret
              exact ⟨rfl, HB.out⟩
        · have RS := hide (rest_any w8 g gs b N s.cuts H8.out fa fl fc lf HD8.out)
          rw [hr1] at RS
          generalize (s.cuts.rest N lf).2 = er at *
          have d0 : (er == 0) = false := by simpa using hr2
          have d1 : decide (er = 0) = false := decide_eq_false hr2
          have d2 : ¬ er = 0 := hr2
          clear hr1 hr2
          go_wp2_with fail
          refine RS.out.mono ?_
          rintro e w85 ⟨rfl, hI85, hF85⟩
          have H85 := hide hI85
          have HB85 := hide (HB8.out.trans (hF85.toBelow (HZ.out _ HB8.out) HFR.out))
          have HK85 := hide (HK8.out.beside H8.out hF85 HSP.out)
          clear hI85 hF85
          have hrn := rest_synced s.cuts f N [] rfl HSY.out.2.1 HSY.out.2.2
          have hr3 := hrn.resolve_right (fun h => h.2.2 rfl)
          have RN := rest_any w85 g gs b N s.cuts H85.out none 0 0 [] (isF_nil _)
          rw [hr3.1] at RN
          have RN' := hide RN
          have HS2 := hide hr3.2
          generalize (s.cuts.rest N []).1 = s2 at *
          clear hrn hr3 RN
          go_wp2_with fail
          refine RN'.out.mono ?_
          rintro e w9 ⟨rfl, hI9, hF9⟩
          have H9 := hide hI9
          have HB9 := hide (HB85.out.trans (hF9.toBelow (HZ.out _ HB85.out) HFR.out))
          have HK9 := hide (HK85.out.beside H85.out hF9 HSP.out)
          clear hI9 hF9
          go_wp2_with fail
          go_loopw [11] (fun i wr => ∃ t : Nat, t ≤ N ∧ t ≤ 16 ∧ i = .int .i64 t ∧ Hid (IsD wr g gs b N s2) ∧ Hid (IsD wr g' gs' b' N { s with xs := X }) ∧ Hid (Below B w wr)) (fun i _ => 16 - (intOf i).toNat)
          case atStart => exact ⟨0, Nat.zero_le _, Nat.zero_le _, rfl, H9, HK9, HB9⟩
          case round =>
            obtain ⟨t, ht, ht6, rfl, HI, HK, HB⟩ := hrel
            by_cases htN : t < N
            · by_cases ht16 : t < 16
              · have dn : decide ((t : Int) < (N : Int)) = true := decide_eq_true (by omega)
                have RA := read_any wr g' gs' b' N { s with xs := X } HK.out t
                obtain ⟨e1, e2⟩ := HSX.out.readE htN
                rw [e1, e2] at RA
                have RA' := hide RA
                clear RA e1 e2
                go_wp2_with fail
                refine RA'.out.mono ?_
                rintro e wa ⟨a1, l1, k1, rfl, hB1, hba⟩
                have HIa := hide (HI.out.below hba)
                have HKa := hide (HK.out.below hba)
                have HBa := hide (HB.out.trans (hba.mono (HZ.out _ HB.out)))
                have HR1 := hide hB1
                clear hB1 hba RA'
                have RB := read_any wa g gs b N s2 HIa.out t
                obtain ⟨e1, e2⟩ := HS2.out.readE htN
                rw [e1, e2] at RB
                have RB' := hide RB
                clear RB e1 e2
                go_wp2_with fail
                refine RB'.out.mono ?_
                rintro e wb ⟨a2, l2, k2, rfl, hB2, hbb⟩
                have HIb := hide (HIa.out.below hbb)
                have HKb := hide (HKa.out.below hbb)
                have HBb := hide (HBa.out.trans (hbb.mono (HZ.out _ HBa.out)))
                have cv1 := conv_str (HR1.out.below hbb)
                have cv2 := conv_str hB2
                generalize str (full (f t)) = L at *
                clear hB2 hbb RB'
                go_wp2
                go_roundw
                case rel => exact ⟨t + 1, by omega, by omega, by simp, HIb, HKb, HBb⟩
                case measure => simp [intOf]; omega
              · obtain rfl : t = 16 := by omega
                go_wp2
                go_ret
                exact ⟨rfl, HB.out⟩
            · obtain rfl : t = N := by omega
              go_wp2
              go_ret
              exact ⟨rfl, HB.out⟩
      · have SY := hide (sync_dn wr g gs b N st HI.out hdn)
        have DW := hide (down_any wr g gs b N st HI.out)
        rw [hdn] at DW
        go_wp2_with fail
        refine SY.out.mono ?_
        rintro e w5 ⟨rfl, rfl⟩
        go_wp2_with fail
        refine DW.out.mono ?_
        rintro e w6 ⟨rfl, rfl⟩
        go_wp2
        go_ret
        exact ⟨rfl, HB3.out⟩
set_option maxRecDepth 40000 in
set_option maxHeartbeats 4000000 in
/-- DiskSynced, where there is no such disk -/
theorem walk_none (n : Int) (v d : Value) (w : World) (hn : ¬ (1 ≤ n ∧ n ≤ 1024)) :
    Calls Try.prog 9 #[.int .i64 n, v, d] w fun e w' => e = .returned (.bool true) ∧ Below w.heap.size w w' := by
  have LV := hide (lives_true w)
  have NN : Hid (∀ W, Calls Try.prog 10 #[.int .i64 n] W fun e w' => e = .returned (.pointer none) ∧ w' = W) := hide (fun W => new_no W n hn)
  by_cases h1 : n < 1
  · have d1 : decide (n < 1) = true := decide_eq_true h1
    clear hn h1
    go_enter Try.func9, Try.ntmps9
    go_wp2_with fail
    refine LV.out.mono ?_
    rintro e w1 ⟨rfl, hb1⟩
    have HB1 := hide hb1
    clear hb1
    go_wp2_with fail
    refine (NN.out w1).mono ?_
    rintro e w2 ⟨rfl, rfl⟩
    go_wp2
    go_ret
    exact ⟨by simp, HB1.out⟩
  · have d1 : decide (n < 1) = false := decide_eq_false h1
    have d2 : decide (1024 < n) = true := decide_eq_true (by omega)
    clear hn h1
    go_enter Try.func9, Try.ntmps9
    go_wp2_with fail
    refine LV.out.mono ?_
    rintro e w1 ⟨rfl, hb1⟩
    have HB1 := hide hb1
    clear hb1
    go_wp2_with fail
    refine (NN.out w1).mono ?_
    rintro e w2 ⟨rfl, rfl⟩
    go_wp2
    go_ret
    exact ⟨by simp, HB1.out⟩
/-- the walk of DiskSynced -/
theorem lawWalk (n : Int) (sa : Option Addr) (sl sc : Nat) (ls : List Stp) (fa : Option Addr) (fl fc : Nat) (lf : List (Nat × Nat)) (w : World) (_hn : (Lit.int .i64 n).wf = true) (hS : IsSS w sa sl sc ls) (hD : IsF w fa fl fc lf) :
    Calls Try.prog 9 #[.int .i64 n, .slice sa sl sc, .slice fa fl fc] w fun e w' => e = .returned (.bool true) ∧ Below w.heap.size w w' := by
  by_cases h : 1 ≤ n ∧ n ≤ 1024
  · obtain ⟨N, rfl⟩ : ∃ N : Nat, n = N := ⟨n.toNat, by omega⟩
    exact walk_some N sa fa sl sc fl fc ls lf w (by omega) (by omega) hS hD
  · exact walk_none n _ _ w h
end Go.Proofs.Ytdageggojaghmaa.diskSynced
