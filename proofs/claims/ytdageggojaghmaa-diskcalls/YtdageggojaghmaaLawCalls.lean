/- the walk of DiskCalls -/
import Derived.Test.YtdageggojaghmaaG
import Derived.Deep.RegionHeld
namespace Go.Proofs.Ytdageggojaghmaa.diskCalls
open Go.RowKit
theorem readL_len {w : World} {g gs b n : Nat} {st : St} (h : IsD w g gs b n st) (i : Int) : (st.readL n i).length ≤ 4096 := by
  unfold St.readL
  by_cases h1 : st.down = true
  · rw [if_pos h1]; exact Nat.zero_le _
  · rw [if_neg h1]
    by_cases h2 : 0 ≤ i ∧ i < n
    · rw [if_neg (fun e => e h2), full_length (h.dat (by omega)).2]
      exact Nat.le_refl _
    · rw [if_pos h2]; exact Nat.zero_le _
set_option maxRecDepth 40000 in
set_option maxHeartbeats 8000000 in
theorem walk_some (N : Nat) (at0 : Int) (sa ma : Option Addr) (sl sc ml mc : Nat) (ls lm : List Stp) (w : World) (hN0 : 0 < N) (hN : N ≤ 1024) (hS : IsSS w sa sl sc ls) (hM : IsSS w ma ml mc lm) :
    Calls Try.prog 4 #[.int .i64 (N : Int), .slice sa sl sc, .slice ma ml mc, .int .i64 at0] w fun e w' => e = .returned (.bool true) ∧ Below w.heap.size w w' := by
  have LV := hide (lives_true w)
  have NW : Hid (∀ W, Calls Try.prog 10 #[.int .i64 (N : Int)] W fun e w' => ∃ g gs b, e = .returned (.pointer (some ⟨g, 0, none⟩)) ∧ IsD w' g gs b N st0 ∧ Below W.heap.size W w' ∧ ∀ i, SD g gs b i → W.heap.size ≤ i) := hide (fun W => new_ok W N hN0 hN)
  have HS := hide hS
  have HM := hide hM
  have hsc := hS.2.1
  have hmc := hM.2.1
  have hsl : sl ≤ 140737488355328 := by have := hS.2.2.2.1; simp only [reachBytes] at this; omega
  have hml : ml ≤ 140737488355328 := by have := hM.2.2.2.1; simp only [reachBytes] at this; omega
  have HSZ := hide (And.intro hsl hml)
  generalize hB : w.heap.size = B at *
  have HBE := hide hB
  clear hB hS hM
  go_enter Try.func4, Try.ntmps4
  go_wp2_with fail
  refine LV.out.mono ?_
  rintro e w1 ⟨rfl, hb1⟩
  have HB1 := hide hb1
  clear hb1
  go_wp2_with fail
  refine (NW.out w1).mono ?_
  rintro e w2 ⟨g, gs, b, rfl, hI2, hb2, hfr⟩
  have HZ1 : B ≤ w1.heap.size := by have := HB1.out.size; have := HBE.out; omega
  have HFR : Hid (∀ i, SD g gs b i → B ≤ i) := hide (fun i hi => Nat.le_trans HZ1 (hfr i hi))
  have H2 := hide hI2
  have HB2 := hide (HB1.out.trans (hb2.mono HZ1))
  have HZ : Hid (∀ W, Below B w W → B ≤ W.heap.size) := hide (fun W hW => by have := hW.size; have := HBE.out; omega)
  clear hI2 hb2 hfr HZ1
  go_wp2_with fail
  refine (NW.out w2).mono ?_
  rintro e w25 ⟨g2, gs2, b2, rfl, hJ, hb25, hfr2⟩
  have HFR2 : Hid (∀ i, SD g2 gs2 b2 i → B ≤ i) := hide (fun i hi => Nat.le_trans (HZ.out _ HB2.out) (hfr2 i hi))
  have HSP : Hid (∀ i, SD g gs b i → ¬ SD g2 gs2 b2 i) := hide (fun i h1 h2 => by have := sd_lt H2.out i h1; have := hfr2 i h2; omega)
  have HSQ : Hid (∀ i, SD g2 gs2 b2 i → ¬ SD g gs b i) := hide (fun i h1 h2 => HSP.out i h2 h1)
  have H25 := hide (H2.out.below hb25)
  have HJ25 := hide hJ
  have HB25 := hide (HB2.out.trans (hb25.mono (HZ.out _ HB2.out)))
  clear hJ hb25 hfr2 H2
  go_wp2_with fail
  go_loopw [43] (fun i wr => ∃ j : Nat, j ≤ sl ∧ i = .int .i64 j ∧ Hid (IsD wr g gs b N (st0.steps N ls j)) ∧ Hid (IsD wr g2 gs2 b2 N (st0.steps N ls j)) ∧ Hid (Below B w wr)) (fun i _ => sl - (intOf i).toNat)
  case atStart => exact ⟨0, Nat.zero_le _, rfl, H25, HJ25, HB25⟩
  case round =>
    obtain ⟨j, hj, rfl, HI, HJ, HB⟩ := hrel
    have HSB : Hid (IsSS wr sa sl sc ls) := hide (HS.out.below (HBE.out ▸ HB.out))
    have HWA : Hid ((st0.steps N ls j).wr < 4611686018427387904) := hide (by have h1 := steps_wr N ls st0 j; have h2 := HSZ.out.1; have h0 : st0.wr = 0 := rfl; omega)
    have HWB := HWA
    by_cases hlt : j < sl
    · obtain ⟨bs, off, c0, c1, c2, c3, c4, rfl, hbs, z0, z1, z2, z3, z4, hstp⟩ := HSB.out.2.2.2.2 j hlt
      generalize hsj : ls.getD j Stp0 = s at *
      have HSJ := hide hsj
      have HST := hide hstp
      obtain ⟨rfl, rfl, rfl, _, _, ⟨a2, l2, k2, rfl, _⟩, a4, l4, k4, rfl, _⟩ := id hstp
      have HAL := hide (fun o : Obj => (Below.refl wr.heap.size wr).alloc (Nat.le_refl _) o)
      clear hstp hsj
      go_wp2_with fail
      generalize hW : wr.alloc (Obj.cells #[.int .u8 (s.kind : Nat), .int .i64 s.sec, .slice a2 l2 k2, .int .i64 s.cnt, .slice a4 l4 k4] 35) = W1
      have HBW : Hid (Below wr.heap.size wr W1) := hide (by rw [← hW]; exact HAL.out _)
      have HZ1 : Hid (W1.heap[wr.heap.size]? = some (.cells #[.int .u8 (s.kind : Nat), .int .i64 s.sec, .slice a2 l2 k2, .int .i64 s.cnt, .slice a4 l4 k4] 35 (0, 0))) := hide (by rw [← hW]; exact heap_alloc_new wr _)
      have HBD : Hid (Below wr.heap.size wr W1.drew) := hide (HBW.out.trans (Below.drew (Below.refl _ _)))
      generalize hr : wr.heap.size = r at *
      have HR := hide hr
      have HNA : Hid (¬ SD g gs b r) := hide (fun h => by have := sd_lt HI.out r h; have := HR.out; omega)
      have HNB : Hid (¬ SD g2 gs2 b2 r) := hide (fun h => by have := sd_lt HJ.out r h; have := HR.out; omega)
      have HLT := hide (heap_lt HZ1.out)
      have HKP : Hid (∀ W : World, W.heap[r]? = W1.heap[r]? → (fun W : World => W.cell? ⟨r, 0, none⟩ = some (.int .u8 (s.kind : Nat)) ∧ W.cell? ⟨r, 1, none⟩ = some (.int .i64 s.sec) ∧ W.cell? ⟨r, 2, none⟩ = some (.slice a2 l2 k2) ∧ W.cell? ⟨r, 3, none⟩ = some (.int .i64 s.cnt) ∧ W.cell? ⟨r, 4, none⟩ = some (.slice a4 l4 k4)) W) := hide (by
        intro W hW'
        have hr' := hW'.trans HZ1.out
        exact ⟨by simp [World.cell?, hr'], by simp [World.cell?, hr'], by simp [World.cell?, hr'], by simp [World.cell?, hr'], by simp [World.cell?, hr']⟩)
      have HA1 : Hid (IsD W1.drew g gs b N (st0.steps N ls j)) := hide (HI.out.below (HR.out ▸ HBD.out))
      have HB1' : Hid (IsD W1.drew g2 gs2 b2 N (st0.steps N ls j)) := hide (HJ.out.below (HR.out ▸ HBD.out))
      have HS1 := hide (HST.out.below (HR.out ▸ HBD.out))
      have OC := hide (call_any W1.drew g gs b N _ HA1.out _ _ _ _ _ s HS1.out HWA.out)
      clear hW HAL z0 z1 z2 z3 z4 hr
      go_region_held (fun W : World => W.cell? ⟨r, 0, none⟩ = some (.int .u8 (s.kind : Nat)) ∧ W.cell? ⟨r, 1, none⟩ = some (.int .i64 s.sec) ∧ W.cell? ⟨r, 2, none⟩ = some (.slice a2 l2 k2) ∧ W.cell? ⟨r, 3, none⟩ = some (.int .i64 s.cnt) ∧ W.cell? ⟨r, 4, none⟩ = some (.slice a4 l4 k4))
        (first | exact HKP.out _ rfl | exact HKP.out _ hk3 | exact HKP.out _ hk4)
        (first | (go_at_call 16; refine OC.out.mono ?_; rintro e w3 ⟨rfl, hI3, hF3⟩; have hk3 : w3.heap[r]? = W1.heap[r]? := hF3.block r HLT.out HNA.out) | (go_at_call 14; refine (do_any w3 g2 gs2 b2 N _ (HB1'.out.beside HA1.out hF3 HSP.out) _ _ _ _ _ s (HS1.out.frm HA1.out hF3) HWB.out).mono ?_; rintro e w4 ⟨rfl, hI4, hF4⟩; have hk4 : w4.heap[r]? = W1.heap[r]? := (hF4.block r (Nat.lt_of_lt_of_le HLT.out hF3.size) HNB.out).trans hk3))
      all_goals
        have HI4 : Hid (IsD w4 g gs b N _) := hide (hI3.beside (HB1'.out.beside HA1.out hF3 HSP.out) hF4 HSQ.out)
        have HJ4 := hide hI4
        have HBB := hide (HB.out.trans ((HBD.out.mono (by have := HZ.out _ HB.out; have := HR.out; omega)).trans ((hF3.toBelow (HZ.out _ (HB.out.trans (HBD.out.mono (by have := HZ.out _ HB.out; have := HR.out; omega)))) HFR.out).trans (hF4.toBelow (Nat.le_trans (HZ.out _ (HB.out.trans (HBD.out.mono (by have := HZ.out _ HB.out; have := HR.out; omega)))) hF3.size) HFR2.out))))
        rw [← HSJ.out] at HI4 HJ4
        clear hI3 hF3 hk3 hI4 hF4 hk4
        go_wp2
        go_roundw
        case rel => exact ⟨j + 1, by omega, by simp, HI4, HJ4, HBB⟩
        case measure => simp [intOf]; omega
    · obtain rfl : j = sl := by omega
      have HWS : Hid ((st0.steps N ls j).wr ≤ 140737488355328) := hide (by have h1 := steps_wr N ls st0 j; have h2 := HSZ.out.1; have h0 : st0.wr = 0 := rfl; omega)
      generalize St.steps N ls st0 j = st at *
      clear hlt HSB
      go_wp2_with fail
      refine (fork_any wr g gs b N st HI.out).mono ?_
      rintro e w5 ⟨g3, gs3, b3, X, rfl, hI5, hb5, hfr5⟩
      have HF5 : Hid (IsD w5 g3 gs3 b3 N (st.wide X)) := hide hI5
      have HA5 := hide (HI.out.below hb5)
      have HJ5 := hide (HJ.out.below hb5)
      have HB5 := hide (HB.out.trans (hb5.mono (HZ.out _ HB.out)))
      have HS3A : Hid (∀ i, SD g3 gs3 b3 i → ¬ SD g gs b i) := hide (fun i h1 h2 => by have := sd_lt HI.out i h2; have := hfr5 i h1; omega)
      have HS3B : Hid (∀ i, SD g3 gs3 b3 i → ¬ SD g2 gs2 b2 i) := hide (fun i h1 h2 => by have := sd_lt HJ.out i h2; have := hfr5 i h1; omega)
      have HFR3 : Hid (∀ i, SD g3 gs3 b3 i → B ≤ i) := hide (fun i hi => Nat.le_trans (HZ.out _ HB.out) (hfr5 i hi))
      have HSQA := HSQ
      clear hI5 hb5 hfr5 HSP HSQ HFR HWA HWB
      have HSP := HS3B
      have HSQ : Hid (∀ i, SD g2 gs2 b2 i → ¬ SD g3 gs3 b3 i) := hide (fun i h1 h2 => HS3B.out i h2 h1)
      have HFR := HFR3
      go_wp2_with fail
      refine (read_row w5 g gs b N st HA5.out at0).mono ?_
      rintro e w6 ⟨a1, l1, k1, rfl, hB6, hrow, hb6⟩
      have cv := conv_str hB6
      have HB6' := hide hB6
      rcases hrow with rfl | ⟨q, rfl, hq, hrow⟩
      · have HF8 := hide (HF5.out.below hb6)
        have HA8 := hide (HA5.out.below hb6)
        have HJ8 := hide (HJ5.out.below hb6)
        have HB8 := hide (HB5.out.trans (hb6.mono (HZ.out _ HB5.out)))
        clear hB6 hb6
        go_wp2_with fail
        go_loopw [69] (fun i wr => i = .int .i64 0 ∧ wr = w6) (fun _ _ => 0)
        case atStart => exact ⟨rfl, rfl⟩
        case round =>
          obtain ⟨rfl, rfl⟩ := hrel
          go_wp2_with fail
          go_loopw [81] (fun i wr => ∃ j : Nat, j ≤ ml ∧ i = .int .i64 j ∧ Hid (IsD wr g3 gs3 b3 N ((st.steps N lm j).wide X)) ∧ Hid (IsD wr g2 gs2 b2 N (st.steps N lm j)) ∧ Hid (IsD wr g gs b N st) ∧ Hid (Below B w wr)) (fun i _ => ml - (intOf i).toNat)
          case atStart => exact ⟨0, Nat.zero_le _, rfl, HF8, HJ8, HA8, HB8⟩
          case round =>
            obtain ⟨j, hj, rfl, HI, HJ, HK, HB⟩ := hrel
            have HSB : Hid (IsSS wr ma ml mc lm) := hide (HM.out.below (HBE.out ▸ HB.out))
            have HWB : Hid ((st.steps N lm j).wr < 4611686018427387904) := hide (by have h1 := steps_wr N lm st j; have h2 := HSZ.out.2; have h0 := HWS.out; omega)
            have HWA : Hid (((st.steps N lm j).wide X).wr < 4611686018427387904) := HWB
            by_cases hlt : j < ml
            · obtain ⟨bs, off, c0, c1, c2, c3, c4, rfl, hbs, z0, z1, z2, z3, z4, hstp⟩ := HSB.out.2.2.2.2 j hlt
              generalize hsj : lm.getD j Stp0 = s at *
              have HSJ := hide hsj
              have HST := hide hstp
              obtain ⟨rfl, rfl, rfl, _, _, ⟨a2, l2, k2, rfl, _⟩, a4, l4, k4, rfl, _⟩ := id hstp
              have HAL := hide (fun o : Obj => (Below.refl wr.heap.size wr).alloc (Nat.le_refl _) o)
              clear hstp hsj
              go_wp2_with fail
              generalize hW : wr.alloc (Obj.cells #[.int .u8 (s.kind : Nat), .int .i64 s.sec, .slice a2 l2 k2, .int .i64 s.cnt, .slice a4 l4 k4] 35) = W1
              have HBW : Hid (Below wr.heap.size wr W1) := hide (by rw [← hW]; exact HAL.out _)
              have HZ1 : Hid (W1.heap[wr.heap.size]? = some (.cells #[.int .u8 (s.kind : Nat), .int .i64 s.sec, .slice a2 l2 k2, .int .i64 s.cnt, .slice a4 l4 k4] 35 (0, 0))) := hide (by rw [← hW]; exact heap_alloc_new wr _)
              have HBD : Hid (Below wr.heap.size wr W1.drew) := hide (HBW.out.trans (Below.drew (Below.refl _ _)))
              generalize hr : wr.heap.size = r at *
              have HR := hide hr
              have HNA : Hid (¬ SD g3 gs3 b3 r) := hide (fun h => by have := sd_lt HI.out r h; have := HR.out; omega)
              have HNB : Hid (¬ SD g2 gs2 b2 r) := hide (fun h => by have := sd_lt HJ.out r h; have := HR.out; omega)
              have HLT := hide (heap_lt HZ1.out)
              have HKP : Hid (∀ W : World, W.heap[r]? = W1.heap[r]? → (fun W : World => W.cell? ⟨r, 0, none⟩ = some (.int .u8 (s.kind : Nat)) ∧ W.cell? ⟨r, 1, none⟩ = some (.int .i64 s.sec) ∧ W.cell? ⟨r, 2, none⟩ = some (.slice a2 l2 k2) ∧ W.cell? ⟨r, 3, none⟩ = some (.int .i64 s.cnt) ∧ W.cell? ⟨r, 4, none⟩ = some (.slice a4 l4 k4)) W) := hide (by
                intro W hW'
                have hr' := hW'.trans HZ1.out
                exact ⟨by simp [World.cell?, hr'], by simp [World.cell?, hr'], by simp [World.cell?, hr'], by simp [World.cell?, hr'], by simp [World.cell?, hr']⟩)
              have HA1 : Hid (IsD W1.drew g3 gs3 b3 N ((st.steps N lm j).wide X)) := hide (HI.out.below (HR.out ▸ HBD.out))
              have HB1' : Hid (IsD W1.drew g2 gs2 b2 N (st.steps N lm j)) := hide (HJ.out.below (HR.out ▸ HBD.out))
              have HS1 := hide (HST.out.below (HR.out ▸ HBD.out))
              have OC0 := do_any W1.drew g3 gs3 b3 N _ HA1.out _ _ _ _ _ s HS1.out HWA.out
              rw [step_xs] at OC0
              have OC := hide OC0
              clear OC0 hW HAL z0 z1 z2 z3 z4 hr
              go_region_held (fun W : World => W.cell? ⟨r, 0, none⟩ = some (.int .u8 (s.kind : Nat)) ∧ W.cell? ⟨r, 1, none⟩ = some (.int .i64 s.sec) ∧ W.cell? ⟨r, 2, none⟩ = some (.slice a2 l2 k2) ∧ W.cell? ⟨r, 3, none⟩ = some (.int .i64 s.cnt) ∧ W.cell? ⟨r, 4, none⟩ = some (.slice a4 l4 k4))
                (first | exact HKP.out _ rfl | exact HKP.out _ hk3 | exact HKP.out _ hk4)
                (first | (go_at_call_of 14 g3; refine OC.out.mono ?_; rintro e w3 ⟨rfl, hI3, hF3⟩; have hk3 : w3.heap[r]? = W1.heap[r]? := hF3.block r HLT.out HNA.out) | (go_at_call_of 14 g2; refine (do_any w3 g2 gs2 b2 N _ (HB1'.out.beside HA1.out hF3 HSP.out) _ _ _ _ _ s (HS1.out.frm HA1.out hF3) HWB.out).mono ?_; rintro e w4 ⟨rfl, hI4, hF4⟩; have hk4 : w4.heap[r]? = W1.heap[r]? := (hF4.block r (Nat.lt_of_lt_of_le HLT.out hF3.size) HNB.out).trans hk3))
              all_goals
                have HI4 : Hid (IsD w4 g3 gs3 b3 N _) := hide (hI3.beside (HB1'.out.beside HA1.out hF3 HSP.out) hF4 HSQ.out)
                have HJ4 := hide hI4
                have HBB := hide (HB.out.trans ((HBD.out.mono (by have := HZ.out _ HB.out; have := HR.out; omega)).trans ((hF3.toBelow (HZ.out _ (HB.out.trans (HBD.out.mono (by have := HZ.out _ HB.out; have := HR.out; omega)))) HFR.out).trans (hF4.toBelow (Nat.le_trans (HZ.out _ (HB.out.trans (HBD.out.mono (by have := HZ.out _ HB.out; have := HR.out; omega)))) hF3.size) HFR2.out))))
                rw [← HSJ.out] at HI4 HJ4
                have HK4 : Hid (IsD w4 g gs b N st) := hide (((HK.out.below (HR.out ▸ HBD.out)).beside HA1.out hF3 HS3A.out).beside (HB1'.out.beside HA1.out hF3 HSP.out) hF4 HSQA.out)
                clear hI3 hF3 hk3 hI4 hF4 hk4
                go_wp2
                go_roundw
                case rel => exact ⟨j + 1, by omega, by simp, HI4, HJ4, HK4, HBB⟩
                case measure => simp [intOf]; omega
            · obtain rfl : j = ml := by omega
              generalize st.steps N lm j = sb at *
              clear hlt HSB HWA HWB
              go_wp2_with fail
              refine (read_any wr g3 gs3 b3 N _ HI.out at0).mono ?_
              rintro e wx ⟨ax, lx, kx, rfl, hBx, hbx⟩
              have HJx := hide (HJ.out.below hbx)
              have HKx := hide (HK.out.below hbx)
              have HBx := hide (HB.out.trans (hbx.mono (HZ.out _ HB.out)))
              have HRx := hide hBx
              clear hBx hbx
              go_wp2_with fail
              refine (read_any wx g2 gs2 b2 N _ HJx.out at0).mono ?_
              rintro e wy ⟨ay, ly, ky, rfl, hBy, hby⟩
              have HKy := hide (HKx.out.below hby)
              have HBy := hide (HBx.out.trans (hby.mono (HZ.out _ HBx.out)))
              have HRx2 := hide (HRx.out.below hby)
              have HRy := hide hBy
              clear hBy hby
              go_wp2_with fail
              refine (read_any wy g gs b N _ HKy.out at0).mono ?_
              rintro e wz ⟨az, lz, kz, rfl, hBz, hbz⟩
              have HBz := hide (HBy.out.trans (hbz.mono (HZ.out _ HBy.out)))
              have cvx : (convert 32 9 (.slice ax lx kx)).run Try.prog wz = .ok (.string (str (sb.readL N at0))) wz := conv_str (HRx2.out.below hbz)
              have cvy := conv_str (HRy.out.below hbz)
              have cvz := conv_str hBz
              have heE : (sb.wide X).readE N at0 = sb.readE N at0 := rfl
              rw [heE]
              generalize str (sb.readL N at0) = Lb at *
              generalize str (st.readL N at0) = La at *
              generalize sb.readE N at0 = Eb at *
              generalize st.readE N at0 = Ea at *
              clear hBz hbz heE
              go_wp2
              go_ret
              exact ⟨by simp, HBz.out⟩
      · have HRW := hide hrow
        have HQ := hide hq
        have HB6 := hide hb6
        have HXS : Hid (∀ x ∈ st.readL N at0, x < 256) := hide hB6.2.2.2.1
        have hlk := hB6.2.1
        have HLM := hide hB6.2.2.1
        have hl4 : l1 ≤ 4096 := by
          have h1 := hB6.1
          have h2 : (st.readL N at0).length ≤ 4096 := readL_len HA5.out at0
          omega
        clear hB6 hb6 hq hrow
        go_wp2_with fail
        go_loopw [69] (fun i wr => ∃ t : Nat, t ≤ l1 ∧ i = .int .i64 t ∧ Hid (∃ m, Row wr q l1 k1 m ∧ ∀ x ∈ m, x < 256) ∧ Hid (Below w5.heap.size w5 wr)) (fun i _ => l1 - (intOf i).toNat)
        case atStart => exact ⟨0, Nat.zero_le _, rfl, hide ⟨_, HRW.out, HXS.out⟩, HB6⟩
        case round =>
          obtain ⟨t, ht, rfl, HRR, HBT⟩ := hrel
          by_cases htl : t < l1
          · obtain ⟨m, hrw, hm⟩ := HRR.out
            have hc := hrw.cell htl
            have hfz := hrw.frozen t
            have hx := getD_lt m t hm
            generalize m.getD t 0 = x at *
            have hwx : IntKind.u8.wrap ((x : Int) + 1) = (((x + 1) % 256 : Nat) : Int) := by
              simp [IntKind.wrap, IntKind.bits, IntKind.signed]
            have HNR : Hid (∃ m', Row (wr.setCell ⟨q, t, none⟩ (.int .u8 (((x + 1) % 256 : Nat) : Int))) q l1 k1 m' ∧ ∀ x ∈ m', x < 256) := hide ⟨_, hrw.set t _, mem_set hm (Nat.mod_lt _ (by decide))⟩
            have HBN : Hid (Below w5.heap.size w5 (wr.setCell ⟨q, t, none⟩ (.int .u8 (((x + 1) % 256 : Nat) : Int)))) := hide (HBT.out.trans (Frm.toBelow (S := fun i => i = q) (Frm.set (S := fun i => i = q) (Frm.refl _ _) rfl _) HBT.out.size (fun i hi => by have := HQ.out; omega)))
            generalize hy : (((x + 1) % 256 : Nat) : Int) = y at *
            clear hrw hm hx hy
            go_wp2
            go_roundw
            case rel => exact ⟨t + 1, by omega, by simp, HNR, HBN⟩
            case measure => simp [intOf]; omega
          · obtain rfl : t = l1 := by omega
            have HF8 := hide (HF5.out.below HBT.out)
            have HA8 := hide (HA5.out.below HBT.out)
            have HJ8 := hide (HJ5.out.below HBT.out)
            have HB8 := hide (HB5.out.trans (HBT.out.mono (HZ.out _ HB5.out)))
            clear cv htl
            go_wp2_with fail
            go_loopw [81] (fun i wr => ∃ j : Nat, j ≤ ml ∧ i = .int .i64 j ∧ Hid (IsD wr g3 gs3 b3 N ((st.steps N lm j).wide X)) ∧ Hid (IsD wr g2 gs2 b2 N (st.steps N lm j)) ∧ Hid (IsD wr g gs b N st) ∧ Hid (Below B w wr)) (fun i _ => ml - (intOf i).toNat)
            case atStart => exact ⟨0, Nat.zero_le _, rfl, HF8, HJ8, HA8, HB8⟩
            case round =>
              obtain ⟨j, hj, rfl, HI, HJ, HK, HB⟩ := hrel
              have HSB : Hid (IsSS wr ma ml mc lm) := hide (HM.out.below (HBE.out ▸ HB.out))
              have HWB : Hid ((st.steps N lm j).wr < 4611686018427387904) := hide (by have h1 := steps_wr N lm st j; have h2 := HSZ.out.2; have h0 := HWS.out; omega)
              have HWA : Hid (((st.steps N lm j).wide X).wr < 4611686018427387904) := HWB
              by_cases hlt : j < ml
              · obtain ⟨bs, off, c0, c1, c2, c3, c4, rfl, hbs, z0, z1, z2, z3, z4, hstp⟩ := HSB.out.2.2.2.2 j hlt
                generalize hsj : lm.getD j Stp0 = s at *
                have HSJ := hide hsj
                have HST := hide hstp
                obtain ⟨rfl, rfl, rfl, _, _, ⟨a2, l2, k2, rfl, _⟩, a4, l4, k4, rfl, _⟩ := id hstp
                have HAL := hide (fun o : Obj => (Below.refl wr.heap.size wr).alloc (Nat.le_refl _) o)
                clear hstp hsj
                go_wp2_with fail
                generalize hW : wr.alloc (Obj.cells #[.int .u8 (s.kind : Nat), .int .i64 s.sec, .slice a2 l2 k2, .int .i64 s.cnt, .slice a4 l4 k4] 35) = W1
                have HBW : Hid (Below wr.heap.size wr W1) := hide (by rw [← hW]; exact HAL.out _)
                have HZ1 : Hid (W1.heap[wr.heap.size]? = some (.cells #[.int .u8 (s.kind : Nat), .int .i64 s.sec, .slice a2 l2 k2, .int .i64 s.cnt, .slice a4 l4 k4] 35 (0, 0))) := hide (by rw [← hW]; exact heap_alloc_new wr _)
                have HBD : Hid (Below wr.heap.size wr W1.drew) := hide (HBW.out.trans (Below.drew (Below.refl _ _)))
                generalize hr : wr.heap.size = r at *
                have HR := hide hr
                have HNA : Hid (¬ SD g3 gs3 b3 r) := hide (fun h => by have := sd_lt HI.out r h; have := HR.out; omega)
                have HNB : Hid (¬ SD g2 gs2 b2 r) := hide (fun h => by have := sd_lt HJ.out r h; have := HR.out; omega)
                have HLT := hide (heap_lt HZ1.out)
                have HKP : Hid (∀ W : World, W.heap[r]? = W1.heap[r]? → (fun W : World => W.cell? ⟨r, 0, none⟩ = some (.int .u8 (s.kind : Nat)) ∧ W.cell? ⟨r, 1, none⟩ = some (.int .i64 s.sec) ∧ W.cell? ⟨r, 2, none⟩ = some (.slice a2 l2 k2) ∧ W.cell? ⟨r, 3, none⟩ = some (.int .i64 s.cnt) ∧ W.cell? ⟨r, 4, none⟩ = some (.slice a4 l4 k4)) W) := hide (by
                  intro W hW'
                  have hr' := hW'.trans HZ1.out
                  exact ⟨by simp [World.cell?, hr'], by simp [World.cell?, hr'], by simp [World.cell?, hr'], by simp [World.cell?, hr'], by simp [World.cell?, hr']⟩)
                have HA1 : Hid (IsD W1.drew g3 gs3 b3 N ((st.steps N lm j).wide X)) := hide (HI.out.below (HR.out ▸ HBD.out))
                have HB1' : Hid (IsD W1.drew g2 gs2 b2 N (st.steps N lm j)) := hide (HJ.out.below (HR.out ▸ HBD.out))
                have HS1 := hide (HST.out.below (HR.out ▸ HBD.out))
                have OC0 := do_any W1.drew g3 gs3 b3 N _ HA1.out _ _ _ _ _ s HS1.out HWA.out
                rw [step_xs] at OC0
                have OC := hide OC0
                clear OC0 hW HAL z0 z1 z2 z3 z4 hr
                go_region_held (fun W : World => W.cell? ⟨r, 0, none⟩ = some (.int .u8 (s.kind : Nat)) ∧ W.cell? ⟨r, 1, none⟩ = some (.int .i64 s.sec) ∧ W.cell? ⟨r, 2, none⟩ = some (.slice a2 l2 k2) ∧ W.cell? ⟨r, 3, none⟩ = some (.int .i64 s.cnt) ∧ W.cell? ⟨r, 4, none⟩ = some (.slice a4 l4 k4))
                  (first | exact HKP.out _ rfl | exact HKP.out _ hk3 | exact HKP.out _ hk4)
                  (first | (go_at_call_of 14 g3; refine OC.out.mono ?_; rintro e w3 ⟨rfl, hI3, hF3⟩; have hk3 : w3.heap[r]? = W1.heap[r]? := hF3.block r HLT.out HNA.out) | (go_at_call_of 14 g2; refine (do_any w3 g2 gs2 b2 N _ (HB1'.out.beside HA1.out hF3 HSP.out) _ _ _ _ _ s (HS1.out.frm HA1.out hF3) HWB.out).mono ?_; rintro e w4 ⟨rfl, hI4, hF4⟩; have hk4 : w4.heap[r]? = W1.heap[r]? := (hF4.block r (Nat.lt_of_lt_of_le HLT.out hF3.size) HNB.out).trans hk3))
                all_goals
                  have HI4 : Hid (IsD w4 g3 gs3 b3 N _) := hide (hI3.beside (HB1'.out.beside HA1.out hF3 HSP.out) hF4 HSQ.out)
                  have HJ4 := hide hI4
                  have HBB := hide (HB.out.trans ((HBD.out.mono (by have := HZ.out _ HB.out; have := HR.out; omega)).trans ((hF3.toBelow (HZ.out _ (HB.out.trans (HBD.out.mono (by have := HZ.out _ HB.out; have := HR.out; omega)))) HFR.out).trans (hF4.toBelow (Nat.le_trans (HZ.out _ (HB.out.trans (HBD.out.mono (by have := HZ.out _ HB.out; have := HR.out; omega)))) hF3.size) HFR2.out))))
                  rw [← HSJ.out] at HI4 HJ4
                  have HK4 : Hid (IsD w4 g gs b N st) := hide (((HK.out.below (HR.out ▸ HBD.out)).beside HA1.out hF3 HS3A.out).beside (HB1'.out.beside HA1.out hF3 HSP.out) hF4 HSQA.out)
                  clear hI3 hF3 hk3 hI4 hF4 hk4
                  go_wp2
                  go_roundw
                  case rel => exact ⟨j + 1, by omega, by simp, HI4, HJ4, HK4, HBB⟩
                  case measure => simp [intOf]; omega
              · obtain rfl : j = ml := by omega
                generalize st.steps N lm j = sb at *
                clear hlt HSB HWA HWB
                go_wp2_with fail
                refine (read_any wr g3 gs3 b3 N _ HI.out at0).mono ?_
                rintro e wx ⟨ax, lx, kx, rfl, hBx, hbx⟩
                have HJx := hide (HJ.out.below hbx)
                have HKx := hide (HK.out.below hbx)
                have HBx := hide (HB.out.trans (hbx.mono (HZ.out _ HB.out)))
                have HRx := hide hBx
                clear hBx hbx
                go_wp2_with fail
                refine (read_any wx g2 gs2 b2 N _ HJx.out at0).mono ?_
                rintro e wy ⟨ay, ly, ky, rfl, hBy, hby⟩
                have HKy := hide (HKx.out.below hby)
                have HBy := hide (HBx.out.trans (hby.mono (HZ.out _ HBx.out)))
                have HRx2 := hide (HRx.out.below hby)
                have HRy := hide hBy
                clear hBy hby
                go_wp2_with fail
                refine (read_any wy g gs b N _ HKy.out at0).mono ?_
                rintro e wz ⟨az, lz, kz, rfl, hBz, hbz⟩
                have HBz := hide (HBy.out.trans (hbz.mono (HZ.out _ HBy.out)))
                have cvx : (convert 32 9 (.slice ax lx kx)).run Try.prog wz = .ok (.string (str (sb.readL N at0))) wz := conv_str (HRx2.out.below hbz)
                have cvy := conv_str (HRy.out.below hbz)
                have cvz := conv_str hBz
                have heE : (sb.wide X).readE N at0 = sb.readE N at0 := rfl
                rw [heE]
                generalize str (sb.readL N at0) = Lb at *
                generalize str (st.readL N at0) = La at *
                generalize sb.readE N at0 = Eb at *
                generalize st.readE N at0 = Ea at *
                clear hBz hbz heE
                go_wp2
                go_ret
                exact ⟨by simp, HBz.out⟩
set_option maxRecDepth 40000 in
set_option maxHeartbeats 4000000 in
theorem walk_none (n at0 : Int) (v d : Value) (w : World) (hn : ¬ (1 ≤ n ∧ n ≤ 1024)) :
    Calls Try.prog 4 #[.int .i64 n, v, d, .int .i64 at0] w fun e w' => e = .returned (.bool true) ∧ Below w.heap.size w w' := by
  have LV := hide (lives_true w)
  have NN : Hid (∀ W, Calls Try.prog 10 #[.int .i64 n] W fun e w' => e = .returned (.pointer none) ∧ w' = W) := hide (fun W => new_no W n hn)
  clear hn
  go_enter Try.func4, Try.ntmps4
  go_wp2_with fail
  refine LV.out.mono ?_
  rintro e w1 ⟨rfl, hb1⟩
  have HB1 := hide hb1
  clear hb1
  go_wp2_with fail
  refine (NN.out w1).mono ?_
  rintro e w2 ⟨rfl, rfl⟩
  go_wp2_with fail
  refine (NN.out w2).mono ?_
  rintro e w3 ⟨rfl, rfl⟩
  go_wp2
  go_ret
  exact ⟨by simp, HB1.out⟩
/-- the walk of DiskCalls -/
theorem lawWalk (n : Int) (sa : Option Addr) (sl sc : Nat) (ls : List Stp) (ma : Option Addr) (ml mc : Nat) (lm : List Stp) (at0 : Int) (w : World) (_hn : (Lit.int .i64 n).wf = true) (hS : IsSS w sa sl sc ls) (hM : IsSS w ma ml mc lm) (_ha : (Lit.int .i64 at0).wf = true) :
    Calls Try.prog 4 #[.int .i64 n, .slice sa sl sc, .slice ma ml mc, .int .i64 at0] w fun e w' => e = .returned (.bool true) ∧ Below w.heap.size w w' := by
  by_cases h : 1 ≤ n ∧ n ≤ 1024
  · obtain ⟨N, rfl⟩ : ∃ N : Nat, n = N := ⟨n.toNat, by omega⟩
    exact walk_some N at0 sa ma sl sc ml mc ls lm w (by omega) (by omega) hS hM
  · exact walk_none n at0 _ _ w h
end Go.Proofs.Ytdageggojaghmaa.diskCalls
