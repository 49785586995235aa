/- the walk of DiskApart -/
import Derived.Test.YtdageggojaghmaaD
namespace Go.Proofs.Ytdageggojaghmaa.diskApart
open Go.RowKit
theorem rest_wr (n : Nat) (l : List (Nat × Nat)) (st : St) : (st.rest n l).1.wr = st.wr := by
  unfold St.rest
  repeat' split
  all_goals rfl
theorem write_cases (s : St) (n : Nat) (i : Int) (l : List Nat) (hd : s.down = false) (ha : s.arm = false) :
    ((s.write n i l).1 = s ∧ (s.write n i l).2 ≠ 0) ∨ (0 ≤ i ∧ i < n ∧ l.length ≤ 4096 ∧ s.write n i l = (s.goes i.toNat l, 0)) := by
  have hd' : ¬ s.down = true := by rw [hd]; simp
  by_cases hi : 0 ≤ i ∧ i < n
  · by_cases hl : 4096 < l.length
    · left; unfold St.write; rw [if_neg hd', if_neg (fun e => e hi), if_pos hl]; exact ⟨rfl, fun e => by cases e⟩
    · right; refine ⟨hi.1, hi.2, by omega, ?_⟩
      unfold St.write; rw [if_neg hd', if_neg (fun e => e hi), if_neg hl, if_neg (by rw [ha]; simp)]
  · left; unfold St.write; rw [if_neg hd', if_pos hi]; exact ⟨rfl, fun e => by cases e⟩
theorem goes_same (s : St) (n : Nat) (i : Nat) (l : List Nat) (ha : s.arm = false) (k : Int) (hk : (i : Int) ≠ k) : (s.goes i l).readE n k = s.readE n k ∧ (s.goes i l).readL n k = s.readL n k := by
  have h1 : (s.goes i l).down = s.down := by unfold St.goes; rw [ha]; rfl
  unfold St.readE St.readL
  rw [h1]
  refine ⟨rfl, ?_⟩
  by_cases hi : 0 ≤ k ∧ k < n
  · have h2 : (s.goes i l).reads k.toNat = s.reads k.toNat := by
      have hne : ¬ k.toNat = i := by omega
      unfold St.goes St.reads St.puts
      rw [ha]
      simp [hne]
    rw [h2]
  · simp only [hi, not_false_eq_true, if_true]
theorem full_take (l : List Nat) : (full l).take l.length = l := by simp [full, fullN]
theorem fullN_drop (N : Nat) (l : List Nat) (j : Nat) (hj : l.length ≤ j) : (fullN N l).getD j 0 = 0 := by
  rw [fullN, List.getD_eq_getElem?_getD, List.getElem?_append_right hj]
  cases h : (List.replicate (N - l.length) 0)[j - l.length]? with
  | none => rfl
  | some x => exact List.eq_of_mem_replicate (List.mem_of_getElem? h)
theorem goes_reads (s : St) (i : Nat) (l : List Nat) (ha : s.arm = false) : (s.goes i l).reads i = l ∧ (s.goes i l).down = s.down := by
  unfold St.goes St.reads St.puts
  rw [ha]
  simp
set_option maxRecDepth 40000 in
set_option maxHeartbeats 4000000 in
theorem walk_some (N : Nat) (i k : Int) (sa da : Option Addr) (sl sc dl dc : Nat) (ls : List Stp) (ld : List Nat) (w : World) (hN0 : 0 < N) (hN : N ≤ 1024) (hS : IsSS w sa sl sc ls) (hD : IsB w da dl dc ld) :
    Calls Try.prog 8 #[.int .i64 (N : Int), .slice sa sl sc, .int .i64 i, .int .i64 k, .slice da dl dc] w fun e w' => e = .returned (.bool true) ∧ Below w.heap.size w w' := by
  have LV := hide (lives_true w)
  have NW : Hid (∀ W, Calls Try.prog 10 #[.int .i64 (N : Int)] W fun e w' => ∃ g gs b, e = .returned (.pointer (some ⟨g, 0, none⟩)) ∧ IsD w' g gs b N st0 ∧ Below W.heap.size W w' ∧ ∀ i, SD g gs b i → W.heap.size ≤ i) := hide (fun W => new_ok W N hN0 hN)
  have HS := hide hS
  have HD := hide hD
  have hsc := hS.2.1
  have hsl : sl ≤ 140737488355328 := by have := hS.2.2.2.1; simp only [reachBytes] at this; omega
  have HSZ := hide hsl
  have HLS := hide hS.1
  generalize hB : w.heap.size = B at *
  have HBE := hide hB
  clear hB hS hD
  go_enter Try.func8, Try.ntmps8
  go_wp2_with fail
  refine LV.out.mono ?_
  rintro e w1 ⟨rfl, hb1⟩
  have HB1 := hide hb1
  clear hb1
  go_wp2_with fail
  refine (NW.out w1).mono ?_
  rintro e w2 ⟨g, gs, b, rfl, hI2, hb2, hfr⟩
  have HZ1 : B ≤ w1.heap.size := by have := HB1.out.size; have := HBE.out; omega
  have HFR : Hid (∀ i, SD g gs b i → B ≤ i) := hide (fun i hi => Nat.le_trans HZ1 (hfr i hi))
  have H2 := hide hI2
  have HB2 := hide (HB1.out.trans (hb2.mono HZ1))
  have HZ : Hid (∀ W, Below B w W → B ≤ W.heap.size) := hide (fun W hW => by have := hW.size; have := HBE.out; omega)
  clear hI2 hb2 hfr HZ1
  go_wp2_with fail
  go_loopw [37] (fun i wr => ∃ j : Nat, j ≤ sl ∧ i = .int .i64 j ∧ Hid (IsD wr g gs b N (st0.steps N ls j)) ∧ Hid (Frm (SD g gs b) w2 wr)) (fun i _ => sl - (intOf i).toNat)
  case atStart => exact ⟨0, Nat.zero_le _, rfl, H2, hide (Frm.refl _ _)⟩
  case round =>
    obtain ⟨j, hj, rfl, HI, HF⟩ := hrel
    have HSB : Hid (IsSS wr sa sl sc ls) := hide ((HS.out.below (HBE.out ▸ HB2.out)).frm H2.out HF.out)
    by_cases hlt : j < sl
    · obtain ⟨bs, off, c0, c1, c2, c3, c4, rfl, hbs, z0, z1, z2, z3, z4, hstp⟩ := HSB.out.2.2.2.2 j hlt
      generalize hsj : ls.getD j Stp0 = s at *
      have HSJ := hide hsj
      have HST := hide hstp
      obtain ⟨rfl, rfl, rfl, _, _, ⟨a2, l2, k2, rfl, _⟩, a4, l4, k4, rfl, _⟩ := id hstp
      have HWR : Hid ((st0.steps N ls j).wr < 4611686018427387904) := hide (by have h1 := steps_wr N ls st0 j; have h2 := HSZ.out; have h0 : st0.wr = 0 := rfl; omega)
      have HAL := hide (fun o : Obj => (Below.refl wr.heap.size wr).alloc (Nat.le_refl _) o)
      clear hstp hsj
      go_wp2_with fail
      generalize hW : wr.alloc (Obj.cells #[.int .u8 (s.kind : Nat), .int .i64 s.sec, .slice a2 l2 k2, .int .i64 s.cnt, .slice a4 l4 k4] 35) = W1
      have HBW : Hid (Below wr.heap.size wr W1) := hide (by rw [← hW]; exact HAL.out _)
      clear hW HAL z0 z1 z2 z3 z4
      refine (do_any W1 g gs b N _ (HI.out.below HBW.out) _ _ _ _ _ s (HST.out.below HBW.out) HWR.out).mono ?_
      rintro e w3 ⟨rfl, hI3, hF3⟩
      have HI3 : Hid (IsD w3 g gs b N (st0.steps N ls (j + 1))) := hide (by simp only [St.steps]; rw [HSJ.out]; exact hI3)
      have HF3 := hide (HF.out.trans ((Frm.below (S := SD g gs b) HBW.out).trans hF3))
      clear hI3 hF3
      go_wp2
      go_roundw
      case rel => exact ⟨j + 1, by omega, by simp, HI3, HF3⟩
      case measure => simp [intOf]; omega
    · obtain rfl : j = sl := by omega
      have HB3 := hide (HB2.out.trans (HF.out.toBelow (HZ.out _ HB2.out) HFR.out))
      have HDB : Hid (IsB wr da dl dc ld) := hide ((HD.out.below (HBE.out ▸ HB2.out)).frm H2.out HF.out)
      generalize hst : St.steps N ls st0 j = st at *
      have DW := hide (down_any wr g gs b N st HI.out)
      have HWR : Hid (st.wr ≤ 140737488355328) := hide (by have h1 := steps_wr N ls st0 j; have h2 := HSZ.out; have h0 : st0.wr = 0 := rfl; rw [hst] at h1; omega)
      clear hst hlt
      go_wp2_with fail
      refine DW.out.mono ?_
      rintro e w5 ⟨rfl, rfl⟩
      cases hdn : st.down
      · have HU : Hid (IsD w5 g gs b N (st.ups N)) := hide (by unfold St.ups; rw [if_neg (by rw [hdn]; simp)]; exact HI.out)
        have HUW : Hid ((st.ups N).wr ≤ 140737488355328) := hide (by unfold St.ups; rw [if_neg (by rw [hdn]; simp)]; exact HWR.out)
        have HUD := hide (ups_down N st)
        generalize st.ups N = su at *
        clear hdn HI HWR DW
        go_wp2_with fail
        refine (arm_up w5 g gs b N su HU.out HUD.out (-1) (by omega)).mono ?_
        rintro e w7 ⟨rfl, hI7, hF7⟩
        have HB7 := hide (HB3.out.trans (hF7.toBelow (HZ.out _ HB3.out) HFR.out))
        have HD7 := hide (HDB.out.frm HU.out hF7)
        have H7 := hide hI7
        have H7D : Hid ((su.arms (-1)).down = false) := HUD
        have H7A : Hid ((su.arms (-1)).arm = false) := hide (by simp [St.arms])
        have H7W : Hid ((su.arms (-1)).wr < 4611686018427387904) := hide (by have := HUW.out; show su.wr < _; omega)
        generalize su.arms (-1) = s7 at *
        clear hI7 hF7 HU HUD HUW
        go_wp2_with fail
        refine (read_any w7 g gs b N s7 H7.out k).mono ?_
        rintro e w8 ⟨a1, l1, k1, rfl, hB1, hb8⟩
        have H8 := hide (H7.out.below hb8)
        have HD8 := hide (HD7.out.below hb8)
        have HB8 := hide (HB7.out.trans (hb8.mono (HZ.out _ HB7.out)))
        have HR1 := hide hB1
        clear hB1 hb8
        go_wp2_with fail
        refine (write_any w8 g gs b N s7 H8.out i da dl dc ld HD8.out H7W.out).mono ?_
        rintro e w9 ⟨rfl, hI9, hF9⟩
        have H9 := hide hI9
        have HD9 := hide (HD8.out.frm H8.out hF9)
        have HR9 := hide (HR1.out.frm H8.out hF9)
        have HB9 := hide (HB8.out.trans (hF9.toBelow (HZ.out _ HB8.out) HFR.out))
        clear hI9 hF9
        go_wp2_with fail
        refine (read_any w9 g gs b N _ H9.out k).mono ?_
        rintro e w10 ⟨a2, l2, k2, rfl, hB2, hb10⟩
        have H10 := hide (H9.out.below hb10)
        have HD10 := hide (HD9.out.below hb10)
        have HR10 := hide (HR9.out.below hb10)
        have HQ10 := hide hB2
        have HB10 := hide (HB9.out.trans (hb10.mono (HZ.out _ HB9.out)))
        clear hB2 hb10
        rcases write_cases s7 N i ld H7D.out H7A.out with ⟨hw1, hw2⟩ | ⟨hi0, hiN, hll, hwe⟩
        · rw [hw1] at HQ10 ⊢
          generalize (s7.write N i ld).2 = er at *
          have d0 : (er == 0) = false := by simpa using hw2
          have d1 : decide (er = 0) = false := decide_eq_false hw2
          have cv1 := conv_str HR10.out
          have cv2 := conv_str HQ10.out
          generalize s7.readE N k = E1 at *
          generalize str (s7.readL N k) = L1 at *
          clear hw1 hw2
          go_wp2
          go_ret
          exact ⟨by simp, HB10.out⟩
        · obtain ⟨I, rfl⟩ : ∃ I : Nat, i = I := ⟨i.toNat, by omega⟩
          rw [Int.toNat_natCast] at hwe
          rw [hwe] at H10 HQ10 ⊢
          obtain ⟨gr1, gr2⟩ := goes_reads s7 I ld H7A.out
          have RD := read_ok w10 g gs b N _ H10.out (gr2.trans H7D.out) I (by omega)
          rw [gr1] at RD
          have RD' := hide RD
          clear gr1 gr2 RD
          go_wp2_with fail
          refine RD'.out.mono ?_
          rintro e w11 ⟨q, rfl, hq, hrow, hb11⟩
          have hdl : dl ≤ 4096 := by rw [← HD10.out.1]; exact hll
          have HD11 := hide (HD10.out.below hb11)
          have HR11 := hide (HR10.out.below hb11)
          have HQ11 := hide (HQ10.out.below hb11)
          have HRW := hide hrow
          have HB11 := hide (HB10.out.trans (hb11.mono (HZ.out _ HB10.out)))
          have hgot := (hrow.isB (full_lt HD10.out.2.2.2.1)).front dl hdl
          have hft : (full ld).take dl = ld := by rw [← HD10.out.1]; exact full_take ld
          rw [hft] at hgot
          have HG := hide hgot
          have cv1 : (convert 32 9 (.slice (some ⟨q, 0, none⟩) dl 4096)).run Try.prog w11.drew = .ok (.string (str ld)) w11.drew := conv_str (hgot.below (Below.drew (Below.refl _ _)))
          have cv2 : (convert 32 9 (.slice da dl dc)).run Try.prog w11.drew = .ok (.string (str ld)) w11.drew := conv_str (HD11.out.below (Below.drew (Below.refl _ _)))
          generalize hLD : str ld = LD at *
          clear hq hrow hb11 hgot hft hLD
          go_wp2_with fail
          go_region
          all_goals
            clear cv1 cv2
            have hcells : ∀ t : Nat, t < 4096 - dl → w11.cell? ⟨q, dl + t, none⟩ = some (.int .u8 0) := fun t ht => by
              have := HRW.out.cell (j := dl + t) (by omega)
              rw [this, full, fullN_drop 4096 ld (dl + t) (by rw [HD10.out.1]; omega)]
              rfl
            have HC := hide hcells
            clear hcells
            by_cases h4 : dl = 4096
            · subst h4
              go_wp2_with fail
              go_loopw [107] (fun i wr => i = .int .i64 0 ∧ wr = w11.drew) (fun _ _ => 0)
              case atStart => exact ⟨rfl, rfl⟩
              case round =>
                obtain ⟨rfl, rfl⟩ := hrel
                have HBD := hide (HB11.out.trans (Below.drew (Below.refl _ _)))
                by_cases hik : (I : Int) = k
                · subst hik
                  go_wp2
                  go_ret
                  exact ⟨by simp, HBD.out⟩
                · obtain ⟨ge, gl⟩ := goes_same s7 N I ld H7A.out k hik
                  have cv1 := conv_str (HR11.out.below (Below.drew (Below.refl _ _)))
                  have cv2 := conv_str (HQ11.out.below (Below.drew (Below.refl _ _)))
                  rw [gl] at cv2
                  rw [ge]
                  have d1 : ((I : Int) == k) = false := by simpa using hik
                  have d2 : decide ((I : Int) = k) = false := decide_eq_false hik
                  generalize s7.readE N k = E1 at *
                  generalize str (s7.readL N k) = L1 at *
                  clear hik ge gl
                  go_wp2
                  go_ret
                  exact ⟨by simp, HBD.out⟩
            · have h4' : ¬ 4096 = dl := by omega
              have hlt4 : dl < 4096 := by omega
              go_wp2_with fail
              go_loopw [107] (fun i wr => ∃ t : Nat, t ≤ 4096 - dl ∧ i = .int .i64 t ∧ wr = w11.drew) (fun i _ => 4096 - (intOf i).toNat)
              case atStart => exact ⟨0, Nat.zero_le _, rfl, rfl⟩
              case round =>
                obtain ⟨t, ht, rfl, rfl⟩ := hrel
                by_cases htl : t < 4096 - dl
                · have hct : w11.drew.cell? ⟨q, dl + t, none⟩ = some (.int .u8 0) := HC.out t htl
                  go_wp2
                  go_roundw
                  case rel => exact ⟨t + 1, by omega, by simp, by first | rfl | trivial⟩
                  case measure => simp [intOf]; omega
                · obtain rfl : t = 4096 - dl := by omega
                  have HBD := hide (HB11.out.trans (Below.drew (Below.refl _ _)))
                  by_cases hik : (I : Int) = k
                  · subst hik
                    go_wp2
                    go_ret
                    exact ⟨by simp, HBD.out⟩
                  · obtain ⟨ge, gl⟩ := goes_same s7 N I ld H7A.out k hik
                    have cv1 := conv_str (HR11.out.below (Below.drew (Below.refl _ _)))
                    have cv2 := conv_str (HQ11.out.below (Below.drew (Below.refl _ _)))
                    rw [gl] at cv2
                    rw [ge]
                    have d1 : ((I : Int) == k) = false := by simpa using hik
                    have d2 : decide ((I : Int) = k) = false := decide_eq_false hik
                    generalize s7.readE N k = E1 at *
                    generalize str (s7.readL N k) = L1 at *
                    clear hik ge gl
                    go_wp2
                    go_ret
                    exact ⟨by simp, HBD.out⟩
      · have RS := hide (rest_any w5 g gs b N st HI.out none 0 0 [] (isF_nil _))
        have HUE : Hid (st.ups N = (st.rest N []).1) := hide (by unfold St.ups; rw [if_pos hdn])
        go_wp2_with fail
        refine RS.out.mono ?_
        rintro e w6 ⟨rfl, hI6, hF6⟩
        have HU : Hid (IsD w6 g gs b N (st.ups N)) := hide (by rw [HUE.out]; exact hI6)
        have HUD := hide (ups_down N st)
        have HUW : Hid ((st.ups N).wr ≤ 140737488355328) := hide (by rw [HUE.out, rest_wr]; exact HWR.out)
        have HB6 := hide (HB3.out.trans (hF6.toBelow (HZ.out _ HB3.out) HFR.out))
        have HDB6 := hide (HDB.out.frm HI.out hF6)
        generalize st.ups N = su at *
        clear hI6 hF6 hdn HI HWR DW HUE RS
        go_wp2_with fail
        refine (arm_up w6 g gs b N su HU.out HUD.out (-1) (by omega)).mono ?_
        rintro e w7 ⟨rfl, hI7, hF7⟩
        have HB7 := hide (HB6.out.trans (hF7.toBelow (HZ.out _ HB6.out) HFR.out))
        have HD7 := hide (HDB6.out.frm HU.out hF7)
        have H7 := hide hI7
        have H7D : Hid ((su.arms (-1)).down = false) := HUD
        have H7A : Hid ((su.arms (-1)).arm = false) := hide (by simp [St.arms])
        have H7W : Hid ((su.arms (-1)).wr < 4611686018427387904) := hide (by have := HUW.out; show su.wr < _; omega)
        generalize su.arms (-1) = s7 at *
        clear hI7 hF7 HU HUD HUW
        go_wp2_with fail
        refine (read_any w7 g gs b N s7 H7.out k).mono ?_
        rintro e w8 ⟨a1, l1, k1, rfl, hB1, hb8⟩
        have H8 := hide (H7.out.below hb8)
        have HD8 := hide (HD7.out.below hb8)
        have HB8 := hide (HB7.out.trans (hb8.mono (HZ.out _ HB7.out)))
        have HR1 := hide hB1
        clear hB1 hb8
        go_wp2_with fail
        refine (write_any w8 g gs b N s7 H8.out i da dl dc ld HD8.out H7W.out).mono ?_
        rintro e w9 ⟨rfl, hI9, hF9⟩
        have H9 := hide hI9
        have HD9 := hide (HD8.out.frm H8.out hF9)
        have HR9 := hide (HR1.out.frm H8.out hF9)
        have HB9 := hide (HB8.out.trans (hF9.toBelow (HZ.out _ HB8.out) HFR.out))
        clear hI9 hF9
        go_wp2_with fail
        refine (read_any w9 g gs b N _ H9.out k).mono ?_
        rintro e w10 ⟨a2, l2, k2, rfl, hB2, hb10⟩
        have H10 := hide (H9.out.below hb10)
        have HD10 := hide (HD9.out.below hb10)
        have HR10 := hide (HR9.out.below hb10)
        have HQ10 := hide hB2
        have HB10 := hide (HB9.out.trans (hb10.mono (HZ.out _ HB9.out)))
        clear hB2 hb10
        rcases write_cases s7 N i ld H7D.out H7A.out with ⟨hw1, hw2⟩ | ⟨hi0, hiN, hll, hwe⟩
        · rw [hw1] at HQ10 ⊢
          generalize (s7.write N i ld).2 = er at *
          have d0 : (er == 0) = false := by simpa using hw2
          have d1 : decide (er = 0) = false := decide_eq_false hw2
          have cv1 := conv_str HR10.out
          have cv2 := conv_str HQ10.out
          generalize s7.readE N k = E1 at *
          generalize str (s7.readL N k) = L1 at *
          clear hw1 hw2
          go_wp2
          go_ret
          exact ⟨by simp, HB10.out⟩
        · obtain ⟨I, rfl⟩ : ∃ I : Nat, i = I := ⟨i.toNat, by omega⟩
          rw [Int.toNat_natCast] at hwe
          rw [hwe] at H10 HQ10 ⊢
          obtain ⟨gr1, gr2⟩ := goes_reads s7 I ld H7A.out
          have RD := read_ok w10 g gs b N _ H10.out (gr2.trans H7D.out) I (by omega)
          rw [gr1] at RD
          have RD' := hide RD
          clear gr1 gr2 RD
          go_wp2_with fail
          refine RD'.out.mono ?_
          rintro e w11 ⟨q, rfl, hq, hrow, hb11⟩
          have hdl : dl ≤ 4096 := by rw [← HD10.out.1]; exact hll
          have HD11 := hide (HD10.out.below hb11)
          have HR11 := hide (HR10.out.below hb11)
          have HQ11 := hide (HQ10.out.below hb11)
          have HRW := hide hrow
          have HB11 := hide (HB10.out.trans (hb11.mono (HZ.out _ HB10.out)))
          have hgot := (hrow.isB (full_lt HD10.out.2.2.2.1)).front dl hdl
          have hft : (full ld).take dl = ld := by rw [← HD10.out.1]; exact full_take ld
          rw [hft] at hgot
          have HG := hide hgot
          have cv1 : (convert 32 9 (.slice (some ⟨q, 0, none⟩) dl 4096)).run Try.prog w11.drew = .ok (.string (str ld)) w11.drew := conv_str (hgot.below (Below.drew (Below.refl _ _)))
          have cv2 : (convert 32 9 (.slice da dl dc)).run Try.prog w11.drew = .ok (.string (str ld)) w11.drew := conv_str (HD11.out.below (Below.drew (Below.refl _ _)))
          generalize hLD : str ld = LD at *
          clear hq hrow hb11 hgot hft hLD
          go_wp2_with fail
          go_region
          all_goals
            clear cv1 cv2
            have hcells : ∀ t : Nat, t < 4096 - dl → w11.cell? ⟨q, dl + t, none⟩ = some (.int .u8 0) := fun t ht => by
              have := HRW.out.cell (j := dl + t) (by omega)
              rw [this, full, fullN_drop 4096 ld (dl + t) (by rw [HD10.out.1]; omega)]
              rfl
            have HC := hide hcells
            clear hcells
            by_cases h4 : dl = 4096
            · subst h4
              go_wp2_with fail
              go_loopw [107] (fun i wr => i = .int .i64 0 ∧ wr = w11.drew) (fun _ _ => 0)
              case atStart => exact ⟨rfl, rfl⟩
              case round =>
                obtain ⟨rfl, rfl⟩ := hrel
                have HBD := hide (HB11.out.trans (Below.drew (Below.refl _ _)))
                by_cases hik : (I : Int) = k
                · subst hik
                  go_wp2
                  go_ret
                  exact ⟨by simp, HBD.out⟩
                · obtain ⟨ge, gl⟩ := goes_same s7 N I ld H7A.out k hik
                  have cv1 := conv_str (HR11.out.below (Below.drew (Below.refl _ _)))
                  have cv2 := conv_str (HQ11.out.below (Below.drew (Below.refl _ _)))
                  rw [gl] at cv2
                  rw [ge]
                  have d1 : ((I : Int) == k) = false := by simpa using hik
                  have d2 : decide ((I : Int) = k) = false := decide_eq_false hik
                  generalize s7.readE N k = E1 at *
                  generalize str (s7.readL N k) = L1 at *
                  clear hik ge gl
                  go_wp2
                  go_ret
                  exact ⟨by simp, HBD.out⟩
            · have h4' : ¬ 4096 = dl := by omega
              have hlt4 : dl < 4096 := by omega
              go_wp2_with fail
              go_loopw [107] (fun i wr => ∃ t : Nat, t ≤ 4096 - dl ∧ i = .int .i64 t ∧ wr = w11.drew) (fun i _ => 4096 - (intOf i).toNat)
              case atStart => exact ⟨0, Nat.zero_le _, rfl, rfl⟩
              case round =>
                obtain ⟨t, ht, rfl, rfl⟩ := hrel
                by_cases htl : t < 4096 - dl
                · have hct : w11.drew.cell? ⟨q, dl + t, none⟩ = some (.int .u8 0) := HC.out t htl
                  go_wp2
                  go_roundw
                  case rel => exact ⟨t + 1, by omega, by simp, by first | rfl | trivial⟩
                  case measure => simp [intOf]; omega
                · obtain rfl : t = 4096 - dl := by omega
                  have HBD := hide (HB11.out.trans (Below.drew (Below.refl _ _)))
                  by_cases hik : (I : Int) = k
                  · subst hik
                    go_wp2
                    go_ret
                    exact ⟨by simp, HBD.out⟩
                  · obtain ⟨ge, gl⟩ := goes_same s7 N I ld H7A.out k hik
                    have cv1 := conv_str (HR11.out.below (Below.drew (Below.refl _ _)))
                    have cv2 := conv_str (HQ11.out.below (Below.drew (Below.refl _ _)))
                    rw [gl] at cv2
                    rw [ge]
                    have d1 : ((I : Int) == k) = false := by simpa using hik
                    have d2 : decide ((I : Int) = k) = false := decide_eq_false hik
                    generalize s7.readE N k = E1 at *
                    generalize str (s7.readL N k) = L1 at *
                    clear hik ge gl
                    go_wp2
                    go_ret
                    exact ⟨by simp, HBD.out⟩
set_option maxRecDepth 40000 in
set_option maxHeartbeats 4000000 in
/-- DiskApart, where there is no such disk -/
theorem walk_none (n i k : Int) (v d : Value) (w : World) (hn : ¬ (1 ≤ n ∧ n ≤ 1024)) :
    Calls Try.prog 8 #[.int .i64 n, v, .int .i64 i, .int .i64 k, d] w fun e w' => e = .returned (.bool true) ∧ Below w.heap.size w w' := by
  have LV := hide (lives_true w)
  have NN : Hid (∀ W, Calls Try.prog 10 #[.int .i64 n] W fun e w' => e = .returned (.pointer none) ∧ w' = W) := hide (fun W => new_no W n hn)
  by_cases h1 : n < 1
  · have d1 : decide (n < 1) = true := decide_eq_true h1
    clear hn h1
    go_enter Try.func8, Try.ntmps8
    go_wp2_with fail
    refine LV.out.mono ?_
    rintro e w1 ⟨rfl, hb1⟩
    have HB1 := hide hb1
    clear hb1
    go_wp2_with fail
    refine (NN.out w1).mono ?_
    rintro e w2 ⟨rfl, rfl⟩
    go_wp2
    go_ret
    exact ⟨by simp, HB1.out⟩
  · have d1 : decide (n < 1) = false := decide_eq_false h1
    have d2 : decide (1024 < n) = true := decide_eq_true (by omega)
    clear hn h1
    go_enter Try.func8, Try.ntmps8
    go_wp2_with fail
    refine LV.out.mono ?_
    rintro e w1 ⟨rfl, hb1⟩
    have HB1 := hide hb1
    clear hb1
    go_wp2_with fail
    refine (NN.out w1).mono ?_
    rintro e w2 ⟨rfl, rfl⟩
    go_wp2
    go_ret
    exact ⟨by simp, HB1.out⟩
/-- the walk of DiskApart -/
theorem lawWalk (n : Int) (sa : Option Addr) (sl sc : Nat) (ls : List Stp) (i k : Int) (da : Option Addr) (dl dc : Nat) (ld : List Nat) (w : World) (_hn : (Lit.int .i64 n).wf = true) (hS : IsSS w sa sl sc ls) (_hi : (Lit.int .i64 i).wf = true) (_hk : (Lit.int .i64 k).wf = true) (hD : IsB w da dl dc ld) (_hc : dc ≤ 140737488351232) :
    Calls Try.prog 8 #[.int .i64 n, .slice sa sl sc, .int .i64 i, .int .i64 k, .slice da dl dc] w fun e w' => e = .returned (.bool true) ∧ Below w.heap.size w w' := by
  by_cases h : 1 ≤ n ∧ n ≤ 1024
  · obtain ⟨N, rfl⟩ : ∃ N : Nat, n = N := ⟨n.toNat, by omega⟩
    exact walk_some N i k sa da sl sc dl dc ls ld w (by omega) (by omega) hS hD
  · exact walk_none n i k _ _ w h
end Go.Proofs.Ytdageggojaghmaa.diskApart
