/- JournalRoom, walked -/
import Derived.Test.YteckglnfkgfefaaJoQ
import Derived.Test.YteckglnfkgfefaaJoW
namespace Go.Proofs.Yteckglnfkgfefaa
open Go.RowKit Cod
set_option maxRecDepth 40000
set_option linter.unusedSimpArgs false
set_option linter.unusedVariables false
/-- between two batches -/
def RmI (w W : World) (gj g gs b count : Nat) : Prop :=
  ∃ j st l, Lv count j st l ∧ Jd w W gj g gs b count j st ∧ j.first = 0 ∧ j.count = count ∧ j.frm = 1 ∧ st.wr + 1 = j.nxt
theorem room_eq {j : Jn} (h1 : j.frm ≤ j.nxt) (h2 : j.nxt ≤ j.frm + j.count) : j.room + (j.nxt - j.frm) = j.count := by
  unfold Jn.room
  omega
set_option maxHeartbeats 4000000 in
theorem roomWalk (C : Int) (a : Option Addr) (len cap : Nat) (bs : List (List ByteArray)) (to : Nat) (w : World) (hC : -9223372036854775808 ≤ C ∧ C ≤ 9223372036854775807) (h : IsSS w a len cap bs) (hlw : len ≤ 140737488355328) (hto : to < 18446744073709551616) :
    Calls Try.prog 6 #[.int .i64 C, .slice a len cap, .int .u64 (to : Nat)] w fun e w' => e = .returned (.bool true) ∧ Below w.heap.size w w' := by
  clear hlw
  have HT := hide h
  have hlm : len ≤ 9223372036854775807 := Nat.le_trans h.2.1 h.2.2.1
  clear h
  by_cases hc : 1 ≤ C ∧ C ≤ 1024
  · obtain ⟨count, rfl⟩ := Int.eq_ofNat_of_zero_le (show 0 ≤ C by omega)
    have h0 : 0 < count := by omega
    have h1 : count ≤ 1024 := by omega
    clear hC hc
    go_enter Try.func6, Try.ntmps6
    go_wp2_with fail
    refine (lives_any w).mono ?_
    rintro e w1 ⟨rfl, hb1⟩
    have HB1 := hide hb1
    clear hb1
    go_wp2_with fail
    refine (new_jd w1 count h0 h1).mono ?_
    rintro e w2 ⟨g, gs, b, rfl, hd2, hs2, hb2⟩
    have HOP := hide (open_first w w2 g gs b count hd2 (fun i hi => Nat.le_trans HB1.out.size (hs2 i hi)) (HB1.out.trans (hb2.mono HB1.out.size)) h0 h1)
    clear hd2 hs2 hb2
    go_wp2_with fail
    refine HOP.out.mono ?_
    rintro e w3 ⟨gj, v3, rfl, hj3⟩
    have HI3 : Hid (RmI w w3 gj g gs b count) := hide ⟨_, _, _, Lv.new h0 (Nat.le_refl _) h1, hj3, rfl, rfl, rfl, rfl⟩
    clear hj3 HOP HB1
    go_wp2_with fail
    go_loopw [46] (fun i wr => ∃ k : Nat, k ≤ len ∧ i = .int .i64 (k : Nat) ∧ RmI w wr gj g gs b count) (fun i _ => len - (intOf i).toNat)
    case atStart => exact ⟨0, Nat.zero_le _, rfl, HI3.out⟩
    case round =>
      obtain ⟨k, hk, rfl, ⟨jf, jc, jr, nx, fl⟩, st, l, hlv, hjd, hj0, hjc, hj1, hwr⟩ := hrel
      dsimp only at hj0 hjc hj1 hwr
      subst hj0
      subst hjc
      subst hj1
      have HLV := hide hlv
      have HJD := hide hjd
      have HWR := hide hwr
      have hf2 := hlv.f2
      have hf1 := hlv.f1
      dsimp only at hf1 hf2
      clear hlv hjd hwr HI3
      by_cases hkl : k < len
      · rcases HT.out.2.2.2 with hz | ⟨bb, off, rfl, hlt, hc⟩
        · omega
        obtain ⟨a', c', hck0, hI⟩ := hc k hkl
        have hck := (HJD.out.b.cell (p := ⟨bb, off + k, none⟩) hlt).trans hck0
        obtain ⟨rs, hrs⟩ : ∃ rs, rs = bs.getD k [] := ⟨_, rfl⟩
        rw [← hrs] at hck hI
        have HI := hide hI
        have HRM := hide (room_any wr gj g _ HJD.out.j)
        have hre := room_eq HLV.out.f1 HLV.out.f2
        dsimp only at hre
        clear hc hI hrs hck0
        go_wp2_with fail
        refine HRM.out.mono ?_
        rintro e w4 ⟨rfl, hb4⟩
        have HJ4 := hide (HJD.out.below hb4)
        clear hb4 HRM
        have ht := HLV.out.tries (rs := rs) (by show nx ≤ _; omega)
        have hL1 := fr_pos rs 1
        rcases ht with ⟨hok, hLr, st', hap, hlv', hwr'⟩ | ⟨hno, E, hE, hap⟩
        · have HAP := hide (HJ4.out.append (HI.out.below HJ4.out.b) (by have := HWR.out; omega) hap)
          have HOK := hide hok
          have HFE : Hid (frE rs 1 = 0) := hide (frE_of hok rfl)
          have HLV' := hide hlv'
          have HWR' := hide hwr'
          obtain ⟨L, hL⟩ : ∃ L, L = (frL rs 1).length := ⟨_, rfl⟩
          rw [← hL] at HAP HLV' HWR' hLr hL1
          have HL := hide hL
          clear hok hap hlv' hwr' hL
          go_wp2_with fail
          refine HAP.out.mono ?_
          rintro e w5 ⟨rfl, hj5⟩
          have HF := hide (frame_any w5 a' _ c' rs (HI.out.below hj5.b) 1)
          have HJ5 := hide hj5
          clear hj5 HAP
          go_wp2_with fail
          refine HF.out.mono ?_
          rintro e w6 ⟨⟨v6, rfl, hv6, _⟩, hb6⟩
          obtain ⟨g6, c6, rfl⟩ := own_slice (hv6 HFE.out) (fr_pos rs 1)
          rw [HFE.out, ← HL.out]
          have HJ6 := hide (HJ5.out.below hb6)
          have HRM := hide (room_any w6 gj g _ HJ6.out.j)
          have hre' := room_eq HLV'.out.f1 HLV'.out.f2
          dsimp only at hre'
          obtain ⟨R', hR'⟩ : ∃ R', R' = (Jn.mk 0 jc 1 (nx + L) fl).room := ⟨_, rfl⟩
          have HRX := hide hR'
          rw [← hR'] at HRM hre'
          obtain ⟨R, hR⟩ : ∃ R, R = (Jn.mk 0 jc 1 nx fl).room := ⟨_, rfl⟩
          rw [← hR] at hre hLr ⊢
          have hRR : R = R' + L := by omega
          have hRc : R' ≤ jc := by omega
          subst hRR
          clear hv6 hb6 HF hR' hR
          go_wp2_with fail
          refine HRM.out.mono ?_
          rintro e w7 ⟨rfl, hb7⟩
          have HJ7 := hide (HJ6.out.below hb7)
          have HRM7 := hide (room_any w7 gj g _ HJ7.out.j)
          have hd0 : decide ((R' : Int) < 0) = false := decide_eq_false (by omega)
          have hd1 : decide ((jc : Int) < (R' : Int)) = false := decide_eq_false (by omega)
          rw [show (Jn.mk 0 jc 1 (nx + L) fl).room = R' from HRX.out.symm] at HRM7
          clear hb7 HRM
          go_wp2_with fail
          refine HRM7.out.mono ?_
          rintro e w8 ⟨rfl, hb8⟩
          have HJ8 := hide (HJ7.out.below hb8)
          have HRM8 := hide (room_any w8 gj g _ HJ8.out.j)
          rw [show (Jn.mk 0 jc 1 (nx + L) fl).room = R' from HRX.out.symm] at HRM8
          clear hb8 HRM7
          go_wp2_with fail
          refine HRM8.out.mono ?_
          rintro e w9 ⟨rfl, hb9⟩
          have HJ9 := hide (HJ8.out.below hb9)
          clear hb9 HRM8
          go_wp2_with fail
          exact ⟨⟨k + 1, by omega, by simp, _, st', _, HLV'.out, HJ9.out, rfl, rfl, rfl, by have := HWR'.out; have := HWR.out; show st'.wr + 1 = nx + L; omega⟩, by simp [intOf]; omega⟩
        · have HAP := hide (HJ4.out.append (HI.out.below HJ4.out.b) (by have := HWR.out; omega) hap)
          have HNO := hide hno
          have e0 : (E == 0) = false := by simpa using hE
          obtain ⟨L, hL⟩ : ∃ L, L = (frL rs 1).length := ⟨_, rfl⟩
          have HL := hide hL
          clear hno hap hL
          obtain ⟨R, hR⟩ : ∃ R, R = (Jn.mk 0 jc 1 nx fl).room := ⟨_, rfl⟩
          have HRX := hide hR
          rw [← hR] at hre ⊢
          have hRc : R ≤ jc := by omega
          have hd0 : decide ((R : Int) < 0) = false := decide_eq_false (by omega)
          have hd1 : decide ((jc : Int) < (R : Int)) = false := decide_eq_false (by omega)
          clear hR
          go_wp2_with fail
          refine HAP.out.mono ?_
          rintro e w5 ⟨rfl, hj5⟩
          have HF := hide (frame_any w5 a' _ c' rs (HI.out.below hj5.b) 1)
          have HJ5 := hide hj5
          clear hj5 HAP
          go_wp2_with fail
          refine HF.out.mono ?_
          rintro e w6 ⟨⟨v6, rfl, hv6, hv6'⟩, hb6⟩
          have HJ6 := hide (HJ5.out.below hb6)
          have HRM7 := hide (room_any w6 gj g _ HJ6.out.j)
          rw [show (Jn.mk 0 jc 1 nx fl).room = R from HRX.out.symm] at HRM7
          have hend : ∀ w7, Below w6.heap.size w6 w7 → Hid (Jd w w7 gj g gs b jc ⟨0, jc, 1, nx, fl⟩ st) ∧ Hid (Calls Try.prog 28 #[.pointer (some ⟨gj, 0, none⟩)] w7 fun e w' => e = .returned (.int .i64 (R : Nat)) ∧ Below w7.heap.size w7 w') := fun w7 hb7 => by
            refine ⟨hide (HJ6.out.below hb7), hide ?_⟩
            have := room_any w7 gj g _ (HJ6.out.below hb7).j
            rw [show (Jn.mk 0 jc 1 nx fl).room = R from HRX.out.symm] at this
            exact this
          have HEND := hide hend
          clear hend
          by_cases hE1 : frE rs 1 = 0
          · have hokb := (frE_ok hE1).1
            obtain ⟨g6, c6, rfl⟩ := own_slice (hv6 hE1) (fr_pos rs 1)
            have hLR : decide ((L : Int) ≤ (R : Int)) = false := decide_eq_false (fun e => HNO.out ⟨hokb, by rw [← HL.out, ← HRX.out]; omega⟩)
            have hRL : R < L := by
              by_cases e : R < L
              · exact e
              · exact absurd ⟨hokb, by rw [← HL.out, ← HRX.out]; omega⟩ HNO.out
            have hRL2 : decide (L ≤ R) = false := decide_eq_false (by omega)
            rw [hE1, ← HL.out]
            clear hv6 hv6' hb6 HF hokb hE1
            go_wp2_with fail
            refine HRM7.out.mono ?_
            rintro e w7 ⟨rfl, hb7⟩
            obtain ⟨HJ7, HRM8⟩ := HEND.out w7 hb7
            clear hb7 HRM7
            go_wp2_with fail
            refine HRM8.out.mono ?_
            rintro e w8 ⟨rfl, hb8⟩
            have HJ8 := hide (HJ7.out.below hb8)
            clear hb8 HRM8
            go_wp2_with fail
            exact ⟨⟨k + 1, by omega, by simp, _, st, _, HLV.out, HJ8.out, rfl, rfl, rfl, HWR.out⟩, by simp [intOf]; omega⟩
          · obtain rfl := hv6' hE1
            have e1 : (frE rs 1 == 0) = false := by simpa using hE1
            clear hv6 hv6' hb6 HF hE1
            generalize frE rs 1 = E1 at *
            go_wp2_with fail
            refine HRM7.out.mono ?_
            rintro e w7 ⟨rfl, hb7⟩
            obtain ⟨HJ7, HRM8⟩ := HEND.out w7 hb7
            clear hb7 HRM7
            go_wp2_with fail
            refine HRM8.out.mono ?_
            rintro e w8 ⟨rfl, hb8⟩
            have HJ8 := hide (HJ7.out.below hb8)
            clear hb8 HRM8
            go_wp2_with fail
            exact ⟨⟨k + 1, by omega, by simp, _, st, _, HLV.out, HJ8.out, rfl, rfl, rfl, HWR.out⟩, by simp [intOf]; omega⟩
      · have HFM := hide (from_any wr gj g _ HJD.out.j)
        have HOP := hide (HJD.out.open HLV.out.up HLV.out.c0 HLV.out.c1 1 (Nat.le_refl _) (by omega) l nx (HLV.out.all (by show nx ≤ _; omega)))
        go_wp2_with fail
        refine HFM.out.mono ?_
        rintro e w4 ⟨rfl, rfl⟩
        go_wp2_with fail
        refine HOP.out.mono ?_
        rintro e w5 ⟨gk, v5, rfl, hk5, _, hj5⟩
        have HK5 := hide hk5
        have HJ5 := hide hj5
        have hre := room_eq HLV.out.f1 HLV.out.f2
        obtain ⟨R, hR⟩ : ∃ R, R = (Jn.mk 0 jc 1 nx fl).room := ⟨_, rfl⟩
        have HRX := hide hR
        have HRK : Hid ((Jn.mk 0 jc 1 nx false).room = R) := hide hR.symm
        rw [← hR] at hre
        dsimp only at hre
        clear hk5 hj5 HOP HFM HJD hR
        have hq0 : ((nx : Int) == (nx : Int)) = true := by simp
        have hq2 : ((R : Int) == (R : Int)) = true := by simp
        go_wp2_with fail
        refine (next_any w5 gk g _ HK5.out).mono ?_
        rintro e w6 ⟨rfl, rfl⟩
        go_wp2_with fail
        refine (next_any w6 gj g _ HJ5.out.j).mono ?_
        rintro e w7 ⟨rfl, rfl⟩
        go_wp2_with fail
        refine (from_any w7 gk g _ HK5.out).mono ?_
        rintro e w8 ⟨rfl, rfl⟩
        go_wp2_with fail
        refine (from_any w8 gj g _ HJ5.out.j).mono ?_
        rintro e w9 ⟨rfl, rfl⟩
        have HRA := hide (room_any w9 gk g _ HK5.out)
        rw [HRK.out] at HRA
        go_wp2_with fail
        refine HRA.out.mono ?_
        rintro e w10 ⟨rfl, hb10⟩
        have HJ10 := hide (HJ5.out.below hb10)
        have HRB := hide (room_any w10 gj g _ HJ10.out.j)
        rw [← HRX.out] at HRB
        clear hb10 HRA HJ5 HK5
        go_wp2_with fail
        refine HRB.out.mono ?_
        rintro e w11 ⟨rfl, hb11⟩
        have HJ11 := hide (HJ10.out.below hb11)
        have HRC := hide (room_any w11 gj g _ HJ11.out.j)
        rw [← HRX.out] at HRC
        clear hb11 HRB HJ10
        go_wp2_with fail
        refine HRC.out.mono ?_
        rintro e w12 ⟨rfl, hb12⟩
        have HJ12 := hide (HJ11.out.below hb12)
        clear hb12 HRC HJ11
        by_cases hto1 : 1 ≤ to ∧ to ≤ nx
        · have HDR := hide (HJ12.out.drop to hto1.1 hto1.2)
          obtain ⟨ht1, ht2⟩ := hto1
          go_wp2_with fail
          refine HDR.out.mono ?_
          rintro e w13 ⟨rfl, hj13⟩
          have HJ13 := hide hj13
          have HRD := hide (room_any w13 gj g _ HJ13.out.j)
          have hre2 : ((Jn.mk 0 jc 1 nx fl).drop to).room + 1 = R + to := by
            simp only [Jn.drop, Jn.room]
            omega
          obtain ⟨R2, hR2⟩ : ∃ R2, R2 = ((Jn.mk 0 jc 1 nx fl).drop to).room := ⟨_, rfl⟩
          rw [← hR2] at HRD hre2
          have hwt : IntKind.i64.wrap (to : Int) = (to : Int) := by rw [IntKind.wrap_i64]; omega
          have hsum : (R : Int) + (to : Int) - 1 = (R2 : Int) := by omega
          have hR2c : R2 ≤ jc := by omega
          clear hj13 HDR hR2
          go_wp2_with fail
          refine HRD.out.mono ?_
          rintro e w14 ⟨rfl, hb14⟩
          have HJ14 := hide (HJ13.out.below hb14)
          clear hb14 HRD HJ13
          have hq4 : ((to : Int) == (to : Int)) = true := by simp
          go_wp2_with fail
          refine (from_any w14 gj g _ HJ14.out.j).mono ?_
          rintro e w15 ⟨rfl, rfl⟩
          dsimp only [Jn.drop]
          go_wp2_with fail
          go_ret
          exact ⟨rfl, HJ14.out.b⟩
        · have HDN := hide (drop_no w12 gj g _ HJ12.out.j to hto1)
          by_cases ht1 : to < 1
          · have hd4 : decide ((to : Int) < 1) = true := decide_eq_true (by omega)
            go_wp2_with fail
            refine HDN.out.mono ?_
            rintro e w13 ⟨rfl, rfl⟩
            go_wp2_with fail
            go_ret
            exact ⟨rfl, HJ12.out.b⟩
          · have hd4 : decide ((to : Int) < 1) = false := decide_eq_false (by omega)
            have hd5 : decide ((nx : Int) < (to : Int)) = true := decide_eq_true (by omega)
            have hd6 : nx < to := by omega
            go_wp2_with fail
            refine HDN.out.mono ?_
            rintro e w13 ⟨rfl, rfl⟩
            go_wp2_with fail
            refine (next_any w13 gj g _ HJ12.out.j).mono ?_
            rintro e w14 ⟨rfl, rfl⟩
            go_wp2_with fail
            go_ret
            exact ⟨rfl, HJ12.out.b⟩
  · have HCC := hide hc
    go_enter Try.func6, Try.ntmps6
    go_wp2_with fail
    refine (lives_any w).mono ?_
    rintro e w1 ⟨rfl, hb1⟩
    have HB1 := hide hb1
    clear hb1
    go_wp2_with fail
    refine (new_no w1 C HCC.out).mono ?_
    rintro e w2 ⟨rfl, rfl⟩
    go_wp2_with fail
    refine (open_nil0 w2 C).mono ?_
    rintro e w3 ⟨rfl, rfl⟩
    by_cases h1 : C < 1
    · have hd1 : decide (C < 1) = true := decide_eq_true h1
      clear hc
      go_wp2_with fail
      go_ret
      exact ⟨rfl, HB1.out⟩
    · have hd1 : decide (C < 1) = false := decide_eq_false h1
      have hd2 : decide (1024 < C) = true := decide_eq_true (by omega)
      clear hc
      go_wp2_with fail
      go_ret
      exact ⟨rfl, HB1.out⟩
end Go.Proofs.Yteckglnfkgfefaa
