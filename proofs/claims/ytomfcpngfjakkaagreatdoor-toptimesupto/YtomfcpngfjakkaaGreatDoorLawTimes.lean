/- TopTimes, walked -/
import Derived.Test.YtomfcpngfjakkaaGreatDoorDx3
import Derived.Test.YtomfcpngfjakkaaGreatDoorTB
namespace Go.Proofs.YtomfcpngfjakkaaGreatDoor
open Go.RowKit
set_option maxRecDepth 40000
set_option linter.unusedVariables false
set_option maxHeartbeats 16000000 in
theorem times_law (a : Option Addr) (len cap : Nat) (l : List Pr) (sa : Option Addr) (sn sc : Nat) (sl : List Sx) (w : World) (hPW : POW w) (hL : IsP w a len cap l) (hnn : a = none → cap = 0) (hbig : len * 40 ≤ 140737488355328) (hS : IsSt w sa sn sc sl) (hsn : sn * 64 ≤ 140737488355328) :
    Calls Tryz.prog 3 #[.slice a len cap, .slice sa sn sc] w fun e w' => e = .returned (.bool true) ∧ Below w.heap.size w w' := by
  have HL := hide hL
  have HLN := hide hL.1
  have HNO := hide hnn
  have HSS := hide hS
  have hscm : sc ≤ 9223372036854775807 := hS.2.2.1
  have hsc := hS.2.1
  have HBIG := hide hbig
  have HBGN := hide (begins_any w hPW)
  clear hL hS hbig hnn hPW
  go_enter Tryz.func3, Tryz.ntmps3
  go_wp2_with fail
  refine HBGN.out.mono ?_
  rintro e w0 ⟨rfl, hb0⟩
  have HB0 := hide hb0
  have HNW := hide (mn_new a len cap l w0 (HL.out.below hb0) HBIG.out)
  clear hb0 HBGN
  go_wp2_with fail
  refine HNW.out.mono ?_
  rintro e w1 ⟨ptr, rfl, h1, h2, hb1⟩
  have HB1 := hide (HB0.out.trans (hb1.mono HB0.out.size))
  have HZ1 := hide hb1.size
  clear HNW
  by_cases hE : newE l = 0
  case neg =>
    obtain rfl := h2 hE
    clear h1 h2
    have hE2 : (newE l == 0) = false := by simpa using hE
    have hE3 : decide (newE l = 0) = false := decide_eq_false hE
    have hE4 : (newE l != 0) = true := by simpa using hE
    generalize newE l = E at *
    go_wp2
    go_ret
    exact ⟨rfl, HB1.out⟩
  case pos =>
    obtain ⟨g, rfl, hM⟩ := h1 hE
    rw [hE]
    rw [new_M hE] at hM
    have HGD0 := hide (gd_start hE)
    have HNI0 := hide (NowIs.start hE)
    have HM1 := hide hM
    clear h1 h2 hE hM hb1
    generalize hB : w0.heap.size = B at *
    have HWB : Hid (w.heap.size ≤ B) := hide (by rw [← hB]; exact HB0.out.size)
    clear hB
    have HBa : Hid (Below w1.heap.size w1 (w1.alloc (.cells #[] 52))) := hide ((Below.refl _ w1).alloc (Nat.le_refl _) _)
    have HOa : Hid ((w1.alloc (.cells #[] 52)).ownsRow w1.heap.size 52 2 (.slice (some ⟨w1.heap.size, 0, none⟩) 0 0) 0 (([] : List Pr).flatMap prc)) := hide (World.ownsRow_made w1 #[] 0 (Nat.le_refl _) (by decide) rfl)
    have HAP := hide (run_pairs a HOa.out (HL.out.below (HB1.out.trans (HBa.out.mono HB1.out.size))) HNO.out (by have := HBIG.out; omega) HBa.out.size)
    obtain ⟨v9, w2, hr2, ho2, hb2⟩ := HAP.out
    obtain ⟨X0, hS0⟩ := TS.start HM1.out HZ1.out (HBa.out.trans hb2) (v9 := v9) (now := l) (by rw [HLN.out]; simpa using ho2)
    have HS0 := hide hS0
    clear ho2 hb2 HAP HOa HM1 hS0
    go_wp2_with (at_builtin; refine wpList_append_eq rfl _ _ 22 rfl rfl rfl hr2 ?_)
    go_wp2
    clear hr2
    go_loopw [7, 39] (fun v7 v39 wr => ∃ (k : Nat) (ms : Mg) (X : Nat → Prop) (now : List Pr), k ≤ sn ∧ v39 = .int .i64 (k : Nat) ∧ Hid (TS B w1 wr g ms X v7 now ∧ Gd ms ∧ NowIs ms now ∧ ms.last ≤ k ∧ ms.now ≤ 1 + k)) (fun _ v39 _ => sn - (intOf v39).toNat)
    case atStart => exact ⟨0, _, X0, l, Nat.zero_le _, rfl, hide ⟨HS0.out, HGD0.out, HNI0.out, Nat.le_refl _, Nat.le_refl _⟩⟩
    case round =>
      obtain ⟨k, ms, X, now, hk, rfl, HI⟩ := hrel
      obtain ⟨a9, cn, rfl⟩ := own_form HI.out.1.r9
      have HI' : Hid (Below w.heap.size w wr) := hide (HB1.out.trans (HI.out.1.lo.mono HWB.out))
      by_cases hlt : k < sn
      · obtain ⟨ht, b, off, rfl, hbs, z0, z1, z2, z3, z4⟩ := (HSS.out.below HI'.out).2.2.2 k hlt
        generalize sl.getD k Sx0 = x at *
        obtain ⟨xk, xt, x2, x3, x4⟩ := x
        dsimp only at z0 z1 z2 z3 z4 ht
        have hw1 : IntKind.i64.wrap ((k : Int) + 1) = (k : Int) + 1 := wr64' (by omega) (by omega)
        have hi4 : (0 : Int) ≤ (k : Int) := by omega
        have hiI : (k : Int) < (sn : Int) := by omega
        have HBx : Hid (Below wr.heap.size wr (wr.alloc (.cells #[.int .u8 (xk : Nat), .int .i64 xt, .string x2, .string x3, .string x4] 31))) := hide ((Below.refl _ wr).alloc (Nat.le_refl _) _)
        have HNx := hide (heap_alloc_new wr (.cells #[.int .u8 (xk : Nat), .int .i64 xt, .string x2, .string x3, .string x4] 31))
        have HSx := hide (HI.out.1.below HBx.out)
        have HDO := hide (do_ans _ _ g ms HSx.out.mn xk xt ht x2 x3 x4 (by have := HI.out.2.2.2.1; omega) (by have := HI.out.2.2.2.2; omega))
        have HGN : Hid (Gd (mDo ms xk xt x2 x3 x4)) := hide (HI.out.2.1.does (by have := HI.out.2.2.2.2; omega) xk xt x2 x3 x4)
        have HNUM : Hid ((mDo ms xk xt x2 x3 x4).last ≤ k + 1 ∧ (mDo ms xk xt x2 x3 x4).now ≤ 1 + (k + 1)) := hide ⟨by have h1 := (does_nums ms xk xt x2 x3 x4).1; have h2 := HI.out.2.2.2.1; omega, by have h1 := (does_nums ms xk xt x2 x3 x4).2; have h2 := HI.out.2.2.2.2; omega⟩
        have HDS : Hid (∀ A, AnOk ms xk xt x2 x3 x4 A → NowIs (mDo ms xk xt x2 x3 x4) (if A.why = 0 then allP now A.done else now) ∧ A.done.length ≤ 256) := hide (fun A hA => ⟨HI.out.2.2.1.does HI.out.2.1 HI.out.1.mn.srt hA, hA.done_few HI.out.1.mn.few⟩)
        have HNF := hide (HI.out.2.2.1.few HI.out.2.1)
        have HSRT := hide HI.out.2.2.1.1
        have d0 : (wr.alloc (.cells #[.int .u8 (xk : Nat), .int .i64 xt, .string x2, .string x3, .string x4] 31)).cell? ⟨wr.heap.size, 0, none⟩ = some (.int .u8 (xk : Nat)) := cell_blk HNx.out rfl
        clear HI
        go_wp2_with fail
        generalize (wr.alloc (.cells #[.int .u8 (xk : Nat), .int .i64 xt, .string x2, .string x3, .string x4] 31)) = V1 at *
        refine HDO.out.mono ?_
        rintro e V2 ⟨v2, A, Z, rfl, hA, hH, hZ, hM, hF⟩
        obtain ⟨ap, np, cp, ad, nd, cd, rfl, hPP, hDD⟩ := hH.now
        have HS2 := hide (HSx.out.step (hM.mono (fun i hi => .inl hi)) hF)
        have HAF := hide (HDS.out A hA)
        clear hA hH hZ hM hF HDO HSx HDS d0 HNx HBx hPP
        obtain ⟨yw, yt, yv, yb, yP, yD, ym⟩ := A
        dsimp only at HAF hDD
        have HDN := hide hDD.1
        have HBy : Hid (Below V2.heap.size V2 (V2.alloc (.cells #[.int .i64 yw, .int .i64 yt, .string yv, .bool yb, .slice ap np cp, .slice ad nd cd, .int .u64 (ym : Nat)] 35))) := hide ((Below.refl _ V2).alloc (Nat.le_refl _) _)
        have HNy := hide (heap_alloc_new V2 (.cells #[.int .i64 yw, .int .i64 yt, .string yv, .bool yb, .slice ap np cp, .slice ad nd cd, .int .u64 (ym : Nat)] 35))
        have HS3 := hide (HS2.out.below HBy.out)
        have HD3 := hide (hDD.below HBy.out)
        clear hDD HS2 HBy
        have y0 : (V2.alloc (.cells #[.int .i64 yw, .int .i64 yt, .string yv, .bool yb, .slice ap np cp, .slice ad nd cd, .int .u64 (ym : Nat)] 35)).cell? ⟨V2.heap.size, 0, none⟩ = some (.int .i64 yw) := cell_blk HNy.out rfl
        have y5 : (V2.alloc (.cells #[.int .i64 yw, .int .i64 yt, .string yv, .bool yb, .slice ap np cp, .slice ad nd cd, .int .u64 (ym : Nat)] 35)).cell? ⟨V2.heap.size, 5, none⟩ = some (.slice ad nd cd) := cell_blk HNy.out rfl
        by_cases hyw : yw = 0
        · subst hyw
          have HNX : Hid (NowIs (mDo ms xk xt x2 x3 x4) (allP now yD)) := hide (by have := HAF.out.1; rwa [if_pos rfl] at this)
          have HNX2 := HNX
          have HAL := hide (all_any a9 now.length cn now ad nd cd yD _ (HS3.out.isP rfl) (fun h => own_none HS3.out.r9 h) HD3.out (by have h1 := HNF.out; have h2 := HAF.out.2; have h3 := HDN.out; omega))
          rw [docA_is yD HSRT.out] at HAL
          clear HAF
          generalize allP now yD = now2 at *
          go_wp2_with fail
          generalize (V2.alloc (.cells #[.int .i64 0, .int .i64 yt, .string yv, .bool yb, .slice ap np cp, .slice ad nd cd, .int .u64 (ym : Nat)] 35)) = V3 at *
          refine HAL.out.mono ?_
          rintro e V4 ⟨v4, rfl, hr4, hb4⟩
          obtain ⟨X4, hS4⟩ := HS3.out.put9 hb4 hr4
          obtain ⟨a4, c4, rfl⟩ := own_form hr4
          have HS4 := hide hS4
          clear hr4 hb4 hS4 HAL HS3 HD3 HNy y0 y5
          have HVS := hide (mn_versions _ V4 g _ HS4.out.mn HGN.out)
          have HNN : Hid (∀ W : World, Below V4.heap.size V4 W → Calls Tryz.prog 10 #[.pointer (some ⟨g, 0, none⟩)] W fun e w' => e = .returned (.int .u64 ((mDo ms xk xt x2 x3 x4).now : Nat)) ∧ w' = W) := hide (fun W hW => mn_now _ W g _ (HS4.out.mn.below hW))
          have HSC := hide (HNX.out.scan HGN.out)
          clear HNX2
          obtain ⟨lo, hlo⟩ : ∃ lo, (mDo ms xk xt x2 x3 x4).low = lo := ⟨_, rfl⟩
          obtain ⟨nt, hnt⟩ : ∃ nt, (mDo ms xk xt x2 x3 x4).now = nt := ⟨_, rfl⟩
          obtain ⟨vs, hvs⟩ : ∃ vs, (mDo ms xk xt x2 x3 x4).vs = vs := ⟨_, rfl⟩
          rw [hlo, hvs] at HVS
          rw [hnt] at HNN
          rw [hlo, hnt, hvs] at HSC
          clear hlo hnt hvs
          go_wp2_with fail
          refine HVS.out.mono ?_
          rintro e V6 ⟨v6, rfl, hr6, hb6⟩
          obtain ⟨a6, c6, rfl⟩ := own_form hr6
          have HR6 := hide hr6
          have HB6 := hide hb6
          clear hr6 hb6 HVS
          go_wp2_with fail
          refine (HNN.out _ HB6.out).mono ?_
          rintro e w' ⟨rfl, rfl⟩
          clear HNN
          have HI6 : Hid (IsV w' a6 vs.length c6 vs) := hide (by
            obtain ⟨a', c', e, h, _⟩ := own_isV rfl HR6.out
            cases e
            exact h)
          have HQQ := hide (scan_any a6 vs.length c6 lo nt ⟨#[]⟩ ⟨#[]⟩ vs w' HI6.out)
          rw [HSC.out] at HQQ
          dsimp only at HQQ
          go_wp2_with fail
          refine HQQ.out.mono ?_
          rintro e V7 ⟨a7, c7, rfl, hI7, hb7⟩
          have HS7 := hide (HS4.out.below (HB6.out.trans (hb7.mono HB6.out.size)))
          have HSM := hide (sameP_any a7 _ c7 now2 _ _ _ now2 V7 hI7 (HS7.out.isP rfl))
          clear hI7 hb7 HQQ HI6 HR6 HB6 HSC HS4
          go_wp2_with fail
          refine HSM.out.mono ?_
          rintro e V8 ⟨⟨q, rfl, hq⟩, hb8⟩
          obtain rfl : q = true := hq.2 (by simp)
          have HS8 := hide (HS7.out.below hb8)
          clear hb8 hq HSM HS7
          go_wp2
          go_roundw
          case rel => exact ⟨k + 1, mDo ms xk xt x2 x3 x4, _, now2, by omega, by simp, hide ⟨HS8.out, HGN.out, HNX.out, HNUM.out.1, HNUM.out.2⟩⟩
          case measure => simp [intOf]; omega
        · have hyw2 : (yw == 0) = false := by simpa using hyw
          have HNX : Hid (NowIs (mDo ms xk xt x2 x3 x4) now) := hide (by have := HAF.out.1; rwa [if_neg hyw] at this)
          have HNX2 := HNX
          clear HAF HD3 y5
          generalize hV3 : (V2.alloc (.cells #[.int .i64 yw, .int .i64 yt, .string yv, .bool yb, .slice ap np cp, .slice ad nd cd, .int .u64 (ym : Nat)] 35)) = V3 at *
          have HVS := hide (mn_versions _ V3 g _ HS3.out.mn HGN.out)
          have HNN : Hid (∀ W : World, Below V3.heap.size V3 W → Calls Tryz.prog 10 #[.pointer (some ⟨g, 0, none⟩)] W fun e w' => e = .returned (.int .u64 ((mDo ms xk xt x2 x3 x4).now : Nat)) ∧ w' = W) := hide (fun W hW => mn_now _ W g _ (HS3.out.mn.below hW))
          have HSC := hide (HNX.out.scan HGN.out)
          clear HNX2
          obtain ⟨lo, hlo⟩ : ∃ lo, (mDo ms xk xt x2 x3 x4).low = lo := ⟨_, rfl⟩
          obtain ⟨nt, hnt⟩ : ∃ nt, (mDo ms xk xt x2 x3 x4).now = nt := ⟨_, rfl⟩
          obtain ⟨vs, hvs⟩ : ∃ vs, (mDo ms xk xt x2 x3 x4).vs = vs := ⟨_, rfl⟩
          rw [hlo, hvs] at HVS
          rw [hnt] at HNN
          rw [hlo, hnt, hvs] at HSC
          clear hlo hnt hvs
          go_wp2_with fail
          refine HVS.out.mono ?_
          rintro e V6 ⟨v6, rfl, hr6, hb6⟩
          obtain ⟨a6, c6, rfl⟩ := own_form hr6
          have HR6 := hide hr6
          have HB6 := hide hb6
          clear hr6 hb6 HVS
          go_wp2_with fail
          refine (HNN.out _ HB6.out).mono ?_
          rintro e w' ⟨rfl, rfl⟩
          clear HNN
          have HI6 : Hid (IsV w' a6 vs.length c6 vs) := hide (by
            obtain ⟨a', c', e, h, _⟩ := own_isV rfl HR6.out
            cases e
            exact h)
          have HQQ := hide (scan_any a6 vs.length c6 lo nt ⟨#[]⟩ ⟨#[]⟩ vs w' HI6.out)
          rw [HSC.out] at HQQ
          dsimp only at HQQ
          go_wp2_with fail
          refine HQQ.out.mono ?_
          rintro e V7 ⟨a7, c7, rfl, hI7, hb7⟩
          have HS7 := hide (HS3.out.below (HB6.out.trans (hb7.mono HB6.out.size)))
          have HSM := hide (sameP_any a7 _ c7 now _ _ _ now V7 hI7 (HS7.out.isP rfl))
          clear hI7 hb7 HQQ HI6 HR6 HB6 HSC HS3
          go_wp2_with fail
          refine HSM.out.mono ?_
          rintro e V8 ⟨⟨q, rfl, hq⟩, hb8⟩
          obtain rfl : q = true := hq.2 (by simp)
          have HS8 := hide (HS7.out.below hb8)
          clear hb8 hq HSM HS7
          go_wp2
          go_roundw
          case rel => exact ⟨k + 1, mDo ms xk xt x2 x3 x4, _, now, by omega, by simp, hide ⟨HS8.out, HGN.out, HNX.out, HNUM.out.1, HNUM.out.2⟩⟩
          case measure => simp [intOf]; omega
      · obtain rfl : k = sn := by omega
        have hkk : ¬ (k : Int) < (k : Int) := by omega
        have HBG := hide (mn_begin X wr g ms HI.out.1.mn (by have := HI.out.2.2.2.1; omega))
        have HFS := hide (fresh_scan HI.out.2.2.1 HI.out.2.1 HI.out.1.mn.nums.1)
        have HT : Hid (-9223372036854775808 ≤ (ms.last : Int) + 1 ∧ (ms.last : Int) + 1 ≤ 9223372036854775807) := hide (by have := HI.out.2.2.2.1; omega)
        have HBS := hide HI.out.1
        clear HI
        by_cases h16 : ms.opn.length = 16
        · have hb : mBegin ms = (ms, 0, 3) := by unfold mBegin; rw [if_pos h16]
          rw [hb] at HBG
          dsimp only at HBG
          clear hb HFS h16
          go_wp2_with fail
          refine HBG.out.mono ?_
          rintro e V1 ⟨rfl, hM, hF⟩
          have HS1 := hide (HBS.out.step hM hF)
          have HBF : Hid (Below w.heap.size w V1) := hide (HB1.out.trans (HS1.out.lo.mono HWB.out))
          clear hM hF HBG HBS HS1
          go_wp2
          go_ret
          exact ⟨rfl, HBF.out⟩
        · have hb : mBegin ms = (ms.begun, (ms.last : Int) + 1, 0) := by unfold mBegin; rw [if_neg h16]
          rw [hb] at HBG
          dsimp only at HBG
          clear hb h16
          generalize (ms.last : Int) + 1 = T at *
          generalize ms.begun = m1 at *
          go_wp2_with fail
          refine HBG.out.mono ?_
          rintro e V1 ⟨rfl, hM, hF⟩
          have HS1 := hide (HBS.out.step hM hF)
          have HSC := hide (mn_scan X V1 g m1 hM T HT.out ⟨#[]⟩ ⟨#[]⟩)
          rw [HFS.out.1] at HSC
          clear hM hF HBG HBS
          go_wp2_with fail
          refine HSC.out.mono ?_
          rintro e V2 ⟨v8, l8, rfl, hr8, hsl, hM, hF⟩
          obtain rfl := HFS.out.2 l8 hsl
          obtain ⟨a8, c8, rfl⟩ := own_form hr8
          have HS2 := hide (HS1.out.step (hM.mono (fun i hi => .inl hi)) hF)
          have HI8 : Hid (IsP V2 a8 l8.length c8 l8) := hide (by
            obtain ⟨a', c', e, h, _⟩ := own_isP rfl hr8
            cases e
            exact h)
          have HSM := hide (sameP_any a8 _ c8 l8 a9 _ cn l8 V2 HI8.out (HS2.out.isP rfl))
          have HBF : Hid (Below w.heap.size w V2) := hide (HB1.out.trans (HS2.out.lo.mono HWB.out))
          clear hr8 hsl hM hF HSC HFS HI8 HS1 HS2
          go_wp2_with fail
          refine HSM.out.mono ?_
          rintro e V3 ⟨⟨q, rfl, hq⟩, hb3⟩
          obtain rfl : q = true := hq.2 (by simp)
          have HB3 := hide (HBF.out.trans (hb3.mono HBF.out.size))
          clear hb3 hq HSM
          go_wp2
          go_ret
          exact ⟨rfl, HB3.out⟩
end Go.Proofs.YtomfcpngfjakkaaGreatDoor
