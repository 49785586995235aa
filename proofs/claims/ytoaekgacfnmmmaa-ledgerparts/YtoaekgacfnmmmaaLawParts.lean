/- LedgerParts -/
import Derived.Test.YtoaekgacfnmmmaaZa
namespace Go.Proofs.Ytoaekgacfnmmmaa
open Go.RowKit
/-- an amount is given back in two parts -/
theorem parts_all {A P : List Py} {G : List Pg} (hA : BksA A P G) {n am pt : Int} (hE : refE A G n am = 0) (h1 : 1 ≤ pt) (h2 : pt < am) (g : Pg) : ∃ y z : Py, refE A G n pt = 0 ∧ behR (pvA A n) ⟨n, 3, 1, am⟩ = y ∧ behR (pvA A n) ⟨n, 3, 1, pt⟩ = z ∧ (refE (A.set n.toNat z) (G ++ [g]) n (am - pt) = 0 ∨ refE (A.set n.toNat z) (G ++ [g]) n (am - pt) = 3) ∧ (A.set n.toNat z).set n.toNat (behR (pvA (A.set n.toNat z) n) ⟨n, 3, 1, am - pt⟩) = A.set n.toNat y := by
  obtain ⟨hn, ha, hc, hl⟩ := ref_zero hE
  have hv := hA.pv hn
  rcases hp : pvA A n with ⟨q1, op, ca, re⟩
  rw [hp] at hc hv
  obtain ⟨ho, b1, b2, b3, b4, b5⟩ := hv
  dsimp only at *
  subst ho
  obtain ⟨e1, e2⟩ := ref_is (G := G) (am := pt) hn hp (by omega)
  obtain ⟨_, e4⟩ := ref_is (G := G) (am := am) hn hp ha
  rw [hp] at e2 e4
  have hy : noneB ⟨q1, op, ca, re + pt⟩ = false := noneB_ca (by dsimp only; omega)
  have hpz := set_pv hA.2.2.1 hn hy
  obtain ⟨f1, f2⟩ := ref_is (G := G ++ [g]) (am := am - pt) hn hpz (by omega)
  refine ⟨_, _, ?_, e4, e2, ?_, ?_⟩
  · rw [e1, if_neg (by omega), if_neg (by omega), if_neg (by unfold beyB; simp; omega)]
  · rw [f1, if_neg (by omega)]
    split
    · exact .inr rfl
    · rw [if_neg (by unfold beyB; simp; omega)]
      exact .inl rfl
  · rw [f2, List.set_set]
    congr 2
    omega
set_option maxHeartbeats 8000000 in
theorem partsWalk (a : Option Addr) (len cap : Nat) (P : List Py) (a2 : Option Addr) (len2 cap2 : Nat) (G : List Pg) (n am pt : Int) (w : World) (h : IsP w a len cap P) (h2 : IsG w a2 len2 cap2 G) (_hn : i64B n) (ham : i64B am) (hpt : i64B pt) :
    Calls Try.prog 5 #[vb a len cap a2 len2 cap2, .int .i64 n, .int .i64 am, .int .i64 pt] w fun e w' => e = .returned (.bool true) ∧ Below w.heap.size w w' := by
  have HP := hide h
  have HG := hide h2
  have HLV := hide (fun W => lives_any W)
  have HBD := hide (And.intro ham hpt)
  clear h h2 ham hpt
  go_enter Try.func5, Try.ntmps5
  refine wp_seq_k (fun K0 hK0 => ?_)
  have HK0 := hide hK0
  clear hK0
  go_wp2
  have HBw := hide (Below.refl w.heap.size w)
  generalize hW : w.alloc (.cells #[.slice a len cap, .slice a2 len2 cap2] 25) = W0
  have hb : Below w.heap.size w W0 := hW ▸ (Below.refl _ _).alloc (Nat.le_refl _) _
  have HX : Hid (BlkB W0 w.heap.size (.slice a len cap) (.slice a2 len2 cap2)) := hide (hW ▸ heap_alloc_new _ _)
  have HP_a1 := hide (HP.out.below' hb)
  have HG_a1 := hide (HG.out.below' hb)
  have HBw_a1 := hide (HBw.out.trans (hb.mono HBw.out.size))
  clear HP HG HBw hb
  clear hW
  refine HK0.out _ _ ?_
  clear HK0
  refine wp_seq_k (fun K1 hK1 => ?_)
  have HK1 := hide hK1
  clear hK1
  go_wp2_with fail
  refine (HLV.out W0).mono ?_
  rintro e w1 ⟨hb, rfl⟩
  clear HLV
  have HP_l := hide (HP_a1.out.below' hb)
  have HG_l := hide (HG_a1.out.below' hb)
  have HBw_l := hide (HBw_a1.out.trans (hb.mono HBw_a1.out.size))
  have HX_l := hide (HX.out.below (heap_lt HX.out) hb)
  clear HP_a1 HG_a1 HBw_a1 HX hb
  go_wp2
  refine HK1.out _ _ ?_
  clear HK1
  by_cases hck : checkR P G
  · obtain ⟨A, hA⟩ := bks_of hck
    clear hck
    have HAU := hide (refund_any a len cap A P a2 len2 cap2 G n am w1 HP_l.out HG_l.out hA)
    have HA := hide hA
    clear hA
    by_cases hE : refE A G n am = 0
    · have HE := hide hE
      rw [hE] at HAU
      have HN := hide (ref_zero hE).1
      clear hE
      generalize hA1 : A.set n.toNat (behR (pvA A n) ⟨n, 3, 1, am⟩) = A1 at HAU
      generalize G ++ [⟨n, 3, 1, am⟩] = G1 at HAU
      have HA1 := hide hA1
      clear hA1
      refine wp_seq_k (fun K2 hK2 => ?_)
      have HK2 := hide hK2
      clear hK2
      obtain ⟨x1, x2⟩ := HX_l.out.cells
      go_wp2_with fail
      refine (HAU.out).mono ?_
      intro e w2 hop
      obtain ⟨hb, c1, cn, cc, d1, dn, dc, rfl, i1, i2, i3, i4, i5⟩ := hop.done
      clear hop HAU
      have HC1 := hide i1
      have HC2 := hide i2
      have HBC := hide i3
      clear i1 i2 i3 i4 i5
      clear x1 x2 
      have HP_c2 := hide (HP_l.out.below' hb)
      have HG_c2 := hide (HG_l.out.below' hb)
      have HBw_c2 := hide (HBw_l.out.trans (hb.mono HBw_l.out.size))
      have HX_c2 := hide (HX_l.out.below (heap_lt HX_l.out) hb)
      clear HP_l HG_l HBw_l HX_l hb
      go_wp2
      generalize hW : w2.alloc (.cells #[.slice c1 cn cc, .slice d1 dn dc] 25) = W2
      have hb : Below w2.heap.size w2 W2 := hW ▸ (Below.refl _ _).alloc (Nat.le_refl _) _
      have HC : Hid (BlkB W2 w2.heap.size (.slice c1 cn cc) (.slice d1 dn dc)) := hide (hW ▸ heap_alloc_new _ _)
      have HP_a3 := hide (HP_c2.out.below' hb)
      have HG_a3 := hide (HG_c2.out.below' hb)
      have HBw_a3 := hide (HBw_c2.out.trans (hb.mono HBw_c2.out.size))
      have HX_a3 := hide (HX_c2.out.below (heap_lt HX_c2.out) hb)
      have HC1_a3 := hide (HC1.out.below' hb)
      have HC2_a3 := hide (HC2.out.below' hb)
      clear HP_c2 HG_c2 HBw_c2 HX_c2 HC1 HC2 hb
      clear hW
      generalize w2.heap.size = BC at *
      refine HK2.out _ _ ?_
      clear HK2
      refine wp_seq_k (fun K3 hK3 => ?_)
      have HK3 := hide hK3
      clear hK3
      go_wp2
      refine HK3.out _ _ ?_
      clear HK3
      by_cases hp1 : pt < 1
      · go_wp2
        go_ret
        exact ⟨rfl, HBw_a3.out⟩
      · by_cases hp2 : am ≤ pt
        · go_wp2
          go_ret
          exact ⟨rfl, HBw_a3.out⟩
        · refine wp_seq_k (fun K4 hK4 => ?_)
          have HK4 := hide hK4
          clear hK4
          go_wp2
          refine HK4.out _ _ ?_
          clear HK4
          obtain ⟨y, z, q1, q2, q3, q4, q5⟩ := parts_all HA.out HE.out (pt := pt) (by omega) (by omega) ⟨n, 3, 1, pt⟩
          have HQ1 := hide q1
          have HQ3 := hide q3
          have HQ4 := hide q4
          have HQ5 := hide q5
          rw [q2] at HA1
          have hws : IntKind.i64.wrap (am - pt) = am - pt := wrap64 (by have := HBD.out; unfold i64B at this; omega) (by have := HBD.out; unfold i64B at this; omega)
          clear q1 q2 q3 q4 q5 hp1 hp2
          refine wp_seq_k (fun K5 hK5 => ?_)
          have HK5 := hide hK5
          clear hK5
          have HST := hide (refund_any a len cap A P a2 len2 cap2 G n pt W2 HP_a3.out HG_a3.out HA.out)
          rw [HQ1.out, HQ3.out] at HST
          generalize A.set n.toNat z = A2 at *
          generalize G ++ [⟨n, 3, 1, pt⟩] = G2 at *
          obtain ⟨x1, x2⟩ := HX_a3.out.cells
          go_wp2_with fail
          refine (HST.out).mono ?_
          intro e w3 hop
          obtain ⟨hb, e1, en, ec, f1, fn, fc, rfl, i1, i2, i3, i4, i5⟩ := hop.done
          clear hop HST
          have HE1 := hide i1
          have HE2 := hide i2
          have HBE := hide i3
          clear i1 i2 i3 i4 i5
          clear x1 x2 
          have HP_c4 := hide (HP_a3.out.below' hb)
          have HG_c4 := hide (HG_a3.out.below' hb)
          have HBw_c4 := hide (HBw_a3.out.trans (hb.mono HBw_a3.out.size))
          have HX_c4 := hide (HX_a3.out.below (heap_lt HX_a3.out) hb)
          have HC1_c4 := hide (HC1_a3.out.below' hb)
          have HC2_c4 := hide (HC2_a3.out.below' hb)
          have HC_c4 := hide (HC.out.below (heap_lt HC.out) hb)
          clear HP_a3 HG_a3 HBw_a3 HX_a3 HC1_a3 HC2_a3 HC hb
          go_wp2
          generalize hW : w3.alloc (.cells #[.slice e1 en ec, .slice f1 fn fc] 25) = W3
          have hb : Below w3.heap.size w3 W3 := hW ▸ (Below.refl _ _).alloc (Nat.le_refl _) _
          have HE : Hid (BlkB W3 w3.heap.size (.slice e1 en ec) (.slice f1 fn fc)) := hide (hW ▸ heap_alloc_new _ _)
          have HP_a5 := hide (HP_c4.out.below' hb)
          have HG_a5 := hide (HG_c4.out.below' hb)
          have HBw_a5 := hide (HBw_c4.out.trans (hb.mono HBw_c4.out.size))
          have HX_a5 := hide (HX_c4.out.below (heap_lt HX_c4.out) hb)
          have HC1_a5 := hide (HC1_c4.out.below' hb)
          have HC2_a5 := hide (HC2_c4.out.below' hb)
          have HC_a5 := hide (HC_c4.out.below (heap_lt HC_c4.out) hb)
          have HE1_a5 := hide (HE1.out.below' hb)
          have HE2_a5 := hide (HE2.out.below' hb)
          clear HP_c4 HG_c4 HBw_c4 HX_c4 HC1_c4 HC2_c4 HC_c4 HE1 HE2 hb
          clear hW
          generalize w3.heap.size = BE at *
          refine HK5.out _ _ ?_
          clear HK5
          refine wp_seq_k (fun K6 hK6 => ?_)
          have HK6 := hide hK6
          clear hK6
          have HST := hide (refund_any e1 en ec A2 _ f1 fn fc G2 n (am - pt) W3 HE1_a5.out HE2_a5.out HBE.out)
          rw [HQ5.out, HA1.out] at HST
          generalize refE A2 G2 n (am - pt) = r3 at *
          generalize G2 ++ [⟨n, 3, 1, am - pt⟩] = G3 at *
          obtain ⟨x1, x2⟩ := HE.out.cells
          go_wp2_with fail
          refine (HST.out).mono ?_
          intro e w4 hop
          obtain ⟨hb, AD, GD, aD, nD, cD, bD, dD, rfl, i1, i2, i3, _, _, i6⟩ := hop.all
          clear hop HST
          have HD1 := hide i1
          have HD2 := hide i2
          have HBD2 := hide i3
          have HWD := hide i6
          clear i1 i2 i3 i6
          clear x1 x2 
          have HP_c6 := hide (HP_a5.out.below' hb)
          have HG_c6 := hide (HG_a5.out.below' hb)
          have HBw_c6 := hide (HBw_a5.out.trans (hb.mono HBw_a5.out.size))
          have HX_c6 := hide (HX_a5.out.below (heap_lt HX_a5.out) hb)
          have HC1_c6 := hide (HC1_a5.out.below' hb)
          have HC2_c6 := hide (HC2_a5.out.below' hb)
          have HC_c6 := hide (HC_a5.out.below (heap_lt HC_a5.out) hb)
          have HE1_c6 := hide (HE1_a5.out.below' hb)
          have HE2_c6 := hide (HE2_a5.out.below' hb)
          have HE_c6 := hide (HE.out.below (heap_lt HE.out) hb)
          clear HP_a5 HG_a5 HBw_a5 HX_a5 HC1_a5 HC2_a5 HC_a5 HE1_a5 HE2_a5 HE hb
          generalize hgl : GD.length = mD at *
          clear hgl hws
          go_wp2
          generalize hW : w4.alloc (.cells #[.slice aD nD cD, .slice bD mD dD] 25) = W4
          have hb : Below w4.heap.size w4 W4 := hW ▸ (Below.refl _ _).alloc (Nat.le_refl _) _
          have HD : Hid (BlkB W4 w4.heap.size (.slice aD nD cD) (.slice bD mD dD)) := hide (hW ▸ heap_alloc_new _ _)
          have HP_a7 := hide (HP_c6.out.below' hb)
          have HG_a7 := hide (HG_c6.out.below' hb)
          have HBw_a7 := hide (HBw_c6.out.trans (hb.mono HBw_c6.out.size))
          have HX_a7 := hide (HX_c6.out.below (heap_lt HX_c6.out) hb)
          have HC1_a7 := hide (HC1_c6.out.below' hb)
          have HC2_a7 := hide (HC2_c6.out.below' hb)
          have HC_a7 := hide (HC_c6.out.below (heap_lt HC_c6.out) hb)
          have HE1_a7 := hide (HE1_c6.out.below' hb)
          have HE2_a7 := hide (HE2_c6.out.below' hb)
          have HE_a7 := hide (HE_c6.out.below (heap_lt HE_c6.out) hb)
          have HD1_a7 := hide (HD1.out.below' hb)
          have HD2_a7 := hide (HD2.out.below' hb)
          clear HP_c6 HG_c6 HBw_c6 HX_c6 HC1_c6 HC2_c6 HC_c6 HE1_c6 HE2_c6 HE_c6 HD1 HD2 hb
          clear hW
          generalize w4.heap.size = BD at *
          refine HK6.out _ _ ?_
          clear HK6
          rcases HQ4.out with rfl | rfl
          · refine wp_seq_k (fun K7 hK7 => ?_)
            have HK7 := hide hK7
            clear hK7
            go_wp2
            refine HK7.out _ _ ?_
            clear HK7
            obtain rfl : A1 = AD := by
              rcases HWD.out with ⟨_, h, _⟩ | ⟨h, _⟩
              · exact h.symm
              · exact absurd rfl h
            clear HWD HQ4 HQ5 HQ3 HQ1 HE HA1
            rcases hpb : payV A1 n with ⟨p1, p2, p3, p4⟩
            refine wp_seq_k (fun K8 hK8 => ?_)
            have HK8 := hide hK8
            clear hK8
            have HPY := hide (pay_any c1 cn cc A1 _ d1 dn dc G1 n W4 HC1_a7.out HC2_a7.out HBC.out)
            rw [hpb] at HPY
            have HPB := hide hpb
            clear hpb
            obtain ⟨x1, x2⟩ := HC_a7.out.cells
            go_wp2_with fail
            refine (HPY.out).mono ?_
            rintro e w5 ⟨hb, ⟨hno, _⟩ | ⟨_, rfl⟩⟩
            · exact absurd hno (by rw [HN.out]; decide)
            clear HPY
            clear x1 x2 
            have HP_c8 := hide (HP_a7.out.below' hb)
            have HG_c8 := hide (HG_a7.out.below' hb)
            have HBw_c8 := hide (HBw_a7.out.trans (hb.mono HBw_a7.out.size))
            have HX_c8 := hide (HX_a7.out.below (heap_lt HX_a7.out) hb)
            have HC1_c8 := hide (HC1_a7.out.below' hb)
            have HC2_c8 := hide (HC2_a7.out.below' hb)
            have HC_c8 := hide (HC_a7.out.below (heap_lt HC_a7.out) hb)
            have HE1_c8 := hide (HE1_a7.out.below' hb)
            have HE2_c8 := hide (HE2_a7.out.below' hb)
            have HE_c8 := hide (HE_a7.out.below (heap_lt HE_a7.out) hb)
            have HD1_c8 := hide (HD1_a7.out.below' hb)
            have HD2_c8 := hide (HD2_a7.out.below' hb)
            have HD_c8 := hide (HD.out.below (heap_lt HD.out) hb)
            clear HP_a7 HG_a7 HBw_a7 HX_a7 HC1_a7 HC2_a7 HC_a7 HE1_a7 HE2_a7 HE_a7 HD1_a7 HD2_a7 HD hb
            go_wp2
            generalize hW : w5.alloc (.cells #[.int .i64 p1, .int .i64 p2, .int .i64 p3, .int .i64 p4] 30) = W5
            have hb : Below w5.heap.size w5 W5 := hW ▸ (Below.refl _ _).alloc (Nat.le_refl _) _
            have HS : Hid (BlkP W5 w5.heap.size ⟨p1, p2, p3, p4⟩) := hide (hW ▸ heap_alloc_new _ _)
            have HP_a9 := hide (HP_c8.out.below' hb)
            have HG_a9 := hide (HG_c8.out.below' hb)
            have HBw_a9 := hide (HBw_c8.out.trans (hb.mono HBw_c8.out.size))
            have HX_a9 := hide (HX_c8.out.below (heap_lt HX_c8.out) hb)
            have HC1_a9 := hide (HC1_c8.out.below' hb)
            have HC2_a9 := hide (HC2_c8.out.below' hb)
            have HC_a9 := hide (HC_c8.out.below (heap_lt HC_c8.out) hb)
            have HE1_a9 := hide (HE1_c8.out.below' hb)
            have HE2_a9 := hide (HE2_c8.out.below' hb)
            have HE_a9 := hide (HE_c8.out.below (heap_lt HE_c8.out) hb)
            have HD1_a9 := hide (HD1_c8.out.below' hb)
            have HD2_a9 := hide (HD2_c8.out.below' hb)
            have HD_a9 := hide (HD_c8.out.below (heap_lt HD_c8.out) hb)
            clear HP_c8 HG_c8 HBw_c8 HX_c8 HC1_c8 HC2_c8 HC_c8 HE1_c8 HE2_c8 HE_c8 HD1_c8 HD2_c8 HD_c8 hb
            clear hW
            generalize w5.heap.size = BS at *
            refine HK8.out _ _ ?_
            clear HK8
            refine wp_seq_k (fun K9 hK9 => ?_)
            have HK9 := hide hK9
            clear hK9
            have HPY := hide (pay_any aD nD cD A1 _ bD mD dD GD n W5 HD1_a9.out HD2_a9.out HBD2.out)
            rw [HPB.out] at HPY
            obtain ⟨x1, x2⟩ := HD_a9.out.cells
            go_wp2_with fail
            refine (HPY.out).mono ?_
            rintro e w6 ⟨hb, ⟨hno, _⟩ | ⟨_, rfl⟩⟩
            · exact absurd hno (by rw [HN.out]; decide)
            clear HPY
            clear x1 x2 
            have HP_c10 := hide (HP_a9.out.below' hb)
            have HG_c10 := hide (HG_a9.out.below' hb)
            have HBw_c10 := hide (HBw_a9.out.trans (hb.mono HBw_a9.out.size))
            have HX_c10 := hide (HX_a9.out.below (heap_lt HX_a9.out) hb)
            have HC1_c10 := hide (HC1_a9.out.below' hb)
            have HC2_c10 := hide (HC2_a9.out.below' hb)
            have HC_c10 := hide (HC_a9.out.below (heap_lt HC_a9.out) hb)
            have HE1_c10 := hide (HE1_a9.out.below' hb)
            have HE2_c10 := hide (HE2_a9.out.below' hb)
            have HE_c10 := hide (HE_a9.out.below (heap_lt HE_a9.out) hb)
            have HD1_c10 := hide (HD1_a9.out.below' hb)
            have HD2_c10 := hide (HD2_a9.out.below' hb)
            have HD_c10 := hide (HD_a9.out.below (heap_lt HD_a9.out) hb)
            have HS_c10 := hide (HS.out.below (heap_lt HS.out) hb)
            clear HP_a9 HG_a9 HBw_a9 HX_a9 HC1_a9 HC2_a9 HC_a9 HE1_a9 HE2_a9 HE_a9 HD1_a9 HD2_a9 HD_a9 HS hb
            go_wp2
            generalize hW : w6.alloc (.cells #[.int .i64 p1, .int .i64 p2, .int .i64 p3, .int .i64 p4] 30) = W6
            have hb : Below w6.heap.size w6 W6 := hW ▸ (Below.refl _ _).alloc (Nat.le_refl _) _
            have HT : Hid (BlkP W6 w6.heap.size ⟨p1, p2, p3, p4⟩) := hide (hW ▸ heap_alloc_new _ _)
            have HP_a11 := hide (HP_c10.out.below' hb)
            have HG_a11 := hide (HG_c10.out.below' hb)
            have HBw_a11 := hide (HBw_c10.out.trans (hb.mono HBw_c10.out.size))
            have HX_a11 := hide (HX_c10.out.below (heap_lt HX_c10.out) hb)
            have HC1_a11 := hide (HC1_c10.out.below' hb)
            have HC2_a11 := hide (HC2_c10.out.below' hb)
            have HC_a11 := hide (HC_c10.out.below (heap_lt HC_c10.out) hb)
            have HE1_a11 := hide (HE1_c10.out.below' hb)
            have HE2_a11 := hide (HE2_c10.out.below' hb)
            have HE_a11 := hide (HE_c10.out.below (heap_lt HE_c10.out) hb)
            have HD1_a11 := hide (HD1_c10.out.below' hb)
            have HD2_a11 := hide (HD2_c10.out.below' hb)
            have HD_a11 := hide (HD_c10.out.below (heap_lt HD_c10.out) hb)
            have HS_a11 := hide (HS_c10.out.below (heap_lt HS_c10.out) hb)
            clear HP_c10 HG_c10 HBw_c10 HX_c10 HC1_c10 HC2_c10 HC_c10 HE1_c10 HE2_c10 HE_c10 HD1_c10 HD2_c10 HD_c10 HS_c10 hb
            clear hW
            generalize w6.heap.size = BT at *
            refine HK9.out _ _ ?_
            clear HK9
            obtain ⟨s1, s2, hs1⟩ : ∃ s1 s2, num (balS (A1.filter keepB) 3) = s1 ∧ err (balS (A1.filter keepB) 3) = s2 := ⟨_, _, rfl, rfl⟩
            have HSS := hide hs1
            clear hs1
            refine wp_seq_k (fun K10 hK10 => ?_)
            have HK10 := hide hK10
            clear hK10
            have HPY := hide (balance3_any c1 cn cc _ d1 dn dc G1 W6 HC1_a11.out HC2_a11.out HBC.out.check)
            rw [HSS.out.1, HSS.out.2] at HPY
            obtain ⟨x1, x2⟩ := HC_a11.out.cells
            go_wp2_with fail
            refine (HPY.out).mono ?_
            rintro e w7 ⟨hb, rfl⟩
            clear HPY
            clear x1 x2 
            have HP_c12 := hide (HP_a11.out.below' hb)
            have HG_c12 := hide (HG_a11.out.below' hb)
            have HBw_c12 := hide (HBw_a11.out.trans (hb.mono HBw_a11.out.size))
            have HX_c12 := hide (HX_a11.out.below (heap_lt HX_a11.out) hb)
            have HC1_c12 := hide (HC1_a11.out.below' hb)
            have HC2_c12 := hide (HC2_a11.out.below' hb)
            have HC_c12 := hide (HC_a11.out.below (heap_lt HC_a11.out) hb)
            have HE1_c12 := hide (HE1_a11.out.below' hb)
            have HE2_c12 := hide (HE2_a11.out.below' hb)
            have HE_c12 := hide (HE_a11.out.below (heap_lt HE_a11.out) hb)
            have HD1_c12 := hide (HD1_a11.out.below' hb)
            have HD2_c12 := hide (HD2_a11.out.below' hb)
            have HD_c12 := hide (HD_a11.out.below (heap_lt HD_a11.out) hb)
            have HS_c12 := hide (HS_a11.out.below (heap_lt HS_a11.out) hb)
            have HT_c12 := hide (HT.out.below (heap_lt HT.out) hb)
            clear HP_a11 HG_a11 HBw_a11 HX_a11 HC1_a11 HC2_a11 HC_a11 HE1_a11 HE2_a11 HE_a11 HD1_a11 HD2_a11 HD_a11 HS_a11 HT hb
            go_wp2
            refine HK10.out _ _ ?_
            clear HK10
            refine wp_seq_k (fun K11 hK11 => ?_)
            have HK11 := hide hK11
            clear hK11
            have HPY := hide (balance3_any aD nD cD _ bD mD dD GD w7 HD1_c12.out HD2_c12.out HBD2.out.check)
            rw [HSS.out.1, HSS.out.2] at HPY
            obtain ⟨x1, x2⟩ := HD_c12.out.cells
            go_wp2_with fail
            refine (HPY.out).mono ?_
            rintro e w8 ⟨hb, rfl⟩
            clear HPY
            clear x1 x2 
            have HP_c13 := hide (HP_c12.out.below' hb)
            have HG_c13 := hide (HG_c12.out.below' hb)
            have HBw_c13 := hide (HBw_c12.out.trans (hb.mono HBw_c12.out.size))
            have HX_c13 := hide (HX_c12.out.below (heap_lt HX_c12.out) hb)
            have HC1_c13 := hide (HC1_c12.out.below' hb)
            have HC2_c13 := hide (HC2_c12.out.below' hb)
            have HC_c13 := hide (HC_c12.out.below (heap_lt HC_c12.out) hb)
            have HE1_c13 := hide (HE1_c12.out.below' hb)
            have HE2_c13 := hide (HE2_c12.out.below' hb)
            have HE_c13 := hide (HE_c12.out.below (heap_lt HE_c12.out) hb)
            have HD1_c13 := hide (HD1_c12.out.below' hb)
            have HD2_c13 := hide (HD2_c12.out.below' hb)
            have HD_c13 := hide (HD_c12.out.below (heap_lt HD_c12.out) hb)
            have HS_c13 := hide (HS_c12.out.below (heap_lt HS_c12.out) hb)
            have HT_c13 := hide (HT_c12.out.below (heap_lt HT_c12.out) hb)
            clear HP_c12 HG_c12 HBw_c12 HX_c12 HC1_c12 HC2_c12 HC_c12 HE1_c12 HE2_c12 HE_c12 HD1_c12 HD2_c12 HD_c12 HS_c12 HT_c12 hb
            go_wp2
            refine HK11.out _ _ ?_
            clear HK11
            obtain ⟨g1, g2, g3, g4⟩ := HS_c13.out.cells
            obtain ⟨t1, t2, t3, t4⟩ := HT_c13.out.cells
            simp only [Nat.zero_add] at g1 g2 g3 g4 t1 t2 t3 t4
            have u1 := equal30 p1 p2 p3 p4 p1 p2 p3 p4
            have u2 := eqg30
            have u3 : sameP ⟨p1, p2, p3, p4⟩ ⟨p1, p2, p3, p4⟩ = true := (sameP_iff _ _).2 rfl
            rw [u3] at u1
            clear u3
            go_wp2
            go_ret
            exact ⟨rfl, HBw_c13.out⟩
          · go_wp2
            go_ret
            exact ⟨rfl, HBw_a7.out⟩
    · refine wp_seq_k (fun K2 hK2 => ?_)
      have HK2 := hide hK2
      clear hK2
      generalize refE A G n am = r at *
      have hr1 : (r != 0) = true := by simpa using hE
      obtain ⟨x1, x2⟩ := HX_l.out.cells
      go_wp2_with fail
      refine (HAU.out).mono ?_
      intro e w2 hop
      obtain ⟨hb, rfl⟩ := hop.no hE
      clear hop HAU
      clear x1 x2 
      have HP_c2 := hide (HP_l.out.below' hb)
      have HG_c2 := hide (HG_l.out.below' hb)
      have HBw_c2 := hide (HBw_l.out.trans (hb.mono HBw_l.out.size))
      have HX_c2 := hide (HX_l.out.below (heap_lt HX_l.out) hb)
      clear HP_l HG_l HBw_l HX_l hb
      go_wp2
      generalize hW : w2.alloc (.cells #[.slice none 0 0, .slice none 0 0] 25) = W2
      have hb : Below w2.heap.size w2 W2 := hW ▸ (Below.refl _ _).alloc (Nat.le_refl _) _
      have HC : Hid (BlkB W2 w2.heap.size (.slice none 0 0) (.slice none 0 0)) := hide (hW ▸ heap_alloc_new _ _)
      have HP_a3 := hide (HP_c2.out.below' hb)
      have HG_a3 := hide (HG_c2.out.below' hb)
      have HBw_a3 := hide (HBw_c2.out.trans (hb.mono HBw_c2.out.size))
      have HX_a3 := hide (HX_c2.out.below (heap_lt HX_c2.out) hb)
      clear HP_c2 HG_c2 HBw_c2 HX_c2 hb
      clear hW
      generalize w2.heap.size = BC at *
      refine HK2.out _ _ ?_
      clear HK2
      obtain ⟨x1, x2⟩ := HC.out.cells
      go_wp2
      go_ret
      exact ⟨rfl, HBw_a3.out⟩
  · refine wp_seq_k (fun K2 hK2 => ?_)
    have HK2 := hide hK2
    clear hK2
    obtain ⟨x1, x2⟩ := HX_l.out.cells
    go_wp2_with fail
    refine (refund_wrong a len cap P a2 len2 cap2 G n am w1 HP_l.out HG_l.out hck).mono ?_
    rintro e w2 ⟨hb, rfl⟩
    clear x1 x2 hck
    have HP_c2 := hide (HP_l.out.below' hb)
    have HG_c2 := hide (HG_l.out.below' hb)
    have HBw_c2 := hide (HBw_l.out.trans (hb.mono HBw_l.out.size))
    have HX_c2 := hide (HX_l.out.below (heap_lt HX_l.out) hb)
    clear HP_l HG_l HBw_l HX_l hb
    go_wp2
    generalize hW : w2.alloc (.cells #[.slice none 0 0, .slice none 0 0] 25) = W2
    have hb : Below w2.heap.size w2 W2 := hW ▸ (Below.refl _ _).alloc (Nat.le_refl _) _
    have HC : Hid (BlkB W2 w2.heap.size (.slice none 0 0) (.slice none 0 0)) := hide (hW ▸ heap_alloc_new _ _)
    have HP_a3 := hide (HP_c2.out.below' hb)
    have HG_a3 := hide (HG_c2.out.below' hb)
    have HBw_a3 := hide (HBw_c2.out.trans (hb.mono HBw_c2.out.size))
    have HX_a3 := hide (HX_c2.out.below (heap_lt HX_c2.out) hb)
    clear HP_c2 HG_c2 HBw_c2 HX_c2 hb
    clear hW
    generalize w2.heap.size = BC at *
    refine HK2.out _ _ ?_
    clear HK2
    obtain ⟨x1, x2⟩ := HC.out.cells
    go_wp2
    go_ret
    exact ⟨rfl, HBw_a3.out⟩
end Go.Proofs.Ytoaekgacfnmmmaa
