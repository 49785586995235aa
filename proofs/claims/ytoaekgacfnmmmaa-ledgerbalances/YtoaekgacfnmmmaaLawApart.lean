/- LedgerApart -/
import Derived.Test.YtoaekgacfnmmmaaSa
namespace Go.Proofs.Ytoaekgacfnmmmaa
open Go.RowKit
theorem BlkB.other {w : World} {g g' j : Nat} {v1 v2 : Value} (h : BlkB w g v1 v2) (hn : g ≠ g') (v : Value) : BlkB (w.setCell ⟨g', j, none⟩ v) g v1 v2 := (Below.heap_setCell _ _ _ _ hn).trans h
theorem auth_is {A P : List Py} {G : List Pg} (hA : BksA A P G) {n am : Int} (hn : ordB n = true) (ha : 1 ≤ am ∧ am ≤ 1152921504606846976) (hp : (pvA A n).op = 0) : authE A G n am = (if 16384 ≤ G.length then 3 else 0) := by
  have hv := hA.pv hn
  have hb : behR (pvA A n) ⟨n, 1, 2, am⟩ = ⟨n, am, (pvA A n).ca, (pvA A n).re⟩ := by unfold behR; simp [hp]
  unfold authE
  rw [hb, if_neg (by rw [hn]; decide), if_neg (by rw [(amtB_iff am).2 ha]; decide), if_neg (by simpa using hp)]
  split
  · rfl
  · have h1 := hv.ca1
    have h2 := hv.re0
    have h3 := hv.rc
    rw [if_neg (by unfold beyB; simp; omega)]
/-- two orders, in either order -/
theorem apart_all {A P : List Py} {G : List Pg} (hA : BksA A P G) {n o am mo : Int} (hno : n ≠ o) (h1 : authE A G n am = 0) (h2 : authE A G o mo = 0) {Px Py' : List Py} (g1 g2 : Pg)
    (hx : BksA (A.set n.toNat (behR (pvA A n) ⟨n, 1, 2, am⟩)) Px (G ++ [g1])) (hy : BksA (A.set o.toNat (behR (pvA A o) ⟨o, 1, 2, mo⟩)) Py' (G ++ [g2])) : ∃ r : Int, (r = 0 ∨ r = 3) ∧ authE (A.set n.toNat (behR (pvA A n) ⟨n, 1, 2, am⟩)) (G ++ [g1]) o mo = r ∧ authE (A.set o.toNat (behR (pvA A o) ⟨o, 1, 2, mo⟩)) (G ++ [g2]) n am = r ∧
    (A.set n.toNat (behR (pvA A n) ⟨n, 1, 2, am⟩)).set o.toNat (behR (pvA (A.set n.toNat (behR (pvA A n) ⟨n, 1, 2, am⟩)) o) ⟨o, 1, 2, mo⟩) = (A.set o.toNat (behR (pvA A o) ⟨o, 1, 2, mo⟩)).set n.toNat (behR (pvA (A.set o.toNat (behR (pvA A o) ⟨o, 1, 2, mo⟩)) n) ⟨n, 1, 2, am⟩) := by
  obtain ⟨n1, n2, n3, n4, n5⟩ := auth_zero h1
  obtain ⟨o1, o2, o3, o4, o5⟩ := auth_zero h2
  have e1 : pvA (A.set n.toNat (behR (pvA A n) ⟨n, 1, 2, am⟩)) o = pvA A o := by rw [pv_set hA.2.2.1 n1 o1, if_neg (fun e => hno e.symm)]
  have e2 : pvA (A.set o.toNat (behR (pvA A o) ⟨o, 1, 2, mo⟩)) n = pvA A n := by rw [pv_set hA.2.2.1 o1 n1, if_neg hno]
  refine ⟨if 16384 ≤ G.length + 1 then 3 else 0, ?_, ?_, ?_, ?_⟩
  · split
    · exact .inr rfl
    · exact .inl rfl
  · rw [auth_is hx o1 o2 (by rw [e1]; exact o3)]
    simp
  · rw [auth_is hy n1 n2 (by rw [e2]; exact n3)]
    simp
  · rw [e1, e2]
    refine List.set_comm _ _ ?_
    have h3 := (ord_nat n1).2
    have h4 := (ord_nat o1).2
    omega
set_option maxHeartbeats 8000000 in
theorem apartWalk (a : Option Addr) (len cap : Nat) (P : List Py) (a2 : Option Addr) (len2 cap2 : Nat) (G : List Pg) (n o am mo : Int) (w : World) (h : IsP w a len cap P) (h2 : IsG w a2 len2 cap2 G) (_hn : i64B n) (_ho : i64B o) (_ham : i64B am) (_hmo : i64B mo) :
    Calls Try.prog 6 #[vb a len cap a2 len2 cap2, .int .i64 n, .int .i64 o, .int .i64 am, .int .i64 mo] w fun e w' => e = .returned (.bool true) ∧ Below w.heap.size w w' := by
  have HP := hide h
  have HG := hide h2
  have HLV := hide (fun W => lives_any W)
  clear h h2
  go_enter Try.func6, Try.ntmps6
  refine wp_seq_k (fun K0 hK0 => ?_)
  have HK0 := hide hK0
  clear hK0
  go_wp2
  have HBw := hide (Below.refl w.heap.size w)
  generalize hW : w.alloc (.cells #[.slice a len cap, .slice a2 len2 cap2] 25) = W0
  have hb : Below w.heap.size w W0 := hW ▸ (Below.refl _ _).alloc (Nat.le_refl _) _
  have HX : Hid (BlkB W0 w.heap.size (.slice a len cap) (.slice a2 len2 cap2)) := hide (hW ▸ heap_alloc_new _ _)
  have HP_a1 := hide (HP.out.below' hb)
  have HG_a1 := hide (HG.out.below' hb)
  have HBw_a1 := hide (HBw.out.trans (hb.mono HBw.out.size))
  clear HP HG HBw hb
  clear hW
  refine HK0.out _ _ ?_
  clear HK0
  refine wp_seq_k (fun K1 hK1 => ?_)
  have HK1 := hide hK1
  clear hK1
  go_wp2_with fail
  refine (HLV.out W0).mono ?_
  rintro e w1 ⟨hb, rfl⟩
  clear HLV
  have HP_l := hide (HP_a1.out.below' hb)
  have HG_l := hide (HG_a1.out.below' hb)
  have HBw_l := hide (HBw_a1.out.trans (hb.mono HBw_a1.out.size))
  have HX_l := hide (HX.out.below (heap_lt HX.out) hb)
  clear HP_a1 HG_a1 HBw_a1 HX hb
  go_wp2
  refine HK1.out _ _ ?_
  clear HK1
  by_cases hno : n = o
  · subst hno
    go_wp2
    go_ret
    exact ⟨rfl, HBw_l.out⟩
  · have HNO := hide hno
    have hno1 : (n == o) = false := by simpa using hno
    clear hno
    refine wp_seq_k (fun K2 hK2 => ?_)
    have HK2 := hide hK2
    clear hK2
    go_wp2
    refine HK2.out _ _ ?_
    clear HK2
    clear hno1
    by_cases hck : checkR P G
    · obtain ⟨A, hA⟩ := bks_of hck
      clear hck
      have HA := hide hA
      clear hA
      refine wp_seq_k (fun K3 hK3 => ?_)
      have HK3 := hide hK3
      clear hK3
      have HST := hide (auth_any a len cap A P a2 len2 cap2 G n am w1 HP_l.out HG_l.out HA.out)
      generalize hgE : authE A G n am = e1 at HST
      have HGe1 := hide hgE
      clear hgE
      obtain ⟨x1, x2⟩ := HX_l.out.cells
      go_wp2_with fail
      refine (HST.out).mono ?_
      intro e w2 hop
      obtain ⟨hb, AC, GC, aC, nC, cC, bC, dC, rfl, i1, i2, i3, i4, i5, i6⟩ := hop.all
      clear hop HST
      have HC1 := hide i1
      have HC2 := hide i2
      have HBC := hide i3
      have HWC := hide i6
      have HNC := hide (And.intro i4 i5)
      clear i1 i2 i3 i4 i5 i6
      clear x1 x2 
      have HP_c2 := hide (HP_l.out.below' hb)
      have HG_c2 := hide (HG_l.out.below' hb)
      have HBw_c2 := hide (HBw_l.out.trans (hb.mono HBw_l.out.size))
      have HX_c2 := hide (HX_l.out.below (heap_lt HX_l.out) hb)
      clear HP_l HG_l HBw_l HX_l hb
      generalize hgl : GC.length = mC at *
      clear hgl
      go_wp2
      generalize hW : w2.alloc (.cells #[.slice aC nC cC, .slice bC mC dC] 25) = W2
      have hb : Below w2.heap.size w2 W2 := hW ▸ (Below.refl _ _).alloc (Nat.le_refl _) _
      have HXC : Hid (BlkB W2 w2.heap.size (.slice aC nC cC) (.slice bC mC dC)) := hide (hW ▸ heap_alloc_new _ _)
      have HSC := hide (And.intro HBw_c2.out.size (heap_lt HXC.out))
      have HP_a3 := hide (HP_c2.out.below' hb)
      have HG_a3 := hide (HG_c2.out.below' hb)
      have HBw_a3 := hide (HBw_c2.out.trans (hb.mono HBw_c2.out.size))
      have HX_a3 := hide (HX_c2.out.below (heap_lt HX_c2.out) hb)
      have HC1_a3 := hide (HC1.out.below' hb)
      have HC2_a3 := hide (HC2.out.below' hb)
      clear HP_c2 HG_c2 HBw_c2 HX_c2 HC1 HC2 hb
      clear hW
      generalize w2.heap.size = BXC at *
      refine HK3.out _ _ ?_
      clear HK3
      refine wp_seq_k (fun K4 hK4 => ?_)
      have HK4 := hide hK4
      clear hK4
      have HST := hide (auth_any a len cap A P a2 len2 cap2 G o mo W2 HP_a3.out HG_a3.out HA.out)
      generalize hgE : authE A G o mo = e2 at HST
      have HGe2 := hide hgE
      clear hgE
      obtain ⟨x1, x2⟩ := HX_a3.out.cells
      go_wp2_with fail
      refine (HST.out).mono ?_
      intro e w3 hop
      obtain ⟨hb, AD, GD, aD, nD, cD, bD, dD, rfl, i1, i2, i3, i4, i5, i6⟩ := hop.all
      clear hop HST
      have HD1 := hide i1
      have HD2 := hide i2
      have HBD := hide i3
      have HWD := hide i6
      have HND := hide (And.intro i4 i5)
      clear i1 i2 i3 i4 i5 i6
      clear x1 x2 
      have HP_c4 := hide (HP_a3.out.below' hb)
      have HG_c4 := hide (HG_a3.out.below' hb)
      have HBw_c4 := hide (HBw_a3.out.trans (hb.mono HBw_a3.out.size))
      have HX_c4 := hide (HX_a3.out.below (heap_lt HX_a3.out) hb)
      have HC1_c4 := hide (HC1_a3.out.below' hb)
      have HC2_c4 := hide (HC2_a3.out.below' hb)
      have HXC_c4 := hide (HXC.out.below (heap_lt HXC.out) hb)
      clear HP_a3 HG_a3 HBw_a3 HX_a3 HC1_a3 HC2_a3 HXC hb
      generalize hgl : GD.length = mD at *
      clear hgl
      go_wp2
      generalize hW : w3.alloc (.cells #[.slice aD nD cD, .slice bD mD dD] 25) = W3
      have hb : Below w3.heap.size w3 W3 := hW ▸ (Below.refl _ _).alloc (Nat.le_refl _) _
      have HXD : Hid (BlkB W3 w3.heap.size (.slice aD nD cD) (.slice bD mD dD)) := hide (hW ▸ heap_alloc_new _ _)
      have HSD := hide (And.intro HBw_c4.out.size (heap_lt HXC_c4.out))
      have HP_a5 := hide (HP_c4.out.below' hb)
      have HG_a5 := hide (HG_c4.out.below' hb)
      have HBw_a5 := hide (HBw_c4.out.trans (hb.mono HBw_c4.out.size))
      have HX_a5 := hide (HX_c4.out.below (heap_lt HX_c4.out) hb)
      have HC1_a5 := hide (HC1_c4.out.below' hb)
      have HC2_a5 := hide (HC2_c4.out.below' hb)
      have HXC_a5 := hide (HXC_c4.out.below (heap_lt HXC_c4.out) hb)
      have HD1_a5 := hide (HD1.out.below' hb)
      have HD2_a5 := hide (HD2.out.below' hb)
      clear HP_c4 HG_c4 HBw_c4 HX_c4 HC1_c4 HC2_c4 HXC_c4 HD1 HD2 hb
      clear hW
      generalize w3.heap.size = BXD at *
      refine HK4.out _ _ ?_
      clear HK4
      have HLT : Hid ((w.heap.size ≤ BXC ∧ BXC < W2.heap.size) ∧ BXD ≠ BXC) := hide ⟨HSC.out, by have := HSD.out.2; omega⟩
      have HLT2 : Hid (w.heap.size ≤ BXD) := hide HSD.out.1
      clear HSC HSD
      by_cases he1 : e1 = 0
      · subst he1
        by_cases he2 : e2 = 0
        · subst he2
          obtain ⟨rfl, rfl⟩ : A.set n.toNat (behR (pvA A n) ⟨n, 1, 2, am⟩) = AC ∧ G ++ [⟨n, 1, 2, am⟩] = GC := by
            rcases HWC.out with ⟨_, h, h'⟩ | ⟨h, _⟩
            · exact ⟨h.symm, h'.symm⟩
            · exact absurd rfl h
          obtain ⟨rfl, rfl⟩ : A.set o.toNat (behR (pvA A o) ⟨o, 1, 2, mo⟩) = AD ∧ G ++ [⟨o, 1, 2, mo⟩] = GD := by
            rcases HWD.out with ⟨_, h, h'⟩ | ⟨h, _⟩
            · exact ⟨h.symm, h'.symm⟩
            · exact absurd rfl h
          obtain ⟨r, q1, q2, q3, q4⟩ := apart_all HA.out HNO.out HGe1.out HGe2.out _ _ HBC.out HBD.out
          have HQ1 := hide q1
          have HQ2 := hide q2
          have HQ3 := hide q3
          have HQ4 := hide q4
          clear q1 q2 q3 q4 HWC HWD HGe1 HGe2
          refine wp_seq_k (fun K5 hK5 => ?_)
          have HK5 := hide hK5
          clear hK5
          go_wp2
          refine HK5.out _ _ ?_
          clear HK5
          generalize A.set n.toNat (behR (pvA A n) ⟨n, 1, 2, am⟩) = AC at *
          generalize A.set o.toNat (behR (pvA A o) ⟨o, 1, 2, mo⟩) = AD at *
          generalize G ++ [⟨n, 1, 2, am⟩] = GC at *
          generalize G ++ [⟨o, 1, 2, mo⟩] = GD at *
          refine wp_seq_k (fun K6 hK6 => ?_)
          have HK6 := hide hK6
          clear hK6
          have HST := hide (auth_any aC nC cC AC _ bC mC dC GC o mo W3 HC1_a5.out HC2_a5.out HBC.out)
          rw [HQ2.out] at HST
          clear HP_a5
          clear HG_a5
          clear HX_a5
          have hxl : BXC < W3.heap.size := heap_lt HXC_a5.out
          have hyl : BXD < W3.heap.size := heap_lt HXD.out
          obtain ⟨x1, x2⟩ := HXC_a5.out.cells
          go_wp2_with fail
          refine (HST.out).mono ?_
          intro e w5 hop
          obtain ⟨hb, AE, GE, aE, nE, cE, bE, dE, rfl, i1, i2, i3, i4, i5, i6⟩ := hop.all
          clear hop HST
          have HE1 := hide i1
          have HE2 := hide i2
          have HBE := hide i3
          have HWE := hide i6
          have HNE := hide (And.intro i4 i5)
          clear i1 i2 i3 i4 i5 i6
          clear x1 x2 
          have HBw_c6 := hide (HBw_a5.out.trans (hb.mono HBw_a5.out.size))
          have HXC_c6 := hide (HXC_a5.out.below (heap_lt HXC_a5.out) hb)
          have HD1_c6 := hide (HD1_a5.out.below' hb)
          have HD2_c6 := hide (HD2_a5.out.below' hb)
          have HXD_c6 := hide (HXD.out.below (heap_lt HXD.out) hb)
          clear HBw_a5 HXC_a5 HD1_a5 HD2_a5 HXD hb
          generalize hgl : GE.length = mE at *
          clear hgl
          obtain ⟨x1, x2⟩ := HXC_c6.out.cells
          have xf := HXC_c6.out.froz
          go_wp2
          generalize hW : (w5.setCell ⟨BXC, 0, none⟩ (.slice aE nE cE)).setCell ⟨BXC, 1, none⟩ (.slice bE mE dE) = W5
          have HXC5 : Hid (BlkB W5 BXC (.slice aE nE cE) (.slice bE mE dE)) := hide (hW ▸ put2b_blk HXC_c6.out _ _)
          have HXD5 : Hid (BlkB W5 BXD (.slice aD nD cD) (.slice bD mD dD)) := hide (hW ▸ (HXD_c6.out.other HLT.out.2 _).other HLT.out.2 _)
          have HBw5 : Hid (Below w.heap.size w W5) := hide (hW ▸ put2b_below HBw_c6.out HLT.out.1.1 _ _)
          have HE15 : Hid (IsP W5 aE nE cE _) := hide (hW ▸ (HE1.out.off HNE.out.1 hxl _).off HNE.out.1 hxl _)
          have HE25 : Hid (IsG W5 bE mE dE _) := hide (hW ▸ (HE2.out.off HNE.out.2 hxl _).off HNE.out.2 hxl _)
          have HD15 : Hid (IsP W5 aD nD cD _) := hide (hW ▸ (HD1_c6.out.off HND.out.1 HLT.out.1.2 _).off HND.out.1 HLT.out.1.2 _)
          have HD25 : Hid (IsG W5 bD mD dD _) := hide (hW ▸ (HD2_c6.out.off HND.out.2 HLT.out.1.2 _).off HND.out.2 HLT.out.1.2 _)
          clear hW x1 x2 xf HE1 HE2 HXC_c6 HXD_c6 HBw_c6 HD1_c6 HD2_c6
          refine HK6.out _ _ ?_
          clear HK6
          refine wp_seq_k (fun K7 hK7 => ?_)
          have HK7 := hide hK7
          clear hK7
          have HST := hide (auth_any aD nD cD AD _ bD mD dD GD n am W5 HD15.out HD25.out HBD.out)
          rw [HQ3.out] at HST
          have hyl5 : BXD < W5.heap.size := heap_lt HXD5.out
          have hxl5 := hide (heap_lt HXC5.out)
          clear HD15 HD25
          obtain ⟨x1, x2⟩ := HXD5.out.cells
          go_wp2_with fail
          refine (HST.out).mono ?_
          intro e w6 hop
          obtain ⟨hb, AF, GF, aF, nF, cF, bF, dF, rfl, i1, i2, i3, i4, i5, i6⟩ := hop.all
          clear hop HST
          have HF1 := hide i1
          have HF2 := hide i2
          have HBF := hide i3
          have HWF := hide i6
          have HNF := hide (And.intro i4 i5)
          clear i1 i2 i3 i4 i5 i6
          clear x1 x2 
          have HXC_c7 := hide (HXC5.out.below (heap_lt HXC5.out) hb)
          have HXD_c7 := hide (HXD5.out.below (heap_lt HXD5.out) hb)
          have HBw_c7 := hide (HBw5.out.trans (hb.mono HBw5.out.size))
          have HE1_c7 := hide (HE15.out.below' hb)
          have HE2_c7 := hide (HE25.out.below' hb)
          clear HXC5 HXD5 HBw5 HE15 HE25 hb
          generalize hgl : GF.length = mF at *
          clear hgl
          obtain ⟨x1, x2⟩ := HXD_c7.out.cells
          have xf := HXD_c7.out.froz
          go_wp2
          generalize hW : (w6.setCell ⟨BXD, 0, none⟩ (.slice aF nF cF)).setCell ⟨BXD, 1, none⟩ (.slice bF mF dF) = W6
          have HXD6 : Hid (BlkB W6 BXD (.slice aF nF cF) (.slice bF mF dF)) := hide (hW ▸ put2b_blk HXD_c7.out _ _)
          have HXC6 : Hid (BlkB W6 BXC (.slice aE nE cE) (.slice bE mE dE)) := hide (hW ▸ (HXC_c7.out.other HLT.out.2.symm _).other HLT.out.2.symm _)
          have HBw6 : Hid (Below w.heap.size w W6) := hide (hW ▸ put2b_below HBw_c7.out HLT2.out _ _)
          have HF16 : Hid (IsP W6 aF nF cF _) := hide (hW ▸ (HF1.out.off HNF.out.1 hyl5 _).off HNF.out.1 hyl5 _)
          have HE16 : Hid (IsP W6 aE nE cE _) := hide (hW ▸ (HE1_c7.out.off HNE.out.1 hyl _).off HNE.out.1 hyl _)
          clear hW x1 x2 xf HF1 HF2 HXC_c7 HXD_c7 HBw_c7 HE1_c7 HE2_c7
          refine HK7.out _ _ ?_
          clear HK7
          rcases HQ1.out with rfl | rfl
          · obtain rfl : AE = AF := by
              rcases HWE.out with ⟨_, h, _⟩ | ⟨h, _⟩
              · rcases HWF.out with ⟨_, h', _⟩ | ⟨h', _⟩
                · rw [h, h']; exact HQ4.out
                · exact absurd rfl h'
              · exact absurd rfl h
            obtain rfl : nE = nF := HE16.out.1.symm.trans HF16.out.1
            refine wp_seq_k (fun K8 hK8 => ?_)
            have HK8 := hide hK8
            clear hK8
            go_wp2
            refine HK8.out _ _ ?_
            clear HK8
            refine wp_seq_k (fun K9 hK9 => ?_)
            have HK9 := hide hK9
            clear hK9
            obtain ⟨x1, x2⟩ := HXC6.out.cells
            have xf := HXC6.out.froz
            obtain ⟨y1, y2⟩ := HXD6.out.cells
            have yf := HXD6.out.froz
            have hne1 : BXD ≠ BXC := HLT.out.2
            have hne2 : BXC ≠ BXD := HLT.out.2.symm
            go_wp2
            generalize hW : (W6.setCell ⟨BXC, 1, none⟩ (.slice none 0 0)).setCell ⟨BXD, 1, none⟩ (.slice none 0 0) = W7
            have HXC7 : Hid (BlkB W7 BXC (.slice aE nE cE) (.slice none 0 0)) := hide (hW ▸ BlkB.other ((blk_set HXC6.out _).trans rfl) hne2 _)
            have HXD7 : Hid (BlkB W7 BXD (.slice aF nE cF) (.slice none 0 0)) := hide (hW ▸ (blk_set (HXD6.out.other hne1 _) _).trans rfl)
            have HBw7 : Hid (Below w.heap.size w W7) := hide (hW ▸ (HBw6.out.setCell HLT.out.1.1 _).setCell HLT2.out _)
            have HE17 : Hid (IsP W7 aE nE cE _) := hide (hW ▸ (HE16.out.off HNE.out.1 hxl _).off HNE.out.1 hyl _)
            have HF17 : Hid (IsP W7 aF nE cF _) := hide (hW ▸ (HF16.out.off HNF.out.1 hxl5.out _).off HNF.out.1 hyl5 _)
            clear hW x1 x2 xf y1 y2 yf HXC6 HXD6 HBw6 HE16 HF16
            refine HK9.out _ _ ?_
            clear HK9
            obtain ⟨x1, x2⟩ := HXC7.out.cells
            obtain ⟨y1, y2⟩ := HXD7.out.cells
            have HSM := hide (same_any aE nE cE _ aF cF W7 HE17.out HF17.out (by have h1 := (pays_rise HBE.out.check).2.1; have h2 := HE17.out.1; omega))
            go_wp2_with fail
            refine HSM.out.mono ?_
            rintro e w8 ⟨hb, rfl⟩
            have HBw8 : Hid (Below w.heap.size w w8) := hide (HBw7.out.trans (hb.mono HBw7.out.size))
            clear hb HSM
            go_wp2
            go_ret
            exact ⟨rfl, HBw8.out⟩
          · go_wp2
            go_ret
            exact ⟨rfl, HBw6.out⟩
        · have hr2 : (e2 != 0) = true := by simpa using he2
          go_wp2
          go_ret
          exact ⟨rfl, HBw_a5.out⟩
      · have hr1 : (e1 != 0) = true := by simpa using he1
        go_wp2
        go_ret
        exact ⟨rfl, HBw_a5.out⟩
    · refine wp_seq_k (fun K3 hK3 => ?_)
      have HK3 := hide hK3
      clear hK3
      obtain ⟨x1, x2⟩ := HX_l.out.cells
      go_wp2_with fail
      refine (auth_wrong a len cap P a2 len2 cap2 G n am w1 HP_l.out HG_l.out hck).mono ?_
      rintro e w2 ⟨hb, rfl⟩
      clear x1 x2 
      have HP_c2 := hide (HP_l.out.below' hb)
      have HG_c2 := hide (HG_l.out.below' hb)
      have HBw_c2 := hide (HBw_l.out.trans (hb.mono HBw_l.out.size))
      have HX_c2 := hide (HX_l.out.below (heap_lt HX_l.out) hb)
      clear HP_l HG_l HBw_l HX_l hb
      go_wp2
      generalize hW : w2.alloc (.cells #[.slice none 0 0, .slice none 0 0] 25) = W2
      have hb : Below w2.heap.size w2 W2 := hW ▸ (Below.refl _ _).alloc (Nat.le_refl _) _
      have HC : Hid (BlkB W2 w2.heap.size (.slice none 0 0) (.slice none 0 0)) := hide (hW ▸ heap_alloc_new _ _)
      have HP_a3 := hide (HP_c2.out.below' hb)
      have HG_a3 := hide (HG_c2.out.below' hb)
      have HBw_a3 := hide (HBw_c2.out.trans (hb.mono HBw_c2.out.size))
      have HX_a3 := hide (HX_c2.out.below (heap_lt HX_c2.out) hb)
      clear HP_c2 HG_c2 HBw_c2 HX_c2 hb
      clear hW
      generalize w2.heap.size = BC at *
      refine HK3.out _ _ ?_
      clear HK3
      refine wp_seq_k (fun K4 hK4 => ?_)
      have HK4 := hide hK4
      clear hK4
      obtain ⟨x1, x2⟩ := HX_a3.out.cells
      go_wp2_with fail
      refine (auth_wrong a len cap P a2 len2 cap2 G o mo W2 HP_a3.out HG_a3.out hck).mono ?_
      rintro e w3 ⟨hb, rfl⟩
      clear x1 x2 
      have HP_c4 := hide (HP_a3.out.below' hb)
      have HG_c4 := hide (HG_a3.out.below' hb)
      have HBw_c4 := hide (HBw_a3.out.trans (hb.mono HBw_a3.out.size))
      have HX_c4 := hide (HX_a3.out.below (heap_lt HX_a3.out) hb)
      have HC_c4 := hide (HC.out.below (heap_lt HC.out) hb)
      clear HP_a3 HG_a3 HBw_a3 HX_a3 HC hb
      go_wp2
      generalize hW : w3.alloc (.cells #[.slice none 0 0, .slice none 0 0] 25) = W3
      have hb : Below w3.heap.size w3 W3 := hW ▸ (Below.refl _ _).alloc (Nat.le_refl _) _
      have HD : Hid (BlkB W3 w3.heap.size (.slice none 0 0) (.slice none 0 0)) := hide (hW ▸ heap_alloc_new _ _)
      have HP_a5 := hide (HP_c4.out.below' hb)
      have HG_a5 := hide (HG_c4.out.below' hb)
      have HBw_a5 := hide (HBw_c4.out.trans (hb.mono HBw_c4.out.size))
      have HX_a5 := hide (HX_c4.out.below (heap_lt HX_c4.out) hb)
      have HC_a5 := hide (HC_c4.out.below (heap_lt HC_c4.out) hb)
      clear HP_c4 HG_c4 HBw_c4 HX_c4 HC_c4 hb
      clear hW
      generalize w3.heap.size = BD at *
      refine HK4.out _ _ ?_
      clear HK4
      go_wp2
      go_ret
      exact ⟨rfl, HBw_a5.out⟩
end Go.Proofs.Ytoaekgacfnmmmaa
