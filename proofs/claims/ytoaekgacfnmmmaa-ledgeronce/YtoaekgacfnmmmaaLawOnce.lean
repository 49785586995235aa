/- LedgerOnce -/
import Derived.Test.YtoaekgacfnmmmaaZa
namespace Go.Proofs.Ytoaekgacfnmmmaa
open Go.RowKit
theorem once_cap {A1 A2 P1 P2 : List Py} {G1 G2 G' : List Pg} (hA : BksA A1 P1 G1) {n am ca re : Int} (hn : ordB n = true) (hp : pvA A1 n = ⟨n, am, ca, re⟩) (ham : 1 ≤ am) (hre : 0 ≤ re) (hrc : re ≤ ca) (hB : BksA A2 P2 G2)
    (hW : Which (setE A1 G1 n 3) (A1.set n.toNat (behR (pvA A1 n) ⟨n, 2, 3, (pvA A1 n).op⟩)) G' A2 G2) : (setE A1 G1 n 3 = 0 ∨ setE A1 G1 n 3 = 3 ∨ setE A1 G1 n 3 = 5) ∧ setE A2 G2 n 3 = 9 ∧ (setE A1 G1 n 3 = 0 → pvA A2 n = ⟨n, 0, ca + am, re⟩ ∧ payV A2 n = ⟨n, 0, ca + am, re⟩ ∧ ca + am ≤ 1152921504606846976) := by
  obtain ⟨h1, h2⟩ := set3 (G := G1) hn hp (by omega)
  rw [h2] at hW
  have hy : noneB ⟨n, 0, ca + am, re⟩ = false := noneB_ca (by dsimp only; omega)
  have hE : setE A1 G1 n 3 = 0 ∨ setE A1 G1 n 3 = 3 ∨ setE A1 G1 n 3 = 5 := by
    rw [h1]; split
    · exact .inr (.inl rfl)
    · split
      · exact .inr (.inr rfl)
      · exact .inl rfl
  refine ⟨hE, ?_, ?_⟩
  · rcases hW with ⟨_, rfl, _⟩ | ⟨_, rfl, _⟩
    · exact set_nine hn (by rw [set_pv hA.2.2.1 hn hy])
    · exact set_nine hn (by rw [a0_pvn hn])
  · intro h0
    rcases hW with ⟨_, rfl, _⟩ | ⟨hx, _⟩
    · refine ⟨set_pv hA.2.2.1 hn hy, ?_, ?_⟩
      · rw [payV_set hA.2.2.1 hn hn, if_pos rfl, if_neg (by rw [hy]; decide)]
      · rw [h1] at h0
        split at h0
        · omega
        · split at h0
          · omega
          · rename_i hb
            unfold beyB at hb
            simp at hb
            omega
    · exact absurd h0 hx
theorem once_void {A1 A2 P1 P2 : List Py} {G1 G2 G' : List Pg} (hA : BksA A1 P1 G1) {n am ca re : Int} (hn : ordB n = true) (hp : pvA A1 n = ⟨n, am, ca, re⟩) (ham : 1 ≤ am) (hrc : re ≤ ca) (hca : ca ≤ 1152921504606846976) (hB : BksA A2 P2 G2)
    (hW : Which (setE A1 G1 n 1) (A1.set n.toNat (behR (pvA A1 n) ⟨n, 2, 1, (pvA A1 n).op⟩)) G' A2 G2) : (setE A1 G1 n 1 = 0 ∨ setE A1 G1 n 1 = 3) ∧ setE A2 G2 n 1 = 9 := by
  obtain ⟨h1, h2⟩ := set1 (G := G1) hn hp (by omega)
  rw [h2] at hW
  refine ⟨?_, ?_⟩
  · rw [h1]; split
    · exact .inr rfl
    · rw [if_neg (by unfold beyB; simp; omega)]
      exact .inl rfl
  · rcases hW with ⟨_, rfl, _⟩ | ⟨_, rfl, _⟩
    · refine set_nine hn ?_
      cases hy : noneB ⟨n, 0, ca, re⟩
      · rw [set_pv hA.2.2.1 hn hy]
      · rw [set_pv0 hA.2.2.1 hn hy]
    · exact set_nine hn (by rw [a0_pvn hn])
theorem once_ref {A2 A5 P2 P5 : List Py} {G2 G5 G' : List Pg} (hA : BksA A2 P2 G2) {n c re : Int} (hn : ordB n = true) (hp : pvA A2 n = ⟨n, 0, c, re⟩) (hre : 0 ≤ re) (hrc : 1 ≤ c - re) (hc : c ≤ 1152921504606846976) (hB : BksA A5 P5 G5)
    (hW : Which (refE A2 G2 n (c - re)) (A2.set n.toNat (behR (pvA A2 n) ⟨n, 3, 1, c - re⟩)) G' A5 G5) : (refE A2 G2 n (c - re) = 0 ∨ refE A2 G2 n (c - re) = 3) ∧ refE A5 G5 n 1 = 13 := by
  obtain ⟨h1, h2⟩ := ref_is (G := G2) (am := c - re) hn hp (by omega)
  rw [h2] at hW
  have hy : noneB ⟨n, 0, c, re + (c - re)⟩ = false := noneB_ca (by dsimp only; omega)
  refine ⟨?_, ?_⟩
  · rw [h1, if_neg (by omega)]; split
    · exact .inr rfl
    · rw [if_neg (by unfold beyB; simp; omega)]
      exact .inl rfl
  · rcases hW with ⟨_, rfl, _⟩ | ⟨_, rfl, _⟩
    · rw [(ref_is (am := 1) hn (set_pv hA.2.2.1 hn hy) (by omega)).1, if_pos (by omega)]
    · rw [(ref_is (am := 1) hn (a0_pvn hn) (by omega)).1, if_pos (by omega)]
theorem once_ref' {A2 A5 P2 P5 : List Py} {G2 G5 G' : List Pg} (hA : BksA A2 P2 G2) {n c re k am e7 : Int} (hn : ordB n = true) (hp : pvA A2 n = ⟨n, 0, c, re⟩) (hs : c ≤ 1152921504606846976 ∧ 0 ≤ re ∧ re ≤ k ∧ 1 ≤ am) (hk : k + am = c) (hB : BksA A5 P5 G5) (hE : refE A2 G2 n (c - re) = e7)
    (hW : Which e7 (A2.set n.toNat (behR (pvA A2 n) ⟨n, 3, 1, c - re⟩)) G' A5 G5) : (e7 = 0 ∨ e7 = 3) ∧ refE A5 G5 n 1 = 13 := by
  subst hE
  exact once_ref hA hn hp hs.2.1 (by omega) hs.1 hB hW
set_option maxHeartbeats 8000000 in
theorem onceWalk (a : Option Addr) (len cap : Nat) (P : List Py) (a2 : Option Addr) (len2 cap2 : Nat) (G : List Pg) (n am : Int) (w : World) (h : IsP w a len cap P) (h2 : IsG w a2 len2 cap2 G) (_hn : i64B n) (_ham : i64B am) :
    Calls Try.prog 4 #[vb a len cap a2 len2 cap2, .int .i64 n, .int .i64 am] w fun e w' => e = .returned (.bool true) ∧ Below w.heap.size w w' := by
  have HP := hide h
  have HG := hide h2
  have HLV := hide (fun W => lives_any W)
  go_enter Try.func4, Try.ntmps4
  clear h h2
  refine wp_seq_k (fun K0 hK0 => ?_)
  have HK0 := hide hK0
  clear hK0
  go_wp2
  have HBw := hide (Below.refl w.heap.size w)
  generalize hW : w.alloc (.cells #[.slice a len cap, .slice a2 len2 cap2] 25) = W0
  have hb : Below w.heap.size w W0 := hW ▸ (Below.refl _ _).alloc (Nat.le_refl _) _
  have HX : Hid (BlkB W0 w.heap.size (.slice a len cap) (.slice a2 len2 cap2)) := hide (hW ▸ heap_alloc_new _ _)
  have HP_a1 := hide (HP.out.below' hb)
  have HG_a1 := hide (HG.out.below' hb)
  have HBw_a1 := hide (HBw.out.trans (hb.mono HBw.out.size))
  clear HP HG HBw hb
  clear hW
  refine HK0.out _ _ ?_
  clear HK0
  refine wp_seq_k (fun K1 hK1 => ?_)
  have HK1 := hide hK1
  clear hK1
  go_wp2_with fail
  refine (HLV.out W0).mono ?_
  rintro e w1 ⟨hb, rfl⟩
  clear HLV
  have HP_l := hide (HP_a1.out.below' hb)
  have HG_l := hide (HG_a1.out.below' hb)
  have HBw_l := hide (HBw_a1.out.trans (hb.mono HBw_a1.out.size))
  have HX_l := hide (HX.out.below (heap_lt HX.out) hb)
  clear HP_a1 HG_a1 HBw_a1 HX hb
  go_wp2
  refine HK1.out _ _ ?_
  clear HK1
  by_cases hck : checkR P G
  · obtain ⟨A, hA⟩ := bks_of hck
    clear hck
    have HAU := hide (auth_any a len cap A P a2 len2 cap2 G n am w1 HP_l.out HG_l.out hA)
    have HA := hide hA
    clear hA
    by_cases hE : authE A G n am = 0
    · obtain ⟨hn, ham, hop0, hgl, hbeh⟩ := auth_zero hE
      have HPV := hide (HA.out.pv hn)
      rw [hbeh, hE] at HAU
      have HN := hide hn
      have HAM := hide ham
      have HOP := hide hop0
      clear hE hbeh hn ham hop0 hgl
      refine wp_seq_k (fun K2 hK2 => ?_)
      have HK2 := hide hK2
      clear hK2
      obtain ⟨x1, x2⟩ := HX_l.out.cells
      go_wp2_with fail
      refine (HAU.out).mono ?_
      intro e w2 hop
      obtain ⟨hb, c1, cn, cc, d1, dn, dc, rfl, i1, i2, i3, i4, i5⟩ := hop.done
      clear hop HAU
      have HC1 := hide i1
      have HC2 := hide i2
      have HBC := hide i3
      clear i1 i2 i3 i4 i5
      clear x1 x2 
      have HP_c2 := hide (HP_l.out.below' hb)
      have HG_c2 := hide (HG_l.out.below' hb)
      have HBw_c2 := hide (HBw_l.out.trans (hb.mono HBw_l.out.size))
      have HX_c2 := hide (HX_l.out.below (heap_lt HX_l.out) hb)
      clear HP_l HG_l HBw_l HX_l hb
      have HPC : Hid (pvA (A.set n.toNat ⟨n, am, (pvA A n).ca, (pvA A n).re⟩) n = ⟨n, am, (pvA A n).ca, (pvA A n).re⟩) := hide (set_pv HA.out.2.2.1 HN.out (noneB_op (by have := HAM.out; dsimp only; omega)))
      generalize A.set n.toNat ⟨n, am, (pvA A n).ca, (pvA A n).re⟩ = AC at *
      generalize G ++ [⟨n, 1, 2, am⟩] = GC at *
      go_wp2
      generalize hW : w2.alloc (.cells #[.slice c1 cn cc, .slice d1 dn dc] 25) = W2
      have hb : Below w2.heap.size w2 W2 := hW ▸ (Below.refl _ _).alloc (Nat.le_refl _) _
      have HC : Hid (BlkB W2 w2.heap.size (.slice c1 cn cc) (.slice d1 dn dc)) := hide (hW ▸ heap_alloc_new _ _)
      have HP_a3 := hide (HP_c2.out.below' hb)
      have HG_a3 := hide (HG_c2.out.below' hb)
      have HBw_a3 := hide (HBw_c2.out.trans (hb.mono HBw_c2.out.size))
      have HX_a3 := hide (HX_c2.out.below (heap_lt HX_c2.out) hb)
      have HC1_a3 := hide (HC1.out.below' hb)
      have HC2_a3 := hide (HC2.out.below' hb)
      clear HP_c2 HG_c2 HBw_c2 HX_c2 HC1 HC2 hb
      clear hW
      generalize w2.heap.size = BC at *
      refine HK2.out _ _ ?_
      clear HK2
      refine wp_seq_k (fun K3 hK3 => ?_)
      have HK3 := hide hK3
      clear hK3
      go_wp2
      refine HK3.out _ _ ?_
      clear HK3
      refine wp_seq_k (fun K4 hK4 => ?_)
      have HK4 := hide hK4
      clear hK4
      have HST := hide (capture_any c1 cn cc AC _ d1 dn dc GC n W2 HC1_a3.out HC2_a3.out HBC.out)
      generalize hgE : setE AC GC n 3 = e1 at HST
      have HGe1 := hide hgE
      clear hgE
      obtain ⟨x1, x2⟩ := HC.out.cells
      go_wp2_with fail
      refine (HST.out).mono ?_
      intro e w3 hop
      obtain ⟨hb, AD, GD, aD, nD, cD, bD, dD, vD, rfl, i1, i2, i3, _, _, i6, i7⟩ := hop.all
      clear hop HST
      have HD1 := hide i1
      have HD2 := hide i2
      have HBD := hide i3
      have HWD := hide i6
      have HVD := hide i7
      clear i1 i2 i3 i6 i7
      clear x1 x2 
      have HP_c4 := hide (HP_a3.out.below' hb)
      have HG_c4 := hide (HG_a3.out.below' hb)
      have HBw_c4 := hide (HBw_a3.out.trans (hb.mono HBw_a3.out.size))
      have HX_c4 := hide (HX_a3.out.below (heap_lt HX_a3.out) hb)
      have HC1_c4 := hide (HC1_a3.out.below' hb)
      have HC2_c4 := hide (HC2_a3.out.below' hb)
      have HC_c4 := hide (HC.out.below (heap_lt HC.out) hb)
      clear HP_a3 HG_a3 HBw_a3 HX_a3 HC1_a3 HC2_a3 HC hb
      have HLD := hide (rfl : GD.length = GD.length)
      generalize hgl : GD.length = mD at *
      clear hgl HLD
      go_wp2
      generalize hW : w3.alloc (.cells #[.slice aD nD cD, .slice bD mD dD] 25) = W3
      have hb : Below w3.heap.size w3 W3 := hW ▸ (Below.refl _ _).alloc (Nat.le_refl _) _
      have HXD : Hid (BlkB W3 w3.heap.size (.slice aD nD cD) (.slice bD mD dD)) := hide (hW ▸ heap_alloc_new _ _)
      have HP_a5 := hide (HP_c4.out.below' hb)
      have HG_a5 := hide (HG_c4.out.below' hb)
      have HBw_a5 := hide (HBw_c4.out.trans (hb.mono HBw_c4.out.size))
      have HX_a5 := hide (HX_c4.out.below (heap_lt HX_c4.out) hb)
      have HC1_a5 := hide (HC1_c4.out.below' hb)
      have HC2_a5 := hide (HC2_c4.out.below' hb)
      have HC_a5 := hide (HC_c4.out.below (heap_lt HC_c4.out) hb)
      have HD1_a5 := hide (HD1.out.below' hb)
      have HD2_a5 := hide (HD2.out.below' hb)
      clear HP_c4 HG_c4 HBw_c4 HX_c4 HC1_c4 HC2_c4 HC_c4 HD1 HD2 hb
      clear hW
      generalize w3.heap.size = BXD at *
      refine HK4.out _ _ ?_
      clear HK4
      have HCAP := hide (by
        have h := once_cap HBC.out HN.out HPC.out HAM.out.1 HPV.out.re0 HPV.out.rc HBD.out (by rw [HGe1.out]; exact HWD.out)
        rw [HGe1.out] at h
        exact h)
      have HVD1 : Hid (e1 = 0 → vD = am) := hide (fun h => by rw [HVD.out h, HPC.out])
      clear HVD HGe1 HWD
      refine wp_seq_k (fun K5 hK5 => ?_)
      have HK5 := hide hK5
      clear hK5
      have HST := hide (capture_any aD nD cD AD _ bD mD dD GD n W3 HD1_a5.out HD2_a5.out HBD.out)
      generalize hgE : setE AD GD n 3 = e2 at HST
      have HGe2 := hide hgE
      clear hgE
      obtain ⟨x1, x2⟩ := HXD.out.cells
      go_wp2_with fail
      refine (HST.out).mono ?_
      intro e w4 hop
      obtain ⟨hb, AE, GE, aE, nE, cE, bE, dE, vE, rfl, i1, i2, i3, _, _, i6, i7⟩ := hop.all
      clear hop HST
      have HE1 := hide i1
      have HE2 := hide i2
      have HBE := hide i3
      have HWE := hide i6
      have HVE := hide i7
      clear i1 i2 i3 i6 i7
      clear x1 x2 
      have HP_c6 := hide (HP_a5.out.below' hb)
      have HG_c6 := hide (HG_a5.out.below' hb)
      have HBw_c6 := hide (HBw_a5.out.trans (hb.mono HBw_a5.out.size))
      have HX_c6 := hide (HX_a5.out.below (heap_lt HX_a5.out) hb)
      have HC1_c6 := hide (HC1_a5.out.below' hb)
      have HC2_c6 := hide (HC2_a5.out.below' hb)
      have HC_c6 := hide (HC_a5.out.below (heap_lt HC_a5.out) hb)
      have HD1_c6 := hide (HD1_a5.out.below' hb)
      have HD2_c6 := hide (HD2_a5.out.below' hb)
      have HXD_c6 := hide (HXD.out.below (heap_lt HXD.out) hb)
      clear HP_a5 HG_a5 HBw_a5 HX_a5 HC1_a5 HC2_a5 HC_a5 HD1_a5 HD2_a5 HXD hb
      have HLE := hide (rfl : GE.length = GE.length)
      generalize hgl : GE.length = mE at *
      clear hgl HLE
      go_wp2
      generalize hW : w4.alloc (.cells #[.slice aE nE cE, .slice bE mE dE] 25) = W4
      have hb : Below w4.heap.size w4 W4 := hW ▸ (Below.refl _ _).alloc (Nat.le_refl _) _
      have HXE : Hid (BlkB W4 w4.heap.size (.slice aE nE cE) (.slice bE mE dE)) := hide (hW ▸ heap_alloc_new _ _)
      have HP_a7 := hide (HP_c6.out.below' hb)
      have HG_a7 := hide (HG_c6.out.below' hb)
      have HBw_a7 := hide (HBw_c6.out.trans (hb.mono HBw_c6.out.size))
      have HX_a7 := hide (HX_c6.out.below (heap_lt HX_c6.out) hb)
      have HC1_a7 := hide (HC1_c6.out.below' hb)
      have HC2_a7 := hide (HC2_c6.out.below' hb)
      have HC_a7 := hide (HC_c6.out.below (heap_lt HC_c6.out) hb)
      have HD1_a7 := hide (HD1_c6.out.below' hb)
      have HD2_a7 := hide (HD2_c6.out.below' hb)
      have HXD_a7 := hide (HXD_c6.out.below (heap_lt HXD_c6.out) hb)
      have HE1_a7 := hide (HE1.out.below' hb)
      have HE2_a7 := hide (HE2.out.below' hb)
      clear HP_c6 HG_c6 HBw_c6 HX_c6 HC1_c6 HC2_c6 HC_c6 HD1_c6 HD2_c6 HXD_c6 HE1 HE2 hb
      clear hW
      generalize w4.heap.size = BXE at *
      refine HK5.out _ _ ?_
      clear HK5
      obtain rfl : 9 = e2 := HCAP.out.2.1.symm.trans HGe2.out
      clear HVE HWE HGe2 HBE
      refine wp_seq_k (fun K6 hK6 => ?_)
      have HK6 := hide hK6
      clear hK6
      have HST := hide (void_any c1 cn cc AC _ d1 dn dc GC n W4 HC1_a7.out HC2_a7.out HBC.out)
      generalize hgE : setE AC GC n 1 = e3 at HST
      have HGe3 := hide hgE
      clear hgE
      obtain ⟨x1, x2⟩ := HC_a7.out.cells
      go_wp2_with fail
      refine (HST.out).mono ?_
      intro e w5 hop
      obtain ⟨hb, AF, GF, aF, nF, cF, bF, dF, vF, rfl, i1, i2, i3, _, _, i6, i7⟩ := hop.all
      clear hop HST
      have HF1 := hide i1
      have HF2 := hide i2
      have HBF := hide i3
      have HWF := hide i6
      have HVF := hide i7
      clear i1 i2 i3 i6 i7
      clear x1 x2 
      have HP_c8 := hide (HP_a7.out.below' hb)
      have HG_c8 := hide (HG_a7.out.below' hb)
      have HBw_c8 := hide (HBw_a7.out.trans (hb.mono HBw_a7.out.size))
      have HX_c8 := hide (HX_a7.out.below (heap_lt HX_a7.out) hb)
      have HC1_c8 := hide (HC1_a7.out.below' hb)
      have HC2_c8 := hide (HC2_a7.out.below' hb)
      have HC_c8 := hide (HC_a7.out.below (heap_lt HC_a7.out) hb)
      have HD1_c8 := hide (HD1_a7.out.below' hb)
      have HD2_c8 := hide (HD2_a7.out.below' hb)
      have HXD_c8 := hide (HXD_a7.out.below (heap_lt HXD_a7.out) hb)
      have HE1_c8 := hide (HE1_a7.out.below' hb)
      have HE2_c8 := hide (HE2_a7.out.below' hb)
      have HXE_c8 := hide (HXE.out.below (heap_lt HXE.out) hb)
      clear HP_a7 HG_a7 HBw_a7 HX_a7 HC1_a7 HC2_a7 HC_a7 HD1_a7 HD2_a7 HXD_a7 HE1_a7 HE2_a7 HXE hb
      have HLF := hide (rfl : GF.length = GF.length)
      generalize hgl : GF.length = mF at *
      clear hgl HLF
      go_wp2
      generalize hW : w5.alloc (.cells #[.slice aF nF cF, .slice bF mF dF] 25) = W5
      have hb : Below w5.heap.size w5 W5 := hW ▸ (Below.refl _ _).alloc (Nat.le_refl _) _
      have HXF : Hid (BlkB W5 w5.heap.size (.slice aF nF cF) (.slice bF mF dF)) := hide (hW ▸ heap_alloc_new _ _)
      have HP_a9 := hide (HP_c8.out.below' hb)
      have HG_a9 := hide (HG_c8.out.below' hb)
      have HBw_a9 := hide (HBw_c8.out.trans (hb.mono HBw_c8.out.size))
      have HX_a9 := hide (HX_c8.out.below (heap_lt HX_c8.out) hb)
      have HC1_a9 := hide (HC1_c8.out.below' hb)
      have HC2_a9 := hide (HC2_c8.out.below' hb)
      have HC_a9 := hide (HC_c8.out.below (heap_lt HC_c8.out) hb)
      have HD1_a9 := hide (HD1_c8.out.below' hb)
      have HD2_a9 := hide (HD2_c8.out.below' hb)
      have HXD_a9 := hide (HXD_c8.out.below (heap_lt HXD_c8.out) hb)
      have HE1_a9 := hide (HE1_c8.out.below' hb)
      have HE2_a9 := hide (HE2_c8.out.below' hb)
      have HXE_a9 := hide (HXE_c8.out.below (heap_lt HXE_c8.out) hb)
      have HF1_a9 := hide (HF1.out.below' hb)
      have HF2_a9 := hide (HF2.out.below' hb)
      clear HP_c8 HG_c8 HBw_c8 HX_c8 HC1_c8 HC2_c8 HC_c8 HD1_c8 HD2_c8 HXD_c8 HE1_c8 HE2_c8 HXE_c8 HF1 HF2 hb
      clear hW
      generalize w5.heap.size = BXF at *
      refine HK6.out _ _ ?_
      clear HK6
      have HVOI := hide (by
        have h := once_void HBC.out HN.out HPC.out HAM.out.1 HPV.out.rc HPV.out.ca1 HBF.out (by rw [HGe3.out]; exact HWF.out)
        rw [HGe3.out] at h
        exact h)
      have HVF1 : Hid (e3 = 0 → vF = am) := hide (fun h => by rw [HVF.out h, HPC.out])
      clear HVF HGe3 HWF
      refine wp_seq_k (fun K7 hK7 => ?_)
      have HK7 := hide hK7
      clear hK7
      have HST := hide (void_any aF nF cF AF _ bF mF dF GF n W5 HF1_a9.out HF2_a9.out HBF.out)
      generalize hgE : setE AF GF n 1 = e4 at HST
      have HGe4 := hide hgE
      clear hgE
      obtain ⟨x1, x2⟩ := HXF.out.cells
      go_wp2_with fail
      refine (HST.out).mono ?_
      intro e w6 hop
      obtain ⟨hb, AJ, GJ, aJ, nJ, cJ, bJ, dJ, vJ, rfl, i1, i2, i3, _, _, i6, i7⟩ := hop.all
      clear hop HST
      have HJ1 := hide i1
      have HJ2 := hide i2
      have HBJ := hide i3
      have HWJ := hide i6
      have HVJ := hide i7
      clear i1 i2 i3 i6 i7
      clear x1 x2 
      have HP_c10 := hide (HP_a9.out.below' hb)
      have HG_c10 := hide (HG_a9.out.below' hb)
      have HBw_c10 := hide (HBw_a9.out.trans (hb.mono HBw_a9.out.size))
      have HX_c10 := hide (HX_a9.out.below (heap_lt HX_a9.out) hb)
      have HC1_c10 := hide (HC1_a9.out.below' hb)
      have HC2_c10 := hide (HC2_a9.out.below' hb)
      have HC_c10 := hide (HC_a9.out.below (heap_lt HC_a9.out) hb)
      have HD1_c10 := hide (HD1_a9.out.below' hb)
      have HD2_c10 := hide (HD2_a9.out.below' hb)
      have HXD_c10 := hide (HXD_a9.out.below (heap_lt HXD_a9.out) hb)
      have HE1_c10 := hide (HE1_a9.out.below' hb)
      have HE2_c10 := hide (HE2_a9.out.below' hb)
      have HXE_c10 := hide (HXE_a9.out.below (heap_lt HXE_a9.out) hb)
      have HF1_c10 := hide (HF1_a9.out.below' hb)
      have HF2_c10 := hide (HF2_a9.out.below' hb)
      have HXF_c10 := hide (HXF.out.below (heap_lt HXF.out) hb)
      clear HP_a9 HG_a9 HBw_a9 HX_a9 HC1_a9 HC2_a9 HC_a9 HD1_a9 HD2_a9 HXD_a9 HE1_a9 HE2_a9 HXE_a9 HF1_a9 HF2_a9 HXF hb
      have HLJ := hide (rfl : GJ.length = GJ.length)
      generalize hgl : GJ.length = mJ at *
      clear hgl HLJ
      go_wp2
      generalize hW : w6.alloc (.cells #[.slice aJ nJ cJ, .slice bJ mJ dJ] 25) = W6
      have hb : Below w6.heap.size w6 W6 := hW ▸ (Below.refl _ _).alloc (Nat.le_refl _) _
      have HXJ : Hid (BlkB W6 w6.heap.size (.slice aJ nJ cJ) (.slice bJ mJ dJ)) := hide (hW ▸ heap_alloc_new _ _)
      have HP_a11 := hide (HP_c10.out.below' hb)
      have HG_a11 := hide (HG_c10.out.below' hb)
      have HBw_a11 := hide (HBw_c10.out.trans (hb.mono HBw_c10.out.size))
      have HX_a11 := hide (HX_c10.out.below (heap_lt HX_c10.out) hb)
      have HC1_a11 := hide (HC1_c10.out.below' hb)
      have HC2_a11 := hide (HC2_c10.out.below' hb)
      have HC_a11 := hide (HC_c10.out.below (heap_lt HC_c10.out) hb)
      have HD1_a11 := hide (HD1_c10.out.below' hb)
      have HD2_a11 := hide (HD2_c10.out.below' hb)
      have HXD_a11 := hide (HXD_c10.out.below (heap_lt HXD_c10.out) hb)
      have HE1_a11 := hide (HE1_c10.out.below' hb)
      have HE2_a11 := hide (HE2_c10.out.below' hb)
      have HXE_a11 := hide (HXE_c10.out.below (heap_lt HXE_c10.out) hb)
      have HF1_a11 := hide (HF1_c10.out.below' hb)
      have HF2_a11 := hide (HF2_c10.out.below' hb)
      have HXF_a11 := hide (HXF_c10.out.below (heap_lt HXF_c10.out) hb)
      have HJ1_a11 := hide (HJ1.out.below' hb)
      have HJ2_a11 := hide (HJ2.out.below' hb)
      clear HP_c10 HG_c10 HBw_c10 HX_c10 HC1_c10 HC2_c10 HC_c10 HD1_c10 HD2_c10 HXD_c10 HE1_c10 HE2_c10 HXE_c10 HF1_c10 HF2_c10 HXF_c10 HJ1 HJ2 hb
      clear hW
      generalize w6.heap.size = BXJ at *
      refine HK7.out _ _ ?_
      clear HK7
      obtain rfl : 9 = e4 := HVOI.out.2.symm.trans HGe4.out
      clear HVJ HWJ HGe4 HBJ HBF
      rcases HVOI.out.1 with rfl | rfl
      · obtain rfl : am = vF := (HVF1.out rfl).symm
        rcases HCAP.out.1 with rfl | rfl | rfl
        · obtain rfl : am = vD := (HVD1.out rfl).symm
          have HPD := hide (HCAP.out.2.2 rfl)
          have HMM := hide (HPV.out)
          clear HCAP HVOI HVD1 HVF1
          refine wp_seq_k (fun K8 hK8 => ?_)
          have HK8 := hide hK8
          clear hK8
          go_wp2
          refine HK8.out _ _ ?_
          clear HK8
          refine wp_seq_k (fun K9 hK9 => ?_)
          have HK9 := hide hK9
          clear hK9
          go_wp2
          refine HK9.out _ _ ?_
          clear HK9
          have HPN := hide (@pv_nums A n)
          rcases hpb : payV A n with ⟨p1, p2, p3, p4⟩
          rw [hpb] at HPN
          have HP3 : Hid (p3 = (pvA A n).ca) := hide HPN.out.2.1
          clear HPN
          refine wp_seq_k (fun K10 hK10 => ?_)
          have HK10 := hide hK10
          clear hK10
          have HPY := hide (pay_any a len cap A P a2 len2 cap2 G n W6 HP_a11.out HG_a11.out HA.out)
          rw [hpb] at HPY
          clear hpb
          obtain ⟨x1, x2⟩ := HX_a11.out.cells
          go_wp2_with fail
          refine (HPY.out).mono ?_
          rintro e w7 ⟨hb, ⟨hno, _⟩ | ⟨_, rfl⟩⟩
          · exact absurd hno (by rw [HN.out]; decide)
          clear HPY
          clear x1 x2 
          have HP_c12 := hide (HP_a11.out.below' hb)
          have HG_c12 := hide (HG_a11.out.below' hb)
          have HBw_c12 := hide (HBw_a11.out.trans (hb.mono HBw_a11.out.size))
          have HX_c12 := hide (HX_a11.out.below (heap_lt HX_a11.out) hb)
          have HC1_c12 := hide (HC1_a11.out.below' hb)
          have HC2_c12 := hide (HC2_a11.out.below' hb)
          have HC_c12 := hide (HC_a11.out.below (heap_lt HC_a11.out) hb)
          have HD1_c12 := hide (HD1_a11.out.below' hb)
          have HD2_c12 := hide (HD2_a11.out.below' hb)
          have HXD_c12 := hide (HXD_a11.out.below (heap_lt HXD_a11.out) hb)
          have HE1_c12 := hide (HE1_a11.out.below' hb)
          have HE2_c12 := hide (HE2_a11.out.below' hb)
          have HXE_c12 := hide (HXE_a11.out.below (heap_lt HXE_a11.out) hb)
          have HF1_c12 := hide (HF1_a11.out.below' hb)
          have HF2_c12 := hide (HF2_a11.out.below' hb)
          have HXF_c12 := hide (HXF_a11.out.below (heap_lt HXF_a11.out) hb)
          have HJ1_c12 := hide (HJ1_a11.out.below' hb)
          have HJ2_c12 := hide (HJ2_a11.out.below' hb)
          have HXJ_c12 := hide (HXJ.out.below (heap_lt HXJ.out) hb)
          clear HP_a11 HG_a11 HBw_a11 HX_a11 HC1_a11 HC2_a11 HC_a11 HD1_a11 HD2_a11 HXD_a11 HE1_a11 HE2_a11 HXE_a11 HF1_a11 HF2_a11 HXF_a11 HJ1_a11 HJ2_a11 HXJ hb
          go_wp2
          generalize hW : w7.alloc (.cells #[.int .i64 p1, .int .i64 p2, .int .i64 p3, .int .i64 p4] 30) = W7
          have hb : Below w7.heap.size w7 W7 := hW ▸ (Below.refl _ _).alloc (Nat.le_refl _) _
          have HS : Hid (BlkP W7 w7.heap.size ⟨p1, p2, p3, p4⟩) := hide (hW ▸ heap_alloc_new _ _)
          have HP_a13 := hide (HP_c12.out.below' hb)
          have HG_a13 := hide (HG_c12.out.below' hb)
          have HBw_a13 := hide (HBw_c12.out.trans (hb.mono HBw_c12.out.size))
          have HX_a13 := hide (HX_c12.out.below (heap_lt HX_c12.out) hb)
          have HC1_a13 := hide (HC1_c12.out.below' hb)
          have HC2_a13 := hide (HC2_c12.out.below' hb)
          have HC_a13 := hide (HC_c12.out.below (heap_lt HC_c12.out) hb)
          have HD1_a13 := hide (HD1_c12.out.below' hb)
          have HD2_a13 := hide (HD2_c12.out.below' hb)
          have HXD_a13 := hide (HXD_c12.out.below (heap_lt HXD_c12.out) hb)
          have HE1_a13 := hide (HE1_c12.out.below' hb)
          have HE2_a13 := hide (HE2_c12.out.below' hb)
          have HXE_a13 := hide (HXE_c12.out.below (heap_lt HXE_c12.out) hb)
          have HF1_a13 := hide (HF1_c12.out.below' hb)
          have HF2_a13 := hide (HF2_c12.out.below' hb)
          have HXF_a13 := hide (HXF_c12.out.below (heap_lt HXF_c12.out) hb)
          have HJ1_a13 := hide (HJ1_c12.out.below' hb)
          have HJ2_a13 := hide (HJ2_c12.out.below' hb)
          have HXJ_a13 := hide (HXJ_c12.out.below (heap_lt HXJ_c12.out) hb)
          clear HP_c12 HG_c12 HBw_c12 HX_c12 HC1_c12 HC2_c12 HC_c12 HD1_c12 HD2_c12 HXD_c12 HE1_c12 HE2_c12 HXE_c12 HF1_c12 HF2_c12 HXF_c12 HJ1_c12 HJ2_c12 HXJ_c12 hb
          clear hW
          generalize w7.heap.size = BS at *
          refine HK10.out _ _ ?_
          clear HK10
          refine wp_seq_k (fun K11 hK11 => ?_)
          have HK11 := hide hK11
          clear hK11
          have HPY := hide (pay_any aD nD cD AD _ bD mD dD GD n W7 HD1_a13.out HD2_a13.out HBD.out)
          rw [HPD.out.2.1] at HPY
          have HSU : Hid ((pvA A n).ca + am ≤ 1152921504606846976 ∧ 0 ≤ (pvA A n).re ∧ (pvA A n).re ≤ (pvA A n).ca ∧ 1 ≤ am) := hide ⟨HPD.out.2.2, HMM.out.re0, HMM.out.rc, HAM.out.1⟩
          have HPE := hide HPD.out.1
          clear HPD HMM HPC HPV HOP HBC
          generalize (pvA A n).ca = k1 at *
          generalize (pvA A n).re = k2 at *
          obtain rfl : k1 = p3 := HP3.out.symm
          obtain ⟨k3, hk3⟩ : ∃ k3, k3 = k1 + am := ⟨_, rfl⟩
          rw [← hk3] at HPY HPE HSU
          have HK3 : Hid (k1 + am = k3) := hide hk3.symm
          have hw1 : IntKind.i64.wrap (k1 + am) = k3 := by rw [hk3]; exact wrap64 (by have := HSU.out; omega) (by have := HSU.out; omega)
          have hw2 : IntKind.i64.wrap (k3 - k2) = k3 - k2 := wrap64 (by have := HSU.out; omega) (by have := HSU.out; omega)
          clear hk3 HP3
          obtain ⟨x1, x2⟩ := HXD_a13.out.cells
          go_wp2_with fail
          refine (HPY.out).mono ?_
          rintro e w8 ⟨hb, ⟨hno, _⟩ | ⟨_, rfl⟩⟩
          · exact absurd hno (by rw [HN.out]; decide)
          clear HPY
          clear x1 x2 
          have HP_c14 := hide (HP_a13.out.below' hb)
          have HG_c14 := hide (HG_a13.out.below' hb)
          have HBw_c14 := hide (HBw_a13.out.trans (hb.mono HBw_a13.out.size))
          have HX_c14 := hide (HX_a13.out.below (heap_lt HX_a13.out) hb)
          have HC1_c14 := hide (HC1_a13.out.below' hb)
          have HC2_c14 := hide (HC2_a13.out.below' hb)
          have HC_c14 := hide (HC_a13.out.below (heap_lt HC_a13.out) hb)
          have HD1_c14 := hide (HD1_a13.out.below' hb)
          have HD2_c14 := hide (HD2_a13.out.below' hb)
          have HXD_c14 := hide (HXD_a13.out.below (heap_lt HXD_a13.out) hb)
          have HE1_c14 := hide (HE1_a13.out.below' hb)
          have HE2_c14 := hide (HE2_a13.out.below' hb)
          have HXE_c14 := hide (HXE_a13.out.below (heap_lt HXE_a13.out) hb)
          have HF1_c14 := hide (HF1_a13.out.below' hb)
          have HF2_c14 := hide (HF2_a13.out.below' hb)
          have HXF_c14 := hide (HXF_a13.out.below (heap_lt HXF_a13.out) hb)
          have HJ1_c14 := hide (HJ1_a13.out.below' hb)
          have HJ2_c14 := hide (HJ2_a13.out.below' hb)
          have HXJ_c14 := hide (HXJ_a13.out.below (heap_lt HXJ_a13.out) hb)
          have HS_c14 := hide (HS.out.below (heap_lt HS.out) hb)
          clear HP_a13 HG_a13 HBw_a13 HX_a13 HC1_a13 HC2_a13 HC_a13 HD1_a13 HD2_a13 HXD_a13 HE1_a13 HE2_a13 HXE_a13 HF1_a13 HF2_a13 HXF_a13 HJ1_a13 HJ2_a13 HXJ_a13 HS hb
          go_wp2
          generalize hW : w8.alloc (.cells #[.int .i64 n, .int .i64 0, .int .i64 k3, .int .i64 k2] 30) = W8
          have hb : Below w8.heap.size w8 W8 := hW ▸ (Below.refl _ _).alloc (Nat.le_refl _) _
          have HT : Hid (BlkP W8 w8.heap.size ⟨n, 0, k3, k2⟩) := hide (hW ▸ heap_alloc_new _ _)
          have HP_a15 := hide (HP_c14.out.below' hb)
          have HG_a15 := hide (HG_c14.out.below' hb)
          have HBw_a15 := hide (HBw_c14.out.trans (hb.mono HBw_c14.out.size))
          have HX_a15 := hide (HX_c14.out.below (heap_lt HX_c14.out) hb)
          have HC1_a15 := hide (HC1_c14.out.below' hb)
          have HC2_a15 := hide (HC2_c14.out.below' hb)
          have HC_a15 := hide (HC_c14.out.below (heap_lt HC_c14.out) hb)
          have HD1_a15 := hide (HD1_c14.out.below' hb)
          have HD2_a15 := hide (HD2_c14.out.below' hb)
          have HXD_a15 := hide (HXD_c14.out.below (heap_lt HXD_c14.out) hb)
          have HE1_a15 := hide (HE1_c14.out.below' hb)
          have HE2_a15 := hide (HE2_c14.out.below' hb)
          have HXE_a15 := hide (HXE_c14.out.below (heap_lt HXE_c14.out) hb)
          have HF1_a15 := hide (HF1_c14.out.below' hb)
          have HF2_a15 := hide (HF2_c14.out.below' hb)
          have HXF_a15 := hide (HXF_c14.out.below (heap_lt HXF_c14.out) hb)
          have HJ1_a15 := hide (HJ1_c14.out.below' hb)
          have HJ2_a15 := hide (HJ2_c14.out.below' hb)
          have HXJ_a15 := hide (HXJ_c14.out.below (heap_lt HXJ_c14.out) hb)
          have HS_a15 := hide (HS_c14.out.below (heap_lt HS_c14.out) hb)
          clear HP_c14 HG_c14 HBw_c14 HX_c14 HC1_c14 HC2_c14 HC_c14 HD1_c14 HD2_c14 HXD_c14 HE1_c14 HE2_c14 HXE_c14 HF1_c14 HF2_c14 HXF_c14 HJ1_c14 HJ2_c14 HXJ_c14 HS_c14 hb
          clear hW
          generalize w8.heap.size = BT at *
          refine HK11.out _ _ ?_
          clear HK11
          obtain ⟨s1, s2, s3, s4⟩ := HS_a15.out.cells
          obtain ⟨t1, t2, t3, t4⟩ := HT.out.cells
          simp only [Nat.zero_add] at s1 s2 s3 s4 t1 t2 t3 t4
          refine wp_seq_k (fun K12 hK12 => ?_)
          have HK12 := hide hK12
          clear hK12
          go_wp2
          refine HK12.out _ _ ?_
          clear HK12
          refine wp_seq_k (fun K13 hK13 => ?_)
          have HK13 := hide hK13
          clear hK13
          clear s1 s2 s3 s4
          go_wp2
          refine HK13.out _ _ ?_
          clear HK13
          clear t1 t2 t3 t4 hw1 hw2
          refine wp_seq_k (fun K14 hK14 => ?_)
          have HK14 := hide hK14
          clear hK14
          have HST := hide (refund_any aD nD cD AD _ bD mD dD GD n (k3 - k2) W8 HD1_a15.out HD2_a15.out HBD.out)
          generalize hgE : refE AD GD n (k3 - k2) = e7 at HST
          have HGe7 := hide hgE
          clear hgE
          obtain ⟨x1, x2⟩ := HXD_a15.out.cells
          go_wp2_with fail
          refine (HST.out).mono ?_
          intro e w9 hop
          obtain ⟨hb, AL, GL, aL, nL, cL, bL, dL, rfl, i1, i2, i3, _, _, i6⟩ := hop.all
          clear hop HST
          have HL1 := hide i1
          have HL2 := hide i2
          have HBL := hide i3
          have HWL := hide i6
          clear i1 i2 i3 i6
          clear x1 x2 
          have HP_c16 := hide (HP_a15.out.below' hb)
          have HG_c16 := hide (HG_a15.out.below' hb)
          have HBw_c16 := hide (HBw_a15.out.trans (hb.mono HBw_a15.out.size))
          have HX_c16 := hide (HX_a15.out.below (heap_lt HX_a15.out) hb)
          have HC1_c16 := hide (HC1_a15.out.below' hb)
          have HC2_c16 := hide (HC2_a15.out.below' hb)
          have HC_c16 := hide (HC_a15.out.below (heap_lt HC_a15.out) hb)
          have HD1_c16 := hide (HD1_a15.out.below' hb)
          have HD2_c16 := hide (HD2_a15.out.below' hb)
          have HXD_c16 := hide (HXD_a15.out.below (heap_lt HXD_a15.out) hb)
          have HE1_c16 := hide (HE1_a15.out.below' hb)
          have HE2_c16 := hide (HE2_a15.out.below' hb)
          have HXE_c16 := hide (HXE_a15.out.below (heap_lt HXE_a15.out) hb)
          have HF1_c16 := hide (HF1_a15.out.below' hb)
          have HF2_c16 := hide (HF2_a15.out.below' hb)
          have HXF_c16 := hide (HXF_a15.out.below (heap_lt HXF_a15.out) hb)
          have HJ1_c16 := hide (HJ1_a15.out.below' hb)
          have HJ2_c16 := hide (HJ2_a15.out.below' hb)
          have HXJ_c16 := hide (HXJ_a15.out.below (heap_lt HXJ_a15.out) hb)
          clear HP_a15 HG_a15 HBw_a15 HX_a15 HC1_a15 HC2_a15 HC_a15 HD1_a15 HD2_a15 HXD_a15 HE1_a15 HE2_a15 HXE_a15 HF1_a15 HF2_a15 HXF_a15 HJ1_a15 HJ2_a15 HXJ_a15 hb
          generalize hgl : GL.length = mL at *
          clear hgl
          go_wp2
          generalize hW : w9.alloc (.cells #[.slice aL nL cL, .slice bL mL dL] 25) = W9
          have hb : Below w9.heap.size w9 W9 := hW ▸ (Below.refl _ _).alloc (Nat.le_refl _) _
          have HXL : Hid (BlkB W9 w9.heap.size (.slice aL nL cL) (.slice bL mL dL)) := hide (hW ▸ heap_alloc_new _ _)
          have HP_a17 := hide (HP_c16.out.below' hb)
          have HG_a17 := hide (HG_c16.out.below' hb)
          have HBw_a17 := hide (HBw_c16.out.trans (hb.mono HBw_c16.out.size))
          have HX_a17 := hide (HX_c16.out.below (heap_lt HX_c16.out) hb)
          have HC1_a17 := hide (HC1_c16.out.below' hb)
          have HC2_a17 := hide (HC2_c16.out.below' hb)
          have HC_a17 := hide (HC_c16.out.below (heap_lt HC_c16.out) hb)
          have HD1_a17 := hide (HD1_c16.out.below' hb)
          have HD2_a17 := hide (HD2_c16.out.below' hb)
          have HXD_a17 := hide (HXD_c16.out.below (heap_lt HXD_c16.out) hb)
          have HE1_a17 := hide (HE1_c16.out.below' hb)
          have HE2_a17 := hide (HE2_c16.out.below' hb)
          have HXE_a17 := hide (HXE_c16.out.below (heap_lt HXE_c16.out) hb)
          have HF1_a17 := hide (HF1_c16.out.below' hb)
          have HF2_a17 := hide (HF2_c16.out.below' hb)
          have HXF_a17 := hide (HXF_c16.out.below (heap_lt HXF_c16.out) hb)
          have HJ1_a17 := hide (HJ1_c16.out.below' hb)
          have HJ2_a17 := hide (HJ2_c16.out.below' hb)
          have HXJ_a17 := hide (HXJ_c16.out.below (heap_lt HXJ_c16.out) hb)
          have HL1_a17 := hide (HL1.out.below' hb)
          have HL2_a17 := hide (HL2.out.below' hb)
          clear HP_c16 HG_c16 HBw_c16 HX_c16 HC1_c16 HC2_c16 HC_c16 HD1_c16 HD2_c16 HXD_c16 HE1_c16 HE2_c16 HXE_c16 HF1_c16 HF2_c16 HXF_c16 HJ1_c16 HJ2_c16 HXJ_c16 HL1 HL2 hb
          clear hW
          generalize w9.heap.size = BXL at *
          refine HK14.out _ _ ?_
          clear HK14
          have HREF := hide (once_ref' HBD.out HN.out HPE.out HSU.out HK3.out HBL.out HGe7.out HWL.out)
          clear HWL HGe7
          refine wp_seq_k (fun K15 hK15 => ?_)
          have HK15 := hide hK15
          clear hK15
          have HST := hide (refund_any aL nL cL AL _ bL mL dL GL n 1 W9 HL1_a17.out HL2_a17.out HBL.out)
          generalize hgE : refE AL GL n 1 = e8 at HST
          have HGe8 := hide hgE
          clear hgE
          obtain ⟨x1, x2⟩ := HXL.out.cells
          go_wp2_with fail
          refine (HST.out).mono ?_
          intro e w10 hop
          obtain ⟨hb, AM, GM, aM, nM, cM, bM, dM, rfl, i1, i2, i3, _, _, i6⟩ := hop.all
          clear hop HST
          have HM1 := hide i1
          have HM2 := hide i2
          have HBM := hide i3
          have HWM := hide i6
          clear i1 i2 i3 i6
          clear x1 x2 
          have HP_c18 := hide (HP_a17.out.below' hb)
          have HG_c18 := hide (HG_a17.out.below' hb)
          have HBw_c18 := hide (HBw_a17.out.trans (hb.mono HBw_a17.out.size))
          have HX_c18 := hide (HX_a17.out.below (heap_lt HX_a17.out) hb)
          have HC1_c18 := hide (HC1_a17.out.below' hb)
          have HC2_c18 := hide (HC2_a17.out.below' hb)
          have HC_c18 := hide (HC_a17.out.below (heap_lt HC_a17.out) hb)
          have HD1_c18 := hide (HD1_a17.out.below' hb)
          have HD2_c18 := hide (HD2_a17.out.below' hb)
          have HXD_c18 := hide (HXD_a17.out.below (heap_lt HXD_a17.out) hb)
          have HE1_c18 := hide (HE1_a17.out.below' hb)
          have HE2_c18 := hide (HE2_a17.out.below' hb)
          have HXE_c18 := hide (HXE_a17.out.below (heap_lt HXE_a17.out) hb)
          have HF1_c18 := hide (HF1_a17.out.below' hb)
          have HF2_c18 := hide (HF2_a17.out.below' hb)
          have HXF_c18 := hide (HXF_a17.out.below (heap_lt HXF_a17.out) hb)
          have HJ1_c18 := hide (HJ1_a17.out.below' hb)
          have HJ2_c18 := hide (HJ2_a17.out.below' hb)
          have HXJ_c18 := hide (HXJ_a17.out.below (heap_lt HXJ_a17.out) hb)
          have HL1_c18 := hide (HL1_a17.out.below' hb)
          have HL2_c18 := hide (HL2_a17.out.below' hb)
          have HXL_c18 := hide (HXL.out.below (heap_lt HXL.out) hb)
          clear HP_a17 HG_a17 HBw_a17 HX_a17 HC1_a17 HC2_a17 HC_a17 HD1_a17 HD2_a17 HXD_a17 HE1_a17 HE2_a17 HXE_a17 HF1_a17 HF2_a17 HXF_a17 HJ1_a17 HJ2_a17 HXJ_a17 HL1_a17 HL2_a17 HXL hb
          generalize hgl : GM.length = mM at *
          clear hgl
          go_wp2
          generalize hW : w10.alloc (.cells #[.slice aM nM cM, .slice bM mM dM] 25) = W10
          have hb : Below w10.heap.size w10 W10 := hW ▸ (Below.refl _ _).alloc (Nat.le_refl _) _
          have HXM : Hid (BlkB W10 w10.heap.size (.slice aM nM cM) (.slice bM mM dM)) := hide (hW ▸ heap_alloc_new _ _)
          have HP_a19 := hide (HP_c18.out.below' hb)
          have HG_a19 := hide (HG_c18.out.below' hb)
          have HBw_a19 := hide (HBw_c18.out.trans (hb.mono HBw_c18.out.size))
          have HX_a19 := hide (HX_c18.out.below (heap_lt HX_c18.out) hb)
          have HC1_a19 := hide (HC1_c18.out.below' hb)
          have HC2_a19 := hide (HC2_c18.out.below' hb)
          have HC_a19 := hide (HC_c18.out.below (heap_lt HC_c18.out) hb)
          have HD1_a19 := hide (HD1_c18.out.below' hb)
          have HD2_a19 := hide (HD2_c18.out.below' hb)
          have HXD_a19 := hide (HXD_c18.out.below (heap_lt HXD_c18.out) hb)
          have HE1_a19 := hide (HE1_c18.out.below' hb)
          have HE2_a19 := hide (HE2_c18.out.below' hb)
          have HXE_a19 := hide (HXE_c18.out.below (heap_lt HXE_c18.out) hb)
          have HF1_a19 := hide (HF1_c18.out.below' hb)
          have HF2_a19 := hide (HF2_c18.out.below' hb)
          have HXF_a19 := hide (HXF_c18.out.below (heap_lt HXF_c18.out) hb)
          have HJ1_a19 := hide (HJ1_c18.out.below' hb)
          have HJ2_a19 := hide (HJ2_c18.out.below' hb)
          have HXJ_a19 := hide (HXJ_c18.out.below (heap_lt HXJ_c18.out) hb)
          have HL1_a19 := hide (HL1_c18.out.below' hb)
          have HL2_a19 := hide (HL2_c18.out.below' hb)
          have HXL_a19 := hide (HXL_c18.out.below (heap_lt HXL_c18.out) hb)
          have HM1_a19 := hide (HM1.out.below' hb)
          have HM2_a19 := hide (HM2.out.below' hb)
          clear HP_c18 HG_c18 HBw_c18 HX_c18 HC1_c18 HC2_c18 HC_c18 HD1_c18 HD2_c18 HXD_c18 HE1_c18 HE2_c18 HXE_c18 HF1_c18 HF2_c18 HXF_c18 HJ1_c18 HJ2_c18 HXJ_c18 HL1_c18 HL2_c18 HXL_c18 HM1 HM2 hb
          clear hW
          generalize w10.heap.size = BXM at *
          refine HK15.out _ _ ?_
          clear HK15
          obtain rfl : 13 = e8 := HREF.out.2.symm.trans HGe8.out
          clear HWM HGe8 HBM
          rcases HREF.out.1 with rfl | rfl
          · go_wp2
            go_ret
            exact ⟨rfl, HBw_a19.out⟩
          · go_wp2
            go_ret
            exact ⟨rfl, HBw_a19.out⟩
        · go_wp2
          go_ret
          exact ⟨rfl, HBw_a11.out⟩
        · go_wp2
          go_ret
          exact ⟨rfl, HBw_a11.out⟩
      · go_wp2
        go_ret
        exact ⟨rfl, HBw_a11.out⟩
    · refine wp_seq_k (fun K2 hK2 => ?_)
      have HK2 := hide hK2
      clear hK2
      generalize authE A G n am = r at *
      have hr1 : (r != 0) = true := by simpa using hE
      obtain ⟨x1, x2⟩ := HX_l.out.cells
      go_wp2_with fail
      refine (HAU.out).mono ?_
      intro e w2 hop
      obtain ⟨hb, rfl⟩ := hop.no hE
      clear hop HAU
      clear x1 x2 
      have HP_c2 := hide (HP_l.out.below' hb)
      have HG_c2 := hide (HG_l.out.below' hb)
      have HBw_c2 := hide (HBw_l.out.trans (hb.mono HBw_l.out.size))
      have HX_c2 := hide (HX_l.out.below (heap_lt HX_l.out) hb)
      clear HP_l HG_l HBw_l HX_l hb
      go_wp2
      generalize hW : w2.alloc (.cells #[.slice none 0 0, .slice none 0 0] 25) = W2
      have hb : Below w2.heap.size w2 W2 := hW ▸ (Below.refl _ _).alloc (Nat.le_refl _) _
      have HC : Hid (BlkB W2 w2.heap.size (.slice none 0 0) (.slice none 0 0)) := hide (hW ▸ heap_alloc_new _ _)
      have HP_a3 := hide (HP_c2.out.below' hb)
      have HG_a3 := hide (HG_c2.out.below' hb)
      have HBw_a3 := hide (HBw_c2.out.trans (hb.mono HBw_c2.out.size))
      have HX_a3 := hide (HX_c2.out.below (heap_lt HX_c2.out) hb)
      clear HP_c2 HG_c2 HBw_c2 HX_c2 hb
      clear hW
      generalize w2.heap.size = BC at *
      refine HK2.out _ _ ?_
      clear HK2
      obtain ⟨x1, x2⟩ := HC.out.cells
      go_wp2
      go_ret
      exact ⟨rfl, HBw_a3.out⟩
  · refine wp_seq_k (fun K2 hK2 => ?_)
    have HK2 := hide hK2
    clear hK2
    obtain ⟨x1, x2⟩ := HX_l.out.cells
    go_wp2_with fail
    refine (auth_wrong a len cap P a2 len2 cap2 G n am w1 HP_l.out HG_l.out hck).mono ?_
    rintro e w2 ⟨hb, rfl⟩
    clear x1 x2 hck
    have HP_c2 := hide (HP_l.out.below' hb)
    have HG_c2 := hide (HG_l.out.below' hb)
    have HBw_c2 := hide (HBw_l.out.trans (hb.mono HBw_l.out.size))
    have HX_c2 := hide (HX_l.out.below (heap_lt HX_l.out) hb)
    clear HP_l HG_l HBw_l HX_l hb
    go_wp2
    generalize hW : w2.alloc (.cells #[.slice none 0 0, .slice none 0 0] 25) = W2
    have hb : Below w2.heap.size w2 W2 := hW ▸ (Below.refl _ _).alloc (Nat.le_refl _) _
    have HC : Hid (BlkB W2 w2.heap.size (.slice none 0 0) (.slice none 0 0)) := hide (hW ▸ heap_alloc_new _ _)
    have HP_a3 := hide (HP_c2.out.below' hb)
    have HG_a3 := hide (HG_c2.out.below' hb)
    have HBw_a3 := hide (HBw_c2.out.trans (hb.mono HBw_c2.out.size))
    have HX_a3 := hide (HX_c2.out.below (heap_lt HX_c2.out) hb)
    clear HP_c2 HG_c2 HBw_c2 HX_c2 hb
    clear hW
    generalize w2.heap.size = BC at *
    refine HK2.out _ _ ?_
    clear HK2
    obtain ⟨x1, x2⟩ := HC.out.cells
    go_wp2
    go_ret
    exact ⟨rfl, HBw_a3.out⟩
end Go.Proofs.Ytoaekgacfnmmmaa
