/- NodeOwn: the walk -/
import Derived.Test.YtebikoekpbnpbaaOA
namespace Go.Proofs.Ytebikoekpbnpbaa
open Go.RowKit Cod
set_option maxRecDepth 100000
set_option linter.unusedVariables false
set_option linter.unusedSimpArgs false
set_option maxHeartbeats 16000000 in
theorem own_any (v : Pv) (p : Pg) (xa : Option Addr) (xn xc : Nat) (key : List Nat) (ya : Option Addr) (yn yc : Nat) (val : List Nat) (w : World) (h : IsG w v p) (hc : FewP v) (hs : (∀ b ∈ p.keys, b.length ≤ 2000000) ∧ ∀ b ∈ p.vals, b.length ≤ 2000000) (hk : IsB w xa xn xc key) (hv : IsB w ya yn yc val) :
    Calls Try.prog 9 #[.agg (pgc p.leaf v), .slice xa xn xc, .slice ya yn yc] w fun e w' => e = .returned (.bool true) ∧ Below w.heap.size w w' := by
  obtain ⟨V0, hV0⟩ : ∃ V0, V0 = w.alloc (.cells (pgc p.leaf v) 25) := ⟨_, rfl⟩
  have HB0 : Hid (Below w.heap.size w V0) := hide (by rw [hV0]; exact below_new _ _)
  have HX0 : Hid (KyP V0 w.heap.size v p.leaf p) := hide (by rw [hV0]; exact KyP.new h)
  have HCO : Hid (∀ W : World, IsG W v p → Calls Try.prog 12 #[.agg (pgc p.leaf v)] W fun e w' => ∃ v', e = .returned (.agg (pgc p.leaf v')) ∧ IsG w' v' p ∧ v'.kn = v.kn ∧ v'.vn = v.vn ∧ v'.inn = v.inn ∧ Below W.heap.size W w') := hide (fun W hW => (rcopy_any v p W hW hc hs p.leaf).mono (fun e w' ⟨v', xs, ys, M, he, hcp, h1, h2, h3, hb⟩ => ⟨v', he, hcp.is, h1, h2, h3, hb⟩))
  have HSP : Hid (∀ (u : Pv) (W : World), IsG W u p → FewP u → Calls Try.prog 29 #[.agg (pgc p.leaf u)] W fun e w' => ∃ (l1 l2 : Bool) (v1 v2 : Pv) (p1 p2 : Pg) (xa : Option Addr) (xn xc : Nat) (xl : List Nat) (er : Int), e = .returned (.tuple #[.agg (pgc l1 v1), .slice xa xn xc, .agg (pgc l2 v2), .int .i64 er]) ∧ NwG w' (W.heap.size + 2) v1 p1 ∧ NwG w' (W.heap.size + 2) v2 p2 ∧ IsB w' xa xn xc xl ∧ (∀ b off, xa = some ⟨b, off, none⟩ → W.heap.size + 2 < b ∧ FzB w' b) ∧ Below W.heap.size W w') := hide (fun u W h1 h2 => split_all u p W h1 h2)
  have HPU : Hid (∀ (u : Pv) (W : World), IsG W u p → FewP u → IsB W xa xn xc key → IsB W ya yn yc val → Calls Try.prog 25 #[.agg (pgc p.leaf u), .slice xa xn xc, .slice ya yn yc] W fun e w' => ∃ (l3 : Bool) (v' : Pv) (p3 : Pg) (er : Int), e = .returned (.tuple #[.agg (pgc l3 v'), .int .i64 er]) ∧ NwG w' (W.heap.size + 1) v' p3 ∧ Below W.heap.size W w') := hide (fun u W h1 h2 h3 h4 => (put_any u p xa xn xc key ya yn yc val W h1 h2 h3 h4).mono (fun e w' ⟨v', he, hn, hb⟩ => ⟨_, v', _, _, he, hn, hb⟩))
  have HKY : Hid (∀ (u : Pv) (W : World), IsG W u p → FewP u → IsB W xa xn xc key → IsB W ya yn yc val → Calls Try.prog 4 #[.agg (pgc p.leaf u), .slice xa xn xc, .slice ya yn yc] W fun e w' => e = .returned (.bool true) ∧ Below W.heap.size W w') := hide (fun u W h1 h2 h3 h4 => keys_any u p xa xn xc key ya yn yc val W h1 h2 hs h3 h4)
  have HFW := hide hc
  have HK := hide hk
  have HV := hide hv
  clear h hc hk hv hs
  obtain ⟨lf, hlf⟩ : ∃ lf, lf = p.leaf := ⟨_, rfl⟩
  rw [← hlf] at hV0 HX0 HCO HSP HPU HKY ⊢
  have HLF := hide hlf
  clear hlf
  go_enter Try.func9, Try.ntmps9
  go_wp2_with fail
  rw [← hV0]
  clear hV0
  refine (lives_any V0).mono ?_
  rintro e w1 ⟨rfl, hb⟩
  have HB1 : Hid (Below w.heap.size w w1) := hide (HB0.out.trans (hb.mono HB0.out.size))
  have HX1 := hide (HX0.out.below hb)
  have HC1 := hide (HCO.out w1 HX1.out.is)
  clear hb HX0 HB0 HCO
  obtain ⟨q0, q1, q2, q3⟩ := BlkG.cells HX1.out.x
  go_wp2_with fail
  refine HC1.out.mono ?_
  rintro e w2 ⟨v1, rfl, hg, hn1, hn2, hn3, hb⟩
  obtain ⟨A, hA⟩ : ∃ A, A = w2.heap.size := ⟨_, rfl⟩
  obtain ⟨V2, hV2⟩ : ∃ V1, V1 = w2.alloc (.cells (pgc lf v1) 25) := ⟨_, rfl⟩
  have hbv : Below w2.heap.size w2 V2 := by rw [hV2]; exact below_new _ _
  have hb2 : Below w1.heap.size w1 V2 := hb.trans (hbv.mono hb.size)
  have HB2 : Hid (Below w.heap.size w V2) := hide (HB1.out.trans (hb2.mono HB1.out.size))
  have HX2 := hide (HX1.out.below hb2)
  have HY2 : Hid (KyP V2 A v1 lf p) := hide (by rw [hV2, hA]; exact KyP.new hg)
  have HFW1 : Hid (FewP v1) := hide (by unfold FewP; rw [hn1, hn2, hn3]; exact HFW.out)
  have HS2 := hide (HSP.out v1 V2 HY2.out.is HFW1.out)
  clear hbv hb2 hb hg hn1 hn2 hn3 HX1 HB1 HC1 HSP q0 q1 q2 q3
  obtain ⟨r0, r1, r2, r3⟩ := BlkG.cells HY2.out.x
  rw [hV2, hA] at r0 r1 r2 r3
  go_wp2_with fail
  try rw [← hV2]
  try rw [← hA]
  clear hV2 hA r0 r1 r2 r3
  refine HS2.out.mono ?_
  rintro e w3 ⟨la, lb, ⟨ka1, kn1, kc1, va1, vn1, vc1, ia1, in1, ic1⟩, ⟨ka2, kn2, kc2, va2, vn2, vc2, ia2, in2, ic2⟩, pa, pb, ka, kn, kc, kl, er, rfl, na, nb, hkB, hkF, hb⟩
  obtain ⟨C, hC⟩ : ∃ C, C = w3.heap.size := ⟨_, rfl⟩
  obtain ⟨V3, hV3⟩ : ∃ V, V = (w3.alloc (.cells (pgc la ⟨ka1, kn1, kc1, va1, vn1, vc1, ia1, in1, ic1⟩) 25)).alloc (.cells (pgc lb ⟨ka2, kn2, kc2, va2, vn2, vc2, ia2, in2, ic2⟩) 25) := ⟨_, rfl⟩
  have hbv : Below w3.heap.size w3 V3 := by rw [hV3]; exact ((Below.refl _ w3).alloc (Nat.le_refl _) _).alloc (by simp) _
  have hb3 : Below V2.heap.size V2 V3 := hb.trans (hbv.mono hb.size)
  have HB3 : Hid (Below w.heap.size w V3) := hide (HB2.out.trans (hb3.mono HB2.out.size))
  have HQ3 : Hid (Below V2.heap.size V2 V3) := hide hb3
  have HY3 := hide (HY2.out.below hb3)
  have HNa := hide (na.below hbv)
  have HNb := hide (nb.below hbv)
  have HKB := hide (hkB.below hbv)
  have HKF : Hid (∀ b off, ka = some ⟨b, off, none⟩ → V2.heap.size ≤ b ∧ FzB V3 b) := hide (fun b off e => by
    obtain ⟨g1, g2⟩ := hkF b off e
    exact ⟨by omega, g2.kept (hbv.block b g2.lt)⟩)
  have HUa : Hid (BlkG V3 C la ⟨ka1, kn1, kc1, va1, vn1, vc1, ia1, in1, ic1⟩) := hide (by show V3.heap[C]? = _; rw [hV3, hC, heap_al, heap_al, World.size_alloc, if_neg (by omega), if_pos rfl])
  have HUb : Hid (BlkG V3 (C + 1) lb ⟨ka2, kn2, kc2, va2, vn2, vc2, ia2, in2, ic2⟩) := hide (by show V3.heap[C + 1]? = _; rw [hV3, hC, heap_al, World.size_alloc, if_pos rfl])
  have HP3 := hide (HPU.out v1 V3 HY3.out.is HFW1.out (HK.out.below HB3.out) (HV.out.below HB3.out))
  clear hbv hb3 hb na nb hkB hkF HS2 HPU
  obtain ⟨r0, r1, r2, r3⟩ := BlkG.cells HY3.out.x
  rw [hV3] at r0 r1 r2 r3
  go_wp2_with fail
  try rw [← hV3]
  try rw [← hC]
  clear hV3 hC r0 r1 r2 r3
  refine HP3.out.mono ?_
  rintro e w4 ⟨lc, ⟨ka3, kn3, kc3, va3, vn3, vc3, ia3, in3, ic3⟩, pc, er2, rfl, nc, hb⟩
  obtain ⟨D, hD⟩ : ∃ C, C = w4.heap.size := ⟨_, rfl⟩
  obtain ⟨V4, hV4⟩ : ∃ V, V = w4.alloc (.cells (pgc lc ⟨ka3, kn3, kc3, va3, vn3, vc3, ia3, in3, ic3⟩) 25) := ⟨_, rfl⟩
  have hbv : Below w4.heap.size w4 V4 := by rw [hV4]; exact below_new _ _
  have hb4 : Below V3.heap.size V3 V4 := hb.trans (hbv.mono hb.size)
  have HQ4 : Hid (Below V2.heap.size V2 V4) := hide (HQ3.out.trans (hb4.mono HQ3.out.size))
  have HG4 : Hid (NwG V4 (V2.heap.size + 1) ⟨ka1, kn1, kc1, va1, vn1, vc1, ia1, in1, ic1⟩ pa ∧ NwG V4 (V2.heap.size + 1) ⟨ka2, kn2, kc2, va2, vn2, vc2, ia2, in2, ic2⟩ pb ∧ NwG V4 (V2.heap.size + 1) ⟨ka3, kn3, kc3, va3, vn3, vc3, ia3, in3, ic3⟩ pc) := hide ⟨(HNa.out.below hb4).mono (by omega), (HNb.out.below hb4).mono (by omega), (nc.below hbv).mono (by have := HQ3.out.size; omega)⟩
  have HKB4 := hide (HKB.out.below hb4)
  have HKF4 : Hid (∀ b off, ka = some ⟨b, off, none⟩ → V2.heap.size ≤ b ∧ FzB V4 b) := hide (fun b off e => ⟨(HKF.out b off e).1, (HKF.out b off e).2.kept (hb4.block b (HKF.out b off e).2.lt)⟩)
  have HU4 : Hid (BlkG V4 C la ⟨ka1, kn1, kc1, va1, vn1, vc1, ia1, in1, ic1⟩ ∧ BlkG V4 (C + 1) lb ⟨ka2, kn2, kc2, va2, vn2, vc2, ia2, in2, ic2⟩ ∧ BlkG V4 D lc ⟨ka3, kn3, kc3, va3, vn3, vc3, ia3, in3, ic3⟩) := hide ⟨(hb4.block _ (heap_ltN HUa.out)).trans HUa.out, (hb4.block _ (heap_ltN HUb.out)).trans HUb.out, by show V4.heap[D]? = _; rw [hV4, hD, heap_alloc_new]⟩
  obtain ⟨B, hB⟩ : ∃ B, B = V2.heap.size := ⟨_, rfl⟩
  have HBS : Hid (B ≤ V4.heap.size) := hide (by rw [hB]; exact HQ4.out.size)
  rw [← hB] at HQ4 HG4 HKF4
  have HBB := hide hB
  have hkn1 : kn ≤ kc := HKB4.out.2.1
  have hkn2 : kc ≤ 9223372036854775807 := HKB4.out.2.2.1
  clear hbv hb4 hb nc HNa HNb HKB HKF HUa HUb HP3 HY3 HB3 HQ3 hB
  go_wp2_with fail
  try rw [← hV4]
  try rw [← hD]
  clear hV4 hD
  have HEK : Hid (∀ j, j < kn → ByW B V4 ka j) := hide (fun j hj => byW HKB4.out HKF4.out hj)
  go_loopw [43] (fun vj W => ∃ m : Nat, m ≤ kn ∧ vj = .int .i64 (m : Nat) ∧ Hid (Mut B V4 W)) (fun vj _ => kn - (intOf vj).toNat)
  case atStart => exact ⟨0, Nat.zero_le _, rfl, hide (Mut.refl _ _)⟩
  case round =>
    obtain ⟨m, hm, rfl, HJ⟩ := hrel
    by_cases hlt : m < kn
    · obtain ⟨bb, bo, e9, hby⟩ := HEK.out m hlt
      obtain ⟨⟨z, hz⟩, hfz, hst⟩ := hby wr HJ.out
      have HST : Hid (∀ z', Mut B V4 (wr.setCell ⟨bb, bo + m, none⟩ (.int .u8 z'))) := hide (fun z' => HJ.out.trans (hst z'))
      have hw1 : IntKind.i64.wrap ((m : Int) + 1) = (m : Int) + 1 := wrapN (by omega) (by omega)
      have hi4 : (0 : Int) ≤ (m : Int) := by omega
      have hiI : (m : Int) < (kn : Int) := by omega
      subst e9
      clear hby hst
      go_wp2_with fail
      go_roundw
      case rel => exact ⟨m + 1, by omega, by simp, hide (HST.out _)⟩
      case measure => simp [intOf]; omega
    · obtain rfl : kn = m := by omega
      have hkk : ¬ ((kn : Nat) : Int) < ((kn : Nat) : Int) := by omega
      have c1 : wr.cell? ⟨C, 0, none⟩ = some (.bool la) := HJ.out.keep _ _ (BlkG.cells HU4.out.1).1 rfl
      have c2 : wr.cell? ⟨C, 1, none⟩ = some (.slice ka1 kn1 kc1) := HJ.out.keep _ _ (BlkG.cells HU4.out.1).2.1 rfl
      have c3 : wr.cell? ⟨C, 2, none⟩ = some (.slice va1 vn1 vc1) := HJ.out.keep _ _ (BlkG.cells HU4.out.1).2.2.1 rfl
      have c4 : wr.cell? ⟨C, 3, none⟩ = some (.slice ia1 in1 ic1) := HJ.out.keep _ _ (BlkG.cells HU4.out.1).2.2.2 rfl
      have d1 : wr.cell? ⟨C + 1, 0, none⟩ = some (.bool lb) := HJ.out.keep _ _ (BlkG.cells HU4.out.2.1).1 rfl
      have d2 : wr.cell? ⟨C + 1, 1, none⟩ = some (.slice ka2 kn2 kc2) := HJ.out.keep _ _ (BlkG.cells HU4.out.2.1).2.1 rfl
      have d3 : wr.cell? ⟨C + 1, 2, none⟩ = some (.slice va2 vn2 vc2) := HJ.out.keep _ _ (BlkG.cells HU4.out.2.1).2.2.1 rfl
      have d4 : wr.cell? ⟨C + 1, 3, none⟩ = some (.slice ia2 in2 ic2) := HJ.out.keep _ _ (BlkG.cells HU4.out.2.1).2.2.2 rfl
      have e1 : wr.cell? ⟨D, 0, none⟩ = some (.bool lc) := HJ.out.keep _ _ (BlkG.cells HU4.out.2.2).1 rfl
      have e2 : wr.cell? ⟨D, 1, none⟩ = some (.slice ka3 kn3 kc3) := HJ.out.keep _ _ (BlkG.cells HU4.out.2.2).2.1 rfl
      have e3 : wr.cell? ⟨D, 2, none⟩ = some (.slice va3 vn3 vc3) := HJ.out.keep _ _ (BlkG.cells HU4.out.2.2).2.2.1 rfl
      have e4 : wr.cell? ⟨D, 3, none⟩ = some (.slice ia3 in3 ic3) := HJ.out.keep _ _ (BlkG.cells HU4.out.2.2).2.2.2 rfl
      obtain ⟨X, hX⟩ : ∃ X, X = wr.heap.size := ⟨_, rfl⟩
      obtain ⟨W5, hW5⟩ : ∃ V, V = wr.alloc (.cells #[.bool la, .slice ka1 kn1 kc1, .slice va1 vn1 vc1, .slice ia1 in1 ic1, .bool lb, .slice ka2 kn2 kc2, .slice va2 vn2 vc2, .slice ia2 in2 ic2, .bool lc, .slice ka3 kn3 kc3, .slice va3 vn3 vc3, .slice ia3 in3 ic3] 25) := ⟨_, rfl⟩
      have HM5 : Hid (Mut B V4 W5) := hide (by rw [hW5]; exact HJ.out.trans (Mut.alloc (Nat.le_trans HBS.out HJ.out.bel.size) _))
      have HXB : Hid (W5.heap[X]? = some (.cells #[.bool la, .slice ka1 kn1 kc1, .slice va1 vn1 vc1, .slice ia1 in1 ic1, .bool lb, .slice ka2 kn2 kc2, .slice va2 vn2 vc2, .slice ia2 in2 ic2, .bool lc, .slice ka3 kn3 kc3, .slice va3 vn3 vc3, .slice ia3 in3 ic3] 25 (0, 0))) := hide (by rw [hW5, hX, heap_alloc_new])
      clear HJ hlt hm hkk
      go_wp2_with fail
      try rw [← hW5]
      try rw [← hX]
      clear hW5 hX c1 c2 c3 c4 d1 d2 d3 d4 e1 e2 e3 e4
      go_loopw [58] (fun vj W => ∃ j : Nat, j ≤ 3 ∧ vj = .int .i64 (j : Nat) ∧ Hid (Mut B W5 W)) (fun vj _ => 3 - (intOf vj).toNat)
      case atStart => exact ⟨0, by omega, rfl, hide (Mut.refl _ _)⟩
      case round =>
        obtain ⟨j, hj, rfl, HI⟩ := hrel
        by_cases hlt : j < 3
        · rcases (by omega : j = 0 ∨ j = 1 ∨ j = 2) with rfl | rfl | rfl
          · skip
            have z0 : wr.cell? ⟨X, 0, none⟩ = some (.bool la) := HI.out.keep _ _ (cell_blkN HXB.out rfl) rfl
            have z1 : wr.cell? ⟨X, 1, none⟩ = some (.slice ka1 kn1 kc1) := HI.out.keep _ _ (cell_blkN HXB.out rfl) rfl
            have z2 : wr.cell? ⟨X, 2, none⟩ = some (.slice va1 vn1 vc1) := HI.out.keep _ _ (cell_blkN HXB.out rfl) rfl
            have z3 : wr.cell? ⟨X, 3, none⟩ = some (.slice ia1 in1 ic1) := HI.out.keep _ _ (cell_blkN HXB.out rfl) rfl
            obtain ⟨Y, hY⟩ : ∃ Y, Y = wr.heap.size := ⟨_, rfl⟩
            obtain ⟨W6, hW6⟩ : ∃ V, V = (wr.alloc (.cells #[.bool la, .slice ka1 kn1 kc1, .slice va1 vn1 vc1, .slice ia1 in1 ic1] 25)).alloc (.cells #[.slice ka1 kn1 kc1, .slice va1 vn1 vc1] 22) := ⟨_, rfl⟩
            have HWB : Hid (B ≤ wr.heap.size) := hide (Nat.le_trans HBS.out (Nat.le_trans HM5.out.bel.size HI.out.bel.size))
            have HM56 : Hid (Mut B W5 W6) := hide (by rw [hW6]; exact (HI.out.trans (Mut.alloc HWB.out _)).trans (Mut.alloc (Nat.le_trans HWB.out (by simp)) _))
            have HM6 : Hid (Mut B V4 W6) := hide (HM5.out.trans HM56.out)
            have HYB : Hid (W6.heap[Y]? = some (.cells #[.bool la, .slice ka1 kn1 kc1, .slice va1 vn1 vc1, .slice ia1 in1 ic1] 25 (0, 0))) := hide (by rw [hW6, hY, heap_al, heap_al, World.size_alloc, if_neg (by omega), if_pos rfl])
            have HZB : Hid (W6.heap[Y + 1]? = some (.cells #[.slice ka1 kn1 kc1, .slice va1 vn1 vc1] 22 (0, 0))) := hide (by rw [hW6, hY, heap_al, World.size_alloc, if_pos rfl])
            clear HI hlt hj
            go_wp2_with fail
            try rw [← hW6]
            try simp only [← hY]
            clear hW6 hY z0 z1 z2 z3
            go_loopw [68] (fun vj W => ∃ t : Nat, t ≤ 2 ∧ vj = .int .i64 (t : Nat) ∧ Hid (Mut B W6 W)) (fun vj _ => 2 - (intOf vj).toNat)
            case atStart => exact ⟨0, by omega, rfl, hide (Mut.refl _ _)⟩
            case round =>
              obtain ⟨t, ht, rfl, HJ⟩ := hrel
              by_cases hlt : t < 2
              · rcases (by omega : t = 0 ∨ t = 1) with rfl | rfl
                · skip
                  have zc : wr.cell? ⟨Y + 1, 0, none⟩ = some (.slice ka1 kn1 kc1) := HJ.out.keep _ _ (cell_blkN HZB.out rfl) rfl
                  have hl1 : kn1 ≤ kc1 := HG4.out.1.keys.is.2.1
                  have hl2 : kc1 ≤ 9223372036854775807 := HG4.out.1.keys.is.2.2.1
                  go_wp2_with fail
                  clear zc
                  go_loopw [74] (fun vj W => ∃ s : Nat, s ≤ kn1 ∧ vj = .int .i64 (s : Nat) ∧ Hid (Mut B W6 W)) (fun vj _ => kn1 - (intOf vj).toNat)
                  case atStart => exact ⟨0, Nat.zero_le _, rfl, HJ⟩
                  case round =>
                    obtain ⟨s, hs, rfl, HE⟩ := hrel
                    by_cases hlt : s < kn1
                    · obtain ⟨b, off, a', n', c', ea, hcell, hn1, hn2, hby⟩ := elW HG4.out.1.keys (B := B) (by omega) hlt
                      have HBY := hide hby
                      have z5 := hcell wr (HM6.out.trans HE.out)
                      have hw1 : IntKind.i64.wrap ((s : Int) + 1) = (s : Int) + 1 := wrapN (by omega) (by omega)
                      have hi4 : (0 : Int) ≤ (s : Int) := by omega
                      have hiI : (s : Int) < (kn1 : Int) := by omega
                      have hn3 : c' ≤ 9223372036854775807 := hn2
                      try dsimp only at ea
                      rw [ea]
                      clear hby hcell hn2
                      go_wp2_with fail
                      clear z5
                      go_loopw [80] (fun vj W => ∃ m : Nat, m ≤ n' ∧ vj = .int .i64 (m : Nat) ∧ Hid (Mut B W6 W)) (fun vj _ => n' - (intOf vj).toNat)
                      case atStart => exact ⟨0, Nat.zero_le _, rfl, HE⟩
                      case round =>
                        obtain ⟨m, hm, rfl, HF⟩ := hrel
                        by_cases hlt2 : m < n'
                        · obtain ⟨bb, bo, e9, hbz⟩ := HBY.out m hlt2
                          obtain ⟨⟨z, hz⟩, hfz, hst⟩ := hbz wr (HM6.out.trans HF.out)
                          have HST : Hid (∀ z', Mut B W6 (wr.setCell ⟨bb, bo + m, none⟩ (.int .u8 z'))) := hide (fun z' => HF.out.trans (hst z'))
                          have hw2 : IntKind.i64.wrap ((m : Int) + 1) = (m : Int) + 1 := wrapN (by omega) (by omega)
                          have hi5 : (0 : Int) ≤ (m : Int) := by omega
                          have hi6 : (m : Int) < (n' : Int) := by omega
                          rw [e9]
                          clear hbz hst
                          go_wp2_with fail
                          go_roundw
                          case rel => exact ⟨m + 1, by omega, by simp, hide (HST.out _)⟩
                          case measure => simp [intOf]; omega
                        · obtain rfl : n' = m := by omega
                          have hkk : ¬ ((n' : Nat) : Int) < ((n' : Nat) : Int) := by omega
                          go_wp2_with fail
                          go_roundw
                          case rel => exact ⟨s + 1, by omega, by simp, HF⟩
                          case measure => simp [intOf]; omega
                    · obtain rfl : kn1 = s := by omega
                      have hkk : ¬ ((kn1 : Nat) : Int) < ((kn1 : Nat) : Int) := by omega
                      go_wp2_with fail
                      go_roundw
                      case rel => exact ⟨1, by omega, rfl, HE⟩
                      case measure => simp [intOf]
                · skip
                  have zc : wr.cell? ⟨Y + 1, 1, none⟩ = some (.slice va1 vn1 vc1) := HJ.out.keep _ _ (cell_blkN HZB.out rfl) rfl
                  have hl1 : vn1 ≤ vc1 := HG4.out.1.vals.is.2.1
                  have hl2 : vc1 ≤ 9223372036854775807 := HG4.out.1.vals.is.2.2.1
                  go_wp2_with fail
                  clear zc
                  go_loopw [74] (fun vj W => ∃ s : Nat, s ≤ vn1 ∧ vj = .int .i64 (s : Nat) ∧ Hid (Mut B W6 W)) (fun vj _ => vn1 - (intOf vj).toNat)
                  case atStart => exact ⟨0, Nat.zero_le _, rfl, HJ⟩
                  case round =>
                    obtain ⟨s, hs, rfl, HE⟩ := hrel
                    by_cases hlt : s < vn1
                    · obtain ⟨b, off, a', n', c', ea, hcell, hn1, hn2, hby⟩ := elW HG4.out.1.vals (B := B) (by omega) hlt
                      have HBY := hide hby
                      have z5 := hcell wr (HM6.out.trans HE.out)
                      have hw1 : IntKind.i64.wrap ((s : Int) + 1) = (s : Int) + 1 := wrapN (by omega) (by omega)
                      have hi4 : (0 : Int) ≤ (s : Int) := by omega
                      have hiI : (s : Int) < (vn1 : Int) := by omega
                      have hn3 : c' ≤ 9223372036854775807 := hn2
                      try dsimp only at ea
                      rw [ea]
                      clear hby hcell hn2
                      go_wp2_with fail
                      clear z5
                      go_loopw [80] (fun vj W => ∃ m : Nat, m ≤ n' ∧ vj = .int .i64 (m : Nat) ∧ Hid (Mut B W6 W)) (fun vj _ => n' - (intOf vj).toNat)
                      case atStart => exact ⟨0, Nat.zero_le _, rfl, HE⟩
                      case round =>
                        obtain ⟨m, hm, rfl, HF⟩ := hrel
                        by_cases hlt2 : m < n'
                        · obtain ⟨bb, bo, e9, hbz⟩ := HBY.out m hlt2
                          obtain ⟨⟨z, hz⟩, hfz, hst⟩ := hbz wr (HM6.out.trans HF.out)
                          have HST : Hid (∀ z', Mut B W6 (wr.setCell ⟨bb, bo + m, none⟩ (.int .u8 z'))) := hide (fun z' => HF.out.trans (hst z'))
                          have hw2 : IntKind.i64.wrap ((m : Int) + 1) = (m : Int) + 1 := wrapN (by omega) (by omega)
                          have hi5 : (0 : Int) ≤ (m : Int) := by omega
                          have hi6 : (m : Int) < (n' : Int) := by omega
                          rw [e9]
                          clear hbz hst
                          go_wp2_with fail
                          go_roundw
                          case rel => exact ⟨m + 1, by omega, by simp, hide (HST.out _)⟩
                          case measure => simp [intOf]; omega
                        · obtain rfl : n' = m := by omega
                          have hkk : ¬ ((n' : Nat) : Int) < ((n' : Nat) : Int) := by omega
                          go_wp2_with fail
                          go_roundw
                          case rel => exact ⟨s + 1, by omega, by simp, HF⟩
                          case measure => simp [intOf]; omega
                    · obtain rfl : vn1 = s := by omega
                      have hkk : ¬ ((vn1 : Nat) : Int) < ((vn1 : Nat) : Int) := by omega
                      go_wp2_with fail
                      go_roundw
                      case rel => exact ⟨2, by omega, rfl, HE⟩
                      case measure => simp [intOf]
              · obtain rfl : t = 2 := by omega
                have y3 : wr.cell? ⟨Y, 3, none⟩ = some (.slice ia1 in1 ic1) := HJ.out.keep _ _ (cell_blkN HYB.out rfl) rfl
                have hl1 : in1 ≤ ic1 := HG4.out.1.kids.2.1
                have hl2 : ic1 ≤ 9223372036854775807 := HG4.out.1.kids.2.2.1
                go_wp2_with fail
                clear y3
                go_loopw [95] (fun vj W => ∃ m : Nat, m ≤ in1 ∧ vj = .int .i64 (m : Nat) ∧ Hid (Mut B W6 W)) (fun vj _ => in1 - (intOf vj).toNat)
                case atStart => exact ⟨0, Nat.zero_le _, rfl, HJ⟩
                case round =>
                  obtain ⟨m, hm, rfl, HF⟩ := hrel
                  by_cases hlt2 : m < in1
                  · obtain ⟨bb, bo, e9, hbz⟩ := kdW HG4.out.1 (B := B) (by omega) hlt2
                    obtain ⟨⟨z, hz⟩, hfz, hst⟩ := hbz wr (HM6.out.trans HF.out)
                    have HST : Hid (Mut B W6 (wr.setCell ⟨bb, bo + m, none⟩ (.int .i64 77))) := hide (HF.out.trans (hst 77))
                    have y3 : wr.cell? ⟨Y, 3, none⟩ = some (.slice (some ⟨bb, bo, none⟩) in1 ic1) := by
                      have h9 : wr.cell? ⟨Y, 3, none⟩ = some (.slice ia1 in1 ic1) := HF.out.keep _ _ (cell_blkN HYB.out rfl) rfl
                      dsimp only at e9
                      rw [h9, e9]
                    have hw2 : IntKind.i64.wrap ((m : Int) + 1) = (m : Int) + 1 := wrapN (by omega) (by omega)
                    have hi5 : (0 : Int) ≤ (m : Int) := by omega
                    have hi6 : (m : Int) < (in1 : Int) := by omega
                    clear hbz hst
                    go_wp2_with fail
                    go_roundw
                    case rel => exact ⟨m + 1, by omega, by simp, HST⟩
                    case measure => simp [intOf]; omega
                  · obtain rfl : in1 = m := by omega
                    have hkk : ¬ ((in1 : Nat) : Int) < ((in1 : Nat) : Int) := by omega
                    go_wp2_with fail
                    go_roundw
                    case rel => exact ⟨1, by omega, rfl, hide (HM56.out.trans HF.out)⟩
                    case measure => simp [intOf]
          · skip
            have z0 : wr.cell? ⟨X, 4, none⟩ = some (.bool lb) := HI.out.keep _ _ (cell_blkN HXB.out rfl) rfl
            have z1 : wr.cell? ⟨X, 5, none⟩ = some (.slice ka2 kn2 kc2) := HI.out.keep _ _ (cell_blkN HXB.out rfl) rfl
            have z2 : wr.cell? ⟨X, 6, none⟩ = some (.slice va2 vn2 vc2) := HI.out.keep _ _ (cell_blkN HXB.out rfl) rfl
            have z3 : wr.cell? ⟨X, 7, none⟩ = some (.slice ia2 in2 ic2) := HI.out.keep _ _ (cell_blkN HXB.out rfl) rfl
            obtain ⟨Y, hY⟩ : ∃ Y, Y = wr.heap.size := ⟨_, rfl⟩
            obtain ⟨W6, hW6⟩ : ∃ V, V = (wr.alloc (.cells #[.bool lb, .slice ka2 kn2 kc2, .slice va2 vn2 vc2, .slice ia2 in2 ic2] 25)).alloc (.cells #[.slice ka2 kn2 kc2, .slice va2 vn2 vc2] 22) := ⟨_, rfl⟩
            have HWB : Hid (B ≤ wr.heap.size) := hide (Nat.le_trans HBS.out (Nat.le_trans HM5.out.bel.size HI.out.bel.size))
            have HM56 : Hid (Mut B W5 W6) := hide (by rw [hW6]; exact (HI.out.trans (Mut.alloc HWB.out _)).trans (Mut.alloc (Nat.le_trans HWB.out (by simp)) _))
            have HM6 : Hid (Mut B V4 W6) := hide (HM5.out.trans HM56.out)
            have HYB : Hid (W6.heap[Y]? = some (.cells #[.bool lb, .slice ka2 kn2 kc2, .slice va2 vn2 vc2, .slice ia2 in2 ic2] 25 (0, 0))) := hide (by rw [hW6, hY, heap_al, heap_al, World.size_alloc, if_neg (by omega), if_pos rfl])
            have HZB : Hid (W6.heap[Y + 1]? = some (.cells #[.slice ka2 kn2 kc2, .slice va2 vn2 vc2] 22 (0, 0))) := hide (by rw [hW6, hY, heap_al, World.size_alloc, if_pos rfl])
            clear HI hlt hj
            go_wp2_with fail
            try rw [← hW6]
            try simp only [← hY]
            clear hW6 hY z0 z1 z2 z3
            go_loopw [68] (fun vj W => ∃ t : Nat, t ≤ 2 ∧ vj = .int .i64 (t : Nat) ∧ Hid (Mut B W6 W)) (fun vj _ => 2 - (intOf vj).toNat)
            case atStart => exact ⟨0, by omega, rfl, hide (Mut.refl _ _)⟩
            case round =>
              obtain ⟨t, ht, rfl, HJ⟩ := hrel
              by_cases hlt : t < 2
              · rcases (by omega : t = 0 ∨ t = 1) with rfl | rfl
                · skip
                  have zc : wr.cell? ⟨Y + 1, 0, none⟩ = some (.slice ka2 kn2 kc2) := HJ.out.keep _ _ (cell_blkN HZB.out rfl) rfl
                  have hl1 : kn2 ≤ kc2 := HG4.out.2.1.keys.is.2.1
                  have hl2 : kc2 ≤ 9223372036854775807 := HG4.out.2.1.keys.is.2.2.1
                  go_wp2_with fail
                  clear zc
                  go_loopw [74] (fun vj W => ∃ s : Nat, s ≤ kn2 ∧ vj = .int .i64 (s : Nat) ∧ Hid (Mut B W6 W)) (fun vj _ => kn2 - (intOf vj).toNat)
                  case atStart => exact ⟨0, Nat.zero_le _, rfl, HJ⟩
                  case round =>
                    obtain ⟨s, hs, rfl, HE⟩ := hrel
                    by_cases hlt : s < kn2
                    · obtain ⟨b, off, a', n', c', ea, hcell, hn1, hn2, hby⟩ := elW HG4.out.2.1.keys (B := B) (by omega) hlt
                      have HBY := hide hby
                      have z5 := hcell wr (HM6.out.trans HE.out)
                      have hw1 : IntKind.i64.wrap ((s : Int) + 1) = (s : Int) + 1 := wrapN (by omega) (by omega)
                      have hi4 : (0 : Int) ≤ (s : Int) := by omega
                      have hiI : (s : Int) < (kn2 : Int) := by omega
                      have hn3 : c' ≤ 9223372036854775807 := hn2
                      try dsimp only at ea
                      rw [ea]
                      clear hby hcell hn2
                      go_wp2_with fail
                      clear z5
                      go_loopw [80] (fun vj W => ∃ m : Nat, m ≤ n' ∧ vj = .int .i64 (m : Nat) ∧ Hid (Mut B W6 W)) (fun vj _ => n' - (intOf vj).toNat)
                      case atStart => exact ⟨0, Nat.zero_le _, rfl, HE⟩
                      case round =>
                        obtain ⟨m, hm, rfl, HF⟩ := hrel
                        by_cases hlt2 : m < n'
                        · obtain ⟨bb, bo, e9, hbz⟩ := HBY.out m hlt2
                          obtain ⟨⟨z, hz⟩, hfz, hst⟩ := hbz wr (HM6.out.trans HF.out)
                          have HST : Hid (∀ z', Mut B W6 (wr.setCell ⟨bb, bo + m, none⟩ (.int .u8 z'))) := hide (fun z' => HF.out.trans (hst z'))
                          have hw2 : IntKind.i64.wrap ((m : Int) + 1) = (m : Int) + 1 := wrapN (by omega) (by omega)
                          have hi5 : (0 : Int) ≤ (m : Int) := by omega
                          have hi6 : (m : Int) < (n' : Int) := by omega
                          rw [e9]
                          clear hbz hst
                          go_wp2_with fail
                          go_roundw
                          case rel => exact ⟨m + 1, by omega, by simp, hide (HST.out _)⟩
                          case measure => simp [intOf]; omega
                        · obtain rfl : n' = m := by omega
                          have hkk : ¬ ((n' : Nat) : Int) < ((n' : Nat) : Int) := by omega
                          go_wp2_with fail
                          go_roundw
                          case rel => exact ⟨s + 1, by omega, by simp, HF⟩
                          case measure => simp [intOf]; omega
                    · obtain rfl : kn2 = s := by omega
                      have hkk : ¬ ((kn2 : Nat) : Int) < ((kn2 : Nat) : Int) := by omega
                      go_wp2_with fail
                      go_roundw
                      case rel => exact ⟨1, by omega, rfl, HE⟩
                      case measure => simp [intOf]
                · skip
                  have zc : wr.cell? ⟨Y + 1, 1, none⟩ = some (.slice va2 vn2 vc2) := HJ.out.keep _ _ (cell_blkN HZB.out rfl) rfl
                  have hl1 : vn2 ≤ vc2 := HG4.out.2.1.vals.is.2.1
                  have hl2 : vc2 ≤ 9223372036854775807 := HG4.out.2.1.vals.is.2.2.1
                  go_wp2_with fail
                  clear zc
                  go_loopw [74] (fun vj W => ∃ s : Nat, s ≤ vn2 ∧ vj = .int .i64 (s : Nat) ∧ Hid (Mut B W6 W)) (fun vj _ => vn2 - (intOf vj).toNat)
                  case atStart => exact ⟨0, Nat.zero_le _, rfl, HJ⟩
                  case round =>
                    obtain ⟨s, hs, rfl, HE⟩ := hrel
                    by_cases hlt : s < vn2
                    · obtain ⟨b, off, a', n', c', ea, hcell, hn1, hn2, hby⟩ := elW HG4.out.2.1.vals (B := B) (by omega) hlt
                      have HBY := hide hby
                      have z5 := hcell wr (HM6.out.trans HE.out)
                      have hw1 : IntKind.i64.wrap ((s : Int) + 1) = (s : Int) + 1 := wrapN (by omega) (by omega)
                      have hi4 : (0 : Int) ≤ (s : Int) := by omega
                      have hiI : (s : Int) < (vn2 : Int) := by omega
                      have hn3 : c' ≤ 9223372036854775807 := hn2
                      try dsimp only at ea
                      rw [ea]
                      clear hby hcell hn2
                      go_wp2_with fail
                      clear z5
                      go_loopw [80] (fun vj W => ∃ m : Nat, m ≤ n' ∧ vj = .int .i64 (m : Nat) ∧ Hid (Mut B W6 W)) (fun vj _ => n' - (intOf vj).toNat)
                      case atStart => exact ⟨0, Nat.zero_le _, rfl, HE⟩
                      case round =>
                        obtain ⟨m, hm, rfl, HF⟩ := hrel
                        by_cases hlt2 : m < n'
                        · obtain ⟨bb, bo, e9, hbz⟩ := HBY.out m hlt2
                          obtain ⟨⟨z, hz⟩, hfz, hst⟩ := hbz wr (HM6.out.trans HF.out)
                          have HST : Hid (∀ z', Mut B W6 (wr.setCell ⟨bb, bo + m, none⟩ (.int .u8 z'))) := hide (fun z' => HF.out.trans (hst z'))
                          have hw2 : IntKind.i64.wrap ((m : Int) + 1) = (m : Int) + 1 := wrapN (by omega) (by omega)
                          have hi5 : (0 : Int) ≤ (m : Int) := by omega
                          have hi6 : (m : Int) < (n' : Int) := by omega
                          rw [e9]
                          clear hbz hst
                          go_wp2_with fail
                          go_roundw
                          case rel => exact ⟨m + 1, by omega, by simp, hide (HST.out _)⟩
                          case measure => simp [intOf]; omega
                        · obtain rfl : n' = m := by omega
                          have hkk : ¬ ((n' : Nat) : Int) < ((n' : Nat) : Int) := by omega
                          go_wp2_with fail
                          go_roundw
                          case rel => exact ⟨s + 1, by omega, by simp, HF⟩
                          case measure => simp [intOf]; omega
                    · obtain rfl : vn2 = s := by omega
                      have hkk : ¬ ((vn2 : Nat) : Int) < ((vn2 : Nat) : Int) := by omega
                      go_wp2_with fail
                      go_roundw
                      case rel => exact ⟨2, by omega, rfl, HE⟩
                      case measure => simp [intOf]
              · obtain rfl : t = 2 := by omega
                have y3 : wr.cell? ⟨Y, 3, none⟩ = some (.slice ia2 in2 ic2) := HJ.out.keep _ _ (cell_blkN HYB.out rfl) rfl
                have hl1 : in2 ≤ ic2 := HG4.out.2.1.kids.2.1
                have hl2 : ic2 ≤ 9223372036854775807 := HG4.out.2.1.kids.2.2.1
                go_wp2_with fail
                clear y3
                go_loopw [95] (fun vj W => ∃ m : Nat, m ≤ in2 ∧ vj = .int .i64 (m : Nat) ∧ Hid (Mut B W6 W)) (fun vj _ => in2 - (intOf vj).toNat)
                case atStart => exact ⟨0, Nat.zero_le _, rfl, HJ⟩
                case round =>
                  obtain ⟨m, hm, rfl, HF⟩ := hrel
                  by_cases hlt2 : m < in2
                  · obtain ⟨bb, bo, e9, hbz⟩ := kdW HG4.out.2.1 (B := B) (by omega) hlt2
                    obtain ⟨⟨z, hz⟩, hfz, hst⟩ := hbz wr (HM6.out.trans HF.out)
                    have HST : Hid (Mut B W6 (wr.setCell ⟨bb, bo + m, none⟩ (.int .i64 77))) := hide (HF.out.trans (hst 77))
                    have y3 : wr.cell? ⟨Y, 3, none⟩ = some (.slice (some ⟨bb, bo, none⟩) in2 ic2) := by
                      have h9 : wr.cell? ⟨Y, 3, none⟩ = some (.slice ia2 in2 ic2) := HF.out.keep _ _ (cell_blkN HYB.out rfl) rfl
                      dsimp only at e9
                      rw [h9, e9]
                    have hw2 : IntKind.i64.wrap ((m : Int) + 1) = (m : Int) + 1 := wrapN (by omega) (by omega)
                    have hi5 : (0 : Int) ≤ (m : Int) := by omega
                    have hi6 : (m : Int) < (in2 : Int) := by omega
                    clear hbz hst
                    go_wp2_with fail
                    go_roundw
                    case rel => exact ⟨m + 1, by omega, by simp, HST⟩
                    case measure => simp [intOf]; omega
                  · obtain rfl : in2 = m := by omega
                    have hkk : ¬ ((in2 : Nat) : Int) < ((in2 : Nat) : Int) := by omega
                    go_wp2_with fail
                    go_roundw
                    case rel => exact ⟨2, by omega, rfl, hide (HM56.out.trans HF.out)⟩
                    case measure => simp [intOf]
          · skip
            have z0 : wr.cell? ⟨X, 8, none⟩ = some (.bool lc) := HI.out.keep _ _ (cell_blkN HXB.out rfl) rfl
            have z1 : wr.cell? ⟨X, 9, none⟩ = some (.slice ka3 kn3 kc3) := HI.out.keep _ _ (cell_blkN HXB.out rfl) rfl
            have z2 : wr.cell? ⟨X, 10, none⟩ = some (.slice va3 vn3 vc3) := HI.out.keep _ _ (cell_blkN HXB.out rfl) rfl
            have z3 : wr.cell? ⟨X, 11, none⟩ = some (.slice ia3 in3 ic3) := HI.out.keep _ _ (cell_blkN HXB.out rfl) rfl
            obtain ⟨Y, hY⟩ : ∃ Y, Y = wr.heap.size := ⟨_, rfl⟩
            obtain ⟨W6, hW6⟩ : ∃ V, V = (wr.alloc (.cells #[.bool lc, .slice ka3 kn3 kc3, .slice va3 vn3 vc3, .slice ia3 in3 ic3] 25)).alloc (.cells #[.slice ka3 kn3 kc3, .slice va3 vn3 vc3] 22) := ⟨_, rfl⟩
            have HWB : Hid (B ≤ wr.heap.size) := hide (Nat.le_trans HBS.out (Nat.le_trans HM5.out.bel.size HI.out.bel.size))
            have HM56 : Hid (Mut B W5 W6) := hide (by rw [hW6]; exact (HI.out.trans (Mut.alloc HWB.out _)).trans (Mut.alloc (Nat.le_trans HWB.out (by simp)) _))
            have HM6 : Hid (Mut B V4 W6) := hide (HM5.out.trans HM56.out)
            have HYB : Hid (W6.heap[Y]? = some (.cells #[.bool lc, .slice ka3 kn3 kc3, .slice va3 vn3 vc3, .slice ia3 in3 ic3] 25 (0, 0))) := hide (by rw [hW6, hY, heap_al, heap_al, World.size_alloc, if_neg (by omega), if_pos rfl])
            have HZB : Hid (W6.heap[Y + 1]? = some (.cells #[.slice ka3 kn3 kc3, .slice va3 vn3 vc3] 22 (0, 0))) := hide (by rw [hW6, hY, heap_al, World.size_alloc, if_pos rfl])
            clear HI hlt hj
            go_wp2_with fail
            try rw [← hW6]
            try simp only [← hY]
            clear hW6 hY z0 z1 z2 z3
            go_loopw [68] (fun vj W => ∃ t : Nat, t ≤ 2 ∧ vj = .int .i64 (t : Nat) ∧ Hid (Mut B W6 W)) (fun vj _ => 2 - (intOf vj).toNat)
            case atStart => exact ⟨0, by omega, rfl, hide (Mut.refl _ _)⟩
            case round =>
              obtain ⟨t, ht, rfl, HJ⟩ := hrel
              by_cases hlt : t < 2
              · rcases (by omega : t = 0 ∨ t = 1) with rfl | rfl
                · skip
                  have zc : wr.cell? ⟨Y + 1, 0, none⟩ = some (.slice ka3 kn3 kc3) := HJ.out.keep _ _ (cell_blkN HZB.out rfl) rfl
                  have hl1 : kn3 ≤ kc3 := HG4.out.2.2.keys.is.2.1
                  have hl2 : kc3 ≤ 9223372036854775807 := HG4.out.2.2.keys.is.2.2.1
                  go_wp2_with fail
                  clear zc
                  go_loopw [74] (fun vj W => ∃ s : Nat, s ≤ kn3 ∧ vj = .int .i64 (s : Nat) ∧ Hid (Mut B W6 W)) (fun vj _ => kn3 - (intOf vj).toNat)
                  case atStart => exact ⟨0, Nat.zero_le _, rfl, HJ⟩
                  case round =>
                    obtain ⟨s, hs, rfl, HE⟩ := hrel
                    by_cases hlt : s < kn3
                    · obtain ⟨b, off, a', n', c', ea, hcell, hn1, hn2, hby⟩ := elW HG4.out.2.2.keys (B := B) (by omega) hlt
                      have HBY := hide hby
                      have z5 := hcell wr (HM6.out.trans HE.out)
                      have hw1 : IntKind.i64.wrap ((s : Int) + 1) = (s : Int) + 1 := wrapN (by omega) (by omega)
                      have hi4 : (0 : Int) ≤ (s : Int) := by omega
                      have hiI : (s : Int) < (kn3 : Int) := by omega
                      have hn3 : c' ≤ 9223372036854775807 := hn2
                      try dsimp only at ea
                      rw [ea]
                      clear hby hcell hn2
                      go_wp2_with fail
                      clear z5
                      go_loopw [80] (fun vj W => ∃ m : Nat, m ≤ n' ∧ vj = .int .i64 (m : Nat) ∧ Hid (Mut B W6 W)) (fun vj _ => n' - (intOf vj).toNat)
                      case atStart => exact ⟨0, Nat.zero_le _, rfl, HE⟩
                      case round =>
                        obtain ⟨m, hm, rfl, HF⟩ := hrel
                        by_cases hlt2 : m < n'
                        · obtain ⟨bb, bo, e9, hbz⟩ := HBY.out m hlt2
                          obtain ⟨⟨z, hz⟩, hfz, hst⟩ := hbz wr (HM6.out.trans HF.out)
                          have HST : Hid (∀ z', Mut B W6 (wr.setCell ⟨bb, bo + m, none⟩ (.int .u8 z'))) := hide (fun z' => HF.out.trans (hst z'))
                          have hw2 : IntKind.i64.wrap ((m : Int) + 1) = (m : Int) + 1 := wrapN (by omega) (by omega)
                          have hi5 : (0 : Int) ≤ (m : Int) := by omega
                          have hi6 : (m : Int) < (n' : Int) := by omega
                          rw [e9]
                          clear hbz hst
                          go_wp2_with fail
                          go_roundw
                          case rel => exact ⟨m + 1, by omega, by simp, hide (HST.out _)⟩
                          case measure => simp [intOf]; omega
                        · obtain rfl : n' = m := by omega
                          have hkk : ¬ ((n' : Nat) : Int) < ((n' : Nat) : Int) := by omega
                          go_wp2_with fail
                          go_roundw
                          case rel => exact ⟨s + 1, by omega, by simp, HF⟩
                          case measure => simp [intOf]; omega
                    · obtain rfl : kn3 = s := by omega
                      have hkk : ¬ ((kn3 : Nat) : Int) < ((kn3 : Nat) : Int) := by omega
                      go_wp2_with fail
                      go_roundw
                      case rel => exact ⟨1, by omega, rfl, HE⟩
                      case measure => simp [intOf]
                · skip
                  have zc : wr.cell? ⟨Y + 1, 1, none⟩ = some (.slice va3 vn3 vc3) := HJ.out.keep _ _ (cell_blkN HZB.out rfl) rfl
                  have hl1 : vn3 ≤ vc3 := HG4.out.2.2.vals.is.2.1
                  have hl2 : vc3 ≤ 9223372036854775807 := HG4.out.2.2.vals.is.2.2.1
                  go_wp2_with fail
                  clear zc
                  go_loopw [74] (fun vj W => ∃ s : Nat, s ≤ vn3 ∧ vj = .int .i64 (s : Nat) ∧ Hid (Mut B W6 W)) (fun vj _ => vn3 - (intOf vj).toNat)
                  case atStart => exact ⟨0, Nat.zero_le _, rfl, HJ⟩
                  case round =>
                    obtain ⟨s, hs, rfl, HE⟩ := hrel
                    by_cases hlt : s < vn3
                    · obtain ⟨b, off, a', n', c', ea, hcell, hn1, hn2, hby⟩ := elW HG4.out.2.2.vals (B := B) (by omega) hlt
                      have HBY := hide hby
                      have z5 := hcell wr (HM6.out.trans HE.out)
                      have hw1 : IntKind.i64.wrap ((s : Int) + 1) = (s : Int) + 1 := wrapN (by omega) (by omega)
                      have hi4 : (0 : Int) ≤ (s : Int) := by omega
                      have hiI : (s : Int) < (vn3 : Int) := by omega
                      have hn3 : c' ≤ 9223372036854775807 := hn2
                      try dsimp only at ea
                      rw [ea]
                      clear hby hcell hn2
                      go_wp2_with fail
                      clear z5
                      go_loopw [80] (fun vj W => ∃ m : Nat, m ≤ n' ∧ vj = .int .i64 (m : Nat) ∧ Hid (Mut B W6 W)) (fun vj _ => n' - (intOf vj).toNat)
                      case atStart => exact ⟨0, Nat.zero_le _, rfl, HE⟩
                      case round =>
                        obtain ⟨m, hm, rfl, HF⟩ := hrel
                        by_cases hlt2 : m < n'
                        · obtain ⟨bb, bo, e9, hbz⟩ := HBY.out m hlt2
                          obtain ⟨⟨z, hz⟩, hfz, hst⟩ := hbz wr (HM6.out.trans HF.out)
                          have HST : Hid (∀ z', Mut B W6 (wr.setCell ⟨bb, bo + m, none⟩ (.int .u8 z'))) := hide (fun z' => HF.out.trans (hst z'))
                          have hw2 : IntKind.i64.wrap ((m : Int) + 1) = (m : Int) + 1 := wrapN (by omega) (by omega)
                          have hi5 : (0 : Int) ≤ (m : Int) := by omega
                          have hi6 : (m : Int) < (n' : Int) := by omega
                          rw [e9]
                          clear hbz hst
                          go_wp2_with fail
                          go_roundw
                          case rel => exact ⟨m + 1, by omega, by simp, hide (HST.out _)⟩
                          case measure => simp [intOf]; omega
                        · obtain rfl : n' = m := by omega
                          have hkk : ¬ ((n' : Nat) : Int) < ((n' : Nat) : Int) := by omega
                          go_wp2_with fail
                          go_roundw
                          case rel => exact ⟨s + 1, by omega, by simp, HF⟩
                          case measure => simp [intOf]; omega
                    · obtain rfl : vn3 = s := by omega
                      have hkk : ¬ ((vn3 : Nat) : Int) < ((vn3 : Nat) : Int) := by omega
                      go_wp2_with fail
                      go_roundw
                      case rel => exact ⟨2, by omega, rfl, HE⟩
                      case measure => simp [intOf]
              · obtain rfl : t = 2 := by omega
                have y3 : wr.cell? ⟨Y, 3, none⟩ = some (.slice ia3 in3 ic3) := HJ.out.keep _ _ (cell_blkN HYB.out rfl) rfl
                have hl1 : in3 ≤ ic3 := HG4.out.2.2.kids.2.1
                have hl2 : ic3 ≤ 9223372036854775807 := HG4.out.2.2.kids.2.2.1
                go_wp2_with fail
                clear y3
                go_loopw [95] (fun vj W => ∃ m : Nat, m ≤ in3 ∧ vj = .int .i64 (m : Nat) ∧ Hid (Mut B W6 W)) (fun vj _ => in3 - (intOf vj).toNat)
                case atStart => exact ⟨0, Nat.zero_le _, rfl, HJ⟩
                case round =>
                  obtain ⟨m, hm, rfl, HF⟩ := hrel
                  by_cases hlt2 : m < in3
                  · obtain ⟨bb, bo, e9, hbz⟩ := kdW HG4.out.2.2 (B := B) (by omega) hlt2
                    obtain ⟨⟨z, hz⟩, hfz, hst⟩ := hbz wr (HM6.out.trans HF.out)
                    have HST : Hid (Mut B W6 (wr.setCell ⟨bb, bo + m, none⟩ (.int .i64 77))) := hide (HF.out.trans (hst 77))
                    have y3 : wr.cell? ⟨Y, 3, none⟩ = some (.slice (some ⟨bb, bo, none⟩) in3 ic3) := by
                      have h9 : wr.cell? ⟨Y, 3, none⟩ = some (.slice ia3 in3 ic3) := HF.out.keep _ _ (cell_blkN HYB.out rfl) rfl
                      dsimp only at e9
                      rw [h9, e9]
                    have hw2 : IntKind.i64.wrap ((m : Int) + 1) = (m : Int) + 1 := wrapN (by omega) (by omega)
                    have hi5 : (0 : Int) ≤ (m : Int) := by omega
                    have hi6 : (m : Int) < (in3 : Int) := by omega
                    clear hbz hst
                    go_wp2_with fail
                    go_roundw
                    case rel => exact ⟨m + 1, by omega, by simp, HST⟩
                    case measure => simp [intOf]; omega
                  · obtain rfl : in3 = m := by omega
                    have hkk : ¬ ((in3 : Nat) : Int) < ((in3 : Nat) : Int) := by omega
                    go_wp2_with fail
                    go_roundw
                    case rel => exact ⟨3, by omega, rfl, hide (HM56.out.trans HF.out)⟩
                    case measure => simp [intOf]
        · obtain rfl : j = 3 := by omega
          have HQF : Hid (Below V2.heap.size V2 wr) := hide (by
            have h1 := (HQ4.out.trans HM5.out.bel).trans HI.out.bel
            rw [← HBB.out]
            exact h1)
          have HXF := hide (HX2.out.below HQF.out)
          have HYF := hide (HY2.out.below HQF.out)
          have HBF : Hid (Below w.heap.size w wr) := hide (HB2.out.trans (HQF.out.mono HB2.out.size))
          have HSM := hide (same_at HLF.out wr HYF.out.is HXF.out.is)
          clear HI HM5 HXB HX2 HY2 HB2
          obtain ⟨q0, q1, q2, q3⟩ := BlkG.cells HYF.out.x
          obtain ⟨r0, r1, r2, r3⟩ := BlkG.cells HXF.out.x
          go_wp2_with fail
          clear q0 q1 q2 q3 r0 r1 r2 r3
          refine HSM.out.mono ?_
          rintro e w8 ⟨rfl, hb⟩
          have HB8 : Hid (Below w.heap.size w w8) := hide (HBF.out.trans (hb.mono HBF.out.size))
          have HY8 := hide (HYF.out.below hb)
          have HKC := hide (HKY.out v1 w8 HY8.out.is HFW1.out (HK.out.below HB8.out) (HV.out.below HB8.out))
          clear hb HSM HXF HYF HBF
          obtain ⟨q0, q1, q2, q3⟩ := BlkG.cells HY8.out.x
          go_wp2_with fail
          refine HKC.out.mono ?_
          rintro e w9 ⟨rfl, hb⟩
          have HB9 : Hid (Below w.heap.size w w9) := hide (HB8.out.trans (hb.mono HB8.out.size))
          clear hb HKC q0 q1 q2 q3
          go_wp2
          go_ret
          exact ⟨rfl, HB9.out⟩
end Go.Proofs.Ytebikoekpbnpbaa
