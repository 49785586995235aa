/- NodeThrice: the walk -/
import Derived.Test.YtebikoekpbnpbaaMH
import Derived.Test.YtebikoekpbnpbaaNV
namespace Go.Proofs.Ytebikoekpbnpbaa
open Go.RowKit Cod
set_option maxRecDepth 100000
set_option linter.unusedVariables false
set_option linter.unusedSimpArgs false
/-- what the walk keeps -/
structure ThA (w : World) (lf : Bool) (v va vb vc : Pv) (p a b c : Pg) (k l key : List Nat) (xa : Option Addr) (xc : Nat) (ya : Option Addr) (yc : Nat) (za : Option Addr) (zn zc : Nat) (A B : Nat) (W : World) : Prop where
  bel : Below w.heap.size w W
  x : BlkG W w.heap.size lf v
  ba : BlkG W A lf va
  bb : BlkG W B lf vb
  bc : BlkG W (B + 1) lf vc
  gp : IsG W v p
  ga : IsG W va a
  gb : IsG W vb b
  gc : IsG W vc c
  kb : IsB W xa k.length xc k
  lb : IsB W ya l.length yc l
  key : IsB W za zn zc key
theorem ThA.below {w W W' : World} {lf : Bool} {v va vb vc : Pv} {p a b c : Pg} {k l key : List Nat} {xa : Option Addr} {xc : Nat} {ya : Option Addr} {yc : Nat} {za : Option Addr} {zn zc : Nat} {A B : Nat} (h : ThA w lf v va vb vc p a b c k l key xa xc ya yc za zn zc A B W) (hb : Below W.heap.size W W') : ThA w lf v va vb vc p a b c k l key xa xc ya yc za zn zc A B W' :=
  ⟨h.bel.trans (hb.mono h.bel.size), (hb.block _ (heap_ltN h.x)).trans h.x, (hb.block _ (heap_ltN h.ba)).trans h.ba, (hb.block _ (heap_ltN h.bb)).trans h.bb, (hb.block _ (heap_ltN h.bc)).trans h.bc, h.gp.below hb, h.ga.below hb, h.gb.below hb, h.gc.below hb, h.kb.below hb, h.lb.below hb, h.key.below hb⟩
theorem splitE_Pg0 : splitE Pg0 = 2 := by
  unfold splitE
  have e : checkE Pg0 = 2 := by first | kernel_rfl | rfl
  rw [e]
  rfl
def anyT (a b c : Bool) : Nat → Bool
  | 0 => false
  | 1 => a
  | 2 => a || b
  | _ => a || b || c
theorem anyT_next {a b c : Bool} {j : Nat} (h : anyT a b c j = true) : anyT a b c (j + 1) = true := by
  rcases j with _ | _ | _ | j <;> cases a <;> cases b <;> cases c <;> simp_all [anyT]
theorem anyT_step0 {a b c : Bool} (h : anyT a b c 0 = false) : anyT a b c 1 = a := rfl
theorem anyT_step1 {a b c : Bool} (h : anyT a b c 1 = false) : anyT a b c 2 = b := by
  have h' : a = false := h
  rw [h']; rfl
theorem anyT_step2 {a b c : Bool} (h : anyT a b c 2 = false) : anyT a b c 3 = c := by
  have h' : (a || b) = false := h
  show (a || b || c) = c
  rw [h']; rfl
set_option maxHeartbeats 8000000 in
theorem thrice_no (v : Pv) (p : Pg) (za : Option Addr) (zn zc : Nat) (key : List Nat) (w : World) (h : IsG w v p) (hc : FewP v) (hk : IsB w za zn zc key) (hE : ¬ splitE p = 0) :
    Calls Try.prog 11 #[.agg (pgc p.leaf v), .slice za zn zc] w fun e w' => e = .returned (.bool true) ∧ Below w.heap.size w w' := by
  obtain ⟨V0, hV0⟩ : ∃ V0, V0 = w.alloc (.cells (pgc p.leaf v) 25) := ⟨_, rfl⟩
  have HB0 : Hid (Below w.heap.size w V0) := hide (by rw [hV0]; exact (Below.refl _ w).alloc (Nat.le_refl _) _)
  have HX0 : Hid (V0.heap[w.heap.size]? = some (.cells (pgc p.leaf v) 25 (0, 0))) := hide (by rw [hV0, heap_alloc_new])
  have HP0 := hide (fun (W : World) (hW : Below w.heap.size w W) => split_no v p W (h.below hW) hc hE)
  have HG := hide h
  have HKEY := hide hk
  have HE := hide hE
  clear h hc hE hk
  obtain ⟨lf, hlf⟩ : ∃ lf, lf = p.leaf := ⟨_, rfl⟩
  rw [← hlf] at HX0 hV0 HP0 ⊢
  have HLF := hide hlf
  clear hlf
  go_enter Try.func11, Try.ntmps11
  go_wp2_with fail
  rw [← hV0]
  clear hV0
  refine (lives_any V0).mono ?_
  rintro e w1 ⟨rfl, hb1⟩
  have HB1 : Hid (Below w.heap.size w w1) := hide (HB0.out.trans (hb1.mono HB0.out.size))
  have HX1 : Hid (w1.heap[w.heap.size]? = some (.cells (pgc lf v) 25 (0, 0))) := hide ((hb1.block _ (heap_ltN HX0.out)).trans HX0.out)
  have HP := hide (HP0.out w1 HB1.out)
  clear HP0 hb1 HX0 HB0
  obtain ⟨q0, q1, q2, q3⟩ := BlkG.cells HX1.out
  go_wp2_with fail
  refine HP.out.mono ?_
  rintro e w2 ⟨rfl, hb2⟩
  obtain ⟨V2, hV2⟩ : ∃ V2, V2 = (w2.alloc (.cells (pgc false Pv0) 25)).alloc (.cells (pgc false Pv0) 25) := ⟨_, rfl⟩
  have HB2 : Hid (Below w.heap.size w V2) := hide (by rw [hV2]; have := HB1.out.trans (hb2.mono HB1.out.size); exact (this.alloc this.size _).alloc (Nat.le_trans this.size (by simp)) _)
  have HS2 := hide (split_no Pv0 Pg0 V2 (isG_0 V2) (by unfold FewP Pv0; decide) (by rw [splitE_Pg0]; decide))
  rw [splitE_Pg0] at HS2
  generalize splitE p = E at *
  have hc1 : (E == (0 : Int)) = false := by simpa using HE.out
  have hc2 : (E != (0 : Int)) = true := by simpa using HE.out
  clear q0 q1 q2 q3 hb2 HP
  go_wp2_with fail
  rw [← hV2]
  clear hV2
  refine HS2.out.mono ?_
  rintro e w3 ⟨rfl, hb3⟩
  have HBF : Hid (Below w.heap.size w ((w3.alloc (.cells (pgc false Pv0) 25)).alloc (.cells (pgc false Pv0) 25))) := hide (by have := HB2.out.trans (hb3.mono HB2.out.size); exact (this.alloc this.size _).alloc (Nat.le_trans this.size (by simp)) _)
  clear hb3
  go_wp2
  go_ret
  exact ⟨rfl, HBF.out⟩
set_option maxHeartbeats 8000000 in
theorem thrice_yes (v : Pv) (p : Pg) (za : Option Addr) (zn zc : Nat) (key : List Nat) (w : World) (h : IsG w v p) (hc : FewP v) (hk : IsB w za zn zc key) (hE : splitE p = 0) :
    Calls Try.prog 11 #[.agg (pgc p.leaf v), .slice za zn zc] w fun e w' => e = .returned (.bool true) ∧ Below w.heap.size w w' := by
  obtain ⟨V0, hV0⟩ : ∃ V0, V0 = w.alloc (.cells (pgc p.leaf v) 25) := ⟨_, rfl⟩
  have HB0 : Hid (Below w.heap.size w V0) := hide (by rw [hV0]; exact (Below.refl _ w).alloc (Nat.le_refl _) _)
  have HX0 : Hid (V0.heap[w.heap.size]? = some (.cells (pgc p.leaf v) 25 (0, 0))) := hide (by rw [hV0, heap_alloc_new])
  have HP0 := hide (fun (W : World) (hW : Below w.heap.size w W) => split_yes v p W (h.below hW) hc hE)
  have HG := hide h
  have HKEY := hide hk
  have HE := hide hE
  clear h hc hE hk
  obtain ⟨lf, hlf⟩ : ∃ lf, lf = p.leaf := ⟨_, rfl⟩
  rw [← hlf] at HX0 hV0 HP0 ⊢
  have HLF := hide hlf
  clear hlf
  go_enter Try.func11, Try.ntmps11
  go_wp2_with fail
  rw [← hV0]
  clear hV0
  refine (lives_any V0).mono ?_
  rintro e w1 ⟨rfl, hb1⟩
  have HB1 : Hid (Below w.heap.size w w1) := hide (HB0.out.trans (hb1.mono HB0.out.size))
  have HX1 : Hid (w1.heap[w.heap.size]? = some (.cells (pgc lf v) 25 (0, 0))) := hide ((hb1.block _ (heap_ltN HX0.out)).trans HX0.out)
  have HP := hide (HP0.out w1 HB1.out)
  clear HP0 hb1 HX0 HB0
  obtain ⟨q0, q1, q2, q3⟩ := BlkG.cells HX1.out
  go_wp2_with fail
  refine HP.out.mono ?_
  rintro e w2 ⟨m, v1, v2, xa, xc, rfl, hs, n1, n2, hkB, hkF, hb2⟩
  have HCP := hide (splitE_0 HE.out).1
  have HSA := hide hs
  obtain ⟨r, hr⟩ : ∃ r, r = partP p (m + offP p) p.keys.length := ⟨_, rfl⟩
  have HR := hide hr
  rw [← hr] at n2
  have HRL : Hid (lf = r.leaf) := hide (by rw [hr, part_leaf]; exact HLF.out)
  have HRC : Hid (checkE r = 0) := hide (by rw [hr]; exact part_check HCP.out hs.2 (Nat.le_refl _))
  obtain ⟨A, hA⟩ : ∃ A, A = w2.heap.size := ⟨_, rfl⟩
  obtain ⟨V2, hV2⟩ : ∃ V2, V2 = (w2.alloc (.cells (pgc lf v1) 25)).alloc (.cells (pgc lf v2) 25) := ⟨_, rfl⟩
  have hbv : Below w2.heap.size w2 V2 := by rw [hV2]; exact ((Below.refl _ w2).alloc (Nat.le_refl _) _).alloc (by simp) _
  have hb12 : Below w.heap.size w w2 := HB1.out.trans (hb2.mono HB1.out.size)
  have HB2 : Hid (Below w.heap.size w V2) := hide (hb12.trans (hbv.mono hb12.size))
  have HX2 : Hid (BlkG V2 w.heap.size lf v) := hide ((hbv.block _ (Nat.lt_of_lt_of_le (heap_ltN HX1.out) hb2.size)).trans ((hb2.block _ (heap_ltN HX1.out)).trans HX1.out))
  have HY2 : Hid (BlkG V2 A lf v1) := hide (by show V2.heap[A]? = _; rw [hV2, hA, heap_al, heap_al, World.size_alloc, if_neg (by omega), if_pos rfl])
  have HGA := hide (n1.is.below hbv)
  have HGR := hide (n2.is.below hbv)
  have HKB := hide (hkB.below hbv)
  clear q0 q1 q2 q3 hb2 HP n1 n2 hkB hkF hs hbv hb12 HX1 HB1 hr
  obtain ⟨k, hkd⟩ : ∃ k, k = p.keys.getD m [] := ⟨_, rfl⟩
  rw [← hkd] at HKB ⊢
  have HKD := hide hkd
  clear hkd
  by_cases hE2 : splitE r = 0
  case neg =>
    have HSR := hide (split_no v2 r V2 HGR.out (few_of HGR.out HRC.out) hE2)
    rw [← HRL.out] at HSR
    generalize splitE r = E at *
    have hc1 : (E == (0 : Int)) = false := by simpa using hE2
    have hc2 : (E != (0 : Int)) = true := by simpa using hE2
    go_wp2_with fail
    try rw [← hV2]
    try rw [← hA]
    clear hV2 hA
    refine HSR.out.mono ?_
    rintro e w3 ⟨rfl, hb3⟩
    have HBF : Hid (Below w.heap.size w ((w3.alloc (.cells (pgc false Pv0) 25)).alloc (.cells (pgc false Pv0) 25))) := hide (by have := HB2.out.trans (hb3.mono HB2.out.size); exact (this.alloc this.size _).alloc (Nat.le_trans this.size (by simp)) _)
    clear hb3
    go_wp2
    go_ret
    exact ⟨rfl, HBF.out⟩
  case pos =>
  have HSR := hide (split_yes v2 r V2 HGR.out (few_of HGR.out HRC.out) hE2)
  rw [← HRL.out] at HSR
  clear hE2
  go_wp2_with fail
  try rw [← hV2]
  try rw [← hA]
  clear hV2 hA
  refine HSR.out.mono ?_
  rintro e w3 ⟨m2, vb, vc, ya, yc, rfl, hs2, nb, nc, hlB, hlF, hb3⟩
  have HTH : Hid (Thirds p (partP p 0 m) (partP r 0 m2) (partP r (m2 + offP r) r.keys.length) k (r.keys.getD m2 []) (partP p 0 (m + offP p + m2))) := hide (by
    have h1 := HR.out
    have h2 := hs2
    rw [h1] at h2 ⊢
    rw [HKD.out]
    exact thirds HCP.out HSA.out h2)
  generalize partP p 0 (m + offP p + m2) = x at *
  generalize partP p 0 m = a at *
  generalize partP r 0 m2 = b at *
  generalize partP r (m2 + offP r) r.keys.length = c at *
  generalize r.keys.getD m2 [] = l at *
  obtain ⟨B, hB⟩ : ∃ B, B = w3.heap.size := ⟨_, rfl⟩
  obtain ⟨V3, hV3⟩ : ∃ V3, V3 = (w3.alloc (.cells (pgc lf vb) 25)).alloc (.cells (pgc lf vc) 25) := ⟨_, rfl⟩
  have hbv : Below w3.heap.size w3 V3 := by rw [hV3]; exact ((Below.refl _ w3).alloc (Nat.le_refl _) _).alloc (by simp) _
  have hb23 : Below V2.heap.size V2 V3 := hb3.trans (hbv.mono hb3.size)
  have HT : Hid (ThA w lf v v1 vb vc p a b c k l key xa xc ya yc za zn zc A B V3) := hide ⟨HB2.out.trans (hb23.mono HB2.out.size), (hb23.block _ (heap_ltN HX2.out)).trans HX2.out, (hb23.block _ (heap_ltN HY2.out)).trans HY2.out,
    (by show V3.heap[B]? = _; rw [hV3, hB, heap_al, heap_al, World.size_alloc, if_neg (by omega), if_pos rfl]), (by show V3.heap[B + 1]? = _; rw [hV3, hB, heap_al, World.size_alloc, if_pos rfl]),
    HG.out.below (HB2.out.trans (hb23.mono HB2.out.size)), HGA.out.below hb23, nb.is.below hbv, nc.is.below hbv, HKB.out.below hb23, hlB.below hbv, HKEY.out.below (HB2.out.trans (hb23.mono HB2.out.size))⟩
  clear hb3 hbv hb23 nb nc hlB hlF hs2 HSR HB2 HX2 HY2 HGA HGR HKB HG HKEY HSA HR HRL HRC HKD HE
  have HLA : Hid (a.leaf = lf ∧ b.leaf = lf ∧ c.leaf = lf ∧ x.leaf = lf) := hide ⟨HTH.out.la.trans HLF.out.symm, HTH.out.lb.trans HLF.out.symm, HTH.out.lc.trans HLF.out.symm, HTH.out.lx.trans HLF.out.symm⟩
  have HM1 := hide (merge_yes v1 a vb b xa k.length xc k V3 HT.out.ga HT.out.gb HT.out.kb HTH.out.ca HTH.out.cb lf HLA.out.1 HLA.out.2.1 HTH.out.kl HTH.out.m1 HTH.out.cx)
  obtain ⟨q0, q1, q2, q3⟩ := BlkG.cells HT.out.ba
  obtain ⟨r0, r1, r2, r3⟩ := BlkG.cells HT.out.bb
  rw [hV3] at q0 q1 q2 q3
  rw [hV3, hB] at r0 r1 r2 r3
  go_wp2_with fail
  rw [← hV3]
  try rw [← hB]
  clear hV3 q0 q1 q2 q3 r0 r1 r2 r3 hB
  refine HM1.out.mono ?_
  rintro e w5 ⟨v5, rfl, n5, hb5⟩
  have HT5 := hide (HT.out.below hb5)
  obtain ⟨D, hD⟩ : ∃ D, D = w5.heap.size := ⟨_, rfl⟩
  obtain ⟨V5, hV5⟩ : ∃ V5, V5 = w5.alloc (.cells (pgc lf v5) 25) := ⟨_, rfl⟩
  have hbv : Below w5.heap.size w5 V5 := by rw [hV5]; exact (Below.refl _ w5).alloc (Nat.le_refl _) _
  have HBV5 := hide hbv
  have HS5 : Hid (V5.heap.size = w5.heap.size + 1) := hide (by rw [hV5, World.size_alloc])
  have HD5 : Hid (V5.heap[D]? = some (.cells #[.bool lf, .slice v5.ka v5.kn v5.kc, .slice v5.va v5.vn v5.vc, .slice v5.ia v5.inn v5.ic] 25 (0, 0))) := hide (by rw [hV5, hD, heap_alloc_new])
  have HV5T := hide (HT5.out.below hbv)
  have HM2 := hide (merge_yes v5 x vc c ya l.length yc l V5 (n5.is.below hbv) HV5T.out.gc HV5T.out.lb HTH.out.cx HTH.out.cc lf HLA.out.2.2.2 HLA.out.2.2.1 HTH.out.ll HTH.out.m2 HCP.out)
  clear n5 hb5 hbv HM1 HT
  obtain ⟨q0, q1, q2, q3⟩ := BlkG.cells HV5T.out.bc
  rw [hV5] at q0 q1 q2 q3
  go_wp2_with fail
  rw [← hV5]
  try rw [← hD]
  clear hV5 q0 q1 q2 q3
  refine HM2.out.mono ?_
  rintro e w6 ⟨⟨k6, n6, c6, d6, m6, e6, i6, j6, l6⟩, rfl, hn6, hb6⟩
  have HD6 : Hid (w6.heap[D]? = some (.cells #[.bool lf, .slice v5.ka v5.kn v5.kc, .slice v5.va v5.vn v5.vc, .slice v5.ia v5.inn v5.ic] 25 (0, 0))) := hide ((hb6.block _ (heap_ltN HD5.out)).trans HD5.out)
  obtain ⟨W6, hW6⟩ : ∃ W6, W6 = ((((w6.setCell ⟨D, 0, none⟩ (.bool lf)).setCell ⟨D, 1, none⟩ (.slice k6 n6 c6)).setCell ⟨D, 2, none⟩ (.slice d6 m6 e6)).setCell ⟨D, 3, none⟩ (.slice i6 j6 l6)) := ⟨_, rfl⟩
  have hb56 : Below w5.heap.size w5 W6 := by
    rw [hW6]
    exact below4 (HBV5.out.trans (hb6.mono HBV5.out.size)) (by rw [hD]; exact Nat.le_refl _) _ _ _ _
  have HT6 := hide (HT5.out.below hb56)
  have HX6 : Hid (BlkG W6 D lf ⟨k6, n6, c6, d6, m6, e6, i6, j6, l6⟩) := hide (by rw [hW6]; exact blk4 HD6.out _ _ _ _)
  have HGQ : Hid (IsG W6 ⟨k6, n6, c6, d6, m6, e6, i6, j6, l6⟩ p) := hide (by
    rw [hW6]
    exact (hn6.set4 (by rw [HS5.out, hD]; omega) _ _ _ _).is)
  have HSM := hide (same_eq ⟨k6, n6, c6, d6, m6, e6, i6, j6, l6⟩ v p W6 HGQ.out HT6.out.gp)
  rw [← HLF.out] at HSM
  have z0 : w6.cell? ⟨D, 0, none⟩ = some (.bool lf) := cell_blkN HD6.out rfl
  have z1 : w6.cell? ⟨D, 1, none⟩ = some (.slice v5.ka v5.kn v5.kc) := cell_blkN HD6.out rfl
  have z2 : w6.cell? ⟨D, 2, none⟩ = some (.slice v5.va v5.vn v5.vc) := cell_blkN HD6.out rfl
  have z3 : w6.cell? ⟨D, 3, none⟩ = some (.slice v5.ia v5.inn v5.ic) := cell_blkN HD6.out rfl
  have f0 := frzN HD6.out 0
  have f1 := frzN HD6.out 1
  have f2 := frzN HD6.out 2
  have f3 := frzN HD6.out 3
  obtain ⟨q0, q1, q2, q3⟩ := BlkG.cells HX6.out
  obtain ⟨r0, r1, r2, r3⟩ := BlkG.cells HT6.out.x
  rw [hW6] at q0 q1 q2 q3 r0 r1 r2 r3
  clear hb6 hb56 hn6 HM2 HBV5 HS5 HD5 HV5T HT5 hD
  try dsimp only at q0 q1 q2 q3
  go_wp2_with fail
  rw [← hW6]
  clear hW6 z0 z1 z2 z3 f0 f1 f2 f3 q0 q1 q2 q3 r0 r1 r2 r3 HD6
  refine HSM.out.mono ?_
  rintro e w7 ⟨rfl, hb7⟩
  have HT7 := hide (HT6.out.below hb7)
  clear hb7 HSM HX6 HGQ HT6
  obtain ⟨r0, r1, r2, r3⟩ := BlkG.cells HT7.out.x
  cases lf with
  | false =>
    go_wp2
    go_ret
    exact ⟨rfl, HT7.out.bel⟩
  | true =>
    have HAS := hide (HTH.out.has HLF.out.symm key)
    have HF0 := hide (find_yes v p za zn zc key w7 HT7.out.gp (few_of HT7.out.gp HCP.out) HT7.out.key (find_leaf HCP.out HLF.out.symm key) HLF.out.symm)
    have HFP : Hid (∀ W, Below w7.heap.size w7 W → (∀ (q : Pg) (u : Pv), IsG W u q → checkE q = 0 → q.leaf = true → Calls Try.prog 23 #[.agg (pgc true u), .slice za zn zc] W fun e w' => e = .returned (.tuple #[.int .i64 (lowK q.keys key : Nat), .bool (hasK q.keys key), .int .i64 0]) ∧ Below W.heap.size W w')) := hide (fun W hW q u hq hc hl => find_yes u q za zn zc key W hq (few_of hq hc) (HT7.out.key.below hW) (find_leaf hc hl key) hl)
    generalize lowK p.keys key = n0 at *
    generalize hasK p.keys key = y0 at *
    go_wp2_with fail
    refine HF0.out.mono ?_
    rintro e w8 ⟨rfl, hb8⟩
    have HT8 := hide (HT7.out.below hb8)
    have HB78 := hide hb8
    clear hb8 HF0 r0 r1 r2 r3
    obtain ⟨a0, a1, a2, a3⟩ := BlkG.cells HT8.out.ba
    obtain ⟨b0, b1, b2, b3⟩ := BlkG.cells HT8.out.bb
    obtain ⟨c0, c1, c2, c3⟩ := BlkG.cells HT8.out.bc
    obtain ⟨V8, hV8⟩ : ∃ V8, V8 = w8.alloc (.cells #[.bool true, .slice v1.ka v1.kn v1.kc, .slice v1.va v1.vn v1.vc, .slice v1.ia v1.inn v1.ic, .bool true, .slice vb.ka vb.kn vb.kc, .slice vb.va vb.vn vb.vc, .slice vb.ia vb.inn vb.ic, .bool true, .slice vc.ka vc.kn vc.kc, .slice vc.va vc.vn vc.vc, .slice vc.ia vc.inn vc.ic] 25) := ⟨_, rfl⟩
    have HB8 : Hid (Below w8.heap.size w8 V8) := hide (by rw [hV8]; exact (Below.refl _ _).alloc (Nat.le_refl _) _)
    have HR8 : Hid (V8.heap[w8.heap.size]? = some (.cells #[.bool true, .slice v1.ka v1.kn v1.kc, .slice v1.va v1.vn v1.vc, .slice v1.ia v1.inn v1.ic, .bool true, .slice vb.ka vb.kn vb.kc, .slice vb.va vb.vn vb.vc, .slice vb.ia vb.inn vb.ic, .bool true, .slice vc.ka vc.kn vc.kc, .slice vc.va vc.vn vc.vc, .slice vc.ia vc.inn vc.ic] 25 (0, 0))) := hide (by rw [hV8]; exact heap_alloc_new _ _)
    obtain ⟨R, hR⟩ : ∃ R, R = w8.heap.size := ⟨_, rfl⟩
    go_wp2_with fail
    rw [← hV8, ← hR]
    rw [← hR] at HR8
    have HL8 : Hid (ThA w true v v1 vb vc p a b c k l key xa xc ya yc za zn zc A B V8 ∧ Below w7.heap.size w7 V8 ∧ V8.heap[R]? = some (.cells #[.bool true, .slice v1.ka v1.kn v1.kc, .slice v1.va v1.vn v1.vc, .slice v1.ia v1.inn v1.ic, .bool true, .slice vb.ka vb.kn vb.kc, .slice vb.va vb.vn vb.vc, .slice vb.ia vb.inn vb.ic, .bool true, .slice vc.ka vc.kn vc.kc, .slice vc.va vc.vn vc.vc, .slice vc.ia vc.inn vc.ic] 25 (0, 0))) := hide ⟨HT8.out.below HB8.out, HB78.out.trans (HB8.out.mono HB78.out.size), HR8.out⟩
    have HLV : Hid (a.leaf = true ∧ b.leaf = true ∧ c.leaf = true) := hide ⟨HLA.out.1, HLA.out.2.1, HLA.out.2.2.1⟩
    clear hV8 hR a0 a1 a2 a3 b0 b1 b2 b3 c0 c1 c2 c3 HT8 HT7 HB8 HR8 HB78
    obtain ⟨sa, hsa⟩ : ∃ s, s = hasK a.keys key := ⟨_, rfl⟩
    obtain ⟨sb, hsb⟩ : ∃ s, s = hasK b.keys key := ⟨_, rfl⟩
    obtain ⟨sc, hsc⟩ : ∃ s, s = hasK c.keys key := ⟨_, rfl⟩
    have HSS := hide (And.intro hsa (And.intro hsb hsc))
    rw [← hsa, ← hsb, ← hsc] at HAS
    clear hsa hsb hsc
    go_loopw [19, 88] (fun s i W => ∃ j : Nat, j ≤ 3 ∧ i = .int .i64 (j : Nat) ∧ s = .bool (anyT sa sb sc j) ∧ Hid ((ThA w true v v1 vb vc p a b c k l key xa xc ya yc za zn zc A B W) ∧ Below w7.heap.size w7 W ∧ W.heap[R]? = some (.cells #[.bool true, .slice v1.ka v1.kn v1.kc, .slice v1.va v1.vn v1.vc, .slice v1.ia v1.inn v1.ic, .bool true, .slice vb.ka vb.kn vb.kc, .slice vb.va vb.vn vb.vc, .slice vb.ia vb.inn vb.ic, .bool true, .slice vc.ka vc.kn vc.kc, .slice vc.va vc.vn vc.vc, .slice vc.ia vc.inn vc.ic] 25 (0, 0)))) (fun _ i _ => 3 - (intOf i).toNat)
    case atStart => exact ⟨0, by omega, rfl, rfl, HL8⟩
    case round =>
      obtain ⟨j, hj, rfl, rfl, HI⟩ := hrel
      by_cases hlt : j < 3
      · rcases (by omega : j = 0 ∨ j = 1 ∨ j = 2) with rfl | rfl | rfl
        · have z0 : wr.cell? ⟨R, 0, none⟩ = some (.bool true) := cell_blkN HI.out.2.2 rfl
          have z1 : wr.cell? ⟨R, 1, none⟩ = some (.slice v1.ka v1.kn v1.kc) := cell_blkN HI.out.2.2 rfl
          have z2 : wr.cell? ⟨R, 2, none⟩ = some (.slice v1.va v1.vn v1.vc) := cell_blkN HI.out.2.2 rfl
          have z3 : wr.cell? ⟨R, 3, none⟩ = some (.slice v1.ia v1.inn v1.ic) := cell_blkN HI.out.2.2 rfl
          obtain ⟨V9, hV9⟩ : ∃ V9, V9 = wr.alloc (.cells #[.bool true, .slice v1.ka v1.kn v1.kc, .slice v1.va v1.vn v1.vc, .slice v1.ia v1.inn v1.ic] 25) := ⟨_, rfl⟩
          have hbv : Below wr.heap.size wr V9 := by rw [hV9]; exact (Below.refl _ _).alloc (Nat.le_refl _) _
          have HF := hide (HFP.out V9 (HI.out.2.1.trans (hbv.mono HI.out.2.1.size)) a v1 ((HI.out.1.below hbv).ga) HTH.out.ca HLV.out.1)
          rw [← HSS.out.1] at HF
          have HBV := hide hbv
          clear hbv
          obtain ⟨sp, hsp⟩ : ∃ sp, sp = anyT sa sb sc 0 := ⟨_, rfl⟩
          have HSP := hide hsp
          rw [← hsp]
          clear hsp
          go_wp2_with fail
          rw [← hV9]
          clear hV9 z0 z1 z2 z3
          refine HF.out.mono ?_
          rintro e w9 ⟨rfl, hb9⟩
          have HN : Hid (ThA w true v v1 vb vc p a b c k l key xa xc ya yc za zn zc A B w9 ∧ Below w7.heap.size w7 w9 ∧ w9.heap[R]? = some (.cells #[.bool true, .slice v1.ka v1.kn v1.kc, .slice v1.va v1.vn v1.vc, .slice v1.ia v1.inn v1.ic, .bool true, .slice vb.ka vb.kn vb.kc, .slice vb.va vb.vn vb.vc, .slice vb.ia vb.inn vb.ic, .bool true, .slice vc.ka vc.kn vc.kc, .slice vc.va vc.vn vc.vc, .slice vc.ia vc.inn vc.ic] 25 (0, 0))) := hide (by
            have hb := HBV.out.trans (hb9.mono HBV.out.size)
            exact ⟨HI.out.1.below hb, HI.out.2.1.trans (hb.mono HI.out.2.1.size), (hb.block _ (heap_ltN HI.out.2.2)).trans HI.out.2.2⟩)
          clear hb9 HBV HF
          cases sp with
          | true =>
            go_wp2
            go_roundw
            case rel => exact ⟨1, by omega, by simp, by rw [anyT_next HSP.out.symm], HN⟩
            case measure => simp [intOf]
          | false =>
            go_wp2
            go_roundw
            case rel => exact ⟨1, by omega, by simp, by rw [anyT_step0 HSP.out.symm], HN⟩
            case measure => simp [intOf]
        · have z0 : wr.cell? ⟨R, 4, none⟩ = some (.bool true) := cell_blkN HI.out.2.2 rfl
          have z1 : wr.cell? ⟨R, 5, none⟩ = some (.slice vb.ka vb.kn vb.kc) := cell_blkN HI.out.2.2 rfl
          have z2 : wr.cell? ⟨R, 6, none⟩ = some (.slice vb.va vb.vn vb.vc) := cell_blkN HI.out.2.2 rfl
          have z3 : wr.cell? ⟨R, 7, none⟩ = some (.slice vb.ia vb.inn vb.ic) := cell_blkN HI.out.2.2 rfl
          obtain ⟨V9, hV9⟩ : ∃ V9, V9 = wr.alloc (.cells #[.bool true, .slice vb.ka vb.kn vb.kc, .slice vb.va vb.vn vb.vc, .slice vb.ia vb.inn vb.ic] 25) := ⟨_, rfl⟩
          have hbv : Below wr.heap.size wr V9 := by rw [hV9]; exact (Below.refl _ _).alloc (Nat.le_refl _) _
          have HF := hide (HFP.out V9 (HI.out.2.1.trans (hbv.mono HI.out.2.1.size)) b vb ((HI.out.1.below hbv).gb) HTH.out.cb HLV.out.2.1)
          rw [← HSS.out.2.1] at HF
          have HBV := hide hbv
          clear hbv
          obtain ⟨sp, hsp⟩ : ∃ sp, sp = anyT sa sb sc 1 := ⟨_, rfl⟩
          have HSP := hide hsp
          rw [← hsp]
          clear hsp
          go_wp2_with fail
          rw [← hV9]
          clear hV9 z0 z1 z2 z3
          refine HF.out.mono ?_
          rintro e w9 ⟨rfl, hb9⟩
          have HN : Hid (ThA w true v v1 vb vc p a b c k l key xa xc ya yc za zn zc A B w9 ∧ Below w7.heap.size w7 w9 ∧ w9.heap[R]? = some (.cells #[.bool true, .slice v1.ka v1.kn v1.kc, .slice v1.va v1.vn v1.vc, .slice v1.ia v1.inn v1.ic, .bool true, .slice vb.ka vb.kn vb.kc, .slice vb.va vb.vn vb.vc, .slice vb.ia vb.inn vb.ic, .bool true, .slice vc.ka vc.kn vc.kc, .slice vc.va vc.vn vc.vc, .slice vc.ia vc.inn vc.ic] 25 (0, 0))) := hide (by
            have hb := HBV.out.trans (hb9.mono HBV.out.size)
            exact ⟨HI.out.1.below hb, HI.out.2.1.trans (hb.mono HI.out.2.1.size), (hb.block _ (heap_ltN HI.out.2.2)).trans HI.out.2.2⟩)
          clear hb9 HBV HF
          cases sp with
          | true =>
            go_wp2
            go_roundw
            case rel => exact ⟨2, by omega, by simp, by rw [anyT_next HSP.out.symm], HN⟩
            case measure => simp [intOf]
          | false =>
            go_wp2
            go_roundw
            case rel => exact ⟨2, by omega, by simp, by rw [anyT_step1 HSP.out.symm], HN⟩
            case measure => simp [intOf]
        · have z0 : wr.cell? ⟨R, 8, none⟩ = some (.bool true) := cell_blkN HI.out.2.2 rfl
          have z1 : wr.cell? ⟨R, 9, none⟩ = some (.slice vc.ka vc.kn vc.kc) := cell_blkN HI.out.2.2 rfl
          have z2 : wr.cell? ⟨R, 10, none⟩ = some (.slice vc.va vc.vn vc.vc) := cell_blkN HI.out.2.2 rfl
          have z3 : wr.cell? ⟨R, 11, none⟩ = some (.slice vc.ia vc.inn vc.ic) := cell_blkN HI.out.2.2 rfl
          obtain ⟨V9, hV9⟩ : ∃ V9, V9 = wr.alloc (.cells #[.bool true, .slice vc.ka vc.kn vc.kc, .slice vc.va vc.vn vc.vc, .slice vc.ia vc.inn vc.ic] 25) := ⟨_, rfl⟩
          have hbv : Below wr.heap.size wr V9 := by rw [hV9]; exact (Below.refl _ _).alloc (Nat.le_refl _) _
          have HF := hide (HFP.out V9 (HI.out.2.1.trans (hbv.mono HI.out.2.1.size)) c vc ((HI.out.1.below hbv).gc) HTH.out.cc HLV.out.2.2)
          rw [← HSS.out.2.2] at HF
          have HBV := hide hbv
          clear hbv
          obtain ⟨sp, hsp⟩ : ∃ sp, sp = anyT sa sb sc 2 := ⟨_, rfl⟩
          have HSP := hide hsp
          rw [← hsp]
          clear hsp
          go_wp2_with fail
          rw [← hV9]
          clear hV9 z0 z1 z2 z3
          refine HF.out.mono ?_
          rintro e w9 ⟨rfl, hb9⟩
          have HN : Hid (ThA w true v v1 vb vc p a b c k l key xa xc ya yc za zn zc A B w9 ∧ Below w7.heap.size w7 w9 ∧ w9.heap[R]? = some (.cells #[.bool true, .slice v1.ka v1.kn v1.kc, .slice v1.va v1.vn v1.vc, .slice v1.ia v1.inn v1.ic, .bool true, .slice vb.ka vb.kn vb.kc, .slice vb.va vb.vn vb.vc, .slice vb.ia vb.inn vb.ic, .bool true, .slice vc.ka vc.kn vc.kc, .slice vc.va vc.vn vc.vc, .slice vc.ia vc.inn vc.ic] 25 (0, 0))) := hide (by
            have hb := HBV.out.trans (hb9.mono HBV.out.size)
            exact ⟨HI.out.1.below hb, HI.out.2.1.trans (hb.mono HI.out.2.1.size), (hb.block _ (heap_ltN HI.out.2.2)).trans HI.out.2.2⟩)
          clear hb9 HBV HF
          cases sp with
          | true =>
            go_wp2
            go_roundw
            case rel => exact ⟨3, by omega, by simp, by rw [anyT_next HSP.out.symm], HN⟩
            case measure => simp [intOf]
          | false =>
            go_wp2
            go_roundw
            case rel => exact ⟨3, by omega, by simp, by rw [anyT_step2 HSP.out.symm], HN⟩
            case measure => simp [intOf]
      · obtain rfl : j = 3 := by omega
        have hye : (y0 == anyT sa sb sc 3) = true := by rw [HAS.out]; simp [anyT]
        go_wp2
        go_ret
        exact ⟨rfl, HI.out.1.bel⟩
theorem thrice_any (v : Pv) (p : Pg) (za : Option Addr) (zn zc : Nat) (key : List Nat) (w : World) (h : IsG w v p) (hc : FewP v) (hk : IsB w za zn zc key) :
    Calls Try.prog 11 #[.agg (pgc p.leaf v), .slice za zn zc] w fun e w' => e = .returned (.bool true) ∧ Below w.heap.size w w' := by
  by_cases hE : splitE p = 0
  · exact thrice_yes v p za zn zc key w h hc hk hE
  · exact thrice_no v p za zn zc key w h hc hk hE
end Go.Proofs.Ytebikoekpbnpbaa
