/- NodeParts: the walk -/
import Derived.Test.YtebikoekpbnpbaaMG
import Derived.Test.YtebikoekpbnpbaaNV
namespace Go.Proofs.Ytebikoekpbnpbaa
open Go.RowKit Cod
set_option maxRecDepth 100000
set_option linter.unusedVariables false
set_option linter.unusedSimpArgs false
/-- what the walk keeps -/
structure PtA (w : World) (lf : Bool) (v v1 v2 : Pv) (p a b : Pg) (k : List Nat) (xa : Option Addr) (xc A : Nat) (W : World) : Prop where
  bel : Below w.heap.size w W
  x : BlkG W w.heap.size lf v
  y : BlkG W A lf v1
  z : BlkG W (A + 1) lf v2
  gp : IsG W v p
  ga : IsG W v1 a
  gb : IsG W v2 b
  kb : IsB W xa k.length xc k
theorem PtA.below {w W W' : World} {lf : Bool} {v v1 v2 : Pv} {p a b : Pg} {k : List Nat} {xa : Option Addr} {xc A : Nat} (h : PtA w lf v v1 v2 p a b k xa xc A W) (hb : Below W.heap.size W W') : PtA w lf v v1 v2 p a b k xa xc A W' :=
  ⟨h.bel.trans (hb.mono h.bel.size), (hb.block _ (heap_ltN h.x)).trans h.x, (hb.block _ (heap_ltN h.y)).trans h.y, (hb.block _ (heap_ltN h.z)).trans h.z, h.gp.below hb, h.ga.below hb, h.gb.below hb, h.kb.below hb⟩
theorem below_drewN' {w : World} (k : Nat) : Below w.heap.size w (w.drewN k) := below_drewN k
set_option maxHeartbeats 4000000 in
theorem parts_no (v : Pv) (p : Pg) (w : World) (h : IsG w v p) (hc : FewP v) (hE : ¬ splitE p = 0) :
    Calls Try.prog 7 #[.agg (pgc p.leaf v)] w fun e w' => e = .returned (.bool true) ∧ Below w.heap.size w w' := by
  obtain ⟨V0, hV0⟩ : ∃ V0, V0 = w.alloc (.cells (pgc p.leaf v) 25) := ⟨_, rfl⟩
  have HB0 : Hid (Below w.heap.size w V0) := hide (by rw [hV0]; exact (Below.refl _ w).alloc (Nat.le_refl _) _)
  have HX0 : Hid (V0.heap[w.heap.size]? = some (.cells (pgc p.leaf v) 25 (0, 0))) := hide (by rw [hV0, heap_alloc_new])
  have HP0 := hide (fun (W : World) (hW : Below w.heap.size w W) => split_no v p W (h.below hW) hc hE)
  have HE := hide hE
  clear h hc hE
  generalize p.leaf = lf at *
  generalize splitE p = E at *
  go_enter Try.func7, Try.ntmps7
  go_wp2_with fail
  rw [← hV0]
  clear hV0
  refine (lives_any V0).mono ?_
  rintro e w1 ⟨rfl, hb1⟩
  have HB1 : Hid (Below w.heap.size w w1) := hide (HB0.out.trans (hb1.mono HB0.out.size))
  have HX1 : Hid (w1.heap[w.heap.size]? = some (.cells (pgc lf v) 25 (0, 0))) := hide ((hb1.block _ (heap_ltN HX0.out)).trans HX0.out)
  have HP := hide (HP0.out w1 HB1.out)
  clear HP0 hb1 HX0 HB0
  obtain ⟨q0, q1, q2, q3⟩ := BlkG.cells HX1.out
  go_wp2_with fail
  refine HP.out.mono ?_
  rintro e w2 ⟨rfl, hb2⟩
  have HBF : Hid (Below w.heap.size w ((w2.alloc (.cells (pgc false Pv0) 25)).alloc (.cells (pgc false Pv0) 25))) := hide (by have := HB1.out.trans (hb2.mono HB1.out.size); exact (this.alloc this.size _).alloc (Nat.le_trans this.size (by simp)) _)
  have hc1 : (E == (0 : Int)) = false := by simpa using HE.out
  have hc2 : (E != (0 : Int)) = true := by simpa using HE.out
  clear q0 q1 q2 q3 hb2 HP
  go_wp2
  go_ret
  exact ⟨rfl, HBF.out⟩
set_option maxHeartbeats 8000000 in
theorem parts_yes (v : Pv) (p : Pg) (w : World) (h : IsG w v p) (hc : FewP v) (hE : splitE p = 0) :
    Calls Try.prog 7 #[.agg (pgc p.leaf v)] w fun e w' => e = .returned (.bool true) ∧ Below w.heap.size w w' := by
  obtain ⟨V0, hV0⟩ : ∃ V0, V0 = w.alloc (.cells (pgc p.leaf v) 25) := ⟨_, rfl⟩
  have HB0 : Hid (Below w.heap.size w V0) := hide (by rw [hV0]; exact (Below.refl _ w).alloc (Nat.le_refl _) _)
  have HX0 : Hid (V0.heap[w.heap.size]? = some (.cells (pgc p.leaf v) 25 (0, 0))) := hide (by rw [hV0, heap_alloc_new])
  have HP0 := hide (fun (W : World) (hW : Below w.heap.size w W) => split_yes v p W (h.below hW) hc hE)
  have HCP := hide (splitE_0 hE).1
  have HG := hide h
  clear h hc hE
  obtain ⟨lf, hlf⟩ : ∃ lf, lf = p.leaf := ⟨_, rfl⟩
  rw [← hlf] at HX0 hV0 HP0 ⊢
  have HLF := hide hlf
  clear hlf
  go_enter Try.func7, Try.ntmps7
  go_wp2_with fail
  rw [← hV0]
  clear hV0
  refine (lives_any V0).mono ?_
  rintro e w1 ⟨rfl, hb1⟩
  have HB1 : Hid (Below w.heap.size w w1) := hide (HB0.out.trans (hb1.mono HB0.out.size))
  have HX1 : Hid (w1.heap[w.heap.size]? = some (.cells (pgc lf v) 25 (0, 0))) := hide ((hb1.block _ (heap_ltN HX0.out)).trans HX0.out)
  have HP := hide (HP0.out w1 HB1.out)
  clear HP0 hb1 HX0 HB0
  obtain ⟨q0, q1, q2, q3⟩ := BlkG.cells HX1.out
  go_wp2_with fail
  refine HP.out.mono ?_
  rintro e w2 ⟨m, v1, v2, xa, xc, rfl, hs, n1, n2, hkB, hkF, hb2⟩
  have HH := hide (halves HCP.out hs)
  generalize partP p 0 m = a at *
  generalize partP p (m + offP p) p.keys.length = b at *
  generalize p.keys.getD m [] = k at *
  obtain ⟨A, hA⟩ : ∃ A, A = w2.heap.size := ⟨_, rfl⟩
  obtain ⟨V2, hV2⟩ : ∃ V2, V2 = (w2.alloc (.cells (pgc lf v1) 25)).alloc (.cells (pgc lf v2) 25) := ⟨_, rfl⟩
  have hbv : Below w2.heap.size w2 V2 := by rw [hV2]; exact ((Below.refl _ w2).alloc (Nat.le_refl _) _).alloc (by simp) _
  have hb12 : Below w.heap.size w w2 := HB1.out.trans (hb2.mono HB1.out.size)
  have HPT : Hid (PtA w lf v v1 v2 p a b k xa xc A V2) := hide ⟨hb12.trans (hbv.mono hb12.size), (hbv.block _ (Nat.lt_of_lt_of_le (heap_ltN HX1.out) hb2.size)).trans ((hb2.block _ (heap_ltN HX1.out)).trans HX1.out),
    (by show V2.heap[A]? = _; rw [hV2, hA, heap_al, heap_al, World.size_alloc, if_neg (by omega), if_pos rfl]), (by show V2.heap[A + 1]? = _; rw [hV2, hA, heap_al, World.size_alloc, if_pos rfl]), HG.out.below (hb12.trans (hbv.mono hb12.size)), n1.is.below hbv, n2.is.below hbv, hkB.below hbv⟩
  clear q0 q1 q2 q3 hb2 HP n1 n2 hkB hkF hs hbv hb12 HX1 HB1 HG
  have HLA : Hid (lf = a.leaf ∧ lf = b.leaf) := hide ⟨HLF.out.trans HH.out.la.symm, HLF.out.trans HH.out.lb.symm⟩
  have HC1 := hide (fun W (hW : Below V2.heap.size V2 W) => check_any v1 a W (HPT.out.ga.below hW) (few_of HPT.out.ga HH.out.ca))
  have HC2 := hide (fun W (hW : Below V2.heap.size V2 W) => check_any v2 b W (HPT.out.gb.below hW) (few_of HPT.out.gb HH.out.cb))
  rw [← HLA.out.1, HH.out.ca] at HC1
  rw [← HLA.out.2, HH.out.cb] at HC2
  obtain ⟨q0, q1, q2, q3⟩ := BlkG.cells HPT.out.y
  go_wp2_with fail
  try rw [← hV2]
  try rw [← hA]
  clear hV2 hA
  refine (HC1.out V2 (Below.refl _ _)).mono ?_
  rintro e w3 ⟨rfl, hb3⟩
  have HPT3 := hide (HPT.out.below hb3)
  have HB3 := hide hb3
  clear hb3 q0 q1 q2 q3 HC1
  obtain ⟨q0, q1, q2, q3⟩ := BlkG.cells HPT3.out.z
  go_wp2_with fail
  refine (HC2.out w3 HB3.out).mono ?_
  rintro e w4 ⟨rfl, hb4⟩
  have HPT4 := hide (HPT3.out.below hb4)
  clear hb4 q0 q1 q2 q3 HC2 HPT HPT3 HB3
  obtain ⟨q0, q1, q2, q3⟩ := BlkG.cells HPT4.out.y
  obtain ⟨r0, r1, r2, r3⟩ := BlkG.cells HPT4.out.z
  have HKN : Hid (a.keys.length = v1.kn ∧ b.keys.length = v2.kn) := hide ⟨HPT4.out.ga.keys.1, HPT4.out.gb.keys.1⟩
  have hk1 : ¬ (v1.kn : Int) = 0 := by have := HKN.out; have := HH.out.na; omega
  have hk2 : ¬ (v2.kn : Int) = 0 := by have := HKN.out; have := HH.out.nb; omega
  have hk3 : ((v1.kn : Int) == 0) = false := by simpa using hk1
  have hk4 : ((v2.kn : Int) == 0) = false := by simpa using hk2
  have HM := hide (merge_yes v1 a v2 b xa k.length xc k w4 HPT4.out.ga HPT4.out.gb HPT4.out.kb HH.out.ca HH.out.cb lf HLA.out.1.symm HLA.out.2.symm HH.out.kl HH.out.mg HCP.out)
  go_wp2_with fail
  refine HM.out.mono ?_
  rintro e w5 ⟨v5, rfl, n5, hb5⟩
  obtain ⟨V5, hV5⟩ : ∃ V5, V5 = w5.alloc (.cells (pgc lf v5) 25) := ⟨_, rfl⟩
  have hbv : Below w5.heap.size w5 V5 := by rw [hV5]; exact (Below.refl _ w5).alloc (Nat.le_refl _) _
  have HPT5 := hide (HPT4.out.below (hb5.trans (hbv.mono hb5.size)))
  have HQ5 : Hid (BlkG V5 w5.heap.size lf v5) := hide (by show V5.heap[_]? = _; rw [hV5, heap_alloc_new])
  have HSM := hide (same_eq v v5 p V5 HPT5.out.gp (n5.is.below hbv))
  rw [← HLF.out] at HSM
  clear q0 q1 q2 q3 r0 r1 r2 r3 hk1 hk2 hk3 hk4 HM n5 hb5 hbv HPT4
  obtain ⟨q0, q1, q2, q3⟩ := BlkG.cells HPT5.out.x
  obtain ⟨r0, r1, r2, r3⟩ := BlkG.cells HQ5.out
  rw [hV5] at q0 q1 q2 q3 r0 r1 r2 r3
  go_wp2_with fail
  rw [← hV5]
  clear q0 q1 q2 q3 r0 r1 r2 r3 hV5
  refine HSM.out.mono ?_
  rintro e w6 ⟨rfl, hb6⟩
  have HPT6 := hide (HPT5.out.below hb6)
  clear hb6 HSM HQ5 HPT5
  have HN1 : Hid (v1.kn - 1 < v1.kn ∧ 0 < v2.kn ∧ v1.kn ≤ 2000000) := hide (by have := HKN.out; have := HH.out.na; have := HH.out.nb; have := (few_of HPT6.out.ga HH.out.ca).1; omega)
  obtain ⟨b1, o1, a1, n1, c1, e1, hb1, z1, hB1⟩ := HPT6.out.ga.keys.2.2.2.2 (v1.kn - 1) HN1.out.1
  obtain ⟨b2, o2, a2, n2, c2, e2, hb2, z2, hB2⟩ := HPT6.out.gb.keys.2.2.2.2 0 HN1.out.2.1
  obtain ⟨ka1, kn1, kc1, va1, vn1, vc1, ia1, in1, ic1⟩ := v1
  obtain ⟨ka2, kn2, kc2, va2, vn2, vc2, ia2, in2, ic2⟩ := v2
  try dsimp only at e1 e2 z1 z2 hB1 hB2 HN1 HKN
  subst e1 e2
  rw [Nat.add_zero] at z2
  have HLS : Hid (ltN (a.keys.getD (kn1 - 1) []) k = true) := hide (by have := HH.out.last; rw [HKN.out.1] at this; exact this)
  have HFS := hide HH.out.first
  obtain ⟨x1, hx1⟩ : ∃ x, a.keys.getD (kn1 - 1) [] = x := ⟨_, rfl⟩
  obtain ⟨x2, hx2⟩ : ∃ x, b.keys.getD 0 [] = x := ⟨_, rfl⟩
  rw [hx1] at hB1 HLS
  rw [hx2] at hB2 HFS
  rw [← HLF.out] at HFS
  obtain ⟨j, hj⟩ : ∃ j, j = kn1 - 1 := ⟨_, rfl⟩
  rw [← hj] at z1
  have hj1 : IntKind.i64.wrap ((kn1 : Int) - 1) = (j : Int) := by
    have := HN1.out
    rw [show (kn1 : Int) - 1 = (j : Int) by omega]
    exact wrapN (by omega) (by omega)
  have hj2 : (j : Int) < (kn1 : Int) := by have := HN1.out; omega
  have hj3 : (0 : Int) ≤ (j : Int) := by omega
  have hj4 : (0 : Int) < (kn2 : Int) := by have := HN1.out; omega
  have hj5 : 0 < kn2 := HN1.out.2.1
  have hj6 : j < kn1 := by omega
  clear hx1 hx2 hj
  have hcv1 : ∀ i, (convert 26 9 (.slice a1 n1 c1)).run Try.prog (w6.drewN i) = .ok (.string (str x1)) (w6.drewN i) := fun i => conv_str (hB1.below (below_drewN' i))
  have hcv2 : ∀ i, (convert 26 9 (.slice a2 n2 c2)).run Try.prog (w6.drewN i) = .ok (.string (str x2)) (w6.drewN i) := fun i => conv_str (hB2.below (below_drewN' i))
  have HCV3 : Hid (∀ i, (convert 26 9 (.slice xa k.length xc)).run Try.prog (w6.drewN i) = .ok (.string (str k)) (w6.drewN i)) := hide (fun i => conv_str (HPT6.out.kb.below (below_drewN' i)))
  have HL1 : Hid (Op.bytesLess (str x1).toList (str k).toList = true) := hide (by rw [less_strN hB1.2.2.2.1 HPT6.out.kb.2.2.2.1]; exact HLS.out)
  have HL2 : Hid (lf = true → ((str k).toList == (str x2).toList) = true) := hide (fun e => by rw [HFS.out.1 e]; simp)
  have HL3 : Hid (lf = false → Op.bytesLess (str k).toList (str x2).toList = true) := hide (fun e => by rw [less_strN HPT6.out.kb.2.2.2.1 hB2.2.2.2.1]; exact HFS.out.2 e)
  clear hB1 hB2 HLS HFS
  have q1 : w6.cell? ⟨A, 1, none⟩ = some (.slice (some ⟨b1, o1, none⟩) kn1 kc1) := (BlkG.cells HPT6.out.y).2.1
  have r1 : w6.cell? ⟨A + 1, 1, none⟩ = some (.slice (some ⟨b2, o2, none⟩) kn2 kc2) := (BlkG.cells HPT6.out.z).2.1
  go_wp2
  go_quiet (fail)
  clear hcv1 hcv2 q1 r1 z1 z2
  have hcv3 := HCV3.out nq
  have hl1 := HL1.out
  obtain ⟨W7, hW7⟩ : ∃ W7, W7 = w6.drewN nq := ⟨_, rfl⟩
  rw [← hW7] at hcv3
  try rw [← hW7]
  have HPT7 : Hid (PtA w lf v ⟨some ⟨b1, o1, none⟩, kn1, kc1, va1, vn1, vc1, ia1, in1, ic1⟩ ⟨some ⟨b2, o2, none⟩, kn2, kc2, va2, vn2, vc2, ia2, in2, ic2⟩ p a b k xa xc A W7) := hide (by rw [hW7]; exact HPT6.out.below (below_drewN' nq))
  clear hW7 HPT6
  have q0 : W7.cell? ⟨w.heap.size, 0, none⟩ = some (.bool lf) := (BlkG.cells HPT7.out.x).1
  cases lf with
  | true =>
    have hl2 := HL2.out rfl
    go_wp2
    go_ret
    exact ⟨rfl, HPT7.out.bel⟩
  | false =>
    have hl3 := HL3.out rfl
    go_wp2
    go_ret
    exact ⟨rfl, HPT7.out.bel⟩
theorem parts_any (v : Pv) (p : Pg) (w : World) (h : IsG w v p) (hc : FewP v) :
    Calls Try.prog 7 #[.agg (pgc p.leaf v)] w fun e w' => e = .returned (.bool true) ∧ Below w.heap.size w w' := by
  by_cases hE : splitE p = 0
  · exact parts_yes v p w h hc hE
  · exact parts_no v p w h hc hE
end Go.Proofs.Ytebikoekpbnpbaa
