/- innerText, textOf, Encode of every page -/
import Derived.Test.YtebikoekpbnpbaaNU
namespace Go.Proofs.Ytebikoekpbnpbaa
open Go.RowKit Cod
set_option maxRecDepth 100000
set_option linter.unusedVariables false
set_option linter.unusedSimpArgs false
theorem getD_mem0 {l : List Int} {i : Nat} (h : i < l.length) : l.getD i 0 ∈ l := by
  rw [List.getD_eq_getElem?_getD, List.getElem?_eq_getElem h]
  exact List.getElem_mem h
set_option maxHeartbeats 4000000 in
/-- node.innerText -/
theorem innerText_any (v : Pv) (p : Pg) (w : World) (h : IsG w v p) (hce : checkE p = 0) (hlf : p.leaf = false) (lf : Bool) :
    Calls Try.prog 64 #[.agg (pgc lf v)] w fun e w' => ∃ v', e = .returned v' ∧ w'.ownsRow w.heap.size 5 1 v' (itx p v.kn).length (bv (itx p v.kn)) ∧ Below w.heap.size w w' := by
  have HCE := hide hce
  have HKS := hide (kind_short (check_kind hce))
  have HIL := hide (inner_lens hce hlf)
  have HKN := hide h.keys.1
  have HIN := hide h.kids.1
  have HIK : Hid (v.inn = v.kn + 1) := hide (by rw [← HKN.out, ← HIN.out]; exact HIL.out.2.1)
  have hfew := check_few hce
  have hkn : v.kn ≤ 4096 := by rw [← HKN.out]; exact hfew.1
  have HF : Hid (∀ i, i ≤ v.kn → (itx p i).length ≤ 4092) := hide (fun i hi => by
    have := itx_fits hce (i := i) (by rw [HKN.out]; exact hi) (by rw [HIN.out, HIK.out]; omega)
    omega)
  have HKD : Hid (∀ i, i < v.inn → p.kids.getD i 0 = (((p.kids.getD i 0).toNat : Nat) : Int) ∧ (p.kids.getD i 0).toNat < 1024) := hide (fun i hi => by
    have := HIL.out.2.2.2.2 _ (getD_mem0 (by rw [HIN.out]; exact hi))
    omega)
  have HG := hide h
  have HKC : Hid (v.kn ≤ v.kc ∧ v.kc ≤ 9223372036854775807) := hide ⟨h.keys.2.1, h.keys.2.2.1⟩
  have HIC : Hid (v.inn ≤ v.ic ∧ v.ic ≤ 9223372036854775807) := hide ⟨h.kids.2.1, h.kids.2.2.1⟩
  obtain ⟨V0, hV0⟩ : ∃ V0, V0 = w.alloc (.cells (pgc lf v) 25) := ⟨_, rfl⟩
  have HS0 : Hid (V0.heap.size = w.heap.size + 1) := hide (by rw [hV0]; simp)
  have HB0 : Hid (Below w.heap.size w V0) := hide (by rw [hV0]; exact (Below.refl _ w).alloc (Nat.le_refl _) _)
  have HX : Hid (V0.heap[w.heap.size]? = some (.cells (pgc lf v) 25 (0, 0))) := hide (by rw [hV0, heap_alloc_new])
  obtain ⟨V1, hV1⟩ : ∃ V1, V1 = V0.alloc (.cells #[.int .u8 2] 5) := ⟨_, rfl⟩
  have HQ1 : Hid (Below (w.heap.size + 1) V0 V1) := hide (by rw [hV1]; exact (Below.refl _ V0).alloc (by rw [HS0.out]; exact Nat.le_refl _) _)
  have HO1 : Hid (V1.ownsRow (w.heap.size + 1) 5 1 (.slice (some ⟨w.heap.size + 1, 0, none⟩) 1 1) 1 (bv [2])) := hide (by
    have := lit_own V0 (w.heap.size + 1) (by rw [HS0.out]; exact Nat.le_refl _) [2] (by decide)
    rw [HS0.out] at this
    rw [hV1]
    exact this)
  have HN1 := hide (nNum_any (.slice (some ⟨w.heap.size + 1, 0, none⟩) 1 1) (w.heap.size + 1) 1 v.kn [2] V1 HO1.out (by have := HQ1.out.size; rw [HS0.out] at this; exact this) (by omega) (by omega))
  have HZ0 : Hid (∀ W : World, Below (w.heap.size + 1) V0 W → ∃ b off, v.ia = some ⟨b, off, none⟩ ∧ ∀ k, k < v.inn → W.cell? ⟨b, off + k, none⟩ = some (.int .i64 (((p.kids.getD k 0).toNat : Nat) : Int))) := hide (fun W hW => by
    obtain ⟨_, b, off, e, hlt, hc⟩ := h.kids.2.2.2.2 0 (by rw [HIK.out]; omega)
    refine ⟨b, off, e, fun k hk => ?_⟩
    obtain ⟨_, b2, off2, e2, hlt2, hc2⟩ := h.kids.2.2.2.2 k hk
    rw [e] at e2
    cases e2
    rw [← (HKD.out k hk).1]
    have e5 : W.heap[b]? = w.heap[b]? := (hW.block b (by omega)).trans (HB0.out.block b hlt)
    exact (World.cell?_of_block e5).trans hc2)
  have HL0 : Hid ([2] ++ num v.kn ++ num (p.kids.getD 0 0).toNat = itx p 0 ∧ 1 + nLen v.kn + nLen (p.kids.getD 0 0).toNat = (itx p 0).length) := hide (by
    have e : itx p 0 = [2] ++ num v.kn ++ num (p.kids.getD 0 0).toNat := by simp [itx, HKN.out]
    refine ⟨e.symm, ?_⟩
    rw [e]
    simp [nLen]
    omega)
  clear h hfew hce hlf
  obtain ⟨ka, kn, kc, va, vn, vc, ia, inn, ic⟩ := v
  try dsimp only at HX HN1 HL0 HG hkn HIK HKN HIN HKC HIC HF HZ0 HKD
  try dsimp only
  have hkc1 : kn ≤ kc := HKC.out.1
  have hkc2 : kc ≤ 9223372036854775807 := HKC.out.2
  obtain ⟨q0, q1, q2, q3⟩ := BlkG.cells HX.out
  try dsimp only at q0 q1 q2 q3
  have q1' : V1.cell? ⟨w.heap.size, 1, none⟩ = some (.slice ka kn kc) := (World.cell?_of_block (HQ1.out.block _ (by show w.heap.size < _; omega))).trans q1
  try simp only [] at hV0
  go_enter Try.func64, Try.ntmps64
  go_wp2_with fail
  try rw [← hV0]
  try rw [HS0.out]
  try rw [← hV1]
  refine HN1.out.mono ?_
  rintro e w1 ⟨v1, rfl, ho1, hb1⟩
  have HQ0 : Hid (Below (w.heap.size + 1) V0 w1) := hide (HQ1.out.trans hb1)
  have HN2 := hide (nNum_any v1 (w.heap.size + 1) (1 + nLen kn) (p.kids.getD 0 0).toNat ([2] ++ num kn) w1 ho1 (by have := HQ0.out.size; rw [HS0.out] at this; exact this) (by have := nLen_le (n := kn) (by omega); omega) (by have := (HKD.out 0 (by rw [HIK.out]; omega)).2; omega))
  clear ho1 hb1 HN1 q0 q1 q2 q3 q1' hV0 hV1 HQ1 HO1
  obtain ⟨kb, ko, hia, hkz⟩ := HZ0.out w1 HQ0.out
  have q3 : w1.cell? ⟨w.heap.size, 3, none⟩ = some (.slice (some ⟨kb, ko, none⟩) inn ic) := by rw [← hia]; exact cell_blkN ((HQ0.out.block _ (by omega)).trans HX.out) rfl
  have z0 : w1.cell? ⟨kb, ko, none⟩ = some (.int .i64 (((p.kids.getD 0 0).toNat : Nat) : Int)) := hkz 0 (by rw [HIK.out]; omega)
  have hi0 : 0 < inn := by rw [HIK.out]; omega
  have hi0' : (0 : Int) < (inn : Int) := by omega
  have hic1 : inn ≤ ic := HIC.out.1
  have hic2 : ic ≤ 9223372036854775807 := HIC.out.2
  clear hkz
  have HL0' := hide HL0.out
  obtain ⟨K0, hK0⟩ : ∃ K0, K0 = (p.kids.getD 0 0).toNat := ⟨_, rfl⟩
  rw [← hK0] at HN2 z0 HL0'
  clear HL0 hK0
  go_wp2_with fail
  refine HN2.out.mono ?_
  rintro e w2 ⟨v2, rfl, ho2, hb2⟩
  rw [HL0'.out.1, HL0'.out.2] at ho2
  have HO := hide ho2
  have HQ : Hid (Below (w.heap.size + 1) V0 w2) := hide (HQ0.out.trans hb2)
  clear ho2 hb2 HN2 HQ0 HL0' q3 z0
  have q1 : w2.cell? ⟨w.heap.size, 1, none⟩ = some (.slice ka kn kc) := cell_blkN ((HQ.out.block _ (by omega)).trans HX.out) rfl
  go_wp2
  go_loopw [3, 20] (fun v3 v20 wr => ∃ k : Nat, k ≤ kn ∧ v20 = .int .i64 (k : Nat) ∧ Hid (wr.ownsRow (w.heap.size + 1) 5 1 v3 (itx p k).length (bv (itx p k)) ∧ Below (w.heap.size + 1) V0 wr)) (fun _ v20 _ => kn - (intOf v20).toNat)
  case atStart => exact ⟨0, Nat.zero_le _, rfl, hide ⟨HO.out, HQ.out⟩⟩
  case round =>
    obtain ⟨k, hk, rfl, HI⟩ := hrel
    by_cases hlt : k < kn
    · have HBR : Hid (Below w.heap.size w wr) := hide (HB0.out.trans (HI.out.2.mono (by omega)))
      obtain ⟨b, off, a1, n1, c1, e1, hb, z1, hB⟩ := (HG.out.below HBR.out).keys.2.2.2.2 k hlt
      try dsimp only at e1
      have HN := hide (show n1 ≤ 1024 from by rw [← hB.1]; exact HKS.out.1 _ (getD_mem (by rw [HKN.out]; exact hlt)))
      have HLK : Hid ((p.keys.getD k []).length ≤ 1024) := hide (by rw [hB.1]; exact HN.out)
      have HKT := hide (nText_any u3 (w.heap.size + 1) (itx p k).length (itx p k) a1 n1 c1 _ wr.drew (own_below HI.out.1 (Below.refl _ _).drew) (by have := HI.out.2.size; rw [HS0.out] at this; exact this) (by have := HF.out k hk; omega) (hB.below (Below.refl _ _).drew) HN.out)
      have HK1 : Hid ((p.kids.getD (k + 1) 0).toNat < 1024) := hide (HKD.out (k + 1) (by rw [HIK.out]; omega)).2
      have HZ2 : Hid (∀ W : World, Below (w.heap.size + 1) V0 W → W.cell? ⟨w.heap.size, 3, none⟩ = some (.slice (some ⟨kb, ko, none⟩) inn ic) ∧ W.cell? ⟨kb, ko + (k + 1), none⟩ = some (.int .i64 (((p.kids.getD (k + 1) 0).toNat : Nat) : Int))) := hide (fun W hW => by
        obtain ⟨b3, off3, e3, hkz⟩ := HZ0.out W hW
        rw [hia] at e3
        cases e3
        refine ⟨?_, hkz (k + 1) (by rw [HIK.out]; omega)⟩
        rw [← hia]
        exact cell_blkN ((hW.block _ (by omega)).trans HX.out) rfl)
      have hw1 : IntKind.i64.wrap ((k : Int) + 1) = (k : Int) + 1 := wrapN (by omega) (by omega)
      have hi4 : (0 : Int) ≤ (k : Int) := by omega
      have hi5 : (0 : Int) ≤ (k : Int) + 1 := by omega
      have hiI : (k : Int) < (kn : Int) := by omega
      have hiV : (k : Int) + 1 < (inn : Int) := by rw [HIK.out]; omega
      have hiV2 : k + 1 < inn := by rw [HIK.out]; omega
      have HI2 := hide HI.out
      have HQR : Hid (Below (w.heap.size + 1) V0 wr) := hide HI.out.2
      have HNK : Hid (itx p (k + 1) = (itx p k ++ tx (p.keys.getD k [])) ++ num (p.kids.getD (k + 1) 0).toNat) := hide (itx_succ p k)
      obtain ⟨K1, hK1⟩ : ∃ K1, K1 = (p.kids.getD (k + 1) 0).toNat := ⟨_, rfl⟩
      rw [← hK1] at HNK HK1 HZ2
      clear hK1
      have HSZ : Hid (w.heap.size + 1 ≤ wr.heap.size) := hide (by have := HI.out.2.size; rw [HS0.out] at this; exact this)
      rw [e1]
      clear hB HI
      go_wp2_with fail
      refine wp_region_held_drew (S := fun W : World => W.cell? ⟨w.heap.size, 3, none⟩ = some (.slice (some ⟨kb, ko, none⟩) inn ic) ∧ W.cell? ⟨kb, ko + (k + 1), none⟩ = some (.int .i64 (K1 : Int))) (by kernel_rfl) ?hSq (fun hHeld => ?_)
      case hSq => exact HZ2.out _ HQR.out.drew
      refine hTake (i := 0) (v := ?v0q) (some 25) rfl rfl (by kernel_rfl) (by kernel_rfl) (by kernel_rfl) (fun _ _ _ h => h) (by rfl) (by assumption) ?hy0q ?hn0q
      case hy0q => (intro w hSw; (try dsimp only at hSw); skip; go_simp; try with_reducible rfl)
      try simp only [Act.put, List.setIfInBounds_toArray, List.set_cons_zero, List.set_cons_succ]
      refine hTake (i := 1) (v := ?v1q) (some 26) rfl rfl (by kernel_rfl) (by kernel_rfl) (by kernel_rfl) (fun _ _ _ h => h) (by rfl) (by assumption) ?hy1q ?hn1q
      case hy1q => (intro w hSw; (try dsimp only at hSw); skip; go_simp; try with_reducible rfl)
      try simp only [Act.put, List.setIfInBounds_toArray, List.set_cons_zero, List.set_cons_succ]
      refine hTake (i := 3) (v := ?v3q) (some 28) rfl rfl (by kernel_rfl) (by kernel_rfl) (by kernel_rfl) (fun _ _ _ h => h) (by rfl) (by assumption) ?hy3q ?hn3q
      case hy3q => (intro w hSw; (try dsimp only at hSw); skip; go_simp; try with_reducible rfl)
      try simp only [Act.put, List.setIfInBounds_toArray, List.set_cons_zero, List.set_cons_succ]
      refine hTake (i := 4) (v := ?v4q) (some 29) rfl rfl (by kernel_rfl) (by kernel_rfl) (by kernel_rfl) (fun _ _ _ h => h) (by rfl) (by assumption) ?hy4q ?hn4q
      case hy4q => (intro w hSw; (try dsimp only at hSw); skip; go_simp; try with_reducible rfl)
      try simp only [Act.put, List.setIfInBounds_toArray, List.set_cons_zero, List.set_cons_succ]
      refine hTake (i := 5) (v := ?v5q) (some 30) rfl rfl (by kernel_rfl) (by kernel_rfl) (by kernel_rfl) (fun _ _ _ h => h) (by rfl) (by assumption) ?hy5q ?hn5q
      case hy5q => (intro w hSw; (try dsimp only at hSw); skip; go_simp; try with_reducible rfl)
      try simp only [Act.put, List.setIfInBounds_toArray, List.set_cons_zero, List.set_cons_succ]
      refine hTake (i := 6) (v := ?v6q) (some 31) rfl rfl (by kernel_rfl) (by kernel_rfl) (by kernel_rfl) (fun _ _ _ h => h) (by rfl) (by assumption) ?hy6q ?hn6q
      case hy6q => (intro w hSw; (try dsimp only at hSw); skip; go_simp; try with_reducible rfl)
      try simp only [Act.put, List.setIfInBounds_toArray, List.set_cons_zero, List.set_cons_succ]
      refine hTake (i := 7) (v := ?v7q) (some 32) rfl rfl (by kernel_rfl) (by kernel_rfl) (by kernel_rfl) (fun _ _ _ h => h) (by rfl) (by assumption) ?hy7q ?hn7q
      case hy7q => (intro w hSw; (try dsimp only at hSw); skip; go_simp; try with_reducible rfl)
      try simp only [Act.put, List.setIfInBounds_toArray, List.set_cons_zero, List.set_cons_succ]
      refine hTake (i := 8) (v := ?v8q) (some 33) rfl rfl (by kernel_rfl) (by kernel_rfl) (by kernel_rfl) (fun _ _ _ h => h) (by rfl) (by assumption) ?hy8q ?hn8q
      case hy8q => (intro w hSw; (try dsimp only at hSw); skip; go_simp; try with_reducible rfl)
      try simp only [Act.put, List.setIfInBounds_toArray, List.set_cons_zero, List.set_cons_succ]
      refine hOne (i := 2) rfl (by kernel_rfl) (fun K hK => ?_)
      go_simp
      refine HKT.out.mono ?_
      rintro e w2 ⟨v2, rfl, hr2, hb2⟩
      have HB2 : Hid (Below (w.heap.size + 1) V0 w2) := hide (HQR.out.drew.trans hb2)
      have HR2 := hide hr2
      clear hr2 hb2
      have HKT2 := hide (nNum_any v2 (w.heap.size + 1) _ K1 _ w2 HR2.out (by have := HB2.out.size; rw [HS0.out] at this; exact this) (by have h1 := HF.out k hk; have h2 := HLK.out; unfold bSize at *; have h3 := nLen_le (n := (p.keys.getD k []).length) (by omega); omega) (by have := HK1.out; omega))
      refine hK.out _ _ (HZ2.out _ HB2.out) (fun hHeld => ?_)
      clear hK K
      try simp only [Act.put, List.setIfInBounds_toArray, List.set_cons_zero, List.set_cons_succ]
      refine hOne (i := 9) rfl (by kernel_rfl) (fun K hK => ?_)
      go_simp
      refine HKT2.out.mono ?_
      rintro e w3 ⟨v3', rfl, hr3, hb3⟩
      have HB3 : Hid (Below (w.heap.size + 1) V0 w3) := hide (HB2.out.trans hb3)
      have HR3 := hide hr3
      clear hr3 hb3
      refine hK.out _ _ (HZ2.out _ HB3.out) (fun hHeld => ?_)
      clear hK K
      try simp only [Act.put, List.setIfInBounds_toArray, List.set_cons_zero, List.set_cons_succ]
      refine hOne (i := 10) rfl (by kernel_rfl) (fun K hK => ?_)
      go_simp
      refine hK.out _ _ (HZ2.out _ HB3.out) (fun hHeld => ?_)
      clear hK K
      try simp only [Act.put, List.setIfInBounds_toArray, List.set_cons_zero, List.set_cons_succ]
      refine wpAnyH_done (by kernel_rfl) ?_ _
      have HNX : Hid (w3.ownsRow (w.heap.size + 1) 5 1 v3' (itx p (k + 1)).length (bv (itx p (k + 1))) ∧ Below (w.heap.size + 1) V0 w3) := hide (by
        rw [HNK.out, List.length_append, List.length_append, tx_len]
        exact ⟨HR3.out, HB3.out⟩)
      clear HR2 HR3 HB2 HB3 HKT HKT2 HI2 HQR HZ2 z1 hHeld
      go_wp2
      go_roundw
      case rel => exact ⟨k + 1, by omega, by simp, HNX⟩
      case measure => simp [intOf]; omega
    · obtain rfl : kn = k := by omega
      have hkk : ¬ ((kn : Nat) : Int) < ((kn : Nat) : Int) := by omega
      have HE : Hid (wr.ownsRow w.heap.size 5 1 u3 (itx p kn).length (bv (itx p kn)) ∧ Below w.heap.size w wr) := hide ⟨own_le HI.out.1 (by omega), HB0.out.trans (HI.out.2.mono (by omega))⟩
      clear HI
      go_wp2
      go_ret
      exact ⟨_, rfl, HE.out.1, HE.out.2⟩
set_option maxHeartbeats 1000000 in
theorem textI_any (v : Pv) (p : Pg) (w : World) (h : IsG w v p) (hce : checkE p = 0) (hlf : p.leaf = false) : TextOk v p w := by
  unfold TextOk
  have HT : Hid (textP p = itx p v.kn) := hide (by unfold textP; rw [hlf, if_neg (by decide), h.keys.1])
  rw [hlf, HT.out]
  obtain ⟨V0, hV0⟩ : ∃ V0, V0 = w.alloc (.cells (pgc false v) 25) := ⟨_, rfl⟩
  have HS0 : Hid (V0.heap.size = w.heap.size + 1) := hide (by rw [hV0]; simp)
  have HB0 : Hid (Below w.heap.size w V0) := hide (by rw [hV0]; exact (Below.refl _ w).alloc (Nat.le_refl _) _)
  have HX : Hid (V0.heap[w.heap.size]? = some (.cells (pgc false v) 25 (0, 0))) := hide (by rw [hV0, heap_alloc_new])
  have HL := hide (innerText_any v p V0 (h.below HB0.out) hce hlf false)
  clear h hce hlf
  obtain ⟨ka, kn, kc, va, vn, vc, ia, inn, ic⟩ := v
  try dsimp only at HX HL
  try dsimp only
  obtain ⟨q0, q1, q2, q3⟩ := BlkG.cells HX.out
  try dsimp only at q0 q1 q2 q3
  go_enter Try.func34, Try.ntmps34
  go_wp2_with fail
  try rw [← hV0]
  refine HL.out.mono ?_
  rintro e w1 ⟨v1, rfl, ho1, hb1⟩
  have HE : Hid (w1.ownsRow w.heap.size 5 1 v1 (itx p kn).length (bv (itx p kn)) ∧ Below w.heap.size w w1) := hide ⟨own_le ho1 (by rw [HS0.out]; omega), HB0.out.trans (hb1.mono HB0.out.size)⟩
  clear ho1 hb1 HL q0 q1 q2 q3
  go_wp2
  go_ret
  exact ⟨_, rfl, HE.out.1, HE.out.2⟩
/-- node.textOf -/
theorem textOf_any (v : Pv) (p : Pg) (w : World) (h : IsG w v p) (hce : checkE p = 0) : TextOk v p w := by
  cases hl : p.leaf with
  | true => exact textL_any v p w h (by unfold leafE; rw [if_pos hce, if_pos hl])
  | false => exact textI_any v p w h hce hl
/-- node.Encode of a right page -/
theorem enc_yes (v : Pv) (p : Pg) (w : World) (h : IsG w v p) (hce : checkE p = 0) (hc : FewP v) :
    Calls Try.prog 13 #[.agg (pgc p.leaf v)] w fun e w' => ∃ g, e = .returned (.tuple #[.slice (some ⟨g, 0, none⟩) 4096 4096, .int .i64 0]) ∧ w'.ownsRow w.heap.size 5 1 (.slice (some ⟨g, 0, none⟩) 4096 4096) 4096 (bv (encP p)) ∧ Below w.heap.size w w' := enc_of v p w h hce hc (fun W hW => textOf_any v p W (h.below hW) hce)
set_option maxHeartbeats 1000000 in
/-- node.Encode of what is no right page -/
theorem enc_no (v : Pv) (p : Pg) (w : World) (h : IsG w v p) (hce : ¬ checkE p = 0) (hc : FewP v) :
    Calls Try.prog 13 #[.agg (pgc p.leaf v)] w fun e w' => e = .returned (.tuple #[.slice none 0 0, .int .i64 (checkE p)]) ∧ Below w.heap.size w w' := by
  obtain ⟨V0, hV0⟩ : ∃ V0, V0 = w.alloc (.cells (pgc p.leaf v) 25) := ⟨_, rfl⟩
  have HB0 : Hid (Below w.heap.size w V0) := hide (by rw [hV0]; exact (Below.refl _ w).alloc (Nat.le_refl _) _)
  have HX : Hid (V0.heap[w.heap.size]? = some (.cells (pgc p.leaf v) 25 (0, 0))) := hide (by rw [hV0, heap_alloc_new])
  have HCK := hide (check_any v p V0 (h.below HB0.out) hc)
  generalize checkE p = E at *
  generalize p.leaf = lf at *
  have hc1 : (E == (0 : Int)) = false := by simpa using hce
  have hc2 : (E != (0 : Int)) = true := by simpa using hce
  clear h hc hce
  obtain ⟨ka, kn, kc, va, vn, vc, ia, inn, ic⟩ := v
  try dsimp only at HX HCK
  try dsimp only
  obtain ⟨q0, q1, q2, q3⟩ := BlkG.cells HX.out
  try dsimp only at q0 q1 q2 q3
  go_enter Try.func13, Try.ntmps13
  go_wp2_with fail
  try rw [← hV0]
  refine HCK.out.mono ?_
  rintro e w1 ⟨rfl, hb1⟩
  have HB1 : Hid (Below w.heap.size w w1) := hide (HB0.out.trans (hb1.mono HB0.out.size))
  clear hb1 HCK q0 q1 q2 q3 hV0
  go_wp2
  go_ret2
  exact ⟨rfl, HB1.out⟩
end Go.Proofs.Ytebikoekpbnpbaa
