/- the document's Put -/
import Derived.Test.YtebikoekpbnpbaaDL
namespace Go.Proofs.Ytebikoekpbnpbaa
open Go.RowKit Cod
set_option maxRecDepth 100000
set_option linter.unusedVariables false
set_option linter.unusedSimpArgs false
theorem putP_leaf (p : Pg) (key val : List Nat) : (putP p key val).leaf = true := by unfold putP; split <;> rfl
set_option maxHeartbeats 4000000 in
/-- ladingref06.Put -/
theorem rput_any (v : Pv) (p : Pg) (xa : Option Addr) (xn xc : Nat) (key : List Nat) (ya : Option Addr) (yn yc : Nat) (val : List Nat) (w : World) (h : IsG w v p) (hc : FewP v) (hk : IsB w xa xn xc key) (hv : IsB w ya yn yc val) :
    Calls Try.prog 26 #[.agg (pgc p.leaf v), .slice xa xn xc, .slice ya yn yc] w fun e w' => ∃ v', e = .returned (.tuple #[.agg (pgc (putR p key val).1.leaf v'), .int .i64 (putR p key val).2]) ∧ IsG w' v' (putR p key val).1 ∧ Below w.heap.size w w' := by
  obtain ⟨V0, hV0⟩ : ∃ V0, V0 = (w.alloc (.cells (pgc p.leaf v) 25)).alloc (.cells pg0c 25) := ⟨_, rfl⟩
  have HB0 : Hid (Below w.heap.size w V0) := hide (by rw [hV0]; exact ((Below.refl _ w).alloc (Nat.le_refl _) _).alloc (by simp) _)
  have HX : Hid (V0.heap[w.heap.size]? = some (.cells (pgc p.leaf v) 25 (0, 0))) := hide (by rw [hV0, heap_al, heap_al, World.size_alloc, if_neg (by omega), if_pos rfl])
  have HY : Hid (V0.heap[w.heap.size + 1]? = some (.cells pg0c 25 (0, 0))) := hide (by rw [hV0, heap_al, World.size_alloc, if_pos rfl])
  have HCK := hide (rcheck_any v p V0 (h.below HB0.out) hc)
  have HG := hide h
  have HK := hide hk
  have HFW := hide hc
  have HLN : Hid (p.keys.length = v.kn ∧ p.vals.length = v.vn) := hide ⟨h.keys.1, h.vals.1⟩
  obtain ⟨R, hR⟩ : ∃ R, R = putR p key val := ⟨_, rfl⟩
  rw [← hR]
  have HR := hide hR
  have HVL := hide hv
  clear hR h hc hk hv
  obtain ⟨lf, hlf⟩ : ∃ lf, lf = p.leaf := ⟨_, rfl⟩
  rw [← hlf] at HX HCK hV0 ⊢
  have HLF := hide hlf
  clear hlf
  obtain ⟨E, hE⟩ : ∃ E, E = checkE p := ⟨_, rfl⟩
  rw [← hE] at HCK
  have HE := hide hE
  clear hE
  obtain ⟨ka, kn, kc, va, vn, vc, ia, inn, ic⟩ := v
  try dsimp only at HX HCK hV0 HLN
  try dsimp only
  obtain ⟨q0, q1, q2, q3⟩ := BlkG.cells (v := ⟨ka, kn, kc, va, vn, vc, ia, inn, ic⟩) HX.out
  try dsimp only at q0 q1 q2 q3
  go_enter Try.func26, Try.ntmps26
  go_wp2_with fail
  try rw [← hV0]
  clear hV0
  refine HCK.out.mono ?_
  rintro e w1 ⟨rfl, hb1⟩
  have HB1 : Hid (Below w.heap.size w w1) := hide (HB0.out.trans (hb1.mono HB0.out.size))
  have HX1 : Hid (BlkG w1 w.heap.size lf ⟨ka, kn, kc, va, vn, vc, ia, inn, ic⟩) := hide ((hb1.block _ (heap_ltN HX.out)).trans HX.out)
  have HY1 : Hid (w1.heap[w.heap.size + 1]? = some (.cells #[.bool false, .slice none 0 0, .slice none 0 0, .slice none 0 0] 25 (0, 0))) := hide ((hb1.block _ (heap_ltN HY.out)).trans HY.out)
  clear hb1 HCK q0 q1 q2 q3 HX HY HB0
  obtain ⟨q0, q1, q2, q3⟩ := BlkG.cells HX1.out
  try dsimp only at q0 q1 q2 q3
  have y0 : w1.cell? ⟨w.heap.size + 1, 0, none⟩ = some (.bool false) := cell_blkN HY1.out rfl
  have y1 : w1.cell? ⟨w.heap.size + 1, 1, none⟩ = some (.slice none 0 0) := cell_blkN HY1.out rfl
  have y2 : w1.cell? ⟨w.heap.size + 1, 2, none⟩ = some (.slice none 0 0) := cell_blkN HY1.out rfl
  have y3 : w1.cell? ⟨w.heap.size + 1, 3, none⟩ = some (.slice none 0 0) := cell_blkN HY1.out rfl
  have f0 := frzN HY1.out 0
  have f1 := frzN HY1.out 1
  have f2 := frzN HY1.out 2
  have f3 := frzN HY1.out 3
  by_cases h0 : E = 0
  case neg =>
    have hx1 : (E == (0 : Int)) = false := by simpa using h0
    have hx2 : (E != (0 : Int)) = true := by simpa using h0
    have HF : Hid (R = (Pg0, E)) := hide (by
      have e1 : leafE p = E := by unfold leafE; rw [← HE.out, if_neg h0]
      rw [HR.out]; unfold putR; rw [e1, if_neg h0])
    go_wp2
    (try simp only [Exit.inBlock, Exit.then])
    refine bodyPost_ret (resP2 rfl _ _ (w.heap.size + 1) #[.bool false, .slice none 0 0, .slice none 0 0, .slice none 0 0] (blk4 HY1.out _ _ _ _) rfl rfl) rfl ?_
    exact ⟨Pv0, by rw [HF.out]; rfl, by rw [HF.out]; exact isG_0 _, below4 HB1.out (by omega) _ _ _ _⟩
  case pos =>
  subst h0
  cases lf with
  | false =>
    have HF : Hid (R = (Pg0, 15)) := hide (by
      have e1 : leafE p = 15 := by unfold leafE; rw [← HE.out, if_pos rfl, ← HLF.out, if_neg (by decide)]
      rw [HR.out]; unfold putR; rw [e1, if_neg (by decide)])
    go_wp2
    (try simp only [Exit.inBlock, Exit.then])
    refine bodyPost_ret (resP2 rfl _ _ (w.heap.size + 1) #[.bool false, .slice none 0 0, .slice none 0 0, .slice none 0 0] (blk4 HY1.out _ _ _ _) rfl rfl) rfl ?_
    exact ⟨Pv0, by rw [HF.out]; rfl, by rw [HF.out]; exact isG_0 _, below4 HB1.out (by omega) _ _ _ _⟩
  | true =>
    have HLE : Hid (leafE p = 0) := hide (leafE_of HE.out.symm HLF.out.symm)
    have HXN : Hid (key.length = xn ∧ val.length = yn) := hide ⟨HK.out.1, HVL.out.1⟩
    by_cases hl1 : 256 < xn
    case pos =>
      have hl1I : (256 : Int) < (xn : Int) := by omega
      have HF : Hid (R = (Pg0, 4)) := hide (by rw [HR.out]; unfold putR; rw [if_pos HLE.out, if_pos (Or.inl (by rw [HXN.out.1]; exact hl1))])
      go_wp2
      (try simp only [Exit.inBlock, Exit.then])
      refine bodyPost_ret (resP2 rfl _ _ (w.heap.size + 1) #[.bool false, .slice none 0 0, .slice none 0 0, .slice none 0 0] (blk4 HY1.out _ _ _ _) rfl rfl) rfl ?_
      exact ⟨Pv0, by rw [HF.out]; rfl, by rw [HF.out]; exact isG_0 _, below4 HB1.out (by omega) _ _ _ _⟩
    case neg =>
    have hl1I : ¬ (256 : Int) < (xn : Int) := by omega
    by_cases hl2 : 512 < yn
    case pos =>
      have hl2I : (512 : Int) < (yn : Int) := by omega
      have HF : Hid (R = (Pg0, 4)) := hide (by rw [HR.out]; unfold putR; rw [if_pos HLE.out, if_pos (Or.inr (by rw [HXN.out.2]; exact hl2))])
      go_wp2
      (try simp only [Exit.inBlock, Exit.then])
      refine bodyPost_ret (resP2 rfl _ _ (w.heap.size + 1) #[.bool false, .slice none 0 0, .slice none 0 0, .slice none 0 0] (blk4 HY1.out _ _ _ _) rfl rfl) rfl ?_
      exact ⟨Pv0, by rw [HF.out]; rfl, by rw [HF.out]; exact isG_0 _, below4 HB1.out (by omega) _ _ _ _⟩
    case neg =>
    have hl2I : ¬ (512 : Int) < (yn : Int) := by omega
    have HSH : Hid (key.length ≤ 256 ∧ val.length ≤ 512) := hide (by rw [HXN.out.1, HXN.out.2]; omega)
    have HRR : Hid (R = if 4096 < sizeE (putP p key val) then (Pg0, 7) else (putP p key val, 0)) := hide (by
      rw [HR.out]
      unfold putR
      rw [if_pos HLE.out, if_neg (by have := HSH.out; omega), put_check HLE.out HSH.out.1 HSH.out.2]
      by_cases hs : 4096 < sizeE (putP p key val)
      · rw [if_pos hs, if_pos hs, if_neg (by decide)]
      · rw [if_neg hs, if_neg hs, if_pos rfl])
    have HFE : Hid (leafB (putP p key val) = true) := hide (put_leafB HLE.out HSH.out.1 HSH.out.2)
    have HKS := hide (kind_short (check_kind HE.out.symm))
    have HCP := hide (rcopy_any ⟨ka, kn, kc, va, vn, vc, ia, inn, ic⟩ p w1 (HG.out.below HB1.out) HFW.out ⟨fun b hb => Nat.le_trans (HKS.out.1 b hb) (by decide), fun b hb => Nat.le_trans (HKS.out.2.1 b hb) (by decide)⟩ true)
    clear y0 y1 y2 y3 f0 f1 f2 f3
    try dsimp only at HCP
    go_wp2_with fail
    refine HCP.out.mono ?_
    rintro e w2 ⟨v2, xs, ys, M, rfl, hcp, hkn, hvn, hin, hb2⟩
    have HT2 := hide hcp
    obtain ⟨k2, n2, c2, x2, m2, d2, i2, j2, l2⟩ := v2
    dsimp only at hkn hvn hin
    subst hkn hvn hin
    obtain ⟨X, hX⟩ : ∃ X, X = w2.heap.size := ⟨_, rfl⟩
    obtain ⟨V2, hV2⟩ : ∃ V2, V2 = w2.alloc (.cells (pgc true ⟨k2, n2, c2, x2, m2, d2, i2, j2, l2⟩) 25) := ⟨_, rfl⟩
    have hbv : Below w2.heap.size w2 V2 := by rw [hV2]; exact (Below.refl _ w2).alloc (Nat.le_refl _) _
    have HB2 : Hid (Below w1.heap.size w1 V2) := hide (hb2.trans (hbv.mono hb2.size))
    have HX2 : Hid (BlkG V2 X true ⟨k2, n2, c2, x2, m2, d2, i2, j2, l2⟩) := hide (by show V2.heap[X]? = _; rw [hV2, hX]; exact heap_alloc_new _ _)
    have HTV := hide (HT2.out.below hbv)
    have HXG : Hid (w1.heap.size ≤ X) := hide (by rw [hX]; exact hb2.size)
    have HBW := hide (rbelow_any ⟨k2, n2, c2, x2, m2, d2, i2, j2, l2⟩ p xa xn xc key V2 HTV.out.is ⟨HFW.out.1, HFW.out.2.1, HFW.out.2.2⟩ ((HK.out.below HB1.out).below HB2.out) true)
    clear hcp hb2 hbv HCP HT2 q0 q1 q2 q3
    go_wp2_with fail
    try rw [← hV2]
    try rw [← hX]
    clear hV2 hX
    refine HBW.out.mono ?_
    rintro e w3 ⟨rfl, hb3⟩
    have HB3 : Hid (Below w1.heap.size w1 w3) := hide (HB2.out.trans (hb3.mono HB2.out.size))
    have HX3 : Hid (w3.heap[X]? = some (.cells #[.bool true, .slice k2 n2 c2, .slice x2 m2 d2, .slice i2 j2 l2] 25 (0, 0))) := hide ((hb3.block _ (heap_ltN HX2.out)).trans HX2.out)
    have HT3 := hide (HTV.out.below hb3)
    clear hb3 HBW HTV HX2 HB2
    have HSB : Hid (w.heap.size + 1 < w1.heap.size) := hide (heap_ltN HY1.out)
    obtain ⟨is, his⟩ : ∃ b, b = hasK p.keys key := ⟨_, rfl⟩
    obtain ⟨lo, hlo⟩ : ∃ b, b = lowK p.keys key := ⟨_, rfl⟩
    rw [← his, ← hlo]
    have HIS := hide (And.intro his hlo)
    clear his hlo
    have HFEW : Hid (n2 ≤ 4096 ∧ m2 = n2 ∧ p.keys.length = n2 ∧ p.vals.length = n2 ∧ lo ≤ n2) := hide (by
      have h1 := check_few HE.out.symm
      have h2 := (leafE_few HLE.out).2
      have h3 := lowK_le p.keys key
      rw [← HIS.out.2] at h3
      have h4 := HLN.out
      omega)
    have HIK : Hid (j2 = 0 ∧ j2 ≤ l2 ∧ l2 ≤ maxLen ∧ (i2 = none → l2 = 0)) := hide (by
      have h1 := HT3.out.ki
      rw [(leafE_few HLE.out).1] at h1
      exact ⟨h1.1.symm, h1.2.1, h1.2.2.1, h1.2.2.2.1⟩)
    have HR1 := hide (HT3.out.rk.mono (base' := w1.heap.size) (by omega))
    have HR2 := hide (HT3.out.rv.mono (base' := w1.heap.size) (by omega))
    have HAP : Hid (∀ b off b' off', k2 = some ⟨b, off, none⟩ → x2 = some ⟨b', off', none⟩ → b < b') := hide (fun b off b' off' e e' => Nat.lt_of_lt_of_le (HT3.out.am b off e) (HT3.out.bm b' off' e'))
    dsimp only at HR1 HR2
    clear HT3
    obtain rfl : m2 = n2 := HFEW.out.2.1
    have HSG : Hid (w1.heap.size ≤ w3.heap.size) := hide HB3.out.size
    cases is with
    | true =>
      have HLO : Hid (lo < m2) := hide (by
        have h1 := hasK_at (l := p.keys) (k := key) HIS.out.1.symm
        rw [← HIS.out.2, HFEW.out.2.2.1] at h1
        exact h1.1)
      have HPP : Hid (putP p key val = ⟨true, p.keys, p.vals.set lo val, []⟩) := hide (by unfold putP; rw [← HIS.out.1, if_pos rfl, ← HIS.out.2])
      obtain ⟨b2, rfl⟩ : ∃ b2, x2 = some ⟨b2, 0, none⟩ := by
        rcases HR2.out.own.2 with ⟨e, e0⟩ | ⟨g, cap, cur, e, _⟩
        · have := HLO.out; omega
        · cases e; exact ⟨g, rfl⟩
      have HRB := hide (fun (W : World) (hW : Below w1.heap.size w1 W) => rbytes_any ya yn yc val W ((HVL.out.below HB1.out).below hW) (by omega))
      have HS : Hid (∀ W : World, Below w3.heap.size w3 W → W.cell? ⟨X, 2, none⟩ = some (.slice (some ⟨b2, 0, none⟩) m2 d2)) := hide (fun W hW => cell_blkN ((hW.block _ (heap_ltN HX3.out)).trans HX3.out) rfl)
      have hloI : (lo : Int) < (m2 : Int) := by have := HLO.out; omega
      have hlo0 : (0 : Int) ≤ (lo : Int) := by omega
      have x2' : w3.cell? ⟨X, 2, none⟩ = some (.slice (some ⟨b2, 0, none⟩) m2 d2) := cell_blkN HX3.out rfl
      go_wp2_with fail
      clear x2'
      refine wp_region_held_drew (S := fun W : World => W.cell? ⟨X, 2, none⟩ = some (.slice (some ⟨b2, 0, none⟩) m2 d2)) (by kernel_rfl) ?hSpu (fun hHeld => ?_)
      case hSpu => exact HS.out _ (Below.refl _ _).drew
      refine hTake (i := 0) (v := ?v0pu) (some 43) rfl rfl (by kernel_rfl) (by kernel_rfl) (by kernel_rfl) (fun _ _ _ h => h) (by rfl) (by assumption) ?hy0pu ?hn0pu
      case hy0pu => (intro w hSw; (try dsimp only at hSw); skip; go_simp; try with_reducible rfl)
      try simp only [Act.put, List.setIfInBounds_toArray, List.set_cons_zero, List.set_cons_succ]
      refine hTake (i := 1) (v := ?v1pu) (some 44) rfl rfl (by kernel_rfl) (by kernel_rfl) (by kernel_rfl) (fun _ _ _ h => h) (by rfl) (by assumption) ?hy1pu ?hn1pu
      case hy1pu => (intro w hSw; (try dsimp only at hSw); skip; go_simp; try with_reducible rfl)
      try simp only [Act.put, List.setIfInBounds_toArray, List.set_cons_zero, List.set_cons_succ]
      refine hTake (i := 2) (v := ?v2pu) (some 45) rfl rfl (by kernel_rfl) (by kernel_rfl) (by kernel_rfl) (fun _ _ _ h => h) (by rfl) (by assumption) ?hy2pu ?hn2pu
      case hy2pu => (intro w hSw; (try dsimp only at hSw); skip; go_simp; try with_reducible rfl)
      try simp only [Act.put, List.setIfInBounds_toArray, List.set_cons_zero, List.set_cons_succ]
      refine hTake (i := 3) (v := ?v3pu) (some 46) rfl rfl (by kernel_rfl) (by kernel_rfl) (by kernel_rfl) (fun _ _ _ h => h) (by rfl) (by assumption) ?hy3pu ?hn3pu
      case hy3pu => (intro w hSw; (try dsimp only at hSw); skip; go_simp; try with_reducible rfl)
      try simp only [Act.put, List.setIfInBounds_toArray, List.set_cons_zero, List.set_cons_succ]
      obtain ⟨Wd, hWd⟩ : ∃ Wd, Wd = w3.drew := ⟨_, rfl⟩
      have HBD : Hid (Below w3.heap.size w3 Wd) := hide (by rw [hWd]; exact (Below.refl _ _).drew)
      rw [← hWd]
      clear hWd
      refine hOne (i := 4) rfl (by kernel_rfl) (fun K hK => ?_)
      go_simp
      refine (HRB.out Wd (HB3.out.trans (HBD.out.mono HB3.out.size))).mono ?_
      rintro e w4 ⟨a5, c5, rfl, hI5, hN5, hb5⟩
      have HQ4 : Hid (Below w3.heap.size w3 w4) := hide (HBD.out.trans (hb5.mono HBD.out.size))
      have HV4 : Hid (IsB w4 a5 yn c5 val ∧ NewB w4 (w1.heap.size) a5) := hide ⟨hI5, fun b off e => ⟨Nat.le_trans (Nat.le_trans HSG.out HBD.out.size) (hN5 b off e).1, (hN5 b off e).2⟩⟩
      clear hI5 hN5 hb5
      refine hK.out _ _ (HS.out _ HQ4.out) (fun hHeld => ?_)
      clear hK K
      try simp only [Act.put, List.setIfInBounds_toArray, List.set_cons_zero, List.set_cons_succ]
      refine hTake (i := 5) (v := ?v5pu) (some 48) rfl rfl (by kernel_rfl) (by kernel_rfl) (by kernel_rfl) (fun _ _ _ h => h) (by rfl) (by assumption) ?hy5pu ?hn5pu
      case hy5pu => (intro w hSw; (try dsimp only at hSw); skip; go_simp; try with_reducible rfl)
      try simp only [Act.put, List.setIfInBounds_toArray, List.set_cons_zero, List.set_cons_succ]
      have HCE := hide ((HR2.out.below HQ4.out).cell HFEW.out.2.2.2.1 HLO.out)
      obtain ⟨a9, m9, d9, hz9⟩ := HCE.out.1
      have hf9 := HCE.out.2.1
      obtain ⟨W5, hW5⟩ : ∃ W, W = w4.setCell ⟨b2, lo, none⟩ (.slice a5 yn c5) := ⟨_, rfl⟩
      have HW5 := hide hW5
      have HS5 : Hid (W5.cell? ⟨X, 2, none⟩ = some (.slice (some ⟨b2, 0, none⟩) m2 d2)) := hide (by
        rw [hW5]
        refine (World.cell?_of_block (Below.heap_setCell _ _ _ _ (fun e => ?_))).trans (HS.out _ HQ4.out)
        have e' : X = b2 := e
        obtain ⟨cur, hc⟩ := HCE.out.2.2
        have hx := (HQ4.out.block _ (heap_ltN HX3.out)).trans HX3.out
        rw [e', hc] at hx
        cases hx)
      refine hOne (i := 6) rfl (by kernel_rfl) (fun K hK => ?_)
      go_simp
      rw [← hW5]
      clear hW5 hz9 hf9
      refine hK.out _ _ (HS5.out) (fun hHeld => ?_)
      clear hK K
      try simp only [Act.put, List.setIfInBounds_toArray, List.set_cons_zero, List.set_cons_succ]
      refine wpAnyH_done (by kernel_rfl) ?_ _
      have HXW : Hid (W5.heap[X]? = some (.cells #[.bool true, .slice k2 m2 c2, .slice (some ⟨b2, 0, none⟩) m2 d2, .slice i2 j2 l2] 25 (0, 0))) := hide (by
        rw [HW5.out]
        refine (Below.heap_setCell _ _ _ _ (fun e => ?_)).trans ((HQ4.out.block _ (heap_ltN HX3.out)).trans HX3.out)
        have e' : X = b2 := e
        obtain ⟨cur, hc⟩ := HCE.out.2.2
        have hx := (HQ4.out.block _ (heap_ltN HX3.out)).trans HX3.out
        rw [e', hc] at hx
        cases hx)
      have HTW : Hid (PgT W5 (w1.heap.size) ⟨k2, m2, c2, some ⟨b2, 0, none⟩, m2, d2, i2, j2, l2⟩ (putP p key val)) := hide (by
        rw [HPP.out, HW5.out]
        obtain ⟨cur, hc⟩ := HCE.out.2.2
        refine ⟨⟨xs, (HR1.out.below HQ4.out).other hc (fun e => ?_) _⟩, ⟨_, (HR2.out.below HQ4.out).store HLO.out HV4.out.1 HV4.out.2⟩, ⟨HIK.out.1, rfl, HIK.out.2⟩, HFEW.out.2.2.1, by show (p.vals.set lo val).length = _; rw [List.length_set]; exact HFEW.out.2.2.2.1⟩
        rcases HR1.out.own.2 with ⟨e1, _⟩ | ⟨g, cap, cur', e1, _⟩
        · rw [e1] at e; cases e
        · cases e1
          have e2 : g = b2 := by simpa [Value.ownBlock] using e
          have := HAP.out g 0 b2 0 rfl rfl
          omega)
      have HBW : Hid (Below w1.heap.size w1 W5) := hide (by
        rw [HW5.out]
        have h1 := HB3.out.trans (HQ4.out.mono HB3.out.size)
        refine h1.setCell ?_ _
        rcases HR2.out.own.2 with ⟨e1, _⟩ | ⟨g, cap, cur', e1, hb, _⟩
        · cases e1
        · cases e1
          show w1.heap.size ≤ b2
          omega)
      have HFP : Hid (FewP ⟨k2, m2, c2, some ⟨b2, 0, none⟩, m2, d2, i2, j2, l2⟩) := hide (by have := HFEW.out; have := HIK.out; refine ⟨?_, ?_, ?_⟩ <;> dsimp only <;> omega)
      clear HS HRB HQ4 HV4 HCE HW5 hHeld HR1 HR2
      have HRS := hide (rsize_any ⟨k2, m2, c2, some ⟨b2, 0, none⟩, m2, d2, i2, j2, l2⟩ (putP p key val) W5 HTW.out.is HFP.out)
      rw [putP_leaf] at HRS
      obtain ⟨sz, hsz⟩ : ∃ s, s = sizeE (putP p key val) := ⟨_, rfl⟩
      rw [← hsz] at HRS HRR
      clear hsz
      have p0 : W5.cell? ⟨X, 0, none⟩ = some (.bool true) := cell_blkN HXW.out rfl
      have p1 : W5.cell? ⟨X, 1, none⟩ = some (.slice k2 m2 c2) := cell_blkN HXW.out rfl
      have p2 : W5.cell? ⟨X, 2, none⟩ = some (.slice (some ⟨b2, 0, none⟩) m2 d2) := cell_blkN HXW.out rfl
      have p3 : W5.cell? ⟨X, 3, none⟩ = some (.slice i2 j2 l2) := cell_blkN HXW.out rfl
      go_wp2_with fail
      clear p0 p1 p2 p3
      refine HRS.out.mono ?_
      rintro e w8 ⟨rfl, hb8⟩
      have HB8 : Hid (Below w1.heap.size w1 w8) := hide (HBW.out.trans (hb8.mono HBW.out.size))
      have HX8 : Hid (w8.heap[X]? = some (.cells #[.bool true, .slice k2 m2 c2, .slice (some ⟨b2, 0, none⟩) m2 d2, .slice i2 j2 l2] 25 (0, 0))) := hide ((hb8.block _ (heap_ltN HXW.out)).trans HXW.out)
      have HT8 := hide (HTW.out.below hb8)
      have HY8 : Hid (w8.heap[w.heap.size + 1]? = some (.cells #[.bool false, .slice none 0 0, .slice none 0 0, .slice none 0 0] 25 (0, 0))) := hide ((HB8.out.block _ (heap_ltN HY1.out)).trans HY1.out)
      clear hb8 HRS HTW HXW HBW
      have x0' : w8.cell? ⟨X, 0, none⟩ = some (.bool true) := cell_blkN HX8.out rfl
      have x1' : w8.cell? ⟨X, 1, none⟩ = some (.slice k2 m2 c2) := cell_blkN HX8.out rfl
      have x2' : w8.cell? ⟨X, 2, none⟩ = some (.slice (some ⟨b2, 0, none⟩) m2 d2) := cell_blkN HX8.out rfl
      have x3' : w8.cell? ⟨X, 3, none⟩ = some (.slice i2 j2 l2) := cell_blkN HX8.out rfl
      have y0 : w8.cell? ⟨w.heap.size + 1, 0, none⟩ = some (.bool false) := cell_blkN HY8.out rfl
      have f0 := frzN HY8.out 0
      have y1 : w8.cell? ⟨w.heap.size + 1, 1, none⟩ = some (.slice none 0 0) := cell_blkN HY8.out rfl
      have f1 := frzN HY8.out 1
      have y2 : w8.cell? ⟨w.heap.size + 1, 2, none⟩ = some (.slice none 0 0) := cell_blkN HY8.out rfl
      have f2 := frzN HY8.out 2
      have y3 : w8.cell? ⟨w.heap.size + 1, 3, none⟩ = some (.slice none 0 0) := cell_blkN HY8.out rfl
      have f3 := frzN HY8.out 3
      have HFI : Hid (IsG (set4 w8 (w.heap.size + 1) (.bool true) (.slice k2 m2 c2) (.slice (some ⟨b2, 0, none⟩) m2 d2) (.slice i2 j2 l2)) ⟨k2, m2, c2, some ⟨b2, 0, none⟩, m2, d2, i2, j2, l2⟩ (putP p key val)) := hide (HT8.out.set4 (B := w.heap.size + 1) (by have := HSB.out; omega) _ _ _ _).is
      have HBF : Hid (∀ a b c d, Below w.heap.size w (set4 w8 (w.heap.size + 1) a b c d)) := hide (fun a b c d => below4 (HB1.out.trans (HB8.out.mono HB1.out.size)) (by omega) _ _ _ _)
      clear HT8
      by_cases hg : 4096 < sz
      · have HF : Hid (R = (Pg0, 7)) := hide (by rw [HRR.out, if_pos hg])
        go_wp2
        (try simp only [Exit.inBlock, Exit.then])
        refine bodyPost_ret (resP2 rfl _ _ (w.heap.size + 1) #[.bool false, .slice none 0 0, .slice none 0 0, .slice none 0 0] (blk4 HY8.out _ _ _ _) rfl rfl) rfl ?_
        exact ⟨Pv0, by rw [HF.out]; rfl, by rw [HF.out]; exact isG_0 _, HBF.out _ _ _ _⟩
      · have HF : Hid (R = (putP p key val, 0)) := hide (by rw [HRR.out, if_neg hg])
        go_wp2
        (try simp only [Exit.inBlock, Exit.then])
        refine bodyPost_ret (resP2 rfl _ _ (w.heap.size + 1) #[.bool true, .slice k2 m2 c2, .slice (some ⟨b2, 0, none⟩) m2 d2, .slice i2 j2 l2] (blk4 HY8.out _ _ _ _) rfl rfl) rfl ?_
        exact ⟨⟨k2, m2, c2, some ⟨b2, 0, none⟩, m2, d2, i2, j2, l2⟩, by rw [HF.out, putP_leaf]; rfl, by rw [HF.out]; exact HFI.out, HBF.out _ _ _ _⟩
    | false =>
      have HPP : Hid (putP p key val = ⟨true, insL p.keys lo key, insL p.vals lo val, []⟩) := hide (by unfold putP; rw [← HIS.out.1, if_neg (by decide), ← HIS.out.2])
      have HN1 : Hid (k2 = none ∨ ∃ b off, k2 = some ⟨b, off, none⟩) := hide (by
        rcases HR1.out.own.2 with ⟨e, _⟩ | ⟨g, cap, cur, e, _⟩
        · cases e; exact .inl rfl
        · cases e; exact .inr ⟨g, 0, rfl⟩)
      have HN2 : Hid (x2 = none ∨ ∃ b off, x2 = some ⟨b, off, none⟩) := hide (by
        rcases HR2.out.own.2 with ⟨e, _⟩ | ⟨g, cap, cur, e, _⟩
        · cases e; exact .inl rfl
        · cases e; exact .inr ⟨g, 0, rfl⟩)
      have HW1 := hide (rwith_T k2 m2 c2 lo (w1.heap.size) xs p.keys xa xn xc key w3 HR1.out HFEW.out.2.2.1 HSG.out (by have := HFEW.out; omega) HFEW.out.2.2.2.2 ((HK.out.below HB1.out).below HB3.out) (by omega) HN1.out)
      have x1' : w3.cell? ⟨X, 1, none⟩ = some (.slice k2 m2 c2) := cell_blkN HX3.out rfl
      go_wp2_with fail
      refine HW1.out.mono ?_
      rintro e w4 ⟨a4, c4, zs4, rfl, hR4, hN4, hb4⟩
      have HX4 : Hid (w4.heap[X]? = some (.cells #[.bool true, .slice k2 m2 c2, .slice x2 m2 d2, .slice i2 j2 l2] 25 (0, 0))) := hide ((hb4.block _ (heap_ltN HX3.out)).trans HX3.out)
      obtain ⟨W4, hW4⟩ : ∃ W, W = w4.setCell ⟨X, 1, none⟩ (.slice a4 (m2 + 1) c4) := ⟨_, rfl⟩
      have HB4 : Hid (Below w1.heap.size w1 W4) := hide (by rw [hW4]; have := HB3.out.trans (hb4.mono HB3.out.size); exact this.setCell HXG.out _)
      have HX5 : Hid (W4.heap[X]? = some (.cells #[.bool true, .slice a4 (m2 + 1) c4, .slice x2 m2 d2, .slice i2 j2 l2] 25 (0, 0))) := hide (by rw [hW4, blk_setN HX4.out]; rfl)
      have HR4 := hide (by have := hR4.setX HX4.out 1 (.slice a4 (m2 + 1) c4); rw [← hW4] at this; exact this)
      have HR5 := hide (by have := (HR2.out.below hb4).setX HX4.out 1 (.slice a4 (m2 + 1) c4); rw [← hW4] at this; exact this)
      have HSZ4 : Hid (w1.heap.size ≤ W4.heap.size) := hide (by
        rw [hW4]
        have h1 := hb4.size
        have h2 := HSG.out
        have h3 : (w4.setCell ⟨X, 1, none⟩ (.slice a4 (m2 + 1) c4)).heap.size = w4.heap.size := by simp [World.setCell]
        omega)
      have HW2 := hide (rwith_T x2 m2 d2 lo (w1.heap.size) ys p.vals ya yn yc val W4 HR5.out HFEW.out.2.2.2.1 HSZ4.out (by have := HFEW.out; omega) HFEW.out.2.2.2.2 ((HVL.out.below HB1.out).below HB4.out) (by omega) HN2.out)
      have z1 : w4.cell? ⟨X, 1, none⟩ = some (.slice k2 m2 c2) := cell_blkN HX4.out rfl
      have g1 := frzN HX4.out 1
      have x2' : W4.cell? ⟨X, 2, none⟩ = some (.slice x2 m2 d2) := cell_blkN HX5.out rfl
      rw [hW4] at x2'
      clear hR4 hN4 hb4 x1' HW1
      go_wp2_with fail
      try rw [← hW4]
      clear hW4 z1 g1 x2'
      refine HW2.out.mono ?_
      rintro e w6 ⟨a6, c6, zs6, rfl, hR6, hN6, hb6⟩
      have HX6 : Hid (w6.heap[X]? = some (.cells #[.bool true, .slice a4 (m2 + 1) c4, .slice x2 m2 d2, .slice i2 j2 l2] 25 (0, 0))) := hide ((hb6.block _ (heap_ltN HX5.out)).trans HX5.out)
      obtain ⟨W6, hW6⟩ : ∃ W, W = w6.setCell ⟨X, 2, none⟩ (.slice a6 (m2 + 1) c6) := ⟨_, rfl⟩
      have HBW : Hid (Below w1.heap.size w1 W6) := hide (by rw [hW6]; have := HB4.out.trans (hb6.mono HB4.out.size); exact this.setCell HXG.out _)
      have HXW : Hid (W6.heap[X]? = some (.cells #[.bool true, .slice a4 (m2 + 1) c4, .slice a6 (m2 + 1) c6, .slice i2 j2 l2] 25 (0, 0))) := hide (by rw [hW6, blk_setN HX6.out]; rfl)
      have HTW : Hid (PgT W6 (w1.heap.size) ⟨a4, m2 + 1, c4, a6, m2 + 1, c6, i2, j2, l2⟩ (putP p key val)) := hide (by
        have h1 := (HR4.out.below hb6).setX HX6.out 2 (.slice a6 (m2 + 1) c6)
        have h2 := hR6.setX HX6.out 2 (.slice a6 (m2 + 1) c6)
        rw [← hW6] at h1 h2
        rw [HPP.out]
        exact ⟨⟨_, h1⟩, ⟨_, h2⟩, ⟨HIK.out.1, rfl, HIK.out.2⟩, by show (insL p.keys lo key).length = _; rw [insL_len, HFEW.out.2.2.1], by show (insL p.vals lo val).length = _; rw [insL_len, HFEW.out.2.2.2.1]⟩)
      have HFP : Hid (FewP ⟨a4, m2 + 1, c4, a6, m2 + 1, c6, i2, j2, l2⟩) := hide (by have := HFEW.out; have := HIK.out; refine ⟨?_, ?_, ?_⟩ <;> dsimp only <;> omega)
      have z2 : w6.cell? ⟨X, 2, none⟩ = some (.slice x2 m2 d2) := cell_blkN HX6.out rfl
      have g2 := frzN HX6.out 2
      clear hR6 hN6 hb6 HW2 HR4 HR5 HR1 HR2
      have HRS := hide (rsize_any ⟨a4, m2 + 1, c4, a6, m2 + 1, c6, i2, j2, l2⟩ (putP p key val) W6 HTW.out.is HFP.out)
      rw [putP_leaf] at HRS
      obtain ⟨sz, hsz⟩ : ∃ s, s = sizeE (putP p key val) := ⟨_, rfl⟩
      rw [← hsz] at HRS HRR
      clear hsz
      have p0 : W6.cell? ⟨X, 0, none⟩ = some (.bool true) := cell_blkN HXW.out rfl
      have p1 : W6.cell? ⟨X, 1, none⟩ = some (.slice a4 (m2 + 1) c4) := cell_blkN HXW.out rfl
      have p2 : W6.cell? ⟨X, 2, none⟩ = some (.slice a6 (m2 + 1) c6) := cell_blkN HXW.out rfl
      have p3 : W6.cell? ⟨X, 3, none⟩ = some (.slice i2 j2 l2) := cell_blkN HXW.out rfl
      rw [hW6] at p0 p1 p2 p3
      go_wp2_with fail
      rw [← hW6]
      clear p0 p1 p2 p3 hW6 z2 g2
      refine HRS.out.mono ?_
      rintro e w8 ⟨rfl, hb8⟩
      have HB8 : Hid (Below w1.heap.size w1 w8) := hide (HBW.out.trans (hb8.mono HBW.out.size))
      have HX8 : Hid (w8.heap[X]? = some (.cells #[.bool true, .slice a4 (m2 + 1) c4, .slice a6 (m2 + 1) c6, .slice i2 j2 l2] 25 (0, 0))) := hide ((hb8.block _ (heap_ltN HXW.out)).trans HXW.out)
      have HT8 := hide (HTW.out.below hb8)
      have HY8 : Hid (w8.heap[w.heap.size + 1]? = some (.cells #[.bool false, .slice none 0 0, .slice none 0 0, .slice none 0 0] 25 (0, 0))) := hide ((HB8.out.block _ (heap_ltN HY1.out)).trans HY1.out)
      clear hb8 HRS HTW HXW HBW
      have x0' : w8.cell? ⟨X, 0, none⟩ = some (.bool true) := cell_blkN HX8.out rfl
      have x1' : w8.cell? ⟨X, 1, none⟩ = some (.slice a4 (m2 + 1) c4) := cell_blkN HX8.out rfl
      have x2' : w8.cell? ⟨X, 2, none⟩ = some (.slice a6 (m2 + 1) c6) := cell_blkN HX8.out rfl
      have x3' : w8.cell? ⟨X, 3, none⟩ = some (.slice i2 j2 l2) := cell_blkN HX8.out rfl
      have y0 : w8.cell? ⟨w.heap.size + 1, 0, none⟩ = some (.bool false) := cell_blkN HY8.out rfl
      have f0 := frzN HY8.out 0
      have y1 : w8.cell? ⟨w.heap.size + 1, 1, none⟩ = some (.slice none 0 0) := cell_blkN HY8.out rfl
      have f1 := frzN HY8.out 1
      have y2 : w8.cell? ⟨w.heap.size + 1, 2, none⟩ = some (.slice none 0 0) := cell_blkN HY8.out rfl
      have f2 := frzN HY8.out 2
      have y3 : w8.cell? ⟨w.heap.size + 1, 3, none⟩ = some (.slice none 0 0) := cell_blkN HY8.out rfl
      have f3 := frzN HY8.out 3
      have HFI : Hid (IsG (set4 w8 (w.heap.size + 1) (.bool true) (.slice a4 (m2 + 1) c4) (.slice a6 (m2 + 1) c6) (.slice i2 j2 l2)) ⟨a4, m2 + 1, c4, a6, m2 + 1, c6, i2, j2, l2⟩ (putP p key val)) := hide (HT8.out.set4 (B := w.heap.size + 1) (by have := HSB.out; omega) _ _ _ _).is
      have HBF : Hid (∀ a b c d, Below w.heap.size w (set4 w8 (w.heap.size + 1) a b c d)) := hide (fun a b c d => below4 (HB1.out.trans (HB8.out.mono HB1.out.size)) (by omega) _ _ _ _)
      clear HT8
      by_cases hg : 4096 < sz
      · have HF : Hid (R = (Pg0, 7)) := hide (by rw [HRR.out, if_pos hg])
        go_wp2
        (try simp only [Exit.inBlock, Exit.then])
        refine bodyPost_ret (resP2 rfl _ _ (w.heap.size + 1) #[.bool false, .slice none 0 0, .slice none 0 0, .slice none 0 0] (blk4 HY8.out _ _ _ _) rfl rfl) rfl ?_
        exact ⟨Pv0, by rw [HF.out]; rfl, by rw [HF.out]; exact isG_0 _, HBF.out _ _ _ _⟩
      · have HF : Hid (R = (putP p key val, 0)) := hide (by rw [HRR.out, if_neg hg])
        go_wp2
        (try simp only [Exit.inBlock, Exit.then])
        refine bodyPost_ret (resP2 rfl _ _ (w.heap.size + 1) #[.bool true, .slice a4 (m2 + 1) c4, .slice a6 (m2 + 1) c6, .slice i2 j2 l2] (blk4 HY8.out _ _ _ _) rfl rfl) rfl ?_
        exact ⟨⟨a4, m2 + 1, c4, a6, m2 + 1, c6, i2, j2, l2⟩, by rw [HF.out, putP_leaf]; rfl, by rw [HF.out]; exact HFI.out, HBF.out _ _ _ _⟩
end Go.Proofs.Ytebikoekpbnpbaa
