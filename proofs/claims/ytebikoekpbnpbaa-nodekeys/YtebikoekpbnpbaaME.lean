/- Merge, where it does not refuse -/
import Derived.Test.YtebikoekpbnpbaaMD
import Derived.Test.YtebikoekpbnpbaaPB
namespace Go.Proofs.Ytebikoekpbnpbaa
open Go.RowKit Cod
set_option maxRecDepth 100000
set_option linter.unusedVariables false
set_option linter.unusedSimpArgs false
/-- checked, at a right page -/
theorem checked_ok (v : Pv) (p : Pg) (w : World) (h : IsG w v p) (hc : FewP v) (he : checkE p = 0) {lf : Bool} (hl : p.leaf = lf) :
    Calls Try.prog 52 #[.agg (pgc lf v)] w fun e w' => e = .returned (.tuple #[.agg (pgc lf v), .int .i64 0]) ∧ Below w.heap.size w w' := by
  have := checked_any v p w h hc
  unfold ckP at this
  rw [he, if_pos rfl, hl] at this
  exact this
set_option maxHeartbeats 4000000 in
theorem merge_leaf (v1 : Pv) (pa : Pg) (v2 : Pv) (pb : Pg) (xa : Option Addr) (xn xc : Nat) (w : World) (h1 : IsG w v1 pa) (h2 : IsG w v2 pb) (hc1 : FewP v1) (hc2 : FewP v2) (e1 : checkE pa = 0) (e2 : checkE pb = 0) (l1 : pa.leaf = true) (l2 : pb.leaf = true) (hq : checkE ⟨true, pa.keys ++ pb.keys, pa.vals ++ pb.vals, []⟩ = 0) :
    Calls Try.prog 31 #[.agg (pgc true v1), .slice xa xn xc, .agg (pgc true v2)] w fun e w' => ∃ v', e = .returned (.tuple #[.agg (pgc true v'), .int .i64 0]) ∧ NwG w' (w.heap.size + 2) v' ⟨true, pa.keys ++ pb.keys, pa.vals ++ pb.vals, []⟩ ∧ Below w.heap.size w w' := by
  obtain ⟨V0, hV0⟩ : ∃ V0, V0 = ((w.alloc (.cells (pgc true v1) 25)).alloc (.cells (pgc true v2) 25)).alloc (.cells pg0c 25) := ⟨_, rfl⟩
  have HS0 : Hid (V0.heap.size = w.heap.size + 3) := hide (by rw [hV0]; simp)
  have HB0 : Hid (Below w.heap.size w V0) := hide (by rw [hV0]; exact (((Below.refl _ w).alloc (Nat.le_refl _) _).alloc (by simp) _).alloc (by simp; omega) _)
  have HX : Hid (V0.heap[w.heap.size]? = some (.cells (pgc true v1) 25 (0, 0))) := hide (by rw [hV0, heap_al, heap_al, heap_al, World.size_alloc, World.size_alloc, if_neg (by omega), if_neg (by omega), if_pos rfl])
  have HY : Hid (V0.heap[w.heap.size + 1]? = some (.cells (pgc true v2) 25 (0, 0))) := hide (by rw [hV0, heap_al, heap_al, World.size_alloc, World.size_alloc, if_neg (by omega), if_pos rfl])
  have HZ : Hid (V0.heap[w.heap.size + 1 + 1]? = some (.cells pg0c 25 (0, 0))) := hide (by rw [hV0, heap_al, World.size_alloc, World.size_alloc, if_pos rfl])
  have HCK1 := hide (check_any v1 pa V0 (h1.below HB0.out) hc1)
  rw [e1, l1] at HCK1
  have HCK2 : Hid (∀ W, Below w.heap.size w W → Calls Try.prog 18 #[.agg (pgc true v2)] W fun e w' => e = .returned (.int .i64 0) ∧ Below W.heap.size W w') := hide (fun W hW => by
    have := check_any v2 pb W (h2.below hW) hc2
    rw [e2, l2] at this
    exact this)
  have HKS1 := hide (kind_short (check_kind e1))
  have HKS2 := hide (kind_short (check_kind e2))
  have HF1 := hide (check_few e1)
  have HF2 := hide (check_few e2)
  have HFQ := hide (check_few hq)
  have HG1 := hide h1
  have HG2 := hide h2
  have HE := hide hq
  clear h1 h2 hc1 hc2 e1 e2 l1 l2 hq
  obtain ⟨ka, kn, kc, va, vn, vc, ia, inn, ic⟩ := v1
  obtain ⟨kb, km, kd, vb, vm, vd, ib, im, id'⟩ := v2
  try dsimp only at HX HY HZ HCK1 HCK2
  try dsimp only
  obtain ⟨q0, q1, q2, q3⟩ := BlkG.cells HX.out
  obtain ⟨r0, r1, r2, r3⟩ := BlkG.cells HY.out
  try dsimp only at q0 q1 q2 q3 r0 r1 r2 r3
  go_enter Try.func31, Try.ntmps31
  go_wp2_with fail
  try rw [← hV0]
  refine HCK1.out.mono ?_
  rintro e w1 ⟨rfl, hb1⟩
  have HQ1 : Hid (Below V0.heap.size V0 w1) := hide hb1
  have HB1 : Hid (Below w.heap.size w w1) := hide (HB0.out.trans (hb1.mono HB0.out.size))
  clear hb1 HCK1 q0 q1 q2 q3 r0 r1 r2 r3
  obtain ⟨r0, r1, r2, r3⟩ := BlkG.cells ((HQ1.out.block _ (heap_ltN HY.out)).trans HY.out)
  try dsimp only at r0 r1 r2 r3
  go_wp2_with fail
  refine (HCK2.out w1 HB1.out).mono ?_
  rintro e w2 ⟨rfl, hb2⟩
  have HQ2 : Hid (Below V0.heap.size V0 w2) := hide (HQ1.out.trans (hb2.mono HQ1.out.size))
  have HB2 : Hid (Below w.heap.size w w2) := hide (HB1.out.trans (hb2.mono HB1.out.size))
  have HX2 : Hid (w2.heap[w.heap.size]? = some (.cells #[.bool true, .slice ka kn kc, .slice va vn vc, .slice ia inn ic] 25 (0, 0))) := hide ((HQ2.out.block _ (heap_ltN HX.out)).trans HX.out)
  have HY2 : Hid (w2.heap[w.heap.size + 1]? = some (.cells #[.bool true, .slice kb km kd, .slice vb vm vd, .slice ib im id'] 25 (0, 0))) := hide ((HQ2.out.block _ (heap_ltN HY.out)).trans HY.out)
  have HZ2 : Hid (w2.heap[w.heap.size + 1 + 1]? = some (.cells pg0c 25 (0, 0))) := hide ((HQ2.out.block _ (heap_ltN HZ.out)).trans HZ.out)
  have HLW : Hid (w.heap.size + 2 ≤ w2.heap.size) := hide (Nat.le_of_lt (heap_ltN HZ2.out))
  clear hb2 HCK2 r0 r1 r2 r3 HQ1 HQ2 HX HY HZ HB1 HB0 hV0 HS0
  obtain ⟨q0, q1, q2, q3⟩ := BlkG.cells (v := ⟨ka, kn, kc, va, vn, vc, ia, inn, ic⟩) HX2.out
  obtain ⟨r0, r1, r2, r3⟩ := BlkG.cells (v := ⟨kb, km, kd, vb, vm, vd, ib, im, id'⟩) HY2.out
  try dsimp only at q0 q1 q2 q3 r0 r1 r2 r3
  have HKN : Hid (pa.keys.length = kn ∧ pb.keys.length = km ∧ pa.vals.length = vn ∧ pb.vals.length = vm ∧ pa.kids.length = inn ∧ pb.kids.length = im) := hide ⟨HG1.out.keys.1, HG2.out.keys.1, HG1.out.vals.1, HG2.out.vals.1, HG1.out.kids.1, HG2.out.kids.1⟩
  have HNN : Hid (kn ≤ 4096 ∧ km ≤ 4096 ∧ vn ≤ 4096 ∧ vm ≤ 4096 ∧ inn ≤ 4096 ∧ im ≤ 4096) := hide (by
    have a := HKN.out; have b := HF1.out; have c := HF2.out
    rw [a.1, a.2.2.1, a.2.2.2.2.1] at b
    rw [a.2.1, a.2.2.2.1, a.2.2.2.2.2] at c
    omega)
  have HCw2 : Hid (Below w2.heap.size w2 w2) := hide (Below.refl _ _)
  have HS : Hid (∀ W : World, Below (w.heap.size + 2) w2 W → W.cell? ⟨w.heap.size, 1, none⟩ = some (.slice ka kn kc) ∧ W.cell? ⟨w.heap.size, 2, none⟩ = some (.slice va vn vc) ∧ W.cell? ⟨w.heap.size + 1, 1, none⟩ = some (.slice kb km kd) ∧ W.cell? ⟨w.heap.size + 1, 2, none⟩ = some (.slice vb vm vd)) := hide (fun W hW => ⟨cell_blkN ((hW.block _ (by omega)).trans HX2.out) rfl, cell_blkN ((hW.block _ (by omega)).trans HX2.out) rfl, cell_blkN ((hW.block _ (by omega)).trans HY2.out) rfl, cell_blkN ((hW.block _ (by omega)).trans HY2.out) rfl⟩)
  go_wp2_with fail
  clear q0 q1 q2 q3 r0 r1 r2 r3
  refine wp_region_held_drew (S := fun W : World => W.cell? ⟨w.heap.size, 1, none⟩ = some (.slice ka kn kc) ∧ W.cell? ⟨w.heap.size, 2, none⟩ = some (.slice va vn vc) ∧ W.cell? ⟨w.heap.size + 1, 1, none⟩ = some (.slice kb km kd) ∧ W.cell? ⟨w.heap.size + 1, 2, none⟩ = some (.slice vb vm vd)) (by kernel_rfl) ?hSa (fun hHeld => ?_)
  case hSa => exact HS.out _ (Below.refl _ _).drew
  refine hTake (i := 0) (v := ?v0u1) (some 31) rfl rfl (by kernel_rfl) (by kernel_rfl) (by kernel_rfl) (fun _ _ _ h => h) (by rfl) (by assumption) ?hy0u1 ?hn0u1
  case hy0u1 => (intro w hSw; (try dsimp only at hSw); go_simp; try with_reducible rfl)
  try simp only [Act.put, List.setIfInBounds_toArray, List.set_cons_zero, List.set_cons_succ]
  refine hTake (i := 1) (v := ?v1u2) (some 32) rfl rfl (by kernel_rfl) (by kernel_rfl) (by kernel_rfl) (fun _ _ _ h => h) (by rfl) (by assumption) ?hy1u2 ?hn1u2
  case hy1u2 => (intro w hSw; (try dsimp only at hSw); go_simp; try with_reducible rfl)
  try simp only [Act.put, List.setIfInBounds_toArray, List.set_cons_zero, List.set_cons_succ]
  refine hTake (i := 2) (v := ?v2u3) (some 33) rfl rfl (by kernel_rfl) (by kernel_rfl) (by kernel_rfl) (fun _ _ _ h => h) (by rfl) (by assumption) ?hy2u3 ?hn2u3
  case hy2u3 => (intro w hSw; (try dsimp only at hSw); go_simp; try with_reducible rfl)
  try simp only [Act.put, List.setIfInBounds_toArray, List.set_cons_zero, List.set_cons_succ]
  refine hTake (i := 3) (v := ?v3u4) (some 34) rfl rfl (by kernel_rfl) (by kernel_rfl) (by kernel_rfl) (fun _ _ _ h => h) (by rfl) (by assumption) ?hy3u4 ?hn3u4
  case hy3u4 => (intro w hSw; (try dsimp only at hSw); go_simp; try with_reducible rfl)
  try simp only [Act.put, List.setIfInBounds_toArray, List.set_cons_zero, List.set_cons_succ]
  refine hTake (i := 7) (v := ?v7u5) (some 38) rfl rfl (by kernel_rfl) (by kernel_rfl) (by kernel_rfl) (fun _ _ _ h => h) (by rfl) (by assumption) ?hy7u5 ?hn7u5
  case hy7u5 => (intro w hSw; (try dsimp only at hSw); go_simp; try with_reducible rfl)
  try simp only [Act.put, List.setIfInBounds_toArray, List.set_cons_zero, List.set_cons_succ]
  refine hTake (i := 8) (v := ?v8u6) (some 39) rfl rfl (by kernel_rfl) (by kernel_rfl) (by kernel_rfl) (fun _ _ _ h => h) (by rfl) (by assumption) ?hy8u6 ?hn8u6
  case hy8u6 => (intro w hSw; (try dsimp only at hSw); go_simp; try with_reducible rfl)
  try simp only [Act.put, List.setIfInBounds_toArray, List.set_cons_zero, List.set_cons_succ]
  refine hTake (i := 9) (v := ?v9u7) (some 40) rfl rfl (by kernel_rfl) (by kernel_rfl) (by kernel_rfl) (fun _ _ _ h => h) (by rfl) (by assumption) ?hy9u7 ?hn9u7
  case hy9u7 => (intro w hSw; (try dsimp only at hSw); go_simp; try with_reducible rfl)
  try simp only [Act.put, List.setIfInBounds_toArray, List.set_cons_zero, List.set_cons_succ]
  refine hTake (i := 10) (v := ?v10u8) (some 41) rfl rfl (by kernel_rfl) (by kernel_rfl) (by kernel_rfl) (fun _ _ _ h => h) (by rfl) (by assumption) ?hy10u8 ?hn10u8
  case hy10u8 => (intro w hSw; (try dsimp only at hSw); go_simp; try with_reducible rfl)
  try simp only [Act.put, List.setIfInBounds_toArray, List.set_cons_zero, List.set_cons_succ]
  obtain ⟨Wd, hWd⟩ : ∃ Wd, Wd = w2.drew := ⟨_, rfl⟩
  rw [← hWd]
  have HBnWd : Hid (Below w2.heap.size w2 Wd) := hide (by rw [hWd]; exact (Below.refl _ _).drew)
  clear hWd
  have HCWd : Hid (Below w2.heap.size w2 Wd) := hide (HCw2.out.trans (HBnWd.out.mono HCw2.out.size))
  refine hTwo (i := 4) (j := 11) rfl rfl (by kernel_rfl) (fun K hK => ?_) (fun K hK => ?_)
  · go_simp
    obtain ⟨W9, hc2⟩ : ∃ W, W = Wd.alloc (.cells #[.slice ka kn kc, .slice kb km kd] 22) := ⟨_, rfl⟩
    rw [← hc2]
    obtain ⟨qk, hq⟩ : ∃ q, q = Wd.heap.size := ⟨_, rfl⟩
    rw [← hq]
    have HRqk : Hid (W9.heap[qk]? = some (.cells #[.slice ka kn kc, .slice kb km kd] 22 (0, 0))) := hide (by rw [hc2, hq]; exact heap_alloc_new _ _)
    have HBnW9 : Hid (Below Wd.heap.size Wd W9) := hide (by rw [hc2]; exact (Below.refl _ _).alloc (Nat.le_refl _) _)
    clear hc2 hq
    have HCW9 : Hid (Below w2.heap.size w2 W9) := hide (HCWd.out.trans (HBnW9.out.mono HCWd.out.size))
    refine hK.out _ _ (HS.out _ (HCW9.out.mono HLW.out)) (fun hHeld => ?_)
    clear hK K
    try simp only [Act.put, List.setIfInBounds_toArray, List.set_cons_zero, List.set_cons_succ]
    refine hTwo (i := 5) (j := 11) rfl rfl (by kernel_rfl) (fun K hK => ?_) (fun K hK => ?_)
    · go_simp
      refine (cat2L qk ka kb kn kc km kd _ _ W9 HRqk.out ((HG1.out.keys.below HB2.out).below HCW9.out) ((HG2.out.keys.below HB2.out).below HCW9.out) (by have := HNN.out; omega)).mono ?_
      rintro e W10 ⟨ak, ckc, rfl, hck, hbn⟩
      have HBnW10 := hide hbn
      clear hbn
      have HCW10 : Hid (Below w2.heap.size w2 W10) := hide (HCW9.out.trans (HBnW10.out.mono HCW9.out.size))
      have rk_W10 := hide ((HBnW10.out.block _ (heap_ltN HRqk.out)).trans HRqk.out)
      clear HRqk
      have HCk := hide hck
      clear hck
      refine hK.out _ _ (HS.out _ (HCW10.out.mono HLW.out)) (fun hHeld => ?_)
      clear hK K
      try simp only [Act.put, List.setIfInBounds_toArray, List.set_cons_zero, List.set_cons_succ]
      refine hTwo (i := 6) (j := 11) rfl rfl (by kernel_rfl) (fun K hK => ?_) (fun K hK => ?_)
      · obtain ⟨gk, hgk⟩ : ∃ g, g = W10.heap.size := ⟨_, rfl⟩
        go_simp
        refine ((hgk ▸ clones_any ak (kn + km) ckc _ W10 HCk.out (by have := HNN.out; omega) (fun b hb => Nat.le_trans ((List.mem_append.1 hb).elim (HKS1.out.1 b) (HKS2.out.1 b)) (by decide)) : Calls Try.prog 49 #[.slice ak (kn + km) ckc] W10 fun e w' => ∃ sv, e = .returned (.slice (some ⟨gk, 0, none⟩) (kn + km) (kn + km)) ∧ OwnL w' gk (kn + km) sv (pa.keys ++ pb.keys) ∧ Below W10.heap.size W10 w')).mono ?_
        rintro e W11 ⟨svk, rfl, hok, hbn⟩
        have HBnW11 := hide hbn
        clear hbn
        have HCW11 : Hid (Below w2.heap.size w2 W11) := hide (HCW10.out.trans (HBnW11.out.mono HCW10.out.size))
        have rk_W11 := hide ((HBnW11.out.block _ (heap_ltN rk_W10.out)).trans rk_W10.out)
        clear rk_W10
        have ck_W11 := hide (HCk.out.below HBnW11.out)
        clear HCk
        have HOk := hide hok
        clear hok
        have HGk : Hid (w.heap.size + 2 < gk) := hide (by rw [hgk]; have := HCW10.out.size; have := heap_ltN HZ2.out; omega)
        clear hgk
        refine hK.out _ _ (HS.out _ (HCW11.out.mono HLW.out)) (fun hHeld => ?_)
        clear hK K
        try simp only [Act.put, List.setIfInBounds_toArray, List.set_cons_zero, List.set_cons_succ]
        refine hOne (i := 11) rfl (by kernel_rfl) (fun K hK => ?_)
        go_simp
        obtain ⟨W12, hc2⟩ : ∃ W, W = W11.alloc (.cells #[.slice va vn vc, .slice vb vm vd] 22) := ⟨_, rfl⟩
        rw [← hc2]
        obtain ⟨qv, hq⟩ : ∃ q, q = W11.heap.size := ⟨_, rfl⟩
        rw [← hq]
        have HRqv : Hid (W12.heap[qv]? = some (.cells #[.slice va vn vc, .slice vb vm vd] 22 (0, 0))) := hide (by rw [hc2, hq]; exact heap_alloc_new _ _)
        have HBnW12 : Hid (Below W11.heap.size W11 W12) := hide (by rw [hc2]; exact (Below.refl _ _).alloc (Nat.le_refl _) _)
        clear hc2 hq
        have HCW12 : Hid (Below w2.heap.size w2 W12) := hide (HCW11.out.trans (HBnW12.out.mono HCW11.out.size))
        have rk_W12 := hide ((HBnW12.out.block _ (heap_ltN rk_W11.out)).trans rk_W11.out)
        clear rk_W11
        have ck_W12 := hide (ck_W11.out.below HBnW12.out)
        clear ck_W11
        have ok_W12 := hide (HOk.out.below HBnW12.out)
        clear HOk
        refine hK.out _ _ (HS.out _ (HCW12.out.mono HLW.out)) (fun hHeld => ?_)
        clear hK K
        try simp only [Act.put, List.setIfInBounds_toArray, List.set_cons_zero, List.set_cons_succ]
        refine hOne (i := 12) rfl (by kernel_rfl) (fun K hK => ?_)
        go_simp
        refine (cat2L qv va vb vn vc vm vd _ _ W12 HRqv.out ((HG1.out.vals.below HB2.out).below HCW12.out) ((HG2.out.vals.below HB2.out).below HCW12.out) (by have := HNN.out; omega)).mono ?_
        rintro e W13 ⟨av, cvc, rfl, hcv, hbn⟩
        have HBnW13 := hide hbn
        clear hbn
        have HCW13 : Hid (Below w2.heap.size w2 W13) := hide (HCW12.out.trans (HBnW13.out.mono HCW12.out.size))
        have rk_W13 := hide ((HBnW13.out.block _ (heap_ltN rk_W12.out)).trans rk_W12.out)
        clear rk_W12
        have ck_W13 := hide (ck_W12.out.below HBnW13.out)
        clear ck_W12
        have ok_W13 := hide (ok_W12.out.below HBnW13.out)
        clear ok_W12
        have rv_W13 := hide ((HBnW13.out.block _ (heap_ltN HRqv.out)).trans HRqv.out)
        clear HRqv
        have HCv := hide hcv
        clear hcv
        refine hK.out _ _ (HS.out _ (HCW13.out.mono HLW.out)) (fun hHeld => ?_)
        clear hK K
        try simp only [Act.put, List.setIfInBounds_toArray, List.set_cons_zero, List.set_cons_succ]
        refine hOne (i := 13) rfl (by kernel_rfl) (fun K hK => ?_)
        obtain ⟨gv, hgv⟩ : ∃ g, g = W13.heap.size := ⟨_, rfl⟩
        go_simp
        refine ((hgv ▸ clones_any av (vn + vm) cvc _ W13 HCv.out (by have := HNN.out; omega) (fun b hb => Nat.le_trans ((List.mem_append.1 hb).elim (HKS1.out.2.1 b) (HKS2.out.2.1 b)) (by decide)) : Calls Try.prog 49 #[.slice av (vn + vm) cvc] W13 fun e w' => ∃ sv, e = .returned (.slice (some ⟨gv, 0, none⟩) (vn + vm) (vn + vm)) ∧ OwnL w' gv (vn + vm) sv (pa.vals ++ pb.vals) ∧ Below W13.heap.size W13 w')).mono ?_
        rintro e W14 ⟨svv, rfl, hov, hbn⟩
        have HBnW14 := hide hbn
        clear hbn
        have HCW14 : Hid (Below w2.heap.size w2 W14) := hide (HCW13.out.trans (HBnW14.out.mono HCW13.out.size))
        have rk_W14 := hide ((HBnW14.out.block _ (heap_ltN rk_W13.out)).trans rk_W13.out)
        clear rk_W13
        have ck_W14 := hide (ck_W13.out.below HBnW14.out)
        clear ck_W13
        have ok_W14 := hide (ok_W13.out.below HBnW14.out)
        clear ok_W13
        have rv_W14 := hide ((HBnW14.out.block _ (heap_ltN rv_W13.out)).trans rv_W13.out)
        clear rv_W13
        have cv_W14 := hide (HCv.out.below HBnW14.out)
        clear HCv
        have HOv := hide hov
        clear hov
        have HGv : Hid (w.heap.size + 2 < gv) := hide (by rw [hgv]; have := HCW13.out.size; have := heap_ltN HZ2.out; omega)
        clear hgv
        refine hK.out _ _ (HS.out _ (HCW14.out.mono HLW.out)) (fun hHeld => ?_)
        clear hK K
        try simp only [Act.put, List.setIfInBounds_toArray, List.set_cons_zero, List.set_cons_succ]
        refine hTake (i := 14) (v := ?v14u15) (some 45) rfl rfl (by kernel_rfl) (by kernel_rfl) (by kernel_rfl) (fun _ _ _ h => h) (by rfl) (by assumption) ?hy14u15 ?hn14u15
        case hy14u15 => (intro w hSw; (try dsimp only at hSw); go_simp; try with_reducible rfl)
        try simp only [Act.put, List.setIfInBounds_toArray, List.set_cons_zero, List.set_cons_succ]
        refine hOne (i := 15) rfl (by kernel_rfl) (fun K hK => ?_)
        have HNW : Hid (NwG W14 (w.heap.size + 2) ⟨some ⟨gk, 0, none⟩, kn + km, kn + km, some ⟨gv, 0, none⟩, vn + vm, vn + vm, none, 0, 0⟩ ⟨true, pa.keys ++ pb.keys, pa.vals ++ pb.vals, []⟩) := hide (by
          have e1 : (pa.keys ++ pb.keys).length = kn + km := by rw [List.length_append, HKN.out.1, HKN.out.2.1]
          have e2 : (pa.vals ++ pb.vals).length = vn + vm := by rw [List.length_append, HKN.out.2.2.1, HKN.out.2.2.2.1]
          have g1 := HGk.out
          have g2 := HGv.out
          have g3 := HNN.out
          refine ⟨?_, ?_, isK_nil _, nofun⟩
          · have hk := ok_W14.out.full e1
            rw [← List.append_nil svk] at hk
            have h0 := nwL_row (G := w.heap.size + 2) (c := kn + km) hk (ok_W14.out.els.mono (by omega)) (by omega) (by rw [e1]; exact Nat.le_refl _) (by unfold maxLen; omega)
            rw [e1] at h0
            exact h0
          · have hk := HOv.out.full e2
            rw [← List.append_nil svv] at hk
            have h0 := nwL_row (G := w.heap.size + 2) (c := vn + vm) hk (HOv.out.els.mono (by omega)) (by omega) (by rw [e2]; exact Nat.le_refl _) (by unfold maxLen; omega)
            rw [e2] at h0
            exact h0)
        clear ok_W14
        clear HOv
        clear ck_W14
        clear cv_W14
        clear rk_W14
        clear rv_W14
        have HNWx := hide HNW.out
        clear HNW
        go_simp
        refine (checked_ok ⟨some ⟨gk, 0, none⟩, kn + km, kn + km, some ⟨gv, 0, none⟩, vn + vm, vn + vm, none, 0, 0⟩ ⟨true, pa.keys ++ pb.keys, pa.vals ++ pb.vals, []⟩ W14 HNWx.out.is (by have := HNN.out; refine ⟨?_, ?_, ?_⟩ <;> dsimp only <;> omega) HE.out (lf := true) rfl).mono ?_
        rintro e W16 ⟨rfl, hbn⟩
        have HBnW16 := hide hbn
        clear hbn
        have HCW16 : Hid (Below w2.heap.size w2 W16) := hide (HCW14.out.trans (HBnW16.out.mono HCW14.out.size))
        have HNW := hide (HNWx.out.below HBnW16.out)
        clear HNWx
        refine hK.out _ _ (HS.out _ (HCW16.out.mono HLW.out)) (fun hHeld => ?_)
        clear hK K
        try simp only [Act.put, List.setIfInBounds_toArray, List.set_cons_zero, List.set_cons_succ]
        refine hTake (i := 16) (v := ?v16u17) (some 47) rfl rfl (by kernel_rfl) (by kernel_rfl) (by kernel_rfl) (fun _ _ _ h => h) (by rfl) (by assumption) ?hy16u17 ?hn16u17
        case hy16u17 => (intro w hSw; (try dsimp only at hSw); go_simp; try with_reducible rfl)
        try simp only [Act.put, List.setIfInBounds_toArray, List.set_cons_zero, List.set_cons_succ]
        refine hTake (i := 17) (v := ?v17u18) (some 48) rfl rfl (by kernel_rfl) (by kernel_rfl) (by kernel_rfl) (fun _ _ _ h => h) (by rfl) (by assumption) ?hy17u18 ?hn17u18
        case hy17u18 => (intro w hSw; (try dsimp only at hSw); go_simp; try with_reducible rfl)
        try simp only [Act.put, List.setIfInBounds_toArray, List.set_cons_zero, List.set_cons_succ]
        have HZc : Hid (W16.heap[w.heap.size + 1 + 1]? = some (.cells pg0c 25 (0, 0))) := hide ((HCW16.out.block _ (heap_ltN HZ2.out)).trans HZ2.out)
        have z0 : W16.cell? ⟨w.heap.size + 1 + 1, 0, none⟩ = some (.bool false) := cell_blkN HZc.out rfl
        have f0 := frzN HZc.out 0
        have z1 : W16.cell? ⟨w.heap.size + 1 + 1, 1, none⟩ = some (.slice none 0 0) := cell_blkN HZc.out rfl
        have f1 := frzN HZc.out 1
        have z2 : W16.cell? ⟨w.heap.size + 1 + 1, 2, none⟩ = some (.slice none 0 0) := cell_blkN HZc.out rfl
        have f2 := frzN HZc.out 2
        have z3 : W16.cell? ⟨w.heap.size + 1 + 1, 3, none⟩ = some (.slice none 0 0) := cell_blkN HZc.out rfl
        have f3 := frzN HZc.out 3
        obtain ⟨Wf, hWf⟩ : ∃ W, W = ((((W16.setCell ⟨w.heap.size + 1 + 1, 0, none⟩ (.bool true)).setCell ⟨w.heap.size + 1 + 1, 1, none⟩ (.slice (some ⟨gk, 0, none⟩) (kn + km) (kn + km))).setCell ⟨w.heap.size + 1 + 1, 2, none⟩ (.slice (some ⟨gv, 0, none⟩) (vn + vm) (vn + vm))).setCell ⟨w.heap.size + 1 + 1, 3, none⟩ (.slice none 0 0)) := ⟨_, rfl⟩
        have HWF := hide hWf
        have HSF : Hid (Below (w.heap.size + 2) w2 Wf) := hide (by rw [hWf]; exact below4 (HCW16.out.mono HLW.out) (by omega) _ _ _ _)
        refine hOne (i := 18) rfl (by kernel_rfl) (fun K hK => ?_)
        go_simp
        rw [← hWf]
        clear hWf z0 z1 z2 z3 f0 f1 f2 f3
        refine hK.out _ _ (HS.out _ HSF.out) (fun hHeld => ?_)
        clear hK K
        try simp only [Act.put, List.setIfInBounds_toArray, List.set_cons_zero, List.set_cons_succ]
        refine hOne (i := 19) rfl (by kernel_rfl) (fun K hK => ?_)
        go_simp
        refine hK.out _ _ (HS.out _ HSF.out) (fun hHeld => ?_)
        clear hK K
        try simp only [Act.put, List.setIfInBounds_toArray, List.set_cons_zero, List.set_cons_succ]
        refine wpAnyH_done (by kernel_rfl) ?_ _
        have HBLK : Hid (Wf.heap[w.heap.size + 1 + 1]? = some (.cells #[.bool true, .slice (some ⟨gk, 0, none⟩) (kn + km) (kn + km), .slice (some ⟨gv, 0, none⟩) (vn + vm) (vn + vm), .slice none 0 0] 25 (0, 0))) := hide (by rw [HWF.out]; exact blk4 HZc.out _ _ _ _)
        have HNWF : Hid (NwG Wf (w.heap.size + 2) ⟨some ⟨gk, 0, none⟩, kn + km, kn + km, some ⟨gv, 0, none⟩, vn + vm, vn + vm, none, 0, 0⟩ ⟨true, pa.keys ++ pb.keys, pa.vals ++ pb.vals, []⟩) := hide (by rw [HWF.out]; exact HNW.out.set4 (Nat.le_refl _) _ _ _ _)
        have HBF : Hid (Below w.heap.size w Wf) := hide (by rw [HWF.out]; exact below4 (HB2.out.trans (HCW16.out.mono HB2.out.size)) (by omega) _ _ _ _)
        clear HWF HZc HSF HNW HS HCW16 hHeld HLW HX2 HY2 HZ2 HB2
        go_wp2
        (try simp only [Exit.inBlock, Exit.then])
        refine bodyPost_ret (resP2 rfl _ _ (w.heap.size + 1 + 1) _ HBLK.out rfl rfl) rfl ?_
        exact ⟨⟨some ⟨gk, 0, none⟩, kn + km, kn + km, some ⟨gv, 0, none⟩, vn + vm, vn + vm, none, 0, 0⟩, rfl, HNWF.out, HBF.out⟩
      · go_simp
        obtain ⟨W19, hc2⟩ : ∃ W, W = W10.alloc (.cells #[.slice va vn vc, .slice vb vm vd] 22) := ⟨_, rfl⟩
        rw [← hc2]
        obtain ⟨qv, hq⟩ : ∃ q, q = W10.heap.size := ⟨_, rfl⟩
        rw [← hq]
        have HRqv : Hid (W19.heap[qv]? = some (.cells #[.slice va vn vc, .slice vb vm vd] 22 (0, 0))) := hide (by rw [hc2, hq]; exact heap_alloc_new _ _)
        have HBnW19 : Hid (Below W10.heap.size W10 W19) := hide (by rw [hc2]; exact (Below.refl _ _).alloc (Nat.le_refl _) _)
        clear hc2 hq
        have HCW19 : Hid (Below w2.heap.size w2 W19) := hide (HCW10.out.trans (HBnW19.out.mono HCW10.out.size))
        have rk_W19 := hide ((HBnW19.out.block _ (heap_ltN rk_W10.out)).trans rk_W10.out)
        clear rk_W10
        have ck_W19 := hide (HCk.out.below HBnW19.out)
        clear HCk
        refine hK.out _ _ (HS.out _ (HCW19.out.mono HLW.out)) (fun hHeld => ?_)
        clear hK K
        try simp only [Act.put, List.setIfInBounds_toArray, List.set_cons_zero, List.set_cons_succ]
        refine hOne (i := 6) rfl (by kernel_rfl) (fun K hK => ?_)
        obtain ⟨gk, hgk⟩ : ∃ g, g = W19.heap.size := ⟨_, rfl⟩
        go_simp
        refine ((hgk ▸ clones_any ak (kn + km) ckc _ W19 ck_W19.out (by have := HNN.out; omega) (fun b hb => Nat.le_trans ((List.mem_append.1 hb).elim (HKS1.out.1 b) (HKS2.out.1 b)) (by decide)) : Calls Try.prog 49 #[.slice ak (kn + km) ckc] W19 fun e w' => ∃ sv, e = .returned (.slice (some ⟨gk, 0, none⟩) (kn + km) (kn + km)) ∧ OwnL w' gk (kn + km) sv (pa.keys ++ pb.keys) ∧ Below W19.heap.size W19 w')).mono ?_
        rintro e W20 ⟨svk, rfl, hok, hbn⟩
        have HBnW20 := hide hbn
        clear hbn
        have HCW20 : Hid (Below w2.heap.size w2 W20) := hide (HCW19.out.trans (HBnW20.out.mono HCW19.out.size))
        have rk_W20 := hide ((HBnW20.out.block _ (heap_ltN rk_W19.out)).trans rk_W19.out)
        clear rk_W19
        have ck_W20 := hide (ck_W19.out.below HBnW20.out)
        clear ck_W19
        have rv_W20 := hide ((HBnW20.out.block _ (heap_ltN HRqv.out)).trans HRqv.out)
        clear HRqv
        have HOk := hide hok
        clear hok
        have HGk : Hid (w.heap.size + 2 < gk) := hide (by rw [hgk]; have := HCW19.out.size; have := heap_ltN HZ2.out; omega)
        clear hgk
        refine hK.out _ _ (HS.out _ (HCW20.out.mono HLW.out)) (fun hHeld => ?_)
        clear hK K
        try simp only [Act.put, List.setIfInBounds_toArray, List.set_cons_zero, List.set_cons_succ]
        refine hOne (i := 12) rfl (by kernel_rfl) (fun K hK => ?_)
        go_simp
        refine (cat2L qv va vb vn vc vm vd _ _ W20 rv_W20.out ((HG1.out.vals.below HB2.out).below HCW20.out) ((HG2.out.vals.below HB2.out).below HCW20.out) (by have := HNN.out; omega)).mono ?_
        rintro e W21 ⟨av, cvc, rfl, hcv, hbn⟩
        have HBnW21 := hide hbn
        clear hbn
        have HCW21 : Hid (Below w2.heap.size w2 W21) := hide (HCW20.out.trans (HBnW21.out.mono HCW20.out.size))
        have rk_W21 := hide ((HBnW21.out.block _ (heap_ltN rk_W20.out)).trans rk_W20.out)
        clear rk_W20
        have ck_W21 := hide (ck_W20.out.below HBnW21.out)
        clear ck_W20
        have rv_W21 := hide ((HBnW21.out.block _ (heap_ltN rv_W20.out)).trans rv_W20.out)
        clear rv_W20
        have ok_W21 := hide (HOk.out.below HBnW21.out)
        clear HOk
        have HCv := hide hcv
        clear hcv
        refine hK.out _ _ (HS.out _ (HCW21.out.mono HLW.out)) (fun hHeld => ?_)
        clear hK K
        try simp only [Act.put, List.setIfInBounds_toArray, List.set_cons_zero, List.set_cons_succ]
        refine hOne (i := 13) rfl (by kernel_rfl) (fun K hK => ?_)
        obtain ⟨gv, hgv⟩ : ∃ g, g = W21.heap.size := ⟨_, rfl⟩
        go_simp
        refine ((hgv ▸ clones_any av (vn + vm) cvc _ W21 HCv.out (by have := HNN.out; omega) (fun b hb => Nat.le_trans ((List.mem_append.1 hb).elim (HKS1.out.2.1 b) (HKS2.out.2.1 b)) (by decide)) : Calls Try.prog 49 #[.slice av (vn + vm) cvc] W21 fun e w' => ∃ sv, e = .returned (.slice (some ⟨gv, 0, none⟩) (vn + vm) (vn + vm)) ∧ OwnL w' gv (vn + vm) sv (pa.vals ++ pb.vals) ∧ Below W21.heap.size W21 w')).mono ?_
        rintro e W22 ⟨svv, rfl, hov, hbn⟩
        have HBnW22 := hide hbn
        clear hbn
        have HCW22 : Hid (Below w2.heap.size w2 W22) := hide (HCW21.out.trans (HBnW22.out.mono HCW21.out.size))
        have rk_W22 := hide ((HBnW22.out.block _ (heap_ltN rk_W21.out)).trans rk_W21.out)
        clear rk_W21
        have ck_W22 := hide (ck_W21.out.below HBnW22.out)
        clear ck_W21
        have rv_W22 := hide ((HBnW22.out.block _ (heap_ltN rv_W21.out)).trans rv_W21.out)
        clear rv_W21
        have ok_W22 := hide (ok_W21.out.below HBnW22.out)
        clear ok_W21
        have cv_W22 := hide (HCv.out.below HBnW22.out)
        clear HCv
        have HOv := hide hov
        clear hov
        have HGv : Hid (w.heap.size + 2 < gv) := hide (by rw [hgv]; have := HCW21.out.size; have := heap_ltN HZ2.out; omega)
        clear hgv
        refine hK.out _ _ (HS.out _ (HCW22.out.mono HLW.out)) (fun hHeld => ?_)
        clear hK K
        try simp only [Act.put, List.setIfInBounds_toArray, List.set_cons_zero, List.set_cons_succ]
        refine hTake (i := 14) (v := ?v14u23) (some 45) rfl rfl (by kernel_rfl) (by kernel_rfl) (by kernel_rfl) (fun _ _ _ h => h) (by rfl) (by assumption) ?hy14u23 ?hn14u23
        case hy14u23 => (intro w hSw; (try dsimp only at hSw); go_simp; try with_reducible rfl)
        try simp only [Act.put, List.setIfInBounds_toArray, List.set_cons_zero, List.set_cons_succ]
        refine hOne (i := 15) rfl (by kernel_rfl) (fun K hK => ?_)
        have HNW : Hid (NwG W22 (w.heap.size + 2) ⟨some ⟨gk, 0, none⟩, kn + km, kn + km, some ⟨gv, 0, none⟩, vn + vm, vn + vm, none, 0, 0⟩ ⟨true, pa.keys ++ pb.keys, pa.vals ++ pb.vals, []⟩) := hide (by
          have e1 : (pa.keys ++ pb.keys).length = kn + km := by rw [List.length_append, HKN.out.1, HKN.out.2.1]
          have e2 : (pa.vals ++ pb.vals).length = vn + vm := by rw [List.length_append, HKN.out.2.2.1, HKN.out.2.2.2.1]
          have g1 := HGk.out
          have g2 := HGv.out
          have g3 := HNN.out
          refine ⟨?_, ?_, isK_nil _, nofun⟩
          · have hk := ok_W22.out.full e1
            rw [← List.append_nil svk] at hk
            have h0 := nwL_row (G := w.heap.size + 2) (c := kn + km) hk (ok_W22.out.els.mono (by omega)) (by omega) (by rw [e1]; exact Nat.le_refl _) (by unfold maxLen; omega)
            rw [e1] at h0
            exact h0
          · have hk := HOv.out.full e2
            rw [← List.append_nil svv] at hk
            have h0 := nwL_row (G := w.heap.size + 2) (c := vn + vm) hk (HOv.out.els.mono (by omega)) (by omega) (by rw [e2]; exact Nat.le_refl _) (by unfold maxLen; omega)
            rw [e2] at h0
            exact h0)
        clear ok_W22
        clear HOv
        clear ck_W22
        clear cv_W22
        clear rk_W22
        clear rv_W22
        have HNWx := hide HNW.out
        clear HNW
        go_simp
        refine (checked_ok ⟨some ⟨gk, 0, none⟩, kn + km, kn + km, some ⟨gv, 0, none⟩, vn + vm, vn + vm, none, 0, 0⟩ ⟨true, pa.keys ++ pb.keys, pa.vals ++ pb.vals, []⟩ W22 HNWx.out.is (by have := HNN.out; refine ⟨?_, ?_, ?_⟩ <;> dsimp only <;> omega) HE.out (lf := true) rfl).mono ?_
        rintro e W24 ⟨rfl, hbn⟩
        have HBnW24 := hide hbn
        clear hbn
        have HCW24 : Hid (Below w2.heap.size w2 W24) := hide (HCW22.out.trans (HBnW24.out.mono HCW22.out.size))
        have HNW := hide (HNWx.out.below HBnW24.out)
        clear HNWx
        refine hK.out _ _ (HS.out _ (HCW24.out.mono HLW.out)) (fun hHeld => ?_)
        clear hK K
        try simp only [Act.put, List.setIfInBounds_toArray, List.set_cons_zero, List.set_cons_succ]
        refine hTake (i := 16) (v := ?v16u25) (some 47) rfl rfl (by kernel_rfl) (by kernel_rfl) (by kernel_rfl) (fun _ _ _ h => h) (by rfl) (by assumption) ?hy16u25 ?hn16u25
        case hy16u25 => (intro w hSw; (try dsimp only at hSw); go_simp; try with_reducible rfl)
        try simp only [Act.put, List.setIfInBounds_toArray, List.set_cons_zero, List.set_cons_succ]
        refine hTake (i := 17) (v := ?v17u26) (some 48) rfl rfl (by kernel_rfl) (by kernel_rfl) (by kernel_rfl) (fun _ _ _ h => h) (by rfl) (by assumption) ?hy17u26 ?hn17u26
        case hy17u26 => (intro w hSw; (try dsimp only at hSw); go_simp; try with_reducible rfl)
        try simp only [Act.put, List.setIfInBounds_toArray, List.set_cons_zero, List.set_cons_succ]
        have HZc : Hid (W24.heap[w.heap.size + 1 + 1]? = some (.cells pg0c 25 (0, 0))) := hide ((HCW24.out.block _ (heap_ltN HZ2.out)).trans HZ2.out)
        have z0 : W24.cell? ⟨w.heap.size + 1 + 1, 0, none⟩ = some (.bool false) := cell_blkN HZc.out rfl
        have f0 := frzN HZc.out 0
        have z1 : W24.cell? ⟨w.heap.size + 1 + 1, 1, none⟩ = some (.slice none 0 0) := cell_blkN HZc.out rfl
        have f1 := frzN HZc.out 1
        have z2 : W24.cell? ⟨w.heap.size + 1 + 1, 2, none⟩ = some (.slice none 0 0) := cell_blkN HZc.out rfl
        have f2 := frzN HZc.out 2
        have z3 : W24.cell? ⟨w.heap.size + 1 + 1, 3, none⟩ = some (.slice none 0 0) := cell_blkN HZc.out rfl
        have f3 := frzN HZc.out 3
        obtain ⟨Wf, hWf⟩ : ∃ W, W = ((((W24.setCell ⟨w.heap.size + 1 + 1, 0, none⟩ (.bool true)).setCell ⟨w.heap.size + 1 + 1, 1, none⟩ (.slice (some ⟨gk, 0, none⟩) (kn + km) (kn + km))).setCell ⟨w.heap.size + 1 + 1, 2, none⟩ (.slice (some ⟨gv, 0, none⟩) (vn + vm) (vn + vm))).setCell ⟨w.heap.size + 1 + 1, 3, none⟩ (.slice none 0 0)) := ⟨_, rfl⟩
        have HWF := hide hWf
        have HSF : Hid (Below (w.heap.size + 2) w2 Wf) := hide (by rw [hWf]; exact below4 (HCW24.out.mono HLW.out) (by omega) _ _ _ _)
        refine hOne (i := 18) rfl (by kernel_rfl) (fun K hK => ?_)
        go_simp
        rw [← hWf]
        clear hWf z0 z1 z2 z3 f0 f1 f2 f3
        refine hK.out _ _ (HS.out _ HSF.out) (fun hHeld => ?_)
        clear hK K
        try simp only [Act.put, List.setIfInBounds_toArray, List.set_cons_zero, List.set_cons_succ]
        refine hOne (i := 19) rfl (by kernel_rfl) (fun K hK => ?_)
        go_simp
        refine hK.out _ _ (HS.out _ HSF.out) (fun hHeld => ?_)
        clear hK K
        try simp only [Act.put, List.setIfInBounds_toArray, List.set_cons_zero, List.set_cons_succ]
        refine wpAnyH_done (by kernel_rfl) ?_ _
        have HBLK : Hid (Wf.heap[w.heap.size + 1 + 1]? = some (.cells #[.bool true, .slice (some ⟨gk, 0, none⟩) (kn + km) (kn + km), .slice (some ⟨gv, 0, none⟩) (vn + vm) (vn + vm), .slice none 0 0] 25 (0, 0))) := hide (by rw [HWF.out]; exact blk4 HZc.out _ _ _ _)
        have HNWF : Hid (NwG Wf (w.heap.size + 2) ⟨some ⟨gk, 0, none⟩, kn + km, kn + km, some ⟨gv, 0, none⟩, vn + vm, vn + vm, none, 0, 0⟩ ⟨true, pa.keys ++ pb.keys, pa.vals ++ pb.vals, []⟩) := hide (by rw [HWF.out]; exact HNW.out.set4 (Nat.le_refl _) _ _ _ _)
        have HBF : Hid (Below w.heap.size w Wf) := hide (by rw [HWF.out]; exact below4 (HB2.out.trans (HCW24.out.mono HB2.out.size)) (by omega) _ _ _ _)
        clear HWF HZc HSF HNW HS HCW24 hHeld HLW HX2 HY2 HZ2 HB2
        go_wp2
        (try simp only [Exit.inBlock, Exit.then])
        refine bodyPost_ret (resP2 rfl _ _ (w.heap.size + 1 + 1) _ HBLK.out rfl rfl) rfl ?_
        exact ⟨⟨some ⟨gk, 0, none⟩, kn + km, kn + km, some ⟨gv, 0, none⟩, vn + vm, vn + vm, none, 0, 0⟩, rfl, HNWF.out, HBF.out⟩
    · go_simp
      obtain ⟨W27, hc2⟩ : ∃ W, W = W9.alloc (.cells #[.slice va vn vc, .slice vb vm vd] 22) := ⟨_, rfl⟩
      rw [← hc2]
      obtain ⟨qv, hq⟩ : ∃ q, q = W9.heap.size := ⟨_, rfl⟩
      rw [← hq]
      have HRqv : Hid (W27.heap[qv]? = some (.cells #[.slice va vn vc, .slice vb vm vd] 22 (0, 0))) := hide (by rw [hc2, hq]; exact heap_alloc_new _ _)
      have HBnW27 : Hid (Below W9.heap.size W9 W27) := hide (by rw [hc2]; exact (Below.refl _ _).alloc (Nat.le_refl _) _)
      clear hc2 hq
      have HCW27 : Hid (Below w2.heap.size w2 W27) := hide (HCW9.out.trans (HBnW27.out.mono HCW9.out.size))
      have rk_W27 := hide ((HBnW27.out.block _ (heap_ltN HRqk.out)).trans HRqk.out)
      clear HRqk
      refine hK.out _ _ (HS.out _ (HCW27.out.mono HLW.out)) (fun hHeld => ?_)
      clear hK K
      try simp only [Act.put, List.setIfInBounds_toArray, List.set_cons_zero, List.set_cons_succ]
      refine hOne (i := 5) rfl (by kernel_rfl) (fun K hK => ?_)
      go_simp
      refine (cat2L qk ka kb kn kc km kd _ _ W27 rk_W27.out ((HG1.out.keys.below HB2.out).below HCW27.out) ((HG2.out.keys.below HB2.out).below HCW27.out) (by have := HNN.out; omega)).mono ?_
      rintro e W28 ⟨ak, ckc, rfl, hck, hbn⟩
      have HBnW28 := hide hbn
      clear hbn
      have HCW28 : Hid (Below w2.heap.size w2 W28) := hide (HCW27.out.trans (HBnW28.out.mono HCW27.out.size))
      have rk_W28 := hide ((HBnW28.out.block _ (heap_ltN rk_W27.out)).trans rk_W27.out)
      clear rk_W27
      have rv_W28 := hide ((HBnW28.out.block _ (heap_ltN HRqv.out)).trans HRqv.out)
      clear HRqv
      have HCk := hide hck
      clear hck
      refine hK.out _ _ (HS.out _ (HCW28.out.mono HLW.out)) (fun hHeld => ?_)
      clear hK K
      try simp only [Act.put, List.setIfInBounds_toArray, List.set_cons_zero, List.set_cons_succ]
      refine hOne (i := 6) rfl (by kernel_rfl) (fun K hK => ?_)
      obtain ⟨gk, hgk⟩ : ∃ g, g = W28.heap.size := ⟨_, rfl⟩
      go_simp
      refine ((hgk ▸ clones_any ak (kn + km) ckc _ W28 HCk.out (by have := HNN.out; omega) (fun b hb => Nat.le_trans ((List.mem_append.1 hb).elim (HKS1.out.1 b) (HKS2.out.1 b)) (by decide)) : Calls Try.prog 49 #[.slice ak (kn + km) ckc] W28 fun e w' => ∃ sv, e = .returned (.slice (some ⟨gk, 0, none⟩) (kn + km) (kn + km)) ∧ OwnL w' gk (kn + km) sv (pa.keys ++ pb.keys) ∧ Below W28.heap.size W28 w')).mono ?_
      rintro e W29 ⟨svk, rfl, hok, hbn⟩
      have HBnW29 := hide hbn
      clear hbn
      have HCW29 : Hid (Below w2.heap.size w2 W29) := hide (HCW28.out.trans (HBnW29.out.mono HCW28.out.size))
      have rk_W29 := hide ((HBnW29.out.block _ (heap_ltN rk_W28.out)).trans rk_W28.out)
      clear rk_W28
      have rv_W29 := hide ((HBnW29.out.block _ (heap_ltN rv_W28.out)).trans rv_W28.out)
      clear rv_W28
      have ck_W29 := hide (HCk.out.below HBnW29.out)
      clear HCk
      have HOk := hide hok
      clear hok
      have HGk : Hid (w.heap.size + 2 < gk) := hide (by rw [hgk]; have := HCW28.out.size; have := heap_ltN HZ2.out; omega)
      clear hgk
      refine hK.out _ _ (HS.out _ (HCW29.out.mono HLW.out)) (fun hHeld => ?_)
      clear hK K
      try simp only [Act.put, List.setIfInBounds_toArray, List.set_cons_zero, List.set_cons_succ]
      refine hOne (i := 12) rfl (by kernel_rfl) (fun K hK => ?_)
      go_simp
      refine (cat2L qv va vb vn vc vm vd _ _ W29 rv_W29.out ((HG1.out.vals.below HB2.out).below HCW29.out) ((HG2.out.vals.below HB2.out).below HCW29.out) (by have := HNN.out; omega)).mono ?_
      rintro e W30 ⟨av, cvc, rfl, hcv, hbn⟩
      have HBnW30 := hide hbn
      clear hbn
      have HCW30 : Hid (Below w2.heap.size w2 W30) := hide (HCW29.out.trans (HBnW30.out.mono HCW29.out.size))
      have rk_W30 := hide ((HBnW30.out.block _ (heap_ltN rk_W29.out)).trans rk_W29.out)
      clear rk_W29
      have rv_W30 := hide ((HBnW30.out.block _ (heap_ltN rv_W29.out)).trans rv_W29.out)
      clear rv_W29
      have ck_W30 := hide (ck_W29.out.below HBnW30.out)
      clear ck_W29
      have ok_W30 := hide (HOk.out.below HBnW30.out)
      clear HOk
      have HCv := hide hcv
      clear hcv
      refine hK.out _ _ (HS.out _ (HCW30.out.mono HLW.out)) (fun hHeld => ?_)
      clear hK K
      try simp only [Act.put, List.setIfInBounds_toArray, List.set_cons_zero, List.set_cons_succ]
      refine hOne (i := 13) rfl (by kernel_rfl) (fun K hK => ?_)
      obtain ⟨gv, hgv⟩ : ∃ g, g = W30.heap.size := ⟨_, rfl⟩
      go_simp
      refine ((hgv ▸ clones_any av (vn + vm) cvc _ W30 HCv.out (by have := HNN.out; omega) (fun b hb => Nat.le_trans ((List.mem_append.1 hb).elim (HKS1.out.2.1 b) (HKS2.out.2.1 b)) (by decide)) : Calls Try.prog 49 #[.slice av (vn + vm) cvc] W30 fun e w' => ∃ sv, e = .returned (.slice (some ⟨gv, 0, none⟩) (vn + vm) (vn + vm)) ∧ OwnL w' gv (vn + vm) sv (pa.vals ++ pb.vals) ∧ Below W30.heap.size W30 w')).mono ?_
      rintro e W31 ⟨svv, rfl, hov, hbn⟩
      have HBnW31 := hide hbn
      clear hbn
      have HCW31 : Hid (Below w2.heap.size w2 W31) := hide (HCW30.out.trans (HBnW31.out.mono HCW30.out.size))
      have rk_W31 := hide ((HBnW31.out.block _ (heap_ltN rk_W30.out)).trans rk_W30.out)
      clear rk_W30
      have rv_W31 := hide ((HBnW31.out.block _ (heap_ltN rv_W30.out)).trans rv_W30.out)
      clear rv_W30
      have ck_W31 := hide (ck_W30.out.below HBnW31.out)
      clear ck_W30
      have ok_W31 := hide (ok_W30.out.below HBnW31.out)
      clear ok_W30
      have cv_W31 := hide (HCv.out.below HBnW31.out)
      clear HCv
      have HOv := hide hov
      clear hov
      have HGv : Hid (w.heap.size + 2 < gv) := hide (by rw [hgv]; have := HCW30.out.size; have := heap_ltN HZ2.out; omega)
      clear hgv
      refine hK.out _ _ (HS.out _ (HCW31.out.mono HLW.out)) (fun hHeld => ?_)
      clear hK K
      try simp only [Act.put, List.setIfInBounds_toArray, List.set_cons_zero, List.set_cons_succ]
      refine hTake (i := 14) (v := ?v14u32) (some 45) rfl rfl (by kernel_rfl) (by kernel_rfl) (by kernel_rfl) (fun _ _ _ h => h) (by rfl) (by assumption) ?hy14u32 ?hn14u32
      case hy14u32 => (intro w hSw; (try dsimp only at hSw); go_simp; try with_reducible rfl)
      try simp only [Act.put, List.setIfInBounds_toArray, List.set_cons_zero, List.set_cons_succ]
      refine hOne (i := 15) rfl (by kernel_rfl) (fun K hK => ?_)
      have HNW : Hid (NwG W31 (w.heap.size + 2) ⟨some ⟨gk, 0, none⟩, kn + km, kn + km, some ⟨gv, 0, none⟩, vn + vm, vn + vm, none, 0, 0⟩ ⟨true, pa.keys ++ pb.keys, pa.vals ++ pb.vals, []⟩) := hide (by
        have e1 : (pa.keys ++ pb.keys).length = kn + km := by rw [List.length_append, HKN.out.1, HKN.out.2.1]
        have e2 : (pa.vals ++ pb.vals).length = vn + vm := by rw [List.length_append, HKN.out.2.2.1, HKN.out.2.2.2.1]
        have g1 := HGk.out
        have g2 := HGv.out
        have g3 := HNN.out
        refine ⟨?_, ?_, isK_nil _, nofun⟩
        · have hk := ok_W31.out.full e1
          rw [← List.append_nil svk] at hk
          have h0 := nwL_row (G := w.heap.size + 2) (c := kn + km) hk (ok_W31.out.els.mono (by omega)) (by omega) (by rw [e1]; exact Nat.le_refl _) (by unfold maxLen; omega)
          rw [e1] at h0
          exact h0
        · have hk := HOv.out.full e2
          rw [← List.append_nil svv] at hk
          have h0 := nwL_row (G := w.heap.size + 2) (c := vn + vm) hk (HOv.out.els.mono (by omega)) (by omega) (by rw [e2]; exact Nat.le_refl _) (by unfold maxLen; omega)
          rw [e2] at h0
          exact h0)
      clear ok_W31
      clear HOv
      clear ck_W31
      clear cv_W31
      clear rk_W31
      clear rv_W31
      have HNWx := hide HNW.out
      clear HNW
      go_simp
      refine (checked_ok ⟨some ⟨gk, 0, none⟩, kn + km, kn + km, some ⟨gv, 0, none⟩, vn + vm, vn + vm, none, 0, 0⟩ ⟨true, pa.keys ++ pb.keys, pa.vals ++ pb.vals, []⟩ W31 HNWx.out.is (by have := HNN.out; refine ⟨?_, ?_, ?_⟩ <;> dsimp only <;> omega) HE.out (lf := true) rfl).mono ?_
      rintro e W33 ⟨rfl, hbn⟩
      have HBnW33 := hide hbn
      clear hbn
      have HCW33 : Hid (Below w2.heap.size w2 W33) := hide (HCW31.out.trans (HBnW33.out.mono HCW31.out.size))
      have HNW := hide (HNWx.out.below HBnW33.out)
      clear HNWx
      refine hK.out _ _ (HS.out _ (HCW33.out.mono HLW.out)) (fun hHeld => ?_)
      clear hK K
      try simp only [Act.put, List.setIfInBounds_toArray, List.set_cons_zero, List.set_cons_succ]
      refine hTake (i := 16) (v := ?v16u34) (some 47) rfl rfl (by kernel_rfl) (by kernel_rfl) (by kernel_rfl) (fun _ _ _ h => h) (by rfl) (by assumption) ?hy16u34 ?hn16u34
      case hy16u34 => (intro w hSw; (try dsimp only at hSw); go_simp; try with_reducible rfl)
      try simp only [Act.put, List.setIfInBounds_toArray, List.set_cons_zero, List.set_cons_succ]
      refine hTake (i := 17) (v := ?v17u35) (some 48) rfl rfl (by kernel_rfl) (by kernel_rfl) (by kernel_rfl) (fun _ _ _ h => h) (by rfl) (by assumption) ?hy17u35 ?hn17u35
      case hy17u35 => (intro w hSw; (try dsimp only at hSw); go_simp; try with_reducible rfl)
      try simp only [Act.put, List.setIfInBounds_toArray, List.set_cons_zero, List.set_cons_succ]
      have HZc : Hid (W33.heap[w.heap.size + 1 + 1]? = some (.cells pg0c 25 (0, 0))) := hide ((HCW33.out.block _ (heap_ltN HZ2.out)).trans HZ2.out)
      have z0 : W33.cell? ⟨w.heap.size + 1 + 1, 0, none⟩ = some (.bool false) := cell_blkN HZc.out rfl
      have f0 := frzN HZc.out 0
      have z1 : W33.cell? ⟨w.heap.size + 1 + 1, 1, none⟩ = some (.slice none 0 0) := cell_blkN HZc.out rfl
      have f1 := frzN HZc.out 1
      have z2 : W33.cell? ⟨w.heap.size + 1 + 1, 2, none⟩ = some (.slice none 0 0) := cell_blkN HZc.out rfl
      have f2 := frzN HZc.out 2
      have z3 : W33.cell? ⟨w.heap.size + 1 + 1, 3, none⟩ = some (.slice none 0 0) := cell_blkN HZc.out rfl
      have f3 := frzN HZc.out 3
      obtain ⟨Wf, hWf⟩ : ∃ W, W = ((((W33.setCell ⟨w.heap.size + 1 + 1, 0, none⟩ (.bool true)).setCell ⟨w.heap.size + 1 + 1, 1, none⟩ (.slice (some ⟨gk, 0, none⟩) (kn + km) (kn + km))).setCell ⟨w.heap.size + 1 + 1, 2, none⟩ (.slice (some ⟨gv, 0, none⟩) (vn + vm) (vn + vm))).setCell ⟨w.heap.size + 1 + 1, 3, none⟩ (.slice none 0 0)) := ⟨_, rfl⟩
      have HWF := hide hWf
      have HSF : Hid (Below (w.heap.size + 2) w2 Wf) := hide (by rw [hWf]; exact below4 (HCW33.out.mono HLW.out) (by omega) _ _ _ _)
      refine hOne (i := 18) rfl (by kernel_rfl) (fun K hK => ?_)
      go_simp
      rw [← hWf]
      clear hWf z0 z1 z2 z3 f0 f1 f2 f3
      refine hK.out _ _ (HS.out _ HSF.out) (fun hHeld => ?_)
      clear hK K
      try simp only [Act.put, List.setIfInBounds_toArray, List.set_cons_zero, List.set_cons_succ]
      refine hOne (i := 19) rfl (by kernel_rfl) (fun K hK => ?_)
      go_simp
      refine hK.out _ _ (HS.out _ HSF.out) (fun hHeld => ?_)
      clear hK K
      try simp only [Act.put, List.setIfInBounds_toArray, List.set_cons_zero, List.set_cons_succ]
      refine wpAnyH_done (by kernel_rfl) ?_ _
      have HBLK : Hid (Wf.heap[w.heap.size + 1 + 1]? = some (.cells #[.bool true, .slice (some ⟨gk, 0, none⟩) (kn + km) (kn + km), .slice (some ⟨gv, 0, none⟩) (vn + vm) (vn + vm), .slice none 0 0] 25 (0, 0))) := hide (by rw [HWF.out]; exact blk4 HZc.out _ _ _ _)
      have HNWF : Hid (NwG Wf (w.heap.size + 2) ⟨some ⟨gk, 0, none⟩, kn + km, kn + km, some ⟨gv, 0, none⟩, vn + vm, vn + vm, none, 0, 0⟩ ⟨true, pa.keys ++ pb.keys, pa.vals ++ pb.vals, []⟩) := hide (by rw [HWF.out]; exact HNW.out.set4 (Nat.le_refl _) _ _ _ _)
      have HBF : Hid (Below w.heap.size w Wf) := hide (by rw [HWF.out]; exact below4 (HB2.out.trans (HCW33.out.mono HB2.out.size)) (by omega) _ _ _ _)
      clear HWF HZc HSF HNW HS HCW33 hHeld HLW HX2 HY2 HZ2 HB2
      go_wp2
      (try simp only [Exit.inBlock, Exit.then])
      refine bodyPost_ret (resP2 rfl _ _ (w.heap.size + 1 + 1) _ HBLK.out rfl rfl) rfl ?_
      exact ⟨⟨some ⟨gk, 0, none⟩, kn + km, kn + km, some ⟨gv, 0, none⟩, vn + vm, vn + vm, none, 0, 0⟩, rfl, HNWF.out, HBF.out⟩
  · go_simp
    obtain ⟨W36, hc2⟩ : ∃ W, W = Wd.alloc (.cells #[.slice va vn vc, .slice vb vm vd] 22) := ⟨_, rfl⟩
    rw [← hc2]
    obtain ⟨qv, hq⟩ : ∃ q, q = Wd.heap.size := ⟨_, rfl⟩
    rw [← hq]
    have HRqv : Hid (W36.heap[qv]? = some (.cells #[.slice va vn vc, .slice vb vm vd] 22 (0, 0))) := hide (by rw [hc2, hq]; exact heap_alloc_new _ _)
    have HBnW36 : Hid (Below Wd.heap.size Wd W36) := hide (by rw [hc2]; exact (Below.refl _ _).alloc (Nat.le_refl _) _)
    clear hc2 hq
    have HCW36 : Hid (Below w2.heap.size w2 W36) := hide (HCWd.out.trans (HBnW36.out.mono HCWd.out.size))
    refine hK.out _ _ (HS.out _ (HCW36.out.mono HLW.out)) (fun hHeld => ?_)
    clear hK K
    try simp only [Act.put, List.setIfInBounds_toArray, List.set_cons_zero, List.set_cons_succ]
    refine hOne (i := 4) rfl (by kernel_rfl) (fun K hK => ?_)
    go_simp
    obtain ⟨W37, hc2⟩ : ∃ W, W = W36.alloc (.cells #[.slice ka kn kc, .slice kb km kd] 22) := ⟨_, rfl⟩
    rw [← hc2]
    obtain ⟨qk, hq⟩ : ∃ q, q = W36.heap.size := ⟨_, rfl⟩
    rw [← hq]
    have HRqk : Hid (W37.heap[qk]? = some (.cells #[.slice ka kn kc, .slice kb km kd] 22 (0, 0))) := hide (by rw [hc2, hq]; exact heap_alloc_new _ _)
    have HBnW37 : Hid (Below W36.heap.size W36 W37) := hide (by rw [hc2]; exact (Below.refl _ _).alloc (Nat.le_refl _) _)
    clear hc2 hq
    have HCW37 : Hid (Below w2.heap.size w2 W37) := hide (HCW36.out.trans (HBnW37.out.mono HCW36.out.size))
    have rv_W37 := hide ((HBnW37.out.block _ (heap_ltN HRqv.out)).trans HRqv.out)
    clear HRqv
    refine hK.out _ _ (HS.out _ (HCW37.out.mono HLW.out)) (fun hHeld => ?_)
    clear hK K
    try simp only [Act.put, List.setIfInBounds_toArray, List.set_cons_zero, List.set_cons_succ]
    refine hOne (i := 5) rfl (by kernel_rfl) (fun K hK => ?_)
    go_simp
    refine (cat2L qk ka kb kn kc km kd _ _ W37 HRqk.out ((HG1.out.keys.below HB2.out).below HCW37.out) ((HG2.out.keys.below HB2.out).below HCW37.out) (by have := HNN.out; omega)).mono ?_
    rintro e W38 ⟨ak, ckc, rfl, hck, hbn⟩
    have HBnW38 := hide hbn
    clear hbn
    have HCW38 : Hid (Below w2.heap.size w2 W38) := hide (HCW37.out.trans (HBnW38.out.mono HCW37.out.size))
    have rv_W38 := hide ((HBnW38.out.block _ (heap_ltN rv_W37.out)).trans rv_W37.out)
    clear rv_W37
    have rk_W38 := hide ((HBnW38.out.block _ (heap_ltN HRqk.out)).trans HRqk.out)
    clear HRqk
    have HCk := hide hck
    clear hck
    refine hK.out _ _ (HS.out _ (HCW38.out.mono HLW.out)) (fun hHeld => ?_)
    clear hK K
    try simp only [Act.put, List.setIfInBounds_toArray, List.set_cons_zero, List.set_cons_succ]
    refine hOne (i := 6) rfl (by kernel_rfl) (fun K hK => ?_)
    obtain ⟨gk, hgk⟩ : ∃ g, g = W38.heap.size := ⟨_, rfl⟩
    go_simp
    refine ((hgk ▸ clones_any ak (kn + km) ckc _ W38 HCk.out (by have := HNN.out; omega) (fun b hb => Nat.le_trans ((List.mem_append.1 hb).elim (HKS1.out.1 b) (HKS2.out.1 b)) (by decide)) : Calls Try.prog 49 #[.slice ak (kn + km) ckc] W38 fun e w' => ∃ sv, e = .returned (.slice (some ⟨gk, 0, none⟩) (kn + km) (kn + km)) ∧ OwnL w' gk (kn + km) sv (pa.keys ++ pb.keys) ∧ Below W38.heap.size W38 w')).mono ?_
    rintro e W39 ⟨svk, rfl, hok, hbn⟩
    have HBnW39 := hide hbn
    clear hbn
    have HCW39 : Hid (Below w2.heap.size w2 W39) := hide (HCW38.out.trans (HBnW39.out.mono HCW38.out.size))
    have rv_W39 := hide ((HBnW39.out.block _ (heap_ltN rv_W38.out)).trans rv_W38.out)
    clear rv_W38
    have rk_W39 := hide ((HBnW39.out.block _ (heap_ltN rk_W38.out)).trans rk_W38.out)
    clear rk_W38
    have ck_W39 := hide (HCk.out.below HBnW39.out)
    clear HCk
    have HOk := hide hok
    clear hok
    have HGk : Hid (w.heap.size + 2 < gk) := hide (by rw [hgk]; have := HCW38.out.size; have := heap_ltN HZ2.out; omega)
    clear hgk
    refine hK.out _ _ (HS.out _ (HCW39.out.mono HLW.out)) (fun hHeld => ?_)
    clear hK K
    try simp only [Act.put, List.setIfInBounds_toArray, List.set_cons_zero, List.set_cons_succ]
    refine hOne (i := 12) rfl (by kernel_rfl) (fun K hK => ?_)
    go_simp
    refine (cat2L qv va vb vn vc vm vd _ _ W39 rv_W39.out ((HG1.out.vals.below HB2.out).below HCW39.out) ((HG2.out.vals.below HB2.out).below HCW39.out) (by have := HNN.out; omega)).mono ?_
    rintro e W40 ⟨av, cvc, rfl, hcv, hbn⟩
    have HBnW40 := hide hbn
    clear hbn
    have HCW40 : Hid (Below w2.heap.size w2 W40) := hide (HCW39.out.trans (HBnW40.out.mono HCW39.out.size))
    have rv_W40 := hide ((HBnW40.out.block _ (heap_ltN rv_W39.out)).trans rv_W39.out)
    clear rv_W39
    have rk_W40 := hide ((HBnW40.out.block _ (heap_ltN rk_W39.out)).trans rk_W39.out)
    clear rk_W39
    have ck_W40 := hide (ck_W39.out.below HBnW40.out)
    clear ck_W39
    have ok_W40 := hide (HOk.out.below HBnW40.out)
    clear HOk
    have HCv := hide hcv
    clear hcv
    refine hK.out _ _ (HS.out _ (HCW40.out.mono HLW.out)) (fun hHeld => ?_)
    clear hK K
    try simp only [Act.put, List.setIfInBounds_toArray, List.set_cons_zero, List.set_cons_succ]
    refine hOne (i := 13) rfl (by kernel_rfl) (fun K hK => ?_)
    obtain ⟨gv, hgv⟩ : ∃ g, g = W40.heap.size := ⟨_, rfl⟩
    go_simp
    refine ((hgv ▸ clones_any av (vn + vm) cvc _ W40 HCv.out (by have := HNN.out; omega) (fun b hb => Nat.le_trans ((List.mem_append.1 hb).elim (HKS1.out.2.1 b) (HKS2.out.2.1 b)) (by decide)) : Calls Try.prog 49 #[.slice av (vn + vm) cvc] W40 fun e w' => ∃ sv, e = .returned (.slice (some ⟨gv, 0, none⟩) (vn + vm) (vn + vm)) ∧ OwnL w' gv (vn + vm) sv (pa.vals ++ pb.vals) ∧ Below W40.heap.size W40 w')).mono ?_
    rintro e W41 ⟨svv, rfl, hov, hbn⟩
    have HBnW41 := hide hbn
    clear hbn
    have HCW41 : Hid (Below w2.heap.size w2 W41) := hide (HCW40.out.trans (HBnW41.out.mono HCW40.out.size))
    have rv_W41 := hide ((HBnW41.out.block _ (heap_ltN rv_W40.out)).trans rv_W40.out)
    clear rv_W40
    have rk_W41 := hide ((HBnW41.out.block _ (heap_ltN rk_W40.out)).trans rk_W40.out)
    clear rk_W40
    have ck_W41 := hide (ck_W40.out.below HBnW41.out)
    clear ck_W40
    have ok_W41 := hide (ok_W40.out.below HBnW41.out)
    clear ok_W40
    have cv_W41 := hide (HCv.out.below HBnW41.out)
    clear HCv
    have HOv := hide hov
    clear hov
    have HGv : Hid (w.heap.size + 2 < gv) := hide (by rw [hgv]; have := HCW40.out.size; have := heap_ltN HZ2.out; omega)
    clear hgv
    refine hK.out _ _ (HS.out _ (HCW41.out.mono HLW.out)) (fun hHeld => ?_)
    clear hK K
    try simp only [Act.put, List.setIfInBounds_toArray, List.set_cons_zero, List.set_cons_succ]
    refine hTake (i := 14) (v := ?v14u42) (some 45) rfl rfl (by kernel_rfl) (by kernel_rfl) (by kernel_rfl) (fun _ _ _ h => h) (by rfl) (by assumption) ?hy14u42 ?hn14u42
    case hy14u42 => (intro w hSw; (try dsimp only at hSw); go_simp; try with_reducible rfl)
    try simp only [Act.put, List.setIfInBounds_toArray, List.set_cons_zero, List.set_cons_succ]
    refine hOne (i := 15) rfl (by kernel_rfl) (fun K hK => ?_)
    have HNW : Hid (NwG W41 (w.heap.size + 2) ⟨some ⟨gk, 0, none⟩, kn + km, kn + km, some ⟨gv, 0, none⟩, vn + vm, vn + vm, none, 0, 0⟩ ⟨true, pa.keys ++ pb.keys, pa.vals ++ pb.vals, []⟩) := hide (by
      have e1 : (pa.keys ++ pb.keys).length = kn + km := by rw [List.length_append, HKN.out.1, HKN.out.2.1]
      have e2 : (pa.vals ++ pb.vals).length = vn + vm := by rw [List.length_append, HKN.out.2.2.1, HKN.out.2.2.2.1]
      have g1 := HGk.out
      have g2 := HGv.out
      have g3 := HNN.out
      refine ⟨?_, ?_, isK_nil _, nofun⟩
      · have hk := ok_W41.out.full e1
        rw [← List.append_nil svk] at hk
        have h0 := nwL_row (G := w.heap.size + 2) (c := kn + km) hk (ok_W41.out.els.mono (by omega)) (by omega) (by rw [e1]; exact Nat.le_refl _) (by unfold maxLen; omega)
        rw [e1] at h0
        exact h0
      · have hk := HOv.out.full e2
        rw [← List.append_nil svv] at hk
        have h0 := nwL_row (G := w.heap.size + 2) (c := vn + vm) hk (HOv.out.els.mono (by omega)) (by omega) (by rw [e2]; exact Nat.le_refl _) (by unfold maxLen; omega)
        rw [e2] at h0
        exact h0)
    clear ok_W41
    clear HOv
    clear ck_W41
    clear cv_W41
    clear rk_W41
    clear rv_W41
    have HNWx := hide HNW.out
    clear HNW
    go_simp
    refine (checked_ok ⟨some ⟨gk, 0, none⟩, kn + km, kn + km, some ⟨gv, 0, none⟩, vn + vm, vn + vm, none, 0, 0⟩ ⟨true, pa.keys ++ pb.keys, pa.vals ++ pb.vals, []⟩ W41 HNWx.out.is (by have := HNN.out; refine ⟨?_, ?_, ?_⟩ <;> dsimp only <;> omega) HE.out (lf := true) rfl).mono ?_
    rintro e W43 ⟨rfl, hbn⟩
    have HBnW43 := hide hbn
    clear hbn
    have HCW43 : Hid (Below w2.heap.size w2 W43) := hide (HCW41.out.trans (HBnW43.out.mono HCW41.out.size))
    have HNW := hide (HNWx.out.below HBnW43.out)
    clear HNWx
    refine hK.out _ _ (HS.out _ (HCW43.out.mono HLW.out)) (fun hHeld => ?_)
    clear hK K
    try simp only [Act.put, List.setIfInBounds_toArray, List.set_cons_zero, List.set_cons_succ]
    refine hTake (i := 16) (v := ?v16u44) (some 47) rfl rfl (by kernel_rfl) (by kernel_rfl) (by kernel_rfl) (fun _ _ _ h => h) (by rfl) (by assumption) ?hy16u44 ?hn16u44
    case hy16u44 => (intro w hSw; (try dsimp only at hSw); go_simp; try with_reducible rfl)
    try simp only [Act.put, List.setIfInBounds_toArray, List.set_cons_zero, List.set_cons_succ]
    refine hTake (i := 17) (v := ?v17u45) (some 48) rfl rfl (by kernel_rfl) (by kernel_rfl) (by kernel_rfl) (fun _ _ _ h => h) (by rfl) (by assumption) ?hy17u45 ?hn17u45
    case hy17u45 => (intro w hSw; (try dsimp only at hSw); go_simp; try with_reducible rfl)
    try simp only [Act.put, List.setIfInBounds_toArray, List.set_cons_zero, List.set_cons_succ]
    have HZc : Hid (W43.heap[w.heap.size + 1 + 1]? = some (.cells pg0c 25 (0, 0))) := hide ((HCW43.out.block _ (heap_ltN HZ2.out)).trans HZ2.out)
    have z0 : W43.cell? ⟨w.heap.size + 1 + 1, 0, none⟩ = some (.bool false) := cell_blkN HZc.out rfl
    have f0 := frzN HZc.out 0
    have z1 : W43.cell? ⟨w.heap.size + 1 + 1, 1, none⟩ = some (.slice none 0 0) := cell_blkN HZc.out rfl
    have f1 := frzN HZc.out 1
    have z2 : W43.cell? ⟨w.heap.size + 1 + 1, 2, none⟩ = some (.slice none 0 0) := cell_blkN HZc.out rfl
    have f2 := frzN HZc.out 2
    have z3 : W43.cell? ⟨w.heap.size + 1 + 1, 3, none⟩ = some (.slice none 0 0) := cell_blkN HZc.out rfl
    have f3 := frzN HZc.out 3
    obtain ⟨Wf, hWf⟩ : ∃ W, W = ((((W43.setCell ⟨w.heap.size + 1 + 1, 0, none⟩ (.bool true)).setCell ⟨w.heap.size + 1 + 1, 1, none⟩ (.slice (some ⟨gk, 0, none⟩) (kn + km) (kn + km))).setCell ⟨w.heap.size + 1 + 1, 2, none⟩ (.slice (some ⟨gv, 0, none⟩) (vn + vm) (vn + vm))).setCell ⟨w.heap.size + 1 + 1, 3, none⟩ (.slice none 0 0)) := ⟨_, rfl⟩
    have HWF := hide hWf
    have HSF : Hid (Below (w.heap.size + 2) w2 Wf) := hide (by rw [hWf]; exact below4 (HCW43.out.mono HLW.out) (by omega) _ _ _ _)
    refine hOne (i := 18) rfl (by kernel_rfl) (fun K hK => ?_)
    go_simp
    rw [← hWf]
    clear hWf z0 z1 z2 z3 f0 f1 f2 f3
    refine hK.out _ _ (HS.out _ HSF.out) (fun hHeld => ?_)
    clear hK K
    try simp only [Act.put, List.setIfInBounds_toArray, List.set_cons_zero, List.set_cons_succ]
    refine hOne (i := 19) rfl (by kernel_rfl) (fun K hK => ?_)
    go_simp
    refine hK.out _ _ (HS.out _ HSF.out) (fun hHeld => ?_)
    clear hK K
    try simp only [Act.put, List.setIfInBounds_toArray, List.set_cons_zero, List.set_cons_succ]
    refine wpAnyH_done (by kernel_rfl) ?_ _
    have HBLK : Hid (Wf.heap[w.heap.size + 1 + 1]? = some (.cells #[.bool true, .slice (some ⟨gk, 0, none⟩) (kn + km) (kn + km), .slice (some ⟨gv, 0, none⟩) (vn + vm) (vn + vm), .slice none 0 0] 25 (0, 0))) := hide (by rw [HWF.out]; exact blk4 HZc.out _ _ _ _)
    have HNWF : Hid (NwG Wf (w.heap.size + 2) ⟨some ⟨gk, 0, none⟩, kn + km, kn + km, some ⟨gv, 0, none⟩, vn + vm, vn + vm, none, 0, 0⟩ ⟨true, pa.keys ++ pb.keys, pa.vals ++ pb.vals, []⟩) := hide (by rw [HWF.out]; exact HNW.out.set4 (Nat.le_refl _) _ _ _ _)
    have HBF : Hid (Below w.heap.size w Wf) := hide (by rw [HWF.out]; exact below4 (HB2.out.trans (HCW43.out.mono HB2.out.size)) (by omega) _ _ _ _)
    clear HWF HZc HSF HNW HS HCW43 hHeld HLW HX2 HY2 HZ2 HB2
    go_wp2
    (try simp only [Exit.inBlock, Exit.then])
    refine bodyPost_ret (resP2 rfl _ _ (w.heap.size + 1 + 1) _ HBLK.out rfl rfl) rfl ?_
    exact ⟨⟨some ⟨gk, 0, none⟩, kn + km, kn + km, some ⟨gv, 0, none⟩, vn + vm, vn + vm, none, 0, 0⟩, rfl, HNWF.out, HBF.out⟩
set_option maxHeartbeats 4000000 in
theorem merge_inner (v1 : Pv) (pa : Pg) (v2 : Pv) (pb : Pg) (xa : Option Addr) (xn xc : Nat) (key : List Nat) (w : World) (h1 : IsG w v1 pa) (h2 : IsG w v2 pb) (hk : IsB w xa xn xc key) (hc1 : FewP v1) (hc2 : FewP v2) (e1 : checkE pa = 0) (e2 : checkE pb = 0) (l1 : pa.leaf = false) (l2 : pb.leaf = false) (hlk : key.length ≤ 256) (hq : checkE ⟨false, pa.keys ++ [key] ++ pb.keys, [], pa.kids ++ pb.kids⟩ = 0) :
    Calls Try.prog 31 #[.agg (pgc false v1), .slice xa xn xc, .agg (pgc false v2)] w fun e w' => ∃ v', e = .returned (.tuple #[.agg (pgc false v'), .int .i64 0]) ∧ NwG w' (w.heap.size + 2) v' ⟨false, pa.keys ++ [key] ++ pb.keys, [], pa.kids ++ pb.kids⟩ ∧ Below w.heap.size w w' := by
  have HK := hide hk
  have HKL := hide hlk
  have hxl : ¬ (256 : Int) < (xn : Int) := by have := hk.1; omega
  have hxl' : ¬ (xn : Int) > 256 := by have := hk.1; omega
  clear hk hlk
  obtain ⟨V0, hV0⟩ : ∃ V0, V0 = ((w.alloc (.cells (pgc false v1) 25)).alloc (.cells (pgc false v2) 25)).alloc (.cells pg0c 25) := ⟨_, rfl⟩
  have HS0 : Hid (V0.heap.size = w.heap.size + 3) := hide (by rw [hV0]; simp)
  have HB0 : Hid (Below w.heap.size w V0) := hide (by rw [hV0]; exact (((Below.refl _ w).alloc (Nat.le_refl _) _).alloc (by simp) _).alloc (by simp; omega) _)
  have HX : Hid (V0.heap[w.heap.size]? = some (.cells (pgc false v1) 25 (0, 0))) := hide (by rw [hV0, heap_al, heap_al, heap_al, World.size_alloc, World.size_alloc, if_neg (by omega), if_neg (by omega), if_pos rfl])
  have HY : Hid (V0.heap[w.heap.size + 1]? = some (.cells (pgc false v2) 25 (0, 0))) := hide (by rw [hV0, heap_al, heap_al, World.size_alloc, World.size_alloc, if_neg (by omega), if_pos rfl])
  have HZ : Hid (V0.heap[w.heap.size + 1 + 1]? = some (.cells pg0c 25 (0, 0))) := hide (by rw [hV0, heap_al, World.size_alloc, World.size_alloc, if_pos rfl])
  have HCK1 := hide (check_any v1 pa V0 (h1.below HB0.out) hc1)
  rw [e1, l1] at HCK1
  have HCK2 : Hid (∀ W, Below w.heap.size w W → Calls Try.prog 18 #[.agg (pgc false v2)] W fun e w' => e = .returned (.int .i64 0) ∧ Below W.heap.size W w') := hide (fun W hW => by
    have := check_any v2 pb W (h2.below hW) hc2
    rw [e2, l2] at this
    exact this)
  have HKS1 := hide (kind_short (check_kind e1))
  have HKS2 := hide (kind_short (check_kind e2))
  have HF1 := hide (check_few e1)
  have HF2 := hide (check_few e2)
  have HFQ := hide (check_few hq)
  have HG1 := hide h1
  have HG2 := hide h2
  have HE := hide hq
  clear h1 h2 hc1 hc2 e1 e2 l1 l2 hq
  obtain ⟨ka, kn, kc, va, vn, vc, ia, inn, ic⟩ := v1
  obtain ⟨kb, km, kd, vb, vm, vd, ib, im, id'⟩ := v2
  try dsimp only at HX HY HZ HCK1 HCK2
  try dsimp only
  obtain ⟨q0, q1, q2, q3⟩ := BlkG.cells HX.out
  obtain ⟨r0, r1, r2, r3⟩ := BlkG.cells HY.out
  try dsimp only at q0 q1 q2 q3 r0 r1 r2 r3
  go_enter Try.func31, Try.ntmps31
  go_wp2_with fail
  try rw [← hV0]
  refine HCK1.out.mono ?_
  rintro e w1 ⟨rfl, hb1⟩
  have HQ1 : Hid (Below V0.heap.size V0 w1) := hide hb1
  have HB1 : Hid (Below w.heap.size w w1) := hide (HB0.out.trans (hb1.mono HB0.out.size))
  clear hb1 HCK1 q0 q1 q2 q3 r0 r1 r2 r3
  obtain ⟨r0, r1, r2, r3⟩ := BlkG.cells ((HQ1.out.block _ (heap_ltN HY.out)).trans HY.out)
  try dsimp only at r0 r1 r2 r3
  go_wp2_with fail
  refine (HCK2.out w1 HB1.out).mono ?_
  rintro e w2 ⟨rfl, hb2⟩
  have HQ2 : Hid (Below V0.heap.size V0 w2) := hide (HQ1.out.trans (hb2.mono HQ1.out.size))
  have HB2 : Hid (Below w.heap.size w w2) := hide (HB1.out.trans (hb2.mono HB1.out.size))
  have HX2 : Hid (w2.heap[w.heap.size]? = some (.cells #[.bool false, .slice ka kn kc, .slice va vn vc, .slice ia inn ic] 25 (0, 0))) := hide ((HQ2.out.block _ (heap_ltN HX.out)).trans HX.out)
  have HY2 : Hid (w2.heap[w.heap.size + 1]? = some (.cells #[.bool false, .slice kb km kd, .slice vb vm vd, .slice ib im id'] 25 (0, 0))) := hide ((HQ2.out.block _ (heap_ltN HY.out)).trans HY.out)
  have HZ2 : Hid (w2.heap[w.heap.size + 1 + 1]? = some (.cells pg0c 25 (0, 0))) := hide ((HQ2.out.block _ (heap_ltN HZ.out)).trans HZ.out)
  have HLW : Hid (w.heap.size + 2 ≤ w2.heap.size) := hide (Nat.le_of_lt (heap_ltN HZ2.out))
  clear hb2 HCK2 r0 r1 r2 r3 HQ1 HQ2 HX HY HZ HB1 HB0 hV0 HS0
  obtain ⟨q0, q1, q2, q3⟩ := BlkG.cells (v := ⟨ka, kn, kc, va, vn, vc, ia, inn, ic⟩) HX2.out
  obtain ⟨r0, r1, r2, r3⟩ := BlkG.cells (v := ⟨kb, km, kd, vb, vm, vd, ib, im, id'⟩) HY2.out
  try dsimp only at q0 q1 q2 q3 r0 r1 r2 r3
  have HKN : Hid (pa.keys.length = kn ∧ pb.keys.length = km ∧ pa.vals.length = vn ∧ pb.vals.length = vm ∧ pa.kids.length = inn ∧ pb.kids.length = im) := hide ⟨HG1.out.keys.1, HG2.out.keys.1, HG1.out.vals.1, HG2.out.vals.1, HG1.out.kids.1, HG2.out.kids.1⟩
  have HNN : Hid (kn ≤ 4096 ∧ km ≤ 4096 ∧ vn ≤ 4096 ∧ vm ≤ 4096 ∧ inn ≤ 4096 ∧ im ≤ 4096) := hide (by
    have a := HKN.out; have b := HF1.out; have c := HF2.out
    rw [a.1, a.2.2.1, a.2.2.2.2.1] at b
    rw [a.2.1, a.2.2.2.1, a.2.2.2.2.2] at c
    omega)
  obtain ⟨wa, hwa⟩ : ∃ W, W = (w2.alloc (.cells #[.slice xa xn xc] 26)).alloc (.cells #[.slice ka kn kc, .slice (some ⟨w2.heap.size, 0, none⟩) 1 1, .slice kb km kd] 22) := ⟨_, rfl⟩
  have HBwa : Hid (Below w2.heap.size w2 wa) := hide (by rw [hwa]; exact ((Below.refl _ _).alloc (Nat.le_refl _) _).alloc (by simp) _)
  have HO1 : Hid (wa.heap[w2.heap.size]? = some (.cells #[.slice xa xn xc] 26 (0, 0))) := hide (by rw [hwa, heap_al, heap_al, World.size_alloc, if_neg (by omega), if_pos rfl])
  have HO2 : Hid (wa.heap[w2.heap.size + 1]? = some (.cells #[.slice ka kn kc, .slice (some ⟨w2.heap.size, 0, none⟩) 1 1, .slice kb km kd] 22 (0, 0))) := hide (by rw [hwa, heap_al, World.size_alloc, if_pos rfl])
  have HCT := hide (cat3L (w2.heap.size + 1) ka (some ⟨w2.heap.size, 0, none⟩) kb kn kc 1 1 km kd _ _ _ wa HO2.out ((HG1.out.keys.below HB2.out).below HBwa.out) (isL_one HO1.out ((HK.out.below HB2.out).below HBwa.out)) ((HG2.out.keys.below HB2.out).below HBwa.out) (by have := HNN.out; omega))
  have hr1 : (w2.alloc (.cells #[.slice xa xn xc] 26)).cell? ⟨w.heap.size + 1, 1, none⟩ = some (.slice kb km kd) := cell_blkN ((((Below.refl _ w2).alloc (Nat.le_refl _) (.cells #[.slice xa xn xc] 26)).block _ (heap_ltN HY2.out)).trans HY2.out) rfl
  go_wp2_with fail
  try rw [← hwa]
  refine HCT.out.mono ?_
  rintro e w5 ⟨ak, ckc, rfl, hck, hb5⟩
  have HCw5 : Hid (Below w2.heap.size w2 w5) := hide (HBwa.out.trans (hb5.mono HBwa.out.size))
  have HCk := hide hck
  clear hck hb5 HCT HO1 HO2 HBwa hwa hr1 q0 q1 q2 q3 r0 r1 r2 r3
  obtain ⟨n, hn⟩ : ∃ n, n = kn + 1 + km := ⟨_, rfl⟩
  rw [← hn] at HCk ⊢
  have HN := hide hn
  clear hn
  have HS : Hid (∀ W : World, Below (w.heap.size + 2) w2 W → W.cell? ⟨w.heap.size, 3, none⟩ = some (.slice ia inn ic) ∧ W.cell? ⟨w.heap.size + 1, 3, none⟩ = some (.slice ib im id')) := hide (fun W hW => ⟨cell_blkN ((hW.block _ (by omega)).trans HX2.out) rfl, cell_blkN ((hW.block _ (by omega)).trans HY2.out) rfl⟩)
  go_wp2_with fail
  refine wp_region_held_drew (S := fun W : World => W.cell? ⟨w.heap.size, 3, none⟩ = some (.slice ia inn ic) ∧ W.cell? ⟨w.heap.size + 1, 3, none⟩ = some (.slice ib im id')) (by kernel_rfl) ?hSb (fun hHeld => ?_)
  case hSb => exact HS.out _ ((HCw5.out.mono HLW.out).drew)
  refine hTake (i := 0) (v := ?v0u46) (some 61) rfl rfl (by kernel_rfl) (by kernel_rfl) (by kernel_rfl) (fun _ _ _ h => h) (by rfl) (by assumption) ?hy0u46 ?hn0u46
  case hy0u46 => (intro w hSw; (try dsimp only at hSw); go_simp; try with_reducible rfl)
  try simp only [Act.put, List.setIfInBounds_toArray, List.set_cons_zero, List.set_cons_succ]
  refine hTake (i := 2) (v := ?v2u47) (some 63) rfl rfl (by kernel_rfl) (by kernel_rfl) (by kernel_rfl) (fun _ _ _ h => h) (by rfl) (by assumption) ?hy2u47 ?hn2u47
  case hy2u47 => (intro w hSw; (try dsimp only at hSw); go_simp; try with_reducible rfl)
  try simp only [Act.put, List.setIfInBounds_toArray, List.set_cons_zero, List.set_cons_succ]
  refine hTake (i := 3) (v := ?v3u48) (some 64) rfl rfl (by kernel_rfl) (by kernel_rfl) (by kernel_rfl) (fun _ _ _ h => h) (by rfl) (by assumption) ?hy3u48 ?hn3u48
  case hy3u48 => (intro w hSw; (try dsimp only at hSw); go_simp; try with_reducible rfl)
  try simp only [Act.put, List.setIfInBounds_toArray, List.set_cons_zero, List.set_cons_succ]
  refine hTake (i := 4) (v := ?v4u49) (some 65) rfl rfl (by kernel_rfl) (by kernel_rfl) (by kernel_rfl) (fun _ _ _ h => h) (by rfl) (by assumption) ?hy4u49 ?hn4u49
  case hy4u49 => (intro w hSw; (try dsimp only at hSw); go_simp; try with_reducible rfl)
  try simp only [Act.put, List.setIfInBounds_toArray, List.set_cons_zero, List.set_cons_succ]
  refine hTake (i := 5) (v := ?v5u50) (some 66) rfl rfl (by kernel_rfl) (by kernel_rfl) (by kernel_rfl) (fun _ _ _ h => h) (by rfl) (by assumption) ?hy5u50 ?hn5u50
  case hy5u50 => (intro w hSw; (try dsimp only at hSw); go_simp; try with_reducible rfl)
  try simp only [Act.put, List.setIfInBounds_toArray, List.set_cons_zero, List.set_cons_succ]
  obtain ⟨Wd, hWd⟩ : ∃ Wd, Wd = w5.drew := ⟨_, rfl⟩
  rw [← hWd]
  have HBnWd : Hid (Below w5.heap.size w5 Wd) := hide (by rw [hWd]; exact (Below.refl _ _).drew)
  clear hWd
  have HCWd : Hid (Below w2.heap.size w2 Wd) := hide (HCw5.out.trans (HBnWd.out.mono HCw5.out.size))
  have ck_Wd := hide (HCk.out.below HBnWd.out)
  clear HCk
  refine hTwo (i := 1) (j := 6) rfl rfl (by kernel_rfl) (fun K hK => ?_) (fun K hK => ?_)
  · obtain ⟨gk, hgk⟩ : ∃ g, g = Wd.heap.size := ⟨_, rfl⟩
    go_simp
    refine ((hgk ▸ clones_any ak n ckc _ Wd ck_Wd.out (by have := HNN.out; have := HN.out; omega) (fun b hb => (List.mem_append.1 hb).elim (fun hb => (List.mem_append.1 hb).elim (fun hb => Nat.le_trans (HKS1.out.1 b hb) (by decide)) (fun hb => by rw [List.mem_singleton.1 hb]; exact Nat.le_trans HKL.out (by decide))) (fun hb => Nat.le_trans (HKS2.out.1 b hb) (by decide))) : Calls Try.prog 49 #[.slice ak n ckc] Wd fun e w' => ∃ sv, e = .returned (.slice (some ⟨gk, 0, none⟩) n n) ∧ OwnL w' gk n sv (pa.keys ++ [key] ++ pb.keys) ∧ Below Wd.heap.size Wd w')).mono ?_
    rintro e W51 ⟨svk, rfl, hok, hbn⟩
    have HBnW51 := hide hbn
    clear hbn
    have HCW51 : Hid (Below w2.heap.size w2 W51) := hide (HCWd.out.trans (HBnW51.out.mono HCWd.out.size))
    have ck_W51 := hide (ck_Wd.out.below HBnW51.out)
    clear ck_Wd
    have HOk := hide hok
    clear hok
    have HGk : Hid (w.heap.size + 2 < gk) := hide (by rw [hgk]; have := HCWd.out.size; have := heap_ltN HZ2.out; omega)
    clear hgk
    refine hK.out _ _ (HS.out _ (HCW51.out.mono HLW.out)) (fun hHeld => ?_)
    clear hK K
    try simp only [Act.put, List.setIfInBounds_toArray, List.set_cons_zero, List.set_cons_succ]
    refine hOne (i := 6) rfl (by kernel_rfl) (fun K hK => ?_)
    go_simp
    obtain ⟨W52, hc2⟩ : ∃ W, W = W51.alloc (.cells #[.slice ia inn ic, .slice ib im id'] 23) := ⟨_, rfl⟩
    rw [← hc2]
    obtain ⟨qi, hq⟩ : ∃ q, q = W51.heap.size := ⟨_, rfl⟩
    rw [← hq]
    have HRqi : Hid (W52.heap[qi]? = some (.cells #[.slice ia inn ic, .slice ib im id'] 23 (0, 0))) := hide (by rw [hc2, hq]; exact heap_alloc_new _ _)
    have HBnW52 : Hid (Below W51.heap.size W51 W52) := hide (by rw [hc2]; exact (Below.refl _ _).alloc (Nat.le_refl _) _)
    clear hc2 hq
    have HCW52 : Hid (Below w2.heap.size w2 W52) := hide (HCW51.out.trans (HBnW52.out.mono HCW51.out.size))
    have ck_W52 := hide (ck_W51.out.below HBnW52.out)
    clear ck_W51
    have ok_W52 := hide (HOk.out.below HBnW52.out)
    clear HOk
    refine hK.out _ _ (HS.out _ (HCW52.out.mono HLW.out)) (fun hHeld => ?_)
    clear hK K
    try simp only [Act.put, List.setIfInBounds_toArray, List.set_cons_zero, List.set_cons_succ]
    refine hOne (i := 7) rfl (by kernel_rfl) (fun K hK => ?_)
    go_simp
    refine (cat2K qi ia ib inn ic im id' _ _ W52 HRqi.out ((HG1.out.kids.below HB2.out).below HCW52.out) ((HG2.out.kids.below HB2.out).below HCW52.out) (by have := HNN.out; omega)).mono ?_
    rintro e W53 ⟨ai, cic, rfl, hci, hfi, hbn⟩
    have HBnW53 := hide hbn
    clear hbn
    have HCW53 : Hid (Below w2.heap.size w2 W53) := hide (HCW52.out.trans (HBnW53.out.mono HCW52.out.size))
    have ck_W53 := hide (ck_W52.out.below HBnW53.out)
    clear ck_W52
    have ok_W53 := hide (ok_W52.out.below HBnW53.out)
    clear ok_W52
    have ri_W53 := hide ((HBnW53.out.block _ (heap_ltN HRqi.out)).trans HRqi.out)
    clear HRqi
    have HCi := hide hci
    clear hci
    have HFi : Hid (∀ b off, ai = some ⟨b, off, none⟩ → w.heap.size + 2 < b) := hide (fun b off e => by have := hfi b off e; have := HCW52.out.size; have := heap_ltN HZ2.out; omega)
    clear hfi
    refine hK.out _ _ (HS.out _ (HCW53.out.mono HLW.out)) (fun hHeld => ?_)
    clear hK K
    try simp only [Act.put, List.setIfInBounds_toArray, List.set_cons_zero, List.set_cons_succ]
    refine hTake (i := 8) (v := ?v8u54) (some 69) rfl rfl (by kernel_rfl) (by kernel_rfl) (by kernel_rfl) (fun _ _ _ h => h) (by rfl) (by assumption) ?hy8u54 ?hn8u54
    case hy8u54 => (intro w hSw; (try dsimp only at hSw); go_simp; try with_reducible rfl)
    try simp only [Act.put, List.setIfInBounds_toArray, List.set_cons_zero, List.set_cons_succ]
    refine hOne (i := 9) rfl (by kernel_rfl) (fun K hK => ?_)
    have HNW : Hid (NwG W53 (w.heap.size + 2) ⟨some ⟨gk, 0, none⟩, n, n, none, 0, 0, ai, inn + im, cic⟩ ⟨false, pa.keys ++ [key] ++ pb.keys, [], pa.kids ++ pb.kids⟩) := hide (by
      have e1 : (pa.keys ++ [key] ++ pb.keys).length = n := by rw [List.length_append, List.length_append, HKN.out.1, HKN.out.2.1, HN.out]; rfl
      have g1 := HGk.out
      have g3 := HNN.out
      have g4 := HN.out
      refine ⟨?_, nwL_nil _ _, HCi.out, HFi.out⟩
      have hk := ok_W53.out.full e1
      rw [← List.append_nil svk] at hk
      have h0 := nwL_row (G := w.heap.size + 2) (c := n) hk (ok_W53.out.els.mono (by omega)) (by omega) (by rw [e1]; exact Nat.le_refl _) (by unfold maxLen; omega)
      rw [e1] at h0
      exact h0)
    clear ok_W53
    clear HCi
    clear ck_W53
    clear ri_W53
    have HNWx := hide HNW.out
    clear HNW
    go_simp
    refine (checked_ok ⟨some ⟨gk, 0, none⟩, n, n, none, 0, 0, ai, inn + im, cic⟩ ⟨false, pa.keys ++ [key] ++ pb.keys, [], pa.kids ++ pb.kids⟩ W53 HNWx.out.is (by have := HNN.out; have := HN.out; refine ⟨?_, ?_, ?_⟩ <;> dsimp only <;> omega) HE.out (lf := false) rfl).mono ?_
    rintro e W55 ⟨rfl, hbn⟩
    have HBnW55 := hide hbn
    clear hbn
    have HCW55 : Hid (Below w2.heap.size w2 W55) := hide (HCW53.out.trans (HBnW55.out.mono HCW53.out.size))
    have HNW := hide (HNWx.out.below HBnW55.out)
    clear HNWx
    refine hK.out _ _ (HS.out _ (HCW55.out.mono HLW.out)) (fun hHeld => ?_)
    clear hK K
    try simp only [Act.put, List.setIfInBounds_toArray, List.set_cons_zero, List.set_cons_succ]
    refine hTake (i := 10) (v := ?v10u56) (some 71) rfl rfl (by kernel_rfl) (by kernel_rfl) (by kernel_rfl) (fun _ _ _ h => h) (by rfl) (by assumption) ?hy10u56 ?hn10u56
    case hy10u56 => (intro w hSw; (try dsimp only at hSw); go_simp; try with_reducible rfl)
    try simp only [Act.put, List.setIfInBounds_toArray, List.set_cons_zero, List.set_cons_succ]
    refine hTake (i := 11) (v := ?v11u57) (some 72) rfl rfl (by kernel_rfl) (by kernel_rfl) (by kernel_rfl) (fun _ _ _ h => h) (by rfl) (by assumption) ?hy11u57 ?hn11u57
    case hy11u57 => (intro w hSw; (try dsimp only at hSw); go_simp; try with_reducible rfl)
    try simp only [Act.put, List.setIfInBounds_toArray, List.set_cons_zero, List.set_cons_succ]
    have HZc : Hid (W55.heap[w.heap.size + 1 + 1]? = some (.cells pg0c 25 (0, 0))) := hide ((HCW55.out.block _ (heap_ltN HZ2.out)).trans HZ2.out)
    have z0 : W55.cell? ⟨w.heap.size + 1 + 1, 0, none⟩ = some (.bool false) := cell_blkN HZc.out rfl
    have f0 := frzN HZc.out 0
    have z1 : W55.cell? ⟨w.heap.size + 1 + 1, 1, none⟩ = some (.slice none 0 0) := cell_blkN HZc.out rfl
    have f1 := frzN HZc.out 1
    have z2 : W55.cell? ⟨w.heap.size + 1 + 1, 2, none⟩ = some (.slice none 0 0) := cell_blkN HZc.out rfl
    have f2 := frzN HZc.out 2
    have z3 : W55.cell? ⟨w.heap.size + 1 + 1, 3, none⟩ = some (.slice none 0 0) := cell_blkN HZc.out rfl
    have f3 := frzN HZc.out 3
    obtain ⟨Wf, hWf⟩ : ∃ W, W = ((((W55.setCell ⟨w.heap.size + 1 + 1, 0, none⟩ (.bool false)).setCell ⟨w.heap.size + 1 + 1, 1, none⟩ (.slice (some ⟨gk, 0, none⟩) n n)).setCell ⟨w.heap.size + 1 + 1, 2, none⟩ (.slice none 0 0)).setCell ⟨w.heap.size + 1 + 1, 3, none⟩ (.slice ai (inn + im) cic)) := ⟨_, rfl⟩
    have HWF := hide hWf
    have HSF : Hid (Below (w.heap.size + 2) w2 Wf) := hide (by rw [hWf]; exact below4 (HCW55.out.mono HLW.out) (by omega) _ _ _ _)
    refine hOne (i := 12) rfl (by kernel_rfl) (fun K hK => ?_)
    go_simp
    rw [← hWf]
    clear hWf z0 z1 z2 z3 f0 f1 f2 f3
    refine hK.out _ _ (HS.out _ HSF.out) (fun hHeld => ?_)
    clear hK K
    try simp only [Act.put, List.setIfInBounds_toArray, List.set_cons_zero, List.set_cons_succ]
    refine hOne (i := 13) rfl (by kernel_rfl) (fun K hK => ?_)
    go_simp
    refine hK.out _ _ (HS.out _ HSF.out) (fun hHeld => ?_)
    clear hK K
    try simp only [Act.put, List.setIfInBounds_toArray, List.set_cons_zero, List.set_cons_succ]
    refine wpAnyH_done (by kernel_rfl) ?_ _
    have HBLK : Hid (Wf.heap[w.heap.size + 1 + 1]? = some (.cells #[.bool false, .slice (some ⟨gk, 0, none⟩) n n, .slice none 0 0, .slice ai (inn + im) cic] 25 (0, 0))) := hide (by rw [HWF.out]; exact blk4 HZc.out _ _ _ _)
    have HNWF : Hid (NwG Wf (w.heap.size + 2) ⟨some ⟨gk, 0, none⟩, n, n, none, 0, 0, ai, inn + im, cic⟩ ⟨false, pa.keys ++ [key] ++ pb.keys, [], pa.kids ++ pb.kids⟩) := hide (by rw [HWF.out]; exact HNW.out.set4 (Nat.le_refl _) _ _ _ _)
    have HBF : Hid (Below w.heap.size w Wf) := hide (by rw [HWF.out]; exact below4 (HB2.out.trans (HCW55.out.mono HB2.out.size)) (by omega) _ _ _ _)
    clear HWF HZc HSF HNW HS HCW55 hHeld HLW HX2 HY2 HZ2 HB2
    go_wp2
    (try simp only [Exit.inBlock, Exit.then])
    refine bodyPost_ret (resP2 rfl _ _ (w.heap.size + 1 + 1) _ HBLK.out rfl rfl) rfl ?_
    exact ⟨⟨some ⟨gk, 0, none⟩, n, n, none, 0, 0, ai, inn + im, cic⟩, rfl, HNWF.out, HBF.out⟩
  · go_simp
    obtain ⟨W58, hc2⟩ : ∃ W, W = Wd.alloc (.cells #[.slice ia inn ic, .slice ib im id'] 23) := ⟨_, rfl⟩
    rw [← hc2]
    obtain ⟨qi, hq⟩ : ∃ q, q = Wd.heap.size := ⟨_, rfl⟩
    rw [← hq]
    have HRqi : Hid (W58.heap[qi]? = some (.cells #[.slice ia inn ic, .slice ib im id'] 23 (0, 0))) := hide (by rw [hc2, hq]; exact heap_alloc_new _ _)
    have HBnW58 : Hid (Below Wd.heap.size Wd W58) := hide (by rw [hc2]; exact (Below.refl _ _).alloc (Nat.le_refl _) _)
    clear hc2 hq
    have HCW58 : Hid (Below w2.heap.size w2 W58) := hide (HCWd.out.trans (HBnW58.out.mono HCWd.out.size))
    have ck_W58 := hide (ck_Wd.out.below HBnW58.out)
    clear ck_Wd
    refine hK.out _ _ (HS.out _ (HCW58.out.mono HLW.out)) (fun hHeld => ?_)
    clear hK K
    try simp only [Act.put, List.setIfInBounds_toArray, List.set_cons_zero, List.set_cons_succ]
    refine hOne (i := 1) rfl (by kernel_rfl) (fun K hK => ?_)
    obtain ⟨gk, hgk⟩ : ∃ g, g = W58.heap.size := ⟨_, rfl⟩
    go_simp
    refine ((hgk ▸ clones_any ak n ckc _ W58 ck_W58.out (by have := HNN.out; have := HN.out; omega) (fun b hb => (List.mem_append.1 hb).elim (fun hb => (List.mem_append.1 hb).elim (fun hb => Nat.le_trans (HKS1.out.1 b hb) (by decide)) (fun hb => by rw [List.mem_singleton.1 hb]; exact Nat.le_trans HKL.out (by decide))) (fun hb => Nat.le_trans (HKS2.out.1 b hb) (by decide))) : Calls Try.prog 49 #[.slice ak n ckc] W58 fun e w' => ∃ sv, e = .returned (.slice (some ⟨gk, 0, none⟩) n n) ∧ OwnL w' gk n sv (pa.keys ++ [key] ++ pb.keys) ∧ Below W58.heap.size W58 w')).mono ?_
    rintro e W59 ⟨svk, rfl, hok, hbn⟩
    have HBnW59 := hide hbn
    clear hbn
    have HCW59 : Hid (Below w2.heap.size w2 W59) := hide (HCW58.out.trans (HBnW59.out.mono HCW58.out.size))
    have ck_W59 := hide (ck_W58.out.below HBnW59.out)
    clear ck_W58
    have ri_W59 := hide ((HBnW59.out.block _ (heap_ltN HRqi.out)).trans HRqi.out)
    clear HRqi
    have HOk := hide hok
    clear hok
    have HGk : Hid (w.heap.size + 2 < gk) := hide (by rw [hgk]; have := HCW58.out.size; have := heap_ltN HZ2.out; omega)
    clear hgk
    refine hK.out _ _ (HS.out _ (HCW59.out.mono HLW.out)) (fun hHeld => ?_)
    clear hK K
    try simp only [Act.put, List.setIfInBounds_toArray, List.set_cons_zero, List.set_cons_succ]
    refine hOne (i := 7) rfl (by kernel_rfl) (fun K hK => ?_)
    go_simp
    refine (cat2K qi ia ib inn ic im id' _ _ W59 ri_W59.out ((HG1.out.kids.below HB2.out).below HCW59.out) ((HG2.out.kids.below HB2.out).below HCW59.out) (by have := HNN.out; omega)).mono ?_
    rintro e W60 ⟨ai, cic, rfl, hci, hfi, hbn⟩
    have HBnW60 := hide hbn
    clear hbn
    have HCW60 : Hid (Below w2.heap.size w2 W60) := hide (HCW59.out.trans (HBnW60.out.mono HCW59.out.size))
    have ck_W60 := hide (ck_W59.out.below HBnW60.out)
    clear ck_W59
    have ri_W60 := hide ((HBnW60.out.block _ (heap_ltN ri_W59.out)).trans ri_W59.out)
    clear ri_W59
    have ok_W60 := hide (HOk.out.below HBnW60.out)
    clear HOk
    have HCi := hide hci
    clear hci
    have HFi : Hid (∀ b off, ai = some ⟨b, off, none⟩ → w.heap.size + 2 < b) := hide (fun b off e => by have := hfi b off e; have := HCW59.out.size; have := heap_ltN HZ2.out; omega)
    clear hfi
    refine hK.out _ _ (HS.out _ (HCW60.out.mono HLW.out)) (fun hHeld => ?_)
    clear hK K
    try simp only [Act.put, List.setIfInBounds_toArray, List.set_cons_zero, List.set_cons_succ]
    refine hTake (i := 8) (v := ?v8u61) (some 69) rfl rfl (by kernel_rfl) (by kernel_rfl) (by kernel_rfl) (fun _ _ _ h => h) (by rfl) (by assumption) ?hy8u61 ?hn8u61
    case hy8u61 => (intro w hSw; (try dsimp only at hSw); go_simp; try with_reducible rfl)
    try simp only [Act.put, List.setIfInBounds_toArray, List.set_cons_zero, List.set_cons_succ]
    refine hOne (i := 9) rfl (by kernel_rfl) (fun K hK => ?_)
    have HNW : Hid (NwG W60 (w.heap.size + 2) ⟨some ⟨gk, 0, none⟩, n, n, none, 0, 0, ai, inn + im, cic⟩ ⟨false, pa.keys ++ [key] ++ pb.keys, [], pa.kids ++ pb.kids⟩) := hide (by
      have e1 : (pa.keys ++ [key] ++ pb.keys).length = n := by rw [List.length_append, List.length_append, HKN.out.1, HKN.out.2.1, HN.out]; rfl
      have g1 := HGk.out
      have g3 := HNN.out
      have g4 := HN.out
      refine ⟨?_, nwL_nil _ _, HCi.out, HFi.out⟩
      have hk := ok_W60.out.full e1
      rw [← List.append_nil svk] at hk
      have h0 := nwL_row (G := w.heap.size + 2) (c := n) hk (ok_W60.out.els.mono (by omega)) (by omega) (by rw [e1]; exact Nat.le_refl _) (by unfold maxLen; omega)
      rw [e1] at h0
      exact h0)
    clear ok_W60
    clear HCi
    clear ck_W60
    clear ri_W60
    have HNWx := hide HNW.out
    clear HNW
    go_simp
    refine (checked_ok ⟨some ⟨gk, 0, none⟩, n, n, none, 0, 0, ai, inn + im, cic⟩ ⟨false, pa.keys ++ [key] ++ pb.keys, [], pa.kids ++ pb.kids⟩ W60 HNWx.out.is (by have := HNN.out; have := HN.out; refine ⟨?_, ?_, ?_⟩ <;> dsimp only <;> omega) HE.out (lf := false) rfl).mono ?_
    rintro e W62 ⟨rfl, hbn⟩
    have HBnW62 := hide hbn
    clear hbn
    have HCW62 : Hid (Below w2.heap.size w2 W62) := hide (HCW60.out.trans (HBnW62.out.mono HCW60.out.size))
    have HNW := hide (HNWx.out.below HBnW62.out)
    clear HNWx
    refine hK.out _ _ (HS.out _ (HCW62.out.mono HLW.out)) (fun hHeld => ?_)
    clear hK K
    try simp only [Act.put, List.setIfInBounds_toArray, List.set_cons_zero, List.set_cons_succ]
    refine hTake (i := 10) (v := ?v10u63) (some 71) rfl rfl (by kernel_rfl) (by kernel_rfl) (by kernel_rfl) (fun _ _ _ h => h) (by rfl) (by assumption) ?hy10u63 ?hn10u63
    case hy10u63 => (intro w hSw; (try dsimp only at hSw); go_simp; try with_reducible rfl)
    try simp only [Act.put, List.setIfInBounds_toArray, List.set_cons_zero, List.set_cons_succ]
    refine hTake (i := 11) (v := ?v11u64) (some 72) rfl rfl (by kernel_rfl) (by kernel_rfl) (by kernel_rfl) (fun _ _ _ h => h) (by rfl) (by assumption) ?hy11u64 ?hn11u64
    case hy11u64 => (intro w hSw; (try dsimp only at hSw); go_simp; try with_reducible rfl)
    try simp only [Act.put, List.setIfInBounds_toArray, List.set_cons_zero, List.set_cons_succ]
    have HZc : Hid (W62.heap[w.heap.size + 1 + 1]? = some (.cells pg0c 25 (0, 0))) := hide ((HCW62.out.block _ (heap_ltN HZ2.out)).trans HZ2.out)
    have z0 : W62.cell? ⟨w.heap.size + 1 + 1, 0, none⟩ = some (.bool false) := cell_blkN HZc.out rfl
    have f0 := frzN HZc.out 0
    have z1 : W62.cell? ⟨w.heap.size + 1 + 1, 1, none⟩ = some (.slice none 0 0) := cell_blkN HZc.out rfl
    have f1 := frzN HZc.out 1
    have z2 : W62.cell? ⟨w.heap.size + 1 + 1, 2, none⟩ = some (.slice none 0 0) := cell_blkN HZc.out rfl
    have f2 := frzN HZc.out 2
    have z3 : W62.cell? ⟨w.heap.size + 1 + 1, 3, none⟩ = some (.slice none 0 0) := cell_blkN HZc.out rfl
    have f3 := frzN HZc.out 3
    obtain ⟨Wf, hWf⟩ : ∃ W, W = ((((W62.setCell ⟨w.heap.size + 1 + 1, 0, none⟩ (.bool false)).setCell ⟨w.heap.size + 1 + 1, 1, none⟩ (.slice (some ⟨gk, 0, none⟩) n n)).setCell ⟨w.heap.size + 1 + 1, 2, none⟩ (.slice none 0 0)).setCell ⟨w.heap.size + 1 + 1, 3, none⟩ (.slice ai (inn + im) cic)) := ⟨_, rfl⟩
    have HWF := hide hWf
    have HSF : Hid (Below (w.heap.size + 2) w2 Wf) := hide (by rw [hWf]; exact below4 (HCW62.out.mono HLW.out) (by omega) _ _ _ _)
    refine hOne (i := 12) rfl (by kernel_rfl) (fun K hK => ?_)
    go_simp
    rw [← hWf]
    clear hWf z0 z1 z2 z3 f0 f1 f2 f3
    refine hK.out _ _ (HS.out _ HSF.out) (fun hHeld => ?_)
    clear hK K
    try simp only [Act.put, List.setIfInBounds_toArray, List.set_cons_zero, List.set_cons_succ]
    refine hOne (i := 13) rfl (by kernel_rfl) (fun K hK => ?_)
    go_simp
    refine hK.out _ _ (HS.out _ HSF.out) (fun hHeld => ?_)
    clear hK K
    try simp only [Act.put, List.setIfInBounds_toArray, List.set_cons_zero, List.set_cons_succ]
    refine wpAnyH_done (by kernel_rfl) ?_ _
    have HBLK : Hid (Wf.heap[w.heap.size + 1 + 1]? = some (.cells #[.bool false, .slice (some ⟨gk, 0, none⟩) n n, .slice none 0 0, .slice ai (inn + im) cic] 25 (0, 0))) := hide (by rw [HWF.out]; exact blk4 HZc.out _ _ _ _)
    have HNWF : Hid (NwG Wf (w.heap.size + 2) ⟨some ⟨gk, 0, none⟩, n, n, none, 0, 0, ai, inn + im, cic⟩ ⟨false, pa.keys ++ [key] ++ pb.keys, [], pa.kids ++ pb.kids⟩) := hide (by rw [HWF.out]; exact HNW.out.set4 (Nat.le_refl _) _ _ _ _)
    have HBF : Hid (Below w.heap.size w Wf) := hide (by rw [HWF.out]; exact below4 (HB2.out.trans (HCW62.out.mono HB2.out.size)) (by omega) _ _ _ _)
    clear HWF HZc HSF HNW HS HCW62 hHeld HLW HX2 HY2 HZ2 HB2
    go_wp2
    (try simp only [Exit.inBlock, Exit.then])
    refine bodyPost_ret (resP2 rfl _ _ (w.heap.size + 1 + 1) _ HBLK.out rfl rfl) rfl ?_
    exact ⟨⟨some ⟨gk, 0, none⟩, n, n, none, 0, 0, ai, inn + im, cic⟩, rfl, HNWF.out, HBF.out⟩
end Go.Proofs.Ytebikoekpbnpbaa
