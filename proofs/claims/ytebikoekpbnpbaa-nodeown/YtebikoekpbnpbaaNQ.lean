/- Split of leaves -/
import Derived.Test.YtebikoekpbnpbaaNP
namespace Go.Proofs.Ytebikoekpbnpbaa
open Go.RowKit Cod
set_option maxRecDepth 100000
set_option linter.unusedVariables false
set_option linter.unusedSimpArgs false
theorem resP4 {fn : Func} {p u p2 u2 : Tmp} (h : fn.results = #[.cell p 25, .tmp u, .cell p2 25, .tmp u2]) (tmps : Array Value) (W : World) (B B2 : Nat) (cs cs2 : Array Value) (hb : W.heap[B]? = some (.cells cs 25 (0, 0))) (hs : cs.size = 4) (hb2 : W.heap[B2]? = some (.cells cs2 25 (0, 0))) (hs2 : cs2.size = 4) (hp : tmps.getD p undef = .pointer (some ⟨B, 0, none⟩)) (hp2 : tmps.getD p2 undef = .pointer (some ⟨B2, 0, none⟩)) :
    (results fn tmps).run Try.prog W = .ok (.tuple #[.agg cs, tmps.getD u undef, .agg cs2, tmps.getD u2 undef]) W := by
  have hl := run_loadVar_row (P := Try.prog) W B 25 25 cs (0, 0) _ hb Try.underlying25 rfl (by rw [hs]; kernel_rfl)
  have hl2 := run_loadVar_row (P := Try.prog) W B2 25 25 cs2 (0, 0) _ hb2 Try.underlying25 rfl (by rw [hs2]; kernel_rfl)
  have hp' : tmps[p]?.getD undef = .pointer (some ⟨B, 0, none⟩) := by simpa using hp
  have hp2' : tmps[p2]?.getD undef = .pointer (some ⟨B2, 0, none⟩) := by simpa using hp2
  simp only [results, h]
  simp [Sem.run_bind, Result.andThen, asAddr, hp', hl, hp2', hl2]
abbrev pg0c : Array Value := #[.bool false, .slice none 0 0, .slice none 0 0, .slice none 0 0]
set_option maxHeartbeats 3000000 in
theorem splitL_any (v : Pv) (p : Pg) (w : World) (h : IsG w v p) (h0 : 2 ≤ v.kn) (hE : leafE p = 0) (hc : FewP v) :
    Calls Try.prog 29 #[.agg (pgc true v)] w fun e w' => ∃ (k : Nat) (v1 v2 : Pv) (xa : Option Addr) (xc : Nat), e = .returned (.tuple #[.agg (pgc true v1), .slice xa (p.keys.getD (1 + k) []).length xc, .agg (pgc true v2), .int .i64 0]) ∧ k ≤ v.kn - 2 ∧ NwG w' (w.heap.size + 2) v1 (lpP p 0 (1 + k)) ∧ NwG w' (w.heap.size + 2) v2 (lpP p (1 + k) v.kn) ∧ IsB w' xa (p.keys.getD (1 + k) []).length xc (p.keys.getD (1 + k) []) ∧ (∀ b off, xa = some ⟨b, off, none⟩ → w.heap.size + 2 < b ∧ FzB w' b) ∧ Below w.heap.size w w' := by
  obtain ⟨hce, hlf⟩ := leafE_0 hE
  have HCE := hide hce
  have hfew := check_few hce
  have HKS := hide (kind_short (check_kind hce))
  have HLL := hide (leaf_lens hE)
  have HKN := hide h.keys.1
  have HVN := hide h.vals.1
  have HIN := hide h.kids.1
  have HI0 : Hid (v.inn = 0) := hide (by
    rw [← HIN.out]
    rcases check_kind hce with h3 | h3
    · simp only [leafB, Bool.and_eq_true, decide_eq_true_eq] at h3
      exact h3.1.1.2
    · simp [innerB, hlf] at h3)
  have HVK : Hid (v.vn = v.kn) := hide (by rw [← HKN.out, ← HVN.out]; exact HLL.out)
  have hkn : v.kn ≤ 4096 := by rw [← HKN.out]; exact hfew.1
  obtain ⟨V0, hV0⟩ : ∃ V0, V0 = ((w.alloc (.cells (pgc true v) 25)).alloc (.cells pg0c 25)).alloc (.cells pg0c 25) := ⟨_, rfl⟩
  have HS0 : Hid (V0.heap.size = w.heap.size + 3) := hide (by rw [hV0]; simp)
  have HB0 : Hid (Below w.heap.size w V0) := hide (by rw [hV0]; exact (((Below.refl _ w).alloc (Nat.le_refl _) _).alloc (by simp) _).alloc (by simp; omega) _)
  have HX : Hid (V0.heap[w.heap.size]? = some (.cells (pgc true v) 25 (0, 0))) := hide (by rw [hV0, heap_alloc_old _ _ (by simp; omega), heap_alloc_old _ _ (by simp), heap_alloc_new])
  have HY : Hid (V0.heap[w.heap.size + 1]? = some (.cells pg0c 25 (0, 0))) := hide (by
    rw [hV0, heap_alloc_old _ _ (by simp)]
    have := heap_alloc_new (w.alloc (.cells (pgc true v) 25)) (.cells pg0c 25)
    rwa [show (w.alloc (.cells (pgc true v) 25)).heap.size = w.heap.size + 1 by simp] at this)
  have HZ : Hid (V0.heap[w.heap.size + 2]? = some (.cells pg0c 25 (0, 0))) := hide (by
    rw [hV0]
    have := heap_alloc_new ((w.alloc (.cells (pgc true v) 25)).alloc (.cells pg0c 25)) (.cells pg0c 25)
    rwa [show ((w.alloc (.cells (pgc true v) 25)).alloc (.cells pg0c 25)).heap.size = w.heap.size + 2 by simp] at this)
  have HCK := hide (check_any v p V0 (h.below HB0.out) hc)
  rw [HCE.out, hlf] at HCK
  have HMD : Hid (∀ W : World, Below w.heap.size w W → Calls Try.prog 57 #[.agg (pgc true v)] W fun e w' => ∃ k : Nat, e = .returned (.int .i64 ((1 + k : Nat) : Int)) ∧ k ≤ v.kn - 2 ∧ Below W.heap.size W w') := hide (fun W hW => by
    have := leafMiddle_any v p W (h.below hW) h0 HVK.out hkn HI0.out ⟨HKS.out.1, HKS.out.2.1⟩
    rw [hlf] at this
    exact this)
  have HLP : Hid (∀ (f t : Nat) (W : World), f ≤ t → t ≤ v.kn → Below w.heap.size w W → Calls Try.prog 58 #[.agg (pgc true v), .int .i64 (f : Nat), .int .i64 (t : Nat)] W fun e w' => ∃ v', e = .returned (.agg (pgc true v')) ∧ NwG w' (W.heap.size + 1) v' (lpP p f t) ∧ Below W.heap.size W w') := hide (fun f t W h1 h2 hW => leafPart_any v p f t W (h.below hW) (by omega) h1 h2 HVK.out hkn ⟨HKS.out.1, HKS.out.2.1⟩ true)
  have HG := hide h
  clear h hc hfew hce hE hlf
  obtain ⟨ka, kn, kc, va, vn, vc, ia, inn, ic⟩ := v
  try dsimp only at HX HY HZ HCK HMD HLP HG h0 hkn HVK HI0 HKN HVN
  try dsimp only
  obtain ⟨q0, q1, q2, q3⟩ := BlkG.cells HX.out
  try dsimp only at q0 q1 q2 q3
  go_enter Try.func29, Try.ntmps29
  go_wp2_with fail
  try rw [← hV0]
  refine HCK.out.mono ?_
  rintro e w1 ⟨rfl, hb1⟩
  have HQ : Hid (Below V0.heap.size V0 w1) := hide hb1
  have HB1 : Hid (Below w.heap.size w w1) := hide (HB0.out.trans (hb1.mono HB0.out.size))
  clear hb1 HCK q0 q1 q2 q3
  obtain ⟨q0, q1, q2, q3⟩ := BlkG.cells ((HQ.out.block _ (heap_ltN HX.out)).trans HX.out)
  try dsimp only at q0 q1 q2 q3
  have HM1 := hide (HMD.out w1 HB1.out)
  have h0I : ¬ (kn : Int) < 2 := by omega
  clear HMD
  go_wp2_with fail
  refine HM1.out.mono ?_
  rintro e w2 ⟨k, rfl, hk, hb2⟩
  have HQ2 : Hid (Below V0.heap.size V0 w2) := hide (HQ.out.trans (hb2.mono HQ.out.size))
  have HB2 : Hid (Below w.heap.size w w2) := hide (HB0.out.trans (HQ2.out.mono HB0.out.size))
  clear hb2 HM1 q0 q1 q2 q3 HQ HB1
  obtain ⟨m, hm⟩ : ∃ m, m = 1 + k := ⟨_, rfl⟩
  have hm1 : 1 ≤ m := by omega
  have hmk : m < kn := by omega
  have HKM : Hid (m = 1 + k ∧ k ≤ kn - 2) := hide ⟨hm, hk⟩
  rw [← hm]
  clear hm hk
  have hK := HG.out.keys
  try dsimp only at hK
  obtain ⟨b1, o1, _, _, _, rfl, _, _, _⟩ := hK.2.2.2.2 0 (by omega)
  obtain ⟨_, _, a', n', c', e1, hbb, z1, hB⟩ := hK.2.2.2.2 m hmk
  cases e1
  have hkc : kn ≤ kc := hK.2.1
  have hkc2 : kc ≤ 9223372036854775807 := hK.2.2.1
  have HBK := hide hB
  have hle : n' ≤ 1024 := by rw [← hB.1]; exact HKS.out.1 _ (getD_mem (by rw [HKN.out]; exact hmk))
  have HHX : Hid (w2.heap[w.heap.size]? = some (.cells (pgc true ⟨some ⟨b1, o1, none⟩, kn, kc, va, vn, vc, ia, inn, ic⟩) 25 (0, 0))) := hide ((HQ2.out.block _ (heap_ltN HX.out)).trans HX.out)
  have HS : Hid (∀ V : World, Below (w.heap.size + 1) w2 V → V.cell? ⟨w.heap.size, 0, none⟩ = some (.bool true) ∧ V.cell? ⟨w.heap.size, 1, none⟩ = some (.slice (some ⟨b1, o1, none⟩) kn kc) ∧ V.cell? ⟨w.heap.size, 2, none⟩ = some (.slice va vn vc) ∧ V.cell? ⟨w.heap.size, 3, none⟩ = some (.slice ia inn ic) ∧ V.cell? ⟨b1, o1 + m, none⟩ = some (.slice a' n' c')) := hide (fun V hV => by
    obtain ⟨q0, q1, q2, q3⟩ := BlkG.cells ((hV.block _ (by omega)).trans HHX.out)
    exact ⟨q0, q1, q2, q3, (World.cell?_of_block (hV.block _ (by show b1 < _; omega))).trans ((World.cell?_of_block (HB2.out.block _ hbb)).trans z1)⟩)
  have HW2 : Hid (w.heap.size + 1 + 1 < w2.heap.size) := hide (by have := HQ2.out.size; rw [HS0.out] at this; omega)
  have HT : Hid (∀ V : World, Below w2.heap.size w2 V → Below w.heap.size w V ∧ Below (w.heap.size + 1) w2 V) := hide (fun V hV => ⟨HB2.out.trans (hV.mono HB2.out.size), hV.mono (by have := HW2.out; omega)⟩)
  have HT1 : Hid (Calls Try.prog 58 #[.agg (pgc true ⟨some ⟨b1, o1, none⟩, kn, kc, va, vn, vc, ia, inn, ic⟩), .int .i64 0, .int .i64 (m : Nat)] w2.drew fun e w' => ∃ v', e = .returned (.agg (pgc true v')) ∧ NwG w' (w2.drew.heap.size + 1) v' (lpP p 0 m) ∧ Below w2.drew.heap.size w2.drew w') := hide (HLP.out 0 m w2.drew (Nat.zero_le _) (by omega) HB2.out.drew)
  have HT2 : Hid (∀ V : World, Below w2.drew.heap.size w2.drew V → Hid (Below w2.heap.size w2 V)) := hide (fun V hV => hide ((Below.refl _ w2).drew.trans hV))
  have HT3 : Hid (∀ V : World, Below w.heap.size w V → Calls Try.prog 50 #[.slice a' n' c'] V fun e w' => ∃ v, e = .returned v ∧ w'.ownsRow V.heap.size 5 1 v n' (bv (p.keys.getD m [])) ∧ Below V.heap.size V w') := hide (fun V hV => cloneF_any a' n' c' _ V (HBK.out.below hV) (by omega))
  have HT4 : Hid (∀ V : World, Below w2.heap.size w2 V → V.heap[w.heap.size + 1]? = some (.cells pg0c 25 (0, 0)) ∧ V.heap[w.heap.size + 1 + 1]? = some (.cells pg0c 25 (0, 0))) := hide (fun V hV => by
    have h1 := HW2.out
    have e1 := HQ2.out.block _ (heap_ltN HY.out)
    have e2 := HQ2.out.block _ (heap_ltN HZ.out)
    exact ⟨((hV.block _ (by omega)).trans e1).trans HY.out, ((hV.block _ (by omega)).trans e2).trans HZ.out⟩)
  have hmI : (m : Int) < (kn : Int) := by omega
  have hm0 : (0 : Int) ≤ (m : Int) := by omega
  clear hK hB z1 hV0
  go_wp2_with fail
  refine wp_region_held_drew (S := fun V : World => V.cell? ⟨w.heap.size, 0, none⟩ = some (.bool true) ∧ V.cell? ⟨w.heap.size, 1, none⟩ = some (.slice (some ⟨b1, o1, none⟩) kn kc) ∧ V.cell? ⟨w.heap.size, 2, none⟩ = some (.slice va vn vc) ∧ V.cell? ⟨w.heap.size, 3, none⟩ = some (.slice ia inn ic) ∧ V.cell? ⟨b1, o1 + m, none⟩ = some (.slice a' n' c')) (by kernel_rfl) ?hSq (fun hHeld => ?_)
  case hSq => exact HS.out _ (Below.refl _ _).drew
  refine hTake (i := 0) (v := ?v0q) (some 30) rfl rfl (by kernel_rfl) (by kernel_rfl) (by kernel_rfl) (fun _ _ _ h => h) (by rfl) (by assumption) ?hy0q ?hn0q
  case hy0q => (intro w hSw; (try dsimp only at hSw); skip; go_simp; try with_reducible rfl)
  try simp only [Act.put, List.setIfInBounds_toArray, List.set_cons_zero, List.set_cons_succ]
  refine hTake (i := 1) (v := ?v1q) (some 31) rfl rfl (by kernel_rfl) (by kernel_rfl) (by kernel_rfl) (fun _ _ _ h => h) (by rfl) (by assumption) ?hy1q ?hn1q
  case hy1q => (intro w hSw; (try dsimp only at hSw); skip; go_simp; try with_reducible rfl)
  try simp only [Act.put, List.setIfInBounds_toArray, List.set_cons_zero, List.set_cons_succ]
  refine hTake (i := 3) (v := ?v3q) (some 33) rfl rfl (by kernel_rfl) (by kernel_rfl) (by kernel_rfl) (fun _ _ _ h => h) (by rfl) (by assumption) ?hy3q ?hn3q
  case hy3q => (intro w hSw; (try dsimp only at hSw); skip; go_simp; try with_reducible rfl)
  try simp only [Act.put, List.setIfInBounds_toArray, List.set_cons_zero, List.set_cons_succ]
  refine hTake (i := 4) (v := ?v4q) (some 34) rfl rfl (by kernel_rfl) (by kernel_rfl) (by kernel_rfl) (fun _ _ _ h => h) (by rfl) (by assumption) ?hy4q ?hn4q
  case hy4q => (intro w hSw; (try dsimp only at hSw); skip; go_simp; try with_reducible rfl)
  try simp only [Act.put, List.setIfInBounds_toArray, List.set_cons_zero, List.set_cons_succ]
  refine hTake (i := 5) (v := ?v5q) (some 35) rfl rfl (by kernel_rfl) (by kernel_rfl) (by kernel_rfl) (fun _ _ _ h => h) (by rfl) (by assumption) ?hy5q ?hn5q
  case hy5q => (intro w hSw; (try dsimp only at hSw); skip; go_simp; try with_reducible rfl)
  try simp only [Act.put, List.setIfInBounds_toArray, List.set_cons_zero, List.set_cons_succ]
  refine hTake (i := 6) (v := ?v6q) (some 36) rfl rfl (by kernel_rfl) (by kernel_rfl) (by kernel_rfl) (fun _ _ _ h => h) (by rfl) (by assumption) ?hy6q ?hn6q
  case hy6q => (intro w hSw; (try dsimp only at hSw); skip; go_simp; try with_reducible rfl)
  try simp only [Act.put, List.setIfInBounds_toArray, List.set_cons_zero, List.set_cons_succ]
  refine hTake (i := 7) (v := ?v7q) (some 37) rfl rfl (by kernel_rfl) (by kernel_rfl) (by kernel_rfl) (fun _ _ _ h => h) (by rfl) (by assumption) ?hy7q ?hn7q
  case hy7q => (intro w hSw; (try dsimp only at hSw); skip; go_simp; try with_reducible rfl)
  try simp only [Act.put, List.setIfInBounds_toArray, List.set_cons_zero, List.set_cons_succ]
  refine hTake (i := 9) (v := ?v9q) (some 39) rfl rfl (by kernel_rfl) (by kernel_rfl) (by kernel_rfl) (fun _ _ _ h => h) (by rfl) (by assumption) ?hy9q ?hn9q
  case hy9q => (intro w hSw; (try dsimp only at hSw); skip; go_simp; try with_reducible rfl)
  try simp only [Act.put, List.setIfInBounds_toArray, List.set_cons_zero, List.set_cons_succ]
  refine hTake (i := 10) (v := ?v10q) (some 40) rfl rfl (by kernel_rfl) (by kernel_rfl) (by kernel_rfl) (fun _ _ _ h => h) (by rfl) (by assumption) ?hy10q ?hn10q
  case hy10q => (intro w hSw; (try dsimp only at hSw); skip; go_simp; try with_reducible rfl)
  try simp only [Act.put, List.setIfInBounds_toArray, List.set_cons_zero, List.set_cons_succ]
  refine hTake (i := 11) (v := ?v11q) (some 41) rfl rfl (by kernel_rfl) (by kernel_rfl) (by kernel_rfl) (fun _ _ _ h => h) (by rfl) (by assumption) ?hy11q ?hn11q
  case hy11q => (intro w hSw; (try dsimp only at hSw); skip; go_simp; try with_reducible rfl)
  try simp only [Act.put, List.setIfInBounds_toArray, List.set_cons_zero, List.set_cons_succ]
  refine hTake (i := 12) (v := ?v12q) (some 42) rfl rfl (by kernel_rfl) (by kernel_rfl) (by kernel_rfl) (fun _ _ _ h => h) (by rfl) (by assumption) ?hy12q ?hn12q
  case hy12q => (intro w hSw; (try dsimp only at hSw); skip; go_simp; try with_reducible rfl)
  try simp only [Act.put, List.setIfInBounds_toArray, List.set_cons_zero, List.set_cons_succ]
  refine hTake (i := 13) (v := ?v13q) (some 43) rfl rfl (by kernel_rfl) (by kernel_rfl) (by kernel_rfl) (fun _ _ _ h => h) (by rfl) (by assumption) ?hy13q ?hn13q
  case hy13q => (intro w hSw; (try dsimp only at hSw); skip; go_simp; try with_reducible rfl)
  try simp only [Act.put, List.setIfInBounds_toArray, List.set_cons_zero, List.set_cons_succ]
  refine hOne (i := 2) rfl (by kernel_rfl) (fun K hK => ?_)
  go_simp
  refine HT1.out.mono ?_
  rintro e w3 ⟨⟨ka1, kn1, kc1, va1, vn1, vc1, ia1, in1, ic1⟩, rfl, hn1, hb3⟩
  have HQ3 := HT2.out w3 hb3
  have HN1 := hide hn1
  clear hn1 hb3
  refine hK.out _ _ (HS.out _ (HT.out _ HQ3.out).2) (fun hHeld => ?_)
  clear hK K
  try simp only [Act.put, List.setIfInBounds_toArray, List.set_cons_zero, List.set_cons_succ]
  refine hOne (i := 8) rfl (by kernel_rfl) (fun K hK => ?_)
  go_simp
  refine (HT3.out _ (HT.out _ HQ3.out).1).mono ?_
  rintro e w4 ⟨vv, rfl, hr4, hb4⟩
  have HQ4 : Hid (Below w2.heap.size w2 w4) := hide (HQ3.out.trans (hb4.mono HQ3.out.size))
  have HR4 := hide hr4
  have HG4 := hide hb4
  clear hr4 hb4
  refine hK.out _ _ (HS.out _ (HT.out _ HQ4.out).2) (fun hHeld => ?_)
  clear hK K
  try simp only [Act.put, List.setIfInBounds_toArray, List.set_cons_zero, List.set_cons_succ]
  refine hOne (i := 14) rfl (by kernel_rfl) (fun K hK => ?_)
  go_simp
  refine (HLP.out m kn _ (Nat.le_of_lt hmk) (Nat.le_refl _) (HT.out _ HQ4.out).1).mono ?_
  rintro e w5 ⟨⟨ka2, kn2, kc2, va2, vn2, vc2, ia2, in2, ic2⟩, rfl, hn2, hb5⟩
  have HQ5 : Hid (Below w2.heap.size w2 w5) := hide (HQ4.out.trans (hb5.mono HQ4.out.size))
  have HN2 := hide hn2
  have HG5 := hide hb5
  clear hn2 hb5
  refine hK.out _ _ (HS.out _ (HT.out _ HQ5.out).2) (fun hHeld => ?_)
  clear hK K
  try simp only [Act.put, List.setIfInBounds_toArray, List.set_cons_zero, List.set_cons_succ]
  have HY5 := hide (HT4.out _ HQ5.out).1
  have HZ5 := hide (HT4.out _ HQ5.out).2
  have y0 : w5.cell? ⟨w.heap.size + 1, 0, none⟩ = some (.bool false) := cell_blkN HY5.out rfl
  have y1 : w5.cell? ⟨w.heap.size + 1, 1, none⟩ = some (.slice none 0 0) := cell_blkN HY5.out rfl
  have y2 : w5.cell? ⟨w.heap.size + 1, 2, none⟩ = some (.slice none 0 0) := cell_blkN HY5.out rfl
  have y3 : w5.cell? ⟨w.heap.size + 1, 3, none⟩ = some (.slice none 0 0) := cell_blkN HY5.out rfl
  have yf0 := frzN HY5.out 0
  have yf1 := frzN HY5.out 1
  have yf2 := frzN HY5.out 2
  have yf3 := frzN HY5.out 3
  obtain ⟨w6, hw6⟩ : ∃ w6, w6 = ((((w5.setCell ⟨w.heap.size + 1, 0, none⟩ (.bool true)).setCell ⟨w.heap.size + 1, 1, none⟩ (.slice ka1 kn1 kc1)).setCell ⟨w.heap.size + 1, 2, none⟩ (.slice va1 vn1 vc1)).setCell ⟨w.heap.size + 1, 3, none⟩ (.slice ia1 in1 ic1)) := ⟨_, rfl⟩
  have HW6 := hide hw6
  have HS6 : Hid (Below (w.heap.size + 1) w2 w6) := hide (by rw [hw6]; exact below4 (HT.out _ HQ5.out).2 (Nat.le_refl _) _ _ _ _)
  have HZ6 : Hid (w6.heap[w.heap.size + 1 + 1]? = some (.cells pg0c 25 (0, 0))) := hide (by rw [hw6, out4 (by omega)]; exact HZ5.out)
  refine hOne (i := 15) rfl (by kernel_rfl) (fun K hK => ?_)
  go_simp
  rw [← hw6]
  clear hw6 y0 yf0 y1 yf1 y2 yf2 y3 yf3
  refine hK.out _ _ (HS.out _ HS6.out) (fun hHeld => ?_)
  clear hK K
  try simp only [Act.put, List.setIfInBounds_toArray, List.set_cons_zero, List.set_cons_succ]
  refine hOne (i := 16) rfl (by kernel_rfl) (fun K hK => ?_)
  go_simp
  refine hK.out _ _ (HS.out _ HS6.out) (fun hHeld => ?_)
  clear hK K
  try simp only [Act.put, List.setIfInBounds_toArray, List.set_cons_zero, List.set_cons_succ]
  have z0 : w6.cell? ⟨w.heap.size + 1 + 1, 0, none⟩ = some (.bool false) := cell_blkN HZ6.out rfl
  have z1 : w6.cell? ⟨w.heap.size + 1 + 1, 1, none⟩ = some (.slice none 0 0) := cell_blkN HZ6.out rfl
  have z2 : w6.cell? ⟨w.heap.size + 1 + 1, 2, none⟩ = some (.slice none 0 0) := cell_blkN HZ6.out rfl
  have z3 : w6.cell? ⟨w.heap.size + 1 + 1, 3, none⟩ = some (.slice none 0 0) := cell_blkN HZ6.out rfl
  have zf0 := frzN HZ6.out 0
  have zf1 := frzN HZ6.out 1
  have zf2 := frzN HZ6.out 2
  have zf3 := frzN HZ6.out 3
  obtain ⟨w7, hw7⟩ : ∃ w7, w7 = ((((w6.setCell ⟨w.heap.size + 1 + 1, 0, none⟩ (.bool true)).setCell ⟨w.heap.size + 1 + 1, 1, none⟩ (.slice ka2 kn2 kc2)).setCell ⟨w.heap.size + 1 + 1, 2, none⟩ (.slice va2 vn2 vc2)).setCell ⟨w.heap.size + 1 + 1, 3, none⟩ (.slice ia2 in2 ic2)) := ⟨_, rfl⟩
  have HW7 := hide hw7
  have HS7 : Hid (Below (w.heap.size + 1) w2 w7) := hide (by rw [hw7]; exact below4 HS6.out (Nat.le_succ _) _ _ _ _)
  refine hOne (i := 17) rfl (by kernel_rfl) (fun K hK => ?_)
  go_simp
  rw [← hw7]
  clear hw7 z0 zf0 z1 zf1 z2 zf2 z3 zf3
  refine hK.out _ _ (HS.out _ HS7.out) (fun hHeld => ?_)
  clear hK K
  try simp only [Act.put, List.setIfInBounds_toArray, List.set_cons_zero, List.set_cons_succ]
  refine hOne (i := 18) rfl (by kernel_rfl) (fun K hK => ?_)
  go_simp
  refine hK.out _ _ (HS.out _ HS7.out) (fun hHeld => ?_)
  clear hK K
  try simp only [Act.put, List.setIfInBounds_toArray, List.set_cons_zero, List.set_cons_succ]
  refine wpAnyH_done (by kernel_rfl) ?_ _
  have HNW1 : Hid (NwG w7 (w.heap.size + 2) ⟨ka1, kn1, kc1, va1, vn1, vc1, ia1, in1, ic1⟩ (lpP p 0 m)) := hide (by
    have e := HW2.out
    have h1 := HN1.out.mono (G' := w.heap.size + 2) (by show w.heap.size + 2 ≤ w2.heap.size + 1; omega)
    rw [HW7.out, HW6.out]
    exact (((h1.below HG4.out).below HG5.out).set4 (by omega) _ _ _ _).set4 (by omega) _ _ _ _)
  have HNW2 : Hid (NwG w7 (w.heap.size + 2) ⟨ka2, kn2, kc2, va2, vn2, vc2, ia2, in2, ic2⟩ (lpP p m kn)) := hide (by
    have e := HW2.out
    have e2 := HQ4.out.size
    have h1 := HN2.out.mono (G' := w.heap.size + 2) (by omega)
    rw [HW7.out, HW6.out]
    exact (h1.set4 (by omega) _ _ _ _).set4 (by omega) _ _ _ _)
  obtain ⟨a4, c4, rfl⟩ := own_formN HR4.out
  have HVB : Hid (IsB w7 a4 n' c4 (p.keys.getD m []) ∧ ∀ b off, a4 = some ⟨b, off, none⟩ → w.heap.size + 2 < b ∧ FzB w7 b) := hide (by
    have e := HW2.out
    have e2 := HQ3.out.size
    have hF : ∀ b off, a4 = some ⟨b, off, none⟩ → w.heap.size + 2 < b := fun b off e3 => by
      have := (HR4.out.lt b (by rw [e3]; rfl)).1
      omega
    obtain ⟨a', c', e', hI⟩ := owns_isB HR4.out HBK.out.2.2.2.1
    cases e'
    have hkp : ∀ b off, a4 = some ⟨b, off, none⟩ → w7.heap[b]? = w5.heap[b]? := fun b off e3 => by
      rw [HW7.out, HW6.out]
      have := hF b off e3
      have e6 := out4 (W := set4 w5 (w.heap.size + 1) (.bool true) (.slice ka1 kn1 kc1) (.slice va1 vn1 vc1) (.slice ia1 in1 ic1)) (B := w.heap.size + 1 + 1) (k := b) (by omega) (.bool true) (.slice ka2 kn2 kc2) (.slice va2 vn2 vc2) (.slice ia2 in2 ic2)
      have e7 := out4 (W := w5) (B := w.heap.size + 1) (k := b) (by omega) (.bool true) (.slice ka1 kn1 kc1) (.slice va1 vn1 vc1) (.slice ia1 in1 ic1)
      exact e6.trans e7
    refine ⟨?_, fun b off e3 => ⟨hF b off e3, ?_⟩⟩
    · have h5 := hI.below HG5.out
      exact h5.keptN (by rw [HW7.out, HW6.out]; simp [World.setCell]) hkp
    · have h9 := hkp b off e3
      subst e3
      exact ((own_fzB HR4.out).kept (HG5.out.block b (own_fzB HR4.out).lt)).kept h9)
  have HBF : Hid (Below w.heap.size w w7) := hide (by
    have h1 := (HT.out _ HQ5.out).1
    rw [HW7.out, HW6.out]
    exact below4 (below4 h1 (by omega) _ _ _ _) (by omega) _ _ _ _)
  have HB1 : Hid (w7.heap[w.heap.size + 1]? = some (.cells #[.bool true, .slice ka1 kn1 kc1, .slice va1 vn1 vc1, .slice ia1 in1 ic1] 25 (0, 0))) := hide (by
    have e1 := blk4 HY5.out (.bool true) (.slice ka1 kn1 kc1) (.slice va1 vn1 vc1) (.slice ia1 in1 ic1)
    rw [HW7.out, HW6.out]
    exact (out4 (by omega) _ _ _ _).trans e1)
  have HB2 : Hid (w7.heap[w.heap.size + 1 + 1]? = some (.cells #[.bool true, .slice ka2 kn2 kc2, .slice va2 vn2 vc2, .slice ia2 in2 ic2] 25 (0, 0))) := hide (by
    have e1 := blk4 HZ6.out (.bool true) (.slice ka2 kn2 kc2) (.slice va2 vn2 vc2) (.slice ia2 in2 ic2)
    rw [HW7.out]
    exact e1)
  have HLN : Hid ((p.keys.getD m []).length = n') := hide HBK.out.1
  clear HS HT HT1 HT2 HT3 HT4 HLP HN1 HR4 HG4 HN2 HG5 HS6 HS7 hHeld
  go_wp2
  (try simp only [Exit.inBlock, Exit.then])
  refine bodyPost_ret (resP4 rfl _ _ (w.heap.size + 1) (w.heap.size + 1 + 1) _ _ HB1.out rfl HB2.out rfl rfl rfl) rfl ?_
  obtain ⟨hm, hk⟩ := HKM.out
  refine ⟨k, ⟨ka1, kn1, kc1, va1, vn1, vc1, ia1, in1, ic1⟩, ⟨ka2, kn2, kc2, va2, vn2, vc2, ia2, in2, ic2⟩, a4, c4, ?_, hk, ?_, ?_, ?_, HVB.out.2, HBF.out⟩
  · rw [← hm, HLN.out]
    rfl
  · rw [← hm]; exact HNW1.out
  · rw [← hm]; exact HNW2.out
  · rw [← hm, HLN.out]; exact HVB.out.1
end Go.Proofs.Ytebikoekpbnpbaa
