/- the document's text -/
import Derived.Test.YtebikoekpbnpbaaDC
import Derived.Test.YtebikoekpbnpbaaNU
namespace Go.Proofs.Ytebikoekpbnpbaa
open Go.RowKit Cod
set_option maxRecDepth 100000
set_option linter.unusedVariables false
set_option linter.unusedSimpArgs false
theorem rText_any (a : Option Addr) (len cap : Nat) (x l : List Nat) (w : World) (h : IsB w a len cap l) (hx : ∀ y ∈ x, y < 256) (hr : len + 10 + x.length ≤ 140737488355328) :
    Calls Try.prog 67 #[.slice a len cap, .string (str x)] w fun e w' => ∃ a' c', e = .returned (.slice a' (len + (tx x).length) c') ∧ IsB w' a' (len + (tx x).length) c' (l ++ tx x) ∧ Below w.heap.size w w' := by
  have hs : (str x).size = x.length := str_size x
  refine (refText_any a len cap (str x) l w h (by rw [hs]; exact hr)).mono ?_
  rintro e w' ⟨v, rfl, ho, hb⟩
  rw [hs, bl_str hx] at ho
  have e1 : len + (num x.length).length + x.length = len + (tx x).length := by simp [tx]; omega
  rw [e1, List.append_assoc] at ho
  obtain ⟨a', c', rfl, hI⟩ := owns_isB ho (fun y hy => by
    rcases List.mem_append.1 hy with hy | hy
    · exact h.2.2.2.1 y hy
    · exact tx_lt hx y hy)
  exact ⟨a', c', rfl, hI, hb⟩
theorem rNum_any (a : Option Addr) (len cap n : Nat) (l : List Nat) (w : World) (h : IsB w a len cap l) (hn : n < 18446744073709551616) (hr : len + 10 ≤ 140737488355328) :
    Calls Try.prog 66 #[.slice a len cap, .int .u64 n] w fun e w' => ∃ a' c', e = .returned (.slice a' (len + (num n).length) c') ∧ IsB w' a' (len + (num n).length) c' (l ++ num n) ∧ Below w.heap.size w w' := by
  refine (refNum_any a len cap n l w h hr hn).mono ?_
  rintro e w' ⟨v, rfl, ho, hb⟩
  obtain ⟨a', c', rfl, hI⟩ := owns_isB ho (fun y hy => by
    rcases List.mem_append.1 hy with hy | hy
    · exact h.2.2.2.1 y hy
    · exact num_lt _ y hy)
  exact ⟨a', c', rfl, hI, hb⟩
theorem leaf_long {p : Pg} (h : leafB p = true) (hc : p.keys.length ≤ 2000000 ∧ p.vals.length ≤ 2000000 ∧ p.kids.length ≤ 2000000) {i : Nat} (hi : i ≤ p.keys.length) : (ltx p i).length ≤ 9000000000 := by
  have h1 := sizeP_le (.inl h) hc
  have h2 := (leaf_eq h).2
  rw [ltx_len p i hi (by omega)]
  have h3 := sumB_le p.keys i
  have h4 := sumB_le p.vals i
  unfold sizeP at h1
  omega
set_option maxHeartbeats 4000000 in
theorem rtext_leaf (v : Pv) (p : Pg) (w : World) (h : IsG w v p) (hc : FewP v) (hl : leafB p = true) :
    Calls Try.prog 36 #[.agg (pgc true v)] w fun e w' => ∃ a c, e = .returned (.slice a (ltx p p.keys.length).length c) ∧ IsB w' a (ltx p p.keys.length).length c (ltx p p.keys.length) ∧ Below w.heap.size w w' := by
  obtain ⟨V0, hV0⟩ : ∃ V0, V0 = w.alloc (.cells (pgc true v) 25) := ⟨_, rfl⟩
  have HB0 : Hid (Below w.heap.size w V0) := hide (by rw [hV0]; exact (Below.refl _ w).alloc (Nat.le_refl _) _)
  have HS0 : Hid (V0.heap.size = w.heap.size + 1) := hide (by rw [hV0]; simp)
  have HX0 : Hid (BlkG V0 w.heap.size true v) := hide (by show V0.heap[w.heap.size]? = _; rw [hV0, heap_alloc_new])
  obtain ⟨V1, hV1⟩ : ∃ V1, V1 = V0.alloc (.cells #[.int .u8 1] 5) := ⟨_, rfl⟩
  have HB01 : Hid (Below V0.heap.size V0 V1) := hide (by rw [hV1]; exact (Below.refl _ _).alloc (Nat.le_refl _) _)
  have HB1 : Hid (Below w.heap.size w V1) := hide (HB0.out.trans (HB01.out.mono HB0.out.size))
  have HX1 : Hid (BlkG V1 w.heap.size true v) := hide ((HB01.out.block _ (heap_ltN HX0.out)).trans HX0.out)
  have HLI : Hid (IsB V1 (some ⟨w.heap.size + 1, 0, none⟩) 1 1 [1]) := hide (by
    refine lit_isB (x := 1) (f := (0, 0)) ?_ (by decide)
    rw [hV1, ← HS0.out]
    exact heap_alloc_new _ _)
  have HN1 := hide (rNum_any (some ⟨w.heap.size + 1, 0, none⟩) 1 1 v.kn [1] V1 HLI.out (by have := hc.1; omega) (by omega))
  have HG := hide h
  have HKN : Hid (p.keys.length = v.kn ∧ p.vals.length = v.vn ∧ p.kids.length = v.inn) := hide ⟨h.keys.1, h.vals.1, h.kids.1⟩
  have hkn := hc.1
  have hwu : IntKind.u64.wrap (v.kn : Int) = (v.kn : Int) := by rw [IntKind.wrap_u64]; omega
  have HKC : Hid (v.kn ≤ v.kc ∧ v.kc ≤ 9223372036854775807) := hide ⟨h.keys.2.1, h.keys.2.2.1⟩
  have HVK : Hid (v.vn = v.kn) := hide (by rw [← HKN.out.1, ← HKN.out.2.1]; exact (leaf_eq hl).2)
  have HF : Hid (∀ i, i ≤ v.kn → (ltx p i).length ≤ 9000000000) := hide (fun i hi => leaf_long hl (by rw [HKN.out.1, HKN.out.2.1, HKN.out.2.2]; exact hc) (by rw [HKN.out.1]; exact hi))
  have HKS := hide (leaf_short hl)
  have HL0 : Hid ([1] ++ num v.kn = ltx p 0 ∧ 1 + (num v.kn).length = (ltx p 0).length) := hide (by
    have e : ltx p 0 = [1] ++ num v.kn := by simp [ltx, HKN.out.1]
    refine ⟨e.symm, ?_⟩
    rw [e]
    simp
    omega)
  have HE : Hid (p.keys.length = v.kn) := hide HKN.out.1
  rw [HE.out]
  clear h hc hl
  obtain ⟨ka, kn, kc, va, vn, vc, ia, inn, ic⟩ := v
  try dsimp only at HX0 HX1 HN1 HL0 HG HKN HVK HF HKC hkn hwu HE hV0
  try dsimp only
  obtain ⟨q0, q1, q2, q3⟩ := BlkG.cells HX0.out
  try dsimp only at q0 q1 q2 q3
  go_enter Try.func36, Try.ntmps36
  go_wp2_with fail
  try rw [← hV0]
  try rw [HS0.out]
  try rw [← hV1]
  refine HN1.out.mono ?_
  rintro e w1 ⟨a1, c1, rfl, hI1, hb1⟩
  rw [HL0.out.1, HL0.out.2] at hI1
  rw [HL0.out.2]
  have HI1 : Hid (IsB w1 a1 (ltx p 0).length c1 (ltx p 0) ∧ Below w.heap.size w w1 ∧ BlkG w1 w.heap.size true ⟨ka, kn, kc, va, vn, vc, ia, inn, ic⟩) := hide ⟨hI1, HB1.out.trans (hb1.mono HB1.out.size), (hb1.block _ (heap_ltN HX1.out)).trans HX1.out⟩
  clear hI1 hb1 HN1 HL0 HX0 HX1 HB0 HB1 HB01 HLI hV0 hV1 q0 q1 q2 q3 hwu HS0
  have q1 : w1.cell? ⟨w.heap.size, 1, none⟩ = some (.slice ka kn kc) := (BlkG.cells HI1.out.2.2).2.1
  go_wp2_with fail
  clear q1
  go_loopw [3, 20] (fun o i W => ∃ (k : Nat) (a : Option Addr) (c : Nat), k ≤ kn ∧ i = .int .i64 (k : Nat) ∧ o = .slice a (ltx p k).length c ∧ Hid (IsB W a (ltx p k).length c (ltx p k) ∧ Below w.heap.size w W ∧ BlkG W w.heap.size true ⟨ka, kn, kc, va, vn, vc, ia, inn, ic⟩)) (fun _ i _ => kn - (intOf i).toNat)
  case atStart => exact ⟨0, a1, c1, Nat.zero_le _, rfl, rfl, HI1⟩
  case round =>
    obtain ⟨k, a, c, hk, rfl, rfl, HI⟩ := hrel
    by_cases hlt : k < kn
    · have hkI : (k : Int) < (kn : Int) := by omega
      have hk0 : (0 : Int) ≤ (k : Int) := by omega
      have hkV : (k : Int) < (vn : Int) := by have := HVK.out; omega
      have hwk : IntKind.i64.wrap ((k : Int) + 1) = (k : Int) + 1 := wrapN (by omega) (by omega)
      obtain ⟨b2, o2, a2, n2, c2, rfl, hb2, z2, hB2⟩ := (HG.out.below HI.out.2.1).keys.2.2.2.2 k hlt
      obtain ⟨b3, o3, a3, n3, c3, rfl, hb3, z3, hB3⟩ := (HG.out.below HI.out.2.1).vals.2.2.2.2 k (by rw [HVK.out]; exact hlt)
      have HLE : Hid ((p.keys.getD k []).length ≤ 1024 ∧ (p.vals.getD k []).length ≤ 1024) := hide ⟨HKS.out.1 _ (getD_mem (by rw [HE.out]; exact hlt)), HKS.out.2.1 _ (getD_mem (by rw [HKN.out.2.1, HVK.out]; exact hlt))⟩
      have HSC : Hid (ltx p (k + 1) = (ltx p k ++ tx (p.keys.getD k [])) ++ tx (p.vals.getD k [])) := hide (ltx_succ p k)
      have HFK := hide (HF.out k hk)
      obtain ⟨x2, hx2⟩ : ∃ x, x = p.keys.getD k [] := ⟨_, rfl⟩
      obtain ⟨x3, hx3⟩ : ∃ x, x = p.vals.getD k [] := ⟨_, rfl⟩
      rw [← hx2] at hB2 HLE HSC
      rw [← hx3] at hB3 HLE HSC
      clear hx2 hx3
      obtain ⟨lk, hlk⟩ : ∃ l, l = ltx p k := ⟨_, rfl⟩
      rw [← hlk] at HI HSC HFK ⊢
      have HLK := hide hlk
      clear hlk
      have HSF : Hid (∀ W : World, Below wr.heap.size wr W → (convert 26 9 (.slice a2 n2 c2)).run Try.prog W = .ok (.string (str x2)) W ∧ (convert 26 9 (.slice a3 n3 c3)).run Try.prog W = .ok (.string (str x3)) W ∧ W.cell? ⟨w.heap.size, 2, none⟩ = some (.slice (some ⟨b3, o3, none⟩) vn vc) ∧ W.cell? ⟨b3, o3 + k, none⟩ = some (.slice a3 n3 c3)) := hide (fun W hW => ⟨conv_str (hB2.below hW), conv_str (hB3.below hW), (BlkG.cells ((hW.block _ (heap_ltN HI.out.2.2)).trans HI.out.2.2)).2.2.1, (World.cell?_of_block (hW.block _ hb3)).trans z3⟩)
      have HT1 : Hid (∀ W : World, Below wr.heap.size wr W → Calls Try.prog 67 #[.slice a lk.length c, .string (str x2)] W fun e w' => ∃ a' c', e = .returned (.slice a' (lk.length + (tx x2).length) c') ∧ IsB w' a' (lk.length + (tx x2).length) c' (lk ++ tx x2) ∧ Below W.heap.size W w') := hide (fun W hW => rText_any a lk.length c x2 lk W (HI.out.1.below hW) hB2.2.2.2.1 (by have := HFK.out; have := HLE.out; omega))
      have HX3 : Hid (∀ y ∈ x3, y < 256) := hide hB3.2.2.2.1
      have HTL : Hid ((tx x2).length ≤ 2000) := hide (by rw [tx_len]; unfold bSize; have := nLen_le (n := x2.length) (by have := HLE.out; omega); have := HLE.out; omega)
      clear hB2 hB3 z3
      go_wp2_with fail
      refine wp_region_held_drew (S := fun W : World => Below wr.heap.size wr W) (by kernel_rfl) ?hStl (fun hHeld => ?_)
      case hStl => exact (Below.refl _ _).drew
      refine hTake (i := 0) (v := ?v0tl) (some 25) rfl rfl (by kernel_rfl) (by kernel_rfl) (by kernel_rfl) (fun _ _ _ h => h) (by rfl) (by assumption) ?hy0tl ?hn0tl
      case hy0tl => (intro w hSw; (try dsimp only at hSw); have hfs := HSF.out _ hSw; obtain ⟨g1, g2, g3, g4⟩ := hfs; go_simp; try with_reducible rfl)
      try simp only [Act.put, List.setIfInBounds_toArray, List.set_cons_zero, List.set_cons_succ]
      refine hTake (i := 1) (v := ?v1tl) (some 26) rfl rfl (by kernel_rfl) (by kernel_rfl) (by kernel_rfl) (fun _ _ _ h => h) (by rfl) (by assumption) ?hy1tl ?hn1tl
      case hy1tl => (intro w hSw; (try dsimp only at hSw); have hfs := HSF.out _ hSw; obtain ⟨g1, g2, g3, g4⟩ := hfs; go_simp; try with_reducible rfl)
      try simp only [Act.put, List.setIfInBounds_toArray, List.set_cons_zero, List.set_cons_succ]
      refine hTake (i := 2) (v := ?v2tl) (some 27) rfl rfl (by kernel_rfl) (by kernel_rfl) (by kernel_rfl) (fun _ _ _ h => h) (by rfl) (by assumption) ?hy2tl ?hn2tl
      case hy2tl => (intro w hSw; (try dsimp only at hSw); have hfs := HSF.out _ hSw; obtain ⟨g1, g2, g3, g4⟩ := hfs; go_simp; try with_reducible rfl)
      try simp only [Act.put, List.setIfInBounds_toArray, List.set_cons_zero, List.set_cons_succ]
      refine hTake (i := 4) (v := ?v4tl) (some 29) rfl rfl (by kernel_rfl) (by kernel_rfl) (by kernel_rfl) (fun _ _ _ h => h) (by rfl) (by assumption) ?hy4tl ?hn4tl
      case hy4tl => (intro w hSw; (try dsimp only at hSw); have hfs := HSF.out _ hSw; obtain ⟨g1, g2, g3, g4⟩ := hfs; go_simp; try with_reducible rfl)
      try simp only [Act.put, List.setIfInBounds_toArray, List.set_cons_zero, List.set_cons_succ]
      refine hTake (i := 5) (v := ?v5tl) (some 30) rfl rfl (by kernel_rfl) (by kernel_rfl) (by kernel_rfl) (fun _ _ _ h => h) (by rfl) (by assumption) ?hy5tl ?hn5tl
      case hy5tl => (intro w hSw; (try dsimp only at hSw); have hfs := HSF.out _ hSw; obtain ⟨g1, g2, g3, g4⟩ := hfs; go_simp; try with_reducible rfl)
      try simp only [Act.put, List.setIfInBounds_toArray, List.set_cons_zero, List.set_cons_succ]
      refine hTake (i := 6) (v := ?v6tl) (some 31) rfl rfl (by kernel_rfl) (by kernel_rfl) (by kernel_rfl) (fun _ _ _ h => h) (by rfl) (by assumption) ?hy6tl ?hn6tl
      case hy6tl => (intro w hSw; (try dsimp only at hSw); have hfs := HSF.out _ hSw; obtain ⟨g1, g2, g3, g4⟩ := hfs; go_simp; try with_reducible rfl)
      try simp only [Act.put, List.setIfInBounds_toArray, List.set_cons_zero, List.set_cons_succ]
      refine hTake (i := 7) (v := ?v7tl) (some 32) rfl rfl (by kernel_rfl) (by kernel_rfl) (by kernel_rfl) (fun _ _ _ h => h) (by rfl) (by assumption) ?hy7tl ?hn7tl
      case hy7tl => (intro w hSw; (try dsimp only at hSw); have hfs := HSF.out _ hSw; obtain ⟨g1, g2, g3, g4⟩ := hfs; go_simp; try with_reducible rfl)
      try simp only [Act.put, List.setIfInBounds_toArray, List.set_cons_zero, List.set_cons_succ]
      refine hTake (i := 8) (v := ?v8tl) (some 33) rfl rfl (by kernel_rfl) (by kernel_rfl) (by kernel_rfl) (fun _ _ _ h => h) (by rfl) (by assumption) ?hy8tl ?hn8tl
      case hy8tl => (intro w hSw; (try dsimp only at hSw); have hfs := HSF.out _ hSw; obtain ⟨g1, g2, g3, g4⟩ := hfs; go_simp; try with_reducible rfl)
      try simp only [Act.put, List.setIfInBounds_toArray, List.set_cons_zero, List.set_cons_succ]
      refine hTake (i := 9) (v := ?v9tl) (some 34) rfl rfl (by kernel_rfl) (by kernel_rfl) (by kernel_rfl) (fun _ _ _ h => h) (by rfl) (by assumption) ?hy9tl ?hn9tl
      case hy9tl => (intro w hSw; (try dsimp only at hSw); have hfs := HSF.out _ hSw; obtain ⟨g1, g2, g3, g4⟩ := hfs; go_simp; try with_reducible rfl)
      try simp only [Act.put, List.setIfInBounds_toArray, List.set_cons_zero, List.set_cons_succ]
      refine hOne (i := 3) rfl (by kernel_rfl) (fun K hK => ?_)
      go_simp
      refine (HT1.out _ (Below.refl _ _).drew).mono ?_
      rintro e w3 ⟨a4, c4, rfl, hI4, hb3'⟩
      have HI4 := hide hI4
      have HQ3 : Hid (Below wr.heap.size wr w3) := hide ((Below.refl _ wr).drew.trans hb3')
      clear hI4 hb3'
      refine hK.out _ _ (HQ3.out) (fun hHeld => ?_)
      clear hK K
      try simp only [Act.put, List.setIfInBounds_toArray, List.set_cons_zero, List.set_cons_succ]
      refine hOne (i := 10) rfl (by kernel_rfl) (fun K hK => ?_)
      go_simp
      refine (rText_any a4 _ c4 x3 _ w3 HI4.out HX3.out (by have := HFK.out; have := HLE.out; have := HTL.out; omega)).mono ?_
      rintro e w4 ⟨a5, c5, rfl, hI5, hb4'⟩
      have HI5 := hide hI5
      have HQ4 : Hid (Below wr.heap.size wr w4) := hide (HQ3.out.trans (hb4'.mono HQ3.out.size))
      clear hI5 hb4'
      refine hK.out _ _ (HQ4.out) (fun hHeld => ?_)
      clear hK K
      try simp only [Act.put, List.setIfInBounds_toArray, List.set_cons_zero, List.set_cons_succ]
      refine hOne (i := 11) rfl (by kernel_rfl) (fun K hK => ?_)
      go_simp
      refine hK.out _ _ (HQ4.out) (fun hHeld => ?_)
      clear hK K
      try simp only [Act.put, List.setIfInBounds_toArray, List.set_cons_zero, List.set_cons_succ]
      refine wpAnyH_done (by kernel_rfl) ?_ _
      have HNX : Hid (IsB w4 a5 (ltx p (k + 1)).length c5 (ltx p (k + 1)) ∧ lk.length + (tx x2).length + (tx x3).length = (ltx p (k + 1)).length ∧ Below w.heap.size w w4 ∧ BlkG w4 w.heap.size true ⟨some ⟨b2, o2, none⟩, kn, kc, some ⟨b3, o3, none⟩, vn, vc, ia, inn, ic⟩) := hide (by
        have e : (ltx p (k + 1)).length = lk.length + (tx x2).length + (tx x3).length := by rw [HSC.out]; simp only [List.length_append]
        refine ⟨?_, e.symm, HI.out.2.1.trans (HQ4.out.mono HI.out.2.1.size), (HQ4.out.block _ (heap_ltN HI.out.2.2)).trans HI.out.2.2⟩
        rw [e, HSC.out]
        exact HI5.out)
      rw [HNX.out.2.1]
      clear HSF HT1 HI4 HI5 hHeld
      go_wp2
      go_roundw
      case rel => exact ⟨k + 1, a5, c5, by omega, by simp, rfl, hide ⟨HNX.out.1, HNX.out.2.2.1, HNX.out.2.2.2⟩⟩
      case measure => simp [intOf]; omega
    · obtain rfl : kn = k := by omega
      have hkk : ¬ (kn : Int) < (kn : Int) := by omega
      go_wp2
      go_ret
      exact ⟨a, c, rfl, HI.out.1, HI.out.2.1⟩
theorem inner_long {p : Pg} (h : innerB p = true) (hc : p.keys.length ≤ 2000000 ∧ p.vals.length ≤ 2000000 ∧ p.kids.length ≤ 2000000) (hk : p.kids.length = p.keys.length + 1) {i : Nat} (hi : i ≤ p.keys.length) : (itx p i).length ≤ 9000000000 := by
  have h1 := sizeP_le (.inr h) hc
  rw [itx_len p i hi (by omega)]
  have h3 := sumB_le p.keys i
  have h4 := sumK_le p.kids (i + 1)
  unfold sizeP at h1
  omega
theorem innerB_kids {p : Pg} (h : innerB p = true) : 0 < p.keys.length ∧ p.kids.length = p.keys.length + 1 := by
  simp only [innerB, Bool.and_eq_true, decide_eq_true_eq] at h
  exact ⟨h.1.1.1.1.2, h.1.1.1.2⟩
set_option maxHeartbeats 4000000 in
theorem rtext_inner (v : Pv) (p : Pg) (w : World) (h : IsG w v p) (hc : FewP v) (hl : innerB p = true) :
    Calls Try.prog 36 #[.agg (pgc false v)] w fun e w' => ∃ a c, e = .returned (.slice a (itx p p.keys.length).length c) ∧ IsB w' a (itx p p.keys.length).length c (itx p p.keys.length) ∧ Below w.heap.size w w' := by
  obtain ⟨V0, hV0⟩ : ∃ V0, V0 = w.alloc (.cells (pgc false v) 25) := ⟨_, rfl⟩
  have HB0 : Hid (Below w.heap.size w V0) := hide (by rw [hV0]; exact (Below.refl _ w).alloc (Nat.le_refl _) _)
  have HS0 : Hid (V0.heap.size = w.heap.size + 1) := hide (by rw [hV0]; simp)
  have HX0 : Hid (BlkG V0 w.heap.size false v) := hide (by show V0.heap[w.heap.size]? = _; rw [hV0, heap_alloc_new])
  obtain ⟨V1, hV1⟩ : ∃ V1, V1 = V0.alloc (.cells #[.int .u8 2] 5) := ⟨_, rfl⟩
  have HB01 : Hid (Below V0.heap.size V0 V1) := hide (by rw [hV1]; exact (Below.refl _ _).alloc (Nat.le_refl _) _)
  have HB1 : Hid (Below w.heap.size w V1) := hide (HB0.out.trans (HB01.out.mono HB0.out.size))
  have HX1 : Hid (BlkG V1 w.heap.size false v) := hide ((HB01.out.block _ (heap_ltN HX0.out)).trans HX0.out)
  have HLI : Hid (IsB V1 (some ⟨w.heap.size + 1, 0, none⟩) 1 1 [2]) := hide (by
    refine lit_isB (x := 2) (f := (0, 0)) ?_ (by decide)
    rw [hV1, ← HS0.out]
    exact heap_alloc_new _ _)
  have HN1 := hide (rNum_any (some ⟨w.heap.size + 1, 0, none⟩) 1 1 v.kn [2] V1 HLI.out (by have := hc.1; omega) (by omega))
  have HG := hide h
  have HKN : Hid (p.keys.length = v.kn ∧ p.vals.length = v.vn ∧ p.kids.length = v.inn) := hide ⟨h.keys.1, h.vals.1, h.kids.1⟩
  have hkn := hc.1
  have hwu : IntKind.u64.wrap (v.kn : Int) = (v.kn : Int) := by rw [IntKind.wrap_u64]; omega
  have HKC : Hid (v.kn ≤ v.kc ∧ v.kc ≤ 9223372036854775807) := hide ⟨h.keys.2.1, h.keys.2.2.1⟩
  have HVK : Hid (v.inn = v.kn + 1 ∧ 0 < v.kn) := hide (by rw [← HKN.out.1, ← HKN.out.2.2]; exact ⟨(innerB_kids hl).2, (innerB_kids hl).1⟩)
  have HF : Hid (∀ i, i ≤ v.kn → (itx p i).length ≤ 9000000000) := hide (fun i hi => inner_long hl (by rw [HKN.out.1, HKN.out.2.1, HKN.out.2.2]; exact hc) (innerB_kids hl).2 (by rw [HKN.out.1]; exact hi))
  have HKS := hide (inner_short hl)
  obtain ⟨y0, hy0⟩ : ∃ y, y = (p.kids.getD 0 0).toNat := ⟨_, rfl⟩
  have HY0 : Hid ((y0 : Int) = p.kids.getD 0 0 ∧ y0 < 1024) := hide (by have := HKS.out.2.2 _ (getD_memI (show 0 < p.kids.length by rw [HKN.out.2.2]; have := HVK.out; omega)); omega)
  have HL0 : Hid ([2] ++ num v.kn ++ num y0 = itx p 0 ∧ 1 + (num v.kn).length + (num y0).length = (itx p 0).length) := hide (by
    have e : itx p 0 = [2] ++ num v.kn ++ num y0 := by simp [itx, HKN.out.1, hy0]
    refine ⟨e.symm, ?_⟩
    rw [e]
    simp
    omega)
  have HE : Hid (p.keys.length = v.kn) := hide HKN.out.1
  rw [HE.out]
  clear h hc hl hy0
  obtain ⟨ka, kn, kc, va, vn, vc, ia, inn, ic⟩ := v
  try dsimp only at HX0 HX1 HN1 HL0 HG HKN HVK HF HKC hkn hwu HE hV0
  try dsimp only
  have HNL : Hid ((num kn).length ≤ 10) := hide (num_len10 (by omega))
  obtain ⟨q0, q1, q2, q3⟩ := BlkG.cells HX0.out
  try dsimp only at q0 q1 q2 q3
  go_enter Try.func36, Try.ntmps36
  go_wp2_with fail
  try rw [← hV0]
  try rw [HS0.out]
  try rw [← hV1]
  refine HN1.out.mono ?_
  rintro e w1 ⟨a1, c1, rfl, hI1, hb1⟩
  have HI1 : Hid (IsB w1 a1 (1 + (num kn).length) c1 ([2] ++ num kn) ∧ Below w.heap.size w w1 ∧ BlkG w1 w.heap.size false ⟨ka, kn, kc, va, vn, vc, ia, inn, ic⟩) := hide ⟨hI1, HB1.out.trans (hb1.mono HB1.out.size), (hb1.block _ (heap_ltN HX1.out)).trans HX1.out⟩
  clear hI1 hb1 HN1 HX0 HX1 HB0 HB1 HB01 HLI hV0 hV1 q0 q1 q2 q3 hwu HS0
  have hi0 : (0 : Int) < (inn : Int) := by have := HVK.out; omega
  obtain ⟨_, b3, o3, rfl, hb3, z3⟩ := (HG.out.below HI1.out.2.1).kids.2.2.2.2 0 (by show 0 < inn; have := HVK.out; omega)
  rw [Nat.add_zero, ← HY0.out.1] at z3
  have q3 : w1.cell? ⟨w.heap.size, 3, none⟩ = some (.slice (some ⟨b3, o3, none⟩) inn ic) := (BlkG.cells HI1.out.2.2).2.2.2
  have hwy : IntKind.u64.wrap (y0 : Int) = (y0 : Int) := by rw [IntKind.wrap_u64]; have := HY0.out.2; omega
  have HN2 := hide (rNum_any a1 (1 + (num kn).length) c1 y0 _ w1 HI1.out.1 (by have := HY0.out.2; omega) (by have := HNL.out; omega))
  go_wp2_with fail
  refine HN2.out.mono ?_
  rintro e w2 ⟨a2, c2, rfl, hI2, hb2⟩
  rw [HL0.out.1, HL0.out.2] at hI2
  rw [HL0.out.2]
  have HI2 : Hid (IsB w2 a2 (itx p 0).length c2 (itx p 0) ∧ Below w.heap.size w w2 ∧ BlkG w2 w.heap.size false ⟨ka, kn, kc, va, vn, vc, some ⟨b3, o3, none⟩, inn, ic⟩) := hide ⟨hI2, HI1.out.2.1.trans (hb2.mono HI1.out.2.1.size), (hb2.block _ (heap_ltN HI1.out.2.2)).trans HI1.out.2.2⟩
  clear hI2 hb2 HN2 HL0 HI1 z3 q3 hwy hb3
  have q1 : w2.cell? ⟨w.heap.size, 1, none⟩ = some (.slice ka kn kc) := (BlkG.cells HI2.out.2.2).2.1
  go_wp2_with fail
  clear q1
  go_loopw [6, 54] (fun o i W => ∃ (k : Nat) (a : Option Addr) (c : Nat), k ≤ kn ∧ i = .int .i64 (k : Nat) ∧ o = .slice a (itx p k).length c ∧ Hid (IsB W a (itx p k).length c (itx p k) ∧ Below w.heap.size w W ∧ BlkG W w.heap.size false ⟨ka, kn, kc, va, vn, vc, some ⟨b3, o3, none⟩, inn, ic⟩)) (fun _ i _ => kn - (intOf i).toNat)
  case atStart => exact ⟨0, a2, c2, Nat.zero_le _, rfl, rfl, HI2⟩
  case round =>
    obtain ⟨k, a, c, hk, rfl, rfl, HI⟩ := hrel
    by_cases hlt : k < kn
    · have hkI : (k : Int) < (kn : Int) := by omega
      have hk0 : (0 : Int) ≤ (k : Int) := by omega
      have hkV : (k : Int) + 1 < (inn : Int) := by have := HVK.out; omega
      have hkW : (0 : Int) ≤ (k : Int) + 1 := by omega
      have hwk : IntKind.i64.wrap ((k : Int) + 1) = (k : Int) + 1 := wrapN (by omega) (by omega)
      obtain ⟨b2, o2, a2, n2, c2, rfl, hb2, z2, hB2⟩ := (HG.out.below HI.out.2.1).keys.2.2.2.2 k hlt
      obtain ⟨_, b4, o4, e4, hb3, z3⟩ := (HG.out.below HI.out.2.1).kids.2.2.2.2 (k + 1) (by show k + 1 < inn; have := HVK.out; omega)
      cases e4
      obtain ⟨y, hy⟩ : ∃ y, y = (p.kids.getD (k + 1) 0).toNat := ⟨_, rfl⟩
      have HY : Hid ((y : Int) = p.kids.getD (k + 1) 0 ∧ y < 1024) := hide (by have := HKS.out.2.2 _ (getD_memI (show k + 1 < p.kids.length by rw [HKN.out.2.2]; have := HVK.out; omega)); omega)
      rw [← HY.out.1] at z3
      have hwy : IntKind.u64.wrap (y : Int) = (y : Int) := by rw [IntKind.wrap_u64]; have := HY.out.2; omega
      have HLE : Hid ((p.keys.getD k []).length ≤ 1024) := hide (HKS.out.1 _ (getD_mem (by rw [HE.out]; exact hlt)))
      have HSC : Hid (itx p (k + 1) = (itx p k ++ tx (p.keys.getD k [])) ++ num y) := hide (by rw [itx_succ p k, hy])
      have HFK := hide (HF.out k hk)
      obtain ⟨x2, hx2⟩ : ∃ x, x = p.keys.getD k [] := ⟨_, rfl⟩
      rw [← hx2] at hB2 HLE HSC
      clear hx2 hy
      obtain ⟨lk, hlk⟩ : ∃ l, l = itx p k := ⟨_, rfl⟩
      rw [← hlk] at HI HSC HFK ⊢
      have HLK := hide hlk
      clear hlk
      have HSF : Hid (∀ W : World, Below wr.heap.size wr W → (convert 26 9 (.slice a2 n2 c2)).run Try.prog W = .ok (.string (str x2)) W ∧ W.cell? ⟨w.heap.size, 3, none⟩ = some (.slice (some ⟨b3, o3, none⟩) inn ic) ∧ W.cell? ⟨b3, o3 + (k + 1), none⟩ = some (.int .i64 (y : Nat))) := hide (fun W hW => ⟨conv_str (hB2.below hW), (BlkG.cells ((hW.block _ (heap_ltN HI.out.2.2)).trans HI.out.2.2)).2.2.2, (World.cell?_of_block (hW.block _ hb3)).trans z3⟩)
      have HT1 : Hid (∀ W : World, Below wr.heap.size wr W → Calls Try.prog 67 #[.slice a lk.length c, .string (str x2)] W fun e w' => ∃ a' c', e = .returned (.slice a' (lk.length + (tx x2).length) c') ∧ IsB w' a' (lk.length + (tx x2).length) c' (lk ++ tx x2) ∧ Below W.heap.size W w') := hide (fun W hW => rText_any a lk.length c x2 lk W (HI.out.1.below hW) hB2.2.2.2.1 (by have := HFK.out; have := HLE.out; omega))
      have HTL : Hid ((tx x2).length ≤ 2000) := hide (by rw [tx_len]; unfold bSize; have := nLen_le (n := x2.length) (by have := HLE.out; omega); have := HLE.out; omega)
      clear hB2 z3
      go_wp2_with fail
      refine wp_region_held_drew (S := fun W : World => Below wr.heap.size wr W) (by kernel_rfl) ?hSti (fun hHeld => ?_)
      case hSti => exact (Below.refl _ _).drew
      refine hTake (i := 0) (v := ?v0ti) (some 59) rfl rfl (by kernel_rfl) (by kernel_rfl) (by kernel_rfl) (fun _ _ _ h => h) (by rfl) (by assumption) ?hy0ti ?hn0ti
      case hy0ti => (intro w hSw; (try dsimp only at hSw); have hfs := HSF.out _ hSw; obtain ⟨g1, g2, g3⟩ := hfs; go_simp; try with_reducible rfl)
      try simp only [Act.put, List.setIfInBounds_toArray, List.set_cons_zero, List.set_cons_succ]
      refine hTake (i := 1) (v := ?v1ti) (some 60) rfl rfl (by kernel_rfl) (by kernel_rfl) (by kernel_rfl) (fun _ _ _ h => h) (by rfl) (by assumption) ?hy1ti ?hn1ti
      case hy1ti => (intro w hSw; (try dsimp only at hSw); have hfs := HSF.out _ hSw; obtain ⟨g1, g2, g3⟩ := hfs; go_simp; try with_reducible rfl)
      try simp only [Act.put, List.setIfInBounds_toArray, List.set_cons_zero, List.set_cons_succ]
      refine hTake (i := 2) (v := ?v2ti) (some 61) rfl rfl (by kernel_rfl) (by kernel_rfl) (by kernel_rfl) (fun _ _ _ h => h) (by rfl) (by assumption) ?hy2ti ?hn2ti
      case hy2ti => (intro w hSw; (try dsimp only at hSw); have hfs := HSF.out _ hSw; obtain ⟨g1, g2, g3⟩ := hfs; go_simp; try with_reducible rfl)
      try simp only [Act.put, List.setIfInBounds_toArray, List.set_cons_zero, List.set_cons_succ]
      refine hTake (i := 4) (v := ?v4ti) (some 63) rfl rfl (by kernel_rfl) (by kernel_rfl) (by kernel_rfl) (fun _ _ _ h => h) (by rfl) (by assumption) ?hy4ti ?hn4ti
      case hy4ti => (intro w hSw; (try dsimp only at hSw); have hfs := HSF.out _ hSw; obtain ⟨g1, g2, g3⟩ := hfs; go_simp; try with_reducible rfl)
      try simp only [Act.put, List.setIfInBounds_toArray, List.set_cons_zero, List.set_cons_succ]
      refine hTake (i := 5) (v := ?v5ti) (some 64) rfl rfl (by kernel_rfl) (by kernel_rfl) (by kernel_rfl) (fun _ _ _ h => h) (by rfl) (by assumption) ?hy5ti ?hn5ti
      case hy5ti => (intro w hSw; (try dsimp only at hSw); have hfs := HSF.out _ hSw; obtain ⟨g1, g2, g3⟩ := hfs; go_simp; try with_reducible rfl)
      try simp only [Act.put, List.setIfInBounds_toArray, List.set_cons_zero, List.set_cons_succ]
      refine hTake (i := 6) (v := ?v6ti) (some 65) rfl rfl (by kernel_rfl) (by kernel_rfl) (by kernel_rfl) (fun _ _ _ h => h) (by rfl) (by assumption) ?hy6ti ?hn6ti
      case hy6ti => (intro w hSw; (try dsimp only at hSw); have hfs := HSF.out _ hSw; obtain ⟨g1, g2, g3⟩ := hfs; go_simp; try with_reducible rfl)
      try simp only [Act.put, List.setIfInBounds_toArray, List.set_cons_zero, List.set_cons_succ]
      refine hTake (i := 7) (v := ?v7ti) (some 66) rfl rfl (by kernel_rfl) (by kernel_rfl) (by kernel_rfl) (fun _ _ _ h => h) (by rfl) (by assumption) ?hy7ti ?hn7ti
      case hy7ti => (intro w hSw; (try dsimp only at hSw); have hfs := HSF.out _ hSw; obtain ⟨g1, g2, g3⟩ := hfs; go_simp; try with_reducible rfl)
      try simp only [Act.put, List.setIfInBounds_toArray, List.set_cons_zero, List.set_cons_succ]
      refine hTake (i := 8) (v := ?v8ti) (some 67) rfl rfl (by kernel_rfl) (by kernel_rfl) (by kernel_rfl) (fun _ _ _ h => h) (by rfl) (by assumption) ?hy8ti ?hn8ti
      case hy8ti => (intro w hSw; (try dsimp only at hSw); have hfs := HSF.out _ hSw; obtain ⟨g1, g2, g3⟩ := hfs; go_simp; try with_reducible rfl)
      try simp only [Act.put, List.setIfInBounds_toArray, List.set_cons_zero, List.set_cons_succ]
      refine hTake (i := 9) (v := ?v9ti) (some 68) rfl rfl (by kernel_rfl) (by kernel_rfl) (by kernel_rfl) (fun _ _ _ h => h) (by rfl) (by assumption) ?hy9ti ?hn9ti
      case hy9ti => (intro w hSw; (try dsimp only at hSw); have hfs := HSF.out _ hSw; obtain ⟨g1, g2, g3⟩ := hfs; go_simp; try with_reducible rfl)
      try simp only [Act.put, List.setIfInBounds_toArray, List.set_cons_zero, List.set_cons_succ]
      refine hTake (i := 10) (v := ?v10ti) (some 69) rfl rfl (by kernel_rfl) (by kernel_rfl) (by kernel_rfl) (fun _ _ _ h => h) (by rfl) (by assumption) ?hy10ti ?hn10ti
      case hy10ti => (intro w hSw; (try dsimp only at hSw); have hfs := HSF.out _ hSw; obtain ⟨g1, g2, g3⟩ := hfs; go_simp; try with_reducible rfl)
      try simp only [Act.put, List.setIfInBounds_toArray, List.set_cons_zero, List.set_cons_succ]
      refine hOne (i := 3) rfl (by kernel_rfl) (fun K hK => ?_)
      go_simp
      refine (HT1.out _ (Below.refl _ _).drew).mono ?_
      rintro e w3 ⟨a4, c4, rfl, hI4, hb3'⟩
      have HI4 := hide hI4
      have HQ3 : Hid (Below wr.heap.size wr w3) := hide ((Below.refl _ wr).drew.trans hb3')
      clear hI4 hb3'
      refine hK.out _ _ (HQ3.out) (fun hHeld => ?_)
      clear hK K
      try simp only [Act.put, List.setIfInBounds_toArray, List.set_cons_zero, List.set_cons_succ]
      refine hOne (i := 11) rfl (by kernel_rfl) (fun K hK => ?_)
      go_simp
      refine (rNum_any a4 _ c4 y _ w3 HI4.out (by have := HY.out.2; omega) (by have := HFK.out; have := HTL.out; omega)).mono ?_
      rintro e w4 ⟨a5, c5, rfl, hI5, hb4'⟩
      have HI5 := hide hI5
      have HQ4 : Hid (Below wr.heap.size wr w4) := hide (HQ3.out.trans (hb4'.mono HQ3.out.size))
      clear hI5 hb4'
      refine hK.out _ _ (HQ4.out) (fun hHeld => ?_)
      clear hK K
      try simp only [Act.put, List.setIfInBounds_toArray, List.set_cons_zero, List.set_cons_succ]
      refine hOne (i := 12) rfl (by kernel_rfl) (fun K hK => ?_)
      go_simp
      refine hK.out _ _ (HQ4.out) (fun hHeld => ?_)
      clear hK K
      try simp only [Act.put, List.setIfInBounds_toArray, List.set_cons_zero, List.set_cons_succ]
      refine wpAnyH_done (by kernel_rfl) ?_ _
      have HNX : Hid (IsB w4 a5 (itx p (k + 1)).length c5 (itx p (k + 1)) ∧ lk.length + (tx x2).length + (num y).length = (itx p (k + 1)).length ∧ Below w.heap.size w w4 ∧ BlkG w4 w.heap.size false ⟨some ⟨b2, o2, none⟩, kn, kc, va, vn, vc, some ⟨b3, o3, none⟩, inn, ic⟩) := hide (by
        have e : (itx p (k + 1)).length = lk.length + (tx x2).length + (num y).length := by rw [HSC.out]; simp only [List.length_append]
        refine ⟨?_, e.symm, HI.out.2.1.trans (HQ4.out.mono HI.out.2.1.size), (HQ4.out.block _ (heap_ltN HI.out.2.2)).trans HI.out.2.2⟩
        rw [e, HSC.out]
        exact HI5.out)
      rw [HNX.out.2.1]
      clear HSF HT1 HI4 HI5 hHeld
      go_wp2
      go_roundw
      case rel => exact ⟨k + 1, a5, c5, by omega, by simp, rfl, hide ⟨HNX.out.1, HNX.out.2.2.1, HNX.out.2.2.2⟩⟩
      case measure => simp [intOf]; omega
    · obtain rfl : kn = k := by omega
      have hkk : ¬ (kn : Int) < (kn : Int) := by omega
      go_wp2
      go_ret
      exact ⟨a, c, rfl, HI.out.1, HI.out.2.1⟩
end Go.Proofs.Ytebikoekpbnpbaa
