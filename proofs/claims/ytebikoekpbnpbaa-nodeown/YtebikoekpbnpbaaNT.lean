/- leafText, innerText, textOf -/
import Derived.Test.YtebikoekpbnpbaaNS
namespace Go.Proofs.Ytebikoekpbnpbaa
open Go.RowKit Cod
set_option maxRecDepth 100000
set_option linter.unusedVariables false
set_option linter.unusedSimpArgs false
theorem lit_own (W : World) (base : Nat) (hb : base ≤ W.heap.size) (l : List Nat) (hm : l.length ≤ 4096) : (W.alloc (.cells (bv l).toArray 5)).ownsRow base 5 1 (.slice (some ⟨W.heap.size, 0, none⟩) l.length l.length) l.length (bv l) := by
  have := World.ownsRow_lit (base := base) (e := 5) (size := 1) W (bv l).toArray l.length hb (by unfold maxLen; omega) (by simp [bv_length])
  simpa using this
theorem own_le {w : World} {base base' size n : Nat} {e : TypeId} {v : Value} {xs : List Value} (h : w.ownsRow base e size v n xs) (hb : base' ≤ base) : w.ownsRow base' e size v n xs := by
  obtain ⟨h1, h2⟩ := h
  refine ⟨h1, h2.imp id ?_⟩
  rintro ⟨g, cap, cur, rfl, hr⟩
  exact ⟨g, cap, cur, rfl, Nat.le_trans hb hr.1, hr.2⟩
/-- a text as it is written -/
def tx (b : List Nat) : List Nat := num b.length ++ b
theorem tx_len (b : List Nat) : (tx b).length = bSize b := by simp [tx, bSize, nLen]
def ltx (p : Pg) (i : Nat) : List Nat := (1 :: num p.keys.length) ++ ((List.range i).map (fun j => tx (p.keys.getD j []) ++ tx (p.vals.getD j []))).flatten
def itx (p : Pg) (i : Nat) : List Nat := (2 :: num p.keys.length ++ num (p.kids.getD 0 0).toNat) ++ ((List.range i).map (fun j => tx (p.keys.getD j []) ++ num (p.kids.getD (j + 1) 0).toNat)).flatten
theorem ltx_succ (p : Pg) (i : Nat) : ltx p (i + 1) = (ltx p i ++ tx (p.keys.getD i [])) ++ tx (p.vals.getD i []) := by
  simp [ltx, List.range_succ]
theorem itx_succ (p : Pg) (i : Nat) : itx p (i + 1) = (itx p i ++ tx (p.keys.getD i [])) ++ num (p.kids.getD (i + 1) 0).toNat := by
  simp [itx, List.range_succ]
theorem sumB_le (l : List (List Nat)) (i : Nat) : sumB (l.take i) ≤ sumB l := by
  have h : sumB l = sumB (l.take i) + sumB (l.drop i) := by
    have e : sumB (l.take i ++ l.drop i) = sumB (l.take i) + sumB (l.drop i) := by simp only [sumB, List.map_append, List.sum_append]
    rw [List.take_append_drop] at e
    exact e
  omega
theorem sumK_le (l : List Int) (i : Nat) : sumK (l.take i) ≤ sumK l := by
  have h : sumK l = sumK (l.take i) + sumK (l.drop i) := by
    have e : sumK (l.take i ++ l.drop i) = sumK (l.take i) + sumK (l.drop i) := by simp only [sumK, List.map_append, List.sum_append]
    rw [List.take_append_drop] at e
    exact e
  omega
theorem ltx_len (p : Pg) : ∀ i, i ≤ p.keys.length → i ≤ p.vals.length → (ltx p i).length = 1 + nLen p.keys.length + sumB (p.keys.take i) + sumB (p.vals.take i) := by
  intro i
  induction i with
  | zero => intro _ _; simp [ltx, sumB, nLen]; omega
  | succ i ih =>
    intro h1 h2
    rw [ltx_succ, List.length_append, List.length_append, tx_len, tx_len, ih (by omega) (by omega), sumB_take (i := i) (by omega), sumB_take (i := i) (by omega)]
    omega
theorem itx_len (p : Pg) : ∀ i, i ≤ p.keys.length → i < p.kids.length → (itx p i).length = 1 + nLen p.keys.length + sumB (p.keys.take i) + sumK (p.kids.take (i + 1)) := by
  intro i
  induction i with
  | zero =>
    intro _ h2
    rw [sumK_take (i := 0) h2]
    simp [itx, sumB, sumK, nLen]
    omega
  | succ i ih =>
    intro h1 h2
    rw [itx_succ, List.length_append, List.length_append, tx_len, ih (by omega) (by omega), sumB_take (i := i) (by omega), sumK_take (i := i + 1) (by omega)]
    unfold nLen
    omega
theorem check_size {p : Pg} (h : checkE p = 0) : sizeP p ≤ 4096 := by
  unfold checkE at h
  split at h
  · split at h
    · cases h
    · omega
  · cases h
/-- what a right page is written as -/
def textP (p : Pg) : List Nat := if p.leaf = true then ltx p p.keys.length else itx p p.keys.length
theorem ltx_fits {p : Pg} (h : checkE p = 0) {i : Nat} (h1 : i ≤ p.keys.length) (h2 : i ≤ p.vals.length) : (ltx p i).length + 4 ≤ 4096 := by
  have := check_size h
  have h3 := sumB_le p.keys i
  have h4 := sumB_le p.vals i
  rw [ltx_len p i h1 h2]
  unfold sizeP at this
  omega
theorem itx_fits {p : Pg} (h : checkE p = 0) {i : Nat} (h1 : i ≤ p.keys.length) (h2 : i < p.kids.length) : (itx p i).length + 4 ≤ 4096 := by
  have := check_size h
  have h3 := sumB_le p.keys i
  have h4 := sumK_le p.kids (i + 1)
  rw [itx_len p i h1 h2]
  unfold sizeP at this
  omega
theorem inner_lens {p : Pg} (h : checkE p = 0) (hl : p.leaf = false) : 0 < p.keys.length ∧ p.kids.length = p.keys.length + 1 ∧ p.vals.length = 0 ∧ (∀ b ∈ p.keys, b.length ≤ 256) ∧ ∀ k ∈ p.kids, 1 ≤ k ∧ k < 1024 := by
  rcases check_kind h with h | h
  · simp [leafB, hl] at h
  · simp only [innerB, keysB, shortB, kidsB, Bool.and_eq_true, decide_eq_true_eq, List.all_eq_true] at h
    exact ⟨h.1.1.1.1.2, h.1.1.1.2, h.1.1.2, h.1.2.2, h.2⟩
set_option maxHeartbeats 2000000 in
theorem leafText_any (v : Pv) (p : Pg) (w : World) (h : IsG w v p) (hE : leafE p = 0) (lf : Bool) :
    Calls Try.prog 63 #[.agg (pgc lf v)] w fun e w' => ∃ v', e = .returned v' ∧ w'.ownsRow w.heap.size 5 1 v' (ltx p v.kn).length (bv (ltx p v.kn)) ∧ Below w.heap.size w w' := by
  obtain ⟨hce, hlf⟩ := leafE_0 hE
  have HCE := hide hce
  have HKS := hide (kind_short (check_kind hce))
  have HLL := hide (leaf_lens hE)
  have HKN := hide h.keys.1
  have HVN := hide h.vals.1
  have HVK : Hid (v.vn = v.kn) := hide (by rw [← HKN.out, ← HVN.out]; exact HLL.out)
  have hfew := check_few hce
  have hkn : v.kn ≤ 4096 := by rw [← HKN.out]; exact hfew.1
  have HF : Hid (∀ i, i ≤ v.kn → (ltx p i).length ≤ 4092) := hide (fun i hi => by
    have := ltx_fits hce (i := i) (by rw [HKN.out]; exact hi) (by rw [HVN.out, HVK.out]; exact hi)
    omega)
  have HG := hide h
  have HKC : Hid (v.kn ≤ v.kc ∧ v.kc ≤ 9223372036854775807) := hide ⟨h.keys.2.1, h.keys.2.2.1⟩
  have HVC : Hid (v.vn ≤ v.vc ∧ v.vc ≤ 9223372036854775807) := hide ⟨h.vals.2.1, h.vals.2.2.1⟩
  obtain ⟨V0, hV0⟩ : ∃ V0, V0 = w.alloc (.cells (pgc lf v) 25) := ⟨_, rfl⟩
  have HS0 : Hid (V0.heap.size = w.heap.size + 1) := hide (by rw [hV0]; simp)
  have HB0 : Hid (Below w.heap.size w V0) := hide (by rw [hV0]; exact (Below.refl _ w).alloc (Nat.le_refl _) _)
  have HX : Hid (V0.heap[w.heap.size]? = some (.cells (pgc lf v) 25 (0, 0))) := hide (by rw [hV0, heap_alloc_new])
  obtain ⟨V1, hV1⟩ : ∃ V1, V1 = V0.alloc (.cells #[.int .u8 1] 5) := ⟨_, rfl⟩
  have HQ1 : Hid (Below (w.heap.size + 1) V0 V1) := hide (by rw [hV1]; exact (Below.refl _ V0).alloc (by rw [HS0.out]; exact Nat.le_refl _) _)
  have HO1 : Hid (V1.ownsRow (w.heap.size + 1) 5 1 (.slice (some ⟨w.heap.size + 1, 0, none⟩) 1 1) 1 (bv [1])) := hide (by
    have := lit_own V0 (w.heap.size + 1) (by rw [HS0.out]; exact Nat.le_refl _) [1] (by decide)
    rw [HS0.out] at this
    rw [hV1]
    exact this)
  have HN1 := hide (nNum_any (.slice (some ⟨w.heap.size + 1, 0, none⟩) 1 1) (w.heap.size + 1) 1 v.kn [1] V1 HO1.out (by have := HQ1.out.size; rw [HS0.out] at this; exact this) (by omega) (by omega))
  have HL0 : Hid ([1] ++ num v.kn = ltx p 0 ∧ 1 + nLen v.kn = (ltx p 0).length) := hide (by
    have e : ltx p 0 = [1] ++ num v.kn := by simp [ltx, HKN.out]
    refine ⟨e.symm, ?_⟩
    rw [e]
    simp [nLen]
    omega)
  clear h hfew hce hE hlf
  obtain ⟨ka, kn, kc, va, vn, vc, ia, inn, ic⟩ := v
  try dsimp only at HX HN1 HL0 HG hkn HVK HKN HVN HKC HVC HF
  try dsimp only
  have hkc1 : kn ≤ kc := HKC.out.1
  have hkc2 : kc ≤ 9223372036854775807 := HKC.out.2
  obtain ⟨q0, q1, q2, q3⟩ := BlkG.cells HX.out
  try dsimp only at q0 q1 q2 q3
  have q1' : V1.cell? ⟨w.heap.size, 1, none⟩ = some (.slice ka kn kc) := (World.cell?_of_block (HQ1.out.block _ (by show w.heap.size < _; omega))).trans q1
  try simp only [] at hV0
  go_enter Try.func63, Try.ntmps63
  go_wp2_with fail
  try rw [← hV0]
  try rw [HS0.out]
  try rw [← hV1]
  refine HN1.out.mono ?_
  rintro e w1 ⟨v1, rfl, ho1, hb1⟩
  rw [HL0.out.1, HL0.out.2] at ho1
  have HO := hide ho1
  have HQ : Hid (Below (w.heap.size + 1) V0 w1) := hide (HQ1.out.trans hb1)
  clear ho1 hb1 HN1 q0 q1 q2 q3 q1' hV0 hV1 HQ1 HO1 HL0
  have q1 : w1.cell? ⟨w.heap.size, 1, none⟩ = some (.slice ka kn kc) := cell_blkN ((HQ.out.block _ (by omega)).trans HX.out) rfl
  go_wp2
  go_loopw [3, 14] (fun v3 v14 wr => ∃ k : Nat, k ≤ kn ∧ v14 = .int .i64 (k : Nat) ∧ Hid (wr.ownsRow (w.heap.size + 1) 5 1 v3 (ltx p k).length (bv (ltx p k)) ∧ Below (w.heap.size + 1) V0 wr)) (fun _ v14 _ => kn - (intOf v14).toNat)
  case atStart => exact ⟨0, Nat.zero_le _, rfl, hide ⟨HO.out, HQ.out⟩⟩
  case round =>
    obtain ⟨k, hk, rfl, HI⟩ := hrel
    by_cases hlt : k < kn
    · have HBR : Hid (Below w.heap.size w wr) := hide (HB0.out.trans (HI.out.2.mono (by omega)))
      obtain ⟨b, off, a1, n1, c1, e1, hb, z1, hB⟩ := (HG.out.below HBR.out).keys.2.2.2.2 k hlt
      obtain ⟨b', off', a2, n2, c2, e2, hb', z2, hB2⟩ := (HG.out.below HBR.out).vals.2.2.2.2 k (by show k < vn; rw [HVK.out]; exact hlt)
      try dsimp only at e1 e2
      have HN := hide (show n1 ≤ 1024 from by rw [← hB.1]; exact HKS.out.1 _ (getD_mem (by rw [HKN.out]; exact hlt)))
      have HLK : Hid ((p.keys.getD k []).length ≤ 1024) := hide (by rw [hB.1]; exact HN.out)
      have HN2 := hide (show n2 ≤ 1024 from by rw [← hB2.1]; exact HKS.out.2.1 _ (getD_mem (by rw [HVN.out, HVK.out]; exact hlt)))
      obtain ⟨o, hb0, z0⟩ : ∃ o, b < V0.heap.size ∧ o = b := ⟨_, by
        obtain ⟨b3, off3, _, _, _, e3, hb3, _, _⟩ := HG.out.keys.2.2.2.2 k hlt
        try dsimp only at e3
        rw [e1] at e3
        cases e3
        exact Nat.lt_of_lt_of_le hb3 HB0.out.size, rfl⟩
      clear z0 o
      have hbw' : b' < w.heap.size := by
        obtain ⟨b3, off3, _, _, _, e3, hb3, _, _⟩ := HG.out.vals.2.2.2.2 k (by show k < vn; rw [HVK.out]; exact hlt)
        try dsimp only at e3
        rw [e2] at e3
        cases e3
        exact hb3
      have HKT := hide (nText_any u3 (w.heap.size + 1) (ltx p k).length (ltx p k) a1 n1 c1 _ wr.drew (own_below HI.out.1 (Below.refl _ _).drew) (by have := HI.out.2.size; rw [HS0.out] at this; exact this) (by have := HF.out k hk; omega) (hB.below (Below.refl _ _).drew) HN.out)
      have HV2 : Hid (∀ W : World, Below w.heap.size w W → IsB W a2 n2 c2 (p.vals.getD k [])) := hide (fun W hW => by
        obtain ⟨b3, off3, a3, n3, c3, e3, hb3, z3, hB3⟩ := HG.out.vals.2.2.2.2 k (by show k < vn; rw [HVK.out]; exact hlt)
        try dsimp only at e3
        rw [e2] at e3
        cases e3
        have := (World.cell?_of_block (HBR.out.block _ hb3)).trans z3
        rw [z2] at this
        cases this
        exact hB3.below hW)
      have HZ2 : Hid (∀ W : World, Below (w.heap.size + 1) V0 W → W.cell? ⟨w.heap.size, 2, none⟩ = some (.slice (some ⟨b', off', none⟩) vn vc) ∧ W.cell? ⟨b', off' + k, none⟩ = some (.slice a2 n2 c2)) := hide (fun W hW => by
        refine ⟨?_, ?_⟩
        · have h9 : W.cell? ⟨w.heap.size, 2, none⟩ = some (.slice va vn vc) := cell_blkN ((hW.block _ (by omega)).trans HX.out) rfl
          rw [h9, e2]
        · have e5 : W.heap[b']? = wr.heap[b']? := (hW.block b' (by omega)).trans (HI.out.2.block b' (by omega)).symm
          exact (World.cell?_of_block e5).trans z2)
      have hw1 : IntKind.i64.wrap ((k : Int) + 1) = (k : Int) + 1 := wrapN (by omega) (by omega)
      have hi4 : (0 : Int) ≤ (k : Int) := by omega
      have hiI : (k : Int) < (kn : Int) := by omega
      have hvc1 : kn ≤ vc := by have := HVC.out.1; rw [HVK.out] at this; exact this
      have hvc2 : vc ≤ 9223372036854775807 := HVC.out.2
      have hiV : (k : Int) < (vn : Int) := by rw [HVK.out]; omega
      have HI2 := hide HI.out
      have HQR : Hid (Below (w.heap.size + 1) V0 wr) := hide HI.out.2
      have HSZ : Hid (w.heap.size + 1 ≤ wr.heap.size) := hide (by have := HI.out.2.size; rw [HS0.out] at this; exact this)
      rw [e1]
      clear hB hB2 z2 HI e2
      go_wp2_with fail
      refine wp_region_held_drew (S := fun W : World => W.cell? ⟨w.heap.size, 2, none⟩ = some (.slice (some ⟨b', off', none⟩) vn vc) ∧ W.cell? ⟨b', off' + k, none⟩ = some (.slice a2 n2 c2)) (by kernel_rfl) ?hSq (fun hHeld => ?_)
      case hSq => exact HZ2.out _ HQR.out.drew
      refine hTake (i := 0) (v := ?v0q) (some 19) rfl rfl (by kernel_rfl) (by kernel_rfl) (by kernel_rfl) (fun _ _ _ h => h) (by rfl) (by assumption) ?hy0q ?hn0q
      case hy0q => (intro w hSw; (try dsimp only at hSw); skip; go_simp; try with_reducible rfl)
      try simp only [Act.put, List.setIfInBounds_toArray, List.set_cons_zero, List.set_cons_succ]
      refine hTake (i := 1) (v := ?v1q) (some 20) rfl rfl (by kernel_rfl) (by kernel_rfl) (by kernel_rfl) (fun _ _ _ h => h) (by rfl) (by assumption) ?hy1q ?hn1q
      case hy1q => (intro w hSw; (try dsimp only at hSw); skip; go_simp; try with_reducible rfl)
      try simp only [Act.put, List.setIfInBounds_toArray, List.set_cons_zero, List.set_cons_succ]
      refine hTake (i := 3) (v := ?v3q) (some 22) rfl rfl (by kernel_rfl) (by kernel_rfl) (by kernel_rfl) (fun _ _ _ h => h) (by rfl) (by assumption) ?hy3q ?hn3q
      case hy3q => (intro w hSw; (try dsimp only at hSw); skip; go_simp; try with_reducible rfl)
      try simp only [Act.put, List.setIfInBounds_toArray, List.set_cons_zero, List.set_cons_succ]
      refine hTake (i := 4) (v := ?v4q) (some 23) rfl rfl (by kernel_rfl) (by kernel_rfl) (by kernel_rfl) (fun _ _ _ h => h) (by rfl) (by assumption) ?hy4q ?hn4q
      case hy4q => (intro w hSw; (try dsimp only at hSw); skip; go_simp; try with_reducible rfl)
      try simp only [Act.put, List.setIfInBounds_toArray, List.set_cons_zero, List.set_cons_succ]
      refine hTake (i := 5) (v := ?v5q) (some 24) rfl rfl (by kernel_rfl) (by kernel_rfl) (by kernel_rfl) (fun _ _ _ h => h) (by rfl) (by assumption) ?hy5q ?hn5q
      case hy5q => (intro w hSw; (try dsimp only at hSw); skip; go_simp; try with_reducible rfl)
      try simp only [Act.put, List.setIfInBounds_toArray, List.set_cons_zero, List.set_cons_succ]
      refine hTake (i := 6) (v := ?v6q) (some 25) rfl rfl (by kernel_rfl) (by kernel_rfl) (by kernel_rfl) (fun _ _ _ h => h) (by rfl) (by assumption) ?hy6q ?hn6q
      case hy6q => (intro w hSw; (try dsimp only at hSw); skip; go_simp; try with_reducible rfl)
      try simp only [Act.put, List.setIfInBounds_toArray, List.set_cons_zero, List.set_cons_succ]
      refine hTake (i := 7) (v := ?v7q) (some 26) rfl rfl (by kernel_rfl) (by kernel_rfl) (by kernel_rfl) (fun _ _ _ h => h) (by rfl) (by assumption) ?hy7q ?hn7q
      case hy7q => (intro w hSw; (try dsimp only at hSw); skip; go_simp; try with_reducible rfl)
      try simp only [Act.put, List.setIfInBounds_toArray, List.set_cons_zero, List.set_cons_succ]
      refine hOne (i := 2) rfl (by kernel_rfl) (fun K hK => ?_)
      go_simp
      refine HKT.out.mono ?_
      rintro e w2 ⟨v2, rfl, hr2, hb2⟩
      have HB2 : Hid (Below (w.heap.size + 1) V0 w2) := hide (HQR.out.drew.trans hb2)
      have HR2 := hide hr2
      clear hr2 hb2
      have HKT2 := hide (nText_any v2 (w.heap.size + 1) _ _ a2 n2 c2 _ w2 HR2.out (by have := HB2.out.size; rw [HS0.out] at this; exact this) (by have h1 := HF.out k hk; have h2 := HLK.out; unfold bSize at *; have h3 := nLen_le (n := (p.keys.getD k []).length) (by omega); omega) (HV2.out w2 (HB0.out.trans (HB2.out.mono (by omega)))) HN2.out)
      refine hK.out _ _ (HZ2.out _ HB2.out) (fun hHeld => ?_)
      clear hK K
      try simp only [Act.put, List.setIfInBounds_toArray, List.set_cons_zero, List.set_cons_succ]
      refine hOne (i := 8) rfl (by kernel_rfl) (fun K hK => ?_)
      go_simp
      refine HKT2.out.mono ?_
      rintro e w3 ⟨v3', rfl, hr3, hb3⟩
      have HB3 : Hid (Below (w.heap.size + 1) V0 w3) := hide (HB2.out.trans hb3)
      have HR3 := hide hr3
      clear hr3 hb3
      refine hK.out _ _ (HZ2.out _ HB3.out) (fun hHeld => ?_)
      clear hK K
      try simp only [Act.put, List.setIfInBounds_toArray, List.set_cons_zero, List.set_cons_succ]
      refine hOne (i := 9) rfl (by kernel_rfl) (fun K hK => ?_)
      go_simp
      refine hK.out _ _ (HZ2.out _ HB3.out) (fun hHeld => ?_)
      clear hK K
      try simp only [Act.put, List.setIfInBounds_toArray, List.set_cons_zero, List.set_cons_succ]
      refine wpAnyH_done (by kernel_rfl) ?_ _
      have HNX : Hid (w3.ownsRow (w.heap.size + 1) 5 1 v3' (ltx p (k + 1)).length (bv (ltx p (k + 1))) ∧ Below (w.heap.size + 1) V0 w3) := hide (by
        rw [ltx_succ, List.length_append, List.length_append, tx_len, tx_len]
        exact ⟨HR3.out, HB3.out⟩)
      clear HR2 HR3 HB2 HB3 HKT HKT2 HI2 HQR HZ2 HV2 z1 hHeld
      go_wp2
      go_roundw
      case rel => exact ⟨k + 1, by omega, by simp, HNX⟩
      case measure => simp [intOf]; omega
    · obtain rfl : kn = k := by omega
      have hkk : ¬ ((kn : Nat) : Int) < ((kn : Nat) : Int) := by omega
      have HE : Hid (wr.ownsRow w.heap.size 5 1 u3 (ltx p kn).length (bv (ltx p kn)) ∧ Below w.heap.size w wr) := hide ⟨own_le HI.out.1 (by omega), HB0.out.trans (HI.out.2.mono (by omega))⟩
      clear HI
      go_wp2
      go_ret
      exact ⟨_, rfl, HE.out.1, HE.out.2⟩
end Go.Proofs.Ytebikoekpbnpbaa
