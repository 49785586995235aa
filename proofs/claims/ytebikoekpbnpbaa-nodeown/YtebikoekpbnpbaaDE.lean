/- the document's Size, Check -/
import Derived.Test.YtebikoekpbnpbaaDD
namespace Go.Proofs.Ytebikoekpbnpbaa
open Go.RowKit Cod
set_option maxRecDepth 100000
set_option linter.unusedVariables false
set_option linter.unusedSimpArgs false
theorem made_iff {p : Pg} : madeB p = true ↔ (leafB p = true ∨ innerB p = true) := by unfold madeB; rw [Bool.or_eq_true]
theorem text_size {p : Pg} (h : leafB p = true ∨ innerB p = true) : (textP p).length + 4 = sizeP p := by
  unfold textP sizeP
  rcases h with h | h
  · have hl : p.leaf = true := by simp only [leafB, Bool.and_eq_true] at h; exact h.1.1.1.1
    have h2 := (leaf_eq h).2
    have h3 : p.kids = [] := by have := (leaf_eq h).1; rw [this]
    rw [if_pos hl, ltx_len p _ (Nat.le_refl _) (by omega), List.take_of_length_le (Nat.le_refl _), List.take_of_length_le (by omega), h3]
    have e0 : sumK [] = 0 := rfl
    rw [e0]
    omega
  · have hl : p.leaf = false := by simp only [innerB, Bool.and_eq_true] at h; simpa using h.1.1.1.1.1
    have h2 := (innerB_kids h).2
    have h3 : p.vals = [] := by simp only [innerB, Bool.and_eq_true, decide_eq_true_eq] at h; exact List.length_eq_zero_iff.1 h.1.1.2
    rw [if_neg (by rw [hl]; decide), itx_len p _ (Nat.le_refl _) (by omega), List.take_of_length_le (Nat.le_refl _), List.take_of_length_le (by omega), h3]
    have e0 : sumB [] = 0 := rfl
    rw [e0]
    omega
/-- ladingref06.text, of a page that is made -/
theorem rtext_any (v : Pv) (p : Pg) (w : World) (h : IsG w v p) (hc : FewP v) (hm : leafB p = true ∨ innerB p = true) :
    Calls Try.prog 36 #[.agg (pgc p.leaf v)] w fun e w' => ∃ a c, e = .returned (.slice a (textP p).length c) ∧ IsB w' a (textP p).length c (textP p) ∧ Below w.heap.size w w' := by
  unfold textP
  rcases hm with h1 | h1
  · have hl : p.leaf = true := by simp only [leafB, Bool.and_eq_true] at h1; exact h1.1.1.1.1
    rw [hl, if_pos rfl]
    exact rtext_leaf v p w h hc h1
  · have hl : p.leaf = false := by simp only [innerB, Bool.and_eq_true] at h1; simpa using h1.1.1.1.1.1
    rw [hl, if_neg (by decide)]
    exact rtext_inner v p w h hc h1
set_option maxHeartbeats 2000000 in
/-- ladingref06.Size -/
theorem rsize_any (v : Pv) (p : Pg) (w : World) (h : IsG w v p) (hc : FewP v) :
    Calls Try.prog 21 #[.agg (pgc p.leaf v)] w fun e w' => e = .returned (.int .i64 (sizeE p)) ∧ Below w.heap.size w w' := by
  obtain ⟨V0, hV0⟩ : ∃ V0, V0 = w.alloc (.cells (pgc p.leaf v) 25) := ⟨_, rfl⟩
  have HB0 : Hid (Below w.heap.size w V0) := hide (by rw [hV0]; exact (Below.refl _ w).alloc (Nat.le_refl _) _)
  have HX0 : Hid (BlkG V0 w.heap.size p.leaf v) := hide (by show V0.heap[w.heap.size]? = _; rw [hV0, heap_alloc_new])
  have HMD := hide (made_any v p V0 (h.below HB0.out) hc)
  have HLE : Hid (leafB p = true ∨ innerB p = true → sizeP p ≤ 9000000000) := hide (fun hm => sizeP_le hm ⟨by rw [h.keys.1]; exact hc.1, by rw [h.vals.1]; exact hc.2.1, by rw [h.kids.1]; exact hc.2.2⟩)
  have HTX : Hid (∀ W, Below w.heap.size w W → (leafB p = true ∨ innerB p = true) → Calls Try.prog 36 #[.agg (pgc p.leaf v)] W fun e w' => ∃ a c, e = .returned (.slice a (textP p).length c) ∧ IsB w' a (textP p).length c (textP p) ∧ Below W.heap.size W w') := hide (fun W hW hm => rtext_any v p W (h.below hW) hc hm)
  clear h hc
  generalize p.leaf = lf at *
  obtain ⟨R, hR⟩ : ∃ R, R = madeB p := ⟨_, rfl⟩
  rw [← hR] at HMD
  have HR := hide hR
  clear hR
  obtain ⟨ka, kn, kc, va, vn, vc, ia, inn, ic⟩ := v
  try dsimp only at HX0 HMD HTX hV0
  try dsimp only
  obtain ⟨q0, q1, q2, q3⟩ := BlkG.cells HX0.out
  try dsimp only at q0 q1 q2 q3
  obtain ⟨sz, hsz⟩ : ∃ s, s = sizeE p := ⟨_, rfl⟩
  rw [← hsz]
  have HSZ := hide hsz
  clear hsz
  go_enter Try.func21, Try.ntmps21
  go_wp2_with fail
  try rw [← hV0]
  clear hV0
  refine HMD.out.mono ?_
  rintro e w1 ⟨rfl, hb1⟩
  have HB1 : Hid (Below w.heap.size w w1) := hide (HB0.out.trans (hb1.mono HB0.out.size))
  have HX1 : Hid (BlkG w1 w.heap.size lf ⟨ka, kn, kc, va, vn, vc, ia, inn, ic⟩) := hide ((hb1.block _ (heap_ltN HX0.out)).trans HX0.out)
  clear hb1 HMD q0 q1 q2 q3 HX0 HB0
  obtain ⟨q0, q1, q2, q3⟩ := BlkG.cells HX1.out
  try dsimp only at q0 q1 q2 q3
  cases R with
  | false =>
    have HF : Hid (sz = 0) := hide (by rw [HSZ.out]; unfold sizeE; rw [if_neg (fun hm => by have := made_iff.2 hm; rw [← HR.out] at this; cases this)])
    go_wp2
    go_ret
    exact ⟨by rw [HF.out]; rfl, HB1.out⟩
  | true =>
    have HM : Hid (leafB p = true ∨ innerB p = true) := hide (made_iff.1 HR.out.symm)
    have HT := hide (HTX.out w1 HB1.out HM.out)
    have HF : Hid (sz = ((textP p).length : Int) + 4 ∧ (textP p).length ≤ 9000000000) := hide (by
      have h1 := text_size HM.out
      have h2 := HLE.out HM.out
      rw [HSZ.out]
      unfold sizeE
      rw [if_pos HM.out]
      omega)
    generalize (textP p).length = tl at *
    have hw : IntKind.i64.wrap ((tl : Int) + 4) = (tl : Int) + 4 := wrapN (by omega) (by have := HF.out.2; omega)
    go_wp2_with fail
    refine HT.out.mono ?_
    rintro e w2 ⟨a, c, rfl, hI, hb2⟩
    have HB2 : Hid (Below w.heap.size w w2) := hide (HB1.out.trans (hb2.mono HB1.out.size))
    clear hI hb2
    go_wp2
    go_ret
    exact ⟨by rw [HF.out.1]; rfl, HB2.out⟩
set_option maxHeartbeats 2000000 in
/-- ladingref06.Check -/
theorem rcheck_any (v : Pv) (p : Pg) (w : World) (h : IsG w v p) (hc : FewP v) :
    Calls Try.prog 19 #[.agg (pgc p.leaf v)] w fun e w' => e = .returned (.int .i64 (checkE p)) ∧ Below w.heap.size w w' := by
  obtain ⟨V0, hV0⟩ : ∃ V0, V0 = w.alloc (.cells (pgc p.leaf v) 25) := ⟨_, rfl⟩
  have HB0 : Hid (Below w.heap.size w V0) := hide (by rw [hV0]; exact (Below.refl _ w).alloc (Nat.le_refl _) _)
  have HX0 : Hid (BlkG V0 w.heap.size p.leaf v) := hide (by show V0.heap[w.heap.size]? = _; rw [hV0, heap_alloc_new])
  have HMD := hide (made_any v p V0 (h.below HB0.out) hc)
  have HSI : Hid (∀ W, Below w.heap.size w W → Calls Try.prog 21 #[.agg (pgc p.leaf v)] W fun e w' => e = .returned (.int .i64 (sizeE p)) ∧ Below W.heap.size W w') := hide (fun W hW => rsize_any v p W (h.below hW) hc)
  clear h hc
  generalize p.leaf = lf at *
  obtain ⟨R, hR⟩ : ∃ R, R = madeB p := ⟨_, rfl⟩
  rw [← hR] at HMD
  have HR := hide hR
  clear hR
  obtain ⟨ka, kn, kc, va, vn, vc, ia, inn, ic⟩ := v
  try dsimp only at HX0 HMD HSI hV0
  try dsimp only
  obtain ⟨q0, q1, q2, q3⟩ := BlkG.cells HX0.out
  try dsimp only at q0 q1 q2 q3
  obtain ⟨E, hE⟩ : ∃ s, s = checkE p := ⟨_, rfl⟩
  rw [← hE]
  have HE := hide hE
  clear hE
  obtain ⟨sz, hsz⟩ : ∃ s, s = sizeE p := ⟨_, rfl⟩
  rw [← hsz] at HSI
  have HSZ := hide hsz
  clear hsz
  go_enter Try.func19, Try.ntmps19
  go_wp2_with fail
  try rw [← hV0]
  clear hV0
  refine HMD.out.mono ?_
  rintro e w1 ⟨rfl, hb1⟩
  have HB1 : Hid (Below w.heap.size w w1) := hide (HB0.out.trans (hb1.mono HB0.out.size))
  have HX1 : Hid (BlkG w1 w.heap.size lf ⟨ka, kn, kc, va, vn, vc, ia, inn, ic⟩) := hide ((hb1.block _ (heap_ltN HX0.out)).trans HX0.out)
  clear hb1 HMD q0 q1 q2 q3 HX0 HB0
  obtain ⟨q0, q1, q2, q3⟩ := BlkG.cells HX1.out
  try dsimp only at q0 q1 q2 q3
  cases R with
  | false =>
    have HF : Hid (E = 2) := hide (by rw [HE.out]; unfold checkE; rw [if_neg (fun hm => by have := made_iff.2 hm; rw [← HR.out] at this; cases this)])
    go_wp2
    go_ret
    exact ⟨by rw [HF.out]; rfl, HB1.out⟩
  | true =>
    have HM : Hid (leafB p = true ∨ innerB p = true) := hide (made_iff.1 HR.out.symm)
    have HS := hide (HSI.out w1 HB1.out)
    have HZ : Hid (sz = (sizeP p : Int)) := hide (by rw [HSZ.out]; unfold sizeE; rw [if_pos HM.out])
    go_wp2_with fail
    refine HS.out.mono ?_
    rintro e w2 ⟨rfl, hb2⟩
    have HB2 : Hid (Below w.heap.size w w2) := hide (HB1.out.trans (hb2.mono HB1.out.size))
    clear hb2 HS
    by_cases hg : 4096 < sz
    · have HF : Hid (E = 7) := hide (by rw [HE.out]; unfold checkE; rw [if_pos HM.out, if_pos (by have := HZ.out; omega)])
      go_wp2
      go_ret
      exact ⟨by rw [HF.out]; rfl, HB2.out⟩
    · have HF : Hid (E = 0) := hide (by rw [HE.out]; unfold checkE; rw [if_pos HM.out, if_neg (by have := HZ.out; omega)])
      go_wp2
      go_ret
      exact ⟨by rw [HF.out]; rfl, HB2.out⟩
end Go.Proofs.Ytebikoekpbnpbaa
