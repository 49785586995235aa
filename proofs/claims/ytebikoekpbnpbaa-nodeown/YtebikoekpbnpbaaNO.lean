/- leafPart -/
import Derived.Test.YtebikoekpbnpbaaNN
namespace Go.Proofs.Ytebikoekpbnpbaa
open Go.RowKit Go.Lib Cod
set_option maxRecDepth 100000
set_option linter.unusedVariables false
set_option linter.unusedSimpArgs false
def subL {α : Type} (l : List α) (f t : Nat) : List α := (l.drop f).take (t - f)
theorem subL_len {α : Type} {l : List α} {f t : Nat} (h : t ≤ l.length) : (subL l f t).length = t - f := by simp [subL]; omega
theorem subL_getD {l : List (List Nat)} {f t i : Nat} (hi : i < t - f) : (subL l f t).getD i [] = l.getD (f + i) [] := by
  simp [subL, List.getD_eq_getElem?_getD, List.getElem?_take, List.getElem?_drop, hi]
theorem isL_sub {w : World} {b off n c : Nat} {L : List (List Nat)} (h : IsL w (some ⟨b, off, none⟩) n c L) {f t : Nat} (h1 : f ≤ t) (h2 : t ≤ n) :
    ∃ A : Addr, (if c = f then some (⟨b, off, none⟩ : Addr) else some ⟨b, off + f, none⟩) = some A ∧ IsL w (some A) (t - f) (c - f) (subL L f t) := by
  obtain ⟨g1, g2, g3, g4, g5⟩ := h
  by_cases hf : c = f
  · refine ⟨⟨b, off, none⟩, by rw [if_pos hf], subL_len (by omega), by omega, by omega, nofun, fun i hi => by omega⟩
  · refine ⟨⟨b, off + f, none⟩, by rw [if_neg hf], subL_len (by omega), by omega, by omega, nofun, fun i hi => ?_⟩
    obtain ⟨b', off', a', n', c', e, hlt, hc, hB⟩ := g5 (f + i) (by omega)
    cases e
    refine ⟨b, off + f, a', n', c', rfl, hlt, by rw [Nat.add_assoc]; exact hc, ?_⟩
    rw [subL_getD hi]
    exact hB
theorem resP1 {fn : Func} {p : Tmp} (h : fn.results = #[.cell p 25]) (tmps : Array Value) (W : World) (B : Nat) (cs : Array Value) (hb : W.heap[B]? = some (.cells cs 25 (0, 0))) (hs : cs.size = 4) (hp : tmps.getD p undef = .pointer (some ⟨B, 0, none⟩)) :
    (results fn tmps).run Try.prog W = .ok (.agg cs) W := results_cell_row h tmps W B 25 cs (0, 0) _ hp hb Try.underlying25 rfl (by rw [hs]; kernel_rfl)
def lpP (p : Pg) (f t : Nat) : Pg := ⟨true, subL p.keys f t, subL p.vals f t, []⟩
set_option maxHeartbeats 1500000 in
theorem leafPart_any (v : Pv) (p : Pg) (f t : Nat) (w : World) (h : IsG w v p) (h0 : 0 < v.kn) (h1 : f ≤ t) (h2 : t ≤ v.kn) (hvk : v.vn = v.kn) (hn : v.kn ≤ 4096) (hs : (∀ b ∈ p.keys, b.length ≤ 1024) ∧ ∀ b ∈ p.vals, b.length ≤ 1024) (lf : Bool) :
    Calls Try.prog 58 #[.agg (pgc lf v), .int .i64 (f : Nat), .int .i64 (t : Nat)] w fun e w' => ∃ v', e = .returned (.agg (pgc true v')) ∧ NwG w' (w.heap.size + 1) v' (lpP p f t) ∧ Below w.heap.size w w' := by
  obtain ⟨ka, kn, kc, va, vn, vc, ia, inn, ic⟩ := v
  try dsimp only at h0 h2 hvk hn
  have HVK := hide hvk
  have h0v : 0 < vn := by omega
  have h2v : t ≤ vn := by omega
  clear hvk
  have hK := h.keys
  have hV := h.vals
  try dsimp only at hK hV
  obtain ⟨b1, o1, _, _, _, rfl, hb1, _, _⟩ := hK.2.2.2.2 0 h0
  obtain ⟨b2, o2, _, _, _, rfl, hb2, _, _⟩ := hV.2.2.2.2 0 h0v
  obtain ⟨A1, hA1, hI1⟩ := isL_sub hK h1 h2
  obtain ⟨A2, hA2, hI2⟩ := isL_sub hV h1 h2v
  have hk2 := hK.2.1
  have hk3 : kc ≤ 9223372036854775807 := hK.2.2.1
  have hv2 := hV.2.1
  have hv3 : vc ≤ 9223372036854775807 := hV.2.2.1
  have HL1 : Hid ((subL p.keys f t).length = t - f) := hide hI1.1
  have HL2 : Hid ((subL p.vals f t).length = t - f) := hide hI2.1
  have HB0 : Hid (Below w.heap.size w ((w.alloc (.cells #[.bool lf, .slice (some ⟨b1, o1, none⟩) kn kc, .slice (some ⟨b2, o2, none⟩) vn vc, .slice ia inn ic] 25)).alloc (.cells #[.bool false, .slice none 0 0, .slice none 0 0, .slice none 0 0] 25))) := hide (((Below.refl _ w).alloc (Nat.le_refl _) _).alloc (by simp) _)
  have HX : Hid (((w.alloc (.cells #[.bool lf, .slice (some ⟨b1, o1, none⟩) kn kc, .slice (some ⟨b2, o2, none⟩) vn vc, .slice ia inn ic] 25)).alloc (.cells #[.bool false, .slice none 0 0, .slice none 0 0, .slice none 0 0] 25)).heap[w.heap.size]? = some (.cells #[.bool lf, .slice (some ⟨b1, o1, none⟩) kn kc, .slice (some ⟨b2, o2, none⟩) vn vc, .slice ia inn ic] 25 (0, 0))) := hide (by
    refine (((Below.refl (w.heap.size + 1) (w.alloc (.cells #[.bool lf, .slice (some ⟨b1, o1, none⟩) kn kc, .slice (some ⟨b2, o2, none⟩) vn vc, .slice ia inn ic] 25))).alloc (by simp) _).block _ (by omega)).trans (heap_alloc_new _ _))
  have HY : Hid (((w.alloc (.cells #[.bool lf, .slice (some ⟨b1, o1, none⟩) kn kc, .slice (some ⟨b2, o2, none⟩) vn vc, .slice ia inn ic] 25)).alloc (.cells #[.bool false, .slice none 0 0, .slice none 0 0, .slice none 0 0] 25)).heap[w.heap.size + 1]? = some (.cells #[.bool false, .slice none 0 0, .slice none 0 0, .slice none 0 0] 25 (0, 0))) := hide (by
    have := heap_alloc_new (w.alloc (.cells #[.bool lf, .slice (some ⟨b1, o1, none⟩) kn kc, .slice (some ⟨b2, o2, none⟩) vn vc, .slice ia inn ic] 25)) (.cells #[.bool false, .slice none 0 0, .slice none 0 0, .slice none 0 0] 25)
    rwa [show (w.alloc (.cells #[.bool lf, .slice (some ⟨b1, o1, none⟩) kn kc, .slice (some ⟨b2, o2, none⟩) vn vc, .slice ia inn ic] 25)).heap.size = w.heap.size + 1 by simp] at this)
  have HC1 : Hid (∀ W : World, Below w.heap.size w W → Calls Try.prog 49 #[.slice (some A1) (t - f) (kc - f)] W fun e w' => ∃ sv, e = .returned (.slice (some ⟨W.heap.size, 0, none⟩) (t - f) (t - f)) ∧ OwnL w' W.heap.size (t - f) sv (subL p.keys f t) ∧ Below W.heap.size W w') := hide (fun W hW => clones_any (some A1) (t - f) (kc - f) _ W (hI1.below hW) (by omega) (fun b hb => Nat.le_trans (hs.1 b (List.mem_of_mem_drop (List.mem_of_mem_take hb))) (by decide)))
  have HC2 : Hid (∀ W : World, Below w.heap.size w W → Calls Try.prog 49 #[.slice (some A2) (t - f) (vc - f)] W fun e w' => ∃ sv, e = .returned (.slice (some ⟨W.heap.size, 0, none⟩) (t - f) (t - f)) ∧ OwnL w' W.heap.size (t - f) sv (subL p.vals f t) ∧ Below W.heap.size W w') := hide (fun W hW => clones_any (some A2) (t - f) (vc - f) _ W (hI2.below hW) (by omega) (fun b hb => Nat.le_trans (hs.2 b (List.mem_of_mem_drop (List.mem_of_mem_take hb))) (by decide)))
  have q1 : (f : Int) ≤ (t : Int) := by omega
  have q2 : (t : Int) ≤ (kc : Int) := by omega
  have q3 : (t : Int) ≤ (vc : Int) := by omega
  have q4 : t ≤ kc := by omega
  have q5 : t ≤ vc := by omega
  have q6 : f ≤ kc := by omega
  have q7 : f ≤ vc := by omega
  have q8 : (f : Int) ≤ (kc : Int) := by omega
  have q9 : (f : Int) ≤ (vc : Int) := by omega
  clear hK hV hI1 hI2 h hs
  go_enter Try.func58, Try.ntmps58
  go_wp2_with fail
  generalize hV0 : ((w.alloc (.cells #[.bool lf, .slice (some ⟨b1, o1, none⟩) kn kc, .slice (some ⟨b2, o2, none⟩) vn vc, .slice ia inn ic] 25)).alloc (.cells #[.bool false, .slice none 0 0, .slice none 0 0, .slice none 0 0] 25)) = V0 at *
  have HS : Hid (∀ W : World, Below (w.heap.size + 1) V0 W → W.cell? ⟨w.heap.size, 1, none⟩ = some (.slice (some ⟨b1, o1, none⟩) kn kc) ∧ W.cell? ⟨w.heap.size, 2, none⟩ = some (.slice (some ⟨b2, o2, none⟩) vn vc)) := hide (fun W hW => ⟨cell_blkN ((hW.block _ (by omega)).trans HX.out) rfl, cell_blkN ((hW.block _ (by omega)).trans HX.out) rfl⟩)
  have HW0 : Hid (w.heap.size + 1 < V0.heap.size) := hide (heap_ltN HY.out)
  have HT1 := hide (HC1.out _ HB0.out.drew)
  have HT2 : Hid (∀ w2 : World, Below V0.drew.heap.size V0.drew w2 → Hid (Below V0.heap.size V0 w2)) := hide (fun w2 hb2 => hide ((Below.refl _ V0).drew.trans hb2))
  have HT3 : Hid (∀ w2 : World, Below V0.heap.size V0 w2 → Below w.heap.size w w2 ∧ Below (w.heap.size + 1) V0 w2) := hide (fun w2 hb2 => ⟨HB0.out.trans (hb2.mono HB0.out.size), hb2.mono (Nat.le_of_lt HW0.out)⟩)
  have HT4 : Hid (∀ w3 : World, Below V0.heap.size V0 w3 → w3.cell? ⟨w.heap.size + 1, 0, none⟩ = some (.bool false) ∧ w3.cell? ⟨w.heap.size + 1, 1, none⟩ = some (.slice none 0 0) ∧ w3.cell? ⟨w.heap.size + 1, 2, none⟩ = some (.slice none 0 0) ∧ w3.cell? ⟨w.heap.size + 1, 3, none⟩ = some (.slice none 0 0) ∧ (∀ j, w3.frozen? ⟨w.heap.size + 1, j, none⟩ = false)) := hide (fun w3 hb3 => by
    have hy := (hb3.block _ (heap_ltN HY.out)).trans HY.out
    exact ⟨cell_blkN hy rfl, cell_blkN hy rfl, cell_blkN hy rfl, cell_blkN hy rfl, fun j => frzN hy j⟩)
  go_region_held (fun W : World => W.cell? ⟨w.heap.size, 1, none⟩ = some (.slice (some ⟨b1, o1, none⟩) kn kc) ∧ W.cell? ⟨w.heap.size, 2, none⟩ = some (.slice (some ⟨b2, o2, none⟩) vn vc)) (first | with_reducible exact HS.out _ (Below.refl _ _).drew | with_reducible exact HS.out _ (HT3.out _ HQ2.out).2 | with_reducible exact HS.out _ (HT3.out _ HQ1.out).2 | with_reducible exact HS.out _ (below4 (HT3.out _ HQ2.out).2 (Nat.le_refl _) _ _ _ _)) (first | (go_at_call 49; with_reducible refine HT1.out.mono ?_; rintro e w2 ⟨sv1, rfl, ho1, hb2⟩; have HQ1 := HT2.out w2 hb2) | (go_at_call 49; with_reducible refine (HC2.out _ (HT3.out _ HQ1.out).1).mono ?_; rintro e w3 ⟨sv2, rfl, ho2, hb3⟩; have HQ2 : Hid (Below V0.heap.size V0 w3) := hide (HQ1.out.trans (hb3.mono HQ1.out.size)); obtain ⟨y0, y1, y2, y3, fz⟩ := HT4.out w3 HQ2.out; have f0 := fz 0; have f1 := fz 1; have f2 := fz 2; have f3 := fz 3))
  have HNW : Hid (NwG w3 (w.heap.size + 1) ⟨some ⟨V0.heap.size, 0, none⟩, t - f, t - f, some ⟨w2.heap.size, 0, none⟩, t - f, t - f, none, 0, 0⟩ (lpP p f t)) := hide (by
    have hw0 := HW0.out
    have h12 := HQ1.out.size
    have ho1' : OwnL w2 V0.heap.size (t - f) sv1 (subL p.keys f t) := ho1
    refine ⟨?_, ?_, isK_nil _, nofun⟩
    · have hk := ho1'.full HL1.out
      rw [← List.append_nil sv1] at hk
      have h0 := nwL_row (G := w.heap.size + 1) (c := t - f) hk (ho1'.els.mono (by omega)) (by omega) (by rw [HL1.out]; exact Nat.le_refl _) (by unfold maxLen; omega)
      rw [HL1.out] at h0
      exact h0.below hb3
    · have hk := ho2.full HL2.out
      rw [← List.append_nil sv2] at hk
      have h0 := nwL_row (G := w.heap.size + 1) (c := t - f) hk (ho2.els.mono (by omega)) (by omega) (by rw [HL2.out]; exact Nat.le_refl _) (by unfold maxLen; omega)
      rw [HL2.out] at h0
      exact h0)
  have HYF : Hid (w3.heap[w.heap.size + 1]? = some (.cells #[.bool false, .slice none 0 0, .slice none 0 0, .slice none 0 0] 25 (0, 0))) := hide ((HQ2.out.block _ HW0.out).trans HY.out)
  have HBF : Hid (Below w.heap.size w w3) := hide (HT3.out _ HQ2.out).1
  clear ho1 ho2 hb2 hb3 HC1 HC2 HT1 HT2 HT3 HT4 HS y0 y1 y2 y3 fz f0 f1 f2 f3
  go_wp2
  (try simp only [Exit.inBlock, Exit.then])
  refine bodyPost_ret (resP1 rfl _ _ (w.heap.size + 1) #[.bool true, .slice (some ⟨V0.heap.size, 0, none⟩) (t - f) (t - f), .slice (some ⟨w2.heap.size, 0, none⟩) (t - f) (t - f), .slice none 0 0] (blk4 HYF.out _ _ _ _) rfl rfl) rfl ?_
  exact ⟨⟨some ⟨V0.heap.size, 0, none⟩, t - f, t - f, some ⟨w2.heap.size, 0, none⟩, t - f, t - f, none, 0, 0⟩, rfl, HNW.out.set4 (Nat.le_refl _) _ _ _ _, below4 HBF.out (by omega) _ _ _ _⟩
end Go.Proofs.Ytebikoekpbnpbaa
