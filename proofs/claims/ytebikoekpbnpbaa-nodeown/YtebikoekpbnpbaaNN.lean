/- Cut -/
import Derived.Test.YtebikoekpbnpbaaNM
namespace Go.Proofs.Ytebikoekpbnpbaa
open Go.RowKit Go.Lib Cod
set_option maxRecDepth 100000
set_option linter.unusedVariables false
set_option linter.unusedSimpArgs false
/-- the leaf without a key -/
def cutP (p : Pg) (key : List Nat) : Pg := if hasK p.keys key = true then ⟨true, delL p.keys (lowK p.keys key), delL p.vals (lowK p.keys key), []⟩ else ⟨true, p.keys, p.vals, []⟩
/-- what Cut answers -/
def cutR (p : Pg) (key : List Nat) : Pg × Bool × Int := if leafE p = 0 then (cutP p key, hasK p.keys key, 0) else (Pg0, false, leafE p)
set_option maxHeartbeats 1500000 in
theorem cut_any (v : Pv) (p : Pg) (xa : Option Addr) (xn xc : Nat) (key : List Nat) (w : World) (h : IsG w v p) (hc : FewP v) (hk : IsB w xa xn xc key) :
    Calls Try.prog 27 #[.agg (pgc p.leaf v), .slice xa xn xc] w fun e w' => ∃ v', e = .returned (.tuple #[.agg (pgc (cutR p key).1.leaf v'), .bool (cutR p key).2.1, .int .i64 (cutR p key).2.2]) ∧ NwG w' (w.heap.size + 1) v' (cutR p key).1 ∧ Below w.heap.size w w' := by
  have HB0 : Hid (Below w.heap.size w ((w.alloc (.cells (pgc p.leaf v) 25)).alloc (.cells (pgc false Pv0) 25))) := hide (((Below.refl _ w).alloc (Nat.le_refl _) _).alloc (by simp) _)
  have HX : Hid (BlkG ((w.alloc (.cells (pgc p.leaf v) 25)).alloc (.cells (pgc false Pv0) 25)) w.heap.size p.leaf v) := hide (by
    refine (((Below.refl (w.heap.size + 1) (w.alloc (.cells (pgc p.leaf v) 25))).alloc (by simp) _).block _ (by omega)).trans (heap_alloc_new _ _))
  have HY : Hid (BlkG ((w.alloc (.cells (pgc p.leaf v) 25)).alloc (.cells (pgc false Pv0) 25)) (w.heap.size + 1) false Pv0) := hide (by
    have := heap_alloc_new (w.alloc (.cells (pgc p.leaf v) 25)) (.cells (pgc false Pv0) 25)
    rwa [show (w.alloc (.cells (pgc p.leaf v) 25)).heap.size = w.heap.size + 1 by simp] at this)
  have HCK := hide (checkLeaf_any v p _ (h.below HB0.out) hc)
  have HG := hide h
  have HK := hide hk
  have HXN : Hid (key.length = xn) := hide hk.1
  obtain ⟨lf, hlf⟩ : ∃ lf, p.leaf = lf := ⟨_, rfl⟩
  rw [hlf] at HB0 HX HY HCK
  rw [hlf]
  have HLF := hide hlf
  clear hlf h hc hk
  obtain ⟨E, hE0⟩ : ∃ E, leafE p = E := ⟨_, rfl⟩
  rw [hE0] at HCK
  have HE0 := hide hE0
  clear hE0
  obtain ⟨ka, kn, kc, va, vn, vc, ia, inn, ic⟩ := v
  try dsimp only at HB0 HX HCK HY
  try dsimp only
  obtain ⟨q0, q1, q2, q3⟩ := HX.out.cells
  try dsimp only at q0 q1 q2 q3
  unfold Pv0 at HB0 HX HY HCK q0 q1 q2 q3
  try dsimp only at HB0 HX HY HCK q0 q1 q2 q3
  go_enter Try.func27, Try.ntmps27
  go_wp2_with fail
  generalize hV0 : ((w.alloc (.cells #[.bool lf, .slice ka kn kc, .slice va vn vc, .slice ia inn ic] 25)).alloc (.cells #[.bool false, .slice none 0 0, .slice none 0 0, .slice none 0 0] 25)) = V0 at *
  refine HCK.out.mono ?_
  rintro e w1 ⟨rfl, hb1⟩
  have HB1 : Hid (Below w.heap.size w w1) := hide (HB0.out.trans (hb1.mono HB0.out.size))
  have HX1 : Hid (w1.heap[w.heap.size]? = some (.cells #[.bool lf, .slice ka kn kc, .slice va vn vc, .slice ia inn ic] 25 (0, 0))) := hide ((hb1.block _ (heap_ltN HX.out)).trans HX.out)
  have HY1 : Hid (w1.heap[w.heap.size + 1]? = some (.cells #[.bool false, .slice none 0 0, .slice none 0 0, .slice none 0 0] 25 (0, 0))) := hide ((hb1.block _ (heap_ltN HY.out)).trans HY.out)
  clear hb1 HCK q0 q1 q2 q3 hV0 HX HY HB0
  have q1 : w1.cell? ⟨w.heap.size, 1, none⟩ = some (.slice ka kn kc) := cell_blkN HX1.out rfl
  have q2 : w1.cell? ⟨w.heap.size, 2, none⟩ = some (.slice va vn vc) := cell_blkN HX1.out rfl
  have y0 : w1.cell? ⟨w.heap.size + 1, 0, none⟩ = some (.bool false) := cell_blkN HY1.out rfl
  have y1 : w1.cell? ⟨w.heap.size + 1, 1, none⟩ = some (.slice none 0 0) := cell_blkN HY1.out rfl
  have y2 : w1.cell? ⟨w.heap.size + 1, 2, none⟩ = some (.slice none 0 0) := cell_blkN HY1.out rfl
  have y3 : w1.cell? ⟨w.heap.size + 1, 3, none⟩ = some (.slice none 0 0) := cell_blkN HY1.out rfl
  have f0 := frzN HY1.out 0
  have f1 := frzN HY1.out 1
  have f2 := frzN HY1.out 2
  have f3 := frzN HY1.out 3
  by_cases hE : E = 0
  · subst hE
    have HCE : Hid (checkE p = 0) := hide (leafE_0 HE0.out).1
    have HKN : Hid (p.keys.length = kn) := hide HG.out.keys.1
    have HVN : Hid (p.vals.length = vn) := hide HG.out.vals.1
    have hkn : kn ≤ 4096 := by have := (check_few HCE.out).1; rw [HKN.out] at this; exact this
    have hvn : vn ≤ 4096 := by have := (check_few HCE.out).2.1; rw [HVN.out] at this; exact this
    have HVK : Hid (vn = kn) := hide (by have := leaf_lens HE0.out; rw [HKN.out, HVN.out] at this; exact this)
    have HC1 : Hid (∀ W : World, Below w.heap.size w W → Calls Try.prog 49 #[.slice ka kn kc] W fun e w' => ∃ sv, e = .returned (.slice (some ⟨W.heap.size, 0, none⟩) kn kn) ∧ OwnL w' W.heap.size kn sv p.keys ∧ Below W.heap.size W w') := hide (fun W hW => clones_any ka kn kc p.keys W (HG.out.keys.below hW) (by omega) (fun b hb => Nat.le_trans ((kind_short (check_kind HCE.out)).1 b hb) (by decide)))
    have HC2 : Hid (∀ W : World, Below w.heap.size w W → Calls Try.prog 49 #[.slice va vn vc] W fun e w' => ∃ sv, e = .returned (.slice (some ⟨W.heap.size, 0, none⟩) vn vn) ∧ OwnL w' W.heap.size vn sv p.vals ∧ Below W.heap.size W w') := hide (fun W hW => clones_any va vn vc p.vals W (HG.out.vals.below hW) (by omega) (fun b hb => Nat.le_trans ((kind_short (check_kind HCE.out)).2.1 b hb) (by decide)))
    have HS : Hid (∀ W : World, Below w1.heap.size w1 W → W.cell? ⟨w.heap.size, 1, none⟩ = some (.slice ka kn kc) ∧ W.cell? ⟨w.heap.size, 2, none⟩ = some (.slice va vn vc)) := hide (fun W hW => ⟨cell_blkN ((hW.block _ (heap_ltN HX1.out)).trans HX1.out) rfl, cell_blkN ((hW.block _ (heap_ltN HX1.out)).trans HX1.out) rfl⟩)
    have HW1 : Hid (w.heap.size + 1 < w1.heap.size) := hide (heap_ltN HY1.out)
    have T1 := HC1.out _ HB1.out.drew
    have T2 : ∀ w2 : World, Below w1.drew.heap.size w1.drew w2 → Hid (Below w1.heap.size w1 w2) := fun w2 hb2 => hide ((Below.refl _ w1).drew.trans hb2)
    have HT1 := hide T1
    have HT2 := hide T2
    clear T1 T2
    go_wp2_with fail
    go_region_held (fun W : World => W.cell? ⟨w.heap.size, 1, none⟩ = some (.slice ka kn kc) ∧ W.cell? ⟨w.heap.size, 2, none⟩ = some (.slice va vn vc)) (first | with_reducible exact HS.out _ (Below.refl _ _).drew | with_reducible exact HS.out _ HQ2.out | with_reducible exact HS.out _ HQ1.out) (first | (go_at_call 49; with_reducible refine HT1.out.mono ?_; rintro e w2 ⟨sv1, rfl, ho1, hb2⟩; have HQ1 := HT2.out w2 hb2) | (go_at_call 49; with_reducible refine (HC2.out _ (HB1.out.trans (HQ1.out.mono HB1.out.size))).mono ?_; rintro e w3 ⟨sv2, rfl, ho2, hb3⟩; have HQ2 : Hid (Below w1.heap.size w1 w3) := hide (HQ1.out.trans (hb3.mono HQ1.out.size))))
    have HI1 : Hid (OwnL w2 w1.heap.size kn sv1 p.keys) := hide ho1
    have HO2 : Hid (OwnL w3 w2.heap.size vn sv2 p.vals) := hide ho2
    have HM3 : Hid (Below w2.heap.size w2 w3) := hide hb3
    have HO1 : Hid (OwnL w3 w1.heap.size kn sv1 p.keys) := hide (HI1.out.below hb3)
    have HB3 : Hid (Below w.heap.size w w3) := hide (HB1.out.trans (HQ2.out.mono HB1.out.size))
    have HPL := hide (place_any (some ⟨w1.heap.size, 0, none⟩) kn kn p.keys xa xn xc key w3 (by have := HO1.out.isL; rw [HKN.out] at this; exact this) (HK.out.below HB3.out) (check_srt HCE.out) (by omega))
    clear ho1 ho2 hb2 hb3 q1 q2 HC1 HC2 HS HT1 HT2 y0 y1 y2 y3 f0 f1 f2 f3 HX1
    obtain ⟨lo, hlo⟩ : ∃ lo, lowK p.keys key = lo := ⟨_, rfl⟩
    obtain ⟨is, his⟩ : ∃ is, hasK p.keys key = is := ⟨_, rfl⟩
    rw [hlo, his] at HPL
    have hlk : lo ≤ kn := by rw [← hlo, ← HKN.out]; exact lowK_le _ _
    have HLO := hide hlo
    have HIS := hide his
    clear hlo his
    go_wp2_with fail
    refine HPL.out.mono ?_
    rintro e w4 ⟨rfl, hb4⟩
    have HM4 : Hid (Below w3.heap.size w3 w4) := hide hb4
    have HB4 : Hid (Below w.heap.size w w4) := hide (HB3.out.trans (hb4.mono HB3.out.size))
    clear hb4 HPL
    cases is with
    | false =>
      have HNW : Hid (NwG w4 (w.heap.size + 1) ⟨some ⟨w1.heap.size, 0, none⟩, kn, kn, some ⟨w2.heap.size, 0, none⟩, vn, vn, none, 0, 0⟩ ⟨true, p.keys, p.vals, []⟩) := hide (by
        have h12 := HQ1.out.size
        have hw1 := HW1.out
        refine ⟨?_, ?_, isK_nil _, nofun⟩
        · have hk := (HO1.out.below HM4.out).full HKN.out
          rw [← List.append_nil sv1] at hk
          have h0 := nwL_row (G := w.heap.size + 1) (c := kn) hk ((HO1.out.below HM4.out).els.mono (by omega)) (by omega) (by rw [HKN.out]; exact Nat.le_refl _) (by unfold maxLen; omega)
          rw [HKN.out] at h0
          exact h0
        · have hk := (HO2.out.below HM4.out).full HVN.out
          rw [← List.append_nil sv2] at hk
          have h0 := nwL_row (G := w.heap.size + 1) (c := vn) hk ((HO2.out.below HM4.out).els.mono (by omega)) (by omega) (by rw [HVN.out]; exact Nat.le_refl _) (by unfold maxLen; omega)
          rw [HVN.out] at h0
          exact h0)
      have HPQ : Hid (cutR p key = (⟨true, p.keys, p.vals, []⟩, false, 0)) := hide (by unfold cutR cutP; rw [if_pos HE0.out, if_neg (by rw [HIS.out]; exact Bool.false_ne_true), HIS.out])
      have HQF : Hid (Below w1.heap.size w1 w4) := hide (HQ2.out.trans (HM4.out.mono HQ2.out.size))
      have HBF := HB4
      have HYF : Hid (w4.heap[w.heap.size + 1]? = some (.cells #[.bool false, .slice none 0 0, .slice none 0 0, .slice none 0 0] 25 (0, 0))) := hide ((HQF.out.block _ HW1.out).trans HY1.out)
      have y0 : w4.cell? ⟨w.heap.size + 1, 0, none⟩ = some (.bool false) := cell_blkN HYF.out rfl
      have y1 : w4.cell? ⟨w.heap.size + 1, 1, none⟩ = some (.slice none 0 0) := cell_blkN HYF.out rfl
      have y2 : w4.cell? ⟨w.heap.size + 1, 2, none⟩ = some (.slice none 0 0) := cell_blkN HYF.out rfl
      have y3 : w4.cell? ⟨w.heap.size + 1, 3, none⟩ = some (.slice none 0 0) := cell_blkN HYF.out rfl
      have f0 := frzN HYF.out 0
      have f1 := frzN HYF.out 1
      have f2 := frzN HYF.out 2
      have f3 := frzN HYF.out 3
      go_wp2
      (try simp only [Exit.inBlock, Exit.then])
      refine bodyPost_ret (resP3 rfl _ _ (w.heap.size + 1) #[.bool true, .slice (some ⟨w1.heap.size, 0, none⟩) kn kn, .slice (some ⟨w2.heap.size, 0, none⟩) vn vn, .slice none 0 0] (blk4 HYF.out _ _ _ _) rfl rfl) rfl ?_
      exact ⟨⟨some ⟨w1.heap.size, 0, none⟩, kn, kn, some ⟨w2.heap.size, 0, none⟩, vn, vn, none, 0, 0⟩, by rw [HPQ.out]; rfl, by rw [HPQ.out]; exact HNW.out.set4 (Nat.le_refl _) _ _ _ _, below4 HBF.out (by omega) _ _ _ _⟩
    | true =>
      have hlt : lo < kn := by
        have := HIS.out
        unfold hasK at this
        rw [Bool.and_eq_true] at this
        have := of_decide_eq_true this.1
        rw [HLO.out, HKN.out] at this
        exact this
      have hltv : lo < vn := by rw [HVK.out]; exact hlt
      have hw1 : IntKind.i64.wrap ((lo : Int) + 1) = ((lo + 1 : Nat) : Int) := by rw [wrapN (by omega) (by omega)]; rfl
      have HD1 := hide (del_any w1.heap.size kn lo sv1 w4 ((HO1.out.below HM4.out).full HKN.out) (HO1.out.els.1.trans HKN.out) hlt (by omega) HO1.out.els.one)
      go_wp2_with fail
      refine HD1.out.mono ?_
      rintro e w5 ⟨rfl, hr5, ho5, hs5, hb5⟩
      have HR5 := hide hr5
      have HO5 := hide ho5
      have HS5 := hide hs5
      have HB5 := hide hb5
      clear hr5 ho5 hs5 hb5 HD1
      have HG2 : Hid (w1.heap.size < w2.heap.size) := hide (heap_ltN (HI1.out.full HKN.out))
      have HV5 : Hid (w5.heap[w2.heap.size]? = some (.cells sv2.toArray 26 (0, 0))) := hide (by
        have := HG2.out
        exact (HO5.out _ (by omega)).trans ((HO2.out.below HM4.out).full HVN.out))
      have HD2 := hide (del_any w2.heap.size vn lo sv2 w5 HV5.out (HO2.out.els.1.trans HVN.out) hltv (by omega) HO2.out.els.one)
      go_wp2_with fail
      refine HD2.out.mono ?_
      rintro e w6 ⟨rfl, hr6, ho6, hs6, hb6⟩
      have HQF : Hid (Below w1.heap.size w1 w6) := hide ((HQ2.out.trans (HM4.out.mono HQ2.out.size)).trans (HB5.out.trans (hb6.mono (Nat.le_of_lt HG2.out))))
      have HNW : Hid (NwG w6 (w.heap.size + 1) ⟨some ⟨w1.heap.size, 0, none⟩, kn - 1, kn, some ⟨w2.heap.size, 0, none⟩, vn - 1, vn, none, 0, 0⟩ ⟨true, delL p.keys lo, delL p.vals lo, []⟩) := hide (by
        have h12 := HG2.out
        have hw1 := HW1.out
        have hs46 : w4.heap.size ≤ w6.heap.size := by rw [hs6, HS5.out]; exact Nat.le_refl _
        have hk1 : ∀ b, b ≠ w1.heap.size → b ≠ w2.heap.size → w6.heap[b]? = w4.heap[b]? := fun b h1 h2 => (ho6 b h2).trans (HO5.out b h1)
        refine ⟨?_, ?_, isK_nil _, nofun⟩
        · have hm : Below w2.heap.size w2 w4 := HM3.out.trans (HM4.out.mono HM3.out.size)
          have he : Els w6 w1.heap.size sv1 p.keys := HI1.out.els.kept (Nat.le_trans hm.size hs46) (fun b h1 h2 => (hk1 b (by omega) (by omega)).trans (hm.block b h2))
          have h0 := nwL_row (G := w.heap.size + 1) (c := kn) ((ho6 _ (by omega)).trans HR5.out) ((he.del (by rw [HKN.out]; exact hlt)).mono (by omega)) (by omega) (by rw [delL_len (by rw [HKN.out]; exact hlt), HKN.out]; omega) (by unfold maxLen; omega)
          rw [delL_len (by rw [HKN.out]; exact hlt), HKN.out] at h0
          exact h0
        · have he : Els w6 w2.heap.size sv2 p.vals := (HO2.out.below HM4.out).els.kept hs46 (fun b h1 h2 => hk1 b (by omega) (by omega))
          have h0 := nwL_row (G := w.heap.size + 1) (c := vn) hr6 ((he.del (by rw [HVN.out]; exact hltv)).mono (by omega)) (by omega) (by rw [delL_len (by rw [HVN.out]; exact hltv), HVN.out]; omega) (by unfold maxLen; omega)
          rw [delL_len (by rw [HVN.out]; exact hltv), HVN.out] at h0
          exact h0)
      have HPQ : Hid (cutR p key = (⟨true, delL p.keys lo, delL p.vals lo, []⟩, true, 0)) := hide (by unfold cutR cutP; rw [if_pos HE0.out, if_pos HIS.out, HIS.out, HLO.out])
      have HBF : Hid (Below w.heap.size w w6) := hide (HB1.out.trans (HQF.out.mono HB1.out.size))
      clear hr6 ho6 hs6 hb6 HD2
      have HYF : Hid (w6.heap[w.heap.size + 1]? = some (.cells #[.bool false, .slice none 0 0, .slice none 0 0, .slice none 0 0] 25 (0, 0))) := hide ((HQF.out.block _ HW1.out).trans HY1.out)
      have y0 : w6.cell? ⟨w.heap.size + 1, 0, none⟩ = some (.bool false) := cell_blkN HYF.out rfl
      have y1 : w6.cell? ⟨w.heap.size + 1, 1, none⟩ = some (.slice none 0 0) := cell_blkN HYF.out rfl
      have y2 : w6.cell? ⟨w.heap.size + 1, 2, none⟩ = some (.slice none 0 0) := cell_blkN HYF.out rfl
      have y3 : w6.cell? ⟨w.heap.size + 1, 3, none⟩ = some (.slice none 0 0) := cell_blkN HYF.out rfl
      have f0 := frzN HYF.out 0
      have f1 := frzN HYF.out 1
      have f2 := frzN HYF.out 2
      have f3 := frzN HYF.out 3
      go_wp2
      (try simp only [Exit.inBlock, Exit.then])
      refine bodyPost_ret (resP3 rfl _ _ (w.heap.size + 1) #[.bool true, .slice (some ⟨w1.heap.size, 0, none⟩) (kn - 1) kn, .slice (some ⟨w2.heap.size, 0, none⟩) (vn - 1) vn, .slice none 0 0] (blk4 HYF.out _ _ _ _) rfl rfl) rfl ?_
      exact ⟨⟨some ⟨w1.heap.size, 0, none⟩, (kn - 1), kn, some ⟨w2.heap.size, 0, none⟩, (vn - 1), vn, none, 0, 0⟩, by rw [HPQ.out]; rfl, by rw [HPQ.out]; exact HNW.out.set4 (Nat.le_refl _) _ _ _ _, below4 HBF.out (by omega) _ _ _ _⟩
  · have hE2 : (E == 0) = false := by simpa using hE
    have hE4 : (E != 0) = true := by simpa using hE
    have HE : Hid (cutR p key = (Pg0, false, E)) := hide (by unfold cutR; rw [HE0.out, if_neg hE])
    go_wp2
    (try simp only [Exit.inBlock, Exit.then])
    refine bodyPost_ret (resP3 rfl _ _ (w.heap.size + 1) #[.bool false, .slice none 0 0, .slice none 0 0, .slice none 0 0] (blk4 HY1.out _ _ _ _) rfl rfl) rfl ?_
    exact ⟨Pv0, by rw [HE.out]; rfl, by rw [HE.out]; exact nwG_0 _ _, below4 HB1.out (by omega) _ _ _ _⟩
end Go.Proofs.Ytebikoekpbnpbaa
