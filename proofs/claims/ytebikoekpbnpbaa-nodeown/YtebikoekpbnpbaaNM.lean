/- Put -/
import Derived.Test.YtebikoekpbnpbaaNL
namespace Go.Proofs.Ytebikoekpbnpbaa
open Go.RowKit Go.Lib Cod
set_option maxRecDepth 100000
set_option linter.unusedVariables false
set_option linter.unusedSimpArgs false
/-- the leaf in which a key has a value -/
def putP (p : Pg) (key val : List Nat) : Pg := if hasK p.keys key = true then ⟨true, p.keys, p.vals.set (lowK p.keys key) val, []⟩ else ⟨true, insL p.keys (lowK p.keys key) key, insL p.vals (lowK p.keys key) val, []⟩
/-- what Put answers -/
def putR (p : Pg) (key val : List Nat) : Pg × Int := if leafE p = 0 then (if 256 < key.length ∨ 512 < val.length then (Pg0, 4) else if checkE (putP p key val) = 0 then (putP p key val, 0) else (Pg0, checkE (putP p key val))) else (Pg0, leafE p)
theorem leafE_0 {p : Pg} (h : leafE p = 0) : checkE p = 0 ∧ p.leaf = true := by
  unfold leafE at h
  split at h
  · split at h
    · exact ⟨by assumption, by assumption⟩
    · cases h
  · contradiction
theorem leaf_lens {p : Pg} (h : leafE p = 0) : p.vals.length = p.keys.length := by
  obtain ⟨h1, h2⟩ := leafE_0 h
  rcases check_kind h1 with h3 | h3
  · simp only [leafB, Bool.and_eq_true, decide_eq_true_eq] at h3
    exact h3.1.1.1.2
  · simp [innerB, h2] at h3
/-- the last steps' answer -/
theorem put_end {p : Pg} {key val : List Nat} {q : Pg} (h0 : leafE p = 0) (h1 : ¬ (256 < key.length ∨ 512 < val.length)) (hq : putP p key val = q) (hl : q.leaf = true) {v : Pv} {w : World} {G : Nat} (hG : NwG w G v q) :
    NwG w G (ckP q v).2 (putR p key val).1 ∧ (putR p key val).1.leaf = (ckP q v).1 ∧ (putR p key val).2 = checkE q := by
  unfold putR ckP
  rw [if_pos h0, if_neg h1, hq]
  by_cases h : checkE q = 0
  · rw [if_pos h, if_pos h]
    exact ⟨hG, rfl, h.symm⟩
  · rw [if_neg h, if_neg h]
    exact ⟨nwG_0 w G, rfl, rfl⟩
set_option maxHeartbeats 1500000 in
theorem put_any (v : Pv) (p : Pg) (xa : Option Addr) (xn xc : Nat) (key : List Nat) (ya : Option Addr) (yn yc : Nat) (val : List Nat) (w : World) (h : IsG w v p) (hc : FewP v) (hk : IsB w xa xn xc key) (hv : IsB w ya yn yc val) :
    Calls Try.prog 25 #[.agg (pgc p.leaf v), .slice xa xn xc, .slice ya yn yc] w fun e w' => ∃ v', e = .returned (.tuple #[.agg (pgc (putR p key val).1.leaf v'), .int .i64 (putR p key val).2]) ∧ NwG w' (w.heap.size + 1) v' (putR p key val).1 ∧ Below w.heap.size w w' := by
  have HB0 : Hid (Below w.heap.size w ((w.alloc (.cells (pgc p.leaf v) 25)).alloc (.cells (pgc false Pv0) 25))) := hide (((Below.refl _ w).alloc (Nat.le_refl _) _).alloc (by simp) _)
  have HX : Hid (BlkG ((w.alloc (.cells (pgc p.leaf v) 25)).alloc (.cells (pgc false Pv0) 25)) w.heap.size p.leaf v) := hide (by
    refine (((Below.refl (w.heap.size + 1) (w.alloc (.cells (pgc p.leaf v) 25))).alloc (by simp) _).block _ (by omega)).trans (heap_alloc_new _ _))
  have HY : Hid (BlkG ((w.alloc (.cells (pgc p.leaf v) 25)).alloc (.cells (pgc false Pv0) 25)) (w.heap.size + 1) false Pv0) := hide (by
    have := heap_alloc_new (w.alloc (.cells (pgc p.leaf v) 25)) (.cells (pgc false Pv0) 25)
    rwa [show (w.alloc (.cells (pgc p.leaf v) 25)).heap.size = w.heap.size + 1 by simp] at this)
  have HCK := hide (checkLeaf_any v p _ (h.below HB0.out) hc)
  have HG := hide h
  have HK := hide hk
  have HV := hide hv
  have HXN : Hid (key.length = xn) := hide hk.1
  have HYN : Hid (val.length = yn) := hide hv.1
  obtain ⟨lf, hlf⟩ : ∃ lf, p.leaf = lf := ⟨_, rfl⟩
  rw [hlf] at HB0 HX HY HCK
  rw [hlf]
  have HLF := hide hlf
  clear hlf h hc hk hv
  obtain ⟨E, hE0⟩ : ∃ E, leafE p = E := ⟨_, rfl⟩
  rw [hE0] at HCK
  have HE0 := hide hE0
  clear hE0
  obtain ⟨ka, kn, kc, va, vn, vc, ia, inn, ic⟩ := v
  try dsimp only at HB0 HX HCK HY
  try dsimp only
  obtain ⟨q0, q1, q2, q3⟩ := HX.out.cells
  try dsimp only at q0 q1 q2 q3
  unfold Pv0 at HB0 HX HY HCK q0 q1 q2 q3
  try dsimp only at HB0 HX HY HCK q0 q1 q2 q3
  go_enter Try.func25, Try.ntmps25
  go_wp2_with fail
  generalize hV0 : ((w.alloc (.cells #[.bool lf, .slice ka kn kc, .slice va vn vc, .slice ia inn ic] 25)).alloc (.cells #[.bool false, .slice none 0 0, .slice none 0 0, .slice none 0 0] 25)) = V0 at *
  refine HCK.out.mono ?_
  rintro e w1 ⟨rfl, hb1⟩
  have HB1 : Hid (Below w.heap.size w w1) := hide (HB0.out.trans (hb1.mono HB0.out.size))
  have HX1 : Hid (w1.heap[w.heap.size]? = some (.cells #[.bool lf, .slice ka kn kc, .slice va vn vc, .slice ia inn ic] 25 (0, 0))) := hide ((hb1.block _ (heap_ltN HX.out)).trans HX.out)
  have HY1 : Hid (w1.heap[w.heap.size + 1]? = some (.cells #[.bool false, .slice none 0 0, .slice none 0 0, .slice none 0 0] 25 (0, 0))) := hide ((hb1.block _ (heap_ltN HY.out)).trans HY.out)
  clear hb1 HCK q0 q1 q2 q3 hV0 HX HY HB0
  have q1 : w1.cell? ⟨w.heap.size, 1, none⟩ = some (.slice ka kn kc) := cell_blkN HX1.out rfl
  have q2 : w1.cell? ⟨w.heap.size, 2, none⟩ = some (.slice va vn vc) := cell_blkN HX1.out rfl
  have y0 : w1.cell? ⟨w.heap.size + 1, 0, none⟩ = some (.bool false) := cell_blkN HY1.out rfl
  have y1 : w1.cell? ⟨w.heap.size + 1, 1, none⟩ = some (.slice none 0 0) := cell_blkN HY1.out rfl
  have y2 : w1.cell? ⟨w.heap.size + 1, 2, none⟩ = some (.slice none 0 0) := cell_blkN HY1.out rfl
  have y3 : w1.cell? ⟨w.heap.size + 1, 3, none⟩ = some (.slice none 0 0) := cell_blkN HY1.out rfl
  have f0 := frzN HY1.out 0
  have f1 := frzN HY1.out 1
  have f2 := frzN HY1.out 2
  have f3 := frzN HY1.out 3
  by_cases hE : E = 0
  · subst hE
    by_cases hl1 : 256 < xn
    · have hl1I : (256 : Int) < (xn : Int) := by omega
      have HE : Hid (putR p key val = (Pg0, 4)) := hide (by unfold putR; rw [if_pos HE0.out, if_pos (Or.inl (by rw [HXN.out]; exact hl1))])
      go_wp2
      (try simp only [Exit.inBlock, Exit.then])
      refine bodyPost_ret (resP2 rfl _ _ (w.heap.size + 1) #[.bool false, .slice none 0 0, .slice none 0 0, .slice none 0 0] (blk4 HY1.out _ _ _ _) rfl rfl) rfl ?_
      exact ⟨Pv0, by rw [HE.out]; rfl, by rw [HE.out]; exact nwG_0 _ _, below4 HB1.out (by omega) _ _ _ _⟩
    by_cases hl2 : 512 < yn
    · have hl1I : ¬ (256 : Int) < (xn : Int) := by omega
      have hl2I : (512 : Int) < (yn : Int) := by omega
      have HE : Hid (putR p key val = (Pg0, 4)) := hide (by unfold putR; rw [if_pos HE0.out, if_pos (Or.inr (by rw [HYN.out]; exact hl2))])
      go_wp2
      (try simp only [Exit.inBlock, Exit.then])
      refine bodyPost_ret (resP2 rfl _ _ (w.heap.size + 1) #[.bool false, .slice none 0 0, .slice none 0 0, .slice none 0 0] (blk4 HY1.out _ _ _ _) rfl rfl) rfl ?_
      exact ⟨Pv0, by rw [HE.out]; rfl, by rw [HE.out]; exact nwG_0 _ _, below4 HB1.out (by omega) _ _ _ _⟩
    have hl1I : ¬ (256 : Int) < (xn : Int) := by omega
    have hl2I : ¬ (512 : Int) < (yn : Int) := by omega
    have HLEN : Hid (¬ (256 < key.length ∨ 512 < val.length)) := hide (by rw [HXN.out, HYN.out]; omega)
    have HCE : Hid (checkE p = 0) := hide (leafE_0 HE0.out).1
    have HKN : Hid (p.keys.length = kn) := hide HG.out.keys.1
    have HVN : Hid (p.vals.length = vn) := hide HG.out.vals.1
    have hkn : kn ≤ 4096 := by have := (check_few HCE.out).1; rw [HKN.out] at this; exact this
    have hvn : vn ≤ 4096 := by have := (check_few HCE.out).2.1; rw [HVN.out] at this; exact this
    have HVK : Hid (vn = kn) := hide (by have := leaf_lens HE0.out; rw [HKN.out, HVN.out] at this; exact this)
    have HC1 : Hid (∀ W : World, Below w.heap.size w W → Calls Try.prog 49 #[.slice ka kn kc] W fun e w' => ∃ sv, e = .returned (.slice (some ⟨W.heap.size, 0, none⟩) kn kn) ∧ OwnL w' W.heap.size kn sv p.keys ∧ Below W.heap.size W w') := hide (fun W hW => clones_any ka kn kc p.keys W (HG.out.keys.below hW) (by omega) (fun b hb => Nat.le_trans ((kind_short (check_kind HCE.out)).1 b hb) (by decide)))
    have HC2 : Hid (∀ W : World, Below w.heap.size w W → Calls Try.prog 49 #[.slice va vn vc] W fun e w' => ∃ sv, e = .returned (.slice (some ⟨W.heap.size, 0, none⟩) vn vn) ∧ OwnL w' W.heap.size vn sv p.vals ∧ Below W.heap.size W w') := hide (fun W hW => clones_any va vn vc p.vals W (HG.out.vals.below hW) (by omega) (fun b hb => Nat.le_trans ((kind_short (check_kind HCE.out)).2.1 b hb) (by decide)))
    have HS : Hid (∀ W : World, Below w1.heap.size w1 W → W.cell? ⟨w.heap.size, 1, none⟩ = some (.slice ka kn kc) ∧ W.cell? ⟨w.heap.size, 2, none⟩ = some (.slice va vn vc)) := hide (fun W hW => ⟨cell_blkN ((hW.block _ (heap_ltN HX1.out)).trans HX1.out) rfl, cell_blkN ((hW.block _ (heap_ltN HX1.out)).trans HX1.out) rfl⟩)
    have HW1 : Hid (w.heap.size + 1 < w1.heap.size) := hide (heap_ltN HY1.out)
    clear hl1 hl2
    have T1 := HC1.out _ HB1.out.drew
    have T2 : ∀ w2 : World, Below w1.drew.heap.size w1.drew w2 → Hid (Below w1.heap.size w1 w2) := fun w2 hb2 => hide ((Below.refl _ w1).drew.trans hb2)
    have HT1 := hide T1
    have HT2 := hide T2
    clear T1 T2
    go_wp2_with fail
    go_region_held (fun W : World => W.cell? ⟨w.heap.size, 1, none⟩ = some (.slice ka kn kc) ∧ W.cell? ⟨w.heap.size, 2, none⟩ = some (.slice va vn vc)) (first | with_reducible exact HS.out _ (Below.refl _ _).drew | with_reducible exact HS.out _ HQ2.out | with_reducible exact HS.out _ HQ1.out) (first | (go_at_call 49; with_reducible refine HT1.out.mono ?_; rintro e w2 ⟨sv1, rfl, ho1, hb2⟩; have HQ1 := HT2.out w2 hb2) | (go_at_call 49; with_reducible refine (HC2.out _ (HB1.out.trans (HQ1.out.mono HB1.out.size))).mono ?_; rintro e w3 ⟨sv2, rfl, ho2, hb3⟩; have HQ2 : Hid (Below w1.heap.size w1 w3) := hide (HQ1.out.trans (hb3.mono HQ1.out.size))))
    have HI1 : Hid (OwnL w2 w1.heap.size kn sv1 p.keys) := hide ho1
    have HO2 : Hid (OwnL w3 w2.heap.size vn sv2 p.vals) := hide ho2
    have HM3 : Hid (Below w2.heap.size w2 w3) := hide hb3
    have HO1 : Hid (OwnL w3 w1.heap.size kn sv1 p.keys) := hide (HI1.out.below hb3)
    have HB3 : Hid (Below w.heap.size w w3) := hide (HB1.out.trans (HQ2.out.mono HB1.out.size))
    have HPL := hide (place_any (some ⟨w1.heap.size, 0, none⟩) kn kn p.keys xa xn xc key w3 (by have := HO1.out.isL; rw [HKN.out] at this; exact this) (HK.out.below HB3.out) (check_srt HCE.out) (by omega))
    clear ho1 ho2 hb2 hb3 q1 q2 HC1 HC2 HS HT1 HT2 y0 y1 y2 y3 f0 f1 f2 f3 HX1
    obtain ⟨lo, hlo⟩ : ∃ lo, lowK p.keys key = lo := ⟨_, rfl⟩
    obtain ⟨is, his⟩ : ∃ is, hasK p.keys key = is := ⟨_, rfl⟩
    rw [hlo, his] at HPL
    have hlk : lo ≤ kn := by rw [← hlo, ← HKN.out]; exact lowK_le _ _
    have HLO := hide hlo
    have HIS := hide his
    clear hlo his
    go_wp2_with fail
    refine HPL.out.mono ?_
    rintro e w4 ⟨rfl, hb4⟩
    have HM4 : Hid (Below w3.heap.size w3 w4) := hide hb4
    have HB4 : Hid (Below w.heap.size w w4) := hide (HB3.out.trans (hb4.mono HB3.out.size))
    clear hb4 HPL
    cases is with
    | true =>
      have hlt : lo < kn := by
        have := HIS.out
        unfold hasK at this
        rw [Bool.and_eq_true] at this
        have := of_decide_eq_true this.1
        rw [HLO.out, HKN.out] at this
        exact this
      have hltv : lo < vn := by rw [HVK.out]; exact hlt
      have hltI : (lo : Int) < (vn : Int) := by omega
      have hlt0 : (0 : Int) ≤ (lo : Int) := by omega
      have HCL := hide (cloneF_any ya yn yc val w4 (HV.out.below HB4.out) (by omega))
      go_wp2_with fail
      refine HCL.out.mono ?_
      rintro e w5 ⟨vv, rfl, hr5, hb5⟩
      have HR5 := hide hr5
      have HM5 : Hid (Below w4.heap.size w4 w5) := hide hb5
      have HM35 : Hid (Below w3.heap.size w3 w5) := hide (HM4.out.trans (hb5.mono HM4.out.size))
      clear hr5 hb5 HCL
      obtain ⟨a5, c5, rfl⟩ := own_formN HR5.out
      have HX5 : Hid (w5.heap[w2.heap.size]? = some (.cells sv2.toArray 26 (0, 0))) := hide ((HO2.out.below HM35.out).full HVN.out)
      have HS5 : Hid (sv2.length = vn) := hide (HO2.out.els.1.trans HVN.out)
      have g5 : w5.cell? ⟨w2.heap.size, lo, none⟩ = some (sv2[lo]'(by rw [HS5.out]; exact hltv)) := cell_blkN HX5.out (by rw [List.getElem?_toArray, List.getElem?_eq_getElem])
      have f5 := frzN HX5.out lo
      generalize sv2[lo]'(by rw [HS5.out]; exact hltv) = old at g5
      have HM26 : Hid (Below w2.heap.size w2 (w5.setCell ⟨w2.heap.size, lo, none⟩ (.slice a5 yn c5))) := hide ((HM3.out.trans (HM35.out.mono HM3.out.size)).setCell (Nat.le_refl _) _)
      have HNW : Hid (NwG (w5.setCell ⟨w2.heap.size, lo, none⟩ (.slice a5 yn c5)) (w.heap.size + 1) ⟨some ⟨w1.heap.size, 0, none⟩, kn, kn, some ⟨w2.heap.size, 0, none⟩, vn, vn, none, 0, 0⟩ ⟨true, p.keys, p.vals.set lo val, []⟩) := hide (by
        have hkept : ∀ b, b ≠ w2.heap.size → (w5.setCell ⟨w2.heap.size, lo, none⟩ (.slice a5 yn c5)).heap[b]? = w5.heap[b]? := fun b hb => Below.heap_setCell _ _ _ _ hb
        have hsz : w5.heap.size ≤ (w5.setCell ⟨w2.heap.size, lo, none⟩ (.slice a5 yn c5)).heap.size := by simp [World.setCell]
        have h12 := HQ1.out.size
        have h24 : w2.heap.size < w4.heap.size := Nat.lt_of_lt_of_le (heap_ltN (HO2.out.full HVN.out)) HM4.out.size
        have hw1 := HW1.out
        refine ⟨?_, ?_, isK_nil _, nofun⟩
        · have hk := HI1.out.full HKN.out
          rw [← List.append_nil sv1] at hk
          have h0 := nwL_row (G := w.heap.size + 1) (c := kn) hk (HI1.out.els.mono (by omega)) (by omega) (by rw [HKN.out]; exact Nat.le_refl _) (by unfold maxLen; omega)
          rw [HKN.out] at h0
          exact h0.below HM26.out
        · obtain ⟨a', c', e, hI⟩ := owns_isB HR5.out HV.out.2.2.2.1
          cases e
          have hfar : ∀ b off, a5 = some ⟨b, off, none⟩ → w4.heap.size ≤ b := fun b off e => (HR5.out.lt b (by rw [e]; rfl)).1
          have hr6 := blk_setN (j := lo) HX5.out (.slice a5 yn c5)
          rw [List.setIfInBounds_toArray, ← List.append_nil (sv2.set lo (.slice a5 yn c5))] at hr6
          have he6 := (((HO2.out.below HM35.out).els.turned hsz hkept).set lo (hI.keptN hsz (fun b off e => hkept b (by have := hfar b off e; omega))) (fun b off e => ⟨by have := hfar b off e; omega, by
            have h8 := hfar b off e
            subst e
            exact (own_fzB HR5.out).kept (hkept b (by omega))⟩))
          have h0 := nwL_row (G := w.heap.size + 1) (c := vn) hr6 (he6.mono (by omega)) (by omega) (by rw [List.length_set, HVN.out]; exact Nat.le_refl _) (by unfold maxLen; omega)
          rw [List.length_set, HVN.out] at h0
          exact h0)
      have HPQ : Hid (putP p key val = ⟨true, p.keys, p.vals.set lo val, []⟩) := hide (by unfold putP; rw [if_pos HIS.out, HLO.out])
      have HCK2 := hide (checked_any ⟨some ⟨w1.heap.size, 0, none⟩, kn, kn, some ⟨w2.heap.size, 0, none⟩, vn, vn, none, 0, 0⟩ ⟨true, p.keys, p.vals.set lo val, []⟩ _ HNW.out.is ⟨by show kn ≤ _; omega, by show vn ≤ _; omega, Nat.zero_le _⟩)
      try dsimp only at HCK2
      have HB6 : Hid (Below w1.heap.size w1 (w5.setCell ⟨w2.heap.size, lo, none⟩ (.slice a5 yn c5))) := hide (HQ1.out.trans (HM26.out.mono HQ1.out.size))
      clear HR5 HX5
      go_wp2_with fail
      refine HCK2.out.mono ?_
      rintro e w7 ⟨rfl, hb7⟩
      have HQF : Hid (Below w1.heap.size w1 w7) := hide (HB6.out.trans (hb7.mono HB6.out.size))
      have HBF : Hid (Below w.heap.size w w7) := hide (HB1.out.trans (HQF.out.mono HB1.out.size))
      have HEND := hide (put_end HE0.out HLEN.out HPQ.out rfl (HNW.out.below hb7))
      clear hb7 HCK2 HNW g5 f5
      generalize ckP (Pg.mk true p.keys (p.vals.set lo val) []) ⟨some ⟨w1.heap.size, 0, none⟩, kn, kn, some ⟨w2.heap.size, 0, none⟩, vn, vn, none, 0, 0⟩ = R2 at *
      obtain ⟨bb, ka', kn', kc', va', vn', vc', ia', in', ic'⟩ := R2
      try dsimp only at HEND
      have HYF : Hid (w7.heap[w.heap.size + 1]? = some (.cells #[.bool false, .slice none 0 0, .slice none 0 0, .slice none 0 0] 25 (0, 0))) := hide ((HQF.out.block _ HW1.out).trans HY1.out)
      have y0 : w7.cell? ⟨w.heap.size + 1, 0, none⟩ = some (.bool false) := cell_blkN HYF.out rfl
      have y1 : w7.cell? ⟨w.heap.size + 1, 1, none⟩ = some (.slice none 0 0) := cell_blkN HYF.out rfl
      have y2 : w7.cell? ⟨w.heap.size + 1, 2, none⟩ = some (.slice none 0 0) := cell_blkN HYF.out rfl
      have y3 : w7.cell? ⟨w.heap.size + 1, 3, none⟩ = some (.slice none 0 0) := cell_blkN HYF.out rfl
      have f0 := frzN HYF.out 0
      have f1 := frzN HYF.out 1
      have f2 := frzN HYF.out 2
      have f3 := frzN HYF.out 3
      go_wp2
      (try simp only [Exit.inBlock, Exit.then])
      refine bodyPost_ret (resP2 rfl _ _ (w.heap.size + 1) #[.bool bb, .slice ka' kn' kc', .slice va' vn' vc', .slice ia' in' ic'] (blk4 HYF.out _ _ _ _) rfl rfl) rfl ?_
      exact ⟨⟨ka', kn', kc', va', vn', vc', ia', in', ic'⟩, by rw [HEND.out.2.1, HEND.out.2.2]; rfl, HEND.out.1.set4 (Nat.le_refl _) _ _ _ _, below4 HBF.out (by omega) _ _ _ _⟩
    | false =>
      have hlv : lo ≤ vn := by rw [HVK.out]; exact hlk
      have HCL := hide (cloneF_any xa xn xc key w4 (HK.out.below HB4.out) (by omega))
      go_wp2_with fail
      refine HCL.out.mono ?_
      rintro e w5 ⟨vv, rfl, hr5, hb5⟩
      have HR5 := hide hr5
      have HM35 : Hid (Below w3.heap.size w3 w5) := hide (HM4.out.trans (hb5.mono HM4.out.size))
      have HM45 : Hid (Below w4.heap.size w4 w5) := hide hb5
      clear hr5 hb5 HCL
      obtain ⟨a5, c5, rfl⟩ := own_formN HR5.out
      have HM3W : Hid (Below w3.heap.size w3 (w5.alloc (.cells #[.slice a5 xn c5] 26))) := hide (HM35.out.alloc HM35.out.size _)
      have HSW : Hid ((w5.alloc (.cells #[.slice a5 xn c5] 26)).heap.size = w5.heap.size + 1) := hide (by simp)
      have HIN := hide (ins_any w1.heap.size kn lo w5.heap.size sv1 (.slice a5 xn c5) (w5.alloc (.cells #[.slice a5 xn c5] 26)) ((HO1.out.below HM3W.out).full HKN.out) (HO1.out.els.1.trans HKN.out) hlk (by omega) (cell_blkN (heap_alloc_new _ _) rfl) rfl HO1.out.els.one)
      rw [HSW.out] at HIN
      go_wp2_with fail
      refine HIN.out.mono ?_
      rintro e w6 ⟨c6, rfl, hc6, hm6, ⟨xs6, hx6, hr6⟩, hb6⟩
      have HB56 : Hid (Below w5.heap.size w5 w6) := hide (((Below.refl _ w5).alloc (Nat.le_refl _) _).trans (hb6.mono (by omega)))
      have HM36 : Hid (Below w3.heap.size w3 w6) := hide (HM35.out.trans (HB56.out.mono HM35.out.size))
      have HB6 : Hid (Below w.heap.size w w6) := hide (HB3.out.trans (HM36.out.mono HB3.out.size))
      have HNK : Hid (NwL w6 (w.heap.size + 1) (some ⟨w5.heap.size + 1, 0, none⟩) (kn + 1) c6 (insL p.keys lo key)) := hide (by
        have hw1 := HW1.out
        have h13 : w1.heap.size ≤ w4.heap.size := Nat.le_trans HQ2.out.size HM4.out.size
        have h45 := HM45.out.size
        obtain ⟨a', c', e, hI⟩ := owns_isB HR5.out HK.out.2.2.2.1
        cases e
        have hfar : ∀ b off, a5 = some ⟨b, off, none⟩ → w4.heap.size ≤ b := fun b off e => (HR5.out.lt b (by rw [e]; rfl)).1
        have he := ((HO1.out.below HM36.out).els.mono (g' := w.heap.size + 1) (by omega)).ins (i := lo) (by rw [HKN.out]; exact hlk) (hI.below HB56.out) (fun b off e => ⟨by have := hfar b off e; omega, by
          subst e
          exact (own_fzB HR5.out).kept (HB56.out.block b (own_fzB HR5.out).lt)⟩)
        have h0 := nwL_row (c := c6) hr6 he (by omega) (by rw [insL_len, HKN.out]; exact hc6) hm6
        rw [insL_len, HKN.out] at h0
        exact h0)
      clear HIN hr6 hb6 hx6 HR5
      have HCL := hide (cloneF_any ya yn yc val w6 (HV.out.below HB6.out) (by omega))
      go_wp2_with fail
      refine HCL.out.mono ?_
      rintro e w7 ⟨vv, rfl, hr7, hb7⟩
      have HR7 := hide hr7
      have HM67 : Hid (Below w6.heap.size w6 w7) := hide hb7
      have HM37 : Hid (Below w3.heap.size w3 w7) := hide (HM36.out.trans (hb7.mono HM36.out.size))
      clear hr7 hb7 HCL
      obtain ⟨a7, c7, rfl⟩ := own_formN HR7.out
      have HM7W : Hid (Below w3.heap.size w3 (w7.alloc (.cells #[.slice a7 yn c7] 26))) := hide (HM37.out.alloc HM37.out.size _)
      have HSV : Hid ((w7.alloc (.cells #[.slice a7 yn c7] 26)).heap.size = w7.heap.size + 1) := hide (by simp)
      have HIN := hide (ins_any w2.heap.size vn lo w7.heap.size sv2 (.slice a7 yn c7) (w7.alloc (.cells #[.slice a7 yn c7] 26)) ((HO2.out.below HM7W.out).full HVN.out) (HO2.out.els.1.trans HVN.out) hlv (by omega) (cell_blkN (heap_alloc_new _ _) rfl) rfl HO2.out.els.one)
      rw [HSV.out] at HIN
      go_wp2_with fail
      refine HIN.out.mono ?_
      rintro e w8 ⟨c8, rfl, hc8, hm8, ⟨xs8, hx8, hr8⟩, hb8⟩
      have HB78 : Hid (Below w7.heap.size w7 w8) := hide (((Below.refl _ w7).alloc (Nat.le_refl _) _).trans (hb8.mono (by omega)))
      have HM38 : Hid (Below w3.heap.size w3 w8) := hide (HM37.out.trans (HB78.out.mono HM37.out.size))
      have HNW : Hid (NwG w8 (w.heap.size + 1) ⟨some ⟨w5.heap.size + 1, 0, none⟩, kn + 1, c6, some ⟨w7.heap.size + 1, 0, none⟩, vn + 1, c8, none, 0, 0⟩ ⟨true, insL p.keys lo key, insL p.vals lo val, []⟩) := hide (by
        have hw1 := HW1.out
        have h12 := HQ1.out.size
        have h13 : w1.heap.size ≤ w6.heap.size := Nat.le_trans HQ2.out.size HM36.out.size
        have h67 := HM67.out.size
        refine ⟨HNK.out.below (HM67.out.trans (HB78.out.mono HM67.out.size)), ?_, isK_nil _, nofun⟩
        obtain ⟨a', c', e, hI⟩ := owns_isB HR7.out HV.out.2.2.2.1
        cases e
        have hfar : ∀ b off, a7 = some ⟨b, off, none⟩ → w6.heap.size ≤ b := fun b off e => (HR7.out.lt b (by rw [e]; rfl)).1
        have he := ((HO2.out.below HM38.out).els.mono (g' := w.heap.size + 1) (by omega)).ins (i := lo) (by rw [HVN.out]; exact hlv) (hI.below HB78.out) (fun b off e => ⟨by have := hfar b off e; omega, by
          subst e
          exact (own_fzB HR7.out).kept (HB78.out.block b (own_fzB HR7.out).lt)⟩)
        have h0 := nwL_row (c := c8) hr8 he (by omega) (by rw [insL_len, HVN.out]; exact hc8) hm8
        rw [insL_len, HVN.out] at h0
        exact h0)
      clear HIN hr8 hb8 hx8 HR7 HNK
      have HPQ : Hid (putP p key val = ⟨true, insL p.keys lo key, insL p.vals lo val, []⟩) := hide (by unfold putP; rw [if_neg (by rw [HIS.out]; exact Bool.false_ne_true), HLO.out])
      have HCK2 := hide (checked_any ⟨some ⟨w5.heap.size + 1, 0, none⟩, kn + 1, c6, some ⟨w7.heap.size + 1, 0, none⟩, vn + 1, c8, none, 0, 0⟩ ⟨true, insL p.keys lo key, insL p.vals lo val, []⟩ _ HNW.out.is ⟨by show kn + 1 ≤ _; omega, by show vn + 1 ≤ _; omega, Nat.zero_le _⟩)
      try dsimp only at HCK2
      go_wp2_with fail
      refine HCK2.out.mono ?_
      rintro e w9 ⟨rfl, hb9⟩
      have HQF : Hid (Below w1.heap.size w1 w9) := hide (HQ2.out.trans ((HM38.out.trans (hb9.mono HM38.out.size)).mono HQ2.out.size))
      have HBF : Hid (Below w.heap.size w w9) := hide (HB1.out.trans (HQF.out.mono HB1.out.size))
      have HEND := hide (put_end HE0.out HLEN.out HPQ.out rfl (HNW.out.below hb9))
      clear hb9 HCK2 HNW
      generalize ckP (Pg.mk true (insL p.keys lo key) (insL p.vals lo val) []) ⟨some ⟨w5.heap.size + 1, 0, none⟩, kn + 1, c6, some ⟨w7.heap.size + 1, 0, none⟩, vn + 1, c8, none, 0, 0⟩ = R2 at *
      obtain ⟨bb, ka', kn', kc', va', vn', vc', ia', in', ic'⟩ := R2
      try dsimp only at HEND
      have HYF : Hid (w9.heap[w.heap.size + 1]? = some (.cells #[.bool false, .slice none 0 0, .slice none 0 0, .slice none 0 0] 25 (0, 0))) := hide ((HQF.out.block _ HW1.out).trans HY1.out)
      have y0 : w9.cell? ⟨w.heap.size + 1, 0, none⟩ = some (.bool false) := cell_blkN HYF.out rfl
      have y1 : w9.cell? ⟨w.heap.size + 1, 1, none⟩ = some (.slice none 0 0) := cell_blkN HYF.out rfl
      have y2 : w9.cell? ⟨w.heap.size + 1, 2, none⟩ = some (.slice none 0 0) := cell_blkN HYF.out rfl
      have y3 : w9.cell? ⟨w.heap.size + 1, 3, none⟩ = some (.slice none 0 0) := cell_blkN HYF.out rfl
      have f0 := frzN HYF.out 0
      have f1 := frzN HYF.out 1
      have f2 := frzN HYF.out 2
      have f3 := frzN HYF.out 3
      go_wp2
      (try simp only [Exit.inBlock, Exit.then])
      refine bodyPost_ret (resP2 rfl _ _ (w.heap.size + 1) #[.bool bb, .slice ka' kn' kc', .slice va' vn' vc', .slice ia' in' ic'] (blk4 HYF.out _ _ _ _) rfl rfl) rfl ?_
      exact ⟨⟨ka', kn', kc', va', vn', vc', ia', in', ic'⟩, by rw [HEND.out.2.1, HEND.out.2.2]; rfl, HEND.out.1.set4 (Nat.le_refl _) _ _ _ _, below4 HBF.out (by omega) _ _ _ _⟩
  · have hE2 : (E == 0) = false := by simpa using hE
    have hE4 : (E != 0) = true := by simpa using hE
    have HE : Hid (putR p key val = (Pg0, E)) := hide (by unfold putR; rw [HE0.out, if_neg hE])
    go_wp2
    (try simp only [Exit.inBlock, Exit.then])
    refine bodyPost_ret (resP2 rfl _ _ (w.heap.size + 1) #[.bool false, .slice none 0 0, .slice none 0 0, .slice none 0 0] (blk4 HY1.out _ _ _ _) rfl rfl) rfl ?_
    exact ⟨Pv0, by rw [HE.out]; rfl, by rw [HE.out]; exact nwG_0 _ _, below4 HB1.out (by omega) _ _ _ _⟩
end Go.Proofs.Ytebikoekpbnpbaa
