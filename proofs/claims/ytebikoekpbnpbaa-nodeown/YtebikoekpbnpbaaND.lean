/- leaves and inner pages -/
import Derived.Test.YtebikoekpbnpbaaNB
namespace Go.Proofs.Ytebikoekpbnpbaa
open Go.RowKit Cod
set_option maxRecDepth 40000
set_option linter.unusedVariables false
set_option linter.unusedSimpArgs false
set_option maxHeartbeats 2000000 in
theorem isLeaf_any (v : Pv) (p : Pg) (w : World) (h : IsG w v p) : Calls Try.prog 42 #[.agg (pgc p.leaf v)] w fun e w' => e = .returned (.bool (leafB p)) ∧ Below w.heap.size w w' := by
  obtain ⟨ka, kn, kc, va, vn, vc, ia, inn, ic⟩ := v
  obtain ⟨lf, K, L, J⟩ := p
  have hK := h.keys
  have hV := h.vals
  have hJ := h.kids
  have HN : Hid (K.length = kn ∧ L.length = vn ∧ J.length = inn) := hide ⟨hK.1, hV.1, hJ.1⟩
  have HB0 : Hid (Below w.heap.size w (w.alloc (.cells #[.bool lf, .slice ka kn kc, .slice va vn vc, .slice ia inn ic] 25))) := hide ((Below.refl _ w).alloc (Nat.le_refl _) _)
  have HX : Hid ((w.alloc (.cells #[.bool lf, .slice ka kn kc, .slice va vn vc, .slice ia inn ic] 25)).heap[w.heap.size]? = some (.cells #[.bool lf, .slice ka kn kc, .slice va vn vc, .slice ia inn ic] 25 (0, 0))) := hide (heap_alloc_new _ _)
  have HAK := hide (areKeys_any ka kn kc K _ (hK.below HB0.out))
  have HAS : Hid (∀ W : World, Below w.heap.size w W → Calls Try.prog 76 #[.slice va vn vc, .int .i64 ((512 : Nat) : Nat)] W fun e w' => e = .returned (.bool (shortB 512 L)) ∧ w' = W) := hide (fun W hW => areShort_any va vn vc 512 L W (hV.below hW) (by omega))
  have HR : Hid (leafB ⟨lf, K, L, J⟩ = (lf && decide (L.length = K.length) && decide (J.length = 0) && keysB K && shortB 512 L)) := hide rfl
  have q0 : (w.alloc (.cells #[.bool lf, .slice ka kn kc, .slice va vn vc, .slice ia inn ic] 25)).cell? ⟨w.heap.size, 0, none⟩ = some (.bool lf) := cell_blkN HX.out rfl
  have q1 : (w.alloc (.cells #[.bool lf, .slice ka kn kc, .slice va vn vc, .slice ia inn ic] 25)).cell? ⟨w.heap.size, 1, none⟩ = some (.slice ka kn kc) := cell_blkN HX.out rfl
  have q2 : (w.alloc (.cells #[.bool lf, .slice ka kn kc, .slice va vn vc, .slice ia inn ic] 25)).cell? ⟨w.heap.size, 2, none⟩ = some (.slice va vn vc) := cell_blkN HX.out rfl
  have q3 : (w.alloc (.cells #[.bool lf, .slice ka kn kc, .slice va vn vc, .slice ia inn ic] 25)).cell? ⟨w.heap.size, 3, none⟩ = some (.slice ia inn ic) := cell_blkN HX.out rfl
  rw [HN.out.1, HN.out.2.1, HN.out.2.2] at HR
  generalize leafB ⟨lf, K, L, J⟩ = R at *
  generalize keysB K = R1 at *
  generalize shortB 512 L = R2 at *
  clear h hK hV hJ
  dsimp only
  cases lf with
  | false =>
    have HE : Hid (R = false) := hide (by rw [HR.out]; rfl)
    go_enter Try.func42, Try.ntmps42
    go_wp2
    go_ret
    exact ⟨by rw [HE.out]; rfl, HB0.out⟩
  | true =>
    by_cases h1 : vn = kn
    · have g1 : ((vn : Int) == (kn : Int)) = true := by simp; omega
      by_cases h2 : inn = 0
      · have g2 : ((inn : Int) == 0) = true := by simp; omega
        have HE : Hid (R = (R1 && R2)) := hide (by rw [HR.out, decide_eq_true h1, decide_eq_true h2]; rfl)
        clear HR h1 h2
        go_enter Try.func42, Try.ntmps42
        go_wp2_with fail
        generalize hV0 : (w.alloc (.cells #[.bool true, .slice ka kn kc, .slice va vn vc, .slice ia inn ic] 25)) = V0 at *
        refine HAK.out.mono ?_
        rintro e w2 ⟨rfl, hb2⟩
        have HB2 : Hid (Below w.heap.size w w2) := hide (HB0.out.trans (hb2.mono HB0.out.size))
        have HX2 : Hid (w2.heap[w.heap.size]? = some (.cells #[.bool true, .slice ka kn kc, .slice va vn vc, .slice ia inn ic] 25 (0, 0))) := hide ((hb2.block _ (heap_ltN HX.out)).trans HX.out)
        have r2 : w2.cell? ⟨w.heap.size, 2, none⟩ = some (.slice va vn vc) := cell_blkN HX2.out rfl
        clear hb2 HAK q0 q1 q2 q3
        cases R1 with
        | false =>
          go_wp2
          go_ret
          exact ⟨by rw [HE.out]; rfl, HB2.out⟩
        | true =>
          have HA2 := hide (HAS.out w2 HB2.out)
          go_wp2_with fail
          refine HA2.out.mono ?_
          rintro e w3 ⟨rfl, rfl⟩
          go_wp2
          go_ret
          exact ⟨by rw [HE.out]; simp, HB2.out⟩
      · have g2 : ((inn : Int) == 0) = false := by simp; omega
        have HE : Hid (R = false) := hide (by rw [HR.out, decide_eq_false h2]; simp)
        clear HR h1
        go_enter Try.func42, Try.ntmps42
        go_wp2
        go_ret
        exact ⟨by rw [HE.out]; rfl, HB0.out⟩
    · have g1 : ((vn : Int) == (kn : Int)) = false := by simp; omega
      have HE : Hid (R = false) := hide (by rw [HR.out, decide_eq_false h1]; simp)
      clear HR
      go_enter Try.func42, Try.ntmps42
      go_wp2
      go_ret
      exact ⟨by rw [HE.out]; rfl, HB0.out⟩
set_option maxHeartbeats 2000000 in
theorem isInner_any (v : Pv) (p : Pg) (w : World) (h : IsG w v p) : Calls Try.prog 43 #[.agg (pgc p.leaf v)] w fun e w' => e = .returned (.bool (innerB p)) ∧ Below w.heap.size w w' := by
  obtain ⟨ka, kn, kc, va, vn, vc, ia, inn, ic⟩ := v
  obtain ⟨lf, K, L, J⟩ := p
  have hK := h.keys
  have hV := h.vals
  have hJ := h.kids
  have hkc : kn ≤ 9223372036854775806 ∨ kn = 9223372036854775807 := by have h1 := hK.2.1; have h2 : kc ≤ 9223372036854775807 := hK.2.2.1; dsimp only at h1 h2; omega
  have hic : inn ≤ 9223372036854775807 := by have h1 := hJ.2.1; have h2 : ic ≤ 9223372036854775807 := hJ.2.2.1; dsimp only at h1 h2; omega
  have HN : Hid (K.length = kn ∧ L.length = vn ∧ J.length = inn) := hide ⟨hK.1, hV.1, hJ.1⟩
  have HB0 : Hid (Below w.heap.size w (w.alloc (.cells #[.bool lf, .slice ka kn kc, .slice va vn vc, .slice ia inn ic] 25))) := hide ((Below.refl _ w).alloc (Nat.le_refl _) _)
  have HX : Hid ((w.alloc (.cells #[.bool lf, .slice ka kn kc, .slice va vn vc, .slice ia inn ic] 25)).heap[w.heap.size]? = some (.cells #[.bool lf, .slice ka kn kc, .slice va vn vc, .slice ia inn ic] 25 (0, 0))) := hide (heap_alloc_new _ _)
  have HAK := hide (areKeys_any ka kn kc K _ (hK.below HB0.out))
  have HAS : Hid (∀ W : World, Below w.heap.size w W → Calls Try.prog 77 #[.slice ia inn ic] W fun e w' => e = .returned (.bool (kidsB J)) ∧ w' = W) := hide (fun W hW => areKids_any ia inn ic J W (hJ.below hW))
  have HR : Hid (innerB ⟨lf, K, L, J⟩ = (!lf && decide (0 < K.length) && decide (J.length = K.length + 1) && decide (L.length = 0) && keysB K && kidsB J)) := hide rfl
  have q0 : (w.alloc (.cells #[.bool lf, .slice ka kn kc, .slice va vn vc, .slice ia inn ic] 25)).cell? ⟨w.heap.size, 0, none⟩ = some (.bool lf) := cell_blkN HX.out rfl
  have q1 : (w.alloc (.cells #[.bool lf, .slice ka kn kc, .slice va vn vc, .slice ia inn ic] 25)).cell? ⟨w.heap.size, 1, none⟩ = some (.slice ka kn kc) := cell_blkN HX.out rfl
  have q2 : (w.alloc (.cells #[.bool lf, .slice ka kn kc, .slice va vn vc, .slice ia inn ic] 25)).cell? ⟨w.heap.size, 2, none⟩ = some (.slice va vn vc) := cell_blkN HX.out rfl
  have q3 : (w.alloc (.cells #[.bool lf, .slice ka kn kc, .slice va vn vc, .slice ia inn ic] 25)).cell? ⟨w.heap.size, 3, none⟩ = some (.slice ia inn ic) := cell_blkN HX.out rfl
  rw [HN.out.1, HN.out.2.1, HN.out.2.2] at HR
  generalize innerB ⟨lf, K, L, J⟩ = R at *
  generalize keysB K = R1 at *
  generalize kidsB J = R2 at *
  clear h hK hV hJ
  dsimp only
  cases lf with
  | true =>
    have HE : Hid (R = false) := hide (by rw [HR.out]; rfl)
    go_enter Try.func43, Try.ntmps43
    go_wp2
    go_ret
    exact ⟨by rw [HE.out]; rfl, HB0.out⟩
  | false =>
    by_cases h1 : 0 < kn
    · have g1 : (0 : Int) < (kn : Int) := by omega
      obtain ⟨k1, hk1⟩ : ∃ k1 : Int, IntKind.i64.wrap ((kn : Int) + 1) = k1 := ⟨_, rfl⟩
      by_cases h2 : inn = kn + 1
      · have g2 : ((inn : Int) == k1) = true := by rw [← hk1, IntKind.wrap_i64]; simp; omega
        by_cases h3 : vn = 0
        · have g3 : ((vn : Int) == 0) = true := by simp; omega
          have HE : Hid (R = (R1 && R2)) := hide (by rw [HR.out, decide_eq_true h1, decide_eq_true h2, decide_eq_true h3]; rfl)
          clear HR h1 h2 h3 hkc
          go_enter Try.func43, Try.ntmps43
          go_wp2_with fail
          generalize hV0 : (w.alloc (.cells #[.bool false, .slice ka kn kc, .slice va vn vc, .slice ia inn ic] 25)) = V0 at *
          refine HAK.out.mono ?_
          rintro e w2 ⟨rfl, hb2⟩
          have HB2 : Hid (Below w.heap.size w w2) := hide (HB0.out.trans (hb2.mono HB0.out.size))
          have HX2 : Hid (w2.heap[w.heap.size]? = some (.cells #[.bool false, .slice ka kn kc, .slice va vn vc, .slice ia inn ic] 25 (0, 0))) := hide ((hb2.block _ (heap_ltN HX.out)).trans HX.out)
          have r3 : w2.cell? ⟨w.heap.size, 3, none⟩ = some (.slice ia inn ic) := cell_blkN HX2.out rfl
          clear hb2 HAK q0 q1 q2 q3
          cases R1 with
          | false =>
            go_wp2
            go_ret
            exact ⟨by rw [HE.out]; rfl, HB2.out⟩
          | true =>
            have HA2 := hide (HAS.out w2 HB2.out)
            go_wp2_with fail
            refine HA2.out.mono ?_
            rintro e w3 ⟨rfl, rfl⟩
            go_wp2
            go_ret
            exact ⟨by rw [HE.out]; simp, HB2.out⟩
        · have g3 : ((vn : Int) == 0) = false := by simp; omega
          have HE : Hid (R = false) := hide (by rw [HR.out, decide_eq_false h3]; simp)
          clear HR h2 hkc
          go_enter Try.func43, Try.ntmps43
          go_wp2
          go_ret
          exact ⟨by rw [HE.out]; rfl, HB0.out⟩
      · have g2 : ((inn : Int) == k1) = false := by rw [← hk1, IntKind.wrap_i64]; simp; omega
        have HE : Hid (R = false) := hide (by rw [HR.out, decide_eq_false h2]; simp)
        clear HR hkc
        go_enter Try.func43, Try.ntmps43
        go_wp2
        go_ret
        exact ⟨by rw [HE.out]; rfl, HB0.out⟩
    · have g1 : ¬ (0 : Int) < (kn : Int) := by omega
      have HE : Hid (R = false) := hide (by rw [HR.out, decide_eq_false h1]; simp)
      clear HR hkc
      go_enter Try.func43, Try.ntmps43
      go_wp2
      go_ret
      exact ⟨by rw [HE.out]; rfl, HB0.out⟩
end Go.Proofs.Ytebikoekpbnpbaa
