/- Steps -/
import Derived.Test.YtfbfmhfceemkgaaDoorPB
namespace Go.Proofs.YtfbfmhfceemkgaaDoor.Pl
open Go.RowKit Go.Maps
set_option linter.unusedVariables false
def heldR (v : Value) : Option (DataW Value × List MemPlace) := some (.held v, [])
abbrev s5 (g : Nat) : Value := .slice (some ⟨g, 0, none⟩) 5 5
abbrev s3 (g : Nat) : Value := .slice (some ⟨g, 0, none⟩) 3 3
/-- the steps of each kind, as the map has them -/
def SD (g g' : Nat) : DataW Value := (((DataW.map []).put (k8 1) (.held (s5 g))).put (k8 2) (.held (s5 g))).put (k8 3) (.held (s3 g'))
theorem sd_at (g g' : Nat) (k : Int) : (SD g g').atKey (k8 k) (.held (.slice none 0 0)) = .held (if k = 1 ∨ k = 2 then s5 g else if k = 3 then s3 g' else .slice none 0 0) := by
  by_cases h1 : k = 1
  · subst h1; rfl
  by_cases h2 : k = 2
  · subst h2; rfl
  by_cases h3 : k = 3
  · subst h3; rfl
  unfold SD
  rw [atKey_put_other (k8_ne h3), atKey_put_other (k8_ne h2), atKey_put_other (k8_ne h1), if_neg (by simp [h1, h2]), if_neg h3]
  rfl
theorem OwnK.grown {w w' : World} {base : Nat} {v : Value} {xs : List Int} {b : Nat} (h : OwnK w base v xs) (hg : w.grownBy w' (some b)) (hne : v.ownBlock ≠ some b) : OwnK w' base v xs := World.ownsRow.kept h hg (.inr hne)
set_option maxHeartbeats 1000000 in
theorem steps_any (k : Int) (hk : u8B k) (w : World) : Calls Tryd.prog 14 #[.int .u8 k] w fun e w' => ∃ v, e = .returned v ∧ Hid (OwnK w' w.heap.size v (stepsL k)) ∧ Below w.heap.size w w' := by
  have HT : Hid (stepsL k = if k = 1 ∨ k = 2 then [1, 2, 3, 4, 5] else if k = 3 then [10, 11, 9] else []) := hide rfl
  have H5 := hide (row_new w w.heap.size [1, 2, 3, 4, 5] (Nat.le_refl _) (by decide))
  have HKS := hide (ky22 k hk)
  have HSA := hide (sd_at · · k)
  have hmm := @run_makeMap Tryd.prog
  clear hk
  go_enter Tryd.func14, Tryd.ntmps14
  have HB5 : Hid (Below w.heap.size w (w.alloc (.cells #[.int .u8 1, .int .u8 2, .int .u8 3, .int .u8 4, .int .u8 5] 28))) := hide ((Below.refl _ w).alloc (Nat.le_refl _) _)
  have HM0 : Hid (((w.alloc (.cells #[.int .u8 1, .int .u8 2, .int .u8 3, .int .u8 4, .int .u8 5] 28)).alloc (.map #[] 0)).ownsMap Tryd.prog 25 heldR (w.heap.size + 1) 0 (.map [])) := hide (by
    have := World.ownsMap_made (w.alloc (.cells #[.int .u8 1, .int .u8 2, .int .u8 3, .int .u8 4, .int .u8 5] 28)) Tryd.prog 25 heldR
    rwa [show (w.alloc (.cells #[.int .u8 1, .int .u8 2, .int .u8 3, .int .u8 4, .int .u8 5] 28)).heap.size = w.heap.size + 1 by simp] at this)
  have HB0 : Hid (Below w.heap.size w ((w.alloc (.cells #[.int .u8 1, .int .u8 2, .int .u8 3, .int .u8 4, .int .u8 5] 28)).alloc (.map #[] 0))) := hide (HB5.out.alloc HB5.out.size _)
  have HO0 : Hid (OwnK ((w.alloc (.cells #[.int .u8 1, .int .u8 2, .int .u8 3, .int .u8 4, .int .u8 5] 28)).alloc (.map #[] 0)) w.heap.size (s5 w.heap.size) [1, 2, 3, 4, 5]) := hide (H5.out.alloc _)
  go_wp2_with (refine wpList_entry _ rfl _ _ _ 65 rfl 25 48 law22 Tryd.underlying65 heldR (w.heap.size + 1) 0 _ HM0.out (by decide) rfl _ _ _ rfl rfl (ky22 1 (by unfold u8B; omega)) (.held (s5 w.heap.size)) [] rfl ?_)
  intro w1 H1
  go_wp2_with (refine wpList_entry _ rfl _ _ _ 65 rfl 25 48 law22 Tryd.underlying65 heldR (w.heap.size + 1) 1 _ H1.out.1 (by decide) rfl _ _ _ rfl rfl (ky22 2 (by unfold u8B; omega)) (.held (s5 w.heap.size)) [] rfl ?_)
  intro w2 H2
  have HX2 : Hid (Below w.heap.size w w2 ∧ OwnK w2 w.heap.size (s5 w.heap.size) [1, 2, 3, 4, 5]) := hide (by
    have b1 := grow_below HB0.out H1.out.2 (by omega) HB0.out.size
    refine ⟨grow_below b1 H2.out.2 (by omega) b1.size, ?_⟩
    have o1 := HO0.out.grown H1.out.2 (by simp [Value.ownBlock])
    exact o1.grown H2.out.2 (by simp [Value.ownBlock]))
  have HM2 : Hid ((w2.alloc (.cells #[.int .u8 10, .int .u8 11, .int .u8 9] 28)).ownsMap Tryd.prog 25 heldR (w.heap.size + 1) 2 (((DataW.map []).put (k8 1) (.held (s5 w.heap.size))).put (k8 2) (.held (s5 w.heap.size)))) := hide (by
    obtain ⟨es, clock, hb, r⟩ := H2.out.1
    exact ⟨es, clock, (Below.heap_alloc _ _ _ (heap_lt hb)).trans hb, r⟩)
  have HN2 : Hid (w.heap.size + 1 < w2.heap.size) := hide (by
    obtain ⟨es, clock, hb, r⟩ := H2.out.1
    exact heap_lt hb)
  have HX3 : Hid (Below w.heap.size w (w2.alloc (.cells #[.int .u8 10, .int .u8 11, .int .u8 9] 28)) ∧ OwnK (w2.alloc (.cells #[.int .u8 10, .int .u8 11, .int .u8 9] 28)) w.heap.size (s5 w.heap.size) [1, 2, 3, 4, 5] ∧ OwnK (w2.alloc (.cells #[.int .u8 10, .int .u8 11, .int .u8 9] 28)) w.heap.size (s3 w2.heap.size) [10, 11, 9]) := hide ⟨HX2.out.1.alloc HX2.out.1.size _, HX2.out.2.alloc _, row_new w2 w.heap.size [10, 11, 9] HX2.out.1.size (by decide)⟩
  clear HM0 HB0 HO0 HB5 H5 H1 H2
  go_wp2_with (refine wpList_entry _ rfl _ _ _ 65 rfl 25 48 law22 Tryd.underlying65 heldR (w.heap.size + 1) 2 _ HM2.out (by decide) rfl _ _ _ rfl rfl (ky22 3 (by unfold u8B; omega)) (.held (s3 w2.heap.size)) [] rfl ?_)
  intro w4 H4
  have HX4 : Hid (Below w.heap.size w w4 ∧ OwnK w4 w.heap.size (s5 w.heap.size) [1, 2, 3, 4, 5] ∧ OwnK w4 w.heap.size (s3 w2.heap.size) [10, 11, 9]) := hide ⟨grow_below HX3.out.1 H4.out.2 (by omega) HX3.out.1.size, HX3.out.2.1.grown H4.out.2 (by simp [Value.ownBlock]), HX3.out.2.2.grown H4.out.2 (by have := HN2.out; simp [Value.ownBlock]; omega)⟩
  have HD : Hid (w4.ownsMap Tryd.prog 25 heldR (w.heap.size + 1) 3 (SD w.heap.size w2.heap.size)) := hide H4.out.1
  obtain ⟨v, ps, hrun, hR⟩ := HD.out.lookup law22 Tryd.underlying65 (zero26 w4) (zd := .held (.slice none 0 0)) (zp := []) rfl HKS.out
  have HV : Hid (OwnK w4 w.heap.size v (stepsL k)) := hide (by
    rw [HSA.out] at hR
    have e : v = if k = 1 ∨ k = 2 then s5 w.heap.size else if k = 3 then s3 w2.heap.size else .slice none 0 0 := by
      simp only [heldR, Option.some.injEq, Prod.mk.injEq] at hR
      exact DataW.held.inj hR.1
    rw [HT.out, e]
    by_cases h1 : k = 1 ∨ k = 2
    · rw [if_pos h1, if_pos h1]; exact HX4.out.2.1
    · rw [if_neg h1, if_neg h1]
      by_cases h3 : k = 3
      · rw [if_pos h3, if_pos h3]; exact HX4.out.2.2
      · rw [if_neg h3, if_neg h3]; exact World.ownsRow_nil _ _ _ _)
  clear HM2 HX2 HX3 HN2 hR HD H4
  go_wp2
  go_ret
  exact ⟨v, rfl, HV, HX4.out.1⟩
end Go.Proofs.YtfbfmhfceemkgaaDoor.Pl
