/- lives -/
import Derived.Test.YtggbaanoagbmdaaK
namespace Go.Proofs.Ytggbaanoagbmdaa
open Go.RowKit
abbrev bA : ByteArray := ⟨#[97]⟩
abbrev bM : ByteArray := ⟨#[109]⟩
abbrev bX : ByteArray := ⟨#[120]⟩
abbrev bY : ByteArray := ⟨#[121]⟩
abbrev bZ : ByteArray := ⟨#[122]⟩
abbrev b0 : ByteArray := ⟨#[]⟩
def two : List Ev := [⟨bA, 1, 1, bM, bX⟩, ⟨bA, 2, 2, b0, bY⟩]
theorem app1 : appR [] bA 0 bM [bX, bY] = (two, 2, 0) := by
  simp [appR, goodB, badT, longB, markAt, cntL, news, newAt, two, ByteArray.toList_eq, ByteArray.size, List.range_succ]
theorem good_two : goodB two = true := by
  simp [goodB, okAt, two, longB, cntS, cntM, isOf, isM, hasM, ByteArray.toList_eq, ByteArray.size, List.range_succ]
theorem app2 : appR two bA 0 bM [bZ] = (two, 2, 0) := by
  have h := good_two
  unfold two at h ⊢
  simp [appR, h, badT, longB, markAt, cntL, isOf, hasM, ByteArray.toList_eq, ByteArray.size]
theorem app3 : appR two bA 0 b0 [bZ] = ([], 0, 10) := by
  have h := good_two
  unfold two at h ⊢
  simp [appR, h, badT, longB, markAt, cntL, isOf, ByteArray.toList_eq, ByteArray.size]
theorem isT_one {w : World} (s : ByteArray) (hs : s.size ≤ maxLen) : IsT (w.alloc (.cells #[.string s] 9)) (some ⟨w.heap.size, 0, none⟩) 1 1 [s] := by
  have hn := heap_alloc_new w (.cells #[.string s] 9)
  refine ⟨rfl, Nat.le_refl _, by show (1:Nat) ≤ 9223372036854775807; omega, ?_, fun i hi => ⟨w.heap.size, 0, rfl, by simp, ?_⟩⟩
  · intro y hy
    simp only [List.mem_cons, List.not_mem_nil, or_false] at hy
    rw [hy]; exact hs
  · match i, hi with
    | 0, _ => exact cell_blk hn rfl
set_option maxRecDepth 40000 in
set_option maxHeartbeats 1000000 in
/-- lives -/
theorem lives_any (w : World) : Calls Try.prog 12 #[] w fun e w' => e = .returned (.bool true) ∧ Below w.heap.size w w' := by
  have hq := @equal41
  have hqg := @eqg41
  have HW1 : Hid (Below w.heap.size w (w.alloc (.cells #[.string bX, .string bY] 9))) := hide ((Below.refl _ w).alloc (Nat.le_refl _) _)
  have C1 := hide (append_any none 0 0 [] bA 0 bM (some ⟨w.heap.size, 0, none⟩) 2 2 [bX, bY] (w.alloc (.cells #[.string bX, .string bY] 9)) (isE_nil _) (isT_two bX bY (by decide) (by decide)) (by decide) (by decide) (by decide))
  rw [app1] at C1
  go_enter Try.func12, Try.ntmps12
  go_wp2_with fail
  refine C1.out.mono ?_
  rintro e w1 ⟨a1, c1, rfl, hI1, hb1⟩
  have HI1 := hide hI1
  have HB1 : Hid (Below w.heap.size w w1) := hide (HW1.out.trans (hb1.mono HW1.out.size))
  clear hI1 hb1 C1 HW1
  have HW2 : Hid (Below w.heap.size w (w1.alloc (.cells #[.string bZ] 9))) := hide (HB1.out.alloc HB1.out.size _)
  have HI2 : Hid (IsE (w1.alloc (.cells #[.string bZ] 9)) a1 2 c1 two) := hide (HI1.out.below' ((Below.refl _ _).alloc (Nat.le_refl _) _))
  have C2 := hide (append_any a1 2 c1 two bA 0 bM (some ⟨w1.heap.size, 0, none⟩) 1 1 [bZ] (w1.alloc (.cells #[.string bZ] 9)) HI2.out (isT_one bZ (by decide)) (by decide) (by decide) (by decide))
  rw [app2] at C2
  rw [show (two, (2 : Int), (0 : Int)).1.length = 2 from rfl]
  go_wp2_with fail
  refine C2.out.mono ?_
  rintro e w2 ⟨a2, c2, rfl, hI2, hb2⟩
  have HB2 : Hid (Below w.heap.size w w2) := hide (HW2.out.trans (hb2.mono HW2.out.size))
  have HI3 : Hid (IsE w2 a1 2 c1 two) := hide (HI2.out.below' hb2)
  clear hI2 hb2 C2 HW2 HI2 HI1
  have HW3 : Hid (Below w.heap.size w (w2.alloc (.cells #[.string bZ] 9))) := hide (HB2.out.alloc HB2.out.size _)
  have HI4 : Hid (IsE (w2.alloc (.cells #[.string bZ] 9)) a1 2 c1 two) := hide (HI3.out.below' ((Below.refl _ _).alloc (Nat.le_refl _) _))
  have C3 := hide (append_any a1 2 c1 two bA 0 b0 (some ⟨w2.heap.size, 0, none⟩) 1 1 [bZ] (w2.alloc (.cells #[.string bZ] 9)) HI4.out (isT_one bZ (by decide)) (by decide) (by decide) (by decide))
  rw [app3] at C3
  rw [show (two, (2 : Int), (0 : Int)).1.length = 2 from rfl]
  go_wp2_with fail
  refine C3.out.mono ?_
  rintro e w3 ⟨a3, c3, rfl, hI5, hb3⟩
  have HB3 : Hid (Below w.heap.size w w3) := hide (HW3.out.trans (hb3.mono HW3.out.size))
  obtain ⟨bb, off, rfl, hbb, z0, z1, z2, z3, z4⟩ := (HI4.out.below' hb3).2.2.2.2 1 (by omega)
  rw [show two.getD 1 Ev0 = ⟨bA, 2, 2, b0, bY⟩ from rfl] at z0 z1 z2 z3 z4
  dsimp only at z0 z1 z2 z3 z4
  have hsb : sameB ⟨bA, 2, 2, b0, bY⟩ ⟨bA, 2, 2, b0, bY⟩ = true := (sameB_iff _ _).2 rfl
  clear hI5 hb3 C3 HW3 HI4 HI3 hbb
  go_wp2
  go_ret
  exact ⟨rfl, HB3.out⟩
end Go.Proofs.Ytggbaanoagbmdaa
