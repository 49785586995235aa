/- PlanSteps, walked -/
import Derived.Test.YtmkholgflhaacaaH
namespace Go.Proofs.Ytmkholgflhaacaa
open Go.RowKit
set_option linter.unusedVariables false
set_option maxRecDepth 8000 in
set_option maxHeartbeats 1000000 in
theorem stepsWalk (s : Sg) (d : Bool) (w : World) (hs : i64B s.od ∧ u8B s.k ∧ i64B s.at') : Calls Try.prog 4 #[vg s, .bool d] w fun e w' => e = .returned (.bool true) ∧ Below w.heap.size w w' := by
  have HNX := hide (next_any s hs.2.1)
  have HRN := hide (rnext_any s)
  have HAD := hide (adv_any s d hs.2.1)
  have HRA := hide (radv_any s d)
  have HLE := hide (left_any s hs.2.1)
  have HRL := hide (rleft_any s)
  have HCK := hide (check_any s hs.2.1)
  have HRC := hide (rcheck_any s)
  have HLV := hide lives_any
  have hq := @equal33
  have hqg := @eqg33
  generalize nextR s = X at *
  generalize leftR s = L at *
  generalize checkE s = ck at *
  generalize advR s d = A at *
  obtain ⟨x1, x2, x3⟩ := X
  obtain ⟨l1, l2⟩ := L
  obtain ⟨⟨y1, y2, y3, y4⟩, a2⟩ := A
  obtain ⟨o, k, t, u⟩ := s
  dsimp only at *
  clear hs
  have HB0 : Hid (Below w.heap.size w (w.alloc (.cells #[.int .i64 o, .int .u8 k, .int .i64 t, .bool u] 33))) := hide ((Below.refl _ w).alloc (Nat.le_refl _) _)
  have HG0 : Hid (Blk (w.alloc (.cells #[.int .i64 o, .int .u8 k, .int .i64 t, .bool u] 33)) w.heap.size ⟨o, k, t, u⟩) := hide (heap_alloc_new _ _)
  go_enter Try.func4, Try.ntmps4
  go_wp2_with fail
  generalize w.alloc (.cells #[.int .i64 o, .int .u8 k, .int .i64 t, .bool u] 33) = W0 at *
  refine (HNX.out W0).mono ?_
  rintro e w1 ⟨rfl, b1⟩
  have HB1 : Hid (Below w.heap.size w w1) := hide (HB0.out.trans (b1.mono HB0.out.size))
  have HG1 := hide (HG0.out.below' b1)
  clear b1 HB0 HG0 HNX
  obtain ⟨c0, c1, c2, c3⟩ := HG1.out.cells
  dsimp only at c0 c1 c2 c3
  go_wp2_with fail
  refine (HRN.out w1).mono ?_
  rintro e w2 ⟨rfl, b2⟩
  have HB2 : Hid (Below w.heap.size w w2) := hide (HB1.out.trans (b2.mono HB1.out.size))
  have HG2 := hide (HG1.out.below' b2)
  clear b2 HB1 HG1 HRN c0 c1 c2 c3
  obtain ⟨c0, c1, c2, c3⟩ := HG2.out.cells
  dsimp only at c0 c1 c2 c3
  go_wp2_with fail
  refine (HAD.out w2).mono ?_
  rintro e w3 ⟨rfl, b3⟩
  have HB3 : Hid (Below w.heap.size w (w3.alloc (.cells #[.int .i64 y1, .int .u8 y2, .int .i64 y3, .bool y4] 33))) := hide (by
    have b := HB2.out.trans (b3.mono HB2.out.size)
    exact b.alloc b.size _)
  have HG3 : Hid (Blk (w3.alloc (.cells #[.int .i64 y1, .int .u8 y2, .int .i64 y3, .bool y4] 33)) w.heap.size ⟨o, k, t, u⟩) := hide (by
    have b := HG2.out.below' b3
    exact (Below.heap_alloc _ _ _ (heap_lt b)).trans b)
  have HY3 : Hid (Blk (w3.alloc (.cells #[.int .i64 y1, .int .u8 y2, .int .i64 y3, .bool y4] 33)) w3.heap.size ⟨y1, y2, y3, y4⟩) := hide (heap_alloc_new _ _)
  have HC3 : Hid ((w3.alloc (.cells #[.int .i64 y1, .int .u8 y2, .int .i64 y3, .bool y4] 33)).cell? ⟨w.heap.size, 0, none⟩ = some (.int .i64 o) ∧ (w3.alloc (.cells #[.int .i64 y1, .int .u8 y2, .int .i64 y3, .bool y4] 33)).cell? ⟨w.heap.size, 1, none⟩ = some (.int .u8 k) ∧ (w3.alloc (.cells #[.int .i64 y1, .int .u8 y2, .int .i64 y3, .bool y4] 33)).cell? ⟨w.heap.size, 2, none⟩ = some (.int .i64 t) ∧ (w3.alloc (.cells #[.int .i64 y1, .int .u8 y2, .int .i64 y3, .bool y4] 33)).cell? ⟨w.heap.size, 3, none⟩ = some (.bool u)) := hide HG3.out.cells
  clear b3 HB2 HG2 HAD c0 c1 c2 c3
  obtain ⟨c0, c1, c2, c3⟩ := HC3.out
  go_wp2_with fail
  clear c0 c1 c2 c3 HC3
  generalize w3.alloc (.cells #[.int .i64 y1, .int .u8 y2, .int .i64 y3, .bool y4] 33) = W3 at *
  refine (HRA.out W3).mono ?_
  rintro e w4 ⟨rfl, b4⟩
  have HB4 : Hid (Below w.heap.size w (w4.alloc (.cells #[.int .i64 y1, .int .u8 y2, .int .i64 y3, .bool y4] 33))) := hide (by
    have b := HB3.out.trans (b4.mono HB3.out.size)
    exact b.alloc b.size _)
  have HG4 : Hid (Blk (w4.alloc (.cells #[.int .i64 y1, .int .u8 y2, .int .i64 y3, .bool y4] 33)) w.heap.size ⟨o, k, t, u⟩) := hide (by
    have b := HG3.out.below' b4
    exact (Below.heap_alloc _ _ _ (heap_lt b)).trans b)
  have HY4 : Hid (Blk (w4.alloc (.cells #[.int .i64 y1, .int .u8 y2, .int .i64 y3, .bool y4] 33)) w3.heap.size ⟨y1, y2, y3, y4⟩) := hide (by
    have b := HY3.out.below' b4
    exact (Below.heap_alloc _ _ _ (heap_lt b)).trans b)
  have HZ4 : Hid (Blk (w4.alloc (.cells #[.int .i64 y1, .int .u8 y2, .int .i64 y3, .bool y4] 33)) w4.heap.size ⟨y1, y2, y3, y4⟩) := hide (heap_alloc_new _ _)
  have HC4 : Hid ((w4.alloc (.cells #[.int .i64 y1, .int .u8 y2, .int .i64 y3, .bool y4] 33)).cell? ⟨w.heap.size, 0, none⟩ = some (.int .i64 o) ∧ (w4.alloc (.cells #[.int .i64 y1, .int .u8 y2, .int .i64 y3, .bool y4] 33)).cell? ⟨w.heap.size, 1, none⟩ = some (.int .u8 k) ∧ (w4.alloc (.cells #[.int .i64 y1, .int .u8 y2, .int .i64 y3, .bool y4] 33)).cell? ⟨w.heap.size, 2, none⟩ = some (.int .i64 t) ∧ (w4.alloc (.cells #[.int .i64 y1, .int .u8 y2, .int .i64 y3, .bool y4] 33)).cell? ⟨w.heap.size, 3, none⟩ = some (.bool u)) := hide HG4.out.cells
  clear b4 HB3 HG3 HY3 HRA
  obtain ⟨c0, c1, c2, c3⟩ := HC4.out
  go_wp2_with fail
  clear c0 c1 c2 c3 HC4
  generalize w4.alloc (.cells #[.int .i64 y1, .int .u8 y2, .int .i64 y3, .bool y4] 33) = W4 at *
  refine (HLE.out W4).mono ?_
  rintro e w5 ⟨rfl, b5⟩
  have HB5 : Hid (Below w.heap.size w w5) := hide (HB4.out.trans (b5.mono HB4.out.size))
  have HG5 := hide (HG4.out.below' b5)
  have HY5 := hide (HY4.out.below' b5)
  have HZ5 := hide (HZ4.out.below' b5)
  clear b5 HB4 HG4 HY4 HZ4 HLE
  obtain ⟨c0, c1, c2, c3⟩ := HG5.out.cells
  dsimp only at c0 c1 c2 c3
  go_wp2_with fail
  refine (HRL.out w5).mono ?_
  rintro e w6 ⟨rfl, b6⟩
  have HB6 : Hid (Below w.heap.size w w6) := hide (HB5.out.trans (b6.mono HB5.out.size))
  have HG6 := hide (HG5.out.below' b6)
  have HY6 := hide (HY5.out.below' b6)
  have HZ6 := hide (HZ5.out.below' b6)
  clear b6 HB5 HG5 HY5 HZ5 HRL c0 c1 c2 c3
  generalize w3.heap.size = gy at *
  generalize w4.heap.size = gz at *
  have HS0 : Hid (∀ W : World, Below w6.heap.size w6 W → (W.cell? ⟨w.heap.size, 0, none⟩ = some (.int .i64 o) ∧ W.cell? ⟨w.heap.size, 1, none⟩ = some (.int .u8 k) ∧ W.cell? ⟨w.heap.size, 2, none⟩ = some (.int .i64 t) ∧ W.cell? ⟨w.heap.size, 3, none⟩ = some (.bool u) ∧ W.cell? ⟨gy, 0, none⟩ = some (.int .i64 y1) ∧ W.cell? ⟨gy, 1, none⟩ = some (.int .u8 y2) ∧ W.cell? ⟨gy, 2, none⟩ = some (.int .i64 y3) ∧ W.cell? ⟨gy, 3, none⟩ = some (.bool y4) ∧ W.cell? ⟨gz, 0, none⟩ = some (.int .i64 y1) ∧ W.cell? ⟨gz, 1, none⟩ = some (.int .u8 y2) ∧ W.cell? ⟨gz, 2, none⟩ = some (.int .i64 y3) ∧ W.cell? ⟨gz, 3, none⟩ = some (.bool y4))) := hide (fun W hW => by
    obtain ⟨e0, e1, e2, e3⟩ := (HG6.out.below' hW).cells
    obtain ⟨f0, f1, f2, f3⟩ := (HY6.out.below' hW).cells
    obtain ⟨g0, g1, g2, g3⟩ := (HZ6.out.below' hW).cells
    exact ⟨e0, e1, e2, e3, f0, f1, f2, f3, g0, g1, g2, g3⟩)
  have HBR := hide (Below.refl w6.heap.size w6)
  have HSG : Hid (sameG ⟨y1, y2, y3, y4⟩ ⟨y1, y2, y3, y4⟩ = true) := hide (sameG_self _)
  have hsg := HSG.out
  clear HG6 HY6 HZ6
  go_wp2_with fail
  go_region_held (fun W : World => (W.cell? ⟨w.heap.size, 0, none⟩ = some (.int .i64 o) ∧ W.cell? ⟨w.heap.size, 1, none⟩ = some (.int .u8 k) ∧ W.cell? ⟨w.heap.size, 2, none⟩ = some (.int .i64 t) ∧ W.cell? ⟨w.heap.size, 3, none⟩ = some (.bool u) ∧ W.cell? ⟨gy, 0, none⟩ = some (.int .i64 y1) ∧ W.cell? ⟨gy, 1, none⟩ = some (.int .u8 y2) ∧ W.cell? ⟨gy, 2, none⟩ = some (.int .i64 y3) ∧ W.cell? ⟨gy, 3, none⟩ = some (.bool y4) ∧ W.cell? ⟨gz, 0, none⟩ = some (.int .i64 y1) ∧ W.cell? ⟨gz, 1, none⟩ = some (.int .u8 y2) ∧ W.cell? ⟨gz, 2, none⟩ = some (.int .i64 y3) ∧ W.cell? ⟨gz, 3, none⟩ = some (.bool y4))) (first | exact HS0.out _ HBR.out.drew | exact HS0.out _ (HBR.out.drew.trans B7) | exact HS0.out _ ((HBR.out.drew.trans B7).trans (B8.mono (HBR.out.drew.trans B7).size)) | exact HS0.out _ (((HBR.out.drew.trans B7).trans (B8.mono (HBR.out.drew.trans B7).size)).trans (B9.mono ((HBR.out.drew.trans B7).trans (B8.mono (HBR.out.drew.trans B7).size)).size))) (first | (go_at_call 14; refine (HLV.out _).mono ?_; rintro e w7 ⟨rfl, B7⟩) | (go_at_call 25; refine (HCK.out _).mono ?_; rintro e w8 ⟨rfl, B8⟩) | (go_at_call 26; refine (HRC.out _).mono ?_; rintro e w9 ⟨rfl, B9⟩))
  go_wp2
  go_ret
  have X7 := HBR.out.drew.trans B7
  have X8 := X7.trans (B8.mono X7.size)
  have X9 := X8.trans (B9.mono X8.size)
  exact ⟨ret_bool (by simp), HB6.out.trans (X9.mono HB6.out.size)⟩
end Go.Proofs.Ytmkholgflhaacaa
