/- PlanEnds, walked -/
import Derived.Test.YtmkholgflhaacaaH
namespace Go.Proofs.Ytmkholgflhaacaa
open Go.RowKit
set_option linter.unusedVariables false
/-- the right sagas -/
theorem right_cases {s : Sg} (h : rightB s = true) : (s.k = 1 ∧ s.u = false ∧ 0 ≤ s.at' ∧ s.at' ≤ 5) ∨ (s.k = 1 ∧ s.u = true ∧ 0 ≤ s.at' ∧ s.at' ≤ 4) ∨ (s.k = 2 ∧ s.u = true ∧ 0 ≤ s.at' ∧ s.at' ≤ 4) ∨ (s.k = 3 ∧ s.u = false ∧ 0 ≤ s.at' ∧ s.at' ≤ 3) ∨ (s.k = 3 ∧ s.u = true ∧ s.at' = 0) := by
  obtain ⟨o, k, t, u⟩ := s
  have hd := of_decide_eq_true h
  dsimp only at hd ⊢
  by_cases h1 : k = 1
  · subst h1
    rw [show nL 1 = 5 from rfl] at hd
    cases u
    · exact .inl ⟨rfl, rfl, hd.1.2.1, by have := hd.1.2.2; omega⟩
    · exact .inr (.inl ⟨rfl, rfl, hd.1.2.1, by have := hd.1.2.2; have := hd.2.2.1 rfl; omega⟩)
  by_cases h2 : k = 2
  · subst h2
    rw [show nL 2 = 5 from rfl] at hd
    have hu := hd.2.1 rfl
    subst hu
    exact .inr (.inr (.inl ⟨rfl, rfl, hd.1.2.1, by have := hd.1.2.2; have := hd.2.2.1 rfl; omega⟩))
  by_cases h3 : k = 3
  · subst h3
    rw [show nL 3 = 3 from rfl] at hd
    cases u
    · exact .inr (.inr (.inr (.inl ⟨rfl, rfl, hd.1.2.1, by have := hd.1.2.2; omega⟩)))
    · exact .inr (.inr (.inr (.inr ⟨rfl, rfl, hd.2.2.2 rfl rfl⟩)))
  · exact absurd (by unfold nL stepsL; rw [if_neg (by simp [h1, h2]), if_neg h3]; rfl) hd.1.1
/-- a saga that is right and not over: its next step, done -/
def Goes (s : Sg) (l : Nat) : Prop := ∃ x s', nextR s = ⟨x, true, 0⟩ ∧ x ≠ 0 ∧ advR s true = (s', 0) ∧ rightB s' = true ∧ leftR s' = ((l : Int), 0) ∧ s'.k = s.k
def Over (s : Sg) : Prop := nextR s = ⟨0, false, 0⟩ ∧ advR s true = (Sg0, 9)
theorem goes_or_over {s : Sg} (h : rightB s = true) : (leftR s = (0, 0) ∧ Over s) ∨ ∃ l : Nat, leftR s = ((l : Int) + 1, 0) ∧ Goes s l := by
  have hc := right_cases h
  obtain ⟨o, k, t, u⟩ := s
  dsimp only at hc
  rcases hc with ⟨rfl, rfl, h1, h2⟩ | ⟨rfl, rfl, h1, h2⟩ | ⟨rfl, rfl, h1, h2⟩ | ⟨rfl, rfl, h1, h2⟩ | ⟨rfl, rfl, rfl⟩
  · rcases (by omega : t = 0 ∨ t = 1 ∨ t = 2 ∨ t = 3 ∨ t = 4 ∨ t = 5) with rfl | rfl | rfl | rfl | rfl | rfl
    · exact .inr ⟨4, rfl, 1, ⟨o, 1, 1, false⟩, rfl, by decide, rfl, rfl, rfl, rfl⟩
    · exact .inr ⟨3, rfl, 2, ⟨o, 1, 2, false⟩, rfl, by decide, rfl, rfl, rfl, rfl⟩
    · exact .inr ⟨2, rfl, 3, ⟨o, 1, 3, false⟩, rfl, by decide, rfl, rfl, rfl, rfl⟩
    · exact .inr ⟨1, rfl, 4, ⟨o, 1, 4, false⟩, rfl, by decide, rfl, rfl, rfl, rfl⟩
    · exact .inr ⟨0, rfl, 5, ⟨o, 1, 5, false⟩, rfl, by decide, rfl, rfl, rfl, rfl⟩
    · exact .inl ⟨rfl, rfl, rfl⟩
  · rcases (by omega : t = 0 ∨ t = 1 ∨ t = 2 ∨ t = 3 ∨ t = 4) with rfl | rfl | rfl | rfl | rfl
    · exact .inl ⟨rfl, rfl, rfl⟩
    · exact .inr ⟨0, rfl, 6, ⟨o, 1, 0, true⟩, rfl, by decide, rfl, rfl, rfl, rfl⟩
    · exact .inr ⟨1, rfl, 7, ⟨o, 1, 1, true⟩, rfl, by decide, rfl, rfl, rfl, rfl⟩
    · exact .inr ⟨2, rfl, 8, ⟨o, 1, 2, true⟩, rfl, by decide, rfl, rfl, rfl, rfl⟩
    · exact .inr ⟨3, rfl, 9, ⟨o, 1, 3, true⟩, rfl, by decide, rfl, rfl, rfl, rfl⟩
  · rcases (by omega : t = 0 ∨ t = 1 ∨ t = 2 ∨ t = 3 ∨ t = 4) with rfl | rfl | rfl | rfl | rfl
    · exact .inl ⟨rfl, rfl, rfl⟩
    · exact .inr ⟨0, rfl, 6, ⟨o, 2, 0, true⟩, rfl, by decide, rfl, rfl, rfl, rfl⟩
    · exact .inr ⟨1, rfl, 7, ⟨o, 2, 1, true⟩, rfl, by decide, rfl, rfl, rfl, rfl⟩
    · exact .inr ⟨2, rfl, 8, ⟨o, 2, 2, true⟩, rfl, by decide, rfl, rfl, rfl, rfl⟩
    · exact .inr ⟨3, rfl, 9, ⟨o, 2, 3, true⟩, rfl, by decide, rfl, rfl, rfl, rfl⟩
  · rcases (by omega : t = 0 ∨ t = 1 ∨ t = 2 ∨ t = 3) with rfl | rfl | rfl | rfl
    · exact .inr ⟨2, rfl, 10, ⟨o, 3, 1, false⟩, rfl, by decide, rfl, rfl, rfl, rfl⟩
    · exact .inr ⟨1, rfl, 11, ⟨o, 3, 2, false⟩, rfl, by decide, rfl, rfl, rfl, rfl⟩
    · exact .inr ⟨0, rfl, 9, ⟨o, 3, 3, false⟩, rfl, by decide, rfl, rfl, rfl, rfl⟩
    · exact .inl ⟨rfl, rfl, rfl⟩
  · exact .inl ⟨rfl, rfl, rfl⟩
set_option maxRecDepth 8000 in
set_option maxHeartbeats 1000000 in
theorem endsWalk (s : Sg) (w : World) (hs : i64B s.od ∧ u8B s.k ∧ i64B s.at') : Calls Try.prog 5 #[vg s] w fun e w' => e = .returned (.bool true) ∧ Below w.heap.size w w' := by
  have HLV := hide lives_any
  have HK := hide hs.2.1
  clear hs
  have HB0 : Hid (Below w.heap.size w (w.alloc (.cells #[.int .i64 s.od, .int .u8 s.k, .int .i64 s.at', .bool s.u] 33))) := hide ((Below.refl _ w).alloc (Nat.le_refl _) _)
  have HG0 : Hid (Blk (w.alloc (.cells #[.int .i64 s.od, .int .u8 s.k, .int .i64 s.at', .bool s.u] 33)) w.heap.size s) := hide (heap_alloc_new _ _)
  cases hr : rightB s
  · have hl := leftR_wrong hr
    have hc : checkE s = 2 := by unfold checkE; rw [hr]; rfl
    have HLE := hide (fun W => left_at hl HK.out W)
    have HCK := hide (fun W => check_at hc HK.out W)
    clear hl hc hr
    obtain ⟨o, k, t, u⟩ := s
    dsimp only at *
    go_enter Try.func5, Try.ntmps5
    go_wp2_with fail
    generalize w.alloc (.cells #[.int .i64 o, .int .u8 k, .int .i64 t, .bool u] 33) = W0 at *
    refine (HLV.out W0).mono ?_
    rintro e w1 ⟨rfl, b1⟩
    have HB1 : Hid (Below w.heap.size w w1) := hide (HB0.out.trans (b1.mono HB0.out.size))
    have HG1 := hide (HG0.out.below' b1)
    clear b1 HB0 HG0
    obtain ⟨c0, c1, c2, c3⟩ := HG1.out.cells
    dsimp only at c0 c1 c2 c3
    go_wp2_with fail
    refine (HLE.out w1).mono ?_
    rintro e w2 ⟨rfl, b2⟩
    have HB2 : Hid (Below w.heap.size w w2) := hide (HB1.out.trans (b2.out.mono HB1.out.size))
    have HG2 := hide (HG1.out.below' b2.out)
    clear b2 HB1 HG1 c0 c1 c2 c3
    obtain ⟨c0, c1, c2, c3⟩ := HG2.out.cells
    dsimp only at c0 c1 c2 c3
    go_wp2_with (first | (go_at_call 25; refine (HCK.out _).mono ?_; rintro e w3 ⟨rfl, b3⟩))
    go_ret
    exact ⟨rfl, HB2.out.trans (b3.out.mono HB2.out.size)⟩
  · obtain ⟨l0, hl0⟩ : ∃ l : Nat, leftR s = ((l : Int), 0) := by
      rcases goes_or_over hr with ⟨h, _⟩ | ⟨l, h, _⟩
      · exact ⟨0, h⟩
      · exact ⟨l + 1, h⟩
    have HLE := hide (fun W => left_at hl0 HK.out W)
    have HL0 := hide hl0
    have HR0 := hide hr
    clear hl0 hr
    obtain ⟨o, k, t, u⟩ := s
    dsimp only at *
    go_enter Try.func5, Try.ntmps5
    go_wp2_with fail
    generalize w.alloc (.cells #[.int .i64 o, .int .u8 k, .int .i64 t, .bool u] 33) = W0 at *
    refine (HLV.out W0).mono ?_
    rintro e w1 ⟨rfl, b1⟩
    have HB1 : Hid (Below w.heap.size w w1) := hide (HB0.out.trans (b1.mono HB0.out.size))
    have HG1 := hide (HG0.out.below' b1)
    clear b1 HB0 HG0
    obtain ⟨c0, c1, c2, c3⟩ := HG1.out.cells
    dsimp only at c0 c1 c2 c3
    go_wp2_with fail
    refine (HLE.out w1).mono ?_
    rintro e w2 ⟨rfl, b2⟩
    have HB2 : Hid (Below w.heap.size w w2) := hide (HB1.out.trans (b2.out.mono HB1.out.size))
    have HG2 := hide (HG1.out.below' b2.out)
    clear b2 HB1 HG1 c0 c1 c2 c3
    go_wp2
    go_loopw [3] (fun lv wr => ∃ (s : Sg) (l : Nat), lv = .int .i64 l ∧ Hid (Blk wr w.heap.size s ∧ rightB s = true ∧ leftR s = ((l : Int), 0) ∧ u8B s.k) ∧ Hid (Below w.heap.size w wr)) (fun lv _ => (intOf lv).toNat)
    case atStart => exact ⟨⟨o, k, t, u⟩, l0, rfl, hide ⟨HG2.out, HR0.out, HL0.out, HK.out⟩, HB2⟩
    case round =>
      obtain ⟨s, l, rfl, HS, HB⟩ := hrel
      rcases goes_or_over HS.out.2.1 with ⟨h0, hov⟩ | ⟨l', h1, x, s', hn, hx, ha, hr', hl', hk'⟩
      · obtain rfl : l = 0 := by
          have := HS.out.2.2.1
          rw [h0] at this
          simp only [Prod.mk.injEq] at this
          omega
        have HNX := hide (fun W => next_at hov.1 HS.out.2.2.2 W)
        have HAD := hide (fun W => adv_at hov.2 HS.out.2.2.2 W)
        obtain ⟨c0, c1, c2, c3⟩ := HS.out.1.cells
        have HG := hide HS.out.1
        obtain ⟨o', k', t', u'⟩ := s
        dsimp only at *
        clear h0 hov HS
        go_wp2_with fail
        refine (HNX.out wr).mono ?_
        rintro e w3 ⟨rfl, b3⟩
        have HB3 : Hid (Below w.heap.size w w3) := hide (HB.out.trans (b3.out.mono HB.out.size))
        have HG3 := hide (HG.out.below' b3.out)
        clear b3 c0 c1 c2 c3
        obtain ⟨c0, c1, c2, c3⟩ := HG3.out.cells
        dsimp only at c0 c1 c2 c3
        go_wp2_with fail
        refine (HAD.out w3).mono ?_
        rintro e w4 ⟨rfl, b4⟩
        have HB4 : Hid (Below w.heap.size w (w4.alloc (.cells #[.int .i64 0, .int .u8 0, .int .i64 0, .bool false] 33))) := hide (by
          have b := HB3.out.trans (b4.out.mono HB3.out.size)
          exact b.alloc b.size _)
        go_wp2
        go_ret
        exact ⟨rfl, HB4.out⟩
      · obtain rfl : l = l' + 1 := by
          have := HS.out.2.2.1
          rw [h1] at this
          simp only [Prod.mk.injEq] at this
          omega
        have hc' : checkE s' = 0 := by unfold checkE; rw [hr']; rfl
        have HNX := hide (fun W => next_at hn HS.out.2.2.2 W)
        have HAD := hide (fun W => adv_at ha HS.out.2.2.2 W)
        have HKN : Hid (u8B s'.k) := hide (by rw [hk']; exact HS.out.2.2.2)
        have HLN := hide (fun W => left_at hl' HKN.out W)
        have HCN := hide (fun W => check_at hc' HKN.out W)
        have HL5 : Hid (l' ≤ 5) := hide (by
          have := HS.out.2.2.1
          rw [leftR_right HS.out.2.1] at this
          have h2 := right_small HS.out.2.1
          have h3 := nL_le s.k
          simp only [Prod.mk.injEq] at this
          have h4 := this.1
          split at h4 <;> omega)
        have HRS : Hid (rightB s' = true ∧ leftR s' = ((l' : Int), 0)) := hide ⟨hr', hl'⟩
        obtain ⟨c0, c1, c2, c3⟩ := HS.out.1.cells
        have HG := hide HS.out.1
        obtain ⟨o', k', t', u'⟩ := s
        obtain ⟨o2, k2, t2, u2⟩ := s'
        dsimp only at *
        clear h1 hn ha hr' hl' hk' hc' HS
        have hlp : (0 : Int) < (l' : Int) + 1 := by omega
        have hx0 : (x == 0) = false := by simpa using hx
        have hw : IntKind.i64.wrap (l' : Int) = (l' : Int) := by have := HL5.out; exact wrap64 (by omega) (by omega)
        go_wp2_with fail
        refine (HNX.out wr).mono ?_
        rintro e w3 ⟨rfl, b3⟩
        have HB3 : Hid (Below w.heap.size w w3) := hide (HB.out.trans (b3.out.mono HB.out.size))
        have HG3 := hide (HG.out.below' b3.out)
        clear b3 c0 c1 c2 c3
        obtain ⟨c0, c1, c2, c3⟩ := HG3.out.cells
        dsimp only at c0 c1 c2 c3
        go_wp2_with fail
        refine (HAD.out w3).mono ?_
        rintro e w4 ⟨rfl, b4⟩
        have HB4 : Hid (Below w.heap.size w (w4.alloc (.cells #[.int .i64 o2, .int .u8 k2, .int .i64 t2, .bool u2] 33))) := hide (by
          have b := HB3.out.trans (b4.out.mono HB3.out.size)
          exact b.alloc b.size _)
        have HG4 : Hid (Blk (w4.alloc (.cells #[.int .i64 o2, .int .u8 k2, .int .i64 t2, .bool u2] 33)) w.heap.size ⟨o', k', t', u'⟩) := hide (by
          have b := HG3.out.below' b4.out
          exact (Below.heap_alloc _ _ _ (heap_lt b)).trans b)
        have HN4 : Hid (Blk (w4.alloc (.cells #[.int .i64 o2, .int .u8 k2, .int .i64 t2, .bool u2] 33)) w4.heap.size ⟨o2, k2, t2, u2⟩) := hide (heap_alloc_new _ _)
        have HNE : Hid (w.heap.size < w4.heap.size) := hide (heap_lt (HG3.out.below' b4.out))
        clear b4 HB3 HG3 c0 c1 c2 c3
        go_wp2_with fail
        generalize w4.alloc (.cells #[.int .i64 o2, .int .u8 k2, .int .i64 t2, .bool u2] 33) = W4 at *
        generalize w4.heap.size = gn at *
        refine (HLN.out W4).mono ?_
        rintro e w5 ⟨rfl, b5⟩
        have HB5 : Hid (Below w.heap.size w w5) := hide (HB4.out.trans (b5.out.mono HB4.out.size))
        have HG5 := hide (HG4.out.below' b5.out)
        have HN5 := hide (HN4.out.below' b5.out)
        clear b5 HB4 HG4 HN4
        obtain ⟨c0, c1, c2, c3⟩ := HN5.out.cells
        dsimp only at c0 c1 c2 c3
        go_wp2_with fail
        refine (HCN.out w5).mono ?_
        rintro e w6 ⟨rfl, b6⟩
        have HB6 : Hid (Below w.heap.size w w6) := hide (HB5.out.trans (b6.out.mono HB5.out.size))
        have HG6 := hide (HG5.out.below' b6.out)
        have HN6 := hide (HN5.out.below' b6.out)
        clear b6 HB5 HG5 HN5 c0 c1 c2 c3
        obtain ⟨c0, c1, c2, c3⟩ := HN6.out.cells
        obtain ⟨d0, d1, d2, d3⟩ := HG6.out.cells
        have f1 := HG6.out.froz
        dsimp only at c0 c1 c2 c3 d0 d1 d2 d3
        go_wp2
        go_roundw
        case rel => exact ⟨⟨o2, k2, t2, u2⟩, l', rfl, hide ⟨put4_blk HG6.out ⟨o2, k2, t2, u2⟩, HRS.out.1, HRS.out.2, HKN.out⟩, hide (put4_below HB6.out (Nat.le_refl _) ⟨o2, k2, t2, u2⟩)⟩
        case measure => simp [intOf]
end Go.Proofs.Ytmkholgflhaacaa
