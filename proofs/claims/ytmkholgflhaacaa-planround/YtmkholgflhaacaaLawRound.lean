/- PlanRound, walked -/
import Derived.Test.YtmkholgflhaacaaH
namespace Go.Proofs.Ytmkholgflhaacaa
open Go.RowKit
set_option linter.unusedVariables false
/-- a right saga that goes on, of a checkout or what has its steps: what is next turns it -/
theorem round_facts {s : Sg} (h : rightB s = true) (hu : s.u = false) (h3 : ¬ s.k = 3) : (s.at' = nL s.k ∧ nextR s = ⟨0, false, 0⟩) ∨ (∃ x, nextR s = ⟨x, true, 0⟩ ∧ tuB x = true ∧ advR s false = ({ s with u := true }, 0) ∧ leftR { s with u := true } = (s.at', 0)) := by
  obtain ⟨o, k, t, u⟩ := s
  dsimp only at hu h3
  subst hu
  have hd := of_decide_eq_true h
  dsimp only at hd
  have hk1 : k = 1 := by
    have h1 := hd.1.1
    have h2 : ¬ k = 2 := fun e => absurd (hd.2.1 e) (by simp)
    unfold nL stepsL at h1
    by_cases e : k = 1
    · exact e
    · rw [if_neg (by simp [e, h2]), if_neg h3] at h1
      exact absurd rfl h1
  subst hk1
  have ht := hd.1.2
  rw [show nL 1 = 5 from rfl] at ht
  rcases (by omega : t = 0 ∨ t = 1 ∨ t = 2 ∨ t = 3 ∨ t = 4 ∨ t = 5) with rfl | rfl | rfl | rfl | rfl | rfl
  · exact .inr ⟨1, rfl, rfl, rfl, rfl⟩
  · exact .inr ⟨2, rfl, rfl, rfl, rfl⟩
  · exact .inr ⟨3, rfl, rfl, rfl, rfl⟩
  · exact .inr ⟨4, rfl, rfl, rfl, rfl⟩
  · exact .inr ⟨5, rfl, rfl, rfl, rfl⟩
  · exact .inl ⟨rfl, rfl⟩
set_option maxRecDepth 8000 in
set_option maxHeartbeats 1000000 in
theorem roundWalk (s : Sg) (w : World) (hs : i64B s.od ∧ u8B s.k ∧ i64B s.at') : Calls Try.prog 7 #[vg s] w fun e w' => e = .returned (.bool true) ∧ Below w.heap.size w w' := by
  have HLV := hide lives_any
  have HK := hide hs.2.1
  clear hs
  by_cases hg : rightB s = true ∧ s.u = false ∧ ¬ s.k = 3
  · obtain ⟨hr, hu, h3⟩ := hg
    have hc : checkE s = 0 := by unfold checkE; rw [hr]; rfl
    have HCK := hide (fun W => check_at hc HK.out W)
    rcases round_facts hr hu h3 with ⟨hat, hn⟩ | ⟨x, hn, htu, had, hle⟩
    · have HNX := hide (fun W => next_at hn HK.out W)
      have HST := hide (steps_at s.k HK.out)
      obtain ⟨o, k, t, u⟩ := s
      dsimp only at *
      subst hu
      generalize nL k = N at *
      subst hat
      clear hr hc hn
      have HB0 : Hid (Below w.heap.size w (w.alloc (.cells #[.int .i64 o, .int .u8 k, .int .i64 N, .bool false] 33))) := hide ((Below.refl _ w).alloc (Nat.le_refl _) _)
      have HG0 : Hid (Blk (w.alloc (.cells #[.int .i64 o, .int .u8 k, .int .i64 N, .bool false] 33)) w.heap.size ⟨o, k, N, false⟩) := hide (heap_alloc_new _ _)
      go_enter Try.func7, Try.ntmps7
      go_wp2_with fail
      generalize w.alloc (.cells #[.int .i64 o, .int .u8 k, .int .i64 N, .bool false] 33) = W0 at *
      refine (HLV.out W0).mono ?_
      rintro e w1 ⟨rfl, b1⟩
      have HB1 : Hid (Below w.heap.size w w1) := hide (HB0.out.trans (b1.mono HB0.out.size))
      have HG1 := hide (HG0.out.below' b1)
      clear b1 HB0 HG0
      obtain ⟨c0, c1, c2, c3⟩ := HG1.out.cells
      dsimp only at c0 c1 c2 c3
      go_wp2_with fail
      refine (HCK.out w1).mono ?_
      rintro e w2 ⟨rfl, b2⟩
      have HB2 : Hid (Below w.heap.size w w2) := hide (HB1.out.trans (b2.out.mono HB1.out.size))
      have HG2 := hide (HG1.out.below' b2.out)
      clear b2 HB1 HG1 c0 c1 c2 c3
      obtain ⟨c0, c1, c2, c3⟩ := HG2.out.cells
      dsimp only at c0 c1 c2 c3
      go_wp2_with fail
      refine (HNX.out w2).mono ?_
      rintro e w3 ⟨rfl, b3⟩
      have HB3 : Hid (Below w.heap.size w w3) := hide (HB2.out.trans (b3.out.mono HB2.out.size))
      have HG3 := hide (HG2.out.below' b3.out)
      clear b3 HB2 HG2 c0 c1 c2 c3
      have HS0 : Hid (∀ W : World, Below w3.heap.size w3 W → W.cell? ⟨w.heap.size, 1, none⟩ = some (.int .u8 k) ∧ W.cell? ⟨w.heap.size, 2, none⟩ = some (.int .i64 N)) := hide (fun W hW => by
        obtain ⟨_, d1, d2, _⟩ := (HG3.out.below' hW).cells
        exact ⟨d1, d2⟩)
      have HBR := hide (Below.refl w3.heap.size w3)
      go_wp2_with fail
      go_region_held (fun W : World => W.cell? ⟨w.heap.size, 1, none⟩ = some (.int .u8 k) ∧ W.cell? ⟨w.heap.size, 2, none⟩ = some (.int .i64 N)) (first | exact HS0.out _ HBR.out | exact HS0.out _ HBR.out.drew | exact HS0.out _ (HBR.out.drew.trans HB4)) (first | (go_at_call 11; refine (HST.out _).mono ?_; rintro e w4 ⟨a, c, rfl, HO, HB4⟩))
      go_wp2
      go_ret
      exact ⟨ret_bool (by simp), HB3.out.trans ((HBR.out.drew.trans HB4).mono HB3.out.size)⟩
    · have HNX := hide (fun W => next_at hn HK.out W)
      have HAD := hide (fun W => adv_at had HK.out W)
      have HLE := hide (fun W => left_at hle HK.out W)
      have HTU := hide (tu_any x)
      rw [htu] at HTU
      obtain ⟨o, k, t, u⟩ := s
      dsimp only at *
      subst hu
      clear hr hc hn had hle htu
      have HB0 : Hid (Below w.heap.size w (w.alloc (.cells #[.int .i64 o, .int .u8 k, .int .i64 t, .bool false] 33))) := hide ((Below.refl _ w).alloc (Nat.le_refl _) _)
      have HG0 : Hid (Blk (w.alloc (.cells #[.int .i64 o, .int .u8 k, .int .i64 t, .bool false] 33)) w.heap.size ⟨o, k, t, false⟩) := hide (heap_alloc_new _ _)
      go_enter Try.func7, Try.ntmps7
      go_wp2_with fail
      generalize w.alloc (.cells #[.int .i64 o, .int .u8 k, .int .i64 t, .bool false] 33) = W0 at *
      refine (HLV.out W0).mono ?_
      rintro e w1 ⟨rfl, b1⟩
      have HB1 : Hid (Below w.heap.size w w1) := hide (HB0.out.trans (b1.mono HB0.out.size))
      have HG1 := hide (HG0.out.below' b1)
      clear b1 HB0 HG0
      obtain ⟨c0, c1, c2, c3⟩ := HG1.out.cells
      dsimp only at c0 c1 c2 c3
      go_wp2_with fail
      refine (HCK.out w1).mono ?_
      rintro e w2 ⟨rfl, b2⟩
      have HB2 : Hid (Below w.heap.size w w2) := hide (HB1.out.trans (b2.out.mono HB1.out.size))
      have HG2 := hide (HG1.out.below' b2.out)
      clear b2 HB1 HG1 c0 c1 c2 c3
      obtain ⟨c0, c1, c2, c3⟩ := HG2.out.cells
      dsimp only at c0 c1 c2 c3
      go_wp2_with fail
      refine (HNX.out w2).mono ?_
      rintro e w3 ⟨rfl, b3⟩
      have HB3 : Hid (Below w.heap.size w w3) := hide (HB2.out.trans (b3.out.mono HB2.out.size))
      have HG3 := hide (HG2.out.below' b3.out)
      clear b3 HB2 HG2 c0 c1 c2 c3
      obtain ⟨c0, c1, c2, c3⟩ := HG3.out.cells
      dsimp only at c0 c1 c2 c3
      go_wp2_with fail
      refine (HAD.out w3).mono ?_
      rintro e w4 ⟨rfl, b4⟩
      have HB4 : Hid (Below w.heap.size w (w4.alloc (.cells #[.int .i64 o, .int .u8 k, .int .i64 t, .bool true] 33))) := hide (by
        have b := HB3.out.trans (b4.out.mono HB3.out.size)
        exact b.alloc b.size _)
      have HG4 : Hid (Blk (w4.alloc (.cells #[.int .i64 o, .int .u8 k, .int .i64 t, .bool true] 33)) w.heap.size ⟨o, k, t, false⟩) := hide (by
        have b := HG3.out.below' b4.out
        exact (Below.heap_alloc _ _ _ (heap_lt b)).trans b)
      have HT4 : Hid (Blk (w4.alloc (.cells #[.int .i64 o, .int .u8 k, .int .i64 t, .bool true] 33)) w4.heap.size ⟨o, k, t, true⟩) := hide (heap_alloc_new _ _)
      clear b4 HB3 HG3 c0 c1 c2 c3
      go_wp2_with fail
      generalize w4.alloc (.cells #[.int .i64 o, .int .u8 k, .int .i64 t, .bool true] 33) = W4 at *
      refine (HLE.out W4).mono ?_
      rintro e w5 ⟨rfl, b5⟩
      have HB5 : Hid (Below w.heap.size w w5) := hide (HB4.out.trans (b5.out.mono HB4.out.size))
      have HG5 := hide (HG4.out.below' b5.out)
      have HT5 := hide (HT4.out.below' b5.out)
      clear b5 HB4 HG4 HT4
      obtain ⟨c0, c1, c2, c3⟩ := HG5.out.cells
      obtain ⟨d0, d1, d2, d3⟩ := HT5.out.cells
      dsimp only at c0 c1 c2 c3 d0 d1 d2 d3
      go_wp2_with (first | (go_at_call 17; refine (HTU.out _).mono ?_; rintro e w' ⟨rfl, he'⟩; obtain rfl := he'.symm; clear he'))
      go_ret
      exact ⟨ret_bool (by simp), HB5.out⟩
  · have HCK := hide (check_any s HK.out)
    have HC2 := hide (checkE_cases s)
    have HBAD : Hid (¬ checkE s = 0 ∨ s.u = true ∨ s.k = 3) := hide (by
      rcases checkE_cases s with ⟨h1, h2⟩ | ⟨h1, h2⟩
      · cases hu : s.u
        · right; right
          exact Classical.byContradiction fun h3 => hg ⟨h1, hu, h3⟩
        · exact .inr (.inl rfl)
      · left; rw [h2]; decide)
    clear hg
    generalize checkE s = ce at *
    obtain ⟨o, k, t, u⟩ := s
    dsimp only at *
    have HB0 : Hid (Below w.heap.size w (w.alloc (.cells #[.int .i64 o, .int .u8 k, .int .i64 t, .bool u] 33))) := hide ((Below.refl _ w).alloc (Nat.le_refl _) _)
    have HG0 : Hid (Blk (w.alloc (.cells #[.int .i64 o, .int .u8 k, .int .i64 t, .bool u] 33)) w.heap.size ⟨o, k, t, u⟩) := hide (heap_alloc_new _ _)
    go_enter Try.func7, Try.ntmps7
    go_wp2_with fail
    generalize w.alloc (.cells #[.int .i64 o, .int .u8 k, .int .i64 t, .bool u] 33) = W0 at *
    refine (HLV.out W0).mono ?_
    rintro e w1 ⟨rfl, b1⟩
    have HB1 : Hid (Below w.heap.size w w1) := hide (HB0.out.trans (b1.mono HB0.out.size))
    have HG1 := hide (HG0.out.below' b1)
    clear b1 HB0 HG0
    obtain ⟨c0, c1, c2, c3⟩ := HG1.out.cells
    dsimp only at c0 c1 c2 c3
    go_wp2_with fail
    refine (HCK.out w1).mono ?_
    rintro e w2 ⟨rfl, b2⟩
    have HB2 : Hid (Below w.heap.size w w2) := hide (HB1.out.trans (b2.mono HB1.out.size))
    have HG2 := hide (HG1.out.below' b2)
    clear b2 HB1 HG1 c0 c1 c2 c3
    obtain ⟨c0, c1, c2, c3⟩ := HG2.out.cells
    dsimp only at c0 c1 c2 c3
    by_cases h1 : ce = 0
    · subst h1
      cases u
      · have h3 : k = 3 := by
          rcases HBAD.out with h | h | h
          · exact absurd rfl h
          · exact absurd h (by simp)
          · exact h
        subst h3
        go_wp2
        go_ret
        exact ⟨rfl, HB2.out⟩
      · go_wp2
        go_ret
        exact ⟨rfl, HB2.out⟩
    · have h1b : (ce != 0) = true := by simpa using h1
      go_wp2
      go_ret
      exact ⟨rfl, HB2.out⟩
end Go.Proofs.Ytmkholgflhaacaa
