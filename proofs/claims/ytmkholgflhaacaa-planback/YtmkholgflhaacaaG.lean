/- lives, Same; PlanRound, PlanUndone, PlanSteps, PlanTables, walked -/
import Derived.Test.YtmkholgflhaacaaF
namespace Go.Proofs.Ytmkholgflhaacaa
open Go.RowKit
set_option linter.unusedVariables false
theorem adv_at {s s' : Sg} {d : Bool} {er : Int} (hR : advR s d = (s', er)) (hk : u8B s.k) (w : World) : Calls Try.prog 21 #[vg s, .bool d] w fun e w' => e = .returned (.tuple #[vg s', .int .i64 er]) ∧ Hid (Below w.heap.size w w') := by
  have := adv_any s d hk w
  rw [hR] at this
  exact this
theorem next_at {s : Sg} {x y : Int} {b : Bool} (hR : nextR s = ⟨x, b, y⟩) (hk : u8B s.k) (w : World) : Calls Try.prog 19 #[vg s] w fun e w' => e = .returned (.tuple #[.int .u8 x, .bool b, .int .i64 y]) ∧ Hid (Below w.heap.size w w') := by
  have := next_any s hk w
  rw [hR] at this
  exact this
theorem left_at {s : Sg} {x y : Int} (hR : leftR s = (x, y)) (hk : u8B s.k) (w : World) : Calls Try.prog 23 #[vg s] w fun e w' => e = .returned (.tuple #[.int .i64 x, .int .i64 y]) ∧ Hid (Below w.heap.size w w') := by
  have := left_any s hk w
  rw [hR] at this
  exact this
theorem check_at {s : Sg} {x : Int} (hR : checkE s = x) (hk : u8B s.k) (w : World) : Calls Try.prog 25 #[vg s] w fun e w' => e = .returned (.int .i64 x) ∧ Hid (Below w.heap.size w w') := by
  have := check_any s hk w
  rw [hR] at this
  exact this
theorem lives_any (w : World) : Calls Try.prog 14 #[] w fun e w' => e = .returned (.bool true) ∧ Below w.heap.size w w' := by
  have hk : u8B 1 := by unfold u8B; omega
  have A1 := hide (fun W => adv_at (s := ⟨1, 1, 2, false⟩) (s' := ⟨1, 1, 2, true⟩) (d := false) (er := 0) rfl hk W)
  have N1 := hide (fun W => next_at (s := ⟨1, 1, 2, true⟩) (x := 7) (b := true) (y := 0) rfl hk W)
  have L1 := hide (fun W => left_at (s := ⟨1, 1, 2, false⟩) (x := 3) (y := 0) rfl hk W)
  have S3 := hide (fun W => steps_at 3 (by unfold u8B; omega) W)
  rw [show nL 3 = 3 from rfl] at S3
  have HB0 : Hid (Below w.heap.size w (w.alloc (.cells #[.int .i64 1, .int .u8 1, .int .i64 2, .bool false] 33))) := hide ((Below.refl _ w).alloc (Nat.le_refl _) _)
  have HG0 : Hid (Blk (w.alloc (.cells #[.int .i64 1, .int .u8 1, .int .i64 2, .bool false] 33)) w.heap.size ⟨1, 1, 2, false⟩) := hide (heap_alloc_new _ _)
  clear hk
  go_enter Try.func14, Try.ntmps14
  go_wp2_with fail
  generalize w.alloc (.cells #[.int .i64 1, .int .u8 1, .int .i64 2, .bool false] 33) = W0 at *
  refine (A1.out W0).mono ?_
  rintro e w1 ⟨rfl, B1⟩
  have HB1 : Hid (Below w.heap.size w (w1.alloc (.cells #[.int .i64 1, .int .u8 1, .int .i64 2, .bool true] 33))) := hide (by
    have b := HB0.out.trans (B1.out.mono HB0.out.size)
    exact b.alloc b.size _)
  have HG1 : Hid (Blk (w1.alloc (.cells #[.int .i64 1, .int .u8 1, .int .i64 2, .bool true] 33)) w.heap.size ⟨1, 1, 2, false⟩) := hide (by
    have b := HG0.out.below' B1.out
    exact (Below.heap_alloc _ _ _ (heap_lt b)).trans b)
  have HT1 : Hid (Blk (w1.alloc (.cells #[.int .i64 1, .int .u8 1, .int .i64 2, .bool true] 33)) w1.heap.size ⟨1, 1, 2, true⟩) := hide (heap_alloc_new _ _)
  clear HB0 HG0 B1
  go_wp2_with fail
  generalize w1.alloc (.cells #[.int .i64 1, .int .u8 1, .int .i64 2, .bool true] 33) = W1 at *
  refine (N1.out W1).mono ?_
  rintro e w2 ⟨rfl, B2⟩
  have HG2 := hide (HG1.out.below' B2.out)
  have HT2 := hide (HT1.out.below' B2.out)
  have HB2 : Hid (Below w.heap.size w w2) := hide (HB1.out.trans (B2.out.mono HB1.out.size))
  clear HG1 HT1 HB1 B2
  obtain ⟨c0, c1, c2, c3⟩ := HG2.out.cells
  dsimp only at c0 c1 c2 c3
  go_wp2_with fail
  refine (L1.out w2).mono ?_
  rintro e w3 ⟨rfl, B3⟩
  have HT3 := hide (HT2.out.below' B3.out)
  have HB3 : Hid (Below w.heap.size w w3) := hide (HB2.out.trans (B3.out.mono HB2.out.size))
  clear HG2 HT2 HB2 B3 c0 c1 c2 c3
  obtain ⟨c0, c1, c2, c3⟩ := HT3.out.cells
  dsimp only at c0 c1 c2 c3
  go_wp2_with (first | (go_at_call 11; refine (S3.out _).mono ?_; rintro e w4 ⟨a, c, rfl, HO, HB4⟩))
  go_ret
  exact ⟨rfl, HB3.out.trans (HB4.mono HB3.out.size)⟩
/-- the document's Same, at like rows -/
theorem same_any (xs : List Int) (v v' : Value) (b b' : Nat) (w : World) (hn : xs.length ≤ 100) (h : OwnK w b v xs) (h' : OwnK w b' v' xs) : Calls Try.prog 12 #[v, v'] w fun e w' => e = .returned (.bool true) ∧ Below w.heap.size w w' := by
  obtain ⟨a, c, rfl, hc⟩ := h.form
  obtain ⟨a', c', rfl, hc'⟩ := h'.form
  have HC := hide hc
  have HC' := hide hc'
  clear h h' hc hc'
  generalize hN : xs.length = N at *
  have hN' : (N : Int) ≤ 100 := by omega
  clear hN
  go_enter Try.func12, Try.ntmps12
  go_wp2
  go_loopw [13] (fun i wr => ∃ k : Nat, k ≤ N ∧ i = .int .i64 k ∧ (∀ q j, wr.cell? ⟨q, j, none⟩ = w.cell? ⟨q, j, none⟩) ∧ Hid (Below w.heap.size w wr)) (fun i _ => N - (intOf i).toNat)
  case atStart => exact ⟨0, Nat.zero_le _, rfl, fun _ _ => rfl, hide (Below.refl _ _)⟩
  case round =>
    obtain ⟨k, hk, rfl, hsame, HB⟩ := hrel
    by_cases hlt : k < N
    · obtain ⟨g, rfl, _, _, hg, _⟩ := HC.out k hlt
      obtain ⟨g', rfl, _, _, hg', _⟩ := HC'.out k hlt
      generalize xs.getD k 0 = x at *
      have hkc : (k : Int) < N := by omega
      have HS : Hid (wr.drew.cell? ⟨g, k, none⟩ = some (.int .u8 x) ∧ wr.drew.cell? ⟨g', k, none⟩ = some (.int .u8 x)) := hide ⟨(hsame g k).trans hg, (hsame g' k).trans hg'⟩
      have HSM : Hid (∀ q j, wr.drew.cell? ⟨q, j, none⟩ = w.cell? ⟨q, j, none⟩) := hide (fun q j => hsame q j)
      have HBD : Hid (Below w.heap.size w wr.drew) := hide HB.out.drew
      clear hsame hg hg'
      go_wp2_with fail
      go_region_held (fun W : World => W.cell? ⟨g, k, none⟩ = some (.int .u8 x) ∧ W.cell? ⟨g', k, none⟩ = some (.int .u8 x)) (exact HS.out) (fail)
      go_wp2
      go_roundw
      case rel => exact ⟨k + 1, by omega, by simp, HSM.out, HBD⟩
      case measure => simp [intOf]; omega
    · obtain rfl : k = N := by omega
      go_wp2
      go_ret
      exact ⟨rfl, HB.out⟩
end Go.Proofs.Ytmkholgflhaacaa
