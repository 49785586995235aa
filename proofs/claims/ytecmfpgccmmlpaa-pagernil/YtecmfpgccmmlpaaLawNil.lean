/- PagerNil, walked -/
import Derived.Test.YtecmfpgccmmlpaaPr
namespace Go.Proofs.Ytecmfpgccmmlpaa
open Go.RowKit
set_option maxRecDepth 100000
set_option linter.unusedVariables false
set_option linter.unusedSimpArgs false
theorem keep_nil (v : Value) (w : World) : Calls Try.prog 28 #[.pointer none, v] w fun e w' => e = .returned (.int .i64 1) ∧ w' = w := by
  go_enter Try.func28, Try.ntmps28
  go_wp2_with fail
  refine (pready_nil _).mono ?_
  rintro e w1 ⟨rfl, rfl⟩
  go_wp2
  go_ret
  exact ⟨rfl, rfl⟩
set_option maxHeartbeats 2000000 in
theorem nilWalk (page : Int) (seq : Nat) (w : World) (hp : -9223372036854775808 ≤ page ∧ page ≤ 9223372036854775807) : Calls Try.prog 6 #[.int .i64 page, .int .u64 (seq : Nat)] w fun e w' => e = .returned (.bool true) ∧ Below w.heap.size w w' := by
  clear hp
  go_enter Try.func6, Try.ntmps6
  go_wp2_with fail
  refine (open_nil w).mono ?_
  rintro e w1 ⟨rfl, rfl⟩
  go_wp2_with fail
  refine (alloc_nil w1).mono ?_
  rintro e w2 ⟨rfl, rfl⟩
  go_wp2_with fail
  refine (page_nil page w2).mono ?_
  rintro e w3 ⟨rfl, hb3⟩
  have HB3 := hide hb3
  clear hb3
  go_wp2_with fail
  refine (lives_any w3).mono ?_
  rintro e w4 ⟨rfl, hb4⟩
  have HB4 := hide (HB3.out.trans (hb4.mono HB3.out.size))
  clear hb4 HB3
  go_wp2_with fail
  refine (format_nil page w4).mono ?_
  rintro e w5 ⟨rfl, rfl⟩
  go_wp2_with fail
  refine (keep_nil _ w5).mono ?_
  rintro e w6 ⟨rfl, rfl⟩
  go_wp2_with fail
  refine (free_nil page w6).mono ?_
  rintro e w7 ⟨rfl, hb7⟩
  have HB7 := hide (HB4.out.trans (hb7.mono HB4.out.size))
  clear hb7 HB4
  go_wp2_with fail
  refine (pwrite_nil page _ w7).mono ?_
  rintro e w8 ⟨rfl, hb8⟩
  have HB8 := hide (HB7.out.trans (hb8.mono HB7.out.size))
  clear hb8 HB7
  go_wp2_with fail
  refine (commit_nil page seq 0 w8).mono ?_
  rintro e w9 ⟨rfl, rfl⟩
  go_wp2_with fail
  refine (super_nil w9).mono ?_
  rintro e w10 ⟨rfl, hb10⟩
  have HB10 := hide (HB8.out.trans (hb10.mono HB8.out.size))
  clear hb10 HB8
  unfold supV supC sup0
  dsimp only
  go_wp2_with fail
  refine (pages_nil w10).mono ?_
  rintro e w11 ⟨rfl, rfl⟩
  go_wp2_with fail
  refine (used_nil w11).mono ?_
  rintro e w12 ⟨rfl, rfl⟩
  go_wp2
  go_ret
  exact ⟨rfl, HB10.out⟩
end Go.Proofs.Ytecmfpgccmmlpaa
