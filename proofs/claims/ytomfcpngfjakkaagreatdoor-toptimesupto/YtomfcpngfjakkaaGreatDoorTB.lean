/- begins: money.Text at -5 -/
import Derived.Test.YtomfcpngfjakkaaGreatDoorTM
namespace Go.Proofs.YtomfcpngfjakkaaGreatDoor
open Go.RowKit
set_option linter.unusedVariables false
abbrev POW (w : World) : Prop := Lib.TabIs Tryz.prog w "internal/strconv.uint64pow10" .u64 Lib.pow10Tab
theorem POW.below {w w1 : World} (h : POW w) (hb : Below w.heap.size w w1) : POW w1 := by
  unfold POW Lib.TabIs World.var? at *
  cases hg : Tryz.prog.globalNamed "internal/strconv.uint64pow10" with
  | none => simp [hg] at h
  | some g =>
    simp only [hg, Option.bind_some] at h ⊢
    have hlt : g < w.heap.size := by
      rcases Nat.lt_or_ge g w.heap.size with h' | h'
      · exact h'
      · rw [Array.getElem?_eq_none h'] at h; simp at h
    rw [hb.block g hlt]
    exact h
theorem amount5 (w : World) : Calls Tryz.prog 29 #[.int .i64 (-5)] w fun e w' => e = .returned (.int .u64 5) ∧ w' = w := by
  go_enter Tryz.func29, Tryz.ntmps29
  go_wp2
  go_ret
  exact ⟨rfl, rfl⟩
theorem dec105 : Lib.decDigits 105 = [49, 48, 53] := by decide +kernel
theorem dec0 : Lib.decDigits 0 = [48] := by decide +kernel
theorem text5 (w : World) (hP : POW w) : Calls Tryz.prog 14 #[.int .i64 (-5)] w fun e w' => e = .returned (.string ⟨#[45, 48, 46, 48, 53]⟩) ∧ Below w.heap.size w w' := by
  have A := hide amount5
  have F1 := hide (fun W (h : POW W) => format_any 105 (by omega) W h)
  have F2 := hide (fun W (h : POW W) => format_any 0 (by omega) W h)
  rw [dec105] at F1
  rw [dec0] at F2
  have HT := hide hP
  clear hP
  go_enter Tryz.func14, Tryz.ntmps14
  go_wp2_with fail
  refine (A.out _).mono ?_
  rintro e w' ⟨rfl, he'⟩
  obtain rfl := he'.symm
  clear he'
  go_wp2_with fail
  refine (F1.out _ HT.out).mono ?_
  rintro e w1 ⟨rfl, hb1⟩
  go_wp2_with fail
  refine (F2.out _ (POW.below HT.out hb1)).mono ?_
  rintro e w2 ⟨rfl, hb2⟩
  go_wp2
  go_ret
  exact ⟨rfl, hb1.trans (hb2.mono hb1.size)⟩
theorem begins_any (w : World) (hP : POW w) : Calls Tryz.prog 4 #[] w fun e w' => e = .returned (.bool true) ∧ Below w.heap.size w w' := by
  have T := hide (text5 w hP)
  clear hP
  go_enter Tryz.func4, Tryz.ntmps4
  go_wp2_with fail
  refine T.out.mono ?_
  rintro e w1 ⟨rfl, hb1⟩
  go_wp2
  go_ret
  exact ⟨rfl, hb1⟩
end Go.Proofs.YtomfcpngfjakkaaGreatDoor
