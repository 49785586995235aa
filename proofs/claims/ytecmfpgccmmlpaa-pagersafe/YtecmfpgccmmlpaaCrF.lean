/- contracts: lives -/
import Derived.Test.YtecmfpgccmmlpaaCrE
import Derived.Lib.SlBytesConst
import Derived.Laws.BytesArg
namespace Go.Proofs.Ytecmfpgccmmlpaa
open Go.RowKit
set_option maxRecDepth 40000
theorem mem_app {l : List Nat} (c : Nat) (h : ∀ x ∈ l, x < 256) : ∀ x ∈ l ++ le c, x < 256 := by
  intro x hx
  rcases List.mem_append.1 hx with h1 | h1
  · exact h x h1
  · exact le_lt _ x h1
theorem crc_check : Crc.update 0 [49, 50, 51, 52, 53, 54, 55, 56, 57] = 3421780262 := by decide +kernel
theorem crc_ab : List.drop (6 - 4) ([97, 98] ++ le (Crc.update 0 [97, 98])) = le (Crc.update 0 (List.take (6 - 4) ([97, 98] ++ le (Crc.update 0 [97, 98])))) := rfl
theorem crc_abcd : List.drop (4 - 4) [97, 98, 96, 100] ≠ le (Crc.update 0 (List.take (4 - 4) [97, 98, 96, 100])) := by decide +kernel
end Go.Proofs.Ytecmfpgccmmlpaa
