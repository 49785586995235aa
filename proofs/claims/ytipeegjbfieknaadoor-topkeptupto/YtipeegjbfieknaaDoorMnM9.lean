/- contracts: Same, lives -/
import Derived.Test.YtipeegjbfieknaaDoorMnM8
namespace Go.Proofs.YtipeegjbfieknaaDoor.Mn
open Go.RowKit Go.Shelf Go.Sort Go.Lib
set_option maxRecDepth 40000
theorem share_100 : share 100 [1, 1, 1] = [34, 33, 33] := by decide
theorem par_1230 : par [49, 50, 46, 51, 48] = (1230, 0) := by decide +kernel
theorem txt_5 : txt (-5) = [45, 48, 46, 48, 53] := by
  unfold txt body
  rw [if_pos (by decide), show (-5 : Int).natAbs / 100 = 0 from rfl, dec_small 0 (by decide)]
  rfl
end Go.Proofs.YtipeegjbfieknaaDoor.Mn
