/- contracts: Seal -/
import Derived.Test.YteckglnfkgfefaaCrC
import Derived.Laws.CopyOwn
import Derived.Laws.AppendOwnNone
import Derived.Deep.DeepAppendRoom
namespace Go.Proofs.Yteckglnfkgfefaa
open Go.RowKit
set_option maxRecDepth 40000
/-- the four bytes of a checksum, the lowest one first -/
def le (c : Nat) : List Nat := [c % 256, c / 256 % 256, c / 65536 % 256, c / 16777216 % 256]
end Go.Proofs.Yteckglnfkgfefaa
