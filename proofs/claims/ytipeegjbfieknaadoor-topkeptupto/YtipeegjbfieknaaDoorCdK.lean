/- bytes in memory: the kit of this seat -/
import Derived.Test.YtipeegjbfieknaaDoorK
import Derived.Test.YtipeegjbfieknaaDoorCdMath
import Derived.WalkKit
import Derived.WalkSpells
import Derived.WalkLawsBesides
import Derived.Outline
import Derived.Laws.CopyOwn
import Derived.Laws.AppendOwnNone
import Derived.Deep.DeepAppendRoom
import Derived.OpenShut
import Derived.Deep.QuietTactic
import Derived.BigQuiet
import Derived.Lib.SlBytesConst
import Derived.Laws.BytesArg
namespace Go.Proofs.YtipeegjbfieknaaDoor
open Go.RowKit
set_option maxRecDepth 40000
end Go.Proofs.YtipeegjbfieknaaDoor
