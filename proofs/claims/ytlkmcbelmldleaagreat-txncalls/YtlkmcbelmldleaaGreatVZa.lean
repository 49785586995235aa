/- the document's asked, seen, Get, Last -/
import Derived.Test.YtlkmcbelmldleaaGreatVYd
namespace Go.Proofs.YtlkmcbelmldleaaGreat
open Go.RowKit
set_option maxRecDepth 40000
end Go.Proofs.YtlkmcbelmldleaaGreat
