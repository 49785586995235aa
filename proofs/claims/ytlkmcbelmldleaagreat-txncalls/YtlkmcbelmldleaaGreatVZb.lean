/- the document's seen, Get -/
import Derived.Test.YtlkmcbelmldleaaGreatVZa
namespace Go.Proofs.YtlkmcbelmldleaaGreat
open Go.RowKit
set_option maxRecDepth 40000
end Go.Proofs.YtlkmcbelmldleaaGreat
