/- NodeSame's walk, as its frame asks it -/
import Derived.Test.YtebikoekpbnpbaaLawSame
import Derived.Test.YtebikoekpbnpbaaNX
namespace Go.Proofs.Ytebikoekpbnpbaa
open Go.RowKit Cod
theorem same_law (ka : Option Addr) (kn kc : Nat) (K : List (List Nat)) (va : Option Addr) (vn vc : Nat) (V : List (List Nat)) (y : Int) (w : World) (hK : IsL w ka kn kc K) (hkn : kn ≤ 2000000) (hV : IsL w va vn vc V) (hvn : vn ≤ 2000000) (hy : (Lit.int .i64 y).wf = true) :
    Calls Try.prog 10 #[.slice ka kn kc, .slice va vn vc, .int .i64 y] w fun e w' => e = .returned (.bool true) ∧ Below w.heap.size w w' := same_any ka kn kc K va vn vc V y w hK hV (owf_i64 hy) hkn hvn
end Go.Proofs.Ytebikoekpbnpbaa
