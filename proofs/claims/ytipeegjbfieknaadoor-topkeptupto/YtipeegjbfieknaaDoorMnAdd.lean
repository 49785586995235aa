/-
  DERIVED: THE SHELF's CONTRACTS AT THIS DUMP, IN PLAIN WORDS (tools/lay-plain.mjs out of 'TrydAdd.lean', which tools/lay-shelf.mjs wrote): THE SAME DECLARATIONS UNDER THE SAME NAMES: 'import', 'namespace', 'open', 'def', 'theorem' AND NOTHING ELSE: no command of the shelf's: FOR A HAND-IN. Each laying: the table of numbers ('.._ren') and one theorem, a field a fact of the dump's own or the kernel's comparison; each contract: ONE APPLICATION.
-/
import Derived.Shelf.Spec.BitsCarry
import Derived.Test.YtipeegjbfieknaaDoorProg
namespace Go.Proofs
open Go.Shelf
set_option maxRecDepth 40000
def Tryd.lays25_ren : Go.Shelf.Ren := ⟨fun | 25 => 45 | n => n, fun | 22 => 44 | n => n, fun | n => n⟩
end Go.Proofs
