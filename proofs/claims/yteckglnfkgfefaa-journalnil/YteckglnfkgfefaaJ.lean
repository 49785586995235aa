/- J Qx -/
import Derived.Shelf.SlGeneric
import Derived.Shelf.SlIterI.Nil
import Derived.Shelf.SortM.Plain
import Derived.Shelf.SortM.SortNone
import Derived.Ground.GgzProg
import Derived.Ground.SlgmProg
import Derived.Test.YteckglnfkgfefaaRows
import Derived.Test.YteckglnfkgfefaaPx
import Derived.Lib.SlKeysI
/-
  DERIVED: THE SHELF's CONTRACTS AT THIS DUMP, IN PLAIN WORDS (tools/lay-plain.mjs out of 'YteckglnfkgfefaaJ0.lean', which tools/lay-shelf.mjs wrote): THE SAME DECLARATIONS UNDER THE SAME NAMES: 'import', 'namespace', 'open', 'def', 'theorem' AND NOTHING ELSE: no command of the shelf's: FOR A HAND-IN. Each laying: the table of numbers ('.._ren') and one theorem, a field a fact of the dump's own or the kernel's comparison; each contract: ONE APPLICATION.
-/
namespace Go.Proofs
open Go.Shelf
def Try.keysA_ren : Go.Shelf.Ren := ⟨fun | 7 => 75 | 10 => 88 | n => n, fun | 23 => 74 | 26 => 3 | 3 => 34 | 28 => 119 | 0 => 0 | 27 => 118 | 33 => 122 | 4 => 4 | n => n, fun | n => n⟩
def Try.sortedA_ren : Go.Shelf.Ren := ⟨fun | 6 => 74 | 8 => 86 | 9 => 87 | 11 => 93 | 13 => 95 | 12 => 94 | 23 => 108 | 24 => 109 | 14 => 99 | 15 => 100 | 16 => 101 | 17 => 102 | 18 => 103 | 19 => 104 | 20 => 105 | 21 => 106 | 22 => 107 | 25 => 111 | 26 => 112 | 27 => 113 | 28 => 114 | 29 => 115 | 30 => 116 | 31 => 117 | n => n, fun | 26 => 3 | 28 => 119 | 24 => 88 | 0 => 0 | 3 => 3 | 37 => 110 | 48 => 99 | 50 => 23 | 4 => 4 | 40 => 143 | 39 => 142 | 45 => 148 | 5 => 5 | 9 => 9 | 51 => 151 | 55 => 154 | 57 => 156 | 58 => 157 | 33 => 122 | n => n, fun | n => n⟩
def Try.sortA_ren : Go.Shelf.Ren := ⟨fun | 5 => 87 | 8 => 95 | 7 => 94 | 19 => 108 | 20 => 109 | 10 => 99 | 11 => 100 | 12 => 101 | 13 => 102 | 14 => 103 | 15 => 104 | 16 => 105 | 17 => 106 | 18 => 107 | 30 => 111 | 31 => 112 | 32 => 113 | 33 => 114 | 34 => 115 | 35 => 116 | 40 => 117 | n => n, fun | 23 => 88 | 25 => 3 | 3 => 3 | 32 => 110 | 22 => 88 | 0 => 0 | 44 => 99 | 46 => 23 | 4 => 4 | 36 => 143 | 35 => 142 | 41 => 148 | 5 => 5 | 9 => 9 | 53 => 151 | 57 => 154 | 63 => 156 | 64 => 157 | n => n, fun | n => n⟩
end Go.Proofs
/- contracts: Unsynced -/
namespace Go.Proofs.Yteckglnfkgfefaa
open Go.RowKit Go.Maps Go.Sort Go.Shelf
variable {X : Nat → Prop}
def St.uns (st : St) (n : Nat) : List Nat := (List.range n).filter (fun k => (st.fr k).isSome)
def St.unsI (st : St) (n : Nat) : List Int := (st.uns n).map (fun k : Nat => (k : Int))
end Go.Proofs.Yteckglnfkgfefaa
