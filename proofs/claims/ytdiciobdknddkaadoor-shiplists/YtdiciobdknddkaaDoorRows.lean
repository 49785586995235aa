/-
  NARROWER THAN 'FOR EVERY INPUT', by the rows' own cells (each row's printed sentence says how): ShipMoves: laid · ShipLists: laid · ShipEnds: laid · ShipAgrees: laid · ShipApart: laid.
  DERIVED. THE GIVEN ROWS OF THIS SEAT. 5 by the template 'for every input the law returns true; each argument reads behind the call as it read before'; 0 by the template 'total and deterministic' (their statements: YtdiciobdknddkaaDoorTotals.lean).
  GIVEN WITH THE SEED: the statements are not yours to turn. If you find one false, say at which input.
  Laid BY PROGRAM, IN A SANDBOX (cutbox-rows.mjs): the forced cells as the released guide's own fill.sh prints them over the translation 8b59d9e660800363… (all of the seat's roots in one cut). By AI agents, Wed Nov 11 2026. No macro, syntax, notation, axiom, sorry.
-/
import Derived.Test.YtdiciobdknddkaaDoorChecked
import GoSem.Claim
import GoSem.ClaimJoined
import GoSem.ClaimMapViews
import Derived.JoinedTies
import Derived.KernelRfl
namespace Go.Proofs.YtdiciobdknddkaaDoor
/- THE CELL 'sum', in the pinned program and in every row, IS THE sha256 OF THE DUMP (.gsa) THAT YtdiciobdknddkaaDoorProg.lean LOADS. Nothing in Lean hashes anything: it is a label: what it is worth is what the hold of that sum in a sandbox is worth. -/
noncomputable def Tryd.pinned : Pinned := { name := "ytdiciobdknddkaadoor", sum := "8b59d9e66080036324affc7f103eb9799add1658dbff7d13151dca645c6c1df4", checked := Tryd.checked }
namespace Rows
def none {H : Type} : Left H := { results := [], args := [] }

/- WHAT THE LISTED PACKAGE-LEVEL VARIABLES READ AS WHEN THE CALL BEGINS. Each datum BY PROGRAM (the guide's laid-datum.mjs) off the statement by which the dump's own 'gosem.cut.vars' lays the variable. In a bare row this is a premise. The card (YtdiciobdknddkaaDoorCards.lean) ties it to the program's text. -/
def laid_lading_ship_made {H : Type} : DataW H := .agg [.agg [.lit (.int .u8 0), .lit (.int .u8 1), .lit (.int .u8 0), .lit (.int .u8 0), .lit (.int .u8 0), .lit (.int .u8 0), .lit (.int .u8 0)], .agg [.lit (.int .u8 0), .lit (.int .u8 0), .lit (.int .u8 2), .lit (.int .u8 0), .lit (.int .u8 4), .lit (.int .u8 0), .lit (.int .u8 0)], .agg [.lit (.int .u8 0), .lit (.int .u8 0), .lit (.int .u8 0), .lit (.int .u8 3), .lit (.int .u8 0), .lit (.int .u8 5), .lit (.int .u8 0)], .agg [.lit (.int .u8 0), .lit (.int .u8 0), .lit (.int .u8 0), .lit (.int .u8 0), .lit (.int .u8 0), .lit (.int .u8 5), .lit (.int .u8 0)], .agg [.lit (.int .u8 0), .lit (.int .u8 0), .lit (.int .u8 0), .lit (.int .u8 0), .lit (.int .u8 0), .lit (.int .u8 0), .lit (.int .u8 0)], .agg [.lit (.int .u8 0), .lit (.int .u8 0), .lit (.int .u8 0), .lit (.int .u8 0), .lit (.int .u8 0), .lit (.int .u8 0), .lit (.int .u8 6)], .agg [.lit (.int .u8 0), .lit (.int .u8 0), .lit (.int .u8 0), .lit (.int .u8 0), .lit (.int .u8 0), .lit (.int .u8 0), .lit (.int .u8 0)]]

/-- 'ladinglaw15.ShipMoves': WHATEVER THE INPUT: true; the input reads as it did. -/
def shipMovesSpec : ChangeSpec := { name := "shipMoves", fn := fun _ => fun
  | [d1, d2] => { results := [.lit (.bool true)], args := [d1, d2] }
  | _ => none }
def shipMovesRow : OpenClaim := { program := "ytdiciobdknddkaadoor", sum := "8b59d9e66080036324affc7f103eb9799add1658dbff7d13151dca645c6c1df4", func := "lading/ladinglaw15.ShipMoves", spec := "shipMoves", unfollowed := true, recurses := true, named := ["lading/ship.made"], apart := false, laid := [("lading/ship.made", laid_lading_ship_made)] }
def ShipMovesSaid : Prop := shipMovesRow.holds Tryd.pinned (OpenSpec.ofChange shipMovesSpec)

/-- ITS FALSE NEIGHBOUR: 'it returns false'. Refute it at one input. -/
def shipMovesWrong : ChangeSpec := { name := "shipMoves", fn := fun _ => fun
  | [d1, d2] => { results := [.lit (.bool false)], args := [d1, d2] }
  | _ => none }
def ShipMovesWrongFalsely : Prop := shipMovesRow.holds Tryd.pinned (OpenSpec.ofChange shipMovesWrong)

/-- 'ladinglaw15.ShipLists': WHATEVER THE INPUT: true; the input reads as it did. -/
def shipListsSpec : ChangeSpec := { name := "shipLists", fn := fun _ => fun
  | [d1, d2, d3, d4] => { results := [.lit (.bool true)], args := [d1, d2, d3, d4] }
  | _ => none }
def shipListsRow : OpenClaim := { program := "ytdiciobdknddkaadoor", sum := "8b59d9e66080036324affc7f103eb9799add1658dbff7d13151dca645c6c1df4", func := "lading/ladinglaw15.ShipLists", spec := "shipLists", unfollowed := true, recurses := true, named := ["lading/ship.made"], apart := false, laid := [("lading/ship.made", laid_lading_ship_made)] }
def ShipListsSaid : Prop := shipListsRow.holds Tryd.pinned (OpenSpec.ofChange shipListsSpec)

/-- ITS FALSE NEIGHBOUR: 'it returns false'. Refute it at one input. -/
def shipListsWrong : ChangeSpec := { name := "shipLists", fn := fun _ => fun
  | [d1, d2, d3, d4] => { results := [.lit (.bool false)], args := [d1, d2, d3, d4] }
  | _ => none }
def ShipListsWrongFalsely : Prop := shipListsRow.holds Tryd.pinned (OpenSpec.ofChange shipListsWrong)

/-- 'ladinglaw15.ShipEnds': WHATEVER THE INPUT: true; the input reads as it did. -/
def shipEndsSpec : ChangeSpec := { name := "shipEnds", fn := fun _ => fun
  | [d1, d2, d3, d4] => { results := [.lit (.bool true)], args := [d1, d2, d3, d4] }
  | _ => none }
def shipEndsRow : OpenClaim := { program := "ytdiciobdknddkaadoor", sum := "8b59d9e66080036324affc7f103eb9799add1658dbff7d13151dca645c6c1df4", func := "lading/ladinglaw15.ShipEnds", spec := "shipEnds", unfollowed := true, recurses := true, named := ["lading/ship.made"], apart := false, laid := [("lading/ship.made", laid_lading_ship_made)] }
def ShipEndsSaid : Prop := shipEndsRow.holds Tryd.pinned (OpenSpec.ofChange shipEndsSpec)

/-- ITS FALSE NEIGHBOUR: 'it returns false'. Refute it at one input. -/
def shipEndsWrong : ChangeSpec := { name := "shipEnds", fn := fun _ => fun
  | [d1, d2, d3, d4] => { results := [.lit (.bool false)], args := [d1, d2, d3, d4] }
  | _ => none }
def ShipEndsWrongFalsely : Prop := shipEndsRow.holds Tryd.pinned (OpenSpec.ofChange shipEndsWrong)

/-- 'ladinglaw15.ShipAgrees': WHATEVER THE INPUT: true; the input reads as it did. -/
def shipAgreesSpec : ChangeSpec := { name := "shipAgrees", fn := fun _ => fun
  | [d1, d2, d3, d4] => { results := [.lit (.bool true)], args := [d1, d2, d3, d4] }
  | _ => none }
def shipAgreesRow : OpenClaim := { program := "ytdiciobdknddkaadoor", sum := "8b59d9e66080036324affc7f103eb9799add1658dbff7d13151dca645c6c1df4", func := "lading/ladinglaw15.ShipAgrees", spec := "shipAgrees", unfollowed := true, recurses := true, named := ["lading/ship.made"], apart := false, laid := [("lading/ship.made", laid_lading_ship_made)] }
def ShipAgreesSaid : Prop := shipAgreesRow.holds Tryd.pinned (OpenSpec.ofChange shipAgreesSpec)

/-- ITS FALSE NEIGHBOUR: 'it returns false'. Refute it at one input. -/
def shipAgreesWrong : ChangeSpec := { name := "shipAgrees", fn := fun _ => fun
  | [d1, d2, d3, d4] => { results := [.lit (.bool false)], args := [d1, d2, d3, d4] }
  | _ => none }
def ShipAgreesWrongFalsely : Prop := shipAgreesRow.holds Tryd.pinned (OpenSpec.ofChange shipAgreesWrong)

/-- 'ladinglaw15.ShipApart': WHATEVER THE INPUT: true; the input reads as it did. -/
def shipApartSpec : ChangeSpec := { name := "shipApart", fn := fun _ => fun
  | [d1, d2, d3, d4, d5] => { results := [.lit (.bool true)], args := [d1, d2, d3, d4, d5] }
  | _ => none }
def shipApartRow : OpenClaim := { program := "ytdiciobdknddkaadoor", sum := "8b59d9e66080036324affc7f103eb9799add1658dbff7d13151dca645c6c1df4", func := "lading/ladinglaw15.ShipApart", spec := "shipApart", unfollowed := true, recurses := true, named := ["lading/ship.made"], apart := false, laid := [("lading/ship.made", laid_lading_ship_made)] }
def ShipApartSaid : Prop := shipApartRow.holds Tryd.pinned (OpenSpec.ofChange shipApartSpec)

/-- ITS FALSE NEIGHBOUR: 'it returns false'. Refute it at one input. -/
def shipApartWrong : ChangeSpec := { name := "shipApart", fn := fun _ => fun
  | [d1, d2, d3, d4, d5] => { results := [.lit (.bool false)], args := [d1, d2, d3, d4, d5] }
  | _ => none }
def ShipApartWrongFalsely : Prop := shipApartRow.holds Tryd.pinned (OpenSpec.ofChange shipApartWrong)

/- THE SECOND FORM. 'bulk': how many values and letters a reading holds, each counted each time it is reached (what is shared counts as often as it is met; a slice's spare places count too). A statement '..UptoSaid' is the law's where the arguments, and the package variables that the reading takes, are together of bulk at most 1048576: NARROWER than '..Said'. Prove '..Said' where nothing that the law and all that it calls make is longer than what came in: it says more and counts as full. Else prove '..UptoSaid'. A law counts once. -/
mutual
def uptoBulk {H : Type} : DataW H → Nat
  | .lit (.string bytes) => bytes.length + 1
  | .lit _ => 1
  | .nil => 1
  | .ptr d => uptoBulk d + 1
  | .slice elems spare => uptoBulkAll elems + uptoBulkAll spare + 1
  | .agg parts => uptoBulkAll parts + 1
  | .iface _ d => uptoBulk d + 1
  | .map entries => uptoBulkEntries entries + 1
  | .held _ => 1
def uptoBulkAll {H : Type} : List (DataW H) → Nat
  | [] => 0
  | d :: r => uptoBulk d + uptoBulkAll r
def uptoBulkEntries {H : Type} : List (Lit × DataW H) → Nat
  | [] => 0
  | x :: r => uptoBulkEntry x + uptoBulkEntries r
def uptoBulkEntry {H : Type} : Lit × DataW H → Nat
  | (.string bytes, d) => bytes.length + uptoBulk d + 1
  | (_, d) => uptoBulk d + 1
 end
def uptoSmall : (H : Type) → List (DataW H) → Bool := fun _ ds => decide (uptoBulkAll ds ≤ 1048576)
def OpenSpec.upto (s : _root_.Go.ChangeSpec) : _root_.Go.OpenSpec := { _root_.Go.OpenSpec.ofChange s with cond := some uptoSmall }

/-- 'ladinglaw15.ShipMoves', WHERE WHAT IT READS IS OF BULK AT MOST 1048576: true; the input reads as it did. -/
def shipMovesUptoRow : OpenClaim := { program := "ytdiciobdknddkaadoor", sum := "8b59d9e66080036324affc7f103eb9799add1658dbff7d13151dca645c6c1df4", func := "lading/ladinglaw15.ShipMoves", spec := "shipMoves", unfollowed := true, recurses := true, named := ["lading/ship.made"], apart := false, laid := [("lading/ship.made", laid_lading_ship_made)], narrowed := true }
def ShipMovesUptoSaid : Prop := shipMovesUptoRow.holds Tryd.pinned (OpenSpec.upto shipMovesSpec)

/-- 'ladinglaw15.ShipLists', WHERE WHAT IT READS IS OF BULK AT MOST 1048576: true; the input reads as it did. -/
def shipListsUptoRow : OpenClaim := { program := "ytdiciobdknddkaadoor", sum := "8b59d9e66080036324affc7f103eb9799add1658dbff7d13151dca645c6c1df4", func := "lading/ladinglaw15.ShipLists", spec := "shipLists", unfollowed := true, recurses := true, named := ["lading/ship.made"], apart := false, laid := [("lading/ship.made", laid_lading_ship_made)], narrowed := true }
def ShipListsUptoSaid : Prop := shipListsUptoRow.holds Tryd.pinned (OpenSpec.upto shipListsSpec)

/-- 'ladinglaw15.ShipEnds', WHERE WHAT IT READS IS OF BULK AT MOST 1048576: true; the input reads as it did. -/
def shipEndsUptoRow : OpenClaim := { program := "ytdiciobdknddkaadoor", sum := "8b59d9e66080036324affc7f103eb9799add1658dbff7d13151dca645c6c1df4", func := "lading/ladinglaw15.ShipEnds", spec := "shipEnds", unfollowed := true, recurses := true, named := ["lading/ship.made"], apart := false, laid := [("lading/ship.made", laid_lading_ship_made)], narrowed := true }
def ShipEndsUptoSaid : Prop := shipEndsUptoRow.holds Tryd.pinned (OpenSpec.upto shipEndsSpec)

/-- 'ladinglaw15.ShipAgrees', WHERE WHAT IT READS IS OF BULK AT MOST 1048576: true; the input reads as it did. -/
def shipAgreesUptoRow : OpenClaim := { program := "ytdiciobdknddkaadoor", sum := "8b59d9e66080036324affc7f103eb9799add1658dbff7d13151dca645c6c1df4", func := "lading/ladinglaw15.ShipAgrees", spec := "shipAgrees", unfollowed := true, recurses := true, named := ["lading/ship.made"], apart := false, laid := [("lading/ship.made", laid_lading_ship_made)], narrowed := true }
def ShipAgreesUptoSaid : Prop := shipAgreesUptoRow.holds Tryd.pinned (OpenSpec.upto shipAgreesSpec)

/-- 'ladinglaw15.ShipApart', WHERE WHAT IT READS IS OF BULK AT MOST 1048576: true; the input reads as it did. -/
def shipApartUptoRow : OpenClaim := { program := "ytdiciobdknddkaadoor", sum := "8b59d9e66080036324affc7f103eb9799add1658dbff7d13151dca645c6c1df4", func := "lading/ladinglaw15.ShipApart", spec := "shipApart", unfollowed := true, recurses := true, named := ["lading/ship.made"], apart := false, laid := [("lading/ship.made", laid_lading_ship_made)], narrowed := true }
def ShipApartUptoSaid : Prop := shipApartUptoRow.holds Tryd.pinned (OpenSpec.upto shipApartSpec)

end Rows
end Go.Proofs.YtdiciobdknddkaaDoor
