/-
  No cell of these rows narrows 'for every input' (looked for: loops, veiled, ifaces, maps, wideKeys, modest, calm, conditions, laid).
  DERIVED. THE GIVEN ROWS OF THIS SEAT. 6 by the template 'for every input the law returns true; each argument reads behind the call as it read before'; 0 by the template 'total and deterministic' (their statements: YtecmfpgccmmlpaaTotals.lean).
  GIVEN WITH THE SEED: the statements are not yours to turn. If you find one false, say at which input.
  Laid BY PROGRAM, IN A SANDBOX (cutbox-rows.mjs): the forced cells as the released guide's own fill.sh prints them over the translation 9394fc67504d06ff… (all of the seat's roots in one cut). By AI agents, Wed Nov 11 2026. No macro, syntax, notation, axiom, sorry.
-/
import Derived.Test.YtecmfpgccmmlpaaChecked
import GoSem.Claim
import GoSem.ClaimJoined
import GoSem.ClaimMapViews
import Derived.JoinedTies
import Derived.KernelRfl
namespace Go.Proofs.Ytecmfpgccmmlpaa
/- THE CELL 'sum', in the pinned program and in every row, IS THE sha256 OF THE DUMP (.gsa) THAT YtecmfpgccmmlpaaProg.lean LOADS. Nothing in Lean hashes anything: it is a label: what it is worth is what the hold of that sum in a sandbox is worth. -/
noncomputable def Try.pinned : Pinned := { name := "ytecmfpgccmmlpaa", sum := "9394fc67504d06ff42c8f85ed1ba2c5132d4d4d236bd1cee6611628742ae19d4", checked := Try.checked }
namespace Rows
def none {H : Type} : Left H := { results := [], args := [] }

/-- 'ladinglaw07.PagerSupers': WHATEVER THE INPUT: true; the input reads as it did. -/
def pagerSupersSpec : ChangeSpec := { name := "pagerSupers", fn := fun _ => fun
  | [d1, d2] => { results := [.lit (.bool true)], args := [d1, d2] }
  | _ => none }
def pagerSupersRow : OpenClaim := { program := "ytecmfpgccmmlpaa", sum := "9394fc67504d06ff42c8f85ed1ba2c5132d4d4d236bd1cee6611628742ae19d4", func := "lading/ladinglaw07.PagerSupers", spec := "pagerSupers", unfollowed := true, recurses := true, apart := false }
def PagerSupersSaid : Prop := pagerSupersRow.holds Try.pinned (OpenSpec.ofChange pagerSupersSpec)

/-- ITS FALSE NEIGHBOUR: 'it returns false'. Refute it at one input. -/
def pagerSupersWrong : ChangeSpec := { name := "pagerSupers", fn := fun _ => fun
  | [d1, d2] => { results := [.lit (.bool false)], args := [d1, d2] }
  | _ => none }
def PagerSupersWrongFalsely : Prop := pagerSupersRow.holds Try.pinned (OpenSpec.ofChange pagerSupersWrong)

/-- 'ladinglaw07.PagerFlip': WHATEVER THE INPUT: true; the input reads as it did. -/
def pagerFlipSpec : ChangeSpec := { name := "pagerFlip", fn := fun _ => fun
  | [d1, d2, d3, d4, d5, d6] => { results := [.lit (.bool true)], args := [d1, d2, d3, d4, d5, d6] }
  | _ => none }
def pagerFlipRow : OpenClaim := { program := "ytecmfpgccmmlpaa", sum := "9394fc67504d06ff42c8f85ed1ba2c5132d4d4d236bd1cee6611628742ae19d4", func := "lading/ladinglaw07.PagerFlip", spec := "pagerFlip", unfollowed := true, recurses := true, apart := false }
def PagerFlipSaid : Prop := pagerFlipRow.holds Try.pinned (OpenSpec.ofChange pagerFlipSpec)

/-- ITS FALSE NEIGHBOUR: 'it returns false'. Refute it at one input. -/
def pagerFlipWrong : ChangeSpec := { name := "pagerFlip", fn := fun _ => fun
  | [d1, d2, d3, d4, d5, d6] => { results := [.lit (.bool false)], args := [d1, d2, d3, d4, d5, d6] }
  | _ => none }
def PagerFlipWrongFalsely : Prop := pagerFlipRow.holds Try.pinned (OpenSpec.ofChange pagerFlipWrong)

/-- 'ladinglaw07.PagerApart': WHATEVER THE INPUT: true; the input reads as it did. -/
def pagerApartSpec : ChangeSpec := { name := "pagerApart", fn := fun _ => fun
  | [d1, d2, d3] => { results := [.lit (.bool true)], args := [d1, d2, d3] }
  | _ => none }
def pagerApartRow : OpenClaim := { program := "ytecmfpgccmmlpaa", sum := "9394fc67504d06ff42c8f85ed1ba2c5132d4d4d236bd1cee6611628742ae19d4", func := "lading/ladinglaw07.PagerApart", spec := "pagerApart", unfollowed := true, recurses := true, apart := false }
def PagerApartSaid : Prop := pagerApartRow.holds Try.pinned (OpenSpec.ofChange pagerApartSpec)

/-- ITS FALSE NEIGHBOUR: 'it returns false'. Refute it at one input. -/
def pagerApartWrong : ChangeSpec := { name := "pagerApart", fn := fun _ => fun
  | [d1, d2, d3] => { results := [.lit (.bool false)], args := [d1, d2, d3] }
  | _ => none }
def PagerApartWrongFalsely : Prop := pagerApartRow.holds Try.pinned (OpenSpec.ofChange pagerApartWrong)

/-- 'ladinglaw07.PagerNil': WHATEVER THE INPUT: true; the input reads as it did. -/
def pagerNilSpec : ChangeSpec := { name := "pagerNil", fn := fun _ => fun
  | [d1, d2] => { results := [.lit (.bool true)], args := [d1, d2] }
  | _ => none }
def pagerNilRow : OpenClaim := { program := "ytecmfpgccmmlpaa", sum := "9394fc67504d06ff42c8f85ed1ba2c5132d4d4d236bd1cee6611628742ae19d4", func := "lading/ladinglaw07.PagerNil", spec := "pagerNil", unfollowed := true, recurses := true, apart := false }
def PagerNilSaid : Prop := pagerNilRow.holds Try.pinned (OpenSpec.ofChange pagerNilSpec)

/-- ITS FALSE NEIGHBOUR: 'it returns false'. Refute it at one input. -/
def pagerNilWrong : ChangeSpec := { name := "pagerNil", fn := fun _ => fun
  | [d1, d2] => { results := [.lit (.bool false)], args := [d1, d2] }
  | _ => none }
def PagerNilWrongFalsely : Prop := pagerNilRow.holds Try.pinned (OpenSpec.ofChange pagerNilWrong)

/-- 'ladinglaw07.PagerSafe': WHATEVER THE INPUT: true; the input reads as it did. -/
def pagerSafeSpec : ChangeSpec := { name := "pagerSafe", fn := fun _ => fun
  | [d1, d2, d3, d4] => { results := [.lit (.bool true)], args := [d1, d2, d3, d4] }
  | _ => none }
def pagerSafeRow : OpenClaim := { program := "ytecmfpgccmmlpaa", sum := "9394fc67504d06ff42c8f85ed1ba2c5132d4d4d236bd1cee6611628742ae19d4", func := "lading/ladinglaw07.PagerSafe", spec := "pagerSafe", unfollowed := true, recurses := true, apart := false }
def PagerSafeSaid : Prop := pagerSafeRow.holds Try.pinned (OpenSpec.ofChange pagerSafeSpec)

/-- ITS FALSE NEIGHBOUR: 'it returns false'. Refute it at one input. -/
def pagerSafeWrong : ChangeSpec := { name := "pagerSafe", fn := fun _ => fun
  | [d1, d2, d3, d4] => { results := [.lit (.bool false)], args := [d1, d2, d3, d4] }
  | _ => none }
def PagerSafeWrongFalsely : Prop := pagerSafeRow.holds Try.pinned (OpenSpec.ofChange pagerSafeWrong)

/-- 'ladinglaw07.PagerGives': WHATEVER THE INPUT: true; the input reads as it did. -/
def pagerGivesSpec : ChangeSpec := { name := "pagerGives", fn := fun _ => fun
  | [d1, d2] => { results := [.lit (.bool true)], args := [d1, d2] }
  | _ => none }
def pagerGivesRow : OpenClaim := { program := "ytecmfpgccmmlpaa", sum := "9394fc67504d06ff42c8f85ed1ba2c5132d4d4d236bd1cee6611628742ae19d4", func := "lading/ladinglaw07.PagerGives", spec := "pagerGives", unfollowed := true, recurses := true, apart := false }
def PagerGivesSaid : Prop := pagerGivesRow.holds Try.pinned (OpenSpec.ofChange pagerGivesSpec)

/-- ITS FALSE NEIGHBOUR: 'it returns false'. Refute it at one input. -/
def pagerGivesWrong : ChangeSpec := { name := "pagerGives", fn := fun _ => fun
  | [d1, d2] => { results := [.lit (.bool false)], args := [d1, d2] }
  | _ => none }
def PagerGivesWrongFalsely : Prop := pagerGivesRow.holds Try.pinned (OpenSpec.ofChange pagerGivesWrong)

/- THE SECOND FORM. 'bulk': how many values and letters a reading holds, each counted each time it is reached (what is shared counts as often as it is met; a slice's spare places count too). A statement '..UptoSaid' is the law's where the arguments, and the package variables that the reading takes, are together of bulk at most 1048576: NARROWER than '..Said'. Prove '..Said' where nothing that the law and all that it calls make is longer than what came in: it says more and counts as full. Else prove '..UptoSaid'. A law counts once. -/
mutual
def uptoBulk {H : Type} : DataW H → Nat
  | .lit (.string bytes) => bytes.length + 1
  | .lit _ => 1
  | .nil => 1
  | .ptr d => uptoBulk d + 1
  | .slice elems spare => uptoBulkAll elems + uptoBulkAll spare + 1
  | .agg parts => uptoBulkAll parts + 1
  | .iface _ d => uptoBulk d + 1
  | .map entries => uptoBulkEntries entries + 1
  | .held _ => 1
def uptoBulkAll {H : Type} : List (DataW H) → Nat
  | [] => 0
  | d :: r => uptoBulk d + uptoBulkAll r
def uptoBulkEntries {H : Type} : List (Lit × DataW H) → Nat
  | [] => 0
  | x :: r => uptoBulkEntry x + uptoBulkEntries r
def uptoBulkEntry {H : Type} : Lit × DataW H → Nat
  | (.string bytes, d) => bytes.length + uptoBulk d + 1
  | (_, d) => uptoBulk d + 1
 end
def uptoSmall : (H : Type) → List (DataW H) → Bool := fun _ ds => decide (uptoBulkAll ds ≤ 1048576)
def OpenSpec.upto (s : _root_.Go.ChangeSpec) : _root_.Go.OpenSpec := { _root_.Go.OpenSpec.ofChange s with cond := some uptoSmall }

/-- 'ladinglaw07.PagerSupers', WHERE WHAT IT READS IS OF BULK AT MOST 1048576: true; the input reads as it did. -/
def pagerSupersUptoRow : OpenClaim := { program := "ytecmfpgccmmlpaa", sum := "9394fc67504d06ff42c8f85ed1ba2c5132d4d4d236bd1cee6611628742ae19d4", func := "lading/ladinglaw07.PagerSupers", spec := "pagerSupers", unfollowed := true, recurses := true, apart := false, narrowed := true }
def PagerSupersUptoSaid : Prop := pagerSupersUptoRow.holds Try.pinned (OpenSpec.upto pagerSupersSpec)

/-- 'ladinglaw07.PagerFlip', WHERE WHAT IT READS IS OF BULK AT MOST 1048576: true; the input reads as it did. -/
def pagerFlipUptoRow : OpenClaim := { program := "ytecmfpgccmmlpaa", sum := "9394fc67504d06ff42c8f85ed1ba2c5132d4d4d236bd1cee6611628742ae19d4", func := "lading/ladinglaw07.PagerFlip", spec := "pagerFlip", unfollowed := true, recurses := true, apart := false, narrowed := true }
def PagerFlipUptoSaid : Prop := pagerFlipUptoRow.holds Try.pinned (OpenSpec.upto pagerFlipSpec)

/-- 'ladinglaw07.PagerApart', WHERE WHAT IT READS IS OF BULK AT MOST 1048576: true; the input reads as it did. -/
def pagerApartUptoRow : OpenClaim := { program := "ytecmfpgccmmlpaa", sum := "9394fc67504d06ff42c8f85ed1ba2c5132d4d4d236bd1cee6611628742ae19d4", func := "lading/ladinglaw07.PagerApart", spec := "pagerApart", unfollowed := true, recurses := true, apart := false, narrowed := true }
def PagerApartUptoSaid : Prop := pagerApartUptoRow.holds Try.pinned (OpenSpec.upto pagerApartSpec)

/-- 'ladinglaw07.PagerNil', WHERE WHAT IT READS IS OF BULK AT MOST 1048576: true; the input reads as it did. -/
def pagerNilUptoRow : OpenClaim := { program := "ytecmfpgccmmlpaa", sum := "9394fc67504d06ff42c8f85ed1ba2c5132d4d4d236bd1cee6611628742ae19d4", func := "lading/ladinglaw07.PagerNil", spec := "pagerNil", unfollowed := true, recurses := true, apart := false, narrowed := true }
def PagerNilUptoSaid : Prop := pagerNilUptoRow.holds Try.pinned (OpenSpec.upto pagerNilSpec)

/-- 'ladinglaw07.PagerSafe', WHERE WHAT IT READS IS OF BULK AT MOST 1048576: true; the input reads as it did. -/
def pagerSafeUptoRow : OpenClaim := { program := "ytecmfpgccmmlpaa", sum := "9394fc67504d06ff42c8f85ed1ba2c5132d4d4d236bd1cee6611628742ae19d4", func := "lading/ladinglaw07.PagerSafe", spec := "pagerSafe", unfollowed := true, recurses := true, apart := false, narrowed := true }
def PagerSafeUptoSaid : Prop := pagerSafeUptoRow.holds Try.pinned (OpenSpec.upto pagerSafeSpec)

/-- 'ladinglaw07.PagerGives', WHERE WHAT IT READS IS OF BULK AT MOST 1048576: true; the input reads as it did. -/
def pagerGivesUptoRow : OpenClaim := { program := "ytecmfpgccmmlpaa", sum := "9394fc67504d06ff42c8f85ed1ba2c5132d4d4d236bd1cee6611628742ae19d4", func := "lading/ladinglaw07.PagerGives", spec := "pagerGives", unfollowed := true, recurses := true, apart := false, narrowed := true }
def PagerGivesUptoSaid : Prop := pagerGivesUptoRow.holds Try.pinned (OpenSpec.upto pagerGivesSpec)

end Rows
end Go.Proofs.Ytecmfpgccmmlpaa
