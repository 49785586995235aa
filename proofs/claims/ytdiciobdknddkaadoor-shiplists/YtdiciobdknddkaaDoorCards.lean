/-
  DERIVED. GIVEN WITH THE SEED: THE CARDS: each row of YtdiciobdknddkaaDoorRows.lean that lists a variable, with what it lists TIED to the program's text (the seventh form; the later family's looks); each row that meets fmt, with fmt's text TOLD by the authors' own Lean function (tested against real Go, not proved from fmt's source: count such statements apart). THE CARD IS WHAT COUNTS. Prove the row's statement (the work); the ties are given (YtdiciobdknddkaaDoorTie.lean); close each card by the builder's one call (the guide's Derived/Test/ToyasCard.lean, 'card_holds'). Laid BY PROGRAM, IN A SANDBOX (cutbox-door.mjs). By AI agents, Wed Nov 11 2026. No macro, syntax, notation, axiom, sorry.
-/
import Derived.Test.YtdiciobdknddkaaDoorRows
import GoSem.ClaimSeven
namespace Go.Proofs.YtdiciobdknddkaaDoor
namespace Rows

/-- THE TIED CARD OF 'ladinglaw15.ShipMoves'. -/
def shipMovesCard : Claim7 := { stood := { row := shipMovesRow, standIns := [], harness := (true, "4dff2b1baf849348ca796ee0183cfa4b25b4a2b888d41f54393899c0709e6f31"), looks := false }, kinds := [], alts := [], laidByText := true, laidKinds := [.data], laidTests := true, laidLooks := .later }
def ShipMovesCardSaid : Prop := Claim7.holds Tryd.pinned (.plain (OpenSpec.ofChange shipMovesSpec)) shipMovesCard

/-- THE TIED CARD OF 'ladinglaw15.ShipLists'. -/
def shipListsCard : Claim7 := { stood := { row := shipListsRow, standIns := [], harness := (true, "4dff2b1baf849348ca796ee0183cfa4b25b4a2b888d41f54393899c0709e6f31"), looks := false }, kinds := [], alts := [], laidByText := true, laidKinds := [.data], laidTests := true, laidLooks := .later }
def ShipListsCardSaid : Prop := Claim7.holds Tryd.pinned (.plain (OpenSpec.ofChange shipListsSpec)) shipListsCard

/-- THE TIED CARD OF 'ladinglaw15.ShipEnds'. -/
def shipEndsCard : Claim7 := { stood := { row := shipEndsRow, standIns := [], harness := (true, "4dff2b1baf849348ca796ee0183cfa4b25b4a2b888d41f54393899c0709e6f31"), looks := false }, kinds := [], alts := [], laidByText := true, laidKinds := [.data], laidTests := true, laidLooks := .later }
def ShipEndsCardSaid : Prop := Claim7.holds Tryd.pinned (.plain (OpenSpec.ofChange shipEndsSpec)) shipEndsCard

/-- THE TIED CARD OF 'ladinglaw15.ShipAgrees'. -/
def shipAgreesCard : Claim7 := { stood := { row := shipAgreesRow, standIns := [], harness := (true, "4dff2b1baf849348ca796ee0183cfa4b25b4a2b888d41f54393899c0709e6f31"), looks := false }, kinds := [], alts := [], laidByText := true, laidKinds := [.data], laidTests := true, laidLooks := .later }
def ShipAgreesCardSaid : Prop := Claim7.holds Tryd.pinned (.plain (OpenSpec.ofChange shipAgreesSpec)) shipAgreesCard

/-- THE TIED CARD OF 'ladinglaw15.ShipApart'. -/
def shipApartCard : Claim7 := { stood := { row := shipApartRow, standIns := [], harness := (true, "4dff2b1baf849348ca796ee0183cfa4b25b4a2b888d41f54393899c0709e6f31"), looks := false }, kinds := [], alts := [], laidByText := true, laidKinds := [.data], laidTests := true, laidLooks := .later }
def ShipApartCardSaid : Prop := Claim7.holds Tryd.pinned (.plain (OpenSpec.ofChange shipApartSpec)) shipApartCard

/-- THE SECOND FORM's CARD OF 'ladinglaw15.ShipMoves'. -/
def shipMovesUptoCard : Claim7 := { stood := { row := shipMovesUptoRow, standIns := [], harness := (true, "4dff2b1baf849348ca796ee0183cfa4b25b4a2b888d41f54393899c0709e6f31"), looks := false }, kinds := [], alts := [], laidByText := true, laidKinds := [.data], laidTests := true, laidLooks := .later }
def ShipMovesUptoCardSaid : Prop := Claim7.holds Tryd.pinned (.plain (OpenSpec.upto shipMovesSpec)) shipMovesUptoCard

/-- THE SECOND FORM's CARD OF 'ladinglaw15.ShipLists'. -/
def shipListsUptoCard : Claim7 := { stood := { row := shipListsUptoRow, standIns := [], harness := (true, "4dff2b1baf849348ca796ee0183cfa4b25b4a2b888d41f54393899c0709e6f31"), looks := false }, kinds := [], alts := [], laidByText := true, laidKinds := [.data], laidTests := true, laidLooks := .later }
def ShipListsUptoCardSaid : Prop := Claim7.holds Tryd.pinned (.plain (OpenSpec.upto shipListsSpec)) shipListsUptoCard

/-- THE SECOND FORM's CARD OF 'ladinglaw15.ShipEnds'. -/
def shipEndsUptoCard : Claim7 := { stood := { row := shipEndsUptoRow, standIns := [], harness := (true, "4dff2b1baf849348ca796ee0183cfa4b25b4a2b888d41f54393899c0709e6f31"), looks := false }, kinds := [], alts := [], laidByText := true, laidKinds := [.data], laidTests := true, laidLooks := .later }
def ShipEndsUptoCardSaid : Prop := Claim7.holds Tryd.pinned (.plain (OpenSpec.upto shipEndsSpec)) shipEndsUptoCard

/-- THE SECOND FORM's CARD OF 'ladinglaw15.ShipAgrees'. -/
def shipAgreesUptoCard : Claim7 := { stood := { row := shipAgreesUptoRow, standIns := [], harness := (true, "4dff2b1baf849348ca796ee0183cfa4b25b4a2b888d41f54393899c0709e6f31"), looks := false }, kinds := [], alts := [], laidByText := true, laidKinds := [.data], laidTests := true, laidLooks := .later }
def ShipAgreesUptoCardSaid : Prop := Claim7.holds Tryd.pinned (.plain (OpenSpec.upto shipAgreesSpec)) shipAgreesUptoCard

/-- THE SECOND FORM's CARD OF 'ladinglaw15.ShipApart'. -/
def shipApartUptoCard : Claim7 := { stood := { row := shipApartUptoRow, standIns := [], harness := (true, "4dff2b1baf849348ca796ee0183cfa4b25b4a2b888d41f54393899c0709e6f31"), looks := false }, kinds := [], alts := [], laidByText := true, laidKinds := [.data], laidTests := true, laidLooks := .later }
def ShipApartUptoCardSaid : Prop := Claim7.holds Tryd.pinned (.plain (OpenSpec.upto shipApartSpec)) shipApartUptoCard
end Rows
end Go.Proofs.YtdiciobdknddkaaDoor
