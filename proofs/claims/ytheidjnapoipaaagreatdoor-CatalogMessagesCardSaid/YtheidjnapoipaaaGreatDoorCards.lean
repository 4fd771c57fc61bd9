/-
  DERIVED. GIVEN WITH THE SEED: THE CARDS: each row of YtheidjnapoipaaaGreatDoorRows.lean that lists a variable, with what it lists TIED to the program's text (the seventh form; the later family's looks); each row that meets fmt, with fmt's text TOLD by the authors' own Lean function (tested against real Go, not proved from fmt's source: count such statements apart). THE CARD IS WHAT COUNTS. Prove the row's statement (the work); the ties are given (YtheidjnapoipaaaGreatDoorTie.lean); close each card by the builder's one call (the guide's Derived/Test/ToyasCard.lean, 'card_holds'). Laid BY PROGRAM, IN A SANDBOX (cutbox-door.mjs). By AI agents, Wed Nov 11 2026. No macro, syntax, notation, axiom, sorry.
-/
import Derived.Test.YtheidjnapoipaaaGreatDoorRows
import GoSem.ClaimSeven
namespace Go.Proofs.YtheidjnapoipaaaGreatDoor
namespace Rows

/-- THE TIED CARD OF 'cashierlaw15.CatalogTable'. -/
def catalogTableCard : Claim7 := { stood := { row := catalogTableRow, standIns := [], harness := (true, "bd3ce312389fa0c1fa5637e05b130d32b1303bad4957126e2cf8fcada179ac0e"), looks := true }, kinds := [], alts := [], laidByText := true, laidKinds := [.data, .data, .data, .data, .sentinel, .sentinel, .data, .pinned], laidTests := true, laidLooks := .later }
def CatalogTableCardSaid : Prop := Claim7.holds Tryz.pinned (.plain (OpenSpec.ofChange catalogTableSpec)) catalogTableCard

/-- THE TIED CARD OF 'cashierlaw15.CatalogMessages'. -/
def catalogMessagesCard : Claim7 := { stood := { row := catalogMessagesRow, standIns := [], harness := (true, "bd3ce312389fa0c1fa5637e05b130d32b1303bad4957126e2cf8fcada179ac0e"), looks := true }, kinds := [], alts := [], laidByText := true, laidKinds := [.data, .data, .data, .data, .sentinel, .sentinel, .data, .pinned], laidTests := true, laidLooks := .later }
def CatalogMessagesCardSaid : Prop := Claim7.holds Tryz.pinned (.plain (OpenSpec.ofChange catalogMessagesSpec)) catalogMessagesCard

/-- THE SECOND FORM's CARD OF 'cashierlaw15.CatalogTable'. -/
def catalogTableUptoCard : Claim7 := { stood := { row := catalogTableUptoRow, standIns := [], harness := (true, "bd3ce312389fa0c1fa5637e05b130d32b1303bad4957126e2cf8fcada179ac0e"), looks := true }, kinds := [], alts := [], laidByText := true, laidKinds := [.data, .data, .data, .data, .sentinel, .sentinel, .data, .pinned], laidTests := true, laidLooks := .later }
def CatalogTableUptoCardSaid : Prop := Claim7.holds Tryz.pinned (.plain (OpenSpec.upto catalogTableSpec)) catalogTableUptoCard

/-- THE SECOND FORM's CARD OF 'cashierlaw15.CatalogMessages'. -/
def catalogMessagesUptoCard : Claim7 := { stood := { row := catalogMessagesUptoRow, standIns := [], harness := (true, "bd3ce312389fa0c1fa5637e05b130d32b1303bad4957126e2cf8fcada179ac0e"), looks := true }, kinds := [], alts := [], laidByText := true, laidKinds := [.data, .data, .data, .data, .sentinel, .sentinel, .data, .pinned], laidTests := true, laidLooks := .later }
def CatalogMessagesUptoCardSaid : Prop := Claim7.holds Tryz.pinned (.plain (OpenSpec.upto catalogMessagesSpec)) catalogMessagesUptoCard
end Rows
end Go.Proofs.YtheidjnapoipaaaGreatDoor
