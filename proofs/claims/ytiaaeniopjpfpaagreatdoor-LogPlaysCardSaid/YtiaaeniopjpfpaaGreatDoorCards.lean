/-
  DERIVED. GIVEN WITH THE SEED: THE CARDS: each row of YtiaaeniopjpfpaaGreatDoorRows.lean that lists a variable, with what it lists TIED to the program's text (the seventh form; the later family's looks); each row that meets fmt, with fmt's text TOLD by the authors' own Lean function (tested against real Go, not proved from fmt's source: count such statements apart). THE CARD IS WHAT COUNTS. Prove the row's statement (the work); the ties are given (YtiaaeniopjpfpaaGreatDoorTie.lean); close each card by the builder's one call (the guide's Derived/Test/ToyasCard.lean, 'card_holds'). Laid BY PROGRAM, IN A SANDBOX (cutbox-door.mjs). By AI agents, Wed Nov 11 2026. No macro, syntax, notation, axiom, sorry.
-/
import Derived.Test.YtiaaeniopjpfpaaGreatDoorRows
import GoSem.ClaimSeven
namespace Go.Proofs.YtiaaeniopjpfpaaGreatDoor
namespace Rows

/-- THE TIED CARD OF 'cashierlaw12.LogPlays'. -/
def logPlaysCard : Claim7 := { stood := { row := logPlaysRow, standIns := [], harness := (true, "95d5dcc963f29f1f9ba13a6c6d68d10d7d59008c53bb6b3b5dc1e90669c3fd27"), looks := true }, kinds := [], alts := [], laidByText := true, laidKinds := [.data, .data, .pinned], laidTests := true, laidLooks := .later }
def LogPlaysCardSaid : Prop := Claim7.holds Tryz.pinned (.plain (OpenSpec.ofChange logPlaysSpec)) logPlaysCard

/-- THE TIED CARD OF 'cashierlaw12.LogFrames'. -/
def logFramesCard : Claim7 := { stood := { row := logFramesRow, standIns := [], harness := (true, "95d5dcc963f29f1f9ba13a6c6d68d10d7d59008c53bb6b3b5dc1e90669c3fd27"), looks := true }, kinds := [], alts := [], laidByText := true, laidKinds := [.data, .data, .pinned], laidTests := true, laidLooks := .later }
def LogFramesCardSaid : Prop := Claim7.holds Tryz.pinned (.plain (OpenSpec.ofChange logFramesSpec)) logFramesCard

/-- THE TIED CARD OF 'cashierlaw12.LogNil'. -/
def logNilCard : Claim7 := { stood := { row := logNilRow, standIns := [], harness := (true, "95d5dcc963f29f1f9ba13a6c6d68d10d7d59008c53bb6b3b5dc1e90669c3fd27"), looks := true }, kinds := [], alts := [], laidByText := true, laidKinds := [.data, .data, .pinned], laidTests := true, laidLooks := .later }
def LogNilCardSaid : Prop := Claim7.holds Tryz.pinned (.plain (OpenSpec.ofChange logNilSpec)) logNilCard

/-- THE TIED CARD OF 'cashierlaw13.StoreNil'. -/
def storeNilCard : Claim7 := { stood := { row := storeNilRow, standIns := [], harness := (true, "95d5dcc963f29f1f9ba13a6c6d68d10d7d59008c53bb6b3b5dc1e90669c3fd27"), looks := true }, kinds := [], alts := [], laidByText := true, laidKinds := [.data, .data, .pinned], laidTests := true, laidLooks := .later }
def StoreNilCardSaid : Prop := Claim7.holds Tryz.pinned (.plain (OpenSpec.ofChange storeNilSpec)) storeNilCard

/-- THE TIED CARD OF 'cashierlaw13.StoreApart'. -/
def storeApartCard : Claim7 := { stood := { row := storeApartRow, standIns := [], harness := (true, "95d5dcc963f29f1f9ba13a6c6d68d10d7d59008c53bb6b3b5dc1e90669c3fd27"), looks := true }, kinds := [], alts := [], laidByText := true, laidKinds := [.data, .data, .pinned], laidTests := true, laidLooks := .later }
def StoreApartCardSaid : Prop := Claim7.holds Tryz.pinned (.plain (OpenSpec.ofChange storeApartSpec)) storeApartCard

/-- THE SECOND FORM's CARD OF 'cashierlaw12.LogPlays'. -/
def logPlaysUptoCard : Claim7 := { stood := { row := logPlaysUptoRow, standIns := [], harness := (true, "95d5dcc963f29f1f9ba13a6c6d68d10d7d59008c53bb6b3b5dc1e90669c3fd27"), looks := true }, kinds := [], alts := [], laidByText := true, laidKinds := [.data, .data, .pinned], laidTests := true, laidLooks := .later }
def LogPlaysUptoCardSaid : Prop := Claim7.holds Tryz.pinned (.plain (OpenSpec.upto logPlaysSpec)) logPlaysUptoCard

/-- THE SECOND FORM's CARD OF 'cashierlaw12.LogFrames'. -/
def logFramesUptoCard : Claim7 := { stood := { row := logFramesUptoRow, standIns := [], harness := (true, "95d5dcc963f29f1f9ba13a6c6d68d10d7d59008c53bb6b3b5dc1e90669c3fd27"), looks := true }, kinds := [], alts := [], laidByText := true, laidKinds := [.data, .data, .pinned], laidTests := true, laidLooks := .later }
def LogFramesUptoCardSaid : Prop := Claim7.holds Tryz.pinned (.plain (OpenSpec.upto logFramesSpec)) logFramesUptoCard

/-- THE SECOND FORM's CARD OF 'cashierlaw12.LogNil'. -/
def logNilUptoCard : Claim7 := { stood := { row := logNilUptoRow, standIns := [], harness := (true, "95d5dcc963f29f1f9ba13a6c6d68d10d7d59008c53bb6b3b5dc1e90669c3fd27"), looks := true }, kinds := [], alts := [], laidByText := true, laidKinds := [.data, .data, .pinned], laidTests := true, laidLooks := .later }
def LogNilUptoCardSaid : Prop := Claim7.holds Tryz.pinned (.plain (OpenSpec.upto logNilSpec)) logNilUptoCard

/-- THE SECOND FORM's CARD OF 'cashierlaw13.StoreNil'. -/
def storeNilUptoCard : Claim7 := { stood := { row := storeNilUptoRow, standIns := [], harness := (true, "95d5dcc963f29f1f9ba13a6c6d68d10d7d59008c53bb6b3b5dc1e90669c3fd27"), looks := true }, kinds := [], alts := [], laidByText := true, laidKinds := [.data, .data, .pinned], laidTests := true, laidLooks := .later }
def StoreNilUptoCardSaid : Prop := Claim7.holds Tryz.pinned (.plain (OpenSpec.upto storeNilSpec)) storeNilUptoCard

/-- THE SECOND FORM's CARD OF 'cashierlaw13.StoreApart'. -/
def storeApartUptoCard : Claim7 := { stood := { row := storeApartUptoRow, standIns := [], harness := (true, "95d5dcc963f29f1f9ba13a6c6d68d10d7d59008c53bb6b3b5dc1e90669c3fd27"), looks := true }, kinds := [], alts := [], laidByText := true, laidKinds := [.data, .data, .pinned], laidTests := true, laidLooks := .later }
def StoreApartUptoCardSaid : Prop := Claim7.holds Tryz.pinned (.plain (OpenSpec.upto storeApartSpec)) storeApartUptoCard
end Rows
end Go.Proofs.YtiaaeniopjpfpaaGreatDoor
