/-
  DERIVED. GIVEN WITH THE SEED: THE CARDS: each row of YtldjnegoefdadaaGreatDoorRows.lean that lists a variable, with what it lists TIED to the program's text (the seventh form; the later family's looks); each row that meets fmt, with fmt's text TOLD by the authors' own Lean function (tested against real Go, not proved from fmt's source: count such statements apart). THE CARD IS WHAT COUNTS. Prove the row's statement (the work); the ties are given (YtldjnegoefdadaaGreatDoorTie.lean); close each card by the builder's one call (the guide's Derived/Test/ToyasCard.lean, 'card_holds'). Laid BY PROGRAM, IN A SANDBOX (cutbox-door.mjs). By AI agents, Wed Nov 11 2026. No macro, syntax, notation, axiom, sorry.
-/
import Derived.Test.YtldjnegoefdadaaGreatDoorRows
import GoSem.ClaimSeven
namespace Go.Proofs.YtldjnegoefdadaaGreatDoor
namespace Rows

/-- THE TIED CARD OF 'cashierlaw18.RangesTurn'. -/
def rangesTurnCard : Claim7 := { stood := { row := rangesTurnRow, standIns := [], harness := (true, "f0e9430ac7bc27ea389fcc8e946ed5796767bed45d9e1916ea122cec97530ade"), looks := true }, kinds := [], alts := [], laidByText := true, laidKinds := [.data, .data, .data, .data, .sentinel, .sentinel, .data, .pinned], laidTests := true, laidLooks := .later }
def RangesTurnCardSaid : Prop := Claim7.holds Tryz.pinned (.plain (OpenSpec.ofChange rangesTurnSpec)) rangesTurnCard

/-- THE TIED CARD OF 'cashierlaw18.RangesOrder'. -/
def rangesOrderCard : Claim7 := { stood := { row := rangesOrderRow, standIns := [], harness := (true, "f0e9430ac7bc27ea389fcc8e946ed5796767bed45d9e1916ea122cec97530ade"), looks := true }, kinds := [], alts := [], laidByText := true, laidKinds := [.data, .data, .data, .data, .sentinel, .sentinel, .data, .pinned], laidTests := true, laidLooks := .later }
def RangesOrderCardSaid : Prop := Claim7.holds Tryz.pinned (.plain (OpenSpec.ofChange rangesOrderSpec)) rangesOrderCard

/-- THE TIED CARD OF 'cashierlaw19.SerialTurns'. -/
def serialTurnsCard : Claim7 := { stood := { row := serialTurnsRow, standIns := [], harness := (true, "f0e9430ac7bc27ea389fcc8e946ed5796767bed45d9e1916ea122cec97530ade"), looks := true }, kinds := [], alts := [], laidByText := true, laidKinds := [.data, .data, .data, .data, .sentinel, .sentinel, .data, .pinned], laidTests := true, laidLooks := .later }
def SerialTurnsCardSaid : Prop := Claim7.holds Tryz.pinned (.plain (OpenSpec.ofChange serialTurnsSpec)) serialTurnsCard

/-- THE TIED CARD OF 'cashierlaw19.SerialFollows'. -/
def serialFollowsCard : Claim7 := { stood := { row := serialFollowsRow, standIns := [], harness := (true, "f0e9430ac7bc27ea389fcc8e946ed5796767bed45d9e1916ea122cec97530ade"), looks := true }, kinds := [], alts := [], laidByText := true, laidKinds := [.data, .data, .data, .data, .sentinel, .sentinel, .data, .pinned], laidTests := true, laidLooks := .later }
def SerialFollowsCardSaid : Prop := Claim7.holds Tryz.pinned (.plain (OpenSpec.ofChange serialFollowsSpec)) serialFollowsCard

/-- THE TIED CARD OF 'cashierlaw19.SerialBack'. -/
def serialBackCard : Claim7 := { stood := { row := serialBackRow, standIns := [], harness := (true, "f0e9430ac7bc27ea389fcc8e946ed5796767bed45d9e1916ea122cec97530ade"), looks := true }, kinds := [], alts := [], laidByText := true, laidKinds := [.data, .data, .data, .data, .sentinel, .sentinel, .data, .pinned], laidTests := true, laidLooks := .later }
def SerialBackCardSaid : Prop := Claim7.holds Tryz.pinned (.plain (OpenSpec.ofChange serialBackSpec)) serialBackCard

/-- THE SECOND FORM's CARD OF 'cashierlaw18.RangesTurn'. -/
def rangesTurnUptoCard : Claim7 := { stood := { row := rangesTurnUptoRow, standIns := [], harness := (true, "f0e9430ac7bc27ea389fcc8e946ed5796767bed45d9e1916ea122cec97530ade"), looks := true }, kinds := [], alts := [], laidByText := true, laidKinds := [.data, .data, .data, .data, .sentinel, .sentinel, .data, .pinned], laidTests := true, laidLooks := .later }
def RangesTurnUptoCardSaid : Prop := Claim7.holds Tryz.pinned (.plain (OpenSpec.upto rangesTurnSpec)) rangesTurnUptoCard

/-- THE SECOND FORM's CARD OF 'cashierlaw18.RangesOrder'. -/
def rangesOrderUptoCard : Claim7 := { stood := { row := rangesOrderUptoRow, standIns := [], harness := (true, "f0e9430ac7bc27ea389fcc8e946ed5796767bed45d9e1916ea122cec97530ade"), looks := true }, kinds := [], alts := [], laidByText := true, laidKinds := [.data, .data, .data, .data, .sentinel, .sentinel, .data, .pinned], laidTests := true, laidLooks := .later }
def RangesOrderUptoCardSaid : Prop := Claim7.holds Tryz.pinned (.plain (OpenSpec.upto rangesOrderSpec)) rangesOrderUptoCard

/-- THE SECOND FORM's CARD OF 'cashierlaw19.SerialTurns'. -/
def serialTurnsUptoCard : Claim7 := { stood := { row := serialTurnsUptoRow, standIns := [], harness := (true, "f0e9430ac7bc27ea389fcc8e946ed5796767bed45d9e1916ea122cec97530ade"), looks := true }, kinds := [], alts := [], laidByText := true, laidKinds := [.data, .data, .data, .data, .sentinel, .sentinel, .data, .pinned], laidTests := true, laidLooks := .later }
def SerialTurnsUptoCardSaid : Prop := Claim7.holds Tryz.pinned (.plain (OpenSpec.upto serialTurnsSpec)) serialTurnsUptoCard

/-- THE SECOND FORM's CARD OF 'cashierlaw19.SerialFollows'. -/
def serialFollowsUptoCard : Claim7 := { stood := { row := serialFollowsUptoRow, standIns := [], harness := (true, "f0e9430ac7bc27ea389fcc8e946ed5796767bed45d9e1916ea122cec97530ade"), looks := true }, kinds := [], alts := [], laidByText := true, laidKinds := [.data, .data, .data, .data, .sentinel, .sentinel, .data, .pinned], laidTests := true, laidLooks := .later }
def SerialFollowsUptoCardSaid : Prop := Claim7.holds Tryz.pinned (.plain (OpenSpec.upto serialFollowsSpec)) serialFollowsUptoCard

/-- THE SECOND FORM's CARD OF 'cashierlaw19.SerialBack'. -/
def serialBackUptoCard : Claim7 := { stood := { row := serialBackUptoRow, standIns := [], harness := (true, "f0e9430ac7bc27ea389fcc8e946ed5796767bed45d9e1916ea122cec97530ade"), looks := true }, kinds := [], alts := [], laidByText := true, laidKinds := [.data, .data, .data, .data, .sentinel, .sentinel, .data, .pinned], laidTests := true, laidLooks := .later }
def SerialBackUptoCardSaid : Prop := Claim7.holds Tryz.pinned (.plain (OpenSpec.upto serialBackSpec)) serialBackUptoCard
end Rows
end Go.Proofs.YtldjnegoefdadaaGreatDoor
