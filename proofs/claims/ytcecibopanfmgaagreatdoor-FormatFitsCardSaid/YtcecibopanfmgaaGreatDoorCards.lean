/-
  DERIVED. GIVEN WITH THE SEED: THE CARDS: each row of YtcecibopanfmgaaGreatDoorRows.lean that lists a variable, with what it lists TIED to the program's text (the seventh form; the later family's looks); each row that meets fmt, with fmt's text TOLD by the authors' own Lean function (tested against real Go, not proved from fmt's source: count such statements apart). THE CARD IS WHAT COUNTS. Prove the row's statement (the work); the ties are given (YtcecibopanfmgaaGreatDoorTie.lean); close each card by the builder's one call (the guide's Derived/Test/ToyasCard.lean, 'card_holds'). Laid BY PROGRAM, IN A SANDBOX (cutbox-door.mjs). By AI agents, Wed Nov 11 2026. No macro, syntax, notation, axiom, sorry.
-/
import Derived.Test.YtcecibopanfmgaaGreatDoorRows
import GoSem.ClaimSeven
namespace Go.Proofs.YtcecibopanfmgaaGreatDoor
namespace Rows

/-- THE TIED CARD OF 'cashierlaw14.FormatFits'. -/
def formatFitsCard : Claim7 := { stood := { row := formatFitsRow, standIns := [], harness := (true, "35c50199adcd6ca2ac707b8a4feec68877a7f113ee6d11511540fa72dc00b5fe"), looks := true }, kinds := [], alts := [], laidByText := true, laidKinds := [.data, .data, .data, .data, .sentinel, .sentinel, .data, .pinned], laidTests := true, laidLooks := .later }
def FormatFitsCardSaid : Prop := Claim7.holds Tryz.pinned (.plain (OpenSpec.ofChange formatFitsSpec)) formatFitsCard

/-- THE TIED CARD OF 'cashierlaw14.FormatLongest'. -/
def formatLongestCard : Claim7 := { stood := { row := formatLongestRow, standIns := [], harness := (true, "35c50199adcd6ca2ac707b8a4feec68877a7f113ee6d11511540fa72dc00b5fe"), looks := true }, kinds := [], alts := [], laidByText := true, laidKinds := [.data, .data, .data, .data, .sentinel, .sentinel, .data, .pinned], laidTests := true, laidLooks := .later }
def FormatLongestCardSaid : Prop := Claim7.holds Tryz.pinned (.plain (OpenSpec.ofChange formatLongestSpec)) formatLongestCard

/-- THE TIED CARD OF 'cashierlaw14.FormatNames'. -/
def formatNamesCard : Claim7 := { stood := { row := formatNamesRow, standIns := [], harness := (true, "35c50199adcd6ca2ac707b8a4feec68877a7f113ee6d11511540fa72dc00b5fe"), looks := true }, kinds := [], alts := [], laidByText := true, laidKinds := [.data, .data, .data, .data, .sentinel, .sentinel, .data, .data, .pinned], laidTests := true, laidLooks := .later }
def FormatNamesCardSaid : Prop := Claim7.holds Tryz.pinned (.plain (OpenSpec.ofChange formatNamesSpec)) formatNamesCard

/-- THE TIED CARD OF 'cashierlaw14.FormatTight'. -/
def formatTightCard : Claim7 := { stood := { row := formatTightRow, standIns := [], harness := (true, "35c50199adcd6ca2ac707b8a4feec68877a7f113ee6d11511540fa72dc00b5fe"), looks := true }, kinds := [], alts := [], laidByText := true, laidKinds := [.data, .data, .data, .data, .sentinel, .sentinel, .data, .pinned], laidTests := true, laidLooks := .later }
def FormatTightCardSaid : Prop := Claim7.holds Tryz.pinned (.plain (OpenSpec.ofChange formatTightSpec)) formatTightCard

/-- THE SECOND FORM's CARD OF 'cashierlaw14.FormatFits'. -/
def formatFitsUptoCard : Claim7 := { stood := { row := formatFitsUptoRow, standIns := [], harness := (true, "35c50199adcd6ca2ac707b8a4feec68877a7f113ee6d11511540fa72dc00b5fe"), looks := true }, kinds := [], alts := [], laidByText := true, laidKinds := [.data, .data, .data, .data, .sentinel, .sentinel, .data, .pinned], laidTests := true, laidLooks := .later }
def FormatFitsUptoCardSaid : Prop := Claim7.holds Tryz.pinned (.plain (OpenSpec.upto formatFitsSpec)) formatFitsUptoCard

/-- THE SECOND FORM's CARD OF 'cashierlaw14.FormatLongest'. -/
def formatLongestUptoCard : Claim7 := { stood := { row := formatLongestUptoRow, standIns := [], harness := (true, "35c50199adcd6ca2ac707b8a4feec68877a7f113ee6d11511540fa72dc00b5fe"), looks := true }, kinds := [], alts := [], laidByText := true, laidKinds := [.data, .data, .data, .data, .sentinel, .sentinel, .data, .pinned], laidTests := true, laidLooks := .later }
def FormatLongestUptoCardSaid : Prop := Claim7.holds Tryz.pinned (.plain (OpenSpec.upto formatLongestSpec)) formatLongestUptoCard

/-- THE SECOND FORM's CARD OF 'cashierlaw14.FormatNames'. -/
def formatNamesUptoCard : Claim7 := { stood := { row := formatNamesUptoRow, standIns := [], harness := (true, "35c50199adcd6ca2ac707b8a4feec68877a7f113ee6d11511540fa72dc00b5fe"), looks := true }, kinds := [], alts := [], laidByText := true, laidKinds := [.data, .data, .data, .data, .sentinel, .sentinel, .data, .data, .pinned], laidTests := true, laidLooks := .later }
def FormatNamesUptoCardSaid : Prop := Claim7.holds Tryz.pinned (.plain (OpenSpec.upto formatNamesSpec)) formatNamesUptoCard

/-- THE SECOND FORM's CARD OF 'cashierlaw14.FormatTight'. -/
def formatTightUptoCard : Claim7 := { stood := { row := formatTightUptoRow, standIns := [], harness := (true, "35c50199adcd6ca2ac707b8a4feec68877a7f113ee6d11511540fa72dc00b5fe"), looks := true }, kinds := [], alts := [], laidByText := true, laidKinds := [.data, .data, .data, .data, .sentinel, .sentinel, .data, .pinned], laidTests := true, laidLooks := .later }
def FormatTightUptoCardSaid : Prop := Claim7.holds Tryz.pinned (.plain (OpenSpec.upto formatTightSpec)) formatTightUptoCard
end Rows
end Go.Proofs.YtcecibopanfmgaaGreatDoor
