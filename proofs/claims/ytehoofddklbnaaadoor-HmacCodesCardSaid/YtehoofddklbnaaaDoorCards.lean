/-
  DERIVED. GIVEN WITH THE SEED: THE CARDS: each row of YtehoofddklbnaaaDoorRows.lean that lists a variable, with what it lists TIED to the program's text (the seventh form; the later family's looks); each row that meets fmt, with fmt's text TOLD by the authors' own Lean function (tested against real Go, not proved from fmt's source: count such statements apart). THE CARD IS WHAT COUNTS. Prove the row's statement (the work); the ties are given (YtehoofddklbnaaaDoorTie.lean); close each card by the builder's one call (the guide's Derived/Test/ToyasCard.lean, 'card_holds'). Laid BY PROGRAM, IN A SANDBOX (cutbox-door.mjs). By AI agents, Wed Nov 11 2026. No macro, syntax, notation, axiom, sorry.
-/
import Derived.Test.YtehoofddklbnaaaDoorRows
import GoSem.ClaimSeven
namespace Go.Proofs.YtehoofddklbnaaaDoor
namespace Rows

/-- THE TIED CARD OF 'cashierlaw06.HmacSums'. -/
def hmacSumsCard : Claim7 := { stood := { row := hmacSumsRow, standIns := [], harness := (true, "da35d39db9c61f52e56712e4baa64771d243da0bbc156f9ccca49ea367a4c634"), looks := false }, kinds := [], alts := [], laidByText := true, laidKinds := [.data, .data, .data, .data], laidTests := true, laidLooks := .later }
def HmacSumsCardSaid : Prop := Claim7.holds Tryd.pinned (.plain (OpenSpec.ofChange hmacSumsSpec)) hmacSumsCard

/-- THE TIED CARD OF 'cashierlaw06.HmacCodes'. -/
def hmacCodesCard : Claim7 := { stood := { row := hmacCodesRow, standIns := [], harness := (true, "da35d39db9c61f52e56712e4baa64771d243da0bbc156f9ccca49ea367a4c634"), looks := false }, kinds := [], alts := [], laidByText := true, laidKinds := [.data, .data, .data, .data], laidTests := true, laidLooks := .later }
def HmacCodesCardSaid : Prop := Claim7.holds Tryd.pinned (.plain (OpenSpec.ofChange hmacCodesSpec)) hmacCodesCard

/-- THE SECOND FORM's CARD OF 'cashierlaw06.HmacSums'. -/
def hmacSumsUptoCard : Claim7 := { stood := { row := hmacSumsUptoRow, standIns := [], harness := (true, "da35d39db9c61f52e56712e4baa64771d243da0bbc156f9ccca49ea367a4c634"), looks := false }, kinds := [], alts := [], laidByText := true, laidKinds := [.data, .data, .data, .data], laidTests := true, laidLooks := .later }
def HmacSumsUptoCardSaid : Prop := Claim7.holds Tryd.pinned (.plain (OpenSpec.upto hmacSumsSpec)) hmacSumsUptoCard

/-- THE SECOND FORM's CARD OF 'cashierlaw06.HmacCodes'. -/
def hmacCodesUptoCard : Claim7 := { stood := { row := hmacCodesUptoRow, standIns := [], harness := (true, "da35d39db9c61f52e56712e4baa64771d243da0bbc156f9ccca49ea367a4c634"), looks := false }, kinds := [], alts := [], laidByText := true, laidKinds := [.data, .data, .data, .data], laidTests := true, laidLooks := .later }
def HmacCodesUptoCardSaid : Prop := Claim7.holds Tryd.pinned (.plain (OpenSpec.upto hmacCodesSpec)) hmacCodesUptoCard
end Rows
end Go.Proofs.YtehoofddklbnaaaDoor
