/-
  DERIVED. GIVEN WITH THE SEED: THE CARDS: each row of YtfmknhildjgfmaaDoorRows.lean that lists a variable, with what it lists TIED to the program's text (the seventh form; the later family's looks); each row that meets fmt, with fmt's text TOLD by the authors' own Lean function (tested against real Go, not proved from fmt's source: count such statements apart). THE CARD IS WHAT COUNTS. Prove the row's statement (the work); the ties are given (YtfmknhildjgfmaaDoorTie.lean); close each card by the builder's one call (the guide's Derived/Test/ToyasCard.lean, 'card_holds'). Laid BY PROGRAM, IN A SANDBOX (cutbox-door.mjs). By AI agents, Wed Nov 11 2026. No macro, syntax, notation, axiom, sorry.
-/
import Derived.Test.YtfmknhildjgfmaaDoorRows
import GoSem.ClaimSeven
namespace Go.Proofs.YtfmknhildjgfmaaDoor
namespace Rows

/-- THE TIED CARD OF 'cashierlaw03.DigitsCards'. -/
def digitsCardsCard : Claim7 := { stood := { row := digitsCardsRow, standIns := [], harness := (true, "de99e13df80f2cffd07f59201c363b6b19ee28a847c3e68ae131dd14e9ab6ddf"), looks := true }, kinds := [], alts := [], laidByText := true, laidKinds := [.data, .data, .data], laidTests := true, laidLooks := .later }
def DigitsCardsCardSaid : Prop := Claim7.holds Tryd.pinned (.plain (OpenSpec.ofChange digitsCardsSpec)) digitsCardsCard

/-- THE TIED CARD OF 'cashierlaw03.DigitsDates'. -/
def digitsDatesCard : Claim7 := { stood := { row := digitsDatesRow, standIns := [], harness := (true, "de99e13df80f2cffd07f59201c363b6b19ee28a847c3e68ae131dd14e9ab6ddf"), looks := true }, kinds := [], alts := [], laidByText := true, laidKinds := [.data, .data, .data, .sentinel, .sentinel], laidTests := true, laidLooks := .later }
def DigitsDatesCardSaid : Prop := Claim7.holds Tryd.pinned (.plain (OpenSpec.ofChange digitsDatesSpec)) digitsDatesCard

/-- THE SECOND FORM's CARD OF 'cashierlaw03.DigitsCards'. -/
def digitsCardsUptoCard : Claim7 := { stood := { row := digitsCardsUptoRow, standIns := [], harness := (true, "de99e13df80f2cffd07f59201c363b6b19ee28a847c3e68ae131dd14e9ab6ddf"), looks := true }, kinds := [], alts := [], laidByText := true, laidKinds := [.data, .data, .data], laidTests := true, laidLooks := .later }
def DigitsCardsUptoCardSaid : Prop := Claim7.holds Tryd.pinned (.plain (OpenSpec.upto digitsCardsSpec)) digitsCardsUptoCard

/-- THE SECOND FORM's CARD OF 'cashierlaw03.DigitsDates'. -/
def digitsDatesUptoCard : Claim7 := { stood := { row := digitsDatesUptoRow, standIns := [], harness := (true, "de99e13df80f2cffd07f59201c363b6b19ee28a847c3e68ae131dd14e9ab6ddf"), looks := true }, kinds := [], alts := [], laidByText := true, laidKinds := [.data, .data, .data, .sentinel, .sentinel], laidTests := true, laidLooks := .later }
def DigitsDatesUptoCardSaid : Prop := Claim7.holds Tryd.pinned (.plain (OpenSpec.upto digitsDatesSpec)) digitsDatesUptoCard
end Rows
end Go.Proofs.YtfmknhildjgfmaaDoor
