/-
  DERIVED. GIVEN WITH THE SEED: THE CARDS: each row of YtdhplohppcndhaaGreatDoorRows.lean that lists a variable, with what it lists TIED to the program's text (the seventh form; the later family's looks); each row that meets fmt, with fmt's text TOLD by the authors' own Lean function (tested against real Go, not proved from fmt's source: count such statements apart). THE CARD IS WHAT COUNTS. Prove the row's statement (the work); the ties are given (YtdhplohppcndhaaGreatDoorTie.lean); close each card by the builder's one call (the guide's Derived/Test/ToyasCard.lean, 'card_holds'). Laid BY PROGRAM, IN A SANDBOX (cutbox-door.mjs). By AI agents, Wed Nov 11 2026. No macro, syntax, notation, axiom, sorry.
-/
import Derived.Test.YtdhplohppcndhaaGreatDoorRows
import GoSem.ClaimSeven
namespace Go.Proofs.YtdhplohppcndhaaGreatDoor
namespace Rows

/-- THE TIED CARD OF 'cashierlaw10.IdsTexts'. -/
def idsTextsCard : Claim7 := { stood := { row := idsTextsRow, standIns := [], harness := (true, "582309942808c3816f39cbb2e36d06b201a0d376f51611de1735ed66ffbf7b5c"), looks := false }, kinds := [], alts := [], laidByText := true, laidKinds := [.data, .data, .data, .data, .data, .pinned], laidTests := true, laidLooks := .later }
def IdsTextsCardSaid : Prop := Claim7.holds Tryz.pinned (.plain (OpenSpec.ofChange idsTextsSpec)) idsTextsCard

/-- THE TIED CARD OF 'cashierlaw10.IdsDraws'. -/
def idsDrawsCard : Claim7 := { stood := { row := idsDrawsRow, standIns := [], harness := (true, "582309942808c3816f39cbb2e36d06b201a0d376f51611de1735ed66ffbf7b5c"), looks := false }, kinds := [], alts := [], laidByText := true, laidKinds := [.data, .data, .data, .data], laidTests := true, laidLooks := .later }
def IdsDrawsCardSaid : Prop := Claim7.holds Tryz.pinned (.plain (OpenSpec.ofChange idsDrawsSpec)) idsDrawsCard

/-- THE SECOND FORM's CARD OF 'cashierlaw10.IdsTexts'. -/
def idsTextsUptoCard : Claim7 := { stood := { row := idsTextsUptoRow, standIns := [], harness := (true, "582309942808c3816f39cbb2e36d06b201a0d376f51611de1735ed66ffbf7b5c"), looks := false }, kinds := [], alts := [], laidByText := true, laidKinds := [.data, .data, .data, .data, .data, .pinned], laidTests := true, laidLooks := .later }
def IdsTextsUptoCardSaid : Prop := Claim7.holds Tryz.pinned (.plain (OpenSpec.upto idsTextsSpec)) idsTextsUptoCard

/-- THE SECOND FORM's CARD OF 'cashierlaw10.IdsDraws'. -/
def idsDrawsUptoCard : Claim7 := { stood := { row := idsDrawsUptoRow, standIns := [], harness := (true, "582309942808c3816f39cbb2e36d06b201a0d376f51611de1735ed66ffbf7b5c"), looks := false }, kinds := [], alts := [], laidByText := true, laidKinds := [.data, .data, .data, .data], laidTests := true, laidLooks := .later }
def IdsDrawsUptoCardSaid : Prop := Claim7.holds Tryz.pinned (.plain (OpenSpec.upto idsDrawsSpec)) idsDrawsUptoCard
end Rows
end Go.Proofs.YtdhplohppcndhaaGreatDoor
