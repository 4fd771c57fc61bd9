/-
  DERIVED. GIVEN WITH THE SEED: THE CARDS: each row of YtoampocobmeebaaGreatDoorRows.lean that lists a variable, with what it lists TIED to the program's text (the seventh form; the later family's looks); each row that meets fmt, with fmt's text TOLD by the authors' own Lean function (tested against real Go, not proved from fmt's source: count such statements apart). THE CARD IS WHAT COUNTS. Prove the row's statement (the work); the ties are given (YtoampocobmeebaaGreatDoorTie.lean); close each card by the builder's one call (the guide's Derived/Test/ToyasCard.lean, 'card_holds'). Laid BY PROGRAM, IN A SANDBOX (cutbox-door.mjs). By AI agents, Wed Nov 11 2026. No macro, syntax, notation, axiom, sorry.
-/
import Derived.Test.YtoampocobmeebaaGreatDoorRows
import GoSem.ClaimSeven
namespace Go.Proofs.YtoampocobmeebaaGreatDoor
namespace Rows

/-- THE TIED CARD OF 'cashierlaw24.TimerTurns'. -/
def timerTurnsCard : Claim7 := { stood := { row := timerTurnsRow, standIns := [], harness := (true, "6f44ac039759dcc05335af8c4f2505606fe73a53d5d078bf624509f7633125f8"), looks := false }, kinds := [], alts := [], laidByText := true, laidKinds := [.data, .data, .data, .data], laidTests := true, laidLooks := .later }
def TimerTurnsCardSaid : Prop := Claim7.holds Tryz.pinned (.plain (OpenSpec.ofChange timerTurnsSpec)) timerTurnsCard

/-- THE TIED CARD OF 'cashierlaw24.TimerOrder'. -/
def timerOrderCard : Claim7 := { stood := { row := timerOrderRow, standIns := [], harness := (true, "6f44ac039759dcc05335af8c4f2505606fe73a53d5d078bf624509f7633125f8"), looks := false }, kinds := [], alts := [], laidByText := true, laidKinds := [.data, .data, .data, .data], laidTests := true, laidLooks := .later }
def TimerOrderCardSaid : Prop := Claim7.holds Tryz.pinned (.plain (OpenSpec.ofChange timerOrderSpec)) timerOrderCard

/-- THE TIED CARD OF 'cashierlaw24.TimerMoves'. -/
def timerMovesCard : Claim7 := { stood := { row := timerMovesRow, standIns := [], harness := (true, "6f44ac039759dcc05335af8c4f2505606fe73a53d5d078bf624509f7633125f8"), looks := false }, kinds := [], alts := [], laidByText := true, laidKinds := [.data, .data, .data, .data], laidTests := true, laidLooks := .later }
def TimerMovesCardSaid : Prop := Claim7.holds Tryz.pinned (.plain (OpenSpec.ofChange timerMovesSpec)) timerMovesCard

/-- THE SECOND FORM's CARD OF 'cashierlaw24.TimerTurns'. -/
def timerTurnsUptoCard : Claim7 := { stood := { row := timerTurnsUptoRow, standIns := [], harness := (true, "6f44ac039759dcc05335af8c4f2505606fe73a53d5d078bf624509f7633125f8"), looks := false }, kinds := [], alts := [], laidByText := true, laidKinds := [.data, .data, .data, .data], laidTests := true, laidLooks := .later }
def TimerTurnsUptoCardSaid : Prop := Claim7.holds Tryz.pinned (.plain (OpenSpec.upto timerTurnsSpec)) timerTurnsUptoCard

/-- THE SECOND FORM's CARD OF 'cashierlaw24.TimerOrder'. -/
def timerOrderUptoCard : Claim7 := { stood := { row := timerOrderUptoRow, standIns := [], harness := (true, "6f44ac039759dcc05335af8c4f2505606fe73a53d5d078bf624509f7633125f8"), looks := false }, kinds := [], alts := [], laidByText := true, laidKinds := [.data, .data, .data, .data], laidTests := true, laidLooks := .later }
def TimerOrderUptoCardSaid : Prop := Claim7.holds Tryz.pinned (.plain (OpenSpec.upto timerOrderSpec)) timerOrderUptoCard

/-- THE SECOND FORM's CARD OF 'cashierlaw24.TimerMoves'. -/
def timerMovesUptoCard : Claim7 := { stood := { row := timerMovesUptoRow, standIns := [], harness := (true, "6f44ac039759dcc05335af8c4f2505606fe73a53d5d078bf624509f7633125f8"), looks := false }, kinds := [], alts := [], laidByText := true, laidKinds := [.data, .data, .data, .data], laidTests := true, laidLooks := .later }
def TimerMovesUptoCardSaid : Prop := Claim7.holds Tryz.pinned (.plain (OpenSpec.upto timerMovesSpec)) timerMovesUptoCard
end Rows
end Go.Proofs.YtoampocobmeebaaGreatDoor
