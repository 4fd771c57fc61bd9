/-
  DERIVED. GIVEN WITH THE SEED: THE CARDS: each row of YtlmbijhkpgolaaaDoorRows.lean that lists a variable, with what it lists TIED to the program's text (the seventh form; the later family's looks); each row that meets fmt, with fmt's text TOLD by the authors' own Lean function (tested against real Go, not proved from fmt's source: count such statements apart). THE CARD IS WHAT COUNTS. Prove the row's statement (the work); the ties are given (YtlmbijhkpgolaaaDoorTie.lean); close each card by the builder's one call (the guide's Derived/Test/ToyasCard.lean, 'card_holds'). Laid BY PROGRAM, IN A SANDBOX (cutbox-door.mjs). By AI agents, Wed Nov 11 2026. No macro, syntax, notation, axiom, sorry.
-/
import Derived.Test.YtlmbijhkpgolaaaDoorRows
import GoSem.ClaimSeven
namespace Go.Proofs.YtlmbijhkpgolaaaDoor
namespace Rows

/-- THE TIED CARD OF 'cashierlaw21.OtpTexts'. -/
def otpTextsCard : Claim7 := { stood := { row := otpTextsRow, standIns := [], harness := (true, "cccfe085a9b6ec7e85587c54cb505b9ea0c05b177f7ed4b951cd842e30fa5f6a"), looks := false }, kinds := [], alts := [], laidByText := true, laidKinds := [.data, .data, .data, .data], laidTests := true, laidLooks := .later }
def OtpTextsCardSaid : Prop := Claim7.holds Tryd.pinned (.plain (OpenSpec.ofChange otpTextsSpec)) otpTextsCard

/-- THE TIED CARD OF 'cashierlaw21.OtpTries'. -/
def otpTriesCard : Claim7 := { stood := { row := otpTriesRow, standIns := [], harness := (true, "cccfe085a9b6ec7e85587c54cb505b9ea0c05b177f7ed4b951cd842e30fa5f6a"), looks := false }, kinds := [], alts := [], laidByText := true, laidKinds := [.data, .data, .data, .data], laidTests := true, laidLooks := .later }
def OtpTriesCardSaid : Prop := Claim7.holds Tryd.pinned (.plain (OpenSpec.ofChange otpTriesSpec)) otpTriesCard

/-- THE TIED CARD OF 'cashierlaw21.OtpLate'. -/
def otpLateCard : Claim7 := { stood := { row := otpLateRow, standIns := [], harness := (true, "cccfe085a9b6ec7e85587c54cb505b9ea0c05b177f7ed4b951cd842e30fa5f6a"), looks := false }, kinds := [], alts := [], laidByText := true, laidKinds := [.data, .data, .data, .data], laidTests := true, laidLooks := .later }
def OtpLateCardSaid : Prop := Claim7.holds Tryd.pinned (.plain (OpenSpec.ofChange otpLateSpec)) otpLateCard

/-- THE SECOND FORM's CARD OF 'cashierlaw21.OtpTexts'. -/
def otpTextsUptoCard : Claim7 := { stood := { row := otpTextsUptoRow, standIns := [], harness := (true, "cccfe085a9b6ec7e85587c54cb505b9ea0c05b177f7ed4b951cd842e30fa5f6a"), looks := false }, kinds := [], alts := [], laidByText := true, laidKinds := [.data, .data, .data, .data], laidTests := true, laidLooks := .later }
def OtpTextsUptoCardSaid : Prop := Claim7.holds Tryd.pinned (.plain (OpenSpec.upto otpTextsSpec)) otpTextsUptoCard

/-- THE SECOND FORM's CARD OF 'cashierlaw21.OtpTries'. -/
def otpTriesUptoCard : Claim7 := { stood := { row := otpTriesUptoRow, standIns := [], harness := (true, "cccfe085a9b6ec7e85587c54cb505b9ea0c05b177f7ed4b951cd842e30fa5f6a"), looks := false }, kinds := [], alts := [], laidByText := true, laidKinds := [.data, .data, .data, .data], laidTests := true, laidLooks := .later }
def OtpTriesUptoCardSaid : Prop := Claim7.holds Tryd.pinned (.plain (OpenSpec.upto otpTriesSpec)) otpTriesUptoCard

/-- THE SECOND FORM's CARD OF 'cashierlaw21.OtpLate'. -/
def otpLateUptoCard : Claim7 := { stood := { row := otpLateUptoRow, standIns := [], harness := (true, "cccfe085a9b6ec7e85587c54cb505b9ea0c05b177f7ed4b951cd842e30fa5f6a"), looks := false }, kinds := [], alts := [], laidByText := true, laidKinds := [.data, .data, .data, .data], laidTests := true, laidLooks := .later }
def OtpLateUptoCardSaid : Prop := Claim7.holds Tryd.pinned (.plain (OpenSpec.upto otpLateSpec)) otpLateUptoCard
end Rows
end Go.Proofs.YtlmbijhkpgolaaaDoor
