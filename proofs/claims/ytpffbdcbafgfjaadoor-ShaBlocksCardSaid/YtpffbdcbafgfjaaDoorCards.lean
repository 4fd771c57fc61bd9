/-
  DERIVED. GIVEN WITH THE SEED: THE CARDS: each row of YtpffbdcbafgfjaaDoorRows.lean that lists a variable, with what it lists TIED to the program's text (the seventh form; the later family's looks); each row that meets fmt, with fmt's text TOLD by the authors' own Lean function (tested against real Go, not proved from fmt's source: count such statements apart). THE CARD IS WHAT COUNTS. Prove the row's statement (the work); the ties are given (YtpffbdcbafgfjaaDoorTie.lean); close each card by the builder's one call (the guide's Derived/Test/ToyasCard.lean, 'card_holds'). Laid BY PROGRAM, IN A SANDBOX (cutbox-door.mjs). By AI agents, Wed Nov 11 2026. No macro, syntax, notation, axiom, sorry.
-/
import Derived.Test.YtpffbdcbafgfjaaDoorRows
import GoSem.ClaimSeven
namespace Go.Proofs.YtpffbdcbafgfjaaDoor
namespace Rows

/-- THE TIED CARD OF 'cashierlaw05.ShaSums'. -/
def shaSumsCard : Claim7 := { stood := { row := shaSumsRow, standIns := [], harness := (true, "ef584001b278910e1c6c5e399455d60055d179fdaf9373eeed6e89e9980fbed6"), looks := false }, kinds := [], alts := [], laidByText := true, laidKinds := [.data], laidTests := true, laidLooks := .later }
def ShaSumsCardSaid : Prop := Claim7.holds Tryd.pinned (.plain (OpenSpec.ofChange shaSumsSpec)) shaSumsCard

/-- THE TIED CARD OF 'cashierlaw05.ShaBlocks'. -/
def shaBlocksCard : Claim7 := { stood := { row := shaBlocksRow, standIns := [], harness := (true, "ef584001b278910e1c6c5e399455d60055d179fdaf9373eeed6e89e9980fbed6"), looks := false }, kinds := [], alts := [], laidByText := true, laidKinds := [.data], laidTests := true, laidLooks := .later }
def ShaBlocksCardSaid : Prop := Claim7.holds Tryd.pinned (.plain (OpenSpec.ofChange shaBlocksSpec)) shaBlocksCard

/-- THE TIED CARD OF 'cashierlaw05.ShaLonger'. -/
def shaLongerCard : Claim7 := { stood := { row := shaLongerRow, standIns := [], harness := (true, "ef584001b278910e1c6c5e399455d60055d179fdaf9373eeed6e89e9980fbed6"), looks := false }, kinds := [], alts := [], laidByText := true, laidKinds := [.data], laidTests := true, laidLooks := .later }
def ShaLongerCardSaid : Prop := Claim7.holds Tryd.pinned (.plain (OpenSpec.ofChange shaLongerSpec)) shaLongerCard

/-- THE TIED CARD OF 'cashierlaw06.HmacSums'. -/
def hmacSumsCard : Claim7 := { stood := { row := hmacSumsRow, standIns := [], harness := (true, "ef584001b278910e1c6c5e399455d60055d179fdaf9373eeed6e89e9980fbed6"), looks := false }, kinds := [], alts := [], laidByText := true, laidKinds := [.data, .data, .data, .data], laidTests := true, laidLooks := .later }
def HmacSumsCardSaid : Prop := Claim7.holds Tryd.pinned (.plain (OpenSpec.ofChange hmacSumsSpec)) hmacSumsCard

/-- THE TIED CARD OF 'cashierlaw06.HmacCodes'. -/
def hmacCodesCard : Claim7 := { stood := { row := hmacCodesRow, standIns := [], harness := (true, "ef584001b278910e1c6c5e399455d60055d179fdaf9373eeed6e89e9980fbed6"), looks := false }, kinds := [], alts := [], laidByText := true, laidKinds := [.data, .data, .data, .data], laidTests := true, laidLooks := .later }
def HmacCodesCardSaid : Prop := Claim7.holds Tryd.pinned (.plain (OpenSpec.ofChange hmacCodesSpec)) hmacCodesCard

/-- THE TIED CARD OF 'cashierlaw06.HmacKeys'. -/
def hmacKeysCard : Claim7 := { stood := { row := hmacKeysRow, standIns := [], harness := (true, "ef584001b278910e1c6c5e399455d60055d179fdaf9373eeed6e89e9980fbed6"), looks := false }, kinds := [], alts := [], laidByText := true, laidKinds := [.data, .data, .data, .data], laidTests := true, laidLooks := .later }
def HmacKeysCardSaid : Prop := Claim7.holds Tryd.pinned (.plain (OpenSpec.ofChange hmacKeysSpec)) hmacKeysCard

/-- THE SECOND FORM's CARD OF 'cashierlaw05.ShaSums'. -/
def shaSumsUptoCard : Claim7 := { stood := { row := shaSumsUptoRow, standIns := [], harness := (true, "ef584001b278910e1c6c5e399455d60055d179fdaf9373eeed6e89e9980fbed6"), looks := false }, kinds := [], alts := [], laidByText := true, laidKinds := [.data], laidTests := true, laidLooks := .later }
def ShaSumsUptoCardSaid : Prop := Claim7.holds Tryd.pinned (.plain (OpenSpec.upto shaSumsSpec)) shaSumsUptoCard

/-- THE SECOND FORM's CARD OF 'cashierlaw05.ShaBlocks'. -/
def shaBlocksUptoCard : Claim7 := { stood := { row := shaBlocksUptoRow, standIns := [], harness := (true, "ef584001b278910e1c6c5e399455d60055d179fdaf9373eeed6e89e9980fbed6"), looks := false }, kinds := [], alts := [], laidByText := true, laidKinds := [.data], laidTests := true, laidLooks := .later }
def ShaBlocksUptoCardSaid : Prop := Claim7.holds Tryd.pinned (.plain (OpenSpec.upto shaBlocksSpec)) shaBlocksUptoCard

/-- THE SECOND FORM's CARD OF 'cashierlaw05.ShaLonger'. -/
def shaLongerUptoCard : Claim7 := { stood := { row := shaLongerUptoRow, standIns := [], harness := (true, "ef584001b278910e1c6c5e399455d60055d179fdaf9373eeed6e89e9980fbed6"), looks := false }, kinds := [], alts := [], laidByText := true, laidKinds := [.data], laidTests := true, laidLooks := .later }
def ShaLongerUptoCardSaid : Prop := Claim7.holds Tryd.pinned (.plain (OpenSpec.upto shaLongerSpec)) shaLongerUptoCard

/-- THE SECOND FORM's CARD OF 'cashierlaw06.HmacSums'. -/
def hmacSumsUptoCard : Claim7 := { stood := { row := hmacSumsUptoRow, standIns := [], harness := (true, "ef584001b278910e1c6c5e399455d60055d179fdaf9373eeed6e89e9980fbed6"), looks := false }, kinds := [], alts := [], laidByText := true, laidKinds := [.data, .data, .data, .data], laidTests := true, laidLooks := .later }
def HmacSumsUptoCardSaid : Prop := Claim7.holds Tryd.pinned (.plain (OpenSpec.upto hmacSumsSpec)) hmacSumsUptoCard

/-- THE SECOND FORM's CARD OF 'cashierlaw06.HmacCodes'. -/
def hmacCodesUptoCard : Claim7 := { stood := { row := hmacCodesUptoRow, standIns := [], harness := (true, "ef584001b278910e1c6c5e399455d60055d179fdaf9373eeed6e89e9980fbed6"), looks := false }, kinds := [], alts := [], laidByText := true, laidKinds := [.data, .data, .data, .data], laidTests := true, laidLooks := .later }
def HmacCodesUptoCardSaid : Prop := Claim7.holds Tryd.pinned (.plain (OpenSpec.upto hmacCodesSpec)) hmacCodesUptoCard

/-- THE SECOND FORM's CARD OF 'cashierlaw06.HmacKeys'. -/
def hmacKeysUptoCard : Claim7 := { stood := { row := hmacKeysUptoRow, standIns := [], harness := (true, "ef584001b278910e1c6c5e399455d60055d179fdaf9373eeed6e89e9980fbed6"), looks := false }, kinds := [], alts := [], laidByText := true, laidKinds := [.data, .data, .data, .data], laidTests := true, laidLooks := .later }
def HmacKeysUptoCardSaid : Prop := Claim7.holds Tryd.pinned (.plain (OpenSpec.upto hmacKeysSpec)) hmacKeysUptoCard
end Rows
end Go.Proofs.YtpffbdcbafgfjaaDoor
