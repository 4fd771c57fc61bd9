/-
  DERIVED. GIVEN WITH THE SEED: THE CARDS: each row of YtdhplohppcndhaaDoorRows.lean that lists a variable, with what it lists TIED to the program's text (the seventh form; the later family's looks); each row that meets fmt, with fmt's text TOLD by the authors' own Lean function (tested against real Go, not proved from fmt's source: count such statements apart). THE CARD IS WHAT COUNTS. Prove the row's statement (the work); the ties are given (YtdhplohppcndhaaDoorTie.lean); close each card by the builder's one call (the guide's Derived/Test/ToyasCard.lean, 'card_holds'). Laid BY PROGRAM, IN A SANDBOX (cutbox-door.mjs). By AI agents, Wed Nov 11 2026. No macro, syntax, notation, axiom, sorry.
-/
import Derived.Test.YtdhplohppcndhaaDoorRows
import GoSem.ClaimSeven
namespace Go.Proofs.YtdhplohppcndhaaDoor
namespace Rows

/-- THE TIED CARD OF 'cashierlaw05.ShaSums'. -/
def shaSumsCard : Claim7 := { stood := { row := shaSumsRow, standIns := [], harness := (true, "f48f9b210887ffc00a96a4eddd30b58c218d5047edd581a896c38074d4d19eae"), looks := false }, kinds := [], alts := [], laidByText := true, laidKinds := [.data], laidTests := true, laidLooks := .later }
def ShaSumsCardSaid : Prop := Claim7.holds Tryd.pinned (.plain (OpenSpec.ofChange shaSumsSpec)) shaSumsCard

/-- THE TIED CARD OF 'cashierlaw06.HmacSums'. -/
def hmacSumsCard : Claim7 := { stood := { row := hmacSumsRow, standIns := [], harness := (true, "f48f9b210887ffc00a96a4eddd30b58c218d5047edd581a896c38074d4d19eae"), looks := false }, kinds := [], alts := [], laidByText := true, laidKinds := [.data, .data, .data, .data], laidTests := true, laidLooks := .later }
def HmacSumsCardSaid : Prop := Claim7.holds Tryd.pinned (.plain (OpenSpec.ofChange hmacSumsSpec)) hmacSumsCard

/-- THE TIED CARD OF 'cashierlaw06.HmacCodes'. -/
def hmacCodesCard : Claim7 := { stood := { row := hmacCodesRow, standIns := [], harness := (true, "f48f9b210887ffc00a96a4eddd30b58c218d5047edd581a896c38074d4d19eae"), looks := false }, kinds := [], alts := [], laidByText := true, laidKinds := [.data, .data, .data, .data], laidTests := true, laidLooks := .later }
def HmacCodesCardSaid : Prop := Claim7.holds Tryd.pinned (.plain (OpenSpec.ofChange hmacCodesSpec)) hmacCodesCard

/-- THE TIED CARD OF 'cashierlaw06.HmacKeys'. -/
def hmacKeysCard : Claim7 := { stood := { row := hmacKeysRow, standIns := [], harness := (true, "f48f9b210887ffc00a96a4eddd30b58c218d5047edd581a896c38074d4d19eae"), looks := false }, kinds := [], alts := [], laidByText := true, laidKinds := [.data, .data, .data, .data], laidTests := true, laidLooks := .later }
def HmacKeysCardSaid : Prop := Claim7.holds Tryd.pinned (.plain (OpenSpec.ofChange hmacKeysSpec)) hmacKeysCard

/-- THE TIED CARD OF 'cashierlaw10.IdsOrder'. -/
def idsOrderCard : Claim7 := { stood := { row := idsOrderRow, standIns := [], harness := (true, "f48f9b210887ffc00a96a4eddd30b58c218d5047edd581a896c38074d4d19eae"), looks := false }, kinds := [], alts := [], laidByText := true, laidKinds := [.data, .data, .data, .data], laidTests := true, laidLooks := .later }
def IdsOrderCardSaid : Prop := Claim7.holds Tryd.pinned (.plain (OpenSpec.ofChange idsOrderSpec)) idsOrderCard

/-- THE SECOND FORM's CARD OF 'cashierlaw05.ShaSums'. -/
def shaSumsUptoCard : Claim7 := { stood := { row := shaSumsUptoRow, standIns := [], harness := (true, "f48f9b210887ffc00a96a4eddd30b58c218d5047edd581a896c38074d4d19eae"), looks := false }, kinds := [], alts := [], laidByText := true, laidKinds := [.data], laidTests := true, laidLooks := .later }
def ShaSumsUptoCardSaid : Prop := Claim7.holds Tryd.pinned (.plain (OpenSpec.upto shaSumsSpec)) shaSumsUptoCard

/-- THE SECOND FORM's CARD OF 'cashierlaw06.HmacSums'. -/
def hmacSumsUptoCard : Claim7 := { stood := { row := hmacSumsUptoRow, standIns := [], harness := (true, "f48f9b210887ffc00a96a4eddd30b58c218d5047edd581a896c38074d4d19eae"), looks := false }, kinds := [], alts := [], laidByText := true, laidKinds := [.data, .data, .data, .data], laidTests := true, laidLooks := .later }
def HmacSumsUptoCardSaid : Prop := Claim7.holds Tryd.pinned (.plain (OpenSpec.upto hmacSumsSpec)) hmacSumsUptoCard

/-- THE SECOND FORM's CARD OF 'cashierlaw06.HmacCodes'. -/
def hmacCodesUptoCard : Claim7 := { stood := { row := hmacCodesUptoRow, standIns := [], harness := (true, "f48f9b210887ffc00a96a4eddd30b58c218d5047edd581a896c38074d4d19eae"), looks := false }, kinds := [], alts := [], laidByText := true, laidKinds := [.data, .data, .data, .data], laidTests := true, laidLooks := .later }
def HmacCodesUptoCardSaid : Prop := Claim7.holds Tryd.pinned (.plain (OpenSpec.upto hmacCodesSpec)) hmacCodesUptoCard

/-- THE SECOND FORM's CARD OF 'cashierlaw06.HmacKeys'. -/
def hmacKeysUptoCard : Claim7 := { stood := { row := hmacKeysUptoRow, standIns := [], harness := (true, "f48f9b210887ffc00a96a4eddd30b58c218d5047edd581a896c38074d4d19eae"), looks := false }, kinds := [], alts := [], laidByText := true, laidKinds := [.data, .data, .data, .data], laidTests := true, laidLooks := .later }
def HmacKeysUptoCardSaid : Prop := Claim7.holds Tryd.pinned (.plain (OpenSpec.upto hmacKeysSpec)) hmacKeysUptoCard

/-- THE SECOND FORM's CARD OF 'cashierlaw10.IdsOrder'. -/
def idsOrderUptoCard : Claim7 := { stood := { row := idsOrderUptoRow, standIns := [], harness := (true, "f48f9b210887ffc00a96a4eddd30b58c218d5047edd581a896c38074d4d19eae"), looks := false }, kinds := [], alts := [], laidByText := true, laidKinds := [.data, .data, .data, .data], laidTests := true, laidLooks := .later }
def IdsOrderUptoCardSaid : Prop := Claim7.holds Tryd.pinned (.plain (OpenSpec.upto idsOrderSpec)) idsOrderUptoCard
end Rows
end Go.Proofs.YtdhplohppcndhaaDoor
