/- Frames and marks of a log in plain words. -/
import Derived.Test.YtiaaeniopjpfpaaGreatDoorCsum
import Derived.Test.YtiaaeniopjpfpaaGreatDoorSText
import Derived.Test.YtiaaeniopjpfpaaGreatDoorPut
namespace Go.Proofs.YtiaaeniopjpfpaaGreatDoor
open Go.RowKit
set_option linter.unusedVariables false

/-- What is told, its sum, the sum of all. -/
def seal1 (told text : List UInt8) : List UInt8 := told ++ (shaL (told ++ text)).take 16
def sealL (told text : List UInt8) : List UInt8 := seal1 told text ++ putL (crcL (seal1 told text ++ text)) 4
def headL (number : Nat) (text : List UInt8) : List UInt8 := sealL (putL number 4 ++ putL text.length 4) text
def frameL (number : Nat) (text : List UInt8) : List UInt8 := headL number text ++ text
def markL (number half : Nat) : List UInt8 := sealL ([67, 75, 77, 75] ++ putL number 8 ++ putL half 8) []
theorem seal1_length (told text : List UInt8) : (seal1 told text).length = told.length + 16 := by
  unfold seal1
  rw [List.length_append, List.length_take, shaL_length]
  omega
theorem sealL_length (told text : List UInt8) : (sealL told text).length = told.length + 20 := by
  unfold sealL
  rw [List.length_append, seal1_length, putL_length]
theorem headL_length (number : Nat) (text : List UInt8) : (headL number text).length = 28 := by
  unfold headL
  rw [sealL_length, List.length_append, putL_length, putL_length]
theorem frameL_length (number : Nat) (text : List UInt8) : (frameL number text).length = 28 + text.length := by
  unfold frameL
  rw [List.length_append, headL_length]
theorem markL_length (number half : Nat) : (markL number half).length = 40 := by
  unfold markL
  rw [sealL_length, List.length_append, List.length_append, putL_length, putL_length]
  rfl
/-- A list as a text. -/
def tx (l : List UInt8) : ByteArray := ⟨l.toArray⟩
theorem tx_size (l : List UInt8) : (tx l).size = l.length := by show l.toArray.size = _; simp
theorem tx_list (l : List UInt8) : (tx l).data.toList = l := by simp [tx]
theorem tx_self (s : ByteArray) : tx s.data.toList = s := by
  cases s with
  | mk d => simp [tx]
theorem tx_append (a b : List UInt8) : tx a ++ tx b = tx (a ++ b) := by
  apply ByteArray.ext
  simp [tx]
end Go.Proofs.YtiaaeniopjpfpaaGreatDoor
