/- The plain sum by a key. -/
import Derived.Test.YtlmbijhkpgolaaaGreatDoorSPlain
namespace Go.Proofs.YtlmbijhkpgolaaaGreatDoor
set_option linter.unusedVariables false
/-- A key's block, masked. -/
def blkL (key : List UInt8) (m : UInt8) : List UInt8 := (key ++ List.replicate (64 - key.length) 0).map fun c => c ^^^ m
/-- The key that is masked. -/
def keyL (key : List UInt8) : List UInt8 := if 64 < key.length then shaL key else key
/-- The sum. -/
def hmacL (key msg : List UInt8) : List UInt8 := shaL (blkL (keyL key) 92 ++ shaL (blkL (keyL key) 54 ++ msg))
theorem blkL_length (key : List UInt8) (m : UInt8) (h : key.length ≤ 64) : (blkL key m).length = 64 := by simp [blkL]; omega
/-- The chapter's example: Jefe's. -/
theorem jefe_example : (hmacL [74, 101, 102, 101] [119, 104, 97, 116, 32, 100, 111, 32, 121, 97, 32, 119, 97, 110, 116, 32, 102, 111, 114, 32, 110, 111, 116, 104, 105, 110, 103, 63]).take 4 = [91, 220, 193, 70] := by decide +kernel
end Go.Proofs.YtlmbijhkpgolaaaGreatDoor
