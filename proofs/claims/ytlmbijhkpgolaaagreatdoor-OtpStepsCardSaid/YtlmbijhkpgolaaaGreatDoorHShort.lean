/- The first bytes of the sum by a key. -/
import Derived.Test.YtlmbijhkpgolaaaGreatDoorHSumm
namespace Go.Proofs.YtlmbijhkpgolaaaGreatDoor
open Go.RowKit
set_option linter.unusedVariables false
theorem hmacL_length (k t : List UInt8) : (hmacL k t).length = 32 := by unfold hmacL; exact shaL_length _

end Go.Proofs.YtlmbijhkpgolaaaGreatDoor
