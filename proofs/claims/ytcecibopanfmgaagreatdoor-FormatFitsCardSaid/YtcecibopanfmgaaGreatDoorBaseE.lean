/- The contract of the writing by letters, as others use it (where reading is there, too). -/
import Derived.Test.YtcecibopanfmgaaGreatDoorBase
namespace Go.Proofs.YtcecibopanfmgaaGreatDoor
open Go.RowKit
set_option linter.unusedVariables false
theorem Awake2_any (w : World) :
    Calls Tryz.prog 17 #[] w fun e w' => e = .returned (.bool true) ∧ Below w.heap.size w w' := by
  go_enter Tryz.func17, Tryz.ntmps17
  go_wp2_with (go_at_call 45; refine (awake2_any _).mono ?_; rintro e wa ⟨rfl, hb⟩)
  go_ret
  exact ⟨rfl, hb⟩
end Go.Proofs.YtcecibopanfmgaaGreatDoor
