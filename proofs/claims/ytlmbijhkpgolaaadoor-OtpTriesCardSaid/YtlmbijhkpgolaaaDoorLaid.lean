/- What the row says of the program's variable, for the walks. -/
import Derived.Lib.LaidTab
import Derived.Test.YtlmbijhkpgolaaaDoorSHash
namespace Go.Proofs.YtlmbijhkpgolaaaDoor
open Go.RowKit
set_option linter.unusedVariables false

theorem G_of_tab {W : World} (h : Lib.TabIs Tryd.prog W "cashier/sha.starts" .u32 [1779033703, 3144134277, 1013904242, 2773480762, 1359893119, 2600822924, 528734635, 1541459225]) : G W := by
  unfold Lib.TabIs World.var? at h
  rw [show Tryd.prog.globalNamed "cashier/sha.starts" = some 0 by kernel_rfl] at h
  simp only [Option.bind_some] at h
  split at h
  · rename_i cs t fr hq
    refine ⟨t, fr, ?_⟩
    rw [hq]
    obtain rfl := Option.some.inj h
    rfl
  · cases h
theorem G_of_laid {W : World} (h : laidMetH Tryd.prog [("cashier/sha.starts", Rows.laid_cashier_sha_starts)] W) : G W :=
  G_of_tab (Lib.tabIs_of_head (g := 0) (t := 71) (e := 70) (n := 8) (rest := []) (by kernel_rfl) (by kernel_rfl) Tryd.underlying71 Tryd.underlying70 (by kernel_rfl) (by kernel_rfl) h)
end Go.Proofs.YtlmbijhkpgolaaaDoor
