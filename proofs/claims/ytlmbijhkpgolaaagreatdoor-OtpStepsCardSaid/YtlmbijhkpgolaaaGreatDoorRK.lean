/- The document's constants. -/
import Derived.Great.BuildSlice
import Derived.Test.YtlmbijhkpgolaaaGreatDoorSPlain
import Derived.Test.YtlmbijhkpgolaaaGreatDoorSSch
namespace Go.Proofs.YtlmbijhkpgolaaaGreatDoor
open Go.RowKit
set_option linter.unusedVariables false

def kInts : List Int := K64.map fun k => (k.toNat : Int)
theorem kInts_row : kInts.map (Value.int .u32) = wrow K64 := by unfold kInts wrow; rw [List.map_map]; rfl

set_option maxRecDepth 20000 in
set_option maxHeartbeats 2000000 in
theorem refK_any (w : World) :
    Calls Tryz.prog 51 #[] w fun e w' => e = .returned (.slice (some ⟨w.heap.size, 0, none⟩) 64 64) ∧ w' = w.alloc (.cells (wrow K64).toArray 66) := by
  go_enter Tryz.func51, Tryz.ntmps51
  go_wp2_with (refine wpList_buildFlatAt rfl 77 66 64 _ rfl .u32 kInts w.heap.size rfl (some 1) rfl Tryz.underlying77 (by kernel_rfl) (by kernel_rfl) (by kernel_rfl) (by decide) (by decide) (by kernel_rfl) ?_)
  rw [kInts_row]
  go_ret
  exact ⟨rfl, rfl⟩
end Go.Proofs.YtlmbijhkpgolaaaGreatDoor
