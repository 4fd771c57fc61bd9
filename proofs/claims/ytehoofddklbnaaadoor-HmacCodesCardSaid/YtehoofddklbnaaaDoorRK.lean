/- The document's constants. -/
import Derived.Great.BuildSlice
import Derived.Test.YtehoofddklbnaaaDoorSPlain
import Derived.Test.YtehoofddklbnaaaDoorSSch
namespace Go.Proofs.YtehoofddklbnaaaDoor
open Go.RowKit
set_option linter.unusedVariables false

def kInts : List Int := K64.map fun k => (k.toNat : Int)
theorem kInts_row : kInts.map (Value.int .u32) = wrow K64 := by unfold kInts wrow; rw [List.map_map]; rfl

set_option maxRecDepth 20000 in
set_option maxHeartbeats 2000000 in
theorem refK_any (w : World) :
    Calls Tryd.prog 44 #[] w fun e w' => e = .returned (.slice (some ⟨w.heap.size, 0, none⟩) 64 64) ∧ w' = w.alloc (.cells (wrow K64).toArray 60) := by
  go_enter Tryd.func44, Tryd.ntmps44
  go_wp2_with (refine wpList_buildFlatAt rfl 58 60 64 _ rfl .u32 kInts w.heap.size rfl (some 1) rfl Tryd.underlying58 (by kernel_rfl) (by kernel_rfl) (by kernel_rfl) (by decide) (by decide) (by kernel_rfl) ?_)
  rw [kInts_row]
  go_ret
  exact ⟨rfl, rfl⟩
end Go.Proofs.YtehoofddklbnaaaDoor
