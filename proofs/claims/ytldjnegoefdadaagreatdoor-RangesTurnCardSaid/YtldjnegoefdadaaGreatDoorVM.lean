/- The library's bound on what it searches through: some number, laid down once. -/
import Derived.WalkKit
import Derived.Lib.Hide
import Derived.Test.YtldjnegoefdadaaGreatDoorProg
namespace Go.Proofs.YtldjnegoefdadaaGreatDoor
open Go.RowKit

def M (w : World) : Prop := ∃ m, w.cell? ⟨1, 0, none⟩ = some (.int .i64 m)
theorem M.below {w w' : World} (h : M w) (hb : Below w.heap.size w w') : M w' := by
  obtain ⟨m, hm⟩ := h
  exact ⟨m, (hb.cell (p := ⟨1, 0, none⟩) (World.block_lt_of_cell? _ _ hm)).trans hm⟩
end Go.Proofs.YtldjnegoefdadaaGreatDoor
