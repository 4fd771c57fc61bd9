/- The rounds' constants: what is laid behind some primes. -/
import Derived.RangeFuncNested
import Derived.RangeFuncBound
import Derived.RangeFuncCalls
import Derived.RangeFuncLeaves
import Derived.RangeFuncBox
import Derived.Maps.AppendAt
import Derived.Shelf.Abstract
import Derived.Shelf.RegionOpen
import Derived.WalkKit
import Derived.OwnWalkIn
import Derived.TacticsInMore
import Derived.LoopNIn
import Derived.LoopIn
import Derived.Lib.Hide
import Derived.Lib.OthersKept
import Derived.Test.YtheidjnapoipaaaGreatDoorSCube
import Derived.Test.YtheidjnapoipaaaGreatDoorSSch
import Derived.Test.YtheidjnapoipaaaGreatDoorSPrimesI
namespace Go.Proofs.YtheidjnapoipaaaGreatDoor
open Go.RowKit Go.Shelf
set_option linter.unusedVariables false
attribute [local go_sem] Oper.semAt_some

/-- What is laid behind some primes. -/
def keysL (l : List (Nat × Nat)) : List Value := l.foldl (fun r x => r.set x.1 (.int .u32 ((cubeW x.2).toNat : Int))) z64
theorem keysL_snoc (l : List (Nat × Nat)) (x : Nat × Nat) : keysL (l ++ [x]) = (keysL l).set x.1 (.int .u32 ((cubeW x.2).toNat : Int)) := by simp [keysL]
theorem keysL_length (l : List (Nat × Nat)) : (keysL l).length = 64 := by
  unfold keysL
  have : ∀ r : List Value, (l.foldl (fun r x => r.set x.1 (.int .u32 ((cubeW x.2).toNat : Int))) r).length = r.length := by
    induction l with
    | nil => intro r; rfl
    | cons x l ih => intro r; rw [List.foldl_cons, ih, List.length_set]
  rw [this]; rfl
set_option maxRecDepth 100000 in
theorem keysL_all : keysL (pb 312) = wrow K64 := by kernel_rfl

theorem keysL_one (l : List (Nat × Nat)) : (keysL l).toArray.all (·.oneCell') = true := by
  rw [Array.all_eq_true_iff_forall_mem]
  unfold keysL
  have : ∀ r : List Value, (∀ v ∈ r, v.oneCell' = true) → ∀ v ∈ (l.foldl (fun r x => r.set x.1 (.int .u32 ((cubeW x.2).toNat : Int))) r).toArray, v.oneCell' = true := by
    induction l with
    | nil => intro r hr v hv; exact hr v (by simpa using hv)
    | cons x l ih =>
      intro r hr v hv
      rw [List.foldl_cons] at hv
      refine ih _ (fun u hu => ?_) v hv
      rcases List.mem_or_eq_of_mem_set hu with h | h
      · exact hr u h
      · rw [h]; rfl
  exact this z64 (fun v hv => by rw [List.eq_of_mem_replicate hv]; rfl)

end Go.Proofs.YtheidjnapoipaaaGreatDoor
