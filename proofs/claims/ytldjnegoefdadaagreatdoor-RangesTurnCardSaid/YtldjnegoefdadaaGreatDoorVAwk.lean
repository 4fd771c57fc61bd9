/- The laws' example. -/
import Derived.Test.YtldjnegoefdadaaGreatDoorVBest
import Derived.Test.YtldjnegoefdadaaGreatDoorDCard
namespace Go.Proofs.YtldjnegoefdadaaGreatDoor
open Go.RowKit
set_option linter.unusedVariables false

theorem best_ex : bst ⟨#[50, 46, 48, 46, 48]⟩ ⟨#[50, 46, 49, 46, 57]⟩ kV = (⟨#[50, 46, 49, 46, 48]⟩, true) := by decide +kernel

theorem awake3v (w : World) :
    Calls Tryz.prog 79 #[] w fun e w' => e = .returned (.bool true) ∧ Below w.heap.size w w' := by
  go_enter Tryz.func79, Tryz.ntmps79
  go_wp2_with (go_at_call 97; refine (awake3_any _).mono ?_; rintro e w' ⟨rfl, hB1⟩)
  go_ret
  exact ⟨rfl, hB1⟩

set_option maxHeartbeats 400000 in
theorem awake17_any (w : World) (hG : VG w) (hN : NV w) :
    Calls Tryz.prog 56 #[] w fun e w' => e = .returned (.bool true) ∧ Below w.heap.size w w' := by
  have HBs := Lib.hid (fun W h1 h2 => Best_any ⟨#[50, 46, 48, 46, 48]⟩ ⟨#[50, 46, 49, 46, 57]⟩ (by decide) (by decide) W h1 h2)
  rw [best_ex] at HBs
  have HG := Lib.hid hG
  have HN := Lib.hid hN
  clear hG hN
  go_enter Tryz.func56, Tryz.ntmps56
  go_wp2_with fail
  refine (HBs.out _ HG.out HN.out).mono ?_
  rintro e w1 ⟨rfl, hb1⟩
  go_wp2_with fail
  refine (awake3v _).mono ?_
  rintro e w2 ⟨rfl, hb2⟩
  have HB := Lib.hid (hb1.trans (hb2.mono hb1.size))
  clear hb1 hb2
  go_wp2
  go_ret
  exact ⟨ret_bool (by decide), HB.out⟩
end Go.Proofs.YtldjnegoefdadaaGreatDoor
