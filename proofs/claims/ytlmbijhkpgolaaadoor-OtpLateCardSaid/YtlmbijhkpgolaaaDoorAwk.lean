/- The contract of the first laws' example. -/
import Derived.Test.YtlmbijhkpgolaaaDoorRows
import Derived.WalkKit
import Derived.WalkSpells
import Derived.WalkLawsBesides
import Derived.Lib.Hide
import Derived.Deep.QuietTactic
import Derived.BigQuiet
import Derived.Test.YtlmbijhkpgolaaaDoorPlain
import Derived.Test.YtlmbijhkpgolaaaDoorMem
import Derived.Test.YtlmbijhkpgolaaaDoorPut
import Derived.Test.YtlmbijhkpgolaaaDoorCsum
namespace Go.Proofs.YtlmbijhkpgolaaaDoor
open Go.RowKit
set_option linter.unusedVariables false

def exA : ByteArray := ⟨#[49, 50, 51, 52]⟩
def exB : ByteArray := ⟨#[53, 54, 55, 56, 57]⟩
theorem ex_sum : ((crcL (cat [exA, exB]) : Nat) : Int) = 3421780262 := by
  have h : crcL (cat [exA, exB]) = 3421780262 := crc_example
  rw [h]; rfl
theorem ex_put : ByteArray.mk (putL 258 (szOf 2)).toArray = ⟨#[1, 2]⟩ := by decide +kernel

set_option maxRecDepth 3000 in
set_option maxHeartbeats 400000 in
theorem awake_any (w : World) :
    Calls Tryd.prog 47 #[] w fun e w' => e = .returned (.bool true) ∧ Below w.heap.size w w' := by
  have hcells : ∀ i, i < 2 → (w.alloc (.cells #[.string ⟨#[49, 50, 51, 52]⟩, .string ⟨#[53, 54, 55, 56, 57]⟩] 9)).cell? ⟨w.heap.size, i, none⟩ = some (.string ([exA, exB].getD i ByteArray.empty)) := by
    intro i hi
    have h := (Row.new w 9 [.string ⟨#[49, 50, 51, 52]⟩, .string ⟨#[53, 54, 55, 56, 57]⟩]).cell i
    rw [h]
    rcases (by omega : i = 0 ∨ i = 1) with rfl | rfl <;> rfl
  have HC := Lib.hid hcells
  clear hcells
  have hb0 : Below w.heap.size w (w.alloc (.cells #[.string ⟨#[49, 50, 51, 52]⟩, .string ⟨#[53, 54, 55, 56, 57]⟩] 9)) := (Below.refl _ _).alloc (Nat.le_refl _) _
  go_enter Tryd.func47, Tryd.ntmps47
  go_wp2_with fail
  refine (CRC_any [exA, exB] w.heap.size 2 2 _ rfl (by omega) (by simp) (fun i hi => by rcases (by omega : i = 0 ∨ i = 1) with rfl | rfl <;> (show (_ : Nat) ≤ _; decide)) HC.out).mono ?_
  rintro e w1 ⟨rfl, hb1⟩
  have hbb := hb0.trans (hb1.mono (by simp))
  rw [ex_sum]
  clear hb0 hb1 HC
  go_wp2_with fail
  refine (Put_any 258 2 _ (by omega)).mono ?_
  rintro e w2 ⟨rfl, hb2⟩
  have hb3 := hbb.trans (hb2.mono hbb.size)
  rw [ex_put]
  clear hbb hb2
  go_wp2
  go_ret
  exact ⟨rfl, hb3⟩
end Go.Proofs.YtlmbijhkpgolaaaDoor
