/- Acts that came in. -/
import Derived.ProofKit
import Derived.OpenShut
import Derived.ShutString
import Derived.Deep.DeepHandedRow
import Derived.Deep.Slices
import Derived.Deep.Strs
import Derived.Test.YtiaaeniopjpfpaaGreatDoorKMem
namespace Go.Proofs.YtiaaeniopjpfpaaGreatDoor
open Go.ChangeShapes Go.WideShapes Go.RowKit Go.Deep
set_option linter.unusedVariables false

/-- An act: what, where, which byte. -/
structure AC where
  what : Int
  place : Int
  byte : UInt8
instance : Inhabited AC := ⟨⟨0, 0, 0⟩⟩
/-- Its numbers are whole ones of 64 bits. -/
def AC.ok (a : AC) : Prop := (-9223372036854775808 ≤ a.what ∧ a.what ≤ 9223372036854775807) ∧ -9223372036854775808 ≤ a.place ∧ a.place ≤ 9223372036854775807
def AC.cells (a : AC) : List Value := [.int .i64 a.what, .int .i64 a.place, .int .u8 a.byte.toNat]

/-- v is a slice that holds the acts l. -/
def Acts (w : World) (v : Value) (l : List AC) : Prop :=
  ∃ a0 cap b off, v = .slice a0 l.length cap ∧ (0 < l.length → a0 = some ⟨b, off, none⟩ ∧ b < w.heap.size) ∧ ∀ j, j < l.length → (l.getD j default).ok ∧ w.rangeAt b (off + j * 3) (l.getD j default).cells

theorem Acts.below {B : Nat} {w w' : World} {v : Value} {l : List AC} (h : Acts w v l) (hB : w.heap.size ≤ B) (hb : Below B w w') : Acts w' v l := by
  obtain ⟨a0, cap, b, off, h1, h2, h3⟩ := h
  refine ⟨a0, cap, b, off, h1, fun h0 => ⟨(h2 h0).1, Nat.lt_of_lt_of_le (h2 h0).2 hb.size⟩, fun j hj => ⟨(h3 j hj).1, fun k v hv => ?_⟩⟩
  have h4 := (h2 (by omega)).2
  exact (hb.cell (p := ⟨b, off + j * 3 + k, none⟩) (by show b < B; omega)).trans ((h3 j hj).2 k v hv)

end Go.Proofs.YtiaaeniopjpfpaaGreatDoor
