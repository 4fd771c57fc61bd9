/- A slice of texts. -/
import Derived.WalkKit
import Derived.WalkSpells
import Derived.WalkLawsBesides
import Derived.Lib.Hide
import Derived.Deep.AppendLies
import Derived.Test.YtheidjnapoipaaaGreatDoorMem
namespace Go.Proofs.YtheidjnapoipaaaGreatDoor
open Go.RowKit
set_option linter.unusedVariables false

/-- v is a slice that holds the texts l. -/
def Strs (w : World) (v : Value) (l : List ByteArray) : Prop :=
  ∃ a0 cap b off, v = .slice a0 l.length cap ∧ (0 < l.length → a0 = some ⟨b, off, none⟩ ∧ b < w.heap.size) ∧ ∀ j, j < l.length → w.cell? ⟨b, off + j, none⟩ = some (.string (l.getD j ByteArray.empty))

theorem Strs.below {B : Nat} {w w' : World} {v : Value} {l : List ByteArray} (h : Strs w v l) (hB : w.heap.size ≤ B) (hb : Below B w w') : Strs w' v l := by
  obtain ⟨a0, cap, b, off, h1, h2, h3⟩ := h
  refine ⟨a0, cap, b, off, h1, fun h0 => ⟨(h2 h0).1, Nat.lt_of_lt_of_le (h2 h0).2 ?_⟩, fun j hj => ?_⟩
  · exact hb.size
  · have h4 := (h2 (by omega)).2
    exact (hb.cell (p := ⟨b, off + j, none⟩) (by show b < B; omega)).trans (h3 j hj)

theorem Strs.own {w : World} {v : Value} {l : List ByteArray} {B k : Nat} (h : w.ownsRow B 9 1 v k (l.map Value.string)) (hk : k = l.length) : Strs w v l := by
  subst hk
  rcases h.2 with ⟨h0, h1⟩ | ⟨g, cap, cur, hv, hg, _, hn, hcap, _, _⟩
  · subst h0
    exact ⟨none, 0, 0, 0, by rw [h1], fun h => by omega, fun j hj => by omega⟩
  · subst hv
    refine ⟨some ⟨g, 0, none⟩, cap, g, 0, rfl, fun _ => ⟨rfl, (h.lt g rfl).2⟩, fun j hj => ?_⟩
    rw [Nat.zero_add, h.cellAt j (by omega)]
    simp [List.getD, List.getElem?_eq_getElem hj]

theorem str_ne {x y : ByteArray} (h : x ≠ y) : (x.toList == y.toList) = false := by
  rw [beq_eq_false_iff_ne]
  intro e
  rw [ByteArray.toList_eq, ByteArray.toList_eq] at e
  exact h (ByteArray.ext (Array.toList_inj.mp e))

end Go.Proofs.YtheidjnapoipaaaGreatDoor
