/- A queue's entries in memory. -/
import Derived.Test.YtoampocobmeebaaGreatDoorProg
import Derived.Test.YtoampocobmeebaaGreatDoorMem
import Derived.Lib.Hide
import Derived.Deep.MidRow
import Derived.Laws.AppendOwn
namespace Go.Proofs.YtoampocobmeebaaGreatDoor.Tm
open Go.RowKit
set_option linter.unusedVariables false

/-- An entry: when, and whose. -/
structure EN where
  tm : Nat
  uid : List UInt8
  htm : tm < 18446744073709551616
  huid : uid.length = 16
theorem EN.ext' {a b : EN} (h1 : a.tm = b.tm) (h2 : a.uid = b.uid) : a = b := by cases a; cases b; simp_all
def EN.cells (r : EN) : List Value := .int .u64 r.tm :: r.uid.map bv
theorem cells_len (r : EN) : r.cells.length = 17 := by simp [EN.cells, r.huid]
def cellsL : List EN → List Value
  | [] => []
  | r :: l => r.cells ++ cellsL l
theorem cellsL_len (l : List EN) : (cellsL l).length = l.length * 17 := by
  induction l with
  | nil => rfl
  | cons r l ih => rw [cellsL, List.length_append, cells_len, ih, List.length_cons]; omega
theorem cellsL_append (a b : List EN) : cellsL (a ++ b) = cellsL a ++ cellsL b := by
  induction a with
  | nil => rfl
  | cons r a ih => rw [List.cons_append, cellsL, ih, cellsL, List.append_assoc]
theorem cellsL_get : ∀ (l : List EN) (i : Nat) (h : i < l.length) (j : Nat), j < 17 → (cellsL l)[i * 17 + j]? = (l[i].cells)[j]?
  | r :: l, 0, _, j, hj => by
    rw [cellsL, List.getElem?_append_left (by rw [cells_len]; omega)]
    simp
  | r :: l, i + 1, h, j, hj => by
    have ih := cellsL_get l i (by simpa using h) j hj
    rw [cellsL, List.getElem?_append_right (by rw [cells_len]; omega), cells_len, show (i + 1) * 17 + j - 17 = i * 17 + j by omega, ih]
    simp
/-- A slice of ranges, in a block of its own. -/
def TBL (w : World) (s : Value) (l : List EN) : Prop := w.ownsRow 0 58 17 s l.length (cellsL l)
section
variable {w w' : World} {s : Value} {l : List EN}
theorem TBL.nil (w : World) : TBL w (.slice none 0 0) [] := World.ownsRow_nil w 0 _ 17
theorem TBL.form (h : TBL w s l) : (l = [] ∧ s = .slice none 0 0) ∨ ∃ g cap cur, s = .slice (some ⟨g, 0, none⟩) l.length cap ∧ w.heap[g]? = some (.cells cur 58 (0, 0)) ∧ l.length ≤ cap ∧ cap ≤ maxLen ∧ cur.size = cap * 17 ∧ cur.toList.take (l.length * 17) = cellsL l := by
  rcases h.2 with ⟨h1, h2⟩ | ⟨g, cap, cur, h1, _, h2, h3, h4, h5, h6⟩
  · exact Or.inl ⟨List.eq_nil_of_length_eq_zero h2, h1⟩
  · exact Or.inr ⟨g, cap, cur, h1, h2, h3, h4, h5, h6⟩
theorem TBL.slice (h : TBL w s l) : ∃ a cap, s = .slice a l.length cap := by
  rcases h.form with ⟨rfl, rfl⟩ | ⟨g, cap, _, rfl, _⟩
  · exact ⟨none, 0, rfl⟩
  · exact ⟨_, cap, rfl⟩
theorem TBL.below (h : TBL w s l) (hb : Below w.heap.size w w') : TBL w' s l := by
  refine ⟨h.1, ?_⟩
  rcases h.2 with h0 | ⟨g, cap, cur, h1, h2, h3, h4⟩
  · exact Or.inl h0
  · exact Or.inr ⟨g, cap, cur, h1, h2, (hb.block g (Array.getElem?_eq_some_iff.1 h3).1).trans h3, h4⟩
theorem TBL.cell (h : TBL w s l) (i : Nat) (hi : i < l.length) : ∃ g cap, s = .slice (some ⟨g, 0, none⟩) l.length cap ∧ g < w.heap.size ∧ w.rangeAt g (i * 17) l[i].cells := by
  rcases h.form with ⟨rfl, rfl⟩ | ⟨g, cap, cur, rfl, h2, h3, _, h5, h6⟩
  · cases hi
  · refine ⟨g, cap, rfl, (Array.getElem?_eq_some_iff.1 h2).1, fun j v hj => ?_⟩
    have hj6 : j < 17 := by
      have := (List.getElem?_eq_some_iff.1 hj).1
      rwa [cells_len] at this
    rw [← cellsL_get l i hi j hj6, ← h6, List.getElem?_take] at hj
    split at hj
    · rw [cell_of_row w g (i * 17 + j) cur _ (0, 0) h2]
      simpa using hj
    · cases hj
end

end Go.Proofs.YtoampocobmeebaaGreatDoor.Tm
