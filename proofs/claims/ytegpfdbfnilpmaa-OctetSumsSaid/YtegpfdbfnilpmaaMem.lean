/- Words for memory: a block that is known as a list of cells; bytes in a row as a text. -/
import Derived.WalkKit
import Derived.Laws.BytesArg
import Derived.Deep.Draws
import Derived.Laws.Rows
import Derived.Lib.ConvBytes
import Derived.Laws.CopyOwn
namespace Go.Proofs.Ytegpfdbfnilpmaa
open Go.RowKit

/-- Block g is just the cells l, of element type t, none of them frozen. -/
def Row (w : World) (g : Nat) (t : TypeId) (l : List Value) : Prop := w.heap[g]? = some (.cells l.toArray t (0, 0))

section
variable {w w' : World} {g : Nat} {t : TypeId} {l : List Value}
theorem Row.lt (h : Row w g t l) : g < w.heap.size := by
  unfold Row at h
  exact Decidable.byContradiction fun hn => by rw [Array.getElem?_eq_none (Nat.le_of_not_lt hn)] at h; cases h
theorem Row.cell (h : Row w g t l) (i : Nat) : w.cell? ⟨g, i, none⟩ = l[i]? := by
  have := cell_of_row w g i l.toArray t (0, 0) h
  simpa using this
theorem Row.frozen (h : Row w g t l) (i : Nat) : w.frozen? ⟨g, i, none⟩ = false := by
  unfold Row at h
  simp [World.frozen?, h]
theorem Row.new (w : World) (t : TypeId) (l : List Value) : Row (w.alloc (.cells l.toArray t)) w.heap.size t l := by
  simp [Row, World.alloc, -World.alloc_eq]
theorem Row.new_rep (w : World) (t : TypeId) (n : Nat) (z : Value) : Row (w.alloc (.cells (Array.replicate n z) t)) w.heap.size t (List.replicate n z) := by
  have h := Row.new w t (List.replicate n z)
  rwa [List.toArray_replicate] at h
theorem Row.drew (h : Row w g t l) : Row w.drew g t l := h
theorem Row.alloc (h : Row w g t l) (o : Obj) : Row (w.alloc o) g t l := (Below.heap_alloc w o g h.lt).trans h
theorem Row.below {B : Nat} (h : Row w g t l) (hb : Below B w w') (hg : g < B) : Row w' g t l := (hb.block g hg).trans h
theorem Row.set (h : Row w g t l) (i : Nat) (u : Value) : Row (w.setCell ⟨g, i, none⟩ u) g t (l.set i u) := by
  unfold Row at h ⊢
  simp [World.setCell, Array.getElem?_modify, h]
theorem Row.far (h : Row w g t l) {p : Addr} (hp : g ≠ p.block) (u : Value) : Row (w.setCell p u) g t l := (Below.heap_setCell w p u g hp).trans h
end

section
variable {w : World} {g : Nat} {t : TypeId} {l : List Value}
theorem Row.put (h : Row w g t l) (m : List Value) : Row (w.setRow g m.toArray) g t m := setRow_heap w g l.toArray m.toArray t (0, 0) h
theorem Row.put_far (h : Row w g t l) {g' : Nat} (hne : g ≠ g') (cs : Array Value) : Row (w.setRow g' cs) g t l := (setRow_other w g' g cs hne).trans h
end

/-- A byte as a cell. -/
def bv (c : UInt8) : Value := .int .u8 c.toNat

/-- The text of a row of bytes. -/
theorem conv_bytes {P : Program} (w : World) (src dst e : TypeId) (hs : P.underlying src = some (.slice e)) (he : P.underlying e = some (.int .u8)) (hd : P.underlying dst = some .string)
    (g off n cap : Nat) (l : List UInt8) (hl : l.length = n) (hc : ∀ i, i < n → w.cell? ⟨g, off + i, none⟩ = (l.map bv)[i]?) :
    (convert src dst (.slice (some ⟨g, off, none⟩) n cap)).run P w = .ok (.string ⟨l.toArray⟩) w := by
  have h := run_convert_bytes_arg (P := P) w src e hs he g off n cap (l.map fun c => (c.toNat : Int)) (by simpa using hl) (by
    intro i hi
    rw [hc i hi]
    have hi' : i < l.length := by omega
    simp [bv, List.getD, hi']) dst hd
  rw [h]
  congr 2
  unfold strOfNums
  congr 2
  simp only [List.map_map]
  conv => rhs; rw [← List.map_id l]
  apply List.map_congr_left
  intro c _
  simp

/-- A text as bytes in a new block. -/
theorem str_bytes {P : Program} (W : World) (src dst e : TypeId) (s : ByteArray) (hs : P.underlying src = some .string) (hd : P.underlying dst = some (.slice e)) (he : P.underlying e = some (.int .u8)) :
    ∃ (cap : Nat) (w7 : World), (convert src dst (.string s)).run P W = .ok (.slice (some ⟨W.heap.size, 0, none⟩) s.size cap) w7 ∧
      (∀ j, j < s.size → w7.cell? ⟨W.heap.size, j, none⟩ = some (bv (s.data.toList.getD j 0))) ∧ (∀ j, j < s.size → w7.frozen? ⟨W.heap.size, j, none⟩ = false) ∧
      Below W.heap.size W w7 ∧ w7.heap.size = W.heap.size + 1 := by
  refine ⟨_, _, Lib.run_convert_string_bytes W src dst e s hs hd he, fun j hj => Lib.bytesWorld_cell W e s j hj, fun j hj => ?_, ?_, Lib.bytesWorld_size W e s⟩
  · have hc : s.size ≤ (Lib.bytesCells W e s).size := by
      unfold Lib.bytesCells
      rw [Array.size_append]
      show s.size ≤ (Array.map _ s.data).size + _
      rw [Array.size_map]
      show s.data.size ≤ _
      omega
    have hh := Lib.bytesWorld_at_new W e s
    unfold World.frozen?
    rw [hh]
    simp
    omega
  · exact ⟨by simp [Lib.bytesWorld, World.freeze, World.alloc, World.drew, -World.alloc_eq, -World.drew_eq], by simp [Lib.bytesWorld, World.freeze, World.alloc, World.drew, -World.alloc_eq, -World.drew_eq], by simp [Lib.bytesWorld, World.freeze, World.alloc, World.drew, -World.alloc_eq, -World.drew_eq], by rw [Lib.bytesWorld_size]; omega, fun j hj => Lib.bytesWorld_at_old W e s j hj⟩

/-- 'make' of n cells, for every world. -/
theorem make_row {P : Program} (t e : TypeId) (i : TypeInfo) (z : Value) (ht : P.underlying t = some (.slice e)) (hi : P.info? e = some i) (hz : i.zero = some z) (hz1 : z.cells = #[z]) (hs : i.size = 1)
    (n : Nat) (hn : i.bytes * n ≤ 281474976710656) (hm : n ≤ 9223372036854775807) (w : World) :
    (Instr.makeSlice t (.int .i64 (n : Int)) (.int .i64 (n : Int))).run P w = .ok (.slice (some ⟨w.heap.size, 0, none⟩) n n) (w.alloc (.cells (List.replicate n z).toArray e)) := by
  have hb : (i.bytes : Int) * (n : Int) ≤ 281474976710656 := by
    have h : ((i.bytes * n : Nat) : Int) ≤ 281474976710656 := by omega
    rwa [Int.natCast_mul] at h
  have h := run_make (P := P) w t e i z ht hi hz .i64 .i64 n n (by omega) (by omega) hb (by omega)
  rw [h]
  have e1 : madeCells z.cells ((n : Int).toNat * i.size) = (List.replicate n z).toArray := by
    apply Array.ext'
    rw [hz1, toList_madeCells_one, hs]
    simp
  rw [e1]
  simp
end Go.Proofs.Ytegpfdbfnilpmaa
