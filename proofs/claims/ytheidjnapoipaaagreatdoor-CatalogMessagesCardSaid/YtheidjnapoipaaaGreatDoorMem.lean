/- Words for memory: a block that is known as a list of cells; bytes in a row as a text. -/
import Derived.WalkKit
import Derived.Laws.BytesArg
import Derived.Deep.Draws
import Derived.Laws.Rows
import Derived.Lib.ConvBytes
import Derived.Laws.CopyOwn
import Derived.Laws.OwnMore
namespace Go.Proofs.YtheidjnapoipaaaGreatDoor
open Go.RowKit

/-- Block g is just the cells l, of element type t, none of them frozen. -/
def Row (w : World) (g : Nat) (t : TypeId) (l : List Value) : Prop := w.heap[g]? = some (.cells l.toArray t (0, 0))

section
variable {w w' : World} {g : Nat} {t : TypeId} {l : List Value}
theorem Row.lt (h : Row w g t l) : g < w.heap.size := by
  unfold Row at h
  exact Decidable.byContradiction fun hn => by rw [Array.getElem?_eq_none (Nat.le_of_not_lt hn)] at h; cases h
theorem Row.cell (h : Row w g t l) (i : Nat) : w.cell? ⟨g, i, none⟩ = l[i]? := by
  have := cell_of_row w g i l.toArray t (0, 0) h
  simpa using this
theorem Row.frozen (h : Row w g t l) (i : Nat) : w.frozen? ⟨g, i, none⟩ = false := by
  unfold Row at h
  simp [World.frozen?, h]
theorem Row.new (w : World) (t : TypeId) (l : List Value) : Row (w.alloc (.cells l.toArray t)) w.heap.size t l := by
  simp [Row, World.alloc, -World.alloc_eq]
theorem Row.new_rep (w : World) (t : TypeId) (n : Nat) (z : Value) : Row (w.alloc (.cells (Array.replicate n z) t)) w.heap.size t (List.replicate n z) := by
  have h := Row.new w t (List.replicate n z)
  rwa [List.toArray_replicate] at h
theorem Row.drew (h : Row w g t l) : Row w.drew g t l := h
theorem Row.alloc (h : Row w g t l) (o : Obj) : Row (w.alloc o) g t l := (Below.heap_alloc w o g h.lt).trans h
theorem Row.below {B : Nat} (h : Row w g t l) (hb : Below B w w') (hg : g < B) : Row w' g t l := (hb.block g hg).trans h
theorem Row.set (h : Row w g t l) (i : Nat) (u : Value) : Row (w.setCell ⟨g, i, none⟩ u) g t (l.set i u) := by
  unfold Row at h ⊢
  simp [World.setCell, Array.getElem?_modify, h]
theorem Row.far (h : Row w g t l) {p : Addr} (hp : g ≠ p.block) (u : Value) : Row (w.setCell p u) g t l := (Below.heap_setCell w p u g hp).trans h
end

section
variable {w : World} {g : Nat} {t : TypeId} {l : List Value}
theorem Row.put (h : Row w g t l) (m : List Value) : Row (w.setRow g m.toArray) g t m := setRow_heap w g l.toArray m.toArray t (0, 0) h
theorem Row.put_far (h : Row w g t l) {g' : Nat} (hne : g ≠ g') (cs : Array Value) : Row (w.setRow g' cs) g t l := (setRow_other w g' g cs hne).trans h
end

/-- A byte as a cell. -/
def bv (c : UInt8) : Value := .int .u8 c.toNat

/-- The text of a row of bytes. -/
theorem conv_bytes {P : Program} (w : World) (src dst e : TypeId) (hs : P.underlying src = some (.slice e)) (he : P.underlying e = some (.int .u8)) (hd : P.underlying dst = some .string)
    (g off n cap : Nat) (l : List UInt8) (hl : l.length = n) (hc : ∀ i, i < n → w.cell? ⟨g, off + i, none⟩ = (l.map bv)[i]?) :
    (convert src dst (.slice (some ⟨g, off, none⟩) n cap)).run P w = .ok (.string ⟨l.toArray⟩) w := by
  have h := run_convert_bytes_arg (P := P) w src e hs he g off n cap (l.map fun c => (c.toNat : Int)) (by simpa using hl) (by
    intro i hi
    rw [hc i hi]
    have hi' : i < l.length := by omega
    simp [bv, List.getD, hi']) dst hd
  rw [h]
  congr 2
  unfold strOfNums
  congr 2
  simp only [List.map_map]
  conv => rhs; rw [← List.map_id l]
  apply List.map_congr_left
  intro c _
  simp

/-- What owns a row is a slice of that length. -/
theorem own_form {w : World} {base n : Nat} {e : TypeId} {v : Value} {xs : List Value} (h : w.ownsRow base e 1 v n xs) : ∃ a cap, v = .slice a n cap := by
  rcases h.2 with ⟨rfl, rfl⟩ | ⟨g, cap, cur, rfl, _⟩
  · exact ⟨none, 0, rfl⟩
  · exact ⟨_, cap, rfl⟩

/-- A row of one's own, of bytes, as a text. -/
theorem own_text {P : Program} {w : World} {base n cap : Nat} {e : TypeId} {a : Option Addr} {l : List UInt8} (h : w.ownsRow base e 1 (.slice a n cap) n (l.map bv)) (src dst : TypeId)
    (hs : P.underlying src = some (.slice e)) (he : P.underlying e = some (.int .u8)) (hd : P.underlying dst = some .string) :
    (convert src dst (.slice a n cap)).run P w = .ok (.string ⟨l.toArray⟩) w := by
  have hl : l.length = n := by have := h.1; simpa using this
  rcases h.2 with ⟨e1, rfl⟩ | ⟨g, cap', cur, e1, _⟩
  · injection e1 with e2 e3 e4
    subst e2
    have hn : l = [] := List.eq_nil_of_length_eq_zero hl
    subst hn
    rw [run_convert_bytes_nil w src e hs he 0 cap dst hd]
    rfl
  · injection e1 with e2 e3 e4
    subst e2
    subst e4
    exact conv_bytes w src dst e hs he hd g 0 n cap l hl (fun i hi => by
      have := h.cellAt (g := g) i (by omega)
      rw [Nat.zero_add]
      exact this)

/-- The length of a slice, for a measure. -/
def lenOf : Value → Nat
  | .slice _ n _ => n
  | _ => 0
theorem lenOf_slice (a : Option Addr) (n c : Nat) : lenOf (.slice a n c) = n := rfl

/-- A text as bytes in a new block. -/
theorem str_bytes {P : Program} (W : World) (src dst e : TypeId) (s : ByteArray) (hs : P.underlying src = some .string) (hd : P.underlying dst = some (.slice e)) (he : P.underlying e = some (.int .u8)) :
    ∃ (cap : Nat) (w7 : World), (convert src dst (.string s)).run P W = .ok (.slice (some ⟨W.heap.size, 0, none⟩) s.size cap) w7 ∧
      (∀ j, j < s.size → w7.cell? ⟨W.heap.size, j, none⟩ = some (bv (s.data.toList.getD j 0))) ∧ (∀ j, j < s.size → w7.frozen? ⟨W.heap.size, j, none⟩ = false) ∧
      Below W.heap.size W w7 ∧ w7.heap.size = W.heap.size + 1 := by
  refine ⟨_, _, Lib.run_convert_string_bytes W src dst e s hs hd he, fun j hj => Lib.bytesWorld_cell W e s j hj, fun j hj => ?_, ?_, Lib.bytesWorld_size W e s⟩
  · have hc : s.size ≤ (Lib.bytesCells W e s).size := by
      unfold Lib.bytesCells
      rw [Array.size_append]
      show s.size ≤ (Array.map _ s.data).size + _
      rw [Array.size_map]
      show s.data.size ≤ _
      omega
    have hh := Lib.bytesWorld_at_new W e s
    unfold World.frozen?
    rw [hh]
    simp
    omega
  · exact ⟨by simp [Lib.bytesWorld, World.freeze, World.alloc, World.drew, -World.alloc_eq, -World.drew_eq], by simp [Lib.bytesWorld, World.freeze, World.alloc, World.drew, -World.alloc_eq, -World.drew_eq], by simp [Lib.bytesWorld, World.freeze, World.alloc, World.drew, -World.alloc_eq, -World.drew_eq], by rw [Lib.bytesWorld_size]; omega, fun j hj => Lib.bytesWorld_at_old W e s j hj⟩

/-- The bytes of a row in which one was laid anew, as a text. -/
theorem conv_set {P : Program} (w : World) (src dst e : TypeId) (hs : P.underlying src = some (.slice e)) (he : P.underlying e = some (.int .u8)) (hd : P.underlying dst = some .string)
    (g cap i : Nat) (s : ByteArray) (d : UInt8) (hi : i < s.size) (hc : ∀ j, j < s.size → w.cell? ⟨g, j, none⟩ = some (bv (s.data.toList.getD j 0))) :
    (convert src dst (.slice (some ⟨g, 0, none⟩) s.size cap)).run P (w.setCell ⟨g, i, none⟩ (.int .u8 d.toNat)) = .ok (.string ⟨(s.data.toList.set i d).toArray⟩) (w.setCell ⟨g, i, none⟩ (.int .u8 d.toNat)) := by
  refine conv_bytes _ src dst e hs he hd g 0 s.size cap (s.data.toList.set i d) (by simp) (fun j hj => ?_)
  rw [Nat.zero_add, List.getElem?_map, List.getElem?_set]
  by_cases h : i = j
  · subst h
    rw [if_pos rfl, if_pos (by simpa using hi), World.cell?_setCell_same (h := hc _ hj)]
    rfl
  · rw [if_neg h, World.cell?_setCell_other (h := by intro e; injection e with _ e2 _; exact h e2), hc j hj]
    have hj' : j < s.data.toList.length := by simpa using hj
    rw [List.getD_eq_getElem?_getD, List.getElem?_eq_getElem hj']
    rfl

/-- 'make' of n cells, for every world. -/
theorem make_row {P : Program} (t e : TypeId) (i : TypeInfo) (z : Value) (ht : P.underlying t = some (.slice e)) (hi : P.info? e = some i) (hz : i.zero = some z) (hz1 : z.cells = #[z]) (hs : i.size = 1)
    (n : Nat) (hn : i.bytes * n ≤ 281474976710656) (hm : n ≤ 9223372036854775807) (w : World) :
    (Instr.makeSlice t (.int .i64 (n : Int)) (.int .i64 (n : Int))).run P w = .ok (.slice (some ⟨w.heap.size, 0, none⟩) n n) (w.alloc (.cells (List.replicate n z).toArray e)) := by
  have hb : (i.bytes : Int) * (n : Int) ≤ 281474976710656 := by
    have h : ((i.bytes * n : Nat) : Int) ≤ 281474976710656 := by omega
    rwa [Int.natCast_mul] at h
  have h := run_make (P := P) w t e i z ht hi hz .i64 .i64 n n (by omega) (by omega) hb (by omega)
  rw [h]
  have e1 : madeCells z.cells ((n : Int).toNat * i.size) = (List.replicate n z).toArray := by
    apply Array.ext'
    rw [hz1, toList_madeCells_one, hs]
    simp
  rw [e1]
  simp
end Go.Proofs.YtheidjnapoipaaaGreatDoor
