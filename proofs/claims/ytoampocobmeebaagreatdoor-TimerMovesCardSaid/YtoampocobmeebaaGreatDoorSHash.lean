/- The sum of what was added. -/
import Derived.Test.YtoampocobmeebaaGreatDoorSBytes
import Derived.Test.YtoampocobmeebaaGreatDoorSWhole
namespace Go.Proofs.YtoampocobmeebaaGreatDoor
open Go.RowKit
set_option linter.unusedVariables false

/-- An array's row, sliced up to a place. -/
theorem slice_arr_to {P : Program} (t e : TypeId) (n : Nat) (ht : P.underlying t = some (.array n e)) (hz : ∀ W, (sizeOf e).run P W = .ok 1 W) (g off h : Nat) (k : IntKind) (hi : Int) (hhi : hi = h) (hl : h ≤ n) (h0 : 0 < n) (W : World) :
    (Instr.sliceAt t (.pointer (some ⟨g, off, none⟩)) none (some (.int k hi)) none).run P W = .ok (.slice (some ⟨g, off, none⟩) h n) W := by
  subst hhi
  have hn : P.arrayLen t = n := by simp [Program.arrayLen, ht]
  have he : P.elem t = e := by simp [Program.elem, ht]
  rw [run_sliceAt_array_h (P := P) W t ⟨g, off, none⟩ (by rw [hn, he]; exact ht) k (h : Int) (by omega) (by rw [hn]; omega), he, hz, hn]
  have hadd : (⟨g, off, none⟩ : Addr).add (0 * 1) = ⟨g, off, none⟩ := by unfold Addr.add; split <;> simp_all
  simp only [Result.andThen_ok, slicedAt, Int.toNat_natCast, if_neg (by omega : ¬ n = 0), hadd, Nat.sub_zero]
theorem slice_arr_all {P : Program} (t e : TypeId) (n : Nat) (ht : P.underlying t = some (.array n e)) (hz : ∀ W, (sizeOf e).run P W = .ok 1 W) (g off : Nat) (h0 : 0 < n) (W : World) :
    (Instr.sliceAt t (.pointer (some ⟨g, off, none⟩)) none none none).run P W = .ok (.slice (some ⟨g, off, none⟩) n n) W := by
  have hn : P.arrayLen t = n := by simp [Program.arrayLen, ht]
  have he : P.elem t = e := by simp [Program.elem, ht]
  rw [run_sliceAt_array_all (P := P) W t ⟨g, off, none⟩ (by rw [hn, he]; exact ht), he, hz, hn]
  have hadd : (⟨g, off, none⟩ : Addr).add (0 * 1) = ⟨g, off, none⟩ := by unfold Addr.add; split <;> simp_all
  simp only [Result.andThen_ok, slicedAt, if_neg (by omega : ¬ n = 0), hadd, Nat.sub_zero]

/-- A state lies where the program's variable does. -/
def Starts (s : S8) (w : World) : Prop := ∃ t fr, w.heap[1]? = some (.cells (s8l s).toArray t fr)
theorem Starts.lt {s : S8} {w : World} (h : Starts s w) : 1 < w.heap.size := by
  obtain ⟨t, fr, h⟩ := h
  exact (Array.getElem?_eq_some_iff.1 h).1
theorem Starts.below {s : S8} {w w' : World} (h : Starts s w) (hb : Below w.heap.size w w') : Starts s w' := by
  have hl := h.lt
  obtain ⟨t, fr, h⟩ := h
  exact ⟨t, fr, (hb.block _ hl).trans h⟩
theorem Starts.mid {s : S8} {B : Nat} {w w' : World} (h : Starts s w) (hb : Below B w w') (hl : 1 < B) : Starts s w' := by
  obtain ⟨t, fr, h⟩ := h
  exact ⟨t, fr, (hb.block _ hl).trans h⟩
theorem Starts.cell {s : S8} {w : World} (h : Starts s w) (i : Nat) : w.cell? ⟨1, i, none⟩ = (s8l s)[i]? := by
  obtain ⟨t, fr, h⟩ := h
  have := cell_of_row w 1 i (s8l s).toArray t fr h
  simpa using this
theorem Starts.cells {s : S8} {W : World} (h : Starts s W) :
    W.cell? ⟨1, 0, none⟩ = some (.int .u32 s.a.toNat) ∧ W.cell? ⟨1, 1, none⟩ = some (.int .u32 s.b.toNat) ∧ W.cell? ⟨1, 2, none⟩ = some (.int .u32 s.c.toNat) ∧ W.cell? ⟨1, 3, none⟩ = some (.int .u32 s.d.toNat) ∧
    W.cell? ⟨1, 4, none⟩ = some (.int .u32 s.e.toNat) ∧ W.cell? ⟨1, 5, none⟩ = some (.int .u32 s.f.toNat) ∧ W.cell? ⟨1, 6, none⟩ = some (.int .u32 s.g.toNat) ∧ W.cell? ⟨1, 7, none⟩ = some (.int .u32 s.h.toNat) :=
  ⟨h.cell 0, h.cell 1, h.cell 2, h.cell 3, h.cell 4, h.cell 5, h.cell 6, h.cell 7⟩
/-- The state's start lies where the program's variable does. -/
def G (w : World) : Prop := Starts start8 w
theorem G.below {w w' : World} (h : G w) (hb : Below w.heap.size w w') : G w' := Starts.below h hb

/-- The cells of what was added: the state, what is held, how many bytes. -/
def hashC (st : S8) (hl : List UInt8) (n : Nat) : List Value := s8l st ++ (hl.map bv ++ [.int .u64 n])
def hashV (st : S8) (hl : List UInt8) (n : Nat) : Value := .agg (hashC st hl n).toArray
theorem hashC_length (st : S8) {hl : List UInt8} (n : Nat) (h : hl.length = 64) : (hashC st hl n).length = 73 := by simp [hashC, s8l, h]
theorem hashC_state (st : S8) (hl : List UInt8) (n : Nat) {i : Nat} (h : i < 8) : (hashC st hl n)[i]? = (s8l st)[i]? := by
  unfold hashC
  rw [List.getElem?_append_left (by simpa [s8l] using h)]
theorem hashC_held (st : S8) {hl : List UInt8} (n : Nat) (hh : hl.length = 64) {i : Nat} (h : i < 64) : (hashC st hl n)[8 + i]? = (hl.map bv)[i]? := by
  unfold hashC
  rw [List.getElem?_append_right (by simp [s8l]), List.getElem?_append_left (by simp [s8l, hh]; omega)]
  congr 1
  simp [s8l]
theorem hashC_size (st : S8) {hl : List UInt8} (n : Nat) (hh : hl.length = 64) : (hashC st hl n)[72]? = some (.int .u64 n) := by
  unfold hashC
  rw [List.getElem?_append_right (by simp [s8l]), List.getElem?_append_right (by simp [s8l, hh])]
  simp [s8l, hh]

theorem hashC_one (st : S8) (hl : List UInt8) (n : Nat) : (hashC st hl n).toArray.all (·.oneCell') = true := by
  rw [Array.all_eq_true_iff_forall_mem]
  intro v hv
  unfold hashC at hv
  simp only [List.mem_toArray, List.mem_append, List.mem_map, s8l, List.mem_cons, List.not_mem_nil, or_false] at hv
  rcases hv with (rfl | rfl | rfl | rfl | rfl | rfl | rfl | rfl) | ⟨c, _, rfl⟩ | rfl <;> rfl
/-- What a Hash begins with. -/
def begun (st : S8) (n : Nat) : S8 := if n < 64 then start8 else st

def zHash : S8 := ⟨0, 0, 0, 0, 0, 0, 0, 0⟩
end Go.Proofs.YtoampocobmeebaaGreatDoor
