/- The sum of what was added. -/
import Derived.Test.YtdhplohppcndhaaDoorSBytes
import Derived.Test.YtdhplohppcndhaaDoorSWhole
namespace Go.Proofs.YtdhplohppcndhaaDoor
open Go.RowKit
set_option linter.unusedVariables false

/-- An array's row, sliced up to a place. -/
theorem slice_arr_to {P : Program} (t e : TypeId) (n : Nat) (ht : P.underlying t = some (.array n e)) (hz : ∀ W, (sizeOf e).run P W = .ok 1 W) (g off h : Nat) (k : IntKind) (hi : Int) (hhi : hi = h) (hl : h ≤ n) (h0 : 0 < n) (W : World) :
    (Instr.sliceAt t (.pointer (some ⟨g, off, none⟩)) none (some (.int k hi)) none).run P W = .ok (.slice (some ⟨g, off, none⟩) h n) W := by
  subst hhi
  have hn : P.arrayLen t = n := by simp [Program.arrayLen, ht]
  have he : P.elem t = e := by simp [Program.elem, ht]
  rw [run_sliceAt_array_h (P := P) W t ⟨g, off, none⟩ (by rw [hn, he]; exact ht) k (h : Int) (by omega) (by rw [hn]; omega), he, hz, hn]
  have hadd : (⟨g, off, none⟩ : Addr).add (0 * 1) = ⟨g, off, none⟩ := by unfold Addr.add; split <;> simp_all
  simp only [Result.andThen_ok, slicedAt, Int.toNat_natCast, if_neg (by omega : ¬ n = 0), hadd, Nat.sub_zero]
theorem slice_arr_all {P : Program} (t e : TypeId) (n : Nat) (ht : P.underlying t = some (.array n e)) (hz : ∀ W, (sizeOf e).run P W = .ok 1 W) (g off : Nat) (h0 : 0 < n) (W : World) :
    (Instr.sliceAt t (.pointer (some ⟨g, off, none⟩)) none none none).run P W = .ok (.slice (some ⟨g, off, none⟩) n n) W := by
  have hn : P.arrayLen t = n := by simp [Program.arrayLen, ht]
  have he : P.elem t = e := by simp [Program.elem, ht]
  rw [run_sliceAt_array_all (P := P) W t ⟨g, off, none⟩ (by rw [hn, he]; exact ht), he, hz, hn]
  have hadd : (⟨g, off, none⟩ : Addr).add (0 * 1) = ⟨g, off, none⟩ := by unfold Addr.add; split <;> simp_all
  simp only [Result.andThen_ok, slicedAt, if_neg (by omega : ¬ n = 0), hadd, Nat.sub_zero]

/-- A state lies where the program's variable does. -/
def Starts (s : S8) (w : World) : Prop := ∃ t fr, w.heap[0]? = some (.cells (s8l s).toArray t fr)
theorem Starts.lt {s : S8} {w : World} (h : Starts s w) : 0 < w.heap.size := by
  obtain ⟨t, fr, h⟩ := h
  exact (Array.getElem?_eq_some_iff.1 h).1
theorem Starts.below {s : S8} {w w' : World} (h : Starts s w) (hb : Below w.heap.size w w') : Starts s w' := by
  have hl := h.lt
  obtain ⟨t, fr, h⟩ := h
  exact ⟨t, fr, (hb.block _ hl).trans h⟩
theorem Starts.mid {s : S8} {B : Nat} {w w' : World} (h : Starts s w) (hb : Below B w w') (hl : 0 < B) : Starts s w' := by
  obtain ⟨t, fr, h⟩ := h
  exact ⟨t, fr, (hb.block _ hl).trans h⟩
theorem Starts.cell {s : S8} {w : World} (h : Starts s w) (i : Nat) : w.cell? ⟨0, i, none⟩ = (s8l s)[i]? := by
  obtain ⟨t, fr, h⟩ := h
  have := cell_of_row w 0 i (s8l s).toArray t fr h
  simpa using this
theorem Starts.cells {s : S8} {W : World} (h : Starts s W) :
    W.cell? ⟨0, 0, none⟩ = some (.int .u32 s.a.toNat) ∧ W.cell? ⟨0, 1, none⟩ = some (.int .u32 s.b.toNat) ∧ W.cell? ⟨0, 2, none⟩ = some (.int .u32 s.c.toNat) ∧ W.cell? ⟨0, 3, none⟩ = some (.int .u32 s.d.toNat) ∧
    W.cell? ⟨0, 4, none⟩ = some (.int .u32 s.e.toNat) ∧ W.cell? ⟨0, 5, none⟩ = some (.int .u32 s.f.toNat) ∧ W.cell? ⟨0, 6, none⟩ = some (.int .u32 s.g.toNat) ∧ W.cell? ⟨0, 7, none⟩ = some (.int .u32 s.h.toNat) :=
  ⟨h.cell 0, h.cell 1, h.cell 2, h.cell 3, h.cell 4, h.cell 5, h.cell 6, h.cell 7⟩
/-- The state's start lies where the program's variable does. -/
def G (w : World) : Prop := Starts start8 w
theorem G.below {w w' : World} (h : G w) (hb : Below w.heap.size w w') : G w' := Starts.below h hb

/-- The cells of what was added: the state, what is held, how many bytes. -/
def hashC (st : S8) (hl : List UInt8) (n : Nat) : List Value := s8l st ++ (hl.map bv ++ [.int .u64 n])
def hashV (st : S8) (hl : List UInt8) (n : Nat) : Value := .agg (hashC st hl n).toArray
theorem hashC_length (st : S8) {hl : List UInt8} (n : Nat) (h : hl.length = 64) : (hashC st hl n).length = 73 := by simp [hashC, s8l, h]
theorem hashC_state (st : S8) (hl : List UInt8) (n : Nat) {i : Nat} (h : i < 8) : (hashC st hl n)[i]? = (s8l st)[i]? := by
  unfold hashC
  rw [List.getElem?_append_left (by simpa [s8l] using h)]
theorem hashC_held (st : S8) {hl : List UInt8} (n : Nat) (hh : hl.length = 64) {i : Nat} (h : i < 64) : (hashC st hl n)[8 + i]? = (hl.map bv)[i]? := by
  unfold hashC
  rw [List.getElem?_append_right (by simp [s8l]), List.getElem?_append_left (by simp [s8l, hh]; omega)]
  congr 1
  simp [s8l]
theorem hashC_size (st : S8) {hl : List UInt8} (n : Nat) (hh : hl.length = 64) : (hashC st hl n)[72]? = some (.int .u64 n) := by
  unfold hashC
  rw [List.getElem?_append_right (by simp [s8l]), List.getElem?_append_right (by simp [s8l, hh])]
  simp [s8l, hh]

theorem hashC_one (st : S8) (hl : List UInt8) (n : Nat) : (hashC st hl n).toArray.all (·.oneCell') = true := by
  rw [Array.all_eq_true_iff_forall_mem]
  intro v hv
  unfold hashC at hv
  simp only [List.mem_toArray, List.mem_append, List.mem_map, s8l, List.mem_cons, List.not_mem_nil, or_false] at hv
  rcases hv with (rfl | rfl | rfl | rfl | rfl | rfl | rfl | rfl) | ⟨c, _, rfl⟩ | rfl <;> rfl
theorem hash_size : (Tryd.prog.info? 33).map (·.size) = some 73 := by kernel_rfl

set_option maxRecDepth 4000 in
set_option maxHeartbeats 1000000 in
theorem rest_any (st : S8) (hl : List UInt8) (n : Nat) (hh : hl.length = 64) (hn : n < 18446744073709551616) (w : World) :
    Calls Tryd.prog 40 #[hashV st hl n] w fun e w' => e = .returned (.string ⟨(hl.take (n % 64)).toArray⟩) ∧ Below w.heap.size w w' := by
  obtain ⟨C, hC⟩ : ∃ C, hashC st hl n = C := ⟨_, rfl⟩
  have hr := Row.new w 33 C
  have hb := (Below.refl w.heap.size w).alloc (Nat.le_refl _) (.cells C.toArray 33)
  have hc72 := hr.cell 72
  rw [← hC, hashC_size st n hh] at hc72
  have hcv := conv_bytes (P := Tryd.prog) (w.alloc (.cells C.toArray 33)) 62 9 5 Tryd.underlying62 Tryd.underlying5 Tryd.underlying9 w.heap.size 8 (n % 64) 64 (hl.take (n % 64)) (by rw [List.length_take, hh]; omega) (fun i hi => by
    rw [hr.cell, ← hC, hashC_held st n hh (by omega), List.map_take, List.getElem?_take, if_pos hi])
  rw [hC] at hc72
  have e0 : hashV st hl n = .agg C.toArray := by rw [← hC]; rfl
  rw [e0]
  have hsl := fun W => slice_arr_to (P := Tryd.prog) 30 5 64 Tryd.underlying30 Tryd.sizeOf5 w.heap.size 8 (n % 64) .u64 ((n : Int) % 64) (by omega) (by omega) (by omega) W
  clear e0 hC hr
  go_enter Tryd.func40, Tryd.ntmps40
  go_wp2
  go_ret
  exact ⟨rfl, hb⟩

/-- What a Hash begins with. -/
def begun (st : S8) (n : Nat) : S8 := if n < 64 then start8 else st

set_option maxRecDepth 4000 in
set_option maxHeartbeats 1000000 in
theorem begun_any (st : S8) (hl : List UInt8) (n : Nat) (hh : hl.length = 64) (hn : n < 18446744073709551616) (w : World) (hG : G w) :
    Calls Tryd.prog 42 #[hashV st hl n] w fun e w' => e = .returned (s8v (begun st n)) ∧ Below w.heap.size w w' := by
  have hz := (zero_of_info s8_info).1
  obtain ⟨C, hC⟩ : ∃ C, hashC st hl n = C := ⟨_, rfl⟩
  obtain ⟨w1, hw1⟩ : ∃ w1, (w.alloc (.cells C.toArray 33)).alloc (.cells #[.int .u32 0, .int .u32 0, .int .u32 0, .int .u32 0, .int .u32 0, .int .u32 0, .int .u32 0, .int .u32 0] 29) = w1 := ⟨_, rfl⟩
  have hr : Row w1 w.heap.size 33 C := by rw [← hw1]; exact (Row.new w _ _).alloc _
  have hr2 : Row w1 (w.heap.size + 1) 29 [.int .u32 0, .int .u32 0, .int .u32 0, .int .u32 0, .int .u32 0, .int .u32 0, .int .u32 0, .int .u32 0] := by
    have h := Row.new (w.alloc (.cells C.toArray 33)) 29 [.int .u32 0, .int .u32 0, .int .u32 0, .int .u32 0, .int .u32 0, .int .u32 0, .int .u32 0, .int .u32 0]
    rw [World.size_alloc] at h
    rw [← hw1]
    exact h
  have hb : Below w.heap.size w w1 := by rw [← hw1]; exact ((Below.refl _ _).alloc (Nat.le_refl _) _).alloc (by simp) _
  have hg1 : Starts start8 w1 := Starts.below hG hb
  have hc72 := hr.cell 72
  rw [← hC, hashC_size st n hh] at hc72
  have hc := fun (i : Nat) (hi : i < 8) => (hr.cell i).trans (by rw [← hC, hashC_state st hl n hi])
  have c0 : w1.cell? ⟨w.heap.size, 0, none⟩ = some (.int .u32 st.a.toNat) := hc 0 (by omega)
  have c1 : w1.cell? ⟨w.heap.size, 1, none⟩ = some (.int .u32 st.b.toNat) := hc 1 (by omega)
  have c2 : w1.cell? ⟨w.heap.size, 2, none⟩ = some (.int .u32 st.c.toNat) := hc 2 (by omega)
  have c3 : w1.cell? ⟨w.heap.size, 3, none⟩ = some (.int .u32 st.d.toNat) := hc 3 (by omega)
  have c4 : w1.cell? ⟨w.heap.size, 4, none⟩ = some (.int .u32 st.e.toNat) := hc 4 (by omega)
  have c5 : w1.cell? ⟨w.heap.size, 5, none⟩ = some (.int .u32 st.f.toNat) := hc 5 (by omega)
  have c6 : w1.cell? ⟨w.heap.size, 6, none⟩ = some (.int .u32 st.g.toNat) := hc 6 (by omega)
  have c7 : w1.cell? ⟨w.heap.size, 7, none⟩ = some (.int .u32 st.h.toNat) := hc 7 (by omega)
  have e0 : hashV st hl n = .agg C.toArray := by rw [← hC]; rfl
  have d0 := hr2.cell 0
  have d1 := hr2.cell 1
  have d2 := hr2.cell 2
  have d3 := hr2.cell 3
  have d4 := hr2.cell 4
  have d5 := hr2.cell 5
  have d6 := hr2.cell 6
  have d7 := hr2.cell 7
  have hf0 := hr2.frozen 0
  have hf1 := hr2.frozen 1
  have hf2 := hr2.frozen 2
  have hf3 := hr2.frozen 3
  have hf4 := hr2.frozen 4
  have hf5 := hr2.frozen 5
  have hf6 := hr2.frozen 6
  have hf7 := hr2.frozen 7
  have HG := Lib.hid (And.intro hr2 hb)
  have HG1 := Lib.hid hg1
  rw [e0]
  have HW := Lib.hid hw1
  clear e0 hC hr hc hr2 hb hg1 hw1
  by_cases hn64 : n < 64
  · have hb1 : begun st n = start8 := if_pos hn64
    have hni : (n : Int) < 64 := by omega
    rw [hb1]
    obtain ⟨g0, g1, g2, g3, g4, g5, g6, g7⟩ := Starts.cells HG1.out
    go_enter Tryd.func42, Tryd.ntmps42
    go_upto_region 1 with fail
    rw [HW.out]
    go_wp2
    exact bodyPost_ret (v := s8v start8) (results_cell_row rfl _ _ (w.heap.size + 1) 29 (s8l start8).toArray (0, 0) _ rfl (row8 HG.out.1 _ _ _ _ _ _ _ _) Tryd.underlying29 rfl (by rw [s8_size]; rfl)) rfl ⟨rfl, below8 HG.out.2 (by omega) _ _ _ _ _ _ _ _⟩
  · have hb1 : begun st n = st := if_neg hn64
    have hni : (64 : Int) ≤ (n : Int) := by omega
    rw [hb1]
    clear hb1 hn64
    go_enter Tryd.func42, Tryd.ntmps42
    go_upto_region 1 with fail
    rw [HW.out]
    go_wp2
    exact bodyPost_ret (v := s8v st) (results_cell_row rfl _ _ (w.heap.size + 1) 29 (s8l st).toArray (0, 0) _ rfl (row8 HG.out.1 _ _ _ _ _ _ _ _) Tryd.underlying29 rfl (by rw [s8_size]; rfl)) rfl ⟨rfl, below8 HG.out.2 (by omega) _ _ _ _ _ _ _ _⟩

def zHash : S8 := ⟨0, 0, 0, 0, 0, 0, 0, 0⟩
theorem hash_info : (Tryd.prog.info? 33).map (fun i => (i.zero, i.size)) = some (some (.agg (hashC zHash (List.replicate 64 0) 0).toArray), 73) := by kernel_rfl

theorem New_any (w : World) :
    Calls Tryd.prog 11 #[] w fun e w' => e = .returned (hashV zHash (List.replicate 64 0) 0) ∧ Below w.heap.size w w' := by
  have hz := (zero_of_info hash_info).1
  obtain ⟨C, hC⟩ : ∃ C, hashC zHash (List.replicate 64 0) 0 = C := ⟨_, rfl⟩
  have hl : C.length = 73 := by rw [← hC]; exact hashC_length _ _ rfl
  have h1 : C.toArray.all (·.oneCell') = true := by rw [← hC]; exact hashC_one _ _ _
  have e0 : hashV zHash (List.replicate 64 0) 0 = .agg C.toArray := by rw [← hC]; rfl
  rw [e0]
  rw [hC] at hz
  have HC := Lib.hid (And.intro hl h1)
  clear hl h1 hC e0
  have hr := Row.new w 33 C
  go_enter Tryd.func11, Tryd.ntmps11
  go_wp2_with (refine wpList_store_row rfl 33 (.tmp 0) (.tmp 1) rfl w.heap.size C.toArray rfl rfl 33 C.toArray hr (by rw [hash_size, List.size_toArray, HC.out.1]) rfl HC.out.2 ?_)
  exact bodyPost_ret (v := .agg C.toArray) (results_cell_row rfl _ _ w.heap.size 33 C.toArray (0, 0) _ rfl (hr.put C) Tryd.underlying33 rfl (by rw [hash_size, List.size_toArray, HC.out.1])) rfl ⟨rfl, below_setRow (B := w.heap.size) ((Below.refl _ _).alloc (Nat.le_refl _) _) (Nat.le_refl _) C.toArray⟩
end Go.Proofs.YtdhplohppcndhaaDoor
