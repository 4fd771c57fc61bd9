/- A sector of a byte. -/
import Derived.Test.YtcecibopanfmgaaKNil
namespace Go.Proofs.Ytcecibopanfmgaa
open Go.RowKit Go.Maps
set_option linter.unusedVariables false
set_option linter.unusedSimpArgs false

/-- A sector of a byte: each byte one more than the last. -/
def fillB (c : UInt8) : List UInt8 := (List.range 128).map fun i => c + UInt8.ofNat i
theorem fillB_len (c : UInt8) : (fillB c).length = 128 := by simp [fillB]
theorem fillB_get (c : UInt8) {j : Nat} (h : j < 128) : (fillB c)[j]? = some (c + UInt8.ofNat j) := by
  unfold fillB
  rw [List.getElem?_map, List.getElem?_range h]
  rfl
theorem fill_num (c : UInt8) {j : Nat} (h : j < 128) : ((c.toNat : Int) + (j : Int)) % 256 = ((c + UInt8.ofNat j).toNat : Int) := by
  rw [UInt8.toNat_add, UInt8.toNat_ofNat']
  omega
theorem part_set' {α : Type} (A B : List α) (j : Nat) (v : α) (hv : A[j]? = some v) (hl : A.length = B.length) : (A.take j ++ B.drop j).set j v = A.take (j + 1) ++ B.drop (j + 1) := by
  have hj : j < A.length := (List.getElem?_eq_some_iff.1 hv).1
  have hB : j < B.length := by omega
  have h1 : (A.take j).length = j := by rw [List.length_take]; omega
  have h2 : B.drop j = B[j] :: B.drop (j + 1) := List.drop_eq_getElem_cons hB
  have h3 : A.take (j + 1) = A.take j ++ [v] := by
    rw [List.take_add_one, hv]; rfl
  rw [List.set_append_right _ _ (by omega), h1, Nat.sub_self, h2, List.set_cons_zero, h3, List.append_assoc]
  rfl

section
variable {w : World}
set_option maxRecDepth 20000
set_option maxHeartbeats 1000000
theorem fill_any (c : UInt8) : Calls Try.prog 15 #[.int .u8 c.toNat] w fun e w' => e = .returned (blkV (fillB c)) ∧ Below w.heap.size w w' := by
  have hz := (zero_of_info zB_info).1
  have B0 := (Below.refl w.heap.size w).alloc (Nat.le_refl _) (.cells zB.toArray 42)
  have r0 := Row.new w 42 zB
  have B1 := B0.alloc (by simp) (.cells zB.toArray 42)
  have r1 := Row.new (w.alloc (.cells zB.toArray 42)) 42 zB
  have r0' := r0.alloc (.cells zB.toArray 42)
  obtain ⟨A, hA⟩ : ∃ A, fillB c = A := ⟨_, rfl⟩
  have hAl := fillB_len c
  have hAg := fun j => @fillB_get c j
  rw [hA] at hAl
  simp only [hA] at hAg
  rw [hA]
  have HS := Lib.hid (And.intro B1 (And.intro r0' r1))
  have HA := Lib.hid (And.intro hAl hAg)
  clear B0 r0 B1 r1 r0' hA hAl hAg
  go_enter Try.func15, Try.ntmps15
  go_wp2_with fail
  obtain ⟨B1, r0, r1⟩ := HS.out
  clear HS
  rw [World.size_alloc] at r1
  generalize (w.alloc (.cells zB.toArray 42)).alloc (.cells zB.toArray 42) = w1 at B1 r0 r1 ⊢
  have e0 : zB = (A.take 0 ++ z128.drop 0).map bv := by rw [List.take_zero, List.drop_zero, List.nil_append, zB_eq]
  go_loopw [5] (fun i wr => ∃ j : Nat, j ≤ 128 ∧ i = .int .i64 j ∧ Row wr (w.heap.size + 1) 42 ((A.take j ++ z128.drop j).map bv) ∧ Row wr w.heap.size 42 zB ∧ Below w.heap.size w wr) (fun i _ => 128 - (intOf i).toNat)
  case atStart => exact ⟨0, Nat.zero_le _, rfl, by rw [← e0]; exact r1, r0, B1⟩
  case round =>
    obtain ⟨j, hj, rfl, hr, hr0, hb⟩ := hrel
    clear r0 r1 e0
    by_cases hlt : j < 128
    · have hAj := HA.out.2 j hlt
      have hcell : wr.cell? ⟨w.heap.size + 1, j, none⟩ = some (.int .u8 0) := by
        rw [hr.cell, List.getElem?_map, List.getElem?_append_right (by rw [List.length_take]; omega), List.getElem?_drop, List.length_take, HA.out.1, show j + (j - min j 128) = j by omega]
        unfold z128
        rw [List.getElem?_replicate, if_pos hlt]
        rfl
      have hfr := hr.frozen j
      have hn := fill_num c hlt
      obtain ⟨d, hd⟩ : ∃ d : UInt8, c + UInt8.ofNat j = d := ⟨_, rfl⟩
      rw [hd] at hn hAj
      have r3 := hr.set j (.int .u8 (d.toNat : Int))
      have e3 : ((A.take j ++ z128.drop j).map bv).set j (.int .u8 (d.toNat : Int)) = (A.take (j + 1) ++ z128.drop (j + 1)).map bv := by
        rw [show (Value.int IntKind.u8 (d.toNat : Int)) = bv d from rfl, ← List.map_set, part_set' A z128 j _ hAj (by rw [HA.out.1]; rfl)]
      rw [e3] at r3
      clear hd
      have b3 := hb.setCell (p := ⟨w.heap.size + 1, j, none⟩) (by show w.heap.size ≤ w.heap.size + 1; omega) (.int .u8 (d.toNat : Int))
      have r03 := hr0.far (p := ⟨w.heap.size + 1, j, none⟩) (by show w.heap.size ≠ w.heap.size + 1; omega) (.int .u8 (d.toNat : Int))
      have H3 := Lib.hid (And.intro r3 (And.intro r03 b3))
      clear hr hr0 hb hAj r3 b3 r03 e3
      go_wp2_with fail
      go_roundw
      case rel => exact ⟨j + 1, by omega, by go_num, H3.out.1, H3.out.2⟩
      case measure => simp [intOf]; omega
    · have hj' : j = 128 := by omega
      have hge : 128 ≤ j := by omega
      have hrow : (A.take j ++ z128.drop j).map bv = A.map bv := by rw [hj', List.take_of_length_le (by rw [HA.out.1]; omega), List.drop_of_length_le (by unfold z128; rw [List.length_replicate]; omega), List.append_nil]
      rw [hrow] at hr
      have hrng := row_range hr 0 128 (by rw [List.length_map, HA.out.1]; omega)
      rw [List.drop_zero, List.take_of_length_le (by rw [List.length_map, HA.out.1]; omega)] at hrng
      have hsz := blk_size A HA.out.1
      have hone := blkV_one A
      obtain ⟨C, hC⟩ : ∃ C, A.map bv = C := ⟨_, rfl⟩
      have hfin : blkV A = .agg C.toArray := by unfold blkV; rw [hC]
      have hlen : C.length = 128 := by rw [← hC, List.length_map, HA.out.1]
      rw [hC] at hrng hsz hone
      obtain ⟨g, hg⟩ : ∃ g, w.heap.size = g := ⟨_, rfl⟩
      rw [hg] at hr0 hb hrng ⊢
      have HB := Lib.hid hb
      have HGE := Lib.hid hg
      have HF := Lib.hid hfin
      have HR := Lib.hid (And.intro hrng (And.intro hr0 (And.intro hone (And.intro hsz hlen))))
      clear hrow hr hr0 hb hrng hg hone hsz hlen hC hj' HA hfin
      go_wp2_with (first
        | (with_reducible refine wpList_load_mid rfl 42 (.tmp 3) rfl (g + 1) 0 rfl C _ HR.out.1 Try.underlying42 rfl HR.out.2.2.2.1 ?_)
        | (refine wpList_store_row rfl 42 (.tmp 2) (.tmp 15) rfl g C.toArray rfl rfl 42 zB.toArray HR.out.2.1 (by rw [List.size_toArray]; exact HR.out.2.2.2.1) (by rw [List.size_toArray, List.size_toArray, zB_len, HR.out.2.2.2.2]) HR.out.2.2.1 ?_))
      have hp := HR.out.2.1.put C
      have hq := below_setRow (B := g) HB.out (Nat.le_refl _) C.toArray
      refine bodyPost_ret (v := .agg C.toArray) (results_cell_row rfl _ _ g 42 C.toArray (0, 0) _ rfl hp Try.underlying42 rfl (by rw [List.size_toArray]; exact HR.out.2.2.2.1)) rfl ⟨by rw [HF.out], ?_⟩
      rw [HGE.out]
      exact hq
end
end Go.Proofs.Ytcecibopanfmgaa
