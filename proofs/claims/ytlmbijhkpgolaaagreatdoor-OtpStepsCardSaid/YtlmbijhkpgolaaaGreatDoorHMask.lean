/- A key's block, masked. -/
import Derived.Test.YtlmbijhkpgolaaaGreatDoorHPlain
import Derived.Test.YtlmbijhkpgolaaaGreatDoorSHash
namespace Go.Proofs.YtlmbijhkpgolaaaGreatDoor
open Go.RowKit
set_option linter.unusedVariables false

def z64b : List Value := List.replicate 64 (.int .u8 0)
theorem b64_info : (Tryz.prog.info? 97).map (fun i => (i.zero, i.size)) = some (some (.agg z64b.toArray), 64) := by kernel_rfl

theorem part_set {α : Type} (A B : List α) (j : Nat) (v : α) (hv : A[j]? = some v) (hl : A.length = B.length) : (A.take j ++ B.drop j).set j v = A.take (j + 1) ++ B.drop (j + 1) := by
  have hj : j < A.length := (List.getElem?_eq_some_iff.1 hv).1
  have hB : j < B.length := by omega
  have h1 : (A.take j).length = j := by rw [List.length_take]; omega
  have h2 : B.drop j = B[j] :: B.drop (j + 1) := List.drop_eq_getElem_cons hB
  have h3 : A.take (j + 1) = A.take j ++ [v] := by
    rw [List.take_add_one, hv]; rfl
  rw [List.set_append_right _ _ (by omega), h1, Nat.sub_self, h2, List.set_cons_zero, h3, List.append_assoc]
  rfl
theorem u8_xor_bits (a b : UInt8) : bits BinOp.xor IntKind.u8 (a.toNat : Int) (b.toNat : Int) = ((a ^^^ b).toNat : Int) := by
  rw [UInt8.toNat_xor]
  exact u8_xor_nat _ _ (UInt8.toNat_lt a) (UInt8.toNat_lt b)

set_option maxRecDepth 4000 in
set_option maxHeartbeats 2000000 in
theorem masked_any (k : ByteArray) (m : UInt8) (hk : k.size ≤ 64) (w : World) :
    Calls Tryz.prog 47 #[.string k, .int .u8 m.toNat] w fun e w' => e = .returned (.string ⟨(blkL k.data.toList m).toArray⟩) ∧ Below w.heap.size w w' := by
  have hz := (zero_of_info b64_info).1
  have hsl : k.data.toList.length = k.size := by simp
  obtain ⟨K, hK⟩ : ∃ K, k.data.toList ++ List.replicate (64 - k.data.toList.length) (0 : UInt8) = K := ⟨_, rfl⟩
  have hKl : K.length = 64 := by rw [← hK]; simp; omega
  obtain ⟨A, hA⟩ : ∃ A, K.map (fun c => c ^^^ m) = A := ⟨_, rfl⟩
  have hAl : A.length = 64 := by rw [← hA, List.length_map, hKl]
  have hblk : blkL k.data.toList m = A := by rw [← hA, ← hK]; rfl
  have hr1 := Row.new w 97 z64b
  have hb1 : Below w.heap.size w (w.alloc (.cells z64b.toArray 97)) := (Below.refl _ _).alloc (Nat.le_refl _) _
  have hsa := fun W => slice_arr_all (P := Tryz.prog) 97 5 64 Tryz.underlying97 Tryz.sizeOf5 w.heap.size 0 (by omega) W
  have hov : over z64b 0 k.data.toList = K.map bv := by
    unfold over z64b
    rw [← hK, List.map_append, List.take_zero, List.nil_append, Nat.zero_add, hsl, List.drop_replicate, List.map_replicate]
    rfl
  have hcp := copy_row (P := Tryz.prog) (ty := 3) 43 9 5 w.heap.size 0 64 64 k z64b 97 Tryz.underlying43 (by kernel_rfl) hr1 hk (by simp [z64b]; omega)
  rw [hov] at hcp
  have r2 := hr1.put (K.map bv)
  have b2 := below_setRow (B := w.heap.size) hb1 (Nat.le_refl w.heap.size) (K.map bv).toArray
  rw [hblk]
  have H2 := Lib.hid (And.intro r2 (And.intro b2 (And.intro hA (And.intro hKl hAl))))
  clear hr1 hb1 hov hsl hK hblk r2 b2
  go_enter Tryz.func47, Tryz.ntmps47
  go_wp2_with fail
  obtain ⟨r2, b2, hA, hKl, hAl⟩ := H2.out
  generalize (w.alloc (.cells z64b.toArray 97)).setRow w.heap.size (K.map bv).toArray = w2 at r2 b2 ⊢
  clear H2 hcp hz
  go_loopw [10] (fun i wr => ∃ j : Nat, j ≤ 64 ∧ i = .int .i64 j ∧ Row wr w.heap.size 97 ((A.take j ++ K.drop j).map bv) ∧ Below w.heap.size w wr) (fun i _ => 64 - (intOf i).toNat)
  case atStart => exact ⟨0, Nat.zero_le _, rfl, by simpa using r2, b2⟩
  case round =>
    obtain ⟨j, hj, rfl, hr, hb⟩ := hrel
    clear r2 b2
    by_cases hlt : j < 64
    · obtain ⟨c, hc⟩ : ∃ c, K[j]? = some c := ⟨_, List.getElem?_eq_getElem (by omega)⟩
      have hAj : A[j]? = some (c ^^^ m) := by rw [← hA, List.getElem?_map, hc]; rfl
      have hcell : wr.cell? ⟨w.heap.size, j, none⟩ = some (.int .u8 (c.toNat : Int)) := by
        rw [hr.cell, List.getElem?_map, List.getElem?_append_right (by rw [List.length_take]; omega), List.getElem?_drop, List.length_take, show j + (j - min j A.length) = j by omega, hc]
        rfl
      have hfr := hr.frozen j
      have hx := u8_xor_bits c m
      have r3 := hr.set j (.int .u8 ((c ^^^ m).toNat : Int))
      have e3 : ((A.take j ++ K.drop j).map bv).set j (.int .u8 ((c ^^^ m).toNat : Int)) = (A.take (j + 1) ++ K.drop (j + 1)).map bv := by
        rw [show (Value.int IntKind.u8 ((c ^^^ m).toNat : Int)) = bv (c ^^^ m) from rfl, ← List.map_set, part_set A K j _ hAj (by omega)]
      rw [e3] at r3
      have b3 := hb.setCell (p := ⟨w.heap.size, j, none⟩) (Nat.le_refl _) (.int .u8 ((c ^^^ m).toNat : Int))
      have H3 := Lib.hid (And.intro r3 b3)
      clear hr hb hc hAj r3 b3 e3 hA hKl hAl
      go_wp2_with fail
      go_roundw
      case rel => exact ⟨j + 1, by omega, by go_num, H3.out.1, H3.out.2⟩
      case measure => simp [intOf]; omega
    · have hj64 : j = 64 := by omega
      have hge : 64 ≤ j := by omega
      have hrow : (A.take j ++ K.drop j).map bv = A.map bv := by rw [hj64, List.take_of_length_le (by omega), List.drop_of_length_le (by omega), List.append_nil]
      rw [hrow] at hr
      have hcv := conv_bytes (P := Tryz.prog) wr 43 9 5 Tryz.underlying43 Tryz.underlying5 Tryz.underlying9 w.heap.size 0 64 64 A hAl (fun i hi => by rw [Nat.zero_add, hr.cell])
      clear hrow hr hA hKl hAl hj64
      go_wp2_with fail
      go_ret
      exact ⟨rfl, hb⟩
end Go.Proofs.YtlmbijhkpgolaaaGreatDoor
