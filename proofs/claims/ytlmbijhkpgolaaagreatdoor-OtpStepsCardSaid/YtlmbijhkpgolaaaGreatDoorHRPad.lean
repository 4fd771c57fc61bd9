/- The document's block of a key. -/
import Derived.OwnWalk
import Derived.Deep.OwnRows
import Derived.Test.YtlmbijhkpgolaaaGreatDoorHPlain
import Derived.Test.YtlmbijhkpgolaaaGreatDoorHMask
namespace Go.Proofs.YtlmbijhkpgolaaaGreatDoor
open Go.RowKit
set_option linter.unusedVariables false
theorem u8_info5 : (Tryz.prog.info? 5).map (fun i => (i.zero, i.size, i.bytes)) = some (some (.int .u8 0), 1, 1) := by kernel_rfl
theorem made64b : madeCells #[.int .u8 0] 64 = (List.replicate 64 (Value.int .u8 0)).toArray := by kernel_rfl
/-- The first k bytes, noughts behind. -/
def prow (L : List UInt8) (k : Nat) : List Value := (L.take k).map bv ++ List.replicate (64 - k) (.int .u8 0)
theorem prow_length (L : List UInt8) (hL : L.length = 64) {k : Nat} (h : k ≤ 64) : (prow L k).length = 64 := by unfold prow; simp [hL]; omega
theorem prow_set (L : List UInt8) (hL : L.length = 64) {k : Nat} (h : k < 64) (x : UInt8) (hx : L[k]? = some x) : (prow L k).set k (.int .u8 x.toNat) = prow L (k + 1) := by
  unfold prow
  have hl : ((L.take k).map bv).length = k := by simp [hL]; omega
  have e : 64 - k = (64 - (k + 1)) + 1 := by omega
  rw [e, List.replicate_succ, List.set_append_right _ _ (by omega), hl, Nat.sub_self, List.set_cons_zero, List.take_add_one, hx, List.map_append, List.append_assoc]
  rfl
theorem prow_all (L : List UInt8) (hL : L.length = 64) : prow L 64 = L.map bv := by
  unfold prow
  rw [List.take_of_length_le (by rw [hL]; exact Nat.le_refl _)]
  simp

set_option maxRecDepth 20000 in
set_option maxHeartbeats 4000000 in
theorem refBlk_any (key : ByteArray) (m : UInt8) (hk : key.size ≤ 64) (w : World) :
    Calls Tryz.prog 49 #[.string key, .int .u8 m.toNat] w fun e w' => e = .returned (.string ⟨(blkL key.data.toList m).toArray⟩) ∧ Below w.heap.size w w' := by
  have hkI : ¬ ((64 : Int) < (key.size : Int)) := by omega
  obtain ⟨i0, hi0, hz0, hz1, hz2⟩ := info_parts u8_info5
  have hmk : ∀ W : World, (Instr.makeSlice 43 (.int .i64 64) (.int .i64 64)).run Tryz.prog W = .ok (.slice (some ⟨W.heap.size, 0, none⟩) 64 64) (W.alloc (.cells (List.replicate 64 (Value.int .u8 0)).toArray 5)) := fun W => by
    rw [← made64b]
    exact run_make_row 43 5 i0 (.int .u8 0) Tryz.underlying43 hi0 hz0 hz1 rfl .i64 .i64 64 (by rw [hz2]; decide) (by decide) W
  clear hi0 hz0 hz1 hz2
  have hAl : (blkL key.data.toList m).length = 64 := blkL_length _ _ (by have e : key.size = key.data.toList.length := by simp
                                                                         omega)
  have hA1 : ∀ (k : Nat) (h : k < key.size), (blkL key.data.toList m)[k]? = some (key[k] ^^^ m) := fun k h => by
    unfold blkL
    rw [List.getElem?_map, List.getElem?_append_left (by simpa using h)]
    have e : key.data.toList[k]? = some key[k] := by
      rw [Array.getElem?_toList, Array.getElem?_eq_getElem h]; rfl
    rw [e]; rfl
  have hA2 : ∀ k, key.size ≤ k → k < 64 → (blkL key.data.toList m)[k]? = some m := fun k h h64 => by
    unfold blkL
    have hl : key.data.toList.length = key.size := by simp
    rw [List.getElem?_map, List.getElem?_append_right (by omega), List.getElem?_replicate, if_pos (by omega)]
    show some (0 ^^^ m) = some m
    rw [UInt8.zero_xor]
  obtain ⟨A, hA⟩ : ∃ A, blkL key.data.toList m = A := ⟨_, rfl⟩
  rw [hA] at hAl hA1 hA2 ⊢
  have HA := Lib.hid (And.intro hAl (And.intro hA1 hA2))
  clear hAl hA1 hA2 hA
  go_enter Tryz.func49, Tryz.ntmps49
  go_wp2
  have r1 := Row.new w 5 (List.replicate 64 (Value.int .u8 0))
  have b1 := (Below.refl w.heap.size w).alloc (Nat.le_refl _) (.cells (List.replicate 64 (Value.int .u8 0)).toArray 5)
  clear hmk
  go_loopw [6] (fun i wr => ∃ k : Nat, k ≤ 64 ∧ i = .int .i64 k ∧ Row wr w.heap.size 5 (prow A k) ∧ Below w.heap.size w wr) (fun i _ => 64 - (intOf i).toNat)
  case atStart => exact ⟨0, Nat.zero_le _, rfl, r1, b1⟩
  case round =>
    obtain ⟨k, hk, rfl, h1, h2⟩ := hrel
    clear r1 b1
    by_cases hlt : k < 64
    · obtain ⟨v0, hc0⟩ : ∃ v, wr.cell? ⟨w.heap.size, k, none⟩ = some v := by
        rw [h1.cell]; exact ⟨_, List.getElem?_eq_getElem (by rw [prow_length A HA.out.1 hk]; exact hlt)⟩
      have hf0 := h1.frozen k
      have hkI2 : (k : Int) < 64 := by omega
      have hs1 := h1.set k (.int .u8 (m.toNat : Int))
      have hb1 := h2.setCell (p := ⟨w.heap.size, k, none⟩) (Nat.le_refl _) (.int .u8 (m.toNat : Int))
      by_cases hkk : k < key.size
      · obtain ⟨x, hx⟩ : ∃ x, key[k] = x := ⟨_, rfl⟩
        have hAx := HA.out.2.1 k hkk
        rw [hx] at hAx
        have hX := u8_xor_bits x m
        have hc1 : (wr.setCell ⟨w.heap.size, k, none⟩ (.int .u8 (m.toNat : Int))).cell? ⟨w.heap.size, k, none⟩ = some (.int .u8 (m.toNat : Int)) := by
          rw [hs1.cell, List.getElem?_set_self (by rw [prow_length A HA.out.1 hk]; exact hlt)]
        have hf1 := hs1.frozen k
        have hs2 := hs1.set k (.int .u8 ((x ^^^ m).toNat : Int))
        rw [List.set_set, prow_set A HA.out.1 hlt _ hAx] at hs2
        have hb2 := hb1.setCell (p := ⟨w.heap.size, k, none⟩) (Nat.le_refl _) (.int .u8 ((x ^^^ m).toNat : Int))
        have H := Lib.hid (And.intro hs2 hb2)
        have hkkI : (k : Int) < (key.size : Int) := by omega
        obtain ⟨z, hz⟩ : ∃ z, x ^^^ m = z := ⟨_, rfl⟩
        rw [hz] at hX H
        clear hs1 hb1 hs2 hb2 h1 h2 hAx hz
        go_wp2
        go_roundw
        case rel => exact ⟨k + 1, by omega, by go_num, H.out.1, H.out.2⟩
        case measure => simp [intOf]; omega
      · have hAx := HA.out.2.2 k (by omega) hlt
        rw [prow_set A HA.out.1 hlt _ hAx] at hs1
        have H := Lib.hid (And.intro hs1 hb1)
        have hkkI : (key.size : Int) ≤ (k : Int) := by omega
        clear hs1 hb1 h1 h2 hAx
        go_wp2
        go_roundw
        case rel => exact ⟨k + 1, by omega, by go_num, H.out.1, H.out.2⟩
        case measure => simp [intOf]; omega
    · have hk2 : k = 64 := by omega
      rw [hk2, prow_all A HA.out.1] at h1
      have hge : 64 ≤ k := by omega
      have hcv := conv_bytes (P := Tryz.prog) wr 43 9 5 Tryz.underlying43 Tryz.underlying5 Tryz.underlying9 w.heap.size 0 64 64 A HA.out.1 (fun i hi => by
        rw [Nat.zero_add, h1.cell])
      have H := Lib.hid h2
      clear hk2 hlt hk h1 h2
      go_wp2
      go_ret
      exact ⟨rfl, H.out⟩
end Go.Proofs.YtlmbijhkpgolaaaGreatDoor
