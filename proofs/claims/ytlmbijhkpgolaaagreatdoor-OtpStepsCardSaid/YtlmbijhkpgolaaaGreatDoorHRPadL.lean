/- The document's block of any key. -/
import Derived.Test.YtlmbijhkpgolaaaGreatDoorHRPad
import Derived.Test.YtlmbijhkpgolaaaGreatDoorRText
namespace Go.Proofs.YtlmbijhkpgolaaaGreatDoor
open Go.RowKit
set_option linter.unusedVariables false

set_option maxRecDepth 20000 in
set_option maxHeartbeats 4000000 in
theorem refBlk_long (key : ByteArray) (m : UInt8) (hk1 : 64 < key.size) (hk2 : key.size ≤ 100000) (w : World) :
    Calls Tryz.prog 49 #[.string key, .int .u8 m.toNat] w fun e w' => e = .returned (.string ⟨(blkL (keyL key.data.toList) m).toArray⟩) ∧ Below w.heap.size w w' := by
  have hkI : (64 : Int) < (key.size : Int) := by omega
  have hkl : key.data.toList.length = key.size := by simp
  obtain ⟨kk, hkk⟩ : ∃ kk : ByteArray, (⟨(shaL key.data.toList).toArray⟩ : ByteArray) = kk := ⟨_, rfl⟩
  have HTX : Hid (∀ W : World, Calls Tryz.prog 20 #[.string key] W fun e w' => e = .returned (.string kk) ∧ Below W.heap.size W w') := Lib.hid fun W => by rw [← hkk]; exact refText_any key hk2 W
  have hkd : keyL key.data.toList = kk.data.toList := by unfold keyL; rw [if_pos (by omega), ← hkk]
  have hk : kk.size ≤ 64 := by
    have e : kk.size = kk.data.toList.length := by simp
    rw [e, ← hkd]
    unfold keyL
    rw [if_pos (by omega), shaL_length]
    omega
  rw [hkd]
  clear hkk hkd hkl
  obtain ⟨i0, hi0, hz0, hz1, hz2⟩ := info_parts u8_info5
  have hmk : ∀ W : World, (Instr.makeSlice 43 (.int .i64 64) (.int .i64 64)).run Tryz.prog W = .ok (.slice (some ⟨W.heap.size, 0, none⟩) 64 64) (W.alloc (.cells (List.replicate 64 (Value.int .u8 0)).toArray 5)) := fun W => by
    rw [← made64b]
    exact run_make_row 43 5 i0 (.int .u8 0) Tryz.underlying43 hi0 hz0 hz1 rfl .i64 .i64 64 (by rw [hz2]; decide) (by decide) W
  clear hi0 hz0 hz1 hz2
  have hkzl : kk.data.toList.length ≤ 64 := by
    have e : kk.size = kk.data.toList.length := by simp
    omega
  have hAl : (blkL kk.data.toList m).length = 64 := blkL_length _ _ hkzl
  have hA1 : ∀ (k : Nat) (h : k < kk.size), (blkL kk.data.toList m)[k]? = some (kk[k] ^^^ m) := fun k h => by
    unfold blkL
    rw [List.getElem?_map, List.getElem?_append_left (by simpa using h)]
    have e : kk.data.toList[k]? = some kk[k] := by
      rw [Array.getElem?_toList, Array.getElem?_eq_getElem h]; rfl
    rw [e]; rfl
  have hA2 : ∀ k, kk.size ≤ k → k < 64 → (blkL kk.data.toList m)[k]? = some m := fun k h h64 => by
    unfold blkL
    have hl : kk.data.toList.length = kk.size := by simp
    rw [List.getElem?_map, List.getElem?_append_right (by omega), List.getElem?_replicate, if_pos (by omega)]
    show some (0 ^^^ m) = some m
    rw [UInt8.zero_xor]
  obtain ⟨A, hA⟩ : ∃ A, blkL kk.data.toList m = A := ⟨_, rfl⟩
  rw [hA] at hAl hA1 hA2 ⊢
  have HA := Lib.hid (And.intro hAl (And.intro hA1 hA2))
  clear hAl hA1 hA2 hA
  go_enter Tryz.func49, Tryz.ntmps49
  go_wp2_with fail
  refine (HTX.out _).mono ?_
  rintro e w0 ⟨rfl, hb0⟩
  go_wp2
  have r1 := Row.new w0 5 (List.replicate 64 (Value.int .u8 0))
  have b1 := hb0.alloc hb0.size (.cells (List.replicate 64 (Value.int .u8 0)).toArray 5)
  have hsz0 := hb0.size
  clear hmk hb0
  go_loopw [6] (fun i wr => ∃ k : Nat, k ≤ 64 ∧ i = .int .i64 k ∧ Row wr w0.heap.size 5 (prow A k) ∧ Below w.heap.size w wr) (fun i _ => 64 - (intOf i).toNat)
  case atStart => exact ⟨0, Nat.zero_le _, rfl, r1, b1⟩
  case round =>
    obtain ⟨k, hk, rfl, h1, h2⟩ := hrel
    clear r1 b1
    by_cases hlt : k < 64
    · obtain ⟨v0, hc0⟩ : ∃ v, wr.cell? ⟨w0.heap.size, k, none⟩ = some v := by
        rw [h1.cell]; exact ⟨_, List.getElem?_eq_getElem (by rw [prow_length A HA.out.1 hk]; exact hlt)⟩
      have hf0 := h1.frozen k
      have hkI2 : (k : Int) < 64 := by omega
      have hs1 := h1.set k (.int .u8 (m.toNat : Int))
      have hb1 := h2.setCell (p := ⟨w0.heap.size, k, none⟩) hsz0 (.int .u8 (m.toNat : Int))
      by_cases hkk : k < kk.size
      · obtain ⟨x, hx⟩ : ∃ x, kk[k] = x := ⟨_, rfl⟩
        have hAx := HA.out.2.1 k hkk
        rw [hx] at hAx
        have hX := u8_xor_bits x m
        have hc1 : (wr.setCell ⟨w0.heap.size, k, none⟩ (.int .u8 (m.toNat : Int))).cell? ⟨w0.heap.size, k, none⟩ = some (.int .u8 (m.toNat : Int)) := by
          rw [hs1.cell, List.getElem?_set_self (by rw [prow_length A HA.out.1 hk]; exact hlt)]
        have hf1 := hs1.frozen k
        have hs2 := hs1.set k (.int .u8 ((x ^^^ m).toNat : Int))
        rw [List.set_set, prow_set A HA.out.1 hlt _ hAx] at hs2
        have hb2 := hb1.setCell (p := ⟨w0.heap.size, k, none⟩) hsz0 (.int .u8 ((x ^^^ m).toNat : Int))
        have H := Lib.hid (And.intro hs2 hb2)
        have hkkI : (k : Int) < (kk.size : Int) := by omega
        obtain ⟨z, hz⟩ : ∃ z, x ^^^ m = z := ⟨_, rfl⟩
        rw [hz] at hX H
        clear hs1 hb1 hs2 hb2 h1 h2 hAx hz
        go_wp2
        go_roundw
        case rel => exact ⟨k + 1, by omega, by go_num, H.out.1, H.out.2⟩
        case measure => simp [intOf]; omega
      · have hAx := HA.out.2.2 k (by omega) hlt
        rw [prow_set A HA.out.1 hlt _ hAx] at hs1
        have H := Lib.hid (And.intro hs1 hb1)
        have hkkI : (kk.size : Int) ≤ (k : Int) := by omega
        clear hs1 hb1 h1 h2 hAx
        go_wp2
        go_roundw
        case rel => exact ⟨k + 1, by omega, by go_num, H.out.1, H.out.2⟩
        case measure => simp [intOf]; omega
    · have hk2 : k = 64 := by omega
      rw [hk2, prow_all A HA.out.1] at h1
      have hge : 64 ≤ k := by omega
      have hcv := conv_bytes (P := Tryz.prog) wr 43 9 5 Tryz.underlying43 Tryz.underlying5 Tryz.underlying9 w0.heap.size 0 64 64 A HA.out.1 (fun i hi => by
        rw [Nat.zero_add, h1.cell])
      have H := Lib.hid h2
      clear hk2 hlt hk h1 h2
      go_wp2
      go_ret
      exact ⟨rfl, H.out⟩

theorem refBlk_all (key : ByteArray) (m : UInt8) (hk : key.size ≤ 100000) (w : World) :
    Calls Tryz.prog 49 #[.string key, .int .u8 m.toNat] w fun e w' => e = .returned (.string ⟨(blkL (keyL key.data.toList) m).toArray⟩) ∧ Below w.heap.size w w' := by
  by_cases h : 64 < key.size
  · exact refBlk_long key m h hk w
  · have hl : key.data.toList.length = key.size := by simp
    have e : keyL key.data.toList = key.data.toList := by unfold keyL; rw [if_neg (by omega)]
    rw [e]
    exact refBlk_any key m (by omega) w
end Go.Proofs.YtlmbijhkpgolaaaGreatDoor
