/- The statement of HmacCodes: whatever comes in, the law answers true, and what came in reads as it did. (In one text with what it leans on: HShort, HOne, HRPad, HRPadL, HRSum, HPow, ShelfN, NFmt, NText, NCode, NRef, HmacCodesW, LaidT, HmacCodes.) -/
import Derived.OwnWalk
import Derived.Deep.OwnRows
import Derived.Shelf.Strings.Builder1
import Derived.Shelf.Strings.Builder2
import Derived.Shelf.Strings.OnBuilder
import Derived.Shelf.Strings.BuilderF
import Derived.Shelf.Strconv.Itoa0
import Derived.Shelf.Strconv.Itoa1
import Derived.Shelf.LaysM
import Derived.Shelf.Strconv.Itoa2
import Derived.Shelf.Strings.Prefix
import Derived.Shelf.Bits.Mul64
import Derived.Shelf.Strings.Repeat
import Derived.Below
import Derived.WalkKit
import Derived.Lib.LaidTab
import Derived.Lib.AppendIntMem
import Derived.Lib.ItoaLen
import Derived.Laws.BitsAllLaws
import Derived.ProofKit
import Derived.OpenShut
import Derived.ShutString
import Derived.SizedLaws
import Derived.LaidMore
import Derived.Stop.Joined
import Derived.SevenTiedAt
import Derived.Test.YtehoofddklbnaaaDoorHSumm
import Derived.Test.YtehoofddklbnaaaDoorHPlain
import Derived.Test.YtehoofddklbnaaaDoorHMask
import Derived.Test.YtehoofddklbnaaaDoorRText
import Derived.Test.YtehoofddklbnaaaDoorProg
import Derived.Test.YtehoofddklbnaaaDoorShelf
import Derived.Test.YtehoofddklbnaaaDoorPut
import Derived.Test.YtehoofddklbnaaaDoorGet
import Derived.Test.YtehoofddklbnaaaDoorDSmall
import Derived.Test.YtehoofddklbnaaaDoorAwk6
import Derived.Test.YtehoofddklbnaaaDoorLaid4
import Derived.Test.YtehoofddklbnaaaDoorRows
import Derived.Test.YtehoofddklbnaaaDoorCards
import Derived.Test.YtehoofddklbnaaaDoorTie
namespace Go.Proofs.YtehoofddklbnaaaDoor
open Go.RowKit
set_option linter.unusedVariables false
theorem hmacL_length (k t : List UInt8) : (hmacL k t).length = 32 := by unfold hmacL; exact shaL_length _

set_option maxRecDepth 20000 in
set_option maxHeartbeats 4000000 in
theorem HmShort_any (key : ByteArray) (hk : key.size ≤ 100000000) (n : Int) (hnw : -9223372036854775808 ≤ n ∧ n ≤ 9223372036854775807) (m : Nat) (hm : m ≤ 32) (hmm : min (max n 0) 32 = (m : Int)) (b2 o2 c2 : Nat) (xs : List ByteArray) (w : World) (hG : G w)
    (h2 : ∀ (j : Nat) x, xs[j]? = some x → w.cell? ⟨b2, o2 + j, none⟩ = some (.string x)) (hb2 : b2 < w.heap.size) (hn : xs.length ≤ 1000)
    (T : List UInt8) (hT : Lib.join (xs.map (·.data.toList)) [] = T) (hTl : T.length ≤ 140737488300000) :
    Calls Tryd.prog 8 #[.string key, .int .i64 n, .slice (some ⟨b2, o2, none⟩) xs.length c2] w fun e w' => e = .returned (.string ((⟨(hmacL key.data.toList T).toArray⟩ : ByteArray).extract 0 m)) ∧ Below w.heap.size w w' := by
  have HS := Lib.hid (fun (W : World) (hb : Below w.heap.size w W) => HmSum_any key hk b2 o2 c2 xs W (hG.below hb) (fun j x hx => (hb.cell (p := ⟨b2, o2 + j, none⟩) hb2).trans (h2 j x hx)) (Nat.lt_of_lt_of_le hb2 hb.size) hn T hT hTl)
  obtain ⟨r, hr⟩ : ∃ r : ByteArray, (⟨(hmacL key.data.toList T).toArray⟩ : ByteArray) = r := ⟨_, rfl⟩
  have hrs : r.size = 32 := by rw [← hr]; show (hmacL key.data.toList T).toArray.size = 32; rw [List.size_toArray, hmacL_length]
  rw [hr] at HS ⊢
  have hm32 : m ≤ r.size := by omega
  clear hr h2 hb2 hT hTl hG
  go_enter Tryd.func8, Tryd.ntmps8
  go_wp2_with fail
  refine (HS.out _ (Below.refl _ _)).mono ?_
  rintro e w1 ⟨rfl, hb1⟩
  go_wp2_with fail
  go_ret
  exact ⟨rfl, hb1⟩
end Go.Proofs.YtehoofddklbnaaaDoor

namespace Go.Proofs.YtehoofddklbnaaaDoor
open Go.RowKit
set_option linter.unusedVariables false

theorem HmSum_one (key s : ByteArray) (hk : key.size ≤ 100000000) (hs : s.size ≤ 100000000) (W : World) (g : Nat) (hg : G W) (hr : Row W g 9 [.string s]) :
    Calls Tryd.prog 7 #[.string key, .slice (some ⟨g, 0, none⟩) 1 1] W fun e w' => e = .returned (.string ⟨(hmacL key.data.toList s.data.toList).toArray⟩) ∧ Below W.heap.size W w' :=
  HmSum_any key hk g 0 1 [s] W hg (fun j x hx => by rw [Nat.zero_add, hr.cell]; match j, hx with | 0, hx => cases hx; rfl) hr.lt (by simp) s.data.toList (by rw [join_flat]; simp) (by simp; omega)
theorem HmSum_two (key s t : ByteArray) (hk : key.size ≤ 100000000) (hs : s.size ≤ 100000000) (ht : t.size ≤ 100000000) (W : World) (g : Nat) (hg : G W) (hr : Row W g 9 [.string s, .string t]) :
    Calls Tryd.prog 7 #[.string key, .slice (some ⟨g, 0, none⟩) 2 2] W fun e w' => e = .returned (.string ⟨(hmacL key.data.toList (s.data.toList ++ t.data.toList)).toArray⟩) ∧ Below W.heap.size W w' :=
  HmSum_any key hk g 0 2 [s, t] W hg (fun j x hx => by rw [Nat.zero_add, hr.cell]; match j, hx with | 0, hx => cases hx; rfl | 1, hx => cases hx; rfl) hr.lt (by simp) (s.data.toList ++ t.data.toList) (by rw [join_flat]; simp) (by rw [List.length_append]; simp; omega)
theorem HmShort_one (key s : ByteArray) (n : Int) (hn : -9223372036854775808 ≤ n ∧ n ≤ 9223372036854775807) (m : Nat) (hm : m ≤ 32) (hmm : min (max n 0) 32 = (m : Int)) (hk : key.size ≤ 100000000) (hs : s.size ≤ 100000000) (W : World) (g : Nat) (hg : G W) (hr : Row W g 9 [.string s]) :
    Calls Tryd.prog 8 #[.string key, .int .i64 n, .slice (some ⟨g, 0, none⟩) 1 1] W fun e w' => e = .returned (.string ((⟨(hmacL key.data.toList s.data.toList).toArray⟩ : ByteArray).extract 0 m)) ∧ Below W.heap.size W w' :=
  HmShort_any key hk n hn m hm hmm g 0 1 [s] W hg (fun j x hx => by rw [Nat.zero_add, hr.cell]; match j, hx with | 0, hx => cases hx; rfl) hr.lt (by simp) s.data.toList (by rw [join_flat]; simp) (by simp; omega)
theorem HmShort_two (key s t : ByteArray) (n : Int) (hn : -9223372036854775808 ≤ n ∧ n ≤ 9223372036854775807) (m : Nat) (hm : m ≤ 32) (hmm : min (max n 0) 32 = (m : Int)) (hk : key.size ≤ 100000000) (hs : s.size ≤ 100000000) (ht : t.size ≤ 100000000) (W : World) (g : Nat) (hg : G W) (hr : Row W g 9 [.string s, .string t]) :
    Calls Tryd.prog 8 #[.string key, .int .i64 n, .slice (some ⟨g, 0, none⟩) 2 2] W fun e w' => e = .returned (.string ((⟨(hmacL key.data.toList (s.data.toList ++ t.data.toList)).toArray⟩ : ByteArray).extract 0 m)) ∧ Below W.heap.size W w' :=
  HmShort_any key hk n hn m hm hmm g 0 2 [s, t] W hg (fun j x hx => by rw [Nat.zero_add, hr.cell]; match j, hx with | 0, hx => cases hx; rfl | 1, hx => cases hx; rfl) hr.lt (by simp) (s.data.toList ++ t.data.toList) (by rw [join_flat]; simp) (by rw [List.length_append]; simp; omega)

/-- A key, and it with noughts behind, to a block. -/
theorem hmac_pad (k t : List UInt8) (n : Nat) (h : n = 0 ∨ k.length + n ≤ 64) : hmacL (k ++ List.replicate n 0) t = hmacL k t := by
  rcases h with rfl | h
  · rw [List.replicate_zero, List.append_nil]
  · have e (m : UInt8) : blkL (keyL (k ++ List.replicate n 0)) m = blkL (keyL k) m := by
      unfold keyL
      rw [if_neg (by simp; omega), if_neg (by omega)]
      unfold blkL
      rw [List.append_assoc, List.replicate_append_replicate, List.length_append, List.length_replicate]
      congr 3
      omega
    unfold hmacL
    rw [e, e]
/-- One that is longer is its sum. -/
theorem hmac_long (k t : List UInt8) (h : 64 < k.length) : hmacL (shaL k) t = hmacL k t := by
  have e : keyL (shaL k) = keyL k := by
    unfold keyL
    rw [if_neg (by rw [shaL_length]; omega), if_pos h]
  unfold hmacL
  rw [e]
theorem repeat_one (b : UInt8) (c : Nat) : Lib.repeatL [b] c = List.replicate c b := by
  have := Lib.repeatL_replicate b 1 c
  rwa [Nat.mul_one] at this
end Go.Proofs.YtehoofddklbnaaaDoor

namespace Go.Proofs.YtehoofddklbnaaaDoor
open Go.RowKit
set_option linter.unusedVariables false
theorem u8_info5 : (Tryd.prog.info? 5).map (fun i => (i.zero, i.size, i.bytes)) = some (some (.int .u8 0), 1, 1) := by kernel_rfl
theorem made64b : madeCells #[.int .u8 0] 64 = (List.replicate 64 (Value.int .u8 0)).toArray := by kernel_rfl
/-- The first k bytes, noughts behind. -/
def prow (L : List UInt8) (k : Nat) : List Value := (L.take k).map bv ++ List.replicate (64 - k) (.int .u8 0)
theorem prow_length (L : List UInt8) (hL : L.length = 64) {k : Nat} (h : k ≤ 64) : (prow L k).length = 64 := by unfold prow; simp [hL]; omega
theorem prow_set (L : List UInt8) (hL : L.length = 64) {k : Nat} (h : k < 64) (x : UInt8) (hx : L[k]? = some x) : (prow L k).set k (.int .u8 x.toNat) = prow L (k + 1) := by
  unfold prow
  have hl : ((L.take k).map bv).length = k := by simp [hL]; omega
  have e : 64 - k = (64 - (k + 1)) + 1 := by omega
  rw [e, List.replicate_succ, List.set_append_right _ _ (by omega), hl, Nat.sub_self, List.set_cons_zero, List.take_add_one, hx, List.map_append, List.append_assoc]
  rfl
theorem prow_all (L : List UInt8) (hL : L.length = 64) : prow L 64 = L.map bv := by
  unfold prow
  rw [List.take_of_length_le (by rw [hL]; exact Nat.le_refl _)]
  simp

set_option maxRecDepth 20000 in
set_option maxHeartbeats 4000000 in
theorem refBlk_any (key : ByteArray) (m : UInt8) (hk : key.size ≤ 64) (w : World) :
    Calls Tryd.prog 19 #[.string key, .int .u8 m.toNat] w fun e w' => e = .returned (.string ⟨(blkL key.data.toList m).toArray⟩) ∧ Below w.heap.size w w' := by
  have hkI : ¬ ((64 : Int) < (key.size : Int)) := by omega
  obtain ⟨i0, hi0, hz0, hz1, hz2⟩ := info_parts u8_info5
  have hmk : ∀ W : World, (Instr.makeSlice 49 (.int .i64 64) (.int .i64 64)).run Tryd.prog W = .ok (.slice (some ⟨W.heap.size, 0, none⟩) 64 64) (W.alloc (.cells (List.replicate 64 (Value.int .u8 0)).toArray 5)) := fun W => by
    rw [← made64b]
    exact run_make_row 49 5 i0 (.int .u8 0) Tryd.underlying49 hi0 hz0 hz1 rfl .i64 .i64 64 (by rw [hz2]; decide) (by decide) W
  clear hi0 hz0 hz1 hz2
  have hAl : (blkL key.data.toList m).length = 64 := blkL_length _ _ (by have e : key.size = key.data.toList.length := by simp
                                                                         omega)
  have hA1 : ∀ (k : Nat) (h : k < key.size), (blkL key.data.toList m)[k]? = some (key[k] ^^^ m) := fun k h => by
    unfold blkL
    rw [List.getElem?_map, List.getElem?_append_left (by simpa using h)]
    have e : key.data.toList[k]? = some key[k] := by
      rw [Array.getElem?_toList, Array.getElem?_eq_getElem h]; rfl
    rw [e]; rfl
  have hA2 : ∀ k, key.size ≤ k → k < 64 → (blkL key.data.toList m)[k]? = some m := fun k h h64 => by
    unfold blkL
    have hl : key.data.toList.length = key.size := by simp
    rw [List.getElem?_map, List.getElem?_append_right (by omega), List.getElem?_replicate, if_pos (by omega)]
    show some (0 ^^^ m) = some m
    rw [UInt8.zero_xor]
  obtain ⟨A, hA⟩ : ∃ A, blkL key.data.toList m = A := ⟨_, rfl⟩
  rw [hA] at hAl hA1 hA2 ⊢
  have HA := Lib.hid (And.intro hAl (And.intro hA1 hA2))
  clear hAl hA1 hA2 hA
  go_enter Tryd.func19, Tryd.ntmps19
  go_wp2
  have r1 := Row.new w 5 (List.replicate 64 (Value.int .u8 0))
  have b1 := (Below.refl w.heap.size w).alloc (Nat.le_refl _) (.cells (List.replicate 64 (Value.int .u8 0)).toArray 5)
  clear hmk
  go_loopw [6] (fun i wr => ∃ k : Nat, k ≤ 64 ∧ i = .int .i64 k ∧ Row wr w.heap.size 5 (prow A k) ∧ Below w.heap.size w wr) (fun i _ => 64 - (intOf i).toNat)
  case atStart => exact ⟨0, Nat.zero_le _, rfl, r1, b1⟩
  case round =>
    obtain ⟨k, hk, rfl, h1, h2⟩ := hrel
    clear r1 b1
    by_cases hlt : k < 64
    · obtain ⟨v0, hc0⟩ : ∃ v, wr.cell? ⟨w.heap.size, k, none⟩ = some v := by
        rw [h1.cell]; exact ⟨_, List.getElem?_eq_getElem (by rw [prow_length A HA.out.1 hk]; exact hlt)⟩
      have hf0 := h1.frozen k
      have hkI2 : (k : Int) < 64 := by omega
      have hs1 := h1.set k (.int .u8 (m.toNat : Int))
      have hb1 := h2.setCell (p := ⟨w.heap.size, k, none⟩) (Nat.le_refl _) (.int .u8 (m.toNat : Int))
      by_cases hkk : k < key.size
      · obtain ⟨x, hx⟩ : ∃ x, key[k] = x := ⟨_, rfl⟩
        have hAx := HA.out.2.1 k hkk
        rw [hx] at hAx
        have hX := u8_xor_bits x m
        have hc1 : (wr.setCell ⟨w.heap.size, k, none⟩ (.int .u8 (m.toNat : Int))).cell? ⟨w.heap.size, k, none⟩ = some (.int .u8 (m.toNat : Int)) := by
          rw [hs1.cell, List.getElem?_set_self (by rw [prow_length A HA.out.1 hk]; exact hlt)]
        have hf1 := hs1.frozen k
        have hs2 := hs1.set k (.int .u8 ((x ^^^ m).toNat : Int))
        rw [List.set_set, prow_set A HA.out.1 hlt _ hAx] at hs2
        have hb2 := hb1.setCell (p := ⟨w.heap.size, k, none⟩) (Nat.le_refl _) (.int .u8 ((x ^^^ m).toNat : Int))
        have H := Lib.hid (And.intro hs2 hb2)
        have hkkI : (k : Int) < (key.size : Int) := by omega
        obtain ⟨z, hz⟩ : ∃ z, x ^^^ m = z := ⟨_, rfl⟩
        rw [hz] at hX H
        clear hs1 hb1 hs2 hb2 h1 h2 hAx hz
        go_wp2
        go_roundw
        case rel => exact ⟨k + 1, by omega, by go_num, H.out.1, H.out.2⟩
        case measure => simp [intOf]; omega
      · have hAx := HA.out.2.2 k (by omega) hlt
        rw [prow_set A HA.out.1 hlt _ hAx] at hs1
        have H := Lib.hid (And.intro hs1 hb1)
        have hkkI : (key.size : Int) ≤ (k : Int) := by omega
        clear hs1 hb1 h1 h2 hAx
        go_wp2
        go_roundw
        case rel => exact ⟨k + 1, by omega, by go_num, H.out.1, H.out.2⟩
        case measure => simp [intOf]; omega
    · have hk2 : k = 64 := by omega
      rw [hk2, prow_all A HA.out.1] at h1
      have hge : 64 ≤ k := by omega
      have hcv := conv_bytes (P := Tryd.prog) wr 49 9 5 Tryd.underlying49 Tryd.underlying5 Tryd.underlying9 w.heap.size 0 64 64 A HA.out.1 (fun i hi => by
        rw [Nat.zero_add, h1.cell])
      have H := Lib.hid h2
      clear hk2 hlt hk h1 h2
      go_wp2
      go_ret
      exact ⟨rfl, H.out⟩
end Go.Proofs.YtehoofddklbnaaaDoor

namespace Go.Proofs.YtehoofddklbnaaaDoor
open Go.RowKit
set_option linter.unusedVariables false

set_option maxRecDepth 20000 in
set_option maxHeartbeats 4000000 in
theorem refBlk_long (key : ByteArray) (m : UInt8) (hk1 : 64 < key.size) (hk2 : key.size ≤ 100000) (w : World) :
    Calls Tryd.prog 19 #[.string key, .int .u8 m.toNat] w fun e w' => e = .returned (.string ⟨(blkL (keyL key.data.toList) m).toArray⟩) ∧ Below w.heap.size w w' := by
  have hkI : (64 : Int) < (key.size : Int) := by omega
  have hkl : key.data.toList.length = key.size := by simp
  obtain ⟨kk, hkk⟩ : ∃ kk : ByteArray, (⟨(shaL key.data.toList).toArray⟩ : ByteArray) = kk := ⟨_, rfl⟩
  have HTX : Hid (∀ W : World, Calls Tryd.prog 18 #[.string key] W fun e w' => e = .returned (.string kk) ∧ Below W.heap.size W w') := Lib.hid fun W => by rw [← hkk]; exact refText_any key hk2 W
  have hkd : keyL key.data.toList = kk.data.toList := by unfold keyL; rw [if_pos (by omega), ← hkk]
  have hk : kk.size ≤ 64 := by
    have e : kk.size = kk.data.toList.length := by simp
    rw [e, ← hkd]
    unfold keyL
    rw [if_pos (by omega), shaL_length]
    omega
  rw [hkd]
  clear hkk hkd hkl
  obtain ⟨i0, hi0, hz0, hz1, hz2⟩ := info_parts u8_info5
  have hmk : ∀ W : World, (Instr.makeSlice 49 (.int .i64 64) (.int .i64 64)).run Tryd.prog W = .ok (.slice (some ⟨W.heap.size, 0, none⟩) 64 64) (W.alloc (.cells (List.replicate 64 (Value.int .u8 0)).toArray 5)) := fun W => by
    rw [← made64b]
    exact run_make_row 49 5 i0 (.int .u8 0) Tryd.underlying49 hi0 hz0 hz1 rfl .i64 .i64 64 (by rw [hz2]; decide) (by decide) W
  clear hi0 hz0 hz1 hz2
  have hkzl : kk.data.toList.length ≤ 64 := by
    have e : kk.size = kk.data.toList.length := by simp
    omega
  have hAl : (blkL kk.data.toList m).length = 64 := blkL_length _ _ hkzl
  have hA1 : ∀ (k : Nat) (h : k < kk.size), (blkL kk.data.toList m)[k]? = some (kk[k] ^^^ m) := fun k h => by
    unfold blkL
    rw [List.getElem?_map, List.getElem?_append_left (by simpa using h)]
    have e : kk.data.toList[k]? = some kk[k] := by
      rw [Array.getElem?_toList, Array.getElem?_eq_getElem h]; rfl
    rw [e]; rfl
  have hA2 : ∀ k, kk.size ≤ k → k < 64 → (blkL kk.data.toList m)[k]? = some m := fun k h h64 => by
    unfold blkL
    have hl : kk.data.toList.length = kk.size := by simp
    rw [List.getElem?_map, List.getElem?_append_right (by omega), List.getElem?_replicate, if_pos (by omega)]
    show some (0 ^^^ m) = some m
    rw [UInt8.zero_xor]
  obtain ⟨A, hA⟩ : ∃ A, blkL kk.data.toList m = A := ⟨_, rfl⟩
  rw [hA] at hAl hA1 hA2 ⊢
  have HA := Lib.hid (And.intro hAl (And.intro hA1 hA2))
  clear hAl hA1 hA2 hA
  go_enter Tryd.func19, Tryd.ntmps19
  go_wp2_with fail
  refine (HTX.out _).mono ?_
  rintro e w0 ⟨rfl, hb0⟩
  go_wp2
  have r1 := Row.new w0 5 (List.replicate 64 (Value.int .u8 0))
  have b1 := hb0.alloc hb0.size (.cells (List.replicate 64 (Value.int .u8 0)).toArray 5)
  have hsz0 := hb0.size
  clear hmk hb0
  go_loopw [6] (fun i wr => ∃ k : Nat, k ≤ 64 ∧ i = .int .i64 k ∧ Row wr w0.heap.size 5 (prow A k) ∧ Below w.heap.size w wr) (fun i _ => 64 - (intOf i).toNat)
  case atStart => exact ⟨0, Nat.zero_le _, rfl, r1, b1⟩
  case round =>
    obtain ⟨k, hk, rfl, h1, h2⟩ := hrel
    clear r1 b1
    by_cases hlt : k < 64
    · obtain ⟨v0, hc0⟩ : ∃ v, wr.cell? ⟨w0.heap.size, k, none⟩ = some v := by
        rw [h1.cell]; exact ⟨_, List.getElem?_eq_getElem (by rw [prow_length A HA.out.1 hk]; exact hlt)⟩
      have hf0 := h1.frozen k
      have hkI2 : (k : Int) < 64 := by omega
      have hs1 := h1.set k (.int .u8 (m.toNat : Int))
      have hb1 := h2.setCell (p := ⟨w0.heap.size, k, none⟩) hsz0 (.int .u8 (m.toNat : Int))
      by_cases hkk : k < kk.size
      · obtain ⟨x, hx⟩ : ∃ x, kk[k] = x := ⟨_, rfl⟩
        have hAx := HA.out.2.1 k hkk
        rw [hx] at hAx
        have hX := u8_xor_bits x m
        have hc1 : (wr.setCell ⟨w0.heap.size, k, none⟩ (.int .u8 (m.toNat : Int))).cell? ⟨w0.heap.size, k, none⟩ = some (.int .u8 (m.toNat : Int)) := by
          rw [hs1.cell, List.getElem?_set_self (by rw [prow_length A HA.out.1 hk]; exact hlt)]
        have hf1 := hs1.frozen k
        have hs2 := hs1.set k (.int .u8 ((x ^^^ m).toNat : Int))
        rw [List.set_set, prow_set A HA.out.1 hlt _ hAx] at hs2
        have hb2 := hb1.setCell (p := ⟨w0.heap.size, k, none⟩) hsz0 (.int .u8 ((x ^^^ m).toNat : Int))
        have H := Lib.hid (And.intro hs2 hb2)
        have hkkI : (k : Int) < (kk.size : Int) := by omega
        obtain ⟨z, hz⟩ : ∃ z, x ^^^ m = z := ⟨_, rfl⟩
        rw [hz] at hX H
        clear hs1 hb1 hs2 hb2 h1 h2 hAx hz
        go_wp2
        go_roundw
        case rel => exact ⟨k + 1, by omega, by go_num, H.out.1, H.out.2⟩
        case measure => simp [intOf]; omega
      · have hAx := HA.out.2.2 k (by omega) hlt
        rw [prow_set A HA.out.1 hlt _ hAx] at hs1
        have H := Lib.hid (And.intro hs1 hb1)
        have hkkI : (kk.size : Int) ≤ (k : Int) := by omega
        clear hs1 hb1 h1 h2 hAx
        go_wp2
        go_roundw
        case rel => exact ⟨k + 1, by omega, by go_num, H.out.1, H.out.2⟩
        case measure => simp [intOf]; omega
    · have hk2 : k = 64 := by omega
      rw [hk2, prow_all A HA.out.1] at h1
      have hge : 64 ≤ k := by omega
      have hcv := conv_bytes (P := Tryd.prog) wr 49 9 5 Tryd.underlying49 Tryd.underlying5 Tryd.underlying9 w0.heap.size 0 64 64 A HA.out.1 (fun i hi => by
        rw [Nat.zero_add, h1.cell])
      have H := Lib.hid h2
      clear hk2 hlt hk h1 h2
      go_wp2
      go_ret
      exact ⟨rfl, H.out⟩

theorem refBlk_all (key : ByteArray) (m : UInt8) (hk : key.size ≤ 100000) (w : World) :
    Calls Tryd.prog 19 #[.string key, .int .u8 m.toNat] w fun e w' => e = .returned (.string ⟨(blkL (keyL key.data.toList) m).toArray⟩) ∧ Below w.heap.size w w' := by
  by_cases h : 64 < key.size
  · exact refBlk_long key m h hk w
  · have hl : key.data.toList.length = key.size := by simp
    have e : keyL key.data.toList = key.data.toList := by unfold keyL; rw [if_neg (by omega)]
    rw [e]
    exact refBlk_any key m (by omega) w
end Go.Proofs.YtehoofddklbnaaaDoor

namespace Go.Proofs.YtehoofddklbnaaaDoor
open Go.RowKit
set_option linter.unusedVariables false

set_option maxRecDepth 20000 in
set_option maxHeartbeats 4000000 in
theorem refHm_any (key s : ByteArray) (hk : key.size ≤ 10000) (hs : s.size ≤ 10000) (w : World) :
    Calls Tryd.prog 6 #[.string key, .string s] w fun e w' => e = .returned (.string ⟨(hmacL key.data.toList s.data.toList).toArray⟩) ∧ Below w.heap.size w w' := by
  have hkL : (keyL key.data.toList).length ≤ 64 := by
    unfold keyL
    split
    · rw [shaL_length]; omega
    · omega
  obtain ⟨x0, hx0⟩ : ∃ x : ByteArray, (⟨(blkL (keyL key.data.toList) 54).toArray⟩ : ByteArray) = x := ⟨_, rfl⟩
  obtain ⟨x1, hx1⟩ : ∃ x : ByteArray, (⟨(blkL (keyL key.data.toList) 92).toArray⟩ : ByteArray) = x := ⟨_, rfl⟩
  have HP0 : Hid (∀ W : World, Calls Tryd.prog 19 #[.string key, .int .u8 54] W fun e w' => e = .returned (.string x0) ∧ Below W.heap.size W w') := Lib.hid fun W => by rw [← hx0]; exact refBlk_all key 54 (by omega) W
  have HP1 : Hid (∀ W : World, Calls Tryd.prog 19 #[.string key, .int .u8 92] W fun e w' => e = .returned (.string x1) ∧ Below W.heap.size W w') := Lib.hid fun W => by rw [← hx1]; exact refBlk_all key 92 (by omega) W
  have hd0 : x0.data.toList = blkL (keyL key.data.toList) 54 := by rw [← hx0]
  have hd1 : x1.data.toList = blkL (keyL key.data.toList) 92 := by rw [← hx1]
  have hz0 : x0.size = 64 := by
    have e : x0.size = x0.data.toList.length := by simp
    rw [e, hd0, blkL_length _ _ hkL]
  have hz1 : x1.size = 64 := by
    have e : x1.size = x1.data.toList.length := by simp
    rw [e, hd1, blkL_length _ _ hkL]
  obtain ⟨t0, ht0⟩ : ∃ t, x0 ++ s = t := ⟨_, rfl⟩
  have hts : t0.size ≤ 100000 := by rw [← ht0, ByteArray.size_append]; omega
  have ha0 : ∀ W : World, (Op.stringOp .add x0 s).run Tryd.prog W = .ok (.string t0) W := fun W => by rw [← ht0]; exact run_string_add_sum W x0 s (by omega)
  obtain ⟨y, hy⟩ : ∃ y : ByteArray, (⟨(shaL t0.data.toList).toArray⟩ : ByteArray) = y := ⟨_, rfl⟩
  have hyd : y.data.toList = shaL t0.data.toList := by rw [← hy]
  have hyz : y.size = 32 := by
    have e : y.size = y.data.toList.length := by simp
    rw [e, hyd, shaL_length]
  have HT0 : Hid (∀ W : World, Calls Tryd.prog 18 #[.string t0] W fun e w' => e = .returned (.string y) ∧ Below W.heap.size W w') := Lib.hid fun W => by rw [← hy]; exact refText_any t0 hts W
  obtain ⟨t1, ht1⟩ : ∃ t, x1 ++ y = t := ⟨_, rfl⟩
  have hts1 : t1.size ≤ 100000 := by rw [← ht1, ByteArray.size_append]; omega
  have ha1 : ∀ W : World, (Op.stringOp .add x1 y).run Tryd.prog W = .ok (.string t1) W := fun W => by rw [← ht1]; exact run_string_add_sum W x1 y (by omega)
  obtain ⟨r, hr⟩ : ∃ r : ByteArray, (⟨(shaL t1.data.toList).toArray⟩ : ByteArray) = r := ⟨_, rfl⟩
  have HT1 : Hid (∀ W : World, Calls Tryd.prog 18 #[.string t1] W fun e w' => e = .returned (.string r) ∧ Below W.heap.size W w') := Lib.hid fun W => by rw [← hr]; exact refText_any t1 hts1 W
  have hfin : (⟨(hmacL key.data.toList s.data.toList).toArray⟩ : ByteArray) = r := by
    rw [← hr, ← ht1]
    have e1 : (x1 ++ y).data.toList = x1.data.toList ++ y.data.toList := by simp
    rw [e1, hyd, ← ht0]
    have e0 : (x0 ++ s).data.toList = x0.data.toList ++ s.data.toList := by simp
    rw [e0, hd0, hd1, hmacL]
  rw [hfin]
  clear hkL hx0 hx1 hd0 hd1 hz0 hz1 ht0 hts hy hyd hyz ht1 hts1 hr hfin
  go_enter Tryd.func6, Tryd.ntmps6
  go_wp2_with fail
  refine (HP1.out _).mono ?_
  rintro e w1 ⟨rfl, hb1⟩
  go_wp2_with fail
  refine (HP0.out _).mono ?_
  rintro e w2 ⟨rfl, hb2⟩
  have hb2 := hb1.trans (hb2.mono hb1.size)
  go_wp2_with fail
  refine (HT0.out _).mono ?_
  rintro e w3 ⟨rfl, hb3⟩
  have hb3 := hb2.trans (hb3.mono hb2.size)
  go_wp2_with fail
  refine (HT1.out _).mono ?_
  rintro e w4 ⟨rfl, hb4⟩
  have hb4 := hb3.trans (hb4.mono hb3.size)
  go_wp2_with fail
  go_ret
  exact ⟨rfl, hb4⟩
end Go.Proofs.YtehoofddklbnaaaDoor

namespace Go.Proofs.YtehoofddklbnaaaDoor
open Go.RowKit
set_option linter.unusedVariables false

set_option maxRecDepth 4000 in
set_option maxHeartbeats 1000000 in
theorem power_any (k : Nat) (hk : k ≤ 9) (w : World) :
    Calls Tryd.prog 25 #[.int .i64 (k : Nat)] w fun e w' => e = .returned (.int .u64 ((10 ^ k : Nat) : Int)) ∧ w' = w := by
  obtain ⟨T, hT⟩ : ∃ T : Nat, 10 ^ k = T := ⟨_, rfl⟩
  rw [hT]
  have HT := Lib.hid hT
  clear hT
  go_enter Tryd.func25, Tryd.ntmps25
  go_wp2
  go_loop [3, 5] (fun d i => ∃ j p : Nat, j ≤ k ∧ i = .int .i64 j ∧ d = .int .u64 (p : Nat) ∧ Hid (p = 10 ^ j)) (fun _ i => k - (intOf i).toNat)
  case atStart => exact ⟨0, 1, Nat.zero_le _, rfl, rfl, Lib.hid rfl⟩
  case round =>
    obtain ⟨j, p, hj, rfl, rfl, HP⟩ := hrel
    by_cases hlt : j < k
    · have hp : p * 10 ≤ 1000000000 := by
        have h : 10 ^ (j + 1) ≤ 10 ^ 9 := Nat.pow_le_pow_right (by omega) (by omega)
        rw [Nat.pow_succ, ← HP.out] at h
        exact h
      obtain ⟨q, hq⟩ : ∃ q, p * 10 = q := ⟨_, rfl⟩
      have hqi : (p : Int) * 10 = (q : Int) := by omega
      have HQ : Hid (q = 10 ^ (j + 1)) := Lib.hid (by rw [Nat.pow_succ, ← HP.out, hq])
      have hql : q ≤ 1000000000 := by omega
      clear hq hp
      go_wp2
      go_round
      case rel => exact ⟨j + 1, q, by omega, by go_num, rfl, HQ⟩
      case measure => simp [intOf]; omega
    · have HE : Hid (p = T) := Lib.hid (by rw [HP.out, ← HT.out]; congr 1; omega)
      have hge : (k : Int) ≤ (j : Int) := by omega
      go_wp2
      go_ret
      rw [← HE.out]
      exact ⟨rfl, rfl⟩
end Go.Proofs.YtehoofddklbnaaaDoor

namespace Go.Proofs.YtehoofddklbnaaaDoor
open Go Go.Shelf Go.RowKit
def Tryd.laysM284_ren : Go.Shelf.Ren := ⟨fun | 284 => 67 | 129 => 81 | 317 => 80 | 318 => 82 | n => n, fun | 53 => 28 | 3 => 3 | 212 => 105 | 0 => 0 | 4 => 4 | 46 => 54 | 5 => 5 | 9 => 9 | n => n, fun | 17 => 1 | n => n⟩
theorem Tryd.laysM284 : Go.Proofs.LaysM.n284 Tryd.prog Tryd.laysM284_ren := {
  mixed := by kernel_rfl
  f129 := Tryd.func81.trans (congrArg some (by kernel_rfl))
  f284 := Tryd.func67.trans (congrArg some (by kernel_rfl))
  f317 := Tryd.func80.trans (congrArg some (by kernel_rfl))
  f318 := Tryd.func82.trans (congrArg some (by kernel_rfl))
  t0 := Tryd.underlying0
  a0 := Tryd.isAgg0
  z0 := Tryd.sizeOf0
  v0 := Tryd.zeroValue0
  t3 := Tryd.underlying3
  a3 := Tryd.isAgg3
  z3 := Tryd.sizeOf3
  v3 := Tryd.zeroValue3
  t4 := Tryd.underlying4
  a4 := Tryd.isAgg4
  z4 := Tryd.sizeOf4
  v4 := Tryd.zeroValue4
  t5 := Tryd.underlying5
  a5 := Tryd.isAgg5
  z5 := Tryd.sizeOf5
  v5 := Tryd.zeroValue5
  t9 := Tryd.underlying9
  a9 := Tryd.isAgg9
  z9 := Tryd.sizeOf9
  v9 := Tryd.zeroValue9
  t46 := Tryd.underlying54
  a46 := Tryd.isAgg54
  z46 := Tryd.sizeOf54
  v46 := Tryd.zeroValue54
  t53 := Tryd.underlying28
  a53 := Tryd.isAgg28
  z53 := Tryd.sizeOf28
  v53 := Tryd.zeroValue28
  t212 := Tryd.underlying105
  a212 := Tryd.isAgg105
  z212 := Tryd.sizeOf105
  v212 := Tryd.zeroValue105
  g17 := by kernel_rfl
  i0 := by kernel_rfl
  i3 := by kernel_rfl
  i4 := by kernel_rfl
  i5 := by kernel_rfl
  i9 := by kernel_rfl
  i46 := by kernel_rfl
  i53 := by kernel_rfl
  i212 := by kernel_rfl
  m17 := by kernel_rfl }
open Go.Lib in
theorem Tryd.internal_strconv_numDigits (u : Nat) (h1 : 1 ≤ u) (h2 : u < 18446744073709551616) (w : World) (htab : Lib.TabIs Tryd.prog w "internal/strconv.uint64pow10" .u64 Lib.pow10Tab) :
    Calls Tryd.prog 67 #[.int .u64 u] w fun e w' => e = .returned (.int .i64 (Lib.nDigits u)) ∧ w' = w := Any.internal_strconv_numDigits Tryd.laysM284 u h1 h2 w htab
def Tryd.lays285_ren : Go.Shelf.Ren := ⟨fun | 285 => 68 | n => n, fun | 37 => 49 | 53 => 28 | 3 => 3 | 4 => 4 | 51 => 60 | 9 => 9 | 5 => 5 | 0 => 0 | n => n, fun | n => n⟩
theorem Tryd.lays285 : Go.Proofs.Lays.n285 Tryd.prog Tryd.lays285_ren := {
  mixed := by kernel_rfl
  f285 := Tryd.func68.trans (congrArg some (by kernel_rfl))
  t0 := Tryd.underlying0
  a0 := Tryd.isAgg0
  z0 := Tryd.sizeOf0
  v0 := Tryd.zeroValue0
  t3 := Tryd.underlying3
  a3 := Tryd.isAgg3
  z3 := Tryd.sizeOf3
  v3 := Tryd.zeroValue3
  t4 := Tryd.underlying4
  a4 := Tryd.isAgg4
  z4 := Tryd.sizeOf4
  v4 := Tryd.zeroValue4
  t5 := Tryd.underlying5
  a5 := Tryd.isAgg5
  z5 := Tryd.sizeOf5
  v5 := Tryd.zeroValue5
  t9 := Tryd.underlying9
  a9 := Tryd.isAgg9
  z9 := Tryd.sizeOf9
  v9 := Tryd.zeroValue9
  t37 := Tryd.underlying49
  a37 := Tryd.isAgg49
  z37 := Tryd.sizeOf49
  v37 := Tryd.zeroValue49
  t51 := Tryd.underlying60
  a51 := Tryd.isAgg60
  z51 := Tryd.sizeOf60
  v51 := Tryd.zeroValue60
  t53 := Tryd.underlying28
  a53 := Tryd.isAgg28
  z53 := Tryd.sizeOf28
  v53 := Tryd.zeroValue28 }
open Go.RowKit Go.Sort Go.Lib in
theorem Tryd.internal_strconv_formatBase10 (blk off cap : Nat) (u : Nat) (d : Array UInt8) (w : World) (hH : Holds (fun (b : UInt8) => Value.int .u8 (b.toNat : Int)) w blk off d) (hu : u < 10 ^ d.size) (hu64 : u < 18446744073709551616) (hsz : d.size < 4611686018427387904) :
    Calls Tryd.prog 68 #[.slice (some ⟨blk, off, none⟩) d.size cap, .int .u64 u] w fun e w' =>
      e = .returned (.tuple #[]) ∧ ∃ (n v' : Nat) (dk : Array UInt8), w' = (putRow (fun (b : UInt8) => Value.int .u8 (b.toNat : Int)) w blk off dk).drewN n ∧ FmtInv d.size u 0 v' dk := Any.internal_strconv_formatBase10 Tryd.lays285 blk off cap u d w hH hu hu64 hsz
end Go.Proofs.YtehoofddklbnaaaDoor

namespace Go.Proofs.YtehoofddklbnaaaDoor
open Go Go.Shelf Go.RowKit Go.Sort
set_option linter.unusedVariables false

/-- The library's table of powers of ten. -/
def T10 (w : World) : Prop := Lib.TabIs Tryd.prog w "internal/strconv.uint64pow10" .u64 Lib.pow10Tab
theorem T10.below {w w' : World} (h : T10 w) (hb : Below w.heap.size w w') : T10 w' := by
  unfold T10 Lib.TabIs World.var? at *
  rw [show Tryd.prog.globalNamed "internal/strconv.uint64pow10" = some 1 by kernel_rfl] at *
  simp only [Option.bind_some] at *
  have hlt : 1 < w.heap.size := by
    apply Classical.byContradiction
    intro hn
    rw [Array.getElem?_eq_none (by omega)] at h
    cases h
  rw [hb.block _ hlt]
  exact h

theorem arr24 : (Tryd.prog.arrayLen 87) = 24 := by simp [Program.arrayLen, Tryd.underlying87]

set_option maxRecDepth 100000 in
set_option maxHeartbeats 2000000 in
theorem fmtU_any (u : Nat) (hu64 : u < 18446744073709551616) (w : World) (hT : T10 w) :
    Calls Tryd.prog 50 #[.int .u64 u, .int .i64 10] w fun e w' => e = .returned (.string ⟨(Lib.decDigits u).toArray⟩) ∧ Below w.heap.size w w' := by
  by_cases hs : u < 100
  · have hI : (u : Int) < 100 := by omega
    go_enter Tryd.func50, Tryd.ntmps50
    go_wp2_with (go_at_call 66; refine (Tryd.internal_strconv_small u hs _).mono ?_; rintro e w' ⟨rfl, rfl⟩)
    go_ret
    exact ⟨rfl, Below.refl _ _⟩
  · have hI : ¬ (u : Int) < 100 := by omega
    have hu1 : 1 ≤ u := by omega
    have hnd20 : Lib.nDigits u ≤ 20 := by have := Lib.numDigits_eq u hu1 hu64; split at this <;> omega
    have hb3 : Lib.nDigits u ≤ 23 := by omega
    have hsl1 : ∀ W, (Instr.sliceAt 87 (.pointer (some ⟨w.heap.size, 0, none⟩)) none (some (.int .i64 (Lib.nDigits u : Int))) none).run Tryd.prog W = .ok (.slice (some ⟨w.heap.size, 0, none⟩) (Lib.nDigits u) 24) W := fun W => by
      rw [run_sliceAt_array_h W 87 ⟨w.heap.size, 0, none⟩ (by simp [Program.arrayLen, Program.elem, Tryd.underlying87]) .i64 (Lib.nDigits u : Int) (by omega) (by rw [arr24]; omega)]
      go_simp
    have hH0 := Lib.holds_zero0 w 87 (Lib.nDigits u) (by omega)
    have hfmt := Tryd.internal_strconv_formatBase10 w.heap.size 0 24 u (Array.replicate (Lib.nDigits u) 0) (w.alloc (.cells Lib.zeros24 87)) hH0 (by rw [Array.size_replicate]; exact Lib.lt_pow_nDigits u) hu64 (by rw [Array.size_replicate]; omega)
    rw [Array.size_replicate] at hfmt
    have HH0 := Lib.hid hH0
    clear hH0
    have HT := Lib.hid (hT.below ((Below.refl w.heap.size w).alloc (Nat.le_refl _) (.cells Lib.zeros24 87)))
    clear hT
    go_enter Tryd.func50, Tryd.ntmps50
    go_wp2_with (first
      | (go_at_call 67; refine (Tryd.internal_strconv_numDigits u hu1 hu64 _ HT.out).mono ?_; rintro e w' ⟨rfl, rfl⟩))
    refine hfmt.mono ?_
    rintro e w' ⟨rfl, k, v', dk, rfl, hF⟩
    have hcv : (convert 49 9 (.slice (some ⟨w.heap.size, 0, none⟩) (Lib.nDigits u) 24)).run Tryd.prog ((putRow (fun (b : UInt8) => Value.int .u8 (b.toNat : Int)) (w.alloc (.cells Lib.zeros24 87)) w.heap.size 0 dk).drewN k) = .ok (.string ⟨(Lib.decDigits u).toArray⟩) ((putRow (fun (b : UInt8) => Value.int .u8 (b.toNat : Int)) (w.alloc (.cells Lib.zeros24 87)) w.heap.size 0 dk).drewN k) := by
      have h := run_convert_bytes_back (P := Tryd.prog) ((putRow (fun (b : UInt8) => Value.int .u8 (b.toNat : Int)) (w.alloc (.cells Lib.zeros24 87)) w.heap.size 0 dk).drewN k) 49 9 5 ⟨w.heap.size, 0, none⟩ 24 (Lib.decDigits u) Tryd.underlying49 Tryd.underlying5 Tryd.underlying9 (fun j hj => by
        rw [Lib.row_is_numeral hF j hj, Lib.add_plain, World.cell?_drewN]
        exact cell?_putRow (fun (b : UInt8) => Value.int .u8 (b.toNat : Int)) _ w.heap.size 0 _ dk HH0.out (by rw [hF.size, Array.size_replicate]) j (by rw [hF.size]; rw [Lib.decDigits_length] at hj; exact hj))
      rw [Lib.decDigits_length] at h
      exact h
    obtain ⟨os, eo⟩ := Lib.fin_at w (.cells Lib.zeros24 87) dk k 0
    have hbel : Below w.heap.size w ((putRow (fun (b : UInt8) => Value.int .u8 (b.toNat : Int)) (w.alloc (.cells Lib.zeros24 87)) w.heap.size 0 dk).drewN k) := by
      rw [eo]; exact Lib.below_grow _ _ (Nat.le_refl _) _ _
    have HB := Lib.hid hbel
    clear hbel eo
    go_wp2
    go_ret
    exact ⟨rfl, HB.out⟩

set_option maxRecDepth 20000 in
theorem fmt_any (u : Nat) (hu : u < 18446744073709551616) (w : World) (hT : T10 w) :
    Calls Tryd.prog 37 #[.int .u64 u, .int .i64 10] w fun e w' => e = .returned (.string ⟨(Lib.decDigits u).toArray⟩) ∧ Below w.heap.size w w' := by
  have HT := Lib.hid hT
  clear hT
  go_enter Tryd.func37, Tryd.ntmps37
  go_wp2_with (go_at_call 50; refine (fmtU_any u hu _ HT.out).mono ?_; rintro e w' ⟨rfl, hb⟩)
  go_ret
  exact ⟨rfl, hb⟩
end Go.Proofs.YtehoofddklbnaaaDoor

namespace Go.Proofs.YtehoofddklbnaaaDoor
open Go.RowKit
set_option linter.unusedVariables false

/-- The digits, noughts ahead of them, at most 40. -/
def textW (u width : Nat) : Nat := min (max width (Lib.nDigits u)) 40
def textL (u width : Nat) : List UInt8 := List.replicate (textW u width - Lib.nDigits u) 48 ++ Lib.decDigits u
theorem textL_length (u width : Nat) (hu : u < 18446744073709551616) : (textL u width).length = textW u width := by
  have := Lib.nDigits_le20 u hu
  unfold textL textW
  rw [List.length_append, List.length_replicate, Lib.decDigits_length]
  omega

theorem textW_zero (u width : Nat) (hu : u < 18446744073709551616) : Lib.nDigits u ≤ textW u width := by
  have := Lib.nDigits_le20 u hu
  unfold textW
  omega

set_option maxRecDepth 20000 in
set_option maxHeartbeats 1000000 in
theorem Text_dig (u width : Nat) (hu : u < 18446744073709551616) (hw : width ≤ 1000000) (w : World) (hT : T10 w) :
    Calls Tryd.prog 24 #[.int .u64 u, .int .i64 width] w fun e w' => e = .returned (.string ⟨(textL u width).toArray⟩) ∧ Below w.heap.size w w' := by
  have hn20 := Lib.nDigits_le20 u hu
  have hdl := Lib.decDigits_length u
  have htl := textL_length u width hu
  have hle := textW_zero u width hu
  have htw : textW u width = min (max width (Lib.nDigits u)) 40 := rfl
  obtain ⟨D, hD⟩ : ∃ D : ByteArray, (⟨(Lib.decDigits u).toArray⟩ : ByteArray) = D := ⟨_, rfl⟩
  have hDs : D.size = Lib.nDigits u := by rw [← hD]; show (Lib.decDigits u).toArray.size = _; rw [List.size_toArray, hdl]
  have HF := Lib.hid (fun W h => fmt_any u hu W h)
  rw [hD] at HF
  obtain ⟨nd, hnd⟩ : ∃ nd, Lib.nDigits u = nd := ⟨_, rfl⟩
  rw [hnd] at hn20 hDs hle htw
  obtain ⟨tw, htw2⟩ : ∃ tw, textW u width = tw := ⟨_, rfl⟩
  rw [htw2] at hle htw htl
  have htw40 : tw ≤ 40 := by omega
  have hmm : min (max (width : Int) (D.size : Int)) 40 = (tw : Int) := by omega
  obtain ⟨mx, hmx0⟩ : ∃ mx : Int, max (width : Int) (D.size : Int) = mx := ⟨_, rfl⟩
  rw [hmx0] at hmm
  have hMax : ∀ (W : World) (ts : Array TypeId) (t : TypeId), (Builtin.max_ ts t #[.int .i64 (width : Int), .int .i64 (D.size : Int)]).run Tryd.prog W = .ok (.int .i64 mx) W := fun W ts t => by
    rw [← hmx0]
    have e : ∀ x y : Int, (if x < y then y else x) = max x y := by intro x y; split <;> omega
    simp [Builtin.max_, Builtin.max2]
    split <;> omega
  have hMin : ∀ (W : World) (ts : Array TypeId) (t : TypeId), (Builtin.min_ ts t #[.int .i64 mx, .int .i64 40]).run Tryd.prog W = .ok (.int .i64 tw) W := fun W ts t => by
    rw [← hmm]
    have e : ∀ x y : Int, (if y < x then y else x) = min x y := by intro x y; split <;> omega
    simp [Builtin.min_, Builtin.min2, e]
    try omega
  obtain ⟨R, hR⟩ : ∃ R : ByteArray, (⟨(List.replicate (tw - nd) (48 : UInt8)).toArray⟩ : ByteArray) = R := ⟨_, rfl⟩
  have hRs : R.size = tw - nd := by rw [← hR]; show (List.replicate (tw - nd) (48 : UInt8)).toArray.size = _; simp
  obtain ⟨z, hz⟩ : ∃ z : Int, (tw : Int) - (D.size : Int) = z := ⟨_, rfl⟩
  have hzN : z = ((tw - nd : Nat) : Int) := by omega
  have HR : Hid (∀ W : World, Calls Tryd.prog 38 #[.string ⟨#[48]⟩, .int .i64 z] W fun e w' => e = .returned (.string R) ∧ Below W.heap.size W w') := Lib.hid fun W => by
    rw [hzN]
    have h := Tryd.strings_Repeat ⟨#[48]⟩ (tw - nd) W (by omega) (by show 1 * (tw - nd) ≤ _; omega)
    have e := Lib.repeatL_replicate 48 1 (tw - nd)
    rw [Nat.mul_one] at e
    rw [show Lib.repeatL (ByteArray.mk #[48]).data.toList (tw - nd) = List.replicate (tw - nd) 48 from e, hR] at h
    exact h
  obtain ⟨X, hX⟩ : ∃ X : ByteArray, (⟨(textL u width).toArray⟩ : ByteArray) = X := ⟨_, rfl⟩
  have hadd : ∀ W : World, (Op.stringOp .add R D).run Tryd.prog W = .ok (.string X) W := fun W => by
    rw [run_string_add_sum W R D (by omega)]
    congr 2
    rw [← hX]
    apply ByteArray.ext
    apply Array.ext'
    rw [ByteArray.data_append, Array.toList_append, ← hR, ← hD]
    unfold textL
    rw [htw2, hnd]
  rw [hX]
  have HT := Lib.hid hT
  have HZ := Lib.hid hz
  have hsub : 0 ≤ (tw : Int) - (D.size : Int) := by omega
  have htwI : (tw : Int) ≤ 40 := by omega
  have hDI : (D.size : Int) ≤ 20 := by omega
  clear hT hz hzN hX hR hRs hmx0 hmm htw2 htw hnd htl hdl hD hDs hle hn20 htw40
  go_enter Tryd.func24, Tryd.ntmps24
  go_wp2_with fail
  refine (HF.out _ HT.out).mono ?_
  rintro e w1 ⟨rfl, hb1⟩
  go_wp2_with fail
  rw [HZ.out]
  refine (HR.out _).mono ?_
  rintro e w2 ⟨rfl, hb2⟩
  go_wp2_with fail
  go_ret
  exact ⟨rfl, hb1.trans (hb2.mono hb1.size)⟩

theorem decDigits_cons (m : Nat) (out : List UInt8) : (if m < 10 then [UInt8.ofNat (48 + m)] ++ out else Lib.decDigits (m / 10) ++ ([UInt8.ofNat (48 + m % 10)] ++ out)) = Lib.decDigits m ++ out := by
  rw [Lib.decDigits.eq_1 m]
  by_cases h : m < 10
  · rw [if_pos h, dif_pos h]
  · rw [if_neg h, dif_neg h, List.append_assoc]

set_option maxRecDepth 4000 in
set_option maxHeartbeats 1000000 in
/-- The document's digits. -/
theorem refDec_any (u : Nat) (hu : u < 18446744073709551616) (w : World) :
    Calls Tryd.prog 39 #[.int .u64 u] w fun e w' => e = .returned (.string ⟨(Lib.decDigits u).toArray⟩) ∧ Below w.heap.size w w' := by
  have hdl := Lib.decDigits_length u
  have hn20 := Lib.nDigits_le20 u hu
  obtain ⟨L, hL⟩ : ∃ L, Lib.decDigits u = L := ⟨_, rfl⟩
  have hLl : L.length ≤ 20 := by rw [← hL]; omega
  rw [hL]
  have HL := Lib.hid hL
  clear hL hdl hn20
  go_enter Tryd.func39, Tryd.ntmps39
  go_wp2
  go_loopw [0, 3] (fun t s wr => ∃ (m : Nat) (out : List UInt8), m < 18446744073709551616 ∧ t = .int .u64 m ∧ s = .string ⟨out.toArray⟩ ∧ Hid (Lib.decDigits m ++ out = L) ∧ Below w.heap.size w wr)
      (fun t _ _ => (intOf t).toNat)
  case atStart => exact ⟨u, [], hu, rfl, rfl, Lib.hid (by rw [List.append_nil, HL.out]), Below.refl _ _⟩
  case round =>
    obtain ⟨m, out, hm, rfl, rfl, HO, hb⟩ := hrel
    have hol : out.length + 1 ≤ 20 := by
      have h := congrArg List.length HO.out
      rw [List.length_append, Lib.decDigits_length] at h
      have := Lib.nDigits_pos m
      omega
    obtain ⟨d, hd⟩ : ∃ d : Nat, m % 10 = d := ⟨_, rfl⟩
    have hd10 : d < 10 := by omega
    have hdI : (m : Int) % 10 = (d : Int) := by omega
    have hcv := conv_one (P := Tryd.prog) wr 49 9 5 Tryd.underlying49 Tryd.underlying5 Tryd.underlying9 (48 + (d : Int)) (by omega) (by omega) _ rfl
    have hwr : IntKind.u8.wrap (48 + (d : Int)) = 48 + (d : Int) := by rw [IntKind.wrap_u8]; omega
    have hd2 : (d : Int) < 10 := by omega
    have hd0 : 0 ≤ (d : Int) := by omega
    have hcat : ∀ (X : ByteArray), X = ⟨#[48 + UInt8.ofNat d]⟩ ++ ⟨out.toArray⟩ → X = ⟨([UInt8.ofNat (48 + d)] ++ out).toArray⟩ := fun X h => by
      rw [h]
      apply ByteArray.ext
      rw [ByteArray.data_append]
      apply Array.ext'
      simp
    have hstep := decDigits_cons m out
    rw [hd, HO.out] at hstep
    have HC := Lib.hid hcat
    have HSt := Lib.hid hstep
    have HB := Lib.hid (hb.alloc hb.size (.cells #[.int .u8 (48 + (d : Int))] 5))
    clear hcat hstep hb
    by_cases hm10 : m < 10
    · have hq : ((m : Int) / 10 == 0) = true := by rw [beq_iff_eq]; omega
      have HDM : Hid (d = m) := Lib.hid (by omega)
      clear hd hm10
      go_wp2
      go_ret
      refine ⟨?_, HB.out⟩
      have h := HSt.out
      rw [if_pos (by have := HDM.out; omega)] at h
      rw [← h]
      show Ending.returned (Value.string _) = _
      rw [HC.out _ rfl, HDM.out]
    · have hq : ((m : Int) / 10 == 0) = false := by rw [beq_eq_false_iff_ne]; omega
      go_wp2
      refine ⟨⟨m / 10, [UInt8.ofNat (48 + d)] ++ out, by omega, by simp, by rw [HC.out _ rfl], Lib.hid ?_, HB.out⟩, by simp [intOf]; omega⟩
      have h := HSt.out
      rwa [if_neg hm10] at h

theorem textL_more (u width k : Nat) (h : Lib.nDigits u + k < width) (h40 : Lib.nDigits u + k < 40) : Lib.nDigits u + (k + 1) ≤ textW u width := by unfold textW; omega

set_option maxRecDepth 4000 in
set_option maxHeartbeats 1000000 in
/-- The document's text of a width. -/
theorem refText3_any (u width : Nat) (hu : u < 18446744073709551616) (hw : width ≤ 1000000) (w : World) :
    Calls Tryd.prog 29 #[.int .u64 u, .int .i64 width] w fun e w' => e = .returned (.string ⟨(textL u width).toArray⟩) ∧ Below w.heap.size w w' := by
  have hdl := Lib.decDigits_length u
  have hn20 := Lib.nDigits_le20 u hu
  obtain ⟨n, hn⟩ : ∃ n, Lib.nDigits u = n := ⟨_, rfl⟩
  obtain ⟨L, hL⟩ : ∃ L, Lib.decDigits u = L := ⟨_, rfl⟩
  have hLl : L.length = n := by rw [← hL, hdl, hn]
  have htx : textL u width = List.replicate (min (max width n) 40 - n) 48 ++ L := by unfold textL textW; rw [hn, hL]
  rw [htx]
  have HD := Lib.hid (fun W => refDec_any u hu W)
  rw [hL] at HD
  rw [hn] at hn20
  have HLl := Lib.hid hLl
  clear hdl hn hL htx hLl
  go_enter Tryd.func29, Tryd.ntmps29
  go_wp2_with fail
  refine (HD.out _).mono ?_
  rintro e w1 ⟨rfl, hb1⟩
  go_wp2_with fail
  go_loop [5] (fun s => ∃ (k : Nat) (X : ByteArray), s = .string X ∧ Hid (X = ⟨(List.replicate k 48 ++ L).toArray⟩ ∧ k ≤ min (max width n) 40 - n)) (fun s => match s with | .string X => 40 - X.size | _ => 0)
  case atStart => exact ⟨0, _, rfl, Lib.hid ⟨by simp, Nat.zero_le _⟩⟩
  case round =>
    obtain ⟨k, X, rfl, HX⟩ := hrel
    have hXs : X.size = k + n := by
      rw [HX.out.1]
      show (List.replicate k 48 ++ L).toArray.size = _
      simp [HLl.out]
    have hk := HX.out.2
    by_cases hlt : k + n < width ∧ k + n < 40
    · have h1 : (X.size : Int) < (width : Int) := by omega
      have h2 : (X.size : Int) < 40 := by omega
      obtain ⟨Y, hY⟩ : ∃ Y : ByteArray, (⟨#[48]⟩ : ByteArray) ++ X = Y := ⟨_, rfl⟩
      have hYs : Y.size = X.size + 1 := by rw [← hY, ByteArray.size_append]; show 1 + X.size = _; omega
      have hadd : ∀ W : World, (Op.stringOp .add ⟨#[48]⟩ X).run Tryd.prog W = .ok (.string Y) W := fun W => by
        rw [run_string_add_sum W _ X (by show 1 + X.size ≤ _; omega), hY]
      have HY : Hid (Y = ⟨(List.replicate (k + 1) 48 ++ L).toArray⟩ ∧ k + 1 ≤ min (max width n) 40 - n) := Lib.hid ⟨by
        rw [← hY, HX.out.1]
        apply ByteArray.ext
        rw [ByteArray.data_append]
        apply Array.ext'
        simp [List.replicate_succ], by omega⟩
      have HYs := Lib.hid hYs
      clear hY hYs hXs hk
      go_wp2
      go_round
      case rel => exact ⟨k + 1, Y, rfl, HY⟩
      case measure => show 40 - Y.size < 40 - X.size; rw [HYs.out]; omega
    · have hke : k = min (max width n) 40 - n := by omega
      by_cases h1 : k + n < width
      · have h1I : (X.size : Int) < (width : Int) := by omega
        have h2I : ¬ (X.size : Int) < 40 := by omega
        have HX2 := Lib.hid HX.out.1
        have HKE := Lib.hid hke
        clear hXs hk hke HX
        go_wp2
        go_ret
        refine ⟨?_, hb1⟩
        rw [HX2.out, HKE.out]
        rfl
      · have h1I : ¬ (X.size : Int) < (width : Int) := by omega
        have HX2 := Lib.hid HX.out.1
        have HKE := Lib.hid hke
        clear hXs hk hke HX
        go_wp2
        go_ret
        refine ⟨?_, hb1⟩
        rw [HX2.out, HKE.out]
        rfl
end Go.Proofs.YtehoofddklbnaaaDoor

namespace Go.Proofs.YtehoofddklbnaaaDoor
open Go.RowKit
set_option linter.unusedVariables false

/-- Where the four bytes stand; their number; the digits. -/
def truncAt (l : List UInt8) : Nat := (l.getD (l.length - 1) 0).toNat % 16
def truncN (l : List UInt8) : Nat := getL ((l.drop (truncAt l)).take 4) % 2147483648
def truncL (l : List UInt8) (width : Nat) : List UInt8 := textL (truncN l % 10 ^ width) width

set_option maxRecDepth 20000 in
set_option maxHeartbeats 1000000 in
theorem Trunc_arg (s : ByteArray) (width : Int) (hw : width < 1 ∨ 9 < width) (w : World) :
    Calls Tryd.prog 10 #[.string s, .int .i64 width] w fun e w' => e = .returned (.tuple #[.string ⟨#[]⟩, .int .i64 2]) ∧ w = w' := by
  rcases hw with h | h
  · go_enter Tryd.func10, Tryd.ntmps10
    go_wp2
    go_ret2
    exact ⟨rfl, rfl⟩
  · have h' : ¬ width < 1 := by omega
    go_enter Tryd.func10, Tryd.ntmps10
    go_wp2
    go_ret2
    exact ⟨rfl, rfl⟩

set_option maxRecDepth 20000 in
set_option maxHeartbeats 1000000 in
theorem Trunc_short (s : ByteArray) (width : Int) (h1 : 1 ≤ width) (h9 : width ≤ 9) (hs : s.size < 20) (w : World) :
    Calls Tryd.prog 10 #[.string s, .int .i64 width] w fun e w' => e = .returned (.tuple #[.string ⟨#[]⟩, .int .i64 3]) ∧ w = w' := by
  have hsI : (s.size : Int) < 20 := by omega
  go_enter Tryd.func10, Tryd.ntmps10
  go_wp2
  go_ret2
  exact ⟨rfl, rfl⟩

theorem truncN_lt (l : List UInt8) : truncN l < 2147483648 := by unfold truncN; exact Nat.mod_lt _ (by omega)
theorem four_of (s : ByteArray) (hs : 20 ≤ s.size) : s[s.size - 1]'(by omega) = s.data.toList.getD (s.data.toList.length - 1) 0 := by
  have hl : s.data.toList.length = s.size := by simp
  rw [hl, List.getD_eq_getElem?_getD, List.getElem?_eq_getElem (by omega)]
  rfl
theorem four_len (s : ByteArray) (hs : 20 ≤ s.size) (a : Nat) (ha : a < 16) : (s.extract a (a + 4)).size = 4 ∧ (s.extract a (a + 4)).data.toList = (s.data.toList.drop a).take 4 := by
  refine ⟨by rw [ByteArray.size_extract]; omega, ?_⟩
  rw [Lib.extract_data, Nat.add_sub_cancel_left]

set_option maxRecDepth 20000 in
set_option maxHeartbeats 1000000 in
theorem Trunc_ok (s : ByteArray) (width : Nat) (h1 : 1 ≤ width) (h9 : width ≤ 9) (hs : 20 ≤ s.size) (hs2 : s.size ≤ 100000) (w : World) (hT : T10 w) :
    Calls Tryd.prog 10 #[.string s, .int .i64 width] w fun e w' => e = .returned (.tuple #[.string ⟨(truncL s.data.toList width).toArray⟩, .int .i64 0]) ∧ Below w.heap.size w w' := by
  have hsI : 20 ≤ (s.size : Int) := by omega
  have hsI2 : (s.size : Int) ≤ 100000 := by omega
  have h1I : 1 ≤ (width : Int) := by omega
  have h9I : (width : Int) ≤ 9 := by omega
  have hf := four_of s hs
  obtain ⟨c, hc⟩ : ∃ c, s[s.size - 1]'(by omega) = c := ⟨_, rfl⟩
  obtain ⟨h4, h4d⟩ := four_len s hs (c.toNat % 16) (Nat.mod_lt _ (by omega))
  obtain ⟨q, hq⟩ : ∃ q, s.extract (c.toNat % 16) (c.toNat % 16 + 4) = q := ⟨_, rfl⟩
  rw [hq] at h4 h4d
  have hta : truncAt s.data.toList = c.toNat % 16 := by unfold truncAt; rw [← hf, hc]
  have hql : q.data.toList.length = 4 := by rw [← h4]; simp
  obtain ⟨n4, hn4⟩ : ∃ n4, getL q.data.toList = n4 := ⟨_, rfl⟩
  have hn4l : n4 < 4294967296 := by
    have := getL_lt q.data.toList
    rw [hql, hn4] at this
    exact this
  have HGET : Hid (∀ W : World, Calls Tryd.prog 23 #[.string q] W fun e w' => e = .returned (.tuple #[.int .u64 (n4 : Nat), .int .i64 0]) ∧ W = w') := Lib.hid fun W => by
    have h := Get_any q W (by omega)
    have e1 : getE q.data.toList = 0 := by unfold getE; rw [if_neg (by omega), if_neg (by omega)]
    have e2 : getN q.data.toList = n4 := by unfold getN; rw [if_neg (by omega), if_neg (by omega), hn4]
    rwa [e1, e2] at h
  obtain ⟨m, hm⟩ : ∃ m, truncN s.data.toList = m := ⟨_, rfl⟩
  have hm4 : n4 % 2147483648 = m := by
    rw [← hm, ← hn4, h4d]
    unfold truncN
    rw [hta]
  have hand : bits .and .u64 (n4 : Int) 2147483647 = ((m : Nat) : Int) := by
    have h := u64_and_nat n4 2147483647 (by omega) (by omega)
    rw [show (2147483647 : Nat) = 2 ^ 31 - 1 from rfl, Nat.and_two_pow_sub_one_eq_mod] at h
    rw [← hm4]
    exact h
  obtain ⟨T, hTe⟩ : ∃ T : Nat, 10 ^ width = T := ⟨_, rfl⟩
  have hT0 : 0 < T := by rw [← hTe]; exact Nat.pow_pos (by omega)
  have hml : m < 2147483648 := by rw [← hm]; exact truncN_lt _
  have hT0I : (0 : Int) < (T : Int) := by omega
  have HP : Hid (∀ W : World, Calls Tryd.prog 25 #[.int .i64 (width : Nat)] W fun e w' => e = .returned (.int .u64 (T : Nat)) ∧ w' = W) := Lib.hid fun W => by
    rw [← hTe]; exact power_any width h9 W
  obtain ⟨X, hX⟩ : ∃ X : ByteArray, (⟨(truncL s.data.toList width).toArray⟩ : ByteArray) = X := ⟨_, rfl⟩
  have HTX : Hid (∀ W : World, T10 W → Calls Tryd.prog 24 #[.int .u64 ((m : Int) % (T : Int)), .int .i64 width] W fun e w' => e = .returned (.string X) ∧ Below W.heap.size W w') := Lib.hid fun W h => by
    have h2 := Text_dig (m % T) width (by have := Nat.mod_le m T; omega) (by omega) W h
    rw [← hX]
    unfold truncL
    rw [hm, hTe]
    rwa [Int.natCast_emod] at h2
  rw [hX]
  have HT := Lib.hid hT
  have HC := Lib.hid hc
  have HQ := Lib.hid hq
  obtain ⟨N4, hN4⟩ : ∃ N4 : Int, ((n4 : Nat) : Int) = N4 := ⟨_, rfl⟩
  obtain ⟨M, hM⟩ : ∃ M : Int, ((m : Nat) : Int) = M := ⟨_, rfl⟩
  obtain ⟨TI, hTI⟩ : ∃ TI : Int, ((T : Nat) : Int) = TI := ⟨_, rfl⟩
  rw [hN4] at HGET hand
  rw [hM] at hand HTX
  rw [hTI] at HP HTX hT0I
  have hn4I : N4 < 4294967296 := by omega
  have hn4I0 : 0 ≤ N4 := by omega
  have hmI : M < 2147483648 := by omega
  have hmI0 : 0 ≤ M := by omega
  clear hN4 hM hTI
  clear hX hTe hm4 hm hn4 hql hta hf h4 h4d hT hT0 hml hn4l hq hc
  go_enter Tryd.func10, Tryd.ntmps10
  go_wp2_with fail
  rw [HC.out, HQ.out]
  refine (HGET.out _).mono ?_
  rintro e w1 ⟨rfl, rfl⟩
  go_wp2_with fail
  refine (HP.out _).mono ?_
  rintro e w2 ⟨rfl, rfl⟩
  go_wp2_with fail
  refine (HTX.out _ HT.out).mono ?_
  rintro e w2 ⟨rfl, hb⟩
  go_wp2_with fail
  go_ret2
  exact ⟨rfl, hb⟩

set_option maxRecDepth 20000 in
set_option maxHeartbeats 1000000 in
theorem Code_any (key : ByteArray) (c : Nat) (hk : key.size ≤ 100000) (hc : c < 18446744073709551616) (w : World) (hG : G w) (hT : T10 w) :
    Calls Tryd.prog 11 #[.string key, .int .u64 c] w fun e w' => e = .returned (.string ⟨(truncL (hmacL key.data.toList (putL c 8)) 6).toArray⟩) ∧ Below w.heap.size w w' := by
  obtain ⟨p, hp⟩ : ∃ p : ByteArray, (⟨(putL c 8).toArray⟩ : ByteArray) = p := ⟨_, rfl⟩
  have hps : p.size = 8 := by rw [← hp]; show (putL c 8).toArray.size = 8; rw [List.size_toArray, putL_length]
  have hpd : p.data.toList = putL c 8 := by rw [← hp]
  have HPUT : Hid (∀ W : World, Calls Tryd.prog 26 #[.int .u64 c, .int .i64 8] W fun e w' => e = .returned (.string p) ∧ Below W.heap.size W w') := Lib.hid fun W => by
    have h := Put_any c 8 W hc
    rw [show szOf 8 = 8 by decide, hp] at h
    exact h
  obtain ⟨r, hr⟩ : ∃ r : ByteArray, (⟨(hmacL key.data.toList p.data.toList).toArray⟩ : ByteArray) = r := ⟨_, rfl⟩
  have hrs : r.size = 32 := by rw [← hr]; show (hmacL key.data.toList p.data.toList).toArray.size = 32; rw [List.size_toArray, hmacL_length]
  have hrd : r.data.toList = hmacL key.data.toList (putL c 8) := by rw [← hr, hpd]
  have HS : Hid (∀ (W : World) (g : Nat), G W → Row W g 9 [.string p] → Calls Tryd.prog 7 #[.string key, .slice (some ⟨g, 0, none⟩) 1 1] W fun e w' => e = .returned (.string r) ∧ Below W.heap.size W w') := Lib.hid fun W g h1 h2 => by
    have h := HmSum_one key p (by omega) (by omega) W g h1 h2
    rwa [hr] at h
  obtain ⟨X, hX⟩ : ∃ X : ByteArray, (⟨(truncL (hmacL key.data.toList (putL c 8)) 6).toArray⟩ : ByteArray) = X := ⟨_, rfl⟩
  have HTR : Hid (∀ W : World, T10 W → Calls Tryd.prog 10 #[.string r, .int .i64 6] W fun e w' => e = .returned (.tuple #[.string X, .int .i64 0]) ∧ Below W.heap.size W w') := Lib.hid fun W h => by
    have h2 := Trunc_ok r 6 (by omega) (by omega) (by omega) (by omega) W h
    rw [hrd, hX] at h2
    exact h2
  rw [hX]
  have HG := Lib.hid hG
  have HT := Lib.hid hT
  clear hX hrd hrs hr hpd hps hp hG hT
  have B0 := Below.refl w.heap.size w
  go_enter Tryd.func11, Tryd.ntmps11
  go_wp2_with fail
  refine (HPUT.out _).mono ?_
  rintro e w1 ⟨rfl, hb⟩
  have B1 := B0.trans (hb.mono B0.size)
  clear hb B0
  have B2 := B1.alloc B1.size (.cells #[Value.string p] 9)
  go_wp2_with fail
  refine (HS.out _ w1.heap.size (HG.out.below B2) (Row.new w1 9 [Value.string p])).mono ?_
  rintro e w2 ⟨rfl, hb⟩
  have B3 := B2.trans (hb.mono B2.size)
  clear hb B1 B2
  go_wp2_with fail
  refine (HTR.out _ (HT.out.below B3)).mono ?_
  rintro e w3 ⟨rfl, hb⟩
  have B4 := B3.trans (hb.mono B3.size)
  clear hb B3
  go_wp2_with fail
  go_ret
  exact ⟨rfl, B4⟩
end Go.Proofs.YtehoofddklbnaaaDoor

namespace Go.Proofs.YtehoofddklbnaaaDoor
open Go.RowKit
set_option linter.unusedVariables false

set_option maxRecDepth 20000 in
set_option maxHeartbeats 1000000 in
theorem refTrunc_any (s : ByteArray) (width : Nat) (h1 : 1 ≤ width) (h9 : width ≤ 9) (hs : 20 ≤ s.size) (hs2 : s.size ≤ 100000) (w : World) :
    Calls Tryd.prog 14 #[.string s, .int .i64 width] w fun e w' => e = .returned (.string ⟨(truncL s.data.toList width).toArray⟩) ∧ Below w.heap.size w w' := by
  have hsI : 20 ≤ (s.size : Int) := by omega
  have hsI2 : (s.size : Int) ≤ 100000 := by omega
  have h1I : 1 ≤ (width : Int) := by omega
  have h9I : (width : Int) ≤ 9 := by omega
  have hf := four_of s hs
  obtain ⟨c, hc⟩ : ∃ c, s[s.size - 1]'(by omega) = c := ⟨_, rfl⟩
  obtain ⟨h4, h4d⟩ := four_len s hs (c.toNat % 16) (Nat.mod_lt _ (by omega))
  obtain ⟨q, hq⟩ : ∃ q, s.extract (c.toNat % 16) (c.toNat % 16 + 4) = q := ⟨_, rfl⟩
  rw [hq] at h4 h4d
  have hta : truncAt s.data.toList = c.toNat % 16 := by unfold truncAt; rw [← hf, hc]
  have hql : q.data.toList.length = 4 := by rw [← h4]; simp
  obtain ⟨n4, hn4⟩ : ∃ n4, getL q.data.toList = n4 := ⟨_, rfl⟩
  have HGET : Hid (∀ W : World, Calls Tryd.prog 28 #[.string q] W fun e w' => e = .returned (.int .u64 (n4 : Nat)) ∧ W = w') := Lib.hid fun W => by
    have h := refGet_any q W (by omega)
    rw [hn4] at h
    exact h.mono fun e w' ⟨h1, h2⟩ => ⟨h1, h2⟩
  obtain ⟨m, hm⟩ : ∃ m, truncN s.data.toList = m := ⟨_, rfl⟩
  have hml : m < 2147483648 := by rw [← hm]; exact truncN_lt _
  have hm4 : n4 % 2147483648 = m := by
    rw [← hm, ← hn4, h4d]
    unfold truncN
    rw [hta]
  have hn4l : n4 < 4294967296 := by
    have := getL_lt q.data.toList
    rw [hql, hn4] at this
    exact this
  obtain ⟨X, hX⟩ : ∃ X : ByteArray, (⟨(truncL s.data.toList width).toArray⟩ : ByteArray) = X := ⟨_, rfl⟩
  obtain ⟨T, hTe⟩ : ∃ T : Nat, 10 ^ width = T := ⟨_, rfl⟩
  have hT0 : 0 < T := by rw [← hTe]; exact Nat.pow_pos (by omega)
  have HTX : Hid (∀ W : World, Calls Tryd.prog 29 #[.int .u64 ((m : Int) % (T : Int)), .int .i64 width] W fun e w' => e = .returned (.string X) ∧ Below W.heap.size W w') := Lib.hid fun W => by
    have h2 := refText3_any (m % T) width (by have := Nat.mod_le m T; omega) (by omega) W
    rw [← hX]
    unfold truncL
    rw [hm, hTe]
    rwa [Int.natCast_emod] at h2
  rw [hX]
  have HC := Lib.hid hc
  have HQ := Lib.hid hq
  obtain ⟨N4, hN4⟩ : ∃ N4 : Int, ((n4 : Nat) : Int) = N4 := ⟨_, rfl⟩
  obtain ⟨M, hM⟩ : ∃ M : Int, ((m : Nat) : Int) = M := ⟨_, rfl⟩
  rw [hN4] at HGET
  rw [hM] at HTX
  have hrem : N4 % 2147483648 = M := by omega
  have HREM := Lib.hid hrem
  have hn4I : N4 < 4294967296 := by omega
  have hn4I0 : 0 ≤ N4 := by omega
  have hmI : M < 2147483648 := by omega
  have hmI0 : 0 ≤ M := by omega
  have HTE := Lib.hid hTe
  have HT0 := Lib.hid hT0
  have hsb : (((s[s.size - 1]'(by omega)).toNat : Nat) : Int) ≤ 255 := by have := UInt8.toNat_lt (s[s.size - 1]'(by omega)); omega
  clear hX hTe hm4 hm hn4 hql hta hf h4 h4d hT0 hml hn4l hq hc hN4 hM hrem
  go_enter Tryd.func14, Tryd.ntmps14
  go_wp2_with fail
  rw [HC.out, HQ.out]
  refine (HGET.out _).mono ?_
  rintro e w1 ⟨rfl, rfl⟩
  go_wp2_with fail
  rw [HREM.out]
  go_loop [7, 8] (fun d i => ∃ j p : Nat, j ≤ width ∧ i = .int .i64 j ∧ d = .int .u64 (p : Nat) ∧ Hid (p = 10 ^ j)) (fun _ i => width - (intOf i).toNat)
  case atStart => exact ⟨0, 1, Nat.zero_le _, rfl, rfl, Lib.hid rfl⟩
  case round =>
    obtain ⟨j, p, hj, rfl, rfl, HP⟩ := hrel
    by_cases hlt : j < width
    · have hp : p * 10 ≤ 1000000000 := by
        have h : 10 ^ (j + 1) ≤ 10 ^ 9 := Nat.pow_le_pow_right (by omega) (by omega)
        rw [Nat.pow_succ, ← HP.out] at h
        exact h
      obtain ⟨q, hq⟩ : ∃ q, p * 10 = q := ⟨_, rfl⟩
      have hqi : (p : Int) * 10 = (q : Int) := by omega
      have HQ2 : Hid (q = 10 ^ (j + 1)) := Lib.hid (by rw [Nat.pow_succ, ← HP.out, hq])
      have hql : q ≤ 1000000000 := by omega
      clear hq hp
      go_wp2
      go_round
      case rel => exact ⟨j + 1, q, by omega, by go_num, rfl, HQ2⟩
      case measure => simp [intOf]; omega
    · have HE : Hid (p = T) := Lib.hid (by rw [HP.out, ← HTE.out]; congr 1; omega)
      obtain rfl : p = T := HE.out
      have hge : (width : Int) ≤ (j : Int) := by omega
      have hp0 : (0 : Int) < (p : Int) := by have := HT0.out; omega
      go_wp2_with fail
      refine (HTX.out _).mono ?_
      rintro e w2 ⟨rfl, hb⟩
      go_wp2_with fail
      go_ret
      exact ⟨rfl, hb⟩

set_option maxRecDepth 20000 in
set_option maxHeartbeats 1000000 in
theorem refCode_any (key : ByteArray) (c : Nat) (hk : key.size ≤ 10000) (hc : c < 18446744073709551616) (w : World) :
    Calls Tryd.prog 12 #[.string key, .int .u64 c] w fun e w' => e = .returned (.string ⟨(truncL (hmacL key.data.toList (putL c 8)) 6).toArray⟩) ∧ Below w.heap.size w w' := by
  obtain ⟨p, hp⟩ : ∃ p : ByteArray, (⟨(putL c 8).toArray⟩ : ByteArray) = p := ⟨_, rfl⟩
  have hps : p.size = 8 := by rw [← hp]; show (putL c 8).toArray.size = 8; rw [List.size_toArray, putL_length]
  have hpd : p.data.toList = putL c 8 := by rw [← hp]
  have HPUT : Hid (∀ W : World, Calls Tryd.prog 27 #[.int .u64 c, .int .i64 8] W fun e w' => e = .returned (.string p) ∧ Below W.heap.size W w') := Lib.hid fun W => by
    have h := refPut_any c 8 W hc (by omega) (by omega)
    rw [show szOf 8 = 8 by decide, hp] at h
    exact h
  obtain ⟨r, hr⟩ : ∃ r : ByteArray, (⟨(hmacL key.data.toList p.data.toList).toArray⟩ : ByteArray) = r := ⟨_, rfl⟩
  have hrs : r.size = 32 := by rw [← hr]; show (hmacL key.data.toList p.data.toList).toArray.size = 32; rw [List.size_toArray, hmacL_length]
  have hrd : r.data.toList = hmacL key.data.toList (putL c 8) := by rw [← hr, hpd]
  have HS : Hid (∀ W : World, Calls Tryd.prog 6 #[.string key, .string p] W fun e w' => e = .returned (.string r) ∧ Below W.heap.size W w') := Lib.hid fun W => by
    have h := refHm_any key p (by omega) (by omega) W
    rwa [hr] at h
  obtain ⟨X, hX⟩ : ∃ X : ByteArray, (⟨(truncL (hmacL key.data.toList (putL c 8)) 6).toArray⟩ : ByteArray) = X := ⟨_, rfl⟩
  have HTR : Hid (∀ W : World, Calls Tryd.prog 14 #[.string r, .int .i64 6] W fun e w' => e = .returned (.string X) ∧ Below W.heap.size W w') := Lib.hid fun W => by
    have h2 := refTrunc_any r 6 (by omega) (by omega) (by omega) (by omega) W
    rw [hrd, hX] at h2
    exact h2
  rw [hX]
  clear hX hrd hrs hr hpd hps hp
  have B0 := Below.refl w.heap.size w
  go_enter Tryd.func12, Tryd.ntmps12
  go_wp2_with fail
  refine (HPUT.out _).mono ?_
  rintro e w1 ⟨rfl, hb⟩
  have B1 := B0.trans (hb.mono B0.size)
  clear hb B0
  go_wp2_with fail
  refine (HS.out _).mono ?_
  rintro e w2 ⟨rfl, hb⟩
  have B3 := B1.trans (hb.mono B1.size)
  clear hb B1
  go_wp2_with fail
  refine (HTR.out _).mono ?_
  rintro e w3 ⟨rfl, hb⟩
  have B4 := B3.trans (hb.mono B3.size)
  clear hb B3
  go_wp2_with fail
  go_ret
  exact ⟨rfl, B4⟩
end Go.Proofs.YtehoofddklbnaaaDoor

namespace Go.Proofs.YtehoofddklbnaaaDoor
open Go.RowKit
set_option linter.unusedVariables false

theorem nd_le : ∀ k u, 1 ≤ k → u < 10 ^ k → Lib.nDigits u ≤ k := by
  intro k
  induction k with
  | zero => intro u h; omega
  | succ k ih =>
    intro u _ h
    by_cases h10 : u < 10
    · rw [Lib.nDigits_small h10]; omega
    · rw [Lib.nDigits_big h10]
      rw [Nat.pow_succ] at h
      by_cases hk : k = 0
      · subst hk; omega
      · have := ih (u / 10) (by omega) (by omega)
        omega
theorem textL_len (u width : Nat) (h1 : 1 ≤ width) (h9 : width ≤ 9) (hu : u < 10 ^ width) : (textL u width).length = width := by
  have h18 : 10 ^ width ≤ 10 ^ 9 := Nat.pow_le_pow_right (by omega) h9
  have := nd_le width u h1 hu
  rw [textL_length u width (by omega)]
  unfold textW
  omega
theorem dec_dig (u : Nat) : ∀ c ∈ Lib.decDigits u, isDig c = true := by
  induction u using Nat.strongRecOn with
  | _ u ih =>
    intro c hc
    rw [Lib.decDigits] at hc
    split at hc
    · rename_i h
      simp only [List.mem_singleton] at hc
      subst hc
      rw [isDig_iff]
      simp
      omega
    · rename_i h
      rw [List.mem_append] at hc
      rcases hc with hc | hc
      · exact ih (u / 10) (by omega) c hc
      · simp only [List.mem_singleton] at hc
        subst hc
        rw [isDig_iff]
        simp
        omega
theorem text_dig (u width : Nat) : ∀ c ∈ textL u width, isDig c = true := by
  intro c hc
  unfold textL at hc
  rw [List.mem_append] at hc
  rcases hc with hc | hc
  · rw [List.eq_of_mem_replicate hc]; decide
  · exact dec_dig u c hc
theorem max2le {P : Program} (a b : Nat) : ∃ M : Int, (M ≤ 300 ↔ a ≤ 300 ∧ b ≤ 300) ∧
    ∀ (W : World) (ts : Array TypeId) (t : TypeId), (Builtin.max_ ts t #[.int .i64 a, .int .i64 b]).run P W = .ok (.int .i64 M) W := by
  refine ⟨max (a : Int) b, by omega, fun W ts t => ?_⟩
  simp [Builtin.max_, Builtin.max2]
  split <;> omega

attribute [local irreducible] shaL hmacL
set_option maxRecDepth 100000 in
set_option maxHeartbeats 4000000 in
theorem HmacCodes_walk (a0 a1 : ByteArray) (a2 a3 : Int) (w0 : a0.size ≤ 140737488355328) (w1 : a1.size ≤ 140737488355328) (w2 : (Lit.int .u64 a2).wf = true) (w3 : (Lit.int .i64 a3).wf = true) (w : World) (hG : G w) (hT : T10 w) :
    Calls Tryd.prog 4 #[.string a0, .string a1, .int .u64 a2, .int .i64 a3] w fun e w' => e = .returned (.bool true) ∧ Below w.heap.size w w' := by
  have h2 : 0 ≤ a2 ∧ a2 ≤ 18446744073709551615 := by simpa [Lit.wf, IntKind.min, IntKind.max, IntKind.signed, IntKind.bits] using w2
  obtain ⟨c, rfl⟩ := Int.eq_ofNat_of_zero_le h2.1
  have hc : c < 18446744073709551616 := by omega
  clear w2 w3 h2
  have HG := Lib.hid hG
  have HT := Lib.hid hT
  clear hG hT
  obtain ⟨M, hM, hmx⟩ := max2le (P := Tryd.prog) a0.size a1.size
  by_cases hbig : M ≤ 300
  rotate_left
  · have hbi : (300 : Int) < M := by omega
    clear hM hbig
    generalize ((c : Nat) : Int) = C
    clear hc
    go_enter Tryd.func4, Tryd.ntmps4
    go_wp2_with fail
    refine (awake6_any _ HG.out).mono ?_
    rintro e wa ⟨rfl, hba⟩
    go_wp2_with fail
    go_ret
    exact ⟨rfl, hba⟩
  · obtain ⟨hs, hk⟩ := hM.1 hbig
    clear hM
    obtain ⟨X, hX⟩ : ∃ X : ByteArray, (⟨(truncL (hmacL a1.data.toList (putL c 8)) 6).toArray⟩ : ByteArray) = X := ⟨_, rfl⟩
    have hXl : (truncL (hmacL a1.data.toList (putL c 8)) 6).length = 6 := textL_len _ _ (by omega) (by omega) (Nat.mod_lt _ (by omega))
    have hXs : X.size = 6 := by rw [← hX]; show (truncL (hmacL a1.data.toList (putL c 8)) 6).toArray.size = 6; rw [List.size_toArray, hXl]
    have hXd : isD X = true := by
      rw [isD_iff]
      refine ⟨by omega, ?_⟩
      rw [← hX]
      exact text_dig _ _
    obtain ⟨C, hC⟩ : ∃ C : Int, ((c : Nat) : Int) = C := ⟨_, rfl⟩
    have HCO : Hid (∀ W : World, G W → T10 W → Calls Tryd.prog 11 #[.string a1, .int .u64 C] W fun e w' => e = .returned (.string X) ∧ Below W.heap.size W w') := Lib.hid fun W h1 h2 => by
      rw [← hX, ← hC]; exact Code_any a1 c (by omega) hc W h1 h2
    have HRC : Hid (∀ W : World, Calls Tryd.prog 12 #[.string a1, .int .u64 C] W fun e w' => e = .returned (.string X) ∧ Below W.heap.size W w') := Lib.hid fun W => by
      rw [← hX, ← hC]; exact refCode_any a1 c (by omega) hc W
    have HIS : Hid (∀ W : World, Calls Tryd.prog 13 #[.string X] W fun e w' => e = .returned (.bool true) ∧ W = w') := Lib.hid fun W => by
      have h := refIs_any X W (by omega)
      rw [hXd] at h
      exact h.mono fun e w' ⟨h1, h2⟩ => ⟨h1, by first | exact h2 | exact h2.symm⟩
    have hxx : (X.toList == X.toList) = true := by simp
    have hxn : (X.toList != X.toList) = false := by simp
    have hx6 : ((X.size : Int) != 6) = false := by rw [hXs]; rfl
    have B0 := Below.refl w.heap.size w
    rw [hC]
    clear hX hXl hXs hXd hC hc
    by_cases hw : a3 < 1 ∨ 9 < a3
    · have HTR := Lib.hid (fun W => Trunc_arg a0 a3 hw W)
      rcases hw with hw | hw
      all_goals
        go_enter Tryd.func4, Tryd.ntmps4
        go_wp2_with fail
        refine (awake6_any _ HG.out).mono ?_
        rintro e wa ⟨rfl, hba⟩
        go_wp2_with fail
        refine (HTR.out _).mono ?_
        rintro e wb ⟨rfl, rfl⟩
        go_wp2_with fail
        refine (HCO.out _ (HG.out.below hba) (HT.out.below hba)).mono ?_
        rintro e wc ⟨rfl, hbc⟩
        have B1 := hba.trans (hbc.mono hba.size)
        clear hba hbc
        go_wp2_with fail
        refine (HRC.out _).mono ?_
        rintro e wd ⟨rfl, hbd⟩
        have B2 := B1.trans (hbd.mono B1.size)
        clear B1 hbd
        go_wp2_with fail
        refine (HIS.out _).mono ?_
        rintro e we ⟨rfl, rfl⟩
        go_wp2_with fail
        go_ret
        exact ⟨rfl, B2⟩
    · obtain ⟨k, rfl⟩ : ∃ k : Nat, a3 = k := ⟨a3.toNat, by omega⟩
      have hk1 : 1 ≤ k := by omega
      have hk9 : k ≤ 9 := by omega
      have hk1I : ¬ (k : Int) < 1 := by omega
      have hk9I : ¬ 9 < (k : Int) := by omega
      by_cases hsh : a0.size < 20
      · have HTR := Lib.hid (fun W => Trunc_short a0 k (by omega) (by omega) hsh W)
        have hshI : (a0.size : Int) < 20 := by omega
        clear hw
        go_enter Tryd.func4, Tryd.ntmps4
        go_wp2_with fail
        refine (awake6_any _ HG.out).mono ?_
        rintro e wa ⟨rfl, hba⟩
        go_wp2_with fail
        refine (HTR.out _).mono ?_
        rintro e wb ⟨rfl, rfl⟩
        go_wp2_with fail
        refine (HCO.out _ (HG.out.below hba) (HT.out.below hba)).mono ?_
        rintro e wc ⟨rfl, hbc⟩
        have B1 := hba.trans (hbc.mono hba.size)
        clear hba hbc
        go_wp2_with fail
        refine (HRC.out _).mono ?_
        rintro e wd ⟨rfl, hbd⟩
        have B2 := B1.trans (hbd.mono B1.size)
        clear B1 hbd
        go_wp2_with fail
        refine (HIS.out _).mono ?_
        rintro e we ⟨rfl, rfl⟩
        go_wp2_with fail
        go_ret
        exact ⟨rfl, B2⟩
      · have hshI : ¬ (a0.size : Int) < 20 := by omega
        obtain ⟨Y, hY⟩ : ∃ Y : ByteArray, (⟨(truncL a0.data.toList k).toArray⟩ : ByteArray) = Y := ⟨_, rfl⟩
        have hYl : (truncL a0.data.toList k).length = k := textL_len _ _ hk1 hk9 (Nat.mod_lt _ (Nat.pow_pos (by omega)))
        have hYs : Y.size = k := by rw [← hY]; show (truncL a0.data.toList k).toArray.size = k; rw [List.size_toArray, hYl]
        have hyy : (Y.toList == Y.toList) = true := by simp
        have hyk : ((Y.size : Int) == (k : Int)) = true := by rw [hYs]; simp
        have HTR : Hid (∀ W : World, T10 W → Calls Tryd.prog 10 #[.string a0, .int .i64 k] W fun e w' => e = .returned (.tuple #[.string Y, .int .i64 0]) ∧ Below W.heap.size W w') := Lib.hid fun W h => by
          rw [← hY]; exact Trunc_ok a0 k hk1 hk9 (by omega) (by omega) W h
        have HRT : Hid (∀ W : World, Calls Tryd.prog 14 #[.string a0, .int .i64 k] W fun e w' => e = .returned (.string Y) ∧ Below W.heap.size W w') := Lib.hid fun W => by
          rw [← hY]; exact refTrunc_any a0 k hk1 hk9 (by omega) (by omega) W
        clear hw hY hYl hYs
        go_enter Tryd.func4, Tryd.ntmps4
        go_wp2_with fail
        refine (awake6_any _ HG.out).mono ?_
        rintro e wa ⟨rfl, hba⟩
        go_wp2_with fail
        refine (HTR.out _ (HT.out.below hba)).mono ?_
        rintro e wb ⟨rfl, hbb⟩
        have B0 := hba.trans (hbb.mono hba.size)
        clear hba hbb
        go_wp2_with fail
        refine (HCO.out _ (HG.out.below B0) (HT.out.below B0)).mono ?_
        rintro e wc ⟨rfl, hbc⟩
        have B1 := B0.trans (hbc.mono B0.size)
        clear B0 hbc
        go_wp2_with fail
        refine (HRC.out _).mono ?_
        rintro e wd ⟨rfl, hbd⟩
        have B2 := B1.trans (hbd.mono B1.size)
        clear B1 hbd
        go_wp2_with fail
        refine (HIS.out _).mono ?_
        rintro e we ⟨rfl, rfl⟩
        go_wp2_with fail
        refine (HRT.out _).mono ?_
        rintro e wf ⟨rfl, hbf⟩
        have B3 := B2.trans (hbf.mono B2.size)
        clear B2 hbf
        go_wp2_with fail
        go_ret
        exact ⟨rfl, B3⟩
end Go.Proofs.YtehoofddklbnaaaDoor

namespace Go.Proofs.YtehoofddklbnaaaDoor
open Go.RowKit
set_option linter.unusedVariables false

theorem T10_of_laid4 {W : World} (h : laidMetH Tryd.prog [("math/bits.deBruijn32tab", Rows.laid_math_bits_deBruijn32tab), ("math/bits.deBruijn64tab", Rows.laid_math_bits_deBruijn64tab), ("internal/strconv.uint64pow10", Rows.laid_internal_strconv_uint64pow10), ("cashier/sha.starts", Rows.laid_cashier_sha_starts)] W) : T10 W :=
  Lib.tabIs_of_head (g := 1) (t := 105) (e := 28) (n := 20) (rest := [("cashier/sha.starts", Rows.laid_cashier_sha_starts)]) (by kernel_rfl) (by kernel_rfl) Tryd.underlying105 Tryd.underlying28 (by kernel_rfl) (by kernel_rfl) (laidMet_tail (laidMet_tail h))
end Go.Proofs.YtehoofddklbnaaaDoor

namespace Go.Proofs.YtehoofddklbnaaaDoor.hmacCodes
open Go.ChangeShapes Go.WideShapes Go.ChangeAt Go.RowKit
open Go.ChangeMaps (open_string shut_string)
set_option linter.unusedVariables false

theorem own : ownKnob Tryd.prog.godebug = none := by kernel_rfl

theorem door_met (os : Os) (args : Array Value) : laidMetH Tryd.prog Rows.hmacCodesRow.laid ((World.doorLaid Tryd.prog 4000 os).forCall (fun _ _ => 0) ⟨#[], args, []⟩).memory :=
  laidMetH_of_parts3 (fuel := 8) (laidMet_of_run' 8 (by kernel_rfl) (by kernel_rfl)) (by kernel_rfl) (by kernel_rfl)

set_option maxRecDepth 100000 in
theorem lifted (os : Os) (started : os.Started) (H : Type) (enc : TypeId × Value → H) :
    ReturnsInHanded {} Tryd.checked os 4 .any (fun w args => (Rows.hmacCodesSpec.pre enc Tryd.prog Tryd.f4 Rows.hmacCodesRow.domain false w args ∧ laidMetH Tryd.prog Rows.hmacCodesRow.laid w) ∧ sizedMet enc Tryd.prog Tryd.f4 (OpenSpec.ofChange Rows.hmacCodesSpec) false w args) (Rows.hmacCodesSpec.post enc Tryd.prog Tryd.f4 false true false false) := by
  refine returnsInHanded_of_change_and (C := Tryd.checked) (X := fun w _ => laidMetH Tryd.prog Rows.hmacCodesRow.laid w) (fun _ _ _ hh h => h.of_heap hh) own started (by kernel_rfl) Tryd.func4
    (ChangeSpec.witness_shaped (enc := enc) (C := Tryd.checked) (os := os) (X := fun w _ => laidMetH Tryd.prog Rows.hmacCodesRow.laid w) false (World.doorLaid Tryd.prog 4000 os) #[.string ByteArray.empty, .string ByteArray.empty, .int .u64 0, .int .i64 0] 8 rfl (World.shaped_of_RefB (by kernel_rfl) (by kernel_rfl)) (by kernel_rfl) (by kernel_rfl) (by kernel_rfl) (door_met os _)) ?_
  intro W base args ds gs before hval0 hW hcnd hsz0 hX1 hX2
  have hsz : (DataW.weightsEach Tryd.prog (Tryd.f4.params.toList ++ Rows.hmacCodesSpec.plain.varTypes Tryd.prog) (ds ++ gs)).all (· ≤ reachBytes) = true := hsz0
  have hval : ∀ (j : Nat) t v, Tryd.f4.params[j]? = some t → args[j]? = some v → Value.okWide Tryd.prog W .any base t v := hval0
  have hW' := hW
  obtain ⟨p, q, hA0, hV, rfl, hfz, hnd⟩ := hW
  have hA : DataW.TrodAll enc Tryd.prog W 0 (fun _ => true) true Tryd.f4.params.toList args.toList ds p := hA0
  rw [Tryd.params4] at hA hval hsz
  obtain ⟨v0, vs0, d0, ds0, p0, q0, hargs, rfl, rfl, h0, r0⟩ := trodAll_cons hA
  obtain ⟨v1, vs1, d1, ds1, p1, q1, rfl, rfl, rfl, h1, r1⟩ := trodAll_cons r0
  obtain ⟨v2, vs2, d2, ds2, p2, q2, rfl, rfl, rfl, h2, r2⟩ := trodAll_cons r1
  obtain ⟨v3, vs3, d3, ds3, p3, q3, rfl, rfl, rfl, h3, r3⟩ := trodAll_cons r2
  obtain ⟨rfl, rfl, rfl⟩ := trodAll_nil r3
  obtain rfl : args = #[v0, v1, v2, v3] := by cases args; simp_all
  obtain ⟨rfl, rfl⟩ := trodVars_none hV
  obtain ⟨a0, rfl, rfl, rfl, m0⟩ := open_string Tryd.underlying9 (hval 0 9 v0 rfl rfl) h0
  obtain ⟨a1, rfl, rfl, rfl, m1⟩ := open_string Tryd.underlying9 (hval 1 9 v1 rfl rfl) h1
  obtain ⟨a2, rfl, rfl, rfl, w2⟩ := open_int Tryd.underlying28 (hval 2 28 v2 rfl rfl) h2
  obtain ⟨a3, rfl, rfl, rfl, w3⟩ := open_int Tryd.underlying3 (hval 3 3 v3 rfl rfl) h3
  have w0 : a0.size ≤ 140737488355328 := by
    have h47 := reachBytes_lt
    have hh := sized_string hsz (j := 0) (t := 9) rfl rfl
    rw [Array.length_toList] at hh
    exact Nat.le_of_lt (Nat.lt_of_le_of_lt hh h47)
  have w1 : a1.size ≤ 140737488355328 := by
    have h47 := reachBytes_lt
    have hh := sized_string hsz (j := 1) (t := 9) rfl rfl
    rw [Array.length_toList] at hh
    exact Nat.le_of_lt (Nat.lt_of_le_of_lt hh h47)
  clear hA0 hval0 hsz hsz0
  simp only [List.append_nil] at hW'
  refine (HmacCodes_walk a0 a1 a2 a3 w0 w1 w2 w3 W (G_of_laid4 hX1) (T10_of_laid4 hX1)).mono fun e W' ⟨he, bel⟩ => ?_
  subst he
  exact ⟨_, rfl, _, _, _, [], _, [], hW', trodAll_mk1 (shut_bool Tryd.underlying4 _), (trodAll_cons_mk (shut_string Tryd.underlying9 m0) (trodAll_cons_mk (shut_string Tryd.underlying9 m1) (trodAll_cons_mk (shut_int Tryd.underlying28 w2) (trodAll_cons_mk (shut_int Tryd.underlying3 w3) trodAll_mk0)))), rfl, bel.frame _, fun h => by cases h⟩

theorem over : Rows.hmacCodesRow.holds Tryd.pinned (OpenSpec.ofChange Rows.hmacCodesSpec) :=
  OpenClaim.holds_of_wide 4 Tryd.f4 rfl rfl rfl rfl rfl rfl rfl ⟨rfl, rfl, rfl, rfl, rfl⟩ rfl rfl rfl rfl rfl (by kernel_rfl) Tryd.func4 (by kernel_rfl)
    (of_decide_eq_true (by kernel_rfl)) (by unfold Func.isWrapper; first | (rw [if_pos (by decide +kernel)]; kernel_rfl) | (rw [if_neg (by decide +kernel)]; exact ⟨rfl, rfl⟩))
    (fun os started H enc _ => lifted os started H enc)

theorem proved : Rows.HmacCodesCardSaid :=
  Claim7.holds_tied_plain_at .later [] [.data, .data, .data, .data] true (true, "da35d39db9c61f52e56712e4baa64771d243da0bbc156f9ccca49ea367a4c634") false
    over (fun _ h => by cases h) (by kernel_rfl) (fun _ h => by cases h) hmacCodes_row_tie rfl ⟨rfl, rfl⟩ (by kernel_rfl) rfl
    (fun f fn hf hfn => by
      obtain rfl : f = 4 := Option.some.inj ((show Tryd.prog.funcNamed "cashier/cashierlaw06.HmacCodes" = some 4 by kernel_rfl).symm.trans hf) |>.symm
      obtain rfl : fn = Tryd.f4 := (Option.some.inj (Tryd.func4.symm.trans hfn)).symm
      exact ⟨by kernel_rfl, fun j t ht => by
        rw [Tryd.params4] at ht
        have hm : t ∈ [9, 9, 28, 3] := by simpa using Array.mem_of_getElem? ht
        have hall : ([9, 9, 28, 3].all fun u => !Tryd.prog.wantsStandIn u) = true := by kernel_rfl
        exact (show Tryd.prog.wantsStandIn t = false by simpa using List.all_eq_true.1 hall t hm)⟩)
    (by kernel_rfl)

end Go.Proofs.YtehoofddklbnaaaDoor.hmacCodes
