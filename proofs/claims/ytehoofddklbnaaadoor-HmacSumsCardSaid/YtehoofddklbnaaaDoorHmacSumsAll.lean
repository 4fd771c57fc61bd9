/- The statement of HmacSums: whatever comes in, the law answers true, and what came in reads as it did. (In one text with what it leans on: HSame, HShort, HOne, HRPad, HRPadL, HRSum, HmacSumsW, HmacSums.) -/
import Derived.OwnWalk
import Derived.Deep.OwnRows
import Derived.Deep.RegionHeld3
import Derived.Deep.MidRow
import Derived.WalkKit
import Derived.ProofKit
import Derived.OpenShut
import Derived.ShutString
import Derived.SizedLaws
import Derived.LaidMore
import Derived.Stop.Joined
import Derived.SevenTiedAt
import Derived.Test.YtehoofddklbnaaaDoorHMask
import Derived.Test.YtehoofddklbnaaaDoorHSumm
import Derived.Test.YtehoofddklbnaaaDoorHPlain
import Derived.Test.YtehoofddklbnaaaDoorRText
import Derived.Test.YtehoofddklbnaaaDoorAwk6
import Derived.Test.YtehoofddklbnaaaDoorRows
import Derived.Test.YtehoofddklbnaaaDoorCards
import Derived.Test.YtehoofddklbnaaaDoorTie
import Derived.Test.YtehoofddklbnaaaDoorLaid4
namespace Go.Proofs.YtehoofddklbnaaaDoor
open Go.RowKit
set_option linter.unusedVariables false

theorem or_zero8 (a b : UInt8) : (a ||| b = 0) ↔ (a = 0 ∧ b = 0) := by
  constructor
  · intro h
    have h1 := congrArg UInt8.toNat h
    rw [UInt8.toNat_or] at h1
    have h2 : a.toNat ||| b.toNat = 0 := h1
    rw [Nat.or_eq_zero_iff] at h2
    exact ⟨UInt8.toNat_inj.1 h2.1, UInt8.toNat_inj.1 h2.2⟩
  · rintro ⟨rfl, rfl⟩; rfl
theorem xor_zero8 (a b : UInt8) : (a ^^^ b = 0) ↔ a = b := by
  constructor
  · intro h
    have h1 := congrArg (· ^^^ b) h
    simpa [UInt8.xor_assoc] using h1
  · rintro rfl; simp
theorem u8_or_bits (a b : UInt8) : bits BinOp.or IntKind.u8 (a.toNat : Int) (b.toNat : Int) = ((a ||| b).toNat : Int) := by
  rw [UInt8.toNat_or]
  exact u8_or_nat _ _ (UInt8.toNat_lt a) (UInt8.toNat_lt b)

set_option maxRecDepth 4000 in
set_option maxHeartbeats 1000000 in
theorem Same_any (a b : ByteArray) (w : World) (ha : a.size ≤ 140737488355328) :
    Calls Tryd.prog 9 #[.string a, .string b] w fun e w' => e = .returned (.bool (decide (a.data.toList = b.data.toList))) ∧ Below w.heap.size w w' := by
  have hla : a.data.toList.length = a.size := by simp
  have hlb : b.data.toList.length = b.size := by simp
  by_cases hne : a.size = b.size
  · go_enter Tryd.func9, Tryd.ntmps9
    go_wp2
    go_loopw [5, 14] (fun d i wr => ∃ (j : Nat) (c : UInt8), j ≤ a.size ∧ i = .int .i64 j ∧ d = .int .u8 c.toNat ∧ Hid (c = 0 ↔ a.data.toList.take j = b.data.toList.take j) ∧ Below w.heap.size w wr) (fun _ i _ => a.size - (intOf i).toNat)
    case atStart => exact ⟨0, 0, Nat.zero_le _, rfl, rfl, Lib.hid (by simp), Below.refl _ _⟩
    case round =>
      obtain ⟨j, c, hj, rfl, rfl, HC, hb⟩ := hrel
      by_cases hlt : j < a.size
      · have hlt2 : j < b.size := by omega
        obtain ⟨x, hx⟩ : ∃ x, a[j] = x := ⟨_, rfl⟩
        obtain ⟨y, hy⟩ : ∃ y, b[j] = y := ⟨_, rfl⟩
        have hX := u8_xor_bits x y
        have hO := u8_or_bits c (x ^^^ y)
        have HN : Hid ((c ||| x ^^^ y) = 0 ↔ a.data.toList.take (j + 1) = b.data.toList.take (j + 1)) := Lib.hid (by
          rw [take_snoc a j hlt, take_snoc b j hlt2, hx, hy, or_zero8, xor_zero8, HC.out]
          constructor
          · rintro ⟨h1, h2⟩; rw [h1, h2]
          · intro h
            have h1 := List.append_inj h (by simp; omega)
            exact ⟨h1.1, by simpa using h1.2⟩)
        obtain ⟨z, hz⟩ : ∃ z, x ^^^ y = z := ⟨_, rfl⟩
        rw [hz] at hX hO HN
        obtain ⟨q, hq⟩ : ∃ q, c ||| z = q := ⟨_, rfl⟩
        rw [hq] at hO HN
        clear hla hlb hne hz hq
        go_wp2
        go_quiet (fail)
        go_wp2
        go_roundw
        case rel => exact ⟨j + 1, _, by omega, by go_num, rfl, HN, below_drewN hb _⟩
        case measure => simp [intOf]; omega
      · have hd : decide (a.data.toList = b.data.toList) = decide ((c.toNat : Int) = 0) := by
          have h := HC.out
          rw [List.take_of_length_le (by omega), List.take_of_length_le (by omega)] at h
          refine decide_eq_decide.2 (h.symm.trans ⟨fun e => by rw [e]; rfl, fun e => UInt8.toNat_inj.1 ?_⟩)
          have h0 : c.toNat = 0 := by omega
          rw [h0]; rfl
        have HD := Lib.hid hd
        clear hd hla hlb
        have hge : (a.size : Int) ≤ (j : Int) := by omega
        go_wp2
        go_ret
        refine ⟨?_, hb⟩
        rw [HD.out]
        first | rfl | (congr 2)
  · have hd : decide (a.data.toList = b.data.toList) = false := decide_eq_false fun h => hne (by rw [← hla, ← hlb, h])
    have hnei : ¬ ((a.size : Int) = (b.size : Int)) := by omega
    rw [hd]
    clear hd hla hlb
    go_enter Tryd.func9, Tryd.ntmps9
    go_wp2
    go_ret
    exact ⟨rfl, Below.refl _ _⟩
end Go.Proofs.YtehoofddklbnaaaDoor

namespace Go.Proofs.YtehoofddklbnaaaDoor
open Go.RowKit
set_option linter.unusedVariables false
theorem hmacL_length (k t : List UInt8) : (hmacL k t).length = 32 := by unfold hmacL; exact shaL_length _

set_option maxRecDepth 20000 in
set_option maxHeartbeats 4000000 in
theorem HmShort_any (key : ByteArray) (hk : key.size ≤ 100000000) (n : Int) (hnw : -9223372036854775808 ≤ n ∧ n ≤ 9223372036854775807) (m : Nat) (hm : m ≤ 32) (hmm : min (max n 0) 32 = (m : Int)) (b2 o2 c2 : Nat) (xs : List ByteArray) (w : World) (hG : G w)
    (h2 : ∀ (j : Nat) x, xs[j]? = some x → w.cell? ⟨b2, o2 + j, none⟩ = some (.string x)) (hb2 : b2 < w.heap.size) (hn : xs.length ≤ 1000)
    (T : List UInt8) (hT : Lib.join (xs.map (·.data.toList)) [] = T) (hTl : T.length ≤ 140737488300000) :
    Calls Tryd.prog 8 #[.string key, .int .i64 n, .slice (some ⟨b2, o2, none⟩) xs.length c2] w fun e w' => e = .returned (.string ((⟨(hmacL key.data.toList T).toArray⟩ : ByteArray).extract 0 m)) ∧ Below w.heap.size w w' := by
  have HS := Lib.hid (fun (W : World) (hb : Below w.heap.size w W) => HmSum_any key hk b2 o2 c2 xs W (hG.below hb) (fun j x hx => (hb.cell (p := ⟨b2, o2 + j, none⟩) hb2).trans (h2 j x hx)) (Nat.lt_of_lt_of_le hb2 hb.size) hn T hT hTl)
  obtain ⟨r, hr⟩ : ∃ r : ByteArray, (⟨(hmacL key.data.toList T).toArray⟩ : ByteArray) = r := ⟨_, rfl⟩
  have hrs : r.size = 32 := by rw [← hr]; show (hmacL key.data.toList T).toArray.size = 32; rw [List.size_toArray, hmacL_length]
  rw [hr] at HS ⊢
  have hm32 : m ≤ r.size := by omega
  clear hr h2 hb2 hT hTl hG
  go_enter Tryd.func8, Tryd.ntmps8
  go_wp2_with fail
  refine (HS.out _ (Below.refl _ _)).mono ?_
  rintro e w1 ⟨rfl, hb1⟩
  go_wp2_with fail
  go_ret
  exact ⟨rfl, hb1⟩
end Go.Proofs.YtehoofddklbnaaaDoor

namespace Go.Proofs.YtehoofddklbnaaaDoor
open Go.RowKit
set_option linter.unusedVariables false

theorem HmSum_one (key s : ByteArray) (hk : key.size ≤ 100000000) (hs : s.size ≤ 100000000) (W : World) (g : Nat) (hg : G W) (hr : Row W g 9 [.string s]) :
    Calls Tryd.prog 7 #[.string key, .slice (some ⟨g, 0, none⟩) 1 1] W fun e w' => e = .returned (.string ⟨(hmacL key.data.toList s.data.toList).toArray⟩) ∧ Below W.heap.size W w' :=
  HmSum_any key hk g 0 1 [s] W hg (fun j x hx => by rw [Nat.zero_add, hr.cell]; match j, hx with | 0, hx => cases hx; rfl) hr.lt (by simp) s.data.toList (by rw [join_flat]; simp) (by simp; omega)
theorem HmSum_two (key s t : ByteArray) (hk : key.size ≤ 100000000) (hs : s.size ≤ 100000000) (ht : t.size ≤ 100000000) (W : World) (g : Nat) (hg : G W) (hr : Row W g 9 [.string s, .string t]) :
    Calls Tryd.prog 7 #[.string key, .slice (some ⟨g, 0, none⟩) 2 2] W fun e w' => e = .returned (.string ⟨(hmacL key.data.toList (s.data.toList ++ t.data.toList)).toArray⟩) ∧ Below W.heap.size W w' :=
  HmSum_any key hk g 0 2 [s, t] W hg (fun j x hx => by rw [Nat.zero_add, hr.cell]; match j, hx with | 0, hx => cases hx; rfl | 1, hx => cases hx; rfl) hr.lt (by simp) (s.data.toList ++ t.data.toList) (by rw [join_flat]; simp) (by rw [List.length_append]; simp; omega)
theorem HmShort_one (key s : ByteArray) (n : Int) (hn : -9223372036854775808 ≤ n ∧ n ≤ 9223372036854775807) (m : Nat) (hm : m ≤ 32) (hmm : min (max n 0) 32 = (m : Int)) (hk : key.size ≤ 100000000) (hs : s.size ≤ 100000000) (W : World) (g : Nat) (hg : G W) (hr : Row W g 9 [.string s]) :
    Calls Tryd.prog 8 #[.string key, .int .i64 n, .slice (some ⟨g, 0, none⟩) 1 1] W fun e w' => e = .returned (.string ((⟨(hmacL key.data.toList s.data.toList).toArray⟩ : ByteArray).extract 0 m)) ∧ Below W.heap.size W w' :=
  HmShort_any key hk n hn m hm hmm g 0 1 [s] W hg (fun j x hx => by rw [Nat.zero_add, hr.cell]; match j, hx with | 0, hx => cases hx; rfl) hr.lt (by simp) s.data.toList (by rw [join_flat]; simp) (by simp; omega)
theorem HmShort_two (key s t : ByteArray) (n : Int) (hn : -9223372036854775808 ≤ n ∧ n ≤ 9223372036854775807) (m : Nat) (hm : m ≤ 32) (hmm : min (max n 0) 32 = (m : Int)) (hk : key.size ≤ 100000000) (hs : s.size ≤ 100000000) (ht : t.size ≤ 100000000) (W : World) (g : Nat) (hg : G W) (hr : Row W g 9 [.string s, .string t]) :
    Calls Tryd.prog 8 #[.string key, .int .i64 n, .slice (some ⟨g, 0, none⟩) 2 2] W fun e w' => e = .returned (.string ((⟨(hmacL key.data.toList (s.data.toList ++ t.data.toList)).toArray⟩ : ByteArray).extract 0 m)) ∧ Below W.heap.size W w' :=
  HmShort_any key hk n hn m hm hmm g 0 2 [s, t] W hg (fun j x hx => by rw [Nat.zero_add, hr.cell]; match j, hx with | 0, hx => cases hx; rfl | 1, hx => cases hx; rfl) hr.lt (by simp) (s.data.toList ++ t.data.toList) (by rw [join_flat]; simp) (by rw [List.length_append]; simp; omega)

/-- A key, and it with noughts behind, to a block. -/
theorem hmac_pad (k t : List UInt8) (n : Nat) (h : n = 0 ∨ k.length + n ≤ 64) : hmacL (k ++ List.replicate n 0) t = hmacL k t := by
  rcases h with rfl | h
  · rw [List.replicate_zero, List.append_nil]
  · have e (m : UInt8) : blkL (keyL (k ++ List.replicate n 0)) m = blkL (keyL k) m := by
      unfold keyL
      rw [if_neg (by simp; omega), if_neg (by omega)]
      unfold blkL
      rw [List.append_assoc, List.replicate_append_replicate, List.length_append, List.length_replicate]
      congr 3
      omega
    unfold hmacL
    rw [e, e]
/-- One that is longer is its sum. -/
theorem hmac_long (k t : List UInt8) (h : 64 < k.length) : hmacL (shaL k) t = hmacL k t := by
  have e : keyL (shaL k) = keyL k := by
    unfold keyL
    rw [if_neg (by rw [shaL_length]; omega), if_pos h]
  unfold hmacL
  rw [e]
theorem repeat_one (b : UInt8) (c : Nat) : Lib.repeatL [b] c = List.replicate c b := by
  have := Lib.repeatL_replicate b 1 c
  rwa [Nat.mul_one] at this
end Go.Proofs.YtehoofddklbnaaaDoor

namespace Go.Proofs.YtehoofddklbnaaaDoor
open Go.RowKit
set_option linter.unusedVariables false
theorem u8_info5 : (Tryd.prog.info? 5).map (fun i => (i.zero, i.size, i.bytes)) = some (some (.int .u8 0), 1, 1) := by kernel_rfl
theorem made64b : madeCells #[.int .u8 0] 64 = (List.replicate 64 (Value.int .u8 0)).toArray := by kernel_rfl
/-- The first k bytes, noughts behind. -/
def prow (L : List UInt8) (k : Nat) : List Value := (L.take k).map bv ++ List.replicate (64 - k) (.int .u8 0)
theorem prow_length (L : List UInt8) (hL : L.length = 64) {k : Nat} (h : k ≤ 64) : (prow L k).length = 64 := by unfold prow; simp [hL]; omega
theorem prow_set (L : List UInt8) (hL : L.length = 64) {k : Nat} (h : k < 64) (x : UInt8) (hx : L[k]? = some x) : (prow L k).set k (.int .u8 x.toNat) = prow L (k + 1) := by
  unfold prow
  have hl : ((L.take k).map bv).length = k := by simp [hL]; omega
  have e : 64 - k = (64 - (k + 1)) + 1 := by omega
  rw [e, List.replicate_succ, List.set_append_right _ _ (by omega), hl, Nat.sub_self, List.set_cons_zero, List.take_add_one, hx, List.map_append, List.append_assoc]
  rfl
theorem prow_all (L : List UInt8) (hL : L.length = 64) : prow L 64 = L.map bv := by
  unfold prow
  rw [List.take_of_length_le (by rw [hL]; exact Nat.le_refl _)]
  simp

set_option maxRecDepth 20000 in
set_option maxHeartbeats 4000000 in
theorem refBlk_any (key : ByteArray) (m : UInt8) (hk : key.size ≤ 64) (w : World) :
    Calls Tryd.prog 19 #[.string key, .int .u8 m.toNat] w fun e w' => e = .returned (.string ⟨(blkL key.data.toList m).toArray⟩) ∧ Below w.heap.size w w' := by
  have hkI : ¬ ((64 : Int) < (key.size : Int)) := by omega
  obtain ⟨i0, hi0, hz0, hz1, hz2⟩ := info_parts u8_info5
  have hmk : ∀ W : World, (Instr.makeSlice 49 (.int .i64 64) (.int .i64 64)).run Tryd.prog W = .ok (.slice (some ⟨W.heap.size, 0, none⟩) 64 64) (W.alloc (.cells (List.replicate 64 (Value.int .u8 0)).toArray 5)) := fun W => by
    rw [← made64b]
    exact run_make_row 49 5 i0 (.int .u8 0) Tryd.underlying49 hi0 hz0 hz1 rfl .i64 .i64 64 (by rw [hz2]; decide) (by decide) W
  clear hi0 hz0 hz1 hz2
  have hAl : (blkL key.data.toList m).length = 64 := blkL_length _ _ (by have e : key.size = key.data.toList.length := by simp
                                                                         omega)
  have hA1 : ∀ (k : Nat) (h : k < key.size), (blkL key.data.toList m)[k]? = some (key[k] ^^^ m) := fun k h => by
    unfold blkL
    rw [List.getElem?_map, List.getElem?_append_left (by simpa using h)]
    have e : key.data.toList[k]? = some key[k] := by
      rw [Array.getElem?_toList, Array.getElem?_eq_getElem h]; rfl
    rw [e]; rfl
  have hA2 : ∀ k, key.size ≤ k → k < 64 → (blkL key.data.toList m)[k]? = some m := fun k h h64 => by
    unfold blkL
    have hl : key.data.toList.length = key.size := by simp
    rw [List.getElem?_map, List.getElem?_append_right (by omega), List.getElem?_replicate, if_pos (by omega)]
    show some (0 ^^^ m) = some m
    rw [UInt8.zero_xor]
  obtain ⟨A, hA⟩ : ∃ A, blkL key.data.toList m = A := ⟨_, rfl⟩
  rw [hA] at hAl hA1 hA2 ⊢
  have HA := Lib.hid (And.intro hAl (And.intro hA1 hA2))
  clear hAl hA1 hA2 hA
  go_enter Tryd.func19, Tryd.ntmps19
  go_wp2
  have r1 := Row.new w 5 (List.replicate 64 (Value.int .u8 0))
  have b1 := (Below.refl w.heap.size w).alloc (Nat.le_refl _) (.cells (List.replicate 64 (Value.int .u8 0)).toArray 5)
  clear hmk
  go_loopw [6] (fun i wr => ∃ k : Nat, k ≤ 64 ∧ i = .int .i64 k ∧ Row wr w.heap.size 5 (prow A k) ∧ Below w.heap.size w wr) (fun i _ => 64 - (intOf i).toNat)
  case atStart => exact ⟨0, Nat.zero_le _, rfl, r1, b1⟩
  case round =>
    obtain ⟨k, hk, rfl, h1, h2⟩ := hrel
    clear r1 b1
    by_cases hlt : k < 64
    · obtain ⟨v0, hc0⟩ : ∃ v, wr.cell? ⟨w.heap.size, k, none⟩ = some v := by
        rw [h1.cell]; exact ⟨_, List.getElem?_eq_getElem (by rw [prow_length A HA.out.1 hk]; exact hlt)⟩
      have hf0 := h1.frozen k
      have hkI2 : (k : Int) < 64 := by omega
      have hs1 := h1.set k (.int .u8 (m.toNat : Int))
      have hb1 := h2.setCell (p := ⟨w.heap.size, k, none⟩) (Nat.le_refl _) (.int .u8 (m.toNat : Int))
      by_cases hkk : k < key.size
      · obtain ⟨x, hx⟩ : ∃ x, key[k] = x := ⟨_, rfl⟩
        have hAx := HA.out.2.1 k hkk
        rw [hx] at hAx
        have hX := u8_xor_bits x m
        have hc1 : (wr.setCell ⟨w.heap.size, k, none⟩ (.int .u8 (m.toNat : Int))).cell? ⟨w.heap.size, k, none⟩ = some (.int .u8 (m.toNat : Int)) := by
          rw [hs1.cell, List.getElem?_set_self (by rw [prow_length A HA.out.1 hk]; exact hlt)]
        have hf1 := hs1.frozen k
        have hs2 := hs1.set k (.int .u8 ((x ^^^ m).toNat : Int))
        rw [List.set_set, prow_set A HA.out.1 hlt _ hAx] at hs2
        have hb2 := hb1.setCell (p := ⟨w.heap.size, k, none⟩) (Nat.le_refl _) (.int .u8 ((x ^^^ m).toNat : Int))
        have H := Lib.hid (And.intro hs2 hb2)
        have hkkI : (k : Int) < (key.size : Int) := by omega
        obtain ⟨z, hz⟩ : ∃ z, x ^^^ m = z := ⟨_, rfl⟩
        rw [hz] at hX H
        clear hs1 hb1 hs2 hb2 h1 h2 hAx hz
        go_wp2
        go_roundw
        case rel => exact ⟨k + 1, by omega, by go_num, H.out.1, H.out.2⟩
        case measure => simp [intOf]; omega
      · have hAx := HA.out.2.2 k (by omega) hlt
        rw [prow_set A HA.out.1 hlt _ hAx] at hs1
        have H := Lib.hid (And.intro hs1 hb1)
        have hkkI : (key.size : Int) ≤ (k : Int) := by omega
        clear hs1 hb1 h1 h2 hAx
        go_wp2
        go_roundw
        case rel => exact ⟨k + 1, by omega, by go_num, H.out.1, H.out.2⟩
        case measure => simp [intOf]; omega
    · have hk2 : k = 64 := by omega
      rw [hk2, prow_all A HA.out.1] at h1
      have hge : 64 ≤ k := by omega
      have hcv := conv_bytes (P := Tryd.prog) wr 49 9 5 Tryd.underlying49 Tryd.underlying5 Tryd.underlying9 w.heap.size 0 64 64 A HA.out.1 (fun i hi => by
        rw [Nat.zero_add, h1.cell])
      have H := Lib.hid h2
      clear hk2 hlt hk h1 h2
      go_wp2
      go_ret
      exact ⟨rfl, H.out⟩
end Go.Proofs.YtehoofddklbnaaaDoor

namespace Go.Proofs.YtehoofddklbnaaaDoor
open Go.RowKit
set_option linter.unusedVariables false

set_option maxRecDepth 20000 in
set_option maxHeartbeats 4000000 in
theorem refBlk_long (key : ByteArray) (m : UInt8) (hk1 : 64 < key.size) (hk2 : key.size ≤ 100000) (w : World) :
    Calls Tryd.prog 19 #[.string key, .int .u8 m.toNat] w fun e w' => e = .returned (.string ⟨(blkL (keyL key.data.toList) m).toArray⟩) ∧ Below w.heap.size w w' := by
  have hkI : (64 : Int) < (key.size : Int) := by omega
  have hkl : key.data.toList.length = key.size := by simp
  obtain ⟨kk, hkk⟩ : ∃ kk : ByteArray, (⟨(shaL key.data.toList).toArray⟩ : ByteArray) = kk := ⟨_, rfl⟩
  have HTX : Hid (∀ W : World, Calls Tryd.prog 18 #[.string key] W fun e w' => e = .returned (.string kk) ∧ Below W.heap.size W w') := Lib.hid fun W => by rw [← hkk]; exact refText_any key hk2 W
  have hkd : keyL key.data.toList = kk.data.toList := by unfold keyL; rw [if_pos (by omega), ← hkk]
  have hk : kk.size ≤ 64 := by
    have e : kk.size = kk.data.toList.length := by simp
    rw [e, ← hkd]
    unfold keyL
    rw [if_pos (by omega), shaL_length]
    omega
  rw [hkd]
  clear hkk hkd hkl
  obtain ⟨i0, hi0, hz0, hz1, hz2⟩ := info_parts u8_info5
  have hmk : ∀ W : World, (Instr.makeSlice 49 (.int .i64 64) (.int .i64 64)).run Tryd.prog W = .ok (.slice (some ⟨W.heap.size, 0, none⟩) 64 64) (W.alloc (.cells (List.replicate 64 (Value.int .u8 0)).toArray 5)) := fun W => by
    rw [← made64b]
    exact run_make_row 49 5 i0 (.int .u8 0) Tryd.underlying49 hi0 hz0 hz1 rfl .i64 .i64 64 (by rw [hz2]; decide) (by decide) W
  clear hi0 hz0 hz1 hz2
  have hkzl : kk.data.toList.length ≤ 64 := by
    have e : kk.size = kk.data.toList.length := by simp
    omega
  have hAl : (blkL kk.data.toList m).length = 64 := blkL_length _ _ hkzl
  have hA1 : ∀ (k : Nat) (h : k < kk.size), (blkL kk.data.toList m)[k]? = some (kk[k] ^^^ m) := fun k h => by
    unfold blkL
    rw [List.getElem?_map, List.getElem?_append_left (by simpa using h)]
    have e : kk.data.toList[k]? = some kk[k] := by
      rw [Array.getElem?_toList, Array.getElem?_eq_getElem h]; rfl
    rw [e]; rfl
  have hA2 : ∀ k, kk.size ≤ k → k < 64 → (blkL kk.data.toList m)[k]? = some m := fun k h h64 => by
    unfold blkL
    have hl : kk.data.toList.length = kk.size := by simp
    rw [List.getElem?_map, List.getElem?_append_right (by omega), List.getElem?_replicate, if_pos (by omega)]
    show some (0 ^^^ m) = some m
    rw [UInt8.zero_xor]
  obtain ⟨A, hA⟩ : ∃ A, blkL kk.data.toList m = A := ⟨_, rfl⟩
  rw [hA] at hAl hA1 hA2 ⊢
  have HA := Lib.hid (And.intro hAl (And.intro hA1 hA2))
  clear hAl hA1 hA2 hA
  go_enter Tryd.func19, Tryd.ntmps19
  go_wp2_with fail
  refine (HTX.out _).mono ?_
  rintro e w0 ⟨rfl, hb0⟩
  go_wp2
  have r1 := Row.new w0 5 (List.replicate 64 (Value.int .u8 0))
  have b1 := hb0.alloc hb0.size (.cells (List.replicate 64 (Value.int .u8 0)).toArray 5)
  have hsz0 := hb0.size
  clear hmk hb0
  go_loopw [6] (fun i wr => ∃ k : Nat, k ≤ 64 ∧ i = .int .i64 k ∧ Row wr w0.heap.size 5 (prow A k) ∧ Below w.heap.size w wr) (fun i _ => 64 - (intOf i).toNat)
  case atStart => exact ⟨0, Nat.zero_le _, rfl, r1, b1⟩
  case round =>
    obtain ⟨k, hk, rfl, h1, h2⟩ := hrel
    clear r1 b1
    by_cases hlt : k < 64
    · obtain ⟨v0, hc0⟩ : ∃ v, wr.cell? ⟨w0.heap.size, k, none⟩ = some v := by
        rw [h1.cell]; exact ⟨_, List.getElem?_eq_getElem (by rw [prow_length A HA.out.1 hk]; exact hlt)⟩
      have hf0 := h1.frozen k
      have hkI2 : (k : Int) < 64 := by omega
      have hs1 := h1.set k (.int .u8 (m.toNat : Int))
      have hb1 := h2.setCell (p := ⟨w0.heap.size, k, none⟩) hsz0 (.int .u8 (m.toNat : Int))
      by_cases hkk : k < kk.size
      · obtain ⟨x, hx⟩ : ∃ x, kk[k] = x := ⟨_, rfl⟩
        have hAx := HA.out.2.1 k hkk
        rw [hx] at hAx
        have hX := u8_xor_bits x m
        have hc1 : (wr.setCell ⟨w0.heap.size, k, none⟩ (.int .u8 (m.toNat : Int))).cell? ⟨w0.heap.size, k, none⟩ = some (.int .u8 (m.toNat : Int)) := by
          rw [hs1.cell, List.getElem?_set_self (by rw [prow_length A HA.out.1 hk]; exact hlt)]
        have hf1 := hs1.frozen k
        have hs2 := hs1.set k (.int .u8 ((x ^^^ m).toNat : Int))
        rw [List.set_set, prow_set A HA.out.1 hlt _ hAx] at hs2
        have hb2 := hb1.setCell (p := ⟨w0.heap.size, k, none⟩) hsz0 (.int .u8 ((x ^^^ m).toNat : Int))
        have H := Lib.hid (And.intro hs2 hb2)
        have hkkI : (k : Int) < (kk.size : Int) := by omega
        obtain ⟨z, hz⟩ : ∃ z, x ^^^ m = z := ⟨_, rfl⟩
        rw [hz] at hX H
        clear hs1 hb1 hs2 hb2 h1 h2 hAx hz
        go_wp2
        go_roundw
        case rel => exact ⟨k + 1, by omega, by go_num, H.out.1, H.out.2⟩
        case measure => simp [intOf]; omega
      · have hAx := HA.out.2.2 k (by omega) hlt
        rw [prow_set A HA.out.1 hlt _ hAx] at hs1
        have H := Lib.hid (And.intro hs1 hb1)
        have hkkI : (kk.size : Int) ≤ (k : Int) := by omega
        clear hs1 hb1 h1 h2 hAx
        go_wp2
        go_roundw
        case rel => exact ⟨k + 1, by omega, by go_num, H.out.1, H.out.2⟩
        case measure => simp [intOf]; omega
    · have hk2 : k = 64 := by omega
      rw [hk2, prow_all A HA.out.1] at h1
      have hge : 64 ≤ k := by omega
      have hcv := conv_bytes (P := Tryd.prog) wr 49 9 5 Tryd.underlying49 Tryd.underlying5 Tryd.underlying9 w0.heap.size 0 64 64 A HA.out.1 (fun i hi => by
        rw [Nat.zero_add, h1.cell])
      have H := Lib.hid h2
      clear hk2 hlt hk h1 h2
      go_wp2
      go_ret
      exact ⟨rfl, H.out⟩

theorem refBlk_all (key : ByteArray) (m : UInt8) (hk : key.size ≤ 100000) (w : World) :
    Calls Tryd.prog 19 #[.string key, .int .u8 m.toNat] w fun e w' => e = .returned (.string ⟨(blkL (keyL key.data.toList) m).toArray⟩) ∧ Below w.heap.size w w' := by
  by_cases h : 64 < key.size
  · exact refBlk_long key m h hk w
  · have hl : key.data.toList.length = key.size := by simp
    have e : keyL key.data.toList = key.data.toList := by unfold keyL; rw [if_neg (by omega)]
    rw [e]
    exact refBlk_any key m (by omega) w
end Go.Proofs.YtehoofddklbnaaaDoor

namespace Go.Proofs.YtehoofddklbnaaaDoor
open Go.RowKit
set_option linter.unusedVariables false

set_option maxRecDepth 20000 in
set_option maxHeartbeats 4000000 in
theorem refHm_any (key s : ByteArray) (hk : key.size ≤ 10000) (hs : s.size ≤ 10000) (w : World) :
    Calls Tryd.prog 6 #[.string key, .string s] w fun e w' => e = .returned (.string ⟨(hmacL key.data.toList s.data.toList).toArray⟩) ∧ Below w.heap.size w w' := by
  have hkL : (keyL key.data.toList).length ≤ 64 := by
    unfold keyL
    split
    · rw [shaL_length]; omega
    · omega
  obtain ⟨x0, hx0⟩ : ∃ x : ByteArray, (⟨(blkL (keyL key.data.toList) 54).toArray⟩ : ByteArray) = x := ⟨_, rfl⟩
  obtain ⟨x1, hx1⟩ : ∃ x : ByteArray, (⟨(blkL (keyL key.data.toList) 92).toArray⟩ : ByteArray) = x := ⟨_, rfl⟩
  have HP0 : Hid (∀ W : World, Calls Tryd.prog 19 #[.string key, .int .u8 54] W fun e w' => e = .returned (.string x0) ∧ Below W.heap.size W w') := Lib.hid fun W => by rw [← hx0]; exact refBlk_all key 54 (by omega) W
  have HP1 : Hid (∀ W : World, Calls Tryd.prog 19 #[.string key, .int .u8 92] W fun e w' => e = .returned (.string x1) ∧ Below W.heap.size W w') := Lib.hid fun W => by rw [← hx1]; exact refBlk_all key 92 (by omega) W
  have hd0 : x0.data.toList = blkL (keyL key.data.toList) 54 := by rw [← hx0]
  have hd1 : x1.data.toList = blkL (keyL key.data.toList) 92 := by rw [← hx1]
  have hz0 : x0.size = 64 := by
    have e : x0.size = x0.data.toList.length := by simp
    rw [e, hd0, blkL_length _ _ hkL]
  have hz1 : x1.size = 64 := by
    have e : x1.size = x1.data.toList.length := by simp
    rw [e, hd1, blkL_length _ _ hkL]
  obtain ⟨t0, ht0⟩ : ∃ t, x0 ++ s = t := ⟨_, rfl⟩
  have hts : t0.size ≤ 100000 := by rw [← ht0, ByteArray.size_append]; omega
  have ha0 : ∀ W : World, (Op.stringOp .add x0 s).run Tryd.prog W = .ok (.string t0) W := fun W => by rw [← ht0]; exact run_string_add_sum W x0 s (by omega)
  obtain ⟨y, hy⟩ : ∃ y : ByteArray, (⟨(shaL t0.data.toList).toArray⟩ : ByteArray) = y := ⟨_, rfl⟩
  have hyd : y.data.toList = shaL t0.data.toList := by rw [← hy]
  have hyz : y.size = 32 := by
    have e : y.size = y.data.toList.length := by simp
    rw [e, hyd, shaL_length]
  have HT0 : Hid (∀ W : World, Calls Tryd.prog 18 #[.string t0] W fun e w' => e = .returned (.string y) ∧ Below W.heap.size W w') := Lib.hid fun W => by rw [← hy]; exact refText_any t0 hts W
  obtain ⟨t1, ht1⟩ : ∃ t, x1 ++ y = t := ⟨_, rfl⟩
  have hts1 : t1.size ≤ 100000 := by rw [← ht1, ByteArray.size_append]; omega
  have ha1 : ∀ W : World, (Op.stringOp .add x1 y).run Tryd.prog W = .ok (.string t1) W := fun W => by rw [← ht1]; exact run_string_add_sum W x1 y (by omega)
  obtain ⟨r, hr⟩ : ∃ r : ByteArray, (⟨(shaL t1.data.toList).toArray⟩ : ByteArray) = r := ⟨_, rfl⟩
  have HT1 : Hid (∀ W : World, Calls Tryd.prog 18 #[.string t1] W fun e w' => e = .returned (.string r) ∧ Below W.heap.size W w') := Lib.hid fun W => by rw [← hr]; exact refText_any t1 hts1 W
  have hfin : (⟨(hmacL key.data.toList s.data.toList).toArray⟩ : ByteArray) = r := by
    rw [← hr, ← ht1]
    have e1 : (x1 ++ y).data.toList = x1.data.toList ++ y.data.toList := by simp
    rw [e1, hyd, ← ht0]
    have e0 : (x0 ++ s).data.toList = x0.data.toList ++ s.data.toList := by simp
    rw [e0, hd0, hd1, hmacL]
  rw [hfin]
  clear hkL hx0 hx1 hd0 hd1 hz0 hz1 ht0 hts hy hyd hyz ht1 hts1 hr hfin
  go_enter Tryd.func6, Tryd.ntmps6
  go_wp2_with fail
  refine (HP1.out _).mono ?_
  rintro e w1 ⟨rfl, hb1⟩
  go_wp2_with fail
  refine (HP0.out _).mono ?_
  rintro e w2 ⟨rfl, hb2⟩
  have hb2 := hb1.trans (hb2.mono hb1.size)
  go_wp2_with fail
  refine (HT0.out _).mono ?_
  rintro e w3 ⟨rfl, hb3⟩
  have hb3 := hb2.trans (hb3.mono hb2.size)
  go_wp2_with fail
  refine (HT1.out _).mono ?_
  rintro e w4 ⟨rfl, hb4⟩
  have hb4 := hb3.trans (hb4.mono hb3.size)
  go_wp2_with fail
  go_ret
  exact ⟨rfl, hb4⟩
end Go.Proofs.YtehoofddklbnaaaDoor

namespace Go.Proofs.YtehoofddklbnaaaDoor
open Go.RowKit
set_option linter.unusedVariables false
set_option linter.unusedSimpArgs false

theorem max3 {P : Program} (a b c : Nat) : ∃ M : Int, (M ≤ 500 ↔ a ≤ 500 ∧ b ≤ 500 ∧ c ≤ 500) ∧
    ∀ (W : World) (ts : Array TypeId) (t : TypeId), (Builtin.max_ ts t #[.int .i64 a, .int .i64 b, .int .i64 c]).run P W = .ok (.int .i64 M) W := by
  refine ⟨max (max (a : Int) b) c, by omega, fun W ts t => ?_⟩
  have e : ∀ x y : Int, (if x < y then y else x) = max x y := by intro x y; split <;> omega
  simp [Builtin.max_, Builtin.max2, e]
  omega
theorem max3_le (a b c : Nat) (h : ¬ (500 < a ∨ 500 < b ∨ 500 < c)) : a ≤ 500 ∧ b ≤ 500 ∧ c ≤ 500 := by omega
abbrev SB (w w' : World) : Prop := Below w.heap.size w w'
theorem SB.next {w W W' : World} (h : SB w W) (hb : Below W.heap.size W W') : SB w W' := Below.trans h (hb.mono (Below.size h))
theorem SB.al {w W : World} (h : SB w W) (o : Obj) : SB w (W.alloc o) := Below.alloc h (Below.size h) o
theorem SB.dr {w W : World} (h : SB w W) : SB w W.drew := below_drewN h 1

attribute [local irreducible] shaL hmacL
set_option maxRecDepth 100000 in
set_option maxHeartbeats 4000000 in
theorem HmacSums_walk (a0 a1 a2 : ByteArray) (a3 : Int) (w0 : a0.size ≤ 140737488355328) (w1 : a1.size ≤ 140737488355328) (w2 : a2.size ≤ 140737488355328) (w3 : (Lit.int .i64 a3).wf = true) (w : World) (hG : G w) :
    Calls Tryd.prog 3 #[.string a0, .string a1, .string a2, .int .i64 a3] w fun e w' => e = .returned (.bool true) ∧ Below w.heap.size w w' := by
  have h3 : -9223372036854775808 ≤ a3 ∧ a3 ≤ 9223372036854775807 := by simpa [Lit.wf, IntKind.min, IntKind.max, IntKind.signed, IntKind.bits] using w3
  clear w3
  have HG := Lib.hid hG
  clear hG
  obtain ⟨M, hM, hmx⟩ := max3 (P := Tryd.prog) a0.size a1.size a2.size
  by_cases hbig : M ≤ 500
  rotate_left
  · have hbi : (500 : Int) < M := by omega
    clear hM hbig
    go_enter Tryd.func3, Tryd.ntmps3
    go_wp2_with fail
    refine (awake6_any _ HG.out).mono ?_
    rintro e wa ⟨rfl, hba⟩
    go_wp2_with fail
    go_ret
    exact ⟨rfl, hba⟩
  · obtain ⟨hk, hs, ht⟩ := hM.1 hbig
    clear hM
    have hkI : (a0.size : Int) ≤ 500 := by omega
    have hsI : (a1.size : Int) ≤ 500 := by omega
    have htI : (a2.size : Int) ≤ 500 := by omega
    obtain ⟨st, hst⟩ : ∃ t : ByteArray, a1 ++ a2 = t := ⟨_, rfl⟩
    have hsts : st.size = a1.size + a2.size := by rw [← hst, ByteArray.size_append]
    have hstd : st.data.toList = a1.data.toList ++ a2.data.toList := by rw [← hst, ByteArray.data_append, Array.toList_append]
    have hadd : ∀ W : World, (Op.stringOp .add a1 a2).run Tryd.prog W = .ok (.string st) W := fun W => by rw [← hst]; exact run_string_add_sum W a1 a2 (by omega)
    have hadde : ∀ W : World, (Op.stringOp .add a1 { data := #[] }).run Tryd.prog W = .ok (.string a1) W := fun W => by
      have h := run_string_add_sum (P := Tryd.prog) W a1 { data := #[] } (by show a1.size + 0 ≤ _; omega)
      rw [h]
      congr 2
      apply ByteArray.ext
      simp
    obtain ⟨r, hr⟩ : ∃ r : ByteArray, (⟨(hmacL a0.data.toList st.data.toList).toArray⟩ : ByteArray) = r := ⟨_, rfl⟩
    have hrs : r.size = 32 := by rw [← hr]; show (hmacL a0.data.toList st.data.toList).toArray.size = 32; rw [List.size_toArray, hmacL_length]
    have HREF : Hid (∀ W : World, Calls Tryd.prog 6 #[.string a0, .string st] W fun e w' => e = .returned (.string r) ∧ Below W.heap.size W w') := Lib.hid fun W => by
      rw [← hr]; exact refHm_any a0 st (by omega) (by omega) W
    have HS2 : Hid (∀ (W : World) (g : Nat), G W → Row W g 9 [.string a1, .string a2] → Calls Tryd.prog 7 #[.string a0, .slice (some ⟨g, 0, none⟩) 2 2] W fun e w' => e = .returned (.string r) ∧ Below W.heap.size W w') := Lib.hid fun W g h1 h2 => by
      have h := HmSum_two a0 a1 a2 (by omega) (by omega) (by omega) W g h1 h2
      rwa [← hstd, hr] at h
    have HS1 : Hid (∀ (W : World) (g : Nat), G W → Row W g 9 [.string st] → Calls Tryd.prog 7 #[.string a0, .slice (some ⟨g, 0, none⟩) 1 1] W fun e w' => e = .returned (.string r) ∧ Below W.heap.size W w') := Lib.hid fun W g h1 h2 => by
      have h := HmSum_one a0 st (by omega) (by omega) W g h1 h2
      rwa [hr] at h
    obtain ⟨m, hm32, hmm⟩ : ∃ m : Nat, m ≤ 32 ∧ min (max a3 0) 32 = (m : Int) := ⟨(min (max a3 0) 32).toNat, by omega, by omega⟩
    obtain ⟨q, hq⟩ : ∃ q : ByteArray, r.extract 0 m = q := ⟨_, rfl⟩
    have HSH : Hid (∀ (W : World) (g : Nat), G W → Row W g 9 [.string a1, .string a2] → Calls Tryd.prog 8 #[.string a0, .int .i64 a3, .slice (some ⟨g, 0, none⟩) 2 2] W fun e w' => e = .returned (.string q) ∧ Below W.heap.size W w') := Lib.hid fun W g h1 h2 => by
      have h := HmShort_two a0 a1 a2 a3 h3 m hm32 hmm (by omega) (by omega) (by omega) W g h1 h2
      rwa [← hstd, hr, hq] at h
    obtain ⟨bb, hbl⟩ : ∃ bb : Bool, (a1.toList == a2.toList) = bb := ⟨_, rfl⟩
    have hbb : decide (a1.data.toList = a2.data.toList) = bb := by
      rw [← hbl, ByteArray.toList_eq, ByteArray.toList_eq, Bool.eq_iff_iff]
      simp
    have HSM : Hid (∀ W : World, Calls Tryd.prog 9 #[.string a1, .string a2] W fun e w' => e = .returned (.bool bb) ∧ Below W.heap.size W w') := Lib.hid fun W => by
      rw [← hbb]; exact Same_any a1 a2 W (by omega)
    have HSS : Hid (∀ W : World, Calls Tryd.prog 9 #[.string a1, .string a1] W fun e w' => e = .returned (.bool true) ∧ Below W.heap.size W w') := Lib.hid fun W => by
      have h := Same_any a1 a1 W (by omega)
      simpa using h
    have hrr : (r.toList == r.toList) = true := by simp
    have hqq : (q.toList == q.toList) = true := by simp
    have hm32I : (m : Int) ≤ (r.size : Int) := by omega
    have hm0I : (0 : Int) ≤ (m : Int) := by omega
    obtain ⟨mx, hmx0⟩ : ∃ mx : Int, max a3 0 = mx := ⟨_, rfl⟩
    rw [hmx0] at hmm
    have hMax : ∀ (W : World) (ts : Array TypeId) (t : TypeId), (Builtin.max_ ts t #[.int .i64 a3, .int .i64 0]).run Tryd.prog W = .ok (.int .i64 mx) W := fun W ts t => by
      rw [← hmx0]
      have e : ∀ x y : Int, (if x < y then y else x) = max x y := by intro x y; split <;> omega
      simp [Builtin.max_, Builtin.max2, e]
    have hMin : ∀ (W : World) (ts : Array TypeId) (t : TypeId), (Builtin.min_ ts t #[.int .i64 mx, .int .i64 32]).run Tryd.prog W = .ok (.int .i64 m) W := fun W ts t => by
      rw [← hmm]
      have e : ∀ x y : Int, (if y < x then y else x) = min x y := by intro x y; split <;> omega
      simp [Builtin.min_, Builtin.min2, e]
      try omega
    have hSl : ∀ W : World, (Instr.sliceAt 9 (.string r) none (some (.int .i64 (m : Int))) none).run Tryd.prog W = .ok (.string q) W := fun W => by
      have h0 : (0 : Int) ≤ (m : Int) := by omega
      have h1 : (m : Int) ≤ (r.size : Int) := by omega
      rw [← hq]
      simp [go_sem, Tryd.underlying9, h0, h1]

    clear hst hsts hstd hr hq hbb hrs hmm hmx0 hk hs ht hm32 w0 w1 w2
    have B0 := Below.refl w.heap.size w
    go_enter Tryd.func3, Tryd.ntmps3
    go_wp2_with fail
    refine (awake6_any _ HG.out).mono ?_
    rintro e wa ⟨rfl, hba⟩
    go_wp2_with fail
    refine (HREF.out _).mono ?_
    rintro e wb ⟨rfl, hbb⟩
    have SB0 : SB w wb := hba.trans (hbb.mono hba.size)
    clear hba hbb B0
    go_wp2_with fail
    refine wp_region_noPanic ?_
    refine wp_region_held_drew (S := fun W => SB w W) (by kernel_rfl) (SB.dr SB0) (fun hHeld => ?_)
    refine wpAnyH_take (i := 0) (oi := { dst := some 25, op := Op.move (Operand.tmp 0), type := 9, pos := "law.go:33", after := #[], guard := none }) (v := ?vvh_0) rfl (by kernel_rfl) (by kernel_rfl) (by kernel_rfl) (fun _ _ _ h => h) (Or.inl ⟨by rfl, ?yyh_0⟩) hHeld ?_
    case vvh_0 => exact .string a0
    case yyh_0 =>
      intro W hS
      go_simp
    try simp only [Act.put, List.setIfInBounds_toArray, List.set_cons_zero, List.set_cons_succ]
    refine wpAnyH_take (i := 1) (oi := { dst := some 26, op := Op.move (Operand.tmp 1), type := 9, pos := "law.go:33", after := #[], guard := none }) (v := ?vvh_1) rfl (by kernel_rfl) (by kernel_rfl) (by kernel_rfl) (fun _ _ _ h => h) (Or.inl ⟨by rfl, ?yyh_1⟩) hHeld ?_
    case vvh_1 => exact .string a1
    case yyh_1 =>
      intro W hS
      go_simp
    try simp only [Act.put, List.setIfInBounds_toArray, List.set_cons_zero, List.set_cons_succ]
    refine wpAnyH_take (i := 2) (oi := { dst := some 27, op := Op.move (Operand.tmp 2), type := 9, pos := "law.go:33", after := #[], guard := none }) (v := ?vvh_2) rfl (by kernel_rfl) (by kernel_rfl) (by kernel_rfl) (fun _ _ _ h => h) (Or.inl ⟨by rfl, ?yyh_2⟩) hHeld ?_
    case vvh_2 => exact .string a2
    case yyh_2 =>
      intro W hS
      go_simp
    try simp only [Act.put, List.setIfInBounds_toArray, List.set_cons_zero, List.set_cons_succ]
    refine wpAnyH_take (i := 5) (oi := { dst := some 30, op := Op.move (Operand.tmp 9), type := 9, pos := "law.go:33", after := #[], guard := none }) (v := ?vvh_5) rfl (by kernel_rfl) (by kernel_rfl) (by kernel_rfl) (fun _ _ _ h => h) (Or.inl ⟨by rfl, ?yyh_5⟩) hHeld ?_
    case vvh_5 => exact .string r
    case yyh_5 =>
      intro W hS
      go_simp
    try simp only [Act.put, List.setIfInBounds_toArray, List.set_cons_zero, List.set_cons_succ]
    refine wpAnyH_ready (rs := [3]) (by kernel_rfl) (by simp) (AllReadyH.cons (o := { dst := some 28, op := Op.buildSlice 38 2 #[(0, Operand.tmp 26), (1, Operand.tmp 27)], type := 38, pos := "law.go:33", after := #[{ on := 1, ground := Ground.data }, { on := 2, ground := Ground.data }], guard := none }) rfl (fun K hK => ?_) AllReadyH.nil)
    go_simp
    have s1 := SB.al (SB.dr SB0) (.cells #[.string a1, .string a2] 9)
    refine hK.out _ _ s1 (fun hHeld => ?_)
    clear hK K
    try simp only [Act.put, List.setIfInBounds_toArray, List.set_cons_zero, List.set_cons_succ]
    refine wpAnyH_ready (rs := [4]) (by kernel_rfl) (by simp) (AllReadyH.cons (o := { dst := some 29, op := Op.call { callee := Callee.value (Operand.func 7), args := #[Operand.tmp 25, Operand.tmp 28], argTypes := #[9, 38] }, type := 9, pos := "law.go:33", after := #[{ on := 0, ground := Ground.data }, { on := 3, ground := Ground.data }], guard := none }) rfl (fun K hK => ?_) AllReadyH.nil)
    go_simp
    go_at_call 7
    refine (HS2.out _ wb.heap.size (HG.out.mid s1 HG.out.lt) (Row.drewN (Row.new wb 9 [.string a1, .string a2]) 1)).mono ?_
    rintro e sw2 ⟨rfl, sb2⟩
    have s2 := SB.next s1 sb2
    refine hK.out _ _ s2 (fun hHeld => ?_)
    clear hK K
    try simp only [Act.put, List.setIfInBounds_toArray, List.set_cons_zero, List.set_cons_succ]
    clear sb2
    refine wpAnyH_take (i := 6) (oi := { dst := some 31, op := Op.binOp BinOp.eql 9 (Operand.tmp 29) (Operand.tmp 30) 9, type := 4, pos := "law.go:33", after := #[{ on := 4, ground := Ground.data }, { on := 5, ground := Ground.data }], guard := none }) (v := ?vvh_6) rfl (by kernel_rfl) (by kernel_rfl) (by kernel_rfl) (fun _ _ _ h => h) (Or.inl ⟨by rfl, ?yyh_6⟩) hHeld ?_
    case vvh_6 => exact .bool true
    case yyh_6 =>
      intro W hS
      go_simp
    try simp only [Act.put, List.setIfInBounds_toArray, List.set_cons_zero, List.set_cons_succ]
    refine wpAnyH_take (i := 7) (oi := { dst := some 32, op := Op.move (Operand.tmp 31), type := 4, pos := "law.go:33", after := #[{ on := 6, ground := Ground.data }, { on := 4, ground := Ground.chain }], guard := none }) (v := ?vvh_7) rfl (by kernel_rfl) (by kernel_rfl) (by kernel_rfl) (fun _ _ _ h => h) (Or.inl ⟨by rfl, ?yyh_7⟩) hHeld ?_
    case vvh_7 => exact .bool true
    case yyh_7 =>
      intro W hS
      go_simp
    try simp only [Act.put, List.setIfInBounds_toArray, List.set_cons_zero, List.set_cons_succ]
    refine wpAnyH_take (i := 8) (oi := { dst := some 33, op := Op.move (Operand.tmp 0), type := 9, pos := "law.go:33", after := #[{ on := 7, ground := Ground.guard }], guard := some (7, true) }) (v := ?vvh_8) rfl (by kernel_rfl) (by kernel_rfl) (by kernel_rfl) (fun _ _ _ h => h) (Or.inl ⟨by rfl, ?yyh_8⟩) hHeld ?_
    case vvh_8 => exact .string a0
    case yyh_8 =>
      intro W hS
      go_simp
    try simp only [Act.put, List.setIfInBounds_toArray, List.set_cons_zero, List.set_cons_succ]
    refine wpAnyH_take (i := 9) (oi := { dst := some 34, op := Op.move (Operand.tmp 1), type := 9, pos := "law.go:33", after := #[{ on := 7, ground := Ground.guard }], guard := some (7, true) }) (v := ?vvh_9) rfl (by kernel_rfl) (by kernel_rfl) (by kernel_rfl) (fun _ _ _ h => h) (Or.inl ⟨by rfl, ?yyh_9⟩) hHeld ?_
    case vvh_9 => exact .string a1
    case yyh_9 =>
      intro W hS
      go_simp
    try simp only [Act.put, List.setIfInBounds_toArray, List.set_cons_zero, List.set_cons_succ]
    refine wpAnyH_take (i := 10) (oi := { dst := some 35, op := Op.move (Operand.tmp 2), type := 9, pos := "law.go:33", after := #[{ on := 7, ground := Ground.guard }], guard := some (7, true) }) (v := ?vvh_10) rfl (by kernel_rfl) (by kernel_rfl) (by kernel_rfl) (fun _ _ _ h => h) (Or.inl ⟨by rfl, ?yyh_10⟩) hHeld ?_
    case vvh_10 => exact .string a2
    case yyh_10 =>
      intro W hS
      go_simp
    try simp only [Act.put, List.setIfInBounds_toArray, List.set_cons_zero, List.set_cons_succ]
    refine wpAnyH_take (i := 11) (oi := { dst := some 36, op := Op.binOp BinOp.add 9 (Operand.tmp 34) (Operand.tmp 35) 9, type := 9, pos := "law.go:33", after := #[{ on := 9, ground := Ground.data }, { on := 10, ground := Ground.data }, { on := 7, ground := Ground.guard }], guard := some (7, true) }) (v := ?vvh_11) rfl (by kernel_rfl) (by kernel_rfl) (by kernel_rfl) (fun _ _ _ h => h) (Or.inl ⟨by rfl, ?yyh_11⟩) hHeld ?_
    case vvh_11 => exact .string st
    case yyh_11 =>
      intro W hS
      go_simp
    try simp only [Act.put, List.setIfInBounds_toArray, List.set_cons_zero, List.set_cons_succ]
    refine wpAnyH_take (i := 14) (oi := { dst := some 39, op := Op.move (Operand.tmp 9), type := 9, pos := "law.go:33", after := #[{ on := 7, ground := Ground.guard }], guard := some (7, true) }) (v := ?vvh_14) rfl (by kernel_rfl) (by kernel_rfl) (by kernel_rfl) (fun _ _ _ h => h) (Or.inl ⟨by rfl, ?yyh_14⟩) hHeld ?_
    case vvh_14 => exact .string r
    case yyh_14 =>
      intro W hS
      go_simp
    try simp only [Act.put, List.setIfInBounds_toArray, List.set_cons_zero, List.set_cons_succ]
    refine wpAnyH_ready (rs := [12]) (by kernel_rfl) (by simp) (AllReadyH.cons (o := { dst := some 37, op := Op.buildSlice 38 1 #[(0, Operand.tmp 36)], type := 38, pos := "law.go:33", after := #[{ on := 11, ground := Ground.data }, { on := 7, ground := Ground.guard }], guard := some (7, true) }) rfl (fun K hK => ?_) AllReadyH.nil)
    go_simp
    have s3 := SB.al s2 (.cells #[.string st] 9)
    refine hK.out _ _ s3 (fun hHeld => ?_)
    clear hK K
    try simp only [Act.put, List.setIfInBounds_toArray, List.set_cons_zero, List.set_cons_succ]
    refine wpAnyH_ready (rs := [13]) (by kernel_rfl) (by simp) (AllReadyH.cons (o := { dst := some 38, op := Op.call { callee := Callee.value (Operand.func 7), args := #[Operand.tmp 33, Operand.tmp 37], argTypes := #[9, 38] }, type := 9, pos := "law.go:33", after := #[{ on := 8, ground := Ground.data }, { on := 12, ground := Ground.data }, { on := 7, ground := Ground.chain }, { on := 7, ground := Ground.guard }], guard := some (7, true) }) rfl (fun K hK => ?_) AllReadyH.nil)
    go_simp
    go_at_call 7
    refine (HS1.out _ sw2.heap.size (HG.out.mid s3 HG.out.lt) (Row.new sw2 9 [.string st])).mono ?_
    rintro e sw4 ⟨rfl, sb4⟩
    have s4 := SB.next s3 sb4
    refine hK.out _ _ s4 (fun hHeld => ?_)
    clear hK K
    try simp only [Act.put, List.setIfInBounds_toArray, List.set_cons_zero, List.set_cons_succ]
    clear sb4
    refine wpAnyH_take (i := 15) (oi := { dst := some 40, op := Op.binOp BinOp.eql 9 (Operand.tmp 38) (Operand.tmp 39) 9, type := 4, pos := "law.go:33", after := #[{ on := 13, ground := Ground.data }, { on := 14, ground := Ground.data }, { on := 7, ground := Ground.guard }], guard := some (7, true) }) (v := ?vvh_15) rfl (by kernel_rfl) (by kernel_rfl) (by kernel_rfl) (fun _ _ _ h => h) (Or.inl ⟨by rfl, ?yyh_15⟩) hHeld ?_
    case vvh_15 => exact .bool true
    case yyh_15 =>
      intro W hS
      go_simp
    try simp only [Act.put, List.setIfInBounds_toArray, List.set_cons_zero, List.set_cons_succ]
    refine wpAnyH_take (i := 16) (oi := { dst := some 41, op := Op.pick (Operand.tmp 32) (Operand.tmp 40) (Operand.const (Value.bool false)), type := 4, pos := "law.go:33", after := #[{ on := 7, ground := Ground.data }, { on := 15, ground := Ground.data }], guard := none }) (v := ?vvh_16) rfl (by kernel_rfl) (by kernel_rfl) (by kernel_rfl) (fun _ _ _ h => h) (Or.inl ⟨by rfl, ?yyh_16⟩) hHeld ?_
    case vvh_16 => exact .bool true
    case yyh_16 =>
      intro W hS
      go_simp
    try simp only [Act.put, List.setIfInBounds_toArray, List.set_cons_zero, List.set_cons_succ]
    refine wpAnyH_take (i := 17) (oi := { dst := some 42, op := Op.move (Operand.tmp 41), type := 4, pos := "law.go:33", after := #[{ on := 16, ground := Ground.data }, { on := 13, ground := Ground.chain }], guard := none }) (v := ?vvh_17) rfl (by kernel_rfl) (by kernel_rfl) (by kernel_rfl) (fun _ _ _ h => h) (Or.inl ⟨by rfl, ?yyh_17⟩) hHeld ?_
    case vvh_17 => exact .bool true
    case yyh_17 =>
      intro W hS
      go_simp
    try simp only [Act.put, List.setIfInBounds_toArray, List.set_cons_zero, List.set_cons_succ]
    refine wpAnyH_take (i := 18) (oi := { dst := some 43, op := Op.move (Operand.tmp 0), type := 9, pos := "law.go:33", after := #[{ on := 17, ground := Ground.guard }], guard := some (17, true) }) (v := ?vvh_18) rfl (by kernel_rfl) (by kernel_rfl) (by kernel_rfl) (fun _ _ _ h => h) (Or.inl ⟨by rfl, ?yyh_18⟩) hHeld ?_
    case vvh_18 => exact .string a0
    case yyh_18 =>
      intro W hS
      go_simp
    try simp only [Act.put, List.setIfInBounds_toArray, List.set_cons_zero, List.set_cons_succ]
    refine wpAnyH_take (i := 19) (oi := { dst := some 44, op := Op.move (Operand.tmp 3), type := 3, pos := "law.go:33", after := #[{ on := 17, ground := Ground.guard }], guard := some (17, true) }) (v := ?vvh_19) rfl (by kernel_rfl) (by kernel_rfl) (by kernel_rfl) (fun _ _ _ h => h) (Or.inl ⟨by rfl, ?yyh_19⟩) hHeld ?_
    case vvh_19 => exact .int .i64 a3
    case yyh_19 =>
      intro W hS
      go_simp
    try simp only [Act.put, List.setIfInBounds_toArray, List.set_cons_zero, List.set_cons_succ]
    refine wpAnyH_take (i := 20) (oi := { dst := some 45, op := Op.move (Operand.tmp 1), type := 9, pos := "law.go:33", after := #[{ on := 17, ground := Ground.guard }], guard := some (17, true) }) (v := ?vvh_20) rfl (by kernel_rfl) (by kernel_rfl) (by kernel_rfl) (fun _ _ _ h => h) (Or.inl ⟨by rfl, ?yyh_20⟩) hHeld ?_
    case vvh_20 => exact .string a1
    case yyh_20 =>
      intro W hS
      go_simp
    try simp only [Act.put, List.setIfInBounds_toArray, List.set_cons_zero, List.set_cons_succ]
    refine wpAnyH_take (i := 21) (oi := { dst := some 46, op := Op.move (Operand.tmp 2), type := 9, pos := "law.go:33", after := #[{ on := 17, ground := Ground.guard }], guard := some (17, true) }) (v := ?vvh_21) rfl (by kernel_rfl) (by kernel_rfl) (by kernel_rfl) (fun _ _ _ h => h) (Or.inl ⟨by rfl, ?yyh_21⟩) hHeld ?_
    case vvh_21 => exact .string a2
    case yyh_21 =>
      intro W hS
      go_simp
    try simp only [Act.put, List.setIfInBounds_toArray, List.set_cons_zero, List.set_cons_succ]
    refine wpAnyH_take (i := 24) (oi := { dst := some 49, op := Op.move (Operand.tmp 9), type := 9, pos := "law.go:33", after := #[{ on := 17, ground := Ground.guard }], guard := some (17, true) }) (v := ?vvh_24) rfl (by kernel_rfl) (by kernel_rfl) (by kernel_rfl) (fun _ _ _ h => h) (Or.inl ⟨by rfl, ?yyh_24⟩) hHeld ?_
    case vvh_24 => exact .string r
    case yyh_24 =>
      intro W hS
      go_simp
    try simp only [Act.put, List.setIfInBounds_toArray, List.set_cons_zero, List.set_cons_succ]
    refine wpAnyH_take (i := 25) (oi := { dst := some 50, op := Op.move (Operand.tmp 3), type := 3, pos := "law.go:33", after := #[{ on := 17, ground := Ground.guard }], guard := some (17, true) }) (v := ?vvh_25) rfl (by kernel_rfl) (by kernel_rfl) (by kernel_rfl) (fun _ _ _ h => h) (Or.inl ⟨by rfl, ?yyh_25⟩) hHeld ?_
    case vvh_25 => exact .int .i64 a3
    case yyh_25 =>
      intro W hS
      go_simp
    try simp only [Act.put, List.setIfInBounds_toArray, List.set_cons_zero, List.set_cons_succ]
    refine wpAnyH_take (i := 26) (oi := { dst := some 51, op := Op.call { callee := Callee.builtin Builtin.max, args := #[Operand.tmp 50, Operand.const (Value.int IntKind.i64 0)], argTypes := #[3, 3] }, type := 3, pos := "law.go:33", after := #[{ on := 25, ground := Ground.data }, { on := 17, ground := Ground.guard }], guard := some (17, true) }) (v := ?vvh_26) rfl (by kernel_rfl) (by kernel_rfl) (by kernel_rfl) (fun _ _ _ h => h) (Or.inl ⟨by rfl, ?yyh_26⟩) hHeld ?_
    case vvh_26 => exact .int .i64 mx
    case yyh_26 =>
      intro W hS
      go_simp
    try simp only [Act.put, List.setIfInBounds_toArray, List.set_cons_zero, List.set_cons_succ]
    refine wpAnyH_take (i := 27) (oi := { dst := some 52, op := Op.call { callee := Callee.builtin Builtin.min, args := #[Operand.tmp 51, Operand.const (Value.int IntKind.i64 32)], argTypes := #[3, 3] }, type := 3, pos := "law.go:33", after := #[{ on := 26, ground := Ground.data }, { on := 17, ground := Ground.guard }], guard := some (17, true) }) (v := ?vvh_27) rfl (by kernel_rfl) (by kernel_rfl) (by kernel_rfl) (fun _ _ _ h => h) (Or.inl ⟨by rfl, ?yyh_27⟩) hHeld ?_
    case vvh_27 => exact .int .i64 m
    case yyh_27 =>
      intro W hS
      go_simp
    try simp only [Act.put, List.setIfInBounds_toArray, List.set_cons_zero, List.set_cons_succ]
    refine wpAnyH_take (i := 28) (oi := { dst := some 53, op := Op.slice 9 (Operand.tmp 49) none (some (Operand.tmp 52)) none, type := 9, pos := "law.go:33", after := #[{ on := 24, ground := Ground.data }, { on := 27, ground := Ground.data }, { on := 17, ground := Ground.guard }], guard := some (17, true) }) (v := ?vvh_28) rfl (by kernel_rfl) (by kernel_rfl) (by kernel_rfl) (fun _ _ _ h => h) (Or.inl ⟨by rfl, ?yyh_28⟩) hHeld ?_
    case vvh_28 => exact .string q
    case yyh_28 =>
      intro W hS
      go_simp
    try simp only [Act.put, List.setIfInBounds_toArray, List.set_cons_zero, List.set_cons_succ]
    refine wpAnyH_ready (rs := [22]) (by kernel_rfl) (by simp) (AllReadyH.cons (o := { dst := some 47, op := Op.buildSlice 38 2 #[(0, Operand.tmp 45), (1, Operand.tmp 46)], type := 38, pos := "law.go:33", after := #[{ on := 20, ground := Ground.data }, { on := 21, ground := Ground.data }, { on := 17, ground := Ground.guard }], guard := some (17, true) }) rfl (fun K hK => ?_) AllReadyH.nil)
    go_simp
    have s5 := SB.al s4 (.cells #[.string a1, .string a2] 9)
    refine hK.out _ _ s5 (fun hHeld => ?_)
    clear hK K
    try simp only [Act.put, List.setIfInBounds_toArray, List.set_cons_zero, List.set_cons_succ]
    refine wpAnyH_ready (rs := [23]) (by kernel_rfl) (by simp) (AllReadyH.cons (o := { dst := some 48, op := Op.call { callee := Callee.value (Operand.func 8), args := #[Operand.tmp 43, Operand.tmp 44, Operand.tmp 47], argTypes := #[9, 3, 38] }, type := 9, pos := "law.go:33", after := #[{ on := 18, ground := Ground.data }, { on := 19, ground := Ground.data }, { on := 22, ground := Ground.data }, { on := 17, ground := Ground.chain }, { on := 17, ground := Ground.guard }], guard := some (17, true) }) rfl (fun K hK => ?_) AllReadyH.nil)
    go_simp
    go_at_call 8
    refine (HSH.out _ sw4.heap.size (HG.out.mid s5 HG.out.lt) (Row.new sw4 9 [.string a1, .string a2])).mono ?_
    rintro e sw6 ⟨rfl, sb6⟩
    have s6 := SB.next s5 sb6
    refine hK.out _ _ s6 (fun hHeld => ?_)
    clear hK K
    try simp only [Act.put, List.setIfInBounds_toArray, List.set_cons_zero, List.set_cons_succ]
    clear sb6
    refine wpAnyH_take (i := 29) (oi := { dst := some 54, op := Op.binOp BinOp.eql 9 (Operand.tmp 48) (Operand.tmp 53) 9, type := 4, pos := "law.go:33", after := #[{ on := 23, ground := Ground.data }, { on := 28, ground := Ground.data }, { on := 17, ground := Ground.guard }], guard := some (17, true) }) (v := ?vvh_29) rfl (by kernel_rfl) (by kernel_rfl) (by kernel_rfl) (fun _ _ _ h => h) (Or.inl ⟨by rfl, ?yyh_29⟩) hHeld ?_
    case vvh_29 => exact .bool true
    case yyh_29 =>
      intro W hS
      go_simp
    try simp only [Act.put, List.setIfInBounds_toArray, List.set_cons_zero, List.set_cons_succ]
    refine wpAnyH_take (i := 30) (oi := { dst := some 55, op := Op.pick (Operand.tmp 42) (Operand.tmp 54) (Operand.const (Value.bool false)), type := 4, pos := "law.go:33", after := #[{ on := 17, ground := Ground.data }, { on := 29, ground := Ground.data }], guard := none }) (v := ?vvh_30) rfl (by kernel_rfl) (by kernel_rfl) (by kernel_rfl) (fun _ _ _ h => h) (Or.inl ⟨by rfl, ?yyh_30⟩) hHeld ?_
    case vvh_30 => exact .bool true
    case yyh_30 =>
      intro W hS
      go_simp
    try simp only [Act.put, List.setIfInBounds_toArray, List.set_cons_zero, List.set_cons_succ]
    refine wpAnyH_take (i := 31) (oi := { dst := some 56, op := Op.move (Operand.tmp 55), type := 4, pos := "law.go:33", after := #[{ on := 30, ground := Ground.data }, { on := 23, ground := Ground.chain }], guard := none }) (v := ?vvh_31) rfl (by kernel_rfl) (by kernel_rfl) (by kernel_rfl) (fun _ _ _ h => h) (Or.inl ⟨by rfl, ?yyh_31⟩) hHeld ?_
    case vvh_31 => exact .bool true
    case yyh_31 =>
      intro W hS
      go_simp
    try simp only [Act.put, List.setIfInBounds_toArray, List.set_cons_zero, List.set_cons_succ]
    refine wpAnyH_take (i := 32) (oi := { dst := some 57, op := Op.move (Operand.tmp 1), type := 9, pos := "law.go:33", after := #[{ on := 31, ground := Ground.guard }], guard := some (31, true) }) (v := ?vvh_32) rfl (by kernel_rfl) (by kernel_rfl) (by kernel_rfl) (fun _ _ _ h => h) (Or.inl ⟨by rfl, ?yyh_32⟩) hHeld ?_
    case vvh_32 => exact .string a1
    case yyh_32 =>
      intro W hS
      go_simp
    try simp only [Act.put, List.setIfInBounds_toArray, List.set_cons_zero, List.set_cons_succ]
    refine wpAnyH_take (i := 33) (oi := { dst := some 58, op := Op.move (Operand.tmp 2), type := 9, pos := "law.go:33", after := #[{ on := 31, ground := Ground.guard }], guard := some (31, true) }) (v := ?vvh_33) rfl (by kernel_rfl) (by kernel_rfl) (by kernel_rfl) (fun _ _ _ h => h) (Or.inl ⟨by rfl, ?yyh_33⟩) hHeld ?_
    case vvh_33 => exact .string a2
    case yyh_33 =>
      intro W hS
      go_simp
    try simp only [Act.put, List.setIfInBounds_toArray, List.set_cons_zero, List.set_cons_succ]
    refine wpAnyH_take (i := 35) (oi := { dst := some 60, op := Op.move (Operand.tmp 1), type := 9, pos := "law.go:33", after := #[{ on := 31, ground := Ground.guard }], guard := some (31, true) }) (v := ?vvh_35) rfl (by kernel_rfl) (by kernel_rfl) (by kernel_rfl) (fun _ _ _ h => h) (Or.inl ⟨by rfl, ?yyh_35⟩) hHeld ?_
    case vvh_35 => exact .string a1
    case yyh_35 =>
      intro W hS
      go_simp
    try simp only [Act.put, List.setIfInBounds_toArray, List.set_cons_zero, List.set_cons_succ]
    refine wpAnyH_take (i := 36) (oi := { dst := some 61, op := Op.move (Operand.tmp 2), type := 9, pos := "law.go:33", after := #[{ on := 31, ground := Ground.guard }], guard := some (31, true) }) (v := ?vvh_36) rfl (by kernel_rfl) (by kernel_rfl) (by kernel_rfl) (fun _ _ _ h => h) (Or.inl ⟨by rfl, ?yyh_36⟩) hHeld ?_
    case vvh_36 => exact .string a2
    case yyh_36 =>
      intro W hS
      go_simp
    try simp only [Act.put, List.setIfInBounds_toArray, List.set_cons_zero, List.set_cons_succ]
    refine wpAnyH_take (i := 37) (oi := { dst := some 62, op := Op.binOp BinOp.eql 9 (Operand.tmp 60) (Operand.tmp 61) 9, type := 4, pos := "law.go:33", after := #[{ on := 35, ground := Ground.data }, { on := 36, ground := Ground.data }, { on := 31, ground := Ground.guard }], guard := some (31, true) }) (v := ?vvh_37) rfl (by kernel_rfl) (by kernel_rfl) (by kernel_rfl) (fun _ _ _ h => h) (Or.inl ⟨by rfl, ?yyh_37⟩) hHeld ?_
    case vvh_37 => exact .bool bb
    case yyh_37 =>
      intro W hS
      go_simp
    try simp only [Act.put, List.setIfInBounds_toArray, List.set_cons_zero, List.set_cons_succ]
    refine wpAnyH_ready (rs := [34]) (by kernel_rfl) (by simp) (AllReadyH.cons (o := { dst := some 59, op := Op.call { callee := Callee.value (Operand.func 9), args := #[Operand.tmp 57, Operand.tmp 58], argTypes := #[9, 9] }, type := 4, pos := "law.go:33", after := #[{ on := 32, ground := Ground.data }, { on := 33, ground := Ground.data }, { on := 31, ground := Ground.chain }, { on := 31, ground := Ground.guard }], guard := some (31, true) }) rfl (fun K hK => ?_) AllReadyH.nil)
    go_simp
    go_at_call 9
    refine (HSM.out _).mono ?_
    rintro e sw7 ⟨rfl, sb7⟩
    have s7 := SB.next s6 sb7
    refine hK.out _ _ s7 (fun hHeld => ?_)
    clear hK K
    try simp only [Act.put, List.setIfInBounds_toArray, List.set_cons_zero, List.set_cons_succ]
    clear sb7
    refine wpAnyH_take (i := 38) (oi := { dst := some 63, op := Op.binOp BinOp.eql 4 (Operand.tmp 59) (Operand.tmp 62) 4, type := 4, pos := "law.go:33", after := #[{ on := 34, ground := Ground.data }, { on := 37, ground := Ground.data }, { on := 31, ground := Ground.guard }], guard := some (31, true) }) (v := ?vvh_38) rfl (by kernel_rfl) (by kernel_rfl) (by kernel_rfl) (fun _ _ _ h => h) (Or.inl ⟨by rfl, ?yyh_38⟩) hHeld ?_
    case vvh_38 => exact .bool true
    case yyh_38 =>
      intro W hS
      go_simp
    try simp only [Act.put, List.setIfInBounds_toArray, List.set_cons_zero, List.set_cons_succ]
    refine wpAnyH_take (i := 39) (oi := { dst := some 64, op := Op.pick (Operand.tmp 56) (Operand.tmp 63) (Operand.const (Value.bool false)), type := 4, pos := "law.go:33", after := #[{ on := 31, ground := Ground.data }, { on := 38, ground := Ground.data }], guard := none }) (v := ?vvh_39) rfl (by kernel_rfl) (by kernel_rfl) (by kernel_rfl) (fun _ _ _ h => h) (Or.inl ⟨by rfl, ?yyh_39⟩) hHeld ?_
    case vvh_39 => exact .bool true
    case yyh_39 =>
      intro W hS
      go_simp
    try simp only [Act.put, List.setIfInBounds_toArray, List.set_cons_zero, List.set_cons_succ]
    refine wpAnyH_take (i := 40) (oi := { dst := some 65, op := Op.move (Operand.tmp 64), type := 4, pos := "law.go:33", after := #[{ on := 39, ground := Ground.data }, { on := 34, ground := Ground.chain }], guard := none }) (v := ?vvh_40) rfl (by kernel_rfl) (by kernel_rfl) (by kernel_rfl) (fun _ _ _ h => h) (Or.inl ⟨by rfl, ?yyh_40⟩) hHeld ?_
    case vvh_40 => exact .bool true
    case yyh_40 =>
      intro W hS
      go_simp
    try simp only [Act.put, List.setIfInBounds_toArray, List.set_cons_zero, List.set_cons_succ]
    refine wpAnyH_take (i := 41) (oi := { dst := some 66, op := Op.move (Operand.tmp 1), type := 9, pos := "law.go:33", after := #[{ on := 40, ground := Ground.guard }], guard := some (40, true) }) (v := ?vvh_41) rfl (by kernel_rfl) (by kernel_rfl) (by kernel_rfl) (fun _ _ _ h => h) (Or.inl ⟨by rfl, ?yyh_41⟩) hHeld ?_
    case vvh_41 => exact .string a1
    case yyh_41 =>
      intro W hS
      go_simp
    try simp only [Act.put, List.setIfInBounds_toArray, List.set_cons_zero, List.set_cons_succ]
    refine wpAnyH_take (i := 42) (oi := { dst := some 67, op := Op.move (Operand.tmp 1), type := 9, pos := "law.go:33", after := #[{ on := 40, ground := Ground.guard }], guard := some (40, true) }) (v := ?vvh_42) rfl (by kernel_rfl) (by kernel_rfl) (by kernel_rfl) (fun _ _ _ h => h) (Or.inl ⟨by rfl, ?yyh_42⟩) hHeld ?_
    case vvh_42 => exact .string a1
    case yyh_42 =>
      intro W hS
      go_simp
    try simp only [Act.put, List.setIfInBounds_toArray, List.set_cons_zero, List.set_cons_succ]
    refine wpAnyH_take (i := 43) (oi := { dst := some 68, op := Op.binOp BinOp.add 9 (Operand.tmp 67) (Operand.const (Value.string { data := #[] })) 9, type := 9, pos := "law.go:33", after := #[{ on := 42, ground := Ground.data }, { on := 40, ground := Ground.guard }], guard := some (40, true) }) (v := ?vvh_43) rfl (by kernel_rfl) (by kernel_rfl) (by kernel_rfl) (fun _ _ _ h => h) (Or.inl ⟨by rfl, ?yyh_43⟩) hHeld ?_
    case vvh_43 => exact .string a1
    case yyh_43 =>
      intro W hS
      go_simp
    try simp only [Act.put, List.setIfInBounds_toArray, List.set_cons_zero, List.set_cons_succ]
    refine wpAnyH_ready (rs := [44]) (by kernel_rfl) (by simp) (AllReadyH.cons (o := { dst := some 69, op := Op.call { callee := Callee.value (Operand.func 9), args := #[Operand.tmp 66, Operand.tmp 68], argTypes := #[9, 9] }, type := 4, pos := "law.go:33", after := #[{ on := 41, ground := Ground.data }, { on := 43, ground := Ground.data }, { on := 40, ground := Ground.chain }, { on := 40, ground := Ground.guard }], guard := some (40, true) }) rfl (fun K hK => ?_) AllReadyH.nil)
    go_simp
    go_at_call 9
    refine (HSS.out _).mono ?_
    rintro e sw8 ⟨rfl, sb8⟩
    have s8 := SB.next s7 sb8
    refine hK.out _ _ s8 (fun hHeld => ?_)
    clear hK K
    try simp only [Act.put, List.setIfInBounds_toArray, List.set_cons_zero, List.set_cons_succ]
    clear sb8
    refine wpAnyH_take (i := 45) (oi := { dst := some 70, op := Op.pick (Operand.tmp 65) (Operand.tmp 69) (Operand.const (Value.bool false)), type := 4, pos := "law.go:33", after := #[{ on := 40, ground := Ground.data }, { on := 44, ground := Ground.data }], guard := none }) (v := ?vvh_45) rfl (by kernel_rfl) (by kernel_rfl) (by kernel_rfl) (fun _ _ _ h => h) (Or.inl ⟨by rfl, ?yyh_45⟩) hHeld ?_
    case vvh_45 => exact .bool true
    case yyh_45 =>
      intro W hS
      go_simp
    try simp only [Act.put, List.setIfInBounds_toArray, List.set_cons_zero, List.set_cons_succ]
    refine wpAnyH_ready (rs := [46]) (by kernel_rfl) (by simp) (AllReadyH.cons (o := { dst := some 8, op := Op.assign (Operand.tmp 70), type := 4, pos := "law.go:33", after := #[{ on := 45, ground := Ground.data }, { on := 44, ground := Ground.chain }, { on := 0, ground := Ground.phase }, { on := 1, ground := Ground.phase }, { on := 2, ground := Ground.phase }, { on := 3, ground := Ground.phase }, { on := 4, ground := Ground.phase }, { on := 5, ground := Ground.phase }, { on := 6, ground := Ground.phase }, { on := 7, ground := Ground.phase }, { on := 8, ground := Ground.phase }, { on := 9, ground := Ground.phase }, { on := 10, ground := Ground.phase }, { on := 11, ground := Ground.phase }, { on := 12, ground := Ground.phase }, { on := 13, ground := Ground.phase }, { on := 14, ground := Ground.phase }, { on := 15, ground := Ground.phase }, { on := 16, ground := Ground.phase }, { on := 17, ground := Ground.phase }, { on := 18, ground := Ground.phase }, { on := 19, ground := Ground.phase }, { on := 20, ground := Ground.phase }, { on := 21, ground := Ground.phase }, { on := 22, ground := Ground.phase }, { on := 23, ground := Ground.phase }, { on := 24, ground := Ground.phase }, { on := 25, ground := Ground.phase }, { on := 26, ground := Ground.phase }, { on := 27, ground := Ground.phase }, { on := 28, ground := Ground.phase }, { on := 29, ground := Ground.phase }, { on := 30, ground := Ground.phase }, { on := 31, ground := Ground.phase }, { on := 32, ground := Ground.phase }, { on := 33, ground := Ground.phase }, { on := 34, ground := Ground.phase }, { on := 35, ground := Ground.phase }, { on := 36, ground := Ground.phase }, { on := 37, ground := Ground.phase }, { on := 38, ground := Ground.phase }, { on := 39, ground := Ground.phase }, { on := 40, ground := Ground.phase }, { on := 41, ground := Ground.phase }, { on := 42, ground := Ground.phase }, { on := 43, ground := Ground.phase }, { on := 44, ground := Ground.phase }, { on := 45, ground := Ground.phase }], guard := none }) rfl (fun K hK => ?_) AllReadyH.nil)
    go_simp
    refine hK.out _ _ s8 (fun hHeld => ?_)
    clear hK K
    try simp only [Act.put, List.setIfInBounds_toArray, List.set_cons_zero, List.set_cons_succ]
    refine wpAnyH_done (by kernel_rfl) ?_ _
    refine NoPanic.normal ?_
    go_wp2
    go_ret
    exact ⟨rfl, s8⟩
end Go.Proofs.YtehoofddklbnaaaDoor

namespace Go.Proofs.YtehoofddklbnaaaDoor.hmacSums
open Go.ChangeShapes Go.WideShapes Go.ChangeAt Go.RowKit
open Go.ChangeMaps (open_string shut_string)
set_option linter.unusedVariables false

theorem own : ownKnob Tryd.prog.godebug = none := by kernel_rfl

theorem door_met (os : Os) (args : Array Value) : laidMetH Tryd.prog Rows.hmacSumsRow.laid ((World.doorLaid Tryd.prog 4000 os).forCall (fun _ _ => 0) ⟨#[], args, []⟩).memory :=
  laidMetH_of_parts3 (fuel := 8) (laidMet_of_run' 8 (by kernel_rfl) (by kernel_rfl)) (by kernel_rfl) (by kernel_rfl)

set_option maxRecDepth 100000 in
theorem lifted (os : Os) (started : os.Started) (H : Type) (enc : TypeId × Value → H) :
    ReturnsInHanded {} Tryd.checked os 3 .any (fun w args => (Rows.hmacSumsSpec.pre enc Tryd.prog Tryd.f3 Rows.hmacSumsRow.domain false w args ∧ laidMetH Tryd.prog Rows.hmacSumsRow.laid w) ∧ sizedMet enc Tryd.prog Tryd.f3 (OpenSpec.ofChange Rows.hmacSumsSpec) false w args) (Rows.hmacSumsSpec.post enc Tryd.prog Tryd.f3 false true false false) := by
  refine returnsInHanded_of_change_and (C := Tryd.checked) (X := fun w _ => laidMetH Tryd.prog Rows.hmacSumsRow.laid w) (fun _ _ _ hh h => h.of_heap hh) own started (by kernel_rfl) Tryd.func3
    (ChangeSpec.witness_shaped (enc := enc) (C := Tryd.checked) (os := os) (X := fun w _ => laidMetH Tryd.prog Rows.hmacSumsRow.laid w) false (World.doorLaid Tryd.prog 4000 os) #[.string ByteArray.empty, .string ByteArray.empty, .string ByteArray.empty, .int .i64 0] 8 rfl (World.shaped_of_RefB (by kernel_rfl) (by kernel_rfl)) (by kernel_rfl) (by kernel_rfl) (by kernel_rfl) (door_met os _)) ?_
  intro W base args ds gs before hval0 hW hcnd hsz0 hX1 hX2
  have hsz : (DataW.weightsEach Tryd.prog (Tryd.f3.params.toList ++ Rows.hmacSumsSpec.plain.varTypes Tryd.prog) (ds ++ gs)).all (· ≤ reachBytes) = true := hsz0
  have hval : ∀ (j : Nat) t v, Tryd.f3.params[j]? = some t → args[j]? = some v → Value.okWide Tryd.prog W .any base t v := hval0
  have hW' := hW
  obtain ⟨p, q, hA0, hV, rfl, hfz, hnd⟩ := hW
  have hA : DataW.TrodAll enc Tryd.prog W 0 (fun _ => true) true Tryd.f3.params.toList args.toList ds p := hA0
  rw [Tryd.params3] at hA hval hsz
  obtain ⟨v0, vs0, d0, ds0, p0, q0, hargs, rfl, rfl, h0, r0⟩ := trodAll_cons hA
  obtain ⟨v1, vs1, d1, ds1, p1, q1, rfl, rfl, rfl, h1, r1⟩ := trodAll_cons r0
  obtain ⟨v2, vs2, d2, ds2, p2, q2, rfl, rfl, rfl, h2, r2⟩ := trodAll_cons r1
  obtain ⟨v3, vs3, d3, ds3, p3, q3, rfl, rfl, rfl, h3, r3⟩ := trodAll_cons r2
  obtain ⟨rfl, rfl, rfl⟩ := trodAll_nil r3
  obtain rfl : args = #[v0, v1, v2, v3] := by cases args; simp_all
  obtain ⟨rfl, rfl⟩ := trodVars_none hV
  obtain ⟨a0, rfl, rfl, rfl, m0⟩ := open_string Tryd.underlying9 (hval 0 9 v0 rfl rfl) h0
  obtain ⟨a1, rfl, rfl, rfl, m1⟩ := open_string Tryd.underlying9 (hval 1 9 v1 rfl rfl) h1
  obtain ⟨a2, rfl, rfl, rfl, m2⟩ := open_string Tryd.underlying9 (hval 2 9 v2 rfl rfl) h2
  obtain ⟨a3, rfl, rfl, rfl, w3⟩ := open_int Tryd.underlying3 (hval 3 3 v3 rfl rfl) h3
  have w0 : a0.size ≤ 140737488355328 := by
    have h47 := reachBytes_lt
    have hh := sized_string hsz (j := 0) (t := 9) rfl rfl
    rw [Array.length_toList] at hh
    exact Nat.le_of_lt (Nat.lt_of_le_of_lt hh h47)
  have w1 : a1.size ≤ 140737488355328 := by
    have h47 := reachBytes_lt
    have hh := sized_string hsz (j := 1) (t := 9) rfl rfl
    rw [Array.length_toList] at hh
    exact Nat.le_of_lt (Nat.lt_of_le_of_lt hh h47)
  have w2 : a2.size ≤ 140737488355328 := by
    have h47 := reachBytes_lt
    have hh := sized_string hsz (j := 2) (t := 9) rfl rfl
    rw [Array.length_toList] at hh
    exact Nat.le_of_lt (Nat.lt_of_le_of_lt hh h47)
  clear hA0 hval0 hsz hsz0
  simp only [List.append_nil] at hW'
  refine (HmacSums_walk a0 a1 a2 a3 w0 w1 w2 w3 W (G_of_laid4 hX1)).mono fun e W' ⟨he, bel⟩ => ?_
  subst he
  exact ⟨_, rfl, _, _, _, [], _, [], hW', trodAll_mk1 (shut_bool Tryd.underlying4 _), (trodAll_cons_mk (shut_string Tryd.underlying9 m0) (trodAll_cons_mk (shut_string Tryd.underlying9 m1) (trodAll_cons_mk (shut_string Tryd.underlying9 m2) (trodAll_cons_mk (shut_int Tryd.underlying3 w3) trodAll_mk0)))), rfl, bel.frame _, fun h => by cases h⟩

theorem over : Rows.hmacSumsRow.holds Tryd.pinned (OpenSpec.ofChange Rows.hmacSumsSpec) :=
  OpenClaim.holds_of_wide 3 Tryd.f3 rfl rfl rfl rfl rfl rfl rfl ⟨rfl, rfl, rfl, rfl, rfl⟩ rfl rfl rfl rfl rfl (by kernel_rfl) Tryd.func3 (by kernel_rfl)
    (of_decide_eq_true (by kernel_rfl)) (by unfold Func.isWrapper; first | (rw [if_pos (by decide +kernel)]; kernel_rfl) | (rw [if_neg (by decide +kernel)]; exact ⟨rfl, rfl⟩))
    (fun os started H enc _ => lifted os started H enc)

theorem proved : Rows.HmacSumsCardSaid :=
  Claim7.holds_tied_plain_at .later [] [.data, .data, .data, .data] true (true, "da35d39db9c61f52e56712e4baa64771d243da0bbc156f9ccca49ea367a4c634") false
    over (fun _ h => by cases h) (by kernel_rfl) (fun _ h => by cases h) hmacSums_row_tie rfl ⟨rfl, rfl⟩ (by kernel_rfl) rfl
    (fun f fn hf hfn => by
      obtain rfl : f = 3 := Option.some.inj ((show Tryd.prog.funcNamed "cashier/cashierlaw06.HmacSums" = some 3 by kernel_rfl).symm.trans hf) |>.symm
      obtain rfl : fn = Tryd.f3 := (Option.some.inj (Tryd.func3.symm.trans hfn)).symm
      exact ⟨by kernel_rfl, fun j t ht => by
        rw [Tryd.params3] at ht
        have hm : t ∈ [9, 9, 9, 3] := by simpa using Array.mem_of_getElem? ht
        have hall : ([9, 9, 9, 3].all fun u => !Tryd.prog.wantsStandIn u) = true := by kernel_rfl
        exact (show Tryd.prog.wantsStandIn t = false by simpa using List.all_eq_true.1 hall t hm)⟩)
    (by kernel_rfl)

end Go.Proofs.YtehoofddklbnaaaDoor.hmacSums
