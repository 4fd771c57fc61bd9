/- The contracts of the document's reading of UTF-8. -/
import Derived.Test.YthnanmaeehobdaaUCount
import Derived.Deep.RegionHeld3
import Derived.IntWalk
import Derived.Laws.AppendOwn
import Derived.OwnWalk
import Derived.Deep.AppendLies
namespace Go.Proofs.Ythnanmaeehobdaa
open Go.RowKit
set_option linter.unusedVariables false

/-- A byte as a number. -/
def bI (l : List UInt8) (k : Nat) : Int := ((l.getD k 0).toNat : Int)
/-- The number that a writing of k bytes is. -/
def oneN (l : List UInt8) (k : Nat) : Int :=
  if k = 1 then bI l 0
  else if k = 2 then (bI l 0 - 192) * 64 + bI l 1 - 128
  else if k = 3 then (bI l 0 - 224) * 4096 + (bI l 1 - 128) * 64 + bI l 2 - 128
  else (bI l 0 - 240) * 262144 + (bI l 1 - 128) * 4096 + (bI l 2 - 128) * 64 + bI l 3 - 128

theorem one_hit {l : List UInt8} {c k : Nat} (h : dec l = some (c, k)) : oneN l k = c := by
  obtain ⟨hv, rfl, e⟩ := dec_some h
  have hc := (valid_iff c).1 hv
  generalize hr : l.drop (encLen c) = r at e
  rw [e]
  clear e h hr
  unfold encLen enc oneN bI
  by_cases h1 : c < 128
  · simp only [if_pos h1, List.cons_append, List.getD_cons_zero, if_true]
    rw [tn c (by omega)]
  · by_cases h2 : c < 2048
    · simp only [if_neg h1, if_pos h2, List.cons_append, List.getD_cons_zero, List.getD_cons_succ, if_true]
      rw [tn (192 + c / 64) (by omega), tn (128 + c % 64) (by omega)]
      rw [if_neg (by omega)]
      omega
    · by_cases h3 : c < 65536
      · simp only [if_neg h1, if_neg h2, if_pos h3, List.cons_append, List.getD_cons_zero, List.getD_cons_succ, if_true]
        rw [tn (224 + c / 4096) (by omega), tn (128 + c / 64 % 64) (by omega), tn (128 + c % 64) (by omega)]
        rw [if_neg (by omega), if_neg (by omega)]
        omega
      · simp only [if_neg h1, if_neg h2, if_neg h3, List.cons_append, List.getD_cons_zero, List.getD_cons_succ]
        rw [tn (240 + c / 262144) (by omega), tn (128 + c / 4096 % 64) (by omega), tn (128 + c / 64 % 64) (by omega), tn (128 + c % 64) (by omega)]
        rw [if_neg (by omega), if_neg (by omega), if_neg (by omega)]
        omega

theorem one_miss {t : ByteArray} {k : Nat} (h : putB (oneN t.data.toList k) = t.extract 0 k) (hk : 1 ≤ k) (hl : k ≤ t.size) : ∃ c, dec t.data.toList = some (c, k) := by
  have hs : (t.extract 0 k).data.toList = t.data.toList.take k := by rw [ByteArray.data_extract, Array.toList_extract, List.extract_eq_take_drop, List.drop_zero, Nat.sub_zero]
  cases hv : Utf8.valid (oneN t.data.toList k) with
  | false =>
    rw [putB_not hv] at h
    have h2 := congrArg (fun b : ByteArray => b.data.toList.length) h
    have h3 : t.data.toList.length = t.size := by simp
    have h4 : (ByteArray.mk #[]).data.toList.length = 0 := rfl
    have h5 : 0 = (t.extract 0 k).data.toList.length := by rw [← h4]; exact h2
    rw [hs, List.length_take, h3, Nat.min_eq_left hl] at h5
    omega
  | true =>
    obtain ⟨c, hc⟩ : ∃ c : Nat, oneN t.data.toList k = c := ⟨(oneN t.data.toList k).toNat, by have := (valid_iff _).1 hv; omega⟩
    rw [hc] at h hv
    rw [putB_nat hv] at h
    have h2 := congrArg (fun b : ByteArray => b.data.toList) h
    simp only [hs] at h2
    have h3 : enc c = t.data.toList.take k := h2
    have h4 : (enc c).length = k := by rw [h3, List.length_take]; have : t.data.toList.length = t.size := by simp
                                       omega
    rw [enc_length] at h4
    refine ⟨c, ?_⟩
    have h5 := dec_enc c (t.data.toList.drop k) hv
    rw [h3, List.take_append_drop, h4] at h5
    exact h5

/-- What One answers. -/
def oneI (t : ByteArray) : Int := match dec t.data.toList with
  | some (c, _) => (c : Int)
  | none => -1
theorem oneI_some {t : ByteArray} {c k : Nat} (h : dec t.data.toList = some (c, k)) : oneI t = c := by unfold oneI; rw [h]
theorem oneI_none {t : ByteArray} (h : dec t.data.toList = none) : oneI t = -1 := by unfold oneI; rw [h]

theorem bI_bd (l : List UInt8) (k : Nat) : 0 ≤ bI l k ∧ bI l k < 256 := by
  unfold bI
  have := (l.getD k 0).toNat_lt
  omega

theorem bI_at (t : ByteArray) (k : Nat) (h : k < t.size) : ((t[k]'h).toNat : Int) = bI t.data.toList k := by
  unfold bI
  rw [List.getD_eq_getElem?_getD, List.getElem?_eq_getElem (by simpa using h)]
  rfl

set_option maxRecDepth 100000 in
set_option maxHeartbeats 2000000 in
theorem refOne_any (t : ByteArray) (w : World) (ht : t.size ≤ 140737488355328) :
    Calls Try.prog 19 #[.string t] w fun e w' => e = .returned (.int .i64 (oneI t)) ∧ Below w.heap.size w w' := by
  go_enter Try.func19, Try.ntmps19
  go_wp2
  go_loopw [3] (fun i wr => ∃ k : Nat, 1 ≤ k ∧ k ≤ 5 ∧ i = .int .i64 k ∧ Hid (∀ c j, dec t.data.toList = some (c, j) → k ≤ j) ∧ Below w.heap.size w wr) (fun i _ => 5 - (intOf i).toNat)
  case atStart => exact ⟨1, by omega, by omega, rfl, Lib.hid fun c j h => (dec_len h).1, Below.refl _ _⟩
  case round =>
    obtain ⟨k, hk1, hk5, rfl, HN, hB⟩ := hrel
    by_cases hk : k ≤ 4 ∧ k ≤ t.size
    · obtain ⟨hk4, hkt⟩ := hk
      obtain ⟨n, hn⟩ : ∃ n, oneN t.data.toList k = n := ⟨_, rfl⟩
      have hb0 := bI_bd t.data.toList 0
      have hb1 := bI_bd t.data.toList 1
      have hb2 := bI_bd t.data.toList 2
      have hb3 := bI_bd t.data.toList 3
      rcases (by omega : k = 1 ∨ k = 2 ∨ k = 3 ∨ k = 4) with rfl | rfl | rfl | rfl
      · have e0 := bI_at t 0 (by omega)
        obtain ⟨b0, hbb0⟩ : ∃ b, bI t.data.toList 0 = b := ⟨_, rfl⟩
        rw [hbb0] at e0 hb0
        have hnv : b0 = n := by rw [← hn]; unfold oneN; simp only [hbb0]; rfl
        have HO : Hid (oneN t.data.toList _ = n) := Lib.hid hn
        clear hn
        clear hbb0
        go_wp2_with fail
        have HPut : Hid (∀ W : World, Calls Try.prog 14 #[.int .i64 n] W fun e w' => e = .returned (.string (putB n)) ∧ Below W.heap.size W w') := Lib.hid fun W => refPut_any n W
        cases hd : decide (putB n = t.extract 0 1) with
        | true =>
          have hx : ((putB n).toList == (t.extract 0 1).toList) = true := by rw [str_eqB]; exact hd
          have HC : Hid (n = oneI t) := Lib.hid (by
            obtain ⟨c, hc⟩ := one_miss (k := 1) (by rw [HO.out]; exact of_decide_eq_true hd) (by omega) (by omega)
            rw [oneI_some hc, ← one_hit hc, HO.out])
          obtain ⟨s, HS⟩ : ∃ s, Hid (putB n = s) := ⟨_, Lib.hid rfl⟩
          rw [HS.out] at hx HPut
          clear hd
          go_region_held3 (fun _ => True) (trivial) (first | (go_at_call 14; refine (HPut.out _).mono ?_; rintro e w2 ⟨rfl, hb2⟩))
          go_wp2_with fail
          go_ret
          exact ⟨ret_int HC.out, hB.trans (Below.mono (by exact ⟨hb2.os, hb2.tape, hb2.output, hb2.size, hb2.block⟩) hB.size)⟩
        | false =>
          have hx : ((putB n).toList == (t.extract 0 1).toList) = false := by rw [str_eqB]; exact hd
          have HN2 : Hid (∀ c j, dec t.data.toList = some (c, j) → 1 + 1 ≤ j) := Lib.hid (fun c j h => by
            have h1 := HN.out c j h
            rcases (by omega : j = 1 ∨ 1 + 1 ≤ j) with rfl | h2
            · exfalso
              have h3 := of_decide_eq_false hd
              obtain ⟨hv, hk, he⟩ := dec_some h
              have h4 := one_hit h
              rw [HO.out] at h4
              rw [h4, putB_nat hv] at h3
              apply h3
              rw [ByteArray.ext_iff, ← Array.toList_inj, ByteArray.data_extract, Array.toList_extract, List.extract_eq_take_drop, List.drop_zero, Nat.sub_zero, he, hk, List.take_append_of_le_length (by rw [enc_length]; exact Nat.le_refl _), List.take_of_length_le (by rw [enc_length]; exact Nat.le_refl _)]
            · exact h2)
          obtain ⟨s, HS⟩ : ∃ s, Hid (putB n = s) := ⟨_, Lib.hid rfl⟩
          rw [HS.out] at hx HPut
          clear hd
          go_region_held3 (fun _ => True) (trivial) (first | (go_at_call 14; refine (HPut.out _).mono ?_; rintro e w2 ⟨rfl, hb2⟩))
          go_wp2_with fail
          go_roundw
          case rel => exact ⟨1 + 1, by omega, by omega, by go_num, HN2, hB.trans (Below.mono (by exact ⟨hb2.os, hb2.tape, hb2.output, hb2.size, hb2.block⟩) hB.size)⟩
          case measure => simp [intOf]
      · have e0 := bI_at t 0 (by omega)
        have e1 := bI_at t 1 (by omega)
        obtain ⟨b0, hbb0⟩ : ∃ b, bI t.data.toList 0 = b := ⟨_, rfl⟩
        rw [hbb0] at e0 hb0
        obtain ⟨b1, hbb1⟩ : ∃ b, bI t.data.toList 1 = b := ⟨_, rfl⟩
        rw [hbb1] at e1 hb1
        have hnv : (b0 - 192) * 64 + b1 - 128 = n := by rw [← hn]; unfold oneN; simp only [hbb0, hbb1]; rfl
        have q0 : IntKind.i64.wrap ((b0 - 192)) = (b0 - 192) := IntWalk.i64_in _ (by omega)
        have q1 : IntKind.i64.wrap ((b0 - 192) * 64) = (b0 - 192) * 64 := IntWalk.i64_in _ (by omega)
        have q2 : IntKind.i64.wrap ((b0 - 192) * 64 + b1) = (b0 - 192) * 64 + b1 := IntWalk.i64_in _ (by omega)
        have q3 : IntKind.i64.wrap ((b0 - 192) * 64 + b1 - 128) = (b0 - 192) * 64 + b1 - 128 := IntWalk.i64_in _ (by omega)
        have HO : Hid (oneN t.data.toList _ = n) := Lib.hid hn
        clear hn
        clear hbb0
        clear hbb1
        have hx0 : (0 : Int) < (t.size : Int) := by omega
        have hx1 : (1 : Int) < (t.size : Int) := by omega
        go_wp2_with fail
        go_quiet (fail)
        go_wp2_with fail
        have HPut : Hid (∀ W : World, Calls Try.prog 14 #[.int .i64 n] W fun e w' => e = .returned (.string (putB n)) ∧ Below W.heap.size W w') := Lib.hid fun W => refPut_any n W
        cases hd : decide (putB n = t.extract 0 2) with
        | true =>
          have hx : ((putB n).toList == (t.extract 0 2).toList) = true := by rw [str_eqB]; exact hd
          have HC : Hid (n = oneI t) := Lib.hid (by
            obtain ⟨c, hc⟩ := one_miss (k := 2) (by rw [HO.out]; exact of_decide_eq_true hd) (by omega) (by omega)
            rw [oneI_some hc, ← one_hit hc, HO.out])
          obtain ⟨s, HS⟩ : ∃ s, Hid (putB n = s) := ⟨_, Lib.hid rfl⟩
          rw [HS.out] at hx HPut
          clear hd
          go_region_held3 (fun _ => True) (trivial) (first | (go_at_call 14; refine (HPut.out _).mono ?_; rintro e w2 ⟨rfl, hb2⟩))
          go_wp2_with fail
          go_ret
          exact ⟨ret_int HC.out, hB.trans (Below.mono (by exact ⟨hb2.os, hb2.tape, hb2.output, hb2.size, hb2.block⟩) hB.size)⟩
        | false =>
          have hx : ((putB n).toList == (t.extract 0 2).toList) = false := by rw [str_eqB]; exact hd
          have HN2 : Hid (∀ c j, dec t.data.toList = some (c, j) → 2 + 1 ≤ j) := Lib.hid (fun c j h => by
            have h1 := HN.out c j h
            rcases (by omega : j = 2 ∨ 2 + 1 ≤ j) with rfl | h2
            · exfalso
              have h3 := of_decide_eq_false hd
              obtain ⟨hv, hk, he⟩ := dec_some h
              have h4 := one_hit h
              rw [HO.out] at h4
              rw [h4, putB_nat hv] at h3
              apply h3
              rw [ByteArray.ext_iff, ← Array.toList_inj, ByteArray.data_extract, Array.toList_extract, List.extract_eq_take_drop, List.drop_zero, Nat.sub_zero, he, hk, List.take_append_of_le_length (by rw [enc_length]; exact Nat.le_refl _), List.take_of_length_le (by rw [enc_length]; exact Nat.le_refl _)]
            · exact h2)
          obtain ⟨s, HS⟩ : ∃ s, Hid (putB n = s) := ⟨_, Lib.hid rfl⟩
          rw [HS.out] at hx HPut
          clear hd
          go_region_held3 (fun _ => True) (trivial) (first | (go_at_call 14; refine (HPut.out _).mono ?_; rintro e w2 ⟨rfl, hb2⟩))
          go_wp2_with fail
          go_roundw
          case rel => exact ⟨2 + 1, by omega, by omega, by go_num, HN2, hB.trans (Below.mono (by exact ⟨hb2.os, hb2.tape, hb2.output, hb2.size, hb2.block⟩) hB.size)⟩
          case measure => simp [intOf]
      · have e0 := bI_at t 0 (by omega)
        have e1 := bI_at t 1 (by omega)
        have e2 := bI_at t 2 (by omega)
        obtain ⟨b0, hbb0⟩ : ∃ b, bI t.data.toList 0 = b := ⟨_, rfl⟩
        rw [hbb0] at e0 hb0
        obtain ⟨b1, hbb1⟩ : ∃ b, bI t.data.toList 1 = b := ⟨_, rfl⟩
        rw [hbb1] at e1 hb1
        obtain ⟨b2, hbb2⟩ : ∃ b, bI t.data.toList 2 = b := ⟨_, rfl⟩
        rw [hbb2] at e2 hb2
        have hnv : (b0 - 224) * 4096 + (b1 - 128) * 64 + b2 - 128 = n := by rw [← hn]; unfold oneN; simp only [hbb0, hbb1, hbb2]; rfl
        have q0 : IntKind.i64.wrap (b0 - 224) = b0 - 224 := IntWalk.i64_in _ (by omega)
        have q1 : IntKind.i64.wrap ((b0 - 224) * 4096) = (b0 - 224) * 4096 := IntWalk.i64_in _ (by omega)
        have q2 : IntKind.i64.wrap (b1 - 128) = b1 - 128 := IntWalk.i64_in _ (by omega)
        have q3 : IntKind.i64.wrap ((b1 - 128) * 64) = (b1 - 128) * 64 := IntWalk.i64_in _ (by omega)
        have q4 : IntKind.i64.wrap ((b0 - 224) * 4096 + (b1 - 128) * 64) = (b0 - 224) * 4096 + (b1 - 128) * 64 := IntWalk.i64_in _ (by omega)
        have q5 : IntKind.i64.wrap ((b0 - 224) * 4096 + (b1 - 128) * 64 + b2) = (b0 - 224) * 4096 + (b1 - 128) * 64 + b2 := IntWalk.i64_in _ (by omega)
        have q6 : IntKind.i64.wrap ((b0 - 224) * 4096 + (b1 - 128) * 64 + b2 - 128) = (b0 - 224) * 4096 + (b1 - 128) * 64 + b2 - 128 := IntWalk.i64_in _ (by omega)
        have HO : Hid (oneN t.data.toList _ = n) := Lib.hid hn
        clear hn
        clear hbb0
        clear hbb1
        clear hbb2
        have hx0 : (0 : Int) < (t.size : Int) := by omega
        have hx1 : (1 : Int) < (t.size : Int) := by omega
        have hx2 : (2 : Int) < (t.size : Int) := by omega
        go_wp2_with fail
        go_quiet (fail)
        go_wp2_with fail
        have HPut : Hid (∀ W : World, Calls Try.prog 14 #[.int .i64 n] W fun e w' => e = .returned (.string (putB n)) ∧ Below W.heap.size W w') := Lib.hid fun W => refPut_any n W
        cases hd : decide (putB n = t.extract 0 3) with
        | true =>
          have hx : ((putB n).toList == (t.extract 0 3).toList) = true := by rw [str_eqB]; exact hd
          have HC : Hid (n = oneI t) := Lib.hid (by
            obtain ⟨c, hc⟩ := one_miss (k := 3) (by rw [HO.out]; exact of_decide_eq_true hd) (by omega) (by omega)
            rw [oneI_some hc, ← one_hit hc, HO.out])
          obtain ⟨s, HS⟩ : ∃ s, Hid (putB n = s) := ⟨_, Lib.hid rfl⟩
          rw [HS.out] at hx HPut
          clear hd
          go_region_held3 (fun _ => True) (trivial) (first | (go_at_call 14; refine (HPut.out _).mono ?_; rintro e w2 ⟨rfl, hb2⟩))
          go_wp2_with fail
          go_ret
          exact ⟨ret_int HC.out, hB.trans (Below.mono (by exact ⟨hb2.os, hb2.tape, hb2.output, hb2.size, hb2.block⟩) hB.size)⟩
        | false =>
          have hx : ((putB n).toList == (t.extract 0 3).toList) = false := by rw [str_eqB]; exact hd
          have HN2 : Hid (∀ c j, dec t.data.toList = some (c, j) → 3 + 1 ≤ j) := Lib.hid (fun c j h => by
            have h1 := HN.out c j h
            rcases (by omega : j = 3 ∨ 3 + 1 ≤ j) with rfl | h2
            · exfalso
              have h3 := of_decide_eq_false hd
              obtain ⟨hv, hk, he⟩ := dec_some h
              have h4 := one_hit h
              rw [HO.out] at h4
              rw [h4, putB_nat hv] at h3
              apply h3
              rw [ByteArray.ext_iff, ← Array.toList_inj, ByteArray.data_extract, Array.toList_extract, List.extract_eq_take_drop, List.drop_zero, Nat.sub_zero, he, hk, List.take_append_of_le_length (by rw [enc_length]; exact Nat.le_refl _), List.take_of_length_le (by rw [enc_length]; exact Nat.le_refl _)]
            · exact h2)
          obtain ⟨s, HS⟩ : ∃ s, Hid (putB n = s) := ⟨_, Lib.hid rfl⟩
          rw [HS.out] at hx HPut
          clear hd
          go_region_held3 (fun _ => True) (trivial) (first | (go_at_call 14; refine (HPut.out _).mono ?_; rintro e w2 ⟨rfl, hb2⟩))
          go_wp2_with fail
          go_roundw
          case rel => exact ⟨3 + 1, by omega, by omega, by go_num, HN2, hB.trans (Below.mono (by exact ⟨hb2.os, hb2.tape, hb2.output, hb2.size, hb2.block⟩) hB.size)⟩
          case measure => simp [intOf]
      · have e0 := bI_at t 0 (by omega)
        have e1 := bI_at t 1 (by omega)
        have e2 := bI_at t 2 (by omega)
        have e3 := bI_at t 3 (by omega)
        obtain ⟨b0, hbb0⟩ : ∃ b, bI t.data.toList 0 = b := ⟨_, rfl⟩
        rw [hbb0] at e0 hb0
        obtain ⟨b1, hbb1⟩ : ∃ b, bI t.data.toList 1 = b := ⟨_, rfl⟩
        rw [hbb1] at e1 hb1
        obtain ⟨b2, hbb2⟩ : ∃ b, bI t.data.toList 2 = b := ⟨_, rfl⟩
        rw [hbb2] at e2 hb2
        obtain ⟨b3, hbb3⟩ : ∃ b, bI t.data.toList 3 = b := ⟨_, rfl⟩
        rw [hbb3] at e3 hb3
        have hnv : (b0 - 240) * 262144 + (b1 - 128) * 4096 + (b2 - 128) * 64 + b3 - 128 = n := by rw [← hn]; unfold oneN; simp only [hbb0, hbb1, hbb2, hbb3]; rfl
        have q0 : IntKind.i64.wrap (b0 - 240) = b0 - 240 := IntWalk.i64_in _ (by omega)
        have q1 : IntKind.i64.wrap ((b0 - 240) * 262144) = (b0 - 240) * 262144 := IntWalk.i64_in _ (by omega)
        have q2 : IntKind.i64.wrap (b1 - 128) = b1 - 128 := IntWalk.i64_in _ (by omega)
        have q3 : IntKind.i64.wrap ((b1 - 128) * 4096) = (b1 - 128) * 4096 := IntWalk.i64_in _ (by omega)
        have q4 : IntKind.i64.wrap ((b0 - 240) * 262144 + (b1 - 128) * 4096) = (b0 - 240) * 262144 + (b1 - 128) * 4096 := IntWalk.i64_in _ (by omega)
        have q5 : IntKind.i64.wrap (b2 - 128) = b2 - 128 := IntWalk.i64_in _ (by omega)
        have q6 : IntKind.i64.wrap ((b2 - 128) * 64) = (b2 - 128) * 64 := IntWalk.i64_in _ (by omega)
        have q7 : IntKind.i64.wrap ((b0 - 240) * 262144 + (b1 - 128) * 4096 + (b2 - 128) * 64) = (b0 - 240) * 262144 + (b1 - 128) * 4096 + (b2 - 128) * 64 := IntWalk.i64_in _ (by omega)
        have q8 : IntKind.i64.wrap ((b0 - 240) * 262144 + (b1 - 128) * 4096 + (b2 - 128) * 64 + b3) = (b0 - 240) * 262144 + (b1 - 128) * 4096 + (b2 - 128) * 64 + b3 := IntWalk.i64_in _ (by omega)
        have q9 : IntKind.i64.wrap ((b0 - 240) * 262144 + (b1 - 128) * 4096 + (b2 - 128) * 64 + b3 - 128) = (b0 - 240) * 262144 + (b1 - 128) * 4096 + (b2 - 128) * 64 + b3 - 128 := IntWalk.i64_in _ (by omega)
        have HO : Hid (oneN t.data.toList _ = n) := Lib.hid hn
        clear hn
        clear hbb0
        clear hbb1
        clear hbb2
        clear hbb3
        have hx0 : (0 : Int) < (t.size : Int) := by omega
        have hx1 : (1 : Int) < (t.size : Int) := by omega
        have hx2 : (2 : Int) < (t.size : Int) := by omega
        have hx3 : (3 : Int) < (t.size : Int) := by omega
        go_wp2_with fail
        go_quiet (fail)
        go_wp2_with fail
        have HPut : Hid (∀ W : World, Calls Try.prog 14 #[.int .i64 n] W fun e w' => e = .returned (.string (putB n)) ∧ Below W.heap.size W w') := Lib.hid fun W => refPut_any n W
        cases hd : decide (putB n = t.extract 0 4) with
        | true =>
          have hx : ((putB n).toList == (t.extract 0 4).toList) = true := by rw [str_eqB]; exact hd
          have HC : Hid (n = oneI t) := Lib.hid (by
            obtain ⟨c, hc⟩ := one_miss (k := 4) (by rw [HO.out]; exact of_decide_eq_true hd) (by omega) (by omega)
            rw [oneI_some hc, ← one_hit hc, HO.out])
          obtain ⟨s, HS⟩ : ∃ s, Hid (putB n = s) := ⟨_, Lib.hid rfl⟩
          rw [HS.out] at hx HPut
          clear hd
          go_region_held3 (fun _ => True) (trivial) (first | (go_at_call 14; refine (HPut.out _).mono ?_; rintro e w2 ⟨rfl, hb2⟩))
          go_wp2_with fail
          go_ret
          exact ⟨ret_int HC.out, hB.trans (Below.mono (by exact ⟨hb2.os, hb2.tape, hb2.output, hb2.size, hb2.block⟩) hB.size)⟩
        | false =>
          have hx : ((putB n).toList == (t.extract 0 4).toList) = false := by rw [str_eqB]; exact hd
          have HN2 : Hid (∀ c j, dec t.data.toList = some (c, j) → 4 + 1 ≤ j) := Lib.hid (fun c j h => by
            have h1 := HN.out c j h
            rcases (by omega : j = 4 ∨ 4 + 1 ≤ j) with rfl | h2
            · exfalso
              have h3 := of_decide_eq_false hd
              obtain ⟨hv, hk, he⟩ := dec_some h
              have h4 := one_hit h
              rw [HO.out] at h4
              rw [h4, putB_nat hv] at h3
              apply h3
              rw [ByteArray.ext_iff, ← Array.toList_inj, ByteArray.data_extract, Array.toList_extract, List.extract_eq_take_drop, List.drop_zero, Nat.sub_zero, he, hk, List.take_append_of_le_length (by rw [enc_length]; exact Nat.le_refl _), List.take_of_length_le (by rw [enc_length]; exact Nat.le_refl _)]
            · exact h2)
          obtain ⟨s, HS⟩ : ∃ s, Hid (putB n = s) := ⟨_, Lib.hid rfl⟩
          rw [HS.out] at hx HPut
          clear hd
          go_region_held3 (fun _ => True) (trivial) (first | (go_at_call 14; refine (HPut.out _).mono ?_; rintro e w2 ⟨rfl, hb2⟩))
          go_wp2_with fail
          go_roundw
          case rel => exact ⟨4 + 1, by omega, by omega, by go_num, HN2, hB.trans (Below.mono (by exact ⟨hb2.os, hb2.tape, hb2.output, hb2.size, hb2.block⟩) hB.size)⟩
          case measure => simp [intOf]
    · have HE : Hid (-1 = oneI t) := Lib.hid (by
        cases hd : dec t.data.toList with
        | none => rw [oneI_none hd]
        | some x =>
          obtain ⟨c, j⟩ := x
          have h1 := HN.out c j hd
          have h2 := dec_len hd
          have h3 : t.data.toList.length = t.size := by simp
          omega)
      by_cases h5 : k = 5
      · subst h5
        clear hk
        go_wp2_with fail
        go_ret
        exact ⟨ret_int HE.out, hB⟩
      · have h4 : (k : Int) ≤ 4 := by omega
        have h6 : (t.size : Int) < (k : Int) := by omega
        clear hk h5
        go_wp2_with fail
        go_ret
        exact ⟨ret_int HE.out, hB⟩
end Go.Proofs.Ythnanmaeehobdaa
