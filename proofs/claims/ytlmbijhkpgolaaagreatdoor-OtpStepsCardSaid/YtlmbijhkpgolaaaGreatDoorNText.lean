/- A number as digits of a width: the program's, the document's. -/
import Derived.Test.YtlmbijhkpgolaaaGreatDoorNFmt
import Derived.Test.YtlmbijhkpgolaaaGreatDoorPut
import Derived.Lib.ItoaLen
namespace Go.Proofs.YtlmbijhkpgolaaaGreatDoor
open Go.RowKit
set_option linter.unusedVariables false

/-- The digits, noughts ahead of them, at most 40. -/
def textW (u width : Nat) : Nat := min (max width (Lib.nDigits u)) 40
def textL (u width : Nat) : List UInt8 := List.replicate (textW u width - Lib.nDigits u) 48 ++ Lib.decDigits u
theorem textL_length (u width : Nat) (hu : u < 18446744073709551616) : (textL u width).length = textW u width := by
  have := Lib.nDigits_le20 u hu
  unfold textL textW
  rw [List.length_append, List.length_replicate, Lib.decDigits_length]
  omega

theorem textW_zero (u width : Nat) (hu : u < 18446744073709551616) : Lib.nDigits u ≤ textW u width := by
  have := Lib.nDigits_le20 u hu
  unfold textW
  omega

set_option maxRecDepth 20000 in
set_option maxHeartbeats 1000000 in
theorem Text_dig (u width : Nat) (hu : u < 18446744073709551616) (hw : width ≤ 1000000) (w : World) (hT : T10 w) :
    Calls Tryz.prog 44 #[.int .u64 u, .int .i64 width] w fun e w' => e = .returned (.string ⟨(textL u width).toArray⟩) ∧ Below w.heap.size w w' := by
  have hn20 := Lib.nDigits_le20 u hu
  have hdl := Lib.decDigits_length u
  have htl := textL_length u width hu
  have hle := textW_zero u width hu
  have htw : textW u width = min (max width (Lib.nDigits u)) 40 := rfl
  obtain ⟨D, hD⟩ : ∃ D : ByteArray, (⟨(Lib.decDigits u).toArray⟩ : ByteArray) = D := ⟨_, rfl⟩
  have hDs : D.size = Lib.nDigits u := by rw [← hD]; show (Lib.decDigits u).toArray.size = _; rw [List.size_toArray, hdl]
  have HF := Lib.hid (fun W h => fmt_any u hu W h)
  rw [hD] at HF
  obtain ⟨nd, hnd⟩ : ∃ nd, Lib.nDigits u = nd := ⟨_, rfl⟩
  rw [hnd] at hn20 hDs hle htw
  obtain ⟨tw, htw2⟩ : ∃ tw, textW u width = tw := ⟨_, rfl⟩
  rw [htw2] at hle htw htl
  have htw40 : tw ≤ 40 := by omega
  have hmm : min (max (width : Int) (D.size : Int)) 40 = (tw : Int) := by omega
  obtain ⟨mx, hmx0⟩ : ∃ mx : Int, max (width : Int) (D.size : Int) = mx := ⟨_, rfl⟩
  rw [hmx0] at hmm
  have hMax : ∀ (W : World) (ts : Array TypeId) (t : TypeId), (Builtin.max_ ts t #[.int .i64 (width : Int), .int .i64 (D.size : Int)]).run Tryz.prog W = .ok (.int .i64 mx) W := fun W ts t => by
    rw [← hmx0]
    have e : ∀ x y : Int, (if x < y then y else x) = max x y := by intro x y; split <;> omega
    simp [Builtin.max_, Builtin.max2]
    split <;> omega
  have hMin : ∀ (W : World) (ts : Array TypeId) (t : TypeId), (Builtin.min_ ts t #[.int .i64 mx, .int .i64 40]).run Tryz.prog W = .ok (.int .i64 tw) W := fun W ts t => by
    rw [← hmm]
    have e : ∀ x y : Int, (if y < x then y else x) = min x y := by intro x y; split <;> omega
    simp [Builtin.min_, Builtin.min2, e]
    try omega
  obtain ⟨R, hR⟩ : ∃ R : ByteArray, (⟨(List.replicate (tw - nd) (48 : UInt8)).toArray⟩ : ByteArray) = R := ⟨_, rfl⟩
  have hRs : R.size = tw - nd := by rw [← hR]; show (List.replicate (tw - nd) (48 : UInt8)).toArray.size = _; simp
  obtain ⟨z, hz⟩ : ∃ z : Int, (tw : Int) - (D.size : Int) = z := ⟨_, rfl⟩
  have hzN : z = ((tw - nd : Nat) : Int) := by omega
  have HR : Hid (∀ W : World, Calls Tryz.prog 66 #[.string ⟨#[48]⟩, .int .i64 z] W fun e w' => e = .returned (.string R) ∧ Below W.heap.size W w') := Lib.hid fun W => by
    rw [hzN]
    have h := Tryz.strings_Repeat ⟨#[48]⟩ (tw - nd) W (by omega) (by show 1 * (tw - nd) ≤ _; omega)
    have e := Lib.repeatL_replicate 48 1 (tw - nd)
    rw [Nat.mul_one] at e
    rw [show Lib.repeatL (ByteArray.mk #[48]).data.toList (tw - nd) = List.replicate (tw - nd) 48 from e, hR] at h
    exact h
  obtain ⟨X, hX⟩ : ∃ X : ByteArray, (⟨(textL u width).toArray⟩ : ByteArray) = X := ⟨_, rfl⟩
  have hadd : ∀ W : World, (Op.stringOp .add R D).run Tryz.prog W = .ok (.string X) W := fun W => by
    rw [run_string_add_sum W R D (by omega)]
    congr 2
    rw [← hX]
    apply ByteArray.ext
    apply Array.ext'
    rw [ByteArray.data_append, Array.toList_append, ← hR, ← hD]
    unfold textL
    rw [htw2, hnd]
  rw [hX]
  have HT := Lib.hid hT
  have HZ := Lib.hid hz
  have hsub : 0 ≤ (tw : Int) - (D.size : Int) := by omega
  have htwI : (tw : Int) ≤ 40 := by omega
  have hDI : (D.size : Int) ≤ 20 := by omega
  clear hT hz hzN hX hR hRs hmx0 hmm htw2 htw hnd htl hdl hD hDs hle hn20 htw40
  go_enter Tryz.func44, Tryz.ntmps44
  go_wp2_with fail
  refine (HF.out _ HT.out).mono ?_
  rintro e w1 ⟨rfl, hb1⟩
  go_wp2_with fail
  rw [HZ.out]
  refine (HR.out _).mono ?_
  rintro e w2 ⟨rfl, hb2⟩
  go_wp2_with fail
  go_ret
  exact ⟨rfl, hb1.trans (hb2.mono hb1.size)⟩

theorem decDigits_cons (m : Nat) (out : List UInt8) : (if m < 10 then [UInt8.ofNat (48 + m)] ++ out else Lib.decDigits (m / 10) ++ ([UInt8.ofNat (48 + m % 10)] ++ out)) = Lib.decDigits m ++ out := by
  rw [Lib.decDigits.eq_1 m]
  by_cases h : m < 10
  · rw [if_pos h, dif_pos h]
  · rw [if_neg h, dif_neg h, List.append_assoc]

set_option maxRecDepth 4000 in
set_option maxHeartbeats 1000000 in
/-- The document's digits. -/
theorem refDec_any (u : Nat) (hu : u < 18446744073709551616) (w : World) :
    Calls Tryz.prog 68 #[.int .u64 u] w fun e w' => e = .returned (.string ⟨(Lib.decDigits u).toArray⟩) ∧ Below w.heap.size w w' := by
  have hdl := Lib.decDigits_length u
  have hn20 := Lib.nDigits_le20 u hu
  obtain ⟨L, hL⟩ : ∃ L, Lib.decDigits u = L := ⟨_, rfl⟩
  have hLl : L.length ≤ 20 := by rw [← hL]; omega
  rw [hL]
  have HL := Lib.hid hL
  clear hL hdl hn20
  go_enter Tryz.func68, Tryz.ntmps68
  go_wp2
  go_loopw [0, 3] (fun t s wr => ∃ (m : Nat) (out : List UInt8), m < 18446744073709551616 ∧ t = .int .u64 m ∧ s = .string ⟨out.toArray⟩ ∧ Hid (Lib.decDigits m ++ out = L) ∧ Below w.heap.size w wr)
      (fun t _ _ => (intOf t).toNat)
  case atStart => exact ⟨u, [], hu, rfl, rfl, Lib.hid (by rw [List.append_nil, HL.out]), Below.refl _ _⟩
  case round =>
    obtain ⟨m, out, hm, rfl, rfl, HO, hb⟩ := hrel
    have hol : out.length + 1 ≤ 20 := by
      have h := congrArg List.length HO.out
      rw [List.length_append, Lib.decDigits_length] at h
      have := Lib.nDigits_pos m
      omega
    obtain ⟨d, hd⟩ : ∃ d : Nat, m % 10 = d := ⟨_, rfl⟩
    have hd10 : d < 10 := by omega
    have hdI : (m : Int) % 10 = (d : Int) := by omega
    have hcv := conv_one (P := Tryz.prog) wr 43 9 5 Tryz.underlying43 Tryz.underlying5 Tryz.underlying9 (48 + (d : Int)) (by omega) (by omega) _ rfl
    have hwr : IntKind.u8.wrap (48 + (d : Int)) = 48 + (d : Int) := by rw [IntKind.wrap_u8]; omega
    have hd2 : (d : Int) < 10 := by omega
    have hd0 : 0 ≤ (d : Int) := by omega
    have hcat : ∀ (X : ByteArray), X = ⟨#[48 + UInt8.ofNat d]⟩ ++ ⟨out.toArray⟩ → X = ⟨([UInt8.ofNat (48 + d)] ++ out).toArray⟩ := fun X h => by
      rw [h]
      apply ByteArray.ext
      rw [ByteArray.data_append]
      apply Array.ext'
      simp
    have hstep := decDigits_cons m out
    rw [hd, HO.out] at hstep
    have HC := Lib.hid hcat
    have HSt := Lib.hid hstep
    have HB := Lib.hid (hb.alloc hb.size (.cells #[.int .u8 (48 + (d : Int))] 5))
    clear hcat hstep hb
    by_cases hm10 : m < 10
    · have hq : ((m : Int) / 10 == 0) = true := by rw [beq_iff_eq]; omega
      have HDM : Hid (d = m) := Lib.hid (by omega)
      clear hd hm10
      go_wp2
      go_ret
      refine ⟨?_, HB.out⟩
      have h := HSt.out
      rw [if_pos (by have := HDM.out; omega)] at h
      rw [← h]
      show Ending.returned (Value.string _) = _
      rw [HC.out _ rfl, HDM.out]
    · have hq : ((m : Int) / 10 == 0) = false := by rw [beq_eq_false_iff_ne]; omega
      go_wp2
      refine ⟨⟨m / 10, [UInt8.ofNat (48 + d)] ++ out, by omega, by simp, by rw [HC.out _ rfl], Lib.hid ?_, HB.out⟩, by simp [intOf]; omega⟩
      have h := HSt.out
      rwa [if_neg hm10] at h

theorem textL_more (u width k : Nat) (h : Lib.nDigits u + k < width) (h40 : Lib.nDigits u + k < 40) : Lib.nDigits u + (k + 1) ≤ textW u width := by unfold textW; omega

set_option maxRecDepth 4000 in
set_option maxHeartbeats 1000000 in
/-- The document's text of a width. -/
theorem refText3_any (u width : Nat) (hu : u < 18446744073709551616) (hw : width ≤ 1000000) (w : World) :
    Calls Tryz.prog 48 #[.int .u64 u, .int .i64 width] w fun e w' => e = .returned (.string ⟨(textL u width).toArray⟩) ∧ Below w.heap.size w w' := by
  have hdl := Lib.decDigits_length u
  have hn20 := Lib.nDigits_le20 u hu
  obtain ⟨n, hn⟩ : ∃ n, Lib.nDigits u = n := ⟨_, rfl⟩
  obtain ⟨L, hL⟩ : ∃ L, Lib.decDigits u = L := ⟨_, rfl⟩
  have hLl : L.length = n := by rw [← hL, hdl, hn]
  have htx : textL u width = List.replicate (min (max width n) 40 - n) 48 ++ L := by unfold textL textW; rw [hn, hL]
  rw [htx]
  have HD := Lib.hid (fun W => refDec_any u hu W)
  rw [hL] at HD
  rw [hn] at hn20
  have HLl := Lib.hid hLl
  clear hdl hn hL htx hLl
  go_enter Tryz.func48, Tryz.ntmps48
  go_wp2_with fail
  refine (HD.out _).mono ?_
  rintro e w1 ⟨rfl, hb1⟩
  go_wp2_with fail
  go_loop [5] (fun s => ∃ (k : Nat) (X : ByteArray), s = .string X ∧ Hid (X = ⟨(List.replicate k 48 ++ L).toArray⟩ ∧ k ≤ min (max width n) 40 - n)) (fun s => match s with | .string X => 40 - X.size | _ => 0)
  case atStart => exact ⟨0, _, rfl, Lib.hid ⟨by simp, Nat.zero_le _⟩⟩
  case round =>
    obtain ⟨k, X, rfl, HX⟩ := hrel
    have hXs : X.size = k + n := by
      rw [HX.out.1]
      show (List.replicate k 48 ++ L).toArray.size = _
      simp [HLl.out]
    have hk := HX.out.2
    by_cases hlt : k + n < width ∧ k + n < 40
    · have h1 : (X.size : Int) < (width : Int) := by omega
      have h2 : (X.size : Int) < 40 := by omega
      obtain ⟨Y, hY⟩ : ∃ Y : ByteArray, (⟨#[48]⟩ : ByteArray) ++ X = Y := ⟨_, rfl⟩
      have hYs : Y.size = X.size + 1 := by rw [← hY, ByteArray.size_append]; show 1 + X.size = _; omega
      have hadd : ∀ W : World, (Op.stringOp .add ⟨#[48]⟩ X).run Tryz.prog W = .ok (.string Y) W := fun W => by
        rw [run_string_add_sum W _ X (by show 1 + X.size ≤ _; omega), hY]
      have HY : Hid (Y = ⟨(List.replicate (k + 1) 48 ++ L).toArray⟩ ∧ k + 1 ≤ min (max width n) 40 - n) := Lib.hid ⟨by
        rw [← hY, HX.out.1]
        apply ByteArray.ext
        rw [ByteArray.data_append]
        apply Array.ext'
        simp [List.replicate_succ], by omega⟩
      have HYs := Lib.hid hYs
      clear hY hYs hXs hk
      go_wp2
      go_round
      case rel => exact ⟨k + 1, Y, rfl, HY⟩
      case measure => show 40 - Y.size < 40 - X.size; rw [HYs.out]; omega
    · have hke : k = min (max width n) 40 - n := by omega
      by_cases h1 : k + n < width
      · have h1I : (X.size : Int) < (width : Int) := by omega
        have h2I : ¬ (X.size : Int) < 40 := by omega
        have HX2 := Lib.hid HX.out.1
        have HKE := Lib.hid hke
        clear hXs hk hke HX
        go_wp2
        go_ret
        refine ⟨?_, hb1⟩
        rw [HX2.out, HKE.out]
        rfl
      · have h1I : ¬ (X.size : Int) < (width : Int) := by omega
        have HX2 := Lib.hid HX.out.1
        have HKE := Lib.hid hke
        clear hXs hk hke HX
        go_wp2
        go_ret
        refine ⟨?_, hb1⟩
        rw [HX2.out, HKE.out]
        rfl
end Go.Proofs.YtlmbijhkpgolaaaGreatDoor
