/- The contracts of digits' functions that make no memory. -/
import Derived.Test.YtheidjnapoipaaaGreatDoorRows
import Derived.WalkKit
import Derived.WalkSpells
import Derived.WalkLawsBesides
import Derived.Lib.Hide
import Derived.Test.YtheidjnapoipaaaGreatDoorDPlain
import Derived.Test.YtheidjnapoipaaaGreatDoorMem
namespace Go.Proofs.YtheidjnapoipaaaGreatDoor
open Go.RowKit
set_option linter.unusedVariables false

theorem ret_int_d {k : IntKind} {a b : Int} (h : a = b) : Ending.returned (.int k a) = .returned (.int k b) := by rw [h]
theorem ret_boolE {a b : Bool} (h : a = b) : Ending.returned (.bool a) = .returned (.bool b) := by rw [h]

theorem get_d {s : ByteArray} {j : Nat} (h : j < s.size) : s.data.toList.getD j 0 = s[j] := by
  rw [List.getD_eq_getElem?_getD, List.getElem?_eq_getElem (by simpa using h)]; rfl
theorem isD_no {s : ByteArray} {j : Nat} (h : j < s.size) (hd : isDig s[j] = false) : isD s = false := by
  cases hb : isD s with
  | false => rfl
  | true =>
    have h2 := ((isD_iff s).1 hb).2 s[j] (by
      show s.data.toList[j]'(by simpa using h) ∈ _
      exact List.getElem_mem _)
    rw [hd] at h2; cases h2
theorem isD_all {s : ByteArray} (h : 0 < s.size) (hd : ∀ i, i < s.size → isDig (s.data.toList.getD i 0) = true) : isD s = true := by
  refine (isD_iff s).2 ⟨h, fun c hc => ?_⟩
  obtain ⟨i, hi, rfl⟩ := List.mem_iff_getElem.1 hc
  have hi' : i < s.size := by simpa using hi
  have := hd i hi'
  rw [List.getD_eq_getElem?_getD, List.getElem?_eq_getElem hi] at this
  exact this
theorem isD_empty {s : ByteArray} (h : ¬ 0 < s.size) : isD s = false := by unfold isD; rw [decide_eq_false h]; rfl
theorem toList_empty (s : ByteArray) : (s.toList == []) = !decide (0 < s.size) := by
  rw [Bool.eq_iff_iff, beq_iff_eq, ByteArray.toList_eq]
  cases s with
  | mk d => cases d with
    | mk l => cases l <;> simp [ByteArray.size]

set_option maxHeartbeats 400000 in
theorem Is_any (s : ByteArray) (w : World) (hs : s.size ≤ 1000000) :
    Calls Tryz.prog 67 #[.string s] w fun e w' => e = .returned (.bool (isD s)) ∧ w = w' := by
  go_enter Tryz.func67, Tryz.ntmps67
  go_wp2
  go_loop [6] (fun i => ∃ j : Nat, j ≤ s.size ∧ i = .int .i64 j ∧ Hid (∀ i, i < j → isDig (s.data.toList.getD i 0) = true)) (fun i => s.size - (intOf i).toNat)
  case atStart => exact ⟨0, Nat.zero_le _, rfl, fun i hi => by omega⟩
  case round =>
    obtain ⟨j, hj, rfl, HJ⟩ := hrel
    by_cases hlt : j < s.size
    · cases hd : isDig s[j] with
      | true =>
        have hd2 := (isDig_iff _).1 hd
        have h48 : (48 : Int) ≤ ((s[j]).toNat : Int) := by omega
        have h57 : ((s[j]).toNat : Int) ≤ 57 := by omega
        have hnext : Hid (∀ i, i < j + 1 → isDig (s.data.toList.getD i 0) = true) := by
          intro i hi
          rcases (by omega : i < j ∨ i = j) with h1 | h1
          · exact HJ.out i h1
          · rw [h1, get_d hlt]; exact hd
        clear hd hd2
        go_wp2
        go_round
        case rel => exact ⟨j + 1, by omega, by go_num, hnext⟩
        case measure => simp [intOf]; omega
      | false =>
        have hr : Hid (isD s = false) := isD_no hlt hd
        have hd2 : ¬ (48 ≤ (s[j]).toNat ∧ (s[j]).toNat ≤ 57) := fun h => by rw [(isDig_iff _).2 h] at hd; cases hd
        clear hd
        by_cases h48 : ((s[j]).toNat : Int) < 48
        · clear hd2
          go_wp2
          go_ret
          exact ⟨ret_boolE hr.out.symm, rfl⟩
        · have h57 : (57 : Int) < ((s[j]).toNat : Int) := by omega
          clear hd2
          go_wp2
          go_ret
          exact ⟨ret_boolE hr.out.symm, rfl⟩
    · have he := toList_empty s
      by_cases h0 : 0 < s.size
      · have hr : Hid (isD s = true) := isD_all h0 (fun i hi => HJ.out i (by omega))
        rw [decide_eq_true h0] at he
        go_wp2
        go_ret
        exact ⟨ret_boolE (by rw [hr.out]), rfl⟩
      · have hr : Hid (isD s = false) := isD_empty h0
        rw [decide_eq_false h0] at he
        go_wp2
        go_ret
        exact ⟨ret_boolE (by rw [hr.out]), rfl⟩

theorem dbl_hi {d : Nat} (h : 4 < d) : dbl d = 2 * d - 9 := by unfold dbl; rw [if_pos h]
theorem dbl_lo {d : Nat} (h : ¬ 4 < d) : dbl d = 2 * d := by unfold dbl; rw [if_neg h]

theorem doubled_any (d : Nat) (w : World) (hd : d ≤ 9) :
    Calls Tryz.prog 111 #[.int .i64 d] w fun e w' => e = .returned (.int .i64 (dbl d : Nat)) ∧ w = w' := by
  by_cases h : 4 < d
  · have h4 : (4 : Int) < (d : Int) := by omega
    go_enter Tryz.func111, Tryz.ntmps111
    go_wp2
    go_ret
    exact ⟨ret_int_d (by rw [dbl_hi h]; go_num), rfl⟩
  · have h4 : ¬ (4 : Int) < (d : Int) := by omega
    go_enter Tryz.func111, Tryz.ntmps111
    go_wp2
    go_ret
    exact ⟨ret_int_d (by rw [dbl_lo h]; go_num), rfl⟩

/-- A text's byte by a number that is reckoned. -/
theorem run_index_str_d {P : Program} (t : TypeId) (s : ByteArray) (j : Nat) (h : P.underlying t = some .string) (hj : j < s.size) (W : World) :
    (Instr.index t (.string s) (.int .i64 (j : Int))).run P W = .ok (.int .u8 ((s.data.toList.getD j 0).toNat : Int)) W := by
  have e : s[j]? = some (s.data.toList.getD j 0) := by
    have hj' : j < s.data.toList.length := by simpa using hj
    rw [List.getD_eq_getElem?_getD, List.getElem?_eq_getElem hj']
    simp [getElem?_pos, hj]
    rfl
  simp [Instr.index, run_underlying h, asIntOf, e]

theorem dbl_ref {d : Nat} (h : d ≤ 9) : ((dbl d : Nat) : Int) = (d : Int) * 2 / 10 + (d : Int) * 2 % 10 := by
  unfold dbl; split <;> omega
theorem wgt_odd {b : Nat} (c : UInt8) (h : b % 2 = 1) : wgt b c = dbl (dv c) := by unfold wgt; rw [if_pos h]
theorem wgt_even {b : Nat} (c : UInt8) (h : ¬ b % 2 = 1) : wgt b c = dv c := by unfold wgt; rw [if_neg h]
theorem ws_step (b : Nat) {s : ByteArray} {j : Nat} (h : j < s.size) : ws b ((rv s).drop j) = wgt b ((rv s).getD j 0) + ws (b + 1) ((rv s).drop (j + 1)) := by
  rw [rv_drop s j h]; rfl
theorem ws_end (b : Nat) {s : ByteArray} {j : Nat} (h : s.size ≤ j) : ws b ((rv s).drop j) = 0 := by
  rw [List.drop_eq_nil_of_le (by rw [rv_length]; exact h)]; rfl

theorem luhnB_not {s : ByteArray} (h : isD s = false) : luhnB s = false := by unfold luhnB; rw [h]; rfl
theorem luhnB_is {s : ByteArray} (h : isD s = true) : luhnB s = decide (wsB 0 s % 10 = 0) := by unfold luhnB; rw [h]; rfl

theorem beq0 (n : Nat) : ((n : Int) % 10 == 0) = decide (n % 10 = 0) := by
  rw [Bool.eq_iff_iff, beq_iff_eq, decide_eq_true_eq]; omega

/-- Is it a card's number? -/
def cardN (s : ByteArray) : Int := if isD s = false then 4 else if s.size < 13 then 3 else if 19 < s.size then 5 else if luhnB s = false then 25 else 0

theorem leap2024 (w : World) : Calls Tryz.prog 87 #[.int .i64 2024] w fun e w' => e = .returned (.bool true) ∧ w = w' := by
  go_enter Tryz.func87, Tryz.ntmps87
  go_wp2
  go_ret
  exact ⟨rfl, rfl⟩
theorem days2024 (w : World) : Calls Tryz.prog 74 #[.int .i64 2024, .int .i64 2] w fun e w' => e = .returned (.int .i64 29) ∧ w = w' := by
  go_enter Tryz.func74, Tryz.ntmps74
  go_wp2_with (go_at_call 87; refine (leap2024 _).mono ?_; rintro e w' ⟨rfl, rfl⟩)
  go_ret
  exact ⟨rfl, rfl⟩
end Go.Proofs.YtheidjnapoipaaaGreatDoor
