/- The contracts of digits' functions that make no memory. -/
import Derived.Test.YtcecibopanfmgaaGreatDoorRows
import Derived.WalkKit
import Derived.WalkSpells
import Derived.WalkLawsBesides
import Derived.Lib.Hide
import Derived.Test.YtcecibopanfmgaaGreatDoorDPlain
import Derived.Test.YtcecibopanfmgaaGreatDoorMem
namespace Go.Proofs.YtcecibopanfmgaaGreatDoor
open Go.RowKit
set_option linter.unusedVariables false

theorem ret_int_d {k : IntKind} {a b : Int} (h : a = b) : Ending.returned (.int k a) = .returned (.int k b) := by rw [h]
theorem ret_boolE {a b : Bool} (h : a = b) : Ending.returned (.bool a) = .returned (.bool b) := by rw [h]

theorem get_d {s : ByteArray} {j : Nat} (h : j < s.size) : s.data.toList.getD j 0 = s[j] := by
  rw [List.getD_eq_getElem?_getD, List.getElem?_eq_getElem (by simpa using h)]; rfl
theorem isD_no {s : ByteArray} {j : Nat} (h : j < s.size) (hd : isDig s[j] = false) : isD s = false := by
  cases hb : isD s with
  | false => rfl
  | true =>
    have h2 := ((isD_iff s).1 hb).2 s[j] (by
      show s.data.toList[j]'(by simpa using h) ∈ _
      exact List.getElem_mem _)
    rw [hd] at h2; cases h2
theorem isD_all {s : ByteArray} (h : 0 < s.size) (hd : ∀ i, i < s.size → isDig (s.data.toList.getD i 0) = true) : isD s = true := by
  refine (isD_iff s).2 ⟨h, fun c hc => ?_⟩
  obtain ⟨i, hi, rfl⟩ := List.mem_iff_getElem.1 hc
  have hi' : i < s.size := by simpa using hi
  have := hd i hi'
  rw [List.getD_eq_getElem?_getD, List.getElem?_eq_getElem hi] at this
  exact this
theorem isD_empty {s : ByteArray} (h : ¬ 0 < s.size) : isD s = false := by unfold isD; rw [decide_eq_false h]; rfl
theorem toList_empty (s : ByteArray) : (s.toList == []) = !decide (0 < s.size) := by
  rw [Bool.eq_iff_iff, beq_iff_eq, ByteArray.toList_eq]
  cases s with
  | mk d => cases d with
    | mk l => cases l <;> simp [ByteArray.size]

set_option maxHeartbeats 400000 in
theorem Is_any (s : ByteArray) (w : World) (hs : s.size ≤ 1000000) :
    Calls Tryz.prog 49 #[.string s] w fun e w' => e = .returned (.bool (isD s)) ∧ w = w' := by
  go_enter Tryz.func49, Tryz.ntmps49
  go_wp2
  go_loop [6] (fun i => ∃ j : Nat, j ≤ s.size ∧ i = .int .i64 j ∧ Hid (∀ i, i < j → isDig (s.data.toList.getD i 0) = true)) (fun i => s.size - (intOf i).toNat)
  case atStart => exact ⟨0, Nat.zero_le _, rfl, fun i hi => by omega⟩
  case round =>
    obtain ⟨j, hj, rfl, HJ⟩ := hrel
    by_cases hlt : j < s.size
    · cases hd : isDig s[j] with
      | true =>
        have hd2 := (isDig_iff _).1 hd
        have h48 : (48 : Int) ≤ ((s[j]).toNat : Int) := by omega
        have h57 : ((s[j]).toNat : Int) ≤ 57 := by omega
        have hnext : Hid (∀ i, i < j + 1 → isDig (s.data.toList.getD i 0) = true) := by
          intro i hi
          rcases (by omega : i < j ∨ i = j) with h1 | h1
          · exact HJ.out i h1
          · rw [h1, get_d hlt]; exact hd
        clear hd hd2
        go_wp2
        go_round
        case rel => exact ⟨j + 1, by omega, by go_num, hnext⟩
        case measure => simp [intOf]; omega
      | false =>
        have hr : Hid (isD s = false) := isD_no hlt hd
        have hd2 : ¬ (48 ≤ (s[j]).toNat ∧ (s[j]).toNat ≤ 57) := fun h => by rw [(isDig_iff _).2 h] at hd; cases hd
        clear hd
        by_cases h48 : ((s[j]).toNat : Int) < 48
        · clear hd2
          go_wp2
          go_ret
          exact ⟨ret_boolE hr.out.symm, rfl⟩
        · have h57 : (57 : Int) < ((s[j]).toNat : Int) := by omega
          clear hd2
          go_wp2
          go_ret
          exact ⟨ret_boolE hr.out.symm, rfl⟩
    · have he := toList_empty s
      by_cases h0 : 0 < s.size
      · have hr : Hid (isD s = true) := isD_all h0 (fun i hi => HJ.out i (by omega))
        rw [decide_eq_true h0] at he
        go_wp2
        go_ret
        exact ⟨ret_boolE (by rw [hr.out]), rfl⟩
      · have hr : Hid (isD s = false) := isD_empty h0
        rw [decide_eq_false h0] at he
        go_wp2
        go_ret
        exact ⟨ret_boolE (by rw [hr.out]), rfl⟩

theorem dbl_hi {d : Nat} (h : 4 < d) : dbl d = 2 * d - 9 := by unfold dbl; rw [if_pos h]
theorem dbl_lo {d : Nat} (h : ¬ 4 < d) : dbl d = 2 * d := by unfold dbl; rw [if_neg h]

theorem doubled_any (d : Nat) (w : World) (hd : d ≤ 9) :
    Calls Tryz.prog 111 #[.int .i64 d] w fun e w' => e = .returned (.int .i64 (dbl d : Nat)) ∧ w = w' := by
  by_cases h : 4 < d
  · have h4 : (4 : Int) < (d : Int) := by omega
    go_enter Tryz.func111, Tryz.ntmps111
    go_wp2
    go_ret
    exact ⟨ret_int_d (by rw [dbl_hi h]; go_num), rfl⟩
  · have h4 : ¬ (4 : Int) < (d : Int) := by omega
    go_enter Tryz.func111, Tryz.ntmps111
    go_wp2
    go_ret
    exact ⟨ret_int_d (by rw [dbl_lo h]; go_num), rfl⟩

set_option maxHeartbeats 400000 in
theorem refIs_any (s : ByteArray) (w : World) (hs : s.size ≤ 1000000) :
    Calls Tryz.prog 33 #[.string s] w fun e w' => e = .returned (.bool (isD s)) ∧ w = w' := by
  go_enter Tryz.func33, Tryz.ntmps33
  go_wp2
  go_loop [3] (fun i => ∃ j : Nat, j ≤ s.size ∧ i = .int .i64 j ∧ Hid (∀ i, i < j → isDig (s.data.toList.getD i 0) = true)) (fun i => s.size - (intOf i).toNat)
  case atStart => exact ⟨0, Nat.zero_le _, rfl, fun i hi => by omega⟩
  case round =>
    obtain ⟨j, hj, rfl, HJ⟩ := hrel
    by_cases hlt : j < s.size
    · cases hd : isDig s[j] with
      | true =>
        have hd2 := (isDig_iff _).1 hd
        have h48 : (48 : Int) ≤ ((s[j]).toNat : Int) := by omega
        have h57 : ((s[j]).toNat : Int) ≤ 57 := by omega
        have hnext : Hid (∀ i, i < j + 1 → isDig (s.data.toList.getD i 0) = true) := by
          intro i hi
          rcases (by omega : i < j ∨ i = j) with h1 | h1
          · exact HJ.out i h1
          · rw [h1, get_d hlt]; exact hd
        clear hd hd2
        go_wp2
        go_round
        case rel => exact ⟨j + 1, by omega, by go_num, hnext⟩
        case measure => simp [intOf]; omega
      | false =>
        have hr : Hid (isD s = false) := isD_no hlt hd
        have hd2 : ¬ (48 ≤ (s[j]).toNat ∧ (s[j]).toNat ≤ 57) := fun h => by rw [(isDig_iff _).2 h] at hd; cases hd
        clear hd
        by_cases h48 : ((s[j]).toNat : Int) < 48
        · clear hd2
          go_wp2
          go_ret
          exact ⟨ret_boolE hr.out.symm, rfl⟩
        · have h57 : (57 : Int) < ((s[j]).toNat : Int) := by omega
          clear hd2
          go_wp2
          go_ret
          exact ⟨ret_boolE hr.out.symm, rfl⟩
    · by_cases h0 : 0 < s.size
      · have hr : Hid (isD s = true) := isD_all h0 (fun i hi => HJ.out i (by omega))
        have h0' : (0 : Int) < (s.size : Int) := by omega
        go_wp2
        go_ret
        exact ⟨ret_boolE (by rw [hr.out]), rfl⟩
      · have hr : Hid (isD s = false) := isD_empty h0
        have h0' : ¬ (0 : Int) < (s.size : Int) := by omega
        go_wp2
        go_ret
        exact ⟨ret_boolE (by rw [hr.out]), rfl⟩


/-- A text's byte by a number that is reckoned. -/
theorem run_index_str_d {P : Program} (t : TypeId) (s : ByteArray) (j : Nat) (h : P.underlying t = some .string) (hj : j < s.size) (W : World) :
    (Instr.index t (.string s) (.int .i64 (j : Int))).run P W = .ok (.int .u8 ((s.data.toList.getD j 0).toNat : Int)) W := by
  have e : s[j]? = some (s.data.toList.getD j 0) := by
    have hj' : j < s.data.toList.length := by simpa using hj
    rw [List.getD_eq_getElem?_getD, List.getElem?_eq_getElem hj']
    simp [getElem?_pos, hj]
    rfl
  simp [Instr.index, run_underlying h, asIntOf, e]

theorem dbl_ref {d : Nat} (h : d ≤ 9) : ((dbl d : Nat) : Int) = (d : Int) * 2 / 10 + (d : Int) * 2 % 10 := by
  unfold dbl; split <;> omega
theorem wgt_odd {b : Nat} (c : UInt8) (h : b % 2 = 1) : wgt b c = dbl (dv c) := by unfold wgt; rw [if_pos h]
theorem wgt_even {b : Nat} (c : UInt8) (h : ¬ b % 2 = 1) : wgt b c = dv c := by unfold wgt; rw [if_neg h]
theorem ws_step (b : Nat) {s : ByteArray} {j : Nat} (h : j < s.size) : ws b ((rv s).drop j) = wgt b ((rv s).getD j 0) + ws (b + 1) ((rv s).drop (j + 1)) := by
  rw [rv_drop s j h]; rfl
theorem ws_end (b : Nat) {s : ByteArray} {j : Nat} (h : s.size ≤ j) : ws b ((rv s).drop j) = 0 := by
  rw [List.drop_eq_nil_of_le (by rw [rv_length]; exact h)]; rfl

theorem luhnB_not {s : ByteArray} (h : isD s = false) : luhnB s = false := by unfold luhnB; rw [h]; rfl
theorem luhnB_is {s : ByteArray} (h : isD s = true) : luhnB s = decide (wsB 0 s % 10 = 0) := by unfold luhnB; rw [h]; rfl

theorem beq0 (n : Nat) : ((n : Int) % 10 == 0) = decide (n % 10 = 0) := by
  rw [Bool.eq_iff_iff, beq_iff_eq, decide_eq_true_eq]; omega

set_option maxHeartbeats 400000 in
theorem refLuhn_any (s : ByteArray) (w : World) (hs : s.size ≤ 1000) :
    Calls Tryz.prog 64 #[.string s] w fun e w' => e = .returned (.bool (luhnB s)) ∧ w = w' := by
  cases hd : isD s with
  | false =>
    rw [luhnB_not hd]
    have hn : (!isD s) = true := by rw [hd]; rfl
    go_enter Tryz.func64, Tryz.ntmps64
    go_wp2_with (go_at_call 33; refine (refIs_any _ _ (by omega)).mono ?_; rintro e w' ⟨rfl, rfl⟩)
    go_ret
    exact ⟨rfl, rfl⟩
  | true =>
    rw [luhnB_is hd]
    have hn : (!isD s) = false := by rw [hd]; rfl
    have HD := Lib.hid hd
    clear hd
    go_enter Tryz.func64, Tryz.ntmps64
    go_wp2_with (go_at_call 33; refine (refIs_any _ _ (by omega)).mono ?_; rintro e w' ⟨rfl, rfl⟩)
    go_loop [3, 4] (fun t i => ∃ j T : Nat, j ≤ s.size ∧ i = .int .i64 j ∧ t = .int .i64 T ∧ T ≤ 9 * j ∧ Hid (T + ws j ((rv s).drop j) = wsB 0 s)) (fun _ i => s.size - (intOf i).toNat)
    case atStart => exact ⟨0, 0, Nat.zero_le _, rfl, rfl, Nat.le_refl _, by show 0 + ws 0 (rv s) = _; rw [Nat.zero_add]; rfl⟩
    case round =>
      obtain ⟨j, T, hj, rfl, rfl, hT, HT⟩ := hrel
      by_cases hlt : j < s.size
      · have hix := run_index_str_d (P := Tryz.prog) 9 s (s.size - 1 - j) Tryz.underlying9 (by omega)
        rw [← rv_get s j hlt] at hix
        have hstep := ws_step j hlt
        have hdg := rv_dig HD.out j hlt
        generalize hcc : (rv s).getD j 0 = c at hix hstep hdg
        have hq : ((s.size - 1 - j : Nat) : Int) = (s.size : Int) - 1 - (j : Int) := by omega
        rw [hq] at hix
        have hc := (isDig_iff _).1 hdg
        have h48 : (48 : Int) ≤ (c.toNat : Int) := by omega
        have h57 : (c.toNat : Int) ≤ 57 := by omega
        have hdv : ((dv c : Nat) : Int) = (c.toNat : Int) - 48 := by unfold dv; omega
        have hd9 := dv_le hdg
        by_cases hpar : j % 2 = 1
        · have hp : (j : Int) % 2 = 1 := by omega
          have hnext : Hid ((T + dbl (dv c)) + ws (j + 1) ((rv s).drop (j + 1)) = wsB 0 s) := Lib.hid (by
            have := HT.out
            rw [hstep, wgt_odd c hpar] at this
            omega)
          have hb := dbl_le hd9
          have hr := dbl_ref hd9
          clear hstep hq hdg hcc hc
          go_wp2
          go_round
          case rel => exact ⟨j + 1, T + dbl (dv c), by omega, by go_num, by go_num, by omega, hnext⟩
          case measure => simp [intOf]; omega
        · have hp : (j : Int) % 2 = 0 := by omega
          have hnext : Hid ((T + dv c) + ws (j + 1) ((rv s).drop (j + 1)) = wsB 0 s) := Lib.hid (by
            have := HT.out
            rw [hstep, wgt_even c hpar] at this
            omega)
          clear hstep hq hdg hcc hc
          go_wp2
          go_round
          case rel => exact ⟨j + 1, T + dv c, by omega, by go_num, by go_num, by omega, hnext⟩
          case measure => simp [intOf]; omega
      · have he : Hid (T = wsB 0 s) := Lib.hid (by have := HT.out; rw [ws_end j (by omega)] at this; omega)
        go_wp2
        go_ret
        exact ⟨ret_boolE (by rw [he.out]; exact beq0 _), rfl⟩
/-- Is it a card's number? -/
def cardN (s : ByteArray) : Int := if isD s = false then 4 else if s.size < 13 then 3 else if 19 < s.size then 5 else if luhnB s = false then 25 else 0

set_option maxHeartbeats 400000 in
theorem refCard_any (s : ByteArray) (w : World) (hs : s.size ≤ 1000) :
    Calls Tryz.prog 36 #[.string s] w fun e w' => e = .returned (.int .i64 (cardN s)) ∧ w = w' := by
  cases hd : isD s with
  | false =>
    have hc : cardN s = 4 := by unfold cardN; rw [if_pos hd]
    rw [hc]
    have hn : (!isD s) = true := by rw [hd]; rfl
    clear hd hc
    go_enter Tryz.func36, Tryz.ntmps36
    go_wp2_with (go_at_call 33; refine (refIs_any _ _ (by omega)).mono ?_; rintro e w' ⟨rfl, rfl⟩)
    go_ret
    exact ⟨rfl, rfl⟩
  | true =>
    have hn : (!isD s) = false := by rw [hd]; rfl
    have hc : cardN s = if s.size < 13 then 3 else if 19 < s.size then 5 else if luhnB s = false then 25 else 0 := by unfold cardN; rw [if_neg (by simp [hd])]
    rw [hc]
    clear hd hc
    by_cases h13 : s.size < 13
    · rw [if_pos h13]
      have h13' : (s.size : Int) < 13 := by omega
      go_enter Tryz.func36, Tryz.ntmps36
      go_wp2_with (go_at_call 33; refine (refIs_any _ _ (by omega)).mono ?_; rintro e w' ⟨rfl, rfl⟩)
      go_ret
      exact ⟨rfl, rfl⟩
    · rw [if_neg h13]
      have h13' : (13 : Int) ≤ (s.size : Int) := by omega
      by_cases h19 : 19 < s.size
      · rw [if_pos h19]
        have h19' : (19 : Int) < (s.size : Int) := by omega
        go_enter Tryz.func36, Tryz.ntmps36
        go_wp2_with (go_at_call 33; refine (refIs_any _ _ (by omega)).mono ?_; rintro e w' ⟨rfl, rfl⟩)
        go_ret
        exact ⟨rfl, rfl⟩
      · rw [if_neg h19]
        have h19' : (s.size : Int) ≤ 19 := by omega
        cases hl : luhnB s with
        | false =>
          rw [if_pos rfl]
          have hm : (!luhnB s) = true := by rw [hl]; rfl
          go_enter Tryz.func36, Tryz.ntmps36
          go_wp2_with first
            | (go_at_call 33; refine (refIs_any _ _ (by omega)).mono ?_; rintro e w' ⟨rfl, rfl⟩)
            | (go_at_call 64; refine (refLuhn_any _ _ (by omega)).mono ?_; rintro e w' ⟨rfl, rfl⟩)
          go_ret
          exact ⟨rfl, rfl⟩
        | true =>
          rw [if_neg (by decide)]
          have hm : (!luhnB s) = false := by rw [hl]; rfl
          go_enter Tryz.func36, Tryz.ntmps36
          go_wp2_with first
            | (go_at_call 33; refine (refIs_any _ _ (by omega)).mono ?_; rintro e w' ⟨rfl, rfl⟩)
            | (go_at_call 64; refine (refLuhn_any _ _ (by omega)).mono ?_; rintro e w' ⟨rfl, rfl⟩)
          go_ret
          exact ⟨rfl, rfl⟩

theorem leap2024 (w : World) : Calls Tryz.prog 80 #[.int .i64 2024] w fun e w' => e = .returned (.bool true) ∧ w = w' := by
  go_enter Tryz.func80, Tryz.ntmps80
  go_wp2
  go_ret
  exact ⟨rfl, rfl⟩
theorem days2024 (w : World) : Calls Tryz.prog 58 #[.int .i64 2024, .int .i64 2] w fun e w' => e = .returned (.int .i64 29) ∧ w = w' := by
  go_enter Tryz.func58, Tryz.ntmps58
  go_wp2_with (go_at_call 80; refine (leap2024 _).mono ?_; rintro e w' ⟨rfl, rfl⟩)
  go_ret
  exact ⟨rfl, rfl⟩
end Go.Proofs.YtcecibopanfmgaaGreatDoor
