/- The contracts of digits' Luhn, Check, Card and Text, and of the law's example. -/
import Derived.Test.YtlmbijhkpgolaaaDoorDWeights
import Derived.Test.YtlmbijhkpgolaaaDoorShelf
namespace Go.Proofs.YtlmbijhkpgolaaaDoor
open Go.RowKit
set_option linter.unusedVariables false
def cardN (s : ByteArray) : Int := if isD s = false then 4 else if s.size < 13 then 3 else if 19 < s.size then 5 else if luhnB s = false then 25 else 0

set_option maxHeartbeats 400000 in
theorem Luhn_any (s : ByteArray) (w : World) (hs : s.size ≤ 1000) :
    Calls Tryd.prog 43 #[.string s] w fun e w' => e = .returned (.bool (luhnB s)) ∧ Below w.heap.size w w' := by
  cases hd : isD s with
  | false =>
    rw [luhnB_not hd]
    go_enter Tryd.func43, Tryd.ntmps43
    go_wp2_with (go_at_call 42; refine (Is_any _ _ (by omega)).mono ?_; rintro e w' ⟨rfl, rfl⟩; rw [hd])
    go_ret
    exact ⟨rfl, Below.refl _ _⟩
  | true =>
    rw [luhnB_is hd]
    go_enter Tryd.func43, Tryd.ntmps43
    go_wp2_with first
      | (go_at_call 42; refine (Is_any _ _ (by omega)).mono ?_; rintro e w' ⟨rfl, rfl⟩; rw [hd])
      | (go_at_call 52; refine (weighed_any s 0 _ hs (by omega) hd).mono ?_; rintro e w' ⟨rfl, hB⟩)
    go_ret
    exact ⟨ret_boolE (by rw [Bool.eq_iff_iff]; simp; try omega), hB⟩

theorem cardN_len {s : ByteArray} (h : isD s = true) : cardN s = if s.size < 13 then 3 else if 19 < s.size then 5 else if luhnB s = false then 25 else 0 := by unfold cardN; rw [if_neg (by simp [h])]

set_option maxHeartbeats 400000 in
theorem Card_any (s : ByteArray) (w : World) (hs : s.size ≤ 1000) :
    Calls Tryd.prog 36 #[.string s] w fun e w' => e = .returned (.int .i64 (cardN s)) ∧ Below w.heap.size w w' := by
  cases hd : isD s with
  | false =>
    have hc : cardN s = 4 := by unfold cardN; rw [if_pos hd]
    rw [hc]
    go_enter Tryd.func36, Tryd.ntmps36
    go_wp2_with (go_at_call 42; refine (Is_any _ _ (by omega)).mono ?_; rintro e w' ⟨rfl, rfl⟩; rw [hd])
    go_ret
    exact ⟨rfl, Below.refl _ _⟩
  | true =>
    rw [cardN_len hd]
    by_cases h13 : s.size < 13
    · rw [if_pos h13]
      have h13' : (s.size : Int) < 13 := by omega
      go_enter Tryd.func36, Tryd.ntmps36
      go_wp2_with (go_at_call 42; refine (Is_any _ _ (by omega)).mono ?_; rintro e w' ⟨rfl, rfl⟩; rw [hd])
      go_ret
      exact ⟨rfl, Below.refl _ _⟩
    · rw [if_neg h13]
      have h13' : (13 : Int) ≤ (s.size : Int) := by omega
      by_cases h19 : 19 < s.size
      · rw [if_pos h19]
        have h19' : (19 : Int) < (s.size : Int) := by omega
        go_enter Tryd.func36, Tryd.ntmps36
        go_wp2_with (go_at_call 42; refine (Is_any _ _ (by omega)).mono ?_; rintro e w' ⟨rfl, rfl⟩; rw [hd])
        go_ret
        exact ⟨rfl, Below.refl _ _⟩
      · rw [if_neg h19]
        have h19' : (s.size : Int) ≤ 19 := by omega
        cases hl : luhnB s with
        | false =>
          rw [if_pos rfl]
          go_enter Tryd.func36, Tryd.ntmps36
          go_wp2_with first
            | (go_at_call 42; refine (Is_any _ _ (by omega)).mono ?_; rintro e w' ⟨rfl, rfl⟩; rw [hd])
            | (go_at_call 43; refine (Luhn_any _ _ (by omega)).mono ?_; rintro e w' ⟨rfl, hB⟩; rw [hl])
          go_ret
          exact ⟨rfl, hB⟩
        | true =>
          rw [if_neg (by decide)]
          go_enter Tryd.func36, Tryd.ntmps36
          go_wp2_with first
            | (go_at_call 42; refine (Is_any _ _ (by omega)).mono ?_; rintro e w' ⟨rfl, rfl⟩; rw [hd])
            | (go_at_call 43; refine (Luhn_any _ _ (by omega)).mono ?_; rintro e w' ⟨rfl, hB⟩; rw [hl])
          go_ret
          exact ⟨rfl, hB⟩

theorem dec7 : (⟨(Lib.decDigits 7).toArray⟩ : ByteArray) = ⟨#[55]⟩ := by decide +kernel
theorem rep2 : (⟨(Lib.repeatL (ByteArray.mk #[48]).data.toList 2).toArray⟩ : ByteArray) = ⟨#[48, 48]⟩ := by decide +kernel

set_option maxHeartbeats 400000 in
theorem format7 (w : World) : Calls Tryd.prog 53 #[.int .u64 7, .int .i64 10] w fun e w' => e = .returned (.string ⟨#[55]⟩) ∧ w' = w := by
  go_enter Tryd.func53, Tryd.ntmps53
  go_wp2_with (go_at_call 67; refine (Tryd.internal_strconv_small 7 (by omega) _).mono ?_; rintro e w' ⟨rfl, rfl⟩; rw [dec7])
  go_ret
  exact ⟨rfl, rfl⟩
theorem fmt7 (w : World) : Calls Tryd.prog 44 #[.int .u64 7, .int .i64 10] w fun e w' => e = .returned (.string ⟨#[55]⟩) ∧ w' = w := by
  go_enter Tryd.func44, Tryd.ntmps44
  go_wp2_with (go_at_call 53; refine (format7 _).mono ?_; rintro e w' ⟨rfl, rfl⟩)
  go_ret
  exact ⟨rfl, rfl⟩
set_option maxHeartbeats 400000 in
theorem text7 (w : World) : Calls Tryd.prog 37 #[.int .u64 7, .int .i64 3] w fun e w' => e = .returned (.string ⟨#[48, 48, 55]⟩) ∧ Below w.heap.size w w' := by
  go_enter Tryd.func37, Tryd.ntmps37
  go_wp2_with first
    | (go_at_call 44; refine (fmt7 _).mono ?_; rintro e w' ⟨rfl, rfl⟩)
    | (go_at_call 45; refine (Tryd.strings_Repeat ⟨#[48]⟩ 2 _ (by omega) (by decide)).mono ?_; rintro e w' ⟨rfl, hB⟩; rw [rep2])
  go_ret
  exact ⟨rfl, hB⟩

def cardE : ByteArray := ⟨#[52, 49, 49, 49, 49, 49, 49, 49, 49, 49, 49, 49, 49, 49, 49, 49]⟩
theorem card_ex : cardN ⟨#[52, 49, 49, 49, 49, 49, 49, 49, 49, 49, 49, 49, 49, 49, 49, 49]⟩ = 0 := by decide +kernel

set_option maxHeartbeats 400000 in
theorem awake3_any (w : World) :
    Calls Tryd.prog 30 #[] w fun e w' => e = .returned (.bool true) ∧ Below w.heap.size w w' := by
  go_enter Tryd.func30, Tryd.ntmps30
  go_wp2_with (first
    | (go_at_call 36; refine (Card_any _ _ (by decide)).mono ?_; rintro e w' ⟨rfl, hB1⟩; rw [card_ex])
    | (go_at_call 37; refine (text7 _).mono ?_; rintro e w' ⟨rfl, hB2⟩)
    | (go_at_call 38; refine (days2024 _).mono ?_; rintro e w' ⟨rfl, rfl⟩))
  go_ret
  exact ⟨rfl, hB1.trans (hB2.mono hB1.size)⟩
end Go.Proofs.YtlmbijhkpgolaaaDoor
