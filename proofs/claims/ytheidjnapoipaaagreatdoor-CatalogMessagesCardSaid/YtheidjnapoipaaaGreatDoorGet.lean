/- The contracts of octet's reading of a number. -/
import Derived.Test.YtheidjnapoipaaaGreatDoorRows
import Derived.WalkKit
import Derived.WalkSpells
import Derived.WalkLawsBesides
import Derived.Lib.Hide
import Derived.Test.YtheidjnapoipaaaGreatDoorPlain
namespace Go.Proofs.YtheidjnapoipaaaGreatDoor
open Go.RowKit
set_option linter.unusedVariables false

/-- What a text's byte adds to a number: shifted and joined. -/
theorem shl_or (n c : Nat) (hc : c < 256) : (n * 256 ||| c) = n * 256 + c := by
  have h := Nat.two_pow_add_eq_or_of_lt (i := 8) (by omega : c < 2 ^ 8) n
  have e : (2 : Nat) ^ 8 * n = n * 256 := by omega
  rw [e] at h
  exact h.symm

theorem or_step (n c : Nat) (hn : n < 72057594037927936) (hc : c < 256) :
    bits BinOp.or IntKind.u64 (IntKind.u64.wrap ((n : Int) * 256)) (IntKind.u64.wrap (c : Int)) = ((n * 256 + c : Nat) : Int) := by
  have e1 : IntKind.u64.wrap ((n : Int) * 256) = ((n * 256 : Nat) : Int) := by rw [IntKind.wrap_u64]; omega
  have e2 : IntKind.u64.wrap (c : Int) = (c : Int) := by rw [IntKind.wrap_u64]; omega
  rw [e1, e2, u64_or_nat _ _ (by omega) (by omega), shl_or n c hc]

set_option maxHeartbeats 400000 in
theorem number_any (s : ByteArray) (w : World) (hs : s.size ≤ 8) :
    Calls Tryz.prog 171 #[.string s] w fun e w' => e = .returned (.int .u64 (getL s.data.toList)) ∧ w = w' := by
  go_enter Tryz.func171, Tryz.ntmps171
  go_wp2
  go_loop [3, 7] (fun n i => ∃ k : Nat, k ≤ s.size ∧ i = .int .i64 k ∧ n = .int .u64 (getL (s.data.toList.take k))) (fun _ i => s.size - (intOf i).toNat)
  case atStart => exact ⟨0, Nat.zero_le _, rfl, rfl⟩
  case round =>
    obtain ⟨k, hk, rfl, rfl⟩ := hrel
    by_cases hlt : k < s.size
    · go_wp2
      go_round
      case rel =>
        refine ⟨k + 1, by omega, by go_num, ?_⟩
        have h7 : getL (s.data.toList.take k) < 256 ^ k := by
          have := getL_lt (s.data.toList.take k)
          rwa [List.length_take, Nat.min_eq_left (by simpa using hk)] at this
        have h8 : 256 ^ k ≤ 256 ^ 7 := Nat.pow_le_pow_right (by omega) (by omega)
        have h9 : (256 : Nat) ^ 7 = 72057594037927936 := by decide
        rw [take_snoc s k hlt, getL_snoc]
        congr 1
        exact or_step _ _ (by omega) (UInt8.toNat_lt _)
      case measure => simp [intOf]; omega
    · go_wp2
      go_ret
      exact ⟨ret_int (by rw [List.take_of_length_le (by simp; omega)]), rfl⟩

/-- What Get answers. -/
def getE (l : List UInt8) : Int := if l.length = 0 then 3 else if 8 < l.length then 5 else 0
def getN (l : List UInt8) : Nat := if l.length = 0 then 0 else if 8 < l.length then 0 else getL l

set_option maxHeartbeats 400000 in
theorem Get_any (s : ByteArray) (w : World) (hs : s.size ≤ 9223372036854775807) :
    Calls Tryz.prog 165 #[.string s] w fun e w' => e = .returned (.tuple #[.int .u64 (getN s.data.toList), .int .i64 (getE s.data.toList)]) ∧ w = w' := by
  have hl : s.data.toList.length = s.size := by simp
  by_cases h0 : s.size = 0
  · have e1 : getE s.data.toList = 3 := by unfold getE; rw [if_pos (by omega)]
    have e2 : getN s.data.toList = 0 := by unfold getN; rw [if_pos (by omega)]
    rw [e1, e2]
    clear e1 e2
    go_enter Tryz.func165, Tryz.ntmps165
    go_wp2
    go_ret2
    exact ⟨rfl, rfl⟩
  · by_cases h8 : 8 < s.size
    · have e1 : getE s.data.toList = 5 := by unfold getE; rw [if_neg (by omega), if_pos (by omega)]
      have e2 : getN s.data.toList = 0 := by unfold getN; rw [if_neg (by omega), if_pos (by omega)]
      rw [e1, e2]
      clear e1 e2
      go_enter Tryz.func165, Tryz.ntmps165
      go_wp2
      go_ret2
      exact ⟨rfl, rfl⟩
    · have e1 : getE s.data.toList = 0 := by unfold getE; rw [if_neg (by omega), if_neg (by omega)]
      have e2 : getN s.data.toList = getL s.data.toList := by unfold getN; rw [if_neg (by omega), if_neg (by omega)]
      rw [e1, e2]
      clear e1 e2
      go_enter Tryz.func165, Tryz.ntmps165
      go_wp2_with (go_at_call 171; refine (number_any _ _ (by omega)).mono ?_; rintro e w' ⟨rfl, rfl⟩)
      go_ret2
      exact ⟨rfl, rfl⟩
end Go.Proofs.YtheidjnapoipaaaGreatDoor
