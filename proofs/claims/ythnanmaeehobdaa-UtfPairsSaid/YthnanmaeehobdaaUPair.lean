/- The contracts of utf's Pair and Split. -/
import Derived.Test.YthnanmaeehobdaaUSmall
import Derived.Lib.QuoteBits
namespace Go.Proofs.Ythnanmaeehobdaa
open Go.RowKit
set_option linter.unusedVariables false

theorem and_1023 (x : Nat) (h : x < 2147483648) : bits .and .i32 (x : Int) 1023 = ((x % 1024 : Nat) : Int) := by
  show IntKind.i32.wrap ((BitVec.ofInt 32 (x : Int) &&& BitVec.ofInt 32 ((1023 : Nat) : Int)).toNat : Int) = _
  rw [BitVec.toNat_and, ofInt_u32 x (by omega), ofInt_u32 1023 (by omega), show (1023 : Nat) = 2 ^ 10 - 1 from rfl, Nat.and_two_pow_sub_one_eq_mod]
  exact Lib.wrap_i32_small _ (by omega)
theorem and_1023_i (x : Int) (h0 : 0 ≤ x) (h : x < 2147483648) : bits .and .i32 x 1023 = x % 1024 := by
  obtain ⟨k, rfl⟩ : ∃ k : Nat, x = k := ⟨x.toNat, by omega⟩
  rw [and_1023 k (by omega)]
  omega

set_option maxHeartbeats 400000 in
theorem Pair_yes (a b : Int) (w : World) (ha : 55296 ≤ a) (ha' : a < 56320) (hb : 56320 ≤ b) (hb' : b < 57344) :
    Calls Try.prog 16 #[.int .u16 a, .int .u16 b] w fun e w' => e = .returned (.tuple #[.int .i32 (65536 + (a - 55296) * 1024 + (b - 56320)), .bool true]) ∧ w = w' := by
  have h1 : surr a = 1 := surr_1 ha ha'
  have h2 : surr b = 2 := surr_2 hb (by omega)
  have H1 := Lib.hid h1
  have H2 := Lib.hid h2
  clear h1 h2
  go_enter Try.func16, Try.ntmps16
  go_wp2_with (first
    | (go_at_call 17; with_reducible refine (Surrogate_any a _).mono ?_; rintro e w' ⟨rfl, rfl⟩; rw [H1.out])
    | (go_at_call 17; with_reducible refine (Surrogate_any b _).mono ?_; rintro e w' ⟨rfl, rfl⟩; rw [H2.out]))
  go_ret2
  exact ⟨rfl, rfl⟩

def NoPair (w : World) (e : Ending) (w' : World) : Prop := e = .returned (.tuple #[.int .i32 0, .bool false]) ∧ w = w'

set_option maxHeartbeats 400000 in
theorem Pair_no (a b : Int) (w : World) (h : ¬ (55296 ≤ a ∧ a < 56320) ∨ ¬ (56320 ≤ b ∧ b < 57344)) :
    Calls Try.prog 16 #[.int .u16 a, .int .u16 b] w (NoPair w) := by
  by_cases ha : surr a = 1
  · have hb : surr b ≠ 2 := by
      intro hb
      unfold surr at ha hb
      split at ha <;> split at hb <;> (try split at ha) <;> (try split at hb) <;> (try split at ha) <;> (try split at hb) <;> omega
    have h1 : ((surr a) != 1) = false := by simp [ha]
    have h2 : ((surr b) != 2) = true := by simpa using hb
    clear ha hb h
    go_enter Try.func16, Try.ntmps16
    go_wp2_with (first
      | (go_at_call 17; with_reducible refine (Surrogate_any a _).mono ?_; rintro e w' ⟨rfl, rfl⟩)
      | (go_at_call 17; with_reducible refine (Surrogate_any b _).mono ?_; rintro e w' ⟨rfl, rfl⟩))
    go_ret2
    exact ⟨rfl, rfl⟩
  · have h1 : ((surr a) != 1) = true := by simpa using ha
    clear ha h
    go_enter Try.func16, Try.ntmps16
    go_wp2_with (go_at_call 17; with_reducible refine (Surrogate_any a _).mono ?_; rintro e w' ⟨rfl, rfl⟩)
    go_ret2
    exact ⟨rfl, rfl⟩

set_option maxHeartbeats 400000 in
theorem Split_yes (r : Int) (w : World) (h0 : 65536 ≤ r) (h1 : r ≤ 1114111) :
    Calls Try.prog 18 #[.int .i32 r] w fun e w' => e = .returned (.tuple #[.int .u16 (55296 + (r - 65536) / 1024), .int .u16 (56320 + (r - 65536) % 1024), .bool true]) ∧ w = w' := by
  have hbits := and_1023_i (r - 65536) (by omega) (by omega)
  have g1 : 0 ≤ 56320 + (r - 65536) % 1024 := by omega
  have g2 : 56320 + (r - 65536) % 1024 < 57344 := by omega
  go_enter Try.func18, Try.ntmps18
  go_wp2
  go_ret3
  exact ⟨rfl, rfl⟩

set_option maxHeartbeats 400000 in
theorem Split_no (r : Int) (w : World) (h0 : r < 65536 ∨ 1114111 < r) :
    Calls Try.prog 18 #[.int .i32 r] w fun e w' => e = .returned (.tuple #[.int .u16 0, .int .u16 0, .bool false]) ∧ w = w' := by
  by_cases h1 : r < 65536
  · clear h0
    go_enter Try.func18, Try.ntmps18
    go_wp2
    go_ret3
    exact ⟨rfl, rfl⟩
  · have h2 : 1114111 < r := by omega
    clear h0
    go_enter Try.func18, Try.ntmps18
    go_wp2
    go_ret3
    exact ⟨rfl, rfl⟩
end Go.Proofs.Ythnanmaeehobdaa
