/- Plain facts on cards' numbers and their order. Nothing of the program stands here. -/
import Derived.WalkKit
import Derived.Lib.Bytealg
import Derived.Test.YtldjnegoefdadaaGreatDoorDPlain
namespace Go.Proofs.YtldjnegoefdadaaGreatDoor
open Go.RowKit
set_option linter.unusedVariables false

/-- Which of two cards' numbers is ahead: by length, then byte by byte. -/
def cmpC (a b : List UInt8) : Int := if a.length < b.length then -1 else if b.length < a.length then 1 else Lib.compareBytes a b
/-- A text without the noughts ahead. -/
def trimZ : List UInt8 → List UInt8
  | [] => []
  | c :: r => if c = 48 then trimZ r else c :: r
theorem trimZ_len (l : List UInt8) : (trimZ l).length ≤ l.length := by
  induction l with
  | nil => exact Nat.le_refl _
  | cons c r ih =>
    rw [trimZ]
    split
    · simp; omega
    · exact Nat.le_refl _
theorem cmpB_range : ∀ a b : List UInt8, -1 ≤ Lib.compareBytes a b ∧ Lib.compareBytes a b ≤ 1
  | [], [] => by decide
  | [], _ :: _ => by simp [Lib.compareBytes]
  | _ :: _, [] => by simp [Lib.compareBytes]
  | x :: a, y :: b => by
    have ih := cmpB_range a b
    unfold Lib.compareBytes
    split
    · decide
    · split
      · decide
      · exact ih
theorem cmpC_range (a b : List UInt8) : -1 ≤ cmpC a b ∧ cmpC a b ≤ 1 := by
  unfold cmpC
  split
  · decide
  · split
    · decide
    · exact cmpB_range a b
/-- Of one length the noughts ahead make no difference. -/
theorem cmpC_trim : ∀ a b : List UInt8, a.length = b.length → (∀ c ∈ a, isDig c = true) → (∀ c ∈ b, isDig c = true) → cmpC (trimZ a) (trimZ b) = cmpC a b
  | [], [], _, _, _ => rfl
  | [], _ :: _, h, _, _ => by simp at h
  | _ :: _, [], h, _, _ => by simp at h
  | x :: a, y :: b, h, ha, hb => by
    have hl : a.length = b.length := by simpa using h
    have hx := (isDig_iff x).1 (ha x List.mem_cons_self)
    have hy := (isDig_iff y).1 (hb y List.mem_cons_self)
    have ih := cmpC_trim a b hl (fun c hc => ha c (List.mem_cons_of_mem _ hc)) (fun c hc => hb c (List.mem_cons_of_mem _ hc))
    have la := trimZ_len a
    have lb := trimZ_len b
    have e0 : (48 : UInt8).toNat = 48 := rfl
    have hc : cmpC (x :: a) (y :: b) = if x < y then -1 else if y < x then 1 else Lib.compareBytes a b := by
      unfold cmpC
      rw [if_neg (by simp; omega), if_neg (by simp; omega)]
      rfl
    have hcab : cmpC a b = Lib.compareBytes a b := by unfold cmpC; rw [if_neg (by omega), if_neg (by omega)]
    rw [hc]
    by_cases h1 : x = 48
    · by_cases h2 : y = 48
      · rw [trimZ, if_pos h1, trimZ, if_pos h2, ih, hcab, h1, h2, if_neg (UInt8.lt_irrefl _), if_neg (UInt8.lt_irrefl _)]
      · have hxy : x < y := by
          rw [UInt8.lt_iff_toNat_lt, h1, e0]
          have : y.toNat ≠ 48 := fun h => h2 (UInt8.toNat_inj.1 (by rw [h, e0]))
          omega
        rw [trimZ, if_pos h1, trimZ, if_neg h2, if_pos hxy]
        unfold cmpC
        rw [if_pos (by simp; omega)]
    · by_cases h2 : y = 48
      · have hyx : y < x := by
          rw [UInt8.lt_iff_toNat_lt, h2, e0]
          have : x.toNat ≠ 48 := fun h => h1 (UInt8.toNat_inj.1 (by rw [h, e0]))
          omega
        have hnx : ¬ x < y := by rw [UInt8.lt_iff_toNat_lt] at hyx ⊢; omega
        rw [trimZ, if_neg h1, trimZ, if_pos h2, if_neg hnx, if_pos hyx]
        unfold cmpC
        rw [if_neg (by simp; omega), if_pos (by simp; omega)]
      · rw [trimZ, if_neg h1, trimZ, if_neg h2, hc]
end Go.Proofs.YtldjnegoefdadaaGreatDoor
