/- The contracts of the document's days. -/
import Derived.Test.YtfmknhildjgfmaaDoorDDate
namespace Go.Proofs.YtfmknhildjgfmaaDoor
open Go.RowKit
set_option linter.unusedVariables false

theorem d2 (y : Int) : (if (2 : Int) = 1 ∨ (2 : Int) = 3 ∨ (2 : Int) = 5 ∨ (2 : Int) = 7 ∨ (2 : Int) = 8 ∨ (2 : Int) = 10 ∨ (2 : Int) = 12 then (31 : Int)
          else if (2 : Int) = 4 ∨ (2 : Int) = 6 ∨ (2 : Int) = 9 ∨ (2 : Int) = 11 then 30
          else if (2 : Int) = 2 then (if leapB y then 29 else 28)
          else 0) = if leapB y then 29 else 28 := by rw [if_neg (by omega), if_neg (by omega), if_pos rfl]

set_option maxHeartbeats 1000000 in
theorem refDays_2 (y : Int) (w : World) (g0 : 0 ≤ y) (g1 : y ≤ 9999) : Calls Tryd.prog 15 #[.int .i64 y, .int .i64 2] w fun e w' => e = .returned (.int .i64 (if leapB y then 29 else 28)) ∧ Below w.heap.size w w' := by
  by_cases h4 : y % 4 = 0
  · by_cases h100 : y % 100 = 0
    · by_cases h400 : y % 400 = 0
      · have hl : leapB y = true := by unfold leapB; simp; omega
        rw [hl]
        clear hl
        go_enter Tryd.func15, Tryd.ntmps15
        go_wp2
        go_ret
        exact ⟨rfl, (Below.refl _ _).alloc (Nat.le_refl _) _⟩
      · have hl : leapB y = false := by unfold leapB; simp; omega
        rw [hl]
        have hb : (y % 400 == 0) = false := by simp; omega
        clear hl
        go_enter Tryd.func15, Tryd.ntmps15
        go_wp2
        go_ret
        exact ⟨rfl, (Below.refl _ _).alloc (Nat.le_refl _) _⟩
    · have hl : leapB y = true := by unfold leapB; simp; omega
      rw [hl]
      have hb : (y % 100 == 0) = false := by simp; omega
      have hb2 : (y % 100 != 0) = true := by simp; omega
      clear hl
      go_enter Tryd.func15, Tryd.ntmps15
      go_wp2
      go_ret
      exact ⟨rfl, (Below.refl _ _).alloc (Nat.le_refl _) _⟩
  · have hl : leapB y = false := by unfold leapB; simp; omega
    rw [hl]
    have hb : (y % 4 == 0) = false := by simp; omega
    have hb2 : (y % 400 == 0) = false := by simp; omega
    clear hl
    go_enter Tryd.func15, Tryd.ntmps15
    go_wp2
    go_ret
    exact ⟨rfl, (Below.refl _ _).alloc (Nat.le_refl _) _⟩

set_option maxHeartbeats 2000000 in
theorem refDays_any (y m : Int) (w : World) (hm0 : -9223372036854775808 ≤ m) (hm1 : m ≤ 9223372036854775807) : Calls Tryd.prog 15 #[.int .i64 y, .int .i64 m] w fun e w' => e = .returned (.int .i64 (daysN y m)) ∧ Below w.heap.size w w' := by
  by_cases hy : y < 0 ∨ 9999 < y
  · rw [dz hy]
    rcases hy with h | h
    all_goals
      go_enter Tryd.func15, Tryd.ntmps15
      go_wp2
      go_ret
      exact ⟨rfl, Below.refl _ _⟩
  · have g0 : 0 ≤ y := by omega
    have g1 : y ≤ 9999 := by omega
    by_cases hm : m < 1 ∨ 12 < m
    · have e : daysN y m = 0 := by rw [dy hy, if_neg (by omega), if_neg (by omega), if_neg (by omega)]
      rw [e]
      clear e
      rcases hm with h | h
      all_goals
        go_enter Tryd.func15, Tryd.ntmps15
        go_wp2
        go_ret
        exact ⟨rfl, Below.refl _ _⟩
    · rw [dy hy]
      clear hy
      rcases m_cases m with rfl | rfl | rfl | rfl | rfl | rfl | rfl | rfl | rfl | rfl | rfl | rfl | h
      case inr.inl =>
        rw [d2]
        exact refDays_2 y w g0 g1
      case inr.inr.inr.inr.inr.inr.inr.inr.inr.inr.inr.inr => exact absurd h hm
      all_goals
        clear hm
        go_enter Tryd.func15, Tryd.ntmps15
        go_wp2
        go_ret
        exact ⟨rfl, (Below.refl _ _).alloc (Nat.le_refl _) _⟩
end Go.Proofs.YtfmknhildjgfmaaDoor
