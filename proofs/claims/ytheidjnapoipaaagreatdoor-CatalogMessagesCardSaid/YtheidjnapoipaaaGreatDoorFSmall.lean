/- The contracts of format's small functions. -/
import Derived.Test.YtheidjnapoipaaaGreatDoorFPlain
namespace Go.Proofs.YtheidjnapoipaaaGreatDoor
open Go.RowKit
set_option linter.unusedVariables false

theorem known_any (k : Int) (w : World) : Calls Tryz.prog 26 #[.int .i64 k] w fun e w' => e = .returned (.bool (decide (1 ≤ k ∧ k ≤ 8))) ∧ w = w' := by
  by_cases h1 : 1 ≤ k
  · by_cases h8 : k ≤ 8
    · rw [decide_eq_true (⟨h1, h8⟩ : 1 ≤ k ∧ k ≤ 8)]
      go_enter Tryz.func26, Tryz.ntmps26
      go_wp2
      go_ret
      exact ⟨rfl, rfl⟩
    · rw [decide_eq_false (fun h : 1 ≤ k ∧ k ≤ 8 => h8 h.2)]
      go_enter Tryz.func26, Tryz.ntmps26
      go_wp2
      go_ret
      exact ⟨rfl, rfl⟩
  · rw [decide_eq_false (fun h : 1 ≤ k ∧ k ≤ 8 => h1 h.1)]
    go_enter Tryz.func26, Tryz.ntmps26
    go_wp2
    go_ret
    exact ⟨rfl, rfl⟩

/-- A rule in a box of its own: what it reads as behind a call that makes memory. -/
theorem rule_after {T : TypeId} {k a b : Int} {v : Value} {w w1 : World} (hb : Below (w.alloc (.cells #[.int .i64 k, .int .i64 a, .int .i64 b, v] T)).heap.size (w.alloc (.cells #[.int .i64 k, .int .i64 a, .int .i64 b, v] T)) w1) :
    Row w1 w.heap.size T [.int .i64 k, .int .i64 a, .int .i64 b, v] ∧ Below w.heap.size w w1 :=
  ⟨(Row.new w T [.int .i64 k, .int .i64 a, .int .i64 b, v]).below hb (by simp), ((Below.refl w.heap.size w).alloc (Nat.le_refl _) _).trans (hb.mono (by simp))⟩
theorem rule_cells {T : TypeId} {k a b : Int} {v : Value} {w : World} {g : Nat} (h : Row w g T [.int .i64 k, .int .i64 a, .int .i64 b, v]) :
    w.cell? ⟨g, 0, none⟩ = some (.int .i64 k) ∧ w.cell? ⟨g, 1, none⟩ = some (.int .i64 a) ∧ w.cell? ⟨g, 2, none⟩ = some (.int .i64 b) ∧ w.cell? ⟨g, 3, none⟩ = some v :=
  ⟨h.cell 0, h.cell 1, h.cell 2, h.cell 3⟩

theorem spans_any (k a b : Int) (v : Value) (w : World) : Calls Tryz.prog 27 #[.agg #[.int .i64 k, .int .i64 a, .int .i64 b, v]] w fun e w' => e = .returned (.bool (spansK k)) ∧ Below w.heap.size w w' := by
  unfold spansK
  by_cases h1 : k = 1
  · rw [decide_eq_true (.inl h1 : k = 1 ∨ k = 2 ∨ k = 8)]
    subst h1
    go_enter Tryz.func27, Tryz.ntmps27
    go_wp2
    go_ret
    exact ⟨rfl, (Below.refl _ _).alloc (Nat.le_refl _) _⟩
  · by_cases h2 : k = 2
    · rw [decide_eq_true (.inr (.inl h2) : k = 1 ∨ k = 2 ∨ k = 8)]
      subst h2
      go_enter Tryz.func27, Tryz.ntmps27
      go_wp2
      go_ret
      exact ⟨rfl, (Below.refl _ _).alloc (Nat.le_refl _) _⟩
    · by_cases h8 : k = 8
      · rw [decide_eq_true (.inr (.inr h8) : k = 1 ∨ k = 2 ∨ k = 8)]
        subst h8
        go_enter Tryz.func27, Tryz.ntmps27
        go_wp2
        go_ret
        exact ⟨rfl, (Below.refl _ _).alloc (Nat.le_refl _) _⟩
      · rw [decide_eq_false (by omega : ¬ (k = 1 ∨ k = 2 ∨ k = 8))]
        have e1 : (k == 1) = false := by simp; exact h1
        have e2 : (k == 2) = false := by simp; exact h2
        have e8 : (k == 8) = false := by simp; exact h8
        clear h1 h2 h8
        go_enter Tryz.func27, Tryz.ntmps27
        go_wp2
        go_ret
        exact ⟨rfl, (Below.refl _ _).alloc (Nat.le_refl _) _⟩

theorem within_any (k a b : Int) (v : Value) (n : Nat) (w : World) : Calls Tryz.prog 52 #[.agg #[.int .i64 k, .int .i64 a, .int .i64 b, v], .int .i64 n] w fun e w' => e = .returned (.bool (decide (a ≤ n) && decide ((n : Int) ≤ b))) ∧ Below w.heap.size w w' := by
  by_cases h1 : a ≤ (n : Int)
  · by_cases h2 : (n : Int) ≤ b
    · rw [decide_eq_true h1, decide_eq_true h2]
      go_enter Tryz.func52, Tryz.ntmps52
      go_wp2
      go_ret
      exact ⟨rfl, (Below.refl _ _).alloc (Nat.le_refl _) _⟩
    · rw [decide_eq_true h1, decide_eq_false h2]
      go_enter Tryz.func52, Tryz.ntmps52
      go_wp2
      go_ret
      exact ⟨rfl, (Below.refl _ _).alloc (Nat.le_refl _) _⟩
  · rw [decide_eq_false h1]
    go_enter Tryz.func52, Tryz.ntmps52
    go_wp2
    go_ret
    exact ⟨rfl, (Below.refl _ _).alloc (Nat.le_refl _) _⟩

theorem figures_any (s : ByteArray) (w : World) (hs : s.size ≤ 1000000) : Calls Tryz.prog 53 #[.string s] w fun e w' => e = .returned (.bool (figB s)) ∧ w = w' := by
  have he := toList_empty s
  unfold figB
  by_cases h0 : 0 < s.size
  · rw [decide_eq_true h0] at he
    rw [decide_eq_false (by omega : ¬ s.size = 0)]
    go_enter Tryz.func53, Tryz.ntmps53
    go_wp2_with (go_at_call 67; refine (Is_any s _ hs).mono ?_; rintro e w' ⟨rfl, rfl⟩)
    go_ret
    exact ⟨ret_boolE rfl, rfl⟩
  · rw [decide_eq_false h0] at he
    rw [decide_eq_true (by omega : s.size = 0)]
    go_enter Tryz.func53, Tryz.ntmps53
    go_wp2
    go_ret
    exact ⟨rfl, rfl⟩
end Go.Proofs.YtheidjnapoipaaaGreatDoor
