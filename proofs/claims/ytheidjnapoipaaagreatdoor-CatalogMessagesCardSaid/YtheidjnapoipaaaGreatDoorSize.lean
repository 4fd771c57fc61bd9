/- The contracts of the alphabets, and of how many letters there are. -/
import Derived.Test.YtheidjnapoipaaaGreatDoorRows
import Derived.WalkKit
import Derived.WalkSpells
import Derived.WalkLawsBesides
import Derived.Lib.Hide
import Derived.Deep.DeepCutAuto
import Derived.Test.YtheidjnapoipaaaGreatDoorPlain
import Derived.Test.YtheidjnapoipaaaGreatDoorMem
import Derived.Test.YtheidjnapoipaaaGreatDoorDig
namespace Go.Proofs.YtheidjnapoipaaaGreatDoor
open Go.RowKit
set_option linter.unusedVariables false

def hexS : ByteArray := ⟨#[48, 49, 50, 51, 52, 53, 54, 55, 56, 57, 97, 98, 99, 100, 101, 102]⟩
def stdS : ByteArray := ⟨#[65, 66, 67, 68, 69, 70, 71, 72, 73, 74, 75, 76, 77, 78, 79, 80, 81, 82, 83, 84, 85, 86, 87, 88, 89, 90, 97, 98, 99, 100, 101, 102, 103, 104, 105, 106, 107, 108, 109, 110, 111, 112, 113, 114, 115, 116, 117, 118, 119, 120, 121, 122, 48, 49, 50, 51, 52, 53, 54, 55, 56, 57, 43, 47]⟩
def urlS : ByteArray := ⟨#[65, 66, 67, 68, 69, 70, 71, 72, 73, 74, 75, 76, 77, 78, 79, 80, 81, 82, 83, 84, 85, 86, 87, 88, 89, 90, 97, 98, 99, 100, 101, 102, 103, 104, 105, 106, 107, 108, 109, 110, 111, 112, 113, 114, 115, 116, 117, 118, 119, 120, 121, 122, 48, 49, 50, 51, 52, 53, 54, 55, 56, 57, 45, 95]⟩

/-- An alphabet as a value. -/
def alph (L : ByteArray) (k : Nat) (fill : Bool) : Value := .agg #[.string L, .int .i64 (k : Int), .bool fill]

set_option maxHeartbeats 400000 in
theorem Hex_any (w : World) : Calls Tryz.prog 40 #[] w fun e w' => e = .returned (alph hexS 4 false) ∧ Below w.heap.size w w' := by
  go_enter Tryz.func40, Tryz.ntmps40
  go_wp2
  exact bodyPost_ret (v := .agg #[.string ⟨#[48, 49, 50, 51, 52, 53, 54, 55, 56, 57, 97, 98, 99, 100, 101, 102]⟩, .int .i64 4, .bool false]) (by simp [results, Tryz.results40, go_sem]) rfl ⟨rfl, (Below.refl _ _).alloc (Nat.le_refl _) _⟩
set_option maxHeartbeats 400000 in
theorem Std_any (w : World) : Calls Tryz.prog 32 #[] w fun e w' => e = .returned (alph stdS 6 true) ∧ Below w.heap.size w w' := by
  go_enter Tryz.func32, Tryz.ntmps32
  go_wp2
  refine bodyPost_ret (v := alph stdS 6 true) (by simp [results, Tryz.results32, go_sem]; rfl) rfl ⟨rfl, (Below.refl _ _).alloc (Nat.le_refl _) _⟩

/-- How many letters n bytes have, what is filled up among them. -/
def szA (k : Nat) (fill : Bool) (n : Nat) : Nat := n / 3 * (24 / k) + (if fill && decide (0 < n % 3) then 24 / k else (n % 3 * 8 + k - 1) / k)

set_option maxHeartbeats 400000 in
theorem Size_any (L : ByteArray) (k : Nat) (fill : Bool) (n : Nat) (w : World) (hk : k = 4 ∨ k = 6) (hn : n ≤ 1099511627776) :
    Calls Tryz.prog 33 #[alph L k fill, .int .i64 n] w fun e w' => e = .returned (.int .i64 (szA k fill n : Nat)) ∧ Below w.heap.size w w' := by
  unfold alph
  by_cases h0 : n = 0
  · subst h0
    rcases hk with rfl | rfl <;> cases fill
    all_goals
      go_enter Tryz.func33, Tryz.ntmps33
      go_wp2
      go_ret
      exact ⟨rfl, (Below.refl _ _).alloc (Nat.le_refl _) _⟩
  · rcases hk with rfl | rfl <;> cases fill
    all_goals
      go_enter Tryz.func33, Tryz.ntmps33
      go_wp2
    all_goals
      go_ret
      refine ⟨ret_int ?_, (Below.refl _ _).alloc (Nat.le_refl _) _⟩
      simp only [szA, Bool.true_and, Bool.false_and, Bool.false_eq_true, if_false, decide_eq_true_eq]
      first
        | omega
        | (split <;> omega)

set_option maxHeartbeats 400000 in
theorem Size_neg (L : ByteArray) (k : Nat) (fill : Bool) (n : Int) (w : World) (hk : k = 4 ∨ k = 6) (hn : n < 1) :
    Calls Tryz.prog 33 #[alph L k fill, .int .i64 n] w fun e w' => e = .returned (.int .i64 0) ∧ Below w.heap.size w w' := by
  unfold alph
  rcases hk with rfl | rfl
  all_goals
    go_enter Tryz.func33, Tryz.ntmps33
    go_wp2
    go_ret
    exact ⟨rfl, (Below.refl _ _).alloc (Nat.le_refl _) _⟩

set_option maxHeartbeats 400000 in
theorem Size_none (L : ByteArray) (fill : Bool) (n : Int) (w : World) :
    Calls Tryz.prog 33 #[alph L 0 fill, .int .i64 n] w fun e w' => e = .returned (.int .i64 0) ∧ Below w.heap.size w w' := by
  unfold alph
  go_enter Tryz.func33, Tryz.ntmps33
  go_wp2
  go_ret
  exact ⟨rfl, (Below.refl _ _).alloc (Nat.le_refl _) _⟩

/-- The alphabet of a number, its letters, its bits, whether it is filled up. -/
def letS (kind : Nat) : ByteArray := if kind = 0 then hexS else if kind = 1 then stdS else urlS
def bitK (kind : Nat) : Nat := if kind = 0 then 4 else 6
def filB (kind : Nat) : Bool := decide (kind = 1)

theorem alph_info : (Tryz.prog.info? 67).map (·.size) = some 3 := by kernel_rfl
def alphL (L : ByteArray) (k : Nat) (fill : Bool) : List Value := [.string L, .int .i64 (k : Int), .bool fill]
theorem alph_one (L : ByteArray) (k : Nat) (fill : Bool) : (alphL L k fill).toArray.all (·.oneCell') = true := by simp [alphL, Value.oneCell']


end Go.Proofs.YtheidjnapoipaaaGreatDoor
