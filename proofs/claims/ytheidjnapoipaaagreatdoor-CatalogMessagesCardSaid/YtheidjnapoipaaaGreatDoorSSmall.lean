/- The contracts of the sum's functions that make no memory. -/
import Derived.Test.YtheidjnapoipaaaGreatDoorRows
import Derived.WalkKit
import Derived.WalkSpells
import Derived.WalkLawsBesides
import Derived.Lib.Hide
import Derived.Deep.QuietTactic
import Derived.BigQuiet
import Derived.Test.YtheidjnapoipaaaGreatDoorSPlain
import Derived.Test.YtheidjnapoipaaaGreatDoorMem
namespace Go.Proofs.YtheidjnapoipaaaGreatDoor
open Go.RowKit
set_option linter.unusedVariables false

theorem ret_u32 {a b : UInt32} (h : a = b) : Ending.returned (.int .u32 (a.toNat : Int)) = .returned (.int .u32 (b.toNat : Int)) := by rw [h]

theorem Row.drewN {w : World} {g : Nat} {t : TypeId} {l : List Value} (h : Row w g t l) (n : Nat) : Row (w.drewN n) g t l := h

theorem below_drewN {B : Nat} {a w : World} (h : Below B a w) (n : Nat) : Below B a (w.drewN n) := ⟨h.os, h.tape, h.output, h.size, h.block⟩

/-- The turns that the sum makes. -/
def Turns (n : Nat) : Prop := n = 2 ∨ n = 6 ∨ n = 7 ∨ n = 11 ∨ n = 13 ∨ n = 17 ∨ n = 18 ∨ n = 19 ∨ n = 22 ∨ n = 25

set_option maxHeartbeats 1000000 in
theorem rotl_any (x : UInt32) (n : Nat) (hn : Turns n) (w : World) :
    Calls Tryz.prog 172 #[.int .u32 x.toNat, .int .i64 (-(n : Int))] w fun e w' => e = .returned (.int .u32 (rot x n).toNat) ∧ w = w' := by
  have hr := rot_l x n (by unfold Turns at hn; omega) (by unfold Turns at hn; omega)
  rcases hn with rfl | rfl | rfl | rfl | rfl | rfl | rfl | rfl | rfl | rfl
  all_goals
    have hm2 : bits BinOp.and IntKind.u64 (IntKind.u64.wrap (-2)) 31 = 30 := by kernel_rfl
    have hm6 : bits BinOp.and IntKind.u64 (IntKind.u64.wrap (-6)) 31 = 26 := by kernel_rfl
    have hm7 : bits BinOp.and IntKind.u64 (IntKind.u64.wrap (-7)) 31 = 25 := by kernel_rfl
    have hm11 : bits BinOp.and IntKind.u64 (IntKind.u64.wrap (-11)) 31 = 21 := by kernel_rfl
    have hm13 : bits BinOp.and IntKind.u64 (IntKind.u64.wrap (-13)) 31 = 19 := by kernel_rfl
    have hm17 : bits BinOp.and IntKind.u64 (IntKind.u64.wrap (-17)) 31 = 15 := by kernel_rfl
    have hm18 : bits BinOp.and IntKind.u64 (IntKind.u64.wrap (-18)) 31 = 14 := by kernel_rfl
    have hm19 : bits BinOp.and IntKind.u64 (IntKind.u64.wrap (-19)) 31 = 13 := by kernel_rfl
    have hm22 : bits BinOp.and IntKind.u64 (IntKind.u64.wrap (-22)) 31 = 10 := by kernel_rfl
    have hm25 : bits BinOp.and IntKind.u64 (IntKind.u64.wrap (-25)) 31 = 7 := by kernel_rfl
    simp only [Nat.reduceSub, Int.reducePow] at hr
    have HR := Lib.hid hr
    clear hr
    go_enter Tryz.func172, Tryz.ntmps172
    go_wp2
    go_ret
    exact ⟨ret_int HR.out, rfl⟩

set_option maxHeartbeats 1000000 in
theorem turn_any (x : UInt32) (n : Nat) (hn : Turns n) (w : World) :
    Calls Tryz.prog 166 #[.int .u32 x.toNat, .int .i64 n] w fun e w' => e = .returned (.int .u32 (rot x n).toNat) ∧ w = w' := by
  have h1 : (n : Int) ≤ 31 := by unfold Turns at hn; omega
  have HN := Lib.hid hn
  clear hn
  go_enter Tryz.func166, Tryz.ntmps166
  go_wp2_with (go_at_call 172; refine (rotl_any x n HN.out _).mono ?_; rintro e w' ⟨rfl, rfl⟩)
  go_ret
  exact ⟨rfl, rfl⟩

/-- The same, by an int. -/
abbrev TurnsI (b : Int) : Prop := b = 2 ∨ b = 6 ∨ b = 7 ∨ b = 11 ∨ b = 13 ∨ b = 17 ∨ b = 18 ∨ b = 19 ∨ b = 22 ∨ b = 25
theorem turnQ (x : UInt32) (b : Int) (hb : TurnsI b) (w W : World) (hW : ∃ n, W = w.drewN n) :
    Calls Tryz.prog 166 #[.int .u32 x.toNat, .int .i64 b] W fun e w' => e = .returned (.int .u32 (rot x b.toNat).toNat) ∧ ∃ m, w' = w.drewN m := by
  obtain ⟨k, rfl⟩ : ∃ k : Nat, b = k := ⟨b.toNat, by omega⟩
  obtain ⟨n, rfl⟩ := hW
  exact Calls.quiet_of_same ((turn_any x k (by unfold Turns; omega) _).mono fun e w' h => ⟨h.1, h.2.symm⟩)
theorem turnI (x : UInt32) (b : Int) (hb : TurnsI b) (w : World) :
    Calls Tryz.prog 166 #[.int .u32 x.toNat, .int .i64 b] w fun e w' => e = .returned (.int .u32 (rot x b.toNat).toNat) ∧ w = w' := by
  obtain ⟨k, rfl⟩ : ∃ k : Nat, b = k := ⟨b.toNat, by omega⟩
  exact turn_any x k (by unfold Turns; omega) _
theorem turnQ2 (x : UInt32) (b : Int) (hb : TurnsI b) (w : World) (k n : Nat) :
    Calls Tryz.prog 166 #[.int .u32 x.toNat, .int .i64 b] (w.drewN (k + n)) fun e w' => e = .returned (.int .u32 (rot x b.toNat).toNat) ∧ ∃ m, w' = w.drewN (k + m) :=
  (turnI x b hb _).mono fun e w' h => ⟨h.1, n, h.2.symm⟩
end Go.Proofs.YtheidjnapoipaaaGreatDoor
