/- A disk that is none. -/
import Derived.Test.YtiaaeniopjpfpaaGreatDoorKCrash
namespace Go.Proofs.YtiaaeniopjpfpaaGreatDoor
open Go.RowKit Go.Maps
set_option linter.unusedVariables false
set_option linter.unusedSimpArgs false

section
variable {w : World}
set_option maxRecDepth 4000
theorem Fuse_nil (n : Int) : Calls Tryz.prog 12 #[.pointer none, .int .i64 n] w fun e w' => e = .returned (.tuple #[]) ∧ w = w' := by
  go_enter Tryz.func12, Tryz.ntmps12
  go_wp2
  go_end0
  exact ⟨rfl, rfl⟩
theorem Crash_nil (n : Int) : Calls Tryz.prog 111 #[.pointer none, .int .i64 n] w fun e w' => e = .returned (.tuple #[]) ∧ w = w' := by
  go_enter Tryz.func111, Tryz.ntmps111
  go_wp2
  refine bodyPost_ret (results_none rfl _ _ _) rfl ?_
  exact ⟨rfl, rfl⟩
theorem Sectors_nil : Calls Tryz.prog 58 #[.pointer none] w fun e w' => e = .returned (.int .i64 0) ∧ w = w' := by
  go_enter Tryz.func58, Tryz.ntmps58
  go_wp2
  go_ret
  exact ⟨rfl, rfl⟩
theorem Down_nil : Calls Tryz.prog 59 #[.pointer none] w fun e w' => e = .returned (.bool false) ∧ w = w' := by
  go_enter Tryz.func59, Tryz.ntmps59
  go_wp2
  go_ret
  exact ⟨rfl, rfl⟩
theorem Steps_nil : Calls Tryz.prog 24 #[.pointer none] w fun e w' => e = .returned (.int .i64 0) ∧ w = w' := by
  go_enter Tryz.func24, Tryz.ntmps24
  go_wp2
  go_ret
  exact ⟨rfl, rfl⟩
theorem Hangs_nil : Calls Tryz.prog 60 #[.pointer none] w fun e w' => e = .returned (.int .i64 0) ∧ w = w' := by
  go_enter Tryz.func60, Tryz.ntmps60
  go_wp2
  go_ret
  exact ⟨rfl, rfl⟩
theorem Sync_nil : Calls Tryz.prog 90 #[.pointer none] w fun e w' => e = .returned (.int .i64 1) ∧ w = w' := by
  go_enter Tryz.func90, Tryz.ntmps90
  go_wp2
  go_ret
  exact ⟨rfl, rfl⟩
theorem fault_nil (at' : Int) : Calls Tryz.prog 96 #[.pointer none, .int .i64 at'] w fun e w' => e = .returned (.int .i64 1) ∧ w = w' := by
  go_enter Tryz.func96, Tryz.ntmps96
  go_wp2
  go_ret
  exact ⟨rfl, rfl⟩
theorem there_nil (at' : Int) : Calls Tryz.prog 95 #[.pointer none, .int .i64 at'] w fun e w' => e = .returned (.bool false) ∧ w = w' := by
  by_cases h0 : 0 ≤ at'
  · have h1 : ¬ at' < 0 := by omega
    go_enter Tryz.func95, Tryz.ntmps95
    go_wp2_with (refine Sectors_nil.mono ?_; rintro e w' ⟨rfl, rfl⟩)
    go_ret
    refine ⟨?_, rfl⟩
    first
      | rfl
      | (show Ending.returned (Value.bool (decide (at' < 0))) = _
         rw [decide_eq_false (show ¬ at' < 0 by omega)])
  · go_enter Tryz.func95, Tryz.ntmps95
    go_wp2
    go_ret
    exact ⟨rfl, rfl⟩
set_option maxRecDepth 20000
set_option maxHeartbeats 1000000
theorem Write_nil (at' : Int) (C : List Value) : Calls Tryz.prog 88 #[.pointer none, .int .i64 at', .agg C.toArray] w fun e w' => e = .returned (.int .i64 1) ∧ Below w.heap.size w w' := by
  go_enter Tryz.func88, Tryz.ntmps88
  go_wp2_with (refine (fault_nil _).mono ?_; rintro e w' ⟨rfl, rfl⟩)
  go_ret
  exact ⟨rfl, (Below.refl _ _).alloc (Nat.le_refl _) _⟩
theorem Read_nil (at' : Int) : Calls Tryz.prog 56 #[.pointer none, .int .i64 at'] w fun e w' => e = .returned (.tuple #[.agg zB.toArray, .int .i64 1]) ∧ Below w.heap.size w w' := by
  have hz := (zero_of_info zB_info).1
  have B0 := (Below.refl w.heap.size w).alloc (Nat.le_refl _) (.cells zB.toArray 90)
  have r0 := Row.new w 90 zB
  have HS := Lib.hid (And.intro B0 r0)
  clear B0 r0
  go_enter Tryz.func56, Tryz.ntmps56
  go_wp2_with fail
  refine (fault_nil _).mono ?_
  rintro e w1 ⟨rfl, rfl⟩
  obtain ⟨B0, r0⟩ := HS.out
  clear HS
  generalize w.alloc (.cells zB.toArray 90) = w1 at B0 r0 ⊢
  obtain ⟨g, hg⟩ : ∃ g, w.heap.size = g := ⟨_, rfl⟩
  rw [hg] at r0 B0 ⊢
  have HB := Lib.hid B0
  have HGE := Lib.hid hg
  have HR := Lib.hid r0
  clear hg B0 r0
  go_wp2_with (first
    | (refine wpList_store_row rfl 90 (.tmp 4) (.tmp 14) rfl g zB.toArray rfl rfl 90 zB.toArray HR.out (by kernel_rfl) rfl zB_one ?_))
  have hp := HR.out.put zB
  have hq := below_setRow (B := g) HB.out (Nat.le_refl _) zB.toArray
  refine bodyPost_ret (v := .tuple #[.agg zB.toArray, .int .i64 1]) (results_row_tmp rfl _ _ g 90 zB.toArray (0, 0) _ rfl hp Tryz.underlying90 rfl (by kernel_rfl) _ rfl) rfl ⟨rfl, ?_⟩
  rw [HGE.out]
  exact hq
theorem Lasts_nil (at' : Int) : Calls Tryz.prog 55 #[.pointer none, .int .i64 at'] w fun e w' => e = .returned (.agg zB.toArray) ∧ Below w.heap.size w w' := by
  have hz := (zero_of_info zB_info).1
  have B0 := (Below.refl w.heap.size w).alloc (Nat.le_refl _) (.cells zB.toArray 90)
  have r0 := Row.new w 90 zB
  have HS := Lib.hid (And.intro B0 r0)
  clear B0 r0
  go_enter Tryz.func55, Tryz.ntmps55
  go_wp2_with fail
  refine (there_nil _).mono ?_
  rintro e w1 ⟨rfl, rfl⟩
  obtain ⟨B0, r0⟩ := HS.out
  clear HS
  generalize w.alloc (.cells zB.toArray 90) = w1 at B0 r0 ⊢
  obtain ⟨g, hg⟩ : ∃ g, w.heap.size = g := ⟨_, rfl⟩
  rw [hg] at r0 B0 ⊢
  have HB := Lib.hid B0
  have HGE := Lib.hid hg
  have HR := Lib.hid r0
  clear hg B0 r0
  go_wp2_with (first
    | (refine wpList_store_row rfl 90 (.tmp 4) (.tmp 9) rfl g zB.toArray rfl rfl 90 zB.toArray HR.out (by kernel_rfl) rfl zB_one ?_))
  have hp := HR.out.put zB
  have hq := below_setRow (B := g) HB.out (Nat.le_refl _) zB.toArray
  refine bodyPost_ret (v := .agg zB.toArray) (results_cell_row rfl _ _ g 90 zB.toArray (0, 0) _ rfl hp Tryz.underlying90 rfl (by kernel_rfl)) rfl ⟨rfl, ?_⟩
  rw [HGE.out]
  exact hq
end
end Go.Proofs.YtiaaeniopjpfpaaGreatDoor
