/- The chapter's example of a challenge. -/
import Derived.Test.YtlmbijhkpgolaaaDoorOtpA
import Derived.Test.YtlmbijhkpgolaaaDoorAwk6
import Derived.Laws.StructEq
namespace Go.Proofs.YtlmbijhkpgolaaaDoor
open Go.RowKit
set_option linter.unusedVariables false
set_option linter.unusedSimpArgs false

theorem Awake6_o (w : World) (hG : G w) :
    Calls Tryd.prog 15 #[] w fun e w' => e = .returned (.bool true) ∧ Below w.heap.size w w' := by
  have HG := Lib.hid hG
  clear hG
  go_enter Tryd.func15, Tryd.ntmps15
  go_wp2_with fail
  refine (awake6_any _ HG.out).mono ?_
  rintro e wa ⟨rfl, hb⟩
  go_wp2_with fail
  go_ret
  exact ⟨rfl, hb⟩

set_option maxHeartbeats 1000000 in
theorem awake21_any (w : World) (hG : G w) :
    Calls Tryd.prog 6 #[] w fun e w' => e = .returned (.bool true) ∧ Below w.heap.size w w' := by
  have HB : Hid (∀ W : World, Calls Tryd.prog 10 #[.int .i64 1, .int .u64 5, .int .u64 10] W fun e w' => e = .returned (.tuple #[.agg #[.int .i64 1, .int .u64 15, .int .i64 0], .int .i64 0]) ∧ Below W.heap.size W w') := Lib.hid fun W => begin_any 1 5 10 W (by omega) (by omega) (by omega) (by omega) (by omega) (by omega)
  have HE : Hid (∀ W : World, Calls Tryd.prog 12 #[.agg #[.int .i64 1, .int .u64 15, .int .i64 0], .string ⟨#[49, 50, 51, 52, 53, 54]⟩, .string ⟨#[48, 48, 48, 48, 48, 48]⟩, .int .u64 6] W fun e w' => e = .returned (.tuple #[.agg #[.int .i64 0, .int .u64 15, .int .i64 2], .int .i64 2]) ∧ Below W.heap.size W w') := Lib.hid fun W => enter_out 15 6 _ _ W (by decide) (by omega) (by decide)
  have HG := Lib.hid hG
  clear hG
  go_enter Tryd.func6, Tryd.ntmps6
  go_wp2_with fail
  refine (HB.out _).mono ?_
  rintro e w1 ⟨rfl, hb1⟩
  have B1 := Lib.hid hb1
  have hz1 := hb1.size
  clear hb1
  go_wp2_with fail
  refine (HE.out _).mono ?_
  rintro e w2 ⟨rfl, hb2⟩
  have B2 := Lib.hid ((B1.out.alloc hz1 (.cells #[.int .i64 1, .int .u64 15, .int .i64 0] 24)).trans (hb2.mono (by simp; omega)))
  have R2 := Lib.hid ((Row.new w1 24 [.int .i64 1, .int .u64 15, .int .i64 0]).below hb2 (by simp))
  have hz2 := hb2.size
  simp only [World.size_alloc] at hz2
  clear hb2
  go_wp2_with fail
  have R2a := Lib.hid (Row.new w2 24 [.int .i64 0, .int .u64 15, .int .i64 2])
  refine (Awake6_o _ (HG.out.below (B2.out.alloc (by omega) _))).mono ?_
  rintro e w3 ⟨rfl, hb3⟩
  have B3 := Lib.hid ((B2.out.alloc (by omega) (.cells #[.int .i64 0, .int .u64 15, .int .i64 2] 24)).trans (hb3.mono (by simp; omega)))
  have r3 := (R2.out.alloc (.cells #[.int .i64 0, .int .u64 15, .int .i64 2] 24)).below hb3 (by simp; omega)
  have r4 := R2a.out.below hb3 (by simp)
  have q1 := r3.cell 1
  have q2 := r4.cell 2
  simp only [List.getElem?_cons_zero, List.getElem?_cons_succ] at q1 q2
  clear hb3 r3 r4
  go_wp2_with fail
  go_ret
  exact ⟨rfl, B3.out⟩

theorem st_fields : Tryd.prog.fieldsOf 24 = #[{ name := "Tries", type := 3, offset := 0, embedded := false, tag := "", pkgPath := "", byteOffset := 0 }, { name := "Deadline", type := 22, offset := 1, embedded := false, tag := "", pkgPath := "", byteOffset := 8 },
  { name := "Over", type := 3, offset := 2, embedded := false, tag := "", pkgPath := "", byteOffset := 16 }] := by kernel_rfl
theorem st_in (a b c a' b' c' : Int) (W : World) :
    (Op.equalIn 10000 24 (.agg #[.int .i64 a, .int .u64 b, .int .i64 c]) (.agg #[.int .i64 a', .int .u64 b', .int .i64 c'])).run Tryd.prog W = .ok (decide (a = a' ∧ b = b' ∧ c = c')) W := by
  have aI := Tryd.isAgg3
  have aU := Tryd.isAgg22
  rw [run_equalIn_struct W 9999 _ _ _ (by rw [st_fields]; exact Tryd.underlying24) (by kernel_rfl), st_fields]
  simp [Op.eqFields, part, aU, aI, run_equalIn_int, Tryd.underlying22, Tryd.underlying3]
  by_cases h1 : a = a'
  · by_cases h2 : b = b'
    · by_cases h3 : c = c' <;> simp [h1, h2, h3]
    · simp [h1, h2]
  · simp [h1]
/-- Two states compared. -/
theorem st_eql (a b c a' b' c' : Int) (W : World) : (binOp .eql 24 (.agg #[.int .i64 a, .int .u64 b, .int .i64 c]) (.agg #[.int .i64 a', .int .u64 b', .int .i64 c'])).run Tryd.prog W = .ok (.bool (decide (a = a' ∧ b = b' ∧ c = c'))) W := by
  rw [run_eql_struct, st_in]
  rfl
theorem st_neq (a b c a' b' c' : Int) (W : World) : (binOp .neq 24 (.agg #[.int .i64 a, .int .u64 b, .int .i64 c]) (.agg #[.int .i64 a', .int .u64 b', .int .i64 c'])).run Tryd.prog W = .ok (.bool (!decide (a = a' ∧ b = b' ∧ c = c'))) W := by
  rw [run_neq_struct, st_in]
  rfl
theorem st_self (a b c : Int) (W : World) : (binOp .eql 24 (.agg #[.int .i64 a, .int .u64 b, .int .i64 c]) (.agg #[.int .i64 a, .int .u64 b, .int .i64 c])).run Tryd.prog W = .ok (.bool true) W := by
  rw [st_eql]; simp
theorem st_selfN (a b c : Int) (W : World) : (binOp .neq 24 (.agg #[.int .i64 a, .int .u64 b, .int .i64 c]) (.agg #[.int .i64 a, .int .u64 b, .int .i64 c])).run Tryd.prog W = .ok (.bool false) W := by
  rw [st_neq]; simp
end Go.Proofs.YtlmbijhkpgolaaaDoor
