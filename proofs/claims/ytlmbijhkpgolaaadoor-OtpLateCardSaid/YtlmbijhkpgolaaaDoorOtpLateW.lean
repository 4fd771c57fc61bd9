/- The walk of OtpLate. -/
import Derived.Test.YtlmbijhkpgolaaaDoorOtpB
namespace Go.Proofs.YtlmbijhkpgolaaaDoor
open Go.RowKit
set_option linter.unusedVariables false
set_option linter.unusedSimpArgs false

theorem max2u {P : Program} (ts : Array TypeId) (t : TypeId) (a b : Int) (W : World) : (Builtin.max_ ts t #[.int .u64 a, .int .u64 b]).run P W = .ok (.int .u64 (max a b)) W := by
  have h : ∀ x y : Int, (if x < y then y else x) = max x y := by intro x y; split <;> omega
  simp [Builtin.max_, Builtin.max2, h]
  try omega
theorem max2r {P : Program} (ts : Array TypeId) (t : TypeId) (a b : Nat) (W : World) : (Builtin.max_ ts t #[.int .i64 a, .int .i64 b]).run P W = .ok (.int .i64 ((max a b : Nat) : Int)) W := by
  simp [Builtin.max_, Builtin.max2]
  omega

set_option maxRecDepth 100000 in
set_option maxHeartbeats 4000000 in
theorem OtpLate_walk (a0 : Int) (a1 : ByteArray) (a2 : ByteArray) (a3 : Int) (a4 : Int) (w0 : (Lit.int .u8 a0).wf = true) (w1 : a1.size ≤ 140737488355328) (w2 : a2.size ≤ 140737488355328) (w3 : (Lit.int .u64 a3).wf = true) (w4 : (Lit.int .u64 a4).wf = true) (w : World) (hG : G w) :
    Calls Tryd.prog 5 #[.int .u8 a0, .string a1, .string a2, .int .u64 a3, .int .u64 a4] w fun e w' => e = .returned (.bool true) ∧ Below w.heap.size w w' := by
  have h0 : 0 ≤ a0 ∧ a0 ≤ 255 := by simpa [Lit.wf, IntKind.min, IntKind.max, IntKind.signed, IntKind.bits] using w0
  have h3 : 0 ≤ a3 ∧ a3 ≤ 18446744073709551615 := by simpa [Lit.wf, IntKind.min, IntKind.max, IntKind.signed, IntKind.bits] using w3
  have h4 : 0 ≤ a4 ∧ a4 ≤ 18446744073709551615 := by simpa [Lit.wf, IntKind.min, IntKind.max, IntKind.signed, IntKind.bits] using w4
  obtain ⟨h0a, h0b⟩ := h0
  obtain ⟨h3a, h3b⟩ := h3
  obtain ⟨h4a, h4b⟩ := h4
  clear w0 w3 w4
  have HA := Lib.hid (awake21_any w hG)
  obtain ⟨N, hN⟩ : ∃ N, 1 + a0 % 9 = N := ⟨_, rfl⟩
  have hN1 : 1 ≤ N := by omega
  have hN9 : N ≤ 9 := by omega
  have HB : Hid (∀ W : World, Calls Tryd.prog 10 #[.int .i64 (1 + a0 % 9), .int .u64 0, .int .u64 a3] W fun e w' => e = .returned (.tuple #[.agg #[.int .i64 N, .int .u64 a3, .int .i64 0], .int .i64 0]) ∧ Below W.heap.size W w') := Lib.hid fun W => by
    have h := begin_any (1 + a0 % 9) 0 a3 W (by omega) (by omega) (by omega) (by omega) h3a h3b
    rw [show min (0 + a3) 18446744073709551615 = a3 by omega] at h
    refine h.mono ?_
    rintro e w' ⟨rfl, hb⟩
    exact ⟨by rw [hN], hb⟩
  obtain ⟨m, hm⟩ : ∃ m, max a3 a4 = m := ⟨_, rfl⟩
  have hm3 : a3 ≤ m := by omega
  have hmx : ∀ ts t W, (Builtin.max_ ts t #[.int .u64 a3, .int .u64 a4]).run Tryd.prog W = .ok (.int .u64 m) W := fun ts t W => by
    rw [max2u, hm]
  have hmb : 0 ≤ m ∧ m ≤ 18446744073709551615 := by omega
  obtain ⟨hma, hmb⟩ := hmb
  have hxl := fun ts t W => max2r (P := Tryd.prog) ts t a1.size a2.size W
  obtain ⟨z, hz⟩ : ∃ z, max a1.size a2.size = z := ⟨_, rfl⟩
  rw [hz] at hxl
  have HE1 : Hid (∀ W : World, Calls Tryd.prog 12 #[.agg #[.int .i64 N, .int .u64 a3, .int .i64 0], .string a1, .string a1, .int .u64 m] W fun e w' => e = .returned (.tuple #[.agg #[.int .i64 N, .int .u64 a3, .int .i64 3], .int .i64 3]) ∧ Below W.heap.size W w') := Lib.hid fun W => enter_late N a3 m a1 a1 W hm3
  have HE2 : Hid (∀ W : World, Calls Tryd.prog 12 #[.agg #[.int .i64 N, .int .u64 a3, .int .i64 3], .string a1, .string a2, .int .u64 0] W fun e w' => e = .returned (.tuple #[.agg #[.int .i64 N, .int .u64 a3, .int .i64 3], .int .i64 3]) ∧ Below W.heap.size W w') := Lib.hid fun W => enter_over N a3 3 0 a1 a2 W (by omega)
  have HC : Hid (∀ W : World, Calls Tryd.prog 13 #[.agg #[.int .i64 N, .int .u64 a3, .int .i64 3], .int .u64 0] W fun e w' => e = .returned (.tuple #[.agg #[.int .i64 N, .int .u64 a3, .int .i64 3], .bool false]) ∧ Below W.heap.size W w') := Lib.hid fun W => cancel_over N a3 3 0 W (by omega)
  have HT : Hid (∀ W : World, Calls Tryd.prog 14 #[.agg #[.int .i64 N, .int .u64 a3, .int .i64 3], .int .u64 m] W fun e w' => e = .returned (.tuple #[.agg #[.int .i64 N, .int .u64 a3, .int .i64 3], .bool false]) ∧ Below W.heap.size W w') := Lib.hid fun W => tick_over N a3 3 m W (by omega)
  have HQ := fun W => st_self N a3 3 W
  clear hm hN hz hm3 hG
  by_cases h60 : 60 < z
  · have h60I : (60 : Int) < (z : Int) := by omega
    go_enter Tryd.func5, Tryd.ntmps5
    go_wp2_with fail
    refine HA.out.mono ?_
    rintro e y1 ⟨rfl, hb1⟩
    go_wp2_with fail
    go_ret
    exact ⟨rfl, hb1⟩
  have h60I : ¬ (60 : Int) < (z : Int) := by omega
  clear h60
  go_enter Tryd.func5, Tryd.ntmps5
  go_wp2_with fail
  refine (HA.out).mono ?_
  rintro e y1 ⟨rfl, hb1⟩
  have B1 := Lib.hid ((Below.refl w.heap.size w).trans (hb1.mono (Nat.le_refl _)))
  have hz1 : w.heap.size ≤ y1.heap.size := B1.out.size
  clear hb1
  go_wp2_with fail
  refine (HB.out _).mono ?_
  rintro e y2 ⟨rfl, hb2⟩
  have B2 := Lib.hid (B1.out.trans (hb2.mono hz1))
  have hz2 : w.heap.size ≤ y2.heap.size := B2.out.size
  clear hb2
  go_wp2_with fail
  refine (HE1.out _).mono ?_
  rintro e y3 ⟨rfl, hb3⟩
  have B3 := Lib.hid ((B2.out.alloc hz2 _).trans (hb3.mono (by simp; omega)))
  have hz3 : w.heap.size ≤ y3.heap.size := B3.out.size
  have RS3 : Hid (Row y3 y2.heap.size 24 [.int .i64 N, .int .u64 a3, .int .i64 0]) := Lib.hid ((Row.new y2 24 [.int .i64 N, .int .u64 a3, .int .i64 0]).below hb3 (by simp))
  have hgS3 : y2.heap.size < y3.heap.size := RS3.out.lt
  clear hb3
  go_wp2_with fail
  refine (HE2.out _).mono ?_
  rintro e y4 ⟨rfl, hb4⟩
  have B4 := Lib.hid ((B3.out.alloc hz3 _).trans (hb4.mono (by simp; omega)))
  have hz4 : w.heap.size ≤ y4.heap.size := B4.out.size
  have RS4 : Hid (Row y4 y2.heap.size 24 [.int .i64 N, .int .u64 a3, .int .i64 0]) := Lib.hid ((RS3.out.alloc _).below hb4 (by simp; omega))
  have hgS4 : y2.heap.size < y4.heap.size := RS4.out.lt
  have RL4 : Hid (Row y4 y3.heap.size 24 [.int .i64 N, .int .u64 a3, .int .i64 3]) := Lib.hid ((Row.new y3 24 [.int .i64 N, .int .u64 a3, .int .i64 3]).below hb4 (by simp))
  have hgL4 : y3.heap.size < y4.heap.size := RL4.out.lt
  clear hb4
  have cL4_0 := RL4.out.cell 0
  have cL4_1 := RL4.out.cell 1
  have cL4_2 := RL4.out.cell 2
  simp only [List.getElem?_cons_zero, List.getElem?_cons_succ] at cL4_0 cL4_1 cL4_2
  go_wp2_with fail
  refine (HC.out _).mono ?_
  rintro e y5 ⟨rfl, hb5⟩
  have B5 := Lib.hid ((B4.out.alloc hz4 _).trans (hb5.mono (by simp; omega)))
  have hz5 : w.heap.size ≤ y5.heap.size := B5.out.size
  have RS5 : Hid (Row y5 y2.heap.size 24 [.int .i64 N, .int .u64 a3, .int .i64 0]) := Lib.hid ((RS4.out.alloc _).below hb5 (by simp; omega))
  have hgS5 : y2.heap.size < y5.heap.size := RS5.out.lt
  have RL5 : Hid (Row y5 y3.heap.size 24 [.int .i64 N, .int .u64 a3, .int .i64 3]) := Lib.hid ((RL4.out.alloc _).below hb5 (by simp; omega))
  have hgL5 : y3.heap.size < y5.heap.size := RL5.out.lt
  have RA5 : Hid (Row y5 y4.heap.size 24 [.int .i64 N, .int .u64 a3, .int .i64 3]) := Lib.hid ((Row.new y4 24 [.int .i64 N, .int .u64 a3, .int .i64 3]).below hb5 (by simp))
  have hgA5 : y4.heap.size < y5.heap.size := RA5.out.lt
  clear hb5
  have cL5_0 := RL5.out.cell 0
  have cL5_1 := RL5.out.cell 1
  have cL5_2 := RL5.out.cell 2
  simp only [List.getElem?_cons_zero, List.getElem?_cons_succ] at cL5_0 cL5_1 cL5_2
  go_wp2_with fail
  refine (HT.out _).mono ?_
  rintro e y6 ⟨rfl, hb6⟩
  have B6 := Lib.hid ((B5.out.alloc hz5 _).trans (hb6.mono (by simp; omega)))
  have hz6 : w.heap.size ≤ y6.heap.size := B6.out.size
  have RS6 : Hid (Row y6 y2.heap.size 24 [.int .i64 N, .int .u64 a3, .int .i64 0]) := Lib.hid ((RS5.out.alloc _).below hb6 (by simp; omega))
  have hgS6 : y2.heap.size < y6.heap.size := RS6.out.lt
  have RL6 : Hid (Row y6 y3.heap.size 24 [.int .i64 N, .int .u64 a3, .int .i64 3]) := Lib.hid ((RL5.out.alloc _).below hb6 (by simp; omega))
  have hgL6 : y3.heap.size < y6.heap.size := RL6.out.lt
  have RA6 : Hid (Row y6 y4.heap.size 24 [.int .i64 N, .int .u64 a3, .int .i64 3]) := Lib.hid ((RA5.out.alloc _).below hb6 (by simp; omega))
  have hgA6 : y4.heap.size < y6.heap.size := RA6.out.lt
  have RC6 : Hid (Row y6 y5.heap.size 24 [.int .i64 N, .int .u64 a3, .int .i64 3]) := Lib.hid ((Row.new y5 24 [.int .i64 N, .int .u64 a3, .int .i64 3]).below hb6 (by simp))
  have hgC6 : y5.heap.size < y6.heap.size := RC6.out.lt
  clear hb6
  have cL6_0 := RL6.out.cell 0
  have cL6_1 := RL6.out.cell 1
  have cL6_2 := RL6.out.cell 2
  simp only [List.getElem?_cons_zero, List.getElem?_cons_succ] at cL6_0 cL6_1 cL6_2
  have cS6_0 := RS6.out.cell 0
  simp only [List.getElem?_cons_zero, List.getElem?_cons_succ] at cS6_0
  have cA6_0 := RA6.out.cell 0
  have cA6_1 := RA6.out.cell 1
  have cA6_2 := RA6.out.cell 2
  simp only [List.getElem?_cons_zero, List.getElem?_cons_succ] at cA6_0 cA6_1 cA6_2
  have cC6_0 := RC6.out.cell 0
  have cC6_1 := RC6.out.cell 1
  have cC6_2 := RC6.out.cell 2
  simp only [List.getElem?_cons_zero, List.getElem?_cons_succ] at cC6_0 cC6_1 cC6_2
  go_wp2_with fail
  go_ret
  exact ⟨rfl, B6.out.alloc hz6 _⟩
end Go.Proofs.YtlmbijhkpgolaaaDoor
