/- A state's text. -/
import Derived.Test.YtlmbijhkpgolaaaDoorOtpA
import Derived.Test.YtlmbijhkpgolaaaDoorSlots
import Derived.Test.YtlmbijhkpgolaaaDoorPut
import Derived.BigQuiet
import Derived.Test.YtlmbijhkpgolaaaDoorSBlocks
namespace Go.Proofs.YtlmbijhkpgolaaaDoor
open Go.RowKit
set_option linter.unusedVariables false
set_option linter.unusedSimpArgs false

theorem mkCat (a b : List UInt8) : (⟨a.toArray⟩ : ByteArray) ++ ⟨b.toArray⟩ = ⟨(a ++ b).toArray⟩ := by
  apply ByteArray.ext
  simp
theorem mkSz (a : List UInt8) : (ByteArray.mk a.toArray).size = a.length := by
  show a.toArray.size = _
  simp
set_option maxRecDepth 100000 in
set_option maxHeartbeats 1000000 in
theorem text_any (t o : Int) (d a b : Nat) (ha : IntKind.wrap .u64 t = (a : Int)) (hb : IntKind.wrap .u64 o = (b : Int)) (hA : a < 18446744073709551616) (hB : b < 18446744073709551616) (hd : d < 18446744073709551616) (w : World) :
    Calls Tryd.prog 8 #[.agg #[.int .i64 t, .int .u64 d, .int .i64 o]] w fun e w' => e = .returned (.string ⟨(putL a 1 ++ putL b 1 ++ putL d 8).toArray⟩) ∧ Below w.heap.size w w' := by
  have hmx : Tryd.prog.follows .mixedOrders = true := by kernel_rfl
  obtain ⟨A, hA'⟩ : ∃ A : ByteArray, (⟨(putL a 1).toArray⟩ : ByteArray) = A := ⟨_, rfl⟩
  obtain ⟨B, hB'⟩ : ∃ A : ByteArray, (⟨(putL b 1).toArray⟩ : ByteArray) = A := ⟨_, rfl⟩
  obtain ⟨D, hD'⟩ : ∃ A : ByteArray, (⟨(putL d 8).toArray⟩ : ByteArray) = A := ⟨_, rfl⟩
  obtain ⟨AB, hAB⟩ : ∃ A : ByteArray, (⟨(putL a 1 ++ putL b 1).toArray⟩ : ByteArray) = A := ⟨_, rfl⟩
  obtain ⟨T, hT⟩ : ∃ A : ByteArray, (⟨(putL a 1 ++ putL b 1 ++ putL d 8).toArray⟩ : ByteArray) = A := ⟨_, rfl⟩
  have HA : Hid (∀ W, Calls Tryd.prog 17 #[.int .u64 a, .int .i64 1] W fun e w' => e = .returned (.string A) ∧ Below W.heap.size W w') := Lib.hid fun W => by rw [← hA']; exact Put_any a 1 W hA
  have HB : Hid (∀ W, Calls Tryd.prog 17 #[.int .u64 b, .int .i64 1] W fun e w' => e = .returned (.string B) ∧ Below W.heap.size W w') := Lib.hid fun W => by rw [← hB']; exact Put_any b 1 W hB
  have HD : Hid (∀ W, Calls Tryd.prog 17 #[.int .u64 d, .int .i64 8] W fun e w' => e = .returned (.string D) ∧ Below W.heap.size W w') := Lib.hid fun W => by rw [← hD']; exact Put_any d 8 W hd
  have ad1 : ∀ W : World, (Op.stringOp .add A B).run Tryd.prog W = .ok (.string AB) W := fun W => by
    have h := run_string_add_sum W A B (P := Tryd.prog) (by rw [← hA', ← hB']; simp [mkSz, putL_length])
    rw [h, ← hAB, ← hA', ← hB', mkCat]
  have ad2 : ∀ W : World, (Op.stringOp .add AB D).run Tryd.prog W = .ok (.string T) W := fun W => by
    have h := run_string_add_sum W AB D (P := Tryd.prog) (by rw [← hAB, ← hD']; simp [mkSz, putL_length])
    rw [h, ← hT, ← hAB, ← hD', mkCat]
  rw [hT]
  clear hA' hB' hD' hAB hT hA hB hd
  obtain ⟨w1, hw1⟩ : ∃ w1, w.alloc (.cells #[.int .i64 t, .int .u64 d, .int .i64 o] 24) = w1 := ⟨_, rfl⟩
  have hr : Row w1 w.heap.size 24 [.int .i64 t, .int .u64 d, .int .i64 o] := by rw [← hw1]; exact Row.new w _ [.int .i64 t, .int .u64 d, .int .i64 o]
  have hb1 : Below w.heap.size w w1 := by rw [← hw1]; exact (Below.refl _ _).alloc (Nat.le_refl _) _
  have HW := Lib.hid hw1
  clear hw1
  go_enter Tryd.func8, Tryd.ntmps8
  go_wp2_with fail
  rw [HW.out]
  refine wp_region_slotsB (m := 14) [] hmx (fun i v _ => v = ([.pointer (some ⟨w.heap.size, 0, none⟩), .int .i64 t, .int .u64 a, .string A, .pointer (some ⟨w.heap.size, 2, none⟩), .int .i64 o, .int .u64 b, .string B, .string AB, .pointer (some ⟨w.heap.size, 1, none⟩), .int .u64 d, .string D, .string T, .string T] : List Value).getD i undef) (Below w1.heap.size w1) (by kernel_rfl) (by kernel_rfl) (fun i v W W' h _ => h) ((Below.refl _ _).drew) ?_ ?_
  · refine ⟨?_, ?_, ?_, ?_, ?_, ?_, ?_, ?_, ?_, ?_, ?_, ?_, ?_, ?_, trivial⟩
    · intro ρ vals W hC hd ht hk hg hf
      have e1 := ht 1
      rw [evalS_old (by kernel_rfl)] at e1
      clear ht hd
      unfold StepOK
      go_simp
      exact Below.refl _ _
    · intro ρ vals W hC hd ht hk hg hf
      have d0 := hd 0 (by kernel_rfl)
      have e3 := ht 3
      rw [evalS_tmp (i := 0) (by kernel_rfl), d0] at e3
      clear ht hd d0
      have q := (hr.below hC hr.lt).cell 0
      simp only [List.getElem?_cons_zero, List.getElem?_cons_succ] at q
      unfold StepOK
      go_simp
      exact Below.refl _ _
    · intro ρ vals W hC hd ht hk hg hf
      have d1 := hd 1 (by kernel_rfl)
      have e4 := ht 4
      rw [evalS_tmp (i := 1) (by kernel_rfl), d1] at e4
      clear ht hd d1
      unfold StepOK
      go_simp
      exact Below.refl _ _
    · intro ρ vals W hC hd ht hk hg hf
      have d2 := hd 2 (by kernel_rfl)
      have e5 := ht 5
      rw [evalS_tmp (i := 2) (by kernel_rfl), d2] at e5
      clear ht hd d2
      unfold StepOK
      go_simp
      refine (HA.out W).mono ?_
      rintro e w' ⟨rfl, hb⟩
      exact ⟨_, rfl, rfl, hC.trans (hb.mono hC.size), hb⟩
    · intro ρ vals W hC hd ht hk hg hf
      have e1 := ht 1
      rw [evalS_old (by kernel_rfl)] at e1
      clear ht hd
      unfold StepOK
      go_simp
      exact Below.refl _ _
    · intro ρ vals W hC hd ht hk hg hf
      have d4 := hd 4 (by kernel_rfl)
      have e7 := ht 7
      rw [evalS_tmp (i := 4) (by kernel_rfl), d4] at e7
      clear ht hd d4
      have q := (hr.below hC hr.lt).cell 2
      simp only [List.getElem?_cons_zero, List.getElem?_cons_succ] at q
      unfold StepOK
      go_simp
      exact Below.refl _ _
    · intro ρ vals W hC hd ht hk hg hf
      have d5 := hd 5 (by kernel_rfl)
      have e8 := ht 8
      rw [evalS_tmp (i := 5) (by kernel_rfl), d5] at e8
      clear ht hd d5
      unfold StepOK
      go_simp
      exact Below.refl _ _
    · intro ρ vals W hC hd ht hk hg hf
      have d6 := hd 6 (by kernel_rfl)
      have e9 := ht 9
      rw [evalS_tmp (i := 6) (by kernel_rfl), d6] at e9
      clear ht hd d6
      unfold StepOK
      go_simp
      refine (HB.out W).mono ?_
      rintro e w' ⟨rfl, hb⟩
      exact ⟨_, rfl, rfl, hC.trans (hb.mono hC.size), hb⟩
    · intro ρ vals W hC hd ht hk hg hf
      have d3 := hd 3 (by kernel_rfl)
      have e6 := ht 6
      rw [evalS_tmp (i := 3) (by kernel_rfl), d3] at e6
      have d7 := hd 7 (by kernel_rfl)
      have e10 := ht 10
      rw [evalS_tmp (i := 7) (by kernel_rfl), d7] at e10
      clear ht hd d3 d7
      unfold StepOK
      go_simp
      exact Below.refl _ _
    · intro ρ vals W hC hd ht hk hg hf
      have e1 := ht 1
      rw [evalS_old (by kernel_rfl)] at e1
      clear ht hd
      unfold StepOK
      go_simp
      exact Below.refl _ _
    · intro ρ vals W hC hd ht hk hg hf
      have d9 := hd 9 (by kernel_rfl)
      have e12 := ht 12
      rw [evalS_tmp (i := 9) (by kernel_rfl), d9] at e12
      clear ht hd d9
      have q := (hr.below hC hr.lt).cell 1
      simp only [List.getElem?_cons_zero, List.getElem?_cons_succ] at q
      unfold StepOK
      go_simp
      exact Below.refl _ _
    · intro ρ vals W hC hd ht hk hg hf
      have d10 := hd 10 (by kernel_rfl)
      have e13 := ht 13
      rw [evalS_tmp (i := 10) (by kernel_rfl), d10] at e13
      clear ht hd d10
      unfold StepOK
      go_simp
      refine (HD.out W).mono ?_
      rintro e w' ⟨rfl, hb⟩
      exact ⟨_, rfl, rfl, hC.trans (hb.mono hC.size), hb⟩
    · intro ρ vals W hC hd ht hk hg hf
      have d8 := hd 8 (by kernel_rfl)
      have e11 := ht 11
      rw [evalS_tmp (i := 8) (by kernel_rfl), d8] at e11
      have d11 := hd 11 (by kernel_rfl)
      have e14 := ht 14
      rw [evalS_tmp (i := 11) (by kernel_rfl), d11] at e14
      clear ht hd d8 d11
      unfold StepOK
      go_simp
      exact Below.refl _ _
    · intro ρ vals W hC hd ht hk hg hf
      have d12 := hd 12 (by kernel_rfl)
      have e15 := ht 15
      rw [evalS_tmp (i := 12) (by kernel_rfl), d12] at e15
      clear ht hd d12
      unfold StepOK
      go_simp
      exact Below.refl _ _
  · intro vals W hC hR
    have r0 : vals 0 = .pointer (some ⟨w.heap.size, 0, none⟩) := hR 0 (by omega)
    have r1 : vals 1 = .int .i64 t := hR 1 (by omega)
    have r2 : vals 2 = .int .u64 a := hR 2 (by omega)
    have r3 : vals 3 = .string A := hR 3 (by omega)
    have r4 : vals 4 = .pointer (some ⟨w.heap.size, 2, none⟩) := hR 4 (by omega)
    have r5 : vals 5 = .int .i64 o := hR 5 (by omega)
    have r6 : vals 6 = .int .u64 b := hR 6 (by omega)
    have r7 : vals 7 = .string B := hR 7 (by omega)
    have r8 : vals 8 = .string AB := hR 8 (by omega)
    have r9 : vals 9 = .pointer (some ⟨w.heap.size, 1, none⟩) := hR 9 (by omega)
    have r10 : vals 10 = .int .u64 d := hR 10 (by omega)
    have r11 : vals 11 = .string D := hR 11 (by omega)
    have r12 : vals 12 = .string T := hR 12 (by omega)
    have r13 : vals 13 = .string T := hR 13 (by omega)
    clear hR
    simp only [wpOps, List.take, putsS, Act.put, List.setIfInBounds_toArray, List.set_cons_zero, List.set_cons_succ, Nat.reduceAdd, r0, r1, r2, r3, r4, r5, r6, r7, r8, r9, r10, r11, r12, r13]
    clear r0 r1 r2 r3 r4 r5 r6 r7 r8 r9 r10 r11 r12 r13
    go_wp2
    go_ret
    exact ⟨rfl, hb1.trans (hC.mono hb1.size)⟩
end Go.Proofs.YtlmbijhkpgolaaaDoor
