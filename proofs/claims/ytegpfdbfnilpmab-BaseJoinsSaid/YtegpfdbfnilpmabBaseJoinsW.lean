/- The walk of BaseJoins. -/
import Derived.Test.YtegpfdbfnilpmabRows
import Derived.WalkKit
import Derived.WalkSpells
import Derived.WalkLawsBesides
import Derived.Lib.Hide
import Derived.Deep.RegionHeld3
import Derived.Test.YtegpfdbfnilpmabBase
namespace Go.Proofs.Ytegpfdbfnilpmab
open Go.RowKit
set_option linter.unusedVariables false

set_option maxRecDepth 100000 in
set_option maxHeartbeats 2000000 in
theorem BaseJoins_walk (a0 : ByteArray) (a1 : ByteArray) (a2 : Int) (w0 : a0.size ≤ 140737488355328) (w1 : a1.size ≤ 140737488355328) (w2 : (Lit.int .u8 a2).wf = true) (w : World) :
    Calls Try.prog 6 #[.string a0, .string a1, .int .u8 a2] w fun e w' => e = .returned (.bool true) ∧ Below w.heap.size w w' := by
  have hk : 0 ≤ a2 ∧ a2 ≤ 255 := by simpa [Lit.wf, IntKind.min, IntKind.max, IntKind.signed, IntKind.bits] using w2
  obtain ⟨kd, rfl⟩ := Int.eq_ofNat_of_zero_le hk.1
  clear w2
  go_enter Try.func6, Try.ntmps6
  go_wp2_with fail
  refine (awake_any _).mono ?_
  rintro e wa ⟨rfl, hb0⟩
  by_cases hbig : a0.size ≤ 500 ∧ a1.size ≤ 500
  · obtain ⟨h0, h1⟩ := hbig
    obtain ⟨L, HL⟩ : ∃ L, Hid (letS (kd % 3) = L) := ⟨_, Lib.hid rfl⟩
    obtain ⟨k, HK⟩ : ∃ k, Hid (bitK (kd % 3) = k) := ⟨_, Lib.hid rfl⟩
    obtain ⟨fl, HF⟩ : ∃ fl, Hid (filB (kd % 3) = fl) := ⟨_, Lib.hid rfl⟩
    have hk46 : k = 4 ∨ k = 6 := by rw [← HK.out]; exact bit_k _
    have hLs : L.size = 2 ^ k := by rw [← HL.out, ← HK.out]; exact let_size _
    have HLS := Lib.hid hLs
    have hfl : Hid (k = 4 → fl = false) := by
      intro h
      rw [← HF.out]
      rw [← HK.out] at h
      unfold bitK at h
      unfold filB
      split at h
      · rw [decide_eq_false_iff_not]; omega
      · omega
    clear hLs
    have key : Hid (∀ S : ByteArray, S.size ≤ 500 → (k = 4 ∨ S.size % 3 = 0) → ∃ (X Y J : ByteArray) (x y : Nat), J = X ++ Y ∧ X.size ≤ 100000 ∧ Y.size ≤ 100000 ∧ x ≤ 100000 ∧ y ≤ 100000 ∧
        (∀ W : World, Calls Try.prog 9 #[.agg #[.string L, .int .i64 (k : Int), .bool fl], .string (S ++ a1)] W fun e w' => e = .returned (.string J) ∧ Below W.heap.size W w') ∧
        (∀ W : World, Calls Try.prog 9 #[.agg #[.string L, .int .i64 (k : Int), .bool fl], .string S] W fun e w' => e = .returned (.string X) ∧ Below W.heap.size W w') ∧
        (∀ W : World, Calls Try.prog 9 #[.agg #[.string L, .int .i64 (k : Int), .bool fl], .string a1] W fun e w' => e = .returned (.string Y) ∧ Below W.heap.size W w') ∧
        (∀ W : World, Calls Try.prog 11 #[.agg #[.string L, .int .i64 (k : Int), .bool fl], .int .i64 ((S.size : Int) + (a1.size : Int))] W fun e w' => e = .returned (.int .i64 ((x : Int) + (y : Int))) ∧ Below W.heap.size W w') ∧
        (∀ W : World, Calls Try.prog 11 #[.agg #[.string L, .int .i64 (k : Int), .bool fl], .int .i64 (S.size : Int)] W fun e w' => e = .returned (.int .i64 (x : Int)) ∧ Below W.heap.size W w') ∧
        (∀ W : World, Calls Try.prog 11 #[.agg #[.string L, .int .i64 (k : Int), .bool fl], .int .i64 (a1.size : Int)] W fun e w' => e = .returned (.int .i64 (y : Int)) ∧ Below W.heap.size W w')) := by
      intro S hS hS3
      obtain ⟨e1, e2⟩ := encS_append L k fl S a1 hk46 hfl.out hS3
      have hsa : (S ++ a1).size = S.size + a1.size := ByteArray.size_append
      refine ⟨encS L k fl S, encS L k fl a1, encS L k fl (S ++ a1), szA k fl S.size, szA k fl a1.size, e1, encS_size hk46 (by omega), encS_size hk46 (by omega), szA_le hk46 (by omega), szA_le hk46 (by omega), fun W => ?_, fun W => ?_, fun W => ?_, fun W => ?_, fun W => ?_, fun W => ?_⟩
      · exact Encode_S L k fl (S ++ a1) W hk46 HLS.out (by omega)
      · exact Encode_S L k fl S W hk46 HLS.out (by omega)
      · exact Encode_S L k fl a1 W hk46 HLS.out (by omega)
      · have h := Size_any L k fl (S.size + a1.size) W hk46 (by omega)
        rw [e2, Int.natCast_add, Int.natCast_add] at h
        exact h
      · exact Size_any L k fl S.size W hk46 (by omega)
      · exact Size_any L k fl a1.size W hk46 (by omega)
    obtain ⟨S, hS, hS3, HSD⟩ : ∃ S : ByteArray, S.size ≤ 500 ∧ (k = 4 ∨ S.size % 3 = 0) ∧ Hid (S = if kd % 3 = 0 then a0 else a0.extract 0 (a0.size / 3 * 3)) := by
      by_cases hz : kd % 3 = 0
      · refine ⟨a0, h0, .inl ?_, by rw [if_pos hz]; exact Lib.hid rfl⟩
        rw [← HK.out]; unfold bitK; rw [if_pos hz]
      · have hse : (a0.extract 0 (a0.size / 3 * 3)).size = a0.size / 3 * 3 := by
          rw [ByteArray.size_extract]; omega
        exact ⟨_, by rw [hse]; omega, .inr (by rw [hse]; omega), by rw [if_neg hz]; exact Lib.hid rfl⟩
    obtain ⟨X, Y, J, x, y, hJ, hX, hY, hx, hy, c1, c2, c3, c4, c5, c6⟩ := key.out S hS hS3
    have C1 := Lib.hid c1
    have C2 := Lib.hid c2
    have C3 := Lib.hid c3
    have C4 := Lib.hid c4
    have C5 := Lib.hid c5
    have C6 := Lib.hid c6
    have HJ := Lib.hid hJ
    clear c1 c2 c3 c4 c5 c6 hJ hS3 hk46
    by_cases hz : kd % 3 = 0
    case' pos =>
      have hz2 : ((kd : Int) % 3 != 0) = false := by simp; omega
      have hSa : S = a0 := by rw [HSD.out, if_pos hz]
      subst hSa
      clear hz HSD
    case' neg =>
      have hz2 : ((kd : Int) % 3 != 0) = true := by simp; omega
      have hSa : a0.extract 0 (a0.size / 3 * 3) = S := by rw [HSD.out, if_neg hz]
      have HSE := Lib.hid hSa
      clear hz HSD hSa
    all_goals go_wp2_with fail
    all_goals
      refine (alphabet_mod kd L k fl HL.out HK.out HF.out _).mono ?_
      unfold alph
      rintro e wb ⟨rfl, hb1⟩
      have hb2 := hb0.trans (hb1.mono hb0.size)
      have hbA := (hb2.alloc hb2.size (.cells #[.string L, .int .i64 (k : Int), .bool fl] 24)).drew
      have hgs : wb.heap.size < (wb.alloc (.cells #[.string L, .int .i64 (k : Int), .bool fl] 24)).drew.heap.size := by simp
      have hrow : Row (wb.alloc (.cells #[.string L, .int .i64 (k : Int), .bool fl] 24)).drew wb.heap.size 24 [.string L, .int .i64 (k : Int), .bool fl] := Row.new wb _ _
      have hc0 := hrow.cell 0
      have hc1 := hrow.cell 1
      have hc2 := hrow.cell 2
      simp only [List.getElem?_cons_zero, List.getElem?_cons_succ] at hc0 hc1 hc2
      have HA := Lib.hid (And.intro hbA (And.intro hgs (And.intro hc0 (And.intro hc1 hc2))))
      clear hb1 hb2 hbA hgs hrow hc0 hc1 hc2
      go_wp2_with fail
      try rw [HSE.out]
      have hws : IntKind.i64.wrap ((S.size : Int) + (a1.size : Int)) = (S.size : Int) + (a1.size : Int) := IntWalk.i64_in _ (by omega)
      have hwn : IntKind.i64.wrap ((x : Int) + (y : Int)) = (x : Int) + (y : Int) := IntWalk.i64_in _ (by omega)
      have hadd : ∀ W : World, (Op.stringOp .add S a1).run Try.prog W = .ok (.string (S ++ a1)) W := fun W => run_string_add_sum W S a1 (by omega)
      have hadd2 : ∀ W : World, (Op.stringOp .add X Y).run Try.prog W = .ok (.string J) W := fun W => by rw [HJ.out]; exact run_string_add_sum W X Y (by omega)
      obtain ⟨hbA, hgs, hc0, hc1, hc2⟩ := HA.out
      go_region_held3 (fun w' => w'.cell? ⟨wb.heap.size, 0, none⟩ = some (.string L) ∧ w'.cell? ⟨wb.heap.size, 1, none⟩ = some (.int .i64 (k : Int)) ∧ w'.cell? ⟨wb.heap.size, 2, none⟩ = some (.bool fl)) (first | go_keep | exact ⟨hc0, hc1, hc2⟩)
        (first
          | (go_at_call_of 9 (Value.string (S ++ a1)); refine (C1.out _).mono ?_; rintro e w3 ⟨rfl, hbc⟩; have hc0 := (hbc.cell (p := ⟨wb.heap.size, 0, none⟩) hgs).trans hc0; have hc1 := (hbc.cell (p := ⟨wb.heap.size, 1, none⟩) hgs).trans hc1; have hc2 := (hbc.cell (p := ⟨wb.heap.size, 2, none⟩) hgs).trans hc2; have hbA := hbA.trans (hbc.mono hbA.size); have hgs := Nat.lt_of_lt_of_le hgs hbc.size)
          | (go_at_call_of 9 (Value.string S); refine (C2.out _).mono ?_; rintro e w4 ⟨rfl, hbc⟩; have hc0 := (hbc.cell (p := ⟨wb.heap.size, 0, none⟩) hgs).trans hc0; have hc1 := (hbc.cell (p := ⟨wb.heap.size, 1, none⟩) hgs).trans hc1; have hc2 := (hbc.cell (p := ⟨wb.heap.size, 2, none⟩) hgs).trans hc2; have hbA := hbA.trans (hbc.mono hbA.size); have hgs := Nat.lt_of_lt_of_le hgs hbc.size)
          | (go_at_call_of 9 (Value.string a1); refine (C3.out _).mono ?_; rintro e w5 ⟨rfl, hbc⟩; have hc0 := (hbc.cell (p := ⟨wb.heap.size, 0, none⟩) hgs).trans hc0; have hc1 := (hbc.cell (p := ⟨wb.heap.size, 1, none⟩) hgs).trans hc1; have hc2 := (hbc.cell (p := ⟨wb.heap.size, 2, none⟩) hgs).trans hc2; have hbA := hbA.trans (hbc.mono hbA.size); have hgs := Nat.lt_of_lt_of_le hgs hbc.size)
          | (go_at_call_of 11 (Value.int IntKind.i64 ((S.size : Int) + (a1.size : Int))); refine (C4.out _).mono ?_; rintro e w6 ⟨rfl, hbc⟩; have hc0 := (hbc.cell (p := ⟨wb.heap.size, 0, none⟩) hgs).trans hc0; have hc1 := (hbc.cell (p := ⟨wb.heap.size, 1, none⟩) hgs).trans hc1; have hc2 := (hbc.cell (p := ⟨wb.heap.size, 2, none⟩) hgs).trans hc2; have hbA := hbA.trans (hbc.mono hbA.size); have hgs := Nat.lt_of_lt_of_le hgs hbc.size)
          | (go_at_call_of 11 (Value.int IntKind.i64 (S.size : Int)); refine (C5.out _).mono ?_; rintro e w7 ⟨rfl, hbc⟩; have hc0 := (hbc.cell (p := ⟨wb.heap.size, 0, none⟩) hgs).trans hc0; have hc1 := (hbc.cell (p := ⟨wb.heap.size, 1, none⟩) hgs).trans hc1; have hc2 := (hbc.cell (p := ⟨wb.heap.size, 2, none⟩) hgs).trans hc2; have hbA := hbA.trans (hbc.mono hbA.size); have hgs := Nat.lt_of_lt_of_le hgs hbc.size)
          | (go_at_call_of 11 (Value.int IntKind.i64 (a1.size : Int)); refine (C6.out _).mono ?_; rintro e w8 ⟨rfl, hbc⟩; have hc0 := (hbc.cell (p := ⟨wb.heap.size, 0, none⟩) hgs).trans hc0; have hc1 := (hbc.cell (p := ⟨wb.heap.size, 1, none⟩) hgs).trans hc1; have hc2 := (hbc.cell (p := ⟨wb.heap.size, 2, none⟩) hgs).trans hc2; have hbA := hbA.trans (hbc.mono hbA.size); have hgs := Nat.lt_of_lt_of_le hgs hbc.size))
      go_wp2_with fail
      go_ret
      exact ⟨rfl, hbA⟩
  · go_wp2_with fail
    all_goals first
      | (exfalso; omega)
      | (go_ret; exact ⟨rfl, hb0⟩)
end Go.Proofs.Ytegpfdbfnilpmab
