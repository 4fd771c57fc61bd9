/- The statement of OtpSteps: whatever comes in, the law answers true, and what came in reads as it did. (In one text with what it leans on: OtpStB, OtpStC, OtpStepsW, Laid, Laid4, LaidT, OtpO, OpenArr, OtpSteps.) -/
import Derived.Lib.LaidTab
import Derived.ProofKit
import Derived.OpenShut
import Derived.ShutString
import Derived.Deep.DeepHandedRow
import Derived.Lib.SmallJoins
import Derived.WalkKit
import Derived.SizedLaws
import Derived.LaidMore
import Derived.Stop.Joined
import Derived.SevenTiedAt
import Derived.Test.YtlmbijhkpgolaaaGreatDoorOtpStepsAll1
import Derived.Test.YtlmbijhkpgolaaaGreatDoorSHash
import Derived.Test.YtlmbijhkpgolaaaGreatDoorNFmt
import Derived.Test.YtlmbijhkpgolaaaGreatDoorOtpA
import Derived.Test.YtlmbijhkpgolaaaGreatDoorMem
import Derived.Test.YtlmbijhkpgolaaaGreatDoorRows
import Derived.Test.YtlmbijhkpgolaaaGreatDoorCards
import Derived.Test.YtlmbijhkpgolaaaGreatDoorTie
namespace Go.Proofs.YtlmbijhkpgolaaaGreatDoor
open Go.RowKit
set_option linter.unusedVariables false
set_option linter.unusedSimpArgs false

set_option maxRecDepth 100000 in
set_option maxHeartbeats 4000000 in
theorem steps_lateRlow (t d n k X1 X2 X3 m : Int) (key said c : ByteArray) (C : List Value) (hCl : C.length = 16) (w : World) (zN : Nat) (hzm : max key.size said.size = zN) (hz200 : ¬ (200 : Int) < (zN : Int))
    (HG : Hid (G w)) (HT10 : Hid (T10 w)) (hl : d ≤ n) (hl2 : decide (d ≤ n) = true) (hb1 : t < 1)
    (HA : Hid (∀ W : World, G W → Calls Tryz.prog 4 #[] W fun e w' => e = .returned (.bool true) ∧ Below W.heap.size W w'))
    (HSM : Hid (∀ W : World, Calls Tryz.prog 5 #[.agg #[.int .i64 t, .int .u64 d, .int .i64 0]] W fun e w' => e = .returned (.bool true) ∧ Below W.heap.size W w'))
    (HCO : Hid (∀ W : World, G W → T10 W → Calls Tryz.prog 6 #[.string key, .agg C.toArray] W fun e w' => e = .returned (.string c) ∧ Below W.heap.size W w'))
    (HRC : Hid (∀ W : World, Calls Tryz.prog 7 #[.string key, .agg C.toArray] W fun e w' => e = .returned (.string c) ∧ Below W.heap.size W w'))
    (HE : Hid (∀ W : World, Calls Tryz.prog 8 #[.agg #[.int .i64 t, .int .u64 d, .int .i64 0], .string c, .string c, .int .u64 n] W fun e w' => e = .returned (.tuple #[.agg #[.int .i64 X1, .int .u64 d, .int .i64 X2], .int .i64 X3]) ∧ Below W.heap.size W w'))
    (HF : Hid (∀ W : World, Calls Tryz.prog 9 #[.agg #[.int .i64 t, .int .u64 d, .int .i64 0], .string c, .string c, .int .u64 n] W fun e w' => e = .returned (.tuple #[.agg #[.int .i64 X1, .int .u64 d, .int .i64 X2], .int .i64 X3]) ∧ Below W.heap.size W w'))
    (HTK : Hid (∀ W : World, Calls Tryz.prog 10 #[.agg #[.int .i64 t, .int .u64 d, .int .i64 0], .int .u64 n] W fun e w' => e = .returned (.tuple #[.agg #[.int .i64 t, .int .u64 d, .int .i64 3], .bool true]) ∧ Below W.heap.size W w'))
    (HCA : Hid (∀ W : World, Calls Tryz.prog 11 #[.agg #[.int .i64 t, .int .u64 d, .int .i64 0], .int .u64 n] W fun e w' => e = .returned (.tuple #[.agg #[.int .i64 t, .int .u64 d, .int .i64 3], .bool true]) ∧ Below W.heap.size W w'))
    (HBE : Hid (∀ W : World, Calls Tryz.prog 12 #[.int .i64 t, .int .u64 n, .int .u64 k] W fun e w' => e = .returned (.tuple #[.agg #[.int .i64 0, .int .u64 0, .int .i64 0], .int .i64 7]) ∧ Below W.heap.size W w')) :
    Calls Tryz.prog 3 #[.agg #[.int .i64 t, .int .u64 d, .int .i64 0], .string key, .string said, .agg C.toArray, .int .u64 n, .int .u64 k, .bool true] w fun e w' => e = .returned (.bool true) ∧ Below w.heap.size w w' := by
  have hxl := fun ts T W => max2r (P := Tryz.prog) ts T key.size said.size W
  rw [hzm] at hxl
  have HQ1 := fun W => st_self X1 d X2 W
  have HQR := fun W => rst_self X1 d X2 W
  have HQ2 := fun W => st_self t d 3 W
  have HQ3 := fun W => st_self t d 3 W
  have HQ4 := fun W => st_selfN 0 0 0 W
  have rS : Row ((w.alloc (.cells ([.int .i64 t, .int .u64 d, .int .i64 0] : List Value).toArray 24)).alloc (.cells C.toArray 26)) w.heap.size 24 [.int .i64 t, .int .u64 d, .int .i64 0] := (Row.new w 24 [.int .i64 t, .int .u64 d, .int .i64 0]).alloc _
  have rI : Row ((w.alloc (.cells ([.int .i64 t, .int .u64 d, .int .i64 0] : List Value).toArray 24)).alloc (.cells C.toArray 26)) (w.heap.size + 1) 26 C := by
    have h := Row.new (w.alloc (.cells ([.int .i64 t, .int .u64 d, .int .i64 0] : List Value).toArray 24)) 26 C
    rwa [World.size_alloc] at h
  have b0 : Below w.heap.size w ((w.alloc (.cells ([.int .i64 t, .int .u64 d, .int .i64 0] : List Value).toArray 24)).alloc (.cells C.toArray 26)) := ((Below.refl _ _).alloc (Nat.le_refl _) _).alloc (by simp) _
  have hw0 : w.heap.size ≤ ((w.alloc (.cells ([.int .i64 t, .int .u64 d, .int .i64 0] : List Value).toArray 24)).alloc (.cells C.toArray 26)).heap.size := b0.size
  have hgS0 : w.heap.size < ((w.alloc (.cells ([.int .i64 t, .int .u64 d, .int .i64 0] : List Value).toArray 24)).alloc (.cells C.toArray 26)).heap.size := rS.lt
  have hgI0 : w.heap.size + 1 < ((w.alloc (.cells ([.int .i64 t, .int .u64 d, .int .i64 0] : List Value).toArray 24)).alloc (.cells C.toArray 26)).heap.size := rI.lt
  clear hzm
  go_enter Tryz.func3, Tryz.ntmps3
  go_wp2_with fail
  refine (HA.out _ (HG.out.below b0)).mono ?_
  rintro e y1 ⟨rfl, hb⟩
  have B1 := Lib.hid (b0.trans (hb.mono (by first | exact hw0 | (simp; omega) | omega)))
  have hz1 : w.heap.size ≤ y1.heap.size := B1.out.size
  have RS1 : Hid (Row y1 w.heap.size 24 [.int .i64 t, .int .u64 d, .int .i64 0]) := Lib.hid (rS.below hb (by first | exact hgS0 | (simp; omega) | omega))
  have hgS1 : w.heap.size < y1.heap.size := RS1.out.lt
  have RI1 : Hid (Row y1 (w.heap.size + 1) 26 C) := Lib.hid (rI.below hb (by first | exact hgI0 | (simp; omega) | omega))
  have hgI1 : (w.heap.size + 1) < y1.heap.size := RI1.out.lt
  clear hb
  have cS1_0 := RS1.out.cell 0
  have cS1_1 := RS1.out.cell 1
  have cS1_2 := RS1.out.cell 2
  simp only [List.getElem?_cons_zero, List.getElem?_cons_succ] at cS1_0 cS1_1 cS1_2
  go_wp2_with fail
  refine (HSM.out _).mono ?_
  rintro e y2 ⟨rfl, hb⟩
  have B2 := Lib.hid (B1.out.trans (hb.mono (by first | exact hz1 | (simp; omega) | omega)))
  have hz2 : w.heap.size ≤ y2.heap.size := B2.out.size
  have RS2 : Hid (Row y2 w.heap.size 24 [.int .i64 t, .int .u64 d, .int .i64 0]) := Lib.hid (RS1.out.below hb (by first | exact hgS1 | (simp; omega) | omega))
  have hgS2 : w.heap.size < y2.heap.size := RS2.out.lt
  have RI2 : Hid (Row y2 (w.heap.size + 1) 26 C) := Lib.hid (RI1.out.below hb (by first | exact hgI1 | (simp; omega) | omega))
  have hgI2 : (w.heap.size + 1) < y2.heap.size := RI2.out.lt
  clear hb
  have cS2_0 := RS2.out.cell 0
  have cS2_1 := RS2.out.cell 1
  have cS2_2 := RS2.out.cell 2
  simp only [List.getElem?_cons_zero, List.getElem?_cons_succ] at cS2_0 cS2_1 cS2_2
  go_wp2_with (first
      | (refine wpList_load_row rfl 26 (.tmp 10) rfl (w.heap.size + 1) rfl 26 C.toArray (0, 0) _ RI2.out Tryz.underlying26 rfl (by rw [List.size_toArray, hCl]; kernel_rfl) ?_)
      | fail)
  refine (HCO.out _ (HG.out.below B2.out) (HT10.out.below B2.out)).mono ?_
  rintro e y3 ⟨rfl, hb⟩
  have B3 := Lib.hid (B2.out.trans (hb.mono (by first | exact hz2 | (simp; omega) | omega)))
  have hz3 : w.heap.size ≤ y3.heap.size := B3.out.size
  have RS3 : Hid (Row y3 w.heap.size 24 [.int .i64 t, .int .u64 d, .int .i64 0]) := Lib.hid (RS2.out.below hb (by first | exact hgS2 | (simp; omega) | omega))
  have hgS3 : w.heap.size < y3.heap.size := RS3.out.lt
  have RI3 : Hid (Row y3 (w.heap.size + 1) 26 C) := Lib.hid (RI2.out.below hb (by first | exact hgI2 | (simp; omega) | omega))
  have hgI3 : (w.heap.size + 1) < y3.heap.size := RI3.out.lt
  clear hb
  have cS3_0 := RS3.out.cell 0
  have cS3_1 := RS3.out.cell 1
  have cS3_2 := RS3.out.cell 2
  simp only [List.getElem?_cons_zero, List.getElem?_cons_succ] at cS3_0 cS3_1 cS3_2
  go_wp2_with (first
      | (refine wpList_load_row rfl 26 (.tmp 10) rfl (w.heap.size + 1) rfl 26 C.toArray (0, 0) _ RI3.out Tryz.underlying26 rfl (by rw [List.size_toArray, hCl]; kernel_rfl) ?_)
      | fail)
  refine (HRC.out _).mono ?_
  rintro e y4 ⟨rfl, hb⟩
  have B4 := Lib.hid (B3.out.trans (hb.mono (by first | exact hz3 | (simp; omega) | omega)))
  have hz4 : w.heap.size ≤ y4.heap.size := B4.out.size
  have RS4 : Hid (Row y4 w.heap.size 24 [.int .i64 t, .int .u64 d, .int .i64 0]) := Lib.hid (RS3.out.below hb (by first | exact hgS3 | (simp; omega) | omega))
  have hgS4 : w.heap.size < y4.heap.size := RS4.out.lt
  have RI4 : Hid (Row y4 (w.heap.size + 1) 26 C) := Lib.hid (RI3.out.below hb (by first | exact hgI3 | (simp; omega) | omega))
  have hgI4 : (w.heap.size + 1) < y4.heap.size := RI4.out.lt
  clear hb
  have cS4_0 := RS4.out.cell 0
  have cS4_1 := RS4.out.cell 1
  have cS4_2 := RS4.out.cell 2
  simp only [List.getElem?_cons_zero, List.getElem?_cons_succ] at cS4_0 cS4_1 cS4_2
  go_wp2_with fail
  refine (HE.out _).mono ?_
  rintro e y5 ⟨rfl, hb⟩
  have B5 := Lib.hid (B4.out.trans (hb.mono (by first | exact hz4 | (simp; omega) | omega)))
  have hz5 : w.heap.size ≤ y5.heap.size := B5.out.size
  have RS5 : Hid (Row y5 w.heap.size 24 [.int .i64 t, .int .u64 d, .int .i64 0]) := Lib.hid (RS4.out.below hb (by first | exact hgS4 | (simp; omega) | omega))
  have hgS5 : w.heap.size < y5.heap.size := RS5.out.lt
  have RI5 : Hid (Row y5 (w.heap.size + 1) 26 C) := Lib.hid (RI4.out.below hb (by first | exact hgI4 | (simp; omega) | omega))
  have hgI5 : (w.heap.size + 1) < y5.heap.size := RI5.out.lt
  clear hb
  have cS5_0 := RS5.out.cell 0
  have cS5_1 := RS5.out.cell 1
  have cS5_2 := RS5.out.cell 2
  simp only [List.getElem?_cons_zero, List.getElem?_cons_succ] at cS5_0 cS5_1 cS5_2
  go_wp2_with fail
  refine (HF.out _).mono ?_
  rintro e y6 ⟨rfl, hb⟩
  have B6 := Lib.hid ((B5.out.alloc (by first | exact hz5 | (simp; omega) | omega) (.cells ([.int .i64 X1, .int .u64 d, .int .i64 X2] : List Value).toArray 24)).trans (hb.mono (by first | exact hz5 | (simp; omega) | omega)))
  have hz6 : w.heap.size ≤ y6.heap.size := B6.out.size
  have RS6 : Hid (Row y6 w.heap.size 24 [.int .i64 t, .int .u64 d, .int .i64 0]) := Lib.hid ((RS5.out.alloc _).below hb (by first | exact hgS5 | (simp; omega) | omega))
  have hgS6 : w.heap.size < y6.heap.size := RS6.out.lt
  have RI6 : Hid (Row y6 (w.heap.size + 1) 26 C) := Lib.hid ((RI5.out.alloc _).below hb (by first | exact hgI5 | (simp; omega) | omega))
  have hgI6 : (w.heap.size + 1) < y6.heap.size := RI6.out.lt
  have RX6 : Hid (Row y6 y5.heap.size 24 [.int .i64 X1, .int .u64 d, .int .i64 X2]) := Lib.hid (by
    have h := Row.new y5 24 [.int .i64 X1, .int .u64 d, .int .i64 X2]
    exact h.below hb (by first | (simp; omega) | simp | omega))
  have hgX6 : y5.heap.size < y6.heap.size := RX6.out.lt
  clear hb
  have cS6_0 := RS6.out.cell 0
  have cS6_1 := RS6.out.cell 1
  have cS6_2 := RS6.out.cell 2
  simp only [List.getElem?_cons_zero, List.getElem?_cons_succ] at cS6_0 cS6_1 cS6_2
  go_wp2_with fail
  refine (HTK.out _).mono ?_
  rintro e y7 ⟨rfl, hb⟩
  have B7 := Lib.hid ((B6.out.alloc (by first | exact hz6 | (simp; omega) | omega) (.cells ([.int .i64 X1, .int .u64 d, .int .i64 X2] : List Value).toArray 32)).trans (hb.mono (by first | exact hz6 | (simp; omega) | omega)))
  have hz7 : w.heap.size ≤ y7.heap.size := B7.out.size
  have RS7 : Hid (Row y7 w.heap.size 24 [.int .i64 t, .int .u64 d, .int .i64 0]) := Lib.hid ((RS6.out.alloc _).below hb (by first | exact hgS6 | (simp; omega) | omega))
  have hgS7 : w.heap.size < y7.heap.size := RS7.out.lt
  have RI7 : Hid (Row y7 (w.heap.size + 1) 26 C) := Lib.hid ((RI6.out.alloc _).below hb (by first | exact hgI6 | (simp; omega) | omega))
  have hgI7 : (w.heap.size + 1) < y7.heap.size := RI7.out.lt
  have RX7 : Hid (Row y7 y5.heap.size 24 [.int .i64 X1, .int .u64 d, .int .i64 X2]) := Lib.hid ((RX6.out.alloc _).below hb (by first | exact hgX6 | (simp; omega) | omega))
  have hgX7 : y5.heap.size < y7.heap.size := RX7.out.lt
  have RY7 : Hid (Row y7 y6.heap.size 32 [.int .i64 X1, .int .u64 d, .int .i64 X2]) := Lib.hid (by
    have h := Row.new y6 32 [.int .i64 X1, .int .u64 d, .int .i64 X2]
    exact h.below hb (by first | (simp; omega) | simp | omega))
  have hgY7 : y6.heap.size < y7.heap.size := RY7.out.lt
  clear hb
  have cS7_0 := RS7.out.cell 0
  have cS7_1 := RS7.out.cell 1
  have cS7_2 := RS7.out.cell 2
  simp only [List.getElem?_cons_zero, List.getElem?_cons_succ] at cS7_0 cS7_1 cS7_2
  go_wp2_with fail
  refine (HCA.out _).mono ?_
  rintro e y8 ⟨rfl, hb⟩
  have B8 := Lib.hid ((B7.out.alloc (by first | exact hz7 | (simp; omega) | omega) (.cells ([.int .i64 t, .int .u64 d, .int .i64 3] : List Value).toArray 24)).trans (hb.mono (by first | exact hz7 | (simp; omega) | omega)))
  have hz8 : w.heap.size ≤ y8.heap.size := B8.out.size
  have RS8 : Hid (Row y8 w.heap.size 24 [.int .i64 t, .int .u64 d, .int .i64 0]) := Lib.hid ((RS7.out.alloc _).below hb (by first | exact hgS7 | (simp; omega) | omega))
  have hgS8 : w.heap.size < y8.heap.size := RS8.out.lt
  have RI8 : Hid (Row y8 (w.heap.size + 1) 26 C) := Lib.hid ((RI7.out.alloc _).below hb (by first | exact hgI7 | (simp; omega) | omega))
  have hgI8 : (w.heap.size + 1) < y8.heap.size := RI8.out.lt
  have RX8 : Hid (Row y8 y5.heap.size 24 [.int .i64 X1, .int .u64 d, .int .i64 X2]) := Lib.hid ((RX7.out.alloc _).below hb (by first | exact hgX7 | (simp; omega) | omega))
  have hgX8 : y5.heap.size < y8.heap.size := RX8.out.lt
  have RY8 : Hid (Row y8 y6.heap.size 32 [.int .i64 X1, .int .u64 d, .int .i64 X2]) := Lib.hid ((RY7.out.alloc _).below hb (by first | exact hgY7 | (simp; omega) | omega))
  have hgY8 : y6.heap.size < y8.heap.size := RY8.out.lt
  have RA8 : Hid (Row y8 y7.heap.size 24 [.int .i64 t, .int .u64 d, .int .i64 3]) := Lib.hid (by
    have h := Row.new y7 24 [.int .i64 t, .int .u64 d, .int .i64 3]
    exact h.below hb (by first | (simp; omega) | simp | omega))
  have hgA8 : y7.heap.size < y8.heap.size := RA8.out.lt
  clear hb
  have cS8_0 := RS8.out.cell 0
  have cS8_1 := RS8.out.cell 1
  have cS8_2 := RS8.out.cell 2
  simp only [List.getElem?_cons_zero, List.getElem?_cons_succ] at cS8_0 cS8_1 cS8_2
  have hv1 : w.heap.size < y8.heap.size + 1 := by omega
  have hv2 : w.heap.size < y8.heap.size + 1 + 1 := by omega
  have hv3 : w.heap.size < y8.heap.size + 2 := by omega
  have hv4 : w.heap.size < y8.heap.size + 1 + 1 + 1 := by omega
  go_wp2_with fail
  refine (HBE.out _).mono ?_
  rintro e y9 ⟨rfl, hb⟩
  have B9 := Lib.hid ((((B8.out.alloc (by first | exact hz8 | (simp; omega) | omega) (.cells ([.int .i64 t, .int .u64 d, .int .i64 3] : List Value).toArray 24)).alloc (by first | exact hz8 | (simp; omega) | omega) (.cells ([.int .i64 t, .int .u64 d, .int .i64 3] : List Value).toArray 24)).alloc (by first | exact hz8 | (simp; omega) | omega) (.cells ([.int .i64 t, .int .u64 d, .int .i64 3] : List Value).toArray 24)).trans (hb.mono (by first | exact hz8 | (simp; omega) | omega)))
  have hz9 : w.heap.size ≤ y9.heap.size := B9.out.size
  have RS9 : Hid (Row y9 w.heap.size 24 [.int .i64 t, .int .u64 d, .int .i64 0]) := Lib.hid ((((RS8.out.alloc _).alloc _).alloc _).below hb (by first | exact hgS8 | (simp; omega) | omega))
  have hgS9 : w.heap.size < y9.heap.size := RS9.out.lt
  have RI9 : Hid (Row y9 (w.heap.size + 1) 26 C) := Lib.hid ((((RI8.out.alloc _).alloc _).alloc _).below hb (by first | exact hgI8 | (simp; omega) | omega))
  have hgI9 : (w.heap.size + 1) < y9.heap.size := RI9.out.lt
  have RX9 : Hid (Row y9 y5.heap.size 24 [.int .i64 X1, .int .u64 d, .int .i64 X2]) := Lib.hid ((((RX8.out.alloc _).alloc _).alloc _).below hb (by first | exact hgX8 | (simp; omega) | omega))
  have hgX9 : y5.heap.size < y9.heap.size := RX9.out.lt
  have RY9 : Hid (Row y9 y6.heap.size 32 [.int .i64 X1, .int .u64 d, .int .i64 X2]) := Lib.hid ((((RY8.out.alloc _).alloc _).alloc _).below hb (by first | exact hgY8 | (simp; omega) | omega))
  have hgY9 : y6.heap.size < y9.heap.size := RY9.out.lt
  have RA9 : Hid (Row y9 y7.heap.size 24 [.int .i64 t, .int .u64 d, .int .i64 3]) := Lib.hid ((((RA8.out.alloc _).alloc _).alloc _).below hb (by first | exact hgA8 | (simp; omega) | omega))
  have hgA9 : y7.heap.size < y9.heap.size := RA9.out.lt
  have RZ9 : Hid (Row y9 y8.heap.size 24 [.int .i64 t, .int .u64 d, .int .i64 3]) := Lib.hid (by
    have h := Row.new y8 24 [.int .i64 t, .int .u64 d, .int .i64 3]
    exact ((h.alloc (.cells ([.int .i64 t, .int .u64 d, .int .i64 3] : List Value).toArray 24)).alloc (.cells ([.int .i64 t, .int .u64 d, .int .i64 3] : List Value).toArray 24)).below hb (by first | (simp; omega) | simp | omega))
  have hgZ9 : y8.heap.size < y9.heap.size := RZ9.out.lt
  have RV9 : Hid (Row y9 (y8.heap.size + 1) 24 [.int .i64 t, .int .u64 d, .int .i64 3]) := Lib.hid (by
    have h := Row.new (y8.alloc (.cells ([.int .i64 t, .int .u64 d, .int .i64 3] : List Value).toArray 24)) 24 [.int .i64 t, .int .u64 d, .int .i64 3]
    simp only [World.size_alloc, Nat.add_assoc, Nat.reduceAdd] at h
    exact (h.alloc (.cells ([.int .i64 t, .int .u64 d, .int .i64 3] : List Value).toArray 24)).below hb (by first | (simp; omega) | simp | omega))
  have hgV9 : (y8.heap.size + 1) < y9.heap.size := RV9.out.lt
  have RU9 : Hid (Row y9 (y8.heap.size + 2) 24 [.int .i64 t, .int .u64 d, .int .i64 3]) := Lib.hid (by
    have h := Row.new ((y8.alloc (.cells ([.int .i64 t, .int .u64 d, .int .i64 3] : List Value).toArray 24)).alloc (.cells ([.int .i64 t, .int .u64 d, .int .i64 3] : List Value).toArray 24)) 24 [.int .i64 t, .int .u64 d, .int .i64 3]
    simp only [World.size_alloc, Nat.add_assoc, Nat.reduceAdd] at h
    exact h.below hb (by first | (simp; omega) | simp | omega))
  have hgU9 : (y8.heap.size + 2) < y9.heap.size := RU9.out.lt
  clear hb
  have cS9_0 := RS9.out.cell 0
  have cS9_1 := RS9.out.cell 1
  have cS9_2 := RS9.out.cell 2
  simp only [List.getElem?_cons_zero, List.getElem?_cons_succ] at cS9_0 cS9_1 cS9_2
  have cX9_0 := RX9.out.cell 0
  have cX9_1 := RX9.out.cell 1
  have cX9_2 := RX9.out.cell 2
  simp only [List.getElem?_cons_zero, List.getElem?_cons_succ] at cX9_0 cX9_1 cX9_2
  have cY9_0 := RY9.out.cell 0
  have cY9_1 := RY9.out.cell 1
  have cY9_2 := RY9.out.cell 2
  simp only [List.getElem?_cons_zero, List.getElem?_cons_succ] at cY9_0 cY9_1 cY9_2
  have cA9_0 := RA9.out.cell 0
  have cA9_1 := RA9.out.cell 1
  have cA9_2 := RA9.out.cell 2
  simp only [List.getElem?_cons_zero, List.getElem?_cons_succ] at cA9_0 cA9_1 cA9_2
  have cZ9_0 := RZ9.out.cell 0
  have cZ9_1 := RZ9.out.cell 1
  have cZ9_2 := RZ9.out.cell 2
  simp only [List.getElem?_cons_zero, List.getElem?_cons_succ] at cZ9_0 cZ9_1 cZ9_2
  have cV9_0 := RV9.out.cell 0
  have cV9_1 := RV9.out.cell 1
  have cV9_2 := RV9.out.cell 2
  simp only [List.getElem?_cons_zero, List.getElem?_cons_succ] at cV9_0 cV9_1 cV9_2
  have cU9_0 := RU9.out.cell 0
  have cU9_1 := RU9.out.cell 1
  have cU9_2 := RU9.out.cell 2
  simp only [List.getElem?_cons_zero, List.getElem?_cons_succ] at cU9_0 cU9_1 cU9_2
  go_wp2_with fail
  go_ret
  exact ⟨rfl, (B9.out.alloc hz9 (.cells ([.int .i64 0, .int .u64 0, .int .i64 0] : List Value).toArray 24))⟩

set_option maxRecDepth 100000 in
set_option maxHeartbeats 4000000 in
theorem steps_lateRhigh (t d n k X1 X2 X3 m : Int) (key said c : ByteArray) (C : List Value) (hCl : C.length = 16) (w : World) (zN : Nat) (hzm : max key.size said.size = zN) (hz200 : ¬ (200 : Int) < (zN : Int))
    (HG : Hid (G w)) (HT10 : Hid (T10 w)) (hl : d ≤ n) (hl2 : decide (d ≤ n) = true) (hb1 : ¬ t < 1) (hb2 : 9 < t)
    (HA : Hid (∀ W : World, G W → Calls Tryz.prog 4 #[] W fun e w' => e = .returned (.bool true) ∧ Below W.heap.size W w'))
    (HSM : Hid (∀ W : World, Calls Tryz.prog 5 #[.agg #[.int .i64 t, .int .u64 d, .int .i64 0]] W fun e w' => e = .returned (.bool true) ∧ Below W.heap.size W w'))
    (HCO : Hid (∀ W : World, G W → T10 W → Calls Tryz.prog 6 #[.string key, .agg C.toArray] W fun e w' => e = .returned (.string c) ∧ Below W.heap.size W w'))
    (HRC : Hid (∀ W : World, Calls Tryz.prog 7 #[.string key, .agg C.toArray] W fun e w' => e = .returned (.string c) ∧ Below W.heap.size W w'))
    (HE : Hid (∀ W : World, Calls Tryz.prog 8 #[.agg #[.int .i64 t, .int .u64 d, .int .i64 0], .string c, .string c, .int .u64 n] W fun e w' => e = .returned (.tuple #[.agg #[.int .i64 X1, .int .u64 d, .int .i64 X2], .int .i64 X3]) ∧ Below W.heap.size W w'))
    (HF : Hid (∀ W : World, Calls Tryz.prog 9 #[.agg #[.int .i64 t, .int .u64 d, .int .i64 0], .string c, .string c, .int .u64 n] W fun e w' => e = .returned (.tuple #[.agg #[.int .i64 X1, .int .u64 d, .int .i64 X2], .int .i64 X3]) ∧ Below W.heap.size W w'))
    (HTK : Hid (∀ W : World, Calls Tryz.prog 10 #[.agg #[.int .i64 t, .int .u64 d, .int .i64 0], .int .u64 n] W fun e w' => e = .returned (.tuple #[.agg #[.int .i64 t, .int .u64 d, .int .i64 3], .bool true]) ∧ Below W.heap.size W w'))
    (HCA : Hid (∀ W : World, Calls Tryz.prog 11 #[.agg #[.int .i64 t, .int .u64 d, .int .i64 0], .int .u64 n] W fun e w' => e = .returned (.tuple #[.agg #[.int .i64 t, .int .u64 d, .int .i64 3], .bool true]) ∧ Below W.heap.size W w'))
    (HBE : Hid (∀ W : World, Calls Tryz.prog 12 #[.int .i64 t, .int .u64 n, .int .u64 k] W fun e w' => e = .returned (.tuple #[.agg #[.int .i64 0, .int .u64 0, .int .i64 0], .int .i64 7]) ∧ Below W.heap.size W w')) :
    Calls Tryz.prog 3 #[.agg #[.int .i64 t, .int .u64 d, .int .i64 0], .string key, .string said, .agg C.toArray, .int .u64 n, .int .u64 k, .bool true] w fun e w' => e = .returned (.bool true) ∧ Below w.heap.size w w' := by
  have hxl := fun ts T W => max2r (P := Tryz.prog) ts T key.size said.size W
  rw [hzm] at hxl
  have HQ1 := fun W => st_self X1 d X2 W
  have HQR := fun W => rst_self X1 d X2 W
  have HQ2 := fun W => st_self t d 3 W
  have HQ3 := fun W => st_self t d 3 W
  have HQ4 := fun W => st_selfN 0 0 0 W
  have rS : Row ((w.alloc (.cells ([.int .i64 t, .int .u64 d, .int .i64 0] : List Value).toArray 24)).alloc (.cells C.toArray 26)) w.heap.size 24 [.int .i64 t, .int .u64 d, .int .i64 0] := (Row.new w 24 [.int .i64 t, .int .u64 d, .int .i64 0]).alloc _
  have rI : Row ((w.alloc (.cells ([.int .i64 t, .int .u64 d, .int .i64 0] : List Value).toArray 24)).alloc (.cells C.toArray 26)) (w.heap.size + 1) 26 C := by
    have h := Row.new (w.alloc (.cells ([.int .i64 t, .int .u64 d, .int .i64 0] : List Value).toArray 24)) 26 C
    rwa [World.size_alloc] at h
  have b0 : Below w.heap.size w ((w.alloc (.cells ([.int .i64 t, .int .u64 d, .int .i64 0] : List Value).toArray 24)).alloc (.cells C.toArray 26)) := ((Below.refl _ _).alloc (Nat.le_refl _) _).alloc (by simp) _
  have hw0 : w.heap.size ≤ ((w.alloc (.cells ([.int .i64 t, .int .u64 d, .int .i64 0] : List Value).toArray 24)).alloc (.cells C.toArray 26)).heap.size := b0.size
  have hgS0 : w.heap.size < ((w.alloc (.cells ([.int .i64 t, .int .u64 d, .int .i64 0] : List Value).toArray 24)).alloc (.cells C.toArray 26)).heap.size := rS.lt
  have hgI0 : w.heap.size + 1 < ((w.alloc (.cells ([.int .i64 t, .int .u64 d, .int .i64 0] : List Value).toArray 24)).alloc (.cells C.toArray 26)).heap.size := rI.lt
  clear hzm
  go_enter Tryz.func3, Tryz.ntmps3
  go_wp2_with fail
  refine (HA.out _ (HG.out.below b0)).mono ?_
  rintro e y1 ⟨rfl, hb⟩
  have B1 := Lib.hid (b0.trans (hb.mono (by first | exact hw0 | (simp; omega) | omega)))
  have hz1 : w.heap.size ≤ y1.heap.size := B1.out.size
  have RS1 : Hid (Row y1 w.heap.size 24 [.int .i64 t, .int .u64 d, .int .i64 0]) := Lib.hid (rS.below hb (by first | exact hgS0 | (simp; omega) | omega))
  have hgS1 : w.heap.size < y1.heap.size := RS1.out.lt
  have RI1 : Hid (Row y1 (w.heap.size + 1) 26 C) := Lib.hid (rI.below hb (by first | exact hgI0 | (simp; omega) | omega))
  have hgI1 : (w.heap.size + 1) < y1.heap.size := RI1.out.lt
  clear hb
  have cS1_0 := RS1.out.cell 0
  have cS1_1 := RS1.out.cell 1
  have cS1_2 := RS1.out.cell 2
  simp only [List.getElem?_cons_zero, List.getElem?_cons_succ] at cS1_0 cS1_1 cS1_2
  go_wp2_with fail
  refine (HSM.out _).mono ?_
  rintro e y2 ⟨rfl, hb⟩
  have B2 := Lib.hid (B1.out.trans (hb.mono (by first | exact hz1 | (simp; omega) | omega)))
  have hz2 : w.heap.size ≤ y2.heap.size := B2.out.size
  have RS2 : Hid (Row y2 w.heap.size 24 [.int .i64 t, .int .u64 d, .int .i64 0]) := Lib.hid (RS1.out.below hb (by first | exact hgS1 | (simp; omega) | omega))
  have hgS2 : w.heap.size < y2.heap.size := RS2.out.lt
  have RI2 : Hid (Row y2 (w.heap.size + 1) 26 C) := Lib.hid (RI1.out.below hb (by first | exact hgI1 | (simp; omega) | omega))
  have hgI2 : (w.heap.size + 1) < y2.heap.size := RI2.out.lt
  clear hb
  have cS2_0 := RS2.out.cell 0
  have cS2_1 := RS2.out.cell 1
  have cS2_2 := RS2.out.cell 2
  simp only [List.getElem?_cons_zero, List.getElem?_cons_succ] at cS2_0 cS2_1 cS2_2
  go_wp2_with (first
      | (refine wpList_load_row rfl 26 (.tmp 10) rfl (w.heap.size + 1) rfl 26 C.toArray (0, 0) _ RI2.out Tryz.underlying26 rfl (by rw [List.size_toArray, hCl]; kernel_rfl) ?_)
      | fail)
  refine (HCO.out _ (HG.out.below B2.out) (HT10.out.below B2.out)).mono ?_
  rintro e y3 ⟨rfl, hb⟩
  have B3 := Lib.hid (B2.out.trans (hb.mono (by first | exact hz2 | (simp; omega) | omega)))
  have hz3 : w.heap.size ≤ y3.heap.size := B3.out.size
  have RS3 : Hid (Row y3 w.heap.size 24 [.int .i64 t, .int .u64 d, .int .i64 0]) := Lib.hid (RS2.out.below hb (by first | exact hgS2 | (simp; omega) | omega))
  have hgS3 : w.heap.size < y3.heap.size := RS3.out.lt
  have RI3 : Hid (Row y3 (w.heap.size + 1) 26 C) := Lib.hid (RI2.out.below hb (by first | exact hgI2 | (simp; omega) | omega))
  have hgI3 : (w.heap.size + 1) < y3.heap.size := RI3.out.lt
  clear hb
  have cS3_0 := RS3.out.cell 0
  have cS3_1 := RS3.out.cell 1
  have cS3_2 := RS3.out.cell 2
  simp only [List.getElem?_cons_zero, List.getElem?_cons_succ] at cS3_0 cS3_1 cS3_2
  go_wp2_with (first
      | (refine wpList_load_row rfl 26 (.tmp 10) rfl (w.heap.size + 1) rfl 26 C.toArray (0, 0) _ RI3.out Tryz.underlying26 rfl (by rw [List.size_toArray, hCl]; kernel_rfl) ?_)
      | fail)
  refine (HRC.out _).mono ?_
  rintro e y4 ⟨rfl, hb⟩
  have B4 := Lib.hid (B3.out.trans (hb.mono (by first | exact hz3 | (simp; omega) | omega)))
  have hz4 : w.heap.size ≤ y4.heap.size := B4.out.size
  have RS4 : Hid (Row y4 w.heap.size 24 [.int .i64 t, .int .u64 d, .int .i64 0]) := Lib.hid (RS3.out.below hb (by first | exact hgS3 | (simp; omega) | omega))
  have hgS4 : w.heap.size < y4.heap.size := RS4.out.lt
  have RI4 : Hid (Row y4 (w.heap.size + 1) 26 C) := Lib.hid (RI3.out.below hb (by first | exact hgI3 | (simp; omega) | omega))
  have hgI4 : (w.heap.size + 1) < y4.heap.size := RI4.out.lt
  clear hb
  have cS4_0 := RS4.out.cell 0
  have cS4_1 := RS4.out.cell 1
  have cS4_2 := RS4.out.cell 2
  simp only [List.getElem?_cons_zero, List.getElem?_cons_succ] at cS4_0 cS4_1 cS4_2
  go_wp2_with fail
  refine (HE.out _).mono ?_
  rintro e y5 ⟨rfl, hb⟩
  have B5 := Lib.hid (B4.out.trans (hb.mono (by first | exact hz4 | (simp; omega) | omega)))
  have hz5 : w.heap.size ≤ y5.heap.size := B5.out.size
  have RS5 : Hid (Row y5 w.heap.size 24 [.int .i64 t, .int .u64 d, .int .i64 0]) := Lib.hid (RS4.out.below hb (by first | exact hgS4 | (simp; omega) | omega))
  have hgS5 : w.heap.size < y5.heap.size := RS5.out.lt
  have RI5 : Hid (Row y5 (w.heap.size + 1) 26 C) := Lib.hid (RI4.out.below hb (by first | exact hgI4 | (simp; omega) | omega))
  have hgI5 : (w.heap.size + 1) < y5.heap.size := RI5.out.lt
  clear hb
  have cS5_0 := RS5.out.cell 0
  have cS5_1 := RS5.out.cell 1
  have cS5_2 := RS5.out.cell 2
  simp only [List.getElem?_cons_zero, List.getElem?_cons_succ] at cS5_0 cS5_1 cS5_2
  go_wp2_with fail
  refine (HF.out _).mono ?_
  rintro e y6 ⟨rfl, hb⟩
  have B6 := Lib.hid ((B5.out.alloc (by first | exact hz5 | (simp; omega) | omega) (.cells ([.int .i64 X1, .int .u64 d, .int .i64 X2] : List Value).toArray 24)).trans (hb.mono (by first | exact hz5 | (simp; omega) | omega)))
  have hz6 : w.heap.size ≤ y6.heap.size := B6.out.size
  have RS6 : Hid (Row y6 w.heap.size 24 [.int .i64 t, .int .u64 d, .int .i64 0]) := Lib.hid ((RS5.out.alloc _).below hb (by first | exact hgS5 | (simp; omega) | omega))
  have hgS6 : w.heap.size < y6.heap.size := RS6.out.lt
  have RI6 : Hid (Row y6 (w.heap.size + 1) 26 C) := Lib.hid ((RI5.out.alloc _).below hb (by first | exact hgI5 | (simp; omega) | omega))
  have hgI6 : (w.heap.size + 1) < y6.heap.size := RI6.out.lt
  have RX6 : Hid (Row y6 y5.heap.size 24 [.int .i64 X1, .int .u64 d, .int .i64 X2]) := Lib.hid (by
    have h := Row.new y5 24 [.int .i64 X1, .int .u64 d, .int .i64 X2]
    exact h.below hb (by first | (simp; omega) | simp | omega))
  have hgX6 : y5.heap.size < y6.heap.size := RX6.out.lt
  clear hb
  have cS6_0 := RS6.out.cell 0
  have cS6_1 := RS6.out.cell 1
  have cS6_2 := RS6.out.cell 2
  simp only [List.getElem?_cons_zero, List.getElem?_cons_succ] at cS6_0 cS6_1 cS6_2
  go_wp2_with fail
  refine (HTK.out _).mono ?_
  rintro e y7 ⟨rfl, hb⟩
  have B7 := Lib.hid ((B6.out.alloc (by first | exact hz6 | (simp; omega) | omega) (.cells ([.int .i64 X1, .int .u64 d, .int .i64 X2] : List Value).toArray 32)).trans (hb.mono (by first | exact hz6 | (simp; omega) | omega)))
  have hz7 : w.heap.size ≤ y7.heap.size := B7.out.size
  have RS7 : Hid (Row y7 w.heap.size 24 [.int .i64 t, .int .u64 d, .int .i64 0]) := Lib.hid ((RS6.out.alloc _).below hb (by first | exact hgS6 | (simp; omega) | omega))
  have hgS7 : w.heap.size < y7.heap.size := RS7.out.lt
  have RI7 : Hid (Row y7 (w.heap.size + 1) 26 C) := Lib.hid ((RI6.out.alloc _).below hb (by first | exact hgI6 | (simp; omega) | omega))
  have hgI7 : (w.heap.size + 1) < y7.heap.size := RI7.out.lt
  have RX7 : Hid (Row y7 y5.heap.size 24 [.int .i64 X1, .int .u64 d, .int .i64 X2]) := Lib.hid ((RX6.out.alloc _).below hb (by first | exact hgX6 | (simp; omega) | omega))
  have hgX7 : y5.heap.size < y7.heap.size := RX7.out.lt
  have RY7 : Hid (Row y7 y6.heap.size 32 [.int .i64 X1, .int .u64 d, .int .i64 X2]) := Lib.hid (by
    have h := Row.new y6 32 [.int .i64 X1, .int .u64 d, .int .i64 X2]
    exact h.below hb (by first | (simp; omega) | simp | omega))
  have hgY7 : y6.heap.size < y7.heap.size := RY7.out.lt
  clear hb
  have cS7_0 := RS7.out.cell 0
  have cS7_1 := RS7.out.cell 1
  have cS7_2 := RS7.out.cell 2
  simp only [List.getElem?_cons_zero, List.getElem?_cons_succ] at cS7_0 cS7_1 cS7_2
  go_wp2_with fail
  refine (HCA.out _).mono ?_
  rintro e y8 ⟨rfl, hb⟩
  have B8 := Lib.hid ((B7.out.alloc (by first | exact hz7 | (simp; omega) | omega) (.cells ([.int .i64 t, .int .u64 d, .int .i64 3] : List Value).toArray 24)).trans (hb.mono (by first | exact hz7 | (simp; omega) | omega)))
  have hz8 : w.heap.size ≤ y8.heap.size := B8.out.size
  have RS8 : Hid (Row y8 w.heap.size 24 [.int .i64 t, .int .u64 d, .int .i64 0]) := Lib.hid ((RS7.out.alloc _).below hb (by first | exact hgS7 | (simp; omega) | omega))
  have hgS8 : w.heap.size < y8.heap.size := RS8.out.lt
  have RI8 : Hid (Row y8 (w.heap.size + 1) 26 C) := Lib.hid ((RI7.out.alloc _).below hb (by first | exact hgI7 | (simp; omega) | omega))
  have hgI8 : (w.heap.size + 1) < y8.heap.size := RI8.out.lt
  have RX8 : Hid (Row y8 y5.heap.size 24 [.int .i64 X1, .int .u64 d, .int .i64 X2]) := Lib.hid ((RX7.out.alloc _).below hb (by first | exact hgX7 | (simp; omega) | omega))
  have hgX8 : y5.heap.size < y8.heap.size := RX8.out.lt
  have RY8 : Hid (Row y8 y6.heap.size 32 [.int .i64 X1, .int .u64 d, .int .i64 X2]) := Lib.hid ((RY7.out.alloc _).below hb (by first | exact hgY7 | (simp; omega) | omega))
  have hgY8 : y6.heap.size < y8.heap.size := RY8.out.lt
  have RA8 : Hid (Row y8 y7.heap.size 24 [.int .i64 t, .int .u64 d, .int .i64 3]) := Lib.hid (by
    have h := Row.new y7 24 [.int .i64 t, .int .u64 d, .int .i64 3]
    exact h.below hb (by first | (simp; omega) | simp | omega))
  have hgA8 : y7.heap.size < y8.heap.size := RA8.out.lt
  clear hb
  have cS8_0 := RS8.out.cell 0
  have cS8_1 := RS8.out.cell 1
  have cS8_2 := RS8.out.cell 2
  simp only [List.getElem?_cons_zero, List.getElem?_cons_succ] at cS8_0 cS8_1 cS8_2
  have hv1 : w.heap.size < y8.heap.size + 1 := by omega
  have hv2 : w.heap.size < y8.heap.size + 1 + 1 := by omega
  have hv3 : w.heap.size < y8.heap.size + 2 := by omega
  have hv4 : w.heap.size < y8.heap.size + 1 + 1 + 1 := by omega
  go_wp2_with fail
  refine (HBE.out _).mono ?_
  rintro e y9 ⟨rfl, hb⟩
  have B9 := Lib.hid ((((B8.out.alloc (by first | exact hz8 | (simp; omega) | omega) (.cells ([.int .i64 t, .int .u64 d, .int .i64 3] : List Value).toArray 24)).alloc (by first | exact hz8 | (simp; omega) | omega) (.cells ([.int .i64 t, .int .u64 d, .int .i64 3] : List Value).toArray 24)).alloc (by first | exact hz8 | (simp; omega) | omega) (.cells ([.int .i64 t, .int .u64 d, .int .i64 3] : List Value).toArray 24)).trans (hb.mono (by first | exact hz8 | (simp; omega) | omega)))
  have hz9 : w.heap.size ≤ y9.heap.size := B9.out.size
  have RS9 : Hid (Row y9 w.heap.size 24 [.int .i64 t, .int .u64 d, .int .i64 0]) := Lib.hid ((((RS8.out.alloc _).alloc _).alloc _).below hb (by first | exact hgS8 | (simp; omega) | omega))
  have hgS9 : w.heap.size < y9.heap.size := RS9.out.lt
  have RI9 : Hid (Row y9 (w.heap.size + 1) 26 C) := Lib.hid ((((RI8.out.alloc _).alloc _).alloc _).below hb (by first | exact hgI8 | (simp; omega) | omega))
  have hgI9 : (w.heap.size + 1) < y9.heap.size := RI9.out.lt
  have RX9 : Hid (Row y9 y5.heap.size 24 [.int .i64 X1, .int .u64 d, .int .i64 X2]) := Lib.hid ((((RX8.out.alloc _).alloc _).alloc _).below hb (by first | exact hgX8 | (simp; omega) | omega))
  have hgX9 : y5.heap.size < y9.heap.size := RX9.out.lt
  have RY9 : Hid (Row y9 y6.heap.size 32 [.int .i64 X1, .int .u64 d, .int .i64 X2]) := Lib.hid ((((RY8.out.alloc _).alloc _).alloc _).below hb (by first | exact hgY8 | (simp; omega) | omega))
  have hgY9 : y6.heap.size < y9.heap.size := RY9.out.lt
  have RA9 : Hid (Row y9 y7.heap.size 24 [.int .i64 t, .int .u64 d, .int .i64 3]) := Lib.hid ((((RA8.out.alloc _).alloc _).alloc _).below hb (by first | exact hgA8 | (simp; omega) | omega))
  have hgA9 : y7.heap.size < y9.heap.size := RA9.out.lt
  have RZ9 : Hid (Row y9 y8.heap.size 24 [.int .i64 t, .int .u64 d, .int .i64 3]) := Lib.hid (by
    have h := Row.new y8 24 [.int .i64 t, .int .u64 d, .int .i64 3]
    exact ((h.alloc (.cells ([.int .i64 t, .int .u64 d, .int .i64 3] : List Value).toArray 24)).alloc (.cells ([.int .i64 t, .int .u64 d, .int .i64 3] : List Value).toArray 24)).below hb (by first | (simp; omega) | simp | omega))
  have hgZ9 : y8.heap.size < y9.heap.size := RZ9.out.lt
  have RV9 : Hid (Row y9 (y8.heap.size + 1) 24 [.int .i64 t, .int .u64 d, .int .i64 3]) := Lib.hid (by
    have h := Row.new (y8.alloc (.cells ([.int .i64 t, .int .u64 d, .int .i64 3] : List Value).toArray 24)) 24 [.int .i64 t, .int .u64 d, .int .i64 3]
    simp only [World.size_alloc, Nat.add_assoc, Nat.reduceAdd] at h
    exact (h.alloc (.cells ([.int .i64 t, .int .u64 d, .int .i64 3] : List Value).toArray 24)).below hb (by first | (simp; omega) | simp | omega))
  have hgV9 : (y8.heap.size + 1) < y9.heap.size := RV9.out.lt
  have RU9 : Hid (Row y9 (y8.heap.size + 2) 24 [.int .i64 t, .int .u64 d, .int .i64 3]) := Lib.hid (by
    have h := Row.new ((y8.alloc (.cells ([.int .i64 t, .int .u64 d, .int .i64 3] : List Value).toArray 24)).alloc (.cells ([.int .i64 t, .int .u64 d, .int .i64 3] : List Value).toArray 24)) 24 [.int .i64 t, .int .u64 d, .int .i64 3]
    simp only [World.size_alloc, Nat.add_assoc, Nat.reduceAdd] at h
    exact h.below hb (by first | (simp; omega) | simp | omega))
  have hgU9 : (y8.heap.size + 2) < y9.heap.size := RU9.out.lt
  clear hb
  have cS9_0 := RS9.out.cell 0
  have cS9_1 := RS9.out.cell 1
  have cS9_2 := RS9.out.cell 2
  simp only [List.getElem?_cons_zero, List.getElem?_cons_succ] at cS9_0 cS9_1 cS9_2
  have cX9_0 := RX9.out.cell 0
  have cX9_1 := RX9.out.cell 1
  have cX9_2 := RX9.out.cell 2
  simp only [List.getElem?_cons_zero, List.getElem?_cons_succ] at cX9_0 cX9_1 cX9_2
  have cY9_0 := RY9.out.cell 0
  have cY9_1 := RY9.out.cell 1
  have cY9_2 := RY9.out.cell 2
  simp only [List.getElem?_cons_zero, List.getElem?_cons_succ] at cY9_0 cY9_1 cY9_2
  have cA9_0 := RA9.out.cell 0
  have cA9_1 := RA9.out.cell 1
  have cA9_2 := RA9.out.cell 2
  simp only [List.getElem?_cons_zero, List.getElem?_cons_succ] at cA9_0 cA9_1 cA9_2
  have cZ9_0 := RZ9.out.cell 0
  have cZ9_1 := RZ9.out.cell 1
  have cZ9_2 := RZ9.out.cell 2
  simp only [List.getElem?_cons_zero, List.getElem?_cons_succ] at cZ9_0 cZ9_1 cZ9_2
  have cV9_0 := RV9.out.cell 0
  have cV9_1 := RV9.out.cell 1
  have cV9_2 := RV9.out.cell 2
  simp only [List.getElem?_cons_zero, List.getElem?_cons_succ] at cV9_0 cV9_1 cV9_2
  have cU9_0 := RU9.out.cell 0
  have cU9_1 := RU9.out.cell 1
  have cU9_2 := RU9.out.cell 2
  simp only [List.getElem?_cons_zero, List.getElem?_cons_succ] at cU9_0 cU9_1 cU9_2
  go_wp2_with fail
  go_ret
  exact ⟨rfl, (B9.out.alloc hz9 (.cells ([.int .i64 0, .int .u64 0, .int .i64 0] : List Value).toArray 24))⟩

set_option maxRecDepth 100000 in
set_option maxHeartbeats 4000000 in
theorem steps_lateRok (t d n k X1 X2 X3 m : Int) (key said c : ByteArray) (C : List Value) (hCl : C.length = 16) (w : World) (zN : Nat) (hzm : max key.size said.size = zN) (hz200 : ¬ (200 : Int) < (zN : Int))
    (HG : Hid (G w)) (HT10 : Hid (T10 w)) (hl : d ≤ n) (hl2 : decide (d ≤ n) = true) (hb1 : ¬ t < 1) (hb2 : ¬ 9 < t)
    (HA : Hid (∀ W : World, G W → Calls Tryz.prog 4 #[] W fun e w' => e = .returned (.bool true) ∧ Below W.heap.size W w'))
    (HSM : Hid (∀ W : World, Calls Tryz.prog 5 #[.agg #[.int .i64 t, .int .u64 d, .int .i64 0]] W fun e w' => e = .returned (.bool true) ∧ Below W.heap.size W w'))
    (HCO : Hid (∀ W : World, G W → T10 W → Calls Tryz.prog 6 #[.string key, .agg C.toArray] W fun e w' => e = .returned (.string c) ∧ Below W.heap.size W w'))
    (HRC : Hid (∀ W : World, Calls Tryz.prog 7 #[.string key, .agg C.toArray] W fun e w' => e = .returned (.string c) ∧ Below W.heap.size W w'))
    (HE : Hid (∀ W : World, Calls Tryz.prog 8 #[.agg #[.int .i64 t, .int .u64 d, .int .i64 0], .string c, .string c, .int .u64 n] W fun e w' => e = .returned (.tuple #[.agg #[.int .i64 X1, .int .u64 d, .int .i64 X2], .int .i64 X3]) ∧ Below W.heap.size W w'))
    (HF : Hid (∀ W : World, Calls Tryz.prog 9 #[.agg #[.int .i64 t, .int .u64 d, .int .i64 0], .string c, .string c, .int .u64 n] W fun e w' => e = .returned (.tuple #[.agg #[.int .i64 X1, .int .u64 d, .int .i64 X2], .int .i64 X3]) ∧ Below W.heap.size W w'))
    (HTK : Hid (∀ W : World, Calls Tryz.prog 10 #[.agg #[.int .i64 t, .int .u64 d, .int .i64 0], .int .u64 n] W fun e w' => e = .returned (.tuple #[.agg #[.int .i64 t, .int .u64 d, .int .i64 3], .bool true]) ∧ Below W.heap.size W w'))
    (HCA : Hid (∀ W : World, Calls Tryz.prog 11 #[.agg #[.int .i64 t, .int .u64 d, .int .i64 0], .int .u64 n] W fun e w' => e = .returned (.tuple #[.agg #[.int .i64 t, .int .u64 d, .int .i64 3], .bool true]) ∧ Below W.heap.size W w'))
    (HBE : Hid (∀ W : World, Calls Tryz.prog 12 #[.int .i64 t, .int .u64 n, .int .u64 k] W fun e w' => e = .returned (.tuple #[.agg #[.int .i64 t, .int .u64 m, .int .i64 0], .int .i64 0]) ∧ Below W.heap.size W w'))
    (HLA : Hid (∀ W : World, Calls Tryz.prog 13 #[.int .u64 n, .int .u64 k] W fun e w' => e = .returned (.int .u64 m) ∧ W = w')) :
    Calls Tryz.prog 3 #[.agg #[.int .i64 t, .int .u64 d, .int .i64 0], .string key, .string said, .agg C.toArray, .int .u64 n, .int .u64 k, .bool true] w fun e w' => e = .returned (.bool true) ∧ Below w.heap.size w w' := by
  have hxl := fun ts T W => max2r (P := Tryz.prog) ts T key.size said.size W
  rw [hzm] at hxl
  have HQ1 := fun W => st_self X1 d X2 W
  have HQR := fun W => rst_self X1 d X2 W
  have HQ2 := fun W => st_self t d 3 W
  have HQ3 := fun W => st_self t d 3 W
  have HQ4 := fun W => st_selfN t m 0 W
  have rS : Row ((w.alloc (.cells ([.int .i64 t, .int .u64 d, .int .i64 0] : List Value).toArray 24)).alloc (.cells C.toArray 26)) w.heap.size 24 [.int .i64 t, .int .u64 d, .int .i64 0] := (Row.new w 24 [.int .i64 t, .int .u64 d, .int .i64 0]).alloc _
  have rI : Row ((w.alloc (.cells ([.int .i64 t, .int .u64 d, .int .i64 0] : List Value).toArray 24)).alloc (.cells C.toArray 26)) (w.heap.size + 1) 26 C := by
    have h := Row.new (w.alloc (.cells ([.int .i64 t, .int .u64 d, .int .i64 0] : List Value).toArray 24)) 26 C
    rwa [World.size_alloc] at h
  have b0 : Below w.heap.size w ((w.alloc (.cells ([.int .i64 t, .int .u64 d, .int .i64 0] : List Value).toArray 24)).alloc (.cells C.toArray 26)) := ((Below.refl _ _).alloc (Nat.le_refl _) _).alloc (by simp) _
  have hw0 : w.heap.size ≤ ((w.alloc (.cells ([.int .i64 t, .int .u64 d, .int .i64 0] : List Value).toArray 24)).alloc (.cells C.toArray 26)).heap.size := b0.size
  have hgS0 : w.heap.size < ((w.alloc (.cells ([.int .i64 t, .int .u64 d, .int .i64 0] : List Value).toArray 24)).alloc (.cells C.toArray 26)).heap.size := rS.lt
  have hgI0 : w.heap.size + 1 < ((w.alloc (.cells ([.int .i64 t, .int .u64 d, .int .i64 0] : List Value).toArray 24)).alloc (.cells C.toArray 26)).heap.size := rI.lt
  clear hzm
  go_enter Tryz.func3, Tryz.ntmps3
  go_wp2_with fail
  refine (HA.out _ (HG.out.below b0)).mono ?_
  rintro e y1 ⟨rfl, hb⟩
  have B1 := Lib.hid (b0.trans (hb.mono (by first | exact hw0 | (simp; omega) | omega)))
  have hz1 : w.heap.size ≤ y1.heap.size := B1.out.size
  have RS1 : Hid (Row y1 w.heap.size 24 [.int .i64 t, .int .u64 d, .int .i64 0]) := Lib.hid (rS.below hb (by first | exact hgS0 | (simp; omega) | omega))
  have hgS1 : w.heap.size < y1.heap.size := RS1.out.lt
  have RI1 : Hid (Row y1 (w.heap.size + 1) 26 C) := Lib.hid (rI.below hb (by first | exact hgI0 | (simp; omega) | omega))
  have hgI1 : (w.heap.size + 1) < y1.heap.size := RI1.out.lt
  clear hb
  have cS1_0 := RS1.out.cell 0
  have cS1_1 := RS1.out.cell 1
  have cS1_2 := RS1.out.cell 2
  simp only [List.getElem?_cons_zero, List.getElem?_cons_succ] at cS1_0 cS1_1 cS1_2
  go_wp2_with fail
  refine (HSM.out _).mono ?_
  rintro e y2 ⟨rfl, hb⟩
  have B2 := Lib.hid (B1.out.trans (hb.mono (by first | exact hz1 | (simp; omega) | omega)))
  have hz2 : w.heap.size ≤ y2.heap.size := B2.out.size
  have RS2 : Hid (Row y2 w.heap.size 24 [.int .i64 t, .int .u64 d, .int .i64 0]) := Lib.hid (RS1.out.below hb (by first | exact hgS1 | (simp; omega) | omega))
  have hgS2 : w.heap.size < y2.heap.size := RS2.out.lt
  have RI2 : Hid (Row y2 (w.heap.size + 1) 26 C) := Lib.hid (RI1.out.below hb (by first | exact hgI1 | (simp; omega) | omega))
  have hgI2 : (w.heap.size + 1) < y2.heap.size := RI2.out.lt
  clear hb
  have cS2_0 := RS2.out.cell 0
  have cS2_1 := RS2.out.cell 1
  have cS2_2 := RS2.out.cell 2
  simp only [List.getElem?_cons_zero, List.getElem?_cons_succ] at cS2_0 cS2_1 cS2_2
  go_wp2_with (first
      | (refine wpList_load_row rfl 26 (.tmp 10) rfl (w.heap.size + 1) rfl 26 C.toArray (0, 0) _ RI2.out Tryz.underlying26 rfl (by rw [List.size_toArray, hCl]; kernel_rfl) ?_)
      | fail)
  refine (HCO.out _ (HG.out.below B2.out) (HT10.out.below B2.out)).mono ?_
  rintro e y3 ⟨rfl, hb⟩
  have B3 := Lib.hid (B2.out.trans (hb.mono (by first | exact hz2 | (simp; omega) | omega)))
  have hz3 : w.heap.size ≤ y3.heap.size := B3.out.size
  have RS3 : Hid (Row y3 w.heap.size 24 [.int .i64 t, .int .u64 d, .int .i64 0]) := Lib.hid (RS2.out.below hb (by first | exact hgS2 | (simp; omega) | omega))
  have hgS3 : w.heap.size < y3.heap.size := RS3.out.lt
  have RI3 : Hid (Row y3 (w.heap.size + 1) 26 C) := Lib.hid (RI2.out.below hb (by first | exact hgI2 | (simp; omega) | omega))
  have hgI3 : (w.heap.size + 1) < y3.heap.size := RI3.out.lt
  clear hb
  have cS3_0 := RS3.out.cell 0
  have cS3_1 := RS3.out.cell 1
  have cS3_2 := RS3.out.cell 2
  simp only [List.getElem?_cons_zero, List.getElem?_cons_succ] at cS3_0 cS3_1 cS3_2
  go_wp2_with (first
      | (refine wpList_load_row rfl 26 (.tmp 10) rfl (w.heap.size + 1) rfl 26 C.toArray (0, 0) _ RI3.out Tryz.underlying26 rfl (by rw [List.size_toArray, hCl]; kernel_rfl) ?_)
      | fail)
  refine (HRC.out _).mono ?_
  rintro e y4 ⟨rfl, hb⟩
  have B4 := Lib.hid (B3.out.trans (hb.mono (by first | exact hz3 | (simp; omega) | omega)))
  have hz4 : w.heap.size ≤ y4.heap.size := B4.out.size
  have RS4 : Hid (Row y4 w.heap.size 24 [.int .i64 t, .int .u64 d, .int .i64 0]) := Lib.hid (RS3.out.below hb (by first | exact hgS3 | (simp; omega) | omega))
  have hgS4 : w.heap.size < y4.heap.size := RS4.out.lt
  have RI4 : Hid (Row y4 (w.heap.size + 1) 26 C) := Lib.hid (RI3.out.below hb (by first | exact hgI3 | (simp; omega) | omega))
  have hgI4 : (w.heap.size + 1) < y4.heap.size := RI4.out.lt
  clear hb
  have cS4_0 := RS4.out.cell 0
  have cS4_1 := RS4.out.cell 1
  have cS4_2 := RS4.out.cell 2
  simp only [List.getElem?_cons_zero, List.getElem?_cons_succ] at cS4_0 cS4_1 cS4_2
  go_wp2_with fail
  refine (HE.out _).mono ?_
  rintro e y5 ⟨rfl, hb⟩
  have B5 := Lib.hid (B4.out.trans (hb.mono (by first | exact hz4 | (simp; omega) | omega)))
  have hz5 : w.heap.size ≤ y5.heap.size := B5.out.size
  have RS5 : Hid (Row y5 w.heap.size 24 [.int .i64 t, .int .u64 d, .int .i64 0]) := Lib.hid (RS4.out.below hb (by first | exact hgS4 | (simp; omega) | omega))
  have hgS5 : w.heap.size < y5.heap.size := RS5.out.lt
  have RI5 : Hid (Row y5 (w.heap.size + 1) 26 C) := Lib.hid (RI4.out.below hb (by first | exact hgI4 | (simp; omega) | omega))
  have hgI5 : (w.heap.size + 1) < y5.heap.size := RI5.out.lt
  clear hb
  have cS5_0 := RS5.out.cell 0
  have cS5_1 := RS5.out.cell 1
  have cS5_2 := RS5.out.cell 2
  simp only [List.getElem?_cons_zero, List.getElem?_cons_succ] at cS5_0 cS5_1 cS5_2
  go_wp2_with fail
  refine (HF.out _).mono ?_
  rintro e y6 ⟨rfl, hb⟩
  have B6 := Lib.hid ((B5.out.alloc (by first | exact hz5 | (simp; omega) | omega) (.cells ([.int .i64 X1, .int .u64 d, .int .i64 X2] : List Value).toArray 24)).trans (hb.mono (by first | exact hz5 | (simp; omega) | omega)))
  have hz6 : w.heap.size ≤ y6.heap.size := B6.out.size
  have RS6 : Hid (Row y6 w.heap.size 24 [.int .i64 t, .int .u64 d, .int .i64 0]) := Lib.hid ((RS5.out.alloc _).below hb (by first | exact hgS5 | (simp; omega) | omega))
  have hgS6 : w.heap.size < y6.heap.size := RS6.out.lt
  have RI6 : Hid (Row y6 (w.heap.size + 1) 26 C) := Lib.hid ((RI5.out.alloc _).below hb (by first | exact hgI5 | (simp; omega) | omega))
  have hgI6 : (w.heap.size + 1) < y6.heap.size := RI6.out.lt
  have RX6 : Hid (Row y6 y5.heap.size 24 [.int .i64 X1, .int .u64 d, .int .i64 X2]) := Lib.hid (by
    have h := Row.new y5 24 [.int .i64 X1, .int .u64 d, .int .i64 X2]
    exact h.below hb (by first | (simp; omega) | simp | omega))
  have hgX6 : y5.heap.size < y6.heap.size := RX6.out.lt
  clear hb
  have cS6_0 := RS6.out.cell 0
  have cS6_1 := RS6.out.cell 1
  have cS6_2 := RS6.out.cell 2
  simp only [List.getElem?_cons_zero, List.getElem?_cons_succ] at cS6_0 cS6_1 cS6_2
  go_wp2_with fail
  refine (HTK.out _).mono ?_
  rintro e y7 ⟨rfl, hb⟩
  have B7 := Lib.hid ((B6.out.alloc (by first | exact hz6 | (simp; omega) | omega) (.cells ([.int .i64 X1, .int .u64 d, .int .i64 X2] : List Value).toArray 32)).trans (hb.mono (by first | exact hz6 | (simp; omega) | omega)))
  have hz7 : w.heap.size ≤ y7.heap.size := B7.out.size
  have RS7 : Hid (Row y7 w.heap.size 24 [.int .i64 t, .int .u64 d, .int .i64 0]) := Lib.hid ((RS6.out.alloc _).below hb (by first | exact hgS6 | (simp; omega) | omega))
  have hgS7 : w.heap.size < y7.heap.size := RS7.out.lt
  have RI7 : Hid (Row y7 (w.heap.size + 1) 26 C) := Lib.hid ((RI6.out.alloc _).below hb (by first | exact hgI6 | (simp; omega) | omega))
  have hgI7 : (w.heap.size + 1) < y7.heap.size := RI7.out.lt
  have RX7 : Hid (Row y7 y5.heap.size 24 [.int .i64 X1, .int .u64 d, .int .i64 X2]) := Lib.hid ((RX6.out.alloc _).below hb (by first | exact hgX6 | (simp; omega) | omega))
  have hgX7 : y5.heap.size < y7.heap.size := RX7.out.lt
  have RY7 : Hid (Row y7 y6.heap.size 32 [.int .i64 X1, .int .u64 d, .int .i64 X2]) := Lib.hid (by
    have h := Row.new y6 32 [.int .i64 X1, .int .u64 d, .int .i64 X2]
    exact h.below hb (by first | (simp; omega) | simp | omega))
  have hgY7 : y6.heap.size < y7.heap.size := RY7.out.lt
  clear hb
  have cS7_0 := RS7.out.cell 0
  have cS7_1 := RS7.out.cell 1
  have cS7_2 := RS7.out.cell 2
  simp only [List.getElem?_cons_zero, List.getElem?_cons_succ] at cS7_0 cS7_1 cS7_2
  go_wp2_with fail
  refine (HCA.out _).mono ?_
  rintro e y8 ⟨rfl, hb⟩
  have B8 := Lib.hid ((B7.out.alloc (by first | exact hz7 | (simp; omega) | omega) (.cells ([.int .i64 t, .int .u64 d, .int .i64 3] : List Value).toArray 24)).trans (hb.mono (by first | exact hz7 | (simp; omega) | omega)))
  have hz8 : w.heap.size ≤ y8.heap.size := B8.out.size
  have RS8 : Hid (Row y8 w.heap.size 24 [.int .i64 t, .int .u64 d, .int .i64 0]) := Lib.hid ((RS7.out.alloc _).below hb (by first | exact hgS7 | (simp; omega) | omega))
  have hgS8 : w.heap.size < y8.heap.size := RS8.out.lt
  have RI8 : Hid (Row y8 (w.heap.size + 1) 26 C) := Lib.hid ((RI7.out.alloc _).below hb (by first | exact hgI7 | (simp; omega) | omega))
  have hgI8 : (w.heap.size + 1) < y8.heap.size := RI8.out.lt
  have RX8 : Hid (Row y8 y5.heap.size 24 [.int .i64 X1, .int .u64 d, .int .i64 X2]) := Lib.hid ((RX7.out.alloc _).below hb (by first | exact hgX7 | (simp; omega) | omega))
  have hgX8 : y5.heap.size < y8.heap.size := RX8.out.lt
  have RY8 : Hid (Row y8 y6.heap.size 32 [.int .i64 X1, .int .u64 d, .int .i64 X2]) := Lib.hid ((RY7.out.alloc _).below hb (by first | exact hgY7 | (simp; omega) | omega))
  have hgY8 : y6.heap.size < y8.heap.size := RY8.out.lt
  have RA8 : Hid (Row y8 y7.heap.size 24 [.int .i64 t, .int .u64 d, .int .i64 3]) := Lib.hid (by
    have h := Row.new y7 24 [.int .i64 t, .int .u64 d, .int .i64 3]
    exact h.below hb (by first | (simp; omega) | simp | omega))
  have hgA8 : y7.heap.size < y8.heap.size := RA8.out.lt
  clear hb
  have cS8_0 := RS8.out.cell 0
  have cS8_1 := RS8.out.cell 1
  have cS8_2 := RS8.out.cell 2
  simp only [List.getElem?_cons_zero, List.getElem?_cons_succ] at cS8_0 cS8_1 cS8_2
  have hv1 : w.heap.size < y8.heap.size + 1 := by omega
  have hv2 : w.heap.size < y8.heap.size + 1 + 1 := by omega
  have hv3 : w.heap.size < y8.heap.size + 2 := by omega
  have hv4 : w.heap.size < y8.heap.size + 1 + 1 + 1 := by omega
  go_wp2_with fail
  refine (HBE.out _).mono ?_
  rintro e y9 ⟨rfl, hb⟩
  have B9 := Lib.hid ((((B8.out.alloc (by first | exact hz8 | (simp; omega) | omega) (.cells ([.int .i64 t, .int .u64 d, .int .i64 3] : List Value).toArray 24)).alloc (by first | exact hz8 | (simp; omega) | omega) (.cells ([.int .i64 t, .int .u64 d, .int .i64 3] : List Value).toArray 24)).alloc (by first | exact hz8 | (simp; omega) | omega) (.cells ([.int .i64 t, .int .u64 d, .int .i64 3] : List Value).toArray 24)).trans (hb.mono (by first | exact hz8 | (simp; omega) | omega)))
  have hz9 : w.heap.size ≤ y9.heap.size := B9.out.size
  have RS9 : Hid (Row y9 w.heap.size 24 [.int .i64 t, .int .u64 d, .int .i64 0]) := Lib.hid ((((RS8.out.alloc _).alloc _).alloc _).below hb (by first | exact hgS8 | (simp; omega) | omega))
  have hgS9 : w.heap.size < y9.heap.size := RS9.out.lt
  have RI9 : Hid (Row y9 (w.heap.size + 1) 26 C) := Lib.hid ((((RI8.out.alloc _).alloc _).alloc _).below hb (by first | exact hgI8 | (simp; omega) | omega))
  have hgI9 : (w.heap.size + 1) < y9.heap.size := RI9.out.lt
  have RX9 : Hid (Row y9 y5.heap.size 24 [.int .i64 X1, .int .u64 d, .int .i64 X2]) := Lib.hid ((((RX8.out.alloc _).alloc _).alloc _).below hb (by first | exact hgX8 | (simp; omega) | omega))
  have hgX9 : y5.heap.size < y9.heap.size := RX9.out.lt
  have RY9 : Hid (Row y9 y6.heap.size 32 [.int .i64 X1, .int .u64 d, .int .i64 X2]) := Lib.hid ((((RY8.out.alloc _).alloc _).alloc _).below hb (by first | exact hgY8 | (simp; omega) | omega))
  have hgY9 : y6.heap.size < y9.heap.size := RY9.out.lt
  have RA9 : Hid (Row y9 y7.heap.size 24 [.int .i64 t, .int .u64 d, .int .i64 3]) := Lib.hid ((((RA8.out.alloc _).alloc _).alloc _).below hb (by first | exact hgA8 | (simp; omega) | omega))
  have hgA9 : y7.heap.size < y9.heap.size := RA9.out.lt
  have RZ9 : Hid (Row y9 y8.heap.size 24 [.int .i64 t, .int .u64 d, .int .i64 3]) := Lib.hid (by
    have h := Row.new y8 24 [.int .i64 t, .int .u64 d, .int .i64 3]
    exact ((h.alloc (.cells ([.int .i64 t, .int .u64 d, .int .i64 3] : List Value).toArray 24)).alloc (.cells ([.int .i64 t, .int .u64 d, .int .i64 3] : List Value).toArray 24)).below hb (by first | (simp; omega) | simp | omega))
  have hgZ9 : y8.heap.size < y9.heap.size := RZ9.out.lt
  have RV9 : Hid (Row y9 (y8.heap.size + 1) 24 [.int .i64 t, .int .u64 d, .int .i64 3]) := Lib.hid (by
    have h := Row.new (y8.alloc (.cells ([.int .i64 t, .int .u64 d, .int .i64 3] : List Value).toArray 24)) 24 [.int .i64 t, .int .u64 d, .int .i64 3]
    simp only [World.size_alloc, Nat.add_assoc, Nat.reduceAdd] at h
    exact (h.alloc (.cells ([.int .i64 t, .int .u64 d, .int .i64 3] : List Value).toArray 24)).below hb (by first | (simp; omega) | simp | omega))
  have hgV9 : (y8.heap.size + 1) < y9.heap.size := RV9.out.lt
  have RU9 : Hid (Row y9 (y8.heap.size + 2) 24 [.int .i64 t, .int .u64 d, .int .i64 3]) := Lib.hid (by
    have h := Row.new ((y8.alloc (.cells ([.int .i64 t, .int .u64 d, .int .i64 3] : List Value).toArray 24)).alloc (.cells ([.int .i64 t, .int .u64 d, .int .i64 3] : List Value).toArray 24)) 24 [.int .i64 t, .int .u64 d, .int .i64 3]
    simp only [World.size_alloc, Nat.add_assoc, Nat.reduceAdd] at h
    exact h.below hb (by first | (simp; omega) | simp | omega))
  have hgU9 : (y8.heap.size + 2) < y9.heap.size := RU9.out.lt
  clear hb
  have cS9_0 := RS9.out.cell 0
  have cS9_1 := RS9.out.cell 1
  have cS9_2 := RS9.out.cell 2
  simp only [List.getElem?_cons_zero, List.getElem?_cons_succ] at cS9_0 cS9_1 cS9_2
  have cX9_0 := RX9.out.cell 0
  have cX9_1 := RX9.out.cell 1
  have cX9_2 := RX9.out.cell 2
  simp only [List.getElem?_cons_zero, List.getElem?_cons_succ] at cX9_0 cX9_1 cX9_2
  have cY9_0 := RY9.out.cell 0
  have cY9_1 := RY9.out.cell 1
  have cY9_2 := RY9.out.cell 2
  simp only [List.getElem?_cons_zero, List.getElem?_cons_succ] at cY9_0 cY9_1 cY9_2
  have cA9_0 := RA9.out.cell 0
  have cA9_1 := RA9.out.cell 1
  have cA9_2 := RA9.out.cell 2
  simp only [List.getElem?_cons_zero, List.getElem?_cons_succ] at cA9_0 cA9_1 cA9_2
  have cZ9_0 := RZ9.out.cell 0
  have cZ9_1 := RZ9.out.cell 1
  have cZ9_2 := RZ9.out.cell 2
  simp only [List.getElem?_cons_zero, List.getElem?_cons_succ] at cZ9_0 cZ9_1 cZ9_2
  have cV9_0 := RV9.out.cell 0
  have cV9_1 := RV9.out.cell 1
  have cV9_2 := RV9.out.cell 2
  simp only [List.getElem?_cons_zero, List.getElem?_cons_succ] at cV9_0 cV9_1 cV9_2
  have cU9_0 := RU9.out.cell 0
  have cU9_1 := RU9.out.cell 1
  have cU9_2 := RU9.out.cell 2
  simp only [List.getElem?_cons_zero, List.getElem?_cons_succ] at cU9_0 cU9_1 cU9_2
  go_wp2_with fail
  go_quiet ((go_at_call 13; exact Calls.quiet_of_same ((HLA.out _).mono fun _ _ hh => ⟨hh.1, hh.2.symm⟩)))
  go_wp2_with fail
  go_ret
  exact ⟨rfl, below_drewN_o (B9.out.alloc hz9 (.cells ([.int .i64 t, .int .u64 m, .int .i64 0] : List Value).toArray 24)) _⟩

set_option maxRecDepth 100000 in
set_option maxHeartbeats 4000000 in
theorem steps_lateWlow (t d n k X1 X2 X3 m : Int) (key said c : ByteArray) (C : List Value) (hCl : C.length = 16) (w : World) (zN : Nat) (hzm : max key.size said.size = zN) (hz200 : ¬ (200 : Int) < (zN : Int))
    (HG : Hid (G w)) (HT10 : Hid (T10 w)) (hl : d ≤ n) (hl2 : decide (d ≤ n) = true) (hb1 : t < 1)
    (HA : Hid (∀ W : World, G W → Calls Tryz.prog 4 #[] W fun e w' => e = .returned (.bool true) ∧ Below W.heap.size W w'))
    (HSM : Hid (∀ W : World, Calls Tryz.prog 5 #[.agg #[.int .i64 t, .int .u64 d, .int .i64 0]] W fun e w' => e = .returned (.bool true) ∧ Below W.heap.size W w'))
    (HCO : Hid (∀ W : World, G W → T10 W → Calls Tryz.prog 6 #[.string key, .agg C.toArray] W fun e w' => e = .returned (.string c) ∧ Below W.heap.size W w'))
    (HRC : Hid (∀ W : World, Calls Tryz.prog 7 #[.string key, .agg C.toArray] W fun e w' => e = .returned (.string c) ∧ Below W.heap.size W w'))
    (HE : Hid (∀ W : World, Calls Tryz.prog 8 #[.agg #[.int .i64 t, .int .u64 d, .int .i64 0], .string c, .string said, .int .u64 n] W fun e w' => e = .returned (.tuple #[.agg #[.int .i64 X1, .int .u64 d, .int .i64 X2], .int .i64 X3]) ∧ Below W.heap.size W w'))
    (HF : Hid (∀ W : World, Calls Tryz.prog 9 #[.agg #[.int .i64 t, .int .u64 d, .int .i64 0], .string c, .string said, .int .u64 n] W fun e w' => e = .returned (.tuple #[.agg #[.int .i64 X1, .int .u64 d, .int .i64 X2], .int .i64 X3]) ∧ Below W.heap.size W w'))
    (HTK : Hid (∀ W : World, Calls Tryz.prog 10 #[.agg #[.int .i64 t, .int .u64 d, .int .i64 0], .int .u64 n] W fun e w' => e = .returned (.tuple #[.agg #[.int .i64 t, .int .u64 d, .int .i64 3], .bool true]) ∧ Below W.heap.size W w'))
    (HCA : Hid (∀ W : World, Calls Tryz.prog 11 #[.agg #[.int .i64 t, .int .u64 d, .int .i64 0], .int .u64 n] W fun e w' => e = .returned (.tuple #[.agg #[.int .i64 t, .int .u64 d, .int .i64 3], .bool true]) ∧ Below W.heap.size W w'))
    (HBE : Hid (∀ W : World, Calls Tryz.prog 12 #[.int .i64 t, .int .u64 n, .int .u64 k] W fun e w' => e = .returned (.tuple #[.agg #[.int .i64 0, .int .u64 0, .int .i64 0], .int .i64 7]) ∧ Below W.heap.size W w')) :
    Calls Tryz.prog 3 #[.agg #[.int .i64 t, .int .u64 d, .int .i64 0], .string key, .string said, .agg C.toArray, .int .u64 n, .int .u64 k, .bool false] w fun e w' => e = .returned (.bool true) ∧ Below w.heap.size w w' := by
  have hxl := fun ts T W => max2r (P := Tryz.prog) ts T key.size said.size W
  rw [hzm] at hxl
  have HQ1 := fun W => st_self X1 d X2 W
  have HQR := fun W => rst_self X1 d X2 W
  have HQ2 := fun W => st_self t d 3 W
  have HQ3 := fun W => st_self t d 3 W
  have HQ4 := fun W => st_selfN 0 0 0 W
  have rS : Row ((w.alloc (.cells ([.int .i64 t, .int .u64 d, .int .i64 0] : List Value).toArray 24)).alloc (.cells C.toArray 26)) w.heap.size 24 [.int .i64 t, .int .u64 d, .int .i64 0] := (Row.new w 24 [.int .i64 t, .int .u64 d, .int .i64 0]).alloc _
  have rI : Row ((w.alloc (.cells ([.int .i64 t, .int .u64 d, .int .i64 0] : List Value).toArray 24)).alloc (.cells C.toArray 26)) (w.heap.size + 1) 26 C := by
    have h := Row.new (w.alloc (.cells ([.int .i64 t, .int .u64 d, .int .i64 0] : List Value).toArray 24)) 26 C
    rwa [World.size_alloc] at h
  have b0 : Below w.heap.size w ((w.alloc (.cells ([.int .i64 t, .int .u64 d, .int .i64 0] : List Value).toArray 24)).alloc (.cells C.toArray 26)) := ((Below.refl _ _).alloc (Nat.le_refl _) _).alloc (by simp) _
  have hw0 : w.heap.size ≤ ((w.alloc (.cells ([.int .i64 t, .int .u64 d, .int .i64 0] : List Value).toArray 24)).alloc (.cells C.toArray 26)).heap.size := b0.size
  have hgS0 : w.heap.size < ((w.alloc (.cells ([.int .i64 t, .int .u64 d, .int .i64 0] : List Value).toArray 24)).alloc (.cells C.toArray 26)).heap.size := rS.lt
  have hgI0 : w.heap.size + 1 < ((w.alloc (.cells ([.int .i64 t, .int .u64 d, .int .i64 0] : List Value).toArray 24)).alloc (.cells C.toArray 26)).heap.size := rI.lt
  clear hzm
  go_enter Tryz.func3, Tryz.ntmps3
  go_wp2_with fail
  refine (HA.out _ (HG.out.below b0)).mono ?_
  rintro e y1 ⟨rfl, hb⟩
  have B1 := Lib.hid (b0.trans (hb.mono (by first | exact hw0 | (simp; omega) | omega)))
  have hz1 : w.heap.size ≤ y1.heap.size := B1.out.size
  have RS1 : Hid (Row y1 w.heap.size 24 [.int .i64 t, .int .u64 d, .int .i64 0]) := Lib.hid (rS.below hb (by first | exact hgS0 | (simp; omega) | omega))
  have hgS1 : w.heap.size < y1.heap.size := RS1.out.lt
  have RI1 : Hid (Row y1 (w.heap.size + 1) 26 C) := Lib.hid (rI.below hb (by first | exact hgI0 | (simp; omega) | omega))
  have hgI1 : (w.heap.size + 1) < y1.heap.size := RI1.out.lt
  clear hb
  have cS1_0 := RS1.out.cell 0
  have cS1_1 := RS1.out.cell 1
  have cS1_2 := RS1.out.cell 2
  simp only [List.getElem?_cons_zero, List.getElem?_cons_succ] at cS1_0 cS1_1 cS1_2
  go_wp2_with fail
  refine (HSM.out _).mono ?_
  rintro e y2 ⟨rfl, hb⟩
  have B2 := Lib.hid (B1.out.trans (hb.mono (by first | exact hz1 | (simp; omega) | omega)))
  have hz2 : w.heap.size ≤ y2.heap.size := B2.out.size
  have RS2 : Hid (Row y2 w.heap.size 24 [.int .i64 t, .int .u64 d, .int .i64 0]) := Lib.hid (RS1.out.below hb (by first | exact hgS1 | (simp; omega) | omega))
  have hgS2 : w.heap.size < y2.heap.size := RS2.out.lt
  have RI2 : Hid (Row y2 (w.heap.size + 1) 26 C) := Lib.hid (RI1.out.below hb (by first | exact hgI1 | (simp; omega) | omega))
  have hgI2 : (w.heap.size + 1) < y2.heap.size := RI2.out.lt
  clear hb
  have cS2_0 := RS2.out.cell 0
  have cS2_1 := RS2.out.cell 1
  have cS2_2 := RS2.out.cell 2
  simp only [List.getElem?_cons_zero, List.getElem?_cons_succ] at cS2_0 cS2_1 cS2_2
  go_wp2_with (first
      | (refine wpList_load_row rfl 26 (.tmp 10) rfl (w.heap.size + 1) rfl 26 C.toArray (0, 0) _ RI2.out Tryz.underlying26 rfl (by rw [List.size_toArray, hCl]; kernel_rfl) ?_)
      | fail)
  refine (HCO.out _ (HG.out.below B2.out) (HT10.out.below B2.out)).mono ?_
  rintro e y3 ⟨rfl, hb⟩
  have B3 := Lib.hid (B2.out.trans (hb.mono (by first | exact hz2 | (simp; omega) | omega)))
  have hz3 : w.heap.size ≤ y3.heap.size := B3.out.size
  have RS3 : Hid (Row y3 w.heap.size 24 [.int .i64 t, .int .u64 d, .int .i64 0]) := Lib.hid (RS2.out.below hb (by first | exact hgS2 | (simp; omega) | omega))
  have hgS3 : w.heap.size < y3.heap.size := RS3.out.lt
  have RI3 : Hid (Row y3 (w.heap.size + 1) 26 C) := Lib.hid (RI2.out.below hb (by first | exact hgI2 | (simp; omega) | omega))
  have hgI3 : (w.heap.size + 1) < y3.heap.size := RI3.out.lt
  clear hb
  have cS3_0 := RS3.out.cell 0
  have cS3_1 := RS3.out.cell 1
  have cS3_2 := RS3.out.cell 2
  simp only [List.getElem?_cons_zero, List.getElem?_cons_succ] at cS3_0 cS3_1 cS3_2
  go_wp2_with (first
      | (refine wpList_load_row rfl 26 (.tmp 10) rfl (w.heap.size + 1) rfl 26 C.toArray (0, 0) _ RI3.out Tryz.underlying26 rfl (by rw [List.size_toArray, hCl]; kernel_rfl) ?_)
      | fail)
  refine (HRC.out _).mono ?_
  rintro e y4 ⟨rfl, hb⟩
  have B4 := Lib.hid (B3.out.trans (hb.mono (by first | exact hz3 | (simp; omega) | omega)))
  have hz4 : w.heap.size ≤ y4.heap.size := B4.out.size
  have RS4 : Hid (Row y4 w.heap.size 24 [.int .i64 t, .int .u64 d, .int .i64 0]) := Lib.hid (RS3.out.below hb (by first | exact hgS3 | (simp; omega) | omega))
  have hgS4 : w.heap.size < y4.heap.size := RS4.out.lt
  have RI4 : Hid (Row y4 (w.heap.size + 1) 26 C) := Lib.hid (RI3.out.below hb (by first | exact hgI3 | (simp; omega) | omega))
  have hgI4 : (w.heap.size + 1) < y4.heap.size := RI4.out.lt
  clear hb
  have cS4_0 := RS4.out.cell 0
  have cS4_1 := RS4.out.cell 1
  have cS4_2 := RS4.out.cell 2
  simp only [List.getElem?_cons_zero, List.getElem?_cons_succ] at cS4_0 cS4_1 cS4_2
  go_wp2_with fail
  refine (HE.out _).mono ?_
  rintro e y5 ⟨rfl, hb⟩
  have B5 := Lib.hid (B4.out.trans (hb.mono (by first | exact hz4 | (simp; omega) | omega)))
  have hz5 : w.heap.size ≤ y5.heap.size := B5.out.size
  have RS5 : Hid (Row y5 w.heap.size 24 [.int .i64 t, .int .u64 d, .int .i64 0]) := Lib.hid (RS4.out.below hb (by first | exact hgS4 | (simp; omega) | omega))
  have hgS5 : w.heap.size < y5.heap.size := RS5.out.lt
  have RI5 : Hid (Row y5 (w.heap.size + 1) 26 C) := Lib.hid (RI4.out.below hb (by first | exact hgI4 | (simp; omega) | omega))
  have hgI5 : (w.heap.size + 1) < y5.heap.size := RI5.out.lt
  clear hb
  have cS5_0 := RS5.out.cell 0
  have cS5_1 := RS5.out.cell 1
  have cS5_2 := RS5.out.cell 2
  simp only [List.getElem?_cons_zero, List.getElem?_cons_succ] at cS5_0 cS5_1 cS5_2
  go_wp2_with fail
  refine (HF.out _).mono ?_
  rintro e y6 ⟨rfl, hb⟩
  have B6 := Lib.hid ((B5.out.alloc (by first | exact hz5 | (simp; omega) | omega) (.cells ([.int .i64 X1, .int .u64 d, .int .i64 X2] : List Value).toArray 24)).trans (hb.mono (by first | exact hz5 | (simp; omega) | omega)))
  have hz6 : w.heap.size ≤ y6.heap.size := B6.out.size
  have RS6 : Hid (Row y6 w.heap.size 24 [.int .i64 t, .int .u64 d, .int .i64 0]) := Lib.hid ((RS5.out.alloc _).below hb (by first | exact hgS5 | (simp; omega) | omega))
  have hgS6 : w.heap.size < y6.heap.size := RS6.out.lt
  have RI6 : Hid (Row y6 (w.heap.size + 1) 26 C) := Lib.hid ((RI5.out.alloc _).below hb (by first | exact hgI5 | (simp; omega) | omega))
  have hgI6 : (w.heap.size + 1) < y6.heap.size := RI6.out.lt
  have RX6 : Hid (Row y6 y5.heap.size 24 [.int .i64 X1, .int .u64 d, .int .i64 X2]) := Lib.hid (by
    have h := Row.new y5 24 [.int .i64 X1, .int .u64 d, .int .i64 X2]
    exact h.below hb (by first | (simp; omega) | simp | omega))
  have hgX6 : y5.heap.size < y6.heap.size := RX6.out.lt
  clear hb
  have cS6_0 := RS6.out.cell 0
  have cS6_1 := RS6.out.cell 1
  have cS6_2 := RS6.out.cell 2
  simp only [List.getElem?_cons_zero, List.getElem?_cons_succ] at cS6_0 cS6_1 cS6_2
  go_wp2_with fail
  refine (HTK.out _).mono ?_
  rintro e y7 ⟨rfl, hb⟩
  have B7 := Lib.hid ((B6.out.alloc (by first | exact hz6 | (simp; omega) | omega) (.cells ([.int .i64 X1, .int .u64 d, .int .i64 X2] : List Value).toArray 32)).trans (hb.mono (by first | exact hz6 | (simp; omega) | omega)))
  have hz7 : w.heap.size ≤ y7.heap.size := B7.out.size
  have RS7 : Hid (Row y7 w.heap.size 24 [.int .i64 t, .int .u64 d, .int .i64 0]) := Lib.hid ((RS6.out.alloc _).below hb (by first | exact hgS6 | (simp; omega) | omega))
  have hgS7 : w.heap.size < y7.heap.size := RS7.out.lt
  have RI7 : Hid (Row y7 (w.heap.size + 1) 26 C) := Lib.hid ((RI6.out.alloc _).below hb (by first | exact hgI6 | (simp; omega) | omega))
  have hgI7 : (w.heap.size + 1) < y7.heap.size := RI7.out.lt
  have RX7 : Hid (Row y7 y5.heap.size 24 [.int .i64 X1, .int .u64 d, .int .i64 X2]) := Lib.hid ((RX6.out.alloc _).below hb (by first | exact hgX6 | (simp; omega) | omega))
  have hgX7 : y5.heap.size < y7.heap.size := RX7.out.lt
  have RY7 : Hid (Row y7 y6.heap.size 32 [.int .i64 X1, .int .u64 d, .int .i64 X2]) := Lib.hid (by
    have h := Row.new y6 32 [.int .i64 X1, .int .u64 d, .int .i64 X2]
    exact h.below hb (by first | (simp; omega) | simp | omega))
  have hgY7 : y6.heap.size < y7.heap.size := RY7.out.lt
  clear hb
  have cS7_0 := RS7.out.cell 0
  have cS7_1 := RS7.out.cell 1
  have cS7_2 := RS7.out.cell 2
  simp only [List.getElem?_cons_zero, List.getElem?_cons_succ] at cS7_0 cS7_1 cS7_2
  go_wp2_with fail
  refine (HCA.out _).mono ?_
  rintro e y8 ⟨rfl, hb⟩
  have B8 := Lib.hid ((B7.out.alloc (by first | exact hz7 | (simp; omega) | omega) (.cells ([.int .i64 t, .int .u64 d, .int .i64 3] : List Value).toArray 24)).trans (hb.mono (by first | exact hz7 | (simp; omega) | omega)))
  have hz8 : w.heap.size ≤ y8.heap.size := B8.out.size
  have RS8 : Hid (Row y8 w.heap.size 24 [.int .i64 t, .int .u64 d, .int .i64 0]) := Lib.hid ((RS7.out.alloc _).below hb (by first | exact hgS7 | (simp; omega) | omega))
  have hgS8 : w.heap.size < y8.heap.size := RS8.out.lt
  have RI8 : Hid (Row y8 (w.heap.size + 1) 26 C) := Lib.hid ((RI7.out.alloc _).below hb (by first | exact hgI7 | (simp; omega) | omega))
  have hgI8 : (w.heap.size + 1) < y8.heap.size := RI8.out.lt
  have RX8 : Hid (Row y8 y5.heap.size 24 [.int .i64 X1, .int .u64 d, .int .i64 X2]) := Lib.hid ((RX7.out.alloc _).below hb (by first | exact hgX7 | (simp; omega) | omega))
  have hgX8 : y5.heap.size < y8.heap.size := RX8.out.lt
  have RY8 : Hid (Row y8 y6.heap.size 32 [.int .i64 X1, .int .u64 d, .int .i64 X2]) := Lib.hid ((RY7.out.alloc _).below hb (by first | exact hgY7 | (simp; omega) | omega))
  have hgY8 : y6.heap.size < y8.heap.size := RY8.out.lt
  have RA8 : Hid (Row y8 y7.heap.size 24 [.int .i64 t, .int .u64 d, .int .i64 3]) := Lib.hid (by
    have h := Row.new y7 24 [.int .i64 t, .int .u64 d, .int .i64 3]
    exact h.below hb (by first | (simp; omega) | simp | omega))
  have hgA8 : y7.heap.size < y8.heap.size := RA8.out.lt
  clear hb
  have cS8_0 := RS8.out.cell 0
  have cS8_1 := RS8.out.cell 1
  have cS8_2 := RS8.out.cell 2
  simp only [List.getElem?_cons_zero, List.getElem?_cons_succ] at cS8_0 cS8_1 cS8_2
  have hv1 : w.heap.size < y8.heap.size + 1 := by omega
  have hv2 : w.heap.size < y8.heap.size + 1 + 1 := by omega
  have hv3 : w.heap.size < y8.heap.size + 2 := by omega
  have hv4 : w.heap.size < y8.heap.size + 1 + 1 + 1 := by omega
  go_wp2_with fail
  refine (HBE.out _).mono ?_
  rintro e y9 ⟨rfl, hb⟩
  have B9 := Lib.hid ((((B8.out.alloc (by first | exact hz8 | (simp; omega) | omega) (.cells ([.int .i64 t, .int .u64 d, .int .i64 3] : List Value).toArray 24)).alloc (by first | exact hz8 | (simp; omega) | omega) (.cells ([.int .i64 t, .int .u64 d, .int .i64 3] : List Value).toArray 24)).alloc (by first | exact hz8 | (simp; omega) | omega) (.cells ([.int .i64 t, .int .u64 d, .int .i64 3] : List Value).toArray 24)).trans (hb.mono (by first | exact hz8 | (simp; omega) | omega)))
  have hz9 : w.heap.size ≤ y9.heap.size := B9.out.size
  have RS9 : Hid (Row y9 w.heap.size 24 [.int .i64 t, .int .u64 d, .int .i64 0]) := Lib.hid ((((RS8.out.alloc _).alloc _).alloc _).below hb (by first | exact hgS8 | (simp; omega) | omega))
  have hgS9 : w.heap.size < y9.heap.size := RS9.out.lt
  have RI9 : Hid (Row y9 (w.heap.size + 1) 26 C) := Lib.hid ((((RI8.out.alloc _).alloc _).alloc _).below hb (by first | exact hgI8 | (simp; omega) | omega))
  have hgI9 : (w.heap.size + 1) < y9.heap.size := RI9.out.lt
  have RX9 : Hid (Row y9 y5.heap.size 24 [.int .i64 X1, .int .u64 d, .int .i64 X2]) := Lib.hid ((((RX8.out.alloc _).alloc _).alloc _).below hb (by first | exact hgX8 | (simp; omega) | omega))
  have hgX9 : y5.heap.size < y9.heap.size := RX9.out.lt
  have RY9 : Hid (Row y9 y6.heap.size 32 [.int .i64 X1, .int .u64 d, .int .i64 X2]) := Lib.hid ((((RY8.out.alloc _).alloc _).alloc _).below hb (by first | exact hgY8 | (simp; omega) | omega))
  have hgY9 : y6.heap.size < y9.heap.size := RY9.out.lt
  have RA9 : Hid (Row y9 y7.heap.size 24 [.int .i64 t, .int .u64 d, .int .i64 3]) := Lib.hid ((((RA8.out.alloc _).alloc _).alloc _).below hb (by first | exact hgA8 | (simp; omega) | omega))
  have hgA9 : y7.heap.size < y9.heap.size := RA9.out.lt
  have RZ9 : Hid (Row y9 y8.heap.size 24 [.int .i64 t, .int .u64 d, .int .i64 3]) := Lib.hid (by
    have h := Row.new y8 24 [.int .i64 t, .int .u64 d, .int .i64 3]
    exact ((h.alloc (.cells ([.int .i64 t, .int .u64 d, .int .i64 3] : List Value).toArray 24)).alloc (.cells ([.int .i64 t, .int .u64 d, .int .i64 3] : List Value).toArray 24)).below hb (by first | (simp; omega) | simp | omega))
  have hgZ9 : y8.heap.size < y9.heap.size := RZ9.out.lt
  have RV9 : Hid (Row y9 (y8.heap.size + 1) 24 [.int .i64 t, .int .u64 d, .int .i64 3]) := Lib.hid (by
    have h := Row.new (y8.alloc (.cells ([.int .i64 t, .int .u64 d, .int .i64 3] : List Value).toArray 24)) 24 [.int .i64 t, .int .u64 d, .int .i64 3]
    simp only [World.size_alloc, Nat.add_assoc, Nat.reduceAdd] at h
    exact (h.alloc (.cells ([.int .i64 t, .int .u64 d, .int .i64 3] : List Value).toArray 24)).below hb (by first | (simp; omega) | simp | omega))
  have hgV9 : (y8.heap.size + 1) < y9.heap.size := RV9.out.lt
  have RU9 : Hid (Row y9 (y8.heap.size + 2) 24 [.int .i64 t, .int .u64 d, .int .i64 3]) := Lib.hid (by
    have h := Row.new ((y8.alloc (.cells ([.int .i64 t, .int .u64 d, .int .i64 3] : List Value).toArray 24)).alloc (.cells ([.int .i64 t, .int .u64 d, .int .i64 3] : List Value).toArray 24)) 24 [.int .i64 t, .int .u64 d, .int .i64 3]
    simp only [World.size_alloc, Nat.add_assoc, Nat.reduceAdd] at h
    exact h.below hb (by first | (simp; omega) | simp | omega))
  have hgU9 : (y8.heap.size + 2) < y9.heap.size := RU9.out.lt
  clear hb
  have cS9_0 := RS9.out.cell 0
  have cS9_1 := RS9.out.cell 1
  have cS9_2 := RS9.out.cell 2
  simp only [List.getElem?_cons_zero, List.getElem?_cons_succ] at cS9_0 cS9_1 cS9_2
  have cX9_0 := RX9.out.cell 0
  have cX9_1 := RX9.out.cell 1
  have cX9_2 := RX9.out.cell 2
  simp only [List.getElem?_cons_zero, List.getElem?_cons_succ] at cX9_0 cX9_1 cX9_2
  have cY9_0 := RY9.out.cell 0
  have cY9_1 := RY9.out.cell 1
  have cY9_2 := RY9.out.cell 2
  simp only [List.getElem?_cons_zero, List.getElem?_cons_succ] at cY9_0 cY9_1 cY9_2
  have cA9_0 := RA9.out.cell 0
  have cA9_1 := RA9.out.cell 1
  have cA9_2 := RA9.out.cell 2
  simp only [List.getElem?_cons_zero, List.getElem?_cons_succ] at cA9_0 cA9_1 cA9_2
  have cZ9_0 := RZ9.out.cell 0
  have cZ9_1 := RZ9.out.cell 1
  have cZ9_2 := RZ9.out.cell 2
  simp only [List.getElem?_cons_zero, List.getElem?_cons_succ] at cZ9_0 cZ9_1 cZ9_2
  have cV9_0 := RV9.out.cell 0
  have cV9_1 := RV9.out.cell 1
  have cV9_2 := RV9.out.cell 2
  simp only [List.getElem?_cons_zero, List.getElem?_cons_succ] at cV9_0 cV9_1 cV9_2
  have cU9_0 := RU9.out.cell 0
  have cU9_1 := RU9.out.cell 1
  have cU9_2 := RU9.out.cell 2
  simp only [List.getElem?_cons_zero, List.getElem?_cons_succ] at cU9_0 cU9_1 cU9_2
  go_wp2_with fail
  go_ret
  exact ⟨rfl, (B9.out.alloc hz9 (.cells ([.int .i64 0, .int .u64 0, .int .i64 0] : List Value).toArray 24))⟩

set_option maxRecDepth 100000 in
set_option maxHeartbeats 4000000 in
theorem steps_lateWhigh (t d n k X1 X2 X3 m : Int) (key said c : ByteArray) (C : List Value) (hCl : C.length = 16) (w : World) (zN : Nat) (hzm : max key.size said.size = zN) (hz200 : ¬ (200 : Int) < (zN : Int))
    (HG : Hid (G w)) (HT10 : Hid (T10 w)) (hl : d ≤ n) (hl2 : decide (d ≤ n) = true) (hb1 : ¬ t < 1) (hb2 : 9 < t)
    (HA : Hid (∀ W : World, G W → Calls Tryz.prog 4 #[] W fun e w' => e = .returned (.bool true) ∧ Below W.heap.size W w'))
    (HSM : Hid (∀ W : World, Calls Tryz.prog 5 #[.agg #[.int .i64 t, .int .u64 d, .int .i64 0]] W fun e w' => e = .returned (.bool true) ∧ Below W.heap.size W w'))
    (HCO : Hid (∀ W : World, G W → T10 W → Calls Tryz.prog 6 #[.string key, .agg C.toArray] W fun e w' => e = .returned (.string c) ∧ Below W.heap.size W w'))
    (HRC : Hid (∀ W : World, Calls Tryz.prog 7 #[.string key, .agg C.toArray] W fun e w' => e = .returned (.string c) ∧ Below W.heap.size W w'))
    (HE : Hid (∀ W : World, Calls Tryz.prog 8 #[.agg #[.int .i64 t, .int .u64 d, .int .i64 0], .string c, .string said, .int .u64 n] W fun e w' => e = .returned (.tuple #[.agg #[.int .i64 X1, .int .u64 d, .int .i64 X2], .int .i64 X3]) ∧ Below W.heap.size W w'))
    (HF : Hid (∀ W : World, Calls Tryz.prog 9 #[.agg #[.int .i64 t, .int .u64 d, .int .i64 0], .string c, .string said, .int .u64 n] W fun e w' => e = .returned (.tuple #[.agg #[.int .i64 X1, .int .u64 d, .int .i64 X2], .int .i64 X3]) ∧ Below W.heap.size W w'))
    (HTK : Hid (∀ W : World, Calls Tryz.prog 10 #[.agg #[.int .i64 t, .int .u64 d, .int .i64 0], .int .u64 n] W fun e w' => e = .returned (.tuple #[.agg #[.int .i64 t, .int .u64 d, .int .i64 3], .bool true]) ∧ Below W.heap.size W w'))
    (HCA : Hid (∀ W : World, Calls Tryz.prog 11 #[.agg #[.int .i64 t, .int .u64 d, .int .i64 0], .int .u64 n] W fun e w' => e = .returned (.tuple #[.agg #[.int .i64 t, .int .u64 d, .int .i64 3], .bool true]) ∧ Below W.heap.size W w'))
    (HBE : Hid (∀ W : World, Calls Tryz.prog 12 #[.int .i64 t, .int .u64 n, .int .u64 k] W fun e w' => e = .returned (.tuple #[.agg #[.int .i64 0, .int .u64 0, .int .i64 0], .int .i64 7]) ∧ Below W.heap.size W w')) :
    Calls Tryz.prog 3 #[.agg #[.int .i64 t, .int .u64 d, .int .i64 0], .string key, .string said, .agg C.toArray, .int .u64 n, .int .u64 k, .bool false] w fun e w' => e = .returned (.bool true) ∧ Below w.heap.size w w' := by
  have hxl := fun ts T W => max2r (P := Tryz.prog) ts T key.size said.size W
  rw [hzm] at hxl
  have HQ1 := fun W => st_self X1 d X2 W
  have HQR := fun W => rst_self X1 d X2 W
  have HQ2 := fun W => st_self t d 3 W
  have HQ3 := fun W => st_self t d 3 W
  have HQ4 := fun W => st_selfN 0 0 0 W
  have rS : Row ((w.alloc (.cells ([.int .i64 t, .int .u64 d, .int .i64 0] : List Value).toArray 24)).alloc (.cells C.toArray 26)) w.heap.size 24 [.int .i64 t, .int .u64 d, .int .i64 0] := (Row.new w 24 [.int .i64 t, .int .u64 d, .int .i64 0]).alloc _
  have rI : Row ((w.alloc (.cells ([.int .i64 t, .int .u64 d, .int .i64 0] : List Value).toArray 24)).alloc (.cells C.toArray 26)) (w.heap.size + 1) 26 C := by
    have h := Row.new (w.alloc (.cells ([.int .i64 t, .int .u64 d, .int .i64 0] : List Value).toArray 24)) 26 C
    rwa [World.size_alloc] at h
  have b0 : Below w.heap.size w ((w.alloc (.cells ([.int .i64 t, .int .u64 d, .int .i64 0] : List Value).toArray 24)).alloc (.cells C.toArray 26)) := ((Below.refl _ _).alloc (Nat.le_refl _) _).alloc (by simp) _
  have hw0 : w.heap.size ≤ ((w.alloc (.cells ([.int .i64 t, .int .u64 d, .int .i64 0] : List Value).toArray 24)).alloc (.cells C.toArray 26)).heap.size := b0.size
  have hgS0 : w.heap.size < ((w.alloc (.cells ([.int .i64 t, .int .u64 d, .int .i64 0] : List Value).toArray 24)).alloc (.cells C.toArray 26)).heap.size := rS.lt
  have hgI0 : w.heap.size + 1 < ((w.alloc (.cells ([.int .i64 t, .int .u64 d, .int .i64 0] : List Value).toArray 24)).alloc (.cells C.toArray 26)).heap.size := rI.lt
  clear hzm
  go_enter Tryz.func3, Tryz.ntmps3
  go_wp2_with fail
  refine (HA.out _ (HG.out.below b0)).mono ?_
  rintro e y1 ⟨rfl, hb⟩
  have B1 := Lib.hid (b0.trans (hb.mono (by first | exact hw0 | (simp; omega) | omega)))
  have hz1 : w.heap.size ≤ y1.heap.size := B1.out.size
  have RS1 : Hid (Row y1 w.heap.size 24 [.int .i64 t, .int .u64 d, .int .i64 0]) := Lib.hid (rS.below hb (by first | exact hgS0 | (simp; omega) | omega))
  have hgS1 : w.heap.size < y1.heap.size := RS1.out.lt
  have RI1 : Hid (Row y1 (w.heap.size + 1) 26 C) := Lib.hid (rI.below hb (by first | exact hgI0 | (simp; omega) | omega))
  have hgI1 : (w.heap.size + 1) < y1.heap.size := RI1.out.lt
  clear hb
  have cS1_0 := RS1.out.cell 0
  have cS1_1 := RS1.out.cell 1
  have cS1_2 := RS1.out.cell 2
  simp only [List.getElem?_cons_zero, List.getElem?_cons_succ] at cS1_0 cS1_1 cS1_2
  go_wp2_with fail
  refine (HSM.out _).mono ?_
  rintro e y2 ⟨rfl, hb⟩
  have B2 := Lib.hid (B1.out.trans (hb.mono (by first | exact hz1 | (simp; omega) | omega)))
  have hz2 : w.heap.size ≤ y2.heap.size := B2.out.size
  have RS2 : Hid (Row y2 w.heap.size 24 [.int .i64 t, .int .u64 d, .int .i64 0]) := Lib.hid (RS1.out.below hb (by first | exact hgS1 | (simp; omega) | omega))
  have hgS2 : w.heap.size < y2.heap.size := RS2.out.lt
  have RI2 : Hid (Row y2 (w.heap.size + 1) 26 C) := Lib.hid (RI1.out.below hb (by first | exact hgI1 | (simp; omega) | omega))
  have hgI2 : (w.heap.size + 1) < y2.heap.size := RI2.out.lt
  clear hb
  have cS2_0 := RS2.out.cell 0
  have cS2_1 := RS2.out.cell 1
  have cS2_2 := RS2.out.cell 2
  simp only [List.getElem?_cons_zero, List.getElem?_cons_succ] at cS2_0 cS2_1 cS2_2
  go_wp2_with (first
      | (refine wpList_load_row rfl 26 (.tmp 10) rfl (w.heap.size + 1) rfl 26 C.toArray (0, 0) _ RI2.out Tryz.underlying26 rfl (by rw [List.size_toArray, hCl]; kernel_rfl) ?_)
      | fail)
  refine (HCO.out _ (HG.out.below B2.out) (HT10.out.below B2.out)).mono ?_
  rintro e y3 ⟨rfl, hb⟩
  have B3 := Lib.hid (B2.out.trans (hb.mono (by first | exact hz2 | (simp; omega) | omega)))
  have hz3 : w.heap.size ≤ y3.heap.size := B3.out.size
  have RS3 : Hid (Row y3 w.heap.size 24 [.int .i64 t, .int .u64 d, .int .i64 0]) := Lib.hid (RS2.out.below hb (by first | exact hgS2 | (simp; omega) | omega))
  have hgS3 : w.heap.size < y3.heap.size := RS3.out.lt
  have RI3 : Hid (Row y3 (w.heap.size + 1) 26 C) := Lib.hid (RI2.out.below hb (by first | exact hgI2 | (simp; omega) | omega))
  have hgI3 : (w.heap.size + 1) < y3.heap.size := RI3.out.lt
  clear hb
  have cS3_0 := RS3.out.cell 0
  have cS3_1 := RS3.out.cell 1
  have cS3_2 := RS3.out.cell 2
  simp only [List.getElem?_cons_zero, List.getElem?_cons_succ] at cS3_0 cS3_1 cS3_2
  go_wp2_with (first
      | (refine wpList_load_row rfl 26 (.tmp 10) rfl (w.heap.size + 1) rfl 26 C.toArray (0, 0) _ RI3.out Tryz.underlying26 rfl (by rw [List.size_toArray, hCl]; kernel_rfl) ?_)
      | fail)
  refine (HRC.out _).mono ?_
  rintro e y4 ⟨rfl, hb⟩
  have B4 := Lib.hid (B3.out.trans (hb.mono (by first | exact hz3 | (simp; omega) | omega)))
  have hz4 : w.heap.size ≤ y4.heap.size := B4.out.size
  have RS4 : Hid (Row y4 w.heap.size 24 [.int .i64 t, .int .u64 d, .int .i64 0]) := Lib.hid (RS3.out.below hb (by first | exact hgS3 | (simp; omega) | omega))
  have hgS4 : w.heap.size < y4.heap.size := RS4.out.lt
  have RI4 : Hid (Row y4 (w.heap.size + 1) 26 C) := Lib.hid (RI3.out.below hb (by first | exact hgI3 | (simp; omega) | omega))
  have hgI4 : (w.heap.size + 1) < y4.heap.size := RI4.out.lt
  clear hb
  have cS4_0 := RS4.out.cell 0
  have cS4_1 := RS4.out.cell 1
  have cS4_2 := RS4.out.cell 2
  simp only [List.getElem?_cons_zero, List.getElem?_cons_succ] at cS4_0 cS4_1 cS4_2
  go_wp2_with fail
  refine (HE.out _).mono ?_
  rintro e y5 ⟨rfl, hb⟩
  have B5 := Lib.hid (B4.out.trans (hb.mono (by first | exact hz4 | (simp; omega) | omega)))
  have hz5 : w.heap.size ≤ y5.heap.size := B5.out.size
  have RS5 : Hid (Row y5 w.heap.size 24 [.int .i64 t, .int .u64 d, .int .i64 0]) := Lib.hid (RS4.out.below hb (by first | exact hgS4 | (simp; omega) | omega))
  have hgS5 : w.heap.size < y5.heap.size := RS5.out.lt
  have RI5 : Hid (Row y5 (w.heap.size + 1) 26 C) := Lib.hid (RI4.out.below hb (by first | exact hgI4 | (simp; omega) | omega))
  have hgI5 : (w.heap.size + 1) < y5.heap.size := RI5.out.lt
  clear hb
  have cS5_0 := RS5.out.cell 0
  have cS5_1 := RS5.out.cell 1
  have cS5_2 := RS5.out.cell 2
  simp only [List.getElem?_cons_zero, List.getElem?_cons_succ] at cS5_0 cS5_1 cS5_2
  go_wp2_with fail
  refine (HF.out _).mono ?_
  rintro e y6 ⟨rfl, hb⟩
  have B6 := Lib.hid ((B5.out.alloc (by first | exact hz5 | (simp; omega) | omega) (.cells ([.int .i64 X1, .int .u64 d, .int .i64 X2] : List Value).toArray 24)).trans (hb.mono (by first | exact hz5 | (simp; omega) | omega)))
  have hz6 : w.heap.size ≤ y6.heap.size := B6.out.size
  have RS6 : Hid (Row y6 w.heap.size 24 [.int .i64 t, .int .u64 d, .int .i64 0]) := Lib.hid ((RS5.out.alloc _).below hb (by first | exact hgS5 | (simp; omega) | omega))
  have hgS6 : w.heap.size < y6.heap.size := RS6.out.lt
  have RI6 : Hid (Row y6 (w.heap.size + 1) 26 C) := Lib.hid ((RI5.out.alloc _).below hb (by first | exact hgI5 | (simp; omega) | omega))
  have hgI6 : (w.heap.size + 1) < y6.heap.size := RI6.out.lt
  have RX6 : Hid (Row y6 y5.heap.size 24 [.int .i64 X1, .int .u64 d, .int .i64 X2]) := Lib.hid (by
    have h := Row.new y5 24 [.int .i64 X1, .int .u64 d, .int .i64 X2]
    exact h.below hb (by first | (simp; omega) | simp | omega))
  have hgX6 : y5.heap.size < y6.heap.size := RX6.out.lt
  clear hb
  have cS6_0 := RS6.out.cell 0
  have cS6_1 := RS6.out.cell 1
  have cS6_2 := RS6.out.cell 2
  simp only [List.getElem?_cons_zero, List.getElem?_cons_succ] at cS6_0 cS6_1 cS6_2
  go_wp2_with fail
  refine (HTK.out _).mono ?_
  rintro e y7 ⟨rfl, hb⟩
  have B7 := Lib.hid ((B6.out.alloc (by first | exact hz6 | (simp; omega) | omega) (.cells ([.int .i64 X1, .int .u64 d, .int .i64 X2] : List Value).toArray 32)).trans (hb.mono (by first | exact hz6 | (simp; omega) | omega)))
  have hz7 : w.heap.size ≤ y7.heap.size := B7.out.size
  have RS7 : Hid (Row y7 w.heap.size 24 [.int .i64 t, .int .u64 d, .int .i64 0]) := Lib.hid ((RS6.out.alloc _).below hb (by first | exact hgS6 | (simp; omega) | omega))
  have hgS7 : w.heap.size < y7.heap.size := RS7.out.lt
  have RI7 : Hid (Row y7 (w.heap.size + 1) 26 C) := Lib.hid ((RI6.out.alloc _).below hb (by first | exact hgI6 | (simp; omega) | omega))
  have hgI7 : (w.heap.size + 1) < y7.heap.size := RI7.out.lt
  have RX7 : Hid (Row y7 y5.heap.size 24 [.int .i64 X1, .int .u64 d, .int .i64 X2]) := Lib.hid ((RX6.out.alloc _).below hb (by first | exact hgX6 | (simp; omega) | omega))
  have hgX7 : y5.heap.size < y7.heap.size := RX7.out.lt
  have RY7 : Hid (Row y7 y6.heap.size 32 [.int .i64 X1, .int .u64 d, .int .i64 X2]) := Lib.hid (by
    have h := Row.new y6 32 [.int .i64 X1, .int .u64 d, .int .i64 X2]
    exact h.below hb (by first | (simp; omega) | simp | omega))
  have hgY7 : y6.heap.size < y7.heap.size := RY7.out.lt
  clear hb
  have cS7_0 := RS7.out.cell 0
  have cS7_1 := RS7.out.cell 1
  have cS7_2 := RS7.out.cell 2
  simp only [List.getElem?_cons_zero, List.getElem?_cons_succ] at cS7_0 cS7_1 cS7_2
  go_wp2_with fail
  refine (HCA.out _).mono ?_
  rintro e y8 ⟨rfl, hb⟩
  have B8 := Lib.hid ((B7.out.alloc (by first | exact hz7 | (simp; omega) | omega) (.cells ([.int .i64 t, .int .u64 d, .int .i64 3] : List Value).toArray 24)).trans (hb.mono (by first | exact hz7 | (simp; omega) | omega)))
  have hz8 : w.heap.size ≤ y8.heap.size := B8.out.size
  have RS8 : Hid (Row y8 w.heap.size 24 [.int .i64 t, .int .u64 d, .int .i64 0]) := Lib.hid ((RS7.out.alloc _).below hb (by first | exact hgS7 | (simp; omega) | omega))
  have hgS8 : w.heap.size < y8.heap.size := RS8.out.lt
  have RI8 : Hid (Row y8 (w.heap.size + 1) 26 C) := Lib.hid ((RI7.out.alloc _).below hb (by first | exact hgI7 | (simp; omega) | omega))
  have hgI8 : (w.heap.size + 1) < y8.heap.size := RI8.out.lt
  have RX8 : Hid (Row y8 y5.heap.size 24 [.int .i64 X1, .int .u64 d, .int .i64 X2]) := Lib.hid ((RX7.out.alloc _).below hb (by first | exact hgX7 | (simp; omega) | omega))
  have hgX8 : y5.heap.size < y8.heap.size := RX8.out.lt
  have RY8 : Hid (Row y8 y6.heap.size 32 [.int .i64 X1, .int .u64 d, .int .i64 X2]) := Lib.hid ((RY7.out.alloc _).below hb (by first | exact hgY7 | (simp; omega) | omega))
  have hgY8 : y6.heap.size < y8.heap.size := RY8.out.lt
  have RA8 : Hid (Row y8 y7.heap.size 24 [.int .i64 t, .int .u64 d, .int .i64 3]) := Lib.hid (by
    have h := Row.new y7 24 [.int .i64 t, .int .u64 d, .int .i64 3]
    exact h.below hb (by first | (simp; omega) | simp | omega))
  have hgA8 : y7.heap.size < y8.heap.size := RA8.out.lt
  clear hb
  have cS8_0 := RS8.out.cell 0
  have cS8_1 := RS8.out.cell 1
  have cS8_2 := RS8.out.cell 2
  simp only [List.getElem?_cons_zero, List.getElem?_cons_succ] at cS8_0 cS8_1 cS8_2
  have hv1 : w.heap.size < y8.heap.size + 1 := by omega
  have hv2 : w.heap.size < y8.heap.size + 1 + 1 := by omega
  have hv3 : w.heap.size < y8.heap.size + 2 := by omega
  have hv4 : w.heap.size < y8.heap.size + 1 + 1 + 1 := by omega
  go_wp2_with fail
  refine (HBE.out _).mono ?_
  rintro e y9 ⟨rfl, hb⟩
  have B9 := Lib.hid ((((B8.out.alloc (by first | exact hz8 | (simp; omega) | omega) (.cells ([.int .i64 t, .int .u64 d, .int .i64 3] : List Value).toArray 24)).alloc (by first | exact hz8 | (simp; omega) | omega) (.cells ([.int .i64 t, .int .u64 d, .int .i64 3] : List Value).toArray 24)).alloc (by first | exact hz8 | (simp; omega) | omega) (.cells ([.int .i64 t, .int .u64 d, .int .i64 3] : List Value).toArray 24)).trans (hb.mono (by first | exact hz8 | (simp; omega) | omega)))
  have hz9 : w.heap.size ≤ y9.heap.size := B9.out.size
  have RS9 : Hid (Row y9 w.heap.size 24 [.int .i64 t, .int .u64 d, .int .i64 0]) := Lib.hid ((((RS8.out.alloc _).alloc _).alloc _).below hb (by first | exact hgS8 | (simp; omega) | omega))
  have hgS9 : w.heap.size < y9.heap.size := RS9.out.lt
  have RI9 : Hid (Row y9 (w.heap.size + 1) 26 C) := Lib.hid ((((RI8.out.alloc _).alloc _).alloc _).below hb (by first | exact hgI8 | (simp; omega) | omega))
  have hgI9 : (w.heap.size + 1) < y9.heap.size := RI9.out.lt
  have RX9 : Hid (Row y9 y5.heap.size 24 [.int .i64 X1, .int .u64 d, .int .i64 X2]) := Lib.hid ((((RX8.out.alloc _).alloc _).alloc _).below hb (by first | exact hgX8 | (simp; omega) | omega))
  have hgX9 : y5.heap.size < y9.heap.size := RX9.out.lt
  have RY9 : Hid (Row y9 y6.heap.size 32 [.int .i64 X1, .int .u64 d, .int .i64 X2]) := Lib.hid ((((RY8.out.alloc _).alloc _).alloc _).below hb (by first | exact hgY8 | (simp; omega) | omega))
  have hgY9 : y6.heap.size < y9.heap.size := RY9.out.lt
  have RA9 : Hid (Row y9 y7.heap.size 24 [.int .i64 t, .int .u64 d, .int .i64 3]) := Lib.hid ((((RA8.out.alloc _).alloc _).alloc _).below hb (by first | exact hgA8 | (simp; omega) | omega))
  have hgA9 : y7.heap.size < y9.heap.size := RA9.out.lt
  have RZ9 : Hid (Row y9 y8.heap.size 24 [.int .i64 t, .int .u64 d, .int .i64 3]) := Lib.hid (by
    have h := Row.new y8 24 [.int .i64 t, .int .u64 d, .int .i64 3]
    exact ((h.alloc (.cells ([.int .i64 t, .int .u64 d, .int .i64 3] : List Value).toArray 24)).alloc (.cells ([.int .i64 t, .int .u64 d, .int .i64 3] : List Value).toArray 24)).below hb (by first | (simp; omega) | simp | omega))
  have hgZ9 : y8.heap.size < y9.heap.size := RZ9.out.lt
  have RV9 : Hid (Row y9 (y8.heap.size + 1) 24 [.int .i64 t, .int .u64 d, .int .i64 3]) := Lib.hid (by
    have h := Row.new (y8.alloc (.cells ([.int .i64 t, .int .u64 d, .int .i64 3] : List Value).toArray 24)) 24 [.int .i64 t, .int .u64 d, .int .i64 3]
    simp only [World.size_alloc, Nat.add_assoc, Nat.reduceAdd] at h
    exact (h.alloc (.cells ([.int .i64 t, .int .u64 d, .int .i64 3] : List Value).toArray 24)).below hb (by first | (simp; omega) | simp | omega))
  have hgV9 : (y8.heap.size + 1) < y9.heap.size := RV9.out.lt
  have RU9 : Hid (Row y9 (y8.heap.size + 2) 24 [.int .i64 t, .int .u64 d, .int .i64 3]) := Lib.hid (by
    have h := Row.new ((y8.alloc (.cells ([.int .i64 t, .int .u64 d, .int .i64 3] : List Value).toArray 24)).alloc (.cells ([.int .i64 t, .int .u64 d, .int .i64 3] : List Value).toArray 24)) 24 [.int .i64 t, .int .u64 d, .int .i64 3]
    simp only [World.size_alloc, Nat.add_assoc, Nat.reduceAdd] at h
    exact h.below hb (by first | (simp; omega) | simp | omega))
  have hgU9 : (y8.heap.size + 2) < y9.heap.size := RU9.out.lt
  clear hb
  have cS9_0 := RS9.out.cell 0
  have cS9_1 := RS9.out.cell 1
  have cS9_2 := RS9.out.cell 2
  simp only [List.getElem?_cons_zero, List.getElem?_cons_succ] at cS9_0 cS9_1 cS9_2
  have cX9_0 := RX9.out.cell 0
  have cX9_1 := RX9.out.cell 1
  have cX9_2 := RX9.out.cell 2
  simp only [List.getElem?_cons_zero, List.getElem?_cons_succ] at cX9_0 cX9_1 cX9_2
  have cY9_0 := RY9.out.cell 0
  have cY9_1 := RY9.out.cell 1
  have cY9_2 := RY9.out.cell 2
  simp only [List.getElem?_cons_zero, List.getElem?_cons_succ] at cY9_0 cY9_1 cY9_2
  have cA9_0 := RA9.out.cell 0
  have cA9_1 := RA9.out.cell 1
  have cA9_2 := RA9.out.cell 2
  simp only [List.getElem?_cons_zero, List.getElem?_cons_succ] at cA9_0 cA9_1 cA9_2
  have cZ9_0 := RZ9.out.cell 0
  have cZ9_1 := RZ9.out.cell 1
  have cZ9_2 := RZ9.out.cell 2
  simp only [List.getElem?_cons_zero, List.getElem?_cons_succ] at cZ9_0 cZ9_1 cZ9_2
  have cV9_0 := RV9.out.cell 0
  have cV9_1 := RV9.out.cell 1
  have cV9_2 := RV9.out.cell 2
  simp only [List.getElem?_cons_zero, List.getElem?_cons_succ] at cV9_0 cV9_1 cV9_2
  have cU9_0 := RU9.out.cell 0
  have cU9_1 := RU9.out.cell 1
  have cU9_2 := RU9.out.cell 2
  simp only [List.getElem?_cons_zero, List.getElem?_cons_succ] at cU9_0 cU9_1 cU9_2
  go_wp2_with fail
  go_ret
  exact ⟨rfl, (B9.out.alloc hz9 (.cells ([.int .i64 0, .int .u64 0, .int .i64 0] : List Value).toArray 24))⟩

set_option maxRecDepth 100000 in
set_option maxHeartbeats 4000000 in
theorem steps_lateWok (t d n k X1 X2 X3 m : Int) (key said c : ByteArray) (C : List Value) (hCl : C.length = 16) (w : World) (zN : Nat) (hzm : max key.size said.size = zN) (hz200 : ¬ (200 : Int) < (zN : Int))
    (HG : Hid (G w)) (HT10 : Hid (T10 w)) (hl : d ≤ n) (hl2 : decide (d ≤ n) = true) (hb1 : ¬ t < 1) (hb2 : ¬ 9 < t)
    (HA : Hid (∀ W : World, G W → Calls Tryz.prog 4 #[] W fun e w' => e = .returned (.bool true) ∧ Below W.heap.size W w'))
    (HSM : Hid (∀ W : World, Calls Tryz.prog 5 #[.agg #[.int .i64 t, .int .u64 d, .int .i64 0]] W fun e w' => e = .returned (.bool true) ∧ Below W.heap.size W w'))
    (HCO : Hid (∀ W : World, G W → T10 W → Calls Tryz.prog 6 #[.string key, .agg C.toArray] W fun e w' => e = .returned (.string c) ∧ Below W.heap.size W w'))
    (HRC : Hid (∀ W : World, Calls Tryz.prog 7 #[.string key, .agg C.toArray] W fun e w' => e = .returned (.string c) ∧ Below W.heap.size W w'))
    (HE : Hid (∀ W : World, Calls Tryz.prog 8 #[.agg #[.int .i64 t, .int .u64 d, .int .i64 0], .string c, .string said, .int .u64 n] W fun e w' => e = .returned (.tuple #[.agg #[.int .i64 X1, .int .u64 d, .int .i64 X2], .int .i64 X3]) ∧ Below W.heap.size W w'))
    (HF : Hid (∀ W : World, Calls Tryz.prog 9 #[.agg #[.int .i64 t, .int .u64 d, .int .i64 0], .string c, .string said, .int .u64 n] W fun e w' => e = .returned (.tuple #[.agg #[.int .i64 X1, .int .u64 d, .int .i64 X2], .int .i64 X3]) ∧ Below W.heap.size W w'))
    (HTK : Hid (∀ W : World, Calls Tryz.prog 10 #[.agg #[.int .i64 t, .int .u64 d, .int .i64 0], .int .u64 n] W fun e w' => e = .returned (.tuple #[.agg #[.int .i64 t, .int .u64 d, .int .i64 3], .bool true]) ∧ Below W.heap.size W w'))
    (HCA : Hid (∀ W : World, Calls Tryz.prog 11 #[.agg #[.int .i64 t, .int .u64 d, .int .i64 0], .int .u64 n] W fun e w' => e = .returned (.tuple #[.agg #[.int .i64 t, .int .u64 d, .int .i64 3], .bool true]) ∧ Below W.heap.size W w'))
    (HBE : Hid (∀ W : World, Calls Tryz.prog 12 #[.int .i64 t, .int .u64 n, .int .u64 k] W fun e w' => e = .returned (.tuple #[.agg #[.int .i64 t, .int .u64 m, .int .i64 0], .int .i64 0]) ∧ Below W.heap.size W w'))
    (HLA : Hid (∀ W : World, Calls Tryz.prog 13 #[.int .u64 n, .int .u64 k] W fun e w' => e = .returned (.int .u64 m) ∧ W = w')) :
    Calls Tryz.prog 3 #[.agg #[.int .i64 t, .int .u64 d, .int .i64 0], .string key, .string said, .agg C.toArray, .int .u64 n, .int .u64 k, .bool false] w fun e w' => e = .returned (.bool true) ∧ Below w.heap.size w w' := by
  have hxl := fun ts T W => max2r (P := Tryz.prog) ts T key.size said.size W
  rw [hzm] at hxl
  have HQ1 := fun W => st_self X1 d X2 W
  have HQR := fun W => rst_self X1 d X2 W
  have HQ2 := fun W => st_self t d 3 W
  have HQ3 := fun W => st_self t d 3 W
  have HQ4 := fun W => st_selfN t m 0 W
  have rS : Row ((w.alloc (.cells ([.int .i64 t, .int .u64 d, .int .i64 0] : List Value).toArray 24)).alloc (.cells C.toArray 26)) w.heap.size 24 [.int .i64 t, .int .u64 d, .int .i64 0] := (Row.new w 24 [.int .i64 t, .int .u64 d, .int .i64 0]).alloc _
  have rI : Row ((w.alloc (.cells ([.int .i64 t, .int .u64 d, .int .i64 0] : List Value).toArray 24)).alloc (.cells C.toArray 26)) (w.heap.size + 1) 26 C := by
    have h := Row.new (w.alloc (.cells ([.int .i64 t, .int .u64 d, .int .i64 0] : List Value).toArray 24)) 26 C
    rwa [World.size_alloc] at h
  have b0 : Below w.heap.size w ((w.alloc (.cells ([.int .i64 t, .int .u64 d, .int .i64 0] : List Value).toArray 24)).alloc (.cells C.toArray 26)) := ((Below.refl _ _).alloc (Nat.le_refl _) _).alloc (by simp) _
  have hw0 : w.heap.size ≤ ((w.alloc (.cells ([.int .i64 t, .int .u64 d, .int .i64 0] : List Value).toArray 24)).alloc (.cells C.toArray 26)).heap.size := b0.size
  have hgS0 : w.heap.size < ((w.alloc (.cells ([.int .i64 t, .int .u64 d, .int .i64 0] : List Value).toArray 24)).alloc (.cells C.toArray 26)).heap.size := rS.lt
  have hgI0 : w.heap.size + 1 < ((w.alloc (.cells ([.int .i64 t, .int .u64 d, .int .i64 0] : List Value).toArray 24)).alloc (.cells C.toArray 26)).heap.size := rI.lt
  clear hzm
  go_enter Tryz.func3, Tryz.ntmps3
  go_wp2_with fail
  refine (HA.out _ (HG.out.below b0)).mono ?_
  rintro e y1 ⟨rfl, hb⟩
  have B1 := Lib.hid (b0.trans (hb.mono (by first | exact hw0 | (simp; omega) | omega)))
  have hz1 : w.heap.size ≤ y1.heap.size := B1.out.size
  have RS1 : Hid (Row y1 w.heap.size 24 [.int .i64 t, .int .u64 d, .int .i64 0]) := Lib.hid (rS.below hb (by first | exact hgS0 | (simp; omega) | omega))
  have hgS1 : w.heap.size < y1.heap.size := RS1.out.lt
  have RI1 : Hid (Row y1 (w.heap.size + 1) 26 C) := Lib.hid (rI.below hb (by first | exact hgI0 | (simp; omega) | omega))
  have hgI1 : (w.heap.size + 1) < y1.heap.size := RI1.out.lt
  clear hb
  have cS1_0 := RS1.out.cell 0
  have cS1_1 := RS1.out.cell 1
  have cS1_2 := RS1.out.cell 2
  simp only [List.getElem?_cons_zero, List.getElem?_cons_succ] at cS1_0 cS1_1 cS1_2
  go_wp2_with fail
  refine (HSM.out _).mono ?_
  rintro e y2 ⟨rfl, hb⟩
  have B2 := Lib.hid (B1.out.trans (hb.mono (by first | exact hz1 | (simp; omega) | omega)))
  have hz2 : w.heap.size ≤ y2.heap.size := B2.out.size
  have RS2 : Hid (Row y2 w.heap.size 24 [.int .i64 t, .int .u64 d, .int .i64 0]) := Lib.hid (RS1.out.below hb (by first | exact hgS1 | (simp; omega) | omega))
  have hgS2 : w.heap.size < y2.heap.size := RS2.out.lt
  have RI2 : Hid (Row y2 (w.heap.size + 1) 26 C) := Lib.hid (RI1.out.below hb (by first | exact hgI1 | (simp; omega) | omega))
  have hgI2 : (w.heap.size + 1) < y2.heap.size := RI2.out.lt
  clear hb
  have cS2_0 := RS2.out.cell 0
  have cS2_1 := RS2.out.cell 1
  have cS2_2 := RS2.out.cell 2
  simp only [List.getElem?_cons_zero, List.getElem?_cons_succ] at cS2_0 cS2_1 cS2_2
  go_wp2_with (first
      | (refine wpList_load_row rfl 26 (.tmp 10) rfl (w.heap.size + 1) rfl 26 C.toArray (0, 0) _ RI2.out Tryz.underlying26 rfl (by rw [List.size_toArray, hCl]; kernel_rfl) ?_)
      | fail)
  refine (HCO.out _ (HG.out.below B2.out) (HT10.out.below B2.out)).mono ?_
  rintro e y3 ⟨rfl, hb⟩
  have B3 := Lib.hid (B2.out.trans (hb.mono (by first | exact hz2 | (simp; omega) | omega)))
  have hz3 : w.heap.size ≤ y3.heap.size := B3.out.size
  have RS3 : Hid (Row y3 w.heap.size 24 [.int .i64 t, .int .u64 d, .int .i64 0]) := Lib.hid (RS2.out.below hb (by first | exact hgS2 | (simp; omega) | omega))
  have hgS3 : w.heap.size < y3.heap.size := RS3.out.lt
  have RI3 : Hid (Row y3 (w.heap.size + 1) 26 C) := Lib.hid (RI2.out.below hb (by first | exact hgI2 | (simp; omega) | omega))
  have hgI3 : (w.heap.size + 1) < y3.heap.size := RI3.out.lt
  clear hb
  have cS3_0 := RS3.out.cell 0
  have cS3_1 := RS3.out.cell 1
  have cS3_2 := RS3.out.cell 2
  simp only [List.getElem?_cons_zero, List.getElem?_cons_succ] at cS3_0 cS3_1 cS3_2
  go_wp2_with (first
      | (refine wpList_load_row rfl 26 (.tmp 10) rfl (w.heap.size + 1) rfl 26 C.toArray (0, 0) _ RI3.out Tryz.underlying26 rfl (by rw [List.size_toArray, hCl]; kernel_rfl) ?_)
      | fail)
  refine (HRC.out _).mono ?_
  rintro e y4 ⟨rfl, hb⟩
  have B4 := Lib.hid (B3.out.trans (hb.mono (by first | exact hz3 | (simp; omega) | omega)))
  have hz4 : w.heap.size ≤ y4.heap.size := B4.out.size
  have RS4 : Hid (Row y4 w.heap.size 24 [.int .i64 t, .int .u64 d, .int .i64 0]) := Lib.hid (RS3.out.below hb (by first | exact hgS3 | (simp; omega) | omega))
  have hgS4 : w.heap.size < y4.heap.size := RS4.out.lt
  have RI4 : Hid (Row y4 (w.heap.size + 1) 26 C) := Lib.hid (RI3.out.below hb (by first | exact hgI3 | (simp; omega) | omega))
  have hgI4 : (w.heap.size + 1) < y4.heap.size := RI4.out.lt
  clear hb
  have cS4_0 := RS4.out.cell 0
  have cS4_1 := RS4.out.cell 1
  have cS4_2 := RS4.out.cell 2
  simp only [List.getElem?_cons_zero, List.getElem?_cons_succ] at cS4_0 cS4_1 cS4_2
  go_wp2_with fail
  refine (HE.out _).mono ?_
  rintro e y5 ⟨rfl, hb⟩
  have B5 := Lib.hid (B4.out.trans (hb.mono (by first | exact hz4 | (simp; omega) | omega)))
  have hz5 : w.heap.size ≤ y5.heap.size := B5.out.size
  have RS5 : Hid (Row y5 w.heap.size 24 [.int .i64 t, .int .u64 d, .int .i64 0]) := Lib.hid (RS4.out.below hb (by first | exact hgS4 | (simp; omega) | omega))
  have hgS5 : w.heap.size < y5.heap.size := RS5.out.lt
  have RI5 : Hid (Row y5 (w.heap.size + 1) 26 C) := Lib.hid (RI4.out.below hb (by first | exact hgI4 | (simp; omega) | omega))
  have hgI5 : (w.heap.size + 1) < y5.heap.size := RI5.out.lt
  clear hb
  have cS5_0 := RS5.out.cell 0
  have cS5_1 := RS5.out.cell 1
  have cS5_2 := RS5.out.cell 2
  simp only [List.getElem?_cons_zero, List.getElem?_cons_succ] at cS5_0 cS5_1 cS5_2
  go_wp2_with fail
  refine (HF.out _).mono ?_
  rintro e y6 ⟨rfl, hb⟩
  have B6 := Lib.hid ((B5.out.alloc (by first | exact hz5 | (simp; omega) | omega) (.cells ([.int .i64 X1, .int .u64 d, .int .i64 X2] : List Value).toArray 24)).trans (hb.mono (by first | exact hz5 | (simp; omega) | omega)))
  have hz6 : w.heap.size ≤ y6.heap.size := B6.out.size
  have RS6 : Hid (Row y6 w.heap.size 24 [.int .i64 t, .int .u64 d, .int .i64 0]) := Lib.hid ((RS5.out.alloc _).below hb (by first | exact hgS5 | (simp; omega) | omega))
  have hgS6 : w.heap.size < y6.heap.size := RS6.out.lt
  have RI6 : Hid (Row y6 (w.heap.size + 1) 26 C) := Lib.hid ((RI5.out.alloc _).below hb (by first | exact hgI5 | (simp; omega) | omega))
  have hgI6 : (w.heap.size + 1) < y6.heap.size := RI6.out.lt
  have RX6 : Hid (Row y6 y5.heap.size 24 [.int .i64 X1, .int .u64 d, .int .i64 X2]) := Lib.hid (by
    have h := Row.new y5 24 [.int .i64 X1, .int .u64 d, .int .i64 X2]
    exact h.below hb (by first | (simp; omega) | simp | omega))
  have hgX6 : y5.heap.size < y6.heap.size := RX6.out.lt
  clear hb
  have cS6_0 := RS6.out.cell 0
  have cS6_1 := RS6.out.cell 1
  have cS6_2 := RS6.out.cell 2
  simp only [List.getElem?_cons_zero, List.getElem?_cons_succ] at cS6_0 cS6_1 cS6_2
  go_wp2_with fail
  refine (HTK.out _).mono ?_
  rintro e y7 ⟨rfl, hb⟩
  have B7 := Lib.hid ((B6.out.alloc (by first | exact hz6 | (simp; omega) | omega) (.cells ([.int .i64 X1, .int .u64 d, .int .i64 X2] : List Value).toArray 32)).trans (hb.mono (by first | exact hz6 | (simp; omega) | omega)))
  have hz7 : w.heap.size ≤ y7.heap.size := B7.out.size
  have RS7 : Hid (Row y7 w.heap.size 24 [.int .i64 t, .int .u64 d, .int .i64 0]) := Lib.hid ((RS6.out.alloc _).below hb (by first | exact hgS6 | (simp; omega) | omega))
  have hgS7 : w.heap.size < y7.heap.size := RS7.out.lt
  have RI7 : Hid (Row y7 (w.heap.size + 1) 26 C) := Lib.hid ((RI6.out.alloc _).below hb (by first | exact hgI6 | (simp; omega) | omega))
  have hgI7 : (w.heap.size + 1) < y7.heap.size := RI7.out.lt
  have RX7 : Hid (Row y7 y5.heap.size 24 [.int .i64 X1, .int .u64 d, .int .i64 X2]) := Lib.hid ((RX6.out.alloc _).below hb (by first | exact hgX6 | (simp; omega) | omega))
  have hgX7 : y5.heap.size < y7.heap.size := RX7.out.lt
  have RY7 : Hid (Row y7 y6.heap.size 32 [.int .i64 X1, .int .u64 d, .int .i64 X2]) := Lib.hid (by
    have h := Row.new y6 32 [.int .i64 X1, .int .u64 d, .int .i64 X2]
    exact h.below hb (by first | (simp; omega) | simp | omega))
  have hgY7 : y6.heap.size < y7.heap.size := RY7.out.lt
  clear hb
  have cS7_0 := RS7.out.cell 0
  have cS7_1 := RS7.out.cell 1
  have cS7_2 := RS7.out.cell 2
  simp only [List.getElem?_cons_zero, List.getElem?_cons_succ] at cS7_0 cS7_1 cS7_2
  go_wp2_with fail
  refine (HCA.out _).mono ?_
  rintro e y8 ⟨rfl, hb⟩
  have B8 := Lib.hid ((B7.out.alloc (by first | exact hz7 | (simp; omega) | omega) (.cells ([.int .i64 t, .int .u64 d, .int .i64 3] : List Value).toArray 24)).trans (hb.mono (by first | exact hz7 | (simp; omega) | omega)))
  have hz8 : w.heap.size ≤ y8.heap.size := B8.out.size
  have RS8 : Hid (Row y8 w.heap.size 24 [.int .i64 t, .int .u64 d, .int .i64 0]) := Lib.hid ((RS7.out.alloc _).below hb (by first | exact hgS7 | (simp; omega) | omega))
  have hgS8 : w.heap.size < y8.heap.size := RS8.out.lt
  have RI8 : Hid (Row y8 (w.heap.size + 1) 26 C) := Lib.hid ((RI7.out.alloc _).below hb (by first | exact hgI7 | (simp; omega) | omega))
  have hgI8 : (w.heap.size + 1) < y8.heap.size := RI8.out.lt
  have RX8 : Hid (Row y8 y5.heap.size 24 [.int .i64 X1, .int .u64 d, .int .i64 X2]) := Lib.hid ((RX7.out.alloc _).below hb (by first | exact hgX7 | (simp; omega) | omega))
  have hgX8 : y5.heap.size < y8.heap.size := RX8.out.lt
  have RY8 : Hid (Row y8 y6.heap.size 32 [.int .i64 X1, .int .u64 d, .int .i64 X2]) := Lib.hid ((RY7.out.alloc _).below hb (by first | exact hgY7 | (simp; omega) | omega))
  have hgY8 : y6.heap.size < y8.heap.size := RY8.out.lt
  have RA8 : Hid (Row y8 y7.heap.size 24 [.int .i64 t, .int .u64 d, .int .i64 3]) := Lib.hid (by
    have h := Row.new y7 24 [.int .i64 t, .int .u64 d, .int .i64 3]
    exact h.below hb (by first | (simp; omega) | simp | omega))
  have hgA8 : y7.heap.size < y8.heap.size := RA8.out.lt
  clear hb
  have cS8_0 := RS8.out.cell 0
  have cS8_1 := RS8.out.cell 1
  have cS8_2 := RS8.out.cell 2
  simp only [List.getElem?_cons_zero, List.getElem?_cons_succ] at cS8_0 cS8_1 cS8_2
  have hv1 : w.heap.size < y8.heap.size + 1 := by omega
  have hv2 : w.heap.size < y8.heap.size + 1 + 1 := by omega
  have hv3 : w.heap.size < y8.heap.size + 2 := by omega
  have hv4 : w.heap.size < y8.heap.size + 1 + 1 + 1 := by omega
  go_wp2_with fail
  refine (HBE.out _).mono ?_
  rintro e y9 ⟨rfl, hb⟩
  have B9 := Lib.hid ((((B8.out.alloc (by first | exact hz8 | (simp; omega) | omega) (.cells ([.int .i64 t, .int .u64 d, .int .i64 3] : List Value).toArray 24)).alloc (by first | exact hz8 | (simp; omega) | omega) (.cells ([.int .i64 t, .int .u64 d, .int .i64 3] : List Value).toArray 24)).alloc (by first | exact hz8 | (simp; omega) | omega) (.cells ([.int .i64 t, .int .u64 d, .int .i64 3] : List Value).toArray 24)).trans (hb.mono (by first | exact hz8 | (simp; omega) | omega)))
  have hz9 : w.heap.size ≤ y9.heap.size := B9.out.size
  have RS9 : Hid (Row y9 w.heap.size 24 [.int .i64 t, .int .u64 d, .int .i64 0]) := Lib.hid ((((RS8.out.alloc _).alloc _).alloc _).below hb (by first | exact hgS8 | (simp; omega) | omega))
  have hgS9 : w.heap.size < y9.heap.size := RS9.out.lt
  have RI9 : Hid (Row y9 (w.heap.size + 1) 26 C) := Lib.hid ((((RI8.out.alloc _).alloc _).alloc _).below hb (by first | exact hgI8 | (simp; omega) | omega))
  have hgI9 : (w.heap.size + 1) < y9.heap.size := RI9.out.lt
  have RX9 : Hid (Row y9 y5.heap.size 24 [.int .i64 X1, .int .u64 d, .int .i64 X2]) := Lib.hid ((((RX8.out.alloc _).alloc _).alloc _).below hb (by first | exact hgX8 | (simp; omega) | omega))
  have hgX9 : y5.heap.size < y9.heap.size := RX9.out.lt
  have RY9 : Hid (Row y9 y6.heap.size 32 [.int .i64 X1, .int .u64 d, .int .i64 X2]) := Lib.hid ((((RY8.out.alloc _).alloc _).alloc _).below hb (by first | exact hgY8 | (simp; omega) | omega))
  have hgY9 : y6.heap.size < y9.heap.size := RY9.out.lt
  have RA9 : Hid (Row y9 y7.heap.size 24 [.int .i64 t, .int .u64 d, .int .i64 3]) := Lib.hid ((((RA8.out.alloc _).alloc _).alloc _).below hb (by first | exact hgA8 | (simp; omega) | omega))
  have hgA9 : y7.heap.size < y9.heap.size := RA9.out.lt
  have RZ9 : Hid (Row y9 y8.heap.size 24 [.int .i64 t, .int .u64 d, .int .i64 3]) := Lib.hid (by
    have h := Row.new y8 24 [.int .i64 t, .int .u64 d, .int .i64 3]
    exact ((h.alloc (.cells ([.int .i64 t, .int .u64 d, .int .i64 3] : List Value).toArray 24)).alloc (.cells ([.int .i64 t, .int .u64 d, .int .i64 3] : List Value).toArray 24)).below hb (by first | (simp; omega) | simp | omega))
  have hgZ9 : y8.heap.size < y9.heap.size := RZ9.out.lt
  have RV9 : Hid (Row y9 (y8.heap.size + 1) 24 [.int .i64 t, .int .u64 d, .int .i64 3]) := Lib.hid (by
    have h := Row.new (y8.alloc (.cells ([.int .i64 t, .int .u64 d, .int .i64 3] : List Value).toArray 24)) 24 [.int .i64 t, .int .u64 d, .int .i64 3]
    simp only [World.size_alloc, Nat.add_assoc, Nat.reduceAdd] at h
    exact (h.alloc (.cells ([.int .i64 t, .int .u64 d, .int .i64 3] : List Value).toArray 24)).below hb (by first | (simp; omega) | simp | omega))
  have hgV9 : (y8.heap.size + 1) < y9.heap.size := RV9.out.lt
  have RU9 : Hid (Row y9 (y8.heap.size + 2) 24 [.int .i64 t, .int .u64 d, .int .i64 3]) := Lib.hid (by
    have h := Row.new ((y8.alloc (.cells ([.int .i64 t, .int .u64 d, .int .i64 3] : List Value).toArray 24)).alloc (.cells ([.int .i64 t, .int .u64 d, .int .i64 3] : List Value).toArray 24)) 24 [.int .i64 t, .int .u64 d, .int .i64 3]
    simp only [World.size_alloc, Nat.add_assoc, Nat.reduceAdd] at h
    exact h.below hb (by first | (simp; omega) | simp | omega))
  have hgU9 : (y8.heap.size + 2) < y9.heap.size := RU9.out.lt
  clear hb
  have cS9_0 := RS9.out.cell 0
  have cS9_1 := RS9.out.cell 1
  have cS9_2 := RS9.out.cell 2
  simp only [List.getElem?_cons_zero, List.getElem?_cons_succ] at cS9_0 cS9_1 cS9_2
  have cX9_0 := RX9.out.cell 0
  have cX9_1 := RX9.out.cell 1
  have cX9_2 := RX9.out.cell 2
  simp only [List.getElem?_cons_zero, List.getElem?_cons_succ] at cX9_0 cX9_1 cX9_2
  have cY9_0 := RY9.out.cell 0
  have cY9_1 := RY9.out.cell 1
  have cY9_2 := RY9.out.cell 2
  simp only [List.getElem?_cons_zero, List.getElem?_cons_succ] at cY9_0 cY9_1 cY9_2
  have cA9_0 := RA9.out.cell 0
  have cA9_1 := RA9.out.cell 1
  have cA9_2 := RA9.out.cell 2
  simp only [List.getElem?_cons_zero, List.getElem?_cons_succ] at cA9_0 cA9_1 cA9_2
  have cZ9_0 := RZ9.out.cell 0
  have cZ9_1 := RZ9.out.cell 1
  have cZ9_2 := RZ9.out.cell 2
  simp only [List.getElem?_cons_zero, List.getElem?_cons_succ] at cZ9_0 cZ9_1 cZ9_2
  have cV9_0 := RV9.out.cell 0
  have cV9_1 := RV9.out.cell 1
  have cV9_2 := RV9.out.cell 2
  simp only [List.getElem?_cons_zero, List.getElem?_cons_succ] at cV9_0 cV9_1 cV9_2
  have cU9_0 := RU9.out.cell 0
  have cU9_1 := RU9.out.cell 1
  have cU9_2 := RU9.out.cell 2
  simp only [List.getElem?_cons_zero, List.getElem?_cons_succ] at cU9_0 cU9_1 cU9_2
  go_wp2_with fail
  go_quiet ((go_at_call 13; exact Calls.quiet_of_same ((HLA.out _).mono fun _ _ hh => ⟨hh.1, hh.2.symm⟩)))
  go_wp2_with fail
  go_ret
  exact ⟨rfl, below_drewN_o (B9.out.alloc hz9 (.cells ([.int .i64 t, .int .u64 m, .int .i64 0] : List Value).toArray 24)) _⟩
end Go.Proofs.YtlmbijhkpgolaaaGreatDoor

namespace Go.Proofs.YtlmbijhkpgolaaaGreatDoor
open Go.RowKit
set_option linter.unusedVariables false
set_option linter.unusedSimpArgs false

set_option maxRecDepth 100000 in
set_option maxHeartbeats 4000000 in
theorem steps_timeRlow (t d n k X1 X2 X3 m : Int) (key said c : ByteArray) (C : List Value) (hCl : C.length = 16) (w : World) (zN : Nat) (hzm : max key.size said.size = zN) (hz200 : ¬ (200 : Int) < (zN : Int))
    (HG : Hid (G w)) (HT10 : Hid (T10 w)) (hl : n < d) (hl' : ¬ d ≤ n) (hl2 : decide (d ≤ n) = false) (hb1 : t < 1)
    (HA : Hid (∀ W : World, G W → Calls Tryz.prog 4 #[] W fun e w' => e = .returned (.bool true) ∧ Below W.heap.size W w'))
    (HSM : Hid (∀ W : World, Calls Tryz.prog 5 #[.agg #[.int .i64 t, .int .u64 d, .int .i64 0]] W fun e w' => e = .returned (.bool true) ∧ Below W.heap.size W w'))
    (HCO : Hid (∀ W : World, G W → T10 W → Calls Tryz.prog 6 #[.string key, .agg C.toArray] W fun e w' => e = .returned (.string c) ∧ Below W.heap.size W w'))
    (HRC : Hid (∀ W : World, Calls Tryz.prog 7 #[.string key, .agg C.toArray] W fun e w' => e = .returned (.string c) ∧ Below W.heap.size W w'))
    (HE : Hid (∀ W : World, Calls Tryz.prog 8 #[.agg #[.int .i64 t, .int .u64 d, .int .i64 0], .string c, .string c, .int .u64 n] W fun e w' => e = .returned (.tuple #[.agg #[.int .i64 X1, .int .u64 d, .int .i64 X2], .int .i64 X3]) ∧ Below W.heap.size W w'))
    (HF : Hid (∀ W : World, Calls Tryz.prog 9 #[.agg #[.int .i64 t, .int .u64 d, .int .i64 0], .string c, .string c, .int .u64 n] W fun e w' => e = .returned (.tuple #[.agg #[.int .i64 X1, .int .u64 d, .int .i64 X2], .int .i64 X3]) ∧ Below W.heap.size W w'))
    (HTK : Hid (∀ W : World, Calls Tryz.prog 10 #[.agg #[.int .i64 t, .int .u64 d, .int .i64 0], .int .u64 n] W fun e w' => e = .returned (.tuple #[.agg #[.int .i64 t, .int .u64 d, .int .i64 0], .bool false]) ∧ Below W.heap.size W w'))
    (HCA : Hid (∀ W : World, Calls Tryz.prog 11 #[.agg #[.int .i64 t, .int .u64 d, .int .i64 0], .int .u64 n] W fun e w' => e = .returned (.tuple #[.agg #[.int .i64 t, .int .u64 d, .int .i64 4], .bool true]) ∧ Below W.heap.size W w'))
    (HBE : Hid (∀ W : World, Calls Tryz.prog 12 #[.int .i64 t, .int .u64 n, .int .u64 k] W fun e w' => e = .returned (.tuple #[.agg #[.int .i64 0, .int .u64 0, .int .i64 0], .int .i64 7]) ∧ Below W.heap.size W w')) :
    Calls Tryz.prog 3 #[.agg #[.int .i64 t, .int .u64 d, .int .i64 0], .string key, .string said, .agg C.toArray, .int .u64 n, .int .u64 k, .bool true] w fun e w' => e = .returned (.bool true) ∧ Below w.heap.size w w' := by
  have hxl := fun ts T W => max2r (P := Tryz.prog) ts T key.size said.size W
  rw [hzm] at hxl
  have HQ1 := fun W => st_self X1 d X2 W
  have HQR := fun W => rst_self X1 d X2 W
  have HQ2 := fun W => st_self t d 0 W
  have HQ3 := fun W => st_self t d 4 W
  have HQ4 := fun W => st_selfN 0 0 0 W
  have rS : Row ((w.alloc (.cells ([.int .i64 t, .int .u64 d, .int .i64 0] : List Value).toArray 24)).alloc (.cells C.toArray 26)) w.heap.size 24 [.int .i64 t, .int .u64 d, .int .i64 0] := (Row.new w 24 [.int .i64 t, .int .u64 d, .int .i64 0]).alloc _
  have rI : Row ((w.alloc (.cells ([.int .i64 t, .int .u64 d, .int .i64 0] : List Value).toArray 24)).alloc (.cells C.toArray 26)) (w.heap.size + 1) 26 C := by
    have h := Row.new (w.alloc (.cells ([.int .i64 t, .int .u64 d, .int .i64 0] : List Value).toArray 24)) 26 C
    rwa [World.size_alloc] at h
  have b0 : Below w.heap.size w ((w.alloc (.cells ([.int .i64 t, .int .u64 d, .int .i64 0] : List Value).toArray 24)).alloc (.cells C.toArray 26)) := ((Below.refl _ _).alloc (Nat.le_refl _) _).alloc (by simp) _
  have hw0 : w.heap.size ≤ ((w.alloc (.cells ([.int .i64 t, .int .u64 d, .int .i64 0] : List Value).toArray 24)).alloc (.cells C.toArray 26)).heap.size := b0.size
  have hgS0 : w.heap.size < ((w.alloc (.cells ([.int .i64 t, .int .u64 d, .int .i64 0] : List Value).toArray 24)).alloc (.cells C.toArray 26)).heap.size := rS.lt
  have hgI0 : w.heap.size + 1 < ((w.alloc (.cells ([.int .i64 t, .int .u64 d, .int .i64 0] : List Value).toArray 24)).alloc (.cells C.toArray 26)).heap.size := rI.lt
  clear hzm
  go_enter Tryz.func3, Tryz.ntmps3
  go_wp2_with fail
  refine (HA.out _ (HG.out.below b0)).mono ?_
  rintro e y1 ⟨rfl, hb⟩
  have B1 := Lib.hid (b0.trans (hb.mono (by first | exact hw0 | (simp; omega) | omega)))
  have hz1 : w.heap.size ≤ y1.heap.size := B1.out.size
  have RS1 : Hid (Row y1 w.heap.size 24 [.int .i64 t, .int .u64 d, .int .i64 0]) := Lib.hid (rS.below hb (by first | exact hgS0 | (simp; omega) | omega))
  have hgS1 : w.heap.size < y1.heap.size := RS1.out.lt
  have RI1 : Hid (Row y1 (w.heap.size + 1) 26 C) := Lib.hid (rI.below hb (by first | exact hgI0 | (simp; omega) | omega))
  have hgI1 : (w.heap.size + 1) < y1.heap.size := RI1.out.lt
  clear hb
  have cS1_0 := RS1.out.cell 0
  have cS1_1 := RS1.out.cell 1
  have cS1_2 := RS1.out.cell 2
  simp only [List.getElem?_cons_zero, List.getElem?_cons_succ] at cS1_0 cS1_1 cS1_2
  go_wp2_with fail
  refine (HSM.out _).mono ?_
  rintro e y2 ⟨rfl, hb⟩
  have B2 := Lib.hid (B1.out.trans (hb.mono (by first | exact hz1 | (simp; omega) | omega)))
  have hz2 : w.heap.size ≤ y2.heap.size := B2.out.size
  have RS2 : Hid (Row y2 w.heap.size 24 [.int .i64 t, .int .u64 d, .int .i64 0]) := Lib.hid (RS1.out.below hb (by first | exact hgS1 | (simp; omega) | omega))
  have hgS2 : w.heap.size < y2.heap.size := RS2.out.lt
  have RI2 : Hid (Row y2 (w.heap.size + 1) 26 C) := Lib.hid (RI1.out.below hb (by first | exact hgI1 | (simp; omega) | omega))
  have hgI2 : (w.heap.size + 1) < y2.heap.size := RI2.out.lt
  clear hb
  have cS2_0 := RS2.out.cell 0
  have cS2_1 := RS2.out.cell 1
  have cS2_2 := RS2.out.cell 2
  simp only [List.getElem?_cons_zero, List.getElem?_cons_succ] at cS2_0 cS2_1 cS2_2
  go_wp2_with (first
      | (refine wpList_load_row rfl 26 (.tmp 10) rfl (w.heap.size + 1) rfl 26 C.toArray (0, 0) _ RI2.out Tryz.underlying26 rfl (by rw [List.size_toArray, hCl]; kernel_rfl) ?_)
      | fail)
  refine (HCO.out _ (HG.out.below B2.out) (HT10.out.below B2.out)).mono ?_
  rintro e y3 ⟨rfl, hb⟩
  have B3 := Lib.hid (B2.out.trans (hb.mono (by first | exact hz2 | (simp; omega) | omega)))
  have hz3 : w.heap.size ≤ y3.heap.size := B3.out.size
  have RS3 : Hid (Row y3 w.heap.size 24 [.int .i64 t, .int .u64 d, .int .i64 0]) := Lib.hid (RS2.out.below hb (by first | exact hgS2 | (simp; omega) | omega))
  have hgS3 : w.heap.size < y3.heap.size := RS3.out.lt
  have RI3 : Hid (Row y3 (w.heap.size + 1) 26 C) := Lib.hid (RI2.out.below hb (by first | exact hgI2 | (simp; omega) | omega))
  have hgI3 : (w.heap.size + 1) < y3.heap.size := RI3.out.lt
  clear hb
  have cS3_0 := RS3.out.cell 0
  have cS3_1 := RS3.out.cell 1
  have cS3_2 := RS3.out.cell 2
  simp only [List.getElem?_cons_zero, List.getElem?_cons_succ] at cS3_0 cS3_1 cS3_2
  go_wp2_with (first
      | (refine wpList_load_row rfl 26 (.tmp 10) rfl (w.heap.size + 1) rfl 26 C.toArray (0, 0) _ RI3.out Tryz.underlying26 rfl (by rw [List.size_toArray, hCl]; kernel_rfl) ?_)
      | fail)
  refine (HRC.out _).mono ?_
  rintro e y4 ⟨rfl, hb⟩
  have B4 := Lib.hid (B3.out.trans (hb.mono (by first | exact hz3 | (simp; omega) | omega)))
  have hz4 : w.heap.size ≤ y4.heap.size := B4.out.size
  have RS4 : Hid (Row y4 w.heap.size 24 [.int .i64 t, .int .u64 d, .int .i64 0]) := Lib.hid (RS3.out.below hb (by first | exact hgS3 | (simp; omega) | omega))
  have hgS4 : w.heap.size < y4.heap.size := RS4.out.lt
  have RI4 : Hid (Row y4 (w.heap.size + 1) 26 C) := Lib.hid (RI3.out.below hb (by first | exact hgI3 | (simp; omega) | omega))
  have hgI4 : (w.heap.size + 1) < y4.heap.size := RI4.out.lt
  clear hb
  have cS4_0 := RS4.out.cell 0
  have cS4_1 := RS4.out.cell 1
  have cS4_2 := RS4.out.cell 2
  simp only [List.getElem?_cons_zero, List.getElem?_cons_succ] at cS4_0 cS4_1 cS4_2
  go_wp2_with fail
  refine (HE.out _).mono ?_
  rintro e y5 ⟨rfl, hb⟩
  have B5 := Lib.hid (B4.out.trans (hb.mono (by first | exact hz4 | (simp; omega) | omega)))
  have hz5 : w.heap.size ≤ y5.heap.size := B5.out.size
  have RS5 : Hid (Row y5 w.heap.size 24 [.int .i64 t, .int .u64 d, .int .i64 0]) := Lib.hid (RS4.out.below hb (by first | exact hgS4 | (simp; omega) | omega))
  have hgS5 : w.heap.size < y5.heap.size := RS5.out.lt
  have RI5 : Hid (Row y5 (w.heap.size + 1) 26 C) := Lib.hid (RI4.out.below hb (by first | exact hgI4 | (simp; omega) | omega))
  have hgI5 : (w.heap.size + 1) < y5.heap.size := RI5.out.lt
  clear hb
  have cS5_0 := RS5.out.cell 0
  have cS5_1 := RS5.out.cell 1
  have cS5_2 := RS5.out.cell 2
  simp only [List.getElem?_cons_zero, List.getElem?_cons_succ] at cS5_0 cS5_1 cS5_2
  go_wp2_with fail
  refine (HF.out _).mono ?_
  rintro e y6 ⟨rfl, hb⟩
  have B6 := Lib.hid ((B5.out.alloc (by first | exact hz5 | (simp; omega) | omega) (.cells ([.int .i64 X1, .int .u64 d, .int .i64 X2] : List Value).toArray 24)).trans (hb.mono (by first | exact hz5 | (simp; omega) | omega)))
  have hz6 : w.heap.size ≤ y6.heap.size := B6.out.size
  have RS6 : Hid (Row y6 w.heap.size 24 [.int .i64 t, .int .u64 d, .int .i64 0]) := Lib.hid ((RS5.out.alloc _).below hb (by first | exact hgS5 | (simp; omega) | omega))
  have hgS6 : w.heap.size < y6.heap.size := RS6.out.lt
  have RI6 : Hid (Row y6 (w.heap.size + 1) 26 C) := Lib.hid ((RI5.out.alloc _).below hb (by first | exact hgI5 | (simp; omega) | omega))
  have hgI6 : (w.heap.size + 1) < y6.heap.size := RI6.out.lt
  have RX6 : Hid (Row y6 y5.heap.size 24 [.int .i64 X1, .int .u64 d, .int .i64 X2]) := Lib.hid (by
    have h := Row.new y5 24 [.int .i64 X1, .int .u64 d, .int .i64 X2]
    exact h.below hb (by first | (simp; omega) | simp | omega))
  have hgX6 : y5.heap.size < y6.heap.size := RX6.out.lt
  clear hb
  have cS6_0 := RS6.out.cell 0
  have cS6_1 := RS6.out.cell 1
  have cS6_2 := RS6.out.cell 2
  simp only [List.getElem?_cons_zero, List.getElem?_cons_succ] at cS6_0 cS6_1 cS6_2
  go_wp2_with fail
  refine (HTK.out _).mono ?_
  rintro e y7 ⟨rfl, hb⟩
  have B7 := Lib.hid ((B6.out.alloc (by first | exact hz6 | (simp; omega) | omega) (.cells ([.int .i64 X1, .int .u64 d, .int .i64 X2] : List Value).toArray 32)).trans (hb.mono (by first | exact hz6 | (simp; omega) | omega)))
  have hz7 : w.heap.size ≤ y7.heap.size := B7.out.size
  have RS7 : Hid (Row y7 w.heap.size 24 [.int .i64 t, .int .u64 d, .int .i64 0]) := Lib.hid ((RS6.out.alloc _).below hb (by first | exact hgS6 | (simp; omega) | omega))
  have hgS7 : w.heap.size < y7.heap.size := RS7.out.lt
  have RI7 : Hid (Row y7 (w.heap.size + 1) 26 C) := Lib.hid ((RI6.out.alloc _).below hb (by first | exact hgI6 | (simp; omega) | omega))
  have hgI7 : (w.heap.size + 1) < y7.heap.size := RI7.out.lt
  have RX7 : Hid (Row y7 y5.heap.size 24 [.int .i64 X1, .int .u64 d, .int .i64 X2]) := Lib.hid ((RX6.out.alloc _).below hb (by first | exact hgX6 | (simp; omega) | omega))
  have hgX7 : y5.heap.size < y7.heap.size := RX7.out.lt
  have RY7 : Hid (Row y7 y6.heap.size 32 [.int .i64 X1, .int .u64 d, .int .i64 X2]) := Lib.hid (by
    have h := Row.new y6 32 [.int .i64 X1, .int .u64 d, .int .i64 X2]
    exact h.below hb (by first | (simp; omega) | simp | omega))
  have hgY7 : y6.heap.size < y7.heap.size := RY7.out.lt
  clear hb
  have cS7_0 := RS7.out.cell 0
  have cS7_1 := RS7.out.cell 1
  have cS7_2 := RS7.out.cell 2
  simp only [List.getElem?_cons_zero, List.getElem?_cons_succ] at cS7_0 cS7_1 cS7_2
  go_wp2_with fail
  refine (HCA.out _).mono ?_
  rintro e y8 ⟨rfl, hb⟩
  have B8 := Lib.hid ((B7.out.alloc (by first | exact hz7 | (simp; omega) | omega) (.cells ([.int .i64 t, .int .u64 d, .int .i64 0] : List Value).toArray 24)).trans (hb.mono (by first | exact hz7 | (simp; omega) | omega)))
  have hz8 : w.heap.size ≤ y8.heap.size := B8.out.size
  have RS8 : Hid (Row y8 w.heap.size 24 [.int .i64 t, .int .u64 d, .int .i64 0]) := Lib.hid ((RS7.out.alloc _).below hb (by first | exact hgS7 | (simp; omega) | omega))
  have hgS8 : w.heap.size < y8.heap.size := RS8.out.lt
  have RI8 : Hid (Row y8 (w.heap.size + 1) 26 C) := Lib.hid ((RI7.out.alloc _).below hb (by first | exact hgI7 | (simp; omega) | omega))
  have hgI8 : (w.heap.size + 1) < y8.heap.size := RI8.out.lt
  have RX8 : Hid (Row y8 y5.heap.size 24 [.int .i64 X1, .int .u64 d, .int .i64 X2]) := Lib.hid ((RX7.out.alloc _).below hb (by first | exact hgX7 | (simp; omega) | omega))
  have hgX8 : y5.heap.size < y8.heap.size := RX8.out.lt
  have RY8 : Hid (Row y8 y6.heap.size 32 [.int .i64 X1, .int .u64 d, .int .i64 X2]) := Lib.hid ((RY7.out.alloc _).below hb (by first | exact hgY7 | (simp; omega) | omega))
  have hgY8 : y6.heap.size < y8.heap.size := RY8.out.lt
  have RA8 : Hid (Row y8 y7.heap.size 24 [.int .i64 t, .int .u64 d, .int .i64 0]) := Lib.hid (by
    have h := Row.new y7 24 [.int .i64 t, .int .u64 d, .int .i64 0]
    exact h.below hb (by first | (simp; omega) | simp | omega))
  have hgA8 : y7.heap.size < y8.heap.size := RA8.out.lt
  clear hb
  have cS8_0 := RS8.out.cell 0
  have cS8_1 := RS8.out.cell 1
  have cS8_2 := RS8.out.cell 2
  simp only [List.getElem?_cons_zero, List.getElem?_cons_succ] at cS8_0 cS8_1 cS8_2
  have hv1 : w.heap.size < y8.heap.size + 1 := by omega
  have hv2 : w.heap.size < y8.heap.size + 1 + 1 := by omega
  have hv3 : w.heap.size < y8.heap.size + 2 := by omega
  have hv4 : w.heap.size < y8.heap.size + 1 + 1 + 1 := by omega
  go_wp2_with fail
  refine (HBE.out _).mono ?_
  rintro e y9 ⟨rfl, hb⟩
  have B9 := Lib.hid ((((B8.out.alloc (by first | exact hz8 | (simp; omega) | omega) (.cells ([.int .i64 t, .int .u64 d, .int .i64 4] : List Value).toArray 24)).alloc (by first | exact hz8 | (simp; omega) | omega) (.cells ([.int .i64 t, .int .u64 d, .int .i64 0] : List Value).toArray 24)).alloc (by first | exact hz8 | (simp; omega) | omega) (.cells ([.int .i64 t, .int .u64 d, .int .i64 4] : List Value).toArray 24)).trans (hb.mono (by first | exact hz8 | (simp; omega) | omega)))
  have hz9 : w.heap.size ≤ y9.heap.size := B9.out.size
  have RS9 : Hid (Row y9 w.heap.size 24 [.int .i64 t, .int .u64 d, .int .i64 0]) := Lib.hid ((((RS8.out.alloc _).alloc _).alloc _).below hb (by first | exact hgS8 | (simp; omega) | omega))
  have hgS9 : w.heap.size < y9.heap.size := RS9.out.lt
  have RI9 : Hid (Row y9 (w.heap.size + 1) 26 C) := Lib.hid ((((RI8.out.alloc _).alloc _).alloc _).below hb (by first | exact hgI8 | (simp; omega) | omega))
  have hgI9 : (w.heap.size + 1) < y9.heap.size := RI9.out.lt
  have RX9 : Hid (Row y9 y5.heap.size 24 [.int .i64 X1, .int .u64 d, .int .i64 X2]) := Lib.hid ((((RX8.out.alloc _).alloc _).alloc _).below hb (by first | exact hgX8 | (simp; omega) | omega))
  have hgX9 : y5.heap.size < y9.heap.size := RX9.out.lt
  have RY9 : Hid (Row y9 y6.heap.size 32 [.int .i64 X1, .int .u64 d, .int .i64 X2]) := Lib.hid ((((RY8.out.alloc _).alloc _).alloc _).below hb (by first | exact hgY8 | (simp; omega) | omega))
  have hgY9 : y6.heap.size < y9.heap.size := RY9.out.lt
  have RA9 : Hid (Row y9 y7.heap.size 24 [.int .i64 t, .int .u64 d, .int .i64 0]) := Lib.hid ((((RA8.out.alloc _).alloc _).alloc _).below hb (by first | exact hgA8 | (simp; omega) | omega))
  have hgA9 : y7.heap.size < y9.heap.size := RA9.out.lt
  have RZ9 : Hid (Row y9 y8.heap.size 24 [.int .i64 t, .int .u64 d, .int .i64 4]) := Lib.hid (by
    have h := Row.new y8 24 [.int .i64 t, .int .u64 d, .int .i64 4]
    exact ((h.alloc (.cells ([.int .i64 t, .int .u64 d, .int .i64 0] : List Value).toArray 24)).alloc (.cells ([.int .i64 t, .int .u64 d, .int .i64 4] : List Value).toArray 24)).below hb (by first | (simp; omega) | simp | omega))
  have hgZ9 : y8.heap.size < y9.heap.size := RZ9.out.lt
  have RV9 : Hid (Row y9 (y8.heap.size + 1) 24 [.int .i64 t, .int .u64 d, .int .i64 0]) := Lib.hid (by
    have h := Row.new (y8.alloc (.cells ([.int .i64 t, .int .u64 d, .int .i64 4] : List Value).toArray 24)) 24 [.int .i64 t, .int .u64 d, .int .i64 0]
    simp only [World.size_alloc, Nat.add_assoc, Nat.reduceAdd] at h
    exact (h.alloc (.cells ([.int .i64 t, .int .u64 d, .int .i64 4] : List Value).toArray 24)).below hb (by first | (simp; omega) | simp | omega))
  have hgV9 : (y8.heap.size + 1) < y9.heap.size := RV9.out.lt
  have RU9 : Hid (Row y9 (y8.heap.size + 2) 24 [.int .i64 t, .int .u64 d, .int .i64 4]) := Lib.hid (by
    have h := Row.new ((y8.alloc (.cells ([.int .i64 t, .int .u64 d, .int .i64 4] : List Value).toArray 24)).alloc (.cells ([.int .i64 t, .int .u64 d, .int .i64 0] : List Value).toArray 24)) 24 [.int .i64 t, .int .u64 d, .int .i64 4]
    simp only [World.size_alloc, Nat.add_assoc, Nat.reduceAdd] at h
    exact h.below hb (by first | (simp; omega) | simp | omega))
  have hgU9 : (y8.heap.size + 2) < y9.heap.size := RU9.out.lt
  clear hb
  have cS9_0 := RS9.out.cell 0
  have cS9_1 := RS9.out.cell 1
  have cS9_2 := RS9.out.cell 2
  simp only [List.getElem?_cons_zero, List.getElem?_cons_succ] at cS9_0 cS9_1 cS9_2
  have cX9_0 := RX9.out.cell 0
  have cX9_1 := RX9.out.cell 1
  have cX9_2 := RX9.out.cell 2
  simp only [List.getElem?_cons_zero, List.getElem?_cons_succ] at cX9_0 cX9_1 cX9_2
  have cY9_0 := RY9.out.cell 0
  have cY9_1 := RY9.out.cell 1
  have cY9_2 := RY9.out.cell 2
  simp only [List.getElem?_cons_zero, List.getElem?_cons_succ] at cY9_0 cY9_1 cY9_2
  have cA9_0 := RA9.out.cell 0
  have cA9_1 := RA9.out.cell 1
  have cA9_2 := RA9.out.cell 2
  simp only [List.getElem?_cons_zero, List.getElem?_cons_succ] at cA9_0 cA9_1 cA9_2
  have cZ9_0 := RZ9.out.cell 0
  have cZ9_1 := RZ9.out.cell 1
  have cZ9_2 := RZ9.out.cell 2
  simp only [List.getElem?_cons_zero, List.getElem?_cons_succ] at cZ9_0 cZ9_1 cZ9_2
  have cV9_0 := RV9.out.cell 0
  have cV9_1 := RV9.out.cell 1
  have cV9_2 := RV9.out.cell 2
  simp only [List.getElem?_cons_zero, List.getElem?_cons_succ] at cV9_0 cV9_1 cV9_2
  have cU9_0 := RU9.out.cell 0
  have cU9_1 := RU9.out.cell 1
  have cU9_2 := RU9.out.cell 2
  simp only [List.getElem?_cons_zero, List.getElem?_cons_succ] at cU9_0 cU9_1 cU9_2
  go_wp2_with fail
  go_ret
  exact ⟨rfl, (B9.out.alloc hz9 (.cells ([.int .i64 0, .int .u64 0, .int .i64 0] : List Value).toArray 24))⟩

set_option maxRecDepth 100000 in
set_option maxHeartbeats 4000000 in
theorem steps_timeRhigh (t d n k X1 X2 X3 m : Int) (key said c : ByteArray) (C : List Value) (hCl : C.length = 16) (w : World) (zN : Nat) (hzm : max key.size said.size = zN) (hz200 : ¬ (200 : Int) < (zN : Int))
    (HG : Hid (G w)) (HT10 : Hid (T10 w)) (hl : n < d) (hl' : ¬ d ≤ n) (hl2 : decide (d ≤ n) = false) (hb1 : ¬ t < 1) (hb2 : 9 < t)
    (HA : Hid (∀ W : World, G W → Calls Tryz.prog 4 #[] W fun e w' => e = .returned (.bool true) ∧ Below W.heap.size W w'))
    (HSM : Hid (∀ W : World, Calls Tryz.prog 5 #[.agg #[.int .i64 t, .int .u64 d, .int .i64 0]] W fun e w' => e = .returned (.bool true) ∧ Below W.heap.size W w'))
    (HCO : Hid (∀ W : World, G W → T10 W → Calls Tryz.prog 6 #[.string key, .agg C.toArray] W fun e w' => e = .returned (.string c) ∧ Below W.heap.size W w'))
    (HRC : Hid (∀ W : World, Calls Tryz.prog 7 #[.string key, .agg C.toArray] W fun e w' => e = .returned (.string c) ∧ Below W.heap.size W w'))
    (HE : Hid (∀ W : World, Calls Tryz.prog 8 #[.agg #[.int .i64 t, .int .u64 d, .int .i64 0], .string c, .string c, .int .u64 n] W fun e w' => e = .returned (.tuple #[.agg #[.int .i64 X1, .int .u64 d, .int .i64 X2], .int .i64 X3]) ∧ Below W.heap.size W w'))
    (HF : Hid (∀ W : World, Calls Tryz.prog 9 #[.agg #[.int .i64 t, .int .u64 d, .int .i64 0], .string c, .string c, .int .u64 n] W fun e w' => e = .returned (.tuple #[.agg #[.int .i64 X1, .int .u64 d, .int .i64 X2], .int .i64 X3]) ∧ Below W.heap.size W w'))
    (HTK : Hid (∀ W : World, Calls Tryz.prog 10 #[.agg #[.int .i64 t, .int .u64 d, .int .i64 0], .int .u64 n] W fun e w' => e = .returned (.tuple #[.agg #[.int .i64 t, .int .u64 d, .int .i64 0], .bool false]) ∧ Below W.heap.size W w'))
    (HCA : Hid (∀ W : World, Calls Tryz.prog 11 #[.agg #[.int .i64 t, .int .u64 d, .int .i64 0], .int .u64 n] W fun e w' => e = .returned (.tuple #[.agg #[.int .i64 t, .int .u64 d, .int .i64 4], .bool true]) ∧ Below W.heap.size W w'))
    (HBE : Hid (∀ W : World, Calls Tryz.prog 12 #[.int .i64 t, .int .u64 n, .int .u64 k] W fun e w' => e = .returned (.tuple #[.agg #[.int .i64 0, .int .u64 0, .int .i64 0], .int .i64 7]) ∧ Below W.heap.size W w')) :
    Calls Tryz.prog 3 #[.agg #[.int .i64 t, .int .u64 d, .int .i64 0], .string key, .string said, .agg C.toArray, .int .u64 n, .int .u64 k, .bool true] w fun e w' => e = .returned (.bool true) ∧ Below w.heap.size w w' := by
  have hxl := fun ts T W => max2r (P := Tryz.prog) ts T key.size said.size W
  rw [hzm] at hxl
  have HQ1 := fun W => st_self X1 d X2 W
  have HQR := fun W => rst_self X1 d X2 W
  have HQ2 := fun W => st_self t d 0 W
  have HQ3 := fun W => st_self t d 4 W
  have HQ4 := fun W => st_selfN 0 0 0 W
  have rS : Row ((w.alloc (.cells ([.int .i64 t, .int .u64 d, .int .i64 0] : List Value).toArray 24)).alloc (.cells C.toArray 26)) w.heap.size 24 [.int .i64 t, .int .u64 d, .int .i64 0] := (Row.new w 24 [.int .i64 t, .int .u64 d, .int .i64 0]).alloc _
  have rI : Row ((w.alloc (.cells ([.int .i64 t, .int .u64 d, .int .i64 0] : List Value).toArray 24)).alloc (.cells C.toArray 26)) (w.heap.size + 1) 26 C := by
    have h := Row.new (w.alloc (.cells ([.int .i64 t, .int .u64 d, .int .i64 0] : List Value).toArray 24)) 26 C
    rwa [World.size_alloc] at h
  have b0 : Below w.heap.size w ((w.alloc (.cells ([.int .i64 t, .int .u64 d, .int .i64 0] : List Value).toArray 24)).alloc (.cells C.toArray 26)) := ((Below.refl _ _).alloc (Nat.le_refl _) _).alloc (by simp) _
  have hw0 : w.heap.size ≤ ((w.alloc (.cells ([.int .i64 t, .int .u64 d, .int .i64 0] : List Value).toArray 24)).alloc (.cells C.toArray 26)).heap.size := b0.size
  have hgS0 : w.heap.size < ((w.alloc (.cells ([.int .i64 t, .int .u64 d, .int .i64 0] : List Value).toArray 24)).alloc (.cells C.toArray 26)).heap.size := rS.lt
  have hgI0 : w.heap.size + 1 < ((w.alloc (.cells ([.int .i64 t, .int .u64 d, .int .i64 0] : List Value).toArray 24)).alloc (.cells C.toArray 26)).heap.size := rI.lt
  clear hzm
  go_enter Tryz.func3, Tryz.ntmps3
  go_wp2_with fail
  refine (HA.out _ (HG.out.below b0)).mono ?_
  rintro e y1 ⟨rfl, hb⟩
  have B1 := Lib.hid (b0.trans (hb.mono (by first | exact hw0 | (simp; omega) | omega)))
  have hz1 : w.heap.size ≤ y1.heap.size := B1.out.size
  have RS1 : Hid (Row y1 w.heap.size 24 [.int .i64 t, .int .u64 d, .int .i64 0]) := Lib.hid (rS.below hb (by first | exact hgS0 | (simp; omega) | omega))
  have hgS1 : w.heap.size < y1.heap.size := RS1.out.lt
  have RI1 : Hid (Row y1 (w.heap.size + 1) 26 C) := Lib.hid (rI.below hb (by first | exact hgI0 | (simp; omega) | omega))
  have hgI1 : (w.heap.size + 1) < y1.heap.size := RI1.out.lt
  clear hb
  have cS1_0 := RS1.out.cell 0
  have cS1_1 := RS1.out.cell 1
  have cS1_2 := RS1.out.cell 2
  simp only [List.getElem?_cons_zero, List.getElem?_cons_succ] at cS1_0 cS1_1 cS1_2
  go_wp2_with fail
  refine (HSM.out _).mono ?_
  rintro e y2 ⟨rfl, hb⟩
  have B2 := Lib.hid (B1.out.trans (hb.mono (by first | exact hz1 | (simp; omega) | omega)))
  have hz2 : w.heap.size ≤ y2.heap.size := B2.out.size
  have RS2 : Hid (Row y2 w.heap.size 24 [.int .i64 t, .int .u64 d, .int .i64 0]) := Lib.hid (RS1.out.below hb (by first | exact hgS1 | (simp; omega) | omega))
  have hgS2 : w.heap.size < y2.heap.size := RS2.out.lt
  have RI2 : Hid (Row y2 (w.heap.size + 1) 26 C) := Lib.hid (RI1.out.below hb (by first | exact hgI1 | (simp; omega) | omega))
  have hgI2 : (w.heap.size + 1) < y2.heap.size := RI2.out.lt
  clear hb
  have cS2_0 := RS2.out.cell 0
  have cS2_1 := RS2.out.cell 1
  have cS2_2 := RS2.out.cell 2
  simp only [List.getElem?_cons_zero, List.getElem?_cons_succ] at cS2_0 cS2_1 cS2_2
  go_wp2_with (first
      | (refine wpList_load_row rfl 26 (.tmp 10) rfl (w.heap.size + 1) rfl 26 C.toArray (0, 0) _ RI2.out Tryz.underlying26 rfl (by rw [List.size_toArray, hCl]; kernel_rfl) ?_)
      | fail)
  refine (HCO.out _ (HG.out.below B2.out) (HT10.out.below B2.out)).mono ?_
  rintro e y3 ⟨rfl, hb⟩
  have B3 := Lib.hid (B2.out.trans (hb.mono (by first | exact hz2 | (simp; omega) | omega)))
  have hz3 : w.heap.size ≤ y3.heap.size := B3.out.size
  have RS3 : Hid (Row y3 w.heap.size 24 [.int .i64 t, .int .u64 d, .int .i64 0]) := Lib.hid (RS2.out.below hb (by first | exact hgS2 | (simp; omega) | omega))
  have hgS3 : w.heap.size < y3.heap.size := RS3.out.lt
  have RI3 : Hid (Row y3 (w.heap.size + 1) 26 C) := Lib.hid (RI2.out.below hb (by first | exact hgI2 | (simp; omega) | omega))
  have hgI3 : (w.heap.size + 1) < y3.heap.size := RI3.out.lt
  clear hb
  have cS3_0 := RS3.out.cell 0
  have cS3_1 := RS3.out.cell 1
  have cS3_2 := RS3.out.cell 2
  simp only [List.getElem?_cons_zero, List.getElem?_cons_succ] at cS3_0 cS3_1 cS3_2
  go_wp2_with (first
      | (refine wpList_load_row rfl 26 (.tmp 10) rfl (w.heap.size + 1) rfl 26 C.toArray (0, 0) _ RI3.out Tryz.underlying26 rfl (by rw [List.size_toArray, hCl]; kernel_rfl) ?_)
      | fail)
  refine (HRC.out _).mono ?_
  rintro e y4 ⟨rfl, hb⟩
  have B4 := Lib.hid (B3.out.trans (hb.mono (by first | exact hz3 | (simp; omega) | omega)))
  have hz4 : w.heap.size ≤ y4.heap.size := B4.out.size
  have RS4 : Hid (Row y4 w.heap.size 24 [.int .i64 t, .int .u64 d, .int .i64 0]) := Lib.hid (RS3.out.below hb (by first | exact hgS3 | (simp; omega) | omega))
  have hgS4 : w.heap.size < y4.heap.size := RS4.out.lt
  have RI4 : Hid (Row y4 (w.heap.size + 1) 26 C) := Lib.hid (RI3.out.below hb (by first | exact hgI3 | (simp; omega) | omega))
  have hgI4 : (w.heap.size + 1) < y4.heap.size := RI4.out.lt
  clear hb
  have cS4_0 := RS4.out.cell 0
  have cS4_1 := RS4.out.cell 1
  have cS4_2 := RS4.out.cell 2
  simp only [List.getElem?_cons_zero, List.getElem?_cons_succ] at cS4_0 cS4_1 cS4_2
  go_wp2_with fail
  refine (HE.out _).mono ?_
  rintro e y5 ⟨rfl, hb⟩
  have B5 := Lib.hid (B4.out.trans (hb.mono (by first | exact hz4 | (simp; omega) | omega)))
  have hz5 : w.heap.size ≤ y5.heap.size := B5.out.size
  have RS5 : Hid (Row y5 w.heap.size 24 [.int .i64 t, .int .u64 d, .int .i64 0]) := Lib.hid (RS4.out.below hb (by first | exact hgS4 | (simp; omega) | omega))
  have hgS5 : w.heap.size < y5.heap.size := RS5.out.lt
  have RI5 : Hid (Row y5 (w.heap.size + 1) 26 C) := Lib.hid (RI4.out.below hb (by first | exact hgI4 | (simp; omega) | omega))
  have hgI5 : (w.heap.size + 1) < y5.heap.size := RI5.out.lt
  clear hb
  have cS5_0 := RS5.out.cell 0
  have cS5_1 := RS5.out.cell 1
  have cS5_2 := RS5.out.cell 2
  simp only [List.getElem?_cons_zero, List.getElem?_cons_succ] at cS5_0 cS5_1 cS5_2
  go_wp2_with fail
  refine (HF.out _).mono ?_
  rintro e y6 ⟨rfl, hb⟩
  have B6 := Lib.hid ((B5.out.alloc (by first | exact hz5 | (simp; omega) | omega) (.cells ([.int .i64 X1, .int .u64 d, .int .i64 X2] : List Value).toArray 24)).trans (hb.mono (by first | exact hz5 | (simp; omega) | omega)))
  have hz6 : w.heap.size ≤ y6.heap.size := B6.out.size
  have RS6 : Hid (Row y6 w.heap.size 24 [.int .i64 t, .int .u64 d, .int .i64 0]) := Lib.hid ((RS5.out.alloc _).below hb (by first | exact hgS5 | (simp; omega) | omega))
  have hgS6 : w.heap.size < y6.heap.size := RS6.out.lt
  have RI6 : Hid (Row y6 (w.heap.size + 1) 26 C) := Lib.hid ((RI5.out.alloc _).below hb (by first | exact hgI5 | (simp; omega) | omega))
  have hgI6 : (w.heap.size + 1) < y6.heap.size := RI6.out.lt
  have RX6 : Hid (Row y6 y5.heap.size 24 [.int .i64 X1, .int .u64 d, .int .i64 X2]) := Lib.hid (by
    have h := Row.new y5 24 [.int .i64 X1, .int .u64 d, .int .i64 X2]
    exact h.below hb (by first | (simp; omega) | simp | omega))
  have hgX6 : y5.heap.size < y6.heap.size := RX6.out.lt
  clear hb
  have cS6_0 := RS6.out.cell 0
  have cS6_1 := RS6.out.cell 1
  have cS6_2 := RS6.out.cell 2
  simp only [List.getElem?_cons_zero, List.getElem?_cons_succ] at cS6_0 cS6_1 cS6_2
  go_wp2_with fail
  refine (HTK.out _).mono ?_
  rintro e y7 ⟨rfl, hb⟩
  have B7 := Lib.hid ((B6.out.alloc (by first | exact hz6 | (simp; omega) | omega) (.cells ([.int .i64 X1, .int .u64 d, .int .i64 X2] : List Value).toArray 32)).trans (hb.mono (by first | exact hz6 | (simp; omega) | omega)))
  have hz7 : w.heap.size ≤ y7.heap.size := B7.out.size
  have RS7 : Hid (Row y7 w.heap.size 24 [.int .i64 t, .int .u64 d, .int .i64 0]) := Lib.hid ((RS6.out.alloc _).below hb (by first | exact hgS6 | (simp; omega) | omega))
  have hgS7 : w.heap.size < y7.heap.size := RS7.out.lt
  have RI7 : Hid (Row y7 (w.heap.size + 1) 26 C) := Lib.hid ((RI6.out.alloc _).below hb (by first | exact hgI6 | (simp; omega) | omega))
  have hgI7 : (w.heap.size + 1) < y7.heap.size := RI7.out.lt
  have RX7 : Hid (Row y7 y5.heap.size 24 [.int .i64 X1, .int .u64 d, .int .i64 X2]) := Lib.hid ((RX6.out.alloc _).below hb (by first | exact hgX6 | (simp; omega) | omega))
  have hgX7 : y5.heap.size < y7.heap.size := RX7.out.lt
  have RY7 : Hid (Row y7 y6.heap.size 32 [.int .i64 X1, .int .u64 d, .int .i64 X2]) := Lib.hid (by
    have h := Row.new y6 32 [.int .i64 X1, .int .u64 d, .int .i64 X2]
    exact h.below hb (by first | (simp; omega) | simp | omega))
  have hgY7 : y6.heap.size < y7.heap.size := RY7.out.lt
  clear hb
  have cS7_0 := RS7.out.cell 0
  have cS7_1 := RS7.out.cell 1
  have cS7_2 := RS7.out.cell 2
  simp only [List.getElem?_cons_zero, List.getElem?_cons_succ] at cS7_0 cS7_1 cS7_2
  go_wp2_with fail
  refine (HCA.out _).mono ?_
  rintro e y8 ⟨rfl, hb⟩
  have B8 := Lib.hid ((B7.out.alloc (by first | exact hz7 | (simp; omega) | omega) (.cells ([.int .i64 t, .int .u64 d, .int .i64 0] : List Value).toArray 24)).trans (hb.mono (by first | exact hz7 | (simp; omega) | omega)))
  have hz8 : w.heap.size ≤ y8.heap.size := B8.out.size
  have RS8 : Hid (Row y8 w.heap.size 24 [.int .i64 t, .int .u64 d, .int .i64 0]) := Lib.hid ((RS7.out.alloc _).below hb (by first | exact hgS7 | (simp; omega) | omega))
  have hgS8 : w.heap.size < y8.heap.size := RS8.out.lt
  have RI8 : Hid (Row y8 (w.heap.size + 1) 26 C) := Lib.hid ((RI7.out.alloc _).below hb (by first | exact hgI7 | (simp; omega) | omega))
  have hgI8 : (w.heap.size + 1) < y8.heap.size := RI8.out.lt
  have RX8 : Hid (Row y8 y5.heap.size 24 [.int .i64 X1, .int .u64 d, .int .i64 X2]) := Lib.hid ((RX7.out.alloc _).below hb (by first | exact hgX7 | (simp; omega) | omega))
  have hgX8 : y5.heap.size < y8.heap.size := RX8.out.lt
  have RY8 : Hid (Row y8 y6.heap.size 32 [.int .i64 X1, .int .u64 d, .int .i64 X2]) := Lib.hid ((RY7.out.alloc _).below hb (by first | exact hgY7 | (simp; omega) | omega))
  have hgY8 : y6.heap.size < y8.heap.size := RY8.out.lt
  have RA8 : Hid (Row y8 y7.heap.size 24 [.int .i64 t, .int .u64 d, .int .i64 0]) := Lib.hid (by
    have h := Row.new y7 24 [.int .i64 t, .int .u64 d, .int .i64 0]
    exact h.below hb (by first | (simp; omega) | simp | omega))
  have hgA8 : y7.heap.size < y8.heap.size := RA8.out.lt
  clear hb
  have cS8_0 := RS8.out.cell 0
  have cS8_1 := RS8.out.cell 1
  have cS8_2 := RS8.out.cell 2
  simp only [List.getElem?_cons_zero, List.getElem?_cons_succ] at cS8_0 cS8_1 cS8_2
  have hv1 : w.heap.size < y8.heap.size + 1 := by omega
  have hv2 : w.heap.size < y8.heap.size + 1 + 1 := by omega
  have hv3 : w.heap.size < y8.heap.size + 2 := by omega
  have hv4 : w.heap.size < y8.heap.size + 1 + 1 + 1 := by omega
  go_wp2_with fail
  refine (HBE.out _).mono ?_
  rintro e y9 ⟨rfl, hb⟩
  have B9 := Lib.hid ((((B8.out.alloc (by first | exact hz8 | (simp; omega) | omega) (.cells ([.int .i64 t, .int .u64 d, .int .i64 4] : List Value).toArray 24)).alloc (by first | exact hz8 | (simp; omega) | omega) (.cells ([.int .i64 t, .int .u64 d, .int .i64 0] : List Value).toArray 24)).alloc (by first | exact hz8 | (simp; omega) | omega) (.cells ([.int .i64 t, .int .u64 d, .int .i64 4] : List Value).toArray 24)).trans (hb.mono (by first | exact hz8 | (simp; omega) | omega)))
  have hz9 : w.heap.size ≤ y9.heap.size := B9.out.size
  have RS9 : Hid (Row y9 w.heap.size 24 [.int .i64 t, .int .u64 d, .int .i64 0]) := Lib.hid ((((RS8.out.alloc _).alloc _).alloc _).below hb (by first | exact hgS8 | (simp; omega) | omega))
  have hgS9 : w.heap.size < y9.heap.size := RS9.out.lt
  have RI9 : Hid (Row y9 (w.heap.size + 1) 26 C) := Lib.hid ((((RI8.out.alloc _).alloc _).alloc _).below hb (by first | exact hgI8 | (simp; omega) | omega))
  have hgI9 : (w.heap.size + 1) < y9.heap.size := RI9.out.lt
  have RX9 : Hid (Row y9 y5.heap.size 24 [.int .i64 X1, .int .u64 d, .int .i64 X2]) := Lib.hid ((((RX8.out.alloc _).alloc _).alloc _).below hb (by first | exact hgX8 | (simp; omega) | omega))
  have hgX9 : y5.heap.size < y9.heap.size := RX9.out.lt
  have RY9 : Hid (Row y9 y6.heap.size 32 [.int .i64 X1, .int .u64 d, .int .i64 X2]) := Lib.hid ((((RY8.out.alloc _).alloc _).alloc _).below hb (by first | exact hgY8 | (simp; omega) | omega))
  have hgY9 : y6.heap.size < y9.heap.size := RY9.out.lt
  have RA9 : Hid (Row y9 y7.heap.size 24 [.int .i64 t, .int .u64 d, .int .i64 0]) := Lib.hid ((((RA8.out.alloc _).alloc _).alloc _).below hb (by first | exact hgA8 | (simp; omega) | omega))
  have hgA9 : y7.heap.size < y9.heap.size := RA9.out.lt
  have RZ9 : Hid (Row y9 y8.heap.size 24 [.int .i64 t, .int .u64 d, .int .i64 4]) := Lib.hid (by
    have h := Row.new y8 24 [.int .i64 t, .int .u64 d, .int .i64 4]
    exact ((h.alloc (.cells ([.int .i64 t, .int .u64 d, .int .i64 0] : List Value).toArray 24)).alloc (.cells ([.int .i64 t, .int .u64 d, .int .i64 4] : List Value).toArray 24)).below hb (by first | (simp; omega) | simp | omega))
  have hgZ9 : y8.heap.size < y9.heap.size := RZ9.out.lt
  have RV9 : Hid (Row y9 (y8.heap.size + 1) 24 [.int .i64 t, .int .u64 d, .int .i64 0]) := Lib.hid (by
    have h := Row.new (y8.alloc (.cells ([.int .i64 t, .int .u64 d, .int .i64 4] : List Value).toArray 24)) 24 [.int .i64 t, .int .u64 d, .int .i64 0]
    simp only [World.size_alloc, Nat.add_assoc, Nat.reduceAdd] at h
    exact (h.alloc (.cells ([.int .i64 t, .int .u64 d, .int .i64 4] : List Value).toArray 24)).below hb (by first | (simp; omega) | simp | omega))
  have hgV9 : (y8.heap.size + 1) < y9.heap.size := RV9.out.lt
  have RU9 : Hid (Row y9 (y8.heap.size + 2) 24 [.int .i64 t, .int .u64 d, .int .i64 4]) := Lib.hid (by
    have h := Row.new ((y8.alloc (.cells ([.int .i64 t, .int .u64 d, .int .i64 4] : List Value).toArray 24)).alloc (.cells ([.int .i64 t, .int .u64 d, .int .i64 0] : List Value).toArray 24)) 24 [.int .i64 t, .int .u64 d, .int .i64 4]
    simp only [World.size_alloc, Nat.add_assoc, Nat.reduceAdd] at h
    exact h.below hb (by first | (simp; omega) | simp | omega))
  have hgU9 : (y8.heap.size + 2) < y9.heap.size := RU9.out.lt
  clear hb
  have cS9_0 := RS9.out.cell 0
  have cS9_1 := RS9.out.cell 1
  have cS9_2 := RS9.out.cell 2
  simp only [List.getElem?_cons_zero, List.getElem?_cons_succ] at cS9_0 cS9_1 cS9_2
  have cX9_0 := RX9.out.cell 0
  have cX9_1 := RX9.out.cell 1
  have cX9_2 := RX9.out.cell 2
  simp only [List.getElem?_cons_zero, List.getElem?_cons_succ] at cX9_0 cX9_1 cX9_2
  have cY9_0 := RY9.out.cell 0
  have cY9_1 := RY9.out.cell 1
  have cY9_2 := RY9.out.cell 2
  simp only [List.getElem?_cons_zero, List.getElem?_cons_succ] at cY9_0 cY9_1 cY9_2
  have cA9_0 := RA9.out.cell 0
  have cA9_1 := RA9.out.cell 1
  have cA9_2 := RA9.out.cell 2
  simp only [List.getElem?_cons_zero, List.getElem?_cons_succ] at cA9_0 cA9_1 cA9_2
  have cZ9_0 := RZ9.out.cell 0
  have cZ9_1 := RZ9.out.cell 1
  have cZ9_2 := RZ9.out.cell 2
  simp only [List.getElem?_cons_zero, List.getElem?_cons_succ] at cZ9_0 cZ9_1 cZ9_2
  have cV9_0 := RV9.out.cell 0
  have cV9_1 := RV9.out.cell 1
  have cV9_2 := RV9.out.cell 2
  simp only [List.getElem?_cons_zero, List.getElem?_cons_succ] at cV9_0 cV9_1 cV9_2
  have cU9_0 := RU9.out.cell 0
  have cU9_1 := RU9.out.cell 1
  have cU9_2 := RU9.out.cell 2
  simp only [List.getElem?_cons_zero, List.getElem?_cons_succ] at cU9_0 cU9_1 cU9_2
  go_wp2_with fail
  go_ret
  exact ⟨rfl, (B9.out.alloc hz9 (.cells ([.int .i64 0, .int .u64 0, .int .i64 0] : List Value).toArray 24))⟩

set_option maxRecDepth 100000 in
set_option maxHeartbeats 4000000 in
theorem steps_timeRok (t d n k X1 X2 X3 m : Int) (key said c : ByteArray) (C : List Value) (hCl : C.length = 16) (w : World) (zN : Nat) (hzm : max key.size said.size = zN) (hz200 : ¬ (200 : Int) < (zN : Int))
    (HG : Hid (G w)) (HT10 : Hid (T10 w)) (hl : n < d) (hl' : ¬ d ≤ n) (hl2 : decide (d ≤ n) = false) (hb1 : ¬ t < 1) (hb2 : ¬ 9 < t)
    (HA : Hid (∀ W : World, G W → Calls Tryz.prog 4 #[] W fun e w' => e = .returned (.bool true) ∧ Below W.heap.size W w'))
    (HSM : Hid (∀ W : World, Calls Tryz.prog 5 #[.agg #[.int .i64 t, .int .u64 d, .int .i64 0]] W fun e w' => e = .returned (.bool true) ∧ Below W.heap.size W w'))
    (HCO : Hid (∀ W : World, G W → T10 W → Calls Tryz.prog 6 #[.string key, .agg C.toArray] W fun e w' => e = .returned (.string c) ∧ Below W.heap.size W w'))
    (HRC : Hid (∀ W : World, Calls Tryz.prog 7 #[.string key, .agg C.toArray] W fun e w' => e = .returned (.string c) ∧ Below W.heap.size W w'))
    (HE : Hid (∀ W : World, Calls Tryz.prog 8 #[.agg #[.int .i64 t, .int .u64 d, .int .i64 0], .string c, .string c, .int .u64 n] W fun e w' => e = .returned (.tuple #[.agg #[.int .i64 X1, .int .u64 d, .int .i64 X2], .int .i64 X3]) ∧ Below W.heap.size W w'))
    (HF : Hid (∀ W : World, Calls Tryz.prog 9 #[.agg #[.int .i64 t, .int .u64 d, .int .i64 0], .string c, .string c, .int .u64 n] W fun e w' => e = .returned (.tuple #[.agg #[.int .i64 X1, .int .u64 d, .int .i64 X2], .int .i64 X3]) ∧ Below W.heap.size W w'))
    (HTK : Hid (∀ W : World, Calls Tryz.prog 10 #[.agg #[.int .i64 t, .int .u64 d, .int .i64 0], .int .u64 n] W fun e w' => e = .returned (.tuple #[.agg #[.int .i64 t, .int .u64 d, .int .i64 0], .bool false]) ∧ Below W.heap.size W w'))
    (HCA : Hid (∀ W : World, Calls Tryz.prog 11 #[.agg #[.int .i64 t, .int .u64 d, .int .i64 0], .int .u64 n] W fun e w' => e = .returned (.tuple #[.agg #[.int .i64 t, .int .u64 d, .int .i64 4], .bool true]) ∧ Below W.heap.size W w'))
    (HBE : Hid (∀ W : World, Calls Tryz.prog 12 #[.int .i64 t, .int .u64 n, .int .u64 k] W fun e w' => e = .returned (.tuple #[.agg #[.int .i64 t, .int .u64 m, .int .i64 0], .int .i64 0]) ∧ Below W.heap.size W w'))
    (HLA : Hid (∀ W : World, Calls Tryz.prog 13 #[.int .u64 n, .int .u64 k] W fun e w' => e = .returned (.int .u64 m) ∧ W = w')) :
    Calls Tryz.prog 3 #[.agg #[.int .i64 t, .int .u64 d, .int .i64 0], .string key, .string said, .agg C.toArray, .int .u64 n, .int .u64 k, .bool true] w fun e w' => e = .returned (.bool true) ∧ Below w.heap.size w w' := by
  have hxl := fun ts T W => max2r (P := Tryz.prog) ts T key.size said.size W
  rw [hzm] at hxl
  have HQ1 := fun W => st_self X1 d X2 W
  have HQR := fun W => rst_self X1 d X2 W
  have HQ2 := fun W => st_self t d 0 W
  have HQ3 := fun W => st_self t d 4 W
  have HQ4 := fun W => st_selfN t m 0 W
  have rS : Row ((w.alloc (.cells ([.int .i64 t, .int .u64 d, .int .i64 0] : List Value).toArray 24)).alloc (.cells C.toArray 26)) w.heap.size 24 [.int .i64 t, .int .u64 d, .int .i64 0] := (Row.new w 24 [.int .i64 t, .int .u64 d, .int .i64 0]).alloc _
  have rI : Row ((w.alloc (.cells ([.int .i64 t, .int .u64 d, .int .i64 0] : List Value).toArray 24)).alloc (.cells C.toArray 26)) (w.heap.size + 1) 26 C := by
    have h := Row.new (w.alloc (.cells ([.int .i64 t, .int .u64 d, .int .i64 0] : List Value).toArray 24)) 26 C
    rwa [World.size_alloc] at h
  have b0 : Below w.heap.size w ((w.alloc (.cells ([.int .i64 t, .int .u64 d, .int .i64 0] : List Value).toArray 24)).alloc (.cells C.toArray 26)) := ((Below.refl _ _).alloc (Nat.le_refl _) _).alloc (by simp) _
  have hw0 : w.heap.size ≤ ((w.alloc (.cells ([.int .i64 t, .int .u64 d, .int .i64 0] : List Value).toArray 24)).alloc (.cells C.toArray 26)).heap.size := b0.size
  have hgS0 : w.heap.size < ((w.alloc (.cells ([.int .i64 t, .int .u64 d, .int .i64 0] : List Value).toArray 24)).alloc (.cells C.toArray 26)).heap.size := rS.lt
  have hgI0 : w.heap.size + 1 < ((w.alloc (.cells ([.int .i64 t, .int .u64 d, .int .i64 0] : List Value).toArray 24)).alloc (.cells C.toArray 26)).heap.size := rI.lt
  clear hzm
  go_enter Tryz.func3, Tryz.ntmps3
  go_wp2_with fail
  refine (HA.out _ (HG.out.below b0)).mono ?_
  rintro e y1 ⟨rfl, hb⟩
  have B1 := Lib.hid (b0.trans (hb.mono (by first | exact hw0 | (simp; omega) | omega)))
  have hz1 : w.heap.size ≤ y1.heap.size := B1.out.size
  have RS1 : Hid (Row y1 w.heap.size 24 [.int .i64 t, .int .u64 d, .int .i64 0]) := Lib.hid (rS.below hb (by first | exact hgS0 | (simp; omega) | omega))
  have hgS1 : w.heap.size < y1.heap.size := RS1.out.lt
  have RI1 : Hid (Row y1 (w.heap.size + 1) 26 C) := Lib.hid (rI.below hb (by first | exact hgI0 | (simp; omega) | omega))
  have hgI1 : (w.heap.size + 1) < y1.heap.size := RI1.out.lt
  clear hb
  have cS1_0 := RS1.out.cell 0
  have cS1_1 := RS1.out.cell 1
  have cS1_2 := RS1.out.cell 2
  simp only [List.getElem?_cons_zero, List.getElem?_cons_succ] at cS1_0 cS1_1 cS1_2
  go_wp2_with fail
  refine (HSM.out _).mono ?_
  rintro e y2 ⟨rfl, hb⟩
  have B2 := Lib.hid (B1.out.trans (hb.mono (by first | exact hz1 | (simp; omega) | omega)))
  have hz2 : w.heap.size ≤ y2.heap.size := B2.out.size
  have RS2 : Hid (Row y2 w.heap.size 24 [.int .i64 t, .int .u64 d, .int .i64 0]) := Lib.hid (RS1.out.below hb (by first | exact hgS1 | (simp; omega) | omega))
  have hgS2 : w.heap.size < y2.heap.size := RS2.out.lt
  have RI2 : Hid (Row y2 (w.heap.size + 1) 26 C) := Lib.hid (RI1.out.below hb (by first | exact hgI1 | (simp; omega) | omega))
  have hgI2 : (w.heap.size + 1) < y2.heap.size := RI2.out.lt
  clear hb
  have cS2_0 := RS2.out.cell 0
  have cS2_1 := RS2.out.cell 1
  have cS2_2 := RS2.out.cell 2
  simp only [List.getElem?_cons_zero, List.getElem?_cons_succ] at cS2_0 cS2_1 cS2_2
  go_wp2_with (first
      | (refine wpList_load_row rfl 26 (.tmp 10) rfl (w.heap.size + 1) rfl 26 C.toArray (0, 0) _ RI2.out Tryz.underlying26 rfl (by rw [List.size_toArray, hCl]; kernel_rfl) ?_)
      | fail)
  refine (HCO.out _ (HG.out.below B2.out) (HT10.out.below B2.out)).mono ?_
  rintro e y3 ⟨rfl, hb⟩
  have B3 := Lib.hid (B2.out.trans (hb.mono (by first | exact hz2 | (simp; omega) | omega)))
  have hz3 : w.heap.size ≤ y3.heap.size := B3.out.size
  have RS3 : Hid (Row y3 w.heap.size 24 [.int .i64 t, .int .u64 d, .int .i64 0]) := Lib.hid (RS2.out.below hb (by first | exact hgS2 | (simp; omega) | omega))
  have hgS3 : w.heap.size < y3.heap.size := RS3.out.lt
  have RI3 : Hid (Row y3 (w.heap.size + 1) 26 C) := Lib.hid (RI2.out.below hb (by first | exact hgI2 | (simp; omega) | omega))
  have hgI3 : (w.heap.size + 1) < y3.heap.size := RI3.out.lt
  clear hb
  have cS3_0 := RS3.out.cell 0
  have cS3_1 := RS3.out.cell 1
  have cS3_2 := RS3.out.cell 2
  simp only [List.getElem?_cons_zero, List.getElem?_cons_succ] at cS3_0 cS3_1 cS3_2
  go_wp2_with (first
      | (refine wpList_load_row rfl 26 (.tmp 10) rfl (w.heap.size + 1) rfl 26 C.toArray (0, 0) _ RI3.out Tryz.underlying26 rfl (by rw [List.size_toArray, hCl]; kernel_rfl) ?_)
      | fail)
  refine (HRC.out _).mono ?_
  rintro e y4 ⟨rfl, hb⟩
  have B4 := Lib.hid (B3.out.trans (hb.mono (by first | exact hz3 | (simp; omega) | omega)))
  have hz4 : w.heap.size ≤ y4.heap.size := B4.out.size
  have RS4 : Hid (Row y4 w.heap.size 24 [.int .i64 t, .int .u64 d, .int .i64 0]) := Lib.hid (RS3.out.below hb (by first | exact hgS3 | (simp; omega) | omega))
  have hgS4 : w.heap.size < y4.heap.size := RS4.out.lt
  have RI4 : Hid (Row y4 (w.heap.size + 1) 26 C) := Lib.hid (RI3.out.below hb (by first | exact hgI3 | (simp; omega) | omega))
  have hgI4 : (w.heap.size + 1) < y4.heap.size := RI4.out.lt
  clear hb
  have cS4_0 := RS4.out.cell 0
  have cS4_1 := RS4.out.cell 1
  have cS4_2 := RS4.out.cell 2
  simp only [List.getElem?_cons_zero, List.getElem?_cons_succ] at cS4_0 cS4_1 cS4_2
  go_wp2_with fail
  refine (HE.out _).mono ?_
  rintro e y5 ⟨rfl, hb⟩
  have B5 := Lib.hid (B4.out.trans (hb.mono (by first | exact hz4 | (simp; omega) | omega)))
  have hz5 : w.heap.size ≤ y5.heap.size := B5.out.size
  have RS5 : Hid (Row y5 w.heap.size 24 [.int .i64 t, .int .u64 d, .int .i64 0]) := Lib.hid (RS4.out.below hb (by first | exact hgS4 | (simp; omega) | omega))
  have hgS5 : w.heap.size < y5.heap.size := RS5.out.lt
  have RI5 : Hid (Row y5 (w.heap.size + 1) 26 C) := Lib.hid (RI4.out.below hb (by first | exact hgI4 | (simp; omega) | omega))
  have hgI5 : (w.heap.size + 1) < y5.heap.size := RI5.out.lt
  clear hb
  have cS5_0 := RS5.out.cell 0
  have cS5_1 := RS5.out.cell 1
  have cS5_2 := RS5.out.cell 2
  simp only [List.getElem?_cons_zero, List.getElem?_cons_succ] at cS5_0 cS5_1 cS5_2
  go_wp2_with fail
  refine (HF.out _).mono ?_
  rintro e y6 ⟨rfl, hb⟩
  have B6 := Lib.hid ((B5.out.alloc (by first | exact hz5 | (simp; omega) | omega) (.cells ([.int .i64 X1, .int .u64 d, .int .i64 X2] : List Value).toArray 24)).trans (hb.mono (by first | exact hz5 | (simp; omega) | omega)))
  have hz6 : w.heap.size ≤ y6.heap.size := B6.out.size
  have RS6 : Hid (Row y6 w.heap.size 24 [.int .i64 t, .int .u64 d, .int .i64 0]) := Lib.hid ((RS5.out.alloc _).below hb (by first | exact hgS5 | (simp; omega) | omega))
  have hgS6 : w.heap.size < y6.heap.size := RS6.out.lt
  have RI6 : Hid (Row y6 (w.heap.size + 1) 26 C) := Lib.hid ((RI5.out.alloc _).below hb (by first | exact hgI5 | (simp; omega) | omega))
  have hgI6 : (w.heap.size + 1) < y6.heap.size := RI6.out.lt
  have RX6 : Hid (Row y6 y5.heap.size 24 [.int .i64 X1, .int .u64 d, .int .i64 X2]) := Lib.hid (by
    have h := Row.new y5 24 [.int .i64 X1, .int .u64 d, .int .i64 X2]
    exact h.below hb (by first | (simp; omega) | simp | omega))
  have hgX6 : y5.heap.size < y6.heap.size := RX6.out.lt
  clear hb
  have cS6_0 := RS6.out.cell 0
  have cS6_1 := RS6.out.cell 1
  have cS6_2 := RS6.out.cell 2
  simp only [List.getElem?_cons_zero, List.getElem?_cons_succ] at cS6_0 cS6_1 cS6_2
  go_wp2_with fail
  refine (HTK.out _).mono ?_
  rintro e y7 ⟨rfl, hb⟩
  have B7 := Lib.hid ((B6.out.alloc (by first | exact hz6 | (simp; omega) | omega) (.cells ([.int .i64 X1, .int .u64 d, .int .i64 X2] : List Value).toArray 32)).trans (hb.mono (by first | exact hz6 | (simp; omega) | omega)))
  have hz7 : w.heap.size ≤ y7.heap.size := B7.out.size
  have RS7 : Hid (Row y7 w.heap.size 24 [.int .i64 t, .int .u64 d, .int .i64 0]) := Lib.hid ((RS6.out.alloc _).below hb (by first | exact hgS6 | (simp; omega) | omega))
  have hgS7 : w.heap.size < y7.heap.size := RS7.out.lt
  have RI7 : Hid (Row y7 (w.heap.size + 1) 26 C) := Lib.hid ((RI6.out.alloc _).below hb (by first | exact hgI6 | (simp; omega) | omega))
  have hgI7 : (w.heap.size + 1) < y7.heap.size := RI7.out.lt
  have RX7 : Hid (Row y7 y5.heap.size 24 [.int .i64 X1, .int .u64 d, .int .i64 X2]) := Lib.hid ((RX6.out.alloc _).below hb (by first | exact hgX6 | (simp; omega) | omega))
  have hgX7 : y5.heap.size < y7.heap.size := RX7.out.lt
  have RY7 : Hid (Row y7 y6.heap.size 32 [.int .i64 X1, .int .u64 d, .int .i64 X2]) := Lib.hid (by
    have h := Row.new y6 32 [.int .i64 X1, .int .u64 d, .int .i64 X2]
    exact h.below hb (by first | (simp; omega) | simp | omega))
  have hgY7 : y6.heap.size < y7.heap.size := RY7.out.lt
  clear hb
  have cS7_0 := RS7.out.cell 0
  have cS7_1 := RS7.out.cell 1
  have cS7_2 := RS7.out.cell 2
  simp only [List.getElem?_cons_zero, List.getElem?_cons_succ] at cS7_0 cS7_1 cS7_2
  go_wp2_with fail
  refine (HCA.out _).mono ?_
  rintro e y8 ⟨rfl, hb⟩
  have B8 := Lib.hid ((B7.out.alloc (by first | exact hz7 | (simp; omega) | omega) (.cells ([.int .i64 t, .int .u64 d, .int .i64 0] : List Value).toArray 24)).trans (hb.mono (by first | exact hz7 | (simp; omega) | omega)))
  have hz8 : w.heap.size ≤ y8.heap.size := B8.out.size
  have RS8 : Hid (Row y8 w.heap.size 24 [.int .i64 t, .int .u64 d, .int .i64 0]) := Lib.hid ((RS7.out.alloc _).below hb (by first | exact hgS7 | (simp; omega) | omega))
  have hgS8 : w.heap.size < y8.heap.size := RS8.out.lt
  have RI8 : Hid (Row y8 (w.heap.size + 1) 26 C) := Lib.hid ((RI7.out.alloc _).below hb (by first | exact hgI7 | (simp; omega) | omega))
  have hgI8 : (w.heap.size + 1) < y8.heap.size := RI8.out.lt
  have RX8 : Hid (Row y8 y5.heap.size 24 [.int .i64 X1, .int .u64 d, .int .i64 X2]) := Lib.hid ((RX7.out.alloc _).below hb (by first | exact hgX7 | (simp; omega) | omega))
  have hgX8 : y5.heap.size < y8.heap.size := RX8.out.lt
  have RY8 : Hid (Row y8 y6.heap.size 32 [.int .i64 X1, .int .u64 d, .int .i64 X2]) := Lib.hid ((RY7.out.alloc _).below hb (by first | exact hgY7 | (simp; omega) | omega))
  have hgY8 : y6.heap.size < y8.heap.size := RY8.out.lt
  have RA8 : Hid (Row y8 y7.heap.size 24 [.int .i64 t, .int .u64 d, .int .i64 0]) := Lib.hid (by
    have h := Row.new y7 24 [.int .i64 t, .int .u64 d, .int .i64 0]
    exact h.below hb (by first | (simp; omega) | simp | omega))
  have hgA8 : y7.heap.size < y8.heap.size := RA8.out.lt
  clear hb
  have cS8_0 := RS8.out.cell 0
  have cS8_1 := RS8.out.cell 1
  have cS8_2 := RS8.out.cell 2
  simp only [List.getElem?_cons_zero, List.getElem?_cons_succ] at cS8_0 cS8_1 cS8_2
  have hv1 : w.heap.size < y8.heap.size + 1 := by omega
  have hv2 : w.heap.size < y8.heap.size + 1 + 1 := by omega
  have hv3 : w.heap.size < y8.heap.size + 2 := by omega
  have hv4 : w.heap.size < y8.heap.size + 1 + 1 + 1 := by omega
  go_wp2_with fail
  refine (HBE.out _).mono ?_
  rintro e y9 ⟨rfl, hb⟩
  have B9 := Lib.hid ((((B8.out.alloc (by first | exact hz8 | (simp; omega) | omega) (.cells ([.int .i64 t, .int .u64 d, .int .i64 4] : List Value).toArray 24)).alloc (by first | exact hz8 | (simp; omega) | omega) (.cells ([.int .i64 t, .int .u64 d, .int .i64 0] : List Value).toArray 24)).alloc (by first | exact hz8 | (simp; omega) | omega) (.cells ([.int .i64 t, .int .u64 d, .int .i64 4] : List Value).toArray 24)).trans (hb.mono (by first | exact hz8 | (simp; omega) | omega)))
  have hz9 : w.heap.size ≤ y9.heap.size := B9.out.size
  have RS9 : Hid (Row y9 w.heap.size 24 [.int .i64 t, .int .u64 d, .int .i64 0]) := Lib.hid ((((RS8.out.alloc _).alloc _).alloc _).below hb (by first | exact hgS8 | (simp; omega) | omega))
  have hgS9 : w.heap.size < y9.heap.size := RS9.out.lt
  have RI9 : Hid (Row y9 (w.heap.size + 1) 26 C) := Lib.hid ((((RI8.out.alloc _).alloc _).alloc _).below hb (by first | exact hgI8 | (simp; omega) | omega))
  have hgI9 : (w.heap.size + 1) < y9.heap.size := RI9.out.lt
  have RX9 : Hid (Row y9 y5.heap.size 24 [.int .i64 X1, .int .u64 d, .int .i64 X2]) := Lib.hid ((((RX8.out.alloc _).alloc _).alloc _).below hb (by first | exact hgX8 | (simp; omega) | omega))
  have hgX9 : y5.heap.size < y9.heap.size := RX9.out.lt
  have RY9 : Hid (Row y9 y6.heap.size 32 [.int .i64 X1, .int .u64 d, .int .i64 X2]) := Lib.hid ((((RY8.out.alloc _).alloc _).alloc _).below hb (by first | exact hgY8 | (simp; omega) | omega))
  have hgY9 : y6.heap.size < y9.heap.size := RY9.out.lt
  have RA9 : Hid (Row y9 y7.heap.size 24 [.int .i64 t, .int .u64 d, .int .i64 0]) := Lib.hid ((((RA8.out.alloc _).alloc _).alloc _).below hb (by first | exact hgA8 | (simp; omega) | omega))
  have hgA9 : y7.heap.size < y9.heap.size := RA9.out.lt
  have RZ9 : Hid (Row y9 y8.heap.size 24 [.int .i64 t, .int .u64 d, .int .i64 4]) := Lib.hid (by
    have h := Row.new y8 24 [.int .i64 t, .int .u64 d, .int .i64 4]
    exact ((h.alloc (.cells ([.int .i64 t, .int .u64 d, .int .i64 0] : List Value).toArray 24)).alloc (.cells ([.int .i64 t, .int .u64 d, .int .i64 4] : List Value).toArray 24)).below hb (by first | (simp; omega) | simp | omega))
  have hgZ9 : y8.heap.size < y9.heap.size := RZ9.out.lt
  have RV9 : Hid (Row y9 (y8.heap.size + 1) 24 [.int .i64 t, .int .u64 d, .int .i64 0]) := Lib.hid (by
    have h := Row.new (y8.alloc (.cells ([.int .i64 t, .int .u64 d, .int .i64 4] : List Value).toArray 24)) 24 [.int .i64 t, .int .u64 d, .int .i64 0]
    simp only [World.size_alloc, Nat.add_assoc, Nat.reduceAdd] at h
    exact (h.alloc (.cells ([.int .i64 t, .int .u64 d, .int .i64 4] : List Value).toArray 24)).below hb (by first | (simp; omega) | simp | omega))
  have hgV9 : (y8.heap.size + 1) < y9.heap.size := RV9.out.lt
  have RU9 : Hid (Row y9 (y8.heap.size + 2) 24 [.int .i64 t, .int .u64 d, .int .i64 4]) := Lib.hid (by
    have h := Row.new ((y8.alloc (.cells ([.int .i64 t, .int .u64 d, .int .i64 4] : List Value).toArray 24)).alloc (.cells ([.int .i64 t, .int .u64 d, .int .i64 0] : List Value).toArray 24)) 24 [.int .i64 t, .int .u64 d, .int .i64 4]
    simp only [World.size_alloc, Nat.add_assoc, Nat.reduceAdd] at h
    exact h.below hb (by first | (simp; omega) | simp | omega))
  have hgU9 : (y8.heap.size + 2) < y9.heap.size := RU9.out.lt
  clear hb
  have cS9_0 := RS9.out.cell 0
  have cS9_1 := RS9.out.cell 1
  have cS9_2 := RS9.out.cell 2
  simp only [List.getElem?_cons_zero, List.getElem?_cons_succ] at cS9_0 cS9_1 cS9_2
  have cX9_0 := RX9.out.cell 0
  have cX9_1 := RX9.out.cell 1
  have cX9_2 := RX9.out.cell 2
  simp only [List.getElem?_cons_zero, List.getElem?_cons_succ] at cX9_0 cX9_1 cX9_2
  have cY9_0 := RY9.out.cell 0
  have cY9_1 := RY9.out.cell 1
  have cY9_2 := RY9.out.cell 2
  simp only [List.getElem?_cons_zero, List.getElem?_cons_succ] at cY9_0 cY9_1 cY9_2
  have cA9_0 := RA9.out.cell 0
  have cA9_1 := RA9.out.cell 1
  have cA9_2 := RA9.out.cell 2
  simp only [List.getElem?_cons_zero, List.getElem?_cons_succ] at cA9_0 cA9_1 cA9_2
  have cZ9_0 := RZ9.out.cell 0
  have cZ9_1 := RZ9.out.cell 1
  have cZ9_2 := RZ9.out.cell 2
  simp only [List.getElem?_cons_zero, List.getElem?_cons_succ] at cZ9_0 cZ9_1 cZ9_2
  have cV9_0 := RV9.out.cell 0
  have cV9_1 := RV9.out.cell 1
  have cV9_2 := RV9.out.cell 2
  simp only [List.getElem?_cons_zero, List.getElem?_cons_succ] at cV9_0 cV9_1 cV9_2
  have cU9_0 := RU9.out.cell 0
  have cU9_1 := RU9.out.cell 1
  have cU9_2 := RU9.out.cell 2
  simp only [List.getElem?_cons_zero, List.getElem?_cons_succ] at cU9_0 cU9_1 cU9_2
  go_wp2_with fail
  go_quiet ((go_at_call 13; exact Calls.quiet_of_same ((HLA.out _).mono fun _ _ hh => ⟨hh.1, hh.2.symm⟩)))
  go_wp2_with fail
  go_ret
  exact ⟨rfl, below_drewN_o (B9.out.alloc hz9 (.cells ([.int .i64 t, .int .u64 m, .int .i64 0] : List Value).toArray 24)) _⟩

set_option maxRecDepth 100000 in
set_option maxHeartbeats 4000000 in
theorem steps_timeWlow (t d n k X1 X2 X3 m : Int) (key said c : ByteArray) (C : List Value) (hCl : C.length = 16) (w : World) (zN : Nat) (hzm : max key.size said.size = zN) (hz200 : ¬ (200 : Int) < (zN : Int))
    (HG : Hid (G w)) (HT10 : Hid (T10 w)) (hl : n < d) (hl' : ¬ d ≤ n) (hl2 : decide (d ≤ n) = false) (hb1 : t < 1)
    (HA : Hid (∀ W : World, G W → Calls Tryz.prog 4 #[] W fun e w' => e = .returned (.bool true) ∧ Below W.heap.size W w'))
    (HSM : Hid (∀ W : World, Calls Tryz.prog 5 #[.agg #[.int .i64 t, .int .u64 d, .int .i64 0]] W fun e w' => e = .returned (.bool true) ∧ Below W.heap.size W w'))
    (HCO : Hid (∀ W : World, G W → T10 W → Calls Tryz.prog 6 #[.string key, .agg C.toArray] W fun e w' => e = .returned (.string c) ∧ Below W.heap.size W w'))
    (HRC : Hid (∀ W : World, Calls Tryz.prog 7 #[.string key, .agg C.toArray] W fun e w' => e = .returned (.string c) ∧ Below W.heap.size W w'))
    (HE : Hid (∀ W : World, Calls Tryz.prog 8 #[.agg #[.int .i64 t, .int .u64 d, .int .i64 0], .string c, .string said, .int .u64 n] W fun e w' => e = .returned (.tuple #[.agg #[.int .i64 X1, .int .u64 d, .int .i64 X2], .int .i64 X3]) ∧ Below W.heap.size W w'))
    (HF : Hid (∀ W : World, Calls Tryz.prog 9 #[.agg #[.int .i64 t, .int .u64 d, .int .i64 0], .string c, .string said, .int .u64 n] W fun e w' => e = .returned (.tuple #[.agg #[.int .i64 X1, .int .u64 d, .int .i64 X2], .int .i64 X3]) ∧ Below W.heap.size W w'))
    (HTK : Hid (∀ W : World, Calls Tryz.prog 10 #[.agg #[.int .i64 t, .int .u64 d, .int .i64 0], .int .u64 n] W fun e w' => e = .returned (.tuple #[.agg #[.int .i64 t, .int .u64 d, .int .i64 0], .bool false]) ∧ Below W.heap.size W w'))
    (HCA : Hid (∀ W : World, Calls Tryz.prog 11 #[.agg #[.int .i64 t, .int .u64 d, .int .i64 0], .int .u64 n] W fun e w' => e = .returned (.tuple #[.agg #[.int .i64 t, .int .u64 d, .int .i64 4], .bool true]) ∧ Below W.heap.size W w'))
    (HBE : Hid (∀ W : World, Calls Tryz.prog 12 #[.int .i64 t, .int .u64 n, .int .u64 k] W fun e w' => e = .returned (.tuple #[.agg #[.int .i64 0, .int .u64 0, .int .i64 0], .int .i64 7]) ∧ Below W.heap.size W w')) :
    Calls Tryz.prog 3 #[.agg #[.int .i64 t, .int .u64 d, .int .i64 0], .string key, .string said, .agg C.toArray, .int .u64 n, .int .u64 k, .bool false] w fun e w' => e = .returned (.bool true) ∧ Below w.heap.size w w' := by
  have hxl := fun ts T W => max2r (P := Tryz.prog) ts T key.size said.size W
  rw [hzm] at hxl
  have HQ1 := fun W => st_self X1 d X2 W
  have HQR := fun W => rst_self X1 d X2 W
  have HQ2 := fun W => st_self t d 0 W
  have HQ3 := fun W => st_self t d 4 W
  have HQ4 := fun W => st_selfN 0 0 0 W
  have rS : Row ((w.alloc (.cells ([.int .i64 t, .int .u64 d, .int .i64 0] : List Value).toArray 24)).alloc (.cells C.toArray 26)) w.heap.size 24 [.int .i64 t, .int .u64 d, .int .i64 0] := (Row.new w 24 [.int .i64 t, .int .u64 d, .int .i64 0]).alloc _
  have rI : Row ((w.alloc (.cells ([.int .i64 t, .int .u64 d, .int .i64 0] : List Value).toArray 24)).alloc (.cells C.toArray 26)) (w.heap.size + 1) 26 C := by
    have h := Row.new (w.alloc (.cells ([.int .i64 t, .int .u64 d, .int .i64 0] : List Value).toArray 24)) 26 C
    rwa [World.size_alloc] at h
  have b0 : Below w.heap.size w ((w.alloc (.cells ([.int .i64 t, .int .u64 d, .int .i64 0] : List Value).toArray 24)).alloc (.cells C.toArray 26)) := ((Below.refl _ _).alloc (Nat.le_refl _) _).alloc (by simp) _
  have hw0 : w.heap.size ≤ ((w.alloc (.cells ([.int .i64 t, .int .u64 d, .int .i64 0] : List Value).toArray 24)).alloc (.cells C.toArray 26)).heap.size := b0.size
  have hgS0 : w.heap.size < ((w.alloc (.cells ([.int .i64 t, .int .u64 d, .int .i64 0] : List Value).toArray 24)).alloc (.cells C.toArray 26)).heap.size := rS.lt
  have hgI0 : w.heap.size + 1 < ((w.alloc (.cells ([.int .i64 t, .int .u64 d, .int .i64 0] : List Value).toArray 24)).alloc (.cells C.toArray 26)).heap.size := rI.lt
  clear hzm
  go_enter Tryz.func3, Tryz.ntmps3
  go_wp2_with fail
  refine (HA.out _ (HG.out.below b0)).mono ?_
  rintro e y1 ⟨rfl, hb⟩
  have B1 := Lib.hid (b0.trans (hb.mono (by first | exact hw0 | (simp; omega) | omega)))
  have hz1 : w.heap.size ≤ y1.heap.size := B1.out.size
  have RS1 : Hid (Row y1 w.heap.size 24 [.int .i64 t, .int .u64 d, .int .i64 0]) := Lib.hid (rS.below hb (by first | exact hgS0 | (simp; omega) | omega))
  have hgS1 : w.heap.size < y1.heap.size := RS1.out.lt
  have RI1 : Hid (Row y1 (w.heap.size + 1) 26 C) := Lib.hid (rI.below hb (by first | exact hgI0 | (simp; omega) | omega))
  have hgI1 : (w.heap.size + 1) < y1.heap.size := RI1.out.lt
  clear hb
  have cS1_0 := RS1.out.cell 0
  have cS1_1 := RS1.out.cell 1
  have cS1_2 := RS1.out.cell 2
  simp only [List.getElem?_cons_zero, List.getElem?_cons_succ] at cS1_0 cS1_1 cS1_2
  go_wp2_with fail
  refine (HSM.out _).mono ?_
  rintro e y2 ⟨rfl, hb⟩
  have B2 := Lib.hid (B1.out.trans (hb.mono (by first | exact hz1 | (simp; omega) | omega)))
  have hz2 : w.heap.size ≤ y2.heap.size := B2.out.size
  have RS2 : Hid (Row y2 w.heap.size 24 [.int .i64 t, .int .u64 d, .int .i64 0]) := Lib.hid (RS1.out.below hb (by first | exact hgS1 | (simp; omega) | omega))
  have hgS2 : w.heap.size < y2.heap.size := RS2.out.lt
  have RI2 : Hid (Row y2 (w.heap.size + 1) 26 C) := Lib.hid (RI1.out.below hb (by first | exact hgI1 | (simp; omega) | omega))
  have hgI2 : (w.heap.size + 1) < y2.heap.size := RI2.out.lt
  clear hb
  have cS2_0 := RS2.out.cell 0
  have cS2_1 := RS2.out.cell 1
  have cS2_2 := RS2.out.cell 2
  simp only [List.getElem?_cons_zero, List.getElem?_cons_succ] at cS2_0 cS2_1 cS2_2
  go_wp2_with (first
      | (refine wpList_load_row rfl 26 (.tmp 10) rfl (w.heap.size + 1) rfl 26 C.toArray (0, 0) _ RI2.out Tryz.underlying26 rfl (by rw [List.size_toArray, hCl]; kernel_rfl) ?_)
      | fail)
  refine (HCO.out _ (HG.out.below B2.out) (HT10.out.below B2.out)).mono ?_
  rintro e y3 ⟨rfl, hb⟩
  have B3 := Lib.hid (B2.out.trans (hb.mono (by first | exact hz2 | (simp; omega) | omega)))
  have hz3 : w.heap.size ≤ y3.heap.size := B3.out.size
  have RS3 : Hid (Row y3 w.heap.size 24 [.int .i64 t, .int .u64 d, .int .i64 0]) := Lib.hid (RS2.out.below hb (by first | exact hgS2 | (simp; omega) | omega))
  have hgS3 : w.heap.size < y3.heap.size := RS3.out.lt
  have RI3 : Hid (Row y3 (w.heap.size + 1) 26 C) := Lib.hid (RI2.out.below hb (by first | exact hgI2 | (simp; omega) | omega))
  have hgI3 : (w.heap.size + 1) < y3.heap.size := RI3.out.lt
  clear hb
  have cS3_0 := RS3.out.cell 0
  have cS3_1 := RS3.out.cell 1
  have cS3_2 := RS3.out.cell 2
  simp only [List.getElem?_cons_zero, List.getElem?_cons_succ] at cS3_0 cS3_1 cS3_2
  go_wp2_with (first
      | (refine wpList_load_row rfl 26 (.tmp 10) rfl (w.heap.size + 1) rfl 26 C.toArray (0, 0) _ RI3.out Tryz.underlying26 rfl (by rw [List.size_toArray, hCl]; kernel_rfl) ?_)
      | fail)
  refine (HRC.out _).mono ?_
  rintro e y4 ⟨rfl, hb⟩
  have B4 := Lib.hid (B3.out.trans (hb.mono (by first | exact hz3 | (simp; omega) | omega)))
  have hz4 : w.heap.size ≤ y4.heap.size := B4.out.size
  have RS4 : Hid (Row y4 w.heap.size 24 [.int .i64 t, .int .u64 d, .int .i64 0]) := Lib.hid (RS3.out.below hb (by first | exact hgS3 | (simp; omega) | omega))
  have hgS4 : w.heap.size < y4.heap.size := RS4.out.lt
  have RI4 : Hid (Row y4 (w.heap.size + 1) 26 C) := Lib.hid (RI3.out.below hb (by first | exact hgI3 | (simp; omega) | omega))
  have hgI4 : (w.heap.size + 1) < y4.heap.size := RI4.out.lt
  clear hb
  have cS4_0 := RS4.out.cell 0
  have cS4_1 := RS4.out.cell 1
  have cS4_2 := RS4.out.cell 2
  simp only [List.getElem?_cons_zero, List.getElem?_cons_succ] at cS4_0 cS4_1 cS4_2
  go_wp2_with fail
  refine (HE.out _).mono ?_
  rintro e y5 ⟨rfl, hb⟩
  have B5 := Lib.hid (B4.out.trans (hb.mono (by first | exact hz4 | (simp; omega) | omega)))
  have hz5 : w.heap.size ≤ y5.heap.size := B5.out.size
  have RS5 : Hid (Row y5 w.heap.size 24 [.int .i64 t, .int .u64 d, .int .i64 0]) := Lib.hid (RS4.out.below hb (by first | exact hgS4 | (simp; omega) | omega))
  have hgS5 : w.heap.size < y5.heap.size := RS5.out.lt
  have RI5 : Hid (Row y5 (w.heap.size + 1) 26 C) := Lib.hid (RI4.out.below hb (by first | exact hgI4 | (simp; omega) | omega))
  have hgI5 : (w.heap.size + 1) < y5.heap.size := RI5.out.lt
  clear hb
  have cS5_0 := RS5.out.cell 0
  have cS5_1 := RS5.out.cell 1
  have cS5_2 := RS5.out.cell 2
  simp only [List.getElem?_cons_zero, List.getElem?_cons_succ] at cS5_0 cS5_1 cS5_2
  go_wp2_with fail
  refine (HF.out _).mono ?_
  rintro e y6 ⟨rfl, hb⟩
  have B6 := Lib.hid ((B5.out.alloc (by first | exact hz5 | (simp; omega) | omega) (.cells ([.int .i64 X1, .int .u64 d, .int .i64 X2] : List Value).toArray 24)).trans (hb.mono (by first | exact hz5 | (simp; omega) | omega)))
  have hz6 : w.heap.size ≤ y6.heap.size := B6.out.size
  have RS6 : Hid (Row y6 w.heap.size 24 [.int .i64 t, .int .u64 d, .int .i64 0]) := Lib.hid ((RS5.out.alloc _).below hb (by first | exact hgS5 | (simp; omega) | omega))
  have hgS6 : w.heap.size < y6.heap.size := RS6.out.lt
  have RI6 : Hid (Row y6 (w.heap.size + 1) 26 C) := Lib.hid ((RI5.out.alloc _).below hb (by first | exact hgI5 | (simp; omega) | omega))
  have hgI6 : (w.heap.size + 1) < y6.heap.size := RI6.out.lt
  have RX6 : Hid (Row y6 y5.heap.size 24 [.int .i64 X1, .int .u64 d, .int .i64 X2]) := Lib.hid (by
    have h := Row.new y5 24 [.int .i64 X1, .int .u64 d, .int .i64 X2]
    exact h.below hb (by first | (simp; omega) | simp | omega))
  have hgX6 : y5.heap.size < y6.heap.size := RX6.out.lt
  clear hb
  have cS6_0 := RS6.out.cell 0
  have cS6_1 := RS6.out.cell 1
  have cS6_2 := RS6.out.cell 2
  simp only [List.getElem?_cons_zero, List.getElem?_cons_succ] at cS6_0 cS6_1 cS6_2
  go_wp2_with fail
  refine (HTK.out _).mono ?_
  rintro e y7 ⟨rfl, hb⟩
  have B7 := Lib.hid ((B6.out.alloc (by first | exact hz6 | (simp; omega) | omega) (.cells ([.int .i64 X1, .int .u64 d, .int .i64 X2] : List Value).toArray 32)).trans (hb.mono (by first | exact hz6 | (simp; omega) | omega)))
  have hz7 : w.heap.size ≤ y7.heap.size := B7.out.size
  have RS7 : Hid (Row y7 w.heap.size 24 [.int .i64 t, .int .u64 d, .int .i64 0]) := Lib.hid ((RS6.out.alloc _).below hb (by first | exact hgS6 | (simp; omega) | omega))
  have hgS7 : w.heap.size < y7.heap.size := RS7.out.lt
  have RI7 : Hid (Row y7 (w.heap.size + 1) 26 C) := Lib.hid ((RI6.out.alloc _).below hb (by first | exact hgI6 | (simp; omega) | omega))
  have hgI7 : (w.heap.size + 1) < y7.heap.size := RI7.out.lt
  have RX7 : Hid (Row y7 y5.heap.size 24 [.int .i64 X1, .int .u64 d, .int .i64 X2]) := Lib.hid ((RX6.out.alloc _).below hb (by first | exact hgX6 | (simp; omega) | omega))
  have hgX7 : y5.heap.size < y7.heap.size := RX7.out.lt
  have RY7 : Hid (Row y7 y6.heap.size 32 [.int .i64 X1, .int .u64 d, .int .i64 X2]) := Lib.hid (by
    have h := Row.new y6 32 [.int .i64 X1, .int .u64 d, .int .i64 X2]
    exact h.below hb (by first | (simp; omega) | simp | omega))
  have hgY7 : y6.heap.size < y7.heap.size := RY7.out.lt
  clear hb
  have cS7_0 := RS7.out.cell 0
  have cS7_1 := RS7.out.cell 1
  have cS7_2 := RS7.out.cell 2
  simp only [List.getElem?_cons_zero, List.getElem?_cons_succ] at cS7_0 cS7_1 cS7_2
  go_wp2_with fail
  refine (HCA.out _).mono ?_
  rintro e y8 ⟨rfl, hb⟩
  have B8 := Lib.hid ((B7.out.alloc (by first | exact hz7 | (simp; omega) | omega) (.cells ([.int .i64 t, .int .u64 d, .int .i64 0] : List Value).toArray 24)).trans (hb.mono (by first | exact hz7 | (simp; omega) | omega)))
  have hz8 : w.heap.size ≤ y8.heap.size := B8.out.size
  have RS8 : Hid (Row y8 w.heap.size 24 [.int .i64 t, .int .u64 d, .int .i64 0]) := Lib.hid ((RS7.out.alloc _).below hb (by first | exact hgS7 | (simp; omega) | omega))
  have hgS8 : w.heap.size < y8.heap.size := RS8.out.lt
  have RI8 : Hid (Row y8 (w.heap.size + 1) 26 C) := Lib.hid ((RI7.out.alloc _).below hb (by first | exact hgI7 | (simp; omega) | omega))
  have hgI8 : (w.heap.size + 1) < y8.heap.size := RI8.out.lt
  have RX8 : Hid (Row y8 y5.heap.size 24 [.int .i64 X1, .int .u64 d, .int .i64 X2]) := Lib.hid ((RX7.out.alloc _).below hb (by first | exact hgX7 | (simp; omega) | omega))
  have hgX8 : y5.heap.size < y8.heap.size := RX8.out.lt
  have RY8 : Hid (Row y8 y6.heap.size 32 [.int .i64 X1, .int .u64 d, .int .i64 X2]) := Lib.hid ((RY7.out.alloc _).below hb (by first | exact hgY7 | (simp; omega) | omega))
  have hgY8 : y6.heap.size < y8.heap.size := RY8.out.lt
  have RA8 : Hid (Row y8 y7.heap.size 24 [.int .i64 t, .int .u64 d, .int .i64 0]) := Lib.hid (by
    have h := Row.new y7 24 [.int .i64 t, .int .u64 d, .int .i64 0]
    exact h.below hb (by first | (simp; omega) | simp | omega))
  have hgA8 : y7.heap.size < y8.heap.size := RA8.out.lt
  clear hb
  have cS8_0 := RS8.out.cell 0
  have cS8_1 := RS8.out.cell 1
  have cS8_2 := RS8.out.cell 2
  simp only [List.getElem?_cons_zero, List.getElem?_cons_succ] at cS8_0 cS8_1 cS8_2
  have hv1 : w.heap.size < y8.heap.size + 1 := by omega
  have hv2 : w.heap.size < y8.heap.size + 1 + 1 := by omega
  have hv3 : w.heap.size < y8.heap.size + 2 := by omega
  have hv4 : w.heap.size < y8.heap.size + 1 + 1 + 1 := by omega
  go_wp2_with fail
  refine (HBE.out _).mono ?_
  rintro e y9 ⟨rfl, hb⟩
  have B9 := Lib.hid ((((B8.out.alloc (by first | exact hz8 | (simp; omega) | omega) (.cells ([.int .i64 t, .int .u64 d, .int .i64 4] : List Value).toArray 24)).alloc (by first | exact hz8 | (simp; omega) | omega) (.cells ([.int .i64 t, .int .u64 d, .int .i64 0] : List Value).toArray 24)).alloc (by first | exact hz8 | (simp; omega) | omega) (.cells ([.int .i64 t, .int .u64 d, .int .i64 4] : List Value).toArray 24)).trans (hb.mono (by first | exact hz8 | (simp; omega) | omega)))
  have hz9 : w.heap.size ≤ y9.heap.size := B9.out.size
  have RS9 : Hid (Row y9 w.heap.size 24 [.int .i64 t, .int .u64 d, .int .i64 0]) := Lib.hid ((((RS8.out.alloc _).alloc _).alloc _).below hb (by first | exact hgS8 | (simp; omega) | omega))
  have hgS9 : w.heap.size < y9.heap.size := RS9.out.lt
  have RI9 : Hid (Row y9 (w.heap.size + 1) 26 C) := Lib.hid ((((RI8.out.alloc _).alloc _).alloc _).below hb (by first | exact hgI8 | (simp; omega) | omega))
  have hgI9 : (w.heap.size + 1) < y9.heap.size := RI9.out.lt
  have RX9 : Hid (Row y9 y5.heap.size 24 [.int .i64 X1, .int .u64 d, .int .i64 X2]) := Lib.hid ((((RX8.out.alloc _).alloc _).alloc _).below hb (by first | exact hgX8 | (simp; omega) | omega))
  have hgX9 : y5.heap.size < y9.heap.size := RX9.out.lt
  have RY9 : Hid (Row y9 y6.heap.size 32 [.int .i64 X1, .int .u64 d, .int .i64 X2]) := Lib.hid ((((RY8.out.alloc _).alloc _).alloc _).below hb (by first | exact hgY8 | (simp; omega) | omega))
  have hgY9 : y6.heap.size < y9.heap.size := RY9.out.lt
  have RA9 : Hid (Row y9 y7.heap.size 24 [.int .i64 t, .int .u64 d, .int .i64 0]) := Lib.hid ((((RA8.out.alloc _).alloc _).alloc _).below hb (by first | exact hgA8 | (simp; omega) | omega))
  have hgA9 : y7.heap.size < y9.heap.size := RA9.out.lt
  have RZ9 : Hid (Row y9 y8.heap.size 24 [.int .i64 t, .int .u64 d, .int .i64 4]) := Lib.hid (by
    have h := Row.new y8 24 [.int .i64 t, .int .u64 d, .int .i64 4]
    exact ((h.alloc (.cells ([.int .i64 t, .int .u64 d, .int .i64 0] : List Value).toArray 24)).alloc (.cells ([.int .i64 t, .int .u64 d, .int .i64 4] : List Value).toArray 24)).below hb (by first | (simp; omega) | simp | omega))
  have hgZ9 : y8.heap.size < y9.heap.size := RZ9.out.lt
  have RV9 : Hid (Row y9 (y8.heap.size + 1) 24 [.int .i64 t, .int .u64 d, .int .i64 0]) := Lib.hid (by
    have h := Row.new (y8.alloc (.cells ([.int .i64 t, .int .u64 d, .int .i64 4] : List Value).toArray 24)) 24 [.int .i64 t, .int .u64 d, .int .i64 0]
    simp only [World.size_alloc, Nat.add_assoc, Nat.reduceAdd] at h
    exact (h.alloc (.cells ([.int .i64 t, .int .u64 d, .int .i64 4] : List Value).toArray 24)).below hb (by first | (simp; omega) | simp | omega))
  have hgV9 : (y8.heap.size + 1) < y9.heap.size := RV9.out.lt
  have RU9 : Hid (Row y9 (y8.heap.size + 2) 24 [.int .i64 t, .int .u64 d, .int .i64 4]) := Lib.hid (by
    have h := Row.new ((y8.alloc (.cells ([.int .i64 t, .int .u64 d, .int .i64 4] : List Value).toArray 24)).alloc (.cells ([.int .i64 t, .int .u64 d, .int .i64 0] : List Value).toArray 24)) 24 [.int .i64 t, .int .u64 d, .int .i64 4]
    simp only [World.size_alloc, Nat.add_assoc, Nat.reduceAdd] at h
    exact h.below hb (by first | (simp; omega) | simp | omega))
  have hgU9 : (y8.heap.size + 2) < y9.heap.size := RU9.out.lt
  clear hb
  have cS9_0 := RS9.out.cell 0
  have cS9_1 := RS9.out.cell 1
  have cS9_2 := RS9.out.cell 2
  simp only [List.getElem?_cons_zero, List.getElem?_cons_succ] at cS9_0 cS9_1 cS9_2
  have cX9_0 := RX9.out.cell 0
  have cX9_1 := RX9.out.cell 1
  have cX9_2 := RX9.out.cell 2
  simp only [List.getElem?_cons_zero, List.getElem?_cons_succ] at cX9_0 cX9_1 cX9_2
  have cY9_0 := RY9.out.cell 0
  have cY9_1 := RY9.out.cell 1
  have cY9_2 := RY9.out.cell 2
  simp only [List.getElem?_cons_zero, List.getElem?_cons_succ] at cY9_0 cY9_1 cY9_2
  have cA9_0 := RA9.out.cell 0
  have cA9_1 := RA9.out.cell 1
  have cA9_2 := RA9.out.cell 2
  simp only [List.getElem?_cons_zero, List.getElem?_cons_succ] at cA9_0 cA9_1 cA9_2
  have cZ9_0 := RZ9.out.cell 0
  have cZ9_1 := RZ9.out.cell 1
  have cZ9_2 := RZ9.out.cell 2
  simp only [List.getElem?_cons_zero, List.getElem?_cons_succ] at cZ9_0 cZ9_1 cZ9_2
  have cV9_0 := RV9.out.cell 0
  have cV9_1 := RV9.out.cell 1
  have cV9_2 := RV9.out.cell 2
  simp only [List.getElem?_cons_zero, List.getElem?_cons_succ] at cV9_0 cV9_1 cV9_2
  have cU9_0 := RU9.out.cell 0
  have cU9_1 := RU9.out.cell 1
  have cU9_2 := RU9.out.cell 2
  simp only [List.getElem?_cons_zero, List.getElem?_cons_succ] at cU9_0 cU9_1 cU9_2
  go_wp2_with fail
  go_ret
  exact ⟨rfl, (B9.out.alloc hz9 (.cells ([.int .i64 0, .int .u64 0, .int .i64 0] : List Value).toArray 24))⟩

set_option maxRecDepth 100000 in
set_option maxHeartbeats 4000000 in
theorem steps_timeWhigh (t d n k X1 X2 X3 m : Int) (key said c : ByteArray) (C : List Value) (hCl : C.length = 16) (w : World) (zN : Nat) (hzm : max key.size said.size = zN) (hz200 : ¬ (200 : Int) < (zN : Int))
    (HG : Hid (G w)) (HT10 : Hid (T10 w)) (hl : n < d) (hl' : ¬ d ≤ n) (hl2 : decide (d ≤ n) = false) (hb1 : ¬ t < 1) (hb2 : 9 < t)
    (HA : Hid (∀ W : World, G W → Calls Tryz.prog 4 #[] W fun e w' => e = .returned (.bool true) ∧ Below W.heap.size W w'))
    (HSM : Hid (∀ W : World, Calls Tryz.prog 5 #[.agg #[.int .i64 t, .int .u64 d, .int .i64 0]] W fun e w' => e = .returned (.bool true) ∧ Below W.heap.size W w'))
    (HCO : Hid (∀ W : World, G W → T10 W → Calls Tryz.prog 6 #[.string key, .agg C.toArray] W fun e w' => e = .returned (.string c) ∧ Below W.heap.size W w'))
    (HRC : Hid (∀ W : World, Calls Tryz.prog 7 #[.string key, .agg C.toArray] W fun e w' => e = .returned (.string c) ∧ Below W.heap.size W w'))
    (HE : Hid (∀ W : World, Calls Tryz.prog 8 #[.agg #[.int .i64 t, .int .u64 d, .int .i64 0], .string c, .string said, .int .u64 n] W fun e w' => e = .returned (.tuple #[.agg #[.int .i64 X1, .int .u64 d, .int .i64 X2], .int .i64 X3]) ∧ Below W.heap.size W w'))
    (HF : Hid (∀ W : World, Calls Tryz.prog 9 #[.agg #[.int .i64 t, .int .u64 d, .int .i64 0], .string c, .string said, .int .u64 n] W fun e w' => e = .returned (.tuple #[.agg #[.int .i64 X1, .int .u64 d, .int .i64 X2], .int .i64 X3]) ∧ Below W.heap.size W w'))
    (HTK : Hid (∀ W : World, Calls Tryz.prog 10 #[.agg #[.int .i64 t, .int .u64 d, .int .i64 0], .int .u64 n] W fun e w' => e = .returned (.tuple #[.agg #[.int .i64 t, .int .u64 d, .int .i64 0], .bool false]) ∧ Below W.heap.size W w'))
    (HCA : Hid (∀ W : World, Calls Tryz.prog 11 #[.agg #[.int .i64 t, .int .u64 d, .int .i64 0], .int .u64 n] W fun e w' => e = .returned (.tuple #[.agg #[.int .i64 t, .int .u64 d, .int .i64 4], .bool true]) ∧ Below W.heap.size W w'))
    (HBE : Hid (∀ W : World, Calls Tryz.prog 12 #[.int .i64 t, .int .u64 n, .int .u64 k] W fun e w' => e = .returned (.tuple #[.agg #[.int .i64 0, .int .u64 0, .int .i64 0], .int .i64 7]) ∧ Below W.heap.size W w')) :
    Calls Tryz.prog 3 #[.agg #[.int .i64 t, .int .u64 d, .int .i64 0], .string key, .string said, .agg C.toArray, .int .u64 n, .int .u64 k, .bool false] w fun e w' => e = .returned (.bool true) ∧ Below w.heap.size w w' := by
  have hxl := fun ts T W => max2r (P := Tryz.prog) ts T key.size said.size W
  rw [hzm] at hxl
  have HQ1 := fun W => st_self X1 d X2 W
  have HQR := fun W => rst_self X1 d X2 W
  have HQ2 := fun W => st_self t d 0 W
  have HQ3 := fun W => st_self t d 4 W
  have HQ4 := fun W => st_selfN 0 0 0 W
  have rS : Row ((w.alloc (.cells ([.int .i64 t, .int .u64 d, .int .i64 0] : List Value).toArray 24)).alloc (.cells C.toArray 26)) w.heap.size 24 [.int .i64 t, .int .u64 d, .int .i64 0] := (Row.new w 24 [.int .i64 t, .int .u64 d, .int .i64 0]).alloc _
  have rI : Row ((w.alloc (.cells ([.int .i64 t, .int .u64 d, .int .i64 0] : List Value).toArray 24)).alloc (.cells C.toArray 26)) (w.heap.size + 1) 26 C := by
    have h := Row.new (w.alloc (.cells ([.int .i64 t, .int .u64 d, .int .i64 0] : List Value).toArray 24)) 26 C
    rwa [World.size_alloc] at h
  have b0 : Below w.heap.size w ((w.alloc (.cells ([.int .i64 t, .int .u64 d, .int .i64 0] : List Value).toArray 24)).alloc (.cells C.toArray 26)) := ((Below.refl _ _).alloc (Nat.le_refl _) _).alloc (by simp) _
  have hw0 : w.heap.size ≤ ((w.alloc (.cells ([.int .i64 t, .int .u64 d, .int .i64 0] : List Value).toArray 24)).alloc (.cells C.toArray 26)).heap.size := b0.size
  have hgS0 : w.heap.size < ((w.alloc (.cells ([.int .i64 t, .int .u64 d, .int .i64 0] : List Value).toArray 24)).alloc (.cells C.toArray 26)).heap.size := rS.lt
  have hgI0 : w.heap.size + 1 < ((w.alloc (.cells ([.int .i64 t, .int .u64 d, .int .i64 0] : List Value).toArray 24)).alloc (.cells C.toArray 26)).heap.size := rI.lt
  clear hzm
  go_enter Tryz.func3, Tryz.ntmps3
  go_wp2_with fail
  refine (HA.out _ (HG.out.below b0)).mono ?_
  rintro e y1 ⟨rfl, hb⟩
  have B1 := Lib.hid (b0.trans (hb.mono (by first | exact hw0 | (simp; omega) | omega)))
  have hz1 : w.heap.size ≤ y1.heap.size := B1.out.size
  have RS1 : Hid (Row y1 w.heap.size 24 [.int .i64 t, .int .u64 d, .int .i64 0]) := Lib.hid (rS.below hb (by first | exact hgS0 | (simp; omega) | omega))
  have hgS1 : w.heap.size < y1.heap.size := RS1.out.lt
  have RI1 : Hid (Row y1 (w.heap.size + 1) 26 C) := Lib.hid (rI.below hb (by first | exact hgI0 | (simp; omega) | omega))
  have hgI1 : (w.heap.size + 1) < y1.heap.size := RI1.out.lt
  clear hb
  have cS1_0 := RS1.out.cell 0
  have cS1_1 := RS1.out.cell 1
  have cS1_2 := RS1.out.cell 2
  simp only [List.getElem?_cons_zero, List.getElem?_cons_succ] at cS1_0 cS1_1 cS1_2
  go_wp2_with fail
  refine (HSM.out _).mono ?_
  rintro e y2 ⟨rfl, hb⟩
  have B2 := Lib.hid (B1.out.trans (hb.mono (by first | exact hz1 | (simp; omega) | omega)))
  have hz2 : w.heap.size ≤ y2.heap.size := B2.out.size
  have RS2 : Hid (Row y2 w.heap.size 24 [.int .i64 t, .int .u64 d, .int .i64 0]) := Lib.hid (RS1.out.below hb (by first | exact hgS1 | (simp; omega) | omega))
  have hgS2 : w.heap.size < y2.heap.size := RS2.out.lt
  have RI2 : Hid (Row y2 (w.heap.size + 1) 26 C) := Lib.hid (RI1.out.below hb (by first | exact hgI1 | (simp; omega) | omega))
  have hgI2 : (w.heap.size + 1) < y2.heap.size := RI2.out.lt
  clear hb
  have cS2_0 := RS2.out.cell 0
  have cS2_1 := RS2.out.cell 1
  have cS2_2 := RS2.out.cell 2
  simp only [List.getElem?_cons_zero, List.getElem?_cons_succ] at cS2_0 cS2_1 cS2_2
  go_wp2_with (first
      | (refine wpList_load_row rfl 26 (.tmp 10) rfl (w.heap.size + 1) rfl 26 C.toArray (0, 0) _ RI2.out Tryz.underlying26 rfl (by rw [List.size_toArray, hCl]; kernel_rfl) ?_)
      | fail)
  refine (HCO.out _ (HG.out.below B2.out) (HT10.out.below B2.out)).mono ?_
  rintro e y3 ⟨rfl, hb⟩
  have B3 := Lib.hid (B2.out.trans (hb.mono (by first | exact hz2 | (simp; omega) | omega)))
  have hz3 : w.heap.size ≤ y3.heap.size := B3.out.size
  have RS3 : Hid (Row y3 w.heap.size 24 [.int .i64 t, .int .u64 d, .int .i64 0]) := Lib.hid (RS2.out.below hb (by first | exact hgS2 | (simp; omega) | omega))
  have hgS3 : w.heap.size < y3.heap.size := RS3.out.lt
  have RI3 : Hid (Row y3 (w.heap.size + 1) 26 C) := Lib.hid (RI2.out.below hb (by first | exact hgI2 | (simp; omega) | omega))
  have hgI3 : (w.heap.size + 1) < y3.heap.size := RI3.out.lt
  clear hb
  have cS3_0 := RS3.out.cell 0
  have cS3_1 := RS3.out.cell 1
  have cS3_2 := RS3.out.cell 2
  simp only [List.getElem?_cons_zero, List.getElem?_cons_succ] at cS3_0 cS3_1 cS3_2
  go_wp2_with (first
      | (refine wpList_load_row rfl 26 (.tmp 10) rfl (w.heap.size + 1) rfl 26 C.toArray (0, 0) _ RI3.out Tryz.underlying26 rfl (by rw [List.size_toArray, hCl]; kernel_rfl) ?_)
      | fail)
  refine (HRC.out _).mono ?_
  rintro e y4 ⟨rfl, hb⟩
  have B4 := Lib.hid (B3.out.trans (hb.mono (by first | exact hz3 | (simp; omega) | omega)))
  have hz4 : w.heap.size ≤ y4.heap.size := B4.out.size
  have RS4 : Hid (Row y4 w.heap.size 24 [.int .i64 t, .int .u64 d, .int .i64 0]) := Lib.hid (RS3.out.below hb (by first | exact hgS3 | (simp; omega) | omega))
  have hgS4 : w.heap.size < y4.heap.size := RS4.out.lt
  have RI4 : Hid (Row y4 (w.heap.size + 1) 26 C) := Lib.hid (RI3.out.below hb (by first | exact hgI3 | (simp; omega) | omega))
  have hgI4 : (w.heap.size + 1) < y4.heap.size := RI4.out.lt
  clear hb
  have cS4_0 := RS4.out.cell 0
  have cS4_1 := RS4.out.cell 1
  have cS4_2 := RS4.out.cell 2
  simp only [List.getElem?_cons_zero, List.getElem?_cons_succ] at cS4_0 cS4_1 cS4_2
  go_wp2_with fail
  refine (HE.out _).mono ?_
  rintro e y5 ⟨rfl, hb⟩
  have B5 := Lib.hid (B4.out.trans (hb.mono (by first | exact hz4 | (simp; omega) | omega)))
  have hz5 : w.heap.size ≤ y5.heap.size := B5.out.size
  have RS5 : Hid (Row y5 w.heap.size 24 [.int .i64 t, .int .u64 d, .int .i64 0]) := Lib.hid (RS4.out.below hb (by first | exact hgS4 | (simp; omega) | omega))
  have hgS5 : w.heap.size < y5.heap.size := RS5.out.lt
  have RI5 : Hid (Row y5 (w.heap.size + 1) 26 C) := Lib.hid (RI4.out.below hb (by first | exact hgI4 | (simp; omega) | omega))
  have hgI5 : (w.heap.size + 1) < y5.heap.size := RI5.out.lt
  clear hb
  have cS5_0 := RS5.out.cell 0
  have cS5_1 := RS5.out.cell 1
  have cS5_2 := RS5.out.cell 2
  simp only [List.getElem?_cons_zero, List.getElem?_cons_succ] at cS5_0 cS5_1 cS5_2
  go_wp2_with fail
  refine (HF.out _).mono ?_
  rintro e y6 ⟨rfl, hb⟩
  have B6 := Lib.hid ((B5.out.alloc (by first | exact hz5 | (simp; omega) | omega) (.cells ([.int .i64 X1, .int .u64 d, .int .i64 X2] : List Value).toArray 24)).trans (hb.mono (by first | exact hz5 | (simp; omega) | omega)))
  have hz6 : w.heap.size ≤ y6.heap.size := B6.out.size
  have RS6 : Hid (Row y6 w.heap.size 24 [.int .i64 t, .int .u64 d, .int .i64 0]) := Lib.hid ((RS5.out.alloc _).below hb (by first | exact hgS5 | (simp; omega) | omega))
  have hgS6 : w.heap.size < y6.heap.size := RS6.out.lt
  have RI6 : Hid (Row y6 (w.heap.size + 1) 26 C) := Lib.hid ((RI5.out.alloc _).below hb (by first | exact hgI5 | (simp; omega) | omega))
  have hgI6 : (w.heap.size + 1) < y6.heap.size := RI6.out.lt
  have RX6 : Hid (Row y6 y5.heap.size 24 [.int .i64 X1, .int .u64 d, .int .i64 X2]) := Lib.hid (by
    have h := Row.new y5 24 [.int .i64 X1, .int .u64 d, .int .i64 X2]
    exact h.below hb (by first | (simp; omega) | simp | omega))
  have hgX6 : y5.heap.size < y6.heap.size := RX6.out.lt
  clear hb
  have cS6_0 := RS6.out.cell 0
  have cS6_1 := RS6.out.cell 1
  have cS6_2 := RS6.out.cell 2
  simp only [List.getElem?_cons_zero, List.getElem?_cons_succ] at cS6_0 cS6_1 cS6_2
  go_wp2_with fail
  refine (HTK.out _).mono ?_
  rintro e y7 ⟨rfl, hb⟩
  have B7 := Lib.hid ((B6.out.alloc (by first | exact hz6 | (simp; omega) | omega) (.cells ([.int .i64 X1, .int .u64 d, .int .i64 X2] : List Value).toArray 32)).trans (hb.mono (by first | exact hz6 | (simp; omega) | omega)))
  have hz7 : w.heap.size ≤ y7.heap.size := B7.out.size
  have RS7 : Hid (Row y7 w.heap.size 24 [.int .i64 t, .int .u64 d, .int .i64 0]) := Lib.hid ((RS6.out.alloc _).below hb (by first | exact hgS6 | (simp; omega) | omega))
  have hgS7 : w.heap.size < y7.heap.size := RS7.out.lt
  have RI7 : Hid (Row y7 (w.heap.size + 1) 26 C) := Lib.hid ((RI6.out.alloc _).below hb (by first | exact hgI6 | (simp; omega) | omega))
  have hgI7 : (w.heap.size + 1) < y7.heap.size := RI7.out.lt
  have RX7 : Hid (Row y7 y5.heap.size 24 [.int .i64 X1, .int .u64 d, .int .i64 X2]) := Lib.hid ((RX6.out.alloc _).below hb (by first | exact hgX6 | (simp; omega) | omega))
  have hgX7 : y5.heap.size < y7.heap.size := RX7.out.lt
  have RY7 : Hid (Row y7 y6.heap.size 32 [.int .i64 X1, .int .u64 d, .int .i64 X2]) := Lib.hid (by
    have h := Row.new y6 32 [.int .i64 X1, .int .u64 d, .int .i64 X2]
    exact h.below hb (by first | (simp; omega) | simp | omega))
  have hgY7 : y6.heap.size < y7.heap.size := RY7.out.lt
  clear hb
  have cS7_0 := RS7.out.cell 0
  have cS7_1 := RS7.out.cell 1
  have cS7_2 := RS7.out.cell 2
  simp only [List.getElem?_cons_zero, List.getElem?_cons_succ] at cS7_0 cS7_1 cS7_2
  go_wp2_with fail
  refine (HCA.out _).mono ?_
  rintro e y8 ⟨rfl, hb⟩
  have B8 := Lib.hid ((B7.out.alloc (by first | exact hz7 | (simp; omega) | omega) (.cells ([.int .i64 t, .int .u64 d, .int .i64 0] : List Value).toArray 24)).trans (hb.mono (by first | exact hz7 | (simp; omega) | omega)))
  have hz8 : w.heap.size ≤ y8.heap.size := B8.out.size
  have RS8 : Hid (Row y8 w.heap.size 24 [.int .i64 t, .int .u64 d, .int .i64 0]) := Lib.hid ((RS7.out.alloc _).below hb (by first | exact hgS7 | (simp; omega) | omega))
  have hgS8 : w.heap.size < y8.heap.size := RS8.out.lt
  have RI8 : Hid (Row y8 (w.heap.size + 1) 26 C) := Lib.hid ((RI7.out.alloc _).below hb (by first | exact hgI7 | (simp; omega) | omega))
  have hgI8 : (w.heap.size + 1) < y8.heap.size := RI8.out.lt
  have RX8 : Hid (Row y8 y5.heap.size 24 [.int .i64 X1, .int .u64 d, .int .i64 X2]) := Lib.hid ((RX7.out.alloc _).below hb (by first | exact hgX7 | (simp; omega) | omega))
  have hgX8 : y5.heap.size < y8.heap.size := RX8.out.lt
  have RY8 : Hid (Row y8 y6.heap.size 32 [.int .i64 X1, .int .u64 d, .int .i64 X2]) := Lib.hid ((RY7.out.alloc _).below hb (by first | exact hgY7 | (simp; omega) | omega))
  have hgY8 : y6.heap.size < y8.heap.size := RY8.out.lt
  have RA8 : Hid (Row y8 y7.heap.size 24 [.int .i64 t, .int .u64 d, .int .i64 0]) := Lib.hid (by
    have h := Row.new y7 24 [.int .i64 t, .int .u64 d, .int .i64 0]
    exact h.below hb (by first | (simp; omega) | simp | omega))
  have hgA8 : y7.heap.size < y8.heap.size := RA8.out.lt
  clear hb
  have cS8_0 := RS8.out.cell 0
  have cS8_1 := RS8.out.cell 1
  have cS8_2 := RS8.out.cell 2
  simp only [List.getElem?_cons_zero, List.getElem?_cons_succ] at cS8_0 cS8_1 cS8_2
  have hv1 : w.heap.size < y8.heap.size + 1 := by omega
  have hv2 : w.heap.size < y8.heap.size + 1 + 1 := by omega
  have hv3 : w.heap.size < y8.heap.size + 2 := by omega
  have hv4 : w.heap.size < y8.heap.size + 1 + 1 + 1 := by omega
  go_wp2_with fail
  refine (HBE.out _).mono ?_
  rintro e y9 ⟨rfl, hb⟩
  have B9 := Lib.hid ((((B8.out.alloc (by first | exact hz8 | (simp; omega) | omega) (.cells ([.int .i64 t, .int .u64 d, .int .i64 4] : List Value).toArray 24)).alloc (by first | exact hz8 | (simp; omega) | omega) (.cells ([.int .i64 t, .int .u64 d, .int .i64 0] : List Value).toArray 24)).alloc (by first | exact hz8 | (simp; omega) | omega) (.cells ([.int .i64 t, .int .u64 d, .int .i64 4] : List Value).toArray 24)).trans (hb.mono (by first | exact hz8 | (simp; omega) | omega)))
  have hz9 : w.heap.size ≤ y9.heap.size := B9.out.size
  have RS9 : Hid (Row y9 w.heap.size 24 [.int .i64 t, .int .u64 d, .int .i64 0]) := Lib.hid ((((RS8.out.alloc _).alloc _).alloc _).below hb (by first | exact hgS8 | (simp; omega) | omega))
  have hgS9 : w.heap.size < y9.heap.size := RS9.out.lt
  have RI9 : Hid (Row y9 (w.heap.size + 1) 26 C) := Lib.hid ((((RI8.out.alloc _).alloc _).alloc _).below hb (by first | exact hgI8 | (simp; omega) | omega))
  have hgI9 : (w.heap.size + 1) < y9.heap.size := RI9.out.lt
  have RX9 : Hid (Row y9 y5.heap.size 24 [.int .i64 X1, .int .u64 d, .int .i64 X2]) := Lib.hid ((((RX8.out.alloc _).alloc _).alloc _).below hb (by first | exact hgX8 | (simp; omega) | omega))
  have hgX9 : y5.heap.size < y9.heap.size := RX9.out.lt
  have RY9 : Hid (Row y9 y6.heap.size 32 [.int .i64 X1, .int .u64 d, .int .i64 X2]) := Lib.hid ((((RY8.out.alloc _).alloc _).alloc _).below hb (by first | exact hgY8 | (simp; omega) | omega))
  have hgY9 : y6.heap.size < y9.heap.size := RY9.out.lt
  have RA9 : Hid (Row y9 y7.heap.size 24 [.int .i64 t, .int .u64 d, .int .i64 0]) := Lib.hid ((((RA8.out.alloc _).alloc _).alloc _).below hb (by first | exact hgA8 | (simp; omega) | omega))
  have hgA9 : y7.heap.size < y9.heap.size := RA9.out.lt
  have RZ9 : Hid (Row y9 y8.heap.size 24 [.int .i64 t, .int .u64 d, .int .i64 4]) := Lib.hid (by
    have h := Row.new y8 24 [.int .i64 t, .int .u64 d, .int .i64 4]
    exact ((h.alloc (.cells ([.int .i64 t, .int .u64 d, .int .i64 0] : List Value).toArray 24)).alloc (.cells ([.int .i64 t, .int .u64 d, .int .i64 4] : List Value).toArray 24)).below hb (by first | (simp; omega) | simp | omega))
  have hgZ9 : y8.heap.size < y9.heap.size := RZ9.out.lt
  have RV9 : Hid (Row y9 (y8.heap.size + 1) 24 [.int .i64 t, .int .u64 d, .int .i64 0]) := Lib.hid (by
    have h := Row.new (y8.alloc (.cells ([.int .i64 t, .int .u64 d, .int .i64 4] : List Value).toArray 24)) 24 [.int .i64 t, .int .u64 d, .int .i64 0]
    simp only [World.size_alloc, Nat.add_assoc, Nat.reduceAdd] at h
    exact (h.alloc (.cells ([.int .i64 t, .int .u64 d, .int .i64 4] : List Value).toArray 24)).below hb (by first | (simp; omega) | simp | omega))
  have hgV9 : (y8.heap.size + 1) < y9.heap.size := RV9.out.lt
  have RU9 : Hid (Row y9 (y8.heap.size + 2) 24 [.int .i64 t, .int .u64 d, .int .i64 4]) := Lib.hid (by
    have h := Row.new ((y8.alloc (.cells ([.int .i64 t, .int .u64 d, .int .i64 4] : List Value).toArray 24)).alloc (.cells ([.int .i64 t, .int .u64 d, .int .i64 0] : List Value).toArray 24)) 24 [.int .i64 t, .int .u64 d, .int .i64 4]
    simp only [World.size_alloc, Nat.add_assoc, Nat.reduceAdd] at h
    exact h.below hb (by first | (simp; omega) | simp | omega))
  have hgU9 : (y8.heap.size + 2) < y9.heap.size := RU9.out.lt
  clear hb
  have cS9_0 := RS9.out.cell 0
  have cS9_1 := RS9.out.cell 1
  have cS9_2 := RS9.out.cell 2
  simp only [List.getElem?_cons_zero, List.getElem?_cons_succ] at cS9_0 cS9_1 cS9_2
  have cX9_0 := RX9.out.cell 0
  have cX9_1 := RX9.out.cell 1
  have cX9_2 := RX9.out.cell 2
  simp only [List.getElem?_cons_zero, List.getElem?_cons_succ] at cX9_0 cX9_1 cX9_2
  have cY9_0 := RY9.out.cell 0
  have cY9_1 := RY9.out.cell 1
  have cY9_2 := RY9.out.cell 2
  simp only [List.getElem?_cons_zero, List.getElem?_cons_succ] at cY9_0 cY9_1 cY9_2
  have cA9_0 := RA9.out.cell 0
  have cA9_1 := RA9.out.cell 1
  have cA9_2 := RA9.out.cell 2
  simp only [List.getElem?_cons_zero, List.getElem?_cons_succ] at cA9_0 cA9_1 cA9_2
  have cZ9_0 := RZ9.out.cell 0
  have cZ9_1 := RZ9.out.cell 1
  have cZ9_2 := RZ9.out.cell 2
  simp only [List.getElem?_cons_zero, List.getElem?_cons_succ] at cZ9_0 cZ9_1 cZ9_2
  have cV9_0 := RV9.out.cell 0
  have cV9_1 := RV9.out.cell 1
  have cV9_2 := RV9.out.cell 2
  simp only [List.getElem?_cons_zero, List.getElem?_cons_succ] at cV9_0 cV9_1 cV9_2
  have cU9_0 := RU9.out.cell 0
  have cU9_1 := RU9.out.cell 1
  have cU9_2 := RU9.out.cell 2
  simp only [List.getElem?_cons_zero, List.getElem?_cons_succ] at cU9_0 cU9_1 cU9_2
  go_wp2_with fail
  go_ret
  exact ⟨rfl, (B9.out.alloc hz9 (.cells ([.int .i64 0, .int .u64 0, .int .i64 0] : List Value).toArray 24))⟩

set_option maxRecDepth 100000 in
set_option maxHeartbeats 4000000 in
theorem steps_timeWok (t d n k X1 X2 X3 m : Int) (key said c : ByteArray) (C : List Value) (hCl : C.length = 16) (w : World) (zN : Nat) (hzm : max key.size said.size = zN) (hz200 : ¬ (200 : Int) < (zN : Int))
    (HG : Hid (G w)) (HT10 : Hid (T10 w)) (hl : n < d) (hl' : ¬ d ≤ n) (hl2 : decide (d ≤ n) = false) (hb1 : ¬ t < 1) (hb2 : ¬ 9 < t)
    (HA : Hid (∀ W : World, G W → Calls Tryz.prog 4 #[] W fun e w' => e = .returned (.bool true) ∧ Below W.heap.size W w'))
    (HSM : Hid (∀ W : World, Calls Tryz.prog 5 #[.agg #[.int .i64 t, .int .u64 d, .int .i64 0]] W fun e w' => e = .returned (.bool true) ∧ Below W.heap.size W w'))
    (HCO : Hid (∀ W : World, G W → T10 W → Calls Tryz.prog 6 #[.string key, .agg C.toArray] W fun e w' => e = .returned (.string c) ∧ Below W.heap.size W w'))
    (HRC : Hid (∀ W : World, Calls Tryz.prog 7 #[.string key, .agg C.toArray] W fun e w' => e = .returned (.string c) ∧ Below W.heap.size W w'))
    (HE : Hid (∀ W : World, Calls Tryz.prog 8 #[.agg #[.int .i64 t, .int .u64 d, .int .i64 0], .string c, .string said, .int .u64 n] W fun e w' => e = .returned (.tuple #[.agg #[.int .i64 X1, .int .u64 d, .int .i64 X2], .int .i64 X3]) ∧ Below W.heap.size W w'))
    (HF : Hid (∀ W : World, Calls Tryz.prog 9 #[.agg #[.int .i64 t, .int .u64 d, .int .i64 0], .string c, .string said, .int .u64 n] W fun e w' => e = .returned (.tuple #[.agg #[.int .i64 X1, .int .u64 d, .int .i64 X2], .int .i64 X3]) ∧ Below W.heap.size W w'))
    (HTK : Hid (∀ W : World, Calls Tryz.prog 10 #[.agg #[.int .i64 t, .int .u64 d, .int .i64 0], .int .u64 n] W fun e w' => e = .returned (.tuple #[.agg #[.int .i64 t, .int .u64 d, .int .i64 0], .bool false]) ∧ Below W.heap.size W w'))
    (HCA : Hid (∀ W : World, Calls Tryz.prog 11 #[.agg #[.int .i64 t, .int .u64 d, .int .i64 0], .int .u64 n] W fun e w' => e = .returned (.tuple #[.agg #[.int .i64 t, .int .u64 d, .int .i64 4], .bool true]) ∧ Below W.heap.size W w'))
    (HBE : Hid (∀ W : World, Calls Tryz.prog 12 #[.int .i64 t, .int .u64 n, .int .u64 k] W fun e w' => e = .returned (.tuple #[.agg #[.int .i64 t, .int .u64 m, .int .i64 0], .int .i64 0]) ∧ Below W.heap.size W w'))
    (HLA : Hid (∀ W : World, Calls Tryz.prog 13 #[.int .u64 n, .int .u64 k] W fun e w' => e = .returned (.int .u64 m) ∧ W = w')) :
    Calls Tryz.prog 3 #[.agg #[.int .i64 t, .int .u64 d, .int .i64 0], .string key, .string said, .agg C.toArray, .int .u64 n, .int .u64 k, .bool false] w fun e w' => e = .returned (.bool true) ∧ Below w.heap.size w w' := by
  have hxl := fun ts T W => max2r (P := Tryz.prog) ts T key.size said.size W
  rw [hzm] at hxl
  have HQ1 := fun W => st_self X1 d X2 W
  have HQR := fun W => rst_self X1 d X2 W
  have HQ2 := fun W => st_self t d 0 W
  have HQ3 := fun W => st_self t d 4 W
  have HQ4 := fun W => st_selfN t m 0 W
  have rS : Row ((w.alloc (.cells ([.int .i64 t, .int .u64 d, .int .i64 0] : List Value).toArray 24)).alloc (.cells C.toArray 26)) w.heap.size 24 [.int .i64 t, .int .u64 d, .int .i64 0] := (Row.new w 24 [.int .i64 t, .int .u64 d, .int .i64 0]).alloc _
  have rI : Row ((w.alloc (.cells ([.int .i64 t, .int .u64 d, .int .i64 0] : List Value).toArray 24)).alloc (.cells C.toArray 26)) (w.heap.size + 1) 26 C := by
    have h := Row.new (w.alloc (.cells ([.int .i64 t, .int .u64 d, .int .i64 0] : List Value).toArray 24)) 26 C
    rwa [World.size_alloc] at h
  have b0 : Below w.heap.size w ((w.alloc (.cells ([.int .i64 t, .int .u64 d, .int .i64 0] : List Value).toArray 24)).alloc (.cells C.toArray 26)) := ((Below.refl _ _).alloc (Nat.le_refl _) _).alloc (by simp) _
  have hw0 : w.heap.size ≤ ((w.alloc (.cells ([.int .i64 t, .int .u64 d, .int .i64 0] : List Value).toArray 24)).alloc (.cells C.toArray 26)).heap.size := b0.size
  have hgS0 : w.heap.size < ((w.alloc (.cells ([.int .i64 t, .int .u64 d, .int .i64 0] : List Value).toArray 24)).alloc (.cells C.toArray 26)).heap.size := rS.lt
  have hgI0 : w.heap.size + 1 < ((w.alloc (.cells ([.int .i64 t, .int .u64 d, .int .i64 0] : List Value).toArray 24)).alloc (.cells C.toArray 26)).heap.size := rI.lt
  clear hzm
  go_enter Tryz.func3, Tryz.ntmps3
  go_wp2_with fail
  refine (HA.out _ (HG.out.below b0)).mono ?_
  rintro e y1 ⟨rfl, hb⟩
  have B1 := Lib.hid (b0.trans (hb.mono (by first | exact hw0 | (simp; omega) | omega)))
  have hz1 : w.heap.size ≤ y1.heap.size := B1.out.size
  have RS1 : Hid (Row y1 w.heap.size 24 [.int .i64 t, .int .u64 d, .int .i64 0]) := Lib.hid (rS.below hb (by first | exact hgS0 | (simp; omega) | omega))
  have hgS1 : w.heap.size < y1.heap.size := RS1.out.lt
  have RI1 : Hid (Row y1 (w.heap.size + 1) 26 C) := Lib.hid (rI.below hb (by first | exact hgI0 | (simp; omega) | omega))
  have hgI1 : (w.heap.size + 1) < y1.heap.size := RI1.out.lt
  clear hb
  have cS1_0 := RS1.out.cell 0
  have cS1_1 := RS1.out.cell 1
  have cS1_2 := RS1.out.cell 2
  simp only [List.getElem?_cons_zero, List.getElem?_cons_succ] at cS1_0 cS1_1 cS1_2
  go_wp2_with fail
  refine (HSM.out _).mono ?_
  rintro e y2 ⟨rfl, hb⟩
  have B2 := Lib.hid (B1.out.trans (hb.mono (by first | exact hz1 | (simp; omega) | omega)))
  have hz2 : w.heap.size ≤ y2.heap.size := B2.out.size
  have RS2 : Hid (Row y2 w.heap.size 24 [.int .i64 t, .int .u64 d, .int .i64 0]) := Lib.hid (RS1.out.below hb (by first | exact hgS1 | (simp; omega) | omega))
  have hgS2 : w.heap.size < y2.heap.size := RS2.out.lt
  have RI2 : Hid (Row y2 (w.heap.size + 1) 26 C) := Lib.hid (RI1.out.below hb (by first | exact hgI1 | (simp; omega) | omega))
  have hgI2 : (w.heap.size + 1) < y2.heap.size := RI2.out.lt
  clear hb
  have cS2_0 := RS2.out.cell 0
  have cS2_1 := RS2.out.cell 1
  have cS2_2 := RS2.out.cell 2
  simp only [List.getElem?_cons_zero, List.getElem?_cons_succ] at cS2_0 cS2_1 cS2_2
  go_wp2_with (first
      | (refine wpList_load_row rfl 26 (.tmp 10) rfl (w.heap.size + 1) rfl 26 C.toArray (0, 0) _ RI2.out Tryz.underlying26 rfl (by rw [List.size_toArray, hCl]; kernel_rfl) ?_)
      | fail)
  refine (HCO.out _ (HG.out.below B2.out) (HT10.out.below B2.out)).mono ?_
  rintro e y3 ⟨rfl, hb⟩
  have B3 := Lib.hid (B2.out.trans (hb.mono (by first | exact hz2 | (simp; omega) | omega)))
  have hz3 : w.heap.size ≤ y3.heap.size := B3.out.size
  have RS3 : Hid (Row y3 w.heap.size 24 [.int .i64 t, .int .u64 d, .int .i64 0]) := Lib.hid (RS2.out.below hb (by first | exact hgS2 | (simp; omega) | omega))
  have hgS3 : w.heap.size < y3.heap.size := RS3.out.lt
  have RI3 : Hid (Row y3 (w.heap.size + 1) 26 C) := Lib.hid (RI2.out.below hb (by first | exact hgI2 | (simp; omega) | omega))
  have hgI3 : (w.heap.size + 1) < y3.heap.size := RI3.out.lt
  clear hb
  have cS3_0 := RS3.out.cell 0
  have cS3_1 := RS3.out.cell 1
  have cS3_2 := RS3.out.cell 2
  simp only [List.getElem?_cons_zero, List.getElem?_cons_succ] at cS3_0 cS3_1 cS3_2
  go_wp2_with (first
      | (refine wpList_load_row rfl 26 (.tmp 10) rfl (w.heap.size + 1) rfl 26 C.toArray (0, 0) _ RI3.out Tryz.underlying26 rfl (by rw [List.size_toArray, hCl]; kernel_rfl) ?_)
      | fail)
  refine (HRC.out _).mono ?_
  rintro e y4 ⟨rfl, hb⟩
  have B4 := Lib.hid (B3.out.trans (hb.mono (by first | exact hz3 | (simp; omega) | omega)))
  have hz4 : w.heap.size ≤ y4.heap.size := B4.out.size
  have RS4 : Hid (Row y4 w.heap.size 24 [.int .i64 t, .int .u64 d, .int .i64 0]) := Lib.hid (RS3.out.below hb (by first | exact hgS3 | (simp; omega) | omega))
  have hgS4 : w.heap.size < y4.heap.size := RS4.out.lt
  have RI4 : Hid (Row y4 (w.heap.size + 1) 26 C) := Lib.hid (RI3.out.below hb (by first | exact hgI3 | (simp; omega) | omega))
  have hgI4 : (w.heap.size + 1) < y4.heap.size := RI4.out.lt
  clear hb
  have cS4_0 := RS4.out.cell 0
  have cS4_1 := RS4.out.cell 1
  have cS4_2 := RS4.out.cell 2
  simp only [List.getElem?_cons_zero, List.getElem?_cons_succ] at cS4_0 cS4_1 cS4_2
  go_wp2_with fail
  refine (HE.out _).mono ?_
  rintro e y5 ⟨rfl, hb⟩
  have B5 := Lib.hid (B4.out.trans (hb.mono (by first | exact hz4 | (simp; omega) | omega)))
  have hz5 : w.heap.size ≤ y5.heap.size := B5.out.size
  have RS5 : Hid (Row y5 w.heap.size 24 [.int .i64 t, .int .u64 d, .int .i64 0]) := Lib.hid (RS4.out.below hb (by first | exact hgS4 | (simp; omega) | omega))
  have hgS5 : w.heap.size < y5.heap.size := RS5.out.lt
  have RI5 : Hid (Row y5 (w.heap.size + 1) 26 C) := Lib.hid (RI4.out.below hb (by first | exact hgI4 | (simp; omega) | omega))
  have hgI5 : (w.heap.size + 1) < y5.heap.size := RI5.out.lt
  clear hb
  have cS5_0 := RS5.out.cell 0
  have cS5_1 := RS5.out.cell 1
  have cS5_2 := RS5.out.cell 2
  simp only [List.getElem?_cons_zero, List.getElem?_cons_succ] at cS5_0 cS5_1 cS5_2
  go_wp2_with fail
  refine (HF.out _).mono ?_
  rintro e y6 ⟨rfl, hb⟩
  have B6 := Lib.hid ((B5.out.alloc (by first | exact hz5 | (simp; omega) | omega) (.cells ([.int .i64 X1, .int .u64 d, .int .i64 X2] : List Value).toArray 24)).trans (hb.mono (by first | exact hz5 | (simp; omega) | omega)))
  have hz6 : w.heap.size ≤ y6.heap.size := B6.out.size
  have RS6 : Hid (Row y6 w.heap.size 24 [.int .i64 t, .int .u64 d, .int .i64 0]) := Lib.hid ((RS5.out.alloc _).below hb (by first | exact hgS5 | (simp; omega) | omega))
  have hgS6 : w.heap.size < y6.heap.size := RS6.out.lt
  have RI6 : Hid (Row y6 (w.heap.size + 1) 26 C) := Lib.hid ((RI5.out.alloc _).below hb (by first | exact hgI5 | (simp; omega) | omega))
  have hgI6 : (w.heap.size + 1) < y6.heap.size := RI6.out.lt
  have RX6 : Hid (Row y6 y5.heap.size 24 [.int .i64 X1, .int .u64 d, .int .i64 X2]) := Lib.hid (by
    have h := Row.new y5 24 [.int .i64 X1, .int .u64 d, .int .i64 X2]
    exact h.below hb (by first | (simp; omega) | simp | omega))
  have hgX6 : y5.heap.size < y6.heap.size := RX6.out.lt
  clear hb
  have cS6_0 := RS6.out.cell 0
  have cS6_1 := RS6.out.cell 1
  have cS6_2 := RS6.out.cell 2
  simp only [List.getElem?_cons_zero, List.getElem?_cons_succ] at cS6_0 cS6_1 cS6_2
  go_wp2_with fail
  refine (HTK.out _).mono ?_
  rintro e y7 ⟨rfl, hb⟩
  have B7 := Lib.hid ((B6.out.alloc (by first | exact hz6 | (simp; omega) | omega) (.cells ([.int .i64 X1, .int .u64 d, .int .i64 X2] : List Value).toArray 32)).trans (hb.mono (by first | exact hz6 | (simp; omega) | omega)))
  have hz7 : w.heap.size ≤ y7.heap.size := B7.out.size
  have RS7 : Hid (Row y7 w.heap.size 24 [.int .i64 t, .int .u64 d, .int .i64 0]) := Lib.hid ((RS6.out.alloc _).below hb (by first | exact hgS6 | (simp; omega) | omega))
  have hgS7 : w.heap.size < y7.heap.size := RS7.out.lt
  have RI7 : Hid (Row y7 (w.heap.size + 1) 26 C) := Lib.hid ((RI6.out.alloc _).below hb (by first | exact hgI6 | (simp; omega) | omega))
  have hgI7 : (w.heap.size + 1) < y7.heap.size := RI7.out.lt
  have RX7 : Hid (Row y7 y5.heap.size 24 [.int .i64 X1, .int .u64 d, .int .i64 X2]) := Lib.hid ((RX6.out.alloc _).below hb (by first | exact hgX6 | (simp; omega) | omega))
  have hgX7 : y5.heap.size < y7.heap.size := RX7.out.lt
  have RY7 : Hid (Row y7 y6.heap.size 32 [.int .i64 X1, .int .u64 d, .int .i64 X2]) := Lib.hid (by
    have h := Row.new y6 32 [.int .i64 X1, .int .u64 d, .int .i64 X2]
    exact h.below hb (by first | (simp; omega) | simp | omega))
  have hgY7 : y6.heap.size < y7.heap.size := RY7.out.lt
  clear hb
  have cS7_0 := RS7.out.cell 0
  have cS7_1 := RS7.out.cell 1
  have cS7_2 := RS7.out.cell 2
  simp only [List.getElem?_cons_zero, List.getElem?_cons_succ] at cS7_0 cS7_1 cS7_2
  go_wp2_with fail
  refine (HCA.out _).mono ?_
  rintro e y8 ⟨rfl, hb⟩
  have B8 := Lib.hid ((B7.out.alloc (by first | exact hz7 | (simp; omega) | omega) (.cells ([.int .i64 t, .int .u64 d, .int .i64 0] : List Value).toArray 24)).trans (hb.mono (by first | exact hz7 | (simp; omega) | omega)))
  have hz8 : w.heap.size ≤ y8.heap.size := B8.out.size
  have RS8 : Hid (Row y8 w.heap.size 24 [.int .i64 t, .int .u64 d, .int .i64 0]) := Lib.hid ((RS7.out.alloc _).below hb (by first | exact hgS7 | (simp; omega) | omega))
  have hgS8 : w.heap.size < y8.heap.size := RS8.out.lt
  have RI8 : Hid (Row y8 (w.heap.size + 1) 26 C) := Lib.hid ((RI7.out.alloc _).below hb (by first | exact hgI7 | (simp; omega) | omega))
  have hgI8 : (w.heap.size + 1) < y8.heap.size := RI8.out.lt
  have RX8 : Hid (Row y8 y5.heap.size 24 [.int .i64 X1, .int .u64 d, .int .i64 X2]) := Lib.hid ((RX7.out.alloc _).below hb (by first | exact hgX7 | (simp; omega) | omega))
  have hgX8 : y5.heap.size < y8.heap.size := RX8.out.lt
  have RY8 : Hid (Row y8 y6.heap.size 32 [.int .i64 X1, .int .u64 d, .int .i64 X2]) := Lib.hid ((RY7.out.alloc _).below hb (by first | exact hgY7 | (simp; omega) | omega))
  have hgY8 : y6.heap.size < y8.heap.size := RY8.out.lt
  have RA8 : Hid (Row y8 y7.heap.size 24 [.int .i64 t, .int .u64 d, .int .i64 0]) := Lib.hid (by
    have h := Row.new y7 24 [.int .i64 t, .int .u64 d, .int .i64 0]
    exact h.below hb (by first | (simp; omega) | simp | omega))
  have hgA8 : y7.heap.size < y8.heap.size := RA8.out.lt
  clear hb
  have cS8_0 := RS8.out.cell 0
  have cS8_1 := RS8.out.cell 1
  have cS8_2 := RS8.out.cell 2
  simp only [List.getElem?_cons_zero, List.getElem?_cons_succ] at cS8_0 cS8_1 cS8_2
  have hv1 : w.heap.size < y8.heap.size + 1 := by omega
  have hv2 : w.heap.size < y8.heap.size + 1 + 1 := by omega
  have hv3 : w.heap.size < y8.heap.size + 2 := by omega
  have hv4 : w.heap.size < y8.heap.size + 1 + 1 + 1 := by omega
  go_wp2_with fail
  refine (HBE.out _).mono ?_
  rintro e y9 ⟨rfl, hb⟩
  have B9 := Lib.hid ((((B8.out.alloc (by first | exact hz8 | (simp; omega) | omega) (.cells ([.int .i64 t, .int .u64 d, .int .i64 4] : List Value).toArray 24)).alloc (by first | exact hz8 | (simp; omega) | omega) (.cells ([.int .i64 t, .int .u64 d, .int .i64 0] : List Value).toArray 24)).alloc (by first | exact hz8 | (simp; omega) | omega) (.cells ([.int .i64 t, .int .u64 d, .int .i64 4] : List Value).toArray 24)).trans (hb.mono (by first | exact hz8 | (simp; omega) | omega)))
  have hz9 : w.heap.size ≤ y9.heap.size := B9.out.size
  have RS9 : Hid (Row y9 w.heap.size 24 [.int .i64 t, .int .u64 d, .int .i64 0]) := Lib.hid ((((RS8.out.alloc _).alloc _).alloc _).below hb (by first | exact hgS8 | (simp; omega) | omega))
  have hgS9 : w.heap.size < y9.heap.size := RS9.out.lt
  have RI9 : Hid (Row y9 (w.heap.size + 1) 26 C) := Lib.hid ((((RI8.out.alloc _).alloc _).alloc _).below hb (by first | exact hgI8 | (simp; omega) | omega))
  have hgI9 : (w.heap.size + 1) < y9.heap.size := RI9.out.lt
  have RX9 : Hid (Row y9 y5.heap.size 24 [.int .i64 X1, .int .u64 d, .int .i64 X2]) := Lib.hid ((((RX8.out.alloc _).alloc _).alloc _).below hb (by first | exact hgX8 | (simp; omega) | omega))
  have hgX9 : y5.heap.size < y9.heap.size := RX9.out.lt
  have RY9 : Hid (Row y9 y6.heap.size 32 [.int .i64 X1, .int .u64 d, .int .i64 X2]) := Lib.hid ((((RY8.out.alloc _).alloc _).alloc _).below hb (by first | exact hgY8 | (simp; omega) | omega))
  have hgY9 : y6.heap.size < y9.heap.size := RY9.out.lt
  have RA9 : Hid (Row y9 y7.heap.size 24 [.int .i64 t, .int .u64 d, .int .i64 0]) := Lib.hid ((((RA8.out.alloc _).alloc _).alloc _).below hb (by first | exact hgA8 | (simp; omega) | omega))
  have hgA9 : y7.heap.size < y9.heap.size := RA9.out.lt
  have RZ9 : Hid (Row y9 y8.heap.size 24 [.int .i64 t, .int .u64 d, .int .i64 4]) := Lib.hid (by
    have h := Row.new y8 24 [.int .i64 t, .int .u64 d, .int .i64 4]
    exact ((h.alloc (.cells ([.int .i64 t, .int .u64 d, .int .i64 0] : List Value).toArray 24)).alloc (.cells ([.int .i64 t, .int .u64 d, .int .i64 4] : List Value).toArray 24)).below hb (by first | (simp; omega) | simp | omega))
  have hgZ9 : y8.heap.size < y9.heap.size := RZ9.out.lt
  have RV9 : Hid (Row y9 (y8.heap.size + 1) 24 [.int .i64 t, .int .u64 d, .int .i64 0]) := Lib.hid (by
    have h := Row.new (y8.alloc (.cells ([.int .i64 t, .int .u64 d, .int .i64 4] : List Value).toArray 24)) 24 [.int .i64 t, .int .u64 d, .int .i64 0]
    simp only [World.size_alloc, Nat.add_assoc, Nat.reduceAdd] at h
    exact (h.alloc (.cells ([.int .i64 t, .int .u64 d, .int .i64 4] : List Value).toArray 24)).below hb (by first | (simp; omega) | simp | omega))
  have hgV9 : (y8.heap.size + 1) < y9.heap.size := RV9.out.lt
  have RU9 : Hid (Row y9 (y8.heap.size + 2) 24 [.int .i64 t, .int .u64 d, .int .i64 4]) := Lib.hid (by
    have h := Row.new ((y8.alloc (.cells ([.int .i64 t, .int .u64 d, .int .i64 4] : List Value).toArray 24)).alloc (.cells ([.int .i64 t, .int .u64 d, .int .i64 0] : List Value).toArray 24)) 24 [.int .i64 t, .int .u64 d, .int .i64 4]
    simp only [World.size_alloc, Nat.add_assoc, Nat.reduceAdd] at h
    exact h.below hb (by first | (simp; omega) | simp | omega))
  have hgU9 : (y8.heap.size + 2) < y9.heap.size := RU9.out.lt
  clear hb
  have cS9_0 := RS9.out.cell 0
  have cS9_1 := RS9.out.cell 1
  have cS9_2 := RS9.out.cell 2
  simp only [List.getElem?_cons_zero, List.getElem?_cons_succ] at cS9_0 cS9_1 cS9_2
  have cX9_0 := RX9.out.cell 0
  have cX9_1 := RX9.out.cell 1
  have cX9_2 := RX9.out.cell 2
  simp only [List.getElem?_cons_zero, List.getElem?_cons_succ] at cX9_0 cX9_1 cX9_2
  have cY9_0 := RY9.out.cell 0
  have cY9_1 := RY9.out.cell 1
  have cY9_2 := RY9.out.cell 2
  simp only [List.getElem?_cons_zero, List.getElem?_cons_succ] at cY9_0 cY9_1 cY9_2
  have cA9_0 := RA9.out.cell 0
  have cA9_1 := RA9.out.cell 1
  have cA9_2 := RA9.out.cell 2
  simp only [List.getElem?_cons_zero, List.getElem?_cons_succ] at cA9_0 cA9_1 cA9_2
  have cZ9_0 := RZ9.out.cell 0
  have cZ9_1 := RZ9.out.cell 1
  have cZ9_2 := RZ9.out.cell 2
  simp only [List.getElem?_cons_zero, List.getElem?_cons_succ] at cZ9_0 cZ9_1 cZ9_2
  have cV9_0 := RV9.out.cell 0
  have cV9_1 := RV9.out.cell 1
  have cV9_2 := RV9.out.cell 2
  simp only [List.getElem?_cons_zero, List.getElem?_cons_succ] at cV9_0 cV9_1 cV9_2
  have cU9_0 := RU9.out.cell 0
  have cU9_1 := RU9.out.cell 1
  have cU9_2 := RU9.out.cell 2
  simp only [List.getElem?_cons_zero, List.getElem?_cons_succ] at cU9_0 cU9_1 cU9_2
  go_wp2_with fail
  go_quiet ((go_at_call 13; exact Calls.quiet_of_same ((HLA.out _).mono fun _ _ hh => ⟨hh.1, hh.2.symm⟩)))
  go_wp2_with fail
  go_ret
  exact ⟨rfl, below_drewN_o (B9.out.alloc hz9 (.cells ([.int .i64 t, .int .u64 m, .int .i64 0] : List Value).toArray 24)) _⟩
end Go.Proofs.YtlmbijhkpgolaaaGreatDoor

namespace Go.Proofs.YtlmbijhkpgolaaaGreatDoor
open Go.RowKit
set_option linter.unusedVariables false
set_option linter.unusedSimpArgs false

theorem otpCode_size (key : ByteArray) (l : List UInt8) : (otpCode key l).size ≤ 140737488355328 := by
  have h : (otpCode key l).size = (truncL (hmacL key.data.toList (putL (otpN l) 8)) 6).length := List.size_toArray
  rw [h]
  unfold truncL
  have h10 : truncN (hmacL key.data.toList (putL (otpN l) 8)) % 10 ^ 6 < 18446744073709551616 := by
    have := Nat.mod_lt (truncN (hmacL key.data.toList (putL (otpN l) 8))) (show 0 < 10 ^ 6 by decide)
    have e : (10 : Nat) ^ 6 = 1000000 := by decide
    omega
  rw [textL_length _ _ h10]
  unfold textW
  omega

set_option maxRecDepth 100000 in
set_option maxHeartbeats 4000000 in
theorem OtpSteps_walk (t : Int) (d : Nat) (o : Int) (ht : -9223372036854775808 ≤ t ∧ t ≤ 9223372036854775807) (hd : d < 18446744073709551616) (ho : -9223372036854775808 ≤ o ∧ o ≤ 9223372036854775807)
    (key said : ByteArray) (l : List UInt8) (hl : l.length = 16) (n k : Int) (right : Bool) (w1 : key.size ≤ 140737488355328) (w2 : said.size ≤ 140737488355328) (w4 : (Lit.int .u64 n).wf = true) (w5 : (Lit.int .u64 k).wf = true) (w : World) (hG : G w) (hT : T10 w) :
    Calls Tryz.prog 3 #[.agg #[.int .i64 t, .int .u64 d, .int .i64 o], .string key, .string said, .agg (l.map bv).toArray, .int .u64 n, .int .u64 k, .bool right] w fun e w' => e = .returned (.bool true) ∧ Below w.heap.size w w' := by
  have hn : 0 ≤ n ∧ n ≤ 18446744073709551615 := by simpa [Lit.wf, IntKind.min, IntKind.max, IntKind.signed, IntKind.bits] using w4
  have hk : 0 ≤ k ∧ k ≤ 18446744073709551615 := by simpa [Lit.wf, IntKind.min, IntKind.max, IntKind.signed, IntKind.bits] using w5
  have HA : Hid (∀ W : World, G W → Calls Tryz.prog 4 #[] W fun e w' => e = .returned (.bool true) ∧ Below W.heap.size W w') := Lib.hid fun W h => awake21_any W h
  obtain ⟨z, hz⟩ : ∃ z, max key.size said.size = z := ⟨_, rfl⟩
  have hC : (l.map bv).length = 16 := by rw [List.length_map, hl]
  by_cases hbig : 200 < z ∨ t = -9223372036854775808
  · have hC' : ∀ W : World, Below W.heap.size W ((W.alloc (.cells #[.int .i64 t, .int .u64 d, .int .i64 o] 24)).alloc (.cells (l.map bv).toArray 26)) := fun W => ((Below.refl _ _).alloc (Nat.le_refl _) _).alloc (by simp) _
    have b0 := hC' w
    have rS : Row ((w.alloc (.cells #[.int .i64 t, .int .u64 d, .int .i64 o] 24)).alloc (.cells (l.map bv).toArray 26)) w.heap.size 24 [.int .i64 t, .int .u64 d, .int .i64 o] := (Row.new w 24 [.int .i64 t, .int .u64 d, .int .i64 o]).alloc _
    have hxl := fun ts T W => max2r (P := Tryz.prog) ts T key.size said.size W
    rw [hz] at hxl
    have HA1 := HA.out _ (hG.below b0)
    clear hz hC' hC
    generalize (l.map bv) = C at b0 rS HA1 ⊢
    by_cases hz2 : 200 < z
    · have hzI : (200 : Int) < (z : Int) := by omega
      clear hbig hz2
      go_enter Tryz.func3, Tryz.ntmps3
      go_wp2_with fail
      refine HA1.mono ?_
      rintro e y1 ⟨rfl, hb⟩
      have B1 := Lib.hid (b0.trans (hb.mono b0.size))
      clear hb HA1
      go_wp2_with fail
      go_ret
      exact ⟨rfl, B1.out⟩
    · have hzI : ¬ (200 : Int) < (z : Int) := by omega
      have htm : t = -9223372036854775808 := by omega
      have HSM := Lib.hid (fun W => small_any t d o W false (by rw [htm]; rfl))
      have hlS := rS.lt
      clear hbig hz2 htm
      go_enter Tryz.func3, Tryz.ntmps3
      go_wp2_with fail
      refine HA1.mono ?_
      rintro e y1 ⟨rfl, hb⟩
      have B1 := Lib.hid (b0.trans (hb.mono b0.size))
      have rS1 := Lib.hid (rS.below hb hlS)
      have hl1 := rS1.out.lt
      have c0 := rS1.out.cell 0
      have c1 := rS1.out.cell 1
      have c2 := rS1.out.cell 2
      simp only [List.getElem?_cons_zero, List.getElem?_cons_succ] at c0 c1 c2
      clear hb HA1
      go_wp2_with fail
      refine (HSM.out _).mono ?_
      rintro e y2 ⟨rfl, hb⟩
      have B2 := Lib.hid (B1.out.trans (hb.mono B1.out.size))
      clear hb
      go_wp2_with fail
      go_ret
      exact ⟨rfl, B2.out⟩
  have hz200 : ¬ (200 : Int) < (z : Int) := by omega
  have hks : key.size ≤ 1000 := by omega
  have htm : -9223372036854775808 < t := by omega
  have hcs := otpCode_size key l
  have HSM := Lib.hid (fun W => small_any t d o W true (by simpa using htm))
  have HCO := Lib.hid (fun W h1 h2 => otpCode_any key l hl hks W h1 h2)
  have HRC := Lib.hid (fun W => refOtpCode_any key l hl hks W)
  generalize otpCode key l = c at HCO HRC hcs
  have HBEL : t < 1 ∨ 9 < t → Hid (∀ W : World, Calls Tryz.prog 12 #[.int .i64 t, .int .u64 n, .int .u64 k] W fun e w' => e = .returned (.tuple #[.agg #[.int .i64 0, .int .u64 0, .int .i64 0], .int .i64 7]) ∧ Below W.heap.size W w') := fun h => Lib.hid fun W => begin_bad t n k W h
  have HBEK : 1 ≤ t → t ≤ 9 → Hid (∀ W : World, Calls Tryz.prog 12 #[.int .i64 t, .int .u64 n, .int .u64 k] W fun e w' => e = .returned (.tuple #[.agg #[.int .i64 t, .int .u64 (min (n + k) 18446744073709551615), .int .i64 0], .int .i64 0]) ∧ Below W.heap.size W w') := fun h1 h2 => Lib.hid fun W => begin_any t n k W h1 h2 hn.1 hn.2 hk.1 hk.2
  have HLA := Lib.hid (fun W => later_any n k W hn.1 hn.2 hk.1 hk.2)
  by_cases h0 : o = 0
  · subst h0
    by_cases hdl : (d : Int) ≤ n
    · have HTK := Lib.hid (fun W => tick_late t d n W hdl)
      have HCA := Lib.hid (fun W => cancel_late t d n W hdl)
      cases right
      · have HE := Lib.hid (fun W => Enter_all t d 0 n c said W hcs htm ht.2)
        have HF := Lib.hid (fun W => refEnter_all t d 0 n c said W htm ht.2)
        by_cases hb1 : t < 1
        · exact steps_lateWlow t d n k _ _ _ 0 key said c _ hC w z hz hz200 (Lib.hid hG) (Lib.hid hT) hdl (decide_eq_true hdl) hb1 HA HSM HCO HRC HE HF HTK HCA (HBEL (.inl hb1))
        · by_cases hb2 : 9 < t
          · exact steps_lateWhigh t d n k _ _ _ 0 key said c _ hC w z hz hz200 (Lib.hid hG) (Lib.hid hT) hdl (decide_eq_true hdl) hb1 hb2 HA HSM HCO HRC HE HF HTK HCA (HBEL (.inr hb2))
          · exact steps_lateWok t d n k _ _ _ _ key said c _ hC w z hz hz200 (Lib.hid hG) (Lib.hid hT) hdl (decide_eq_true hdl) hb1 hb2 HA HSM HCO HRC HE HF HTK HCA (HBEK (by omega) (by omega)) HLA
      · have HE := Lib.hid (fun W => Enter_all t d 0 n c c W hcs htm ht.2)
        have HF := Lib.hid (fun W => refEnter_all t d 0 n c c W htm ht.2)
        by_cases hb1 : t < 1
        · exact steps_lateRlow t d n k _ _ _ 0 key said c _ hC w z hz hz200 (Lib.hid hG) (Lib.hid hT) hdl (decide_eq_true hdl) hb1 HA HSM HCO HRC HE HF HTK HCA (HBEL (.inl hb1))
        · by_cases hb2 : 9 < t
          · exact steps_lateRhigh t d n k _ _ _ 0 key said c _ hC w z hz hz200 (Lib.hid hG) (Lib.hid hT) hdl (decide_eq_true hdl) hb1 hb2 HA HSM HCO HRC HE HF HTK HCA (HBEL (.inr hb2))
          · exact steps_lateRok t d n k _ _ _ _ key said c _ hC w z hz hz200 (Lib.hid hG) (Lib.hid hT) hdl (decide_eq_true hdl) hb1 hb2 HA HSM HCO HRC HE HF HTK HCA (HBEK (by omega) (by omega)) HLA
    · have hlt : n < (d : Int) := by omega
      have HTK := Lib.hid (fun W => tick_no t d n W hlt)
      have HCA := Lib.hid (fun W => cancel_gone t d n W hlt)
      cases right
      · have HE := Lib.hid (fun W => Enter_all t d 0 n c said W hcs htm ht.2)
        have HF := Lib.hid (fun W => refEnter_all t d 0 n c said W htm ht.2)
        by_cases hb1 : t < 1
        · exact steps_timeWlow t d n k _ _ _ 0 key said c _ hC w z hz hz200 (Lib.hid hG) (Lib.hid hT) hlt hdl (decide_eq_false hdl) hb1 HA HSM HCO HRC HE HF HTK HCA (HBEL (.inl hb1))
        · by_cases hb2 : 9 < t
          · exact steps_timeWhigh t d n k _ _ _ 0 key said c _ hC w z hz hz200 (Lib.hid hG) (Lib.hid hT) hlt hdl (decide_eq_false hdl) hb1 hb2 HA HSM HCO HRC HE HF HTK HCA (HBEL (.inr hb2))
          · exact steps_timeWok t d n k _ _ _ _ key said c _ hC w z hz hz200 (Lib.hid hG) (Lib.hid hT) hlt hdl (decide_eq_false hdl) hb1 hb2 HA HSM HCO HRC HE HF HTK HCA (HBEK (by omega) (by omega)) HLA
      · have HE := Lib.hid (fun W => Enter_all t d 0 n c c W hcs htm ht.2)
        have HF := Lib.hid (fun W => refEnter_all t d 0 n c c W htm ht.2)
        by_cases hb1 : t < 1
        · exact steps_timeRlow t d n k _ _ _ 0 key said c _ hC w z hz hz200 (Lib.hid hG) (Lib.hid hT) hlt hdl (decide_eq_false hdl) hb1 HA HSM HCO HRC HE HF HTK HCA (HBEL (.inl hb1))
        · by_cases hb2 : 9 < t
          · exact steps_timeRhigh t d n k _ _ _ 0 key said c _ hC w z hz hz200 (Lib.hid hG) (Lib.hid hT) hlt hdl (decide_eq_false hdl) hb1 hb2 HA HSM HCO HRC HE HF HTK HCA (HBEL (.inr hb2))
          · exact steps_timeRok t d n k _ _ _ _ key said c _ hC w z hz hz200 (Lib.hid hG) (Lib.hid hT) hlt hdl (decide_eq_false hdl) hb1 hb2 HA HSM HCO HRC HE HF HTK HCA (HBEK (by omega) (by omega)) HLA
  · have HTK := Lib.hid (fun W => tick_over t d o n W h0)
    have HCA := Lib.hid (fun W => cancel_over t d o n W h0)
    have h0' : (o == 0) = false := by simpa using h0
    cases right
    · have HE := Lib.hid (fun W => Enter_all t d o n c said W hcs htm ht.2)
      have HF := Lib.hid (fun W => refEnter_all t d o n c said W htm ht.2)
      by_cases hb1 : t < 1
      · exact steps_overWlow t d o n k _ _ _ 0 key said c _ hC w z hz hz200 (Lib.hid hG) (Lib.hid hT) h0 h0' hb1 HA HSM HCO HRC HE HF HTK HCA (HBEL (.inl hb1))
      · by_cases hb2 : 9 < t
        · exact steps_overWhigh t d o n k _ _ _ 0 key said c _ hC w z hz hz200 (Lib.hid hG) (Lib.hid hT) h0 h0' hb1 hb2 HA HSM HCO HRC HE HF HTK HCA (HBEL (.inr hb2))
        · exact steps_overWok t d o n k _ _ _ _ key said c _ hC w z hz hz200 (Lib.hid hG) (Lib.hid hT) h0 h0' hb1 hb2 HA HSM HCO HRC HE HF HTK HCA (HBEK (by omega) (by omega)) HLA
    · have HE := Lib.hid (fun W => Enter_all t d o n c c W hcs htm ht.2)
      have HF := Lib.hid (fun W => refEnter_all t d o n c c W htm ht.2)
      by_cases hb1 : t < 1
      · exact steps_overRlow t d o n k _ _ _ 0 key said c _ hC w z hz hz200 (Lib.hid hG) (Lib.hid hT) h0 h0' hb1 HA HSM HCO HRC HE HF HTK HCA (HBEL (.inl hb1))
      · by_cases hb2 : 9 < t
        · exact steps_overRhigh t d o n k _ _ _ 0 key said c _ hC w z hz hz200 (Lib.hid hG) (Lib.hid hT) h0 h0' hb1 hb2 HA HSM HCO HRC HE HF HTK HCA (HBEL (.inr hb2))
        · exact steps_overRok t d o n k _ _ _ _ key said c _ hC w z hz hz200 (Lib.hid hG) (Lib.hid hT) h0 h0' hb1 hb2 HA HSM HCO HRC HE HF HTK HCA (HBEK (by omega) (by omega)) HLA
end Go.Proofs.YtlmbijhkpgolaaaGreatDoor

namespace Go.Proofs.YtlmbijhkpgolaaaGreatDoor
open Go.RowKit
set_option linter.unusedVariables false

theorem G_of_tab {W : World} (h : Lib.TabIs Tryz.prog W "cashier/sha.starts" .u32 [1779033703, 3144134277, 1013904242, 2773480762, 1359893119, 2600822924, 528734635, 1541459225]) : G W := by
  unfold Lib.TabIs World.var? at h
  rw [show Tryz.prog.globalNamed "cashier/sha.starts" = some 0 by kernel_rfl] at h
  simp only [Option.bind_some] at h
  split at h
  · rename_i cs t fr hq
    refine ⟨t, fr, ?_⟩
    rw [hq]
    obtain rfl := Option.some.inj h
    rfl
  · cases h
theorem G_of_laid {W : World} (h : laidMetH Tryz.prog [("cashier/sha.starts", Rows.laid_cashier_sha_starts)] W) : G W :=
  G_of_tab (Lib.tabIs_of_head (g := 0) (t := 67) (e := 66) (n := 8) (rest := []) (by kernel_rfl) (by kernel_rfl) Tryz.underlying67 Tryz.underlying66 (by kernel_rfl) (by kernel_rfl) h)
end Go.Proofs.YtlmbijhkpgolaaaGreatDoor

namespace Go.Proofs.YtlmbijhkpgolaaaGreatDoor
open Go.RowKit
set_option linter.unusedVariables false

theorem laidMet_tail {P : Program} {x : String × DataW Unit} {r : List (String × DataW Unit)} {w : World} (h : laidMet P (x :: r) w) : laidMet P r w := by
  obtain ⟨ps, hv, hn, hc⟩ := h
  obtain ⟨n, d⟩ := x
  obtain ⟨g, t, cs, fuel, p, q, _, _, _, _, hq, rfl⟩ := hv
  exact ⟨q, hq, (List.nodup_append.1 hn).2.1, fun b off hb => hc b off (List.mem_append.2 (.inr hb))⟩
theorem G_of_laid4 {W : World} (h : laidMetH Tryz.prog [("math/bits.deBruijn32tab", Rows.laid_math_bits_deBruijn32tab), ("math/bits.deBruijn64tab", Rows.laid_math_bits_deBruijn64tab), ("internal/strconv.uint64pow10", Rows.laid_internal_strconv_uint64pow10), ("cashier/sha.starts", Rows.laid_cashier_sha_starts)] W) : G W :=
  G_of_tab (Lib.tabIs_of_head (g := 0) (t := 67) (e := 66) (n := 8) (rest := []) (by kernel_rfl) (by kernel_rfl) Tryz.underlying67 Tryz.underlying66 (by kernel_rfl) (by kernel_rfl) (laidMet_tail (laidMet_tail (laidMet_tail h))))
end Go.Proofs.YtlmbijhkpgolaaaGreatDoor

namespace Go.Proofs.YtlmbijhkpgolaaaGreatDoor
open Go.RowKit
set_option linter.unusedVariables false

theorem T10_of_laid4 {W : World} (h : laidMetH Tryz.prog [("math/bits.deBruijn32tab", Rows.laid_math_bits_deBruijn32tab), ("math/bits.deBruijn64tab", Rows.laid_math_bits_deBruijn64tab), ("internal/strconv.uint64pow10", Rows.laid_internal_strconv_uint64pow10), ("cashier/sha.starts", Rows.laid_cashier_sha_starts)] W) : T10 W :=
  Lib.tabIs_of_head (g := 2) (t := 128) (e := 22) (n := 20) (rest := [("cashier/sha.starts", Rows.laid_cashier_sha_starts)]) (by kernel_rfl) (by kernel_rfl) Tryz.underlying128 Tryz.underlying22 (by kernel_rfl) (by kernel_rfl) (laidMet_tail (laidMet_tail h))
end Go.Proofs.YtlmbijhkpgolaaaGreatDoor

namespace Go.Proofs.YtlmbijhkpgolaaaGreatDoor
open Go.ChangeShapes Go.WideShapes Go.ChangeAt Go.RowKit Go.Joins Go.Deep
set_option linter.unusedVariables false

set_option maxRecDepth 20000 in
/-- A state that came in. -/
theorem otpst_open {H : Type} {enc : TypeId × Value → H} {W : World} {rc : Reach} {b0 : Nat} {v : Value} {d : DataW H} {p : List MemPlace}
    (hv : Value.okWide Tryz.prog W rc b0 24 v) (h : DataW.Trod enc Tryz.prog W 0 (fun _ => true) true 24 v d p) :
    ∃ (t : Int) (n : Nat) (o : Int), v = .agg #[.int .i64 t, .int .u64 n, .int .i64 o] ∧ (-9223372036854775808 ≤ t ∧ t ≤ 9223372036854775807) ∧ n < 18446744073709551616 ∧ (-9223372036854775808 ≤ o ∧ o ≤ 9223372036854775807) := by
  obtain ⟨cs, rfl, hsz⟩ := okWide_struct Tryz.underlying24 hv
  have hsz3 : cs.size = 3 := hsz.trans (by kernel_rfl)
  obtain ⟨l⟩ := cs
  match l, hsz3 with
  | [c0, c1, c2], _ =>
    obtain ⟨fuel, hf⟩ := h
    obtain ⟨xs, n, _, _, _, hlen, hg⟩ := DataW.trod_struct Tryz.underlying24 hf
    have hU : Tryz.prog.cellsOf 22 = 1 := by kernel_rfl
    have hI : Tryz.prog.cellsOf 3 = 1 := by kernel_rfl
    match xs, hlen with
    | [y0, y1, y2], _ =>
      have g0 : DataW.trod enc Tryz.prog W 0 (fun _ => true) true n 3 [c0] = some y0 := by simpa [Value.cells, hI] using hg 0 _ rfl
      have g1 : DataW.trod enc Tryz.prog W 0 (fun _ => true) true n 22 [c1] = some y1 := by simpa [Value.cells, hU] using hg 1 _ rfl
      have g2 : DataW.trod enc Tryz.prog W 0 (fun _ => true) true n 3 [c2] = some y2 := by simpa [Value.cells, hI] using hg 2 _ rfl
      obtain ⟨k0, e0, _, w0⟩ := DataW.trod_int Tryz.underlying3 g0
      obtain ⟨k1, e1, _, w1⟩ := DataW.trod_int Tryz.underlying22 g1
      obtain ⟨k2, e2, _, w2⟩ := DataW.trod_int Tryz.underlying3 g2
      simp only [List.cons.injEq, and_true] at e0 e1 e2
      subst e0 e1 e2
      have r0 : -9223372036854775808 ≤ k0 ∧ k0 ≤ 9223372036854775807 := by simpa [Lit.wf, IntKind.min, IntKind.max, IntKind.signed, IntKind.bits] using w0
      have r1 : 0 ≤ k1 ∧ k1 ≤ 18446744073709551615 := by simpa [Lit.wf, IntKind.min, IntKind.max, IntKind.signed, IntKind.bits] using w1
      have r2 : -9223372036854775808 ≤ k2 ∧ k2 ≤ 9223372036854775807 := by simpa [Lit.wf, IntKind.min, IntKind.max, IntKind.signed, IntKind.bits] using w2
      obtain ⟨n1, rfl⟩ := Int.eq_ofNat_of_zero_le r1.1
      exact ⟨k0, n1, k2, rfl, r0, by omega, r2⟩
end Go.Proofs.YtlmbijhkpgolaaaGreatDoor

namespace Go.Proofs.YtlmbijhkpgolaaaGreatDoor
open Go.ChangeShapes Go.WideShapes Go.RowKit
set_option linter.unusedVariables false

section
variable {H : Type} {enc : TypeId × Value → H} {P : Program} {W : World} {base : Nat} {sp : Nat → Bool} {held : Bool}
def unbv : Value → UInt8
  | .int _ n => UInt8.ofNat n.toNat
  | _ => 0
theorem mapM_bytes {e : TypeId} (he : P.underlying e = some (.int .u8)) {m : Nat} {cs : List Value} : ∀ (L : List Nat) (xs : List (DataW H × List MemPlace)),
    L.mapM (fun i => DataW.trod enc P W base sp held m e ((cs.drop (i * 1)).take 1)) = some xs → ∀ i ∈ L, ∃ c : UInt8, (cs.drop (i * 1)).take 1 = [bv c]
  | [], xs, h => by simp
  | i :: L, xs, h => by
    rw [List.mapM_cons] at h
    simp only [bind, Option.bind_eq_some_iff, pure, Option.some.injEq] at h
    obtain ⟨y, hy, ys, hys, rfl⟩ := h
    have ih := mapM_bytes he L ys hys
    obtain ⟨a, ea, rfl, wa⟩ := DataW.trod_int he hy
    have hr : 0 ≤ a ∧ a ≤ 255 := by simpa [Lit.wf, IntKind.min, IntKind.max, IntKind.signed, IntKind.bits] using wa
    intro j hj
    rcases List.mem_cons.1 hj with rfl | hj
    · refine ⟨UInt8.ofNat a.toNat, ?_⟩
      rw [ea]
      unfold bv
      have e1 : ((UInt8.ofNat a.toNat).toNat : Int) = a := by rw [UInt8.toNat_ofNat']; omega
      rw [e1]
    · exact ih j hj
theorem open_bytes {t e : TypeId} {n : Nat} {v : Value} {d : DataW H} {ps : List MemPlace} (ht : P.underlying t = some (.array n e)) (he : P.underlying e = some (.int .u8)) (hc : P.cellsOf t = n) (h1 : P.cellsOf e = 1)
    {r : Reach} {b0 : Nat} (hv : Value.okWide P W r b0 t v) (hd : DataW.Trod enc P W base sp held t v d ps) : ∃ l : List UInt8, l.length = n ∧ v = .agg (l.map bv).toArray := by
  simp only [Value.okWide, ht] at hv
  obtain ⟨xs, rfl, hn, _⟩ := hv
  rw [hc] at hn
  obtain ⟨fuel, hf⟩ := hd
  cases fuel with
  | zero => simp [DataW.trod] at hf
  | succ m =>
    rw [DataW.trod_step] at hf
    unfold DataW.trodStep at hf
    simp only [ht, Value.cells] at hf
    split at hf
    · simp only [Option.map_eq_some_iff, h1] at hf
      obtain ⟨ys, hy, e1⟩ := hf
      have hk := mapM_bytes he _ ys hy
      refine ⟨xs.toList.map unbv, by simpa using hn, ?_⟩
      congr 1
      apply Array.ext'
      rw [List.map_map]
      conv => lhs; rw [← List.map_id xs.toList]
      apply List.map_congr_left
      intro x hx
      obtain ⟨i, hi, rfl⟩ := List.getElem_of_mem hx
      obtain ⟨c, hc'⟩ := hk i (by simp at hi ⊢; omega)
      have e2 : xs.toList[i] = bv c := by
        have h3 : ((xs.toList.drop (i * 1)).take 1)[0]? = some (bv c) := by rw [hc']; rfl
        rw [List.getElem?_take_of_lt (by omega), List.getElem?_drop, Nat.mul_one, Nat.add_zero, List.getElem?_eq_getElem hi] at h3
        exact Option.some.inj h3
      rw [e2]
      show bv c = bv (unbv (bv c))
      unfold unbv bv
      simp
    · cases hf
end
end Go.Proofs.YtlmbijhkpgolaaaGreatDoor

namespace Go.Proofs.YtlmbijhkpgolaaaGreatDoor.otpSteps
open Go.ChangeShapes Go.WideShapes Go.ChangeAt Go.RowKit
open Go.ChangeMaps (open_string shut_string)
set_option linter.unusedVariables false

theorem own : ownKnob Tryz.prog.godebug = none := by kernel_rfl
theorem laidOut : laidOutB Tryz.prog = true := by kernel_rfl

theorem door_met (os : Os) (args : Array Value) : laidMetH Tryz.prog Rows.otpStepsRow.laid ((World.doorLaid Tryz.prog 4000 os).forCall (fun _ _ => 0) ⟨#[], args, []⟩).memory :=
  laidMetH_of_parts3 (fuel := 8) (laidMet_of_run' 8 (by kernel_rfl) (by kernel_rfl)) (by kernel_rfl) (by kernel_rfl)

set_option maxRecDepth 100000 in
theorem lifted (os : Os) (started : os.Started) (H : Type) (enc : TypeId × Value → H) :
    ReturnsInHanded {} Tryz.checked os 3 .any (fun w args => (Rows.otpStepsSpec.pre enc Tryz.prog Tryz.f3 Rows.otpStepsRow.domain false w args ∧ laidMetH Tryz.prog Rows.otpStepsRow.laid w) ∧ sizedMet enc Tryz.prog Tryz.f3 (OpenSpec.ofChange Rows.otpStepsSpec) false w args) (Rows.otpStepsSpec.post enc Tryz.prog Tryz.f3 false true false false) := by
  refine returnsInHanded_of_change_and (C := Tryz.checked) (X := fun w _ => laidMetH Tryz.prog Rows.otpStepsRow.laid w) (fun _ _ _ hh h => h.of_heap hh) own started (by kernel_rfl) Tryz.func3
    (ChangeSpec.witness_shaped (enc := enc) (C := Tryz.checked) (os := os) (X := fun w _ => laidMetH Tryz.prog Rows.otpStepsRow.laid w) false (World.doorLaid Tryz.prog 4000 os) #[.agg #[.int .i64 0, .int .u64 0, .int .i64 0], .string ByteArray.empty, .string ByteArray.empty, .agg #[.int .u8 0, .int .u8 0, .int .u8 0, .int .u8 0, .int .u8 0, .int .u8 0, .int .u8 0, .int .u8 0, .int .u8 0, .int .u8 0, .int .u8 0, .int .u8 0, .int .u8 0, .int .u8 0, .int .u8 0, .int .u8 0], .int .u64 0, .int .u64 0, .bool false] 8 rfl (World.shaped_of_RefB (by kernel_rfl) (by kernel_rfl)) (by kernel_rfl) (by kernel_rfl) (by kernel_rfl) (door_met os _)) ?_
  intro W base args ds gs before hval0 hW hcnd hsz0 hX1 hX2
  have hsz : (DataW.weightsEach Tryz.prog (Tryz.f3.params.toList ++ Rows.otpStepsSpec.plain.varTypes Tryz.prog) (ds ++ gs)).all (· ≤ reachBytes) = true := hsz0
  have hval : ∀ (j : Nat) t v, Tryz.f3.params[j]? = some t → args[j]? = some v → Value.okWide Tryz.prog W .any base t v := hval0
  have hW' := hW
  obtain ⟨p, q, hA0, hV, rfl, hfz, hnd⟩ := hW
  have hA : DataW.TrodAll enc Tryz.prog W 0 (fun _ => true) true Tryz.f3.params.toList args.toList ds p := hA0
  rw [Tryz.params3] at hA hval hsz
  obtain ⟨v0, vs0, d0, ds0, p0, q0, hargs, rfl, rfl, h0, r0⟩ := trodAll_cons hA
  obtain ⟨v1, vs1, d1, ds1, p1, q1, rfl, rfl, rfl, h1, r1⟩ := trodAll_cons r0
  obtain ⟨v2, vs2, d2, ds2, p2, q2, rfl, rfl, rfl, h2, r2⟩ := trodAll_cons r1
  obtain ⟨v3, vs3, d3, ds3, p3, q3, rfl, rfl, rfl, h3, r3⟩ := trodAll_cons r2
  obtain ⟨v4, vs4, d4, ds4, p4, q4, rfl, rfl, rfl, h4, r4⟩ := trodAll_cons r3
  obtain ⟨v5, vs5, d5, ds5, p5, q5, rfl, rfl, rfl, h5, r5⟩ := trodAll_cons r4
  obtain ⟨v6, vs6, d6, ds6, p6, q6, rfl, rfl, rfl, h6, r6⟩ := trodAll_cons r5
  obtain ⟨rfl, rfl, rfl⟩ := trodAll_nil r6
  obtain rfl : args = #[v0, v1, v2, v3, v4, v5, v6] := by cases args; simp_all
  obtain ⟨rfl, rfl⟩ := trodVars_none hV
  have k0 := h0
  have lt0 : ∀ x ∈ p0, x.block < W.heap.size := by obtain ⟨m, hm⟩ := k0; exact DataW.trod_lt m _ _ _ hm
  obtain ⟨t0, dn0, o0, rfl, w0⟩ := otpst_open (hval 0 24 v0 rfl rfl) h0
  obtain ⟨a1, rfl, rfl, rfl, m1⟩ := open_string Tryz.underlying9 (hval 1 9 v1 rfl rfl) h1
  obtain ⟨a2, rfl, rfl, rfl, m2⟩ := open_string Tryz.underlying9 (hval 2 9 v2 rfl rfl) h2
  have k3 := h3
  have lt3 : ∀ x ∈ p3, x.block < W.heap.size := by obtain ⟨m, hm⟩ := k3; exact DataW.trod_lt m _ _ _ hm
  obtain ⟨l3, w3, rfl⟩ := open_bytes Tryz.underlying26 Tryz.underlying5 (by kernel_rfl) (by kernel_rfl) (hval 3 26 v3 rfl rfl) h3
  obtain ⟨a4, rfl, rfl, rfl, w4⟩ := open_int Tryz.underlying22 (hval 4 22 v4 rfl rfl) h4
  obtain ⟨a5, rfl, rfl, rfl, w5⟩ := open_int Tryz.underlying22 (hval 5 22 v5 rfl rfl) h5
  obtain ⟨a6, rfl, rfl, rfl⟩ := open_bool Tryz.underlying4 (hval 6 4 v6 rfl rfl) h6
  have w1 : a1.size ≤ 140737488355328 := by
    have h47 := reachBytes_lt
    have hh := sized_string hsz (j := 1) (t := 9) rfl rfl
    rw [Array.length_toList] at hh
    exact Nat.le_of_lt (Nat.lt_of_le_of_lt hh h47)
  have w2 : a2.size ≤ 140737488355328 := by
    have h47 := reachBytes_lt
    have hh := sized_string hsz (j := 2) (t := 9) rfl rfl
    rw [Array.length_toList] at hh
    exact Nat.le_of_lt (Nat.lt_of_le_of_lt hh h47)
  clear hA0 hval0 hsz hsz0
  simp only [List.append_nil] at hW'
  refine (OtpSteps_walk t0 dn0 o0 w0.1 w0.2.1 w0.2.2 a1 a2 l3 w3 a4 a5 a6 w1 w2 w4 w5 W (G_of_laid4 hX1) (T10_of_laid4 hX1)).mono fun e W' ⟨he, bel⟩ => ?_
  subst he
  exact ⟨_, rfl, _, _, _, [], _, [], hW', trodAll_mk1 (shut_bool Tryz.underlying4 _), (trodAll_cons_mk (Below.trod laidOut (by kernel_rfl) (of_decide_eq_true (by kernel_rfl)) k0 bel lt0) (trodAll_cons_mk (shut_string Tryz.underlying9 m1) (trodAll_cons_mk (shut_string Tryz.underlying9 m2) (trodAll_cons_mk (Below.trod laidOut (by kernel_rfl) (of_decide_eq_true (by kernel_rfl)) k3 bel lt3) (trodAll_cons_mk (shut_int Tryz.underlying22 w4) (trodAll_cons_mk (shut_int Tryz.underlying22 w5) (trodAll_cons_mk (shut_bool Tryz.underlying4 a6) trodAll_mk0))))))), rfl, bel.frame _, fun h => by cases h⟩

theorem over : Rows.otpStepsRow.holds Tryz.pinned (OpenSpec.ofChange Rows.otpStepsSpec) :=
  OpenClaim.holds_of_wide 3 Tryz.f3 rfl rfl rfl rfl rfl rfl rfl ⟨rfl, rfl, rfl, rfl, rfl⟩ rfl rfl rfl rfl rfl (by kernel_rfl) Tryz.func3 (by kernel_rfl)
    (of_decide_eq_true (by kernel_rfl)) (by unfold Func.isWrapper; first | (rw [if_pos (by decide +kernel)]; kernel_rfl) | (rw [if_neg (by decide +kernel)]; exact ⟨rfl, rfl⟩))
    (fun os started H enc _ => lifted os started H enc)

theorem proved : Rows.OtpStepsCardSaid :=
  Claim7.holds_tied_plain_at .later [] [.data, .data, .data, .data] true (true, "8911722cc7ac51cc9a47b487cf854068d48ac4b52f40c2ec0d3b4711575881ff") false
    over (fun _ h => by cases h) (by kernel_rfl) (fun _ h => by cases h) otpSteps_row_tie rfl ⟨rfl, rfl⟩ (by kernel_rfl) rfl
    (fun f fn hf hfn => by
      obtain rfl : f = 3 := Option.some.inj ((show Tryz.prog.funcNamed "cashier/cashierlaw21.OtpSteps" = some 3 by kernel_rfl).symm.trans hf) |>.symm
      obtain rfl : fn = Tryz.f3 := (Option.some.inj (Tryz.func3.symm.trans hfn)).symm
      exact ⟨by kernel_rfl, fun j t ht => by
        rw [Tryz.params3] at ht
        have hm : t ∈ [24, 9, 9, 26, 22, 22, 4] := by simpa using Array.mem_of_getElem? ht
        have hall : ([24, 9, 9, 26, 22, 22, 4].all fun u => !Tryz.prog.wantsStandIn u) = true := by kernel_rfl
        exact (show Tryz.prog.wantsStandIn t = false by simpa using List.all_eq_true.1 hall t hm)⟩)
    (by kernel_rfl)

end Go.Proofs.YtlmbijhkpgolaaaGreatDoor.otpSteps
