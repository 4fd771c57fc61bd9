/- A sector of a byte. -/
import Derived.Test.YtiaaeniopjpfpaaGreatDoorKNil
namespace Go.Proofs.YtiaaeniopjpfpaaGreatDoor
open Go.RowKit Go.Maps
set_option linter.unusedVariables false
set_option linter.unusedSimpArgs false

/-- A sector of a byte: each byte one more than the last. -/
def fillB (c : UInt8) : List UInt8 := (List.range 128).map fun i => c + UInt8.ofNat i
theorem fillB_len (c : UInt8) : (fillB c).length = 128 := by simp [fillB]
theorem fillB_get (c : UInt8) {j : Nat} (h : j < 128) : (fillB c)[j]? = some (c + UInt8.ofNat j) := by
  unfold fillB
  rw [List.getElem?_map, List.getElem?_range h]
  rfl
theorem fill_num (c : UInt8) {j : Nat} (h : j < 128) : ((c.toNat : Int) + (j : Int)) % 256 = ((c + UInt8.ofNat j).toNat : Int) := by
  rw [UInt8.toNat_add, UInt8.toNat_ofNat']
  omega
theorem part_set' {α : Type} (A B : List α) (j : Nat) (v : α) (hv : A[j]? = some v) (hl : A.length = B.length) : (A.take j ++ B.drop j).set j v = A.take (j + 1) ++ B.drop (j + 1) := by
  have hj : j < A.length := (List.getElem?_eq_some_iff.1 hv).1
  have hB : j < B.length := by omega
  have h1 : (A.take j).length = j := by rw [List.length_take]; omega
  have h2 : B.drop j = B[j] :: B.drop (j + 1) := List.drop_eq_getElem_cons hB
  have h3 : A.take (j + 1) = A.take j ++ [v] := by
    rw [List.take_add_one, hv]; rfl
  rw [List.set_append_right _ _ (by omega), h1, Nat.sub_self, h2, List.set_cons_zero, h3, List.append_assoc]
  rfl

section
variable {w : World}
set_option maxRecDepth 20000
set_option maxHeartbeats 1000000
end
end Go.Proofs.YtiaaeniopjpfpaaGreatDoor
