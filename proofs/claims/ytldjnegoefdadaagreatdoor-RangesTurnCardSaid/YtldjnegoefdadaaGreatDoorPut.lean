/- The contracts of the two functions that write a number as bytes. -/
import Derived.Test.YtldjnegoefdadaaGreatDoorRows
import Derived.WalkKit
import Derived.WalkSpells
import Derived.WalkLawsBesides
import Derived.Lib.Hide
import Derived.Deep.DeepCutAuto
import Derived.Test.YtldjnegoefdadaaGreatDoorPlain
import Derived.Test.YtldjnegoefdadaaGreatDoorMem
namespace Go.Proofs.YtldjnegoefdadaaGreatDoor
open Go.RowKit
set_option linter.unusedVariables false

theorem u8_info : (Tryz.prog.info? 5).map (fun i => (i.zero, i.size, i.bytes)) = some (some (.int .u8 0), 1, 1) := by kernel_rfl

/-- How many bytes Put lays. -/
def szOf (size : Int) : Nat := (min (max size 0) 8).toNat

theorem put_row_step (n sz k : Nat) (hk : k < sz) :
    (List.replicate (sz - k) (Value.int .u8 0) ++ (putL n k).map bv).set (sz - 1 - k) (.int .u8 ((n / 256 ^ k % 256 : Nat) : Int)) =
      List.replicate (sz - (k + 1)) (Value.int .u8 0) ++ (putL n (k + 1)).map bv := by
  have h1 : sz - k = (sz - (k + 1)) + 1 := by omega
  have h2 : sz - 1 - k = sz - (k + 1) := by omega
  rw [h1, h2, List.replicate_succ', List.append_assoc, List.set_append_right _ _ (by simp), putL_cons]
  simp [bv]

/-- One byte in a block of its own, as a text. -/
theorem conv_one {P : Program} (W : World) (src dst e : TypeId) (hs : P.underlying src = some (.slice e)) (he : P.underlying e = some (.int .u8)) (hd : P.underlying dst = some .string)
    (x : Int) (hx0 : 0 ≤ x) (hx1 : x ≤ 255) (n : Nat) (hn : n = W.heap.size) :
    (convert src dst (.slice (some ⟨n, 0, none⟩) 1 1)).run P (W.alloc (.cells #[.int .u8 x] e)) = .ok (.string ⟨#[UInt8.ofNat x.toNat]⟩) (W.alloc (.cells #[.int .u8 x] e)) := by
  subst hn
  refine conv_bytes _ src dst e hs he hd W.heap.size 0 1 1 [UInt8.ofNat x.toNat] rfl (fun i hi => ?_)
  have h0 : i = 0 := by omega
  subst h0
  have h := (Row.new W e [.int .u8 x]).cell 0
  have hx : ((UInt8.ofNat x.toNat).toNat : Int) = x := by simp; omega
  rw [h]
  simp only [List.map_cons, List.map_nil, List.getElem?_cons_zero, bv, hx]

end Go.Proofs.YtldjnegoefdadaaGreatDoor
