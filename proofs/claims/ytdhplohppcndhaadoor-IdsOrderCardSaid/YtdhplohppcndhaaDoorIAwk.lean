/- The chapter's example of ids. -/
import Derived.Test.YtdhplohppcndhaaDoorICmp
import Derived.Test.YtdhplohppcndhaaDoorAwk6
namespace Go.Proofs.YtdhplohppcndhaaDoor
open Go.RowKit
set_option linter.unusedVariables false

theorem Awake6_any (w : World) (hG : G w) :
    Calls Tryd.prog 61 #[] w fun e w' => e = .returned (.bool true) ∧ Below w.heap.size w w' := by
  have HG := Lib.hid hG
  clear hG
  go_enter Tryd.func61, Tryd.ntmps61
  go_wp2_with fail
  refine (awake6_any _ HG.out).mono ?_
  rintro e wa ⟨rfl, hb⟩
  go_wp2_with fail
  go_ret
  exact ⟨rfl, hb⟩
def zeroId : ByteArray := ⟨#[48, 48, 48, 48, 48, 48, 48, 48, 45, 48, 48, 48, 48, 45, 48, 48, 48, 48, 45, 48, 48, 48, 48, 45, 48, 48, 48, 48, 48, 48, 48, 48, 48, 48, 48, 48]⟩
theorem zero_eq : (zeroId.toList == [48, 48, 48, 48, 48, 48, 48, 48, 45, 48, 48, 48, 48, 45, 48, 48, 48, 48, 45, 48, 48, 48, 48, 45, 48, 48, 48, 48, 48, 48, 48, 48, 48, 48, 48, 48]) = true := by decide +kernel
theorem zero_id : (⟨(idL (List.replicate 16 0)).toArray⟩ : ByteArray) = zeroId := by decide +kernel
def zA : Array Value := #[.int .u8 0, .int .u8 0, .int .u8 0, .int .u8 0, .int .u8 0, .int .u8 0, .int .u8 0, .int .u8 0, .int .u8 0, .int .u8 0, .int .u8 0, .int .u8 0, .int .u8 0, .int .u8 0, .int .u8 0, .int .u8 0]
theorem zA_eq : zA = ((List.replicate 16 (0 : UInt8)).map bv).toArray := by rfl

set_option maxRecDepth 20000 in
set_option maxHeartbeats 1000000 in
theorem awake10_any (w : World) (hG : G w) :
    Calls Tryd.prog 27 #[] w fun e w' => e = .returned (.bool true) ∧ Below w.heap.size w w' := by
  have HT : Hid (∀ W : World, Calls Tryd.prog 28 #[.agg zA] W fun e w' => e = .returned (.string zeroId) ∧ Below W.heap.size W w') := Lib.hid fun W => by
    rw [← zero_id, zA_eq]
    exact idText_any _ rfl W
  have HG := Lib.hid hG
  clear hG
  go_enter Tryd.func27, Tryd.ntmps27
  go_wp2_with fail
  refine (Awake2_any _).mono ?_
  rintro e w1 ⟨rfl, hb1⟩
  go_wp2_with fail
  refine (Awake6_any _ (HG.out.below hb1)).mono ?_
  rintro e w2 ⟨rfl, hb2⟩
  have hB2 := hb1.trans (hb2.mono hb1.size)
  clear hb1 hb2
  go_wp2_with fail
  refine (HT.out _).mono ?_
  rintro e w3 ⟨rfl, hb3⟩
  have hB3 := hB2.trans (hb3.mono hB2.size)
  clear hB2 hb3
  have hz := zero_eq
  go_wp2_with fail
  go_ret
  exact ⟨rfl, hB3⟩
end Go.Proofs.YtdhplohppcndhaaDoor
