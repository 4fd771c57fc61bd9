/- The chapter's example of the sum by a key. -/
import Derived.Test.YtlmbijhkpgolaaaDoorDCard
import Derived.Test.YtlmbijhkpgolaaaDoorAwk5
import Derived.Test.YtlmbijhkpgolaaaDoorHSumm
import Derived.Test.YtlmbijhkpgolaaaDoorHPlain
namespace Go.Proofs.YtlmbijhkpgolaaaDoor
open Go.RowKit
set_option linter.unusedVariables false
theorem Awake3_any (w : World) :
    Calls Tryd.prog 26 #[] w fun e w' => e = .returned (.bool true) ∧ Below w.heap.size w w' := by
  go_enter Tryd.func26, Tryd.ntmps26
  go_wp2_with (go_at_call 30; refine (awake3_any _).mono ?_; rintro e wa ⟨rfl, hb⟩)
  go_ret
  exact ⟨rfl, hb⟩
def jefeK : ByteArray := ⟨#[74, 101, 102, 101]⟩
def jefeA : ByteArray := ⟨#[119, 104, 97, 116, 32, 100, 111, 32, 121, 97, 32, 119, 97, 110, 116, 32]⟩
def jefeB : ByteArray := ⟨#[102, 111, 114, 32, 110, 111, 116, 104, 105, 110, 103, 63]⟩
theorem take4_prefix (L : List UInt8) (a b c d : UInt8) (h : L.take 4 = [a, b, c, d]) : Lib.hasPrefix L [a, b, c, d] = true := by
  obtain ⟨R, hR⟩ : ∃ R, L.drop 4 = R := ⟨_, rfl⟩
  have e : L = [a, b, c, d] ++ R := by rw [← h, ← hR, List.take_append_drop]
  rw [e]
  simp [Lib.hasPrefix]

set_option maxRecDepth 20000 in
set_option maxHeartbeats 2000000 in
theorem awake6_any (w : World) (hG : G w) :
    Calls Tryd.prog 24 #[] w fun e w' => e = .returned (.bool true) ∧ Below w.heap.size w w' := by
  obtain ⟨L, hL⟩ : ∃ L, hmacL jefeK.data.toList (jefeA.data.toList ++ jefeB.data.toList) = L := ⟨_, rfl⟩
  have hp : Lib.hasPrefix L [91, 220, 193, 70] = true := by rw [← hL]; exact take4_prefix _ _ _ _ _ jefe_example
  have HS : Hid (∀ (W : World) (g : Nat), G W → Row W g 9 [.string jefeA, .string jefeB] → Calls Tryd.prog 29 #[.string jefeK, .slice (some ⟨g, 0, none⟩) 2 2] W fun e w' => e = .returned (.string ⟨L.toArray⟩) ∧ Below W.heap.size W w') := Lib.hid fun W g hg hr2 => by
    rw [← hL]
    exact HmSum_any jefeK (by decide) g 0 2 [jefeA, jefeB] W hg (fun j x hx => by rw [Nat.zero_add, hr2.cell]; match j, hx with | 0, hx => cases hx; rfl | 1, hx => cases hx; rfl) hr2.lt (by simp) (jefeA.data.toList ++ jefeB.data.toList) (by rw [join_flat]; simp) (by decide)
  have HP : Hid (∀ W : World, Calls Tryd.prog 28 #[.string ⟨L.toArray⟩, .string ⟨#[91, 220, 193, 70]⟩] W fun e w' => e = .returned (.bool true) ∧ w' = W) := Lib.hid fun W => by
    have h := Tryd.strings_HasPrefix ⟨L.toArray⟩ ⟨#[91, 220, 193, 70]⟩ W
    rw [show Lib.hasPrefix (ByteArray.mk L.toArray).data.toList (ByteArray.mk #[91, 220, 193, 70]).data.toList = true from hp] at h
    exact h
  have HG := Lib.hid hG
  clear hL hp hG
  go_enter Tryd.func24, Tryd.ntmps24
  go_wp2_with fail
  refine (Awake3_any _).mono ?_
  rintro e w1 ⟨rfl, hb1⟩
  go_wp2_with fail
  refine (Awake5_any _ (HG.out.below hb1)).mono ?_
  rintro e w2 ⟨rfl, hb2⟩
  have hB2 := hb1.trans (hb2.mono hb1.size)
  clear hb1 hb2
  go_wp2_with fail
  have hB3 := hB2.alloc hB2.size (.cells #[Value.string jefeA, Value.string jefeB] 9)
  refine (HS.out _ w2.heap.size (HG.out.below hB3) (Row.new w2 9 [Value.string jefeA, Value.string jefeB])).mono ?_
  rintro e w3 ⟨rfl, hb3⟩
  have hB4 := hB3.trans (hb3.mono hB3.size)
  clear hB2 hB3 hb3
  go_wp2_with fail
  refine (HP.out _).mono ?_
  rintro e w4 ⟨rfl, rfl⟩
  go_wp2_with fail
  go_ret
  exact ⟨rfl, hB4⟩
end Go.Proofs.YtlmbijhkpgolaaaDoor
