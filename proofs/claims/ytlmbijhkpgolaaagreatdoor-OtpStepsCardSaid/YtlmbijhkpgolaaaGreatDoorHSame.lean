/- Whether two texts are the same. -/
import Derived.Test.YtlmbijhkpgolaaaGreatDoorHMask
namespace Go.Proofs.YtlmbijhkpgolaaaGreatDoor
open Go.RowKit
set_option linter.unusedVariables false

theorem or_zero8 (a b : UInt8) : (a ||| b = 0) ↔ (a = 0 ∧ b = 0) := by
  constructor
  · intro h
    have h1 := congrArg UInt8.toNat h
    rw [UInt8.toNat_or] at h1
    have h2 : a.toNat ||| b.toNat = 0 := h1
    rw [Nat.or_eq_zero_iff] at h2
    exact ⟨UInt8.toNat_inj.1 h2.1, UInt8.toNat_inj.1 h2.2⟩
  · rintro ⟨rfl, rfl⟩; rfl
theorem xor_zero8 (a b : UInt8) : (a ^^^ b = 0) ↔ a = b := by
  constructor
  · intro h
    have h1 := congrArg (· ^^^ b) h
    simpa [UInt8.xor_assoc] using h1
  · rintro rfl; simp
theorem u8_or_bits (a b : UInt8) : bits BinOp.or IntKind.u8 (a.toNat : Int) (b.toNat : Int) = ((a ||| b).toNat : Int) := by
  rw [UInt8.toNat_or]
  exact u8_or_nat _ _ (UInt8.toNat_lt a) (UInt8.toNat_lt b)

set_option maxRecDepth 4000 in
set_option maxHeartbeats 1000000 in
theorem Same_any (a b : ByteArray) (w : World) (ha : a.size ≤ 140737488355328) :
    Calls Tryz.prog 24 #[.string a, .string b] w fun e w' => e = .returned (.bool (decide (a.data.toList = b.data.toList))) ∧ Below w.heap.size w w' := by
  have hla : a.data.toList.length = a.size := by simp
  have hlb : b.data.toList.length = b.size := by simp
  by_cases hne : a.size = b.size
  · go_enter Tryz.func24, Tryz.ntmps24
    go_wp2
    go_loopw [5, 14] (fun d i wr => ∃ (j : Nat) (c : UInt8), j ≤ a.size ∧ i = .int .i64 j ∧ d = .int .u8 c.toNat ∧ Hid (c = 0 ↔ a.data.toList.take j = b.data.toList.take j) ∧ Below w.heap.size w wr) (fun _ i _ => a.size - (intOf i).toNat)
    case atStart => exact ⟨0, 0, Nat.zero_le _, rfl, rfl, Lib.hid (by simp), Below.refl _ _⟩
    case round =>
      obtain ⟨j, c, hj, rfl, rfl, HC, hb⟩ := hrel
      by_cases hlt : j < a.size
      · have hlt2 : j < b.size := by omega
        obtain ⟨x, hx⟩ : ∃ x, a[j] = x := ⟨_, rfl⟩
        obtain ⟨y, hy⟩ : ∃ y, b[j] = y := ⟨_, rfl⟩
        have hX := u8_xor_bits x y
        have hO := u8_or_bits c (x ^^^ y)
        have HN : Hid ((c ||| x ^^^ y) = 0 ↔ a.data.toList.take (j + 1) = b.data.toList.take (j + 1)) := Lib.hid (by
          rw [take_snoc a j hlt, take_snoc b j hlt2, hx, hy, or_zero8, xor_zero8, HC.out]
          constructor
          · rintro ⟨h1, h2⟩; rw [h1, h2]
          · intro h
            have h1 := List.append_inj h (by simp; omega)
            exact ⟨h1.1, by simpa using h1.2⟩)
        obtain ⟨z, hz⟩ : ∃ z, x ^^^ y = z := ⟨_, rfl⟩
        rw [hz] at hX hO HN
        obtain ⟨q, hq⟩ : ∃ q, c ||| z = q := ⟨_, rfl⟩
        rw [hq] at hO HN
        clear hla hlb hne hz hq
        go_wp2
        go_quiet (fail)
        go_wp2
        go_roundw
        case rel => exact ⟨j + 1, _, by omega, by go_num, rfl, HN, below_drewN hb _⟩
        case measure => simp [intOf]; omega
      · have hd : decide (a.data.toList = b.data.toList) = decide ((c.toNat : Int) = 0) := by
          have h := HC.out
          rw [List.take_of_length_le (by omega), List.take_of_length_le (by omega)] at h
          refine decide_eq_decide.2 (h.symm.trans ⟨fun e => by rw [e]; rfl, fun e => UInt8.toNat_inj.1 ?_⟩)
          have h0 : c.toNat = 0 := by omega
          rw [h0]; rfl
        have HD := Lib.hid hd
        clear hd hla hlb
        have hge : (a.size : Int) ≤ (j : Int) := by omega
        go_wp2
        go_ret
        refine ⟨?_, hb⟩
        rw [HD.out]
        first | rfl | (congr 2)
  · have hd : decide (a.data.toList = b.data.toList) = false := decide_eq_false fun h => hne (by rw [← hla, ← hlb, h])
    have hnei : ¬ ((a.size : Int) = (b.size : Int)) := by omega
    rw [hd]
    clear hd hla hlb
    go_enter Tryz.func24, Tryz.ntmps24
    go_wp2
    go_ret
    exact ⟨rfl, Below.refl _ _⟩
end Go.Proofs.YtlmbijhkpgolaaaGreatDoor
