/- The document's Number: of any text. -/
import Derived.Test.YtldjnegoefdadaaGreatDoorVPlain
namespace Go.Proofs.YtldjnegoefdadaaGreatDoor
open Go.RowKit
set_option linter.unusedVariables false

/-- A byte less 48, going round. -/
def dw (c : UInt8) : Nat := (c.toNat + 208) % 256
def refN : Nat → List UInt8 → Option Nat
  | a, [] => some a
  | a, c :: r => if (18446744073709551615 - dw c) / 10 < a then none else refN (a * 10 + dw c) r
theorem refN_no (a : Nat) (c : UInt8) (r : List UInt8) (h : (18446744073709551615 - dw c) / 10 < a) : refN a (c :: r) = none := by rw [refN, if_pos h]
theorem refN_go (a : Nat) (c : UInt8) (r : List UInt8) (h : ¬ (18446744073709551615 - dw c) / 10 < a) : refN a (c :: r) = refN (a * 10 + dw c) r := by rw [refN, if_neg h]
theorem dw_dig {c : UInt8} (h : isDig c = true) : dw c = dv c := by
  have := (isDig_iff c).1 h
  unfold dw dv
  omega
theorem refN_dig (l : List UInt8) : ∀ a, (∀ c ∈ l, isDig c = true) → a < 18446744073709551616 → refN a l = if valF a l < 18446744073709551616 then some (valF a l) else none := by
  induction l with
  | nil => intro a _ ha; rw [if_pos (by show a < _; exact ha)]; rfl
  | cons c l ih =>
    intro a hd ha
    have hc := hd c List.mem_cons_self
    have h9 := dv_le hc
    have hge := valF_ge l (a * 10 + dv c)
    rw [valF_cons]
    by_cases h : (18446744073709551615 - dw c) / 10 < a
    · rw [refN_no a c l h, if_neg]
      rw [dw_dig hc] at h
      omega
    · rw [refN_go a c l h, dw_dig hc]
      rw [dw_dig hc] at h
      exact ih _ (fun d h => hd d (List.mem_cons_of_mem _ h)) (by omega)
theorem drop_at (s : ByteArray) (j : Nat) (h : j < s.size) : s.data.toList.drop j = s[j] :: s.data.toList.drop (j + 1) := by
  rw [List.drop_eq_getElem_cons (by simpa using h)]
  rfl
/-- What the document's Number answers. -/
def refNR (o : Option Nat) : Value := match o with | some n => .tuple #[.int .u64 (n : Nat), .bool true] | none => .tuple #[.int .u64 0, .bool false]

set_option maxHeartbeats 1000000 in
theorem refNumber_any (s : ByteArray) (w : World) (hs : s.size ≤ 1000000) :
    Calls Tryz.prog 87 #[.string s] w fun e w' => e = .returned (refNR (refN 0 s.data.toList)) ∧ w = w' := by
  obtain ⟨R, hR⟩ : ∃ R, refN 0 s.data.toList = R := ⟨_, rfl⟩
  rw [hR]
  have HR := Lib.hid hR
  clear hR
  go_enter Tryz.func87, Tryz.ntmps87
  go_wp2
  go_loop [4, 5] (fun n i => ∃ j a : Nat, j ≤ s.size ∧ i = .int .i64 j ∧ n = .int .u64 a ∧ a < 18446744073709551616 ∧ Hid (refN a (s.data.toList.drop j) = R)) (fun _ i => s.size - (intOf i).toNat)
  case atStart => exact ⟨0, 0, Nat.zero_le _, rfl, rfl, by omega, HR⟩
  case round =>
    obtain ⟨j, a, hj, rfl, rfl, ha, HA⟩ := hrel
    by_cases hlt : j < s.size
    · have hstep := drop_at s j hlt
      obtain ⟨c, hc⟩ : ∃ c, s[j] = c := ⟨_, rfl⟩
      rw [hc] at hstep
      have h255 : dw c ≤ 255 := by unfold dw; omega
      have hw : IntKind.u8.wrap ((c.toNat : Int) - 48) = (dw c : Nat) := by rw [IntKind.wrap_u8]; unfold dw; omega
      obtain ⟨d, hd⟩ : ∃ d, dw c = d := ⟨_, rfl⟩
      rw [hd] at hw h255
      by_cases hov : (18446744073709551615 - d) / 10 < a
      · have HR2 : Hid (R = none) := Lib.hid (by rw [← HA.out, hstep]; exact refN_no _ _ _ (by rw [hd]; exact hov))
        have hI : (18446744073709551615 - (d : Int)) / 10 < (a : Int) := by omega
        clear hov hstep hd
        go_wp2
        go_ret2
        exact ⟨by rw [HR2.out]; rfl, rfl⟩
      · have HR2 : Hid (refN (a * 10 + d) (s.data.toList.drop (j + 1)) = R) := Lib.hid (by rw [← HA.out, hstep, refN_go _ _ _ (by rw [hd]; exact hov), hd])
        have hI : ¬ (18446744073709551615 - (d : Int)) / 10 < (a : Int) := by omega
        have hb : a * 10 + d < 18446744073709551616 := by omega
        clear hov hstep hd
        go_wp2
        go_round
        case rel => exact ⟨j + 1, a * 10 + d, by omega, by go_num, by go_num, hb, HR2⟩
        case measure => simp [intOf]; omega
    · have hz : s.data.toList.drop j = [] := List.drop_eq_nil_of_le (by simp; omega)
      have HR2 : Hid (R = some a) := Lib.hid (by rw [← HA.out, hz]; rfl)
      clear hz
      go_wp2
      go_ret2
      exact ⟨by rw [HR2.out]; rfl, rfl⟩
end Go.Proofs.YtldjnegoefdadaaGreatDoor
