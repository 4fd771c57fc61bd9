/- digits.Number of any text that is no longer than 1,000 bytes. -/
import Derived.Test.YtldjnegoefdadaaGreatDoorVDig
namespace Go.Proofs.YtldjnegoefdadaaGreatDoor
open Go.RowKit
set_option linter.unusedVariables false

/-- The library's error of what is too great is there. -/
def ER (w : World) : Prop := ∃ ev, w.cell? ⟨4, 0, none⟩ = some ev ∧ (ev = .nilIface ∨ ∃ te pe, ev = .iface te pe)
theorem ER.below {w w' : World} (h : ER w) (hb : Below w.heap.size w w') : ER w' := by
  obtain ⟨ev, hc, hv⟩ := h
  exact ⟨ev, (hb.cell (p := ⟨4, 0, none⟩) (World.block_lt_of_cell? _ _ hc)).trans hc, hv⟩

theorem parse_range (s : ByteArray) (hlim : s.size ≤ 281474976710656) (h : Lib.parseUintB 64 s.data.toList = .range) (ev : Value) (w : World) (hv : w.cell? ⟨4, 0, none⟩ = some ev) (hev : ev = .nilIface ∨ ∃ te pe, ev = .iface te pe) :
    Calls Tryz.prog 116 #[.string s, .int .i64 10, .int .i64 64] w fun e w' => ∃ N, e = .returned (.tuple #[.int .u64 18446744073709551615, .iface 220 (.pointer (some ⟨N, 0, none⟩))]) ∧ Below w.heap.size w w' :=
  (Any.strconv_ParseUint_10_at64_range Tryz.laysPu14 s hlim h ev w hv hev).mono fun _ _ ⟨N, he, _, _, hB⟩ => ⟨N, he, hB⟩

set_option maxHeartbeats 400000 in
theorem Number_not (s : ByteArray) (w : World) (hs : s.size ≤ 1000) (hd : isD s = false) :
    Calls Tryz.prog 101 #[.string s] w fun e w' => e = .returned (.tuple #[.int .u64 0, .int .i64 4]) ∧ Below w.heap.size w w' := by
  go_enter Tryz.func101, Tryz.ntmps101
  go_wp2_with (go_at_call 61; refine (Is_any _ _ (by omega)).mono ?_; rintro e w' ⟨rfl, rfl⟩; rw [hd])
  go_ret2
  exact ⟨rfl, Below.refl _ _⟩

set_option maxHeartbeats 400000 in
theorem Number_fit (s : ByteArray) (w : World) (hs : s.size ≤ 1000) (hd : isD s = true) (hv : val s.data.toList < 18446744073709551616) :
    Calls Tryz.prog 101 #[.string s] w fun e w' => e = .returned (.tuple #[.int .u64 (val s.data.toList : Nat), .int .i64 0]) ∧ Below w.heap.size w w' := by
  have HP := Lib.hid (parseB_fit hd hv)
  clear hv
  go_enter Tryz.func101, Tryz.ntmps101
  go_wp2_with first
    | (go_at_call 61; refine (Is_any _ _ (by omega)).mono ?_; rintro e w' ⟨rfl, rfl⟩; rw [hd])
    | (go_at_call 116; refine (Tryz.strconv_ParseUint_10_at64_ok s (by omega) _ HP.out _).mono ?_; rintro e w' ⟨rfl, hw⟩)
  go_ret2
  refine ⟨rfl, ?_⟩
  rcases hw with rfl | rfl
  · exact Below.refl _ _
  · exact bytes_below _ _ _

set_option maxHeartbeats 400000 in
theorem Number_great (s : ByteArray) (w : World) (hs : s.size ≤ 1000) (hd : isD s = true) (hv : 18446744073709551616 ≤ val s.data.toList) (hE : ER w) :
    Calls Tryz.prog 101 #[.string s] w fun e w' => e = .returned (.tuple #[.int .u64 0, .int .i64 7]) ∧ Below w.heap.size w w' := by
  have HP := Lib.hid (parseB_great hd hv)
  clear hv
  obtain ⟨ev, hc, hev⟩ := hE
  have HC := Lib.hid hc
  clear hc
  go_enter Tryz.func101, Tryz.ntmps101
  go_wp2_with first
    | (go_at_call 61; refine (Is_any _ _ (by omega)).mono ?_; rintro e w' ⟨rfl, rfl⟩; rw [hd])
    | (go_at_call 116; refine (parse_range s (by omega) HP.out ev _ HC.out hev).mono ?_; rintro e w' ⟨N, rfl, hB⟩)
  go_ret2
  exact ⟨rfl, hB⟩

/-- What Number answers. -/
def numR (s : ByteArray) : Int × Int := if isD s = false then (0, 4) else if val s.data.toList < 18446744073709551616 then (((val s.data.toList : Nat) : Int), 0) else (0, 7)
theorem Number_any (s : ByteArray) (w : World) (hs : s.size ≤ 1000) (hE : ER w) :
    Calls Tryz.prog 101 #[.string s] w fun e w' => e = .returned (.tuple #[.int .u64 (numR s).1, .int .i64 (numR s).2]) ∧ Below w.heap.size w w' := by
  cases hd : isD s with
  | false =>
    have e : numR s = (0, 4) := by unfold numR; rw [if_pos hd]
    rw [e]
    exact Number_not s w hs hd
  | true =>
    by_cases hv : val s.data.toList < 18446744073709551616
    · have e : numR s = (((val s.data.toList : Nat) : Int), 0) := by unfold numR; rw [if_neg (by simp [hd]), if_pos hv]
      rw [e]
      exact Number_fit s w hs hd hv
    · have e : numR s = (0, 7) := by unfold numR; rw [if_neg (by simp [hd]), if_neg hv]
      rw [e]
      exact Number_great s w hs hd (by omega) hE
theorem numR_fst (s : ByteArray) : 0 ≤ (numR s).1 ∧ (numR s).1 < 18446744073709551616 := by
  unfold numR
  split
  · exact ⟨by decide, by decide⟩
  · split
    · exact ⟨by omega, by omega⟩
    · exact ⟨by decide, by decide⟩
end Go.Proofs.YtldjnegoefdadaaGreatDoor
