/- The contracts of the days of a month. -/
import Derived.Test.YtldjnegoefdadaaGreatDoorDCard
import Derived.Test.YtldjnegoefdadaaGreatDoorShelfP
import Derived.Deep.DeepCutAuto
namespace Go.Proofs.YtldjnegoefdadaaGreatDoor
open Go.RowKit
set_option linter.unusedVariables false

/-- How many days a month has. -/
def leapB (y : Int) : Bool := decide (y % 4 = 0 ∧ ¬ y % 100 = 0 ∨ y % 400 = 0)
def daysN (y m : Int) : Int :=
  if y < 0 ∨ 9999 < y then 0
  else if m = 1 ∨ m = 3 ∨ m = 5 ∨ m = 7 ∨ m = 8 ∨ m = 10 ∨ m = 12 then 31
  else if m = 4 ∨ m = 6 ∨ m = 9 ∨ m = 11 then 30
  else if m = 2 then (if leapB y then 29 else 28)
  else 0

theorem leap_any (y : Int) (w : World) (h0 : 0 ≤ y) (h1 : y ≤ 9999) : Calls Tryz.prog 131 #[.int .i64 y] w fun e w' => e = .returned (.bool (leapB y)) ∧ w = w' := by
  by_cases h4 : y % 4 = 0
  · by_cases h100 : y % 100 = 0
    · by_cases h400 : y % 400 = 0
      · have hl : leapB y = true := by unfold leapB; simp; omega
        rw [hl]
        go_enter Tryz.func131, Tryz.ntmps131
        go_wp2
        go_ret
        exact ⟨rfl, rfl⟩
      · have hl : leapB y = false := by unfold leapB; simp; omega
        rw [hl]
        have hb : (y % 400 == 0) = false := by simp; omega
        go_enter Tryz.func131, Tryz.ntmps131
        go_wp2
        go_ret
        exact ⟨rfl, rfl⟩
    · have hl : leapB y = true := by unfold leapB; simp; omega
      rw [hl]
      have hb : (y % 100 == 0) = false := by simp; omega
      have hb2 : (y % 100 != 0) = true := by simp; omega
      go_enter Tryz.func131, Tryz.ntmps131
      go_wp2
      go_ret
      exact ⟨rfl, rfl⟩
  · have hl : leapB y = false := by unfold leapB; simp; omega
    rw [hl]
    have hb : (y % 4 == 0) = false := by simp; omega
    have hb2 : (y % 400 == 0) = false := by simp; omega
    go_enter Tryz.func131, Tryz.ntmps131
    go_wp2
    go_ret
    exact ⟨rfl, rfl⟩

theorem dz {y m : Int} (h : y < 0 ∨ 9999 < y) : daysN y m = 0 := by unfold daysN; rw [if_pos h]
theorem dy {y m : Int} (h : ¬ (y < 0 ∨ 9999 < y)) : daysN y m = if m = 1 ∨ m = 3 ∨ m = 5 ∨ m = 7 ∨ m = 8 ∨ m = 10 ∨ m = 12 then 31
  else if m = 4 ∨ m = 6 ∨ m = 9 ∨ m = 11 then 30
  else if m = 2 then (if leapB y then 29 else 28)
  else 0 := by unfold daysN; rw [if_neg h]
/-- A month's days as the document has them: by the list. -/
def monthL : List Int := [31, 28, 31, 30, 31, 30, 31, 31, 30, 31, 30, 31]

theorem m_cases (m : Int) : m = 1 ∨ m = 2 ∨ m = 3 ∨ m = 4 ∨ m = 5 ∨ m = 6 ∨ m = 7 ∨ m = 8 ∨ m = 9 ∨ m = 10 ∨ m = 11 ∨ m = 12 ∨ (m < 1 ∨ 12 < m) := by omega

set_option maxHeartbeats 1000000 in
theorem Days_any (y m : Int) (w : World) : Calls Tryz.prog 113 #[.int .i64 y, .int .i64 m] w fun e w' => e = .returned (.int .i64 (daysN y m)) ∧ w = w' := by
  by_cases h0 : y < 0
  · rw [dz (.inl h0)]
    go_enter Tryz.func113, Tryz.ntmps113
    go_wp2
    go_ret
    exact ⟨rfl, rfl⟩
  · by_cases h1 : 9999 < y
    · rw [dz (.inr h1)]
      go_enter Tryz.func113, Tryz.ntmps113
      go_wp2
      go_ret
      exact ⟨rfl, rfl⟩
    · rw [dy (by omega)]
      have g0 : 0 ≤ y := by omega
      have g1 : y ≤ 9999 := by omega
      rcases m_cases m with rfl | rfl | rfl | rfl | rfl | rfl | rfl | rfl | rfl | rfl | rfl | rfl | hm
      case inr.inl =>
        have e2 : (if (2 : Int) = 1 ∨ (2 : Int) = 3 ∨ (2 : Int) = 5 ∨ (2 : Int) = 7 ∨ (2 : Int) = 8 ∨ (2 : Int) = 10 ∨ (2 : Int) = 12 then (31 : Int)
          else if (2 : Int) = 4 ∨ (2 : Int) = 6 ∨ (2 : Int) = 9 ∨ (2 : Int) = 11 then 30
          else if (2 : Int) = 2 then (if leapB y then 29 else 28)
          else 0) = if leapB y then 29 else 28 := by rw [if_neg (by omega), if_neg (by omega), if_pos rfl]
        rw [e2]
        clear e2
        cases hL : leapB y with
        | true =>
          rw [if_pos rfl]
          go_enter Tryz.func113, Tryz.ntmps113
          go_wp2_with (go_at_call 131; refine (leap_any y _ g0 g1).mono ?_; rintro e w' ⟨rfl, rfl⟩; rw [hL])
          go_ret
          exact ⟨rfl, rfl⟩
        | false =>
          rw [if_neg (by decide)]
          go_enter Tryz.func113, Tryz.ntmps113
          go_wp2_with (go_at_call 131; refine (leap_any y _ g0 g1).mono ?_; rintro e w' ⟨rfl, rfl⟩; rw [hL])
          go_ret
          exact ⟨rfl, rfl⟩
      all_goals
        go_enter Tryz.func113, Tryz.ntmps113
        go_wp2
        go_ret
        exact ⟨rfl, rfl⟩

/-- The number of digits. -/
def valF (a : Nat) (l : List UInt8) : Nat := l.foldl (fun a c => a * 10 + dv c) a
def val (l : List UInt8) : Nat := valF 0 l
theorem valF_cons (a : Nat) (c : UInt8) (l : List UInt8) : valF a (c :: l) = valF (a * 10 + dv c) l := by unfold valF; rw [List.foldl_cons]
theorem valF_snoc (a : Nat) (c : UInt8) (l : List UInt8) : valF a (l ++ [c]) = valF a l * 10 + dv c := by simp [valF, List.foldl_append]
def p10 : Nat → Nat
  | 0 => 1
  | k + 1 => p10 k * 10
theorem p10_le {k : Nat} (h : k ≤ 4) : p10 k ≤ 10000 := by
  rcases (by omega : k = 0 ∨ k = 1 ∨ k = 2 ∨ k = 3 ∨ k = 4) with rfl | rfl | rfl | rfl | rfl <;> decide
theorem parse_ok (M : Nat) (hM : 18446744073709551615 ≤ M) : ∀ (l : List UInt8) (acc k : Nat), (∀ c ∈ l, isDig c = true) → acc < p10 k → k + l.length ≤ 4 → Lib.parseUintM M acc l = .ok (valF acc l) ∧ valF acc l < p10 (k + l.length) := by
  intro l
  induction l with
  | nil => intro acc k _ h _; exact ⟨rfl, h⟩
  | cons c l ih =>
    intro acc k hd ha hk
    rw [List.length_cons] at hk
    have hc := hd c List.mem_cons_self
    have hc2 := (isDig_iff c).1 hc
    have hv := dv_le hc
    have h17 := p10_le (k := k) (by omega)
    have hn : acc * 10 + dv c < p10 (k + 1) := by show acc * 10 + dv c < p10 k * 10; omega
    obtain ⟨h1, h2⟩ := ih (acc * 10 + dv c) (k + 1) (fun d h => hd d (List.mem_cons_of_mem _ h)) hn (by omega)
    have a1 : ¬ 1844674407370955162 ≤ acc := by omega
    have a2 : ¬ M < acc * 10 + (c.toNat - 48) := by
      have hv2 : c.toNat - 48 ≤ 9 := hv
      omega
    refine ⟨?_, ?_⟩
    · rw [valF_cons]
      unfold Lib.parseUintM
      rw [if_pos hc2, if_neg a1, if_neg a2]
      exact h1
    · rw [valF_cons, List.length_cons, show k + (l.length + 1) = k + 1 + l.length by omega]
      exact h2
theorem parseB_ok {s : ByteArray} (hd : isD s = true) (h : s.size ≤ 4) : Lib.parseUintB 64 s.data.toList = .ok (val s.data.toList) ∧ val s.data.toList ≤ 9999 := by
  obtain ⟨h0, hall⟩ := (isD_iff s).1 hd
  have hl : s.data.toList.length = s.size := by simp
  obtain ⟨h1, h2⟩ := parse_ok (2 ^ 64 - 1) (by decide) s.data.toList 0 0 hall (by decide) (by omega)
  refine ⟨?_, ?_⟩
  · unfold Lib.parseUintB
    rw [if_neg (by intro e; rw [e] at hl; simp at hl; omega), h1]
    rfl
  · have h3 := p10_le (k := 0 + s.data.toList.length) (by omega)
    have h5 : val s.data.toList < p10 (0 + s.data.toList.length) := h2
    omega

theorem bytes_below (W : World) (e : TypeId) (s : ByteArray) : Below W.heap.size W (Lib.bytesWorld W e s) :=
  ⟨by simp [Lib.bytesWorld, World.freeze, World.alloc, World.drew, -World.alloc_eq, -World.drew_eq], by simp [Lib.bytesWorld, World.freeze, World.alloc, World.drew, -World.alloc_eq, -World.drew_eq], by simp [Lib.bytesWorld, World.freeze, World.alloc, World.drew, -World.alloc_eq, -World.drew_eq], by rw [Lib.bytesWorld_size]; omega, fun j hj => Lib.bytesWorld_at_old W e s j hj⟩

set_option maxHeartbeats 400000 in
theorem Number_few (s : ByteArray) (w : World) (hd : isD s = true) (hs : s.size ≤ 4) :
    Calls Tryz.prog 101 #[.string s] w fun e w' => e = .returned (.tuple #[.int .u64 (val s.data.toList : Nat), .int .i64 0]) ∧ Below w.heap.size w w' := by
  obtain ⟨hp, hv⟩ := parseB_ok hd hs
  have HP := Lib.hid hp
  clear hp
  go_enter Tryz.func101, Tryz.ntmps101
  go_wp2_with first
    | (go_at_call 61; refine (Is_any _ _ (by omega)).mono ?_; rintro e w' ⟨rfl, rfl⟩; rw [hd])
    | (go_at_call 116; refine (Tryz.strconv_ParseUint_10_at64_ok s (by omega) _ HP.out _).mono ?_; rintro e w' ⟨rfl, hw⟩)
  go_ret2
  refine ⟨rfl, ?_⟩
  rcases hw with rfl | rfl
  · exact Below.refl _ _
  · exact bytes_below _ _ _

end Go.Proofs.YtldjnegoefdadaaGreatDoor
