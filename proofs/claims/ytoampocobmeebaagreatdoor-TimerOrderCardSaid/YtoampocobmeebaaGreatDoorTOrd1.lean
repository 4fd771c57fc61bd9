/- cmp.Or of two, cmp.Compare of two numbers; how two entries stand. -/
import Derived.Test.YtoampocobmeebaaGreatDoorTPl
import Derived.Test.YtoampocobmeebaaGreatDoorTFind
namespace Go.Proofs.YtoampocobmeebaaGreatDoor.Tm
open Go.RowKit
set_option linter.unusedVariables false
set_option linter.unusedSimpArgs false

set_option maxHeartbeats 1000000 in
theorem Or2_any (g : Nat) (p q : Int) (w : World) (hp : -1 ≤ p ∧ p ≤ 1) (hq : -1 ≤ q ∧ q ≤ 1) (h0 : w.cell? ⟨g, 0, none⟩ = some (.int .i64 p)) (h1 : w.cell? ⟨g, 1, none⟩ = some (.int .i64 q)) :
    Calls Tryz.prog 31 #[.slice (some ⟨g, 0, none⟩) 2 2] w fun e w' => e = .returned (.int .i64 (if p = 0 then q else p)) ∧ w = w' := by
  obtain ⟨R, hR⟩ : ∃ R, (if p = 0 then q else p) = R := ⟨_, rfl⟩
  rw [hR]
  have HR := Lib.hid hR
  clear hR
  obtain ⟨p1, p2⟩ := hp
  obtain ⟨q1, q2⟩ := hq
  go_enter Tryz.func31, Tryz.ntmps31
  go_wp2
  go_loop [8] (fun i => ∃ k : Nat, k ≤ 2 ∧ i = .int .i64 k ∧ Hid ((1 ≤ k → p = 0) ∧ (2 ≤ k → q = 0))) (fun i => 2 - (intOf i).toNat)
  case atStart => exact ⟨0, by omega, rfl, Lib.hid ⟨fun h => by omega, fun h => by omega⟩⟩
  case round =>
    obtain ⟨k, hk, rfl, HK⟩ := hrel
    rcases (by omega : k = 0 ∨ k = 1 ∨ k = 2) with rfl | rfl | rfl
    · by_cases hz : p = 0
      · have HN : Hid ((1 ≤ 1 → p = 0) ∧ (2 ≤ 1 → q = 0)) := Lib.hid ⟨fun _ => hz, fun h => by omega⟩
        have hb : (p != 0) = false := by simp [hz]
        clear hz
        go_wp2
        go_round
        case rel => exact ⟨1, by omega, rfl, HN⟩
        case measure => simp [intOf]
      · have hb : (p != 0) = true := by simp [hz]
        have HE : Hid (p = R) := Lib.hid (by rw [← HR.out, if_neg hz])
        clear hz
        go_wp2
        go_ret
        exact ⟨ret_intE HE.out, rfl⟩
    · have hz := HK.out.1 (by omega)
      have HE : Hid (q = R) := Lib.hid (by rw [← HR.out, if_pos hz])
      by_cases hq0 : q = 0
      · have HN : Hid ((1 ≤ 2 → p = 0) ∧ (2 ≤ 2 → q = 0)) := Lib.hid ⟨fun _ => hz, fun _ => hq0⟩
        have hb : (q != 0) = false := by simp [hq0]
        clear hz hq0
        go_wp2
        go_round
        case rel => exact ⟨2, by omega, rfl, HN⟩
        case measure => simp [intOf]
      · have hb : (q != 0) = true := by simp [hq0]
        clear hz hq0
        go_wp2
        go_ret
        exact ⟨ret_intE HE.out, rfl⟩
    · have HE : Hid (R = 0) := Lib.hid (by rw [← HR.out, if_pos (HK.out.1 (by omega)), HK.out.2 (by omega)])
      go_wp2
      go_ret
      exact ⟨ret_intE HE.out.symm, rfl⟩


set_option maxHeartbeats 1000000 in
theorem isNaNU_any (x : Nat) (w : World) : Calls Tryz.prog 39 #[.int .u64 x] w fun e w' => e = .returned (.bool false) ∧ w = w' := by
  go_enter Tryz.func39, Tryz.ntmps39
  go_wp2
  go_ret
  exact ⟨by simp, rfl⟩
set_option maxHeartbeats 1000000 in
theorem cmpU_any (x y : Nat) (w : World) : Calls Tryz.prog 32 #[.int .u64 x, .int .u64 y] w fun e w' => e = .returned (.int .i64 (if x < y then -1 else if y < x then 1 else 0)) ∧ w = w' := by
  have H1 := Lib.hid (fun W => isNaNU_any x W)
  have H2 := Lib.hid (fun W => isNaNU_any y W)
  by_cases h1 : x < y
  · have h1I : (x : Int) < y := by omega
    have h2I : ¬ (y : Int) < x := by omega
    rw [if_pos h1]
    go_enter Tryz.func32, Tryz.ntmps32
    go_wp2_with fail
    refine (H1.out _).mono ?_
    rintro e w1 ⟨rfl, rfl⟩
    go_wp2_with fail
    refine (H2.out _).mono ?_
    rintro e w1 ⟨rfl, rfl⟩
    go_wp2
    go_ret
    exact ⟨rfl, rfl⟩
  · have h1I : ¬ (x : Int) < y := by omega
    rw [if_neg h1]
    by_cases h2 : y < x
    · have h2I : (y : Int) < x := by omega
      rw [if_pos h2]
      go_enter Tryz.func32, Tryz.ntmps32
      go_wp2_with fail
      refine (H1.out _).mono ?_
      rintro e w1 ⟨rfl, rfl⟩
      go_wp2_with fail
      refine (H2.out _).mono ?_
      rintro e w1 ⟨rfl, rfl⟩
      go_wp2
      go_ret
      exact ⟨rfl, rfl⟩
    · have h2I : ¬ (y : Int) < x := by omega
      rw [if_neg h2]
      go_enter Tryz.func32, Tryz.ntmps32
      go_wp2_with fail
      refine (H1.out _).mono ?_
      rintro e w1 ⟨rfl, rfl⟩
      go_wp2_with fail
      refine (H2.out _).mono ?_
      rintro e w1 ⟨rfl, rfl⟩
      go_wp2
      go_ret
      exact ⟨rfl, rfl⟩
theorem cmpB_in : ∀ a b : List UInt8, -1 ≤ Lib.compareBytes a b ∧ Lib.compareBytes a b ≤ 1
  | [], [] => by simp [Lib.compareBytes]
  | [], _ :: _ => by simp [Lib.compareBytes]
  | _ :: _, [] => by simp [Lib.compareBytes]
  | x :: a, y :: b => by
    have ih := cmpB_in a b
    rw [Lib.compareBytes]
    repeat' split
    all_goals omega
theorem ordC_or (a b : EN) : ordC a b = if (if a.tm < b.tm then (-1 : Int) else if b.tm < a.tm then 1 else 0) = 0 then Lib.compareBytes a.uid b.uid else (if a.tm < b.tm then (-1 : Int) else if b.tm < a.tm then 1 else 0) := by
  unfold ordC
  by_cases h1 : a.tm < b.tm
  · simp [h1]
  · by_cases h2 : b.tm < a.tm
    · simp [h1, h2]
    · simp [h1, h2]

end Go.Proofs.YtoampocobmeebaaGreatDoor.Tm
