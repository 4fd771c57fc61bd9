/- The contracts of version.Cmp and of what it calls. -/
import Derived.Test.YtldjnegoefdadaaGreatDoorDSmall
import Derived.Deep.DeepCutAuto
import Derived.Deep.Quiet
import Derived.Deep.QuietTactic
import Derived.BigQuiet
import Derived.OrdersHeld
import Derived.Deep.RegionHeld3
namespace Go.Proofs.YtldjnegoefdadaaGreatDoor
open Go.RowKit
set_option linter.unusedVariables false

/-- Which of two numbers is the greater one. -/
def cmpN (x y : Nat) : Int := if x < y then -1 else if y < x then 1 else 0
theorem isNaN_any (x : Int) (w : World) : Calls Tryz.prog 137 #[.int .u16 x] w fun e w' => e = .returned (.bool false) ∧ w = w' := by
  go_enter Tryz.func137, Tryz.ntmps137
  go_wp2
  go_ret
  exact ⟨ret_boolE (by simp), rfl⟩
theorem cmp16_any (x y : Nat) (w : World) : Calls Tryz.prog 117 #[.int .u16 x, .int .u16 y] w fun e w' => e = .returned (.int .i64 (cmpN x y)) ∧ w = w' := by
  by_cases h1 : x < y
  · have e : cmpN x y = -1 := by unfold cmpN; rw [if_pos h1]
    rw [e]
    have hI : (x : Int) < (y : Int) := by omega
    clear e h1
    go_enter Tryz.func117, Tryz.ntmps117
    go_wp2_with (go_at_call 137; refine (isNaN_any _ _).mono ?_; rintro e w' ⟨rfl, rfl⟩)
    go_ret
    exact ⟨rfl, rfl⟩
  · by_cases h2 : y < x
    · have e : cmpN x y = 1 := by unfold cmpN; rw [if_neg h1, if_pos h2]
      rw [e]
      have hI : ¬ (x : Int) < (y : Int) := by omega
      have hJ : (y : Int) < (x : Int) := by omega
      clear e h1 h2
      go_enter Tryz.func117, Tryz.ntmps117
      go_wp2_with (go_at_call 137; refine (isNaN_any _ _).mono ?_; rintro e w' ⟨rfl, rfl⟩)
      go_ret
      exact ⟨rfl, rfl⟩
    · have e : cmpN x y = 0 := by unfold cmpN; rw [if_neg h1, if_neg h2]
      rw [e]
      have hI : ¬ (x : Int) < (y : Int) := by omega
      have hJ : ¬ (y : Int) < (x : Int) := by omega
      clear e h1 h2
      go_enter Tryz.func117, Tryz.ntmps117
      go_wp2_with (go_at_call 137; refine (isNaN_any _ _).mono ?_; rintro e w' ⟨rfl, rfl⟩)
      go_ret
      exact ⟨rfl, rfl⟩

/-- The first of three places at which two rows differ. -/
def cmpF (x y : Nat → Nat) : Int := if x 0 < y 0 then -1 else if y 0 < x 0 then 1 else if x 1 < y 1 then -1 else if y 1 < x 1 then 1 else if x 2 < y 2 then -1 else if y 2 < x 2 then 1 else 0
theorem cmpF_at (x y : Nat → Nat) (k : Nat) (hk : k < 3) (h : ∀ i, i < k → x i = y i) (hd : cmpN (x k) (y k) ≠ 0) : cmpF x y = cmpN (x k) (y k) := by
  unfold cmpF
  unfold cmpN at hd ⊢
  rcases (by omega : k = 0 ∨ k = 1 ∨ k = 2) with rfl | rfl | rfl
  · repeat' split
    all_goals omega
  · have h0 := h 0 (by omega)
    repeat' split
    all_goals omega
  · have h0 := h 0 (by omega)
    have h1 := h 1 (by omega)
    repeat' split
    all_goals omega
theorem cmpF_all (x y : Nat → Nat) (h : ∀ i, i < 3 → x i = y i) : cmpF x y = 0 := by
  have h0 := h 0 (by omega)
  have h1 := h 1 (by omega)
  have h2 := h 2 (by omega)
  unfold cmpF
  repeat' split
  all_goals omega
theorem cmpN_zero {x y : Nat} (h : cmpN x y = 0) : x = y := by
  unfold cmpN at h
  repeat' split at h
  all_goals omega

set_option maxHeartbeats 1000000 in
theorem Compare16_any (b1 b2 : Nat) (x y : Nat → Nat) (w : World) (h1 : ∀ i, i < 3 → w.cell? ⟨b1, i, none⟩ = some (.int .u16 (x i : Nat))) (h2 : ∀ i, i < 3 → w.cell? ⟨b2, i, none⟩ = some (.int .u16 (y i : Nat))) :
    Calls Tryz.prog 102 #[.slice (some ⟨b1, 0, none⟩) 3 3, .slice (some ⟨b2, 0, none⟩) 3 3] w fun e w' => e = .returned (.int .i64 (cmpF x y)) ∧ w = w' := by
  have H1 := Lib.hid h1
  have H2 := Lib.hid h2
  clear h1 h2
  go_enter Tryz.func102, Tryz.ntmps102
  go_wp2
  go_loop [11] (fun i => ∃ k : Nat, k ≤ 3 ∧ i = .int .i64 k ∧ Hid (∀ j, j < k → x j = y j)) (fun i => 3 - (intOf i).toNat)
  case atStart => exact ⟨0, by omega, rfl, Lib.hid (fun j hj => by omega)⟩
  case round =>
    obtain ⟨k, hk, rfl, HK⟩ := hrel
    by_cases hlt : k < 3
    · have c1 := H1.out k hlt
      have c2 := H2.out k hlt
      have hltI : (k : Int) < 3 := by omega
      obtain ⟨c, hc⟩ : ∃ c, cmpN (x k) (y k) = c := ⟨_, rfl⟩
      have HC : Hid (∀ W : World, Calls Tryz.prog 117 #[.int .u16 (x k : Nat), .int .u16 (y k : Nat)] W fun e w' => e = .returned (.int .i64 c) ∧ W = w') := Lib.hid fun W => by
        rw [← hc]; exact cmp16_any _ _ W
      have hcb : -1 ≤ c ∧ c ≤ 1 := by rw [← hc]; unfold cmpN; repeat' split <;> omega
      obtain ⟨cl, ch⟩ := hcb
      by_cases hz : c = 0
      · have HN : Hid (∀ j, j < k + 1 → x j = y j) := Lib.hid fun j hj => by
          rcases (by omega : j < k ∨ j = k) with h | h
          · exact HK.out j h
          · rw [h]; exact cmpN_zero (by rw [hc]; exact hz)
        subst hz
        clear hc
        go_wp2_with (go_at_call 117; refine (HC.out _).mono ?_; rintro e w' ⟨rfl, rfl⟩)
        go_round
        case rel => exact ⟨k + 1, by omega, by go_num, HN⟩
        case measure => simp [intOf]; omega
      · have HR : Hid (cmpF x y = c) := Lib.hid (by rw [← hc]; exact cmpF_at x y k hlt HK.out (by rw [hc]; exact hz))
        have hne : (c != 0) = true := by simp; exact hz
        clear hc hz
        go_wp2_with (go_at_call 117; refine (HC.out _).mono ?_; rintro e w' ⟨rfl, rfl⟩)
        go_ret
        exact ⟨ret_int_d HR.out.symm, rfl⟩
    · have HR : Hid (cmpF x y = 0) := Lib.hid (cmpF_all x y (fun i hi => HK.out i (by omega)))
      have hltI : ¬ (k : Int) < 3 := by omega
      go_wp2
      go_ret
      exact ⟨ret_int_d HR.out.symm, rfl⟩

/-- A version as a value. -/
def vv (a b c : Nat) : Value := .agg #[.int .u16 a, .int .u16 b, .int .u16 c]
theorem arr3 : (Tryz.prog.arrayLen 130) = 3 := by simp [Program.arrayLen, Tryz.underlying130]

theorem below_dr {B : Nat} {a w : World} (h : Below B a w) (n : Nat) : Below B a (w.drewN n) := ⟨h.os, h.tape, h.output, h.size, h.block⟩
theorem two_heap (w : World) (o1 o2 : Obj) (n : Nat) : (((w.alloc o1).alloc o2).drewN n).heap[w.heap.size]? = some o1 ∧ (((w.alloc o1).alloc o2).drewN n).heap[w.heap.size + 1]? = some o2 := by
  have e : (((w.alloc o1).alloc o2).drewN n).heap = (w.heap.push o1).push o2 := by simp [World.alloc, World.drewN, -World.alloc_eq]
  rw [e]
  constructor
  · rw [Array.getElem?_push, if_neg (by rw [Array.size_push]; omega), Array.getElem?_push, if_pos rfl]
  · rw [Array.getElem?_push, if_pos (by rw [Array.size_push])]
theorem cmp_cells (W : World) (g : Nat) (a b c : Nat) (h : W.heap[g]? = some (.cells #[.int .u16 a, .int .u16 b, .int .u16 c] 130 (0, 0))) :
    ∀ i, i < 3 → W.cell? ⟨g, i, none⟩ = some (.int .u16 (((fun i => [a, b, c].getD i 0) i : Nat) : Int)) := by
  intro i hi
  have := cell_of_row W g i #[.int .u16 a, .int .u16 b, .int .u16 c] 130 (0, 0) h
  rw [this]
  rcases (by omega : i = 0 ∨ i = 1 ∨ i = 2) with rfl | rfl | rfl <;> rfl

set_option maxHeartbeats 1000000 in
theorem Cmp_any (a0 a1 a2 b0 b1 b2 : Nat) (w : World) :
    Calls Tryz.prog 84 #[vv a0 a1 a2, vv b0 b1 b2] w fun e w' => e = .returned (.int .i64 (cmpF (fun i => [a0, a1, a2].getD i 0) (fun i => [b0, b1, b2].getD i 0))) ∧ Below w.heap.size w w' := by
  unfold vv
  obtain ⟨R, hR⟩ : ∃ R, cmpF (fun i => [a0, a1, a2].getD i 0) (fun i => [b0, b1, b2].getD i 0) = R := ⟨_, rfl⟩
  obtain ⟨W, hW⟩ : ∃ W, (w.alloc (.cells #[.int .u16 a0, .int .u16 a1, .int .u16 a2] 130)).alloc (.cells #[.int .u16 b0, .int .u16 b1, .int .u16 b2] 130) = W := ⟨_, rfl⟩
  have HB : Hid (Below w.heap.size w W) := Lib.hid (by rw [← hW]; exact ((Below.refl _ _).alloc (Nat.le_refl _) _).alloc (by simp) _)
  have HC : Hid (∀ n : Nat, Calls Tryz.prog 102 #[.slice (some ⟨w.heap.size, 0, none⟩) 3 3, .slice (some ⟨w.heap.size + 1, 0, none⟩) 3 3] (W.drewN n) fun e w' => e = .returned (.int .i64 R) ∧ W.drewN n = w') := Lib.hid fun n => by
    rw [← hR]
    refine Compare16_any _ _ _ _ _ (cmp_cells _ _ _ _ _ ?_) (cmp_cells _ _ _ _ _ ?_)
    · rw [← hW]; exact (two_heap w _ _ n).1
    · rw [← hW]; exact (two_heap w _ _ n).2
  rw [hR]
  clear hR
  have hs : ∀ (g : Nat) (W : World), (Instr.sliceAt 130 (.pointer (some ⟨g, 0, none⟩)) none none none).run Tryz.prog W = .ok (.slice (some ⟨g, 0, none⟩) 3 3) W := fun g W => by
    rw [run_sliceAt_array_all (P := Tryz.prog) W 130 ⟨g, 0, none⟩ (by simp [Program.arrayLen, Program.elem, Tryz.underlying130]), arr3]
    simp [Program.elem, Tryz.underlying130, Tryz.sizeOf128, slicedAt, Addr.add]
  have hs1 := hs w.heap.size
  have hs2 := hs (w.heap.size + 1)
  clear hs
  go_enter Tryz.func84, Tryz.ntmps84
  go_wp2
  go_quiet ((go_at_call 102; exact Calls.quiet_of_same ((HC.out _).mono fun _ _ ⟨he, hw⟩ => ⟨he, hw.symm⟩)))
  go_wp2
  go_ret
  exact ⟨rfl, below_dr HB.out nq⟩
end Go.Proofs.YtldjnegoefdadaaGreatDoor
