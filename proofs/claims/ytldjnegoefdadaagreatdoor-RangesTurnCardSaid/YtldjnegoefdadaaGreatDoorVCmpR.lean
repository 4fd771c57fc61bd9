/- The document's Cmp of versions. -/
import Derived.Test.YtldjnegoefdadaaGreatDoorVCmp
namespace Go.Proofs.YtldjnegoefdadaaGreatDoor
open Go.RowKit
set_option linter.unusedVariables false

theorem cmpN_lt {x y : Nat} (h : x < y) : cmpN x y = -1 := by unfold cmpN; rw [if_pos h]
theorem cmpN_gt {x y : Nat} (h : y < x) : cmpN x y = 1 := by unfold cmpN; rw [if_neg (by omega), if_pos h]

set_option maxRecDepth 4000 in
set_option maxHeartbeats 1000000 in
theorem refVCmp_any (b1 b2 n1 n2 m1 m2 : Nat) (x y : Nat → Nat) (w : World) (h1 : ∀ i, i < 3 → w.cell? ⟨b1, i, none⟩ = some (.int .i64 (x i : Nat))) (h2 : ∀ i, i < 3 → w.cell? ⟨b2, i, none⟩ = some (.int .i64 (y i : Nat))) (hn1 : 3 ≤ n1) (hn2 : 3 ≤ n2) :
    Calls Tryz.prog 70 #[.slice (some ⟨b1, 0, none⟩) n1 m1, .slice (some ⟨b2, 0, none⟩) n2 m2] w fun e w' => e = .returned (.int .i64 (cmpF x y)) ∧ ∃ q, w' = w.drewN q := by
  have H1 := Lib.hid h1
  have H2 := Lib.hid h2
  clear h1 h2
  go_enter Tryz.func70, Tryz.ntmps70
  go_wp2
  go_loopw [5] (fun i wr => ∃ k q : Nat, k ≤ 3 ∧ i = .int .i64 k ∧ wr = w.drewN q ∧ Hid (∀ j, j < k → x j = y j)) (fun i _ => 3 - (intOf i).toNat)
  case atStart => exact ⟨0, 0, by omega, rfl, rfl, Lib.hid (fun j hj => by omega)⟩
  case round =>
    obtain ⟨k, q, hk, rfl, rfl, HK⟩ := hrel
    by_cases hlt : k < 3
    · have c1 : ∀ n, (w.drewN n).cell? ⟨b1, k, none⟩ = some (.int .i64 (x k : Nat)) := fun n => by rw [World.cell?_drewN]; exact H1.out k hlt
      have c2 : ∀ n, (w.drewN n).cell? ⟨b2, k, none⟩ = some (.int .i64 (y k : Nat)) := fun n => by rw [World.cell?_drewN]; exact H2.out k hlt
      have hltI : (k : Int) < 3 := by omega
      have hk1 : (k : Int) < (n1 : Int) := by omega
      have hk2 : (k : Int) < (n2 : Int) := by omega
      rcases (by omega : x k < y k ∨ y k < x k ∨ x k = y k) with h | h | h
      · have HR : Hid (cmpF x y = -1) := Lib.hid (by rw [cmpF_at x y k hlt HK.out (by rw [cmpN_lt h]; decide)]; exact cmpN_lt h)
        have hI : ((x k : Nat) : Int) < ((y k : Nat) : Int) := by omega
        clear h
        go_wp2
        go_quiet (fail)
        go_wp2
        go_ret
        exact ⟨ret_int_d HR.out.symm, q + nq, by rw [World.drewN_drewN]⟩
      · have HR : Hid (cmpF x y = 1) := Lib.hid (by rw [cmpF_at x y k hlt HK.out (by rw [cmpN_gt h]; decide)]; exact cmpN_gt h)
        have hI : ¬ ((x k : Nat) : Int) < ((y k : Nat) : Int) := by omega
        have hJ : ((y k : Nat) : Int) < ((x k : Nat) : Int) := by omega
        clear h
        go_wp2
        go_quiet (fail)
        go_wp2
        rw [World.drewN_drewN]
        go_quiet (fail)
        go_wp2
        go_ret
        exact ⟨ret_int_d HR.out.symm, _, World.drewN_drewN _ _ _⟩
      · have hI : ¬ ((x k : Nat) : Int) < ((y k : Nat) : Int) := by omega
        have hJ : ¬ ((y k : Nat) : Int) < ((x k : Nat) : Int) := by omega
        have HN : Hid (∀ j, j < k + 1 → x j = y j) := Lib.hid fun j hj => by
          rcases (by omega : j < k ∨ j = k) with h1 | h1
          · exact HK.out j h1
          · rw [h1]; exact h
        clear h
        go_wp2
        go_quiet (fail)
        go_wp2
        rw [World.drewN_drewN]
        go_quiet (fail)
        go_wp2
        refine ⟨⟨k + 1, _, by omega, by go_num, rfl, HN⟩, by simp [intOf]; omega⟩
    · have HR : Hid (cmpF x y = 0) := Lib.hid (cmpF_all x y (fun i hi => HK.out i (by omega)))
      have hltI : ¬ (k : Int) < 3 := by omega
      go_wp2
      go_ret
      exact ⟨ret_int_d HR.out.symm, _, rfl⟩
end Go.Proofs.YtldjnegoefdadaaGreatDoor
