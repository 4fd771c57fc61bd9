/- The primes, plainly: nothing of the program stands here. -/
import Derived.WalkKit
namespace Go.Proofs.YtheidjnapoipaaaGreatDoor
open Go.RowKit

/-- No number from two on, below d, parts m. -/
def tr (m d : Nat) : Bool := (List.range d).all fun e => decide (e < 2) || m % e != 0
/-- The primes below m, with their places. -/
def pb : Nat → List (Nat × Nat)
  | 0 => []
  | m + 1 => if 2 ≤ m ∧ tr m m = true then pb m ++ [((pb m).length, m)] else pb m

theorem tr_two (m : Nat) : tr m 2 = true := rfl
theorem tr_succ {m d : Nat} (h : tr m d = true) (hd : m % d ≠ 0) : tr m (d + 1) = true := by
  unfold tr at *
  rw [List.range_succ, List.all_append, h]
  simp [hd]
theorem tr_not {m d : Nat} (h2 : 2 ≤ d) (hlt : d < m) (hd : m % d = 0) : tr m m = false := by
  unfold tr
  rw [Bool.eq_false_iff]
  intro h
  have := List.all_eq_true.1 h d (List.mem_range.2 hlt)
  simp [hd] at this
  omega
theorem tr_done : ∀ m, m < 312 → ∀ d, d < 20 → 2 ≤ m → m < d * d → tr m d = true → tr m m = true := by decide +kernel
theorem pb_is {m : Nat} (h2 : 2 ≤ m) (h : tr m m = true) : pb (m + 1) = pb m ++ [((pb m).length, m)] := by
  show (if _ then _ else _) = _
  rw [if_pos ⟨h2, h⟩]
theorem pb_not {m : Nat} (h : tr m m = false) : pb (m + 1) = pb m := by
  show (if _ then _ else _) = _
  rw [if_neg (by simp [h])]
theorem pb_pre (m k : Nat) : pb m <+: pb (m + k) := by
  induction k with
  | zero => exact List.prefix_refl _
  | succ k ih =>
    refine ih.trans ?_
    show _ <+: (if _ then _ else _)
    split
    · exact List.prefix_append _ _
    · exact List.prefix_refl _
theorem pb_le {m k : Nat} (h : m ≤ k) : pb m <+: pb k := by
  have := pb_pre m (k - m)
  rwa [show m + (k - m) = k by omega] at this
theorem pb_311 : (pb 311).length = 63 := by decide +kernel
theorem pb_312 : (pb 312).length = 64 := by decide +kernel
theorem pb_lt {m : Nat} (h : m ≤ 311) : (pb m).length < 64 := by
  have := (pb_le h).length_le
  rw [pb_311] at this
  omega
theorem pb_all : (pb 312).all (fun x => decide (x.1 < 64) && decide (x.2 < 512)) = true := by decide +kernel

/-- A prime, with its place. -/
abbrev Pr := { x : Nat × Nat // x ∈ pb 312 }
theorem pr_lt (x : Pr) : x.1.1 < 64 ∧ x.1.2 < 512 := by
  have := List.all_eq_true.1 pb_all x.1 x.2
  simpa using this

theorem pr_mem {m : Nat} (h2 : 2 ≤ m) (hm : m ≤ 311) (h : tr m m = true) : ((pb m).length, m) ∈ pb 312 := by
  refine (pb_le (show m + 1 ≤ 312 by omega)).subset ?_
  rw [pb_is h2 h]
  simp

end Go.Proofs.YtheidjnapoipaaaGreatDoor
