/- A disk in plain words: nothing of the program stands here. -/
import Derived.WalkKit
namespace Go.Proofs.YtiaaeniopjpfpaaGreatDoor
open Go.RowKit
set_option linter.unusedVariables false

/-- A disk: what lasts, what hangs, the fuse, how many steps were done, whether the power is gone. -/
structure DS where
  lasts : List (List UInt8)
  hangs : List (Nat × List UInt8)
  fuse : Int
  steps : Nat
  down : Bool

/-- The place of the last write to a sector. -/
def lastAt (l : List (Nat × List UInt8)) (k : Int) : Option Nat :=
  l.zipIdx.foldl (fun acc x => if (x.1.1 : Int) = k then some x.2 else acc) none
theorem lastAt_nil (k : Int) : lastAt [] k = none := rfl
theorem lastAt_snoc (l : List (Nat × List UInt8)) (x : Nat × List UInt8) (k : Int) : lastAt (l ++ [x]) k = if (x.1 : Int) = k then some l.length else lastAt l k := by
  unfold lastAt
  rw [List.zipIdx_append, List.foldl_append]
  simp
theorem snoc_ind {α : Type} {M : List α → Prop} (h0 : M []) (h1 : ∀ l x, M l → M (l ++ [x])) : ∀ l, M l := by
  intro l
  have : ∀ n (l : List α), l.length = n → M l := by
    intro n
    induction n with
    | zero => intro l h; rw [List.eq_nil_of_length_eq_zero h]; exact h0
    | succ n ih =>
      intro l h
      have hne : l ≠ [] := by intro e; simp [e] at h
      rw [← List.dropLast_concat_getLast hne]
      exact h1 _ _ (ih _ (by simp [h]))
  exact this _ l rfl
theorem lastAt_some {l : List (Nat × List UInt8)} {k : Int} {i : Nat} : lastAt l k = some i → ∃ x, l[i]? = some x ∧ (x.1 : Int) = k := by
  induction l using snoc_ind generalizing i with
  | h0 => intro h; simp [lastAt_nil] at h
  | h1 l y ih =>
    intro h
    rw [lastAt_snoc] at h
    by_cases e : (y.1 : Int) = k
    · rw [if_pos e] at h
      injection h with h
      subst h
      exact ⟨y, by simp, e⟩
    · rw [if_neg e] at h
      obtain ⟨x, hx, hk⟩ := ih h
      refine ⟨x, ?_, hk⟩
      rw [List.getElem?_append_left (List.getElem?_eq_some_iff.1 hx).1, hx]
theorem lastAt_lt {l : List (Nat × List UInt8)} {k : Int} {i : Nat} (h : lastAt l k = some i) : i < l.length := by
  obtain ⟨x, hx, _⟩ := lastAt_some h
  exact (List.getElem?_eq_some_iff.1 hx).1

/-- Whether it is one: its size, its sectors. -/
structure DS.ok (D : DS) : Prop where
  least : 16 ≤ D.lasts.length
  most : D.lasts.length ≤ 4096
  rows : ∀ b ∈ D.lasts, b.length = 128
  sect : ∀ x ∈ D.hangs, x.1 < D.lasts.length
  blks : ∀ x ∈ D.hangs, x.2.length = 128
  fuse1 : -9223372036854775808 ≤ D.fuse
  fuse2 : D.fuse ≤ 9223372036854775807

/-- Why nothing may be done with the sector. -/
def DS.fault (D : DS) (at' : Int) : Int := if D.down then 13 else if 0 ≤ at' ∧ at' < D.lasts.length then 0 else 2
def DS.blk (D : DS) (at' : Int) : List UInt8 := match lastAt D.hangs at' with
  | some i => (D.hangs.getD i (0, [])).2
  | none => D.lasts.getD at'.toNat []
def z128 : List UInt8 := List.replicate 128 0
def DS.read (D : DS) (at' : Int) : List UInt8 := if D.fault at' = 0 then D.blk at' else z128
/-- Is there the power for a step? -/
def DS.may (D : DS) : Bool := decide (D.fuse ≠ 0) && !D.down
def DS.stepped (D : DS) : DS :=
  if D.fuse = 0 then { D with down := true }
  else if D.down then D
  else { D with fuse := if 0 < D.fuse then D.fuse - 1 else D.fuse, steps := D.steps + 1 }
def DS.stepErr (D : DS) : Int := if D.may then 0 else 13
def DS.writeErr (D : DS) (at' : Int) : Int := if D.fault at' ≠ 0 then D.fault at' else D.stepErr
def DS.written (D : DS) (at' : Int) (b : List UInt8) : DS :=
  if D.fault at' ≠ 0 then D else if D.may then { D.stepped with hangs := D.hangs ++ [(at'.toNat, b)] } else D.stepped
/-- All is done that hangs. -/
def DS.settled (D : DS) : List (List UInt8) := D.lasts.mapIdx fun i b => match lastAt D.hangs i with
  | some j => (D.hangs.getD j (0, [])).2
  | none => b
def DS.synced (D : DS) : DS := if D.may then { D.stepped with lasts := D.settled, hangs := [] } else D.stepped
/-- The first bytes of what hangs are done. -/
def kept : List (Nat × List UInt8) → List (List UInt8) → Int → List (List UInt8)
  | [], l, _ => l
  | x :: r, l, k => if k < 1 then l else kept r (l.set x.1 (x.2.take (min k 128).toNat ++ (l.getD x.1 []).drop (min k 128).toNat)) (k - min k 128)
def DS.crashed (D : DS) (keep : Int) : DS := { D with lasts := kept D.hangs D.lasts keep, hangs := [], fuse := -1, down := false }

theorem flat_getElem (l : List (List UInt8)) (h : ∀ b ∈ l, b.length = 128) (i j : Nat) (hj : j < 128) : l.flatten[i * 128 + j]? = (l.getD i [])[j]? := by
  induction l generalizing i with
  | nil => simp
  | cons x l ih =>
    have hx := h x (by simp)
    rw [List.flatten_cons]
    cases i with
    | zero => rw [List.getElem?_append_left (by omega)]; simp
    | succ i =>
      rw [List.getElem?_append_right (by omega), hx]
      have e : (i + 1) * 128 + j - 128 = i * 128 + j := by omega
      rw [e, ih (fun b hb => h b (by simp [hb]))]
      simp
theorem flat_length (l : List (List UInt8)) (h : ∀ b ∈ l, b.length = 128) : l.flatten.length = l.length * 128 := by
  induction l with
  | nil => simp
  | cons x l ih => rw [List.flatten_cons, List.length_append, h x (by simp), ih (fun b hb => h b (by simp [hb])), List.length_cons]; omega
/-- A sector laid anew, in the row of all bytes. -/
theorem flat_set (l : List (List UInt8)) (h : ∀ b ∈ l, b.length = 128) (i : Nat) (hi : i < l.length) (b : List UInt8) (hb : b.length = 128) :
    (l.set i b).flatten = l.flatten.take (i * 128) ++ b ++ l.flatten.drop (i * 128 + 128) := by
  induction l generalizing i with
  | nil => simp at hi
  | cons x l ih =>
    have hx := h x (by simp)
    cases i with
    | zero =>
      simp only [List.set_cons_zero, List.flatten_cons, Nat.zero_mul, List.take_zero, List.nil_append, Nat.zero_add]
      rw [List.drop_append, hx]
      simp [← hx]
    | succ i =>
      simp only [List.set_cons_succ, List.flatten_cons]
      rw [ih (fun b hb => h b (by simp [hb])) i (by simpa using hi)]
      have e1 : (i + 1) * 128 = x.length + i * 128 := by omega
      have e2 : (i + 1) * 128 + 128 = x.length + (i * 128 + 128) := by omega
      rw [e2, e1, List.take_append, List.drop_append, List.take_of_length_le (l := x) (by omega), List.drop_of_length_le (l := x) (by omega), Nat.add_sub_cancel_left, Nat.add_sub_cancel_left]
      simp
end Go.Proofs.YtiaaeniopjpfpaaGreatDoor
