/- Acts done to a calm disk. -/
import Derived.Test.YtiaaeniopjpfpaaGreatDoorKAwk
import Derived.Test.YtiaaeniopjpfpaaGreatDoorKActs
namespace Go.Proofs.YtiaaeniopjpfpaaGreatDoor
open Go.RowKit Go.Maps
set_option linter.unusedVariables false
set_option linter.unusedSimpArgs false

/-- A disk whose power stays: what lasts is L; n writes hang at most, n steps were done at most. -/
structure Calm (D : DS) (L : List (List UInt8)) (h n : Nat) : Prop where
  lasts : D.lasts = L
  fuse : D.fuse = -1
  down : D.down = false
  hangs : D.hangs.length ≤ h
  steps : D.steps ≤ n
theorem Calm.may {D : DS} {L : List (List UInt8)} {h n : Nat} (c : Calm D L h n) : D.may = true := by
  unfold DS.may
  rw [c.fuse, c.down]
  rfl
theorem Calm.err {D : DS} {L : List (List UInt8)} {h n : Nat} (c : Calm D L h n) : D.stepErr = 0 := by
  unfold DS.stepErr
  rw [c.may]
  rfl
theorem Calm.stepped {D : DS} {L : List (List UInt8)} {h n : Nat} (c : Calm D L h n) : D.stepped = { D with steps := D.steps + 1 } := by
  unfold DS.stepped
  rw [if_neg (by rw [c.fuse]; decide), if_neg (by rw [c.down]; decide), c.fuse]
  cases D
  have := c.fuse
  simp only at this
  simp [this]
theorem Calm.written {D : DS} {L : List (List UInt8)} {h n : Nat} (c : Calm D L h n) (k : Int) (b : List UInt8) : Calm (D.written k b) L (h + 1) (n + 1) := by
  unfold DS.written
  split
  · exact ⟨c.lasts, c.fuse, c.down, by have := c.hangs; omega, by have := c.steps; omega⟩
  · rw [if_pos c.may, c.stepped]
    exact ⟨c.lasts, c.fuse, c.down, by have := c.hangs; simp; omega, by have := c.steps; simp; omega⟩
theorem calm_new : Calm (newDS 16) (List.replicate 16 z128) 0 0 := ⟨rfl, rfl, rfl, Nat.le_refl _, Nat.le_refl _⟩
def DS.acted (D : DS) (a : AC) : DS := D.written a.place (fillB a.byte)
theorem calm_acts {L : List (List UInt8)} : ∀ (l : List AC) {D : DS} {h n : Nat}, Calm D L h n → Calm (l.foldl DS.acted D) L (h + l.length) (n + l.length)
  | [], D, h, n, c => c
  | a :: l, D, h, n, c => by
    have := calm_acts l (c.written a.place (fillB a.byte))
    rw [List.foldl_cons, List.length_cons]
    have e1 : h + (l.length + 1) = h + 1 + l.length := by omega
    have e2 : n + (l.length + 1) = n + 1 + l.length := by omega
    rw [e1, e2]
    exact this
theorem acts_snoc (D : DS) (l : List AC) (j : Nat) (h : j < l.length) : (l.take (j + 1)).foldl DS.acted D = ((l.take j).foldl DS.acted D).acted (l.getD j default) := by
  rw [List.take_add_one, List.getElem?_eq_getElem h, Option.toList_some, List.foldl_append, List.getD_eq_getElem?_getD, List.getElem?_eq_getElem h]
  rfl
theorem Calm.crashed {D : DS} {L : List (List UInt8)} {h n : Nat} (c : Calm D L h n) (k : Int) : Calm (D.crashed k) (kept D.hangs L k) 0 n := ⟨by show kept D.hangs D.lasts k = _; rw [c.lasts], rfl, rfl, Nat.le_refl _, c.steps⟩
theorem Calm.empty {D : DS} {L : List (List UInt8)} {n : Nat} (c : Calm D L 0 n) : D.hangs = [] := List.eq_nil_of_length_eq_zero (by have := c.hangs; omega)
theorem Calm.crashed0 {D : DS} {L : List (List UInt8)} {n : Nat} (c : Calm D L 0 n) (k : Int) : Calm (D.crashed k) L 0 n := by
  have h := c.crashed k
  rw [c.empty] at h
  exact h
theorem Calm.synced {D : DS} {L : List (List UInt8)} {h n : Nat} (c : Calm D L h n) : Calm D.synced D.settled 0 (n + 1) := by
  unfold DS.synced
  rw [if_pos c.may, c.stepped]
  exact ⟨rfl, c.fuse, c.down, Nat.le_refl _, by have := c.steps; simp; omega⟩
theorem Calm.fault {D : DS} {L : List (List UInt8)} {h n : Nat} (c : Calm D L h n) (k : Int) : D.fault k = if 0 ≤ k ∧ k < (L.length : Nat) then 0 else 2 := by
  unfold DS.fault
  rw [c.down, c.lasts]
  rfl
/-- One write on a disk of which nothing hangs, and a sync. -/
theorem Calm.one {D : DS} {L : List (List UInt8)} {n : Nat} (c : Calm D L 0 n) (i : Nat) (hi : i < L.length) (b : List UInt8) : (D.written i b).settled = L.set i b := by
  have hf : D.fault i = 0 := by rw [c.fault, if_pos (by omega)]
  unfold DS.written DS.settled
  rw [hf, if_neg (by decide), if_pos c.may, c.stepped, c.empty]
  simp only [List.nil_append, Int.toNat_natCast]
  rw [c.lasts]
  apply List.ext_getElem?
  intro j
  rw [List.getElem?_mapIdx, List.getElem?_set]
  have hl : ∀ k : Nat, lastAt [(i, b)] (k : Int) = if i = k then some 0 else none := fun k => by
    have := lastAt_snoc [] (i, b) (k : Int)
    rw [List.nil_append, lastAt_nil] at this
    rw [this]
    by_cases e : i = k
    · rw [if_pos e, if_pos (by exact_mod_cast e)]; rfl
    · rw [if_neg e, if_neg (by exact_mod_cast e)]
  rw [hl]
  by_cases e : i = j
  · subst e
    rw [if_pos rfl, if_pos rfl, if_pos hi, List.getElem?_eq_getElem hi]
    rfl
  · rw [if_neg e, if_neg e]
    cases L[j]? <;> rfl
theorem acts_one (c : AC) : c.cells.toArray.all (·.oneCell') = true := by
  rw [Array.all_eq_true_iff_forall_mem]
  intro v hv
  simp only [AC.cells, List.mem_toArray, List.mem_cons, List.not_mem_nil, or_false] at hv
  rcases hv with rfl | rfl | rfl <;> rfl
/-- A disk behind acts: what lies below n, and the act's own box, stay. -/
theorem DiskIs.boxed {n : Nat} {w : World} {p : Nat} {D : DS} (h : DiskIs (fun k => k < n) w p D) : DiskIs (fun k => k < n ∨ k = w.heap.size) w p D :=
  h.more (fun g hg => by
    rcases hg with h | h
    · exact .inl h
    · exact .inr (by omega))
theorem DiskIs.less {L L' : Nat → Prop} {w : World} {p : Nat} {D : DS} (h : DiskIs L w p D) (hL : ∀ g, L' g → L g) : DiskIs L' w p D := h.more (fun g hg => .inl (hL g hg))
theorem ownFrom_keeps {β : Type} {B : Nat} {L : Nat → Prop} {w₀ : World} (hB : w₀.heap.size ≤ B) : OwnFrom B (fun (_ : β) W => Keeps L w₀ W) :=
  fun _ X Y row hs hg hr => hs.grown hg (fun g e => .inr (Nat.le_trans hB (hr g e).1))
end Go.Proofs.YtiaaeniopjpfpaaGreatDoor
