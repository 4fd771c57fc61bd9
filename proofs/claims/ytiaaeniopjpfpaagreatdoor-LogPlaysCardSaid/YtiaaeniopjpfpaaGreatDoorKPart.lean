/- What lasts while a sync is under way: plain words. -/
import Derived.Test.YtiaaeniopjpfpaaGreatDoorKWrite
namespace Go.Proofs.YtiaaeniopjpfpaaGreatDoor
open Go.RowKit Go.Maps
set_option linter.unusedVariables false
set_option linter.unusedSimpArgs false

def partL (D : DS) (left : Lit → Bool) : List (List UInt8) := D.lasts.mapIdx fun i b => match lastAt D.hangs i with
  | some j => if left (.int .i64 (i : Nat)) then b else (D.hangs.getD j (0, [])).2
  | none => b
theorem partL_length (D : DS) (left : Lit → Bool) : (partL D left).length = D.lasts.length := by simp [partL]
theorem partL_start (D : DS) (left : Lit → Bool) (h : ∀ i : Nat, left (.int .i64 (i : Nat)) = (lastAt D.hangs i).isSome) : partL D left = D.lasts := by
  apply List.ext_getElem?
  intro k
  unfold partL
  rw [List.getElem?_mapIdx]
  cases hk : D.lasts[k]? with
  | none => rfl
  | some b =>
    simp only [Option.map_some]
    cases hl : lastAt D.hangs k with
    | none => rfl
    | some j => simp only []; rw [h k, hl]; rfl
theorem partL_end (D : DS) (left : Lit → Bool) (h : ∀ kl, left kl = false) : partL D left = D.settled := by
  unfold partL DS.settled
  congr
  funext i b
  cases lastAt D.hangs i with
  | none => rfl
  | some j => simp [h]
theorem same_int (a b : Int) : (Lit.int .i64 a).sameKey (.int .i64 b) = decide (a = b) := by
  by_cases h : a = b
  · subst h; rw [WideAt.sameKey_self (key_int a)]; simp
  · rw [Maps.sameKey_ne (by intro e; injection e with _ e; exact h e), decide_eq_false h]
theorem partL_step (D : DS) (left : Lit → Bool) (i j : Nat) (hl : lastAt D.hangs i = some j) :
    partL D (fun z => left z && !z.sameKey (.int .i64 (i : Nat))) = (partL D left).set i (D.hangs.getD j (0, [])).2 := by
  apply List.ext_getElem?
  intro k
  rw [List.getElem?_set]
  by_cases e : i = k
  · subst e
    rw [if_pos rfl, partL_length]
    unfold partL
    rw [List.getElem?_mapIdx]
    by_cases hk : i < D.lasts.length
    · rw [if_pos hk, List.getElem?_eq_getElem hk]
      simp only [Option.map_some, hl]
      simp [same_int]
    · rw [if_neg hk, List.getElem?_eq_none (by omega)]
      rfl
  · rw [if_neg e]
    unfold partL
    rw [List.getElem?_mapIdx, List.getElem?_mapIdx]
    cases hk : D.lasts[k]? with
    | none => rfl
    | some b =>
      simp only [Option.map_some]
      cases lastAt D.hangs k with
      | none => rfl
      | some j =>
        have hne : ¬ ((k : Int) = (i : Int)) := by omega
        simp [same_int, hne]
theorem partL_rows (D : DS) (left : Lit → Bool) (hg : D.ok) : ∀ b ∈ partL D left, b.length = 128 := by
  intro b hb
  obtain ⟨k, hk⟩ := List.getElem?_of_mem hb
  unfold partL at hk
  rw [List.getElem?_mapIdx] at hk
  cases h : D.lasts[k]? with
  | none => rw [h] at hk; cases hk
  | some b0 =>
    rw [h] at hk
    simp only [Option.map_some, Option.some.injEq] at hk
    have h0 := hg.rows b0 (List.mem_of_getElem? h)
    cases hl : lastAt D.hangs k with
    | none => rw [hl] at hk; simp only [] at hk; rw [← hk]; exact h0
    | some j =>
      rw [hl] at hk
      simp only [] at hk
      obtain ⟨x, hx, _⟩ := lastAt_some hl
      split at hk
      · rw [← hk]; exact h0
      · rw [← hk]
        have e : D.hangs.getD j (0, []) = x := by simp [List.getD, hx]
        rw [e]
        exact hg.blks x (List.mem_of_getElem? hx)

/-- A row in which a piece was laid anew. -/
theorem Row.sets {w : World} {g : Nat} {t : TypeId} : ∀ (vs : List Value) (o : Nat) {w : World} {l : List Value}, Row w g t l → o + vs.length ≤ l.length → Row (w.setCells g o vs) g t (l.take o ++ vs ++ l.drop (o + vs.length)) := by
  intro vs
  induction vs with
  | nil => intro o w l h hl; simpa [World.setCells] using h
  | cons v vs ih =>
    intro o w l h hl
    simp only [List.length_cons] at hl
    have h1 := ih (o + 1) (h.set o v) (by rw [List.length_set]; omega)
    have e : (l.set o v).take (o + 1) ++ vs ++ (l.set o v).drop (o + 1 + vs.length) = l.take o ++ v :: vs ++ l.drop (o + (v :: vs).length) := by
      rw [List.drop_set, if_pos (by omega), List.take_set, List.take_succ_eq_append_getElem (by omega), List.set_append_right _ _ (by simp; omega), List.length_take, show o - min o l.length = 0 by omega]
      simp only [List.set_cons_zero, List.append_assoc, List.singleton_append, List.cons_append, List.nil_append, List.length_cons]
      rw [show o + 1 + vs.length = o + (vs.length + 1) by omega]
    rw [e] at h1
    exact h1
theorem setCells_heap (g : Nat) : ∀ (vs : List Value) (o : Nat) (w : World) (k : Nat), g ≠ k → (w.setCells g o vs).heap[k]? = w.heap[k]? := by
  intro vs
  induction vs with
  | nil => intro o w k h; rfl
  | cons v vs ih => intro o w k h; exact (ih (o + 1) _ k h).trans (Below.heap_setCell _ _ _ _ (Ne.symm h))
theorem setCells_size (g : Nat) : ∀ (vs : List Value) (o : Nat) (w : World), (w.setCells g o vs).heap.size = w.heap.size := by
  intro vs
  induction vs with
  | nil => intro o w; rfl
  | cons v vs ih => intro o w; exact (ih (o + 1) _).trans (by simp [World.setCell])
theorem setCells_rest (g : Nat) : ∀ (vs : List Value) (o : Nat) (w : World), (w.setCells g o vs).os = w.os ∧ (w.setCells g o vs).tape = w.tape ∧ (w.setCells g o vs).output = w.output := by
  intro vs
  induction vs with
  | nil => intro o w; exact ⟨rfl, rfl, rfl⟩
  | cons v vs ih => intro o w; exact ih (o + 1) _
theorem setCells_grown (w : World) (g o : Nat) (vs : List Value) : w.grownBy (w.setCells g o vs) (some g) := by
  obtain ⟨h1, h2, h3⟩ := setCells_rest g vs o w
  exact ⟨h1, h2, h3, Nat.le_of_eq (setCells_size g vs o w).symm, fun k _ hne => setCells_heap g vs o w k (fun e => hne (by rw [e]))⟩
/-- A sector laid anew in the row of all that lasts. -/
theorem Row.sector {w : World} {g : Nat} {t : TypeId} {l : List (List UInt8)} (h : Row w g t (l.flatten.map bv)) (hl : ∀ b ∈ l, b.length = 128) (i : Nat) (hi : i < l.length) (b : List UInt8) (hb : b.length = 128) :
    Row (w.setCells g (i * 128) (b.map bv)) g t ((l.set i b).flatten.map bv) := by
  have hfl := flat_length l hl
  have h1 := Row.sets (w := w) (b.map bv) (i * 128) h (by rw [List.length_map, List.length_map, hfl, hb]; omega)
  rw [flat_set l hl i hi b hb]
  rw [List.length_map, hb] at h1
  simpa [List.map_take, List.map_drop] using h1
end Go.Proofs.YtiaaeniopjpfpaaGreatDoor
