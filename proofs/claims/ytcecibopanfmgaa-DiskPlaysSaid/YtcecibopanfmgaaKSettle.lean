/- What hangs, done: all of it, none of it. -/
import Derived.Test.YtcecibopanfmgaaKQuiet
namespace Go.Proofs.Ytcecibopanfmgaa
open Go.RowKit Go.Maps
set_option linter.unusedVariables false
set_option linter.unusedSimpArgs false

def setAll (l : List (Nat × List UInt8)) (L : List (List UInt8)) : List (List UInt8) := l.foldl (fun L x => L.set x.1 x.2) L
theorem setAll_snoc (l : List (Nat × List UInt8)) (x : Nat × List UInt8) (L : List (List UInt8)) : setAll (l ++ [x]) L = (setAll l L).set x.1 x.2 := by
  unfold setAll
  rw [List.foldl_append]
  rfl
theorem setAll_len (l : List (Nat × List UInt8)) (L : List (List UInt8)) : (setAll l L).length = L.length := by
  induction l using snoc_ind with
  | h0 => rfl
  | h1 l x ih => rw [setAll_snoc, List.length_set, ih]
theorem setAll_get (l : List (Nat × List UInt8)) (L : List (List UInt8)) (i : Nat) : (setAll l L)[i]? = (L[i]?).map fun b => match lastAt l (i : Int) with
  | some j => (l.getD j (0, [])).2
  | none => b := by
  induction l using snoc_ind with
  | h0 => rw [lastAt_nil]; simp [setAll]
  | h1 l x ih =>
    rw [setAll_snoc, List.getElem?_set, lastAt_snoc, setAll_len]
    by_cases e : x.1 = i
    · have e' : (x.1 : Int) = (i : Int) := by omega
      rw [if_pos e, if_pos e']
      by_cases hl : x.1 < L.length
      · rw [if_pos hl, List.getElem?_eq_getElem (by omega)]
        simp
      · rw [if_neg hl, List.getElem?_eq_none (by omega)]
        rfl
    · have e' : ¬ (x.1 : Int) = (i : Int) := by omega
      rw [if_neg e, if_neg e', ih]
      cases hk : lastAt l (i : Int) with
      | none => rfl
      | some j =>
        have hj := lastAt_lt hk
        have e2 : (l ++ [x]).getD j (0, []) = l.getD j (0, []) := by
          rw [List.getD_eq_getElem?_getD, List.getD_eq_getElem?_getD, List.getElem?_append_left hj]
        show _ = (L[i]?).map fun b => ((l ++ [x]).getD j (0, [])).2
        rw [e2]
theorem settled_all (D : DS) : D.settled = setAll D.hangs D.lasts := by
  apply List.ext_getElem?
  intro i
  rw [setAll_get]
  unfold DS.settled
  rw [List.getElem?_mapIdx]
  rfl
theorem settled_get (D : DS) (i : Nat) (hi : i < D.lasts.length) : D.settled[i]? = some (match lastAt D.hangs (i : Int) with
  | some j => (D.hangs.getD j (0, [])).2
  | none => D.lasts[i]) := by
  unfold DS.settled
  rw [List.getElem?_mapIdx, List.getElem?_eq_getElem hi]
  rfl
theorem kept_none (l : List (Nat × List UInt8)) (L : List (List UInt8)) (k : Int) (h : k < 1) : kept l L k = L := by
  cases l with
  | nil => rfl
  | cons x r => exact kept_stop x r L k h
theorem kept_full (l : List (Nat × List UInt8)) (h1 : ∀ x ∈ l, x.2.length = 128) : ∀ (L : List (List UInt8)) (k : Int), (∀ b ∈ L, b.length = 128) → (l.length : Int) * 128 ≤ k → kept l L k = setAll l L := by
  induction l with
  | nil => intro L k _ _; rfl
  | cons x r ih =>
    intro L k hL hk
    have hx := h1 x (by simp)
    rw [List.length_cons] at hk
    have hg := kept_go x r L k 128 (by omega) (by omega)
    have e : x.2.take 128 ++ (L.getD x.1 []).drop 128 = x.2 := by
      rw [List.take_of_length_le (by omega)]
      have : (L.getD x.1 []).drop 128 = [] := by
        by_cases hl : x.1 < L.length
        · rw [List.drop_of_length_le (by rw [getD_len hL hl]; omega)]
        · rw [List.getD_eq_getElem?_getD, List.getElem?_eq_none (by omega)]; rfl
      rw [this, List.append_nil]
    rw [e] at hg
    rw [hg]
    rw [ih (fun y hy => h1 y (by simp [hy])) (L.set x.1 x.2) _ (set_rows hL x.1 x.2 hx) (by omega)]
    rfl
theorem read_settled {D : DS} (hd : D.down = false) {i : Nat} (hi : i < D.lasts.length) : D.read i = D.settled.getD i [] := by
  have hf : D.fault i = 0 := by
    unfold DS.fault
    rw [hd, if_neg (by decide), if_pos (by omega)]
  unfold DS.read
  rw [if_pos hf]
  have e := settled_get D i hi
  unfold DS.blk
  rw [List.getD_eq_getElem?_getD (l := D.settled), e]
  cases lastAt D.hangs (i : Int) with
  | none => simp [List.getD_eq_getElem?_getD, List.getElem?_eq_getElem hi]
  | some j => rfl
theorem settled_len (D : DS) : D.settled.length = D.lasts.length := by unfold DS.settled; rw [List.length_mapIdx]
theorem settled_rows {D : DS} (h : D.ok) : ∀ b ∈ D.settled, b.length = 128 := by
  intro b hb
  obtain ⟨i, hi, rfl⟩ := List.getElem_of_mem hb
  have hl : i < D.lasts.length := by rw [← settled_len]; exact hi
  have e := settled_get D i hl
  rw [List.getElem?_eq_getElem hi] at e
  injection e with e
  rw [e]
  cases hk : lastAt D.hangs (i : Int) with
  | none => exact h.rows _ (List.getElem_mem hl)
  | some j =>
    have hj := lastAt_lt hk
    show (D.hangs.getD j (0, [])).2.length = 128
    rw [List.getD_eq_getElem?_getD, List.getElem?_eq_getElem hj]
    exact h.blks _ (List.getElem_mem hj)
/-- How many hang behind a write: one more, if it is done. -/
theorem Calm.writes {D : DS} {L : List (List UInt8)} {h n : Nat} (c : Calm D L h n) (k : Int) (b : List UInt8) :
    (D.writeErr k = 0 ∧ (D.written k b).hangs.length = D.hangs.length + 1) ∨ (D.writeErr k = 2 ∧ D.written k b = D) := by
  unfold DS.writeErr DS.written
  rw [c.fault]
  split
  · left
    rw [if_neg (by decide), if_neg (by decide), if_pos c.may, c.err]
    exact ⟨rfl, by simp⟩
  · right
    rw [if_pos (by decide), if_pos (by decide)]
    exact ⟨rfl, rfl⟩
theorem wpList_buildSlice_run {P : Program} {ops : Array Oper} {rest : List Oper} {op : Oper} {a : Act} {w : World} {Q : Exit → Act → World → Prop} (hg : op.guard = none) (t : TypeId) (n : Nat) (parts : Array (Nat × Operand)) (ho : op.op = .buildSlice t n parts)
    (vals : Array (Nat × Value)) (v : Value) (W : World) (hv : (parts.map fun (i, x) => (i, a.eval x)) = vals) (hrun : (Instr.buildSlice t n vals).run P w = .ok v W)
    (h : wpList P ops Q rest (a.put op.dst v) W) : wpList P ops Q (op :: rest) a w :=
  wpList_plain hg fun _ hK => wp_buildSliceRun t n parts ho vals v W hv hrun (hK _ _ h)
end Go.Proofs.Ytcecibopanfmgaa
