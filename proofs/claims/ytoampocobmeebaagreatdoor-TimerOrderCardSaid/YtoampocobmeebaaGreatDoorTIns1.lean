/- Entries copied into a row: the laws that an insertion asks. -/
import Derived.Test.YtoampocobmeebaaGreatDoorTClone
import Derived.Laws.IdiomCopy
import Derived.Laws.NewBlocks
import Derived.Lib.AppendZerosOnto
namespace Go.Proofs.YtoampocobmeebaaGreatDoor.Tm
open Go.RowKit
set_option linter.unusedVariables false

theorem wpList_copy_r {P : Program} (w : World) {ops : Array Oper} {rest : List Oper} {o : Oper} {a : Act} {Q : Exit → Act → World → Prop} (hgd : o.guard = none) (d s : Operand) (t t' : TypeId)
    (ho : o.op = .call { callee := .builtin .copy, args := #[d, s], argTypes := #[t, t'] }) (v u : Value) (hd : a.eval d = v) (hs : a.eval s = u) {v' : Value} {w' : World}
    (hr : (Builtin.copy_ #[t, t'] o.type #[v, u]).run P w = .ok v' w') (h : wpList P ops Q rest (a.put o.dst v') w') : wpList P ops Q (o :: rest) a w :=
  wpList_plain hgd fun _ hK => by
    unfold Oper.wp execOp
    simp only [ho, resolve, invoke, builtin, Sem.run_bind, Sem.run_pure, Result.andThen_ok, List.map_toArray, List.map_cons, List.map_nil, hd, hs, hr]
    exact hK _ _ h
theorem step_copy_r {P : Program} {ops : Array Oper} {o : Oper} {a : Act} {w : World} {K : Act → World → Prop} {Q : Exit → Act → World → Prop} {E : Prop}
    (hg : o.guard = none) (d x : Operand) (dT sT : TypeId) (hop : o.op = Op.call { callee := Callee.builtin Builtin.copy, args := #[d, x], argTypes := #[dT, sT] })
    (v u : Value) (hd : a.eval d = v) (hx : a.eval x = u) {v' : Value} {w' : World} (hr : (Builtin.copy_ #[dT, sT] o.type #[v, u]).run P w = .ok v' w') (hK : K (a.put o.dst v') w') :
    if Region.wanted o (yielded ops a.tmps) = true then Oper.wp P o a w K Q else E := by
  rw [if_pos (by simp [Region.wanted, hg])]
  unfold Oper.wp
  simp [execOp, hop, resolve, invoke, builtin, hd, hx, hr, Result.andThen]
  exact hK

/-- A copy of elements of k cells: all is read before anything is written. -/
theorem run_copy_k {P : Program} (w : World) (dT sT ty elem : TypeId) (k b o dLen dCap : Nat) (a : Addr) (sLen sCap : Nat) (cs : List Value)
    (hu : P.underlying dT = some (.slice elem)) (hs : (P.info? elem).map (·.size) = some k) (hn : cs.length = Nat.min sLen dLen * k)
    (hsrc : ∀ j v, cs[j]? = some v → w.cell? (a.add j) = some v) (hc : ∀ j, j < cs.length → (w.cell? ⟨b, o + j, none⟩).isSome = true) (hf : ∀ j, j < cs.length → w.frozen? ⟨b, o + j, none⟩ = false) (h1 : ∀ v ∈ cs, v.oneCell' = true) :
    (Builtin.copy_ #[dT, sT] ty #[.slice (some ⟨b, o, none⟩) dLen dCap, .slice (some a) sLen sCap]).run P w = .ok (goInt (Nat.min sLen dLen)) (w.setCells b o cs) := by
  have hl := run_loadCells_list (P := P) w a cs hsrc
  have hst := run_storeCells_cells (P := P) b o cs 0 w (by simpa using hc) (by simpa using hf) h1
  cases hq : P.info? elem with
  | none => simp [hq] at hs
  | some i =>
    have hi : i.size = k := by simpa [hq] using hs
    simp [Builtin.copy_, run_underlying hu, Builtin.lenOf, Builtin.firstCells, sizeOf, typeInfo, hq, hi, ← hn, hl, hst]

theorem setCell_shape {w : World} {b : Nat} {cur : Array Value} {t : TypeId} {fr : Nat × Nat} (h : w.heap[b]? = some (.cells cur t fr)) (o : Nat) (v : Value) : ∃ cur', (w.setCell ⟨b, o, none⟩ v).heap[b]? = some (.cells cur' t fr) ∧ cur'.size = cur.size := by
  refine ⟨cur.setIfInBounds o v, ?_, by simp⟩
  simp [World.setCell, Array.getElem?_modify, h]
theorem setCells_shape (b : Nat) (t : TypeId) (fr : Nat × Nat) : ∀ (vs : List Value) (o : Nat) (w : World) (cur : Array Value), w.heap[b]? = some (.cells cur t fr) → ∃ cur', (w.setCells b o vs).heap[b]? = some (.cells cur' t fr) ∧ cur'.size = cur.size
  | [], _, _, cur, h => ⟨cur, h, rfl⟩
  | v :: r, o, w, cur, h => by
    obtain ⟨c1, h1, h2⟩ := setCell_shape h o v
    obtain ⟨c2, h3, h4⟩ := setCells_shape b t fr r (o + 1) _ c1 h1
    exact ⟨c2, h3, h4.trans h2⟩
theorem below_setCells {B : Nat} {w0 : World} (b : Nat) (hb : B ≤ b) : ∀ (vs : List Value) (o : Nat) (w : World), Below B w0 w → Below B w0 (w.setCells b o vs)
  | [], _, _, h => h
  | v :: r, o, w, h => below_setCells b hb r (o + 1) _ (h.setCell (p := ⟨b, o, none⟩) hb v)

theorem cellsL_take (l : List EN) (i : Nat) : cellsL (l.take i) = (cellsL l).take (i * 17) := by
  induction l generalizing i with
  | nil => cases i <;> rfl
  | cons r l ih =>
    cases i with
    | zero => rfl
    | succ i =>
      rw [List.take_succ_cons, cellsL, cellsL, ih, show (i + 1) * 17 = r.cells.length + i * 17 by rw [cells_len]; omega, List.take_length_add_append]
theorem cellsL_drop (l : List EN) (i : Nat) : cellsL (l.drop i) = (cellsL l).drop (i * 17) := by
  induction l generalizing i with
  | nil => cases i <;> rfl
  | cons r l ih =>
    cases i with
    | zero => simp
    | succ i =>
      rw [List.drop_succ_cons, ih, cellsL, show (i + 1) * 17 = r.cells.length + i * 17 by rw [cells_len]; omega, List.drop_length_add_append]

theorem own_ins {B : Nat} {w' : World} {g cap : Nat} {l : List EN} {r : EN} {i : Nat} (hcur : ∃ cur, w'.heap[g]? = some (.cells cur 58 (0, 0)) ∧ cur.size = cap * 17) (hn : l.length + 1 ≤ cap) (hcap : cap ≤ maxLen) (hB : B ≤ g) (hi : i ≤ l.length)
    (h1 : w'.rangeAt g 0 ((cellsL l).take (i * 17))) (h2 : w'.rangeAt g (i * 17) r.cells) (h3 : w'.rangeAt g (i * 17 + 17) ((cellsL l).drop (i * 17))) :
    OWN B w' (.slice (some ⟨g, 0, none⟩) (l.length + 1) cap) (l.take i ++ r :: l.drop i) := by
  obtain ⟨cur, hg, hs⟩ := hcur
  have hlen : (l.take i ++ r :: l.drop i).length = l.length + 1 := by simp; omega
  have hcl := cellsL_len (l.take i ++ r :: l.drop i)
  refine ⟨hcl, Or.inr ⟨g, cap, cur, by rw [hlen], hB, hg, by rw [hlen]; exact hn, hcap, hs, ?_⟩⟩
  have hall : ∀ j, j < (l.length + 1) * 17 → (cur.toList)[j]? = (cellsL (l.take i ++ r :: l.drop i))[j]? := fun j hj => by
    have hcell : w'.cell? ⟨g, j, none⟩ = cur[j]? := cell_of_row w' g j cur _ (0, 0) hg
    rw [Array.getElem?_toList, ← hcell, cellsL_append, cellsL, cellsL_take, cellsL_drop]
    have ht : ((cellsL l).take (i * 17)).length = i * 17 := by rw [List.length_take, cellsL_len]; omega
    have hd : ((cellsL l).drop (i * 17)).length = (l.length - i) * 17 := by rw [List.length_drop, cellsL_len]; omega
    by_cases a1 : j < i * 17
    · rw [List.getElem?_append_left (by omega)]
      have := h1 j _ (List.getElem?_eq_getElem (by omega))
      rw [Nat.zero_add] at this
      rw [this, List.getElem?_eq_getElem (by omega)]
    · rw [List.getElem?_append_right (by omega), ht]
      by_cases a2 : j < i * 17 + 17
      · rw [List.getElem?_append_left (by rw [cells_len]; omega)]
        have := h2 (j - i * 17) _ (List.getElem?_eq_getElem (by rw [cells_len]; omega))
        rw [show i * 17 + (j - i * 17) = j by omega] at this
        rw [this, List.getElem?_eq_getElem (by rw [cells_len]; omega)]
      · rw [List.getElem?_append_right (by rw [cells_len]; omega), cells_len]
        have := h3 (j - i * 17 - 17) _ (List.getElem?_eq_getElem (by omega))
        rw [show i * 17 + 17 + (j - i * 17 - 17) = j by omega] at this
        rw [this, List.getElem?_eq_getElem (by omega)]
  rw [hlen]
  apply List.ext_getElem?
  intro j
  by_cases hj : j < (l.length + 1) * 17
  · rw [List.getElem?_take_of_lt hj, hall j hj]
  · rw [List.getElem?_eq_none (by rw [List.length_take]; omega), List.getElem?_eq_none (by rw [hcl, hlen]; omega)]
end Go.Proofs.YtoampocobmeebaaGreatDoor.Tm
