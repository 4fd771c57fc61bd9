/- Sectors gathered in a slice, looked at again. -/
import Derived.Test.YtiaaeniopjpfpaaGreatDoorKLoop
import Derived.Great.BuildSlice
namespace Go.Proofs.YtiaaeniopjpfpaaGreatDoor
open Go.RowKit Go.Maps Go.Shelf
set_option linter.unusedVariables false
set_option linter.unusedSimpArgs false

theorem blk_info3 : (Tryz.prog.info? 90).map (fun i => (i.zero, i.size, i.bytes)) = some (some (.agg zB.toArray), 128, 128) := by kernel_rfl
/-- A slice of one sector. -/
theorem one_block (C : List Value) (hC : C.length = 128) (W : World) :
    (Instr.buildSlice 42 1 #[(0, .agg C.toArray)]).run Tryz.prog W = .ok (.slice (some ⟨W.heap.size, 0, none⟩) 1 1) (W.alloc (.cells C.toArray 90)) := by
  have hz := zB_info
  cases hi : Tryz.prog.info? 90 with
  | none => rw [hi] at hz; cases hz
  | some ie =>
    rw [hi] at hz
    simp only [Option.map_some, Option.some.injEq, Prod.mk.injEq] at hz
    refine run_buildSlice W 42 90 1 _ _ ie _ Tryz.underlying42 hi hz.1 (by rw [hz.2]; decide) (by rw [hz.2]; decide) ?_
    rw [hz.2]
    have hsz : ((Array.range (1 * 128)).map ((Value.agg zB.toArray).cells[· % (Value.agg zB.toArray).cells.size]!)).size = 128 := by simp
    have e2 : (Value.agg C.toArray).cells = C.toArray := rfl
    have l2 := lay_arr 0 (.agg C.toArray) _ (by rw [hsz, e2]; simp [hC])
    unfold Instr.fill
    simp only [Nat.zero_mul]
    rw [if_neg (by rw [hsz, e2]; simp [hC])]
    rw [l2]
    unfold Instr.fill
    rw [e2]
    simp [hC]
theorem wpIn_buildSlice_eq {F : Fence} {n : Nat} {P : Program} {o : Oper} {a : Act} {w : World} {K : Act → World → Prop} {Q : Exit → Act → World → Prop} (t : TypeId) (m : Nat) (parts : Array (Nat × Operand)) (ho : o.op = .buildSlice t m parts)
    (vals : Array (Nat × Value)) (v : Value) (W : World) (hv : (parts.map fun (i, x) => (i, a.eval x)) = vals) (hrun : (Instr.buildSlice t m vals).run P w = .ok v W)
    (h : K (a.put o.dst v) W) : o.wpIn F n P a w K Q := by
  refine ⟨?_, ?_⟩
  · intro f hf
    unfold Oper.about at hf
    rw [ho] at hf
    cases hf
  · rw [Oper.semAt_eq _ _ _ (fun c e => by rw [ho] at e; cases e)]
    unfold execOp
    simp only [ho, Sem.run_bind, hv, hrun, Result.andThen_ok]
    exact h
theorem box_append {L : Nat → Prop} {W w1 : World} {n₀ B : Nat} {t e : TypeId} {size : Nat} {v v' : Value} {k m : Nat} {xs ys : List Value} {tmp : Obj}
    (hv : Boxed W B t v) (hte : t ≠ e) (hrow : W.ownsRow n₀ e size v k xs)
    (hown' : w1.ownsRow n₀ e size v' m ys) (hgrow : (W.alloc tmp).grownBy w1 v.ownBlock) (hLB : ¬ L B) (hLn : ∀ k, L k → k < n₀) :
    Boxed w1 B t v ∧ Boxed (w1.setCell ⟨B, 0, none⟩ v') B t v' ∧ (w1.setCell ⟨B, 0, none⟩ v').ownsRow n₀ e size v' m ys ∧ KeepsOthers W (w1.setCell ⟨B, 0, none⟩ v') ∧ Keeps L W (w1.setCell ⟨B, 0, none⟩ v') := by
  have hv1 : Boxed w1 B t v := (hv.alloc tmp).kept hgrow (hv.not_row hte hrow)
  refine ⟨hv1, hv1.set v', hown'.kept (grownBy_setCell' w1 B v') (.inr (hv1.not_row hte hown').symm), ?_, ?_⟩
  · refine ((KeepsOthers.alloc W tmp).trans (KeepsOthers.of_grownBy hgrow fun j o ej hj => ?_)).trans (KeepsOthers.setCell _ _ _)
    rcases (hrow.alloc tmp).2 with ⟨rfl, _⟩ | ⟨g, cap, cur, rfl, _, hgb, _⟩
    · simp [Value.ownBlock] at ej
    · obtain rfl : g = j := by simpa [Value.ownBlock] using ej
      rw [hgb] at hj; cases hj; rfl
  · refine (((Keeps.refl L W).alloc tmp).grown hgrow fun j ej => ?_).setCell (p := ⟨B, 0, none⟩) (.inl hLB) v'
    rcases hrow.2 with ⟨rfl, _⟩ | ⟨g, cap, cur, rfl, hb, _, _⟩
    · simp [Value.ownBlock] at ej
    · obtain rfl : g = j := by simpa [Value.ownBlock] using ej
      exact .inl (fun h => by have := hLn g h; omega)
/-- What was gathered of the sectors. -/
def gath (rows : List (List UInt8)) (pre : List (Sn rows.length)) : List Value := (pre.flatMap fun x => rows.getD x.1 []).map bv
theorem gath_snoc (rows : List (List UInt8)) (pre : List (Sn rows.length)) (x : Sn rows.length) : gath rows (pre ++ [x]) = gath rows pre ++ (rows.getD x.1 []).map bv := by
  unfold gath
  simp
theorem gath_all (rows : List (List UInt8)) (ys : List (Sn rows.length)) (h : ys.map Subtype.val = List.range rows.length) : gath rows ys = rows.flatten.map bv := by
  unfold gath
  congr 1
  have e : ∀ l : List (Sn rows.length), (l.flatMap fun x => rows.getD x.1 []) = (l.map Subtype.val).flatMap (fun i => rows.getD i []) := by
    intro l
    induction l with
    | nil => rfl
    | cons y l ih => rw [List.flatMap_cons, List.map_cons, List.flatMap_cons, ih]
  rw [e, h]
  have h2 := Deep.flatMap_by_index rows [] (fun x => x)
  rw [← h2, List.flatMap_def, List.map_id']
/-- The loop that gathers: the box holds a slice of its own; nothing that lay there turned, the box aside. -/
def Coll (nl bx : Nat) (w0 : World) (rows : List (List UInt8)) (pre : List (Sn rows.length)) (W : World) : Prop :=
  (∃ v, Boxed W bx 42 v ∧ W.ownsRow nl 90 128 v pre.length (gath rows pre) ∧ True) ∧ Keeps (fun k => k < nl ∧ k ≠ bx) w0 W
theorem coll_own {nl bx B : Nat} {w0 : World} (rows : List (List UInt8)) (h : w0.heap.size ≤ B) : OwnFrom B (Coll nl bx w0 rows) :=
  OwnFrom.and (Own.from (holdsRow_own nl bx 42 90 128 (fun (pre : List (Sn rows.length)) => pre.length) (gath rows) (fun _ _ => True)) _) (ownFrom_keeps h)
theorem below_grow {w w' : World} (h : Below w.heap.size w w') : w.grownBy w' none := ⟨h.os, h.tape, h.output, h.size, fun k hk _ => h.block k hk⟩
theorem below_others {w w' : World} (h : Below w.heap.size w w') : KeepsOthers w w' := KeepsOthers.of_grownBy (below_grow h) (fun j o e => by cases e)
theorem own_belowK {β : Type} {B : Nat} {I : β → World → Prop} (h : OwnFrom B I) {s : β} {w w' : World} (hs : I s w) (hb : Below w.heap.size w w') : I s w' := h s w w' none hs (below_grow hb) (fun r e => by cases e)
theorem ax_own {B : Nat} {t : TypeId} {l : List Value} (q : Nat → Prop) : OwnFrom B (fun (_ : Unit) W => ∃ g, q g ∧ Row W g t l) := fun s X Y row hs hg hr => by
  obtain ⟨g, hq, hrow⟩ := hs
  refine ⟨g, hq, (hg.block g hrow.lt (fun e => ?_)).trans hrow⟩
  obtain ⟨_, o, ho, hc⟩ := hr g e.symm
  rw [show X.heap[g]? = _ from hrow] at ho
  cases ho
  cases hc
theorem wpIn_store_row {F : Fence} {n : Nat} {P : Program} {o : Oper} {a : Act} {w : World} {K : Act → World → Prop} {Q : Exit → Act → World → Prop} (ty : TypeId) (x y : Operand) (ho : o.op = .store ty x y)
    (g : Nat) (cells : Array Value) (hx : a.eval x = .pointer (some ⟨g, 0, none⟩)) (hy : a.eval y = .agg cells)
    (t : TypeId) (old : Array Value) (hg : w.heap[g]? = some (.cells old t (0, 0))) (hi : (P.info? ty).map (·.size) = some cells.size)
    (hold : old.size = cells.size) (h1 : cells.all (·.oneCell') = true)
    (h : K (a.put o.dst undef) (w.setRow g cells)) : o.wpIn F n P a w K Q := by
  refine ⟨?_, ?_⟩
  · intro f hf
    unfold Oper.about at hf
    rw [ho] at hf
    cases hf
  · rw [Oper.semAt_eq _ _ _ (fun c e => by rw [ho] at e; cases e)]
    unfold execOp
    simp only [ho, hx, hy, Instr.storeAt, Instr.sureAddr, Sem.run_bind, Sem.run_pure, Result.andThen_ok, run_storeVar_row w g t ty old cells hg hi hold h1]
    exact h
/-- The box of a sector that goes round. -/
theorem boxed_blk (W : World) (b : List UInt8) : SB W ((W.alloc (.cells zB.toArray 90)).setRow W.heap.size (b.map bv).toArray) ∧ Row ((W.alloc (.cells zB.toArray 90)).setRow W.heap.size (b.map bv).toArray) W.heap.size 90 (b.map bv) :=
  ⟨below_setRow (B := W.heap.size) (SB.al (SB.here W) _) (Nat.le_refl _) (b.map bv).toArray, (Row.new W 90 zB).put _⟩
/-- The cells of a slice of sectors, and what is spare behind them. -/
def WasAt (w : World) (g : Nat) (rows : List (List UInt8)) (sp : List Value) : Prop := Row w g 90 (rows.flatten.map bv ++ sp)
theorem was_own {w : World} {base n cap g : Nat} {rows : List (List UInt8)} (h : w.ownsRow base 90 128 (.slice (some ⟨g, 0, none⟩) n cap) n (rows.flatten.map bv)) : ∃ sp, WasAt w g rows sp := by
  rcases h.2 with ⟨h0, _⟩ | ⟨g', c', cur, h0, _, hh, _, _, _, ht⟩
  · cases h0
  · injection h0 with h0 _ _
    injection h0 with h0
    injection h0 with h0
    subst h0
    refine ⟨cur.toList.drop (n * 128), ?_⟩
    unfold WasAt Row
    rw [← ht, List.take_append_drop]
    exact hh
theorem WasAt.range {w : World} {g : Nat} {rows : List (List UInt8)} {sp : List Value} (h : WasAt w g rows sp) (h8 : ∀ b ∈ rows, b.length = 128) {i : Nat} (hi : i < rows.length) : w.rangeAt g (i * 128) ((rows.getD i []).map bv) := by
  have hl := flat_length rows h8
  have hr := row_range h (i * 128) 128 (by rw [List.length_append, List.length_map, hl]; omega)
  rw [List.drop_append_of_le_length (by rw [List.length_map, hl]; omega), List.take_append_of_le_length (by rw [List.length_drop, List.length_map, hl]; omega), flat_mid rows h8 i hi] at hr
  exact hr
theorem WasAt.there {w : World} {g : Nat} {rows : List (List UInt8)} {sp : List Value} (h : WasAt w g rows sp) (h8 : ∀ b ∈ rows, b.length = 128) {i : Nat} (hi : i < rows.length) : w.there g (i * 128) 128 := by
  have hl := flat_length rows h8
  exact row_thereK h (i * 128) 128 (by rw [List.length_append, List.length_map, hl]; omega)
theorem WasAt.set {w : World} {g : Nat} {rows : List (List UInt8)} {sp : List Value} (h : WasAt w g rows sp) (h8 : ∀ b ∈ rows, b.length = 128) (i : Nat) (hi : i < rows.length) (b : List UInt8) (hb : b.length = 128) : WasAt (w.setCells g (i * 128) (b.map bv)) g (rows.set i b) sp := by
  have hl := flat_length rows h8
  have h1 := Row.sets (w := w) (b.map bv) (i * 128) h (by rw [List.length_append, List.length_map, List.length_map, hl, hb]; omega)
  unfold WasAt
  rw [flat_set rows h8 i hi b hb]
  rw [List.length_map, hb] at h1
  rw [List.take_append_of_le_length (by rw [List.length_map, hl]; omega), List.drop_append_of_le_length (by rw [List.length_map, hl]; omega)] at h1
  simpa [List.map_take, List.map_drop] using h1
theorem set_rows {rows : List (List UInt8)} (h8 : ∀ b ∈ rows, b.length = 128) (i : Nat) (b : List UInt8) (hb : b.length = 128) : ∀ c ∈ rows.set i b, c.length = 128 := fun c hc => by
  rcases List.mem_or_eq_of_mem_set hc with h | h
  · exact h8 c h
  · rw [h, hb]
end Go.Proofs.YtiaaeniopjpfpaaGreatDoor
