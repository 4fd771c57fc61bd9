/- Entries built, laid, loaded and stored. -/
import Derived.Test.YtoampocobmeebaaGreatDoorTDrop
import Derived.Great.BuildSlice
namespace Go.Proofs.YtoampocobmeebaaGreatDoor.Tm
open Go.RowKit Go.Shelf
set_option linter.unusedVariables false
set_option linter.unusedSimpArgs false

theorem len16 {D : List Value} (h : D.length = 16) : ∃ a b c d e f g h' i j k l m n o p, D = [a, b, c, d, e, f, g, h', i, j, k, l, m, n, o, p] := by
  match D, h with
  | [a, b, c, d, e, f, g, h', i, j, k, l, m, n, o, p], _ => exact ⟨a, b, c, d, e, f, g, h', i, j, k, l, m, n, o, p, rfl⟩
theorem build_entry {D : List Value} (hD : D.length = 16) (x : Nat) (W : World) : (Instr.build 58 #[(0, .int .u64 x), (1, .agg D.toArray)]).run Tryz.prog W = .ok (.agg (Value.int .u64 x :: D).toArray) W := by
  refine run_build W _ _ _ ?_
  obtain ⟨a, b, c, d, e, f, g, h', i, j, k, l, m, n, o, p, rfl⟩ := len16 hD
  kernel_rfl
theorem buildS_entry {D : List Value} (hD : D.length = 16) (x : Nat) (W : World) : (Instr.buildSlice 27 1 #[(0, .agg (Value.int .u64 x :: D).toArray)]).run Tryz.prog W = .ok (.slice (some ⟨W.heap.size, 0, none⟩) 1 1) (W.alloc (.cells (Value.int .u64 x :: D).toArray 58)) := by
  have h : (Tryz.prog.info? 58).map (fun i => (i.zero, i.size)) = some (some (.agg #[.int .u64 0, .int .u8 0, .int .u8 0, .int .u8 0, .int .u8 0, .int .u8 0, .int .u8 0, .int .u8 0, .int .u8 0, .int .u8 0, .int .u8 0, .int .u8 0, .int .u8 0, .int .u8 0, .int .u8 0, .int .u8 0, .int .u8 0]), 17) := by kernel_rfl
  cases hi : Tryz.prog.info? 58 with
  | none => rw [hi] at h; cases h
  | some i0 =>
    rw [hi] at h
    simp only [Option.map_some, Option.some.injEq, Prod.mk.injEq] at h
    refine run_buildSlice W _ _ 1 _ _ i0 _ Tryz.underlying27 hi h.1 (by rw [h.2]; decide) (by rw [h.2]; decide) ?_
    rw [h.2]
    obtain ⟨a, b, c, d, e, f, g, h', i, j, k, l, m, n, o, p, rfl⟩ := len16 hD
    kernel_rfl

theorem cells_uid (e : EN) : e.cells = Value.int .u64 e.tm :: e.uid.map bv := rfl
def zeroE : Array Value := #[.int .u64 0, .int .u8 0, .int .u8 0, .int .u8 0, .int .u8 0, .int .u8 0, .int .u8 0, .int .u8 0, .int .u8 0, .int .u8 0, .int .u8 0, .int .u8 0, .int .u8 0, .int .u8 0, .int .u8 0, .int .u8 0, .int .u8 0]
theorem st_ent {ops : Array Oper} {rest : List Oper} {o : Oper} {a : Act} {w : World} {Q : Exit → Act → World → Prop} (hgd : o.guard = none) (x y : Operand) (ho : o.op = .store 58 x y)
    (g : Nat) (hx : a.eval x = .pointer (some ⟨g, 0, none⟩)) (C : List Value) (hy : a.eval y = .agg C.toArray) (hC : C.length = 17) (h1 : ∀ v ∈ C, v.oneCell' = true) (hg : w.heap[g]? = some (.cells zeroE 58 (0, 0)))
    (h : wpList Tryz.prog ops Q rest (a.put o.dst undef) (w.setRow g C.toArray)) : wpList Tryz.prog ops Q (o :: rest) a w :=
  wpList_store_row hgd _ x y ho g C.toArray hx hy _ zeroE hg (by rw [List.size_toArray]; exact ent_size hC) (by simp [zeroE, hC]) (all_oneCell_toArray h1) h
theorem bl_ent {ops : Array Oper} {rest : List Oper} {o : Oper} {a : Act} {w : World} {Q : Exit → Act → World → Prop} (hgd : o.guard = none) (x y : Operand) (ho : o.op = .build 58 #[(0, x), (1, y)])
    (n : Nat) (hx : a.eval x = .int .u64 n) (D : List Value) (hy : a.eval y = .agg D.toArray) (hD : D.length = 16)
    (h : wpList Tryz.prog ops Q rest (a.put o.dst (.agg (Value.int .u64 n :: D).toArray)) w) : wpList Tryz.prog ops Q (o :: rest) a w :=
  wpList_plain hgd fun _ hK => by
    unfold Oper.wp execOp
    simp only [ho, List.map_toArray, List.map_cons, List.map_nil, hx, hy, Sem.run_bind, build_entry hD n w, Result.andThen_ok]
    exact hK _ _ h
theorem bs_ent {ops : Array Oper} {rest : List Oper} {o : Oper} {a : Act} {w : World} {Q : Exit → Act → World → Prop} (hgd : o.guard = none) (y : Operand) (ho : o.op = .buildSlice 27 1 #[(0, y)])
    (n : Nat) (D : List Value) (hy : a.eval y = .agg (Value.int .u64 n :: D).toArray) (hD : D.length = 16)
    (h : wpList Tryz.prog ops Q rest (a.put o.dst (.slice (some ⟨w.heap.size, 0, none⟩) 1 1)) (w.alloc (.cells (Value.int .u64 n :: D).toArray 58))) : wpList Tryz.prog ops Q (o :: rest) a w :=
  wpList_plain hgd fun _ hK => by
    unfold Oper.wp execOp
    simp only [ho, List.map_toArray, List.map_cons, List.map_nil, hy, Sem.run_bind, buildS_entry hD n w, Result.andThen_ok]
    exact hK _ _ h
end Go.Proofs.YtoampocobmeebaaGreatDoor.Tm
