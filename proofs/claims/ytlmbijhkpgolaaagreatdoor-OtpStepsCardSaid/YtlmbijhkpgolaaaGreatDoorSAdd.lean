/- More added to a sum. -/
import Derived.Great.BuildSlice
import Derived.Test.YtlmbijhkpgolaaaGreatDoorSHash
namespace Go.Proofs.YtlmbijhkpgolaaaGreatDoor
open Go.RowKit
set_option linter.unusedVariables false

/-- What is held of a text, noughts behind. -/
def heldL (T : List UInt8) : List UInt8 := T.drop (64 * (T.length / 64)) ++ List.replicate (64 - T.length % 64) 0
theorem heldL_length (T : List UInt8) : (heldL T).length = 64 := by unfold heldL; simp; omega

theorem wpList_buildRun {P : Program} {ops : Array Oper} {rest : List Oper} {o : Oper} {a : Act} {w : World} {Q : Exit → Act → World → Prop} (hg : o.guard = none) (t : TypeId) (parts : Array (Nat × Operand)) (ho : o.op = .build t parts)
    (vals : Array (Nat × Value)) (cells : Array Value) (hv : (parts.map fun (i, x) => (i, a.eval x)) = vals) (hrun : ∀ W, (Instr.build t vals).run P W = .ok (.agg cells) W)
    (h : wpList P ops Q rest (a.put o.dst (.agg cells)) w) : wpList P ops Q (o :: rest) a w := by
  refine wpList_plain hg fun _ hK => ?_
  unfold Oper.wp execOp
  simp only [ho, Sem.run_bind, hv, hrun, Result.andThen_ok]
  exact hK _ _ h

/-- A text's rest laid over what is held. -/
theorem held_over (st : S8) (T : List UInt8) (n : Nat) : over (hashC st (List.replicate 64 0) n) 8 (T.drop (64 * (T.length / 64))) = hashC st (heldL T) n := by
  have hl : (T.drop (64 * (T.length / 64))).length = T.length % 64 := by rw [List.length_drop]; omega
  have h8 : (s8l st).length = 8 := rfl
  have e0 : (s8l st ++ ((List.replicate 64 0).map bv ++ [Value.int .u64 (n : Int)])).drop (8 + T.length % 64) = (List.replicate (64 - T.length % 64) 0).map bv ++ [Value.int .u64 (n : Int)] := by
    rw [show 8 + T.length % 64 = (s8l st).length + T.length % 64 by rw [h8], List.drop_length_add_append, List.drop_append_of_le_length (by simp; omega), List.map_replicate, List.map_replicate, List.drop_replicate]
  unfold over hashC heldL
  rw [List.take_left' h8, hl, e0, List.map_append, List.append_assoc, List.append_assoc]

/-- The state's words laid anew, what stands behind them stays. -/
theorem row8_pre {W : World} {g : Nat} {t : TypeId} {a b : S8} {r : List Value} (h : Row W g t (s8l a ++ r)) :
    Row ((((((((W.setCell ⟨g, 0, none⟩ (.int .u32 b.a.toNat)).setCell ⟨g, 1, none⟩ (.int .u32 b.b.toNat)).setCell ⟨g, 2, none⟩ (.int .u32 b.c.toNat)).setCell ⟨g, 3, none⟩ (.int .u32 b.d.toNat)).setCell ⟨g, 4, none⟩ (.int .u32 b.e.toNat)).setCell ⟨g, 5, none⟩ (.int .u32 b.f.toNat)).setCell ⟨g, 6, none⟩ (.int .u32 b.g.toNat)).setCell ⟨g, 7, none⟩ (.int .u32 b.h.toNat)) g t (s8l b ++ r) :=
  (((((((h.set 0 _).set 1 _).set 2 _).set 3 _).set 4 _).set 5 _).set 6 _).set 7 _

/-- The state behind more text. -/
def addS (st : S8) (n : Nat) (T : List UInt8) : S8 := if 64 ≤ T.length then mixK (begun st n) T (T.length / 64) else st

end Go.Proofs.YtlmbijhkpgolaaaGreatDoor
