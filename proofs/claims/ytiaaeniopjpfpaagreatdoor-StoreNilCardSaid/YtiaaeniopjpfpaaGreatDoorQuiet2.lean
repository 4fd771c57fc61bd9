/- Regions that only read, operation by operation: calls, and what a guard leaves out. -/
import Derived.Test.YtiaaeniopjpfpaaGreatDoorRound
import Derived.OrdersHeld
namespace Go.Proofs.YtiaaeniopjpfpaaGreatDoor
open Go.RowKit
section
variable {P : Program} {ops : Array Oper} {C : World → Prop}
theorem wpQ_yields {Q : Act → Prop} {a : Act} {o : Oper} {rest : List Oper} (v : Value) (hy : YieldsIf P ops C o v a) (h : wpQuiet P ops C Q rest (a.put o.dst v)) : wpQuiet P ops C Q (o :: rest) a := by
  unfold wpQuiet
  rcases hy with ⟨hw, hr⟩ | ⟨hw, hv⟩
  · rw [if_pos hw]
    refine ⟨v, fun w hC => ?_, h⟩
    unfold Oper.quietAt
    rw [hr w hC]
    exact ⟨rfl, rfl⟩
  · rw [if_neg (by rw [hw]; decide), ← hv]
    exact h
theorem wpQ_call {Q : Act → Prop} {a : Act} {o : Oper} {rest : List Oper} (v : Value) (fn : FuncId) (vals : Array Value) (hw : Region.wanted o (yielded ops a.tmps) = true) (hx : ∀ w, (execOp a.eval o).run P w = .ok (.enter fn vals) w)
    (hc : ∀ w, C w → Calls P fn vals w (fun e w'' => e = .returned v ∧ C w'')) (h : wpQuiet P ops C Q rest (a.put o.dst v)) : wpQuiet P ops C Q (o :: rest) a := by
  unfold wpQuiet
  rw [if_pos hw]
  refine ⟨v, fun w hC => ?_, h⟩
  unfold Oper.quietAt
  rw [hx w]
  exact ⟨rfl, hc w hC⟩
end
end Go.Proofs.YtiaaeniopjpfpaaGreatDoor
