/- A region that only reads, in a round, operation by operation. -/
import Derived.Test.YtiaaeniopjpfpaaGreatDoorRound
import Derived.Test.YtiaaeniopjpfpaaGreatDoorKColl
namespace Go.Proofs.YtiaaeniopjpfpaaGreatDoor
open Go.RowKit Go.Maps
section
variable {P : Program} {ops : Array Oper} {C : World → Prop}
theorem wpQuiet_yields {Q : Act → Prop} {a : Act} {o : Oper} {rest : List Oper} (v : Value) (hy : YieldsIf P ops C o v a) (h : wpQuiet P ops C Q rest (a.put o.dst v)) : wpQuiet P ops C Q (o :: rest) a := by
  unfold wpQuiet
  rcases hy with ⟨hw, hr⟩ | ⟨hw, hv⟩
  · rw [if_pos hw]
    refine ⟨v, fun w hC => ?_, h⟩
    unfold Oper.quietAt
    rw [hr w hC]
    exact ⟨rfl, rfl⟩
  · rw [if_neg (by rw [hw]; decide), ← hv]
    exact h
end
end Go.Proofs.YtiaaeniopjpfpaaGreatDoor
