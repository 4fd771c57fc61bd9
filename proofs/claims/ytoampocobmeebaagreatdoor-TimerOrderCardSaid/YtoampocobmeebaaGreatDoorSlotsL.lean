/- A whole row loaded within a drawn region, by slots. -/
import Derived.Test.YtoampocobmeebaaGreatDoorSlots
import Derived.Deep.MidRow
import Derived.DeepKeys
import Derived.OwnWalk
namespace Go.Proofs.YtoampocobmeebaaGreatDoor
open Go Go.RowKit
set_option linter.unusedVariables false

theorem stepOK_load {P : Program} {ρ : Operand → Value} {oi : Oper} {R : Value → World → Prop} {C : World → Prop} {w : World} (ty : TypeId) (x : Operand) (ho : oi.op = .load ty x)
    (b o : Nat) (hx : ρ x = .pointer (some ⟨b, o, none⟩)) (cs : List Value) (d : TypeDesc) (hc : w.rangeAt b o cs)
    (hu : P.underlying ty = some d) (hd : d.isRow = true) (hi : (P.info? ty).map (·.size) = some cs.length) (hR : R (.agg cs.toArray) w) (hC : C w) :
    StepOK P (execOp ρ oi) R C w := by
  unfold StepOK execOp
  simp only [ho, hx, Instr.loadAt, Instr.sureAddr, Sem.run_bind, Sem.run_pure, Result.andThen_ok, run_loadVar_mid w b o ty cs d hc hu hd hi]
  exact ⟨hR, hC, Below.refl _ _⟩
theorem stepOK_eqA {P : Program} {ρ : Operand → Value} {oi : Oper} {R : Value → World → Prop} {C : World → Prop} {w : World} (bo : BinOp) (t : TypeId) (x y : Operand) (t2 : TypeId) (ho : oi.op = .binOp bo t x y t2)
    (u v : Array Value) (hx : ρ x = .agg u) (hy : ρ y = .agg v) (hm : P.eqGuardType P.depth t = false) (r : Value) (he : (binOp bo t (.agg u) (.agg v)).run P w = .ok r w) (hR : R r w) (hC : C w) : StepOK P (execOp ρ oi) R C w := by
  unfold StepOK execOp
  simp only [ho, hx, hy, Sem.run_bind, run_eqGuard_agg w bo t x y u v hm, he, Result.andThen_ok, Sem.run_pure]
  exact ⟨hR, hC, Below.refl _ _⟩
end Go.Proofs.YtoampocobmeebaaGreatDoor
