/- Two sectors that are one are the same. -/
import Derived.DeepKeys
import Derived.OwnWalk
import Derived.OrdersHeld
import Derived.Deep.MidRow
import Derived.Test.YtiaaeniopjpfpaaGreatDoorKFill
namespace Go.Proofs.YtiaaeniopjpfpaaGreatDoor
open Go.RowKit Go.Maps
set_option linter.unusedVariables false

theorem items_same {P : Program} (W : World) (d : Nat) (e : TypeId) (k : IntKind) (xs : Array Value) (he : P.underlying e = some (.int k)) (ha : (isAgg e).run P W = .ok false W) :
    ∀ is : List Nat, (∀ i ∈ is, ∃ v, xs[i]? = some (.int k v)) → (Op.eqItems (d + 1) e 1 xs xs is).run P W = .ok true W
  | [], _ => by simp [Op.eqItems]
  | i :: is, h => by
    obtain ⟨v, hv⟩ := h i (by simp)
    have ih := items_same W d e k xs he ha is (fun j hj => h j (by simp [hj]))
    have hp : (part e xs (i * 1)).run P W = .ok (.int k v) W := by
      simp only [part, Sem.run_bind, ha, Result.andThen_ok, Nat.mul_one, Bool.false_eq_true, if_false, hv, Sem.run_pure]
    simp only [Op.eqItems, Sem.run_bind, hp, Result.andThen_ok, run_equalIn_int W d e k k v v he]
    simpa using ih
theorem yields_eql {P : Program} {ops : Array Oper} {S : World → Prop} {o : Oper} {a : Act} (hw : Region.wanted o (yielded ops a.tmps) = true) (t : TypeId) (x y : Operand) (t2 : TypeId) (ho : o.op = .binOp .eql t x y t2)
    (cs : Array Value) (hx : a.eval x = .agg cs) (hy : a.eval y = .agg cs) (hm : P.eqGuardType P.depth t = false) (he : ∀ W, (binOp .eql t (.agg cs) (.agg cs)).run P W = .ok (.bool true) W) : YieldsIf P ops S o (.bool true) a :=
  .inl ⟨hw, fun w _ => by
    unfold execOp
    simp only [ho, hx, hy, Sem.run_bind, run_eqGuard_agg w .eql t x y cs cs hm, he, Result.andThen_ok, Sem.run_pure]⟩
theorem blk_eqIn (L : List UInt8) (hL : L.length = 128) (W : World) :
    (Op.equalIn 10000 90 (.agg (L.map bv).toArray) (.agg (L.map bv).toArray)).run Tryz.prog W = .ok true W := by
  have h5 : (Tryz.prog.info? 5).map (fun i => (i.zero, i.size, i.bytes)) = some (some (.int .u8 0), 1, 1) := by kernel_rfl
  obtain ⟨i, hi, _⟩ := info_parts h5
  have hc : Tryz.prog.cellsOf 5 = 1 := by kernel_rfl
  rw [run_equalIn_array W 9999 _ _ Tryz.underlying90 hi, hc]
  rw [items_same W 9998 5 .u8 _ Tryz.underlying5 (Tryz.isAgg5 W) _ (fun j hj => by
    have hj2 := List.mem_range.1 hj
    exact ⟨_, by rw [List.getElem?_toArray, List.getElem?_map, List.getElem?_eq_getElem (by omega)]; rfl⟩)]
theorem blk_same (L : List UInt8) (hL : L.length = 128) (W : World) :
    (binOp .eql 90 (blkV L) (blkV L)).run Tryz.prog W = .ok (.bool true) W := by
  unfold blkV
  rw [run_eql_struct, blk_eqIn L hL W]
  rfl
theorem blk_differ (L : List UInt8) (hL : L.length = 128) (W : World) :
    (binOp .neq 90 (blkV L) (blkV L)).run Tryz.prog W = .ok (.bool false) W := by
  unfold blkV
  rw [run_neq_struct, blk_eqIn L hL W]
  rfl
theorem yields_neq {P : Program} {ops : Array Oper} {S : World → Prop} {o : Oper} {a : Act} (hw : Region.wanted o (yielded ops a.tmps) = true) (t : TypeId) (x y : Operand) (t2 : TypeId) (ho : o.op = .binOp .neq t x y t2)
    (cs : Array Value) (hx : a.eval x = .agg cs) (hy : a.eval y = .agg cs) (hm : P.eqGuardType P.depth t = false) (he : ∀ W, (binOp .neq t (.agg cs) (.agg cs)).run P W = .ok (.bool false) W) : YieldsIf P ops S o (.bool false) a :=
  .inl ⟨hw, fun w _ => by
    unfold execOp
    simp only [ho, hx, hy, Sem.run_bind, run_eqGuard_agg w .neq t x y cs cs hm, he, Result.andThen_ok, Sem.run_pure]⟩

theorem below_drewK {B : Nat} {a w : World} (h : Below B a w) (n : Nat) : Below B a (w.drewN n) := ⟨h.os, h.tape, h.output, h.size, h.block⟩
abbrev SB (w w' : World) : Prop := Below w.heap.size w w'
theorem SB.next {w W W' : World} (h : SB w W) (hb : Below W.heap.size W W') : SB w W' := Below.trans h (hb.mono (Below.size h))
theorem SB.al {w W : World} (h : SB w W) (o : Obj) : SB w (W.alloc o) := Below.alloc h (Below.size h) o
theorem SB.dr {w W : World} (h : SB w W) : SB w W.drew := below_drewK h 1
theorem SB.row {w W : World} {g : Nat} {t : TypeId} {l : List Value} (h : SB w W) (r : Row w g t l) : Row W g t l := (Below.block h g r.lt).trans r
theorem SB.here (w : World) : SB w w := Below.refl _ _
end Go.Proofs.YtiaaeniopjpfpaaGreatDoor
