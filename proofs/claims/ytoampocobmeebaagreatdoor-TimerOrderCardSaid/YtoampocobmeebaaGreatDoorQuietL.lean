/- A quiet walk's steps for long arrays: loaded whole, compared. -/
import Derived.BigQuiet
import Derived.DeepKeys
import Derived.OwnWalk
import Derived.Deep.MidRow
import Derived.Test.YtoampocobmeebaaGreatDoorMem
import Derived.Test.YtoampocobmeebaaGreatDoorRound
namespace Go.Proofs.YtoampocobmeebaaGreatDoor
open Go.RowKit
set_option linter.unusedVariables false

section
variable {P : Program} {ops : Array Oper} {C : World → Prop} {Q : Act → Prop} {a : Act} {o : Oper} {rest : List Oper}
theorem quiet_load_row {K : Act → Prop} (ty : TypeId) (x : Operand) (ho : o.op = .load ty x) (g : Nat) (hx : a.eval x = .pointer (some ⟨g, 0, none⟩)) (t : TypeId) (cs : List Value) (d : TypeDesc) (hS : ∀ w, C w → Row w g t cs)
    (hu : P.underlying ty = some d) (hd : d.isRow = true) (hi : (P.info? ty).map (·.size) = some cs.length) (hk : K (a.put o.dst (.agg cs.toArray))) : o.quiet P a C K :=
  ⟨_, fun w hw => by
    have hr : w.rangeAt g 0 cs := fun j v hj => by rw [Nat.zero_add, (hS w hw).cell]; exact hj
    unfold Oper.quietAt execOp
    simp only [ho, hx, Instr.loadAt, Instr.sureAddr, Sem.run_bind, Sem.run_pure, Result.andThen_ok, run_loadVar_mid w g 0 ty cs d hr hu hd hi]
    exact ⟨rfl, rfl⟩, hk⟩
theorem quiet_eql_agg {K : Act → Prop} (t : TypeId) (x y : Operand) (t2 : TypeId) (ho : o.op = .binOp .eql t x y t2)
    (cs ds : Array Value) (hx : a.eval x = .agg cs) (hy : a.eval y = .agg ds) (hm : P.eqGuardType P.depth t = false) (r : Bool) (he : ∀ W, (binOp .eql t (.agg cs) (.agg ds)).run P W = .ok (.bool r) W) (hk : K (a.put o.dst (.bool r))) : o.quiet P a C K :=
  ⟨_, fun w hw => by
    unfold Oper.quietAt execOp
    simp only [ho, hx, hy, Sem.run_bind, run_eqGuard_agg w .eql t x y cs ds hm, he, Result.andThen_ok, Sem.run_pure]
    exact ⟨rfl, rfl⟩, hk⟩
end

theorem items_bytes {P : Program} (W : World) (d : Nat) (e : TypeId) (l m : List UInt8) (he : P.underlying e = some (.int .u8)) (ha : (isAgg e).run P W = .ok false W) :
    ∀ is : List Nat, (∀ i ∈ is, i < l.length ∧ i < m.length) → (Op.eqItems (d + 1) e 1 (l.map bv).toArray (m.map bv).toArray is).run P W = .ok (decide (∀ i ∈ is, l[i]? = m[i]?)) W
  | [], _ => by simp [Op.eqItems]
  | i :: is, h => by
    obtain ⟨h1, h2⟩ := h i (by simp)
    have ih := items_bytes W d e l m he ha is (fun j hj => h j (by simp [hj]))
    have hp : (part e (l.map bv).toArray (i * 1)).run P W = .ok (.int .u8 (l[i].toNat : Int)) W := by
      simp only [part, Sem.run_bind, ha, Result.andThen_ok, Nat.mul_one, Bool.false_eq_true, if_false, List.getElem?_toArray, List.getElem?_map, List.getElem?_eq_getElem h1, Option.map_some, bv, Sem.run_pure]
    have hq : (part e (m.map bv).toArray (i * 1)).run P W = .ok (.int .u8 (m[i].toNat : Int)) W := by
      simp only [part, Sem.run_bind, ha, Result.andThen_ok, Nat.mul_one, Bool.false_eq_true, if_false, List.getElem?_toArray, List.getElem?_map, List.getElem?_eq_getElem h2, Option.map_some, bv, Sem.run_pure]
    simp only [Op.eqItems, Sem.run_bind, hp, hq, Result.andThen_ok, run_equalIn_int W d e .u8 .u8 _ _ he]
    by_cases hb : l[i] = m[i]
    · have e1 : l[i]? = m[i]? := by rw [List.getElem?_eq_getElem h1, List.getElem?_eq_getElem h2, hb]
      simp [hb, ih, e1]
    · have e1 : ¬ l[i]? = m[i]? := by rw [List.getElem?_eq_getElem h1, List.getElem?_eq_getElem h2]; simpa using hb
      have e2 : ¬ ((l[i].toNat : Int) = (m[i].toNat : Int)) := fun h => hb (UInt8.toNat_inj.1 (by omega))
      simp [e1, e2]
theorem arr_equalIn {P : Program} (t e : TypeId) (n : Nat) (l m : List UInt8) (hl : l.length = n) (hm : m.length = n) (ht : P.underlying t = some (.array n e)) (he : P.underlying e = some (.int .u8)) (ha : ∀ W, (isAgg e).run P W = .ok false W)
    (i : TypeInfo) (hi : P.info? e = some i) (hc : P.cellsOf e = 1) (W : World) :
    (Op.equalIn 10000 t (.agg (l.map bv).toArray) (.agg (m.map bv).toArray)).run P W = .ok (decide (l = m)) W := by
  rw [run_equalIn_array W 9999 _ _ ht hi, hc]
  rw [items_bytes W 9998 e l m he (ha W) _ (fun j hj => by
    have hj2 := List.mem_range.1 hj
    omega)]
  have e1 : decide (∀ i ∈ List.range n, l[i]? = m[i]?) = decide (l = m) := decide_eq_decide.2 ⟨fun h => List.ext_getElem? fun j => by
      by_cases hj : j < n
      · exact h j (List.mem_range.2 hj)
      · rw [List.getElem?_eq_none (by omega), List.getElem?_eq_none (by omega)], fun h => by subst h; intros; rfl⟩
  rw [e1]
theorem arr_eql {P : Program} (t e : TypeId) (n : Nat) (l m : List UInt8) (hl : l.length = n) (hm : m.length = n) (ht : P.underlying t = some (.array n e)) (he : P.underlying e = some (.int .u8)) (ha : ∀ W, (isAgg e).run P W = .ok false W)
    (i : TypeInfo) (hi : P.info? e = some i) (hc : P.cellsOf e = 1) (W : World) :
    (binOp .eql t (.agg (l.map bv).toArray) (.agg (m.map bv).toArray)).run P W = .ok (.bool (decide (l = m))) W := by
  rw [run_eql_struct, arr_equalIn t e n l m hl hm ht he ha i hi hc W]
  rfl
end Go.Proofs.YtoampocobmeebaaGreatDoor
