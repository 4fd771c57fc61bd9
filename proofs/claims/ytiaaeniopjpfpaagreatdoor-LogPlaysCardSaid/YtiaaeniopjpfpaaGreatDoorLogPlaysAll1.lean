/- The document's disk: made, a step. (In one text with what it leans on: Quiet2, LMark, KEq2, LFramed, LMarked, LMem, LChoose, LPut, LAdd, LBegin, LRenew, LFrames, ShelfT, BWrite, LBytes, LWipe, LOpen, LPl2, QMem, QSmall.) -/
import Derived.OrdersHeld
import Derived.RangeFuncNested
import Derived.RangeFuncBound
import Derived.RangeFuncCalls
import Derived.RangeFuncLeaves
import Derived.RangeFuncBox
import Derived.OwnWalkIn
import Derived.TacticsInMore
import Derived.LoopNIn
import Derived.LoopIn
import Derived.Lib.OthersKept
import Derived.Shelf.Strings.Trim
import Derived.Below
import Derived.WalkKit
import Derived.Laws.AppendOwn
import Derived.Maps.AppendAt
import Derived.Test.YtiaaeniopjpfpaaGreatDoorRound
import Derived.Test.YtiaaeniopjpfpaaGreatDoorLHead
import Derived.Test.YtiaaeniopjpfpaaGreatDoorKAwk
import Derived.Test.YtiaaeniopjpfpaaGreatDoorKQuiet
import Derived.Test.YtiaaeniopjpfpaaGreatDoorKEq
import Derived.Test.YtiaaeniopjpfpaaGreatDoorGet
import Derived.Test.YtiaaeniopjpfpaaGreatDoorKCrash
import Derived.Test.YtiaaeniopjpfpaaGreatDoorShelf
import Derived.Test.YtiaaeniopjpfpaaGreatDoorKAll
import Derived.Test.YtiaaeniopjpfpaaGreatDoorProg
import Derived.Test.YtiaaeniopjpfpaaGreatDoorKColl
import Derived.Test.YtiaaeniopjpfpaaGreatDoorKRead
namespace Go.Proofs.YtiaaeniopjpfpaaGreatDoor
open Go.RowKit
section
variable {P : Program} {ops : Array Oper} {C : World → Prop}
theorem wpQ_yields {Q : Act → Prop} {a : Act} {o : Oper} {rest : List Oper} (v : Value) (hy : YieldsIf P ops C o v a) (h : wpQuiet P ops C Q rest (a.put o.dst v)) : wpQuiet P ops C Q (o :: rest) a := by
  unfold wpQuiet
  rcases hy with ⟨hw, hr⟩ | ⟨hw, hv⟩
  · rw [if_pos hw]
    refine ⟨v, fun w hC => ?_, h⟩
    unfold Oper.quietAt
    rw [hr w hC]
    exact ⟨rfl, rfl⟩
  · rw [if_neg (by rw [hw]; decide), ← hv]
    exact h
theorem wpQ_call {Q : Act → Prop} {a : Act} {o : Oper} {rest : List Oper} (v : Value) (fn : FuncId) (vals : Array Value) (hw : Region.wanted o (yielded ops a.tmps) = true) (hx : ∀ w, (execOp a.eval o).run P w = .ok (.enter fn vals) w)
    (hc : ∀ w, C w → Calls P fn vals w (fun e w'' => e = .returned v ∧ C w'')) (h : wpQuiet P ops C Q rest (a.put o.dst v)) : wpQuiet P ops C Q (o :: rest) a := by
  unfold wpQuiet
  rw [if_pos hw]
  refine ⟨v, fun w hC => ?_, h⟩
  unfold Oper.quietAt
  rw [hx w]
  exact ⟨rfl, hc w hC⟩
end
end Go.Proofs.YtiaaeniopjpfpaaGreatDoor

namespace Go.Proofs.YtiaaeniopjpfpaaGreatDoor
open Go.RowKit
set_option linter.unusedVariables false
set_option linter.unusedSimpArgs false

def markB (m h : Nat) : List UInt8 := markL m h ++ List.replicate 88 0
theorem markB_length (m h : Nat) : (markB m h).length = 128 := by
  unfold markB
  rw [List.length_append, markL_length, List.length_replicate]

set_option maxRecDepth 4000 in
set_option maxHeartbeats 2000000 in
theorem mark_any (m h : Nat) (hm : m < 18446744073709551616) (hh : h < 1000) (w : World) (hG : G w) :
    Calls Tryz.prog 89 #[.int .u64 (m : Nat), .int .i64 (h : Nat)] w fun e w' => e = .returned (blkV (markB m h)) ∧ Below w.heap.size w w' := by
  obtain ⟨A, hA⟩ : ∃ A, putL m 8 = A := ⟨_, rfl⟩
  obtain ⟨B, hB⟩ : ∃ B, putL h 8 = B := ⟨_, rfl⟩
  have hAl : A.length = 8 := by rw [← hA, putL_length]
  have hBl : B.length = 8 := by rw [← hB, putL_length]
  obtain ⟨M, hM⟩ : ∃ M, ([67, 75, 77, 75] : List UInt8) = M := ⟨_, rfl⟩
  have hMl : M.length = 4 := by rw [← hM]; rfl
  have hMt : (⟨#[67, 75, 77, 75]⟩ : ByteArray) = tx M := by rw [← hM]; rfl
  obtain ⟨K, hK⟩ : ∃ K, markL m h = K := ⟨_, rfl⟩
  have hKl : K.length = 40 := by rw [← hK, markL_length]
  have hKs : sealL (M ++ A ++ B) [] = K := by rw [← hK]; unfold markL; rw [hA, hB, hM]
  have HP1 : Hid (∀ W : World, Calls Tryz.prog 93 #[.int .u64 (m : Nat), .int .i64 8] W fun e w' => e = .returned (.string (tx A)) ∧ Below W.heap.size W w') := Lib.hid fun W => by
    have h := Put_any m 8 W hm
    rw [show szOf 8 = 8 from rfl, hA] at h
    exact h
  have HP2 : Hid (∀ W : World, Calls Tryz.prog 93 #[.int .u64 (h : Nat), .int .i64 8] W fun e w' => e = .returned (.string (tx B)) ∧ Below W.heap.size W w') := Lib.hid fun W => by
    have h := Put_any h 8 W (by omega)
    rw [show szOf 8 = 8 from rfl, hB] at h
    exact h
  have h1 : ∀ W, (Op.stringOp .add (tx M) (tx A)).run Tryz.prog W = .ok (.string (tx (M ++ A))) W := fun W => add_tx M A (by omega) W
  have h2 : ∀ W, (Op.stringOp .add (tx (M ++ A)) (tx B)).run Tryz.prog W = .ok (.string (tx (M ++ A ++ B))) W := fun W => add_tx (M ++ A) B (by rw [List.length_append]; omega) W
  have HS : Hid (∀ W, G W → Calls Tryz.prog 92 #[.string (tx (M ++ A ++ B)), .string ⟨#[]⟩] W fun e w' => e = .returned (.string (tx K)) ∧ Below W.heap.size W w') := Lib.hid fun W hg => by
    have h := sealed_any (M ++ A ++ B) [] (by rw [List.length_append, List.length_append]; omega) (by simp) W hg
    rw [hKs] at h
    exact h
  have hz := (zero_of_info zB_info).1
  have B0 := (Below.refl w.heap.size w).alloc (Nat.le_refl _) (.cells zB.toArray 90)
  have B1 := B0.alloc (by simp) (.cells zB.toArray 90)
  have r0 := (Row.new w 90 zB).alloc (.cells zB.toArray 90)
  have r1 := Row.new (w.alloc (.cells zB.toArray 90)) 90 zB
  have e1 : (w.alloc (.cells zB.toArray 90)).heap.size = w.heap.size + 1 := by simp
  rw [e1] at r1
  obtain ⟨Z, hZ⟩ : ∃ Z, zB = Z := ⟨_, rfl⟩
  have hZl : Z.length = 128 := by rw [← hZ]; exact zB_len
  rw [hZ] at hz B0 B1 r0 r1
  obtain ⟨w2, hw2⟩ : ∃ w2, (w.alloc (.cells Z.toArray 90)).alloc (.cells Z.toArray 90) = w2 := ⟨_, rfl⟩
  rw [hw2] at B1 r0 r1
  have HG2 : Hid (G w2) := Lib.hid (hG.below B1)
  obtain ⟨C, hC⟩ : ∃ C, (markB m h).map bv = C := ⟨_, rfl⟩
  have hover : over Z 0 (tx K).data.toList = C := by
    rw [← hC, ← hZ, tx_list]
    unfold over markB
    rw [hK, List.take_zero, List.nil_append, Nat.zero_add, hKl, List.map_append]
    congr 1
  have hsz := blk_sizeK _ (markB_length m h)
  have hone := blkV_one (markB m h)
  have hfin : blkV (markB m h) = .agg C.toArray := by unfold blkV; rw [hC]
  have hCl : C.length = 128 := by rw [← hC, List.length_map, markB_length]
  rw [hC] at hsz hone
  rw [hfin]
  have HW := Lib.hid (And.intro B1 (And.intro r0 (And.intro r1 (And.intro hZl (And.intro hsz (And.intro hone (And.intro hCl (And.intro hover hKl))))))))
  have HW2 := Lib.hid hw2
  clear hA hB hAl hBl hM hMl hK hKl hKs B0 B1 r0 r1 e1 hZ hZl hC hsz hone hfin hCl hover hG hw2
  go_enter Tryz.func89, Tryz.ntmps89
  go_wp2_with fail
  rw [HW2.out]
  rw [hMt]
  refine region_tail 9 (fun W => Below w2.heap.size w2 W) (by kernel_rfl) (by kernel_rfl) rfl ⟨rfl, rfl, rfl, Nat.le_refl _, fun _ _ => rfl⟩ ?_
  simp only [List.take_succ_cons, List.take_zero]
  refine wpQ_yields (.slice (some ⟨w.heap.size + 1, 0, none⟩) 128 128) (Or.inl ⟨by rfl, fun W' hS => ?yq1⟩) ?_
  case yq1 =>
    go_simp
  try simp only [Act.put, List.setIfInBounds_toArray, List.set_cons_zero, List.set_cons_succ]
  refine wpQ_yields (.int .u64 (m : Nat)) (Or.inl ⟨by rfl, fun W' hS => ?yq2⟩) ?_
  case yq2 =>
    go_simp
  try simp only [Act.put, List.setIfInBounds_toArray, List.set_cons_zero, List.set_cons_succ]
  refine wpQ_call (.string (tx A)) 93 #[.int .u64 (m : Nat), .int .i64 8] (by rfl) (fun W' => ?yq3) (fun W' hS => ?yr3) ?_
  case yq3 =>
    go_simp
  case yr3 =>
    refine (HP1.out W').mono ?_
    rintro e w3 ⟨rfl, hb3⟩
    exact ⟨rfl, hS.trans (hb3.mono hS.size)⟩
  try simp only [Act.put, List.setIfInBounds_toArray, List.set_cons_zero, List.set_cons_succ]
  refine wpQ_yields (.string (tx (M ++ A))) (Or.inl ⟨by rfl, fun W' hS => ?yq4⟩) ?_
  case yq4 =>
    go_simp
  try simp only [Act.put, List.setIfInBounds_toArray, List.set_cons_zero, List.set_cons_succ]
  refine wpQ_yields (.int .i64 (h : Nat)) (Or.inl ⟨by rfl, fun W' hS => ?yq5⟩) ?_
  case yq5 =>
    go_simp
  try simp only [Act.put, List.setIfInBounds_toArray, List.set_cons_zero, List.set_cons_succ]
  refine wpQ_yields (.int .u64 (h : Nat)) (Or.inl ⟨by rfl, fun W' hS => ?yq6⟩) ?_
  case yq6 =>
    go_simp
    first | rw [IntKind.wrap_u64] | skip
    omega
  try simp only [Act.put, List.setIfInBounds_toArray, List.set_cons_zero, List.set_cons_succ]
  refine wpQ_call (.string (tx B)) 93 #[.int .u64 (h : Nat), .int .i64 8] (by rfl) (fun W' => ?yq7) (fun W' hS => ?yr7) ?_
  case yq7 =>
    go_simp
  case yr7 =>
    refine (HP2.out W').mono ?_
    rintro e w3 ⟨rfl, hb3⟩
    exact ⟨rfl, hS.trans (hb3.mono hS.size)⟩
  try simp only [Act.put, List.setIfInBounds_toArray, List.set_cons_zero, List.set_cons_succ]
  refine wpQ_yields (.string (tx (M ++ A ++ B))) (Or.inl ⟨by rfl, fun W' hS => ?yq8⟩) ?_
  case yq8 =>
    go_simp
  try simp only [Act.put, List.setIfInBounds_toArray, List.set_cons_zero, List.set_cons_succ]
  refine wpQ_call (.string (tx K)) 92 #[.string (tx (M ++ A ++ B)), .string ⟨#[]⟩] (by rfl) (fun W' => ?yq9) (fun W' hS => ?yr9) ?_
  case yq9 =>
    go_simp
  case yr9 =>
    refine (HS.out W' (HG2.out.below hS)).mono ?_
    rintro e w3 ⟨rfl, hb3⟩
    exact ⟨rfl, hS.trans (hb3.mono hS.size)⟩
  try simp only [Act.put, List.setIfInBounds_toArray, List.set_cons_zero, List.set_cons_succ]
  refine wpQuiet_nil ?_
  intro wf hwf
  have rf := HW.out.2.2.1.below hwf HW.out.2.2.1.lt
  have rf0 := HW.out.2.1.below hwf HW.out.2.1.lt
  have hcp := fun ty => copy_row (P := Tryz.prog) (W := wf) 87 9 ty 5 (w.heap.size + 1) 0 128 128 (tx K) Z 90 Tryz.underlying87 (by kernel_rfl) rf (by rw [tx_size]; have := HW.out.2.2.2.2.2.2; omega) (by rw [tx_size]; have := HW.out; omega)
  have hp := rf.put C
  rw [HW.out.2.2.2.2.2.2.2.1] at hcp
  have hr4 : Row (wf.setRow (w.heap.size + 1) C.toArray) w.heap.size 90 Z := rf0.put_far (g' := w.heap.size + 1) (by omega) _
  have hbw : Below w.heap.size w (wf.setRow (w.heap.size + 1) C.toArray) := below_setRow (B := w.heap.size) (HW.out.1.trans (hwf.mono HW.out.1.size)) (by omega) C.toArray
  obtain ⟨w4, hw4⟩ : ∃ w4, wf.setRow (w.heap.size + 1) C.toArray = w4 := ⟨_, rfl⟩
  rw [hw4] at hp hr4 hbw
  have HF := Lib.hid (And.intro hp (And.intro hr4 hbw))
  have HRG : Hid (w4.rangeAt (w.heap.size + 1) 0 C) := Lib.hid (fun j v hj => by rw [Nat.zero_add, HF.out.1.cell]; exact hj)
  have hcp2 : ∀ ty, (Builtin.copy_ #[87, 9] ty #[.slice (some ⟨w.heap.size + 1, 0, none⟩) 128 128, .string (tx K)]).run Tryz.prog wf = .ok (goInt (tx K).size) w4 := fun ty => by rw [hcp ty, hw4]
  clear hcp hp hr4 hbw hw4 rf rf0 hwf
  go_wp2_with (first
    | (with_reducible refine wpList_load_mid rfl 90 (.tmp 5) rfl (w.heap.size + 1) 0 rfl C _ HRG.out Tryz.underlying90 rfl HW.out.2.2.2.2.1 ?_)
    | (refine wpList_store_row rfl 90 (.tmp 4) (.tmp 16) rfl w.heap.size C.toArray rfl rfl 90 Z.toArray HF.out.2.1 (by rw [List.size_toArray]; exact HW.out.2.2.2.2.1) (by rw [List.size_toArray, List.size_toArray, HW.out.2.2.2.1, HW.out.2.2.2.2.2.2.1]) HW.out.2.2.2.2.2.1 ?_)
    | fail)
  have hp2 := HF.out.2.1.put C
  have hq2 := below_setRow (B := w.heap.size) HF.out.2.2 (Nat.le_refl _) C.toArray
  exact bodyPost_ret (v := .agg C.toArray) (results_cell_row rfl _ _ w.heap.size 90 C.toArray (0, 0) _ rfl hp2 Tryz.underlying90 rfl (by rw [List.size_toArray]; exact HW.out.2.2.2.2.1)) rfl ⟨rfl, hq2⟩
end Go.Proofs.YtiaaeniopjpfpaaGreatDoor

namespace Go.Proofs.YtiaaeniopjpfpaaGreatDoor
open Go.RowKit Go.Maps
set_option linter.unusedVariables false

theorem items_cmp {P : Program} (W : World) (d : Nat) (e : TypeId) (k : IntKind) (xs ys : Array Value) (f g : Nat → Int) (he : P.underlying e = some (.int k)) (ha : (isAgg e).run P W = .ok false W) :
    ∀ is : List Nat, (∀ i ∈ is, xs[i]? = some (.int k (f i)) ∧ ys[i]? = some (.int k (g i))) → (Op.eqItems (d + 1) e 1 xs ys is).run P W = .ok (is.all fun i => f i == g i) W
  | [], _ => by simp [Op.eqItems]
  | i :: is, h => by
    obtain ⟨hv, hu⟩ := h i (by simp)
    have ih := items_cmp W d e k xs ys f g he ha is (fun j hj => h j (by simp [hj]))
    have hp : (part e xs (i * 1)).run P W = .ok (.int k (f i)) W := by
      simp only [part, Sem.run_bind, ha, Result.andThen_ok, Nat.mul_one, Bool.false_eq_true, if_false, hv, Sem.run_pure]
    have hq : (part e ys (i * 1)).run P W = .ok (.int k (g i)) W := by
      simp only [part, Sem.run_bind, ha, Result.andThen_ok, Nat.mul_one, Bool.false_eq_true, if_false, hu, Sem.run_pure]
    simp only [Op.eqItems, Sem.run_bind, hp, hq, Result.andThen_ok, run_equalIn_int W d e k k _ _ he]
    by_cases hfg : f i = g i
    · have e2 : ((i :: is).all fun i => f i == g i) = (is.all fun i => f i == g i) := by simp [hfg]
      rw [e2]
      simpa [hfg] using ih
    · simp [hfg]
theorem all_range (L M : List UInt8) (hL : L.length = 128) (hM : M.length = 128) : ((List.range 128).all fun i => (((L.getD i 0).toNat : Nat) : Int) == (((M.getD i 0).toNat : Nat) : Int)) = decide (L = M) := by
  by_cases h : L = M
  · subst h
    simp
  · rw [decide_eq_false h]
    apply Bool.eq_false_iff.2
    intro hall
    apply h
    apply List.ext_getElem (by omega)
    intro i h1 h2
    have h3 := List.all_eq_true.1 hall i (List.mem_range.2 (by omega))
    rw [List.getD_eq_getElem?_getD, List.getD_eq_getElem?_getD, List.getElem?_eq_getElem h1, List.getElem?_eq_getElem h2] at h3
    have h4 : ((L[i]).toNat : Int) = ((M[i]).toNat : Int) := by simpa using h3
    exact UInt8.toNat_inj.1 (by omega)
theorem blk_cmpIn (L M : List UInt8) (hL : L.length = 128) (hM : M.length = 128) (W : World) :
    (Op.equalIn 10000 90 (.agg (L.map bv).toArray) (.agg (M.map bv).toArray)).run Tryz.prog W = .ok (decide (L = M)) W := by
  have h5 : (Tryz.prog.info? 5).map (fun i => (i.zero, i.size, i.bytes)) = some (some (.int .u8 0), 1, 1) := by kernel_rfl
  obtain ⟨i, hi, _⟩ := info_parts h5
  have hc : Tryz.prog.cellsOf 5 = 1 := by kernel_rfl
  have hg : ∀ (l : List UInt8), l.length = 128 → ∀ j, j < 128 → (l.map bv).toArray[j]? = some (.int .u8 (((l.getD j 0).toNat : Nat) : Int)) := fun l hl j hj => by
    rw [List.getElem?_toArray, List.getElem?_map, List.getD_eq_getElem?_getD, List.getElem?_eq_getElem (by omega)]
    rfl
  rw [run_equalIn_array W 9999 _ _ Tryz.underlying90 hi, hc]
  rw [items_cmp W 9998 5 .u8 _ _ (fun j => (((L.getD j 0).toNat : Nat) : Int)) (fun j => (((M.getD j 0).toNat : Nat) : Int)) Tryz.underlying5 (Tryz.isAgg5 W) _ (fun j hj => by
    have hj2 := List.mem_range.1 hj
    exact ⟨hg L hL j hj2, hg M hM j hj2⟩)]
  rw [all_range L M hL hM]
theorem blk_cmp (L M : List UInt8) (hL : L.length = 128) (hM : M.length = 128) (W : World) :
    (binOp .eql 90 (blkV L) (blkV M)).run Tryz.prog W = .ok (.bool (decide (L = M))) W := by
  unfold blkV
  rw [run_eql_struct, blk_cmpIn L M hL hM W]
  rfl
theorem yields_eql2 {P : Program} {ops : Array Oper} {S : World → Prop} {o : Oper} {a : Act} (hw : Region.wanted o (yielded ops a.tmps) = true) (t : TypeId) (x y : Operand) (t2 : TypeId) (ho : o.op = .binOp .eql t x y t2)
    (cs ds : Array Value) (b : Bool) (hx : a.eval x = .agg cs) (hy : a.eval y = .agg ds) (hm : P.eqGuardType P.depth t = false) (he : ∀ W, (binOp .eql t (.agg cs) (.agg ds)).run P W = .ok (.bool b) W) : YieldsIf P ops S o (.bool b) a :=
  .inl ⟨hw, fun w _ => by
    unfold execOp
    simp only [ho, hx, hy, Sem.run_bind, run_eqGuard_agg w .eql t x y cs ds hm, he, Result.andThen_ok, Sem.run_pure]⟩
end Go.Proofs.YtiaaeniopjpfpaaGreatDoor

namespace Go.Proofs.YtiaaeniopjpfpaaGreatDoor
open Go.RowKit
set_option linter.unusedVariables false
set_option linter.unusedSimpArgs false

/-- Its text, if it is whole, and has that number. -/
def framedL (n : Nat) (s : List UInt8) : Option (List UInt8) :=
  if s.length < 28 then none else
  if (s.drop 28).length < getL ((s.drop 4).take 4) then none else
  if s.take 28 = headL n ((s.drop 28).take (getL ((s.drop 4).take 4))) then some ((s.drop 28).take (getL ((s.drop 4).take 4))) else none
def framedV (r : Option (List UInt8)) : Value := match r with
  | none => .tuple #[.string ⟨#[]⟩, .bool false]
  | some t => .tuple #[.string (tx t), .bool true]
theorem tx_cut (l : List UInt8) (a b : Nat) (ha : a ≤ b) (hb : b ≤ l.length) : (tx l).extract a b = tx ((l.take b).drop a) := by
  apply ByteArray.ext
  apply Array.ext'
  simp [tx, List.take_drop]
  rw [show a + (b - a) = b by omega]
theorem getE_four (l : List UInt8) (h : l.length = 4) : getE l = 0 := by
  unfold getE
  rw [if_neg (by omega), if_neg (by omega)]
theorem getN_four (l : List UInt8) (h : l.length = 4) : getN l = getL l := by
  unfold getN
  rw [if_neg (by omega), if_neg (by omega)]

set_option maxRecDepth 4000 in
set_option maxHeartbeats 2000000 in
theorem framed_any (n : Nat) (s : List UInt8) (hn : n ≤ 1000000000000) (hs : s.length ≤ 1000000000000) (w : World) (hG : G w) :
    Calls Tryz.prog 65 #[.int .i64 n, .string (tx s)] w fun e w' => e = .returned (framedV (framedL n s)) ∧ Below w.heap.size w w' := by
  obtain ⟨k, hk⟩ : ∃ k, s.length = k := ⟨_, rfl⟩
  by_cases h28 : k < 28
  · have hr : framedL n s = none := by unfold framedL; rw [if_pos (by omega)]
    have hsz : (tx s).size = k := by rw [tx_size, hk]
    have hkI : (k : Int) < 28 := by omega
    rw [hr]
    obtain ⟨S, hS⟩ : ∃ S, tx s = S := ⟨_, rfl⟩
    rw [hS] at hsz ⊢
    clear hr hS hG hk hs hn
    go_enter Tryz.func65, Tryz.ntmps65
    go_wp2_with fail
    go_ret2
    exact ⟨rfl, Below.refl _ _⟩
  · obtain ⟨z, hz⟩ : ∃ z, getL ((s.drop 4).take 4) = z := ⟨_, rfl⟩
    obtain ⟨F, hF⟩ : ∃ F, (s.drop 4).take 4 = F := ⟨_, rfl⟩
    have hFl : F.length = 4 := by rw [← hF, List.length_take, List.length_drop]; omega
    rw [hF] at hz
    obtain ⟨R, hR⟩ : ∃ R, s.drop 28 = R := ⟨_, rfl⟩
    have hRl : R.length = k - 28 := by rw [← hR, List.length_drop, hk]
    obtain ⟨H, hH⟩ : ∃ H, s.take 28 = H := ⟨_, rfl⟩
    obtain ⟨r, hr⟩ : ∃ r, k - 28 = r := ⟨_, rfl⟩
    have hz4 : z < 4294967296 := by
      rw [← hz]
      have h := getL_lt F
      rw [hFl] at h
      exact h
    have hGet : ∀ W : World, Calls Tryz.prog 99 #[.string (tx F)] W fun e w' => e = .returned (.tuple #[.int .u64 (z : Nat), .int .i64 0]) ∧ W = w' := fun W => by
      have h := Get_any (tx F) W (by rw [tx_size]; omega)
      rw [tx_list, getN_four F hFl, getE_four F hFl, hz] at h
      exact h
    have hsz : (tx s).size = k := by rw [tx_size, hk]
    have hc1 : (tx s).extract 4 8 = tx F := by
      rw [tx_cut s 4 8 (by omega) (by omega), ← hF]
      congr 1
      rw [List.drop_take]
    have hc2 : (tx s).extract 28 k = tx R := by
      rw [tx_cut s 28 k (by omega) (by omega), ← hR, List.take_of_length_le (by omega)]
    have hc3 : (tx s).extract 0 28 = tx H := by
      rw [tx_cut s 0 28 (by omega) (by omega), ← hH, List.drop_zero]
    have hRsz : (tx R).size = r := by rw [tx_size, hRl, hr]
    have hGH := Lib.hid hGet
    have hkI : (28 : Int) ≤ (k : Int) := by omega
    have hk28 : ¬ (k : Int) < 28 := by omega
    have hrI : (r : Int) ≤ 1000000000000 := by omega
    by_cases hlt : r < z
    · have hres : framedL n s = none := by unfold framedL; rw [if_neg (by omega), hF, hz, hR, if_pos (by omega)]
      rw [hres]
      have hltI : (r : Int) < (z : Int) := by omega
      obtain ⟨S, hS⟩ : ∃ S, tx s = S := ⟨_, rfl⟩
      rw [hS] at hsz hc1 hc2 hc3 ⊢
      clear hres hS hG hk hs hn hz hF hFl hR hRl hH hr hz4 hGet
      go_enter Tryz.func65, Tryz.ntmps65
      go_wp2_with fail
      refine (hGH.out _).mono ?_
      rintro e w1 ⟨rfl, rfl⟩
      go_wp2_with fail
      go_ret2
      exact ⟨rfl, Below.refl _ _⟩
    · obtain ⟨T, hT⟩ : ∃ T, R.take z = T := ⟨_, rfl⟩
      have hTl : T.length = z := by rw [← hT, List.length_take, hRl]; omega
      have hc4 : (tx R).extract 0 z = tx T := by rw [tx_cut R 0 z (by omega) (by omega), ← hT, List.drop_zero]
      have HH : Hid (∀ W, G W → Calls Tryz.prog 53 #[.int .i64 n, .string (tx T)] W fun e w' => e = .returned (.string (tx (headL n T))) ∧ Below W.heap.size W w') := Lib.hid fun W hg => head_any n T hn (by omega) W hg
      have hHl : H.length = 28 := by rw [← hH, List.length_take]; omega
      have hhl := headL_length n T
      obtain ⟨U, hU⟩ : ∃ U, headL n T = U := ⟨_, rfl⟩
      rw [hU] at HH hhl
      have hzI : (z : Int) ≤ (r : Int) := by omega
      have hHGW := Lib.hid hG
      by_cases heq : H = U
      · have hres : framedL n s = some T := by unfold framedL; rw [if_neg (by omega), hF, hz, hR, if_neg (by omega), hH, hT, hU, if_pos heq]
        rw [hres]
        subst heq
        obtain ⟨S, hS⟩ : ∃ S, tx s = S := ⟨_, rfl⟩
        rw [hS] at hsz hc1 hc2 hc3 ⊢
        obtain ⟨X, hX⟩ : ∃ X, tx H = X := ⟨_, rfl⟩
        rw [hX] at hc3 HH
        obtain ⟨Y, hY⟩ : ∃ Y, tx T = Y := ⟨_, rfl⟩
        have hfv : framedV (some T) = .tuple #[.string Y, .bool true] := by rw [← hY]; rfl
        rw [hY] at hc4 HH
        rw [hfv]
        clear hres hS hG hk hs hn hz hF hFl hR hRl hH hr hz4 hGet hU hT hTl hHl hhl hX hY hfv
        go_enter Tryz.func65, Tryz.ntmps65
        go_wp2_with fail
        refine (hGH.out _).mono ?_
        rintro e w1 ⟨rfl, rfl⟩
        go_wp2_with fail
        refine region_quiet_lit (fun W => Below w.heap.size w W) (by kernel_rfl) (by kernel_rfl) ⟨rfl, rfl, rfl, Nat.le_refl _, fun _ _ => rfl⟩ ?_
        refine wpQ_yields (.string S) (Or.inl ⟨by rfl, fun W' hS => ?yq1⟩) ?_
        case yq1 =>
          go_simp
        try simp only [Act.put, List.setIfInBounds_toArray, List.set_cons_zero, List.set_cons_succ]
        refine wpQ_yields (.string X) (Or.inl ⟨by rfl, fun W' hS => ?yq2⟩) ?_
        case yq2 =>
          go_simp
        try simp only [Act.put, List.setIfInBounds_toArray, List.set_cons_zero, List.set_cons_succ]
        refine wpQ_yields (.int .i64 n) (Or.inl ⟨by rfl, fun W' hS => ?yq3⟩) ?_
        case yq3 =>
          go_simp
        try simp only [Act.put, List.setIfInBounds_toArray, List.set_cons_zero, List.set_cons_succ]
        refine wpQ_yields (.string Y) (Or.inl ⟨by rfl, fun W' hS => ?yq4⟩) ?_
        case yq4 =>
          go_simp
        try simp only [Act.put, List.setIfInBounds_toArray, List.set_cons_zero, List.set_cons_succ]
        refine wpQ_call (.string X) 53 #[.int .i64 n, .string Y] (by rfl) (fun W' => ?yq5) (fun W' hS => ?yr5) ?_
        case yq5 =>
          go_simp
        case yr5 =>
          refine (HH.out W' (hHGW.out.below hS)).mono ?_
          rintro e w2 ⟨rfl, hb2⟩
          exact ⟨rfl, hS.trans (hb2.mono hS.size)⟩
        try simp only [Act.put, List.setIfInBounds_toArray, List.set_cons_zero, List.set_cons_succ]
        refine wpQ_yields (.bool false) (Or.inl ⟨by rfl, fun W' hS => ?yq6⟩) ?_
        case yq6 =>
          go_simp
        try simp only [Act.put, List.setIfInBounds_toArray, List.set_cons_zero, List.set_cons_succ]
        refine wpQuiet_nil ?_
        intro wf hwf
        go_wp2_with fail
        go_ret2
        exact ⟨rfl, hwf⟩
      · have hres : framedL n s = none := by unfold framedL; rw [if_neg (by omega), hF, hz, hR, if_neg (by omega), hH, hT, hU, if_neg heq]
        rw [hres]
        have hXV : tx H ≠ tx U := fun e => heq (by rw [← tx_list H, ← tx_list U, e])
        obtain ⟨S, hS⟩ : ∃ S, tx s = S := ⟨_, rfl⟩
        rw [hS] at hsz hc1 hc2 hc3 ⊢
        obtain ⟨X, hX⟩ : ∃ X, tx H = X := ⟨_, rfl⟩
        rw [hX] at hc3 hXV
        obtain ⟨V, hV⟩ : ∃ V, tx U = V := ⟨_, rfl⟩
        rw [hV] at HH hXV
        obtain ⟨Y, hY⟩ : ∃ Y, tx T = Y := ⟨_, rfl⟩
        rw [hY] at hc4 HH
        have hTL : ¬ X.toList = V.toList := fun e => hXV (by rw [ByteArray.toList_eq, ByteArray.toList_eq] at e; exact ByteArray.ext (Array.ext' e))
        clear hXV
        clear hres hS hG hk hs hn hz hF hFl hR hRl hH hr hz4 hGet hU hT hTl hHl hhl hX hY hV heq
        go_enter Tryz.func65, Tryz.ntmps65
        go_wp2_with fail
        refine (hGH.out _).mono ?_
        rintro e w1 ⟨rfl, rfl⟩
        go_wp2_with fail
        refine region_quiet_lit (fun W => Below w.heap.size w W) (by kernel_rfl) (by kernel_rfl) ⟨rfl, rfl, rfl, Nat.le_refl _, fun _ _ => rfl⟩ ?_
        refine wpQ_yields (.string S) (Or.inl ⟨by rfl, fun W' hS => ?yq1⟩) ?_
        case yq1 =>
          go_simp
        try simp only [Act.put, List.setIfInBounds_toArray, List.set_cons_zero, List.set_cons_succ]
        refine wpQ_yields (.string X) (Or.inl ⟨by rfl, fun W' hS => ?yq2⟩) ?_
        case yq2 =>
          go_simp
        try simp only [Act.put, List.setIfInBounds_toArray, List.set_cons_zero, List.set_cons_succ]
        refine wpQ_yields (.int .i64 n) (Or.inl ⟨by rfl, fun W' hS => ?yq3⟩) ?_
        case yq3 =>
          go_simp
        try simp only [Act.put, List.setIfInBounds_toArray, List.set_cons_zero, List.set_cons_succ]
        refine wpQ_yields (.string Y) (Or.inl ⟨by rfl, fun W' hS => ?yq4⟩) ?_
        case yq4 =>
          go_simp
        try simp only [Act.put, List.setIfInBounds_toArray, List.set_cons_zero, List.set_cons_succ]
        refine wpQ_call (.string V) 53 #[.int .i64 n, .string Y] (by rfl) (fun W' => ?yq5) (fun W' hS => ?yr5) ?_
        case yq5 =>
          go_simp
        case yr5 =>
          refine (HH.out W' (hHGW.out.below hS)).mono ?_
          rintro e w2 ⟨rfl, hb2⟩
          exact ⟨rfl, hS.trans (hb2.mono hS.size)⟩
        try simp only [Act.put, List.setIfInBounds_toArray, List.set_cons_zero, List.set_cons_succ]
        refine wpQ_yields (.bool true) (Or.inl ⟨by rfl, fun W' hS => ?yq6⟩) ?_
        case yq6 =>
          go_simp
        try simp only [Act.put, List.setIfInBounds_toArray, List.set_cons_zero, List.set_cons_succ]
        refine wpQuiet_nil ?_
        intro wf hwf
        go_wp2_with fail
        go_ret2
        exact ⟨rfl, hwf⟩
end Go.Proofs.YtiaaeniopjpfpaaGreatDoor

namespace Go.Proofs.YtiaaeniopjpfpaaGreatDoor
open Go.RowKit
set_option linter.unusedVariables false
set_option linter.unusedSimpArgs false

def markNum (b : List UInt8) : Nat := getL ((b.drop 4).take 8)
def markedL (b : List UInt8) : Option (Nat × Nat) := if b = markB (markNum b) 0 then some (markNum b, 0) else if b = markB (markNum b) 1 then some (markNum b, 1) else none
def markedV (r : Option (Nat × Nat)) : Value := match r with
  | none => .tuple #[.int .u64 0, .int .i64 0, .bool false]
  | some x => .tuple #[.int .u64 (x.1 : Nat), .int .i64 (x.2 : Nat), .bool true]
theorem getN_eight (l : List UInt8) (h : l.length = 8) : getN l = getL l := by
  unfold getN
  rw [if_neg (by omega), if_neg (by omega)]
theorem getE_eight (l : List UInt8) (h : l.length = 8) : getE l = 0 := by
  unfold getE
  rw [if_neg (by omega), if_neg (by omega)]
theorem markNum_lt (b : List UInt8) (hb : b.length = 128) : markNum b < 18446744073709551616 := by
  unfold markNum
  exact getL_lt8 _ (by rw [List.length_take]; omega)
/-- Which halves up to k the sector is no mark of. -/
def notMark (b : List UInt8) (k : Nat) : Prop := ∀ h, h < k → b ≠ markB (markNum b) h

set_option maxRecDepth 4000 in
set_option maxHeartbeats 2000000 in
theorem marked_any (b : List UInt8) (hb : b.length = 128) (w : World) (hG : G w) :
    Calls Tryz.prog 81 #[blkV b] w fun e w' => e = .returned (markedV (markedL b)) ∧ Below w.heap.size w w' := by
  obtain ⟨C, hC⟩ : ∃ C, b.map bv = C := ⟨_, rfl⟩
  have hbl : blkV b = .agg C.toArray := by unfold blkV; rw [hC]
  have hsz := blk_sizeK b hb
  have hone := blkV_one b
  rw [hC] at hsz hone
  have hCl : C.length = 128 := by rw [← hC, List.length_map, hb]
  rw [hbl]
  obtain ⟨m, hm⟩ : ∃ m, markNum b = m := ⟨_, rfl⟩
  have hm64 := markNum_lt b hb
  rw [hm] at hm64
  obtain ⟨F, hF⟩ : ∃ F, (b.drop 4).take 8 = F := ⟨_, rfl⟩
  have hFl : F.length = 8 := by rw [← hF, List.length_take, List.length_drop]; omega
  have hFm : getL F = m := by rw [← hF]; exact hm
  have HGet : Hid (∀ W : World, Calls Tryz.prog 99 #[.string (tx F)] W fun e w' => e = .returned (.tuple #[.int .u64 (m : Nat), .int .i64 0]) ∧ W = w') := Lib.hid fun W => by
    have h := Get_any (tx F) W (by rw [tx_size]; omega)
    rw [tx_list, getN_eight F hFl, getE_eight F hFl, hFm] at h
    exact h
  have B0 := (Below.refl w.heap.size w).alloc (Nat.le_refl _) (.cells C.toArray 90)
  have r0 := Row.new w 90 C
  obtain ⟨w1, hw1⟩ : ∃ w1, w.alloc (.cells C.toArray 90) = w1 := ⟨_, rfl⟩
  rw [hw1] at B0 r0
  have HW := Lib.hid (And.intro B0 (And.intro r0 (And.intro hCl (And.intro hsz hone))))
  have HG1 := Lib.hid (hG.below B0)
  have hcv : ∀ src dst, (Tryz.prog.underlying src = some (.slice 5)) → Tryz.prog.underlying dst = some .string → (convert src dst (.slice (some ⟨w.heap.size, 4, none⟩) 8 124)).run Tryz.prog w1 = .ok (.string (tx F)) w1 := fun src dst h1 h2 => by
    refine conv_bytes w1 src dst 5 h1 Tryz.underlying5 h2 w.heap.size 4 8 124 F hFl (fun i hi => ?_)
    rw [r0.cell, ← hC, List.getElem?_map, List.getElem?_map, ← hF, List.getElem?_take, if_pos hi, List.getElem?_drop]
  have hcv2 := hcv 87 9 Tryz.underlying87 Tryz.underlying9
  rw [← hw1] at hcv2
  have HK : Hid (∀ h : Nat, h < 2 → ∀ W, G W → Calls Tryz.prog 89 #[.int .u64 (m : Nat), .int .i64 (h : Nat)] W fun e w' => e = .returned (blkV (markB m h)) ∧ Below W.heap.size W w') := Lib.hid fun h hh W hg => mark_any m h hm64 (by omega) W hg
  have HQ := Lib.hid (And.intro hm (And.intro hC hb))
  have HW1 := Lib.hid hw1
  clear hC hbl hsz hone hCl hm hF hFl hFm B0 r0 hw1 hG hcv
  go_enter Tryz.func81, Tryz.ntmps81
  go_wp2_with fail
  refine (HGet.out _).mono ?_
  rintro e w2 ⟨rfl, rfl⟩
  rw [HW1.out]
  clear hcv2 HW1
  go_wp2_with fail
  go_loopw [14] (fun i wr => ∃ j : Nat, i = .int .i64 j ∧ j ≤ 2 ∧ Hid (notMark b j ∧ Below w1.heap.size w1 wr)) (fun i _ => 2 - (intOf i).toNat)
  case atStart => exact ⟨0, rfl, by omega, Lib.hid ⟨fun h hh => absurd hh (by omega), Below.refl _ _⟩⟩
  case round =>
    obtain ⟨j, rfl, hj, HJ⟩ := hrel
    by_cases hlt : j < 2
    · have hltI : (j : Int) < 2 := by omega
      have HGR := Lib.hid (HG1.out.below HJ.out.2)
      obtain ⟨E, hE⟩ : ∃ E, (markB m j).map bv = E := ⟨_, rfl⟩
      have hEV : blkV (markB m j) = .agg E.toArray := by unfold blkV; rw [hE]
      have HMK : Hid (∀ W, G W → Calls Tryz.prog 89 #[.int .u64 (m : Nat), .int .i64 (j : Nat)] W fun e w' => e = .returned (.agg E.toArray) ∧ Below W.heap.size W w') := Lib.hid fun W hg => by
        have h := HK.out j hlt W hg
        rw [hEV] at h
        exact h
      have rr := HW.out.2.1.below HJ.out.2 HW.out.2.1.lt
      have HLD : Hid (∀ W, Below wr.heap.size wr W → W.rangeAt w.heap.size 0 C) := Lib.hid fun W h k v hk => by
        rw [Nat.zero_add, (rr.below h rr.lt).cell]
        exact hk
      have hcmp := fun W => blk_cmp b (markB m j) HQ.out.2.2 (markB_length m j) W
      unfold blkV at hcmp
      rw [HQ.out.2.1, hE] at hcmp
      have HJ2 := Lib.hid (And.intro hlt hj)
      by_cases heq : b = markB m j
      · rw [decide_eq_true heq] at hcmp
        have HCM := Lib.hid hcmp
        have hres : markedL b = some (m, j) := by
          unfold markedL
          have hnm := HJ.out.1
          rw [HQ.out.1]
          rcases (by omega : j = 0 ∨ j = 1) with rfl | rfl
          · rw [if_pos heq]
          · have h0 := hnm 0 (by omega)
            rw [HQ.out.1] at h0
            rw [if_neg h0, if_pos heq]
        have hfin : markedV (markedL b) = .tuple #[.int .u64 (m : Nat), .int .i64 (j : Nat), .bool true] := by rw [hres]; rfl
        have HFIN := Lib.hid hfin
        clear hres hfin heq hcmp rr hEV hE hlt hj
        go_wp2_with fail
        refine region_quiet_lit (fun W => Below wr.heap.size wr W) (by kernel_rfl) (by kernel_rfl) ⟨rfl, rfl, rfl, Nat.le_refl _, fun _ _ => rfl⟩ ?_
        refine wpQ_yields (.agg C.toArray) (yieldsIf_load_mid (by rfl) 90 (.tmp 1) rfl w.heap.size 0 rfl C _ (fun W h => HLD.out W h) Tryz.underlying90 rfl HW.out.2.2.2.1) ?_
        try simp only [Act.put, List.setIfInBounds_toArray, List.set_cons_zero, List.set_cons_succ]
        refine wpQ_yields (.int .u64 (m : Nat)) (Or.inl ⟨by rfl, fun W' hS => ?yq1⟩) ?_
        case yq1 =>
          go_simp
        try simp only [Act.put, List.setIfInBounds_toArray, List.set_cons_zero, List.set_cons_succ]
        refine wpQ_yields (.int .i64 (j : Nat)) (Or.inl ⟨by rfl, fun W' hS => ?yq2⟩) ?_
        case yq2 =>
          go_simp
        try simp only [Act.put, List.setIfInBounds_toArray, List.set_cons_zero, List.set_cons_succ]
        refine wpQ_call (.agg E.toArray) 89 #[.int .u64 (m : Nat), .int .i64 (j : Nat)] (by rfl) (fun W' => ?yq3) (fun W' hS => ?yr3) ?_
        case yq3 =>
          go_simp
        case yr3 =>
          refine (HMK.out W' (HGR.out.below hS)).mono ?_
          rintro e w2 ⟨rfl, hb2⟩
          exact ⟨rfl, hS.trans (hb2.mono hS.size)⟩
        try simp only [Act.put, List.setIfInBounds_toArray, List.set_cons_zero, List.set_cons_succ]
        refine wpQ_yields (.bool true) (yields_eql2 (by rfl) _ _ _ _ rfl C.toArray E.toArray true rfl rfl (by kernel_rfl) HCM.out) ?_
        try simp only [Act.put, List.setIfInBounds_toArray, List.set_cons_zero, List.set_cons_succ]
        refine wpQuiet_nil ?_
        intro wf hwf
        go_wp2_with fail
        go_ret3
        rw [HFIN.out]
        exact ⟨rfl, HW.out.1.trans ((HJ.out.2.trans (hwf.mono HJ.out.2.size)).mono HW.out.1.size)⟩
      · rw [decide_eq_false heq] at hcmp
        have HCM := Lib.hid hcmp
        have HNX : Hid (notMark b (j + 1)) := Lib.hid fun h hh => by
          rcases Nat.lt_or_ge h j with h1 | h1
          · exact HJ.out.1 h h1
          · have : h = j := by omega
            subst this
            rw [HQ.out.1]
            exact heq
        clear heq hcmp rr hEV hE hlt hj
        go_wp2_with fail
        refine region_quiet_lit (fun W => Below wr.heap.size wr W) (by kernel_rfl) (by kernel_rfl) ⟨rfl, rfl, rfl, Nat.le_refl _, fun _ _ => rfl⟩ ?_
        refine wpQ_yields (.agg C.toArray) (yieldsIf_load_mid (by rfl) 90 (.tmp 1) rfl w.heap.size 0 rfl C _ (fun W h => HLD.out W h) Tryz.underlying90 rfl HW.out.2.2.2.1) ?_
        try simp only [Act.put, List.setIfInBounds_toArray, List.set_cons_zero, List.set_cons_succ]
        refine wpQ_yields (.int .u64 (m : Nat)) (Or.inl ⟨by rfl, fun W' hS => ?yq1⟩) ?_
        case yq1 =>
          go_simp
        try simp only [Act.put, List.setIfInBounds_toArray, List.set_cons_zero, List.set_cons_succ]
        refine wpQ_yields (.int .i64 (j : Nat)) (Or.inl ⟨by rfl, fun W' hS => ?yq2⟩) ?_
        case yq2 =>
          go_simp
        try simp only [Act.put, List.setIfInBounds_toArray, List.set_cons_zero, List.set_cons_succ]
        refine wpQ_call (.agg E.toArray) 89 #[.int .u64 (m : Nat), .int .i64 (j : Nat)] (by rfl) (fun W' => ?yq3) (fun W' hS => ?yr3) ?_
        case yq3 =>
          go_simp
        case yr3 =>
          refine (HMK.out W' (HGR.out.below hS)).mono ?_
          rintro e w2 ⟨rfl, hb2⟩
          exact ⟨rfl, hS.trans (hb2.mono hS.size)⟩
        try simp only [Act.put, List.setIfInBounds_toArray, List.set_cons_zero, List.set_cons_succ]
        refine wpQ_yields (.bool false) (yields_eql2 (by rfl) _ _ _ _ rfl C.toArray E.toArray false rfl rfl (by kernel_rfl) HCM.out) ?_
        try simp only [Act.put, List.setIfInBounds_toArray, List.set_cons_zero, List.set_cons_succ]
        refine wpQuiet_nil ?_
        intro wf hwf
        have HJ3 : Hid (notMark b (j + 1) ∧ Below w1.heap.size w1 wf) := Lib.hid ⟨HNX.out, HJ.out.2.trans (hwf.mono HJ.out.2.size)⟩
        clear hwf
        go_wp2_with fail
        go_roundw
        case rel => exact ⟨j + 1, by go_num, by have := HJ2.out.1; omega, HJ3⟩
        case measure => have := HJ2.out.1; simp [intOf]; omega
    · have hje : j = 2 := by omega
      subst hje
      have hres : markedL b = none := by
        unfold markedL
        have h0 := HJ.out.1 0 (by omega)
        have h1 := HJ.out.1 1 (by omega)
        rw [if_neg h0, if_neg h1]
      have hfin : markedV (markedL b) = .tuple #[.int .u64 0, .int .i64 0, .bool false] := by rw [hres]; rfl
      have HFIN := Lib.hid hfin
      clear hres hfin hlt hj
      go_wp2_with fail
      go_ret3
      rw [HFIN.out]
      exact ⟨rfl, HW.out.1.trans (HJ.out.2.mono HW.out.1.size)⟩
end Go.Proofs.YtiaaeniopjpfpaaGreatDoor

namespace Go.Proofs.YtiaaeniopjpfpaaGreatDoor
open Go.RowKit Go.Maps
set_option linter.unusedVariables false
set_option linter.unusedSimpArgs false

/-- What a log knows beside its disk. -/
structure LG where
  num : Nat
  half : Nat
  count : Nat
  used : Nat
  err : Int
def LG.cells (p : Nat) (g : LG) : List Value := [.pointer (some ⟨p, 0, none⟩), .int .u64 (g.num : Nat), .int .i64 (g.half : Nat), .int .i64 (g.count : Nat), .int .i64 (g.used : Nat), .int .i64 g.err]
/-- The sectors of a half. -/
def secs (D : DS) : Nat := (D.lasts.length - 2) / 2
section
variable {L : Nat → Prop} {w : World} {lp p gl gm : Nat} {hv : Value} {Dm : DataW Unit} {D : DS} {g : LG}
set_option maxRecDepth 4000 in
theorem sectors_any (hr : Row w lp 83 (g.cells p)) (hd : DiskAt L w p gl gm hv Dm D) :
    Calls Tryz.prog 82 #[.pointer (some ⟨lp, 0, none⟩)] w fun e w' => e = .returned (.int .i64 (secs D : Nat)) ∧ w = w' := by
  have c0 := hr.cell 0
  simp only [LG.cells, List.getElem?_cons_zero] at c0
  have HS := Lib.hid (Sectors_any hd)
  have h16 := hd.good.least
  have h4096 := hd.good.most
  obtain ⟨n, hn⟩ : ∃ n, D.lasts.length = n := ⟨_, rfl⟩
  have hsec : secs D = (n - 2) / 2 := by unfold secs; rw [hn]
  rw [hn] at HS h16 h4096
  rw [hsec]
  have hnI : (16 : Int) ≤ (n : Int) := by omega
  have hn4 : (n : Int) ≤ 4096 := by omega
  have hmx : max ((n : Int) - 2) 0 = (n : Int) - 2 := by omega
  have hdv : (((n - 2) / 2 : Nat) : Int) = ((n : Int) - 2) / 2 := by omega
  have HDV := Lib.hid hdv
  clear hr hd hn hsec hdv h16 h4096
  go_enter Tryz.func82, Tryz.ntmps82
  go_wp2_with fail
  refine HS.out.mono ?_
  rintro e w1 ⟨rfl, rfl⟩
  go_wp2
  go_ret
  rw [HDV.out]
  exact ⟨rfl, rfl⟩
theorem secs_le (hd : DiskAt L w p gl gm hv Dm D) : secs D ≤ 2047 ∧ 7 ≤ secs D := by
  have h16 := hd.good.least
  have h4096 := hd.good.most
  unfold secs
  omega
set_option maxRecDepth 4000 in
theorem first_any (hr : Row w lp 83 (g.cells p)) (hd : DiskAt L w p gl gm hv Dm D) (half : Nat) (hh : half ≤ 1) :
    Calls Tryz.prog 83 #[.pointer (some ⟨lp, 0, none⟩), .int .i64 (half : Nat)] w fun e w' => e = .returned (.int .i64 ((2 + half * secs D : Nat) : Int)) ∧ w = w' := by
  have HS := Lib.hid (sectors_any hr hd)
  have hle := secs_le hd
  obtain ⟨n, hn⟩ : ∃ n, secs D = n := ⟨_, rfl⟩
  rw [hn] at HS hle ⊢
  have hnI : (n : Int) ≤ 2047 := by omega
  clear hr hd hn hle
  rcases (by omega : half = 0 ∨ half = 1) with rfl | rfl
  · go_enter Tryz.func83, Tryz.ntmps83
    go_wp2_with fail
    refine HS.out.mono ?_
    rintro e w1 ⟨rfl, rfl⟩
    go_wp2
    go_ret
    exact ⟨ret_int (by omega), rfl⟩
  · go_enter Tryz.func83, Tryz.ntmps83
    go_wp2_with fail
    refine HS.out.mono ?_
    rintro e w1 ⟨rfl, rfl⟩
    go_wp2
    go_ret
    exact ⟨ret_int (by omega), rfl⟩
set_option maxRecDepth 4000 in
theorem size_any (hr : Row w lp 83 (g.cells p)) (hd : DiskAt L w p gl gm hv Dm D) :
    Calls Tryz.prog 45 #[.pointer (some ⟨lp, 0, none⟩)] w fun e w' => e = .returned (.int .i64 ((secs D * 128 : Nat) : Int)) ∧ w = w' := by
  have HS := Lib.hid (sectors_any hr hd)
  have hle := secs_le hd
  obtain ⟨n, hn⟩ : ∃ n, secs D = n := ⟨_, rfl⟩
  rw [hn] at HS hle ⊢
  have hnI : (n : Int) ≤ 2047 := by omega
  clear hr hd hn hle
  go_enter Tryz.func45, Tryz.ntmps45
  go_wp2_with fail
  refine HS.out.mono ?_
  rintro e w1 ⟨rfl, rfl⟩
  go_wp2
  go_ret
  exact ⟨ret_int (by omega), rfl⟩
set_option maxRecDepth 4000 in
theorem Left_any (hr : Row w lp 83 (g.cells p)) (hd : DiskAt L w p gl gm hv Dm D) (hu : g.used ≤ secs D * 128) :
    Calls Tryz.prog 20 #[.pointer (some ⟨lp, 0, none⟩)] w fun e w' => e = .returned (.int .i64 ((secs D * 128 - g.used : Nat) : Int)) ∧ Below w.heap.size w w' := by
  have HS : Hid (∀ W, SB w W → Calls Tryz.prog 45 #[.pointer (some ⟨lp, 0, none⟩)] W fun e w' => e = .returned (.int .i64 ((secs D * 128 : Nat) : Int)) ∧ W = w') := Lib.hid fun W h => size_any (h.row hr) (hd.below h)
  have HU : Hid (∀ W, SB w W → W.cell? ⟨lp, 4, none⟩ = some (.int .i64 (g.used : Nat))) := Lib.hid fun W h => by
    have c4 := (h.row hr).cell 4
    simp only [LG.cells, List.getElem?_cons_zero, List.getElem?_cons_succ] at c4
    exact c4
  have hle := secs_le hd
  obtain ⟨n, hn⟩ : ∃ n, secs D * 128 = n := ⟨_, rfl⟩
  obtain ⟨u, hu2⟩ : ∃ u, g.used = u := ⟨_, rfl⟩
  rw [hu2] at HU
  rw [hn, hu2] at hu ⊢
  rw [hn] at HS
  have hnI : (n : Int) ≤ 1000000 := by omega
  have huI : (u : Int) ≤ (n : Int) := by omega
  have hcast : ((n - u : Nat) : Int) = (n : Int) - (u : Int) := by omega
  rw [hcast]
  clear hr hd hn hle hu2 hcast
  go_enter Tryz.func20, Tryz.ntmps20
  go_wp2_with fail
  refine region_quiet_lit (fun W => Below w.heap.size w W) (by kernel_rfl) (by kernel_rfl) ⟨rfl, rfl, rfl, Nat.le_refl _, fun _ _ => rfl⟩ ?_
  refine wpQ_yields (.pointer (some ⟨lp, 0, none⟩)) (Or.inl ⟨by rfl, fun W' hS => ?yq1⟩) ?_
  case yq1 =>
    go_simp
  try simp only [Act.put, List.setIfInBounds_toArray, List.set_cons_zero, List.set_cons_succ]
  refine wpQ_call (.int .i64 (n : Nat)) 45 #[.pointer (some ⟨lp, 0, none⟩)] (by rfl) (fun W' => ?yq2) (fun W' hS => ?yr2) ?_
  case yq2 =>
    go_simp
  case yr2 =>
    refine (HS.out W' hS).mono ?_
    rintro e wy ⟨rfl, rfl⟩
    exact ⟨rfl, hS⟩
  try simp only [Act.put, List.setIfInBounds_toArray, List.set_cons_zero, List.set_cons_succ]
  refine wpQ_yields (.pointer (some ⟨lp, 0, none⟩)) (Or.inl ⟨by rfl, fun W' hS => ?yq3⟩) ?_
  case yq3 =>
    go_simp
  try simp only [Act.put, List.setIfInBounds_toArray, List.set_cons_zero, List.set_cons_succ]
  refine wpQ_yields (.pointer (some ⟨lp, 0, none⟩)) (Or.inl ⟨by rfl, fun W' hS => ?yq4⟩) ?_
  case yq4 =>
    go_simp
  try simp only [Act.put, List.setIfInBounds_toArray, List.set_cons_zero, List.set_cons_succ]
  refine wpQ_yields (.pointer (some ⟨lp, 4, none⟩)) (Or.inl ⟨by rfl, fun W' hS => ?yq5⟩) ?_
  case yq5 =>
    go_simp
  try simp only [Act.put, List.setIfInBounds_toArray, List.set_cons_zero, List.set_cons_succ]
  refine wpQ_yields (.int .i64 (u : Nat)) (Or.inl ⟨by rfl, fun W' hS => ?yq6⟩) ?_
  case yq6 =>
    have q0 := HU.out W' hS
    go_simp
  try simp only [Act.put, List.setIfInBounds_toArray, List.set_cons_zero, List.set_cons_succ]
  refine wpQ_yields (.int .i64 ((n : Int) - (u : Int))) (Or.inl ⟨by rfl, fun W' hS => ?yq7⟩) ?_
  case yq7 =>
    go_simp
    rw [IntKind.wrap_i64]
    omega
  try simp only [Act.put, List.setIfInBounds_toArray, List.set_cons_zero, List.set_cons_succ]
  refine wpQ_yields (.int .i64 ((n : Int) - (u : Int))) (Or.inl ⟨by rfl, fun W' hS => ?yq8⟩) ?_
  case yq8 =>
    go_simp
  try simp only [Act.put, List.setIfInBounds_toArray, List.set_cons_zero, List.set_cons_succ]
  refine wpQuiet_nil ?_
  intro wf hwf
  go_wp2_with fail
  go_ret
  exact ⟨rfl, hwf⟩
set_option maxRecDepth 4000 in
theorem Count_any (hr : Row w lp 83 (g.cells p)) :
    Calls Tryz.prog 19 #[.pointer (some ⟨lp, 0, none⟩)] w fun e w' => e = .returned (.int .i64 (g.count : Nat)) ∧ w = w' := by
  have c3 := hr.cell 3
  simp only [LG.cells, List.getElem?_cons_zero, List.getElem?_cons_succ] at c3
  clear hr
  go_enter Tryz.func19, Tryz.ntmps19
  go_wp2
  go_ret
  exact ⟨rfl, rfl⟩
set_option maxRecDepth 4000 in
theorem Err_any (hr : Row w lp 83 (g.cells p)) :
    Calls Tryz.prog 18 #[.pointer (some ⟨lp, 0, none⟩)] w fun e w' => e = .returned (.int .i64 g.err) ∧ w = w' := by
  have c5 := hr.cell 5
  simp only [LG.cells, List.getElem?_cons_zero, List.getElem?_cons_succ] at c5
  clear hr
  go_enter Tryz.func18, Tryz.ntmps18
  go_wp2
  go_ret
  exact ⟨rfl, rfl⟩
theorem Count_nil : Calls Tryz.prog 19 #[.pointer none] w fun e w' => e = .returned (.int .i64 0) ∧ w = w' := by
  go_enter Tryz.func19, Tryz.ntmps19
  go_wp2
  go_ret
  exact ⟨rfl, rfl⟩
theorem Left_nil : Calls Tryz.prog 20 #[.pointer none] w fun e w' => e = .returned (.int .i64 0) ∧ w = w' := by
  go_enter Tryz.func20, Tryz.ntmps20
  go_wp2
  go_ret
  exact ⟨rfl, rfl⟩
theorem Err_nil : Calls Tryz.prog 18 #[.pointer none] w fun e w' => e = .returned (.int .i64 1) ∧ w = w' := by
  go_enter Tryz.func18, Tryz.ntmps18
  go_wp2
  go_ret
  exact ⟨rfl, rfl⟩
end
end Go.Proofs.YtiaaeniopjpfpaaGreatDoor

namespace Go.Proofs.YtiaaeniopjpfpaaGreatDoor
open Go.RowKit Go.Maps
set_option linter.unusedVariables false
set_option linter.unusedSimpArgs false

def LG.pick (g : LG) (b : List UInt8) : LG := match markedL b with
  | none => g
  | some x => if g.num ≤ x.1 then { g with num := x.1, half := x.2 } else g
def LG.picks (g : LG) (D : DS) : Nat → LG
  | 0 => g
  | j + 1 => (g.picks D j).pick (D.read (j : Nat))
theorem markedL_bounds {b : List UInt8} (hb : b.length = 128) {x : Nat × Nat} (h : markedL b = some x) : x.1 < 18446744073709551616 ∧ x.2 ≤ 1 := by
  have hm := markNum_lt b hb
  unfold markedL at h
  split at h
  · cases h; exact ⟨hm, by omega⟩
  · split at h
    · cases h; exact ⟨hm, by omega⟩
    · cases h
structure LG.ok (g : LG) : Prop where
  num : g.num < 18446744073709551616
  half : g.half ≤ 1
theorem pick_ok {g : LG} (h : g.ok) {b : List UInt8} (hb : b.length = 128) : (g.pick b).ok := by
  unfold LG.pick
  split
  · exact h
  · rename_i x hx
    have hb := markedL_bounds hb hx
    split
    · exact ⟨hb.1, hb.2⟩
    · exact h
theorem fault_low {D : DS} (hD : D.ok) (hd : D.down = false) (j : Nat) (hj : j < 16) : D.fault (j : Nat) = 0 := by
  have := hD.least
  unfold DS.fault
  rw [hd]
  simp only [Bool.false_eq_true, if_false]
  rw [if_pos ⟨by omega, by omega⟩]
theorem readB_len {D : DS} (hD : D.ok) (hd : D.down = false) (j : Nat) (hj : j < D.lasts.length) : (D.read (j : Nat)).length = 128 := by
  unfold DS.read
  split
  · unfold DS.blk
    split
    · rename_i i hi
      have hl := lastAt_lt hi
      rw [List.getD_eq_getElem?_getD, List.getElem?_eq_getElem hl]
      exact hD.blks _ (List.getElem_mem hl)
    · rw [Int.toNat_natCast]
      exact getD_len hD.rows hj
  · simp [z128]
theorem G.keeps {M : Nat → Prop} {w w' : World} (h : G w) (hk : Keeps M w w') (hM : M 0) : G w' := by
  have hl := Starts.lt h
  obtain ⟨t, fr, h⟩ := h
  exact ⟨t, fr, (hk.block _ hl hM).trans h⟩
section
variable {L : Nat → Prop} {w : World} {lp p gl gm : Nat} {hv : Value} {Dm : DataW Unit} {D : DS} {g : LG}
set_option maxRecDepth 20000 in
set_option maxHeartbeats 2000000 in
theorem choose_any (hG : G w) (hgs : 0 ≠ lp) (hr : Row w lp 83 (g.cells p)) (hd : DiskIs (fun k => k = lp) w p D) (hdn : D.down = false) (hg : g.ok) :
    Calls Tryz.prog 42 #[.pointer (some ⟨lp, 0, none⟩)] w fun e w' => e = .returned (.int .i64 0) ∧ Row w' lp 83 ((g.picks D 2).cells p) ∧ Keeps (fun k => k ≠ lp) w w' := by
  have hz := (zero_of_info zB_info).1
  obtain ⟨gl0, gm0, hv0, Dm0, hd0⟩ := id hd
  have hgood := hd0.good
  have HD := Lib.hid (And.intro hd (And.intro hgood (And.intro hdn (And.intro hG hgs))))
  have HR0 : Hid (Row w lp 83 ((g.picks D 0).cells p) ∧ Keeps (fun k => k ≠ lp) w w ∧ (g.picks D 0).ok) := Lib.hid ⟨hr, Keeps.refl _ _, hg⟩
  obtain ⟨Z, hZ⟩ : ∃ Z, zB = Z := ⟨_, rfl⟩
  have hZl : Z.length = 128 := by rw [← hZ]; exact zB_len
  rw [hZ] at hz
  have HZ := Lib.hid hZl
  clear hr hd hd0 hgood hdn hG hgs hg hZ hZl
  go_enter Tryz.func42, Tryz.ntmps42
  go_wp2_with fail
  go_loopw [9] (fun i wr => ∃ j : Nat, i = .int .i64 j ∧ j ≤ 2 ∧ Hid (Row wr lp 83 ((g.picks D j).cells p) ∧ Keeps (fun k => k ≠ lp) w wr ∧ (g.picks D j).ok)) (fun i _ => 2 - (intOf i).toNat)
  case atStart => exact ⟨0, rfl, by omega, HR0⟩
  case round =>
    obtain ⟨j, rfl, hj, HJ⟩ := hrel
    by_cases hlt : j < 2
    · have hltI : (j : Int) < 2 := by omega
      obtain ⟨gj, hgj⟩ : ∃ gj, g.picks D j = gj := ⟨_, rfl⟩
      rw [hgj] at HJ
      have hnext : g.picks D (j + 1) = gj.pick (D.read (j : Nat)) := by rw [← hgj]; rfl
      have c0 := HJ.out.1.cell 0
      simp only [LG.cells, List.getElem?_cons_zero] at c0
      have hdw : DiskIs (fun k => k = lp) wr p D := HD.out.1.keeps HJ.out.2.1 (fun q _ h2 => h2)
      obtain ⟨gl1, gm1, hv1, Dm1, hd1⟩ := hdw
      have hf := fault_low HD.out.2.1 HD.out.2.2.1 j (by omega)
      have hbl := readB_len HD.out.2.1 HD.out.2.2.1 j (by have := HD.out.2.1.least; omega)
      obtain ⟨B, hB⟩ : ∃ B, D.read (j : Nat) = B := ⟨_, rfl⟩
      have hRD := Read_any hd1 (j : Nat)
      rw [hf, hB] at hRD
      rw [hB] at hbl hnext
      obtain ⟨C, hC⟩ : ∃ C, B.map bv = C := ⟨_, rfl⟩
      have hV : blkV B = .agg C.toArray := by unfold blkV; rw [hC]
      rw [hV] at hRD
      have HRD := Lib.hid hRD
      have hsz := blk_sizeK B hbl
      have hone := blkV_one B
      rw [hC] at hsz hone
      have hCl : C.length = 128 := by rw [← hC, List.length_map, hbl]
      have HC := Lib.hid (And.intro hsz (And.intro hone hCl))
      have HMK : Hid (∀ W, G W → Calls Tryz.prog 81 #[.agg C.toArray] W fun e w' => e = .returned (markedV (markedL B)) ∧ Below W.heap.size W w') := Lib.hid fun W hg2 => by
        have h := marked_any B hbl W hg2
        rw [hV] at h
        exact h
      have HGW : Hid (G wr) := Lib.hid (HD.out.2.2.2.1.keeps HJ.out.2.1 HD.out.2.2.2.2)
      have HNX := Lib.hid (And.intro hnext (And.intro hlt hbl))
      have HNEW : Hid (∀ W : World, Row (W.alloc (.cells Z.toArray 90)) W.heap.size 90 Z ∧ Below W.heap.size W ((W.alloc (.cells Z.toArray 90)).setRow W.heap.size C.toArray) ∧ Row ((W.alloc (.cells Z.toArray 90)).setRow W.heap.size C.toArray) W.heap.size 90 C) := Lib.hid fun W =>
        ⟨Row.new W 90 Z, below_setRow (B := W.heap.size) ((Below.refl W.heap.size W).alloc (Nat.le_refl _) _) (Nat.le_refl _) _, (Row.new W 90 Z).put _⟩
      clear hgj hnext hd1 hf hbl hB hRD hC hV hsz hone hCl hlt hj
      go_wp2_with fail
      refine HRD.out.mono ?_
      rintro e w2 ⟨rfl, hb2⟩
      have HB2 := Lib.hid hb2
      clear hb2
      go_wp2_with (first
        | (refine wpList_store_row rfl 90 (.tmp 4) (.tmp 19) rfl w2.heap.size C.toArray rfl rfl 90 Z.toArray (HNEW.out w2).1 (by rw [List.size_toArray]; exact HC.out.1) (by rw [List.size_toArray, List.size_toArray, HZ.out, HC.out.2.2]) HC.out.2.1 ?_; have hN := (HNEW.out w2).2; generalize (w2.alloc (.cells Z.toArray 90)).setRow w2.heap.size C.toArray = w3 at hN ⊢; have HN := Lib.hid (And.intro (HB2.out.trans (hN.1.mono HB2.out.size)) hN.2); have HRG : Hid (w3.rangeAt w2.heap.size 0 C) := Lib.hid (fun k v hk => by rw [Nat.zero_add, HN.out.2.cell]; exact hk); clear hN)
        | (with_reducible refine wpList_load_mid rfl 90 (.tmp 4) rfl w2.heap.size 0 rfl C _ HRG.out Tryz.underlying90 rfl HC.out.1 ?_)
        | fail)
      refine (HMK.out _ (HGW.out.below HN.out.1)).mono ?_
      rintro e w4 ⟨rfl, hb4⟩
      have HB4 := Lib.hid (HN.out.1.trans (hb4.mono HN.out.1.size))
      clear hb4
      have r4 := HJ.out.1.below HB4.out HJ.out.1.lt
      have k4 := HJ.out.2.1.trans (Keeps.of_below (L := fun k => k ≠ lp) HB4.out (fun k hk _ => hk))
      obtain ⟨gn, hgn⟩ : ∃ gn, gj.num = gn := ⟨_, rfl⟩
      have c1 := r4.cell 1
      have c2 := r4.cell 2
      have f1 := r4.frozen 1
      have f2 := r4.frozen 2
      simp only [LG.cells, List.getElem?_cons_zero, List.getElem?_cons_succ] at c1 c2
      rw [hgn] at c1
      have H4 := Lib.hid (And.intro r4 (And.intro k4 hgn))
      clear r4 k4 hgn
      cases hml : markedL B with
      | none =>
        have HFIN : Hid (Row w4 lp 83 ((g.picks D (j + 1)).cells p) ∧ Keeps (fun k => k ≠ lp) w w4 ∧ (g.picks D (j + 1)).ok) := Lib.hid (by
          have e : g.picks D (j + 1) = gj := by rw [HNX.out.1]; unfold LG.pick; rw [hml]
          rw [e]
          exact ⟨H4.out.1, H4.out.2.1, HJ.out.2.2⟩)
        rw [show markedV none = .tuple #[.int .u64 0, .int .i64 0, .bool false] from rfl]
        clear hml
        go_wp2_with fail
        go_roundw
        case rel => exact ⟨j + 1, by go_num, by have := HNX.out.2.1; omega, HFIN⟩
        case measure => have := HNX.out.2.1; simp [intOf]; omega
      | some x =>
        obtain ⟨xn, xh⟩ := x
        rw [show markedV (some (xn, xh)) = .tuple #[.int .u64 (xn : Nat), .int .i64 (xh : Nat), .bool true] from rfl]
        by_cases hge : gn ≤ xn
        · have HFIN : Hid (∀ W : World, W = (w4.setCell ⟨lp, 1, none⟩ (.int .u64 (xn : Nat))).setCell ⟨lp, 2, none⟩ (.int .i64 (xh : Nat)) → Row W lp 83 ((g.picks D (j + 1)).cells p) ∧ Keeps (fun k => k ≠ lp) w W ∧ (g.picks D (j + 1)).ok) := Lib.hid fun W hW => by
            have e : g.picks D (j + 1) = { gj with num := xn, half := xh } := by rw [HNX.out.1]; unfold LG.pick; rw [hml]; simp only []; rw [if_pos (by rw [H4.out.2.2]; exact hge)]
            have hok := pick_ok HJ.out.2.2 HNX.out.2.2
            rw [← HNX.out.1] at hok
            rw [e] at hok ⊢
            subst hW
            refine ⟨?_, (H4.out.2.1.setCell (p := ⟨lp, 1, none⟩) (.inl (fun h => h rfl)) _).setCell (p := ⟨lp, 2, none⟩) (.inl (fun h => h rfl)) _, hok⟩
            have h := (H4.out.1.set 1 (.int .u64 (xn : Nat))).set 2 (.int .i64 (xh : Nat))
            simpa [LG.cells] using h
          have hgeI : (gn : Int) ≤ (xn : Int) := by omega
          clear hml hge
          go_wp2_with fail
          go_roundw
          case rel => exact ⟨j + 1, by go_num, by have := HNX.out.2.1; omega, Lib.hid (HFIN.out _ rfl)⟩
          case measure => have := HNX.out.2.1; simp [intOf]; omega
        · have HFIN : Hid (Row w4 lp 83 ((g.picks D (j + 1)).cells p) ∧ Keeps (fun k => k ≠ lp) w w4 ∧ (g.picks D (j + 1)).ok) := Lib.hid (by
            have e : g.picks D (j + 1) = gj := by rw [HNX.out.1]; unfold LG.pick; rw [hml]; simp only []; rw [if_neg (by rw [H4.out.2.2]; exact hge)]
            rw [e]
            exact ⟨H4.out.1, H4.out.2.1, HJ.out.2.2⟩)
          have hgeI : ¬ (gn : Int) ≤ (xn : Int) := by omega
          clear hml hge
          go_wp2_with fail
          go_roundw
          case rel => exact ⟨j + 1, by go_num, by have := HNX.out.2.1; omega, HFIN⟩
          case measure => have := HNX.out.2.1; simp [intOf]; omega
    · have hje : j = 2 := by omega
      subst hje
      clear hlt hj
      go_wp2_with fail
      go_ret
      exact ⟨rfl, HJ.out.1, HJ.out.2.1⟩
end
end Go.Proofs.YtiaaeniopjpfpaaGreatDoor

namespace Go.Proofs.YtiaaeniopjpfpaaGreatDoor
open Go.RowKit Go.Maps
set_option linter.unusedVariables false
set_option linter.unusedSimpArgs false

/-- A text laid over a row, as much of it as goes. -/
theorem copy_row_min {P : Program} {W : World} (dT sT ty elem : TypeId) (g o dLen dCap n : Nat) (s : ByteArray) (cur : List Value) (t : TypeId)
    (hu : P.underlying dT = some (.slice elem)) (hs : (P.info? elem).map (·.size) = some 1) (h : Row W g t cur) (hn : Nat.min s.size dLen = n) (hfit : o + n ≤ cur.length) :
    (Builtin.copy_ #[dT, sT] ty #[.slice (some ⟨g, o, none⟩) dLen dCap, .string s]).run P W = .ok (goInt n) (W.setRow g (over cur o (s.data.toList.take n)).toArray) := by
  have hns : n ≤ s.size := by rw [← hn]; exact Nat.min_le_left _ _
  have hlen : (Lib.byteCells (s.data.toList.take n)).length = n := by rw [Lib.byteCells_length, List.length_take]; simp; omega
  have hst := run_storeCells_at P g o t (Lib.byteCells (s.data.toList.take n)) 0 cur.toArray W h (by rw [hlen]; simpa using hfit) (Lib.byteCells_one _)
  have htk : List.take n (List.map (fun b : UInt8 => Value.int IntKind.u8 (b.toNat : Int)) s.data.toList) = Lib.byteCells (s.data.toList.take n) := by
    rw [← List.map_take]
    rfl
  rw [hlen] at hst
  simp only [Nat.add_zero] at hst
  have hov : over cur o (s.data.toList.take n) = cur.take o ++ Lib.byteCells (s.data.toList.take n) ++ cur.drop (o + n) := by
    unfold over
    rw [List.length_take, show min n s.data.toList.length = n by simp; omega]
    rfl
  cases hq : P.info? elem with
  | none => simp [hq] at hs
  | some i =>
    have h1 : i.size = 1 := by simpa [hq] using hs
    simp [Builtin.copy_, run_underlying hu, Builtin.lenOf, Builtin.firstCells, sizeOf, typeInfo, hq, hn, h1]
    rw [htk, hst, hov]
    simp [Result.andThen]

def pad128 (l : List UInt8) : List UInt8 := l.take 128 ++ List.replicate (128 - l.length) 0
theorem pad128_length (l : List UInt8) : (pad128 l).length = 128 := by
  unfold pad128
  rw [List.length_append, List.length_take, List.length_replicate]
  omega
/-- The pieces of l written from a sector on, n of them at most, and a sync: the disk behind it, the error. -/
def putG : Nat → DS → Nat → List UInt8 → DS × Int
  | 0, D, _, _ => (D.synced, D.stepErr)
  | n + 1, D, a, l => if l = [] then (D.synced, D.stepErr) else if D.writeErr (a : Nat) ≠ 0 then (D.written (a : Nat) (pad128 l), D.writeErr (a : Nat)) else putG n (D.written (a : Nat) (pad128 l)) (a + 1) (l.drop 128)
theorem putG_nil (n : Nat) (D : DS) (a : Nat) : putG n D a [] = (D.synced, D.stepErr) := by
  cases n with
  | zero => rfl
  | succ n => unfold putG; rw [if_pos rfl]
section
variable {L : Nat → Prop} {w : World} {lp p gl gm : Nat} {hv : Value} {Dm : DataW Unit} {D : DS} {g : LG}
/-- The length of a text, for a measure. -/
def strLen : Value → Nat
  | .string b => b.size
  | _ => 0
/-- The loop of the pieces. -/
structure PuR (L : Nat → Prop) (w : World) (lp p : Nat) (g : LG) (T : DS × Int) (s0 : Nat) (wr : World) (n a : Nat) (l : List UInt8) (D : DS) : Prop where
  disk : DiskIs L wr p D
  keep : Keeps L w wr
  tgt : putG n D a l = T
  len : l.length ≤ n * 128
  steps : D.steps + n ≤ s0
  hangs : D.hangs.length + n ≤ s0
  at4 : a + n ≤ 100000
theorem writ_count (D : DS) (k : Int) (b : List UInt8) : (D.written k b).steps ≤ D.steps + 1 ∧ (D.written k b).hangs.length ≤ D.hangs.length + 1 := by
  have h2 := (stepped_same D).2
  have h1 : D.stepped.steps ≤ D.steps + 1 := by
    unfold DS.stepped
    split
    · exact Nat.le_succ _
    · split
      · exact Nat.le_succ _
      · exact Nat.le_refl _
  unfold DS.written
  split
  · exact ⟨Nat.le_succ _, Nat.le_succ _⟩
  · split
    · exact ⟨h1, by simp⟩
    · exact ⟨h1, by rw [h2]; exact Nat.le_succ _⟩

set_option maxRecDepth 20000 in
set_option maxHeartbeats 2000000 in
/-- The loop, from its beginning, as the walk of put meets it. -/
theorem put_any (hL : ∀ k, L k → k < w.heap.size) (hlp : L lp) (hr : Row w lp 83 (g.cells p)) (hd : DiskIs L w p D) (half place n : Nat) (hh : half ≤ 1) (hpl : place ≤ 1000000) (bs : List UInt8) (hn : bs.length + 128 ≤ n * 128) (hn2 : n ≤ 90000)
    (hs : D.steps ≤ 1000000) (hhg : D.hangs.length ≤ 1000000) :
    Calls Tryz.prog 52 #[.pointer (some ⟨lp, 0, none⟩), .int .i64 (half : Nat), .int .i64 (place : Nat), .string (tx bs)] w fun e w' =>
      e = .returned (.int .i64 (if D.fault ((2 + half * secs D + place / 128 : Nat) : Int) ≠ 0 then (D, D.fault ((2 + half * secs D + place / 128 : Nat) : Int)) else putG n D (2 + half * secs D + place / 128) ((D.read ((2 + half * secs D + place / 128 : Nat) : Int)).take (place % 128) ++ bs)).2) ∧
      DiskIs L w' p (if D.fault ((2 + half * secs D + place / 128 : Nat) : Int) ≠ 0 then (D, D.fault ((2 + half * secs D + place / 128 : Nat) : Int)) else putG n D (2 + half * secs D + place / 128) ((D.read ((2 + half * secs D + place / 128 : Nat) : Int)).take (place % 128) ++ bs)).1 ∧ Keeps L w w' := by
  obtain ⟨a0, ha0⟩ : ∃ a0, 2 + half * secs D + place / 128 = a0 := ⟨_, rfl⟩
  rw [ha0]
  obtain ⟨gl0, gm0, hv0, Dm0, hd0⟩ := id hd
  have hsec := secs_le hd0
  have hgood := hd0.good
  have ha1 : a0 ≤ 10000 := by
    rcases (by omega : half = 0 ∨ half = 1) with rfl | rfl <;> omega
  have HFI := Lib.hid (first_any hr hd0 half hh)
  obtain ⟨f1, hf1⟩ : ∃ f1, 2 + half * secs D = f1 := ⟨_, rfl⟩
  rw [hf1] at HFI ha0
  have hRD := Read_any hd0 (a0 : Nat)
  obtain ⟨F, hF⟩ : ∃ F, D.fault ((a0 : Nat) : Int) = F := ⟨_, rfl⟩
  rw [hF] at hRD ⊢
  obtain ⟨B, hB⟩ : ∃ B, D.read ((a0 : Nat) : Int) = B := ⟨_, rfl⟩
  have hBl : B.length = 128 := by
    rw [← hB]
    by_cases hz : D.fault ((a0 : Nat) : Int) = 0
    · obtain ⟨h1, _, h3⟩ := fault_zero hz
      exact readB_len hgood h1 a0 (by omega)
    · unfold DS.read; rw [if_neg hz]; simp [z128]
  have hBl2 := hBl
  rw [hB] at hRD ⊢
  obtain ⟨C, hC⟩ : ∃ C, B.map bv = C := ⟨_, rfl⟩
  have hV : blkV B = .agg C.toArray := by unfold blkV; rw [hC]
  rw [hV] at hRD
  have HRD := Lib.hid hRD
  have hsz := blk_sizeK B hBl
  have hone := blkV_one B
  rw [hC] at hsz hone
  have hCl : C.length = 128 := by rw [← hC, List.length_map, hBl]
  have c0 := hr.cell 0
  simp only [LG.cells, List.getElem?_cons_zero] at c0
  have hz := (zero_of_info zB_info).1
  obtain ⟨Z, hZ⟩ : ∃ Z, zB = Z := ⟨_, rfl⟩
  have hZl : Z.length = 128 := by rw [← hZ]; exact zB_len
  rw [hZ] at hz
  have HC0 := Lib.hid (And.intro hsz (And.intro hone (And.intro hCl (And.intro hZl (And.intro hZ hC)))))
  have hq : (place : Int) / 128 = ((place / 128 : Nat) : Int) := by omega
  have hm : (place : Int) % 128 = ((place % 128 : Nat) : Int) := by omega
  have HAA := Lib.hid (And.intro ha0 ha1)
  have HH := Lib.hid (And.intro hL (And.intro hlp (And.intro hr (And.intro hd hgood))))
  have HNN := Lib.hid (And.intro hn (And.intro hn2 (And.intro hs hhg)))
  have hplI : (place : Int) ≤ 1000000 := by omega
  have hf1I : (f1 : Int) ≤ 10000 := by omega
  obtain ⟨q1, hq1⟩ : ∃ q1, place / 128 = q1 := ⟨_, rfl⟩
  obtain ⟨m1, hm1⟩ : ∃ m1, place % 128 = m1 := ⟨_, rfl⟩
  rw [hq1] at hq HAA
  rw [hm1] at hm ⊢
  have hm128 : (m1 : Int) < 128 := by omega
  have hadd : (f1 : Int) + (q1 : Int) = (a0 : Int) := by have := HAA.out.1; omega
  have ha0I : (a0 : Int) ≤ 10000 := by have := HAA.out.2; omega
  clear hL hlp hr hd hd0 hsec hgood ha0 ha1 hf1 hRD hF hB hV hsz hone hCl hZ hZl hn hn2 hs hhg hh hC hBl hpl hq1 hm1
  obtain ⟨TT, hTT⟩ : ∃ TT : DS × Int, (if F ≠ 0 then (D, F) else putG n D a0 (B.take m1 ++ bs)) = TT := ⟨_, rfl⟩
  rw [hTT]
  have HTT := Lib.hid hTT
  clear hTT
  have HBL := Lib.hid hBl2
  clear hBl2
  go_enter Tryz.func52, Tryz.ntmps52
  go_wp2_with fail
  refine HFI.out.mono ?_
  rintro e w1 ⟨rfl, rfl⟩
  go_wp2_with fail
  refine HRD.out.mono ?_
  rintro e w2 ⟨rfl, hb2⟩
  have HB2 := Lib.hid hb2
  clear hb2
  have HNEW : Hid (Row (w2.alloc (.cells Z.toArray 90)) w2.heap.size 90 Z ∧ Below w2.heap.size w2 ((w2.alloc (.cells Z.toArray 90)).setRow w2.heap.size C.toArray) ∧ Row ((w2.alloc (.cells Z.toArray 90)).setRow w2.heap.size C.toArray) w2.heap.size 90 C) := Lib.hid
    ⟨Row.new w2 90 Z, below_setRow (B := w2.heap.size) ((Below.refl w2.heap.size w2).alloc (Nat.le_refl _) _) (Nat.le_refl _) _, (Row.new w2 90 Z).put _⟩
  by_cases hF0 : F = 0
  · have hT : putG n D a0 (B.take m1 ++ bs) = TT := by rw [← HTT.out, if_neg (by simp [hF0])]
    subst hF0
    obtain ⟨A1, hA1⟩ : ∃ A1, B.take m1 = A1 := ⟨_, rfl⟩
    have hA1l : A1.length = m1 := by rw [← hA1, List.length_take, HBL.out]; omega
    have HCV : Hid (∀ W, Row W w2.heap.size 90 C → (convert 87 9 (.slice (some ⟨w2.heap.size, 0, none⟩) m1 128)).run Tryz.prog W = .ok (.string (tx A1)) W) := Lib.hid fun W hW =>
      conv_bytes W 87 9 5 Tryz.underlying87 Tryz.underlying5 Tryz.underlying9 w2.heap.size 0 m1 128 A1 hA1l (fun i hi => by
        rw [hW.cell, Nat.zero_add, ← HC0.out.2.2.2.2.2, ← hA1, List.getElem?_map, List.getElem?_map, List.getElem?_take, if_pos hi])
    have hbsl : bs.length ≤ 100000000 := by have := HNN.out.1; have := HNN.out.2.1; omega
    have h1 : ∀ W, (Op.stringOp .add (tx A1) (tx bs)).run Tryz.prog W = .ok (.string (tx (A1 ++ bs))) W := fun W => add_tx A1 bs (by omega) W
    rw [hA1] at hT
    obtain ⟨l0, hl0⟩ : ∃ l0, A1 ++ bs = l0 := ⟨_, rfl⟩
    have hl0l : l0.length = m1 + bs.length := by rw [← hl0, List.length_append, hA1l]
    rw [hl0] at hT h1
    have HT := Lib.hid (And.intro hT hl0l)
    have hm0 : 0 ≤ (m1 : Int) := by omega
    have hm128' : (m1 : Int) ≤ 128 := by omega
    clear hm128
    clear hT hA1 hA1l hbsl hl0 hl0l
    go_wp2_with (first
      | (refine wpList_store_row rfl 90 (.tmp 10) (.tmp 29) rfl w2.heap.size C.toArray rfl rfl 90 Z.toArray HNEW.out.1 (by rw [List.size_toArray]; exact HC0.out.1) (by rw [List.size_toArray, List.size_toArray, HC0.out.2.2.2.1, HC0.out.2.2.1]) HC0.out.2.1 ?_; have hN := HNEW.out.2; generalize (w2.alloc (.cells Z.toArray 90)).setRow w2.heap.size C.toArray = w3 at hN ⊢; have HN := Lib.hid (HB2.out.trans (hN.1.mono HB2.out.size)); have hcv := HCV.out _ hN.2; clear hN)
      | fail)
    have HLP := Lib.hid (And.intro HH.out.1 HH.out.2.1)
    have hBsz := HN.out.size
    have HR0 : Hid (PuR L w lp p g TT 1200000 w3 n a0 l0 D) := Lib.hid
      ⟨HH.out.2.2.2.1.below HN.out, Keeps.of_below HN.out (fun k hk _ => hk), HT.out.1, by have := HT.out.2; have := HNN.out.1; omega, by have := HNN.out.2; omega, by have := HNN.out.2; omega, by have := HNN.out.2.1; omega⟩
    have hl0s : (tx l0).size ≤ 200000000 := by rw [tx_size]; have := HT.out.2; have := HNN.out; omega
    clear h1
    try rw [hm]
    clear hm hq hadd
    go_loopw [9, 12] (fun u s wr => ∃ (m a : Nat) (l : List UInt8) (D1 : DS), u = .int .i64 a ∧ s = .string (tx l) ∧ Hid (PuR L w lp p g TT 1200000 wr m a l D1)) (fun _ s _ => strLen s)
    case atStart => exact ⟨n, a0, l0, D, rfl, rfl, HR0⟩
    case round =>
      obtain ⟨m, a, l, D1, rfl, rfl, HJ⟩ := hrel
      have hdw := HJ.out.disk
      have hszw : ∀ k, L k → k < wr.heap.size := fun k hk => by have := HLP.out.1 k hk; have := HJ.out.keep.size; omega
      have rlp : Row wr lp 83 (g.cells p) := (HJ.out.keep.block lp HH.out.2.2.1.lt HLP.out.2).trans HH.out.2.2.1
      by_cases hl : l = []
      · subst hl
        have hTT : TT = (D1.synced, D1.stepErr) := by rw [← HJ.out.tgt, putG_nil]
        obtain ⟨gl1, gm1, hv1, Dm1, hd1⟩ := hdw
        have HSY := Lib.hid (Sync_any hszw hd1 (by have := HJ.out.steps; omega) (by have := HJ.out.hangs; omega))
        have c0 := rlp.cell 0
        simp only [LG.cells, List.getElem?_cons_zero] at c0
        have HTT2 := Lib.hid hTT
        have hse : tx ([] : List UInt8) = ⟨#[]⟩ := rfl
        rw [hse]
        clear hd1 rlp hTT hszw hse
        go_wp2_with fail
        refine HSY.out.mono ?_
        rintro e w5 ⟨rfl, hd5, hk5⟩
        have H5 := Lib.hid (And.intro hd5 hk5)
        clear hd5 hk5
        go_wp2_with fail
        go_ret
        rw [HTT2.out]
        exact ⟨rfl, H5.out.1, HJ.out.keep.trans H5.out.2⟩
      · obtain ⟨k', rfl⟩ : ∃ k', m = k' + 1 := ⟨m - 1, by have := HJ.out.len; have : l.length ≠ 0 := fun h => hl (List.eq_nil_of_length_eq_zero h); omega⟩
        have hnT : (tx l).toList.isEmpty = false := by
          rw [ByteArray.toList_eq, tx_list]
          cases l with
          | nil => exact absurd rfl hl
          | cons => rfl
        obtain ⟨k, hk⟩ : ∃ k, Nat.min l.length 128 = k := ⟨_, rfl⟩
        have hk1 : k ≤ 128 := by rw [← hk]; exact Nat.min_le_right _ _
        have hk2 : k ≤ l.length := by rw [← hk]; exact Nat.min_le_left _ _
        have hk3 : k = l.length ∨ k = 128 := by
          rw [← hk]
          rcases Nat.le_total l.length 128 with h | h
          · exact .inl (Nat.min_eq_left h)
          · exact .inr (Nat.min_eq_right h)
        have hlz : l.length ≠ 0 := fun h => hl (List.eq_nil_of_length_eq_zero h)
        obtain ⟨C1, hC1⟩ : ∃ C1, (pad128 l).map bv = C1 := ⟨_, rfl⟩
        have htk : l.take k = l.take 128 := by
          rcases hk3 with h | h
          · rw [h, List.take_of_length_le (Nat.le_refl _), List.take_of_length_le (by omega)]
          · rw [h]
        have hdk : l.drop k = l.drop 128 := by
          rcases hk3 with h | h
          · rw [h, List.drop_of_length_le (Nat.le_refl _), List.drop_of_length_le (by omega)]
          · rw [h]
        have hov : over Z 0 ((tx l).data.toList.take k) = C1 := by
          rw [tx_list, ← hC1, htk, ← HC0.out.2.2.2.2.1]
          unfold over pad128 zB
          rw [List.take_zero, List.nil_append, Nat.zero_add, List.map_append, List.drop_replicate, List.map_replicate, List.length_take]
          congr 2
          rcases hk3 with h | h <;> omega
        have hsz1 := blk_sizeK _ (pad128_length l)
        have hone1 := blkV_one (pad128 l)
        have hV1 : blkV (pad128 l) = .agg C1.toArray := by unfold blkV; rw [hC1]
        have hC1l : C1.length = 128 := by rw [← hC1, List.length_map, pad128_length]
        rw [hC1] at hsz1 hone1
        have rZ := Row.new wr 90 Z
        have hcp0 := fun ty => copy_row_min (P := Tryz.prog) 87 9 ty 5 wr.heap.size 0 128 128 k (tx l) Z 90 Tryz.underlying87 (by kernel_rfl) rZ (by rw [tx_size]; exact hk) (by rw [HC0.out.2.2.2.1]; omega)
        rw [hov] at hcp0
        have rC := rZ.put C1
        have hbw : Below wr.heap.size wr ((wr.alloc (.cells Z.toArray 90)).setRow wr.heap.size C1.toArray) := below_setRow (B := wr.heap.size) ((Below.refl wr.heap.size wr).alloc (Nat.le_refl _) _) (Nat.le_refl _) _
        obtain ⟨wb, hwb⟩ : ∃ wb, (wr.alloc (.cells Z.toArray 90)).setRow wr.heap.size C1.toArray = wb := ⟨_, rfl⟩
        rw [hwb] at rC hbw
        have hcp : ∀ ty, (Builtin.copy_ #[87, 9] ty #[.slice (some ⟨wr.heap.size, 0, none⟩) 128 128, .string (tx l)]).run Tryz.prog (wr.alloc (.cells Z.toArray 90)) = .ok (goInt k) wb := fun ty => by rw [hcp0 ty, hwb]
        have hszb : wr.heap.size < wb.heap.size := rC.lt
        obtain ⟨b, hb⟩ : ∃ b, wr.heap.size = b := ⟨_, rfl⟩
        have hbb := hb
        have rlb : Row wb.drew lp 83 (g.cells p) := Row.drew (rlp.below hbw rlp.lt)
        have hdD : DiskIs (fun q => L q ∨ q = wr.heap.size) wb.drew p D1 := ((hdw.more (fun q hq => by
          rcases hq with h | h
          · exact .inl h
          · exact .inr (by omega))).below hbw).below (below_drewK (Below.refl _ _) 1)
        have HDD := Lib.hid hdD
        obtain ⟨LC, HLC⟩ : ∃ LC, Hid (LC = g.cells p) := ⟨_, Lib.hid rfl⟩
        rw [← HLC.out] at rlb
        rw [hb] at rC hszb hdD hbw
        have HS0 : Hid (Row wb.drew lp 83 LC ∧ Row wb.drew b 90 C1) := Lib.hid ⟨rlb, rC.drew⟩
        have HWR : Hid (Calls Tryz.prog 88 #[.pointer (some ⟨p, 0, none⟩), .int .i64 (a : Nat), .agg C1.toArray] wb.drew fun e w' => e = .returned (.int .i64 (D1.writeErr (a : Nat))) ∧ DiskIs (fun q => L q ∨ q = b) w' p (D1.written (a : Nat) (pad128 l)) ∧ Keeps (fun q => L q ∨ q = b) wb.drew w') := Lib.hid (by
          obtain ⟨gl1, gm1, hv1, Dm1, hd1⟩ := hdD
          have h := Write_any (fun q hq => ?_) hd1 (a : Nat) (pad128 l) (pad128_length l) (by have := HJ.out.steps; omega) (by have := HJ.out.hangs; omega)
          · rw [hV1] at h
            exact h
          · show q < wb.heap.size
            rcases hq with h | h
            · have := hszw q h; omega
            · omega)
        have HC := Lib.hid (And.intro hsz1 (And.intro hone1 hC1l))
        have HLL := Lib.hid (And.intro hk1 HLP.out.2)
        have hcut : (tx l).extract k l.length = tx (l.drop 128) := by rw [tx_cut l k l.length hk2 (Nat.le_refl _), List.take_of_length_le (Nat.le_refl _), hdk]
        have hlsz : (tx l).size = l.length := tx_size l
        obtain ⟨ln, hln⟩ : ∃ ln, l.length = ln := ⟨_, rfl⟩
        rw [hln] at hcut hlsz hk2
        have hkI : (k : Int) ≤ (ln : Int) := by omega
        have HPW := Lib.hid (And.intro hbw (And.intro hl (And.intro hln (And.intro hlz hbb))))
        obtain ⟨ER, hER⟩ : ∃ ER, D1.writeErr (a : Nat) = ER := ⟨_, rfl⟩
        rw [hER] at HWR
        have HER := Lib.hid hER
        have haI : (a : Int) ≤ 100000 := by have := HJ.out.at4; omega
        have hgo := HJ.out.tgt
        unfold putG at hgo
        rw [if_neg hl, hER] at hgo
        clear hdw hszw rlp hk hk2 hk3 hk1 hlz hC1 htk hdk hov hsz1 hone1 hV1 hC1l rZ hcp0 rC hwb hszb hbb rlb hdD hbw hl hER hln
        clear hb
        go_wp2_with fail
        rw [HPW.out.2.2.2.2]
        refine wp_region_noPanic ?_
        refine wp_region_held_drew (S := fun W => Row W lp 83 LC ∧ Row W b 90 C1) (by kernel_rfl) HS0.out (fun hHeld => ?_)
        refine wpAnyH_take (i := 0) (oi := { dst := some 47, op := Op.move (Operand.tmp 0), type := 30, pos := "log.go:194", after := #[], guard := none }) (v := ?vvw_0) rfl (by kernel_rfl) (by kernel_rfl) (by kernel_rfl) (fun _ _ _ h => h) (Or.inl ⟨by rfl, ?yyw_0⟩) hHeld ?_
        case vvw_0 => exact .pointer (some ⟨lp, 0, none⟩)
        case yyw_0 =>
          intro W hS
          go_simp
        try simp only [Act.put, List.setIfInBounds_toArray, List.set_cons_zero, List.set_cons_succ]
        refine wpAnyH_take (i := 1) (oi := { dst := some 48, op := Op.nilCheck (Operand.tmp 47), type := 0, pos := "log.go:194", after := #[{ on := 0, ground := Ground.data }], guard := none }) (v := ?vvw_1) rfl (by kernel_rfl) (by kernel_rfl) (by kernel_rfl) (fun _ _ _ h => h) (Or.inl ⟨by rfl, ?yyw_1⟩) hHeld ?_
        case vvw_1 => exact .pointer (some ⟨lp, 0, none⟩)
        case yyw_1 =>
          intro W hS
          go_simp
        try simp only [Act.put, List.setIfInBounds_toArray, List.set_cons_zero, List.set_cons_succ]
        refine wpAnyH_take (i := 2) (oi := { dst := some 49, op := Op.fieldAddr 83 (Operand.tmp 48) 0, type := 0, pos := "log.go:194", after := #[{ on := 1, ground := Ground.data }], guard := none }) (v := ?vvw_2) rfl (by kernel_rfl) (by kernel_rfl) (by kernel_rfl) (fun _ _ _ h => h) (Or.inl ⟨by rfl, ?yyw_2⟩) hHeld ?_
        case vvw_2 => exact .pointer (some ⟨lp, 0, none⟩)
        case yyw_2 =>
          intro W hS
          go_simp
        try simp only [Act.put, List.setIfInBounds_toArray, List.set_cons_zero, List.set_cons_succ]
        refine wpAnyH_take (i := 3) (oi := { dst := some 50, op := Op.load 24 (Operand.tmp 49), type := 24, pos := "log.go:194", after := #[{ on := 2, ground := Ground.data }], guard := none }) (v := ?vvw_3) rfl (by kernel_rfl) (by kernel_rfl) (by kernel_rfl) (fun _ _ _ h => h) (Or.inl ⟨by rfl, ?yyw_3⟩) hHeld ?_
        case vvw_3 => exact .pointer (some ⟨p, 0, none⟩)
        case yyw_3 =>
          intro W hS
          have q0 := Row.cell hS.1 0
          simp only [HLC.out, LG.cells, List.getElem?_cons_zero] at q0
          go_simp
        try simp only [Act.put, List.setIfInBounds_toArray, List.set_cons_zero, List.set_cons_succ]
        refine wpAnyH_take (i := 4) (oi := { dst := some 51, op := Op.move (Operand.tmp 9), type := 3, pos := "log.go:194", after := #[], guard := none }) (v := ?vvw_4) rfl (by kernel_rfl) (by kernel_rfl) (by kernel_rfl) (fun _ _ _ h => h) (Or.inl ⟨by rfl, ?yyw_4⟩) hHeld ?_
        case vvw_4 => exact .int .i64 a
        case yyw_4 =>
          intro W hS
          go_simp
        try simp only [Act.put, List.setIfInBounds_toArray, List.set_cons_zero, List.set_cons_succ]
        refine' wpAnyH_take (i := 5) (oi := { dst := some 52, op := Op.load 90 (Operand.tmp 13), type := 90, pos := "log.go:194", after := #[], guard := none }) (v := .agg C1.toArray) rfl (by kernel_rfl) (by kernel_rfl) (by kernel_rfl) (fun _ _ _ h => h) (yieldsIf_load_mid (by rfl) _ _ rfl b 0 rfl C1 _ (fun W h => (fun j v hj => by rw [Nat.zero_add, h.2.cell]; exact hj)) Tryz.underlying90 rfl HC.out.1) hHeld ?_
        try simp only [Act.put, List.setIfInBounds_toArray, List.set_cons_zero, List.set_cons_succ]
        refine wpAnyH_ready (rs := [6]) (by kernel_rfl) (by simp) (AllReadyH.cons (o := { dst := some 53, op := Op.call { callee := Callee.value (Operand.func 88), args := #[Operand.tmp 50, Operand.tmp 51, Operand.tmp 52], argTypes := #[24, 3, 90] }, type := 25, pos := "log.go:194", after := #[{ on := 3, ground := Ground.data }, { on := 4, ground := Ground.data }, { on := 5, ground := Ground.data }], guard := none }) rfl (fun K hK => ?_) AllReadyH.nil)
        go_simp
        go_at_call 88
        refine HWR.out.mono ?_
        rintro e w4 ⟨rfl, hd4, hk4⟩
        have s4 : Row w4 lp 83 LC ∧ Row w4 b 90 C1 := ⟨(hk4.block lp HS0.out.1.lt (.inl HLL.out.2)).trans HS0.out.1, (hk4.block b HS0.out.2.lt (.inr rfl)).trans HS0.out.2⟩
        have H4 := Lib.hid (And.intro hd4 (And.intro hk4 s4))
        refine hK.out _ _ s4 (fun hHeld => ?_)
        clear hK K hd4 hk4 s4
        try simp only [Act.put, List.setIfInBounds_toArray, List.set_cons_zero, List.set_cons_succ]
        refine wpAnyH_ready (rs := [7]) (by kernel_rfl) (by simp) (AllReadyH.cons (o := { dst := some 15, op := Op.assign (Operand.tmp 53), type := 25, pos := "log.go:194", after := #[{ on := 6, ground := Ground.data }, { on := 6, ground := Ground.chain }, { on := 0, ground := Ground.phase }, { on := 1, ground := Ground.phase }, { on := 2, ground := Ground.phase }, { on := 3, ground := Ground.phase }, { on := 4, ground := Ground.phase }, { on := 5, ground := Ground.phase }, { on := 6, ground := Ground.phase }], guard := none }) rfl (fun K hK => ?_) AllReadyH.nil)
        go_simp
        refine hK.out _ _ H4.out.2.2 (fun hHeld => ?_)
        clear hK K
        try simp only [Act.put, List.setIfInBounds_toArray, List.set_cons_zero, List.set_cons_succ]
        refine wpAnyH_done (by kernel_rfl) ?_ _
        refine NoPanic.normal ?_

        by_cases her : ER = 0
        · subst her
          rw [if_neg (by simp)] at hgo
          have HFIN : Hid (PuR L w lp p g TT 1200000 w4 k' (a + 1) (l.drop 128) (D1.written (a : Nat) (pad128 l))) := Lib.hid (by
            obtain ⟨hd4, hk4, _⟩ := H4.out
            have hw := writ_count D1 (a : Nat) (pad128 l)
            have hj := HJ.out
            have h1 := hj.steps
            have h2 := hj.hangs
            have h3 := hj.at4
            have h4 := hj.len
            exact ⟨hd4.less (fun q h => .inl h), (hj.keep.trans (Keeps.of_below HPW.out.1 (fun q hq hl2 => by have := HLP.out.1 q hl2; have := hj.keep.size; rw [← HPW.out.2.2.2.2]; omega))).trans ((Keeps.refl L wb).drew1.trans (hk4.mono (fun q h => .inl h))), hgo, by rw [List.length_drop]; omega, by omega, by omega, by omega⟩)
          clear hgo
          go_wp2_with fail
          go_roundw
          case rel => exact ⟨k', a + 1, l.drop 128, _, by go_num, rfl, HFIN⟩
          case measure =>
            have h1 := HPW.out.2.2.2.1
            show strLen (.string (tx (l.drop 128))) < strLen (.string (tx l))
            simp only [strLen, tx_size, List.length_drop]
            omega
        · rw [if_pos her] at hgo
          have HGO := Lib.hid hgo
          have herb : ((ER : Int) != 0) = true := by simpa using her
          clear hgo her
          go_wp2_with fail
          go_ret
          rw [← HGO.out]
          obtain ⟨hd4, hk4, _⟩ := H4.out
          exact ⟨rfl, hd4.less (fun q h => .inl h), (HJ.out.keep.trans (Keeps.of_below HPW.out.1 (fun q hq hl2 => by have := HLP.out.1 q hl2; have := HJ.out.keep.size; rw [← HPW.out.2.2.2.2]; omega))).trans ((Keeps.refl L wb).drew1.trans (hk4.mono (fun q h => .inl h)))⟩
  · have hT : TT = (D, F) := by rw [← HTT.out, if_pos hF0]
    have hFb : ((F : Int) != 0) = true := by simpa using hF0
    clear hF0
    go_wp2_with (first
      | (refine wpList_store_row rfl 90 (.tmp 10) (.tmp 29) rfl w2.heap.size C.toArray rfl rfl 90 Z.toArray HNEW.out.1 (by rw [List.size_toArray]; exact HC0.out.1) (by rw [List.size_toArray, List.size_toArray, HC0.out.2.2.2.1, HC0.out.2.2.1]) HC0.out.2.1 ?_; have hN := HNEW.out.2; generalize (w2.alloc (.cells Z.toArray 90)).setRow w2.heap.size C.toArray = w3 at hN ⊢; have HN := Lib.hid (HB2.out.trans (hN.1.mono HB2.out.size));  clear hN)
      | fail)
    go_ret
    rw [hT]
    exact ⟨rfl, HH.out.2.2.2.1.below HN.out, Keeps.of_below HN.out (fun k hk _ => hk)⟩
end
end Go.Proofs.YtiaaeniopjpfpaaGreatDoor

namespace Go.Proofs.YtiaaeniopjpfpaaGreatDoor
open Go.RowKit Go.Maps
set_option linter.unusedVariables false
set_option linter.unusedSimpArgs false

/-- What a put to the half does to the disk, and its error. -/
def LG.putR (g : LG) (D : DS) (bs : List UInt8) : DS × Int :=
  if D.fault ((2 + g.half * secs D + g.used / 128 : Nat) : Int) ≠ 0 then (D, D.fault ((2 + g.half * secs D + g.used / 128 : Nat) : Int))
  else putG 200 D (2 + g.half * secs D + g.used / 128) ((D.read ((2 + g.half * secs D + g.used / 128 : Nat) : Int)).take (g.used % 128) ++ bs)
def LG.add (g : LG) (D : DS) (t : List UInt8) : (LG × DS) × Int :=
  if g.err ≠ 0 then ((g, D), g.err) else if 16384 < t.length then ((g, D), 5) else if secs D * 128 - g.used < t.length + 28 then ((g, D), 14) else
  if (g.putR D (frameL (g.count + 1) t)).2 ≠ 0 then (({ g with err := (g.putR D (frameL (g.count + 1) t)).2 }, (g.putR D (frameL (g.count + 1) t)).1), (g.putR D (frameL (g.count + 1) t)).2)
  else (({ g with count := g.count + 1, used := g.used + (t.length + 28) }, (g.putR D (frameL (g.count + 1) t)).1), 0)
section
variable {L : Nat → Prop} {w : World} {lp p gl gm : Nat} {hv : Value} {Dm : DataW Unit} {D : DS} {g : LG}
set_option maxRecDepth 20000 in
set_option maxHeartbeats 2000000 in
theorem Add_any (hG : G w) (hL : ∀ k, L k → k < w.heap.size) (hlp : L lp) (hr : Row w lp 83 (g.cells p)) (hd : DiskIs L w p D) (hh : g.half ≤ 1) (hu : g.used ≤ secs D * 128) (hct : g.count ≤ 1000000000)
    (hs : D.steps ≤ 1000000) (hhg : D.hangs.length ≤ 1000000) (t : List UInt8) (he : g.err = 0) (ht : t.length ≤ 16384) (hroom : t.length + 28 ≤ secs D * 128 - g.used) :
    Calls Tryz.prog 16 #[.pointer (some ⟨lp, 0, none⟩), .string (tx t)] w fun e w' => e = .returned (.int .i64 (g.add D t).2) ∧ Row w' lp 83 ((g.add D t).1.1.cells p) ∧ DiskIs L w' p (g.add D t).1.2 ∧ Keeps (fun k => L k ∧ k ≠ lp) w w' := by
  obtain ⟨gl0, gm0, hv0, Dm0, hd0⟩ := id hd
  have hadd : g.add D t = if (g.putR D (frameL (g.count + 1) t)).2 ≠ 0 then (({ g with err := (g.putR D (frameL (g.count + 1) t)).2 }, (g.putR D (frameL (g.count + 1) t)).1), (g.putR D (frameL (g.count + 1) t)).2)
      else (({ g with count := g.count + 1, used := g.used + (t.length + 28) }, (g.putR D (frameL (g.count + 1) t)).1), 0) := by
    unfold LG.add
    rw [if_neg (by simp [he]), if_neg (by omega), if_neg (by omega)]
  rw [hadd]
  have hsec := (secs_le hd0).1
  obtain ⟨k, hk⟩ : ∃ k, t.length = k := ⟨_, rfl⟩
  obtain ⟨F, hF⟩ : ∃ F, frameL (g.count + 1) t = F := ⟨_, rfl⟩
  have hFl : F.length = 28 + k := by rw [← hF, frameL_length, hk]
  obtain ⟨H, hH⟩ : ∃ H, headL (g.count + 1) t = H := ⟨_, rfl⟩
  have hHl : H.length = 28 := by rw [← hH]; exact headL_length _ _
  have hHF : H ++ t = F := by rw [← hF, ← hH]; rfl
  obtain ⟨RD, hRD⟩ : ∃ x, (g.putR D F).1 = x := ⟨_, rfl⟩
  obtain ⟨RE, hRE⟩ : ∃ x, (g.putR D F).2 = x := ⟨_, rfl⟩
  rw [hF, hRD, hRE, hk]
  obtain ⟨TT, hTT⟩ : ∃ TT, (if RE ≠ 0 then (({ g with err := RE }, RD), RE) else (({ g with count := g.count + 1, used := g.used + (k + 28) }, RD), 0) : (LG × DS) × Int) = TT := ⟨_, rfl⟩
  rw [hTT]
  have HTT := Lib.hid hTT
  clear hTT
  obtain ⟨room, hrm⟩ : ∃ r, secs D * 128 - g.used = r := ⟨_, rfl⟩
  have HERR := Lib.hid (Err_any hr)
  have HLEFT := Lib.hid (Left_any hr hd0 hu)
  rw [he] at HERR
  rw [hrm] at HLEFT hroom
  have HPUTw : Hid (∀ wb, Below w.heap.size w wb → ∀ W, Below wb.heap.size wb W → Calls Tryz.prog 52 #[.pointer (some ⟨lp, 0, none⟩), .int .i64 (g.half : Nat), .int .i64 (g.used : Nat), .string (tx F)] W fun e w' => e = .returned (.int .i64 RE) ∧ DiskIs L w' p RD ∧ Keeps L W w') := Lib.hid fun wb hb W hW => by
    have hb2 : Below w.heap.size w W := hb.trans (hW.mono hb.size)
    have h := put_any (L := L) (w := W) (lp := lp) (p := p) (D := D) (g := g) (fun q hq => Nat.lt_of_lt_of_le (hL q hq) hb2.size) hlp (hr.below hb2 hr.lt) (hd.below hb2) g.half g.used 200 hh (by omega) F (by omega) (by omega) hs hhg
    have e1 : (if D.fault ((2 + g.half * secs D + g.used / 128 : Nat) : Int) ≠ 0 then (D, D.fault ((2 + g.half * secs D + g.used / 128 : Nat) : Int)) else putG 200 D (2 + g.half * secs D + g.used / 128) ((D.read ((2 + g.half * secs D + g.used / 128 : Nat) : Int)).take (g.used % 128) ++ F)) = g.putR D F := rfl
    rw [e1, hRD, hRE] at h
    exact h
  have hHHw : ∀ W, Below w.heap.size w W → Calls Tryz.prog 53 #[.int .i64 ((g.count + 1 : Nat) : Int), .string (tx t)] W fun e w' => e = .returned (.string (tx H)) ∧ Below W.heap.size W w' := fun W hb => by
    rw [← hH]
    exact head_any (g.count + 1) t (by omega) (by omega) W (hG.below hb)
  have hADDw : ∀ W, (Op.stringOp .add (tx H) (tx t)).run Tryz.prog W = .ok (.string (tx F)) W := fun W => by rw [← hHF]; exact add_tx H t (by omega) W
  have hts : (tx t).size = k := by rw [tx_size, hk]
  obtain ⟨T, hT⟩ : ∃ T, tx t = T := ⟨_, rfl⟩
  rw [hT] at hHHw hADDw hts ⊢
  obtain ⟨half, hhalf⟩ : ∃ x, g.half = x := ⟨_, rfl⟩
  obtain ⟨used, hused⟩ : ∃ x, g.used = x := ⟨_, rfl⟩
  obtain ⟨count, hcount⟩ : ∃ x, g.count = x := ⟨_, rfl⟩
  rw [hhalf, hused] at HPUTw
  rw [hcount, show ((count + 1 : Nat) : Int) = (count : Int) + 1 by omega] at hHHw
  have HGE := Lib.hid (And.intro hhalf (And.intro hused hcount))
  have HHD0 := Lib.hid hHHw
  have HADD := Lib.hid hADDw
  have hkI : (k : Int) ≤ 16384 := by omega
  have hkr : (k : Int) + 28 ≤ (room : Int) := by omega
  have hctI : (count : Int) ≤ 1000000000 := by omega
  have huI : (used : Int) ≤ 1000000 := by omega
  have HRW := Lib.hid (And.intro hr (And.intro hL (And.intro hlp hd)))
  have HN : Hid (∀ W, Calls Tryz.prog 28 #[.int .i64 (k : Nat)] W fun e w' => e = .returned (.int .i64 ((k : Int) + 28)) ∧ W = w') := Lib.hid fun W => Need_any k (by omega) W
  have HK := Lib.hid hk
  clear hadd hsec hF hFl hH hHl hHF hRD hRE hrm hT hhalf hused hcount hHHw hADDw hk he ht hroom hu hct hs hhg hh hd hd0 hr hlp hL hG
  go_enter Tryz.func16, Tryz.ntmps16
  go_wp2_with fail
  refine HERR.out.mono ?_
  rintro e w1 ⟨rfl, rfl⟩
  go_wp2_with fail
  refine (HN.out _).mono ?_
  rintro e w1 ⟨rfl, rfl⟩
  go_wp2_with fail
  refine HLEFT.out.mono ?_
  rintro e wb ⟨rfl, hbb⟩
  have rb : Row wb lp 83 (g.cells p) := HRW.out.1.below hbb HRW.out.1.lt
  have c3 := rb.cell 3
  simp only [LG.cells, List.getElem?_cons_zero, List.getElem?_cons_succ] at c3
  rw [HGE.out.2.2] at c3
  have HBB := Lib.hid hbb
  have hdr : Below w.heap.size w wb.drew := below_drewK hbb 1
  have HS0 : Hid (Row wb.drew lp 83 (g.cells p)) := Lib.hid rb
  have HHD : Hid _ := Lib.hid (HHD0.out wb.drew hdr)
  have HPUT : Hid _ := Lib.hid (HPUTw.out wb.drew hdr)
  have HLL := Lib.hid HRW.out.2.2.1
  have HLW : Hid (∀ q, q < wb.drew.heap.size → L q → q < wb.drew.heap.size) := Lib.hid fun q h _ => h
  have HDR := Lib.hid hdr
  clear hbb rb hdr HHD0 HPUTw
  go_wp2_with fail
  refine wp_region_noPanic ?_
  refine wp_region_held_drew (S := fun W => Row W lp 83 (g.cells p)) (by kernel_rfl) HS0.out (fun hHeld => ?_)
  refine wpAnyH_take (i := 0) (oi := { dst := some 27, op := Op.move (Operand.tmp 0), type := 30, pos := "log.go:214", after := #[], guard := none }) (v := ?vva_0) rfl (by kernel_rfl) (by kernel_rfl) (by kernel_rfl) (fun _ _ _ h => h) (Or.inl ⟨by rfl, ?yya_0⟩) hHeld ?_
  case vva_0 => exact .pointer (some ⟨lp, 0, none⟩)
  case yya_0 =>
    intro W hS
    go_simp
  try simp only [Act.put, List.setIfInBounds_toArray, List.set_cons_zero, List.set_cons_succ]
  refine wpAnyH_take (i := 1) (oi := { dst := some 28, op := Op.move (Operand.tmp 0), type := 30, pos := "log.go:214", after := #[], guard := none }) (v := ?vva_1) rfl (by kernel_rfl) (by kernel_rfl) (by kernel_rfl) (fun _ _ _ h => h) (Or.inl ⟨by rfl, ?yya_1⟩) hHeld ?_
  case vva_1 => exact .pointer (some ⟨lp, 0, none⟩)
  case yya_1 =>
    intro W hS
    go_simp
  try simp only [Act.put, List.setIfInBounds_toArray, List.set_cons_zero, List.set_cons_succ]
  refine wpAnyH_take (i := 2) (oi := { dst := some 29, op := Op.nilCheck (Operand.tmp 28), type := 0, pos := "log.go:214", after := #[{ on := 1, ground := Ground.data }], guard := none }) (v := ?vva_2) rfl (by kernel_rfl) (by kernel_rfl) (by kernel_rfl) (fun _ _ _ h => h) (Or.inl ⟨by rfl, ?yya_2⟩) hHeld ?_
  case vva_2 => exact .pointer (some ⟨lp, 0, none⟩)
  case yya_2 =>
    intro W hS
    go_simp
  try simp only [Act.put, List.setIfInBounds_toArray, List.set_cons_zero, List.set_cons_succ]
  refine wpAnyH_take (i := 3) (oi := { dst := some 30, op := Op.fieldAddr 83 (Operand.tmp 29) 2, type := 0, pos := "log.go:214", after := #[{ on := 2, ground := Ground.data }], guard := none }) (v := ?vva_3) rfl (by kernel_rfl) (by kernel_rfl) (by kernel_rfl) (fun _ _ _ h => h) (Or.inl ⟨by rfl, ?yya_3⟩) hHeld ?_
  case vva_3 => exact .pointer (some ⟨lp, 2, none⟩)
  case yya_3 =>
    intro W hS
    go_simp
  try simp only [Act.put, List.setIfInBounds_toArray, List.set_cons_zero, List.set_cons_succ]
  refine wpAnyH_take (i := 4) (oi := { dst := some 31, op := Op.load 3 (Operand.tmp 30), type := 3, pos := "log.go:214", after := #[{ on := 3, ground := Ground.data }], guard := none }) (v := ?vva_4) rfl (by kernel_rfl) (by kernel_rfl) (by kernel_rfl) (fun _ _ _ h => h) (Or.inl ⟨by rfl, ?yya_4⟩) hHeld ?_
  case vva_4 => exact .int .i64 (half : Nat)
  case yya_4 =>
    intro W hS
    have q0 := Row.cell hS 2
    simp only [LG.cells, List.getElem?_cons_zero, List.getElem?_cons_succ, HGE.out.1] at q0
    go_simp
  try simp only [Act.put, List.setIfInBounds_toArray, List.set_cons_zero, List.set_cons_succ]
  refine wpAnyH_take (i := 5) (oi := { dst := some 32, op := Op.move (Operand.tmp 0), type := 30, pos := "log.go:214", after := #[], guard := none }) (v := ?vva_5) rfl (by kernel_rfl) (by kernel_rfl) (by kernel_rfl) (fun _ _ _ h => h) (Or.inl ⟨by rfl, ?yya_5⟩) hHeld ?_
  case vva_5 => exact .pointer (some ⟨lp, 0, none⟩)
  case yya_5 =>
    intro W hS
    go_simp
  try simp only [Act.put, List.setIfInBounds_toArray, List.set_cons_zero, List.set_cons_succ]
  refine wpAnyH_take (i := 6) (oi := { dst := some 33, op := Op.nilCheck (Operand.tmp 32), type := 0, pos := "log.go:214", after := #[{ on := 5, ground := Ground.data }], guard := none }) (v := ?vva_6) rfl (by kernel_rfl) (by kernel_rfl) (by kernel_rfl) (fun _ _ _ h => h) (Or.inl ⟨by rfl, ?yya_6⟩) hHeld ?_
  case vva_6 => exact .pointer (some ⟨lp, 0, none⟩)
  case yya_6 =>
    intro W hS
    go_simp
  try simp only [Act.put, List.setIfInBounds_toArray, List.set_cons_zero, List.set_cons_succ]
  refine wpAnyH_take (i := 7) (oi := { dst := some 34, op := Op.fieldAddr 83 (Operand.tmp 33) 4, type := 0, pos := "log.go:214", after := #[{ on := 6, ground := Ground.data }], guard := none }) (v := ?vva_7) rfl (by kernel_rfl) (by kernel_rfl) (by kernel_rfl) (fun _ _ _ h => h) (Or.inl ⟨by rfl, ?yya_7⟩) hHeld ?_
  case vva_7 => exact .pointer (some ⟨lp, 4, none⟩)
  case yya_7 =>
    intro W hS
    go_simp
  try simp only [Act.put, List.setIfInBounds_toArray, List.set_cons_zero, List.set_cons_succ]
  refine wpAnyH_take (i := 8) (oi := { dst := some 35, op := Op.load 3 (Operand.tmp 34), type := 3, pos := "log.go:214", after := #[{ on := 7, ground := Ground.data }], guard := none }) (v := ?vva_8) rfl (by kernel_rfl) (by kernel_rfl) (by kernel_rfl) (fun _ _ _ h => h) (Or.inl ⟨by rfl, ?yya_8⟩) hHeld ?_
  case vva_8 => exact .int .i64 (used : Nat)
  case yya_8 =>
    intro W hS
    have q0 := Row.cell hS 4
    simp only [LG.cells, List.getElem?_cons_zero, List.getElem?_cons_succ, HGE.out.2.1] at q0
    go_simp
  try simp only [Act.put, List.setIfInBounds_toArray, List.set_cons_zero, List.set_cons_succ]
  refine wpAnyH_take (i := 9) (oi := { dst := some 36, op := Op.move (Operand.tmp 6), type := 3, pos := "log.go:214", after := #[], guard := none }) (v := ?vva_9) rfl (by kernel_rfl) (by kernel_rfl) (by kernel_rfl) (fun _ _ _ h => h) (Or.inl ⟨by rfl, ?yya_9⟩) hHeld ?_
  case vva_9 => exact .int .i64 ((count : Int) + 1)
  case yya_9 =>
    intro W hS
    go_simp
  try simp only [Act.put, List.setIfInBounds_toArray, List.set_cons_zero, List.set_cons_succ]
  refine wpAnyH_take (i := 10) (oi := { dst := some 37, op := Op.move (Operand.tmp 1), type := 9, pos := "log.go:214", after := #[], guard := none }) (v := ?vva_10) rfl (by kernel_rfl) (by kernel_rfl) (by kernel_rfl) (fun _ _ _ h => h) (Or.inl ⟨by rfl, ?yya_10⟩) hHeld ?_
  case vva_10 => exact .string T
  case yya_10 =>
    intro W hS
    go_simp
  try simp only [Act.put, List.setIfInBounds_toArray, List.set_cons_zero, List.set_cons_succ]
  refine wpAnyH_take (i := 12) (oi := { dst := some 39, op := Op.move (Operand.tmp 1), type := 9, pos := "log.go:214", after := #[], guard := none }) (v := ?vva_12) rfl (by kernel_rfl) (by kernel_rfl) (by kernel_rfl) (fun _ _ _ h => h) (Or.inl ⟨by rfl, ?yya_12⟩) hHeld ?_
  case vva_12 => exact .string T
  case yya_12 =>
    intro W hS
    go_simp
  try simp only [Act.put, List.setIfInBounds_toArray, List.set_cons_zero, List.set_cons_succ]
  refine wpAnyH_ready (rs := [11]) (by kernel_rfl) (by simp) (AllReadyH.cons (o := { dst := some 38, op := Op.call { callee := Callee.value (Operand.func 53), args := #[Operand.tmp 36, Operand.tmp 37], argTypes := #[3, 9] }, type := 9, pos := "log.go:214", after := #[{ on := 9, ground := Ground.data }, { on := 10, ground := Ground.data }], guard := none }) rfl (fun K hK => ?_) AllReadyH.nil)
  go_simp
  go_at_call 53
  refine HHD.out.mono ?_
  rintro e w4 ⟨rfl, hb4⟩
  have s4 : Row w4 lp 83 (g.cells p) := HS0.out.below hb4 HS0.out.lt
  have HB4 := Lib.hid hb4
  clear hb4
  refine hK.out _ _ s4 (fun hHeld => ?_)
  clear hK K
  try simp only [Act.put, List.setIfInBounds_toArray, List.set_cons_zero, List.set_cons_succ]
  refine wpAnyH_take (i := 13) (oi := { dst := some 40, op := Op.binOp BinOp.add 9 (Operand.tmp 38) (Operand.tmp 39) 9, type := 9, pos := "log.go:214", after := #[{ on := 11, ground := Ground.data }, { on := 12, ground := Ground.data }], guard := none }) (v := ?vva_13) rfl (by kernel_rfl) (by kernel_rfl) (by kernel_rfl) (fun _ _ _ h => h) (Or.inl ⟨by rfl, ?yya_13⟩) hHeld ?_
  case vva_13 => exact .string (tx F)
  case yya_13 =>
    intro W hS
    have q0 := HADD.out W
    go_simp
  try simp only [Act.put, List.setIfInBounds_toArray, List.set_cons_zero, List.set_cons_succ]
  refine wpAnyH_ready (rs := [14]) (by kernel_rfl) (by simp) (AllReadyH.cons (o := { dst := some 41, op := Op.call { callee := Callee.value (Operand.func 52), args := #[Operand.tmp 27, Operand.tmp 31, Operand.tmp 35, Operand.tmp 40], argTypes := #[30, 3, 3, 9] }, type := 25, pos := "log.go:214", after := #[{ on := 0, ground := Ground.data }, { on := 4, ground := Ground.data }, { on := 8, ground := Ground.data }, { on := 13, ground := Ground.data }, { on := 11, ground := Ground.chain }], guard := none }) rfl (fun K hK => ?_) AllReadyH.nil)
  go_simp
  go_at_call 52
  refine (HPUT.out _ HB4.out).mono ?_
  rintro e w5 ⟨rfl, hd5, hk5⟩
  have s5 : Row w5 lp 83 (g.cells p) := (hk5.block lp s4.lt HLL.out).trans s4
  have H5 := Lib.hid (And.intro hd5 (And.intro s5 ((Keeps.of_below (L := L) HB4.out HLW.out).trans hk5)))
  refine hK.out _ _ s5 (fun hHeld => ?_)
  clear hK K hd5 hk5 s4 s5
  try simp only [Act.put, List.setIfInBounds_toArray, List.set_cons_zero, List.set_cons_succ]
  refine wpAnyH_ready (rs := [15]) (by kernel_rfl) (by simp) (AllReadyH.cons (o := { dst := some 7, op := Op.assign (Operand.tmp 41), type := 25, pos := "log.go:214", after := #[{ on := 14, ground := Ground.data }, { on := 14, ground := Ground.chain }, { on := 0, ground := Ground.phase }, { on := 1, ground := Ground.phase }, { on := 2, ground := Ground.phase }, { on := 3, ground := Ground.phase }, { on := 4, ground := Ground.phase }, { on := 5, ground := Ground.phase }, { on := 6, ground := Ground.phase }, { on := 7, ground := Ground.phase }, { on := 8, ground := Ground.phase }, { on := 9, ground := Ground.phase }, { on := 10, ground := Ground.phase }, { on := 11, ground := Ground.phase }, { on := 12, ground := Ground.phase }, { on := 13, ground := Ground.phase }, { on := 14, ground := Ground.phase }], guard := none }) rfl (fun K hK => ?_) AllReadyH.nil)
  go_simp
  refine hK.out _ _ H5.out.2.1 (fun hHeld => ?_)
  clear hK K
  try simp only [Act.put, List.setIfInBounds_toArray, List.set_cons_zero, List.set_cons_succ]
  refine wpAnyH_done (by kernel_rfl) ?_ _
  refine NoPanic.normal ?_
  have hfar : ∀ (W : World) (i : Nat) (v : Value) (q : Nat), q ≠ lp → (W.setCell ⟨lp, i, none⟩ v).heap[q]? = W.heap[q]? := fun W i v q h => Below.heap_setCell W ⟨lp, i, none⟩ v q h
  have HFIN : Hid (∀ W', Keeps (fun q => q ≠ lp) w5 W' → DiskIs L W' p RD ∧ Keeps (fun q => L q ∧ q ≠ lp) w W') := Lib.hid fun W' hk =>
    ⟨H5.out.1.keeps hk (fun q _ h e => h (e ▸ HRW.out.2.2.1)), ((Keeps.of_below (L := fun q => L q ∧ q ≠ lp) HDR.out (fun q h _ => h)).trans (H5.out.2.2.mono (fun q h => h.1))).trans (hk.mono (fun q h => h.2))⟩
  have r5 := H5.out.2.1
  by_cases hRE0 : RE = 0
  · have c3 := r5.cell 3
    have f3 := r5.frozen 3
    simp only [LG.cells, List.getElem?_cons_zero, List.getElem?_cons_succ] at c3
    have hTT := HTT.out
    rw [if_neg (by simp [hRE0])] at hTT
    have HT2 := Lib.hid hTT
    clear hTT
    subst hRE0
    clear hfar
    go_wp2_with fail
    obtain ⟨C6, hC6⟩ : ∃ C6, (g.cells p).set 3 (.int .i64 ((count : Int) + 1)) = C6 := ⟨_, rfl⟩
    have r6 : Row (w5.setCell ⟨lp, 3, none⟩ (.int .i64 ((count : Int) + 1))) lp 83 C6 := by rw [← hC6]; exact r5.set 3 _
    have HK6 : Hid (Keeps (fun q => q ≠ lp) w5 (w5.setCell ⟨lp, 3, none⟩ (.int .i64 ((count : Int) + 1)))) := Lib.hid ((Keeps.refl _ _).setCell (p := ⟨lp, 3, none⟩) (.inl (fun h => h rfl)) _)
    generalize w5.setCell ⟨lp, 3, none⟩ (.int .i64 ((count : Int) + 1)) = w6 at r6 HK6 ⊢
    have HS6 : Hid (Row w6.drew lp 83 C6) := Lib.hid r6
    have HC6 : Hid (C6[4]? = some (.int .i64 (used : Nat))) := Lib.hid (by rw [← hC6]; simp [LG.cells, HGE.out.2.1])
    have HCC := Lib.hid hC6
    clear r6 hC6 c3 f3 r5
    refine wp_region_noPanic ?_
    refine region_held_last 10 (S := fun W => Row W lp 83 C6) (by kernel_rfl) (by kernel_rfl) rfl HS6.out (fun hHeld => ?_)
    simp only [List.take_succ_cons, List.take_zero]
    refine wpAnyH_take (i := 0) (oi := { dst := some 53, op := Op.move (Operand.tmp 0), type := 30, pos := "log.go:219", after := #[], guard := none }) (v := ?vvb_0) rfl (by kernel_rfl) (by kernel_rfl) (by kernel_rfl) (fun _ _ _ h => h) (Or.inl ⟨by rfl, ?yyb_0⟩) hHeld ?_
    case vvb_0 => exact .pointer (some ⟨lp, 0, none⟩)
    case yyb_0 =>
      intro W hS
      go_simp
    try simp only [Act.put, List.setIfInBounds_toArray, List.set_cons_zero, List.set_cons_succ]
    refine wpAnyH_take (i := 1) (oi := { dst := some 54, op := Op.nilCheck (Operand.tmp 53), type := 0, pos := "log.go:219", after := #[{ on := 0, ground := Ground.data }], guard := none }) (v := ?vvb_1) rfl (by kernel_rfl) (by kernel_rfl) (by kernel_rfl) (fun _ _ _ h => h) (Or.inl ⟨by rfl, ?yyb_1⟩) hHeld ?_
    case vvb_1 => exact .pointer (some ⟨lp, 0, none⟩)
    case yyb_1 =>
      intro W hS
      go_simp
    try simp only [Act.put, List.setIfInBounds_toArray, List.set_cons_zero, List.set_cons_succ]
    refine wpAnyH_take (i := 2) (oi := { dst := some 55, op := Op.fieldAddr 83 (Operand.tmp 54) 4, type := 0, pos := "log.go:219", after := #[{ on := 1, ground := Ground.data }], guard := none }) (v := ?vvb_2) rfl (by kernel_rfl) (by kernel_rfl) (by kernel_rfl) (fun _ _ _ h => h) (Or.inl ⟨by rfl, ?yyb_2⟩) hHeld ?_
    case vvb_2 => exact .pointer (some ⟨lp, 4, none⟩)
    case yyb_2 =>
      intro W hS
      go_simp
    try simp only [Act.put, List.setIfInBounds_toArray, List.set_cons_zero, List.set_cons_succ]
    refine wpAnyH_take (i := 3) (oi := { dst := some 56, op := Op.load 3 (Operand.tmp 55), type := 3, pos := "log.go:219", after := #[{ on := 2, ground := Ground.data }], guard := none }) (v := ?vvb_3) rfl (by kernel_rfl) (by kernel_rfl) (by kernel_rfl) (fun _ _ _ h => h) (Or.inl ⟨by rfl, ?yyb_3⟩) hHeld ?_
    case vvb_3 => exact .int .i64 (used : Nat)
    case yyb_3 =>
      intro W hS
      have q0 := (Row.cell hS 4).trans HC6.out
      go_simp
    try simp only [Act.put, List.setIfInBounds_toArray, List.set_cons_zero, List.set_cons_succ]
    refine wpAnyH_take (i := 4) (oi := { dst := some 57, op := Op.move (Operand.tmp 1), type := 9, pos := "log.go:219", after := #[], guard := none }) (v := ?vvb_4) rfl (by kernel_rfl) (by kernel_rfl) (by kernel_rfl) (fun _ _ _ h => h) (Or.inl ⟨by rfl, ?yyb_4⟩) hHeld ?_
    case vvb_4 => exact .string T
    case yyb_4 =>
      intro W hS
      go_simp
    try simp only [Act.put, List.setIfInBounds_toArray, List.set_cons_zero, List.set_cons_succ]
    refine wpAnyH_take (i := 5) (oi := { dst := some 58, op := Op.call { callee := Callee.builtin Builtin.len, args := #[Operand.tmp 57], argTypes := #[9] }, type := 3, pos := "log.go:219", after := #[{ on := 4, ground := Ground.data }], guard := none }) (v := ?vvb_5) rfl (by kernel_rfl) (by kernel_rfl) (by kernel_rfl) (fun _ _ _ h => h) (Or.inl ⟨by rfl, ?yyb_5⟩) hHeld ?_
    case vvb_5 => exact .int .i64 (k : Nat)
    case yyb_5 =>
      intro W hS
      go_simp
    try simp only [Act.put, List.setIfInBounds_toArray, List.set_cons_zero, List.set_cons_succ]
    refine wpAnyH_ready (rs := [6]) (by kernel_rfl) (by simp) (AllReadyH.cons (o := { dst := some 59, op := Op.call { callee := Callee.value (Operand.func 28), args := #[Operand.tmp 58], argTypes := #[3] }, type := 3, pos := "log.go:219", after := #[{ on := 5, ground := Ground.data }], guard := none }) rfl (fun K hK => ?_) AllReadyH.nil)
    go_simp
    go_at_call 28
    refine (HN.out _).mono ?_
    rintro e w9 ⟨rfl, rfl⟩
    refine hK.out _ _ HS6.out (fun hHeld => ?_)
    clear hK K
    try simp only [Act.put, List.setIfInBounds_toArray, List.set_cons_zero, List.set_cons_succ]
    refine wpAnyH_take (i := 7) (oi := { dst := some 60, op := Op.binOp BinOp.add 3 (Operand.tmp 56) (Operand.tmp 59) 3, type := 3, pos := "log.go:219", after := #[{ on := 3, ground := Ground.data }, { on := 6, ground := Ground.data }], guard := none }) (v := ?vvb_7) rfl (by kernel_rfl) (by kernel_rfl) (by kernel_rfl) (fun _ _ _ h => h) (Or.inl ⟨by rfl, ?yyb_7⟩) hHeld ?_
    case vvb_7 => exact .int .i64 ((used : Int) + ((k : Int) + 28))
    case yyb_7 =>
      intro W hS
      go_simp
      rw [IntKind.wrap_i64]
      omega
    try simp only [Act.put, List.setIfInBounds_toArray, List.set_cons_zero, List.set_cons_succ]
    refine wpAnyH_take (i := 8) (oi := { dst := some 61, op := Op.nilCheck (Operand.tmp 53), type := 0, pos := "log.go:219", after := #[{ on := 0, ground := Ground.data }, { on := 0, ground := Ground.phase }, { on := 1, ground := Ground.phase }, { on := 2, ground := Ground.phase }, { on := 3, ground := Ground.phase }, { on := 4, ground := Ground.phase }, { on := 5, ground := Ground.phase }, { on := 6, ground := Ground.phase }, { on := 7, ground := Ground.phase }], guard := none }) (v := ?vvb_8) rfl (by kernel_rfl) (by kernel_rfl) (by kernel_rfl) (fun _ _ _ h => h) (Or.inl ⟨by rfl, ?yyb_8⟩) hHeld ?_
    case vvb_8 => exact .pointer (some ⟨lp, 0, none⟩)
    case yyb_8 =>
      intro W hS
      go_simp
    try simp only [Act.put, List.setIfInBounds_toArray, List.set_cons_zero, List.set_cons_succ]
    refine wpAnyH_take (i := 9) (oi := { dst := some 62, op := Op.fieldAddr 83 (Operand.tmp 61) 4, type := 0, pos := "log.go:219", after := #[{ on := 8, ground := Ground.data }, { on := 0, ground := Ground.phase }, { on := 1, ground := Ground.phase }, { on := 2, ground := Ground.phase }, { on := 3, ground := Ground.phase }, { on := 4, ground := Ground.phase }, { on := 5, ground := Ground.phase }, { on := 6, ground := Ground.phase }, { on := 7, ground := Ground.phase }], guard := none }) (v := ?vvb_9) rfl (by kernel_rfl) (by kernel_rfl) (by kernel_rfl) (fun _ _ _ h => h) (Or.inl ⟨by rfl, ?yyb_9⟩) hHeld ?_
    case vvb_9 => exact .pointer (some ⟨lp, 4, none⟩)
    case yyb_9 =>
      intro W hS
      go_simp
    try simp only [Act.put, List.setIfInBounds_toArray, List.set_cons_zero, List.set_cons_succ]
    refine wpAnyH_done (by kernel_rfl) ?_ _
    show wpList _ _ _ [_] _ _
    have hc9 := (Row.cell HS6.out 4).trans HC6.out
    have hf9 := Row.frozen HS6.out 4
    go_wp2_with fail
    show NoPanic _ Exit.normal _ _
    refine NoPanic.normal ?_
    go_wp2_with fail
    go_ret
    have r9 := HS6.out.set 4 (.int .i64 ((used : Int) + ((k : Int) + 28)))
    have h9 := HFIN.out (w6.drew.setCell ⟨lp, 4, none⟩ (.int .i64 ((used : Int) + ((k : Int) + 28)))) ((HK6.out.drew1).setCell (p := ⟨lp, 4, none⟩) (.inl (fun h => h rfl)) _)
    rw [← HT2.out]
    refine ⟨rfl, ?_, h9.1, h9.2⟩
    rw [← HCC.out] at r9
    have e9 : (({ g with count := g.count + 1, used := g.used + (k + 28) } : LG).cells p) = ((g.cells p).set 3 (.int .i64 ((count : Int) + 1))).set 4 (.int .i64 ((used : Int) + ((k : Int) + 28))) := by
      simp [LG.cells, HGE.out.2.1, HGE.out.2.2]
    rw [e9]
    exact r9
  · have c5 := r5.cell 5
    have f5 := r5.frozen 5
    simp only [LG.cells, List.getElem?_cons_zero, List.getElem?_cons_succ] at c5
    have hTT := HTT.out
    rw [if_pos hRE0] at hTT
    have HT2 := Lib.hid hTT
    clear hTT
    go_wp2_with fail
    go_ret
    have h := HFIN.out (w5.setCell ⟨lp, 5, none⟩ (.int .i64 RE)) ((Keeps.refl _ _).setCell (p := ⟨lp, 5, none⟩) (.inl (fun h => h rfl)) _)
    rw [← HT2.out]
    exact ⟨rfl, r5.set 5 _, h.1, h.2⟩
end
end Go.Proofs.YtiaaeniopjpfpaaGreatDoor

namespace Go.Proofs.YtiaaeniopjpfpaaGreatDoor
open Go Go.RowKit Go.Maps
set_option linter.unusedVariables false
set_option linter.unusedSimpArgs false

/-- What a put does, n pieces at most. -/
def LG.putAt (g : LG) (n place : Nat) (D : DS) (bs : List UInt8) : DS × Int :=
  if D.fault ((2 + g.half * secs D + place / 128 : Nat) : Int) ≠ 0 then (D, D.fault ((2 + g.half * secs D + place / 128 : Nat) : Int))
  else putG n D (2 + g.half * secs D + place / 128) ((D.read ((2 + g.half * secs D + place / 128 : Nat) : Int)).take (place % 128) ++ bs)
theorem sync_count (D : DS) : D.synced.steps ≤ D.steps + 1 ∧ D.synced.hangs.length ≤ D.hangs.length := by
  have h2 := (stepped_same D).2
  have h1 : D.stepped.steps ≤ D.steps + 1 := by
    unfold DS.stepped
    split
    · exact Nat.le_succ _
    · split
      · exact Nat.le_succ _
      · exact Nat.le_refl _
  unfold DS.synced
  split
  · exact ⟨h1, Nat.zero_le _⟩
  · exact ⟨h1, by rw [h2]; exact Nat.le_refl _⟩
theorem putG_count (n : Nat) (D : DS) (a : Nat) (l : List UInt8) : (putG n D a l).1.steps ≤ D.steps + n + 1 ∧ (putG n D a l).1.hangs.length ≤ D.hangs.length + n := by
  induction n generalizing D a l with
  | zero => exact sync_count D
  | succ n ih =>
    have hs := sync_count D
    have hw := writ_count D (a : Nat) (pad128 l)
    unfold putG
    split
    · exact ⟨by show D.synced.steps ≤ _; omega, by show D.synced.hangs.length ≤ _; omega⟩
    · split
      · exact ⟨by show (D.written _ _).steps ≤ _; omega, by show (D.written _ _).hangs.length ≤ _; omega⟩
      · have := ih (D.written (a : Nat) (pad128 l)) (a + 1) (l.drop 128)
        omega
theorem putAt_count (g : LG) (n place : Nat) (D : DS) (bs : List UInt8) : (g.putAt n place D bs).1.steps ≤ D.steps + n + 1 ∧ (g.putAt n place D bs).1.hangs.length ≤ D.hangs.length + n := by
  unfold LG.putAt
  split
  · exact ⟨by show D.steps ≤ _; omega, by show D.hangs.length ≤ _; omega⟩
  · exact putG_count _ _ _ _
section
variable {L : Nat → Prop} {w : World} {lp p gl gm : Nat} {hv : Value} {Dm : DataW Unit} {D : DS} {g : LG}
theorem putAt_any (hL : ∀ k, L k → k < w.heap.size) (hlp : L lp) (hr : Row w lp 83 (g.cells p)) (hd : DiskIs L w p D) (hh : g.half ≤ 1) (place n : Nat) (hpl : place ≤ 1000000) (bs : List UInt8) (hn : bs.length + 128 ≤ n * 128) (hn2 : n ≤ 90000)
    (hs : D.steps ≤ 1000000) (hhg : D.hangs.length ≤ 1000000) :
    Calls Tryz.prog 52 #[.pointer (some ⟨lp, 0, none⟩), .int .i64 (g.half : Nat), .int .i64 (place : Nat), .string (tx bs)] w fun e w' => e = .returned (.int .i64 (g.putAt n place D bs).2) ∧ DiskIs L w' p (g.putAt n place D bs).1 ∧ Keeps L w w' :=
  put_any hL hlp hr hd g.half place n hh hpl bs hn hn2 hs hhg
theorem repeat_zero (c : Nat) : (⟨(Lib.repeatL [0] c).toArray⟩ : ByteArray) = tx (List.replicate c 0) := by
  have h := Lib.repeatL_replicate (0 : UInt8) 1 c
  rw [Nat.mul_one] at h
  unfold tx
  rw [← h]
  rfl
def LG.begins (g : LG) (D : DS) (t : List UInt8) : DS × Int :=
  if (g.putAt 2100 0 D (List.replicate (secs D * 128) 0)).2 ≠ 0 then g.putAt 2100 0 D (List.replicate (secs D * 128) 0) else
  if (g.putAt 2100 0 (g.putAt 2100 0 D (List.replicate (secs D * 128) 0)).1 (frameL 1 t)).2 ≠ 0 then g.putAt 2100 0 (g.putAt 2100 0 D (List.replicate (secs D * 128) 0)).1 (frameL 1 t) else
  if (g.putAt 2100 0 (g.putAt 2100 0 D (List.replicate (secs D * 128) 0)).1 (frameL 1 t)).1.writeErr ((g.num % 2 : Nat) : Int) ≠ 0 then
    ((g.putAt 2100 0 (g.putAt 2100 0 D (List.replicate (secs D * 128) 0)).1 (frameL 1 t)).1.written ((g.num % 2 : Nat) : Int) (markB g.num g.half), (g.putAt 2100 0 (g.putAt 2100 0 D (List.replicate (secs D * 128) 0)).1 (frameL 1 t)).1.writeErr ((g.num % 2 : Nat) : Int)) else
  (((g.putAt 2100 0 (g.putAt 2100 0 D (List.replicate (secs D * 128) 0)).1 (frameL 1 t)).1.written ((g.num % 2 : Nat) : Int) (markB g.num g.half)).synced, ((g.putAt 2100 0 (g.putAt 2100 0 D (List.replicate (secs D * 128) 0)).1 (frameL 1 t)).1.written ((g.num % 2 : Nat) : Int) (markB g.num g.half)).stepErr)
set_option maxRecDepth 20000 in
set_option maxHeartbeats 2000000 in
theorem begin_any (hG : G w) (hLG : L 0) (hL : ∀ k, L k → k < w.heap.size) (hlp : L lp) (hr : Row w lp 83 (g.cells p)) (hd : DiskIs L w p D) (hg : g.ok)
    (hs : D.steps ≤ 900000) (hhg : D.hangs.length ≤ 900000) (t : List UInt8) (ht : t.length ≤ 100000) :
    Calls Tryz.prog 47 #[.pointer (some ⟨lp, 0, none⟩), .string (tx t)] w fun e w' => e = .returned (.int .i64 (g.begins D t).2) ∧ DiskIs L w' p (g.begins D t).1 ∧ Keeps L w w' := by
  obtain ⟨gl0, gm0, hv0, Dm0, hd0⟩ := id hd
  have hsec := (secs_le hd0).1
  have HSZ : Hid _ := Lib.hid (size_any (w := w.drew) hr (hd0.below (below_drewK (Below.refl _ _) 1)))
  obtain ⟨sz, hsz⟩ : ∃ x, secs D * 128 = x := ⟨_, rfl⟩
  obtain ⟨half, hhalf⟩ : ∃ x, g.half = x := ⟨_, rfl⟩
  obtain ⟨r1, hr1⟩ : ∃ x, g.putAt 2100 0 D (List.replicate sz 0) = x := ⟨_, rfl⟩
  have hc1 := putAt_count g 2100 0 D (List.replicate sz 0)
  rw [hr1] at hc1
  obtain ⟨F, hF⟩ : ∃ F, frameL 1 t = F := ⟨_, rfl⟩
  obtain ⟨r2, hr2⟩ : ∃ x, g.putAt 2100 0 r1.1 F = x := ⟨_, rfl⟩
  have hc2 := putAt_count g 2100 0 r1.1 F
  rw [hr2] at hc2
  have hFl : F.length = 28 + t.length := by rw [← hF, frameL_length]
  unfold LG.begins
  rw [hsz, hr1, hF, hr2]
  obtain ⟨TT, hTT⟩ : ∃ TT, (if r1.2 ≠ 0 then r1 else if r2.2 ≠ 0 then r2 else if r2.1.writeErr ((g.num % 2 : Nat) : Int) ≠ 0 then (r2.1.written ((g.num % 2 : Nat) : Int) (markB g.num g.half), r2.1.writeErr ((g.num % 2 : Nat) : Int)) else
      ((r2.1.written ((g.num % 2 : Nat) : Int) (markB g.num g.half)).synced, (r2.1.written ((g.num % 2 : Nat) : Int) (markB g.num g.half)).stepErr) : DS × Int) = TT := ⟨_, rfl⟩
  rw [hTT]
  have HTT := Lib.hid hTT
  rw [hsz] at HSZ
  have HRP : Hid (Calls Tryz.prog 87 #[.string ⟨#[0]⟩, .int .i64 (sz : Nat)] w.drew fun e w' => e = .returned (.string (tx (List.replicate sz 0))) ∧ Below w.drew.heap.size w.drew w') := Lib.hid (by
    have h := Tryz.strings_Repeat ⟨#[0]⟩ sz w.drew (by omega) (by show 1 * sz ≤ _; omega)
    rw [show (⟨(Lib.repeatL (ByteArray.mk #[0]).data.toList sz).toArray⟩ : ByteArray) = tx (List.replicate sz 0) from repeat_zero sz] at h
    exact h)
  have HPUT1 : Hid (∀ W, Below w.drew.heap.size w.drew W → Calls Tryz.prog 52 #[.pointer (some ⟨lp, 0, none⟩), .int .i64 (half : Nat), .int .i64 0, .string (tx (List.replicate sz 0))] W fun e w' => e = .returned (.int .i64 r1.2) ∧ DiskIs L w' p r1.1 ∧ Keeps L W w') := Lib.hid fun W hW => by
    have hb2 : Below w.heap.size w W := (below_drewK (Below.refl _ _) 1).trans hW
    have h := putAt_any (L := L) (w := W) (lp := lp) (p := p) (D := D) (g := g) (fun q hq => Nat.lt_of_lt_of_le (hL q hq) hb2.size) hlp (hr.below hb2 hr.lt) (hd.below hb2) hg.half 0 2100 (by omega) (List.replicate sz 0) (by rw [List.length_replicate]; omega) (by omega) (by omega) (by omega)
    rw [hr1, hhalf] at h
    exact h
  have HGE := Lib.hid (And.intro hhalf trivial)
  have HS0 : Hid (Row w.drew lp 83 (g.cells p)) := Lib.hid hr
  have HLL := Lib.hid hlp
  have hszI : (sz : Int) ≤ 300000 := by omega
  have HH := Lib.hid (And.intro hG (And.intro hLG (And.intro hL (And.intro hd (And.intro hg (And.intro hc1 (And.intro hc2 (And.intro hs hhg))))))))
  have HX := Lib.hid (And.intro hr2 (And.intro hF hFl))
  clear hG hLG hL hlp hr hd hg hs hhg hd0 hsec hsz hhalf hr1 hr2 hc1 hc2 hF hFl hTT
  obtain ⟨T, hT⟩ : ∃ T, tx t = T := ⟨_, rfl⟩
  have HXT := Lib.hid hT
  rw [hT]
  clear hT
  go_enter Tryz.func47, Tryz.ntmps47
  go_wp2_with fail
  refine wp_region_noPanic ?_
  refine wp_region_held_drew (S := fun W => Row W lp 83 (g.cells p)) (by kernel_rfl) HS0.out (fun hHeld => ?_)
  refine wpAnyH_take (i := 0) (oi := { dst := some 8, op := Op.move (Operand.tmp 0), type := 30, pos := "log.go:242", after := #[], guard := none }) (v := ?vva_0) rfl (by kernel_rfl) (by kernel_rfl) (by kernel_rfl) (fun _ _ _ h => h) (Or.inl ⟨by rfl, ?yya_0⟩) hHeld ?_
  case vva_0 => exact .pointer (some ⟨lp, 0, none⟩)
  case yya_0 =>
    intro W hS
    go_simp
  try simp only [Act.put, List.setIfInBounds_toArray, List.set_cons_zero, List.set_cons_succ]
  refine wpAnyH_take (i := 1) (oi := { dst := some 9, op := Op.move (Operand.tmp 0), type := 30, pos := "log.go:242", after := #[], guard := none }) (v := ?vva_1) rfl (by kernel_rfl) (by kernel_rfl) (by kernel_rfl) (fun _ _ _ h => h) (Or.inl ⟨by rfl, ?yya_1⟩) hHeld ?_
  case vva_1 => exact .pointer (some ⟨lp, 0, none⟩)
  case yya_1 =>
    intro W hS
    go_simp
  try simp only [Act.put, List.setIfInBounds_toArray, List.set_cons_zero, List.set_cons_succ]
  refine wpAnyH_take (i := 2) (oi := { dst := some 10, op := Op.nilCheck (Operand.tmp 9), type := 0, pos := "log.go:242", after := #[{ on := 1, ground := Ground.data }], guard := none }) (v := ?vva_2) rfl (by kernel_rfl) (by kernel_rfl) (by kernel_rfl) (fun _ _ _ h => h) (Or.inl ⟨by rfl, ?yya_2⟩) hHeld ?_
  case vva_2 => exact .pointer (some ⟨lp, 0, none⟩)
  case yya_2 =>
    intro W hS
    go_simp
  try simp only [Act.put, List.setIfInBounds_toArray, List.set_cons_zero, List.set_cons_succ]
  refine wpAnyH_take (i := 3) (oi := { dst := some 11, op := Op.fieldAddr 83 (Operand.tmp 10) 2, type := 0, pos := "log.go:242", after := #[{ on := 2, ground := Ground.data }], guard := none }) (v := ?vva_3) rfl (by kernel_rfl) (by kernel_rfl) (by kernel_rfl) (fun _ _ _ h => h) (Or.inl ⟨by rfl, ?yya_3⟩) hHeld ?_
  case vva_3 => exact .pointer (some ⟨lp, 2, none⟩)
  case yya_3 =>
    intro W hS
    go_simp
  try simp only [Act.put, List.setIfInBounds_toArray, List.set_cons_zero, List.set_cons_succ]
  refine wpAnyH_take (i := 4) (oi := { dst := some 12, op := Op.load 3 (Operand.tmp 11), type := 3, pos := "log.go:242", after := #[{ on := 3, ground := Ground.data }], guard := none }) (v := ?vva_4) rfl (by kernel_rfl) (by kernel_rfl) (by kernel_rfl) (fun _ _ _ h => h) (Or.inl ⟨by rfl, ?yya_4⟩) hHeld ?_
  case vva_4 => exact .int .i64 (half : Nat)
  case yya_4 =>
    intro W hS
    have q0 := Row.cell hS 2
    simp only [LG.cells, List.getElem?_cons_zero, List.getElem?_cons_succ, HGE.out.1] at q0
    go_simp
  try simp only [Act.put, List.setIfInBounds_toArray, List.set_cons_zero, List.set_cons_succ]
  refine wpAnyH_take (i := 5) (oi := { dst := some 13, op := Op.move (Operand.tmp 0), type := 30, pos := "log.go:242", after := #[], guard := none }) (v := ?vva_5) rfl (by kernel_rfl) (by kernel_rfl) (by kernel_rfl) (fun _ _ _ h => h) (Or.inl ⟨by rfl, ?yya_5⟩) hHeld ?_
  case vva_5 => exact .pointer (some ⟨lp, 0, none⟩)
  case yya_5 =>
    intro W hS
    go_simp
  try simp only [Act.put, List.setIfInBounds_toArray, List.set_cons_zero, List.set_cons_succ]
  refine wpAnyH_ready (rs := [6]) (by kernel_rfl) (by simp) (AllReadyH.cons (o := { dst := some 14, op := Op.call { callee := Callee.value (Operand.func 45), args := #[Operand.tmp 13], argTypes := #[30] }, type := 3, pos := "log.go:242", after := #[{ on := 5, ground := Ground.data }], guard := none }) rfl (fun K hK => ?_) AllReadyH.nil)
  go_simp
  go_at_call 45
  refine HSZ.out.mono ?_
  rintro e wx ⟨rfl, rfl⟩
  refine hK.out _ _ HS0.out (fun hHeld => ?_)
  clear hK K
  try simp only [Act.put, List.setIfInBounds_toArray, List.set_cons_zero, List.set_cons_succ]
  refine wpAnyH_ready (rs := [7]) (by kernel_rfl) (by simp) (AllReadyH.cons (o := { dst := some 15, op := Op.call { callee := Callee.value (Operand.func 87), args := #[Operand.const (Value.string { data := #[0] }), Operand.tmp 14], argTypes := #[9, 3] }, type := 9, pos := "log.go:242", after := #[{ on := 6, ground := Ground.data }, { on := 6, ground := Ground.chain }], guard := none }) rfl (fun K hK => ?_) AllReadyH.nil)
  go_simp
  go_at_call 87
  refine HRP.out.mono ?_
  rintro e w4 ⟨rfl, hb4⟩
  have s4 : Row w4 lp 83 (g.cells p) := HS0.out.below hb4 HS0.out.lt
  have HB4 := Lib.hid hb4
  clear hb4
  refine hK.out _ _ s4 (fun hHeld => ?_)
  clear hK K
  try simp only [Act.put, List.setIfInBounds_toArray, List.set_cons_zero, List.set_cons_succ]
  refine wpAnyH_ready (rs := [8]) (by kernel_rfl) (by simp) (AllReadyH.cons (o := { dst := some 16, op := Op.call { callee := Callee.value (Operand.func 52), args := #[Operand.tmp 8, Operand.tmp 12, Operand.const (Value.int IntKind.i64 0), Operand.tmp 15], argTypes := #[30, 3, 3, 9] }, type := 25, pos := "log.go:242", after := #[{ on := 0, ground := Ground.data }, { on := 4, ground := Ground.data }, { on := 7, ground := Ground.data }, { on := 7, ground := Ground.chain }], guard := none }) rfl (fun K hK => ?_) AllReadyH.nil)
  go_simp
  go_at_call 52
  refine (HPUT1.out _ HB4.out).mono ?_
  rintro e w5 ⟨rfl, hd5, hk5⟩
  have s5 : Row w5 lp 83 (g.cells p) := (hk5.block lp s4.lt HLL.out).trans s4
  have H5 := Lib.hid (And.intro hd5 (And.intro s5 ((Keeps.of_below (L := L) HB4.out (fun q h _ => h)).trans hk5)))
  refine hK.out _ _ s5 (fun hHeld => ?_)
  clear hK K
  try simp only [Act.put, List.setIfInBounds_toArray, List.set_cons_zero, List.set_cons_succ]
  clear hd5 hk5 s4 s5
  refine wpAnyH_ready (rs := [9]) (by kernel_rfl) (by simp) (AllReadyH.cons (o := { dst := some 5, op := Op.assign (Operand.tmp 16), type := 25, pos := "log.go:242", after := #[{ on := 8, ground := Ground.data }, { on := 8, ground := Ground.chain }, { on := 0, ground := Ground.phase }, { on := 1, ground := Ground.phase }, { on := 2, ground := Ground.phase }, { on := 3, ground := Ground.phase }, { on := 4, ground := Ground.phase }, { on := 5, ground := Ground.phase }, { on := 6, ground := Ground.phase }, { on := 7, ground := Ground.phase }, { on := 8, ground := Ground.phase }], guard := none }) rfl (fun K hK => ?_) AllReadyH.nil)
  go_simp
  refine hK.out _ _ H5.out.2.1 (fun hHeld => ?_)
  clear hK K
  try simp only [Act.put, List.setIfInBounds_toArray, List.set_cons_zero, List.set_cons_succ]
  refine wpAnyH_done (by kernel_rfl) ?_ _
  refine NoPanic.normal ?_
  by_cases h1 : r1.2 = 0
  · have hG5 : G w5 := G.keeps (w := w.drew) HH.out.1 H5.out.2.2 HH.out.2.1
    have hsz5 : w.heap.size ≤ w5.heap.size := H5.out.2.2.size
    obtain ⟨H, hH⟩ : ∃ H, headL 1 t = H := ⟨_, rfl⟩
    have hHl : H.length = 28 := by rw [← hH]; exact headL_length _ _
    have hHF : H ++ t = F := by rw [← HX.out.2.1, ← hH]; rfl
    have hFl := HX.out.2.2
    have HADD : Hid (∀ W, (Op.stringOp .add (tx H) T).run Tryz.prog W = .ok (.string (tx F)) W) := Lib.hid fun W => by rw [← HXT.out, ← hHF]; exact add_tx H t (by omega) W
    have HHD : Hid (Calls Tryz.prog 53 #[.int .i64 1, .string T] w5.drew fun e w' => e = .returned (.string (tx H)) ∧ Below w5.drew.heap.size w5.drew w') := Lib.hid (by
      rw [← hH, ← HXT.out]
      exact head_any 1 t (by omega) (by omega) w5.drew hG5)
    have HPUT2 : Hid (∀ W, Below w5.drew.heap.size w5.drew W → Calls Tryz.prog 52 #[.pointer (some ⟨lp, 0, none⟩), .int .i64 (half : Nat), .int .i64 0, .string (tx F)] W fun e w' => e = .returned (.int .i64 r2.2) ∧ DiskIs L w' p r2.1 ∧ Keeps L W w') := Lib.hid fun W hW => by
      have hb2 : Below w5.heap.size w5 W := (below_drewK (Below.refl _ _) 1).trans hW
      have hcc := HH.out.2.2.2.2.2
      have h := putAt_any (L := L) (w := W) (lp := lp) (p := p) (D := r1.1) (g := g) (fun q hq => Nat.lt_of_lt_of_le (HH.out.2.2.1 q hq) (Nat.le_trans hsz5 hb2.size)) HLL.out (H5.out.2.1.below hb2 H5.out.2.1.lt) (H5.out.1.below hb2) HH.out.2.2.2.2.1.half 0 2100 (by omega) F (by omega) (by omega) (by omega) (by omega)
      rw [HX.out.1, HGE.out.1] at h
      exact h
    have HS5 : Hid (Row w5.drew lp 83 (g.cells p)) := Lib.hid H5.out.2.1
    have HG5 := Lib.hid (And.intro hG5 hsz5)
    clear hG5 hsz5 hH hHl hHF hFl
    go_wp2_with fail
    refine wp_region_noPanic ?_
    refine wp_region_held_drew (S := fun W => Row W lp 83 (g.cells p)) (by kernel_rfl) HS5.out (fun hHeld => ?_)
    refine wpAnyH_take (i := 0) (oi := { dst := some 20, op := Op.move (Operand.tmp 0), type := 30, pos := "log.go:245", after := #[], guard := none }) (v := ?vvb_0) rfl (by kernel_rfl) (by kernel_rfl) (by kernel_rfl) (fun _ _ _ h => h) (Or.inl ⟨by rfl, ?yyb_0⟩) hHeld ?_
    case vvb_0 => exact .pointer (some ⟨lp, 0, none⟩)
    case yyb_0 =>
      intro W hS
      go_simp
    try simp only [Act.put, List.setIfInBounds_toArray, List.set_cons_zero, List.set_cons_succ]
    refine wpAnyH_take (i := 1) (oi := { dst := some 21, op := Op.move (Operand.tmp 0), type := 30, pos := "log.go:245", after := #[], guard := none }) (v := ?vvb_1) rfl (by kernel_rfl) (by kernel_rfl) (by kernel_rfl) (fun _ _ _ h => h) (Or.inl ⟨by rfl, ?yyb_1⟩) hHeld ?_
    case vvb_1 => exact .pointer (some ⟨lp, 0, none⟩)
    case yyb_1 =>
      intro W hS
      go_simp
    try simp only [Act.put, List.setIfInBounds_toArray, List.set_cons_zero, List.set_cons_succ]
    refine wpAnyH_take (i := 2) (oi := { dst := some 22, op := Op.nilCheck (Operand.tmp 21), type := 0, pos := "log.go:245", after := #[{ on := 1, ground := Ground.data }], guard := none }) (v := ?vvb_2) rfl (by kernel_rfl) (by kernel_rfl) (by kernel_rfl) (fun _ _ _ h => h) (Or.inl ⟨by rfl, ?yyb_2⟩) hHeld ?_
    case vvb_2 => exact .pointer (some ⟨lp, 0, none⟩)
    case yyb_2 =>
      intro W hS
      go_simp
    try simp only [Act.put, List.setIfInBounds_toArray, List.set_cons_zero, List.set_cons_succ]
    refine wpAnyH_take (i := 3) (oi := { dst := some 23, op := Op.fieldAddr 83 (Operand.tmp 22) 2, type := 0, pos := "log.go:245", after := #[{ on := 2, ground := Ground.data }], guard := none }) (v := ?vvb_3) rfl (by kernel_rfl) (by kernel_rfl) (by kernel_rfl) (fun _ _ _ h => h) (Or.inl ⟨by rfl, ?yyb_3⟩) hHeld ?_
    case vvb_3 => exact .pointer (some ⟨lp, 2, none⟩)
    case yyb_3 =>
      intro W hS
      go_simp
    try simp only [Act.put, List.setIfInBounds_toArray, List.set_cons_zero, List.set_cons_succ]
    refine wpAnyH_take (i := 4) (oi := { dst := some 24, op := Op.load 3 (Operand.tmp 23), type := 3, pos := "log.go:245", after := #[{ on := 3, ground := Ground.data }], guard := none }) (v := ?vvb_4) rfl (by kernel_rfl) (by kernel_rfl) (by kernel_rfl) (fun _ _ _ h => h) (Or.inl ⟨by rfl, ?yyb_4⟩) hHeld ?_
    case vvb_4 => exact .int .i64 (half : Nat)
    case yyb_4 =>
      intro W hS
      have q0 := Row.cell hS 2
      simp only [LG.cells, List.getElem?_cons_zero, List.getElem?_cons_succ, HGE.out.1] at q0
      go_simp
    try simp only [Act.put, List.setIfInBounds_toArray, List.set_cons_zero, List.set_cons_succ]
    refine wpAnyH_take (i := 5) (oi := { dst := some 25, op := Op.move (Operand.tmp 1), type := 9, pos := "log.go:245", after := #[], guard := none }) (v := ?vvb_5) rfl (by kernel_rfl) (by kernel_rfl) (by kernel_rfl) (fun _ _ _ h => h) (Or.inl ⟨by rfl, ?yyb_5⟩) hHeld ?_
    case vvb_5 => exact .string T
    case yyb_5 =>
      intro W hS
      go_simp
    try simp only [Act.put, List.setIfInBounds_toArray, List.set_cons_zero, List.set_cons_succ]
    refine wpAnyH_take (i := 7) (oi := { dst := some 27, op := Op.move (Operand.tmp 1), type := 9, pos := "log.go:245", after := #[], guard := none }) (v := ?vvb_7) rfl (by kernel_rfl) (by kernel_rfl) (by kernel_rfl) (fun _ _ _ h => h) (Or.inl ⟨by rfl, ?yyb_7⟩) hHeld ?_
    case vvb_7 => exact .string T
    case yyb_7 =>
      intro W hS
      go_simp
    try simp only [Act.put, List.setIfInBounds_toArray, List.set_cons_zero, List.set_cons_succ]
    refine wpAnyH_ready (rs := [6]) (by kernel_rfl) (by simp) (AllReadyH.cons (o := { dst := some 26, op := Op.call { callee := Callee.value (Operand.func 53), args := #[Operand.const (Value.int IntKind.i64 1), Operand.tmp 25], argTypes := #[3, 9] }, type := 9, pos := "log.go:245", after := #[{ on := 5, ground := Ground.data }], guard := none }) rfl (fun K hK => ?_) AllReadyH.nil)
    go_simp
    go_at_call 53
    refine HHD.out.mono ?_
    rintro e w6 ⟨rfl, hb6⟩
    have s6 : Row w6 lp 83 (g.cells p) := HS5.out.below hb6 HS5.out.lt
    have HB6 := Lib.hid hb6
    clear hb6
    refine hK.out _ _ s6 (fun hHeld => ?_)
    clear hK K
    try simp only [Act.put, List.setIfInBounds_toArray, List.set_cons_zero, List.set_cons_succ]
    refine wpAnyH_take (i := 8) (oi := { dst := some 28, op := Op.binOp BinOp.add 9 (Operand.tmp 26) (Operand.tmp 27) 9, type := 9, pos := "log.go:245", after := #[{ on := 6, ground := Ground.data }, { on := 7, ground := Ground.data }], guard := none }) (v := ?vvb_8) rfl (by kernel_rfl) (by kernel_rfl) (by kernel_rfl) (fun _ _ _ h => h) (Or.inl ⟨by rfl, ?yyb_8⟩) hHeld ?_
    case vvb_8 => exact .string (tx F)
    case yyb_8 =>
      intro W hS
      have q0 := HADD.out W
      go_simp
    try simp only [Act.put, List.setIfInBounds_toArray, List.set_cons_zero, List.set_cons_succ]
    refine wpAnyH_ready (rs := [9]) (by kernel_rfl) (by simp) (AllReadyH.cons (o := { dst := some 29, op := Op.call { callee := Callee.value (Operand.func 52), args := #[Operand.tmp 20, Operand.tmp 24, Operand.const (Value.int IntKind.i64 0), Operand.tmp 28], argTypes := #[30, 3, 3, 9] }, type := 25, pos := "log.go:245", after := #[{ on := 0, ground := Ground.data }, { on := 4, ground := Ground.data }, { on := 8, ground := Ground.data }, { on := 6, ground := Ground.chain }], guard := none }) rfl (fun K hK => ?_) AllReadyH.nil)
    go_simp
    go_at_call 52
    refine (HPUT2.out _ HB6.out).mono ?_
    rintro e w7 ⟨rfl, hd7, hk7⟩
    have s7 : Row w7 lp 83 (g.cells p) := (hk7.block lp s6.lt HLL.out).trans s6
    have H7 := Lib.hid (And.intro hd7 (And.intro s7 ((Keeps.of_below (L := L) HB6.out (fun q h _ => h)).trans hk7)))
    refine hK.out _ _ s7 (fun hHeld => ?_)
    clear hK K
    try simp only [Act.put, List.setIfInBounds_toArray, List.set_cons_zero, List.set_cons_succ]
    clear hd7 hk7 s6 s7
    refine wpAnyH_ready (rs := [10]) (by kernel_rfl) (by simp) (AllReadyH.cons (o := { dst := some 6, op := Op.assign (Operand.tmp 29), type := 25, pos := "log.go:245", after := #[{ on := 9, ground := Ground.data }, { on := 9, ground := Ground.chain }, { on := 0, ground := Ground.phase }, { on := 1, ground := Ground.phase }, { on := 2, ground := Ground.phase }, { on := 3, ground := Ground.phase }, { on := 4, ground := Ground.phase }, { on := 5, ground := Ground.phase }, { on := 6, ground := Ground.phase }, { on := 7, ground := Ground.phase }, { on := 8, ground := Ground.phase }, { on := 9, ground := Ground.phase }], guard := none }) rfl (fun K hK => ?_) AllReadyH.nil)
    go_simp
    refine hK.out _ _ H7.out.2.1 (fun hHeld => ?_)
    clear hK K
    try simp only [Act.put, List.setIfInBounds_toArray, List.set_cons_zero, List.set_cons_succ]
    refine wpAnyH_done (by kernel_rfl) ?_ _
    refine NoPanic.normal ?_
    by_cases h2 : r2.2 = 0
    · have hG7 : G w7 := G.keeps (w := w5.drew) HG5.out.1 H7.out.2.2 HH.out.2.1
      have hsz7 : w.heap.size ≤ w7.heap.size := Nat.le_trans HG5.out.2 H7.out.2.2.size
      obtain ⟨num, hnum⟩ : ∃ x, g.num = x := ⟨_, rfl⟩
      obtain ⟨m2, hm2⟩ : ∃ x : Int, ((num % 2 : Nat) : Int) = x := ⟨_, rfl⟩
      have HNM : Hid (g.num = num ∧ (num : Int) % 2 = m2 ∧ 0 ≤ m2 ∧ m2 < 2) := Lib.hid ⟨hnum, by omega, by omega, by omega⟩
      obtain ⟨B, hB⟩ : ∃ x, markB num half = x := ⟨_, rfl⟩
      have hBl : B.length = 128 := by rw [← hB]; exact markB_length _ _
      have HMK : Hid (Calls Tryz.prog 89 #[.int .u64 (num : Nat), .int .i64 (half : Nat)] w7.drew fun e w' => e = .returned (.agg (B.map bv).toArray) ∧ Below w7.drew.heap.size w7.drew w') := Lib.hid (by
        have h := mark_any num half (by rw [← hnum]; exact HH.out.2.2.2.2.1.num) (by have := HH.out.2.2.2.2.1.half; have := HGE.out.1; omega) w7.drew hG7
        rw [hB] at h
        exact h)
      have hcc := HH.out.2.2.2.2.2
      have HWR : Hid (∀ W, Below w7.drew.heap.size w7.drew W → Calls Tryz.prog 88 #[.pointer (some ⟨p, 0, none⟩), .int .i64 m2, .agg (B.map bv).toArray] W fun e w' => e = .returned (.int .i64 (r2.1.writeErr m2)) ∧ DiskIs L w' p (r2.1.written m2 B) ∧ Keeps L W w') := Lib.hid fun W hW => by
        have hb2 : Below w7.heap.size w7 W := (below_drewK (Below.refl _ _) 1).trans hW
        obtain ⟨gl9, gm9, hv9, Dm9, hd9⟩ := H7.out.1.below hb2
        exact Write_any (L := L) (fun q hq => Nat.lt_of_lt_of_le (HH.out.2.2.1 q hq) (Nat.le_trans hsz7 hb2.size)) hd9 m2 B hBl (by omega) (by omega)
      have hwc := writ_count r2.1 m2 B
      have HSY : Hid (∀ W, Keeps L w7.drew W → DiskIs L W p (r2.1.written m2 B) → Calls Tryz.prog 90 #[.pointer (some ⟨p, 0, none⟩)] W fun e w' => e = .returned (.int .i64 (r2.1.written m2 B).stepErr) ∧ DiskIs L w' p (r2.1.written m2 B).synced ∧ Keeps L W w') := Lib.hid fun W hW hd => by
        obtain ⟨gl9, gm9, hv9, Dm9, hd9⟩ := hd
        exact Sync_any (L := L) (fun q hq => Nat.lt_of_lt_of_le (HH.out.2.2.1 q hq) (Nat.le_trans hsz7 hW.size)) hd9 (by omega) (by omega)
      have HS7 : Hid (Row w7.drew lp 83 (g.cells p)) := Lib.hid H7.out.2.1
      have hTT := HTT.out
      rw [if_neg (by simp [h1]), if_neg (by simp [h2]), hnum, hm2, HGE.out.1, hB] at hTT
      have HT7 := Lib.hid hTT
      have HK7 := Lib.hid (((Keeps.of_below (L := L) (below_drewK (Below.refl w.heap.size w) 1) (fun q h _ => h)).trans H5.out.2.2).trans (((Keeps.of_below (L := L) (below_drewK (Below.refl w5.heap.size w5) 1) (fun q h _ => h)).trans H7.out.2.2).trans (Keeps.of_below (L := L) (below_drewK (Below.refl w7.heap.size w7) 1) (fun q h _ => h))))
      clear hG7 hsz7 hnum hm2 hB hBl hcc hwc hTT
      go_wp2_with fail
      refine wp_region_noPanic ?_
      refine wp_region_held_drew (S := fun W => Row W lp 83 (g.cells p)) (by kernel_rfl) HS7.out (fun hHeld => ?_)
      refine wpAnyH_take (i := 0) (oi := { dst := some 33, op := Op.move (Operand.tmp 0), type := 30, pos := "log.go:248", after := #[], guard := none }) (v := ?vvc_0) rfl (by kernel_rfl) (by kernel_rfl) (by kernel_rfl) (fun _ _ _ h => h) (Or.inl ⟨by rfl, ?yyc_0⟩) hHeld ?_
      case vvc_0 => exact .pointer (some ⟨lp, 0, none⟩)
      case yyc_0 =>
        intro W hS
        go_simp
      try simp only [Act.put, List.setIfInBounds_toArray, List.set_cons_zero, List.set_cons_succ]
      refine wpAnyH_take (i := 1) (oi := { dst := some 34, op := Op.nilCheck (Operand.tmp 33), type := 0, pos := "log.go:248", after := #[{ on := 0, ground := Ground.data }], guard := none }) (v := ?vvc_1) rfl (by kernel_rfl) (by kernel_rfl) (by kernel_rfl) (fun _ _ _ h => h) (Or.inl ⟨by rfl, ?yyc_1⟩) hHeld ?_
      case vvc_1 => exact .pointer (some ⟨lp, 0, none⟩)
      case yyc_1 =>
        intro W hS
        go_simp
      try simp only [Act.put, List.setIfInBounds_toArray, List.set_cons_zero, List.set_cons_succ]
      refine wpAnyH_take (i := 2) (oi := { dst := some 35, op := Op.fieldAddr 83 (Operand.tmp 34) 0, type := 0, pos := "log.go:248", after := #[{ on := 1, ground := Ground.data }], guard := none }) (v := ?vvc_2) rfl (by kernel_rfl) (by kernel_rfl) (by kernel_rfl) (fun _ _ _ h => h) (Or.inl ⟨by rfl, ?yyc_2⟩) hHeld ?_
      case vvc_2 => exact .pointer (some ⟨lp, 0, none⟩)
      case yyc_2 =>
        intro W hS
        go_simp
      try simp only [Act.put, List.setIfInBounds_toArray, List.set_cons_zero, List.set_cons_succ]
      refine wpAnyH_take (i := 3) (oi := { dst := some 36, op := Op.load 24 (Operand.tmp 35), type := 24, pos := "log.go:248", after := #[{ on := 2, ground := Ground.data }], guard := none }) (v := ?vvc_3) rfl (by kernel_rfl) (by kernel_rfl) (by kernel_rfl) (fun _ _ _ h => h) (Or.inl ⟨by rfl, ?yyc_3⟩) hHeld ?_
      case vvc_3 => exact .pointer (some ⟨p, 0, none⟩)
      case yyc_3 =>
        intro W hS
        have q0 := Row.cell hS 0
        simp only [LG.cells, List.getElem?_cons_zero, List.getElem?_cons_succ] at q0
        go_simp
      try simp only [Act.put, List.setIfInBounds_toArray, List.set_cons_zero, List.set_cons_succ]
      refine wpAnyH_take (i := 4) (oi := { dst := some 37, op := Op.move (Operand.tmp 0), type := 30, pos := "log.go:248", after := #[], guard := none }) (v := ?vvc_4) rfl (by kernel_rfl) (by kernel_rfl) (by kernel_rfl) (fun _ _ _ h => h) (Or.inl ⟨by rfl, ?yyc_4⟩) hHeld ?_
      case vvc_4 => exact .pointer (some ⟨lp, 0, none⟩)
      case yyc_4 =>
        intro W hS
        go_simp
      try simp only [Act.put, List.setIfInBounds_toArray, List.set_cons_zero, List.set_cons_succ]
      refine wpAnyH_take (i := 5) (oi := { dst := some 38, op := Op.nilCheck (Operand.tmp 37), type := 0, pos := "log.go:248", after := #[{ on := 4, ground := Ground.data }], guard := none }) (v := ?vvc_5) rfl (by kernel_rfl) (by kernel_rfl) (by kernel_rfl) (fun _ _ _ h => h) (Or.inl ⟨by rfl, ?yyc_5⟩) hHeld ?_
      case vvc_5 => exact .pointer (some ⟨lp, 0, none⟩)
      case yyc_5 =>
        intro W hS
        go_simp
      try simp only [Act.put, List.setIfInBounds_toArray, List.set_cons_zero, List.set_cons_succ]
      refine wpAnyH_take (i := 6) (oi := { dst := some 39, op := Op.fieldAddr 83 (Operand.tmp 38) 1, type := 0, pos := "log.go:248", after := #[{ on := 5, ground := Ground.data }], guard := none }) (v := ?vvc_6) rfl (by kernel_rfl) (by kernel_rfl) (by kernel_rfl) (fun _ _ _ h => h) (Or.inl ⟨by rfl, ?yyc_6⟩) hHeld ?_
      case vvc_6 => exact .pointer (some ⟨lp, 1, none⟩)
      case yyc_6 =>
        intro W hS
        go_simp
      try simp only [Act.put, List.setIfInBounds_toArray, List.set_cons_zero, List.set_cons_succ]
      refine wpAnyH_take (i := 7) (oi := { dst := some 40, op := Op.load 35 (Operand.tmp 39), type := 35, pos := "log.go:248", after := #[{ on := 6, ground := Ground.data }], guard := none }) (v := ?vvc_7) rfl (by kernel_rfl) (by kernel_rfl) (by kernel_rfl) (fun _ _ _ h => h) (Or.inl ⟨by rfl, ?yyc_7⟩) hHeld ?_
      case vvc_7 => exact .int .u64 (num : Nat)
      case yyc_7 =>
        intro W hS
        have q0 := Row.cell hS 1
        simp only [LG.cells, List.getElem?_cons_zero, List.getElem?_cons_succ, HNM.out.1] at q0
        go_simp
      try simp only [Act.put, List.setIfInBounds_toArray, List.set_cons_zero, List.set_cons_succ]
      refine wpAnyH_take (i := 8) (oi := { dst := some 41, op := Op.binOp BinOp.rem 35 (Operand.tmp 40) (Operand.const (Value.int IntKind.u64 2)) 35, type := 35, pos := "log.go:248", after := #[{ on := 7, ground := Ground.data }], guard := none }) (v := ?vvc_8) rfl (by kernel_rfl) (by kernel_rfl) (by kernel_rfl) (fun _ _ _ h => h) (Or.inl ⟨by rfl, ?yyc_8⟩) hHeld ?_
      case vvc_8 => exact .int .u64 m2
      case yyc_8 =>
        intro W hS
        have q0 := HNM.out.2.1
        go_simp
        rw [Int.tmod_eq_emod_of_nonneg (by omega)]
        exact q0
      try simp only [Act.put, List.setIfInBounds_toArray, List.set_cons_zero, List.set_cons_succ]
      refine wpAnyH_take (i := 9) (oi := { dst := some 42, op := Op.convert 35 3 (Operand.tmp 41), type := 3, pos := "log.go:248", after := #[{ on := 8, ground := Ground.data }], guard := none }) (v := ?vvc_9) rfl (by kernel_rfl) (by kernel_rfl) (by kernel_rfl) (fun _ _ _ h => h) (Or.inl ⟨by rfl, ?yyc_9⟩) hHeld ?_
      case vvc_9 => exact .int .i64 m2
      case yyc_9 =>
        intro W hS
        have q0 := HNM.out.2.2
        go_simp
        try (rw [IntKind.wrap_i64] <;> omega)
      try simp only [Act.put, List.setIfInBounds_toArray, List.set_cons_zero, List.set_cons_succ]
      refine wpAnyH_take (i := 10) (oi := { dst := some 43, op := Op.move (Operand.tmp 0), type := 30, pos := "log.go:248", after := #[], guard := none }) (v := ?vvc_10) rfl (by kernel_rfl) (by kernel_rfl) (by kernel_rfl) (fun _ _ _ h => h) (Or.inl ⟨by rfl, ?yyc_10⟩) hHeld ?_
      case vvc_10 => exact .pointer (some ⟨lp, 0, none⟩)
      case yyc_10 =>
        intro W hS
        go_simp
      try simp only [Act.put, List.setIfInBounds_toArray, List.set_cons_zero, List.set_cons_succ]
      refine wpAnyH_take (i := 11) (oi := { dst := some 44, op := Op.nilCheck (Operand.tmp 43), type := 0, pos := "log.go:248", after := #[{ on := 10, ground := Ground.data }], guard := none }) (v := ?vvc_11) rfl (by kernel_rfl) (by kernel_rfl) (by kernel_rfl) (fun _ _ _ h => h) (Or.inl ⟨by rfl, ?yyc_11⟩) hHeld ?_
      case vvc_11 => exact .pointer (some ⟨lp, 0, none⟩)
      case yyc_11 =>
        intro W hS
        go_simp
      try simp only [Act.put, List.setIfInBounds_toArray, List.set_cons_zero, List.set_cons_succ]
      refine wpAnyH_take (i := 12) (oi := { dst := some 45, op := Op.fieldAddr 83 (Operand.tmp 44) 1, type := 0, pos := "log.go:248", after := #[{ on := 11, ground := Ground.data }], guard := none }) (v := ?vvc_12) rfl (by kernel_rfl) (by kernel_rfl) (by kernel_rfl) (fun _ _ _ h => h) (Or.inl ⟨by rfl, ?yyc_12⟩) hHeld ?_
      case vvc_12 => exact .pointer (some ⟨lp, 1, none⟩)
      case yyc_12 =>
        intro W hS
        go_simp
      try simp only [Act.put, List.setIfInBounds_toArray, List.set_cons_zero, List.set_cons_succ]
      refine wpAnyH_take (i := 13) (oi := { dst := some 46, op := Op.load 35 (Operand.tmp 45), type := 35, pos := "log.go:248", after := #[{ on := 12, ground := Ground.data }], guard := none }) (v := ?vvc_13) rfl (by kernel_rfl) (by kernel_rfl) (by kernel_rfl) (fun _ _ _ h => h) (Or.inl ⟨by rfl, ?yyc_13⟩) hHeld ?_
      case vvc_13 => exact .int .u64 (num : Nat)
      case yyc_13 =>
        intro W hS
        have q0 := Row.cell hS 1
        simp only [LG.cells, List.getElem?_cons_zero, List.getElem?_cons_succ, HNM.out.1] at q0
        go_simp
      try simp only [Act.put, List.setIfInBounds_toArray, List.set_cons_zero, List.set_cons_succ]
      refine wpAnyH_take (i := 14) (oi := { dst := some 47, op := Op.move (Operand.tmp 0), type := 30, pos := "log.go:248", after := #[], guard := none }) (v := ?vvc_14) rfl (by kernel_rfl) (by kernel_rfl) (by kernel_rfl) (fun _ _ _ h => h) (Or.inl ⟨by rfl, ?yyc_14⟩) hHeld ?_
      case vvc_14 => exact .pointer (some ⟨lp, 0, none⟩)
      case yyc_14 =>
        intro W hS
        go_simp
      try simp only [Act.put, List.setIfInBounds_toArray, List.set_cons_zero, List.set_cons_succ]
      refine wpAnyH_take (i := 15) (oi := { dst := some 48, op := Op.nilCheck (Operand.tmp 47), type := 0, pos := "log.go:248", after := #[{ on := 14, ground := Ground.data }], guard := none }) (v := ?vvc_15) rfl (by kernel_rfl) (by kernel_rfl) (by kernel_rfl) (fun _ _ _ h => h) (Or.inl ⟨by rfl, ?yyc_15⟩) hHeld ?_
      case vvc_15 => exact .pointer (some ⟨lp, 0, none⟩)
      case yyc_15 =>
        intro W hS
        go_simp
      try simp only [Act.put, List.setIfInBounds_toArray, List.set_cons_zero, List.set_cons_succ]
      refine wpAnyH_take (i := 16) (oi := { dst := some 49, op := Op.fieldAddr 83 (Operand.tmp 48) 2, type := 0, pos := "log.go:248", after := #[{ on := 15, ground := Ground.data }], guard := none }) (v := ?vvc_16) rfl (by kernel_rfl) (by kernel_rfl) (by kernel_rfl) (fun _ _ _ h => h) (Or.inl ⟨by rfl, ?yyc_16⟩) hHeld ?_
      case vvc_16 => exact .pointer (some ⟨lp, 2, none⟩)
      case yyc_16 =>
        intro W hS
        go_simp
      try simp only [Act.put, List.setIfInBounds_toArray, List.set_cons_zero, List.set_cons_succ]
      refine wpAnyH_take (i := 17) (oi := { dst := some 50, op := Op.load 3 (Operand.tmp 49), type := 3, pos := "log.go:248", after := #[{ on := 16, ground := Ground.data }], guard := none }) (v := ?vvc_17) rfl (by kernel_rfl) (by kernel_rfl) (by kernel_rfl) (fun _ _ _ h => h) (Or.inl ⟨by rfl, ?yyc_17⟩) hHeld ?_
      case vvc_17 => exact .int .i64 (half : Nat)
      case yyc_17 =>
        intro W hS
        have q0 := Row.cell hS 2
        simp only [LG.cells, List.getElem?_cons_zero, List.getElem?_cons_succ, HGE.out.1] at q0
        go_simp
      try simp only [Act.put, List.setIfInBounds_toArray, List.set_cons_zero, List.set_cons_succ]
      refine wpAnyH_ready (rs := [18]) (by kernel_rfl) (by simp) (AllReadyH.cons (o := { dst := some 51, op := Op.call { callee := Callee.value (Operand.func 89), args := #[Operand.tmp 46, Operand.tmp 50], argTypes := #[35, 3] }, type := 90, pos := "log.go:248", after := #[{ on := 13, ground := Ground.data }, { on := 17, ground := Ground.data }], guard := none }) rfl (fun K hK => ?_) AllReadyH.nil)
      go_simp
      go_at_call 89
      refine HMK.out.mono ?_
      rintro e w8 ⟨rfl, hb8⟩
      have s8 : Row w8 lp 83 (g.cells p) := HS7.out.below hb8 HS7.out.lt
      have HB8 := Lib.hid hb8
      clear hb8
      refine hK.out _ _ s8 (fun hHeld => ?_)
      clear hK K
      try simp only [Act.put, List.setIfInBounds_toArray, List.set_cons_zero, List.set_cons_succ]
      refine wpAnyH_ready (rs := [19]) (by kernel_rfl) (by simp) (AllReadyH.cons (o := { dst := some 52, op := Op.call { callee := Callee.value (Operand.func 88), args := #[Operand.tmp 36, Operand.tmp 42, Operand.tmp 51], argTypes := #[24, 3, 90] }, type := 25, pos := "log.go:248", after := #[{ on := 3, ground := Ground.data }, { on := 9, ground := Ground.data }, { on := 18, ground := Ground.data }, { on := 18, ground := Ground.chain }], guard := none }) rfl (fun K hK => ?_) AllReadyH.nil)
      go_simp
      go_at_call 88
      refine (HWR.out _ HB8.out).mono ?_
      rintro e w9 ⟨rfl, hd9, hk9⟩
      have s9 : Row w9 lp 83 (g.cells p) := (hk9.block lp s8.lt HLL.out).trans s8
      have H9 := Lib.hid (And.intro hd9 (And.intro s9 ((Keeps.of_below (L := L) HB8.out (fun q h _ => h)).trans hk9)))
      refine hK.out _ _ s9 (fun hHeld => ?_)
      clear hK K
      try simp only [Act.put, List.setIfInBounds_toArray, List.set_cons_zero, List.set_cons_succ]
      clear hd9 hk9 s8 s9
      refine wpAnyH_ready (rs := [20]) (by kernel_rfl) (by simp) (AllReadyH.cons (o := { dst := some 7, op := Op.assign (Operand.tmp 52), type := 25, pos := "log.go:248", after := #[{ on := 19, ground := Ground.data }, { on := 19, ground := Ground.chain }, { on := 0, ground := Ground.phase }, { on := 1, ground := Ground.phase }, { on := 2, ground := Ground.phase }, { on := 3, ground := Ground.phase }, { on := 4, ground := Ground.phase }, { on := 5, ground := Ground.phase }, { on := 6, ground := Ground.phase }, { on := 7, ground := Ground.phase }, { on := 8, ground := Ground.phase }, { on := 9, ground := Ground.phase }, { on := 10, ground := Ground.phase }, { on := 11, ground := Ground.phase }, { on := 12, ground := Ground.phase }, { on := 13, ground := Ground.phase }, { on := 14, ground := Ground.phase }, { on := 15, ground := Ground.phase }, { on := 16, ground := Ground.phase }, { on := 17, ground := Ground.phase }, { on := 18, ground := Ground.phase }, { on := 19, ground := Ground.phase }], guard := none }) rfl (fun K hK => ?_) AllReadyH.nil)
      go_simp
      refine hK.out _ _ H9.out.2.1 (fun hHeld => ?_)
      clear hK K
      try simp only [Act.put, List.setIfInBounds_toArray, List.set_cons_zero, List.set_cons_succ]
      refine wpAnyH_done (by kernel_rfl) ?_ _
      refine NoPanic.normal ?_
      obtain ⟨WE, hWE⟩ : ∃ x, r2.1.writeErr m2 = x := ⟨_, rfl⟩
      have HT8 := HT7.out
      rw [hWE] at HT8 ⊢
      have HT8 := Lib.hid HT8
      clear hWE
      by_cases h3 : WE = 0
      · have hTT := HT8.out
        rw [if_neg (by simp [h3])] at hTT
        have HT2 := Lib.hid hTT
        have c0 := H9.out.2.1.cell 0
        simp only [LG.cells, List.getElem?_cons_zero] at c0
        clear hTT
        go_wp2_with fail
        refine (HSY.out _ H9.out.2.2 H9.out.1).mono ?_
        rintro e w10 ⟨rfl, hd10, hk10⟩
        have H10 := Lib.hid (And.intro hd10 hk10)
        clear hd10 hk10
        go_wp2_with fail
        go_ret
        rw [← HT2.out]
        exact ⟨rfl, H10.out.1, (HK7.out.trans H9.out.2.2).trans H10.out.2⟩
      · have hTT := HT8.out
        rw [if_pos h3] at hTT
        have HT2 := Lib.hid hTT
        clear hTT
        go_wp2_with fail
        go_ret
        rw [← HT2.out]
        exact ⟨rfl, H9.out.1, HK7.out.trans H9.out.2.2⟩
    · have hTT := HTT.out
      rw [if_neg (by simp [h1]), if_pos h2] at hTT
      have HT2 := Lib.hid hTT
      clear hTT
      go_wp2_with fail
      go_ret
      rw [← HT2.out]
      exact ⟨rfl, H7.out.1, ((Keeps.of_below (L := L) (below_drewK (Below.refl w.heap.size w) 1) (fun q h _ => h)).trans H5.out.2.2).trans ((Keeps.of_below (L := L) (below_drewK (Below.refl w5.heap.size w5) 1) (fun q h _ => h)).trans H7.out.2.2)⟩
  · have hTT := HTT.out
    rw [if_pos h1] at hTT
    have HT2 := Lib.hid hTT
    clear hTT
    go_wp2_with fail
    go_ret
    rw [← HT2.out]
    exact ⟨rfl, H5.out.1, (Keeps.of_below (L := L) (below_drewK (Below.refl w.heap.size w) 1) (fun q h _ => h)).trans H5.out.2.2⟩
end
end Go.Proofs.YtiaaeniopjpfpaaGreatDoor

namespace Go.Proofs.YtiaaeniopjpfpaaGreatDoor
open Go Go.RowKit Go.Maps
set_option linter.unusedVariables false
set_option linter.unusedSimpArgs false

theorem oAdd_any (a b : Int) (w : World) (ha : 0 ≤ a) (ha' : a ≤ 18446744073709551615) (hb : 0 ≤ b) (hb' : b ≤ 18446744073709551615) :
    Calls Tryz.prog 46 #[.int .u64 a, .int .u64 b] w fun e w' => e = .returned (.int .u64 (min (a + b) 18446744073709551615)) ∧ w = w' := by
  go_enter Tryz.func46, Tryz.ntmps46
  go_wp2
  all_goals
    go_ret
    exact ⟨ret_int (by omega), rfl⟩
def LG.next (g : LG) (t : List UInt8) : LG := ⟨g.num + 1, 1 - g.half, 1, t.length + 28, 0⟩
def LG.renew (g : LG) (D : DS) (t : List UInt8) : (LG × DS) × Int :=
  if ((g.next t).begins D t).2 ≠ 0 then (({ g with err := ((g.next t).begins D t).2 }, ((g.next t).begins D t).1), ((g.next t).begins D t).2) else ((g.next t, ((g.next t).begins D t).1), 0)
section
variable {L : Nat → Prop} {w : World} {lp p gl gm : Nat} {hv : Value} {Dm : DataW Unit} {D : DS} {g : LG}
set_option maxRecDepth 20000 in
set_option maxHeartbeats 2000000 in
theorem Renew_any (hG : G w) (hLG : L 0) (hL : ∀ k, L k → k < w.heap.size) (hlp : L lp) (hne : 0 ≠ lp) (hr : Row w lp 83 (g.cells p)) (hd : DiskIs L w p D) (hh : g.half ≤ 1) (hnum : g.num + 1 < 18446744073709551616)
    (hs : D.steps ≤ 900000) (hhg : D.hangs.length ≤ 900000) (t : List UInt8) (he : g.err = 0) (hroom : t.length + 28 ≤ secs D * 128) (ht : t.length ≤ 100000) :
    Calls Tryz.prog 13 #[.pointer (some ⟨lp, 0, none⟩), .string (tx t)] w fun e w' => e = .returned (.int .i64 (g.renew D t).2) ∧ Row w' lp 83 ((g.renew D t).1.1.cells p) ∧ DiskIs L w' p (g.renew D t).1.2 ∧ Keeps (fun k => L k ∧ k ≠ lp) w w' := by
  obtain ⟨gl0, gm0, hv0, Dm0, hd0⟩ := id hd
  have hsec := (secs_le hd0).1
  have HERR := Lib.hid (Err_any hr)
  rw [he] at HERR
  have HSZ := Lib.hid (size_any hr hd0)
  obtain ⟨g2, hg2⟩ : ∃ x, g.next t = x := ⟨_, rfl⟩
  obtain ⟨r, hrr⟩ : ∃ x, g2.begins D t = x := ⟨_, rfl⟩
  unfold LG.renew
  rw [hg2, hrr]
  obtain ⟨TT, hTT⟩ : ∃ TT, (if r.2 ≠ 0 then (({ g with err := r.2 }, r.1), r.2) else ((g2, r.1), 0) : (LG × DS) × Int) = TT := ⟨_, rfl⟩
  rw [hTT]
  have HTT := Lib.hid hTT
  obtain ⟨sz, hsz⟩ : ∃ x, secs D * 128 = x := ⟨_, rfl⟩
  rw [hsz] at HSZ hroom
  obtain ⟨k, hk⟩ : ∃ x, t.length = x := ⟨_, rfl⟩
  obtain ⟨num, hnu⟩ : ∃ x, g.num = x := ⟨_, rfl⟩
  obtain ⟨half, hhalf⟩ : ∃ x, g.half = x := ⟨_, rfl⟩
  obtain ⟨half2, hhalf2⟩ : ∃ x, 1 - half = x := ⟨_, rfl⟩
  have hg2c : g2 = ⟨num + 1, half2, 1, k + 28, 0⟩ := by rw [← hg2]; unfold LG.next; rw [hnu, hhalf, hk, hhalf2]
  have HGE := Lib.hid (And.intro hnu hhalf)
  have HH2 : Hid (1 - (half : Int) = (half2 : Int)) := Lib.hid (by omega)
  have hnI : (num : Int) + 1 ≤ 18446744073709551615 := by omega
  have HOA : Hid (∀ W, Calls Tryz.prog 46 #[.int .u64 (num : Nat), .int .u64 1] W fun e w' => e = .returned (.int .u64 ((num : Int) + 1)) ∧ W = w') := Lib.hid fun W => by
    have h := oAdd_any (num : Nat) 1 W (by omega) (by omega) (by omega) (by omega)
    rw [Int.min_eq_left hnI] at h
    exact h
  have HN : Hid (∀ W, Calls Tryz.prog 28 #[.int .i64 (k : Nat)] W fun e w' => e = .returned (.int .i64 ((k : Int) + 28)) ∧ W = w') := Lib.hid fun W => Need_any k (by omega) W
  have HG2 := Lib.hid hg2c
  have HOK : Hid g2.ok := Lib.hid (by rw [hg2c]; exact ⟨by show num + 1 < _; omega, by show half2 ≤ 1; omega⟩)
  have HTL : Hid (t.length ≤ 100000) := Lib.hid (by omega)
  have hh2I : (half2 : Int) ≤ 1 := by omega
  clear hg2c
  have HRWW : Hid (∀ W, SB w W → ∀ i, W.cell? ⟨lp, i, none⟩ = (g.cells p)[i]?) := Lib.hid fun W h i => (hr.below h hr.lt).cell i
  have hts : (tx t).size = k := by rw [tx_size, hk]
  obtain ⟨T, hT⟩ : ∃ T, tx t = T := ⟨_, rfl⟩
  have HXT := Lib.hid hT
  rw [hT] at hts ⊢
  have hkI : (k : Int) + 28 ≤ (sz : Int) := by omega
  have hkJ : (k : Int) ≤ 100000 := by omega
  have HH := Lib.hid (And.intro hG (And.intro hLG (And.intro hL (And.intro hlp (And.intro hr (And.intro hd (And.intro hs (And.intro hhg hrr))))))))
  clear hG hLG hL hlp hr hd hs hhg hrr he hroom ht hsz hk hnu hhalf hhalf2 hT hTT hd0 hsec hh hnum hg2 hnI
  go_enter Tryz.func13, Tryz.ntmps13
  go_wp2_with fail
  refine HERR.out.mono ?_
  rintro e w1 ⟨rfl, rfl⟩
  go_wp2_with fail
  refine (HN.out _).mono ?_
  rintro e w1 ⟨rfl, rfl⟩
  go_wp2_with fail
  refine HSZ.out.mono ?_
  rintro e w1 ⟨rfl, rfl⟩
  go_wp2_with fail
  refine wp_region_noPanic ?_
  refine wp_region_held_drew (S := fun W => SB w W) (by kernel_rfl) (SB.dr (Below.refl _ _)) (fun hHeld => ?_)
  refine wpAnyH_take (i := 0) (oi := { dst := some 19, op := Op.move (Operand.tmp 0), type := 30, pos := "log.go:231", after := #[], guard := none }) (v := ?vva_0) rfl (by kernel_rfl) (by kernel_rfl) (by kernel_rfl) (fun _ _ _ h => h) (Or.inl ⟨by rfl, ?yya_0⟩) hHeld ?_
  case vva_0 => exact .pointer (some ⟨lp, 0, none⟩)
  case yya_0 =>
    intro W hS
    go_simp
  try simp only [Act.put, List.setIfInBounds_toArray, List.set_cons_zero, List.set_cons_succ]
  refine wpAnyH_take (i := 1) (oi := { dst := some 20, op := Op.nilCheck (Operand.tmp 19), type := 0, pos := "log.go:231", after := #[{ on := 0, ground := Ground.data }], guard := none }) (v := ?vva_1) rfl (by kernel_rfl) (by kernel_rfl) (by kernel_rfl) (fun _ _ _ h => h) (Or.inl ⟨by rfl, ?yya_1⟩) hHeld ?_
  case vva_1 => exact .pointer (some ⟨lp, 0, none⟩)
  case yya_1 =>
    intro W hS
    go_simp
  try simp only [Act.put, List.setIfInBounds_toArray, List.set_cons_zero, List.set_cons_succ]
  refine wpAnyH_take (i := 2) (oi := { dst := some 21, op := Op.fieldAddr 83 (Operand.tmp 20) 0, type := 0, pos := "log.go:231", after := #[{ on := 1, ground := Ground.data }], guard := none }) (v := ?vva_2) rfl (by kernel_rfl) (by kernel_rfl) (by kernel_rfl) (fun _ _ _ h => h) (Or.inl ⟨by rfl, ?yya_2⟩) hHeld ?_
  case vva_2 => exact .pointer (some ⟨lp, 0, none⟩)
  case yya_2 =>
    intro W hS
    go_simp
  try simp only [Act.put, List.setIfInBounds_toArray, List.set_cons_zero, List.set_cons_succ]
  refine wpAnyH_take (i := 3) (oi := { dst := some 22, op := Op.load 24 (Operand.tmp 21), type := 24, pos := "log.go:231", after := #[{ on := 2, ground := Ground.data }], guard := none }) (v := ?vva_3) rfl (by kernel_rfl) (by kernel_rfl) (by kernel_rfl) (fun _ _ _ h => h) (Or.inl ⟨by rfl, ?yya_3⟩) hHeld ?_
  case vva_3 => exact .pointer (some ⟨p, 0, none⟩)
  case yya_3 =>
    intro W hS
    have q0 := HRWW.out W hS 0
    simp only [LG.cells, List.getElem?_cons_zero, List.getElem?_cons_succ] at q0
    go_simp
  try simp only [Act.put, List.setIfInBounds_toArray, List.set_cons_zero, List.set_cons_succ]
  refine wpAnyH_take (i := 4) (oi := { dst := some 23, op := Op.move (Operand.tmp 0), type := 30, pos := "log.go:231", after := #[], guard := none }) (v := ?vva_4) rfl (by kernel_rfl) (by kernel_rfl) (by kernel_rfl) (fun _ _ _ h => h) (Or.inl ⟨by rfl, ?yya_4⟩) hHeld ?_
  case vva_4 => exact .pointer (some ⟨lp, 0, none⟩)
  case yya_4 =>
    intro W hS
    go_simp
  try simp only [Act.put, List.setIfInBounds_toArray, List.set_cons_zero, List.set_cons_succ]
  refine wpAnyH_take (i := 5) (oi := { dst := some 24, op := Op.nilCheck (Operand.tmp 23), type := 0, pos := "log.go:231", after := #[{ on := 4, ground := Ground.data }], guard := none }) (v := ?vva_5) rfl (by kernel_rfl) (by kernel_rfl) (by kernel_rfl) (fun _ _ _ h => h) (Or.inl ⟨by rfl, ?yya_5⟩) hHeld ?_
  case vva_5 => exact .pointer (some ⟨lp, 0, none⟩)
  case yya_5 =>
    intro W hS
    go_simp
  try simp only [Act.put, List.setIfInBounds_toArray, List.set_cons_zero, List.set_cons_succ]
  refine wpAnyH_take (i := 6) (oi := { dst := some 25, op := Op.fieldAddr 83 (Operand.tmp 24) 1, type := 0, pos := "log.go:231", after := #[{ on := 5, ground := Ground.data }], guard := none }) (v := ?vva_6) rfl (by kernel_rfl) (by kernel_rfl) (by kernel_rfl) (fun _ _ _ h => h) (Or.inl ⟨by rfl, ?yya_6⟩) hHeld ?_
  case vva_6 => exact .pointer (some ⟨lp, 1, none⟩)
  case yya_6 =>
    intro W hS
    go_simp
  try simp only [Act.put, List.setIfInBounds_toArray, List.set_cons_zero, List.set_cons_succ]
  refine wpAnyH_take (i := 7) (oi := { dst := some 26, op := Op.load 35 (Operand.tmp 25), type := 35, pos := "log.go:231", after := #[{ on := 6, ground := Ground.data }], guard := none }) (v := ?vva_7) rfl (by kernel_rfl) (by kernel_rfl) (by kernel_rfl) (fun _ _ _ h => h) (Or.inl ⟨by rfl, ?yya_7⟩) hHeld ?_
  case vva_7 => exact .int .u64 (num : Nat)
  case yya_7 =>
    intro W hS
    have q0 := HRWW.out W hS 1
    simp only [LG.cells, List.getElem?_cons_zero, List.getElem?_cons_succ, HGE.out.1] at q0
    go_simp
  try simp only [Act.put, List.setIfInBounds_toArray, List.set_cons_zero, List.set_cons_succ]
  refine wpAnyH_take (i := 9) (oi := { dst := some 28, op := Op.move (Operand.tmp 0), type := 30, pos := "log.go:231", after := #[], guard := none }) (v := ?vva_9) rfl (by kernel_rfl) (by kernel_rfl) (by kernel_rfl) (fun _ _ _ h => h) (Or.inl ⟨by rfl, ?yya_9⟩) hHeld ?_
  case vva_9 => exact .pointer (some ⟨lp, 0, none⟩)
  case yya_9 =>
    intro W hS
    go_simp
  try simp only [Act.put, List.setIfInBounds_toArray, List.set_cons_zero, List.set_cons_succ]
  refine wpAnyH_take (i := 10) (oi := { dst := some 29, op := Op.nilCheck (Operand.tmp 28), type := 0, pos := "log.go:231", after := #[{ on := 9, ground := Ground.data }], guard := none }) (v := ?vva_10) rfl (by kernel_rfl) (by kernel_rfl) (by kernel_rfl) (fun _ _ _ h => h) (Or.inl ⟨by rfl, ?yya_10⟩) hHeld ?_
  case vva_10 => exact .pointer (some ⟨lp, 0, none⟩)
  case yya_10 =>
    intro W hS
    go_simp
  try simp only [Act.put, List.setIfInBounds_toArray, List.set_cons_zero, List.set_cons_succ]
  refine wpAnyH_take (i := 11) (oi := { dst := some 30, op := Op.fieldAddr 83 (Operand.tmp 29) 2, type := 0, pos := "log.go:231", after := #[{ on := 10, ground := Ground.data }], guard := none }) (v := ?vva_11) rfl (by kernel_rfl) (by kernel_rfl) (by kernel_rfl) (fun _ _ _ h => h) (Or.inl ⟨by rfl, ?yya_11⟩) hHeld ?_
  case vva_11 => exact .pointer (some ⟨lp, 2, none⟩)
  case yya_11 =>
    intro W hS
    go_simp
  try simp only [Act.put, List.setIfInBounds_toArray, List.set_cons_zero, List.set_cons_succ]
  refine wpAnyH_take (i := 12) (oi := { dst := some 31, op := Op.load 3 (Operand.tmp 30), type := 3, pos := "log.go:231", after := #[{ on := 11, ground := Ground.data }], guard := none }) (v := ?vva_12) rfl (by kernel_rfl) (by kernel_rfl) (by kernel_rfl) (fun _ _ _ h => h) (Or.inl ⟨by rfl, ?yya_12⟩) hHeld ?_
  case vva_12 => exact .int .i64 (half : Nat)
  case yya_12 =>
    intro W hS
    have q0 := HRWW.out W hS 2
    simp only [LG.cells, List.getElem?_cons_zero, List.getElem?_cons_succ, HGE.out.2] at q0
    go_simp
  try simp only [Act.put, List.setIfInBounds_toArray, List.set_cons_zero, List.set_cons_succ]
  refine wpAnyH_take (i := 13) (oi := { dst := some 32, op := Op.binOp BinOp.sub 3 (Operand.const (Value.int IntKind.i64 1)) (Operand.tmp 31) 3, type := 3, pos := "log.go:231", after := #[{ on := 12, ground := Ground.data }], guard := none }) (v := ?vva_13) rfl (by kernel_rfl) (by kernel_rfl) (by kernel_rfl) (fun _ _ _ h => h) (Or.inl ⟨by rfl, ?yya_13⟩) hHeld ?_
  case vva_13 => exact .int .i64 (half2 : Nat)
  case yya_13 =>
    intro W hS
    have q0 := HH2.out
    go_simp
    rw [IntKind.wrap_i64] <;> omega
  try simp only [Act.put, List.setIfInBounds_toArray, List.set_cons_zero, List.set_cons_succ]
  refine wpAnyH_take (i := 14) (oi := { dst := some 33, op := Op.move (Operand.tmp 1), type := 9, pos := "log.go:231", after := #[], guard := none }) (v := ?vva_14) rfl (by kernel_rfl) (by kernel_rfl) (by kernel_rfl) (fun _ _ _ h => h) (Or.inl ⟨by rfl, ?yya_14⟩) hHeld ?_
  case vva_14 => exact .string T
  case yya_14 =>
    intro W hS
    go_simp
  try simp only [Act.put, List.setIfInBounds_toArray, List.set_cons_zero, List.set_cons_succ]
  refine wpAnyH_take (i := 15) (oi := { dst := some 34, op := Op.call { callee := Callee.builtin Builtin.len, args := #[Operand.tmp 33], argTypes := #[9] }, type := 3, pos := "log.go:231", after := #[{ on := 14, ground := Ground.data }], guard := none }) (v := ?vva_15) rfl (by kernel_rfl) (by kernel_rfl) (by kernel_rfl) (fun _ _ _ h => h) (Or.inl ⟨by rfl, ?yya_15⟩) hHeld ?_
  case vva_15 => exact .int .i64 (k : Nat)
  case yya_15 =>
    intro W hS
    go_simp
  try simp only [Act.put, List.setIfInBounds_toArray, List.set_cons_zero, List.set_cons_succ]
  refine wpAnyH_ready (rs := [8]) (by kernel_rfl) (by simp) (AllReadyH.cons (o := { dst := some 27, op := Op.call { callee := Callee.value (Operand.func 46), args := #[Operand.tmp 26, Operand.const (Value.int IntKind.u64 1)], argTypes := #[35, 35] }, type := 35, pos := "log.go:231", after := #[{ on := 7, ground := Ground.data }], guard := none }) rfl (fun K hK => ?_) AllReadyH.nil)
  go_simp
  go_at_call 46
  refine (HOA.out _).mono ?_
  rintro e wx ⟨rfl, rfl⟩
  refine hK.out _ _ (SB.dr (Below.refl _ _)) (fun hHeld => ?_)
  clear hK K
  try simp only [Act.put, List.setIfInBounds_toArray, List.set_cons_zero, List.set_cons_succ]
  refine wpAnyH_ready (rs := [16]) (by kernel_rfl) (by simp) (AllReadyH.cons (o := { dst := some 35, op := Op.call { callee := Callee.value (Operand.func 28), args := #[Operand.tmp 34], argTypes := #[3] }, type := 3, pos := "log.go:231", after := #[{ on := 15, ground := Ground.data }, { on := 8, ground := Ground.chain }], guard := none }) rfl (fun K hK => ?_) AllReadyH.nil)
  go_simp
  go_at_call 28
  refine (HN.out _).mono ?_
  rintro e wx ⟨rfl, rfl⟩
  refine hK.out _ _ (SB.dr (Below.refl _ _)) (fun hHeld => ?_)
  clear hK K
  try simp only [Act.put, List.setIfInBounds_toArray, List.set_cons_zero, List.set_cons_succ]
  refine wpAnyH_take (i := 17) (oi := { dst := some 36, op := Op.build 83 #[(0, Operand.tmp 22), (1, Operand.tmp 27), (2, Operand.tmp 32), (3, Operand.const (Value.int IntKind.i64 1)), (4, Operand.tmp 35)], type := 83, pos := "log.go:231", after := #[{ on := 3, ground := Ground.data }, { on := 8, ground := Ground.data }, { on := 13, ground := Ground.data }, { on := 16, ground := Ground.data }], guard := none }) (v := ?vva_17) rfl (by kernel_rfl) (by kernel_rfl) (by kernel_rfl) (fun _ _ _ h => h) (Or.inl ⟨by rfl, ?yya_17⟩) hHeld ?_
  case vva_17 => exact .agg #[.pointer (some ⟨p, 0, none⟩), .int .u64 ((num : Int) + 1), .int .i64 (half2 : Nat), .int .i64 1, .int .i64 ((k : Int) + 28), .int .i64 0]
  case yya_17 =>
    intro W hS
    go_simp
  try simp only [Act.put, List.setIfInBounds_toArray, List.set_cons_zero, List.set_cons_succ]
  refine wpAnyH_ready (rs := [18]) (by kernel_rfl) (by simp) (AllReadyH.cons (o := { dst := some 37, op := Op.box 83 (Operand.tmp 36), type := 30, pos := "log.go:231", after := #[{ on := 17, ground := Ground.data }], guard := none }) rfl (fun K hK => ?_) AllReadyH.nil)
  go_simp
  have s3 := SB.dr (SB.al (Below.refl w.heap.size w) (.cells #[.pointer (some ⟨p, 0, none⟩), .int .u64 ((num : Int) + 1), .int .i64 (half2 : Nat), .int .i64 1, .int .i64 ((k : Int) + 28), .int .i64 0] 83))
  refine hK.out _ _ s3 (fun hHeld => ?_)
  clear hK K
  try simp only [Act.put, List.setIfInBounds_toArray, List.set_cons_zero, List.set_cons_succ]
  refine wpAnyH_ready (rs := [19]) (by kernel_rfl) (by simp) (AllReadyH.cons (o := { dst := some 6, op := Op.assign (Operand.tmp 37), type := 30, pos := "log.go:231", after := #[{ on := 18, ground := Ground.data }, { on := 16, ground := Ground.chain }, { on := 0, ground := Ground.phase }, { on := 1, ground := Ground.phase }, { on := 2, ground := Ground.phase }, { on := 3, ground := Ground.phase }, { on := 4, ground := Ground.phase }, { on := 5, ground := Ground.phase }, { on := 6, ground := Ground.phase }, { on := 7, ground := Ground.phase }, { on := 8, ground := Ground.phase }, { on := 9, ground := Ground.phase }, { on := 10, ground := Ground.phase }, { on := 11, ground := Ground.phase }, { on := 12, ground := Ground.phase }, { on := 13, ground := Ground.phase }, { on := 14, ground := Ground.phase }, { on := 15, ground := Ground.phase }, { on := 16, ground := Ground.phase }, { on := 17, ground := Ground.phase }, { on := 18, ground := Ground.phase }], guard := none }) rfl (fun K hK => ?_) AllReadyH.nil)
  go_simp
  refine hK.out _ _ s3 (fun hHeld => ?_)
  clear hK K
  try simp only [Act.put, List.setIfInBounds_toArray, List.set_cons_zero, List.set_cons_succ]
  refine wpAnyH_done (by kernel_rfl) ?_ _
  refine NoPanic.normal ?_
  obtain ⟨l2, hl2⟩ : ∃ x, w.heap.size = x := ⟨_, rfl⟩
  have hrow := Row.new w 83 [.pointer (some ⟨p, 0, none⟩), .int .u64 ((num : Int) + 1), .int .i64 (half2 : Nat), .int .i64 1, .int .i64 ((k : Int) + 28), .int .i64 0]
  have hrow2 : Row ((w.alloc (.cells #[.pointer (some ⟨p, 0, none⟩), .int .u64 ((num : Int) + 1), .int .i64 (half2 : Nat), .int .i64 1, .int .i64 ((k : Int) + 28), .int .i64 0] 83)).drew) l2 83 (g2.cells p) := by rw [← hl2, HG2.out]; exact hrow
  generalize (w.alloc (.cells #[.pointer (some ⟨p, 0, none⟩), .int .u64 ((num : Int) + 1), .int .i64 (half2 : Nat), .int .i64 1, .int .i64 ((k : Int) + 28), .int .i64 0] 83)).drew = w3 at s3 hrow2 ⊢
  have HR3 := Lib.hid (And.intro hrow2 (And.intro s3 hl2))
  have hBG := begin_any (L := fun q => L q ∨ q = l2) (w := w3) (lp := l2) (p := p) (D := D) (g := g2) (HH.out.1.below s3) (.inl HH.out.2.1) (fun q h => by
      rcases h with h | rfl
      · exact Nat.lt_of_lt_of_le (HH.out.2.2.1 q h) s3.size
      · exact hrow2.lt) (.inr rfl) hrow2 ((HH.out.2.2.2.2.2.1.more (L' := fun q => L q ∨ q = l2) (fun q h => by
      rcases h with h | rfl
      · exact .inl h
      · exact .inr (by omega))).below s3) HOK.out HH.out.2.2.2.2.2.2.1 HH.out.2.2.2.2.2.2.2.1 t (by have := HTL.out; omega)
  rw [HH.out.2.2.2.2.2.2.2.2, HXT.out] at hBG
  have HBG := Lib.hid hBG
  clear hrow hrow2 s3 hBG
  rw [hl2]
  clear hl2
  go_wp2_with fail
  refine HBG.out.mono ?_
  rintro e w4 ⟨rfl, hd4, hk4⟩
  have hr4 : Row w4 lp 83 (g.cells p) := (hk4.block lp (Nat.lt_of_lt_of_le HH.out.2.2.2.2.1.lt HR3.out.2.1.size) (.inl HH.out.2.2.2.1)).trans (HH.out.2.2.2.2.1.below HR3.out.2.1 HH.out.2.2.2.2.1.lt)
  have hr42 : Row w4 l2 83 (g2.cells p) := (hk4.block l2 HR3.out.1.lt (.inr rfl)).trans HR3.out.1
  have H4 := Lib.hid (And.intro hr4 (And.intro hr42 (And.intro hd4 hk4)))
  have HFIN : Hid (∀ W', Keeps (fun q => q ≠ lp) w4 W' → DiskIs L W' p r.1 ∧ Keeps (fun q => L q ∧ q ≠ lp) w W') := Lib.hid fun W' hk =>
    ⟨(H4.out.2.2.1.less (L' := L) (fun q h => .inl h)).keeps hk (fun q _ h e => h (e ▸ HH.out.2.2.2.1)), ((Keeps.of_below (L := fun q => L q ∧ q ≠ lp) HR3.out.2.1 (fun q h _ => h)).trans (H4.out.2.2.2.mono (fun q h => .inl h.1))).trans (hk.mono (fun q h => h.2))⟩
  clear hd4 hk4 hr42
  by_cases h1 : r.2 = 0
  · have hTT := HTT.out
    rw [if_neg (by simp [h1])] at hTT
    have HT2 := Lib.hid hTT
    obtain ⟨C2, hC2⟩ : ∃ x, g2.cells p = x := ⟨_, rfl⟩
    have hCl : C2.length = 6 := by rw [← hC2]; rfl
    have hC1 : C2.toArray.all (·.oneCell') = true := by rw [← hC2]; simp [LG.cells, Value.oneCell']
    have hzs : (Tryz.prog.info? 83).map (·.size) = some 6 := by kernel_rfl
    have hr42 : Row w4 l2 83 C2 := by rw [← hC2]; exact H4.out.2.1
    have HRG : Hid (w4.rangeAt l2 0 C2) := Lib.hid (fun j v hj => by rw [Nat.zero_add, hr42.cell]; exact hj)
    have HC := Lib.hid (And.intro hCl (And.intro hC1 (And.intro (show (Tryz.prog.info? 83).map (·.size) = some C2.length by rw [hCl]; exact hzs) hC2)))
    have hr4' : Row w4 lp 83 (g.cells p) := hr4
    have HR4 := Lib.hid hr4'
    clear hTT hC2 hCl hC1 hzs hr42 hr4 hr4'
    go_wp2_with (first
      | (with_reducible refine wpList_load_mid rfl 83 (.tmp 50) rfl l2 0 rfl C2 _ HRG.out Tryz.underlying83 rfl HC.out.2.2.1 ?_)
      | (refine wpList_store_row rfl 83 (.tmp 52) (.tmp 51) rfl lp C2.toArray rfl rfl 83 (g.cells p).toArray HR4.out (by rw [List.size_toArray]; exact HC.out.2.2.1) (by rw [List.size_toArray, List.size_toArray, HC.out.1]; rfl) HC.out.2.1 ?_)
      | fail)
    go_ret
    have h := HFIN.out (w4.setRow lp C2.toArray) ((Keeps.refl _ _).setRow (.inl (fun h => h rfl)) _)
    rw [← HT2.out]
    refine ⟨rfl, ?_, h.1, h.2⟩
    show Row _ lp 83 (g2.cells p)
    rw [HC.out.2.2.2]
    exact HR4.out.put C2
  · have hTT := HTT.out
    rw [if_pos h1] at hTT
    have HT2 := Lib.hid hTT
    have c5 := hr4.cell 5
    have f5 := hr4.frozen 5
    simp only [LG.cells, List.getElem?_cons_zero, List.getElem?_cons_succ] at c5
    clear hTT
    go_wp2_with fail
    go_ret
    have h := HFIN.out (w4.setCell ⟨lp, 5, none⟩ (.int .i64 r.2)) ((Keeps.refl _ _).setCell (p := ⟨lp, 5, none⟩) (.inl (fun h => h rfl)) _)
    rw [← HT2.out]
    exact ⟨rfl, hr4.set 5 _, h.1, h.2⟩
end
end Go.Proofs.YtiaaeniopjpfpaaGreatDoor

namespace Go.Proofs.YtiaaeniopjpfpaaGreatDoor
open Go.RowKit Go.Maps Go.Shelf
set_option linter.unusedVariables false
set_option linter.unusedSimpArgs false
attribute [local go_sem] Oper.semAt_some

/-- The texts of the bytes from a place on, each with the place behind its frame. -/
def framesF : Nat → Nat → Nat → List UInt8 → List (Nat × List UInt8)
  | 0, _, _, _ => []
  | k + 1, n, e, s => match framedL n s with
    | none => []
    | some t => (e + (t.length + 28), t) :: framesF k (n + 1) (e + (t.length + 28)) (s.drop (t.length + 28))
def framesL (s : List UInt8) : List (Nat × List UInt8) := framesF s.length 1 0 s
theorem framesF_none {k n e : Nat} {s : List UInt8} (h : framedL n s = none) : framesF k n e s = [] := by
  cases k with
  | zero => rfl
  | succ k => unfold framesF; rw [h]
theorem framesF_some {k n e : Nat} {s t : List UInt8} (h : framedL n s = some t) : framesF (k + 1) n e s = (e + (t.length + 28), t) :: framesF k (n + 1) (e + (t.length + 28)) (s.drop (t.length + 28)) := by
  rw [framesF, h]
theorem framesF_length (k n e : Nat) (s : List UInt8) : (framesF k n e s).length ≤ k := by
  induction k generalizing n e s with
  | zero => exact Nat.le_refl _
  | succ k ih =>
    cases h : framedL n s with
    | none => rw [framesF_none h]; exact Nat.zero_le _
    | some t => rw [framesF_some h, List.length_cons]; exact Nat.succ_le_succ (ih _ _ _)
theorem framedL_le {n : Nat} {s t : List UInt8} (h : framedL n s = some t) : t.length + 28 ≤ s.length := by
  unfold framedL at h
  split at h
  · cases h
  · split at h
    · cases h
    · split at h
      · cases h
        rw [List.length_take, List.length_drop]
        omega
      · cases h
abbrev encF (x : Nat × List UInt8) : Array Value := #[.int .i64 (x.1 : Nat), .string (tx x.2)]
def KeepsF (Bn : Nat) (W W' : World) : Prop := W'.heap[Bn]? = W.heap[Bn]? ∧ W'.heap[0]? = W.heap[0]?
theorem keepsF_t {Bn : Nat} {A B C : World} (h : KeepsF Bn A B) (k : KeepsF Bn B C) : KeepsF Bn A C := ⟨k.1.trans h.1, k.2.trans h.2⟩
theorem keepsF_b {Bn : Nat} {w : World} (hn : Bn < w.heap.size) (hg : 0 < w.heap.size) (W : World) (l : Nat) (o o' : Obj) (hl : w.heap.size ≤ l) (h : W.heap[l]? = some o) (h1 : o.isCells = false) (hw : o.isWalk = false) : KeepsF Bn W (W.putObj l o') :=
  ⟨World.putObj_heap_other (by omega), World.putObj_heap_other (by omega)⟩
theorem G.same {w w' : World} (h : G w) (he : w'.heap[0]? = w.heap[0]?) : G w' := by
  obtain ⟨t, fr, h⟩ := h
  exact ⟨t, fr, he.trans h⟩
theorem grownBy_below {W W' : World} (h : Below W.heap.size W W') (row : Option Nat) : W.grownBy W' row := ⟨h.os, h.tape, h.output, h.size, fun j hj _ => h.block j hj⟩

set_option maxRecDepth 100000 in
set_option maxHeartbeats 1000000 in
theorem Frames1_in (n : Nat) (hn : 1 ≤ n) (l Bn : Nat) (s : List UInt8) (hs : s.length ≤ 1000000000) (J Jx : List (Nat × List UInt8) → World → Prop)
    (hY : ∀ pre x W, J pre W → (pre ++ [x]) <+: framesL s → YieldAt Fence.wide (n - 1) Tryz.prog l (encF x) W fun e W' =>
      (e = .returned (.bool true) ∧ J (pre ++ [x]) W' ∧ KeepsF Bn W W') ∨ (e = .returned (.bool false) ∧ Jx (pre ++ [x]) W'))
    (W : World) (hJ : AbidesFrom W.heap.size J) (hG : G W) (hBn : W.heap[Bn]? = some (.cells #[.string (tx s)] 9 (0, 0))) (h0 : J [] W) :
    CallsIn Fence.wide n Tryz.prog 64 #[.func (.yield l) #[] #[], .pointer (some ⟨Bn, 0, none⟩)] W fun e W' => (∃ v, e = .returned v) ∧
      ((∃ ys, ys = framesL s ∧ J ys W') ∨ (∃ pre, pre <+: framesL s ∧ Jx pre W')) := by
  obtain ⟨k, hk⟩ : ∃ k, s.length = k := ⟨_, rfl⟩
  have hsz : (tx s).size = k := by rw [tx_size, hk]
  have hkI : (k : Int) ≤ 1000000000 := by omega
  refine callsIn_of_wp Tryz.func64 rfl trivial ?_ rfl
  simp only [Tryz.ntmps64, List.size_toArray, List.length_cons, List.length_nil, Nat.reduceAdd, Nat.reduceSub, Array.replicate_succ, Array.replicate_zero, List.push_toArray, List.append_toArray, List.nil_append, List.cons_append]
  gi_wp2
  gi_loopw [3, 4] (fun i m wr => ∃ (pre : List (Nat × List UInt8)) (e q : Nat), i = .int .i64 (e : Nat) ∧ m = .int .i64 ((pre.length : Int) + 1) ∧ e ≤ k ∧ pre.length ≤ e ∧ k ≤ q + e ∧ Hid (framesL s = pre ++ framesF q (pre.length + 1) e (s.drop e)) ∧ wr.heap[Bn]? = some (.cells #[.string (tx s)] 9 (0, 0)) ∧ G wr ∧ J pre wr)
    (fun i _ _ => k - (intOf i).toNat)
  case atStart =>
    exact ⟨[], 0, k, rfl, rfl, Nat.zero_le _, Nat.le_refl _, Nat.le_refl _, Lib.hid (by unfold framesL; rw [hk]; rfl), hBn, hG, h0⟩
  case round =>
    obtain ⟨pre, e, q, rfl, rfl, he, hpe, hq, HX, hbx, hGr, hJs⟩ := hrel
    have hd1 : wr.cell? ⟨Bn, 0, none⟩ = some (.string (tx s)) := by simp [World.cell?, hbx]
    obtain ⟨R, hR⟩ : ∃ R, s.drop e = R := ⟨_, rfl⟩
    have hRl : R.length = k - e := by rw [← hR, List.length_drop, hk]
    have hcut : (tx s).extract e k = tx R := by rw [tx_cut s e k he (by omega), List.take_of_length_le (by omega), hR]
    rw [hR] at HX
    have heI : (e : Int) ≤ (k : Int) := by omega
    have hplI : (pre.length : Int) ≤ (e : Int) := by omega
    have HF := framed_any (pre.length + 1) R (by omega) (by omega) wr hGr
    rw [show ((pre.length + 1 : Nat) : Int) = (pre.length : Int) + 1 by omega] at HF
    obtain ⟨S, hS⟩ : ∃ S, tx s = S := ⟨_, rfl⟩
    rw [hS] at hsz hd1 hcut hbx
    cases hf : framedL (pre.length + 1) R with
    | none =>
      rw [hf, show framedV none = .tuple #[.string ⟨#[]⟩, .bool false] from rfl] at HF
      have HF := Lib.hid HF
      have HE : Hid (pre = framesL s) := Lib.hid (by rw [HX.out, framesF_none hf, List.append_nil])
      have HJ : Hid (∀ w2, Below wr.heap.size wr w2 → J pre w2) := Lib.hid fun w2 hb => hJ pre wr w2 none hJs (grownBy_below hb none) (fun r e => by cases e)
      clear hf HX hGr hJs hR hRl
      gi_wp2_with (refine ⟨trivial, ?_⟩; gi_at_call 65; refine (callsIn_wide.2 HF.out).mono ?_; rintro e2 w2 ⟨rfl, hb2⟩)
      refine bodyPost_ret (results_none rfl _ _ _) rfl ?_
      exact ⟨⟨_, rfl⟩, .inl ⟨pre, HE.out, HJ.out _ hb2⟩⟩
    | some t =>
      have htl := framedL_le hf
      obtain ⟨c, hc⟩ : ∃ c, t.length = c := ⟨_, rfl⟩
      rw [hc] at htl
      obtain ⟨q, rfl⟩ : ∃ q', q = q' + 1 := ⟨q - 1, by omega⟩
      have hX2 := HX.out
      rw [framesF_some hf, hc] at hX2
      have hdr : R.drop (c + 28) = s.drop (e + (c + 28)) := by rw [← hR, List.drop_drop]
      have HX2 : Hid (framesL s = (pre ++ [(e + (c + 28), t)]) ++ framesF q ((pre ++ [(e + (c + 28), t)]).length + 1) (e + (c + 28)) (s.drop (e + (c + 28)))) := Lib.hid (by rw [hX2, hdr]; simp)
      rw [hf, show framedV (some t) = .tuple #[.string (tx t), .bool true] from rfl] at HF
      have HF := Lib.hid HF
      have HN : Hid (∀ W', Calls Tryz.prog 28 #[.int .i64 (c : Nat)] W' fun e w' => e = .returned (.int .i64 ((c : Int) + 28)) ∧ W' = w') := Lib.hid fun W' => Need_any c (by omega) W'
      have hts : (tx t).size = c := by rw [tx_size, hc]
      have HJ : Hid (∀ w2, Below wr.heap.size wr w2 → YieldAt Fence.wide (n - 1) Tryz.prog l (encF (e + (c + 28), t)) w2 fun e' W' =>
          (e' = .returned (.bool true) ∧ J (pre ++ [(e + (c + 28), t)]) W' ∧ KeepsF Bn w2 W') ∨ (e' = .returned (.bool false) ∧ Jx (pre ++ [(e + (c + 28), t)]) W')) :=
        Lib.hid fun w2 hb => hY pre (e + (c + 28), t) w2 (hJ pre wr w2 none hJs (grownBy_below hb none) (fun r e => by cases e)) ⟨_, HX2.out.symm⟩
      have HK : Hid (∀ w2, Below wr.heap.size wr w2 → w2.heap[Bn]? = some (.cells #[.string S] 9 (0, 0)) ∧ G w2) := Lib.hid fun w2 hb => ⟨(hb.block Bn (Array.getElem?_eq_some_iff.1 hbx).1).trans hbx, hGr.below hb⟩
      have hcI : (e : Int) + ((c : Int) + 28) ≤ (k : Int) := by omega
      clear hf HX hX2 hdr hGr hJs hR hRl hJ hY
      obtain ⟨T, hT⟩ : ∃ T, tx t = T := ⟨_, rfl⟩
      rw [hT] at hts HF
      gi_wp2_with (refine ⟨trivial, ?_⟩; gi_at_call 65; refine (callsIn_wide.2 HF.out).mono ?_; rintro e2 w2 ⟨rfl, hb2⟩)
      obtain ⟨fn, tmps, assign, body, hy, hR⟩ := HJ.out w2 hb2
      dsimp only [encF] at hy
      rw [hT, show ((e + (c + 28) : Nat) : Int) = (e : Int) + ((c : Int) + 28) by omega] at hy
      gi_wp2_with (refine ⟨trivial, ?_⟩; gi_at_call 28; refine (callsIn_wide.2 (HN.out _)).mono ?_; rintro e3 w3 ⟨rfl, rfl⟩)
      refine hR.mono ?_
      rintro e4 W3 (⟨rfl, hJ3, hk3⟩ | ⟨rfl, hJx3⟩)
      · gi_wp2
        go_roundw
        case rel => exact ⟨pre ++ [(e + (c + 28), t)], e + (c + 28), q, by go_num, by rw [List.length_append]; go_num, by omega, by rw [List.length_append, List.length_singleton]; omega, by omega, HX2, hk3.1.trans (by rw [hS]; exact (HK.out _ hb2).1), (HK.out _ hb2).2.same hk3.2, hJ3⟩
        case measure => simp [intOf]; omega
      · gi_wp2
        refine bodyPost_ret (results_none rfl _ _ _) rfl ?_
        exact ⟨⟨_, rfl⟩, .inr ⟨pre ++ [(e + (c + 28), t)], ⟨_, HX2.out.symm⟩, hJx3⟩⟩

set_option maxHeartbeats 1000000 in
theorem Frames_in (n : Nat) (s : ByteArray) (w : World) :
    CallsIn Fence.wide n Tryz.prog 27 #[.string s] w fun e w' => e = .returned (.func (.func 64) #[] #[.pointer (some ⟨w.heap.size, 0, none⟩)]) ∧ w' = w.alloc (.cells #[.string s] 9) := by
  refine callsIn_of_wp Tryz.func27 rfl trivial ?_ rfl
  simp only [Tryz.ntmps27, List.size_toArray, List.length_cons, List.length_nil, Nat.reduceAdd, Nat.reduceSub, Array.replicate_succ, Array.replicate_zero, List.push_toArray, List.append_toArray, List.nil_append, List.cons_append]
  gi_wp2
  go_ret
  exact ⟨rfl, rfl⟩

theorem Frames_stops (n : Nat) (hn : 1 ≤ n) (Bn : Nat) (s : List UInt8) (hs : s.length ≤ 1000000000) (w : World) (hG : G w)
    (hb : w.heap[Bn]? = some (.cells #[.string (tx s)] 9 (0, 0))) :
    SeqStopsK Fence.wide n Tryz.prog 64 #[.pointer (some ⟨Bn, 0, none⟩)] encF (KeepsF Bn) (fun ys => ys = framesL s) (fun pre => pre <+: framesL s) s.length w := fun l J Jx W hW hJ _ hY h0 => by
  refine (Frames1_in n hn l Bn s hs J Jx (fun pre x W1 hp hl => hY pre x W1 hp ?_) W hJ (hG.below hW) ((hW.block Bn (Array.getElem?_eq_some_iff.1 hb).1).trans hb) h0).mono ?_
  · have h1 := hl.length_le
    have h2 : (framesL s).length ≤ s.length := framesF_length _ _ _ _
    rw [List.length_append, List.length_singleton] at h1
    omega
  · rintro e W' ⟨hv, (⟨ys, h, hj⟩ | ⟨pre, h, hj⟩)⟩
    · exact ⟨hv, .inl ⟨ys, h, hj⟩⟩
    · exact ⟨hv, .inr ⟨pre, h, hj⟩⟩
end Go.Proofs.YtiaaeniopjpfpaaGreatDoor

namespace Go.Proofs.YtiaaeniopjpfpaaGreatDoor
open Go Go.Shelf Go.RowKit
def Tryz.lays162_ren : Go.Shelf.Ren := ⟨fun | 162 => 86 | 232 => 113 | 227 => 114 | 234 => 115 | 236 => 116 | 228 => 135 | 271 => 136 | 151 => 137 | 120 => 152 | 197 => 153 | 152 => 154 | 260 => 173 | 137 => 174 | 119 => 175 | 224 => 176 | 225 => 177 | 217 => 188 | 266 => 193 | n => n, fun | 9 => 9 | 4 => 4 | 3 => 3 | 5 => 5 | 117 => 165 | 116 => 164 | 0 => 0 | 124 => 168 | 21 => 21 | 105 => 187 | 46 => 169 | 119 => 235 | 139 => 238 | 138 => 237 | n => n, fun | 3 => 2 | 4 => 3 | n => n⟩
theorem Tryz.lays162 : Go.Proofs.Lays.n162 Tryz.prog Tryz.lays162_ren := {
  mixed := by kernel_rfl
  f119 := Tryz.func175.trans (congrArg some (by kernel_rfl))
  f120 := Tryz.func152.trans (congrArg some (by kernel_rfl))
  f137 := Tryz.func174.trans (congrArg some (by kernel_rfl))
  f151 := Tryz.func137.trans (congrArg some (by kernel_rfl))
  f152 := Tryz.func154.trans (congrArg some (by kernel_rfl))
  f162 := Tryz.func86.trans (congrArg some (by kernel_rfl))
  f197 := Tryz.func153.trans (congrArg some (by kernel_rfl))
  f217 := Tryz.func188.trans (congrArg some (by kernel_rfl))
  f224 := Tryz.func176.trans (congrArg some (by kernel_rfl))
  f225 := Tryz.func177.trans (congrArg some (by kernel_rfl))
  f227 := Tryz.func114.trans (congrArg some (by kernel_rfl))
  f228 := Tryz.func135.trans (congrArg some (by kernel_rfl))
  f232 := Tryz.func113.trans (congrArg some (by kernel_rfl))
  f234 := Tryz.func115.trans (congrArg some (by kernel_rfl))
  f236 := Tryz.func116.trans (congrArg some (by kernel_rfl))
  f260 := Tryz.func173.trans (congrArg some (by kernel_rfl))
  f266 := Tryz.func193.trans (congrArg some (by kernel_rfl))
  f271 := Tryz.func136.trans (congrArg some (by kernel_rfl))
  t0 := Tryz.underlying0
  a0 := Tryz.isAgg0
  z0 := Tryz.sizeOf0
  v0 := Tryz.zeroValue0
  t3 := Tryz.underlying3
  a3 := Tryz.isAgg3
  z3 := Tryz.sizeOf3
  v3 := Tryz.zeroValue3
  t4 := Tryz.underlying4
  a4 := Tryz.isAgg4
  z4 := Tryz.sizeOf4
  v4 := Tryz.zeroValue4
  t5 := Tryz.underlying5
  a5 := Tryz.isAgg5
  z5 := Tryz.sizeOf5
  v5 := Tryz.zeroValue5
  t9 := Tryz.underlying9
  a9 := Tryz.isAgg9
  z9 := Tryz.sizeOf9
  v9 := Tryz.zeroValue9
  t21 := Tryz.underlying21
  a21 := Tryz.isAgg21
  z21 := Tryz.sizeOf21
  v21 := Tryz.zeroValue21
  t46 := Tryz.underlying169
  a46 := Tryz.isAgg169
  z46 := Tryz.sizeOf169
  v46 := Tryz.zeroValue169
  t105 := Tryz.underlying187
  a105 := Tryz.isAgg187
  z105 := Tryz.sizeOf187
  v105 := Tryz.zeroValue187
  t116 := Tryz.underlying164
  a116 := Tryz.isAgg164
  z116 := Tryz.sizeOf164
  t117 := Tryz.underlying165
  a117 := Tryz.isAgg165
  z117 := Tryz.sizeOf165
  v117 := Tryz.zeroValue165
  t119 := Tryz.underlying235
  a119 := Tryz.isAgg235
  z119 := Tryz.sizeOf235
  t124 := Tryz.underlying168
  a124 := Tryz.isAgg168
  z124 := Tryz.sizeOf168
  v124 := Tryz.zeroValue168
  t138 := Tryz.underlying237
  a138 := Tryz.isAgg237
  z138 := Tryz.sizeOf237
  v138 := Tryz.zeroValue237
  t139 := Tryz.underlying238
  a139 := Tryz.isAgg238
  z139 := Tryz.sizeOf238
  v139 := Tryz.zeroValue238
  g3 := by kernel_rfl
  g4 := by kernel_rfl }
open Go.RowKit in
theorem Tryz.strings_TrimRight_one (s : ByteArray) (c : UInt8) (hc : c.toNat < 128) (w : World) (hs : s.size ≤ 9223372036854775807) :
    Calls Tryz.prog 86 #[.string s, .string ⟨#[c]⟩] w fun e w' => e = .returned (.string ⟨(Lib.trimRightB s.data.toList c).toArray⟩) ∧ w' = w := Any.strings_TrimRight_one Tryz.lays162 s c hc w hs
end Go.Proofs.YtiaaeniopjpfpaaGreatDoor

namespace Go.Proofs.YtiaaeniopjpfpaaGreatDoor
open Go Go.Shelf Go.RowKit
set_option linter.unusedVariables false
set_option linter.unusedSimpArgs false

theorem copyCheck_any (B b : Nat) (bs : List Value) (w : World) (h : Lib.IsBuilder 127 5 B b bs w) :
    Calls Tryz.prog 112 #[.pointer (some ⟨b, 0, none⟩)] w fun e w' => e = .returned (.tuple #[]) ∧ (Lib.BuilderAt 127 5 B b (.pointer (some ⟨b, 0, none⟩)) bs w' ∧ Below B w w' ∧ Lib.OthersKept 5 (some b) w w') := by
  rcases h with h | h
  · refine (Any.Builder_copyCheck_fresh (P := Tryz.prog) (ρ := Tryz.lays105_ren) { Tryz.lays105 with } Tryz.Builder_Extra_105.toX72 b w h.cell0 h.shape h.frozen0).mono ?_
    rintro e w' ⟨rfl, rfl⟩
    exact ⟨rfl, h.used _, (Below.refl B w).setCell (p := ⟨b, 0, none⟩) h.1 _, (Lib.OthersKept.refl _ _ w).setCell ⟨b, 0, none⟩ rfl _⟩
  · refine (Any.Builder_copyCheck_used (P := Tryz.prog) (ρ := Tryz.lays105_ren) { Tryz.lays105 with } Tryz.Builder_Extra_105.toX72 b w h.cell0).mono ?_
    rintro e w' ⟨rfl, rfl⟩
    exact ⟨rfl, h, Below.refl B _, Lib.OthersKept.refl _ _ _⟩

theorem BString_any (B b : Nat) (l : List UInt8) (w : World) (h : Lib.IsBuilder 127 5 B b (Lib.byteCells l) w) (hBw : B ≤ w.heap.size) :
    Calls Tryz.prog 85 #[.pointer (some ⟨b, 0, none⟩)] w fun e w' => e = .returned (.string ⟨l.toArray⟩) ∧ Below B w w' :=
  Any.Builder_String_any (P := Tryz.prog) (ρ := Tryz.lays105_ren) { Tryz.lays105 with } Tryz.Builder_Extra_105 B b l w h hBw

theorem row_other {w w' : World} {b g : Nat} {t : TypeId} {l : List Value} (hr : Row w g t l) (hk : Lib.OthersKept 5 (some b) w w') (hne : g ≠ b) (ht : t ≠ 5) : Row w' g t l :=
  hk g _ hr (fun e => hne (Option.some.inj e)) (fun c fz e => ht (by cases e; rfl))

set_option maxHeartbeats 2000000 in
set_option maxRecDepth 100000 in
theorem BWrite_any (B b g : Nat) (bs cs : List Value) (h1 : ∀ u ∈ cs, u.oneCell' = true) (w : World) (h : Lib.IsBuilder 127 5 B b bs w) (hr : Row w g 90 cs)
    (hlen : bs.length + cs.length ≤ 140737488355328) (hBw : B ≤ w.heap.size) :
    Calls Tryz.prog 84 #[.pointer (some ⟨b, 0, none⟩), .slice (some ⟨g, 0, none⟩) cs.length cs.length] w fun e w' => e = .returned (.tuple #[.int .i64 cs.length, .nilIface]) ∧
      (Lib.BuilderAt 127 5 B b (.pointer (some ⟨b, 0, none⟩)) (bs ++ cs) w' ∧ Below B w w' ∧ Lib.OthersKept 5 (some b) w w') := by
  obtain ⟨i0, hi, hz0, hz1, hz2⟩ := info_parts Tryz.Builder_Extra_105.infoByte
  have hi : Tryz.prog.info? 5 = some i0 := hi
  have hgb : g ≠ b := by
    rintro rfl
    obtain ⟨p, hB, v, hbk, _⟩ : ∃ p, Lib.BuilderAt 127 5 B g p bs w := by
      rcases h with h | h
      · exact ⟨_, h⟩
      · exact ⟨_, h⟩
    rw [show w.heap[g]? = _ from hr] at hbk
    simp at hbk
  have HC := copyCheck_any B b bs w h
  obtain ⟨m, hm⟩ : ∃ m, cs.length = m := ⟨_, rfl⟩
  rw [hm] at hlen ⊢
  go_enter Tryz.func84, Tryz.ntmps84
  go_wp2_with fail
  refine HC.mono ?_
  rintro e w1 ⟨rfl, h1', hb1, hk1⟩
  obtain ⟨hB, v, hbk, hown, hne⟩ := h1'
  have c0 : w1.cell? ⟨b, 0, none⟩ = some (.pointer (some ⟨b, 0, none⟩)) := by rw [Lib.cell_of_heap hbk]; rfl
  have c1 : w1.cell? ⟨b, 1, none⟩ = some v := by rw [Lib.cell_of_heap hbk]; rfl
  have hr1 := row_other hr hk1 hgb (by decide)
  have hnews : ∀ j u, cs[j]? = some u → w1.cell? ((⟨g, 0, none⟩ : Addr).add j) = some u := fun j u hj => by
    rw [show (⟨g, 0, none⟩ : Addr).add j = ⟨g, j, none⟩ by simp [Addr.add]; omega]
    exact (hr1.cell j).trans hj
  have H1 := Lib.hid h1
  clear h1
  go_wp2_with (at_builtin; refine wpList_append_own _ rfl _ _ 87 rfl B 5 i0 (.int .u8 0) 1 1 Tryz.underlying87 hi hz0 hz1 hz2 rfl (by decide) _ _ _ rfl hown ⟨g, 0, none⟩ m m cs rfl (by omega) hnews H1.out ?c3 ?c4 ?c5 ?_)
  case c3 => unfold maxLen; omega
  case c4 => omega
  case c5 => have := hb1.size; omega
  intro v' w2 hown' hgrow _
  have hlt : b < w1.heap.size := Lib.BuilderAt.lt ⟨hB, v, hbk, hown, hne⟩
  have hb2 : w2.heap[b]? = some (.cells #[.pointer (some ⟨b, 0, none⟩), v] 127 (0, 0)) := by
    rw [hgrow.block b hlt (fun e => hne e.symm)]
    exact hbk
  have d0 : w2.cell? ⟨b, 0, none⟩ = some (.pointer (some ⟨b, 0, none⟩)) := by rw [Lib.cell_of_heap hb2]; rfl
  have d1 : w2.cell? ⟨b, 1, none⟩ = some v := by rw [Lib.cell_of_heap hb2]; rfl
  have f1 : w2.frozen? ⟨b, 1, none⟩ = false := Lib.frozen_of_heap hb2 1
  obtain ⟨ao, n', cap, rfl⟩ : ∃ ao n' cap, v' = .slice ao n' cap := by
    rcases hown'.2 with ⟨hv, _⟩ | ⟨g, cap, cur, hv, _⟩
    · exact ⟨_, _, _, hv⟩
    · exact ⟨_, _, _, hv⟩
  have HB := Lib.hid hb1
  have HK := Lib.hid hk1
  clear hb1 hk1
  go_wp2
  go_ret2
  refine ⟨rfl, ?_, ?_, ?_⟩
  · exact Lib.BuilderAt.put (T := 127) (e := 5) hB hb2 (bs' := bs ++ cs) (by simpa [hm] using hown') (by decide)
  · exact (HB.out.grown hgrow (by have := HB.out.size; omega) (fun k hk => (hown.lt k hk).1)).setCell (p := ⟨b, 1, none⟩) hB _
  · refine (HK.out.grown hgrow ?_).setCell ⟨b, 1, none⟩ rfl _
    intro k hk
    rcases hown.2 with ⟨rfl, _⟩ | ⟨g', cap', cur, rfl, _, hg, _⟩
    · cases hk
    · cases hk
      exact ⟨cur, (0, 0), hg⟩
end Go.Proofs.YtiaaeniopjpfpaaGreatDoor

namespace Go.Proofs.YtiaaeniopjpfpaaGreatDoor
open Go Go.Shelf Go.RowKit Go.Maps
set_option linter.unusedVariables false
set_option linter.unusedSimpArgs false

theorem fault_in {D : DS} (hd : D.down = false) (j : Nat) (hj : j < D.lasts.length) : D.fault (j : Nat) = 0 := by
  unfold DS.fault
  rw [hd]
  simp only [Bool.false_eq_true, if_false]
  rw [if_pos ⟨by omega, by omega⟩]
theorem isBuilder_below {T e B b : Nat} {bs : List Value} {w w' : World} (h : Lib.IsBuilder T e B b bs w) (hb : Below w.heap.size w w') : Lib.IsBuilder T e B b bs w' := by
  have one : ∀ p, Lib.BuilderAt T e B b p bs w → Lib.BuilderAt T e B b p bs w' := by
    rintro p ⟨hB, v, hbk, hown, hne⟩
    refine ⟨hB, v, (hb.block b (Array.getElem?_eq_some_iff.1 hbk).1).trans hbk, ⟨hown.1, ?_⟩, hne⟩
    rcases hown.2 with h | ⟨g, cap, cur, h1, h2, h3, h4⟩
    · exact .inl h
    · exact .inr ⟨g, cap, cur, h1, h2, (hb.block g (Array.getElem?_eq_some_iff.1 h3).1).trans h3, h4⟩
  exact h.elim (fun x => .inl (one _ x)) (fun x => .inr (one _ x))
/-- The bytes of n sectors from a on. -/
def bytesN (D : DS) (a : Nat) : Nat → List UInt8
  | 0 => []
  | j + 1 => bytesN D a j ++ D.read ((a + j : Nat) : Int)
def LG.bytes (g : LG) (D : DS) : List UInt8 := bytesN D (2 + g.half * secs D) (secs D)
theorem bytesN_length (D : DS) (hD : D.ok) (hdn : D.down = false) (a n : Nat) (h : a + n ≤ D.lasts.length) : (bytesN D a n).length = n * 128 := by
  induction n with
  | zero => rfl
  | succ n ih =>
    unfold bytesN
    rw [List.length_append, ih (by omega), readB_len hD hdn (a + n) (by omega)]
    omega
theorem wp_join {P : Program} {id : Nat} {ops : Array Oper} {b : Bool} {Q : Exit → Act → World → Prop} {a : Act} {w : World} (fr : Act → Nat → Act) (Post : Nat → World → Prop)
    (h1 : (Code.region id ops b).wp P (fun e a' w' => e = .normal ∧ ∃ g, a' = fr a g ∧ Post g w') a w) (h2 : ∀ g w', Post g w' → Q .normal (fr a g) w') : (Code.region id ops b).wp P Q a w :=
  Code.wp_mono (fun e a' w' h => by obtain ⟨rfl, g, rfl, hp⟩ := h; exact h2 g w' hp) h1
section
variable {L : Nat → Prop} {w : World} {lp p gl gm : Nat} {hv : Value} {Dm : DataW Unit} {D : DS} {g : LG}
theorem half_in (hD : D.ok) (half j : Nat) (hh : half ≤ 1) (hj : j < secs D) : 2 + half * secs D + j < D.lasts.length := by
  have := hD.least
  unfold secs at *
  rcases (by omega : half = 0 ∨ half = 1) with rfl | rfl <;> omega

set_option maxRecDepth 20000 in
set_option maxHeartbeats 2000000 in
theorem bytes_any (hr : Row w lp 83 (g.cells p)) (hd : DiskIs L w p D) (hdn : D.down = false) (hh : g.half ≤ 1) :
    Calls Tryz.prog 43 #[.pointer (some ⟨lp, 0, none⟩)] w fun e w' => e = .returned (.tuple #[.string (tx (g.bytes D)), .int .i64 0]) ∧ Below w.heap.size w w' := by
  obtain ⟨gl0, gm0, hv0, Dm0, hd0⟩ := id hd
  have hgood := hd0.good
  have hsec := secs_le hd0
  have hHI := half_in hgood g.half
  have hBW : w.heap.size < (w.alloc (.cells #[.pointer none, .slice none 0 0] 127)).heap.size := by rw [World.size_alloc]; omega
  have hb0 : Below w.heap.size w (w.alloc (.cells #[.pointer none, .slice none 0 0] 127)) := (Below.refl _ _).alloc (Nat.le_refl _) _
  have HSEC := Lib.hid (sectors_any (hr.below hb0 hr.lt) (hd0.below hb0))
  obtain ⟨n, hn⟩ : ∃ n, secs D = n := ⟨_, rfl⟩
  obtain ⟨a, ha⟩ : ∃ a, 2 + g.half * n = a := ⟨_, rfl⟩
  obtain ⟨half, hhalf⟩ : ∃ half, g.half = half := ⟨_, rfl⟩
  have hbyt : g.bytes D = bytesN D a n := by unfold LG.bytes; rw [hn, ha]
  rw [hbyt]
  have HFI : Hid (∀ W, Below w.heap.size w W → Calls Tryz.prog 83 #[.pointer (some ⟨lp, 0, none⟩), .int .i64 (half : Nat)] W fun e w' => e = .returned (.int .i64 (a : Nat)) ∧ W = w') := Lib.hid fun W hb => by
    have h := first_any (hr.below hb hr.lt) (hd0.below hb) g.half hh
    rw [hn, ha, hhalf] at h
    exact h
  have hRD : ∀ j, j < n → ∀ W, Below w.heap.size w W → Calls Tryz.prog 56 #[.pointer (some ⟨p, 0, none⟩), .int .i64 ((a + j : Nat) : Int)] W fun e w' => e = .returned (.tuple #[.agg ((D.read ((a + j : Nat) : Int)).map bv).toArray, .int .i64 0]) ∧ Below W.heap.size W w' := fun j hj W hb => by
    have hl := hHI j hh (by rw [hn]; exact hj)
    rw [hn, ha] at hl
    have h := Read_any (hd0.below hb) ((a + j : Nat) : Int)
    rw [fault_in hdn _ hl] at h
    exact h
  have hRL : ∀ j, j < n → (D.read ((a + j : Nat) : Int)).length = 128 := fun j hj => by
    have hl := hHI j hh (by rw [hn]; exact hj)
    rw [hn, ha] at hl
    exact readB_len hgood hdn _ hl
  have hBL : ∀ j, j ≤ n → (bytesN D a j).length = j * 128 := fun j hj => by
    have hl := hHI (n - 1) hh (by omega)
    rw [hn, ha] at hl
    exact bytesN_length D hgood hdn a j (by omega)
  rw [hn] at HSEC
  have HR := Lib.hid (And.intro hRD (And.intro hRL hr))
  have HBL := Lib.hid hBL
  clear hBL
  have hz := (zero_of_info zB_info).1
  obtain ⟨Z, hZ⟩ : ∃ Z, zB = Z := ⟨_, rfl⟩
  have hZl : Z.length = 128 := by rw [← hZ]; exact zB_len
  rw [hZ] at hz
  have HZ := Lib.hid hZl
  have hnI : (n : Int) ≤ 2047 := by omega
  have haI : (a : Int) ≤ 10000 := by
    have := hHI 0 hh (by omega)
    have := hgood.most
    rw [hn, ha] at *
    omega
  have HHALF := Lib.hid hhalf
  clear hhalf
  have HI0 := Lib.hid (Lib.fresh_isBuilder 127 5 w)
  have HB0 := Lib.hid hb0
  clear hd hd0 hdn hh hgood hsec hHI hn ha hbyt hRD hRL hr hZ hZl hBW hb0
  go_enter Tryz.func43, Tryz.ntmps43
  go_wp2_with fail
  refine HSEC.out.mono ?_
  rintro e w1 ⟨rfl, rfl⟩
  generalize w.alloc (.cells #[.pointer none, .slice none 0 0] 127) = w1 at HI0 HB0 HSEC ⊢
  go_wp2_with fail
  go_loopw [10] (fun i wr => ∃ j : Nat, i = .int .i64 j ∧ j ≤ n ∧ Hid (Lib.IsBuilder 127 5 w.heap.size w.heap.size (Lib.byteCells (bytesN D a j)) wr ∧ Below w.heap.size w wr)) (fun i _ => n - (intOf i).toNat)
  case atStart => exact ⟨0, rfl, Nat.zero_le _, Lib.hid ⟨HI0.out, HB0.out⟩⟩
  case round =>
    obtain ⟨j, rfl, hj, HJ⟩ := hrel
    by_cases hlt : j < n
    · have hltI : (j : Int) < (n : Int) := by omega
      have hj2 : (j : Int) ≤ 2047 := by omega
      obtain ⟨C, hC⟩ : ∃ C, (D.read ((a + j : Nat) : Int)).map bv = C := ⟨_, rfl⟩
      have hCl : C.length = 128 := by rw [← hC, List.length_map, HR.out.2.1 j hlt]
      have hsz := blk_sizeK _ (HR.out.2.1 j hlt)
      have hone := blkV_one (D.read ((a + j : Nat) : Int))
      rw [hC] at hsz hone
      have HRDj : Hid (∀ W, Below w.heap.size w W → Calls Tryz.prog 56 #[.pointer (some ⟨p, 0, none⟩), .int .i64 ((a : Int) + (j : Int))] W fun e w' => e = .returned (.tuple #[.agg C.toArray, .int .i64 0]) ∧ Below W.heap.size W w') := Lib.hid fun W hb => by
        have h := HR.out.1 j hlt W hb
        rw [hC, show ((a + j : Nat) : Int) = (a : Int) + (j : Int) by omega] at h
        exact h
      have HC := Lib.hid (And.intro hC (And.intro hone (And.intro hCl (show (Tryz.prog.info? 90).map (·.size) = some C.toArray.size by rw [List.size_toArray]; exact hsz))))
      have hthZ : ∀ (W : World) (g : Nat), Row W g 90 Z → W.there g 0 C.toArray.size := fun W g h => by
        rw [show C.toArray.size = Z.length by rw [List.size_toArray, hCl, HZ.out]]
        exact row_thereK h 0 _ (by omega)
      have S0 : SB wr wr.drew := SB.dr (Below.refl _ _)
      have HRW : Hid (∀ W, SB wr W → ∀ k, W.cell? ⟨lp, k, none⟩ = (g.cells p)[k]?) := Lib.hid fun W h k => ((HR.out.2.2.below HJ.out.2 HR.out.2.2.lt).below h (by have := HR.out.2.2.lt; have := HJ.out.2.size; omega)).cell k
      have HPS : Hid (∀ (W : World) (g : Nat), SB wr W → Row W g 90 Z → wr.heap.size ≤ g → Row (W.setCells g 0 C) g 90 C ∧ SB wr (W.setCells g 0 C)) := Lib.hid fun W g h hr hg => by
        have hb := below_setCells (w := W) (B := g) (Nat.le_refl _) C 0 W (Below.refl _ _)
        exact ⟨row_setCells C [] Z W (by rw [hCl, HZ.out]) hr, h.trans (hb.mono hg)⟩
      clear hsz hone hCl hC hj
      go_wp2_with fail
      refine wp_join (fun a9 g => ((((((((((((((((((a9.put (some 14) (.pointer (some ⟨lp, 0, none⟩))).put (some 15) (.pointer (some ⟨lp, 0, none⟩))).put (some 16) (.pointer (some ⟨lp, 0, none⟩))).put (some 17) (.pointer (some ⟨p, 0, none⟩))).put (some 18) (.pointer (some ⟨lp, 0, none⟩))).put (some 19) (.pointer (some ⟨lp, 0, none⟩))).put (some 20) (.pointer (some ⟨lp, 0, none⟩))).put (some 21) (.pointer (some ⟨lp, 2, none⟩))).put (some 22) (.int .i64 (half : Nat))).put (some 23) (.int .i64 (a : Nat))).put (some 24) (.int .i64 j)).put (some 25) (.int .i64 ((a : Int) + (j : Int)))).put (some 26) (.tuple #[.agg C.toArray, .int .i64 0])).put (some 13) (.tuple #[.agg C.toArray, .int .i64 0])).put (some 27) (.agg C.toArray)).put (some 28) (.int .i64 0)).put (some 6) (.pointer (some ⟨g, 0, none⟩))).put (some 7) (.int .i64 0)))
        (fun g w' => Row w' g 90 C ∧ SB wr w') ?_ ?_
      · refine wp_region_noPanic ?_
        refine wp_region_held_drew (S := fun W => SB wr W) (by kernel_rfl) S0 (fun hHeld => ?_)
        refine wpAnyH_take (i := 0) (oi := { dst := some 14, op := Op.move (Operand.tmp 0), type := 30, pos := "log.go:162", after := #[], guard := none }) (v := ?vvz1_0) rfl (by kernel_rfl) (by kernel_rfl) (by kernel_rfl) (fun _ _ _ h => h) (Or.inl ⟨by rfl, ?yyz1_0⟩) hHeld ?_
        case vvz1_0 => exact .pointer (some ⟨lp, 0, none⟩)
        case yyz1_0 =>
          intro W hS
          go_simp
        try simp only [Act.put, List.setIfInBounds_toArray, List.set_cons_zero, List.set_cons_succ]
        refine wpAnyH_take (i := 1) (oi := { dst := some 15, op := Op.nilCheck (Operand.tmp 14), type := 0, pos := "log.go:162", after := #[{ on := 0, ground := Ground.data }], guard := none }) (v := ?vvz2_1) rfl (by kernel_rfl) (by kernel_rfl) (by kernel_rfl) (fun _ _ _ h => h) (Or.inl ⟨by rfl, ?yyz2_1⟩) hHeld ?_
        case vvz2_1 => exact .pointer (some ⟨lp, 0, none⟩)
        case yyz2_1 =>
          intro W hS
          go_simp
        try simp only [Act.put, List.setIfInBounds_toArray, List.set_cons_zero, List.set_cons_succ]
        refine wpAnyH_take (i := 2) (oi := { dst := some 16, op := Op.fieldAddr 83 (Operand.tmp 15) 0, type := 0, pos := "log.go:162", after := #[{ on := 1, ground := Ground.data }], guard := none }) (v := ?vvz3_2) rfl (by kernel_rfl) (by kernel_rfl) (by kernel_rfl) (fun _ _ _ h => h) (Or.inl ⟨by rfl, ?yyz3_2⟩) hHeld ?_
        case vvz3_2 => exact .pointer (some ⟨lp, 0, none⟩)
        case yyz3_2 =>
          intro W hS
          go_simp
        try simp only [Act.put, List.setIfInBounds_toArray, List.set_cons_zero, List.set_cons_succ]
        refine wpAnyH_take (i := 3) (oi := { dst := some 17, op := Op.load 24 (Operand.tmp 16), type := 24, pos := "log.go:162", after := #[{ on := 2, ground := Ground.data }], guard := none }) (v := ?vvz4_3) rfl (by kernel_rfl) (by kernel_rfl) (by kernel_rfl) (fun _ _ _ h => h) (Or.inl ⟨by rfl, ?yyz4_3⟩) hHeld ?_
        case vvz4_3 => exact .pointer (some ⟨p, 0, none⟩)
        case yyz4_3 =>
          intro W hS
          have q0 := HRW.out W hS 0
          simp only [LG.cells, List.getElem?_cons_zero] at q0
          go_simp
        try simp only [Act.put, List.setIfInBounds_toArray, List.set_cons_zero, List.set_cons_succ]
        refine wpAnyH_take (i := 4) (oi := { dst := some 18, op := Op.move (Operand.tmp 0), type := 30, pos := "log.go:162", after := #[], guard := none }) (v := ?vvz5_4) rfl (by kernel_rfl) (by kernel_rfl) (by kernel_rfl) (fun _ _ _ h => h) (Or.inl ⟨by rfl, ?yyz5_4⟩) hHeld ?_
        case vvz5_4 => exact .pointer (some ⟨lp, 0, none⟩)
        case yyz5_4 =>
          intro W hS
          go_simp
        try simp only [Act.put, List.setIfInBounds_toArray, List.set_cons_zero, List.set_cons_succ]
        refine wpAnyH_take (i := 5) (oi := { dst := some 19, op := Op.move (Operand.tmp 0), type := 30, pos := "log.go:162", after := #[], guard := none }) (v := ?vvz6_5) rfl (by kernel_rfl) (by kernel_rfl) (by kernel_rfl) (fun _ _ _ h => h) (Or.inl ⟨by rfl, ?yyz6_5⟩) hHeld ?_
        case vvz6_5 => exact .pointer (some ⟨lp, 0, none⟩)
        case yyz6_5 =>
          intro W hS
          go_simp
        try simp only [Act.put, List.setIfInBounds_toArray, List.set_cons_zero, List.set_cons_succ]
        refine wpAnyH_take (i := 6) (oi := { dst := some 20, op := Op.nilCheck (Operand.tmp 19), type := 0, pos := "log.go:162", after := #[{ on := 5, ground := Ground.data }], guard := none }) (v := ?vvz7_6) rfl (by kernel_rfl) (by kernel_rfl) (by kernel_rfl) (fun _ _ _ h => h) (Or.inl ⟨by rfl, ?yyz7_6⟩) hHeld ?_
        case vvz7_6 => exact .pointer (some ⟨lp, 0, none⟩)
        case yyz7_6 =>
          intro W hS
          go_simp
        try simp only [Act.put, List.setIfInBounds_toArray, List.set_cons_zero, List.set_cons_succ]
        refine wpAnyH_take (i := 7) (oi := { dst := some 21, op := Op.fieldAddr 83 (Operand.tmp 20) 2, type := 0, pos := "log.go:162", after := #[{ on := 6, ground := Ground.data }], guard := none }) (v := ?vvz8_7) rfl (by kernel_rfl) (by kernel_rfl) (by kernel_rfl) (fun _ _ _ h => h) (Or.inl ⟨by rfl, ?yyz8_7⟩) hHeld ?_
        case vvz8_7 => exact .pointer (some ⟨lp, 2, none⟩)
        case yyz8_7 =>
          intro W hS
          go_simp
        try simp only [Act.put, List.setIfInBounds_toArray, List.set_cons_zero, List.set_cons_succ]
        refine wpAnyH_take (i := 8) (oi := { dst := some 22, op := Op.load 3 (Operand.tmp 21), type := 3, pos := "log.go:162", after := #[{ on := 7, ground := Ground.data }], guard := none }) (v := ?vvz9_8) rfl (by kernel_rfl) (by kernel_rfl) (by kernel_rfl) (fun _ _ _ h => h) (Or.inl ⟨by rfl, ?yyz9_8⟩) hHeld ?_
        case vvz9_8 => exact .int .i64 (half : Nat)
        case yyz9_8 =>
          intro W hS
          have q0 := HRW.out W hS 2
          simp only [LG.cells, List.getElem?_cons_zero, List.getElem?_cons_succ, HHALF.out] at q0
          go_simp
        try simp only [Act.put, List.setIfInBounds_toArray, List.set_cons_zero, List.set_cons_succ]
        refine wpAnyH_take (i := 10) (oi := { dst := some 24, op := Op.move (Operand.tmp 5), type := 3, pos := "log.go:162", after := #[], guard := none }) (v := ?vvz10_10) rfl (by kernel_rfl) (by kernel_rfl) (by kernel_rfl) (fun _ _ _ h => h) (Or.inl ⟨by rfl, ?yyz10_10⟩) hHeld ?_
        case vvz10_10 => exact .int .i64 j
        case yyz10_10 =>
          intro W hS
          go_simp
        try simp only [Act.put, List.setIfInBounds_toArray, List.set_cons_zero, List.set_cons_succ]
        refine wpAnyH_ready (rs := [9, 16]) (by kernel_rfl) (by simp) (AllReadyH.cons (o := { dst := some 23, op := Op.call { callee := Callee.value (Operand.func 83), args := #[Operand.tmp 18, Operand.tmp 22], argTypes := #[30, 3] }, type := 3, pos := "log.go:162", after := #[{ on := 4, ground := Ground.data }, { on := 8, ground := Ground.data }], guard := none }) rfl (fun K hK => ?_) (AllReadyH.cons (o := { dst := some 6, op := Op.alloc 90, type := 0, pos := "log.go:162", after := #[], guard := none }) rfl (fun K hK => ?_) AllReadyH.nil))
        · go_simp
          go_at_call 83
          refine (HFI.out _ (HJ.out.2.trans (Below.mono S0 (HJ.out.2.size)))).mono ?_
          rintro e wf ⟨rfl, rfl⟩
          refine hK.out _ _ S0 (fun hHeld => ?_)
          clear hK K
          try simp only [Act.put, List.setIfInBounds_toArray, List.set_cons_zero, List.set_cons_succ]
          refine wpAnyH_take (i := 11) (oi := { dst := some 25, op := Op.binOp BinOp.add 3 (Operand.tmp 23) (Operand.tmp 24) 3, type := 3, pos := "log.go:162", after := #[{ on := 9, ground := Ground.data }, { on := 10, ground := Ground.data }], guard := none }) (v := ?vvz11_11) rfl (by kernel_rfl) (by kernel_rfl) (by kernel_rfl) (fun _ _ _ h => h) (Or.inl ⟨by rfl, ?yyz11_11⟩) hHeld ?_
          case vvz11_11 => exact .int .i64 ((a : Int) + (j : Int))
          case yyz11_11 =>
            intro W hS
            go_simp
            rw [IntKind.wrap_i64]
            omega
          try simp only [Act.put, List.setIfInBounds_toArray, List.set_cons_zero, List.set_cons_succ]
          refine wpAnyH_ready (rs := [12, 16]) (by kernel_rfl) (by simp) (AllReadyH.cons (o := { dst := some 26, op := Op.call { callee := Callee.value (Operand.func 56), args := #[Operand.tmp 17, Operand.tmp 25], argTypes := #[24, 3] }, type := 98, pos := "log.go:162", after := #[{ on := 3, ground := Ground.data }, { on := 11, ground := Ground.data }, { on := 9, ground := Ground.chain }], guard := none }) rfl (fun K hK => ?_) (AllReadyH.cons (o := { dst := some 6, op := Op.alloc 90, type := 0, pos := "log.go:162", after := #[], guard := none }) rfl (fun K hK => ?_) AllReadyH.nil))
          · go_simp
            go_at_call 56
            refine (HRDj.out _ (HJ.out.2.trans (Below.mono S0 (HJ.out.2.size)))).mono ?_
            rintro e w4 ⟨rfl, hb4⟩
            have s4 := SB.next S0 hb4
            refine hK.out _ _ s4 (fun hHeld => ?_)
            clear hK K
            try simp only [Act.put, List.setIfInBounds_toArray, List.set_cons_zero, List.set_cons_succ]
            refine wpAnyH_take (i := 13) (oi := { dst := some 13, op := Op.move (Operand.tmp 26), type := 98, pos := "log.go:162", after := #[{ on := 12, ground := Ground.data }], guard := none }) (v := ?vvz12_13) rfl (by kernel_rfl) (by kernel_rfl) (by kernel_rfl) (fun _ _ _ h => h) (Or.inl ⟨by rfl, ?yyz12_13⟩) hHeld ?_
            case vvz12_13 => exact .tuple #[.agg C.toArray, .int .i64 0]
            case yyz12_13 =>
              intro W hS
              go_simp
            try simp only [Act.put, List.setIfInBounds_toArray, List.set_cons_zero, List.set_cons_succ]
            refine wpAnyH_take (i := 14) (oi := { dst := some 27, op := Op.extract (Operand.tmp 13) 0, type := 90, pos := "log.go:162", after := #[{ on := 13, ground := Ground.data }], guard := none }) (v := ?vvz13_14) rfl (by kernel_rfl) (by kernel_rfl) (by kernel_rfl) (fun _ _ _ h => h) (Or.inl ⟨by rfl, ?yyz13_14⟩) hHeld ?_
            case vvz13_14 => exact .agg C.toArray
            case yyz13_14 =>
              intro W hS
              go_simp
            try simp only [Act.put, List.setIfInBounds_toArray, List.set_cons_zero, List.set_cons_succ]
            refine wpAnyH_take (i := 15) (oi := { dst := some 28, op := Op.extract (Operand.tmp 13) 1, type := 25, pos := "log.go:162", after := #[{ on := 13, ground := Ground.data }, { on := 17, ground := Ground.gcOnly Departure.lateStores }], guard := none }) (v := ?vvz14_15) rfl (by kernel_rfl) (by kernel_rfl) (by kernel_rfl) (fun _ _ _ h => h) (Or.inl ⟨by rfl, ?yyz14_15⟩) hHeld ?_
            case vvz14_15 => exact .int .i64 0
            case yyz14_15 =>
              intro W hS
              go_simp
            try simp only [Act.put, List.setIfInBounds_toArray, List.set_cons_zero, List.set_cons_succ]
            refine wpAnyH_ready (rs := [16]) (by kernel_rfl) (by simp) (AllReadyH.cons (o := { dst := some 6, op := Op.alloc 90, type := 0, pos := "log.go:162", after := #[], guard := none }) rfl (fun K hK => ?_) AllReadyH.nil)
            go_simp
            have s5 := SB.al s4 (.cells Z.toArray 90)
            have r5 : Row (w4.alloc (.cells Z.toArray 90)) w4.heap.size 90 Z := Row.new w4 _ _
            have z5 : wr.heap.size ≤ w4.heap.size := s4.size
            refine hK.out _ _ s5 (fun hHeld => ?_)
            clear hK K
            try simp only [Act.put, List.setIfInBounds_toArray, List.set_cons_zero, List.set_cons_succ]
            refine wpAnyH_ready (rs := [17]) (by kernel_rfl) (by simp) (AllReadyH.cons (o := { dst := none, op := Op.store 90 (Operand.tmp 6) (Operand.tmp 27), type := 0, pos := "log.go:162", after := #[{ on := 16, ground := Ground.data }, { on := 14, ground := Ground.data }, { on := 12, ground := Ground.chain }, { on := 0, ground := Ground.phase }, { on := 1, ground := Ground.phase }, { on := 2, ground := Ground.phase }, { on := 3, ground := Ground.phase }, { on := 4, ground := Ground.phase }, { on := 5, ground := Ground.phase }, { on := 6, ground := Ground.phase }, { on := 7, ground := Ground.phase }, { on := 8, ground := Ground.phase }, { on := 9, ground := Ground.phase }, { on := 10, ground := Ground.phase }, { on := 11, ground := Ground.phase }, { on := 12, ground := Ground.phase }, { on := 13, ground := Ground.phase }, { on := 14, ground := Ground.phase }, { on := 15, ground := Ground.textOnly Departure.lateStores }, { on := 16, ground := Ground.phase }], guard := none }) rfl (fun K hK => ?_) AllReadyH.nil)
            rw [if_pos (by rfl)]
            refine wp_store_mid _ _ _ rfl w4.heap.size 0 C.toArray rfl rfl (hthZ _ _ r5) HC.out.2.2.2 HC.out.2.1 ?_
            try simp only [Act.put, List.setIfInBounds_toArray, List.set_cons_zero, List.set_cons_succ, List.toList_toArray]
            have hP := HPS.out _ w4.heap.size s5 r5 (by omega)
            refine hK.out _ _ hP.2 (fun hHeld => ?_)
            clear hK K
            try simp only [Act.put, List.setIfInBounds_toArray, List.set_cons_zero, List.set_cons_succ]
            refine wpAnyH_ready (rs := [18]) (by kernel_rfl) (by simp) (AllReadyH.cons (o := { dst := some 7, op := Op.assign (Operand.tmp 28), type := 25, pos := "log.go:162", after := #[{ on := 15, ground := Ground.data }, { on := 17, ground := Ground.chain }, { on := 0, ground := Ground.phase }, { on := 1, ground := Ground.phase }, { on := 2, ground := Ground.phase }, { on := 3, ground := Ground.phase }, { on := 4, ground := Ground.phase }, { on := 5, ground := Ground.phase }, { on := 6, ground := Ground.phase }, { on := 7, ground := Ground.phase }, { on := 8, ground := Ground.phase }, { on := 9, ground := Ground.phase }, { on := 10, ground := Ground.phase }, { on := 11, ground := Ground.phase }, { on := 12, ground := Ground.phase }, { on := 13, ground := Ground.phase }, { on := 14, ground := Ground.phase }, { on := 15, ground := Ground.phase }, { on := 16, ground := Ground.phase }, { on := 17, ground := Ground.phase }], guard := none }) rfl (fun K hK => ?_) AllReadyH.nil)
            go_simp
            refine hK.out _ _ hP.2 (fun hHeld => ?_)
            clear hK K
            try simp only [Act.put, List.setIfInBounds_toArray, List.set_cons_zero, List.set_cons_succ]
            refine wpAnyH_done (by kernel_rfl) ?_ _
            refine NoPanic.normal ?_
            exact ⟨rfl, _, rfl, hP⟩
          · go_simp
            have s3 := SB.al S0 (.cells Z.toArray 90)
            have r3 : Row (wr.drew.alloc (.cells Z.toArray 90)) wr.drew.heap.size 90 Z := Row.new wr.drew _ _
            have z3 : wr.heap.size ≤ wr.drew.heap.size := Nat.le_refl _
            refine hK.out _ _ s3 (fun hHeld => ?_)
            clear hK K
            try simp only [Act.put, List.setIfInBounds_toArray, List.set_cons_zero, List.set_cons_succ]
            refine wpAnyH_ready (rs := [12]) (by kernel_rfl) (by simp) (AllReadyH.cons (o := { dst := some 26, op := Op.call { callee := Callee.value (Operand.func 56), args := #[Operand.tmp 17, Operand.tmp 25], argTypes := #[24, 3] }, type := 98, pos := "log.go:162", after := #[{ on := 3, ground := Ground.data }, { on := 11, ground := Ground.data }, { on := 9, ground := Ground.chain }], guard := none }) rfl (fun K hK => ?_) AllReadyH.nil)
            go_simp
            go_at_call 56
            refine (HRDj.out _ (HJ.out.2.trans (Below.mono s3 (HJ.out.2.size)))).mono ?_
            rintro e w4 ⟨rfl, hb4⟩
            have s4 := SB.next s3 hb4
            have r4 := r3.below hb4 r3.lt
            refine hK.out _ _ s4 (fun hHeld => ?_)
            clear hK K
            try simp only [Act.put, List.setIfInBounds_toArray, List.set_cons_zero, List.set_cons_succ]
            refine wpAnyH_take (i := 13) (oi := { dst := some 13, op := Op.move (Operand.tmp 26), type := 98, pos := "log.go:162", after := #[{ on := 12, ground := Ground.data }], guard := none }) (v := ?vvz15_13) rfl (by kernel_rfl) (by kernel_rfl) (by kernel_rfl) (fun _ _ _ h => h) (Or.inl ⟨by rfl, ?yyz15_13⟩) hHeld ?_
            case vvz15_13 => exact .tuple #[.agg C.toArray, .int .i64 0]
            case yyz15_13 =>
              intro W hS
              go_simp
            try simp only [Act.put, List.setIfInBounds_toArray, List.set_cons_zero, List.set_cons_succ]
            refine wpAnyH_take (i := 14) (oi := { dst := some 27, op := Op.extract (Operand.tmp 13) 0, type := 90, pos := "log.go:162", after := #[{ on := 13, ground := Ground.data }], guard := none }) (v := ?vvz16_14) rfl (by kernel_rfl) (by kernel_rfl) (by kernel_rfl) (fun _ _ _ h => h) (Or.inl ⟨by rfl, ?yyz16_14⟩) hHeld ?_
            case vvz16_14 => exact .agg C.toArray
            case yyz16_14 =>
              intro W hS
              go_simp
            try simp only [Act.put, List.setIfInBounds_toArray, List.set_cons_zero, List.set_cons_succ]
            refine wpAnyH_take (i := 15) (oi := { dst := some 28, op := Op.extract (Operand.tmp 13) 1, type := 25, pos := "log.go:162", after := #[{ on := 13, ground := Ground.data }, { on := 17, ground := Ground.gcOnly Departure.lateStores }], guard := none }) (v := ?vvz17_15) rfl (by kernel_rfl) (by kernel_rfl) (by kernel_rfl) (fun _ _ _ h => h) (Or.inl ⟨by rfl, ?yyz17_15⟩) hHeld ?_
            case vvz17_15 => exact .int .i64 0
            case yyz17_15 =>
              intro W hS
              go_simp
            try simp only [Act.put, List.setIfInBounds_toArray, List.set_cons_zero, List.set_cons_succ]
            refine wpAnyH_ready (rs := [17]) (by kernel_rfl) (by simp) (AllReadyH.cons (o := { dst := none, op := Op.store 90 (Operand.tmp 6) (Operand.tmp 27), type := 0, pos := "log.go:162", after := #[{ on := 16, ground := Ground.data }, { on := 14, ground := Ground.data }, { on := 12, ground := Ground.chain }, { on := 0, ground := Ground.phase }, { on := 1, ground := Ground.phase }, { on := 2, ground := Ground.phase }, { on := 3, ground := Ground.phase }, { on := 4, ground := Ground.phase }, { on := 5, ground := Ground.phase }, { on := 6, ground := Ground.phase }, { on := 7, ground := Ground.phase }, { on := 8, ground := Ground.phase }, { on := 9, ground := Ground.phase }, { on := 10, ground := Ground.phase }, { on := 11, ground := Ground.phase }, { on := 12, ground := Ground.phase }, { on := 13, ground := Ground.phase }, { on := 14, ground := Ground.phase }, { on := 15, ground := Ground.textOnly Departure.lateStores }, { on := 16, ground := Ground.phase }], guard := none }) rfl (fun K hK => ?_) AllReadyH.nil)
            rw [if_pos (by rfl)]
            refine wp_store_mid _ _ _ rfl wr.drew.heap.size 0 C.toArray rfl rfl (hthZ _ _ r4) HC.out.2.2.2 HC.out.2.1 ?_
            try simp only [Act.put, List.setIfInBounds_toArray, List.set_cons_zero, List.set_cons_succ, List.toList_toArray]
            have hP := HPS.out _ wr.drew.heap.size s4 r4 (by omega)
            refine hK.out _ _ hP.2 (fun hHeld => ?_)
            clear hK K
            try simp only [Act.put, List.setIfInBounds_toArray, List.set_cons_zero, List.set_cons_succ]
            refine wpAnyH_ready (rs := [18]) (by kernel_rfl) (by simp) (AllReadyH.cons (o := { dst := some 7, op := Op.assign (Operand.tmp 28), type := 25, pos := "log.go:162", after := #[{ on := 15, ground := Ground.data }, { on := 17, ground := Ground.chain }, { on := 0, ground := Ground.phase }, { on := 1, ground := Ground.phase }, { on := 2, ground := Ground.phase }, { on := 3, ground := Ground.phase }, { on := 4, ground := Ground.phase }, { on := 5, ground := Ground.phase }, { on := 6, ground := Ground.phase }, { on := 7, ground := Ground.phase }, { on := 8, ground := Ground.phase }, { on := 9, ground := Ground.phase }, { on := 10, ground := Ground.phase }, { on := 11, ground := Ground.phase }, { on := 12, ground := Ground.phase }, { on := 13, ground := Ground.phase }, { on := 14, ground := Ground.phase }, { on := 15, ground := Ground.phase }, { on := 16, ground := Ground.phase }, { on := 17, ground := Ground.phase }], guard := none }) rfl (fun K hK => ?_) AllReadyH.nil)
            go_simp
            refine hK.out _ _ hP.2 (fun hHeld => ?_)
            clear hK K
            try simp only [Act.put, List.setIfInBounds_toArray, List.set_cons_zero, List.set_cons_succ]
            refine wpAnyH_done (by kernel_rfl) ?_ _
            refine NoPanic.normal ?_
            exact ⟨rfl, _, rfl, hP⟩
        · go_simp
          have s3 := SB.al S0 (.cells Z.toArray 90)
          have r3 : Row (wr.drew.alloc (.cells Z.toArray 90)) wr.drew.heap.size 90 Z := Row.new wr.drew _ _
          have z3 : wr.heap.size ≤ wr.drew.heap.size := Nat.le_refl _
          refine hK.out _ _ s3 (fun hHeld => ?_)
          clear hK K
          try simp only [Act.put, List.setIfInBounds_toArray, List.set_cons_zero, List.set_cons_succ]
          refine wpAnyH_ready (rs := [9]) (by kernel_rfl) (by simp) (AllReadyH.cons (o := { dst := some 23, op := Op.call { callee := Callee.value (Operand.func 83), args := #[Operand.tmp 18, Operand.tmp 22], argTypes := #[30, 3] }, type := 3, pos := "log.go:162", after := #[{ on := 4, ground := Ground.data }, { on := 8, ground := Ground.data }], guard := none }) rfl (fun K hK => ?_) AllReadyH.nil)
          go_simp
          go_at_call 83
          refine (HFI.out _ (HJ.out.2.trans (Below.mono s3 (HJ.out.2.size)))).mono ?_
          rintro e wf ⟨rfl, rfl⟩
          refine hK.out _ _ s3 (fun hHeld => ?_)
          clear hK K
          try simp only [Act.put, List.setIfInBounds_toArray, List.set_cons_zero, List.set_cons_succ]
          refine wpAnyH_take (i := 11) (oi := { dst := some 25, op := Op.binOp BinOp.add 3 (Operand.tmp 23) (Operand.tmp 24) 3, type := 3, pos := "log.go:162", after := #[{ on := 9, ground := Ground.data }, { on := 10, ground := Ground.data }], guard := none }) (v := ?vvz18_11) rfl (by kernel_rfl) (by kernel_rfl) (by kernel_rfl) (fun _ _ _ h => h) (Or.inl ⟨by rfl, ?yyz18_11⟩) hHeld ?_
          case vvz18_11 => exact .int .i64 ((a : Int) + (j : Int))
          case yyz18_11 =>
            intro W hS
            go_simp
            rw [IntKind.wrap_i64]
            omega
          try simp only [Act.put, List.setIfInBounds_toArray, List.set_cons_zero, List.set_cons_succ]
          refine wpAnyH_ready (rs := [12]) (by kernel_rfl) (by simp) (AllReadyH.cons (o := { dst := some 26, op := Op.call { callee := Callee.value (Operand.func 56), args := #[Operand.tmp 17, Operand.tmp 25], argTypes := #[24, 3] }, type := 98, pos := "log.go:162", after := #[{ on := 3, ground := Ground.data }, { on := 11, ground := Ground.data }, { on := 9, ground := Ground.chain }], guard := none }) rfl (fun K hK => ?_) AllReadyH.nil)
          go_simp
          go_at_call 56
          refine (HRDj.out _ (HJ.out.2.trans (Below.mono s3 (HJ.out.2.size)))).mono ?_
          rintro e w4 ⟨rfl, hb4⟩
          have s4 := SB.next s3 hb4
          have r4 := r3.below hb4 r3.lt
          refine hK.out _ _ s4 (fun hHeld => ?_)
          clear hK K
          try simp only [Act.put, List.setIfInBounds_toArray, List.set_cons_zero, List.set_cons_succ]
          refine wpAnyH_take (i := 13) (oi := { dst := some 13, op := Op.move (Operand.tmp 26), type := 98, pos := "log.go:162", after := #[{ on := 12, ground := Ground.data }], guard := none }) (v := ?vvz19_13) rfl (by kernel_rfl) (by kernel_rfl) (by kernel_rfl) (fun _ _ _ h => h) (Or.inl ⟨by rfl, ?yyz19_13⟩) hHeld ?_
          case vvz19_13 => exact .tuple #[.agg C.toArray, .int .i64 0]
          case yyz19_13 =>
            intro W hS
            go_simp
          try simp only [Act.put, List.setIfInBounds_toArray, List.set_cons_zero, List.set_cons_succ]
          refine wpAnyH_take (i := 14) (oi := { dst := some 27, op := Op.extract (Operand.tmp 13) 0, type := 90, pos := "log.go:162", after := #[{ on := 13, ground := Ground.data }], guard := none }) (v := ?vvz20_14) rfl (by kernel_rfl) (by kernel_rfl) (by kernel_rfl) (fun _ _ _ h => h) (Or.inl ⟨by rfl, ?yyz20_14⟩) hHeld ?_
          case vvz20_14 => exact .agg C.toArray
          case yyz20_14 =>
            intro W hS
            go_simp
          try simp only [Act.put, List.setIfInBounds_toArray, List.set_cons_zero, List.set_cons_succ]
          refine wpAnyH_take (i := 15) (oi := { dst := some 28, op := Op.extract (Operand.tmp 13) 1, type := 25, pos := "log.go:162", after := #[{ on := 13, ground := Ground.data }, { on := 17, ground := Ground.gcOnly Departure.lateStores }], guard := none }) (v := ?vvz21_15) rfl (by kernel_rfl) (by kernel_rfl) (by kernel_rfl) (fun _ _ _ h => h) (Or.inl ⟨by rfl, ?yyz21_15⟩) hHeld ?_
          case vvz21_15 => exact .int .i64 0
          case yyz21_15 =>
            intro W hS
            go_simp
          try simp only [Act.put, List.setIfInBounds_toArray, List.set_cons_zero, List.set_cons_succ]
          refine wpAnyH_ready (rs := [17]) (by kernel_rfl) (by simp) (AllReadyH.cons (o := { dst := none, op := Op.store 90 (Operand.tmp 6) (Operand.tmp 27), type := 0, pos := "log.go:162", after := #[{ on := 16, ground := Ground.data }, { on := 14, ground := Ground.data }, { on := 12, ground := Ground.chain }, { on := 0, ground := Ground.phase }, { on := 1, ground := Ground.phase }, { on := 2, ground := Ground.phase }, { on := 3, ground := Ground.phase }, { on := 4, ground := Ground.phase }, { on := 5, ground := Ground.phase }, { on := 6, ground := Ground.phase }, { on := 7, ground := Ground.phase }, { on := 8, ground := Ground.phase }, { on := 9, ground := Ground.phase }, { on := 10, ground := Ground.phase }, { on := 11, ground := Ground.phase }, { on := 12, ground := Ground.phase }, { on := 13, ground := Ground.phase }, { on := 14, ground := Ground.phase }, { on := 15, ground := Ground.textOnly Departure.lateStores }, { on := 16, ground := Ground.phase }], guard := none }) rfl (fun K hK => ?_) AllReadyH.nil)
          rw [if_pos (by rfl)]
          refine wp_store_mid _ _ _ rfl wr.drew.heap.size 0 C.toArray rfl rfl (hthZ _ _ r4) HC.out.2.2.2 HC.out.2.1 ?_
          try simp only [Act.put, List.setIfInBounds_toArray, List.set_cons_zero, List.set_cons_succ, List.toList_toArray]
          have hP := HPS.out _ wr.drew.heap.size s4 r4 (by omega)
          refine hK.out _ _ hP.2 (fun hHeld => ?_)
          clear hK K
          try simp only [Act.put, List.setIfInBounds_toArray, List.set_cons_zero, List.set_cons_succ]
          refine wpAnyH_ready (rs := [18]) (by kernel_rfl) (by simp) (AllReadyH.cons (o := { dst := some 7, op := Op.assign (Operand.tmp 28), type := 25, pos := "log.go:162", after := #[{ on := 15, ground := Ground.data }, { on := 17, ground := Ground.chain }, { on := 0, ground := Ground.phase }, { on := 1, ground := Ground.phase }, { on := 2, ground := Ground.phase }, { on := 3, ground := Ground.phase }, { on := 4, ground := Ground.phase }, { on := 5, ground := Ground.phase }, { on := 6, ground := Ground.phase }, { on := 7, ground := Ground.phase }, { on := 8, ground := Ground.phase }, { on := 9, ground := Ground.phase }, { on := 10, ground := Ground.phase }, { on := 11, ground := Ground.phase }, { on := 12, ground := Ground.phase }, { on := 13, ground := Ground.phase }, { on := 14, ground := Ground.phase }, { on := 15, ground := Ground.phase }, { on := 16, ground := Ground.phase }, { on := 17, ground := Ground.phase }], guard := none }) rfl (fun K hK => ?_) AllReadyH.nil)
          go_simp
          refine hK.out _ _ hP.2 (fun hHeld => ?_)
          clear hK K
          try simp only [Act.put, List.setIfInBounds_toArray, List.set_cons_zero, List.set_cons_succ]
          refine wpAnyH_done (by kernel_rfl) ?_ _
          refine NoPanic.normal ?_
          exact ⟨rfl, _, rfl, hP⟩

      · intro gb wf hPf
        try simp only [Act.put, List.setIfInBounds_toArray, List.set_cons_zero, List.set_cons_succ]
        have hwf : w.heap.size ≤ wf.heap.size := Nat.le_trans HJ.out.2.size hPf.2.size
        have hWB := BWrite_any w.heap.size w.heap.size gb (Lib.byteCells (bytesN D a j)) C (fun u hu => (Array.all_eq_true_iff_forall_mem.1 HC.out.2.1) u (by simpa using hu)) wf (isBuilder_below HJ.out.1 hPf.2) hPf.1
          (by rw [Lib.byteCells_length, HBL.out j (by omega), HC.out.2.2.1]; omega) hwf
        rw [HC.out.2.2.1, show Lib.byteCells (bytesN D a j) ++ C = Lib.byteCells (bytesN D a (j + 1)) by rw [← HC.out.1, show bytesN D a (j + 1) = bytesN D a j ++ D.read ((a + j : Nat) : Int) from rfl]; exact (List.map_append).symm] at hWB
        have HWB := Lib.hid hWB
        have HPF := Lib.hid (And.intro hPf hwf)
        clear hWB hPf hwf HPS hthZ S0 HRW HC
        go_wp2_with fail
        refine HWB.out.mono ?_
        rintro e w5 ⟨rfl, hb5⟩
        have H5 : Hid (Lib.IsBuilder 127 5 w.heap.size w.heap.size (Lib.byteCells (bytesN D a (j + 1))) w5 ∧ Below w.heap.size w w5) := Lib.hid ⟨.inr hb5.1, (HJ.out.2.trans (HPF.out.1.2.mono HJ.out.2.size)).trans hb5.2.1⟩
        clear hb5
        go_wp2_with fail
        go_roundw
        case rel => exact ⟨j + 1, by go_num, by omega, H5⟩
        case measure => simp [intOf]; omega
    · obtain rfl : j = n := by omega
      go_wp2_with fail
      refine (BString_any w.heap.size w.heap.size (bytesN D a j) wr HJ.out.1 HJ.out.2.size).mono ?_
      rintro e w6 ⟨rfl, hb6⟩
      have H6 := Lib.hid (HJ.out.2.trans hb6)
      clear hb6
      go_wp2_with fail
      go_ret2
      exact ⟨rfl, H6.out⟩
end
end Go.Proofs.YtiaaeniopjpfpaaGreatDoor

namespace Go.Proofs.YtiaaeniopjpfpaaGreatDoor
open Go Go.RowKit Go.Maps
set_option linter.unusedVariables false
set_option linter.unusedSimpArgs false

section
variable {L : Nat → Prop} {w : World} {lp p : Nat} {g : LG}
set_option maxRecDepth 4000 in
theorem wipe_any (hr : Row w lp 83 (g.cells p)) (bs : List UInt8) (hl : bs.length ≤ 1000000000) (hu : (Lib.trimRightB bs 0).length ≤ g.used) :
    Calls Tryz.prog 44 #[.pointer (some ⟨lp, 0, none⟩), .string (tx bs)] w fun e w' => e = .returned (.int .i64 0) ∧ w = w' := by
  have HT : Hid (Calls Tryz.prog 86 #[.string (tx bs), .string ⟨#[0]⟩] w fun e w' => e = .returned (.string (tx (Lib.trimRightB bs 0))) ∧ w' = w) := Lib.hid (by
    have h := Tryz.strings_TrimRight_one (tx bs) 0 (by decide) w (by rw [tx_size]; omega)
    rw [tx_list] at h
    exact h)
  obtain ⟨R, hR⟩ : ∃ R, tx (Lib.trimRightB bs 0) = R := ⟨_, rfl⟩
  have hRs : R.size = (Lib.trimRightB bs 0).length := by rw [← hR, tx_size]
  rw [hR] at HT
  obtain ⟨k, hk⟩ : ∃ k, (Lib.trimRightB bs 0).length = k := ⟨_, rfl⟩
  obtain ⟨u, hu2⟩ : ∃ u, g.used = u := ⟨_, rfl⟩
  rw [hk] at hRs hu
  have c4 := hr.cell 4
  simp only [LG.cells, List.getElem?_cons_zero, List.getElem?_cons_succ] at c4
  rw [hu2] at hu c4
  have hkI : (k : Int) ≤ (u : Int) := by omega
  clear hR hk hu2 hl hr
  go_enter Tryz.func44, Tryz.ntmps44
  go_wp2_with fail
  refine HT.out.mono ?_
  rintro e w1 ⟨rfl, rfl⟩
  go_wp2_with fail
  go_ret
  exact ⟨rfl, rfl⟩
end
end Go.Proofs.YtiaaeniopjpfpaaGreatDoor

namespace Go.Proofs.YtiaaeniopjpfpaaGreatDoor
open Go Go.Shelf Go.RowKit Go.Maps
set_option linter.unusedVariables false
set_option linter.unusedSimpArgs false
attribute [local go_sem] Oper.semAt_some

theorem picks_ok {g : LG} (h : g.ok) {D : DS} (hD : D.ok) (hdn : D.down = false) : (g.picks D 2).ok := by
  have := hD.least
  exact pick_ok (pick_ok h (readB_len hD hdn 0 (by omega))) (readB_len hD hdn 1 (by omega))
theorem str_infoO : (Tryz.prog.info? 9).map (fun i => (i.zero, i.size, i.bytes)) = some (some (.string ⟨#[]⟩), 1, 16) := by kernel_rfl
def LG.zero : LG := ⟨0, 0, 0, 0, 0⟩
/-- The place behind the last frame. -/
def usedL (u : Nat) (pre : List (Nat × List UInt8)) : Nat := match pre.getLast? with
  | none => u
  | some x => x.1
theorem usedL_snoc (u : Nat) (pre : List (Nat × List UInt8)) (x : Nat × List UInt8) : usedL u (pre ++ [x]) = x.1 := by
  unfold usedL
  simp
/-- The log as it is opened. -/
def LG.opened (D : DS) : LG := LG.zero.picks D 2
def LG.opentexts (D : DS) : List (Nat × List UInt8) := framesL ((LG.opened D).bytes D)
def LG.openG (D : DS) : LG := { LG.opened D with used := usedL (LG.opened D).used (LG.opentexts D), count := (LG.opentexts D).length }
theorem own_row_f {β : Type} (B : Nat) (t : TypeId) (f : β → List Value) : Own (fun (s : β) W => Row W B t (f s)) := fun s X Y row h hg hrow => by
  refine (hg.block B h.lt (fun e => ?_)).trans h
  obtain ⟨o, ho, hc⟩ := hrow B e.symm
  rw [show X.heap[B]? = _ from h] at ho
  cases ho
  cases hc
section
variable {L : Nat → Prop} {w : World} {p : Nat} {D : DS}
set_option maxRecDepth 100000 in
set_option maxHeartbeats 4000000 in
theorem Open_any (hG : G w) (hd : DiskIs L w p D) (hdn : D.down = false) (hw : (Lib.trimRightB ((LG.opened D).bytes D) 0).length ≤ (LG.openG D).used) :
    Calls Tryz.prog 11 #[.pointer (some ⟨p, 0, none⟩)] w fun e w' => (∃ lp v, e = .returned (.tuple #[.pointer (some ⟨lp, 0, none⟩), v, .int .i64 0]) ∧ w.heap.size ≤ lp ∧ Row w' lp 83 ((LG.openG D).cells p) ∧
      w'.ownsRow w.heap.size 9 1 v (LG.opentexts D).length ((LG.opentexts D).map fun x => Value.string (tx x.2))) ∧ Below w.heap.size w w' := by
  have hgood : D.ok := by obtain ⟨gl0, gm0, hv0, Dm0, hd0⟩ := id hd; exact hd0.good
  have hsec : secs D ≤ 2047 := by obtain ⟨gl0, gm0, hv0, Dm0, hd0⟩ := id hd; exact (secs_le hd0).1
  have hok : LG.zero.ok := ⟨by decide, by decide⟩
  have hok2 : (LG.opened D).ok := picks_ok hok hgood hdn
  obtain ⟨i0, hi, hz0, hz1, hz2⟩ := info_parts str_infoO
  refine (callsIn_wide (n := 6)).1 ?_
  refine callsIn_of_wp_marks Tryz.func11 rfl trivial ?_ rfl
  simp only [Tryz.ntmps11, List.size_toArray, List.length_cons, List.length_nil, Nat.reduceAdd, Nat.reduceSub, Array.replicate_succ, Array.replicate_zero, List.push_toArray, List.append_toArray, List.nil_append, List.cons_append]
  rw [wpIn_wide]
  have HH := Lib.hid (And.intro hG (And.intro hd (And.intro hdn (And.intro hw (And.intro hgood (And.intro hsec (And.intro hok hok2)))))))
  clear hG hd hdn hw hgood hsec hok hok2
  go_wp2_with fail
  obtain ⟨lp, hlp⟩ : ∃ lp, w.heap.size = lp := ⟨_, rfl⟩
  have H0 : Hid (Row ((w.alloc (.cells #[.pointer (some ⟨p, 0, none⟩), .int .u64 0, .int .i64 0, .int .i64 0, .int .i64 0, .int .i64 0] 83)).alloc (.cells #[.pointer (some ⟨w.heap.size, 0, none⟩)] 30)) lp 83 (LG.zero.cells p) ∧
      Boxed ((w.alloc (.cells #[.pointer (some ⟨p, 0, none⟩), .int .u64 0, .int .i64 0, .int .i64 0, .int .i64 0, .int .i64 0] 83)).alloc (.cells #[.pointer (some ⟨w.heap.size, 0, none⟩)] 30)) (lp + 1) 30 (.pointer (some ⟨lp, 0, none⟩)) ∧
      Below w.heap.size w ((w.alloc (.cells #[.pointer (some ⟨p, 0, none⟩), .int .u64 0, .int .i64 0, .int .i64 0, .int .i64 0, .int .i64 0] 83)).alloc (.cells #[.pointer (some ⟨w.heap.size, 0, none⟩)] 30))) := Lib.hid (by
    subst hlp
    refine ⟨(Row.new w 83 [.pointer (some ⟨p, 0, none⟩), .int .u64 0, .int .i64 0, .int .i64 0, .int .i64 0, .int .i64 0]).alloc _, ?_, ((Below.refl _ _).alloc (Nat.le_refl _) _).alloc (by simp) _⟩
    have h := Boxed.new (w.alloc (.cells #[.pointer (some ⟨p, 0, none⟩), .int .u64 0, .int .i64 0, .int .i64 0, .int .i64 0, .int .i64 0] 83)) 30 (.pointer (some ⟨w.heap.size, 0, none⟩))
    rw [World.size_alloc] at h
    exact h)
  generalize (w.alloc (.cells #[.pointer (some ⟨p, 0, none⟩), .int .u64 0, .int .i64 0, .int .i64 0, .int .i64 0, .int .i64 0] 83)).alloc (.cells #[.pointer (some ⟨w.heap.size, 0, none⟩)] 30) = wa at H0 ⊢
  rw [hlp] at H0 ⊢
  have HLP := Lib.hid hlp
  have hCH := choose_any (w := wa) (lp := lp) (p := p) (D := D) (g := LG.zero) (HH.out.1.below (by rw [hlp]; exact H0.out.2.2)) (by have := HH.out.1.lt; omega) H0.out.1 ((HH.out.2.1.more (L' := fun k => k = lp) (fun g hg => .inr (by omega))).below (by rw [hlp]; exact H0.out.2.2)) HH.out.2.2.1 HH.out.2.2.2.2.2.2.1
  have HCH := Lib.hid hCH
  clear hCH hlp
  refine HCH.out.mono ?_
  rintro e w2 ⟨rfl, hr2, hk2⟩
  have H2 : Hid (Row w2 lp 83 ((LG.opened D).cells p) ∧ Below lp w w2) := Lib.hid ⟨hr2, H0.out.2.2.trans (hk2.below (by have := H0.out.2.2.size; have := HLP.out; omega) (fun k hk => by omega))⟩
  have hX2 : Boxed w2 (lp + 1) 30 (.pointer (some ⟨lp, 0, none⟩)) := (hk2.block (lp + 1) H0.out.2.1.lt (by omega)).trans H0.out.2.1
  have hx2 := hX2.cell
  have HX2 := Lib.hid hX2
  clear hr2 hk2 hX2 HCH
  go_wp2_with fail
  obtain ⟨bs, hbs⟩ : ∃ bs, (LG.opened D).bytes D = bs := ⟨_, rfl⟩
  have hBY := bytes_any H2.out.1 (HH.out.2.1.below (by rw [HLP.out]; exact H2.out.2)) HH.out.2.2.1 HH.out.2.2.2.2.2.2.2.half
  rw [hbs] at hBY
  refine hBY.mono ?_
  rintro e w3 ⟨rfl, hb3⟩
  have H3 : Hid (Row w3 lp 83 ((LG.opened D).cells p) ∧ Boxed w3 (lp + 1) 30 (.pointer (some ⟨lp, 0, none⟩)) ∧ Below lp w w3) := Lib.hid ⟨H2.out.1.below hb3 H2.out.1.lt, (hb3.block _ HX2.out.lt).trans HX2.out, H2.out.2.trans (hb3.mono (by have := H2.out.2.size; have := HLP.out; omega))⟩
  have HBS := Lib.hid hbs
  clear hBY hb3 hx2 H2 HX2 H0 hbs
  go_wp2_with fail
  refine ((callsIn_wide (n := 0)).1 (Frames_in 0 (tx bs) _)).mono ?_
  rintro e w4 ⟨rfl, rfl⟩
  go_wp2_with fail
  obtain ⟨s3, hs3⟩ : ∃ s, w3.heap.size = s := ⟨_, rfl⟩
  have H5 : Hid ((Row ((w3.alloc (.cells #[.slice none 0 0] 31)).alloc (.cells #[.string (tx bs)] 9)) lp 83 ((LG.opened D).cells p) ∧ Boxed ((w3.alloc (.cells #[.slice none 0 0] 31)).alloc (.cells #[.string (tx bs)] 9)) (lp + 1) 30 (.pointer (some ⟨lp, 0, none⟩))) ∧ (Boxed ((w3.alloc (.cells #[.slice none 0 0] 31)).alloc (.cells #[.string (tx bs)] 9)) s3 31 (.slice none 0 0) ∧ Boxed ((w3.alloc (.cells #[.slice none 0 0] 31)).alloc (.cells #[.string (tx bs)] 9)) (s3 + 1) 9 (.string (tx bs))) ∧ Below lp w ((w3.alloc (.cells #[.slice none 0 0] 31)).alloc (.cells #[.string (tx bs)] 9)) ∧ lp + 1 < s3 ∧ ((w3.alloc (.cells #[.slice none 0 0] 31)).alloc (.cells #[.string (tx bs)] 9)).heap.size = s3 + 2) := Lib.hid (by
    subst hs3
    have hz := H3.out.2.2.size
    have hl := H3.out.2.1.lt
    have hB := Boxed.new (w3.alloc (.cells #[.slice none 0 0] 31)) 9 (.string (tx bs))
    rw [World.size_alloc] at hB
    exact ⟨⟨(H3.out.1.alloc _).alloc _, (H3.out.2.1.alloc _).alloc _⟩, ⟨(Boxed.new w3 _ _).alloc _, hB⟩, (H3.out.2.2.alloc (by omega) _).alloc (by rw [World.size_alloc]; omega) _, hl, by rw [World.size_alloc, World.size_alloc]⟩)
  rw [hs3]
  generalize ((w3.alloc (.cells #[.slice none 0 0] 31)).alloc (.cells #[.string (tx bs)] 9)) = w5 at H5 ⊢
  clear H3 hs3
  have hG5 : G w5 := HH.out.1.below (by rw [HLP.out]; exact H5.out.2.2.1)
  have hsl : s3 + 2 ≤ w5.heap.size := Nat.le_of_eq H5.out.2.2.2.2.symm
  have hsl2 : w5.heap.size ≤ s3 + 2 := Nat.le_of_eq H5.out.2.2.2.2
  have hlt5 := H5.out.2.2.2.1
  have hgl : 0 < lp := by have := HH.out.1.lt; have := HLP.out; omega
  have hbl : bs.length ≤ 1000000 := by
    obtain ⟨gl0, gm0, hv0, Dm0, hd0⟩ := id HH.out.2.1
    have hl := half_in HH.out.2.2.2.2.1 (LG.opened D).half (secs D - 1) HH.out.2.2.2.2.2.2.2.half (by have := (secs_le hd0).2; omega)
    have hb := bytesN_length D HH.out.2.2.2.2.1 HH.out.2.2.1 (2 + (LG.opened D).half * secs D) (secs D) (by have := (secs_le hd0).2; omega)
    have hs := HH.out.2.2.2.2.2.1
    rw [← HBS.out]
    unfold LG.bytes
    omega
  have hfl : (framesL bs).length ≤ bs.length := framesF_length _ _ _ _
  rw [← wpIn_wide (n := 6)]
  refine' wpIn_rangeFunc_ownG rfl (by omega) (gf := 64) (lb := #[.pointer (some ⟨s3 + 1, 0, none⟩)]) rfl trivial (enters_of Tryz.func64 (by kernel_rfl) rfl)
    (Frames_stops 5 (by omega) (s3 + 1) bs (by omega) w5 hG5 H5.out.2.1.2) keepsF_t (keepsF_b (by omega) (by omega)) (Below.refl _ _) (fun _ => rfl)
    (fun (pre : List (Nat × List UInt8)) W => (∃ v, Boxed W s3 31 v ∧ W.ownsRow (s3 + 2) 9 1 v pre.length (pre.map fun x => Value.string (tx x.2)) ∧ True) ∧ Row W lp 83 (({ LG.opened D with used := usedL (LG.opened D).used pre } : LG).cells p) ∧ Keeps (fun k => k < s3 + 2 ∧ k ≠ s3 ∧ k ≠ lp) w5 W)
    (fun _ _ _ => False)
    (OwnFrom.and (Own.from (holdsRow_own (s3 + 2) s3 31 9 1 (fun (pre : List (Nat × List UInt8)) => pre.length) (fun pre => pre.map fun x => Value.string (tx x.2)) (fun _ _ => True)) _) (OwnFrom.and (Own.from (own_row_f lp 83 (fun (pre : List (Nat × List UInt8)) => ({ LG.opened D with used := usedL (LG.opened D).used pre } : LG).cells p)) _) (ownFrom_keeps (Nat.le_refl _))))
    (fun _ _ _ _ _ hs _ _ => hs)
    ⟨⟨_, H5.out.2.1.1, World.ownsRow_nil _ _ _ _, trivial⟩, H5.out.1.1, Keeps.refl _ _⟩
    _ _ _ _ _
  case refine'_2 =>
    intro l x W K hK
    gi_wp2
    exact hK
  case refine'_5 =>
    rintro D c pre W _ _ h _
    exact h.elim
  case refine'_3 =>
    rintro l' pre x W ⟨⟨v, hv, hrow, _⟩, hr, hk⟩ hlt
    have hc := hv.cell
    have hsz := hk.size
    have hX : Boxed W (lp + 1) 30 (.pointer (some ⟨lp, 0, none⟩)) := (hk.block (lp + 1) (by omega) ⟨by omega, by omega, by omega⟩).trans H5.out.1.2
    have HL := Lib.hid (And.intro hr (And.intro hk hX))
    clear hr hk hX
    gi_wp2_with (gi_at_builtin; refine wpListIn_append_own _ rfl _ _ 31 rfl (s3 + 2) 9 i0 (.string ⟨#[]⟩) 1 16 Tryz.underlying31 hi hz0 hz1 hz2 rfl (by decide) _ _ _ rfl (hrow.alloc _) ⟨W.heap.size, 0, none⟩ 1 1 [.string (tx x.2)] rfl rfl (cell_one_new _ _ _) (by simp [Value.oneCell']) (by unfold maxLen; omega) (by omega) (by simp; omega) ?_; intro v' w1 hown' hgrow _; obtain ⟨g', cap', rfl⟩ := ownsRow_succ hown'; obtain ⟨hv1, hv2, hr2, hk2, hb2⟩ := box_append (L := fun k => k < s3 + 2 ∧ k ≠ s3) hv (by decide) hrow hown' hgrow (by omega) (fun k h => h.1); have hc1 := hv1.cell; have hf1 := hv1.frozen; have hXc := (show Boxed _ (lp + 1) 30 (.pointer (some ⟨lp, 0, none⟩)) from (hb2.block (lp + 1) (by omega) ⟨by omega, by omega⟩).trans HL.out.2.2).cell; have hR6 : Row _ lp 83 _ := (hb2.block lp (by omega) ⟨by omega, by omega⟩).trans HL.out.1; have hf6 := hR6.frozen 4; have HR6 := Lib.hid hR6; clear hR6; have hR1 : Row w1 lp 83 _ := (hgrow.block lp (HL.out.1.alloc _).lt (fun e => by have := (hrow.lt lp e.symm).1; omega)).trans (HL.out.1.alloc _); have hc6 := hR1.cell 4; simp only [LG.cells, List.getElem?_cons_zero, List.getElem?_cons_succ] at hc6; clear hR1)
    have hk2 := Lib.hid hk2
    have hXY := Lib.hid hown'
    generalize hv'e : Value.slice (some ⟨g', 0, none⟩) (pre.length + 1) cap' = v' at *
    have hfar : ∀ k, k ≠ lp → ((w1.setCell ⟨s3, 0, none⟩ v').setCell ⟨lp, 4, none⟩ (.int .i64 (x.1 : Nat))).heap[k]? = (w1.setCell ⟨s3, 0, none⟩ v').heap[k]? := fun k h => Below.heap_setCell _ ⟨lp, 4, none⟩ _ k h
    have hgr : (w1.setCell ⟨s3, 0, none⟩ v').grownBy ((w1.setCell ⟨s3, 0, none⟩ v').setCell ⟨lp, 4, none⟩ (.int .i64 (x.1 : Nat))) (some lp) := ⟨rfl, rfl, rfl, by simp [World.setCell], fun k _ hk => hfar k (fun e => hk (by rw [e]))⟩
    have hg2 : 0 < W.heap.size := by omega
    refine ⟨(hk2.out.trans (KeepsOthers.setCell _ _ _)).from _, ⟨(hfar (s3 + 1) (by omega)).trans (hb2.block (s3 + 1) (by omega) ⟨by omega, by omega⟩), (hfar 0 (by omega)).trans (hb2.block 0 hg2 ⟨by omega, by omega⟩)⟩, ⟨v', (hfar s3 (by omega)).trans hv2, ?_⟩, ?_, (HL.out.2.1.trans (hb2.mono (fun k h => ⟨h.1, h.2.1⟩))).setCell (p := ⟨lp, 4, none⟩) (.inl (fun h => h.2.2 rfl)) _⟩
    · have h := hr2.kept hgr (.inr (fun e => by have := (hr2.lt lp e).1; omega))
      rw [List.length_append, List.map_append]
      exact h
    · have h := HR6.out.set 4 (.int .i64 (x.1 : Nat))
      rw [usedL_snoc]
      exact h
  case refine'_4 =>
    rintro D' ys W hD rfl ⟨⟨v, hv, hrow, _⟩, hr, hk⟩ hK
    have hsz := hk.size
    have hX : Boxed W (lp + 1) 30 (.pointer (some ⟨lp, 0, none⟩)) := (hk.block (lp + 1) (by omega) ⟨by omega, by omega, by omega⟩).trans H5.out.1.2
    obtain ⟨m, hm⟩ : ∃ m, (framesL bs).length = m := ⟨_, rfl⟩
    have hopen : LG.openG D = { LG.opened D with used := usedL (LG.opened D).used (framesL bs), count := m } := by unfold LG.openG LG.opentexts; rw [HBS.out, hm]
    rw [hm] at hrow
    obtain ⟨ao, cap, rfl⟩ : ∃ ao cap, v = .slice ao m cap := by
      rcases hrow.2 with ⟨rfl, h0⟩ | ⟨g, cap, cur, rfl, _⟩
      · exact ⟨none, 0, by rw [h0]⟩
      · exact ⟨_, cap, rfl⟩
    have hfar : ∀ k, k ≠ lp → (W.setCell ⟨lp, 3, none⟩ (.int .i64 (m : Nat))).heap[k]? = W.heap[k]? := fun k h => Below.heap_setCell _ ⟨lp, 3, none⟩ _ k h
    have hgr : W.grownBy (W.setCell ⟨lp, 3, none⟩ (.int .i64 (m : Nat))) (some lp) := ⟨rfl, rfl, rfl, by simp [World.setCell], fun k _ hk => hfar k (fun e => hk (by rw [e]))⟩
    have HF : Hid (Row (W.setCell ⟨lp, 3, none⟩ (.int .i64 (m : Nat))) lp 83 ((LG.openG D).cells p) ∧ Boxed (W.setCell ⟨lp, 3, none⟩ (.int .i64 (m : Nat))) (lp + 1) 30 (.pointer (some ⟨lp, 0, none⟩)) ∧ Boxed (W.setCell ⟨lp, 3, none⟩ (.int .i64 (m : Nat))) s3 31 (.slice ao m cap) ∧
        (W.setCell ⟨lp, 3, none⟩ (.int .i64 (m : Nat))).ownsRow (s3 + 2) 9 1 (.slice ao m cap) m ((framesL bs).map fun x => Value.string (tx x.2)) ∧ Below lp w (W.setCell ⟨lp, 3, none⟩ (.int .i64 (m : Nat))) ∧ (W.setCell ⟨lp, 3, none⟩ (.int .i64 (m : Nat))).heap[D']? = some (.deferred (some []))) := Lib.hid (by
      refine ⟨?_, (hfar _ (by omega)).trans hX, (hfar _ (by omega)).trans hv, hrow.kept hgr (.inr (fun e => by have := (hrow.lt lp e).1; omega)), ?_, (hfar D' (by omega)).trans hK⟩
      · have h := hr.set 3 (.int .i64 (m : Nat))
        rw [hopen]
        exact h
      · exact (H5.out.2.2.1.trans (hk.below (by omega) (fun k h => ⟨by omega, by omega, by omega⟩))).setCell (p := ⟨lp, 3, none⟩) (Nat.le_refl _) _)
    have hc := hv.cell
    have hxc := hX.cell
    have hc3 := hr.cell 3
    have hf3 := hr.frozen 3
    simp only [LG.cells, List.getElem?_cons_zero, List.getElem?_cons_succ] at hc3
    have HU : Hid ((Lib.trimRightB bs 0).length ≤ (LG.openG D).used) := Lib.hid (by rw [← HBS.out]; exact HH.out.2.2.2.1)
    have HBL := Lib.hid (And.intro hbl (And.intro hm (And.intro hD hlt5)))
    clear hv hX hr hk hK hrow hm hopen hfar hgr hbl hfl hD hsl hsl2 hsz hgl hG5 hlt5
    go_wp2_with fail
    refine (wipe_any HF.out.1 bs (by have := HBL.out.1; omega) HU.out).mono ?_
    rintro e w7 ⟨rfl, rfl⟩
    have hc6 := HF.out.2.2.1.cell
    have hxc6 := HF.out.2.1.cell
    clear hc hxc hc3 hf3
    generalize W.setCell ⟨lp, 3, none⟩ (.int .i64 (m : Nat)) = w8 at HF hc6 hxc6 ⊢
    go_wp2_with fail
    have H18 : Hid (∀ W, SB w8 W → W.cell? ⟨lp + 1, 0, none⟩ = some (.pointer (some ⟨lp, 0, none⟩)) ∧ W.cell? ⟨s3, 0, none⟩ = some (.slice ao m cap)) := Lib.hid fun W h =>
      ⟨Boxed.cell (t := 30) ((h.block _ HF.out.2.1.lt).trans HF.out.2.1), Boxed.cell (t := 31) ((h.block _ HF.out.2.2.1.lt).trans HF.out.2.2.1)⟩
    clear hc6 hxc6
    refine region_quiet_lit (fun W => SB w8 W) (by kernel_rfl) (by kernel_rfl) ⟨rfl, rfl, rfl, Nat.le_refl _, fun _ _ => rfl⟩ ?_
    refine wpQ_yields (.pointer (some ⟨lp, 0, none⟩)) (Or.inl ⟨by rfl, fun W' hS => ?yo1⟩) ?_
    case yo1 =>
      have q0 := (H18.out W' hS).1
      go_simp
    try simp only [Act.put, List.setIfInBounds_toArray, List.set_cons_zero, List.set_cons_succ]
    refine wpQ_yields (.slice ao m cap) (Or.inl ⟨by rfl, fun W' hS => ?yo2⟩) ?_
    case yo2 =>
      have q0 := (H18.out W' hS).2
      go_simp
    try simp only [Act.put, List.setIfInBounds_toArray, List.set_cons_zero, List.set_cons_succ]
    refine wpQ_yields (.pointer (some ⟨lp, 0, none⟩)) (Or.inl ⟨by rfl, fun W' hS => ?yo3⟩) ?_
    case yo3 =>
      go_simp
    try simp only [Act.put, List.setIfInBounds_toArray, List.set_cons_zero, List.set_cons_succ]
    refine wpQ_yields (.slice ao m cap) (Or.inl ⟨by rfl, fun W' hS => ?yo4⟩) ?_
    case yo4 =>
      go_simp
    try simp only [Act.put, List.setIfInBounds_toArray, List.set_cons_zero, List.set_cons_succ]
    refine wpQ_yields (.int .i64 0) (Or.inl ⟨by rfl, fun W' hS => ?yo5⟩) ?_
    case yo5 =>
      go_simp
    try simp only [Act.put, List.setIfInBounds_toArray, List.set_cons_zero, List.set_cons_succ]
    refine wpQuiet_nil ?_
    intro wf hwf
    have HWF := Lib.hid hwf
    have hK9 : wf.heap[D']? = some (.deferred (some [])) := (hwf.block D' (Array.getElem?_eq_some_iff.1 HF.out.2.2.2.2.2).1).trans HF.out.2.2.2.2.2
    clear hwf
    go_wp2_with fail
    have hDD : s3 + 2 ≤ D' := by have := HBL.out.2.2.1; have := H5.out.2.2.2.2; omega
    have hlt5 := HBL.out.2.2.2
    have hoth : ∀ k, k ≠ D' → (wf.putObj D' (.deferred none)).heap[k]? = wf.heap[k]? := fun k h => World.putObj_heap_other h
    have hB9 : Below w.heap.size w (wf.putObj D' (.deferred none)) := by
      have h8 : Below w.heap.size w w8 := by rw [HLP.out]; exact HF.out.2.2.2.2.1
      exact (h8.trans (HWF.out.mono h8.size)).trans (belowK_b (w := w) (Nat.le_refl _) _ D' _ _ (by have := HLP.out; omega) hK9 rfl rfl)
    refine ⟨by simp, .inl ⟨_, _, rfl, run_takeDeferred hK9, ?_⟩⟩
    refine ⟨_, results_tmp3 rfl _ _ _, ⟨⟨lp, _, rfl, Nat.le_of_eq HLP.out, ?_, ?_⟩, hB9⟩⟩
    · exact (hoth lp (by omega)).trans ((HWF.out.block lp HF.out.1.lt).trans HF.out.1)
    · have hown := HF.out.2.2.2.1
      have hD9 : (LG.opentexts D) = framesL bs := by unfold LG.opentexts; rw [HBS.out]
      rw [hD9, HBL.out.2.1]
      refine ⟨hown.1, ?_⟩
      rcases hown.2 with h | ⟨g, cap', cur, h1, h2, h3, h4⟩
      · exact .inl h
      · refine .inr ⟨g, cap', cur, h1, by have := HLP.out; omega, (hoth g (fun e => ?_)).trans ((HWF.out.block g (Array.getElem?_eq_some_iff.1 h3).1).trans h3), h4⟩
        subst e
        rw [HF.out.2.2.2.2.2] at h3
        cases h3
end
end Go.Proofs.YtiaaeniopjpfpaaGreatDoor

namespace Go.Proofs.YtiaaeniopjpfpaaGreatDoor
open Go Go.RowKit Go.Maps
set_option linter.unusedVariables false
set_option linter.unusedSimpArgs false

theorem headL_take4 (n : Nat) (t : List UInt8) : (headL n t).take 4 = putL n 4 := by
  unfold headL sealL seal1
  rw [List.append_assoc, List.append_assoc, List.append_assoc, List.take_append_of_le_length (by rw [putL_length]; exact Nat.le_refl _), List.take_of_length_le (by rw [putL_length]; exact Nat.le_refl _)]
theorem framed_zeros (n k : Nat) (hn : putL n 4 ≠ [0, 0, 0, 0]) : framedL n (List.replicate k 0) = none := by
  unfold framedL
  by_cases hk : k < 28
  · rw [if_pos (by simpa using hk)]
  · rw [if_neg (by simpa using hk)]
    split
    · rfl
    · rw [if_neg]
      intro h
      have h4 := congrArg (List.take 4) h
      rw [headL_take4, List.take_take, List.take_replicate, show min (min 4 28) k = 4 by omega] at h4
      exact hn h4.symm
theorem trim_zeros (l : List UInt8) (n : Nat) : (Lib.trimRightB (l ++ List.replicate n 0) 0).length ≤ l.length := by
  unfold Lib.trimRightB
  rw [List.reverse_append, List.reverse_replicate, List.length_reverse]
  induction n with
  | zero =>
    have h := (List.dropWhile_sublist (fun x : UInt8 => x == 0) (l := l.reverse)).length_le
    simpa using h
  | succ n ih =>
    rw [List.replicate_succ, List.cons_append, List.dropWhile_cons_of_pos (by rfl)]
    exact ih
theorem markB_head (m h : Nat) : (markB m h).head? = some 67 := by
  unfold markB markL sealL seal1
  simp
theorem marked_zeros : markedL z128 = none := by
  have h : ∀ m k, z128 ≠ markB m k := fun m k e => by
    have h2 := congrArg List.head? e
    rw [markB_head] at h2
    cases h2
  unfold markedL
  rw [if_neg (h _ _), if_neg (h _ _)]
def hiL : List UInt8 := [104, 105]
def awkP : List UInt8 := pad128 (frameL 1 hiL)
theorem awkP_eq : awkP = frameL 1 hiL ++ List.replicate 98 0 := by
  have h : (frameL 1 hiL).length = 30 := by rw [frameL_length]; rfl
  unfold awkP pad128
  rw [h, List.take_of_length_le (by omega)]
def awkD2 : DS := ⟨[z128, z128, awkP] ++ List.replicate 17 z128, [], -1, 2, false⟩
theorem awk_synced (P : List UInt8) : (((newDS 20).written 2 P).synced, ((newDS 20).written 2 P).stepErr) = ((⟨[z128, z128, P] ++ List.replicate 17 z128, [], -1, 2, false⟩ : DS), (0 : Int)) := by
  kernel_rfl
theorem new_read2 : (newDS 20).read 2 = z128 := by kernel_rfl
theorem awk_add : LG.zero.add (newDS 20) hiL = (({ LG.zero with count := 1, used := 30 }, awkD2), 0) := by
  have hl : (frameL 1 hiL).length = 30 := by rw [frameL_length]; rfl
  have hp : LG.zero.putR (newDS 20) (frameL 1 hiL) = (awkD2, 0) := by
    unfold LG.putR
    rw [if_neg (by decide)]
    show putG 200 (newDS 20) 2 (((newDS 20).read 2).take 0 ++ frameL 1 hiL) = _
    rw [List.take_zero, List.nil_append, putG, if_neg (fun h => by rw [h] at hl; cases hl), if_neg (by decide), List.drop_eq_nil_of_le (by omega), putG_nil]
    exact awk_synced awkP
  unfold LG.add
  rw [if_neg (by decide), if_neg (by decide), if_neg (by decide)]
  rw [show LG.zero.count + 1 = 1 from rfl, hp]
  rfl
theorem opened_zeros {D : DS} (h0 : D.read 0 = z128) (h1 : D.read 1 = z128) : LG.opened D = LG.zero := by
  show (LG.zero.pick (D.read ((0 : Nat) : Int))).pick (D.read ((1 : Nat) : Int)) = _
  rw [show D.read ((0 : Nat) : Int) = z128 from h0, show D.read ((1 : Nat) : Int) = z128 from h1]
  unfold LG.pick
  rw [marked_zeros]
theorem opened_new : LG.opened (newDS 20) = LG.zero := opened_zeros (by kernel_rfl) (by kernel_rfl)
theorem bytes_new : LG.zero.bytes (newDS 20) = List.replicate 1152 0 := by kernel_rfl
theorem frames_zeros (k : Nat) : framesL (List.replicate k 0) = [] := framesF_none (framed_zeros 1 k (by decide))
theorem texts_new : LG.opentexts (newDS 20) = [] := by unfold LG.opentexts; rw [opened_new, bytes_new, frames_zeros]
theorem openG_new : LG.openG (newDS 20) = LG.zero := by unfold LG.openG; rw [texts_new, opened_new]; rfl
theorem trim_new : (Lib.trimRightB ((LG.opened (newDS 20)).bytes (newDS 20)) 0).length ≤ (LG.openG (newDS 20)).used := by
  rw [openG_new, opened_new, bytes_new]
  exact trim_zeros [] 1152
theorem read_awk (P : List UInt8) : bytesN (⟨[z128, z128, P] ++ List.replicate 17 z128, [], -1, 2, false⟩ : DS) 2 9 = P ++ List.replicate 1024 0 := by
  have h : ∀ j : Nat, j < 8 → (⟨[z128, z128, P] ++ List.replicate 17 z128, [], -1, 2, false⟩ : DS).read ((2 + (j + 1) : Nat) : Int) = List.replicate 128 0 := fun j hj => by
    match j, hj with
    | 0, _ => rfl
    | 1, _ => rfl
    | 2, _ => rfl
    | 3, _ => rfl
    | 4, _ => rfl
    | 5, _ => rfl
    | 6, _ => rfl
    | 7, _ => rfl
  have h0 : (⟨[z128, z128, P] ++ List.replicate 17 z128, [], -1, 2, false⟩ : DS).read ((2 + 0 : Nat) : Int) = P := rfl
  unfold bytesN bytesN bytesN bytesN bytesN bytesN bytesN bytesN bytesN bytesN
  rw [h0, h 0 (by omega), h 1 (by omega), h 2 (by omega), h 3 (by omega), h 4 (by omega), h 5 (by omega), h 6 (by omega), h 7 (by omega)]
  simp only [List.nil_append, List.append_assoc, List.replicate_append_replicate]
theorem opened_awk : LG.opened awkD2 = LG.zero := opened_zeros rfl rfl
theorem bytes_awk : LG.zero.bytes awkD2 = frameL 1 hiL ++ List.replicate 1122 0 := by
  have h : LG.zero.bytes awkD2 = bytesN awkD2 2 9 := rfl
  rw [h]
  unfold awkD2
  rw [read_awk, awkP_eq, List.append_assoc, List.replicate_append_replicate]
theorem framed_frame (n : Nat) (t z : List UInt8) (ht : t.length < 4294967296) : framedL n (frameL n t ++ z) = some t := by
  have hl : (headL n t).length = 28 := headL_length n t
  have hd : (frameL n t ++ z).drop 28 = t ++ z := by
    unfold frameL
    rw [List.append_assoc, List.drop_append_of_le_length (by omega), List.drop_of_length_le (by omega), List.nil_append]
  have hk : (frameL n t ++ z).take 28 = headL n t := by
    unfold frameL
    rw [List.append_assoc, List.take_append_of_le_length (by omega), List.take_of_length_le (by omega)]
  have hs : getL (((frameL n t ++ z).drop 4).take 4) = t.length := by
    have e : ((frameL n t ++ z).drop 4).take 4 = putL t.length 4 := by
      unfold frameL headL sealL seal1
      simp only [List.append_assoc]
      rw [List.drop_append_of_le_length (by rw [putL_length]; exact Nat.le_refl _), List.drop_of_length_le (by rw [putL_length]; exact Nat.le_refl _), List.nil_append, List.take_append_of_le_length (by rw [putL_length]; exact Nat.le_refl _), List.take_of_length_le (by rw [putL_length]; exact Nat.le_refl _)]
    rw [e, getL_putL]
    exact Nat.mod_eq_of_lt (by simpa using ht)
  have hlen : ¬ (frameL n t ++ z).length < 28 := by rw [List.length_append, frameL_length]; omega
  unfold framedL
  rw [if_neg hlen, hs, hd, hk, if_neg (by rw [List.length_append]; omega), List.take_append_of_le_length (Nat.le_refl _), List.take_of_length_le (Nat.le_refl _), if_pos rfl]
theorem texts_awk : LG.opentexts awkD2 = [(30, hiL)] := by
  unfold LG.opentexts
  rw [opened_awk, bytes_awk]
  have hl : (frameL 1 hiL).length = 30 := by rw [frameL_length]; rfl
  unfold framesL
  rw [List.length_append, hl, List.length_replicate]
  rw [show 30 + 1122 = 1151 + 1 from rfl, framesF_some (framed_frame 1 hiL _ (by decide))]
  rw [show hiL.length + 28 = 30 from rfl, List.drop_append_of_le_length (by omega), List.drop_of_length_le (by omega), List.nil_append, framesF_none (framed_zeros 2 1122 (by decide))]
theorem openG_awk : LG.openG awkD2 = { LG.zero with count := 1, used := 30 } := by unfold LG.openG; rw [texts_awk, opened_awk]; rfl
theorem trim_awk : (Lib.trimRightB ((LG.opened awkD2).bytes awkD2) 0).length ≤ (LG.openG awkD2).used := by
  have hl : (frameL 1 hiL).length = 30 := by rw [frameL_length]; rfl
  rw [openG_awk, opened_awk, bytes_awk]
  have h := trim_zeros (frameL 1 hiL) 1122
  rw [hl] at h
  exact h
end Go.Proofs.YtiaaeniopjpfpaaGreatDoor

namespace Go.Proofs.YtiaaeniopjpfpaaGreatDoor
open Go.RowKit Go.Maps
set_option linter.unusedVariables false

/-- The document's disk at a block, with its two others. -/
structure RefAt (L : Nat → Prop) (w : World) (p gl : Nat) (hv : Value) (D : DS) : Prop where
  row : Row w p 45 [.slice (some ⟨gl, 0, none⟩) D.lasts.length D.lasts.length, hv, .int .i64 (D.steps : Nat), .int .i64 D.fuse, .bool D.down]
  las : Row w gl 90 (D.lasts.flatten.map bv)
  han : w.ownsRow 0 136 129 hv D.hangs.length (wcs D.hangs)
  good : D.ok
  fp : ¬ L p
  fl : ¬ L gl
  fh : ∀ g, hv.ownBlock = some g → ¬ L g
def RefIs (L : Nat → Prop) (w : World) (p : Nat) (D : DS) : Prop := ∃ gl hv, RefAt L w p gl hv D

section
variable {L L' : Nat → Prop} {w w' : World} {p gl : Nat} {hv : Value} {D D' : DS}
theorem RefAt.ne_lp (h : RefAt L w p gl hv D) : gl ≠ p := by
  rintro rfl
  have h1 := h.row
  have h2 := h.las
  unfold Row at h1 h2
  rw [h1] at h2
  injection h2 with h2
  injection h2 with _ h3
  revert h3
  decide
theorem RefAt.ne_hp (h : RefAt L w p gl hv D) : hv.ownBlock ≠ some p := own_ne h.han h.row (by decide)
theorem RefAt.ne_hl (h : RefAt L w p gl hv D) : hv.ownBlock ≠ some gl := own_ne h.han h.las (by decide)
/-- It stays what it is where its blocks do. -/
theorem RefAt.kept (h : RefAt L w p gl hv D) (hk : ∀ g, g = p ∨ g = gl ∨ hv.ownBlock = some g → w'.heap[g]? = w.heap[g]?)
    (hL : ∀ g, g = p ∨ g = gl ∨ hv.ownBlock = some g → ¬ L' g) : RefAt L' w' p gl hv D :=
  ⟨(hk p (.inl rfl)).trans h.row, (hk gl (.inr (.inl rfl))).trans h.las, own_kept h.han (fun g hg => hk g (.inr (.inr hg))), h.good,
    hL p (.inl rfl), hL gl (.inr (.inl rfl)), fun g hg => hL g (.inr (.inr hg))⟩
theorem RefAt.lt (h : RefAt L w p gl hv D) : ∀ g, g = p ∨ g = gl ∨ hv.ownBlock = some g → g < w.heap.size := by
  rintro g (rfl | rfl | hg)
  · exact h.row.lt
  · exact h.las.lt
  · exact own_blk_lt h.han hg
theorem RefAt.out (h : RefAt L w p gl hv D) : ∀ g, g = p ∨ g = gl ∨ hv.ownBlock = some g → ¬ L g := by
  rintro g (rfl | rfl | hg)
  · exact h.fp
  · exact h.fl
  · exact h.fh g hg
theorem RefAt.below (h : RefAt L w p gl hv D) (hb : Below w.heap.size w w') : RefAt L w' p gl hv D :=
  h.kept (fun g hg => hb.block g (h.lt g hg)) h.out
theorem RefIs.below (h : RefIs L w p D) (hb : Below w.heap.size w w') : RefIs L w' p D := by
  obtain ⟨gl, hv, h⟩ := h
  exact ⟨gl, hv, h.below hb⟩
/-- What is new is none of its own. -/
theorem RefIs.more (h : RefIs L w p D) (hL : ∀ g, L' g → L g ∨ w.heap.size ≤ g) : RefIs L' w p D := by
  obtain ⟨gl, hv, h⟩ := h
  refine ⟨gl, hv, h.kept (fun _ _ => rfl) (fun g hg hl => ?_)⟩
  rcases hL g hl with h1 | h1
  · exact h.out g hg h1
  · have := h.lt g hg; omega
theorem RefIs.keeps {M : Nat → Prop} (h : RefIs L w p D) (hk : Keeps M w w') (hM : ∀ g, g < w.heap.size → ¬ L g → M g) : RefIs L w' p D := by
  obtain ⟨gl, hv, h⟩ := h
  exact ⟨gl, hv, h.kept (fun g hg => hk.block g (h.lt g hg) (hM g (h.lt g hg) (h.out g hg))) h.out⟩
theorem RefAt.lastRange (h : RefAt L w p gl hv D) (i : Nat) (hi : i < D.lasts.length) : w.rangeAt gl (i * 128) ((D.lasts.getD i []).map bv) := by
  have hr := h.las
  have hl := flat_length D.lasts h.good.rows
  rw [← flat_mid D.lasts h.good.rows i hi]
  exact row_range hr (i * 128) 128 (by rw [List.length_map, hl]; omega)
theorem RefAt.lastThere (h : RefAt L w p gl hv D) (i : Nat) (hi : i < D.lasts.length) : w.there gl (i * 128) 128 := by
  have hl := flat_length D.lasts h.good.rows
  exact row_thereK h.las (i * 128) 128 (by rw [List.length_map, hl]; omega)
theorem RefAt.hangWhole {a : Option Addr} {n c : Nat} (h : RefAt L w p gl (.slice a n c) D) (i : Nat) (x : Nat × List UInt8) (hx : D.hangs[i]? = some x) :
    ∃ g, a = some ⟨g, 0, none⟩ ∧ w.rangeAt g (i * 129) (wcells x) ∧ g ≠ gl := by
  have hil : i < D.hangs.length := (List.getElem?_eq_some_iff.1 hx).1
  have hxl : x.2.length = 128 := h.good.blks x (List.mem_of_getElem? hx)
  obtain ⟨g, cap, e, _, hlt⟩ := h.han.form (by omega)
  have ha : a = some ⟨g, 0, none⟩ := by injection e
  subst ha
  refine ⟨g, rfl, fun j v hj => ?_, fun e2 => h.ne_hl (by rw [← e2]; rfl)⟩
  have hj' : j < 129 := by rw [← wcells_length hxl]; exact (List.getElem?_eq_some_iff.1 hj).1
  have hg := wcs_get D.hangs h.good.blks i j x hx hj'
  have hc := h.han.cells (g := g) rfl (i * 129 + j) v (by rw [hg]; exact hj)
  simpa [Addr.add_mid] using hc
theorem RefAt.rowed (h : RefAt L w p gl hv D) (hl : D'.lasts = D.lasts) (hh : D'.hangs = D.hangs) (hf1 : -9223372036854775808 ≤ D'.fuse) (hf2 : D'.fuse ≤ 9223372036854775807)
    (hw : Row w' p 45 [.slice (some ⟨gl, 0, none⟩) D.lasts.length D.lasts.length, hv, .int .i64 (D'.steps : Nat), .int .i64 D'.fuse, .bool D'.down])
    (hk : ∀ g, p ≠ g → w'.heap[g]? = w.heap[g]?) : RefAt L w' p gl hv D' := by
  have hlp := h.ne_lp
  have hhp := h.ne_hp
  refine ⟨by rw [hl]; exact hw, by rw [hl]; exact (hk gl hlp.symm).trans h.las, by rw [hh]; exact own_kept h.han (fun g hg => hk g (fun e => hhp (by rw [e]; exact hg))), ⟨by rw [hl]; exact h.good.least, by rw [hl]; exact h.good.most, by rw [hl]; exact h.good.rows, by rw [hl, hh]; exact h.good.sect, by rw [hh]; exact h.good.blks, hf1, hf2⟩, h.fp, h.fl, h.fh⟩
end
end Go.Proofs.YtiaaeniopjpfpaaGreatDoor

namespace Go.Proofs.YtiaaeniopjpfpaaGreatDoor
open Go.RowKit Go.Maps
set_option linter.unusedVariables false

set_option maxRecDepth 4000 in
theorem RNew_no (n : Int) (hn : n < 16 ∨ 4096 < n) (w : World) :
    Calls Tryz.prog 10 #[.int .i64 n] w fun e w' => e = .returned (.pointer none) ∧ w = w' := by
  rcases hn with h | h
  · go_enter Tryz.func10, Tryz.ntmps10
    go_wp2
    go_ret
    exact ⟨rfl, rfl⟩
  · have h' : ¬ n < 16 := by omega
    go_enter Tryz.func10, Tryz.ntmps10
    go_wp2
    go_ret
    exact ⟨rfl, rfl⟩
def RNewPost (n : Nat) (w : World) (e : Ending) (w' : World) : Prop := e = .returned (.pointer (some ⟨w.heap.size + 1, 0, none⟩)) ∧ (∀ L : Nat → Prop, (∀ k, L k → k < w.heap.size) → RefAt L w' (w.heap.size + 1) w.heap.size (.slice none 0 0) (newDS n)) ∧ Below w.heap.size w w'
set_option maxRecDepth 4000 in
theorem RNew_any (n : Nat) (h1 : 16 ≤ n) (h2 : n ≤ 4096) (w : World) :
    Calls Tryz.prog 10 #[.int .i64 n] w (RNewPost n w) := by
  have h1I : ¬ (n : Int) < 16 := by omega
  have h2I : ¬ 4096 < (n : Int) := by omega
  have hmk := fun W => make_blocks n h2 W
  go_enter Tryz.func10, Tryz.ntmps10
  go_wp2
  go_ret
  refine ⟨rfl, fun L hL => ?_, (((Below.refl _ _).alloc (Nat.le_refl _) _).alloc (by simp) _)⟩
  have hlast : (newDS n).lasts.length = n := by simp [newDS]
  have r0 := (Row.new_rep w 90 (n * 128) (.int .u8 0)).alloc (.cells #[Value.slice (some { block := w.heap.size, off := 0 }) n n, Value.slice none 0 0, Value.int IntKind.i64 0, Value.int IntKind.i64 (-1), Value.bool false] 45)
  have p0 := Row.new (w.alloc (.cells (Array.replicate (n * 128) (.int .u8 0)) 90)) 45 [Value.slice (some { block := w.heap.size, off := 0 }) n n, Value.slice none 0 0, Value.int IntKind.i64 0, Value.int IntKind.i64 (-1), Value.bool false]
  have e1 : (w.alloc (.cells (Array.replicate (n * 128) (.int .u8 0)) 90)).heap.size = w.heap.size + 1 := by simp
  rw [e1] at p0
  refine ⟨by rw [hlast]; exact p0, by rw [newDS_cells]; exact r0, ⟨by simp [newDS, wcs_nil], .inl ⟨rfl, rfl⟩⟩, newDS_ok n h1 h2, fun h => ?_, fun h => ?_, fun g hg => by simp [Value.ownBlock] at hg⟩
  all_goals
    have := hL _ h
    omega
section
variable {L : Nat → Prop} {w w' : World} {p gl : Nat} {hv : Value} {D D' : DS}
set_option maxRecDepth 20000 in
/-- A step of one whose power is there. -/
theorem Rstep_any (h : RefAt L w p gl hv D) (hs : D.steps < 1000000000) (hd : D.down = false) :
    Calls Tryz.prog 91 #[.pointer (some ⟨p, 0, none⟩)] w fun e w' => e = .returned (.bool D.may) ∧ RefAt L w' p gl hv D.stepped ∧ Keeps L w w' := by
  have H := Lib.hid h
  have hg := h.good
  have hg1 := hg.fuse1
  have hg2 := hg.fuse2
  have c2 := h.row.cell 2
  have c3 := h.row.cell 3
  have c4 := h.row.cell 4
  have f2 := h.row.frozen 2
  have f3 := h.row.frozen 3
  have f4 := h.row.frozen 4
  have k0 := Keeps.refl L w
  have hp : ¬ L p ∨ w.heap.size ≤ p := .inl h.fp
  simp only [List.getElem?_cons_zero, List.getElem?_cons_succ] at c2 c3 c4
  obtain ⟨F, hF⟩ : ∃ F, D.fuse = F := ⟨_, rfl⟩
  obtain ⟨S, hS⟩ : ∃ S, D.steps = S := ⟨_, rfl⟩
  rw [hF] at c3 hg1 hg2
  rw [hS] at c2 hs
  rw [hd] at c4
  have hSI : (S : Int) < 1000000000 := by omega
  by_cases h0 : F = 0
  · have e1 : D.may = false := by unfold DS.may; rw [hF, h0]; rfl
    have e2 : D.stepped = { D with down := true } := by unfold DS.stepped; rw [if_pos (by rw [hF, h0])]
    have HR : Hid (Row (w.setCell ⟨p, 4, none⟩ (.bool true)) p 45 [.slice (some ⟨gl, 0, none⟩) D.lasts.length D.lasts.length, hv, .int .i64 (D.steps : Nat), .int .i64 D.fuse, .bool true]) := Lib.hid (by
      have := h.row.set 4 (.bool true)
      simpa using this)
    rw [e1, e2]
    subst h0
    clear hF hS hd e1 e2 h hg hs
    go_enter Tryz.func91, Tryz.ntmps91
    go_wp2
    go_ret
    exact ⟨rfl, H.out.rowed rfl rfl H.out.good.fuse1 H.out.good.fuse2 HR.out (fun g hg => Below.heap_setCell _ _ _ _ hg.symm), k0.setCell (p := ⟨p, 4, none⟩) hp _⟩
  · have h0b : ((F : Int) == 0) = false := by simpa using h0
    have e1 : D.may = true := by unfold DS.may; rw [hd, hF, decide_eq_true h0]; rfl
    have e2 : D.stepped = { D with fuse := if 0 < F then F - 1 else F, steps := S + 1 } := by unfold DS.stepped; rw [if_neg (by rw [hF]; exact h0), if_neg (by rw [hd]; simp), hF, hS]
    by_cases hpos : 0 < F
    · have HR : Hid (Row ((w.setCell ⟨p, 3, none⟩ (.int .i64 (F - 1))).setCell ⟨p, 2, none⟩ (.int .i64 ((S : Int) + 1))) p 45 [.slice (some ⟨gl, 0, none⟩) D.lasts.length D.lasts.length, hv, .int .i64 ((S + 1 : Nat) : Int), .int .i64 (F - 1), .bool D.down]) := Lib.hid (by
        have := (h.row.set 3 (.int .i64 (F - 1))).set 2 (.int .i64 ((S : Int) + 1))
        simpa using this)
      have HP := Lib.hid hpos
      rw [e1, e2, if_pos hpos]
      clear hF hS hd e1 e2 h hg hs
      go_enter Tryz.func91, Tryz.ntmps91
      go_wp2
      go_ret
      refine ⟨rfl, H.out.rowed rfl rfl (by show _ ≤ F - 1; have := HP.out; omega) (by show F - 1 ≤ _; omega) HR.out (fun g hg => ?_), (k0.setCell (p := ⟨p, 3, none⟩) hp _).setCell (p := ⟨p, 2, none⟩) hp _⟩
      rw [Below.heap_setCell _ _ _ _ hg.symm, Below.heap_setCell _ _ _ _ hg.symm]
    · have HR : Hid (Row (w.setCell ⟨p, 2, none⟩ (.int .i64 ((S : Int) + 1))) p 45 [.slice (some ⟨gl, 0, none⟩) D.lasts.length D.lasts.length, hv, .int .i64 ((S + 1 : Nat) : Int), .int .i64 F, .bool D.down]) := Lib.hid (by
        have := h.row.set 2 (.int .i64 ((S : Int) + 1))
        rw [hF] at this
        simpa using this)
      have HG := Lib.hid (And.intro hg1 hg2)
      rw [e1, e2, if_neg hpos]
      clear hF hS hd e1 e2 h hg hs
      go_enter Tryz.func91, Tryz.ntmps91
      go_wp2
      go_ret
      exact ⟨rfl, H.out.rowed rfl rfl HG.out.1 HG.out.2 HR.out (fun g hg => Below.heap_setCell _ _ _ _ hg.symm), k0.setCell (p := ⟨p, 2, none⟩) hp _⟩
end
end Go.Proofs.YtiaaeniopjpfpaaGreatDoor
