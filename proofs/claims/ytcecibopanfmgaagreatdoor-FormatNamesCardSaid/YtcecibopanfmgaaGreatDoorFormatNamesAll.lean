/- The statement of FormatNames: whatever comes in, the law answers true, and what came in reads as it did. (In one text with what it leans on: Awk6, IAwk, QuietL, IId, IRead, LiftS, UPlain, FPlain, FSmall, FStrs, ShelfC, FOf, USmall, URunes, UCount, FMark, FCheck, ShelfP, DDays, DDate, FFits, FFits2, FAwk, Laid8, FNames, FormatNamesW, FormatNames.) -/
import Derived.BigQuiet
import Derived.DeepKeys
import Derived.OwnWalk
import Derived.Deep.MidRow
import Derived.Laws.ResultCell
import Derived.Laws.Cover3
import Derived.SizedLaws
import Derived.Shelf.Vars
import Derived.LaidMore
import Derived.SevenTiedAt
import Derived.WalkKit
import Derived.Laws.RangeAny
import Derived.WalkSpells
import Derived.WalkLawsBesides
import Derived.Lib.Hide
import Derived.Deep.AppendLies
import Derived.Shelf.Slices.Clone
import Derived.Shelf.Slices.Turned
import Derived.Below
import Derived.Deep.DeepCutAuto
import Derived.Deep.QuietTactic
import Derived.RangeFuncNested
import Derived.RangeFuncBound
import Derived.RangeFuncCalls
import Derived.RangeFuncLeaves
import Derived.Shelf.Abstract
import Derived.Shelf.RegionOpen
import Derived.OwnWalkIn
import Derived.TacticsInMore
import Derived.LoopNIn
import Derived.LoopIn
import Derived.Lib.OthersKept
import Derived.RangeFuncBox
import Derived.Maps.AppendAt
import Derived.Shelf.Pu.ParseUintPublic10
import Derived.Lib.LaidTab
import Derived.ProofKit
import Derived.OpenShut
import Derived.ShutString
import Derived.Lay
import Derived.Stop.Joined
import Derived.Test.YtcecibopanfmgaaGreatDoorDCard
import Derived.Test.YtcecibopanfmgaaGreatDoorAwk5
import Derived.Test.YtcecibopanfmgaaGreatDoorHSumm
import Derived.Test.YtcecibopanfmgaaGreatDoorHPlain
import Derived.Test.YtcecibopanfmgaaGreatDoorICmp
import Derived.Test.YtcecibopanfmgaaGreatDoorMem
import Derived.Test.YtcecibopanfmgaaGreatDoorRound
import Derived.Test.YtcecibopanfmgaaGreatDoorShelfR
import Derived.Test.YtcecibopanfmgaaGreatDoorIPars
import Derived.Test.YtcecibopanfmgaaGreatDoorDSmall
import Derived.Test.YtcecibopanfmgaaGreatDoorProg
import Derived.Test.YtcecibopanfmgaaGreatDoorRows
import Derived.Test.YtcecibopanfmgaaGreatDoorSHash
import Derived.Test.YtcecibopanfmgaaGreatDoorCards
import Derived.Test.YtcecibopanfmgaaGreatDoorTie
namespace Go.Proofs.YtcecibopanfmgaaGreatDoor
open Go.RowKit
set_option linter.unusedVariables false
theorem Awake3_any (w : World) :
    Calls Tryz.prog 18 #[] w fun e w' => e = .returned (.bool true) ∧ Below w.heap.size w w' := by
  go_enter Tryz.func18, Tryz.ntmps18
  go_wp2_with (go_at_call 46; refine (awake3_any _).mono ?_; rintro e wa ⟨rfl, hb⟩)
  go_ret
  exact ⟨rfl, hb⟩
def jefeK : ByteArray := ⟨#[74, 101, 102, 101]⟩
def jefeA : ByteArray := ⟨#[119, 104, 97, 116, 32, 100, 111, 32, 121, 97, 32, 119, 97, 110, 116, 32]⟩
def jefeB : ByteArray := ⟨#[102, 111, 114, 32, 110, 111, 116, 104, 105, 110, 103, 63]⟩
theorem take4_prefix (L : List UInt8) (a b c d : UInt8) (h : L.take 4 = [a, b, c, d]) : Lib.hasPrefix L [a, b, c, d] = true := by
  obtain ⟨R, hR⟩ : ∃ R, L.drop 4 = R := ⟨_, rfl⟩
  have e : L = [a, b, c, d] ++ R := by rw [← h, ← hR, List.take_append_drop]
  rw [e]
  simp [Lib.hasPrefix]

set_option maxRecDepth 20000 in
set_option maxHeartbeats 2000000 in
theorem awake6_any (w : World) (hG : G w) :
    Calls Tryz.prog 90 #[] w fun e w' => e = .returned (.bool true) ∧ Below w.heap.size w w' := by
  obtain ⟨L, hL⟩ : ∃ L, hmacL jefeK.data.toList (jefeA.data.toList ++ jefeB.data.toList) = L := ⟨_, rfl⟩
  have hp : Lib.hasPrefix L [91, 220, 193, 70] = true := by rw [← hL]; exact take4_prefix _ _ _ _ _ jefe_example
  have HS : Hid (∀ (W : World) (g : Nat), G W → Row W g 9 [.string jefeA, .string jefeB] → Calls Tryz.prog 105 #[.string jefeK, .slice (some ⟨g, 0, none⟩) 2 2] W fun e w' => e = .returned (.string ⟨L.toArray⟩) ∧ Below W.heap.size W w') := Lib.hid fun W g hg hr2 => by
    rw [← hL]
    exact HmSum_any jefeK (by decide) g 0 2 [jefeA, jefeB] W hg (fun j x hx => by rw [Nat.zero_add, hr2.cell]; match j, hx with | 0, hx => cases hx; rfl | 1, hx => cases hx; rfl) hr2.lt (by simp) (jefeA.data.toList ++ jefeB.data.toList) (by rw [join_flat]; simp) (by decide)
  have HP : Hid (∀ W : World, Calls Tryz.prog 75 #[.string ⟨L.toArray⟩, .string ⟨#[91, 220, 193, 70]⟩] W fun e w' => e = .returned (.bool true) ∧ w' = W) := Lib.hid fun W => by
    have h := Tryz.strings_HasPrefix ⟨L.toArray⟩ ⟨#[91, 220, 193, 70]⟩ W
    rw [show Lib.hasPrefix (ByteArray.mk L.toArray).data.toList (ByteArray.mk #[91, 220, 193, 70]).data.toList = true from hp] at h
    exact h
  have HG := Lib.hid hG
  clear hL hp hG
  go_enter Tryz.func90, Tryz.ntmps90
  go_wp2_with fail
  refine (Awake3_any _).mono ?_
  rintro e w1 ⟨rfl, hb1⟩
  go_wp2_with fail
  refine (Awake5_any _ (HG.out.below hb1)).mono ?_
  rintro e w2 ⟨rfl, hb2⟩
  have hB2 := hb1.trans (hb2.mono hb1.size)
  clear hb1 hb2
  go_wp2_with fail
  have hB3 := hB2.alloc hB2.size (.cells #[Value.string jefeA, Value.string jefeB] 9)
  refine (HS.out _ w2.heap.size (HG.out.below hB3) (Row.new w2 9 [Value.string jefeA, Value.string jefeB])).mono ?_
  rintro e w3 ⟨rfl, hb3⟩
  have hB4 := hB3.trans (hb3.mono hB3.size)
  clear hB2 hB3 hb3
  go_wp2_with fail
  refine (HP.out _).mono ?_
  rintro e w4 ⟨rfl, rfl⟩
  go_wp2_with fail
  go_ret
  exact ⟨rfl, hB4⟩
end Go.Proofs.YtcecibopanfmgaaGreatDoor

namespace Go.Proofs.YtcecibopanfmgaaGreatDoor
open Go.RowKit
set_option linter.unusedVariables false

theorem Awake6_any (w : World) (hG : G w) :
    Calls Tryz.prog 73 #[] w fun e w' => e = .returned (.bool true) ∧ Below w.heap.size w w' := by
  have HG := Lib.hid hG
  clear hG
  go_enter Tryz.func73, Tryz.ntmps73
  go_wp2_with fail
  refine (awake6_any _ HG.out).mono ?_
  rintro e wa ⟨rfl, hb⟩
  go_wp2_with fail
  go_ret
  exact ⟨rfl, hb⟩
def zeroId : ByteArray := ⟨#[48, 48, 48, 48, 48, 48, 48, 48, 45, 48, 48, 48, 48, 45, 48, 48, 48, 48, 45, 48, 48, 48, 48, 45, 48, 48, 48, 48, 48, 48, 48, 48, 48, 48, 48, 48]⟩
theorem zero_eq : (zeroId.toList == [48, 48, 48, 48, 48, 48, 48, 48, 45, 48, 48, 48, 48, 45, 48, 48, 48, 48, 45, 48, 48, 48, 48, 45, 48, 48, 48, 48, 48, 48, 48, 48, 48, 48, 48, 48]) = true := by decide +kernel
theorem zero_id : (⟨(idL (List.replicate 16 0)).toArray⟩ : ByteArray) = zeroId := by decide +kernel
def zA : Array Value := #[.int .u8 0, .int .u8 0, .int .u8 0, .int .u8 0, .int .u8 0, .int .u8 0, .int .u8 0, .int .u8 0, .int .u8 0, .int .u8 0, .int .u8 0, .int .u8 0, .int .u8 0, .int .u8 0, .int .u8 0, .int .u8 0]
theorem zA_eq : zA = ((List.replicate 16 (0 : UInt8)).map bv).toArray := by rfl

set_option maxRecDepth 20000 in
set_option maxHeartbeats 1000000 in
theorem awake10_any (w : World) (hG : G w) :
    Calls Tryz.prog 48 #[] w fun e w' => e = .returned (.bool true) ∧ Below w.heap.size w w' := by
  have HT : Hid (∀ W : World, Calls Tryz.prog 41 #[.agg zA] W fun e w' => e = .returned (.string zeroId) ∧ Below W.heap.size W w') := Lib.hid fun W => by
    rw [← zero_id, zA_eq]
    exact idText_any _ rfl W
  have HG := Lib.hid hG
  clear hG
  go_enter Tryz.func48, Tryz.ntmps48
  go_wp2_with fail
  refine (Awake2_any _).mono ?_
  rintro e w1 ⟨rfl, hb1⟩
  go_wp2_with fail
  refine (Awake6_any _ (HG.out.below hb1)).mono ?_
  rintro e w2 ⟨rfl, hb2⟩
  have hB2 := hb1.trans (hb2.mono hb1.size)
  clear hb1 hb2
  go_wp2_with fail
  refine (HT.out _).mono ?_
  rintro e w3 ⟨rfl, hb3⟩
  have hB3 := hB2.trans (hb3.mono hB2.size)
  clear hB2 hb3
  have hz := zero_eq
  go_wp2_with fail
  go_ret
  exact ⟨rfl, hB3⟩
end Go.Proofs.YtcecibopanfmgaaGreatDoor

namespace Go.Proofs.YtcecibopanfmgaaGreatDoor
open Go.RowKit
set_option linter.unusedVariables false

section
variable {P : Program} {ops : Array Oper} {C : World → Prop} {Q : Act → Prop} {a : Act} {o : Oper} {rest : List Oper}
theorem quiet_load_row {K : Act → Prop} (ty : TypeId) (x : Operand) (ho : o.op = .load ty x) (g : Nat) (hx : a.eval x = .pointer (some ⟨g, 0, none⟩)) (t : TypeId) (cs : List Value) (d : TypeDesc) (hS : ∀ w, C w → Row w g t cs)
    (hu : P.underlying ty = some d) (hd : d.isRow = true) (hi : (P.info? ty).map (·.size) = some cs.length) (hk : K (a.put o.dst (.agg cs.toArray))) : o.quiet P a C K :=
  ⟨_, fun w hw => by
    have hr : w.rangeAt g 0 cs := fun j v hj => by rw [Nat.zero_add, (hS w hw).cell]; exact hj
    unfold Oper.quietAt execOp
    simp only [ho, hx, Instr.loadAt, Instr.sureAddr, Sem.run_bind, Sem.run_pure, Result.andThen_ok, run_loadVar_mid w g 0 ty cs d hr hu hd hi]
    exact ⟨rfl, rfl⟩, hk⟩
theorem quiet_eql_agg {K : Act → Prop} (t : TypeId) (x y : Operand) (t2 : TypeId) (ho : o.op = .binOp .eql t x y t2)
    (cs ds : Array Value) (hx : a.eval x = .agg cs) (hy : a.eval y = .agg ds) (hm : P.eqGuardType P.depth t = false) (r : Bool) (he : ∀ W, (binOp .eql t (.agg cs) (.agg ds)).run P W = .ok (.bool r) W) (hk : K (a.put o.dst (.bool r))) : o.quiet P a C K :=
  ⟨_, fun w hw => by
    unfold Oper.quietAt execOp
    simp only [ho, hx, hy, Sem.run_bind, run_eqGuard_agg w .eql t x y cs ds hm, he, Result.andThen_ok, Sem.run_pure]
    exact ⟨rfl, rfl⟩, hk⟩
end

theorem items_bytes {P : Program} (W : World) (d : Nat) (e : TypeId) (l m : List UInt8) (he : P.underlying e = some (.int .u8)) (ha : (isAgg e).run P W = .ok false W) :
    ∀ is : List Nat, (∀ i ∈ is, i < l.length ∧ i < m.length) → (Op.eqItems (d + 1) e 1 (l.map bv).toArray (m.map bv).toArray is).run P W = .ok (decide (∀ i ∈ is, l[i]? = m[i]?)) W
  | [], _ => by simp [Op.eqItems]
  | i :: is, h => by
    obtain ⟨h1, h2⟩ := h i (by simp)
    have ih := items_bytes W d e l m he ha is (fun j hj => h j (by simp [hj]))
    have hp : (part e (l.map bv).toArray (i * 1)).run P W = .ok (.int .u8 (l[i].toNat : Int)) W := by
      simp only [part, Sem.run_bind, ha, Result.andThen_ok, Nat.mul_one, Bool.false_eq_true, if_false, List.getElem?_toArray, List.getElem?_map, List.getElem?_eq_getElem h1, Option.map_some, bv, Sem.run_pure]
    have hq : (part e (m.map bv).toArray (i * 1)).run P W = .ok (.int .u8 (m[i].toNat : Int)) W := by
      simp only [part, Sem.run_bind, ha, Result.andThen_ok, Nat.mul_one, Bool.false_eq_true, if_false, List.getElem?_toArray, List.getElem?_map, List.getElem?_eq_getElem h2, Option.map_some, bv, Sem.run_pure]
    simp only [Op.eqItems, Sem.run_bind, hp, hq, Result.andThen_ok, run_equalIn_int W d e .u8 .u8 _ _ he]
    by_cases hb : l[i] = m[i]
    · have e1 : l[i]? = m[i]? := by rw [List.getElem?_eq_getElem h1, List.getElem?_eq_getElem h2, hb]
      simp [hb, ih, e1]
    · have e1 : ¬ l[i]? = m[i]? := by rw [List.getElem?_eq_getElem h1, List.getElem?_eq_getElem h2]; simpa using hb
      have e2 : ¬ ((l[i].toNat : Int) = (m[i].toNat : Int)) := fun h => hb (UInt8.toNat_inj.1 (by omega))
      simp [e1, e2]
theorem arr_equalIn {P : Program} (t e : TypeId) (n : Nat) (l m : List UInt8) (hl : l.length = n) (hm : m.length = n) (ht : P.underlying t = some (.array n e)) (he : P.underlying e = some (.int .u8)) (ha : ∀ W, (isAgg e).run P W = .ok false W)
    (i : TypeInfo) (hi : P.info? e = some i) (hc : P.cellsOf e = 1) (W : World) :
    (Op.equalIn 10000 t (.agg (l.map bv).toArray) (.agg (m.map bv).toArray)).run P W = .ok (decide (l = m)) W := by
  rw [run_equalIn_array W 9999 _ _ ht hi, hc]
  rw [items_bytes W 9998 e l m he (ha W) _ (fun j hj => by
    have hj2 := List.mem_range.1 hj
    omega)]
  have e1 : decide (∀ i ∈ List.range n, l[i]? = m[i]?) = decide (l = m) := decide_eq_decide.2 ⟨fun h => List.ext_getElem? fun j => by
      by_cases hj : j < n
      · exact h j (List.mem_range.2 hj)
      · rw [List.getElem?_eq_none (by omega), List.getElem?_eq_none (by omega)], fun h => by subst h; intros; rfl⟩
  rw [e1]
theorem arr_eql {P : Program} (t e : TypeId) (n : Nat) (l m : List UInt8) (hl : l.length = n) (hm : m.length = n) (ht : P.underlying t = some (.array n e)) (he : P.underlying e = some (.int .u8)) (ha : ∀ W, (isAgg e).run P W = .ok false W)
    (i : TypeInfo) (hi : P.info? e = some i) (hc : P.cellsOf e = 1) (W : World) :
    (binOp .eql t (.agg (l.map bv).toArray) (.agg (m.map bv).toArray)).run P W = .ok (.bool (decide (l = m))) W := by
  rw [run_eql_struct, arr_equalIn t e n l m hl hm ht he ha i hi hc W]
  rfl
end Go.Proofs.YtcecibopanfmgaaGreatDoor

namespace Go.Proofs.YtcecibopanfmgaaGreatDoor
open Go.RowKit
set_option linter.unusedVariables false

theorem results_row_tmp {P : Program} {fn : Func} {p u : Tmp} {ty : TypeId} (h : fn.results = #[.cell p ty, .tmp u]) (tmps : Array Value) (w : World) (g : Nat) (t : TypeId) (cs : Array Value) (fr : Nat × Nat) (d : TypeDesc)
    (hp : tmps.getD p undef = .pointer (some ⟨g, 0, none⟩)) (hg : w.heap[g]? = some (.cells cs t fr))
    (hu : P.underlying ty = some d) (hd : (match d with | .struct _ | .array _ _ => true | _ => false) = true) (hi : (P.info? ty).map (·.size) = some cs.size) (x : Value) (hx : tmps.getD u undef = x) :
    (results fn tmps).run P w = .ok (.tuple #[.agg cs, x]) w := by
  rw [results_cell_tmp h, hp, hx]
  simp [asAddr, run_loadVar_row w g t ty cs fr d hg hu hd hi, Result.andThen]
def z16 : List Value := List.replicate 16 (.int .u8 0)
theorem u16_info : (Tryz.prog.info? 45).map (fun i => (i.zero, i.size)) = some (some (.agg z16.toArray), 16) := by kernel_rfl
theorem u16_size : (Tryz.prog.info? 45).map (·.size) = some 16 := (zero_of_info u16_info).2
theorem one_bytes (l : List UInt8) : (l.map bv).toArray.all (·.oneCell') = true := by
  rw [Array.all_eq_true_iff_forall_mem]
  intro v hv
  simp only [List.mem_toArray, List.mem_map] at hv
  obtain ⟨c, _, rfl⟩ := hv
  rfl

theorem z16_eq : z16 = (List.replicate 16 (0 : UInt8)).map bv := by rfl
theorem z16_one : z16.toArray.all (·.oneCell') = true := by rw [z16_eq]; exact one_bytes _

set_option maxRecDepth 20000 in
set_option maxHeartbeats 1000000 in
theorem id_ok (r : ByteArray) (hr : r.size = 16) (w : World) :
    Calls Tryz.prog 54 #[.string r] w fun e w' => e = .returned (.tuple #[.agg (r.data.toList.map bv).toArray, .int .i64 0]) ∧ Below w.heap.size w w' := by
  have hz := (zero_of_info u16_info).1
  have hl : r.data.toList.length = 16 := by rw [← hr]; simp
  have hone := one_bytes r.data.toList
  obtain ⟨cap, w7, hcv, hcell, hfr, hB, hsz⟩ := str_bytes (P := Tryz.prog) (w.alloc (.cells z16.toArray 45)) 9 76 5 r Tryz.underlying9 Tryz.underlying76 Tryz.underlying5
  have hrg : w7.rangeAt (w.heap.size + 1) 0 (r.data.toList.map bv) := fun j v hj => by
    have hj' : j < r.data.toList.length := by
      have := (List.getElem?_eq_some_iff.1 hj).1
      simpa using this
    have h := hcell j (by omega)
    rw [World.size_alloc] at h
    rw [Nat.zero_add, h]
    rw [List.getElem?_map, List.getElem?_eq_getElem hj'] at hj
    rw [List.getD_eq_getElem?_getD, List.getElem?_eq_getElem hj']
    exact hj
  have hr7 : Row w7 w.heap.size 45 z16 := (Row.new w 45 z16).below hB (by simp)
  have hb7 : Below w.heap.size w w7 := ((Below.refl w.heap.size w).alloc (Nat.le_refl _) (.cells z16.toArray 45)).trans (hB.mono (by simp))
  rw [World.size_alloc] at hcv
  have har := fun W => run_arrayAt (P := Tryz.prog) (w := W) 45 5 16 (some ⟨w.heap.size + 1, 0, none⟩) r.size cap Tryz.underlying45 (by omega)
  obtain ⟨C, hC⟩ : ∃ C, r.data.toList.map bv = C := ⟨_, rfl⟩
  have hCl : C.length = 16 := by rw [← hC, List.length_map, hl]
  rw [hC] at hrg hone ⊢
  have H := Lib.hid (And.intro hrg (And.intro hr7 (And.intro hb7 (And.intro hone hCl))))
  have hrI : ((r.size : Int) != 16) = false := by rw [hr]; rfl
  clear hl hone hcell hfr hB hsz hrg hr7 hb7 hC hCl hr
  go_enter Tryz.func54, Tryz.ntmps54
  go_wp2_with (first
    | (refine wpList_load_mid rfl 45 (.tmp 10) rfl (w.heap.size + 1) 0 rfl C _ H.out.1 Tryz.underlying45 rfl (by rw [u16_size, H.out.2.2.2.2]) ?_)
    | (refine wpList_store_row rfl 45 (.tmp 2) (.tmp 11) rfl w.heap.size C.toArray rfl rfl 45 z16.toArray H.out.2.1 (by rw [u16_size, List.size_toArray, H.out.2.2.2.2]) (by rw [List.size_toArray, List.size_toArray, H.out.2.2.2.2]; rfl) H.out.2.2.2.1 ?_))
  have hp := H.out.2.1.put C
  have hq := below_setRow (B := w.heap.size) H.out.2.2.1 (Nat.le_refl _) C.toArray
  exact bodyPost_ret (v := .tuple #[.agg C.toArray, .int .i64 0]) (results_row_tmp rfl _ _ w.heap.size 45 C.toArray (0, 0) _ rfl hp Tryz.underlying45 rfl (by rw [u16_size, List.size_toArray, H.out.2.2.2.2]) _ rfl) rfl ⟨rfl, hq⟩

set_option maxRecDepth 20000 in
set_option maxHeartbeats 1000000 in
theorem id_bad (r : ByteArray) (hr : r.size ≠ 16) (w : World) :
    Calls Tryz.prog 54 #[.string r] w fun e w' => e = .returned (.tuple #[.agg z16.toArray, .int .i64 4]) ∧ Below w.heap.size w w' := by
  have hz := (zero_of_info u16_info).1
  have hr7 := Row.new w 45 z16
  have hb7 : Below w.heap.size w (w.alloc (.cells z16.toArray 45)) := (Below.refl w.heap.size w).alloc (Nat.le_refl _) (.cells z16.toArray 45)
  have H := Lib.hid (And.intro hr7 hb7)
  have hrI : ((r.size : Int) != 16) = true := by rw [bne_iff_ne]; omega
  clear hr hr7 hb7
  go_enter Tryz.func54, Tryz.ntmps54
  go_wp2_with (refine wpList_store_row rfl 45 (.tmp 2) (.tmp 7) rfl w.heap.size z16.toArray rfl rfl 45 z16.toArray H.out.1 u16_size rfl z16_one ?_)
  have hp := H.out.1.put z16
  have hq := below_setRow (B := w.heap.size) H.out.2 (Nat.le_refl _) z16.toArray
  exact bodyPost_ret (v := .tuple #[.agg z16.toArray, .int .i64 4]) (results_row_tmp rfl _ _ w.heap.size 45 z16.toArray (0, 0) _ rfl hp Tryz.underlying45 rfl u16_size _ rfl) rfl ⟨rfl, hq⟩

set_option maxRecDepth 20000 in
set_option maxHeartbeats 1000000 in
/-- Whether all bytes are nought. -/
theorem idZero_any (l : List UInt8) (hl : l.length = 16) (w : World) :
    Calls Tryz.prog 27 #[.agg (l.map bv).toArray] w fun e w' => e = .returned (.bool (decide (l = List.replicate 16 0))) ∧ Below w.heap.size w w' := by
  have hr0 := Row.new w 45 (l.map bv)
  have hb0 : Below w.heap.size w (w.alloc (.cells (l.map bv).toArray 45)) := (Below.refl w.heap.size w).alloc (Nat.le_refl _) (.cells (l.map bv).toArray 45)
  have he := fun W => arr_equalIn (P := Tryz.prog) 45 5 16 l (List.replicate 16 0) hl rfl Tryz.underlying45 Tryz.underlying5 (Tryz.isAgg5) _ (info_parts (show (Tryz.prog.info? 5).map (fun i => (i.zero, i.size, i.bytes)) = some (some (.int .u8 0), 1, 1) by kernel_rfl)).choose_spec.1 (by kernel_rfl) W
  rw [← z16_eq] at he
  have ez : z16.toArray = zA := by rfl
  rw [ez] at he
  unfold zA at he
  obtain ⟨C, hC⟩ : ∃ C, l.map bv = C := ⟨_, rfl⟩
  have hCl : C.length = 16 := by rw [← hC, List.length_map, hl]
  obtain ⟨r, hr⟩ : ∃ r, decide (l = List.replicate 16 0) = r := ⟨_, rfl⟩
  rw [hC] at hr0 hb0 he ⊢
  rw [hr] at he ⊢
  have H := Lib.hid (And.intro hr0 (And.intro hb0 hCl))
  clear hC hr hr0 hb0 hl hCl ez
  go_enter Tryz.func27, Tryz.ntmps27
  go_wp2_with (first
    | (refine wpList_load_row rfl 45 (.tmp 1) rfl w.heap.size rfl 45 C.toArray (0, 0) _ H.out.1 Tryz.underlying45 rfl (by rw [u16_size, List.size_toArray, H.out.2.2]) ?_)
    | fail)
  go_ret
  exact ⟨rfl, H.out.2.1⟩
end Go.Proofs.YtcecibopanfmgaaGreatDoor

namespace Go.Proofs.YtcecibopanfmgaaGreatDoor
open Go.RowKit
set_option linter.unusedVariables false

/-- An operation whose guard is met. -/
theorem wpList_want {P : Program} {ops : Array Oper} {rest : List Oper} {o : Oper} {a : Act} {w : World} {Q : Exit → Act → World → Prop} (hw : Region.wanted o (yielded ops a.tmps) = true)
    (h : ∀ K : Act → World → Prop, (∀ a w, wpList P ops Q rest a w → K a w) → o.wp P a w K Q) : wpList P ops Q (o :: rest) a w := by
  simp only [wpList, hw, if_true]
  exact .inl (h _ (fun _ _ h => h))
/-- The library's variable holds some number. -/
def M (w : World) : Prop := ∃ m, w.cell? ⟨1, 0, none⟩ = some (.int .i64 m)
theorem M.below {w w' : World} (h : M w) (hb : Below w.heap.size w w') : M w' := by
  obtain ⟨m, hm⟩ := h
  exact ⟨m, (hb.cell (p := ⟨1, 0, none⟩) (block_lt_of_cell hm)).trans hm⟩

theorem strip_any (s : ByteArray) (hs : s.size ≤ 100000) (w : World) (hM : M w) :
    Calls Tryz.prog 53 #[.string s, .string ⟨#[45]⟩, .string ⟨#[]⟩] w fun e w' => e = .returned (.string ⟨(strip s.data.toList).toArray⟩) ∧ Below w.heap.size w w' := by
  obtain ⟨m, hm⟩ := hM
  have h := Tryz.strings_ReplaceAll s ⟨#[45]⟩ ⟨#[]⟩ m w (by omega) hm (by decide) (by show s.size + _ * 0 ≤ _; omega)
  rw [show (ByteArray.mk #[45]).data.toList = [45] from rfl, show (ByteArray.mk #[]).data.toList = [] from rfl, replaceAll_strip] at h
  exact h

set_option maxRecDepth 20000 in
set_option maxHeartbeats 2000000 in
/-- Where the bytes are no id's. -/
theorem parse_short (s t raw : ByteArray) (e : Int) (ht : (⟨(strip s.data.toList).toArray⟩ : ByteArray) = t) (hs : s.size ≤ 100000) (w : World) (hM : M w)
    (hD : ∀ W : World, Calls Tryz.prog 32 #[alph hexS 4 false, .string t] W fun x w' => x = .returned (.tuple #[.string raw, .int .i64 e]) ∧ Below W.heap.size W w') (hr : raw.size ≠ 16) :
    Calls Tryz.prog 26 #[.string s] w fun e w' => e = .returned (.tuple #[.agg z16.toArray, .int .i64 4]) ∧ Below w.heap.size w w' := by
  have hz := (zero_of_info u16_info).1
  have HS : Hid (∀ W : World, M W → Calls Tryz.prog 53 #[.string s, .string ⟨#[45]⟩, .string ⟨#[]⟩] W fun e w' => e = .returned (.string t) ∧ Below W.heap.size W w') := Lib.hid fun W h => by rw [← ht]; exact strip_any s hs W h
  have HD := Lib.hid hD
  have HI := Lib.hid (fun W => id_bad raw hr W)
  have HM := Lib.hid hM
  have hr0 := Row.new w 45 z16
  have hb0 : Below w.heap.size w (w.alloc (.cells z16.toArray 45)) := (Below.refl w.heap.size w).alloc (Nat.le_refl _) (.cells z16.toArray 45)
  have H0 := Lib.hid (And.intro hr0 hb0)
  clear hD ht hr hs hM hr0 hb0
  go_enter Tryz.func26, Tryz.ntmps26
  go_wp2_with fail
  obtain ⟨r0, b0⟩ := H0.out
  generalize w.alloc (.cells z16.toArray 45) = w0 at r0 b0 ⊢
  refine (Hex_any _).mono ?_
  rintro x w1 ⟨rfl, hb1⟩
  have r1 := r0.below hb1 r0.lt
  have b1 := b0.trans (hb1.mono b0.size)
  clear r0 b0 hb1 H0
  go_wp2_with fail
  refine (HS.out _ (HM.out.below b1)).mono ?_
  rintro x w2 ⟨rfl, hb2⟩
  have r2 := r1.below hb2 r1.lt
  have b2 := b1.trans (hb2.mono b1.size)
  clear r1 b1 hb2
  go_wp2_with fail
  refine (HD.out _).mono ?_
  rintro x w3 ⟨rfl, hb3⟩
  have r3 := r2.below hb3 r2.lt
  have b3 := b2.trans (hb3.mono b2.size)
  clear r2 b2 hb3
  go_wp2_with fail
  refine (HI.out _).mono ?_
  rintro x w4 ⟨rfl, hb4⟩
  have r4 := r3.below hb4 r3.lt
  have b4 := b3.trans (hb4.mono b3.size)
  clear r3 b3 hb4
  have r5 := r4.alloc (.cells z16.toArray 45)
  have b5 := b4.alloc b4.size (.cells z16.toArray 45)
  have n5 := Row.new w4 45 z16
  have r6 := r5.put_far (g' := w4.heap.size) (by have := r4.lt; omega) z16.toArray
  have b6 := below_setRow (B := w.heap.size) b5 b4.size z16.toArray
  have H := Lib.hid (And.intro n5 (And.intro r6 b6))
  clear r4 b4 r5 b5 n5 r6 b6
  go_wp2_with (first
    | (refine wpList_store_row rfl 45 (.tmp 6) (.tmp 18) rfl w4.heap.size z16.toArray rfl rfl 45 z16.toArray H.out.1 u16_size rfl z16_one ?_)
    | (refine wpList_store_row rfl 45 (.tmp 2) (.tmp 28) rfl w.heap.size z16.toArray rfl rfl 45 z16.toArray H.out.2.1 u16_size rfl z16_one ?_))
  have hp := H.out.2.1.put z16
  have hq := below_setRow (B := w.heap.size) H.out.2.2 (Nat.le_refl _) z16.toArray
  exact bodyPost_ret (v := .tuple #[.agg z16.toArray, .int .i64 4]) (results_row_tmp rfl _ _ w.heap.size 45 z16.toArray (0, 0) _ rfl hp Tryz.underlying45 rfl u16_size _ rfl) rfl ⟨rfl, hq⟩

set_option maxRecDepth 20000 in
set_option maxHeartbeats 2000000 in
/-- Where they are, and the text is theirs. -/
theorem parse_long (s t raw : ByteArray) (e : Int) (ht : (⟨(strip s.data.toList).toArray⟩ : ByteArray) = t) (hs : s.size ≤ 100000) (w : World) (hM : M w)
    (hD : ∀ W : World, Calls Tryz.prog 32 #[alph hexS 4 false, .string t] W fun x w' => x = .returned (.tuple #[.string raw, .int .i64 e]) ∧ Below W.heap.size W w') (hr : raw.size = 16) (htx : idL raw.data.toList = s.data.toList) :
    Calls Tryz.prog 26 #[.string s] w fun e w' => e = .returned (.tuple #[.agg (raw.data.toList.map bv).toArray, .int .i64 0]) ∧ Below w.heap.size w w' := by
  have hz := (zero_of_info u16_info).1
  have HS : Hid (∀ W : World, M W → Calls Tryz.prog 53 #[.string s, .string ⟨#[45]⟩, .string ⟨#[]⟩] W fun e w' => e = .returned (.string t) ∧ Below W.heap.size W w') := Lib.hid fun W h => by rw [← ht]; exact strip_any s hs W h
  have HD := Lib.hid hD
  have hl : raw.data.toList.length = 16 := by rw [← hr]; simp
  have hI := fun W => id_ok raw hr W
  have hT := fun W => idText_any raw.data.toList hl W
  have hone := one_bytes raw.data.toList
  obtain ⟨C, hC⟩ : ∃ C, raw.data.toList.map bv = C := ⟨_, rfl⟩
  have hCl : C.length = 16 := by rw [← hC, List.length_map, hl]
  rw [hC] at hI hT hone ⊢
  have htt : (⟨(idL raw.data.toList).toArray⟩ : ByteArray) = s := by rw [htx]
  rw [htt] at hT
  have HI := Lib.hid hI
  have HT := Lib.hid hT
  have HC := Lib.hid (And.intro hCl hone)
  have HM := Lib.hid hM
  have hr0 := Row.new w 45 z16
  have hb0 : Below w.heap.size w (w.alloc (.cells z16.toArray 45)) := (Below.refl w.heap.size w).alloc (Nat.le_refl _) (.cells z16.toArray 45)
  have H0 := Lib.hid (And.intro hr0 hb0)
  clear hD ht hr hs hM hr0 hb0 hl hI hT hone hC hCl htt htx
  go_enter Tryz.func26, Tryz.ntmps26
  go_wp2_with fail
  obtain ⟨r0, b0⟩ := H0.out
  generalize w.alloc (.cells z16.toArray 45) = w0 at r0 b0 ⊢
  refine (Hex_any _).mono ?_
  rintro x w1 ⟨rfl, hb1⟩
  have r1 := r0.below hb1 r0.lt
  have b1 := b0.trans (hb1.mono b0.size)
  clear r0 b0 hb1 H0
  go_wp2_with fail
  refine (HS.out _ (HM.out.below b1)).mono ?_
  rintro x w2 ⟨rfl, hb2⟩
  have r2 := r1.below hb2 r1.lt
  have b2 := b1.trans (hb2.mono b1.size)
  clear r1 b1 hb2
  go_wp2_with fail
  refine (HD.out _).mono ?_
  rintro x w3 ⟨rfl, hb3⟩
  have r3 := r2.below hb3 r2.lt
  have b3 := b2.trans (hb3.mono b2.size)
  clear r2 b2 hb3
  go_wp2_with fail
  refine (HI.out _).mono ?_
  rintro x w4 ⟨rfl, hb4⟩
  have r4 := r3.below hb4 r3.lt
  have b4 := b3.trans (hb4.mono b3.size)
  clear r3 b3 hb4
  have r5 := r4.alloc (.cells z16.toArray 45)
  have b5 := b4.alloc b4.size (.cells z16.toArray 45)
  have n5 := Row.new w4 45 z16
  have N5 := Lib.hid n5
  have n6 := n5.put C
  have r6 := r5.put_far (g' := w4.heap.size) (by have := r4.lt; omega) C.toArray
  have b6 := below_setRow (B := w.heap.size) b5 b4.size C.toArray
  clear r4 b4 r5 b5 n5
  go_wp2_with (first
    | (refine wpList_store_row rfl 45 (.tmp 6) (.tmp 18) rfl w4.heap.size C.toArray rfl rfl 45 z16.toArray N5.out (by rw [u16_size, List.size_toArray, HC.out.1]) (by rw [List.size_toArray, List.size_toArray, HC.out.1]; rfl) HC.out.2 ?_)
    | (refine wpList_want (by rfl) fun _ hK => wp_load_row 45 (.tmp 6) rfl w4.heap.size rfl 45 C.toArray (0, 0) _ n6 Tryz.underlying45 rfl (by rw [u16_size, List.size_toArray, HC.out.1]) (hK _ _ ?_)))
  generalize (w4.alloc (.cells z16.toArray 45)).setRow w4.heap.size C.toArray = w5 at n6 r6 b6 ⊢
  obtain ⟨g6, hg6⟩ : ∃ g, w4.heap.size = g := ⟨_, rfl⟩
  rw [hg6] at n6 ⊢
  clear N5 hg6
  refine (HT.out _).mono ?_
  rintro x w6 ⟨rfl, hb6⟩
  have n7 := n6.below hb6 n6.lt
  have r7 := r6.below hb6 r6.lt
  have b7 := b6.trans (hb6.mono b6.size)
  clear n6 r6 b6 hb6
  go_wp2_with (first
    | (refine wpList_load_row rfl 45 (.tmp 6) rfl g6 rfl 45 C.toArray (0, 0) _ n7 Tryz.underlying45 rfl (by rw [u16_size, List.size_toArray, HC.out.1]) ?_)
    | (refine wpList_store_row rfl 45 (.tmp 2) (.tmp 29) rfl w.heap.size C.toArray rfl rfl 45 z16.toArray r7 (by rw [u16_size, List.size_toArray, HC.out.1]) (by rw [List.size_toArray, List.size_toArray, HC.out.1]; rfl) HC.out.2 ?_))
  have hp := r7.put C
  have hq := below_setRow (B := w.heap.size) b7 (Nat.le_refl _) C.toArray
  exact bodyPost_ret (v := .tuple #[.agg C.toArray, .int .i64 0]) (results_row_tmp rfl _ _ w.heap.size 45 C.toArray (0, 0) _ rfl hp Tryz.underlying45 rfl (by rw [u16_size, List.size_toArray, HC.out.1]) _ rfl) rfl ⟨rfl, hq⟩

set_option maxRecDepth 20000 in
set_option maxHeartbeats 2000000 in
/-- Where they are, and the text isn't theirs. -/
theorem parse_other (s t raw : ByteArray) (e : Int) (ht : (⟨(strip s.data.toList).toArray⟩ : ByteArray) = t) (hs : s.size ≤ 100000) (w : World) (hM : M w)
    (hD : ∀ W : World, Calls Tryz.prog 32 #[alph hexS 4 false, .string t] W fun x w' => x = .returned (.tuple #[.string raw, .int .i64 e]) ∧ Below W.heap.size W w') (hr : raw.size = 16) (htx : idL raw.data.toList ≠ s.data.toList) :
    Calls Tryz.prog 26 #[.string s] w fun e w' => e = .returned (.tuple #[.agg z16.toArray, .int .i64 4]) ∧ Below w.heap.size w w' := by
  have hz := (zero_of_info u16_info).1
  have HS : Hid (∀ W : World, M W → Calls Tryz.prog 53 #[.string s, .string ⟨#[45]⟩, .string ⟨#[]⟩] W fun e w' => e = .returned (.string t) ∧ Below W.heap.size W w') := Lib.hid fun W h => by rw [← ht]; exact strip_any s hs W h
  have HD := Lib.hid hD
  have hl : raw.data.toList.length = 16 := by rw [← hr]; simp
  have hI := fun W => id_ok raw hr W
  have hT := fun W => idText_any raw.data.toList hl W
  have hone := one_bytes raw.data.toList
  obtain ⟨C, hC⟩ : ∃ C, raw.data.toList.map bv = C := ⟨_, rfl⟩
  have hCl : C.length = 16 := by rw [← hC, List.length_map, hl]
  rw [hC] at hI hT hone
  obtain ⟨tx, htt⟩ : ∃ tx : ByteArray, (⟨(idL raw.data.toList).toArray⟩ : ByteArray) = tx := ⟨_, rfl⟩
  rw [htt] at hT
  have hne : (tx.toList == s.toList) = false := by
    rw [beq_eq_false_iff_ne, Lib.toList_data, Lib.toList_data, ← htt]
    exact htx
  have HI := Lib.hid hI
  have HT := Lib.hid hT
  have HC := Lib.hid (And.intro hCl hone)
  have HM := Lib.hid hM
  have hr0 := Row.new w 45 z16
  have hb0 : Below w.heap.size w (w.alloc (.cells z16.toArray 45)) := (Below.refl w.heap.size w).alloc (Nat.le_refl _) (.cells z16.toArray 45)
  have H0 := Lib.hid (And.intro hr0 hb0)
  clear hD ht hr hs hM hr0 hb0 hl hI hT hone hC hCl htt htx
  go_enter Tryz.func26, Tryz.ntmps26
  go_wp2_with fail
  obtain ⟨r0, b0⟩ := H0.out
  generalize w.alloc (.cells z16.toArray 45) = w0 at r0 b0 ⊢
  refine (Hex_any _).mono ?_
  rintro x w1 ⟨rfl, hb1⟩
  have r1 := r0.below hb1 r0.lt
  have b1 := b0.trans (hb1.mono b0.size)
  clear r0 b0 hb1 H0
  go_wp2_with fail
  refine (HS.out _ (HM.out.below b1)).mono ?_
  rintro x w2 ⟨rfl, hb2⟩
  have r2 := r1.below hb2 r1.lt
  have b2 := b1.trans (hb2.mono b1.size)
  clear r1 b1 hb2
  go_wp2_with fail
  refine (HD.out _).mono ?_
  rintro x w3 ⟨rfl, hb3⟩
  have r3 := r2.below hb3 r2.lt
  have b3 := b2.trans (hb3.mono b2.size)
  clear r2 b2 hb3
  go_wp2_with fail
  refine (HI.out _).mono ?_
  rintro x w4 ⟨rfl, hb4⟩
  have r4 := r3.below hb4 r3.lt
  have b4 := b3.trans (hb4.mono b3.size)
  clear r3 b3 hb4
  have r5 := r4.alloc (.cells z16.toArray 45)
  have b5 := b4.alloc b4.size (.cells z16.toArray 45)
  have n5 := Row.new w4 45 z16
  have N5 := Lib.hid n5
  have n6 := n5.put C
  have r6 := r5.put_far (g' := w4.heap.size) (by have := r4.lt; omega) C.toArray
  have b6 := below_setRow (B := w.heap.size) b5 b4.size C.toArray
  clear r4 b4 r5 b5 n5
  go_wp2_with (first
    | (refine wpList_store_row rfl 45 (.tmp 6) (.tmp 18) rfl w4.heap.size C.toArray rfl rfl 45 z16.toArray N5.out (by rw [u16_size, List.size_toArray, HC.out.1]) (by rw [List.size_toArray, List.size_toArray, HC.out.1]; rfl) HC.out.2 ?_)
    | (refine wpList_want (by rfl) fun _ hK => wp_load_row 45 (.tmp 6) rfl w4.heap.size rfl 45 C.toArray (0, 0) _ n6 Tryz.underlying45 rfl (by rw [u16_size, List.size_toArray, HC.out.1]) (hK _ _ ?_)))
  generalize (w4.alloc (.cells z16.toArray 45)).setRow w4.heap.size C.toArray = w5 at n6 r6 b6 ⊢
  obtain ⟨g6, hg6⟩ : ∃ g, w4.heap.size = g := ⟨_, rfl⟩
  rw [hg6] at n6 ⊢
  clear N5 hg6
  refine (HT.out _).mono ?_
  rintro x w6 ⟨rfl, hb6⟩
  have n7 := n6.below hb6 n6.lt
  have r7 := r6.below hb6 r6.lt
  have b7 := b6.trans (hb6.mono b6.size)
  clear n6 r6 b6 hb6
  go_wp2_with (refine wpList_store_row rfl 45 (.tmp 2) (.tmp 28) rfl w.heap.size z16.toArray rfl rfl 45 z16.toArray r7 u16_size rfl z16_one ?_)
  have hp := r7.put z16
  have hq := below_setRow (B := w.heap.size) b7 (Nat.le_refl _) z16.toArray
  exact bodyPost_ret (v := .tuple #[.agg z16.toArray, .int .i64 4]) (results_row_tmp rfl _ _ w.heap.size 45 z16.toArray (0, 0) _ rfl hp Tryz.underlying45 rfl u16_size _ rfl) rfl ⟨rfl, hq⟩

/-- The id of its text. -/
theorem Parse_ok (s : ByteArray) (l : List UInt8) (h : IsId s.data.toList l) (hs : s.size ≤ 100000) (w : World) (hM : M w) :
    Calls Tryz.prog 26 #[.string s] w fun e w' => e = .returned (.tuple #[.agg (l.map bv).toArray, .int .i64 0]) ∧ Below w.heap.size w w' := by
  have hst : (⟨(strip s.data.toList).toArray⟩ : ByteArray) = ⟨(hexL l).toArray⟩ := by rw [← h.2, strip_id]
  have hl : (hexL l).length = 32 := by rw [hexL_length, h.1]
  have henc : encS hexS 4 false (decS hexS 4 ⟨(hexL l).toArray⟩) = ⟨(hexL l).toArray⟩ := by rw [dec_hex, encS_hex]
  refine parse_long s ⟨(hexL l).toArray⟩ ⟨l.toArray⟩ 0 hst hs w hM (fun W => ?_) (by show l.toArray.size = 16; rw [List.size_toArray, h.1]) h.2
  have hd := Decode_ok hexS 4 false ⟨(hexL l).toArray⟩ W (.inl rfl) rfl (by show (hexL l).toArray.size ≤ _; rw [List.size_toArray, hl]; omega) henc
  rwa [dec_hex] at hd
/-- A text that is no id's. -/
theorem Parse_bad (s : ByteArray) (h : ∀ l, ¬ IsId s.data.toList l) (hs : s.size ≤ 50000) (w : World) (hM : M w) :
    Calls Tryz.prog 26 #[.string s] w fun e w' => e = .returned (.tuple #[.agg z16.toArray, .int .i64 4]) ∧ Below w.heap.size w w' := by
  obtain ⟨t, ht⟩ : ∃ t : ByteArray, (⟨(strip s.data.toList).toArray⟩ : ByteArray) = t := ⟨_, rfl⟩
  have hts : t.size ≤ 100000 := by
    rw [← ht]
    show (strip s.data.toList).toArray.size ≤ _
    rw [List.size_toArray]
    have h1 : (strip s.data.toList).length ≤ s.data.toList.length := List.length_filter_le _ _
    have h2 : s.data.toList.length = s.size := by simp
    omega
  by_cases he : encS hexS 4 false (decS hexS 4 t) = t
  · by_cases hz : (decS hexS 4 t).size = 16
    · exact parse_other s t (decS hexS 4 t) 0 ht (by omega) w hM (fun W => Decode_ok hexS 4 false t W (.inl rfl) rfl hts he) hz (fun e => h _ ⟨by rw [← hz]; simp, e⟩)
    · exact parse_short s t (decS hexS 4 t) 0 ht (by omega) w hM (fun W => Decode_ok hexS 4 false t W (.inl rfl) rfl hts he) hz
  · exact parse_short s t ⟨#[]⟩ 4 ht (by omega) w hM (fun W => Decode_bad hexS 4 false t W (.inl rfl) rfl hts he) (by decide)
end Go.Proofs.YtcecibopanfmgaaGreatDoor

namespace Go.Proofs.YtcecibopanfmgaaGreatDoor
open Go.ChangeShapes Go.WideShapes Go.RowKit
set_option linter.unusedVariables false

section
variable {H : Type} {enc : TypeId × Value → H}
theorem returns_shaped_and {a : Assume} {C : Checked} {os : Os} {f : FuncId} {fn : Func} {s : ChangeSpec} {conds : List PathCond} {apart fresh handsOn again : Bool} {X : World → Array Value → Prop}
    (hX : ∀ (w w' : World) (args : Array Value), w.heap = w'.heap → X w args → X w' args)
    (own : ownKnob C.prog.godebug = none) (started : os.Started) (noInit : C.prog.inits.idxOf? f = none) (hfn : C.prog.funcs[f]? = some fn)
    (witness : ∃ (w : World) (tape : Tape) (i : Input), w.os = os ∧ (w.forCall tape i).Shaped C.prog ∧ i.vars = [] ∧ Input.okWide C.prog (w.forCall tape i) .any w.heap.size f i ∧
      ((s.pre enc C.prog fn conds apart (w.forCall tape i).memory i.args ∧ X (w.forCall tape i).memory i.args) ∧ sizedMet enc C.prog fn (OpenSpec.ofChange s) apart (w.forCall tape i).memory i.args) ∧ a.holds C.prog (lone (Frame.enter C.prog f i.args .normal) [] (w.forCall tape i)))
    (contract : ∀ (W : World) (base : Nat) (args : Array Value) (ds gs : List (DataW H)) (before : List MemPlace),
      (∀ (j : Nat) t v, fn.params[j]? = some t → args[j]? = some v → Value.okWide C.prog W .any base t v) →
      DataW.Whole enc C.prog fn.params.toList s.vars apart W args.toList ds gs before →
      conds.all (PathCond.test C.prog ⟨fn.params.toList, ds, s.plain.varTypes C.prog, gs⟩) = true →
      (DataW.weightsEach C.prog (fn.params.toList ++ s.plain.varTypes C.prog) (ds ++ gs)).all (· ≤ reachBytes) = true → X W args → W.ShapedOpen C.prog →
      Calls C.prog f args W fun e W' => ∃ v, e = .returned v ∧ s.post enc C.prog fn apart fresh handsOn again W args v W') :
    ReturnsInHanded a C os f .any (fun w args => (s.pre enc C.prog fn conds apart w args ∧ X w args) ∧ sizedMet enc C.prog fn (OpenSpec.ofChange s) apart w args) (s.post enc C.prog fn apart fresh handsOn again) := by
  refine returnsInHanded_of_calls own started noInit witness ?_
  intro w tape i _ hsh _ hok hpre _
  obtain ⟨_, _, _, fn', hfn', _, _, _, _, hval⟩ := hok
  obtain rfl : fn' = fn := Option.some.inj (hfn'.symm.trans hfn)
  obtain ⟨⟨⟨ds, gs, before, hw, hc⟩, hx⟩, hz⟩ := hpre
  refine (contract (w.forCall tape i) w.heap.size i.args ds gs before hval (DataW.Whole.of_heap (w' := w.forCall tape i) (by rfl) hw) hc (hz.weights hw) (hX _ _ _ (by rfl) hx) hsh).mono fun e W' ⟨v, he, hp⟩ => ?_
  subst he
  exact ChangeSpec.post_blind hp
end

theorem M_of_shaped {W : World} (h : W.ShapedOpen Tryz.prog) : M W :=
  cell_of_shapedOpen_int (t := 3) (zero := #[.int .i64 0]) h (of_decide_eq_true (by kernel_rfl)) (by kernel_rfl) rfl (by kernel_rfl) (by kernel_rfl) Tryz.underlying3
end Go.Proofs.YtcecibopanfmgaaGreatDoor

namespace Go.Proofs.YtcecibopanfmgaaGreatDoor
open Go.RowKit

/-- The code point that a text begins with, and how many bytes it takes. -/
def dec (l : List UInt8) : Option (Nat × Nat) :=
  let at' (k : Nat) : Nat := (l.getD k 0).toNat
  let cont (k : Nat) : Bool := decide (k < l.length) && at' k / 64 == 2
  if l = [] then none
  else if at' 0 < 128 then some (at' 0, 1)
  else if at' 0 / 32 == 6 && cont 1 then
    let c := (at' 0 % 32) * 64 + at' 1 % 64
    if c ≥ 128 then some (c, 2) else none
  else if at' 0 / 16 == 14 && cont 1 && cont 2 then
    let c := (at' 0 % 16) * 4096 + (at' 1 % 64) * 64 + at' 2 % 64
    if c ≥ 2048 && Utf8.valid c then some (c, 3) else none
  else if at' 0 / 8 == 30 && cont 1 && cont 2 && cont 3 then
    let c := (at' 0 % 8) * 262144 + (at' 1 % 64) * 4096 + (at' 2 % 64) * 64 + at' 3 % 64
    if c ≥ 65536 && Utf8.valid c then some (c, 4) else none
  else none

/-- The writing of a code point. -/
def enc (c : Nat) : List UInt8 :=
  if c < 128 then [UInt8.ofNat c]
  else if c < 2048 then [UInt8.ofNat (192 + c / 64), UInt8.ofNat (128 + c % 64)]
  else if c < 65536 then [UInt8.ofNat (224 + c / 4096), UInt8.ofNat (128 + c / 64 % 64), UInt8.ofNat (128 + c % 64)]
  else [UInt8.ofNat (240 + c / 262144), UInt8.ofNat (128 + c / 4096 % 64), UInt8.ofNat (128 + c / 64 % 64), UInt8.ofNat (128 + c % 64)]

/-- How many bytes it takes. -/
def encLen (c : Nat) : Nat := if c < 128 then 1 else if c < 2048 then 2 else if c < 65536 then 3 else 4

theorem enc_length (c : Nat) : (enc c).length = encLen c := by
  unfold enc encLen
  repeat' split
  all_goals rfl
theorem encLen_bd (c : Nat) : 1 ≤ encLen c ∧ encLen c ≤ 4 := by
  unfold encLen
  repeat' split
  all_goals omega

theorem valid_iff (r : Int) : Utf8.valid r = true ↔ (0 ≤ r ∧ r < 55296) ∨ (57344 ≤ r ∧ r ≤ 1114111) := by
  unfold Utf8.valid; simp

theorem encode_c (r : Int) (c : Nat) (hc : c = if Utf8.valid r then r.toNat else Utf8.runeError) : Utf8.encode r =
    if c < 0x80 then ⟨#[UInt8.ofNat c]⟩
    else if c < 0x800 then ⟨#[UInt8.ofNat (0xC0 + c / 64), UInt8.ofNat (0x80 + c % 64)]⟩
    else if c < 0x10000 then ⟨#[UInt8.ofNat (0xE0 + c / 4096), UInt8.ofNat (0x80 + c / 64 % 64), UInt8.ofNat (0x80 + c % 64)]⟩
    else ⟨#[UInt8.ofNat (0xF0 + c / 262144), UInt8.ofNat (0x80 + c / 4096 % 64), UInt8.ofNat (0x80 + c / 64 % 64), UInt8.ofNat (0x80 + c % 64)]⟩ := by
  subst hc; rfl
theorem encode_eq (c : Nat) (h : Utf8.valid c = true) : Utf8.encode c = ⟨(enc c).toArray⟩ := by
  rw [encode_c (c : Int) c (by rw [if_pos h]; exact (Int.toNat_natCast c).symm)]
  unfold enc
  by_cases h1 : c < 128
  · rw [if_pos h1, if_pos h1]
  · by_cases h2 : c < 2048
    · rw [if_neg h1, if_neg h1, if_pos h2, if_pos h2]
    · by_cases h3 : c < 65536
      · rw [if_neg h1, if_neg h1, if_neg h2, if_neg h2, if_pos h3, if_pos h3]
      · rw [if_neg h1, if_neg h1, if_neg h2, if_neg h2, if_neg h3, if_neg h3]

theorem get_drop (s : ByteArray) (i k : Nat) : (s.get! (i + k)) = (s.data.toList.drop i).getD k 0 := by
  show s.data[i + k]! = _
  rw [List.getD_eq_getElem?_getD, List.getElem?_drop, Array.getElem!_eq_getD, Array.getD_eq_getD_getElem?, Array.getElem?_toList]
  rfl

/-- What a range over a string reads. -/
theorem decode_eq (s : ByteArray) (i : Nat) (h : i < s.size) : Utf8.decode s i = (dec (s.data.toList.drop i)).getD (65533, 1) := by
  have hl : (s.data.toList.drop i).length = s.size - i := by simp
  have hne : s.data.toList.drop i ≠ [] := by intro e; rw [e] at hl; simp at hl; omega
  have hc : ∀ k, decide (k < (s.data.toList.drop i).length) = decide (i + k < s.size) := fun k => by rw [hl]; congr 1; apply propext; omega
  unfold Utf8.decode dec
  simp only [get_drop, hc, if_neg hne, Utf8.runeError]
  repeat' split
  all_goals first | rfl | simp_all

theorem tn (n : Nat) (h : n < 256) : (UInt8.ofNat n).toNat = n := by
  simp [UInt8.toNat_ofNat']; omega

theorem dec1 (b0 : UInt8) (t : List UInt8) (h : b0.toNat < 128) : dec (b0 :: t) = some (b0.toNat, 1) := by
  simp [dec, h]
theorem dec2 (b0 b1 : UInt8) (t : List UInt8) (c : Nat) (h0 : b0.toNat / 32 = 6) (h1 : b1.toNat / 64 = 2) (hc : b0.toNat % 32 * 64 + b1.toNat % 64 = c) (hg : 128 ≤ c) :
    dec (b0 :: b1 :: t) = some (c, 2) := by
  have n0 : ¬ b0.toNat < 128 := by omega
  simp [dec, n0, h0, h1, hc, hg]
theorem dec3 (b0 b1 b2 : UInt8) (t : List UInt8) (c : Nat) (h0 : b0.toNat / 16 = 14) (h1 : b1.toNat / 64 = 2) (h2 : b2.toNat / 64 = 2)
    (hc : b0.toNat % 16 * 4096 + b1.toNat % 64 * 64 + b2.toNat % 64 = c) (hg : 2048 ≤ c) (hv : Utf8.valid c = true) : dec (b0 :: b1 :: b2 :: t) = some (c, 3) := by
  have n0 : ¬ b0.toNat < 128 := by omega
  have n1 : ¬ b0.toNat / 32 = 6 := by omega
  simp [dec, n0, n1, h0, h1, h2, hc, hg, hv]
theorem dec4 (b0 b1 b2 b3 : UInt8) (t : List UInt8) (c : Nat) (h0 : b0.toNat / 8 = 30) (h1 : b1.toNat / 64 = 2) (h2 : b2.toNat / 64 = 2) (h3 : b3.toNat / 64 = 2)
    (hc : b0.toNat % 8 * 262144 + b1.toNat % 64 * 4096 + b2.toNat % 64 * 64 + b3.toNat % 64 = c) (hg : 65536 ≤ c) (hv : Utf8.valid c = true) : dec (b0 :: b1 :: b2 :: b3 :: t) = some (c, 4) := by
  have n0 : ¬ b0.toNat < 128 := by omega
  have n1 : ¬ b0.toNat / 32 = 6 := by omega
  have n2 : ¬ b0.toNat / 16 = 14 := by omega
  simp [dec, n0, n1, n2, h0, h1, h2, h3, hc, hg, hv]

/-- What is written is read. -/
theorem dec_enc_u (c : Nat) (t : List UInt8) (h : Utf8.valid c = true) : dec (enc c ++ t) = some (c, encLen c) := by
  have hv := (valid_iff c).1 h
  unfold enc encLen
  by_cases h1 : c < 128
  · rw [if_pos h1, if_pos h1]
    have e := tn c (by omega)
    have := dec1 (UInt8.ofNat c) t (by omega)
    rwa [e] at this
  · by_cases h2 : c < 2048
    · rw [if_neg h1, if_neg h1, if_pos h2, if_pos h2]
      have e0 := tn (192 + c / 64) (by omega)
      have e1 := tn (128 + c % 64) (by omega)
      exact dec2 _ _ t c (by omega) (by omega) (by omega) (by omega)
    · by_cases h3 : c < 65536
      · rw [if_neg h1, if_neg h1, if_neg h2, if_neg h2, if_pos h3, if_pos h3]
        have e0 := tn (224 + c / 4096) (by omega)
        have e1 := tn (128 + c / 64 % 64) (by omega)
        have e2 := tn (128 + c % 64) (by omega)
        exact dec3 _ _ _ t c (by omega) (by omega) (by omega) (by omega) (by omega) h
      · rw [if_neg h1, if_neg h1, if_neg h2, if_neg h2, if_neg h3, if_neg h3]
        have e0 := tn (240 + c / 262144) (by omega)
        have e1 := tn (128 + c / 4096 % 64) (by omega)
        have e2 := tn (128 + c / 64 % 64) (by omega)
        have e3 := tn (128 + c % 64) (by omega)
        exact dec4 _ _ _ _ t c (by omega) (by omega) (by omega) (by omega) (by omega) (by omega) h

theorem ofNat_eq (b : UInt8) (n : Nat) (h : n = b.toNat) : UInt8.ofNat n = b := by subst h; simp

/-- What is read was written. -/
theorem dec_some {l : List UInt8} {c k : Nat} (h : dec l = some (c, k)) : Utf8.valid c = true ∧ k = encLen c ∧ l = enc c ++ l.drop k := by
  unfold dec at h
  match l with
  | [] => simp at h
  | b0 :: l1 =>
    have hb0 := b0.toNat_lt
    simp only [List.length_cons, List.getD_cons_zero, if_neg (List.cons_ne_nil b0 l1)] at h
    by_cases h1 : b0.toNat < 128
    · rw [if_pos h1] at h
      obtain ⟨rfl, rfl⟩ : b0.toNat = c ∧ 1 = k := by simpa using h
      refine ⟨(valid_iff _).2 (by omega), by simp [encLen, h1], ?_⟩
      simp [enc, h1]
    · rw [if_neg h1] at h
      match l1 with
      | [] => simp at h
      | b1 :: l2 =>
        have hb1 := b1.toNat_lt
        simp only [List.length_cons, List.getD_cons_zero, List.getD_cons_succ] at h
        split at h
        · rename_i h2
          split at h
          · rename_i h3
            simp only [Bool.and_eq_true, beq_iff_eq, decide_eq_true_eq] at h2
            obtain ⟨rfl, rfl⟩ : b0.toNat % 32 * 64 + b1.toNat % 64 = c ∧ 2 = k := by simpa using h
            refine ⟨(valid_iff _).2 (by omega), by unfold encLen; rw [if_neg (by omega), if_pos (by omega)], ?_⟩
            unfold enc
            rw [if_neg (by omega), if_pos (by omega), ofNat_eq b0 _ (by omega), ofNat_eq b1 _ (by omega)]
            rfl
          · cases h
        · match l2 with
          | [] => simp at h
          | b2 :: l3 =>
            have hb2 := b2.toNat_lt
            simp only [List.length_cons, List.getD_cons_zero, List.getD_cons_succ] at h
            split at h
            · rename_i h2
              split at h
              · rename_i h3
                simp only [Bool.and_eq_true, beq_iff_eq, decide_eq_true_eq] at h2 h3
                obtain ⟨rfl, rfl⟩ : b0.toNat % 16 * 4096 + b1.toNat % 64 * 64 + b2.toNat % 64 = c ∧ 3 = k := by simpa using h
                refine ⟨h3.2, by unfold encLen; rw [if_neg (by omega), if_neg (by omega), if_pos (by omega)], ?_⟩
                unfold enc
                rw [if_neg (by omega), if_neg (by omega), if_pos (by omega), ofNat_eq b0 _ (by omega), ofNat_eq b1 _ (by omega), ofNat_eq b2 _ (by omega)]
                rfl
              · cases h
            · match l3 with
              | [] => simp at h
              | b3 :: l4 =>
                have hb3 := b3.toNat_lt
                simp only [List.length_cons, List.getD_cons_zero] at h
                split at h
                · rename_i h2
                  split at h
                  · rename_i h3
                    simp only [Bool.and_eq_true, beq_iff_eq, decide_eq_true_eq] at h2 h3
                    obtain ⟨rfl, rfl⟩ : b0.toNat % 8 * 262144 + b1.toNat % 64 * 4096 + b2.toNat % 64 * 64 + b3.toNat % 64 = c ∧ 4 = k := by simpa using h
                    have hv := (valid_iff _).1 h3.2
                    refine ⟨h3.2, by unfold encLen; rw [if_neg (by omega), if_neg (by omega), if_neg (by omega)], ?_⟩
                    unfold enc
                    rw [if_neg (by omega), if_neg (by omega), if_neg (by omega), ofNat_eq b0 _ (by omega), ofNat_eq b1 _ (by omega), ofNat_eq b2 _ (by omega), ofNat_eq b3 _ (by omega)]
                    rfl
                  · cases h
                · cases h

theorem dec_len {l : List UInt8} {c k : Nat} (h : dec l = some (c, k)) : 1 ≤ k ∧ k ≤ 4 ∧ k ≤ l.length := by
  obtain ⟨_, rfl, e⟩ := dec_some h
  have := encLen_bd c
  have := enc_length c
  have hl := congrArg List.length e
  rw [List.length_append] at hl
  omega

/-- Places and code points, from a place on, with fuel. -/
def runesF (l : List UInt8) : Nat → Nat → List (Nat × Nat)
  | 0, _ => []
  | k + 1, p => match dec (l.drop p) with
    | some (c, n) => (p, c) :: runesF l k (p + n)
    | none => []
/-- Places and code points, from a place on. -/
def runesAt (l : List UInt8) (p : Nat) : List (Nat × Nat) := runesF l (l.length - p) p

theorem runesF_enough (l : List UInt8) : ∀ k p, l.length - p ≤ k → runesF l k p = runesF l (l.length - p) p := by
  intro k
  induction k using Nat.strongRecOn with
  | _ k ih =>
    intro p hk
    cases hd : dec (l.drop p) with
    | none =>
      have e : ∀ j, runesF l j p = [] := by
        intro j
        cases j with
        | zero => rfl
        | succ j => simp [runesF, hd]
      rw [e, e]
    | some x =>
      obtain ⟨c, n⟩ := x
      have hl := dec_len hd
      rw [List.length_drop] at hl
      obtain ⟨j, hj⟩ : ∃ j, l.length - p = j + 1 := ⟨l.length - p - 1, by omega⟩
      obtain ⟨i, hi⟩ : ∃ i, k = i + 1 := ⟨k - 1, by omega⟩
      rw [hj, hi]
      simp only [runesF, hd]
      rw [ih i (by omega) (p + n) (by omega)]
      by_cases hji : j < k
      · rw [ih j hji (p + n) (by omega)]
      · omega

theorem runesAt_some {l : List UInt8} {p c n : Nat} (h : dec (l.drop p) = some (c, n)) : runesAt l p = (p, c) :: runesAt l (p + n) := by
  have hl := dec_len h
  rw [List.length_drop] at hl
  obtain ⟨j, hj⟩ : ∃ j, l.length - p = j + 1 := ⟨l.length - p - 1, by omega⟩
  have e : runesAt l p = (p, c) :: runesF l j (p + n) := by
    unfold runesAt
    rw [hj]
    simp [runesF, h]
  rw [e, runesF_enough l j _ (by omega)]
  rfl
theorem runesAt_none {l : List UInt8} {p : Nat} (h : dec (l.drop p) = none) : runesAt l p = [] := by
  unfold runesAt
  cases l.length - p with
  | zero => rfl
  | succ j => simp [runesF, h]
theorem dec_nil : dec [] = none := rfl
theorem runesAt_end {l : List UInt8} {p : Nat} (h : l.length ≤ p) : runesAt l p = [] := runesAt_none (by rw [List.drop_of_length_le h]; rfl)

/-- Where the last one ends. -/
def endOf (p : Nat) (rs : List (Nat × Nat)) : Nat := rs.foldl (fun _ x => x.1 + encLen x.2) p
theorem endOf_snoc (p : Nat) (rs : List (Nat × Nat)) (x : Nat × Nat) : endOf p (rs ++ [x]) = x.1 + encLen x.2 := by simp [endOf]
theorem endOf_cons (p : Nat) (rs : List (Nat × Nat)) (x : Nat × Nat) : endOf p (x :: rs) = endOf (x.1 + encLen x.2) rs := rfl

/-- All the code points of a text, and where they end. -/
def runesB (s : ByteArray) : List (Nat × Nat) := runesAt s.data.toList 0
def goodEnd (s : ByteArray) : Nat := endOf 0 (runesB s)
def whole (s : ByteArray) : Bool := decide (goodEnd s = s.size)
def badB (s : ByteArray) : Int := if whole s then -1 else (goodEnd s : Nat)

theorem endOf_le (l : List UInt8) : ∀ k p, l.length - p ≤ k → p ≤ l.length → endOf p (runesAt l p) ≤ l.length := by
  intro k
  induction k with
  | zero => intro p hk hp; rw [runesAt_end (by omega)]; exact hp
  | succ k ih =>
    intro p hk hp
    cases hd : dec (l.drop p) with
    | none => rw [runesAt_none hd]; exact hp
    | some x =>
      obtain ⟨c, n⟩ := x
      have hl := dec_len hd
      rw [List.length_drop] at hl
      obtain ⟨_, rfl, _⟩ := dec_some hd
      rw [runesAt_some hd, endOf_cons]
      dsimp only
      exact ih _ (by omega) (by omega)
theorem goodEnd_le (s : ByteArray) : goodEnd s ≤ s.size := by
  have := endOf_le s.data.toList _ 0 (Nat.le_refl _) (Nat.zero_le _)
  simpa [goodEnd, runesB] using this

theorem runesAt_length (l : List UInt8) : ∀ k p, l.length - p ≤ k → (runesAt l p).length ≤ l.length - p := by
  intro k
  induction k with
  | zero => intro p hk; rw [runesAt_end (by omega)]; simp
  | succ k ih =>
    intro p hk
    cases hd : dec (l.drop p) with
    | none => rw [runesAt_none hd]; simp
    | some x =>
      obtain ⟨c, n⟩ := x
      have hl := dec_len hd
      rw [List.length_drop] at hl
      have h2 := ih (p + n) (by omega)
      rw [runesAt_some hd, List.length_cons]
      omega
theorem runesB_length (s : ByteArray) : (runesB s).length ≤ s.size := by
  have := runesAt_length s.data.toList _ 0 (Nat.le_refl _)
  simpa [runesB] using this

/-- Each one is a code point at a place of the text, written there. -/
theorem runesAt_mem (l : List UInt8) : ∀ k p, l.length - p ≤ k → ∀ x ∈ runesAt l p, Utf8.valid x.2 = true ∧ x.1 + encLen x.2 ≤ l.length ∧ p ≤ x.1 ∧ dec (l.drop x.1) = some (x.2, encLen x.2) := by
  intro k
  induction k with
  | zero => intro p hk x hx; rw [runesAt_end (by omega)] at hx; cases hx
  | succ k ih =>
    intro p hk x hx
    cases hd : dec (l.drop p) with
    | none => rw [runesAt_none hd] at hx; cases hx
    | some y =>
      obtain ⟨c, n⟩ := y
      have hl := dec_len hd
      rw [List.length_drop] at hl
      obtain ⟨hv, rfl, _⟩ := dec_some hd
      rw [runesAt_some hd] at hx
      rcases List.mem_cons.1 hx with rfl | hx
      · exact ⟨hv, by dsimp only; omega, Nat.le_refl _, hd⟩
      · obtain ⟨h1, h2, h3, h4⟩ := ih _ (by omega) x hx
        exact ⟨h1, h2, by omega, h4⟩
theorem runesB_mem {s : ByteArray} {x : Nat × Nat} (h : x ∈ runesB s) : Utf8.valid x.2 = true ∧ x.1 + encLen x.2 ≤ s.size ∧ dec (s.data.toList.drop x.1) = some (x.2, encLen x.2) := by
  obtain ⟨h1, h2, _, h4⟩ := runesAt_mem s.data.toList _ 0 (Nat.le_refl _) x h
  exact ⟨h1, by simpa using h2, h4⟩
end Go.Proofs.YtcecibopanfmgaaGreatDoor

namespace Go.Proofs.YtcecibopanfmgaaGreatDoor
open Go.RowKit
set_option linter.unusedVariables false

/-- A rule. -/
structure FR where
  kind : Int
  least : Int
  most : Int
  texts : List ByteArray

/-- Its numbers are whole ones of 64 bits. -/
structure FR.ok (r : FR) : Prop where
  k0 : -9223372036854775808 ≤ r.kind
  k1 : r.kind ≤ 9223372036854775807
  l0 : -9223372036854775808 ≤ r.least
  l1 : r.least ≤ 9223372036854775807
  m0 : -9223372036854775808 ≤ r.most
  m1 : r.most ≤ 9223372036854775807

def FR.known (r : FR) : Bool := decide (1 ≤ r.kind ∧ r.kind ≤ 8)
def spansK (k : Int) : Bool := decide (k = 1 ∨ k = 2 ∨ k = 8)
/-- Its numbers are out of range. -/
def FR.off (r : FR) : Bool := decide (r.least < 0 ∨ (spansK r.kind = true ∧ r.most < r.least) ∨ 4096 < r.least ∨ 4096 < r.most)
def FR.check (r : FR) : Int := if r.known = false then 11 else if r.off = true then 7 else if r.kind = 4 ∧ r.texts = [] then 16 else 0
def FR.within (r : FR) (n : Nat) : Bool := decide (r.least ≤ n) && decide ((n : Int) ≤ r.most)

/-- All bytes are digits, of which there may be none. -/
def figB (s : ByteArray) : Bool := decide (s.size = 0) || isD s
/-- A code point that is none of the controls. -/
def okP (c : Nat) : Bool := decide (32 ≤ c) && decide (c ≠ 127)
def plainB (s : ByteArray) : Bool := (runesB s).all (fun x => okP x.2) && whole s
/-- No nought ahead of others. -/
def leadB (s : ByteArray) : Bool := decide (s.size < 2) || decide (s.data.toList.getD 0 0 ≠ 48)

theorem FR.check_known {r : FR} (h : r.check = 0) : 1 ≤ r.kind ∧ r.kind ≤ 8 := by
  unfold FR.check at h
  split at h
  · cases h
  · rename_i hk
    cases hb : r.known with
    | false => exact absurd hb hk
    | true => exact of_decide_eq_true hb
theorem FR.check_on {r : FR} (h : r.check = 0) : 0 ≤ r.least ∧ (spansK r.kind = true → r.least ≤ r.most) ∧ r.least ≤ 4096 ∧ r.most ≤ 4096 := by
  unfold FR.check at h
  split at h
  · cases h
  · split at h
    · cases h
    · rename_i ho
      cases hb : r.off with
      | true => exact absurd hb ho
      | false =>
        have := of_decide_eq_false hb
        refine ⟨by omega, fun hs => ?_, by omega, by omega⟩
        apply Classical.byContradiction
        intro hn
        exact this (.inr (.inl ⟨hs, by omega⟩))
theorem FR.check_texts {r : FR} (h : r.check = 0) (hk : r.kind = 4) : r.texts ≠ [] := by
  intro ht
  unfold FR.check at h
  split at h
  · cases h
  · split at h
    · cases h
    · rw [if_pos ⟨hk, ht⟩] at h
      cases h
end Go.Proofs.YtcecibopanfmgaaGreatDoor

namespace Go.Proofs.YtcecibopanfmgaaGreatDoor
open Go.RowKit
set_option linter.unusedVariables false

theorem known_any (k : Int) (w : World) : Calls Tryz.prog 39 #[.int .i64 k] w fun e w' => e = .returned (.bool (decide (1 ≤ k ∧ k ≤ 8))) ∧ w = w' := by
  by_cases h1 : 1 ≤ k
  · by_cases h8 : k ≤ 8
    · rw [decide_eq_true (⟨h1, h8⟩ : 1 ≤ k ∧ k ≤ 8)]
      go_enter Tryz.func39, Tryz.ntmps39
      go_wp2
      go_ret
      exact ⟨rfl, rfl⟩
    · rw [decide_eq_false (fun h : 1 ≤ k ∧ k ≤ 8 => h8 h.2)]
      go_enter Tryz.func39, Tryz.ntmps39
      go_wp2
      go_ret
      exact ⟨rfl, rfl⟩
  · rw [decide_eq_false (fun h : 1 ≤ k ∧ k ≤ 8 => h1 h.1)]
    go_enter Tryz.func39, Tryz.ntmps39
    go_wp2
    go_ret
    exact ⟨rfl, rfl⟩

/-- A rule in a box of its own: what it reads as behind a call that makes memory. -/
theorem rule_after {T : TypeId} {k a b : Int} {v : Value} {w w1 : World} (hb : Below (w.alloc (.cells #[.int .i64 k, .int .i64 a, .int .i64 b, v] T)).heap.size (w.alloc (.cells #[.int .i64 k, .int .i64 a, .int .i64 b, v] T)) w1) :
    Row w1 w.heap.size T [.int .i64 k, .int .i64 a, .int .i64 b, v] ∧ Below w.heap.size w w1 :=
  ⟨(Row.new w T [.int .i64 k, .int .i64 a, .int .i64 b, v]).below hb (by simp), ((Below.refl w.heap.size w).alloc (Nat.le_refl _) _).trans (hb.mono (by simp))⟩
theorem rule_cells {T : TypeId} {k a b : Int} {v : Value} {w : World} {g : Nat} (h : Row w g T [.int .i64 k, .int .i64 a, .int .i64 b, v]) :
    w.cell? ⟨g, 0, none⟩ = some (.int .i64 k) ∧ w.cell? ⟨g, 1, none⟩ = some (.int .i64 a) ∧ w.cell? ⟨g, 2, none⟩ = some (.int .i64 b) ∧ w.cell? ⟨g, 3, none⟩ = some v :=
  ⟨h.cell 0, h.cell 1, h.cell 2, h.cell 3⟩

theorem spans_any (k a b : Int) (v : Value) (w : World) : Calls Tryz.prog 40 #[.agg #[.int .i64 k, .int .i64 a, .int .i64 b, v]] w fun e w' => e = .returned (.bool (spansK k)) ∧ Below w.heap.size w w' := by
  unfold spansK
  by_cases h1 : k = 1
  · rw [decide_eq_true (.inl h1 : k = 1 ∨ k = 2 ∨ k = 8)]
    subst h1
    go_enter Tryz.func40, Tryz.ntmps40
    go_wp2
    go_ret
    exact ⟨rfl, (Below.refl _ _).alloc (Nat.le_refl _) _⟩
  · by_cases h2 : k = 2
    · rw [decide_eq_true (.inr (.inl h2) : k = 1 ∨ k = 2 ∨ k = 8)]
      subst h2
      go_enter Tryz.func40, Tryz.ntmps40
      go_wp2
      go_ret
      exact ⟨rfl, (Below.refl _ _).alloc (Nat.le_refl _) _⟩
    · by_cases h8 : k = 8
      · rw [decide_eq_true (.inr (.inr h8) : k = 1 ∨ k = 2 ∨ k = 8)]
        subst h8
        go_enter Tryz.func40, Tryz.ntmps40
        go_wp2
        go_ret
        exact ⟨rfl, (Below.refl _ _).alloc (Nat.le_refl _) _⟩
      · rw [decide_eq_false (by omega : ¬ (k = 1 ∨ k = 2 ∨ k = 8))]
        have e1 : (k == 1) = false := by simp; exact h1
        have e2 : (k == 2) = false := by simp; exact h2
        have e8 : (k == 8) = false := by simp; exact h8
        clear h1 h2 h8
        go_enter Tryz.func40, Tryz.ntmps40
        go_wp2
        go_ret
        exact ⟨rfl, (Below.refl _ _).alloc (Nat.le_refl _) _⟩

theorem within_any (k a b : Int) (v : Value) (n : Nat) (w : World) : Calls Tryz.prog 22 #[.agg #[.int .i64 k, .int .i64 a, .int .i64 b, v], .int .i64 n] w fun e w' => e = .returned (.bool (decide (a ≤ n) && decide ((n : Int) ≤ b))) ∧ Below w.heap.size w w' := by
  by_cases h1 : a ≤ (n : Int)
  · by_cases h2 : (n : Int) ≤ b
    · rw [decide_eq_true h1, decide_eq_true h2]
      go_enter Tryz.func22, Tryz.ntmps22
      go_wp2
      go_ret
      exact ⟨rfl, (Below.refl _ _).alloc (Nat.le_refl _) _⟩
    · rw [decide_eq_true h1, decide_eq_false h2]
      go_enter Tryz.func22, Tryz.ntmps22
      go_wp2
      go_ret
      exact ⟨rfl, (Below.refl _ _).alloc (Nat.le_refl _) _⟩
  · rw [decide_eq_false h1]
    go_enter Tryz.func22, Tryz.ntmps22
    go_wp2
    go_ret
    exact ⟨rfl, (Below.refl _ _).alloc (Nat.le_refl _) _⟩

theorem figures_any (s : ByteArray) (w : World) (hs : s.size ≤ 1000000) : Calls Tryz.prog 23 #[.string s] w fun e w' => e = .returned (.bool (figB s)) ∧ w = w' := by
  have he := toList_empty s
  unfold figB
  by_cases h0 : 0 < s.size
  · rw [decide_eq_true h0] at he
    rw [decide_eq_false (by omega : ¬ s.size = 0)]
    go_enter Tryz.func23, Tryz.ntmps23
    go_wp2_with (go_at_call 49; refine (Is_any s _ hs).mono ?_; rintro e w' ⟨rfl, rfl⟩)
    go_ret
    exact ⟨ret_boolE rfl, rfl⟩
  · rw [decide_eq_false h0] at he
    rw [decide_eq_true (by omega : s.size = 0)]
    go_enter Tryz.func23, Tryz.ntmps23
    go_wp2
    go_ret
    exact ⟨rfl, rfl⟩
end Go.Proofs.YtcecibopanfmgaaGreatDoor

namespace Go.Proofs.YtcecibopanfmgaaGreatDoor
open Go.RowKit
set_option linter.unusedVariables false

/-- v is a slice that holds the texts l. -/
def Strs (w : World) (v : Value) (l : List ByteArray) : Prop :=
  ∃ a0 cap b off, v = .slice a0 l.length cap ∧ (0 < l.length → a0 = some ⟨b, off, none⟩ ∧ b < w.heap.size) ∧ ∀ j, j < l.length → w.cell? ⟨b, off + j, none⟩ = some (.string (l.getD j ByteArray.empty))

theorem Strs.below {B : Nat} {w w' : World} {v : Value} {l : List ByteArray} (h : Strs w v l) (hB : w.heap.size ≤ B) (hb : Below B w w') : Strs w' v l := by
  obtain ⟨a0, cap, b, off, h1, h2, h3⟩ := h
  refine ⟨a0, cap, b, off, h1, fun h0 => ⟨(h2 h0).1, Nat.lt_of_lt_of_le (h2 h0).2 ?_⟩, fun j hj => ?_⟩
  · exact hb.size
  · have h4 := (h2 (by omega)).2
    exact (hb.cell (p := ⟨b, off + j, none⟩) (by show b < B; omega)).trans (h3 j hj)

theorem Strs.own {w : World} {v : Value} {l : List ByteArray} {B k : Nat} (h : w.ownsRow B 9 1 v k (l.map Value.string)) (hk : k = l.length) : Strs w v l := by
  subst hk
  rcases h.2 with ⟨h0, h1⟩ | ⟨g, cap, cur, hv, hg, _, hn, hcap, _, _⟩
  · subst h0
    exact ⟨none, 0, 0, 0, by rw [h1], fun h => by omega, fun j hj => by omega⟩
  · subst hv
    refine ⟨some ⟨g, 0, none⟩, cap, g, 0, rfl, fun _ => ⟨rfl, (h.lt g rfl).2⟩, fun j hj => ?_⟩
    rw [Nat.zero_add, h.cellAt j (by omega)]
    simp [List.getD, List.getElem?_eq_getElem hj]

theorem str_ne {x y : ByteArray} (h : x ≠ y) : (x.toList == y.toList) = false := by
  rw [beq_eq_false_iff_ne]
  intro e
  rw [ByteArray.toList_eq, ByteArray.toList_eq] at e
  exact h (ByteArray.ext (Array.toList_inj.mp e))

end Go.Proofs.YtcecibopanfmgaaGreatDoor

namespace Go.Proofs.YtcecibopanfmgaaGreatDoor
open Go Go.Shelf Go.RowKit
def Tryz.lays110_ren : Go.Shelf.Ren := ⟨fun | 110 => 28 | 109 => 55 | n => n, fun | 31 => 22 | 9 => 9 | 4 => 4 | 3 => 3 | 0 => 0 | n => n, fun | n => n⟩
theorem Tryz.lays110 : Go.Proofs.Lays.n110 Tryz.prog Tryz.lays110_ren := {
  mixed := by kernel_rfl
  f109 := Tryz.func55.trans (congrArg some (by kernel_rfl))
  f110 := Tryz.func28.trans (congrArg some (by kernel_rfl))
  t0 := Tryz.underlying0
  a0 := Tryz.isAgg0
  z0 := Tryz.sizeOf0
  v0 := Tryz.zeroValue0
  t3 := Tryz.underlying3
  a3 := Tryz.isAgg3
  z3 := Tryz.sizeOf3
  v3 := Tryz.zeroValue3
  t4 := Tryz.underlying4
  a4 := Tryz.isAgg4
  z4 := Tryz.sizeOf4
  v4 := Tryz.zeroValue4
  t9 := Tryz.underlying9
  a9 := Tryz.isAgg9
  z9 := Tryz.sizeOf9
  v9 := Tryz.zeroValue9
  t31 := Tryz.underlying22
  a31 := Tryz.isAgg22
  z31 := Tryz.sizeOf22
  v31 := Tryz.zeroValue22 }
open Go.Lib in
theorem Tryz.slices_Contains_string (b off n c : Nat) (zs : List ByteArray) (x : ByteArray) (w : World) (hz : n ≤ zs.length) (hbig : n ≤ 9223372036854775807) (hc : ∀ j, j < zs.length → w.cell? ⟨b, off + j, none⟩ = some (.string (zs.getD j ByteArray.empty))) :
    Calls Tryz.prog 28 #[.slice (some ⟨b, off, none⟩) n c, .string x] w fun e w' => e = .returned (.bool (Lib.containsS (zs.take n) x)) ∧ w' = w := Any.slices_Contains_string Tryz.lays110 b off n c zs x w hz hbig hc
open Go.Lib in
theorem Tryz.slices_Contains_string_empty (a : Option Addr) (c : Nat) (x : ByteArray) (w : World) :
    Calls Tryz.prog 28 #[.slice a 0 c, .string x] w fun e w' => e = .returned (.bool false) ∧ w' = w := Any.slices_Contains_string_empty Tryz.lays110 a c x w
def Tryz.laysNm216_ren : Go.Shelf.Ren := ⟨fun | 16 => 21 | n => n, fun | 24 => 22 | 9 => 9 | 4 => 4 | n => n, fun | n => n⟩
theorem Tryz.laysNm216 : Go.Proofs.Lays2.n16 Tryz.prog Tryz.laysNm216_ren := {
  mixed := by kernel_rfl
  f16 := Tryz.func21.trans (congrArg some (by kernel_rfl))
  t4 := Tryz.underlying4
  a4 := Tryz.isAgg4
  z4 := Tryz.sizeOf4
  v4 := Tryz.zeroValue4
  t9 := Tryz.underlying9
  a9 := Tryz.isAgg9
  z9 := Tryz.sizeOf9
  v9 := Tryz.zeroValue9
  t24 := Tryz.underlying22
  a24 := Tryz.isAgg22
  z24 := Tryz.sizeOf22
  v24 := Tryz.zeroValue22
  i9 := by kernel_rfl }
open Go.RowKit Go.Lib in
theorem Tryz.slices_Clone_string (b off n c : Nat) (zs : List ByteArray) (w : World) (hz : n ≤ zs.length) (hbig : n * 16 ≤ 140737488355328) (hc : ∀ j, j < zs.length → w.cell? ⟨b, off + j, none⟩ = some (.string (zs.getD j ByteArray.empty))) :
    Calls Tryz.prog 21 #[.slice (some ⟨b, off, none⟩) n c] w fun e w' => ∃ v', e = .returned v' ∧ w'.ownsRow w.heap.size 9 1 v' n ((zs.take n).map (Value.string)) ∧ v' ≠ .slice none 0 0 ∧ Below w.heap.size w w' := Any.slices_Clone_string Tryz.laysNm216 b off n c zs w hz hbig hc
open Go.RowKit Go.Lib in
theorem Tryz.slices_Clone_string_nil (n c : Nat) (w : World) :
    Calls Tryz.prog 21 #[.slice none n c] w fun e w' => e = .returned (.slice none 0 0) ∧ w' = w := Any.slices_Clone_string_nil Tryz.laysNm216 n c w
open Go.RowKit Go.Lib in
theorem Tryz.slices_Clone_string_zero (a : Addr) (c : Nat) (w : World) :
    Calls Tryz.prog 21 #[.slice (some a) 0 c] w fun e w' => ∃ v', e = .returned v' ∧ w'.ownsRow w.heap.size 9 1 v' 0 [] ∧ v' ≠ .slice none 0 0 ∧ Below w.heap.size w w' := Any.slices_Clone_string_zero Tryz.laysNm216 a c w
end Go.Proofs.YtcecibopanfmgaaGreatDoor

namespace Go.Proofs.YtcecibopanfmgaaGreatDoor
open Go.RowKit
set_option linter.unusedVariables false

theorem strs_row {w : World} {v : Value} {l : List ByteArray} {B k g : Nat} (h : w.ownsRow B 9 1 v k (l.map Value.string)) (hk : k = l.length) (hg : g < B) (cs : Array Value) : Strs (w.setRow g cs) v l := by
  subst hk
  rcases h.2 with ⟨h0, h1⟩ | ⟨g', cap, cur, hv, hgB, _, hn, hcap, _, _⟩
  · subst h0
    exact ⟨none, 0, 0, 0, by rw [h1], fun h => by omega, fun j hj => by omega⟩
  · subst hv
    have hl := h.lt g' rfl
    refine ⟨some ⟨g', 0, none⟩, cap, g', 0, rfl, fun _ => ⟨rfl, by simp; exact hl.2⟩, fun j hj => ?_⟩
    rw [Nat.zero_add]
    refine (World.cell?_of_block (setRow_other w g g' cs (by omega))).trans ?_
    rw [h.cellAt j (by omega)]
    simp [List.getD, List.getElem?_eq_getElem hj]

def OfPost (k a b : Int) (l : List ByteArray) (w : World) (e : Ending) (w' : World) : Prop := ∃ v', e = .returned (.agg #[.int .i64 k, .int .i64 a, .int .i64 b, v']) ∧ Strs w' v' l ∧ Below w.heap.size w w'
theorem rule_info : (Tryz.prog.info? 24).map (·.size) = some 4 := by kernel_rfl

set_option maxRecDepth 20000 in
set_option maxHeartbeats 1000000 in
theorem Of_any (k a b : Int) (v : Value) (l : List ByteArray) (w : World) (hv : Strs w v l) (hl : l.length ≤ 1000000) :
    Calls Tryz.prog 9 #[.int .i64 k, .int .i64 a, .int .i64 b, v] w (OfPost k a b l w) := by
  have HCL : Hid (∀ W : World, Below w.heap.size w W → Calls Tryz.prog 21 #[v] W fun e w' => ∃ v', e = .returned v' ∧ w'.ownsRow W.heap.size 9 1 v' l.length (l.map Value.string) ∧ Below W.heap.size W w') := Lib.hid fun W hW => by
    obtain ⟨a0, cap, g, off, rfl, hp, hc⟩ := hv
    by_cases h0 : l.length = 0
    · have hl0 : l = [] := List.eq_nil_of_length_eq_zero h0
      subst hl0
      cases a0 with
      | none =>
        refine (Tryz.slices_Clone_string_nil _ cap W).mono ?_
        rintro e w' ⟨rfl, rfl⟩
        exact ⟨_, rfl, World.ownsRow_nil _ _ _ _, Below.refl _ _⟩
      | some ad =>
        refine (Tryz.slices_Clone_string_zero ad cap W).mono ?_
        rintro e w' ⟨v', rfl, ho, _, hb⟩
        exact ⟨_, rfl, ho, hb⟩
    · obtain ⟨rfl, hg⟩ := hp (by omega)
      refine (Tryz.slices_Clone_string g off l.length cap l W (Nat.le_refl _) (by omega) (fun j hj => (hW.cell (p := ⟨g, off + j, none⟩) hg).trans (hc j hj))).mono ?_
      rintro e w' ⟨v', rfl, ho, _, hb⟩
      rw [List.take_length] at ho
      exact ⟨_, rfl, ho, hb⟩
  have hr : Row (w.alloc (.cells #[.int .i64 0, .int .i64 0, .int .i64 0, .slice none 0 0] 24)) w.heap.size 24 [.int .i64 0, .int .i64 0, .int .i64 0, .slice none 0 0] := Row.new w _ _
  have hb : Below w.heap.size w (w.alloc (.cells #[.int .i64 0, .int .i64 0, .int .i64 0, .slice none 0 0] 24)) := (Below.refl w.heap.size w).alloc (Nat.le_refl _) _
  have H := Lib.hid (And.intro hr hb)
  clear hr hb hv
  go_enter Tryz.func9, Tryz.ntmps9
  go_wp2_with fail
  refine (HCL.out _ H.out.2).mono ?_
  rintro e w1 ⟨v', rfl, ho, hb1⟩
  obtain ⟨p, c, rfl⟩ := own_form ho
  have hr1 := H.out.1.below hb1 (by simp)
  have hB1 := H.out.2.trans (hb1.mono (by simp))
  have hS1 := strs_row ho rfl (by simp : w.heap.size < (w.alloc (.cells #[.int .i64 0, .int .i64 0, .int .i64 0, .slice none 0 0] 24)).heap.size) #[.int .i64 k, .int .i64 a, .int .i64 b, .slice p l.length c]
  have HE := Lib.hid (And.intro hr1 (And.intro hB1 hS1))
  clear ho hb1 hr1 hB1 hS1 H
  go_wp2_with (refine wpList_store_row rfl 24 (.tmp 8) (.tmp 14) rfl w.heap.size #[.int .i64 k, .int .i64 a, .int .i64 b, .slice p l.length c] rfl rfl 24 #[.int .i64 0, .int .i64 0, .int .i64 0, .slice none 0 0] HE.out.1 rule_info rfl (by simp [Value.oneCell']) ?_)
  have hq := HE.out.1.put [.int .i64 k, .int .i64 a, .int .i64 b, .slice p l.length c]
  have hbq := below_setRow (B := w.heap.size) HE.out.2.1 (Nat.le_refl _) #[.int .i64 k, .int .i64 a, .int .i64 b, .slice p l.length c]
  refine bodyPost_ret (v := .agg #[.int .i64 k, .int .i64 a, .int .i64 b, .slice p l.length c]) (results_cell_row rfl _ _ w.heap.size 24 #[.int .i64 k, .int .i64 a, .int .i64 b, .slice p l.length c] (0, 0) _ rfl hq Tryz.underlying24 rfl rule_info) rfl ?_
  exact ⟨_, rfl, HE.out.2.2, hbq⟩
end Go.Proofs.YtcecibopanfmgaaGreatDoor

namespace Go.Proofs.YtcecibopanfmgaaGreatDoor
open Go.RowKit
set_option linter.unusedVariables false

/-- What Put writes. -/
def putB (r : Int) : ByteArray := if Utf8.valid r then ⟨(enc r.toNat).toArray⟩ else ⟨#[]⟩

theorem ret_int_u {k : IntKind} {a b : Int} (h : a = b) : Ending.returned (.int k a) = .returned (.int k b) := by rw [h]
theorem ret_boolE_u {a b : Bool} (h : a = b) : Ending.returned (.bool a) = .returned (.bool b) := by rw [h]
theorem ret_str_u {a b : ByteArray} (h : a = b) : Ending.returned (.string a) = .returned (.string b) := by rw [h]

theorem putB_not {r : Int} (h : Utf8.valid r = false) : putB r = ⟨#[]⟩ := by unfold putB; rw [h]; rfl
theorem putB_valid {r : Int} (h : Utf8.valid r = true) : putB r = Utf8.encode r := by
  have h0 : 0 ≤ r := by have := (valid_iff r).1 h; omega
  obtain ⟨c, rfl⟩ : ∃ c : Nat, r = c := ⟨r.toNat, by omega⟩
  unfold putB
  rw [if_pos h, encode_eq c h]
  rfl
theorem putB_nat {c : Nat} (h : Utf8.valid c = true) : putB c = ⟨(enc c).toArray⟩ := by unfold putB; rw [if_pos h]; rfl
theorem putB_size {c : Nat} (h : Utf8.valid c = true) : (putB c).size = encLen c := by
  rw [putB_nat h, ← enc_length]
  show (enc c).toArray.size = _
  simp

theorem eL1 {r : Int} (g : 0 ≤ r) (h : r ≤ 127) : encLen r.toNat = 1 := by unfold encLen; rw [if_pos (by omega)]
theorem eL2 {r : Int} (g : 127 < r) (h : r ≤ 2047) : encLen r.toNat = 2 := by unfold encLen; rw [if_neg (by omega), if_pos (by omega)]
theorem eL3 {r : Int} (g : 2047 < r) (h : r ≤ 65535) : encLen r.toNat = 3 := by unfold encLen; rw [if_neg (by omega), if_neg (by omega), if_pos (by omega)]
theorem eL4 {r : Int} (g : 65535 < r) : encLen r.toNat = 4 := by unfold encLen; rw [if_neg (by omega), if_neg (by omega), if_neg (by omega)]

set_option maxHeartbeats 400000 in
set_option maxRecDepth 20000 in
theorem RuneLen_int (r : Int) (w : World) (hv : Utf8.valid r = true) :
    Calls Tryz.prog 92 #[.int .i32 r] w fun e w' => e = .returned (.int .i64 (encLen r.toNat : Nat)) ∧ w = w' := by
  have H := Lib.hid ((valid_iff r).1 hv)
  have h0 : 0 ≤ r := by have := H.out; omega
  clear hv
  go_enter Tryz.func92, Tryz.ntmps92
  go_wp2
  all_goals have H' := H.out
  all_goals first
    | (exfalso; omega)
    | (go_ret; exact ⟨ret_int_u (by rw [eL1 (by omega) (by omega)]; rfl), rfl⟩)
    | (go_ret; exact ⟨ret_int_u (by rw [eL2 (by omega) (by omega)]; rfl), rfl⟩)
    | (go_ret; exact ⟨ret_int_u (by rw [eL3 (by omega) (by omega)]; rfl), rfl⟩)
    | (go_ret; exact ⟨ret_int_u (by rw [eL4 (by omega)]; rfl), rfl⟩)

set_option maxRecDepth 20000 in
theorem RuneLen_any (c : Nat) (w : World) (hv : Utf8.valid c = true) :
    Calls Tryz.prog 92 #[.int .i32 (c : Nat)] w fun e w' => e = .returned (.int .i64 (encLen c : Nat)) ∧ w = w' := by
  have h := RuneLen_int c w hv
  rw [Int.toNat_natCast] at h
  exact h

theorem v_yes {r : Int} (h : (0 ≤ r ∧ r < 55296) ∨ (57344 ≤ r ∧ r ≤ 1114111)) : Utf8.valid r = true := (valid_iff r).2 h
theorem v_no {r : Int} (h : ¬ ((0 ≤ r ∧ r < 55296) ∨ (57344 ≤ r ∧ r ≤ 1114111))) : Utf8.valid r = false := by
  cases hb : Utf8.valid r with
  | false => rfl
  | true => exact absurd ((valid_iff r).1 hb) h

set_option maxHeartbeats 400000 in
set_option maxRecDepth 20000 in
theorem ValidRune_any (r : Int) (w : World) :
    Calls Tryz.prog 89 #[.int .i32 r] w fun e w' => e = .returned (.bool (Utf8.valid r)) ∧ w = w' := by
  go_enter Tryz.func89, Tryz.ntmps89
  go_wp2
  all_goals go_ret
  all_goals first
    | exact ⟨ret_boolE_u (v_yes (by omega)).symm, rfl⟩
    | exact ⟨ret_boolE_u (v_no (by omega)).symm, rfl⟩

set_option maxHeartbeats 400000 in
set_option maxRecDepth 20000 in
theorem Put_any_u (r : Int) (w : World) :
    Calls Tryz.prog 72 #[.int .i32 r] w fun e w' => e = .returned (.string (putB r)) ∧ w = w' := by
  cases hv : Utf8.valid r with
  | true =>
    rw [putB_valid hv]
    have hn : (!Utf8.valid r) = false := by rw [hv]; rfl
    go_enter Tryz.func72, Tryz.ntmps72
    go_wp2_with (go_at_call 89; refine (ValidRune_any _ _).mono ?_; rintro e w' ⟨rfl, rfl⟩)
    go_ret
    exact ⟨rfl, rfl⟩
  | false =>
    rw [putB_not hv]
    have hn : (!Utf8.valid r) = true := by rw [hv]; rfl
    go_enter Tryz.func72, Tryz.ntmps72
    go_wp2_with (go_at_call 89; refine (ValidRune_any _ _).mono ?_; rintro e w' ⟨rfl, rfl⟩)
    go_ret
    exact ⟨rfl, rfl⟩

/-- The kind of half: 1 a high one, 2 a low one. -/
def surr (n : Int) : Int := if n < 55296 then 0 else if n < 56320 then 1 else if n < 57344 then 2 else 0
theorem surr_0 {n : Int} (h : n < 55296 ∨ 57343 < n) : surr n = 0 := by unfold surr; split; rfl; rw [if_neg (by omega), if_neg (by omega)]
theorem surr_1 {n : Int} (h : 55296 ≤ n) (g : n < 56320) : surr n = 1 := by unfold surr; rw [if_neg (by omega), if_pos (by omega)]
theorem surr_2 {n : Int} (h : 56320 ≤ n) (g : n ≤ 57343) : surr n = 2 := by unfold surr; rw [if_neg (by omega), if_neg (by omega), if_pos (by omega)]

theorem v_or {r : Int} (h0 : 0 ≤ r) (h1 : r ≤ 1114111) : (decide (r < 55296) || decide (57343 < r)) = Utf8.valid r := by
  by_cases h2 : r < 55296
  · rw [decide_eq_true h2, v_yes (by omega)]; rfl
  · by_cases h3 : 57343 < r
    · rw [decide_eq_true h3, v_yes (by omega), Bool.or_true]
    · rw [decide_eq_false h2, decide_eq_false h3, v_no (by omega)]; rfl

set_option maxHeartbeats 400000 in
set_option maxRecDepth 20000 in
theorem Point_any (r : Int) (w : World) :
    Calls Tryz.prog 82 #[.int .i64 r] w fun e w' => e = .returned (.bool (Utf8.valid r)) ∧ w = w' := by
  go_enter Tryz.func82, Tryz.ntmps82
  go_wp2
  all_goals go_ret
  all_goals first
    | exact ⟨ret_boolE_u (v_yes (by omega)).symm, rfl⟩
    | exact ⟨ret_boolE_u (v_or (by omega) (by omega)), rfl⟩
    | exact ⟨ret_boolE_u (v_no (by omega)).symm, rfl⟩

/-- The text of a literal of bytes. -/
theorem conv_lit (w : World) (vs : List Int) (l : List UInt8) (n : Nat) (hn : l.length = n) (h : vs = l.map (fun c => (c.toNat : Int))) :
    (convert 76 9 (.slice (some ⟨w.heap.size, 0, none⟩) n n)).run Tryz.prog (w.alloc (.cells (vs.map (Value.int .u8)).toArray 5)) = .ok (.string ⟨l.toArray⟩) (w.alloc (.cells (vs.map (Value.int .u8)).toArray 5)) := by
  refine conv_bytes _ 76 9 5 Tryz.underlying76 Tryz.underlying5 Tryz.underlying9 w.heap.size 0 n n l hn (fun i hi => ?_)
  have hr := (Row.new w 5 (vs.map (Value.int .u8))).cell i
  rw [Nat.zero_add, hr, h, List.map_map]
  rfl

theorem tn_i {r : Int} (n : Nat) (h : r = n ∧ n < 256) : r = ((UInt8.ofNat n).toNat : Int) := by rw [tn n h.2]; exact h.1

theorem ce {a b : Int} {l m : List Int} (h : a = b) (k : l = m) : a :: l = b :: m := by rw [h, k]

theorem refPut_c (r : Int) (n : Nat) (vs : List Int) (h : vs = (enc r.toNat).map (fun c => (c.toNat : Int))) (hn : (enc r.toNat).length = n) (hv : Utf8.valid r = true) (w : World) :
    (convert 76 9 (.slice (some ⟨w.heap.size, 0, none⟩) n n)).run Tryz.prog (w.alloc (.cells (vs.map (Value.int .u8)).toArray 5)) = .ok (.string (putB r)) (w.alloc (.cells (vs.map (Value.int .u8)).toArray 5)) := by
  rw [conv_lit w vs _ n hn h]
  unfold putB
  rw [if_pos hv]

set_option maxHeartbeats 1000000 in
set_option maxRecDepth 20000 in
theorem refPut_any_u (r : Int) (w : World) :
    Calls Tryz.prog 62 #[.int .i64 r] w fun e w' => e = .returned (.string (putB r)) ∧ Below w.heap.size w w' := by
  cases hv : Utf8.valid r with
  | false =>
    rw [putB_not hv]
    have hn : (!Utf8.valid r) = true := by rw [hv]; rfl
    go_enter Tryz.func62, Tryz.ntmps62
    go_wp2_with (go_at_call 82; refine (Point_any _ _).mono ?_; rintro e w' ⟨rfl, rfl⟩)
    go_ret
    exact ⟨rfl, Below.refl _ _⟩
  | true =>
    have hn : (!Utf8.valid r) = false := by rw [hv]; rfl
    have H := (valid_iff r).1 hv
    have h0 : 0 ≤ r := by omega
    have h1 : r ≤ 1114111 := by omega
    clear H
    have hb : Below w.heap.size w w := Below.refl _ _
    by_cases c1 : r < 128
    · have hcv := refPut_c r 1 [r] (by unfold enc; rw [if_pos (by omega)]; simp only [List.map_cons, List.map_nil]; exact ce (tn_i _ (by omega)) rfl) (by unfold enc; rw [if_pos (by omega)]; rfl) hv w
      obtain ⟨s, HS⟩ : ∃ s, Hid (putB r = s) := ⟨_, Lib.hid rfl⟩
      rw [HS.out] at hcv ⊢
      simp only [List.map_cons, List.map_nil] at hcv
      clear hv
      go_enter Tryz.func62, Tryz.ntmps62
      go_wp2_with (go_at_call 82; refine (Point_any _ _).mono ?_; rintro e w' ⟨rfl, rfl⟩)
      go_ret
      exact ⟨rfl, hb.alloc (Nat.le_refl _) _⟩
    · by_cases c2 : r < 2048
      · have hcv := refPut_c r 2 [192 + r / 64, 128 + r % 64] (by unfold enc; rw [if_neg (by omega), if_pos (by omega)]; simp only [List.map_cons, List.map_nil]; exact ce (tn_i _ (by omega)) (ce (tn_i _ (by omega)) rfl)) (by unfold enc; rw [if_neg (by omega), if_pos (by omega)]; rfl) hv w
        obtain ⟨s, HS⟩ : ∃ s, Hid (putB r = s) := ⟨_, Lib.hid rfl⟩
        rw [HS.out] at hcv ⊢
        simp only [List.map_cons, List.map_nil] at hcv
        clear hv
        have g1 : 192 + r / 64 < 256 := by omega
        have g2 : 128 + r % 64 < 256 := by omega
        have g3 : 0 ≤ 192 + r / 64 := by omega
        have g4 : 0 ≤ 128 + r % 64 := by omega
        go_enter Tryz.func62, Tryz.ntmps62
        go_wp2_with (go_at_call 82; refine (Point_any _ _).mono ?_; rintro e w' ⟨rfl, rfl⟩)
        go_ret
        exact ⟨rfl, hb.alloc (Nat.le_refl _) _⟩
      · by_cases c3 : r < 65536
        · have hcv := refPut_c r 3 [224 + r / 4096, 128 + r / 64 % 64, 128 + r % 64] (by unfold enc; rw [if_neg (by omega), if_neg (by omega), if_pos (by omega)]; simp only [List.map_cons, List.map_nil]; exact ce (tn_i _ (by omega)) (ce (tn_i _ (by omega)) (ce (tn_i _ (by omega)) rfl))) (by unfold enc; rw [if_neg (by omega), if_neg (by omega), if_pos (by omega)]; rfl) hv w
          obtain ⟨s, HS⟩ : ∃ s, Hid (putB r = s) := ⟨_, Lib.hid rfl⟩
          rw [HS.out] at hcv ⊢
          simp only [List.map_cons, List.map_nil] at hcv
          clear hv
          have g1 : 224 + r / 4096 < 256 := by omega
          have g2 : 128 + r % 64 < 256 := by omega
          have g3 : 0 ≤ 224 + r / 4096 := by omega
          have g4 : 0 ≤ 128 + r % 64 := by omega
          have g5 : 128 + r / 64 % 64 < 256 := by omega
          have g6 : 0 ≤ 128 + r / 64 % 64 := by omega
          have g7 : 0 ≤ r / 64 := by omega
          go_enter Tryz.func62, Tryz.ntmps62
          go_wp2_with (go_at_call 82; refine (Point_any _ _).mono ?_; rintro e w' ⟨rfl, rfl⟩)
          go_ret
          exact ⟨rfl, hb.alloc (Nat.le_refl _) _⟩
        · have hcv := refPut_c r 4 [240 + r / 262144, 128 + r / 4096 % 64, 128 + r / 64 % 64, 128 + r % 64] (by unfold enc; rw [if_neg (by omega), if_neg (by omega), if_neg (by omega)]; simp only [List.map_cons, List.map_nil]; exact ce (tn_i _ (by omega)) (ce (tn_i _ (by omega)) (ce (tn_i _ (by omega)) (ce (tn_i _ (by omega)) rfl)))) (by unfold enc; rw [if_neg (by omega), if_neg (by omega), if_neg (by omega)]; rfl) hv w
          obtain ⟨s, HS⟩ : ∃ s, Hid (putB r = s) := ⟨_, Lib.hid rfl⟩
          rw [HS.out] at hcv ⊢
          simp only [List.map_cons, List.map_nil] at hcv
          clear hv
          have g1 : 240 + r / 262144 < 256 := by omega
          have g2 : 128 + r % 64 < 256 := by omega
          have g3 : 0 ≤ 240 + r / 262144 := by omega
          have g4 : 0 ≤ 128 + r % 64 := by omega
          have g5 : 128 + r / 64 % 64 < 256 := by omega
          have g6 : 0 ≤ 128 + r / 64 % 64 := by omega
          have g7 : 0 ≤ r / 64 := by omega
          have g8 : 128 + r / 4096 % 64 < 256 := by omega
          have g9 : 0 ≤ 128 + r / 4096 % 64 := by omega
          have g10 : 0 ≤ r / 4096 := by omega
          go_enter Tryz.func62, Tryz.ntmps62
          go_wp2_with (go_at_call 82; refine (Point_any _ _).mono ?_; rintro e w' ⟨rfl, rfl⟩)
          go_ret
          exact ⟨rfl, hb.alloc (Nat.le_refl _) _⟩
end Go.Proofs.YtcecibopanfmgaaGreatDoor

namespace Go.Proofs.YtcecibopanfmgaaGreatDoor
open Go.RowKit Go.Shelf
set_option linter.unusedVariables false
attribute [local go_sem] Oper.semAt_some

/-- Does a text begin with the replacement character? -/
def isRep (q : ByteArray) : Bool := decide (3 ≤ q.size) && decide (q.extract 0 3 = ⟨#[239, 191, 189]⟩)

theorem str_eqB {x y : ByteArray} : (x.toList == y.toList) = decide (x = y) := by
  rw [Bool.eq_iff_iff, beq_iff_eq, decide_eq_true_eq]
  constructor
  · intro e
    rw [ByteArray.toList_eq, ByteArray.toList_eq] at e
    exact ByteArray.ext (Array.toList_inj.mp e)
  · intro e; rw [e]

set_option maxHeartbeats 400000 in
set_option maxRecDepth 20000 in
theorem HasPrefix_any (q : ByteArray) (w : World) :
    Calls Tryz.prog 75 #[.string q, .string ⟨#[239, 191, 189]⟩] w fun e w' => e = .returned (.bool (isRep q)) ∧ w = w' := by
  by_cases h3 : 3 ≤ q.size
  · have h3i : (3 : Int) ≤ (q.size : Int) := by omega
    have E : Hid (((q.extract 0 3).toList == [239, 191, 189]) = isRep q) := Lib.hid (by
      have h := str_eqB (x := q.extract 0 3) (y := ⟨#[239, 191, 189]⟩)
      have e : (ByteArray.mk #[239, 191, 189]).toList = [239, 191, 189] := by rw [ByteArray.toList_eq]
      rw [e] at h
      rw [h]
      unfold isRep
      rw [decide_eq_true h3, Bool.true_and])
    go_enter Tryz.func75, Tryz.ntmps75
    go_wp2
    go_ret
    exact ⟨ret_boolE_u E.out, rfl⟩
  · have h3i : (q.size : Int) < 3 := by omega
    have E : Hid (false = isRep q) := Lib.hid (by
      unfold isRep
      rw [decide_eq_false h3]; rfl)
    go_enter Tryz.func75, Tryz.ntmps75
    go_wp2
    go_ret
    exact ⟨ret_boolE_u E.out, rfl⟩

theorem enc_rep : enc 65533 = [239, 191, 189] := by decide +kernel
theorem isRep_some {q : ByteArray} {n : Nat} (h : dec q.data.toList = some (65533, n)) : isRep q = true := by
  obtain ⟨_, rfl, e⟩ := dec_some h
  rw [enc_rep] at e
  have hl := congrArg List.length e
  simp at hl
  unfold isRep
  rw [decide_eq_true (by omega : 3 ≤ q.size), Bool.true_and, decide_eq_true_eq]
  rw [ByteArray.ext_iff, ← Array.toList_inj, ByteArray.data_extract, Array.toList_extract, List.extract_eq_take_drop, List.drop_zero, e]
  rfl
theorem isRep_none {q : ByteArray} (h : dec q.data.toList = none) : isRep q = false := by
  cases hr : isRep q with
  | false => rfl
  | true =>
    exfalso
    unfold isRep at hr
    rw [Bool.and_eq_true, decide_eq_true_eq, decide_eq_true_eq] at hr
    have e : q.data.toList = enc 65533 ++ q.data.toList.drop 3 := by
      have h2 := congrArg (fun b : ByteArray => b.data.toList) hr.2
      simp only [ByteArray.data_extract, Array.toList_extract, List.extract_eq_take_drop, List.drop_zero] at h2
      rw [enc_rep]
      have h3 := List.take_append_drop 3 q.data.toList
      rw [h2] at h3
      exact h3.symm
    rw [e, dec_enc_u 65533 _ ((valid_iff _).2 (by omega))] at h
    cases h

theorem drop_list (s : ByteArray) (p : Nat) : (s.extract p s.size).data.toList = s.data.toList.drop p := by
  rw [ByteArray.data_extract, Array.toList_extract, List.extract_eq_take_drop, List.take_of_length_le (by simp)]

/-- What a round keeps of the iterator's: its walk, its box. -/
def KeepsR (Bn : Nat) (W W' : World) : Prop := KeepsWalks W W' ∧ W'.heap[Bn]? = W.heap[Bn]?

theorem keepsR_t {Bn : Nat} {A B C : World} (h : KeepsR Bn A B) (k : KeepsR Bn B C) : KeepsR Bn A C := ⟨h.1.trans k.1, k.2.trans h.2⟩
theorem keepsR_b {Bn : Nat} {w : World} (hn : Bn < w.heap.size) (W : World) (l : Nat) (o o' : Obj) (hl : w.heap.size ≤ l) (h : W.heap[l]? = some o) (h1 : o.isCells = false) (hw : o.isWalk = false) : KeepsR Bn W (W.putObj l o') :=
  ⟨KeepsWalks.putObj _ h hw, World.putObj_heap_other (by omega)⟩

theorem grownBy_iterAt (W : World) (k : Nat) (s : ByteArray) (pos : Nat) : W.grownBy (W.iterAt k s pos) (some k) :=
  ⟨rfl, rfl, rfl, by rw [Lib.iterAt_size]; exact Nat.le_refl _, fun j hj hne => Lib.iterAt_other W k j s pos (fun e => hne (by rw [e]))⟩
theorem grownBy_drewN (W : World) (k : Nat) (row : Option Nat) : W.grownBy (W.drewN k) row := ⟨rfl, rfl, rfl, Nat.le_refl _, fun _ _ _ => rfl⟩

theorem iter_old {W : World} {B : Nat} (s : ByteArray) (p : Nat) (h : B < W.heap.size) : (W.iter s p).heap[B]? = W.heap[B]? := Below.heap_alloc W (.stringIter s p) B h
theorem grownBy_iter (W : World) (s : ByteArray) (row : Option Nat) : W.grownBy (W.iter s 0) row := World.grownBy_alloc W (.stringIter s 0) row

abbrev encR (x : Nat × Nat) : Array Value := #[.int .i64 (x.1 : Nat), .int .i32 (x.2 : Nat)]

/-- Where the iterator in block B stands. -/
def posAt (B : Nat) (W : World) : Nat := match W.heap[B]? with
  | some (.stringIter _ p) => p
  | _ => 0
theorem posAt_eq {B : Nat} {W : World} {s : ByteArray} {p : Nat} (h : W.heap[B]? = some (.stringIter s p)) : posAt B W = p := by simp [posAt, h]

set_option maxRecDepth 100000 in
set_option maxHeartbeats 1000000 in
theorem Runes1_in (n : Nat) (hn : 1 ≤ n) (l Bn : Nat) (s : ByteArray) (hs : s.size ≤ 140737488355328) (J Jx : List (Nat × Nat) → World → Prop)
    (hY : ∀ pre x W, J pre W → (pre ++ [x]) <+: runesB s → YieldAt Fence.wide (n - 1) Tryz.prog l (encR x) W fun e W' =>
      (e = .returned (.bool true) ∧ J (pre ++ [x]) W' ∧ KeepsR Bn W W') ∨ (e = .returned (.bool false) ∧ Jx (pre ++ [x]) W'))
    (W : World) (hJ : AbidesFrom W.heap.size J) (hBn : W.heap[Bn]? = some (.cells #[.string s] 9 (0, 0))) (h0 : J [] W) :
    CallsIn Fence.wide n Tryz.prog 74 #[.func (.yield l) #[] #[], .pointer (some ⟨Bn, 0, none⟩)] W fun e W' => (∃ v, e = .returned v) ∧
      ((∃ ys, ys = runesB s ∧ J ys W') ∨ (∃ pre, pre <+: runesB s ∧ Jx pre W')) := by
  have hc0 : W.cell? ⟨Bn, 0, none⟩ = some (.string s) := by simp [World.cell?, hBn]
  refine callsIn_of_wp Tryz.func74 rfl trivial ?_ rfl
  simp only [Tryz.ntmps74, List.size_toArray, List.length_cons, List.length_nil, Nat.reduceAdd, Nat.reduceSub, Array.replicate_succ, Array.replicate_zero, List.push_toArray, List.append_toArray, List.nil_append, List.cons_append]
  gi_wp2
  gi_loopw [4] (fun _ wr => ∃ (pre : List (Nat × Nat)) (pos : Nat), wr.heap[W.heap.size]? = some (.stringIter s pos) ∧ wr.heap[Bn]? = some (.cells #[.string s] 9 (0, 0)) ∧ runesB s = pre ++ runesAt s.data.toList pos ∧ pos ≤ s.size ∧ J pre wr)
    (fun _ wr => s.size - posAt W.heap.size wr)
  case atStart =>
    exact ⟨[], 0, by simp [World.iter_heap], by rw [iter_old _ _ (Array.getElem?_eq_some_iff.1 hBn).1]; exact hBn, rfl, Nat.zero_le _, hJ [] W _ none h0 (grownBy_iter _ _ _) (fun r e => by cases e)⟩
  case round =>
    obtain ⟨pre, pos, hit, hbx, hrs, hpos, hJs⟩ := hrel
    have hB0 : W.heap.size ≤ W.heap.size := Nat.le_refl _
    have hms : Hid (posAt W.heap.size wr = pos) := Lib.hid (posAt_eq hit)
    by_cases hlt : pos < s.size
    · have hcell : ∀ m, (wr.iterAt W.heap.size s m).cell? ⟨Bn, 0, none⟩ = some (.string s) := fun m => by
        have hne : Bn ≠ W.heap.size := by intro e; rw [e, hit] at hbx; cases hbx
        simp [World.cell?, Lib.iterAt_other wr W.heap.size Bn s m hne, hbx]
      have hnx : ∀ ty, (Instr.next (.pointer (some ⟨W.heap.size, 0, none⟩)) true ty).run Tryz.prog wr = _ := fun ty => Lib.run_next_any_at wr W.heap.size s pos ty hit hlt
      have hde := decode_eq s pos hlt
      cases hd : dec (s.data.toList.drop pos) with
      | none =>
        have h1 : (Utf8.decode s pos).1 = 65533 := by rw [hde, hd]; rfl
        have h2 : (Utf8.decode s pos).2 = 1 := by rw [hde, hd]; rfl
        have hrep : Hid (isRep (s.extract pos s.size) = false) := Lib.hid (isRep_none (by rw [drop_list]; exact hd))
        rw [h1, h2] at hnx
        clear hde h1 h2
        gi_wp2_with (refine ⟨trivial, ?_⟩; gi_at_call 75; refine (callsIn_wide.2 (HasPrefix_any _ _)).mono ?_; rintro e w' ⟨rfl, rfl⟩; rw [hrep.out])
        refine bodyPost_ret (results_none rfl _ _ _) rfl ?_
        exact ⟨⟨_, rfl⟩, .inl ⟨pre, by rw [hrs, runesAt_none hd, List.append_nil], hJ _ _ _ (some W.heap.size) hJs (grownBy_iterAt _ _ _ _) (fun r e => by cases e; exact ⟨Nat.le_refl _, _, hit, rfl⟩)⟩⟩
      | some x =>
        obtain ⟨c, k⟩ := x
        have h1 : (Utf8.decode s pos).1 = c := by rw [hde, hd]; rfl
        have h2 : (Utf8.decode s pos).2 = k := by rw [hde, hd]; rfl
        rw [h1, h2] at hnx
        clear hde h1 h2
        have hl := dec_len hd
        rw [List.length_drop] at hl
        have hxx : runesB s = (pre ++ [(pos, c)]) ++ runesAt s.data.toList (pos + k) := by rw [hrs, runesAt_some hd]; simp
        have hlen : (pre ++ [(pos, c)]) <+: runesB s := ⟨_, hxx.symm⟩
        have hpk : pos + k ≤ s.size := by have : s.data.toList.length = s.size := by simp
                                          omega
        have hJ1 : J pre (wr.iterAt W.heap.size s (pos + k)) := hJ _ _ _ (some W.heap.size) hJs (grownBy_iterAt _ _ _ _) (fun r e => by cases e; exact ⟨Nat.le_refl _, _, hit, rfl⟩)
        have hit1 : Hid ((wr.iterAt W.heap.size s (pos + k)).heap[W.heap.size]? = some (.stringIter s (pos + k))) := Lib.hid (Lib.iterAt_heap _ _ _ _ _ hit)
        have hbx1 : Hid ((wr.iterAt W.heap.size s (pos + k)).heap[Bn]? = some (.cells #[.string s] 9 (0, 0))) := Lib.hid (by
          have hne : Bn ≠ W.heap.size := by intro e; rw [e, hit] at hbx; cases hbx
          rw [Lib.iterAt_other _ _ _ _ _ hne]; exact hbx)
        have hms1 : Hid (k ≠ 0) := Lib.hid (by omega)
        have HY := Lib.hid (hY pre (pos, c) _ hJ1 hlen)
        have HX := Lib.hid hxx
        have HD := Lib.hid hd
        clear hxx hlen hl hrs hd
        by_cases hc : c = 65533
        · subst hc
          have hrep : Hid (isRep (s.extract pos s.size) = true) := Lib.hid (isRep_some (by rw [drop_list]; exact HD.out))
          obtain ⟨fn, tmps, assign, body, hy, hR⟩ := HY.out
          dsimp only [encR] at hy
          rw [show ((65533 : Nat) : Int) = 65533 from rfl] at hy
          gi_wp2_with (refine ⟨trivial, ?_⟩; gi_at_call 75; refine (callsIn_wide.2 (HasPrefix_any _ _)).mono ?_; rintro e w' ⟨rfl, rfl⟩; rw [hrep.out])
          refine hR.mono ?_
          rintro e W3 (⟨rfl, hJ3, hk3⟩ | ⟨rfl, hJx3⟩)
          · gi_wp2
            go_roundw
            case rel => exact ⟨pre ++ [(pos, 65533)], pos + k, hk3.1.same _ _ hit1.out rfl, hk3.2.trans hbx1.out, HX.out, hpk, hJ3⟩
            case measure => rw [hms.out, posAt_eq (hk3.1.same _ _ hit1.out rfl)]; have := hms1.out; omega
          · gi_wp2
            refine bodyPost_ret (results_none rfl _ _ _) rfl ?_
            exact ⟨⟨_, rfl⟩, .inr ⟨pre ++ [(pos, 65533)], ⟨_, HX.out.symm⟩, hJx3⟩⟩
        · have hne : ((c : Int) == 65533) = false := by simp; omega
          clear hc
          obtain ⟨fn, tmps, assign, body, hy, hR⟩ := HY.out
          dsimp only [encR] at hy
          gi_wp2
          refine ⟨trivial, ?_⟩
          gi_wp2
          refine hR.mono ?_
          rintro e W3 (⟨rfl, hJ3, hk3⟩ | ⟨rfl, hJx3⟩)
          · gi_wp2
            go_roundw
            case rel => exact ⟨pre ++ [(pos, c)], pos + k, hk3.1.same _ _ hit1.out rfl, hk3.2.trans hbx1.out, HX.out, hpk, hJ3⟩
            case measure => rw [hms.out, posAt_eq (hk3.1.same _ _ hit1.out rfl)]; have := hms1.out; omega
          · gi_wp2
            refine bodyPost_ret (results_none rfl _ _ _) rfl ?_
            exact ⟨⟨_, rfl⟩, .inr ⟨pre ++ [(pos, c)], ⟨_, HX.out.symm⟩, hJx3⟩⟩
    · have hnx : ∀ ty, (Instr.next (.pointer (some ⟨W.heap.size, 0, none⟩)) true ty).run Tryz.prog wr = _ := fun ty => Lib.run_next_end_at wr W.heap.size s pos ty hit hlt
      have hX : Hid (pre = runesB s) := Lib.hid (by rw [hrs, runesAt_end (by simp; omega), List.append_nil])
      gi_wp2
      go_end0
      exact ⟨⟨_, rfl⟩, .inl ⟨pre, hX.out, hJs⟩⟩

set_option maxHeartbeats 1000000 in
theorem Runes_in (n : Nat) (s : ByteArray) (w : World) :
    CallsIn Fence.wide n Tryz.prog 50 #[.string s] w fun e w' => e = .returned (.func (.func 74) #[] #[.pointer (some ⟨w.heap.size, 0, none⟩)]) ∧ w' = w.alloc (.cells #[.string s] 9) := by
  refine callsIn_of_wp Tryz.func50 rfl trivial ?_ rfl
  simp only [Tryz.ntmps50, List.size_toArray, List.length_cons, List.length_nil, Nat.reduceAdd, Nat.reduceSub, Array.replicate_succ, Array.replicate_zero, List.push_toArray, List.append_toArray, List.nil_append, List.cons_append]
  gi_wp2
  go_ret
  exact ⟨rfl, rfl⟩

/-- A code point of s, with its place. -/
abbrev Rn (s : ByteArray) := { x : Nat × Nat // x ∈ runesB s }

theorem Runes_stops (n : Nat) (hn : 1 ≤ n) (Bn : Nat) (s : ByteArray) (hs : s.size ≤ 140737488355328) (w : World)
    (hc : w.heap[Bn]? = some (.cells #[.string s] 9 (0, 0))) :
    SeqStopsK Fence.wide n Tryz.prog 74 #[.pointer (some ⟨Bn, 0, none⟩)] (fun x : Rn s => encR x.1) (KeepsR Bn) (fun ys => ys.map Subtype.val = runesB s) (fun pre => pre.map Subtype.val <+: runesB s) (runesB s).length w := fun l J Jx W hW hJ _ hY h0 => by
  refine (Runes1_in n hn l Bn s hs (fun pre W => ∃ p : List (Rn s), p.map Subtype.val = pre ∧ J p W) (fun pre W => ∃ p : List (Rn s), p.map Subtype.val = pre ∧ Jx p W) ?_ W ?_ ((hW.block Bn (Array.getElem?_eq_some_iff.1 hc).1).trans hc) ⟨[], rfl, h0⟩).mono ?_
  · rintro pre x W1 ⟨p, rfl, hp⟩ hpre
    have hx : x ∈ runesB s := hpre.subset (by simp)
    have hlen : p.length < (runesB s).length := by have := hpre.length_le; simp at this; omega
    obtain ⟨fn, tmps, assign, body, hy, hR⟩ := hY p ⟨x, hx⟩ W1 hp hlen
    refine ⟨fn, tmps, assign, body, hy, hR.mono ?_⟩
    rintro e W' (⟨h1, h2, h3⟩ | ⟨h1, h2⟩)
    · exact .inl ⟨h1, ⟨_, by simp, h2⟩, h3⟩
    · exact .inr ⟨h1, ⟨_, by simp, h2⟩⟩
  · rintro s1 A B row ⟨p, hp, hj⟩ hg hr
    exact ⟨p, hp, hJ _ _ _ row hj hg hr⟩
  · rintro e W' ⟨hv, (⟨ys, rfl, p, hp, hj⟩ | ⟨pre, hpre, p, rfl, hj⟩)⟩
    · exact ⟨hv, .inl ⟨p, hp, hj⟩⟩
    · exact ⟨hv, .inr ⟨p, hpre, hj⟩⟩

theorem keepsR_set {Bn B i : Nat} (W : World) (h : Bn ≠ B) (v : Value) : KeepsR Bn W (W.setCell ⟨B, i, none⟩ v) :=
  ⟨KeepsWalks.setCell _ _ _, Below.heap_setCell W ⟨B, i, none⟩ v Bn h⟩
theorem box_heap (W : World) (v : Value) (t : TypeId) : (W.alloc (.cells #[v] t)).heap[W.heap.size]? = some (.cells #[v] t (0, 0)) := World.alloc_heap_new W _
end Go.Proofs.YtcecibopanfmgaaGreatDoor

namespace Go.Proofs.YtcecibopanfmgaaGreatDoor
open Go.RowKit Go.Shelf
set_option linter.unusedVariables false
attribute [local go_sem] Oper.semAt_some

theorem own_box_u {β : Type} (B : Nat) (t : TypeId) (f : β → Value) : Own (fun (s : β) W => Boxed W B t (f s)) := fun s X Y row h hg hrow =>
  h.kept hg (fun e => by
    obtain ⟨o, ho, hc⟩ := hrow B e.symm
    rw [show X.heap[B]? = _ from h] at ho
    cases ho
    cases hc)

theorem below_drewN_u {B : Nat} {a w : World} (h : Below B a w) (n : Nat) : Below B a (w.drewN n) := ⟨h.os, h.tape, h.output, h.size, h.block⟩

set_option maxRecDepth 100000 in
set_option maxHeartbeats 1000000 in
theorem Count_any (s : ByteArray) (w : World) (hs : s.size ≤ 140737488355328) :
    Calls Tryz.prog 24 #[.string s] w fun e w' => e = .returned (.int .i64 ((runesB s).length : Nat)) ∧ Below w.heap.size w w' := by
  refine (callsIn_wide (n := 6)).1 ?_
  refine callsIn_of_wp_marks Tryz.func24 rfl trivial ?_ rfl
  simp only [Tryz.ntmps24, List.size_toArray, List.length_cons, List.length_nil, Nat.reduceAdd, Nat.reduceSub, Array.replicate_succ, Array.replicate_zero, List.push_toArray, List.append_toArray, List.nil_append, List.cons_append]
  rw [wpIn_wide]
  go_wp2_with fail
  refine ((callsIn_wide (n := 0)).1 (Runes_in 0 s _)).mono ?_
  rintro e w2 ⟨rfl, rfl⟩
  go_wp2_with fail
  have hlen := runesB_length s
  have bC := Boxed.new w 3 (.int .i64 0)
  have bN := Boxed.new (w.alloc (.cells #[.int .i64 0] 3)) 9 (.string s)
  rw [World.size_alloc] at bN
  have hB1 : Below w.heap.size w ((w.alloc (.cells #[.int .i64 0] 3)).alloc (.cells #[.string s] 9)) := ((Below.refl _ _).alloc (Nat.le_refl _) _).alloc (by simp) _
  rw [← wpIn_wide (n := 6)]
  refine' wpIn_rangeFunc_ownG rfl (by omega) (gf := 74) (lb := #[.pointer (some ⟨w.heap.size + 1, 0, none⟩)]) rfl trivial (enters_of Tryz.func74 (by kernel_rfl) rfl)
    (Runes_stops 5 (by omega) (w.heap.size + 1) s hs _ bN) keepsR_t (keepsR_b (by simp)) (Below.refl _ _) (fun _ => rfl)
    (fun pre W => Boxed W w.heap.size 3 (.int .i64 (pre.length : Nat)) ∧ Below w.heap.size w W)
    (fun _ _ _ => False)
    (OwnFrom.and (Own.from (own_box_u _ _ _) _) (ownFrom_below (Nat.le_refl _) (by simp; omega)))
    (fun _ _ _ _ _ hs _ _ => hs)
    ⟨bC.alloc _, hB1⟩
    _ _ _ _ _
  case refine'_2 =>
    intro l x W K hK
    gi_wp2
    exact hK
  case refine'_5 =>
    rintro D c pre W _ _ h _
    exact h.elim
  case refine'_3 =>
    rintro l' pre x W ⟨hv, hB⟩ hlt
    have hc := hv.cell
    have hf := hv.frozen
    have hpl : pre.length < 140737488355328 := by omega
    gi_wp2
    refine ⟨(KeepsOthers.setCell _ _ _).from _, keepsR_set _ (by omega) _, ?_, hB.setCell (p := ⟨w.heap.size, 0, none⟩) (Nat.le_refl _) _⟩
    have h := hv.set (.int .i64 ((pre.length : Int) + 1))
    rw [List.length_append]
    exact h
  case refine'_4 =>
    rintro D ys W hD hys ⟨hv, hB⟩ hK
    have hc := hv.cell
    go_wp2_with fail
    have hl : ys.length = (runesB s).length := by rw [← hys, List.length_map]
    rw [← hl]
    refine ⟨by simp, .inl ⟨_, _, rfl, run_takeDeferred hK, ?_⟩⟩
    exact ⟨_, results_tmp rfl _ _ _, rfl, hB.trans (belowK_b (w := w) (Nat.le_refl _) W D _ _ (by simp at hD; omega) hK rfl rfl)⟩

set_option maxRecDepth 100000 in
set_option maxHeartbeats 1000000 in
theorem Bad_any (s : ByteArray) (w : World) (hs : s.size ≤ 140737488355328) :
    Calls Tryz.prog 76 #[.string s] w fun e w' => e = .returned (.int .i64 (badB s)) ∧ Below w.heap.size w w' := by
  refine (callsIn_wide (n := 6)).1 ?_
  refine callsIn_of_wp_marks Tryz.func76 rfl trivial ?_ rfl
  simp only [Tryz.ntmps76, List.size_toArray, List.length_cons, List.length_nil, Nat.reduceAdd, Nat.reduceSub, Array.replicate_succ, Array.replicate_zero, List.push_toArray, List.append_toArray, List.nil_append, List.cons_append]
  rw [wpIn_wide]
  go_wp2_with fail
  refine ((callsIn_wide (n := 0)).1 (Runes_in 0 s _)).mono ?_
  rintro e w2 ⟨rfl, rfl⟩
  go_wp2_with fail
  have bC := Boxed.new w 3 (.int .i64 0)
  have bN := Boxed.new (w.alloc (.cells #[.int .i64 0] 3)) 9 (.string s)
  rw [World.size_alloc] at bN
  have hB1 : Below w.heap.size w ((w.alloc (.cells #[.int .i64 0] 3)).alloc (.cells #[.string s] 9)) := ((Below.refl _ _).alloc (Nat.le_refl _) _).alloc (by simp) _
  rw [← wpIn_wide (n := 6)]
  refine' wpIn_rangeFunc_ownG rfl (by omega) (gf := 74) (lb := #[.pointer (some ⟨w.heap.size + 1, 0, none⟩)]) rfl trivial (enters_of Tryz.func74 (by kernel_rfl) rfl)
    (Runes_stops 5 (by omega) (w.heap.size + 1) s hs _ bN) keepsR_t (keepsR_b (by simp)) (Below.refl _ _) (fun _ => rfl)
    (fun pre W => Boxed W w.heap.size 3 (.int .i64 (endOf 0 (pre.map Subtype.val) : Nat)) ∧ Below w.heap.size w W)
    (fun _ _ _ => False)
    (OwnFrom.and (Own.from (own_box_u _ _ _) _) (ownFrom_below (Nat.le_refl _) (by simp; omega)))
    (fun _ _ _ _ _ hs _ _ => hs)
    ⟨bC.alloc _, hB1⟩
    _ _ _ _ _
  case refine'_2 =>
    intro l x W K hK
    gi_wp2
    exact hK
  case refine'_5 =>
    rintro D c pre W _ _ h _
    exact h.elim
  case refine'_3 =>
    rintro l' pre ⟨⟨p, c⟩, hx⟩ W ⟨hv, hB⟩ hlt
    have hc := hv.cell
    have hf := hv.frozen
    obtain ⟨hvx, hle, _⟩ := runesB_mem hx
    dsimp only at hvx hle
    have hp1 : p + encLen c ≤ 140737488355328 := by omega
    have hes : Hid (endOf 0 ((pre ++ [(⟨(p, c), hx⟩ : Rn s)]).map Subtype.val) = p + encLen c) := Lib.hid (by rw [List.map_append]; exact endOf_snoc _ _ _)
    gi_wp2_with (refine ⟨trivial, ?_⟩; gi_at_call 92; refine (CallsIn.inRound l' (callsIn_wide.2 (RuneLen_any c _ hvx))).mono ?_; rintro e w' ⟨rfl, rfl⟩)
    refine ⟨(KeepsOthers.setCell _ _ _).from _, keepsR_set _ (by omega) _, ?_, hB.setCell (p := ⟨w.heap.size, 0, none⟩) (Nat.le_refl _) _⟩
    have h := hv.set (.int .i64 ((p : Int) + (encLen c : Nat)))
    rw [hes.out]
    exact h
  case refine'_4 =>
    rintro D ys W hD hys ⟨hv, hB⟩ hK
    have hge := goodEnd_le s
    have he : endOf 0 (ys.map Subtype.val) = goodEnd s := by rw [hys]; rfl
    rw [he] at hv
    have hc := hv.cell
    have hbD : Below w.heap.size w (W.putObj D (.deferred none)) := hB.trans (belowK_b (w := w) (Nat.le_refl _) W D _ _ (by simp at hD; omega) hK rfl rfl)
    cases hw : whole s with
    | true =>
      have h1 : ((goodEnd s : Int) == (s.size : Int)) = true := by unfold whole at hw; simp at hw; simp; omega
      have hb : Hid (badB s = -1) := Lib.hid (by unfold badB; rw [hw]; rfl)
      clear hw he
      go_wp2_with fail
      rw [hb.out]
      refine ⟨by simp, .inl ⟨_, _, rfl, run_takeDeferred hK, ?_⟩⟩
      exact ⟨_, results_tmp rfl _ _ _, rfl, hbD⟩
    | false =>
      have h1 : ((goodEnd s : Int) == (s.size : Int)) = false := by unfold whole at hw; simp at hw; simp; omega
      have hb : Hid (badB s = (goodEnd s : Nat)) := Lib.hid (by unfold badB; rw [hw]; rfl)
      clear hw he
      go_wp2_with fail
      rw [hb.out]
      refine ⟨by simp, .inl ⟨_, _, rfl, run_takeDeferred hK, ?_⟩⟩
      exact ⟨_, results_tmp rfl _ _ _, rfl, hbD⟩

set_option maxHeartbeats 400000 in
set_option maxRecDepth 20000 in
theorem Valid_any (s : ByteArray) (w : World) (hs : s.size ≤ 140737488355328) :
    Calls Tryz.prog 51 #[.string s] w fun e w' => e = .returned (.bool (whole s)) ∧ Below w.heap.size w w' := by
  have hb : Hid (decide (badB s < 0) = whole s) := Lib.hid (by
    unfold badB
    cases whole s with
    | true => rfl
    | false => show decide (((goodEnd s : Nat) : Int) < 0) = false; simp)
  go_enter Tryz.func51, Tryz.ntmps51
  go_wp2_with (go_at_call 76; refine (Bad_any s _ hs).mono ?_; rintro e w' ⟨rfl, hB⟩)
  go_ret
  exact ⟨ret_boolE_u hb.out, hB⟩

def exE : ByteArray := ⟨#[226, 130, 172]⟩
theorem ex_put_u : putB 8364 = ⟨#[226, 130, 172]⟩ := by decide +kernel
theorem ex_count : (runesB ⟨#[226, 130, 172]⟩).length = 1 := by decide +kernel

set_option maxHeartbeats 400000 in
set_option maxRecDepth 20000 in
theorem awake_any_u (w : World) :
    Calls Tryz.prog 47 #[] w fun e w' => e = .returned (.bool true) ∧ Below w.heap.size w w' := by
  go_enter Tryz.func47, Tryz.ntmps47
  go_wp2_with (first
    | (go_at_call 72; refine (Put_any_u 8364 _).mono ?_; rintro e w' ⟨rfl, rfl⟩; rw [ex_put_u])
    | (go_at_call 24; refine (Count_any ⟨#[226, 130, 172]⟩ _ (by show (3 : Nat) ≤ _; omega)).mono ?_; rintro e w' ⟨rfl, hB⟩; rw [ex_count]))
  go_ret
  exact ⟨rfl, hB⟩
end Go.Proofs.YtcecibopanfmgaaGreatDoor

namespace Go.Proofs.YtcecibopanfmgaaGreatDoor
open Go.RowKit Go.Shelf
set_option linter.unusedVariables false
attribute [local go_sem] Oper.semAt_some

theorem set_other_f {W : World} {b b' : Nat} {v u : Value} (h : W.cell? ⟨b, 0, none⟩ = some v) (hne : b ≠ b') : (W.setCell ⟨b', 0, none⟩ u).cell? ⟨b, 0, none⟩ = some v :=
  (World.cell?_of_block (Below.heap_setCell W ⟨b', 0, none⟩ u b hne)).trans h
theorem box_ne_f {W : World} {b D : Nat} {t : TypeId} {v : Value} {o : Option (List Deferred)} (h : Boxed W b t v) (hK : W.heap[D]? = some (.deferred o)) : some b ≠ some D := by
  intro e
  injection e with e
  subst e
  rw [show W.heap[b]? = _ from h] at hK
  cases hK
theorem boxed_below_f {B : Nat} {W W' : World} {b : Nat} {t : TypeId} {v : Value} (h : Boxed W b t v) (hb : Below B W W') (hB : b < B) : Boxed W' b t v := (hb.block b hB).trans h
theorem ownFrom_pure_f {α : Type} {B : Nat} {p : α → Prop} : OwnFrom B (fun (s : α) (_ : World) => p s) := fun s X Y row hs hg hr => hs

theorem plain_of {s : ByteArray} (h : ∀ x ∈ runesB s, okP x.2 = true) : plainB s = whole s := by
  unfold plainB
  rw [List.all_eq_true.2 h, Bool.true_and]
theorem plain_not {s : ByteArray} {x : Nat × Nat} (hx : x ∈ runesB s) (h : okP x.2 = false) : plainB s = false := by
  unfold plainB
  rw [show (runesB s).all (fun x => okP x.2) = false from List.all_eq_false.2 ⟨x, hx, by rw [h]; decide⟩]
  rfl

set_option maxRecDepth 100000 in
set_option maxHeartbeats 1000000 in
theorem plain_any (s : ByteArray) (w : World) (hs : s.size ≤ 140737488355328) :
    Calls Tryz.prog 25 #[.string s] w fun e w' => e = .returned (.bool (plainB s)) ∧ Below w.heap.size w w' := by
  refine (callsIn_wide (n := 6)).1 ?_
  refine callsIn_of_wp_marks Tryz.func25 rfl trivial ?_ rfl
  simp only [Tryz.ntmps25, List.size_toArray, List.length_cons, List.length_nil, Nat.reduceAdd, Nat.reduceSub, Array.replicate_succ, Array.replicate_zero, List.push_toArray, List.append_toArray, List.nil_append, List.cons_append]
  rw [wpIn_wide]
  go_wp2_with fail
  refine ((callsIn_wide (n := 0)).1 (Runes_in 0 s _)).mono ?_
  rintro e w2 ⟨rfl, rfl⟩
  go_wp2_with fail
  have bC := Boxed.new w 4 (.bool false)
  have bN := Boxed.new (w.alloc (.cells #[.bool false] 4)) 9 (.string s)
  rw [World.size_alloc] at bN
  have hB1 : Below w.heap.size w ((w.alloc (.cells #[.bool false] 4)).alloc (.cells #[.string s] 9)) := ((Below.refl _ _).alloc (Nat.le_refl _) _).alloc (by simp) _
  rw [← wpIn_wide (n := 6)]
  refine' wpIn_rangeFunc_ownG rfl (by omega) (gf := 74) (lb := #[.pointer (some ⟨w.heap.size + 1, 0, none⟩)]) rfl trivial (enters_of Tryz.func74 (by kernel_rfl) rfl)
    (Runes_stops 5 (by omega) (w.heap.size + 1) s hs _ bN) keepsR_t (keepsR_b (by simp)) (Below.refl _ _) (fun _ => rfl)
    (fun pre W => Boxed W w.heap.size 4 (.bool false) ∧ Below w.heap.size w W ∧ (∀ x ∈ pre, okP x.1.2 = true))
    (fun c pre W => Boxed W w.heap.size 4 (.bool false) ∧ Below w.heap.size w W ∧ (c = .ret ∧ plainB s = false))
    (OwnFrom.and (Own.from (own_box_u _ _ _) _) (OwnFrom.and (ownFrom_below (Nat.le_refl _) (by simp; omega)) ownFrom_pure_f))
    (fun c => OwnFrom.and (Own.from (own_box_u _ _ _) _) (OwnFrom.and (ownFrom_below (Nat.le_refl _) (by simp; omega)) ownFrom_pure_f))
    ⟨bC.alloc _, hB1, fun x hx => by cases hx⟩
    _ _ _ _ _
  case refine'_2 =>
    intro l x W K hK
    gi_wp2
    exact hK
  case refine'_5 =>
    rintro D c pre W hD hpre ⟨hv, hB, rfl, hpl⟩ hK
    have HP := Lib.hid hpl
    clear hpl
    rw [wpIn_wide]
    have hc := hv.cell
    go_wp2_with fail
    have hR := (hv.kept (grownBy_putObj' _ D (.deferred none)) (box_ne_f hv hK)).cell
    refine ⟨by simp, .inl ⟨_, _, rfl, run_takeDeferred hK, ?_⟩⟩
    exact ⟨.bool false, by simp [results, Tryz.f25, go_sem, hR], by rw [HP.out], hB.trans (belowK_b (w := w) (Nat.le_refl _) _ D _ _ (by simp at hD; omega) hK rfl rfl)⟩
  case refine'_3 =>
    rintro l' pre ⟨⟨p, c⟩, hx⟩ W ⟨hv, hB, hpre⟩ hlt
    have hc := hv.cell
    have hf := hv.frozen
    have HPRE := Lib.hid hpre
    clear hpre
    cases ho : okP c with
    | true =>
      have ho2 := ho
      unfold okP at ho2
      rw [Bool.and_eq_true, decide_eq_true_eq, decide_eq_true_eq] at ho2
      have h32 : (32 : Int) ≤ (c : Int) := by omega
      have h127 : ((c : Int) == 127) = false := by simp; omega
      have HO := Lib.hid ho
      clear ho ho2
      gi_wp2
      refine ⟨KeepsFrom.refl _ _, ⟨KeepsWalks.refl _, rfl⟩, hv, hB, fun x hx2 => ?_⟩
      rcases List.mem_append.1 hx2 with h | h
      · exact HPRE.out x h
      · rw [List.mem_singleton.1 h]; exact HO.out
    | false =>
      have hpl : Hid (plainB s = false) := Lib.hid (plain_not hx ho)
      have ho2 : c < 32 ∨ c = 127 := by
        unfold okP at ho
        rw [Bool.and_eq_false_iff, decide_eq_false_iff_not, decide_eq_false_iff_not] at ho
        omega
      clear ho
      rcases ho2 with h | h
      · have h32 : (c : Int) < 32 := by omega
        clear h
        gi_wp2
        exact ⟨(KeepsOthers.setCell _ _ _).from _, hv.set (.bool false), hB.setCell (p := ⟨w.heap.size, 0, none⟩) (Nat.le_refl _) _, rfl, hpl.out⟩
      · subst h
        gi_wp2
        exact ⟨(KeepsOthers.setCell _ _ _).from _, hv.set (.bool false), hB.setCell (p := ⟨w.heap.size, 0, none⟩) (Nat.le_refl _) _, rfl, hpl.out⟩
  case refine'_4 =>
    rintro D ys W hD hys ⟨hv, hB, hall⟩ hK
    have hpl : Hid (plainB s = whole s) := Lib.hid (plain_of fun x hx => by
      rw [← hys] at hx
      obtain ⟨y, hy, rfl⟩ := List.mem_map.1 hx
      exact hall y hy)
    clear hall hys
    have hc := hv.cell
    have hf := hv.frozen
    go_wp2_with fail
    refine (Valid_any s _ hs).mono ?_
    rintro e w3 ⟨rfl, hb3⟩
    have hv3 := boxed_below_f hv hb3 hv.lt
    have hK3 := (hb3.block D (Array.getElem?_eq_some_iff.1 hK).1).trans hK
    have hB3 := hB.trans (hb3.mono hB.size)
    have hc := hv3.cell
    have hf := hv3.frozen
    have HE := Lib.hid (And.intro hv3 (And.intro hK3 hB3))
    clear hv3 hK3 hB3 hv hB hK hb3
    go_wp2_with fail
    have hvR := HE.out.1.set (.bool (whole s))
    have kD := (KeepsOthers.setCell _ ⟨w.heap.size, 0, none⟩ (.bool (whole s))).same D _ HE.out.2.1 rfl
    have hR := (hvR.kept (grownBy_putObj' _ D (.deferred none)) (box_ne_f hvR kD)).cell
    have hB4 := HE.out.2.2.setCell (p := ⟨w.heap.size, 0, none⟩) (Nat.le_refl _) (.bool (whole s))
    refine ⟨by simp, .inl ⟨_, _, rfl, run_takeDeferred kD, ?_⟩⟩
    exact ⟨.bool (whole s), by simp [results, Tryz.f25, go_sem, hR], by rw [hpl.out], hB4.trans (belowK_b (w := w) (Nat.le_refl _) _ D _ _ (by simp at hD; omega) kD rfl rfl)⟩
end Go.Proofs.YtcecibopanfmgaaGreatDoor

namespace Go.Proofs.YtcecibopanfmgaaGreatDoor
open Go.RowKit
set_option linter.unusedVariables false

theorem beq_no {k c : Int} (h : k ≠ c) : (k == c) = false := by simp; exact h

theorem FR.check_11 {r : FR} (h : r.known = false) : r.check = 11 := by unfold FR.check; rw [if_pos h]
theorem FR.check_7 {r : FR} (h : r.known = true) (ho : r.off = true) : r.check = 7 := by unfold FR.check; rw [if_neg (by rw [h]; decide), if_pos ho]
theorem FR.check_16 {r : FR} (h : r.known = true) (ho : r.off = false) (hk : r.kind = 4) (ht : r.texts = []) : r.check = 16 := by unfold FR.check; rw [if_neg (by rw [h]; decide), if_neg (by rw [ho]; decide), if_pos ⟨hk, ht⟩]
theorem FR.check_0 {r : FR} (h : r.known = true) (ho : r.off = false) (hk : ¬ (r.kind = 4 ∧ r.texts = [])) : r.check = 0 := by unfold FR.check; rw [if_neg (by rw [h]; decide), if_neg (by rw [ho]; decide), if_neg hk]

set_option maxRecDepth 20000 in
set_option maxHeartbeats 1000000 in
theorem Check_any (r : FR) (a0 : Option Addr) (n cap : Nat) (hn : r.texts.length = n) (w : World) :
    Calls Tryz.prog 12 #[.agg #[.int .i64 r.kind, .int .i64 r.least, .int .i64 r.most, .slice a0 n cap]] w fun e w' => e = .returned (.int .i64 r.check) ∧ Below w.heap.size w w' := by
  obtain ⟨k, a, b, l⟩ := r
  dsimp only at hn ⊢
  by_cases hk : 1 ≤ k ∧ k ≤ 8
  · have HK : Hid (FR.known ⟨k, a, b, l⟩ = true) := Lib.hid (decide_eq_true hk)
    have hkd : decide (1 ≤ k ∧ k ≤ 8) = true := decide_eq_true hk
    obtain ⟨hk1, hk8⟩ := hk
    have HK1 : Hid (∀ W : World, Calls Tryz.prog 39 #[.int .i64 k] W fun e w' => e = .returned (.bool true) ∧ W = w') := Lib.hid fun W => by
      have h := known_any k W
      rwa [hkd] at h
    obtain ⟨S, hS⟩ : ∃ S, spansK k = S := ⟨_, rfl⟩
    have HS : Hid (∀ (v : Value) (W : World), Calls Tryz.prog 40 #[.agg #[.int .i64 k, .int .i64 a, .int .i64 b, v]] W fun e w' => e = .returned (.bool S) ∧ Below W.heap.size W w') := Lib.hid fun v W => by
      have h := spans_any k a b v W
      rwa [hS] at h
    have HO : Hid (FR.off ⟨k, a, b, l⟩ = decide (a < 0 ∨ (S = true ∧ b < a) ∨ 4096 < a ∨ 4096 < b)) := Lib.hid (by unfold FR.off; dsimp only; rw [hS])
    clear hkd hS
    by_cases ha : a < 0
    · have HC : Hid (FR.check ⟨k, a, b, l⟩ = 7) := Lib.hid (FR.check_7 HK.out (by rw [HO.out]; exact decide_eq_true (.inl ha)))
      rw [HC.out]
      clear hn
      go_enter Tryz.func12, Tryz.ntmps12
      go_wp2_with (go_at_call 39; refine (HK1.out _).mono ?_; rintro e w' ⟨rfl, rfl⟩)
      go_ret
      exact ⟨rfl, (Below.refl _ _).alloc (Nat.le_refl _) _⟩
    · by_cases hs : S = true ∧ b < a
      · obtain ⟨rfl, hba⟩ := hs
        have HC : Hid (FR.check ⟨k, a, b, l⟩ = 7) := Lib.hid (FR.check_7 HK.out (by rw [HO.out]; exact decide_eq_true (.inr (.inl ⟨rfl, hba⟩))))
        rw [HC.out]
        clear hn
        have hb0 := (Below.refl w.heap.size w).alloc (Nat.le_refl _) (.cells #[.int .i64 k, .int .i64 a, .int .i64 b, .slice a0 n cap] 24)
        have hr0 := Row.new w 24 [.int .i64 k, .int .i64 a, .int .i64 b, .slice a0 n cap]
        have HB := Lib.hid hb0
        have HR := Lib.hid hr0
        clear hb0 hr0
        go_enter Tryz.func12, Tryz.ntmps12
        go_wp2_with fail
        refine (HK1.out _).mono ?_
        rintro e w' ⟨rfl, rfl⟩
        go_wp2_with fail
        refine (HS.out _ _).mono ?_
        rintro e w1 ⟨rfl, hb1⟩
        have hr1 := HR.out.below hb1 (by simp)
        have hB1 := HB.out.trans (hb1.mono (by simp))
        have c0 := hr1.cell 0
        have c1 := hr1.cell 1
        have c2 := hr1.cell 2
        have c3 := hr1.cell 3
        simp only [List.getElem?_cons_zero, List.getElem?_cons_succ] at c0 c1 c2 c3
        have HBB := Lib.hid hB1
        clear hb1 hr1 hB1
        go_wp2_with fail
        go_ret
        exact ⟨rfl, HBB.out⟩
      · have hsb : S = true → a ≤ b := fun h => by
          apply Classical.byContradiction
          intro hn
          exact hs ⟨h, by omega⟩
        obtain ⟨M, hM⟩ : ∃ M, (if a < b then b else a) = M := ⟨_, rfl⟩
        have hMX : Hid ((if a > b then a else b) = M) := Lib.hid (by rw [← hM]; split <;> split <;> omega)
        have hMd : Hid (decide (4096 < M) = decide (4096 < a ∨ 4096 < b)) := Lib.hid (by rw [← hM]; congr 1; apply propext; split <;> omega)
        have HOF : Hid (FR.off ⟨k, a, b, l⟩ = decide (4096 < a ∨ 4096 < b)) := Lib.hid (by rw [HO.out]; congr 1; apply propext; constructor; exact fun h => (by rcases h with h | h | h; exact absurd h ha; exact absurd h hs; exact h); exact fun h => .inr (.inr h))
        clear HO
        obtain ⟨R, HR0⟩ : ∃ R, Hid (FR.check ⟨k, a, b, l⟩ = R) := ⟨_, Lib.hid rfl⟩
        rw [HR0.out]
        have h4 : k = 4 ∨ (k == 4) = false := by
          by_cases h : k = 4
          · exact .inl h
          · exact .inr (beq_no h)
        have HRR : Hid (if decide (4096 < M) = true then R = 7 else if k = 4 ∧ n = 0 then R = 16 else R = 0) := Lib.hid (by
          rw [hMd.out, ← HOF.out, ← HR0.out]
          split
          · rename_i h; exact FR.check_7 HK.out h
          · rename_i h
            have h : FR.off ⟨k, a, b, l⟩ = false := by simpa using h
            split
            · rename_i h4
              exact FR.check_16 HK.out h h4.1 (List.eq_nil_of_length_eq_zero (by rw [hn, h4.2]))
            · rename_i h4
              exact FR.check_0 HK.out h (fun h5 => h4 ⟨h5.1, by rw [← hn, show l = [] from h5.2]; rfl⟩))
        clear hMd HOF HR0 hn
        have HM := Lib.hid hM
        have HSB := Lib.hid hsb
        clear hM hs hsb
        have hb0 : Below w.heap.size w (w.alloc (.cells #[.int .i64 k, .int .i64 a, .int .i64 b, .slice a0 n cap] 24)) := (Below.refl w.heap.size w).alloc (Nat.le_refl _) _
        have HB := Lib.hid hb0
        clear hb0
        have hMd : decide (4096 < M) = true ∨ decide (4096 < M) = false := by cases decide (4096 < M) <;> simp
        rcases hMd with hm | hm
        · have HR7 : Hid (R = 7) := Lib.hid (by have := HRR.out; rwa [if_pos hm] at this)
          have hm := of_decide_eq_true hm
          rw [HR7.out]
          clear HRR h4
          cases S with
          | false =>
            clear HSB
            go_enter Tryz.func12, Tryz.ntmps12
            go_wp2_with fail
            refine (HK1.out _).mono ?_
            rintro e w' ⟨rfl, rfl⟩
            go_wp2_with fail
            refine (HS.out _ _).mono ?_
            rintro e w1 ⟨rfl, hb1⟩
            obtain ⟨hr1, hB1⟩ := rule_after hb1
            obtain ⟨c0, c1, c2, c3⟩ := rule_cells hr1
            have HBB := Lib.hid hB1
            clear hb1 hr1 hB1
            have hMX := hMX.out
            have hM := HM.out
            go_wp2_with fail
            go_ret
            exact ⟨rfl, HBB.out⟩
          | true =>
            have hab := HSB.out rfl
            clear HSB
            go_enter Tryz.func12, Tryz.ntmps12
            go_wp2_with fail
            refine (HK1.out _).mono ?_
            rintro e w' ⟨rfl, rfl⟩
            go_wp2_with fail
            refine (HS.out _ _).mono ?_
            rintro e w1 ⟨rfl, hb1⟩
            obtain ⟨hr1, hB1⟩ := rule_after hb1
            obtain ⟨c0, c1, c2, c3⟩ := rule_cells hr1
            have HBB := Lib.hid hB1
            clear hb1 hr1 hB1
            have hMX := hMX.out
            have hM := HM.out
            go_wp2_with fail
            go_ret
            exact ⟨rfl, HBB.out⟩
        · have hrr := HRR.out
          rw [hm, if_neg (by decide)] at hrr
          have hm := of_decide_eq_false hm
          clear HRR
          have key : (k = 4 ∧ n = 0 ∧ R = 16) ∨ (k = 4 ∧ 0 < n ∧ R = 0) ∨ ((k == 4) = false ∧ R = 0) := by
            rcases h4 with h | h
            · by_cases h0 : n = 0
              · rw [if_pos ⟨h, h0⟩] at hrr; exact .inl ⟨h, h0, hrr⟩
              · rw [if_neg (fun e => h0 e.2)] at hrr; exact .inr (.inl ⟨h, by omega, hrr⟩)
            · rw [if_neg (fun e => by rw [e.1] at h; exact absurd h (by decide))] at hrr
              exact .inr (.inr ⟨h, hrr⟩)
          clear hrr h4
          rcases key with ⟨rfl, rfl, rfl⟩ | ⟨rfl, hn0, rfl⟩ | ⟨hk4, rfl⟩
          all_goals
            cases S with
            | false =>
              clear HSB
              go_enter Tryz.func12, Tryz.ntmps12
              go_wp2_with fail
              refine (HK1.out _).mono ?_
              rintro e w' ⟨rfl, rfl⟩
              go_wp2_with fail
              refine (HS.out _ _).mono ?_
              rintro e w1 ⟨rfl, hb1⟩
              obtain ⟨hr1, hB1⟩ := rule_after hb1
              obtain ⟨c0, c1, c2, c3⟩ := rule_cells hr1
              have HBB := Lib.hid hB1
              clear hb1 hr1 hB1
              have hMX := hMX.out
              have hM := HM.out
              go_wp2_with fail
              go_ret
              exact ⟨rfl, HBB.out⟩
            | true =>
              have hab := HSB.out rfl
              clear HSB
              go_enter Tryz.func12, Tryz.ntmps12
              go_wp2_with fail
              refine (HK1.out _).mono ?_
              rintro e w' ⟨rfl, rfl⟩
              go_wp2_with fail
              refine (HS.out _ _).mono ?_
              rintro e w1 ⟨rfl, hb1⟩
              obtain ⟨hr1, hB1⟩ := rule_after hb1
              obtain ⟨c0, c1, c2, c3⟩ := rule_cells hr1
              have HBB := Lib.hid hB1
              clear hb1 hr1 hB1
              have hMX := hMX.out
              have hM := HM.out
              go_wp2_with fail
              go_ret
              exact ⟨rfl, HBB.out⟩
  · have hkd : decide (1 ≤ k ∧ k ≤ 8) = false := decide_eq_false hk
    have HK1 : Hid (∀ W : World, Calls Tryz.prog 39 #[.int .i64 k] W fun e w' => e = .returned (.bool false) ∧ W = w') := Lib.hid fun W => by
      have h := known_any k W
      rwa [hkd] at h
    have HC : Hid (FR.check ⟨k, a, b, l⟩ = 11) := Lib.hid (FR.check_11 hkd)
    rw [HC.out]
    clear hkd hk hn
    go_enter Tryz.func12, Tryz.ntmps12
    go_wp2_with (go_at_call 39; refine (HK1.out _).mono ?_; rintro e w' ⟨rfl, rfl⟩)
    go_ret
    exact ⟨rfl, (Below.refl _ _).alloc (Nat.le_refl _) _⟩
end Go.Proofs.YtcecibopanfmgaaGreatDoor

namespace Go.Proofs.YtcecibopanfmgaaGreatDoor
open Go Go.Shelf Go.RowKit
def Tryz.laysPu14_ren : Go.Shelf.Ren := ⟨fun | 14 => 97 | 16 => 112 | 17 => 113 | 19 => 130 | 20 => 131 | 21 => 132 | 22 => 133 | 23 => 134 | 24 => 135 | 25 => 145 | 27 => 147 | 26 => 146 | 28 => 154 | 29 => 163 | 30 => 117 | 31 => 118 | 32 => 119 | 33 => 120 | 35 => 137 | 34 => 136 | 36 => 138 | 37 => 139 | 38 => 140 | 39 => 148 | 40 => 149 | n => n, fun | 9 => 9 | 3 => 3 | 22 => 83 | 24 => 97 | 25 => 110 | 4 => 4 | 34 => 137 | 5 => 5 | 36 => 91 | 37 => 76 | 0 => 0 | 39 => 139 | 21 => 21 | 44 => 154 | 47 => 112 | 50 => 165 | 48 => 163 | 2 => 2 | 52 => 120 | 55 => 123 | 59 => 143 | 60 => 125 | 20 => 20 | 61 => 144 | 65 => 146 | 66 => 151 | 67 => 100 | n => n, fun | 0 => 5 | 1 => 6 | 2 => 4 | 3 => 8 | 4 => 9 | n => n⟩
theorem Tryz.laysPu14 : Go.Proofs.LaysPu.n14 Tryz.prog Tryz.laysPu14_ren := {
  mixed := by kernel_rfl
  f14 := Tryz.func97.trans (congrArg some (by kernel_rfl))
  f16 := Tryz.func112.trans (congrArg some (by kernel_rfl))
  f17 := Tryz.func113.trans (congrArg some (by kernel_rfl))
  f19 := Tryz.func130.trans (congrArg some (by kernel_rfl))
  f20 := Tryz.func131.trans (congrArg some (by kernel_rfl))
  f21 := Tryz.func132.trans (congrArg some (by kernel_rfl))
  f22 := Tryz.func133.trans (congrArg some (by kernel_rfl))
  f23 := Tryz.func134.trans (congrArg some (by kernel_rfl))
  f24 := Tryz.func135.trans (congrArg some (by kernel_rfl))
  f25 := Tryz.func145.trans (congrArg some (by kernel_rfl))
  f26 := Tryz.func146.trans (congrArg some (by kernel_rfl))
  f27 := Tryz.func147.trans (congrArg some (by kernel_rfl))
  f28 := Tryz.func154.trans (congrArg some (by kernel_rfl))
  f29 := Tryz.func163.trans (congrArg some (by kernel_rfl))
  f30 := Tryz.func117.trans (congrArg some (by kernel_rfl))
  f31 := Tryz.func118.trans (congrArg some (by kernel_rfl))
  f32 := Tryz.func119.trans (congrArg some (by kernel_rfl))
  f33 := Tryz.func120.trans (congrArg some (by kernel_rfl))
  f34 := Tryz.func136.trans (congrArg some (by kernel_rfl))
  f35 := Tryz.func137.trans (congrArg some (by kernel_rfl))
  f36 := Tryz.func138.trans (congrArg some (by kernel_rfl))
  f37 := Tryz.func139.trans (congrArg some (by kernel_rfl))
  f38 := Tryz.func140.trans (congrArg some (by kernel_rfl))
  f39 := Tryz.func148.trans (congrArg some (by kernel_rfl))
  f40 := Tryz.func149.trans (congrArg some (by kernel_rfl))
  t0 := Tryz.underlying0
  a0 := Tryz.isAgg0
  z0 := Tryz.sizeOf0
  v0 := Tryz.zeroValue0
  i0 := by kernel_rfl
  t2 := Tryz.underlying2
  a2 := Tryz.isAgg2
  z2 := Tryz.sizeOf2
  v2 := Tryz.zeroValue2
  i2 := by kernel_rfl
  t3 := Tryz.underlying3
  a3 := Tryz.isAgg3
  z3 := Tryz.sizeOf3
  v3 := Tryz.zeroValue3
  i3 := by kernel_rfl
  t4 := Tryz.underlying4
  a4 := Tryz.isAgg4
  z4 := Tryz.sizeOf4
  v4 := Tryz.zeroValue4
  i4 := by kernel_rfl
  t5 := Tryz.underlying5
  a5 := Tryz.isAgg5
  z5 := Tryz.sizeOf5
  v5 := Tryz.zeroValue5
  i5 := by kernel_rfl
  t9 := Tryz.underlying9
  a9 := Tryz.isAgg9
  z9 := Tryz.sizeOf9
  v9 := Tryz.zeroValue9
  i9 := by kernel_rfl
  t20 := Tryz.underlying20
  a20 := Tryz.isAgg20
  z20 := Tryz.sizeOf20
  v20 := Tryz.zeroValue20
  i20 := by kernel_rfl
  t21 := Tryz.underlying21
  a21 := Tryz.isAgg21
  z21 := Tryz.sizeOf21
  v21 := Tryz.zeroValue21
  i21 := by kernel_rfl
  t22 := Tryz.underlying83
  a22 := Tryz.isAgg83
  z22 := Tryz.sizeOf83
  v22 := Tryz.zeroValue83
  i22 := by kernel_rfl
  t24 := Tryz.underlying97
  a24 := Tryz.isAgg97
  z24 := Tryz.sizeOf97
  v24 := Tryz.zeroValue97
  i24 := by kernel_rfl
  t25 := Tryz.underlying110
  a25 := Tryz.isAgg110
  z25 := Tryz.sizeOf110
  v25 := Tryz.zeroValue110
  i25 := by kernel_rfl
  t34 := Tryz.underlying137
  a34 := Tryz.isAgg137
  z34 := Tryz.sizeOf137
  v34 := Tryz.zeroValue137
  i34 := by kernel_rfl
  c34 := by kernel_rfl
  t36 := Tryz.underlying91
  a36 := Tryz.isAgg91
  z36 := Tryz.sizeOf91
  v36 := Tryz.zeroValue91
  i36 := by kernel_rfl
  t37 := Tryz.underlying76
  a37 := Tryz.isAgg76
  z37 := Tryz.sizeOf76
  v37 := Tryz.zeroValue76
  i37 := by kernel_rfl
  t39 := Tryz.underlying139
  a39 := Tryz.isAgg139
  z39 := Tryz.sizeOf139
  v39 := Tryz.zeroValue139
  i39 := by kernel_rfl
  t44 := Tryz.underlying154
  a44 := Tryz.isAgg154
  z44 := Tryz.sizeOf154
  v44 := Tryz.zeroValue154
  i44 := by kernel_rfl
  t47 := Tryz.underlying112
  a47 := Tryz.isAgg112
  z47 := Tryz.sizeOf112
  v47 := Tryz.zeroValue112
  i47 := by kernel_rfl
  t48 := Tryz.underlying163
  a48 := Tryz.isAgg163
  z48 := Tryz.sizeOf163
  v48 := Tryz.zeroValue163
  i48 := by kernel_rfl
  t50 := Tryz.underlying165
  a50 := Tryz.isAgg165
  z50 := Tryz.sizeOf165
  v50 := Tryz.zeroValue165
  i50 := by kernel_rfl
  t52 := Tryz.underlying120
  a52 := Tryz.isAgg120
  z52 := Tryz.sizeOf120
  v52 := Tryz.zeroValue120
  i52 := by kernel_rfl
  t55 := Tryz.underlying123
  a55 := Tryz.isAgg123
  z55 := Tryz.sizeOf123
  v55 := Tryz.zeroValue123
  i55 := by kernel_rfl
  t59 := Tryz.underlying143
  a59 := Tryz.isAgg143
  z59 := Tryz.sizeOf143
  v59 := Tryz.zeroValue143
  i59 := by kernel_rfl
  t60 := Tryz.underlying125
  a60 := Tryz.isAgg125
  z60 := Tryz.sizeOf125
  v60 := Tryz.zeroValue125
  i60 := by kernel_rfl
  t61 := Tryz.underlying144
  a61 := Tryz.isAgg144
  z61 := Tryz.sizeOf144
  t65 := Tryz.underlying146
  a65 := Tryz.isAgg146
  z65 := Tryz.sizeOf146
  v65 := Tryz.zeroValue146
  i65 := by kernel_rfl
  t66 := Tryz.underlying151
  a66 := Tryz.isAgg151
  z66 := Tryz.sizeOf151
  v66 := Tryz.zeroValue151
  i66 := by kernel_rfl
  t67 := Tryz.underlying100
  a67 := Tryz.isAgg100
  z67 := Tryz.sizeOf100
  v67 := Tryz.zeroValue100
  i67 := by kernel_rfl
  g0 := by kernel_rfl
  m0 := by kernel_rfl
  g1 := by kernel_rfl
  m1 := by kernel_rfl
  g2 := by kernel_rfl
  m2 := by kernel_rfl
  g3 := by kernel_rfl
  m3 := by kernel_rfl
  g4 := by kernel_rfl
  m4 := by kernel_rfl }
open Go.RowKit in
theorem Tryz.strconv_ParseUint_10_at64_ok (s : ByteArray) (hmax : s.size ≤ 9223372036854775806) (u : Nat) (h : Lib.parseUintB 64 s.data.toList = .ok u) (w : World) :
    Calls Tryz.prog 97 #[.string s, .int .i64 10, .int .i64 64] w fun e w' => e = .returned (.tuple #[.int .u64 u, .nilIface]) ∧ (w' = w ∨ w' = Lib.bytesWorld w 5 s) := Any.strconv_ParseUint_10_at64_ok Tryz.laysPu14 s hmax u h w
end Go.Proofs.YtcecibopanfmgaaGreatDoor

namespace Go.Proofs.YtcecibopanfmgaaGreatDoor
open Go.RowKit
set_option linter.unusedVariables false

/-- How many days a month has. -/
def leapB (y : Int) : Bool := decide (y % 4 = 0 ∧ ¬ y % 100 = 0 ∨ y % 400 = 0)
def daysN (y m : Int) : Int :=
  if y < 0 ∨ 9999 < y then 0
  else if m = 1 ∨ m = 3 ∨ m = 5 ∨ m = 7 ∨ m = 8 ∨ m = 10 ∨ m = 12 then 31
  else if m = 4 ∨ m = 6 ∨ m = 9 ∨ m = 11 then 30
  else if m = 2 then (if leapB y then 29 else 28)
  else 0

theorem leap_any (y : Int) (w : World) (h0 : 0 ≤ y) (h1 : y ≤ 9999) : Calls Tryz.prog 80 #[.int .i64 y] w fun e w' => e = .returned (.bool (leapB y)) ∧ w = w' := by
  by_cases h4 : y % 4 = 0
  · by_cases h100 : y % 100 = 0
    · by_cases h400 : y % 400 = 0
      · have hl : leapB y = true := by unfold leapB; simp; omega
        rw [hl]
        go_enter Tryz.func80, Tryz.ntmps80
        go_wp2
        go_ret
        exact ⟨rfl, rfl⟩
      · have hl : leapB y = false := by unfold leapB; simp; omega
        rw [hl]
        have hb : (y % 400 == 0) = false := by simp; omega
        go_enter Tryz.func80, Tryz.ntmps80
        go_wp2
        go_ret
        exact ⟨rfl, rfl⟩
    · have hl : leapB y = true := by unfold leapB; simp; omega
      rw [hl]
      have hb : (y % 100 == 0) = false := by simp; omega
      have hb2 : (y % 100 != 0) = true := by simp; omega
      go_enter Tryz.func80, Tryz.ntmps80
      go_wp2
      go_ret
      exact ⟨rfl, rfl⟩
  · have hl : leapB y = false := by unfold leapB; simp; omega
    rw [hl]
    have hb : (y % 4 == 0) = false := by simp; omega
    have hb2 : (y % 400 == 0) = false := by simp; omega
    go_enter Tryz.func80, Tryz.ntmps80
    go_wp2
    go_ret
    exact ⟨rfl, rfl⟩

theorem dz {y m : Int} (h : y < 0 ∨ 9999 < y) : daysN y m = 0 := by unfold daysN; rw [if_pos h]
theorem dy {y m : Int} (h : ¬ (y < 0 ∨ 9999 < y)) : daysN y m = if m = 1 ∨ m = 3 ∨ m = 5 ∨ m = 7 ∨ m = 8 ∨ m = 10 ∨ m = 12 then 31
  else if m = 4 ∨ m = 6 ∨ m = 9 ∨ m = 11 then 30
  else if m = 2 then (if leapB y then 29 else 28)
  else 0 := by unfold daysN; rw [if_neg h]
/-- A month's days as the document has them: by the list. -/
def monthL : List Int := [31, 28, 31, 30, 31, 30, 31, 31, 30, 31, 30, 31]

theorem m_cases (m : Int) : m = 1 ∨ m = 2 ∨ m = 3 ∨ m = 4 ∨ m = 5 ∨ m = 6 ∨ m = 7 ∨ m = 8 ∨ m = 9 ∨ m = 10 ∨ m = 11 ∨ m = 12 ∨ (m < 1 ∨ 12 < m) := by omega

set_option maxHeartbeats 1000000 in
theorem Days_any (y m : Int) (w : World) : Calls Tryz.prog 58 #[.int .i64 y, .int .i64 m] w fun e w' => e = .returned (.int .i64 (daysN y m)) ∧ w = w' := by
  by_cases h0 : y < 0
  · rw [dz (.inl h0)]
    go_enter Tryz.func58, Tryz.ntmps58
    go_wp2
    go_ret
    exact ⟨rfl, rfl⟩
  · by_cases h1 : 9999 < y
    · rw [dz (.inr h1)]
      go_enter Tryz.func58, Tryz.ntmps58
      go_wp2
      go_ret
      exact ⟨rfl, rfl⟩
    · rw [dy (by omega)]
      have g0 : 0 ≤ y := by omega
      have g1 : y ≤ 9999 := by omega
      rcases m_cases m with rfl | rfl | rfl | rfl | rfl | rfl | rfl | rfl | rfl | rfl | rfl | rfl | hm
      case inr.inl =>
        have e2 : (if (2 : Int) = 1 ∨ (2 : Int) = 3 ∨ (2 : Int) = 5 ∨ (2 : Int) = 7 ∨ (2 : Int) = 8 ∨ (2 : Int) = 10 ∨ (2 : Int) = 12 then (31 : Int)
          else if (2 : Int) = 4 ∨ (2 : Int) = 6 ∨ (2 : Int) = 9 ∨ (2 : Int) = 11 then 30
          else if (2 : Int) = 2 then (if leapB y then 29 else 28)
          else 0) = if leapB y then 29 else 28 := by rw [if_neg (by omega), if_neg (by omega), if_pos rfl]
        rw [e2]
        clear e2
        cases hL : leapB y with
        | true =>
          rw [if_pos rfl]
          go_enter Tryz.func58, Tryz.ntmps58
          go_wp2_with (go_at_call 80; refine (leap_any y _ g0 g1).mono ?_; rintro e w' ⟨rfl, rfl⟩; rw [hL])
          go_ret
          exact ⟨rfl, rfl⟩
        | false =>
          rw [if_neg (by decide)]
          go_enter Tryz.func58, Tryz.ntmps58
          go_wp2_with (go_at_call 80; refine (leap_any y _ g0 g1).mono ?_; rintro e w' ⟨rfl, rfl⟩; rw [hL])
          go_ret
          exact ⟨rfl, rfl⟩
      all_goals
        go_enter Tryz.func58, Tryz.ntmps58
        go_wp2
        go_ret
        exact ⟨rfl, rfl⟩

/-- The number of digits. -/
def valF (a : Nat) (l : List UInt8) : Nat := l.foldl (fun a c => a * 10 + dv c) a
def val (l : List UInt8) : Nat := valF 0 l
theorem valF_cons (a : Nat) (c : UInt8) (l : List UInt8) : valF a (c :: l) = valF (a * 10 + dv c) l := by unfold valF; rw [List.foldl_cons]
theorem valF_snoc (a : Nat) (c : UInt8) (l : List UInt8) : valF a (l ++ [c]) = valF a l * 10 + dv c := by simp [valF, List.foldl_append]
def p10 : Nat → Nat
  | 0 => 1
  | k + 1 => p10 k * 10
theorem p10_le {k : Nat} (h : k ≤ 4) : p10 k ≤ 10000 := by
  rcases (by omega : k = 0 ∨ k = 1 ∨ k = 2 ∨ k = 3 ∨ k = 4) with rfl | rfl | rfl | rfl | rfl <;> decide
theorem parse_ok (M : Nat) (hM : 18446744073709551615 ≤ M) : ∀ (l : List UInt8) (acc k : Nat), (∀ c ∈ l, isDig c = true) → acc < p10 k → k + l.length ≤ 4 → Lib.parseUintM M acc l = .ok (valF acc l) ∧ valF acc l < p10 (k + l.length) := by
  intro l
  induction l with
  | nil => intro acc k _ h _; exact ⟨rfl, h⟩
  | cons c l ih =>
    intro acc k hd ha hk
    rw [List.length_cons] at hk
    have hc := hd c List.mem_cons_self
    have hc2 := (isDig_iff c).1 hc
    have hv := dv_le hc
    have h17 := p10_le (k := k) (by omega)
    have hn : acc * 10 + dv c < p10 (k + 1) := by show acc * 10 + dv c < p10 k * 10; omega
    obtain ⟨h1, h2⟩ := ih (acc * 10 + dv c) (k + 1) (fun d h => hd d (List.mem_cons_of_mem _ h)) hn (by omega)
    have a1 : ¬ 1844674407370955162 ≤ acc := by omega
    have a2 : ¬ M < acc * 10 + (c.toNat - 48) := by
      have hv2 : c.toNat - 48 ≤ 9 := hv
      omega
    refine ⟨?_, ?_⟩
    · rw [valF_cons]
      unfold Lib.parseUintM
      rw [if_pos hc2, if_neg a1, if_neg a2]
      exact h1
    · rw [valF_cons, List.length_cons, show k + (l.length + 1) = k + 1 + l.length by omega]
      exact h2
theorem parseB_ok {s : ByteArray} (hd : isD s = true) (h : s.size ≤ 4) : Lib.parseUintB 64 s.data.toList = .ok (val s.data.toList) ∧ val s.data.toList ≤ 9999 := by
  obtain ⟨h0, hall⟩ := (isD_iff s).1 hd
  have hl : s.data.toList.length = s.size := by simp
  obtain ⟨h1, h2⟩ := parse_ok (2 ^ 64 - 1) (by decide) s.data.toList 0 0 hall (by decide) (by omega)
  refine ⟨?_, ?_⟩
  · unfold Lib.parseUintB
    rw [if_neg (by intro e; rw [e] at hl; simp at hl; omega), h1]
    rfl
  · have h3 := p10_le (k := 0 + s.data.toList.length) (by omega)
    have h5 : val s.data.toList < p10 (0 + s.data.toList.length) := h2
    omega

theorem bytes_below (W : World) (e : TypeId) (s : ByteArray) : Below W.heap.size W (Lib.bytesWorld W e s) :=
  ⟨by simp [Lib.bytesWorld, World.freeze, World.alloc, World.drew, -World.alloc_eq, -World.drew_eq], by simp [Lib.bytesWorld, World.freeze, World.alloc, World.drew, -World.alloc_eq, -World.drew_eq], by simp [Lib.bytesWorld, World.freeze, World.alloc, World.drew, -World.alloc_eq, -World.drew_eq], by rw [Lib.bytesWorld_size]; omega, fun j hj => Lib.bytesWorld_at_old W e s j hj⟩

set_option maxHeartbeats 400000 in
theorem Number_few (s : ByteArray) (w : World) (hd : isD s = true) (hs : s.size ≤ 4) :
    Calls Tryz.prog 79 #[.string s] w fun e w' => e = .returned (.tuple #[.int .u64 (val s.data.toList : Nat), .int .i64 0]) ∧ Below w.heap.size w w' := by
  obtain ⟨hp, hv⟩ := parseB_ok hd hs
  have HP := Lib.hid hp
  clear hp
  go_enter Tryz.func79, Tryz.ntmps79
  go_wp2_with first
    | (go_at_call 49; refine (Is_any _ _ (by omega)).mono ?_; rintro e w' ⟨rfl, rfl⟩; rw [hd])
    | (go_at_call 97; refine (Tryz.strconv_ParseUint_10_at64_ok s (by omega) _ HP.out _).mono ?_; rintro e w' ⟨rfl, hw⟩)
  go_ret2
  refine ⟨rfl, ?_⟩
  rcases hw with rfl | rfl
  · exact Below.refl _ _
  · exact bytes_below _ _ _

set_option maxHeartbeats 400000 in
theorem few_any (s : ByteArray) (w : World) (hd : isD s = true) (hs : s.size ≤ 4) :
    Calls Tryz.prog 57 #[.string s] w fun e w' => e = .returned (.int .i64 (val s.data.toList : Nat)) ∧ Below w.heap.size w w' := by
  have hv := (parseB_ok hd hs).2
  go_enter Tryz.func57, Tryz.ntmps57
  go_wp2_with (go_at_call 79; refine (Number_few s _ hd hs).mono ?_; rintro e w' ⟨rfl, hB⟩)
  go_ret
  exact ⟨rfl, hB⟩
end Go.Proofs.YtcecibopanfmgaaGreatDoor

namespace Go.Proofs.YtcecibopanfmgaaGreatDoor
open Go.RowKit
set_option linter.unusedVariables false

/-- The number that a piece of the text spells. -/
def fl (s : ByteArray) (a b : Nat) : Nat := val (s.extract a b).data.toList
def dateBad (y m d h mi se : Nat) : Prop := d < 1 ∨ daysN y m < (d : Int) ∨ 23 < h ∨ 59 < mi ∨ 59 < se
instance (y m d h mi se : Nat) : Decidable (dateBad y m d h mi se) := by unfold dateBad; exact inferInstance
def dateN (s : ByteArray) : Int :=
  if s.size = 14 ∧ isD s = true then (if dateBad (fl s 0 4) (fl s 4 6) (fl s 6 8) (fl s 8 10) (fl s 10 12) (fl s 12 14) then 7 else 0) else 4

theorem isD_part {s : ByteArray} (hd : isD s = true) {a b : Nat} (h1 : a < b) (h2 : b ≤ s.size) : isD (s.extract a b) = true := by
  refine (isD_iff _).2 ⟨by rw [ByteArray.size_extract]; omega, fun c hc => ((isD_iff s).1 hd).2 c ?_⟩
  rw [ByteArray.data_extract, Array.toList_extract, List.extract_eq_take_drop] at hc
  exact List.mem_of_mem_drop (List.mem_of_mem_take hc)
theorem fl_le {s : ByteArray} (hd : isD s = true) {a b : Nat} (h1 : a < b) (h2 : b ≤ s.size) (h4 : b - a ≤ 4) : fl s a b ≤ 9999 :=
  (parseB_ok (isD_part hd h1 h2) (by rw [ByteArray.size_extract]; omega)).2
theorem few_part {s : ByteArray} (hd : isD s = true) {a b : Nat} (h1 : a < b) (h2 : b ≤ s.size) (h4 : b - a ≤ 4) (w : World) :
    Calls Tryz.prog 57 #[.string (s.extract a b)] w fun e w' => e = .returned (.int .i64 (fl s a b : Nat)) ∧ Below w.heap.size w w' :=
  few_any (s.extract a b) w (isD_part hd h1 h2) (by rw [ByteArray.size_extract]; omega)

theorem below_drewN_d {B : Nat} {a w : World} (h : Below B a w) (n : Nat) : Below B a (w.drewN n) := ⟨h.os, h.tape, h.output, h.size, h.block⟩

theorem below6 {A B C D E F G : World} (h1 : Below A.heap.size A B) (h2 : Below B.heap.size B C) (h3 : Below C.heap.size C D) (h4 : Below D.heap.size D E) (h5 : Below E.heap.size E F) (h6 : Below F.heap.size F G) : Below A.heap.size A G := by
  have e1 := h1.size
  have e2 := h2.size
  have e3 := h3.size
  have e4 := h4.size
  have e5 := h5.size
  exact h1.trans ((h2.mono e1).trans ((h3.mono (by omega)).trans ((h4.mono (by omega)).trans ((h5.mono (by omega)).trans (h6.mono (by omega))))))

theorem dateN_not {s : ByteArray} (h : ¬ (s.size = 14 ∧ isD s = true)) : dateN s = 4 := by unfold dateN; rw [if_neg h]

set_option maxRecDepth 100000 in
set_option maxHeartbeats 2000000 in
theorem Date_is (s : ByteArray) (w : World) (h14 : s.size = 14) (hd : isD s = true) :
    Calls Tryz.prog 30 #[.string s] w fun e w' => e = .returned (.int .i64 (dateN s)) ∧ Below w.heap.size w w' := by
  have e : dateN s = if dateBad (fl s 0 4) (fl s 4 6) (fl s 6 8) (fl s 8 10) (fl s 10 12) (fl s 12 14) then 7 else 0 := by unfold dateN; rw [if_pos ⟨h14, hd⟩]
  have k1 := fl_le hd (a := 0) (b := 4) (by omega) (by omega) (by omega)
  have k2 := fl_le hd (a := 4) (b := 6) (by omega) (by omega) (by omega)
  have k3 := fl_le hd (a := 6) (b := 8) (by omega) (by omega) (by omega)
  have k4 := fl_le hd (a := 8) (b := 10) (by omega) (by omega) (by omega)
  have k5 := fl_le hd (a := 10) (b := 12) (by omega) (by omega) (by omega)
  have k6 := fl_le hd (a := 12) (b := 14) (by omega) (by omega) (by omega)
  have C1 := Lib.hid (fun W => few_part hd (a := 0) (b := 4) (by omega) (by omega) (by omega) W)
  have C2 := Lib.hid (fun W => few_part hd (a := 4) (b := 6) (by omega) (by omega) (by omega) W)
  have C3 := Lib.hid (fun W => few_part hd (a := 6) (b := 8) (by omega) (by omega) (by omega) W)
  have C4 := Lib.hid (fun W => few_part hd (a := 8) (b := 10) (by omega) (by omega) (by omega) W)
  have C5 := Lib.hid (fun W => few_part hd (a := 10) (b := 12) (by omega) (by omega) (by omega) W)
  have C6 := Lib.hid (fun W => few_part hd (a := 12) (b := 14) (by omega) (by omega) (by omega) W)
  rw [e]
  clear e
  generalize fl s 0 4 = y at *
  generalize fl s 4 6 = m at *
  generalize fl s 6 8 = d at *
  generalize fl s 8 10 = h at *
  generalize fl s 10 12 = mi at *
  generalize fl s 12 14 = se at *
  obtain ⟨D, hD⟩ : ∃ D, daysN y m = D := ⟨_, rfl⟩
  have HD := Lib.hid hD
  have HI := Lib.hid hd
  have h14i : (s.size : Int) = 14 := by omega
  have hres : (if dateBad y m d h mi se then (7 : Int) else 0) = if d < 1 then 7 else if D < d then 7 else if 23 < h then 7 else if 59 < mi then 7 else if 59 < se then 7 else 0 := by
    by_cases hb : dateBad y m d h mi se
    · rw [if_pos hb]
      unfold dateBad at hb
      rw [hD] at hb
      repeat' split
      all_goals omega
    · rw [if_neg hb]
      unfold dateBad at hb
      rw [hD] at hb
      repeat' split
      all_goals omega
  rw [hres]
  clear hres hD hd
  obtain ⟨R, hR⟩ : ∃ R : Int, (if d < 1 then 7 else if D < d then 7 else if 23 < h then 7 else if 59 < mi then 7 else if 59 < se then 7 else 0) = R := ⟨_, rfl⟩
  rw [hR]
  have HR := Lib.hid hR
  clear hR
  go_enter Tryz.func30, Tryz.ntmps30
  go_wp2_with (go_at_call 49; refine (Is_any _ _ (by omega)).mono ?_; rintro e w' ⟨rfl, rfl⟩; rw [HI.out])
  refine region_quiet_lit (Below w.heap.size w) (by kernel_rfl) (by kernel_rfl) (below_drewN_d (Below.refl _ _) 1) ?_
  repeat (go_big_quiet_step ((first
        | (intro hC; with_reducible rfl)
        | (intro hC; go_at_call_of 57 (Value.string (s.extract 0 4)); refine (C1.out _).mono ?_; rintro e w'' ⟨rfl, hb⟩; exact ⟨rfl, hC.trans (hb.mono hC.size)⟩)
        | (intro hC; go_at_call_of 57 (Value.string (s.extract 4 6)); refine (C2.out _).mono ?_; rintro e w'' ⟨rfl, hb⟩; exact ⟨rfl, hC.trans (hb.mono hC.size)⟩)
        | (intro hC; go_at_call_of 57 (Value.string (s.extract 6 8)); refine (C3.out _).mono ?_; rintro e w'' ⟨rfl, hb⟩; exact ⟨rfl, hC.trans (hb.mono hC.size)⟩))))
  refine wpQuiet_nil ?_
  intro wd hwd
  go_wp2_with fail
  refine region_quiet_lit (Below w.heap.size w) (by kernel_rfl) (by kernel_rfl) (below_drewN_d hwd 1) ?_
  repeat (go_big_quiet_step ((first
        | (intro hC; with_reducible rfl)
        | (intro hC; go_at_call_of 57 (Value.string (s.extract 8 10)); refine (C4.out _).mono ?_; rintro e w'' ⟨rfl, hb⟩; exact ⟨rfl, hC.trans (hb.mono hC.size)⟩)
        | (intro hC; go_at_call_of 57 (Value.string (s.extract 10 12)); refine (C5.out _).mono ?_; rintro e w'' ⟨rfl, hb⟩; exact ⟨rfl, hC.trans (hb.mono hC.size)⟩)
        | (intro hC; go_at_call_of 57 (Value.string (s.extract 12 14)); refine (C6.out _).mono ?_; rintro e w'' ⟨rfl, hb⟩; exact ⟨rfl, hC.trans (hb.mono hC.size)⟩))))
  refine wpQuiet_nil ?_
  intro we hwe
  go_wp2_with (go_at_call 58; refine (Days_any _ _ _).mono ?_; rintro e w' ⟨rfl, rfl⟩; rw [HD.out])
  all_goals go_ret
  all_goals have hh := HR.out
  all_goals refine ⟨ret_int_d ?_, hwe⟩
  all_goals rw [← hh]
  all_goals clear C1 C2 C3 C4 C5 C6 HD HI HR hh
  all_goals (repeat' split)
  all_goals omega

set_option maxHeartbeats 400000 in
theorem Date_not (s : ByteArray) (w : World) (hs : s.size ≤ 1000) (h : ¬ (s.size = 14 ∧ isD s = true)) :
    Calls Tryz.prog 30 #[.string s] w fun e w' => e = .returned (.int .i64 (dateN s)) ∧ w = w' := by
  rw [dateN_not h]
  by_cases h14 : s.size = 14
  · have hd : isD s = false := by cases hb : isD s with
      | false => rfl
      | true => exact absurd ⟨h14, hb⟩ h
    have h14i : (s.size : Int) = 14 := by omega
    clear h
    go_enter Tryz.func30, Tryz.ntmps30
    go_wp2_with (go_at_call 49; refine (Is_any _ _ (by omega)).mono ?_; rintro e w' ⟨rfl, rfl⟩; rw [hd])
    go_ret
    exact ⟨rfl, rfl⟩
  · have hb : ((s.size : Int) == 14) = false := by simp; omega
    have hb2 : ((s.size : Int) != 14) = true := by simp; omega
    clear h h14
    go_enter Tryz.func30, Tryz.ntmps30
    go_wp2
    go_ret
    exact ⟨rfl, rfl⟩

theorem Date_any (s : ByteArray) (w : World) (hs : s.size ≤ 1000) :
    Calls Tryz.prog 30 #[.string s] w fun e w' => e = .returned (.int .i64 (dateN s)) ∧ Below w.heap.size w w' := by
  by_cases h : s.size = 14 ∧ isD s = true
  · exact Date_is s w h.1 h.2
  · exact (Date_not s w hs h).mono fun e w' hh => ⟨hh.1, hh.2 ▸ Below.refl _ _⟩

/-- The document's list of the months' days. -/
def monL : List Int := [31, 28, 31, 30, 31, 30, 31, 31, 30, 31, 30, 31]
end Go.Proofs.YtcecibopanfmgaaGreatDoor

namespace Go.Proofs.YtcecibopanfmgaaGreatDoor
open Go.RowKit
set_option linter.unusedVariables false

def winB (a b : Int) (n : Nat) : Bool := decide (a ≤ n) && decide ((n : Int) ≤ b)
/-- It is an id's text, and that id isn't zero. -/
noncomputable def idB (s : ByteArray) : Bool := @decide (∃ l, IsId s.data.toList l ∧ l ≠ List.replicate 16 0) (Classical.propDecidable _)
/-- It is the writing of just so many bytes. -/
def proofB (a : Int) (s : ByteArray) : Bool := decide (encS stdS 6 true (decS stdS 6 s) = s) && decide (((decS stdS 6 s).size : Int) = a)
noncomputable def fitK (k a b : Int) (l : List ByteArray) (s : ByteArray) : Bool :=
  if k = 1 then winB a b s.size && figB s
  else if k = 2 then winB a b (runesB s).length && plainB s
  else if k = 3 then idB s
  else if k = 4 then Lib.containsS l s
  else if k = 5 then decide (cardN s = 0)
  else if k = 6 then decide (dateN s = 0)
  else if k = 7 then proofB a s
  else winB a b s.size && figB s && leadB s
noncomputable def FR.fits (r : FR) (s : ByteArray) : Bool := if r.check = 0 then fitK r.kind r.least r.most r.texts s else false

theorem idB_yes {s : ByteArray} {l : List UInt8} (h : IsId s.data.toList l) : idB s = !decide (l = List.replicate 16 0) := by
  unfold idB
  by_cases hz : l = List.replicate 16 0
  · rw [decide_eq_true hz]
    refine @decide_eq_false _ (_) ?_
    rintro ⟨m, hm, hne⟩
    exact hne ((hm.uniq h).trans hz)
  · rw [decide_eq_false hz]
    exact @decide_eq_true _ (_) ⟨l, h, hz⟩
theorem idB_no {s : ByteArray} (h : ∀ l, ¬ IsId s.data.toList l) : idB s = false := by
  unfold idB
  exact @decide_eq_false _ (_) (fun ⟨l, hl, _⟩ => h l hl)

set_option maxRecDepth 20000 in
set_option maxHeartbeats 1000000 in
theorem Fits_not (r : FR) (hc : r.check ≠ 0) (a0 : Option Addr) (n cap : Nat) (hn : r.texts.length = n) (s : ByteArray) (w : World) :
    Calls Tryz.prog 10 #[.agg #[.int .i64 r.kind, .int .i64 r.least, .int .i64 r.most, .slice a0 n cap], .string s] w fun e w' => e = .returned (.bool false) ∧ Below w.heap.size w w' := by
  have HC : Hid (∀ W : World, Calls Tryz.prog 12 #[.agg #[.int .i64 r.kind, .int .i64 r.least, .int .i64 r.most, .slice a0 n cap]] W fun e w' => e = .returned (.int .i64 r.check) ∧ Below W.heap.size W w') := Lib.hid fun W => Check_any r a0 n cap hn W
  obtain ⟨C, hC⟩ : ∃ C, r.check = C := ⟨_, rfl⟩
  rw [hC] at HC hc
  have hC0 : (C != 0) = true := by rw [bne_iff_ne]; exact hc
  obtain ⟨k, a, b, l⟩ := r
  dsimp only at HC ⊢
  clear hC hn hc
  go_enter Tryz.func10, Tryz.ntmps10
  go_wp2_with fail
  refine (HC.out _).mono ?_
  rintro e w1 ⟨rfl, hb1⟩
  obtain ⟨hr1, hB1⟩ := rule_after hb1
  have HB := Lib.hid hB1
  clear hb1 hr1 hB1
  go_wp2_with fail
  go_ret
  exact ⟨rfl, HB.out⟩

set_option maxRecDepth 20000 in
set_option maxHeartbeats 2000000 in
theorem Fits_1 (a b : Int) (l : List ByteArray) (hc : FR.check ⟨1, a, b, l⟩ = 0) (a0 : Option Addr) (n cap : Nat) (hn : l.length = n) (s : ByteArray) (hs : s.size ≤ 1000) (w : World) :
    Calls Tryz.prog 10 #[.agg #[.int .i64 1, .int .i64 a, .int .i64 b, .slice a0 n cap], .string s] w fun e w' => e = .returned (.bool (winB a b s.size && figB s)) ∧ Below w.heap.size w w' := by
  have HC : Hid (∀ W : World, Calls Tryz.prog 12 #[.agg #[.int .i64 1, .int .i64 a, .int .i64 b, .slice a0 n cap]] W fun e w' => e = .returned (.int .i64 0) ∧ Below W.heap.size W w') := Lib.hid fun W => by
    have h := Check_any ⟨1, a, b, l⟩ a0 n cap hn W
    rw [hc] at h
    exact h
  clear hc
  obtain ⟨B, HBw⟩ : ∃ B, Hid (winB a b s.size = B) := ⟨_, Lib.hid rfl⟩
  have HW : Hid (∀ (v : Value) (W : World), Calls Tryz.prog 22 #[.agg #[.int .i64 1, .int .i64 a, .int .i64 b, v], .int .i64 (s.size : Nat)] W fun e w' => e = .returned (.bool B) ∧ Below W.heap.size W w') := Lib.hid fun v W => by rw [← HBw.out]; exact within_any 1 a b v s.size W
  rw [HBw.out]
  clear hn
  cases B with
  | false =>
    go_enter Tryz.func10, Tryz.ntmps10
    go_wp2_with fail
    refine (HC.out _).mono ?_
    rintro e w1 ⟨rfl, hb1⟩
    obtain ⟨hr1, hB1⟩ := rule_after hb1
    obtain ⟨c0, c1, c2, c3⟩ := rule_cells hr1
    have HR := Lib.hid hr1
    have HB := Lib.hid hB1
    have HB0 := Lib.hid hb1
    clear hb1 hr1 hB1
    go_wp2_with fail
    refine (HW.out _ _).mono ?_
    rintro e w2 ⟨rfl, hb2⟩
    go_wp2_with fail
    go_ret
    exact ⟨rfl, HB.out.trans (hb2.mono HB.out.size)⟩
  | true =>
    go_enter Tryz.func10, Tryz.ntmps10
    go_wp2_with fail
    refine (HC.out _).mono ?_
    rintro e w1 ⟨rfl, hb1⟩
    obtain ⟨hr1, hB1⟩ := rule_after hb1
    obtain ⟨c0, c1, c2, c3⟩ := rule_cells hr1
    have HR := Lib.hid hr1
    have HB := Lib.hid hB1
    have HB0 := Lib.hid hb1
    clear hb1 hr1 hB1
    go_wp2_with fail
    refine (HW.out _ _).mono ?_
    rintro e w2 ⟨rfl, hb2⟩
    go_wp2_with fail
    refine (figures_any s _ (by omega)).mono ?_
    rintro e w3 ⟨rfl, rfl⟩
    go_wp2_with fail
    go_ret
    exact ⟨ret_boolE (by rw [Bool.true_and]), HB.out.trans (hb2.mono HB.out.size)⟩

set_option maxRecDepth 20000 in
set_option maxHeartbeats 2000000 in
theorem Fits_5 (a b : Int) (l : List ByteArray) (hc : FR.check ⟨5, a, b, l⟩ = 0) (a0 : Option Addr) (n cap : Nat) (hn : l.length = n) (s : ByteArray) (hs : s.size ≤ 1000) (w : World) :
    Calls Tryz.prog 10 #[.agg #[.int .i64 5, .int .i64 a, .int .i64 b, .slice a0 n cap], .string s] w fun e w' => e = .returned (.bool (decide (cardN s = 0))) ∧ Below w.heap.size w w' := by
  have HC : Hid (∀ W : World, Calls Tryz.prog 12 #[.agg #[.int .i64 5, .int .i64 a, .int .i64 b, .slice a0 n cap]] W fun e w' => e = .returned (.int .i64 0) ∧ Below W.heap.size W w') := Lib.hid fun W => by
    have h := Check_any ⟨5, a, b, l⟩ a0 n cap hn W
    rw [hc] at h
    exact h
  clear hc
  obtain ⟨C, HCd⟩ : ∃ C, Hid (cardN s = C) := ⟨_, Lib.hid rfl⟩
  have HX : Hid (∀ W : World, Calls Tryz.prog 29 #[.string s] W fun e w' => e = .returned (.int .i64 C) ∧ Below W.heap.size W w') := Lib.hid fun W => by rw [← HCd.out]; exact Card_any s W hs
  rw [HCd.out]
  clear hn
  go_enter Tryz.func10, Tryz.ntmps10
  go_wp2_with fail
  refine (HC.out _).mono ?_
  rintro e w1 ⟨rfl, hb1⟩
  obtain ⟨hr1, hB1⟩ := rule_after hb1
  obtain ⟨c0, c1, c2, c3⟩ := rule_cells hr1
  have HR := Lib.hid hr1
  have HB := Lib.hid hB1
  have HB0 := Lib.hid hb1
  clear hb1 hr1 hB1
  go_wp2_with fail
  refine (HX.out _).mono ?_
  rintro e w2 ⟨rfl, hb2⟩
  go_wp2_with fail
  go_ret
  exact ⟨ret_boolE (by rw [Bool.eq_iff_iff]; simp), HB.out.trans (hb2.mono HB.out.size)⟩

set_option maxRecDepth 20000 in
set_option maxHeartbeats 2000000 in
theorem Fits_6 (a b : Int) (l : List ByteArray) (hc : FR.check ⟨6, a, b, l⟩ = 0) (a0 : Option Addr) (n cap : Nat) (hn : l.length = n) (s : ByteArray) (hs : s.size ≤ 1000) (w : World) :
    Calls Tryz.prog 10 #[.agg #[.int .i64 6, .int .i64 a, .int .i64 b, .slice a0 n cap], .string s] w fun e w' => e = .returned (.bool (decide (dateN s = 0))) ∧ Below w.heap.size w w' := by
  have HC : Hid (∀ W : World, Calls Tryz.prog 12 #[.agg #[.int .i64 6, .int .i64 a, .int .i64 b, .slice a0 n cap]] W fun e w' => e = .returned (.int .i64 0) ∧ Below W.heap.size W w') := Lib.hid fun W => by
    have h := Check_any ⟨6, a, b, l⟩ a0 n cap hn W
    rw [hc] at h
    exact h
  clear hc
  obtain ⟨C, HCd⟩ : ∃ C, Hid (dateN s = C) := ⟨_, Lib.hid rfl⟩
  have HX : Hid (∀ W : World, Calls Tryz.prog 30 #[.string s] W fun e w' => e = .returned (.int .i64 C) ∧ Below W.heap.size W w') := Lib.hid fun W => by rw [← HCd.out]; exact Date_any s W hs
  rw [HCd.out]
  clear hn
  go_enter Tryz.func10, Tryz.ntmps10
  go_wp2_with fail
  refine (HC.out _).mono ?_
  rintro e w1 ⟨rfl, hb1⟩
  obtain ⟨hr1, hB1⟩ := rule_after hb1
  obtain ⟨c0, c1, c2, c3⟩ := rule_cells hr1
  have HR := Lib.hid hr1
  have HB := Lib.hid hB1
  have HB0 := Lib.hid hb1
  clear hb1 hr1 hB1
  go_wp2_with fail
  refine (HX.out _).mono ?_
  rintro e w2 ⟨rfl, hb2⟩
  go_wp2_with fail
  go_ret
  exact ⟨ret_boolE (by rw [Bool.eq_iff_iff]; simp), HB.out.trans (hb2.mono HB.out.size)⟩

set_option maxRecDepth 20000 in
set_option maxHeartbeats 2000000 in
theorem Fits_8 (a b : Int) (l : List ByteArray) (hc : FR.check ⟨8, a, b, l⟩ = 0) (a0 : Option Addr) (n cap : Nat) (hn : l.length = n) (s : ByteArray) (hs : s.size ≤ 1000) (w : World) :
    Calls Tryz.prog 10 #[.agg #[.int .i64 8, .int .i64 a, .int .i64 b, .slice a0 n cap], .string s] w fun e w' => e = .returned (.bool (winB a b s.size && figB s && leadB s)) ∧ Below w.heap.size w w' := by
  have HC : Hid (∀ W : World, Calls Tryz.prog 12 #[.agg #[.int .i64 8, .int .i64 a, .int .i64 b, .slice a0 n cap]] W fun e w' => e = .returned (.int .i64 0) ∧ Below W.heap.size W w') := Lib.hid fun W => by
    have h := Check_any ⟨8, a, b, l⟩ a0 n cap hn W
    rw [hc] at h
    exact h
  clear hc
  obtain ⟨B, HBw⟩ : ∃ B, Hid (winB a b s.size = B) := ⟨_, Lib.hid rfl⟩
  obtain ⟨D, HD⟩ : ∃ D, Hid (figB s = D) := ⟨_, Lib.hid rfl⟩
  have HW : Hid (∀ (v : Value) (W : World), Calls Tryz.prog 22 #[.agg #[.int .i64 8, .int .i64 a, .int .i64 b, v], .int .i64 (s.size : Nat)] W fun e w' => e = .returned (.bool B) ∧ Below W.heap.size W w') := Lib.hid fun v W => by rw [← HBw.out]; exact within_any 8 a b v s.size W
  have HF : Hid (∀ (W : World), Calls Tryz.prog 23 #[.string s] W fun e w' => e = .returned (.bool D) ∧ W = w') := Lib.hid fun W => by rw [← HD.out]; exact figures_any s W (by omega)
  rw [HBw.out, HD.out]
  clear hn
  cases B with
  | false =>
    go_enter Tryz.func10, Tryz.ntmps10
    go_wp2_with fail
    refine (HC.out _).mono ?_
    rintro e w1 ⟨rfl, hb1⟩
    obtain ⟨hr1, hB1⟩ := rule_after hb1
    obtain ⟨c0, c1, c2, c3⟩ := rule_cells hr1
    have HR := Lib.hid hr1
    have HB := Lib.hid hB1
    have HB0 := Lib.hid hb1
    clear hb1 hr1 hB1
    go_wp2_with fail
    refine (HW.out _ _).mono ?_
    rintro e w2 ⟨rfl, hb2⟩
    go_wp2_with fail
    go_ret
    exact ⟨rfl, HB.out.trans (hb2.mono HB.out.size)⟩
  | true =>
    cases D with
    | false =>
      go_enter Tryz.func10, Tryz.ntmps10
      go_wp2_with fail
      refine (HC.out _).mono ?_
      rintro e w1 ⟨rfl, hb1⟩
      obtain ⟨hr1, hB1⟩ := rule_after hb1
      obtain ⟨c0, c1, c2, c3⟩ := rule_cells hr1
      have HR := Lib.hid hr1
      have HB := Lib.hid hB1
      have HB0 := Lib.hid hb1
      clear hb1 hr1 hB1
      go_wp2_with fail
      refine (HW.out _ _).mono ?_
      rintro e w2 ⟨rfl, hb2⟩
      go_wp2_with fail
      refine (HF.out _).mono ?_
      rintro e w3 ⟨rfl, rfl⟩
      go_wp2_with fail
      go_ret
      exact ⟨rfl, HB.out.trans (hb2.mono HB.out.size)⟩
    | true =>
      by_cases h2 : s.size < 2
      · have HL : Hid (leadB s = true) := Lib.hid (by unfold leadB; rw [decide_eq_true h2]; rfl)
        rw [HL.out]
        go_enter Tryz.func10, Tryz.ntmps10
        go_wp2_with fail
        refine (HC.out _).mono ?_
        rintro e w1 ⟨rfl, hb1⟩
        obtain ⟨hr1, hB1⟩ := rule_after hb1
        obtain ⟨c0, c1, c2, c3⟩ := rule_cells hr1
        have HR := Lib.hid hr1
        have HB := Lib.hid hB1
        have HB0 := Lib.hid hb1
        clear hb1 hr1 hB1
        go_wp2_with fail
        refine (HW.out _ _).mono ?_
        rintro e w2 ⟨rfl, hb2⟩
        go_wp2_with fail
        refine (HF.out _).mono ?_
        rintro e w3 ⟨rfl, rfl⟩
        go_wp2_with fail
        go_ret
        exact ⟨rfl, HB.out.trans (hb2.mono HB.out.size)⟩
      · have h2' : (2 : Int) ≤ (s.size : Int) := by omega
        have h0 : 0 < s.size := by omega
        have HL : Hid (leadB s = decide (s[0] ≠ 48)) := Lib.hid (by unfold leadB; rw [decide_eq_false h2, get_d h0]; rfl)
        rw [HL.out]
        go_enter Tryz.func10, Tryz.ntmps10
        go_wp2_with fail
        refine (HC.out _).mono ?_
        rintro e w1 ⟨rfl, hb1⟩
        obtain ⟨hr1, hB1⟩ := rule_after hb1
        obtain ⟨c0, c1, c2, c3⟩ := rule_cells hr1
        have HR := Lib.hid hr1
        have HB := Lib.hid hB1
        have HB0 := Lib.hid hb1
        clear hb1 hr1 hB1
        go_wp2_with fail
        refine (HW.out _ _).mono ?_
        rintro e w2 ⟨rfl, hb2⟩
        go_wp2_with fail
        refine (HF.out _).mono ?_
        rintro e w3 ⟨rfl, rfl⟩
        go_wp2_with fail
        go_ret
        exact ⟨ret_boolE (by rw [Bool.eq_iff_iff]; simp [← UInt8.toNat_inj]; omega), HB.out.trans (hb2.mono HB.out.size)⟩

set_option maxRecDepth 20000 in
set_option maxHeartbeats 2000000 in
theorem Fits_7 (a b : Int) (l : List ByteArray) (hc : FR.check ⟨7, a, b, l⟩ = 0) (a0 : Option Addr) (n cap : Nat) (hn : l.length = n) (s : ByteArray) (hs : s.size ≤ 1000) (w : World) :
    Calls Tryz.prog 10 #[.agg #[.int .i64 7, .int .i64 a, .int .i64 b, .slice a0 n cap], .string s] w fun e w' => e = .returned (.bool (proofB a s)) ∧ Below w.heap.size w w' := by
  have HC : Hid (∀ W : World, Calls Tryz.prog 12 #[.agg #[.int .i64 7, .int .i64 a, .int .i64 b, .slice a0 n cap]] W fun e w' => e = .returned (.int .i64 0) ∧ Below W.heap.size W w') := Lib.hid fun W => by
    have h := Check_any ⟨7, a, b, l⟩ a0 n cap hn W
    rw [hc] at h
    exact h
  clear hc
  obtain ⟨raw, er, hD, HP⟩ : ∃ (raw : ByteArray) (er : Int), (∀ W : World, Calls Tryz.prog 32 #[alph stdS 6 true, .string s] W fun e w' => e = .returned (.tuple #[.string raw, .int .i64 er]) ∧ Below W.heap.size W w') ∧ Hid ((er = 0 ∧ proofB a s = decide ((raw.size : Int) = a)) ∨ (er = 4 ∧ proofB a s = false)) := by
    by_cases h : encS stdS 6 true (decS stdS 6 s) = s
    · exact ⟨_, _, fun W => Decode_ok stdS 6 true s W (.inr rfl) rfl (by omega) h, Lib.hid (.inl ⟨rfl, by unfold proofB; rw [decide_eq_true h, Bool.true_and]⟩)⟩
    · exact ⟨_, _, fun W => Decode_bad stdS 6 true s W (.inr rfl) rfl (by omega) h, Lib.hid (.inr ⟨rfl, by unfold proofB; rw [decide_eq_false h, Bool.false_and]⟩)⟩
  have HX := Lib.hid hD
  obtain ⟨R, HRp⟩ : ∃ R, Hid (proofB a s = R) := ⟨_, Lib.hid rfl⟩
  rw [HRp.out] at HP ⊢
  clear hn hD
  rcases HP.out with ⟨rfl, hP⟩ | ⟨rfl, hP⟩
  · have HQ := Lib.hid hP
    clear HP hP
    go_enter Tryz.func10, Tryz.ntmps10
    go_wp2_with fail
    refine (HC.out _).mono ?_
    rintro e w1 ⟨rfl, hb1⟩
    obtain ⟨hr1, hB1⟩ := rule_after hb1
    obtain ⟨c0, c1, c2, c3⟩ := rule_cells hr1
    have HR := Lib.hid hr1
    have HB := Lib.hid hB1
    have HB0 := Lib.hid hb1
    clear hb1 hr1 hB1
    go_wp2_with fail
    refine (Std_any _).mono ?_
    rintro e w2 ⟨rfl, hb2⟩
    have r2 := HR.out.below hb2 HR.out.lt
    have B2 := HB.out.trans (hb2.mono HB.out.size)
    go_wp2_with fail
    refine (HX.out _).mono ?_
    rintro e w3 ⟨rfl, hb3⟩
    have r3 := r2.below hb3 r2.lt
    have B3 := Lib.hid (B2.trans (hb3.mono B2.size))
    obtain ⟨c0, c1, c2, c3⟩ := rule_cells r3
    clear r2 r3 B2 hb2 hb3
    go_wp2_with fail
    go_ret
    exact ⟨ret_boolE (by rw [HQ.out, Bool.eq_iff_iff]; simp), B3.out⟩
  · have HQ := Lib.hid hP
    clear HP hP
    rw [HQ.out]
    go_enter Tryz.func10, Tryz.ntmps10
    go_wp2_with fail
    refine (HC.out _).mono ?_
    rintro e w1 ⟨rfl, hb1⟩
    obtain ⟨hr1, hB1⟩ := rule_after hb1
    obtain ⟨c0, c1, c2, c3⟩ := rule_cells hr1
    have HR := Lib.hid hr1
    have HB := Lib.hid hB1
    have HB0 := Lib.hid hb1
    clear hb1 hr1 hB1
    go_wp2_with fail
    refine (Std_any _).mono ?_
    rintro e w2 ⟨rfl, hb2⟩
    have B2 := HB.out.trans (hb2.mono HB.out.size)
    go_wp2_with fail
    refine (HX.out _).mono ?_
    rintro e w3 ⟨rfl, hb3⟩
    have B3 := Lib.hid (B2.trans (hb3.mono B2.size))
    clear B2 hb2 hb3
    go_wp2_with fail
    go_ret
    exact ⟨rfl, B3.out⟩

set_option maxRecDepth 20000 in
set_option maxHeartbeats 2000000 in
theorem Fits_4 (a b : Int) (l : List ByteArray) (hc : FR.check ⟨4, a, b, l⟩ = 0) (a0 : Option Addr) (n cap : Nat) (hn : l.length = n) (s : ByteArray) (hs : s.size ≤ 1000) (w : World) (hv : Strs w (.slice a0 n cap) l) (hl : l.length ≤ 9223372036854775807) :
    Calls Tryz.prog 10 #[.agg #[.int .i64 4, .int .i64 a, .int .i64 b, .slice a0 n cap], .string s] w fun e w' => e = .returned (.bool (Lib.containsS l s)) ∧ Below w.heap.size w w' := by
  have HC : Hid (∀ W : World, Calls Tryz.prog 12 #[.agg #[.int .i64 4, .int .i64 a, .int .i64 b, .slice a0 n cap]] W fun e w' => e = .returned (.int .i64 0) ∧ Below W.heap.size W w') := Lib.hid fun W => by
    have h := Check_any ⟨4, a, b, l⟩ a0 n cap hn W
    rw [hc] at h
    exact h
  have hc4 := hc
  clear hc
  have hn0 : 0 < n := Classical.byContradiction fun h0 => FR.check_texts hc4 rfl (List.eq_nil_of_length_eq_zero (by rw [hn]; omega))
  clear hc4
  have HV := Lib.hid hv
  obtain ⟨a1, cp, g, off, he, hp, hcl⟩ := hv
  obtain ⟨rfl, hg⟩ := hp (by omega)
  rw [hn] at he
  injection he with he1 he2 he3
  subst he1
  subst he3
  obtain ⟨R, HRp⟩ : ∃ R, Hid (Lib.containsS l s = R) := ⟨_, Lib.hid rfl⟩
  have HX : Hid (∀ W : World, Below w.heap.size w W → Calls Tryz.prog 28 #[.slice (some ⟨g, off, none⟩) n cap, .string s] W fun e w' => e = .returned (.bool R) ∧ w' = W) := Lib.hid fun W hW => by
    have h := Tryz.slices_Contains_string g off n cap l s W (by omega) (by omega) (fun j hj => (hW.cell (p := ⟨g, off + j, none⟩) hg).trans (hcl j hj))
    rw [List.take_of_length_le (by omega), HRp.out] at h
    exact h
  rw [HRp.out]
  clear hn he2 hp hcl
  go_enter Tryz.func10, Tryz.ntmps10
  go_wp2_with fail
  refine (HC.out _).mono ?_
  rintro e w1 ⟨rfl, hb1⟩
  obtain ⟨hr1, hB1⟩ := rule_after hb1
  obtain ⟨c0, c1, c2, c3⟩ := rule_cells hr1
  have HR := Lib.hid hr1
  have HB := Lib.hid hB1
  have HB0 := Lib.hid hb1
  clear hb1 hr1 hB1
  go_wp2_with fail
  refine (HX.out _ HB.out).mono ?_
  rintro e w2 ⟨rfl, rfl⟩
  go_wp2_with fail
  go_ret
  exact ⟨rfl, HB.out⟩

end Go.Proofs.YtcecibopanfmgaaGreatDoor

namespace Go.Proofs.YtcecibopanfmgaaGreatDoor
open Go.RowKit
set_option linter.unusedVariables false

set_option maxRecDepth 20000 in
set_option maxHeartbeats 2000000 in
theorem Fits_2 (a b : Int) (l : List ByteArray) (hc : FR.check ⟨2, a, b, l⟩ = 0) (a0 : Option Addr) (n cap : Nat) (hn : l.length = n) (s : ByteArray) (hs : s.size ≤ 1000) (w : World) :
    Calls Tryz.prog 10 #[.agg #[.int .i64 2, .int .i64 a, .int .i64 b, .slice a0 n cap], .string s] w fun e w' => e = .returned (.bool (winB a b (runesB s).length && plainB s)) ∧ Below w.heap.size w w' := by
  have HC : Hid (∀ W : World, Calls Tryz.prog 12 #[.agg #[.int .i64 2, .int .i64 a, .int .i64 b, .slice a0 n cap]] W fun e w' => e = .returned (.int .i64 0) ∧ Below W.heap.size W w') := Lib.hid fun W => by
    have h := Check_any ⟨2, a, b, l⟩ a0 n cap hn W
    rw [hc] at h
    exact h
  clear hc
  obtain ⟨N, HN⟩ : ∃ N, Hid ((runesB s).length = N) := ⟨_, Lib.hid rfl⟩
  have HCN : Hid (∀ W : World, Calls Tryz.prog 24 #[.string s] W fun e w' => e = .returned (.int .i64 (N : Nat)) ∧ Below W.heap.size W w') := Lib.hid fun W => by rw [← HN.out]; exact Count_any s W (by omega)
  rw [HN.out]
  obtain ⟨B, HBw⟩ : ∃ B, Hid (winB a b N = B) := ⟨_, Lib.hid rfl⟩
  obtain ⟨D, HD⟩ : ∃ D, Hid (plainB s = D) := ⟨_, Lib.hid rfl⟩
  have HW : Hid (∀ (v : Value) (W : World), Calls Tryz.prog 22 #[.agg #[.int .i64 2, .int .i64 a, .int .i64 b, v], .int .i64 (N : Nat)] W fun e w' => e = .returned (.bool B) ∧ Below W.heap.size W w') := Lib.hid fun v W => by rw [← HBw.out]; exact within_any 2 a b v N W
  have HPL : Hid (∀ (W : World), Calls Tryz.prog 25 #[.string s] W fun e w' => e = .returned (.bool D) ∧ Below W.heap.size W w') := Lib.hid fun W => by rw [← HD.out]; exact plain_any s W (by omega)
  rw [HBw.out, HD.out]
  clear hn
  cases B with
  | false =>
    go_enter Tryz.func10, Tryz.ntmps10
    go_wp2_with fail
    refine (HC.out _).mono ?_
    rintro e w1 ⟨rfl, hb1⟩
    obtain ⟨hr1, hB1⟩ := rule_after hb1
    obtain ⟨c0, c1, c2, c3⟩ := rule_cells hr1
    have HR := Lib.hid hr1
    have HB := Lib.hid hB1
    have HB0 := Lib.hid hb1
    clear hb1 hr1 hB1
    go_wp2_with fail
    have HRC : Hid (∀ W, Below w1.heap.size w1 W → Row W w.heap.size 24 [.int .i64 2, .int .i64 a, .int .i64 b, .slice a0 n cap]) := Lib.hid fun W h => HR.out.below h HR.out.lt
    clear c0 c1 c2 c3
    refine region_quiet_lit (Below w1.heap.size w1) (by kernel_rfl) (by kernel_rfl) (below_drewN_u (Below.refl _ _) 1) ?_
    repeat (first
      | (go_big_quiet_want; (first
          | refine quiet_load_row 24 (.tmp 2) (by rfl) w.heap.size (by rfl) 24 [.int .i64 2, .int .i64 a, .int .i64 b, .slice a0 n cap] _ HRC.out Tryz.underlying24 rfl (by kernel_rfl) ?_); go_big_quiet_on; simp only [Act.put, List.setIfInBounds_toArray, List.set_cons_zero, List.set_cons_succ])
      | go_big_quiet_step ((first
            | (intro hC; with_reducible rfl)
            | (intro hC; go_at_call 24; refine (HCN.out _).mono ?_; rintro e w'' ⟨rfl, hb⟩; exact ⟨rfl, hC.trans (hb.mono hC.size)⟩)
            | (intro hC; go_at_call 22; refine (HW.out _ _).mono ?_; rintro e w'' ⟨rfl, hb⟩; exact ⟨rfl, hC.trans (hb.mono hC.size)⟩))))
    refine wpQuiet_nil ?_
    intro w2 hw2
    go_wp2_with fail
    go_ret
    exact ⟨ret_boolE (by first | rfl | rw [Bool.true_and]), HB.out.trans (hw2.mono HB.out.size)⟩
  | true =>
    go_enter Tryz.func10, Tryz.ntmps10
    go_wp2_with fail
    refine (HC.out _).mono ?_
    rintro e w1 ⟨rfl, hb1⟩
    obtain ⟨hr1, hB1⟩ := rule_after hb1
    obtain ⟨c0, c1, c2, c3⟩ := rule_cells hr1
    have HR := Lib.hid hr1
    have HB := Lib.hid hB1
    have HB0 := Lib.hid hb1
    clear hb1 hr1 hB1
    go_wp2_with fail
    have HRC : Hid (∀ W, Below w1.heap.size w1 W → Row W w.heap.size 24 [.int .i64 2, .int .i64 a, .int .i64 b, .slice a0 n cap]) := Lib.hid fun W h => HR.out.below h HR.out.lt
    clear c0 c1 c2 c3
    refine region_quiet_lit (Below w1.heap.size w1) (by kernel_rfl) (by kernel_rfl) (below_drewN_u (Below.refl _ _) 1) ?_
    repeat (first
      | (go_big_quiet_want; (first
          | refine quiet_load_row 24 (.tmp 2) (by rfl) w.heap.size (by rfl) 24 [.int .i64 2, .int .i64 a, .int .i64 b, .slice a0 n cap] _ HRC.out Tryz.underlying24 rfl (by kernel_rfl) ?_); go_big_quiet_on; simp only [Act.put, List.setIfInBounds_toArray, List.set_cons_zero, List.set_cons_succ])
      | go_big_quiet_step ((first
            | (intro hC; with_reducible rfl)
            | (intro hC; go_at_call 24; refine (HCN.out _).mono ?_; rintro e w'' ⟨rfl, hb⟩; exact ⟨rfl, hC.trans (hb.mono hC.size)⟩)
            | (intro hC; go_at_call 22; refine (HW.out _ _).mono ?_; rintro e w'' ⟨rfl, hb⟩; exact ⟨rfl, hC.trans (hb.mono hC.size)⟩)
            | (intro hC; go_at_call 25; refine (HPL.out _).mono ?_; rintro e w'' ⟨rfl, hb⟩; exact ⟨rfl, hC.trans (hb.mono hC.size)⟩))))
    refine wpQuiet_nil ?_
    intro w2 hw2
    go_wp2_with fail
    go_ret
    exact ⟨ret_boolE (by first | rfl | rw [Bool.true_and]), HB.out.trans (hw2.mono HB.out.size)⟩

set_option maxRecDepth 20000 in
set_option maxHeartbeats 2000000 in
theorem Fits_3 (a b : Int) (l : List ByteArray) (hc : FR.check ⟨3, a, b, l⟩ = 0) (a0 : Option Addr) (n cap : Nat) (hn : l.length = n) (s : ByteArray) (hs : s.size ≤ 1000) (w : World) (hM : M w) :
    Calls Tryz.prog 10 #[.agg #[.int .i64 3, .int .i64 a, .int .i64 b, .slice a0 n cap], .string s] w fun e w' => e = .returned (.bool (idB s)) ∧ Below w.heap.size w w' := by
  have HC : Hid (∀ W : World, Calls Tryz.prog 12 #[.agg #[.int .i64 3, .int .i64 a, .int .i64 b, .slice a0 n cap]] W fun e w' => e = .returned (.int .i64 0) ∧ Below W.heap.size W w') := Lib.hid fun W => by
    have h := Check_any ⟨3, a, b, l⟩ a0 n cap hn W
    rw [hc] at h
    exact h
  clear hc
  have HM := Lib.hid hM
  have hz := (zero_of_info u16_info).1
  clear hM hn
  by_cases h : ∃ l, IsId s.data.toList l
  · obtain ⟨u, hu⟩ := h
    have HX0 : Hid (∀ W : World, M W → Calls Tryz.prog 26 #[.string s] W fun e w' => e = .returned (.tuple #[.agg (u.map bv).toArray, .int .i64 0]) ∧ Below W.heap.size W w') := Lib.hid fun W hW => Parse_ok s u hu (by omega) W hW
    have HZ0 : Hid (∀ W : World, Calls Tryz.prog 27 #[.agg (u.map bv).toArray] W fun e w' => e = .returned (.bool (decide (u = List.replicate 16 0))) ∧ Below W.heap.size W w') := Lib.hid fun W => idZero_any u hu.1 W
    obtain ⟨Z, hZ⟩ : ∃ Z, decide (u = List.replicate 16 0) = Z := ⟨_, rfl⟩
    have HI : Hid (idB s = !Z) := Lib.hid (by rw [← hZ]; exact idB_yes hu)
    rw [hZ] at HZ0
    have hone := one_bytes u
    obtain ⟨C, hC⟩ : ∃ C, u.map bv = C := ⟨_, rfl⟩
    have hCl : C.length = 16 := by rw [← hC, List.length_map, hu.1]
    rw [hC] at HX0 HZ0 hone
    have HO := Lib.hid (And.intro hone hCl)
    rw [HI.out]
    clear hZ hC hu hone hCl
    go_enter Tryz.func10, Tryz.ntmps10
    go_wp2_with fail
    refine (HC.out _).mono ?_
    rintro e w1 ⟨rfl, hb1⟩
    obtain ⟨hr1, hB1⟩ := rule_after hb1
    obtain ⟨c0, c1, c2, c3⟩ := rule_cells hr1
    have HR := Lib.hid hr1
    have HB := Lib.hid hB1
    have HB0 := Lib.hid hb1
    clear hb1 hr1 hB1
    go_wp2_with fail
    refine (HX0.out _ (HM.out.below HB.out)).mono ?_
    rintro e w2 ⟨rfl, hb2⟩
    have q := Row.new w2 45 z16
    have hB2 := HB.out.trans (hb2.mono HB.out.size)
    have bq : Below w.heap.size w (w2.alloc (.cells z16.toArray 45)) := hB2.alloc hB2.size _
    have HQ := Lib.hid (And.intro q bq)
    have HS2 := Lib.hid hB2.size
    clear q bq hb2 hB2
    go_wp2_with (first
      | (refine wpList_store_row rfl 45 (.tmp 5) (.tmp 39) rfl w2.heap.size C.toArray rfl rfl 45 z16.toArray HQ.out.1 (by rw [u16_size, List.size_toArray, HO.out.2]) (by rw [List.size_toArray, List.size_toArray, HO.out.2]; rfl) HO.out.1 ?_)
      | (refine wpList_want (by rfl) fun _ hK => wp_load_row 45 (.tmp 5) rfl w2.heap.size rfl 45 C.toArray (0, 0) _ (HQ.out.1.put C) Tryz.underlying45 rfl (by rw [u16_size, List.size_toArray, HO.out.2]) (hK _ _ ?_))
      | fail)
    refine (HZ0.out _).mono ?_
    rintro e w3 ⟨rfl, hb3⟩
    have hB3 := below_setRow (B := w.heap.size) HQ.out.2 HS2.out C.toArray
    have hB4 := Lib.hid (hB3.trans (hb3.mono hB3.size))
    clear hb3 hB3
    go_wp2_with fail
    go_ret
    exact ⟨rfl, hB4.out⟩
  · have HX0 : Hid (∀ W : World, M W → Calls Tryz.prog 26 #[.string s] W fun e w' => e = .returned (.tuple #[.agg z16.toArray, .int .i64 4]) ∧ Below W.heap.size W w') := Lib.hid fun W hW => Parse_bad s (fun l hl => h ⟨l, hl⟩) (by omega) W hW
    have HI : Hid (idB s = false) := Lib.hid (idB_no (fun l hl => h ⟨l, hl⟩))
    rw [HI.out]
    clear h
    go_enter Tryz.func10, Tryz.ntmps10
    go_wp2_with fail
    refine (HC.out _).mono ?_
    rintro e w1 ⟨rfl, hb1⟩
    obtain ⟨hr1, hB1⟩ := rule_after hb1
    obtain ⟨c0, c1, c2, c3⟩ := rule_cells hr1
    have HR := Lib.hid hr1
    have HB := Lib.hid hB1
    have HB0 := Lib.hid hb1
    clear hb1 hr1 hB1
    go_wp2_with fail
    refine (HX0.out _ (HM.out.below HB.out)).mono ?_
    rintro e w2 ⟨rfl, hb2⟩
    have q := Row.new w2 45 z16
    have hB2 := HB.out.trans (hb2.mono HB.out.size)
    have bq : Below w.heap.size w (w2.alloc (.cells z16.toArray 45)) := hB2.alloc hB2.size _
    have HQ := Lib.hid (And.intro q bq)
    have HS2 := Lib.hid hB2.size
    clear q bq hb2 hB2
    go_wp2_with (first
      | (refine wpList_store_row rfl 45 (.tmp 5) (.tmp 39) rfl w2.heap.size z16.toArray rfl rfl 45 z16.toArray HQ.out.1 u16_size rfl z16_one ?_)
      | fail)
    go_ret
    exact ⟨rfl, below_setRow (B := w.heap.size) HQ.out.2 HS2.out z16.toArray⟩

/-- Whether a text fits a rule. -/
theorem Fits_any (r : FR) (v : Value) (s : ByteArray) (hs : s.size ≤ 1000) (hl : r.texts.length ≤ 9223372036854775807) (w : World) (hv : Strs w v r.texts) (hM : M w) :
    Calls Tryz.prog 10 #[.agg #[.int .i64 r.kind, .int .i64 r.least, .int .i64 r.most, v], .string s] w fun e w' => e = .returned (.bool (r.fits s)) ∧ Below w.heap.size w w' := by
  have hv2 := hv
  obtain ⟨a0, cap, g, off, rfl, _, _⟩ := hv
  by_cases hc : r.check = 0
  · have hk := FR.check_known hc
    have e : r.fits s = fitK r.kind r.least r.most r.texts s := by unfold FR.fits; rw [if_pos hc]
    rw [e]
    obtain ⟨k, a, b, l⟩ := r
    dsimp only at hk hv2 hl ⊢
    obtain ⟨hk1, hk8⟩ := hk
    rcases (by omega : k = 1 ∨ k = 2 ∨ k = 3 ∨ k = 4 ∨ k = 5 ∨ k = 6 ∨ k = 7 ∨ k = 8) with rfl | rfl | rfl | rfl | rfl | rfl | rfl | rfl
    · exact Fits_1 a b l hc a0 _ cap rfl s hs w
    · exact Fits_2 a b l hc a0 _ cap rfl s hs w
    · exact Fits_3 a b l hc a0 _ cap rfl s hs w hM
    · exact Fits_4 a b l hc a0 _ cap rfl s hs w hv2 hl
    · exact Fits_5 a b l hc a0 _ cap rfl s hs w
    · exact Fits_6 a b l hc a0 _ cap rfl s hs w
    · exact Fits_7 a b l hc a0 _ cap rfl s hs w
    · exact Fits_8 a b l hc a0 _ cap rfl s hs w
  · have e : r.fits s = false := by unfold FR.fits; rw [if_neg hc]
    rw [e]
    exact Fits_not r hc a0 _ cap rfl s w
end Go.Proofs.YtcecibopanfmgaaGreatDoor

namespace Go.Proofs.YtcecibopanfmgaaGreatDoor
open Go.RowKit
set_option linter.unusedVariables false

theorem Awake4_any (w : World) :
    Calls Tryz.prog 19 #[] w fun e w' => e = .returned (.bool true) ∧ Below w.heap.size w w' := by
  go_enter Tryz.func19, Tryz.ntmps19
  go_wp2_with fail
  refine (awake_any_u _).mono ?_
  rintro e wa ⟨rfl, hb⟩
  go_wp2_with fail
  go_ret
  exact ⟨rfl, hb⟩
theorem Awake10_any (w : World) (hG : G w) :
    Calls Tryz.prog 20 #[] w fun e w' => e = .returned (.bool true) ∧ Below w.heap.size w w' := by
  have HG := Lib.hid hG
  clear hG
  go_enter Tryz.func20, Tryz.ntmps20
  go_wp2_with fail
  refine (awake10_any _ HG.out).mono ?_
  rintro e wa ⟨rfl, hb⟩
  go_wp2_with fail
  go_ret
  exact ⟨rfl, hb⟩

theorem strs_nil (w : World) (a0 : Option Addr) (cap : Nat) : Strs w (.slice a0 0 cap) [] := ⟨a0, cap, 0, 0, rfl, fun h => absurd h (by simp), fun j h => absurd h (by simp)⟩

def s07 : ByteArray := ⟨#[48, 55]⟩
def s7 : ByteArray := ⟨#[55]⟩
theorem check_ex : FR.check ⟨1, 2, 3, []⟩ = 0 := by decide +kernel
theorem fits_07 : FR.fits ⟨1, 2, 3, []⟩ ⟨#[48, 55]⟩ = true := by
  unfold FR.fits
  rw [if_pos check_ex]
  show (winB 2 3 (ByteArray.mk #[48, 55]).size && figB ⟨#[48, 55]⟩) = true
  decide +kernel
theorem fits_7 : FR.fits ⟨1, 2, 3, []⟩ ⟨#[55]⟩ = false := by
  unfold FR.fits
  rw [if_pos check_ex]
  show (winB 2 3 (ByteArray.mk #[55]).size && figB ⟨#[55]⟩) = false
  decide +kernel

set_option maxRecDepth 20000 in
set_option maxHeartbeats 2000000 in
theorem awake14_any (w : World) (hG : G w) (hM : M w) :
    Calls Tryz.prog 7 #[] w fun e w' => e = .returned (.bool true) ∧ Below w.heap.size w w' := by
  have HG := Lib.hid hG
  have HM := Lib.hid hM
  have H1 : Hid (∀ (v : Value) (W : World), Strs W v [] → M W → Calls Tryz.prog 10 #[.agg #[.int .i64 1, .int .i64 2, .int .i64 3, v], .string ⟨#[48, 55]⟩] W fun e w' => e = .returned (.bool true) ∧ Below W.heap.size W w') := Lib.hid fun v W hv hm => by
    have h := Fits_any ⟨1, 2, 3, []⟩ v ⟨#[48, 55]⟩ (by decide) (by decide) W hv hm
    rw [fits_07] at h
    exact h
  have H2 : Hid (∀ (v : Value) (W : World), Strs W v [] → M W → Calls Tryz.prog 10 #[.agg #[.int .i64 1, .int .i64 2, .int .i64 3, v], .string ⟨#[55]⟩] W fun e w' => e = .returned (.bool false) ∧ Below W.heap.size W w') := Lib.hid fun v W hv hm => by
    have h := Fits_any ⟨1, 2, 3, []⟩ v ⟨#[55]⟩ (by decide) (by decide) W hv hm
    rw [fits_7] at h
    exact h
  have HN : Hid (Strs w (.slice none 0 0) []) := Lib.hid ⟨none, 0, 0, 0, rfl, fun h => absurd h (by simp), fun j h => absurd h (by simp)⟩
  clear hG hM
  go_enter Tryz.func7, Tryz.ntmps7
  go_wp2_with fail
  refine (Of_any 1 2 3 _ [] _ HN.out (by decide)).mono ?_
  rintro e w1 ⟨v', rfl, hs, hb1⟩
  obtain ⟨a0, cap, g, off, rfl, hp, hc⟩ := hs
  have q : Row (w1.alloc (.cells #[.int .i64 0, .int .i64 0, .int .i64 0, .slice none 0 0] 24)) w1.heap.size 24 [.int .i64 0, .int .i64 0, .int .i64 0, .slice none 0 0] := Row.new w1 _ _
  have hB0 := hb1.alloc hb1.size (.cells #[.int .i64 0, .int .i64 0, .int .i64 0, .slice none 0 0] 24)
  have HQ := Lib.hid (And.intro q (And.intro hB0 hb1.size))
  clear q hB0 hp hc hb1
  go_wp2_with (first
    | (refine wpList_store_row rfl 24 (.tmp 1) (.tmp 2) rfl w1.heap.size #[.int .i64 1, .int .i64 2, .int .i64 3, .slice a0 0 cap] rfl rfl 24 #[.int .i64 0, .int .i64 0, .int .i64 0, .slice none 0 0] HQ.out.1 rule_info rfl (by simp [Value.oneCell']) ?_; have hq := HQ.out.1.put [.int .i64 1, .int .i64 2, .int .i64 3, .slice a0 0 cap]; have hbq := below_setRow (B := w.heap.size) HQ.out.2.1 HQ.out.2.2 #[.int .i64 1, .int .i64 2, .int .i64 3, .slice a0 0 cap]; generalize (w1.alloc (.cells #[.int .i64 0, .int .i64 0, .int .i64 0, .slice none 0 0] 24)).setRow w1.heap.size #[.int .i64 1, .int .i64 2, .int .i64 3, .slice a0 0 cap] = w3 at hq hbq ⊢; obtain ⟨c0, c1, c2, c3⟩ := rule_cells hq; have HE := Lib.hid (And.intro hq hbq); clear hq hbq)
    | fail)
  refine (H1.out _ _ (strs_nil _ _ _) (HM.out.below HE.out.2)).mono ?_
  rintro e w4 ⟨rfl, hb4⟩
  have r4 := HE.out.1.below hb4 HE.out.1.lt
  have B4 := HE.out.2.trans (hb4.mono HE.out.2.size)
  obtain ⟨c0, c1, c2, c3⟩ := rule_cells r4
  have H4 := Lib.hid B4
  clear hb4 r4 B4 HE HQ
  go_wp2_with fail
  refine (H2.out _ _ (strs_nil _ _ _) (HM.out.below H4.out)).mono ?_
  rintro e w5 ⟨rfl, hb5⟩
  have H5 := Lib.hid (H4.out.trans (hb5.mono H4.out.size))
  clear hb5 H4 c0 c1 c2 c3
  go_wp2_with fail
  refine (Awake2_any _).mono ?_
  rintro e w6 ⟨rfl, hb6⟩
  have H6 := Lib.hid (H5.out.trans (hb6.mono H5.out.size))
  clear hb6 H5
  go_wp2_with fail
  refine (Awake3_any _).mono ?_
  rintro e w7 ⟨rfl, hb7⟩
  have H7 := Lib.hid (H6.out.trans (hb7.mono H6.out.size))
  clear hb7 H6
  go_wp2_with fail
  refine (Awake4_any _).mono ?_
  rintro e w8 ⟨rfl, hb8⟩
  have H8 := Lib.hid (H7.out.trans (hb8.mono H7.out.size))
  clear hb8 H7
  go_wp2_with fail
  refine (Awake10_any _ (HG.out.below H8.out)).mono ?_
  rintro e w9 ⟨rfl, hb9⟩
  have H9 := Lib.hid (H8.out.trans (hb9.mono H8.out.size))
  clear hb9 H8
  go_wp2_with fail
  go_ret
  exact ⟨rfl, H9.out⟩
end Go.Proofs.YtcecibopanfmgaaGreatDoor

namespace Go.Proofs.YtcecibopanfmgaaGreatDoor
open Go.RowKit
set_option linter.unusedVariables false

theorem G_of_tab_f {W : World} (h : Lib.TabIs Tryz.prog W "cashier/sha.starts" .u32 [1779033703, 3144134277, 1013904242, 2773480762, 1359893119, 2600822924, 528734635, 1541459225]) : G W := by
  unfold Lib.TabIs World.var? at h
  rw [show Tryz.prog.globalNamed "cashier/sha.starts" = some 7 by kernel_rfl] at h
  simp only [Option.bind_some] at h
  split at h
  · rename_i cs t fr hq
    refine ⟨t, fr, ?_⟩
    rw [hq]
    obtain rfl := Option.some.inj h
    rfl
  · cases h
theorem laidMet_tail_f {P : Program} {x : String × DataW Unit} {r : List (String × DataW Unit)} {w : World} (h : laidMet P (x :: r) w) : laidMet P r w := by
  obtain ⟨ps, hv, hn, hc⟩ := h
  obtain ⟨n, d⟩ := x
  obtain ⟨g, t, cs, fuel, p, q, _, _, _, _, hq, rfl⟩ := hv
  exact ⟨q, hq, (List.nodup_append.1 hn).2.1, fun b off hb => hc b off (List.mem_append.2 (.inr hb))⟩
theorem G_of_laid8 {W : World} (h : laidMetH Tryz.prog [("math/bits.deBruijn32tab", Rows.laid_math_bits_deBruijn32tab), ("math/bits.deBruijn64tab", Rows.laid_math_bits_deBruijn64tab), ("internal/strconv.uint64pow10", Rows.laid_internal_strconv_uint64pow10), ("unicode/utf8.acceptRanges", Rows.laid_unicode_utf8_acceptRanges), ("strconv.ErrRange", Rows.laid_strconv_ErrRange), ("strconv.ErrSyntax", Rows.laid_strconv_ErrSyntax), ("cashier/sha.starts", Rows.laid_cashier_sha_starts), ("unicode/utf8.first", Rows.laid_unicode_utf8_first)] W) : G W :=
  G_of_tab_f (Lib.tabIs_of_head (g := 7) (t := 158) (e := 125) (n := 8) (rest := [("unicode/utf8.first", Rows.laid_unicode_utf8_first)]) (by kernel_rfl) (by kernel_rfl) Tryz.underlying158 Tryz.underlying125 (by kernel_rfl) (by kernel_rfl) (laidMet_tail_f (laidMet_tail_f (laidMet_tail_f (laidMet_tail_f (laidMet_tail_f (laidMet_tail_f h)))))))
end Go.Proofs.YtcecibopanfmgaaGreatDoor

namespace Go.Proofs.YtcecibopanfmgaaGreatDoor
open Go.RowKit Go.Shelf
set_option linter.unusedVariables false
set_option linter.unusedSimpArgs false
attribute [local go_sem] Oper.semAt_some

/-- The names, at their numbers. -/
def nmL (k : Nat) : List UInt8 := match k with
  | 1 => [100, 105, 103, 105, 116, 115]
  | 2 => [116, 101, 120, 116]
  | 3 => [105, 100]
  | 4 => [97, 109, 111, 110, 103]
  | 5 => [99, 97, 114, 100]
  | 6 => [100, 97, 116, 101]
  | 7 => [112, 114, 111, 111, 102]
  | 8 => [97, 109, 111, 117, 110, 116]
  | _ => []
def nmB (k : Nat) : ByteArray := ⟨(nmL k).toArray⟩

/-- An array of texts that reads so holds these texts, cell for cell. -/
theorem cells_of_strs {H : Type} {enc : TypeId × Value → H} {P : Program} {w : World} {base : Nat} {sp : Nat → Bool} {held : Bool} {fuel : Nat} {t e : TypeId} {n : Nat} {cs : List Value} {zs : List (List UInt8)} {p : List MemPlace}
    (ht : P.underlying t = some (.array n e)) (he : P.underlying e = some .string) (hce : P.cellsOf e = 1) (hct : P.cellsOf t = n)
    (h : DataW.trod enc P w base sp held fuel t cs = some (.agg (zs.map fun z => .lit (.string z)), p)) : cs = zs.map fun z => Value.string ⟨z.toArray⟩ := by
  cases fuel with
  | zero => simp [DataW.trod] at h
  | succ fuel =>
    simp only [DataW.trod, ht, hce, hct, Nat.mul_one] at h
    split at h
    · rename_i hl
      obtain ⟨xs, hm, hx⟩ := Option.map_eq_some_iff.1 h
      have hxs : xs.map (·.1) = zs.map fun z => (DataW.lit (.string z) : DataW H) := by
        have := congrArg Prod.fst hx
        simpa using this
      have hxl : xs.length = n := by simpa using Lib.mapM_length hm
      have hzl : zs.length = n := by
        have := congrArg List.length hxs
        simp at this
        omega
      apply List.ext_getElem?
      intro i
      by_cases hi : i < n
      · obtain ⟨b, hb, hf⟩ := Lib.mapM_at hm i i (by simp [hi])
        obtain ⟨s, hc, rfl, _⟩ := DataW.trod_string he hf
        have h1 : cs[i]? = some (.string s) := by
          have := congrArg (·[0]?) hc
          simpa [List.getElem?_take, List.getElem?_drop] using this
        have h2 : (xs.map (·.1))[i]? = some (DataW.lit (.string s.data.toList) : DataW H) := by simp [hb]
        rw [hxs] at h2
        simp only [List.getElem?_map, Option.map_eq_some_iff, DataW.lit.injEq, Lit.string.injEq] at h2
        obtain ⟨z', hz', e2⟩ := h2
        rw [h1, List.getElem?_map, hz', e2]
        rfl
      · rw [List.getElem?_eq_none (by omega), List.getElem?_eq_none (by simp; omega)]
    · cases h

def nmC : Array Value := ((List.range 9).map fun k => Value.string (nmB k)).toArray
/-- The names lie where the program's variable does. -/
def NM (w : World) : Prop := ∃ t fr, w.heap[0]? = some (.cells nmC t fr)
theorem NM.lt {w : World} (h : NM w) : 0 < w.heap.size := by
  obtain ⟨t, fr, h⟩ := h
  exact (Array.getElem?_eq_some_iff.1 h).1
theorem NM.same {w w' : World} (h : NM w) (he : w'.heap[0]? = w.heap[0]?) : NM w' := by
  obtain ⟨t, fr, h⟩ := h
  exact ⟨t, fr, he.trans h⟩
theorem NM.below {B : Nat} {w w' : World} (h : NM w) (hb : Below B w w') (hB : w.heap.size ≤ B) : NM w' := h.same (hb.block _ (Nat.lt_of_lt_of_le h.lt hB))
theorem NM.cell {w : World} (h : NM w) (k : Nat) (hk : k < 9) : w.cell? ⟨0, k, none⟩ = some (.string (nmB k)) := by
  obtain ⟨t, fr, h⟩ := h
  rw [cell_of_row w 0 k nmC t fr h]
  unfold nmC
  rw [List.getElem?_toArray, List.getElem?_map, List.getElem?_range hk]
  rfl
theorem NM_of_laid9 {W : World} (h : laidMetH Tryz.prog [("math/bits.deBruijn32tab", Rows.laid_math_bits_deBruijn32tab), ("math/bits.deBruijn64tab", Rows.laid_math_bits_deBruijn64tab), ("internal/strconv.uint64pow10", Rows.laid_internal_strconv_uint64pow10), ("unicode/utf8.acceptRanges", Rows.laid_unicode_utf8_acceptRanges), ("strconv.ErrRange", Rows.laid_strconv_ErrRange), ("strconv.ErrSyntax", Rows.laid_strconv_ErrSyntax), ("cashier/sha.starts", Rows.laid_cashier_sha_starts), ("cashier/format.names", Rows.laid_cashier_format_names), ("unicode/utf8.first", Rows.laid_unicode_utf8_first)] W) : NM W := by
  have h2 : laidMet Tryz.prog [("cashier/format.names", Rows.laid_cashier_format_names), ("unicode/utf8.first", Rows.laid_unicode_utf8_first)] W := laidMet_tail_f (laidMet_tail_f (laidMet_tail_f (laidMet_tail_f (laidMet_tail_f (laidMet_tail_f (laidMet_tail_f h))))))
  obtain ⟨ps, ⟨g', t', cs, fuel, p, q, hg', ht', hvar, hd, _, _⟩, _⟩ := h2
  obtain rfl := Option.some.inj ((show Tryz.prog.globalNamed "cashier/format.names" = some 0 by kernel_rfl).symm.trans hg')
  obtain rfl := Option.some.inj ((show (Tryz.prog.globals[0]?).map (·.type) = some 67 by kernel_rfl).symm.trans ht')
  have hcs := cells_of_strs (zs := (List.range 9).map nmL) Tryz.underlying67 Tryz.underlying9 (by kernel_rfl) (by kernel_rfl) hd
  unfold World.var? at hvar
  rw [show Tryz.prog.globalNamed "cashier/format.names" = some 0 by kernel_rfl] at hvar
  simp only [Option.bind_some] at hvar
  split at hvar
  · rename_i cs' t fr hq
    refine ⟨t, fr, ?_⟩
    rw [hq]
    obtain rfl := Option.some.inj hvar
    congr 2
    apply Array.ext'
    rw [hcs]
    rfl
  · cases hvar
theorem G_of_laid9 {W : World} (h : laidMetH Tryz.prog [("math/bits.deBruijn32tab", Rows.laid_math_bits_deBruijn32tab), ("math/bits.deBruijn64tab", Rows.laid_math_bits_deBruijn64tab), ("internal/strconv.uint64pow10", Rows.laid_internal_strconv_uint64pow10), ("unicode/utf8.acceptRanges", Rows.laid_unicode_utf8_acceptRanges), ("strconv.ErrRange", Rows.laid_strconv_ErrRange), ("strconv.ErrSyntax", Rows.laid_strconv_ErrSyntax), ("cashier/sha.starts", Rows.laid_cashier_sha_starts), ("cashier/format.names", Rows.laid_cashier_format_names), ("unicode/utf8.first", Rows.laid_unicode_utf8_first)] W) : G W :=
  G_of_tab_f (Lib.tabIs_of_head (g := 7) (t := 158) (e := 125) (n := 8) (rest := [("cashier/format.names", Rows.laid_cashier_format_names), ("unicode/utf8.first", Rows.laid_unicode_utf8_first)]) (by kernel_rfl) (by kernel_rfl) Tryz.underlying158 Tryz.underlying125 (by kernel_rfl) (by kernel_rfl) (laidMet_tail_f (laidMet_tail_f (laidMet_tail_f (laidMet_tail_f (laidMet_tail_f (laidMet_tail_f h)))))))

set_option maxRecDepth 20000 in
theorem Name_is (k : Nat) (h1 : 1 ≤ k) (h8 : k ≤ 8) (w : World) (hN : NM w) : Calls Tryz.prog 16 #[.int .i64 (k : Nat)] w fun e w' => e = .returned (.string (nmB k)) ∧ w = w' := by
  have hc := hN.cell k (by omega)
  have hk := known_any (k : Nat) w
  rw [decide_eq_true (by omega : (1 : Int) ≤ (k : Nat) ∧ ((k : Nat) : Int) ≤ 8)] at hk
  have HK := Lib.hid hk
  obtain ⟨S, hS⟩ : ∃ S, nmB k = S := ⟨_, rfl⟩
  rw [hS] at hc ⊢
  have hk9 : k < 9 := by omega
  clear hN hk hS
  go_enter Tryz.func16, Tryz.ntmps16
  go_wp2_with fail
  refine HK.out.mono ?_
  rintro e w' ⟨rfl, rfl⟩
  go_wp2_with fail
  go_ret
  exact ⟨rfl, rfl⟩
set_option maxRecDepth 20000 in
theorem Name_not (k : Int) (h : ¬ (1 ≤ k ∧ k ≤ 8)) (w : World) : Calls Tryz.prog 16 #[.int .i64 k] w fun e w' => e = .returned (.string ⟨#[63]⟩) ∧ w = w' := by
  have hk := known_any k w
  rw [decide_eq_false h] at hk
  have HK := Lib.hid hk
  clear hk h
  go_enter Tryz.func16, Tryz.ntmps16
  go_wp2_with fail
  refine HK.out.mono ?_
  rintro e w' ⟨rfl, rfl⟩
  go_wp2_with fail
  go_ret
  exact ⟨rfl, rfl⟩

/-- The kinds. -/
def kL : List Nat := [1, 2, 3, 4, 5, 6, 7, 8]
abbrev encK (x : Nat) : Array Value := #[.int .i64 (x : Nat), .string (nmB x)]
theorem kL_take (j : Nat) (h : j < 8) : kL.take j ++ [j + 1] = kL.take (j + 1) := by
  match j, h with
  | 0, _ => rfl
  | 1, _ => rfl
  | 2, _ => rfl
  | 3, _ => rfl
  | 4, _ => rfl
  | 5, _ => rfl
  | 6, _ => rfl
  | 7, _ => rfl

set_option maxRecDepth 100000 in
set_option maxHeartbeats 1000000 in
theorem Kinds1_in (n : Nat) (hn : 1 ≤ n) (l : Nat) (J Jx : List Nat → World → Prop)
    (hY : ∀ pre x W, J pre W → (pre ++ [x]) <+: kL → YieldAt Fence.wide (n - 1) Tryz.prog l (encK x) W fun e W' =>
      (e = .returned (.bool true) ∧ J (pre ++ [x]) W' ∧ KeepsR 0 W W') ∨ (e = .returned (.bool false) ∧ Jx (pre ++ [x]) W'))
    (W : World) (hN : NM W) (h0 : J [] W) :
    CallsIn Fence.wide n Tryz.prog 44 #[.func (.yield l) #[] #[]] W fun e W' => (∃ v, e = .returned v) ∧
      ((∃ ys, ys = kL ∧ J ys W') ∨ (∃ pre, pre <+: kL ∧ Jx pre W')) := by
  refine callsIn_of_wp Tryz.func44 rfl trivial ?_ rfl
  simp only [Tryz.ntmps44, List.size_toArray, List.length_cons, List.length_nil, Nat.reduceAdd, Nat.reduceSub, Array.replicate_succ, Array.replicate_zero, List.push_toArray, List.append_toArray, List.nil_append, List.cons_append]
  gi_wp2
  gi_loopw [2] (fun i wr => ∃ j : Nat, j ≤ 8 ∧ i = .int .i64 ((j : Int) + 1) ∧ J (kL.take j) wr ∧ NM wr) (fun i _ => 10 - (intOf i).toNat)
  case atStart => exact ⟨0, Nat.zero_le _, rfl, h0, hN⟩
  case round =>
    obtain ⟨j, hj, rfl, hJ, hNr⟩ := hrel
    have HK : Hid (∀ W' : World, Calls Tryz.prog 39 #[.int .i64 ((j : Int) + 1)] W' fun e w' => e = .returned (.bool (decide ((j : Nat) < 8))) ∧ W' = w') := Lib.hid fun W' => by
      have h := known_any ((j : Int) + 1) W'
      rwa [show decide (1 ≤ (j : Int) + 1 ∧ (j : Int) + 1 ≤ 8) = decide ((j : Nat) < 8) from decide_eq_decide.2 (by omega)] at h
    by_cases hlt : j < 8
    · rw [decide_eq_true hlt] at HK
      have HNM : Hid (Calls Tryz.prog 16 #[.int .i64 ((j : Int) + 1)] wr fun e w' => e = .returned (.string (nmB (j + 1))) ∧ wr = w') := Lib.hid (by
        have h := Name_is (j + 1) (by omega) (by omega) wr hNr
        rwa [show ((j + 1 : Nat) : Int) = (j : Int) + 1 by omega] at h)
      have HY := Lib.hid (hY (kL.take j) (j + 1) wr hJ (by rw [kL_take j hlt]; exact List.take_prefix _ _))
      have HT : Hid (kL.take j ++ [j + 1] = kL.take (j + 1)) := Lib.hid (kL_take j hlt)
      have HN := Lib.hid hNr
      clear hJ hNr
      obtain ⟨fn, tmps, assign, body, hy, hR⟩ := HY.out
      dsimp only [encK] at hy
      rw [show ((j + 1 : Nat) : Int) = (j : Int) + 1 by omega] at hy
      gi_wp2_with (first
        | (refine ⟨trivial, ?_⟩; gi_at_call 39; refine (callsIn_wide.2 (HK.out _)).mono ?_; rintro e w' ⟨rfl, rfl⟩)
        | (refine ⟨trivial, ?_⟩; gi_at_call 16; refine (callsIn_wide.2 HNM.out).mono ?_; rintro e w' ⟨rfl, rfl⟩))
      refine hR.mono ?_
      rintro e W3 (⟨rfl, hJ3, hk3⟩ | ⟨rfl, hJx3⟩)
      · gi_wp2
        go_roundw
        case rel => exact ⟨j + 1, by omega, by go_num, by rw [← HT.out]; exact hJ3, HN.out.same hk3.2⟩
        case measure => simp [intOf]; omega
      · gi_wp2
        refine bodyPost_ret (results_none rfl _ _ _) rfl ?_
        exact ⟨⟨_, rfl⟩, .inr ⟨kL.take j ++ [j + 1], by rw [HT.out]; exact List.take_prefix _ _, hJx3⟩⟩
    · rw [decide_eq_false hlt] at HK
      have HE : Hid (kL.take j = kL) := Lib.hid (by rw [show j = 8 by omega]; rfl)
      gi_wp2_with (refine ⟨trivial, ?_⟩; gi_at_call 39; refine (callsIn_wide.2 (HK.out _)).mono ?_; rintro e w' ⟨rfl, rfl⟩)
      go_end0
      exact ⟨⟨_, rfl⟩, .inl ⟨kL.take j, HE.out, hJ⟩⟩

set_option maxHeartbeats 1000000 in
theorem Kinds_in (n : Nat) (w : World) :
    CallsIn Fence.wide n Tryz.prog 15 #[] w fun e w' => e = .returned (.func (.func 44) #[] #[]) ∧ w' = w := by
  refine callsIn_of_wp Tryz.func15 rfl trivial ?_ rfl
  simp only [Tryz.ntmps15, List.size_toArray, List.length_cons, List.length_nil, Nat.reduceAdd, Nat.reduceSub, Array.replicate_succ, Array.replicate_zero, List.push_toArray, List.append_toArray, List.nil_append, List.cons_append]
  gi_wp2
  go_ret
  exact ⟨rfl, rfl⟩

/-- A kind. -/
abbrev Kd := { k : Nat // k ∈ kL }
theorem Kinds_stops (n : Nat) (hn : 1 ≤ n) (w : World) (hN : NM w) :
    SeqStopsK Fence.wide n Tryz.prog 44 #[] (fun x : Kd => encK x.1) (KeepsR 0) (fun ys => ys.map Subtype.val = kL) (fun pre => pre.map Subtype.val <+: kL) 8 w := fun l J Jx W hW hJ _ hY h0 => by
  refine (Kinds1_in n hn l (fun pre W => ∃ p : List Kd, p.map Subtype.val = pre ∧ J p W) (fun pre W => ∃ p : List Kd, p.map Subtype.val = pre ∧ Jx p W) ?_ W (hN.below hW (Nat.le_refl _)) ⟨[], rfl, h0⟩).mono ?_
  · rintro pre x W1 ⟨p, rfl, hp⟩ hpre
    have hx : x ∈ kL := hpre.subset (by simp)
    have hlen : p.length < 8 := by
      have h1 := hpre.length_le
      rw [List.length_append, List.length_map, show kL.length = 8 from rfl, List.length_singleton] at h1
      omega
    obtain ⟨fn, tmps, assign, body, hy, hR⟩ := hY p ⟨x, hx⟩ W1 hp hlen
    refine ⟨fn, tmps, assign, body, hy, hR.mono ?_⟩
    rintro e W' (⟨h1, h2, h3⟩ | ⟨h1, h2⟩)
    · exact .inl ⟨h1, ⟨_, by simp, h2⟩, h3⟩
    · exact .inr ⟨h1, ⟨_, by simp, h2⟩⟩
  · rintro e W' ⟨hv, (⟨ys, rfl, p, hp, hj⟩ | ⟨pre, hpre, p, rfl, hj⟩)⟩
    · exact ⟨hv, .inl ⟨p, hp, hj⟩⟩
    · exact ⟨hv, .inr ⟨p, hpre, hj⟩⟩
end Go.Proofs.YtcecibopanfmgaaGreatDoor

namespace Go.Proofs.YtcecibopanfmgaaGreatDoor
open Go.RowKit Go.Shelf
set_option linter.unusedVariables false
attribute [local go_sem] Oper.semAt_some

def wantC : List Value := [.string ⟨#[100, 105, 103, 105, 116, 115]⟩, .string ⟨#[116, 101, 120, 116]⟩, .string ⟨#[105, 100]⟩, .string ⟨#[97, 109, 111, 110, 103]⟩, .string ⟨#[99, 97, 114, 100]⟩, .string ⟨#[100, 97, 116, 101]⟩, .string ⟨#[112, 114, 111, 111, 102]⟩, .string ⟨#[97, 109, 111, 117, 110, 116]⟩]
theorem want_at (j : Nat) (h : j < 8) : wantC[j]? = some (.string (nmB (j + 1))) := by
  match j, h with
  | 0, _ => rfl
  | 1, _ => rfl
  | 2, _ => rfl
  | 3, _ => rfl
  | 4, _ => rfl
  | 5, _ => rfl
  | 6, _ => rfl
  | 7, _ => rfl
theorem own_row_f {β : Type} {g : Nat} {t : TypeId} {l : List Value} : Own (fun (_ : β) W => Row W g t l) := fun s X Y row h hg hrow => by
  refine (hg.block g h.lt ?_).trans h
  intro e
  have hx : ∃ o, X.heap[g]? = some o ∧ o.isCells = false := by first | exact hrow g e | exact hrow g e.symm
  obtain ⟨o, ho, hc⟩ := hx
  rw [show X.heap[g]? = _ from h] at ho
  cases ho
  cases hc
theorem kd_at {pre : List Kd} {x : Kd} (h : (pre ++ [x]).map Subtype.val <+: kL) : x.1 = pre.length + 1 := by
  obtain ⟨r, hr⟩ := h
  obtain ⟨X, hX⟩ : ∃ X, x.1 = X := ⟨_, rfl⟩
  rw [List.map_append, List.map_cons, List.map_nil, hX] at hr
  rw [hX]
  have hlen : (pre.map Subtype.val).length = pre.length := List.length_map ..
  generalize pre.map Subtype.val = q at hr hlen
  rw [← hlen]
  clear hX hlen
  have h2 : q.length < 8 := by
    have := congrArg List.length hr
    simp [kL] at this
    omega
  have h1 : kL[q.length]? = some X := by rw [← hr]; simp
  have h3 : kL[q.length]? = some (q.length + 1) := by
    match hp : q.length, h2 with
    | 0, _ => rfl
    | 1, _ => rfl
    | 2, _ => rfl
    | 3, _ => rfl
    | 4, _ => rfl
    | 5, _ => rfl
    | 6, _ => rfl
    | 7, _ => rfl
  rw [h3] at h1
  exact (Option.some.inj h1).symm

set_option maxRecDepth 100000 in
set_option maxHeartbeats 4000000 in
theorem FormatNames_walk (kd : Int) (a1 : Int) (w0 : (Lit.int .i64 kd).wf = true) (w1 : (Lit.int .u8 a1).wf = true) (w : World) (hG : G w) (hN : NM w) (hM : M w) :
    Calls Tryz.prog 5 #[.int .i64 kd, .int .u8 a1] w fun e w' => e = .returned (.bool true) ∧ Below w.heap.size w w' := by
  have hr : 0 ≤ a1 ∧ a1 ≤ 255 := by simpa [Lit.wf, IntKind.min, IntKind.max, IntKind.signed, IntKind.bits] using w1
  obtain ⟨st, rfl⟩ : ∃ st : Nat, a1 = st := ⟨a1.toNat, by omega⟩
  have hst : st ≤ 255 := by omega
  have HKD : Hid ((1 ≤ kd ∧ kd ≤ 8) ∨ (kd < 1 ∨ (1 ≤ kd ∧ 8 < kd))) := Lib.hid (by omega)
  clear w0 w1 hr
  refine (callsIn_wide (n := 6)).1 ?_
  refine callsIn_of_wp_marks Tryz.func5 rfl trivial ?_ rfl
  simp only [Tryz.ntmps5, List.size_toArray, List.length_cons, List.length_nil, Nat.reduceAdd, Nat.reduceSub, Array.replicate_succ, Array.replicate_zero, List.push_toArray, List.append_toArray, List.nil_append, List.cons_append]
  rw [wpIn_wide]
  have b1 := Boxed.new w 5 (.int .u8 (st : Nat))
  have b2 := Boxed.new (w.alloc (.cells #[.int .u8 (st : Nat)] 5)) 4 (.bool false)
  rw [World.size_alloc] at b2
  have B1 := b1.alloc (.cells #[.bool false] 4)
  have hBe : Below w.heap.size w ((w.alloc (.cells #[.int .u8 (st : Nat)] 5)).alloc (.cells #[.bool false] 4)) := ((Below.refl _ _).alloc (Nat.le_refl _) _).alloc (by simp) _
  have hsz2 : ((w.alloc (.cells #[.int .u8 (st : Nat)] 5)).alloc (.cells #[.bool false] 4)).heap.size = w.heap.size + 2 := by simp
  have HB0 := Lib.hid (And.intro B1 (And.intro b2 (And.intro hBe hsz2)))
  have HG := Lib.hid hG
  have HM := Lib.hid hM
  have HN := Lib.hid hN
  clear b1 b2 B1 hBe hsz2 hG hM hN
  have HST := Lib.hid hst
  clear hst
  go_wp2_with fail
  refine (awake14_any _ (HG.out.below HB0.out.2.2.1) (HM.out.below HB0.out.2.2.1)).mono ?_
  rintro e wa ⟨rfl, hb0⟩
  have HA : Hid (Boxed wa w.heap.size 5 (.int .u8 (st : Nat)) ∧ Boxed wa (w.heap.size + 1) 4 (.bool false) ∧ Below w.heap.size w wa ∧ w.heap.size + 2 ≤ wa.heap.size) := Lib.hid
    ⟨boxed_below_f HB0.out.1 hb0 (by rw [HB0.out.2.2.2]; omega), boxed_below_f HB0.out.2.1 hb0 (by rw [HB0.out.2.2.2]; omega), HB0.out.2.2.1.trans (hb0.mono (by rw [HB0.out.2.2.2]; omega)), by have := hb0.size; rw [HB0.out.2.2.2] at this; exact this⟩
  clear HB0 hb0
  go_wp2_with fail
  refine ((callsIn_wide (n := 0)).1 (Kinds_in 0 _)).mono ?_
  rintro e w2 ⟨rfl, rfl⟩
  go_wp2_with fail
  have c1 := Boxed.new wa 9 (.int .i64 0)
  obtain ⟨wl, hwl⟩ : ∃ wl, ((wa.alloc (.cells wantC.toArray 9)).alloc (.cells #[.slice (some ⟨wa.heap.size, 0, none⟩) 8 8] 22)).alloc (.cells #[.int .i64 0] 3) = wl := ⟨_, rfl⟩
  have C1 : Row wl wa.heap.size 9 wantC := by rw [← hwl]; exact ((Row.new wa 9 wantC).alloc _).alloc _
  have C2 : Boxed wl (wa.heap.size + 1) 22 (.slice (some ⟨wa.heap.size, 0, none⟩) 8 8) := by
    have h := Boxed.new (wa.alloc (.cells wantC.toArray 9)) 22 (.slice (some ⟨wa.heap.size, 0, none⟩) 8 8)
    rw [World.size_alloc] at h
    rw [← hwl]; exact h.alloc _
  have C3 : Boxed wl (wa.heap.size + 1 + 1) 3 (.int .i64 0) := by
    have h := Boxed.new ((wa.alloc (.cells wantC.toArray 9)).alloc (.cells #[.slice (some ⟨wa.heap.size, 0, none⟩) 8 8] 22)) 3 (.int .i64 0)
    simp only [World.size_alloc] at h
    rw [← hwl]; exact h
  have hbl : Below wa.heap.size wa wl := by
    rw [← hwl]
    exact (((Below.refl _ _).alloc (Nat.le_refl _) _).alloc (by simp) _).alloc (by simp; omega) _
  have hsl : wl.heap.size = wa.heap.size + 3 := by rw [← hwl]; simp
  have C5 := boxed_below_f HA.out.1 hbl (by have := HA.out.2.2.2; omega)
  have C6 := boxed_below_f HA.out.2.1 hbl (by have := HA.out.2.2.2; omega)
  have hBl := HA.out.2.2.1.trans (hbl.mono (by have := HA.out.2.2.2; omega))
  have hwb := HA.out.2.2.2
  unfold wantC at hwl
  rw [hwl]
  clear c1 hwl
  have hNl : NM wl := HN.out.below hBl (Nat.le_refl _)
  have hgn : 0 < w.heap.size := HN.out.lt
  have HO : OwnFrom wl.heap.size (fun (pre : List Kd) W => Boxed W w.heap.size 5 (.int .u8 (st : Nat)) ∧ Boxed W (w.heap.size + 1) 4 (.bool false) ∧ Row W wa.heap.size 9 wantC ∧ Boxed W (wa.heap.size + 1) 22 (.slice (some ⟨wa.heap.size, 0, none⟩) 8 8) ∧ Boxed W (wa.heap.size + 1 + 1) 3 (.int .i64 (pre.length : Nat)) ∧ Below w.heap.size w W) := (OwnFrom.and (Own.from (own_box_u _ _ _) _) (OwnFrom.and (Own.from (own_box_u _ _ _) _) (OwnFrom.and (Own.from own_row_f _) (OwnFrom.and (Own.from (own_box_u _ _ _) _) (OwnFrom.and (Own.from (own_box_u _ _ _) _) (ownFrom_below (Nat.le_refl _) (by omega)))))))
  rw [← wpIn_wide (n := 6)]
  refine' wpIn_rangeFunc_ownG rfl (by omega) (gf := 44) (lb := #[]) rfl trivial (enters_of Tryz.func44 (by kernel_rfl) rfl)
    (Kinds_stops 5 (by omega) _ hNl) keepsR_t (keepsR_b (by omega)) (Below.refl _ _) (fun _ => rfl)
    (fun pre W => (Boxed W w.heap.size 5 (.int .u8 (st : Nat)) ∧ Boxed W (w.heap.size + 1) 4 (.bool false) ∧ Row W wa.heap.size 9 wantC ∧ Boxed W (wa.heap.size + 1) 22 (.slice (some ⟨wa.heap.size, 0, none⟩) 8 8) ∧ Boxed W (wa.heap.size + 1 + 1) 3 (.int .i64 (pre.length : Nat)) ∧ Below w.heap.size w W) ∧ pre.length ≤ st)
    (fun c pre W => (c = .exit 0 ∧ (Boxed W w.heap.size 5 (.int .u8 (st : Nat)) ∧ Boxed W (w.heap.size + 1) 4 (.bool false) ∧ Row W wa.heap.size 9 wantC ∧ Boxed W (wa.heap.size + 1) 22 (.slice (some ⟨wa.heap.size, 0, none⟩) 8 8) ∧ Boxed W (wa.heap.size + 1 + 1) 3 (.int .i64 (pre.length : Nat)) ∧ Below w.heap.size w W) ∧ pre.length = st + 1) ∨ (¬ pre.map Subtype.val <+: kL))
    (OwnFrom.and HO ownFrom_pure_f)
    (fun c s X Y row hs hg hrow => by
      rcases hs with ⟨h0, h1, h2⟩ | h
      · exact .inl ⟨h0, HO s X Y row h1 hg hrow, h2⟩
      · exact .inr h)
    ⟨⟨C5, C6, C1, C2, C3, hBl⟩, Nat.zero_le _⟩
    _ _ _ _ _
  case refine'_2 =>
    intro l x W K hK
    gi_wp2
    exact hK
  case refine'_3 =>
    rintro l' pre ⟨k, hx⟩ W ⟨⟨hv0, hv1, hv2, hv3, hv4, hB⟩, hle⟩ hlt
    have hNW : NM W := HN.out.below hB (Nat.le_refl _)
    by_cases hm : k = pre.length + 1
    · subst hm
      have hnm : Hid (CallsIn (Fence.wide.inRound l') 3 Tryz.prog 16 #[.int .i64 ((pre.length : Int) + 1)] W fun e w' => e = .returned (.string (nmB (pre.length + 1))) ∧ W = w') := Lib.hid (by
        have h := Name_is (pre.length + 1) (by omega) (by omega) W hNW
        rw [show ((pre.length + 1 : Nat) : Int) = (pre.length : Int) + 1 by omega] at h
        exact CallsIn.inRound l' (callsIn_wide.2 h))
      have hw2 := hv2.cell pre.length
      rw [want_at pre.length hlt] at hw2
      have hc0 := hv0.cell
      have hc3 := hv3.cell
      have hc4 := hv4.cell
      have hf4 := hv4.frozen
      have hkM := (hv4.set (.int .i64 ((pre.length : Int) + 1))).cell
      have hk0 := (hv0.other (by omega : w.heap.size ≠ wa.heap.size + 1 + 1) (.int .i64 ((pre.length : Int) + 1))).cell
      have HV := Lib.hid (And.intro hv0 (And.intro hv1 (And.intro hv2 (And.intro hv3 (And.intro hv4 hB)))))
      obtain ⟨S, hS⟩ : ∃ S, nmB (pre.length + 1) = S := ⟨_, rfl⟩
      rw [hS] at hnm hw2
      clear hv0 hv1 hv2 hv3 hv4 hB hNW
      have hcast : ((pre.length + 1 : Nat) : Int) = (pre.length : Int) + 1 := by omega
      by_cases hgt : pre.length + 1 ≤ st
      · have hgi : (pre.length : Int) + 1 ≤ (st : Int) := by omega
        have hst5 : (st : Int) ≤ 255 := by have := HST.out; omega
        dsimp only [encK]
        rw [hS, hcast]
        gi_wp2_with (refine ⟨trivial, ?_⟩; gi_at_call 16; refine hnm.out.mono ?_; rintro e w' ⟨rfl, rfl⟩)
        obtain ⟨hv0, hv1, hv2, hv3, hv4, hB⟩ := HV.out
        have h4 := hv4.set (.int .i64 ((pre.length : Int) + 1))
        have hall : Boxed (W.setCell ⟨wa.heap.size + 1 + 1, 0, none⟩ (.int .i64 ((pre.length : Int) + 1))) (wa.heap.size + 1 + 1) 3 (.int .i64 ((pre ++ [(⟨pre.length + 1, hx⟩ : Kd)]).length : Nat)) := by rw [List.length_append]; exact h4
        refine ⟨(KeepsOthers.setCell _ _ _).from _, keepsR_set _ (by omega) _, ⟨hv0.other (by omega) _, hv1.other (by omega) _, hv2.far (by show wa.heap.size ≠ wa.heap.size + 1 + 1; omega) _, hv3.other (by omega) _, hall, hB.setCell (p := ⟨wa.heap.size + 1 + 1, 0, none⟩) (by show _ ≤ wa.heap.size + 1 + 1; omega) _⟩, by simp; omega⟩
      · have hgi : (st : Int) < (pre.length : Int) + 1 := by omega
        have hst5 : (st : Int) ≤ 255 := by have := HST.out; omega
        dsimp only [encK]
        rw [hS, hcast]
        gi_wp2_with (refine ⟨trivial, ?_⟩; gi_at_call 16; refine hnm.out.mono ?_; rintro e w' ⟨rfl, rfl⟩)
        obtain ⟨hv0, hv1, hv2, hv3, hv4, hB⟩ := HV.out
        have h4 := hv4.set (.int .i64 ((pre.length : Int) + 1))
        have hall : Boxed (W.setCell ⟨wa.heap.size + 1 + 1, 0, none⟩ (.int .i64 ((pre.length : Int) + 1))) (wa.heap.size + 1 + 1) 3 (.int .i64 ((pre ++ [(⟨pre.length + 1, hx⟩ : Kd)]).length : Nat)) := by rw [List.length_append]; exact h4
        exact ⟨(KeepsOthers.setCell _ _ _).from _, .inl ⟨rfl, ⟨hv0.other (by omega) _, hv1.other (by omega) _, hv2.far (by show wa.heap.size ≠ wa.heap.size + 1 + 1; omega) _, hv3.other (by omega) _, hall, hB.setCell (p := ⟨wa.heap.size + 1 + 1, 0, none⟩) (by show _ ≤ wa.heap.size + 1 + 1; omega) _⟩, by simp; omega⟩⟩
    · have hnp : ¬ (pre ++ [(⟨k, hx⟩ : Kd)]).map Subtype.val <+: kL := fun h => hm (kd_at h)
      have hne : ((k : Int) != (pre.length : Int) + 1) = true := by rw [bne_iff_ne]; omega
      have hne3 : ((k : Int) == (pre.length : Int) + 1) = false := by rw [beq_eq_false_iff_ne]; omega
      have hc3 := hv3.cell
      have hc4 := hv4.cell
      have hc1 := hv1.cell
      have hf1 := hv1.frozen
      have HNP := Lib.hid hnp
      clear hnp hv0 hv1 hv2 hv3 hv4 hB hNW
      dsimp only [encK]
      gi_wp2
      refine ⟨trivial, ?_⟩
      gi_wp2
      exact ⟨(KeepsOthers.setCell _ _ _).from _, .inr HNP.out⟩
  case refine'_4 =>
    rintro D ys W hD hys ⟨⟨hv0, hv1, hv2, hv3, hv4, hB⟩, hle⟩ hK
    have hyl : ys.length = 8 := by have := congrArg List.length hys; rw [List.length_map] at this; exact this
    obtain ⟨L, hLe⟩ : ∃ L, ys.length = L := ⟨_, rfl⟩
    rw [hLe] at hv4 hyl hle
    have HL : Hid ((L = 8 ∧ 8 ≤ st) ∨ (L = st + 1 ∧ st + 1 ≤ 8)) := Lib.hid (by omega)
    have HD : Hid (w.heap.size ≤ D) := Lib.hid (by omega)
    have HV := Lib.hid (And.intro hv0 (And.intro hv1 (And.intro hv3 hv4)))
    have HB := Lib.hid (And.intro hB hK)
    clear hv0 hv1 hv2 hv3 hv4 hB hK hyl hLe hle hys hD C1 C2 C3 C5 C6 hBl hbl hsl hwb hNl hgn HO
    have hst2 : (st : Int) ≤ 255 := by have := HST.out; omega
    have hv1 := HV.out.1
    have hk3 := HV.out.1.cell
    have hkn := HV.out.2.2.2.cell
    have hf4 := HV.out.2.1.frozen
    have hc4 := HV.out.2.1.cell
    have hmin : min (8 : Int) ((st : Int) + 1) = (L : Int) := by have := HL.out; omega
    rcases HKD.out with ⟨h1, h8⟩ | hnot
    · go_wp2_with fail
      have hvR := HV.out.2.1.set (.bool true)
      have kD := (KeepsOthers.setCell _ ⟨w.heap.size + 1, 0, none⟩ (.bool true)).same D _ HB.out.2 rfl
      have hR := (hvR.kept (grownBy_putObj' _ D (.deferred none)) (box_ne_f hvR kD)).cell
      have hB4 := HB.out.1.setCell (p := ⟨w.heap.size + 1, 0, none⟩) (by show w.heap.size ≤ w.heap.size + 1; omega) (.bool true)
      refine ⟨by simp, .inl ⟨_, _, rfl, run_takeDeferred kD, ?_⟩⟩
      exact ⟨.bool true, by simp [results, Tryz.f5, go_sem, hR], rfl, hB4.trans (belowK_b (w := w) (Nat.le_refl _) _ D _ _ HD.out kD rfl rfl)⟩
    · have HNO : Hid (∀ W : World, Calls Tryz.prog 16 #[.int .i64 kd] W fun e w' => e = .returned (.string ⟨#[63]⟩) ∧ W = w') := Lib.hid fun W => Name_not kd (by omega) W
      rcases hnot with hlo | ⟨hlo, hhi⟩
      · go_wp2_with fail
        refine (HNO.out _).mono ?_
        rintro e w' ⟨rfl, rfl⟩
        go_wp2_with fail
        have hvR := HV.out.2.1.set (.bool true)
        have kD := (KeepsOthers.setCell _ ⟨w.heap.size + 1, 0, none⟩ (.bool true)).same D _ HB.out.2 rfl
        have hR := (hvR.kept (grownBy_putObj' _ D (.deferred none)) (box_ne_f hvR kD)).cell
        have hB4 := HB.out.1.setCell (p := ⟨w.heap.size + 1, 0, none⟩) (by show w.heap.size ≤ w.heap.size + 1; omega) (.bool true)
        refine ⟨by simp, .inl ⟨_, _, rfl, run_takeDeferred kD, ?_⟩⟩
        exact ⟨.bool true, by simp [results, Tryz.f5, go_sem, hR], rfl, hB4.trans (belowK_b (w := w) (Nat.le_refl _) _ D _ _ HD.out kD rfl rfl)⟩
      · go_wp2_with fail
        refine (HNO.out _).mono ?_
        rintro e w' ⟨rfl, rfl⟩
        go_wp2_with fail
        have hvR := HV.out.2.1.set (.bool true)
        have kD := (KeepsOthers.setCell _ ⟨w.heap.size + 1, 0, none⟩ (.bool true)).same D _ HB.out.2 rfl
        have hR := (hvR.kept (grownBy_putObj' _ D (.deferred none)) (box_ne_f hvR kD)).cell
        have hB4 := HB.out.1.setCell (p := ⟨w.heap.size + 1, 0, none⟩) (by show w.heap.size ≤ w.heap.size + 1; omega) (.bool true)
        refine ⟨by simp, .inl ⟨_, _, rfl, run_takeDeferred kD, ?_⟩⟩
        exact ⟨.bool true, by simp [results, Tryz.f5, go_sem, hR], rfl, hB4.trans (belowK_b (w := w) (Nat.le_refl _) _ D _ _ HD.out kD rfl rfl)⟩
  case refine'_5 =>
    rintro D c pre W hD hpre hs hK
    rcases hs with ⟨rfl, ⟨hv0, hv1, hv2, hv3, hv4, hB⟩, hle⟩ | h
    · rw [wpIn_wide]
      have hyl : pre.length ≤ 8 := by have := hpre.length_le; rw [List.length_map] at this; exact this
      obtain ⟨L, hLe⟩ : ∃ L, pre.length = L := ⟨_, rfl⟩
      rw [hLe] at hv4 hyl hle
      have HL : Hid ((L = 8 ∧ 8 ≤ st) ∨ (L = st + 1 ∧ st + 1 ≤ 8)) := Lib.hid (by omega)
      have HD : Hid (w.heap.size ≤ D) := Lib.hid (by omega)
      have HV := Lib.hid (And.intro hv0 (And.intro hv1 (And.intro hv3 hv4)))
      have HB := Lib.hid (And.intro hB hK)
      clear hv0 hv1 hv2 hv3 hv4 hB hK hyl hLe hle hpre hD C1 C2 C3 C5 C6 hBl hbl hsl hwb hNl hgn HO
      have hst2 : (st : Int) ≤ 255 := by have := HST.out; omega
      have hv1 := HV.out.1
      have hk3 := HV.out.1.cell
      have hkn := HV.out.2.2.2.cell
      have hf4 := HV.out.2.1.frozen
      have hc4 := HV.out.2.1.cell
      have hmin : min (8 : Int) ((st : Int) + 1) = (L : Int) := by have := HL.out; omega
      rcases HKD.out with ⟨h1, h8⟩ | hnot
      · go_wp2_with fail
        have hvR := HV.out.2.1.set (.bool true)
        have kD := (KeepsOthers.setCell _ ⟨w.heap.size + 1, 0, none⟩ (.bool true)).same D _ HB.out.2 rfl
        have hR := (hvR.kept (grownBy_putObj' _ D (.deferred none)) (box_ne_f hvR kD)).cell
        have hB4 := HB.out.1.setCell (p := ⟨w.heap.size + 1, 0, none⟩) (by show w.heap.size ≤ w.heap.size + 1; omega) (.bool true)
        refine ⟨by simp, .inl ⟨_, _, rfl, run_takeDeferred kD, ?_⟩⟩
        exact ⟨.bool true, by simp [results, Tryz.f5, go_sem, hR], rfl, hB4.trans (belowK_b (w := w) (Nat.le_refl _) _ D _ _ HD.out kD rfl rfl)⟩
      · have HNO : Hid (∀ W : World, Calls Tryz.prog 16 #[.int .i64 kd] W fun e w' => e = .returned (.string ⟨#[63]⟩) ∧ W = w') := Lib.hid fun W => Name_not kd (by omega) W
        rcases hnot with hlo | ⟨hlo, hhi⟩
        · go_wp2_with fail
          refine (HNO.out _).mono ?_
          rintro e w' ⟨rfl, rfl⟩
          go_wp2_with fail
          have hvR := HV.out.2.1.set (.bool true)
          have kD := (KeepsOthers.setCell _ ⟨w.heap.size + 1, 0, none⟩ (.bool true)).same D _ HB.out.2 rfl
          have hR := (hvR.kept (grownBy_putObj' _ D (.deferred none)) (box_ne_f hvR kD)).cell
          have hB4 := HB.out.1.setCell (p := ⟨w.heap.size + 1, 0, none⟩) (by show w.heap.size ≤ w.heap.size + 1; omega) (.bool true)
          refine ⟨by simp, .inl ⟨_, _, rfl, run_takeDeferred kD, ?_⟩⟩
          exact ⟨.bool true, by simp [results, Tryz.f5, go_sem, hR], rfl, hB4.trans (belowK_b (w := w) (Nat.le_refl _) _ D _ _ HD.out kD rfl rfl)⟩
        · go_wp2_with fail
          refine (HNO.out _).mono ?_
          rintro e w' ⟨rfl, rfl⟩
          go_wp2_with fail
          have hvR := HV.out.2.1.set (.bool true)
          have kD := (KeepsOthers.setCell _ ⟨w.heap.size + 1, 0, none⟩ (.bool true)).same D _ HB.out.2 rfl
          have hR := (hvR.kept (grownBy_putObj' _ D (.deferred none)) (box_ne_f hvR kD)).cell
          have hB4 := HB.out.1.setCell (p := ⟨w.heap.size + 1, 0, none⟩) (by show w.heap.size ≤ w.heap.size + 1; omega) (.bool true)
          refine ⟨by simp, .inl ⟨_, _, rfl, run_takeDeferred kD, ?_⟩⟩
          exact ⟨.bool true, by simp [results, Tryz.f5, go_sem, hR], rfl, hB4.trans (belowK_b (w := w) (Nat.le_refl _) _ D _ _ HD.out kD rfl rfl)⟩
    · exact absurd hpre h
end Go.Proofs.YtcecibopanfmgaaGreatDoor

namespace Go.Proofs.YtcecibopanfmgaaGreatDoor.formatNames
open Go.ChangeShapes Go.WideShapes Go.ChangeAt Go.RowKit
open Go.ChangeMaps (open_string shut_string)
set_option linter.unusedVariables false

theorem own : ownKnob Tryz.prog.godebug = none := by kernel_rfl

set_option maxRecDepth 100000 in
theorem lifted (os : Os) (started : os.Started) (H : Type) (enc : TypeId × Value → H) :
    ReturnsInHanded {} Tryz.checked os 5 .any (fun w args => (Rows.formatNamesSpec.pre enc Tryz.prog Tryz.f5 Rows.formatNamesRow.domain false w args ∧ laidMetH Tryz.prog Rows.formatNamesRow.laid w) ∧ sizedMet enc Tryz.prog Tryz.f5 (OpenSpec.ofChange Rows.formatNamesSpec) false w args) (Rows.formatNamesSpec.post enc Tryz.prog Tryz.f5 false true false false) := by
  refine returns_shaped_and (C := Tryz.checked) (X := fun w _ => laidMetH Tryz.prog Rows.formatNamesRow.laid w) (fun _ _ _ hh h => h.of_heap hh) own started (by kernel_rfl) Tryz.func5
    (ChangeSpec.witness_shaped (enc := enc) (C := Tryz.checked) (os := os) (X := fun w _ => laidMetH Tryz.prog Rows.formatNamesRow.laid w) false (World.laidAll Tryz.prog os Rows.formatNamesRow.laid) #[.int .i64 0, .int .u8 0] 8 (World.laidAll_os _ _ _) (World.shaped_of_ZipB (by kernel_rfl) (by kernel_rfl)) (by kernel_rfl) (by kernel_rfl) (by kernel_rfl) (by rw [MakeChecks.laidMetH_plain _ _ _ (by kernel_rfl)]; exact laidMet_laidAll _ (by kernel_rfl) (by kernel_rfl))) ?_
  intro W base args ds gs before hval0 hW hcnd hsz0 hX1 hX2
  have hsz : (DataW.weightsEach Tryz.prog (Tryz.f5.params.toList ++ Rows.formatNamesSpec.plain.varTypes Tryz.prog) (ds ++ gs)).all (· ≤ reachBytes) = true := hsz0
  have hval : ∀ (j : Nat) t v, Tryz.f5.params[j]? = some t → args[j]? = some v → Value.okWide Tryz.prog W .any base t v := hval0
  have hW' := hW
  obtain ⟨p, q, hA0, hV, rfl, hfz, hnd⟩ := hW
  have hA : DataW.TrodAll enc Tryz.prog W 0 (fun _ => true) true Tryz.f5.params.toList args.toList ds p := hA0
  rw [Tryz.params5] at hA hval hsz
  obtain ⟨v0, vs0, d0, ds0, p0, q0, hargs, rfl, rfl, h0, r0⟩ := trodAll_cons hA
  obtain ⟨v1, vs1, d1, ds1, p1, q1, rfl, rfl, rfl, h1, r1⟩ := trodAll_cons r0
  obtain ⟨rfl, rfl, rfl⟩ := trodAll_nil r1
  obtain rfl : args = #[v0, v1] := by cases args; simp_all
  obtain ⟨rfl, rfl⟩ := trodVars_none hV
  obtain ⟨a0, rfl, rfl, rfl, w0⟩ := open_int Tryz.underlying3 (hval 0 3 v0 rfl rfl) h0
  obtain ⟨a1, rfl, rfl, rfl, w1⟩ := open_int Tryz.underlying5 (hval 1 5 v1 rfl rfl) h1
  clear hA0 hval0 hsz hsz0
  simp only [List.append_nil] at hW'
  refine (FormatNames_walk a0 a1 w0 w1 W (G_of_laid9 hX1) (NM_of_laid9 hX1) (M_of_shaped hX2)).mono fun e W' ⟨he, bel⟩ => ?_
  subst he
  exact ⟨_, rfl, _, _, _, [], _, [], hW', trodAll_mk1 (shut_bool Tryz.underlying4 _), (trodAll_cons_mk (shut_int Tryz.underlying3 w0) (trodAll_cons_mk (shut_int Tryz.underlying5 w1) trodAll_mk0)), rfl, bel.frame _, fun h => by cases h⟩

set_option maxHeartbeats 4000000 in
set_option maxRecDepth 100000 in
theorem closed : joinedFacts Tryz.prog 5 Tryz.f5 Rows.formatNamesSpec Rows.formatNamesRow = true := by
  unfold joinedFacts
  simp only [Bool.and_eq_true]
  repeat' apply And.intro
  all_goals as_aux_lemma => kernel_rfl

set_option maxHeartbeats 4000000 in
theorem over : Rows.formatNamesRow.holds Tryz.pinned (OpenSpec.ofChange Rows.formatNamesSpec) :=
  OpenClaim.holds_of_wide 5 Tryz.f5 rfl rfl rfl rfl rfl rfl rfl ⟨rfl, rfl, rfl, rfl, rfl⟩ rfl rfl rfl rfl rfl (by kernel_rfl) Tryz.func5 closed
    (of_decide_eq_true (by kernel_rfl)) (by unfold Func.isWrapper; first | (rw [if_pos (by decide +kernel)]; kernel_rfl) | (rw [if_neg (by decide +kernel)]; exact ⟨rfl, rfl⟩))
    (fun os started H enc _ => lifted os started H enc)

set_option maxHeartbeats 4000000 in
theorem proved : Rows.FormatNamesCardSaid :=
  Claim7.holds_tied_plain_at .later [] [.data, .data, .data, .data, .sentinel, .sentinel, .data, .data, .pinned] true (true, "35c50199adcd6ca2ac707b8a4feec68877a7f113ee6d11511540fa72dc00b5fe") true
    over (fun _ h => by cases h) (by kernel_rfl) (fun _ h => by cases h) formatNames_row_tie rfl ⟨rfl, rfl⟩ (by kernel_rfl) rfl
    (fun f fn hf hfn => by
      obtain rfl : f = 5 := Option.some.inj ((show Tryz.prog.funcNamed "cashier/cashierlaw14.FormatNames" = some 5 by kernel_rfl).symm.trans hf) |>.symm
      obtain rfl : fn = Tryz.f5 := (Option.some.inj (Tryz.func5.symm.trans hfn)).symm
      exact ⟨by kernel_rfl, fun j t ht => by
        rw [Tryz.params5] at ht
        have hm : t ∈ [3, 5] := by simpa using Array.mem_of_getElem? ht
        have hall : ([3, 5].all fun u => !Tryz.prog.wantsStandIn u) = true := by kernel_rfl
        exact (show Tryz.prog.wantsStandIn t = false by simpa using List.all_eq_true.1 hall t hm)⟩)
    (by kernel_rfl)

end Go.Proofs.YtcecibopanfmgaaGreatDoor.formatNames
