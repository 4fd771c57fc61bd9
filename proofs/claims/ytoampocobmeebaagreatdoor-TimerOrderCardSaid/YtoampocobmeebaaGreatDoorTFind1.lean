/- The place of an id. -/
import Derived.Test.YtoampocobmeebaaGreatDoorTPl
import Derived.Test.YtoampocobmeebaaGreatDoorQuietL
namespace Go.Proofs.YtoampocobmeebaaGreatDoor.Tm
open Go.RowKit
set_option linter.unusedVariables false
set_option linter.unusedSimpArgs false

theorem take16 {D : List Value} (h : D.length = 16) : List.take 16 D = D := List.take_of_length_le (by omega)
theorem bv_len {l : List UInt8} (h : l.length = 16) : (l.map bv).length = 16 := by rw [List.length_map, h]
theorem uid_info : ∃ i, Tryz.prog.info? 5 = some i := by
  cases h : Tryz.prog.info? 5 with
  | none => have := Tryz.sizeOf5; simp_all [sizeOf, typeInfo]
  | some i => exact ⟨i, rfl⟩
theorem uid_equalIn (l m : List UInt8) (hl : l.length = 16) (hm : m.length = 16) (W : World) :
    (Op.equalIn 10000 25 (.agg (l.map bv).toArray) (.agg (m.map bv).toArray)).run Tryz.prog W = .ok (decide (l = m)) W := by
  obtain ⟨i, hi⟩ := uid_info
  exact arr_equalIn 25 5 16 l m hl hm Tryz.underlying25 Tryz.underlying5 Tryz.isAgg5 i hi (by kernel_rfl) W
theorem uid_eql (l m : List UInt8) (hl : l.length = 16) (hm : m.length = 16) (W : World) :
    (binOp .eql 25 (.agg (l.map bv).toArray) (.agg (m.map bv).toArray)).run Tryz.prog W = .ok (.bool (decide (l = m))) W := by
  obtain ⟨i, hi⟩ := uid_info
  exact arr_eql 25 5 16 l m hl hm Tryz.underlying25 Tryz.underlying5 Tryz.isAgg5 i hi (by kernel_rfl) W

theorem uid_size {D : List Value} (h : D.length = 16) : (Tryz.prog.info? 25).map (·.size) = some D.length := by rw [h]; kernel_rfl
theorem ent_size {C : List Value} (h : C.length = 17) : (Tryz.prog.info? 58).map (·.size) = some C.length := by rw [h]; kernel_rfl
theorem ld_uid {ops : Array Oper} {rest : List Oper} {op : Oper} {a : Act} {w : World} {Q : Exit → Act → World → Prop} (hgd : op.guard = none) (x : Operand) (ho : op.op = .load 25 x) (b o : Nat) (hx : a.eval x = .pointer (some ⟨b, o, none⟩))
    (D : List Value) (hD : D.length = 16) (hc : w.rangeAt b o D) (h : wpList Tryz.prog ops Q rest (a.put op.dst (.agg D.toArray)) w) : wpList Tryz.prog ops Q (op :: rest) a w :=
  wpList_load_mid hgd _ x ho b o hx D _ hc Tryz.underlying25 rfl (uid_size hD) h
theorem ld_ent {ops : Array Oper} {rest : List Oper} {op : Oper} {a : Act} {w : World} {Q : Exit → Act → World → Prop} (hgd : op.guard = none) (x : Operand) (ho : op.op = .load 58 x) (b o : Nat) (hx : a.eval x = .pointer (some ⟨b, o, none⟩))
    (C : List Value) (hC : C.length = 17) (hc : w.rangeAt b o C) (h : wpList Tryz.prog ops Q rest (a.put op.dst (.agg C.toArray)) w) : wpList Tryz.prog ops Q (op :: rest) a w :=
  wpList_load_mid hgd _ x ho b o hx C _ hc Tryz.underlying58 rfl (ent_size hC) h
theorem row_range {W : World} {b : Nat} {t : TypeId} {C : List Value} (h : Row W b t C) : W.rangeAt b 0 C := fun j v hj => by rw [Nat.zero_add, h.cell]; exact hj
theorem row_range1 {W : World} {b : Nat} {t : TypeId} {x : Value} {C : List Value} (h : Row W b t (x :: C)) : W.rangeAt b 1 C := fun j v hj => by rw [h.cell, Nat.add_comm, List.getElem?_cons_succ]; exact hj

set_option maxRecDepth 20000 in
set_option maxHeartbeats 2000000 in
/-- Is an entry the id's? -/
theorem place1_any (r : EN) (u : List UInt8) (hu : u.length = 16) (b : Nat) (w : World) (hb : Row w b 25 (u.map bv)) :
    Calls Tryz.prog 30 #[.agg r.cells.toArray, .pointer (some ⟨b, 0, none⟩)] w fun e w' => e = .returned (.bool (decide (r.uid = u))) ∧ Below w.heap.size w w' := by
  have HE := Lib.hid (fun W => uid_eql r.uid u r.huid hu W)
  have HE2 := Lib.hid (fun W => uid_equalIn r.uid u r.huid hu W)
  have hlr := bv_len r.huid
  have hlu := bv_len hu
  obtain ⟨C, hC⟩ : ∃ C, r.uid.map bv = C := ⟨_, rfl⟩
  obtain ⟨D, hD⟩ : ∃ D, u.map bv = D := ⟨_, rfl⟩
  obtain ⟨R, hR⟩ : ∃ R, decide (r.uid = u) = R := ⟨_, rfl⟩
  rw [hC, hD, hR] at HE HE2
  rw [hC] at hlr
  rw [hD] at hlu hb
  rw [hR]
  have hcl : r.cells = .int .u64 r.tm :: C := by unfold EN.cells; rw [hC]
  rw [hcl]
  obtain ⟨tm, htm⟩ : ∃ tm, r.tm = tm := ⟨_, rfl⟩
  rw [htm]
  clear hcl htm hC hD hR
  have r0 := Row.new w 58 (.int .u64 tm :: C)
  have b0 := hb.alloc (.cells (Value.int .u64 tm :: C).toArray 58)
  have HB0 := Lib.hid ((Below.refl w.heap.size w).alloc (Nat.le_refl _) (.cells (Value.int .u64 tm :: C).toArray 58))
  have hlr' := hlr
  have hlu' := hlu
  have q0 := row_range1 r0
  have q1 := row_range b0
  have he2 := HE2.out (w.alloc (.cells (Value.int .u64 tm :: C).toArray 58))
  have he := HE.out (w.alloc (.cells (Value.int .u64 tm :: C).toArray 58))
  clear r0 b0 HE HE2 hb
  have HQ := Lib.hid (And.intro q0 q1)
  clear q0 q1
  go_enter Tryz.func30, Tryz.ntmps30
  go_wp2_with (first
    | (refine ld_uid rfl (.tmp 4) rfl w.heap.size 1 rfl C hlr' HQ.out.1 ?_)
    | (refine ld_uid rfl (.tmp 1) rfl b 0 rfl D hlu' HQ.out.2 ?_))
  go_ret
  exact ⟨rfl, HB0.out⟩
end Go.Proofs.YtoampocobmeebaaGreatDoor.Tm
