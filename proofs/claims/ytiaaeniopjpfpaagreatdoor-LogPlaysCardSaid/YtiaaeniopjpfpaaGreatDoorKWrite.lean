/- A disk written. -/
import Derived.Test.YtiaaeniopjpfpaaGreatDoorKRead
import Derived.Deep.RegionHeld3
import Derived.Great.BuildSlice
import Derived.Test.YtiaaeniopjpfpaaGreatDoorLast
namespace Go.Proofs.YtiaaeniopjpfpaaGreatDoor
open Go.RowKit Go.Maps
set_option linter.unusedVariables false
set_option linter.unusedSimpArgs false

theorem lay_fold (off : Nat) : ∀ (vs : List Value) (k : Nat) (cs : Array Value), off + k + vs.length ≤ cs.size →
    ((vs.zipIdx k).foldl (fun cs x => cs.setIfInBounds (off + x.2) x.1) cs).toList = cs.toList.take (off + k) ++ vs ++ cs.toList.drop (off + k + vs.length) := by
  intro vs
  induction vs with
  | nil => intro k cs h; simp
  | cons v vs ih =>
    intro k cs h
    simp only [List.length_cons] at h
    rw [List.zipIdx_cons, List.foldl_cons, ih (k + 1) _ (by simp; omega)]
    have hl : off + k < cs.toList.length := by simp; omega
    rw [Array.toList_setIfInBounds, List.take_set, List.drop_set, if_pos (by omega)]
    have e1 : (cs.toList.take (off + (k + 1))).set (off + k) v = cs.toList.take (off + k) ++ [v] := by
      rw [show off + (k + 1) = off + k + 1 by omega, List.take_succ_eq_append_getElem hl, List.set_append_right _ _ (by simp; omega), List.length_take, show off + k - min (off + k) cs.toList.length = 0 by omega]
      rfl
    rw [e1]
    simp only [List.append_assoc, List.singleton_append, List.length_cons]
    rw [show off + (k + 1) + vs.length = off + k + (vs.length + 1) by omega]
theorem lay_arr (off : Nat) (v : Value) (cs : Array Value) (h : off + v.cells.size ≤ cs.size) :
    (v.cells.zipIdx.foldl (fun cs (x : Value × Nat) => cs.setIfInBounds (off + x.2) x.1) cs) = (cs.toList.take off ++ v.cells.toList ++ cs.toList.drop (off + v.cells.size)).toArray := by
  apply Array.ext'
  rw [← Array.foldl_toList, Array.toList_zipIdx]
  have := lay_fold off v.cells.toList 0 cs (by simpa using h)
  simpa using this
def zW : List Value := List.replicate 128 (.int .u8 0)
theorem zW_info : (Tryz.prog.info? 142).map (fun i => (i.zero, i.size)) = some (some (.agg (.int .i64 0 :: zW).toArray), 129) := by kernel_rfl
theorem write_info : (Tryz.prog.info? 142).map (fun i => (i.zero, i.size, i.bytes)) = some (some (.agg (.int .i64 0 :: zW).toArray), 129, 136) := by kernel_rfl
theorem write_size : (Tryz.prog.info? 142).map (·.size) = some 129 := by kernel_rfl
theorem int_size (W : World) : (sizeOf 3).run Tryz.prog W = .ok 1 W := by kernel_rfl
theorem blk_sizeOf (W : World) : (sizeOf 90).run Tryz.prog W = .ok 128 W := by kernel_rfl
/-- 'write{at, b}'. -/
theorem build_write (x : Int) (C : List Value) (hC : C.length = 128) (W : World) :
    (Instr.build 142 #[(0, .int .i64 x), (1, .agg C.toArray)]).run Tryz.prog W = .ok (.agg (.int .i64 x :: C).toArray) W := by
  have hz := zero_of_info zW_info
  have hu := Tryz.underlying142
  have hs1 := int_size W
  have hs2 := blk_sizeOf W
  have hf : Instr.fill (fun i => #[((0 : Nat), (1 : Nat)), (1, 128)][i]?) (Value.agg (Value.int IntKind.i64 0 :: zW).toArray).cells [(0, Value.int IntKind.i64 x), (1, Value.agg C.toArray)] = some (Value.int IntKind.i64 x :: C).toArray := by
    have e0 : (Value.agg (Value.int IntKind.i64 0 :: zW).toArray).cells = (Value.int IntKind.i64 0 :: zW).toArray := rfl
    have e1 : (Value.int IntKind.i64 x).cells = #[Value.int IntKind.i64 x] := rfl
    have e2 : (Value.agg C.toArray).cells = C.toArray := rfl
    have hzl : (Value.int IntKind.i64 0 :: zW).toArray.size = 129 := by simp [zW]
    have l1 := lay_arr 0 (.int .i64 x) (Value.int IntKind.i64 0 :: zW).toArray (by rw [e1, hzl]; simp)
    rw [e0]
    unfold Instr.fill
    simp only [List.getElem?_toArray, List.getElem?_cons_zero]
    rw [if_neg (by rw [e1, hzl]; simp), l1]
    have l2 := lay_arr 1 (.agg C.toArray) (((Value.int IntKind.i64 0 :: zW).toArray.toList.take 0 ++ (Value.int IntKind.i64 x).cells.toList ++ (Value.int IntKind.i64 0 :: zW).toArray.toList.drop (0 + (Value.int IntKind.i64 x).cells.size)).toArray) (by rw [e1, e2]; simp [zW, hC])
    unfold Instr.fill
    simp only [List.getElem?_cons_zero, List.getElem?_cons_succ]
    rw [if_neg (by rw [e1, e2]; simp [zW, hC]), l2]
    unfold Instr.fill
    rw [e1, e2]
    simp [zW, hC]
  simp only [Instr.build, Sem.run_bind, hz.1, Result.andThen_ok, run_underlying hu]
  simp [hs1, hs2, Result.andThen]
  have ee : (fun x : Nat => ([((0 : Nat), (1 : Nat)), (1, 128)] : List (Nat × Nat))[x]?) = fun i => #[((0 : Nat), (1 : Nat)), (1, 128)][i]? := by funext i; simp
  rw [ee, hf]
  rfl
/-- A slice of one of them. -/
theorem one_write (x : Int) (C : List Value) (hC : C.length = 128) (W : World) :
    (Instr.buildSlice 79 1 #[(0, .agg (.int .i64 x :: C).toArray)]).run Tryz.prog W = .ok (.slice (some ⟨W.heap.size, 0, none⟩) 1 1) (W.alloc (.cells (.int .i64 x :: C).toArray 142)) := by
  have hz := zW_info
  cases hi : Tryz.prog.info? 142 with
  | none => rw [hi] at hz; cases hz
  | some ie =>
    rw [hi] at hz
    simp only [Option.map_some, Option.some.injEq, Prod.mk.injEq] at hz
    refine run_buildSlice W 79 142 1 _ _ ie _ Tryz.underlying79 hi hz.1 (by rw [hz.2]; decide) (by rw [hz.2]; decide) ?_
    rw [hz.2]
    have hsz : ((Array.range (1 * 129)).map ((Value.agg (Value.int IntKind.i64 0 :: zW).toArray).cells[· % (Value.agg (Value.int IntKind.i64 0 :: zW).toArray).cells.size]!)).size = 129 := by simp
    have e2 : (Value.agg (Value.int IntKind.i64 x :: C).toArray).cells = (Value.int IntKind.i64 x :: C).toArray := rfl
    have l2 := lay_arr 0 (.agg (Value.int IntKind.i64 x :: C).toArray) _ (by rw [hsz, e2]; simp [hC])
    unfold Instr.fill
    simp only [Nat.zero_mul]
    rw [if_neg (by rw [hsz, e2]; simp [hC])]
    rw [l2]
    unfold Instr.fill
    rw [e2]
    simp [hC]
theorem yields_build {P : Program} {ops : Array Oper} {S : World → Prop} {op : Oper} {a : Act} (hw : Region.wanted op (yielded ops a.tmps) = true) (t : TypeId) (parts : Array (Nat × Operand)) (ho : op.op = .build t parts)
    (vals : Array (Nat × Value)) (cells : Array Value) (hv : (parts.map fun (i, x) => (i, a.eval x)) = vals) (hrun : ∀ W, (Instr.build t vals).run P W = .ok (.agg cells) W) : YieldsIf P ops S op (.agg cells) a :=
  .inl ⟨hw, fun W _ => by
    unfold execOp
    simp only [ho, Sem.run_bind, hv, hrun, Result.andThen_ok]
    rfl⟩
theorem wp_buildSliceRun {P : Program} {op : Oper} {a : Act} {w : World} {K : Act → World → Prop} {Q : Exit → Act → World → Prop} (t : TypeId) (n : Nat) (parts : Array (Nat × Operand)) (ho : op.op = .buildSlice t n parts)
    (vals : Array (Nat × Value)) (v : Value) (W : World) (hv : (parts.map fun (i, x) => (i, a.eval x)) = vals) (hrun : (Instr.buildSlice t n vals).run P w = .ok v W)
    (h : K (a.put op.dst v) W) : op.wp P a w K Q := by
  unfold Oper.wp execOp
  simp only [ho, Sem.run_bind, hv, hrun, Result.andThen_ok]
  exact h
section
variable {L L' : Nat → Prop} {w w' : World} {p gl gm : Nat} {hv : Value} {Dm : DataW Unit} {D D' : DS}
theorem DiskAt.more (h : DiskAt L w p gl gm hv Dm D) (hL : ∀ g, L' g → L g ∨ w.heap.size ≤ g) : DiskAt L' w p gl gm hv Dm D :=
  h.kept (fun _ _ => rfl) (fun g hg hl => by
    rcases hL g hl with h1 | h1
    · exact h.out g hg h1
    · have := h.lt g hg; omega)
theorem stepped_same (D : DS) : D.stepped.lasts = D.lasts ∧ D.stepped.hangs = D.hangs := by
  unfold DS.stepped
  split
  · exact ⟨rfl, rfl⟩
  · split <;> exact ⟨rfl, rfl⟩

set_option maxRecDepth 20000 in
set_option maxHeartbeats 1000000 in
theorem Write_no (h : DiskAt L w p gl gm hv Dm D) (at' : Int) (b : List UInt8) (hb : b.length = 128) (hf : D.fault at' ≠ 0) :
    Calls Tryz.prog 88 #[.pointer (some ⟨p, 0, none⟩), .int .i64 at', blkV b] w fun e w' => e = .returned (.int .i64 (D.writeErr at')) ∧ DiskIs L w' p (D.written at' b) ∧ Keeps L w w' := by
  have e1 : D.writeErr at' = D.fault at' := by unfold DS.writeErr; rw [if_pos hf]
  have e2 : D.written at' b = D := by unfold DS.written; rw [if_pos hf]
  rw [e1, e2]
  obtain ⟨C, hC⟩ : ∃ C, b.map bv = C := ⟨_, rfl⟩
  have hbl : blkV b = .agg C.toArray := by unfold blkV; rw [hC]
  rw [hbl]
  have B0 := (Below.refl w.heap.size w).alloc (Nat.le_refl _) (.cells C.toArray 90)
  have h1 := h.below B0
  have HTH := Lib.hid (fault_any h1 at')
  obtain ⟨F, hF⟩ : ∃ F, D.fault at' = F := ⟨_, rfl⟩
  rw [hF] at HTH hf ⊢
  have hfb : ((F : Int) != 0) = true := by simpa using hf
  have HS := Lib.hid (And.intro B0 h1)
  clear h h1 B0 hf hF e1 e2 hbl hC hb
  go_enter Tryz.func88, Tryz.ntmps88
  go_wp2_with fail
  refine HTH.out.mono ?_
  rintro e w1 ⟨rfl, rfl⟩
  go_wp2_with fail
  go_ret
  exact ⟨rfl, ⟨_, _, _, _, HS.out.2⟩, Keeps.of_below HS.out.1 (fun k hk _ => hk)⟩

theorem fault_zero {at' : Int} (hf : D.fault at' = 0) : D.down = false ∧ 0 ≤ at' ∧ at' < (D.lasts.length : Nat) := by
  unfold DS.fault at hf
  split at hf
  · cases hf
  · rename_i hd
    split at hf
    · rename_i h; exact ⟨by simpa using hd, h⟩
    · cases hf
theorem may_fuse (hd : D.down = false) : D.may = decide (D.fuse ≠ 0) := by unfold DS.may; rw [hd]; simp

set_option maxRecDepth 20000 in
set_option maxHeartbeats 1000000 in
theorem Write_stop (h : DiskAt L w p gl gm hv Dm D) (at' : Int) (b : List UInt8) (hb : b.length = 128) (hf : D.fault at' = 0) (hm : D.may = false) (hs : D.steps < 1000000000) :
    Calls Tryz.prog 88 #[.pointer (some ⟨p, 0, none⟩), .int .i64 at', blkV b] w fun e w' => e = .returned (.int .i64 (D.writeErr at')) ∧ DiskIs L w' p (D.written at' b) ∧ Keeps L w w' := by
  have hse : D.stepErr = 13 := by unfold DS.stepErr; rw [hm]; rfl
  have e1 : D.writeErr at' = 13 := by unfold DS.writeErr; rw [if_neg (by rw [hf]; simp), hse]
  have e2 : D.written at' b = D.stepped := by unfold DS.written; rw [if_neg (by rw [hf]; simp), if_neg (by rw [hm]; simp)]
  rw [e1, e2]
  obtain ⟨C, hC⟩ : ∃ C, b.map bv = C := ⟨_, rfl⟩
  have hbl : blkV b = .agg C.toArray := by unfold blkV; rw [hC]
  rw [hbl]
  have B0 := (Below.refl w.heap.size w).alloc (Nat.le_refl _) (.cells C.toArray 90)
  have h1 := h.below B0
  have HTH := Lib.hid (fault_any h1 at')
  have HST := Lib.hid (step_any h1 hs)
  rw [hf] at HTH
  rw [hse] at HST
  have HS := Lib.hid B0
  clear h h1 B0 hf e1 e2 hbl hC hb hm hs hse
  go_enter Tryz.func88, Tryz.ntmps88
  go_wp2_with fail
  refine HTH.out.mono ?_
  rintro e w1 ⟨rfl, rfl⟩
  go_wp2_with fail
  refine HST.out.mono ?_
  rintro e w1 ⟨rfl, hd1, hk1⟩
  have HD := Lib.hid (And.intro hd1 hk1)
  clear hd1 hk1
  go_wp2_with fail
  go_ret
  exact ⟨rfl, ⟨_, _, _, _, HD.out.1⟩, (Keeps.of_below HS.out (fun k hk _ => hk)).trans HD.out.2⟩

set_option maxRecDepth 20000 in
set_option maxHeartbeats 1000000 in
theorem Write_ok (hL : ∀ k, L k → k < w.heap.size) (h : DiskAt L w p gl gm hv Dm D) (k : Nat) (b : List UInt8) (hb : b.length = 128) (hf : D.fault k = 0) (hm : D.may = true) (hs : D.steps < 1000000000) (hh : D.hangs.length < 1000000000) :
    Calls Tryz.prog 88 #[.pointer (some ⟨p, 0, none⟩), .int .i64 k, blkV b] w fun e w' => e = .returned (.int .i64 (D.writeErr k)) ∧ DiskIs L w' p (D.written k b) ∧ Keeps L w w' := by
  have hse : D.stepErr = 0 := by unfold DS.stepErr; rw [hm]; rfl
  obtain ⟨hdn, h0, hn⟩ := fault_zero hf
  have h4096 := h.good.most
  have hn0 : k < D.lasts.length := by omega
  have HN0 := Lib.hid hn0
  have e1 : D.writeErr k = 0 := by unfold DS.writeErr; rw [if_neg (by rw [hf]; simp), hse]
  have e2 : D.written k b = { D.stepped with hangs := D.hangs ++ [(k, b)] } := by unfold DS.written; rw [if_neg (by rw [hf]; simp), if_pos hm]; rfl
  rw [e1, e2]
  obtain ⟨C, hC⟩ : ∃ C, b.map bv = C := ⟨_, rfl⟩
  have hCl : C.length = 128 := by rw [← hC, List.length_map, hb]
  have hbl : blkV b = .agg C.toArray := by unfold blkV; rw [hC]
  rw [hbl]
  have B0 := (Below.refl w.heap.size w).alloc (Nat.le_refl _) (.cells C.toArray 90)
  have h1 := h.below B0
  have r0 := Row.new w 90 C
  have h1m : DiskAt (fun k => L k ∨ k = w.heap.size) (w.alloc (.cells C.toArray 90)) p gl gm hv Dm D := h1.kept (fun _ _ => rfl) (fun g hg hl => by
    rcases hl with h2 | h2
    · exact h.out g hg h2
    · have := h.lt g hg; omega)
  have hkey : keyOf Tryz.prog 3 (.int .i64 (k : Int)) = some (.int .i64 (k : Int)) := keyOf_int_mk Tryz.underlying3 (by simp [Lit.wf, IntKind.min, IntKind.max, IntKind.signed, IntKind.bits]; omega)
  have HKY := Lib.hid hkey
  obtain ⟨n, hnn⟩ : ∃ n, D.hangs.length = n := ⟨_, rfl⟩
  have HKY2 : Hid ((Lit.int .i64 (n : Int)).wf = true) := Lib.hid (by simp [Lit.wf, IntKind.min, IntKind.max, IntKind.signed, IntKind.bits]; omega)
  have HN := Lib.hid (show n < 1000000000 by omega)
  obtain ⟨a, c, rfl⟩ := own_slice h.han
  have hbs := fun W => one_write (k : Int) C hCl W
  have hbw := fun W => build_write (k : Int) C hCl W
  have HC : Hid ((Tryz.prog.info? 90).map (·.size) = some C.length ∧ C.length = 128 ∧ ∀ v ∈ (Value.int .i64 (k : Int) :: C), v.oneCell' = true) := Lib.hid ⟨by rw [← hC]; exact blk_sizeK b hb, hCl, fun v hv => by
    rcases List.mem_cons.1 hv with rfl | hv
    · rfl
    · rw [← hC] at hv; exact bvs_one b v hv⟩
  obtain ⟨i0, z0, HI⟩ : ∃ i z, Hid (Tryz.prog.info? 142 = some i ∧ i.zero = some z ∧ i.size = 129 ∧ i.bytes = 136 ∧ z.cells.size = 129) := by
    have hz := write_info
    cases hi : Tryz.prog.info? 142 with
    | none => rw [hi] at hz; cases hz
    | some ie =>
      rw [hi] at hz
      simp only [Option.map_some, Option.some.injEq, Prod.mk.injEq] at hz
      exact ⟨ie, _, Lib.hid ⟨rfl, hz.1, hz.2.1, hz.2.2, by show (Value.int IntKind.i64 0 :: zW).toArray.size = 129; simp [zW]⟩⟩
  have HTH := Lib.hid (fault_any h1 k)
  have HST := Lib.hid (step_any h1m hs)
  rw [hf] at HTH
  rw [hse] at HST
  have HS := Lib.hid (And.intro B0 r0)
  have H := Lib.hid h
  have HBB := Lib.hid (And.intro hC hb)
  have HNN := Lib.hid hnn
  have HLL := Lib.hid hL
  clear h h1 h1m B0 r0 hf e1 e2 hbl hC hb hm hs hse hCl hnn hkey h4096 hdn hh hL hn0
  go_enter Tryz.func88, Tryz.ntmps88
  go_wp2_with fail
  refine HTH.out.mono ?_
  rintro e w1 ⟨rfl, rfl⟩
  go_wp2_with fail
  refine HST.out.mono ?_
  rintro e w2 ⟨rfl, hd2, hk2⟩
  obtain ⟨g, hg⟩ : ∃ g, w.heap.size = g := ⟨_, rfl⟩
  have HGE := Lib.hid hg
  rw [hg] at hd2 hk2
  have rB : Row w2 g 90 C := (hk2.block g (by simp; omega) (.inr rfl)).trans (by rw [← hg]; exact HS.out.2)
  have hmp2 := hd2.mp
  have hhn2 := hd2.han
  rw [(stepped_same D).2] at hmp2 hhn2
  rw [HNN.out] at hmp2 hhn2
  have HM2 := Lib.hid hmp2.drew
  obtain ⟨RC, HRC⟩ : ∃ RC, Hid (RC = [Value.slice (some ⟨gl, 0, none⟩) D.stepped.lasts.length D.stepped.lasts.length, .slice a n c, .map (some gm), .int .i64 D.stepped.fuse, .int .i64 (D.stepped.steps : Nat), .bool D.stepped.down]) := ⟨_, Lib.hid rfl⟩
  have hrow2 := hd2.row
  rw [HNN.out, ← HRC.out] at hrow2
  have HS7 : Hid (Row w2.drew p 81 RC ∧ Row w2.drew g 90 C) := Lib.hid ⟨hrow2.drew, rB.drew⟩
  have H72 : Hid (∀ w3, (w2.drew).grownBy w3 (some gm) → Row w3.drew p 81 RC ∧ Row w3.drew g 90 C) := Lib.hid fun w3 h3 =>
    ⟨Row.drew (show Row w3 p 81 RC from (h3.block p hrow2.lt (fun e => hd2.ne_mp (by injection e with e; exact e.symm))).trans hrow2.drew), Row.drew (show Row w3 g 90 C from (h3.block g rB.lt (fun e => by injection e with e; exact hd2.fm (.inr e.symm))).trans rB.drew)⟩
  have H8 : Hid (∀ w3 : World, (Row w3.drew p 81 RC ∧ Row w3.drew g 90 C) → Row (w3.drew.alloc (.cells (.int .i64 (k : Int) :: C).toArray 142)) p 81 RC ∧ Row (w3.drew.alloc (.cells (.int .i64 (k : Int) :: C).toArray 142)) g 90 C) := Lib.hid fun w3 h3 => ⟨h3.1.alloc _, h3.2.alloc _⟩
  have H9a : Hid (∀ w3, (w2.drew).grownBy w3 (some gm) → (w3.drew.alloc (.cells (.int .i64 (k : Int) :: C).toArray 142)).ownsRow 0 142 129 (.slice a n c) n (wcs D.hangs)) := Lib.hid fun w3 h3 =>
    own_kept (w := w3.drew) (own_kept hhn2 (fun q hq => h3.block q (own_blk_lt hhn2 hq) (fun e => by injection e with e; subst e; exact hd2.ne_hm (by rw [HNN.out]; exact hq)))) (fun q hq => Below.heap_alloc _ _ _ (Nat.lt_of_lt_of_le (own_blk_lt hhn2 hq) h3.size))
  have H10a : Hid (∀ w3, (w2.drew).grownBy w3 (some gm) → ∀ w5, (w3.drew.alloc (.cells (.int .i64 (k : Int) :: C).toArray 142)).grownBy w5 (Value.slice a n c).ownBlock → Row w5 p 81 RC ∧ Row w5 g 90 C) := Lib.hid fun w3 h3 w5 h5 => by
    have h6 := H8.out w3 (H72.out w3 h3)
    exact ⟨(h5.block p h6.1.lt (fun e => hd2.ne_hp (by rw [HNN.out]; exact e.symm))).trans h6.1, (h5.block g h6.2.lt (fun e => own_ne hhn2 rB (by decide) e.symm)).trans h6.2⟩
  have HD := Lib.hid (And.intro hd2 (And.intro hk2 rB))
  clear hd2 hk2 rB hmp2 hhn2 hrow2
  rw [hg]
  clear hg
  go_wp2_with fail
  refine wp_region_noPanic ?_
  refine region_held_last 10 (S := fun W => Row W p 81 RC ∧ Row W g 90 C) (by kernel_rfl) (by kernel_rfl) rfl HS7.out (fun hHeld => ?_)
  simp only [List.take_succ_cons, List.take_zero]
  refine wpAnyH_take (i := 0) (oi := { dst := some 20, op := Op.move (Operand.tmp 0), type := 24, pos := "disk.go:80", after := #[], guard := none }) (v := ?vva_0) rfl (by kernel_rfl) (by kernel_rfl) (by kernel_rfl) (fun _ _ _ h => h) (Or.inl ⟨by rfl, ?yya_0⟩) hHeld ?_
  case vva_0 => exact .pointer (some ⟨p, 0, none⟩)
  case yya_0 =>
    intro W hS
    go_simp
  try simp only [Act.put, List.setIfInBounds_toArray, List.set_cons_zero, List.set_cons_succ]
  refine wpAnyH_take (i := 1) (oi := { dst := some 21, op := Op.nilCheck (Operand.tmp 20), type := 0, pos := "disk.go:80", after := #[{ on := 0, ground := Ground.data }], guard := none }) (v := ?vva_1) rfl (by kernel_rfl) (by kernel_rfl) (by kernel_rfl) (fun _ _ _ h => h) (Or.inl ⟨by rfl, ?yya_1⟩) hHeld ?_
  case vva_1 => exact .pointer (some ⟨p, 0, none⟩)
  case yya_1 =>
    intro W hS
    go_simp
  try simp only [Act.put, List.setIfInBounds_toArray, List.set_cons_zero, List.set_cons_succ]
  refine wpAnyH_take (i := 2) (oi := { dst := some 22, op := Op.fieldAddr 81 (Operand.tmp 21) 2, type := 0, pos := "disk.go:80", after := #[{ on := 1, ground := Ground.data }], guard := none }) (v := ?vva_2) rfl (by kernel_rfl) (by kernel_rfl) (by kernel_rfl) (fun _ _ _ h => h) (Or.inl ⟨by rfl, ?yya_2⟩) hHeld ?_
  case vva_2 => exact .pointer (some ⟨p, 2, none⟩)
  case yya_2 =>
    intro W hS
    go_simp
  try simp only [Act.put, List.setIfInBounds_toArray, List.set_cons_zero, List.set_cons_succ]
  refine wpAnyH_take (i := 3) (oi := { dst := some 23, op := Op.load 78 (Operand.tmp 22), type := 78, pos := "disk.go:80", after := #[{ on := 2, ground := Ground.data }], guard := none }) (v := ?vva_3) rfl (by kernel_rfl) (by kernel_rfl) (by kernel_rfl) (fun _ _ _ h => h) (Or.inl ⟨by rfl, ?yya_3⟩) hHeld ?_
  case vva_3 => exact .map (some gm)
  case yya_3 =>
    intro W hS
    obtain ⟨s1, s2⟩ := hS
    have q1 := s1.cell 1
    have q2 := s1.cell 2
    simp only [HRC.out, List.getElem?_cons_zero, List.getElem?_cons_succ] at q1 q2
    go_simp
  try simp only [Act.put, List.setIfInBounds_toArray, List.set_cons_zero, List.set_cons_succ]
  refine wpAnyH_take (i := 4) (oi := { dst := some 24, op := Op.move (Operand.tmp 1), type := 3, pos := "disk.go:80", after := #[], guard := none }) (v := ?vva_4) rfl (by kernel_rfl) (by kernel_rfl) (by kernel_rfl) (fun _ _ _ h => h) (Or.inl ⟨by rfl, ?yya_4⟩) hHeld ?_
  case vva_4 => exact .int .i64 k
  case yya_4 =>
    intro W hS
    go_simp
  try simp only [Act.put, List.setIfInBounds_toArray, List.set_cons_zero, List.set_cons_succ]
  refine wpAnyH_take (i := 5) (oi := { dst := some 25, op := Op.move (Operand.tmp 0), type := 24, pos := "disk.go:80", after := #[], guard := none }) (v := ?vva_5) rfl (by kernel_rfl) (by kernel_rfl) (by kernel_rfl) (fun _ _ _ h => h) (Or.inl ⟨by rfl, ?yya_5⟩) hHeld ?_
  case vva_5 => exact .pointer (some ⟨p, 0, none⟩)
  case yya_5 =>
    intro W hS
    go_simp
  try simp only [Act.put, List.setIfInBounds_toArray, List.set_cons_zero, List.set_cons_succ]
  refine wpAnyH_take (i := 6) (oi := { dst := some 26, op := Op.nilCheck (Operand.tmp 25), type := 0, pos := "disk.go:80", after := #[{ on := 5, ground := Ground.data }], guard := none }) (v := ?vva_6) rfl (by kernel_rfl) (by kernel_rfl) (by kernel_rfl) (fun _ _ _ h => h) (Or.inl ⟨by rfl, ?yya_6⟩) hHeld ?_
  case vva_6 => exact .pointer (some ⟨p, 0, none⟩)
  case yya_6 =>
    intro W hS
    go_simp
  try simp only [Act.put, List.setIfInBounds_toArray, List.set_cons_zero, List.set_cons_succ]
  refine wpAnyH_take (i := 7) (oi := { dst := some 27, op := Op.fieldAddr 81 (Operand.tmp 26) 1, type := 0, pos := "disk.go:80", after := #[{ on := 6, ground := Ground.data }], guard := none }) (v := ?vva_7) rfl (by kernel_rfl) (by kernel_rfl) (by kernel_rfl) (fun _ _ _ h => h) (Or.inl ⟨by rfl, ?yya_7⟩) hHeld ?_
  case vva_7 => exact .pointer (some ⟨p, 1, none⟩)
  case yya_7 =>
    intro W hS
    go_simp
  try simp only [Act.put, List.setIfInBounds_toArray, List.set_cons_zero, List.set_cons_succ]
  refine wpAnyH_take (i := 8) (oi := { dst := some 28, op := Op.load 79 (Operand.tmp 27), type := 79, pos := "disk.go:80", after := #[{ on := 7, ground := Ground.data }], guard := none }) (v := ?vva_8) rfl (by kernel_rfl) (by kernel_rfl) (by kernel_rfl) (fun _ _ _ h => h) (Or.inl ⟨by rfl, ?yya_8⟩) hHeld ?_
  case vva_8 => exact .slice a n c
  case yya_8 =>
    intro W hS
    obtain ⟨s1, s2⟩ := hS
    have q1 := s1.cell 1
    have q2 := s1.cell 2
    simp only [HRC.out, List.getElem?_cons_zero, List.getElem?_cons_succ] at q1 q2
    go_simp
  try simp only [Act.put, List.setIfInBounds_toArray, List.set_cons_zero, List.set_cons_succ]
  refine wpAnyH_take (i := 9) (oi := { dst := some 29, op := Op.call { callee := Callee.builtin Builtin.len, args := #[Operand.tmp 28], argTypes := #[79] }, type := 3, pos := "disk.go:80", after := #[{ on := 8, ground := Ground.data }], guard := none }) (v := ?vva_9) rfl (by kernel_rfl) (by kernel_rfl) (by kernel_rfl) (fun _ _ _ h => h) (Or.inl ⟨by rfl, ?yya_9⟩) hHeld ?_
  case vva_9 => exact .int .i64 n
  case yya_9 =>
    intro W hS
    go_simp
  try simp only [Act.put, List.setIfInBounds_toArray, List.set_cons_zero, List.set_cons_succ]
  refine wpAnyH_done (by kernel_rfl) ?_ _
  show wpList _ _ _ [_] _ _
  refine wpList_mapUpdate_own _ rfl (.tmp 23) (.tmp 24) (.tmp 29) 78 rfl 3 3 (int_keyed Tryz.underlying3) Tryz.underlying78 _ gm n Dm rfl HM2.out (by have := HN.out; unfold maxLen; omega) _ _ _ rfl rfl HKY.out _ [] (plainElem_int Tryz.underlying3 HKY2.out) ?_
  intro w3 hown3 hg3
  have S2 := H72.out w3 hg3
  have H9 := H9a.out w3 hg3
  have H10 := H10a.out w3 hg3
  have HM3 := Lib.hid (And.intro hown3 hg3)
  clear hown3 hg3
  show NoPanic _ Exit.normal _ _
  refine NoPanic.normal ?_
  try simp only [Act.put, List.setIfInBounds_toArray, List.set_cons_zero, List.set_cons_succ]
  go_wp2_with fail
  try simp only [Act.put, List.setIfInBounds_toArray, List.set_cons_zero, List.set_cons_succ]
  refine wp_region_noPanic ?_
  refine region_held_last 12 (S := fun W => Row W p 81 RC ∧ Row W g 90 C) (by kernel_rfl) (by kernel_rfl) rfl S2 (fun hHeld => ?_)
  simp only [List.take_succ_cons, List.take_zero]
  refine wpAnyH_take (i := 0) (oi := { dst := some 30, op := Op.move (Operand.tmp 0), type := 24, pos := "disk.go:81", after := #[], guard := none }) (v := ?vvb_0) rfl (by kernel_rfl) (by kernel_rfl) (by kernel_rfl) (fun _ _ _ h => h) (Or.inl ⟨by rfl, ?yyb_0⟩) hHeld ?_
  case vvb_0 => exact .pointer (some ⟨p, 0, none⟩)
  case yyb_0 =>
    intro W hS
    go_simp
  try simp only [Act.put, List.setIfInBounds_toArray, List.set_cons_zero, List.set_cons_succ]
  refine wpAnyH_take (i := 1) (oi := { dst := some 31, op := Op.move (Operand.tmp 0), type := 24, pos := "disk.go:81", after := #[], guard := none }) (v := ?vvb_1) rfl (by kernel_rfl) (by kernel_rfl) (by kernel_rfl) (fun _ _ _ h => h) (Or.inl ⟨by rfl, ?yyb_1⟩) hHeld ?_
  case vvb_1 => exact .pointer (some ⟨p, 0, none⟩)
  case yyb_1 =>
    intro W hS
    go_simp
  try simp only [Act.put, List.setIfInBounds_toArray, List.set_cons_zero, List.set_cons_succ]
  refine wpAnyH_take (i := 2) (oi := { dst := some 32, op := Op.nilCheck (Operand.tmp 31), type := 0, pos := "disk.go:81", after := #[{ on := 1, ground := Ground.data }], guard := none }) (v := ?vvb_2) rfl (by kernel_rfl) (by kernel_rfl) (by kernel_rfl) (fun _ _ _ h => h) (Or.inl ⟨by rfl, ?yyb_2⟩) hHeld ?_
  case vvb_2 => exact .pointer (some ⟨p, 0, none⟩)
  case yyb_2 =>
    intro W hS
    go_simp
  try simp only [Act.put, List.setIfInBounds_toArray, List.set_cons_zero, List.set_cons_succ]
  refine wpAnyH_take (i := 3) (oi := { dst := some 33, op := Op.fieldAddr 81 (Operand.tmp 32) 1, type := 0, pos := "disk.go:81", after := #[{ on := 2, ground := Ground.data }], guard := none }) (v := ?vvb_3) rfl (by kernel_rfl) (by kernel_rfl) (by kernel_rfl) (fun _ _ _ h => h) (Or.inl ⟨by rfl, ?yyb_3⟩) hHeld ?_
  case vvb_3 => exact .pointer (some ⟨p, 1, none⟩)
  case yyb_3 =>
    intro W hS
    go_simp
  try simp only [Act.put, List.setIfInBounds_toArray, List.set_cons_zero, List.set_cons_succ]
  refine wpAnyH_take (i := 4) (oi := { dst := some 34, op := Op.load 79 (Operand.tmp 33), type := 79, pos := "disk.go:81", after := #[{ on := 3, ground := Ground.data }], guard := none }) (v := ?vvb_4) rfl (by kernel_rfl) (by kernel_rfl) (by kernel_rfl) (fun _ _ _ h => h) (Or.inl ⟨by rfl, ?yyb_4⟩) hHeld ?_
  case vvb_4 => exact .slice a n c
  case yyb_4 =>
    intro W hS
    obtain ⟨s1, s2⟩ := hS
    have q1 := s1.cell 1
    have q2 := s1.cell 2
    simp only [HRC.out, List.getElem?_cons_zero, List.getElem?_cons_succ] at q1 q2
    go_simp
  try simp only [Act.put, List.setIfInBounds_toArray, List.set_cons_zero, List.set_cons_succ]
  refine wpAnyH_take (i := 5) (oi := { dst := some 35, op := Op.move (Operand.tmp 1), type := 3, pos := "disk.go:81", after := #[], guard := none }) (v := ?vvb_5) rfl (by kernel_rfl) (by kernel_rfl) (by kernel_rfl) (fun _ _ _ h => h) (Or.inl ⟨by rfl, ?yyb_5⟩) hHeld ?_
  case vvb_5 => exact .int .i64 k
  case yyb_5 =>
    intro W hS
    go_simp
  try simp only [Act.put, List.setIfInBounds_toArray, List.set_cons_zero, List.set_cons_succ]
  refine' wpAnyH_take (i := 6) (oi := { dst := some 36, op := Op.load 90 (Operand.tmp 5), type := 90, pos := "disk.go:81", after := #[], guard := none }) (v := _) rfl (by kernel_rfl) (by kernel_rfl) (by kernel_rfl) (fun _ _ _ h => h) (yieldsIf_load_mid (by rfl) _ _ rfl g 0 rfl C _ (fun W h => (fun j v hj => by rw [Nat.zero_add, h.2.cell]; exact hj)) Tryz.underlying90 rfl HC.out.1) hHeld ?_
  try simp only [Act.put, List.setIfInBounds_toArray, List.set_cons_zero, List.set_cons_succ]
  refine' wpAnyH_take (i := 7) (oi := { dst := some 37, op := Op.build 142 #[(0, Operand.tmp 35), (1, Operand.tmp 36)], type := 142, pos := "disk.go:81", after := #[{ on := 5, ground := Ground.data }, { on := 6, ground := Ground.data }], guard := none }) (v := _) rfl (by kernel_rfl) (by kernel_rfl) (by kernel_rfl) (fun _ _ _ h => h) (yields_build (by rfl) _ _ rfl #[(0, .int .i64 (k : Int)), (1, .agg C.toArray)] (.int .i64 (k : Int) :: C).toArray (by go_simp) hbw) hHeld ?_
  try simp only [Act.put, List.setIfInBounds_toArray, List.set_cons_zero, List.set_cons_succ]
  refine wpAnyH_ready (rs := [8]) (by kernel_rfl) (by simp) (AllReadyH.cons (o := { dst := some 38, op := Op.buildSlice 79 1 #[(0, Operand.tmp 37)], type := 79, pos := "disk.go:81", after := #[{ on := 7, ground := Ground.data }], guard := none }) rfl (fun K hK => ?_) AllReadyH.nil)
  rw [if_pos (by rfl)]
  have S3 := H8.out w3 S2
  refine wp_buildSliceRun 79 1 _ rfl #[(0, .agg (.int .i64 (k : Int) :: C).toArray)] (.slice (some ⟨w3.heap.size, 0, none⟩) 1 1) (w3.drew.alloc (.cells (.int .i64 (k : Int) :: C).toArray 142)) ?hvv ?hrr ?_
  case hrr => exact hbs w3.drew
  case hvv => simp only [List.map_toArray, List.map_cons, List.map_nil, Act.eval, Array.getD_eq_getD_getElem?, List.getElem?_toArray, List.getElem?_cons_succ, List.getElem?_cons_zero, Option.getD_some]
  refine hK.out _ _ S3 (fun hHeld => ?_)
  clear hK K
  try simp only [Act.put, List.setIfInBounds_toArray, List.set_cons_zero, List.set_cons_succ]
  refine wpAnyH_ready (rs := [9]) (by kernel_rfl) (by simp) (AllReadyH.cons (o := { dst := some 39, op := Op.call { callee := Callee.builtin Builtin.append, args := #[Operand.tmp 34, Operand.tmp 38], argTypes := #[79, 79] }, type := 79, pos := "disk.go:81", after := #[{ on := 4, ground := Ground.data }, { on := 8, ground := Ground.data }], guard := none }) rfl (fun K hK => ?_) AllReadyH.nil)
  rw [if_pos (by rfl)]
  refine wp_append_lies _ (.tmp 34) (.tmp 38) 79 rfl 0 142 i0 z0 129 136 Tryz.underlying79 HI.out.1 HI.out.2.1 HI.out.2.2.1 HI.out.2.2.2.1 HI.out.2.2.2.2 (by omega) (.slice a n c) n (wcs D.hangs) rfl H9 ⟨w3.heap.size, 0, none⟩ 1 1 (.int .i64 k :: C) rfl (by rw [List.length_cons, HC.out.2.1]) (World.news_of_block (cs := (.int .i64 (k : Int) :: C).toArray) (t := 142) (fr := (0, 0)) (heap_alloc_new w3.drew _)) HC.out.2.2 (by omega) (by have := HN.out; unfold maxLen; omega) (by have := HN.out; omega) (Nat.zero_le _) _ rfl ?_
  intro g5 cap5 w5 hown5 hg5 hat5 hlt5
  try simp only [Act.put, List.setIfInBounds_toArray, List.set_cons_zero, List.set_cons_succ]
  have S4 := H10 w5 hg5
  have HO5 := Lib.hid (And.intro hown5 (And.intro hg5 (And.intro hat5 hlt5)))
  clear hown5 hg5 hat5 hlt5 H10 H9
  refine hK.out _ _ S4 (fun hHeld => ?_)
  clear hK K
  try simp only [Act.put, List.setIfInBounds_toArray, List.set_cons_zero, List.set_cons_succ]
  refine wpAnyH_take (i := 10) (oi := { dst := some 40, op := Op.nilCheck (Operand.tmp 30), type := 0, pos := "disk.go:81", after := #[{ on := 0, ground := Ground.data }, { on := 0, ground := Ground.phase }, { on := 1, ground := Ground.phase }, { on := 2, ground := Ground.phase }, { on := 3, ground := Ground.phase }, { on := 4, ground := Ground.phase }, { on := 5, ground := Ground.phase }, { on := 6, ground := Ground.phase }, { on := 7, ground := Ground.phase }, { on := 8, ground := Ground.phase }, { on := 9, ground := Ground.phase }], guard := none }) (v := ?vvb_10) rfl (by kernel_rfl) (by kernel_rfl) (by kernel_rfl) (fun _ _ _ h => h) (Or.inl ⟨by rfl, ?yyb_10⟩) hHeld ?_
  case vvb_10 => exact .pointer (some ⟨p, 0, none⟩)
  case yyb_10 =>
    intro W hS
    go_simp
  try simp only [Act.put, List.setIfInBounds_toArray, List.set_cons_zero, List.set_cons_succ]
  refine wpAnyH_take (i := 11) (oi := { dst := some 41, op := Op.fieldAddr 81 (Operand.tmp 40) 1, type := 0, pos := "disk.go:81", after := #[{ on := 10, ground := Ground.data }, { on := 0, ground := Ground.phase }, { on := 1, ground := Ground.phase }, { on := 2, ground := Ground.phase }, { on := 3, ground := Ground.phase }, { on := 4, ground := Ground.phase }, { on := 5, ground := Ground.phase }, { on := 6, ground := Ground.phase }, { on := 7, ground := Ground.phase }, { on := 8, ground := Ground.phase }, { on := 9, ground := Ground.phase }], guard := none }) (v := ?vvb_11) rfl (by kernel_rfl) (by kernel_rfl) (by kernel_rfl) (fun _ _ _ h => h) (Or.inl ⟨by rfl, ?yyb_11⟩) hHeld ?_
  case vvb_11 => exact .pointer (some ⟨p, 1, none⟩)
  case yyb_11 =>
    intro W hS
    go_simp
  try simp only [Act.put, List.setIfInBounds_toArray, List.set_cons_zero, List.set_cons_succ]
  refine wpAnyH_done (by kernel_rfl) ?_ _
  show wpList _ _ _ [_] _ _
  have q5 := S4.1.cell 1
  have f5 := S4.1.frozen 1
  simp only [HRC.out, List.getElem?_cons_zero, List.getElem?_cons_succ] at q5
  have HS4 := Lib.hid S4
  clear S4 S3 S2 hHeld
  go_wp2_with fail
  refine NoPanic.normal ?_
  go_wp2
  go_ret
  obtain ⟨hd2, hk2, rB⟩ := HD.out
  obtain ⟨hm3, hg3⟩ := HM3.out
  obtain ⟨ho5, hg5, ha5, hl5⟩ := HO5.out
  obtain ⟨rp5, rb5⟩ := HS4.out
  have hst := stepped_same D
  have hnn := HNN.out
  have hlas3 : Row w3 gl 90 (D.stepped.lasts.flatten.map bv) := (hg3.block gl hd2.las.lt (fun e => hd2.ne_ml (by injection e with e; exact e.symm))).trans hd2.las
  have hlas4 : Row (w3.drew.alloc (.cells (.int .i64 (k : Int) :: C).toArray 142)) gl 90 (D.stepped.lasts.flatten.map bv) := (Row.drew hlas3).alloc _
  have hlas5 : Row w5 gl 90 (D.stepped.lasts.flatten.map bv) := (hg5.block gl hlas4.lt (fun e => hd2.ne_hl (by rw [hnn]; exact e.symm))).trans hlas4
  have hmp3 : gm < w3.drew.heap.size := hm3.lt
  have hmp5 : w5.heap[gm]? = w3.heap[gm]? := (hg5.block gm (by simp; have : gm < w3.heap.size := hmp3; omega) (fun e => hd2.ne_hm (by rw [hnn]; exact e.symm))).trans (Below.heap_alloc _ _ _ hmp3)
  have hne5 : p ≠ g5 := fun e => own_ne ho5 rp5 (by decide) (by rw [e]; rfl)
  have hCb := HBB.out.1
  have hw2 : w.heap.size ≤ w2.heap.size := by
    have := hk2.size
    simp at this
    omega
  have hw3 : w.heap.size ≤ w3.heap.size := Nat.le_trans hw2 hg3.size
  refine ⟨rfl, ⟨gl, gm, .slice (some ⟨g5, 0, none⟩) (n + 1) cap5, Dm.put (.int .i64 (k : Int)) (.lit (.int .i64 (n : Int))), ⟨?_, ?_, ?_, ?_, ?_, ?_, fun h => hd2.fp (.inl h), fun h => hd2.fl (.inl h), fun h => hd2.fm (.inl h), fun q hq hl => ?_⟩⟩, ?_⟩
  · have := rp5.set 1 (.slice (some ⟨g5, 0, none⟩) (n + 1) cap5)
    rw [HRC.out] at this
    simpa using this
  · exact (Below.heap_setCell _ _ _ _ (fun e => hd2.ne_lp e)).trans hlas5
  · have h := own_kept (w' := w5.setCell ⟨p, 1, none⟩ (.slice (some ⟨g5, 0, none⟩) (n + 1) cap5)) ho5 (fun q hq => Below.heap_setCell _ _ _ _ (fun e => by
      have e1 : g5 = q := by simpa [Value.ownBlock] using hq
      exact hne5 (e1.trans e).symm))
    have e1 : (D.hangs ++ [(k, b)]).length = n + 1 := by rw [List.length_append, hnn]; rfl
    have e2 : wcs (D.hangs ++ [(k, b)]) = wcs D.hangs ++ .int .i64 (k : Int) :: C := by rw [wcs_snoc]; unfold wcells; rw [hCb]
    show World.ownsRow _ _ _ _ _ (D.hangs ++ [(k, b)]).length (wcs (D.hangs ++ [(k, b)]))
    rw [e1, e2]
    exact h
  · have e1 : (D.hangs ++ [(k, b)]).length = n + 1 := by rw [List.length_append, hnn]; rfl
    show World.ownsMap _ _ _ _ _ (D.hangs ++ [(k, b)]).length _
    rw [e1]
    exact map_kept hm3 ((Below.heap_setCell _ _ _ _ (fun e => hd2.ne_mp e)).trans hmp5)
  · have h1 := hd2.new
    rw [hst.2] at h1
    have h2 := newest_snoc h1 hd2.mp.isMap (k, b)
    rw [hnn] at h2
    exact h2
  · have hg := hd2.good
    have hn0 := HN0.out
    rw [← hst.1] at hn0
    exact ⟨hg.least, hg.most, hg.rows, fun x hx => by
      rcases List.mem_append.1 hx with hx | hx
      · rw [← hst.2] at hx; exact hg.sect x hx
      · rw [List.mem_singleton.1 hx]; exact hn0, fun x hx => by
      rcases List.mem_append.1 hx with hx | hx
      · rw [← hst.2] at hx; exact hg.blks x hx
      · rw [List.mem_singleton.1 hx]; exact HBB.out.2, hg.fuse1, hg.fuse2⟩
  · have e1 : g5 = q := by simpa [Value.ownBlock] using hq
    subst e1
    rcases ha5 with h1 | h1
    · exact hd2.fh g5 (by rw [hnn]; exact h1) (.inl hl)
    · have := HLL.out _ hl
      rw [h1] at this
      simp at this
      omega
  · have k1 : Keeps L w (w.alloc (.cells C.toArray 90)) := Keeps.of_below ((Below.refl w.heap.size w).alloc (Nat.le_refl _) _) (fun q hq _ => hq)
    have k2 := (k1.trans (hk2.mono (fun q h => .inl h))).drew1
    have k3 := (k2.grown hg3 (fun q hq => by injection hq with hq; subst hq; exact .inl (fun h => hd2.fm (.inl h)))).drew1.alloc (.cells (.int .i64 (k : Int) :: C).toArray 142)
    have k4 := k3.grown hg5 (fun q hq => .inl (fun h => hd2.fh q (by rw [hnn]; exact hq) (.inl h)))
    exact k4.setCell (p := ⟨p, 1, none⟩) (.inl (fun h => hd2.fp (.inl h))) _

theorem Write_any (hL : ∀ k, L k → k < w.heap.size) (h : DiskAt L w p gl gm hv Dm D) (at' : Int) (b : List UInt8) (hb : b.length = 128) (hs : D.steps < 1000000000) (hh : D.hangs.length < 1000000000) :
    Calls Tryz.prog 88 #[.pointer (some ⟨p, 0, none⟩), .int .i64 at', blkV b] w fun e w' => e = .returned (.int .i64 (D.writeErr at')) ∧ DiskIs L w' p (D.written at' b) ∧ Keeps L w w' := by
  by_cases hf : D.fault at' = 0
  · by_cases hm : D.may = true
    · obtain ⟨_, h0, _⟩ := fault_zero hf
      obtain ⟨k, rfl⟩ := Int.eq_ofNat_of_zero_le h0
      exact Write_ok hL h k b hb hf hm hs hh
    · exact Write_stop h at' b hb hf (by simpa using hm) hs
  · exact Write_no h at' b hb hf
end
end Go.Proofs.YtiaaeniopjpfpaaGreatDoor
