/- The disk's example. -/
import Derived.Test.YtiaaeniopjpfpaaGreatDoorKEq
import Derived.Test.YtiaaeniopjpfpaaGreatDoorKAll
namespace Go.Proofs.YtiaaeniopjpfpaaGreatDoor
open Go.RowKit Go.Maps
set_option linter.unusedVariables false
set_option linter.unusedSimpArgs false

def b78 : List UInt8 := 7 :: 8 :: List.replicate 126 0
theorem b78_len : b78.length = 128 := by simp [b78]
def b70 : List UInt8 := 7 :: List.replicate 127 0
theorem build78 (W : World) : (Instr.build 90 #[(0, .int .u8 7), (1, .int .u8 8)]).run Tryz.prog W = .ok (blkV b78) W := by kernel_rfl
theorem build00 (W : World) : (Instr.build 90 #[]).run Tryz.prog W = .ok (.agg zB.toArray) W := by kernel_rfl
theorem upon_eq {P : Program} {o : Oper} {a : Act} {K : Act → World → Prop} {Q : Exit → Act → World → Prop} {r : Result Next} (r' : Result Next) (h : r = r') (g : o.upon P a K Q r') : o.upon P a K Q r := h ▸ g
/-- The disk of the example, at its end. -/
def awkD : DS := ((newDS 16).written 3 b78).crashed 1
theorem awk_err : (newDS 16).writeErr 3 = 0 := by decide
theorem b70_len : b70.length = 128 := by simp [b70]
theorem awk_read : awkD.read 3 = b70 := by decide
theorem awk_fault : awkD.fault 3 = 0 := by decide
theorem awk_last : awkD.lasts.getD 3 [] = b70 := by decide

section
variable {w : World}
set_option maxRecDepth 20000
set_option maxHeartbeats 1000000
theorem awake11_any : Calls Tryz.prog 80 #[] w fun e w' => e = .returned (.bool true) ∧ Below w.heap.size w w' := by
  have hbd := build78
  go_enter Tryz.func80, Tryz.ntmps80
  go_wp2_with fail
  refine (New_any 16 (by omega) (by omega) _).mono ?_
  rintro e w1 ⟨rfl, hD, hB1⟩
  have hd1 : DiskIs (fun k => k < w.heap.size) w1 (w.heap.size + 2) (newDS 16) := ⟨_, _, _, _, hD _ (fun k h => h)⟩
  clear hD
  obtain ⟨p, hp⟩ : ∃ p, w.heap.size + 2 = p := ⟨_, rfl⟩
  rw [hp] at hd1 ⊢
  have H1 := Lib.hid (And.intro hd1 hB1)
  clear hp hd1 hB1
  go_wp2_with fail
  first
    | (refine upon_eq (.ok (.value (blkV b78)) w1) (by kernel_rfl) ?_
       go_wp2_with fail)
    | (rw [show Value.agg ((Tryz.zeroCells90.setIfInBounds 0 (Value.int IntKind.u8 7)).setIfInBounds 1 (Value.int IntKind.u8 8)) = blkV b78 by kernel_rfl])
  obtain ⟨hd1, hB1⟩ := H1.out
  obtain ⟨gl, gm, hv, Dm, hd⟩ := hd1
  refine (Write_any (L := fun k => k < w.heap.size) (fun k hk => Nat.lt_of_lt_of_le hk hB1.size) hd 3 b78 b78_len (by decide) (by decide)).mono ?_
  rintro e w2 ⟨rfl, hd2, hk2⟩
  rw [awk_err]
  have hB2 := hB1.trans (hk2.below hB1.size (fun k h => h))
  have H2 := Lib.hid (And.intro hd2 hB2)
  clear hd hd2 hk2 hB2 hB1 H1
  go_wp2_with fail
  obtain ⟨hd2, hB2⟩ := H2.out
  obtain ⟨gl, gm, hv, Dm, hd⟩ := hd2
  refine (Crash_any (L := fun k => k < w.heap.size) (fun k hk => Nat.lt_of_lt_of_le hk hB2.size) hd 1 (by omega) (by omega) (by decide)).mono ?_
  rintro e w3 ⟨rfl, hd3, hk3⟩
  have hB3 := hB2.trans (hk3.below hB2.size (fun k h => h))
  have H3 := Lib.hid (And.intro (show DiskIs _ w3 p awkD from hd3) hB3)
  clear hd hd3 hk3 hB3 hB2 H2 hbd
  have hz := (zero_of_info zB_info).1
  go_wp2_with fail
  obtain ⟨hd3, hB3⟩ := H3.out
  obtain ⟨gl, gm, hv, Dm, hd⟩ := hd3
  refine (Read_any hd 3).mono ?_
  rintro e w4 ⟨rfl, hb4⟩
  rw [awk_read, awk_fault]
  have hB4 := hB3.trans (hb4.mono hB3.size)
  have hd4 := hd.below hb4
  have ha := (Below.refl w4.heap.size w4).alloc (Nat.le_refl _) (.cells zB.toArray 90)
  have H4 := Lib.hid (And.intro hd4 hB4)
  have hd5 := hd4.below ha
  have hB5 := hB4.trans (ha.mono hB4.size)
  have r5 := Row.new w4 90 zB
  have hsz := blk_sizeA b70 b70_len
  have hone := blkV_one b70
  obtain ⟨C, hC⟩ : ∃ C, C = b70.map bv := ⟨_, rfl⟩
  have hfin : blkV b70 = .agg C.toArray := by unfold blkV; rw [hC]
  have hlen : C.length = 128 := by rw [hC, List.length_map, b70_len]
  rw [← hC] at hsz hone
  rw [hfin]
  have H5 := Lib.hid (And.intro hd5 (And.intro hB5 (And.intro r5 (And.intro hsz (And.intro hone hlen)))))
  have HC := Lib.hid hC
  clear hd hb4 hd4 hd5 hB4 hB5 hB3 ha H3 hC hfin r5 hsz hone hlen
  go_wp2_with (first
    | (refine wpList_store_row rfl 90 (.tmp 4) (.tmp 24) rfl w4.heap.size C.toArray rfl rfl 90 zB.toArray H5.out.2.2.1 H5.out.2.2.2.1 (by rw [List.size_toArray, List.size_toArray, zB_len, H5.out.2.2.2.2.2]) H5.out.2.2.2.2.1 ?_))
  obtain ⟨hd5, hB5, r5, hsz, hone, hlen⟩ := H5.out
  have hq := r5.put C
  have hb6 := below_setRow (B := w4.heap.size) ((Below.refl w4.heap.size w4).alloc (Nat.le_refl _) (.cells zB.toArray 90)) (Nat.le_refl _) C.toArray
  have hBw := H4.out.2
  have hB6 := hBw.trans (hb6.mono hBw.size)
  have hd6 := H4.out.1.below hb6
  obtain ⟨g, hg⟩ : ∃ g, w4.heap.size = g := ⟨_, rfl⟩
  rw [hg] at hq ⊢
  rw [hg] at hB6 hd6
  generalize (w4.alloc (Obj.cells zB.toArray 90)).setRow g C.toArray = w5 at hq hd6 hB6 ⊢
  have HG := Lib.hid (And.intro hq hB6)
  have HC0 : Hid (C[0]? = some (.int .u8 7)) := Lib.hid (by rw [HC.out]; rfl)
  have HC1 : Hid (C[1]? = some (.int .u8 0)) := Lib.hid (by rw [HC.out]; rfl)
  have HFC : Hid (blkV b70 = .agg C.toArray) := Lib.hid (by unfold blkV; rw [HC.out])
  have HL : Hid (∀ W, SB w5 W → Calls Tryz.prog 55 #[.pointer (some ⟨p, 0, none⟩), .int .i64 3] W fun e w' => e = .returned (.agg C.toArray) ∧ Below W.heap.size W w') := Lib.hid (fun W hW => by
    have h := Lasts_any (hd6.below hW) 3 (by decide)
    rw [awk_last, HFC.out] at h
    exact h)
  have HM : Hid (∀ W, SB w5 W → W.rangeAt g 0 C) := Lib.hid (fun W hW => by
    have h := row_range (hW.row hq) 0 C.length (by omega)
    rwa [List.drop_zero, List.take_of_length_le (Nat.le_refl _)] at h)
  have HI : Hid ((Tryz.prog.info? 90).map (·.size) = some C.length) := Lib.hid (by rw [hsz, List.size_toArray])
  have HE : Hid (∀ W, (binOp .eql 90 (.agg C.toArray) (.agg C.toArray)).run Tryz.prog W = .ok (.bool true) W) := Lib.hid (fun W => by rw [← HFC.out]; exact blk_same b70 b70_len W)
  clear hd5 hB5 r5 hsz hone hlen hq hb6 hBw hB6 hd6 hg H5 HC HFC H4 hz
  refine wp_region_noPanic ?_
  refine wp_region_held_drew (S := fun W => SB w5 W) (by kernel_rfl) (SB.dr (SB.here w5)) (fun hHeld => ?_)
  refine wpAnyH_take (i := 0) (oi := { dst := some 26, op := Op.move (Operand.tmp 3), type := 25, pos := "law.go:19", after := #[], guard := none }) (v := ?vva_0) rfl (by kernel_rfl) (by kernel_rfl) (by kernel_rfl) (fun _ _ _ h => h) (Or.inl ⟨by rfl, ?yya_0⟩) hHeld ?_
  case vva_0 => exact .int .i64 0
  case yya_0 =>
    intro W hS
    go_simp
  try simp only [Act.put, List.setIfInBounds_toArray, List.set_cons_zero, List.set_cons_succ]
  refine wpAnyH_take (i := 1) (oi := { dst := some 27, op := Op.binOp BinOp.eql 25 (Operand.tmp 26) (Operand.const (Value.int IntKind.i64 0)) 25, type := 4, pos := "law.go:19", after := #[{ on := 0, ground := Ground.data }], guard := none }) (v := ?vva_1) rfl (by kernel_rfl) (by kernel_rfl) (by kernel_rfl) (fun _ _ _ h => h) (Or.inl ⟨by rfl, ?yya_1⟩) hHeld ?_
  case vva_1 => exact .bool true
  case yya_1 =>
    intro W hS
    go_simp
  try simp only [Act.put, List.setIfInBounds_toArray, List.set_cons_zero, List.set_cons_succ]
  refine wpAnyH_take (i := 2) (oi := { dst := some 28, op := Op.move (Operand.tmp 27), type := 4, pos := "law.go:19", after := #[{ on := 1, ground := Ground.data }], guard := none }) (v := ?vva_2) rfl (by kernel_rfl) (by kernel_rfl) (by kernel_rfl) (fun _ _ _ h => h) (Or.inl ⟨by rfl, ?yya_2⟩) hHeld ?_
  case vva_2 => exact .bool true
  case yya_2 =>
    intro W hS
    go_simp
  try simp only [Act.put, List.setIfInBounds_toArray, List.set_cons_zero, List.set_cons_succ]
  refine wpAnyH_take (i := 3) (oi := { dst := some 29, op := Op.move (Operand.tmp 5), type := 25, pos := "law.go:19", after := #[{ on := 2, ground := Ground.guard }], guard := some (2, true) }) (v := ?vva_3) rfl (by kernel_rfl) (by kernel_rfl) (by kernel_rfl) (fun _ _ _ h => h) (Or.inl ⟨by rfl, ?yya_3⟩) hHeld ?_
  case vva_3 => exact .int .i64 0
  case yya_3 =>
    intro W hS
    go_simp
  try simp only [Act.put, List.setIfInBounds_toArray, List.set_cons_zero, List.set_cons_succ]
  refine wpAnyH_take (i := 4) (oi := { dst := some 30, op := Op.binOp BinOp.eql 25 (Operand.tmp 29) (Operand.const (Value.int IntKind.i64 0)) 25, type := 4, pos := "law.go:19", after := #[{ on := 3, ground := Ground.data }, { on := 2, ground := Ground.guard }], guard := some (2, true) }) (v := ?vva_4) rfl (by kernel_rfl) (by kernel_rfl) (by kernel_rfl) (fun _ _ _ h => h) (Or.inl ⟨by rfl, ?yya_4⟩) hHeld ?_
  case vva_4 => exact .bool true
  case yya_4 =>
    intro W hS
    go_simp
  try simp only [Act.put, List.setIfInBounds_toArray, List.set_cons_zero, List.set_cons_succ]
  refine wpAnyH_take (i := 5) (oi := { dst := some 31, op := Op.pick (Operand.tmp 28) (Operand.tmp 30) (Operand.const (Value.bool false)), type := 4, pos := "law.go:19", after := #[{ on := 2, ground := Ground.data }, { on := 4, ground := Ground.data }], guard := none }) (v := ?vva_5) rfl (by kernel_rfl) (by kernel_rfl) (by kernel_rfl) (fun _ _ _ h => h) (Or.inl ⟨by rfl, ?yya_5⟩) hHeld ?_
  case vva_5 => exact .bool true
  case yya_5 =>
    intro W hS
    go_simp
  try simp only [Act.put, List.setIfInBounds_toArray, List.set_cons_zero, List.set_cons_succ]
  refine wpAnyH_take (i := 6) (oi := { dst := some 32, op := Op.move (Operand.tmp 31), type := 4, pos := "law.go:19", after := #[{ on := 5, ground := Ground.data }, { on := 2, ground := Ground.chain }], guard := none }) (v := ?vva_6) rfl (by kernel_rfl) (by kernel_rfl) (by kernel_rfl) (fun _ _ _ h => h) (Or.inl ⟨by rfl, ?yya_6⟩) hHeld ?_
  case vva_6 => exact .bool true
  case yya_6 =>
    intro W hS
    go_simp
  try simp only [Act.put, List.setIfInBounds_toArray, List.set_cons_zero, List.set_cons_succ]
  refine wpAnyH_take (i := 7) (oi := { dst := some 33, op := Op.indexAddr 90 (Operand.tmp 4) (Operand.const (Value.int IntKind.i64 0)), type := 0, pos := "law.go:19", after := #[{ on := 6, ground := Ground.guard }], guard := some (6, true) }) (v := ?vva_7) rfl (by kernel_rfl) (by kernel_rfl) (by kernel_rfl) (fun _ _ _ h => h) (Or.inl ⟨by rfl, ?yya_7⟩) hHeld ?_
  case vva_7 => exact .pointer (some ⟨g, 0, none⟩)
  case yya_7 =>
    intro W hS
    go_simp
  try simp only [Act.put, List.setIfInBounds_toArray, List.set_cons_zero, List.set_cons_succ]
  refine wpAnyH_take (i := 8) (oi := { dst := some 34, op := Op.load 5 (Operand.tmp 33), type := 5, pos := "law.go:19", after := #[{ on := 7, ground := Ground.data }, { on := 6, ground := Ground.guard }], guard := some (6, true) }) (v := ?vva_8) rfl (by kernel_rfl) (by kernel_rfl) (by kernel_rfl) (fun _ _ _ h => h) (Or.inl ⟨by rfl, ?yya_8⟩) hHeld ?_
  case vva_8 => exact .int .u8 7
  case yya_8 =>
    intro W hS
    have q0 := (hS.row HG.out.1).cell 0
    rw [HC0.out] at q0
    go_simp
  try simp only [Act.put, List.setIfInBounds_toArray, List.set_cons_zero, List.set_cons_succ]
  refine wpAnyH_take (i := 9) (oi := { dst := some 35, op := Op.binOp BinOp.eql 5 (Operand.tmp 34) (Operand.const (Value.int IntKind.u8 7)) 5, type := 4, pos := "law.go:19", after := #[{ on := 8, ground := Ground.data }, { on := 6, ground := Ground.guard }], guard := some (6, true) }) (v := ?vva_9) rfl (by kernel_rfl) (by kernel_rfl) (by kernel_rfl) (fun _ _ _ h => h) (Or.inl ⟨by rfl, ?yya_9⟩) hHeld ?_
  case vva_9 => exact .bool true
  case yya_9 =>
    intro W hS
    go_simp
  try simp only [Act.put, List.setIfInBounds_toArray, List.set_cons_zero, List.set_cons_succ]
  refine wpAnyH_take (i := 10) (oi := { dst := some 36, op := Op.pick (Operand.tmp 32) (Operand.tmp 35) (Operand.const (Value.bool false)), type := 4, pos := "law.go:19", after := #[{ on := 6, ground := Ground.data }, { on := 9, ground := Ground.data }], guard := none }) (v := ?vva_10) rfl (by kernel_rfl) (by kernel_rfl) (by kernel_rfl) (fun _ _ _ h => h) (Or.inl ⟨by rfl, ?yya_10⟩) hHeld ?_
  case vva_10 => exact .bool true
  case yya_10 =>
    intro W hS
    go_simp
  try simp only [Act.put, List.setIfInBounds_toArray, List.set_cons_zero, List.set_cons_succ]
  refine wpAnyH_take (i := 11) (oi := { dst := some 37, op := Op.move (Operand.tmp 36), type := 4, pos := "law.go:19", after := #[{ on := 10, ground := Ground.data }, { on := 6, ground := Ground.chain }], guard := none }) (v := ?vva_11) rfl (by kernel_rfl) (by kernel_rfl) (by kernel_rfl) (fun _ _ _ h => h) (Or.inl ⟨by rfl, ?yya_11⟩) hHeld ?_
  case vva_11 => exact .bool true
  case yya_11 =>
    intro W hS
    go_simp
  try simp only [Act.put, List.setIfInBounds_toArray, List.set_cons_zero, List.set_cons_succ]
  refine wpAnyH_take (i := 12) (oi := { dst := some 38, op := Op.indexAddr 90 (Operand.tmp 4) (Operand.const (Value.int IntKind.i64 1)), type := 0, pos := "law.go:19", after := #[{ on := 11, ground := Ground.guard }], guard := some (11, true) }) (v := ?vva_12) rfl (by kernel_rfl) (by kernel_rfl) (by kernel_rfl) (fun _ _ _ h => h) (Or.inl ⟨by rfl, ?yya_12⟩) hHeld ?_
  case vva_12 => exact .pointer (some ⟨g, 1, none⟩)
  case yya_12 =>
    intro W hS
    go_simp
  try simp only [Act.put, List.setIfInBounds_toArray, List.set_cons_zero, List.set_cons_succ]
  refine wpAnyH_take (i := 13) (oi := { dst := some 39, op := Op.load 5 (Operand.tmp 38), type := 5, pos := "law.go:19", after := #[{ on := 12, ground := Ground.data }, { on := 11, ground := Ground.guard }], guard := some (11, true) }) (v := ?vva_13) rfl (by kernel_rfl) (by kernel_rfl) (by kernel_rfl) (fun _ _ _ h => h) (Or.inl ⟨by rfl, ?yya_13⟩) hHeld ?_
  case vva_13 => exact .int .u8 0
  case yya_13 =>
    intro W hS
    have q0 := (hS.row HG.out.1).cell 1
    rw [HC1.out] at q0
    go_simp
  try simp only [Act.put, List.setIfInBounds_toArray, List.set_cons_zero, List.set_cons_succ]
  refine wpAnyH_take (i := 14) (oi := { dst := some 40, op := Op.binOp BinOp.eql 5 (Operand.tmp 39) (Operand.const (Value.int IntKind.u8 0)) 5, type := 4, pos := "law.go:19", after := #[{ on := 13, ground := Ground.data }, { on := 11, ground := Ground.guard }], guard := some (11, true) }) (v := ?vva_14) rfl (by kernel_rfl) (by kernel_rfl) (by kernel_rfl) (fun _ _ _ h => h) (Or.inl ⟨by rfl, ?yya_14⟩) hHeld ?_
  case vva_14 => exact .bool true
  case yya_14 =>
    intro W hS
    go_simp
  try simp only [Act.put, List.setIfInBounds_toArray, List.set_cons_zero, List.set_cons_succ]
  refine wpAnyH_take (i := 15) (oi := { dst := some 41, op := Op.pick (Operand.tmp 37) (Operand.tmp 40) (Operand.const (Value.bool false)), type := 4, pos := "law.go:19", after := #[{ on := 11, ground := Ground.data }, { on := 14, ground := Ground.data }], guard := none }) (v := ?vva_15) rfl (by kernel_rfl) (by kernel_rfl) (by kernel_rfl) (fun _ _ _ h => h) (Or.inl ⟨by rfl, ?yya_15⟩) hHeld ?_
  case vva_15 => exact .bool true
  case yya_15 =>
    intro W hS
    go_simp
  try simp only [Act.put, List.setIfInBounds_toArray, List.set_cons_zero, List.set_cons_succ]
  refine wpAnyH_take (i := 16) (oi := { dst := some 42, op := Op.move (Operand.tmp 41), type := 4, pos := "law.go:19", after := #[{ on := 15, ground := Ground.data }, { on := 11, ground := Ground.chain }], guard := none }) (v := ?vva_16) rfl (by kernel_rfl) (by kernel_rfl) (by kernel_rfl) (fun _ _ _ h => h) (Or.inl ⟨by rfl, ?yya_16⟩) hHeld ?_
  case vva_16 => exact .bool true
  case yya_16 =>
    intro W hS
    go_simp
  try simp only [Act.put, List.setIfInBounds_toArray, List.set_cons_zero, List.set_cons_succ]
  refine wpAnyH_take (i := 17) (oi := { dst := some 43, op := Op.move (Operand.tmp 1), type := 24, pos := "law.go:19", after := #[{ on := 16, ground := Ground.guard }], guard := some (16, true) }) (v := ?vva_17) rfl (by kernel_rfl) (by kernel_rfl) (by kernel_rfl) (fun _ _ _ h => h) (Or.inl ⟨by rfl, ?yya_17⟩) hHeld ?_
  case vva_17 => exact .pointer (some ⟨p, 0, none⟩)
  case yya_17 =>
    intro W hS
    go_simp
  try simp only [Act.put, List.setIfInBounds_toArray, List.set_cons_zero, List.set_cons_succ]
  refine' wpAnyH_take (i := 19) (oi := { dst := some 45, op := Op.load 90 (Operand.tmp 4), type := 90, pos := "law.go:19", after := #[{ on := 16, ground := Ground.guard }], guard := some (16, true) }) (v := _) rfl (by kernel_rfl) (by kernel_rfl) (by kernel_rfl) (fun _ _ _ h => h) (yieldsIf_load_mid (by rfl) _ _ rfl g 0 rfl C _ (fun W hS => HM.out W hS) Tryz.underlying90 rfl HI.out) hHeld ?_
  try simp only [Act.put, List.setIfInBounds_toArray, List.set_cons_zero, List.set_cons_succ]
  refine wpAnyH_ready (rs := [18]) (by kernel_rfl) (by simp) (AllReadyH.cons (o := { dst := some 44, op := Op.call { callee := Callee.value (Operand.func 55), args := #[Operand.tmp 43, Operand.const (Value.int IntKind.i64 3)], argTypes := #[24, 3] }, type := 90, pos := "law.go:19", after := #[{ on := 17, ground := Ground.data }, { on := 16, ground := Ground.chain }, { on := 16, ground := Ground.guard }], guard := some (16, true) }) rfl (fun K hK => ?_) AllReadyH.nil)
  go_simp
  go_at_call 55
  refine (HL.out _ (SB.dr (SB.here w5))).mono ?_
  rintro e sw1 ⟨rfl, sb1⟩
  have s1 := SB.next (SB.dr (SB.here w5)) sb1
  refine hK.out _ _ s1 (fun hHeld => ?_)
  clear hK K
  try simp only [Act.put, List.setIfInBounds_toArray, List.set_cons_zero, List.set_cons_succ]
  clear sb1
  refine' wpAnyH_take (i := 20) (oi := { dst := some 46, op := Op.binOp BinOp.eql 90 (Operand.tmp 44) (Operand.tmp 45) 90, type := 4, pos := "law.go:19", after := #[{ on := 18, ground := Ground.data }, { on := 19, ground := Ground.data }, { on := 16, ground := Ground.guard }], guard := some (16, true) }) (v := _) rfl (by kernel_rfl) (by kernel_rfl) (by kernel_rfl) (fun _ _ _ h => h) (yields_eql (by rfl) _ _ _ _ rfl C.toArray rfl rfl (by kernel_rfl) HE.out) hHeld ?_
  try simp only [Act.put, List.setIfInBounds_toArray, List.set_cons_zero, List.set_cons_succ]
  refine wpAnyH_take (i := 21) (oi := { dst := some 47, op := Op.pick (Operand.tmp 42) (Operand.tmp 46) (Operand.const (Value.bool false)), type := 4, pos := "law.go:19", after := #[{ on := 16, ground := Ground.data }, { on := 20, ground := Ground.data }], guard := none }) (v := ?vva_21) rfl (by kernel_rfl) (by kernel_rfl) (by kernel_rfl) (fun _ _ _ h => h) (Or.inl ⟨by rfl, ?yya_21⟩) hHeld ?_
  case vva_21 => exact .bool true
  case yya_21 =>
    intro W hS
    go_simp
  try simp only [Act.put, List.setIfInBounds_toArray, List.set_cons_zero, List.set_cons_succ]
  refine wpAnyH_ready (rs := [22]) (by kernel_rfl) (by simp) (AllReadyH.cons (o := { dst := some 0, op := Op.assign (Operand.tmp 47), type := 4, pos := "law.go:19", after := #[{ on := 21, ground := Ground.data }, { on := 18, ground := Ground.chain }, { on := 0, ground := Ground.phase }, { on := 1, ground := Ground.phase }, { on := 2, ground := Ground.phase }, { on := 3, ground := Ground.phase }, { on := 4, ground := Ground.phase }, { on := 5, ground := Ground.phase }, { on := 6, ground := Ground.phase }, { on := 7, ground := Ground.phase }, { on := 8, ground := Ground.phase }, { on := 9, ground := Ground.phase }, { on := 10, ground := Ground.phase }, { on := 11, ground := Ground.phase }, { on := 12, ground := Ground.phase }, { on := 13, ground := Ground.phase }, { on := 14, ground := Ground.phase }, { on := 15, ground := Ground.phase }, { on := 16, ground := Ground.phase }, { on := 17, ground := Ground.phase }, { on := 18, ground := Ground.phase }, { on := 19, ground := Ground.phase }, { on := 20, ground := Ground.phase }, { on := 21, ground := Ground.phase }], guard := none }) rfl (fun K hK => ?_) AllReadyH.nil)
  go_simp
  refine hK.out _ _ s1 (fun hHeld => ?_)
  clear hK K
  try simp only [Act.put, List.setIfInBounds_toArray, List.set_cons_zero, List.set_cons_succ]
  refine wpAnyH_done (by kernel_rfl) ?_ _
  refine NoPanic.normal ?_
  go_wp2
  go_ret
  exact ⟨rfl, HG.out.2.trans (Below.mono s1 (Below.size HG.out.2))⟩
end
end Go.Proofs.YtiaaeniopjpfpaaGreatDoor
