/- The document's disk written. -/
import Derived.Test.YtcecibopanfmgaaQRead
namespace Go.Proofs.Ytcecibopanfmgaa
open Go.RowKit Go.Maps
set_option linter.unusedVariables false
set_option linter.unusedSimpArgs false

theorem rwrite_info : (Try.prog.info? 69).map (fun i => (i.zero, i.size, i.bytes)) = some (some (.agg (.int .i64 0 :: zW).toArray), 129, 136) := by kernel_rfl
/-- 'write{at, b}'. -/
theorem rbuild_write (x : Int) (C : List Value) (hC : C.length = 128) (W : World) :
    (Instr.build 69 #[(0, .int .i64 x), (1, .agg C.toArray)]).run Try.prog W = .ok (.agg (.int .i64 x :: C).toArray) W := by
  have hz := zero_of_info rW_info
  have hu := Try.underlying69
  have hs1 := int_size W
  have hs2 := blk_sizeOf W
  have hf : Instr.fill (fun i => #[((0 : Nat), (1 : Nat)), (1, 128)][i]?) (Value.agg (Value.int IntKind.i64 0 :: zW).toArray).cells [(0, Value.int IntKind.i64 x), (1, Value.agg C.toArray)] = some (Value.int IntKind.i64 x :: C).toArray := by
    have e0 : (Value.agg (Value.int IntKind.i64 0 :: zW).toArray).cells = (Value.int IntKind.i64 0 :: zW).toArray := rfl
    have e1 : (Value.int IntKind.i64 x).cells = #[Value.int IntKind.i64 x] := rfl
    have e2 : (Value.agg C.toArray).cells = C.toArray := rfl
    have hzl : (Value.int IntKind.i64 0 :: zW).toArray.size = 129 := by simp [zW]
    have l1 := lay_arr 0 (.int .i64 x) (Value.int IntKind.i64 0 :: zW).toArray (by rw [e1, hzl]; simp)
    rw [e0]
    unfold Instr.fill
    simp only [List.getElem?_toArray, List.getElem?_cons_zero]
    rw [if_neg (by rw [e1, hzl]; simp), l1]
    have l2 := lay_arr 1 (.agg C.toArray) (((Value.int IntKind.i64 0 :: zW).toArray.toList.take 0 ++ (Value.int IntKind.i64 x).cells.toList ++ (Value.int IntKind.i64 0 :: zW).toArray.toList.drop (0 + (Value.int IntKind.i64 x).cells.size)).toArray) (by rw [e1, e2]; simp [zW, hC])
    unfold Instr.fill
    simp only [List.getElem?_cons_zero, List.getElem?_cons_succ]
    rw [if_neg (by rw [e1, e2]; simp [zW, hC]), l2]
    unfold Instr.fill
    rw [e1, e2]
    simp [zW, hC]
  simp only [Instr.build, Sem.run_bind, hz.1, Result.andThen_ok, run_underlying hu]
  simp [hs1, hs2, Result.andThen]
  have ee : (fun x : Nat => ([((0 : Nat), (1 : Nat)), (1, 128)] : List (Nat × Nat))[x]?) = fun i => #[((0 : Nat), (1 : Nat)), (1, 128)][i]? := by funext i; simp
  rw [ee, hf]
  rfl
/-- A slice of one of them. -/
theorem rone_write (x : Int) (C : List Value) (hC : C.length = 128) (W : World) :
    (Instr.buildSlice 34 1 #[(0, .agg (.int .i64 x :: C).toArray)]).run Try.prog W = .ok (.slice (some ⟨W.heap.size, 0, none⟩) 1 1) (W.alloc (.cells (.int .i64 x :: C).toArray 69)) := by
  have hz := rW_info
  cases hi : Try.prog.info? 69 with
  | none => rw [hi] at hz; cases hz
  | some ie =>
    rw [hi] at hz
    simp only [Option.map_some, Option.some.injEq, Prod.mk.injEq] at hz
    refine run_buildSlice W 34 69 1 _ _ ie _ Try.underlying34 hi hz.1 (by rw [hz.2]; decide) (by rw [hz.2]; decide) ?_
    rw [hz.2]
    have hsz : ((Array.range (1 * 129)).map ((Value.agg (Value.int IntKind.i64 0 :: zW).toArray).cells[· % (Value.agg (Value.int IntKind.i64 0 :: zW).toArray).cells.size]!)).size = 129 := by simp
    have e2 : (Value.agg (Value.int IntKind.i64 x :: C).toArray).cells = (Value.int IntKind.i64 x :: C).toArray := rfl
    have l2 := lay_arr 0 (.agg (Value.int IntKind.i64 x :: C).toArray) _ (by rw [hsz, e2]; simp [hC])
    unfold Instr.fill
    simp only [Nat.zero_mul]
    rw [if_neg (by rw [hsz, e2]; simp [hC])]
    rw [l2]
    unfold Instr.fill
    rw [e2]
    simp [hC]
theorem read_len {D : DS} (hD : D.ok) (at' : Int) : (D.read at').length = 128 := by
  unfold DS.read
  split
  · rename_i hf
    obtain ⟨_, h0, h1⟩ := fault_zero hf
    rw [← blkOf_all D at' _ rfl]
    exact blkOf_len D hD _ _ h0 h1 (fun i hi => by have := lastAt_lt hi; rw [List.length_take] at this; omega)
  · simp [z128]
section
variable {L L' : Nat → Prop} {w w' : World} {p gl : Nat} {hv : Value} {D D' : DS}

set_option maxRecDepth 20000 in
set_option maxHeartbeats 1000000 in
theorem RWrite_any (hL : ∀ k, L k → k < w.heap.size) (h : RefAt L w p gl hv D) (at' : Int) (b : List UInt8) (hb : b.length = 128) (hs : D.steps < 1000000000) (hh : D.hangs.length < 1000000000) :
    Calls Try.prog 27 #[.pointer (some ⟨p, 0, none⟩), .int .i64 at', blkV b] w fun e w' => e = .returned (.int .i64 (D.writeErr at')) ∧ RefIs L w' p (D.written at' b) ∧ Keeps L w w' := by
  have hz := (zero_of_info zB_info).1
  obtain ⟨C, hC⟩ : ∃ C, b.map bv = C := ⟨_, rfl⟩
  have hbl : blkV b = .agg C.toArray := by unfold blkV; rw [hC]
  have hCl : C.length = 128 := by rw [← hC, List.length_map, hb]
  rw [hbl]
  obtain ⟨RB, hRB⟩ : ∃ RB, (D.read at').map bv = RB := ⟨_, rfl⟩
  have hRBl : RB.length = 128 := by rw [← hRB, List.length_map, read_len h.good]
  have hRsz := blk_size _ (read_len h.good at')
  have hRone := blkV_one (D.read at')
  rw [hRB] at hRsz hRone
  have B0 := (Below.refl w.heap.size w).alloc (Nat.le_refl _) (.cells C.toArray 42)
  have h1 := h.below B0
  have r0 := Row.new w 42 C
  have HRD := Lib.hid (RRead_any h1 at' hh)
  have hRV : blkV (D.read at') = .agg RB.toArray := by unfold blkV; rw [hRB]
  rw [hRV] at HRD
  obtain ⟨Z, hZ⟩ : ∃ Z, zB = Z := ⟨_, rfl⟩
  have hZl : Z.length = 128 := by rw [← hZ]; exact zB_len
  rw [hZ] at hz
  have HZ := Lib.hid (And.intro hZ (And.intro hZl (And.intro hRBl (And.intro hRsz hRone))))
  have HS := Lib.hid (And.intro B0 r0)
  have HNEW : Hid (∀ W : World, Row (W.alloc (.cells Z.toArray 42)) W.heap.size 42 Z ∧ Below W.heap.size W ((W.alloc (.cells Z.toArray 42)).setRow W.heap.size RB.toArray)) := Lib.hid fun W =>
    ⟨Row.new W 42 Z, below_setRow (B := W.heap.size) ((Below.refl W.heap.size W).alloc (Nat.le_refl _) _) (Nat.le_refl _) _⟩
  have H := Lib.hid h
  have HL := Lib.hid hL
  have HP := Lib.hid (And.intro hb (And.intro hs (And.intro hh (And.intro hC hCl))))
  by_cases hf : D.fault at' = 0
  · rw [hf] at HRD
    have HF := Lib.hid hf
    clear hZ hZl hRBl hRsz hRone hRB hRV B0 h1 r0 h hL hb hs hh hC hbl hf hCl
    go_enter Try.func27, Try.ntmps27
    go_wp2_with fail
    refine HRD.out.mono ?_
    rintro e w1 ⟨rfl, hb1⟩
    have HB1 := Lib.hid hb1
    clear hb1
    go_wp2_with (first
      | (refine wpList_store_row rfl 42 (.tmp 7) (.tmp 13) rfl w1.heap.size RB.toArray rfl rfl 42 Z.toArray (HNEW.out w1).1 (by rw [List.size_toArray]; exact HZ.out.2.2.2.1) (by rw [List.size_toArray, List.size_toArray, HZ.out.2.1, HZ.out.2.2.1]) HZ.out.2.2.2.2 ?_; have hN := (HNEW.out w1).2; generalize (w1.alloc (.cells Z.toArray 42)).setRow w1.heap.size RB.toArray = W3 at hN ⊢; have HN := Lib.hid (Below.trans HB1.out (hN.mono HB1.out.size)); clear hN HNEW)
      | fail)
    obtain ⟨g, hg⟩ : ∃ g, w.heap.size = g := ⟨_, rfl⟩
    have HGE := Lib.hid hg
    have hbw3 := HN.out
    have hsz1 : (w.alloc (.cells C.toArray 42)).heap.size = g + 1 := by simp [hg]
    have hB3 : Below w.heap.size w W3 := HS.out.1.trans (hbw3.mono (by simp))
    have hr3 : RefAt (fun k => L k ∨ k = g) W3 p gl hv D := (H.out.below hB3).kept (fun _ _ => rfl) (fun q hq hl => by
      rcases hl with h2 | h2
      · exact H.out.out q hq h2
      · have := H.out.lt q hq; omega)
    have rC3 : Row W3 g 42 C := by
      have h := HS.out.2
      rw [hg] at h
      exact h.below hbw3 (by omega)
    have hdn := (fault_zero HF.out).1
    have HST := Lib.hid (Rstep_any hr3 HP.out.2.1 hdn)
    have HB3 := Lib.hid (And.intro hB3 rC3)
    clear hbw3 hsz1 hB3 hr3 rC3 hdn HN HB1 HRD hg
    by_cases hm : D.may = true
    · rw [hm] at HST
      have hse : D.stepErr = 0 := by unfold DS.stepErr; rw [hm]; rfl
      have e1 : D.writeErr at' = 0 := by unfold DS.writeErr; rw [if_neg (by rw [HF.out]; simp), hse]
      have e2 : D.written at' b = { D.stepped with hangs := D.hangs ++ [(at'.toNat, b)] } := by unfold DS.written; rw [if_neg (by rw [HF.out]; simp), if_pos hm]
      obtain ⟨hdn0, h0, hn⟩ := fault_zero HF.out
      obtain ⟨k, rfl⟩ := Int.eq_ofNat_of_zero_le h0
      have HK0 := Lib.hid (show k < D.lasts.length by omega)
      have HE := Lib.hid (And.intro e1 (show D.written (k : Int) b = { D.stepped with hangs := D.hangs ++ [(k, b)] } from e2))
      clear hm hse e1 e2 h0 hn hdn0
      obtain ⟨a, c, rfl⟩ := own_slice H.out.han
      refine HST.out.mono ?_
      rintro e w2 ⟨rfl, hd2, hk2⟩
      obtain ⟨n, hnn⟩ : ∃ n, D.hangs.length = n := ⟨_, rfl⟩
      have HN := Lib.hid (show n < 1000000000 by have := HP.out.2.2.1; omega)
      have HNN := Lib.hid hnn
      have hbs := fun W => rone_write (k : Int) C HP.out.2.2.2.2 W
      have hbw := fun W => rbuild_write (k : Int) C HP.out.2.2.2.2 W
      have HC : Hid ((Try.prog.info? 42).map (·.size) = some C.length ∧ C.length = 128 ∧ ∀ v ∈ (Value.int .i64 (k : Int) :: C), v.oneCell' = true) := Lib.hid ⟨by rw [← HP.out.2.2.2.1]; exact blk_size b HP.out.1, HP.out.2.2.2.2, fun v hv => by
        rcases List.mem_cons.1 hv with rfl | hv
        · rfl
        · rw [← HP.out.2.2.2.1] at hv; exact bvs_one b v hv⟩
      obtain ⟨i0, z0, HI⟩ : ∃ i z, Hid (Try.prog.info? 69 = some i ∧ i.zero = some z ∧ i.size = 129 ∧ i.bytes = 136 ∧ z.cells.size = 129) := by
        have hz := rwrite_info
        cases hi : Try.prog.info? 69 with
        | none => rw [hi] at hz; cases hz
        | some ie =>
          rw [hi] at hz
          simp only [Option.map_some, Option.some.injEq, Prod.mk.injEq] at hz
          exact ⟨ie, _, Lib.hid ⟨rfl, hz.1, hz.2.1, hz.2.2, by show (Value.int IntKind.i64 0 :: zW).toArray.size = 129; simp [zW]⟩⟩
      have rB : Row w2 g 42 C := (hk2.block g HB3.out.2.lt (.inr rfl)).trans HB3.out.2
      have hhn2 := hd2.han
      rw [(stepped_same D).2] at hhn2
      have hrow2 := hd2.row
      rw [HNN.out] at hhn2 hrow2
      obtain ⟨RC, HRC⟩ : ∃ RC, Hid (RC = [Value.slice (some ⟨gl, 0, none⟩) D.stepped.lasts.length D.stepped.lasts.length, .slice a n c, .int .i64 (D.stepped.steps : Nat), .int .i64 D.stepped.fuse, .bool D.stepped.down]) := ⟨_, Lib.hid rfl⟩
      have hne2 : (Value.slice a n c).ownBlock ≠ some p ∧ (Value.slice a n c).ownBlock ≠ some g := by
        have h1 := own_ne hhn2 hrow2 (by decide)
        have h2 := own_ne hhn2 rB (by decide)
        exact ⟨h1, h2⟩
      rw [← HRC.out] at hrow2
      have S2 : Row w2.drew p 36 RC ∧ Row w2.drew g 42 C := ⟨hrow2.drew, rB.drew⟩
      have H8 : Hid ((Row w2.drew p 36 RC ∧ Row w2.drew g 42 C) → Row (w2.drew.alloc (.cells (.int .i64 (k : Int) :: C).toArray 69)) p 36 RC ∧ Row (w2.drew.alloc (.cells (.int .i64 (k : Int) :: C).toArray 69)) g 42 C) := Lib.hid fun h3 => ⟨h3.1.alloc _, h3.2.alloc _⟩
      have H9 : (w2.drew.alloc (.cells (.int .i64 (k : Int) :: C).toArray 69)).ownsRow 0 69 129 (.slice a n c) n (wcs D.hangs) :=
        own_kept (w := w2.drew) (own_kept hhn2 (fun q hq => rfl)) (fun q hq => Below.heap_alloc _ _ _ (own_blk_lt hhn2 hq))
      have H10 : ∀ w5, (w2.drew.alloc (.cells (.int .i64 (k : Int) :: C).toArray 69)).grownBy w5 (Value.slice a n c).ownBlock → Row w5 p 36 RC ∧ Row w5 g 42 C := fun w5 h5 => by
        have h6 := H8.out S2
        exact ⟨(h5.block p h6.1.lt (fun e => hne2.1 e.symm)).trans h6.1, (h5.block g h6.2.lt (fun e => hne2.2 e.symm)).trans h6.2⟩
      have HD := Lib.hid (And.intro hd2 (And.intro hk2 rB))
      rw [HGE.out]
      have HS2 := Lib.hid (And.intro S2 (And.intro H9 H10))
      clear hd2 hk2 rB hhn2 hrow2 hne2 hnn S2 H9 H10
      go_wp2_with fail
      refine wp_region_noPanic ?_
      obtain ⟨S2, H9, H10⟩ := HS2.out
      refine region_held_last 12 (S := fun W => Row W p 36 RC ∧ Row W g 42 C) (by kernel_rfl) (by kernel_rfl) rfl S2 (fun hHeld => ?_)
      simp only [List.take_succ_cons, List.take_zero]
      refine wpAnyH_take (i := 0) (oi := { dst := some 21, op := Op.move (Operand.tmp 0), type := 28, pos := "ref.go:67", after := #[], guard := none }) (v := ?vvr_0) rfl (by kernel_rfl) (by kernel_rfl) (by kernel_rfl) (fun _ _ _ h => h) (Or.inl ⟨by rfl, ?yyr_0⟩) hHeld ?_
      case vvr_0 => exact .pointer (some ⟨p, 0, none⟩)
      case yyr_0 =>
        intro W hS
        go_simp
      try simp only [Act.put, List.setIfInBounds_toArray, List.set_cons_zero, List.set_cons_succ]
      refine wpAnyH_take (i := 1) (oi := { dst := some 22, op := Op.move (Operand.tmp 0), type := 28, pos := "ref.go:67", after := #[], guard := none }) (v := ?vvr_1) rfl (by kernel_rfl) (by kernel_rfl) (by kernel_rfl) (fun _ _ _ h => h) (Or.inl ⟨by rfl, ?yyr_1⟩) hHeld ?_
      case vvr_1 => exact .pointer (some ⟨p, 0, none⟩)
      case yyr_1 =>
        intro W hS
        go_simp
      try simp only [Act.put, List.setIfInBounds_toArray, List.set_cons_zero, List.set_cons_succ]
      refine wpAnyH_take (i := 2) (oi := { dst := some 23, op := Op.nilCheck (Operand.tmp 22), type := 0, pos := "ref.go:67", after := #[{ on := 1, ground := Ground.data }], guard := none }) (v := ?vvr_2) rfl (by kernel_rfl) (by kernel_rfl) (by kernel_rfl) (fun _ _ _ h => h) (Or.inl ⟨by rfl, ?yyr_2⟩) hHeld ?_
      case vvr_2 => exact .pointer (some ⟨p, 0, none⟩)
      case yyr_2 =>
        intro W hS
        go_simp
      try simp only [Act.put, List.setIfInBounds_toArray, List.set_cons_zero, List.set_cons_succ]
      refine wpAnyH_take (i := 3) (oi := { dst := some 24, op := Op.fieldAddr 36 (Operand.tmp 23) 1, type := 0, pos := "ref.go:67", after := #[{ on := 2, ground := Ground.data }], guard := none }) (v := ?vvr_3) rfl (by kernel_rfl) (by kernel_rfl) (by kernel_rfl) (fun _ _ _ h => h) (Or.inl ⟨by rfl, ?yyr_3⟩) hHeld ?_
      case vvr_3 => exact .pointer (some ⟨p, 1, none⟩)
      case yyr_3 =>
        intro W hS
        go_simp
      try simp only [Act.put, List.setIfInBounds_toArray, List.set_cons_zero, List.set_cons_succ]
      refine wpAnyH_take (i := 4) (oi := { dst := some 25, op := Op.load 34 (Operand.tmp 24), type := 34, pos := "ref.go:67", after := #[{ on := 3, ground := Ground.data }], guard := none }) (v := ?vvr_4) rfl (by kernel_rfl) (by kernel_rfl) (by kernel_rfl) (fun _ _ _ h => h) (Or.inl ⟨by rfl, ?yyr_4⟩) hHeld ?_
      case vvr_4 => exact .slice a n c
      case yyr_4 =>
        intro W hS
        obtain ⟨s1, s2⟩ := hS
        have q1 := s1.cell 1
        simp only [HRC.out, List.getElem?_cons_zero, List.getElem?_cons_succ] at q1
        go_simp
      try simp only [Act.put, List.setIfInBounds_toArray, List.set_cons_zero, List.set_cons_succ]
      refine wpAnyH_take (i := 5) (oi := { dst := some 26, op := Op.move (Operand.tmp 1), type := 3, pos := "ref.go:67", after := #[], guard := none }) (v := ?vvr_5) rfl (by kernel_rfl) (by kernel_rfl) (by kernel_rfl) (fun _ _ _ h => h) (Or.inl ⟨by rfl, ?yyr_5⟩) hHeld ?_
      case vvr_5 => exact .int .i64 k
      case yyr_5 =>
        intro W hS
        go_simp
      try simp only [Act.put, List.setIfInBounds_toArray, List.set_cons_zero, List.set_cons_succ]
      refine' wpAnyH_take (i := 6) (oi := { dst := some 27, op := Op.load 42 (Operand.tmp 5), type := 42, pos := "ref.go:67", after := #[], guard := none }) (v := _) rfl (by kernel_rfl) (by kernel_rfl) (by kernel_rfl) (fun _ _ _ h => h) (yieldsIf_load_mid (by rfl) _ _ rfl g 0 rfl C _ (fun W h => (fun j v hj => by rw [Nat.zero_add, h.2.cell]; exact hj)) Try.underlying42 rfl HC.out.1) hHeld ?_
      try simp only [Act.put, List.setIfInBounds_toArray, List.set_cons_zero, List.set_cons_succ]
      refine' wpAnyH_take (i := 7) (oi := { dst := some 28, op := Op.build 69 #[(0, Operand.tmp 26), (1, Operand.tmp 27)], type := 69, pos := "ref.go:67", after := #[{ on := 5, ground := Ground.data }, { on := 6, ground := Ground.data }], guard := none }) (v := _) rfl (by kernel_rfl) (by kernel_rfl) (by kernel_rfl) (fun _ _ _ h => h) (yields_build (by rfl) _ _ rfl #[(0, .int .i64 (k : Int)), (1, .agg C.toArray)] (.int .i64 (k : Int) :: C).toArray (by go_simp) hbw) hHeld ?_
      try simp only [Act.put, List.setIfInBounds_toArray, List.set_cons_zero, List.set_cons_succ]
      refine wpAnyH_ready (rs := [8]) (by kernel_rfl) (by simp) (AllReadyH.cons (o := { dst := some 29, op := Op.buildSlice 34 1 #[(0, Operand.tmp 28)], type := 34, pos := "ref.go:67", after := #[{ on := 7, ground := Ground.data }], guard := none }) rfl (fun K hK => ?_) AllReadyH.nil)
      rw [if_pos (by rfl)]
      have S3 := H8.out S2
      refine wp_buildSliceRun 34 1 _ rfl #[(0, .agg (.int .i64 (k : Int) :: C).toArray)] (.slice (some ⟨w2.heap.size, 0, none⟩) 1 1) (w2.drew.alloc (.cells (.int .i64 (k : Int) :: C).toArray 69)) ?hvv ?hrr ?_
      case hrr => exact hbs w2.drew
      case hvv => simp only [List.map_toArray, List.map_cons, List.map_nil, Act.eval, Array.getD_eq_getD_getElem?, List.getElem?_toArray, List.getElem?_cons_succ, List.getElem?_cons_zero, Option.getD_some]
      refine hK.out _ _ S3 (fun hHeld => ?_)
      clear hK K
      try simp only [Act.put, List.setIfInBounds_toArray, List.set_cons_zero, List.set_cons_succ]
      refine wpAnyH_ready (rs := [9]) (by kernel_rfl) (by simp) (AllReadyH.cons (o := { dst := some 30, op := Op.call { callee := Callee.builtin Builtin.append, args := #[Operand.tmp 25, Operand.tmp 29], argTypes := #[34, 34] }, type := 34, pos := "ref.go:67", after := #[{ on := 4, ground := Ground.data }, { on := 8, ground := Ground.data }], guard := none }) rfl (fun K hK => ?_) AllReadyH.nil)
      rw [if_pos (by rfl)]
      refine wp_append_lies _ (.tmp 25) (.tmp 29) 34 rfl 0 69 i0 z0 129 136 Try.underlying34 HI.out.1 HI.out.2.1 HI.out.2.2.1 HI.out.2.2.2.1 HI.out.2.2.2.2 (by omega) (.slice a n c) n (wcs D.hangs) rfl H9 ⟨w2.heap.size, 0, none⟩ 1 1 (.int .i64 k :: C) rfl (by rw [List.length_cons, HC.out.2.1]) (World.news_of_block (cs := (.int .i64 (k : Int) :: C).toArray) (t := 69) (fr := (0, 0)) (heap_alloc_new w2.drew _)) HC.out.2.2 (by omega) (by have := HN.out; unfold maxLen; omega) (by have := HN.out; omega) (Nat.zero_le _) _ rfl ?_
      intro g5 cap5 w5 hown5 hg5 hat5 hlt5
      try simp only [Act.put, List.setIfInBounds_toArray, List.set_cons_zero, List.set_cons_succ]
      have S4 := H10 w5 hg5
      have HO5 := Lib.hid (And.intro hown5 (And.intro hg5 (And.intro hat5 hlt5)))
      clear hown5 hg5 hat5 hlt5 H10 H9
      refine hK.out _ _ S4 (fun hHeld => ?_)
      clear hK K
      try simp only [Act.put, List.setIfInBounds_toArray, List.set_cons_zero, List.set_cons_succ]
      refine wpAnyH_take (i := 10) (oi := { dst := some 31, op := Op.nilCheck (Operand.tmp 21), type := 0, pos := "ref.go:67", after := #[{ on := 0, ground := Ground.data }, { on := 0, ground := Ground.phase }, { on := 1, ground := Ground.phase }, { on := 2, ground := Ground.phase }, { on := 3, ground := Ground.phase }, { on := 4, ground := Ground.phase }, { on := 5, ground := Ground.phase }, { on := 6, ground := Ground.phase }, { on := 7, ground := Ground.phase }, { on := 8, ground := Ground.phase }, { on := 9, ground := Ground.phase }], guard := none }) (v := ?vvr_10) rfl (by kernel_rfl) (by kernel_rfl) (by kernel_rfl) (fun _ _ _ h => h) (Or.inl ⟨by rfl, ?yyr_10⟩) hHeld ?_
      case vvr_10 => exact .pointer (some ⟨p, 0, none⟩)
      case yyr_10 =>
        intro W hS
        go_simp
      try simp only [Act.put, List.setIfInBounds_toArray, List.set_cons_zero, List.set_cons_succ]
      refine wpAnyH_take (i := 11) (oi := { dst := some 32, op := Op.fieldAddr 36 (Operand.tmp 31) 1, type := 0, pos := "ref.go:67", after := #[{ on := 10, ground := Ground.data }, { on := 0, ground := Ground.phase }, { on := 1, ground := Ground.phase }, { on := 2, ground := Ground.phase }, { on := 3, ground := Ground.phase }, { on := 4, ground := Ground.phase }, { on := 5, ground := Ground.phase }, { on := 6, ground := Ground.phase }, { on := 7, ground := Ground.phase }, { on := 8, ground := Ground.phase }, { on := 9, ground := Ground.phase }], guard := none }) (v := ?vvr_11) rfl (by kernel_rfl) (by kernel_rfl) (by kernel_rfl) (fun _ _ _ h => h) (Or.inl ⟨by rfl, ?yyr_11⟩) hHeld ?_
      case vvr_11 => exact .pointer (some ⟨p, 1, none⟩)
      case yyr_11 =>
        intro W hS
        go_simp
      try simp only [Act.put, List.setIfInBounds_toArray, List.set_cons_zero, List.set_cons_succ]
      refine wpAnyH_done (by kernel_rfl) ?_ _
      show wpList _ _ _ [_] _ _

      have q5 := S4.1.cell 1
      have f5 := S4.1.frozen 1
      simp only [HRC.out, List.getElem?_cons_zero, List.getElem?_cons_succ] at q5
      have HS4 := Lib.hid S4
      clear S4 S3 S2 hHeld
      go_wp2_with fail
      refine NoPanic.normal ?_
      go_wp2
      go_ret
      obtain ⟨hd2, hk2, rB⟩ := HD.out
      obtain ⟨ho5, hg5, ha5, hl5⟩ := HO5.out
      obtain ⟨rp5, rb5⟩ := HS4.out
      have hst := stepped_same D
      have hnn := HNN.out
      rw [HE.out.1, HE.out.2]
      have hlas4 : Row (w2.drew.alloc (.cells (.int .i64 (k : Int) :: C).toArray 69)) gl 42 (D.stepped.lasts.flatten.map bv) := (Row.drew hd2.las).alloc _
      have hlas5 : Row w5 gl 42 (D.stepped.lasts.flatten.map bv) := (hg5.block gl hlas4.lt (fun e => hd2.ne_hl (by rw [hnn]; exact e.symm))).trans hlas4
      have hne5 : p ≠ g5 := fun e => own_ne ho5 rp5 (by decide) (by rw [e]; rfl)
      have hCb := HP.out.2.2.2.1
      have hw2 : w.heap.size ≤ w2.heap.size := Nat.le_trans HB3.out.1.size hk2.size
      refine ⟨rfl, ⟨gl, .slice (some ⟨g5, 0, none⟩) (n + 1) cap5, ⟨?_, ?_, ?_, ?_, fun h => hd2.fp (.inl h), fun h => hd2.fl (.inl h), fun q hq hl => ?_⟩⟩, ?_⟩
      · have := rp5.set 1 (.slice (some ⟨g5, 0, none⟩) (n + 1) cap5)
        rw [HRC.out] at this
        simpa using this
      · exact (Below.heap_setCell _ _ _ _ (fun e => hd2.ne_lp e)).trans hlas5
      · have h := own_kept (w' := w5.setCell ⟨p, 1, none⟩ (.slice (some ⟨g5, 0, none⟩) (n + 1) cap5)) ho5 (fun q hq => Below.heap_setCell _ _ _ _ (fun e => by
          have e1 : g5 = q := by simpa [Value.ownBlock] using hq
          exact hne5 (e1.trans e).symm))
        have e1 : (D.hangs ++ [(k, b)]).length = n + 1 := by rw [List.length_append, hnn]; rfl
        have e2 : wcs (D.hangs ++ [(k, b)]) = wcs D.hangs ++ .int .i64 (k : Int) :: C := by rw [wcs_snoc]; unfold wcells; rw [hCb]
        show World.ownsRow _ _ _ _ _ (D.hangs ++ [(k, b)]).length (wcs (D.hangs ++ [(k, b)]))
        rw [e1, e2]
        exact h
      · have hg := hd2.good
        have hn0 := HK0.out
        rw [← hst.1] at hn0
        exact ⟨hg.least, hg.most, hg.rows, fun x hx => by
          rcases List.mem_append.1 hx with hx | hx
          · rw [← hst.2] at hx; exact hg.sect x hx
          · rw [List.mem_singleton.1 hx]; exact hn0, fun x hx => by
          rcases List.mem_append.1 hx with hx | hx
          · rw [← hst.2] at hx; exact hg.blks x hx
          · rw [List.mem_singleton.1 hx]; exact HP.out.1, hg.fuse1, hg.fuse2⟩
      · have e1 : g5 = q := by simpa [Value.ownBlock] using hq
        subst e1
        rcases ha5 with h1 | h1
        · exact hd2.fh g5 (by rw [hnn]; exact h1) (.inl hl)
        · have := HL.out _ hl
          rw [h1] at this
          simp at this
          omega
      · have k1 : Keeps L w W3 := Keeps.of_below HB3.out.1 (fun q hq _ => hq)
        have k2 := (k1.trans (hk2.mono (fun q h => .inl h))).drew1.alloc (.cells (.int .i64 (k : Int) :: C).toArray 69)
        have k4 := k2.grown hg5 (fun q hq => .inl (fun h => hd2.fh q (by rw [hnn]; exact hq) (.inl h)))
        exact k4.setCell (p := ⟨p, 1, none⟩) (.inl (fun h => hd2.fp (.inl h))) _
    · have hmf : D.may = false := by simpa using hm
      rw [hmf] at HST
      have hse : D.stepErr = 13 := by unfold DS.stepErr; rw [hmf]; rfl
      have e1 : D.writeErr at' = 13 := by unfold DS.writeErr; rw [if_neg (by rw [HF.out]; simp), hse]
      have e2 : D.written at' b = D.stepped := by unfold DS.written; rw [if_neg (by rw [HF.out]; simp), if_neg hm]
      have HE := Lib.hid (And.intro e1 e2)
      clear hm hmf hse e1 e2
      refine HST.out.mono ?_
      rintro e w2 ⟨rfl, hd2, hk2⟩
      have HD := Lib.hid (And.intro hd2 hk2)
      clear hd2 hk2
      go_wp2_with fail
      go_ret
      rw [HE.out.1, HE.out.2]
      have h2 : RefIs (fun k => L k ∨ k = g) w2 p D.stepped := ⟨_, _, HD.out.1⟩
      exact ⟨rfl, h2.more (fun q hq => .inl (.inl hq)), (Keeps.of_below HB3.out.1 (fun q hq _ => hq)).trans (HD.out.2.mono (fun q h => .inl h))⟩
  · have e1 : D.writeErr at' = D.fault at' := by unfold DS.writeErr; rw [if_pos hf]
    have e2 : D.written at' b = D := by unfold DS.written; rw [if_pos hf]
    rw [e1, e2]
    obtain ⟨F, hF⟩ : ∃ F, D.fault at' = F := ⟨_, rfl⟩
    rw [hF] at HRD hf ⊢
    have hfb : ((F : Int) != 0) = true := by simpa using hf
    clear hZ hZl hRBl hRsz hRone hRB hRV B0 h1 r0 h hL hb hs hh hC hbl hCl e1 e2 hF
    go_enter Try.func27, Try.ntmps27
    go_wp2_with fail
    refine HRD.out.mono ?_
    rintro e w1 ⟨rfl, hb1⟩
    have HB1 := Lib.hid hb1
    clear hb1
    go_wp2_with (first
      | (refine wpList_store_row rfl 42 (.tmp 7) (.tmp 13) rfl w1.heap.size RB.toArray rfl rfl 42 Z.toArray (HNEW.out w1).1 (by rw [List.size_toArray]; exact HZ.out.2.2.2.1) (by rw [List.size_toArray, List.size_toArray, HZ.out.2.1, HZ.out.2.2.1]) HZ.out.2.2.2.2 ?_; have hN := (HNEW.out w1).2; generalize (w1.alloc (.cells Z.toArray 42)).setRow w1.heap.size RB.toArray = W3 at hN ⊢; have HN := Lib.hid (HS.out.1.trans ((Below.trans HB1.out (hN.mono HB1.out.size)).mono (by simp))); clear hN HNEW)
      | fail)
    go_ret
    exact ⟨rfl, ⟨_, _, H.out.below HN.out⟩, Keeps.of_below HN.out (fun q hq _ => hq)⟩
end
end Go.Proofs.Ytcecibopanfmgaa
