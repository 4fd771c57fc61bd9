/- A disk read. -/
import Derived.Test.YtiaaeniopjpfpaaGreatDoorKDrop
import Derived.Deep.WholeRow
import Derived.Laws.Tables
import Derived.Laws.ResultCell
namespace Go.Proofs.YtiaaeniopjpfpaaGreatDoor
open Go.RowKit Go.Maps
set_option linter.unusedVariables false

def zB : List Value := List.replicate 128 (.int .u8 0)
theorem zB_eq : z128.map bv = zB := by unfold z128 zB; rw [List.map_replicate]; rfl
theorem zB_info : (Tryz.prog.info? 90).map (fun i => (i.zero, i.size)) = some (some (.agg zB.toArray), 128) := by kernel_rfl
theorem zB_len : zB.length = 128 := by simp [zB]
theorem zB_one : zB.toArray.all (·.oneCell') = true := by rw [← zB_eq, Array.all_eq_true_iff_forall_mem]; intro v hv; exact bvs_one z128 v (by simpa using hv)
theorem blk_sizeK (l : List UInt8) (h : l.length = 128) : (Tryz.prog.info? 90).map (·.size) = some (l.map bv).length := by
  rw [List.length_map, h]; kernel_rfl
theorem blk_sizeA (l : List UInt8) (h : l.length = 128) : (Tryz.prog.info? 90).map (·.size) = some (l.map bv).toArray.size := by
  rw [List.size_toArray]; exact blk_sizeK l h
def blkV (l : List UInt8) : Value := .agg (l.map bv).toArray
theorem blkV_one (l : List UInt8) : (l.map bv).toArray.all (·.oneCell') = true := by
  rw [Array.all_eq_true_iff_forall_mem]
  intro v hv
  exact bvs_one l v (by simpa using hv)
theorem row_range {w : World} {g : Nat} {t : TypeId} {l : List Value} (h : Row w g t l) (o n : Nat) (hn : o + n ≤ l.length) : w.rangeAt g o ((l.drop o).take n) := by
  intro j v hj
  rw [h.cell]
  rw [List.getElem?_take] at hj
  split at hj
  · rwa [List.getElem?_drop] at hj
  · cases hj
theorem row_thereK {w : World} {g : Nat} {t : TypeId} {l : List Value} (h : Row w g t l) (o n : Nat) (hn : o + n ≤ l.length) : w.there g o n := by
  intro j hj
  rw [h.cell, h.frozen]
  exact ⟨by rw [List.getElem?_eq_getElem (by omega)]; rfl, rfl⟩
theorem flat_mid (l : List (List UInt8)) (h : ∀ b ∈ l, b.length = 128) (i : Nat) (hi : i < l.length) : ((l.flatten.map bv).drop (i * 128)).take 128 = (l.getD i []).map bv := by
  have hb : (l.getD i []).length = 128 := h _ (by rw [List.getD_eq_getElem?_getD, List.getElem?_eq_getElem hi]; simp)
  apply List.ext_getElem?
  intro j
  rw [List.getElem?_take]
  by_cases hj : j < 128
  · rw [if_pos hj, List.getElem?_drop, List.getElem?_map, List.getElem?_map, flat_getElem l h i j hj]
  · rw [if_neg hj, List.getElem?_map, List.getElem?_eq_none (by omega)]
    rfl
theorem results_row_tmp {P : Program} {fn : Func} {p u : Tmp} {ty : TypeId} (h : fn.results = #[.cell p ty, .tmp u]) (tmps : Array Value) (w : World) (g : Nat) (t : TypeId) (cs : Array Value) (fr : Nat × Nat) (d : TypeDesc)
    (hp : tmps.getD p undef = .pointer (some ⟨g, 0, none⟩)) (hg : w.heap[g]? = some (.cells cs t fr))
    (hu : P.underlying ty = some d) (hd : (match d with | .struct _ | .array _ _ => true | _ => false) = true) (hi : (P.info? ty).map (·.size) = some cs.size) (x : Value) (hx : tmps.getD u undef = x) :
    (results fn tmps).run P w = .ok (.tuple #[.agg cs, x]) w := by
  rw [results_cell_tmp h, hp, hx]
  simp [asAddr, run_loadVar_row w g t ty cs fr d hg hu hd hi, Result.andThen]
section
variable {L : Nat → Prop} {w w' : World} {p gl gm : Nat} {hv : Value} {Dm : DataW Unit} {D D' : DS}
theorem DiskAt.lastRange (h : DiskAt L w p gl gm hv Dm D) (i : Nat) (hi : i < D.lasts.length) : w.rangeAt gl (i * 128) ((D.lasts.getD i []).map bv) := by
  have hr := h.las
  have hl := flat_length D.lasts h.good.rows
  rw [← flat_mid D.lasts h.good.rows i hi]
  exact row_range hr (i * 128) 128 (by rw [List.length_map, hl]; omega)
theorem DiskAt.lastThere (h : DiskAt L w p gl gm hv Dm D) (i : Nat) (hi : i < D.lasts.length) : w.there gl (i * 128) 128 := by
  have hl := flat_length D.lasts h.good.rows
  exact row_thereK h.las (i * 128) 128 (by rw [List.length_map, hl]; omega)
theorem getD_len {l : List (List UInt8)} (h : ∀ b ∈ l, b.length = 128) {i : Nat} (hi : i < l.length) : (l.getD i []).length = 128 :=
  h _ (by rw [List.getD_eq_getElem?_getD, List.getElem?_eq_getElem hi]; simp)

set_option maxRecDepth 20000 in
set_option maxHeartbeats 1000000 in
theorem Lasts_any (h : DiskAt L w p gl gm hv Dm D) (i : Nat) (hi : i < D.lasts.length) :
    Calls Tryz.prog 55 #[.pointer (some ⟨p, 0, none⟩), .int .i64 i] w fun e w' => e = .returned (blkV (D.lasts.getD i [])) ∧ Below w.heap.size w w' := by
  have hz := (zero_of_info zB_info).1
  have hT : thereB D i = true := by unfold thereB; rw [decide_eq_true (by omega), decide_eq_true (by omega)]; rfl
  have B0 := (Below.refl w.heap.size w).alloc (Nat.le_refl _) (.cells zB.toArray 90)
  have h1 := h.below B0
  have r0 := Row.new w 90 zB
  have HTH := Lib.hid (there_any h1 i)
  rw [hT] at HTH
  obtain ⟨C, hC⟩ : ∃ C, (D.lasts.getD i []).map bv = C := ⟨_, rfl⟩
  have hsz := blk_sizeK _ (getD_len h.good.rows hi)
  have hone : C.toArray.all (·.oneCell') = true := by rw [← hC]; exact blkV_one _
  have hlen : C.length = 128 := by rw [← hC, List.length_map, getD_len h.good.rows hi]
  have hrng := h1.lastRange i hi
  rw [hC] at hrng hsz
  have hfin : blkV (D.lasts.getD i []) = .agg C.toArray := by unfold blkV; rw [hC]
  rw [hfin]
  have c0 := h1.row.cell 0
  simp only [List.getElem?_cons_zero] at c0
  have hiI : (i : Int) < (D.lasts.length : Nat) := by omega
  have HS := Lib.hid (And.intro B0 (And.intro r0 (And.intro hrng (And.intro hsz (And.intro hone (And.intro hlen c0))))))
  clear h h1 hT hi hC hfin B0 r0 hrng hsz hone hlen c0
  go_enter Tryz.func55, Tryz.ntmps55
  go_wp2_with fail
  refine HTH.out.mono ?_
  rintro e w1 ⟨rfl, rfl⟩
  obtain ⟨B0, r0, hrng, hsz, hone, hlen, c0⟩ := HS.out
  clear HTH HS
  generalize w.alloc (.cells zB.toArray 90) = w1 at B0 r0 hrng c0 ⊢
  obtain ⟨g, hg⟩ : ∃ g, w.heap.size = g := ⟨_, rfl⟩
  rw [hg] at r0 B0 ⊢
  have HB := Lib.hid B0
  have HGE := Lib.hid hg
  have HR := Lib.hid (And.intro hrng (And.intro r0 (And.intro hone (And.intro hsz hlen))))
  clear hg B0 hrng r0 hone hsz hlen
  go_wp2_with (first
    | (with_reducible refine wpList_load_mid rfl 90 (.tmp 15) rfl gl (i * 128) rfl C _ HR.out.1 Tryz.underlying90 rfl HR.out.2.2.2.1 ?_)
    | (refine wpList_store_row rfl 90 (.tmp 4) (.tmp 16) rfl g C.toArray rfl rfl 90 zB.toArray HR.out.2.1 (by rw [List.size_toArray]; exact HR.out.2.2.2.1) (by rw [List.size_toArray, List.size_toArray, zB_len, HR.out.2.2.2.2]) HR.out.2.2.1 ?_))
  have hp := HR.out.2.1.put C
  have hq := below_setRow (B := g) HB.out (Nat.le_refl _) C.toArray
  refine bodyPost_ret (v := .agg C.toArray) (results_cell_row rfl _ _ g 90 C.toArray (0, 0) _ rfl hp Tryz.underlying90 rfl (by rw [List.size_toArray]; exact HR.out.2.2.2.1)) rfl ⟨rfl, ?_⟩
  rw [HGE.out]
  exact hq

theorem DiskAt.hangRange (h : DiskAt L w p gl gm hv Dm D) (i : Nat) (x : Nat × List UInt8) (hx : D.hangs[i]? = some x) :
    ∃ g cap, hv = .slice (some ⟨g, 0, none⟩) D.hangs.length cap ∧ w.rangeAt g (i * 129 + 1) (x.2.map bv) ∧ i < D.hangs.length ∧ x.2.length = 128 := by
  have hil : i < D.hangs.length := (List.getElem?_eq_some_iff.1 hx).1
  have hxl : x.2.length = 128 := h.good.blks x (List.mem_of_getElem? hx)
  obtain ⟨g, cap, e, _, hlt⟩ := h.han.form (by omega)
  subst e
  refine ⟨g, cap, rfl, fun j v hj => ?_, hil, hxl⟩
  have hj' : j < 128 := by rw [← hxl]; have := (List.getElem?_eq_some_iff.1 hj).1; simpa using this
  have hg := wcs_get D.hangs h.good.blks i (1 + j) x hx (by omega)
  have hc := h.han.cells (g := g) rfl (i * 129 + (1 + j)) v (by
    rw [hg]
    unfold wcells
    rw [Nat.add_comm 1 j, List.getElem?_cons_succ]
    exact hj)
  rw [show i * 129 + 1 + j = i * 129 + (1 + j) by omega]
  simpa [Addr.add_mid] using hc

theorem lit_inj {q : IntKind} {a b : Int} (h : (DataW.lit (.int q a) : DataW Unit) = .lit (.int q b)) : a = b := by
  simpa using h
theorem zero_int (w : World) : (zeroValue 3).run Tryz.prog w = .ok (.int .i64 0) w := by kernel_rfl

set_option maxRecDepth 20000 in
set_option maxHeartbeats 1000000 in
theorem Read_no (h : DiskAt L w p gl gm hv Dm D) (at' : Int) (hf : D.fault at' ≠ 0) :
    Calls Tryz.prog 56 #[.pointer (some ⟨p, 0, none⟩), .int .i64 at'] w fun e w' => e = .returned (.tuple #[blkV (D.read at'), .int .i64 (D.fault at')]) ∧ Below w.heap.size w w' := by
  have hz := (zero_of_info zB_info).1
  have B0 := (Below.refl w.heap.size w).alloc (Nat.le_refl _) (.cells zB.toArray 90)
  have h1 := h.below B0
  have r0 := Row.new w 90 zB
  have HTH := Lib.hid (fault_any h1 at')
  have hfin : blkV (D.read at') = .agg zB.toArray := by unfold DS.read; rw [if_neg hf]; unfold blkV; rw [zB_eq]
  rw [hfin]
  obtain ⟨F, hF⟩ : ∃ F, D.fault at' = F := ⟨_, rfl⟩
  rw [hF] at HTH hf ⊢
  have hfb : ((F : Int) != 0) = true := by simpa using hf
  have HS := Lib.hid (And.intro B0 r0)
  clear h h1 hfin B0 r0 hf hF
  go_enter Tryz.func56, Tryz.ntmps56
  go_wp2_with fail
  refine HTH.out.mono ?_
  rintro e w1 ⟨rfl, rfl⟩
  obtain ⟨B0, r0⟩ := HS.out
  clear HTH HS
  generalize w.alloc (.cells zB.toArray 90) = w1 at B0 r0 ⊢
  obtain ⟨g, hg⟩ : ∃ g, w.heap.size = g := ⟨_, rfl⟩
  rw [hg] at r0 B0 ⊢
  have HB := Lib.hid B0
  have HGE := Lib.hid hg
  have HR := Lib.hid r0
  clear hg B0 r0
  go_wp2_with (first
    | (refine wpList_store_row rfl 90 (.tmp 4) (.tmp 14) rfl g zB.toArray rfl rfl 90 zB.toArray HR.out (by kernel_rfl) rfl zB_one ?_))
  have hp := HR.out.put zB
  have hq := below_setRow (B := g) HB.out (Nat.le_refl _) zB.toArray
  refine bodyPost_ret (v := .tuple #[.agg zB.toArray, .int .i64 F]) (results_row_tmp rfl _ _ g 90 zB.toArray (0, 0) _ rfl hp Tryz.underlying90 rfl (by kernel_rfl) _ rfl) rfl ⟨rfl, ?_⟩
  rw [HGE.out]
  exact hq
set_option maxRecDepth 20000 in
set_option maxHeartbeats 1000000 in
theorem Read_some (h : DiskAt L w p gl gm hv Dm D) (at' : Int) (hf : D.fault at' = 0) (i : Nat) (x : Nat × List UInt8) (hl : lastAt D.hangs at' = some i) (hx : D.hangs[i]? = some x) :
    Calls Tryz.prog 56 #[.pointer (some ⟨p, 0, none⟩), .int .i64 at'] w fun e w' => e = .returned (.tuple #[blkV (D.read at'), .int .i64 (D.fault at')]) ∧ Below w.heap.size w w' := by
  have hz := (zero_of_info zB_info).1
  have B0 := (Below.refl w.heap.size w).alloc (Nat.le_refl _) (.cells zB.toArray 90)
  have h1 := h.below B0
  have r0 := Row.new w 90 zB
  have HTH := Lib.hid (fault_any h1 at')
  rw [hf] at HTH ⊢
  have hbnd : 0 ≤ at' ∧ at' < (D.lasts.length : Nat) := by
    unfold DS.fault at hf
    split at hf
    · cases hf
    · split at hf
      · assumption
      · cases hf
  have h4096 := h.good.most
  have hrd : D.read at' = x.2 := by unfold DS.read; rw [if_pos hf]; unfold DS.blk; rw [hl]; simp [List.getD, hx]
  obtain ⟨gh, cap, rfl, hrng, hil, hbl⟩ := h1.hangRange i x hx
  have hhas : Maps.has Dm (.int .i64 at') = true := by rw [(h.new at').1, hl]; rfl
  have hat : ∀ z, Dm.atKey (.int .i64 at') z = .lit (.int .i64 (i : Nat)) := (h.new at').2 i hl
  have c1 := h1.row.cell 1
  have hilI : (i : Int) < (D.hangs.length : Nat) := by omega
  have c2 := h1.row.cell 2
  simp only [List.getElem?_cons_zero, List.getElem?_cons_succ] at c1 c2
  have hmap := h1.mp
  have hwf : (Lit.int .i64 at').wf = true := by simp [Lit.wf, IntKind.min, IntKind.max, IntKind.signed, IntKind.bits]; omega
  have hkey : keyOf Tryz.prog 3 (.int .i64 at') = some (.int .i64 at') := keyOf_int_mk Tryz.underlying3 hwf
  obtain ⟨C, hC⟩ : ∃ C, x.2.map bv = C := ⟨_, rfl⟩
  have hsz := blk_sizeK _ hbl
  have hone : C.toArray.all (·.oneCell') = true := by rw [← hC]; exact blkV_one _
  have hlen : C.length = 128 := by rw [← hC, List.length_map, hbl]
  rw [hC] at hrng hsz
  have hfin : blkV (D.read at') = .agg C.toArray := by unfold blkV; rw [hrd, hC]
  rw [hfin]
  have HAT := Lib.hid hat
  have HS := Lib.hid (And.intro B0 (And.intro r0 (And.intro hrng (And.intro hsz (And.intro hone (And.intro hlen (And.intro c1 (And.intro c2 hmap))))))))
  have HK := Lib.hid hkey
  clear h h1 hf hl hC hfin B0 r0 hrng hsz hone hlen c1 c2 hmap hkey hwf hrd hbl h4096 hx hat hil
  go_enter Tryz.func56, Tryz.ntmps56
  go_wp2_with fail
  refine HTH.out.mono ?_
  rintro e w1 ⟨rfl, rfl⟩
  obtain ⟨B0, r0, hrng, hsz, hone, hlen, c1, c2, hmap⟩ := HS.out
  clear HTH HS
  generalize w.alloc (.cells zB.toArray 90) = w1 at B0 r0 hrng c1 c2 hmap ⊢
  obtain ⟨g, hg⟩ : ∃ g, w.heap.size = g := ⟨_, rfl⟩
  rw [hg] at r0 B0 ⊢
  have HB := Lib.hid B0
  have HGE := Lib.hid hg
  have HM := Lib.hid hmap
  have HR := Lib.hid (And.intro hrng (And.intro r0 (And.intro hone (And.intro hsz hlen))))
  clear hg B0 hrng r0 hone hsz hlen hmap
  go_wp2_with (first
    | (at_lookup; refine wpList_lookup_own_ok_int _ rfl (.tmp 20) (.tmp 21) 78 rfl 3 3 .i64 (int_keyed Tryz.underlying3) Tryz.underlying78 Tryz.underlying3 (zero_int _) gm _ Dm rfl HM.out _ _ rfl HK.out ?_; intro c hat hwc; obtain rfl : c = (i : Int) := lit_inj (hat.symm.trans (HAT.out _)); clear hat hwc)
    | (with_reducible refine wpList_load_mid rfl 90 (.tmp 32) rfl gh (i * 129 + 1) rfl C _ HR.out.1 Tryz.underlying90 rfl HR.out.2.2.2.1 ?_)
    | (refine wpList_store_row rfl 90 (.tmp 4) (.tmp 33) rfl g C.toArray rfl rfl 90 zB.toArray HR.out.2.1 (by rw [List.size_toArray]; exact HR.out.2.2.2.1) (by rw [List.size_toArray, List.size_toArray, zB_len, HR.out.2.2.2.2]) HR.out.2.2.1 ?_))
  have hp := HR.out.2.1.put C
  have hq := below_setRow (B := g) HB.out (Nat.le_refl _) C.toArray
  refine bodyPost_ret (v := .tuple #[.agg C.toArray, .int .i64 0]) (results_row_tmp rfl _ _ g 90 C.toArray (0, 0) _ rfl hp Tryz.underlying90 rfl (by rw [List.size_toArray]; exact HR.out.2.2.2.1) _ rfl) rfl ⟨rfl, ?_⟩
  rw [HGE.out]
  exact hq

set_option maxRecDepth 20000 in
set_option maxHeartbeats 1000000 in
theorem Read_none (h : DiskAt L w p gl gm hv Dm D) (at' : Int) (hf : D.fault at' = 0) (hl : lastAt D.hangs at' = none) :
    Calls Tryz.prog 56 #[.pointer (some ⟨p, 0, none⟩), .int .i64 at'] w fun e w' => e = .returned (.tuple #[blkV (D.read at'), .int .i64 (D.fault at')]) ∧ Below w.heap.size w w' := by
  have hz := (zero_of_info zB_info).1
  have B0 := (Below.refl w.heap.size w).alloc (Nat.le_refl _) (.cells zB.toArray 90)
  have h1 := h.below B0
  have r0 := Row.new w 90 zB
  have HTH := Lib.hid (fault_any h1 at')
  rw [hf] at HTH ⊢
  have hbnd : 0 ≤ at' ∧ at' < (D.lasts.length : Nat) := by
    unfold DS.fault at hf
    split at hf
    · cases hf
    · split at hf
      · assumption
      · cases hf
  have h4096 := h.good.most
  have hrd : D.read at' = D.lasts.getD at'.toNat [] := by unfold DS.read; rw [if_pos hf]; unfold DS.blk; rw [hl]
  have hil : at'.toNat < D.lasts.length := by omega
  have hrng := h1.lastRange at'.toNat hil
  have hbl := getD_len h.good.rows hil
  have hhas : Maps.has Dm (.int .i64 at') = false := by rw [(h.new at').1, hl]; rfl
  have c1 := h1.row.cell 0
  have hatI : ((at'.toNat : Nat) : Int) = at' := by omega
  have c2 := h1.row.cell 2
  simp only [List.getElem?_cons_zero, List.getElem?_cons_succ] at c1 c2
  have hmap := h1.mp
  have hwf : (Lit.int .i64 at').wf = true := by simp [Lit.wf, IntKind.min, IntKind.max, IntKind.signed, IntKind.bits]; omega
  have hkey : keyOf Tryz.prog 3 (.int .i64 at') = some (.int .i64 at') := keyOf_int_mk Tryz.underlying3 hwf
  obtain ⟨C, hC⟩ : ∃ C, (D.lasts.getD at'.toNat []).map bv = C := ⟨_, rfl⟩
  have hsz := blk_sizeK _ hbl
  have hone : C.toArray.all (·.oneCell') = true := by rw [← hC]; exact blkV_one _
  have hlen : C.length = 128 := by rw [← hC, List.length_map, hbl]
  rw [hC] at hrng hsz
  have hfin : blkV (D.read at') = .agg C.toArray := by unfold blkV; rw [hrd, hC]
  rw [hfin]
  obtain ⟨k, hk⟩ : ∃ k, at'.toNat = k := ⟨_, rfl⟩
  rw [hk] at hatI hrng
  subst hatI
  have hkI : (k : Int) < (D.lasts.length : Nat) := by omega
  have HS := Lib.hid (And.intro B0 (And.intro r0 (And.intro hrng (And.intro hsz (And.intro hone (And.intro hlen (And.intro c1 (And.intro c2 hmap))))))))
  have HK := Lib.hid hkey
  clear h h1 hf hl hC hfin B0 r0 hrng hsz hone hlen c1 c2 hmap hkey hwf hrd hbl h4096 hil hk
  go_enter Tryz.func56, Tryz.ntmps56
  go_wp2_with fail
  refine HTH.out.mono ?_
  rintro e w1 ⟨rfl, rfl⟩
  obtain ⟨B0, r0, hrng, hsz, hone, hlen, c1, c2, hmap⟩ := HS.out
  clear HTH HS
  generalize w.alloc (.cells zB.toArray 90) = w1 at B0 r0 hrng c1 c2 hmap ⊢
  obtain ⟨g, hg⟩ : ∃ g, w.heap.size = g := ⟨_, rfl⟩
  rw [hg] at r0 B0 ⊢
  have HB := Lib.hid B0
  have HGE := Lib.hid hg
  have HM := Lib.hid hmap
  have HR := Lib.hid (And.intro hrng (And.intro r0 (And.intro hone (And.intro hsz hlen))))
  clear hg B0 hrng r0 hone hsz hlen hmap
  go_wp2_with (first
    | (at_lookup; refine wpList_lookup_own_ok_int _ rfl (.tmp 20) (.tmp 21) 78 rfl 3 3 .i64 (int_keyed Tryz.underlying3) Tryz.underlying78 Tryz.underlying3 (zero_int _) gm _ Dm rfl HM.out _ _ rfl HK.out ?_; intro c hat hwc; clear hat hwc)
    | (with_reducible refine wpList_load_mid rfl 90 (.tmp 39) rfl gl (k * 128) rfl C _ HR.out.1 Tryz.underlying90 rfl HR.out.2.2.2.1 ?_)
    | (refine wpList_store_row rfl 90 (.tmp 4) (.tmp 40) rfl g C.toArray rfl rfl 90 zB.toArray HR.out.2.1 (by rw [List.size_toArray]; exact HR.out.2.2.2.1) (by rw [List.size_toArray, List.size_toArray, zB_len, HR.out.2.2.2.2]) HR.out.2.2.1 ?_))
  have hp := HR.out.2.1.put C
  have hq := below_setRow (B := g) HB.out (Nat.le_refl _) C.toArray
  refine bodyPost_ret (v := .tuple #[.agg C.toArray, .int .i64 0]) (results_row_tmp rfl _ _ g 90 C.toArray (0, 0) _ rfl hp Tryz.underlying90 rfl (by rw [List.size_toArray]; exact HR.out.2.2.2.1) _ rfl) rfl ⟨rfl, ?_⟩
  rw [HGE.out]
  exact hq

theorem Read_any (h : DiskAt L w p gl gm hv Dm D) (at' : Int) :
    Calls Tryz.prog 56 #[.pointer (some ⟨p, 0, none⟩), .int .i64 at'] w fun e w' => e = .returned (.tuple #[blkV (D.read at'), .int .i64 (D.fault at')]) ∧ Below w.heap.size w w' := by
  by_cases hf : D.fault at' = 0
  · cases hl : lastAt D.hangs at' with
    | none => exact Read_none h at' hf hl
    | some i =>
      obtain ⟨x, hx, _⟩ := lastAt_some hl
      exact Read_some h at' hf i x hl hx
  · exact Read_no h at' hf
end
end Go.Proofs.YtiaaeniopjpfpaaGreatDoor
