/- A slice of texts. (In one text with what it leans on: QRead, QWrite, KSettle, QSync, QCrash, KActs2, QPair, LPy1, LPy2, BuildOf, RK, Buf, RPad, RSB, RS13, RS22, RSum, RText, Cref, LRef, LRWr, FStrs.) -/
import Derived.SizedLaws
import Derived.Great.BuildSlice
import Derived.Lib.BufSteps
import Derived.Lib.ConvBytes
import Derived.OwnWalk
import Derived.Deep.OwnRows
import Derived.Deep.RegionHeld3
import Derived.WalkKit
import Derived.WalkSpells
import Derived.WalkLawsBesides
import Derived.Lib.Hide
import Derived.Deep.AppendLies
import Derived.Test.YtiaaeniopjpfpaaGreatDoorLogPlaysAll1
import Derived.Test.YtiaaeniopjpfpaaGreatDoorKCrash
import Derived.Test.YtiaaeniopjpfpaaGreatDoorKQuiet
import Derived.Test.YtiaaeniopjpfpaaGreatDoorKFill
import Derived.Test.YtiaaeniopjpfpaaGreatDoorKActs
import Derived.Test.YtiaaeniopjpfpaaGreatDoorKLoop
import Derived.Test.YtiaaeniopjpfpaaGreatDoorSSch
import Derived.Test.YtiaaeniopjpfpaaGreatDoorSPlain
import Derived.Test.YtiaaeniopjpfpaaGreatDoorMem
import Derived.Test.YtiaaeniopjpfpaaGreatDoorSBlocks
import Derived.Test.YtiaaeniopjpfpaaGreatDoorTail
import Derived.Test.YtiaaeniopjpfpaaGreatDoorSRnd
import Derived.Test.YtiaaeniopjpfpaaGreatDoorSText
import Derived.Test.YtiaaeniopjpfpaaGreatDoorSMix
import Derived.Test.YtiaaeniopjpfpaaGreatDoorCsum
import Derived.Test.YtiaaeniopjpfpaaGreatDoorLHead
namespace Go.Proofs.YtiaaeniopjpfpaaGreatDoor
open Go.RowKit Go.Maps
set_option linter.unusedVariables false
set_option linter.unusedSimpArgs false

theorem rW_info : (Tryz.prog.info? 136).map (fun i => (i.zero, i.size)) = some (some (.agg (.int .i64 0 :: zW).toArray), 129) := by kernel_rfl
theorem rW_size : (Tryz.prog.info? 136).map (·.size) = some 129 := by kernel_rfl
/-- What is read, of the first writes. -/
def blkOf (D : DS) (l : List (Nat × List UInt8)) (k : Int) : List UInt8 := match lastAt l k with
  | some i => (D.hangs.getD i (0, [])).2
  | none => D.lasts.getD k.toNat []
theorem blkOf_nil (D : DS) (k : Int) : blkOf D [] k = D.lasts.getD k.toNat [] := rfl
theorem take_one {α : Type} (l : List α) (k : Nat) (x : α) (h : l[k]? = some x) : l.take (k + 1) = l.take k ++ [x] := by
  have hk := (List.getElem?_eq_some_iff.1 h).1
  rw [List.take_succ_eq_append_getElem hk]
  congr 2
  exact (List.getElem?_eq_some_iff.1 h).2
theorem blkOf_hit (D : DS) (k : Nat) (x : Nat × List UInt8) (at' : Int) (h : D.hangs[k]? = some x) (hx : (x.1 : Int) = at') : blkOf D (D.hangs.take (k + 1)) at' = x.2 := by
  have hk := (List.getElem?_eq_some_iff.1 h).1
  unfold blkOf
  rw [take_one _ _ _ h, lastAt_snoc, if_pos hx, List.length_take, Nat.min_eq_left (by omega)]
  simp [List.getD, h]
theorem blkOf_miss (D : DS) (k : Nat) (x : Nat × List UInt8) (at' : Int) (h : D.hangs[k]? = some x) (hx : (x.1 : Int) ≠ at') : blkOf D (D.hangs.take (k + 1)) at' = blkOf D (D.hangs.take k) at' := by
  unfold blkOf
  rw [take_one _ _ _ h, lastAt_snoc, if_neg hx]
theorem blkOf_all (D : DS) (at' : Int) (n : Nat) (hn : D.hangs.length = n) : blkOf D (D.hangs.take n) at' = D.blk at' := by
  unfold blkOf DS.blk
  rw [List.take_of_length_le (by omega)]
  rfl
theorem blkOf_len (D : DS) (hD : D.ok) (l : List (Nat × List UInt8)) (at' : Int) (h0 : 0 ≤ at') (h1 : at' < (D.lasts.length : Nat)) (hl : ∀ i, lastAt l at' = some i → i < D.hangs.length) : (blkOf D l at').length = 128 := by
  unfold blkOf
  split
  · rename_i i hi
    have := hl i hi
    rw [List.getD_eq_getElem?_getD, List.getElem?_eq_getElem this]
    exact hD.blks _ (List.getElem_mem this)
  · exact getD_len hD.rows (by omega)
section
variable {L : Nat → Prop} {w w' : World} {p gl : Nat} {hv : Value} {D D' : DS}

set_option maxRecDepth 20000 in
set_option maxHeartbeats 1000000 in
theorem RRead_no (h : RefAt L w p gl hv D) (at' : Int) (hf : D.fault at' ≠ 0) :
    Calls Tryz.prog 57 #[.pointer (some ⟨p, 0, none⟩), .int .i64 at'] w fun e w' => e = .returned (.tuple #[blkV (D.read at'), .int .i64 (D.fault at')]) ∧ Below w.heap.size w w' := by
  have hz := (zero_of_info zB_info).1
  have B0 := (Below.refl w.heap.size w).alloc (Nat.le_refl _) (.cells zB.toArray 90)
  have h1 := h.below B0
  have r0 := Row.new w 90 zB
  have hfin : blkV (D.read at') = .agg zB.toArray := by unfold DS.read; rw [if_neg hf]; unfold blkV; rw [zB_eq]
  rw [hfin]
  have c0 := h1.row.cell 0
  have c4 := h1.row.cell 4
  simp only [List.getElem?_cons_zero, List.getElem?_cons_succ] at c0 c4
  obtain ⟨nl, hnl⟩ : ∃ nl, D.lasts.length = nl := ⟨_, rfl⟩
  rw [hnl] at c0
  have hD : (D.down = true ∧ D.fault at' = 13) ∨ (D.down = false ∧ D.fault at' = 2 ∧ (at' < 0 ∨ (nl : Int) ≤ at')) := by
    unfold DS.fault at hf ⊢
    cases hdn : D.down with
    | true => exact .inl ⟨rfl, by simp⟩
    | false =>
      rw [hdn] at hf
      simp only [Bool.false_eq_true, if_false] at hf ⊢
      split at hf
      · exact absurd rfl hf
      · rename_i hn
        exact .inr ⟨trivial, by rw [if_neg hn], by omega⟩
  have fin : Hid (∀ (tmps : Array Value) (dl : List (Value × Array Value)), True) := Lib.hid fun _ _ => trivial
  have HS := Lib.hid (And.intro B0 r0)
  clear h h1 hfin B0 r0 hf hnl fin
  rcases hD with ⟨hdn, hF⟩ | ⟨hdn, hF, hlow | hhigh⟩
  · rw [hF]
    rw [hdn] at c4
    clear hdn hF
    go_enter Tryz.func57, Tryz.ntmps57
    go_wp2_with (first
      | (refine wpList_store_row rfl 90 (.tmp 4) (.tmp 13) rfl w.heap.size zB.toArray rfl rfl 90 zB.toArray HS.out.2 (by kernel_rfl) rfl zB_one ?_))
    have hp := HS.out.2.put zB
    have hq := below_setRow (B := w.heap.size) HS.out.1 (Nat.le_refl _) zB.toArray
    exact bodyPost_ret (v := .tuple #[.agg zB.toArray, .int .i64 13]) (results_row_tmp rfl _ _ w.heap.size 90 zB.toArray (0, 0) _ rfl hp Tryz.underlying90 rfl (by kernel_rfl) _ rfl) rfl ⟨rfl, hq⟩
  · rw [hF]
    rw [hdn] at c4
    clear hdn hF
    go_enter Tryz.func57, Tryz.ntmps57
    go_wp2_with (first
      | (refine wpList_store_row rfl 90 (.tmp 4) (.tmp 25) rfl w.heap.size zB.toArray rfl rfl 90 zB.toArray HS.out.2 (by kernel_rfl) rfl zB_one ?_))
    have hp := HS.out.2.put zB
    have hq := below_setRow (B := w.heap.size) HS.out.1 (Nat.le_refl _) zB.toArray
    exact bodyPost_ret (v := .tuple #[.agg zB.toArray, .int .i64 2]) (results_row_tmp rfl _ _ w.heap.size 90 zB.toArray (0, 0) _ rfl hp Tryz.underlying90 rfl (by kernel_rfl) _ rfl) rfl ⟨rfl, hq⟩
  · rw [hF]
    rw [hdn] at c4
    have hlow : ¬ at' < 0 := by omega
    clear hdn hF
    go_enter Tryz.func57, Tryz.ntmps57
    go_wp2_with (first
      | (refine wpList_store_row rfl 90 (.tmp 4) (.tmp 25) rfl w.heap.size zB.toArray rfl rfl 90 zB.toArray HS.out.2 (by kernel_rfl) rfl zB_one ?_))
    have hp := HS.out.2.put zB
    have hq := below_setRow (B := w.heap.size) HS.out.1 (Nat.le_refl _) zB.toArray
    exact bodyPost_ret (v := .tuple #[.agg zB.toArray, .int .i64 2]) (results_row_tmp rfl _ _ w.heap.size 90 zB.toArray (0, 0) _ rfl hp Tryz.underlying90 rfl (by kernel_rfl) _ rfl) rfl ⟨rfl, hq⟩

/-- A write laid into a new block of its own. -/
structure CopyF (wr : World) (x : Nat × List UInt8) (WC : List Value) : Prop where
  eq : wcells x = WC
  size : (Tryz.prog.info? 136).map (·.size) = some WC.length
  one : WC.toArray.all (·.oneCell') = true
  len : WC.length = 129
  z129 : (Value.int IntKind.i64 0 :: zW).length = 129
  row0 : Row (wr.alloc (.cells (.int .i64 0 :: zW).toArray 136)) wr.heap.size 136 (.int .i64 0 :: zW)
  row : Row ((wr.alloc (.cells (.int .i64 0 :: zW).toArray 136)).setRow wr.heap.size WC.toArray) wr.heap.size 136 WC
  bel : Below wr.heap.size wr ((wr.alloc (.cells (.int .i64 0 :: zW).toArray 136)).setRow wr.heap.size WC.toArray)
theorem copyF (wr : World) (x : Nat × List UInt8) (hx : x.2.length = 128) : ∃ WC, CopyF wr x WC := by
  have rq0 := Row.new wr 136 (.int .i64 0 :: zW)
  refine ⟨wcells x, rfl, by rw [wcells_length hx]; exact rW_size, ?_, wcells_length hx, by simp [zW], rq0, rq0.put _, below_setRow (B := wr.heap.size) ((Below.refl wr.heap.size wr).alloc (Nat.le_refl _) _) (Nat.le_refl _) _⟩
  rw [Array.all_eq_true_iff_forall_mem]
  intro v hv
  have hv2 : v ∈ wcells x := by simpa using hv
  exact wcs_one [x] v (by simpa [wcs] using hv2)
/-- The k-th write, where its block is as it was. -/
theorem RefAt.nth {a : Option Addr} {n c : Nat} {wr : World} (h : RefAt L w p gl (.slice a n c) D) (k : Nat) (x : Nat × List UInt8) (hx : D.hangs[k]? = some x) (hk : ∀ g, g < w.heap.size → g ≠ gl → wr.heap[g]? = w.heap[g]?) :
    ∃ gh, a = some ⟨gh, 0, none⟩ ∧ wr.rangeAt gh (k * 129) (wcells x) := by
  obtain ⟨gh, rfl, hr, hne⟩ := h.hangWhole k x hx
  refine ⟨gh, rfl, fun j v hj => ?_⟩
  rw [World.cell?_of_block (hk gh (own_blk_lt h.han rfl) hne)]
  exact hr j v hj
/-- The loop's relation: what is read so far lies in the block g. -/
structure RdR (w : World) (g : Nat) (D : DS) (at' : Int) (k : Nat) (wr : World) : Prop where
  row : Row wr g 90 ((blkOf D (D.hangs.take k) at').map bv)
  res : Row wr w.heap.size 90 zB
  bel : Below w.heap.size w wr

set_option maxRecDepth 20000 in
set_option maxHeartbeats 1000000 in
theorem RRead_ok (h : RefAt L w p gl hv D) (at' : Int) (hf : D.fault at' = 0) (hh : D.hangs.length < 1000000000) :
    Calls Tryz.prog 57 #[.pointer (some ⟨p, 0, none⟩), .int .i64 at'] w fun e w' => e = .returned (.tuple #[blkV (D.read at'), .int .i64 (D.fault at')]) ∧ Below w.heap.size w w' := by
  have hz := (zero_of_info zB_info).1
  have hz9 := (zero_of_info rW_info).1
  obtain ⟨hdn, h0, h1'⟩ := fault_zero hf
  have h4096 := h.good.most
  obtain ⟨k0, rfl⟩ := Int.eq_ofNat_of_zero_le h0
  have hk0 : k0 < D.lasts.length := by omega
  obtain ⟨a, c, rfl⟩ := own_slice h.han
  have B0 := (Below.refl w.heap.size w).alloc (Nat.le_refl _) (.cells zB.toArray 90)
  have B1 := B0.alloc (by simp) (.cells zB.toArray 90)
  have r0 := Row.new w 90 zB
  have r1 := Row.new (w.alloc (.cells zB.toArray 90)) 90 zB
  have r01 := r0.alloc (.cells zB.toArray 90)
  have e1 : (w.alloc (.cells zB.toArray 90)).heap.size = w.heap.size + 1 := by simp
  rw [e1] at r1
  have h1 := h.below B0
  have hrng := h1.lastRange k0 hk0
  have hbl := getD_len h.good.rows hk0
  have hrd : D.read k0 = D.blk k0 := by unfold DS.read; rw [if_pos hf]
  obtain ⟨n, hn⟩ : ∃ n, D.hangs.length = n := ⟨_, rfl⟩
  obtain ⟨nl, hnl⟩ : ∃ nl, D.lasts.length = nl := ⟨_, rfl⟩
  obtain ⟨RC, HRC⟩ : ∃ RC, Hid (RC = [Value.slice (some ⟨gl, 0, none⟩) nl nl, .slice a n c, .int .i64 (D.steps : Nat), .int .i64 D.fuse, .bool false]) := ⟨_, Lib.hid rfl⟩
  have hrow : Row w p 45 RC := by have := h.row; rw [HRC.out, ← hn, ← hnl, ← hdn]; exact this
  have c0 := h1.row.cell 0
  have c4 := h1.row.cell 4
  simp only [List.getElem?_cons_zero, List.getElem?_cons_succ] at c0 c4
  rw [hnl] at c0
  rw [hdn] at c4
  obtain ⟨C, hC⟩ : ∃ C, (D.lasts.getD k0 []).map bv = C := ⟨_, rfl⟩
  have hsz := blk_sizeK _ hbl
  have hone : C.toArray.all (·.oneCell') = true := by rw [← hC]; exact blkV_one _
  have hlen : C.length = 128 := by rw [← hC, List.length_map, hbl]
  rw [hC] at hrng hsz
  have HR := Lib.hid (And.intro hrng (And.intro hsz (And.intro hone (And.intro hlen r1))))
  have HAFT : Hid (RdR w (w.heap.size + 1) D k0 0 (((w.alloc (.cells zB.toArray 90)).alloc (.cells zB.toArray 90)).setRow (w.heap.size + 1) C.toArray)) := Lib.hid
    ⟨by rw [List.take_zero, blkOf_nil, Int.toNat_natCast, hC]; exact r1.put C, r01.put_far (by omega) _, below_setRow (B := w.heap.size) B1 (by omega) _⟩
  have hnI : (n : Int) < 1000000000 := by omega
  obtain ⟨Z, hZ⟩ : ∃ Z, zB = Z := ⟨_, rfl⟩
  have hZl : Z.length = 128 := by rw [← hZ]; exact zB_len
  rw [hZ] at hz HR HAFT c0 c4
  have HZ := Lib.hid (And.intro hZ hZl)
  have hk0I : (k0 : Int) < (nl : Int) := by omega
  have hk00 : ¬ (k0 : Int) < 0 := by omega
  have hge : ¬ (nl : Int) ≤ (k0 : Int) := by omega
  have H := Lib.hid (And.intro h (And.intro hn (And.intro hrow (And.intro hrd (And.intro hf (And.intro hk0 hnl))))))
  rw [hrd, hf]
  clear h h1 B0 B1 r0 r1 r01 e1 hrng hbl hC hsz hone hlen hrd hn hh hf hnl hrow h0 h1' h4096 hk0 hdn hZ hZl
  go_enter Tryz.func57, Tryz.ntmps57
  go_wp2_with (first
    | (with_reducible refine wpList_load_mid rfl 90 (.tmp 31) rfl gl (k0 * 128) rfl C _ HR.out.1 Tryz.underlying90 rfl HR.out.2.1 ?_)
    | (refine wpList_store_row rfl 90 (.tmp 6) (.tmp 32) rfl (w.heap.size + 1) C.toArray rfl rfl 90 Z.toArray HR.out.2.2.2.2 (by rw [List.size_toArray]; exact HR.out.2.1) (by rw [List.size_toArray, List.size_toArray, HZ.out.2, HR.out.2.2.2.1]) HR.out.2.2.1 ?_; have hAFT := HAFT.out; clear HAFT HR; generalize ((w.alloc (.cells Z.toArray 90)).alloc (.cells Z.toArray 90)).setRow (w.heap.size + 1) C.toArray = W2 at hAFT ⊢; have HAFT := Lib.hid hAFT; have c1 := (H.out.2.2.1.below hAFT.bel H.out.2.2.1.lt).cell 1; clear hAFT; simp only [HRC.out, List.getElem?_cons_zero, List.getElem?_cons_succ] at c1; clear c0 c4)
    | fail)
  go_loopw [38] (fun i wr => ∃ (k : Nat), k ≤ n ∧ i = .int .i64 k ∧ Hid (RdR w (w.heap.size + 1) D k0 k wr)) (fun i _ => n - (intOf i).toNat)
  case atStart => exact ⟨0, Nat.zero_le _, rfl, HAFT⟩
  case round =>
    obtain ⟨k, hkn, rfl, HREL⟩ := hrel
    by_cases hlt : k < n
    · have hh := H.out.1
      rw [H.out.2.1] at hh
      obtain ⟨x, hx⟩ : ∃ x, D.hangs[k]? = some x := ⟨_, List.getElem?_eq_getElem (by rw [H.out.2.1]; exact hlt)⟩
      have hxl := hh.good.blks x (List.mem_of_getElem? hx)
      obtain ⟨gh, rfl, hrng⟩ := hh.nth k x hx (wr := wr) (fun g hg _ => HREL.out.bel.block g hg)
      obtain ⟨WC, hF⟩ := copyF wr x hxl
      rw [hF.eq] at hrng
      obtain ⟨x1, hx1⟩ : ∃ x1, x.1 = x1 := ⟨_, rfl⟩
      obtain ⟨XC, hXC⟩ : ∃ XC, x.2.map bv = XC := ⟨_, rfl⟩
      have hWC : WC = .int .i64 (x1 : Nat) :: XC := by rw [← hF.eq, ← hx1, ← hXC]; rfl
      have hsz := blk_sizeK _ hxl
      have hone := blkV_one x.2
      rw [hXC] at hsz hone
      have hltI : (k : Int) < (n : Int) := by omega
      have HW := Lib.hid (And.intro hrng hF)
      have HX := Lib.hid (And.intro hx (And.intro hx1 (And.intro hXC (And.intro hxl (And.intro hWC (And.intro hlt (And.intro hsz hone)))))))
      clear hh hx hxl hrng hF hWC hx1 hXC hlt hsz hone
      have HAF : Hid (Row ((wr.alloc (.cells (.int .i64 0 :: zW).toArray 136)).setRow wr.heap.size WC.toArray) wr.heap.size 136 WC ∧ Below wr.heap.size wr ((wr.alloc (.cells (.int .i64 0 :: zW).toArray 136)).setRow wr.heap.size WC.toArray)) := Lib.hid ⟨HW.out.2.row, HW.out.2.bel⟩
      have hz9w : ∀ W : World, (zeroValue 136).run Tryz.prog W = .ok (.agg (.int .i64 0 :: zW).toArray) W := hz9
      clear c1
      by_cases heq : (x1 : Int) = (k0 : Int)
      · have heqb : ((x1 : Int) == (k0 : Int)) = true := by simpa using heq
        have HQ := Lib.hid heq
        have HG6 : Hid (∀ W : World, Below wr.heap.size wr W → Row W wr.heap.size 136 WC → W.rangeAt wr.heap.size 1 XC ∧ Row W (w.heap.size + 1) 90 ((blkOf D (D.hangs.take k) k0).map bv) ∧ ((blkOf D (D.hangs.take k) k0).map bv).length = XC.length) := Lib.hid fun W hb hr => by
          refine ⟨fun j v hj => ?_, HREL.out.row.below hb HREL.out.row.lt, ?_⟩
          · rw [hr.cell, HX.out.2.2.2.2.1, Nat.add_comm 1 j, List.getElem?_cons_succ]
            exact hj
          · rw [List.length_map, ← HX.out.2.2.1, List.length_map, HX.out.2.2.2.1]
            exact blkOf_len D H.out.1.good _ _ (by omega) (by have := H.out.2.2.2.2.2.1; omega) (fun i hi => by have := lastAt_lt hi; rw [List.length_take] at this; omega)
        clear heq
        go_wp2_with (first
          | (with_reducible refine wpList_load_mid rfl 136 (.tmp 40) rfl gh (k * 129) rfl WC _ HW.out.1 Tryz.underlying136 rfl HW.out.2.size ?_)
          | (refine wpList_store_row rfl 136 (.tmp 8) (.tmp 41) rfl wr.heap.size WC.toArray rfl rfl 136 (Value.int IntKind.i64 0 :: zW).toArray HW.out.2.row0 (by rw [List.size_toArray]; exact HW.out.2.size) (by rw [List.size_toArray, List.size_toArray, HW.out.2.len, HW.out.2.z129]) HW.out.2.one ?_; have hAF := HAF.out; clear HAF; generalize (wr.alloc (.cells (.int .i64 0 :: zW).toArray 136)).setRow wr.heap.size WC.toArray = W3 at hAF ⊢; have HAF := Lib.hid hAF; have cq := hAF.1.cell 0; rw [HX.out.2.2.2.2.1] at cq; simp only [List.getElem?_cons_zero] at cq; clear hAF)
          | (with_reducible refine wpList_load_mid rfl 90 (.tmp 46) rfl wr.heap.size 1 rfl XC _ (HG6.out _ HAF.out.2 HAF.out.1).1 Tryz.underlying90 rfl HX.out.2.2.2.2.2.2.1 ?_)
          | (refine wpList_store_row rfl 90 (.tmp 6) (.tmp 47) rfl (w.heap.size + 1) XC.toArray rfl rfl 90 ((blkOf D (D.hangs.take k) k0).map bv).toArray (HG6.out _ HAF.out.2 HAF.out.1).2.1 (by rw [List.size_toArray]; exact HX.out.2.2.2.2.2.2.1) (by rw [List.size_toArray, List.size_toArray]; exact (HG6.out _ HAF.out.2 HAF.out.1).2.2) HX.out.2.2.2.2.2.2.2 ?_)
          | fail)
        have HFIN : Hid (RdR w (w.heap.size + 1) D k0 (k + 1) (W3.setRow (w.heap.size + 1) XC.toArray)) := Lib.hid (by
          have hs := HREL.out.bel.size
          have hr0 := (HG6.out _ HAF.out.2 HAF.out.1).2.1
          have hlt0 := HREL.out.row.lt
          refine ⟨?_, ?_, ?_⟩
          · rw [blkOf_hit D k x _ HX.out.1 (by rw [HX.out.2.1]; exact HQ.out), HX.out.2.2.1]
            exact hr0.put XC
          · exact (HREL.out.res.below HAF.out.2 HREL.out.res.lt).put_far (by omega) _
          · exact below_setRow (B := w.heap.size) (HREL.out.bel.trans (HAF.out.2.mono hs)) (by omega) _)
        have hlt := HX.out.2.2.2.2.2.1
        clear HAF cq
        go_wp2_with fail
        go_roundw
        case rel => exact ⟨k + 1, by omega, by go_num, HFIN⟩
        case measure => simp [intOf]; omega
      · have heqb : ((x1 : Int) == (k0 : Int)) = false := by simpa using heq
        have HQ := Lib.hid heq
        clear heq
        go_wp2_with (first
          | (with_reducible refine wpList_load_mid rfl 136 (.tmp 40) rfl gh (k * 129) rfl WC _ HW.out.1 Tryz.underlying136 rfl HW.out.2.size ?_)
          | (refine wpList_store_row rfl 136 (.tmp 8) (.tmp 41) rfl wr.heap.size WC.toArray rfl rfl 136 (Value.int IntKind.i64 0 :: zW).toArray HW.out.2.row0 (by rw [List.size_toArray]; exact HW.out.2.size) (by rw [List.size_toArray, List.size_toArray, HW.out.2.len, HW.out.2.z129]) HW.out.2.one ?_; have hAF := HAF.out; clear HAF; generalize (wr.alloc (.cells (.int .i64 0 :: zW).toArray 136)).setRow wr.heap.size WC.toArray = W3 at hAF ⊢; have HAF := Lib.hid hAF; have cq := hAF.1.cell 0; rw [HX.out.2.2.2.2.1] at cq; simp only [List.getElem?_cons_zero] at cq; clear hAF)
          | fail)
        have HFIN : Hid (RdR w (w.heap.size + 1) D k0 (k + 1) W3) := Lib.hid (by
          have hs := HREL.out.bel.size
          refine ⟨?_, HREL.out.res.below HAF.out.2 HREL.out.res.lt, HREL.out.bel.trans (HAF.out.2.mono hs)⟩
          rw [blkOf_miss D k x _ HX.out.1 (by rw [HX.out.2.1]; exact HQ.out)]
          exact HREL.out.row.below HAF.out.2 HREL.out.row.lt)
        have hlt := HX.out.2.2.2.2.2.1
        go_roundw
        case rel => exact ⟨k + 1, by omega, by go_num, HFIN⟩
        case measure => simp [intOf]; omega
    · have hke : k = n := by omega
      subst hke
      clear hlt c1
      obtain ⟨BC, hBC⟩ : ∃ BC, (D.blk k0).map bv = BC := ⟨_, rfl⟩
      have hb128 : (D.blk k0).length = 128 := by
        rw [← blkOf_all D k0 k H.out.2.1]
        exact blkOf_len D H.out.1.good _ _ (by omega) (by have := H.out.2.2.2.2.2.1; omega) (fun i hi => by have := lastAt_lt hi; rw [List.length_take] at this; omega)
      have hrow := HREL.out.row
      rw [blkOf_all D k0 k H.out.2.1, hBC] at hrow
      have hsz := blk_sizeK _ hb128
      have hone := blkV_one (D.blk k0)
      rw [hBC] at hsz hone
      have hl : BC.length = 128 := by rw [← hBC, List.length_map, hb128]
      have hfin : blkV (D.blk k0) = .agg BC.toArray := by unfold blkV; rw [hBC]
      have HB : Hid (wr.rangeAt (w.heap.size + 1) 0 BC ∧ (Tryz.prog.info? 90).map (·.size) = some BC.length ∧ BC.toArray.all (·.oneCell') = true ∧ BC.length = 128 ∧ Row wr w.heap.size 90 Z ∧ blkV (D.blk k0) = .agg BC.toArray) := Lib.hid
        ⟨fun j v hj => by rw [Nat.zero_add, hrow.cell]; exact hj, hsz, hone, hl, by rw [← HZ.out.1]; exact HREL.out.res, hfin⟩
      clear hBC hb128 hrow hsz hone hl hfin
      go_wp2_with (first
        | (with_reducible refine wpList_load_mid rfl 90 (.tmp 6) rfl (w.heap.size + 1) 0 rfl BC _ HB.out.1 Tryz.underlying90 rfl HB.out.2.1 ?_)
        | (refine wpList_store_row rfl 90 (.tmp 4) (.tmp 49) rfl w.heap.size BC.toArray rfl rfl 90 Z.toArray HB.out.2.2.2.2.1 (by rw [List.size_toArray]; exact HB.out.2.1) (by rw [List.size_toArray, List.size_toArray, HZ.out.2, HB.out.2.2.2.1]) HB.out.2.2.1 ?_)
        | fail)
      have hp := HB.out.2.2.2.2.1.put BC
      have hq := below_setRow (B := w.heap.size) HREL.out.bel (Nat.le_refl _) BC.toArray
      rw [HB.out.2.2.2.2.2]
      exact bodyPost_ret (v := .tuple #[.agg BC.toArray, .int .i64 0]) (results_row_tmp rfl _ _ w.heap.size 90 BC.toArray (0, 0) _ rfl hp Tryz.underlying90 rfl (by rw [List.size_toArray]; exact HB.out.2.1) _ rfl) rfl ⟨rfl, hq⟩

theorem RRead_any (h : RefAt L w p gl hv D) (at' : Int) (hh : D.hangs.length < 1000000000) :
    Calls Tryz.prog 57 #[.pointer (some ⟨p, 0, none⟩), .int .i64 at'] w fun e w' => e = .returned (.tuple #[blkV (D.read at'), .int .i64 (D.fault at')]) ∧ Below w.heap.size w w' := by
  by_cases hf : D.fault at' = 0
  · exact RRead_ok h at' hf hh
  · exact RRead_no h at' hf
end
end Go.Proofs.YtiaaeniopjpfpaaGreatDoor

namespace Go.Proofs.YtiaaeniopjpfpaaGreatDoor
open Go.RowKit Go.Maps
set_option linter.unusedVariables false
set_option linter.unusedSimpArgs false

theorem rwrite_info : (Tryz.prog.info? 136).map (fun i => (i.zero, i.size, i.bytes)) = some (some (.agg (.int .i64 0 :: zW).toArray), 129, 136) := by kernel_rfl
/-- 'write{at, b}'. -/
theorem rbuild_write (x : Int) (C : List Value) (hC : C.length = 128) (W : World) :
    (Instr.build 136 #[(0, .int .i64 x), (1, .agg C.toArray)]).run Tryz.prog W = .ok (.agg (.int .i64 x :: C).toArray) W := by
  have hz := zero_of_info rW_info
  have hu := Tryz.underlying136
  have hs1 := int_size W
  have hs2 := blk_sizeOf W
  have hf : Instr.fill (fun i => #[((0 : Nat), (1 : Nat)), (1, 128)][i]?) (Value.agg (Value.int IntKind.i64 0 :: zW).toArray).cells [(0, Value.int IntKind.i64 x), (1, Value.agg C.toArray)] = some (Value.int IntKind.i64 x :: C).toArray := by
    have e0 : (Value.agg (Value.int IntKind.i64 0 :: zW).toArray).cells = (Value.int IntKind.i64 0 :: zW).toArray := rfl
    have e1 : (Value.int IntKind.i64 x).cells = #[Value.int IntKind.i64 x] := rfl
    have e2 : (Value.agg C.toArray).cells = C.toArray := rfl
    have hzl : (Value.int IntKind.i64 0 :: zW).toArray.size = 129 := by simp [zW]
    have l1 := lay_arr 0 (.int .i64 x) (Value.int IntKind.i64 0 :: zW).toArray (by rw [e1, hzl]; simp)
    rw [e0]
    unfold Instr.fill
    simp only [List.getElem?_toArray, List.getElem?_cons_zero]
    rw [if_neg (by rw [e1, hzl]; simp), l1]
    have l2 := lay_arr 1 (.agg C.toArray) (((Value.int IntKind.i64 0 :: zW).toArray.toList.take 0 ++ (Value.int IntKind.i64 x).cells.toList ++ (Value.int IntKind.i64 0 :: zW).toArray.toList.drop (0 + (Value.int IntKind.i64 x).cells.size)).toArray) (by rw [e1, e2]; simp [zW, hC])
    unfold Instr.fill
    simp only [List.getElem?_cons_zero, List.getElem?_cons_succ]
    rw [if_neg (by rw [e1, e2]; simp [zW, hC]), l2]
    unfold Instr.fill
    rw [e1, e2]
    simp [zW, hC]
  simp only [Instr.build, Sem.run_bind, hz.1, Result.andThen_ok, run_underlying hu]
  simp [hs1, hs2, Result.andThen]
  have ee : (fun x : Nat => ([((0 : Nat), (1 : Nat)), (1, 128)] : List (Nat × Nat))[x]?) = fun i => #[((0 : Nat), (1 : Nat)), (1, 128)][i]? := by funext i; simp
  rw [ee, hf]
  rfl
/-- A slice of one of them. -/
theorem rone_write (x : Int) (C : List Value) (hC : C.length = 128) (W : World) :
    (Instr.buildSlice 43 1 #[(0, .agg (.int .i64 x :: C).toArray)]).run Tryz.prog W = .ok (.slice (some ⟨W.heap.size, 0, none⟩) 1 1) (W.alloc (.cells (.int .i64 x :: C).toArray 136)) := by
  have hz := rW_info
  cases hi : Tryz.prog.info? 136 with
  | none => rw [hi] at hz; cases hz
  | some ie =>
    rw [hi] at hz
    simp only [Option.map_some, Option.some.injEq, Prod.mk.injEq] at hz
    refine run_buildSlice W 43 136 1 _ _ ie _ Tryz.underlying43 hi hz.1 (by rw [hz.2]; decide) (by rw [hz.2]; decide) ?_
    rw [hz.2]
    have hsz : ((Array.range (1 * 129)).map ((Value.agg (Value.int IntKind.i64 0 :: zW).toArray).cells[· % (Value.agg (Value.int IntKind.i64 0 :: zW).toArray).cells.size]!)).size = 129 := by simp
    have e2 : (Value.agg (Value.int IntKind.i64 x :: C).toArray).cells = (Value.int IntKind.i64 x :: C).toArray := rfl
    have l2 := lay_arr 0 (.agg (Value.int IntKind.i64 x :: C).toArray) _ (by rw [hsz, e2]; simp [hC])
    unfold Instr.fill
    simp only [Nat.zero_mul]
    rw [if_neg (by rw [hsz, e2]; simp [hC])]
    rw [l2]
    unfold Instr.fill
    rw [e2]
    simp [hC]
theorem read_len {D : DS} (hD : D.ok) (at' : Int) : (D.read at').length = 128 := by
  unfold DS.read
  split
  · rename_i hf
    obtain ⟨_, h0, h1⟩ := fault_zero hf
    rw [← blkOf_all D at' _ rfl]
    exact blkOf_len D hD _ _ h0 h1 (fun i hi => by have := lastAt_lt hi; rw [List.length_take] at this; omega)
  · simp [z128]
section
variable {L L' : Nat → Prop} {w w' : World} {p gl : Nat} {hv : Value} {D D' : DS}

set_option maxRecDepth 20000 in
set_option maxHeartbeats 1000000 in
theorem RWrite_any (hL : ∀ k, L k → k < w.heap.size) (h : RefAt L w p gl hv D) (at' : Int) (b : List UInt8) (hb : b.length = 128) (hs : D.steps < 1000000000) (hh : D.hangs.length < 1000000000) :
    Calls Tryz.prog 50 #[.pointer (some ⟨p, 0, none⟩), .int .i64 at', blkV b] w fun e w' => e = .returned (.int .i64 (D.writeErr at')) ∧ RefIs L w' p (D.written at' b) ∧ Keeps L w w' := by
  have hz := (zero_of_info zB_info).1
  obtain ⟨C, hC⟩ : ∃ C, b.map bv = C := ⟨_, rfl⟩
  have hbl : blkV b = .agg C.toArray := by unfold blkV; rw [hC]
  have hCl : C.length = 128 := by rw [← hC, List.length_map, hb]
  rw [hbl]
  obtain ⟨RB, hRB⟩ : ∃ RB, (D.read at').map bv = RB := ⟨_, rfl⟩
  have hRBl : RB.length = 128 := by rw [← hRB, List.length_map, read_len h.good]
  have hRsz := blk_sizeK _ (read_len h.good at')
  have hRone := blkV_one (D.read at')
  rw [hRB] at hRsz hRone
  have B0 := (Below.refl w.heap.size w).alloc (Nat.le_refl _) (.cells C.toArray 90)
  have h1 := h.below B0
  have r0 := Row.new w 90 C
  have HRD := Lib.hid (RRead_any h1 at' hh)
  have hRV : blkV (D.read at') = .agg RB.toArray := by unfold blkV; rw [hRB]
  rw [hRV] at HRD
  obtain ⟨Z, hZ⟩ : ∃ Z, zB = Z := ⟨_, rfl⟩
  have hZl : Z.length = 128 := by rw [← hZ]; exact zB_len
  rw [hZ] at hz
  have HZ := Lib.hid (And.intro hZ (And.intro hZl (And.intro hRBl (And.intro hRsz hRone))))
  have HS := Lib.hid (And.intro B0 r0)
  have HNEW : Hid (∀ W : World, Row (W.alloc (.cells Z.toArray 90)) W.heap.size 90 Z ∧ Below W.heap.size W ((W.alloc (.cells Z.toArray 90)).setRow W.heap.size RB.toArray)) := Lib.hid fun W =>
    ⟨Row.new W 90 Z, below_setRow (B := W.heap.size) ((Below.refl W.heap.size W).alloc (Nat.le_refl _) _) (Nat.le_refl _) _⟩
  have H := Lib.hid h
  have HL := Lib.hid hL
  have HP := Lib.hid (And.intro hb (And.intro hs (And.intro hh (And.intro hC hCl))))
  by_cases hf : D.fault at' = 0
  · rw [hf] at HRD
    have HF := Lib.hid hf
    clear hZ hZl hRBl hRsz hRone hRB hRV B0 h1 r0 h hL hb hs hh hC hbl hf hCl
    go_enter Tryz.func50, Tryz.ntmps50
    go_wp2_with fail
    refine HRD.out.mono ?_
    rintro e w1 ⟨rfl, hb1⟩
    have HB1 := Lib.hid hb1
    clear hb1
    go_wp2_with (first
      | (refine wpList_store_row rfl 90 (.tmp 7) (.tmp 13) rfl w1.heap.size RB.toArray rfl rfl 90 Z.toArray (HNEW.out w1).1 (by rw [List.size_toArray]; exact HZ.out.2.2.2.1) (by rw [List.size_toArray, List.size_toArray, HZ.out.2.1, HZ.out.2.2.1]) HZ.out.2.2.2.2 ?_; have hN := (HNEW.out w1).2; generalize (w1.alloc (.cells Z.toArray 90)).setRow w1.heap.size RB.toArray = W3 at hN ⊢; have HN := Lib.hid (Below.trans HB1.out (hN.mono HB1.out.size)); clear hN HNEW)
      | fail)
    obtain ⟨g, hg⟩ : ∃ g, w.heap.size = g := ⟨_, rfl⟩
    have HGE := Lib.hid hg
    have hbw3 := HN.out
    have hsz1 : (w.alloc (.cells C.toArray 90)).heap.size = g + 1 := by simp [hg]
    have hB3 : Below w.heap.size w W3 := HS.out.1.trans (hbw3.mono (by simp))
    have hr3 : RefAt (fun k => L k ∨ k = g) W3 p gl hv D := (H.out.below hB3).kept (fun _ _ => rfl) (fun q hq hl => by
      rcases hl with h2 | h2
      · exact H.out.out q hq h2
      · have := H.out.lt q hq; omega)
    have rC3 : Row W3 g 90 C := by
      have h := HS.out.2
      rw [hg] at h
      exact h.below hbw3 (by omega)
    have hdn := (fault_zero HF.out).1
    have HST := Lib.hid (Rstep_any hr3 HP.out.2.1 hdn)
    have HB3 := Lib.hid (And.intro hB3 rC3)
    clear hbw3 hsz1 hB3 hr3 rC3 hdn HN HB1 HRD hg
    by_cases hm : D.may = true
    · rw [hm] at HST
      have hse : D.stepErr = 0 := by unfold DS.stepErr; rw [hm]; rfl
      have e1 : D.writeErr at' = 0 := by unfold DS.writeErr; rw [if_neg (by rw [HF.out]; simp), hse]
      have e2 : D.written at' b = { D.stepped with hangs := D.hangs ++ [(at'.toNat, b)] } := by unfold DS.written; rw [if_neg (by rw [HF.out]; simp), if_pos hm]
      obtain ⟨hdn0, h0, hn⟩ := fault_zero HF.out
      obtain ⟨k, rfl⟩ := Int.eq_ofNat_of_zero_le h0
      have HK0 := Lib.hid (show k < D.lasts.length by omega)
      have HE := Lib.hid (And.intro e1 (show D.written (k : Int) b = { D.stepped with hangs := D.hangs ++ [(k, b)] } from e2))
      clear hm hse e1 e2 h0 hn hdn0
      obtain ⟨a, c, rfl⟩ := own_slice H.out.han
      refine HST.out.mono ?_
      rintro e w2 ⟨rfl, hd2, hk2⟩
      obtain ⟨n, hnn⟩ : ∃ n, D.hangs.length = n := ⟨_, rfl⟩
      have HN := Lib.hid (show n < 1000000000 by have := HP.out.2.2.1; omega)
      have HNN := Lib.hid hnn
      have hbs := fun W => rone_write (k : Int) C HP.out.2.2.2.2 W
      have hbw := fun W => rbuild_write (k : Int) C HP.out.2.2.2.2 W
      have HC : Hid ((Tryz.prog.info? 90).map (·.size) = some C.length ∧ C.length = 128 ∧ ∀ v ∈ (Value.int .i64 (k : Int) :: C), v.oneCell' = true) := Lib.hid ⟨by rw [← HP.out.2.2.2.1]; exact blk_sizeK b HP.out.1, HP.out.2.2.2.2, fun v hv => by
        rcases List.mem_cons.1 hv with rfl | hv
        · rfl
        · rw [← HP.out.2.2.2.1] at hv; exact bvs_one b v hv⟩
      obtain ⟨i0, z0, HI⟩ : ∃ i z, Hid (Tryz.prog.info? 136 = some i ∧ i.zero = some z ∧ i.size = 129 ∧ i.bytes = 136 ∧ z.cells.size = 129) := by
        have hz := rwrite_info
        cases hi : Tryz.prog.info? 136 with
        | none => rw [hi] at hz; cases hz
        | some ie =>
          rw [hi] at hz
          simp only [Option.map_some, Option.some.injEq, Prod.mk.injEq] at hz
          exact ⟨ie, _, Lib.hid ⟨rfl, hz.1, hz.2.1, hz.2.2, by show (Value.int IntKind.i64 0 :: zW).toArray.size = 129; simp [zW]⟩⟩
      have rB : Row w2 g 90 C := (hk2.block g HB3.out.2.lt (.inr rfl)).trans HB3.out.2
      have hhn2 := hd2.han
      rw [(stepped_same D).2] at hhn2
      have hrow2 := hd2.row
      rw [HNN.out] at hhn2 hrow2
      obtain ⟨RC, HRC⟩ : ∃ RC, Hid (RC = [Value.slice (some ⟨gl, 0, none⟩) D.stepped.lasts.length D.stepped.lasts.length, .slice a n c, .int .i64 (D.stepped.steps : Nat), .int .i64 D.stepped.fuse, .bool D.stepped.down]) := ⟨_, Lib.hid rfl⟩
      have hne2 : (Value.slice a n c).ownBlock ≠ some p ∧ (Value.slice a n c).ownBlock ≠ some g := by
        have h1 := own_ne hhn2 hrow2 (by decide)
        have h2 := own_ne hhn2 rB (by decide)
        exact ⟨h1, h2⟩
      rw [← HRC.out] at hrow2
      have S2 : Row w2.drew p 45 RC ∧ Row w2.drew g 90 C := ⟨hrow2.drew, rB.drew⟩
      have H8 : Hid ((Row w2.drew p 45 RC ∧ Row w2.drew g 90 C) → Row (w2.drew.alloc (.cells (.int .i64 (k : Int) :: C).toArray 136)) p 45 RC ∧ Row (w2.drew.alloc (.cells (.int .i64 (k : Int) :: C).toArray 136)) g 90 C) := Lib.hid fun h3 => ⟨h3.1.alloc _, h3.2.alloc _⟩
      have H9 : (w2.drew.alloc (.cells (.int .i64 (k : Int) :: C).toArray 136)).ownsRow 0 136 129 (.slice a n c) n (wcs D.hangs) :=
        own_kept (w := w2.drew) (own_kept hhn2 (fun q hq => rfl)) (fun q hq => Below.heap_alloc _ _ _ (own_blk_lt hhn2 hq))
      have H10 : ∀ w5, (w2.drew.alloc (.cells (.int .i64 (k : Int) :: C).toArray 136)).grownBy w5 (Value.slice a n c).ownBlock → Row w5 p 45 RC ∧ Row w5 g 90 C := fun w5 h5 => by
        have h6 := H8.out S2
        exact ⟨(h5.block p h6.1.lt (fun e => hne2.1 e.symm)).trans h6.1, (h5.block g h6.2.lt (fun e => hne2.2 e.symm)).trans h6.2⟩
      have HD := Lib.hid (And.intro hd2 (And.intro hk2 rB))
      rw [HGE.out]
      have HS2 := Lib.hid (And.intro S2 (And.intro H9 H10))
      clear hd2 hk2 rB hhn2 hrow2 hne2 hnn S2 H9 H10
      go_wp2_with fail
      refine wp_region_noPanic ?_
      obtain ⟨S2, H9, H10⟩ := HS2.out
      refine region_held_last 12 (S := fun W => Row W p 45 RC ∧ Row W g 90 C) (by kernel_rfl) (by kernel_rfl) rfl S2 (fun hHeld => ?_)
      simp only [List.take_succ_cons, List.take_zero]
      refine wpAnyH_take (i := 0) (oi := { dst := some 21, op := Op.move (Operand.tmp 0), type := 28, pos := "ref.go:67", after := #[], guard := none }) (v := ?vvr_0) rfl (by kernel_rfl) (by kernel_rfl) (by kernel_rfl) (fun _ _ _ h => h) (Or.inl ⟨by rfl, ?yyr_0⟩) hHeld ?_
      case vvr_0 => exact .pointer (some ⟨p, 0, none⟩)
      case yyr_0 =>
        intro W hS
        go_simp
      try simp only [Act.put, List.setIfInBounds_toArray, List.set_cons_zero, List.set_cons_succ]
      refine wpAnyH_take (i := 1) (oi := { dst := some 22, op := Op.move (Operand.tmp 0), type := 28, pos := "ref.go:67", after := #[], guard := none }) (v := ?vvr_1) rfl (by kernel_rfl) (by kernel_rfl) (by kernel_rfl) (fun _ _ _ h => h) (Or.inl ⟨by rfl, ?yyr_1⟩) hHeld ?_
      case vvr_1 => exact .pointer (some ⟨p, 0, none⟩)
      case yyr_1 =>
        intro W hS
        go_simp
      try simp only [Act.put, List.setIfInBounds_toArray, List.set_cons_zero, List.set_cons_succ]
      refine wpAnyH_take (i := 2) (oi := { dst := some 23, op := Op.nilCheck (Operand.tmp 22), type := 0, pos := "ref.go:67", after := #[{ on := 1, ground := Ground.data }], guard := none }) (v := ?vvr_2) rfl (by kernel_rfl) (by kernel_rfl) (by kernel_rfl) (fun _ _ _ h => h) (Or.inl ⟨by rfl, ?yyr_2⟩) hHeld ?_
      case vvr_2 => exact .pointer (some ⟨p, 0, none⟩)
      case yyr_2 =>
        intro W hS
        go_simp
      try simp only [Act.put, List.setIfInBounds_toArray, List.set_cons_zero, List.set_cons_succ]
      refine wpAnyH_take (i := 3) (oi := { dst := some 24, op := Op.fieldAddr 45 (Operand.tmp 23) 1, type := 0, pos := "ref.go:67", after := #[{ on := 2, ground := Ground.data }], guard := none }) (v := ?vvr_3) rfl (by kernel_rfl) (by kernel_rfl) (by kernel_rfl) (fun _ _ _ h => h) (Or.inl ⟨by rfl, ?yyr_3⟩) hHeld ?_
      case vvr_3 => exact .pointer (some ⟨p, 1, none⟩)
      case yyr_3 =>
        intro W hS
        go_simp
      try simp only [Act.put, List.setIfInBounds_toArray, List.set_cons_zero, List.set_cons_succ]
      refine wpAnyH_take (i := 4) (oi := { dst := some 25, op := Op.load 43 (Operand.tmp 24), type := 43, pos := "ref.go:67", after := #[{ on := 3, ground := Ground.data }], guard := none }) (v := ?vvr_4) rfl (by kernel_rfl) (by kernel_rfl) (by kernel_rfl) (fun _ _ _ h => h) (Or.inl ⟨by rfl, ?yyr_4⟩) hHeld ?_
      case vvr_4 => exact .slice a n c
      case yyr_4 =>
        intro W hS
        obtain ⟨s1, s2⟩ := hS
        have q1 := s1.cell 1
        simp only [HRC.out, List.getElem?_cons_zero, List.getElem?_cons_succ] at q1
        go_simp
      try simp only [Act.put, List.setIfInBounds_toArray, List.set_cons_zero, List.set_cons_succ]
      refine wpAnyH_take (i := 5) (oi := { dst := some 26, op := Op.move (Operand.tmp 1), type := 3, pos := "ref.go:67", after := #[], guard := none }) (v := ?vvr_5) rfl (by kernel_rfl) (by kernel_rfl) (by kernel_rfl) (fun _ _ _ h => h) (Or.inl ⟨by rfl, ?yyr_5⟩) hHeld ?_
      case vvr_5 => exact .int .i64 k
      case yyr_5 =>
        intro W hS
        go_simp
      try simp only [Act.put, List.setIfInBounds_toArray, List.set_cons_zero, List.set_cons_succ]
      refine' wpAnyH_take (i := 6) (oi := { dst := some 27, op := Op.load 90 (Operand.tmp 5), type := 90, pos := "ref.go:67", after := #[], guard := none }) (v := _) rfl (by kernel_rfl) (by kernel_rfl) (by kernel_rfl) (fun _ _ _ h => h) (yieldsIf_load_mid (by rfl) _ _ rfl g 0 rfl C _ (fun W h => (fun j v hj => by rw [Nat.zero_add, h.2.cell]; exact hj)) Tryz.underlying90 rfl HC.out.1) hHeld ?_
      try simp only [Act.put, List.setIfInBounds_toArray, List.set_cons_zero, List.set_cons_succ]
      refine' wpAnyH_take (i := 7) (oi := { dst := some 28, op := Op.build 136 #[(0, Operand.tmp 26), (1, Operand.tmp 27)], type := 136, pos := "ref.go:67", after := #[{ on := 5, ground := Ground.data }, { on := 6, ground := Ground.data }], guard := none }) (v := _) rfl (by kernel_rfl) (by kernel_rfl) (by kernel_rfl) (fun _ _ _ h => h) (yields_build (by rfl) _ _ rfl #[(0, .int .i64 (k : Int)), (1, .agg C.toArray)] (.int .i64 (k : Int) :: C).toArray (by go_simp) hbw) hHeld ?_
      try simp only [Act.put, List.setIfInBounds_toArray, List.set_cons_zero, List.set_cons_succ]
      refine wpAnyH_ready (rs := [8]) (by kernel_rfl) (by simp) (AllReadyH.cons (o := { dst := some 29, op := Op.buildSlice 43 1 #[(0, Operand.tmp 28)], type := 43, pos := "ref.go:67", after := #[{ on := 7, ground := Ground.data }], guard := none }) rfl (fun K hK => ?_) AllReadyH.nil)
      rw [if_pos (by rfl)]
      have S3 := H8.out S2
      refine wp_buildSliceRun 43 1 _ rfl #[(0, .agg (.int .i64 (k : Int) :: C).toArray)] (.slice (some ⟨w2.heap.size, 0, none⟩) 1 1) (w2.drew.alloc (.cells (.int .i64 (k : Int) :: C).toArray 136)) ?hvv ?hrr ?_
      case hrr => exact hbs w2.drew
      case hvv => simp only [List.map_toArray, List.map_cons, List.map_nil, Act.eval, Array.getD_eq_getD_getElem?, List.getElem?_toArray, List.getElem?_cons_succ, List.getElem?_cons_zero, Option.getD_some]
      refine hK.out _ _ S3 (fun hHeld => ?_)
      clear hK K
      try simp only [Act.put, List.setIfInBounds_toArray, List.set_cons_zero, List.set_cons_succ]
      refine wpAnyH_ready (rs := [9]) (by kernel_rfl) (by simp) (AllReadyH.cons (o := { dst := some 30, op := Op.call { callee := Callee.builtin Builtin.append, args := #[Operand.tmp 25, Operand.tmp 29], argTypes := #[43, 43] }, type := 43, pos := "ref.go:67", after := #[{ on := 4, ground := Ground.data }, { on := 8, ground := Ground.data }], guard := none }) rfl (fun K hK => ?_) AllReadyH.nil)
      rw [if_pos (by rfl)]
      refine wp_append_lies _ (.tmp 25) (.tmp 29) 43 rfl 0 136 i0 z0 129 136 Tryz.underlying43 HI.out.1 HI.out.2.1 HI.out.2.2.1 HI.out.2.2.2.1 HI.out.2.2.2.2 (by omega) (.slice a n c) n (wcs D.hangs) rfl H9 ⟨w2.heap.size, 0, none⟩ 1 1 (.int .i64 k :: C) rfl (by rw [List.length_cons, HC.out.2.1]) (World.news_of_block (cs := (.int .i64 (k : Int) :: C).toArray) (t := 136) (fr := (0, 0)) (heap_alloc_new w2.drew _)) HC.out.2.2 (by omega) (by have := HN.out; unfold maxLen; omega) (by have := HN.out; omega) (Nat.zero_le _) _ rfl ?_
      intro g5 cap5 w5 hown5 hg5 hat5 hlt5
      try simp only [Act.put, List.setIfInBounds_toArray, List.set_cons_zero, List.set_cons_succ]
      have S4 := H10 w5 hg5
      have HO5 := Lib.hid (And.intro hown5 (And.intro hg5 (And.intro hat5 hlt5)))
      clear hown5 hg5 hat5 hlt5 H10 H9
      refine hK.out _ _ S4 (fun hHeld => ?_)
      clear hK K
      try simp only [Act.put, List.setIfInBounds_toArray, List.set_cons_zero, List.set_cons_succ]
      refine wpAnyH_take (i := 10) (oi := { dst := some 31, op := Op.nilCheck (Operand.tmp 21), type := 0, pos := "ref.go:67", after := #[{ on := 0, ground := Ground.data }, { on := 0, ground := Ground.phase }, { on := 1, ground := Ground.phase }, { on := 2, ground := Ground.phase }, { on := 3, ground := Ground.phase }, { on := 4, ground := Ground.phase }, { on := 5, ground := Ground.phase }, { on := 6, ground := Ground.phase }, { on := 7, ground := Ground.phase }, { on := 8, ground := Ground.phase }, { on := 9, ground := Ground.phase }], guard := none }) (v := ?vvr_10) rfl (by kernel_rfl) (by kernel_rfl) (by kernel_rfl) (fun _ _ _ h => h) (Or.inl ⟨by rfl, ?yyr_10⟩) hHeld ?_
      case vvr_10 => exact .pointer (some ⟨p, 0, none⟩)
      case yyr_10 =>
        intro W hS
        go_simp
      try simp only [Act.put, List.setIfInBounds_toArray, List.set_cons_zero, List.set_cons_succ]
      refine wpAnyH_take (i := 11) (oi := { dst := some 32, op := Op.fieldAddr 45 (Operand.tmp 31) 1, type := 0, pos := "ref.go:67", after := #[{ on := 10, ground := Ground.data }, { on := 0, ground := Ground.phase }, { on := 1, ground := Ground.phase }, { on := 2, ground := Ground.phase }, { on := 3, ground := Ground.phase }, { on := 4, ground := Ground.phase }, { on := 5, ground := Ground.phase }, { on := 6, ground := Ground.phase }, { on := 7, ground := Ground.phase }, { on := 8, ground := Ground.phase }, { on := 9, ground := Ground.phase }], guard := none }) (v := ?vvr_11) rfl (by kernel_rfl) (by kernel_rfl) (by kernel_rfl) (fun _ _ _ h => h) (Or.inl ⟨by rfl, ?yyr_11⟩) hHeld ?_
      case vvr_11 => exact .pointer (some ⟨p, 1, none⟩)
      case yyr_11 =>
        intro W hS
        go_simp
      try simp only [Act.put, List.setIfInBounds_toArray, List.set_cons_zero, List.set_cons_succ]
      refine wpAnyH_done (by kernel_rfl) ?_ _
      show wpList _ _ _ [_] _ _

      have q5 := S4.1.cell 1
      have f5 := S4.1.frozen 1
      simp only [HRC.out, List.getElem?_cons_zero, List.getElem?_cons_succ] at q5
      have HS4 := Lib.hid S4
      clear S4 S3 S2 hHeld
      go_wp2_with fail
      refine NoPanic.normal ?_
      go_wp2
      go_ret
      obtain ⟨hd2, hk2, rB⟩ := HD.out
      obtain ⟨ho5, hg5, ha5, hl5⟩ := HO5.out
      obtain ⟨rp5, rb5⟩ := HS4.out
      have hst := stepped_same D
      have hnn := HNN.out
      rw [HE.out.1, HE.out.2]
      have hlas4 : Row (w2.drew.alloc (.cells (.int .i64 (k : Int) :: C).toArray 136)) gl 90 (D.stepped.lasts.flatten.map bv) := (Row.drew hd2.las).alloc _
      have hlas5 : Row w5 gl 90 (D.stepped.lasts.flatten.map bv) := (hg5.block gl hlas4.lt (fun e => hd2.ne_hl (by rw [hnn]; exact e.symm))).trans hlas4
      have hne5 : p ≠ g5 := fun e => own_ne ho5 rp5 (by decide) (by rw [e]; rfl)
      have hCb := HP.out.2.2.2.1
      have hw2 : w.heap.size ≤ w2.heap.size := Nat.le_trans HB3.out.1.size hk2.size
      refine ⟨rfl, ⟨gl, .slice (some ⟨g5, 0, none⟩) (n + 1) cap5, ⟨?_, ?_, ?_, ?_, fun h => hd2.fp (.inl h), fun h => hd2.fl (.inl h), fun q hq hl => ?_⟩⟩, ?_⟩
      · have := rp5.set 1 (.slice (some ⟨g5, 0, none⟩) (n + 1) cap5)
        rw [HRC.out] at this
        simpa using this
      · exact (Below.heap_setCell _ _ _ _ (fun e => hd2.ne_lp e)).trans hlas5
      · have h := own_kept (w' := w5.setCell ⟨p, 1, none⟩ (.slice (some ⟨g5, 0, none⟩) (n + 1) cap5)) ho5 (fun q hq => Below.heap_setCell _ _ _ _ (fun e => by
          have e1 : g5 = q := by simpa [Value.ownBlock] using hq
          exact hne5 (e1.trans e).symm))
        have e1 : (D.hangs ++ [(k, b)]).length = n + 1 := by rw [List.length_append, hnn]; rfl
        have e2 : wcs (D.hangs ++ [(k, b)]) = wcs D.hangs ++ .int .i64 (k : Int) :: C := by rw [wcs_snoc]; unfold wcells; rw [hCb]
        show World.ownsRow _ _ _ _ _ (D.hangs ++ [(k, b)]).length (wcs (D.hangs ++ [(k, b)]))
        rw [e1, e2]
        exact h
      · have hg := hd2.good
        have hn0 := HK0.out
        rw [← hst.1] at hn0
        exact ⟨hg.least, hg.most, hg.rows, fun x hx => by
          rcases List.mem_append.1 hx with hx | hx
          · rw [← hst.2] at hx; exact hg.sect x hx
          · rw [List.mem_singleton.1 hx]; exact hn0, fun x hx => by
          rcases List.mem_append.1 hx with hx | hx
          · rw [← hst.2] at hx; exact hg.blks x hx
          · rw [List.mem_singleton.1 hx]; exact HP.out.1, hg.fuse1, hg.fuse2⟩
      · have e1 : g5 = q := by simpa [Value.ownBlock] using hq
        subst e1
        rcases ha5 with h1 | h1
        · exact hd2.fh g5 (by rw [hnn]; exact h1) (.inl hl)
        · have := HL.out _ hl
          rw [h1] at this
          simp at this
          omega
      · have k1 : Keeps L w W3 := Keeps.of_below HB3.out.1 (fun q hq _ => hq)
        have k2 := (k1.trans (hk2.mono (fun q h => .inl h))).drew1.alloc (.cells (.int .i64 (k : Int) :: C).toArray 136)
        have k4 := k2.grown hg5 (fun q hq => .inl (fun h => hd2.fh q (by rw [hnn]; exact hq) (.inl h)))
        exact k4.setCell (p := ⟨p, 1, none⟩) (.inl (fun h => hd2.fp (.inl h))) _
    · have hmf : D.may = false := by simpa using hm
      rw [hmf] at HST
      have hse : D.stepErr = 13 := by unfold DS.stepErr; rw [hmf]; rfl
      have e1 : D.writeErr at' = 13 := by unfold DS.writeErr; rw [if_neg (by rw [HF.out]; simp), hse]
      have e2 : D.written at' b = D.stepped := by unfold DS.written; rw [if_neg (by rw [HF.out]; simp), if_neg hm]
      have HE := Lib.hid (And.intro e1 e2)
      clear hm hmf hse e1 e2
      refine HST.out.mono ?_
      rintro e w2 ⟨rfl, hd2, hk2⟩
      have HD := Lib.hid (And.intro hd2 hk2)
      clear hd2 hk2
      go_wp2_with fail
      go_ret
      rw [HE.out.1, HE.out.2]
      have h2 : RefIs (fun k => L k ∨ k = g) w2 p D.stepped := ⟨_, _, HD.out.1⟩
      exact ⟨rfl, h2.more (fun q hq => .inl (.inl hq)), (Keeps.of_below HB3.out.1 (fun q hq _ => hq)).trans (HD.out.2.mono (fun q h => .inl h))⟩
  · have e1 : D.writeErr at' = D.fault at' := by unfold DS.writeErr; rw [if_pos hf]
    have e2 : D.written at' b = D := by unfold DS.written; rw [if_pos hf]
    rw [e1, e2]
    obtain ⟨F, hF⟩ : ∃ F, D.fault at' = F := ⟨_, rfl⟩
    rw [hF] at HRD hf ⊢
    have hfb : ((F : Int) != 0) = true := by simpa using hf
    clear hZ hZl hRBl hRsz hRone hRB hRV B0 h1 r0 h hL hb hs hh hC hbl hCl e1 e2 hF
    go_enter Tryz.func50, Tryz.ntmps50
    go_wp2_with fail
    refine HRD.out.mono ?_
    rintro e w1 ⟨rfl, hb1⟩
    have HB1 := Lib.hid hb1
    clear hb1
    go_wp2_with (first
      | (refine wpList_store_row rfl 90 (.tmp 7) (.tmp 13) rfl w1.heap.size RB.toArray rfl rfl 90 Z.toArray (HNEW.out w1).1 (by rw [List.size_toArray]; exact HZ.out.2.2.2.1) (by rw [List.size_toArray, List.size_toArray, HZ.out.2.1, HZ.out.2.2.1]) HZ.out.2.2.2.2 ?_; have hN := (HNEW.out w1).2; generalize (w1.alloc (.cells Z.toArray 90)).setRow w1.heap.size RB.toArray = W3 at hN ⊢; have HN := Lib.hid (HS.out.1.trans ((Below.trans HB1.out (hN.mono HB1.out.size)).mono (by simp))); clear hN HNEW)
      | fail)
    go_ret
    exact ⟨rfl, ⟨_, _, H.out.below HN.out⟩, Keeps.of_below HN.out (fun q hq _ => hq)⟩
end
end Go.Proofs.YtiaaeniopjpfpaaGreatDoor

namespace Go.Proofs.YtiaaeniopjpfpaaGreatDoor
open Go.RowKit Go.Maps
set_option linter.unusedVariables false
set_option linter.unusedSimpArgs false

def setAll (l : List (Nat × List UInt8)) (L : List (List UInt8)) : List (List UInt8) := l.foldl (fun L x => L.set x.1 x.2) L
theorem setAll_snoc (l : List (Nat × List UInt8)) (x : Nat × List UInt8) (L : List (List UInt8)) : setAll (l ++ [x]) L = (setAll l L).set x.1 x.2 := by
  unfold setAll
  rw [List.foldl_append]
  rfl
theorem setAll_len (l : List (Nat × List UInt8)) (L : List (List UInt8)) : (setAll l L).length = L.length := by
  induction l using snoc_ind with
  | h0 => rfl
  | h1 l x ih => rw [setAll_snoc, List.length_set, ih]
theorem setAll_get (l : List (Nat × List UInt8)) (L : List (List UInt8)) (i : Nat) : (setAll l L)[i]? = (L[i]?).map fun b => match lastAt l (i : Int) with
  | some j => (l.getD j (0, [])).2
  | none => b := by
  induction l using snoc_ind with
  | h0 => rw [lastAt_nil]; simp [setAll]
  | h1 l x ih =>
    rw [setAll_snoc, List.getElem?_set, lastAt_snoc, setAll_len]
    by_cases e : x.1 = i
    · have e' : (x.1 : Int) = (i : Int) := by omega
      rw [if_pos e, if_pos e']
      by_cases hl : x.1 < L.length
      · rw [if_pos hl, List.getElem?_eq_getElem (by omega)]
        simp
      · rw [if_neg hl, List.getElem?_eq_none (by omega)]
        rfl
    · have e' : ¬ (x.1 : Int) = (i : Int) := by omega
      rw [if_neg e, if_neg e', ih]
      cases hk : lastAt l (i : Int) with
      | none => rfl
      | some j =>
        have hj := lastAt_lt hk
        have e2 : (l ++ [x]).getD j (0, []) = l.getD j (0, []) := by
          rw [List.getD_eq_getElem?_getD, List.getD_eq_getElem?_getD, List.getElem?_append_left hj]
        show _ = (L[i]?).map fun b => ((l ++ [x]).getD j (0, [])).2
        rw [e2]
theorem settled_all (D : DS) : D.settled = setAll D.hangs D.lasts := by
  apply List.ext_getElem?
  intro i
  rw [setAll_get]
  unfold DS.settled
  rw [List.getElem?_mapIdx]
  rfl
theorem settled_get (D : DS) (i : Nat) (hi : i < D.lasts.length) : D.settled[i]? = some (match lastAt D.hangs (i : Int) with
  | some j => (D.hangs.getD j (0, [])).2
  | none => D.lasts[i]) := by
  unfold DS.settled
  rw [List.getElem?_mapIdx, List.getElem?_eq_getElem hi]
  rfl
theorem kept_none (l : List (Nat × List UInt8)) (L : List (List UInt8)) (k : Int) (h : k < 1) : kept l L k = L := by
  cases l with
  | nil => rfl
  | cons x r => exact kept_stop x r L k h
theorem kept_full (l : List (Nat × List UInt8)) (h1 : ∀ x ∈ l, x.2.length = 128) : ∀ (L : List (List UInt8)) (k : Int), (∀ b ∈ L, b.length = 128) → (l.length : Int) * 128 ≤ k → kept l L k = setAll l L := by
  induction l with
  | nil => intro L k _ _; rfl
  | cons x r ih =>
    intro L k hL hk
    have hx := h1 x (by simp)
    rw [List.length_cons] at hk
    have hg := kept_go x r L k 128 (by omega) (by omega)
    have e : x.2.take 128 ++ (L.getD x.1 []).drop 128 = x.2 := by
      rw [List.take_of_length_le (by omega)]
      have : (L.getD x.1 []).drop 128 = [] := by
        by_cases hl : x.1 < L.length
        · rw [List.drop_of_length_le (by rw [getD_len hL hl]; omega)]
        · rw [List.getD_eq_getElem?_getD, List.getElem?_eq_none (by omega)]; rfl
      rw [this, List.append_nil]
    rw [e] at hg
    rw [hg]
    rw [ih (fun y hy => h1 y (by simp [hy])) (L.set x.1 x.2) _ (set_rows hL x.1 x.2 hx) (by omega)]
    rfl
theorem read_settled {D : DS} (hd : D.down = false) {i : Nat} (hi : i < D.lasts.length) : D.read i = D.settled.getD i [] := by
  have hf : D.fault i = 0 := by
    unfold DS.fault
    rw [hd, if_neg (by decide), if_pos (by omega)]
  unfold DS.read
  rw [if_pos hf]
  have e := settled_get D i hi
  unfold DS.blk
  rw [List.getD_eq_getElem?_getD (l := D.settled), e]
  cases lastAt D.hangs (i : Int) with
  | none => simp [List.getD_eq_getElem?_getD, List.getElem?_eq_getElem hi]
  | some j => rfl
theorem settled_len (D : DS) : D.settled.length = D.lasts.length := by unfold DS.settled; rw [List.length_mapIdx]
theorem settled_rows {D : DS} (h : D.ok) : ∀ b ∈ D.settled, b.length = 128 := by
  intro b hb
  obtain ⟨i, hi, rfl⟩ := List.getElem_of_mem hb
  have hl : i < D.lasts.length := by rw [← settled_len]; exact hi
  have e := settled_get D i hl
  rw [List.getElem?_eq_getElem hi] at e
  injection e with e
  rw [e]
  cases hk : lastAt D.hangs (i : Int) with
  | none => exact h.rows _ (List.getElem_mem hl)
  | some j =>
    have hj := lastAt_lt hk
    show (D.hangs.getD j (0, [])).2.length = 128
    rw [List.getD_eq_getElem?_getD, List.getElem?_eq_getElem hj]
    exact h.blks _ (List.getElem_mem hj)
/-- How many hang behind a write: one more, if it is done. -/
theorem Calm.writes {D : DS} {L : List (List UInt8)} {h n : Nat} (c : Calm D L h n) (k : Int) (b : List UInt8) :
    (D.writeErr k = 0 ∧ (D.written k b).hangs.length = D.hangs.length + 1) ∨ (D.writeErr k = 2 ∧ D.written k b = D) := by
  unfold DS.writeErr DS.written
  rw [c.fault]
  split
  · left
    rw [if_neg (by decide), if_neg (by decide), if_pos c.may, c.err]
    exact ⟨rfl, by simp⟩
  · right
    rw [if_pos (by decide), if_pos (by decide)]
    exact ⟨rfl, rfl⟩
theorem wpList_buildSlice_run {P : Program} {ops : Array Oper} {rest : List Oper} {op : Oper} {a : Act} {w : World} {Q : Exit → Act → World → Prop} (hg : op.guard = none) (t : TypeId) (n : Nat) (parts : Array (Nat × Operand)) (ho : op.op = .buildSlice t n parts)
    (vals : Array (Nat × Value)) (v : Value) (W : World) (hv : (parts.map fun (i, x) => (i, a.eval x)) = vals) (hrun : (Instr.buildSlice t n vals).run P w = .ok v W)
    (h : wpList P ops Q rest (a.put op.dst v) W) : wpList P ops Q (op :: rest) a w :=
  wpList_plain hg fun _ hK => wp_buildSliceRun t n parts ho vals v W hv hrun (hK _ _ h)
end Go.Proofs.YtiaaeniopjpfpaaGreatDoor

namespace Go.Proofs.YtiaaeniopjpfpaaGreatDoor
open Go.RowKit Go.Maps
set_option linter.unusedVariables false
set_option linter.unusedSimpArgs false

section
variable {L L' : Nat → Prop} {w w' : World} {p gl : Nat} {hv : Value} {D D' : DS}
theorem setAll_rows {l : List (Nat × List UInt8)} {M : List (List UInt8)} (hM : ∀ b ∈ M, b.length = 128) (hl : ∀ x ∈ l, x.2.length = 128) : ∀ b ∈ setAll l M, b.length = 128 := by
  induction l using snoc_ind with
  | h0 => exact hM
  | h1 l x ih =>
    rw [setAll_snoc]
    exact set_rows (ih (fun y hy => hl y (by simp [hy]))) _ _ (hl x (by simp))
/-- What lasts is another thing, all else is as it was. -/
theorem RefAt.lasting {w1 wr : World} {ls : List (List UInt8)} (hd1 : RefAt L w1 p gl hv D) (hgr : w1.grownBy wr (some gl)) (hrow : Row wr gl 90 (ls.flatten.map bv)) (hlen : ls.length = D.lasts.length) (h128 : ∀ b ∈ ls, b.length = 128) :
    RefAt L wr p gl hv { D with lasts := ls } := by
  have hg := hd1.good
  refine ⟨?_, hrow, own_kept hd1.han (fun q hq => hgr.block q (own_blk_lt hd1.han hq) (fun e => by injection e with e; subst e; exact hd1.ne_hl hq)), ⟨by rw [hlen]; exact hg.least, by rw [hlen]; exact hg.most, h128, by rw [hlen]; exact hg.sect, hg.blks, hg.fuse1, hg.fuse2⟩, hd1.fp, hd1.fl, hd1.fh⟩
  show Row wr p _ [.slice (some ⟨gl, 0, none⟩) ls.length ls.length, _, _, _, _]
  rw [hlen]
  exact (hgr.block p hd1.row.lt (fun e => hd1.ne_lp (by injection e with e; exact e.symm))).trans hd1.row
/-- Nothing hangs any more. -/
theorem RefAt.dropped (h : RefAt L w p gl hv D) : RefAt L (w.setCell ⟨p, 1, none⟩ (.slice none 0 0)) p gl (.slice none 0 0) { D with hangs := [] } := by
  have hg := h.good
  refine ⟨?_, (Below.heap_setCell _ _ _ _ (fun e => h.ne_lp e)).trans h.las, ⟨by simp [wcs_nil], .inl ⟨rfl, rfl⟩⟩, ⟨hg.least, hg.most, hg.rows, fun x hx => (by cases hx), fun x hx => (by cases hx), hg.fuse1, hg.fuse2⟩, h.fp, h.fl, fun g hg => by simp [Value.ownBlock] at hg⟩
  have := h.row.set 1 (.slice none 0 0)
  simpa using this

/-- The loop's relation: the first writes are done. -/
structure RyR (w : World) (gl : Nat) (D : DS) (k : Nat) (wr : World) : Prop where
  row : Row wr gl 90 ((setAll (D.hangs.take k) D.lasts).flatten.map bv)
  gr : w.grownBy wr (some gl)

set_option maxRecDepth 20000 in
set_option maxHeartbeats 1000000 in
theorem RSync_any (h : RefAt L w p gl hv D) (hs : D.steps < 1000000000) (hh : D.hangs.length < 1000000000) :
    Calls Tryz.prog 51 #[.pointer (some ⟨p, 0, none⟩)] w fun e w' => e = .returned (.int .i64 D.stepErr) ∧ RefIs L w' p D.synced ∧ Keeps L w w' := by
  have hz9 := (zero_of_info rW_info).1
  have c4 := h.row.cell 4
  simp only [List.getElem?_cons_zero, List.getElem?_cons_succ] at c4
  by_cases hdn : D.down = true
  · have hm : D.may = false := by unfold DS.may; rw [hdn]; simp
    have e1 : D.stepErr = 13 := by unfold DS.stepErr; rw [hm]; rfl
    have e2 : D.synced = D := by
      unfold DS.synced DS.stepped
      rw [if_neg (by rw [hm]; simp)]
      split
      · cases D; simp only at hdn; subst hdn; rfl
      · rfl
    rw [e1, e2]
    rw [hdn] at c4
    have H := Lib.hid h
    clear h hdn hm e1 e2 hs hh hz9
    go_enter Tryz.func51, Tryz.ntmps51
    go_wp2
    go_ret
    exact ⟨rfl, ⟨_, _, H.out⟩, Keeps.refl _ _⟩
  have hdn : D.down = false := by simpa using hdn
  rw [hdn] at c4
  have HST := Lib.hid (Rstep_any h hs hdn)
  by_cases hm : D.may = true
  · have e1 : D.stepErr = 0 := by unfold DS.stepErr; rw [hm]; rfl
    have e2 : D.synced = { D.stepped with lasts := D.settled, hangs := [] } := by unfold DS.synced; rw [if_pos hm]
    rw [hm] at HST
    rw [e1]
    obtain ⟨a, c, rfl⟩ := own_slice h.han
    obtain ⟨n, hn⟩ : ∃ n, D.hangs.length = n := ⟨_, rfl⟩
    have hnI : (n : Int) < 1000000000 := by omega
    have HN := Lib.hid (And.intro hn (And.intro e2 hh))
    have H := Lib.hid h
    clear h hm e1 e2 hs hh hdn hn
    go_enter Tryz.func51, Tryz.ntmps51
    go_wp2_with fail
    refine HST.out.mono ?_
    rintro e w1 ⟨rfl, hd1, hk1⟩
    have hnE : D.stepped.hangs.length = n := by rw [(stepped_same D).2, HN.out.1]
    have hset : D.settled = setAll D.stepped.hangs D.stepped.lasts := by rw [settled_all, (stepped_same D).1, (stepped_same D).2]
    have HSET := Lib.hid hset
    clear hset
    obtain ⟨E, HE⟩ : ∃ E, Hid (D.stepped = E) := ⟨_, Lib.hid rfl⟩
    rw [HE.out] at hnE hd1 HSET
    rw [HN.out.1] at hd1
    have c1 := hd1.row.cell 1
    simp only [List.getElem?_cons_zero, List.getElem?_cons_succ] at c1
    have HD := Lib.hid (And.intro hd1 (And.intro hk1 hnE))
    have HR0 : Hid (RyR w1 gl E 0 w1) := Lib.hid ⟨hd1.las, World.grownBy.refl w1 _⟩
    clear hd1 hk1 hnE c4 HST
    go_wp2_with fail
    go_loopw [19] (fun i wr => ∃ (k : Nat), k ≤ n ∧ i = .int .i64 k ∧ Hid (RyR w1 gl E k wr)) (fun i _ => n - (intOf i).toNat)
    case atStart => exact ⟨0, Nat.zero_le _, rfl, HR0⟩
    case round =>
      obtain ⟨k, hkn, rfl, HREL⟩ := hrel
      by_cases hlt : k < n
      · have hh := HD.out.1
        have hhn : E.hangs.length = n := HD.out.2.2
        obtain ⟨x, hx⟩ : ∃ x, E.hangs[k]? = some x := ⟨_, List.getElem?_eq_getElem (by rw [hhn]; exact hlt)⟩
        have hxl := hh.good.blks x (List.mem_of_getElem? hx)
        have hxs := hh.good.sect x (List.mem_of_getElem? hx)
        obtain ⟨gh, rfl, hrng⟩ := RefAt.nth (by rw [← hhn] at hh; exact hh) k x hx (wr := wr) (fun g hg hne => HREL.out.gr.block g hg (fun e => hne (by injection e)))
        obtain ⟨WC, hF⟩ := copyF wr x hxl
        rw [hF.eq] at hrng
        obtain ⟨x1, hx1⟩ : ∃ x1, x.1 = x1 := ⟨_, rfl⟩
        obtain ⟨XC, hXC⟩ : ∃ XC, x.2.map bv = XC := ⟨_, rfl⟩
        have hWC : WC = .int .i64 (x1 : Nat) :: XC := by rw [← hF.eq, ← hx1, ← hXC]; rfl
        have hsz := blk_sizeK _ hxl
        have hone := blkV_one x.2
        have hXl : XC.length = 128 := by rw [← hXC, List.length_map, hxl]
        rw [hXC] at hsz hone
        obtain ⟨nl, hnl⟩ : ∃ nl, E.lasts.length = nl := ⟨_, rfl⟩
        rw [hnl, hx1] at hxs
        have hltI : (k : Int) < (n : Int) := by omega
        have hx1I : (x1 : Int) < (nl : Int) := by omega
        have hx10 : ¬ (x1 : Int) < 0 := by omega
        have hx1g : ¬ (nl : Int) ≤ (x1 : Int) := by omega
        have HW := Lib.hid (And.intro hrng hF)
        have HX := Lib.hid (And.intro hx (And.intro hx1 (And.intro hXC (And.intro hxl (And.intro hWC (And.intro hlt (And.intro hsz (And.intro hone hXl))))))))
        have HNL := Lib.hid hnl
        have HAF : Hid (Row ((wr.alloc (.cells (.int .i64 0 :: zW).toArray 136)).setRow wr.heap.size WC.toArray) wr.heap.size 136 WC ∧ Below wr.heap.size wr ((wr.alloc (.cells (.int .i64 0 :: zW).toArray 136)).setRow wr.heap.size WC.toArray)) := Lib.hid ⟨hF.row, hF.bel⟩
        clear hh hx hxl hxs hrng hF hWC hx1 hXC hlt hsz hone hXl hhn c1 hnl
        go_wp2_with (first
          | (with_reducible refine wpList_load_mid rfl 136 (.tmp 21) rfl gh (k * 129) rfl WC _ HW.out.1 Tryz.underlying136 rfl HW.out.2.size ?_)
          | (refine wpList_store_row rfl 136 (.tmp 4) (.tmp 22) rfl wr.heap.size WC.toArray rfl rfl 136 (Value.int IntKind.i64 0 :: zW).toArray HW.out.2.row0 (by rw [List.size_toArray]; exact HW.out.2.size) (by rw [List.size_toArray, List.size_toArray, HW.out.2.len, HW.out.2.z129]) HW.out.2.one ?_)
          | fail)
        have hAF := HAF.out
        generalize (wr.alloc (.cells (.int .i64 0 :: zW).toArray 136)).setRow wr.heap.size WC.toArray = W2 at hAF ⊢
        obtain ⟨q, hq⟩ : ∃ q, wr.heap.size = q := ⟨_, rfl⟩
        rw [hq] at hAF ⊢
        have hgr2 : w1.grownBy W2 (some gl) := HREL.out.gr.andThen (below_grow (by rw [hq]; exact hAF.2)) (fun j hj => by cases hj)
        have hrow2 : Row W2 gl 90 ((setAll (E.hangs.take k) E.lasts).flatten.map bv) := HREL.out.row.below hAF.2 (by rw [← hq]; exact HREL.out.row.lt)
        obtain ⟨RC, HRC⟩ : ∃ RC, Hid (RC = [Value.slice (some ⟨gl, 0, none⟩) nl nl, .slice (some ⟨gh, 0, none⟩) n c, .int .i64 (E.steps : Nat), .int .i64 E.fuse, .bool E.down]) := ⟨_, Lib.hid rfl⟩
        have hrp : Row W2 p 45 RC := by
          have h := (hgr2.block p HD.out.1.row.lt (fun e => HD.out.1.ne_lp (by injection e with e; exact e.symm))).trans HD.out.1.row
          rw [HNL.out] at h
          rw [HRC.out]
          exact h
        have h128 : ∀ b ∈ setAll (E.hangs.take k) E.lasts, b.length = 128 := setAll_rows HD.out.1.good.rows (fun x hx => HD.out.1.good.blks x (List.mem_of_mem_take hx))
        have hslen := setAll_len (E.hangs.take k) E.lasts
        have hfl := flat_length _ h128
        have hxb : x1 < nl := by omega
        have HS0 : Hid (Row W2.drew p 45 RC ∧ Row W2.drew q 136 WC) := Lib.hid ⟨hrp.drew, hAF.1.drew⟩
        have HW0 : Hid (WC[0]? = some (.int .i64 (x1 : Nat)) ∧ ∀ W : World, Row W q 136 WC → W.rangeAt q 1 XC) := Lib.hid ⟨by rw [HX.out.2.2.2.2.1]; rfl, fun W hW j v hj => by rw [hW.cell, HX.out.2.2.2.2.1, Nat.add_comm 1 j, List.getElem?_cons_succ]; exact hj⟩
        have HTH : Hid (W2.drew.there gl (x1 * 128) 128) := Lib.hid (row_thereK (Row.drew hrow2) (x1 * 128) 128 (by rw [List.length_map, hfl, hslen, HNL.out]; omega))
        have HFIN : Hid (RyR w1 gl E (k + 1) (W2.drew.setCells gl (x1 * 128) XC)) := Lib.hid (by
          have hsec := Row.sector (Row.drew hrow2) h128 x1 (by rw [hslen, HNL.out]; exact hxb) x.2 HX.out.2.2.2.1
          rw [HX.out.2.2.1] at hsec
          have hgd : w1.grownBy W2.drew (some gl) := ⟨hgr2.os, hgr2.tape, hgr2.output, hgr2.size, hgr2.block⟩
          refine ⟨?_, hgd.andThen (setCells_grown W2.drew gl (x1 * 128) XC) (fun j hj => .inr hj)⟩
          rw [take_one _ _ _ HX.out.1, setAll_snoc, HX.out.2.1]
          exact hsec)
        clear hAF hgr2 hrow2 hrp h128 hslen hfl hxb hq HAF
        refine wp_region_noPanic ?_
        refine region_held_last 9 (S := fun W => Row W p 45 RC ∧ Row W q 136 WC) (by kernel_rfl) (by kernel_rfl) rfl HS0.out (fun hHeld => ?_)
        simp only [List.take_succ_cons, List.take_zero]
        refine wpAnyH_take (i := 0) (oi := { dst := some 23, op := Op.move (Operand.tmp 0), type := 28, pos := "ref.go:77", after := #[], guard := none }) (v := ?vvs_0) rfl (by kernel_rfl) (by kernel_rfl) (by kernel_rfl) (fun _ _ _ h => h) (Or.inl ⟨by rfl, ?yys_0⟩) hHeld ?_
        case vvs_0 => exact .pointer (some ⟨p, 0, none⟩)
        case yys_0 =>
          intro W hS
          go_simp
        try simp only [Act.put, List.setIfInBounds_toArray, List.set_cons_zero, List.set_cons_succ]
        refine wpAnyH_take (i := 1) (oi := { dst := some 24, op := Op.nilCheck (Operand.tmp 23), type := 0, pos := "ref.go:77", after := #[{ on := 0, ground := Ground.data }], guard := none }) (v := ?vvs_1) rfl (by kernel_rfl) (by kernel_rfl) (by kernel_rfl) (fun _ _ _ h => h) (Or.inl ⟨by rfl, ?yys_1⟩) hHeld ?_
        case vvs_1 => exact .pointer (some ⟨p, 0, none⟩)
        case yys_1 =>
          intro W hS
          go_simp
        try simp only [Act.put, List.setIfInBounds_toArray, List.set_cons_zero, List.set_cons_succ]
        refine wpAnyH_take (i := 2) (oi := { dst := some 25, op := Op.fieldAddr 45 (Operand.tmp 24) 0, type := 0, pos := "ref.go:77", after := #[{ on := 1, ground := Ground.data }], guard := none }) (v := ?vvs_2) rfl (by kernel_rfl) (by kernel_rfl) (by kernel_rfl) (fun _ _ _ h => h) (Or.inl ⟨by rfl, ?yys_2⟩) hHeld ?_
        case vvs_2 => exact .pointer (some ⟨p, 0, none⟩)
        case yys_2 =>
          intro W hS
          go_simp
        try simp only [Act.put, List.setIfInBounds_toArray, List.set_cons_zero, List.set_cons_succ]
        refine wpAnyH_take (i := 3) (oi := { dst := some 26, op := Op.load 42 (Operand.tmp 25), type := 42, pos := "ref.go:77", after := #[{ on := 2, ground := Ground.data }], guard := none }) (v := ?vvs_3) rfl (by kernel_rfl) (by kernel_rfl) (by kernel_rfl) (fun _ _ _ h => h) (Or.inl ⟨by rfl, ?yys_3⟩) hHeld ?_
        case vvs_3 => exact .slice (some ⟨gl, 0, none⟩) nl nl
        case yys_3 =>
          intro W hS
          obtain ⟨s1, s2⟩ := hS
          have q0 := s1.cell 0
          simp only [HRC.out, List.getElem?_cons_zero] at q0
          go_simp
        try simp only [Act.put, List.setIfInBounds_toArray, List.set_cons_zero, List.set_cons_succ]
        refine wpAnyH_take (i := 4) (oi := { dst := some 27, op := Op.fieldAddr 136 (Operand.tmp 4) 0, type := 0, pos := "ref.go:77", after := #[], guard := none }) (v := ?vvs_4) rfl (by kernel_rfl) (by kernel_rfl) (by kernel_rfl) (fun _ _ _ h => h) (Or.inl ⟨by rfl, ?yys_4⟩) hHeld ?_
        case vvs_4 => exact .pointer (some ⟨q, 0, none⟩)
        case yys_4 =>
          intro W hS
          go_simp
        try simp only [Act.put, List.setIfInBounds_toArray, List.set_cons_zero, List.set_cons_succ]
        refine wpAnyH_take (i := 5) (oi := { dst := some 28, op := Op.load 3 (Operand.tmp 27), type := 3, pos := "ref.go:77", after := #[{ on := 4, ground := Ground.data }], guard := none }) (v := ?vvs_5) rfl (by kernel_rfl) (by kernel_rfl) (by kernel_rfl) (fun _ _ _ h => h) (Or.inl ⟨by rfl, ?yys_5⟩) hHeld ?_
        case vvs_5 => exact .int .i64 (x1 : Nat)
        case yys_5 =>
          intro W hS
          obtain ⟨s1, s2⟩ := hS
          have q0 := s2.cell 0
          rw [HW0.out.1] at q0
          go_simp
        try simp only [Act.put, List.setIfInBounds_toArray, List.set_cons_zero, List.set_cons_succ]
        refine wpAnyH_take (i := 6) (oi := { dst := some 29, op := Op.fieldAddr 136 (Operand.tmp 4) 1, type := 0, pos := "ref.go:77", after := #[], guard := none }) (v := ?vvs_6) rfl (by kernel_rfl) (by kernel_rfl) (by kernel_rfl) (fun _ _ _ h => h) (Or.inl ⟨by rfl, ?yys_6⟩) hHeld ?_
        case vvs_6 => exact .pointer (some ⟨q, 1, none⟩)
        case yys_6 =>
          intro W hS
          go_simp
        try simp only [Act.put, List.setIfInBounds_toArray, List.set_cons_zero, List.set_cons_succ]
        refine' wpAnyH_take (i := 7) (oi := { dst := some 30, op := Op.load 90 (Operand.tmp 29), type := 90, pos := "ref.go:77", after := #[{ on := 6, ground := Ground.data }], guard := none }) (v := _) rfl (by kernel_rfl) (by kernel_rfl) (by kernel_rfl) (fun _ _ _ h => h) (yieldsIf_load_mid (by rfl) _ _ rfl q 1 rfl XC _ (fun W h => HW0.out.2 W h.2) Tryz.underlying90 rfl HX.out.2.2.2.2.2.2.1) hHeld ?_
        try simp only [Act.put, List.setIfInBounds_toArray, List.set_cons_zero, List.set_cons_succ]
        refine wpAnyH_take (i := 8) (oi := { dst := some 31, op := Op.indexAddr 42 (Operand.tmp 26) (Operand.tmp 28), type := 0, pos := "ref.go:77", after := #[{ on := 3, ground := Ground.data }, { on := 5, ground := Ground.data }, { on := 0, ground := Ground.phase }, { on := 1, ground := Ground.phase }, { on := 2, ground := Ground.phase }, { on := 3, ground := Ground.phase }, { on := 4, ground := Ground.phase }, { on := 5, ground := Ground.phase }, { on := 6, ground := Ground.phase }, { on := 7, ground := Ground.phase }], guard := none }) (v := ?vvs_8) rfl (by kernel_rfl) (by kernel_rfl) (by kernel_rfl) (fun _ _ _ h => h) (Or.inl ⟨by rfl, ?yys_8⟩) hHeld ?_
        case vvs_8 => exact .pointer (some ⟨gl, x1 * 128, none⟩)
        case yys_8 =>
          intro W hS
          go_simp
        try simp only [Act.put, List.setIfInBounds_toArray, List.set_cons_zero, List.set_cons_succ]
        refine wpAnyH_done (by kernel_rfl) ?_ _
        show wpList _ _ _ [_] _ _
        refine wpList_store_mid rfl 90 (.tmp 31) (.tmp 30) rfl gl (x1 * 128) XC.toArray rfl rfl (by rw [List.size_toArray, HX.out.2.2.2.2.2.2.2.2]; exact HTH.out) (by rw [List.size_toArray]; exact HX.out.2.2.2.2.2.2.1) HX.out.2.2.2.2.2.2.2.1 ?_
        show NoPanic _ Exit.normal _ _
        refine NoPanic.normal ?_
        go_wp2_with fail
        have hlt := HX.out.2.2.2.2.2.1
        try simp only [Act.put, List.setIfInBounds_toArray, List.set_cons_zero, List.set_cons_succ, List.toList_toArray]
        go_roundw
        case rel => exact ⟨k + 1, by omega, by go_num, HFIN⟩
        case measure => simp [intOf]; omega
      · have hke : k = n := by omega
        subst hke
        have HZ : Hid (RefAt L wr p gl (.slice a k c) { E with lasts := setAll E.hangs E.lasts }) := Lib.hid (by
          have h := HREL.out.row
          rw [List.take_of_length_le (by rw [HD.out.2.2]; exact Nat.le_refl _)] at h
          exact HD.out.1.lasting HREL.out.gr h (setAll_len _ _) (setAll_rows HD.out.1.good.rows HD.out.1.good.blks))
        have c1 := HZ.out.row.cell 1
        have f1 := HZ.out.row.frozen 1
        simp only [List.getElem?_cons_zero, List.getElem?_cons_succ] at c1
        clear hlt
        go_wp2
        go_ret
        have hd := HZ.out.dropped
        rw [HN.out.2.1, HSET.out, HE.out]
        exact ⟨rfl, ⟨_, _, hd⟩, (HD.out.2.1.grown HREL.out.gr (fun q hq => by injection hq with hq; subst hq; exact .inl HD.out.1.fl)).setCell (p := ⟨p, 1, none⟩) (.inl HD.out.1.fp) _⟩
  · have hmf : D.may = false := by simpa using hm
    have e1 : D.stepErr = 13 := by unfold DS.stepErr; rw [hmf]; rfl
    have e2 : D.synced = D.stepped := by unfold DS.synced; rw [if_neg hm]
    rw [hmf] at HST
    rw [e1, e2]
    clear hm hmf e1 e2 h hs hh hdn
    go_enter Tryz.func51, Tryz.ntmps51
    go_wp2_with fail
    refine HST.out.mono ?_
    rintro e w1 ⟨rfl, hd1, hk1⟩
    have HD := Lib.hid (And.intro hd1 hk1)
    clear hd1 hk1 c4
    go_wp2
    go_ret
    exact ⟨rfl, ⟨_, _, HD.out.1⟩, HD.out.2⟩
end
end Go.Proofs.YtiaaeniopjpfpaaGreatDoor

namespace Go.Proofs.YtiaaeniopjpfpaaGreatDoor
open Go.RowKit Go.Maps
set_option linter.unusedVariables false
set_option linter.unusedSimpArgs false

theorem kept_low : ∀ (r : List (Nat × List UInt8)) (l : List (List UInt8)) (k : Int), k < 1 → kept r l k = l
  | [], l, k, h => rfl
  | x :: r, l, k, h => kept_stop x r l k h
theorem flat_set1 (l : List (List UInt8)) (h : ∀ b ∈ l, b.length = 128) (i : Nat) (hi : i < l.length) (j : Nat) (hj : j < 128) (c : UInt8) :
    (l.set i ((l.getD i []).set j c)).flatten = l.flatten.set (i * 128 + j) c := by
  induction l generalizing i with
  | nil => simp at hi
  | cons x l ih =>
    have hx := h x (by simp)
    cases i with
    | zero =>
      rw [List.set_cons_zero, List.flatten_cons, List.flatten_cons, Nat.zero_mul, Nat.zero_add, List.set_append_left _ _ (by omega)]
      rfl
    | succ i =>
      rw [List.set_cons_succ, List.flatten_cons, List.flatten_cons, List.set_append_right _ _ (by omega), hx]
      have e : (i + 1) * 128 + j - 128 = i * 128 + j := by omega
      rw [e, ← ih (fun b hb => h b (by simp [hb])) i (by simpa using hi)]
      rfl
/-- The first bytes of x over b. -/
def overB (x b : List UInt8) (m : Nat) : List UInt8 := x.take m ++ b.drop m
theorem overB_len {x b : List UInt8} (hx : x.length = 128) (hb : b.length = 128) {m : Nat} (hm : m ≤ 128) : (overB x b m).length = 128 := by
  unfold overB
  rw [List.length_append, List.length_take, List.length_drop, hx, hb]
  omega
theorem getD_set_self {l : List (List UInt8)} {i : Nat} (hi : i < l.length) (b : List UInt8) : (l.set i b).getD i [] = b := by
  rw [List.getD_eq_getElem?_getD, List.getElem?_set_self hi]
  rfl

theorem set_over_none {cur : List (List UInt8)} {i : Nat} (hi : i < cur.length) {x : List UInt8} : cur.set i (overB x (cur.getD i []) 0) = cur := by
  unfold overB
  rw [List.take_zero, List.drop_zero, List.nil_append]
  apply List.ext_getElem?
  intro j
  rw [List.getElem?_set]
  split
  · rename_i h; subst h
    rw [List.getD_eq_getElem?_getD, List.getElem?_eq_getElem hi]; rfl
  · rfl
theorem setCell_grown (w : World) (g o : Nat) (v : Value) : w.grownBy (w.setCell ⟨g, o, none⟩ v) (some g) :=
  ⟨rfl, rfl, rfl, by simp [World.setCell], fun k hk hne => Below.heap_setCell w ⟨g, o, none⟩ v k (fun e => hne (by rw [e]))⟩
/-- The inner loop's relation: behind i bytes m of them are done. -/
structure InR (D : DS) (gl : Nat) (w wr : World) (K : Int) (x : Nat × List UInt8) (cur : List (List UInt8)) (i m : Nat) : Prop where
  mi : m ≤ i
  full : m < i → K - m < 1
  pos : 0 < m → (m : Int) ≤ K
  row : Row wr gl 90 ((cur.set x.1 (overB x.2 (cur.getD x.1 []) m)).flatten.map bv)
  gr : w.grownBy wr (some gl)

section
variable {L L' : Nat → Prop} {w w' : World} {p gl : Nat} {hv : Value} {D D' : DS}
end
end Go.Proofs.YtiaaeniopjpfpaaGreatDoor

namespace Go.Proofs.YtiaaeniopjpfpaaGreatDoor
open Go.ChangeShapes Go.WideShapes Go.RowKit Go.Deep
set_option linter.unusedVariables false
end Go.Proofs.YtiaaeniopjpfpaaGreatDoor

namespace Go.Proofs.YtiaaeniopjpfpaaGreatDoor
open Go.RowKit Go.Maps
set_option linter.unusedVariables false

/-- What the document's disk is, where the disk is D. -/
def DS.reff (D : DS) : DS := { D with fuse := max D.fuse (-1) }
theorem reff_may (D : DS) : D.reff.may = D.may := by
  unfold DS.may DS.reff
  congr 1
  apply decide_eq_decide.2
  show max D.fuse (-1) ≠ 0 ↔ D.fuse ≠ 0
  omega
theorem reff_stepped (D : DS) : D.stepped.reff = D.reff.stepped := by
  have hfu : D.reff.fuse = max D.fuse (-1) := rfl
  have hdw : D.reff.down = D.down := rfl
  unfold DS.stepped
  rw [hfu, hdw]
  by_cases h0 : D.fuse = 0
  · rw [if_pos h0, if_pos (show max D.fuse (-1) = 0 by omega)]
    rfl
  · rw [if_neg h0, if_neg (show ¬ max D.fuse (-1) = 0 by omega)]
    by_cases hd : D.down = true
    · rw [if_pos hd, if_pos hd]
    · rw [if_neg hd, if_neg hd]
      unfold DS.reff
      congr 1
      show max (if 0 < D.fuse then D.fuse - 1 else D.fuse) (-1) = if 0 < max D.fuse (-1) then max D.fuse (-1) - 1 else max D.fuse (-1)
      split <;> split <;> omega
theorem reff_fault (D : DS) (k : Int) : D.reff.fault k = D.fault k := rfl
theorem reff_read (D : DS) (k : Int) : D.reff.read k = D.read k := rfl
theorem reff_stepErr (D : DS) : D.reff.stepErr = D.stepErr := by unfold DS.stepErr; rw [reff_may]
theorem reff_writeErr (D : DS) (k : Int) : D.reff.writeErr k = D.writeErr k := by unfold DS.writeErr; rw [reff_stepErr]; rfl
theorem reff_written (D : DS) (k : Int) (b : List UInt8) : (D.written k b).reff = D.reff.written k b := by
  unfold DS.written
  rw [reff_fault, reff_may, ← reff_stepped]
  split
  · rfl
  · split <;> rfl
theorem reff_synced (D : DS) : D.synced.reff = D.reff.synced := by
  unfold DS.synced
  rw [reff_may, ← reff_stepped]
  split <;> rfl
theorem reff_crashed (D : DS) (k : Int) : (D.crashed k).reff = D.reff.crashed k := rfl
theorem reff_new (n : Nat) : (newDS n).reff = newDS n := rfl
theorem stepped_count (D : DS) : D.stepped.steps ≤ D.steps + 1 := by
  unfold DS.stepped
  split
  · exact Nat.le_succ _
  · split
    · exact Nat.le_succ _
    · exact Nat.le_refl _
theorem written_count (D : DS) (k : Int) (b : List UInt8) : (D.written k b).steps ≤ D.steps + 1 ∧ (D.written k b).hangs.length ≤ D.hangs.length + 1 := by
  unfold DS.written
  have h1 := stepped_count D
  have h2 := (stepped_same D).2
  split
  · exact ⟨Nat.le_succ _, Nat.le_succ _⟩
  · split
    · exact ⟨h1, by simp⟩
    · exact ⟨h1, by rw [h2]; exact Nat.le_succ _⟩
theorem synced_count (D : DS) : D.synced.steps ≤ D.steps + 1 ∧ D.synced.hangs.length ≤ D.hangs.length + 1 := by
  unfold DS.synced
  have h1 := stepped_count D
  have h2 := (stepped_same D).2
  split
  · exact ⟨h1, by simp⟩
  · exact ⟨h1, by rw [h2]; exact Nat.le_succ _⟩

/-- Both in memory, apart from each other, and from T. -/
def Pair (T : Nat → Prop) (w : World) (p q : Nat) (D E : DS) : Prop :=
  ∃ S : Nat → Prop, (∀ k, S k → k < w.heap.size) ∧ (∀ k, T k → S k) ∧ DiskIs S w p D ∧ RefIs (fun k => T k ∨ (k < w.heap.size ∧ ¬ S k)) w q E

section
variable {T T' : Nat → Prop} {w w' : World} {p q : Nat} {D E D' E' : DS}
theorem Pair.grow (h : Pair T w p q D E) (hb : Below w.heap.size w w') (hT : ∀ k, T' k → T k ∨ (w.heap.size ≤ k ∧ k < w'.heap.size)) : Pair T' w' p q D E := by
  obtain ⟨S, hS, hTS, hd, hr⟩ := h
  have hsz := hb.size
  refine ⟨fun k => k < w'.heap.size ∧ (S k ∨ w.heap.size ≤ k), fun k hk => hk.1, fun k hk => ?_, ?_, ?_⟩
  · rcases hT k hk with h | ⟨h1, h2⟩
    · have := hS k (hTS k h)
      exact ⟨by omega, .inl (hTS k h)⟩
    · exact ⟨h2, .inr h1⟩
  · exact (hd.more (fun g hg => hg.2)).below hb
  · refine (hr.more (fun g hg => ?_)).below hb
    rcases hg with hg | ⟨hg1, hg2⟩
    · rcases hT g hg with h | ⟨h1, _⟩
      · exact .inl (.inl h)
      · exact .inr h1
    · by_cases hlt : g < w.heap.size
      · exact .inl (.inr ⟨hlt, fun hs => hg2 ⟨hg1, .inl hs⟩⟩)
      · exact .inr (by omega)
theorem Pair.less (h : Pair T w p q D E) (hT : ∀ k, T' k → T k) : Pair T' w p q D E := h.grow (Below.refl _ _) (fun k hk => .inl (hT k hk))
theorem Pair.below (h : Pair T w p q D E) (hb : Below w.heap.size w w') : Pair T w' p q D E := h.grow hb (fun k hk => .inl hk)
theorem Pair.lt (h : Pair T w p q D E) (k : Nat) (hk : T k) : k < w.heap.size := by
  obtain ⟨S, hS, hTS, _⟩ := h
  exact hS k (hTS k hk)
theorem Pair.disk {F : Nat} {args : Array Value} {Post : Ending → Prop} (h : Pair T w p q D E)
    (hc : ∀ (S : Nat → Prop) gl gm hv Dm, (∀ k, S k → k < w.heap.size) → DiskAt S w p gl gm hv Dm D → Calls Tryz.prog F args w fun e w' => Post e ∧ DiskIs S w' p D' ∧ Keeps S w w') :
    Calls Tryz.prog F args w fun e w' => Post e ∧ Pair T w' p q D' E ∧ Keeps T w w' := by
  obtain ⟨S, hS, hTS, ⟨gl, gm, hv, Dm, hd⟩, hr⟩ := h
  refine (hc S gl gm hv Dm hS hd).mono ?_
  rintro e w1 ⟨he, hd1, hk⟩
  have hsz := hk.size
  refine ⟨he, ⟨S, fun k h => by have := hS k h; omega, hTS, hd1, ?_⟩, hk.mono hTS⟩
  refine RefIs.keeps (M := S) (hr.more (fun g hg => ?_)) hk (fun g hg hn => ?_)
  · rcases hg with hg | ⟨hg1, hg2⟩
    · exact .inl (.inl hg)
    · by_cases hlt : g < w.heap.size
      · exact .inl (.inr ⟨hlt, hg2⟩)
      · exact .inr (by omega)
  · apply Classical.byContradiction
    intro hs
    exact hn (.inr ⟨by omega, hs⟩)
theorem Pair.ref {F : Nat} {args : Array Value} {Post : Ending → Prop} (h : Pair T w p q D E)
    (hc : ∀ (S : Nat → Prop) gl hv, (∀ k, S k → k < w.heap.size) → RefAt S w q gl hv E → Calls Tryz.prog F args w fun e w' => Post e ∧ RefIs S w' q E' ∧ Keeps S w w') :
    Calls Tryz.prog F args w fun e w' => Post e ∧ Pair T w' p q D E' ∧ Keeps T w w' := by
  obtain ⟨S, hS, hTS, hd, gl, hv, hr⟩ := h
  refine (hc _ gl hv (fun k hk => ?_) hr).mono ?_
  · rcases hk with hk | hk
    · exact hS k (hTS k hk)
    · exact hk.1
  rintro e w1 ⟨he, hr1, hk⟩
  have hsz := hk.size
  refine ⟨he, ⟨fun k => k < w1.heap.size ∧ (S k ∨ w.heap.size ≤ k), fun k h => h.1, fun k h => ⟨by have := hS k (hTS k h); omega, .inl (hTS k h)⟩, ?_, ?_⟩, hk.mono (fun k h => .inl h)⟩
  · refine DiskIs.keeps (hd.more (fun g hg => hg.2)) hk (fun g hg hn => .inr ⟨hg, fun hs => hn ⟨by omega, .inl hs⟩⟩)
  · refine hr1.more (fun g hg => ?_)
    rcases hg with hg | ⟨hg1, hg2⟩
    · exact .inl (.inl hg)
    · by_cases hlt : g < w.heap.size
      · exact .inl (.inr ⟨hlt, fun hs => hg2 ⟨hg1, .inl hs⟩⟩)
      · exact absurd ⟨hg1, .inr (by omega)⟩ hg2
theorem Pair.diskAt (h : Pair T w p q D E) : ∃ S gl gm hv Dm, DiskAt S w p gl gm hv Dm D := by
  obtain ⟨S, _, _, ⟨gl, gm, hv, Dm, hd⟩, _⟩ := h
  exact ⟨S, gl, gm, hv, Dm, hd⟩
theorem Pair.refAt (h : Pair T w p q D E) : ∃ S gl hv, RefAt S w q gl hv E := by
  obtain ⟨S, _, _, _, gl, hv, hd⟩ := h
  exact ⟨_, gl, hv, hd⟩
end
end Go.Proofs.YtiaaeniopjpfpaaGreatDoor

namespace Go.Proofs.YtiaaeniopjpfpaaGreatDoor
open Go Go.RowKit Go.Maps
set_option linter.unusedVariables false
set_option linter.unusedSimpArgs false

theorem stepped_down {D : DS} (h : D.may = true) : D.stepped.down = D.down := by
  unfold DS.may at h
  simp only [Bool.and_eq_true, decide_eq_true_eq, Bool.not_eq_true'] at h
  unfold DS.stepped
  rw [if_neg h.1, if_neg (by rw [h.2]; simp)]
theorem stepErr_zero {D : DS} (h : D.stepErr = 0) : D.may = true := by
  unfold DS.stepErr at h
  split at h
  · assumption
  · cases h
theorem may_down {D : DS} (h : D.may = true) : D.down = false := by
  unfold DS.may at h
  simp only [Bool.and_eq_true, decide_eq_true_eq, Bool.not_eq_true'] at h
  exact h.2
theorem writeErr_zero {D : DS} {k : Int} (h : D.writeErr k = 0) : D.fault k = 0 ∧ D.may = true := by
  unfold DS.writeErr at h
  split at h
  · rename_i hf; exact absurd h hf
  · rename_i hf
    exact ⟨Classical.not_not.1 hf, stepErr_zero h⟩
theorem written_eq {D : DS} {k : Int} (b : List UInt8) (h : D.writeErr k = 0) : D.written k b = { D.stepped with hangs := D.hangs ++ [(k.toNat, b)] } := by
  obtain ⟨h1, h2⟩ := writeErr_zero h
  unfold DS.written
  rw [if_neg (by rw [h1]; simp), if_pos h2]
theorem blk_written {D : DS} {k : Nat} (b : List UInt8) (h : D.writeErr (k : Nat) = 0) (j : Nat) : (D.written (k : Nat) b).blk (j : Nat) = if k = j then b else D.blk (j : Nat) := by
  rw [written_eq b h]
  unfold DS.blk
  show (match lastAt (D.hangs ++ [(((k : Nat) : Int).toNat, b)]) (j : Nat) with | some i => ((D.hangs ++ [(((k : Nat) : Int).toNat, b)]).getD i (0, [])).2 | none => D.stepped.lasts.getD ((j : Nat) : Int).toNat []) = _
  rw [lastAt_snoc, (stepped_same D).1]
  by_cases e : k = j
  · subst e
    rw [if_pos (by simp), if_pos rfl]
    simp [List.getD]
  · rw [if_neg (by simp; omega), if_neg e]
    cases hl : lastAt D.hangs (j : Nat) with
    | none => rfl
    | some i =>
      have := lastAt_lt hl
      simp [List.getD, List.getElem?_append_left this]
theorem blk_synced {D : DS} (h : D.stepErr = 0) (j : Nat) (hj : j < D.lasts.length) : D.synced.blk (j : Nat) = D.blk (j : Nat) := by
  have h2 := stepErr_zero h
  have e : D.synced = { D.stepped with lasts := D.settled, hangs := [] } := by unfold DS.synced; rw [if_pos h2]
  rw [e]
  unfold DS.blk
  show (match lastAt [] (j : Nat) with | some i => (([] : List (Nat × List UInt8)).getD i (0, [])).2 | none => D.settled.getD ((j : Nat) : Int).toNat []) = _
  rw [lastAt_nil]
  show D.settled.getD j [] = _
  unfold DS.settled
  rw [List.getD_eq_getElem?_getD, List.getElem?_mapIdx, List.getElem?_eq_getElem hj]
  simp only [Option.map_some, Option.getD_some]
  cases hl : lastAt D.hangs (j : Nat) with
  | none => simp [List.getD, hj]
  | some i => rfl
/-- A disk with power. -/
theorem read_blk {D : DS} (hd : D.down = false) (j : Nat) (hj : j < D.lasts.length) : D.read (j : Nat) = D.blk (j : Nat) := by
  unfold DS.read
  rw [if_pos (fault_in hd j hj)]
/-- What is there behind pieces that were written: power, as many sectors, nothing that hangs, and what each reads as. -/
structure Wrote (D D' : DS) (a : Nat) (l : List UInt8) : Prop where
  down : D'.down = false
  len : D'.lasts.length = D.lasts.length
  hang : D'.hangs = []
  read : ∀ j, j < D.lasts.length → D'.blk (j : Nat) = if a ≤ j ∧ j * 128 < a * 128 + l.length then pad128 (l.drop ((j - a) * 128)) else D.blk (j : Nat)
theorem putG_wrote (n : Nat) (D : DS) (a : Nat) (l : List UInt8) (hn : l.length ≤ n * 128) (h : (putG n D a l).2 = 0) : Wrote D (putG n D a l).1 a l := by
  have syn : ∀ (D : DS), D.stepErr = 0 → Wrote D D.synced a [] := fun D h => by
    have h2 := stepErr_zero h
    have e : D.synced = { D.stepped with lasts := D.settled, hangs := [] } := by unfold DS.synced; rw [if_pos h2]
    refine ⟨by rw [e]; exact (stepped_down h2).trans (may_down h2), by rw [e]; simp [DS.settled], by rw [e], fun j hj => ?_⟩
    rw [if_neg (by rw [List.length_nil]; omega)]
    exact blk_synced h j hj
  induction n generalizing D a l with
  | zero =>
    obtain rfl : l = [] := List.length_eq_zero_iff.1 (by omega)
    exact syn D h
  | succ n ih =>
    unfold putG at h ⊢
    by_cases hl : l = []
    · subst hl
      rw [if_pos rfl] at h ⊢
      exact syn D h
    · rw [if_neg hl] at h ⊢
      by_cases hw : D.writeErr (a : Nat) = 0
      · rw [if_neg (by rw [hw]; simp)] at h ⊢
        have hl0 : 0 < l.length := List.length_pos_iff.2 hl
        obtain ⟨hf, hm⟩ := writeErr_zero hw
        have hlen : (D.written (a : Nat) (pad128 l)).lasts.length = D.lasts.length := by rw [written_eq _ hw]; exact congrArg List.length (stepped_same D).1
        have hI := ih (D.written (a : Nat) (pad128 l)) (a + 1) (l.drop 128) (by rw [List.length_drop]; omega) h (fun D h => by
          have h2 := stepErr_zero h
          have e : D.synced = { D.stepped with lasts := D.settled, hangs := [] } := by unfold DS.synced; rw [if_pos h2]
          refine ⟨by rw [e]; exact (stepped_down h2).trans (may_down h2), by rw [e]; simp [DS.settled], by rw [e], fun j hj => ?_⟩
          rw [if_neg (by rw [List.length_nil]; omega)]
          exact blk_synced h j hj)
        refine ⟨hI.down, hI.len.trans hlen, hI.hang, fun j hj => ?_⟩
        rw [hI.read j (by rw [hlen]; exact hj), List.length_drop, blk_written _ hw]
        by_cases h1 : a = j
        · subst h1
          rw [if_neg (by omega), if_pos rfl, if_pos (by omega), Nat.sub_self, Nat.zero_mul, List.drop_zero]
        · by_cases h2 : a ≤ j ∧ j * 128 < a * 128 + l.length
          · rw [if_pos (by omega), if_pos h2, List.drop_drop]
            congr 2
            omega
          · rw [if_neg (by omega), if_neg h1, if_neg h2]
      · rw [if_pos hw] at h
        exact absurd h hw
theorem putG_fuel (n m : Nat) (D : DS) (a : Nat) (l : List UInt8) (hn : l.length ≤ n * 128) (hm : l.length ≤ m * 128) : putG n D a l = putG m D a l := by
  induction n generalizing D a l m with
  | zero =>
    obtain rfl : l = [] := List.length_eq_zero_iff.1 (by omega)
    rw [putG_nil, putG_nil]
  | succ n ih =>
    by_cases hl : l = []
    · subst hl
      rw [putG_nil, putG_nil]
    · have hl0 : 0 < l.length := List.length_pos_iff.2 hl
      obtain ⟨m, rfl⟩ : ∃ k, m = k + 1 := ⟨m - 1, by omega⟩
      unfold putG
      rw [if_neg hl, if_neg hl]
      split
      · rfl
      · exact ih m _ _ _ (by rw [List.length_drop]; omega) (by rw [List.length_drop]; omega)
theorem putG_reff (n : Nat) (D : DS) (a : Nat) (l : List UInt8) : (putG n D.reff a l).2 = (putG n D a l).2 ∧ (putG n D.reff a l).1 = (putG n D a l).1.reff := by
  induction n generalizing D a l with
  | zero => exact ⟨reff_stepErr D, (reff_synced D).symm⟩
  | succ n ih =>
    unfold putG
    rw [reff_writeErr]
    split
    · exact ⟨reff_stepErr D, (reff_synced D).symm⟩
    · split
      · exact ⟨rfl, (reff_written D _ _).symm⟩
      · rw [← reff_written]
        exact ih _ _ _
end Go.Proofs.YtiaaeniopjpfpaaGreatDoor

namespace Go.Proofs.YtiaaeniopjpfpaaGreatDoor
open Go Go.RowKit Go.Maps
set_option linter.unusedVariables false
set_option linter.unusedSimpArgs false

theorem bytesN_eq (D : DS) (a : Nat) (E : List UInt8) (n : Nat) (h : ∀ j, j < n → D.read ((a + j : Nat) : Int) = (E.drop (j * 128)).take 128) : bytesN D a n = E.take (n * 128) := by
  induction n with
  | zero => simp [bytesN]
  | succ n ih =>
    unfold bytesN
    rw [ih (fun j hj => h j (by omega)), h n (by omega), show (n + 1) * 128 = n * 128 + 128 by omega, List.take_add]
theorem pad_take (X : List UInt8) (z : Nat) (h : 128 ≤ X.length + z) : (X ++ List.replicate z 0).take 128 = pad128 X := by
  unfold pad128
  rw [List.take_append, List.take_replicate, Nat.min_eq_left (by omega)]
theorem bytesN_read (D : DS) (a : Nat) (hl : ∀ j, (D.read ((a + j : Nat) : Int)).length = 128) (n : Nat) : (bytesN D a n).length = n * 128 ∧ ∀ j, j < n → D.read ((a + j : Nat) : Int) = ((bytesN D a n).drop (j * 128)).take 128 := by
  induction n with
  | zero => exact ⟨rfl, fun j hj => by omega⟩
  | succ n ih =>
    unfold bytesN
    refine ⟨by rw [List.length_append, ih.1, hl n]; omega, fun j hj => ?_⟩
    rcases (by omega : j < n ∨ j = n) with h | h
    · rw [List.drop_append_of_le_length (by rw [ih.1]; omega), List.take_append_of_le_length (by rw [List.length_drop, ih.1]; omega)]
      exact ih.2 j h
    · subst h
      rw [List.drop_append_of_le_length (by rw [ih.1]; omega), List.drop_of_length_le (by rw [ih.1]; omega), List.nil_append, List.take_of_length_le (by rw [hl j]; omega)]
/-- A put behind what there is. -/
theorem bytes_put {D D' : DS} (hD : D.ok) (a S : Nat) (bytes f : List UInt8) (z : Nat) (hd : D.down = false) (hin : a + S ≤ D.lasts.length) (hc : bytesN D a S = bytes ++ List.replicate z 0)
    (hw : Wrote D D' (a + bytes.length / 128) (bytes.drop (bytes.length / 128 * 128) ++ f)) (hfit : bytes.length + f.length ≤ S * 128) :
    bytesN D' a S = (bytes ++ f) ++ List.replicate (S * 128 - bytes.length - f.length) 0 := by
  have hlen := bytesN_length D hD hd a S hin
  have hz : bytes.length + z = S * 128 := by
    rw [hc, List.length_append, List.length_replicate] at hlen
    exact hlen
  have hE : ((bytes ++ f) ++ List.replicate (S * 128 - bytes.length - f.length) (0 : UInt8)).length = S * 128 := by
    rw [List.length_append, List.length_append, List.length_replicate]
    omega
  have hold : ∀ j, j < S → D.read ((a + j : Nat) : Int) = ((bytes ++ List.replicate z 0).drop (j * 128)).take 128 := by
    have h : ∀ n, n ≤ S → ∀ j, j < n → D.read ((a + j : Nat) : Int) = ((bytesN D a n).drop (j * 128)).take 128 := by
      intro n
      induction n with
      | zero => intro _ j hj; omega
      | succ n ih =>
        intro hn j hj
        have hl := bytesN_length D hD hd a n (by omega)
        unfold bytesN
        rcases (by omega : j < n ∨ j = n) with h | h
        · rw [List.drop_append_of_le_length (by omega), List.take_append_of_le_length (by rw [List.length_drop]; omega)]
          exact ih (by omega) j h
        · subst h
          rw [List.drop_append_of_le_length (by omega), List.drop_of_length_le (by omega), List.nil_append, List.take_of_length_le (by rw [readB_len hD hd (a + j) (by omega)]; omega)]
    intro j hj
    rw [← hc]
    exact h S (Nat.le_refl _) j hj
  have hb := bytesN_eq D' a ((bytes ++ f) ++ List.replicate (S * 128 - bytes.length - f.length) 0) S (fun j hj => ?_)
  · rw [hb, List.take_of_length_le (by omega)]
  · rw [read_blk hw.down (a + j) (by rw [hw.len]; omega), hw.read (a + j) (by omega)]
    have hq : bytes.length / 128 * 128 ≤ bytes.length := Nat.div_mul_le_self _ _
    have hll : (bytes.drop (bytes.length / 128 * 128) ++ f).length = bytes.length - bytes.length / 128 * 128 + f.length := by rw [List.length_append, List.length_drop]
    rw [hll]
    by_cases h1 : bytes.length / 128 ≤ j
    · have hdr : ∀ Y : List UInt8, (bytes ++ Y).drop (j * 128) = (bytes.drop (bytes.length / 128 * 128) ++ Y).drop ((j - bytes.length / 128) * 128) := fun Y => by
        have e : bytes ++ Y = bytes.take (bytes.length / 128 * 128) ++ (bytes.drop (bytes.length / 128 * 128) ++ Y) := by rw [← List.append_assoc, List.take_append_drop]
        have hl : (bytes.take (bytes.length / 128 * 128)).length = bytes.length / 128 * 128 := by rw [List.length_take]; omega
        conv => lhs; rw [e]
        rw [List.drop_append, List.drop_of_length_le (by rw [hl]; omega), List.nil_append, hl]
        congr 1
        omega
      by_cases h2 : j * 128 < bytes.length + f.length
      · rw [if_pos ⟨by omega, by omega⟩, show a + j - (a + bytes.length / 128) = j - bytes.length / 128 by omega]
        conv => rhs; rw [List.append_assoc, hdr, ← List.append_assoc, List.drop_append_of_le_length (by rw [hll]; omega), pad_take _ _ (by rw [List.length_drop, hll]; omega)]
      · rw [if_neg (by omega), ← read_blk hd (a + j) (by omega), hold j hj, List.drop_append, List.drop_of_length_le (by omega), List.nil_append, List.drop_replicate, List.take_replicate,
          List.drop_append, List.drop_of_length_le (by rw [List.length_append]; omega), List.nil_append, List.drop_replicate, List.take_replicate]
        congr 1
        rw [List.length_append]
        omega
    · rw [if_neg (by omega), ← read_blk hd (a + j) (by omega), hold j hj, List.append_assoc, List.drop_append_of_le_length (by omega), List.drop_append_of_le_length (by omega),
        List.take_append_of_le_length (by rw [List.length_drop]; omega), List.take_append_of_le_length (by rw [List.length_drop]; omega)]
/-- Noughts over a whole half. -/
theorem bytes_zero {D D' : DS} (a S : Nat) (hin : a + S ≤ D.lasts.length) (hw : Wrote D D' a (List.replicate (S * 128) 0)) : bytesN D' a S = List.replicate (S * 128) 0 := by
  have hb := bytesN_eq D' a (List.replicate (S * 128) 0) S (fun j hj => ?_)
  · rw [hb, List.take_of_length_le (by rw [List.length_replicate]; omega)]
  · rw [read_blk hw.down (a + j) (by rw [hw.len]; omega), hw.read (a + j) (by omega), if_pos ⟨by omega, by rw [List.length_replicate]; omega⟩]
    unfold pad128
    rw [List.drop_replicate, List.drop_replicate, List.take_replicate, List.take_replicate, List.length_replicate, List.replicate_append_replicate]
    congr 1
    omega
/-- What is elsewhere stays. -/
theorem read_else {D D' : DS} {a : Nat} {l : List UInt8} (hw : Wrote D D' a l) (hd : D.down = false) (j : Nat) (hj : j < D.lasts.length) (h : j < a ∨ a * 128 + l.length ≤ j * 128) : D'.read ((j : Nat) : Int) = D.read ((j : Nat) : Int) := by
  rw [read_blk hw.down j (by rw [hw.len]; exact hj), read_blk hd j hj, hw.read j hj, if_neg (by omega)]

/-- Texts' frames, one behind the other. -/
def catF : Nat → List (List UInt8) → List UInt8
  | _, [] => []
  | n, t :: ts => frameL n t ++ catF (n + 1) ts
theorem catF_snoc (n : Nat) (ts : List (List UInt8)) (t : List UInt8) : catF n (ts ++ [t]) = catF n ts ++ frameL (n + ts.length) t := by
  induction ts generalizing n with
  | nil => simp [catF]
  | cons a ts ih =>
    show frameL n a ++ catF (n + 1) (ts ++ [t]) = (frameL n a ++ catF (n + 1) ts) ++ _
    rw [ih, List.append_assoc, List.length_cons]
    congr 3
    omega
def endsF : Nat → List (List UInt8) → List (Nat × List UInt8)
  | _, [] => []
  | e, t :: ts => (e + (t.length + 28), t) :: endsF (e + (t.length + 28)) ts
theorem endsF_map (e : Nat) (ts : List (List UInt8)) : (endsF e ts).map (·.2) = ts := by
  induction ts generalizing e with
  | nil => rfl
  | cons a ts ih => show a :: _ = _; rw [ih]
theorem endsF_length (e : Nat) (ts : List (List UInt8)) : (endsF e ts).length = ts.length := by
  have := congrArg List.length (endsF_map e ts)
  rwa [List.length_map] at this
theorem catF_length (n : Nat) (ts : List (List UInt8)) : 28 * ts.length ≤ (catF n ts).length := by
  induction ts generalizing n with
  | nil => simp [catF]
  | cons a ts ih =>
    show 28 * (ts.length + 1) ≤ (frameL n a ++ catF (n + 1) ts).length
    have := ih (n + 1)
    rw [List.length_append, frameL_length]
    omega
theorem usedL_ends (n e : Nat) (ts : List (List UInt8)) : usedL e (endsF e ts) = e + (catF n ts).length := by
  induction ts generalizing n e with
  | nil => rfl
  | cons a ts ih =>
    show usedL e ((e + (a.length + 28), a) :: endsF (e + (a.length + 28)) ts) = e + (frameL n a ++ catF (n + 1) ts).length
    rw [List.length_append, frameL_length]
    have h := ih (n + 1) (e + (a.length + 28))
    cases hts : endsF (e + (a.length + 28)) ts with
    | nil =>
      rw [hts] at h
      have h2 : usedL (e + (a.length + 28)) [] = e + (a.length + 28) := rfl
      rw [h2] at h
      show e + (a.length + 28) = _
      omega
    | cons x xs =>
      rw [hts] at h
      have h2 : usedL e ((e + (a.length + 28), a) :: x :: xs) = usedL (e + (a.length + 28)) (x :: xs) := by
        unfold usedL
        rw [List.getLast?_cons_cons]
        rw [List.getLast?_cons]
      rw [h2, h]
      omega
theorem frames_cat (ts : List (List UInt8)) (k n e z : Nat) (hk : ts.length ≤ k) (hn : ∀ j, n ≤ j → j ≤ n + ts.length → putL j 4 ≠ [0, 0, 0, 0]) (ht : ∀ t ∈ ts, t.length < 4294967296) :
    framesF k n e (catF n ts ++ List.replicate z 0) = endsF e ts := by
  induction ts generalizing k n e with
  | nil => exact framesF_none (framed_zeros n z (hn n (Nat.le_refl _) (Nat.le_add_right _ _)))
  | cons a ts ih =>
    obtain ⟨k, rfl⟩ : ∃ j, k = j + 1 := ⟨k - 1, by simp at hk; omega⟩
    have hfr : framedL n (catF n (a :: ts) ++ List.replicate z 0) = some a := by
      show framedL n ((frameL n a ++ catF (n + 1) ts) ++ List.replicate z 0) = some a
      rw [List.append_assoc]
      exact framed_frame n a _ (ht a List.mem_cons_self)
    have hdr : (catF n (a :: ts) ++ List.replicate z 0).drop (a.length + 28) = catF (n + 1) ts ++ List.replicate z 0 := by
      show ((frameL n a ++ catF (n + 1) ts) ++ List.replicate z 0).drop (a.length + 28) = _
      have hl := frameL_length n a
      rw [List.append_assoc, List.drop_append, List.drop_of_length_le (by omega), List.nil_append, show a.length + 28 - (frameL n a).length = 0 by omega, List.drop_zero]
    rw [framesF_some hfr, hdr, ih k (n + 1) _ (by simp at hk; omega) (fun j h1 h2 => hn j (by omega) (by simp; omega)) (fun t h => ht t (List.mem_cons_of_mem _ h))]
    rfl
end Go.Proofs.YtiaaeniopjpfpaaGreatDoor

namespace Go.Proofs.YtiaaeniopjpfpaaGreatDoor
open Go.RowKit
set_option linter.unusedVariables false

theorem wpList_buildOf {P : Program} {ops : Array Oper} {rest : List Oper} {o : Oper} {a : Act} {w : World} {Q : Exit → Act → World → Prop} (hg : o.guard = none) (t e : TypeId) (len : Nat) (parts : Array (Nat × Operand)) (ho : o.op = .buildSlice t len parts)
    (vs : List Value) (N : Nat) (hN : w.heap.size = N) (d : Option Tmp) (hd : o.dst = d)
    (hu : P.underlying t = some (.slice e)) (hsz : (P.info? e).map (·.size) = some 1) (hz : ((P.info? e).bind (·.zero)).isSome = true)
    (hlen : len = vs.length) (hpos : 0 < len) (hsmall : len ≤ 2 ^ 24) (h1 : ∀ v ∈ vs, v.cells = #[v])
    (hparts : (parts.map fun (i, x) => (i, a.eval x)).toList = (vs.zipIdx 0).map fun x => (x.2, x.1))
    (h : wpList P ops Q rest (a.put d (.slice (some ⟨N, 0, none⟩) len len)) (w.alloc (.cells vs.toArray e))) : wpList P ops Q (o :: rest) a w := by
  subst hN hd
  cases hie : P.info? e with
  | none => simp [hie] at hsz
  | some ie =>
    simp only [hie, Option.map_some, Option.some.injEq, Option.bind_some] at hsz hz
    obtain ⟨z, hzz⟩ := Option.isSome_iff_exists.1 hz
    refine wpList_buildSlice hg t e len parts ho _ ie z hu hie hzz (by rw [hsz]; omega) (by rw [hsz]; omega) ?_ h
    rw [hparts, hsz]
    exact Great.fill_flat _ _ h1 (by simp [hlen])
end Go.Proofs.YtiaaeniopjpfpaaGreatDoor

namespace Go.Proofs.YtiaaeniopjpfpaaGreatDoor
open Go.RowKit
set_option linter.unusedVariables false

def kInts : List Int := K64.map fun k => (k.toNat : Int)
theorem kInts_row : kInts.map (Value.int .u32) = wrow K64 := by unfold kInts wrow; rw [List.map_map]; rfl

set_option maxRecDepth 20000 in
set_option maxHeartbeats 2000000 in
theorem refK_any (w : World) :
    Calls Tryz.prog 142 #[] w fun e w' => e = .returned (.slice (some ⟨w.heap.size, 0, none⟩) 64 64) ∧ w' = w.alloc (.cells (wrow K64).toArray 144) := by
  go_enter Tryz.func142, Tryz.ntmps142
  go_wp2_with (refine wpList_buildFlatAt rfl 194 144 64 _ rfl .u32 kInts w.heap.size rfl (some 1) rfl Tryz.underlying194 (by kernel_rfl) (by kernel_rfl) (by kernel_rfl) (by decide) (by decide) (by kernel_rfl) ?_)
  rw [kInts_row]
  go_ret
  exact ⟨rfl, rfl⟩
end Go.Proofs.YtiaaeniopjpfpaaGreatDoor

namespace Go.Proofs.YtiaaeniopjpfpaaGreatDoor
open Go.RowKit
set_option linter.unusedVariables false

section
variable {P : Program}
/-- The slice v holds just these bytes, in a block of its own at or beyond B. -/
def Buf (e : TypeId) (w : World) (B : Nat) (v : Value) (l : List UInt8) : Prop :=
  ∃ g cap cur fz, v = .slice (some ⟨g, 0, none⟩) l.length cap ∧ B ≤ g ∧ w.heap[g]? = some (.cells cur e fz) ∧ (cap ≤ fz.1 ∨ fz.2 = 0) ∧ l.length ≤ cap ∧ cap ≤ maxLen ∧ cur.size = cap ∧ cur.toList.take l.length = l.map bv

theorem run_store1 (g o : Nat) (t : TypeId) (fz : Nat × Nat) (cur : Array Value) (w : World) (v : Value) (hg : w.heap[g]? = some (.cells cur t fz)) (ho : o < cur.size) (hf : cur.size ≤ fz.1 ∨ fz.2 = 0) (h1 : v.oneCell' = true) :
    (storeCells ⟨g, o, none⟩ [v] 0).run P w = .ok () (w.setRow g (cur.setIfInBounds o v)) := by
  have hadd : (⟨g, o, none⟩ : Addr).add 0 = ⟨g, o, none⟩ := by unfold Addr.add; split <;> simp_all
  have hcell : w.cell? ⟨g, o, none⟩ = some cur[o] := by simp [World.cell?, hg, ho]
  have hfro : w.frozen? ⟨g, o, none⟩ = false := by
    obtain ⟨lo, hi'⟩ := fz
    simp only [World.frozen?, hg, Bool.and_eq_false_iff, decide_eq_false_iff_not]
    simp only at hf
    omega
  have hst : (store ((⟨g, o, none⟩ : Addr).add 0) v).run P w = .ok () (w.setRow g (cur.setIfInBounds o v)) := by
    rw [hadd, run_store P w _ v _ h1, hcell]
    simp [hfro, setCell_eq_setRow w g o cur t fz v hg]
  simp only [storeCells, Sem.run_bind, hst, Result.andThen_ok]
  rfl

theorem take_set_snoc {α : Type} (L : List α) (n : Nat) (v : α) (h : n < L.length) : (L.set n v).take (n + 1) = L.take n ++ [v] := by
  apply List.ext_getElem?
  intro i
  rw [List.getElem?_take, List.getElem?_set]
  rcases Nat.lt_trichotomy i n with h1 | h1 | h1
  · rw [if_pos (by omega), if_neg (by omega), List.getElem?_append_left (by rw [List.length_take]; omega), List.getElem?_take, if_pos h1]
  · subst h1
    rw [if_pos (by omega), if_pos rfl, if_pos h, List.getElem?_append_right (by rw [List.length_take]; omega)]
    simp [Nat.min_eq_left (Nat.le_of_lt h)]
  · rw [if_neg (by omega), List.getElem?_eq_none (by simp; omega)]

theorem Buf.len {e : TypeId} {w : World} {B : Nat} {v : Value} {l : List UInt8} (h : Buf e w B v l) : ∃ a cap, v = .slice a l.length cap := by
  obtain ⟨g, cap, cur, fz, rfl, _⟩ := h
  exact ⟨_, _, rfl⟩
theorem Buf.below {e : TypeId} {w w' : World} {B : Nat} {v : Value} {l : List UInt8} (h : Buf e w B v l) (hb : Below w.heap.size w w') : Buf e w' B v l := by
  obtain ⟨g, cap, cur, fz, hv, hB, hg, h⟩ := h
  exact ⟨g, cap, cur, fz, hv, hB, (hb.block g (Array.getElem?_eq_some_iff.1 hg).1).trans hg, h⟩
/-- The bytes, as a text again. -/
theorem Buf.text {w : World} {src dst e : TypeId} {B : Nat} {v : Value} {l : List UInt8} (h : Buf e w B v l) (hs : P.underlying src = some (.slice e)) (he : P.underlying e = some (.int .u8)) (hd : P.underlying dst = some .string) :
    (convert src dst v).run P w = .ok (.string ⟨l.toArray⟩) w := by
  obtain ⟨g, cap, cur, fz, rfl, hB, hg, hf, hc, hm, hz, ht⟩ := h
  refine conv_bytes w src dst e hs he hd g 0 l.length cap l rfl (fun i hi => ?_)
  rw [Nat.zero_add, ← ht, List.getElem?_take, if_pos hi]
  simp [World.cell?, hg]

/-- A text's bytes. -/
theorem buf_conv (w : World) (src dst e : TypeId) (s : ByteArray) (hs : P.underlying src = some .string) (hd : P.underlying dst = some (.slice e)) (he : P.underlying e = some (.int .u8)) (hm : s.size ≤ maxLen) :
    ∃ v w', (convert src dst (.string s)).run P w = .ok v w' ∧ Buf e w' w.heap.size v s.data.toList ∧ Below w.heap.size w w' := by
  have hl : s.data.toList.length = s.size := by simp
  have hge := grownCap_ge w s.size 0 e
  have hsz : (Lib.bytesCells w e s).size = grownCap w s.size 0 e := by
    unfold Lib.bytesCells
    rw [Array.size_append, Array.size_map, Array.size_replicate]
    show s.size + _ = _
    omega
  refine ⟨_, _, Lib.run_convert_string_bytes w src dst e s hs hd he, ⟨w.heap.size, _, _, _, by rw [hl], Nat.le_refl _, Lib.bytesWorld_at_new w e s, .inl (by rw [hsz]; exact Nat.le_refl _), by rw [hl]; exact hge, grownCap_le_maxLen w s.size 0 e hm, hsz, ?_⟩, ?_⟩
  · unfold Lib.bytesCells
    rw [Array.toList_append, List.take_append_of_le_length (by simp), List.take_of_length_le (by simp), Array.toList_map]
    rfl
  · exact ⟨by simp [Lib.bytesWorld, World.freeze, World.alloc, World.drew, -World.alloc_eq, -World.drew_eq], by simp [Lib.bytesWorld, World.freeze, World.alloc, World.drew, -World.alloc_eq, -World.drew_eq], by simp [Lib.bytesWorld, World.freeze, World.alloc, World.drew, -World.alloc_eq, -World.drew_eq], by rw [Lib.bytesWorld_size]; omega, fun j hj => Lib.bytesWorld_at_old w e s j hj⟩

/-- One byte more. -/
theorem run_buf_byte (w : World) (t ty e : TypeId) (i : TypeInfo) (ht : P.underlying t = some (.slice e)) (hi : P.info? e = some i) (hz : i.zero = some (.int .u8 0)) (hsize : i.size = 1) (hby : i.bytes = 1)
    (B : Nat) (v : Value) (l : List UInt8) (hv : Buf e w B v l) (ad : Addr) (c : UInt8) (hc : w.cell? ad = some (bv c)) (hlen : l.length + 1 ≤ 140737488355328) (hB : B ≤ w.heap.size) :
    ∃ v' w', (Builtin.append_ #[t, t] ty #[v, .slice (some ad) 1 1]).run P w = .ok v' w' ∧ Buf e w' B v' (l ++ [c]) ∧ Below B w w' := by
  obtain ⟨g, cap, cur, fz, rfl, hBg, hg, hf, hlc, hm, hcz, htk⟩ := hv
  have hnews : ∀ j u, [bv c][j]? = some u → w.cell? (ad.add j) = some u := by
    intro j u hj
    match j, hj with
    | 0, hj => simp only [List.getElem?_cons_zero, Option.some.injEq] at hj; subst hj; rw [show ad.add 0 = ad by unfold Addr.add; split <;> simp_all]; exact hc
    | j + 1, hj => simp at hj
  have hlt := (Array.getElem?_eq_some_iff.1 hg).1
  by_cases hroom : l.length + 1 ≤ cap
  · have hfc := run_firstCells_some (P := P) w i.size 1 ad 1 1 [bv c] (by rw [hsize]; rfl) hnews
    have hlc2 : l.length < cur.toList.length := by have := Array.length_toList (xs := cur); omega
    have hst := run_store1 (P := P) g l.length e fz cur w (bv c) hg (by omega) (by rw [hcz]; exact hf) rfl
    refine ⟨.slice (some ⟨g, 0, none⟩) (l.length + 1) cap, w.setRow g (cur.setIfInBounds l.length (bv c)), ?_, ⟨g, cap, _, fz, by rw [List.length_append]; rfl, hBg, setRow_heap w g cur _ e _ hg, hf, by rw [List.length_append]; exact hroom, hm, by rw [Array.size_setIfInBounds]; exact hcz, ?_⟩, below_setRow (Below.refl _ _) hBg _⟩
    · rw [hsize] at hfc
      simp [Builtin.append_, run_underlying ht, sizeOf, typeInfo, hi, Builtin.lenOf, hroom, hfc, Addr.add_lit, hst, hsize]
    · rw [List.length_append, Array.toList_setIfInBounds, List.length_singleton, take_set_snoc _ _ _ hlc2, htk, List.map_append]
      rfl
  · have hxs : (l.map bv).length = l.length * i.size := by rw [hsize]; simp
    have holds : ∀ j u, (l.map bv)[j]? = some u → w.cell? ((⟨g, 0, none⟩ : Addr).add j) = some u := fun j u hj => by
      rw [← htk, List.getElem?_take] at hj
      split at hj
      · have : (⟨g, 0, none⟩ : Addr).add j = ⟨g, j, none⟩ := by unfold Addr.add; split <;> simp_all
        rw [this]
        simpa [World.cell?, hg] using hj
      · cases hj
    have hr := run_append_grow (P := P) w t ty e i (.int .u8 0) ht hi hz ⟨g, 0, none⟩ l.length cap (l.map bv) hxs holds ad 1 1 [bv c] (by rw [hsize]; rfl) hnews (by omega) (by omega) (growslice_fits (by omega) (by rw [hby]; omega))
    have hge := grownCap_ge w (l.length + 1) cap e
    have hcm2 : grownCap w (l.length + 1) cap e ≤ maxLen := grownCap_le_maxLen w (l.length + 1) cap e (by unfold maxLen; omega)
    refine ⟨_, _, hr, ⟨w.heap.size, _, _, (0, 0), by rw [List.length_append]; rfl, hB, heap_alloc_new w.drew _, .inr rfl, by rw [List.length_append]; exact hge, hcm2, ?_, ?_⟩, ((Below.refl _ _).drew).alloc (by simpa using hB) _⟩
    · simp only [Array.size_append, List.size_toArray, size_zeroCells, List.length_map, List.length_cons, List.length_nil]
      rw [show (Value.int IntKind.u8 0).cells.size = 1 from rfl, Nat.mul_one]
      omega
    · simp only [Array.toList_append, List.append_assoc]
      rw [← List.append_assoc, List.map_append, show (l ++ [c]).length = (l.map bv ++ [bv c]).length by simp]
      exact List.take_left

theorem wpList_buf_byte {ops : Array Oper} {rest : List Oper} {o : Oper} {a : Act} {Q : Exit → Act → World → Prop} (hgd : o.guard = none) (s x : Operand) (t : TypeId)
    (ho : o.op = .call { callee := .builtin .append, args := #[s, x], argTypes := #[t, t] })
    (e : TypeId) (i : TypeInfo) (ht : P.underlying t = some (.slice e)) (hi : P.info? e = some i) (hz : i.zero = some (.int .u8 0)) (hsize : i.size = 1) (hby : i.bytes = 1)
    (w0 : World) (B : Nat) (v : Value) (l : List UInt8) (hs : a.eval s = v) (hv : Buf e w0 B v l) (ci : Int) (c : UInt8) (hci : ci = c.toNat) (hx : a.eval x = .slice (some ⟨w0.heap.size, 0, none⟩) 1 1)
    (hlen : l.length + 1 ≤ 140737488355328) (hB : B ≤ w0.heap.size)
    (h : ∀ v' w', Buf e w' B v' (l ++ [c]) → Below B w0 w' → wpList P ops Q rest (a.put o.dst v') w') : wpList P ops Q (o :: rest) a (w0.alloc (.cells #[.int .u8 ci] e)) := by
  subst hci
  have hb0 : Below w0.heap.size w0 (w0.alloc (.cells #[.int .u8 c.toNat] e)) := (Below.refl _ _).alloc (Nat.le_refl _) _
  obtain ⟨v', w', hr, h1, h2⟩ := run_buf_byte (P := P) (w0.alloc (.cells #[.int .u8 c.toNat] e)) t o.type e i ht hi hz hsize hby B v l (hv.below hb0) ⟨w0.heap.size, 0, none⟩ c ((Row.new w0 e [bv c]).cell 0) hlen (by simp; omega)
  refine wpList_plain hgd fun _ hK => ?_
  unfold Oper.wp execOp
  simp only [ho, resolve, invoke, builtin, Sem.run_bind, Sem.run_pure, Result.andThen_ok, List.map_toArray, List.map_cons, List.map_nil, hs, hx, hr]
  exact hK _ _ (h v' w' h1 (((Below.refl _ _).alloc hB _).trans h2))
end
end Go.Proofs.YtiaaeniopjpfpaaGreatDoor

namespace Go.Proofs.YtiaaeniopjpfpaaGreatDoor
open Go.RowKit
set_option linter.unusedVariables false

def lenV : Value → Nat
  | .slice _ n _ => n
  | _ => 0
theorem u8_info3 : (Tryz.prog.info? 5).map (fun i => (i.zero, i.size, i.bytes)) = some (some (.int .u8 0), 1, 1) := by kernel_rfl
theorem byte_toNat (x : Nat) : ((UInt8.ofNat (x % 256)).toNat : Int) = ((x : Int) % 256) := by
  rw [UInt8.toNat_ofNat']
  omega

set_option maxRecDepth 20000 in
set_option maxHeartbeats 4000000 in
theorem refPad_any (s : ByteArray) (hs : s.size ≤ 100000) (w : World) :
    Calls Tryz.prog 141 #[.string s] w fun e w' => e = .returned (.string (padB s)) ∧ Below w.heap.size w w' := by
  obtain ⟨i0, hi, hz0, hz1, hz2⟩ : ∃ i0, Tryz.prog.info? 5 = some i0 ∧ i0.zero = some (.int .u8 0) ∧ i0.size = 1 ∧ i0.bytes = 1 := by
    have h := u8_info3
    cases hq : Tryz.prog.info? 5 with
    | none => rw [hq] at h; cases h
    | some i =>
      rw [hq] at h
      simp only [Option.map_some, Option.some.injEq, Prod.mk.injEq] at h
      exact ⟨i, rfl, h.1, h.2.1, h.2.2⟩
  obtain ⟨v1, w1, hcv, hbuf, hb1⟩ := buf_conv (P := Tryz.prog) w 9 87 5 s Tryz.underlying9 Tryz.underlying87 Tryz.underlying5 (by unfold maxLen; omega)
  obtain ⟨a1, c1, rfl⟩ := hbuf.len
  have hsl : s.data.toList.length = s.size := by simp
  rw [hsl] at hcv hbuf
  obtain ⟨z, hz⟩ : ∃ z, (119 - s.size % 64) % 64 = z := ⟨_, rfl⟩
  obtain ⟨m, hm⟩ : ∃ m, s.size * 8 = m := ⟨_, rfl⟩
  have hmi : (s.size : Int) * 8 = (m : Int) := by omega
  have hml : m < 18446744073709551616 := by omega
  have HB := Lib.hid (And.intro hbuf hb1)
  have HI := Lib.hid (And.intro hi (And.intro hz0 (And.intro hz1 hz2)))
  have HZ := Lib.hid (And.intro hz (And.intro hm hsl))
  have hs1 := hb1.size
  clear hbuf hb1 hi hz0 hz1 hz2 hz hm
  go_enter Tryz.func141, Tryz.ntmps141
  go_wp2_with (at_builtin; refine wpList_buf_byte rfl (.tmp 11) (.tmp 12) 87 rfl 5 i0 Tryz.underlying87 HI.out.1 HI.out.2.1 HI.out.2.2.1 HI.out.2.2.2 w1 w.heap.size (.slice a1 s.size c1) s.data.toList rfl HB.out.1 128 128 rfl rfl (by omega) hs1 ?_; intro v2 w2 hb2 hB2)
  go_loopw [4] (fun b wr => ∃ k, k ≤ z ∧ (∃ a c, b = .slice a (s.size + 1 + k) c) ∧ Buf 5 wr w.heap.size b (s.data.toList ++ [128] ++ List.replicate k 0) ∧ Below w.heap.size w wr) (fun b _ => s.size + 200 - lenV b)
  case atStart =>
    refine ⟨0, Nat.zero_le _, ?_, by simpa using hb2, HB.out.2.trans hB2⟩
    obtain ⟨a, c, h⟩ := hb2.len
    rw [List.length_append, hsl] at h
    exact ⟨a, c, h⟩
  case round =>
    obtain ⟨k, hk, ⟨a2, c2, rfl⟩, hb3, hB3⟩ := hrel
    have hs3 := hB3.size
    have hzl : z ≤ 63 := by have := HZ.out.1; omega
    have hlen3 : (s.data.toList ++ [128] ++ List.replicate k 0).length = s.size + 1 + k := by simp [hsl]; omega
    have HB3 := Lib.hid (And.intro hb3 (And.intro hB3 hlen3))
    by_cases hlt : k < z
    · have hne : ¬ ((s.size : Int) + 1 + k) % 64 = 56 := by have := HZ.out.1; omega
      clear hb2 hB2 hb3 hB3 hlen3
      go_wp2_with (at_builtin; refine wpList_buf_byte rfl (.tmp 18) (.tmp 19) 87 rfl 5 i0 Tryz.underlying87 HI.out.1 HI.out.2.1 HI.out.2.2.1 HI.out.2.2.2 wr w.heap.size (.slice a2 (s.size + 1 + k) c2) (s.data.toList ++ [128] ++ List.replicate k 0) rfl HB3.out.1 0 0 rfl rfl (by rw [HB3.out.2.2]; omega) hs3 ?_; intro v4 w4 hb4 hB4)
      go_roundw
      case rel =>
        have e : s.data.toList ++ [128] ++ List.replicate k 0 ++ [0] = s.data.toList ++ [128] ++ List.replicate (k + 1) 0 := by
          rw [List.replicate_succ']; simp only [List.append_assoc]
        rw [e] at hb4
        refine ⟨k + 1, by omega, ?_, hb4, HB3.out.2.1.trans hB4⟩
        obtain ⟨a, c, h⟩ := hb4.len
        have e2 : (s.data.toList ++ [128] ++ List.replicate (k + 1) 0).length = s.size + 1 + (k + 1) := by simp [hsl]; omega
        rw [e2] at h
        exact ⟨a, c, h⟩
      case measure =>
        obtain ⟨a, c, h⟩ := hb4.len
        rw [List.length_append, HB3.out.2.2] at h
        rw [h]
        show s.size + 200 - (s.size + 1 + k + 1) < s.size + 200 - (s.size + 1 + k)
        omega
    · have hkz : k = z := by omega
      have heq : ((s.size : Int) + 1 + k) % 64 = 56 := by have := HZ.out.1; omega
      have HKZ := Lib.hid hkz
      clear hkz hb2 hB2 hb3 hB3 hlen3
      go_wp2_with fail
      clear heq
      go_loopw [4, 5] (fun b i wq => ∃ (q : Nat) (L : List UInt8), q ≤ 8 ∧ i = .int .i64 ((q : Int) - 1) ∧ L.length = 8 - q ∧ L ++ putL m q = putL m 8 ∧ (∃ a c, b = .slice a (s.size + 1 + k + (8 - q)) c) ∧ Buf 5 wq w.heap.size b (s.data.toList ++ [128] ++ List.replicate k 0 ++ L) ∧ Below w.heap.size w wq) (fun _ i _ => (intOf i + 1).toNat)
      case atStart => exact ⟨8, [], by omega, by go_num, rfl, rfl, ⟨a2, c2, rfl⟩, by rw [List.append_nil]; exact HB3.out.1, HB3.out.2.1⟩
      case round =>
        obtain ⟨q, L, hq, rfl, hLl, hL, ⟨a5, c5, rfl⟩, hb5, hB5⟩ := hrel
        have hs5 := hB5.size
        have hlen5 : (s.data.toList ++ [128] ++ List.replicate k 0 ++ L).length = s.size + 1 + k + (8 - q) := by rw [List.length_append, HB3.out.2.2, hLl]
        have H5 := Lib.hid (And.intro hb5 (And.intro hB5 (And.intro hlen5 (And.intro hLl hL))))
        clear hb5 hB5 hlen5 hLl hL
        by_cases h0 : 0 < q
        · obtain ⟨j, rfl⟩ : ∃ j, q = j + 1 := ⟨q - 1, by omega⟩
          rw [putL_cons] at H5
          rcases (by omega : j = 0 ∨ j = 1 ∨ j = 2 ∨ j = 3 ∨ j = 4 ∨ j = 5 ∨ j = 6 ∨ j = 7) with rfl | rfl | rfl | rfl | rfl | rfl | rfl | rfl
          · have hput := H5.out.2.2.2.2
            go_wp2_with (at_builtin; refine wpList_buf_byte rfl (.tmp 25) (.tmp 31) 87 rfl 5 i0 Tryz.underlying87 HI.out.1 HI.out.2.1 HI.out.2.2.1 HI.out.2.2.2 wr w.heap.size (.slice a5 (s.size + 1 + k + (8 - (0 + 1))) c5) (s.data.toList ++ [128] ++ List.replicate k 0 ++ L) rfl H5.out.1 _ (UInt8.ofNat (m / 256 ^ 0 % 256)) (by rw [byte_toNat]; omega) rfl (by rw [H5.out.2.2.1]; omega) hs5 ?_; intro v6 w6 hb6 hB6)
            go_roundw
            case rel =>
              obtain ⟨a, c, h⟩ := hb6.len
              rw [List.length_append, H5.out.2.2.1] at h
              exact ⟨0, L ++ [UInt8.ofNat (m / 256 ^ 0 % 256)], by omega, by go_num, by rw [List.length_append, H5.out.2.2.2.1]; rfl, by rw [List.append_assoc]; exact hput, ⟨a, c, h⟩, by rw [← List.append_assoc]; exact hb6, H5.out.2.1.trans hB6⟩
            case measure => simp [intOf]
          · have hput := H5.out.2.2.2.2
            go_wp2_with (at_builtin; refine wpList_buf_byte rfl (.tmp 25) (.tmp 31) 87 rfl 5 i0 Tryz.underlying87 HI.out.1 HI.out.2.1 HI.out.2.2.1 HI.out.2.2.2 wr w.heap.size (.slice a5 (s.size + 1 + k + (8 - (1 + 1))) c5) (s.data.toList ++ [128] ++ List.replicate k 0 ++ L) rfl H5.out.1 _ (UInt8.ofNat (m / 256 ^ 1 % 256)) (by rw [byte_toNat]; omega) rfl (by rw [H5.out.2.2.1]; omega) hs5 ?_; intro v6 w6 hb6 hB6)
            go_roundw
            case rel =>
              obtain ⟨a, c, h⟩ := hb6.len
              rw [List.length_append, H5.out.2.2.1] at h
              exact ⟨1, L ++ [UInt8.ofNat (m / 256 ^ 1 % 256)], by omega, by go_num, by rw [List.length_append, H5.out.2.2.2.1]; rfl, by rw [List.append_assoc]; exact hput, ⟨a, c, h⟩, by rw [← List.append_assoc]; exact hb6, H5.out.2.1.trans hB6⟩
            case measure => simp [intOf]
          · have hput := H5.out.2.2.2.2
            go_wp2_with (at_builtin; refine wpList_buf_byte rfl (.tmp 25) (.tmp 31) 87 rfl 5 i0 Tryz.underlying87 HI.out.1 HI.out.2.1 HI.out.2.2.1 HI.out.2.2.2 wr w.heap.size (.slice a5 (s.size + 1 + k + (8 - (2 + 1))) c5) (s.data.toList ++ [128] ++ List.replicate k 0 ++ L) rfl H5.out.1 _ (UInt8.ofNat (m / 256 ^ 2 % 256)) (by rw [byte_toNat]; omega) rfl (by rw [H5.out.2.2.1]; omega) hs5 ?_; intro v6 w6 hb6 hB6)
            go_roundw
            case rel =>
              obtain ⟨a, c, h⟩ := hb6.len
              rw [List.length_append, H5.out.2.2.1] at h
              exact ⟨2, L ++ [UInt8.ofNat (m / 256 ^ 2 % 256)], by omega, by go_num, by rw [List.length_append, H5.out.2.2.2.1]; rfl, by rw [List.append_assoc]; exact hput, ⟨a, c, h⟩, by rw [← List.append_assoc]; exact hb6, H5.out.2.1.trans hB6⟩
            case measure => simp [intOf]
          · have hput := H5.out.2.2.2.2
            go_wp2_with (at_builtin; refine wpList_buf_byte rfl (.tmp 25) (.tmp 31) 87 rfl 5 i0 Tryz.underlying87 HI.out.1 HI.out.2.1 HI.out.2.2.1 HI.out.2.2.2 wr w.heap.size (.slice a5 (s.size + 1 + k + (8 - (3 + 1))) c5) (s.data.toList ++ [128] ++ List.replicate k 0 ++ L) rfl H5.out.1 _ (UInt8.ofNat (m / 256 ^ 3 % 256)) (by rw [byte_toNat]; omega) rfl (by rw [H5.out.2.2.1]; omega) hs5 ?_; intro v6 w6 hb6 hB6)
            go_roundw
            case rel =>
              obtain ⟨a, c, h⟩ := hb6.len
              rw [List.length_append, H5.out.2.2.1] at h
              exact ⟨3, L ++ [UInt8.ofNat (m / 256 ^ 3 % 256)], by omega, by go_num, by rw [List.length_append, H5.out.2.2.2.1]; rfl, by rw [List.append_assoc]; exact hput, ⟨a, c, h⟩, by rw [← List.append_assoc]; exact hb6, H5.out.2.1.trans hB6⟩
            case measure => simp [intOf]
          · have hput := H5.out.2.2.2.2
            go_wp2_with (at_builtin; refine wpList_buf_byte rfl (.tmp 25) (.tmp 31) 87 rfl 5 i0 Tryz.underlying87 HI.out.1 HI.out.2.1 HI.out.2.2.1 HI.out.2.2.2 wr w.heap.size (.slice a5 (s.size + 1 + k + (8 - (4 + 1))) c5) (s.data.toList ++ [128] ++ List.replicate k 0 ++ L) rfl H5.out.1 _ (UInt8.ofNat (m / 256 ^ 4 % 256)) (by rw [byte_toNat]; omega) rfl (by rw [H5.out.2.2.1]; omega) hs5 ?_; intro v6 w6 hb6 hB6)
            go_roundw
            case rel =>
              obtain ⟨a, c, h⟩ := hb6.len
              rw [List.length_append, H5.out.2.2.1] at h
              exact ⟨4, L ++ [UInt8.ofNat (m / 256 ^ 4 % 256)], by omega, by go_num, by rw [List.length_append, H5.out.2.2.2.1]; rfl, by rw [List.append_assoc]; exact hput, ⟨a, c, h⟩, by rw [← List.append_assoc]; exact hb6, H5.out.2.1.trans hB6⟩
            case measure => simp [intOf]
          · have hput := H5.out.2.2.2.2
            go_wp2_with (at_builtin; refine wpList_buf_byte rfl (.tmp 25) (.tmp 31) 87 rfl 5 i0 Tryz.underlying87 HI.out.1 HI.out.2.1 HI.out.2.2.1 HI.out.2.2.2 wr w.heap.size (.slice a5 (s.size + 1 + k + (8 - (5 + 1))) c5) (s.data.toList ++ [128] ++ List.replicate k 0 ++ L) rfl H5.out.1 _ (UInt8.ofNat (m / 256 ^ 5 % 256)) (by rw [byte_toNat]; omega) rfl (by rw [H5.out.2.2.1]; omega) hs5 ?_; intro v6 w6 hb6 hB6)
            go_roundw
            case rel =>
              obtain ⟨a, c, h⟩ := hb6.len
              rw [List.length_append, H5.out.2.2.1] at h
              exact ⟨5, L ++ [UInt8.ofNat (m / 256 ^ 5 % 256)], by omega, by go_num, by rw [List.length_append, H5.out.2.2.2.1]; rfl, by rw [List.append_assoc]; exact hput, ⟨a, c, h⟩, by rw [← List.append_assoc]; exact hb6, H5.out.2.1.trans hB6⟩
            case measure => simp [intOf]
          · have hput := H5.out.2.2.2.2
            go_wp2_with (at_builtin; refine wpList_buf_byte rfl (.tmp 25) (.tmp 31) 87 rfl 5 i0 Tryz.underlying87 HI.out.1 HI.out.2.1 HI.out.2.2.1 HI.out.2.2.2 wr w.heap.size (.slice a5 (s.size + 1 + k + (8 - (6 + 1))) c5) (s.data.toList ++ [128] ++ List.replicate k 0 ++ L) rfl H5.out.1 _ (UInt8.ofNat (m / 256 ^ 6 % 256)) (by rw [byte_toNat]; omega) rfl (by rw [H5.out.2.2.1]; omega) hs5 ?_; intro v6 w6 hb6 hB6)
            go_roundw
            case rel =>
              obtain ⟨a, c, h⟩ := hb6.len
              rw [List.length_append, H5.out.2.2.1] at h
              exact ⟨6, L ++ [UInt8.ofNat (m / 256 ^ 6 % 256)], by omega, by go_num, by rw [List.length_append, H5.out.2.2.2.1]; rfl, by rw [List.append_assoc]; exact hput, ⟨a, c, h⟩, by rw [← List.append_assoc]; exact hb6, H5.out.2.1.trans hB6⟩
            case measure => simp [intOf]
          · have hput := H5.out.2.2.2.2
            go_wp2_with (at_builtin; refine wpList_buf_byte rfl (.tmp 25) (.tmp 31) 87 rfl 5 i0 Tryz.underlying87 HI.out.1 HI.out.2.1 HI.out.2.2.1 HI.out.2.2.2 wr w.heap.size (.slice a5 (s.size + 1 + k + (8 - (7 + 1))) c5) (s.data.toList ++ [128] ++ List.replicate k 0 ++ L) rfl H5.out.1 _ (UInt8.ofNat (m / 256 ^ 7 % 256)) (by rw [byte_toNat]; omega) rfl (by rw [H5.out.2.2.1]; omega) hs5 ?_; intro v6 w6 hb6 hB6)
            go_roundw
            case rel =>
              obtain ⟨a, c, h⟩ := hb6.len
              rw [List.length_append, H5.out.2.2.1] at h
              exact ⟨7, L ++ [UInt8.ofNat (m / 256 ^ 7 % 256)], by omega, by go_num, by rw [List.length_append, H5.out.2.2.2.1]; rfl, by rw [List.append_assoc]; exact hput, ⟨a, c, h⟩, by rw [← List.append_assoc]; exact hb6, H5.out.2.1.trans hB6⟩
            case measure => simp [intOf]
        · have hq0 : q = 0 := by omega
          subst hq0
          have hLe : L = putL m 8 := by have h := H5.out.2.2.2.2; simpa [putL] using h
          have htx : (convert 87 9 (.slice a5 (s.size + 1 + k + 8) c5)).run Tryz.prog wr = .ok (.string (padB s)) wr := by
            have h := Buf.text (P := Tryz.prog) (src := 87) (dst := 9) H5.out.1 Tryz.underlying87 Tryz.underlying5 Tryz.underlying9
            have e : padB s = ⟨(s.data.toList ++ [128] ++ List.replicate k 0 ++ L).toArray⟩ := by
              unfold padB padL endL
              rw [hLe, HKZ.out, ← HZ.out.1, HZ.out.2.2, ← HZ.out.2.1]
              simp
            rw [e]
            exact h
          go_wp2_with fail
          go_ret
          exact ⟨rfl, H5.out.2.1⟩
end Go.Proofs.YtiaaeniopjpfpaaGreatDoor

namespace Go.Proofs.YtiaaeniopjpfpaaGreatDoor
open Go.RowKit
set_option linter.unusedVariables false
set_option linter.unusedSimpArgs false

/-- The first j bytes of the i-th word. -/
def wordPart (l : List UInt8) (i j : Nat) : UInt32 := UInt32.ofNat (getL ((l.drop (4 * i)).take j))
theorem wordPart_zero (l : List UInt8) (i : Nat) : wordPart l i 0 = 0 := by simp [wordPart, getL]
theorem wordPart_four (l : List UInt8) (i : Nat) : wordPart l i 4 = wordAt l i := rfl
theorem wordPart_step (l : List UInt8) (i j : Nat) (x : UInt8) (h : l[4 * i + j]? = some x) :
    ((((wordPart l i j).toNat : Int) * 256) % 4294967296 + (x.toNat : Int)) % 4294967296 = ((wordPart l i (j + 1)).toNat : Int) := by
  have e : (l.drop (4 * i)).take (j + 1) = (l.drop (4 * i)).take j ++ [x] := by
    rw [List.take_add_one, List.getElem?_drop, h]; rfl
  unfold wordPart
  rw [e, getL_snoc]
  simp only [UInt32.toNat_ofNat']
  have : (2:Nat) ^ 32 = 4294967296 := by decide
  omega
/-- The i-th word half read. -/
def wpart (l : List UInt8) (i j : Nat) : List Value := (wrow (firstW l i)).set i (.int .u32 ((wordPart l i j).toNat : Int))
theorem wpart_zero (l : List UInt8) {i : Nat} (h : i < 16) : wpart l i 0 = wrow (firstW l i) := by
  unfold wpart
  rw [wordPart_zero]
  have hg : (wrow (firstW l i))[i]? = some (.int .u32 0) := by
    unfold wrow
    have hl : ((firstW l i).map uv).length = i := by simp [firstW_length]
    rw [List.getElem?_append_right (by omega), hl, Nat.sub_self, firstW_length, List.getElem?_replicate, if_pos (by omega)]
  apply List.ext_getElem?
  intro k
  rw [List.getElem?_set]
  split
  · next hk =>
    subst hk
    split
    · rw [hg]; rfl
    · next hn => rw [wrow_length (by rw [firstW_length]; omega)] at hn; omega
  · rfl
theorem wpart_four (l : List UInt8) {i : Nat} (h : i < 16) : wpart l i 4 = wrow (firstW l (i + 1)) := by
  have := wrow_set (l := firstW l i) (by rw [firstW_length]; omega) (wordAt l i)
  rw [firstW_length, ← firstW_succ] at this
  exact this
theorem wpart_get (l : List UInt8) {i : Nat} (j : Nat) (h : i < 16) : (wpart l i j)[i]? = some (.int .u32 ((wordPart l i j).toNat : Int)) := by
  unfold wpart
  rw [List.getElem?_set_self (by rw [wrow_length (by rw [firstW_length]; omega)]; omega)]
theorem wpart_set (l : List UInt8) (i j : Nat) : (wpart l i j).set i (.int .u32 ((wordPart l i (j + 1)).toNat : Int)) = wpart l i (j + 1) := by
  unfold wpart; rw [List.set_set]
theorem w_info3 : (Tryz.prog.info? 144).map (fun i => (i.zero, i.size, i.bytes)) = some (some (.int .u32 0), 1, 4) := by kernel_rfl
theorem uadd_assoc (x y z : UInt32) : uadd (uadd x y) z = uadd x (uadd y z) := by unfold uadd; exact UInt32.add_assoc x y z
def h0Ints : List Int := (s8l start8).map fun v => match v with | .int _ n => n | _ => 0
theorem made64 : madeCells #[.int .u32 0] 64 = z64.toArray := by kernel_rfl
/-- A round as the document writes it: the constant and the word are added one by one. -/
def rt1 (s : S8) (k x : UInt32) : UInt32 := uadd (uadd (uadd (uadd s.h (uxor (uxor (rot s.e 6) (rot s.e 11)) (rot s.e 25))) (uxor (uand s.e s.f) (uand (unot s.e) s.g))) k) x
def rrnd (s : S8) (k x : UInt32) : S8 := ⟨uadd (rt1 s k x) (t2 s), s.a, s.b, s.c, uadd s.d (rt1 s k x), s.e, s.f, s.g⟩
theorem rrnd_eq (s : S8) (k x : UInt32) : rrnd s k x = rnd s (uadd k x) := by
  have h : rt1 s k x = t1 s (uadd k x) := by unfold rt1 t1; rw [uadd_assoc]
  unfold rrnd rnd
  rw [h]
/-- The first k bytes of the sum, noughts behind. -/
def brow (S : S8) (k : Nat) : List Value := ((bytes8 S).take k).map bv ++ List.replicate (32 - k) (.int .u8 0)
theorem bytes8_len (S : S8) : (bytes8 S).length = 32 := by unfold bytes8; simp [putL_length]
theorem brow_length (S : S8) {k : Nat} (h : k ≤ 32) : (brow S k).length = 32 := by unfold brow; simp [bytes8_len]; omega
theorem brow_set (S : S8) {k : Nat} (h : k < 32) (x : UInt8) (hx : (bytes8 S)[k]? = some x) : (brow S k).set k (.int .u8 x.toNat) = brow S (k + 1) := by
  unfold brow
  have hl : (((bytes8 S).take k).map bv).length = k := by simp [bytes8_len]; omega
  have e : 32 - k = (32 - (k + 1)) + 1 := by omega
  rw [e, List.replicate_succ, List.set_append_right _ _ (by omega), hl, Nat.sub_self, List.set_cons_zero, List.take_add_one, hx, List.map_append, List.append_assoc]
  rfl
theorem brow_all (S : S8) : brow S 32 = (bytes8 S).map bv := by
  unfold brow
  rw [List.take_of_length_le (by rw [bytes8_len]; exact Nat.le_refl _)]
  simp
theorem putL_four (n : Nat) : putL n 4 = [UInt8.ofNat (n / 256 ^ 3 % 256), UInt8.ofNat (n / 256 ^ 2 % 256), UInt8.ofNat (n / 256 ^ 1 % 256), UInt8.ofNat (n / 256 ^ 0 % 256)] := by
  simp only [putL, List.nil_append, List.cons_append]
  simp [Nat.div_div_eq_div_mul]
theorem bytes8_get (S : S8) (a r : Nat) (ha : a < 8) (hr : r < 4) : (bytes8 S)[4 * a + r]? = some (UInt8.ofNat ((at8 S a).toNat / 256 ^ (3 - r) % 256)) := by
  unfold bytes8
  simp only [putL_four]
  rcases (by omega : a = 0 ∨ a = 1 ∨ a = 2 ∨ a = 3 ∨ a = 4 ∨ a = 5 ∨ a = 6 ∨ a = 7) with rfl | rfl | rfl | rfl | rfl | rfl | rfl | rfl <;>
    rcases (by omega : r = 0 ∨ r = 1 ∨ r = 2 ∨ r = 3) with rfl | rfl | rfl | rfl <;> rfl
theorem byteI (x : UInt32) (d : Nat) : ((x.toNat : Int) / (d : Int)) % 256 = (((UInt8.ofNat (x.toNat / d % 256)).toNat : Nat) : Int) := by
  rw [UInt8.toNat_ofNat']
  omega
theorem comp_split {T : S8} {L b : List UInt8} {J : Nat} {sc : List UInt32} (h1 : mixK start8 L J = T) (h2 : blk L J = b) (h3 : sched b = sc) : add8 T (rnds T sc 64) = mixK start8 L (J + 1) := by
  rw [mixK, h1, h2, comp, h3]
theorem u32_mod (x : UInt32) : (x.toNat : Int) % 4294967296 = (x.toNat : Int) := by
  have := u32_lt x
  omega
/-- A walk goes on in any world of the same facts. -/
theorem wp_gen {P : Program} {c : Code} {Q : Exit → Act → World → Prop} {a : Act} {W : World} (K : World → Prop) (hk : K W) (h : ∀ W, K W → c.wp P Q a W) : c.wp P Q a W := h W hk
/-- A region whose end is one frame and one world. -/
theorem wp_cut_one {P : Program} {id : Nat} {ops : Array Oper} {b : Bool} {Q : Exit → Act → World → Prop} {a : Act} {w : World} (a1 : Act) (w1 : World)
    (h1 : (Code.region id ops b).wp P (fun e a' w' => e = .normal ∧ a' = a1 ∧ w' = w1) a w) (h2 : Q .normal a1 w1) : (Code.region id ops b).wp P Q a w :=
  Code.wp_mono (fun e a' w' h => by obtain ⟨rfl, rfl, rfl⟩ := h; exact h2) h1

theorem sched_eq (b : List UInt8) : moreW (firstW b 16) (64 - 16) = sched b := rfl
theorem rnds_next (T : S8) (sc : List UInt32) (q : Nat) : rnds T sc (q + 1) = rnd (rnds T sc q) (uadd (K64.getD q 0) (sc.getD q 0)) := rfl
theorem part8_all (s t : S8) : part8 s t 8 = s8l t := rfl
theorem mixK_zero (L : List UInt8) : s8l (mixK start8 L 0) = s8l start8 := rfl
theorem firstW_zero (b : List UInt8) : wrow (firstW b 0) = z64 := rfl
theorem moreW_zero (l : List UInt32) : wrow (moreW l (16 - 16)) = wrow l := rfl
theorem rnds_zero (T : S8) (sc : List UInt32) : s8l (rnds T sc 0) = s8l T := rfl
theorem brow_zero (S : S8) : brow S 0 = z32 := rfl
attribute [local irreducible] mixK rnds sched add8 comp moreW firstW nextW rnd shaL bytes8 blk wpart wordPart wrow brow
/-- The bodies of a code's loops, in their order. -/
def bodies : Code → List Code
  | .loop c => c :: bodies c
  | .seq a b => bodies a ++ bodies b
  | .block _ c => bodies c
  | .scope c => bodies c
  | .cond _ a b => bodies a ++ bodies b
  | _ => []
end Go.Proofs.YtiaaeniopjpfpaaGreatDoor

namespace Go.Proofs.YtiaaeniopjpfpaaGreatDoor
open Go.RowKit
set_option linter.unusedVariables false
set_option linter.unusedSimpArgs false
attribute [local irreducible] mixK rnds sched add8 comp moreW firstW nextW rnd shaL bytes8 blk wpart wordPart wrow brow
noncomputable def body13 : Code := (((Tryz.f123.body.map bodies).getD [])[4]?).getD .skip
set_option maxRecDepth 1000000 in
set_option maxHeartbeats 40000000 in
theorem loop13 {s0 s1 s2 s3 s5 s6 s8 s9 s10 s11 s12 s15 s16 s17 s18 s19 s20 s21 s22 s23 s24 s25 s26 s27 s28 s29 s30 s31 s32 s33 s34 s35 s36 s37 s38 s39 s40 s41 s42 s43 s44 s45 s46 s47 s48 s49 s50 s51 s52 s53 s54 s55 s56 s57 s58 s59 s60 s61 s62 s63 s64 s65 s66 s67 s68 s69 s70 s71 s72 s73 s74 s75 s76 s77 s78 s79 s80 s81 s82 s83 s84 s85 s86 s87 s88 s89 s90 s91 s92 s93 s94 s95 s96 s97 s98 s99 s100 s101 s102 s103 s104 s105 s106 s107 s108 s109 s110 s111 s112 s113 s114 s115 s116 s117 s118 s119 s120 s121 s122 s123 s124 s125 s126 s127 s128 s129 s130 s131 s132 s133 s134 s135 s136 s137 s138 s139 s140 s141 s142 s143 s144 s145 s146 s147 s148 s149 s150 s151 s152 s153 s154 s155 s156 s157 s158 s159 s160 s161 s162 s163 s164 s165 s166 s167 s168 s169 s170 s171 s172 s173 s174 s175 s176 s177 s178 s179 s180 s181 s182 s183 s184 s185 s186 s187 s188 s189 s190 s191 s192 s193 s194 s195 s196 s197 s198 s199 s200 s201 s202 s203 s204 s205 s206 s207 s208 s209 s210 s211 s212 s213 s214 s215 s216 s217 s218 s219 s220 s221 s222 s223 s224 s225 s226 s227 s228 s229 s230 s231 s232 s233 s234 s235 s236 s237 s238 s239 s240 s241 s242 s243 s244 s245 s246 s247 s248 s249 s250 s251 s252 s253 s254 s255 s256 s257 s258 s259 s260 s261 s262 s263 s264 s265 s266 s267 s268 s269 s270 s271 s272 s273 s274 s275 s276 s277 s278 s279 s280 s281 s282 s283 s284 s285 s286 s287 s288 s289 s290 s291 s292 s293 s294 s295 s296 s297 : Value} (gk gw gv : Nat) (T : S8) (sc : List UInt32) (w1 : World) (Q0 : Exit → Act → World → Prop)
    (pk : Row w1 gk 144 (wrow K64)) (pw : Row w1 gw 144 (wrow sc)) (r4 : Row w1 gv 144 (s8l T)) (lk : gk < gv) (lw : gw < gv) (hscl : sc.length = 64) (hgv4 : gv < w1.heap.size)
    (hexit : ∀ (u14 u15 u16 u17 u18 u19 u20 u147 u148 u149 u150 u151 u152 u153 u154 u155 u156 u157 u158 u159 u160 u161 u162 u163 u164 u165 u166 u167 u168 u169 u170 u171 u172 u173 u174 u175 u176 u177 u178 u179 u180 u181 u182 u183 u184 u185 u186 u187 u188 u189 u190 u191 u192 u193 u194 u195 u196 u197 u198 u199 u200 u201 u202 u203 u204 u205 u206 u207 u208 u209 u210 u211 u212 u213 u214 u215 u216 u217 u218 u219 u220 u221 u222 u223 u224 u225 u226 u227 u228 u229 u230 u231 u232 u233 u234 u235 u236 u237 u238 u239 u240 u241 u242 u243 u244 u245 u246 u247 u248 u249 u250 u251 u252 u253 u254 u255 u256 u257 u258 u259 u260 u261 u262 u263 : Value) (g : Nat) (wb : World), Row wb g 144 (s8l (rnds T sc 64)) → gv ≤ g → Below gv w1 wb → Q0 (.exit 8) ⟨List.toArray (s0 :: s1 :: s2 :: s3 :: .slice (some ⟨gk, 0, none⟩) 64 64 :: s5 :: s6 :: .slice (some ⟨gw, 0, none⟩) 64 64 :: s8 :: s9 :: s10 :: s11 :: s12 :: (.slice (some ⟨g, 0, none⟩) 8 8) :: u14 :: u15 :: u16 :: u17 :: u18 :: u19 :: u20 :: s21 :: s22 :: s23 :: s24 :: s25 :: s26 :: s27 :: s28 :: s29 :: s30 :: s31 :: s32 :: s33 :: s34 :: s35 :: s36 :: s37 :: s38 :: s39 :: s40 :: s41 :: s42 :: s43 :: s44 :: s45 :: s46 :: s47 :: s48 :: s49 :: s50 :: s51 :: s52 :: s53 :: s54 :: s55 :: s56 :: s57 :: s58 :: s59 :: s60 :: s61 :: s62 :: s63 :: s64 :: s65 :: s66 :: s67 :: s68 :: s69 :: s70 :: s71 :: s72 :: s73 :: s74 :: s75 :: s76 :: s77 :: s78 :: s79 :: s80 :: s81 :: s82 :: s83 :: s84 :: s85 :: s86 :: s87 :: s88 :: s89 :: s90 :: s91 :: s92 :: s93 :: s94 :: s95 :: s96 :: s97 :: s98 :: s99 :: s100 :: s101 :: s102 :: s103 :: s104 :: s105 :: s106 :: s107 :: s108 :: s109 :: s110 :: s111 :: s112 :: s113 :: s114 :: s115 :: s116 :: s117 :: s118 :: s119 :: s120 :: s121 :: s122 :: s123 :: s124 :: s125 :: s126 :: s127 :: s128 :: s129 :: s130 :: s131 :: s132 :: s133 :: s134 :: s135 :: s136 :: s137 :: s138 :: s139 :: s140 :: s141 :: s142 :: s143 :: s144 :: s145 :: s146 :: u147 :: u148 :: u149 :: u150 :: u151 :: u152 :: u153 :: u154 :: u155 :: u156 :: u157 :: u158 :: u159 :: u160 :: u161 :: u162 :: u163 :: u164 :: u165 :: u166 :: u167 :: u168 :: u169 :: u170 :: u171 :: u172 :: u173 :: u174 :: u175 :: u176 :: u177 :: u178 :: u179 :: u180 :: u181 :: u182 :: u183 :: u184 :: u185 :: u186 :: u187 :: u188 :: u189 :: u190 :: u191 :: u192 :: u193 :: u194 :: u195 :: u196 :: u197 :: u198 :: u199 :: u200 :: u201 :: u202 :: u203 :: u204 :: u205 :: u206 :: u207 :: u208 :: u209 :: u210 :: u211 :: u212 :: u213 :: u214 :: u215 :: u216 :: u217 :: u218 :: u219 :: u220 :: u221 :: u222 :: u223 :: u224 :: u225 :: u226 :: u227 :: u228 :: u229 :: u230 :: u231 :: u232 :: u233 :: u234 :: u235 :: u236 :: u237 :: u238 :: u239 :: u240 :: u241 :: u242 :: u243 :: u244 :: u245 :: u246 :: u247 :: u248 :: u249 :: u250 :: u251 :: u252 :: u253 :: u254 :: u255 :: u256 :: u257 :: u258 :: u259 :: u260 :: u261 :: u262 :: u263 :: s264 :: s265 :: s266 :: s267 :: s268 :: s269 :: s270 :: s271 :: s272 :: s273 :: s274 :: s275 :: s276 :: s277 :: s278 :: s279 :: s280 :: s281 :: s282 :: s283 :: s284 :: s285 :: s286 :: s287 :: s288 :: s289 :: s290 :: s291 :: s292 :: s293 :: s294 :: s295 :: s296 :: s297 :: []), []⟩ wb) :
    Code.wp Tryz.prog (Code.loop body13) Q0 ⟨List.toArray (s0 :: s1 :: s2 :: s3 :: .slice (some ⟨gk, 0, none⟩) 64 64 :: s5 :: s6 :: .slice (some ⟨gw, 0, none⟩) 64 64 :: s8 :: s9 :: s10 :: s11 :: s12 :: .slice (some ⟨gv, 0, none⟩) 8 8 :: .int .i64 0 :: s15 :: s16 :: s17 :: s18 :: s19 :: s20 :: s21 :: s22 :: s23 :: s24 :: s25 :: s26 :: s27 :: s28 :: s29 :: s30 :: s31 :: s32 :: s33 :: s34 :: s35 :: s36 :: s37 :: s38 :: s39 :: s40 :: s41 :: s42 :: s43 :: s44 :: s45 :: s46 :: s47 :: s48 :: s49 :: s50 :: s51 :: s52 :: s53 :: s54 :: s55 :: s56 :: s57 :: s58 :: s59 :: s60 :: s61 :: s62 :: s63 :: s64 :: s65 :: s66 :: s67 :: s68 :: s69 :: s70 :: s71 :: s72 :: s73 :: s74 :: s75 :: s76 :: s77 :: s78 :: s79 :: s80 :: s81 :: s82 :: s83 :: s84 :: s85 :: s86 :: s87 :: s88 :: s89 :: s90 :: s91 :: s92 :: s93 :: s94 :: s95 :: s96 :: s97 :: s98 :: s99 :: s100 :: s101 :: s102 :: s103 :: s104 :: s105 :: s106 :: s107 :: s108 :: s109 :: s110 :: s111 :: s112 :: s113 :: s114 :: s115 :: s116 :: s117 :: s118 :: s119 :: s120 :: s121 :: s122 :: s123 :: s124 :: s125 :: s126 :: s127 :: s128 :: s129 :: s130 :: s131 :: s132 :: s133 :: s134 :: s135 :: s136 :: s137 :: s138 :: s139 :: s140 :: s141 :: s142 :: s143 :: s144 :: s145 :: s146 :: s147 :: s148 :: s149 :: s150 :: s151 :: s152 :: s153 :: s154 :: s155 :: s156 :: s157 :: s158 :: s159 :: s160 :: s161 :: s162 :: s163 :: s164 :: s165 :: s166 :: s167 :: s168 :: s169 :: s170 :: s171 :: s172 :: s173 :: s174 :: s175 :: s176 :: s177 :: s178 :: s179 :: s180 :: s181 :: s182 :: s183 :: s184 :: s185 :: s186 :: s187 :: s188 :: s189 :: s190 :: s191 :: s192 :: s193 :: s194 :: s195 :: s196 :: s197 :: s198 :: s199 :: s200 :: s201 :: s202 :: s203 :: s204 :: s205 :: s206 :: s207 :: s208 :: s209 :: s210 :: s211 :: s212 :: s213 :: s214 :: s215 :: s216 :: s217 :: s218 :: s219 :: s220 :: s221 :: s222 :: s223 :: s224 :: s225 :: s226 :: s227 :: s228 :: s229 :: s230 :: s231 :: s232 :: s233 :: s234 :: s235 :: s236 :: s237 :: s238 :: s239 :: s240 :: s241 :: s242 :: s243 :: s244 :: s245 :: s246 :: s247 :: s248 :: s249 :: s250 :: s251 :: s252 :: s253 :: s254 :: s255 :: s256 :: s257 :: s258 :: s259 :: s260 :: s261 :: s262 :: s263 :: s264 :: s265 :: s266 :: s267 :: s268 :: s269 :: s270 :: s271 :: s272 :: s273 :: s274 :: s275 :: s276 :: s277 :: s278 :: s279 :: s280 :: s281 :: s282 :: s283 :: s284 :: s285 :: s286 :: s287 :: s288 :: s289 :: s290 :: s291 :: s292 :: s293 :: s294 :: s295 :: s296 :: s297 :: []), []⟩ w1 := by
  have HX := Lib.hid hexit
  clear hexit
  conv => arg 2; arg 1; whnf
  have HQ4 := Lib.hid (And.intro pk pw)
  clear pk pw
  go_loopw [13, 14] (fun v i wb => ∃ (q g : Nat), q ≤ 64 ∧ i = .int .i64 q ∧ v = .slice (some ⟨g, 0, none⟩) 8 8 ∧ Row wb g 144 (s8l (rnds T sc q)) ∧ gv ≤ g ∧ Below gv w1 wb) (fun _ i _ => 64 - (intOf i).toNat)
  case atStart => exact ⟨0, gv, Nat.zero_le _, rfl, rfl, by rw [rnds_zero]; exact r4, Nat.le_refl _, Below.refl _ _⟩
  case round =>
    obtain ⟨q, g, hq, rfl, rfl, rv, hgg, bv4⟩ := hrel
    clear r4
    by_cases hlq : q < 64
    · skip
      obtain ⟨U, hU⟩ : ∃ U, rnds T sc q = U := ⟨_, rfl⟩
      have hnx : rnds T sc (q + 1) = rnd U (uadd (K64.getD q 0) (sc.getD q 0)) := by rw [← hU]; exact rnds_next T sc q
      rw [hU] at rv
      rw [← rrnd_eq] at hnx
      have hck : wr.cell? ⟨gk, q, none⟩ = some (.int .u32 ((K64.getD q 0).toNat : Int)) := by
        rw [(HQ4.out.1.below bv4 lk).cell]; exact wrow_get hlq
      have hcw : wr.cell? ⟨gw, q, none⟩ = some (.int .u32 ((sc.getD q 0).toNat : Int)) := by
        rw [(HQ4.out.2.below bv4 lw).cell]; exact wrow_get (by omega)
      obtain ⟨kq, hkq⟩ : ∃ x, K64.getD q 0 = x := ⟨_, rfl⟩
      obtain ⟨xq, hxq⟩ : ∃ x, sc.getD q 0 = x := ⟨_, rfl⟩
      rw [hkq] at hck hnx
      rw [hxq] at hcw hnx
      have HN := Lib.hid hnx
      have RV := Lib.hid (And.intro rv (And.intro hgg bv4))
      have hgl := rv.lt
      have hs4 := bv4.size
      obtain ⟨c0, c1, c2, c3, c4, c5, c6, c7⟩ := cells8 rv
      have hX := u32_xor
      have hA := u32_and
      have hD := u32_add
      have hN := u32_sub
      have hqI : (q : Int) < 64 := by omega
      clear hkq hxq hnx rv bv4 hU hgg
      go_wp2
      go_quiet ((go_at_call 143; first | (refine (rotrQ2 _ _ ?hb _ _ _).mono ?_; (case hb => decide); rintro e1 w1 ⟨rfl, m, rfl⟩; exact ⟨rfl, m, rfl⟩) | (refine (rotrQ _ _ ?hb _ _ ⟨_, rfl⟩).mono ?_; (case hb => decide); rintro e1 w1 ⟨rfl, m, rfl⟩; exact ⟨rfl, m, rfl⟩)))
      go_wp2
      go_quiet (fail)
      try simp only [u32_mod, u32_and, u32_xor]
      go_wp2
      go_quiet (fail)
      try simp only [u32_mod, u32_add]
      go_wp2
      go_quiet ((go_at_call 143; first | (refine (rotrQ2 _ _ ?hb _ _ _).mono ?_; (case hb => decide); rintro e1 w1 ⟨rfl, m, rfl⟩; exact ⟨rfl, m, rfl⟩) | (refine (rotrQ _ _ ?hb _ _ ⟨_, rfl⟩).mono ?_; (case hb => decide); rintro e1 w1 ⟨rfl, m, rfl⟩; exact ⟨rfl, m, rfl⟩)))
      go_wp2
      go_quiet (fail)
      try simp only [u32_mod, u32_add]
      go_wp2
      refine wp_gen (fun W => Row W g 144 (s8l U) ∧ Below gv w1 W) ⟨RV.out.1, ⟨RV.out.2.2.os, RV.out.2.2.tape, RV.out.2.2.output, RV.out.2.2.size, RV.out.2.2.block⟩⟩ ?_
      rintro wx ⟨rx, bx⟩
      clear c0 c1 c2 c3 c4 c5 c6 c7 hck hcw
      obtain ⟨c0, c1, c2, c3, c4, c5, c6, c7⟩ := cells8 rx
      have RX := Lib.hid rx
      have BX := Lib.hid bx
      clear rx bx
      go_region_held3 (fun w' => w'.cell? ⟨g, 0, none⟩ = some (.int .u32 U.a.toNat) ∧ w'.cell? ⟨g, 1, none⟩ = some (.int .u32 U.b.toNat) ∧ w'.cell? ⟨g, 2, none⟩ = some (.int .u32 U.c.toNat) ∧ w'.cell? ⟨g, 3, none⟩ = some (.int .u32 U.d.toNat) ∧
w'.cell? ⟨g, 4, none⟩ = some (.int .u32 U.e.toNat) ∧ w'.cell? ⟨g, 5, none⟩ = some (.int .u32 U.f.toNat) ∧ w'.cell? ⟨g, 6, none⟩ = some (.int .u32 U.g.toNat) ∧ w'.cell? ⟨g, 7, none⟩ = some (.int .u32 U.h.toNat))
(first
| (exact ⟨c0, c1, c2, c3, c4, c5, c6, c7⟩)
| (exact cells8 ((RX.out.alloc _).drewN 1)))
(first
| (fail))
      try simp only [IntKind.wrap_u32', u32_mod, u32_add]
      go_wp2
      go_roundw
      case rel => exact ⟨q + 1, wx.heap.size, by omega, by go_num, rfl, by rw [HN.out]; exact Row.drewN (Row.new wx _ (s8l (rrnd U kq xq))) 1, Nat.le_trans (Nat.le_of_lt hgv4) BX.out.size, below_drewN (BX.out.alloc (Nat.le_trans (Nat.le_of_lt hgv4) BX.out.size) (.cells (s8l (rrnd U kq xq)).toArray 144)) 1⟩
      case measure => simp [intOf]; omega
    · have hq64 : q = 64 := by omega
      have hge : 64 ≤ q := by omega
      rw [hq64] at rv
      have HV := Lib.hid (And.intro rv (And.intro hgg bv4))
      clear hq64 hlq hq rv hgg bv4
      go_wp2
      exact HX.out _ _ _ _ _ _ _ _ _ _ _ _ _ _ _ _ _ _ _ _ _ _ _ _ _ _ _ _ _ _ _ _ _ _ _ _ _ _ _ _ _ _ _ _ _ _ _ _ _ _ _ _ _ _ _ _ _ _ _ _ _ _ _ _ _ _ _ _ _ _ _ _ _ _ _ _ _ _ _ _ _ _ _ _ _ _ _ _ _ _ _ _ _ _ _ _ _ _ _ _ _ _ _ _ _ _ _ _ _ _ _ _ _ _ _ _ _ _ _ _ _ _ _ _ _ _ HV.out.1 HV.out.2.1 HV.out.2.2
end Go.Proofs.YtiaaeniopjpfpaaGreatDoor

namespace Go.Proofs.YtiaaeniopjpfpaaGreatDoor
open Go.RowKit
set_option linter.unusedVariables false
set_option linter.unusedSimpArgs false
attribute [local irreducible] mixK rnds sched add8 comp moreW firstW nextW rnd shaL bytes8 blk wpart wordPart wrow brow
noncomputable def body22 : Code := (((Tryz.f123.body.map bodies).getD [])[6]?).getD .skip
set_option maxRecDepth 1000000 in
set_option maxHeartbeats 40000000 in
theorem loop22 {s0 s1 s2 s3 s4 s6 s7 s8 s9 s10 s11 s12 s13 s14 s15 s16 s17 s18 s19 s20 s23 s24 s25 s26 s27 s28 s29 s30 s31 s32 s33 s34 s35 s36 s37 s38 s39 s40 s41 s42 s43 s44 s45 s46 s47 s48 s49 s50 s51 s52 s53 s54 s55 s56 s57 s58 s59 s60 s61 s62 s63 s64 s65 s66 s67 s68 s69 s70 s71 s72 s73 s74 s75 s76 s77 s78 s79 s80 s81 s82 s83 s84 s85 s86 s87 s88 s89 s90 s91 s92 s93 s94 s95 s96 s97 s98 s99 s100 s101 s102 s103 s104 s105 s106 s107 s108 s109 s110 s111 s112 s113 s114 s115 s116 s117 s118 s119 s120 s121 s122 s123 s124 s125 s126 s127 s128 s129 s130 s131 s132 s133 s134 s135 s136 s137 s138 s139 s140 s141 s142 s143 s144 s145 s146 s147 s148 s149 s150 s151 s152 s153 s154 s155 s156 s157 s158 s159 s160 s161 s162 s163 s164 s165 s166 s167 s168 s169 s170 s171 s172 s173 s174 s175 s176 s177 s178 s179 s180 s181 s182 s183 s184 s185 s186 s187 s188 s189 s190 s191 s192 s193 s194 s195 s196 s197 s198 s199 s200 s201 s202 s203 s204 s205 s206 s207 s208 s209 s210 s211 s212 s213 s214 s215 s216 s217 s218 s219 s220 s221 s222 s223 s224 s225 s226 s227 s228 s229 s230 s231 s232 s233 s234 s235 s236 s237 s238 s239 s240 s241 s242 s243 s244 s245 s246 s247 s248 s249 s250 s251 s252 s253 s254 s255 s256 s257 s258 s259 s260 s261 s262 s263 s264 s265 s266 s267 s268 s269 s270 s271 s272 s273 s274 s275 s276 s277 s278 s279 s280 s281 s282 s283 s284 s285 s286 s287 s288 s289 s290 s291 s292 s293 s294 s295 s296 s297 : Value} (gk gx : Nat) (S : S8) (w w1 : World) (Q0 : Exit → Act → World → Prop)
    (q1 : Row w1 gx 174 z32) (qh : Row w1 (gk + 1) 144 (s8l S)) (q0 : Row w1 w.heap.size 174 z32) (qb : Below w.heap.size w w1) (hl0 : w.heap.size < gk) (hgh : gk + 1 < gx)
    (hexit : ∀ (u22 u264 u265 u266 u267 u268 u269 u270 u271 u272 u273 u274 u275 u276 u277 u278 u279 u280 u281 u282 u283 u284 u285 u286 u287 u288 u289 u290 u291 u292 u293 u294 u295 u296 u297 : Value) (wb : World), Row wb gx 174 (brow S 32) → Row wb w.heap.size 174 z32 → Below w.heap.size w wb → Q0 (.exit 12) ⟨List.toArray (s0 :: s1 :: s2 :: s3 :: s4 :: .slice (some ⟨gk + 1, 0, none⟩) 8 8 :: s6 :: s7 :: s8 :: s9 :: s10 :: s11 :: s12 :: s13 :: s14 :: s15 :: s16 :: s17 :: s18 :: s19 :: s20 :: .pointer (some ⟨gx, 0, none⟩) :: u22 :: s23 :: s24 :: s25 :: s26 :: s27 :: s28 :: s29 :: s30 :: s31 :: s32 :: s33 :: s34 :: s35 :: s36 :: s37 :: s38 :: s39 :: s40 :: s41 :: s42 :: s43 :: s44 :: s45 :: s46 :: s47 :: s48 :: s49 :: s50 :: s51 :: s52 :: s53 :: s54 :: s55 :: s56 :: s57 :: s58 :: s59 :: s60 :: s61 :: s62 :: s63 :: s64 :: s65 :: s66 :: s67 :: s68 :: s69 :: s70 :: s71 :: s72 :: s73 :: s74 :: s75 :: s76 :: s77 :: s78 :: s79 :: s80 :: s81 :: s82 :: s83 :: s84 :: s85 :: s86 :: s87 :: s88 :: s89 :: s90 :: s91 :: s92 :: s93 :: s94 :: s95 :: s96 :: s97 :: s98 :: s99 :: s100 :: s101 :: s102 :: s103 :: s104 :: s105 :: s106 :: s107 :: s108 :: s109 :: s110 :: s111 :: s112 :: s113 :: s114 :: s115 :: s116 :: s117 :: s118 :: s119 :: s120 :: s121 :: s122 :: s123 :: s124 :: s125 :: s126 :: s127 :: s128 :: s129 :: s130 :: s131 :: s132 :: s133 :: s134 :: s135 :: s136 :: s137 :: s138 :: s139 :: s140 :: s141 :: s142 :: s143 :: s144 :: s145 :: s146 :: s147 :: s148 :: s149 :: s150 :: s151 :: s152 :: s153 :: s154 :: s155 :: s156 :: s157 :: s158 :: s159 :: s160 :: s161 :: s162 :: s163 :: s164 :: s165 :: s166 :: s167 :: s168 :: s169 :: s170 :: s171 :: s172 :: s173 :: s174 :: s175 :: s176 :: s177 :: s178 :: s179 :: s180 :: s181 :: s182 :: s183 :: s184 :: s185 :: s186 :: s187 :: s188 :: s189 :: s190 :: s191 :: s192 :: s193 :: s194 :: s195 :: s196 :: s197 :: s198 :: s199 :: s200 :: s201 :: s202 :: s203 :: s204 :: s205 :: s206 :: s207 :: s208 :: s209 :: s210 :: s211 :: s212 :: s213 :: s214 :: s215 :: s216 :: s217 :: s218 :: s219 :: s220 :: s221 :: s222 :: s223 :: s224 :: s225 :: s226 :: s227 :: s228 :: s229 :: s230 :: s231 :: s232 :: s233 :: s234 :: s235 :: s236 :: s237 :: s238 :: s239 :: s240 :: s241 :: s242 :: s243 :: s244 :: s245 :: s246 :: s247 :: s248 :: s249 :: s250 :: s251 :: s252 :: s253 :: s254 :: s255 :: s256 :: s257 :: s258 :: s259 :: s260 :: s261 :: s262 :: s263 :: u264 :: u265 :: u266 :: u267 :: u268 :: u269 :: u270 :: u271 :: u272 :: u273 :: u274 :: u275 :: u276 :: u277 :: u278 :: u279 :: u280 :: u281 :: u282 :: u283 :: u284 :: u285 :: u286 :: u287 :: u288 :: u289 :: u290 :: u291 :: u292 :: u293 :: u294 :: u295 :: u296 :: u297 :: []), []⟩ wb) :
    Code.wp Tryz.prog (Code.loop body22) Q0 ⟨List.toArray (s0 :: s1 :: s2 :: s3 :: s4 :: .slice (some ⟨gk + 1, 0, none⟩) 8 8 :: s6 :: s7 :: s8 :: s9 :: s10 :: s11 :: s12 :: s13 :: s14 :: s15 :: s16 :: s17 :: s18 :: s19 :: s20 :: .pointer (some ⟨gx, 0, none⟩) :: .int .i64 0 :: s23 :: s24 :: s25 :: s26 :: s27 :: s28 :: s29 :: s30 :: s31 :: s32 :: s33 :: s34 :: s35 :: s36 :: s37 :: s38 :: s39 :: s40 :: s41 :: s42 :: s43 :: s44 :: s45 :: s46 :: s47 :: s48 :: s49 :: s50 :: s51 :: s52 :: s53 :: s54 :: s55 :: s56 :: s57 :: s58 :: s59 :: s60 :: s61 :: s62 :: s63 :: s64 :: s65 :: s66 :: s67 :: s68 :: s69 :: s70 :: s71 :: s72 :: s73 :: s74 :: s75 :: s76 :: s77 :: s78 :: s79 :: s80 :: s81 :: s82 :: s83 :: s84 :: s85 :: s86 :: s87 :: s88 :: s89 :: s90 :: s91 :: s92 :: s93 :: s94 :: s95 :: s96 :: s97 :: s98 :: s99 :: s100 :: s101 :: s102 :: s103 :: s104 :: s105 :: s106 :: s107 :: s108 :: s109 :: s110 :: s111 :: s112 :: s113 :: s114 :: s115 :: s116 :: s117 :: s118 :: s119 :: s120 :: s121 :: s122 :: s123 :: s124 :: s125 :: s126 :: s127 :: s128 :: s129 :: s130 :: s131 :: s132 :: s133 :: s134 :: s135 :: s136 :: s137 :: s138 :: s139 :: s140 :: s141 :: s142 :: s143 :: s144 :: s145 :: s146 :: s147 :: s148 :: s149 :: s150 :: s151 :: s152 :: s153 :: s154 :: s155 :: s156 :: s157 :: s158 :: s159 :: s160 :: s161 :: s162 :: s163 :: s164 :: s165 :: s166 :: s167 :: s168 :: s169 :: s170 :: s171 :: s172 :: s173 :: s174 :: s175 :: s176 :: s177 :: s178 :: s179 :: s180 :: s181 :: s182 :: s183 :: s184 :: s185 :: s186 :: s187 :: s188 :: s189 :: s190 :: s191 :: s192 :: s193 :: s194 :: s195 :: s196 :: s197 :: s198 :: s199 :: s200 :: s201 :: s202 :: s203 :: s204 :: s205 :: s206 :: s207 :: s208 :: s209 :: s210 :: s211 :: s212 :: s213 :: s214 :: s215 :: s216 :: s217 :: s218 :: s219 :: s220 :: s221 :: s222 :: s223 :: s224 :: s225 :: s226 :: s227 :: s228 :: s229 :: s230 :: s231 :: s232 :: s233 :: s234 :: s235 :: s236 :: s237 :: s238 :: s239 :: s240 :: s241 :: s242 :: s243 :: s244 :: s245 :: s246 :: s247 :: s248 :: s249 :: s250 :: s251 :: s252 :: s253 :: s254 :: s255 :: s256 :: s257 :: s258 :: s259 :: s260 :: s261 :: s262 :: s263 :: s264 :: s265 :: s266 :: s267 :: s268 :: s269 :: s270 :: s271 :: s272 :: s273 :: s274 :: s275 :: s276 :: s277 :: s278 :: s279 :: s280 :: s281 :: s282 :: s283 :: s284 :: s285 :: s286 :: s287 :: s288 :: s289 :: s290 :: s291 :: s292 :: s293 :: s294 :: s295 :: s296 :: s297 :: []), []⟩ w1 := by
  have HX := Lib.hid hexit
  clear hexit
  conv => arg 2; arg 1; whnf
  go_loopw [22] (fun i wb => ∃ k : Nat, k ≤ 32 ∧ i = .int .i64 k ∧ Row wb gx 174 (brow S k) ∧ Row wb (gk + 1) 144 (s8l S) ∧ Row wb w.heap.size 174 z32 ∧ Below w.heap.size w wb) (fun i _ => 32 - (intOf i).toNat)
  case atStart => exact ⟨0, Nat.zero_le _, rfl, by rw [brow_zero]; exact q1, qh, q0, qb⟩
  case round =>
    obtain ⟨k, hk, rfl, h1, h2, h3, h4⟩ := hrel
    clear q0 qh qb q1
    by_cases hlt : k < 32
    · obtain ⟨a, r, hka, ha, hr⟩ : ∃ a r, k = 4 * a + r ∧ a < 8 ∧ r < 4 := ⟨k / 4, k % 4, by omega, by omega, by omega⟩
      have hdiv : (k : Int) / 4 = (a : Int) := by omega
      have haI : (a : Int) < 8 := by omega
      have hch : wr.cell? ⟨gk + 1, a, none⟩ = some (.int .u32 ((at8 S a).toNat : Int)) := by rw [h2.cell]; exact at8_get _ ha
      obtain ⟨v0, hc0⟩ : ∃ v, wr.cell? ⟨gx, k, none⟩ = some v := by
        rw [h1.cell]; exact ⟨_, List.getElem?_eq_getElem (by rw [brow_length S hk]; exact hlt)⟩
      have hf0 := h1.frozen k
      rcases (by omega : r = 0 ∨ r = 1 ∨ r = 2 ∨ r = 3) with rfl | rfl | rfl | rfl
      · have hmod : (k : Int) % 4 = 0 := by omega
        have hbyte := byteI (at8 S a) 16777216
        have hx := bytes8_get S a 0 ha (by omega)
        obtain ⟨c, hc⟩ : ∃ c, UInt8.ofNat ((at8 S a).toNat / 16777216 % 256) = c := ⟨_, rfl⟩
        have hx2 : (bytes8 S)[k]? = some c := by rw [← hc, ← hx, hka]
        have hs1 := h1.set k (.int .u8 (c.toNat : Int))
        rw [brow_set S hlt c hx2] at hs1
        have hs2 := h2.far (p := ⟨gx, k, none⟩) (by show gk + 1 ≠ gx; omega) (.int .u8 (c.toNat : Int))
        have hs3 := h3.far (p := ⟨gx, k, none⟩) (by show w.heap.size ≠ gx; omega) (.int .u8 (c.toNat : Int))
        have hs4 := h4.setCell (p := ⟨gx, k, none⟩) (by show w.heap.size ≤ gx; omega) (.int .u8 (c.toNat : Int))
        rw [hc] at hbyte
        obtain ⟨xa, hxa⟩ : ∃ x, at8 S a = x := ⟨_, rfl⟩
        rw [hxa] at hbyte hch
        simp only [Int.cast_ofNat_Int] at hbyte
        have H := Lib.hid (And.intro hs1 (And.intro hs2 (And.intro hs3 hs4)))
        clear hs1 hs2 hs3 hs4 h1 h2 h3 h4 hx hx2 hc hxa hka
        go_wp2
        go_roundw
        case rel => exact ⟨k + 1, by omega, by go_num, H.out.1, H.out.2.1, H.out.2.2.1, H.out.2.2.2⟩
        case measure => simp [intOf]; omega
      · have hmod : (k : Int) % 4 = 1 := by omega
        have hbyte := byteI (at8 S a) 65536
        have hx := bytes8_get S a 1 ha (by omega)
        obtain ⟨c, hc⟩ : ∃ c, UInt8.ofNat ((at8 S a).toNat / 65536 % 256) = c := ⟨_, rfl⟩
        have hx2 : (bytes8 S)[k]? = some c := by rw [← hc, ← hx, hka]
        have hs1 := h1.set k (.int .u8 (c.toNat : Int))
        rw [brow_set S hlt c hx2] at hs1
        have hs2 := h2.far (p := ⟨gx, k, none⟩) (by show gk + 1 ≠ gx; omega) (.int .u8 (c.toNat : Int))
        have hs3 := h3.far (p := ⟨gx, k, none⟩) (by show w.heap.size ≠ gx; omega) (.int .u8 (c.toNat : Int))
        have hs4 := h4.setCell (p := ⟨gx, k, none⟩) (by show w.heap.size ≤ gx; omega) (.int .u8 (c.toNat : Int))
        rw [hc] at hbyte
        obtain ⟨xa, hxa⟩ : ∃ x, at8 S a = x := ⟨_, rfl⟩
        rw [hxa] at hbyte hch
        simp only [Int.cast_ofNat_Int] at hbyte
        have H := Lib.hid (And.intro hs1 (And.intro hs2 (And.intro hs3 hs4)))
        clear hs1 hs2 hs3 hs4 h1 h2 h3 h4 hx hx2 hc hxa hka
        go_wp2
        go_roundw
        case rel => exact ⟨k + 1, by omega, by go_num, H.out.1, H.out.2.1, H.out.2.2.1, H.out.2.2.2⟩
        case measure => simp [intOf]; omega
      · have hmod : (k : Int) % 4 = 2 := by omega
        have hbyte := byteI (at8 S a) 256
        have hx := bytes8_get S a 2 ha (by omega)
        obtain ⟨c, hc⟩ : ∃ c, UInt8.ofNat ((at8 S a).toNat / 256 % 256) = c := ⟨_, rfl⟩
        have hx2 : (bytes8 S)[k]? = some c := by rw [← hc, ← hx, hka]
        have hs1 := h1.set k (.int .u8 (c.toNat : Int))
        rw [brow_set S hlt c hx2] at hs1
        have hs2 := h2.far (p := ⟨gx, k, none⟩) (by show gk + 1 ≠ gx; omega) (.int .u8 (c.toNat : Int))
        have hs3 := h3.far (p := ⟨gx, k, none⟩) (by show w.heap.size ≠ gx; omega) (.int .u8 (c.toNat : Int))
        have hs4 := h4.setCell (p := ⟨gx, k, none⟩) (by show w.heap.size ≤ gx; omega) (.int .u8 (c.toNat : Int))
        rw [hc] at hbyte
        obtain ⟨xa, hxa⟩ : ∃ x, at8 S a = x := ⟨_, rfl⟩
        rw [hxa] at hbyte hch
        simp only [Int.cast_ofNat_Int] at hbyte
        have H := Lib.hid (And.intro hs1 (And.intro hs2 (And.intro hs3 hs4)))
        clear hs1 hs2 hs3 hs4 h1 h2 h3 h4 hx hx2 hc hxa hka
        go_wp2
        go_roundw
        case rel => exact ⟨k + 1, by omega, by go_num, H.out.1, H.out.2.1, H.out.2.2.1, H.out.2.2.2⟩
        case measure => simp [intOf]; omega
      · have hmod : (k : Int) % 4 = 3 := by omega
        have hbyte := byteI (at8 S a) 1
        have hx := bytes8_get S a 3 ha (by omega)
        obtain ⟨c, hc⟩ : ∃ c, UInt8.ofNat ((at8 S a).toNat / 1 % 256) = c := ⟨_, rfl⟩
        have hx2 : (bytes8 S)[k]? = some c := by rw [← hc, ← hx, hka]
        have hs1 := h1.set k (.int .u8 (c.toNat : Int))
        rw [brow_set S hlt c hx2] at hs1
        have hs2 := h2.far (p := ⟨gx, k, none⟩) (by show gk + 1 ≠ gx; omega) (.int .u8 (c.toNat : Int))
        have hs3 := h3.far (p := ⟨gx, k, none⟩) (by show w.heap.size ≠ gx; omega) (.int .u8 (c.toNat : Int))
        have hs4 := h4.setCell (p := ⟨gx, k, none⟩) (by show w.heap.size ≤ gx; omega) (.int .u8 (c.toNat : Int))
        rw [hc] at hbyte
        obtain ⟨xa, hxa⟩ : ∃ x, at8 S a = x := ⟨_, rfl⟩
        rw [hxa] at hbyte hch
        replace hbyte : (xa.toNat : Int) % 256 = (c.toNat : Int) := by have h := hbyte; omega
        have H := Lib.hid (And.intro hs1 (And.intro hs2 (And.intro hs3 hs4)))
        clear hs1 hs2 hs3 hs4 h1 h2 h3 h4 hx hx2 hc hxa hka
        go_wp2
        go_roundw
        case rel => exact ⟨k + 1, by omega, by go_num, H.out.1, H.out.2.1, H.out.2.2.1, H.out.2.2.2⟩
        case measure => simp [intOf]; omega
    · have hk2 : k = 32 := by omega
      rw [hk2] at h1
      have hge : 32 ≤ k := by omega
      have HV := Lib.hid (And.intro h1 (And.intro h3 h4))
      clear hk2 hlt hk h1 h2 h3 h4
      go_wp2
      exact HX.out _ _ _ _ _ _ _ _ _ _ _ _ _ _ _ _ _ _ _ _ _ _ _ _ _ _ _ _ _ _ _ _ _ _ _ _ HV.out.1 HV.out.2.1 HV.out.2.2
end Go.Proofs.YtiaaeniopjpfpaaGreatDoor

namespace Go.Proofs.YtiaaeniopjpfpaaGreatDoor
open Go.RowKit
set_option linter.unusedVariables false
set_option linter.unusedSimpArgs false

attribute [local irreducible] mixK rnds sched add8 comp moreW firstW nextW rnd shaL bytes8 blk wpart wordPart wrow brow
set_option maxRecDepth 20000 in
set_option maxHeartbeats 40000000 in
theorem refSum_any (s : ByteArray) (hs : s.size ≤ 100000) (w : World) :
    Calls Tryz.prog 123 #[.string s] w fun e w' => e = .returned (sumV (shaL s.data.toList)) ∧ Below w.heap.size w w' := by
  obtain ⟨i0, hi0, hz0, hz1, hz2⟩ := info_parts w_info3
  have HI := Lib.hid (And.intro hi0 (And.intro hz0 (And.intro hz1 hz2)))
  clear hi0 hz0 hz1 hz2
  obtain ⟨P, hP⟩ : ∃ P, padB s = P := ⟨_, rfl⟩
  obtain ⟨L, hL⟩ : ∃ L, padL s.data.toList = L := ⟨_, rfl⟩
  obtain ⟨n, hn⟩ : ∃ n, L.length / 64 = n := ⟨_, rfl⟩
  have hPL : P.data.toList = L := by rw [← hP, ← hL]; rfl
  have hsz : P.size = 64 * n := by
    have h1 := padB_size s
    rw [hP] at h1
    have h2 : P.size = L.length := by rw [← hPL]; simp
    omega
  have hbig : n ≤ 2000 := by
    have h1 := padB_size s
    rw [hP] at h1
    omega
  have HP := Lib.hid (And.intro hP (And.intro hL (And.intro hn (And.intro hPL hsz))))
  clear hL hn hPL
  go_enter Tryz.func123, Tryz.ntmps123
  go_wp2_with fail
  refine (refPad_any s hs _).mono ?_
  rintro e w1 ⟨rfl, hb1⟩
  rw [hP]
  clear hP
  have hr1 := (Row.new w 174 z32).below hb1 (by simp)
  have hb1' := ((Below.refl w.heap.size w).alloc (Nat.le_refl _) (.cells z32.toArray 174)).trans (hb1.mono (by simp))
  have hsz1 := hr1.lt
  clear hb1
  go_wp2_with fail
  refine (refK_any _).mono ?_
  rintro e w2 ⟨rfl, rfl⟩
  have hrk := Row.new w1 144 (wrow K64)
  have hr2 := hr1.alloc (.cells (wrow K64).toArray 144)
  have hb2 := hb1'.alloc hb1'.size (.cells (wrow K64).toArray 144)
  have hs2 : (w1.alloc (.cells (wrow K64).toArray 144)).heap.size = w1.heap.size + 1 := by simp
  generalize w1.alloc (.cells (wrow K64).toArray 144) = w2 at hrk hr2 hb2 hs2 ⊢
  obtain ⟨gk, hgk⟩ : ∃ g, w1.heap.size = g := ⟨_, rfl⟩
  rw [hgk] at hrk hs2 hsz1 ⊢
  clear hb1' hr1 hgk
  have hrk3 := hrk.alloc (.cells (s8l start8).toArray 144)
  have hr3 := hr2.alloc (.cells (s8l start8).toArray 144)
  have hb3 := hb2.alloc hb2.size (.cells (s8l start8).toArray 144)
  have hrh3 := Row.new w2 144 (s8l start8)
  rw [hs2] at hrh3
  have hs3 : (w2.alloc (.cells (s8l start8).toArray 144)).heap.size = gk + 2 := by simp [hs2]
  have eh0 : (h0Ints.map (Value.int .u32)).toArray = (s8l start8).toArray := by rfl
  have HS2 := Lib.hid hs2
  have HE0 := Lib.hid eh0
  clear hs2 hrk hr2 hb2 eh0
  go_wp2_with (refine wpList_buildFlatAt rfl 194 144 8 _ rfl .u32 h0Ints (gk + 1) HS2.out (some 26) rfl Tryz.underlying194 (by kernel_rfl) (by kernel_rfl) (by kernel_rfl) (by decide) (by decide) (by kernel_rfl) ?_)
  rw [HE0.out]
  generalize w2.alloc (.cells (s8l start8).toArray 144) = w3 at hrk3 hr3 hb3 hrh3 hs3 ⊢
  clear HS2 HE0
  have HW3 := Lib.hid (And.intro hrk3 (And.intro hr3 (And.intro hb3 (And.intro hrh3 hs3))))
  clear hrk3 hr3 hb3 hrh3 hs3
  go_wp2
  go_loopw [6] (fun at' wr => ∃ J : Nat, J ≤ n ∧ at' = .int .i64 ((64 * J : Nat) : Int) ∧ Row wr w.heap.size 174 z32 ∧ Row wr gk 144 (wrow K64) ∧ Row wr (gk + 1) 144 (s8l (mixK start8 L J)) ∧ Below w.heap.size w wr) (fun at' _ => 64 * n - (intOf at').toNat)
  case atStart => exact ⟨0, Nat.zero_le _, rfl, HW3.out.2.1, HW3.out.1, by rw [mixK_zero]; exact HW3.out.2.2.2.1, HW3.out.2.2.1⟩
  case round =>
    obtain ⟨J, hJ, rfl, r0, rk, rh, rb⟩ := hrel
    by_cases hlt : J < n
    · skip
      have hlt64 : 64 * J < P.size := by omega
      have HR := Lib.hid (And.intro r0 (And.intro rk (And.intro rh (And.intro rb (And.intro hJ hlt)))))
      have hkr := rk.lt
      clear r0 rk rh rb HW3 hJ
      obtain ⟨b, hb⟩ : ∃ b, blk L J = b := ⟨_, rfl⟩
      have hby : ∀ k, k < 64 → ∃ (h : 64 * J + k < P.size), b[k]? = some P[64 * J + k] := by
        intro k hk
        have hi : 64 * J + k < P.size := by omega
        refine ⟨hi, ?_⟩
        rw [← hb]
        unfold blk
        rw [List.getElem?_take_of_lt hk, List.getElem?_drop, ← HP.out.2.2.2.1, Array.getElem?_toList, Array.getElem?_eq_getElem hi]
        rfl
      have HBY := Lib.hid (And.intro hb hby)
      clear hb hby
      go_wp2_with (refine wpList_make_row _ rfl _ _ 194 rfl 144 i0 (.int .u32 0) Tryz.underlying194 HI.out.1 HI.out.2.1 HI.out.2.2.1 rfl .i64 .i64 64 rfl rfl (by rw [HI.out.2.2.2]; decide) (by decide) ?_)
      rw [made64]
      have r1 := Row.new wr 144 z64
      have q0 := HR.out.1.alloc (.cells z64.toArray 144)
      have qk := HR.out.2.1.alloc (.cells z64.toArray 144)
      have qh := HR.out.2.2.1.alloc (.cells z64.toArray 144)
      have qb := HR.out.2.2.2.1.alloc HR.out.2.2.2.1.size (.cells z64.toArray 144)
      have qB := (Below.refl wr.heap.size wr).alloc (Nat.le_refl _) (.cells z64.toArray 144)
      have hgh := HR.out.2.2.1.lt
      have hg0 := HR.out.2.2.2.1.size
      have hg1 := HR.out.1.lt
      generalize wr.alloc (.cells z64.toArray 144) = wa at r1 q0 qk qh qb qB ⊢
      obtain ⟨gw, hgw⟩ : ∃ g, wr.heap.size = g := ⟨_, rfl⟩
      rw [hgw] at r1 hkr hgh hg0 hg1 qB ⊢
      have HQ := Lib.hid (And.intro q0 (And.intro qk (And.intro qh qb)))
      have HGW := Lib.hid hgw
      clear q0 qk qh qb hgw
      go_loopw [8] (fun i wb => ∃ k : Nat, k ≤ 16 ∧ i = .int .i64 k ∧ Row wb gw 144 (wrow (firstW b k)) ∧ Below gw wa wb) (fun i _ => 16 - (intOf i).toNat)
      case atStart => exact ⟨0, Nat.zero_le _, rfl, by rw [firstW_zero]; exact r1, Below.refl _ _⟩
      case round =>
        obtain ⟨k, hk, rfl, r2, b2⟩ := hrel
        clear r1
        by_cases hlk : k < 16
        · skip
          rw [← wpart_zero b hlk] at r2
          have HB2 := Lib.hid b2
          have hs2 := b2.size
          clear b2
          go_wp2
          go_loopw [9] (fun j wc => ∃ m : Nat, m ≤ 4 ∧ j = .int .i64 m ∧ Row wc gw 144 (wpart b k m) ∧ Below gw wa wc) (fun j _ => 4 - (intOf j).toNat)
          case atStart => exact ⟨0, Nat.zero_le _, rfl, r2, HB2.out⟩
          case round =>
            obtain ⟨m, hm, rfl, r3, b3⟩ := hrel
            clear r2
            by_cases hlm : m < 4
            · obtain ⟨hi, hx⟩ := HBY.out.2 (4 * k + m) (by omega)
              obtain ⟨x, hxx⟩ : ∃ x, P[64 * J + (4 * k + m)] = x := ⟨_, rfl⟩
              rw [hxx] at hx
              have hst := wordPart_step b k m x hx
              have hc := r3.cell k
              rw [wpart_get b m hlk] at hc
              have hf := r3.frozen k
              have hs1 := fun n => (r3.drewN n).set k (.int .u32 ((wordPart b k (m + 1)).toNat : Int))
              rw [wpart_set] at hs1
              have hs3 := fun n => (below_drewN b3 n).setCell (p := ⟨gw, k, none⟩) (Nat.le_refl _) (.int .u32 ((wordPart b k (m + 1)).toNat : Int))
              have H := Lib.hid (And.intro hs1 hs3)
              obtain ⟨y, hy⟩ : ∃ y, wordPart b k m = y := ⟨_, rfl⟩
              obtain ⟨z, hz⟩ : ∃ z, wordPart b k (m + 1) = z := ⟨_, rfl⟩
              rw [hy, hz] at hst
              rw [hy] at hc
              rw [hz] at H
              obtain ⟨qi, hidx, hqi, hx2⟩ : ∃ (q : Nat) (h : q < P.size), 64 * J + 4 * k + m = q ∧ P[q] = x := ⟨64 * J + (4 * k + m), hi, by omega, hxx⟩
              have hqI : 64 * (J : Int) + 4 * (k : Int) + (m : Int) = (qi : Int) := by omega
              have hk64 : k < 64 := by omega
              clear hsz hqi hs1 hs3 hy hz hx hxx r3 b3 HB2 hs2
              go_wp2
              go_region
              go_wp2
              go_roundw
              case rel => exact ⟨m + 1, by omega, by go_num, H.out.1 _, H.out.2 _⟩
              case measure => simp [intOf]; omega
            · have hm4 : m = 4 := by omega
              have hge : 4 ≤ m := by omega
              rw [hm4, wpart_four _ hlk] at r3
              have HH := Lib.hid (And.intro r3 b3)
              clear r3 b3 HB2 hs2 hm4 hm hlm
              go_wp2
              go_roundw
              case rel => exact ⟨k + 1, by omega, by go_num, HH.out.1, HH.out.2⟩
              case measure => simp [intOf]; omega
        · have hk16 : k = 16 := by omega
          rw [hk16] at r2
          have hge : 16 ≤ k := by omega
          have hs2 := b2.size
          have HB2 := Lib.hid b2
          clear b2 hk hlk hk16
          go_wp2
          go_loopw [10] (fun i wb => ∃ j : Nat, 16 ≤ j ∧ j ≤ 64 ∧ i = .int .i64 j ∧ Row wb gw 144 (wrow (moreW (firstW b 16) (j - 16))) ∧ Below gw wa wb) (fun i _ => 64 - (intOf i).toNat)
          case atStart => exact ⟨16, Nat.le_refl _, by omega, rfl, by rw [moreW_zero]; exact r2, HB2.out⟩
          case round =>
            obtain ⟨j, hj16, hj, rfl, g1, gb⟩ := hrel
            clear r2 HB2 hs2
            by_cases hlj : j < 64
            · skip
              obtain ⟨M, hM⟩ : ∃ M, moreW (firstW b 16) (j - 16) = M := ⟨_, rfl⟩
              have hMl : M.length = j := by rw [← hM, moreW_length, firstW_length]; omega
              have hnx : moreW (firstW b 16) (j + 1 - 16) = M ++ [nextW M] := by
                rw [show j + 1 - 16 = (j - 16) + 1 by omega, moreW, hM]
              have hnw : nextW M = nextW4 (M.getD (j - 16) 0) (M.getD (j - 15) 0) (M.getD (j - 7) 0) (M.getD (j - 2) 0) := by unfold nextW; rw [hMl]
              rw [hM] at g1
              have c15 : wr.cell? ⟨gw, j - 15, none⟩ = some (.int .u32 ((M.getD (j - 15) 0).toNat : Int)) := by rw [g1.cell]; exact wrow_get (by omega)
              have c2 : wr.cell? ⟨gw, j - 2, none⟩ = some (.int .u32 ((M.getD (j - 2) 0).toNat : Int)) := by rw [g1.cell]; exact wrow_get (by omega)
              have c16 : wr.cell? ⟨gw, j - 16, none⟩ = some (.int .u32 ((M.getD (j - 16) 0).toNat : Int)) := by rw [g1.cell]; exact wrow_get (by omega)
              have c7 : wr.cell? ⟨gw, j - 7, none⟩ = some (.int .u32 ((M.getD (j - 7) 0).toNat : Int)) := by rw [g1.cell]; exact wrow_get (by omega)
              obtain ⟨v0, hc0⟩ : ∃ v, wr.cell? ⟨gw, j, none⟩ = some v := by
                rw [g1.cell]; exact wrow_some (by omega) hlj
              have hf0 := g1.frozen j
              obtain ⟨p, hp⟩ : ∃ p, M.getD (j - 16) 0 = p := ⟨_, rfl⟩
              obtain ⟨x, hx⟩ : ∃ x, M.getD (j - 15) 0 = x := ⟨_, rfl⟩
              obtain ⟨q, hq⟩ : ∃ q, M.getD (j - 7) 0 = q := ⟨_, rfl⟩
              obtain ⟨y, hy⟩ : ∃ y, M.getD (j - 2) 0 = y := ⟨_, rfl⟩
              rw [hp] at c16 hnw
              rw [hx] at c15 hnw
              rw [hq] at c7 hnw
              rw [hy] at c2 hnw
              have hs1 := fun n => (g1.drewN n).set j (.int .u32 ((nextW M).toNat : Int))
              have hws := wrow_set (l := M) (by omega) (nextW M)
              rw [hMl, ← hnx] at hws
              rw [hws] at hs1
              have hbs := fun n => (below_drewN gb n).setCell (p := ⟨gw, j, none⟩) (Nat.le_refl _) (.int .u32 ((nextW M).toNat : Int))
              rw [hnw] at hs1 hbs
              have H := Lib.hid (And.intro hs1 hbs)
              have hsx := u32_shr x 3 (by omega)
              have hsy := u32_shr y 10 (by omega)
              simp only [Int.reducePow] at hsx hsy
              have hX := u32_xor
              have hD := u32_add
              have hB15 : (j : Int) - 15 < 64 := by omega
              have hB2 : (j : Int) - 2 < 64 := by omega
              have hB16 : (j : Int) - 16 < 64 := by omega
              have hB7 : (j : Int) - 7 < 64 := by omega
              clear hs1 hbs g1 gb hws hnw hnx hM hMl hp hx hq hy
              go_wp2
              go_quiet ((go_at_call 143; first | (refine (rotrQ2 _ _ ?hb _ _ _).mono ?_; (case hb => decide); rintro e1 w1 ⟨rfl, m, rfl⟩; exact ⟨rfl, m, rfl⟩) | (refine (rotrQ _ _ ?hb _ _ ⟨_, rfl⟩).mono ?_; (case hb => decide); rintro e1 w1 ⟨rfl, m, rfl⟩; exact ⟨rfl, m, rfl⟩)))
              go_wp2
              go_quiet ((go_at_call 143; first | (refine (rotrQ2 _ _ ?hb _ _ _).mono ?_; (case hb => decide); rintro e1 w1 ⟨rfl, m, rfl⟩; exact ⟨rfl, m, rfl⟩) | (refine (rotrQ _ _ ?hb _ _ ⟨_, rfl⟩).mono ?_; (case hb => decide); rintro e1 w1 ⟨rfl, m, rfl⟩; exact ⟨rfl, m, rfl⟩)))
              go_wp2
              go_region
              go_wp2
              go_roundw
              case rel => exact ⟨j + 1, by omega, by omega, by go_num, H.out.1 _, H.out.2 _⟩
              case measure => simp [intOf]; omega
            · have hk2 : j = 64 := by omega
              have hjI : (j : Int) = 64 := by omega
              rw [hjI]
              rw [hk2] at g1
              have hL : moreW (firstW b 16) (64 - 16) = sched b := sched_eq b
              rw [hL] at g1
              have p0 := HQ.out.1.below gb hg1
              have pk := HQ.out.2.1.below gb hkr
              have ph := HQ.out.2.2.1.below gb hgh
              have pb := HQ.out.2.2.2.trans (gb.mono hg0)
              have HP2 := Lib.hid (And.intro p0 (And.intro pk (And.intro ph (And.intro pb g1))))
              obtain ⟨T, hT⟩ : ∃ T, mixK start8 L J = T := ⟨_, rfl⟩
              rw [hT] at ph
              have HT := Lib.hid hT
              have PH := Lib.hid ph
              obtain ⟨c0, c1, c2, c3, c4, c5, c6, c7⟩ := cells8 ph
              clear p0 pk ph pb g1 hT hL hlj hj hj16 gb hk2 hjI
              go_wp2
              apply wp_cut_one
              case h1 =>
                go_region_held3 (fun w' => w'.cell? ⟨gk + 1, 0, none⟩ = some (.int .u32 T.a.toNat) ∧ w'.cell? ⟨gk + 1, 1, none⟩ = some (.int .u32 T.b.toNat) ∧ w'.cell? ⟨gk + 1, 2, none⟩ = some (.int .u32 T.c.toNat) ∧ w'.cell? ⟨gk + 1, 3, none⟩ = some (.int .u32 T.d.toNat) ∧
      w'.cell? ⟨gk + 1, 4, none⟩ = some (.int .u32 T.e.toNat) ∧ w'.cell? ⟨gk + 1, 5, none⟩ = some (.int .u32 T.f.toNat) ∧ w'.cell? ⟨gk + 1, 6, none⟩ = some (.int .u32 T.g.toNat) ∧ w'.cell? ⟨gk + 1, 7, none⟩ = some (.int .u32 T.h.toNat))
      (first
        | (exact ⟨c0, c1, c2, c3, c4, c5, c6, c7⟩)
        | (exact cells8 ((PH.out.alloc _).drewN 1)))
      (first
        | (fail))
                exact ⟨rfl, rfl, rfl⟩
              obtain ⟨w4, hw4⟩ : ∃ w4, (wr.alloc (.cells #[.int .u32 T.a.toNat, .int .u32 T.b.toNat, .int .u32 T.c.toNat, .int .u32 T.d.toNat, .int .u32 T.e.toNat, .int .u32 T.f.toNat, .int .u32 T.g.toNat, .int .u32 T.h.toNat] 144)).drew = w4 := ⟨_, rfl⟩
              rw [hw4]
              have r4 : Row w4 wr.heap.size 144 (s8l T) := by rw [← hw4]; exact Row.drewN (Row.new wr _ _) 1
              have b4 : Below wr.heap.size wr w4 := by rw [← hw4]; exact below_drewN ((Below.refl _ _).alloc (Nat.le_refl _) _) 1
              have p0 := HP2.out.1.below b4 HP2.out.1.lt
              have pk := HP2.out.2.1.below b4 HP2.out.2.1.lt
              have ph := HP2.out.2.2.1.below b4 HP2.out.2.2.1.lt
              have pb := HP2.out.2.2.2.1.trans (b4.mono HP2.out.2.2.2.1.size)
              have pw := HP2.out.2.2.2.2.below b4 HP2.out.2.2.2.2.lt
              have l0 := HP2.out.1.lt
              have lk := HP2.out.2.1.lt
              have lh := HP2.out.2.2.1.lt
              have lw := HP2.out.2.2.2.2.lt
              rw [HT.out] at ph
              obtain ⟨gv, hgv⟩ : ∃ g, wr.heap.size = g := ⟨_, rfl⟩
              rw [hgv] at r4 l0 lk lh lw ⊢
              obtain ⟨sc, hsc⟩ : ∃ sc, sched b = sc := ⟨_, rfl⟩
              have hscl : sc.length = 64 := by rw [← hsc]; exact sched_length b
              rw [hsc] at pw
              have HSC := Lib.hid hsc
              have HQ4 := Lib.hid (And.intro p0 (And.intro pk (And.intro ph (And.intro pb pw))))
              have hgv4 := r4.lt
              clear p0 pk ph pb pw hsc hw4 HP2 PH c0 c1 c2 c3 c4 c5 c6 c7 hgv b4 HQ
              go_wp2
              refine loop13 gk gw gv T sc w4 _ HQ4.out.2.1 HQ4.out.2.2.2.2 r4 lk lw hscl hgv4 ?_
              intro u14 u15 u16 u17 u18 u19 u20 u147 u148 u149 u150 u151 u152 u153 u154 u155 u156 u157 u158 u159 u160 u161 u162 u163 u164 u165 u166 u167 u168 u169 u170 u171 u172 u173 u174 u175 u176 u177 u178 u179 u180 u181 u182 u183 u184 u185 u186 u187 u188 u189 u190 u191 u192 u193 u194 u195 u196 u197 u198 u199 u200 u201 u202 u203 u204 u205 u206 u207 u208 u209 u210 u211 u212 u213 u214 u215 u216 u217 u218 u219 u220 u221 u222 u223 u224 u225 u226 u227 u228 u229 u230 u231 u232 u233 u234 u235 u236 u237 u238 u239 u240 u241 u242 u243 u244 u245 u246 u247 u248 u249 u250 u251 u252 u253 u254 u255 u256 u257 u258 u259 u260 u261 u262 u263 g wy rv hgg bv4
              have p0 := HQ4.out.1.below bv4 l0
              have pk := HQ4.out.2.1.below bv4 lk
              have ph := HQ4.out.2.2.1.below bv4 lh
              have pb := HQ4.out.2.2.2.1.trans (bv4.mono (by omega))
              have hcomp := comp_split HT.out HBY.out.1 HSC.out
              obtain ⟨U, hU⟩ : ∃ U, rnds T sc 64 = U := ⟨_, rfl⟩
              rw [hU] at rv hcomp
              have HC := Lib.hid (fun (_ : Unit) => hcomp)
              have HG := Lib.hid hgg
              clear hU hcomp bv4 HQ4 hgg
              go_wp2
              go_loopw [20] (fun i wb => ∃ j : Nat, j ≤ 8 ∧ i = .int .i64 j ∧ Row wb (gk + 1) 144 (part8 T (add8 T U) j) ∧ Row wb g 144 (s8l U) ∧ Row wb w.heap.size 174 z32 ∧ Row wb gk 144 (wrow K64) ∧ Below w.heap.size w wb) (fun i _ => 8 - (intOf i).toNat)
              case atStart => exact ⟨0, Nat.zero_le _, rfl, ph, rv, p0, pk, pb⟩
              case round =>
                obtain ⟨j, hj, rfl, h1, h2, h3, h4, h5⟩ := hrel
                clear p0 pk ph pb rv
                by_cases hlj : j < 8
                · have hc1 : wr.cell? ⟨gk + 1, j, none⟩ = some (.int .u32 ((at8 T j).toNat : Int)) := by rw [h1.cell]; exact part8_get _ _ hlj
                  have hc2 : wr.cell? ⟨g, j, none⟩ = some (.int .u32 ((at8 U j).toNat : Int)) := by rw [h2.cell]; exact at8_get _ hlj
                  have hf1 := h1.frozen j
                  have had := at8_add T U hlj
                  have hs1 := fun n => (h1.drewN n).set j (.int .u32 ((at8 (add8 T U) j).toNat : Int))
                  rw [part8_set T (add8 T U) hlj] at hs1
                  have hs2 := fun n => (h2.drewN n).far (p := ⟨gk + 1, j, none⟩) (by have := HG.out; show g ≠ gk + 1; omega) (.int .u32 ((at8 (add8 T U) j).toNat : Int))
                  have hs3 := fun n => (h3.drewN n).far (p := ⟨gk + 1, j, none⟩) (by show w.heap.size ≠ gk + 1; omega) (.int .u32 ((at8 (add8 T U) j).toNat : Int))
                  have hs4 := fun n => (h4.drewN n).far (p := ⟨gk + 1, j, none⟩) (by show gk ≠ gk + 1; omega) (.int .u32 ((at8 (add8 T U) j).toNat : Int))
                  have hs5 := fun n => (below_drewN h5 n).setCell (p := ⟨gk + 1, j, none⟩) (by show w.heap.size ≤ gk + 1; omega) (.int .u32 ((at8 (add8 T U) j).toNat : Int))
                  rw [had] at hs1 hs2 hs3 hs4 hs5
                  have H := Lib.hid (And.intro hs1 (And.intro hs2 (And.intro hs3 (And.intro hs4 hs5))))
                  have hD := u32_add
                  obtain ⟨xa, hxa⟩ : ∃ x, at8 T j = x := ⟨_, rfl⟩
                  obtain ⟨xb, hxb⟩ : ∃ x, at8 U j = x := ⟨_, rfl⟩
                  rw [hxa, hxb] at H
                  rw [hxa] at hc1
                  rw [hxb] at hc2
                  have hjI : (j : Int) < 8 := by omega
                  clear hs1 hs2 hs3 hs4 hs5 h1 h2 h3 h4 h5 had hxa hxb
                  go_wp2
                  go_region
                  go_wp2
                  go_roundw
                  case rel => exact ⟨j + 1, by omega, by go_num, H.out.1 _, H.out.2.1 _, H.out.2.2.1 _, H.out.2.2.2.1 _, H.out.2.2.2.2 _⟩
                  case measure => simp [intOf]; omega
                · have hk2 : j = 8 := by omega
                  have hge : 8 ≤ j := by omega
                  have e8 : part8 T (add8 T U) j = s8l (add8 T U) := by rw [hk2]; exact part8_all _ _
                  rw [e8, HC.out ()] at h1
                  have H := Lib.hid (And.intro h1 (And.intro h3 (And.intro h4 h5)))
                  have HJ := Lib.hid HR.out.2.2.2.2.2
                  clear hk2 hlj hj h1 h2 h3 h4 h5 e8
                  go_wp2
                  go_roundw
                  case rel => exact ⟨J + 1, HJ.out, by congr 1 <;> omega, H.out.2.1, H.out.2.2.1, H.out.1, H.out.2.2.2⟩
                  case measure => simp [intOf]; omega
    · have hJn : J = n := by omega
      have hgeI : (n : Int) ≤ (J : Int) := by omega
      rw [hJn] at rh
      obtain ⟨S, hS⟩ : ∃ S, mixK start8 L n = S := ⟨_, rfl⟩
      rw [hS] at rh
      have hfin : shaL s.data.toList = bytes8 S := by
        unfold shaL
        rw [HP.out.2.1, HP.out.2.2.1, hS]
      have HF := Lib.hid hfin
      have hgh := rh.lt
      have q0 := r0.alloc (.cells z32.toArray 174)
      have qh := rh.alloc (.cells z32.toArray 174)
      have qb := rb.alloc rb.size (.cells z32.toArray 174)
      have q1 := Row.new wr 174 z32
      have hz := (zero_of_info s32_info).1
      have lg := q1.lt
      obtain ⟨gx, hgx⟩ : ∃ g, wr.heap.size = g := ⟨_, rfl⟩
      rw [hgx] at q1 hgh
      clear hfin hS r0 rk rh rb hJn hlt lg
      have hl0 : w.heap.size < gk := hsz1
      go_wp2
      generalize wr.alloc (.cells z32.toArray 174) = wz at q0 qh qb q1 ⊢
      try rw [hgx]
      clear hz hgx
      refine loop22 gk gx S w wz _ q1 qh q0 qb hl0 hgh ?_
      intro u22 u264 u265 u266 u267 u268 u269 u270 u271 u272 u273 u274 u275 u276 u277 u278 u279 u280 u281 u282 u283 u284 u285 u286 u287 u288 u289 u290 u291 u292 u293 u294 u295 u296 u297 wr h1 h3 h4
      clear q0 qh qb q1
      rw [brow_all] at h1
      have hl : ((bytes8 S).map bv).length = 32 := by rw [List.length_map, bytes8_len]
      have hone : ((bytes8 S).map bv).toArray.all (·.oneCell') = true := by
        rw [Array.all_eq_true_iff_forall_mem]
        intro v hv
        simp only [List.mem_toArray, List.mem_map] at hv
        obtain ⟨c, _, rfl⟩ := hv
        rfl
      obtain ⟨cs, hcs⟩ : ∃ cs, (bytes8 S).map bv = cs := ⟨_, rfl⟩
      rw [hcs] at h1 hl hone
      have HV := Lib.hid (And.intro hl (And.intro hone hcs))
      clear hl hone hcs
      go_wp2_with (first
        | (refine wpList_load_row rfl 174 (.tmp 21) rfl gx rfl 174 cs.toArray (0, 0) _ h1 Tryz.underlying174 rfl (by rw [s32_size, List.size_toArray, HV.out.1]) ?_)
        | (refine wpList_store_row rfl 174 (.tmp 2) _ rfl w.heap.size cs.toArray rfl rfl 174 z32.toArray h3 (by rw [s32_size, List.size_toArray, HV.out.1]) (by rw [List.size_toArray, List.size_toArray, HV.out.1]; rfl) HV.out.2.1 ?_))
      have hr := h3.put cs
      have hbs := below_setRow (B := w.heap.size) h4 (Nat.le_refl _) cs.toArray
      exact bodyPost_ret (v := .agg cs.toArray) (results_cell_row rfl _ _ w.heap.size 174 cs.toArray (0, 0) _ rfl hr Tryz.underlying174 rfl (by rw [s32_size, List.size_toArray, HV.out.1])) rfl ⟨by unfold sumV; rw [HF.out, HV.out.2.2], hbs⟩
end Go.Proofs.YtiaaeniopjpfpaaGreatDoor

namespace Go.Proofs.YtiaaeniopjpfpaaGreatDoor
open Go.RowKit
set_option linter.unusedVariables false
theorem u8_info4 : (Tryz.prog.info? 5).map (fun i => (i.zero, i.size, i.bytes)) = some (some (.int .u8 0), 1, 1) := by kernel_rfl
theorem made32 : madeCells #[.int .u8 0] 32 = z32.toArray := by kernel_rfl
/-- The first k bytes, noughts behind. -/
def trow (L : List UInt8) (k : Nat) : List Value := (L.take k).map bv ++ List.replicate (32 - k) (.int .u8 0)
theorem trow_length (L : List UInt8) (hL : L.length = 32) {k : Nat} (h : k ≤ 32) : (trow L k).length = 32 := by unfold trow; simp [hL]; omega
theorem trow_set (L : List UInt8) (hL : L.length = 32) {k : Nat} (h : k < 32) (x : UInt8) (hx : L[k]? = some x) : (trow L k).set k (.int .u8 x.toNat) = trow L (k + 1) := by
  unfold trow
  have hl : ((L.take k).map bv).length = k := by simp [hL]; omega
  have e : 32 - k = (32 - (k + 1)) + 1 := by omega
  rw [e, List.replicate_succ, List.set_append_right _ _ (by omega), hl, Nat.sub_self, List.set_cons_zero, List.take_add_one, hx, List.map_append, List.append_assoc]
  rfl
theorem trow_all (L : List UInt8) (hL : L.length = 32) : trow L 32 = L.map bv := by
  unfold trow
  rw [List.take_of_length_le (by rw [hL]; exact Nat.le_refl _)]
  simp

set_option maxRecDepth 20000 in
set_option maxHeartbeats 4000000 in
theorem refText_any (s : ByteArray) (hs : s.size ≤ 100000) (w : World) :
    Calls Tryz.prog 97 #[.string s] w fun e w' => e = .returned (.string ⟨(shaL s.data.toList).toArray⟩) ∧ Below w.heap.size w w' := by
  obtain ⟨i0, hi0, hz0, hz1, hz2⟩ := info_parts u8_info4
  have HI := Lib.hid (And.intro hi0 (And.intro hz0 (And.intro hz1 hz2)))
  clear hi0 hz0 hz1 hz2
  have HRS := Lib.hid (fun W => refSum_any s hs W)
  have hl := shaL_length s.data.toList
  obtain ⟨L, hL⟩ : ∃ L, shaL s.data.toList = L := ⟨_, rfl⟩
  rw [hL] at HRS hl ⊢
  obtain ⟨cs, hcs⟩ : ∃ cs, L.map bv = cs := ⟨_, rfl⟩
  have e0 : sumV L = .agg cs.toArray := by rw [← hcs]; rfl
  rw [e0] at HRS
  have hcg : ∀ (k : Nat) (x : UInt8), L[k]? = some x → cs[k]? = some (Value.int .u8 x.toNat) := by
    intro k x hx
    rw [← hcs, List.getElem?_map, hx]; rfl
  have hcl : cs.length = 32 := by rw [← hcs, List.length_map, hl]
  have hone : cs.toArray.all (·.oneCell') = true := by
    rw [← hcs, Array.all_eq_true_iff_forall_mem]
    intro v hv
    simp only [List.mem_toArray, List.mem_map] at hv
    obtain ⟨c, _, rfl⟩ := hv
    rfl
  have HC := Lib.hid (And.intro hcg (And.intro hcs hl))
  have HO := Lib.hid (And.intro hcl hone)
  have hz := (zero_of_info s32_info).1
  clear hcg hcs hl hL e0 hcl hone
  go_enter Tryz.func97, Tryz.ntmps97
  go_wp2_with fail
  refine (HRS.out _).mono ?_
  rintro e w1 ⟨rfl, hb1⟩
  have rx := (Row.new w1 174 z32).put cs
  have b1 := below_setRow (B := w.heap.size) (hb1.alloc hb1.size (.cells z32.toArray 174)) hb1.size cs.toArray
  have hg := hb1.size
  have hsz : ((w1.alloc (.cells z32.toArray 174)).setRow w1.heap.size cs.toArray).heap.size = w1.heap.size + 1 := by simp [World.setRow]
  clear hb1
  go_wp2_with (refine wpList_store_row rfl 174 (.tmp 3) (.tmp 7) rfl w1.heap.size cs.toArray rfl rfl 174 z32.toArray (Row.new w1 _ _) (by rw [s32_size, List.size_toArray, HO.out.1]) (by rw [List.size_toArray, List.size_toArray, HO.out.1]; rfl) HO.out.2 ?_)
  generalize (w1.alloc (.cells z32.toArray 174)).setRow w1.heap.size cs.toArray = w2 at rx b1 hsz ⊢
  obtain ⟨gx, hgx⟩ : ∃ g, w1.heap.size = g := ⟨_, rfl⟩
  rw [hgx] at rx hg hsz ⊢
  have r1 := Row.new w2 5 z32
  have rx1 := rx.alloc (.cells z32.toArray 5)
  have b2 := b1.alloc b1.size (.cells z32.toArray 5)
  rw [hsz] at r1
  have HSZ := Lib.hid hsz
  clear hz hgx rx b1 hsz
  have hmk : ∀ W : World, (Instr.makeSlice 87 (.int .i64 32) (.int .i64 32)).run Tryz.prog W = .ok (.slice (some ⟨W.heap.size, 0, none⟩) 32 32) (W.alloc (.cells z32.toArray 5)) := fun W => by
    rw [← made32]
    exact run_make_row 87 5 i0 (.int .u8 0) Tryz.underlying87 HI.out.1 HI.out.2.1 HI.out.2.2.1 rfl .i64 .i64 32 (by rw [HI.out.2.2.2]; decide) (by decide) W
  go_wp2
  have h := hmk w2
  rw [h, HSZ.out]
  clear h hmk
  generalize w2.alloc (.cells z32.toArray 5) = w3 at r1 rx1 b2 ⊢
  clear HSZ
  go_wp2
  go_loopw [5] (fun i wr => ∃ k : Nat, k ≤ 32 ∧ i = .int .i64 k ∧ Row wr (gx + 1) 5 (trow L k) ∧ Row wr gx 174 cs ∧ Below w.heap.size w wr) (fun i _ => 32 - (intOf i).toNat)
  case atStart => exact ⟨0, Nat.zero_le _, rfl, r1, rx1, b2⟩
  case round =>
    obtain ⟨k, hk, rfl, h1, h3, h2⟩ := hrel
    clear r1 rx1 b2
    by_cases hlt : k < 32
    · obtain ⟨x, hx⟩ : ∃ x, L[k]? = some x := ⟨_, List.getElem?_eq_getElem (by rw [HC.out.2.2]; exact hlt)⟩
      have hcx : wr.cell? ⟨gx, k, none⟩ = some (.int .u8 (x.toNat : Int)) := by rw [h3.cell]; exact HC.out.1 k x hx
      obtain ⟨v0, hc0⟩ : ∃ v, wr.cell? ⟨gx + 1, k, none⟩ = some v := by
        rw [h1.cell]; exact ⟨_, List.getElem?_eq_getElem (by rw [trow_length L HC.out.2.2 hk]; exact hlt)⟩
      have hf0 := h1.frozen k
      have hs1 := h1.set k (.int .u8 (x.toNat : Int))
      rw [trow_set L HC.out.2.2 hlt x hx] at hs1
      have hs2 := h2.setCell (p := ⟨gx + 1, k, none⟩) (by show w.heap.size ≤ gx + 1; omega) (.int .u8 (x.toNat : Int))
      have hs3 := h3.far (p := ⟨gx + 1, k, none⟩) (by show gx ≠ gx + 1; omega) (.int .u8 (x.toNat : Int))
      have H := Lib.hid (And.intro hs1 (And.intro hs3 hs2))
      have hkI : (k : Int) < 32 := by omega
      clear hs1 hs2 hs3 h1 h2 h3 hx
      go_wp2
      go_roundw
      case rel => exact ⟨k + 1, by omega, by go_num, H.out.1, H.out.2.1, H.out.2.2⟩
      case measure => simp [intOf]; omega
    · have hk2 : k = 32 := by omega
      rw [hk2, trow_all L HC.out.2.2] at h1
      have hge : 32 ≤ k := by omega
      have hcv := conv_bytes (P := Tryz.prog) wr 87 9 5 Tryz.underlying87 Tryz.underlying5 Tryz.underlying9 (gx + 1) 0 32 32 L HC.out.2.2 (fun i hi => by
        rw [Nat.zero_add, h1.cell])
      have H := Lib.hid h2
      clear hk2 hlt hk h1 h2 h3
      go_wp2
      go_ret
      exact ⟨rfl, H.out⟩
end Go.Proofs.YtiaaeniopjpfpaaGreatDoor

namespace Go.Proofs.YtiaaeniopjpfpaaGreatDoor
open Go.RowKit
set_option linter.unusedVariables false

/-- The document's register: the same steps, byte after byte. -/
theorem ref_step (m : Nat) (h : m < 4294967296) : bits BinOp.xor IntKind.u32 ((m : Int) / 2) 3988292384 = ((m / 2 ^^^ 3988292384 : Nat) : Int) := by
  have h := xor_poly (m / 2) (by omega)
  simpa using h
theorem ref_in (c : Nat) (b : UInt8) (h : c < 4294967296) : bits BinOp.xor IntKind.u32 (c : Int) (b.toNat : Int) = ((c ^^^ b.toNat : Nat) : Int) :=
  u32_xor_nat c b.toNat h (by have := UInt8.toNat_lt b; omega)

set_option maxRecDepth 3000 in
set_option maxHeartbeats 800000 in
theorem refCRC_any (s : ByteArray) (w : World) (hs : s.size ≤ 9223372036854775807) :
    Calls Tryz.prog 98 #[.string s] w fun e w' => e = .returned (.int .u32 (crcL s.data.toList : Nat)) ∧ w = w' := by
  go_enter Tryz.func98, Tryz.ntmps98
  go_wp2
  go_loop [3, 4] (fun t i => ∃ j : Nat, j ≤ s.size ∧ i = .int .i64 j ∧ t = .int .u32 (crcR 4294967295 (s.data.toList.take j) : Nat)) (fun _ i => s.size - (intOf i).toNat)
  case atStart => exact ⟨0, Nat.zero_le _, rfl, rfl⟩
  case round =>
    obtain ⟨j, hj, rfl, rfl⟩ := hrel
    by_cases hlt2 : j < s.size
    · obtain ⟨c, Hc⟩ : ∃ c, Hid (c = crcR 4294967295 (s.data.toList.take j)) := ⟨_, rfl⟩
      have hcl : c < 4294967296 := by rw [Hc.out]; exact crcR_lt _ (by omega)
      rw [← Hc.out]
      have hstep : crcR 4294967295 (s.data.toList.take (j + 1)) = stpN 8 (c ^^^ (s[j]).toNat) := by
        rw [take_snoc s j hlt2, crcR_snoc, ← Hc.out]; rfl
      have HP := Lib.hid hstep
      have hx1 := ref_in c s[j] hcl
      have hb := UInt8.toNat_lt s[j]
      have hxl : c ^^^ (s[j]).toNat < 4294967296 := xor_lt hcl (by have := UInt8.toNat_lt s[j]; omega)
      clear hstep
      go_wp2
      go_loop [3, 5] (fun t i => ∃ k : Nat, k ≤ 8 ∧ i = .int .i64 k ∧ t = .int .u32 (stpN k (c ^^^ (s[j]).toNat) : Nat)) (fun _ i => 8 - (intOf i).toNat)
      case atStart => exact ⟨0, Nat.zero_le _, rfl, rfl⟩
      case round =>
        obtain ⟨k, hk, rfl, rfl⟩ := hrel
        obtain ⟨m, HM⟩ : ∃ m, Hid (m = stpN k (c ^^^ (s[j]).toNat)) := ⟨stpN k (c ^^^ (s[j]).toNat), Lib.hid rfl⟩
        have hm : m < 4294967296 := by rw [HM.out]; exact stpN_lt hxl k
        by_cases hlt : k < 8
        · rw [← HM.out]
          have hss : stpN (k + 1) (c ^^^ (s[j]).toNat) = stp m := by rw [HM.out]; rfl
          have HS := Lib.hid hss
          clear hss
          by_cases hodd : m % 2 = 1
          · have hx := ref_step m hm
            have hso := Lib.hid (stp_odd hodd)
            have ht : ((m : Int) % 2 == 1) = true := by simp; omega
            clear hodd
            go_wp2
            go_round
            case rel => exact ⟨k + 1, by omega, by go_num, by rw [HS.out, hso.out]⟩
            case measure => simp [intOf]; omega
          · have hse := Lib.hid (stp_even hodd)
            have ht : ((m : Int) % 2 == 1) = false := by simp; omega
            clear hodd
            go_wp2
            go_round
            case rel => exact ⟨k + 1, by omega, by go_num, by rw [HS.out, hse.out]; congr 1⟩
            case measure => simp [intOf]; omega
        · have hk8 : k = 8 := by omega
          have H8 := Lib.hid hk8
          clear hk8
          go_wp2
          go_round
          case rel => exact ⟨j + 1, by omega, by go_num, by rw [HP.out, H8.out]⟩
          case measure => simp [intOf]; omega
    · have hall : s.data.toList.take j = s.data.toList := List.take_of_length_le (by simp; omega)
      have hrl : crcR 4294967295 s.data.toList < 4294967296 := crcR_lt _ (by omega)
      rw [hall]
      clear hall
      go_wp2
      go_ret
      exact ⟨ret_int (by unfold crcL; omega), rfl⟩
end Go.Proofs.YtiaaeniopjpfpaaGreatDoor

namespace Go.Proofs.YtiaaeniopjpfpaaGreatDoor
open Go.RowKit
set_option linter.unusedVariables false
set_option linter.unusedSimpArgs false

set_option maxRecDepth 20000 in
set_option maxHeartbeats 1000000 in
theorem refSealed_any (a b : List UInt8) (ha : a.length ≤ 1000) (hb : b.length ≤ 90000) (w : World) :
    Calls Tryz.prog 61 #[.string (tx a), .string (tx b)] w fun e w' => e = .returned (.string (tx (sealL a b))) ∧ Below w.heap.size w w' := by
  obtain ⟨L, hL⟩ : ∃ L, shaL (a ++ b) = L := ⟨_, rfl⟩
  have hLl : L.length = 32 := by rw [← hL, shaL_length]
  obtain ⟨M, hM⟩ : ∃ M, L.take 16 = M := ⟨_, rfl⟩
  have hMl : M.length = 16 := by rw [← hM, List.length_take, hLl]; rfl
  obtain ⟨c, hc⟩ : ∃ c, seal1 a b = c := ⟨_, rfl⟩
  have hcM : a ++ M = c := by rw [← hc, ← hM, ← hL]; rfl
  have hcl : c.length = a.length + 16 := by rw [← hc, seal1_length]
  obtain ⟨N, hN⟩ : ∃ N, crcL (c ++ b) = N := ⟨_, rfl⟩
  have hNb : N < 4294967296 := by rw [← hN]; unfold crcL; omega
  obtain ⟨K, hK⟩ : ∃ K, putL N 4 = K := ⟨_, rfl⟩
  have hKl : K.length = 4 := by rw [← hK, putL_length]
  have hfin : sealL a b = c ++ K := by unfold sealL; rw [hc, hN, hK]
  rw [hfin]
  have HT : Hid (∀ W : World, Calls Tryz.prog 97 #[.string (tx (a ++ b))] W fun e w' => e = .returned (.string (tx L)) ∧ Below W.heap.size W w') := Lib.hid fun W => by
    have h := refText_any (tx (a ++ b)) (by rw [tx_size, List.length_append]; omega) W
    rw [tx_list, hL] at h
    exact h
  have HC : Hid (∀ W : World, Calls Tryz.prog 98 #[.string (tx (c ++ b))] W fun e w' => e = .returned (.int .u32 (N : Nat)) ∧ W = w') := Lib.hid fun W => by
    have h := refCRC_any (tx (c ++ b)) W (by rw [tx_size, List.length_append]; omega)
    rw [tx_list, hN] at h
    exact h
  have HP : Hid (∀ W : World, Calls Tryz.prog 62 #[.int .u64 (N : Nat), .int .i64 4] W fun e w' => e = .returned (.string (tx K)) ∧ Below W.heap.size W w') := Lib.hid fun W => by
    have h := refPut_any N 4 W (by omega) (by omega) (by omega)
    rw [show szOf 4 = 4 from rfl, hK] at h
    exact h
  have hsl : (tx L).extract 0 16 = tx M := by
    apply ByteArray.ext
    rw [← hM]
    simp [tx]
  have hsz : (tx L).size = 32 := by rw [tx_size, hLl]
  have h0 : ∀ W, (Op.stringOp .add (tx a) (tx b)).run Tryz.prog W = .ok (.string (tx (a ++ b))) W := fun W => add_tx a b (by omega) W
  have h1 : ∀ W, (Op.stringOp .add (tx a) (tx M)).run Tryz.prog W = .ok (.string (tx c)) W := fun W => by rw [← hcM]; exact add_tx a M (by omega) W
  have h3 : ∀ W, (Op.stringOp .add (tx c) (tx b)).run Tryz.prog W = .ok (.string (tx (c ++ b))) W := fun W => add_tx c b (by omega) W
  have h2 : ∀ W, (Op.stringOp .add (tx c) (tx K)).run Tryz.prog W = .ok (.string (tx (c ++ K))) W := fun W => add_tx c K (by omega) W
  have hNI : (N : Int) < 4294967296 := by omega
  clear hL hLl hM hMl hc hcM hcl hN hNb hK hKl hfin ha hb
  go_enter Tryz.func61, Tryz.ntmps61
  go_wp2_with fail
  refine (HT.out _).mono ?_
  rintro e w1 ⟨rfl, hb1⟩
  have HB1 := Lib.hid hb1
  clear hb1
  go_wp2_with fail
  refine (HC.out _).mono ?_
  rintro e w2 ⟨rfl, rfl⟩
  go_wp2_with fail
  refine (HP.out _).mono ?_
  rintro e w3 ⟨rfl, hb3⟩
  have HB3 := Lib.hid (HB1.out.trans (hb3.mono HB1.out.size))
  clear hb3
  go_wp2_with fail
  go_ret
  exact ⟨rfl, HB3.out⟩

/-- A number as so many bytes. -/
theorem rPut_tx (n k : Nat) (hk : k ≤ 8) (hn : n < 18446744073709551616) (W : World) : Calls Tryz.prog 62 #[.int .u64 (n : Nat), .int .i64 (k : Nat)] W fun e w' => e = .returned (.string (tx (putL n k))) ∧ Below W.heap.size W w' := by
  have h := refPut_any n k W hn (by omega) (by omega)
  rw [show szOf (k : Int) = k by unfold szOf; omega] at h
  exact h

set_option maxRecDepth 20000 in
set_option maxHeartbeats 1000000 in
theorem refFrame_any (n : Nat) (b : List UInt8) (hn : n ≤ 1000000000000) (hb : b.length ≤ 90000) (w : World) :
    Calls Tryz.prog 25 #[.int .i64 n, .string (tx b)] w fun e w' => e = .returned (.string (tx (frameL n b))) ∧ Below w.heap.size w w' := by
  obtain ⟨k, hk⟩ : ∃ k, b.length = k := ⟨_, rfl⟩
  obtain ⟨A, hA⟩ : ∃ A, putL n 4 = A := ⟨_, rfl⟩
  obtain ⟨B, hB⟩ : ∃ B, putL k 4 = B := ⟨_, rfl⟩
  have hAl : A.length = 4 := by rw [← hA, putL_length]
  have hBl : B.length = 4 := by rw [← hB, putL_length]
  have H1 := fun W => rPut_tx n 4 (by omega) (by omega) W
  have H2 := fun W => rPut_tx k 4 (by omega) (by omega) W
  rw [hA] at H1
  rw [hB] at H2
  have HPP := Lib.hid (And.intro H1 H2)
  obtain ⟨R, hR⟩ : ∃ R, sealL (A ++ B) b = R := ⟨_, rfl⟩
  have hRl : R.length = 28 := by rw [← hR, sealL_length, List.length_append, hAl, hBl]
  have hH : frameL n b = R ++ b := by unfold frameL headL; rw [hk, hA, hB, hR]
  rw [hH]
  have HS : Hid (∀ W, Calls Tryz.prog 61 #[.string (tx (A ++ B)), .string (tx b)] W fun e w' => e = .returned (.string (tx R)) ∧ Below W.heap.size W w') := Lib.hid fun W => by
    rw [← hR]
    exact refSealed_any (A ++ B) b (by rw [List.length_append]; omega) hb W
  have h1 : ∀ W, (Op.stringOp .add (tx A) (tx B)).run Tryz.prog W = .ok (.string (tx (A ++ B))) W := fun W => add_tx A B (by omega) W
  have h2 : ∀ W, (Op.stringOp .add (tx R) (tx b)).run Tryz.prog W = .ok (.string (tx (R ++ b))) W := fun W => add_tx R b (by omega) W
  have hsz : (tx b).size = k := by rw [tx_size, hk]
  have hnI : (n : Int) ≤ 1000000000000 := by omega
  have hkI : (k : Int) ≤ 1000000000000 := by omega
  obtain ⟨S, hS⟩ : ∃ S, R ++ b = S := ⟨_, rfl⟩
  rw [hS] at h2 ⊢
  clear H1 H2 hk hA hB hAl hBl hH hR hRl hS hb hn
  obtain ⟨T, hT⟩ : ∃ T, tx b = T := ⟨_, rfl⟩
  rw [hT] at hsz HS h2 ⊢
  clear hT
  go_enter Tryz.func25, Tryz.ntmps25
  go_wp2_with fail
  refine (HPP.out.1 _).mono ?_
  rintro e w1 ⟨rfl, hb1⟩
  have HB1 := Lib.hid hb1
  clear hb1
  go_wp2_with fail
  refine (HPP.out.2 _).mono ?_
  rintro e w2 ⟨rfl, hb2⟩
  have HB2 := Lib.hid (HB1.out.trans (hb2.mono HB1.out.size))
  clear hb2
  go_wp2_with fail
  refine (HS.out _).mono ?_
  rintro e w3 ⟨rfl, hb3⟩
  have HB3 := Lib.hid (HB2.out.trans (hb3.mono HB2.out.size))
  clear hb3
  go_wp2_with fail
  go_ret
  exact ⟨rfl, HB3.out⟩

set_option maxRecDepth 20000 in
set_option maxHeartbeats 1000000 in
theorem refMark_any (n h : Nat) (hn : n < 18446744073709551616) (hh : h < 18446744073709551616) (w : World) :
    Calls Tryz.prog 49 #[.int .u64 n, .int .u64 h] w fun e w' => e = .returned (.string (tx (markL n h))) ∧ Below w.heap.size w w' := by
  obtain ⟨A, hA⟩ : ∃ A, putL n 8 = A := ⟨_, rfl⟩
  obtain ⟨B, hB⟩ : ∃ B, putL h 8 = B := ⟨_, rfl⟩
  have hAl : A.length = 8 := by rw [← hA, putL_length]
  have hBl : B.length = 8 := by rw [← hB, putL_length]
  have H1 := fun W => rPut_tx n 8 (by omega) hn W
  have H2 := fun W => rPut_tx h 8 (by omega) hh W
  rw [hA] at H1
  rw [hB] at H2
  have HPP := Lib.hid (And.intro H1 H2)
  obtain ⟨R, hR⟩ : ∃ R, sealL ([67, 75, 77, 75] ++ A ++ B) [] = R := ⟨_, rfl⟩
  have hH : markL n h = R := by unfold markL; rw [hA, hB, hR]
  rw [hH]
  have HS : Hid (∀ W, Calls Tryz.prog 61 #[.string (tx ([67, 75, 77, 75] ++ A ++ B)), .string ⟨#[]⟩] W fun e w' => e = .returned (.string (tx R)) ∧ Below W.heap.size W w') := Lib.hid fun W => by
    rw [← hR]
    exact refSealed_any ([67, 75, 77, 75] ++ A ++ B) [] (by rw [List.length_append, List.length_append]; simp; omega) (by simp) W
  have h1 : ∀ W, (Op.stringOp .add ⟨#[67, 75, 77, 75]⟩ (tx A)).run Tryz.prog W = .ok (.string (tx ([67, 75, 77, 75] ++ A))) W := fun W => add_tx [67, 75, 77, 75] A (by simp; omega) W
  have h2 : ∀ W, (Op.stringOp .add (tx ([67, 75, 77, 75] ++ A)) (tx B)).run Tryz.prog W = .ok (.string (tx ([67, 75, 77, 75] ++ A ++ B))) W := fun W => add_tx ([67, 75, 77, 75] ++ A) B (by rw [List.length_append]; simp; omega) W
  obtain ⟨X, hX⟩ : ∃ X, tx ([67, 75, 77, 75] ++ A) = X := ⟨_, rfl⟩
  obtain ⟨Y, hY⟩ : ∃ Y, tx ([67, 75, 77, 75] ++ A ++ B) = Y := ⟨_, rfl⟩
  rw [hX] at h1 h2
  rw [hY] at h2 HS
  have hnI : (n : Int) < 18446744073709551616 := by omega
  have hhI : (h : Int) < 18446744073709551616 := by omega
  clear H1 H2 hA hB hAl hBl hH hR hX hY hn hh
  go_enter Tryz.func49, Tryz.ntmps49
  go_wp2_with fail
  refine (HPP.out.1 _).mono ?_
  rintro e w1 ⟨rfl, hb1⟩
  have HB1 := Lib.hid hb1
  clear hb1
  go_wp2_with fail
  refine (HPP.out.2 _).mono ?_
  rintro e w2 ⟨rfl, hb2⟩
  have HB2 := Lib.hid (HB1.out.trans (hb2.mono HB1.out.size))
  clear hb2
  go_wp2_with fail
  refine (HS.out _).mono ?_
  rintro e w3 ⟨rfl, hb3⟩
  have HB3 := Lib.hid (HB2.out.trans (hb3.mono HB2.out.size))
  clear hb3
  go_wp2_with fail
  go_ret
  exact ⟨rfl, HB3.out⟩
end Go.Proofs.YtiaaeniopjpfpaaGreatDoor

namespace Go.Proofs.YtiaaeniopjpfpaaGreatDoor
open Go Go.RowKit Go.Maps
set_option linter.unusedVariables false
set_option linter.unusedSimpArgs false

section
variable {L : Nat → Prop} {w : World} {lp p gl : Nat} {hv : Value} {D : DS}
theorem RefIs.less {L L' : Nat → Prop} {w : World} {p : Nat} {D : DS} (h : RefIs L w p D) (hl : ∀ g, L' g → L g) : RefIs L' w p D := h.more (fun g hg => .inl (hl g hg))
/-- The loop of the pieces. -/
structure RwR (L : Nat → Prop) (w : World) (p : Nat) (T : DS × Int) (s0 : Nat) (wr : World) (n a : Nat) (l : List UInt8) (D : DS) : Prop where
  disk : RefIs L wr p D
  keep : Keeps L w wr
  tgt : putG n D a l = T
  len : l.length ≤ n * 128
  steps : D.steps + n ≤ s0
  hangs : D.hangs.length + n ≤ s0
  at4 : a + n ≤ 200000
theorem take_pad (l : List UInt8) (j : Nat) (h : 128 ≤ j ∨ l.length ≤ j) (h2 : j ≤ 128) (h3 : j ≤ l.length) : l.take j ++ z128.drop j = pad128 l := by
  unfold pad128 z128
  rw [List.drop_replicate]
  rcases h with h | h
  · obtain rfl : j = 128 := by omega
    rw [show 128 - 128 = 0 by omega, show 128 - l.length = 0 by omega]
  · obtain rfl : j = l.length := by omega
    rw [List.take_of_length_le (Nat.le_refl _), List.take_of_length_le h2]

set_option maxRecDepth 20000 in
set_option maxHeartbeats 2000000 in
theorem refWrite_any (hL : ∀ k, L k → k < w.heap.size) (hlp : L lp) {X : List Value} (hr : Row w lp 37 (.pointer (some ⟨p, 0, none⟩) :: X)) (hd : RefIs L w p D) (half place n : Nat) (hh : half ≤ 1) (hpl : place ≤ 90000)
    (l0 : List UInt8) (hn : l0.length ≤ n * 128) (hn2 : n ≤ 2100) (hs : D.steps ≤ 1000000) (hhg : D.hangs.length ≤ 1000000) :
    Calls Tryz.prog 48 #[.pointer (some ⟨lp, 0, none⟩), .int .u64 (half : Nat), .int .i64 (place : Nat), .string (tx l0)] w fun e w' =>
      e = .returned (.int .i64 (putG n D (2 + half * secs D + place) l0).2) ∧ RefIs L w' p (putG n D (2 + half * secs D + place) l0).1 ∧ Keeps L w w' := by
  obtain ⟨gl0, hv0, hd0⟩ := id hd
  have h16 := hd0.good.least
  have h4096 := hd0.good.most
  obtain ⟨a0, ha0⟩ : ∃ a0, 2 + half * secs D + place = a0 := ⟨_, rfl⟩
  rw [ha0]
  have c0 := hr.cell 0
  simp only [List.getElem?_cons_zero] at c0
  have d0 := hd0.row.cell 0
  simp only [List.getElem?_cons_zero] at d0
  obtain ⟨m, hm⟩ : ∃ m, D.lasts.length = m := ⟨_, rfl⟩
  have hsec : secs D = (m - 2) / 2 := by unfold secs; rw [hm]
  rw [hm] at d0 h16 h4096
  rw [hsec] at ha0
  have hmI : (16 : Int) ≤ (m : Int) := by omega
  have hm4 : (m : Int) ≤ 4096 := by omega
  have hplI : (place : Int) ≤ 90000 := by omega
  have hA1 : half = 1 → (2 : Int) + ((m : Int) - 2) / 2 + (place : Int) = (a0 : Int) := fun h => by subst h; omega
  have hA0 : half = 0 → (2 : Int) + (place : Int) = (a0 : Int) := fun h => by subst h; omega
  have ha0I : (a0 : Int) ≤ 100000 := by
    rcases (by omega : half = 0 ∨ half = 1) with rfl | rfl <;> omega
  have hz := (zero_of_info zB_info).1
  obtain ⟨TT, hTT⟩ : ∃ TT, putG n D a0 l0 = TT := ⟨_, rfl⟩
  rw [hTT]
  have HR0 : Hid (RwR L w p TT 1010000 w n a0 l0 D) := Lib.hid ⟨hd, Keeps.refl L w, hTT, hn, by omega, by omega, by omega⟩
  have HH := Lib.hid (And.intro hL (And.intro hlp hr))
  have hl0s : (tx l0).size ≤ 1000000 := by rw [tx_size]; omega
  clear hL hlp hr hd hd0 hn hn2 hs hhg hTT hsec hm h16 h4096
  have hcase : (half = 0 ∧ (2 : Int) + (place : Int) = (a0 : Int)) ∨ (half = 1 ∧ (2 : Int) + ((m : Int) - 2) / 2 + (place : Int) = (a0 : Int)) := by
    rcases (by omega : half = 0 ∨ half = 1) with h | h
    · exact .inl ⟨h, hA0 h⟩
    · exact .inr ⟨h, hA1 h⟩
  clear hA0 hA1 ha0 hpl
  rcases hcase with ⟨rfl, ha⟩ | ⟨rfl, ha⟩
  · rw [show ((0 : Nat) : Int) = 0 from rfl]
    go_enter Tryz.func48, Tryz.ntmps48
    go_wp2_with fail
    clear ha
    go_loopw [9, 3] (fun u s wr => ∃ (m1 a : Nat) (l : List UInt8) (D1 : DS), u = .int .i64 a ∧ s = .string (tx l) ∧ Hid (RwR L w p TT 1010000 wr m1 a l D1)) (fun _ s _ => strLen s)
    case atStart => exact ⟨n, a0, l0, D, rfl, rfl, HR0⟩
    case round =>
      obtain ⟨m1, a, l, D1, rfl, rfl, HJ⟩ := hrel
      rename World => W1
      have hszw : ∀ k, L k → k < W1.heap.size := fun k hk => by have := HH.out.1 k hk; have := HJ.out.keep.size; omega
      have rlp : Row W1 lp 37 (.pointer (some ⟨p, 0, none⟩) :: X) := (HJ.out.keep.block lp HH.out.2.2.lt HH.out.2.1).trans HH.out.2.2
      have hlz : (tx l).size = l.length := tx_size l
      obtain ⟨ln, hln⟩ : ∃ ln, l.length = ln := ⟨_, rfl⟩
      rw [hln] at hlz
      by_cases hl : 0 < ln
      · obtain ⟨k', rfl⟩ : ∃ k', m1 = k' + 1 := ⟨m1 - 1, by have := HJ.out.len; omega⟩
        have hlI : (0 : Int) < (ln : Int) := by omega
        have hgt : decide (0 < ln) = true := by simp; omega
        have HP := Lib.hid (And.intro hszw (And.intro rlp (And.intro hln hl)))
        clear hszw rlp hln hl
        go_wp2_with fail
        have hb0 : Below W1.heap.size W1 (W1.alloc (.cells zB.toArray 90)) := (Below.refl W1.heap.size W1).alloc (Nat.le_refl _) _
        have hr0 := Row.new W1 90 zB
        obtain ⟨b, hb⟩ : ∃ b, W1.heap.size = b := ⟨_, rfl⟩
        have e0 : zB = (l.take 0 ++ z128.drop 0).map bv := by rw [List.take_zero, List.drop_zero, List.nil_append, zB_eq]
        rw [hb] at hb0 hr0 ⊢
        have H0 := Lib.hid (And.intro hb0 (And.intro hr0 hb))
        clear hb0 hr0 hb
        generalize W1.alloc (.cells zB.toArray 90) = w1 at H0 ⊢
        go_loopw [11] (fun i wq => ∃ j : Nat, j ≤ 128 ∧ j ≤ ln ∧ i = .int .i64 j ∧ Row wq b 90 ((l.take j ++ z128.drop j).map bv) ∧ Below b W1 wq) (fun i _ => 128 - (intOf i).toNat)
        case atStart => exact ⟨0, Nat.zero_le _, Nat.zero_le _, rfl, by rw [← e0]; exact H0.out.2.1, H0.out.1⟩
        case round =>
          obtain ⟨j, hj1, hj2, rfl, hrq, hbq⟩ := hrel
          by_cases hlt : j < 128 ∧ j < ln
          · have hj128 : j < 128 := hlt.1
            have hjl : j < ln := hlt.2
            have hjs : j < (tx l).size := by rw [hlz]; exact hjl
            have hx : l[j]? = some ((tx l)[j]'hjs) := by
              have h1 : (tx l).data[j]? = some ((tx l).data[j]'hjs) := Array.getElem?_eq_getElem hjs
              have h2 : (tx l).data[j]? = l[j]? := by show l.toArray[j]? = l[j]?; exact List.getElem?_toArray
              rw [← h2, h1]
              rfl
            have hcell : wr.cell? ⟨b, j, none⟩ = some (.int .u8 0) := by
              rw [hrq.cell, List.getElem?_map, List.getElem?_append_right (by rw [List.length_take]; omega), List.getElem?_drop, List.length_take, HP.out.2.2.1, show j + (j - min j ln) = j by omega]
              unfold z128
              rw [List.getElem?_replicate, if_pos hj128]
              rfl
            have hfr := hrq.frozen j
            have r3 := hrq.set j (bv ((tx l)[j]'hjs))
            have e3 : ((l.take j ++ z128.drop j).map bv).set j (bv ((tx l)[j]'hjs)) = (l.take (j + 1) ++ z128.drop (j + 1)).map bv := by
              rw [← List.map_set]
              congr 1
              have h1 : (l.take j).length = j := by rw [List.length_take, HP.out.2.2.1]; omega
              have h2 : z128.drop j = 0 :: z128.drop (j + 1) := by unfold z128; rw [List.drop_replicate, List.drop_replicate, show 128 - j = (128 - (j + 1)) + 1 by omega, List.replicate_succ]
              rw [List.set_append_right _ _ (by omega), h1, Nat.sub_self, h2, List.set_cons_zero, List.take_add_one, hx, List.append_assoc]
              rfl
            rw [e3] at r3
            have b3 := hbq.setCell (p := ⟨b, j, none⟩) (Nat.le_refl _) (bv ((tx l)[j]'hjs))
            have H3 := Lib.hid (And.intro r3 b3)
            clear hlt hrq hbq hx r3 e3 b3
            go_wp2_with fail
            go_roundw
            case rel => exact ⟨j + 1, by omega, by omega, by go_num, H3.out.1, H3.out.2⟩
            case measure => simp [intOf]; omega
          · have hj3 : j = 128 ∨ (j < 128 ∧ j = ln) := by omega
            have hpad : l.take j ++ z128.drop j = pad128 l := take_pad l j (by have := HP.out.2.2.1; omega) hj1 (by have := HP.out.2.2.1; omega)
            rw [hpad] at hrq
            have HQ := Lib.hid (And.intro hrq hbq)
            clear hlt hrq hbq hpad
            rcases hj3 with rfl | ⟨hj128, rfl⟩
            · go_wp2_with fail
              have hbw : Below b W1 wr.drew := below_drewK HQ.out.2 1
              have hszb : b < wr.heap.size := HQ.out.1.lt
              obtain ⟨C1, hC1⟩ : ∃ C1, (pad128 l).map bv = C1 := ⟨_, rfl⟩
              have hsz1 := blk_sizeK _ (pad128_length l)
              have hV1 : blkV (pad128 l) = .agg C1.toArray := by unfold blkV; rw [hC1]
              rw [hC1] at hsz1
              have HC := Lib.hid (And.intro hsz1 trivial)
              have HS0 : Hid (Row wr.drew lp 37 (.pointer (some ⟨p, 0, none⟩) :: X) ∧ Row wr.drew b 90 C1) := Lib.hid ⟨HP.out.2.1.below (by rw [H0.out.2.2]; exact hbw) HP.out.2.1.lt, by rw [← hC1]; exact HQ.out.1.drew⟩
              have hdD : RefIs (fun q => L q ∨ q = b) wr.drew p D1 := (HJ.out.disk.more (fun q hq => by
                rcases hq with h | h
                · exact .inl h
                · exact .inr (by have := H0.out.2.2; omega))).below (by rw [H0.out.2.2]; exact hbw)
              have HWR : Hid (Calls Tryz.prog 50 #[.pointer (some ⟨p, 0, none⟩), .int .i64 (a : Nat), .agg C1.toArray] wr.drew fun e w' => e = .returned (.int .i64 (D1.writeErr (a : Nat))) ∧ RefIs (fun q => L q ∨ q = b) w' p (D1.written (a : Nat) (pad128 l)) ∧ Keeps (fun q => L q ∨ q = b) wr.drew w') := Lib.hid (by
                obtain ⟨gl1, hv1, hd1⟩ := hdD
                have h := RWrite_any (fun q hq => ?_) hd1 (a : Nat) (pad128 l) (pad128_length l) (by have := HJ.out.steps; omega) (by have := HJ.out.hangs; omega)
                · rw [hV1] at h
                  exact h
                · show q < wr.heap.size
                  rcases hq with h | h
                  · have := HP.out.1 q h; have := H0.out.2.2; omega
                  · omega)
              obtain ⟨ER, hER⟩ : ∃ ER, D1.writeErr (a : Nat) = ER := ⟨_, rfl⟩
              rw [hER] at HWR
              have hgo := HJ.out.tgt
              unfold putG at hgo
              rw [if_neg (by intro h; have h1 := HP.out.2.2.1; have h2 := HP.out.2.2.2; rw [h] at h1; simp at h1; omega), hER] at hgo
              have haI : (a : Int) ≤ 200000 := by have := HJ.out.at4; omega
              have HBW := Lib.hid (And.intro hbw hszb)
              clear hbw hszb hC1 hsz1 hV1 hdD hER
              refine wp_region_noPanic ?_
              refine wp_region_held_drew (S := fun W => Row W lp 37 (.pointer (some ⟨p, 0, none⟩) :: X) ∧ Row W b 90 C1) (by kernel_rfl) HS0.out (fun hHeld => ?_)
              refine wpAnyH_take (i := 0) (oi := { dst := some 62, op := Op.move (Operand.tmp 0), type := 34, pos := "ref.go:50", after := #[], guard := none }) (v := ?vvu_0) rfl (by kernel_rfl) (by kernel_rfl) (by kernel_rfl) (fun _ _ _ h => h) (Or.inl ⟨by rfl, ?yyu_0⟩) hHeld ?_
              case vvu_0 => exact .pointer (some ⟨lp, 0, none⟩)
              case yyu_0 =>
                intro W hS
                go_simp
              try simp only [Act.put, List.setIfInBounds_toArray, List.set_cons_zero, List.set_cons_succ]
              refine wpAnyH_take (i := 1) (oi := { dst := some 63, op := Op.nilCheck (Operand.tmp 62), type := 0, pos := "ref.go:50", after := #[{ on := 0, ground := Ground.data }], guard := none }) (v := ?vvu_1) rfl (by kernel_rfl) (by kernel_rfl) (by kernel_rfl) (fun _ _ _ h => h) (Or.inl ⟨by rfl, ?yyu_1⟩) hHeld ?_
              case vvu_1 => exact .pointer (some ⟨lp, 0, none⟩)
              case yyu_1 =>
                intro W hS
                go_simp
              try simp only [Act.put, List.setIfInBounds_toArray, List.set_cons_zero, List.set_cons_succ]
              refine wpAnyH_take (i := 2) (oi := { dst := some 64, op := Op.fieldAddr 37 (Operand.tmp 63) 0, type := 0, pos := "ref.go:50", after := #[{ on := 1, ground := Ground.data }], guard := none }) (v := ?vvu_2) rfl (by kernel_rfl) (by kernel_rfl) (by kernel_rfl) (fun _ _ _ h => h) (Or.inl ⟨by rfl, ?yyu_2⟩) hHeld ?_
              case vvu_2 => exact .pointer (some ⟨lp, 0, none⟩)
              case yyu_2 =>
                intro W hS
                go_simp
              try simp only [Act.put, List.setIfInBounds_toArray, List.set_cons_zero, List.set_cons_succ]
              refine wpAnyH_take (i := 3) (oi := { dst := some 65, op := Op.load 28 (Operand.tmp 64), type := 28, pos := "ref.go:50", after := #[{ on := 2, ground := Ground.data }], guard := none }) (v := ?vvu_3) rfl (by kernel_rfl) (by kernel_rfl) (by kernel_rfl) (fun _ _ _ h => h) (Or.inl ⟨by rfl, ?yyu_3⟩) hHeld ?_
              case vvu_3 => exact .pointer (some ⟨p, 0, none⟩)
              case yyu_3 =>
                intro W hS
                have q0 := Row.cell hS.1 0
                simp only [List.getElem?_cons_zero, List.getElem?_cons_succ] at q0
                go_simp
              try simp only [Act.put, List.setIfInBounds_toArray, List.set_cons_zero, List.set_cons_succ]
              refine wpAnyH_take (i := 4) (oi := { dst := some 66, op := Op.move (Operand.tmp 9), type := 3, pos := "ref.go:50", after := #[], guard := none }) (v := ?vvu_4) rfl (by kernel_rfl) (by kernel_rfl) (by kernel_rfl) (fun _ _ _ h => h) (Or.inl ⟨by rfl, ?yyu_4⟩) hHeld ?_
              case vvu_4 => exact .int .i64 a
              case yyu_4 =>
                intro W hS
                go_simp
              try simp only [Act.put, List.setIfInBounds_toArray, List.set_cons_zero, List.set_cons_succ]
              refine' wpAnyH_take (i := 5) (oi := { dst := some 67, op := Op.load 90 (Operand.tmp 10), type := 90, pos := "ref.go:50", after := #[], guard := none }) (v := .agg C1.toArray) rfl (by kernel_rfl) (by kernel_rfl) (by kernel_rfl) (fun _ _ _ h => h) (yieldsIf_load_mid (by rfl) _ _ rfl b 0 rfl C1 _ (fun W h => (fun j v hj => by rw [Nat.zero_add, h.2.cell]; exact hj)) Tryz.underlying90 rfl HC.out.1) hHeld ?_
              try simp only [Act.put, List.setIfInBounds_toArray, List.set_cons_zero, List.set_cons_succ]
              refine wpAnyH_ready (rs := [6]) (by kernel_rfl) (by simp) (AllReadyH.cons (o := { dst := some 68, op := Op.call { callee := Callee.value (Operand.func 50), args := #[Operand.tmp 65, Operand.tmp 66, Operand.tmp 67], argTypes := #[28, 3, 90] }, type := 3, pos := "ref.go:50", after := #[{ on := 3, ground := Ground.data }, { on := 4, ground := Ground.data }, { on := 5, ground := Ground.data }], guard := none }) rfl (fun K hK => ?_) AllReadyH.nil)
              go_simp
              go_at_call 50
              refine HWR.out.mono ?_
              rintro e w4 ⟨rfl, hd4, hk4⟩
              have s4 : Row w4 lp 37 (.pointer (some ⟨p, 0, none⟩) :: X) ∧ Row w4 b 90 C1 := ⟨(hk4.block lp HS0.out.1.lt (.inl HH.out.2.1)).trans HS0.out.1, (hk4.block b HS0.out.2.lt (.inr rfl)).trans HS0.out.2⟩
              have H4 := Lib.hid (And.intro hd4 (And.intro hk4 s4))
              refine hK.out _ _ s4 (fun hHeld => ?_)
              clear hK K hd4 hk4 s4
              try simp only [Act.put, List.setIfInBounds_toArray, List.set_cons_zero, List.set_cons_succ]
              refine wpAnyH_ready (rs := [7]) (by kernel_rfl) (by simp) (AllReadyH.cons (o := { dst := some 12, op := Op.assign (Operand.tmp 68), type := 3, pos := "ref.go:50", after := #[{ on := 6, ground := Ground.data }, { on := 6, ground := Ground.chain }, { on := 0, ground := Ground.phase }, { on := 1, ground := Ground.phase }, { on := 2, ground := Ground.phase }, { on := 3, ground := Ground.phase }, { on := 4, ground := Ground.phase }, { on := 5, ground := Ground.phase }, { on := 6, ground := Ground.phase }], guard := none }) rfl (fun K hK => ?_) AllReadyH.nil)
              go_simp
              refine hK.out _ _ H4.out.2.2 (fun hHeld => ?_)
              clear hK K
              try simp only [Act.put, List.setIfInBounds_toArray, List.set_cons_zero, List.set_cons_succ]
              refine wpAnyH_done (by kernel_rfl) ?_ _
              refine NoPanic.normal ?_
              by_cases her : ER = 0
              · subst her
                rw [if_neg (by simp)] at hgo
                have HFIN : Hid (RwR L w p TT 1010000 w4 k' (a + 1) (l.drop 128) (D1.written (a : Nat) (pad128 l))) := Lib.hid (by
                  obtain ⟨hd4, hk4, _⟩ := H4.out
                  have hw := writ_count D1 (a : Nat) (pad128 l)
                  have hj := HJ.out
                  have h1 := hj.steps
                  have h2 := hj.hangs
                  have h3 := hj.at4
                  have h4 := hj.len
                  refine ⟨?_, (hj.keep.trans (Keeps.of_below HBW.out.1 (fun q hq hl2 => by have := HP.out.1 q hl2; have := H0.out.2.2; omega))).trans (hk4.mono (fun q h => .inl h)), hgo, by rw [List.length_drop]; omega, by omega, by omega, by omega⟩
                  exact hd4.less (fun q h => .inl h))
                clear hgo
                by_cases h128 : ln ≤ 128
                · obtain rfl : ln = 128 := by omega
                  have hnil : l.drop 128 = [] := List.drop_of_length_le (by have := HP.out.2.2.1; omega)
                  rw [hnil] at HFIN
                  clear hnil
                  go_wp2_with fail
                  go_roundw
                  case rel => exact ⟨k', a + 1, [], _, by go_num, rfl, HFIN⟩
                  case measure =>
                    have h1 := HP.out.2.2
                    show strLen (.string (tx ([] : List UInt8))) < strLen (.string (tx l))
                    simp only [strLen, tx_size, List.length_nil]
                    omega
                · have h128 : 128 < ln := by omega
                  have h128I : (128 : Int) < (ln : Int) := by omega
                  have hcut : (tx l).extract 128 ln = tx (l.drop 128) := by
                    have h1 := HP.out.2.2.1
                    rw [tx_cut l 128 ln (by omega) (by omega), List.take_of_length_le (by omega)]
                  go_wp2_with fail
                  go_roundw
                  case rel => exact ⟨k', a + 1, l.drop 128, _, by go_num, rfl, HFIN⟩
                  case measure =>
                    have h1 := HP.out.2.2
                    show strLen (.string (tx (l.drop 128))) < strLen (.string (tx l))
                    simp only [strLen, tx_size, List.length_drop]
                    omega
              · rw [if_pos her] at hgo
                have HGO := Lib.hid hgo
                have herb : ((ER : Int) != 0) = true := by simpa using her
                clear hgo her
                go_wp2_with fail
                go_ret
                rw [← HGO.out]
                obtain ⟨hd4, hk4, _⟩ := H4.out
                exact ⟨rfl, hd4.less (fun q h => .inl h), (HJ.out.keep.trans (Keeps.of_below HBW.out.1 (fun q hq hl2 => by have := HP.out.1 q hl2; have := H0.out.2.2; omega))).trans (hk4.mono (fun q h => .inl h))⟩
            · go_wp2_with fail
              have hbw : Below b W1 wr.drew := below_drewK HQ.out.2 1
              have hszb : b < wr.heap.size := HQ.out.1.lt
              obtain ⟨C1, hC1⟩ : ∃ C1, (pad128 l).map bv = C1 := ⟨_, rfl⟩
              have hsz1 := blk_sizeK _ (pad128_length l)
              have hV1 : blkV (pad128 l) = .agg C1.toArray := by unfold blkV; rw [hC1]
              rw [hC1] at hsz1
              have HC := Lib.hid (And.intro hsz1 trivial)
              have HS0 : Hid (Row wr.drew lp 37 (.pointer (some ⟨p, 0, none⟩) :: X) ∧ Row wr.drew b 90 C1) := Lib.hid ⟨HP.out.2.1.below (by rw [H0.out.2.2]; exact hbw) HP.out.2.1.lt, by rw [← hC1]; exact HQ.out.1.drew⟩
              have hdD : RefIs (fun q => L q ∨ q = b) wr.drew p D1 := (HJ.out.disk.more (fun q hq => by
                rcases hq with h | h
                · exact .inl h
                · exact .inr (by have := H0.out.2.2; omega))).below (by rw [H0.out.2.2]; exact hbw)
              have HWR : Hid (Calls Tryz.prog 50 #[.pointer (some ⟨p, 0, none⟩), .int .i64 (a : Nat), .agg C1.toArray] wr.drew fun e w' => e = .returned (.int .i64 (D1.writeErr (a : Nat))) ∧ RefIs (fun q => L q ∨ q = b) w' p (D1.written (a : Nat) (pad128 l)) ∧ Keeps (fun q => L q ∨ q = b) wr.drew w') := Lib.hid (by
                obtain ⟨gl1, hv1, hd1⟩ := hdD
                have h := RWrite_any (fun q hq => ?_) hd1 (a : Nat) (pad128 l) (pad128_length l) (by have := HJ.out.steps; omega) (by have := HJ.out.hangs; omega)
                · rw [hV1] at h
                  exact h
                · show q < wr.heap.size
                  rcases hq with h | h
                  · have := HP.out.1 q h; have := H0.out.2.2; omega
                  · omega)
              obtain ⟨ER, hER⟩ : ∃ ER, D1.writeErr (a : Nat) = ER := ⟨_, rfl⟩
              rw [hER] at HWR
              have hgo := HJ.out.tgt
              unfold putG at hgo
              rw [if_neg (by intro h; have h1 := HP.out.2.2.1; have h2 := HP.out.2.2.2; rw [h] at h1; simp at h1; omega), hER] at hgo
              have haI : (a : Int) ≤ 200000 := by have := HJ.out.at4; omega
              have HBW := Lib.hid (And.intro hbw hszb)
              clear hbw hszb hC1 hsz1 hV1 hdD hER
              refine wp_region_noPanic ?_
              refine wp_region_held_drew (S := fun W => Row W lp 37 (.pointer (some ⟨p, 0, none⟩) :: X) ∧ Row W b 90 C1) (by kernel_rfl) HS0.out (fun hHeld => ?_)
              refine wpAnyH_take (i := 0) (oi := { dst := some 62, op := Op.move (Operand.tmp 0), type := 34, pos := "ref.go:50", after := #[], guard := none }) (v := ?vvv_0) rfl (by kernel_rfl) (by kernel_rfl) (by kernel_rfl) (fun _ _ _ h => h) (Or.inl ⟨by rfl, ?yyv_0⟩) hHeld ?_
              case vvv_0 => exact .pointer (some ⟨lp, 0, none⟩)
              case yyv_0 =>
                intro W hS
                go_simp
              try simp only [Act.put, List.setIfInBounds_toArray, List.set_cons_zero, List.set_cons_succ]
              refine wpAnyH_take (i := 1) (oi := { dst := some 63, op := Op.nilCheck (Operand.tmp 62), type := 0, pos := "ref.go:50", after := #[{ on := 0, ground := Ground.data }], guard := none }) (v := ?vvv_1) rfl (by kernel_rfl) (by kernel_rfl) (by kernel_rfl) (fun _ _ _ h => h) (Or.inl ⟨by rfl, ?yyv_1⟩) hHeld ?_
              case vvv_1 => exact .pointer (some ⟨lp, 0, none⟩)
              case yyv_1 =>
                intro W hS
                go_simp
              try simp only [Act.put, List.setIfInBounds_toArray, List.set_cons_zero, List.set_cons_succ]
              refine wpAnyH_take (i := 2) (oi := { dst := some 64, op := Op.fieldAddr 37 (Operand.tmp 63) 0, type := 0, pos := "ref.go:50", after := #[{ on := 1, ground := Ground.data }], guard := none }) (v := ?vvv_2) rfl (by kernel_rfl) (by kernel_rfl) (by kernel_rfl) (fun _ _ _ h => h) (Or.inl ⟨by rfl, ?yyv_2⟩) hHeld ?_
              case vvv_2 => exact .pointer (some ⟨lp, 0, none⟩)
              case yyv_2 =>
                intro W hS
                go_simp
              try simp only [Act.put, List.setIfInBounds_toArray, List.set_cons_zero, List.set_cons_succ]
              refine wpAnyH_take (i := 3) (oi := { dst := some 65, op := Op.load 28 (Operand.tmp 64), type := 28, pos := "ref.go:50", after := #[{ on := 2, ground := Ground.data }], guard := none }) (v := ?vvv_3) rfl (by kernel_rfl) (by kernel_rfl) (by kernel_rfl) (fun _ _ _ h => h) (Or.inl ⟨by rfl, ?yyv_3⟩) hHeld ?_
              case vvv_3 => exact .pointer (some ⟨p, 0, none⟩)
              case yyv_3 =>
                intro W hS
                have q0 := Row.cell hS.1 0
                simp only [List.getElem?_cons_zero, List.getElem?_cons_succ] at q0
                go_simp
              try simp only [Act.put, List.setIfInBounds_toArray, List.set_cons_zero, List.set_cons_succ]
              refine wpAnyH_take (i := 4) (oi := { dst := some 66, op := Op.move (Operand.tmp 9), type := 3, pos := "ref.go:50", after := #[], guard := none }) (v := ?vvv_4) rfl (by kernel_rfl) (by kernel_rfl) (by kernel_rfl) (fun _ _ _ h => h) (Or.inl ⟨by rfl, ?yyv_4⟩) hHeld ?_
              case vvv_4 => exact .int .i64 a
              case yyv_4 =>
                intro W hS
                go_simp
              try simp only [Act.put, List.setIfInBounds_toArray, List.set_cons_zero, List.set_cons_succ]
              refine' wpAnyH_take (i := 5) (oi := { dst := some 67, op := Op.load 90 (Operand.tmp 10), type := 90, pos := "ref.go:50", after := #[], guard := none }) (v := .agg C1.toArray) rfl (by kernel_rfl) (by kernel_rfl) (by kernel_rfl) (fun _ _ _ h => h) (yieldsIf_load_mid (by rfl) _ _ rfl b 0 rfl C1 _ (fun W h => (fun j v hj => by rw [Nat.zero_add, h.2.cell]; exact hj)) Tryz.underlying90 rfl HC.out.1) hHeld ?_
              try simp only [Act.put, List.setIfInBounds_toArray, List.set_cons_zero, List.set_cons_succ]
              refine wpAnyH_ready (rs := [6]) (by kernel_rfl) (by simp) (AllReadyH.cons (o := { dst := some 68, op := Op.call { callee := Callee.value (Operand.func 50), args := #[Operand.tmp 65, Operand.tmp 66, Operand.tmp 67], argTypes := #[28, 3, 90] }, type := 3, pos := "ref.go:50", after := #[{ on := 3, ground := Ground.data }, { on := 4, ground := Ground.data }, { on := 5, ground := Ground.data }], guard := none }) rfl (fun K hK => ?_) AllReadyH.nil)
              go_simp
              go_at_call 50
              refine HWR.out.mono ?_
              rintro e w4 ⟨rfl, hd4, hk4⟩
              have s4 : Row w4 lp 37 (.pointer (some ⟨p, 0, none⟩) :: X) ∧ Row w4 b 90 C1 := ⟨(hk4.block lp HS0.out.1.lt (.inl HH.out.2.1)).trans HS0.out.1, (hk4.block b HS0.out.2.lt (.inr rfl)).trans HS0.out.2⟩
              have H4 := Lib.hid (And.intro hd4 (And.intro hk4 s4))
              refine hK.out _ _ s4 (fun hHeld => ?_)
              clear hK K hd4 hk4 s4
              try simp only [Act.put, List.setIfInBounds_toArray, List.set_cons_zero, List.set_cons_succ]
              refine wpAnyH_ready (rs := [7]) (by kernel_rfl) (by simp) (AllReadyH.cons (o := { dst := some 12, op := Op.assign (Operand.tmp 68), type := 3, pos := "ref.go:50", after := #[{ on := 6, ground := Ground.data }, { on := 6, ground := Ground.chain }, { on := 0, ground := Ground.phase }, { on := 1, ground := Ground.phase }, { on := 2, ground := Ground.phase }, { on := 3, ground := Ground.phase }, { on := 4, ground := Ground.phase }, { on := 5, ground := Ground.phase }, { on := 6, ground := Ground.phase }], guard := none }) rfl (fun K hK => ?_) AllReadyH.nil)
              go_simp
              refine hK.out _ _ H4.out.2.2 (fun hHeld => ?_)
              clear hK K
              try simp only [Act.put, List.setIfInBounds_toArray, List.set_cons_zero, List.set_cons_succ]
              refine wpAnyH_done (by kernel_rfl) ?_ _
              refine NoPanic.normal ?_
              by_cases her : ER = 0
              · subst her
                rw [if_neg (by simp)] at hgo
                have HFIN : Hid (RwR L w p TT 1010000 w4 k' (a + 1) (l.drop 128) (D1.written (a : Nat) (pad128 l))) := Lib.hid (by
                  obtain ⟨hd4, hk4, _⟩ := H4.out
                  have hw := writ_count D1 (a : Nat) (pad128 l)
                  have hj := HJ.out
                  have h1 := hj.steps
                  have h2 := hj.hangs
                  have h3 := hj.at4
                  have h4 := hj.len
                  refine ⟨?_, (hj.keep.trans (Keeps.of_below HBW.out.1 (fun q hq hl2 => by have := HP.out.1 q hl2; have := H0.out.2.2; omega))).trans (hk4.mono (fun q h => .inl h)), hgo, by rw [List.length_drop]; omega, by omega, by omega, by omega⟩
                  exact hd4.less (fun q h => .inl h))
                clear hgo
                have hnil : l.drop 128 = [] := List.drop_of_length_le (by have := HP.out.2.2.1; omega)
                rw [hnil] at HFIN
                clear hnil
                go_wp2_with fail
                go_roundw
                case rel => exact ⟨k', a + 1, [], _, by go_num, rfl, HFIN⟩
                case measure =>
                  have h1 := HP.out.2.2
                  show strLen (.string (tx ([] : List UInt8))) < strLen (.string (tx l))
                  simp only [strLen, tx_size, List.length_nil]
                  omega
              · rw [if_pos her] at hgo
                have HGO := Lib.hid hgo
                have herb : ((ER : Int) != 0) = true := by simpa using her
                clear hgo her
                go_wp2_with fail
                go_ret
                rw [← HGO.out]
                obtain ⟨hd4, hk4, _⟩ := H4.out
                exact ⟨rfl, hd4.less (fun q h => .inl h), (HJ.out.keep.trans (Keeps.of_below HBW.out.1 (fun q hq hl2 => by have := HP.out.1 q hl2; have := H0.out.2.2; omega))).trans (hk4.mono (fun q h => .inl h))⟩
      · obtain rfl : ln = 0 := by omega
        obtain rfl : l = [] := List.length_eq_zero_iff.1 hln
        have hTT : TT = (D1.synced, D1.stepErr) := by rw [← HJ.out.tgt, putG_nil]
        obtain ⟨gl1, hv1, hd1⟩ := HJ.out.disk
        have HSY := Lib.hid (RSync_any hd1 (by have := HJ.out.steps; omega) (by have := HJ.out.hangs; omega))
        have c0 := rlp.cell 0
        simp only [List.getElem?_cons_zero] at c0
        have HTT2 := Lib.hid hTT
        clear hd1 rlp hTT hszw hln hl
        go_wp2_with fail
        refine HSY.out.mono ?_
        rintro e w5 ⟨rfl, hd5, hk5⟩
        have H5 := Lib.hid (And.intro hd5 hk5)
        clear hd5 hk5
        go_wp2_with fail
        go_ret
        rw [HTT2.out]
        exact ⟨rfl, H5.out.1, HJ.out.keep.trans H5.out.2⟩
  · rw [show ((1 : Nat) : Int) = 1 from rfl]
    go_enter Tryz.func48, Tryz.ntmps48
    go_wp2_with fail
    clear ha
    go_loopw [9, 3] (fun u s wr => ∃ (m1 a : Nat) (l : List UInt8) (D1 : DS), u = .int .i64 a ∧ s = .string (tx l) ∧ Hid (RwR L w p TT 1010000 wr m1 a l D1)) (fun _ s _ => strLen s)
    case atStart => exact ⟨n, a0, l0, D, rfl, rfl, HR0⟩
    case round =>
      obtain ⟨m1, a, l, D1, rfl, rfl, HJ⟩ := hrel
      rename World => W1
      have hszw : ∀ k, L k → k < W1.heap.size := fun k hk => by have := HH.out.1 k hk; have := HJ.out.keep.size; omega
      have rlp : Row W1 lp 37 (.pointer (some ⟨p, 0, none⟩) :: X) := (HJ.out.keep.block lp HH.out.2.2.lt HH.out.2.1).trans HH.out.2.2
      have hlz : (tx l).size = l.length := tx_size l
      obtain ⟨ln, hln⟩ : ∃ ln, l.length = ln := ⟨_, rfl⟩
      rw [hln] at hlz
      by_cases hl : 0 < ln
      · obtain ⟨k', rfl⟩ : ∃ k', m1 = k' + 1 := ⟨m1 - 1, by have := HJ.out.len; omega⟩
        have hlI : (0 : Int) < (ln : Int) := by omega
        have hgt : decide (0 < ln) = true := by simp; omega
        have HP := Lib.hid (And.intro hszw (And.intro rlp (And.intro hln hl)))
        clear hszw rlp hln hl
        go_wp2_with fail
        have hb0 : Below W1.heap.size W1 (W1.alloc (.cells zB.toArray 90)) := (Below.refl W1.heap.size W1).alloc (Nat.le_refl _) _
        have hr0 := Row.new W1 90 zB
        obtain ⟨b, hb⟩ : ∃ b, W1.heap.size = b := ⟨_, rfl⟩
        have e0 : zB = (l.take 0 ++ z128.drop 0).map bv := by rw [List.take_zero, List.drop_zero, List.nil_append, zB_eq]
        rw [hb] at hb0 hr0 ⊢
        have H0 := Lib.hid (And.intro hb0 (And.intro hr0 hb))
        clear hb0 hr0 hb
        generalize W1.alloc (.cells zB.toArray 90) = w1 at H0 ⊢
        go_loopw [11] (fun i wq => ∃ j : Nat, j ≤ 128 ∧ j ≤ ln ∧ i = .int .i64 j ∧ Row wq b 90 ((l.take j ++ z128.drop j).map bv) ∧ Below b W1 wq) (fun i _ => 128 - (intOf i).toNat)
        case atStart => exact ⟨0, Nat.zero_le _, Nat.zero_le _, rfl, by rw [← e0]; exact H0.out.2.1, H0.out.1⟩
        case round =>
          obtain ⟨j, hj1, hj2, rfl, hrq, hbq⟩ := hrel
          by_cases hlt : j < 128 ∧ j < ln
          · have hj128 : j < 128 := hlt.1
            have hjl : j < ln := hlt.2
            have hjs : j < (tx l).size := by rw [hlz]; exact hjl
            have hx : l[j]? = some ((tx l)[j]'hjs) := by
              have h1 : (tx l).data[j]? = some ((tx l).data[j]'hjs) := Array.getElem?_eq_getElem hjs
              have h2 : (tx l).data[j]? = l[j]? := by show l.toArray[j]? = l[j]?; exact List.getElem?_toArray
              rw [← h2, h1]
              rfl
            have hcell : wr.cell? ⟨b, j, none⟩ = some (.int .u8 0) := by
              rw [hrq.cell, List.getElem?_map, List.getElem?_append_right (by rw [List.length_take]; omega), List.getElem?_drop, List.length_take, HP.out.2.2.1, show j + (j - min j ln) = j by omega]
              unfold z128
              rw [List.getElem?_replicate, if_pos hj128]
              rfl
            have hfr := hrq.frozen j
            have r3 := hrq.set j (bv ((tx l)[j]'hjs))
            have e3 : ((l.take j ++ z128.drop j).map bv).set j (bv ((tx l)[j]'hjs)) = (l.take (j + 1) ++ z128.drop (j + 1)).map bv := by
              rw [← List.map_set]
              congr 1
              have h1 : (l.take j).length = j := by rw [List.length_take, HP.out.2.2.1]; omega
              have h2 : z128.drop j = 0 :: z128.drop (j + 1) := by unfold z128; rw [List.drop_replicate, List.drop_replicate, show 128 - j = (128 - (j + 1)) + 1 by omega, List.replicate_succ]
              rw [List.set_append_right _ _ (by omega), h1, Nat.sub_self, h2, List.set_cons_zero, List.take_add_one, hx, List.append_assoc]
              rfl
            rw [e3] at r3
            have b3 := hbq.setCell (p := ⟨b, j, none⟩) (Nat.le_refl _) (bv ((tx l)[j]'hjs))
            have H3 := Lib.hid (And.intro r3 b3)
            clear hlt hrq hbq hx r3 e3 b3
            go_wp2_with fail
            go_roundw
            case rel => exact ⟨j + 1, by omega, by omega, by go_num, H3.out.1, H3.out.2⟩
            case measure => simp [intOf]; omega
          · have hj3 : j = 128 ∨ (j < 128 ∧ j = ln) := by omega
            have hpad : l.take j ++ z128.drop j = pad128 l := take_pad l j (by have := HP.out.2.2.1; omega) hj1 (by have := HP.out.2.2.1; omega)
            rw [hpad] at hrq
            have HQ := Lib.hid (And.intro hrq hbq)
            clear hlt hrq hbq hpad
            rcases hj3 with rfl | ⟨hj128, rfl⟩
            · go_wp2_with fail
              have hbw : Below b W1 wr.drew := below_drewK HQ.out.2 1
              have hszb : b < wr.heap.size := HQ.out.1.lt
              obtain ⟨C1, hC1⟩ : ∃ C1, (pad128 l).map bv = C1 := ⟨_, rfl⟩
              have hsz1 := blk_sizeK _ (pad128_length l)
              have hV1 : blkV (pad128 l) = .agg C1.toArray := by unfold blkV; rw [hC1]
              rw [hC1] at hsz1
              have HC := Lib.hid (And.intro hsz1 trivial)
              have HS0 : Hid (Row wr.drew lp 37 (.pointer (some ⟨p, 0, none⟩) :: X) ∧ Row wr.drew b 90 C1) := Lib.hid ⟨HP.out.2.1.below (by rw [H0.out.2.2]; exact hbw) HP.out.2.1.lt, by rw [← hC1]; exact HQ.out.1.drew⟩
              have hdD : RefIs (fun q => L q ∨ q = b) wr.drew p D1 := (HJ.out.disk.more (fun q hq => by
                rcases hq with h | h
                · exact .inl h
                · exact .inr (by have := H0.out.2.2; omega))).below (by rw [H0.out.2.2]; exact hbw)
              have HWR : Hid (Calls Tryz.prog 50 #[.pointer (some ⟨p, 0, none⟩), .int .i64 (a : Nat), .agg C1.toArray] wr.drew fun e w' => e = .returned (.int .i64 (D1.writeErr (a : Nat))) ∧ RefIs (fun q => L q ∨ q = b) w' p (D1.written (a : Nat) (pad128 l)) ∧ Keeps (fun q => L q ∨ q = b) wr.drew w') := Lib.hid (by
                obtain ⟨gl1, hv1, hd1⟩ := hdD
                have h := RWrite_any (fun q hq => ?_) hd1 (a : Nat) (pad128 l) (pad128_length l) (by have := HJ.out.steps; omega) (by have := HJ.out.hangs; omega)
                · rw [hV1] at h
                  exact h
                · show q < wr.heap.size
                  rcases hq with h | h
                  · have := HP.out.1 q h; have := H0.out.2.2; omega
                  · omega)
              obtain ⟨ER, hER⟩ : ∃ ER, D1.writeErr (a : Nat) = ER := ⟨_, rfl⟩
              rw [hER] at HWR
              have hgo := HJ.out.tgt
              unfold putG at hgo
              rw [if_neg (by intro h; have h1 := HP.out.2.2.1; have h2 := HP.out.2.2.2; rw [h] at h1; simp at h1; omega), hER] at hgo
              have haI : (a : Int) ≤ 200000 := by have := HJ.out.at4; omega
              have HBW := Lib.hid (And.intro hbw hszb)
              clear hbw hszb hC1 hsz1 hV1 hdD hER
              refine wp_region_noPanic ?_
              refine wp_region_held_drew (S := fun W => Row W lp 37 (.pointer (some ⟨p, 0, none⟩) :: X) ∧ Row W b 90 C1) (by kernel_rfl) HS0.out (fun hHeld => ?_)
              refine wpAnyH_take (i := 0) (oi := { dst := some 62, op := Op.move (Operand.tmp 0), type := 34, pos := "ref.go:50", after := #[], guard := none }) (v := ?vvu_0) rfl (by kernel_rfl) (by kernel_rfl) (by kernel_rfl) (fun _ _ _ h => h) (Or.inl ⟨by rfl, ?yyu_0⟩) hHeld ?_
              case vvu_0 => exact .pointer (some ⟨lp, 0, none⟩)
              case yyu_0 =>
                intro W hS
                go_simp
              try simp only [Act.put, List.setIfInBounds_toArray, List.set_cons_zero, List.set_cons_succ]
              refine wpAnyH_take (i := 1) (oi := { dst := some 63, op := Op.nilCheck (Operand.tmp 62), type := 0, pos := "ref.go:50", after := #[{ on := 0, ground := Ground.data }], guard := none }) (v := ?vvu_1) rfl (by kernel_rfl) (by kernel_rfl) (by kernel_rfl) (fun _ _ _ h => h) (Or.inl ⟨by rfl, ?yyu_1⟩) hHeld ?_
              case vvu_1 => exact .pointer (some ⟨lp, 0, none⟩)
              case yyu_1 =>
                intro W hS
                go_simp
              try simp only [Act.put, List.setIfInBounds_toArray, List.set_cons_zero, List.set_cons_succ]
              refine wpAnyH_take (i := 2) (oi := { dst := some 64, op := Op.fieldAddr 37 (Operand.tmp 63) 0, type := 0, pos := "ref.go:50", after := #[{ on := 1, ground := Ground.data }], guard := none }) (v := ?vvu_2) rfl (by kernel_rfl) (by kernel_rfl) (by kernel_rfl) (fun _ _ _ h => h) (Or.inl ⟨by rfl, ?yyu_2⟩) hHeld ?_
              case vvu_2 => exact .pointer (some ⟨lp, 0, none⟩)
              case yyu_2 =>
                intro W hS
                go_simp
              try simp only [Act.put, List.setIfInBounds_toArray, List.set_cons_zero, List.set_cons_succ]
              refine wpAnyH_take (i := 3) (oi := { dst := some 65, op := Op.load 28 (Operand.tmp 64), type := 28, pos := "ref.go:50", after := #[{ on := 2, ground := Ground.data }], guard := none }) (v := ?vvu_3) rfl (by kernel_rfl) (by kernel_rfl) (by kernel_rfl) (fun _ _ _ h => h) (Or.inl ⟨by rfl, ?yyu_3⟩) hHeld ?_
              case vvu_3 => exact .pointer (some ⟨p, 0, none⟩)
              case yyu_3 =>
                intro W hS
                have q0 := Row.cell hS.1 0
                simp only [List.getElem?_cons_zero, List.getElem?_cons_succ] at q0
                go_simp
              try simp only [Act.put, List.setIfInBounds_toArray, List.set_cons_zero, List.set_cons_succ]
              refine wpAnyH_take (i := 4) (oi := { dst := some 66, op := Op.move (Operand.tmp 9), type := 3, pos := "ref.go:50", after := #[], guard := none }) (v := ?vvu_4) rfl (by kernel_rfl) (by kernel_rfl) (by kernel_rfl) (fun _ _ _ h => h) (Or.inl ⟨by rfl, ?yyu_4⟩) hHeld ?_
              case vvu_4 => exact .int .i64 a
              case yyu_4 =>
                intro W hS
                go_simp
              try simp only [Act.put, List.setIfInBounds_toArray, List.set_cons_zero, List.set_cons_succ]
              refine' wpAnyH_take (i := 5) (oi := { dst := some 67, op := Op.load 90 (Operand.tmp 10), type := 90, pos := "ref.go:50", after := #[], guard := none }) (v := .agg C1.toArray) rfl (by kernel_rfl) (by kernel_rfl) (by kernel_rfl) (fun _ _ _ h => h) (yieldsIf_load_mid (by rfl) _ _ rfl b 0 rfl C1 _ (fun W h => (fun j v hj => by rw [Nat.zero_add, h.2.cell]; exact hj)) Tryz.underlying90 rfl HC.out.1) hHeld ?_
              try simp only [Act.put, List.setIfInBounds_toArray, List.set_cons_zero, List.set_cons_succ]
              refine wpAnyH_ready (rs := [6]) (by kernel_rfl) (by simp) (AllReadyH.cons (o := { dst := some 68, op := Op.call { callee := Callee.value (Operand.func 50), args := #[Operand.tmp 65, Operand.tmp 66, Operand.tmp 67], argTypes := #[28, 3, 90] }, type := 3, pos := "ref.go:50", after := #[{ on := 3, ground := Ground.data }, { on := 4, ground := Ground.data }, { on := 5, ground := Ground.data }], guard := none }) rfl (fun K hK => ?_) AllReadyH.nil)
              go_simp
              go_at_call 50
              refine HWR.out.mono ?_
              rintro e w4 ⟨rfl, hd4, hk4⟩
              have s4 : Row w4 lp 37 (.pointer (some ⟨p, 0, none⟩) :: X) ∧ Row w4 b 90 C1 := ⟨(hk4.block lp HS0.out.1.lt (.inl HH.out.2.1)).trans HS0.out.1, (hk4.block b HS0.out.2.lt (.inr rfl)).trans HS0.out.2⟩
              have H4 := Lib.hid (And.intro hd4 (And.intro hk4 s4))
              refine hK.out _ _ s4 (fun hHeld => ?_)
              clear hK K hd4 hk4 s4
              try simp only [Act.put, List.setIfInBounds_toArray, List.set_cons_zero, List.set_cons_succ]
              refine wpAnyH_ready (rs := [7]) (by kernel_rfl) (by simp) (AllReadyH.cons (o := { dst := some 12, op := Op.assign (Operand.tmp 68), type := 3, pos := "ref.go:50", after := #[{ on := 6, ground := Ground.data }, { on := 6, ground := Ground.chain }, { on := 0, ground := Ground.phase }, { on := 1, ground := Ground.phase }, { on := 2, ground := Ground.phase }, { on := 3, ground := Ground.phase }, { on := 4, ground := Ground.phase }, { on := 5, ground := Ground.phase }, { on := 6, ground := Ground.phase }], guard := none }) rfl (fun K hK => ?_) AllReadyH.nil)
              go_simp
              refine hK.out _ _ H4.out.2.2 (fun hHeld => ?_)
              clear hK K
              try simp only [Act.put, List.setIfInBounds_toArray, List.set_cons_zero, List.set_cons_succ]
              refine wpAnyH_done (by kernel_rfl) ?_ _
              refine NoPanic.normal ?_
              by_cases her : ER = 0
              · subst her
                rw [if_neg (by simp)] at hgo
                have HFIN : Hid (RwR L w p TT 1010000 w4 k' (a + 1) (l.drop 128) (D1.written (a : Nat) (pad128 l))) := Lib.hid (by
                  obtain ⟨hd4, hk4, _⟩ := H4.out
                  have hw := writ_count D1 (a : Nat) (pad128 l)
                  have hj := HJ.out
                  have h1 := hj.steps
                  have h2 := hj.hangs
                  have h3 := hj.at4
                  have h4 := hj.len
                  refine ⟨?_, (hj.keep.trans (Keeps.of_below HBW.out.1 (fun q hq hl2 => by have := HP.out.1 q hl2; have := H0.out.2.2; omega))).trans (hk4.mono (fun q h => .inl h)), hgo, by rw [List.length_drop]; omega, by omega, by omega, by omega⟩
                  exact hd4.less (fun q h => .inl h))
                clear hgo
                by_cases h128 : ln ≤ 128
                · obtain rfl : ln = 128 := by omega
                  have hnil : l.drop 128 = [] := List.drop_of_length_le (by have := HP.out.2.2.1; omega)
                  rw [hnil] at HFIN
                  clear hnil
                  go_wp2_with fail
                  go_roundw
                  case rel => exact ⟨k', a + 1, [], _, by go_num, rfl, HFIN⟩
                  case measure =>
                    have h1 := HP.out.2.2
                    show strLen (.string (tx ([] : List UInt8))) < strLen (.string (tx l))
                    simp only [strLen, tx_size, List.length_nil]
                    omega
                · have h128 : 128 < ln := by omega
                  have h128I : (128 : Int) < (ln : Int) := by omega
                  have hcut : (tx l).extract 128 ln = tx (l.drop 128) := by
                    have h1 := HP.out.2.2.1
                    rw [tx_cut l 128 ln (by omega) (by omega), List.take_of_length_le (by omega)]
                  go_wp2_with fail
                  go_roundw
                  case rel => exact ⟨k', a + 1, l.drop 128, _, by go_num, rfl, HFIN⟩
                  case measure =>
                    have h1 := HP.out.2.2
                    show strLen (.string (tx (l.drop 128))) < strLen (.string (tx l))
                    simp only [strLen, tx_size, List.length_drop]
                    omega
              · rw [if_pos her] at hgo
                have HGO := Lib.hid hgo
                have herb : ((ER : Int) != 0) = true := by simpa using her
                clear hgo her
                go_wp2_with fail
                go_ret
                rw [← HGO.out]
                obtain ⟨hd4, hk4, _⟩ := H4.out
                exact ⟨rfl, hd4.less (fun q h => .inl h), (HJ.out.keep.trans (Keeps.of_below HBW.out.1 (fun q hq hl2 => by have := HP.out.1 q hl2; have := H0.out.2.2; omega))).trans (hk4.mono (fun q h => .inl h))⟩
            · go_wp2_with fail
              have hbw : Below b W1 wr.drew := below_drewK HQ.out.2 1
              have hszb : b < wr.heap.size := HQ.out.1.lt
              obtain ⟨C1, hC1⟩ : ∃ C1, (pad128 l).map bv = C1 := ⟨_, rfl⟩
              have hsz1 := blk_sizeK _ (pad128_length l)
              have hV1 : blkV (pad128 l) = .agg C1.toArray := by unfold blkV; rw [hC1]
              rw [hC1] at hsz1
              have HC := Lib.hid (And.intro hsz1 trivial)
              have HS0 : Hid (Row wr.drew lp 37 (.pointer (some ⟨p, 0, none⟩) :: X) ∧ Row wr.drew b 90 C1) := Lib.hid ⟨HP.out.2.1.below (by rw [H0.out.2.2]; exact hbw) HP.out.2.1.lt, by rw [← hC1]; exact HQ.out.1.drew⟩
              have hdD : RefIs (fun q => L q ∨ q = b) wr.drew p D1 := (HJ.out.disk.more (fun q hq => by
                rcases hq with h | h
                · exact .inl h
                · exact .inr (by have := H0.out.2.2; omega))).below (by rw [H0.out.2.2]; exact hbw)
              have HWR : Hid (Calls Tryz.prog 50 #[.pointer (some ⟨p, 0, none⟩), .int .i64 (a : Nat), .agg C1.toArray] wr.drew fun e w' => e = .returned (.int .i64 (D1.writeErr (a : Nat))) ∧ RefIs (fun q => L q ∨ q = b) w' p (D1.written (a : Nat) (pad128 l)) ∧ Keeps (fun q => L q ∨ q = b) wr.drew w') := Lib.hid (by
                obtain ⟨gl1, hv1, hd1⟩ := hdD
                have h := RWrite_any (fun q hq => ?_) hd1 (a : Nat) (pad128 l) (pad128_length l) (by have := HJ.out.steps; omega) (by have := HJ.out.hangs; omega)
                · rw [hV1] at h
                  exact h
                · show q < wr.heap.size
                  rcases hq with h | h
                  · have := HP.out.1 q h; have := H0.out.2.2; omega
                  · omega)
              obtain ⟨ER, hER⟩ : ∃ ER, D1.writeErr (a : Nat) = ER := ⟨_, rfl⟩
              rw [hER] at HWR
              have hgo := HJ.out.tgt
              unfold putG at hgo
              rw [if_neg (by intro h; have h1 := HP.out.2.2.1; have h2 := HP.out.2.2.2; rw [h] at h1; simp at h1; omega), hER] at hgo
              have haI : (a : Int) ≤ 200000 := by have := HJ.out.at4; omega
              have HBW := Lib.hid (And.intro hbw hszb)
              clear hbw hszb hC1 hsz1 hV1 hdD hER
              refine wp_region_noPanic ?_
              refine wp_region_held_drew (S := fun W => Row W lp 37 (.pointer (some ⟨p, 0, none⟩) :: X) ∧ Row W b 90 C1) (by kernel_rfl) HS0.out (fun hHeld => ?_)
              refine wpAnyH_take (i := 0) (oi := { dst := some 62, op := Op.move (Operand.tmp 0), type := 34, pos := "ref.go:50", after := #[], guard := none }) (v := ?vvv_0) rfl (by kernel_rfl) (by kernel_rfl) (by kernel_rfl) (fun _ _ _ h => h) (Or.inl ⟨by rfl, ?yyv_0⟩) hHeld ?_
              case vvv_0 => exact .pointer (some ⟨lp, 0, none⟩)
              case yyv_0 =>
                intro W hS
                go_simp
              try simp only [Act.put, List.setIfInBounds_toArray, List.set_cons_zero, List.set_cons_succ]
              refine wpAnyH_take (i := 1) (oi := { dst := some 63, op := Op.nilCheck (Operand.tmp 62), type := 0, pos := "ref.go:50", after := #[{ on := 0, ground := Ground.data }], guard := none }) (v := ?vvv_1) rfl (by kernel_rfl) (by kernel_rfl) (by kernel_rfl) (fun _ _ _ h => h) (Or.inl ⟨by rfl, ?yyv_1⟩) hHeld ?_
              case vvv_1 => exact .pointer (some ⟨lp, 0, none⟩)
              case yyv_1 =>
                intro W hS
                go_simp
              try simp only [Act.put, List.setIfInBounds_toArray, List.set_cons_zero, List.set_cons_succ]
              refine wpAnyH_take (i := 2) (oi := { dst := some 64, op := Op.fieldAddr 37 (Operand.tmp 63) 0, type := 0, pos := "ref.go:50", after := #[{ on := 1, ground := Ground.data }], guard := none }) (v := ?vvv_2) rfl (by kernel_rfl) (by kernel_rfl) (by kernel_rfl) (fun _ _ _ h => h) (Or.inl ⟨by rfl, ?yyv_2⟩) hHeld ?_
              case vvv_2 => exact .pointer (some ⟨lp, 0, none⟩)
              case yyv_2 =>
                intro W hS
                go_simp
              try simp only [Act.put, List.setIfInBounds_toArray, List.set_cons_zero, List.set_cons_succ]
              refine wpAnyH_take (i := 3) (oi := { dst := some 65, op := Op.load 28 (Operand.tmp 64), type := 28, pos := "ref.go:50", after := #[{ on := 2, ground := Ground.data }], guard := none }) (v := ?vvv_3) rfl (by kernel_rfl) (by kernel_rfl) (by kernel_rfl) (fun _ _ _ h => h) (Or.inl ⟨by rfl, ?yyv_3⟩) hHeld ?_
              case vvv_3 => exact .pointer (some ⟨p, 0, none⟩)
              case yyv_3 =>
                intro W hS
                have q0 := Row.cell hS.1 0
                simp only [List.getElem?_cons_zero, List.getElem?_cons_succ] at q0
                go_simp
              try simp only [Act.put, List.setIfInBounds_toArray, List.set_cons_zero, List.set_cons_succ]
              refine wpAnyH_take (i := 4) (oi := { dst := some 66, op := Op.move (Operand.tmp 9), type := 3, pos := "ref.go:50", after := #[], guard := none }) (v := ?vvv_4) rfl (by kernel_rfl) (by kernel_rfl) (by kernel_rfl) (fun _ _ _ h => h) (Or.inl ⟨by rfl, ?yyv_4⟩) hHeld ?_
              case vvv_4 => exact .int .i64 a
              case yyv_4 =>
                intro W hS
                go_simp
              try simp only [Act.put, List.setIfInBounds_toArray, List.set_cons_zero, List.set_cons_succ]
              refine' wpAnyH_take (i := 5) (oi := { dst := some 67, op := Op.load 90 (Operand.tmp 10), type := 90, pos := "ref.go:50", after := #[], guard := none }) (v := .agg C1.toArray) rfl (by kernel_rfl) (by kernel_rfl) (by kernel_rfl) (fun _ _ _ h => h) (yieldsIf_load_mid (by rfl) _ _ rfl b 0 rfl C1 _ (fun W h => (fun j v hj => by rw [Nat.zero_add, h.2.cell]; exact hj)) Tryz.underlying90 rfl HC.out.1) hHeld ?_
              try simp only [Act.put, List.setIfInBounds_toArray, List.set_cons_zero, List.set_cons_succ]
              refine wpAnyH_ready (rs := [6]) (by kernel_rfl) (by simp) (AllReadyH.cons (o := { dst := some 68, op := Op.call { callee := Callee.value (Operand.func 50), args := #[Operand.tmp 65, Operand.tmp 66, Operand.tmp 67], argTypes := #[28, 3, 90] }, type := 3, pos := "ref.go:50", after := #[{ on := 3, ground := Ground.data }, { on := 4, ground := Ground.data }, { on := 5, ground := Ground.data }], guard := none }) rfl (fun K hK => ?_) AllReadyH.nil)
              go_simp
              go_at_call 50
              refine HWR.out.mono ?_
              rintro e w4 ⟨rfl, hd4, hk4⟩
              have s4 : Row w4 lp 37 (.pointer (some ⟨p, 0, none⟩) :: X) ∧ Row w4 b 90 C1 := ⟨(hk4.block lp HS0.out.1.lt (.inl HH.out.2.1)).trans HS0.out.1, (hk4.block b HS0.out.2.lt (.inr rfl)).trans HS0.out.2⟩
              have H4 := Lib.hid (And.intro hd4 (And.intro hk4 s4))
              refine hK.out _ _ s4 (fun hHeld => ?_)
              clear hK K hd4 hk4 s4
              try simp only [Act.put, List.setIfInBounds_toArray, List.set_cons_zero, List.set_cons_succ]
              refine wpAnyH_ready (rs := [7]) (by kernel_rfl) (by simp) (AllReadyH.cons (o := { dst := some 12, op := Op.assign (Operand.tmp 68), type := 3, pos := "ref.go:50", after := #[{ on := 6, ground := Ground.data }, { on := 6, ground := Ground.chain }, { on := 0, ground := Ground.phase }, { on := 1, ground := Ground.phase }, { on := 2, ground := Ground.phase }, { on := 3, ground := Ground.phase }, { on := 4, ground := Ground.phase }, { on := 5, ground := Ground.phase }, { on := 6, ground := Ground.phase }], guard := none }) rfl (fun K hK => ?_) AllReadyH.nil)
              go_simp
              refine hK.out _ _ H4.out.2.2 (fun hHeld => ?_)
              clear hK K
              try simp only [Act.put, List.setIfInBounds_toArray, List.set_cons_zero, List.set_cons_succ]
              refine wpAnyH_done (by kernel_rfl) ?_ _
              refine NoPanic.normal ?_
              by_cases her : ER = 0
              · subst her
                rw [if_neg (by simp)] at hgo
                have HFIN : Hid (RwR L w p TT 1010000 w4 k' (a + 1) (l.drop 128) (D1.written (a : Nat) (pad128 l))) := Lib.hid (by
                  obtain ⟨hd4, hk4, _⟩ := H4.out
                  have hw := writ_count D1 (a : Nat) (pad128 l)
                  have hj := HJ.out
                  have h1 := hj.steps
                  have h2 := hj.hangs
                  have h3 := hj.at4
                  have h4 := hj.len
                  refine ⟨?_, (hj.keep.trans (Keeps.of_below HBW.out.1 (fun q hq hl2 => by have := HP.out.1 q hl2; have := H0.out.2.2; omega))).trans (hk4.mono (fun q h => .inl h)), hgo, by rw [List.length_drop]; omega, by omega, by omega, by omega⟩
                  exact hd4.less (fun q h => .inl h))
                clear hgo
                have hnil : l.drop 128 = [] := List.drop_of_length_le (by have := HP.out.2.2.1; omega)
                rw [hnil] at HFIN
                clear hnil
                go_wp2_with fail
                go_roundw
                case rel => exact ⟨k', a + 1, [], _, by go_num, rfl, HFIN⟩
                case measure =>
                  have h1 := HP.out.2.2
                  show strLen (.string (tx ([] : List UInt8))) < strLen (.string (tx l))
                  simp only [strLen, tx_size, List.length_nil]
                  omega
              · rw [if_pos her] at hgo
                have HGO := Lib.hid hgo
                have herb : ((ER : Int) != 0) = true := by simpa using her
                clear hgo her
                go_wp2_with fail
                go_ret
                rw [← HGO.out]
                obtain ⟨hd4, hk4, _⟩ := H4.out
                exact ⟨rfl, hd4.less (fun q h => .inl h), (HJ.out.keep.trans (Keeps.of_below HBW.out.1 (fun q hq hl2 => by have := HP.out.1 q hl2; have := H0.out.2.2; omega))).trans (hk4.mono (fun q h => .inl h))⟩
      · obtain rfl : ln = 0 := by omega
        obtain rfl : l = [] := List.length_eq_zero_iff.1 hln
        have hTT : TT = (D1.synced, D1.stepErr) := by rw [← HJ.out.tgt, putG_nil]
        obtain ⟨gl1, hv1, hd1⟩ := HJ.out.disk
        have HSY := Lib.hid (RSync_any hd1 (by have := HJ.out.steps; omega) (by have := HJ.out.hangs; omega))
        have c0 := rlp.cell 0
        simp only [List.getElem?_cons_zero] at c0
        have HTT2 := Lib.hid hTT
        clear hd1 rlp hTT hszw hln hl
        go_wp2_with fail
        refine HSY.out.mono ?_
        rintro e w5 ⟨rfl, hd5, hk5⟩
        have H5 := Lib.hid (And.intro hd5 hk5)
        clear hd5 hk5
        go_wp2_with fail
        go_ret
        rw [HTT2.out]
        exact ⟨rfl, H5.out.1, HJ.out.keep.trans H5.out.2⟩
end
end Go.Proofs.YtiaaeniopjpfpaaGreatDoor

namespace Go.Proofs.YtiaaeniopjpfpaaGreatDoor
open Go.RowKit
set_option linter.unusedVariables false

/-- v is a slice that holds the texts l. -/
def Strs (w : World) (v : Value) (l : List ByteArray) : Prop :=
  ∃ a0 cap b off, v = .slice a0 l.length cap ∧ (0 < l.length → a0 = some ⟨b, off, none⟩ ∧ b < w.heap.size) ∧ ∀ j, j < l.length → w.cell? ⟨b, off + j, none⟩ = some (.string (l.getD j ByteArray.empty))

theorem Strs.below {B : Nat} {w w' : World} {v : Value} {l : List ByteArray} (h : Strs w v l) (hB : w.heap.size ≤ B) (hb : Below B w w') : Strs w' v l := by
  obtain ⟨a0, cap, b, off, h1, h2, h3⟩ := h
  refine ⟨a0, cap, b, off, h1, fun h0 => ⟨(h2 h0).1, Nat.lt_of_lt_of_le (h2 h0).2 ?_⟩, fun j hj => ?_⟩
  · exact hb.size
  · have h4 := (h2 (by omega)).2
    exact (hb.cell (p := ⟨b, off + j, none⟩) (by show b < B; omega)).trans (h3 j hj)

theorem Strs.own {w : World} {v : Value} {l : List ByteArray} {B k : Nat} (h : w.ownsRow B 9 1 v k (l.map Value.string)) (hk : k = l.length) : Strs w v l := by
  subst hk
  rcases h.2 with ⟨h0, h1⟩ | ⟨g, cap, cur, hv, hg, _, hn, hcap, _, _⟩
  · subst h0
    exact ⟨none, 0, 0, 0, by rw [h1], fun h => by omega, fun j hj => by omega⟩
  · subst hv
    refine ⟨some ⟨g, 0, none⟩, cap, g, 0, rfl, fun _ => ⟨rfl, (h.lt g rfl).2⟩, fun j hj => ?_⟩
    rw [Nat.zero_add, h.cellAt j (by omega)]
    simp [List.getD, List.getElem?_eq_getElem hj]

theorem str_ne {x y : ByteArray} (h : x ≠ y) : (x.toList == y.toList) = false := by
  rw [beq_eq_false_iff_ne]
  intro e
  rw [ByteArray.toList_eq, ByteArray.toList_eq] at e
  exact h (ByteArray.ext (Array.toList_inj.mp e))

end Go.Proofs.YtiaaeniopjpfpaaGreatDoor
