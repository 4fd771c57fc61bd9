/- The document's disk read. -/
import Derived.Test.YtcecibopanfmgaaQSmall
import Derived.Test.YtcecibopanfmgaaKCrash
namespace Go.Proofs.Ytcecibopanfmgaa
open Go.RowKit Go.Maps
set_option linter.unusedVariables false
set_option linter.unusedSimpArgs false

theorem rW_info : (Try.prog.info? 69).map (fun i => (i.zero, i.size)) = some (some (.agg (.int .i64 0 :: zW).toArray), 129) := by kernel_rfl
theorem rW_size : (Try.prog.info? 69).map (·.size) = some 129 := by kernel_rfl
/-- What is read, of the first writes. -/
def blkOf (D : DS) (l : List (Nat × List UInt8)) (k : Int) : List UInt8 := match lastAt l k with
  | some i => (D.hangs.getD i (0, [])).2
  | none => D.lasts.getD k.toNat []
theorem blkOf_nil (D : DS) (k : Int) : blkOf D [] k = D.lasts.getD k.toNat [] := rfl
theorem take_one {α : Type} (l : List α) (k : Nat) (x : α) (h : l[k]? = some x) : l.take (k + 1) = l.take k ++ [x] := by
  have hk := (List.getElem?_eq_some_iff.1 h).1
  rw [List.take_succ_eq_append_getElem hk]
  congr 2
  exact (List.getElem?_eq_some_iff.1 h).2
theorem blkOf_hit (D : DS) (k : Nat) (x : Nat × List UInt8) (at' : Int) (h : D.hangs[k]? = some x) (hx : (x.1 : Int) = at') : blkOf D (D.hangs.take (k + 1)) at' = x.2 := by
  have hk := (List.getElem?_eq_some_iff.1 h).1
  unfold blkOf
  rw [take_one _ _ _ h, lastAt_snoc, if_pos hx, List.length_take, Nat.min_eq_left (by omega)]
  simp [List.getD, h]
theorem blkOf_miss (D : DS) (k : Nat) (x : Nat × List UInt8) (at' : Int) (h : D.hangs[k]? = some x) (hx : (x.1 : Int) ≠ at') : blkOf D (D.hangs.take (k + 1)) at' = blkOf D (D.hangs.take k) at' := by
  unfold blkOf
  rw [take_one _ _ _ h, lastAt_snoc, if_neg hx]
theorem blkOf_all (D : DS) (at' : Int) (n : Nat) (hn : D.hangs.length = n) : blkOf D (D.hangs.take n) at' = D.blk at' := by
  unfold blkOf DS.blk
  rw [List.take_of_length_le (by omega)]
  rfl
theorem blkOf_len (D : DS) (hD : D.ok) (l : List (Nat × List UInt8)) (at' : Int) (h0 : 0 ≤ at') (h1 : at' < (D.lasts.length : Nat)) (hl : ∀ i, lastAt l at' = some i → i < D.hangs.length) : (blkOf D l at').length = 128 := by
  unfold blkOf
  split
  · rename_i i hi
    have := hl i hi
    rw [List.getD_eq_getElem?_getD, List.getElem?_eq_getElem this]
    exact hD.blks _ (List.getElem_mem this)
  · exact getD_len hD.rows (by omega)
section
variable {L : Nat → Prop} {w w' : World} {p gl : Nat} {hv : Value} {D D' : DS}

set_option maxRecDepth 20000 in
set_option maxHeartbeats 1000000 in
theorem RRead_no (h : RefAt L w p gl hv D) (at' : Int) (hf : D.fault at' ≠ 0) :
    Calls Try.prog 25 #[.pointer (some ⟨p, 0, none⟩), .int .i64 at'] w fun e w' => e = .returned (.tuple #[blkV (D.read at'), .int .i64 (D.fault at')]) ∧ Below w.heap.size w w' := by
  have hz := (zero_of_info zB_info).1
  have B0 := (Below.refl w.heap.size w).alloc (Nat.le_refl _) (.cells zB.toArray 42)
  have h1 := h.below B0
  have r0 := Row.new w 42 zB
  have hfin : blkV (D.read at') = .agg zB.toArray := by unfold DS.read; rw [if_neg hf]; unfold blkV; rw [zB_eq]
  rw [hfin]
  have c0 := h1.row.cell 0
  have c4 := h1.row.cell 4
  simp only [List.getElem?_cons_zero, List.getElem?_cons_succ] at c0 c4
  obtain ⟨nl, hnl⟩ : ∃ nl, D.lasts.length = nl := ⟨_, rfl⟩
  rw [hnl] at c0
  have hD : (D.down = true ∧ D.fault at' = 13) ∨ (D.down = false ∧ D.fault at' = 2 ∧ (at' < 0 ∨ (nl : Int) ≤ at')) := by
    unfold DS.fault at hf ⊢
    cases hdn : D.down with
    | true => exact .inl ⟨rfl, by simp⟩
    | false =>
      rw [hdn] at hf
      simp only [Bool.false_eq_true, if_false] at hf ⊢
      split at hf
      · exact absurd rfl hf
      · rename_i hn
        exact .inr ⟨trivial, by rw [if_neg hn], by omega⟩
  have fin : Hid (∀ (tmps : Array Value) (dl : List (Value × Array Value)), True) := Lib.hid fun _ _ => trivial
  have HS := Lib.hid (And.intro B0 r0)
  clear h h1 hfin B0 r0 hf hnl fin
  rcases hD with ⟨hdn, hF⟩ | ⟨hdn, hF, hlow | hhigh⟩
  · rw [hF]
    rw [hdn] at c4
    clear hdn hF
    go_enter Try.func25, Try.ntmps25
    go_wp2_with (first
      | (refine wpList_store_row rfl 42 (.tmp 4) (.tmp 13) rfl w.heap.size zB.toArray rfl rfl 42 zB.toArray HS.out.2 (by kernel_rfl) rfl zB_one ?_))
    have hp := HS.out.2.put zB
    have hq := below_setRow (B := w.heap.size) HS.out.1 (Nat.le_refl _) zB.toArray
    exact bodyPost_ret (v := .tuple #[.agg zB.toArray, .int .i64 13]) (results_row_tmp rfl _ _ w.heap.size 42 zB.toArray (0, 0) _ rfl hp Try.underlying42 rfl (by kernel_rfl) _ rfl) rfl ⟨rfl, hq⟩
  · rw [hF]
    rw [hdn] at c4
    clear hdn hF
    go_enter Try.func25, Try.ntmps25
    go_wp2_with (first
      | (refine wpList_store_row rfl 42 (.tmp 4) (.tmp 25) rfl w.heap.size zB.toArray rfl rfl 42 zB.toArray HS.out.2 (by kernel_rfl) rfl zB_one ?_))
    have hp := HS.out.2.put zB
    have hq := below_setRow (B := w.heap.size) HS.out.1 (Nat.le_refl _) zB.toArray
    exact bodyPost_ret (v := .tuple #[.agg zB.toArray, .int .i64 2]) (results_row_tmp rfl _ _ w.heap.size 42 zB.toArray (0, 0) _ rfl hp Try.underlying42 rfl (by kernel_rfl) _ rfl) rfl ⟨rfl, hq⟩
  · rw [hF]
    rw [hdn] at c4
    have hlow : ¬ at' < 0 := by omega
    clear hdn hF
    go_enter Try.func25, Try.ntmps25
    go_wp2_with (first
      | (refine wpList_store_row rfl 42 (.tmp 4) (.tmp 25) rfl w.heap.size zB.toArray rfl rfl 42 zB.toArray HS.out.2 (by kernel_rfl) rfl zB_one ?_))
    have hp := HS.out.2.put zB
    have hq := below_setRow (B := w.heap.size) HS.out.1 (Nat.le_refl _) zB.toArray
    exact bodyPost_ret (v := .tuple #[.agg zB.toArray, .int .i64 2]) (results_row_tmp rfl _ _ w.heap.size 42 zB.toArray (0, 0) _ rfl hp Try.underlying42 rfl (by kernel_rfl) _ rfl) rfl ⟨rfl, hq⟩

/-- A write laid into a new block of its own. -/
structure CopyF (wr : World) (x : Nat × List UInt8) (WC : List Value) : Prop where
  eq : wcells x = WC
  size : (Try.prog.info? 69).map (·.size) = some WC.length
  one : WC.toArray.all (·.oneCell') = true
  len : WC.length = 129
  z129 : (Value.int IntKind.i64 0 :: zW).length = 129
  row0 : Row (wr.alloc (.cells (.int .i64 0 :: zW).toArray 69)) wr.heap.size 69 (.int .i64 0 :: zW)
  row : Row ((wr.alloc (.cells (.int .i64 0 :: zW).toArray 69)).setRow wr.heap.size WC.toArray) wr.heap.size 69 WC
  bel : Below wr.heap.size wr ((wr.alloc (.cells (.int .i64 0 :: zW).toArray 69)).setRow wr.heap.size WC.toArray)
theorem copyF (wr : World) (x : Nat × List UInt8) (hx : x.2.length = 128) : ∃ WC, CopyF wr x WC := by
  have rq0 := Row.new wr 69 (.int .i64 0 :: zW)
  refine ⟨wcells x, rfl, by rw [wcells_length hx]; exact rW_size, ?_, wcells_length hx, by simp [zW], rq0, rq0.put _, below_setRow (B := wr.heap.size) ((Below.refl wr.heap.size wr).alloc (Nat.le_refl _) _) (Nat.le_refl _) _⟩
  rw [Array.all_eq_true_iff_forall_mem]
  intro v hv
  have hv2 : v ∈ wcells x := by simpa using hv
  exact wcs_one [x] v (by simpa [wcs] using hv2)
/-- The k-th write, where its block is as it was. -/
theorem RefAt.nth {a : Option Addr} {n c : Nat} {wr : World} (h : RefAt L w p gl (.slice a n c) D) (k : Nat) (x : Nat × List UInt8) (hx : D.hangs[k]? = some x) (hk : ∀ g, g < w.heap.size → g ≠ gl → wr.heap[g]? = w.heap[g]?) :
    ∃ gh, a = some ⟨gh, 0, none⟩ ∧ wr.rangeAt gh (k * 129) (wcells x) := by
  obtain ⟨gh, rfl, hr, hne⟩ := h.hangWhole k x hx
  refine ⟨gh, rfl, fun j v hj => ?_⟩
  rw [World.cell?_of_block (hk gh (own_blk_lt h.han rfl) hne)]
  exact hr j v hj
/-- The loop's relation: what is read so far lies in the block g. -/
structure RdR (w : World) (g : Nat) (D : DS) (at' : Int) (k : Nat) (wr : World) : Prop where
  row : Row wr g 42 ((blkOf D (D.hangs.take k) at').map bv)
  res : Row wr w.heap.size 42 zB
  bel : Below w.heap.size w wr

set_option maxRecDepth 20000 in
set_option maxHeartbeats 1000000 in
theorem RRead_ok (h : RefAt L w p gl hv D) (at' : Int) (hf : D.fault at' = 0) (hh : D.hangs.length < 1000000000) :
    Calls Try.prog 25 #[.pointer (some ⟨p, 0, none⟩), .int .i64 at'] w fun e w' => e = .returned (.tuple #[blkV (D.read at'), .int .i64 (D.fault at')]) ∧ Below w.heap.size w w' := by
  have hz := (zero_of_info zB_info).1
  have hz9 := (zero_of_info rW_info).1
  obtain ⟨hdn, h0, h1'⟩ := fault_zero hf
  have h4096 := h.good.most
  obtain ⟨k0, rfl⟩ := Int.eq_ofNat_of_zero_le h0
  have hk0 : k0 < D.lasts.length := by omega
  obtain ⟨a, c, rfl⟩ := own_slice h.han
  have B0 := (Below.refl w.heap.size w).alloc (Nat.le_refl _) (.cells zB.toArray 42)
  have B1 := B0.alloc (by simp) (.cells zB.toArray 42)
  have r0 := Row.new w 42 zB
  have r1 := Row.new (w.alloc (.cells zB.toArray 42)) 42 zB
  have r01 := r0.alloc (.cells zB.toArray 42)
  have e1 : (w.alloc (.cells zB.toArray 42)).heap.size = w.heap.size + 1 := by simp
  rw [e1] at r1
  have h1 := h.below B0
  have hrng := h1.lastRange k0 hk0
  have hbl := getD_len h.good.rows hk0
  have hrd : D.read k0 = D.blk k0 := by unfold DS.read; rw [if_pos hf]
  obtain ⟨n, hn⟩ : ∃ n, D.hangs.length = n := ⟨_, rfl⟩
  obtain ⟨nl, hnl⟩ : ∃ nl, D.lasts.length = nl := ⟨_, rfl⟩
  obtain ⟨RC, HRC⟩ : ∃ RC, Hid (RC = [Value.slice (some ⟨gl, 0, none⟩) nl nl, .slice a n c, .int .i64 (D.steps : Nat), .int .i64 D.fuse, .bool false]) := ⟨_, Lib.hid rfl⟩
  have hrow : Row w p 36 RC := by have := h.row; rw [HRC.out, ← hn, ← hnl, ← hdn]; exact this
  have c0 := h1.row.cell 0
  have c4 := h1.row.cell 4
  simp only [List.getElem?_cons_zero, List.getElem?_cons_succ] at c0 c4
  rw [hnl] at c0
  rw [hdn] at c4
  obtain ⟨C, hC⟩ : ∃ C, (D.lasts.getD k0 []).map bv = C := ⟨_, rfl⟩
  have hsz := blk_size _ hbl
  have hone : C.toArray.all (·.oneCell') = true := by rw [← hC]; exact blkV_one _
  have hlen : C.length = 128 := by rw [← hC, List.length_map, hbl]
  rw [hC] at hrng hsz
  have HR := Lib.hid (And.intro hrng (And.intro hsz (And.intro hone (And.intro hlen r1))))
  have HAFT : Hid (RdR w (w.heap.size + 1) D k0 0 (((w.alloc (.cells zB.toArray 42)).alloc (.cells zB.toArray 42)).setRow (w.heap.size + 1) C.toArray)) := Lib.hid
    ⟨by rw [List.take_zero, blkOf_nil, Int.toNat_natCast, hC]; exact r1.put C, r01.put_far (by omega) _, below_setRow (B := w.heap.size) B1 (by omega) _⟩
  have hnI : (n : Int) < 1000000000 := by omega
  obtain ⟨Z, hZ⟩ : ∃ Z, zB = Z := ⟨_, rfl⟩
  have hZl : Z.length = 128 := by rw [← hZ]; exact zB_len
  rw [hZ] at hz HR HAFT c0 c4
  have HZ := Lib.hid (And.intro hZ hZl)
  have hk0I : (k0 : Int) < (nl : Int) := by omega
  have hk00 : ¬ (k0 : Int) < 0 := by omega
  have hge : ¬ (nl : Int) ≤ (k0 : Int) := by omega
  have H := Lib.hid (And.intro h (And.intro hn (And.intro hrow (And.intro hrd (And.intro hf (And.intro hk0 hnl))))))
  rw [hrd, hf]
  clear h h1 B0 B1 r0 r1 r01 e1 hrng hbl hC hsz hone hlen hrd hn hh hf hnl hrow h0 h1' h4096 hk0 hdn hZ hZl
  go_enter Try.func25, Try.ntmps25
  go_wp2_with (first
    | (with_reducible refine wpList_load_mid rfl 42 (.tmp 31) rfl gl (k0 * 128) rfl C _ HR.out.1 Try.underlying42 rfl HR.out.2.1 ?_)
    | (refine wpList_store_row rfl 42 (.tmp 6) (.tmp 32) rfl (w.heap.size + 1) C.toArray rfl rfl 42 Z.toArray HR.out.2.2.2.2 (by rw [List.size_toArray]; exact HR.out.2.1) (by rw [List.size_toArray, List.size_toArray, HZ.out.2, HR.out.2.2.2.1]) HR.out.2.2.1 ?_; have hAFT := HAFT.out; clear HAFT HR; generalize ((w.alloc (.cells Z.toArray 42)).alloc (.cells Z.toArray 42)).setRow (w.heap.size + 1) C.toArray = W2 at hAFT ⊢; have HAFT := Lib.hid hAFT; have c1 := (H.out.2.2.1.below hAFT.bel H.out.2.2.1.lt).cell 1; clear hAFT; simp only [HRC.out, List.getElem?_cons_zero, List.getElem?_cons_succ] at c1; clear c0 c4)
    | fail)
  go_loopw [38] (fun i wr => ∃ (k : Nat), k ≤ n ∧ i = .int .i64 k ∧ Hid (RdR w (w.heap.size + 1) D k0 k wr)) (fun i _ => n - (intOf i).toNat)
  case atStart => exact ⟨0, Nat.zero_le _, rfl, HAFT⟩
  case round =>
    obtain ⟨k, hkn, rfl, HREL⟩ := hrel
    by_cases hlt : k < n
    · have hh := H.out.1
      rw [H.out.2.1] at hh
      obtain ⟨x, hx⟩ : ∃ x, D.hangs[k]? = some x := ⟨_, List.getElem?_eq_getElem (by rw [H.out.2.1]; exact hlt)⟩
      have hxl := hh.good.blks x (List.mem_of_getElem? hx)
      obtain ⟨gh, rfl, hrng⟩ := hh.nth k x hx (wr := wr) (fun g hg _ => HREL.out.bel.block g hg)
      obtain ⟨WC, hF⟩ := copyF wr x hxl
      rw [hF.eq] at hrng
      obtain ⟨x1, hx1⟩ : ∃ x1, x.1 = x1 := ⟨_, rfl⟩
      obtain ⟨XC, hXC⟩ : ∃ XC, x.2.map bv = XC := ⟨_, rfl⟩
      have hWC : WC = .int .i64 (x1 : Nat) :: XC := by rw [← hF.eq, ← hx1, ← hXC]; rfl
      have hsz := blk_size _ hxl
      have hone := blkV_one x.2
      rw [hXC] at hsz hone
      have hltI : (k : Int) < (n : Int) := by omega
      have HW := Lib.hid (And.intro hrng hF)
      have HX := Lib.hid (And.intro hx (And.intro hx1 (And.intro hXC (And.intro hxl (And.intro hWC (And.intro hlt (And.intro hsz hone)))))))
      clear hh hx hxl hrng hF hWC hx1 hXC hlt hsz hone
      have HAF : Hid (Row ((wr.alloc (.cells (.int .i64 0 :: zW).toArray 69)).setRow wr.heap.size WC.toArray) wr.heap.size 69 WC ∧ Below wr.heap.size wr ((wr.alloc (.cells (.int .i64 0 :: zW).toArray 69)).setRow wr.heap.size WC.toArray)) := Lib.hid ⟨HW.out.2.row, HW.out.2.bel⟩
      have hz9w : ∀ W : World, (zeroValue 69).run Try.prog W = .ok (.agg (.int .i64 0 :: zW).toArray) W := hz9
      clear c1
      by_cases heq : (x1 : Int) = (k0 : Int)
      · have heqb : ((x1 : Int) == (k0 : Int)) = true := by simpa using heq
        have HQ := Lib.hid heq
        have HG6 : Hid (∀ W : World, Below wr.heap.size wr W → Row W wr.heap.size 69 WC → W.rangeAt wr.heap.size 1 XC ∧ Row W (w.heap.size + 1) 42 ((blkOf D (D.hangs.take k) k0).map bv) ∧ ((blkOf D (D.hangs.take k) k0).map bv).length = XC.length) := Lib.hid fun W hb hr => by
          refine ⟨fun j v hj => ?_, HREL.out.row.below hb HREL.out.row.lt, ?_⟩
          · rw [hr.cell, HX.out.2.2.2.2.1, Nat.add_comm 1 j, List.getElem?_cons_succ]
            exact hj
          · rw [List.length_map, ← HX.out.2.2.1, List.length_map, HX.out.2.2.2.1]
            exact blkOf_len D H.out.1.good _ _ (by omega) (by have := H.out.2.2.2.2.2.1; omega) (fun i hi => by have := lastAt_lt hi; rw [List.length_take] at this; omega)
        clear heq
        go_wp2_with (first
          | (with_reducible refine wpList_load_mid rfl 69 (.tmp 40) rfl gh (k * 129) rfl WC _ HW.out.1 Try.underlying69 rfl HW.out.2.size ?_)
          | (refine wpList_store_row rfl 69 (.tmp 8) (.tmp 41) rfl wr.heap.size WC.toArray rfl rfl 69 (Value.int IntKind.i64 0 :: zW).toArray HW.out.2.row0 (by rw [List.size_toArray]; exact HW.out.2.size) (by rw [List.size_toArray, List.size_toArray, HW.out.2.len, HW.out.2.z129]) HW.out.2.one ?_; have hAF := HAF.out; clear HAF; generalize (wr.alloc (.cells (.int .i64 0 :: zW).toArray 69)).setRow wr.heap.size WC.toArray = W3 at hAF ⊢; have HAF := Lib.hid hAF; have cq := hAF.1.cell 0; rw [HX.out.2.2.2.2.1] at cq; simp only [List.getElem?_cons_zero] at cq; clear hAF)
          | (with_reducible refine wpList_load_mid rfl 42 (.tmp 46) rfl wr.heap.size 1 rfl XC _ (HG6.out _ HAF.out.2 HAF.out.1).1 Try.underlying42 rfl HX.out.2.2.2.2.2.2.1 ?_)
          | (refine wpList_store_row rfl 42 (.tmp 6) (.tmp 47) rfl (w.heap.size + 1) XC.toArray rfl rfl 42 ((blkOf D (D.hangs.take k) k0).map bv).toArray (HG6.out _ HAF.out.2 HAF.out.1).2.1 (by rw [List.size_toArray]; exact HX.out.2.2.2.2.2.2.1) (by rw [List.size_toArray, List.size_toArray]; exact (HG6.out _ HAF.out.2 HAF.out.1).2.2) HX.out.2.2.2.2.2.2.2 ?_)
          | fail)
        have HFIN : Hid (RdR w (w.heap.size + 1) D k0 (k + 1) (W3.setRow (w.heap.size + 1) XC.toArray)) := Lib.hid (by
          have hs := HREL.out.bel.size
          have hr0 := (HG6.out _ HAF.out.2 HAF.out.1).2.1
          have hlt0 := HREL.out.row.lt
          refine ⟨?_, ?_, ?_⟩
          · rw [blkOf_hit D k x _ HX.out.1 (by rw [HX.out.2.1]; exact HQ.out), HX.out.2.2.1]
            exact hr0.put XC
          · exact (HREL.out.res.below HAF.out.2 HREL.out.res.lt).put_far (by omega) _
          · exact below_setRow (B := w.heap.size) (HREL.out.bel.trans (HAF.out.2.mono hs)) (by omega) _)
        have hlt := HX.out.2.2.2.2.2.1
        clear HAF cq
        go_wp2_with fail
        go_roundw
        case rel => exact ⟨k + 1, by omega, by go_num, HFIN⟩
        case measure => simp [intOf]; omega
      · have heqb : ((x1 : Int) == (k0 : Int)) = false := by simpa using heq
        have HQ := Lib.hid heq
        clear heq
        go_wp2_with (first
          | (with_reducible refine wpList_load_mid rfl 69 (.tmp 40) rfl gh (k * 129) rfl WC _ HW.out.1 Try.underlying69 rfl HW.out.2.size ?_)
          | (refine wpList_store_row rfl 69 (.tmp 8) (.tmp 41) rfl wr.heap.size WC.toArray rfl rfl 69 (Value.int IntKind.i64 0 :: zW).toArray HW.out.2.row0 (by rw [List.size_toArray]; exact HW.out.2.size) (by rw [List.size_toArray, List.size_toArray, HW.out.2.len, HW.out.2.z129]) HW.out.2.one ?_; have hAF := HAF.out; clear HAF; generalize (wr.alloc (.cells (.int .i64 0 :: zW).toArray 69)).setRow wr.heap.size WC.toArray = W3 at hAF ⊢; have HAF := Lib.hid hAF; have cq := hAF.1.cell 0; rw [HX.out.2.2.2.2.1] at cq; simp only [List.getElem?_cons_zero] at cq; clear hAF)
          | fail)
        have HFIN : Hid (RdR w (w.heap.size + 1) D k0 (k + 1) W3) := Lib.hid (by
          have hs := HREL.out.bel.size
          refine ⟨?_, HREL.out.res.below HAF.out.2 HREL.out.res.lt, HREL.out.bel.trans (HAF.out.2.mono hs)⟩
          rw [blkOf_miss D k x _ HX.out.1 (by rw [HX.out.2.1]; exact HQ.out)]
          exact HREL.out.row.below HAF.out.2 HREL.out.row.lt)
        have hlt := HX.out.2.2.2.2.2.1
        go_roundw
        case rel => exact ⟨k + 1, by omega, by go_num, HFIN⟩
        case measure => simp [intOf]; omega
    · have hke : k = n := by omega
      subst hke
      clear hlt c1
      obtain ⟨BC, hBC⟩ : ∃ BC, (D.blk k0).map bv = BC := ⟨_, rfl⟩
      have hb128 : (D.blk k0).length = 128 := by
        rw [← blkOf_all D k0 k H.out.2.1]
        exact blkOf_len D H.out.1.good _ _ (by omega) (by have := H.out.2.2.2.2.2.1; omega) (fun i hi => by have := lastAt_lt hi; rw [List.length_take] at this; omega)
      have hrow := HREL.out.row
      rw [blkOf_all D k0 k H.out.2.1, hBC] at hrow
      have hsz := blk_size _ hb128
      have hone := blkV_one (D.blk k0)
      rw [hBC] at hsz hone
      have hl : BC.length = 128 := by rw [← hBC, List.length_map, hb128]
      have hfin : blkV (D.blk k0) = .agg BC.toArray := by unfold blkV; rw [hBC]
      have HB : Hid (wr.rangeAt (w.heap.size + 1) 0 BC ∧ (Try.prog.info? 42).map (·.size) = some BC.length ∧ BC.toArray.all (·.oneCell') = true ∧ BC.length = 128 ∧ Row wr w.heap.size 42 Z ∧ blkV (D.blk k0) = .agg BC.toArray) := Lib.hid
        ⟨fun j v hj => by rw [Nat.zero_add, hrow.cell]; exact hj, hsz, hone, hl, by rw [← HZ.out.1]; exact HREL.out.res, hfin⟩
      clear hBC hb128 hrow hsz hone hl hfin
      go_wp2_with (first
        | (with_reducible refine wpList_load_mid rfl 42 (.tmp 6) rfl (w.heap.size + 1) 0 rfl BC _ HB.out.1 Try.underlying42 rfl HB.out.2.1 ?_)
        | (refine wpList_store_row rfl 42 (.tmp 4) (.tmp 49) rfl w.heap.size BC.toArray rfl rfl 42 Z.toArray HB.out.2.2.2.2.1 (by rw [List.size_toArray]; exact HB.out.2.1) (by rw [List.size_toArray, List.size_toArray, HZ.out.2, HB.out.2.2.2.1]) HB.out.2.2.1 ?_)
        | fail)
      have hp := HB.out.2.2.2.2.1.put BC
      have hq := below_setRow (B := w.heap.size) HREL.out.bel (Nat.le_refl _) BC.toArray
      rw [HB.out.2.2.2.2.2]
      exact bodyPost_ret (v := .tuple #[.agg BC.toArray, .int .i64 0]) (results_row_tmp rfl _ _ w.heap.size 42 BC.toArray (0, 0) _ rfl hp Try.underlying42 rfl (by rw [List.size_toArray]; exact HB.out.2.1) _ rfl) rfl ⟨rfl, hq⟩

theorem RRead_any (h : RefAt L w p gl hv D) (at' : Int) (hh : D.hangs.length < 1000000000) :
    Calls Try.prog 25 #[.pointer (some ⟨p, 0, none⟩), .int .i64 at'] w fun e w' => e = .returned (.tuple #[blkV (D.read at'), .int .i64 (D.fault at')]) ∧ Below w.heap.size w w' := by
  by_cases hf : D.fault at' = 0
  · exact RRead_ok h at' hf hh
  · exact RRead_no h at' hf
end
end Go.Proofs.Ytcecibopanfmgaa
