/- The document's disk synced. -/
import Derived.Test.YtcecibopanfmgaaQWrite
import Derived.Test.YtcecibopanfmgaaKSettle
namespace Go.Proofs.Ytcecibopanfmgaa
open Go.RowKit Go.Maps
set_option linter.unusedVariables false
set_option linter.unusedSimpArgs false

section
variable {L L' : Nat → Prop} {w w' : World} {p gl : Nat} {hv : Value} {D D' : DS}
theorem setAll_rows {l : List (Nat × List UInt8)} {M : List (List UInt8)} (hM : ∀ b ∈ M, b.length = 128) (hl : ∀ x ∈ l, x.2.length = 128) : ∀ b ∈ setAll l M, b.length = 128 := by
  induction l using snoc_ind with
  | h0 => exact hM
  | h1 l x ih =>
    rw [setAll_snoc]
    exact set_rows (ih (fun y hy => hl y (by simp [hy]))) _ _ (hl x (by simp))
/-- What lasts is another thing, all else is as it was. -/
theorem RefAt.lasting {w1 wr : World} {ls : List (List UInt8)} (hd1 : RefAt L w1 p gl hv D) (hgr : w1.grownBy wr (some gl)) (hrow : Row wr gl 42 (ls.flatten.map bv)) (hlen : ls.length = D.lasts.length) (h128 : ∀ b ∈ ls, b.length = 128) :
    RefAt L wr p gl hv { D with lasts := ls } := by
  have hg := hd1.good
  refine ⟨?_, hrow, own_kept hd1.han (fun q hq => hgr.block q (own_blk_lt hd1.han hq) (fun e => by injection e with e; subst e; exact hd1.ne_hl hq)), ⟨by rw [hlen]; exact hg.least, by rw [hlen]; exact hg.most, h128, by rw [hlen]; exact hg.sect, hg.blks, hg.fuse1, hg.fuse2⟩, hd1.fp, hd1.fl, hd1.fh⟩
  show Row wr p _ [.slice (some ⟨gl, 0, none⟩) ls.length ls.length, _, _, _, _]
  rw [hlen]
  exact (hgr.block p hd1.row.lt (fun e => hd1.ne_lp (by injection e with e; exact e.symm))).trans hd1.row
/-- Nothing hangs any more. -/
theorem RefAt.dropped (h : RefAt L w p gl hv D) : RefAt L (w.setCell ⟨p, 1, none⟩ (.slice none 0 0)) p gl (.slice none 0 0) { D with hangs := [] } := by
  have hg := h.good
  refine ⟨?_, (Below.heap_setCell _ _ _ _ (fun e => h.ne_lp e)).trans h.las, ⟨by simp [wcs_nil], .inl ⟨rfl, rfl⟩⟩, ⟨hg.least, hg.most, hg.rows, fun x hx => (by cases hx), fun x hx => (by cases hx), hg.fuse1, hg.fuse2⟩, h.fp, h.fl, fun g hg => by simp [Value.ownBlock] at hg⟩
  have := h.row.set 1 (.slice none 0 0)
  simpa using this

/-- The loop's relation: the first writes are done. -/
structure RyR (w : World) (gl : Nat) (D : DS) (k : Nat) (wr : World) : Prop where
  row : Row wr gl 42 ((setAll (D.hangs.take k) D.lasts).flatten.map bv)
  gr : w.grownBy wr (some gl)

set_option maxRecDepth 20000 in
set_option maxHeartbeats 1000000 in
theorem RSync_any (h : RefAt L w p gl hv D) (hs : D.steps < 1000000000) (hh : D.hangs.length < 1000000000) :
    Calls Try.prog 24 #[.pointer (some ⟨p, 0, none⟩)] w fun e w' => e = .returned (.int .i64 D.stepErr) ∧ RefIs L w' p D.synced ∧ Keeps L w w' := by
  have hz9 := (zero_of_info rW_info).1
  have c4 := h.row.cell 4
  simp only [List.getElem?_cons_zero, List.getElem?_cons_succ] at c4
  by_cases hdn : D.down = true
  · have hm : D.may = false := by unfold DS.may; rw [hdn]; simp
    have e1 : D.stepErr = 13 := by unfold DS.stepErr; rw [hm]; rfl
    have e2 : D.synced = D := by
      unfold DS.synced DS.stepped
      rw [if_neg (by rw [hm]; simp)]
      split
      · cases D; simp only at hdn; subst hdn; rfl
      · rfl
    rw [e1, e2]
    rw [hdn] at c4
    have H := Lib.hid h
    clear h hdn hm e1 e2 hs hh hz9
    go_enter Try.func24, Try.ntmps24
    go_wp2
    go_ret
    exact ⟨rfl, ⟨_, _, H.out⟩, Keeps.refl _ _⟩
  have hdn : D.down = false := by simpa using hdn
  rw [hdn] at c4
  have HST := Lib.hid (Rstep_any h hs hdn)
  by_cases hm : D.may = true
  · have e1 : D.stepErr = 0 := by unfold DS.stepErr; rw [hm]; rfl
    have e2 : D.synced = { D.stepped with lasts := D.settled, hangs := [] } := by unfold DS.synced; rw [if_pos hm]
    rw [hm] at HST
    rw [e1]
    obtain ⟨a, c, rfl⟩ := own_slice h.han
    obtain ⟨n, hn⟩ : ∃ n, D.hangs.length = n := ⟨_, rfl⟩
    have hnI : (n : Int) < 1000000000 := by omega
    have HN := Lib.hid (And.intro hn (And.intro e2 hh))
    have H := Lib.hid h
    clear h hm e1 e2 hs hh hdn hn
    go_enter Try.func24, Try.ntmps24
    go_wp2_with fail
    refine HST.out.mono ?_
    rintro e w1 ⟨rfl, hd1, hk1⟩
    have hnE : D.stepped.hangs.length = n := by rw [(stepped_same D).2, HN.out.1]
    have hset : D.settled = setAll D.stepped.hangs D.stepped.lasts := by rw [settled_all, (stepped_same D).1, (stepped_same D).2]
    have HSET := Lib.hid hset
    clear hset
    obtain ⟨E, HE⟩ : ∃ E, Hid (D.stepped = E) := ⟨_, Lib.hid rfl⟩
    rw [HE.out] at hnE hd1 HSET
    rw [HN.out.1] at hd1
    have c1 := hd1.row.cell 1
    simp only [List.getElem?_cons_zero, List.getElem?_cons_succ] at c1
    have HD := Lib.hid (And.intro hd1 (And.intro hk1 hnE))
    have HR0 : Hid (RyR w1 gl E 0 w1) := Lib.hid ⟨hd1.las, World.grownBy.refl w1 _⟩
    clear hd1 hk1 hnE c4 HST
    go_wp2_with fail
    go_loopw [19] (fun i wr => ∃ (k : Nat), k ≤ n ∧ i = .int .i64 k ∧ Hid (RyR w1 gl E k wr)) (fun i _ => n - (intOf i).toNat)
    case atStart => exact ⟨0, Nat.zero_le _, rfl, HR0⟩
    case round =>
      obtain ⟨k, hkn, rfl, HREL⟩ := hrel
      by_cases hlt : k < n
      · have hh := HD.out.1
        have hhn : E.hangs.length = n := HD.out.2.2
        obtain ⟨x, hx⟩ : ∃ x, E.hangs[k]? = some x := ⟨_, List.getElem?_eq_getElem (by rw [hhn]; exact hlt)⟩
        have hxl := hh.good.blks x (List.mem_of_getElem? hx)
        have hxs := hh.good.sect x (List.mem_of_getElem? hx)
        obtain ⟨gh, rfl, hrng⟩ := RefAt.nth (by rw [← hhn] at hh; exact hh) k x hx (wr := wr) (fun g hg hne => HREL.out.gr.block g hg (fun e => hne (by injection e)))
        obtain ⟨WC, hF⟩ := copyF wr x hxl
        rw [hF.eq] at hrng
        obtain ⟨x1, hx1⟩ : ∃ x1, x.1 = x1 := ⟨_, rfl⟩
        obtain ⟨XC, hXC⟩ : ∃ XC, x.2.map bv = XC := ⟨_, rfl⟩
        have hWC : WC = .int .i64 (x1 : Nat) :: XC := by rw [← hF.eq, ← hx1, ← hXC]; rfl
        have hsz := blk_size _ hxl
        have hone := blkV_one x.2
        have hXl : XC.length = 128 := by rw [← hXC, List.length_map, hxl]
        rw [hXC] at hsz hone
        obtain ⟨nl, hnl⟩ : ∃ nl, E.lasts.length = nl := ⟨_, rfl⟩
        rw [hnl, hx1] at hxs
        have hltI : (k : Int) < (n : Int) := by omega
        have hx1I : (x1 : Int) < (nl : Int) := by omega
        have hx10 : ¬ (x1 : Int) < 0 := by omega
        have hx1g : ¬ (nl : Int) ≤ (x1 : Int) := by omega
        have HW := Lib.hid (And.intro hrng hF)
        have HX := Lib.hid (And.intro hx (And.intro hx1 (And.intro hXC (And.intro hxl (And.intro hWC (And.intro hlt (And.intro hsz (And.intro hone hXl))))))))
        have HNL := Lib.hid hnl
        have HAF : Hid (Row ((wr.alloc (.cells (.int .i64 0 :: zW).toArray 69)).setRow wr.heap.size WC.toArray) wr.heap.size 69 WC ∧ Below wr.heap.size wr ((wr.alloc (.cells (.int .i64 0 :: zW).toArray 69)).setRow wr.heap.size WC.toArray)) := Lib.hid ⟨hF.row, hF.bel⟩
        clear hh hx hxl hxs hrng hF hWC hx1 hXC hlt hsz hone hXl hhn c1 hnl
        go_wp2_with (first
          | (with_reducible refine wpList_load_mid rfl 69 (.tmp 21) rfl gh (k * 129) rfl WC _ HW.out.1 Try.underlying69 rfl HW.out.2.size ?_)
          | (refine wpList_store_row rfl 69 (.tmp 4) (.tmp 22) rfl wr.heap.size WC.toArray rfl rfl 69 (Value.int IntKind.i64 0 :: zW).toArray HW.out.2.row0 (by rw [List.size_toArray]; exact HW.out.2.size) (by rw [List.size_toArray, List.size_toArray, HW.out.2.len, HW.out.2.z129]) HW.out.2.one ?_)
          | fail)
        have hAF := HAF.out
        generalize (wr.alloc (.cells (.int .i64 0 :: zW).toArray 69)).setRow wr.heap.size WC.toArray = W2 at hAF ⊢
        obtain ⟨q, hq⟩ : ∃ q, wr.heap.size = q := ⟨_, rfl⟩
        rw [hq] at hAF ⊢
        have hgr2 : w1.grownBy W2 (some gl) := HREL.out.gr.andThen (below_grow (by rw [hq]; exact hAF.2)) (fun j hj => by cases hj)
        have hrow2 : Row W2 gl 42 ((setAll (E.hangs.take k) E.lasts).flatten.map bv) := HREL.out.row.below hAF.2 (by rw [← hq]; exact HREL.out.row.lt)
        obtain ⟨RC, HRC⟩ : ∃ RC, Hid (RC = [Value.slice (some ⟨gl, 0, none⟩) nl nl, .slice (some ⟨gh, 0, none⟩) n c, .int .i64 (E.steps : Nat), .int .i64 E.fuse, .bool E.down]) := ⟨_, Lib.hid rfl⟩
        have hrp : Row W2 p 36 RC := by
          have h := (hgr2.block p HD.out.1.row.lt (fun e => HD.out.1.ne_lp (by injection e with e; exact e.symm))).trans HD.out.1.row
          rw [HNL.out] at h
          rw [HRC.out]
          exact h
        have h128 : ∀ b ∈ setAll (E.hangs.take k) E.lasts, b.length = 128 := setAll_rows HD.out.1.good.rows (fun x hx => HD.out.1.good.blks x (List.mem_of_mem_take hx))
        have hslen := setAll_len (E.hangs.take k) E.lasts
        have hfl := flat_length _ h128
        have hxb : x1 < nl := by omega
        have HS0 : Hid (Row W2.drew p 36 RC ∧ Row W2.drew q 69 WC) := Lib.hid ⟨hrp.drew, hAF.1.drew⟩
        have HW0 : Hid (WC[0]? = some (.int .i64 (x1 : Nat)) ∧ ∀ W : World, Row W q 69 WC → W.rangeAt q 1 XC) := Lib.hid ⟨by rw [HX.out.2.2.2.2.1]; rfl, fun W hW j v hj => by rw [hW.cell, HX.out.2.2.2.2.1, Nat.add_comm 1 j, List.getElem?_cons_succ]; exact hj⟩
        have HTH : Hid (W2.drew.there gl (x1 * 128) 128) := Lib.hid (row_there (Row.drew hrow2) (x1 * 128) 128 (by rw [List.length_map, hfl, hslen, HNL.out]; omega))
        have HFIN : Hid (RyR w1 gl E (k + 1) (W2.drew.setCells gl (x1 * 128) XC)) := Lib.hid (by
          have hsec := Row.sector (Row.drew hrow2) h128 x1 (by rw [hslen, HNL.out]; exact hxb) x.2 HX.out.2.2.2.1
          rw [HX.out.2.2.1] at hsec
          have hgd : w1.grownBy W2.drew (some gl) := ⟨hgr2.os, hgr2.tape, hgr2.output, hgr2.size, hgr2.block⟩
          refine ⟨?_, hgd.andThen (setCells_grown W2.drew gl (x1 * 128) XC) (fun j hj => .inr hj)⟩
          rw [take_one _ _ _ HX.out.1, setAll_snoc, HX.out.2.1]
          exact hsec)
        clear hAF hgr2 hrow2 hrp h128 hslen hfl hxb hq HAF
        refine wp_region_noPanic ?_
        refine region_held_last 9 (S := fun W => Row W p 36 RC ∧ Row W q 69 WC) (by kernel_rfl) (by kernel_rfl) rfl HS0.out (fun hHeld => ?_)
        simp only [List.take_succ_cons, List.take_zero]
        refine wpAnyH_take (i := 0) (oi := { dst := some 23, op := Op.move (Operand.tmp 0), type := 28, pos := "ref.go:77", after := #[], guard := none }) (v := ?vvs_0) rfl (by kernel_rfl) (by kernel_rfl) (by kernel_rfl) (fun _ _ _ h => h) (Or.inl ⟨by rfl, ?yys_0⟩) hHeld ?_
        case vvs_0 => exact .pointer (some ⟨p, 0, none⟩)
        case yys_0 =>
          intro W hS
          go_simp
        try simp only [Act.put, List.setIfInBounds_toArray, List.set_cons_zero, List.set_cons_succ]
        refine wpAnyH_take (i := 1) (oi := { dst := some 24, op := Op.nilCheck (Operand.tmp 23), type := 0, pos := "ref.go:77", after := #[{ on := 0, ground := Ground.data }], guard := none }) (v := ?vvs_1) rfl (by kernel_rfl) (by kernel_rfl) (by kernel_rfl) (fun _ _ _ h => h) (Or.inl ⟨by rfl, ?yys_1⟩) hHeld ?_
        case vvs_1 => exact .pointer (some ⟨p, 0, none⟩)
        case yys_1 =>
          intro W hS
          go_simp
        try simp only [Act.put, List.setIfInBounds_toArray, List.set_cons_zero, List.set_cons_succ]
        refine wpAnyH_take (i := 2) (oi := { dst := some 25, op := Op.fieldAddr 36 (Operand.tmp 24) 0, type := 0, pos := "ref.go:77", after := #[{ on := 1, ground := Ground.data }], guard := none }) (v := ?vvs_2) rfl (by kernel_rfl) (by kernel_rfl) (by kernel_rfl) (fun _ _ _ h => h) (Or.inl ⟨by rfl, ?yys_2⟩) hHeld ?_
        case vvs_2 => exact .pointer (some ⟨p, 0, none⟩)
        case yys_2 =>
          intro W hS
          go_simp
        try simp only [Act.put, List.setIfInBounds_toArray, List.set_cons_zero, List.set_cons_succ]
        refine wpAnyH_take (i := 3) (oi := { dst := some 26, op := Op.load 33 (Operand.tmp 25), type := 33, pos := "ref.go:77", after := #[{ on := 2, ground := Ground.data }], guard := none }) (v := ?vvs_3) rfl (by kernel_rfl) (by kernel_rfl) (by kernel_rfl) (fun _ _ _ h => h) (Or.inl ⟨by rfl, ?yys_3⟩) hHeld ?_
        case vvs_3 => exact .slice (some ⟨gl, 0, none⟩) nl nl
        case yys_3 =>
          intro W hS
          obtain ⟨s1, s2⟩ := hS
          have q0 := s1.cell 0
          simp only [HRC.out, List.getElem?_cons_zero] at q0
          go_simp
        try simp only [Act.put, List.setIfInBounds_toArray, List.set_cons_zero, List.set_cons_succ]
        refine wpAnyH_take (i := 4) (oi := { dst := some 27, op := Op.fieldAddr 69 (Operand.tmp 4) 0, type := 0, pos := "ref.go:77", after := #[], guard := none }) (v := ?vvs_4) rfl (by kernel_rfl) (by kernel_rfl) (by kernel_rfl) (fun _ _ _ h => h) (Or.inl ⟨by rfl, ?yys_4⟩) hHeld ?_
        case vvs_4 => exact .pointer (some ⟨q, 0, none⟩)
        case yys_4 =>
          intro W hS
          go_simp
        try simp only [Act.put, List.setIfInBounds_toArray, List.set_cons_zero, List.set_cons_succ]
        refine wpAnyH_take (i := 5) (oi := { dst := some 28, op := Op.load 3 (Operand.tmp 27), type := 3, pos := "ref.go:77", after := #[{ on := 4, ground := Ground.data }], guard := none }) (v := ?vvs_5) rfl (by kernel_rfl) (by kernel_rfl) (by kernel_rfl) (fun _ _ _ h => h) (Or.inl ⟨by rfl, ?yys_5⟩) hHeld ?_
        case vvs_5 => exact .int .i64 (x1 : Nat)
        case yys_5 =>
          intro W hS
          obtain ⟨s1, s2⟩ := hS
          have q0 := s2.cell 0
          rw [HW0.out.1] at q0
          go_simp
        try simp only [Act.put, List.setIfInBounds_toArray, List.set_cons_zero, List.set_cons_succ]
        refine wpAnyH_take (i := 6) (oi := { dst := some 29, op := Op.fieldAddr 69 (Operand.tmp 4) 1, type := 0, pos := "ref.go:77", after := #[], guard := none }) (v := ?vvs_6) rfl (by kernel_rfl) (by kernel_rfl) (by kernel_rfl) (fun _ _ _ h => h) (Or.inl ⟨by rfl, ?yys_6⟩) hHeld ?_
        case vvs_6 => exact .pointer (some ⟨q, 1, none⟩)
        case yys_6 =>
          intro W hS
          go_simp
        try simp only [Act.put, List.setIfInBounds_toArray, List.set_cons_zero, List.set_cons_succ]
        refine' wpAnyH_take (i := 7) (oi := { dst := some 30, op := Op.load 42 (Operand.tmp 29), type := 42, pos := "ref.go:77", after := #[{ on := 6, ground := Ground.data }], guard := none }) (v := _) rfl (by kernel_rfl) (by kernel_rfl) (by kernel_rfl) (fun _ _ _ h => h) (yieldsIf_load_mid (by rfl) _ _ rfl q 1 rfl XC _ (fun W h => HW0.out.2 W h.2) Try.underlying42 rfl HX.out.2.2.2.2.2.2.1) hHeld ?_
        try simp only [Act.put, List.setIfInBounds_toArray, List.set_cons_zero, List.set_cons_succ]
        refine wpAnyH_take (i := 8) (oi := { dst := some 31, op := Op.indexAddr 33 (Operand.tmp 26) (Operand.tmp 28), type := 0, pos := "ref.go:77", after := #[{ on := 3, ground := Ground.data }, { on := 5, ground := Ground.data }, { on := 0, ground := Ground.phase }, { on := 1, ground := Ground.phase }, { on := 2, ground := Ground.phase }, { on := 3, ground := Ground.phase }, { on := 4, ground := Ground.phase }, { on := 5, ground := Ground.phase }, { on := 6, ground := Ground.phase }, { on := 7, ground := Ground.phase }], guard := none }) (v := ?vvs_8) rfl (by kernel_rfl) (by kernel_rfl) (by kernel_rfl) (fun _ _ _ h => h) (Or.inl ⟨by rfl, ?yys_8⟩) hHeld ?_
        case vvs_8 => exact .pointer (some ⟨gl, x1 * 128, none⟩)
        case yys_8 =>
          intro W hS
          go_simp
        try simp only [Act.put, List.setIfInBounds_toArray, List.set_cons_zero, List.set_cons_succ]
        refine wpAnyH_done (by kernel_rfl) ?_ _
        show wpList _ _ _ [_] _ _
        refine wpList_store_mid rfl 42 (.tmp 31) (.tmp 30) rfl gl (x1 * 128) XC.toArray rfl rfl (by rw [List.size_toArray, HX.out.2.2.2.2.2.2.2.2]; exact HTH.out) (by rw [List.size_toArray]; exact HX.out.2.2.2.2.2.2.1) HX.out.2.2.2.2.2.2.2.1 ?_
        show NoPanic _ Exit.normal _ _
        refine NoPanic.normal ?_
        go_wp2_with fail
        have hlt := HX.out.2.2.2.2.2.1
        try simp only [Act.put, List.setIfInBounds_toArray, List.set_cons_zero, List.set_cons_succ, List.toList_toArray]
        go_roundw
        case rel => exact ⟨k + 1, by omega, by go_num, HFIN⟩
        case measure => simp [intOf]; omega
      · have hke : k = n := by omega
        subst hke
        have HZ : Hid (RefAt L wr p gl (.slice a k c) { E with lasts := setAll E.hangs E.lasts }) := Lib.hid (by
          have h := HREL.out.row
          rw [List.take_of_length_le (by rw [HD.out.2.2]; exact Nat.le_refl _)] at h
          exact HD.out.1.lasting HREL.out.gr h (setAll_len _ _) (setAll_rows HD.out.1.good.rows HD.out.1.good.blks))
        have c1 := HZ.out.row.cell 1
        have f1 := HZ.out.row.frozen 1
        simp only [List.getElem?_cons_zero, List.getElem?_cons_succ] at c1
        clear hlt
        go_wp2
        go_ret
        have hd := HZ.out.dropped
        rw [HN.out.2.1, HSET.out, HE.out]
        exact ⟨rfl, ⟨_, _, hd⟩, (HD.out.2.1.grown HREL.out.gr (fun q hq => by injection hq with hq; subst hq; exact .inl HD.out.1.fl)).setCell (p := ⟨p, 1, none⟩) (.inl HD.out.1.fp) _⟩
  · have hmf : D.may = false := by simpa using hm
    have e1 : D.stepErr = 13 := by unfold DS.stepErr; rw [hmf]; rfl
    have e2 : D.synced = D.stepped := by unfold DS.synced; rw [if_neg hm]
    rw [hmf] at HST
    rw [e1, e2]
    clear hm hmf e1 e2 h hs hh hdn
    go_enter Try.func24, Try.ntmps24
    go_wp2_with fail
    refine HST.out.mono ?_
    rintro e w1 ⟨rfl, hd1, hk1⟩
    have HD := Lib.hid (And.intro hd1 hk1)
    clear hd1 hk1 c4
    go_wp2
    go_ret
    exact ⟨rfl, ⟨_, _, HD.out.1⟩, HD.out.2⟩
end
end Go.Proofs.Ytcecibopanfmgaa
