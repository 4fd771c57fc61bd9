/- The walk of StoreApart. (In one text with what it leans on: QSync, QCrash, KActs2, QPair, QDo, QSame, StText, StDo, StGo, StFail, ShelfT, LBytes, LWipe, LOpen, StOpen, LPl2, Awk, Awk5, LAwk, LNil, StAwk, StLight, StCome, StoreApartW.) -/
import Derived.SizedLaws
import Derived.Shelf.Strings.Trim
import Derived.Below
import Derived.WalkKit
import Derived.RangeFuncBox
import Derived.Maps.AppendAt
import Derived.WalkSpells
import Derived.WalkLawsBesides
import Derived.Lib.Hide
import Derived.Deep.QuietTactic
import Derived.BigQuiet
import Derived.ProofKit
import Derived.OpenShut
import Derived.ShutString
import Derived.Deep.DeepHandedRow
import Derived.Deep.Slices
import Derived.Deep.Strs
import Derived.Test.YtiaaeniopjpfpaaGreatDoorStoreApartAll1
import Derived.Test.YtiaaeniopjpfpaaGreatDoorKFill
import Derived.Test.YtiaaeniopjpfpaaGreatDoorKActs
import Derived.Test.YtiaaeniopjpfpaaGreatDoorKLoop
import Derived.Test.YtiaaeniopjpfpaaGreatDoorKEq
import Derived.Test.YtiaaeniopjpfpaaGreatDoorKQuiet
import Derived.Test.YtiaaeniopjpfpaaGreatDoorProg
import Derived.Test.YtiaaeniopjpfpaaGreatDoorKColl
import Derived.Test.YtiaaeniopjpfpaaGreatDoorRows
import Derived.Test.YtiaaeniopjpfpaaGreatDoorPlain
import Derived.Test.YtiaaeniopjpfpaaGreatDoorMem
import Derived.Test.YtiaaeniopjpfpaaGreatDoorPut
import Derived.Test.YtiaaeniopjpfpaaGreatDoorCsum
import Derived.Test.YtiaaeniopjpfpaaGreatDoorSText
import Derived.Test.YtiaaeniopjpfpaaGreatDoorKAwk
namespace Go.Proofs.YtiaaeniopjpfpaaGreatDoor
open Go.RowKit Go.Maps
set_option linter.unusedVariables false
set_option linter.unusedSimpArgs false

section
variable {L L' : Nat → Prop} {w w' : World} {p gl : Nat} {hv : Value} {D D' : DS}
theorem setAll_rows {l : List (Nat × List UInt8)} {M : List (List UInt8)} (hM : ∀ b ∈ M, b.length = 128) (hl : ∀ x ∈ l, x.2.length = 128) : ∀ b ∈ setAll l M, b.length = 128 := by
  induction l using snoc_ind with
  | h0 => exact hM
  | h1 l x ih =>
    rw [setAll_snoc]
    exact set_rows (ih (fun y hy => hl y (by simp [hy]))) _ _ (hl x (by simp))
/-- What lasts is another thing, all else is as it was. -/
theorem RefAt.lasting {w1 wr : World} {ls : List (List UInt8)} (hd1 : RefAt L w1 p gl hv D) (hgr : w1.grownBy wr (some gl)) (hrow : Row wr gl 90 (ls.flatten.map bv)) (hlen : ls.length = D.lasts.length) (h128 : ∀ b ∈ ls, b.length = 128) :
    RefAt L wr p gl hv { D with lasts := ls } := by
  have hg := hd1.good
  refine ⟨?_, hrow, own_kept hd1.han (fun q hq => hgr.block q (own_blk_lt hd1.han hq) (fun e => by injection e with e; subst e; exact hd1.ne_hl hq)), ⟨by rw [hlen]; exact hg.least, by rw [hlen]; exact hg.most, h128, by rw [hlen]; exact hg.sect, hg.blks, hg.fuse1, hg.fuse2⟩, hd1.fp, hd1.fl, hd1.fh⟩
  show Row wr p _ [.slice (some ⟨gl, 0, none⟩) ls.length ls.length, _, _, _, _]
  rw [hlen]
  exact (hgr.block p hd1.row.lt (fun e => hd1.ne_lp (by injection e with e; exact e.symm))).trans hd1.row
/-- Nothing hangs any more. -/
theorem RefAt.dropped (h : RefAt L w p gl hv D) : RefAt L (w.setCell ⟨p, 1, none⟩ (.slice none 0 0)) p gl (.slice none 0 0) { D with hangs := [] } := by
  have hg := h.good
  refine ⟨?_, (Below.heap_setCell _ _ _ _ (fun e => h.ne_lp e)).trans h.las, ⟨by simp [wcs_nil], .inl ⟨rfl, rfl⟩⟩, ⟨hg.least, hg.most, hg.rows, fun x hx => (by cases hx), fun x hx => (by cases hx), hg.fuse1, hg.fuse2⟩, h.fp, h.fl, fun g hg => by simp [Value.ownBlock] at hg⟩
  have := h.row.set 1 (.slice none 0 0)
  simpa using this

/-- The loop's relation: the first writes are done. -/
structure RyR (w : World) (gl : Nat) (D : DS) (k : Nat) (wr : World) : Prop where
  row : Row wr gl 90 ((setAll (D.hangs.take k) D.lasts).flatten.map bv)
  gr : w.grownBy wr (some gl)

set_option maxRecDepth 20000 in
set_option maxHeartbeats 1000000 in
theorem RSync_any (h : RefAt L w p gl hv D) (hs : D.steps < 1000000000) (hh : D.hangs.length < 1000000000) :
    Calls Tryz.prog 51 #[.pointer (some ⟨p, 0, none⟩)] w fun e w' => e = .returned (.int .i64 D.stepErr) ∧ RefIs L w' p D.synced ∧ Keeps L w w' := by
  have hz9 := (zero_of_info rW_info).1
  have c4 := h.row.cell 4
  simp only [List.getElem?_cons_zero, List.getElem?_cons_succ] at c4
  by_cases hdn : D.down = true
  · have hm : D.may = false := by unfold DS.may; rw [hdn]; simp
    have e1 : D.stepErr = 13 := by unfold DS.stepErr; rw [hm]; rfl
    have e2 : D.synced = D := by
      unfold DS.synced DS.stepped
      rw [if_neg (by rw [hm]; simp)]
      split
      · cases D; simp only at hdn; subst hdn; rfl
      · rfl
    rw [e1, e2]
    rw [hdn] at c4
    have H := Lib.hid h
    clear h hdn hm e1 e2 hs hh hz9
    go_enter Tryz.func51, Tryz.ntmps51
    go_wp2
    go_ret
    exact ⟨rfl, ⟨_, _, H.out⟩, Keeps.refl _ _⟩
  have hdn : D.down = false := by simpa using hdn
  rw [hdn] at c4
  have HST := Lib.hid (Rstep_any h hs hdn)
  by_cases hm : D.may = true
  · have e1 : D.stepErr = 0 := by unfold DS.stepErr; rw [hm]; rfl
    have e2 : D.synced = { D.stepped with lasts := D.settled, hangs := [] } := by unfold DS.synced; rw [if_pos hm]
    rw [hm] at HST
    rw [e1]
    obtain ⟨a, c, rfl⟩ := own_slice h.han
    obtain ⟨n, hn⟩ : ∃ n, D.hangs.length = n := ⟨_, rfl⟩
    have hnI : (n : Int) < 1000000000 := by omega
    have HN := Lib.hid (And.intro hn (And.intro e2 hh))
    have H := Lib.hid h
    clear h hm e1 e2 hs hh hdn hn
    go_enter Tryz.func51, Tryz.ntmps51
    go_wp2_with fail
    refine HST.out.mono ?_
    rintro e w1 ⟨rfl, hd1, hk1⟩
    have hnE : D.stepped.hangs.length = n := by rw [(stepped_same D).2, HN.out.1]
    have hset : D.settled = setAll D.stepped.hangs D.stepped.lasts := by rw [settled_all, (stepped_same D).1, (stepped_same D).2]
    have HSET := Lib.hid hset
    clear hset
    obtain ⟨E, HE⟩ : ∃ E, Hid (D.stepped = E) := ⟨_, Lib.hid rfl⟩
    rw [HE.out] at hnE hd1 HSET
    rw [HN.out.1] at hd1
    have c1 := hd1.row.cell 1
    simp only [List.getElem?_cons_zero, List.getElem?_cons_succ] at c1
    have HD := Lib.hid (And.intro hd1 (And.intro hk1 hnE))
    have HR0 : Hid (RyR w1 gl E 0 w1) := Lib.hid ⟨hd1.las, World.grownBy.refl w1 _⟩
    clear hd1 hk1 hnE c4 HST
    go_wp2_with fail
    go_loopw [19] (fun i wr => ∃ (k : Nat), k ≤ n ∧ i = .int .i64 k ∧ Hid (RyR w1 gl E k wr)) (fun i _ => n - (intOf i).toNat)
    case atStart => exact ⟨0, Nat.zero_le _, rfl, HR0⟩
    case round =>
      obtain ⟨k, hkn, rfl, HREL⟩ := hrel
      by_cases hlt : k < n
      · have hh := HD.out.1
        have hhn : E.hangs.length = n := HD.out.2.2
        obtain ⟨x, hx⟩ : ∃ x, E.hangs[k]? = some x := ⟨_, List.getElem?_eq_getElem (by rw [hhn]; exact hlt)⟩
        have hxl := hh.good.blks x (List.mem_of_getElem? hx)
        have hxs := hh.good.sect x (List.mem_of_getElem? hx)
        obtain ⟨gh, rfl, hrng⟩ := RefAt.nth (by rw [← hhn] at hh; exact hh) k x hx (wr := wr) (fun g hg hne => HREL.out.gr.block g hg (fun e => hne (by injection e)))
        obtain ⟨WC, hF⟩ := copyF wr x hxl
        rw [hF.eq] at hrng
        obtain ⟨x1, hx1⟩ : ∃ x1, x.1 = x1 := ⟨_, rfl⟩
        obtain ⟨XC, hXC⟩ : ∃ XC, x.2.map bv = XC := ⟨_, rfl⟩
        have hWC : WC = .int .i64 (x1 : Nat) :: XC := by rw [← hF.eq, ← hx1, ← hXC]; rfl
        have hsz := blk_sizeK _ hxl
        have hone := blkV_one x.2
        have hXl : XC.length = 128 := by rw [← hXC, List.length_map, hxl]
        rw [hXC] at hsz hone
        obtain ⟨nl, hnl⟩ : ∃ nl, E.lasts.length = nl := ⟨_, rfl⟩
        rw [hnl, hx1] at hxs
        have hltI : (k : Int) < (n : Int) := by omega
        have hx1I : (x1 : Int) < (nl : Int) := by omega
        have hx10 : ¬ (x1 : Int) < 0 := by omega
        have hx1g : ¬ (nl : Int) ≤ (x1 : Int) := by omega
        have HW := Lib.hid (And.intro hrng hF)
        have HX := Lib.hid (And.intro hx (And.intro hx1 (And.intro hXC (And.intro hxl (And.intro hWC (And.intro hlt (And.intro hsz (And.intro hone hXl))))))))
        have HNL := Lib.hid hnl
        have HAF : Hid (Row ((wr.alloc (.cells (.int .i64 0 :: zW).toArray 136)).setRow wr.heap.size WC.toArray) wr.heap.size 136 WC ∧ Below wr.heap.size wr ((wr.alloc (.cells (.int .i64 0 :: zW).toArray 136)).setRow wr.heap.size WC.toArray)) := Lib.hid ⟨hF.row, hF.bel⟩
        clear hh hx hxl hxs hrng hF hWC hx1 hXC hlt hsz hone hXl hhn c1 hnl
        go_wp2_with (first
          | (with_reducible refine wpList_load_mid rfl 136 (.tmp 21) rfl gh (k * 129) rfl WC _ HW.out.1 Tryz.underlying136 rfl HW.out.2.size ?_)
          | (refine wpList_store_row rfl 136 (.tmp 4) (.tmp 22) rfl wr.heap.size WC.toArray rfl rfl 136 (Value.int IntKind.i64 0 :: zW).toArray HW.out.2.row0 (by rw [List.size_toArray]; exact HW.out.2.size) (by rw [List.size_toArray, List.size_toArray, HW.out.2.len, HW.out.2.z129]) HW.out.2.one ?_)
          | fail)
        have hAF := HAF.out
        generalize (wr.alloc (.cells (.int .i64 0 :: zW).toArray 136)).setRow wr.heap.size WC.toArray = W2 at hAF ⊢
        obtain ⟨q, hq⟩ : ∃ q, wr.heap.size = q := ⟨_, rfl⟩
        rw [hq] at hAF ⊢
        have hgr2 : w1.grownBy W2 (some gl) := HREL.out.gr.andThen (below_grow (by rw [hq]; exact hAF.2)) (fun j hj => by cases hj)
        have hrow2 : Row W2 gl 90 ((setAll (E.hangs.take k) E.lasts).flatten.map bv) := HREL.out.row.below hAF.2 (by rw [← hq]; exact HREL.out.row.lt)
        obtain ⟨RC, HRC⟩ : ∃ RC, Hid (RC = [Value.slice (some ⟨gl, 0, none⟩) nl nl, .slice (some ⟨gh, 0, none⟩) n c, .int .i64 (E.steps : Nat), .int .i64 E.fuse, .bool E.down]) := ⟨_, Lib.hid rfl⟩
        have hrp : Row W2 p 45 RC := by
          have h := (hgr2.block p HD.out.1.row.lt (fun e => HD.out.1.ne_lp (by injection e with e; exact e.symm))).trans HD.out.1.row
          rw [HNL.out] at h
          rw [HRC.out]
          exact h
        have h128 : ∀ b ∈ setAll (E.hangs.take k) E.lasts, b.length = 128 := setAll_rows HD.out.1.good.rows (fun x hx => HD.out.1.good.blks x (List.mem_of_mem_take hx))
        have hslen := setAll_len (E.hangs.take k) E.lasts
        have hfl := flat_length _ h128
        have hxb : x1 < nl := by omega
        have HS0 : Hid (Row W2.drew p 45 RC ∧ Row W2.drew q 136 WC) := Lib.hid ⟨hrp.drew, hAF.1.drew⟩
        have HW0 : Hid (WC[0]? = some (.int .i64 (x1 : Nat)) ∧ ∀ W : World, Row W q 136 WC → W.rangeAt q 1 XC) := Lib.hid ⟨by rw [HX.out.2.2.2.2.1]; rfl, fun W hW j v hj => by rw [hW.cell, HX.out.2.2.2.2.1, Nat.add_comm 1 j, List.getElem?_cons_succ]; exact hj⟩
        have HTH : Hid (W2.drew.there gl (x1 * 128) 128) := Lib.hid (row_thereK (Row.drew hrow2) (x1 * 128) 128 (by rw [List.length_map, hfl, hslen, HNL.out]; omega))
        have HFIN : Hid (RyR w1 gl E (k + 1) (W2.drew.setCells gl (x1 * 128) XC)) := Lib.hid (by
          have hsec := Row.sector (Row.drew hrow2) h128 x1 (by rw [hslen, HNL.out]; exact hxb) x.2 HX.out.2.2.2.1
          rw [HX.out.2.2.1] at hsec
          have hgd : w1.grownBy W2.drew (some gl) := ⟨hgr2.os, hgr2.tape, hgr2.output, hgr2.size, hgr2.block⟩
          refine ⟨?_, hgd.andThen (setCells_grown W2.drew gl (x1 * 128) XC) (fun j hj => .inr hj)⟩
          rw [take_one _ _ _ HX.out.1, setAll_snoc, HX.out.2.1]
          exact hsec)
        clear hAF hgr2 hrow2 hrp h128 hslen hfl hxb hq HAF
        refine wp_region_noPanic ?_
        refine region_held_last 9 (S := fun W => Row W p 45 RC ∧ Row W q 136 WC) (by kernel_rfl) (by kernel_rfl) rfl HS0.out (fun hHeld => ?_)
        simp only [List.take_succ_cons, List.take_zero]
        refine wpAnyH_take (i := 0) (oi := { dst := some 23, op := Op.move (Operand.tmp 0), type := 28, pos := "ref.go:77", after := #[], guard := none }) (v := ?vvs_0) rfl (by kernel_rfl) (by kernel_rfl) (by kernel_rfl) (fun _ _ _ h => h) (Or.inl ⟨by rfl, ?yys_0⟩) hHeld ?_
        case vvs_0 => exact .pointer (some ⟨p, 0, none⟩)
        case yys_0 =>
          intro W hS
          go_simp
        try simp only [Act.put, List.setIfInBounds_toArray, List.set_cons_zero, List.set_cons_succ]
        refine wpAnyH_take (i := 1) (oi := { dst := some 24, op := Op.nilCheck (Operand.tmp 23), type := 0, pos := "ref.go:77", after := #[{ on := 0, ground := Ground.data }], guard := none }) (v := ?vvs_1) rfl (by kernel_rfl) (by kernel_rfl) (by kernel_rfl) (fun _ _ _ h => h) (Or.inl ⟨by rfl, ?yys_1⟩) hHeld ?_
        case vvs_1 => exact .pointer (some ⟨p, 0, none⟩)
        case yys_1 =>
          intro W hS
          go_simp
        try simp only [Act.put, List.setIfInBounds_toArray, List.set_cons_zero, List.set_cons_succ]
        refine wpAnyH_take (i := 2) (oi := { dst := some 25, op := Op.fieldAddr 45 (Operand.tmp 24) 0, type := 0, pos := "ref.go:77", after := #[{ on := 1, ground := Ground.data }], guard := none }) (v := ?vvs_2) rfl (by kernel_rfl) (by kernel_rfl) (by kernel_rfl) (fun _ _ _ h => h) (Or.inl ⟨by rfl, ?yys_2⟩) hHeld ?_
        case vvs_2 => exact .pointer (some ⟨p, 0, none⟩)
        case yys_2 =>
          intro W hS
          go_simp
        try simp only [Act.put, List.setIfInBounds_toArray, List.set_cons_zero, List.set_cons_succ]
        refine wpAnyH_take (i := 3) (oi := { dst := some 26, op := Op.load 42 (Operand.tmp 25), type := 42, pos := "ref.go:77", after := #[{ on := 2, ground := Ground.data }], guard := none }) (v := ?vvs_3) rfl (by kernel_rfl) (by kernel_rfl) (by kernel_rfl) (fun _ _ _ h => h) (Or.inl ⟨by rfl, ?yys_3⟩) hHeld ?_
        case vvs_3 => exact .slice (some ⟨gl, 0, none⟩) nl nl
        case yys_3 =>
          intro W hS
          obtain ⟨s1, s2⟩ := hS
          have q0 := s1.cell 0
          simp only [HRC.out, List.getElem?_cons_zero] at q0
          go_simp
        try simp only [Act.put, List.setIfInBounds_toArray, List.set_cons_zero, List.set_cons_succ]
        refine wpAnyH_take (i := 4) (oi := { dst := some 27, op := Op.fieldAddr 136 (Operand.tmp 4) 0, type := 0, pos := "ref.go:77", after := #[], guard := none }) (v := ?vvs_4) rfl (by kernel_rfl) (by kernel_rfl) (by kernel_rfl) (fun _ _ _ h => h) (Or.inl ⟨by rfl, ?yys_4⟩) hHeld ?_
        case vvs_4 => exact .pointer (some ⟨q, 0, none⟩)
        case yys_4 =>
          intro W hS
          go_simp
        try simp only [Act.put, List.setIfInBounds_toArray, List.set_cons_zero, List.set_cons_succ]
        refine wpAnyH_take (i := 5) (oi := { dst := some 28, op := Op.load 3 (Operand.tmp 27), type := 3, pos := "ref.go:77", after := #[{ on := 4, ground := Ground.data }], guard := none }) (v := ?vvs_5) rfl (by kernel_rfl) (by kernel_rfl) (by kernel_rfl) (fun _ _ _ h => h) (Or.inl ⟨by rfl, ?yys_5⟩) hHeld ?_
        case vvs_5 => exact .int .i64 (x1 : Nat)
        case yys_5 =>
          intro W hS
          obtain ⟨s1, s2⟩ := hS
          have q0 := s2.cell 0
          rw [HW0.out.1] at q0
          go_simp
        try simp only [Act.put, List.setIfInBounds_toArray, List.set_cons_zero, List.set_cons_succ]
        refine wpAnyH_take (i := 6) (oi := { dst := some 29, op := Op.fieldAddr 136 (Operand.tmp 4) 1, type := 0, pos := "ref.go:77", after := #[], guard := none }) (v := ?vvs_6) rfl (by kernel_rfl) (by kernel_rfl) (by kernel_rfl) (fun _ _ _ h => h) (Or.inl ⟨by rfl, ?yys_6⟩) hHeld ?_
        case vvs_6 => exact .pointer (some ⟨q, 1, none⟩)
        case yys_6 =>
          intro W hS
          go_simp
        try simp only [Act.put, List.setIfInBounds_toArray, List.set_cons_zero, List.set_cons_succ]
        refine' wpAnyH_take (i := 7) (oi := { dst := some 30, op := Op.load 90 (Operand.tmp 29), type := 90, pos := "ref.go:77", after := #[{ on := 6, ground := Ground.data }], guard := none }) (v := _) rfl (by kernel_rfl) (by kernel_rfl) (by kernel_rfl) (fun _ _ _ h => h) (yieldsIf_load_mid (by rfl) _ _ rfl q 1 rfl XC _ (fun W h => HW0.out.2 W h.2) Tryz.underlying90 rfl HX.out.2.2.2.2.2.2.1) hHeld ?_
        try simp only [Act.put, List.setIfInBounds_toArray, List.set_cons_zero, List.set_cons_succ]
        refine wpAnyH_take (i := 8) (oi := { dst := some 31, op := Op.indexAddr 42 (Operand.tmp 26) (Operand.tmp 28), type := 0, pos := "ref.go:77", after := #[{ on := 3, ground := Ground.data }, { on := 5, ground := Ground.data }, { on := 0, ground := Ground.phase }, { on := 1, ground := Ground.phase }, { on := 2, ground := Ground.phase }, { on := 3, ground := Ground.phase }, { on := 4, ground := Ground.phase }, { on := 5, ground := Ground.phase }, { on := 6, ground := Ground.phase }, { on := 7, ground := Ground.phase }], guard := none }) (v := ?vvs_8) rfl (by kernel_rfl) (by kernel_rfl) (by kernel_rfl) (fun _ _ _ h => h) (Or.inl ⟨by rfl, ?yys_8⟩) hHeld ?_
        case vvs_8 => exact .pointer (some ⟨gl, x1 * 128, none⟩)
        case yys_8 =>
          intro W hS
          go_simp
        try simp only [Act.put, List.setIfInBounds_toArray, List.set_cons_zero, List.set_cons_succ]
        refine wpAnyH_done (by kernel_rfl) ?_ _
        show wpList _ _ _ [_] _ _
        refine wpList_store_mid rfl 90 (.tmp 31) (.tmp 30) rfl gl (x1 * 128) XC.toArray rfl rfl (by rw [List.size_toArray, HX.out.2.2.2.2.2.2.2.2]; exact HTH.out) (by rw [List.size_toArray]; exact HX.out.2.2.2.2.2.2.1) HX.out.2.2.2.2.2.2.2.1 ?_
        show NoPanic _ Exit.normal _ _
        refine NoPanic.normal ?_
        go_wp2_with fail
        have hlt := HX.out.2.2.2.2.2.1
        try simp only [Act.put, List.setIfInBounds_toArray, List.set_cons_zero, List.set_cons_succ, List.toList_toArray]
        go_roundw
        case rel => exact ⟨k + 1, by omega, by go_num, HFIN⟩
        case measure => simp [intOf]; omega
      · have hke : k = n := by omega
        subst hke
        have HZ : Hid (RefAt L wr p gl (.slice a k c) { E with lasts := setAll E.hangs E.lasts }) := Lib.hid (by
          have h := HREL.out.row
          rw [List.take_of_length_le (by rw [HD.out.2.2]; exact Nat.le_refl _)] at h
          exact HD.out.1.lasting HREL.out.gr h (setAll_len _ _) (setAll_rows HD.out.1.good.rows HD.out.1.good.blks))
        have c1 := HZ.out.row.cell 1
        have f1 := HZ.out.row.frozen 1
        simp only [List.getElem?_cons_zero, List.getElem?_cons_succ] at c1
        clear hlt
        go_wp2
        go_ret
        have hd := HZ.out.dropped
        rw [HN.out.2.1, HSET.out, HE.out]
        exact ⟨rfl, ⟨_, _, hd⟩, (HD.out.2.1.grown HREL.out.gr (fun q hq => by injection hq with hq; subst hq; exact .inl HD.out.1.fl)).setCell (p := ⟨p, 1, none⟩) (.inl HD.out.1.fp) _⟩
  · have hmf : D.may = false := by simpa using hm
    have e1 : D.stepErr = 13 := by unfold DS.stepErr; rw [hmf]; rfl
    have e2 : D.synced = D.stepped := by unfold DS.synced; rw [if_neg hm]
    rw [hmf] at HST
    rw [e1, e2]
    clear hm hmf e1 e2 h hs hh hdn
    go_enter Tryz.func51, Tryz.ntmps51
    go_wp2_with fail
    refine HST.out.mono ?_
    rintro e w1 ⟨rfl, hd1, hk1⟩
    have HD := Lib.hid (And.intro hd1 hk1)
    clear hd1 hk1 c4
    go_wp2
    go_ret
    exact ⟨rfl, ⟨_, _, HD.out.1⟩, HD.out.2⟩
end
end Go.Proofs.YtiaaeniopjpfpaaGreatDoor

namespace Go.Proofs.YtiaaeniopjpfpaaGreatDoor
open Go.RowKit Go.Maps
set_option linter.unusedVariables false
set_option linter.unusedSimpArgs false

theorem kept_low : ∀ (r : List (Nat × List UInt8)) (l : List (List UInt8)) (k : Int), k < 1 → kept r l k = l
  | [], l, k, h => rfl
  | x :: r, l, k, h => kept_stop x r l k h
theorem flat_set1 (l : List (List UInt8)) (h : ∀ b ∈ l, b.length = 128) (i : Nat) (hi : i < l.length) (j : Nat) (hj : j < 128) (c : UInt8) :
    (l.set i ((l.getD i []).set j c)).flatten = l.flatten.set (i * 128 + j) c := by
  induction l generalizing i with
  | nil => simp at hi
  | cons x l ih =>
    have hx := h x (by simp)
    cases i with
    | zero =>
      rw [List.set_cons_zero, List.flatten_cons, List.flatten_cons, Nat.zero_mul, Nat.zero_add, List.set_append_left _ _ (by omega)]
      rfl
    | succ i =>
      rw [List.set_cons_succ, List.flatten_cons, List.flatten_cons, List.set_append_right _ _ (by omega), hx]
      have e : (i + 1) * 128 + j - 128 = i * 128 + j := by omega
      rw [e, ← ih (fun b hb => h b (by simp [hb])) i (by simpa using hi)]
      rfl
/-- The first bytes of x over b. -/
def overB (x b : List UInt8) (m : Nat) : List UInt8 := x.take m ++ b.drop m
theorem overB_len {x b : List UInt8} (hx : x.length = 128) (hb : b.length = 128) {m : Nat} (hm : m ≤ 128) : (overB x b m).length = 128 := by
  unfold overB
  rw [List.length_append, List.length_take, List.length_drop, hx, hb]
  omega
theorem getD_set_self {l : List (List UInt8)} {i : Nat} (hi : i < l.length) (b : List UInt8) : (l.set i b).getD i [] = b := by
  rw [List.getD_eq_getElem?_getD, List.getElem?_set_self hi]
  rfl

theorem set_over_none {cur : List (List UInt8)} {i : Nat} (hi : i < cur.length) {x : List UInt8} : cur.set i (overB x (cur.getD i []) 0) = cur := by
  unfold overB
  rw [List.take_zero, List.drop_zero, List.nil_append]
  apply List.ext_getElem?
  intro j
  rw [List.getElem?_set]
  split
  · rename_i h; subst h
    rw [List.getD_eq_getElem?_getD, List.getElem?_eq_getElem hi]; rfl
  · rfl
theorem setCell_grown (w : World) (g o : Nat) (v : Value) : w.grownBy (w.setCell ⟨g, o, none⟩ v) (some g) :=
  ⟨rfl, rfl, rfl, by simp [World.setCell], fun k hk hne => Below.heap_setCell w ⟨g, o, none⟩ v k (fun e => hne (by rw [e]))⟩
/-- The inner loop's relation: behind i bytes m of them are done. -/
structure InR (D : DS) (gl : Nat) (w wr : World) (K : Int) (x : Nat × List UInt8) (cur : List (List UInt8)) (i m : Nat) : Prop where
  mi : m ≤ i
  full : m < i → K - m < 1
  pos : 0 < m → (m : Int) ≤ K
  row : Row wr gl 90 ((cur.set x.1 (overB x.2 (cur.getD x.1 []) m)).flatten.map bv)
  gr : w.grownBy wr (some gl)

section
variable {L L' : Nat → Prop} {w w' : World} {p gl : Nat} {hv : Value} {D D' : DS}
end
end Go.Proofs.YtiaaeniopjpfpaaGreatDoor

namespace Go.Proofs.YtiaaeniopjpfpaaGreatDoor
open Go.ChangeShapes Go.WideShapes Go.RowKit Go.Deep
set_option linter.unusedVariables false
end Go.Proofs.YtiaaeniopjpfpaaGreatDoor

namespace Go.Proofs.YtiaaeniopjpfpaaGreatDoor
open Go.RowKit Go.Maps
set_option linter.unusedVariables false

/-- What the document's disk is, where the disk is D. -/
def DS.reff (D : DS) : DS := { D with fuse := max D.fuse (-1) }
theorem reff_may (D : DS) : D.reff.may = D.may := by
  unfold DS.may DS.reff
  congr 1
  apply decide_eq_decide.2
  show max D.fuse (-1) ≠ 0 ↔ D.fuse ≠ 0
  omega
theorem reff_stepped (D : DS) : D.stepped.reff = D.reff.stepped := by
  have hfu : D.reff.fuse = max D.fuse (-1) := rfl
  have hdw : D.reff.down = D.down := rfl
  unfold DS.stepped
  rw [hfu, hdw]
  by_cases h0 : D.fuse = 0
  · rw [if_pos h0, if_pos (show max D.fuse (-1) = 0 by omega)]
    rfl
  · rw [if_neg h0, if_neg (show ¬ max D.fuse (-1) = 0 by omega)]
    by_cases hd : D.down = true
    · rw [if_pos hd, if_pos hd]
    · rw [if_neg hd, if_neg hd]
      unfold DS.reff
      congr 1
      show max (if 0 < D.fuse then D.fuse - 1 else D.fuse) (-1) = if 0 < max D.fuse (-1) then max D.fuse (-1) - 1 else max D.fuse (-1)
      split <;> split <;> omega
theorem reff_fault (D : DS) (k : Int) : D.reff.fault k = D.fault k := rfl
theorem reff_read (D : DS) (k : Int) : D.reff.read k = D.read k := rfl
theorem reff_stepErr (D : DS) : D.reff.stepErr = D.stepErr := by unfold DS.stepErr; rw [reff_may]
theorem reff_writeErr (D : DS) (k : Int) : D.reff.writeErr k = D.writeErr k := by unfold DS.writeErr; rw [reff_stepErr]; rfl
theorem reff_written (D : DS) (k : Int) (b : List UInt8) : (D.written k b).reff = D.reff.written k b := by
  unfold DS.written
  rw [reff_fault, reff_may, ← reff_stepped]
  split
  · rfl
  · split <;> rfl
theorem reff_synced (D : DS) : D.synced.reff = D.reff.synced := by
  unfold DS.synced
  rw [reff_may, ← reff_stepped]
  split <;> rfl
theorem reff_crashed (D : DS) (k : Int) : (D.crashed k).reff = D.reff.crashed k := rfl
theorem reff_new (n : Nat) : (newDS n).reff = newDS n := rfl
theorem stepped_count (D : DS) : D.stepped.steps ≤ D.steps + 1 := by
  unfold DS.stepped
  split
  · exact Nat.le_succ _
  · split
    · exact Nat.le_succ _
    · exact Nat.le_refl _
theorem written_count (D : DS) (k : Int) (b : List UInt8) : (D.written k b).steps ≤ D.steps + 1 ∧ (D.written k b).hangs.length ≤ D.hangs.length + 1 := by
  unfold DS.written
  have h1 := stepped_count D
  have h2 := (stepped_same D).2
  split
  · exact ⟨Nat.le_succ _, Nat.le_succ _⟩
  · split
    · exact ⟨h1, by simp⟩
    · exact ⟨h1, by rw [h2]; exact Nat.le_succ _⟩
theorem synced_count (D : DS) : D.synced.steps ≤ D.steps + 1 ∧ D.synced.hangs.length ≤ D.hangs.length + 1 := by
  unfold DS.synced
  have h1 := stepped_count D
  have h2 := (stepped_same D).2
  split
  · exact ⟨h1, by simp⟩
  · exact ⟨h1, by rw [h2]; exact Nat.le_succ _⟩

/-- Both in memory, apart from each other, and from T. -/
def Pair (T : Nat → Prop) (w : World) (p q : Nat) (D E : DS) : Prop :=
  ∃ S : Nat → Prop, (∀ k, S k → k < w.heap.size) ∧ (∀ k, T k → S k) ∧ DiskIs S w p D ∧ RefIs (fun k => T k ∨ (k < w.heap.size ∧ ¬ S k)) w q E

section
variable {T T' : Nat → Prop} {w w' : World} {p q : Nat} {D E D' E' : DS}
theorem Pair.grow (h : Pair T w p q D E) (hb : Below w.heap.size w w') (hT : ∀ k, T' k → T k ∨ (w.heap.size ≤ k ∧ k < w'.heap.size)) : Pair T' w' p q D E := by
  obtain ⟨S, hS, hTS, hd, hr⟩ := h
  have hsz := hb.size
  refine ⟨fun k => k < w'.heap.size ∧ (S k ∨ w.heap.size ≤ k), fun k hk => hk.1, fun k hk => ?_, ?_, ?_⟩
  · rcases hT k hk with h | ⟨h1, h2⟩
    · have := hS k (hTS k h)
      exact ⟨by omega, .inl (hTS k h)⟩
    · exact ⟨h2, .inr h1⟩
  · exact (hd.more (fun g hg => hg.2)).below hb
  · refine (hr.more (fun g hg => ?_)).below hb
    rcases hg with hg | ⟨hg1, hg2⟩
    · rcases hT g hg with h | ⟨h1, _⟩
      · exact .inl (.inl h)
      · exact .inr h1
    · by_cases hlt : g < w.heap.size
      · exact .inl (.inr ⟨hlt, fun hs => hg2 ⟨hg1, .inl hs⟩⟩)
      · exact .inr (by omega)
theorem Pair.less (h : Pair T w p q D E) (hT : ∀ k, T' k → T k) : Pair T' w p q D E := h.grow (Below.refl _ _) (fun k hk => .inl (hT k hk))
theorem Pair.below (h : Pair T w p q D E) (hb : Below w.heap.size w w') : Pair T w' p q D E := h.grow hb (fun k hk => .inl hk)
theorem Pair.lt (h : Pair T w p q D E) (k : Nat) (hk : T k) : k < w.heap.size := by
  obtain ⟨S, hS, hTS, _⟩ := h
  exact hS k (hTS k hk)
theorem Pair.disk {F : Nat} {args : Array Value} {Post : Ending → Prop} (h : Pair T w p q D E)
    (hc : ∀ (S : Nat → Prop) gl gm hv Dm, (∀ k, S k → k < w.heap.size) → DiskAt S w p gl gm hv Dm D → Calls Tryz.prog F args w fun e w' => Post e ∧ DiskIs S w' p D' ∧ Keeps S w w') :
    Calls Tryz.prog F args w fun e w' => Post e ∧ Pair T w' p q D' E ∧ Keeps T w w' := by
  obtain ⟨S, hS, hTS, ⟨gl, gm, hv, Dm, hd⟩, hr⟩ := h
  refine (hc S gl gm hv Dm hS hd).mono ?_
  rintro e w1 ⟨he, hd1, hk⟩
  have hsz := hk.size
  refine ⟨he, ⟨S, fun k h => by have := hS k h; omega, hTS, hd1, ?_⟩, hk.mono hTS⟩
  refine RefIs.keeps (M := S) (hr.more (fun g hg => ?_)) hk (fun g hg hn => ?_)
  · rcases hg with hg | ⟨hg1, hg2⟩
    · exact .inl (.inl hg)
    · by_cases hlt : g < w.heap.size
      · exact .inl (.inr ⟨hlt, hg2⟩)
      · exact .inr (by omega)
  · apply Classical.byContradiction
    intro hs
    exact hn (.inr ⟨by omega, hs⟩)
theorem Pair.ref {F : Nat} {args : Array Value} {Post : Ending → Prop} (h : Pair T w p q D E)
    (hc : ∀ (S : Nat → Prop) gl hv, (∀ k, S k → k < w.heap.size) → RefAt S w q gl hv E → Calls Tryz.prog F args w fun e w' => Post e ∧ RefIs S w' q E' ∧ Keeps S w w') :
    Calls Tryz.prog F args w fun e w' => Post e ∧ Pair T w' p q D E' ∧ Keeps T w w' := by
  obtain ⟨S, hS, hTS, hd, gl, hv, hr⟩ := h
  refine (hc _ gl hv (fun k hk => ?_) hr).mono ?_
  · rcases hk with hk | hk
    · exact hS k (hTS k hk)
    · exact hk.1
  rintro e w1 ⟨he, hr1, hk⟩
  have hsz := hk.size
  refine ⟨he, ⟨fun k => k < w1.heap.size ∧ (S k ∨ w.heap.size ≤ k), fun k h => h.1, fun k h => ⟨by have := hS k (hTS k h); omega, .inl (hTS k h)⟩, ?_, ?_⟩, hk.mono (fun k h => .inl h)⟩
  · refine DiskIs.keeps (hd.more (fun g hg => hg.2)) hk (fun g hg hn => .inr ⟨hg, fun hs => hn ⟨by omega, .inl hs⟩⟩)
  · refine hr1.more (fun g hg => ?_)
    rcases hg with hg | ⟨hg1, hg2⟩
    · exact .inl (.inl hg)
    · by_cases hlt : g < w.heap.size
      · exact .inl (.inr ⟨hlt, fun hs => hg2 ⟨hg1, .inl hs⟩⟩)
      · exact absurd ⟨hg1, .inr (by omega)⟩ hg2
theorem Pair.diskAt (h : Pair T w p q D E) : ∃ S gl gm hv Dm, DiskAt S w p gl gm hv Dm D := by
  obtain ⟨S, _, _, ⟨gl, gm, hv, Dm, hd⟩, _⟩ := h
  exact ⟨S, gl, gm, hv, Dm, hd⟩
theorem Pair.refAt (h : Pair T w p q D E) : ∃ S gl hv, RefAt S w q gl hv E := by
  obtain ⟨S, _, _, _, gl, hv, hd⟩ := h
  exact ⟨_, gl, hv, hd⟩
end
end Go.Proofs.YtiaaeniopjpfpaaGreatDoor

namespace Go.Proofs.YtiaaeniopjpfpaaGreatDoor
open Go.RowKit Go.Maps
set_option linter.unusedVariables false
set_option linter.unusedSimpArgs false

section
variable {T : Nat → Prop} {w w' : World} {p q : Nat} {D E D' E' : DS}
def acV (a : AC) : Value := .agg #[.int .i64 a.what, .int .i64 a.place, .int .u8 a.byte.toNat]
/-- What is known behind an act. -/
def DoPost (T : Nat → Prop) (w : World) (p q : Nat) (D : DS) (e : Ending) (w' : World) : Prop :=
  e = .returned (.bool true) ∧ ∃ D' : DS, Pair T w' p q D' D'.reff ∧ D'.steps ≤ D.steps + 1 ∧ D'.hangs.length ≤ D.hangs.length + 1 ∧ Keeps T w w'

theorem Pair.boxed (h : Pair T w p q D E) (o : Obj) : Pair (fun k => T k ∨ k = w.heap.size) (w.alloc o) p q D E := h.grow ((Below.refl _ _).alloc (Nat.le_refl _) o) (fun k hk => by
  rcases hk with h | h
  · exact .inl h
  · exact .inr ⟨by omega, by simp; omega⟩)
theorem keeps_new (T : Nat → Prop) (w : World) (o : Obj) : Keeps T w (w.alloc o) := Keeps.of_below ((Below.refl w.heap.size w).alloc (Nat.le_refl _) o) (fun k hk _ => hk)

end
end Go.Proofs.YtiaaeniopjpfpaaGreatDoor

namespace Go.Proofs.YtiaaeniopjpfpaaGreatDoor
open Go.RowKit Go.Maps Go.Shelf
set_option linter.unusedVariables false
set_option linter.unusedSimpArgs false
attribute [local go_sem] Oper.semAt_some

section
variable {P : Program} {ops : Array Oper} {C : World → Prop}
theorem wpQuiet_call {Q : Act → Prop} {a : Act} {o : Oper} {rest : List Oper} (v : Value) (fn : FuncId) (vals : Array Value) (hw : Region.wanted o (yielded ops a.tmps) = true) (hx : ∀ w, (execOp a.eval o).run P w = .ok (.enter fn vals) w)
    (hc : ∀ w, C w → Calls P fn vals w (fun e w'' => e = .returned v ∧ C w'')) (h : wpQuiet P ops C Q rest (a.put o.dst v)) : wpQuiet P ops C Q (o :: rest) a := by
  unfold wpQuiet
  rw [if_pos hw]
  refine ⟨v, fun w hC => ?_, h⟩
  unfold Oper.quietAt
  rw [hx w]
  exact ⟨rfl, hc w hC⟩
theorem wpQuiet_skip' {Q : Act → Prop} {a : Act} {o : Oper} {rest : List Oper} (hw : Region.wanted o (yielded ops a.tmps) = false) (h : wpQuiet P ops C Q rest (a.put o.dst undef)) : wpQuiet P ops C Q (o :: rest) a := by
  unfold wpQuiet
  rw [if_neg (by rw [hw]; exact Bool.false_ne_true)]
  exact h
end
theorem range_next {n : Nat} {pre : List (Sn n)} {x : Sn n} (h : (pre ++ [x]).map Subtype.val <+: List.range n) : x.1 = pre.length := by
  rw [List.map_append] at h
  have hl := h.length_le
  obtain ⟨t, ht⟩ := h
  have h1 : ((pre.map Subtype.val ++ [x.1]) ++ t)[pre.length]? = (List.range n)[pre.length]? := by
    have : List.map Subtype.val [x] = [x.1] := rfl
    rw [← this, ht]
  rw [List.append_assoc, List.getElem?_append_right (by simp)] at h1
  simp at h1
  simp at hl
  rw [List.getElem?_range (by omega)] at h1
  simpa using h1
theorem range_next' {n : Nat} {pre : List (Sn n)} {x : Sn n} (h : pre.map Subtype.val <+: List.range n) (hx : x.1 = pre.length) : (pre ++ [x]).map Subtype.val <+: List.range n := by
  obtain ⟨t, ht⟩ := h
  have hp : pre.map Subtype.val = List.range pre.length := by
    have h2 := congrArg (List.take pre.length) ht
    rw [List.take_append_of_le_length (by simp), List.take_of_length_le (by simp)] at h2
    rw [h2, List.take_range]
    congr 1
    have := congrArg List.length ht
    simp at this
    omega
  rw [List.map_append, hp]
  have hx2 := x.2
  have e : List.range pre.length ++ List.map Subtype.val [x] = List.range (pre.length + 1) := by rw [List.range_succ]; simp [hx]
  rw [e]
  exact range_pre (by omega)

/-- What a round of the loop reads. -/
structure SameB (W : World) (p q bd bq bn g gr j : Nat) (RC C : List Value) : Prop where
  n : Row W bn 3 [.int .i64 (j : Nat)]
  bq : Row W bq 28 [.pointer (some ⟨q, 0, none⟩)]
  bd : Row W bd 24 [.pointer (some ⟨p, 0, none⟩)]
  rq : Row W q 45 RC
  rg : ∀ W', SB W W' → W'.rangeAt g 0 C
  rl : ∀ W', SB W W' → W'.rangeAt gr (j * 128) C
  sz : (Tryz.prog.info? 90).map (·.size) = some C.length
  dif : ∀ W, (binOp .neq 90 (.agg C.toArray) (.agg C.toArray)).run Tryz.prog W = .ok (.bool false) W
  last : ∀ W', SB W W' → Calls Tryz.prog 55 #[.pointer (some ⟨p, 0, none⟩), .int .i64 (j : Nat)] W' (fun e w' => e = .returned (.agg C.toArray) ∧ SB W w')
theorem own_pure_s {β : Type} {B : Nat} {φ : β → Prop} : OwnFrom B (fun (s : β) (_ : World) => φ s) := fun s X Y row hs _ _ => hs
theorem fn_not_nil (f : Nat) (b : Array Value) (W : World) : (binOp .eql 95 (.func (.func f) #[] b) .nilFunc).run Tryz.prog W = .ok (.bool false) W := by
  kernel_rfl
section
variable {T : Nat → Prop} {w w' : World} {p q : Nat} {D E D' E' : DS}
set_option maxRecDepth 100000 in
set_option maxHeartbeats 4000000 in
theorem Same_any (hP : Pair T w p q D D.reff) (hs : D.steps < 1000000) (hh : D.hangs.length < 1000000) :
    Calls Tryz.prog 22 #[.pointer (some ⟨p, 0, none⟩), .pointer (some ⟨q, 0, none⟩)] w fun e w' => e = .returned (.bool true) ∧ Below w.heap.size w w' := by
  obtain ⟨ws, hws⟩ : ∃ ws, w.heap.size = ws := ⟨_, rfl⟩
  have HWS := Lib.hid hws
  have HP := Lib.hid hP
  have HH := Lib.hid (And.intro hs hh)
  clear hP hs hh
  refine (callsIn_wide (n := 6)).1 ?_
  refine callsIn_of_wp_marks Tryz.func22 rfl trivial ?_ rfl
  simp only [Tryz.ntmps22, List.size_toArray, List.length_cons, List.length_nil, Nat.reduceAdd, Nat.reduceSub, Array.replicate_succ, Array.replicate_zero, List.push_toArray, List.append_toArray, List.nil_append, List.cons_append]
  rw [wpIn_wide]
  clear hws
  go_wp2_with fail
  refine ((callsIn_wide (n := 0)).1 (All_in 0 (some ⟨p, 0, none⟩) _)).mono ?_
  rintro e w5 ⟨rfl, rfl⟩
  have hnf := fun (b : Array Value) (W : World) => fn_not_nil 94 b W
  go_wp2_with fail
  clear hnf
  obtain ⟨bd, hbd⟩ : ∃ b, w.heap.size = b := ⟨_, rfl⟩
  obtain ⟨bq, hbq⟩ : ∃ b, bd + 1 = b := ⟨_, rfl⟩
  obtain ⟨br, hbr⟩ : ∃ b, bq + 1 = b := ⟨_, rfl⟩
  obtain ⟨bc, hbc⟩ : ∃ b, br + 1 = b := ⟨_, rfl⟩
  obtain ⟨bn, hbn⟩ : ∃ b, bc + 1 = b := ⟨_, rfl⟩
  have c1 := Row.new w 24 [.pointer (some ⟨p, 0, none⟩)]
  have c2 := Row.new (w.alloc (.cells #[.pointer (some ⟨p, 0, none⟩)] 24)) 28 [.pointer (some ⟨q, 0, none⟩)]
  have c3 := Row.new ((w.alloc (.cells #[.pointer (some ⟨p, 0, none⟩)] 24)).alloc (.cells #[.pointer (some ⟨q, 0, none⟩)] 28)) 4 [.bool false]
  have c4 := Row.new (((w.alloc (.cells #[.pointer (some ⟨p, 0, none⟩)] 24)).alloc (.cells #[.pointer (some ⟨q, 0, none⟩)] 28)).alloc (.cells #[.bool false] 4)) 24 [.pointer (some ⟨p, 0, none⟩)]
  have c5 := Row.new ((((w.alloc (.cells #[.pointer (some ⟨p, 0, none⟩)] 24)).alloc (.cells #[.pointer (some ⟨q, 0, none⟩)] 28)).alloc (.cells #[.bool false] 4)).alloc (.cells #[.pointer (some ⟨p, 0, none⟩)] 24)) 3 [.int .i64 0]
  have d1 := (((c1.alloc (.cells #[.pointer (some ⟨q, 0, none⟩)] 28)).alloc (.cells #[.bool false] 4)).alloc (.cells #[.pointer (some ⟨p, 0, none⟩)] 24)).alloc (.cells #[.int .i64 0] 3)
  have d2 := ((c2.alloc (.cells #[.bool false] 4)).alloc (.cells #[.pointer (some ⟨p, 0, none⟩)] 24)).alloc (.cells #[.int .i64 0] 3)
  have d3 := (c3.alloc (.cells #[.pointer (some ⟨p, 0, none⟩)] 24)).alloc (.cells #[.int .i64 0] 3)
  have d4 := c4.alloc (.cells #[.int .i64 0] 3)
  have hB : SB w (((((w.alloc (.cells #[.pointer (some ⟨p, 0, none⟩)] 24)).alloc (.cells #[.pointer (some ⟨q, 0, none⟩)] 28)).alloc (.cells #[.bool false] 4)).alloc (.cells #[.pointer (some ⟨p, 0, none⟩)] 24)).alloc (.cells #[.int .i64 0] 3)) := SB.al (SB.al (SB.al (SB.al (SB.al (SB.here w) _) _) _) _) _
  have hsz : (((((w.alloc (.cells #[.pointer (some ⟨p, 0, none⟩)] 24)).alloc (.cells #[.pointer (some ⟨q, 0, none⟩)] 28)).alloc (.cells #[.bool false] 4)).alloc (.cells #[.pointer (some ⟨p, 0, none⟩)] 24)).alloc (.cells #[.int .i64 0] 3)).heap.size = w.heap.size + 5 := by simp
  simp only [World.size_alloc] at d2 d3 d4 c5
  simp only [hbd, hbq, hbr, hbc, hbn] at d1 d2 d3 d4 c5 hsz ⊢
  generalize ((((w.alloc (.cells #[.pointer (some ⟨p, 0, none⟩)] 24)).alloc (.cells #[.pointer (some ⟨q, 0, none⟩)] 28)).alloc (.cells #[.bool false] 4)).alloc (.cells #[.pointer (some ⟨p, 0, none⟩)] 24)).alloc (.cells #[.int .i64 0] 3) = wm at d1 d2 d3 d4 c5 hB hsz ⊢
  have Pm : Pair (fun k => k = bn) wm p q D D.reff := HP.out.grow hB (fun k hk => .inr ⟨by omega, by omega⟩)
  obtain ⟨S, _, hTS, ⟨gl, gm, hv, Dm, hdm⟩, gr, hvr, hrm⟩ := Pm
  obtain ⟨ha, hc, rfl⟩ := own_slice hrm.han
  obtain ⟨nh, hnh⟩ : ∃ nh, D.hangs.length = nh := ⟨_, rfl⟩
  have hdI : DiskIs (fun k => k = bn) wm p D := DiskIs.less ⟨gl, gm, hv, Dm, hdm⟩ hTS
  have hrA : RefAt (fun k => k = bn) wm q gr (.slice ha D.reff.hangs.length hc) D.reff := hrm.kept (fun _ _ => rfl) (fun g hg hl => hrm.out g hg (.inl hl))
  obtain ⟨row, las⟩ := And.intro hdm.row hdm.las
  have h8 := hdm.good.rows
  have hm := hdm.good.most
  have hm16 := hdm.good.least
  have hpl := hdm.row.lt
  have hgl := hdm.las.lt
  have hpn : p ≠ bn := fun e => hdm.fp (hTS _ e)
  have hgn : gl ≠ bn := fun e => hdm.fl (hTS _ e)
  obtain ⟨LS, hLS⟩ : ∃ LS, D.lasts = LS := ⟨_, rfl⟩
  rw [hLS] at row las h8 hm hm16
  obtain ⟨nl, hnl⟩ : ∃ nl, LS.length = nl := ⟨_, rfl⟩
  obtain ⟨RC, HRC⟩ : ∃ RC, Hid (RC = [Value.slice (some ⟨gr, 0, none⟩) nl nl, .slice ha nh hc, .int .i64 (D.steps : Nat), .int .i64 (max D.fuse (-1)), .bool D.down]) := ⟨_, Lib.hid rfl⟩
  have hrq : Row wm q 45 RC := by
    have h := hrA.row
    rw [HRC.out, ← hnl, ← hLS, ← hnh]
    exact h
  have HD := Lib.hid (And.intro hdI (And.intro hrA (And.intro hrq (And.intro hLS hnl))))
  have HNH := Lib.hid hnh
  have HL := Lib.hid (And.intro h8 (And.intro hm hm16))
  have HC := Lib.hid (And.intro d1 (And.intro d2 (And.intro d3 (And.intro hB c5))))
  have HN := Lib.hid (And.intro hpl (And.intro hgl (And.intro hsz (And.intro hpn (And.intro hgn (And.intro hbd (And.intro hbq (And.intro hbr (And.intro hbc hbn)))))))))
  have hbnlt : bn < wm.heap.size := by omega
  have hbclt : bc < wm.heap.size := by omega
  have hInit : Boxed wm bn 3 (.int .i64 (([] : List (Sn LS.length)).length : Nat)) := c5
  have hrowbc : wm.heap[bc]? = some (.cells #[.pointer (some ⟨p, 0, none⟩)] 24 (0, 0)) := d4
  have HI0 := Lib.hid (And.intro hInit hrowbc)
  clear c1 c2 c3 c4 c5 d1 d2 d3 d4 hB hdm hrm hdI hrA hrq hTS hLS hnh hInit hrowbc hbd hbq hbr hbc hbn
  rw [← wpIn_wide (n := 6)]
  refine' wpIn_rangeFunc_ownH rfl (by omega) (gf := 94) (lb := #[.pointer (some ⟨bc, 0, none⟩)]) rfl trivial (enters_of Tryz.func94 (by kernel_rfl) rfl)
    (All_stops 5 (by omega) bc p gl LS _ h8 hm wm HI0.out.2 row las) keepsA_t (keepsA_b (by omega) (by omega) (by omega)) (Below.refl _ _) (fun _ => rfl)
    (fun pre W => pre.map Subtype.val <+: List.range LS.length ∧ Boxed W bn 3 (.int .i64 (pre.length : Nat)) ∧ Keeps (fun k => k ≠ bn) wm W) (fun _ pre _ => ¬ pre.map Subtype.val <+: List.range LS.length)
    (OwnFrom.and own_pure_s (OwnFrom.and (Own.from (own_box bn 3 (fun pre : List (Sn LS.length) => .int .i64 (pre.length : Nat))) _) (ownFrom_keeps (Nat.le_refl _)))) (fun _ => own_pure_s) ⟨List.nil_prefix, HI0.out.1, Keeps.refl _ _⟩
    (fun x a' W => ∃ g, (a' = { tmps := #[Value.pointer (some ⟨p, 0, none⟩), Value.pointer (some ⟨q, 0, none⟩), Value.pointer (some ⟨bd, 0, none⟩), Value.pointer (some ⟨bq, 0, none⟩), Value.pointer (some ⟨br, 0, none⟩), Value.func (Fn.func 94) #[] #[Value.pointer (some ⟨bc, 0, none⟩)], Value.pointer (some ⟨bn, 0, none⟩), Value.int IntKind.i64 (x.1 : Nat), Value.pointer (some ⟨g, 0, none⟩), undef, undef, undef, undef, Value.pointer (some ⟨p, 0, none⟩), Value.func (Fn.func 94) #[] #[Value.pointer (some ⟨bc, 0, none⟩)], Value.func (Fn.func 94) #[] #[Value.pointer (some ⟨bc, 0, none⟩)], Value.bool false, Value.func (Fn.func 94) #[] #[Value.pointer (some ⟨bc, 0, none⟩)], Value.int IntKind.i64 (x.1 : Nat), Value.agg ((LS.getD x.1 []).map bv).toArray, undef, undef, undef, undef, undef, undef, undef, undef, undef, undef, undef, undef, undef, undef, undef, undef, undef, undef, undef, undef, undef, undef, undef, undef, undef, undef, undef, undef, undef, undef, undef, undef, undef, undef, undef, undef, undef, undef, undef, undef, undef, undef, undef, undef, undef, undef, undef, undef, undef, undef, undef, undef, undef, undef, undef, undef, undef, undef, undef, undef, undef, undef, undef, undef, undef, undef, undef, undef, undef, undef, undef, undef, undef, undef, undef, undef, undef, undef, undef, undef, undef, undef, undef, undef, undef, undef, undef, undef, undef, undef, undef, undef, undef, undef], defers := [] }) ∧ Row W g 90 ((LS.getD x.1 []).map bv))
    (fun x a' => ax_own _) ?hassign ?hbody ?hdone ?hstop
  case hstop =>
    rintro D c pre W _ hpre h _
    exact absurd hpre h
  case hassign =>
    intro l' pre x W K hI hK
    unfold allArgs
    rw [show blkV (LS.getD x.1 []) = Value.agg ((LS.getD x.1 []).map bv).toArray from rfl]
    have hx8 : (LS.getD x.1 []).length = 128 := getD_len HL.out.1 x.2
    obtain ⟨hsb, hrow⟩ := boxed_blk W (LS.getD x.1 [])
    have hnew := Row.new W 90 zB
    have hone := blkV_one (LS.getD x.1 [])
    have hszA := blk_sizeA _ hx8
    have hzl : zB.toArray.size = ((LS.getD x.1 []).map bv).toArray.size := by rw [List.size_toArray, List.size_toArray, List.length_map, hx8, zB_len]
    have hW2 : wm.heap.size ≤ W.heap.size := hI.2.2.size
    have hI2 : (pre.map Subtype.val <+: List.range LS.length ∧ Boxed _ bn 3 (.int .i64 (pre.length : Nat)) ∧ Keeps (fun k => k ≠ bn) wm _) := ⟨hI.1, (hsb.block bn (by omega)).trans hI.2.1, hI.2.2.trans (Keeps.of_below (L := fun k => k ≠ bn) hsb (fun _ h _ => h))⟩
    obtain ⟨cs, hcs⟩ : ∃ cs, ((LS.getD x.1 []).map bv).toArray = cs := ⟨_, rfl⟩
    have HX := Lib.hid (And.intro hsb (And.intro hrow (And.intro hI2 (And.intro hone (And.intro hszA (And.intro hzl hW2))))))
    have HCS := Lib.hid hcs
    have hz := (zero_of_info zB_info).1
    clear hsb hrow hone hszA hzl hI2 hW2
    rw [hcs] at HX ⊢
    clear hcs
    gi_wp2_with (refine wpIn_store_row 90 (.tmp 8) (.tmp 19) rfl W.heap.size cs rfl rfl 90 zB.toArray hnew HX.out.2.2.2.2.1 HX.out.2.2.2.2.2.1 HX.out.2.2.2.1 ?_)
    refine hK _ _ ((below_others HX.out.1).from _) (keepsA_of (L := fun _ => True) (Keeps.of_below HX.out.1 (fun _ h _ => h)) trivial trivial trivial ?_ ?_ ?_) HX.out.2.2.1 ⟨W.heap.size, ?_, HX.out.2.1⟩
    · have := HX.out.2.2.2.2.2.2; omega
    · have := HX.out.2.2.2.2.2.2; omega
    · have := HX.out.2.2.2.2.2.2; omega
    · rw [HCS.out]
  case hbody =>
    rintro l' pre x a' W hl' hrec ⟨hpre, hn, hk⟩ ⟨g, rfl, hrow⟩ hlt
    by_cases hx : x.1 = pre.length
    · have hpre2 : (pre ++ [x]).map Subtype.val <+: List.range LS.length := range_next' hpre hx
      obtain ⟨j, hj⟩ : ∃ j, pre.length = j := ⟨_, rfl⟩
      have hpl2 : (pre ++ [x]).length = j + 1 := by rw [List.length_append, hj]; rfl
      have hjl : j < LS.length := by rw [← hj, ← hx]; exact x.2
      rw [hj] at hn hx
      rw [hx]
      have hx8 : (LS.getD j []).length = 128 := getD_len HL.out.1 hjl
      have hsz := blk_sizeK _ hx8
      have hdif := fun W => blk_differ (LS.getD j []) hx8 W
      unfold blkV at hdif
      have hkW : ∀ W', SB W W' → Keeps (fun k => k ≠ bn) wm W' := fun W' h => hk.trans (Keeps.of_below (L := fun k => k ≠ bn) h (fun _ h _ => h))
      have hdW : ∀ W', Keeps (fun k => k ≠ bn) wm W' → DiskIs (fun k => k = bn) W' p D := fun W' h => HD.out.1.keeps h (fun g _ h2 => h2)
      have hrW : ∀ W', Keeps (fun k => k ≠ bn) wm W' → RefAt (fun k => k = bn) W' q gr (.slice ha D.reff.hangs.length hc) D.reff := fun W' h => HD.out.2.1.kept (fun g hg => h.block g (HD.out.2.1.lt g hg) (HD.out.2.1.out g hg)) HD.out.2.1.out
      have hrow2 := hrow
      rw [hx] at hrow2
      obtain ⟨C, hC⟩ : ∃ C, (LS.getD j []).map bv = C := ⟨_, rfl⟩
      have hlst : ∀ W', SB W W' → Calls Tryz.prog 55 #[.pointer (some ⟨p, 0, none⟩), .int .i64 (j : Nat)] W' (fun e w' => e = .returned (.agg C.toArray) ∧ SB W w') := fun W' h => by
        obtain ⟨gl', gm', hv', Dm', hd'⟩ := hdW W' (hkW W' h)
        refine (Lasts_any hd' j (by rw [HD.out.2.2.2.1]; exact hjl)).mono ?_
        rintro e w' ⟨rfl, hb⟩
        refine ⟨?_, h.next hb⟩
        rw [HD.out.2.2.2.1]
        unfold blkV
        rw [hC]
      rw [hC] at hrow2 hsz hdif
      rw [hC]
      have hne := HN.out
      have hkb : ∀ (b : Nat) (T : TypeId) (l : List Value), b < wm.heap.size → b ≠ bn → Row wm b T l → Row W b T l := fun b T l h1 h2 h3 => (hk.block b h1 h2).trans h3
      have hX : SameB W p q bd bq bn g gr j RC C := ⟨hn, hkb bq _ _ (by omega) (by omega) HC.out.2.1, hkb bd _ _ (by omega) (by omega) HC.out.1, hkb q _ _ HD.out.2.2.1.lt (fun e => HD.out.2.1.fp e) HD.out.2.2.1,
        fun W' h => by
          have h := row_range (h.row hrow2) 0 C.length (by omega)
          rwa [List.drop_zero, List.take_of_length_le (Nat.le_refl _)] at h,
        fun W' h => by
          have h2 := (hrW W' (hkW W' h)).lastRange j (show j < D.lasts.length by rw [HD.out.2.2.2.1]; exact hjl)
          have e : D.reff.lasts = LS := HD.out.2.2.2.1
          rw [e, hC] at h2
          exact h2, hsz, hdif, hlst⟩
      have hjI : (j : Int) < (nl : Int) := by have := HD.out.2.2.2.2; omega
      have hj0 : ¬ (j : Int) < 0 := by omega
      have hjg : ¬ (nl : Int) ≤ (j : Int) := by omega
      have HX := Lib.hid hX
      -- what both read there
      obtain ⟨gl0, gm0, hv0, Dm0, hd0⟩ := HD.out.1
      have hrl := read_len hd0.good (j : Int)
      obtain ⟨RB, hRB⟩ : ∃ RB, (D.read (j : Int)).map bv = RB := ⟨_, rfl⟩
      have hRBl : RB.length = 128 := by rw [← hRB, List.length_map, hrl]
      have hRsz := blk_sizeK _ hrl
      have hRone := blkV_one (D.read (j : Int))
      have hRV : blkV (D.read (j : Int)) = .agg RB.toArray := by unfold blkV; rw [hRB]
      have hEQ := fun W => blk_differ (D.read (j : Int)) hrl W
      rw [hRB] at hRsz hRone
      rw [hRV] at hEQ
      obtain ⟨F, hF⟩ : ∃ F, D.fault (j : Int) = F := ⟨_, rfl⟩
      obtain ⟨Z, hZ⟩ : ∃ Z, zB = Z := ⟨_, rfl⟩
      have hZl : Z.length = 128 := by rw [← hZ]; exact zB_len
      have hz := (zero_of_info zB_info).1
      rw [hZ] at hz
      have HZ := Lib.hid (And.intro hZ (And.intro hZl (And.intro hRBl (And.intro hRsz hRone))))
      have HNEW : Hid (∀ W : World, Row (W.alloc (.cells Z.toArray 90)) W.heap.size 90 Z ∧ SB W ((W.alloc (.cells Z.toArray 90)).setRow W.heap.size RB.toArray) ∧ Row ((W.alloc (.cells Z.toArray 90)).setRow W.heap.size RB.toArray) W.heap.size 90 RB) := Lib.hid fun W =>
        ⟨Row.new W 90 Z, below_setRow (B := W.heap.size) ((Below.refl W.heap.size W).alloc (Nat.le_refl _) _) (Nat.le_refl _) _, (Row.new W 90 Z).put _⟩
      have HLD : Hid (∀ (W : World) (g : Nat), Row W g 90 RB → (Instr.loadAt 90 (.pointer (some ⟨g, 0, none⟩))).run Tryz.prog W = .ok (.agg RB.toArray) W) := Lib.hid fun W g hr => by
        have h := run_loadAt_mid (P := Tryz.prog) W g 0 90 RB _ (fun j v hj => by rw [Nat.zero_add, hr.cell]; exact hj) Tryz.underlying90 rfl HZ.out.2.2.2.1
        exact h
      have HRD : Hid (∀ W', SB W W' → CallsIn (Fence.wide.inRound l') 3 Tryz.prog 56 #[.pointer (some ⟨p, 0, none⟩), .int .i64 (j : Nat)] W' fun e w' => e = .returned (.tuple #[.agg RB.toArray, .int .i64 F]) ∧ SB W w' ∧ SB W' w') := Lib.hid fun W' h => by
        obtain ⟨gl', gm', hv', Dm', hd'⟩ := hdW W' (hkW W' h)
        have h2 := (Read_any hd' (j : Int)).mono (fun e w' h3 => And.intro h3.1 (And.intro (h.next h3.2) h3.2))
        rw [hRV, hF] at h2
        exact CallsIn.inRound l' (callsIn_wide.2 h2)
      have HRR : Hid (∀ W', SB W W' → CallsIn (Fence.wide.inRound l') 3 Tryz.prog 57 #[.pointer (some ⟨q, 0, none⟩), .int .i64 (j : Nat)] W' fun e w' => e = .returned (.tuple #[.agg RB.toArray, .int .i64 F]) ∧ SB W w' ∧ SB W' w') := Lib.hid fun W' h => by
        have h2 := (RRead_any (hrW W' (hkW W' h)) (j : Int) (show D.hangs.length < 1000000000 by have := HH.out.2; omega)).mono (fun e w' h3 => And.intro h3.1 (And.intro (h.next h3.2) h3.2))
        rw [reff_read, reff_fault, hRV, hF] at h2
        exact CallsIn.inRound l' (callsIn_wide.2 h2)
      have HJN := Lib.hid (show j < nl by omega)
      have hnl4 : (nl : Int) ≤ 4096 := by have := HL.out.2.1; have := HD.out.2.2.2.2; omega
      have hWs := Lib.hid (show wm.heap.size ≤ W.heap.size from hk.size)
      have HK := Lib.hid (And.intro hkW (And.intro hpre2 (And.intro hpl2 hjI)))
      clear hk hn hpre hpre2 hpl2 hlt hx hjl hx8 hsz hdif hkW hdW hrW hrow2 hC hlst hkb hX hd0 hrl hRB hRBl hRsz hRone hRV hF hZ hZl hne hrow hj
      gi_wp2
      refine round_quiet_lit (SB W) (by kernel_rfl) (by kernel_rfl) (by kernel_rfl) (below_drewK (Below.refl _ _) 1) ?_
      refine wpQuiet_yields (.int .i64 (j : Nat)) (Or.inl ⟨by rfl, fun W' hS => ?yq1⟩) ?_
      case yq1 =>
        go_simp
      try simp only [Act.put, List.setIfInBounds_toArray, List.set_cons_zero, List.set_cons_succ]
      refine wpQuiet_yields (.int .i64 (j : Nat)) (Or.inl ⟨by rfl, fun W' hS => ?yq2⟩) ?_
      case yq2 =>
        have q0 := (SB.row (l := [.int .i64 (j : Nat)]) hS HX.out.n).cell 0
        simp only [List.getElem?_cons_zero] at q0
        go_simp
      try simp only [Act.put, List.setIfInBounds_toArray, List.set_cons_zero, List.set_cons_succ]
      refine wpQuiet_yields (.bool false) (Or.inl ⟨by rfl, fun W' hS => ?yq3⟩) ?_
      case yq3 =>
        go_simp
      try simp only [Act.put, List.setIfInBounds_toArray, List.set_cons_zero, List.set_cons_succ]
      refine wpQuiet_yields (.bool false) (Or.inl ⟨by rfl, fun W' hS => ?yq4⟩) ?_
      case yq4 =>
        go_simp
      try simp only [Act.put, List.setIfInBounds_toArray, List.set_cons_zero, List.set_cons_succ]
      refine wpQuiet_yields (.int .i64 (j : Nat)) (Or.inl ⟨by rfl, fun W' hS => ?yq5⟩) ?_
      case yq5 =>
        go_simp
      try simp only [Act.put, List.setIfInBounds_toArray, List.set_cons_zero, List.set_cons_succ]
      refine wpQuiet_yields (Value.pointer (some ⟨q, 0, none⟩)) (Or.inl ⟨by rfl, fun W' hS => ?yq6⟩) ?_
      case yq6 =>
        have q0 := (SB.row (l := [Value.pointer (some ⟨q, 0, none⟩)]) hS HX.out.bq).cell 0
        simp only [List.getElem?_cons_zero] at q0
        go_simp
      try simp only [Act.put, List.setIfInBounds_toArray, List.set_cons_zero, List.set_cons_succ]
      refine wpQuiet_yields (Value.pointer (some ⟨q, 0, none⟩)) (Or.inl ⟨by rfl, fun W' hS => ?yq7⟩) ?_
      case yq7 =>
        go_simp
      try simp only [Act.put, List.setIfInBounds_toArray, List.set_cons_zero, List.set_cons_succ]
      refine wpQuiet_yields (Value.pointer (some ⟨q, 0, none⟩)) (Or.inl ⟨by rfl, fun W' hS => ?yq8⟩) ?_
      case yq8 =>
        go_simp
      try simp only [Act.put, List.setIfInBounds_toArray, List.set_cons_zero, List.set_cons_succ]
      refine wpQuiet_yields (.slice (some ⟨gr, 0, none⟩) nl nl) (Or.inl ⟨by rfl, fun W' hS => ?yq9⟩) ?_
      case yq9 =>
        have q0 := (SB.row hS HX.out.rq).cell 0
        simp only [HRC.out, List.getElem?_cons_zero] at q0
        go_simp
      try simp only [Act.put, List.setIfInBounds_toArray, List.set_cons_zero, List.set_cons_succ]
      refine wpQuiet_yields (.int .i64 nl) (Or.inl ⟨by rfl, fun W' hS => ?yq10⟩) ?_
      case yq10 =>
        go_simp
      try simp only [Act.put, List.setIfInBounds_toArray, List.set_cons_zero, List.set_cons_succ]
      refine wpQuiet_yields (.bool false) (Or.inl ⟨by rfl, fun W' hS => ?yq11⟩) ?_
      case yq11 =>
        go_simp
        exact HJN.out
      try simp only [Act.put, List.setIfInBounds_toArray, List.set_cons_zero, List.set_cons_succ]
      refine wpQuiet_yields (.bool false) (Or.inl ⟨by rfl, fun W' hS => ?yq12⟩) ?_
      case yq12 =>
        go_simp
      try simp only [Act.put, List.setIfInBounds_toArray, List.set_cons_zero, List.set_cons_succ]
      refine wpQuiet_yields (.bool false) (Or.inl ⟨by rfl, fun W' hS => ?yq13⟩) ?_
      case yq13 =>
        go_simp
      try simp only [Act.put, List.setIfInBounds_toArray, List.set_cons_zero, List.set_cons_succ]
      refine wpQuiet_yields (.agg C.toArray) (yieldsIf_load_mid (by rfl) 90 (.tmp 8) rfl g 0 rfl C _ (fun W h => HX.out.rg W h) Tryz.underlying90 rfl HX.out.sz) ?_
      try simp only [Act.put, List.setIfInBounds_toArray, List.set_cons_zero, List.set_cons_succ]
      refine wpQuiet_yields (Value.pointer (some ⟨q, 0, none⟩)) (Or.inl ⟨by rfl, fun W' hS => ?yq14⟩) ?_
      case yq14 =>
        have q0 := (SB.row (l := [Value.pointer (some ⟨q, 0, none⟩)]) hS HX.out.bq).cell 0
        simp only [List.getElem?_cons_zero] at q0
        go_simp
      try simp only [Act.put, List.setIfInBounds_toArray, List.set_cons_zero, List.set_cons_succ]
      refine wpQuiet_yields (Value.pointer (some ⟨q, 0, none⟩)) (Or.inl ⟨by rfl, fun W' hS => ?yq15⟩) ?_
      case yq15 =>
        go_simp
      try simp only [Act.put, List.setIfInBounds_toArray, List.set_cons_zero, List.set_cons_succ]
      refine wpQuiet_yields (Value.pointer (some ⟨q, 0, none⟩)) (Or.inl ⟨by rfl, fun W' hS => ?yq16⟩) ?_
      case yq16 =>
        go_simp
      try simp only [Act.put, List.setIfInBounds_toArray, List.set_cons_zero, List.set_cons_succ]
      refine wpQuiet_yields (.slice (some ⟨gr, 0, none⟩) nl nl) (Or.inl ⟨by rfl, fun W' hS => ?yq17⟩) ?_
      case yq17 =>
        have q0 := (SB.row hS HX.out.rq).cell 0
        simp only [HRC.out, List.getElem?_cons_zero] at q0
        go_simp
      try simp only [Act.put, List.setIfInBounds_toArray, List.set_cons_zero, List.set_cons_succ]
      refine wpQuiet_yields (.int .i64 (j : Nat)) (Or.inl ⟨by rfl, fun W' hS => ?yq18⟩) ?_
      case yq18 =>
        go_simp
      try simp only [Act.put, List.setIfInBounds_toArray, List.set_cons_zero, List.set_cons_succ]
      refine wpQuiet_yields (.pointer (some ⟨gr, j * 128, none⟩)) (Or.inl ⟨by rfl, fun W' hS => ?yq19⟩) ?_
      case yq19 =>
        go_simp
      try simp only [Act.put, List.setIfInBounds_toArray, List.set_cons_zero, List.set_cons_succ]
      refine wpQuiet_yields (.agg C.toArray) (yieldsIf_load_mid (by rfl) 90 (.tmp 39) rfl gr (j * 128) rfl C _ (fun W h => HX.out.rl W h) Tryz.underlying90 rfl HX.out.sz) ?_
      try simp only [Act.put, List.setIfInBounds_toArray, List.set_cons_zero, List.set_cons_succ]
      refine wpQuiet_yields (.bool false) (yields_neq (by rfl) _ _ _ _ rfl C.toArray rfl rfl (by kernel_rfl) HX.out.dif) ?_
      try simp only [Act.put, List.setIfInBounds_toArray, List.set_cons_zero, List.set_cons_succ]
      refine wpQuiet_yields (.bool false) (Or.inl ⟨by rfl, fun W' hS => ?yq20⟩) ?_
      case yq20 =>
        go_simp
      try simp only [Act.put, List.setIfInBounds_toArray, List.set_cons_zero, List.set_cons_succ]
      refine wpQuiet_yields (.bool false) (Or.inl ⟨by rfl, fun W' hS => ?yq21⟩) ?_
      case yq21 =>
        go_simp
      try simp only [Act.put, List.setIfInBounds_toArray, List.set_cons_zero, List.set_cons_succ]
      refine wpQuiet_yields (Value.pointer (some ⟨p, 0, none⟩)) (Or.inl ⟨by rfl, fun W' hS => ?yq22⟩) ?_
      case yq22 =>
        have q0 := (SB.row (l := [Value.pointer (some ⟨p, 0, none⟩)]) hS HX.out.bd).cell 0
        simp only [List.getElem?_cons_zero] at q0
        go_simp
      try simp only [Act.put, List.setIfInBounds_toArray, List.set_cons_zero, List.set_cons_succ]
      refine wpQuiet_yields (.int .i64 (j : Nat)) (Or.inl ⟨by rfl, fun W' hS => ?yq23⟩) ?_
      case yq23 =>
        go_simp
      try simp only [Act.put, List.setIfInBounds_toArray, List.set_cons_zero, List.set_cons_succ]
      refine wpQuiet_call (.agg C.toArray) 55 #[Value.pointer (some ⟨p, 0, none⟩), .int .i64 (j : Nat)] (by rfl) (fun W' => ?yq24) (fun W' hS => HX.out.last W' hS) ?_
      case yq24 =>
        go_simp
      try simp only [Act.put, List.setIfInBounds_toArray, List.set_cons_zero, List.set_cons_succ]
      refine wpQuiet_yields (.agg C.toArray) (yieldsIf_load_mid (by rfl) 90 (.tmp 8) rfl g 0 rfl C _ (fun W h => HX.out.rg W h) Tryz.underlying90 rfl HX.out.sz) ?_
      try simp only [Act.put, List.setIfInBounds_toArray, List.set_cons_zero, List.set_cons_succ]
      refine wpQuiet_yields (.bool false) (yields_neq (by rfl) _ _ _ _ rfl C.toArray rfl rfl (by kernel_rfl) HX.out.dif) ?_
      try simp only [Act.put, List.setIfInBounds_toArray, List.set_cons_zero, List.set_cons_succ]
      refine wpQuiet_yields (.bool false) (Or.inl ⟨by rfl, fun W' hS => ?yq25⟩) ?_
      case yq25 =>
        go_simp
      try simp only [Act.put, List.setIfInBounds_toArray, List.set_cons_zero, List.set_cons_succ]
      refine wpQuiet_nil ?_
      intro wf hwf

      have HWF := Lib.hid hwf
      have b3 := (SB.row hwf HX.out.bd).cell 0
      simp only [List.getElem?_cons_zero] at b3
      clear hwf
      gi_wp2_with (first
        | (refine ⟨trivial, ?_⟩; gi_at_call 56; refine (HRD.out _ HWF.out).mono ?_; rintro e w2 ⟨rfl, hb2⟩; have HB2 := Lib.hid hb2; clear hb2)
        | (refine ⟨trivial, ?_⟩; gi_at_call 57; refine (HRR.out _ HN3.out.1).mono ?_; rintro e w4 ⟨rfl, hb4⟩; have HB4 := Lib.hid hb4; clear hb4)
        | (refine wpIn_store_row 90 (.tmp 9) (.tmp 54) rfl w2.heap.size RB.toArray rfl rfl 90 Z.toArray (HNEW.out w2).1 (by rw [List.size_toArray]; exact HZ.out.2.2.2.1) (by rw [List.size_toArray, List.size_toArray, HZ.out.2.1, HZ.out.2.2.1]) HZ.out.2.2.2.2 ?_; have hN := (HNEW.out w2).2; generalize (w2.alloc (.cells Z.toArray 90)).setRow w2.heap.size RB.toArray = w3 at hN ⊢; have HN3 := Lib.hid (And.intro (SB.next HB2.out.1 hN.1) hN.2); have b4 := (SB.row HN3.out.1 HX.out.bq).cell 0; simp only [List.getElem?_cons_zero] at b4; clear hN)
        | (refine wpIn_store_row 90 (.tmp 11) (.tmp 60) rfl w4.heap.size RB.toArray rfl rfl 90 Z.toArray (HNEW.out w4).1 (by rw [List.size_toArray]; exact HZ.out.2.2.2.1) (by rw [List.size_toArray, List.size_toArray, HZ.out.2.1, HZ.out.2.2.1]) HZ.out.2.2.2.2 ?_; have hN := (HNEW.out w4).2; generalize (w4.alloc (.cells Z.toArray 90)).setRow w4.heap.size RB.toArray = w5 at hN ⊢; have HN5 := Lib.hid (And.intro (SB.next HB4.out.1 hN.1) (And.intro hN.2 (SB.row (SB.next HB4.out.2 hN.1) HN3.out.2))); have b5 := (SB.row HN5.out.1 HX.out.n).cell 0; have f5 := (SB.row HN5.out.1 HX.out.n).frozen 0; simp only [List.getElem?_cons_zero] at b5; clear hN)
        | (refine wpIn_load_eq (g := w2.heap.size) rfl rfl (HLD.out _ _ HN5.out.2.2) ?_)
        | (refine wpIn_load_eq (g := w4.heap.size) rfl rfl (HLD.out _ _ HN5.out.2.1) ?_)
        | fail)
      have hne := HN.out
      have hk5 := HK.out.1 _ HN5.out.1
      have hsz5 := hk5.size
      have e1 : (((pre ++ [x]).length : Nat) : Int) = (j : Int) + 1 := by rw [HK.out.2.2.1]; omega
      have hbx : Boxed w5 bn 3 (.int .i64 (j : Nat)) := SB.row HN5.out.1 HX.out.n
      have hWW : wm.heap.size ≤ W.heap.size := hWs.out
      have hkA : Keeps (fun k => k ≠ bn) W (w5.setCell ⟨bn, 0, none⟩ (.int .i64 ((j : Int) + 1))) := (Keeps.of_below (L := fun k => k ≠ bn) HN5.out.1 (fun _ h _ => h)).setCell (p := ⟨bn, 0, none⟩) (.inl (fun h => h rfl)) _
      refine ⟨((below_others HN5.out.1).trans (KeepsOthers.setCell _ _ _)).from _, keepsA_of (L := fun k => k ≠ bn) hkA (by omega) (by omega) (by omega) (by omega) (by omega) (by omega), HK.out.2.1, ?_, hk5.setCell (p := ⟨bn, 0, none⟩) (.inl (fun h => h rfl)) _⟩
      rw [e1]
      exact hbx.set _
    · have hnp : ¬ (pre ++ [x]).map Subtype.val <+: List.range LS.length := fun h => hx (range_next h)
      have HNP := Lib.hid hnp
      obtain ⟨j, hj⟩ : ∃ j, pre.length = j := ⟨_, rfl⟩
      obtain ⟨i, hi⟩ : ∃ i, x.1 = i := ⟨_, rfl⟩
      rw [hj] at hn hx
      rw [hi] at hx ⊢
      have hne : ((i : Int) != (j : Int)) = true := by rw [bne_iff_ne]; omega
      have hne3 : ((i : Int) == (j : Int)) = false := by rw [beq_eq_false_iff_ne]; omega
      have hbr : Row W br 4 [.bool false] := (hk.block br (by have := HN.out; omega) (by have := HN.out; show br ≠ bn; omega)).trans HC.out.2.2.1
      have HX := Lib.hid (And.intro (show Row W bn 3 [.int .i64 (j : Nat)] from hn) hbr)
      clear hnp hn hbr hj hi hk hpre hx hrow
      gi_wp2
      refine round_quiet_lit (SB W) (by kernel_rfl) (by kernel_rfl) (by kernel_rfl) (below_drewK (Below.refl _ _) 1) ?_
      refine wpQuiet_yields (.int .i64 (i : Nat)) (Or.inl ⟨by rfl, fun W' hS => ?yq1⟩) ?_
      case yq1 =>
        go_simp
      try simp only [Act.put, List.setIfInBounds_toArray, List.set_cons_zero, List.set_cons_succ]
      refine wpQuiet_yields (.int .i64 (j : Nat)) (Or.inl ⟨by rfl, fun W' hS => ?yq2⟩) ?_
      case yq2 =>
        have q0 := (SB.row (l := [.int .i64 (j : Nat)]) hS HX.out.1).cell 0
        simp only [List.getElem?_cons_zero] at q0
        go_simp
      try simp only [Act.put, List.setIfInBounds_toArray, List.set_cons_zero, List.set_cons_succ]
      refine wpQuiet_yields (.bool true) (Or.inl ⟨by rfl, fun W' hS => ?yq3⟩) ?_
      case yq3 =>
        go_simp
      try simp only [Act.put, List.setIfInBounds_toArray, List.set_cons_zero, List.set_cons_succ]
      refine wpQuiet_yields (.bool true) (Or.inl ⟨by rfl, fun W' hS => ?yq4⟩) ?_
      case yq4 =>
        go_simp
      try simp only [Act.put, List.setIfInBounds_toArray, List.set_cons_zero, List.set_cons_succ]
      go_big_quiet_skip
      go_big_quiet_skip
      go_big_quiet_skip
      go_big_quiet_skip
      go_big_quiet_skip
      go_big_quiet_skip
      go_big_quiet_skip
      refine wpQuiet_yields (.bool true) (Or.inl ⟨by rfl, fun W' hS => ?yq5⟩) ?_
      case yq5 =>
        go_simp
      try simp only [Act.put, List.setIfInBounds_toArray, List.set_cons_zero, List.set_cons_succ]
      refine wpQuiet_yields (.bool true) (Or.inl ⟨by rfl, fun W' hS => ?yq6⟩) ?_
      case yq6 =>
        go_simp
      try simp only [Act.put, List.setIfInBounds_toArray, List.set_cons_zero, List.set_cons_succ]
      go_big_quiet_skip
      go_big_quiet_skip
      go_big_quiet_skip
      go_big_quiet_skip
      go_big_quiet_skip
      go_big_quiet_skip
      go_big_quiet_skip
      go_big_quiet_skip
      go_big_quiet_skip
      refine wpQuiet_yields (.bool true) (Or.inl ⟨by rfl, fun W' hS => ?yq7⟩) ?_
      case yq7 =>
        go_simp
      try simp only [Act.put, List.setIfInBounds_toArray, List.set_cons_zero, List.set_cons_succ]
      refine wpQuiet_yields (.bool true) (Or.inl ⟨by rfl, fun W' hS => ?yq8⟩) ?_
      case yq8 =>
        go_simp
      try simp only [Act.put, List.setIfInBounds_toArray, List.set_cons_zero, List.set_cons_succ]
      go_big_quiet_skip
      go_big_quiet_skip
      go_big_quiet_skip
      go_big_quiet_skip
      go_big_quiet_skip
      refine wpQuiet_yields (.bool true) (Or.inl ⟨by rfl, fun W' hS => ?yq9⟩) ?_
      case yq9 =>
        go_simp
      try simp only [Act.put, List.setIfInBounds_toArray, List.set_cons_zero, List.set_cons_succ]
      refine wpQuiet_nil ?_
      intro wf hwf

      have r0 := (SB.row hwf HX.out.2).cell 0
      have f0 := (SB.row hwf HX.out.2).frozen 0
      simp only [List.getElem?_cons_zero] at r0
      gi_wp2
      exact ⟨((below_others hwf).trans (KeepsOthers.setCell _ _ _)).from _, HNP.out⟩
  case hdone =>
    rintro D' xs W' hD' hS ⟨_, hn, hk⟩ hK'
    have hxl : xs.length = LS.length := by have h := congrArg List.length hS; simpa using h
    rw [hxl, HD.out.2.2.2.2] at hn
    have hne := HN.out
    have hkb : ∀ (b : Nat) (T : TypeId) (l : List Value), b < wm.heap.size → b ≠ bn → Row wm b T l → Row W' b T l := fun b T l h1 h2 h3 => (hk.block b h1 h2).trans h3
    have x1 : Row W' bn 3 [.int .i64 nl] := hn
    have x2 := hkb bd _ _ (by omega) (by omega) HC.out.1
    have x3 := hkb bq _ _ (by omega) (by omega) HC.out.2.1
    have x4 := hkb q _ _ HD.out.2.2.1.lt (fun e => HD.out.2.1.fp e) HD.out.2.2.1
    have x5 := hkb br _ _ (by omega) (by omega) HC.out.2.2.1
    have hdW : DiskIs (fun k => k = bn) W' p D := HD.out.1.keeps hk (fun g _ h2 => h2)
    have hdD : DiskIs (fun k => k = bn) W'.drew p D := hdW.below (below_drewK (Below.refl _ _) 1)
    have hB6 : SB w W' := HC.out.2.2.2.1.trans (hk.below (B := w.heap.size) (HC.out.2.2.2.1.size) (fun k h => by omega))
    have HS0 : Hid (Row W'.drew bn 3 [.int .i64 nl] ∧ Row W'.drew bd 24 [.pointer (some ⟨p, 0, none⟩)] ∧ Row W'.drew bq 28 [.pointer (some ⟨q, 0, none⟩)] ∧ Row W'.drew q 45 RC) := Lib.hid ⟨x1.drew, x2.drew, x3.drew, x4.drew⟩
    have hnr : bn ≠ br ∧ bd ≠ br ∧ bq ≠ br := by omega
    have hqr : q ≠ br := fun e => by
      have h1 := HD.out.2.2.1
      have h2 := HC.out.2.2.1
      unfold Row at h1 h2
      rw [e, h2] at h1
      injection h1 with h1
      injection h1 with _ h3
      revert h3
      decide
    have HS6 : Hid (Row (W'.drew.setCell ⟨br, 0, none⟩ (.bool true)) bn 3 [.int .i64 nl] ∧ Row (W'.drew.setCell ⟨br, 0, none⟩ (.bool true)) bd 24 [.pointer (some ⟨p, 0, none⟩)] ∧ Row (W'.drew.setCell ⟨br, 0, none⟩ (.bool true)) bq 28 [.pointer (some ⟨q, 0, none⟩)] ∧ Row (W'.drew.setCell ⟨br, 0, none⟩ (.bool true)) q 45 RC) := Lib.hid ⟨x1.drew.far hnr.1 _, x2.drew.far hnr.2.1 _, x3.drew.far hnr.2.2 _, x4.drew.far hqr _⟩
    have HR5 := Lib.hid (And.intro x5 (And.intro hK' (And.intro hB6 hD')))
    have HSE : Hid (Calls Tryz.prog 58 #[.pointer (some ⟨p, 0, none⟩)] W'.drew fun e w' => e = .returned (.int .i64 nl) ∧ W'.drew = w') := Lib.hid (by
      obtain ⟨gl', gm', hv', Dm', hd'⟩ := hdD
      have h := Sectors_any hd'
      rw [HD.out.2.2.2.1, HD.out.2.2.2.2] at h
      exact h)
    have HDO : Hid (Calls Tryz.prog 59 #[.pointer (some ⟨p, 0, none⟩)] W'.drew fun e w' => e = .returned (.bool D.down) ∧ W'.drew = w') := Lib.hid (by
      obtain ⟨gl', gm', hv', Dm', hd'⟩ := hdD
      exact Down_any hd')
    have HST : Hid (Calls Tryz.prog 24 #[.pointer (some ⟨p, 0, none⟩)] W'.drew fun e w' => e = .returned (.int .i64 (D.steps : Nat)) ∧ W'.drew = w') := Lib.hid (by
      obtain ⟨gl', gm', hv', Dm', hd'⟩ := hdD
      exact Steps_any hd')
    have HHA : Hid (Calls Tryz.prog 60 #[.pointer (some ⟨p, 0, none⟩)] W'.drew fun e w' => e = .returned (.int .i64 (128 * (nh : Int))) ∧ W'.drew = w') := Lib.hid (by
      obtain ⟨gl', gm', hv', Dm', hd'⟩ := hdD
      have h := Hangs_any hd' (by have := HH.out.2; omega)
      rw [HNH.out, Int.mul_comm] at h
      exact h)
    have hnh6 : (nh : Int) < 1000000 := by have := HH.out.2; have := HNH.out; omega
    obtain ⟨sp, hsp⟩ : ∃ sp, D.steps = sp := ⟨_, rfl⟩
    obtain ⟨dn, hdn⟩ : ∃ dn, D.down = dn := ⟨_, rfl⟩
    rw [hsp] at HST HRC
    rw [hdn] at HDO HRC
    clear hn hk hS hxl hne hkb hnr hqr x1 x2 x3 x4 x5 hdW hdD hB6 hsp hdn hD' hK'
    go_wp2_with fail
    refine wp_region_noPanic ?_
    refine wp_region_held_drew (S := fun W => Row W bn 3 [.int .i64 nl] ∧ Row W bd 24 [.pointer (some ⟨p, 0, none⟩)] ∧ Row W bq 28 [.pointer (some ⟨q, 0, none⟩)] ∧ Row W q 45 RC) (by kernel_rfl) HS0.out (fun hHeld => ?_)
    refine wpAnyH_take (i := 0) (oi := { dst := some 72, op := Op.load 3 (Operand.tmp 6), type := 3, pos := "law.go:79", after := #[], guard := none }) (v := ?vve_0) rfl (by kernel_rfl) (by kernel_rfl) (by kernel_rfl) (fun _ _ _ h => h) (Or.inl ⟨by rfl, ?yye_0⟩) hHeld ?_
    case vve_0 => exact .int .i64 nl
    case yye_0 =>
      intro W hS
      have q0 := Row.cell hS.1 0
      simp only [List.getElem?_cons_zero] at q0
      go_simp
    try simp only [Act.put, List.setIfInBounds_toArray, List.set_cons_zero, List.set_cons_succ]
    refine wpAnyH_take (i := 1) (oi := { dst := some 73, op := Op.load 28 (Operand.tmp 3), type := 28, pos := "law.go:79", after := #[], guard := none }) (v := ?vve_1) rfl (by kernel_rfl) (by kernel_rfl) (by kernel_rfl) (fun _ _ _ h => h) (Or.inl ⟨by rfl, ?yye_1⟩) hHeld ?_
    case vve_1 => exact Value.pointer (some ⟨q, 0, none⟩)
    case yye_1 =>
      intro W hS
      have q0 := Row.cell hS.2.2.1 0
      simp only [List.getElem?_cons_zero] at q0
      go_simp
    try simp only [Act.put, List.setIfInBounds_toArray, List.set_cons_zero, List.set_cons_succ]
    refine wpAnyH_take (i := 2) (oi := { dst := some 74, op := Op.nilCheck (Operand.tmp 73), type := 0, pos := "law.go:79", after := #[{ on := 1, ground := Ground.data }], guard := none }) (v := ?vve_2) rfl (by kernel_rfl) (by kernel_rfl) (by kernel_rfl) (fun _ _ _ h => h) (Or.inl ⟨by rfl, ?yye_2⟩) hHeld ?_
    case vve_2 => exact Value.pointer (some ⟨q, 0, none⟩)
    case yye_2 =>
      intro W hS
      go_simp
    try simp only [Act.put, List.setIfInBounds_toArray, List.set_cons_zero, List.set_cons_succ]
    refine wpAnyH_take (i := 3) (oi := { dst := some 75, op := Op.fieldAddr 45 (Operand.tmp 74) 0, type := 0, pos := "law.go:79", after := #[{ on := 2, ground := Ground.data }], guard := none }) (v := ?vve_3) rfl (by kernel_rfl) (by kernel_rfl) (by kernel_rfl) (fun _ _ _ h => h) (Or.inl ⟨by rfl, ?yye_3⟩) hHeld ?_
    case vve_3 => exact .pointer (some ⟨q, 0, none⟩)
    case yye_3 =>
      intro W hS
      go_simp
    try simp only [Act.put, List.setIfInBounds_toArray, List.set_cons_zero, List.set_cons_succ]
    refine wpAnyH_take (i := 4) (oi := { dst := some 76, op := Op.load 42 (Operand.tmp 75), type := 42, pos := "law.go:79", after := #[{ on := 3, ground := Ground.data }], guard := none }) (v := ?vve_4) rfl (by kernel_rfl) (by kernel_rfl) (by kernel_rfl) (fun _ _ _ h => h) (Or.inl ⟨by rfl, ?yye_4⟩) hHeld ?_
    case vve_4 => exact .slice (some ⟨gr, 0, none⟩) nl nl
    case yye_4 =>
      intro W hS
      have q0 := Row.cell hS.2.2.2 0
      simp only [HRC.out, List.getElem?_cons_zero, List.getElem?_cons_succ] at q0
      go_simp
    try simp only [Act.put, List.setIfInBounds_toArray, List.set_cons_zero, List.set_cons_succ]
    refine wpAnyH_take (i := 5) (oi := { dst := some 77, op := Op.call { callee := Callee.builtin Builtin.len, args := #[Operand.tmp 76], argTypes := #[42] }, type := 3, pos := "law.go:79", after := #[{ on := 4, ground := Ground.data }], guard := none }) (v := ?vve_5) rfl (by kernel_rfl) (by kernel_rfl) (by kernel_rfl) (fun _ _ _ h => h) (Or.inl ⟨by rfl, ?yye_5⟩) hHeld ?_
    case vve_5 => exact .int .i64 nl
    case yye_5 =>
      intro W hS
      go_simp
    try simp only [Act.put, List.setIfInBounds_toArray, List.set_cons_zero, List.set_cons_succ]
    refine wpAnyH_take (i := 6) (oi := { dst := some 78, op := Op.binOp BinOp.eql 3 (Operand.tmp 72) (Operand.tmp 77) 3, type := 4, pos := "law.go:79", after := #[{ on := 0, ground := Ground.data }, { on := 5, ground := Ground.data }], guard := none }) (v := ?vve_6) rfl (by kernel_rfl) (by kernel_rfl) (by kernel_rfl) (fun _ _ _ h => h) (Or.inl ⟨by rfl, ?yye_6⟩) hHeld ?_
    case vve_6 => exact .bool true
    case yye_6 =>
      intro W hS
      go_simp
    try simp only [Act.put, List.setIfInBounds_toArray, List.set_cons_zero, List.set_cons_succ]
    refine wpAnyH_take (i := 7) (oi := { dst := some 79, op := Op.move (Operand.tmp 78), type := 4, pos := "law.go:79", after := #[{ on := 6, ground := Ground.data }], guard := none }) (v := ?vve_7) rfl (by kernel_rfl) (by kernel_rfl) (by kernel_rfl) (fun _ _ _ h => h) (Or.inl ⟨by rfl, ?yye_7⟩) hHeld ?_
    case vve_7 => exact .bool true
    case yye_7 =>
      intro W hS
      go_simp
    try simp only [Act.put, List.setIfInBounds_toArray, List.set_cons_zero, List.set_cons_succ]
    refine wpAnyH_take (i := 8) (oi := { dst := some 80, op := Op.load 24 (Operand.tmp 2), type := 24, pos := "law.go:79", after := #[{ on := 7, ground := Ground.guard }], guard := some (7, true) }) (v := ?vve_8) rfl (by kernel_rfl) (by kernel_rfl) (by kernel_rfl) (fun _ _ _ h => h) (Or.inl ⟨by rfl, ?yye_8⟩) hHeld ?_
    case vve_8 => exact Value.pointer (some ⟨p, 0, none⟩)
    case yye_8 =>
      intro W hS
      have q0 := Row.cell hS.2.1 0
      simp only [List.getElem?_cons_zero] at q0
      go_simp
    try simp only [Act.put, List.setIfInBounds_toArray, List.set_cons_zero, List.set_cons_succ]
    refine wpAnyH_take (i := 10) (oi := { dst := some 82, op := Op.load 3 (Operand.tmp 6), type := 3, pos := "law.go:79", after := #[{ on := 7, ground := Ground.guard }], guard := some (7, true) }) (v := ?vve_10) rfl (by kernel_rfl) (by kernel_rfl) (by kernel_rfl) (fun _ _ _ h => h) (Or.inl ⟨by rfl, ?yye_10⟩) hHeld ?_
    case vve_10 => exact .int .i64 nl
    case yye_10 =>
      intro W hS
      have q0 := Row.cell hS.1 0
      simp only [List.getElem?_cons_zero] at q0
      go_simp
    try simp only [Act.put, List.setIfInBounds_toArray, List.set_cons_zero, List.set_cons_succ]
    refine wpAnyH_ready (rs := [9]) (by kernel_rfl) (by simp) (AllReadyH.cons (o := { dst := some 81, op := Op.call { callee := Callee.value (Operand.func 58), args := #[Operand.tmp 80], argTypes := #[24] }, type := 3, pos := "law.go:79", after := #[{ on := 8, ground := Ground.data }, { on := 7, ground := Ground.chain }, { on := 7, ground := Ground.guard }], guard := some (7, true) }) rfl (fun K hK => ?_) AllReadyH.nil)
    go_simp
    go_at_call 58
    refine HSE.out.mono ?_
    rintro e w1 ⟨rfl, rfl⟩
    refine hK.out _ _ HS0.out (fun hHeld => ?_)
    clear hK K
    try simp only [Act.put, List.setIfInBounds_toArray, List.set_cons_zero, List.set_cons_succ]
    refine wpAnyH_take (i := 11) (oi := { dst := some 83, op := Op.binOp BinOp.eql 3 (Operand.tmp 81) (Operand.tmp 82) 3, type := 4, pos := "law.go:79", after := #[{ on := 9, ground := Ground.data }, { on := 10, ground := Ground.data }, { on := 7, ground := Ground.guard }], guard := some (7, true) }) (v := ?vve_11) rfl (by kernel_rfl) (by kernel_rfl) (by kernel_rfl) (fun _ _ _ h => h) (Or.inl ⟨by rfl, ?yye_11⟩) hHeld ?_
    case vve_11 => exact .bool true
    case yye_11 =>
      intro W hS
      go_simp
    try simp only [Act.put, List.setIfInBounds_toArray, List.set_cons_zero, List.set_cons_succ]
    refine wpAnyH_take (i := 12) (oi := { dst := some 84, op := Op.pick (Operand.tmp 79) (Operand.tmp 83) (Operand.const (Value.bool false)), type := 4, pos := "law.go:79", after := #[{ on := 7, ground := Ground.data }, { on := 11, ground := Ground.data }], guard := none }) (v := ?vve_12) rfl (by kernel_rfl) (by kernel_rfl) (by kernel_rfl) (fun _ _ _ h => h) (Or.inl ⟨by rfl, ?yye_12⟩) hHeld ?_
    case vve_12 => exact .bool true
    case yye_12 =>
      intro W hS
      go_simp
    try simp only [Act.put, List.setIfInBounds_toArray, List.set_cons_zero, List.set_cons_succ]
    refine wpAnyH_take (i := 13) (oi := { dst := some 85, op := Op.move (Operand.tmp 84), type := 4, pos := "law.go:79", after := #[{ on := 12, ground := Ground.data }, { on := 9, ground := Ground.chain }], guard := none }) (v := ?vve_13) rfl (by kernel_rfl) (by kernel_rfl) (by kernel_rfl) (fun _ _ _ h => h) (Or.inl ⟨by rfl, ?yye_13⟩) hHeld ?_
    case vve_13 => exact .bool true
    case yye_13 =>
      intro W hS
      go_simp
    try simp only [Act.put, List.setIfInBounds_toArray, List.set_cons_zero, List.set_cons_succ]
    refine wpAnyH_take (i := 14) (oi := { dst := some 86, op := Op.load 24 (Operand.tmp 2), type := 24, pos := "law.go:79", after := #[{ on := 13, ground := Ground.guard }], guard := some (13, true) }) (v := ?vve_14) rfl (by kernel_rfl) (by kernel_rfl) (by kernel_rfl) (fun _ _ _ h => h) (Or.inl ⟨by rfl, ?yye_14⟩) hHeld ?_
    case vve_14 => exact Value.pointer (some ⟨p, 0, none⟩)
    case yye_14 =>
      intro W hS
      have q0 := Row.cell hS.2.1 0
      simp only [List.getElem?_cons_zero] at q0
      go_simp
    try simp only [Act.put, List.setIfInBounds_toArray, List.set_cons_zero, List.set_cons_succ]
    refine wpAnyH_take (i := 16) (oi := { dst := some 88, op := Op.load 28 (Operand.tmp 3), type := 28, pos := "law.go:79", after := #[{ on := 13, ground := Ground.guard }], guard := some (13, true) }) (v := ?vve_16) rfl (by kernel_rfl) (by kernel_rfl) (by kernel_rfl) (fun _ _ _ h => h) (Or.inl ⟨by rfl, ?yye_16⟩) hHeld ?_
    case vve_16 => exact Value.pointer (some ⟨q, 0, none⟩)
    case yye_16 =>
      intro W hS
      have q0 := Row.cell hS.2.2.1 0
      simp only [List.getElem?_cons_zero] at q0
      go_simp
    try simp only [Act.put, List.setIfInBounds_toArray, List.set_cons_zero, List.set_cons_succ]
    refine wpAnyH_take (i := 17) (oi := { dst := some 89, op := Op.nilCheck (Operand.tmp 88), type := 0, pos := "law.go:79", after := #[{ on := 16, ground := Ground.data }, { on := 13, ground := Ground.guard }], guard := some (13, true) }) (v := ?vve_17) rfl (by kernel_rfl) (by kernel_rfl) (by kernel_rfl) (fun _ _ _ h => h) (Or.inl ⟨by rfl, ?yye_17⟩) hHeld ?_
    case vve_17 => exact Value.pointer (some ⟨q, 0, none⟩)
    case yye_17 =>
      intro W hS
      go_simp
    try simp only [Act.put, List.setIfInBounds_toArray, List.set_cons_zero, List.set_cons_succ]
    refine wpAnyH_take (i := 18) (oi := { dst := some 90, op := Op.fieldAddr 45 (Operand.tmp 89) 4, type := 0, pos := "law.go:79", after := #[{ on := 17, ground := Ground.data }, { on := 13, ground := Ground.guard }], guard := some (13, true) }) (v := ?vve_18) rfl (by kernel_rfl) (by kernel_rfl) (by kernel_rfl) (fun _ _ _ h => h) (Or.inl ⟨by rfl, ?yye_18⟩) hHeld ?_
    case vve_18 => exact .pointer (some ⟨q, 4, none⟩)
    case yye_18 =>
      intro W hS
      go_simp
    try simp only [Act.put, List.setIfInBounds_toArray, List.set_cons_zero, List.set_cons_succ]
    refine wpAnyH_take (i := 19) (oi := { dst := some 91, op := Op.load 4 (Operand.tmp 90), type := 4, pos := "law.go:79", after := #[{ on := 18, ground := Ground.data }, { on := 13, ground := Ground.guard }], guard := some (13, true) }) (v := ?vve_19) rfl (by kernel_rfl) (by kernel_rfl) (by kernel_rfl) (fun _ _ _ h => h) (Or.inl ⟨by rfl, ?yye_19⟩) hHeld ?_
    case vve_19 => exact .bool dn
    case yye_19 =>
      intro W hS
      have q0 := Row.cell hS.2.2.2 4
      simp only [HRC.out, List.getElem?_cons_zero, List.getElem?_cons_succ] at q0
      go_simp
    try simp only [Act.put, List.setIfInBounds_toArray, List.set_cons_zero, List.set_cons_succ]
    refine wpAnyH_ready (rs := [15]) (by kernel_rfl) (by simp) (AllReadyH.cons (o := { dst := some 87, op := Op.call { callee := Callee.value (Operand.func 59), args := #[Operand.tmp 86], argTypes := #[24] }, type := 4, pos := "law.go:79", after := #[{ on := 14, ground := Ground.data }, { on := 13, ground := Ground.chain }, { on := 13, ground := Ground.guard }], guard := some (13, true) }) rfl (fun K hK => ?_) AllReadyH.nil)
    go_simp
    go_at_call 59
    refine HDO.out.mono ?_
    rintro e w1 ⟨rfl, rfl⟩
    refine hK.out _ _ HS0.out (fun hHeld => ?_)
    clear hK K
    try simp only [Act.put, List.setIfInBounds_toArray, List.set_cons_zero, List.set_cons_succ]
    refine wpAnyH_take (i := 20) (oi := { dst := some 92, op := Op.binOp BinOp.eql 4 (Operand.tmp 87) (Operand.tmp 91) 4, type := 4, pos := "law.go:79", after := #[{ on := 15, ground := Ground.data }, { on := 19, ground := Ground.data }, { on := 13, ground := Ground.guard }], guard := some (13, true) }) (v := ?vve_20) rfl (by kernel_rfl) (by kernel_rfl) (by kernel_rfl) (fun _ _ _ h => h) (Or.inl ⟨by rfl, ?yye_20⟩) hHeld ?_
    case vve_20 => exact .bool true
    case yye_20 =>
      intro W hS
      go_simp
    try simp only [Act.put, List.setIfInBounds_toArray, List.set_cons_zero, List.set_cons_succ]
    refine wpAnyH_take (i := 21) (oi := { dst := some 93, op := Op.pick (Operand.tmp 85) (Operand.tmp 92) (Operand.const (Value.bool false)), type := 4, pos := "law.go:79", after := #[{ on := 13, ground := Ground.data }, { on := 20, ground := Ground.data }], guard := none }) (v := ?vve_21) rfl (by kernel_rfl) (by kernel_rfl) (by kernel_rfl) (fun _ _ _ h => h) (Or.inl ⟨by rfl, ?yye_21⟩) hHeld ?_
    case vve_21 => exact .bool true
    case yye_21 =>
      intro W hS
      go_simp
    try simp only [Act.put, List.setIfInBounds_toArray, List.set_cons_zero, List.set_cons_succ]
    refine wpAnyH_take (i := 22) (oi := { dst := some 94, op := Op.move (Operand.tmp 93), type := 4, pos := "law.go:79", after := #[{ on := 21, ground := Ground.data }, { on := 15, ground := Ground.chain }], guard := none }) (v := ?vve_22) rfl (by kernel_rfl) (by kernel_rfl) (by kernel_rfl) (fun _ _ _ h => h) (Or.inl ⟨by rfl, ?yye_22⟩) hHeld ?_
    case vve_22 => exact .bool true
    case yye_22 =>
      intro W hS
      go_simp
    try simp only [Act.put, List.setIfInBounds_toArray, List.set_cons_zero, List.set_cons_succ]
    refine wpAnyH_take (i := 23) (oi := { dst := some 95, op := Op.load 24 (Operand.tmp 2), type := 24, pos := "law.go:79", after := #[{ on := 22, ground := Ground.guard }], guard := some (22, true) }) (v := ?vve_23) rfl (by kernel_rfl) (by kernel_rfl) (by kernel_rfl) (fun _ _ _ h => h) (Or.inl ⟨by rfl, ?yye_23⟩) hHeld ?_
    case vve_23 => exact Value.pointer (some ⟨p, 0, none⟩)
    case yye_23 =>
      intro W hS
      have q0 := Row.cell hS.2.1 0
      simp only [List.getElem?_cons_zero] at q0
      go_simp
    try simp only [Act.put, List.setIfInBounds_toArray, List.set_cons_zero, List.set_cons_succ]
    refine wpAnyH_take (i := 25) (oi := { dst := some 97, op := Op.load 28 (Operand.tmp 3), type := 28, pos := "law.go:79", after := #[{ on := 22, ground := Ground.guard }], guard := some (22, true) }) (v := ?vve_25) rfl (by kernel_rfl) (by kernel_rfl) (by kernel_rfl) (fun _ _ _ h => h) (Or.inl ⟨by rfl, ?yye_25⟩) hHeld ?_
    case vve_25 => exact Value.pointer (some ⟨q, 0, none⟩)
    case yye_25 =>
      intro W hS
      have q0 := Row.cell hS.2.2.1 0
      simp only [List.getElem?_cons_zero] at q0
      go_simp
    try simp only [Act.put, List.setIfInBounds_toArray, List.set_cons_zero, List.set_cons_succ]
    refine wpAnyH_take (i := 26) (oi := { dst := some 98, op := Op.nilCheck (Operand.tmp 97), type := 0, pos := "law.go:79", after := #[{ on := 25, ground := Ground.data }, { on := 22, ground := Ground.guard }], guard := some (22, true) }) (v := ?vve_26) rfl (by kernel_rfl) (by kernel_rfl) (by kernel_rfl) (fun _ _ _ h => h) (Or.inl ⟨by rfl, ?yye_26⟩) hHeld ?_
    case vve_26 => exact Value.pointer (some ⟨q, 0, none⟩)
    case yye_26 =>
      intro W hS
      go_simp
    try simp only [Act.put, List.setIfInBounds_toArray, List.set_cons_zero, List.set_cons_succ]
    refine wpAnyH_take (i := 27) (oi := { dst := some 99, op := Op.fieldAddr 45 (Operand.tmp 98) 2, type := 0, pos := "law.go:79", after := #[{ on := 26, ground := Ground.data }, { on := 22, ground := Ground.guard }], guard := some (22, true) }) (v := ?vve_27) rfl (by kernel_rfl) (by kernel_rfl) (by kernel_rfl) (fun _ _ _ h => h) (Or.inl ⟨by rfl, ?yye_27⟩) hHeld ?_
    case vve_27 => exact .pointer (some ⟨q, 2, none⟩)
    case yye_27 =>
      intro W hS
      go_simp
    try simp only [Act.put, List.setIfInBounds_toArray, List.set_cons_zero, List.set_cons_succ]
    refine wpAnyH_take (i := 28) (oi := { dst := some 100, op := Op.load 3 (Operand.tmp 99), type := 3, pos := "law.go:79", after := #[{ on := 27, ground := Ground.data }, { on := 22, ground := Ground.guard }], guard := some (22, true) }) (v := ?vve_28) rfl (by kernel_rfl) (by kernel_rfl) (by kernel_rfl) (fun _ _ _ h => h) (Or.inl ⟨by rfl, ?yye_28⟩) hHeld ?_
    case vve_28 => exact .int .i64 sp
    case yye_28 =>
      intro W hS
      have q0 := Row.cell hS.2.2.2 2
      simp only [HRC.out, List.getElem?_cons_zero, List.getElem?_cons_succ] at q0
      go_simp
    try simp only [Act.put, List.setIfInBounds_toArray, List.set_cons_zero, List.set_cons_succ]
    refine wpAnyH_ready (rs := [24]) (by kernel_rfl) (by simp) (AllReadyH.cons (o := { dst := some 96, op := Op.call { callee := Callee.value (Operand.func 24), args := #[Operand.tmp 95], argTypes := #[24] }, type := 3, pos := "law.go:79", after := #[{ on := 23, ground := Ground.data }, { on := 22, ground := Ground.chain }, { on := 22, ground := Ground.guard }], guard := some (22, true) }) rfl (fun K hK => ?_) AllReadyH.nil)
    go_simp
    go_at_call 24
    refine HST.out.mono ?_
    rintro e w1 ⟨rfl, rfl⟩
    refine hK.out _ _ HS0.out (fun hHeld => ?_)
    clear hK K
    try simp only [Act.put, List.setIfInBounds_toArray, List.set_cons_zero, List.set_cons_succ]
    refine wpAnyH_take (i := 29) (oi := { dst := some 101, op := Op.binOp BinOp.eql 3 (Operand.tmp 96) (Operand.tmp 100) 3, type := 4, pos := "law.go:79", after := #[{ on := 24, ground := Ground.data }, { on := 28, ground := Ground.data }, { on := 22, ground := Ground.guard }], guard := some (22, true) }) (v := ?vve_29) rfl (by kernel_rfl) (by kernel_rfl) (by kernel_rfl) (fun _ _ _ h => h) (Or.inl ⟨by rfl, ?yye_29⟩) hHeld ?_
    case vve_29 => exact .bool true
    case yye_29 =>
      intro W hS
      go_simp
    try simp only [Act.put, List.setIfInBounds_toArray, List.set_cons_zero, List.set_cons_succ]
    refine wpAnyH_take (i := 30) (oi := { dst := some 102, op := Op.pick (Operand.tmp 94) (Operand.tmp 101) (Operand.const (Value.bool false)), type := 4, pos := "law.go:79", after := #[{ on := 22, ground := Ground.data }, { on := 29, ground := Ground.data }], guard := none }) (v := ?vve_30) rfl (by kernel_rfl) (by kernel_rfl) (by kernel_rfl) (fun _ _ _ h => h) (Or.inl ⟨by rfl, ?yye_30⟩) hHeld ?_
    case vve_30 => exact .bool true
    case yye_30 =>
      intro W hS
      go_simp
    try simp only [Act.put, List.setIfInBounds_toArray, List.set_cons_zero, List.set_cons_succ]
    refine wpAnyH_take (i := 31) (oi := { dst := some 103, op := Op.move (Operand.tmp 102), type := 4, pos := "law.go:79", after := #[{ on := 30, ground := Ground.data }, { on := 24, ground := Ground.chain }], guard := none }) (v := ?vve_31) rfl (by kernel_rfl) (by kernel_rfl) (by kernel_rfl) (fun _ _ _ h => h) (Or.inl ⟨by rfl, ?yye_31⟩) hHeld ?_
    case vve_31 => exact .bool true
    case yye_31 =>
      intro W hS
      go_simp
    try simp only [Act.put, List.setIfInBounds_toArray, List.set_cons_zero, List.set_cons_succ]
    refine wpAnyH_take (i := 32) (oi := { dst := some 104, op := Op.load 24 (Operand.tmp 2), type := 24, pos := "law.go:79", after := #[{ on := 31, ground := Ground.guard }], guard := some (31, true) }) (v := ?vve_32) rfl (by kernel_rfl) (by kernel_rfl) (by kernel_rfl) (fun _ _ _ h => h) (Or.inl ⟨by rfl, ?yye_32⟩) hHeld ?_
    case vve_32 => exact Value.pointer (some ⟨p, 0, none⟩)
    case yye_32 =>
      intro W hS
      have q0 := Row.cell hS.2.1 0
      simp only [List.getElem?_cons_zero] at q0
      go_simp
    try simp only [Act.put, List.setIfInBounds_toArray, List.set_cons_zero, List.set_cons_succ]
    refine wpAnyH_take (i := 34) (oi := { dst := some 106, op := Op.load 28 (Operand.tmp 3), type := 28, pos := "law.go:79", after := #[{ on := 31, ground := Ground.guard }], guard := some (31, true) }) (v := ?vve_34) rfl (by kernel_rfl) (by kernel_rfl) (by kernel_rfl) (fun _ _ _ h => h) (Or.inl ⟨by rfl, ?yye_34⟩) hHeld ?_
    case vve_34 => exact Value.pointer (some ⟨q, 0, none⟩)
    case yye_34 =>
      intro W hS
      have q0 := Row.cell hS.2.2.1 0
      simp only [List.getElem?_cons_zero] at q0
      go_simp
    try simp only [Act.put, List.setIfInBounds_toArray, List.set_cons_zero, List.set_cons_succ]
    refine wpAnyH_take (i := 35) (oi := { dst := some 107, op := Op.nilCheck (Operand.tmp 106), type := 0, pos := "law.go:79", after := #[{ on := 34, ground := Ground.data }, { on := 31, ground := Ground.guard }], guard := some (31, true) }) (v := ?vve_35) rfl (by kernel_rfl) (by kernel_rfl) (by kernel_rfl) (fun _ _ _ h => h) (Or.inl ⟨by rfl, ?yye_35⟩) hHeld ?_
    case vve_35 => exact Value.pointer (some ⟨q, 0, none⟩)
    case yye_35 =>
      intro W hS
      go_simp
    try simp only [Act.put, List.setIfInBounds_toArray, List.set_cons_zero, List.set_cons_succ]
    refine wpAnyH_take (i := 36) (oi := { dst := some 108, op := Op.fieldAddr 45 (Operand.tmp 107) 1, type := 0, pos := "law.go:79", after := #[{ on := 35, ground := Ground.data }, { on := 31, ground := Ground.guard }], guard := some (31, true) }) (v := ?vve_36) rfl (by kernel_rfl) (by kernel_rfl) (by kernel_rfl) (fun _ _ _ h => h) (Or.inl ⟨by rfl, ?yye_36⟩) hHeld ?_
    case vve_36 => exact .pointer (some ⟨q, 1, none⟩)
    case yye_36 =>
      intro W hS
      go_simp
    try simp only [Act.put, List.setIfInBounds_toArray, List.set_cons_zero, List.set_cons_succ]
    refine wpAnyH_take (i := 37) (oi := { dst := some 109, op := Op.load 43 (Operand.tmp 108), type := 43, pos := "law.go:79", after := #[{ on := 36, ground := Ground.data }, { on := 31, ground := Ground.guard }], guard := some (31, true) }) (v := ?vve_37) rfl (by kernel_rfl) (by kernel_rfl) (by kernel_rfl) (fun _ _ _ h => h) (Or.inl ⟨by rfl, ?yye_37⟩) hHeld ?_
    case vve_37 => exact .slice ha nh hc
    case yye_37 =>
      intro W hS
      have q0 := Row.cell hS.2.2.2 1
      simp only [HRC.out, List.getElem?_cons_zero, List.getElem?_cons_succ] at q0
      go_simp
    try simp only [Act.put, List.setIfInBounds_toArray, List.set_cons_zero, List.set_cons_succ]
    refine wpAnyH_take (i := 38) (oi := { dst := some 110, op := Op.call { callee := Callee.builtin Builtin.len, args := #[Operand.tmp 109], argTypes := #[43] }, type := 3, pos := "law.go:79", after := #[{ on := 37, ground := Ground.data }, { on := 31, ground := Ground.guard }], guard := some (31, true) }) (v := ?vve_38) rfl (by kernel_rfl) (by kernel_rfl) (by kernel_rfl) (fun _ _ _ h => h) (Or.inl ⟨by rfl, ?yye_38⟩) hHeld ?_
    case vve_38 => exact .int .i64 nh
    case yye_38 =>
      intro W hS
      go_simp
    try simp only [Act.put, List.setIfInBounds_toArray, List.set_cons_zero, List.set_cons_succ]
    refine wpAnyH_take (i := 39) (oi := { dst := some 111, op := Op.binOp BinOp.mul 3 (Operand.const (Value.int IntKind.i64 128)) (Operand.tmp 110) 3, type := 3, pos := "law.go:79", after := #[{ on := 38, ground := Ground.data }, { on := 31, ground := Ground.guard }], guard := some (31, true) }) (v := ?vve_39) rfl (by kernel_rfl) (by kernel_rfl) (by kernel_rfl) (fun _ _ _ h => h) (Or.inl ⟨by rfl, ?yye_39⟩) hHeld ?_
    case vve_39 => exact .int .i64 (128 * (nh : Int))
    case yye_39 =>
      intro W hS
      go_simp
      rw [IntKind.wrap_i64]
      omega
    try simp only [Act.put, List.setIfInBounds_toArray, List.set_cons_zero, List.set_cons_succ]
    refine wpAnyH_ready (rs := [33]) (by kernel_rfl) (by simp) (AllReadyH.cons (o := { dst := some 105, op := Op.call { callee := Callee.value (Operand.func 60), args := #[Operand.tmp 104], argTypes := #[24] }, type := 3, pos := "law.go:79", after := #[{ on := 32, ground := Ground.data }, { on := 31, ground := Ground.chain }, { on := 31, ground := Ground.guard }], guard := some (31, true) }) rfl (fun K hK => ?_) AllReadyH.nil)
    go_simp
    go_at_call 60
    refine HHA.out.mono ?_
    rintro e w1 ⟨rfl, rfl⟩
    refine hK.out _ _ HS0.out (fun hHeld => ?_)
    clear hK K
    try simp only [Act.put, List.setIfInBounds_toArray, List.set_cons_zero, List.set_cons_succ]
    refine wpAnyH_take (i := 40) (oi := { dst := some 112, op := Op.binOp BinOp.eql 3 (Operand.tmp 105) (Operand.tmp 111) 3, type := 4, pos := "law.go:79", after := #[{ on := 33, ground := Ground.data }, { on := 39, ground := Ground.data }, { on := 31, ground := Ground.guard }], guard := some (31, true) }) (v := ?vve_40) rfl (by kernel_rfl) (by kernel_rfl) (by kernel_rfl) (fun _ _ _ h => h) (Or.inl ⟨by rfl, ?yye_40⟩) hHeld ?_
    case vve_40 => exact .bool true
    case yye_40 =>
      intro W hS
      go_simp
    try simp only [Act.put, List.setIfInBounds_toArray, List.set_cons_zero, List.set_cons_succ]
    refine wpAnyH_take (i := 41) (oi := { dst := some 113, op := Op.pick (Operand.tmp 103) (Operand.tmp 112) (Operand.const (Value.bool false)), type := 4, pos := "law.go:79", after := #[{ on := 31, ground := Ground.data }, { on := 40, ground := Ground.data }], guard := none }) (v := ?vve_41) rfl (by kernel_rfl) (by kernel_rfl) (by kernel_rfl) (fun _ _ _ h => h) (Or.inl ⟨by rfl, ?yye_41⟩) hHeld ?_
    case vve_41 => exact .bool true
    case yye_41 =>
      intro W hS
      go_simp
    try simp only [Act.put, List.setIfInBounds_toArray, List.set_cons_zero, List.set_cons_succ]
    refine wpAnyH_ready (rs := [42]) (by kernel_rfl) (by simp) (AllReadyH.cons (o := { dst := none, op := Op.store 4 (Operand.tmp 4) (Operand.tmp 113), type := 0, pos := "law.go:79", after := #[{ on := 41, ground := Ground.data }, { on := 33, ground := Ground.chain }, { on := 0, ground := Ground.phase }, { on := 1, ground := Ground.phase }, { on := 2, ground := Ground.phase }, { on := 3, ground := Ground.phase }, { on := 4, ground := Ground.phase }, { on := 5, ground := Ground.phase }, { on := 6, ground := Ground.phase }, { on := 7, ground := Ground.phase }, { on := 8, ground := Ground.phase }, { on := 9, ground := Ground.phase }, { on := 10, ground := Ground.phase }, { on := 11, ground := Ground.phase }, { on := 12, ground := Ground.phase }, { on := 13, ground := Ground.phase }, { on := 14, ground := Ground.phase }, { on := 15, ground := Ground.phase }, { on := 16, ground := Ground.phase }, { on := 17, ground := Ground.phase }, { on := 18, ground := Ground.phase }, { on := 19, ground := Ground.phase }, { on := 20, ground := Ground.phase }, { on := 21, ground := Ground.phase }, { on := 22, ground := Ground.phase }, { on := 23, ground := Ground.phase }, { on := 24, ground := Ground.phase }, { on := 25, ground := Ground.phase }, { on := 26, ground := Ground.phase }, { on := 27, ground := Ground.phase }, { on := 28, ground := Ground.phase }, { on := 29, ground := Ground.phase }, { on := 30, ground := Ground.phase }, { on := 31, ground := Ground.phase }, { on := 32, ground := Ground.phase }, { on := 33, ground := Ground.phase }, { on := 34, ground := Ground.phase }, { on := 35, ground := Ground.phase }, { on := 36, ground := Ground.phase }, { on := 37, ground := Ground.phase }, { on := 38, ground := Ground.phase }, { on := 39, ground := Ground.phase }, { on := 40, ground := Ground.phase }, { on := 41, ground := Ground.phase }], guard := none }) rfl (fun K hK => ?_) AllReadyH.nil)
    have r5 := (Row.drew HR5.out.1).cell 0
    have f5 := (Row.drew HR5.out.1).frozen 0
    simp only [List.getElem?_cons_zero] at r5
    go_simp
    refine hK.out _ _ HS6.out (fun hHeld => ?_)
    clear hK K r5 f5
    try simp only [Act.put, List.setIfInBounds_toArray, List.set_cons_zero, List.set_cons_succ]
    refine wpAnyH_done (by kernel_rfl) ?_ _
    refine NoPanic.normal ?_

    go_wp2_with fail
    obtain ⟨x5, hK', hB6, hD'⟩ := HR5.out
    have hne := HN.out
    have hK5 : ((W'.setCell ⟨br, 0, none⟩ (.bool true)).drew).heap[D']? = some (.deferred (some [])) := (Below.heap_setCell W' ⟨br, 0, none⟩ (.bool true) D' (by show D' ≠ br; omega)).trans hK'
    have hB7 : Below w.heap.size w ((W'.setCell ⟨br, 0, none⟩ (.bool true)).drew) := below_drewK (hB6.setCell (p := ⟨br, 0, none⟩) (by show w.heap.size ≤ br; omega) _) 1
    have hR6 : (((W'.setCell ⟨br, 0, none⟩ (.bool true)).drew).putObj D' (.deferred none)).cell? ⟨br, 0, none⟩ = some (.bool true) := by
      have h2 : Boxed (((W'.setCell ⟨br, 0, none⟩ (.bool true)).drew).putObj D' (.deferred none)) br 4 (.bool true) := (World.putObj_heap_other (by omega)).trans (Row.drew (x5.set 0 (.bool true)))
      exact h2.cell
    refine ⟨by simp, .inl ⟨_, _, rfl, run_takeDeferred hK5, ?_⟩⟩
    exact ⟨.bool true, by simp [results, Tryz.f22, go_sem, hR6], rfl, hB7.trans (belowK_b (w := w) (Nat.le_refl _) _ D' _ _ (by omega) hK5 rfl rfl)⟩
end
end Go.Proofs.YtiaaeniopjpfpaaGreatDoor

namespace Go.Proofs.YtiaaeniopjpfpaaGreatDoor
open Go Go.RowKit Go.Maps Go.Shelf
set_option linter.unusedVariables false
set_option linter.unusedSimpArgs false
attribute [local go_sem] Oper.semAt_some

def CH.text (c : CH) : List UInt8 := (if c.gone then 1 else 0) :: ((cnt c.key).data.toList ++ (cnt c.val).data.toList)
/-- A mark, and the changes behind it. -/
def textL (mk : UInt8) (l : List CH) : List UInt8 := mk :: (l.map CH.text).flatten
theorem text_length (c : CH) : c.text.length = c.key.size + c.val.size + 9 := by
  unfold CH.text
  rw [List.length_cons, List.length_append, Array.length_toList, Array.length_toList]
  show (cnt c.key).size + (cnt c.val).size + 1 = _
  rw [cnt_size, cnt_size]
  omega
theorem textL_snoc (mk : UInt8) (l : List CH) (c : CH) : textL mk (l ++ [c]) = textL mk l ++ c.text := by
  unfold textL
  simp
theorem textL_length (mk : UInt8) (l : List CH) (h : ∀ c ∈ l, c.most) : (textL mk l).length ≤ 1 + l.length * 2000009 := by
  induction l with
  | nil => simp [textL]
  | cons c l ih =>
    have h1 := ih (fun x hx => h x (List.mem_cons_of_mem _ hx))
    have h2 := h c (List.mem_cons_self)
    have h3 := text_length c
    unfold CH.most at h2
    unfold textL at h1 ⊢
    simp only [List.map_cons, List.flatten_cons, List.length_cons, List.length_append] at h1 ⊢
    omega

theorem own_builderF {β : Type} (T e : TypeId) (B b : Nat) (f : β → List Value) : Own (fun (s : β) W => Lib.IsBuilderF T e B b (f s) W) := by
  have one : ∀ (p : Value) (bs : List Value) (X Y : World) (row : Option Nat), Lib.BuilderAtF T e B b p bs X → X.grownBy Y row → (∀ r, row = some r → ∃ o, X.heap[r]? = some o ∧ o.isCells = false) → Lib.BuilderAtF T e B b p bs Y := by
    intro p bs X Y row h hg hrow
    obtain ⟨hB, v, hb, hown, hne⟩ := h
    refine ⟨hB, v, (hg.block b (Array.getElem?_eq_some_iff.1 hb).1 (fun e' => ?_)).trans hb, hown.kept hg ?_, hne⟩
    · obtain ⟨o, ho, hc⟩ := hrow b e'.symm
      rw [hb] at ho; cases ho; cases hc
    · cases hv : v.ownBlock with
      | none => exact .inl rfl
      | some g =>
        refine .inr fun e' => ?_
        obtain ⟨c, fz, hg2⟩ := Lib.ownsRowF_kind hown g hv
        obtain ⟨o, ho, hc⟩ := hrow g (by rw [← e'])
        rw [hg2] at ho; cases ho; cases hc
  intro s X Y row h hg hrow
  rcases h with h | h
  · exact .inl (one _ _ X Y row h hg hrow)
  · exact .inr (one _ _ X Y row h hg hrow)
theorem builderF_below {T e B b : Nat} {bs : List Value} {w w' : World} (h : Lib.IsBuilderF T e B b bs w) (hb : Below w.heap.size w w') : Lib.IsBuilderF T e B b bs w' :=
  own_builderF T e B b (fun (_ : Unit) => bs) () w w' none h (below_grow hb) (fun r e => by cases e)
theorem strCells_byte (s : ByteArray) : Lib.strCells s = Lib.byteCells s.data.toList := rfl

theorem others_keep {T e : TypeId} {B b : Nat} {bs : List Value} {w w' : World} (h : Lib.IsBuilderF T e B b bs w) (hk : Lib.OthersKept e (some b) w w') (hb : Below B w w') : KeepsOthers w w' := by
  have hcell : ∃ cs T' fz, w.heap[b]? = some (.cells cs T' fz) := by
    rcases h with ⟨_, v, h, _⟩ | ⟨_, v, h, _⟩ <;> exact ⟨_, _, _, h⟩
  obtain ⟨cs, T', fz, hc⟩ := hcell
  refine ⟨hb.size, fun k o ho hn => hk k o ho (fun e' => ?_) (fun c fz' e' => ?_)⟩
  · injection e' with e'
    subst e'
    rw [hc] at ho; cases ho; cases hn
  · subst e'; cases hn

set_option maxRecDepth 100000 in
set_option maxHeartbeats 4000000 in
theorem stMarked_any (mk : UInt8) (gf : Nat) (lb : Array Value) (cs : List CH) (w : World) (hcn : cs.length ≤ 1000) (Kp : World → World → Prop)
    (hent : ∀ args w, (callFunc gf args).run Tryz.prog w = .ok (.enter gf args) w)
    (hseq : SeqStopsK Fence.wide 5 Tryz.prog gf lb encM Kp (fun ys => ys.map Subtype.val = cs) (fun pre => pre.map Subtype.val <+: cs) cs.length w)
    (hKt : ∀ {A B C : World}, Kp A B → Kp B C → Kp A C) (hKk : ∀ W W', (∀ k, k < w.heap.size → W'.heap[k]? = W.heap[k]?) → Kp W W') :
    Calls Tryz.prog 106 #[.int .u8 mk.toNat, .func (.func gf) #[] lb] w fun e w' => e = .returned (.string (tx (textL mk cs))) ∧ Below w.heap.size w w' := by
  refine (callsIn_wide (n := 6)).1 ?_
  refine callsIn_of_wp_marks Tryz.func106 rfl trivial ?_ rfl
  simp only [Tryz.ntmps106, List.size_toArray, List.length_cons, List.length_nil, Nat.reduceAdd, Nat.reduceSub, Array.replicate_succ, Array.replicate_zero, List.push_toArray, List.append_toArray, List.nil_append, List.cons_append]
  rw [wpIn_wide]
  obtain ⟨b, hb⟩ : ∃ b, w.heap.size = b := ⟨_, rfl⟩
  have hI0 := Lib.fresh_isBuilder 127 5 w
  have hB0 : Below w.heap.size w (w.alloc (.cells #[.pointer none, .slice none 0 0] 127)) := (Below.refl _ _).alloc (Nat.le_refl _) _
  rw [hb] at hI0 hB0
  have H0 := Lib.hid (And.intro hI0 hB0)
  clear hI0 hB0
  have HS := Lib.hid (And.intro hseq hKk)
  have HB := Lib.hid hb
  clear hseq hKk
  go_wp2_with fail
  refine (WriteByte_any b b [] (mk.toNat : Int) _ (Lib.IsBuilderF.of H0.out.1) (by simp) (by rw [World.size_alloc]; omega)).mono ?_
  rintro e w1 ⟨rfl, hb1, hB1, hk1⟩
  have H1 : Hid (Lib.IsBuilderF 127 5 b b (Lib.byteCells (textL mk [])) w1 ∧ Below b w w1) := Lib.hid ⟨.inr hb1, H0.out.2.trans hB1⟩
  clear hb1 hB1 hk1 H0
  go_wp2_with fail
  have hbw : b ≤ w1.heap.size := by have := H1.out.2.size; omega
  have hbw2 : b < w1.heap.size := by
    rcases H1.out.1 with h | h
    · exact h.lt
    · exact h.lt
  rw [← wpIn_wide (n := 6)]
  refine' wpIn_rangeFunc_ownH rfl (by omega) (gf := gf) (lb := lb) rfl trivial hent
    HS.out.1 hKt (fun W l o o' hl h h1 h2 => HS.out.2 _ _ (fun k hk => World.putObj_heap_other (by omega))) (by rw [hb]; exact H1.out.2) (fun _ => rfl)
    (fun (pre : List Cm) W => Lib.IsBuilderF 127 5 b b (Lib.byteCells (textL mk (pre.map Subtype.val))) W ∧ Below b w W)
    (fun _ _ _ => False)
    (OwnFrom.and (Own.from (own_builderF 127 5 b b (fun (pre : List Cm) => Lib.byteCells (textL mk (pre.map Subtype.val)))) _) (ownFrom_below (by omega) hbw))
    (fun _ _ _ _ _ hs _ _ => hs)
    ⟨H1.out.1, H1.out.2⟩
    (fun x a' W => ∃ g, (a' = { tmps := #[Value.int IntKind.u8 mk.toNat, Value.func (Fn.func gf) #[] lb, undef, undef, Value.string { data := #[] }, Value.pointer (some ⟨b, 0, none⟩), Value.pointer (some ⟨g, 0, none⟩), undef, Value.int IntKind.u8 mk.toNat, Value.nilIface, Value.func (Fn.func gf) #[] lb, Value.agg #[Value.string x.val.key, Value.string x.val.val, Value.bool x.val.gone], undef, undef, undef, undef, undef, undef, undef, undef, undef, undef, undef, undef, undef], defers := [] } ∧ b < g) ∧ Row W g 76 [.string x.val.key, .string x.val.val, .bool x.val.gone])
    (fun x a' => ax_own _) ?hassign ?hbody ?hdone ?hstop
  case hstop =>
    rintro D c pre W _ hp h _
    exact h.elim
  case hassign =>
    rintro l pre ⟨⟨ck, cv, cg⟩, hx⟩ W K ⟨hI, hB⟩ hK
    have hbW : b < W.heap.size := by
      rcases hI with h | h
      · exact h.lt
      · exact h.lt
    dsimp only [encM]
    gi_wp2
    have ha : Below W.heap.size W (W.alloc (.cells #[.string ck, .string cv, .bool cg] 76)) := (Below.refl _ _).alloc (Nat.le_refl _) _
    exact hK _ _ ((below_others ha).from _) (HS.out.2 _ _ (fun k hk => ha.block k (by omega))) ⟨builderF_below hI ha, hB.trans (ha.mono (Nat.le_of_lt hbW))⟩ ⟨W.heap.size, ⟨rfl, hbW⟩, Row.new W 76 [.string ck, .string cv, .bool cg]⟩
  case hbody =>
    rintro l' pre ⟨⟨ck, cv, cg⟩, hx⟩ a' W hl' hrec ⟨hI, hB⟩ ⟨g, ⟨rfl, hbg⟩, hrow⟩ hlt
    have hgb : g ≠ b := by omega
    have hmost := hx
    have hlen : (textL mk (pre.map Subtype.val)).length ≤ 1 + (pre.map Subtype.val).length * 2000009 := textL_length mk _ (fun c hc => by
      obtain ⟨x, _, rfl⟩ := List.mem_map.1 hc
      exact x.2)
    rw [List.length_map] at hlen
    obtain ⟨T, hT⟩ : ∃ T, textL mk (pre.map Subtype.val) = T := ⟨_, rfl⟩
    rw [hT] at hI hlen
    obtain ⟨hk1, hk2⟩ : ck.size ≤ 1000000 ∧ cv.size ≤ 1000000 := hmost
    have hbl : (Lib.byteCells T).length ≤ 2000010000 := by rw [Lib.byteCells_length]; omega
    have hW1 := fun c : Int => WriteByte_any b b (Lib.byteCells T) c W hI (by omega) (by have := hB.size; omega)
    have c0 := hrow.cell 0
    have c1 := hrow.cell 1
    have c2 := hrow.cell 2
    simp only [List.getElem?_cons_zero, List.getElem?_cons_succ] at c0 c1 c2
    have HH := Lib.hid (And.intro hI (And.intro hB (And.intro hrow hW1)))
    clear hI hB hrow hW1
    dsimp only
    cases cg
    all_goals
      gi_wp2_with fail
      refine ⟨trivial, (CallsIn.inRound l' (callsIn_wide.2 (HH.out.2.2.2 _))).mono ?_⟩
      rintro e w2 ⟨rfl, hb2, hB2, hq2⟩
      have r2 := row_other HH.out.2.2.1 hq2 hgb (by decide)
      have hs2 := hB2.size
      have c0 := r2.cell 0
      simp only [List.getElem?_cons_zero, List.getElem?_cons_succ] at c0
      have H2 := Lib.hid (And.intro hb2 (And.intro hB2 (And.intro hq2 r2)))
      clear hb2 hB2 hq2 r2
      gi_wp2_with fail
      refine ⟨trivial, (CallsIn.inRound l' (callsIn_wide.2 (Counted_any ck _ (by omega)))).mono ?_⟩
      rintro e w3 ⟨rfl, hb3⟩
      have hs3 := hb3.size
      have I3 := builderF_below (.inr H2.out.1) hb3
      have r3 := H2.out.2.2.2.below hb3 H2.out.2.2.2.lt
      have c1 := r3.cell 1
      simp only [List.getElem?_cons_zero, List.getElem?_cons_succ] at c1
      have H3 := Lib.hid (And.intro hb3 (And.intro I3 r3))
      clear hb3 I3 r3 c0
      gi_wp2_with fail
      refine ⟨trivial, (CallsIn.inRound l' (callsIn_wide.2 (WriteString_any b b _ (cnt ck) _ H3.out.2.1 (by rw [List.length_append, cnt_size, List.length_singleton]; omega) (by have := H2.out.2.1.size; have := HH.out.2.1.size; omega)))).mono ?_⟩
      rintro e w4 ⟨rfl, hb4, hB4, hq4⟩
      have r4 := row_other H3.out.2.2 hq4 hgb (by decide)
      have hs4 := hB4.size
      have c1 := r4.cell 1
      simp only [List.getElem?_cons_zero, List.getElem?_cons_succ] at c1
      have H4 := Lib.hid (And.intro hb4 (And.intro hB4 (And.intro hq4 r4)))
      clear hb4 hB4 hq4 r4
      gi_wp2_with fail
      refine ⟨trivial, (CallsIn.inRound l' (callsIn_wide.2 (Counted_any cv _ (by omega)))).mono ?_⟩
      rintro e w5 ⟨rfl, hb5⟩
      have hs5 := hb5.size
      have I5 := builderF_below (.inr H4.out.1) hb5
      have H5 := Lib.hid (And.intro hb5 I5)
      clear hb5 I5
      gi_wp2_with fail
      refine ⟨trivial, (CallsIn.inRound l' (callsIn_wide.2 (WriteString_any b b _ (cnt cv) _ H5.out.2 (by have := Lib.strCells_length (cnt ck); rw [List.length_append, List.length_append, cnt_size, this, cnt_size, List.length_singleton]; omega) (by have := H2.out.2.1.size; have := HH.out.2.1.size; omega)))).mono ?_⟩
      rintro e w6 ⟨rfl, hb6, hB6, hq6⟩
      have hbs := HH.out.2.1.size
      have hBall : Below b W w6 := (((H2.out.2.1.trans (H3.out.1.mono (by omega))).trans H4.out.2.1).trans (H5.out.1.mono (by omega))).trans hB6
      have hKO : KeepsOthers W w6 := ((((others_keep HH.out.1 H2.out.2.2.1 H2.out.2.1).trans (below_others H3.out.1)).trans (others_keep H3.out.2.1 H4.out.2.2.1 H4.out.2.1)).trans (below_others H5.out.1)).trans (others_keep H5.out.2 hq6 hB6)
      gi_wp2
      refine ⟨hKO.from _, HS.out.2 _ _ (fun k hk => hBall.block k (by omega)), ?_, HH.out.2.1.trans hBall⟩
      refine .inr ?_
      rw [List.map_append, List.map_singleton, textL_snoc, hT]
      simpa [CH.text, Lib.byteCells, Lib.strCells] using hb6
  case hdone =>
    rintro D ys W hD hys ⟨hI, hB⟩ hK
    rw [hys] at hI
    have hST := Lib.hid (StringK_any b b (textL mk cs) W hI (by simp [textL]))
    have HH := Lib.hid (And.intro hB (And.intro hK hD))
    clear hI hB hK hD
    go_wp2_with fail
    refine hST.out.mono ?_
    rintro e w5 ⟨rfl, _, hB5, hk5⟩
    go_wp2_with fail
    have hKd : w5.heap[D]? = some (.deferred (some [])) := hk5 D _ HH.out.2.1 (fun e => by have h1 := Option.some.inj e; have h2 : w1.heap.size ≤ D := HH.out.2.2; omega) (fun c fz e => by cases e)
    refine ⟨by simp, .inl ⟨_, _, rfl, run_takeDeferred hKd, ?_⟩⟩
    have hB6 : Below w.heap.size w w5 := by rw [hb]; exact HH.out.1.trans hB5
    have hDb : w.heap.size ≤ D := by
      have h1 : w1.heap.size ≤ D := HH.out.2.2
      omega
    exact ⟨_, results_tmp rfl _ _ _, rfl, hB6.trans (belowK_b (w := w) (Nat.le_refl _) _ D _ _ hDb hKd rfl rfl)⟩

theorem stText_any (v : Value) (cs : List CH) (w : World) (hcn : cs.length ≤ 1000) (hmost : ∀ c ∈ cs, c.most) (hr : ChRow w v cs) (hown : ∀ g, v.ownBlock = some g → g < w.heap.size) :
    Calls Tryz.prog 75 #[v] w fun e w' => e = .returned (.string (tx (textL 99 cs))) ∧ Below w.heap.size w w' := by
  obtain ⟨a, cap, hv, _⟩ := id hr
  have hVI := (callsIn_wide (n := 0)).1 (Values_in 0 v a cs.length cap hv w)
  have hb := Boxed.new w 72 v
  have hb0 : Below w.heap.size w (w.alloc (.cells #[v] 72)) := (Below.refl _ _).alloc (Nat.le_refl _) _
  have hr2 := hr.below hb0
  have hM := stMarked_any 99 131 #[.pointer (some ⟨w.heap.size, 0, none⟩)] cs (w.alloc (.cells #[v] 72)) hcn (KeepsV w.heap.size v)
    (enters_of Tryz.func131 (by kernel_rfl) rfl) (Values_stops 5 (by omega) w.heap.size v cs (by omega) hmost _ hb hr2) keepsV_t
    (fun W W' hk => ⟨hk _ (by rw [World.size_alloc]; omega), fun g hg => hk g (by rw [World.size_alloc]; have := hown g hg; omega)⟩)
  have HM := Lib.hid hM
  have HVI := Lib.hid hVI
  have HB0 := Lib.hid hb0
  clear hM hVI hb0 hb hr2 hr hown
  subst hv
  go_enter Tryz.func75, Tryz.ntmps75
  go_wp2_with fail
  refine HVI.out.mono ?_
  rintro e w1 ⟨rfl, rfl⟩
  go_wp2_with fail
  refine HM.out.mono ?_
  rintro e w2 ⟨rfl, hb2⟩
  go_wp2_with fail
  go_ret
  exact ⟨rfl, HB0.out.trans (hb2.mono HB0.out.size)⟩
end Go.Proofs.YtiaaeniopjpfpaaGreatDoor

namespace Go.Proofs.YtiaaeniopjpfpaaGreatDoor
open Go Go.RowKit Go.Maps
set_option linter.unusedVariables false
set_option linter.unusedSimpArgs false

section
variable {L : Nat → Prop} {w : World} {sp lp mp p n : Nat} {D : DS} {g : LG} {M : DataW Unit} {cs : List CH}
abbrev StRow (w : World) (sp lp mp : Nat) : Prop := Row w sp 111 [.pointer (some ⟨lp, 0, none⟩), .map (some mp)]
set_option maxRecDepth 20000 in
set_option maxHeartbeats 1000000 in
theorem stErr_any (hs : StRow w sp lp mp) (hr : Row w lp 83 (g.cells p)) :
    Calls Tryz.prog 36 #[.pointer (some ⟨sp, 0, none⟩)] w fun e w' => e = .returned (.int .i64 g.err) ∧ w = w' := by
  have c0 := hs.cell 0
  simp only [List.getElem?_cons_zero, List.getElem?_cons_succ] at c0
  have HE := Lib.hid (Err_any hr)
  clear hs hr
  go_enter Tryz.func36, Tryz.ntmps36
  go_wp2_with fail
  refine HE.out.mono ?_
  rintro e w1 ⟨rfl, rfl⟩
  go_wp2_with fail
  go_ret
  exact ⟨rfl, rfl⟩

set_option maxRecDepth 20000 in
set_option maxHeartbeats 4000000 in
theorem stDo_add (hG : G w) (hL : ∀ k, L k → k < w.heap.size) (hlp : L lp) (hmp : L mp) (hs : StRow w sp lp mp) (hr : Row w lp 83 (g.cells p)) (hd : DiskIs L w p D)
    (hm : SMap w mp n M) (hn : n ≤ 1000000) (v : Value) (hv : ChRow w v cs) (hvL : ∀ k, v.ownBlock = some k → L k ∧ k ≠ lp) (hsL : L sp) (hne : sp ≠ lp) (hne2 : mp ≠ lp) (hcn : cs.length ≤ 1000) (hc0 : 0 < cs.length) (hmost : ∀ c ∈ cs, c.most ∧ c.fault = 0)
    (hh : g.half ≤ 1) (hu : g.used ≤ secs D * 128) (hct : g.count ≤ 1000000000) (hst : D.steps ≤ 1000000) (hhg : D.hangs.length ≤ 1000000) (he : g.err = 0) (ht : (textL 99 cs).length ≤ 16384) (hroom : (textL 99 cs).length + 28 ≤ secs D * 128 - g.used)
    (hok : (g.add D (textL 99 cs)).2 = 0) :
    Calls Tryz.prog 33 #[.pointer (some ⟨sp, 0, none⟩), v] w fun e w' => e = .returned (.int .i64 0) ∧ Row w' lp 83 ((g.add D (textL 99 cs)).1.1.cells p) ∧
      DiskIs L w' p (g.add D (textL 99 cs)).1.2 ∧ SMap w' mp (n + cs.length) (applyD M cs) ∧ Keeps (fun k => L k ∧ k ≠ lp ∧ k ≠ mp) w w' := by
  have hER := stErr_any hs hr
  rw [he] at hER
  have HER := Lib.hid hER
  obtain ⟨T, hT⟩ : ∃ T, textL 99 cs = T := ⟨_, rfl⟩
  rw [hT] at ht hroom hok ⊢
  have HTX : Hid (∀ W, Below w.heap.size w W → Calls Tryz.prog 75 #[v] W fun e w' => e = .returned (.string (tx T)) ∧ Below W.heap.size W w') := Lib.hid fun W hb => by
    have h := stText_any v cs W hcn (fun c hc => (hmost c hc).1) (hv.below hb) (fun k hk => by have := hL k (hvL k hk).1; have := hb.size; omega)
    rw [hT] at h
    exact h
  have HAD : Hid (∀ W, Below w.heap.size w W → Calls Tryz.prog 16 #[.pointer (some ⟨lp, 0, none⟩), .string (tx T)] W fun e w' => e = .returned (.int .i64 0) ∧ Row w' lp 83 ((g.add D T).1.1.cells p) ∧ DiskIs L w' p (g.add D T).1.2 ∧ Keeps (fun k => L k ∧ k ≠ lp) W w') := Lib.hid fun W hb => by
    have h := Add_any (L := L) (w := W) (lp := lp) (p := p) (D := D) (g := g) (hG.below hb) (fun q hq => Nat.lt_of_lt_of_le (hL q hq) hb.size) hlp (hr.below hb hr.lt) (hd.below hb) hh hu hct hst hhg T he ht hroom
    rw [hok] at h
    exact h
  have HFA : Hid (∀ c ∈ cs, ∀ W, Calls Tryz.prog 74 #[.agg #[.string c.key, .string c.val, .bool c.gone]] W fun e w' => e = .returned (.int .i64 0) ∧ Below W.heap.size W w') := Lib.hid fun c hc W =>
    stFault_any c W (by have := (hmost c hc).1.1; omega) (by have := (hmost c hc).1.2; omega) (hmost c hc).2
  obtain ⟨a, cap, rfl, hg1, hg2⟩ := id hv
  obtain ⟨m, hml⟩ : ∃ m, cs.length = m := ⟨_, rfl⟩
  rw [hml] at HTX hv hvL
  have HRW := Lib.hid (And.intro hr (And.intro hs (And.intro hv (And.intro hm (And.intro hd hL)))))
  have HCN := Lib.hid (And.intro hml (And.intro hg1 hg2))
  have HLL := Lib.hid (And.intro hlp (And.intro hmp (And.intro hsL (And.intro hne (And.intro hne2 (And.intro hvL hn))))))
  have HM := Lib.hid (And.intro hcn hmost)
  rw [hml] at hc0 hcn ⊢
  have hmI : (m : Int) ≤ 1000 := by omega
  have hm0 : 0 < m := hc0
  clear hER hG hL hlp hmp hs hr hd hm hn hv hvL hsL hne hne2 hmost hh hu hct hst hhg he ht hroom hok hT hg1 hg2 hml hcn hc0
  go_enter Tryz.func33, Tryz.ntmps33
  go_wp2_with fail
  refine HER.out.mono ?_
  rintro e w1 ⟨rfl, rfl⟩
  go_wp2_with fail
  go_loopw [18] (fun i wr => ∃ j : Nat, j ≤ m ∧ i = .int .i64 j ∧ Hid (Below w.heap.size w wr)) (fun i _ => m - (intOf i).toNat)
  case atStart => exact ⟨0, Nat.zero_le _, rfl, Lib.hid (Below.refl _ _)⟩
  case round =>
    obtain ⟨j, hj, rfl, HB⟩ := hrel
    by_cases hlt : j < m
    · obtain ⟨c, hc⟩ : ∃ c, cs[j]? = some c := ⟨_, List.getElem?_eq_getElem (by have := HCN.out.1; omega)⟩
      obtain ⟨gb, rfl⟩ := HCN.out.2.1 (by have := HCN.out.1; omega)
      obtain ⟨k0, k1, k2⟩ := chs_at cs j c hc
      have p0 := HCN.out.2.2 gb rfl _ _ k0
      have p1 := HCN.out.2.2 gb rfl _ _ k1
      have p2 := HCN.out.2.2 gb rfl _ _ k2
      have hgl : gb < w.heap.size := World.block_lt_of_cell? w ⟨gb, j * 3, none⟩ p0
      have q0 := (HB.out.cell (p := ⟨gb, j * 3, none⟩) hgl).trans p0
      have q1 := (HB.out.cell (p := ⟨gb, j * 3 + 1, none⟩) hgl).trans p1
      have q2 := (HB.out.cell (p := ⟨gb, j * 3 + 2, none⟩) hgl).trans p2
      have HF := Lib.hid (HFA.out c (List.mem_of_getElem? hc))
      have hltI : (j : Int) < (m : Int) := by omega
      obtain ⟨ck, cv, cg⟩ := c
      dsimp only at q0 q1 q2 HF
      have hsw := HB.out.size
      clear k0 k1 k2 p0 p1 p2 hc
      go_wp2_with fail
      refine (HF.out _).mono ?_
      rintro e w2 ⟨rfl, hb2⟩
      have HB2 : Hid (Below w.heap.size w w2) := Lib.hid ((HB.out.alloc hsw (.cells #[.string ck, .string cv, .bool cg] 76)).trans (hb2.mono (by rw [World.size_alloc]; omega)))
      clear hb2
      go_wp2_with fail
      go_roundw
      case rel => exact ⟨j + 1, by omega, by go_num, HB2⟩
      case measure => simp [intOf]; omega
    · have hnlt : ¬ (j : Int) < (m : Int) := by omega
      have hmpos : (0 : Int) < (m : Int) := by omega
      have hmz : ((m : Int) == 0) = false := by rw [beq_eq_false_iff_ne]; omega
      have hs2 : StRow wr sp lp mp := HRW.out.2.1.below HB.out HRW.out.2.1.lt
      have HS2 := Lib.hid hs2
      clear hs2
      go_wp2_with fail
      have hbd : Below w.heap.size w wr.drew := below_drewK HB.out 1
      have HBD := Lib.hid hbd
      have HSD : Hid (StRow wr.drew sp lp mp) := Lib.hid HS2.out
      clear hbd
      refine wp_region_noPanic ?_
      refine wp_region_held_drew (S := fun W => StRow W sp lp mp) (by kernel_rfl) HSD.out (fun hHeld => ?_)
      refine wpAnyH_take (i := 0) (oi := { dst := some 31, op := Op.move (Operand.tmp 0), type := 63, pos := "store.go:167", after := #[], guard := none }) (v := ?vva_0) rfl (by kernel_rfl) (by kernel_rfl) (by kernel_rfl) (fun _ _ _ h => h) (Or.inl ⟨by rfl, ?yya_0⟩) hHeld ?_
      case vva_0 => exact .pointer (some ⟨sp, 0, none⟩)
      case yya_0 =>
        intro W hS
        go_simp
      try simp only [Act.put, List.setIfInBounds_toArray, List.set_cons_zero, List.set_cons_succ]
      refine wpAnyH_take (i := 1) (oi := { dst := some 32, op := Op.nilCheck (Operand.tmp 31), type := 0, pos := "store.go:167", after := #[{ on := 0, ground := Ground.data }], guard := none }) (v := ?vva_1) rfl (by kernel_rfl) (by kernel_rfl) (by kernel_rfl) (fun _ _ _ h => h) (Or.inl ⟨by rfl, ?yya_1⟩) hHeld ?_
      case vva_1 => exact .pointer (some ⟨sp, 0, none⟩)
      case yya_1 =>
        intro W hS
        go_simp
      try simp only [Act.put, List.setIfInBounds_toArray, List.set_cons_zero, List.set_cons_succ]
      refine wpAnyH_take (i := 2) (oi := { dst := some 33, op := Op.fieldAddr 111 (Operand.tmp 32) 0, type := 0, pos := "store.go:167", after := #[{ on := 1, ground := Ground.data }], guard := none }) (v := ?vva_2) rfl (by kernel_rfl) (by kernel_rfl) (by kernel_rfl) (fun _ _ _ h => h) (Or.inl ⟨by rfl, ?yya_2⟩) hHeld ?_
      case vva_2 => exact .pointer (some ⟨sp, 0, none⟩)
      case yya_2 =>
        intro W hS
        go_simp
      try simp only [Act.put, List.setIfInBounds_toArray, List.set_cons_zero, List.set_cons_succ]
      refine wpAnyH_take (i := 3) (oi := { dst := some 34, op := Op.load 30 (Operand.tmp 33), type := 30, pos := "store.go:167", after := #[{ on := 2, ground := Ground.data }], guard := none }) (v := ?vva_3) rfl (by kernel_rfl) (by kernel_rfl) (by kernel_rfl) (fun _ _ _ h => h) (Or.inl ⟨by rfl, ?yya_3⟩) hHeld ?_
      case vva_3 => exact .pointer (some ⟨lp, 0, none⟩)
      case yya_3 =>
        intro W hS
        have q0 := Row.cell hS 0
        simp only [List.getElem?_cons_zero, List.getElem?_cons_succ] at q0
        go_simp
      try simp only [Act.put, List.setIfInBounds_toArray, List.set_cons_zero, List.set_cons_succ]
      refine wpAnyH_take (i := 4) (oi := { dst := some 35, op := Op.move (Operand.tmp 1), type := 72, pos := "store.go:167", after := #[], guard := none }) (v := ?vva_4) rfl (by kernel_rfl) (by kernel_rfl) (by kernel_rfl) (fun _ _ _ h => h) (Or.inl ⟨by rfl, ?yya_4⟩) hHeld ?_
      case vva_4 => exact .slice a m cap
      case yya_4 =>
        intro W hS
        go_simp
      try simp only [Act.put, List.setIfInBounds_toArray, List.set_cons_zero, List.set_cons_succ]
      refine wpAnyH_ready (rs := [5]) (by kernel_rfl) (by simp) (AllReadyH.cons (o := { dst := some 36, op := Op.call { callee := Callee.value (Operand.func 75), args := #[Operand.tmp 35], argTypes := #[72] }, type := 9, pos := "store.go:167", after := #[{ on := 4, ground := Ground.data }], guard := none }) rfl (fun K hK => ?_) AllReadyH.nil)
      go_simp
      go_at_call 75
      refine (HTX.out _ HBD.out).mono ?_
      rintro e w4 ⟨rfl, hb4⟩
      have s4 : StRow w4 sp lp mp := HSD.out.below hb4 HSD.out.lt
      have HB4 : Hid (Below w.heap.size w w4) := Lib.hid (HBD.out.trans (hb4.mono HBD.out.size))
      clear hb4
      refine hK.out _ _ s4 (fun hHeld => ?_)
      clear hK K
      try simp only [Act.put, List.setIfInBounds_toArray, List.set_cons_zero, List.set_cons_succ]
      refine wpAnyH_ready (rs := [6]) (by kernel_rfl) (by simp) (AllReadyH.cons (o := { dst := some 37, op := Op.call { callee := Callee.value (Operand.func 16), args := #[Operand.tmp 34, Operand.tmp 36], argTypes := #[30, 9] }, type := 25, pos := "store.go:167", after := #[{ on := 3, ground := Ground.data }, { on := 5, ground := Ground.data }, { on := 5, ground := Ground.chain }], guard := none }) rfl (fun K hK => ?_) AllReadyH.nil)
      go_simp
      go_at_call 16
      refine (HAD.out _ HB4.out).mono ?_
      rintro e w5 ⟨rfl, hr5, hd5, hk5⟩
      have s5 : StRow w5 sp lp mp := (hk5.block sp s4.lt ⟨HLL.out.2.2.1, HLL.out.2.2.2.1⟩).trans s4
      have H5 : Hid (Row w5 lp 83 ((g.add D T).1.1.cells p) ∧ DiskIs L w5 p (g.add D T).1.2 ∧ StRow w5 sp lp mp ∧ Keeps (fun k => L k ∧ k ≠ lp) w w5) := Lib.hid ⟨hr5, hd5, s5, (Keeps.of_below (L := fun k => L k ∧ k ≠ lp) HB4.out (fun q h _ => h)).trans hk5⟩
      refine hK.out _ _ s5 (fun hHeld => ?_)
      clear hK K hr5 hd5 hk5 s4 s5
      try simp only [Act.put, List.setIfInBounds_toArray, List.set_cons_zero, List.set_cons_succ]
      refine wpAnyH_ready (rs := [7]) (by kernel_rfl) (by simp) (AllReadyH.cons (o := { dst := some 9, op := Op.assign (Operand.tmp 37), type := 25, pos := "store.go:167", after := #[{ on := 6, ground := Ground.data }, { on := 6, ground := Ground.chain }, { on := 0, ground := Ground.phase }, { on := 1, ground := Ground.phase }, { on := 2, ground := Ground.phase }, { on := 3, ground := Ground.phase }, { on := 4, ground := Ground.phase }, { on := 5, ground := Ground.phase }, { on := 6, ground := Ground.phase }], guard := none }) rfl (fun K hK => ?_) AllReadyH.nil)
      go_simp
      refine hK.out _ _ H5.out.2.2.1 (fun hHeld => ?_)
      clear hK K
      try simp only [Act.put, List.setIfInBounds_toArray, List.set_cons_zero, List.set_cons_succ]
      refine wpAnyH_done (by kernel_rfl) ?_ _
      refine NoPanic.normal ?_
      have s5 := H5.out.2.2.1
      have c1 := s5.cell 1
      simp only [List.getElem?_cons_zero, List.getElem?_cons_succ] at c1
      clear s5
      have HAP : Hid (Calls Tryz.prog 70 #[.map (some mp), .slice a m cap] w5 fun e w' => e = .returned (.tuple #[]) ∧ SMap w' mp (n + m) (applyD M cs) ∧ Keeps (fun k => k ≠ mp) w5 w') := Lib.hid (by
        have hk := H5.out.2.2.2
        have hmp := HRW.out.2.2.2.1
        have hm5 : SMap w5 mp n M := SMap.keep hmp (hk.block mp (World.ownsMap.lt hmp) ⟨HLL.out.2.1, HLL.out.2.2.2.2.1⟩)
        have hv5 : ChRow w5 (.slice a m cap) cs := HRW.out.2.2.1.kept (fun q hq => hk.block q (HRW.out.2.2.2.2.2 q (HLL.out.2.2.2.2.2.1 q hq).1) (HLL.out.2.2.2.2.2.1 q hq))
        have h := apply_any w5 mp n M (.slice a m cap) cs HM.out.1 HLL.out.2.2.2.2.2.2 (fun c hc => by have := (HM.out.2 c hc).1.1; unfold maxLen; omega) hm5 hv5
        rw [HCN.out.1] at h
        exact h)
      go_wp2_with fail
      refine HAP.out.mono ?_
      rintro e w6 ⟨rfl, hm6, hk6⟩
      have H6 := Lib.hid (And.intro hm6 hk6)
      clear hm6 hk6
      go_wp2_with fail
      go_ret
      have hr5 := H5.out.1
      refine ⟨rfl, (H6.out.2.block lp hr5.lt (fun e => HLL.out.2.2.2.2.1 e.symm)).trans hr5, H5.out.2.1.keeps H6.out.2 (fun q _ hq e => hq (by rw [e]; exact HLL.out.2.1)), H6.out.1, ?_⟩
      exact (H5.out.2.2.2.mono (fun q h => ⟨h.1, h.2.1⟩)).trans (H6.out.2.mono (fun q h => h.2.2))
end
end Go.Proofs.YtiaaeniopjpfpaaGreatDoor

namespace Go.Proofs.YtiaaeniopjpfpaaGreatDoor
open Go Go.RowKit Go.Maps
set_option linter.unusedVariables false
set_option linter.unusedSimpArgs false

/-- No fuse, and power. -/
def Live (D : DS) : Prop := D.fuse = -1 ∧ D.down = false
theorem live_written {D : DS} (h : Live D) (k : Int) (b : List UInt8) : Live (D.written k b) ∧ (D.written k b).lasts.length = D.lasts.length := by
  obtain ⟨h1, h2⟩ := h
  unfold DS.written DS.stepped DS.may
  rw [h1, h2]
  split
  · exact ⟨⟨h1, h2⟩, rfl⟩
  · simp
    exact ⟨rfl, rfl⟩
theorem live_synced {D : DS} (h : Live D) : Live D.synced ∧ D.synced.lasts.length = D.lasts.length := by
  obtain ⟨h1, h2⟩ := h
  unfold DS.synced DS.stepped DS.may
  rw [h1, h2]
  simp [DS.settled]
  exact ⟨rfl, rfl⟩
theorem live_stepErr {D : DS} (h : Live D) : D.stepErr = 0 := by
  obtain ⟨h1, h2⟩ := h
  unfold DS.stepErr DS.may
  rw [h1, h2]
  rfl
theorem live_fault {D : DS} (h : Live D) (k : Nat) (hk : k < D.lasts.length) : D.fault (k : Int) = 0 := by
  unfold DS.fault
  rw [h.2]
  simp
  omega
theorem live_putG (n : Nat) (D : DS) (a : Nat) (l : List UInt8) (h : Live D) (hn : l.length ≤ n * 128) (ha : a * 128 + l.length ≤ D.lasts.length * 128) : (putG n D a l).2 = 0 ∧ Live (putG n D a l).1 ∧ (putG n D a l).1.lasts.length = D.lasts.length := by
  induction n generalizing D a l with
  | zero =>
    have h2 := live_synced h
    exact ⟨live_stepErr h, h2.1, h2.2⟩
  | succ n ih =>
    unfold putG
    split
    · have h2 := live_synced h
      exact ⟨live_stepErr h, h2.1, h2.2⟩
    · rename_i hne
      have hl0 : 0 < l.length := List.length_pos_iff.2 hne
      have hw : D.writeErr (a : Nat) = 0 := by
        unfold DS.writeErr
        rw [live_fault h a (by omega), if_neg (by simp)]
        exact live_stepErr h
      rw [if_neg (by rw [hw]; simp)]
      have h3 := live_written h (a : Nat) (pad128 l)
      have h4 := ih (D.written (a : Nat) (pad128 l)) (a + 1) (l.drop 128) h3.1 (by rw [List.length_drop]; omega) (by rw [List.length_drop, h3.2]; omega)
      exact ⟨h4.1, h4.2.1, h4.2.2.trans h3.2⟩

/-- The log of a disk of 300 sectors behind k texts of at most 1,098 bytes. -/
structure Room (g : LG) (D : DS) (k : Nat) : Prop where
  err : g.err = 0
  half : g.half = 0
  used : g.used ≤ k * 1126
  count : g.count ≤ k
  live : Live D
  len : D.lasts.length = 300
  steps : D.steps ≤ k * 201
  hangs : D.hangs.length ≤ k * 201
theorem Room.secs {g : LG} {D : DS} {k : Nat} (h : Room g D k) : secs D = 149 := by
  unfold Go.Proofs.YtiaaeniopjpfpaaGreatDoor.secs
  rw [h.len]
theorem Room.add {g : LG} {D : DS} {k : Nat} (h : Room g D k) (hk : k ≤ 15) (t : List UInt8) (ht : t.length ≤ 1098) :
    (g.add D t).2 = 0 ∧ Room (g.add D t).1.1 (g.add D t).1.2 (k + 1) := by
  have hs := h.secs
  have hu := h.used
  have hfl : (frameL (g.count + 1) t).length = 28 + t.length := frameL_length _ _
  have hrd : ∀ k : Int, (D.read k).length ≤ 128 ∨ True := fun _ => .inr trivial
  have hf : D.fault ((2 + g.half * Go.Proofs.YtiaaeniopjpfpaaGreatDoor.secs D + g.used / 128 : Nat) : Int) = 0 := by
    rw [h.half, hs]
    exact live_fault h.live _ (by rw [h.len]; omega)
  have hp : g.putR D (frameL (g.count + 1) t) = putG 200 D (2 + g.half * Go.Proofs.YtiaaeniopjpfpaaGreatDoor.secs D + g.used / 128) ((D.read ((2 + g.half * Go.Proofs.YtiaaeniopjpfpaaGreatDoor.secs D + g.used / 128 : Nat) : Int)).take (g.used % 128) ++ frameL (g.count + 1) t) := by
    unfold LG.putR
    rw [if_neg (by rw [hf]; simp)]
  have hlen : ((D.read ((2 + g.half * Go.Proofs.YtiaaeniopjpfpaaGreatDoor.secs D + g.used / 128 : Nat) : Int)).take (g.used % 128) ++ frameL (g.count + 1) t).length ≤ g.used % 128 + (28 + t.length) := by
    rw [List.length_append, List.length_take, hfl]
    omega
  have hg := live_putG 200 D (2 + g.half * Go.Proofs.YtiaaeniopjpfpaaGreatDoor.secs D + g.used / 128) _ h.live (Nat.le_trans hlen (by omega)) (by rw [h.half, hs, h.len]; rw [h.half, hs] at hlen; omega)
  have hc := putG_count 200 D (2 + g.half * Go.Proofs.YtiaaeniopjpfpaaGreatDoor.secs D + g.used / 128) ((D.read ((2 + g.half * Go.Proofs.YtiaaeniopjpfpaaGreatDoor.secs D + g.used / 128 : Nat) : Int)).take (g.used % 128) ++ frameL (g.count + 1) t)
  rw [← hp] at hg hc
  have hadd : g.add D t = (({ g with count := g.count + 1, used := g.used + (t.length + 28) }, (g.putR D (frameL (g.count + 1) t)).1), 0) := by
    unfold LG.add
    rw [if_neg (by rw [h.err]; simp), if_neg (by omega), if_neg (by rw [hs]; omega), if_neg (by rw [hg.1]; simp)]
  rw [hadd]
  exact ⟨rfl, h.err, h.half, by show g.used + (t.length + 28) ≤ (k + 1) * 1126; omega, by show g.count + 1 ≤ k + 1; have := h.count; omega, hg.2.1, hg.2.2.trans h.len, by show (g.putR D _).1.steps ≤ _; have := h.steps; omega, by show (g.putR D _).1.hangs.length ≤ _; have := h.hangs; omega⟩

/-- A store in memory, apart from T. -/
def StW (T : Nat → Prop) (w : World) (sp lp mp p n : Nat) (g : LG) (D : DS) (M : DataW Unit) : Prop :=
  ∃ S : Nat → Prop, (∀ k, S k → k < w.heap.size) ∧ (∀ k, T k → S k ∧ k ≠ lp ∧ k ≠ mp) ∧ (S sp ∧ S lp ∧ S mp) ∧ (sp ≠ lp ∧ mp ≠ lp ∧ mp ≠ sp) ∧ StRow w sp lp mp ∧ Row w lp 83 (g.cells p) ∧ DiskIs S w p D ∧ SMap w mp n M
section
variable {T T' : Nat → Prop} {w w' : World} {sp lp mp p n : Nat} {g : LG} {D : DS} {M : DataW Unit}
theorem StW.grow (h : StW T w sp lp mp p n g D M) (hb : Below w.heap.size w w') (hT : ∀ k, T' k → T k ∨ (w.heap.size ≤ k ∧ k < w'.heap.size)) : StW T' w' sp lp mp p n g D M := by
  obtain ⟨S, hS, hTS, ⟨h1, h2, h3⟩, hne, hs, hr, hd, hm⟩ := h
  have hsz := hb.size
  refine ⟨fun k => k < w'.heap.size ∧ (S k ∨ w.heap.size ≤ k), fun k hk => hk.1, fun k hk => ?_, ⟨⟨by have := hS _ h1; omega, .inl h1⟩, ⟨by have := hS _ h2; omega, .inl h2⟩, ⟨by have := hS _ h3; omega, .inl h3⟩⟩, hne, hs.below hb hs.lt, hr.below hb hr.lt, (hd.more (fun g hg => hg.2)).below hb, SMap.keep hm (hb.block mp (World.ownsMap.lt hm))⟩
  rcases hT k hk with h | ⟨ha, hb⟩
  · have := hS k (hTS k h).1
    exact ⟨⟨by omega, .inl (hTS k h).1⟩, (hTS k h).2⟩
  · refine ⟨⟨hb, .inr ha⟩, ?_, ?_⟩
    · have := hr.lt; omega
    · have := World.ownsMap.lt hm; omega
theorem StW.below (h : StW T w sp lp mp p n g D M) (hb : Below w.heap.size w w') : StW T w' sp lp mp p n g D M := h.grow hb (fun k hk => .inl hk)
theorem StW.lt (h : StW T w sp lp mp p n g D M) (k : Nat) (hk : T k) : k < w.heap.size := by
  obtain ⟨S, hS, hTS, _⟩ := h
  exact hS k (hTS k hk).1
theorem StW.rows (h : StW T w sp lp mp p n g D M) : StRow w sp lp mp ∧ SMap w mp n M ∧ Row w lp 83 (g.cells p) := by
  obtain ⟨S, _, _, _, _, hs, hr, _, hm⟩ := h
  exact ⟨hs, hm, hr⟩

theorem stDo_one (hG : G w) (h : StW T w sp lp mp p n g D M) (k : Nat) (hk : k ≤ 15) (hR : Room g D k) (hn : n ≤ 1000) (c : CH) (hc : c.most) (hf : c.fault = 0) (hl : c.text.length ≤ 1097) :
    Calls Tryz.prog 33 #[.pointer (some ⟨sp, 0, none⟩), .slice (some ⟨w.heap.size, 0, none⟩) 1 1] (w.alloc (.cells c.cells.toArray 76)) fun e w' => e = .returned (.int .i64 0) ∧
      ∃ g' D', StW T w' sp lp mp p (n + 1) g' D' (apply1 M c) ∧ Room g' D' (k + 1) ∧ Keeps T w w' := by
  have hb : Below w.heap.size w (w.alloc (.cells c.cells.toArray 76)) := (Below.refl _ _).alloc (Nat.le_refl _) _
  have h2 : StW (fun k => T k ∨ k = w.heap.size) (w.alloc (.cells c.cells.toArray 76)) sp lp mp p n g D M := h.grow hb (fun k hk => by
    rcases hk with hk | rfl
    · exact .inl hk
    · exact .inr ⟨Nat.le_refl _, by rw [World.size_alloc]; omega⟩)
  obtain ⟨S, hS, hTS, ⟨h1, h3, h4⟩, hne, hs, hr, hd, hm⟩ := h2
  have hrow := Row.new w 76 c.cells
  have hch : ChRow (w.alloc (.cells c.cells.toArray 76)) (.slice (some ⟨w.heap.size, 0, none⟩) 1 1) [c] := ⟨some ⟨w.heap.size, 0, none⟩, 1, rfl, fun _ => ⟨w.heap.size, rfl⟩, fun g hg j x hx => by
    injection hg with hg
    injection hg with hg
    subst hg
    refine (hrow.cell j).trans ?_
    simpa [chs] using hx⟩
  have htl : (textL 99 [c]).length ≤ 1098 := by
    have e : textL 99 [c] = 99 :: c.text := by simp [textL]
    rw [e, List.length_cons]
    omega
  obtain ⟨ha, hR2⟩ := hR.add hk (textL 99 [c]) htl
  have hsec := hR.secs
  have hu := hR.used
  refine (stDo_add (L := S) (cs := [c]) (hG.below hb) hS h3 h4 hs hr hd hm (by omega) _ hch (fun q hq => by have hq' : w.heap.size = q := Option.some.inj hq; subst hq'; exact ⟨(hTS _ (.inr rfl)).1, (hTS _ (.inr rfl)).2.1⟩) h1 hne.1 hne.2.1 (by simp) (by simp) (fun x hx => by
    obtain rfl := List.mem_singleton.1 hx
    exact ⟨hc, hf⟩) (by rw [hR.half]; omega) (by rw [hsec]; omega) (by have := hR.count; omega) (by have := hR.steps; omega) (by have := hR.hangs; omega) hR.err (by omega) (by rw [hsec]; omega) ha).mono ?_
  rintro e w' ⟨rfl, hr', hd', hm', hk'⟩
  have hsz := hk'.size
  refine ⟨rfl, _, _, ⟨S, fun q hq => by have := hS q hq; omega, fun q hq => hTS q (.inl hq), ⟨h1, h3, h4⟩, hne, (hk'.block sp hs.lt ⟨h1, hne.1, fun e => hne.2.2 e.symm⟩).trans hs, hr', hd', by simpa [applyD] using hm'⟩, hR2, ?_⟩
  exact (Keeps.of_below (L := T) hb (fun q hq _ => hq)).trans (hk'.mono (fun q hq => ⟨(hTS q (.inl hq)).1, (hTS q (.inl hq)).2⟩))
end
end Go.Proofs.YtiaaeniopjpfpaaGreatDoor

namespace Go.Proofs.YtiaaeniopjpfpaaGreatDoor
open Go Go.RowKit Go.Maps
set_option linter.unusedVariables false
set_option linter.unusedSimpArgs false

theorem empty_of {k : ByteArray} (h : k.size = 0) : k = ⟨#[]⟩ := ByteArray.ext (Array.eq_empty_of_size_eq_zero h)
theorem nonempty_of {k : ByteArray} (h : ¬ k.size = 0) : k.toList.isEmpty = false := by
  cases e : k.toList with
  | nil =>
    rw [ByteArray.toList_eq] at e
    exact absurd (by show k.data.size = 0; rw [← Array.length_toList, e]; rfl) h
  | cons _ _ => rfl
set_option maxRecDepth 20000 in
set_option maxHeartbeats 1000000 in
theorem stFault_all (c : CH) (w : World) (hk : c.key.size ≤ 1000000) (hv : c.val.size ≤ 1000000) : Calls Tryz.prog 74 #[.agg #[.string c.key, .string c.val, .bool c.gone]] w fun e w' => e = .returned (.int .i64 c.fault) ∧ Below w.heap.size w w' := by
  by_cases h0 : c.fault = 0
  · rw [h0]
    exact stFault_any c w (by omega) (by omega) h0
  · obtain ⟨k, v, g⟩ := c
    dsimp only at hk hv ⊢
    by_cases h1 : k.size = 0
    · have hf : CH.fault ⟨k, v, g⟩ = 2 := by unfold CH.fault; rw [if_pos (.inl h1)]
      rw [hf]
      obtain rfl := empty_of h1
      clear hf h0 h1 hk hv
      go_enter Tryz.func74, Tryz.ntmps74
      go_wp2
      go_ret
      exact ⟨rfl, (Below.refl _ _).alloc (Nat.le_refl _) _⟩
    · have e1 := nonempty_of h1
      by_cases h2 : g = true ∧ v.size ≠ 0
      · have hf : CH.fault ⟨k, v, g⟩ = 2 := by unfold CH.fault; rw [if_pos (.inr h2)]
        rw [hf]
        obtain ⟨rfl, h3⟩ := h2
        have e2 := nonempty_of h3
        clear hf h0 h1 hk hv h3
        go_enter Tryz.func74, Tryz.ntmps74
        go_wp2
        go_ret
        exact ⟨rfl, (Below.refl _ _).alloc (Nat.le_refl _) _⟩
      · have hn : ¬ (k.size = 0 ∨ g = true ∧ v.size ≠ 0) := fun h => h.elim h1 h2
        have h5 : 64 < k.size ∨ 1024 < v.size := by
          apply Classical.byContradiction
          intro h
          exact h0 (by unfold CH.fault; rw [if_neg hn, if_neg h])
        have hf : CH.fault ⟨k, v, g⟩ = 5 := by unfold CH.fault; rw [if_neg hn, if_pos h5]
        rw [hf]
        clear hf h0 hn
        by_cases hk64 : 64 < k.size
        · have hkI : (64 : Int) < (k.size : Int) := by omega
          have hkM : (k.size : Int) ≤ 1000000 := by omega
          cases g
          · clear h1 h2 h5 hk64 hk
            go_enter Tryz.func74, Tryz.ntmps74
            go_wp2
            go_ret
            exact ⟨rfl, (Below.refl _ _).alloc (Nat.le_refl _) _⟩
          · have hv0 : v.size = 0 := Classical.byContradiction fun h => h2 ⟨rfl, h⟩
            obtain rfl := empty_of hv0
            clear h1 h2 h5 hk64 hk hv hv0
            go_enter Tryz.func74, Tryz.ntmps74
            go_wp2
            go_ret
            exact ⟨rfl, (Below.refl _ _).alloc (Nat.le_refl _) _⟩
        · have hvI : (1024 : Int) < (v.size : Int) := by omega
          have hkI : (k.size : Int) ≤ 64 := by omega
          have hvM : (v.size : Int) ≤ 1000000 := by omega
          cases g
          · clear h1 h2 h5 hk64 hk hv
            go_enter Tryz.func74, Tryz.ntmps74
            go_wp2
            go_ret
            exact ⟨rfl, (Below.refl _ _).alloc (Nat.le_refl _) _⟩
          · have hv0 : v.size = 0 := Classical.byContradiction fun h => h2 ⟨rfl, h⟩
            omega

section
variable {T T' : Nat → Prop} {w w' : World} {sp lp mp p n : Nat} {g : LG} {D : DS} {M : DataW Unit}
set_option maxRecDepth 20000 in
set_option maxHeartbeats 2000000 in
theorem stDo_bad (h : StW T w sp lp mp p n g D M) (he : g.err = 0) (c : CH) (hk : c.key.size ≤ 1000000) (hv : c.val.size ≤ 1000000) (hf : c.fault ≠ 0) :
    Calls Tryz.prog 33 #[.pointer (some ⟨sp, 0, none⟩), .slice (some ⟨w.heap.size, 0, none⟩) 1 1] (w.alloc (.cells c.cells.toArray 76)) fun e w' => e = .returned (.int .i64 c.fault) ∧ Below w.heap.size w w' := by
  have hb : Below w.heap.size w (w.alloc (.cells c.cells.toArray 76)) := (Below.refl _ _).alloc (Nat.le_refl _) _
  obtain ⟨hs, hm, hr⟩ := (h.below hb).rows
  have hER := stErr_any hs hr
  rw [he] at hER
  obtain ⟨ck, cv, cg⟩ := c
  dsimp only at hk hv
  have HFA := Lib.hid (fun W => stFault_all ⟨ck, cv, cg⟩ W hk hv)
  obtain ⟨F, hF⟩ : ∃ F, CH.fault ⟨ck, cv, cg⟩ = F := ⟨_, rfl⟩
  rw [hF] at HFA hf ⊢
  have hrow := Row.new w 76 (CH.cells ⟨ck, cv, cg⟩)
  unfold CH.cells at hrow hER hb ⊢
  have HB := Lib.hid hb
  have HER := Lib.hid hER
  have c0 := hrow.cell 0
  have c1 := hrow.cell 1
  have c2 := hrow.cell 2
  simp only [List.getElem?_cons_zero, List.getElem?_cons_succ] at c0 c1 c2
  have hlt := hrow.lt
  dsimp only at c0 c1 c2 hlt HB HER ⊢
  clear h he hs hm hr hER hF hrow hb hk hv
  obtain ⟨b, hbe⟩ : ∃ b, w.heap.size = b := ⟨_, rfl⟩
  rw [hbe] at c0 c1 c2 hlt HB ⊢
  generalize (w.alloc (.cells [.string ck, .string cv, .bool cg].toArray 76)) = w0 at c0 c1 c2 hlt HB HER ⊢
  have hsz := HB.out.size
  have hbn : (F == 0) = false := by rw [beq_eq_false_iff_ne]; exact hf
  have hbn2 : (F != 0) = true := by rw [bne_iff_ne]; exact hf
  go_enter Tryz.func33, Tryz.ntmps33
  go_wp2_with fail
  refine HER.out.mono ?_
  rintro e w1 ⟨rfl, rfl⟩
  go_wp2_with fail
  go_loopw [18] (fun i wr => i = .int .i64 0 ∧ wr = w0) (fun _ _ => 0)
  case atStart => exact ⟨rfl, rfl⟩
  case round =>
    obtain ⟨rfl, rfl⟩ := hrel
    go_wp2_with fail
    refine (HFA.out _).mono ?_
    rintro e w2 ⟨rfl, hb2⟩
    have HB2 : Hid (Below b w w2) := Lib.hid ((HB.out.alloc (by omega) (.cells #[.string ck, .string cv, .bool cg] 76)).trans (hb2.mono (by rw [World.size_alloc]; omega)))
    clear hb2
    go_wp2_with fail
    go_ret
    exact ⟨rfl, HB2.out⟩

set_option maxRecDepth 20000 in
set_option maxHeartbeats 2000000 in
theorem stDo_none (h : StW T w sp lp mp p n g D M) (he : g.err = 0) :
    Calls Tryz.prog 33 #[.pointer (some ⟨sp, 0, none⟩), .slice none 0 0] w fun e w' => e = .returned (.int .i64 0) ∧ w = w' := by
  obtain ⟨hs, hm, hr⟩ := h.rows
  have hER := stErr_any hs hr
  rw [he] at hER
  have HER := Lib.hid hER
  clear hER h hs hm hr he
  go_enter Tryz.func33, Tryz.ntmps33
  go_wp2_with fail
  refine HER.out.mono ?_
  rintro e w1 ⟨rfl, rfl⟩
  go_wp2_with fail
  go_loopw [18] (fun i wr => i = .int .i64 0 ∧ wr = w) (fun _ _ => 0)
  case atStart => exact ⟨rfl, rfl⟩
  case round =>
    obtain ⟨rfl, rfl⟩ := hrel
    go_wp2_with fail
    go_ret
    exact ⟨rfl, rfl⟩
end
end Go.Proofs.YtiaaeniopjpfpaaGreatDoor

namespace Go.Proofs.YtiaaeniopjpfpaaGreatDoor
open Go Go.Shelf Go.RowKit
def Tryz.lays162_ren : Go.Shelf.Ren := ⟨fun | 162 => 86 | 232 => 113 | 227 => 114 | 234 => 115 | 236 => 116 | 228 => 135 | 271 => 136 | 151 => 137 | 120 => 152 | 197 => 153 | 152 => 154 | 260 => 173 | 137 => 174 | 119 => 175 | 224 => 176 | 225 => 177 | 217 => 188 | 266 => 193 | n => n, fun | 9 => 9 | 4 => 4 | 3 => 3 | 5 => 5 | 117 => 165 | 116 => 164 | 0 => 0 | 124 => 168 | 21 => 21 | 105 => 187 | 46 => 169 | 119 => 235 | 139 => 238 | 138 => 237 | n => n, fun | 3 => 2 | 4 => 3 | n => n⟩
theorem Tryz.lays162 : Go.Proofs.Lays.n162 Tryz.prog Tryz.lays162_ren := {
  mixed := by kernel_rfl
  f119 := Tryz.func175.trans (congrArg some (by kernel_rfl))
  f120 := Tryz.func152.trans (congrArg some (by kernel_rfl))
  f137 := Tryz.func174.trans (congrArg some (by kernel_rfl))
  f151 := Tryz.func137.trans (congrArg some (by kernel_rfl))
  f152 := Tryz.func154.trans (congrArg some (by kernel_rfl))
  f162 := Tryz.func86.trans (congrArg some (by kernel_rfl))
  f197 := Tryz.func153.trans (congrArg some (by kernel_rfl))
  f217 := Tryz.func188.trans (congrArg some (by kernel_rfl))
  f224 := Tryz.func176.trans (congrArg some (by kernel_rfl))
  f225 := Tryz.func177.trans (congrArg some (by kernel_rfl))
  f227 := Tryz.func114.trans (congrArg some (by kernel_rfl))
  f228 := Tryz.func135.trans (congrArg some (by kernel_rfl))
  f232 := Tryz.func113.trans (congrArg some (by kernel_rfl))
  f234 := Tryz.func115.trans (congrArg some (by kernel_rfl))
  f236 := Tryz.func116.trans (congrArg some (by kernel_rfl))
  f260 := Tryz.func173.trans (congrArg some (by kernel_rfl))
  f266 := Tryz.func193.trans (congrArg some (by kernel_rfl))
  f271 := Tryz.func136.trans (congrArg some (by kernel_rfl))
  t0 := Tryz.underlying0
  a0 := Tryz.isAgg0
  z0 := Tryz.sizeOf0
  v0 := Tryz.zeroValue0
  t3 := Tryz.underlying3
  a3 := Tryz.isAgg3
  z3 := Tryz.sizeOf3
  v3 := Tryz.zeroValue3
  t4 := Tryz.underlying4
  a4 := Tryz.isAgg4
  z4 := Tryz.sizeOf4
  v4 := Tryz.zeroValue4
  t5 := Tryz.underlying5
  a5 := Tryz.isAgg5
  z5 := Tryz.sizeOf5
  v5 := Tryz.zeroValue5
  t9 := Tryz.underlying9
  a9 := Tryz.isAgg9
  z9 := Tryz.sizeOf9
  v9 := Tryz.zeroValue9
  t21 := Tryz.underlying21
  a21 := Tryz.isAgg21
  z21 := Tryz.sizeOf21
  v21 := Tryz.zeroValue21
  t46 := Tryz.underlying169
  a46 := Tryz.isAgg169
  z46 := Tryz.sizeOf169
  v46 := Tryz.zeroValue169
  t105 := Tryz.underlying187
  a105 := Tryz.isAgg187
  z105 := Tryz.sizeOf187
  v105 := Tryz.zeroValue187
  t116 := Tryz.underlying164
  a116 := Tryz.isAgg164
  z116 := Tryz.sizeOf164
  t117 := Tryz.underlying165
  a117 := Tryz.isAgg165
  z117 := Tryz.sizeOf165
  v117 := Tryz.zeroValue165
  t119 := Tryz.underlying235
  a119 := Tryz.isAgg235
  z119 := Tryz.sizeOf235
  t124 := Tryz.underlying168
  a124 := Tryz.isAgg168
  z124 := Tryz.sizeOf168
  v124 := Tryz.zeroValue168
  t138 := Tryz.underlying237
  a138 := Tryz.isAgg237
  z138 := Tryz.sizeOf237
  v138 := Tryz.zeroValue237
  t139 := Tryz.underlying238
  a139 := Tryz.isAgg238
  z139 := Tryz.sizeOf238
  v139 := Tryz.zeroValue238
  g3 := by kernel_rfl
  g4 := by kernel_rfl }
open Go.RowKit in
theorem Tryz.strings_TrimRight_one (s : ByteArray) (c : UInt8) (hc : c.toNat < 128) (w : World) (hs : s.size ≤ 9223372036854775807) :
    Calls Tryz.prog 86 #[.string s, .string ⟨#[c]⟩] w fun e w' => e = .returned (.string ⟨(Lib.trimRightB s.data.toList c).toArray⟩) ∧ w' = w := Any.strings_TrimRight_one Tryz.lays162 s c hc w hs
end Go.Proofs.YtiaaeniopjpfpaaGreatDoor

namespace Go.Proofs.YtiaaeniopjpfpaaGreatDoor
open Go Go.Shelf Go.RowKit Go.Maps
set_option linter.unusedVariables false
set_option linter.unusedSimpArgs false

theorem fault_in {D : DS} (hd : D.down = false) (j : Nat) (hj : j < D.lasts.length) : D.fault (j : Nat) = 0 := by
  unfold DS.fault
  rw [hd]
  simp only [Bool.false_eq_true, if_false]
  rw [if_pos ⟨by omega, by omega⟩]
theorem isBuilder_below {T e B b : Nat} {bs : List Value} {w w' : World} (h : Lib.IsBuilder T e B b bs w) (hb : Below w.heap.size w w') : Lib.IsBuilder T e B b bs w' := by
  have one : ∀ p, Lib.BuilderAt T e B b p bs w → Lib.BuilderAt T e B b p bs w' := by
    rintro p ⟨hB, v, hbk, hown, hne⟩
    refine ⟨hB, v, (hb.block b (Array.getElem?_eq_some_iff.1 hbk).1).trans hbk, ⟨hown.1, ?_⟩, hne⟩
    rcases hown.2 with h | ⟨g, cap, cur, h1, h2, h3, h4⟩
    · exact .inl h
    · exact .inr ⟨g, cap, cur, h1, h2, (hb.block g (Array.getElem?_eq_some_iff.1 h3).1).trans h3, h4⟩
  exact h.elim (fun x => .inl (one _ x)) (fun x => .inr (one _ x))
/-- The bytes of n sectors from a on. -/
def bytesN (D : DS) (a : Nat) : Nat → List UInt8
  | 0 => []
  | j + 1 => bytesN D a j ++ D.read ((a + j : Nat) : Int)
def LG.bytes (g : LG) (D : DS) : List UInt8 := bytesN D (2 + g.half * secs D) (secs D)
theorem bytesN_length (D : DS) (hD : D.ok) (hdn : D.down = false) (a n : Nat) (h : a + n ≤ D.lasts.length) : (bytesN D a n).length = n * 128 := by
  induction n with
  | zero => rfl
  | succ n ih =>
    unfold bytesN
    rw [List.length_append, ih (by omega), readB_len hD hdn (a + n) (by omega)]
    omega
theorem wp_join {P : Program} {id : Nat} {ops : Array Oper} {b : Bool} {Q : Exit → Act → World → Prop} {a : Act} {w : World} (fr : Act → Nat → Act) (Post : Nat → World → Prop)
    (h1 : (Code.region id ops b).wp P (fun e a' w' => e = .normal ∧ ∃ g, a' = fr a g ∧ Post g w') a w) (h2 : ∀ g w', Post g w' → Q .normal (fr a g) w') : (Code.region id ops b).wp P Q a w :=
  Code.wp_mono (fun e a' w' h => by obtain ⟨rfl, g, rfl, hp⟩ := h; exact h2 g w' hp) h1
section
variable {L : Nat → Prop} {w : World} {lp p gl gm : Nat} {hv : Value} {Dm : DataW Unit} {D : DS} {g : LG}
theorem half_in (hD : D.ok) (half j : Nat) (hh : half ≤ 1) (hj : j < secs D) : 2 + half * secs D + j < D.lasts.length := by
  have := hD.least
  unfold secs at *
  rcases (by omega : half = 0 ∨ half = 1) with rfl | rfl <;> omega

set_option maxRecDepth 20000 in
set_option maxHeartbeats 2000000 in
theorem bytes_any (hr : Row w lp 83 (g.cells p)) (hd : DiskIs L w p D) (hdn : D.down = false) (hh : g.half ≤ 1) :
    Calls Tryz.prog 43 #[.pointer (some ⟨lp, 0, none⟩)] w fun e w' => e = .returned (.tuple #[.string (tx (g.bytes D)), .int .i64 0]) ∧ Below w.heap.size w w' := by
  obtain ⟨gl0, gm0, hv0, Dm0, hd0⟩ := id hd
  have hgood := hd0.good
  have hsec := secs_le hd0
  have hHI := half_in hgood g.half
  have hBW : w.heap.size < (w.alloc (.cells #[.pointer none, .slice none 0 0] 127)).heap.size := by rw [World.size_alloc]; omega
  have hb0 : Below w.heap.size w (w.alloc (.cells #[.pointer none, .slice none 0 0] 127)) := (Below.refl _ _).alloc (Nat.le_refl _) _
  have HSEC := Lib.hid (sectors_any (hr.below hb0 hr.lt) (hd0.below hb0))
  obtain ⟨n, hn⟩ : ∃ n, secs D = n := ⟨_, rfl⟩
  obtain ⟨a, ha⟩ : ∃ a, 2 + g.half * n = a := ⟨_, rfl⟩
  obtain ⟨half, hhalf⟩ : ∃ half, g.half = half := ⟨_, rfl⟩
  have hbyt : g.bytes D = bytesN D a n := by unfold LG.bytes; rw [hn, ha]
  rw [hbyt]
  have HFI : Hid (∀ W, Below w.heap.size w W → Calls Tryz.prog 83 #[.pointer (some ⟨lp, 0, none⟩), .int .i64 (half : Nat)] W fun e w' => e = .returned (.int .i64 (a : Nat)) ∧ W = w') := Lib.hid fun W hb => by
    have h := first_any (hr.below hb hr.lt) (hd0.below hb) g.half hh
    rw [hn, ha, hhalf] at h
    exact h
  have hRD : ∀ j, j < n → ∀ W, Below w.heap.size w W → Calls Tryz.prog 56 #[.pointer (some ⟨p, 0, none⟩), .int .i64 ((a + j : Nat) : Int)] W fun e w' => e = .returned (.tuple #[.agg ((D.read ((a + j : Nat) : Int)).map bv).toArray, .int .i64 0]) ∧ Below W.heap.size W w' := fun j hj W hb => by
    have hl := hHI j hh (by rw [hn]; exact hj)
    rw [hn, ha] at hl
    have h := Read_any (hd0.below hb) ((a + j : Nat) : Int)
    rw [fault_in hdn _ hl] at h
    exact h
  have hRL : ∀ j, j < n → (D.read ((a + j : Nat) : Int)).length = 128 := fun j hj => by
    have hl := hHI j hh (by rw [hn]; exact hj)
    rw [hn, ha] at hl
    exact readB_len hgood hdn _ hl
  have hBL : ∀ j, j ≤ n → (bytesN D a j).length = j * 128 := fun j hj => by
    have hl := hHI (n - 1) hh (by omega)
    rw [hn, ha] at hl
    exact bytesN_length D hgood hdn a j (by omega)
  rw [hn] at HSEC
  have HR := Lib.hid (And.intro hRD (And.intro hRL hr))
  have HBL := Lib.hid hBL
  clear hBL
  have hz := (zero_of_info zB_info).1
  obtain ⟨Z, hZ⟩ : ∃ Z, zB = Z := ⟨_, rfl⟩
  have hZl : Z.length = 128 := by rw [← hZ]; exact zB_len
  rw [hZ] at hz
  have HZ := Lib.hid hZl
  have hnI : (n : Int) ≤ 2047 := by omega
  have haI : (a : Int) ≤ 10000 := by
    have := hHI 0 hh (by omega)
    have := hgood.most
    rw [hn, ha] at *
    omega
  have HHALF := Lib.hid hhalf
  clear hhalf
  have HI0 := Lib.hid (Lib.fresh_isBuilder 127 5 w)
  have HB0 := Lib.hid hb0
  clear hd hd0 hdn hh hgood hsec hHI hn ha hbyt hRD hRL hr hZ hZl hBW hb0
  go_enter Tryz.func43, Tryz.ntmps43
  go_wp2_with fail
  refine HSEC.out.mono ?_
  rintro e w1 ⟨rfl, rfl⟩
  generalize w.alloc (.cells #[.pointer none, .slice none 0 0] 127) = w1 at HI0 HB0 HSEC ⊢
  go_wp2_with fail
  go_loopw [10] (fun i wr => ∃ j : Nat, i = .int .i64 j ∧ j ≤ n ∧ Hid (Lib.IsBuilder 127 5 w.heap.size w.heap.size (Lib.byteCells (bytesN D a j)) wr ∧ Below w.heap.size w wr)) (fun i _ => n - (intOf i).toNat)
  case atStart => exact ⟨0, rfl, Nat.zero_le _, Lib.hid ⟨HI0.out, HB0.out⟩⟩
  case round =>
    obtain ⟨j, rfl, hj, HJ⟩ := hrel
    by_cases hlt : j < n
    · have hltI : (j : Int) < (n : Int) := by omega
      have hj2 : (j : Int) ≤ 2047 := by omega
      obtain ⟨C, hC⟩ : ∃ C, (D.read ((a + j : Nat) : Int)).map bv = C := ⟨_, rfl⟩
      have hCl : C.length = 128 := by rw [← hC, List.length_map, HR.out.2.1 j hlt]
      have hsz := blk_sizeK _ (HR.out.2.1 j hlt)
      have hone := blkV_one (D.read ((a + j : Nat) : Int))
      rw [hC] at hsz hone
      have HRDj : Hid (∀ W, Below w.heap.size w W → Calls Tryz.prog 56 #[.pointer (some ⟨p, 0, none⟩), .int .i64 ((a : Int) + (j : Int))] W fun e w' => e = .returned (.tuple #[.agg C.toArray, .int .i64 0]) ∧ Below W.heap.size W w') := Lib.hid fun W hb => by
        have h := HR.out.1 j hlt W hb
        rw [hC, show ((a + j : Nat) : Int) = (a : Int) + (j : Int) by omega] at h
        exact h
      have HC := Lib.hid (And.intro hC (And.intro hone (And.intro hCl (show (Tryz.prog.info? 90).map (·.size) = some C.toArray.size by rw [List.size_toArray]; exact hsz))))
      have hthZ : ∀ (W : World) (g : Nat), Row W g 90 Z → W.there g 0 C.toArray.size := fun W g h => by
        rw [show C.toArray.size = Z.length by rw [List.size_toArray, hCl, HZ.out]]
        exact row_thereK h 0 _ (by omega)
      have S0 : SB wr wr.drew := SB.dr (Below.refl _ _)
      have HRW : Hid (∀ W, SB wr W → ∀ k, W.cell? ⟨lp, k, none⟩ = (g.cells p)[k]?) := Lib.hid fun W h k => ((HR.out.2.2.below HJ.out.2 HR.out.2.2.lt).below h (by have := HR.out.2.2.lt; have := HJ.out.2.size; omega)).cell k
      have HPS : Hid (∀ (W : World) (g : Nat), SB wr W → Row W g 90 Z → wr.heap.size ≤ g → Row (W.setCells g 0 C) g 90 C ∧ SB wr (W.setCells g 0 C)) := Lib.hid fun W g h hr hg => by
        have hb := below_setCells (w := W) (B := g) (Nat.le_refl _) C 0 W (Below.refl _ _)
        exact ⟨row_setCells C [] Z W (by rw [hCl, HZ.out]) hr, h.trans (hb.mono hg)⟩
      clear hsz hone hCl hC hj
      go_wp2_with fail
      refine wp_join (fun a9 g => ((((((((((((((((((a9.put (some 14) (.pointer (some ⟨lp, 0, none⟩))).put (some 15) (.pointer (some ⟨lp, 0, none⟩))).put (some 16) (.pointer (some ⟨lp, 0, none⟩))).put (some 17) (.pointer (some ⟨p, 0, none⟩))).put (some 18) (.pointer (some ⟨lp, 0, none⟩))).put (some 19) (.pointer (some ⟨lp, 0, none⟩))).put (some 20) (.pointer (some ⟨lp, 0, none⟩))).put (some 21) (.pointer (some ⟨lp, 2, none⟩))).put (some 22) (.int .i64 (half : Nat))).put (some 23) (.int .i64 (a : Nat))).put (some 24) (.int .i64 j)).put (some 25) (.int .i64 ((a : Int) + (j : Int)))).put (some 26) (.tuple #[.agg C.toArray, .int .i64 0])).put (some 13) (.tuple #[.agg C.toArray, .int .i64 0])).put (some 27) (.agg C.toArray)).put (some 28) (.int .i64 0)).put (some 6) (.pointer (some ⟨g, 0, none⟩))).put (some 7) (.int .i64 0)))
        (fun g w' => Row w' g 90 C ∧ SB wr w') ?_ ?_
      · refine wp_region_noPanic ?_
        refine wp_region_held_drew (S := fun W => SB wr W) (by kernel_rfl) S0 (fun hHeld => ?_)
        refine wpAnyH_take (i := 0) (oi := { dst := some 14, op := Op.move (Operand.tmp 0), type := 30, pos := "log.go:162", after := #[], guard := none }) (v := ?vvz1_0) rfl (by kernel_rfl) (by kernel_rfl) (by kernel_rfl) (fun _ _ _ h => h) (Or.inl ⟨by rfl, ?yyz1_0⟩) hHeld ?_
        case vvz1_0 => exact .pointer (some ⟨lp, 0, none⟩)
        case yyz1_0 =>
          intro W hS
          go_simp
        try simp only [Act.put, List.setIfInBounds_toArray, List.set_cons_zero, List.set_cons_succ]
        refine wpAnyH_take (i := 1) (oi := { dst := some 15, op := Op.nilCheck (Operand.tmp 14), type := 0, pos := "log.go:162", after := #[{ on := 0, ground := Ground.data }], guard := none }) (v := ?vvz2_1) rfl (by kernel_rfl) (by kernel_rfl) (by kernel_rfl) (fun _ _ _ h => h) (Or.inl ⟨by rfl, ?yyz2_1⟩) hHeld ?_
        case vvz2_1 => exact .pointer (some ⟨lp, 0, none⟩)
        case yyz2_1 =>
          intro W hS
          go_simp
        try simp only [Act.put, List.setIfInBounds_toArray, List.set_cons_zero, List.set_cons_succ]
        refine wpAnyH_take (i := 2) (oi := { dst := some 16, op := Op.fieldAddr 83 (Operand.tmp 15) 0, type := 0, pos := "log.go:162", after := #[{ on := 1, ground := Ground.data }], guard := none }) (v := ?vvz3_2) rfl (by kernel_rfl) (by kernel_rfl) (by kernel_rfl) (fun _ _ _ h => h) (Or.inl ⟨by rfl, ?yyz3_2⟩) hHeld ?_
        case vvz3_2 => exact .pointer (some ⟨lp, 0, none⟩)
        case yyz3_2 =>
          intro W hS
          go_simp
        try simp only [Act.put, List.setIfInBounds_toArray, List.set_cons_zero, List.set_cons_succ]
        refine wpAnyH_take (i := 3) (oi := { dst := some 17, op := Op.load 24 (Operand.tmp 16), type := 24, pos := "log.go:162", after := #[{ on := 2, ground := Ground.data }], guard := none }) (v := ?vvz4_3) rfl (by kernel_rfl) (by kernel_rfl) (by kernel_rfl) (fun _ _ _ h => h) (Or.inl ⟨by rfl, ?yyz4_3⟩) hHeld ?_
        case vvz4_3 => exact .pointer (some ⟨p, 0, none⟩)
        case yyz4_3 =>
          intro W hS
          have q0 := HRW.out W hS 0
          simp only [LG.cells, List.getElem?_cons_zero] at q0
          go_simp
        try simp only [Act.put, List.setIfInBounds_toArray, List.set_cons_zero, List.set_cons_succ]
        refine wpAnyH_take (i := 4) (oi := { dst := some 18, op := Op.move (Operand.tmp 0), type := 30, pos := "log.go:162", after := #[], guard := none }) (v := ?vvz5_4) rfl (by kernel_rfl) (by kernel_rfl) (by kernel_rfl) (fun _ _ _ h => h) (Or.inl ⟨by rfl, ?yyz5_4⟩) hHeld ?_
        case vvz5_4 => exact .pointer (some ⟨lp, 0, none⟩)
        case yyz5_4 =>
          intro W hS
          go_simp
        try simp only [Act.put, List.setIfInBounds_toArray, List.set_cons_zero, List.set_cons_succ]
        refine wpAnyH_take (i := 5) (oi := { dst := some 19, op := Op.move (Operand.tmp 0), type := 30, pos := "log.go:162", after := #[], guard := none }) (v := ?vvz6_5) rfl (by kernel_rfl) (by kernel_rfl) (by kernel_rfl) (fun _ _ _ h => h) (Or.inl ⟨by rfl, ?yyz6_5⟩) hHeld ?_
        case vvz6_5 => exact .pointer (some ⟨lp, 0, none⟩)
        case yyz6_5 =>
          intro W hS
          go_simp
        try simp only [Act.put, List.setIfInBounds_toArray, List.set_cons_zero, List.set_cons_succ]
        refine wpAnyH_take (i := 6) (oi := { dst := some 20, op := Op.nilCheck (Operand.tmp 19), type := 0, pos := "log.go:162", after := #[{ on := 5, ground := Ground.data }], guard := none }) (v := ?vvz7_6) rfl (by kernel_rfl) (by kernel_rfl) (by kernel_rfl) (fun _ _ _ h => h) (Or.inl ⟨by rfl, ?yyz7_6⟩) hHeld ?_
        case vvz7_6 => exact .pointer (some ⟨lp, 0, none⟩)
        case yyz7_6 =>
          intro W hS
          go_simp
        try simp only [Act.put, List.setIfInBounds_toArray, List.set_cons_zero, List.set_cons_succ]
        refine wpAnyH_take (i := 7) (oi := { dst := some 21, op := Op.fieldAddr 83 (Operand.tmp 20) 2, type := 0, pos := "log.go:162", after := #[{ on := 6, ground := Ground.data }], guard := none }) (v := ?vvz8_7) rfl (by kernel_rfl) (by kernel_rfl) (by kernel_rfl) (fun _ _ _ h => h) (Or.inl ⟨by rfl, ?yyz8_7⟩) hHeld ?_
        case vvz8_7 => exact .pointer (some ⟨lp, 2, none⟩)
        case yyz8_7 =>
          intro W hS
          go_simp
        try simp only [Act.put, List.setIfInBounds_toArray, List.set_cons_zero, List.set_cons_succ]
        refine wpAnyH_take (i := 8) (oi := { dst := some 22, op := Op.load 3 (Operand.tmp 21), type := 3, pos := "log.go:162", after := #[{ on := 7, ground := Ground.data }], guard := none }) (v := ?vvz9_8) rfl (by kernel_rfl) (by kernel_rfl) (by kernel_rfl) (fun _ _ _ h => h) (Or.inl ⟨by rfl, ?yyz9_8⟩) hHeld ?_
        case vvz9_8 => exact .int .i64 (half : Nat)
        case yyz9_8 =>
          intro W hS
          have q0 := HRW.out W hS 2
          simp only [LG.cells, List.getElem?_cons_zero, List.getElem?_cons_succ, HHALF.out] at q0
          go_simp
        try simp only [Act.put, List.setIfInBounds_toArray, List.set_cons_zero, List.set_cons_succ]
        refine wpAnyH_take (i := 10) (oi := { dst := some 24, op := Op.move (Operand.tmp 5), type := 3, pos := "log.go:162", after := #[], guard := none }) (v := ?vvz10_10) rfl (by kernel_rfl) (by kernel_rfl) (by kernel_rfl) (fun _ _ _ h => h) (Or.inl ⟨by rfl, ?yyz10_10⟩) hHeld ?_
        case vvz10_10 => exact .int .i64 j
        case yyz10_10 =>
          intro W hS
          go_simp
        try simp only [Act.put, List.setIfInBounds_toArray, List.set_cons_zero, List.set_cons_succ]
        refine wpAnyH_ready (rs := [9, 16]) (by kernel_rfl) (by simp) (AllReadyH.cons (o := { dst := some 23, op := Op.call { callee := Callee.value (Operand.func 83), args := #[Operand.tmp 18, Operand.tmp 22], argTypes := #[30, 3] }, type := 3, pos := "log.go:162", after := #[{ on := 4, ground := Ground.data }, { on := 8, ground := Ground.data }], guard := none }) rfl (fun K hK => ?_) (AllReadyH.cons (o := { dst := some 6, op := Op.alloc 90, type := 0, pos := "log.go:162", after := #[], guard := none }) rfl (fun K hK => ?_) AllReadyH.nil))
        · go_simp
          go_at_call 83
          refine (HFI.out _ (HJ.out.2.trans (Below.mono S0 (HJ.out.2.size)))).mono ?_
          rintro e wf ⟨rfl, rfl⟩
          refine hK.out _ _ S0 (fun hHeld => ?_)
          clear hK K
          try simp only [Act.put, List.setIfInBounds_toArray, List.set_cons_zero, List.set_cons_succ]
          refine wpAnyH_take (i := 11) (oi := { dst := some 25, op := Op.binOp BinOp.add 3 (Operand.tmp 23) (Operand.tmp 24) 3, type := 3, pos := "log.go:162", after := #[{ on := 9, ground := Ground.data }, { on := 10, ground := Ground.data }], guard := none }) (v := ?vvz11_11) rfl (by kernel_rfl) (by kernel_rfl) (by kernel_rfl) (fun _ _ _ h => h) (Or.inl ⟨by rfl, ?yyz11_11⟩) hHeld ?_
          case vvz11_11 => exact .int .i64 ((a : Int) + (j : Int))
          case yyz11_11 =>
            intro W hS
            go_simp
            rw [IntKind.wrap_i64]
            omega
          try simp only [Act.put, List.setIfInBounds_toArray, List.set_cons_zero, List.set_cons_succ]
          refine wpAnyH_ready (rs := [12, 16]) (by kernel_rfl) (by simp) (AllReadyH.cons (o := { dst := some 26, op := Op.call { callee := Callee.value (Operand.func 56), args := #[Operand.tmp 17, Operand.tmp 25], argTypes := #[24, 3] }, type := 98, pos := "log.go:162", after := #[{ on := 3, ground := Ground.data }, { on := 11, ground := Ground.data }, { on := 9, ground := Ground.chain }], guard := none }) rfl (fun K hK => ?_) (AllReadyH.cons (o := { dst := some 6, op := Op.alloc 90, type := 0, pos := "log.go:162", after := #[], guard := none }) rfl (fun K hK => ?_) AllReadyH.nil))
          · go_simp
            go_at_call 56
            refine (HRDj.out _ (HJ.out.2.trans (Below.mono S0 (HJ.out.2.size)))).mono ?_
            rintro e w4 ⟨rfl, hb4⟩
            have s4 := SB.next S0 hb4
            refine hK.out _ _ s4 (fun hHeld => ?_)
            clear hK K
            try simp only [Act.put, List.setIfInBounds_toArray, List.set_cons_zero, List.set_cons_succ]
            refine wpAnyH_take (i := 13) (oi := { dst := some 13, op := Op.move (Operand.tmp 26), type := 98, pos := "log.go:162", after := #[{ on := 12, ground := Ground.data }], guard := none }) (v := ?vvz12_13) rfl (by kernel_rfl) (by kernel_rfl) (by kernel_rfl) (fun _ _ _ h => h) (Or.inl ⟨by rfl, ?yyz12_13⟩) hHeld ?_
            case vvz12_13 => exact .tuple #[.agg C.toArray, .int .i64 0]
            case yyz12_13 =>
              intro W hS
              go_simp
            try simp only [Act.put, List.setIfInBounds_toArray, List.set_cons_zero, List.set_cons_succ]
            refine wpAnyH_take (i := 14) (oi := { dst := some 27, op := Op.extract (Operand.tmp 13) 0, type := 90, pos := "log.go:162", after := #[{ on := 13, ground := Ground.data }], guard := none }) (v := ?vvz13_14) rfl (by kernel_rfl) (by kernel_rfl) (by kernel_rfl) (fun _ _ _ h => h) (Or.inl ⟨by rfl, ?yyz13_14⟩) hHeld ?_
            case vvz13_14 => exact .agg C.toArray
            case yyz13_14 =>
              intro W hS
              go_simp
            try simp only [Act.put, List.setIfInBounds_toArray, List.set_cons_zero, List.set_cons_succ]
            refine wpAnyH_take (i := 15) (oi := { dst := some 28, op := Op.extract (Operand.tmp 13) 1, type := 25, pos := "log.go:162", after := #[{ on := 13, ground := Ground.data }, { on := 17, ground := Ground.gcOnly Departure.lateStores }], guard := none }) (v := ?vvz14_15) rfl (by kernel_rfl) (by kernel_rfl) (by kernel_rfl) (fun _ _ _ h => h) (Or.inl ⟨by rfl, ?yyz14_15⟩) hHeld ?_
            case vvz14_15 => exact .int .i64 0
            case yyz14_15 =>
              intro W hS
              go_simp
            try simp only [Act.put, List.setIfInBounds_toArray, List.set_cons_zero, List.set_cons_succ]
            refine wpAnyH_ready (rs := [16]) (by kernel_rfl) (by simp) (AllReadyH.cons (o := { dst := some 6, op := Op.alloc 90, type := 0, pos := "log.go:162", after := #[], guard := none }) rfl (fun K hK => ?_) AllReadyH.nil)
            go_simp
            have s5 := SB.al s4 (.cells Z.toArray 90)
            have r5 : Row (w4.alloc (.cells Z.toArray 90)) w4.heap.size 90 Z := Row.new w4 _ _
            have z5 : wr.heap.size ≤ w4.heap.size := s4.size
            refine hK.out _ _ s5 (fun hHeld => ?_)
            clear hK K
            try simp only [Act.put, List.setIfInBounds_toArray, List.set_cons_zero, List.set_cons_succ]
            refine wpAnyH_ready (rs := [17]) (by kernel_rfl) (by simp) (AllReadyH.cons (o := { dst := none, op := Op.store 90 (Operand.tmp 6) (Operand.tmp 27), type := 0, pos := "log.go:162", after := #[{ on := 16, ground := Ground.data }, { on := 14, ground := Ground.data }, { on := 12, ground := Ground.chain }, { on := 0, ground := Ground.phase }, { on := 1, ground := Ground.phase }, { on := 2, ground := Ground.phase }, { on := 3, ground := Ground.phase }, { on := 4, ground := Ground.phase }, { on := 5, ground := Ground.phase }, { on := 6, ground := Ground.phase }, { on := 7, ground := Ground.phase }, { on := 8, ground := Ground.phase }, { on := 9, ground := Ground.phase }, { on := 10, ground := Ground.phase }, { on := 11, ground := Ground.phase }, { on := 12, ground := Ground.phase }, { on := 13, ground := Ground.phase }, { on := 14, ground := Ground.phase }, { on := 15, ground := Ground.textOnly Departure.lateStores }, { on := 16, ground := Ground.phase }], guard := none }) rfl (fun K hK => ?_) AllReadyH.nil)
            rw [if_pos (by rfl)]
            refine wp_store_mid _ _ _ rfl w4.heap.size 0 C.toArray rfl rfl (hthZ _ _ r5) HC.out.2.2.2 HC.out.2.1 ?_
            try simp only [Act.put, List.setIfInBounds_toArray, List.set_cons_zero, List.set_cons_succ, List.toList_toArray]
            have hP := HPS.out _ w4.heap.size s5 r5 (by omega)
            refine hK.out _ _ hP.2 (fun hHeld => ?_)
            clear hK K
            try simp only [Act.put, List.setIfInBounds_toArray, List.set_cons_zero, List.set_cons_succ]
            refine wpAnyH_ready (rs := [18]) (by kernel_rfl) (by simp) (AllReadyH.cons (o := { dst := some 7, op := Op.assign (Operand.tmp 28), type := 25, pos := "log.go:162", after := #[{ on := 15, ground := Ground.data }, { on := 17, ground := Ground.chain }, { on := 0, ground := Ground.phase }, { on := 1, ground := Ground.phase }, { on := 2, ground := Ground.phase }, { on := 3, ground := Ground.phase }, { on := 4, ground := Ground.phase }, { on := 5, ground := Ground.phase }, { on := 6, ground := Ground.phase }, { on := 7, ground := Ground.phase }, { on := 8, ground := Ground.phase }, { on := 9, ground := Ground.phase }, { on := 10, ground := Ground.phase }, { on := 11, ground := Ground.phase }, { on := 12, ground := Ground.phase }, { on := 13, ground := Ground.phase }, { on := 14, ground := Ground.phase }, { on := 15, ground := Ground.phase }, { on := 16, ground := Ground.phase }, { on := 17, ground := Ground.phase }], guard := none }) rfl (fun K hK => ?_) AllReadyH.nil)
            go_simp
            refine hK.out _ _ hP.2 (fun hHeld => ?_)
            clear hK K
            try simp only [Act.put, List.setIfInBounds_toArray, List.set_cons_zero, List.set_cons_succ]
            refine wpAnyH_done (by kernel_rfl) ?_ _
            refine NoPanic.normal ?_
            exact ⟨rfl, _, rfl, hP⟩
          · go_simp
            have s3 := SB.al S0 (.cells Z.toArray 90)
            have r3 : Row (wr.drew.alloc (.cells Z.toArray 90)) wr.drew.heap.size 90 Z := Row.new wr.drew _ _
            have z3 : wr.heap.size ≤ wr.drew.heap.size := Nat.le_refl _
            refine hK.out _ _ s3 (fun hHeld => ?_)
            clear hK K
            try simp only [Act.put, List.setIfInBounds_toArray, List.set_cons_zero, List.set_cons_succ]
            refine wpAnyH_ready (rs := [12]) (by kernel_rfl) (by simp) (AllReadyH.cons (o := { dst := some 26, op := Op.call { callee := Callee.value (Operand.func 56), args := #[Operand.tmp 17, Operand.tmp 25], argTypes := #[24, 3] }, type := 98, pos := "log.go:162", after := #[{ on := 3, ground := Ground.data }, { on := 11, ground := Ground.data }, { on := 9, ground := Ground.chain }], guard := none }) rfl (fun K hK => ?_) AllReadyH.nil)
            go_simp
            go_at_call 56
            refine (HRDj.out _ (HJ.out.2.trans (Below.mono s3 (HJ.out.2.size)))).mono ?_
            rintro e w4 ⟨rfl, hb4⟩
            have s4 := SB.next s3 hb4
            have r4 := r3.below hb4 r3.lt
            refine hK.out _ _ s4 (fun hHeld => ?_)
            clear hK K
            try simp only [Act.put, List.setIfInBounds_toArray, List.set_cons_zero, List.set_cons_succ]
            refine wpAnyH_take (i := 13) (oi := { dst := some 13, op := Op.move (Operand.tmp 26), type := 98, pos := "log.go:162", after := #[{ on := 12, ground := Ground.data }], guard := none }) (v := ?vvz15_13) rfl (by kernel_rfl) (by kernel_rfl) (by kernel_rfl) (fun _ _ _ h => h) (Or.inl ⟨by rfl, ?yyz15_13⟩) hHeld ?_
            case vvz15_13 => exact .tuple #[.agg C.toArray, .int .i64 0]
            case yyz15_13 =>
              intro W hS
              go_simp
            try simp only [Act.put, List.setIfInBounds_toArray, List.set_cons_zero, List.set_cons_succ]
            refine wpAnyH_take (i := 14) (oi := { dst := some 27, op := Op.extract (Operand.tmp 13) 0, type := 90, pos := "log.go:162", after := #[{ on := 13, ground := Ground.data }], guard := none }) (v := ?vvz16_14) rfl (by kernel_rfl) (by kernel_rfl) (by kernel_rfl) (fun _ _ _ h => h) (Or.inl ⟨by rfl, ?yyz16_14⟩) hHeld ?_
            case vvz16_14 => exact .agg C.toArray
            case yyz16_14 =>
              intro W hS
              go_simp
            try simp only [Act.put, List.setIfInBounds_toArray, List.set_cons_zero, List.set_cons_succ]
            refine wpAnyH_take (i := 15) (oi := { dst := some 28, op := Op.extract (Operand.tmp 13) 1, type := 25, pos := "log.go:162", after := #[{ on := 13, ground := Ground.data }, { on := 17, ground := Ground.gcOnly Departure.lateStores }], guard := none }) (v := ?vvz17_15) rfl (by kernel_rfl) (by kernel_rfl) (by kernel_rfl) (fun _ _ _ h => h) (Or.inl ⟨by rfl, ?yyz17_15⟩) hHeld ?_
            case vvz17_15 => exact .int .i64 0
            case yyz17_15 =>
              intro W hS
              go_simp
            try simp only [Act.put, List.setIfInBounds_toArray, List.set_cons_zero, List.set_cons_succ]
            refine wpAnyH_ready (rs := [17]) (by kernel_rfl) (by simp) (AllReadyH.cons (o := { dst := none, op := Op.store 90 (Operand.tmp 6) (Operand.tmp 27), type := 0, pos := "log.go:162", after := #[{ on := 16, ground := Ground.data }, { on := 14, ground := Ground.data }, { on := 12, ground := Ground.chain }, { on := 0, ground := Ground.phase }, { on := 1, ground := Ground.phase }, { on := 2, ground := Ground.phase }, { on := 3, ground := Ground.phase }, { on := 4, ground := Ground.phase }, { on := 5, ground := Ground.phase }, { on := 6, ground := Ground.phase }, { on := 7, ground := Ground.phase }, { on := 8, ground := Ground.phase }, { on := 9, ground := Ground.phase }, { on := 10, ground := Ground.phase }, { on := 11, ground := Ground.phase }, { on := 12, ground := Ground.phase }, { on := 13, ground := Ground.phase }, { on := 14, ground := Ground.phase }, { on := 15, ground := Ground.textOnly Departure.lateStores }, { on := 16, ground := Ground.phase }], guard := none }) rfl (fun K hK => ?_) AllReadyH.nil)
            rw [if_pos (by rfl)]
            refine wp_store_mid _ _ _ rfl wr.drew.heap.size 0 C.toArray rfl rfl (hthZ _ _ r4) HC.out.2.2.2 HC.out.2.1 ?_
            try simp only [Act.put, List.setIfInBounds_toArray, List.set_cons_zero, List.set_cons_succ, List.toList_toArray]
            have hP := HPS.out _ wr.drew.heap.size s4 r4 (by omega)
            refine hK.out _ _ hP.2 (fun hHeld => ?_)
            clear hK K
            try simp only [Act.put, List.setIfInBounds_toArray, List.set_cons_zero, List.set_cons_succ]
            refine wpAnyH_ready (rs := [18]) (by kernel_rfl) (by simp) (AllReadyH.cons (o := { dst := some 7, op := Op.assign (Operand.tmp 28), type := 25, pos := "log.go:162", after := #[{ on := 15, ground := Ground.data }, { on := 17, ground := Ground.chain }, { on := 0, ground := Ground.phase }, { on := 1, ground := Ground.phase }, { on := 2, ground := Ground.phase }, { on := 3, ground := Ground.phase }, { on := 4, ground := Ground.phase }, { on := 5, ground := Ground.phase }, { on := 6, ground := Ground.phase }, { on := 7, ground := Ground.phase }, { on := 8, ground := Ground.phase }, { on := 9, ground := Ground.phase }, { on := 10, ground := Ground.phase }, { on := 11, ground := Ground.phase }, { on := 12, ground := Ground.phase }, { on := 13, ground := Ground.phase }, { on := 14, ground := Ground.phase }, { on := 15, ground := Ground.phase }, { on := 16, ground := Ground.phase }, { on := 17, ground := Ground.phase }], guard := none }) rfl (fun K hK => ?_) AllReadyH.nil)
            go_simp
            refine hK.out _ _ hP.2 (fun hHeld => ?_)
            clear hK K
            try simp only [Act.put, List.setIfInBounds_toArray, List.set_cons_zero, List.set_cons_succ]
            refine wpAnyH_done (by kernel_rfl) ?_ _
            refine NoPanic.normal ?_
            exact ⟨rfl, _, rfl, hP⟩
        · go_simp
          have s3 := SB.al S0 (.cells Z.toArray 90)
          have r3 : Row (wr.drew.alloc (.cells Z.toArray 90)) wr.drew.heap.size 90 Z := Row.new wr.drew _ _
          have z3 : wr.heap.size ≤ wr.drew.heap.size := Nat.le_refl _
          refine hK.out _ _ s3 (fun hHeld => ?_)
          clear hK K
          try simp only [Act.put, List.setIfInBounds_toArray, List.set_cons_zero, List.set_cons_succ]
          refine wpAnyH_ready (rs := [9]) (by kernel_rfl) (by simp) (AllReadyH.cons (o := { dst := some 23, op := Op.call { callee := Callee.value (Operand.func 83), args := #[Operand.tmp 18, Operand.tmp 22], argTypes := #[30, 3] }, type := 3, pos := "log.go:162", after := #[{ on := 4, ground := Ground.data }, { on := 8, ground := Ground.data }], guard := none }) rfl (fun K hK => ?_) AllReadyH.nil)
          go_simp
          go_at_call 83
          refine (HFI.out _ (HJ.out.2.trans (Below.mono s3 (HJ.out.2.size)))).mono ?_
          rintro e wf ⟨rfl, rfl⟩
          refine hK.out _ _ s3 (fun hHeld => ?_)
          clear hK K
          try simp only [Act.put, List.setIfInBounds_toArray, List.set_cons_zero, List.set_cons_succ]
          refine wpAnyH_take (i := 11) (oi := { dst := some 25, op := Op.binOp BinOp.add 3 (Operand.tmp 23) (Operand.tmp 24) 3, type := 3, pos := "log.go:162", after := #[{ on := 9, ground := Ground.data }, { on := 10, ground := Ground.data }], guard := none }) (v := ?vvz18_11) rfl (by kernel_rfl) (by kernel_rfl) (by kernel_rfl) (fun _ _ _ h => h) (Or.inl ⟨by rfl, ?yyz18_11⟩) hHeld ?_
          case vvz18_11 => exact .int .i64 ((a : Int) + (j : Int))
          case yyz18_11 =>
            intro W hS
            go_simp
            rw [IntKind.wrap_i64]
            omega
          try simp only [Act.put, List.setIfInBounds_toArray, List.set_cons_zero, List.set_cons_succ]
          refine wpAnyH_ready (rs := [12]) (by kernel_rfl) (by simp) (AllReadyH.cons (o := { dst := some 26, op := Op.call { callee := Callee.value (Operand.func 56), args := #[Operand.tmp 17, Operand.tmp 25], argTypes := #[24, 3] }, type := 98, pos := "log.go:162", after := #[{ on := 3, ground := Ground.data }, { on := 11, ground := Ground.data }, { on := 9, ground := Ground.chain }], guard := none }) rfl (fun K hK => ?_) AllReadyH.nil)
          go_simp
          go_at_call 56
          refine (HRDj.out _ (HJ.out.2.trans (Below.mono s3 (HJ.out.2.size)))).mono ?_
          rintro e w4 ⟨rfl, hb4⟩
          have s4 := SB.next s3 hb4
          have r4 := r3.below hb4 r3.lt
          refine hK.out _ _ s4 (fun hHeld => ?_)
          clear hK K
          try simp only [Act.put, List.setIfInBounds_toArray, List.set_cons_zero, List.set_cons_succ]
          refine wpAnyH_take (i := 13) (oi := { dst := some 13, op := Op.move (Operand.tmp 26), type := 98, pos := "log.go:162", after := #[{ on := 12, ground := Ground.data }], guard := none }) (v := ?vvz19_13) rfl (by kernel_rfl) (by kernel_rfl) (by kernel_rfl) (fun _ _ _ h => h) (Or.inl ⟨by rfl, ?yyz19_13⟩) hHeld ?_
          case vvz19_13 => exact .tuple #[.agg C.toArray, .int .i64 0]
          case yyz19_13 =>
            intro W hS
            go_simp
          try simp only [Act.put, List.setIfInBounds_toArray, List.set_cons_zero, List.set_cons_succ]
          refine wpAnyH_take (i := 14) (oi := { dst := some 27, op := Op.extract (Operand.tmp 13) 0, type := 90, pos := "log.go:162", after := #[{ on := 13, ground := Ground.data }], guard := none }) (v := ?vvz20_14) rfl (by kernel_rfl) (by kernel_rfl) (by kernel_rfl) (fun _ _ _ h => h) (Or.inl ⟨by rfl, ?yyz20_14⟩) hHeld ?_
          case vvz20_14 => exact .agg C.toArray
          case yyz20_14 =>
            intro W hS
            go_simp
          try simp only [Act.put, List.setIfInBounds_toArray, List.set_cons_zero, List.set_cons_succ]
          refine wpAnyH_take (i := 15) (oi := { dst := some 28, op := Op.extract (Operand.tmp 13) 1, type := 25, pos := "log.go:162", after := #[{ on := 13, ground := Ground.data }, { on := 17, ground := Ground.gcOnly Departure.lateStores }], guard := none }) (v := ?vvz21_15) rfl (by kernel_rfl) (by kernel_rfl) (by kernel_rfl) (fun _ _ _ h => h) (Or.inl ⟨by rfl, ?yyz21_15⟩) hHeld ?_
          case vvz21_15 => exact .int .i64 0
          case yyz21_15 =>
            intro W hS
            go_simp
          try simp only [Act.put, List.setIfInBounds_toArray, List.set_cons_zero, List.set_cons_succ]
          refine wpAnyH_ready (rs := [17]) (by kernel_rfl) (by simp) (AllReadyH.cons (o := { dst := none, op := Op.store 90 (Operand.tmp 6) (Operand.tmp 27), type := 0, pos := "log.go:162", after := #[{ on := 16, ground := Ground.data }, { on := 14, ground := Ground.data }, { on := 12, ground := Ground.chain }, { on := 0, ground := Ground.phase }, { on := 1, ground := Ground.phase }, { on := 2, ground := Ground.phase }, { on := 3, ground := Ground.phase }, { on := 4, ground := Ground.phase }, { on := 5, ground := Ground.phase }, { on := 6, ground := Ground.phase }, { on := 7, ground := Ground.phase }, { on := 8, ground := Ground.phase }, { on := 9, ground := Ground.phase }, { on := 10, ground := Ground.phase }, { on := 11, ground := Ground.phase }, { on := 12, ground := Ground.phase }, { on := 13, ground := Ground.phase }, { on := 14, ground := Ground.phase }, { on := 15, ground := Ground.textOnly Departure.lateStores }, { on := 16, ground := Ground.phase }], guard := none }) rfl (fun K hK => ?_) AllReadyH.nil)
          rw [if_pos (by rfl)]
          refine wp_store_mid _ _ _ rfl wr.drew.heap.size 0 C.toArray rfl rfl (hthZ _ _ r4) HC.out.2.2.2 HC.out.2.1 ?_
          try simp only [Act.put, List.setIfInBounds_toArray, List.set_cons_zero, List.set_cons_succ, List.toList_toArray]
          have hP := HPS.out _ wr.drew.heap.size s4 r4 (by omega)
          refine hK.out _ _ hP.2 (fun hHeld => ?_)
          clear hK K
          try simp only [Act.put, List.setIfInBounds_toArray, List.set_cons_zero, List.set_cons_succ]
          refine wpAnyH_ready (rs := [18]) (by kernel_rfl) (by simp) (AllReadyH.cons (o := { dst := some 7, op := Op.assign (Operand.tmp 28), type := 25, pos := "log.go:162", after := #[{ on := 15, ground := Ground.data }, { on := 17, ground := Ground.chain }, { on := 0, ground := Ground.phase }, { on := 1, ground := Ground.phase }, { on := 2, ground := Ground.phase }, { on := 3, ground := Ground.phase }, { on := 4, ground := Ground.phase }, { on := 5, ground := Ground.phase }, { on := 6, ground := Ground.phase }, { on := 7, ground := Ground.phase }, { on := 8, ground := Ground.phase }, { on := 9, ground := Ground.phase }, { on := 10, ground := Ground.phase }, { on := 11, ground := Ground.phase }, { on := 12, ground := Ground.phase }, { on := 13, ground := Ground.phase }, { on := 14, ground := Ground.phase }, { on := 15, ground := Ground.phase }, { on := 16, ground := Ground.phase }, { on := 17, ground := Ground.phase }], guard := none }) rfl (fun K hK => ?_) AllReadyH.nil)
          go_simp
          refine hK.out _ _ hP.2 (fun hHeld => ?_)
          clear hK K
          try simp only [Act.put, List.setIfInBounds_toArray, List.set_cons_zero, List.set_cons_succ]
          refine wpAnyH_done (by kernel_rfl) ?_ _
          refine NoPanic.normal ?_
          exact ⟨rfl, _, rfl, hP⟩

      · intro gb wf hPf
        try simp only [Act.put, List.setIfInBounds_toArray, List.set_cons_zero, List.set_cons_succ]
        have hwf : w.heap.size ≤ wf.heap.size := Nat.le_trans HJ.out.2.size hPf.2.size
        have hWB := BWrite_any w.heap.size w.heap.size gb (Lib.byteCells (bytesN D a j)) C (fun u hu => (Array.all_eq_true_iff_forall_mem.1 HC.out.2.1) u (by simpa using hu)) wf (isBuilder_below HJ.out.1 hPf.2) hPf.1
          (by rw [Lib.byteCells_length, HBL.out j (by omega), HC.out.2.2.1]; omega) hwf
        rw [HC.out.2.2.1, show Lib.byteCells (bytesN D a j) ++ C = Lib.byteCells (bytesN D a (j + 1)) by rw [← HC.out.1, show bytesN D a (j + 1) = bytesN D a j ++ D.read ((a + j : Nat) : Int) from rfl]; exact (List.map_append).symm] at hWB
        have HWB := Lib.hid hWB
        have HPF := Lib.hid (And.intro hPf hwf)
        clear hWB hPf hwf HPS hthZ S0 HRW HC
        go_wp2_with fail
        refine HWB.out.mono ?_
        rintro e w5 ⟨rfl, hb5⟩
        have H5 : Hid (Lib.IsBuilder 127 5 w.heap.size w.heap.size (Lib.byteCells (bytesN D a (j + 1))) w5 ∧ Below w.heap.size w w5) := Lib.hid ⟨.inr hb5.1, (HJ.out.2.trans (HPF.out.1.2.mono HJ.out.2.size)).trans hb5.2.1⟩
        clear hb5
        go_wp2_with fail
        go_roundw
        case rel => exact ⟨j + 1, by go_num, by omega, H5⟩
        case measure => simp [intOf]; omega
    · obtain rfl : j = n := by omega
      go_wp2_with fail
      refine (BString_any w.heap.size w.heap.size (bytesN D a j) wr HJ.out.1 HJ.out.2.size).mono ?_
      rintro e w6 ⟨rfl, hb6⟩
      have H6 := Lib.hid (HJ.out.2.trans hb6)
      clear hb6
      go_wp2_with fail
      go_ret2
      exact ⟨rfl, H6.out⟩
end
end Go.Proofs.YtiaaeniopjpfpaaGreatDoor

namespace Go.Proofs.YtiaaeniopjpfpaaGreatDoor
open Go Go.RowKit Go.Maps
set_option linter.unusedVariables false
set_option linter.unusedSimpArgs false

section
variable {L : Nat → Prop} {w : World} {lp p : Nat} {g : LG}
set_option maxRecDepth 4000 in
theorem wipe_any (hr : Row w lp 83 (g.cells p)) (bs : List UInt8) (hl : bs.length ≤ 1000000000) (hu : (Lib.trimRightB bs 0).length ≤ g.used) :
    Calls Tryz.prog 44 #[.pointer (some ⟨lp, 0, none⟩), .string (tx bs)] w fun e w' => e = .returned (.int .i64 0) ∧ w = w' := by
  have HT : Hid (Calls Tryz.prog 86 #[.string (tx bs), .string ⟨#[0]⟩] w fun e w' => e = .returned (.string (tx (Lib.trimRightB bs 0))) ∧ w' = w) := Lib.hid (by
    have h := Tryz.strings_TrimRight_one (tx bs) 0 (by decide) w (by rw [tx_size]; omega)
    rw [tx_list] at h
    exact h)
  obtain ⟨R, hR⟩ : ∃ R, tx (Lib.trimRightB bs 0) = R := ⟨_, rfl⟩
  have hRs : R.size = (Lib.trimRightB bs 0).length := by rw [← hR, tx_size]
  rw [hR] at HT
  obtain ⟨k, hk⟩ : ∃ k, (Lib.trimRightB bs 0).length = k := ⟨_, rfl⟩
  obtain ⟨u, hu2⟩ : ∃ u, g.used = u := ⟨_, rfl⟩
  rw [hk] at hRs hu
  have c4 := hr.cell 4
  simp only [LG.cells, List.getElem?_cons_zero, List.getElem?_cons_succ] at c4
  rw [hu2] at hu c4
  have hkI : (k : Int) ≤ (u : Int) := by omega
  clear hR hk hu2 hl hr
  go_enter Tryz.func44, Tryz.ntmps44
  go_wp2_with fail
  refine HT.out.mono ?_
  rintro e w1 ⟨rfl, rfl⟩
  go_wp2_with fail
  go_ret
  exact ⟨rfl, rfl⟩
end
end Go.Proofs.YtiaaeniopjpfpaaGreatDoor

namespace Go.Proofs.YtiaaeniopjpfpaaGreatDoor
open Go Go.Shelf Go.RowKit Go.Maps
set_option linter.unusedVariables false
set_option linter.unusedSimpArgs false
attribute [local go_sem] Oper.semAt_some

theorem picks_ok {g : LG} (h : g.ok) {D : DS} (hD : D.ok) (hdn : D.down = false) : (g.picks D 2).ok := by
  have := hD.least
  exact pick_ok (pick_ok h (readB_len hD hdn 0 (by omega))) (readB_len hD hdn 1 (by omega))
theorem str_infoO : (Tryz.prog.info? 9).map (fun i => (i.zero, i.size, i.bytes)) = some (some (.string ⟨#[]⟩), 1, 16) := by kernel_rfl
def LG.zero : LG := ⟨0, 0, 0, 0, 0⟩
/-- The place behind the last frame. -/
def usedL (u : Nat) (pre : List (Nat × List UInt8)) : Nat := match pre.getLast? with
  | none => u
  | some x => x.1
theorem usedL_snoc (u : Nat) (pre : List (Nat × List UInt8)) (x : Nat × List UInt8) : usedL u (pre ++ [x]) = x.1 := by
  unfold usedL
  simp
/-- The log as it is opened. -/
def LG.opened (D : DS) : LG := LG.zero.picks D 2
def LG.opentexts (D : DS) : List (Nat × List UInt8) := framesL ((LG.opened D).bytes D)
def LG.openG (D : DS) : LG := { LG.opened D with used := usedL (LG.opened D).used (LG.opentexts D), count := (LG.opentexts D).length }
theorem own_row_f {β : Type} (B : Nat) (t : TypeId) (f : β → List Value) : Own (fun (s : β) W => Row W B t (f s)) := fun s X Y row h hg hrow => by
  refine (hg.block B h.lt (fun e => ?_)).trans h
  obtain ⟨o, ho, hc⟩ := hrow B e.symm
  rw [show X.heap[B]? = _ from h] at ho
  cases ho
  cases hc
section
variable {L : Nat → Prop} {w : World} {p : Nat} {D : DS}
set_option maxRecDepth 100000 in
set_option maxHeartbeats 4000000 in
theorem Open_any (hG : G w) (hd : DiskIs L w p D) (hdn : D.down = false) (hw : (Lib.trimRightB ((LG.opened D).bytes D) 0).length ≤ (LG.openG D).used) :
    Calls Tryz.prog 11 #[.pointer (some ⟨p, 0, none⟩)] w fun e w' => (∃ lp v, e = .returned (.tuple #[.pointer (some ⟨lp, 0, none⟩), v, .int .i64 0]) ∧ w.heap.size ≤ lp ∧ Row w' lp 83 ((LG.openG D).cells p) ∧
      w'.ownsRow w.heap.size 9 1 v (LG.opentexts D).length ((LG.opentexts D).map fun x => Value.string (tx x.2))) ∧ Below w.heap.size w w' := by
  have hgood : D.ok := by obtain ⟨gl0, gm0, hv0, Dm0, hd0⟩ := id hd; exact hd0.good
  have hsec : secs D ≤ 2047 := by obtain ⟨gl0, gm0, hv0, Dm0, hd0⟩ := id hd; exact (secs_le hd0).1
  have hok : LG.zero.ok := ⟨by decide, by decide⟩
  have hok2 : (LG.opened D).ok := picks_ok hok hgood hdn
  obtain ⟨i0, hi, hz0, hz1, hz2⟩ := info_parts str_infoO
  refine (callsIn_wide (n := 6)).1 ?_
  refine callsIn_of_wp_marks Tryz.func11 rfl trivial ?_ rfl
  simp only [Tryz.ntmps11, List.size_toArray, List.length_cons, List.length_nil, Nat.reduceAdd, Nat.reduceSub, Array.replicate_succ, Array.replicate_zero, List.push_toArray, List.append_toArray, List.nil_append, List.cons_append]
  rw [wpIn_wide]
  have HH := Lib.hid (And.intro hG (And.intro hd (And.intro hdn (And.intro hw (And.intro hgood (And.intro hsec (And.intro hok hok2)))))))
  clear hG hd hdn hw hgood hsec hok hok2
  go_wp2_with fail
  obtain ⟨lp, hlp⟩ : ∃ lp, w.heap.size = lp := ⟨_, rfl⟩
  have H0 : Hid (Row ((w.alloc (.cells #[.pointer (some ⟨p, 0, none⟩), .int .u64 0, .int .i64 0, .int .i64 0, .int .i64 0, .int .i64 0] 83)).alloc (.cells #[.pointer (some ⟨w.heap.size, 0, none⟩)] 30)) lp 83 (LG.zero.cells p) ∧
      Boxed ((w.alloc (.cells #[.pointer (some ⟨p, 0, none⟩), .int .u64 0, .int .i64 0, .int .i64 0, .int .i64 0, .int .i64 0] 83)).alloc (.cells #[.pointer (some ⟨w.heap.size, 0, none⟩)] 30)) (lp + 1) 30 (.pointer (some ⟨lp, 0, none⟩)) ∧
      Below w.heap.size w ((w.alloc (.cells #[.pointer (some ⟨p, 0, none⟩), .int .u64 0, .int .i64 0, .int .i64 0, .int .i64 0, .int .i64 0] 83)).alloc (.cells #[.pointer (some ⟨w.heap.size, 0, none⟩)] 30))) := Lib.hid (by
    subst hlp
    refine ⟨(Row.new w 83 [.pointer (some ⟨p, 0, none⟩), .int .u64 0, .int .i64 0, .int .i64 0, .int .i64 0, .int .i64 0]).alloc _, ?_, ((Below.refl _ _).alloc (Nat.le_refl _) _).alloc (by simp) _⟩
    have h := Boxed.new (w.alloc (.cells #[.pointer (some ⟨p, 0, none⟩), .int .u64 0, .int .i64 0, .int .i64 0, .int .i64 0, .int .i64 0] 83)) 30 (.pointer (some ⟨w.heap.size, 0, none⟩))
    rw [World.size_alloc] at h
    exact h)
  generalize (w.alloc (.cells #[.pointer (some ⟨p, 0, none⟩), .int .u64 0, .int .i64 0, .int .i64 0, .int .i64 0, .int .i64 0] 83)).alloc (.cells #[.pointer (some ⟨w.heap.size, 0, none⟩)] 30) = wa at H0 ⊢
  rw [hlp] at H0 ⊢
  have HLP := Lib.hid hlp
  have hCH := choose_any (w := wa) (lp := lp) (p := p) (D := D) (g := LG.zero) (HH.out.1.below (by rw [hlp]; exact H0.out.2.2)) (by have := HH.out.1.lt; omega) H0.out.1 ((HH.out.2.1.more (L' := fun k => k = lp) (fun g hg => .inr (by omega))).below (by rw [hlp]; exact H0.out.2.2)) HH.out.2.2.1 HH.out.2.2.2.2.2.2.1
  have HCH := Lib.hid hCH
  clear hCH hlp
  refine HCH.out.mono ?_
  rintro e w2 ⟨rfl, hr2, hk2⟩
  have H2 : Hid (Row w2 lp 83 ((LG.opened D).cells p) ∧ Below lp w w2) := Lib.hid ⟨hr2, H0.out.2.2.trans (hk2.below (by have := H0.out.2.2.size; have := HLP.out; omega) (fun k hk => by omega))⟩
  have hX2 : Boxed w2 (lp + 1) 30 (.pointer (some ⟨lp, 0, none⟩)) := (hk2.block (lp + 1) H0.out.2.1.lt (by omega)).trans H0.out.2.1
  have hx2 := hX2.cell
  have HX2 := Lib.hid hX2
  clear hr2 hk2 hX2 HCH
  go_wp2_with fail
  obtain ⟨bs, hbs⟩ : ∃ bs, (LG.opened D).bytes D = bs := ⟨_, rfl⟩
  have hBY := bytes_any H2.out.1 (HH.out.2.1.below (by rw [HLP.out]; exact H2.out.2)) HH.out.2.2.1 HH.out.2.2.2.2.2.2.2.half
  rw [hbs] at hBY
  refine hBY.mono ?_
  rintro e w3 ⟨rfl, hb3⟩
  have H3 : Hid (Row w3 lp 83 ((LG.opened D).cells p) ∧ Boxed w3 (lp + 1) 30 (.pointer (some ⟨lp, 0, none⟩)) ∧ Below lp w w3) := Lib.hid ⟨H2.out.1.below hb3 H2.out.1.lt, (hb3.block _ HX2.out.lt).trans HX2.out, H2.out.2.trans (hb3.mono (by have := H2.out.2.size; have := HLP.out; omega))⟩
  have HBS := Lib.hid hbs
  clear hBY hb3 hx2 H2 HX2 H0 hbs
  go_wp2_with fail
  refine ((callsIn_wide (n := 0)).1 (Frames_in 0 (tx bs) _)).mono ?_
  rintro e w4 ⟨rfl, rfl⟩
  go_wp2_with fail
  obtain ⟨s3, hs3⟩ : ∃ s, w3.heap.size = s := ⟨_, rfl⟩
  have H5 : Hid ((Row ((w3.alloc (.cells #[.slice none 0 0] 31)).alloc (.cells #[.string (tx bs)] 9)) lp 83 ((LG.opened D).cells p) ∧ Boxed ((w3.alloc (.cells #[.slice none 0 0] 31)).alloc (.cells #[.string (tx bs)] 9)) (lp + 1) 30 (.pointer (some ⟨lp, 0, none⟩))) ∧ (Boxed ((w3.alloc (.cells #[.slice none 0 0] 31)).alloc (.cells #[.string (tx bs)] 9)) s3 31 (.slice none 0 0) ∧ Boxed ((w3.alloc (.cells #[.slice none 0 0] 31)).alloc (.cells #[.string (tx bs)] 9)) (s3 + 1) 9 (.string (tx bs))) ∧ Below lp w ((w3.alloc (.cells #[.slice none 0 0] 31)).alloc (.cells #[.string (tx bs)] 9)) ∧ lp + 1 < s3 ∧ ((w3.alloc (.cells #[.slice none 0 0] 31)).alloc (.cells #[.string (tx bs)] 9)).heap.size = s3 + 2) := Lib.hid (by
    subst hs3
    have hz := H3.out.2.2.size
    have hl := H3.out.2.1.lt
    have hB := Boxed.new (w3.alloc (.cells #[.slice none 0 0] 31)) 9 (.string (tx bs))
    rw [World.size_alloc] at hB
    exact ⟨⟨(H3.out.1.alloc _).alloc _, (H3.out.2.1.alloc _).alloc _⟩, ⟨(Boxed.new w3 _ _).alloc _, hB⟩, (H3.out.2.2.alloc (by omega) _).alloc (by rw [World.size_alloc]; omega) _, hl, by rw [World.size_alloc, World.size_alloc]⟩)
  rw [hs3]
  generalize ((w3.alloc (.cells #[.slice none 0 0] 31)).alloc (.cells #[.string (tx bs)] 9)) = w5 at H5 ⊢
  clear H3 hs3
  have hG5 : G w5 := HH.out.1.below (by rw [HLP.out]; exact H5.out.2.2.1)
  have hsl : s3 + 2 ≤ w5.heap.size := Nat.le_of_eq H5.out.2.2.2.2.symm
  have hsl2 : w5.heap.size ≤ s3 + 2 := Nat.le_of_eq H5.out.2.2.2.2
  have hlt5 := H5.out.2.2.2.1
  have hgl : 0 < lp := by have := HH.out.1.lt; have := HLP.out; omega
  have hbl : bs.length ≤ 1000000 := by
    obtain ⟨gl0, gm0, hv0, Dm0, hd0⟩ := id HH.out.2.1
    have hl := half_in HH.out.2.2.2.2.1 (LG.opened D).half (secs D - 1) HH.out.2.2.2.2.2.2.2.half (by have := (secs_le hd0).2; omega)
    have hb := bytesN_length D HH.out.2.2.2.2.1 HH.out.2.2.1 (2 + (LG.opened D).half * secs D) (secs D) (by have := (secs_le hd0).2; omega)
    have hs := HH.out.2.2.2.2.2.1
    rw [← HBS.out]
    unfold LG.bytes
    omega
  have hfl : (framesL bs).length ≤ bs.length := framesF_length _ _ _ _
  rw [← wpIn_wide (n := 6)]
  refine' wpIn_rangeFunc_ownG rfl (by omega) (gf := 64) (lb := #[.pointer (some ⟨s3 + 1, 0, none⟩)]) rfl trivial (enters_of Tryz.func64 (by kernel_rfl) rfl)
    (Frames_stops 5 (by omega) (s3 + 1) bs (by omega) w5 hG5 H5.out.2.1.2) keepsF_t (keepsF_b (by omega) (by omega)) (Below.refl _ _) (fun _ => rfl)
    (fun (pre : List (Nat × List UInt8)) W => (∃ v, Boxed W s3 31 v ∧ W.ownsRow (s3 + 2) 9 1 v pre.length (pre.map fun x => Value.string (tx x.2)) ∧ True) ∧ Row W lp 83 (({ LG.opened D with used := usedL (LG.opened D).used pre } : LG).cells p) ∧ Keeps (fun k => k < s3 + 2 ∧ k ≠ s3 ∧ k ≠ lp) w5 W)
    (fun _ _ _ => False)
    (OwnFrom.and (Own.from (holdsRow_own (s3 + 2) s3 31 9 1 (fun (pre : List (Nat × List UInt8)) => pre.length) (fun pre => pre.map fun x => Value.string (tx x.2)) (fun _ _ => True)) _) (OwnFrom.and (Own.from (own_row_f lp 83 (fun (pre : List (Nat × List UInt8)) => ({ LG.opened D with used := usedL (LG.opened D).used pre } : LG).cells p)) _) (ownFrom_keeps (Nat.le_refl _))))
    (fun _ _ _ _ _ hs _ _ => hs)
    ⟨⟨_, H5.out.2.1.1, World.ownsRow_nil _ _ _ _, trivial⟩, H5.out.1.1, Keeps.refl _ _⟩
    _ _ _ _ _
  case refine'_2 =>
    intro l x W K hK
    gi_wp2
    exact hK
  case refine'_5 =>
    rintro D c pre W _ _ h _
    exact h.elim
  case refine'_3 =>
    rintro l' pre x W ⟨⟨v, hv, hrow, _⟩, hr, hk⟩ hlt
    have hc := hv.cell
    have hsz := hk.size
    have hX : Boxed W (lp + 1) 30 (.pointer (some ⟨lp, 0, none⟩)) := (hk.block (lp + 1) (by omega) ⟨by omega, by omega, by omega⟩).trans H5.out.1.2
    have HL := Lib.hid (And.intro hr (And.intro hk hX))
    clear hr hk hX
    gi_wp2_with (gi_at_builtin; refine wpListIn_append_own _ rfl _ _ 31 rfl (s3 + 2) 9 i0 (.string ⟨#[]⟩) 1 16 Tryz.underlying31 hi hz0 hz1 hz2 rfl (by decide) _ _ _ rfl (hrow.alloc _) ⟨W.heap.size, 0, none⟩ 1 1 [.string (tx x.2)] rfl rfl (cell_one_new _ _ _) (by simp [Value.oneCell']) (by unfold maxLen; omega) (by omega) (by simp; omega) ?_; intro v' w1 hown' hgrow _; obtain ⟨g', cap', rfl⟩ := ownsRow_succ hown'; obtain ⟨hv1, hv2, hr2, hk2, hb2⟩ := box_append (L := fun k => k < s3 + 2 ∧ k ≠ s3) hv (by decide) hrow hown' hgrow (by omega) (fun k h => h.1); have hc1 := hv1.cell; have hf1 := hv1.frozen; have hXc := (show Boxed _ (lp + 1) 30 (.pointer (some ⟨lp, 0, none⟩)) from (hb2.block (lp + 1) (by omega) ⟨by omega, by omega⟩).trans HL.out.2.2).cell; have hR6 : Row _ lp 83 _ := (hb2.block lp (by omega) ⟨by omega, by omega⟩).trans HL.out.1; have hf6 := hR6.frozen 4; have HR6 := Lib.hid hR6; clear hR6; have hR1 : Row w1 lp 83 _ := (hgrow.block lp (HL.out.1.alloc _).lt (fun e => by have := (hrow.lt lp e.symm).1; omega)).trans (HL.out.1.alloc _); have hc6 := hR1.cell 4; simp only [LG.cells, List.getElem?_cons_zero, List.getElem?_cons_succ] at hc6; clear hR1)
    have hk2 := Lib.hid hk2
    have hXY := Lib.hid hown'
    generalize hv'e : Value.slice (some ⟨g', 0, none⟩) (pre.length + 1) cap' = v' at *
    have hfar : ∀ k, k ≠ lp → ((w1.setCell ⟨s3, 0, none⟩ v').setCell ⟨lp, 4, none⟩ (.int .i64 (x.1 : Nat))).heap[k]? = (w1.setCell ⟨s3, 0, none⟩ v').heap[k]? := fun k h => Below.heap_setCell _ ⟨lp, 4, none⟩ _ k h
    have hgr : (w1.setCell ⟨s3, 0, none⟩ v').grownBy ((w1.setCell ⟨s3, 0, none⟩ v').setCell ⟨lp, 4, none⟩ (.int .i64 (x.1 : Nat))) (some lp) := ⟨rfl, rfl, rfl, by simp [World.setCell], fun k _ hk => hfar k (fun e => hk (by rw [e]))⟩
    have hg2 : 0 < W.heap.size := by omega
    refine ⟨(hk2.out.trans (KeepsOthers.setCell _ _ _)).from _, ⟨(hfar (s3 + 1) (by omega)).trans (hb2.block (s3 + 1) (by omega) ⟨by omega, by omega⟩), (hfar 0 (by omega)).trans (hb2.block 0 hg2 ⟨by omega, by omega⟩)⟩, ⟨v', (hfar s3 (by omega)).trans hv2, ?_⟩, ?_, (HL.out.2.1.trans (hb2.mono (fun k h => ⟨h.1, h.2.1⟩))).setCell (p := ⟨lp, 4, none⟩) (.inl (fun h => h.2.2 rfl)) _⟩
    · have h := hr2.kept hgr (.inr (fun e => by have := (hr2.lt lp e).1; omega))
      rw [List.length_append, List.map_append]
      exact h
    · have h := HR6.out.set 4 (.int .i64 (x.1 : Nat))
      rw [usedL_snoc]
      exact h
  case refine'_4 =>
    rintro D' ys W hD rfl ⟨⟨v, hv, hrow, _⟩, hr, hk⟩ hK
    have hsz := hk.size
    have hX : Boxed W (lp + 1) 30 (.pointer (some ⟨lp, 0, none⟩)) := (hk.block (lp + 1) (by omega) ⟨by omega, by omega, by omega⟩).trans H5.out.1.2
    obtain ⟨m, hm⟩ : ∃ m, (framesL bs).length = m := ⟨_, rfl⟩
    have hopen : LG.openG D = { LG.opened D with used := usedL (LG.opened D).used (framesL bs), count := m } := by unfold LG.openG LG.opentexts; rw [HBS.out, hm]
    rw [hm] at hrow
    obtain ⟨ao, cap, rfl⟩ : ∃ ao cap, v = .slice ao m cap := by
      rcases hrow.2 with ⟨rfl, h0⟩ | ⟨g, cap, cur, rfl, _⟩
      · exact ⟨none, 0, by rw [h0]⟩
      · exact ⟨_, cap, rfl⟩
    have hfar : ∀ k, k ≠ lp → (W.setCell ⟨lp, 3, none⟩ (.int .i64 (m : Nat))).heap[k]? = W.heap[k]? := fun k h => Below.heap_setCell _ ⟨lp, 3, none⟩ _ k h
    have hgr : W.grownBy (W.setCell ⟨lp, 3, none⟩ (.int .i64 (m : Nat))) (some lp) := ⟨rfl, rfl, rfl, by simp [World.setCell], fun k _ hk => hfar k (fun e => hk (by rw [e]))⟩
    have HF : Hid (Row (W.setCell ⟨lp, 3, none⟩ (.int .i64 (m : Nat))) lp 83 ((LG.openG D).cells p) ∧ Boxed (W.setCell ⟨lp, 3, none⟩ (.int .i64 (m : Nat))) (lp + 1) 30 (.pointer (some ⟨lp, 0, none⟩)) ∧ Boxed (W.setCell ⟨lp, 3, none⟩ (.int .i64 (m : Nat))) s3 31 (.slice ao m cap) ∧
        (W.setCell ⟨lp, 3, none⟩ (.int .i64 (m : Nat))).ownsRow (s3 + 2) 9 1 (.slice ao m cap) m ((framesL bs).map fun x => Value.string (tx x.2)) ∧ Below lp w (W.setCell ⟨lp, 3, none⟩ (.int .i64 (m : Nat))) ∧ (W.setCell ⟨lp, 3, none⟩ (.int .i64 (m : Nat))).heap[D']? = some (.deferred (some []))) := Lib.hid (by
      refine ⟨?_, (hfar _ (by omega)).trans hX, (hfar _ (by omega)).trans hv, hrow.kept hgr (.inr (fun e => by have := (hrow.lt lp e).1; omega)), ?_, (hfar D' (by omega)).trans hK⟩
      · have h := hr.set 3 (.int .i64 (m : Nat))
        rw [hopen]
        exact h
      · exact (H5.out.2.2.1.trans (hk.below (by omega) (fun k h => ⟨by omega, by omega, by omega⟩))).setCell (p := ⟨lp, 3, none⟩) (Nat.le_refl _) _)
    have hc := hv.cell
    have hxc := hX.cell
    have hc3 := hr.cell 3
    have hf3 := hr.frozen 3
    simp only [LG.cells, List.getElem?_cons_zero, List.getElem?_cons_succ] at hc3
    have HU : Hid ((Lib.trimRightB bs 0).length ≤ (LG.openG D).used) := Lib.hid (by rw [← HBS.out]; exact HH.out.2.2.2.1)
    have HBL := Lib.hid (And.intro hbl (And.intro hm (And.intro hD hlt5)))
    clear hv hX hr hk hK hrow hm hopen hfar hgr hbl hfl hD hsl hsl2 hsz hgl hG5 hlt5
    go_wp2_with fail
    refine (wipe_any HF.out.1 bs (by have := HBL.out.1; omega) HU.out).mono ?_
    rintro e w7 ⟨rfl, rfl⟩
    have hc6 := HF.out.2.2.1.cell
    have hxc6 := HF.out.2.1.cell
    clear hc hxc hc3 hf3
    generalize W.setCell ⟨lp, 3, none⟩ (.int .i64 (m : Nat)) = w8 at HF hc6 hxc6 ⊢
    go_wp2_with fail
    have H18 : Hid (∀ W, SB w8 W → W.cell? ⟨lp + 1, 0, none⟩ = some (.pointer (some ⟨lp, 0, none⟩)) ∧ W.cell? ⟨s3, 0, none⟩ = some (.slice ao m cap)) := Lib.hid fun W h =>
      ⟨Boxed.cell (t := 30) ((h.block _ HF.out.2.1.lt).trans HF.out.2.1), Boxed.cell (t := 31) ((h.block _ HF.out.2.2.1.lt).trans HF.out.2.2.1)⟩
    clear hc6 hxc6
    refine region_quiet_lit (fun W => SB w8 W) (by kernel_rfl) (by kernel_rfl) ⟨rfl, rfl, rfl, Nat.le_refl _, fun _ _ => rfl⟩ ?_
    refine wpQ_yields (.pointer (some ⟨lp, 0, none⟩)) (Or.inl ⟨by rfl, fun W' hS => ?yo1⟩) ?_
    case yo1 =>
      have q0 := (H18.out W' hS).1
      go_simp
    try simp only [Act.put, List.setIfInBounds_toArray, List.set_cons_zero, List.set_cons_succ]
    refine wpQ_yields (.slice ao m cap) (Or.inl ⟨by rfl, fun W' hS => ?yo2⟩) ?_
    case yo2 =>
      have q0 := (H18.out W' hS).2
      go_simp
    try simp only [Act.put, List.setIfInBounds_toArray, List.set_cons_zero, List.set_cons_succ]
    refine wpQ_yields (.pointer (some ⟨lp, 0, none⟩)) (Or.inl ⟨by rfl, fun W' hS => ?yo3⟩) ?_
    case yo3 =>
      go_simp
    try simp only [Act.put, List.setIfInBounds_toArray, List.set_cons_zero, List.set_cons_succ]
    refine wpQ_yields (.slice ao m cap) (Or.inl ⟨by rfl, fun W' hS => ?yo4⟩) ?_
    case yo4 =>
      go_simp
    try simp only [Act.put, List.setIfInBounds_toArray, List.set_cons_zero, List.set_cons_succ]
    refine wpQ_yields (.int .i64 0) (Or.inl ⟨by rfl, fun W' hS => ?yo5⟩) ?_
    case yo5 =>
      go_simp
    try simp only [Act.put, List.setIfInBounds_toArray, List.set_cons_zero, List.set_cons_succ]
    refine wpQuiet_nil ?_
    intro wf hwf
    have HWF := Lib.hid hwf
    have hK9 : wf.heap[D']? = some (.deferred (some [])) := (hwf.block D' (Array.getElem?_eq_some_iff.1 HF.out.2.2.2.2.2).1).trans HF.out.2.2.2.2.2
    clear hwf
    go_wp2_with fail
    have hDD : s3 + 2 ≤ D' := by have := HBL.out.2.2.1; have := H5.out.2.2.2.2; omega
    have hlt5 := HBL.out.2.2.2
    have hoth : ∀ k, k ≠ D' → (wf.putObj D' (.deferred none)).heap[k]? = wf.heap[k]? := fun k h => World.putObj_heap_other h
    have hB9 : Below w.heap.size w (wf.putObj D' (.deferred none)) := by
      have h8 : Below w.heap.size w w8 := by rw [HLP.out]; exact HF.out.2.2.2.2.1
      exact (h8.trans (HWF.out.mono h8.size)).trans (belowK_b (w := w) (Nat.le_refl _) _ D' _ _ (by have := HLP.out; omega) hK9 rfl rfl)
    refine ⟨by simp, .inl ⟨_, _, rfl, run_takeDeferred hK9, ?_⟩⟩
    refine ⟨_, results_tmp3 rfl _ _ _, ⟨⟨lp, _, rfl, Nat.le_of_eq HLP.out, ?_, ?_⟩, hB9⟩⟩
    · exact (hoth lp (by omega)).trans ((HWF.out.block lp HF.out.1.lt).trans HF.out.1)
    · have hown := HF.out.2.2.2.1
      have hD9 : (LG.opentexts D) = framesL bs := by unfold LG.opentexts; rw [HBS.out]
      rw [hD9, HBL.out.2.1]
      refine ⟨hown.1, ?_⟩
      rcases hown.2 with h | ⟨g, cap', cur, h1, h2, h3, h4⟩
      · exact .inl h
      · refine .inr ⟨g, cap', cur, h1, by have := HLP.out; omega, (hoth g (fun e => ?_)).trans ((HWF.out.block g (Array.getElem?_eq_some_iff.1 h3).1).trans h3), h4⟩
        subst e
        rw [HF.out.2.2.2.2.2] at h3
        cases h3
end
end Go.Proofs.YtiaaeniopjpfpaaGreatDoor

namespace Go.Proofs.YtiaaeniopjpfpaaGreatDoor
open Go Go.RowKit Go.Maps
set_option linter.unusedVariables false
set_option linter.unusedSimpArgs false

section
variable {L : Nat → Prop} {w : World} {p : Nat} {D : DS}
set_option maxRecDepth 20000 in
set_option maxHeartbeats 4000000 in
theorem stOpen_new (hG : G w) (hd : DiskIs L w p D) (hdn : D.down = false) (hw : (Lib.trimRightB ((LG.opened D).bytes D) 0).length ≤ (LG.openG D).used) (ht : LG.opentexts D = []) :
    Calls Tryz.prog 30 #[.pointer (some ⟨p, 0, none⟩)] w fun e w' => ∃ sp lp mp, e = .returned (.tuple #[.pointer (some ⟨sp, 0, none⟩), .int .i64 0]) ∧ (w.heap.size ≤ lp ∧ w.heap.size ≤ sp ∧ w.heap.size ≤ mp ∧ sp ≠ lp ∧ mp ≠ lp ∧ mp ≠ sp) ∧
      StRow w' sp lp mp ∧ Row w' lp 83 ((LG.openG D).cells p) ∧ SMap w' mp 0 (.map []) ∧ Below w.heap.size w w' := by
  have HO := Lib.hid (Open_any hG hd hdn hw)
  rw [ht] at HO
  clear hG hd hdn hw ht
  have hmm := @run_makeMap Tryz.prog
  go_enter Tryz.func30, Tryz.ntmps30
  go_wp2_with fail
  refine HO.out.mono ?_
  rintro e w5 ⟨⟨lp, v, rfl, hlp, hr5, hown⟩, hb5⟩
  obtain ⟨ao, cap, rfl⟩ : ∃ ao cap, v = .slice ao 0 cap := by
    rcases hown.2 with ⟨rfl, h0⟩ | ⟨g, cap, cur, rfl, _⟩
    · exact ⟨none, 0, rfl⟩
    · exact ⟨_, cap, rfl⟩
  have H5 := Lib.hid (And.intro hlp (And.intro hr5 hb5))
  clear hlp hr5 hb5 hown
  go_wp2_with fail
  obtain ⟨s5, hs5⟩ : ∃ s, w5.heap.size = s := ⟨_, rfl⟩
  have HF : Hid (StRow ((w5.alloc (.map #[] 0)).alloc (.cells #[.pointer (some ⟨lp, 0, none⟩), .map (some s5)] 111)) (s5 + 1) lp s5 ∧ Row ((w5.alloc (.map #[] 0)).alloc (.cells #[.pointer (some ⟨lp, 0, none⟩), .map (some s5)] 111)) lp 83 ((LG.openG D).cells p) ∧
      SMap ((w5.alloc (.map #[] 0)).alloc (.cells #[.pointer (some ⟨lp, 0, none⟩), .map (some s5)] 111)) s5 0 (.map []) ∧ Below w.heap.size w ((w5.alloc (.map #[] 0)).alloc (.cells #[.pointer (some ⟨lp, 0, none⟩), .map (some s5)] 111)) ∧ w.heap.size ≤ lp ∧ lp < s5 ∧ w.heap.size ≤ s5) := Lib.hid (by
    have hz := H5.out.2.2.size
    have hl := H5.out.2.1.lt
    rw [hs5] at hz hl
    have r := Row.new (w5.alloc (.map #[] 0)) 111 [.pointer (some ⟨lp, 0, none⟩), .map (some s5)]
    rw [World.size_alloc, hs5] at r
    have m0 := World.ownsMap_made w5 Tryz.prog 9 chElem
    rw [hs5] at m0
    exact ⟨r, (H5.out.2.1.alloc _).alloc _, m0.alloc _, (H5.out.2.2.alloc (by omega) _).alloc (by rw [World.size_alloc]; omega) _, H5.out.1, hl, hz⟩)
  rw [hs5]
  generalize ((w5.alloc (.map #[] 0)).alloc (.cells #[.pointer (some ⟨lp, 0, none⟩), .map (some s5)] 111)) = w6 at HF ⊢
  clear H5 hs5
  go_loopw [28] (fun i wr => i = .int .i64 0 ∧ wr = w6) (fun _ _ => 0)
  case atStart => exact ⟨rfl, rfl⟩
  case round =>
    obtain ⟨rfl, rfl⟩ := hrel
    go_wp2_with fail
    go_ret2
    exact ⟨s5 + 1, lp, s5, rfl, ⟨HF.out.2.2.2.2.1, by have := HF.out.2.2.2.2.2.2; omega, HF.out.2.2.2.2.2.2, by have := HF.out.2.2.2.2.2.1; omega, by have := HF.out.2.2.2.2.2.1; omega, by omega⟩, HF.out.1, HF.out.2.1, HF.out.2.2.1, HF.out.2.2.2.1⟩
end
end Go.Proofs.YtiaaeniopjpfpaaGreatDoor

namespace Go.Proofs.YtiaaeniopjpfpaaGreatDoor
open Go Go.RowKit Go.Maps
set_option linter.unusedVariables false
set_option linter.unusedSimpArgs false

theorem headL_take4 (n : Nat) (t : List UInt8) : (headL n t).take 4 = putL n 4 := by
  unfold headL sealL seal1
  rw [List.append_assoc, List.append_assoc, List.append_assoc, List.take_append_of_le_length (by rw [putL_length]; exact Nat.le_refl _), List.take_of_length_le (by rw [putL_length]; exact Nat.le_refl _)]
theorem framed_zeros (n k : Nat) (hn : putL n 4 ≠ [0, 0, 0, 0]) : framedL n (List.replicate k 0) = none := by
  unfold framedL
  by_cases hk : k < 28
  · rw [if_pos (by simpa using hk)]
  · rw [if_neg (by simpa using hk)]
    split
    · rfl
    · rw [if_neg]
      intro h
      have h4 := congrArg (List.take 4) h
      rw [headL_take4, List.take_take, List.take_replicate, show min (min 4 28) k = 4 by omega] at h4
      exact hn h4.symm
theorem trim_zeros (l : List UInt8) (n : Nat) : (Lib.trimRightB (l ++ List.replicate n 0) 0).length ≤ l.length := by
  unfold Lib.trimRightB
  rw [List.reverse_append, List.reverse_replicate, List.length_reverse]
  induction n with
  | zero =>
    have h := (List.dropWhile_sublist (fun x : UInt8 => x == 0) (l := l.reverse)).length_le
    simpa using h
  | succ n ih =>
    rw [List.replicate_succ, List.cons_append, List.dropWhile_cons_of_pos (by rfl)]
    exact ih
theorem markB_head (m h : Nat) : (markB m h).head? = some 67 := by
  unfold markB markL sealL seal1
  simp
theorem marked_zeros : markedL z128 = none := by
  have h : ∀ m k, z128 ≠ markB m k := fun m k e => by
    have h2 := congrArg List.head? e
    rw [markB_head] at h2
    cases h2
  unfold markedL
  rw [if_neg (h _ _), if_neg (h _ _)]
def hiL : List UInt8 := [104, 105]
def awkP : List UInt8 := pad128 (frameL 1 hiL)
theorem awkP_eq : awkP = frameL 1 hiL ++ List.replicate 98 0 := by
  have h : (frameL 1 hiL).length = 30 := by rw [frameL_length]; rfl
  unfold awkP pad128
  rw [h, List.take_of_length_le (by omega)]
def awkD2 : DS := ⟨[z128, z128, awkP] ++ List.replicate 17 z128, [], -1, 2, false⟩
theorem awk_synced (P : List UInt8) : (((newDS 20).written 2 P).synced, ((newDS 20).written 2 P).stepErr) = ((⟨[z128, z128, P] ++ List.replicate 17 z128, [], -1, 2, false⟩ : DS), (0 : Int)) := by
  kernel_rfl
theorem new_read2 : (newDS 20).read 2 = z128 := by kernel_rfl
theorem awk_add : LG.zero.add (newDS 20) hiL = (({ LG.zero with count := 1, used := 30 }, awkD2), 0) := by
  have hl : (frameL 1 hiL).length = 30 := by rw [frameL_length]; rfl
  have hp : LG.zero.putR (newDS 20) (frameL 1 hiL) = (awkD2, 0) := by
    unfold LG.putR
    rw [if_neg (by decide)]
    show putG 200 (newDS 20) 2 (((newDS 20).read 2).take 0 ++ frameL 1 hiL) = _
    rw [List.take_zero, List.nil_append, putG, if_neg (fun h => by rw [h] at hl; cases hl), if_neg (by decide), List.drop_eq_nil_of_le (by omega), putG_nil]
    exact awk_synced awkP
  unfold LG.add
  rw [if_neg (by decide), if_neg (by decide), if_neg (by decide)]
  rw [show LG.zero.count + 1 = 1 from rfl, hp]
  rfl
theorem opened_zeros {D : DS} (h0 : D.read 0 = z128) (h1 : D.read 1 = z128) : LG.opened D = LG.zero := by
  show (LG.zero.pick (D.read ((0 : Nat) : Int))).pick (D.read ((1 : Nat) : Int)) = _
  rw [show D.read ((0 : Nat) : Int) = z128 from h0, show D.read ((1 : Nat) : Int) = z128 from h1]
  unfold LG.pick
  rw [marked_zeros]
theorem opened_new : LG.opened (newDS 20) = LG.zero := opened_zeros (by kernel_rfl) (by kernel_rfl)
theorem bytes_new : LG.zero.bytes (newDS 20) = List.replicate 1152 0 := by kernel_rfl
theorem frames_zeros (k : Nat) : framesL (List.replicate k 0) = [] := framesF_none (framed_zeros 1 k (by decide))
theorem texts_new : LG.opentexts (newDS 20) = [] := by unfold LG.opentexts; rw [opened_new, bytes_new, frames_zeros]
theorem openG_new : LG.openG (newDS 20) = LG.zero := by unfold LG.openG; rw [texts_new, opened_new]; rfl
theorem trim_new : (Lib.trimRightB ((LG.opened (newDS 20)).bytes (newDS 20)) 0).length ≤ (LG.openG (newDS 20)).used := by
  rw [openG_new, opened_new, bytes_new]
  exact trim_zeros [] 1152
theorem read_awk (P : List UInt8) : bytesN (⟨[z128, z128, P] ++ List.replicate 17 z128, [], -1, 2, false⟩ : DS) 2 9 = P ++ List.replicate 1024 0 := by
  have h : ∀ j : Nat, j < 8 → (⟨[z128, z128, P] ++ List.replicate 17 z128, [], -1, 2, false⟩ : DS).read ((2 + (j + 1) : Nat) : Int) = List.replicate 128 0 := fun j hj => by
    match j, hj with
    | 0, _ => rfl
    | 1, _ => rfl
    | 2, _ => rfl
    | 3, _ => rfl
    | 4, _ => rfl
    | 5, _ => rfl
    | 6, _ => rfl
    | 7, _ => rfl
  have h0 : (⟨[z128, z128, P] ++ List.replicate 17 z128, [], -1, 2, false⟩ : DS).read ((2 + 0 : Nat) : Int) = P := rfl
  unfold bytesN bytesN bytesN bytesN bytesN bytesN bytesN bytesN bytesN bytesN
  rw [h0, h 0 (by omega), h 1 (by omega), h 2 (by omega), h 3 (by omega), h 4 (by omega), h 5 (by omega), h 6 (by omega), h 7 (by omega)]
  simp only [List.nil_append, List.append_assoc, List.replicate_append_replicate]
theorem opened_awk : LG.opened awkD2 = LG.zero := opened_zeros rfl rfl
theorem bytes_awk : LG.zero.bytes awkD2 = frameL 1 hiL ++ List.replicate 1122 0 := by
  have h : LG.zero.bytes awkD2 = bytesN awkD2 2 9 := rfl
  rw [h]
  unfold awkD2
  rw [read_awk, awkP_eq, List.append_assoc, List.replicate_append_replicate]
theorem framed_frame (n : Nat) (t z : List UInt8) (ht : t.length < 4294967296) : framedL n (frameL n t ++ z) = some t := by
  have hl : (headL n t).length = 28 := headL_length n t
  have hd : (frameL n t ++ z).drop 28 = t ++ z := by
    unfold frameL
    rw [List.append_assoc, List.drop_append_of_le_length (by omega), List.drop_of_length_le (by omega), List.nil_append]
  have hk : (frameL n t ++ z).take 28 = headL n t := by
    unfold frameL
    rw [List.append_assoc, List.take_append_of_le_length (by omega), List.take_of_length_le (by omega)]
  have hs : getL (((frameL n t ++ z).drop 4).take 4) = t.length := by
    have e : ((frameL n t ++ z).drop 4).take 4 = putL t.length 4 := by
      unfold frameL headL sealL seal1
      simp only [List.append_assoc]
      rw [List.drop_append_of_le_length (by rw [putL_length]; exact Nat.le_refl _), List.drop_of_length_le (by rw [putL_length]; exact Nat.le_refl _), List.nil_append, List.take_append_of_le_length (by rw [putL_length]; exact Nat.le_refl _), List.take_of_length_le (by rw [putL_length]; exact Nat.le_refl _)]
    rw [e, getL_putL]
    exact Nat.mod_eq_of_lt (by simpa using ht)
  have hlen : ¬ (frameL n t ++ z).length < 28 := by rw [List.length_append, frameL_length]; omega
  unfold framedL
  rw [if_neg hlen, hs, hd, hk, if_neg (by rw [List.length_append]; omega), List.take_append_of_le_length (Nat.le_refl _), List.take_of_length_le (Nat.le_refl _), if_pos rfl]
theorem texts_awk : LG.opentexts awkD2 = [(30, hiL)] := by
  unfold LG.opentexts
  rw [opened_awk, bytes_awk]
  have hl : (frameL 1 hiL).length = 30 := by rw [frameL_length]; rfl
  unfold framesL
  rw [List.length_append, hl, List.length_replicate]
  rw [show 30 + 1122 = 1151 + 1 from rfl, framesF_some (framed_frame 1 hiL _ (by decide))]
  rw [show hiL.length + 28 = 30 from rfl, List.drop_append_of_le_length (by omega), List.drop_of_length_le (by omega), List.nil_append, framesF_none (framed_zeros 2 1122 (by decide))]
theorem openG_awk : LG.openG awkD2 = { LG.zero with count := 1, used := 30 } := by unfold LG.openG; rw [texts_awk, opened_awk]; rfl
theorem trim_awk : (Lib.trimRightB ((LG.opened awkD2).bytes awkD2) 0).length ≤ (LG.openG awkD2).used := by
  have hl : (frameL 1 hiL).length = 30 := by rw [frameL_length]; rfl
  rw [openG_awk, opened_awk, bytes_awk]
  have h := trim_zeros (frameL 1 hiL) 1122
  rw [hl] at h
  exact h
end Go.Proofs.YtiaaeniopjpfpaaGreatDoor

namespace Go.Proofs.YtiaaeniopjpfpaaGreatDoor
open Go.RowKit
set_option linter.unusedVariables false

def exA : ByteArray := ⟨#[49, 50, 51, 52]⟩
def exB : ByteArray := ⟨#[53, 54, 55, 56, 57]⟩
theorem ex_sum : ((crcL (cat [exA, exB]) : Nat) : Int) = 3421780262 := by
  have h : crcL (cat [exA, exB]) = 3421780262 := crc_example
  rw [h]; rfl
theorem ex_put : ByteArray.mk (putL 258 (szOf 2)).toArray = ⟨#[1, 2]⟩ := by decide +kernel

set_option maxRecDepth 3000 in
set_option maxHeartbeats 400000 in
theorem awake_any (w : World) :
    Calls Tryz.prog 78 #[] w fun e w' => e = .returned (.bool true) ∧ Below w.heap.size w w' := by
  have hcells : ∀ i, i < 2 → (w.alloc (.cells #[.string ⟨#[49, 50, 51, 52]⟩, .string ⟨#[53, 54, 55, 56, 57]⟩] 9)).cell? ⟨w.heap.size, i, none⟩ = some (.string ([exA, exB].getD i ByteArray.empty)) := by
    intro i hi
    have h := (Row.new w 9 [.string ⟨#[49, 50, 51, 52]⟩, .string ⟨#[53, 54, 55, 56, 57]⟩]).cell i
    rw [h]
    rcases (by omega : i = 0 ∨ i = 1) with rfl | rfl <;> rfl
  have HC := Lib.hid hcells
  clear hcells
  have hb0 : Below w.heap.size w (w.alloc (.cells #[.string ⟨#[49, 50, 51, 52]⟩, .string ⟨#[53, 54, 55, 56, 57]⟩] 9)) := (Below.refl _ _).alloc (Nat.le_refl _) _
  go_enter Tryz.func78, Tryz.ntmps78
  go_wp2_with fail
  refine (CRC_any [exA, exB] w.heap.size 2 2 _ rfl (by omega) (by simp) (fun i hi => by rcases (by omega : i = 0 ∨ i = 1) with rfl | rfl <;> (show (_ : Nat) ≤ _; decide)) HC.out).mono ?_
  rintro e w1 ⟨rfl, hb1⟩
  have hbb := hb0.trans (hb1.mono (by simp))
  rw [ex_sum]
  clear hb0 hb1 HC
  go_wp2_with fail
  refine (Put_any 258 2 _ (by omega)).mono ?_
  rintro e w2 ⟨rfl, hb2⟩
  have hb3 := hbb.trans (hb2.mono hbb.size)
  rw [ex_put]
  clear hbb hb2
  go_wp2
  go_ret
  exact ⟨rfl, hb3⟩
end Go.Proofs.YtiaaeniopjpfpaaGreatDoor

namespace Go.Proofs.YtiaaeniopjpfpaaGreatDoor
open Go.RowKit
set_option linter.unusedVariables false

theorem Awake1_any (w : World) :
    Calls Tryz.prog 39 #[] w fun e w' => e = .returned (.bool true) ∧ Below w.heap.size w w' := by
  go_enter Tryz.func39, Tryz.ntmps39
  go_wp2_with (go_at_call 78; refine (awake_any _).mono ?_; rintro e wa ⟨rfl, hb⟩)
  go_ret
  exact ⟨rfl, hb⟩

theorem abc_prefix : Lib.hasPrefix (shaL [97, 98, 99]) [186, 120, 22, 191] = true := by
  have h := abc_example
  obtain ⟨a, b, c, d, t, e⟩ : ∃ a b c d t, shaL [97, 98, 99] = a :: b :: c :: d :: t := by
    have h2 := shaL_length [97, 98, 99]
    match hq : shaL [97, 98, 99] with
    | [] => rw [hq] at h2; cases h2
    | [_] => rw [hq] at h2; cases h2
    | [_, _] => rw [hq] at h2; cases h2
    | [_, _, _] => rw [hq] at h2; cases h2
    | a :: b :: c :: d :: t => exact ⟨a, b, c, d, t, rfl⟩
  rw [e] at h ⊢
  simp only [List.take_succ_cons, List.take_zero, List.cons.injEq, and_true] at h
  obtain ⟨rfl, rfl, rfl, rfl⟩ := h
  simp [Lib.hasPrefix]

set_option maxRecDepth 3000 in
set_option maxHeartbeats 400000 in
theorem awake5_any (w : World) (hG : G w) :
    Calls Tryz.prog 79 #[] w fun e w' => e = .returned (.bool true) ∧ Below w.heap.size w w' := by
  obtain ⟨L, hL⟩ : ∃ L, shaL [97, 98, 99] = L := ⟨_, rfl⟩
  obtain ⟨L0, hL0⟩ : ∃ L, shaL [] = L := ⟨_, rfl⟩
  have hp : Lib.hasPrefix L [186, 120, 22, 191] = true := by rw [← hL]; exact abc_prefix
  have h32 : (ByteArray.mk L0.toArray).size = 32 := by show L0.toArray.size = 32; rw [List.size_toArray, ← hL0, shaL_length]
  have HT : Hid (∀ W : World, G W → Calls Tryz.prog 110 #[.slice (some ⟨W.heap.size, 0, none⟩) 2 2] (W.alloc (.cells #[.string ⟨#[97]⟩, .string ⟨#[98, 99]⟩] 9)) fun e w' => e = .returned (.string ⟨L.toArray⟩) ∧ Below W.heap.size W w') := Lib.hid fun W hg => by
    rw [← hL]
    have hb0 : Below W.heap.size W (W.alloc (.cells #[.string ⟨#[97]⟩, .string ⟨#[98, 99]⟩] 9)) := (Below.refl _ _).alloc (Nat.le_refl _) _
    refine (Text_any W.heap.size 0 2 [⟨#[97]⟩, ⟨#[98, 99]⟩] _ (hg.below hb0) (fun j x hx => ?_) (by simp) (by decide) (by decide) [97, 98, 99] rfl (by decide)).mono fun e w' h => ⟨h.1, hb0.trans (h.2.mono hb0.size)⟩
    have h := (Row.new W 9 [.string ⟨#[97]⟩, .string ⟨#[98, 99]⟩]).cell j
    rw [Nat.zero_add, h]
    match j, hx with
    | 0, hx => cases hx; rfl
    | 1, hx => cases hx; rfl
    | j + 2, hx => cases hx
  have HT0 : Hid (∀ W : World, G W → Calls Tryz.prog 110 #[.slice none 0 0] W fun e w' => e = .returned (.string ⟨L0.toArray⟩) ∧ Below W.heap.size W w') := Lib.hid fun W hg => by
    rw [← hL0]; exact Text_none none 0 W hg
  have HP : Hid (∀ W : World, Calls Tryz.prog 73 #[.string ⟨L.toArray⟩, .string ⟨#[186, 120, 22, 191]⟩] W fun e w' => e = .returned (.bool true) ∧ w' = W) := Lib.hid fun W => by
    have h := Tryz.strings_HasPrefix ⟨L.toArray⟩ ⟨#[186, 120, 22, 191]⟩ W
    rw [show Lib.hasPrefix (ByteArray.mk L.toArray).data.toList (ByteArray.mk #[186, 120, 22, 191]).data.toList = true from hp] at h
    exact h
  have HG := Lib.hid hG
  clear hL hL0 hp hG
  go_enter Tryz.func79, Tryz.ntmps79
  go_wp2_with fail
  refine (Awake1_any _).mono ?_
  rintro e w1 ⟨rfl, hb1⟩
  have hg1 := HG.out.below hb1
  go_wp2_with fail
  refine (HT.out _ hg1).mono ?_
  rintro e w2 ⟨rfl, hb2⟩
  have hb2' := hb1.trans (hb2.mono hb1.size)
  have hg2 := HG.out.below hb2'
  clear hb1 hb2 hg1
  go_wp2_with fail
  refine (HP.out _).mono ?_
  rintro e w3 ⟨rfl, rfl⟩
  go_wp2_with fail
  refine (HT0.out _ hg2).mono ?_
  rintro e w4 ⟨rfl, hb4⟩
  have hb4' := hb2'.trans (hb4.mono hb2'.size)
  clear hb2' hb4 hg2
  go_wp2_with fail
  go_ret
  exact ⟨rfl, hb4'⟩
theorem Awake5_any (w : World) (hG : G w) :
    Calls Tryz.prog 40 #[] w fun e w' => e = .returned (.bool true) ∧ Below w.heap.size w w' := by
  go_enter Tryz.func40, Tryz.ntmps40
  go_wp2_with (go_at_call 79; refine (awake5_any _ hG).mono ?_; rintro e wa ⟨rfl, hb⟩)
  go_ret
  exact ⟨rfl, hb⟩
end Go.Proofs.YtiaaeniopjpfpaaGreatDoor

namespace Go.Proofs.YtiaaeniopjpfpaaGreatDoor
open Go Go.RowKit Go.Maps
set_option linter.unusedVariables false
set_option linter.unusedSimpArgs false

theorem Awake11_any (w : World) :
    Calls Tryz.prog 41 #[] w fun e w' => e = .returned (.bool true) ∧ Below w.heap.size w w' := by
  go_enter Tryz.func41, Tryz.ntmps41
  go_wp2_with fail
  refine awake11_any.mono ?_
  rintro e w' ⟨rfl, hB⟩
  go_wp2_with fail
  go_ret
  exact ⟨rfl, hB⟩

set_option maxRecDepth 20000 in
set_option maxHeartbeats 2000000 in
theorem awake12_any (w : World) (hG : G w) :
    Calls Tryz.prog 8 #[] w fun e w' => e = .returned (.bool true) ∧ Below w.heap.size w w' := by
  have HN : Hid (∀ W, Calls Tryz.prog 28 #[.int .i64 0] W fun e w' => e = .returned (.int .i64 28) ∧ W = w') := Lib.hid fun W => Need_any 0 (by omega) W
  have HG := Lib.hid hG
  clear hG
  go_enter Tryz.func8, Tryz.ntmps8
  go_wp2_with fail
  refine (HN.out _).mono ?_
  rintro e w1 ⟨rfl, rfl⟩
  go_wp2_with fail
  refine (Awake1_any _).mono ?_
  rintro e w1 ⟨rfl, hb1⟩
  have HB1 := Lib.hid hb1
  clear hb1
  go_wp2_with fail
  refine (Awake5_any _ (HG.out.below HB1.out)).mono ?_
  rintro e w2 ⟨rfl, hb2⟩
  have HB2 := Lib.hid (HB1.out.trans (hb2.mono HB1.out.size))
  clear hb2
  go_wp2_with fail
  refine (Awake11_any _).mono ?_
  rintro e w3 ⟨rfl, hb3⟩
  have HB3 := Lib.hid (HB2.out.trans (hb3.mono HB2.out.size))
  clear hb3
  go_wp2_with fail
  refine (New_any 20 (by omega) (by omega) _).mono ?_
  rintro e w4 ⟨rfl, hD, hb4⟩
  have hd4 : DiskIs (fun k => k < w3.heap.size) w4 (w3.heap.size + 2) (newDS 20) := ⟨_, _, _, _, hD _ (fun k h => h)⟩
  obtain ⟨p, hp⟩ : ∃ p, w3.heap.size + 2 = p := ⟨_, rfl⟩
  rw [hp] at hd4 ⊢
  have hs3 := HB3.out.size
  have H4 : Hid (DiskIs (fun k => k < w.heap.size) w4 p (newDS 20) ∧ Below w.heap.size w w4) := Lib.hid ⟨hd4.less (fun k h => by omega), HB3.out.trans (hb4.mono hs3)⟩
  clear hD hb4 hd4 hp hs3
  go_wp2_with fail
  have hO := Open_any (HG.out.below H4.out.2) H4.out.1 rfl trim_new
  rw [texts_new, openG_new] at hO
  have hs4 := H4.out.2.size
  refine hO.mono ?_
  rintro e w5 ⟨⟨lp, v, rfl, hlp, hr5, hown⟩, hb5⟩
  obtain ⟨ao, cap, rfl⟩ : ∃ ao cap, v = .slice ao 0 cap := by
    rcases hown.2 with ⟨rfl, h0⟩ | ⟨g, cap, cur, rfl, _⟩
    · exact ⟨none, 0, rfl⟩
    · exact ⟨_, cap, rfl⟩
  have hB5 : Below w.heap.size w w5 := H4.out.2.trans (hb5.mono hs4)
  have hd5 : DiskIs (fun k => k < w.heap.size ∨ k = lp) w5 p (newDS 20) :=
    ((H4.out.1.more (L' := fun k => k < w.heap.size ∨ w4.heap.size ≤ k) (fun g hg => hg)).below hb5).less (fun k h => by rcases h with h | rfl; exact .inl h; exact .inr hlp)
  have hA := Add_any (L := fun k => k < w.heap.size ∨ k = lp) (HG.out.below hB5) (fun k h => by have := hr5.lt; have := hB5.size; rcases h with h | rfl <;> omega) (.inr rfl) hr5 hd5 (by decide) (by decide) (by decide) (by decide) (by decide) hiL rfl (by decide) (by decide)
  rw [awk_add] at hA
  have HA := Lib.hid (show Calls Tryz.prog 16 #[.pointer (some ⟨lp, 0, none⟩), .string ⟨#[104, 105]⟩] w5 _ from hA)
  have H5 := Lib.hid (And.intro hB5 (And.intro hlp hs4))
  clear hO hown hr5 hd5 hA hB5 hb5 hs4 hlp
  go_wp2_with fail
  refine HA.out.mono ?_
  rintro e w6 ⟨rfl, hr6, hd6, hk6⟩
  have H6 : Hid (DiskIs (fun k => k < w.heap.size ∨ k = lp) w6 p awkD2 ∧ Below w.heap.size w w6) := Lib.hid ⟨hd6, H5.out.1.trans (hk6.below H5.out.1.size (fun k h => ⟨.inl h, by have := H5.out.2; omega⟩))⟩
  clear hr6 hd6 hk6 HA
  go_wp2_with fail
  have hO := Open_any (HG.out.below H6.out.2) H6.out.1 rfl trim_awk
  rw [texts_awk, openG_awk] at hO
  refine hO.mono ?_
  rintro e w7 ⟨⟨lp2, v, rfl, hlp2, hr7, hown⟩, hb7⟩
  obtain ⟨g', cap', rfl, hc7⟩ : ∃ g cap, v = .slice (some ⟨g, 0, none⟩) 1 cap ∧ w7.cell? ⟨g, 0, none⟩ = some (.string ⟨#[104, 105]⟩) := by
    rcases hown.2 with ⟨_, h0⟩ | ⟨g, cap, cur, rfl, _, hg, _, _, _, ht⟩
    · cases h0
    · refine ⟨g, cap, rfl, ?_⟩
      have h := congrArg (·[0]?) ht
      simp only [List.map_cons, List.map_nil, List.length_cons, List.length_nil] at h
      simp [World.cell?, hg]
      simpa [List.getElem?_take, tx, hiL] using h
  have H7 := Lib.hid (H6.out.2.trans (hb7.mono H6.out.2.size))
  clear hO hown hr7 hb7 hlp2
  go_wp2_with fail
  go_ret
  exact ⟨rfl, H7.out⟩
end Go.Proofs.YtiaaeniopjpfpaaGreatDoor

namespace Go.Proofs.YtiaaeniopjpfpaaGreatDoor
open Go Go.RowKit Go.Maps
set_option linter.unusedVariables false
set_option linter.unusedSimpArgs false

section
variable {w : World}
theorem Add_nil (T : ByteArray) : Calls Tryz.prog 16 #[.pointer none, .string T] w fun e w' => e = .returned (.int .i64 1) ∧ w = w' := by
  go_enter Tryz.func16, Tryz.ntmps16
  go_wp2_with fail
  refine Err_nil.mono ?_
  rintro e w1 ⟨rfl, rfl⟩
  go_wp2_with fail
  go_ret
  exact ⟨rfl, rfl⟩
theorem Renew_nil (T : ByteArray) : Calls Tryz.prog 13 #[.pointer none, .string T] w fun e w' => e = .returned (.int .i64 1) ∧ w = w' := by
  go_enter Tryz.func13, Tryz.ntmps13
  go_wp2_with fail
  refine Err_nil.mono ?_
  rintro e w1 ⟨rfl, rfl⟩
  go_wp2_with fail
  go_ret
  exact ⟨rfl, rfl⟩
set_option maxRecDepth 20000 in
set_option maxHeartbeats 2000000 in
theorem choose_nil (lp : Nat) (hx : w.cell? ⟨lp, 0, none⟩ = some (.pointer none)) :
    Calls Tryz.prog 42 #[.pointer (some ⟨lp, 0, none⟩)] w fun e w' => e = .returned (.int .i64 1) ∧ Below w.heap.size w w' := by
  have hz := (zero_of_info zB_info).1
  have hsz : (Tryz.prog.info? 90).map (·.size) = some 128 := by kernel_rfl
  have hone : zB.toArray.all (·.oneCell') = true := by kernel_rfl
  obtain ⟨Z, hZ⟩ : ∃ Z, zB = Z := ⟨_, rfl⟩
  have hZl : Z.length = 128 := by rw [← hZ]; exact zB_len
  rw [hZ] at hz hone
  go_enter Tryz.func42, Tryz.ntmps42
  go_wp2_with fail
  go_loopw [9] (fun i wr => i = .int .i64 0 ∧ w = wr) (fun i _ => 0)
  case atStart => exact ⟨rfl, rfl⟩
  case round =>
    obtain ⟨rfl, rfl⟩ := hrel
    go_wp2_with fail
    refine (Read_nil 0).mono ?_
    rintro e w2 ⟨rfl, hb2⟩
    rw [hZ]
    have HB2 := Lib.hid hb2
    clear hb2
    have HNEW : Hid (Row (w2.alloc (.cells Z.toArray 90)) w2.heap.size 90 Z ∧ Below w2.heap.size w2 ((w2.alloc (.cells Z.toArray 90)).setRow w2.heap.size Z.toArray)) := Lib.hid
      ⟨Row.new w2 90 Z, below_setRow (B := w2.heap.size) ((Below.refl w2.heap.size w2).alloc (Nat.le_refl _) _) (Nat.le_refl _) _⟩
    go_wp2_with (first
      | (refine wpList_store_row rfl 90 (.tmp 4) (.tmp 19) rfl w2.heap.size Z.toArray rfl rfl 90 Z.toArray HNEW.out.1 (by rw [List.size_toArray, hZl]; exact hsz) rfl hone ?_; have hN := HNEW.out.2; generalize (w2.alloc (.cells Z.toArray 90)).setRow w2.heap.size Z.toArray = w3 at hN ⊢; have HN := Lib.hid (HB2.out.trans (hN.mono HB2.out.size)); clear hN)
      | fail)
    go_ret
    exact ⟨rfl, HN.out⟩
set_option maxRecDepth 100000 in
set_option maxHeartbeats 2000000 in
theorem Open_nil : Calls Tryz.prog 11 #[.pointer none] w fun e w' => e = .returned (.tuple #[.pointer none, .slice none 0 0, .int .i64 1]) ∧ Below w.heap.size w w' := by
  refine (callsIn_wide (n := 6)).1 ?_
  refine callsIn_of_wp_marks Tryz.func11 rfl trivial ?_ rfl
  simp only [Tryz.ntmps11, List.size_toArray, List.length_cons, List.length_nil, Nat.reduceAdd, Nat.reduceSub, Array.replicate_succ, Array.replicate_zero, List.push_toArray, List.append_toArray, List.nil_append, List.cons_append]
  rw [wpIn_wide]
  go_wp2_with fail
  refine (choose_nil w.heap.size (((Row.new w 83 [.pointer none, .int .u64 0, .int .i64 0, .int .i64 0, .int .i64 0, .int .i64 0]).alloc (.cells #[.pointer (some ⟨w.heap.size, 0, none⟩)] 30)).cell 0)).mono ?_
  rintro e w2 ⟨rfl, hb2⟩
  have hB : Below w.heap.size w w2 := (((Below.refl _ _).alloc (Nat.le_refl _) _).alloc (by simp) _).trans (hb2.mono (by simp; omega))
  have HB := Lib.hid hB
  clear hb2 hB
  go_wp2_with fail
  exact ⟨_, results_tmp3 rfl _ _ _, rfl, HB.out⟩
end
end Go.Proofs.YtiaaeniopjpfpaaGreatDoor

namespace Go.Proofs.YtiaaeniopjpfpaaGreatDoor
open Go Go.RowKit Go.Maps
set_option linter.unusedVariables false
set_option linter.unusedSimpArgs false

theorem Awake12_any (w : World) (hG : G w) :
    Calls Tryz.prog 66 #[] w fun e w' => e = .returned (.bool true) ∧ Below w.heap.size w w' := by
  have HA := Lib.hid (awake12_any w hG)
  clear hG
  go_enter Tryz.func66, Tryz.ntmps66
  go_wp2_with fail
  refine HA.out.mono ?_
  rintro e w' ⟨rfl, hB⟩
  go_wp2_with fail
  go_ret
  exact ⟨rfl, hB⟩

/-- The example's changes. -/
def exC : List CH := [⟨⟨#[97]⟩, ⟨#[49]⟩, false⟩, ⟨⟨#[97]⟩, ⟨#[]⟩, true⟩, ⟨⟨#[98]⟩, ⟨#[50]⟩, false⟩]
theorem exC_len : (textL 99 exC).length = 33 := by
  unfold textL
  simp [exC, text_length]
  rfl
theorem ex_step (P : List UInt8) : ((newDS 40).written 2 P).stepErr = 0 := by kernel_rfl
/-- A text that one sector holds, added to a new disk's log. -/
theorem new_add40 (t : List UInt8) (h : t.length ≤ 100) : (LG.zero.add (newDS 40) t).2 = 0 := by
  have hl : (frameL 1 t).length = 28 + t.length := frameL_length _ _
  have hp : (LG.zero.putR (newDS 40) (frameL 1 t)).2 = 0 := by
    unfold LG.putR
    rw [if_neg (by decide)]
    show (putG 200 (newDS 40) 2 (((newDS 40).read 2).take 0 ++ frameL 1 t)).2 = 0
    rw [List.take_zero, List.nil_append, putG, if_neg (fun h => by rw [h] at hl; simp at hl; omega), if_neg (by decide), List.drop_eq_nil_of_le (by omega), putG_nil]
    exact ex_step (pad128 (frameL 1 t))
  unfold LG.add
  rw [if_neg (by decide), if_neg (by omega), if_neg (by show ¬ 2432 < t.length + 28; omega)]
  rw [show LG.zero.count + 1 = 1 from rfl, hp]
  rfl
theorem opened_new40 : LG.opened (newDS 40) = LG.zero := opened_zeros (by kernel_rfl) (by kernel_rfl)
theorem bytes_new40 : LG.zero.bytes (newDS 40) = List.replicate 2432 0 := by kernel_rfl
theorem texts_new40 : LG.opentexts (newDS 40) = [] := by unfold LG.opentexts; rw [opened_new40, bytes_new40, frames_zeros]
theorem openG_new40 : LG.openG (newDS 40) = LG.zero := by unfold LG.openG; rw [texts_new40, opened_new40]; rfl
theorem trim_new40 : (Lib.trimRightB ((LG.opened (newDS 40)).bytes (newDS 40)) 0).length ≤ (LG.openG (newDS 40)).used := by
  rw [opened_new40, bytes_new40, openG_new40]
  exact trim_zeros [] 2432
theorem ex_add : (LG.zero.add (newDS 40) (textL 99 exC)).2 = 0 := new_add40 _ (by rw [exC_len]; decide)
theorem ex_most : ∀ c ∈ exC, c.most ∧ c.fault = 0 := by
  intro c hc
  unfold exC at hc
  simp only [List.mem_cons, List.not_mem_nil, or_false] at hc
  rcases hc with rfl | rfl | rfl <;> exact ⟨⟨by decide, by decide⟩, by decide⟩
theorem ex_has : Maps.has (applyD (.map []) exC) (kLit ⟨#[98]⟩) = true := by kernel_rfl
theorem ex_size : Maps.size (applyD (.map []) exC) = 1 := by kernel_rfl
theorem ex_at : (applyD (.map []) exC).atKey (kLit ⟨#[98]⟩) (CH.D ⟨⟨#[]⟩, ⟨#[]⟩, false⟩) = CH.D ⟨⟨#[98]⟩, ⟨#[50]⟩, false⟩ := by kernel_rfl

set_option maxRecDepth 20000 in
set_option maxHeartbeats 4000000 in
theorem awake13_any (w : World) (hG : G w) :
    Calls Tryz.prog 29 #[] w fun e w' => e = .returned (.bool true) ∧ Below w.heap.size w w' := by
  have HG := Lib.hid hG
  clear hG
  go_enter Tryz.func29, Tryz.ntmps29
  go_wp2_with fail
  refine (New_any 40 (by omega) (by omega) _).mono ?_
  rintro e w4 ⟨rfl, hD, hb4⟩
  have hd4 : DiskIs (fun k => k < w.heap.size) w4 (w.heap.size + 2) (newDS 40) := ⟨_, _, _, _, hD _ (fun k h => h)⟩
  obtain ⟨p, hp⟩ : ∃ p, w.heap.size + 2 = p := ⟨_, rfl⟩
  rw [hp] at hd4 ⊢
  have H4 := Lib.hid (And.intro hd4 hb4)
  clear hD hd4 hb4 hp
  go_wp2_with fail
  refine (stOpen_new (HG.out.below H4.out.2) H4.out.1 rfl trim_new40 texts_new40).mono ?_
  rintro e w5 ⟨sp, lp, mp, rfl, hord, hs5, hr5, hm5, hb5⟩
  rw [openG_new40] at hr5
  have hs4 := H4.out.2.size
  have hB5 : Below w.heap.size w w5 := H4.out.2.trans (hb5.mono hs4)
  have H5 := Lib.hid (And.intro hord (And.intro hs5 (And.intro hr5 (And.intro hm5 (And.intro hb5 hB5)))))
  clear hord hs5 hr5 hm5 hb5 hB5
  go_wp2_with fail
  refine (Awake12_any _ (HG.out.below H5.out.2.2.2.2.2)).mono ?_
  rintro e w6 ⟨rfl, hb6⟩
  have H6 := Lib.hid hb6
  clear hb6
  go_wp2_with fail
  refine (Put_ch _ _ _).mono ?_
  rintro e w7 ⟨rfl, hb7⟩
  have H7 : Hid (Below w5.heap.size w5 w7) := Lib.hid (H6.out.trans (hb7.mono H6.out.size))
  clear hb7
  go_wp2_with fail
  refine (Drop_ch _ _).mono ?_
  rintro e w8 ⟨rfl, hb8⟩
  have H8 : Hid (Below w5.heap.size w5 w8) := Lib.hid (H7.out.trans (hb8.mono H7.out.size))
  clear hb8
  go_wp2_with fail
  refine (Put_ch _ _ _).mono ?_
  rintro e w9 ⟨rfl, hb9⟩
  have H9 : Hid (Below w5.heap.size w5 w9) := Lib.hid (H8.out.trans (hb9.mono H8.out.size))
  clear hb9
  go_wp2_with fail
  have hsz := H9.out.size
  obtain ⟨g9, hg9⟩ : ∃ x, w9.heap.size = x := ⟨_, rfl⟩
  have hB5 := H5.out.2.2.2.2.2
  have hs5 := hB5.size
  have hord := H5.out.1
  have hrow := Row.new w9 76 (chs exC)
  rw [hg9] at hrow hsz
  have hb95 : Below w5.heap.size w5 (w9.alloc (.cells (chs exC).toArray 76)) := H9.out.alloc (by rw [hg9]; omega) _
  have hb94 : Below w4.heap.size w4 (w9.alloc (.cells (chs exC).toArray 76)) := H5.out.2.2.2.2.1.trans (hb95.mono H5.out.2.2.2.2.1.size)
  have hb90 : Below w.heap.size w (w9.alloc (.cells (chs exC).toArray 76)) := hB5.trans (hb95.mono hs5)
  have hszN : (w9.alloc (.cells (chs exC).toArray 76)).heap.size = g9 + 1 := by rw [World.size_alloc, hg9]
  have hd9 : DiskIs (fun k => (k < w.heap.size ∨ w4.heap.size ≤ k) ∧ k < g9 + 1) (w9.alloc (.cells (chs exC).toArray 76)) p (newDS 40) :=
    ((H4.out.1.more (L' := fun k => k < w.heap.size ∨ w4.heap.size ≤ k) (fun g hg => hg)).below hb94).less (fun k h => h.1)
  have hcr : ChRow (w9.alloc (.cells (chs exC).toArray 76)) (.slice (some ⟨g9, 0, none⟩) 3 3) exC :=
    ⟨some ⟨g9, 0, none⟩, 3, rfl, fun _ => ⟨g9, rfl⟩, fun g hg j x hx => by
      injection hg with hg
      injection hg with hg
      subst hg
      exact (hrow.cell j).trans hx⟩
  have hs5l := H5.out.2.1.lt
  have hl5l := H5.out.2.2.1.lt
  have hm5l := World.ownsMap.lt H5.out.2.2.2.1
  have hDO := stDo_add (L := fun k => (k < w.heap.size ∨ w4.heap.size ≤ k) ∧ k < g9 + 1) (HG.out.below hb90) (fun k h => by rw [hszN]; exact h.2) (by exact ⟨.inr hord.1, by omega⟩) (by exact ⟨.inr hord.2.2.1, by omega⟩)
    (H5.out.2.1.below hb95 hs5l) (H5.out.2.2.1.below hb95 hl5l) hd9 (SMap.keep H5.out.2.2.2.1 (hb95.block mp hm5l)) (by decide) (.slice (some ⟨g9, 0, none⟩) 3 3) hcr (fun k hk => by have hk' : g9 = k := Option.some.inj hk; subst hk'; exact ⟨⟨.inr (by have := H5.out.2.2.2.2.1.size; omega), by omega⟩, by omega⟩)
    (by exact ⟨.inr hord.2.1, by omega⟩) hord.2.2.2.1 hord.2.2.2.2.1 (by decide) (by decide) ex_most (by decide) (by decide) (by decide) (by decide) (by decide) rfl (by rw [exC_len]; decide) (by rw [exC_len]; decide) ex_add
  have HDO := Lib.hid hDO
  have H10 := Lib.hid (And.intro hb90 (And.intro hord (And.intro hszN (And.intro hb95 hs5))))
  have HLT := Lib.hid (And.intro hs5l hm5l)
  clear hDO hrow hb95 hb94 hb90 hszN hd9 hcr hs5l hl5l hm5l hord hB5 hs5 hsz
  rw [hg9]
  refine HDO.out.mono ?_
  rintro e w10 ⟨rfl, hr10, hd10, hm10, hk10⟩
  have hs10 : StRow w10 sp lp mp := (hk10.block sp (by rw [H10.out.2.2.1]; have := HLT.out.1; have := H9.out.size; omega) ⟨⟨.inr H10.out.2.1.2.1, by have := HLT.out.1; have := H9.out.size; omega⟩, H10.out.2.1.2.2.2.1, fun e => H10.out.2.1.2.2.2.2.2 e.symm⟩).trans (H5.out.2.1.below H10.out.2.2.2.1 HLT.out.1)
  have hB10 : Below w.heap.size w w10 := H10.out.1.trans (hk10.below (by rw [H10.out.2.2.1]; have := H10.out.2.2.2.2; have := H9.out.size; omega) (fun k h => ⟨⟨.inl h, by have := H10.out.2.2.2.2; have := H9.out.size; omega⟩, by have := H10.out.2.1.1; omega, by have := H10.out.2.1.2.2.1; omega⟩))
  have HGET := Lib.hid (stGet_any w10 sp lp mp _ _ ⟨#[98]⟩ (by unfold maxLen; decide) hs10 hm10)
  have H11 := Lib.hid (And.intro hs10 (And.intro hm10 hB10))
  clear hs10 hm10 hB10 hk10 hr10 hd10
  go_wp2_with fail
  refine HGET.out.mono ?_
  rintro e w11 ⟨c, rfl, hc, hb11⟩
  have hc2 : c = ⟨⟨#[98]⟩, ⟨#[50]⟩, false⟩ := D_inj (hc.symm.trans ex_at)
  subst hc2
  rw [ex_has]
  have hl11 := stLen_any w11 sp lp mp _ _ (H11.out.1.below hb11 H11.out.1.lt) (SMap.keep H11.out.2.1 (hb11.block mp (World.ownsMap.lt H11.out.2.1)))
  rw [ex_size] at hl11
  have HL11 := Lib.hid hl11
  have HB11 : Hid (Below w.heap.size w w11) := Lib.hid (H11.out.2.2.trans (hb11.mono H11.out.2.2.size))
  clear hl11 hb11 hc
  go_wp2_with fail
  refine HL11.out.mono ?_
  rintro e w12 ⟨rfl, rfl⟩
  go_wp2_with fail
  go_ret
  exact ⟨rfl, HB11.out⟩
end Go.Proofs.YtiaaeniopjpfpaaGreatDoor

namespace Go.Proofs.YtiaaeniopjpfpaaGreatDoor
open Go Go.RowKit Go.Maps
set_option linter.unusedVariables false
set_option linter.unusedSimpArgs false

/-- A slice of changes that came in. -/
def ChStr (w : World) (v : Value) (l : List CH) : Prop :=
  ∃ a0 cap b off, v = .slice a0 l.length cap ∧ (0 < l.length → a0 = some ⟨b, off, none⟩ ∧ b < w.heap.size) ∧
    ∀ j c, l[j]? = some c → w.cell? ⟨b, off + j * 3, none⟩ = some (.string c.key) ∧ w.cell? ⟨b, off + j * 3 + 1, none⟩ = some (.string c.val) ∧ w.cell? ⟨b, off + j * 3 + 2, none⟩ = some (.bool c.gone)
theorem ChStr.below {w w' : World} {B : Nat} {v : Value} {l : List CH} (h : ChStr w v l) (hB : w.heap.size ≤ B) (hb : Below B w w') : ChStr w' v l := by
  obtain ⟨a0, cap, b, off, rfl, h1, h2⟩ := h
  refine ⟨a0, cap, b, off, rfl, fun h0 => ⟨(h1 h0).1, by have := (h1 h0).2; have := hb.size; omega⟩, fun j c hc => ?_⟩
  have hl : b < B := by
    have := (h1 (by have := (List.getElem?_eq_some_iff.1 hc).1; omega)).2
    omega
  obtain ⟨p0, p1, p2⟩ := h2 j c hc
  exact ⟨(hb.cell (p := ⟨b, off + j * 3, none⟩) hl).trans p0, (hb.cell (p := ⟨b, off + j * 3 + 1, none⟩) hl).trans p1, (hb.cell (p := ⟨b, off + j * 3 + 2, none⟩) hl).trans p2⟩
def CH.small (c : CH) : Prop := c.key.size ≤ 100 ∧ c.val.size ≤ 1500

def LightPost (w : World) (l : List CH) (e : Ending) (w' : World) : Prop := ∃ B, e = .returned (.bool B) ∧ (B = true → ∀ c ∈ l, c.small) ∧ Below w.heap.size w w'
set_option maxRecDepth 20000 in
set_option maxHeartbeats 2000000 in
theorem light_any (w : World) (v : Value) (l : List CH) (h8 : l.length ≤ 8) (hv : ChStr w v l) :
    Calls Tryz.prog 38 #[.slice (some ⟨w.heap.size, 0, none⟩) 1 1, .int .i64 1] (w.alloc (.cells #[v] 72)) (LightPost w l) := by
  have hb0 : Below w.heap.size w (w.alloc (.cells #[v] 72)) := (Below.refl _ _).alloc (Nat.le_refl _) _
  have hbx := Boxed.new w 72 v
  obtain ⟨n, hn⟩ : ∃ n, l.length = n := ⟨_, rfl⟩
  have hv0 := hv
  obtain ⟨a0, cap, b, off, rfl, h1, h2⟩ := hv
  rw [hn] at h1 h8 hbx hb0 ⊢
  obtain ⟨x, hx⟩ : ∃ x, w.heap.size = x := ⟨_, rfl⟩
  rw [hx] at hbx hb0 ⊢
  generalize hw0 : (w.alloc (.cells #[.slice a0 n cap] 72)) = w0 at hbx hb0 ⊢
  have c0 := hbx.cell
  have hxl := hbx.lt
  have HC := Lib.hid (And.intro h1 (And.intro h2 hn))
  have HX := Lib.hid (And.intro hbx hb0)
  have HXE := Lib.hid hx
  have hnI : (n : Int) ≤ 8 := by omega
  clear h1 h2 hn hbx hb0 hw0 hv0 h8
  go_enter Tryz.func38, Tryz.ntmps38
  go_wp2
  go_loopw [11] (fun i wr => ∃ t : Nat, t ≤ 1 ∧ i = .int .i64 t ∧ Hid (t = 1 → ∀ c ∈ l, c.small) ∧ Hid (Below w0.heap.size w0 wr)) (fun i _ => 1 - (intOf i).toNat)
  case atStart => exact ⟨0, Nat.zero_le _, rfl, Lib.hid (fun h => by cases h), Lib.hid (Below.refl _ _)⟩
  case round =>
    obtain ⟨t, ht, rfl, HT, HW⟩ := hrel
    by_cases ht0 : t = 0
    · subst ht0
      have q0 := (HW.out.cell (p := ⟨x, 0, none⟩) hxl).trans c0
      have hsz := HW.out.size
      clear c0
      go_wp2
      go_loopw [26] (fun i wr => ∃ j : Nat, j ≤ n ∧ i = .int .i64 j ∧ Hid (∀ k c, k < j → l[k]? = some c → c.small) ∧ Hid (Below w0.heap.size w0 wr)) (fun i _ => n - (intOf i).toNat)
      case atStart => exact ⟨0, Nat.zero_le _, rfl, Lib.hid (fun k c hk => by omega), HW⟩
      case round =>
        obtain ⟨j, hj, rfl, HJ, HW2⟩ := hrel
        by_cases hlt : j < n
        · obtain ⟨c, hc⟩ : ∃ c, l[j]? = some c := ⟨_, List.getElem?_eq_getElem (by have := HC.out.2.2; omega)⟩
          obtain ⟨rfl, hbl⟩ := HC.out.1 (by omega)
          obtain ⟨p0, p1, p2⟩ := HC.out.2.1 j c hc
          have hB2 : Below x w wr := HX.out.2.trans (HW2.out.mono (by omega))
          have q0 := (hB2.cell (p := ⟨b, off + j * 3, none⟩) (by show b < x; omega)).trans p0
          have q1 := (hB2.cell (p := ⟨b, off + j * 3 + 1, none⟩) (by show b < x; omega)).trans p1
          have q2 := (hB2.cell (p := ⟨b, off + j * 3 + 2, none⟩) (by show b < x; omega)).trans p2
          have hltI : (j : Int) < (n : Int) := by omega
          have HCC := Lib.hid hc
          obtain ⟨ck, cv, cg⟩ := c
          dsimp only at q0 q1 q2
          have hsz2 := HW2.out.size
          clear p0 p1 p2 hB2 hc
          by_cases hsm : ck.size ≤ 100 ∧ cv.size ≤ 1500
          · have hk1 : (ck.size : Int) ≤ 100 := by omega
            have hk2 : (cv.size : Int) ≤ 1500 := by omega
            have HN : Hid (∀ k c, k < j + 1 → l[k]? = some c → c.small) := Lib.hid (fun k c hk hkc => by
              rcases (by omega : k < j ∨ k = j) with h | h
              · exact HJ.out k c h hkc
              · subst h
                rw [HCC.out] at hkc
                cases hkc
                exact hsm)
            clear hsm
            go_wp2_with fail
            refine ⟨⟨_, _, .int .i64 ((j : Int) + 1), ⟨j + 1, by omega, by go_num, HN, Lib.hid (HW2.out.alloc hsz2 _)⟩, rfl, rfl, rfl⟩, ?_⟩
            simp [intOf]
            omega
          · by_cases hk1 : ck.size ≤ 100
            · have hk3 : (ck.size : Int) ≤ 100 := by omega
              have hk2 : (1500 : Int) < (cv.size : Int) := by omega
              clear hsm hk1
              go_wp2
              go_ret
              exact ⟨false, rfl, (fun h => by cases h), (by rw [HXE.out]; exact HX.out.2.trans ((HW2.out.alloc hsz2 _).mono (by omega)))⟩
            · have hk3 : (100 : Int) < (ck.size : Int) := by omega
              clear hsm hk1
              go_wp2
              go_ret
              exact ⟨false, rfl, (fun h => by cases h), (by rw [HXE.out]; exact HX.out.2.trans ((HW2.out.alloc hsz2 _).mono (by omega)))⟩
        · have hnlt : ¬ (j : Int) < (n : Int) := by omega
          have HA : Hid (∀ c ∈ l, c.small) := Lib.hid (fun c hc => by
            obtain ⟨k, hk, rfl⟩ := List.getElem_of_mem hc
            exact HJ.out k _ (by have := HC.out.2.2; omega) (List.getElem?_eq_getElem hk))
          go_wp2
          go_roundw
          case rel => exact ⟨1, Nat.le_refl _, by go_num, Lib.hid (fun _ => HA.out), HW2⟩
          case measure => simp [intOf]
    · have ht1 : t = 1 := by omega
      subst ht1
      have HA := Lib.hid (HT.out rfl)
      clear HT
      go_wp2
      go_ret
      exact ⟨true, rfl, (fun _ => HA.out), (by rw [HXE.out]; exact HX.out.2.trans (HW.out.mono (by omega)))⟩

theorem kLit_ne {a b : ByteArray} (h : a ≠ b) : kLit b ≠ kLit a := fun e => h (by injection e with e; exact (data_inj e).symm)
theorem str_key (k : ByteArray) : WideAt.IsKeyLit (kLit k) := trivial
theorem app_other (M : DataW Unit) (c : CH) (k : ByteArray) (h : c.key ≠ k) : Maps.has (apply1 M c) (kLit k) = Maps.has M (kLit k) ∧ ∀ z, (apply1 M c).atKey (kLit k) z = M.atKey (kLit k) z := by
  unfold apply1
  split
  · exact ⟨has_del_other (kLit_ne h), fun z => atKey_del_other (kLit_ne h) z⟩
  · exact ⟨has_put_other (kLit_ne h) _, fun z => atKey_put_other (kLit_ne h) _ z⟩
theorem app_same (M : DataW Unit) (hM : IsMap M) (c : CH) : Maps.has (apply1 M c) (kLit c.key) = !c.gone ∧ (c.gone = false → ∀ z, (apply1 M c).atKey (kLit c.key) z = c.D) := by
  unfold apply1
  cases hg : c.gone
  · rw [if_neg (by simp)]
    exact ⟨has_put_same hM (str_key _) _, fun _ z => atKey_put_same hM (str_key _) _ z⟩
  · rw [if_pos rfl]
    exact ⟨has_del_same, fun h => by cases h⟩
theorem app_tidy {M : DataW Unit} (hM : Tidy M) (c : CH) : Tidy (apply1 M c) := by
  unfold apply1
  split
  · exact hM.del _
  · exact hM.put (str_key _) _
theorem app_twice {M : DataW Unit} (hM : Tidy M) (c : CH) : Maps.size (apply1 (apply1 M c) c) = Maps.size (apply1 M c) := by
  have h2 := app_tidy hM c
  have h3 := (app_same M hM.isMap c).1
  cases hg : c.gone
  · rw [hg] at h3
    have e : apply1 (apply1 M c) c = (apply1 M c).put (kLit c.key) c.D := by rw [apply1, if_neg (by rw [hg]; simp)]
    rw [e, size_put h2, if_pos (by simpa using h3)]
  · rw [hg] at h3
    have e : apply1 (apply1 M c) c = (apply1 M c).del (kLit c.key) := by rw [apply1, if_pos hg]
    have h4 := size_del (k := kLit c.key) h2
    rw [h3] at h4
    rw [e]
    simpa using h4

theorem new_read (n k : Nat) (hk : k < n) : (newDS n).read ((k : Nat) : Int) = z128 := by
  have hf : (newDS n).fault ((k : Nat) : Int) = 0 := live_fault (D := newDS n) ⟨rfl, rfl⟩ k (by show k < (List.replicate n z128).length; rw [List.length_replicate]; exact hk)
  unfold DS.read
  rw [if_pos hf]
  show (List.replicate n z128).getD ((k : Nat) : Int).toNat [] = z128
  simp [List.getD, hk]
theorem bytes_newN (n a m : Nat) (h : a + m ≤ n) : bytesN (newDS n) a m = List.replicate (m * 128) 0 := by
  induction m with
  | zero => rfl
  | succ m ih =>
    unfold bytesN
    rw [ih (by omega)]
    have hr := new_read n (a + m) (by omega)
    rw [show (((a + m : Nat)) : Int) = ((a : Nat) : Int) + ((m : Nat) : Int) by omega] at hr
    first | rw [hr] | (rw [new_read n (a + m) (by omega)])
    unfold z128
    rw [List.replicate_append_replicate]
    congr 1
    omega
theorem opened_new300 : LG.opened (newDS 300) = LG.zero := opened_zeros (new_read 300 0 (by decide)) (new_read 300 1 (by decide))
theorem len_new300 : (newDS 300).lasts.length = 300 := List.length_replicate
theorem secs_new300 : secs (newDS 300) = 149 := by
  unfold secs
  rw [len_new300]
theorem bytes_new300 : LG.zero.bytes (newDS 300) = List.replicate 19072 0 := by
  unfold LG.bytes
  rw [secs_new300]
  have h := bytes_newN 300 (2 + LG.zero.half * 149) 149 (by decide)
  have e : 149 * 128 = 19072 := rfl
  exact h.trans (congrArg (fun n => List.replicate n (0 : UInt8)) e)
theorem texts_new300 : LG.opentexts (newDS 300) = [] := by unfold LG.opentexts; rw [opened_new300, bytes_new300, frames_zeros]
theorem openG_new300 : LG.openG (newDS 300) = LG.zero := by unfold LG.openG; rw [texts_new300, opened_new300]; rfl
theorem trim_new300 : (Lib.trimRightB ((LG.opened (newDS 300)).bytes (newDS 300)) 0).length ≤ (LG.openG (newDS 300)).used := by
  rw [opened_new300, bytes_new300, openG_new300]
  have h := trim_zeros [] 19072
  rw [List.nil_append] at h
  exact h
theorem room_new : Room LG.zero (newDS 300) 0 := ⟨rfl, rfl, Nat.le_refl _, Nat.le_refl _, ⟨rfl, rfl⟩, List.length_replicate, Nat.le_refl _, Nat.le_refl _⟩
end Go.Proofs.YtiaaeniopjpfpaaGreatDoor

namespace Go.Proofs.YtiaaeniopjpfpaaGreatDoor
open Go.ChangeShapes Go.WideShapes Go.RowKit Go.Deep
set_option linter.unusedVariables false

instance : Inhabited CH := ⟨⟨⟨#[]⟩, ⟨#[]⟩, false⟩⟩
set_option maxRecDepth 20000 in
theorem chs_open {H : Type} {enc : TypeId × Value → H} {W : World} {a0 : Option Addr} {len cap fuel : Nat} {x : DataW H × List MemPlace}
    (hf : DataW.trod enc Tryz.prog W 0 (fun _ => true) true fuel 72 [.slice a0 len cap] = some x) : ∃ l, ChStr W (.slice a0 len cap) l ∧ l.length ≤ 9223372036854775807 := by
  have c3 : Tryz.prog.cellsOf 76 = 3 := by kernel_rfl
  have ci : Tryz.prog.cellsOf 9 = 1 := by kernel_rfl
  have cb : Tryz.prog.cellsOf 4 = 1 := by kernel_rfl
  rcases open_slice Tryz.underlying72 hf with ⟨hcs, hx⟩ | ⟨a, len', cap', m, n, D, Pl, hcs, _, hl, hm, hz, hx, hcell⟩
  · simp at hcs
    obtain ⟨rfl, rfl, rfl⟩ := hcs
    exact ⟨[], ⟨none, 0, 0, 0, rfl, fun h => absurd h (by simp), fun j c h => absurd h (by simp)⟩, by simp⟩
  · simp at hcs
    obtain ⟨rfl, rfl, rfl⟩ := hcs
    simp only [if_true] at hz
    obtain ⟨b, off, spot⟩ := a
    have each : ∀ i, i < len → ∃ q : CH, W.cell? ((⟨b, off, spot⟩ : Addr).add (i * 3)) = some (.string q.key) ∧ W.cell? ((⟨b, off, spot⟩ : Addr).add (i * 3 + 1)) = some (.string q.val) ∧ W.cell? ((⟨b, off, spot⟩ : Addr).add (i * 3 + 2)) = some (.bool q.gone) := by
      intro i hi
      obtain ⟨cs', h1, h2⟩ := hcell i (by omega)
      rw [c3] at h1
      obtain ⟨_, hlen, hc⟩ := World.cells?_some h1
      obtain ⟨y0, y1, y2, k, _, _, t0, t1, t2⟩ := trod_struct3 Tryz.underlying76 h2
      match cs', hlen with
      | [v0, v1, v2], _ =>
        simp [ci, cb] at t0 t1 t2
        obtain ⟨n0, e0, _, _⟩ := DataW.trod_string Tryz.underlying9 t0
        obtain ⟨n1, e1, _, _⟩ := DataW.trod_string Tryz.underlying9 t1
        obtain ⟨n2, e2, _⟩ := DataW.trod_bool Tryz.underlying4 t2
        have g0 := hc 0 (by omega)
        have g1 := hc 1 (by omega)
        have g2 := hc 2 (by omega)
        rw [add_add] at g0 g1 g2
        simp at e0 e1 e2 g0 g1 g2
        exact ⟨⟨n0, n1, n2⟩, by rw [g0, e0], by rw [g1, e1], by rw [g2, e2]⟩
    obtain ⟨q, hq⟩ := choose_lt each
    have hg : ∀ j, j < len → ((List.range len).map q)[j]? = some (q j) := fun j hj => by
      rw [List.getElem?_map, List.getElem?_range hj]; rfl
    have hlen : ((List.range len).map q).length = len := by simp
    have hspot : 0 < len → spot = none := fun h0 => by simpa [Addr.add] using World.cell?_spot (hq 0 h0).1
    refine ⟨(List.range len).map q, ⟨some ⟨b, off, spot⟩, cap, b, off, by rw [hlen], fun h0 => ?_, fun j c hj => ?_⟩, ?_⟩
    · rw [hlen] at h0
      obtain rfl := hspot h0
      have h := (hq 0 h0).1
      refine ⟨rfl, Classical.byContradiction fun hn => ?_⟩
      rw [show ((⟨b, off, none⟩ : Addr).add (0 * 3)) = ⟨b, off, none⟩ from rfl] at h
      simp [World.cell?, Array.getElem?_eq_none (Nat.le_of_not_lt hn)] at h
    · have hjl : j < len := by have := (List.getElem?_eq_some_iff.1 hj).1; rw [hlen] at this; exact this
      obtain rfl := hspot (by omega)
      rw [hg j hjl] at hj
      cases hj
      obtain ⟨h1, h2, h3⟩ := hq j hjl
      rw [add_plain] at h1 h2 h3
      exact ⟨h1, h2, h3⟩
    · rw [hlen]
      unfold maxLen at hm; omega
end Go.Proofs.YtiaaeniopjpfpaaGreatDoor

namespace Go.Proofs.YtiaaeniopjpfpaaGreatDoor
open Go Go.RowKit Go.Maps
set_option linter.unusedVariables false
set_option linter.unusedSimpArgs false

/-- What a round begins with. -/
structure ApR (w wr : World) (sp lp mp p j : Nat) (n : Nat) (g : LG) (D : DS) (M : DataW Unit) : Prop where
  st : StW (fun k => k < w.heap.size) wr sp lp mp p n g D M
  room : Room g D (2 * j)
  few : n ≤ 2 * j
  bel : Below w.heap.size w wr

theorem Room.mono {g : LG} {D : DS} {k k' : Nat} (h : Room g D k) (hk : k ≤ k') : Room g D k' :=
  ⟨h.err, h.half, Nat.le_trans h.used (Nat.mul_le_mul_right _ hk), Nat.le_trans h.count hk, h.live, h.len, Nat.le_trans h.steps (Nat.mul_le_mul_right _ hk), Nat.le_trans h.hangs (Nat.mul_le_mul_right _ hk)⟩
theorem small_most {c : CH} (h : c.small) : c.most := ⟨by have := h.1; omega, by have := h.2; omega⟩
theorem fault_text {c : CH} (h : c.fault = 0) : c.text.length ≤ 1097 := by
  rw [text_length]
  unfold CH.fault at h
  split at h
  · cases h
  · split at h
    · cases h
    · omega

set_option maxRecDepth 100000 in
set_option maxHeartbeats 8000000 in
theorem StoreApart_walk (v : Value) (l : List CH) (key : ByteArray) (w : World) (hv : ChStr w v l) (hl : l.length ≤ 9223372036854775807) (hks : key.size ≤ 140737488355328) (hG : G w) :
    Calls Tryz.prog 7 #[v, .string key] w fun e w' => e = .returned (.bool true) ∧ Below w.heap.size w w' := by
  have HG := Lib.hid hG
  have HV := Lib.hid hv
  obtain ⟨a0, cap, b, off, rfl, h1, h2⟩ := hv
  obtain ⟨n, hn⟩ : ∃ n, l.length = n := ⟨_, rfl⟩
  rw [hn] at h1 hl HV ⊢
  have HC := Lib.hid (And.intro h1 (And.intro h2 hn))
  clear h1 h2 hG
  have HN := Lib.hid hn
  clear hn
  go_enter Tryz.func7, Tryz.ntmps7
  go_wp2_with fail
  refine (awake13_any _ HG.out).mono ?_
  rintro e wa ⟨rfl, hb0⟩
  have HA := Lib.hid hb0
  clear hb0
  by_cases hn8 : n ≤ 8
  · have hnI : (n : Int) ≤ 8 := by omega
    have hlt := light_any wa (.slice a0 n cap) l (by rw [HN.out]; exact hn8) (HV.out.below (Nat.le_refl _) HA.out)
    have HL := Lib.hid hlt
    clear hlt hn8
    go_wp2_with fail
    refine HL.out.mono ?_
    rintro e wb ⟨B, rfl, hB, hbb⟩
    have HB : Hid (Below w.heap.size w wb) := Lib.hid (HA.out.trans (hbb.mono HA.out.size))
    have HS := Lib.hid hB
    clear hB hbb HL
    cases B
    · go_wp2_with fail
      go_ret
      exact ⟨rfl, HB.out⟩
    · have HS2 := Lib.hid (HS.out rfl)
      clear HS
      by_cases hk64 : key.size ≤ 64
      · have hkI : (key.size : Int) ≤ 64 := by omega
        go_wp2_with fail
        refine (New_any 300 (by omega) (by omega) _).mono ?_
        rintro e w4 ⟨rfl, hD, hb4⟩
        have hd4 : DiskIs (fun k => k < w.heap.size) w4 (wb.heap.size + 2) (newDS 300) := ⟨_, _, _, _, hD _ (fun k h => by have := HB.out.size; omega)⟩
        obtain ⟨p, hp⟩ : ∃ p, wb.heap.size + 2 = p := ⟨_, rfl⟩
        rw [hp] at hd4 ⊢
        have H4 : Hid (DiskIs (fun k => k < w.heap.size) w4 p (newDS 300) ∧ Below w.heap.size w w4) := Lib.hid ⟨hd4, HB.out.trans (hb4.mono HB.out.size)⟩
        clear hD hd4 hb4 hp
        go_wp2_with fail
        refine (stOpen_new (HG.out.below H4.out.2) H4.out.1 rfl trim_new300 texts_new300).mono ?_
        rintro e w5 ⟨sp, lp, mp, rfl, hord, hs5, hr5, hm5, hb5⟩
        rw [openG_new300] at hr5
        have H5 : Hid (ApR w w5 sp lp mp p 0 0 LG.zero (newDS 300) (.map [])) := Lib.hid (by
          have hs4 := H4.out.2.size
          have hB5 : Below w.heap.size w w5 := H4.out.2.trans (hb5.mono hs4)
          refine ⟨⟨fun k => (k < w.heap.size ∨ w4.heap.size ≤ k) ∧ k < w5.heap.size, fun k h => h.2, fun k h => ⟨⟨.inl h, by have := hB5.size; omega⟩, by omega, by omega⟩, ⟨⟨.inr hord.2.1, hs5.lt⟩, ⟨.inr hord.1, hr5.lt⟩, ⟨.inr hord.2.2.1, World.ownsMap.lt hm5⟩⟩, hord.2.2.2, hs5, hr5, ?_, hm5⟩, room_new, Nat.le_refl _, hB5⟩
          exact ((H4.out.1.more (L' := fun k => k < w.heap.size ∨ w4.heap.size ≤ k) (fun g hg => hg)).below hb5).less (fun k h => h.1))
        clear hord hs5 hr5 hm5 hb5
        go_wp2_with fail
        go_loopw [45] (fun i wr => ∃ j : Nat, j ≤ n ∧ i = .int .i64 j ∧ Hid (∃ n2 g D M, ApR w wr sp lp mp p j n2 g D M)) (fun i _ => n - (intOf i).toNat)
        case atStart => exact ⟨0, Nat.zero_le _, rfl, Lib.hid ⟨_, _, _, _, H5.out⟩⟩
        case round =>
          obtain ⟨j, hj, rfl, HW⟩ := hrel
          by_cases hltj : j < n
          · obtain ⟨n2, g, D, M, hA⟩ := HW.out
            obtain ⟨c, hc⟩ : ∃ c, l[j]? = some c := ⟨_, List.getElem?_eq_getElem (by have := HN.out; omega)⟩
            obtain ⟨rfl, hbl⟩ := HC.out.1 (by omega)
            obtain ⟨p0, p1, p2⟩ := HC.out.2.1 j c hc
            have hsmall : c.small := HS2.out c (List.mem_of_getElem? hc)
            have q0 := (hA.bel.cell (p := ⟨b, off + j * 3, none⟩) hbl).trans p0
            have q1 := (hA.bel.cell (p := ⟨b, off + j * 3 + 1, none⟩) hbl).trans p1
            have q2 := (hA.bel.cell (p := ⟨b, off + j * 3 + 2, none⟩) hbl).trans p2
            have hltI : (j : Int) < (n : Int) := by omega
            obtain ⟨ck, cv, cg⟩ := c
            dsimp only at q0 q1 q2
            obtain ⟨s, hs⟩ : ∃ s, wr.heap.size = s := ⟨_, rfl⟩
            have hx1 := Row.new wr 76 (CH.cells ⟨ck, cv, cg⟩)
            have hb1 : Below wr.heap.size wr (wr.alloc (.cells (CH.cells ⟨ck, cv, cg⟩).toArray 76)) := (Below.refl _ _).alloc (Nat.le_refl _) _
            have hst1 : StW (fun k => k < w.heap.size ∨ k = wr.heap.size) (wr.alloc (.cells (CH.cells ⟨ck, cv, cg⟩).toArray 76)) sp lp mp p n2 g D M := hA.st.grow hb1 (fun k hk => by
              rcases hk with hk | rfl
              · exact .inl hk
              · exact .inr ⟨Nat.le_refl _, by rw [World.size_alloc]; omega⟩)
            have hB1 : Below w.heap.size w (wr.alloc (.cells (CH.cells ⟨ck, cv, cg⟩).toArray 76)) := hA.bel.trans (hb1.mono hA.bel.size)
            have hws := hA.bel.size
            unfold CH.cells at hx1 hb1 hst1 hB1
            rw [hs] at hx1 hst1 hws
            have H1 := Lib.hid (And.intro hx1 (And.intro hst1 (And.intro hB1 hws)))
            have HR := Lib.hid (And.intro hA.room hA.few)
            clear hA hc p0 p1 p2 hx1 hb1 hst1 hB1 hws
            go_wp2_with fail
            generalize (wr.alloc (.cells #[.string ck, .string cv, .bool cg] 76)) = w6 at H1 ⊢
            have hr6 := H1.out.2.1.rows
            refine (stGet_any w6 sp lp mp n2 M key (by unfold maxLen; omega) hr6.1 hr6.2.1).mono ?_
            rintro e w7 ⟨c1, rfl, hc1, hb7⟩
            obtain ⟨was, hwas⟩ : ∃ x, c1.val = x := ⟨_, rfl⟩
            obtain ⟨th, hth⟩ : ∃ x, Maps.has M (kLit key) = x := ⟨_, rfl⟩
            rw [hwas, hth]
            have H7 : Hid (Row w7 s 76 [.string ck, .string cv, .bool cg] ∧ StW (fun k => k < w.heap.size ∨ k = s) w7 sp lp mp p n2 g D M ∧ Below w.heap.size w w7) := Lib.hid
              ⟨H1.out.1.below hb7 H1.out.1.lt, H1.out.2.1.below hb7, H1.out.2.2.1.trans (hb7.mono H1.out.2.2.1.size)⟩
            have x0 := H7.out.1.cell 0
            have x1 := H7.out.1.cell 1
            have x2 := H7.out.1.cell 2
            simp only [List.getElem?_cons_zero, List.getElem?_cons_succ] at x0 x1 x2
            have HQ := Lib.hid (And.intro hc1 (And.intro hwas hth))
            have HSM := Lib.hid hsmall
            have HX := Lib.hid (And.intro H1.out.2.2.2 hs)
            clear hr6 hb7 hc1 hwas hth hsmall H1 q0 q1 q2 hs HW
            by_cases hf : CH.fault ⟨ck, cv, cg⟩ = 0
            · have HD1 := Lib.hid (stDo_one (HG.out.below H7.out.2.2) H7.out.2.1 (2 * j) (by omega) HR.out.1 (by have := HR.out.2; omega) ⟨ck, cv, cg⟩ (small_most HSM.out) hf (fault_text hf))
              have HF := Lib.hid hf
              clear hf
              go_wp2_with fail
              refine HD1.out.mono ?_
              rintro e w8 ⟨rfl, g1, D1, hst8, hrm8, hk8⟩
              have H8 : Hid (Row w8 s 76 [.string ck, .string cv, .bool cg] ∧ StW (fun k => k < w.heap.size ∨ k = s) w8 sp lp mp p (n2 + 1) g1 D1 (apply1 M ⟨ck, cv, cg⟩) ∧ Below w.heap.size w w8 ∧ Room g1 D1 (2 * j + 1)) := Lib.hid
                ⟨(hk8.block s H7.out.1.lt (.inr rfl)).trans H7.out.1, hst8, H7.out.2.2.trans (hk8.below H7.out.2.2.size (fun k h => .inl h)), hrm8⟩
              clear hst8 hrm8 hk8 HD1 x0 x1 x2
              have hr8 := H8.out.2.1.rows
              have HLN := Lib.hid (stLen_any w8 sp lp mp _ _ hr8.1 hr8.2.1)
              have HGT := Lib.hid (stGet_any w8 sp lp mp _ _ key (by unfold maxLen; omega) hr8.1 hr8.2.1)
              have htd := hr8.2.1.tidy sk
              have hM : IsMap M := (H7.out.2.1.rows.2.1.tidy sk).isMap
              have HTW : Hid (Maps.size (apply1 (apply1 M ⟨ck, cv, cg⟩) ⟨ck, cv, cg⟩) = Maps.size (apply1 M ⟨ck, cv, cg⟩)) := Lib.hid (app_twice (H7.out.2.1.rows.2.1.tidy sk) _)
              have HMM := Lib.hid hM
              clear hr8 htd hM
              go_wp2_with fail
              refine HLN.out.mono ?_
              rintro e w8' ⟨rfl, rfl⟩
              go_wp2_with fail
              refine HGT.out.mono ?_
              rintro e w9 ⟨c2, rfl, hc2, hb9⟩
              have H9 : Hid (Row w9 s 76 [.string ck, .string cv, .bool cg] ∧ StW (fun k => k < w.heap.size ∨ k = s) w9 sp lp mp p (n2 + 1) g1 D1 (apply1 M ⟨ck, cv, cg⟩) ∧ Below w.heap.size w w9 ∧ Room g1 D1 (2 * j + 1)) := Lib.hid
                ⟨H8.out.1.below hb9 H8.out.1.lt, H8.out.2.1.below hb9, H8.out.2.2.1.trans (hb9.mono H8.out.2.2.1.size), H8.out.2.2.2⟩
              have x0 := H9.out.1.cell 0
              have x1 := H9.out.1.cell 1
              have x2 := H9.out.1.cell 2
              simp only [List.getElem?_cons_zero, List.getElem?_cons_succ] at x0 x1 x2
              have HD2 := Lib.hid (stDo_one (HG.out.below H9.out.2.2.1) H9.out.2.1 (2 * j + 1) (by omega) H9.out.2.2.2 (by have := HR.out.2; omega) ⟨ck, cv, cg⟩ (small_most HSM.out) HF.out (fault_text HF.out))
              have HC2 := Lib.hid hc2
              obtain ⟨sz, hsz⟩ : ∃ x, Maps.size (apply1 M ⟨ck, cv, cg⟩) = x := ⟨_, rfl⟩
              rw [hsz]
              have HSZ := Lib.hid hsz
              obtain ⟨hM1, hM1e⟩ : ∃ x, Maps.has (apply1 M ⟨ck, cv, cg⟩) (kLit key) = x := ⟨_, rfl⟩
              rw [hM1e]
              obtain ⟨now, hnow⟩ : ∃ x, c2.val = x := ⟨_, rfl⟩
              rw [hnow]
              have HE := Lib.hid (And.intro hM1e hnow)
              clear hb9 hc2 HGT HLN hsz hM1e hnow
              have hway : (ck ≠ key ∧ now = was ∧ hM1 = th) ∨ (ck = key ∧ cg = true ∧ hM1 = false) ∨ (ck = key ∧ cg = false ∧ hM1 = true ∧ now = cv) := by
                by_cases hck : ck = key
                · subst hck
                  have hsm := app_same M HMM.out ⟨ck, cv, cg⟩
                  cases cg
                  · refine .inr (.inr ⟨rfl, rfl, HE.out.1.symm.trans hsm.1, ?_⟩)
                    have h := D_inj (HC2.out.symm.trans (hsm.2 rfl _))
                    rw [← HE.out.2, h]
                  · exact .inr (.inl ⟨rfl, rfl, HE.out.1.symm.trans hsm.1⟩)
                · have hot := app_other M ⟨ck, cv, cg⟩ key hck
                  refine .inl ⟨hck, ?_, HE.out.1.symm.trans (hot.1.trans HQ.out.2.2)⟩
                  have h := D_inj (HC2.out.symm.trans ((hot.2 _).trans HQ.out.1))
                  rw [← HE.out.2, h, HQ.out.2.1]
              clear HE HQ HC2 HMM
              rcases hway with ⟨hck, rfl, rfl⟩ | ⟨rfl, rfl, rfl⟩ | ⟨rfl, rfl, rfl, rfl⟩
              · have hne := str_ne hck
                have hse : (now.toList == now.toList) = true := by simp
                clear hck
                go_wp2_with fail
                refine HD2.out.mono ?_
                rintro e w10 ⟨rfl, g2, D2, hst10, hrm10, hk10⟩
                have hr10 := hst10.rows
                have hL10 := stLen_any w10 sp lp mp _ _ hr10.1 hr10.2.1
                rw [HTW.out, HSZ.out] at hL10
                have HL10 := Lib.hid hL10
                have H10 := Lib.hid (And.intro hst10 (And.intro hrm10 hk10))
                clear hst10 hrm10 hk10 hr10 hL10
                go_wp2_with fail
                refine HL10.out.mono ?_
                rintro e w11 ⟨rfl, rfl⟩
                go_wp2_with fail
                go_roundw
                case rel => exact ⟨j + 1, by omega, by go_num, Lib.hid ⟨n2 + 1 + 1, g2, D2, _, H10.out.1.grow (Below.refl _ _) (fun k hk => .inl (.inl hk)), H10.out.2.1.mono (by omega), by have := HR.out.2; omega, H9.out.2.2.1.trans (H10.out.2.2.below H9.out.2.2.1.size (fun k h => .inl h))⟩⟩
                case measure => simp [intOf]; omega
              · have hse : (ck.toList == ck.toList) = true := by simp
                go_wp2_with fail
                refine HD2.out.mono ?_
                rintro e w10 ⟨rfl, g2, D2, hst10, hrm10, hk10⟩
                have hr10 := hst10.rows
                have hL10 := stLen_any w10 sp lp mp _ _ hr10.1 hr10.2.1
                rw [HTW.out, HSZ.out] at hL10
                have HL10 := Lib.hid hL10
                have H10 := Lib.hid (And.intro hst10 (And.intro hrm10 hk10))
                clear hst10 hrm10 hk10 hr10 hL10
                go_wp2_with fail
                refine HL10.out.mono ?_
                rintro e w11 ⟨rfl, rfl⟩
                go_wp2_with fail
                go_roundw
                case rel => exact ⟨j + 1, by omega, by go_num, Lib.hid ⟨n2 + 1 + 1, g2, D2, _, H10.out.1.grow (Below.refl _ _) (fun k hk => .inl (.inl hk)), H10.out.2.1.mono (by omega), by have := HR.out.2; omega, H9.out.2.2.1.trans (H10.out.2.2.below H9.out.2.2.1.size (fun k h => .inl h))⟩⟩
                case measure => simp [intOf]; omega
              · have hse : (ck.toList == ck.toList) = true := by simp
                have hse2 : (now.toList == now.toList) = true := by simp
                go_wp2_with fail
                refine HD2.out.mono ?_
                rintro e w10 ⟨rfl, g2, D2, hst10, hrm10, hk10⟩
                have hr10 := hst10.rows
                have hL10 := stLen_any w10 sp lp mp _ _ hr10.1 hr10.2.1
                rw [HTW.out, HSZ.out] at hL10
                have HL10 := Lib.hid hL10
                have H10 := Lib.hid (And.intro hst10 (And.intro hrm10 hk10))
                clear hst10 hrm10 hk10 hr10 hL10
                go_wp2_with fail
                refine HL10.out.mono ?_
                rintro e w11 ⟨rfl, rfl⟩
                go_wp2_with fail
                go_roundw
                case rel => exact ⟨j + 1, by omega, by go_num, Lib.hid ⟨n2 + 1 + 1, g2, D2, _, H10.out.1.grow (Below.refl _ _) (fun k hk => .inl (.inl hk)), H10.out.2.1.mono (by omega), by have := HR.out.2; omega, H9.out.2.2.1.trans (H10.out.2.2.below H9.out.2.2.1.size (fun k h => .inl h))⟩⟩
                case measure => simp [intOf]; omega
            · have HD1 := Lib.hid (stDo_bad H7.out.2.1 HR.out.1.err ⟨ck, cv, cg⟩ (by have := HSM.out.1; omega) (by have := HSM.out.2; omega) hf)
              obtain ⟨F, hF⟩ : ∃ F, CH.fault ⟨ck, cv, cg⟩ = F := ⟨_, rfl⟩
              rw [hF] at HD1 hf
              have hbn : (F == 0) = false := by rw [beq_eq_false_iff_ne]; exact hf
              have hbn2 : (F != 0) = true := by rw [bne_iff_ne]; exact hf
              clear hF
              go_wp2_with fail
              refine HD1.out.mono ?_
              rintro e w8 ⟨rfl, hb8⟩
              have HB8 := Lib.hid hb8
              clear hb8
              go_wp2_with fail
              go_roundw
              case rel => exact ⟨j + 1, by omega, by go_num, Lib.hid ⟨n2, g, D, M, (H7.out.2.1.below HB8.out).grow (Below.refl _ _) (fun k hk => .inl (.inl hk)), HR.out.1.mono (by omega), by have := HR.out.2; omega, H7.out.2.2.trans (HB8.out.mono H7.out.2.2.size)⟩⟩
              case measure => simp [intOf]; omega
          · have hnlt : ¬ (j : Int) < (n : Int) := by omega
            have HW2 : Hid (∃ n2 g D M, ApR w wr sp lp mp p j n2 g D M) := HW
            have HDN : Hid (Calls Tryz.prog 33 #[.pointer (some ⟨sp, 0, none⟩), .slice none 0 0] wr fun e w' => e = .returned (.int .i64 0) ∧ wr = w') := Lib.hid (by
              obtain ⟨n2, g, D, M, hA⟩ := HW.out
              exact stDo_none hA.st hA.room.err)
            have HBW : Hid (Below w.heap.size w wr) := Lib.hid (by
              obtain ⟨n2, g, D, M, hA⟩ := HW.out
              exact hA.bel)
            go_wp2_with fail
            refine HDN.out.mono ?_
            rintro e w8 ⟨rfl, rfl⟩
            go_wp2_with fail
            go_ret
            exact ⟨rfl, HBW.out⟩
      · have hkI : (64 : Int) < (key.size : Int) := by omega
        go_wp2_with fail
        go_ret
        exact ⟨rfl, HB.out⟩
  · have hnI : (8 : Int) < (n : Int) := by omega
    go_wp2_with fail
    go_ret
    exact ⟨rfl, HA.out⟩
end Go.Proofs.YtiaaeniopjpfpaaGreatDoor
