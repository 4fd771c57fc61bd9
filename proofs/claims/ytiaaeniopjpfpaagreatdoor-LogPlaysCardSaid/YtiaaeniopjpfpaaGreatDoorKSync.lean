/- A disk's sync. -/
import Derived.Test.YtiaaeniopjpfpaaGreatDoorKPart
namespace Go.Proofs.YtiaaeniopjpfpaaGreatDoor
open Go.RowKit Go.Maps
set_option linter.unusedVariables false
set_option linter.unusedSimpArgs false

section
variable {L L' : Nat → Prop} {w w' : World} {p gl gm : Nat} {hv : Value} {Dm : DataW Unit} {D D' : DS}

set_option maxRecDepth 20000 in
set_option maxHeartbeats 1000000 in
theorem Sync_stop (h : DiskAt L w p gl gm hv Dm D) (hm : D.may = false) (hs : D.steps < 1000000000) :
    Calls Tryz.prog 90 #[.pointer (some ⟨p, 0, none⟩)] w fun e w' => e = .returned (.int .i64 D.stepErr) ∧ DiskIs L w' p D.synced ∧ Keeps L w w' := by
  have hse : D.stepErr = 13 := by unfold DS.stepErr; rw [hm]; rfl
  have e2 : D.synced = D.stepped := by unfold DS.synced; rw [if_neg (by rw [hm]; simp)]
  have HST := Lib.hid (step_any h hs)
  rw [hse] at HST ⊢
  rw [e2]
  clear h hm hs hse e2
  go_enter Tryz.func90, Tryz.ntmps90
  go_wp2_with fail
  refine HST.out.mono ?_
  rintro e w1 ⟨rfl, hd1, hk1⟩
  have HD := Lib.hid (And.intro hd1 hk1)
  clear hd1 hk1
  go_wp2_with fail
  go_ret
  exact ⟨rfl, ⟨_, _, _, _, HD.out.1⟩, HD.out.2⟩

theorem DiskAt.partly {E : DS} {w1 wr : World} {left : Lit → Bool} (hd1 : DiskAt L w1 p gl gm hv Dm E) (hgr : w1.grownBy wr (some gl)) (hrow : Row wr gl 90 ((partL E left).flatten.map bv))
    (hmp : wr.ownsMap Tryz.prog 3 (plainElem Tryz.prog 3) gm E.hangs.length Dm) : DiskAt L wr p gl gm hv Dm { E with lasts := partL E left } := by
  have hg := hd1.good
  have hlen := partL_length E left
  refine ⟨?_, hrow, own_kept hd1.han (fun q hq => hgr.block q (own_blk_lt hd1.han hq) (fun e => by injection e with e; subst e; exact hd1.ne_hl hq)), hmp, hd1.new, ⟨by rw [hlen]; exact hg.least, by rw [hlen]; exact hg.most, partL_rows E left hg, by rw [hlen]; exact hg.sect, hg.blks, hg.fuse1, hg.fuse2⟩, hd1.fp, hd1.fl, hd1.fm, hd1.fh⟩
  show Row wr p _ [.slice (some ⟨gl, 0, none⟩) (partL E left).length (partL E left).length, _, _, _, _, _]
  rw [hlen]
  exact (hgr.block p hd1.row.lt (fun e => by injection e with e; exact hd1.ne_lp e.symm)).trans hd1.row

set_option maxRecDepth 20000 in
set_option maxHeartbeats 1000000 in
theorem Sync_ok (hL : ∀ k, L k → k < w.heap.size) (h : DiskAt L w p gl gm hv Dm D) (hm : D.may = true) (hs : D.steps < 1000000000) (hh : D.hangs.length < 1000000000) :
    Calls Tryz.prog 90 #[.pointer (some ⟨p, 0, none⟩)] w fun e w' => e = .returned (.int .i64 D.stepErr) ∧ DiskIs L w' p D.synced ∧ Keeps L w w' := by
  have hse : D.stepErr = 0 := by unfold DS.stepErr; rw [hm]; rfl
  have hst := stepped_same D
  have e2 : D.synced = { D.stepped with lasts := D.stepped.settled, hangs := [] } := by
    unfold DS.synced
    rw [if_pos hm]
    unfold DS.settled
    rw [hst.1, hst.2]
  have HST := Lib.hid (step_any h hs)
  rw [hse] at HST ⊢
  rw [e2]
  have hhs : D.stepped.hangs.length < 1000000000 := by rw [hst.2]; exact hh
  obtain ⟨E, hE⟩ : ∃ E, D.stepped = E := ⟨_, rfl⟩
  rw [hE] at HST hhs ⊢
  have HLL := Lib.hid hL
  have HH := Lib.hid hhs
  clear h hm hs hse e2 hst hh hhs hE hL
  go_enter Tryz.func90, Tryz.ntmps90
  go_wp2_with fail
  refine HST.out.mono ?_
  rintro e w1 ⟨rfl, hd1, hk1⟩
  have c2 := hd1.row.cell 2
  simp only [List.getElem?_cons_zero, List.getElem?_cons_succ] at c2
  obtain ⟨n, hn⟩ : ∃ n, E.hangs.length = n := ⟨_, rfl⟩
  have hmp := hd1.mp
  rw [hn] at hmp
  have HM := Lib.hid hmp
  have HN := Lib.hid hn
  have HD := Lib.hid (And.intro hd1 hk1)
  clear hd1 hk1 hmp hn
  go_wp2_with (first
    | (at_range; refine wpList_range_own _ rfl (.tmp 16) 78 rfl 3 3 (int_keyed Tryz.underlying3) Tryz.underlying78 _ gm n Dm rfl HM.out ?_; intro w0 hrg0 hg0 hs0)
    | go_in)
  go_frame
  obtain ⟨r, hr⟩ : ∃ r, w1.heap.size = r := ⟨_, rfl⟩
  rw [hr] at hrg0 hs0 ⊢
  have HR0 := Lib.hid (And.intro hrg0 (And.intro hg0 hr))
  have HS0 : Hid (Row w0 gl 90 ((partL E (Maps.has Dm)).flatten.map bv) ∧ w1.grownBy w0 (some gl)) := Lib.hid ⟨by
    rw [partL_start E _ (fun i => (HD.out.1.new i).1)]
    exact (hg0.block gl HD.out.1.las.lt (by simp)).trans HD.out.1.las, hg0.but _⟩
  clear hrg0 hg0 hr hs0
  go_loopw [4] (fun _ wr => ∃ (left : Lit → Bool) (cnt : Nat), Hid (wr.ranges Tryz.prog 3 (plainElem Tryz.prog 3) gm r n Dm left cnt ∧ Row wr gl 90 ((partL E left).flatten.map bv) ∧ w1.grownBy wr (some gl)))
    (fun _ wr => wr.rangeLeft gm r)
  case atStart => exact ⟨_, _, Lib.hid ⟨HR0.out.1, HS0.out.1, HS0.out.2⟩⟩
  case round =>
    obtain ⟨left, cnt, HREL⟩ := hrel
    have hrg := HREL.out.1
    have HRG := Lib.hid hrg
    clear hrg
    go_wp2_with (first
      | (at_next; refine wpList_next_ranges_ii _ rfl (.tmp 17) rfl 3 3 .i64 .i64 (int_keyed Tryz.underlying3) Tryz.underlying3 Tryz.underlying3 gm r n Dm left cnt rfl HRG.out ?_ ?_)
      | go_in)
    · intro _ hl0
      have HL0 := Lib.hid hl0
      clear hl0
      have hdr : DiskAt L wr p gl gm hv Dm { E with lasts := E.settled } := by
        have h := HD.out.1.partly HREL.out.2.2 HREL.out.2.1 (by rw [HN.out]; exact HREL.out.1.owns)
        rwa [partL_end E left HL0.out] at h
      have HDR := Lib.hid (drop_any hdr)
      clear hdr
      go_wp2_with fail
      refine HDR.out.mono ?_
      rintro e wz ⟨rfl, hdz, hkz⟩
      have HZ := Lib.hid (And.intro hdz hkz)
      clear hdz hkz
      go_wp2
      go_ret
      refine ⟨rfl, ⟨_, _, _, _, HZ.out.1⟩, ?_⟩
      obtain ⟨hrg, hrow, hgr⟩ := HREL.out
      obtain ⟨hd1, hk1⟩ := HD.out
      exact (hk1.grown hgr (fun q hq => by injection hq with hq; subst hq; exact .inl hd1.fl)).trans HZ.out.2
    · intro x c w2 cnt2 hwx hwc hlx hat hrg2 hlt hg2 hs2 hen
      obtain ⟨j, hj⟩ : ∃ j, lastAt E.hangs x = some j := by
        have h1 := (HD.out.1.new x).1
        rw [has_true_of_atKey hat] at h1
        exact Option.isSome_iff_exists.1 h1.symm
      obtain rfl : c = (j : Int) := lit_inj ((hat (.lit (.int .i64 0))).symm.trans ((HD.out.1.new x).2 j hj _))
      obtain ⟨y, hy, hyx⟩ := lastAt_some hj
      obtain ⟨i, hi⟩ : ∃ i, y.1 = i := ⟨_, rfl⟩
      rw [hi] at hyx
      subst hyx
      have hil : i < E.lasts.length := by rw [← hi]; exact HD.out.1.good.sect y (List.mem_of_getElem? hy)
      have hyg : E.hangs.getD j (0, []) = y := by simp [List.getD, hy]
      have hgr2 : w1.grownBy w2 (some gl) := HREL.out.2.2.andThen hg2 (fun q hq => by injection hq with hq; subst hq; exact .inl (Nat.le_of_eq HR0.out.2.2))
      have hrow2 : Row w2 gl 90 ((partL E left).flatten.map bv) := (hg2.block gl HREL.out.2.1.lt (fun e => by
        injection e with e
        have h1 := HD.out.1.las.lt
        rw [HR0.out.2.2, e] at h1
        exact Nat.lt_irrefl _ h1)).trans HREL.out.2.1
      have hd2 := HD.out.1.partly hgr2 hrow2 (by rw [HN.out]; exact hrg2.owns)
      obtain ⟨gh, cap, rfl, hrng, hjl, hbl⟩ := hd2.hangRange j y hy
      have hth := hd2.lastThere i (by show i < (partL E left).length; rw [partL_length]; exact hil)
      obtain ⟨C, hC⟩ : ∃ C, y.2.map bv = C := ⟨_, rfl⟩
      have hCl : C.length = 128 := by rw [← hC, List.length_map, hbl]
      rw [hC] at hrng
      have hsz := blk_sizeK y.2 hbl
      rw [hC] at hsz
      obtain ⟨nl, hnl⟩ : ∃ nl, E.lasts.length = nl := ⟨_, rfl⟩
      obtain ⟨nh, hnh⟩ : ∃ nh, E.hangs.length = nh := ⟨_, rfl⟩
      obtain ⟨RC, HRC⟩ : ∃ RC, Hid (RC = [Value.slice (some ⟨gl, 0, none⟩) nl nl, .slice (some ⟨gh, 0, none⟩) nh cap, .map (some gm), .int .i64 E.fuse, .int .i64 (E.steps : Nat), .bool E.down]) := ⟨_, Lib.hid rfl⟩
      have hrp : Row w2 p 81 RC := by
        have h := hd2.row
        rw [HRC.out]
        have e1 : (partL E left).length = nl := by rw [partL_length, hnl]
        have e2 : ({ E with lasts := partL E left } : DS).lasts.length = nl := e1
        have e3 : ({ E with lasts := partL E left } : DS).hangs.length = nh := hnh
        rw [e2, e3] at h
        exact h
      have hiI : (i : Int) < (nl : Int) := by omega
      have hjI : (j : Int) < (nh : Int) := by have h : j < E.hangs.length := hjl; omega
      have hone : C.toArray.all (·.oneCell') = true := by rw [← hC]; exact blkV_one y.2
      have HC := Lib.hid (And.intro hsz (And.intro hCl (And.intro hone hC)))
      have HTH := Lib.hid hth
      have S0 : Row w2.drew p 81 RC ∧ w2.drew.rangeAt gh (j * 129 + 1) C := ⟨hrp.drew, hrng⟩
      have HX := Lib.hid (And.intro hj (And.intro hil (And.intro hyg (And.intro hgr2 (And.intro hrow2 (And.intro hrg2 (And.intro hlt (And.intro hbl hs2))))))))
      clear hat hj hy hi hil hyg hgr2 hrow2 hd2 hrng hjl hbl hth hCl hsz hnl hnh hrp hone hC hrg2 hlt hg2 hs2 hlx hwx hwc
      go_wp2_with fail
      refine wp_region_noPanic ?_
      refine region_held_last 14 (S := fun W => Row W p 81 RC ∧ W.rangeAt gh (j * 129 + 1) C) (by kernel_rfl) (by kernel_rfl) rfl S0 (fun hHeld => ?_)
      simp only [List.take_succ_cons, List.take_zero]
      refine wpAnyH_take (i := 0) (oi := { dst := some 23, op := Op.move (Operand.tmp 0), type := 24, pos := "disk.go:94", after := #[], guard := none }) (v := ?vva_0) rfl (by kernel_rfl) (by kernel_rfl) (by kernel_rfl) (fun _ _ _ h => h) (Or.inl ⟨by rfl, ?yya_0⟩) hHeld ?_
      case vva_0 => exact .pointer (some ⟨p, 0, none⟩)
      case yya_0 =>
        intro W hS
        go_simp
      try simp only [Act.put, List.setIfInBounds_toArray, List.set_cons_zero, List.set_cons_succ]
      refine wpAnyH_take (i := 1) (oi := { dst := some 24, op := Op.nilCheck (Operand.tmp 23), type := 0, pos := "disk.go:94", after := #[{ on := 0, ground := Ground.data }], guard := none }) (v := ?vva_1) rfl (by kernel_rfl) (by kernel_rfl) (by kernel_rfl) (fun _ _ _ h => h) (Or.inl ⟨by rfl, ?yya_1⟩) hHeld ?_
      case vva_1 => exact .pointer (some ⟨p, 0, none⟩)
      case yya_1 =>
        intro W hS
        go_simp
      try simp only [Act.put, List.setIfInBounds_toArray, List.set_cons_zero, List.set_cons_succ]
      refine wpAnyH_take (i := 2) (oi := { dst := some 25, op := Op.fieldAddr 81 (Operand.tmp 24) 0, type := 0, pos := "disk.go:94", after := #[{ on := 1, ground := Ground.data }], guard := none }) (v := ?vva_2) rfl (by kernel_rfl) (by kernel_rfl) (by kernel_rfl) (fun _ _ _ h => h) (Or.inl ⟨by rfl, ?yya_2⟩) hHeld ?_
      case vva_2 => exact .pointer (some ⟨p, 0, none⟩)
      case yya_2 =>
        intro W hS
        go_simp
      try simp only [Act.put, List.setIfInBounds_toArray, List.set_cons_zero, List.set_cons_succ]
      refine wpAnyH_take (i := 3) (oi := { dst := some 26, op := Op.load 42 (Operand.tmp 25), type := 42, pos := "disk.go:94", after := #[{ on := 2, ground := Ground.data }], guard := none }) (v := ?vva_3) rfl (by kernel_rfl) (by kernel_rfl) (by kernel_rfl) (fun _ _ _ h => h) (Or.inl ⟨by rfl, ?yya_3⟩) hHeld ?_
      case vva_3 => exact .slice (some ⟨gl, 0, none⟩) nl nl
      case yya_3 =>
        intro W hS
        obtain ⟨s1, s2⟩ := hS
        have q0 := s1.cell 0
        have q1 := s1.cell 1
        simp only [HRC.out, List.getElem?_cons_zero, List.getElem?_cons_succ] at q0 q1
        go_simp
      try simp only [Act.put, List.setIfInBounds_toArray, List.set_cons_zero, List.set_cons_succ]
      refine wpAnyH_take (i := 4) (oi := { dst := some 27, op := Op.move (Operand.tmp 4), type := 3, pos := "disk.go:94", after := #[], guard := none }) (v := ?vva_4) rfl (by kernel_rfl) (by kernel_rfl) (by kernel_rfl) (fun _ _ _ h => h) (Or.inl ⟨by rfl, ?yya_4⟩) hHeld ?_
      case vva_4 => exact .int .i64 i
      case yya_4 =>
        intro W hS
        go_simp
      try simp only [Act.put, List.setIfInBounds_toArray, List.set_cons_zero, List.set_cons_succ]
      refine wpAnyH_take (i := 5) (oi := { dst := some 28, op := Op.move (Operand.tmp 0), type := 24, pos := "disk.go:94", after := #[], guard := none }) (v := ?vva_5) rfl (by kernel_rfl) (by kernel_rfl) (by kernel_rfl) (fun _ _ _ h => h) (Or.inl ⟨by rfl, ?yya_5⟩) hHeld ?_
      case vva_5 => exact .pointer (some ⟨p, 0, none⟩)
      case yya_5 =>
        intro W hS
        go_simp
      try simp only [Act.put, List.setIfInBounds_toArray, List.set_cons_zero, List.set_cons_succ]
      refine wpAnyH_take (i := 6) (oi := { dst := some 29, op := Op.nilCheck (Operand.tmp 28), type := 0, pos := "disk.go:94", after := #[{ on := 5, ground := Ground.data }], guard := none }) (v := ?vva_6) rfl (by kernel_rfl) (by kernel_rfl) (by kernel_rfl) (fun _ _ _ h => h) (Or.inl ⟨by rfl, ?yya_6⟩) hHeld ?_
      case vva_6 => exact .pointer (some ⟨p, 0, none⟩)
      case yya_6 =>
        intro W hS
        go_simp
      try simp only [Act.put, List.setIfInBounds_toArray, List.set_cons_zero, List.set_cons_succ]
      refine wpAnyH_take (i := 7) (oi := { dst := some 30, op := Op.fieldAddr 81 (Operand.tmp 29) 1, type := 0, pos := "disk.go:94", after := #[{ on := 6, ground := Ground.data }], guard := none }) (v := ?vva_7) rfl (by kernel_rfl) (by kernel_rfl) (by kernel_rfl) (fun _ _ _ h => h) (Or.inl ⟨by rfl, ?yya_7⟩) hHeld ?_
      case vva_7 => exact .pointer (some ⟨p, 1, none⟩)
      case yya_7 =>
        intro W hS
        go_simp
      try simp only [Act.put, List.setIfInBounds_toArray, List.set_cons_zero, List.set_cons_succ]
      refine wpAnyH_take (i := 8) (oi := { dst := some 31, op := Op.load 79 (Operand.tmp 30), type := 79, pos := "disk.go:94", after := #[{ on := 7, ground := Ground.data }], guard := none }) (v := ?vva_8) rfl (by kernel_rfl) (by kernel_rfl) (by kernel_rfl) (fun _ _ _ h => h) (Or.inl ⟨by rfl, ?yya_8⟩) hHeld ?_
      case vva_8 => exact .slice (some ⟨gh, 0, none⟩) nh cap
      case yya_8 =>
        intro W hS
        obtain ⟨s1, s2⟩ := hS
        have q0 := s1.cell 0
        have q1 := s1.cell 1
        simp only [HRC.out, List.getElem?_cons_zero, List.getElem?_cons_succ] at q0 q1
        go_simp
      try simp only [Act.put, List.setIfInBounds_toArray, List.set_cons_zero, List.set_cons_succ]
      refine wpAnyH_take (i := 9) (oi := { dst := some 32, op := Op.move (Operand.tmp 5), type := 3, pos := "disk.go:94", after := #[], guard := none }) (v := ?vva_9) rfl (by kernel_rfl) (by kernel_rfl) (by kernel_rfl) (fun _ _ _ h => h) (Or.inl ⟨by rfl, ?yya_9⟩) hHeld ?_
      case vva_9 => exact .int .i64 j
      case yya_9 =>
        intro W hS
        go_simp
      try simp only [Act.put, List.setIfInBounds_toArray, List.set_cons_zero, List.set_cons_succ]
      refine wpAnyH_take (i := 10) (oi := { dst := some 33, op := Op.indexAddr 79 (Operand.tmp 31) (Operand.tmp 32), type := 0, pos := "disk.go:94", after := #[{ on := 8, ground := Ground.data }, { on := 9, ground := Ground.data }], guard := none }) (v := ?vva_10) rfl (by kernel_rfl) (by kernel_rfl) (by kernel_rfl) (fun _ _ _ h => h) (Or.inl ⟨by rfl, ?yya_10⟩) hHeld ?_
      case vva_10 => exact .pointer (some ⟨gh, j * 129, none⟩)
      case yya_10 =>
        intro W hS
        go_simp
      try simp only [Act.put, List.setIfInBounds_toArray, List.set_cons_zero, List.set_cons_succ]
      refine wpAnyH_take (i := 11) (oi := { dst := some 34, op := Op.fieldAddr 142 (Operand.tmp 33) 1, type := 0, pos := "disk.go:94", after := #[{ on := 10, ground := Ground.data }], guard := none }) (v := ?vva_11) rfl (by kernel_rfl) (by kernel_rfl) (by kernel_rfl) (fun _ _ _ h => h) (Or.inl ⟨by rfl, ?yya_11⟩) hHeld ?_
      case vva_11 => exact .pointer (some ⟨gh, j * 129 + 1, none⟩)
      case yya_11 =>
        intro W hS
        go_simp
      try simp only [Act.put, List.setIfInBounds_toArray, List.set_cons_zero, List.set_cons_succ]
      refine' wpAnyH_take (i := 12) (oi := { dst := some 35, op := Op.load 90 (Operand.tmp 34), type := 90, pos := "disk.go:94", after := #[{ on := 11, ground := Ground.data }], guard := none }) (v := _) rfl (by kernel_rfl) (by kernel_rfl) (by kernel_rfl) (fun _ _ _ h => h) (yieldsIf_load_mid (by rfl) _ _ rfl gh (j * 129 + 1) rfl C _ (fun W h => h.2) Tryz.underlying90 rfl HC.out.1) hHeld ?_
      try simp only [Act.put, List.setIfInBounds_toArray, List.set_cons_zero, List.set_cons_succ]
      refine wpAnyH_take (i := 13) (oi := { dst := some 36, op := Op.indexAddr 42 (Operand.tmp 26) (Operand.tmp 27), type := 0, pos := "disk.go:94", after := #[{ on := 3, ground := Ground.data }, { on := 4, ground := Ground.data }, { on := 0, ground := Ground.phase }, { on := 1, ground := Ground.phase }, { on := 2, ground := Ground.phase }, { on := 3, ground := Ground.phase }, { on := 4, ground := Ground.phase }, { on := 5, ground := Ground.phase }, { on := 6, ground := Ground.phase }, { on := 7, ground := Ground.phase }, { on := 8, ground := Ground.phase }, { on := 9, ground := Ground.phase }, { on := 10, ground := Ground.phase }, { on := 11, ground := Ground.phase }, { on := 12, ground := Ground.phase }], guard := none }) (v := ?vva_13) rfl (by kernel_rfl) (by kernel_rfl) (by kernel_rfl) (fun _ _ _ h => h) (Or.inl ⟨by rfl, ?yya_13⟩) hHeld ?_
      case vva_13 => exact .pointer (some ⟨gl, i * 128, none⟩)
      case yya_13 =>
        intro W hS
        go_simp
      try simp only [Act.put, List.setIfInBounds_toArray, List.set_cons_zero, List.set_cons_succ]
      refine wpAnyH_done (by kernel_rfl) ?_ _
      show wpList _ _ _ [_] _ _
      refine wpList_store_mid rfl 90 (.tmp 36) (.tmp 35) rfl gl (i * 128) C.toArray rfl rfl (by rw [List.size_toArray, HC.out.2.1]; exact HTH.out) (by rw [List.size_toArray]; exact HC.out.1) HC.out.2.2.1 ?_
      show NoPanic _ Exit.normal _ _
      refine NoPanic.normal ?_
      try simp only [Act.put, List.setIfInBounds_toArray, List.set_cons_zero, List.set_cons_succ, List.toList_toArray]
      obtain ⟨hj, hil, hyg, hgr2, hrow2, hrg2, hlt, hbl, hs2⟩ := HX.out
      have hsg := setCells_grown w2.drew gl (i * 128) C
      have hrgD : w2.drew.ranges Tryz.prog 3 (plainElem Tryz.prog 3) gm r n Dm (fun z => left z && !z.sameKey (.int .i64 (i : Nat))) cnt2 := hrg2
      have hrN : r ≠ gl := fun e => by
        have h1 := HD.out.1.las.lt
        rw [HR0.out.2.2, e] at h1
        exact Nat.lt_irrefl _ h1
      have hrg3 := hrgD.kept hsg (fun e => HD.out.1.ne_ml (by injection e)) (fun e => hrN (by injection e))
      have hrow3 : Row (w2.drew.setCells gl (i * 128) C) gl 90 ((partL E (fun z => left z && !z.sameKey (.int .i64 (i : Nat)))).flatten.map bv) := by
        have h := Row.sector (Row.drew hrow2) (partL_rows E left HD.out.1.good) i (by rw [partL_length]; exact hil) y.2 hbl
        rw [partL_step E left i j hj, hyg, ← HC.out.2.2.2]
        exact h
      have hgr2d : w1.grownBy w2.drew (some gl) := ⟨hgr2.os, hgr2.tape, hgr2.output, hgr2.size, hgr2.block⟩
      have hgr3 := hgr2d.andThen hsg (fun q hq => .inr hq)
      have HFIN := Lib.hid (And.intro hrg3 (And.intro hrow3 hgr3))
      have HLT := Lib.hid hlt
      clear hj hil hyg hgr2 hrow2 hrg2 hlt hbl hs2 hsg hrgD hrN hrg3 hrow3 hgr2d hgr3 S0 hHeld
      go_wp2_with fail
      go_roundw
      case rel => exact ⟨_, cnt2, HFIN⟩
      case measure => rw [HFIN.out.1.left_eq, HRG.out.left_eq]; exact HLT.out

theorem Sync_any (hL : ∀ k, L k → k < w.heap.size) (h : DiskAt L w p gl gm hv Dm D) (hs : D.steps < 1000000000) (hh : D.hangs.length < 1000000000) :
    Calls Tryz.prog 90 #[.pointer (some ⟨p, 0, none⟩)] w fun e w' => e = .returned (.int .i64 D.stepErr) ∧ DiskIs L w' p D.synced ∧ Keeps L w w' := by
  by_cases hm : D.may = true
  · exact Sync_ok hL h hm hs hh
  · exact Sync_stop h (by simpa using hm) hs
end
end Go.Proofs.YtiaaeniopjpfpaaGreatDoor
