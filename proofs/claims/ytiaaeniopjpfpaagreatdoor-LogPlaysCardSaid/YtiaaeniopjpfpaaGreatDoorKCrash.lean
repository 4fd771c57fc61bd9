/- A disk's power goes, and comes again. -/
import Derived.Test.YtiaaeniopjpfpaaGreatDoorKSync
namespace Go.Proofs.YtiaaeniopjpfpaaGreatDoor
open Go.RowKit Go.Maps
set_option linter.unusedVariables false
set_option linter.unusedSimpArgs false

theorem wp_copy_cells {P : Program} {o : Oper} {a : Act} {w : World} {K : Act → World → Prop} {Q : Exit → Act → World → Prop} (d s : Operand) (dT sT : TypeId)
    (ho : o.op = .call { callee := .builtin .copy, args := #[d, s], argTypes := #[dT, sT] }) (elem : TypeId) (hu : P.underlying dT = some (.slice elem)) (hsz : (P.info? elem).map (·.size) = some 1)
    (b off dLen dCap : Nat) (ad : Addr) (sLen sCap : Nat) (hd : a.eval d = .slice (some ⟨b, off, none⟩) dLen dCap) (hs : a.eval s = .slice (some ad) sLen sCap) (cs : List Value) (hn : cs.length = Nat.min sLen dLen)
    (hsrc : ∀ j v, cs[j]? = some v → w.cell? (ad.add j) = some v) (ht : w.there b off cs.length) (h1 : ∀ v ∈ cs, v.oneCell' = true)
    (h : K (a.put o.dst (.int .i64 (cs.length : Nat))) (w.setCells b off cs)) : o.wp P a w K Q := by
  have hrun := run_copy_cells (P := P) w dT sT o.type elem b off dLen dCap ad sLen sCap cs hu hsz hn hsrc (fun j hj => (ht j hj).1) (fun j hj => (ht j hj).2) h1
  unfold Oper.wp execOp
  simp only [ho, resolve, invoke, builtin, Sem.run_bind, Sem.run_pure, Result.andThen_ok, List.map_toArray, List.map_cons, List.map_nil, hd, hs, hrun]
  exact h

theorem kept_nil (l : List (List UInt8)) (k : Int) : kept [] l k = l := rfl
theorem kept_stop (x : Nat × List UInt8) (r : List (Nat × List UInt8)) (l : List (List UInt8)) (k : Int) (h : k < 1) : kept (x :: r) l k = l := by unfold kept; rw [if_pos h]
theorem kept_go (x : Nat × List UInt8) (r : List (Nat × List UInt8)) (l : List (List UInt8)) (k : Int) (m : Nat) (h : ¬ k < 1) (hm : (m : Int) = min k 128) :
    kept (x :: r) l k = kept r (l.set x.1 (x.2.take m ++ (l.getD x.1 []).drop m)) (k - m) := by
  have e : (min k 128).toNat = m := by omega
  rw [kept, if_neg h, e, ← hm]
/-- The first bytes of a sector laid anew. -/
theorem Row.begun {w : World} {g : Nat} {t : TypeId} {l : List (List UInt8)} (h : Row w g t (l.flatten.map bv)) (hl : ∀ b ∈ l, b.length = 128) (i : Nat) (hi : i < l.length) (b : List UInt8) (m : Nat) (hm : m ≤ 128) (hb : b.length = 128) :
    Row (w.setCells g (i * 128) ((b.take m).map bv)) g t ((l.set i (b.take m ++ (l.getD i []).drop m)).flatten.map bv) := by
  have hfl := flat_length l hl
  have hgl := getD_len hl hi
  have hbm : (b.take m).length = m := by rw [List.length_take]; omega
  have h1 := Row.sets (w := w) ((b.take m).map bv) (i * 128) h (by rw [List.length_map, List.length_map, hfl, hbm]; omega)
  rw [flat_set l hl i hi _ (by rw [List.length_append, hbm, List.length_drop, hgl]; omega)]
  rw [List.length_map, hbm] at h1
  have e : (l.flatten.map bv).drop (i * 128 + m) = ((l.getD i []).drop m ++ l.flatten.drop (i * 128 + 128)).map bv := by
    rw [List.map_append, List.map_drop, List.map_drop, ← flat_mid l hl i hi]
    apply List.ext_getElem?
    intro j
    by_cases hj : j < 128 - m
    · rw [List.getElem?_append_left (by rw [List.length_drop, List.length_take, List.length_drop, List.length_map, hfl]; omega), List.getElem?_drop, List.getElem?_drop, List.getElem?_take, if_pos (by omega), List.getElem?_drop]
      congr 1
      omega
    · have hlen : (((l.flatten.map bv).drop (i * 128)).take 128).length = 128 := by rw [List.length_take, List.length_drop, List.length_map, hfl]; omega
      rw [List.getElem?_append_right (by rw [List.length_drop, hlen]; omega), List.length_drop, hlen, List.getElem?_drop, List.getElem?_drop]
      congr 1
      omega
  rw [e] at h1
  simpa [List.map_take, List.map_drop] using h1

section
variable {L L' : Nat → Prop} {w w' : World} {p gl gm : Nat} {hv : Value} {Dm : DataW Unit} {D D' : DS}
theorem DiskAt.hangWhole {a : Option Addr} {n c : Nat} (h : DiskAt L w p gl gm (.slice a n c) Dm D) (i : Nat) (x : Nat × List UInt8) (hx : D.hangs[i]? = some x) :
    ∃ g, a = some ⟨g, 0, none⟩ ∧ w.rangeAt g (i * 129) (wcells x) ∧ g ≠ gl := by
  have hil : i < D.hangs.length := (List.getElem?_eq_some_iff.1 hx).1
  have hxl : x.2.length = 128 := h.good.blks x (List.mem_of_getElem? hx)
  obtain ⟨g, cap, e, _, hlt⟩ := h.han.form (by omega)
  have ha : a = some ⟨g, 0, none⟩ := by injection e
  subst ha
  refine ⟨g, rfl, fun j v hj => ?_, fun e2 => h.ne_hl (by rw [← e2]; rfl)⟩
  have hj' : j < 129 := by rw [← wcells_length hxl]; exact (List.getElem?_eq_some_iff.1 hj).1
  have hg := wcs_get D.hangs h.good.blks i j x hx hj'
  have hc := h.han.cells (g := g) rfl (i * 129 + j) v (by rw [hg]; exact hj)
  simpa [Addr.add_mid] using hc
/-- What lasts is another thing, all else is as it was. -/
theorem DiskAt.lasting {w1 wr : World} {ls : List (List UInt8)} (hd1 : DiskAt L w1 p gl gm hv Dm D) (hgr : w1.grownBy wr (some gl)) (hrow : Row wr gl 90 (ls.flatten.map bv)) (hlen : ls.length = D.lasts.length) (h128 : ∀ b ∈ ls, b.length = 128) :
    DiskAt L wr p gl gm hv Dm { D with lasts := ls } := by
  have hg := hd1.good
  refine ⟨?_, hrow, own_kept hd1.han (fun q hq => hgr.block q (own_blk_lt hd1.han hq) (fun e => by injection e with e; subst e; exact hd1.ne_hl hq)), map_kept hd1.mp (hgr.block gm hd1.mp.lt (fun e => hd1.ne_ml (by injection e))), hd1.new, ⟨by rw [hlen]; exact hg.least, by rw [hlen]; exact hg.most, h128, by rw [hlen]; exact hg.sect, hg.blks, hg.fuse1, hg.fuse2⟩, hd1.fp, hd1.fl, hd1.fm, hd1.fh⟩
  show Row wr p _ [.slice (some ⟨gl, 0, none⟩) ls.length ls.length, _, _, _, _, _]
  rw [hlen]
  exact (hgr.block p hd1.row.lt (fun e => by injection e with e; exact hd1.ne_lp e.symm)).trans hd1.row

/-- The loop's relation. -/
structure CrR (D : DS) (gl : Nat) (w wr : World) (keep : Int) (k : Nat) (K : Int) (cur : List (List UInt8)) : Prop where
  b1 : -9223372036854775808 ≤ K
  b2 : K ≤ 9223372036854775807
  inv : kept (D.hangs.drop k) cur K = kept D.hangs D.lasts keep
  len : cur.length = D.lasts.length
  r128 : ∀ b ∈ cur, b.length = 128
  row : Row wr gl 90 (cur.flatten.map bv)
  gr : w.grownBy wr (some gl)

set_option maxRecDepth 20000 in
set_option maxHeartbeats 1000000 in
theorem Crash_any (hL : ∀ k, L k → k < w.heap.size) (h : DiskAt L w p gl gm hv Dm D) (keep : Int) (hk1 : -9223372036854775808 ≤ keep) (hk2 : keep ≤ 9223372036854775807) (hh : D.hangs.length < 1000000000) :
    Calls Tryz.prog 111 #[.pointer (some ⟨p, 0, none⟩), .int .i64 keep] w fun e w' => e = .returned (.tuple #[]) ∧ DiskIs L w' p (D.crashed keep) ∧ Keeps L w w' := by
  obtain ⟨a, c, rfl⟩ := own_slice h.han
  obtain ⟨n, hn⟩ : ∃ n, D.hangs.length = n := ⟨_, rfl⟩
  have c1 := h.row.cell 1
  simp only [List.getElem?_cons_zero, List.getElem?_cons_succ] at c1
  rw [hn] at c1 hh
  have H := Lib.hid h
  have HN := Lib.hid (And.intro hn hh)
  have HR0 : Hid (CrR D gl w w keep 0 keep D.lasts) := Lib.hid ⟨hk1, hk2, rfl, rfl, h.good.rows, h.las, World.grownBy.refl w _⟩
  have hz := (zero_of_info zW_info).1
  have hnI : (n : Int) < 1000000000 := by omega
  clear h hn hh hk1 hk2 hL
  go_enter Tryz.func111, Tryz.ntmps111
  go_wp2_with fail
  go_loopw [1, 13] (fun t i wr => ∃ (k : Nat) (K : Int) (cur : List (List UInt8)), k ≤ n ∧ t = .int .i64 K ∧ i = .int .i64 k ∧ Hid (CrR D gl w wr keep k K cur)) (fun _ i _ => n - (intOf i).toNat)
  case atStart => exact ⟨0, keep, _, Nat.zero_le _, rfl, rfl, HR0⟩
  case round =>
    obtain ⟨k, K, cur, hkn, rfl, rfl, HREL⟩ := hrel
    have fin : Hid (∀ (W : World), wr.grownBy W none → kept (D.hangs.drop k) cur K = cur → DiskAt L W p gl gm (.slice a n c) Dm { D with lasts := kept D.hangs D.lasts keep } ∧ Keeps L w W) := Lib.hid fun W hW he => by
      obtain ⟨b1, b2, inv, len, r128, row, gr⟩ := HREL.out
      have e : kept D.hangs D.lasts keep = cur := by rw [← inv, he]
      rw [e]
      have hh := H.out
      rw [HN.out.1] at hh
      have hgr : w.grownBy W (some gl) := gr.andThen hW (fun q hq => by cases hq)
      exact ⟨hh.lasting hgr ((hW.block gl row.lt (by simp)).trans row) len r128, (Keeps.refl L w).grown hgr (fun q hq => by injection hq with hq; subst hq; exact .inl hh.fl)⟩
    have tailF : Hid (∀ wz : World, DiskAt L wz p gl gm (.slice none 0 0) (.map []) { D with lasts := kept D.hangs D.lasts keep, hangs := [] } → Keeps L w wz →
        DiskIs L ((wz.setCell ⟨p, 5, none⟩ (.bool false)).setCell ⟨p, 3, none⟩ (.int .i64 (-1))) p (D.crashed keep) ∧ Keeps L w ((wz.setCell ⟨p, 5, none⟩ (.bool false)).setCell ⟨p, 3, none⟩ (.int .i64 (-1)))) := Lib.hid fun wz hdz hkz => by
      refine ⟨⟨gl, gm, .slice none 0 0, .map [], hdz.rowed (D' := D.crashed keep) rfl rfl (by show _ ≤ (-1 : Int); omega) (by show (-1 : Int) ≤ _; omega) ?_ (fun g hg => ?_)⟩, (hkz.setCell (p := ⟨p, 5, none⟩) (.inl hdz.fp) _).setCell (p := ⟨p, 3, none⟩) (.inl hdz.fp) _⟩
      · have := (hdz.row.set 5 (.bool false)).set 3 (.int .i64 (-1))
        simp only [List.set_cons_succ, List.set_cons_zero] at this
        exact this
      · rw [Below.heap_setCell _ _ _ _ hg.symm, Below.heap_setCell _ _ _ _ hg.symm]
    by_cases hlt : k < n
    · obtain ⟨x, hx⟩ : ∃ x, D.hangs[k]? = some x := ⟨_, List.getElem?_eq_getElem (by rw [HN.out.1]; exact hlt)⟩
      have hdrop : D.hangs.drop k = x :: D.hangs.drop (k + 1) := by
        rw [List.drop_eq_getElem_cons (by rw [HN.out.1]; exact hlt)]
        congr 1
        have := (List.getElem?_eq_some_iff.1 hx).2
        exact this
      have hh := H.out
      rw [HN.out.1] at hh
      obtain ⟨gh, rfl, hrng0, hne⟩ := hh.hangWhole k x hx
      have hxl := hh.good.blks x (List.mem_of_getElem? hx)
      have hxs := hh.good.sect x (List.mem_of_getElem? hx)
      have hgh : gh < w.heap.size := own_blk_lt hh.han rfl
      have hgrw := HREL.out.gr
      have hrng : wr.rangeAt gh (k * 129) (wcells x) := fun j v hj => by
        rw [World.cell?_of_block (hgrw.block gh hgh (fun e => hne (by injection e)))]
        exact hrng0 j v hj
      have hwl := wcells_length hxl
      obtain ⟨q, hq⟩ : ∃ q, wr.heap.size = q := ⟨_, rfl⟩
      have hz129 : (Value.int IntKind.i64 0 :: zW).length = 129 := by simp [zW]
      have rq0 := Row.new wr 142 (.int .i64 0 :: zW)
      have hW0 : wr.grownBy (wr.alloc (.cells (.int .i64 0 :: zW).toArray 142)) none := World.grownBy_alloc wr _ _
      rw [hq] at rq0
      have rq1 := rq0.put (wcells x)
      have hW1 : wr.grownBy ((wr.alloc (.cells (.int .i64 0 :: zW).toArray 142)).setRow q (wcells x).toArray) none :=
        ⟨hW0.os, hW0.tape, hW0.output, by simp [World.setRow], fun j hj hne2 => (setRow_other _ q j _ (fun e => by omega)).trans (hW0.block j hj hne2)⟩
      have hwsz : (Tryz.prog.info? 142).map (·.size) = some (wcells x).length := by rw [hwl]; exact write_size
      have hwone : (wcells x).toArray.all (·.oneCell') = true := by
        rw [Array.all_eq_true_iff_forall_mem]
        intro v hv
        have hv2 : v ∈ wcells x := by simpa using hv
        exact wcs_one [x] v (by simpa [wcs] using hv2)
      have hltI : (k : Int) < (n : Int) := by omega
      obtain ⟨WC, hWC⟩ : ∃ WC, wcells x = WC := ⟨_, rfl⟩
      rw [hWC] at hrng rq1 hW1 hwsz hwone hwl
      have HX := Lib.hid (And.intro hx (And.intro hdrop (And.intro hxl (And.intro hxs (And.intro hWC hlt)))))
      have HW := Lib.hid (And.intro hrng (And.intro hwsz (And.intro hwone (And.intro rq0 (And.intro hwl hz129)))))
      have HQ := Lib.hid (And.intro rq1 (And.intro hW1 hq))
      clear hx hdrop hh hrng0 hne hxl hxs hgh hgrw hrng hwl hz129 rq0 rq1 hW0 hW1 hwsz hwone hWC hq
      by_cases hK : K < 1
      · go_wp2_with (first
          | (with_reducible refine wpList_load_mid rfl 142 (.tmp 15) rfl gh (k * 129) rfl WC _ HW.out.1 Tryz.underlying142 rfl HW.out.2.1 ?_)
          | (refine wpList_store_row rfl 142 (.tmp 5) (.tmp 16) rfl wr.heap.size WC.toArray rfl rfl 142 (.int .i64 0 :: zW).toArray (by rw [HQ.out.2.2]; exact HW.out.2.2.2.1) (by rw [List.size_toArray]; exact HW.out.2.1) (by rw [List.size_toArray, List.size_toArray, HW.out.2.2.2.2.1, HW.out.2.2.2.2.2]) HW.out.2.2.1 ?_)
          | fail)
        rw [HQ.out.2.2]
        have HF := fin.out _ HQ.out.2.1 (by rw [HX.out.2.1]; exact kept_stop _ _ _ _ hK)
        have HDR := Lib.hid (drop_any HF.1)
        refine HDR.out.mono ?_
        rintro e wz ⟨rfl, hdz, hkz⟩
        have c5 := hdz.row.cell 5
        have c3 := hdz.row.cell 3
        have f5 := hdz.row.frozen 5
        have f3 := hdz.row.frozen 3
        simp only [List.getElem?_cons_zero, List.getElem?_cons_succ] at c5 c3
        have HZ := Lib.hid (tailF.out wz hdz (HF.2.trans hkz))
        clear hdz hkz HDR HF
        go_wp2
        go_end0
        exact ⟨rfl, HZ.out.1, HZ.out.2⟩
      · obtain ⟨m, hm⟩ : ∃ m : Nat, (m : Int) = min K 128 := ⟨(min K 128).toNat, by have := HREL.out.b2; omega⟩
        have hm1 : 1 ≤ m := by omega
        have hm2 : m ≤ 128 := by omega
        have hmK : (m : Int) ≤ K := by omega
        have hMin : ∀ (W : World) (ts : Array TypeId) (t : TypeId), (Builtin.min_ ts t #[.int .i64 K, .int .i64 128]).run Tryz.prog W = .ok (.int .i64 (m : Int)) W := fun W ts t => by
          rw [hm]
          have e : ∀ x y : Int, (if y < x then y else x) = min x y := by intro x y; split <;> omega
          simp [Builtin.min_, Builtin.min2, e]
          try omega
        have HM := Lib.hid (And.intro hm (And.intro hm1 (And.intro hm2 hmK)))
        have HKB := Lib.hid (And.intro HREL.out.b1 HREL.out.b2)
        have hm2I : (m : Int) ≤ 128 := by omega
        have hm0I : 0 ≤ (m : Int) := by omega
        have hK1 : 1 ≤ K := by omega
        have hK2 : K ≤ 9223372036854775807 := HREL.out.b2
        clear hm hm1 hm2 hmK
        go_wp2_with (first
          | (with_reducible refine wpList_load_mid rfl 142 (.tmp 15) rfl gh (k * 129) rfl WC _ HW.out.1 Tryz.underlying142 rfl HW.out.2.1 ?_)
          | (refine wpList_store_row rfl 142 (.tmp 5) (.tmp 16) rfl wr.heap.size WC.toArray rfl rfl 142 (.int .i64 0 :: zW).toArray (by rw [HQ.out.2.2]; exact HW.out.2.2.2.1) (by rw [List.size_toArray]; exact HW.out.2.1) (by rw [List.size_toArray, List.size_toArray, HW.out.2.2.2.2.1, HW.out.2.2.2.2.2]) HW.out.2.2.1 ?_)
          | fail)
        rw [HQ.out.2.2]
        obtain ⟨hx, hdrop, hxl, hxs, hWC, hlt0⟩ := HX.out
        obtain ⟨rq1, hW1, hq⟩ := HQ.out
        obtain ⟨hm, hm1, hm2, hmK⟩ := HM.out
        obtain ⟨b1, b2, inv, len, r128, row, gr⟩ := HREL.out
        have hh := H.out
        rw [HN.out.1] at hh
        generalize (wr.alloc (.cells (.int .i64 0 :: zW).toArray 142)).setRow q WC.toArray = W2 at rq1 hW1 ⊢
        have hgr2 : w.grownBy W2 (some gl) := gr.andThen hW1 (fun j hj => by cases hj)
        have hrow2 : Row W2 gl 90 (cur.flatten.map bv) := (hW1.block gl row.lt (by simp)).trans row
        obtain ⟨nl, hnl⟩ : ∃ nl, D.lasts.length = nl := ⟨_, rfl⟩
        obtain ⟨x1, hx1⟩ : ∃ x1, x.1 = x1 := ⟨_, rfl⟩
        rw [hnl, hx1] at hxs
        obtain ⟨RC, HRC⟩ : ∃ RC, Hid (RC = [Value.slice (some ⟨gl, 0, none⟩) nl nl, .slice (some ⟨gh, 0, none⟩) n c, .map (some gm), .int .i64 D.fuse, .int .i64 (D.steps : Nat), .bool D.down]) := ⟨_, Lib.hid rfl⟩
        have hrp : Row W2 p 81 RC := by
          have h := (hgr2.block p hh.row.lt (fun e => hh.ne_lp (by injection e with e; exact e.symm))).trans hh.row
          rw [hnl] at h
          rw [HRC.out]
          exact h
        have HS0 : Hid (Row W2.drew p 81 RC ∧ Row W2.drew q 142 WC) := Lib.hid ⟨hrp.drew, rq1.drew⟩
        have HW0 : Hid (WC[0]? = some (.int .i64 (x1 : Nat))) := Lib.hid (by rw [← hWC, ← hx1]; rfl)
        have hx1I : (x1 : Int) < (nl : Int) := by omega
        have hx10 : (0 : Int) ≤ (x1 : Int) := by omega
        obtain ⟨CS, hCS⟩ : ∃ CS, (x.2.take m).map bv = CS := ⟨_, rfl⟩
        have hCl : CS.length = m := by rw [← hCS, List.length_map, List.length_take, hxl]; omega
        have hfl := flat_length cur r128
        have hth : W2.drew.there gl (x1 * 128) CS.length := by
          have h := row_thereK (Row.drew hrow2) (x1 * 128) m (by rw [List.length_map, hfl, len, hnl]; omega)
          rwa [hCl]
        have hsrc : ∀ j v, CS[j]? = some v → W2.drew.cell? ((⟨q, 1, none⟩ : Addr).add j) = some v := fun j v hj => by
          rw [Addr.add_mid, (Row.drew rq1).cell, ← hWC]
          rw [← hCS, List.getElem?_map, List.getElem?_take] at hj
          unfold wcells
          rw [Nat.add_comm 1 j, List.getElem?_cons_succ, List.getElem?_map]
          split at hj
          · exact hj
          · cases hj
        have HCS : Hid (CS.length = m ∧ (∀ j v, CS[j]? = some v → W2.drew.cell? ((⟨q, 1, none⟩ : Addr).add j) = some v) ∧ W2.drew.there gl (x1 * 128) CS.length ∧ ∀ v ∈ CS, v.oneCell' = true) := Lib.hid ⟨hCl, hsrc, hth, fun v hv => by
          rw [← hCS] at hv; exact bvs_one _ v hv⟩
        have hqg : gl ≠ q := fun e => by have := row.lt; omega
        have HS2 : Hid (Row (W2.drew.setCells gl (x1 * 128) CS) p 81 RC ∧ Row (W2.drew.setCells gl (x1 * 128) CS) q 142 WC) := Lib.hid
          ⟨(setCells_heap gl CS (x1 * 128) W2.drew p hh.ne_lp).trans hrp.drew, (setCells_heap gl CS (x1 * 128) W2.drew q hqg).trans rq1.drew⟩
        have hkg := kept_go x (D.hangs.drop (k + 1)) cur K m (by omega) hm
        rw [hx1] at hkg
        have hset : ∀ b ∈ cur.set x1 (x.2.take m ++ (cur.getD x1 []).drop m), b.length = 128 := fun b hb => by
          rcases List.mem_or_eq_of_mem_set hb with hb | hb
          · exact r128 b hb
          · rw [hb, List.length_append, List.length_take, List.length_drop, hxl, getD_len r128 (by rw [len, hnl]; exact hxs)]
            omega
        have HFIN : Hid (CrR D gl w (W2.drew.setCells gl (x1 * 128) CS) keep (k + 1) (K - m) (cur.set x1 (x.2.take m ++ (cur.getD x1 []).drop m))) := Lib.hid (by
          have hbg := Row.begun (Row.drew hrow2) r128 x1 (by rw [len, hnl]; exact hxs) x.2 m hm2 hxl
          rw [hCS] at hbg
          have hgd : w.grownBy W2.drew (some gl) := ⟨hgr2.os, hgr2.tape, hgr2.output, hgr2.size, hgr2.block⟩
          exact ⟨by omega, by omega, by rw [← hkg, ← hdrop, inv], by rw [List.length_set, len], hset, hbg, hgd.andThen (setCells_grown W2.drew gl (x1 * 128) CS) (fun j hj => .inr hj)⟩)
        have hwr : IntKind.i64.wrap (K - (m : Int)) = K - (m : Int) := by rw [IntKind.wrap_i64]; omega
        clear hx hdrop hxl hxs hWC hlt0 rq1 hW1 hq hm hm1 hm2 hmK b1 b2 inv len r128 row gr hh hgr2 hrow2 hnl hx1 hrp hCS hCl hfl hth hsrc hqg hkg hset
        refine wp_region_noPanic ?_
        refine region_held_last 15 (S := fun W => Row W p 81 RC ∧ Row W q 142 WC) (by kernel_rfl) (by kernel_rfl) rfl HS0.out (fun hHeld => ?_)
        simp only [List.take_succ_cons, List.take_zero]
        refine wpAnyH_take (i := 0) (oi := { dst := some 19, op := Op.move (Operand.tmp 1), type := 3, pos := "disk.go:157", after := #[], guard := none }) (v := ?vva_0) rfl (by kernel_rfl) (by kernel_rfl) (by kernel_rfl) (fun _ _ _ h => h) (Or.inl ⟨by rfl, ?yya_0⟩) hHeld ?_
        case vva_0 => exact .int .i64 K
        case yya_0 =>
          intro W hS
          go_simp
        try simp only [Act.put, List.setIfInBounds_toArray, List.set_cons_zero, List.set_cons_succ]
        refine wpAnyH_take (i := 1) (oi := { dst := some 20, op := Op.move (Operand.tmp 0), type := 24, pos := "disk.go:157", after := #[], guard := none }) (v := ?vva_1) rfl (by kernel_rfl) (by kernel_rfl) (by kernel_rfl) (fun _ _ _ h => h) (Or.inl ⟨by rfl, ?yya_1⟩) hHeld ?_
        case vva_1 => exact .pointer (some ⟨p, 0, none⟩)
        case yya_1 =>
          intro W hS
          go_simp
        try simp only [Act.put, List.setIfInBounds_toArray, List.set_cons_zero, List.set_cons_succ]
        refine wpAnyH_take (i := 2) (oi := { dst := some 21, op := Op.nilCheck (Operand.tmp 20), type := 0, pos := "disk.go:157", after := #[{ on := 1, ground := Ground.data }], guard := none }) (v := ?vva_2) rfl (by kernel_rfl) (by kernel_rfl) (by kernel_rfl) (fun _ _ _ h => h) (Or.inl ⟨by rfl, ?yya_2⟩) hHeld ?_
        case vva_2 => exact .pointer (some ⟨p, 0, none⟩)
        case yya_2 =>
          intro W hS
          go_simp
        try simp only [Act.put, List.setIfInBounds_toArray, List.set_cons_zero, List.set_cons_succ]
        refine wpAnyH_take (i := 3) (oi := { dst := some 22, op := Op.fieldAddr 81 (Operand.tmp 21) 0, type := 0, pos := "disk.go:157", after := #[{ on := 2, ground := Ground.data }], guard := none }) (v := ?vva_3) rfl (by kernel_rfl) (by kernel_rfl) (by kernel_rfl) (fun _ _ _ h => h) (Or.inl ⟨by rfl, ?yya_3⟩) hHeld ?_
        case vva_3 => exact .pointer (some ⟨p, 0, none⟩)
        case yya_3 =>
          intro W hS
          go_simp
        try simp only [Act.put, List.setIfInBounds_toArray, List.set_cons_zero, List.set_cons_succ]
        refine wpAnyH_take (i := 4) (oi := { dst := some 23, op := Op.load 42 (Operand.tmp 22), type := 42, pos := "disk.go:157", after := #[{ on := 3, ground := Ground.data }], guard := none }) (v := ?vva_4) rfl (by kernel_rfl) (by kernel_rfl) (by kernel_rfl) (fun _ _ _ h => h) (Or.inl ⟨by rfl, ?yya_4⟩) hHeld ?_
        case vva_4 => exact .slice (some ⟨gl, 0, none⟩) nl nl
        case yya_4 =>
          intro W hS
          obtain ⟨s1, s2⟩ := hS
          have q0 := s1.cell 0
          simp only [HRC.out, List.getElem?_cons_zero] at q0
          go_simp
        try simp only [Act.put, List.setIfInBounds_toArray, List.set_cons_zero, List.set_cons_succ]
        refine wpAnyH_take (i := 5) (oi := { dst := some 24, op := Op.fieldAddr 142 (Operand.tmp 5) 0, type := 0, pos := "disk.go:157", after := #[], guard := none }) (v := ?vva_5) rfl (by kernel_rfl) (by kernel_rfl) (by kernel_rfl) (fun _ _ _ h => h) (Or.inl ⟨by rfl, ?yya_5⟩) hHeld ?_
        case vva_5 => exact .pointer (some ⟨q, 0, none⟩)
        case yya_5 =>
          intro W hS
          go_simp
        try simp only [Act.put, List.setIfInBounds_toArray, List.set_cons_zero, List.set_cons_succ]
        refine wpAnyH_take (i := 6) (oi := { dst := some 25, op := Op.load 3 (Operand.tmp 24), type := 3, pos := "disk.go:157", after := #[{ on := 5, ground := Ground.data }], guard := none }) (v := ?vva_6) rfl (by kernel_rfl) (by kernel_rfl) (by kernel_rfl) (fun _ _ _ h => h) (Or.inl ⟨by rfl, ?yya_6⟩) hHeld ?_
        case vva_6 => exact .int .i64 (x1 : Nat)
        case yya_6 =>
          intro W hS
          obtain ⟨s1, s2⟩ := hS
          have q0 := s2.cell 0
          rw [HW0.out] at q0
          go_simp
        try simp only [Act.put, List.setIfInBounds_toArray, List.set_cons_zero, List.set_cons_succ]
        refine wpAnyH_take (i := 7) (oi := { dst := some 26, op := Op.indexAddr 42 (Operand.tmp 23) (Operand.tmp 25), type := 0, pos := "disk.go:157", after := #[{ on := 4, ground := Ground.data }, { on := 6, ground := Ground.data }], guard := none }) (v := ?vva_7) rfl (by kernel_rfl) (by kernel_rfl) (by kernel_rfl) (fun _ _ _ h => h) (Or.inl ⟨by rfl, ?yya_7⟩) hHeld ?_
        case vva_7 => exact .pointer (some ⟨gl, x1 * 128, none⟩)
        case yya_7 =>
          intro W hS
          go_simp
        try simp only [Act.put, List.setIfInBounds_toArray, List.set_cons_zero, List.set_cons_succ]
        refine wpAnyH_take (i := 8) (oi := { dst := some 27, op := Op.slice 90 (Operand.tmp 26) none none none, type := 87, pos := "disk.go:157", after := #[{ on := 7, ground := Ground.data }], guard := none }) (v := ?vva_8) rfl (by kernel_rfl) (by kernel_rfl) (by kernel_rfl) (fun _ _ _ h => h) (Or.inl ⟨by rfl, ?yya_8⟩) hHeld ?_
        case vva_8 => exact .slice (some ⟨gl, x1 * 128, none⟩) 128 128
        case yya_8 =>
          intro W hS
          go_simp
        try simp only [Act.put, List.setIfInBounds_toArray, List.set_cons_zero, List.set_cons_succ]
        refine wpAnyH_take (i := 9) (oi := { dst := some 28, op := Op.fieldAddr 142 (Operand.tmp 5) 1, type := 0, pos := "disk.go:157", after := #[], guard := none }) (v := ?vva_9) rfl (by kernel_rfl) (by kernel_rfl) (by kernel_rfl) (fun _ _ _ h => h) (Or.inl ⟨by rfl, ?yya_9⟩) hHeld ?_
        case vva_9 => exact .pointer (some ⟨q, 1, none⟩)
        case yya_9 =>
          intro W hS
          go_simp
        try simp only [Act.put, List.setIfInBounds_toArray, List.set_cons_zero, List.set_cons_succ]
        refine wpAnyH_take (i := 10) (oi := { dst := some 29, op := Op.move (Operand.tmp 1), type := 3, pos := "disk.go:157", after := #[], guard := none }) (v := ?vva_10) rfl (by kernel_rfl) (by kernel_rfl) (by kernel_rfl) (fun _ _ _ h => h) (Or.inl ⟨by rfl, ?yya_10⟩) hHeld ?_
        case vva_10 => exact .int .i64 K
        case yya_10 =>
          intro W hS
          go_simp
        try simp only [Act.put, List.setIfInBounds_toArray, List.set_cons_zero, List.set_cons_succ]
        refine wpAnyH_take (i := 11) (oi := { dst := some 30, op := Op.call { callee := Callee.builtin Builtin.min, args := #[Operand.tmp 29, Operand.const (Value.int IntKind.i64 128)], argTypes := #[3, 3] }, type := 3, pos := "disk.go:157", after := #[{ on := 10, ground := Ground.data }], guard := none }) (v := ?vva_11) rfl (by kernel_rfl) (by kernel_rfl) (by kernel_rfl) (fun _ _ _ h => h) (Or.inl ⟨by rfl, ?yya_11⟩) hHeld ?_
        case vva_11 => exact .int .i64 m
        case yya_11 =>
          intro W hS
          go_simp
        try simp only [Act.put, List.setIfInBounds_toArray, List.set_cons_zero, List.set_cons_succ]
        refine wpAnyH_take (i := 12) (oi := { dst := some 31, op := Op.slice 90 (Operand.tmp 28) none (some (Operand.tmp 30)) none, type := 87, pos := "disk.go:157", after := #[{ on := 9, ground := Ground.data }, { on := 11, ground := Ground.data }], guard := none }) (v := ?vva_12) rfl (by kernel_rfl) (by kernel_rfl) (by kernel_rfl) (fun _ _ _ h => h) (Or.inl ⟨by rfl, ?yya_12⟩) hHeld ?_
        case vva_12 => exact .slice (some ⟨q, 1, none⟩) m 128
        case yya_12 =>
          intro W hS
          go_simp
        try simp only [Act.put, List.setIfInBounds_toArray, List.set_cons_zero, List.set_cons_succ]
        refine wpAnyH_ready (rs := [13]) (by kernel_rfl) (by simp) (AllReadyH.cons (o := { dst := some 32, op := Op.call { callee := Callee.builtin Builtin.copy, args := #[Operand.tmp 27, Operand.tmp 31], argTypes := #[87, 87] }, type := 3, pos := "disk.go:157", after := #[{ on := 8, ground := Ground.data }, { on := 12, ground := Ground.data }], guard := none }) rfl (fun K hK => ?_) AllReadyH.nil)
        rw [if_pos (by rfl)]
        refine wp_copy_cells (.tmp 27) (.tmp 31) 87 87 rfl 5 Tryz.underlying87 (by kernel_rfl) gl (x1 * 128) 128 128 ⟨q, 1, none⟩ m 128 rfl rfl CS (by rw [HCS.out.1]; have := HM.out; show m = min m 128; omega) HCS.out.2.1 HCS.out.2.2.1 HCS.out.2.2.2 ?_
        rw [HCS.out.1]
        have S2 := HS2.out
        refine hK.out _ _ S2 (fun hHeld => ?_)
        clear hK K
        try simp only [Act.put, List.setIfInBounds_toArray, List.set_cons_zero, List.set_cons_succ]
        refine wpAnyH_take (i := 14) (oi := { dst := some 33, op := Op.binOp BinOp.sub 3 (Operand.tmp 19) (Operand.tmp 32) 3, type := 3, pos := "disk.go:157", after := #[{ on := 0, ground := Ground.data }, { on := 13, ground := Ground.data }], guard := none }) (v := ?vva_14) rfl (by kernel_rfl) (by kernel_rfl) (by kernel_rfl) (fun _ _ _ h => h) (Or.inl ⟨by rfl, ?yya_14⟩) hHeld ?_
        case vva_14 => exact .int .i64 (K - m)
        case yya_14 =>
          intro W hS
          go_simp
        try simp only [Act.put, List.setIfInBounds_toArray, List.set_cons_zero, List.set_cons_succ]
        refine wpAnyH_done (by kernel_rfl) ?_ _
        show wpList _ _ _ [_] _ _
        go_wp2_with fail
        refine NoPanic.normal ?_
        go_wp2_with fail
        go_roundw
        case rel => exact ⟨k + 1, K - m, _, by omega, rfl, by go_num, HFIN⟩
        case measure => simp [intOf]; omega
    · have hke : k = n := by omega
      subst hke
      have hdr : D.hangs.drop k = [] := List.drop_of_length_le (by rw [HN.out.1]; exact Nat.le_refl _)
      have HF := fin.out wr (World.grownBy.refl wr _) (by rw [hdr]; rfl)
      have HF2 := Lib.hid HF
      clear HF hdr hlt
      go_wp2_with fail
      have HF := HF2.out
      have HDR := Lib.hid (drop_any HF.1)
      refine HDR.out.mono ?_
      rintro e wz ⟨rfl, hdz, hkz⟩
      have c5 := hdz.row.cell 5
      have c3 := hdz.row.cell 3
      have f5 := hdz.row.frozen 5
      have f3 := hdz.row.frozen 3
      simp only [List.getElem?_cons_zero, List.getElem?_cons_succ] at c5 c3
      have HZ := Lib.hid (tailF.out wz hdz (HF.2.trans hkz))
      clear hdz hkz HDR HF
      go_wp2
      go_end0
      exact ⟨rfl, HZ.out.1, HZ.out.2⟩
end
end Go.Proofs.YtiaaeniopjpfpaaGreatDoor
