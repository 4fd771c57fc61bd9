/- Two entries compared; two queues. -/
import Derived.Test.YtoampocobmeebaaGreatDoorTFind1
import Derived.Test.YtoampocobmeebaaGreatDoorSlotsL
import Derived.Laws.StructEq
import Derived.BigQuiet
namespace Go.Proofs.YtoampocobmeebaaGreatDoor.Tm
open Go.RowKit
set_option linter.unusedVariables false
set_option linter.unusedSimpArgs false

theorem en_ext (r q : EN) : r = q ↔ (r.tm = q.tm ∧ r.uid = q.uid) := ⟨fun h => by subst h; exact ⟨rfl, rfl⟩, fun h => EN.ext' h.1 h.2⟩
instance : DecidableEq EN := fun r q => decidable_of_iff _ (en_ext r q).symm
theorem ent_fields : Tryz.prog.fieldsOf 58 = #[{ name := "at", type := 23, offset := 0, embedded := false, tag := "", pkgPath := "cashier/timer", byteOffset := 0 }, { name := "id", type := 25, offset := 1, embedded := false, tag := "", pkgPath := "cashier/timer", byteOffset := 8 }] := by kernel_rfl
theorem eeq_in (r q : EN) (W : World) : (Op.equalIn 10000 58 (.agg r.cells.toArray) (.agg q.cells.toArray)).run Tryz.prog W = .ok (decide (r = q)) W := by
  obtain ⟨i, hi⟩ := uid_info
  have hu : (Op.equalIn 9999 25 (.agg (r.uid.map bv).toArray) (.agg (q.uid.map bv).toArray)).run Tryz.prog W = .ok (decide (r.uid = q.uid)) W := by
    rw [run_equalIn_array W 9998 _ _ Tryz.underlying25 hi, show Tryz.prog.cellsOf 5 = 1 by kernel_rfl]
    rw [items_bytes W 9997 5 r.uid q.uid Tryz.underlying5 (Tryz.isAgg5 W) _ (fun j hj => by
      have hj2 := List.mem_range.1 hj
      rw [r.huid, q.huid]; omega)]
    have e1 : decide (∀ i ∈ List.range 16, r.uid[i]? = q.uid[i]?) = decide (r.uid = q.uid) := decide_eq_decide.2 ⟨fun h => List.ext_getElem? fun j => by
      by_cases hj : j < 16
      · exact h j (List.mem_range.2 hj)
      · rw [List.getElem?_eq_none (by rw [r.huid]; omega), List.getElem?_eq_none (by rw [q.huid]; omega)], fun h => by rw [h]; intros; rfl⟩
    rw [e1]
  have p0 : ∀ e : EN, (part 23 e.cells.toArray 0).run Tryz.prog W = .ok (.int .u64 e.tm) W := fun e => by
    simp [part, Tryz.isAgg23, EN.cells]
  have p1 : ∀ e : EN, (part 25 e.cells.toArray 1).run Tryz.prog W = .ok (.agg (e.uid.map bv).toArray) W := fun e => by
    have h16 : List.take 16 (e.uid.map bv) = e.uid.map bv := List.take_of_length_le (by rw [List.length_map, e.huid]; exact Nat.le_refl _)
    simp [part, Tryz.isAgg25, Tryz.sizeOf25, EN.cells, Result.andThen, h16]
  have hd : decide (r = q) = decide (r.tm = q.tm ∧ r.uid = q.uid) := decide_eq_decide.2 (en_ext r q)
  rw [run_equalIn_struct W 9999 _ _ _ (by rw [ent_fields]; exact Tryz.underlying58) (by kernel_rfl), ent_fields, hd]
  simp only [Op.eqFields]
  by_cases h1 : r.tm = q.tm
  · have h1I : (r.tm : Int) = (q.tm : Int) := by omega
    by_cases h2 : r.uid = q.uid
    · rw [decide_eq_true h2] at hu
      rw [decide_eq_true (show r.tm = q.tm ∧ r.uid = q.uid from ⟨h1, h2⟩)]
      simp [p0, p1, hu, h1I, Result.andThen, run_equalIn_int W 9998 _ .u64 .u64 _ _ Tryz.underlying23]
    · rw [decide_eq_false h2] at hu
      rw [decide_eq_false (show ¬ (r.tm = q.tm ∧ r.uid = q.uid) from fun h => h2 h.2)]
      simp [p0, p1, hu, h1I, Result.andThen, run_equalIn_int W 9998 _ .u64 .u64 _ _ Tryz.underlying23]
  · have h1I : ¬ ((r.tm : Int) = (q.tm : Int)) := by omega
    rw [decide_eq_false (show ¬ (r.tm = q.tm ∧ r.uid = q.uid) from fun h => h1 h.1)]
    simp [p0, h1I, Result.andThen, run_equalIn_int W 9998 _ .u64 .u64 _ _ Tryz.underlying23]
theorem ret_boolQ {a b : Bool} (h : a = b) : Ending.returned (.bool a) = .returned (.bool b) := by rw [h]

set_option maxRecDepth 20000 in
set_option maxHeartbeats 4000000 in
theorem Equal_any (la lb : List EN) (h64 : la.length ≤ 64) (s u : Value) (w : World) (hS : TBL w s la) (hU : TBL w u lb) :
    Calls Tryz.prog 27 #[s, u] w fun e w' => e = .returned (.bool (decide (la = lb))) ∧ Below w.heap.size w w' := by
  obtain ⟨a, ca, rfl⟩ := hS.slice
  obtain ⟨c, cb, rfl⟩ := hU.slice
  have HS := Lib.hid hS
  have HU := Lib.hid hU
  obtain ⟨R, hR⟩ : ∃ R, decide (la = lb) = R := ⟨_, rfl⟩
  rw [hR]
  have HR := Lib.hid hR
  clear hS hU hR
  by_cases hlen : la.length = lb.length
  · have HL := Lib.hid hlen
    rw [← hlen]
    have hU2 := HU.out
    rw [← hlen] at hU2
    have HU := Lib.hid hU2
    clear hU2 hlen
    go_enter Tryz.func27, Tryz.ntmps27
    go_wp2
    go_loopw [13] (fun i wr => ∃ j : Nat, j ≤ la.length ∧ i = .int .i64 j ∧ Hid (la.take j = lb.take j ∧ Below w.heap.size w wr)) (fun i _ => la.length - (intOf i).toNat)
    case atStart => exact ⟨0, Nat.zero_le _, rfl, Lib.hid ⟨rfl, Below.refl _ _⟩⟩
    case round =>
      obtain ⟨j, hj, rfl, HW⟩ := hrel
      by_cases hlt : j < la.length
      · have hltI : (j : Int) < (la.length : Int) := by omega
        have hltB : j < lb.length := by rw [← HL.out]; exact hlt
        obtain ⟨g, cap', he, hg, hrng⟩ := (HS.out.below HW.out.2).cell j hlt
        injection he with he1 he2 he3
        subst he1 he3
        obtain ⟨g2, cap2, he, hg2, hrng2⟩ := (HU.out.below HW.out.2).cell j hltB
        injection he with he1 he2 he3
        subst he1 he3
        clear he2
        have HTa := Lib.hid (List.take_succ_eq_append_getElem hlt)
        have HTb := Lib.hid (List.take_succ_eq_append_getElem hltB)
        have HNE : Hid (la[j] ≠ lb[j]'hltB → R = false) := Lib.hid fun h => by
          rw [← HR.out]
          refine decide_eq_false fun h2 => h ?_
          subst h2
          rfl
        have hneq := fun W => eeq_in la[j] (lb[j]'hltB) W
        have hX17 := cells_len la[j]
        have hY17 := cells_len (lb[j]'hltB)
        obtain ⟨x, hx⟩ : ∃ x, la[j] = x := ⟨_, rfl⟩
        obtain ⟨y, hy⟩ : ∃ y, lb[j]'hltB = y := ⟨_, rfl⟩
        rw [hx] at hrng HTa HNE hneq hX17
        rw [hy] at hrng2 HTb HNE hneq hY17
        clear hx hy hltB
        obtain ⟨E, hE⟩ : ∃ E, (!decide (x = y)) = E := ⟨_, rfl⟩
        have HE := Lib.hid hE
        obtain ⟨X, hX⟩ : ∃ X, x.cells = X := ⟨_, rfl⟩
        obtain ⟨Y, hY⟩ : ∃ Y, y.cells = Y := ⟨_, rfl⟩
        rw [hX] at hrng hneq hX17
        rw [hY] at hrng2 hneq hY17
        have HA : Hid (∀ W, Below wr.heap.size wr W → W.rangeAt g (j * 17) X) := Lib.hid fun W h k v hv => (World.cell?_of_block (h.block g hg)).trans (hrng k v hv)
        have HB : Hid (∀ W, Below wr.heap.size wr W → W.rangeAt g2 (j * 17) Y) := Lib.hid fun W h k v hv => (World.cell?_of_block (h.block g2 hg2)).trans (hrng2 k v hv)
        have HNE2 : Hid (∀ W, (binOp .neq 58 (.agg X.toArray) (.agg Y.toArray)).run Tryz.prog W = .ok (.bool E) W) := Lib.hid fun W => by rw [run_neq_struct, hneq W, ← hE]; rfl
        clear hrng hrng2 hneq hX hY hE
        have hmx : Tryz.prog.follows Departure.mixedOrders = true := by kernel_rfl
        go_wp2_with fail
        refine wp_region_slotsB (m := 9) [] hmx (fun i v _ => v = ([.slice (some ⟨g, 0, none⟩) la.length ca, .int .i64 j, .pointer (some ⟨g, j * 17, none⟩), .agg X.toArray, .slice (some ⟨g2, 0, none⟩) la.length cb, .int .i64 j, .pointer (some ⟨g2, j * 17, none⟩), .agg Y.toArray, .bool E] : List Value).getD i undef) (Below wr.heap.size wr) (by kernel_rfl) (by kernel_rfl) (fun i v W W' h _ => h) ((Below.refl _ _).drew) ?_ ?_
        · refine ⟨?_, ?_, ?_, ?_, ?_, ?_, ?_, ?_, ?_, trivial⟩
          · intro ρ vals W hC hd ht hk hg hf
            have e0 := ht 0
            rw [evalS_old (by kernel_rfl)] at e0
            clear ht hd
            unfold StepOK
            go_simp
            exact Below.refl _ _
          · intro ρ vals W hC hd ht hk hg hf
            have e5 := ht 5
            rw [evalS_old (by kernel_rfl)] at e5
            clear ht hd
            unfold StepOK
            go_simp
            exact Below.refl _ _
          · intro ρ vals W hC hd ht hk hg hf
            have d0 := hd 0 (by kernel_rfl)
            have e16 := ht 16
            rw [evalS_tmp (i := 0) (by kernel_rfl), d0] at e16
            have d1 := hd 1 (by kernel_rfl)
            have e17 := ht 17
            rw [evalS_tmp (i := 1) (by kernel_rfl), d1] at e17
            clear ht hd d0 d1
            unfold StepOK
            go_simp
            exact Below.refl _ _
          · intro ρ vals W hC hd ht hk hg hf
            have d2 := hd 2 (by kernel_rfl)
            have e18 := ht 18
            rw [evalS_tmp (i := 2) (by kernel_rfl), d2] at e18
            clear ht hd d2
            exact stepOK_load 58 (.tmp 18) rfl g (j * 17) e18 X _ (HA.out W hC) Tryz.underlying58 rfl (ent_size hX17) rfl hC
          · intro ρ vals W hC hd ht hk hg hf
            have e1 := ht 1
            rw [evalS_old (by kernel_rfl)] at e1
            clear ht hd
            unfold StepOK
            go_simp
            exact Below.refl _ _
          · intro ρ vals W hC hd ht hk hg hf
            have e5 := ht 5
            rw [evalS_old (by kernel_rfl)] at e5
            clear ht hd
            unfold StepOK
            go_simp
            exact Below.refl _ _
          · intro ρ vals W hC hd ht hk hg hf
            have d4 := hd 4 (by kernel_rfl)
            have e20 := ht 20
            rw [evalS_tmp (i := 4) (by kernel_rfl), d4] at e20
            have d5 := hd 5 (by kernel_rfl)
            have e21 := ht 21
            rw [evalS_tmp (i := 5) (by kernel_rfl), d5] at e21
            clear ht hd d4 d5
            unfold StepOK
            go_simp
            exact Below.refl _ _
          · intro ρ vals W hC hd ht hk hg hf
            have d6 := hd 6 (by kernel_rfl)
            have e22 := ht 22
            rw [evalS_tmp (i := 6) (by kernel_rfl), d6] at e22
            clear ht hd d6
            exact stepOK_load 58 (.tmp 22) rfl g2 (j * 17) e22 Y _ (HB.out W hC) Tryz.underlying58 rfl (ent_size hY17) rfl hC
          · intro ρ vals W hC hd ht hk hg hf
            have d3 := hd 3 (by kernel_rfl)
            have e19 := ht 19
            rw [evalS_tmp (i := 3) (by kernel_rfl), d3] at e19
            have d7 := hd 7 (by kernel_rfl)
            have e23 := ht 23
            rw [evalS_tmp (i := 7) (by kernel_rfl), d7] at e23
            clear ht hd d3 d7
            exact stepOK_eqA .neq 58 (.tmp 19) (.tmp 23) 58 rfl X.toArray Y.toArray e19 e23 (by kernel_rfl) (.bool E) (HNE2.out W) rfl hC
        · intro vals W hC hR
          have r0 : vals 0 = .slice (some ⟨g, 0, none⟩) la.length ca := (hR 0 (by omega))
          have r1 : vals 1 = .int .i64 j := (hR 1 (by omega))
          have r2 : vals 2 = .pointer (some ⟨g, j * 17, none⟩) := (hR 2 (by omega))
          have r3 : vals 3 = .agg X.toArray := (hR 3 (by omega))
          have r4 : vals 4 = .slice (some ⟨g2, 0, none⟩) la.length cb := (hR 4 (by omega))
          have r5 : vals 5 = .int .i64 j := (hR 5 (by omega))
          have r6 : vals 6 = .pointer (some ⟨g2, j * 17, none⟩) := (hR 6 (by omega))
          have r7 : vals 7 = .agg Y.toArray := (hR 7 (by omega))
          have r8 : vals 8 = .bool E := (hR 8 (by omega))
          clear hR
          simp only [wpOps, List.take, putsS, Act.put, List.setIfInBounds_toArray, List.set_cons_zero, List.set_cons_succ, Nat.reduceAdd, r0, r1, r2, r3, r4, r5, r6, r7, r8]
          clear r0 r1 r2 r3 r4 r5 r6 r7 r8
          have HC := Lib.hid hC
          by_cases hxy : x = y
          · have hEf : E = false := by rw [← HE.out, decide_eq_true hxy]; rfl
            subst hEf
            have hjl : j + 1 ≤ la.length := by omega
            have HN : Hid (la.take (j + 1) = lb.take (j + 1) ∧ Below w.heap.size w W) := Lib.hid ⟨by rw [HTa.out, HTb.out, HW.out.1, hxy], HW.out.2.trans (HC.out.mono HW.out.2.size)⟩
            clear hC hxy
            go_wp2_with fail
            go_roundw
            case rel => exact ⟨j + 1, hjl, by go_num, HN⟩
            case measure => simp [intOf]; omega
          · have hEt : E = true := by rw [← HE.out, decide_eq_false hxy]; rfl
            subst hEt
            have HRF := Lib.hid (HNE.out hxy)
            have HBB := Lib.hid (HW.out.2.trans (HC.out.mono HW.out.2.size))
            clear hC hxy
            go_wp2_with fail
            try rw [Exit.noGoto_ret]
            go_ret
            exact ⟨ret_boolQ HRF.out.symm, HBB.out⟩

      · have hltI : ¬ (j : Int) < (la.length : Int) := by omega
        have HRT : Hid (R = true) := Lib.hid (by
          rw [← HR.out]
          refine decide_eq_true ?_
          have h := HW.out.1
          rwa [List.take_of_length_le (by omega), List.take_of_length_le (by rw [← HL.out]; omega)] at h)
        go_wp2_with fail
        go_ret
        exact ⟨ret_boolQ HRT.out.symm, HW.out.2⟩
  · have hq : ((la.length : Int) != (lb.length : Int)) = true := by rw [bne_iff_ne]; omega
    have HRF : Hid (R = false) := Lib.hid (by
      rw [← HR.out]
      exact decide_eq_false fun h => hlen (by rw [h]))
    go_enter Tryz.func27, Tryz.ntmps27
    go_wp2
    go_ret
    exact ⟨ret_boolQ HRF.out.symm, Below.refl _ _⟩
end Go.Proofs.YtoampocobmeebaaGreatDoor.Tm
