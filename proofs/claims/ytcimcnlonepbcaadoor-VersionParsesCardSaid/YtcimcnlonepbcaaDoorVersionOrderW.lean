/- The walk of VersionOrder. -/
import Derived.Test.YtcimcnlonepbcaaDoorVEq
namespace Go.Proofs.YtcimcnlonepbcaaDoor
open Go.RowKit
set_option linter.unusedVariables false

theorem within_vs (a b c : V3) (ha : a.1 ≤ 65535 ∧ a.2.1 ≤ 65535 ∧ a.2.2 ≤ 65535) (hb : b.1 ≤ 65535 ∧ b.2.1 ≤ 65535 ∧ b.2.2 ≤ 65535) (hc : c.1 ≤ 65535 ∧ c.2.1 ≤ 65535 ∧ c.2.2 ≤ 65535) :
    withinB (vsB b) (vsB a) (vsB c) = (decide (cmpV a b ≤ 0) && decide (cmpV b c ≤ 0)) := by
  unfold withinB vsB
  rw [show (⟨(verL b.1 b.2.1 b.2.2).toArray⟩ : ByteArray).data.toList = verL b.1 b.2.1 b.2.2 by simp, show (⟨(verL a.1 a.2.1 a.2.2).toArray⟩ : ByteArray).data.toList = verL a.1 a.2.1 a.2.2 by simp,
    show (⟨(verL c.1 c.2.1 c.2.2).toArray⟩ : ByteArray).data.toList = verL c.1 c.2.1 c.2.2 by simp, pv_verL ha.1 ha.2.1 ha.2.2, pv_verL hb.1 hb.2.1 hb.2.2, pv_verL hc.1 hc.2.1 hc.2.2]
theorem vsB_size (a : V3) (ha : a.1 ≤ 65535 ∧ a.2.1 ≤ 65535 ∧ a.2.2 ≤ 65535) : (vsB a).size ≤ 1000 := by
  show (verL a.1 a.2.1 a.2.2).toArray.size ≤ 1000
  unfold verL
  have l1 := Lib.nDigits_le20 a.1 (by omega)
  have l2 := Lib.nDigits_le20 a.2.1 (by omega)
  have l3 := Lib.nDigits_le20 a.2.2 (by omega)
  simp [Lib.decDigits_length]
  omega
theorem rows3 (w : World) (o1 o2 o3 : List Value) (t : TypeId) :
    Row (((w.alloc (.cells o1.toArray t)).alloc (.cells o2.toArray t)).alloc (.cells o3.toArray t)) w.heap.size t o1 ∧ Row (((w.alloc (.cells o1.toArray t)).alloc (.cells o2.toArray t)).alloc (.cells o3.toArray t)) (w.heap.size + 1) t o2 ∧
      Row (((w.alloc (.cells o1.toArray t)).alloc (.cells o2.toArray t)).alloc (.cells o3.toArray t)) (w.heap.size + 1 + 1) t o3 ∧ Below w.heap.size w (((w.alloc (.cells o1.toArray t)).alloc (.cells o2.toArray t)).alloc (.cells o3.toArray t)) := by
  refine ⟨((Row.new w t o1).alloc _).alloc _, ?_, ?_, (((Below.refl _ _).alloc (Nat.le_refl _) _).alloc (by simp) _).alloc (by simp; omega) _⟩
  · have h := (Row.new (w.alloc (.cells o1.toArray t)) t o2).alloc (.cells o3.toArray t)
    rwa [World.size_alloc] at h
  · have h := Row.new ((w.alloc (.cells o1.toArray t)).alloc (.cells o2.toArray t)) t o3
    rwa [World.size_alloc, World.size_alloc] at h

set_option maxRecDepth 100000 in
set_option maxHeartbeats 4000000 in
theorem VersionOrder_walk (a0 a1 a2 b0 b1 b2 c0 c1 c2 : Nat) (ha : a0 ≤ 65535 ∧ a1 ≤ 65535 ∧ a2 ≤ 65535) (hb : b0 ≤ 65535 ∧ b1 ≤ 65535 ∧ b2 ≤ 65535) (hc : c0 ≤ 65535 ∧ c1 ≤ 65535 ∧ c2 ≤ 65535) (w : World) (hG : VG w) (hN : NV w) :
    Calls Tryd.prog 5 #[.agg #[.int .u16 a0, .int .u16 a1, .int .u16 a2], .agg #[.int .u16 b0, .int .u16 b1, .int .u16 b2], .agg #[.int .u16 c0, .int .u16 c1, .int .u16 c2]] w fun e w' => e = .returned (.bool true) ∧ Below w.heap.size w w' := by
  have h0 := rows3 w [.int .u16 a0, .int .u16 a1, .int .u16 a2] [.int .u16 b0, .int .u16 b1, .int .u16 b2] [.int .u16 c0, .int .u16 c1, .int .u16 c2] 24
  have H0 := Lib.hid h0
  have HG := Lib.hid hG
  have HN := Lib.hid hN
  clear hG hN h0
  -- the numbers
  have hxz := cmpV_zero (a0, a1, a2) (b0, b1, b2)
  have hng := cmpV_neg (b0, b1, b2) (a0, a1, a2)
  have htr := cmpV_trans (a0, a1, a2) (b0, b1, b2) (c0, c1, c2)
  have rx := cmpV_range (a0, a1, a2) (b0, b1, b2)
  have ry := cmpV_range (b0, b1, b2) (c0, c1, c2)
  have rz := cmpV_range (a0, a1, a2) (c0, c1, c2)
  have hwi := within_vs (a0, a1, a2) (b0, b1, b2) (c0, c1, c2) ha hb hc
  have CX := Lib.hid (fun W => Cmp_v (a0, a1, a2) (b0, b1, b2) W)
  have CY := Lib.hid (fun W => Cmp_v (b0, b1, b2) (c0, c1, c2) W)
  have CZ := Lib.hid (fun W => Cmp_v (a0, a1, a2) (c0, c1, c2) W)
  have CN := Lib.hid (fun W => Cmp_v (b0, b1, b2) (a0, a1, a2) W)
  have HEQ := Lib.hid (fun W => veq a0 a1 a2 b0 b1 b2 W)
  obtain ⟨x, hx⟩ : ∃ x, cmpV (a0, a1, a2) (b0, b1, b2) = x := ⟨_, rfl⟩
  obtain ⟨y, hy⟩ : ∃ y, cmpV (b0, b1, b2) (c0, c1, c2) = y := ⟨_, rfl⟩
  obtain ⟨z, hz⟩ : ∃ z, cmpV (a0, a1, a2) (c0, c1, c2) = z := ⟨_, rfl⟩
  rw [hx] at hxz hng htr rx hwi CX
  rw [hy] at htr ry hwi CY
  rw [hz] at htr rz CZ
  rw [hng] at CN
  rw [show decide ((a0, a1, a2) = (b0, b1, b2)) = decide (x = 0) from decide_eq_decide.2 hxz.symm] at HEQ
  have ZA := vsB_size (a0, a1, a2) ha
  have ZB := vsB_size (b0, b1, b2) hb
  have ZC := vsB_size (c0, c1, c2) hc
  have TA := Lib.hid (fun W h => VText_any a0 a1 a2 ha.1 ha.2.1 ha.2.2 W h)
  have TB := Lib.hid (fun W h => VText_any b0 b1 b2 hb.1 hb.2.1 hb.2.2 W h)
  have TC := Lib.hid (fun W h => VText_any c0 c1 c2 hc.1 hc.2.1 hc.2.2 W h)
  change Hid (∀ W, T10 W → Calls Tryd.prog 9 #[vv a0 a1 a2] W fun e w' => e = .returned (.string (vsB (a0, a1, a2))) ∧ Below W.heap.size W w') at TA
  change Hid (∀ W, T10 W → Calls Tryd.prog 9 #[vv b0 b1 b2] W fun e w' => e = .returned (.string (vsB (b0, b1, b2))) ∧ Below W.heap.size W w') at TB
  change Hid (∀ W, T10 W → Calls Tryd.prog 9 #[vv c0 c1 c2] W fun e w' => e = .returned (.string (vsB (c0, c1, c2))) ∧ Below W.heap.size W w') at TC
  have WI := Lib.hid (fun W h => VWithin_any (vsB (b0, b1, b2)) (vsB (a0, a1, a2)) (vsB (c0, c1, c2)) ZB ZA ZC W h)
  rw [hwi] at WI
  obtain ⟨sa, hsa⟩ : ∃ s, vsB (a0, a1, a2) = s := ⟨_, rfl⟩
  obtain ⟨sb, hsb⟩ : ∃ s, vsB (b0, b1, b2) = s := ⟨_, rfl⟩
  obtain ⟨sc, hsc⟩ : ∃ s, vsB (c0, c1, c2) = s := ⟨_, rfl⟩
  rw [hsa] at TA WI
  rw [hsb] at TB WI
  rw [hsc] at TC WI
  simp only [vv] at CX CY CZ CN TA TB TC
  clear hxz hng hwi hx hy hz ZA ZB ZC hsa hsb hsc ha hb hc
  have hu := Tryd.underlying24
  have hiV : (Tryd.prog.info? 24).map (·.size) = some 3 := by kernel_rfl
  have HI := Lib.hid (And.intro hu hiV)
  clear hu hiV
  go_enter Tryd.func5, Tryd.ntmps5
  go_wp2_with fail
  obtain ⟨hr0, hr1, hr2, hb0⟩ := H0.out
  generalize (((w.alloc (.cells [.int .u16 a0, .int .u16 a1, .int .u16 a2].toArray 24)).alloc (.cells [.int .u16 b0, .int .u16 b1, .int .u16 b2].toArray 24)).alloc (.cells [.int .u16 c0, .int .u16 c1, .int .u16 c2].toArray 24)) = w1 at hr0 hr1 hr2 hb0 ⊢
  refine (awake17_any _ (HG.out.below hb0) (HN.out.below hb0)).mono ?_
  rintro e w2 ⟨rfl, hb2⟩
  have HB2 := Lib.hid (hb0.trans (hb2.mono hb0.size))
  have HL0 : Hid (∀ W, Below w2.heap.size w2 W → Row W w.heap.size 24 [.int .u16 a0, .int .u16 a1, .int .u16 a2]) := Lib.hid fun W h => (hr0.below hb2 hr0.lt).below h (hr0.below hb2 hr0.lt).lt
  have HL1 : Hid (∀ W, Below w2.heap.size w2 W → Row W (w.heap.size + 1) 24 [.int .u16 b0, .int .u16 b1, .int .u16 b2]) := Lib.hid fun W h => (hr1.below hb2 hr1.lt).below h (hr1.below hb2 hr1.lt).lt
  have HL2 : Hid (∀ W, Below w2.heap.size w2 W → Row W (w.heap.size + 1 + 1) 24 [.int .u16 c0, .int .u16 c1, .int .u16 c2]) := Lib.hid fun W h => (hr2.below hb2 hr2.lt).below h (hr2.below hb2 hr2.lt).lt
  clear hr0 hr1 hr2 hb0 hb2 H0
  go_wp2_with fail
  refine region_quiet_lit (Below w2.heap.size w2) (by kernel_rfl) (by kernel_rfl) (below_dr (Below.refl _ _) 1) ?_
  repeat (first
    | (go_big_quiet_want; (first
        | refine quiet_load_row 24 (.tmp 3) (by rfl) w.heap.size (by rfl) 24 [.int .u16 a0, .int .u16 a1, .int .u16 a2] _ HL0.out HI.out.1 rfl HI.out.2 ?_
        | refine quiet_load_row 24 (.tmp 4) (by rfl) (w.heap.size + 1) (by rfl) 24 [.int .u16 b0, .int .u16 b1, .int .u16 b2] _ HL1.out HI.out.1 rfl HI.out.2 ?_
        | refine quiet_load_row 24 (.tmp 5) (by rfl) (w.heap.size + 1 + 1) (by rfl) 24 [.int .u16 c0, .int .u16 c1, .int .u16 c2] _ HL2.out HI.out.1 rfl HI.out.2 ?_); go_big_quiet_on; simp only [Act.put, List.setIfInBounds_toArray, List.set_cons_zero, List.set_cons_succ])
    | go_big_quiet_step ((first
      | (intro hC; with_reducible rfl)
      | (intro hC; go_at_call 10; (first | (with_reducible refine (CX.out _).mono ?_) | (with_reducible refine (CY.out _).mono ?_) | (with_reducible refine (CZ.out _).mono ?_)); rintro e w'' ⟨rfl, hb⟩; exact ⟨rfl, hC.trans (hb.mono hC.size)⟩))))
  refine wpQuiet_nil ?_
  intro w3 hw3
  have HB3 := Lib.hid (HB2.out.trans (hw3.mono HB2.out.size))
  have HM0 : Hid (∀ W, Below w3.heap.size w3 W → Row W w.heap.size 24 [.int .u16 a0, .int .u16 a1, .int .u16 a2]) := Lib.hid fun W h => HL0.out W (hw3.trans (h.mono hw3.size))
  have HM1 : Hid (∀ W, Below w3.heap.size w3 W → Row W (w.heap.size + 1) 24 [.int .u16 b0, .int .u16 b1, .int .u16 b2]) := Lib.hid fun W h => HL1.out W (hw3.trans (h.mono hw3.size))
  have HM2 : Hid (∀ W, Below w3.heap.size w3 W → Row W (w.heap.size + 1 + 1) 24 [.int .u16 c0, .int .u16 c1, .int .u16 c2]) := Lib.hid fun W h => HL2.out W (hw3.trans (h.mono hw3.size))
  clear HL0 HL1 HL2 hw3 CX CY CZ HB2
  have hxc : x = -1 ∨ x = 0 ∨ x = 1 := by omega
  have hyc : y ≤ 0 ∨ 0 < y := by omega
  clear rx
  obtain ⟨y1, y2⟩ := ry
  obtain ⟨z1, z2⟩ := rz
  rcases hxc with rfl | rfl | rfl
  all_goals
    rcases hyc with hy | hy
    all_goals
      first
        | (have hzl := htr (by decide) hy)
        | (have hzl : True := trivial)
      clear htr
      have heq := HEQ.out
      simp only [Int.reduceNeg, Int.reduceEq, Int.neg_neg, Int.neg_zero, decide_true, decide_false] at heq CN
      have p0 := (HM0.out _ (Below.refl _ _)).cell 0
      have p1 := (HM0.out _ (Below.refl _ _)).cell 1
      have p2 := (HM0.out _ (Below.refl _ _)).cell 2
      have q0 := (HM1.out _ (Below.refl _ _)).cell 0
      have q1 := (HM1.out _ (Below.refl _ _)).cell 1
      have q2 := (HM1.out _ (Below.refl _ _)).cell 2
      simp only [List.getElem?_cons_zero, List.getElem?_cons_succ] at p0 p1 p2 q0 q1 q2
      go_wp2_with fail
      refine (CN.out _).mono ?_
      rintro e w4 ⟨rfl, hb4⟩
      have HB4 := Lib.hid (HB3.out.trans (hb4.mono HB3.out.size))
      have HN0 : Hid (∀ W, Below w4.heap.size w4 W → Row W w.heap.size 24 [.int .u16 a0, .int .u16 a1, .int .u16 a2]) := Lib.hid fun W h => HM0.out W (hb4.trans (h.mono hb4.size))
      have HN1 : Hid (∀ W, Below w4.heap.size w4 W → Row W (w.heap.size + 1) 24 [.int .u16 b0, .int .u16 b1, .int .u16 b2]) := Lib.hid fun W h => HM1.out W (hb4.trans (h.mono hb4.size))
      have HN2 : Hid (∀ W, Below w4.heap.size w4 W → Row W (w.heap.size + 1 + 1) 24 [.int .u16 c0, .int .u16 c1, .int .u16 c2]) := Lib.hid fun W h => HM2.out W (hb4.trans (h.mono hb4.size))
      have HV4 : Hid (∀ W, Below w4.heap.size w4 W → VG W) := Lib.hid fun W h => HG.out.below (HB4.out.trans (h.mono HB4.out.size))
      clear p0 p1 p2 q0 q1 q2 hb4
      have p0 := (HN0.out _ (Below.refl _ _)).cell 0
      have p1 := (HN0.out _ (Below.refl _ _)).cell 1
      have p2 := (HN0.out _ (Below.refl _ _)).cell 2
      have q0 := (HN1.out _ (Below.refl _ _)).cell 0
      have q1 := (HN1.out _ (Below.refl _ _)).cell 1
      have q2 := (HN1.out _ (Below.refl _ _)).cell 2
      simp only [List.getElem?_cons_zero, List.getElem?_cons_succ] at p0 p1 p2 q0 q1 q2
      go_wp2_with fail
      have hyd : decide (y ≤ 0) = true ∨ decide (y ≤ 0) = false := by cases decide (y ≤ 0) <;> simp
      first
        | rw [show decide (y ≤ 0) = true from decide_eq_true hy] at WI
        | rw [show decide (y ≤ 0) = false from decide_eq_false (by omega)] at WI
      simp only [Int.reduceNeg, Int.reduceLE, decide_true, decide_false, Bool.true_and, Bool.false_and] at WI
      clear heq p0 p1 p2 q0 q1 q2 hyd
      refine region_quiet_lit (Below w4.heap.size w4) (by kernel_rfl) (by kernel_rfl) (below_dr (Below.refl _ _) 1) ?_
      repeat (first
        | (go_big_quiet_want; (first
            | refine quiet_load_row 24 (.tmp 3) (by rfl) w.heap.size (by rfl) 24 [.int .u16 a0, .int .u16 a1, .int .u16 a2] _ HN0.out HI.out.1 rfl HI.out.2 ?_
            | refine quiet_load_row 24 (.tmp 4) (by rfl) (w.heap.size + 1) (by rfl) 24 [.int .u16 b0, .int .u16 b1, .int .u16 b2] _ HN1.out HI.out.1 rfl HI.out.2 ?_
            | refine quiet_load_row 24 (.tmp 5) (by rfl) (w.heap.size + 1 + 1) (by rfl) 24 [.int .u16 c0, .int .u16 c1, .int .u16 c2] _ HN2.out HI.out.1 rfl HI.out.2 ?_); go_big_quiet_on; simp only [Act.put, List.setIfInBounds_toArray, List.set_cons_zero, List.set_cons_succ])
        | go_big_quiet_step ((first
          | (intro hC; with_reducible rfl)
          | (intro hC; go_at_call 9; (first | (with_reducible refine (TA.out _ (HV4.out _ hC).t10).mono ?_) | (with_reducible refine (TB.out _ (HV4.out _ hC).t10).mono ?_) | (with_reducible refine (TC.out _ (HV4.out _ hC).t10).mono ?_)); rintro e w'' ⟨rfl, hb⟩; exact ⟨rfl, hC.trans (hb.mono hC.size)⟩)
          | (intro hC; go_at_call 14; refine (WI.out _ (HV4.out _ hC)).mono ?_; rintro e w'' ⟨rfl, hb⟩; exact ⟨rfl, hC.trans (hb.mono hC.size)⟩))))
      refine wpQuiet_nil ?_
      intro w5 hw5
      go_wp2
      go_ret
      exact ⟨ret_boolE (by simp <;> omega), HB4.out.trans (hw5.mono HB4.out.size)⟩
end Go.Proofs.YtcimcnlonepbcaaDoor
