/- The walk of RangesCheck. -/
import Derived.Test.YtcimcnlonepbcaaGreatDoorRHas
import Derived.Test.YtcimcnlonepbcaaGreatDoorROpen
import Derived.Test.YtcimcnlonepbcaaGreatDoorQuietL
namespace Go.Proofs.YtcimcnlonepbcaaGreatDoor
open Go.RowKit
set_option linter.unusedVariables false

theorem chk_zero (r : RG) (h : chkN r = 0) : isD r.lo = true ∧ isD r.hi = true ∧ r.lo.size = r.hi.size := by
  unfold chkN at h
  by_cases hb : (numB r.lo && numB r.hi && decide (r.lo.size = r.hi.size)) = false
  · rw [if_pos hb] at h
    cases h
  · rw [Bool.not_eq_false] at hb
    simp only [Bool.and_eq_true, decide_eq_true_eq] at hb
    obtain ⟨⟨h1, h2⟩, h3⟩ := hb
    unfold numB at h1 h2
    simp only [Bool.and_eq_true] at h1 h2
    exact ⟨h1.1.1, h2.1.1, h3⟩

set_option maxRecDepth 100000 in
set_option maxHeartbeats 4000000 in
theorem RangesCheck_walk (r : RG) (a1 a2 : ByteArray) (w0 : -9223372036854775808 ≤ r.mode ∧ r.mode ≤ 9223372036854775807) (w1 : a1.size ≤ 140737488355328) (w2 : a2.size ≤ 140737488355328) (w : World) (hG : VG w) (hN : NV w) :
    Calls Tryz.prog 3 #[.agg #[.string r.lo, .string r.hi, .string r.acs, .string r.low, .string r.high, .int .i64 r.mode], .string a1, .string a2] w fun e w' => e = .returned (.bool true) ∧ Below w.heap.size w w' := by
  have H0 := Lib.hid (Row.new w 23 [.string r.lo, .string r.hi, .string r.acs, .string r.low, .string r.high, .int .i64 r.mode])
  have HB0 := Lib.hid ((Below.refl w.heap.size w).alloc (Nat.le_refl _) (.cells [Value.string r.lo, .string r.hi, .string r.acs, .string r.low, .string r.high, .int .i64 r.mode].toArray 23))
  have HG := Lib.hid hG
  have HN := Lib.hid hN
  have HL := Lib.hid (fun W => Light_any r W)
  have hmx := fun ts t W => max2r (P := Tryz.prog) ts t a1.size a2.size W
  have HLI : Hid (lightB r = true → r.light) := Lib.hid fun h => by
    unfold lightB at h
    have h2 := of_decide_eq_true h
    exact ⟨by omega, by omega, by omega, by omega, by omega, w0.1, w0.2⟩
  have HME : Hid (max a1.size a2.size ≤ 60 → a1.size ≤ 60 ∧ a2.size ≤ 60) := Lib.hid fun h => by omega
  obtain ⟨m, hm⟩ : ∃ m, max a1.size a2.size = m := ⟨_, rfl⟩
  rw [hm] at hmx HME
  obtain ⟨l, hl⟩ : ∃ l, lightB r = l := ⟨_, rfl⟩
  rw [hl] at HL HLI
  clear hm hl hG hN
  have hu := Tryz.underlying23
  have HI := Lib.hid (And.intro hu range_size)
  clear hu w0
  go_enter Tryz.func3, Tryz.ntmps3
  go_wp2_with fail
  generalize w.alloc (.cells [Value.string r.lo, .string r.hi, .string r.acs, .string r.low, .string r.high, .int .i64 r.mode].toArray 23) = w1 at H0 HB0 ⊢
  refine (awake18_any _ (HG.out.below HB0.out) (HN.out.below HB0.out)).mono ?_
  rintro e w2 ⟨rfl, hb⟩
  have B2 := Lib.hid (HB0.out.trans (hb.mono HB0.out.size))
  have H2 := Lib.hid (H0.out.below hb H0.out.lt)
  clear hb H0 HB0
  have p0 := H2.out.cell 0
  have p1 := H2.out.cell 1
  have p2 := H2.out.cell 2
  have p3 := H2.out.cell 3
  have p4 := H2.out.cell 4
  have p5 := H2.out.cell 5
  simp only [List.getElem?_cons_zero, List.getElem?_cons_succ] at p0 p1 p2 p3 p4 p5
  go_wp2_with fail
  refine (HL.out _).mono ?_
  rintro e w3 ⟨rfl, hb⟩
  have B3 := Lib.hid (B2.out.trans (hb.mono B2.out.size))
  have H3 := Lib.hid (H2.out.below hb H2.out.lt)
  clear hb H2 B2 p0 p1 p2 p3 p4 p5
  have p0 := H3.out.cell 0
  have p1 := H3.out.cell 1
  have p2 := H3.out.cell 2
  have p3 := H3.out.cell 3
  have p4 := H3.out.cell 4
  have p5 := H3.out.cell 5
  simp only [List.getElem?_cons_zero, List.getElem?_cons_succ] at p0 p1 p2 p3 p4 p5
  cases l with
  | false =>
    go_wp2
    go_ret
    exact ⟨rfl, B3.out⟩
  | true =>
    by_cases h60 : m ≤ 60
    · obtain ⟨z1, z2⟩ := HME.out h60
      have h60I : ¬ (60 : Int) < (m : Int) := by omega
      have hR := HLI.out rfl
      have HK := Lib.hid (fun W h => Check_any r hR W h)
      have HKR := Lib.hid (fun W => refCheck18_any r hR W)
      have HC := Lib.hid (fun W => RCmp_any a1 a2 (by omega) (by omega) W)
      have HH := Lib.hid (fun W => Has_any r hR a1 (by omega) W)
      have HHR : Hid (chkN r = 0 → ∀ W, Calls Tryz.prog 13 #[.agg #[.string r.lo, .string r.hi, .string r.acs, .string r.low, .string r.high, .int .i64 r.mode], .string a1] W fun e w' => e = .returned (.bool (hasB r a1)) ∧ Below W.heap.size W w') :=
        Lib.hid fun h W => refHas18_any r hR (chk_zero r h).1 (chk_zero r h).2.1 (chk_zero r h).2.2 a1 (by omega) W
      have HCM : cmpC a1.data.toList a2.data.toList = if a1.size < a2.size then -1 else if a2.size < a1.size then 1 else Lib.compareBytes a1.data.toList a2.data.toList := by
        unfold cmpC
        rw [show a1.data.toList.length = a1.size by simp, show a2.data.toList.length = a2.size by simp]
      have hb1 : Op.bytesLess a1.toList a2.toList = decide (Lib.compareBytes a1.data.toList a2.data.toList < 0) := by rw [ByteArray.toList_eq, ByteArray.toList_eq]; exact bless_cmp _ _
      have hb2 : (a1.toList == a2.toList) = decide (Lib.compareBytes a1.data.toList a2.data.toList = 0) := by
        rw [ByteArray.toList_eq, ByteArray.toList_eq, Bool.eq_iff_iff, beq_iff_eq, decide_eq_true_eq]
        exact (cmpB_eq _ _).symm
      have hrg := cmpB_range a1.data.toList a2.data.toList
      obtain ⟨k, hk⟩ : ∃ k, chkN r = k := ⟨_, rfl⟩
      rw [hk] at HK HKR HHR
      obtain ⟨x, hx⟩ : ∃ x, hasB r a1 = x := ⟨_, rfl⟩
      rw [hx] at HH HHR
      obtain ⟨c, hc⟩ : ∃ c, cmpC a1.data.toList a2.data.toList = c := ⟨_, rfl⟩
      obtain ⟨b, hbq⟩ : ∃ b, Lib.compareBytes a1.data.toList a2.data.toList = b := ⟨_, rfl⟩
      rw [hbq] at HCM hb1 hb2 hrg
      rw [hc] at HC HCM
      clear hk hx hc hbq HME HLI h60 hR
      obtain ⟨g1, g2⟩ := hrg
      have hcase : (c = -1 ∧ a1.size < a2.size) ∨ (c = 1 ∧ a2.size < a1.size) ∨ (a1.size = a2.size ∧ b = -1 ∧ c = -1) ∨ (a1.size = a2.size ∧ b = 0 ∧ c = 0) ∨ (a1.size = a2.size ∧ b = 1 ∧ c = 1) := by
        rw [HCM]
        split
        · exact Or.inl ⟨rfl, by omega⟩
        · split
          · exact Or.inr (Or.inl ⟨rfl, by omega⟩)
          · omega
      have hlt : a1.size < a2.size → (a1.size : Int) < (a2.size : Int) := fun h => by omega
      have hgt : a2.size < a1.size → ¬ (a1.size : Int) < (a2.size : Int) ∧ ((a1.size : Int) == (a2.size : Int)) = false ∧ (a2.size : Int) < (a1.size : Int) := fun h => ⟨by omega, by rw [beq_eq_false_iff_ne]; omega, by omega⟩
      have hee : a1.size = a2.size → ¬ (a1.size : Int) < (a2.size : Int) ∧ ((a1.size : Int) == (a2.size : Int)) = true ∧ ¬ (a2.size : Int) < (a1.size : Int) := fun h => ⟨by omega, by rw [beq_iff_eq]; omega, by omega⟩
      clear HCM g1 g2
      rcases hcase with ⟨rfl, hs⟩ | ⟨rfl, hs⟩ | ⟨hs, rfl, rfl⟩ | ⟨hs, rfl, rfl⟩ | ⟨hs, rfl, rfl⟩
      all_goals
        first
          | (have q1 := hlt hs)
          | (have hq := hgt hs; obtain ⟨q1, q2, q3⟩ := hq)
          | (have hq := hee hs; obtain ⟨q1, q2, q3⟩ := hq)
        try simp only [Int.reduceNeg, Int.reduceLT, Int.reduceEq, decide_true, decide_false] at hb1 hb2
        clear hlt hgt hee hs z1 z2
        go_wp2_with fail
        refine (HK.out _ (HG.out.below B3.out)).mono ?_
        rintro e w4 ⟨rfl, hb4⟩
        have B4 := Lib.hid (B3.out.trans (hb4.mono B3.out.size))
        have HL4 : Hid (∀ W, Below w4.heap.size w4 W → Row W w.heap.size 23 [.string r.lo, .string r.hi, .string r.acs, .string r.low, .string r.high, .int .i64 r.mode]) := Lib.hid fun W h => (H3.out.below hb4 H3.out.lt).below h (H3.out.below hb4 H3.out.lt).lt
        clear hb4
        clear p0 p1 p2 p3 p4 p5 hb1 hb2
        by_cases hk0 : k = 0
        · subst hk0
          have HHR0 := Lib.hid (HHR.out rfl)
          go_wp2_with fail
          refine region_quiet_lit (Below w4.heap.size w4) (by kernel_rfl) (by kernel_rfl) (below_dr (Below.refl _ _) 1) ?_
          repeat (first
            | (go_big_quiet_want; (first
                | refine quiet_load_row 23 (.tmp 3) (by rfl) w.heap.size (by rfl) 23 [.string r.lo, .string r.hi, .string r.acs, .string r.low, .string r.high, .int .i64 r.mode] _ HL4.out HI.out.1 rfl HI.out.2 ?_); go_big_quiet_on; simp only [Act.put, List.setIfInBounds_toArray, List.set_cons_zero, List.set_cons_succ])
            | go_big_quiet_step ((first
              | (intro hC; with_reducible rfl)
              | (intro hC; go_at_call 10; refine (HKR.out _).mono ?_; rintro e w'' ⟨rfl, hb⟩; exact ⟨rfl, hC.trans (hb.mono hC.size)⟩)
              | (intro hC; go_at_call 11; refine (HC.out _).mono ?_; rintro e w'' ⟨rfl, hb⟩; exact ⟨rfl, hC.trans (hb.mono hC.size)⟩)
              | (intro hC; go_at_call 12; refine (HH.out _).mono ?_; rintro e w'' ⟨rfl, hb⟩; exact ⟨rfl, hC.trans (hb.mono hC.size)⟩)
              | (intro hC; go_at_call 13; refine (HHR0.out _).mono ?_; rintro e w'' ⟨rfl, hb⟩; exact ⟨rfl, hC.trans (hb.mono hC.size)⟩))))
          refine wpQuiet_nil ?_
          intro w5 hw5
          go_wp2
          go_ret
          exact ⟨ret_boolE (by simp), B4.out.trans (hw5.mono B4.out.size)⟩
        · have hkb : (k != 0) = true := by rw [bne_iff_ne]; exact hk0
          go_wp2_with fail
          refine region_quiet_lit (Below w4.heap.size w4) (by kernel_rfl) (by kernel_rfl) (below_dr (Below.refl _ _) 1) ?_
          repeat (first
            | (go_big_quiet_want; (first
                | refine quiet_load_row 23 (.tmp 3) (by rfl) w.heap.size (by rfl) 23 [.string r.lo, .string r.hi, .string r.acs, .string r.low, .string r.high, .int .i64 r.mode] _ HL4.out HI.out.1 rfl HI.out.2 ?_); go_big_quiet_on; simp only [Act.put, List.setIfInBounds_toArray, List.set_cons_zero, List.set_cons_succ])
            | go_big_quiet_step ((first
              | (intro hC; with_reducible rfl)
              | (intro hC; go_at_call 10; refine (HKR.out _).mono ?_; rintro e w'' ⟨rfl, hb⟩; exact ⟨rfl, hC.trans (hb.mono hC.size)⟩)
              | (intro hC; go_at_call 11; refine (HC.out _).mono ?_; rintro e w'' ⟨rfl, hb⟩; exact ⟨rfl, hC.trans (hb.mono hC.size)⟩))))
          refine wpQuiet_nil ?_
          intro w5 hw5
          go_wp2
          go_ret
          exact ⟨ret_boolE (by simp), B4.out.trans (hw5.mono B4.out.size)⟩
    · have h60I : (60 : Int) < (m : Int) := by omega
      go_wp2
      go_ret
      exact ⟨rfl, B3.out⟩
end Go.Proofs.YtcimcnlonepbcaaGreatDoor
