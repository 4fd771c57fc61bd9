/- The walk of RangesNeighbours. -/
import Derived.Test.YtcimcnlonepbcaaGreatDoorRMeet
namespace Go.Proofs.YtcimcnlonepbcaaGreatDoor
open Go.RowKit
set_option linter.unusedVariables false

/-- What the law finds again. -/
def NI (c0 : Nat) (a b : RG) (w W : World) : Prop := Row W c0 23 a.cells ∧ Row W (c0 + 1) 23 b.cells ∧ Below c0 w W
theorem NI.below {c0 : Nat} {a b : RG} {w W W' : World} (h : NI c0 a b w W) (hb : Below W.heap.size W W') : NI c0 a b w W' :=
  ⟨h.1.below hb h.1.lt, h.2.1.below hb h.2.1.lt, h.2.2.trans (hb.mono (Nat.le_of_lt h.1.lt))⟩

set_option maxRecDepth 100000 in
set_option maxHeartbeats 4000000 in
theorem RangesNeighbours_walk (a b : RG) (w0 : -9223372036854775808 ≤ a.mode ∧ a.mode ≤ 9223372036854775807) (w1 : -9223372036854775808 ≤ b.mode ∧ b.mode ≤ 9223372036854775807) (w : World) (hG : VG w) (hN : NV w) :
    Calls Tryz.prog 6 #[.agg #[.string a.lo, .string a.hi, .string a.acs, .string a.low, .string a.high, .int .i64 a.mode], .agg #[.string b.lo, .string b.hi, .string b.acs, .string b.low, .string b.high, .int .i64 b.mode]] w fun e w' => e = .returned (.bool true) ∧ Below w.heap.size w w' := by
  obtain ⟨c0, hc0⟩ : ∃ c, w.heap.size = c := ⟨_, rfl⟩
  have H0 : Hid (Row ((w.alloc (.cells #[.string a.lo, .string a.hi, .string a.acs, .string a.low, .string a.high, .int .i64 a.mode] 23)).alloc (.cells #[.string b.lo, .string b.hi, .string b.acs, .string b.low, .string b.high, .int .i64 b.mode] 23)) c0 23 a.cells ∧
      Row ((w.alloc (.cells #[.string a.lo, .string a.hi, .string a.acs, .string a.low, .string a.high, .int .i64 a.mode] 23)).alloc (.cells #[.string b.lo, .string b.hi, .string b.acs, .string b.low, .string b.high, .int .i64 b.mode] 23)) (c0 + 1) 23 b.cells ∧
      Below c0 w ((w.alloc (.cells #[.string a.lo, .string a.hi, .string a.acs, .string a.low, .string a.high, .int .i64 a.mode] 23)).alloc (.cells #[.string b.lo, .string b.hi, .string b.acs, .string b.low, .string b.high, .int .i64 b.mode] 23))) := Lib.hid (by
    rw [← hc0]
    have z1 : (w.alloc (.cells #[.string a.lo, .string a.hi, .string a.acs, .string a.low, .string a.high, .int .i64 a.mode] 23)).heap.size = w.heap.size + 1 := by simp
    refine ⟨(Row.self w _ _).alloc _, ?_, ((Below.refl _ _).alloc (Nat.le_refl _) _).alloc (by simp) _⟩
    rw [← z1]
    exact Row.self _ _ _)
  have HVG : Hid (∀ W, Below c0 w W → VG W) := Lib.hid fun W h => hG.below (by rw [hc0]; exact h)
  have HNV : Hid (∀ W, Below c0 w W → NV W) := Lib.hid fun W h => hN.below (by rw [hc0]; exact h)
  have HLa := Lib.hid (fun W => Light_any a W)
  have HLb := Lib.hid (fun W => Light_any b W)
  have HAl : Hid (lightB a = true → a.light) := Lib.hid fun h => by
    unfold lightB at h
    have h2 := of_decide_eq_true h
    exact ⟨by omega, by omega, by omega, by omega, by omega, w0.1, w0.2⟩
  have HBl : Hid (lightB b = true → b.light) := Lib.hid fun h => by
    unfold lightB at h
    have h2 := of_decide_eq_true h
    exact ⟨by omega, by omega, by omega, by omega, by omega, w1.1, w1.2⟩
  obtain ⟨la, hla⟩ : ∃ l, lightB a = l := ⟨_, rfl⟩
  obtain ⟨lb, hlb⟩ : ∃ l, lightB b = l := ⟨_, rfl⟩
  rw [hla] at HLa HAl
  rw [hlb] at HLb HBl
  clear hla hlb hG hN w0 w1
  have HC0 := Lib.hid hc0
  go_enter Tryz.func6, Tryz.ntmps6
  go_wp2_with fail
  generalize (w.alloc (.cells #[.string a.lo, .string a.hi, .string a.acs, .string a.low, .string a.high, .int .i64 a.mode] 23)).alloc (.cells #[.string b.lo, .string b.hi, .string b.acs, .string b.low, .string b.high, .int .i64 b.mode] 23) = w1 at H0 ⊢
  have N1 : Hid (NI c0 a b w w1) := H0
  clear H0
  refine (awake18_any _ (HVG.out _ N1.out.2.2) (HNV.out _ N1.out.2.2)).mono ?_
  rintro e w2 ⟨rfl, hb⟩
  have N2 := Lib.hid (NI.below N1.out hb)
  clear hb
  have p0 := N2.out.1.cell 0
  have p1 := N2.out.1.cell 1
  have p2 := N2.out.1.cell 2
  have p3 := N2.out.1.cell 3
  have p4 := N2.out.1.cell 4
  have p5 := N2.out.1.cell 5
  have q0 := N2.out.2.1.cell 0
  have q1 := N2.out.2.1.cell 1
  have q2 := N2.out.2.1.cell 2
  have q3 := N2.out.2.1.cell 3
  have q4 := N2.out.2.1.cell 4
  have q5 := N2.out.2.1.cell 5
  simp only [RG.cells, List.getElem?_cons_zero, List.getElem?_cons_succ] at p0 p1 p2 p3 p4 p5 q0 q1 q2 q3 q4 q5
  go_wp2_with fail
  refine (HLa.out _).mono ?_
  rintro e w3 ⟨rfl, hb⟩
  have N3 := Lib.hid (NI.below N2.out hb)
  clear hb p0 p1 p2 p3 p4 p5 q0 q1 q2 q3 q4 q5
  have p0 := N3.out.1.cell 0
  have p1 := N3.out.1.cell 1
  have p2 := N3.out.1.cell 2
  have p3 := N3.out.1.cell 3
  have p4 := N3.out.1.cell 4
  have p5 := N3.out.1.cell 5
  have q0 := N3.out.2.1.cell 0
  have q1 := N3.out.2.1.cell 1
  have q2 := N3.out.2.1.cell 2
  have q3 := N3.out.2.1.cell 3
  have q4 := N3.out.2.1.cell 4
  have q5 := N3.out.2.1.cell 5
  simp only [RG.cells, List.getElem?_cons_zero, List.getElem?_cons_succ] at p0 p1 p2 p3 p4 p5 q0 q1 q2 q3 q4 q5
  cases la with
  | false =>
    go_wp2
    go_ret
    exact ⟨rfl, by rw [HC0.out]; exact N3.out.2.2⟩
  | true =>
    have hal := HAl.out rfl
    have HKa := Lib.hid (fun W h => Check_any a hal W h)
    have HAA := Lib.hid hal
    clear hal
    go_wp2_with fail
    refine (HLb.out _).mono ?_
    rintro e w4 ⟨rfl, hb⟩
    have N4 := Lib.hid (NI.below N3.out hb)
    clear hb p0 p1 p2 p3 p4 p5 q0 q1 q2 q3 q4 q5
    have p0 := N4.out.1.cell 0
    have p1 := N4.out.1.cell 1
    have p2 := N4.out.1.cell 2
    have p3 := N4.out.1.cell 3
    have p4 := N4.out.1.cell 4
    have p5 := N4.out.1.cell 5
    have q0 := N4.out.2.1.cell 0
    have q1 := N4.out.2.1.cell 1
    have q2 := N4.out.2.1.cell 2
    have q3 := N4.out.2.1.cell 3
    have q4 := N4.out.2.1.cell 4
    have q5 := N4.out.2.1.cell 5
    simp only [RG.cells, List.getElem?_cons_zero, List.getElem?_cons_succ] at p0 p1 p2 p3 p4 p5 q0 q1 q2 q3 q4 q5
    cases lb with
    | false =>
      go_wp2
      go_ret
      exact ⟨rfl, by rw [HC0.out]; exact N4.out.2.2⟩
    | true =>
      have hbl := HBl.out rfl
      have HKb := Lib.hid (fun W h => Check_any b hbl W h)
      have HBB := Lib.hid hbl
      clear hbl
      obtain ⟨ka, hka⟩ : ∃ k, chkN a = k := ⟨_, rfl⟩
      obtain ⟨kb, hkb⟩ : ∃ k, chkN b = k := ⟨_, rfl⟩
      rw [hka] at HKa
      rw [hkb] at HKb
      have HKAE := Lib.hid hka
      have HKBE := Lib.hid hkb
      clear hka hkb
      go_wp2_with fail
      refine (HKa.out _ (HVG.out _ N4.out.2.2)).mono ?_
      rintro e w5 ⟨rfl, hb⟩
      have N5 := Lib.hid (NI.below N4.out hb)
      clear hb p0 p1 p2 p3 p4 p5 q0 q1 q2 q3 q4 q5
      have p0 := N5.out.1.cell 0
      have p1 := N5.out.1.cell 1
      have p2 := N5.out.1.cell 2
      have p3 := N5.out.1.cell 3
      have p4 := N5.out.1.cell 4
      have p5 := N5.out.1.cell 5
      have q0 := N5.out.2.1.cell 0
      have q1 := N5.out.2.1.cell 1
      have q2 := N5.out.2.1.cell 2
      have q3 := N5.out.2.1.cell 3
      have q4 := N5.out.2.1.cell 4
      have q5 := N5.out.2.1.cell 5
      simp only [RG.cells, List.getElem?_cons_zero, List.getElem?_cons_succ] at p0 p1 p2 p3 p4 p5 q0 q1 q2 q3 q4 q5
      by_cases ha0 : ka = 0
      · subst ha0
        go_wp2_with fail
        refine (HKb.out _ (HVG.out _ N5.out.2.2)).mono ?_
        rintro e w6 ⟨rfl, hb⟩
        have N6 := Lib.hid (NI.below N5.out hb)
        clear hb p0 p1 p2 p3 p4 p5 q0 q1 q2 q3 q4 q5
        have p0 := N6.out.1.cell 0
        have p1 := N6.out.1.cell 1
        have p2 := N6.out.1.cell 2
        have p3 := N6.out.1.cell 3
        have p4 := N6.out.1.cell 4
        have p5 := N6.out.1.cell 5
        have q0 := N6.out.2.1.cell 0
        have q1 := N6.out.2.1.cell 1
        have q2 := N6.out.2.1.cell 2
        have q3 := N6.out.2.1.cell 3
        have q4 := N6.out.2.1.cell 4
        have q5 := N6.out.2.1.cell 5
        simp only [RG.cells, List.getElem?_cons_zero, List.getElem?_cons_succ] at p0 p1 p2 p3 p4 p5 q0 q1 q2 q3 q4 q5
        by_cases hb0 : kb = 0
        · subst hb0
          have HNew := Lib.hid (fun s W h1 h2 => New_any [a, b] (by
            intro r hr
            rcases List.mem_cons.1 hr with rfl | hr
            · exact HAA.out
            · rcases List.mem_cons.1 hr with rfl | hr
              · exact HBB.out
              · cases hr) (by simp) (stands_two a b HKAE.out) s W h1 h2)
          have HMeet := Lib.hid (meets a b HKAE.out HKBE.out)
          have HErr := Lib.hid (err_two a b HKBE.out)
          have HTab := Lib.hid (tab_two a b HKAE.out)
          have HH1 := Lib.hid (fun W => Has_any a HAA.out b.lo (by have := HBB.out.1; omega) W)
          have HH2 := Lib.hid (fun W => Has_any a HAA.out b.hi (by have := HBB.out.2.1; omega) W)
          have HH3 := Lib.hid (fun W => Has_any b HBB.out a.lo (by have := HAA.out.1; omega) W)
          have HH4 := Lib.hid (fun W => Has_any b HBB.out a.hi (by have := HAA.out.2.1; omega) W)
          go_wp2_with fail
          have BA : Below w6.heap.size w6 (w6.alloc (.cells #[.string a.lo, .string a.hi, .string a.acs, .string a.low, .string a.high, .int .i64 a.mode, .string b.lo, .string b.hi, .string b.acs, .string b.low, .string b.high, .int .i64 b.mode] 23)) := (Below.refl _ _).alloc (Nat.le_refl _) _
          have TA : TBL (w6.alloc (.cells #[.string a.lo, .string a.hi, .string a.acs, .string a.low, .string a.high, .int .i64 a.mode, .string b.lo, .string b.hi, .string b.acs, .string b.low, .string b.high, .int .i64 b.mode] 23)) (.slice (some ⟨w6.heap.size, 0, none⟩) 2 2) [a, b] :=
            ⟨rfl, Or.inr ⟨w6.heap.size, 2, _, rfl, Nat.zero_le _, Row.self w6 _ _, by simp, by unfold maxLen; omega, rfl, rfl⟩⟩
          have N7 := Lib.hid (NI.below N6.out BA)
          generalize w6.alloc (.cells #[.string a.lo, .string a.hi, .string a.acs, .string a.low, .string a.high, .int .i64 a.mode, .string b.lo, .string b.hi, .string b.acs, .string b.low, .string b.high, .int .i64 b.mode] 23) = w7 at TA N7 ⊢
          refine (HNew.out _ _ (HVG.out _ N7.out.2.2) TA).mono ?_
          rintro e w8 ⟨hb, hcase⟩
          have N8 := Lib.hid (NI.below N7.out hb)
          clear hb TA BA p0 p1 p2 p3 p4 p5 q0 q1 q2 q3 q4 q5
          obtain ⟨h1, hh1⟩ : ∃ x, hasB a b.lo = x := ⟨_, rfl⟩
          obtain ⟨h2, hh2⟩ : ∃ x, hasB a b.hi = x := ⟨_, rfl⟩
          obtain ⟨h3, hh3⟩ : ∃ x, hasB b a.lo = x := ⟨_, rfl⟩
          obtain ⟨h4, hh4⟩ : ∃ x, hasB b a.hi = x := ⟨_, rfl⟩
          have hM := HMeet.out
          rw [hh1, hh2, hh3, hh4] at hM
          rw [hh1] at HH1
          rw [hh2] at HH2
          rw [hh3] at HH3
          rw [hh4] at HH4
          clear hh1 hh2 hh3 hh4 HMeet
          obtain ⟨xa, xn, xc, er, rfl, her⟩ : ∃ (xa : Option Addr) (xn xc : Nat) (er : Int), e = .returned (.tuple #[.agg #[.slice xa xn xc], .int .i64 er]) ∧ er = if apartB b a = true then 0 else 17 := by
            rcases hcase with ⟨i, hi, t, ht, hne, rfl⟩ | ⟨t, s', ht, rfl, hTs⟩
            · match i, hi, ht, hne with
              | 0, _, ht, hne =>
                rw [HTab.out.1] at ht
                injection ht with ht
                subst ht
                exact absurd HTab.out.2.2 hne
              | 1, _, ht, hne =>
                rw [HTab.out.2.1] at ht
                injection ht with ht
                subst ht
                exact ⟨_, _, _, _, rfl, HErr.out⟩
            · obtain ⟨ya, yc, rfl⟩ := hTs.slice
              refine ⟨_, _, _, _, rfl, ?_⟩
              have h2 : tabN [a, b] 2 = if errA [a] b = 0 then some (insL [a] (plc [a] b) b) else none := by
                rw [show (2 : Nat) = 1 + 1 from rfl, tabN, HTab.out.2.1]
                dsimp only
                rw [dif_pos (show 1 < [a, b].length by simp)]
                rfl
              rw [show [a, b].length = 2 from rfl, h2] at ht
              by_cases hz : errA [a] b = 0
              · rw [← HErr.out, hz]
              · rw [if_neg hz] at ht
                cases ht
          clear hcase
          obtain ⟨ap, hap⟩ : ∃ x, apartB b a = x := ⟨_, rfl⟩
          rw [hap] at hM her
          clear hap
          cases ap with
          | true =>
            rw [if_pos rfl] at her
            subst her
            have hM4 : h1 = false ∧ h2 = false ∧ h3 = false ∧ h4 = false := by
              cases h1 <;> cases h2 <;> cases h3 <;> cases h4 <;> simp at hM <;> simp
            obtain ⟨rfl, rfl, rfl, rfl⟩ := hM4
            clear hM
            have p0 := N8.out.1.cell 0
            have p1 := N8.out.1.cell 1
            have p2 := N8.out.1.cell 2
            have p3 := N8.out.1.cell 3
            have p4 := N8.out.1.cell 4
            have p5 := N8.out.1.cell 5
            have q0 := N8.out.2.1.cell 0
            have q1 := N8.out.2.1.cell 1
            have q2 := N8.out.2.1.cell 2
            have q3 := N8.out.2.1.cell 3
            have q4 := N8.out.2.1.cell 4
            have q5 := N8.out.2.1.cell 5
            simp only [RG.cells, List.getElem?_cons_zero, List.getElem?_cons_succ] at p0 p1 p2 p3 p4 p5 q0 q1 q2 q3 q4 q5
            have hs1 : c0 + 1 < w8.heap.size := N8.out.2.1.lt
            have hs0 : c0 < w8.heap.size := N8.out.1.lt
            have N9 : Hid (NI c0 a b w (w8.alloc (.cells #[.slice xa xn xc] 38))) := Lib.hid (NI.below N8.out ((Below.refl _ _).alloc (Nat.le_refl _) _))
            go_wp2_with fail
            refine (HH1.out _).mono ?_
            rintro e w10 ⟨rfl, hb⟩
            have N10 := Lib.hid (NI.below N9.out hb)
            clear hb p0 p1 p2 p3 p4 p5 q0 q1 q2 q3 q4 q5
            have p0 := N10.out.1.cell 0
            have p1 := N10.out.1.cell 1
            have p2 := N10.out.1.cell 2
            have p3 := N10.out.1.cell 3
            have p4 := N10.out.1.cell 4
            have p5 := N10.out.1.cell 5
            have q0 := N10.out.2.1.cell 0
            have q1 := N10.out.2.1.cell 1
            have q2 := N10.out.2.1.cell 2
            have q3 := N10.out.2.1.cell 3
            have q4 := N10.out.2.1.cell 4
            have q5 := N10.out.2.1.cell 5
            simp only [RG.cells, List.getElem?_cons_zero, List.getElem?_cons_succ] at p0 p1 p2 p3 p4 p5 q0 q1 q2 q3 q4 q5
            go_wp2_with fail
            refine (HH2.out _).mono ?_
            rintro e w11 ⟨rfl, hb⟩
            have N11 := Lib.hid (NI.below N10.out hb)
            clear hb p0 p1 p2 p3 p4 p5 q0 q1 q2 q3 q4 q5
            have p0 := N11.out.1.cell 0
            have p1 := N11.out.1.cell 1
            have p2 := N11.out.1.cell 2
            have p3 := N11.out.1.cell 3
            have p4 := N11.out.1.cell 4
            have p5 := N11.out.1.cell 5
            have q0 := N11.out.2.1.cell 0
            have q1 := N11.out.2.1.cell 1
            have q2 := N11.out.2.1.cell 2
            have q3 := N11.out.2.1.cell 3
            have q4 := N11.out.2.1.cell 4
            have q5 := N11.out.2.1.cell 5
            simp only [RG.cells, List.getElem?_cons_zero, List.getElem?_cons_succ] at p0 p1 p2 p3 p4 p5 q0 q1 q2 q3 q4 q5
            go_wp2_with fail
            refine (HH3.out _).mono ?_
            rintro e w12 ⟨rfl, hb⟩
            have N12 := Lib.hid (NI.below N11.out hb)
            clear hb p0 p1 p2 p3 p4 p5 q0 q1 q2 q3 q4 q5
            have p0 := N12.out.1.cell 0
            have p1 := N12.out.1.cell 1
            have p2 := N12.out.1.cell 2
            have p3 := N12.out.1.cell 3
            have p4 := N12.out.1.cell 4
            have p5 := N12.out.1.cell 5
            have q0 := N12.out.2.1.cell 0
            have q1 := N12.out.2.1.cell 1
            have q2 := N12.out.2.1.cell 2
            have q3 := N12.out.2.1.cell 3
            have q4 := N12.out.2.1.cell 4
            have q5 := N12.out.2.1.cell 5
            simp only [RG.cells, List.getElem?_cons_zero, List.getElem?_cons_succ] at p0 p1 p2 p3 p4 p5 q0 q1 q2 q3 q4 q5
            go_wp2_with fail
            refine (HH4.out _).mono ?_
            rintro e w13 ⟨rfl, hb⟩
            have N13 := Lib.hid (NI.below N12.out hb)
            clear hb p0 p1 p2 p3 p4 p5 q0 q1 q2 q3 q4 q5
            have p0 := N13.out.1.cell 0
            have p1 := N13.out.1.cell 1
            have p2 := N13.out.1.cell 2
            have p3 := N13.out.1.cell 3
            have p4 := N13.out.1.cell 4
            have p5 := N13.out.1.cell 5
            have q0 := N13.out.2.1.cell 0
            have q1 := N13.out.2.1.cell 1
            have q2 := N13.out.2.1.cell 2
            have q3 := N13.out.2.1.cell 3
            have q4 := N13.out.2.1.cell 4
            have q5 := N13.out.2.1.cell 5
            simp only [RG.cells, List.getElem?_cons_zero, List.getElem?_cons_succ] at p0 p1 p2 p3 p4 p5 q0 q1 q2 q3 q4 q5
            go_wp2
            go_ret
            exact ⟨rfl, by rw [HC0.out]; exact N13.out.2.2⟩
          | false =>
            rw [if_neg (by decide)] at her
            subst her
            have p0 := N8.out.1.cell 0
            have p1 := N8.out.1.cell 1
            have p2 := N8.out.1.cell 2
            have p3 := N8.out.1.cell 3
            have p4 := N8.out.1.cell 4
            have p5 := N8.out.1.cell 5
            have q0 := N8.out.2.1.cell 0
            have q1 := N8.out.2.1.cell 1
            have q2 := N8.out.2.1.cell 2
            have q3 := N8.out.2.1.cell 3
            have q4 := N8.out.2.1.cell 4
            have q5 := N8.out.2.1.cell 5
            simp only [RG.cells, List.getElem?_cons_zero, List.getElem?_cons_succ] at p0 p1 p2 p3 p4 p5 q0 q1 q2 q3 q4 q5
            have hs1 : c0 + 1 < w8.heap.size := N8.out.2.1.lt
            have hs0 : c0 < w8.heap.size := N8.out.1.lt
            have N9 : Hid (NI c0 a b w (w8.alloc (.cells #[.slice xa xn xc] 38))) := Lib.hid (NI.below N8.out ((Below.refl _ _).alloc (Nat.le_refl _) _))
            go_wp2_with fail
            refine (HH1.out _).mono ?_
            rintro e w10 ⟨rfl, hb⟩
            have N10 := Lib.hid (NI.below N9.out hb)
            clear hb p0 p1 p2 p3 p4 p5 q0 q1 q2 q3 q4 q5
            have p0 := N10.out.1.cell 0
            have p1 := N10.out.1.cell 1
            have p2 := N10.out.1.cell 2
            have p3 := N10.out.1.cell 3
            have p4 := N10.out.1.cell 4
            have p5 := N10.out.1.cell 5
            have q0 := N10.out.2.1.cell 0
            have q1 := N10.out.2.1.cell 1
            have q2 := N10.out.2.1.cell 2
            have q3 := N10.out.2.1.cell 3
            have q4 := N10.out.2.1.cell 4
            have q5 := N10.out.2.1.cell 5
            simp only [RG.cells, List.getElem?_cons_zero, List.getElem?_cons_succ] at p0 p1 p2 p3 p4 p5 q0 q1 q2 q3 q4 q5
            cases h1 with
            | true =>
              go_wp2
              go_ret
              exact ⟨rfl, by rw [HC0.out]; exact N10.out.2.2⟩
            | false =>
              go_wp2_with fail
              refine (HH2.out _).mono ?_
              rintro e w11 ⟨rfl, hb⟩
              have N11 := Lib.hid (NI.below N10.out hb)
              clear hb p0 p1 p2 p3 p4 p5 q0 q1 q2 q3 q4 q5
              have p0 := N11.out.1.cell 0
              have p1 := N11.out.1.cell 1
              have p2 := N11.out.1.cell 2
              have p3 := N11.out.1.cell 3
              have p4 := N11.out.1.cell 4
              have p5 := N11.out.1.cell 5
              have q0 := N11.out.2.1.cell 0
              have q1 := N11.out.2.1.cell 1
              have q2 := N11.out.2.1.cell 2
              have q3 := N11.out.2.1.cell 3
              have q4 := N11.out.2.1.cell 4
              have q5 := N11.out.2.1.cell 5
              simp only [RG.cells, List.getElem?_cons_zero, List.getElem?_cons_succ] at p0 p1 p2 p3 p4 p5 q0 q1 q2 q3 q4 q5
              cases h2 with
              | true =>
                go_wp2
                go_ret
                exact ⟨rfl, by rw [HC0.out]; exact N11.out.2.2⟩
              | false =>
                go_wp2_with fail
                refine (HH3.out _).mono ?_
                rintro e w12 ⟨rfl, hb⟩
                have N12 := Lib.hid (NI.below N11.out hb)
                clear hb p0 p1 p2 p3 p4 p5 q0 q1 q2 q3 q4 q5
                have p0 := N12.out.1.cell 0
                have p1 := N12.out.1.cell 1
                have p2 := N12.out.1.cell 2
                have p3 := N12.out.1.cell 3
                have p4 := N12.out.1.cell 4
                have p5 := N12.out.1.cell 5
                have q0 := N12.out.2.1.cell 0
                have q1 := N12.out.2.1.cell 1
                have q2 := N12.out.2.1.cell 2
                have q3 := N12.out.2.1.cell 3
                have q4 := N12.out.2.1.cell 4
                have q5 := N12.out.2.1.cell 5
                simp only [RG.cells, List.getElem?_cons_zero, List.getElem?_cons_succ] at p0 p1 p2 p3 p4 p5 q0 q1 q2 q3 q4 q5
                cases h3 with
                | true =>
                  go_wp2
                  go_ret
                  exact ⟨rfl, by rw [HC0.out]; exact N12.out.2.2⟩
                | false =>
                  go_wp2_with fail
                  refine (HH4.out _).mono ?_
                  rintro e w13 ⟨rfl, hb⟩
                  have N13 := Lib.hid (NI.below N12.out hb)
                  clear hb p0 p1 p2 p3 p4 p5 q0 q1 q2 q3 q4 q5
                  have p0 := N13.out.1.cell 0
                  have p1 := N13.out.1.cell 1
                  have p2 := N13.out.1.cell 2
                  have p3 := N13.out.1.cell 3
                  have p4 := N13.out.1.cell 4
                  have p5 := N13.out.1.cell 5
                  have q0 := N13.out.2.1.cell 0
                  have q1 := N13.out.2.1.cell 1
                  have q2 := N13.out.2.1.cell 2
                  have q3 := N13.out.2.1.cell 3
                  have q4 := N13.out.2.1.cell 4
                  have q5 := N13.out.2.1.cell 5
                  simp only [RG.cells, List.getElem?_cons_zero, List.getElem?_cons_succ] at p0 p1 p2 p3 p4 p5 q0 q1 q2 q3 q4 q5
                  cases h4 with
                  | true =>
                    go_wp2
                    go_ret
                    exact ⟨rfl, by rw [HC0.out]; exact N13.out.2.2⟩
                  | false =>
                    simp at hM
        · have hkb : (kb != 0) = true := by rw [bne_iff_ne]; exact hb0
          go_wp2
          go_ret
          exact ⟨rfl, by rw [HC0.out]; exact N6.out.2.2⟩
      · have hka : (ka != 0) = true := by rw [bne_iff_ne]; exact ha0
        go_wp2
        go_ret
        exact ⟨rfl, by rw [HC0.out]; exact N5.out.2.2⟩
end Go.Proofs.YtcimcnlonepbcaaGreatDoor
