/- The document's Check and Has. -/
import Derived.Test.YtldjnegoefdadaaGreatDoorRCheck
import Derived.Test.YtldjnegoefdadaaGreatDoorVRWithin
namespace Go.Proofs.YtldjnegoefdadaaGreatDoor
open Go.RowKit
set_option linter.unusedVariables false

theorem row_drR {w : World} {g : Nat} {t : TypeId} {l : List Value} (h : Row w g t l) (q : Nat) : Row (w.drewN q) g t l := by
  unfold Row at h ⊢
  rw [show (w.drewN q).heap = w.heap by simp [World.drewN]]
  exact h
theorem cmpV_self (v : V3) : cmpV v v = 0 := (cmpV_zero v v).2 rfl
theorem chk_four (lo hi acs low high : ByteArray) (mode : Int) (h : (numB lo && numB hi && decide (lo.size = hi.size)) = false) : chkN ⟨lo, hi, acs, low, high, mode⟩ = 4 := by unfold chkN; rw [if_pos h]
theorem chk_rest (lo hi acs low high : ByteArray) (mode : Int) (h : (numB lo && numB hi && decide (lo.size = hi.size)) = true) :
    chkN ⟨lo, hi, acs, low, high, mode⟩ = if cmpC hi.data.toList lo.data.toList < 0 then 19 else if nameB acs = false then 2 else if withinB low low high = false then 7 else if mode < 1 ∨ 3 < mode then 11 else 0 := by
  unfold chkN
  rw [if_neg (by simp only; rw [h]; decide)]

set_option maxRecDepth 4000 in
set_option maxHeartbeats 4000000 in
theorem refCheck18_any (r : RG) (hr : r.light) (w : World) :
    Calls Tryz.prog 43 #[.agg #[.string r.lo, .string r.hi, .string r.acs, .string r.low, .string r.high, .int .i64 r.mode]] w fun e w' => e = .returned (.int .i64 (chkN r)) ∧ Below w.heap.size w w' := by
  obtain ⟨lo, hi, acs, low, high, mode⟩ := r
  obtain ⟨z0, z1, z2, z3, z4, m0, m1⟩ := hr
  dsimp only at z0 z1 z2 z3 z4 m0 m1
  have HI1 := Lib.hid (fun W => refIs_any lo W (by omega))
  have HI2 := Lib.hid (fun W => refIs_any hi W (by omega))
  have HC := Lib.hid (fun W => refCmp3_any hi lo (by omega) (by omega) W)
  have HP1 := Lib.hid (fun W => refVParse_v low W z3)
  have HP2 := Lib.hid (fun W => refVParse_v high W z4)
  have htr := cmpC_trim hi.data.toList lo.data.toList
  have hcr := cmpC_range hi.data.toList lo.data.toList
  have h4 := chk_four lo hi acs low high mode
  have hrest := chk_rest lo hi acs low high mode
  obtain ⟨R, hR⟩ : ∃ R, chkN ⟨lo, hi, acs, low, high, mode⟩ = R := ⟨_, rfl⟩
  rw [hR] at h4 hrest ⊢
  clear hR
  have hD1 : isD lo = false → numB lo = false := fun h => by unfold numB; rw [h]; rfl
  have hD2 : isD hi = false → numB hi = false := fun h => by unfold numB; rw [h]; rfl
  have hN1 : isD lo = true → numB lo = (decide (13 ≤ lo.size) && decide (lo.size ≤ 19)) := fun h => by unfold numB; rw [h]; rfl
  have hN2 : isD hi = true → numB hi = (decide (13 ≤ hi.size) && decide (hi.size ≤ 19)) := fun h => by unfold numB; rw [h]; rfl
  have hll : lo.data.toList.length = lo.size := by simp
  have hhl : hi.data.toList.length = hi.size := by simp
  have hdl : isD lo = true → ∀ c ∈ lo.data.toList, isDig c = true := fun h => ((isD_iff lo).1 h).2
  have hdh : isD hi = true → ∀ c ∈ hi.data.toList, isDig c = true := fun h => ((isD_iff hi).1 h).2
  have hwi : withinB low low high = match pv low.data.toList, pv high.data.toList with | some v, some b => decide (cmpV v b ≤ 0) | _, _ => false := by
    unfold withinB
    cases pv low.data.toList with
    | none => rfl
    | some v =>
      cases pv high.data.toList with
      | none => rfl
      | some b => simp only [cmpV_self]; rfl
  obtain ⟨d1, hd1⟩ : ∃ n, isD lo = n := ⟨_, rfl⟩
  obtain ⟨d2, hd2⟩ : ∃ n, isD hi = n := ⟨_, rfl⟩
  obtain ⟨c, hc⟩ : ∃ c, cmpC hi.data.toList lo.data.toList = c := ⟨_, rfl⟩
  obtain ⟨a, ha⟩ : ∃ a, nameB acs = a := ⟨_, rfl⟩
  obtain ⟨i, hi'⟩ : ∃ i, withinB low low high = i := ⟨_, rfl⟩
  obtain ⟨o1, ho1⟩ : ∃ o, pv low.data.toList = o := ⟨_, rfl⟩
  obtain ⟨o2, ho2⟩ : ∃ o, pv high.data.toList = o := ⟨_, rfl⟩
  rw [hd1] at HI1 hD1 hN1 hdl
  rw [hd2] at HI2 hD2 hN2 hdh
  rw [hc] at hcr hrest htr
  rw [ha] at hrest
  rw [hi'] at hrest hwi
  rw [ho1] at HP1 hwi
  rw [ho2] at HP2 hwi
  have HX := Lib.hid (And.intro h4 (And.intro hrest (And.intro hD1 (And.intro hD2 (And.intro hN1 hN2)))))
  have HY := Lib.hid (And.intro htr (And.intro hdl (And.intro hdh (And.intro hll hhl))))
  have HZ := Lib.hid (And.intro ha hwi)
  obtain ⟨c1, c2⟩ := hcr
  have z0I : (lo.size : Int) ≤ 1000 := by omega
  have z1I : (hi.size : Int) ≤ 1000 := by omega
  have H0 := Lib.hid (Row.new w 41 [.string lo, .string hi, .string acs, .string low, .string high, .int .i64 mode])
  have HB0 := Lib.hid ((Below.refl w.heap.size w).alloc (Nat.le_refl _) (.cells [Value.string lo, .string hi, .string acs, .string low, .string high, .int .i64 mode].toArray 41))
  clear h4 hrest hD1 hD2 hN1 hN2 htr hdl hdh hll hhl ha hwi hd1 hd2 hc hi' ho1 ho2 z0 z1 z3 z4
  go_enter Tryz.func43, Tryz.ntmps43
  go_wp2_with fail
  generalize w.alloc (.cells [Value.string lo, .string hi, .string acs, .string low, .string high, .int .i64 mode].toArray 41) = w0 at H0 HB0 ⊢
  have p0 := H0.out.cell 0
  have p1 := H0.out.cell 1
  have p2 := H0.out.cell 2
  have p3 := H0.out.cell 3
  have p4 := H0.out.cell 4
  have p5 := H0.out.cell 5
  simp only [List.getElem?_cons_zero, List.getElem?_cons_succ] at p0 p1 p2 p3 p4 p5
  refine (HI1.out _).mono ?_
  rintro e w1 ⟨rfl, h1⟩
  subst h1
  cases d1 with
  | false =>
    have HRR : Hid (R = 4) := Lib.hid (by exact HX.out.1 (by rw [HX.out.2.2.1 rfl]; rfl))
    go_wp2_with fail
    go_ret
    exact ⟨ret_int_d HRR.out.symm, HB0.out⟩
  | true =>
    go_wp2_with fail
    refine (HI2.out _).mono ?_
    rintro e w1 ⟨rfl, h1⟩
    subst h1
    cases d2 with
    | false =>
      have HRR : Hid (R = 4) := Lib.hid (by exact HX.out.1 (by rw [HX.out.2.2.2.1 (by trivial)]; simp))
      go_wp2_with fail
      go_ret
      exact ⟨ret_int_d HRR.out.symm, HB0.out⟩
    | true =>
      have hbad : ¬ (13 ≤ lo.size ∧ lo.size ≤ 19 ∧ lo.size = hi.size) → R = 4 := fun h => HX.out.1 (by
        rw [HX.out.2.2.2.2.1 (by trivial), HX.out.2.2.2.2.2 (by trivial)]
        rw [Bool.eq_false_iff]
        intro h2
        simp only [Bool.and_eq_true, decide_eq_true_eq] at h2
        omega)
      have HBAD := Lib.hid hbad
      clear hbad
      by_cases h13 : lo.size < 13
      · have h13I : (lo.size : Int) < 13 := by omega
        have HRR : Hid (R = 4) := Lib.hid (by exact HBAD.out (by omega))
        go_wp2_with fail
        go_ret
        exact ⟨ret_int_d HRR.out.symm, HB0.out⟩
      · have h13I : ¬ (lo.size : Int) < 13 := by omega
        by_cases h19 : 19 < lo.size
        · have h19I : (19 : Int) < (lo.size : Int) := by omega
          have HRR : Hid (R = 4) := Lib.hid (by exact HBAD.out (by omega))
          go_wp2_with fail
          go_ret
          exact ⟨ret_int_d HRR.out.symm, HB0.out⟩
        · have h19I : ¬ (19 : Int) < (lo.size : Int) := by omega
          by_cases hsz : lo.size = hi.size
          · have hsq : ((hi.size : Int) != (lo.size : Int)) = false := by rw [bne_eq_false_iff_eq]; omega
            have HR1 := Lib.hid (HX.out.2.1 (by
              rw [HX.out.2.2.2.2.1 (by trivial), HX.out.2.2.2.2.2 (by trivial)]
              simp only [Bool.and_eq_true, decide_eq_true_eq]
              omega))
            have HCE : cmpC (trimZ hi.data.toList) (trimZ lo.data.toList) = c := HY.out.1 (by rw [HY.out.2.2.2.1, HY.out.2.2.2.2]; omega) (HY.out.2.2.1 (by trivial)) (HY.out.2.1 (by trivial))
            rw [HCE] at HC
            clear hsz h13 h19 HCE
            go_wp2_with fail
            refine (HC.out _).mono ?_
            rintro e w1 ⟨rfl, h1⟩
            subst h1
            by_cases hcc : c < 0
            · have HRR : Hid (R = 19) := Lib.hid (by rw [HR1.out, if_pos hcc])
              go_wp2_with fail
              go_ret
              exact ⟨ret_int_d HRR.out.symm, HB0.out⟩
            · have HR2 := Lib.hid (HR1.out.trans (if_neg hcc))
              clear HR1
              by_cases ha1 : acs.size < 1
              · have ha1I : (acs.size : Int) < 1 := by omega
                have HAF : a = false := by rw [← HZ.out.1]; unfold nameB; rw [decide_eq_false (by omega)]; simp
                have HRR : Hid (R = 2) := Lib.hid (by rw [HR2.out, if_pos HAF])
                go_wp2_with fail
                go_ret
                exact ⟨ret_int_d HRR.out.symm, HB0.out⟩
              · have ha1I : ¬ (acs.size : Int) < 1 := by omega
                by_cases ha32 : 32 < acs.size
                · have ha32I : (32 : Int) < (acs.size : Int) := by omega
                  have HAF : a = false := by rw [← HZ.out.1]; unfold nameB; rw [decide_eq_false (p := acs.size ≤ 32) (by omega)]; simp
                  have HRR : Hid (R = 2) := Lib.hid (by rw [HR2.out, if_pos HAF])
                  go_wp2_with fail
                  go_ret
                  exact ⟨ret_int_d HRR.out.symm, HB0.out⟩
                · have ha32I : ¬ (32 : Int) < (acs.size : Int) := by omega
                  go_wp2_with fail
                  go_loop [3] (fun i => ∃ j : Nat, j ≤ acs.size ∧ i = .int .i64 j ∧ Hid ((acs.data.toList.take j).all isPl = true)) (fun i => acs.size - (intOf i).toNat)
                  case atStart => exact ⟨0, Nat.zero_le _, rfl, Lib.hid rfl⟩
                  case round =>
                    obtain ⟨j, hj, rfl, HJ⟩ := hrel
                    by_cases hlt : j < acs.size
                    · cases hp : isPl acs[j] with
                      | true =>
                        have hnext : Hid ((acs.data.toList.take (j + 1)).all isPl = true) := Lib.hid (by rw [all_take acs hlt, HJ.out, hp]; rfl)
                        have h2 : 33 ≤ (acs[j]).toNat ∧ (acs[j]).toNat ≤ 126 := by simpa [isPl] using hp
                        have h33 : (33 : Int) ≤ ((acs[j]).toNat : Int) := by omega
                        have h126 : ((acs[j]).toNat : Int) ≤ 126 := by omega
                        clear hp h2
                        go_wp2
                        go_round
                        case rel => exact ⟨j + 1, by omega, by go_num, hnext⟩
                        case measure => simp [intOf]; omega
                      | false =>
                        have HAF : a = false := by rw [← HZ.out.1]; unfold nameB; rw [all_no acs hlt isPl hp]; rfl
                        have HRR : Hid (R = 2) := Lib.hid (by rw [HR2.out, if_pos HAF])
                        have h2 : ¬ (33 ≤ (acs[j]).toNat ∧ (acs[j]).toNat ≤ 126) := fun h => by rw [show isPl acs[j] = true from by simp [isPl]; omega] at hp; cases hp
                        clear hp HAF
                        by_cases h33 : ((acs[j]).toNat : Int) < 33
                        · clear h2
                          go_wp2
                          go_ret
                          exact ⟨ret_int_d HRR.out.symm, HB0.out⟩
                        · have h126 : (126 : Int) < ((acs[j]).toNat : Int) := by omega
                          clear h2
                          go_wp2
                          go_ret
                          exact ⟨ret_int_d HRR.out.symm, HB0.out⟩
                    · have hall : acs.data.toList.all isPl = true := by
                        have h := HJ.out
                        rwa [List.take_of_length_le (by simp; omega)] at h
                      have HAT : a = true := by rw [← HZ.out.1]; unfold nameB; rw [hall, decide_eq_true (p := acs.size ≠ 0) (by omega), decide_eq_true (p := acs.size ≤ 32) (by omega)]; rfl
                      have HR3 := Lib.hid (HR2.out.trans (if_neg (by rw [HAT]; decide)))
                      clear hall HAT HR2 HJ
                      go_wp2_with fail
                      refine (HP1.out _).mono ?_
                      rintro e w2 ⟨va, rfl, hva, hb2⟩
                      have HVA := Lib.hid hva
                      have HB2 := Lib.hid (HB0.out.trans (hb2.mono HB0.out.size))
                      have H2 := Lib.hid (H0.out.below hb2 H0.out.lt)
                      clear hva hb2 p0 p1 p2 p3 p4 p5
                      have p0 := H2.out.cell 0
                      have p1 := H2.out.cell 1
                      have p2 := H2.out.cell 2
                      have p3 := H2.out.cell 3
                      have p4 := H2.out.cell 4
                      have p5 := H2.out.cell 5
                      simp only [List.getElem?_cons_zero, List.getElem?_cons_succ] at p0 p1 p2 p3 p4 p5
                      go_wp2_with fail
                      refine (HP2.out _).mono ?_
                      rintro e w3 ⟨vb, rfl, hvb, hb3⟩
                      have HVB := Lib.hid hvb
                      have Hb3 := Lib.hid hb3
                      have HB3 := Lib.hid (HB2.out.trans (hb3.mono HB2.out.size))
                      have H3 := Lib.hid (H2.out.below hb3 H2.out.lt)
                      clear hvb hb3 p0 p1 p2 p3 p4 p5
                      have p0 := H3.out.cell 0
                      have p1 := H3.out.cell 1
                      have p2 := H3.out.cell 2
                      have p3 := H3.out.cell 3
                      have p4 := H3.out.cell 4
                      have p5 := H3.out.cell 5
                      simp only [List.getElem?_cons_zero, List.getElem?_cons_succ] at p0 p1 p2 p3 p4 p5
                      cases o1 with
                      | none =>
                        have HIF : i = false := HZ.out.2
                        simp only [Option.isSome_none]
                        have HRR : Hid (R = 7) := Lib.hid (by rw [HR3.out, if_pos HIF])
                        go_wp2_with fail
                        go_ret
                        exact ⟨ret_int_d HRR.out.symm, HB3.out⟩
                      | some v1 =>
                        cases o2 with
                        | none =>
                          have HIF : i = false := HZ.out.2
                          simp only [Option.isSome_none, Option.isSome_some]
                          have HRR : Hid (R = 7) := Lib.hid (by rw [HR3.out, if_pos HIF])
                          go_wp2_with fail
                          go_ret
                          exact ⟨ret_int_d HRR.out.symm, HB3.out⟩
                        | some v2 =>
                          have HIV : i = decide (cmpV v1 v2 ≤ 0) := HZ.out.2
                          have hrg := cmpV_range v1 v2
                          have CC := Lib.hid (fun g1 g2 m1 m2 W h1 h2 => refCmp_v v1 v2 g1 g2 m1 m2 W h1 h2)
                          obtain ⟨x, hx⟩ : ∃ x, cmpV v1 v2 = x := ⟨_, rfl⟩
                          rw [hx] at HIV hrg CC
                          obtain ⟨x1, x2⟩ := hrg
                          have HIV2 := Lib.hid HIV
                          obtain ⟨g1, mm1, rfl, l1, cc1⟩ := HVA.out v1 rfl
                          obtain ⟨g2, mm2, rfl, l2, cc2⟩ := HVB.out v2 rfl
                          have cc1b : Hid (∀ i, i < 3 → w3.cell? ⟨g1, i, none⟩ = some (.int .i64 (get3 v1 i : Nat))) := Lib.hid fun i hi => (Hb3.out.cell (p := ⟨g1, i, none⟩) l1).trans (cc1 i hi)
                          have cc2b := Lib.hid cc2
                          simp only [Option.isSome_some]
                          clear HIV hx cc1 cc2
                          go_wp2_with fail
                          refine (CC.out g1 g2 mm1 mm2 _ cc1b.out cc2b.out).mono ?_
                          rintro e w4 ⟨rfl, q, rfl⟩
                          have H4 := Lib.hid (row_drR H3.out q)
                          have HB4 := Lib.hid (below_dr HB3.out q)
                          clear p0 p1 p2 p3 p4 p5
                          have p0 := H4.out.cell 0
                          have p1 := H4.out.cell 1
                          have p2 := H4.out.cell 2
                          have p3 := H4.out.cell 3
                          have p4 := H4.out.cell 4
                          have p5 := H4.out.cell 5
                          simp only [List.getElem?_cons_zero, List.getElem?_cons_succ] at p0 p1 p2 p3 p4 p5
                          by_cases hx0 : x ≤ 0
                          · have HR4 := Lib.hid (HR3.out.trans (if_neg (by rw [HIV2.out, decide_eq_true hx0]; decide)))
                            have hxI : ¬ 0 < x := by omega
                            by_cases hm1 : mode < 1
                            · have HRR : Hid (R = 11) := Lib.hid (by rw [HR4.out, if_pos (Or.inl hm1)])
                              go_wp2_with fail
                              go_ret
                              exact ⟨ret_int_d HRR.out.symm, HB4.out⟩
                            · by_cases hm3 : 3 < mode
                              · have HRR : Hid (R = 11) := Lib.hid (by rw [HR4.out, if_pos (Or.inr hm3)])
                                go_wp2_with fail
                                go_ret
                                exact ⟨ret_int_d HRR.out.symm, HB4.out⟩
                              · have HRR : Hid (R = 0) := Lib.hid (by rw [HR4.out, if_neg (by omega)])
                                go_wp2_with fail
                                go_ret
                                exact ⟨ret_int_d HRR.out.symm, HB4.out⟩
                          · have hxI : 0 < x := by omega
                            have HIF : i = false := by rw [HIV2.out, decide_eq_false hx0]
                            have HRR : Hid (R = 7) := Lib.hid (by rw [HR3.out, if_pos HIF])
                            go_wp2_with fail
                            go_ret
                            exact ⟨ret_int_d HRR.out.symm, HB4.out⟩
          · have hsq : ((hi.size : Int) != (lo.size : Int)) = true := by rw [bne_iff_ne]; omega
            have HRR : Hid (R = 4) := Lib.hid (by exact HBAD.out (by omega))
            go_wp2_with fail
            go_ret
            exact ⟨ret_int_d HRR.out.symm, HB0.out⟩
end Go.Proofs.YtldjnegoefdadaaGreatDoor
