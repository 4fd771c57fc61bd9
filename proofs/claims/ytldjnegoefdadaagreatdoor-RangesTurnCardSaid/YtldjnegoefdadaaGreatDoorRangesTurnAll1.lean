/- Find, whatever text comes. (In one text with what it leans on: RRef, RHas, Round, QuietL, RangesCheckW, RMeet, RGood, RFind, RDel, RDrop, ROrd, RTPl, RTAp, RRot, RTTab, RTAdd, REqS, RTDrop, RTurn, RTActs, RTEq, RTIs, RTFindL.) -/
import Derived.Deep.MidRow
import Derived.WalkKit
import Derived.RangeFuncCalls
import Derived.OrdersIn
import Derived.Deep.Quiet
import Derived.Deep.QuietTactic
import Derived.BigQuiet
import Derived.DeepKeys
import Derived.OwnWalk
import Derived.Laws.StructEq
import Derived.Test.YtldjnegoefdadaaGreatDoorRCheck
import Derived.Test.YtldjnegoefdadaaGreatDoorVRWithin
import Derived.Test.YtldjnegoefdadaaGreatDoorMem
import Derived.Test.YtldjnegoefdadaaGreatDoorROpen
import Derived.Test.YtldjnegoefdadaaGreatDoorRNew
import Derived.Test.YtldjnegoefdadaaGreatDoorRAdd
import Derived.Test.YtldjnegoefdadaaGreatDoorRIns
import Derived.Test.YtldjnegoefdadaaGreatDoorRNewB
import Derived.Test.YtldjnegoefdadaaGreatDoorRClone
import Derived.Test.YtldjnegoefdadaaGreatDoorDSmall
namespace Go.Proofs.YtldjnegoefdadaaGreatDoor
open Go.RowKit
set_option linter.unusedVariables false

theorem row_drR {w : World} {g : Nat} {t : TypeId} {l : List Value} (h : Row w g t l) (q : Nat) : Row (w.drewN q) g t l := by
  unfold Row at h ⊢
  rw [show (w.drewN q).heap = w.heap by simp [World.drewN]]
  exact h
theorem cmpV_self (v : V3) : cmpV v v = 0 := (cmpV_zero v v).2 rfl
theorem chk_four (lo hi acs low high : ByteArray) (mode : Int) (h : (numB lo && numB hi && decide (lo.size = hi.size)) = false) : chkN ⟨lo, hi, acs, low, high, mode⟩ = 4 := by unfold chkN; rw [if_pos h]
theorem chk_rest (lo hi acs low high : ByteArray) (mode : Int) (h : (numB lo && numB hi && decide (lo.size = hi.size)) = true) :
    chkN ⟨lo, hi, acs, low, high, mode⟩ = if cmpC hi.data.toList lo.data.toList < 0 then 19 else if nameB acs = false then 2 else if withinB low low high = false then 7 else if mode < 1 ∨ 3 < mode then 11 else 0 := by
  unfold chkN
  rw [if_neg (by simp only; rw [h]; decide)]

set_option maxRecDepth 4000 in
set_option maxHeartbeats 4000000 in
theorem refCheck18_any (r : RG) (hr : r.light) (w : World) :
    Calls Tryz.prog 43 #[.agg #[.string r.lo, .string r.hi, .string r.acs, .string r.low, .string r.high, .int .i64 r.mode]] w fun e w' => e = .returned (.int .i64 (chkN r)) ∧ Below w.heap.size w w' := by
  obtain ⟨lo, hi, acs, low, high, mode⟩ := r
  obtain ⟨z0, z1, z2, z3, z4, m0, m1⟩ := hr
  dsimp only at z0 z1 z2 z3 z4 m0 m1
  have HI1 := Lib.hid (fun W => refIs_any lo W (by omega))
  have HI2 := Lib.hid (fun W => refIs_any hi W (by omega))
  have HC := Lib.hid (fun W => refCmp3_any hi lo (by omega) (by omega) W)
  have HP1 := Lib.hid (fun W => refVParse_v low W z3)
  have HP2 := Lib.hid (fun W => refVParse_v high W z4)
  have htr := cmpC_trim hi.data.toList lo.data.toList
  have hcr := cmpC_range hi.data.toList lo.data.toList
  have h4 := chk_four lo hi acs low high mode
  have hrest := chk_rest lo hi acs low high mode
  obtain ⟨R, hR⟩ : ∃ R, chkN ⟨lo, hi, acs, low, high, mode⟩ = R := ⟨_, rfl⟩
  rw [hR] at h4 hrest ⊢
  clear hR
  have hD1 : isD lo = false → numB lo = false := fun h => by unfold numB; rw [h]; rfl
  have hD2 : isD hi = false → numB hi = false := fun h => by unfold numB; rw [h]; rfl
  have hN1 : isD lo = true → numB lo = (decide (13 ≤ lo.size) && decide (lo.size ≤ 19)) := fun h => by unfold numB; rw [h]; rfl
  have hN2 : isD hi = true → numB hi = (decide (13 ≤ hi.size) && decide (hi.size ≤ 19)) := fun h => by unfold numB; rw [h]; rfl
  have hll : lo.data.toList.length = lo.size := by simp
  have hhl : hi.data.toList.length = hi.size := by simp
  have hdl : isD lo = true → ∀ c ∈ lo.data.toList, isDig c = true := fun h => ((isD_iff lo).1 h).2
  have hdh : isD hi = true → ∀ c ∈ hi.data.toList, isDig c = true := fun h => ((isD_iff hi).1 h).2
  have hwi : withinB low low high = match pv low.data.toList, pv high.data.toList with | some v, some b => decide (cmpV v b ≤ 0) | _, _ => false := by
    unfold withinB
    cases pv low.data.toList with
    | none => rfl
    | some v =>
      cases pv high.data.toList with
      | none => rfl
      | some b => simp only [cmpV_self]; rfl
  obtain ⟨d1, hd1⟩ : ∃ n, isD lo = n := ⟨_, rfl⟩
  obtain ⟨d2, hd2⟩ : ∃ n, isD hi = n := ⟨_, rfl⟩
  obtain ⟨c, hc⟩ : ∃ c, cmpC hi.data.toList lo.data.toList = c := ⟨_, rfl⟩
  obtain ⟨a, ha⟩ : ∃ a, nameB acs = a := ⟨_, rfl⟩
  obtain ⟨i, hi'⟩ : ∃ i, withinB low low high = i := ⟨_, rfl⟩
  obtain ⟨o1, ho1⟩ : ∃ o, pv low.data.toList = o := ⟨_, rfl⟩
  obtain ⟨o2, ho2⟩ : ∃ o, pv high.data.toList = o := ⟨_, rfl⟩
  rw [hd1] at HI1 hD1 hN1 hdl
  rw [hd2] at HI2 hD2 hN2 hdh
  rw [hc] at hcr hrest htr
  rw [ha] at hrest
  rw [hi'] at hrest hwi
  rw [ho1] at HP1 hwi
  rw [ho2] at HP2 hwi
  have HX := Lib.hid (And.intro h4 (And.intro hrest (And.intro hD1 (And.intro hD2 (And.intro hN1 hN2)))))
  have HY := Lib.hid (And.intro htr (And.intro hdl (And.intro hdh (And.intro hll hhl))))
  have HZ := Lib.hid (And.intro ha hwi)
  obtain ⟨c1, c2⟩ := hcr
  have z0I : (lo.size : Int) ≤ 1000 := by omega
  have z1I : (hi.size : Int) ≤ 1000 := by omega
  have H0 := Lib.hid (Row.new w 41 [.string lo, .string hi, .string acs, .string low, .string high, .int .i64 mode])
  have HB0 := Lib.hid ((Below.refl w.heap.size w).alloc (Nat.le_refl _) (.cells [Value.string lo, .string hi, .string acs, .string low, .string high, .int .i64 mode].toArray 41))
  clear h4 hrest hD1 hD2 hN1 hN2 htr hdl hdh hll hhl ha hwi hd1 hd2 hc hi' ho1 ho2 z0 z1 z3 z4
  go_enter Tryz.func43, Tryz.ntmps43
  go_wp2_with fail
  generalize w.alloc (.cells [Value.string lo, .string hi, .string acs, .string low, .string high, .int .i64 mode].toArray 41) = w0 at H0 HB0 ⊢
  have p0 := H0.out.cell 0
  have p1 := H0.out.cell 1
  have p2 := H0.out.cell 2
  have p3 := H0.out.cell 3
  have p4 := H0.out.cell 4
  have p5 := H0.out.cell 5
  simp only [List.getElem?_cons_zero, List.getElem?_cons_succ] at p0 p1 p2 p3 p4 p5
  refine (HI1.out _).mono ?_
  rintro e w1 ⟨rfl, h1⟩
  subst h1
  cases d1 with
  | false =>
    have HRR : Hid (R = 4) := Lib.hid (by exact HX.out.1 (by rw [HX.out.2.2.1 rfl]; rfl))
    go_wp2_with fail
    go_ret
    exact ⟨ret_int_d HRR.out.symm, HB0.out⟩
  | true =>
    go_wp2_with fail
    refine (HI2.out _).mono ?_
    rintro e w1 ⟨rfl, h1⟩
    subst h1
    cases d2 with
    | false =>
      have HRR : Hid (R = 4) := Lib.hid (by exact HX.out.1 (by rw [HX.out.2.2.2.1 (by trivial)]; simp))
      go_wp2_with fail
      go_ret
      exact ⟨ret_int_d HRR.out.symm, HB0.out⟩
    | true =>
      have hbad : ¬ (13 ≤ lo.size ∧ lo.size ≤ 19 ∧ lo.size = hi.size) → R = 4 := fun h => HX.out.1 (by
        rw [HX.out.2.2.2.2.1 (by trivial), HX.out.2.2.2.2.2 (by trivial)]
        rw [Bool.eq_false_iff]
        intro h2
        simp only [Bool.and_eq_true, decide_eq_true_eq] at h2
        omega)
      have HBAD := Lib.hid hbad
      clear hbad
      by_cases h13 : lo.size < 13
      · have h13I : (lo.size : Int) < 13 := by omega
        have HRR : Hid (R = 4) := Lib.hid (by exact HBAD.out (by omega))
        go_wp2_with fail
        go_ret
        exact ⟨ret_int_d HRR.out.symm, HB0.out⟩
      · have h13I : ¬ (lo.size : Int) < 13 := by omega
        by_cases h19 : 19 < lo.size
        · have h19I : (19 : Int) < (lo.size : Int) := by omega
          have HRR : Hid (R = 4) := Lib.hid (by exact HBAD.out (by omega))
          go_wp2_with fail
          go_ret
          exact ⟨ret_int_d HRR.out.symm, HB0.out⟩
        · have h19I : ¬ (19 : Int) < (lo.size : Int) := by omega
          by_cases hsz : lo.size = hi.size
          · have hsq : ((hi.size : Int) != (lo.size : Int)) = false := by rw [bne_eq_false_iff_eq]; omega
            have HR1 := Lib.hid (HX.out.2.1 (by
              rw [HX.out.2.2.2.2.1 (by trivial), HX.out.2.2.2.2.2 (by trivial)]
              simp only [Bool.and_eq_true, decide_eq_true_eq]
              omega))
            have HCE : cmpC (trimZ hi.data.toList) (trimZ lo.data.toList) = c := HY.out.1 (by rw [HY.out.2.2.2.1, HY.out.2.2.2.2]; omega) (HY.out.2.2.1 (by trivial)) (HY.out.2.1 (by trivial))
            rw [HCE] at HC
            clear hsz h13 h19 HCE
            go_wp2_with fail
            refine (HC.out _).mono ?_
            rintro e w1 ⟨rfl, h1⟩
            subst h1
            by_cases hcc : c < 0
            · have HRR : Hid (R = 19) := Lib.hid (by rw [HR1.out, if_pos hcc])
              go_wp2_with fail
              go_ret
              exact ⟨ret_int_d HRR.out.symm, HB0.out⟩
            · have HR2 := Lib.hid (HR1.out.trans (if_neg hcc))
              clear HR1
              by_cases ha1 : acs.size < 1
              · have ha1I : (acs.size : Int) < 1 := by omega
                have HAF : a = false := by rw [← HZ.out.1]; unfold nameB; rw [decide_eq_false (by omega)]; simp
                have HRR : Hid (R = 2) := Lib.hid (by rw [HR2.out, if_pos HAF])
                go_wp2_with fail
                go_ret
                exact ⟨ret_int_d HRR.out.symm, HB0.out⟩
              · have ha1I : ¬ (acs.size : Int) < 1 := by omega
                by_cases ha32 : 32 < acs.size
                · have ha32I : (32 : Int) < (acs.size : Int) := by omega
                  have HAF : a = false := by rw [← HZ.out.1]; unfold nameB; rw [decide_eq_false (p := acs.size ≤ 32) (by omega)]; simp
                  have HRR : Hid (R = 2) := Lib.hid (by rw [HR2.out, if_pos HAF])
                  go_wp2_with fail
                  go_ret
                  exact ⟨ret_int_d HRR.out.symm, HB0.out⟩
                · have ha32I : ¬ (32 : Int) < (acs.size : Int) := by omega
                  go_wp2_with fail
                  go_loop [3] (fun i => ∃ j : Nat, j ≤ acs.size ∧ i = .int .i64 j ∧ Hid ((acs.data.toList.take j).all isPl = true)) (fun i => acs.size - (intOf i).toNat)
                  case atStart => exact ⟨0, Nat.zero_le _, rfl, Lib.hid rfl⟩
                  case round =>
                    obtain ⟨j, hj, rfl, HJ⟩ := hrel
                    by_cases hlt : j < acs.size
                    · cases hp : isPl acs[j] with
                      | true =>
                        have hnext : Hid ((acs.data.toList.take (j + 1)).all isPl = true) := Lib.hid (by rw [all_take acs hlt, HJ.out, hp]; rfl)
                        have h2 : 33 ≤ (acs[j]).toNat ∧ (acs[j]).toNat ≤ 126 := by simpa [isPl] using hp
                        have h33 : (33 : Int) ≤ ((acs[j]).toNat : Int) := by omega
                        have h126 : ((acs[j]).toNat : Int) ≤ 126 := by omega
                        clear hp h2
                        go_wp2
                        go_round
                        case rel => exact ⟨j + 1, by omega, by go_num, hnext⟩
                        case measure => simp [intOf]; omega
                      | false =>
                        have HAF : a = false := by rw [← HZ.out.1]; unfold nameB; rw [all_no acs hlt isPl hp]; rfl
                        have HRR : Hid (R = 2) := Lib.hid (by rw [HR2.out, if_pos HAF])
                        have h2 : ¬ (33 ≤ (acs[j]).toNat ∧ (acs[j]).toNat ≤ 126) := fun h => by rw [show isPl acs[j] = true from by simp [isPl]; omega] at hp; cases hp
                        clear hp HAF
                        by_cases h33 : ((acs[j]).toNat : Int) < 33
                        · clear h2
                          go_wp2
                          go_ret
                          exact ⟨ret_int_d HRR.out.symm, HB0.out⟩
                        · have h126 : (126 : Int) < ((acs[j]).toNat : Int) := by omega
                          clear h2
                          go_wp2
                          go_ret
                          exact ⟨ret_int_d HRR.out.symm, HB0.out⟩
                    · have hall : acs.data.toList.all isPl = true := by
                        have h := HJ.out
                        rwa [List.take_of_length_le (by simp; omega)] at h
                      have HAT : a = true := by rw [← HZ.out.1]; unfold nameB; rw [hall, decide_eq_true (p := acs.size ≠ 0) (by omega), decide_eq_true (p := acs.size ≤ 32) (by omega)]; rfl
                      have HR3 := Lib.hid (HR2.out.trans (if_neg (by rw [HAT]; decide)))
                      clear hall HAT HR2 HJ
                      go_wp2_with fail
                      refine (HP1.out _).mono ?_
                      rintro e w2 ⟨va, rfl, hva, hb2⟩
                      have HVA := Lib.hid hva
                      have HB2 := Lib.hid (HB0.out.trans (hb2.mono HB0.out.size))
                      have H2 := Lib.hid (H0.out.below hb2 H0.out.lt)
                      clear hva hb2 p0 p1 p2 p3 p4 p5
                      have p0 := H2.out.cell 0
                      have p1 := H2.out.cell 1
                      have p2 := H2.out.cell 2
                      have p3 := H2.out.cell 3
                      have p4 := H2.out.cell 4
                      have p5 := H2.out.cell 5
                      simp only [List.getElem?_cons_zero, List.getElem?_cons_succ] at p0 p1 p2 p3 p4 p5
                      go_wp2_with fail
                      refine (HP2.out _).mono ?_
                      rintro e w3 ⟨vb, rfl, hvb, hb3⟩
                      have HVB := Lib.hid hvb
                      have Hb3 := Lib.hid hb3
                      have HB3 := Lib.hid (HB2.out.trans (hb3.mono HB2.out.size))
                      have H3 := Lib.hid (H2.out.below hb3 H2.out.lt)
                      clear hvb hb3 p0 p1 p2 p3 p4 p5
                      have p0 := H3.out.cell 0
                      have p1 := H3.out.cell 1
                      have p2 := H3.out.cell 2
                      have p3 := H3.out.cell 3
                      have p4 := H3.out.cell 4
                      have p5 := H3.out.cell 5
                      simp only [List.getElem?_cons_zero, List.getElem?_cons_succ] at p0 p1 p2 p3 p4 p5
                      cases o1 with
                      | none =>
                        have HIF : i = false := HZ.out.2
                        simp only [Option.isSome_none]
                        have HRR : Hid (R = 7) := Lib.hid (by rw [HR3.out, if_pos HIF])
                        go_wp2_with fail
                        go_ret
                        exact ⟨ret_int_d HRR.out.symm, HB3.out⟩
                      | some v1 =>
                        cases o2 with
                        | none =>
                          have HIF : i = false := HZ.out.2
                          simp only [Option.isSome_none, Option.isSome_some]
                          have HRR : Hid (R = 7) := Lib.hid (by rw [HR3.out, if_pos HIF])
                          go_wp2_with fail
                          go_ret
                          exact ⟨ret_int_d HRR.out.symm, HB3.out⟩
                        | some v2 =>
                          have HIV : i = decide (cmpV v1 v2 ≤ 0) := HZ.out.2
                          have hrg := cmpV_range v1 v2
                          have CC := Lib.hid (fun g1 g2 m1 m2 W h1 h2 => refCmp_v v1 v2 g1 g2 m1 m2 W h1 h2)
                          obtain ⟨x, hx⟩ : ∃ x, cmpV v1 v2 = x := ⟨_, rfl⟩
                          rw [hx] at HIV hrg CC
                          obtain ⟨x1, x2⟩ := hrg
                          have HIV2 := Lib.hid HIV
                          obtain ⟨g1, mm1, rfl, l1, cc1⟩ := HVA.out v1 rfl
                          obtain ⟨g2, mm2, rfl, l2, cc2⟩ := HVB.out v2 rfl
                          have cc1b : Hid (∀ i, i < 3 → w3.cell? ⟨g1, i, none⟩ = some (.int .i64 (get3 v1 i : Nat))) := Lib.hid fun i hi => (Hb3.out.cell (p := ⟨g1, i, none⟩) l1).trans (cc1 i hi)
                          have cc2b := Lib.hid cc2
                          simp only [Option.isSome_some]
                          clear HIV hx cc1 cc2
                          go_wp2_with fail
                          refine (CC.out g1 g2 mm1 mm2 _ cc1b.out cc2b.out).mono ?_
                          rintro e w4 ⟨rfl, q, rfl⟩
                          have H4 := Lib.hid (row_drR H3.out q)
                          have HB4 := Lib.hid (below_dr HB3.out q)
                          clear p0 p1 p2 p3 p4 p5
                          have p0 := H4.out.cell 0
                          have p1 := H4.out.cell 1
                          have p2 := H4.out.cell 2
                          have p3 := H4.out.cell 3
                          have p4 := H4.out.cell 4
                          have p5 := H4.out.cell 5
                          simp only [List.getElem?_cons_zero, List.getElem?_cons_succ] at p0 p1 p2 p3 p4 p5
                          by_cases hx0 : x ≤ 0
                          · have HR4 := Lib.hid (HR3.out.trans (if_neg (by rw [HIV2.out, decide_eq_true hx0]; decide)))
                            have hxI : ¬ 0 < x := by omega
                            by_cases hm1 : mode < 1
                            · have HRR : Hid (R = 11) := Lib.hid (by rw [HR4.out, if_pos (Or.inl hm1)])
                              go_wp2_with fail
                              go_ret
                              exact ⟨ret_int_d HRR.out.symm, HB4.out⟩
                            · by_cases hm3 : 3 < mode
                              · have HRR : Hid (R = 11) := Lib.hid (by rw [HR4.out, if_pos (Or.inr hm3)])
                                go_wp2_with fail
                                go_ret
                                exact ⟨ret_int_d HRR.out.symm, HB4.out⟩
                              · have HRR : Hid (R = 0) := Lib.hid (by rw [HR4.out, if_neg (by omega)])
                                go_wp2_with fail
                                go_ret
                                exact ⟨ret_int_d HRR.out.symm, HB4.out⟩
                          · have hxI : 0 < x := by omega
                            have HIF : i = false := by rw [HIV2.out, decide_eq_false hx0]
                            have HRR : Hid (R = 7) := Lib.hid (by rw [HR3.out, if_pos HIF])
                            go_wp2_with fail
                            go_ret
                            exact ⟨ret_int_d HRR.out.symm, HB4.out⟩
          · have hsq : ((hi.size : Int) != (lo.size : Int)) = true := by rw [bne_iff_ne]; omega
            have HRR : Hid (R = 4) := Lib.hid (by exact HBAD.out (by omega))
            go_wp2_with fail
            go_ret
            exact ⟨ret_int_d HRR.out.symm, HB0.out⟩
end Go.Proofs.YtldjnegoefdadaaGreatDoor

namespace Go.Proofs.YtldjnegoefdadaaGreatDoor
open Go.RowKit
set_option linter.unusedVariables false

set_option maxRecDepth 4000 in
set_option maxHeartbeats 4000000 in
theorem refHas18_any (r : RG) (hr : r.light) (hlo : isD r.lo = true) (hhi : isD r.hi = true) (hse : r.lo.size = r.hi.size) (card : ByteArray) (hcard : card.size ≤ 1000) (w : World) :
    Calls Tryz.prog 46 #[.agg #[.string r.lo, .string r.hi, .string r.acs, .string r.low, .string r.high, .int .i64 r.mode], .string card] w fun e w' => e = .returned (.bool (hasB r card)) ∧ Below w.heap.size w w' := by
  obtain ⟨lo, hi, acs, low, high, mode⟩ := r
  obtain ⟨z0, z1, z2, z3, z4, m0, m1⟩ := hr
  dsimp only at z0 z1 z2 z3 z4 m0 m1 hlo hhi hse
  have HD := Lib.hid (fun W => refIs_any card W (by omega))
  have HC1 := Lib.hid (fun W => refCmp3_any lo card (by omega) (by omega) W)
  have HC2 := Lib.hid (fun W => refCmp3_any card hi (by omega) (by omega) W)
  have hr1 := cmpC_range lo.data.toList card.data.toList
  have hr2 := cmpC_range card.data.toList hi.data.toList
  have hll : lo.data.toList.length = lo.size := by simp
  have hhl : hi.data.toList.length = hi.size := by simp
  have hcl : card.data.toList.length = card.size := by simp
  obtain ⟨R, hR⟩ : ∃ R, hasB ⟨lo, hi, acs, low, high, mode⟩ card = R := ⟨_, rfl⟩
  rw [hR]
  unfold hasB at hR
  dsimp only at hR
  have ht1 := fun (h : isD card = true) (hs : card.size = lo.size) => cmpC_trim lo.data.toList card.data.toList (by omega) ((isD_iff lo).1 hlo).2 ((isD_iff card).1 h).2
  have ht2 := fun (h : isD card = true) (hs : card.size = lo.size) => cmpC_trim card.data.toList hi.data.toList (by omega) ((isD_iff card).1 h).2 ((isD_iff hi).1 hhi).2
  obtain ⟨d, hd⟩ : ∃ n, isD card = n := ⟨_, rfl⟩
  obtain ⟨x, hx⟩ : ∃ c, cmpC lo.data.toList card.data.toList = c := ⟨_, rfl⟩
  obtain ⟨y, hy⟩ : ∃ c, cmpC card.data.toList hi.data.toList = c := ⟨_, rfl⟩
  rw [hd] at HD hR
  rw [hx] at hR hr1
  rw [hy] at hR hr2
  have HT1 := Lib.hid (fun h1 h2 => (ht1 (hd.trans h1) h2).trans hx)
  have HT2 := Lib.hid (fun h1 h2 => (ht2 (hd.trans h1) h2).trans hy)
  have HR := Lib.hid hR
  obtain ⟨x1, x2⟩ := hr1
  obtain ⟨y1, y2⟩ := hr2
  have z0I : (lo.size : Int) ≤ 1000 := by omega
  have zcI : (card.size : Int) ≤ 1000 := by omega
  have H0 := Lib.hid (Row.new w 41 [.string lo, .string hi, .string acs, .string low, .string high, .int .i64 mode])
  have HB0 := Lib.hid ((Below.refl w.heap.size w).alloc (Nat.le_refl _) (.cells [Value.string lo, .string hi, .string acs, .string low, .string high, .int .i64 mode].toArray 41))
  clear hR hd hx hy z0 z1 z2 z3 z4 hll hhl hcl hlo hhi hse ht1 ht2
  go_enter Tryz.func46, Tryz.ntmps46
  go_wp2_with fail
  generalize w.alloc (.cells [Value.string lo, .string hi, .string acs, .string low, .string high, .int .i64 mode].toArray 41) = w0 at H0 HB0 ⊢
  have p0 := H0.out.cell 0
  have p1 := H0.out.cell 1
  simp only [List.getElem?_cons_zero, List.getElem?_cons_succ] at p0 p1
  refine (HD.out _).mono ?_
  rintro e w1 ⟨rfl, h1⟩
  subst h1
  cases d with
  | false =>
    have HRR : Hid (R = false) := Lib.hid (by rw [← HR.out]; rfl)
    go_wp2_with fail
    go_ret
    exact ⟨ret_boolE HRR.out.symm, HB0.out⟩
  | true =>
    by_cases hsz : card.size = lo.size
    · have hsq : ((card.size : Int) == (lo.size : Int)) = true := by rw [beq_iff_eq]; omega
      have HR1 : Hid ((decide (x ≤ 0) && decide (y ≤ 0)) = R) := Lib.hid (by rw [← HR.out, decide_eq_true hsz]; rfl)
      have E1 := HT1.out rfl hsz
      have E2 := HT2.out rfl hsz
      rw [E1] at HC1
      rw [E2] at HC2
      clear hsz HR E1 E2
      go_wp2_with fail
      refine (HC1.out _).mono ?_
      rintro e w2 ⟨rfl, h2⟩
      subst h2
      by_cases hxx : x ≤ 0
      · have HR2 : Hid (decide (y ≤ 0) = R) := Lib.hid (by rw [← HR1.out, decide_eq_true hxx]; rfl)
        go_wp2_with fail
        refine (HC2.out _).mono ?_
        rintro e w3 ⟨rfl, h3⟩
        subst h3
        go_wp2_with fail
        go_ret
        exact ⟨ret_boolE HR2.out, HB0.out⟩
      · have HRR : Hid (R = false) := Lib.hid (by rw [← HR1.out, decide_eq_false hxx]; rfl)
        go_wp2_with fail
        go_ret
        exact ⟨ret_boolE HRR.out.symm, HB0.out⟩
    · have hsq : ((card.size : Int) == (lo.size : Int)) = false := by rw [beq_eq_false_iff_ne]; omega
      have HRR : Hid (R = false) := Lib.hid (by rw [← HR.out, decide_eq_false hsz]; rfl)
      clear hsz
      go_wp2_with fail
      go_ret
      exact ⟨ret_boolE HRR.out.symm, HB0.out⟩

def oneR : RG := ⟨⟨#[52, 49, 49, 49, 49, 49, 49, 49, 49, 49, 49, 49, 49, 49, 49, 49]⟩, ⟨#[52, 49, 49, 49, 49, 49, 49, 49, 49, 49, 49, 49, 49, 49, 49, 49]⟩, ⟨#[97, 99, 115]⟩, ⟨#[50, 46, 49, 46, 48]⟩, ⟨#[50, 46, 50, 46, 48]⟩, 1⟩
theorem one_chk : chkN oneR = 0 := by decide +kernel
theorem one_has1 : hasB oneR ⟨#[52, 49, 49, 49, 49, 49, 49, 49, 49, 49, 49, 49, 49, 49, 49, 49]⟩ = true := by decide +kernel
theorem one_has2 : hasB oneR ⟨#[52, 49, 49, 49, 49, 49, 49, 49, 49, 49, 49, 49, 49, 49, 49, 50]⟩ = false := by decide +kernel
theorem one_light : oneR.light := by unfold RG.light oneR; decide
theorem results_row {P : Program} {fn : Func} {p : Tmp} {ty : TypeId} (h : fn.results = #[.cell p ty]) (tmps : Array Value) (w : World) (g : Nat) (t : TypeId) (cs : Array Value) (fr : Nat × Nat) (d : TypeDesc)
    (hp : tmps.getD p undef = .pointer (some ⟨g, 0, none⟩)) (hg : w.heap[g]? = some (.cells cs t fr))
    (hu : P.underlying ty = some d) (hd : (match d with | .struct _ | .array _ _ => true | _ => false) = true) (hi : (P.info? ty).map (·.size) = some cs.size) :
    (results fn tmps).run P w = .ok (.agg cs) w := by
  have hp' : tmps[p]?.getD undef = .pointer (some ⟨g, 0, none⟩) := by simpa using hp
  simp [results, h, hp', asAddr, run_loadVar_row w g t ty cs fr d hg hu hd hi]
theorem range_size : (Tryz.prog.info? 30).map (·.size) = some 6 := by kernel_rfl
theorem one_any (w : World) : Calls Tryz.prog 34 #[] w fun e w' => e = .returned (.agg #[.string ⟨#[52, 49, 49, 49, 49, 49, 49, 49, 49, 49, 49, 49, 49, 49, 49, 49]⟩, .string ⟨#[52, 49, 49, 49, 49, 49, 49, 49, 49, 49, 49, 49, 49, 49, 49, 49]⟩, .string ⟨#[97, 99, 115]⟩, .string ⟨#[50, 46, 49, 46, 48]⟩, .string ⟨#[50, 46, 50, 46, 48]⟩, .int .i64 1]) ∧ Below w.heap.size w w' := by
  go_enter Tryz.func34, Tryz.ntmps34
  go_wp2
  exact bodyPost_ret (results_row rfl _ _ w.heap.size 30 #[.string ⟨#[52, 49, 49, 49, 49, 49, 49, 49, 49, 49, 49, 49, 49, 49, 49, 49]⟩, .string ⟨#[52, 49, 49, 49, 49, 49, 49, 49, 49, 49, 49, 49, 49, 49, 49, 49]⟩, .string ⟨#[97, 99, 115]⟩, .string ⟨#[50, 46, 49, 46, 48]⟩, .string ⟨#[50, 46, 50, 46, 48]⟩, .int .i64 1] (0, 0) _ rfl (heap_alloc_new w _) Tryz.underlying30 rfl range_size) rfl ⟨rfl, (Below.refl _ _).alloc (Nat.le_refl _) _⟩

theorem awake17W (w : World) (hG : VG w) (hN : NV w) :
    Calls Tryz.prog 33 #[] w fun e w' => e = .returned (.bool true) ∧ Below w.heap.size w w' := by
  go_enter Tryz.func33, Tryz.ntmps33
  go_wp2_with (go_at_call 56; refine (awake17_any _ hG hN).mono ?_; rintro e w' ⟨rfl, hB1⟩)
  go_ret
  exact ⟨rfl, hB1⟩
set_option maxHeartbeats 1000000 in
theorem awake18_any (w : World) (hG : VG w) (hN : NV w) :
    Calls Tryz.prog 8 #[] w fun e w' => e = .returned (.bool true) ∧ Below w.heap.size w w' := by
  have HC := Lib.hid (fun W h => Check_any oneR one_light W h)
  have HH1 := Lib.hid (fun W => Has_any oneR one_light ⟨#[52, 49, 49, 49, 49, 49, 49, 49, 49, 49, 49, 49, 49, 49, 49, 49]⟩ (by decide) W)
  have HH2 := Lib.hid (fun W => Has_any oneR one_light ⟨#[52, 49, 49, 49, 49, 49, 49, 49, 49, 49, 49, 49, 49, 49, 49, 50]⟩ (by decide) W)
  rw [one_chk] at HC
  rw [one_has1] at HH1
  rw [one_has2] at HH2
  unfold oneR at HC HH1 HH2
  dsimp only at HC HH1 HH2
  have HG := Lib.hid hG
  have HN := Lib.hid hN
  clear hG hN
  go_enter Tryz.func8, Tryz.ntmps8
  go_wp2_with fail
  refine (awake17W _ HG.out HN.out).mono ?_
  rintro e w1 ⟨rfl, hb1⟩
  have B1 := Lib.hid hb1
  clear hb1
  go_wp2_with fail
  refine (one_any _).mono ?_
  rintro e w2 ⟨rfl, hb⟩
  have B2 := Lib.hid (B1.out.trans (hb.mono B1.out.size))
  clear hb
  go_wp2_with fail
  refine (HC.out _ (HG.out.below B2.out)).mono ?_
  rintro e w3 ⟨rfl, hb⟩
  have B3 := Lib.hid (B2.out.trans (hb.mono B2.out.size))
  clear hb
  go_wp2_with fail
  refine (one_any _).mono ?_
  rintro e w4 ⟨rfl, hb⟩
  have B4 := Lib.hid (B3.out.trans (hb.mono B3.out.size))
  clear hb
  go_wp2_with fail
  refine (HH1.out _).mono ?_
  rintro e w5 ⟨rfl, hb⟩
  have B5 := Lib.hid (B4.out.trans (hb.mono B4.out.size))
  clear hb
  go_wp2_with fail
  refine (one_any _).mono ?_
  rintro e w6 ⟨rfl, hb⟩
  have B6 := Lib.hid (B5.out.trans (hb.mono B5.out.size))
  clear hb
  go_wp2_with fail
  refine (HH2.out _).mono ?_
  rintro e w7 ⟨rfl, hb⟩
  have B7 := Lib.hid (B6.out.trans (hb.mono B6.out.size))
  clear hb
  go_wp2
  go_ret
  exact ⟨rfl, B7.out⟩
end Go.Proofs.YtldjnegoefdadaaGreatDoor

namespace Go.Proofs.YtldjnegoefdadaaGreatDoor
section
variable {P : Program} {ops : Array Oper} {md : Region.Mode} {C : World → Prop}

/-- Is it a 'defer' statement? -/
def isDefer : Op → Bool
  | .defer _ => true
  | _ => false

theorem wpIn_of_quiet {l n : Nat} {o : Oper} {a : Act} {K : Act → Prop} {K' : Act → World → Prop} {Q' : Exit → Act → World → Prop} {w : World} (hd : isDefer o.op = false) (hw : C w) (h : ∀ a w', C w' → K a → K' a w') (hh : o.quiet P a C K) :
    o.wpIn (Fence.wide.inRound l) n P a w K' Q' := by
  obtain ⟨v, h1, h2⟩ := hh
  have h3 := h1 w hw
  unfold Oper.quietAt at h3
  unfold Oper.wpIn
  refine ⟨fun _ _ => trivial, ?_⟩
  rw [Oper.semAt_eq _ _ _ (fun c hc => by rw [hc] at hd; cases hd)]
  generalize (execOp a.eval o).run P w = r at *
  cases r with
  | ok n' w' =>
    cases n' <;> simp only [Oper.quietUpon] at h3 <;> simp only [Oper.uponIn]
    case value u =>
      obtain ⟨e1, e2⟩ := h3
      rw [e1, e2]
      exact h _ _ hw h2
    case skip =>
      obtain ⟨e1, e2⟩ := h3
      rw [e1, ← e2]
      exact h _ _ hw h2
    case enter f args =>
      obtain ⟨e1, hc⟩ := h3
      rw [e1]
      refine ⟨fun hx => (by cases hx), (CallsIn.inRound l (callsIn_wide.2 hc)).mono ?_⟩
      rintro e w'' ⟨rfl, hw''⟩
      exact h _ _ hw'' h2
  | halt x w' => simp only [Oper.quietUpon] at h3

theorem wpOpIn_of_qOp {l n i : Nat} {a : Act} {K : Act → Prop} {K' : Act → World → Prop} {Q' : Exit → Act → World → Prop} {w : World} (hd : ops.all (fun o => !isDefer o.op) = true) (hC : C w) (h : ∀ a w', C w' → K a → K' a w') (hh : qOp P ops C i K a) :
    wpOpIn (Fence.wide.inRound l) n P ops Q' i K' a w := by
  unfold qOp at hh
  unfold wpOpIn
  split
  · rename_i ho; simp only [ho] at hh; exact h _ _ hC hh
  · rename_i o ho
    simp only [ho] at hh
    have hdo : isDefer o.op = false := by
      have h1 := Array.all_eq_true.1 hd i (Array.getElem?_eq_some_iff.1 ho).1
      rw [(Array.getElem?_eq_some_iff.1 ho).2] at h1
      simpa using h1
    split
    · rename_i hw; simp only [hw, if_true] at hh; exact wpIn_of_quiet hdo hC h hh
    · rename_i hw; simp only [hw] at hh; exact ⟨fun _ _ => trivial, h _ _ hC hh⟩

theorem wpAnyIn_of_quiet {l n : Nat} {Q : Act → Prop} {Q' : Exit → Act → World → Prop} (hd : ops.all (fun o => !isDefer o.op) = true) (hQ : ∀ a w, C w → Q a → Q' .normal a w) : ∀ (fuel : Nat) (listed : Array Bool) (a : Act) (w : World), C w →
    wpAnyQ P md ops C Q fuel listed a → wpAnyIn (Fence.wide.inRound l) n P md ops Q' fuel listed a w
  | 0, _, _, _, hw, h => ⟨h.1, hQ _ _ hw h.2⟩
  | fuel + 1, _, _, _, hw, h => ⟨fun h0 => hQ _ _ hw (h.1 h0), fun i hi => wpOpIn_of_qOp hd hw (fun a' w' hw' => wpAnyIn_of_quiet hd hQ fuel _ a' w' hw') (h.2 i hi)⟩

/-- One walk in the order of the text serves every order, in a round too. -/
theorem round_quiet {l n id : Nat} {Q : Exit → Act → World → Prop} {a : Act} {w : World} (C : World → Prop) (hm : P.follows .mixedOrders = true) (hB : Region.lexB .any ops = true) (hd : ops.all (fun o => !isDefer o.op) = true) (hC : C { w with drawn := w.drawn + 1 })
    (h : wpQuiet P ops C (fun a' => ∀ w', C w' → Q .normal a' w') ops.toList a) : (Code.region id ops true).wpIn (Fence.wide.inRound l) n P Q a w := by
  simp only [Region.lexB, Bool.and_eq_true] at hB
  refine wpIn_region_any hm (wpAnyIn_of_quiet (Q := fun a' => ∀ w', C w' → Q .normal a' w') hd (fun _ w' hw' h => h w' hw') _ _ _ _ hC ?_)
  have := wpAnyQ_lex (C := C) (md := .any) hB.1 ops.toList 0 (Array.replicate ops.size false) a (by simp) (by simpa using hB.2) h
  simpa using this
/-- The same for operations that are written out. -/
theorem round_quiet_lit {l n id : Nat} {os : List Oper} {Q : Exit → Act → World → Prop} {a : Act} {w : World} (C : World → Prop) (hm : P.follows .mixedOrders = true) (hB : Region.lexB .any os.toArray = true) (hd : os.toArray.all (fun o => !isDefer o.op) = true) (hC : C { w with drawn := w.drawn + 1 })
    (h : wpQuiet P os.toArray C (fun a' => ∀ w', C w' → Q .normal a' w') os a) : (Code.region id os.toArray true).wpIn (Fence.wide.inRound l) n P Q a w :=
  round_quiet C hm hB hd hC (by simpa using h)
theorem region_quiet_lit {id : Nat} {os : List Oper} {Q : Exit → Act → World → Prop} {a : Act} {w : World} (C : World → Prop) (hm : P.follows .mixedOrders = true) (hB : Region.lexB .any os.toArray = true) (hC : C { w with drawn := w.drawn + 1 })
    (h : wpQuiet P os.toArray C (fun a' => ∀ w', C w' → Q .normal a' w') os a) : (Code.region id os.toArray true).wp P Q a w :=
  wp_region_quiet (C := C) hm hB hC (by simpa using h)
end
end Go.Proofs.YtldjnegoefdadaaGreatDoor

namespace Go.Proofs.YtldjnegoefdadaaGreatDoor
open Go.RowKit
set_option linter.unusedVariables false

section
variable {P : Program} {ops : Array Oper} {C : World → Prop} {Q : Act → Prop} {a : Act} {o : Oper} {rest : List Oper}
theorem quiet_load_row {K : Act → Prop} (ty : TypeId) (x : Operand) (ho : o.op = .load ty x) (g : Nat) (hx : a.eval x = .pointer (some ⟨g, 0, none⟩)) (t : TypeId) (cs : List Value) (d : TypeDesc) (hS : ∀ w, C w → Row w g t cs)
    (hu : P.underlying ty = some d) (hd : d.isRow = true) (hi : (P.info? ty).map (·.size) = some cs.length) (hk : K (a.put o.dst (.agg cs.toArray))) : o.quiet P a C K :=
  ⟨_, fun w hw => by
    have hr : w.rangeAt g 0 cs := fun j v hj => by rw [Nat.zero_add, (hS w hw).cell]; exact hj
    unfold Oper.quietAt execOp
    simp only [ho, hx, Instr.loadAt, Instr.sureAddr, Sem.run_bind, Sem.run_pure, Result.andThen_ok, run_loadVar_mid w g 0 ty cs d hr hu hd hi]
    exact ⟨rfl, rfl⟩, hk⟩
theorem quiet_eql_agg {K : Act → Prop} (t : TypeId) (x y : Operand) (t2 : TypeId) (ho : o.op = .binOp .eql t x y t2)
    (cs ds : Array Value) (hx : a.eval x = .agg cs) (hy : a.eval y = .agg ds) (hm : P.eqGuardType P.depth t = false) (r : Bool) (he : ∀ W, (binOp .eql t (.agg cs) (.agg ds)).run P W = .ok (.bool r) W) (hk : K (a.put o.dst (.bool r))) : o.quiet P a C K :=
  ⟨_, fun w hw => by
    unfold Oper.quietAt execOp
    simp only [ho, hx, hy, Sem.run_bind, run_eqGuard_agg w .eql t x y cs ds hm, he, Result.andThen_ok, Sem.run_pure]
    exact ⟨rfl, rfl⟩, hk⟩
end

theorem items_bytes {P : Program} (W : World) (d : Nat) (e : TypeId) (l m : List UInt8) (he : P.underlying e = some (.int .u8)) (ha : (isAgg e).run P W = .ok false W) :
    ∀ is : List Nat, (∀ i ∈ is, i < l.length ∧ i < m.length) → (Op.eqItems (d + 1) e 1 (l.map bv).toArray (m.map bv).toArray is).run P W = .ok (decide (∀ i ∈ is, l[i]? = m[i]?)) W
  | [], _ => by simp [Op.eqItems]
  | i :: is, h => by
    obtain ⟨h1, h2⟩ := h i (by simp)
    have ih := items_bytes W d e l m he ha is (fun j hj => h j (by simp [hj]))
    have hp : (part e (l.map bv).toArray (i * 1)).run P W = .ok (.int .u8 (l[i].toNat : Int)) W := by
      simp only [part, Sem.run_bind, ha, Result.andThen_ok, Nat.mul_one, Bool.false_eq_true, if_false, List.getElem?_toArray, List.getElem?_map, List.getElem?_eq_getElem h1, Option.map_some, bv, Sem.run_pure]
    have hq : (part e (m.map bv).toArray (i * 1)).run P W = .ok (.int .u8 (m[i].toNat : Int)) W := by
      simp only [part, Sem.run_bind, ha, Result.andThen_ok, Nat.mul_one, Bool.false_eq_true, if_false, List.getElem?_toArray, List.getElem?_map, List.getElem?_eq_getElem h2, Option.map_some, bv, Sem.run_pure]
    simp only [Op.eqItems, Sem.run_bind, hp, hq, Result.andThen_ok, run_equalIn_int W d e .u8 .u8 _ _ he]
    by_cases hb : l[i] = m[i]
    · have e1 : l[i]? = m[i]? := by rw [List.getElem?_eq_getElem h1, List.getElem?_eq_getElem h2, hb]
      simp [hb, ih, e1]
    · have e1 : ¬ l[i]? = m[i]? := by rw [List.getElem?_eq_getElem h1, List.getElem?_eq_getElem h2]; simpa using hb
      have e2 : ¬ ((l[i].toNat : Int) = (m[i].toNat : Int)) := fun h => hb (UInt8.toNat_inj.1 (by omega))
      simp [e1, e2]
theorem arr_equalIn {P : Program} (t e : TypeId) (n : Nat) (l m : List UInt8) (hl : l.length = n) (hm : m.length = n) (ht : P.underlying t = some (.array n e)) (he : P.underlying e = some (.int .u8)) (ha : ∀ W, (isAgg e).run P W = .ok false W)
    (i : TypeInfo) (hi : P.info? e = some i) (hc : P.cellsOf e = 1) (W : World) :
    (Op.equalIn 10000 t (.agg (l.map bv).toArray) (.agg (m.map bv).toArray)).run P W = .ok (decide (l = m)) W := by
  rw [run_equalIn_array W 9999 _ _ ht hi, hc]
  rw [items_bytes W 9998 e l m he (ha W) _ (fun j hj => by
    have hj2 := List.mem_range.1 hj
    omega)]
  have e1 : decide (∀ i ∈ List.range n, l[i]? = m[i]?) = decide (l = m) := decide_eq_decide.2 ⟨fun h => List.ext_getElem? fun j => by
      by_cases hj : j < n
      · exact h j (List.mem_range.2 hj)
      · rw [List.getElem?_eq_none (by omega), List.getElem?_eq_none (by omega)], fun h => by subst h; intros; rfl⟩
  rw [e1]
theorem arr_eql {P : Program} (t e : TypeId) (n : Nat) (l m : List UInt8) (hl : l.length = n) (hm : m.length = n) (ht : P.underlying t = some (.array n e)) (he : P.underlying e = some (.int .u8)) (ha : ∀ W, (isAgg e).run P W = .ok false W)
    (i : TypeInfo) (hi : P.info? e = some i) (hc : P.cellsOf e = 1) (W : World) :
    (binOp .eql t (.agg (l.map bv).toArray) (.agg (m.map bv).toArray)).run P W = .ok (.bool (decide (l = m))) W := by
  rw [run_eql_struct, arr_equalIn t e n l m hl hm ht he ha i hi hc W]
  rfl
end Go.Proofs.YtldjnegoefdadaaGreatDoor

namespace Go.Proofs.YtldjnegoefdadaaGreatDoor
open Go.RowKit
set_option linter.unusedVariables false

theorem chk_zero (r : RG) (h : chkN r = 0) : isD r.lo = true ∧ isD r.hi = true ∧ r.lo.size = r.hi.size := by
  unfold chkN at h
  by_cases hb : (numB r.lo && numB r.hi && decide (r.lo.size = r.hi.size)) = false
  · rw [if_pos hb] at h
    cases h
  · rw [Bool.not_eq_false] at hb
    simp only [Bool.and_eq_true, decide_eq_true_eq] at hb
    obtain ⟨⟨h1, h2⟩, h3⟩ := hb
    unfold numB at h1 h2
    simp only [Bool.and_eq_true] at h1 h2
    exact ⟨h1.1.1, h2.1.1, h3⟩

end Go.Proofs.YtldjnegoefdadaaGreatDoor

namespace Go.Proofs.YtldjnegoefdadaaGreatDoor
open Go.RowKit
set_option linter.unusedVariables false

theorem cmpB_trans : ∀ a b c : List UInt8, Lib.compareBytes a b ≤ 0 → Lib.compareBytes b c ≤ 0 → Lib.compareBytes a c ≤ 0
  | [], _, [], _, _ => by decide
  | [], _, _ :: _, _, _ => by simp [Lib.compareBytes]
  | _ :: _, [], _, h, _ => by simp [Lib.compareBytes] at h
  | _ :: _, _ :: _, [], _, h => by simp [Lib.compareBytes] at h
  | x :: a, y :: b, z :: c, h1, h2 => by
    have ih := cmpB_trans a b c
    rw [cmpB_cons] at h1 h2 ⊢
    by_cases k1 : x < z
    · rw [if_pos k1]; decide
    · rw [if_neg k1]
      have k2 : ¬ z < x := by
        intro k2
        rw [UInt8.lt_iff_toNat_lt] at k1 k2
        by_cases m1 : x < y
        · rw [UInt8.lt_iff_toNat_lt] at m1
          have m2 : z < y := by rw [UInt8.lt_iff_toNat_lt]; omega
          have m3 : ¬ y < z := by rw [UInt8.lt_iff_toNat_lt] at m2 ⊢; omega
          rw [if_neg m3, if_pos m2] at h2
          exact absurd h2 (by decide)
        · rw [if_neg m1] at h1
          by_cases m4 : y < x
          · rw [if_pos m4] at h1
            exact absurd h1 (by decide)
          · rw [UInt8.lt_iff_toNat_lt] at m1 m4
            have m2 : z < y := by rw [UInt8.lt_iff_toNat_lt]; omega
            have m3 : ¬ y < z := by rw [UInt8.lt_iff_toNat_lt] at m2 ⊢; omega
            rw [if_neg m3, if_pos m2] at h2
            exact absurd h2 (by decide)
      rw [if_neg k2]
      have hxz : x.toNat = z.toNat := by rw [UInt8.lt_iff_toNat_lt] at k1 k2; omega
      have hxy : ¬ x < y ∧ ¬ y < x := by
        constructor
        · intro m1
          have m2 : z < y := by rw [UInt8.lt_iff_toNat_lt] at m1 ⊢; omega
          have m3 : ¬ y < z := by rw [UInt8.lt_iff_toNat_lt] at m2 ⊢; omega
          rw [if_neg m3, if_pos m2] at h2
          exact absurd h2 (by decide)
        · intro m1
          have m3 : ¬ x < y := by rw [UInt8.lt_iff_toNat_lt] at m1 ⊢; omega
          rw [if_neg m3, if_pos m1] at h1
          exact absurd h1 (by decide)
      rw [if_neg hxy.1, if_neg hxy.2] at h1
      have hyz : ¬ y < z ∧ ¬ z < y := by
        have e1 := hxy.1
        have e2 := hxy.2
        rw [UInt8.lt_iff_toNat_lt] at e1 e2
        constructor <;> (rw [UInt8.lt_iff_toNat_lt]; omega)
      rw [if_neg hyz.1, if_neg hyz.2] at h2
      exact ih h1 h2
theorem cmpC_same {a b : List UInt8} (h : a.length = b.length) : cmpC a b = Lib.compareBytes a b := by unfold cmpC; rw [if_neg (by omega), if_neg (by omega)]

theorem chk_zero2 (r : RG) (h : chkN r = 0) : ¬ cmpC r.hi.data.toList r.lo.data.toList < 0 := by
  obtain ⟨h1, h2, h3⟩ := chk_zero r h
  intro hc
  unfold chkN at h
  by_cases hb : (numB r.lo && numB r.hi && decide (r.lo.size = r.hi.size)) = false
  · rw [if_pos hb] at h; cases h
  · rw [if_neg hb, if_pos hc] at h; cases h

theorem meets (a b : RG) (ha : chkN a = 0) (hb : chkN b = 0) : (hasB a b.lo || hasB a b.hi || hasB b a.lo || hasB b a.hi) = !apartB b a := by
  obtain ⟨a1, a2, a3⟩ := chk_zero a ha
  obtain ⟨b1, b2, b3⟩ := chk_zero b hb
  have a4 := chk_zero2 a ha
  have b4 := chk_zero2 b hb
  unfold hasB apartB
  rw [a1, a2, b1, b2]
  have l1 : a.lo.data.toList.length = a.lo.size := by simp
  have l2 : a.hi.data.toList.length = a.hi.size := by simp
  have l3 : b.lo.data.toList.length = b.lo.size := by simp
  have l4 : b.hi.data.toList.length = b.hi.size := by simp
  by_cases hs : a.lo.size = b.lo.size
  · rw [decide_eq_true (show b.lo.size = a.lo.size by omega), decide_eq_true (show b.hi.size = a.lo.size by omega), decide_eq_true (show a.lo.size = b.lo.size by omega), decide_eq_true (show a.hi.size = b.lo.size by omega)]
    rw [cmpC_same (show a.hi.data.toList.length = a.lo.data.toList.length by omega)] at a4
    rw [cmpC_same (show b.hi.data.toList.length = b.lo.data.toList.length by omega)] at b4
    rw [cmpC_same (show a.lo.data.toList.length = b.lo.data.toList.length by omega), cmpC_same (show b.lo.data.toList.length = a.hi.data.toList.length by omega), cmpC_same (show a.lo.data.toList.length = b.hi.data.toList.length by omega),
      cmpC_same (show b.hi.data.toList.length = a.hi.data.toList.length by omega), cmpC_same (show b.lo.data.toList.length = a.lo.data.toList.length by omega), cmpC_same (show a.hi.data.toList.length = b.hi.data.toList.length by omega),
      cmpC_same (show b.hi.data.toList.length = a.lo.data.toList.length by omega), cmpC_same (show a.hi.data.toList.length = b.lo.data.toList.length by omega)]
    obtain ⟨A, hA⟩ : ∃ A, a.lo.data.toList = A := ⟨_, rfl⟩
    obtain ⟨A', hA'⟩ : ∃ A, a.hi.data.toList = A := ⟨_, rfl⟩
    obtain ⟨C, hC⟩ : ∃ A, b.lo.data.toList = A := ⟨_, rfl⟩
    obtain ⟨C', hC'⟩ : ∃ A, b.hi.data.toList = A := ⟨_, rfl⟩
    rw [hA, hA'] at a4
    rw [hC, hC'] at b4
    rw [hA, hA', hC, hC']
    have n1 := cmpB_neg A C
    have n2 := cmpB_neg A' C
    have n3 := cmpB_neg A C'
    have n4 := cmpB_neg A' C'
    have n5 := cmpB_neg A A'
    have n6 := cmpB_neg C C'
    have t1 := cmpB_trans A C C'
    have t2 := cmpB_trans C A A'
    have t3 := cmpB_trans A A' C
    have t4 := cmpB_trans C C' A
    have t5 := cmpB_trans C C' A'
    have t6 := cmpB_trans A A' C'
    rw [Bool.eq_iff_iff]
    simp only [Bool.or_eq_true, Bool.and_eq_true, decide_eq_true_eq, Bool.not_eq_true', Bool.or_eq_false_iff, decide_eq_false_iff_not, true_and]
    omega
  · rw [decide_eq_false (show ¬ b.lo.size = a.lo.size by omega), decide_eq_false (show ¬ b.hi.size = a.lo.size by omega), decide_eq_false (show ¬ a.lo.size = b.lo.size by omega), decide_eq_false (show ¬ a.hi.size = b.lo.size by omega)]
    have hap : (decide (cmpC b.hi.data.toList a.lo.data.toList < 0) || decide (cmpC a.hi.data.toList b.lo.data.toList < 0)) = true := by
      by_cases hlt : a.lo.size < b.lo.size
      · have : cmpC a.hi.data.toList b.lo.data.toList = -1 := by unfold cmpC; rw [if_pos (by omega)]
        rw [this]; simp
      · have : cmpC b.hi.data.toList a.lo.data.toList = -1 := by unfold cmpC; rw [if_pos (by omega)]
        rw [this]; simp
    rw [hap]
    rfl

theorem tab_two (a b : RG) (ha : chkN a = 0) : tabN [a, b] 0 = some [] ∧ tabN [a, b] 1 = some [a] ∧ errA [] a = 0 := by
  have h0 : errA [] a = 0 := by unfold errA; rw [ha]; rfl
  refine ⟨rfl, ?_, h0⟩
  rw [show (1 : Nat) = 0 + 1 from rfl, tabN, tabN]
  dsimp only
  rw [dif_pos (show 0 < [a, b].length by simp)]
  show (if errA [] a = 0 then _ else _) = _
  rw [if_pos h0]
  rfl
theorem err_two (a b : RG) (hb : chkN b = 0) : errA [a] b = if apartB b a = true then 0 else 17 := by
  unfold errA
  rw [hb]
  simp only [ne_eq, not_true_eq_false, if_false, List.all_cons, List.all_nil, Bool.and_true, List.length_singleton]
  rw [if_neg (by decide)]
  cases apartB b a <;> rfl
theorem stands_two (a b : RG) (ha : chkN a = 0) : ∀ i t (h : i < [a, b].length), tabN [a, b] i = some t → Stands t ([a, b][i]).lo (plc t [a, b][i]) := by
  intro i t h ht
  match i, h, ht with
  | 0, _, ht =>
    rw [(tab_two a b ha).1] at ht
    injection ht with ht
    subst ht
    exact ⟨Nat.zero_le _, fun i h => absurd h (by simp)⟩
  | 1, _, ht =>
    rw [(tab_two a b ha).2.1] at ht
    injection ht with ht
    subst ht
    show Stands [a] b.lo (plc [a] b)
    unfold plc
    by_cases hc : ck b.lo a < 0
    · rw [List.takeWhile_cons, decide_eq_true hc]
      exact ⟨by simp, fun i h => by
        have : i = 0 := by simpa using h
        subst this
        simpa using hc⟩
    · rw [List.takeWhile_cons, decide_eq_false hc]
      exact ⟨by simp, fun i h => by
        have : i = 0 := by simpa using h
        subst this
        simpa using hc⟩
end Go.Proofs.YtldjnegoefdadaaGreatDoor

namespace Go.Proofs.YtldjnegoefdadaaGreatDoor
open Go.RowKit
set_option linter.unusedVariables false

theorem cmpC_neg (a b : List UInt8) : cmpC a b = - cmpC b a := by
  unfold cmpC
  by_cases h1 : a.length < b.length
  · rw [if_pos h1, if_neg (by omega), if_pos h1]
  · rw [if_neg h1]
    by_cases h2 : b.length < a.length
    · rw [if_pos h2, if_pos h2]; rfl
    · rw [if_neg h2, if_neg h2, if_neg h1]; exact cmpB_neg a b
theorem cmpC_eq (a b : List UInt8) : cmpC a b = 0 ↔ a = b := by
  unfold cmpC
  by_cases h1 : a.length < b.length
  · rw [if_pos h1]
    constructor
    · intro h; cases h
    · intro h; rw [h] at h1; omega
  · rw [if_neg h1]
    by_cases h2 : b.length < a.length
    · rw [if_pos h2]
      constructor
      · intro h; cases h
      · intro h; rw [h] at h2; omega
    · rw [if_neg h2]; exact cmpB_eq a b
theorem cmpC_trans (a b c : List UInt8) (h1 : cmpC a b ≤ 0) (h2 : cmpC b c ≤ 0) : cmpC a c ≤ 0 := by
  unfold cmpC at h1 h2 ⊢
  by_cases k1 : a.length < c.length
  · rw [if_pos k1]; decide
  · rw [if_neg k1]
    by_cases k2 : b.length < a.length
    · rw [if_neg (by omega), if_pos k2] at h1
      exact absurd h1 (by decide)
    · by_cases k3 : c.length < b.length
      · rw [if_neg (by omega), if_pos k3] at h2
        exact absurd h2 (by decide)
      · rw [if_neg (by omega)]
        rw [if_neg (by omega), if_neg k2] at h1
        rw [if_neg (by omega), if_neg k3] at h2
        exact cmpB_trans a b c h1 h2
theorem cmpC_lt_le {a b c : List UInt8} (h1 : cmpC a b < 0) (h2 : cmpC b c ≤ 0) : cmpC a c < 0 := by
  have h3 := cmpC_trans a b c (by omega) h2
  have h4 : cmpC a c ≠ 0 := fun h => by
    rw [(cmpC_eq a c).1 h, cmpC_neg] at h1
    omega
  omega
theorem cmpC_le_lt {a b c : List UInt8} (h1 : cmpC a b ≤ 0) (h2 : cmpC b c < 0) : cmpC a c < 0 := by
  have h3 := cmpC_trans a b c h1 (by omega)
  have h4 : cmpC a c ≠ 0 := fun h => by
    rw [← (cmpC_eq a c).1 h, cmpC_neg] at h2
    omega
  omega

def Good (t : List RG) : Prop := (∀ x ∈ t, chkN x = 0) ∧ t.Pairwise (fun a b => cmpC a.hi.data.toList b.lo.data.toList < 0)
theorem chk_le (r : RG) (h : chkN r = 0) : cmpC r.lo.data.toList r.hi.data.toList ≤ 0 := by
  have := chk_zero2 r h
  rw [cmpC_neg]
  omega
theorem takeWhile_at {α : Type} (P : α → Bool) : ∀ (t : List α), t.Pairwise (fun a b => P b = true → P a = true) → ∀ i (h : i < t.length), i < (t.takeWhile P).length ↔ P t[i] = true
  | [], _, i, h => by cases h
  | x :: t, hp, i, h => by
    obtain ⟨h1, h2⟩ := List.pairwise_cons.1 hp
    by_cases hx : P x = true
    · rw [List.takeWhile_cons, if_pos hx]
      cases i with
      | zero => simp [hx]
      | succ i =>
        have := takeWhile_at P t h2 i (by simpa using h)
        simpa using this
    · rw [List.takeWhile_cons, if_neg hx]
      cases i with
      | zero => simp [hx]
      | succ i =>
        have hit : i < t.length := by simpa using h
        have hni : P t[i] = true → False := fun h3 => hx (h1 _ (List.getElem_mem _) h3)
        simp
        simpa using hni
theorem good_stands {t : List RG} (hg : Good t) (r : RG) : Stands t r.lo (plc t r) := by
  have hp : t.Pairwise (fun a b => decide (ck r.lo b < 0) = true → decide (ck r.lo a < 0) = true) := by
    refine hg.2.imp_of_mem (fun {a b} ha hb h h2 => ?_)
    have h3 := of_decide_eq_true h2
    refine decide_eq_true ?_
    unfold ck at h3 ⊢
    have h4 := cmpC_le_lt (chk_le a (hg.1 a ha)) h
    exact cmpC_lt_le h4 (by omega)
  refine ⟨?_, fun i h => ?_⟩
  · unfold plc
    exact (List.takeWhile_sublist _).length_le
  · have := takeWhile_at (fun x => decide (ck r.lo x < 0)) t hp i h
    unfold plc
    rw [this, decide_eq_true_eq]
theorem errA_zero {t : List RG} {r : RG} (h : errA t r = 0) : chkN r = 0 ∧ t.length < 64 ∧ ∀ x ∈ t, apartB r x = true := by
  unfold errA at h
  by_cases h1 : chkN r ≠ 0
  · rw [if_pos h1] at h; exact absurd h h1
  · rw [if_neg h1] at h
    by_cases h2 : 64 ≤ t.length
    · rw [if_pos h2] at h; cases h
    · rw [if_neg h2] at h
      by_cases h3 : t.all (apartB r) = false
      · rw [if_pos h3] at h; cases h
      · rw [Bool.not_eq_false, List.all_eq_true] at h3
        exact ⟨by omega, by omega, h3⟩
theorem good_ins {t : List RG} (hg : Good t) {r : RG} (h : errA t r = 0) : Good (insL t (plc t r) r) := by
  obtain ⟨hr, _, hap⟩ := errA_zero h
  have hst := good_stands hg r
  have hrl := chk_le r hr
  have hbefore : ∀ x ∈ t.take (plc t r), cmpC x.hi.data.toList r.lo.data.toList < 0 := fun x hx => by
    obtain ⟨i, hi, rfl⟩ := List.getElem_of_mem hx
    rw [List.length_take] at hi
    rw [List.getElem_take]
    have h1 := (hst.2 i (by omega)).1 (by omega)
    unfold ck at h1
    have h2 := hap t[i] (List.getElem_mem _)
    unfold apartB at h2
    rw [Bool.or_eq_true, decide_eq_true_eq, decide_eq_true_eq] at h2
    rcases h2 with h2 | h2
    · have h3 := cmpC_lt_le h1 hrl
      rw [cmpC_neg] at h3
      omega
    · exact h2
  have hafter : ∀ x ∈ t.drop (plc t r), cmpC r.hi.data.toList x.lo.data.toList < 0 := fun x hx => by
    obtain ⟨i, hi, rfl⟩ := List.getElem_of_mem hx
    rw [List.length_drop] at hi
    rw [List.getElem_drop]
    have h1 : ¬ ck r.lo t[plc t r + i] < 0 := fun h1 => by
      have := (hst.2 (plc t r + i) (by omega)).2 h1
      omega
    unfold ck at h1
    have h2 := hap t[plc t r + i] (List.getElem_mem _)
    have h4 := chk_le _ (hg.1 t[plc t r + i] (List.getElem_mem _))
    unfold apartB at h2
    rw [Bool.or_eq_true, decide_eq_true_eq, decide_eq_true_eq] at h2
    rcases h2 with h2 | h2
    · exact h2
    · have h3 := cmpC_le_lt h4 h2
      omega
  refine ⟨fun x hx => ?_, ?_⟩
  · unfold insL at hx
    rcases List.mem_append.1 hx with hx | hx
    · exact hg.1 x (List.mem_of_mem_take hx)
    · rcases List.mem_cons.1 hx with rfl | hx
      · exact hr
      · exact hg.1 x (List.mem_of_mem_drop hx)
  · unfold insL
    rw [List.pairwise_append]
    refine ⟨hg.2.sublist (List.take_sublist _ _), ?_, ?_⟩
    · rw [List.pairwise_cons]
      exact ⟨hafter, hg.2.sublist (List.drop_sublist _ _)⟩
    · intro x hx y hy
      have h1 := hbefore x hx
      rcases List.mem_cons.1 hy with rfl | hy
      · exact h1
      · have h2 := hafter y hy
        exact cmpC_lt_le h1 (by have := cmpC_le_lt hrl h2; omega)
theorem tab_good (L : List RG) : ∀ i t, tabN L i = some t → Good t
  | 0, t, h => by
    injection h with h
    subst h
    exact ⟨(fun x hx => by cases hx), List.Pairwise.nil⟩
  | i + 1, t, h => by
    rw [tabN] at h
    cases h1 : tabN L i with
    | none => rw [h1] at h; cases h
    | some u =>
      rw [h1] at h
      dsimp only at h
      by_cases h2 : i < L.length
      · rw [dif_pos h2] at h
        by_cases h3 : errA u L[i] = 0
        · rw [if_pos h3] at h
          injection h with h
          subst h
          exact good_ins (tab_good L i u h1) h3
        · rw [if_neg h3] at h; cases h
      · rw [dif_neg h2] at h; cases h
theorem tab_stands (L : List RG) : ∀ i t (h : i < L.length), tabN L i = some t → Stands t L[i].lo (plc t L[i]) := fun i t h ht => good_stands (tab_good L i t ht) L[i]
end Go.Proofs.YtldjnegoefdadaaGreatDoor

namespace Go.Proofs.YtldjnegoefdadaaGreatDoor
open Go.RowKit Go.Shelf
set_option linter.unusedVariables false
set_option linter.unusedSimpArgs false
attribute [local go_sem] Oper.semAt_some

/-- What a round finds and leaves. -/
def FI (b : Nat) (s : Value) (l : List RG) (k : ByteArray) (w : World) (pre : List (Kx l)) (W : World) : Prop :=
  (∀ x ∈ pre, hasB x.1.1 k = false) ∧ (Row W b 27 [s] ∧ Row W (b + 1) 9 [.string k]) ∧ (Row W (b + 2) 30 [.string ⟨#[]⟩, .string ⟨#[]⟩, .string ⟨#[]⟩, .string ⟨#[]⟩, .string ⟨#[]⟩, .int .i64 0] ∧ Row W (b + 3) 4 [.bool false]) ∧ Below b w W
def FX (b : Nat) (l : List RG) (k : ByteArray) (w : World) (c : Code) (pre : List (Kx l)) (W : World) : Prop :=
  (c = Code.ret ∧ ∃ q x, pre = q ++ [x] ∧ (∀ y ∈ q, hasB y.1.1 k = false) ∧ hasB x.1.1 k = true ∧ Row W (b + 2) 30 x.1.1.cells) ∧ Row W (b + 3) 4 [.bool true] ∧ Below b w W
theorem FI_own (b : Nat) (s : Value) (l : List RG) (k : ByteArray) (w : World) (B : Nat) (hb : b ≤ w.heap.size) (hbw : b ≤ B) : OwnFrom B (FI b s l k w) :=
  OwnFrom.and own_pure_r (OwnFrom.and (OwnFrom.and (Own.from (own_row_v b _ (fun _ => [s])) _) (Own.from (own_row_v (b + 1) _ (fun _ => [Value.string k])) _))
    (OwnFrom.and (OwnFrom.and (Own.from (own_row_v (b + 2) _ (fun _ => [.string ⟨#[]⟩, .string ⟨#[]⟩, .string ⟨#[]⟩, .string ⟨#[]⟩, .string ⟨#[]⟩, .int .i64 0])) _) (Own.from (own_row_v (b + 3) _ (fun _ => [Value.bool false])) _)) (ownFrom_below hb hbw)))
theorem FX_own (b : Nat) (l : List RG) (k : ByteArray) (w : World) (c : Code) (B : Nat) (hb : b ≤ w.heap.size) (hbw : b ≤ B) : OwnFrom B (FX b l k w c) :=
  OwnFrom.and (fun s X Y row h hg hr => by
    obtain ⟨rfl, q, x, h1, h2, h3, h4⟩ := h
    exact ⟨rfl, q, x, h1, h2, h3, Own.from (own_row_v (β := Unit) (b + 2) 30 (fun _ => x.1.1.cells)) B () X Y row h4 hg hr⟩)
    (OwnFrom.and (Own.from (own_row_v (b + 3) _ (fun _ => [Value.bool true])) _) (ownFrom_below hb hbw))
theorem FI.below {b : Nat} {s : Value} {l : List RG} {k : ByteArray} {w W W' : World} {pre : List (Kx l)} (h : FI b s l k w pre W) (hb : Below W.heap.size W W') : FI b s l k w pre W' :=
  ⟨h.1, ⟨h.2.1.1.below hb h.2.1.1.lt, h.2.1.2.below hb h.2.1.2.lt⟩, ⟨h.2.2.1.1.below hb h.2.2.1.1.lt, h.2.2.1.2.below hb h.2.2.1.2.lt⟩, h.2.2.2.trans (hb.mono (Nat.le_of_lt h.2.1.1.lt))⟩
theorem results_find {fn : Func} {p q : Tmp} (h : fn.results = #[.cell p 30, .cell q 4]) (tmps : Array Value) (w : World) (g k : Nat) (r : RG) (e : Bool) (hp : tmps.getD p undef = .pointer (some ⟨g, 0, none⟩)) (hq : tmps.getD q undef = .pointer (some ⟨k, 0, none⟩))
    (hg : Row w g 30 r.cells) (hk : Row w k 4 [.bool e]) : (results fn tmps).run Tryz.prog w = .ok (.tuple #[.agg r.cells.toArray, .bool e]) w := by
  have hp' : tmps[p]?.getD undef = .pointer (some ⟨g, 0, none⟩) := by simpa using hp
  have hq' : tmps[q]?.getD undef = .pointer (some ⟨k, 0, none⟩) := by simpa using hq
  have h1 := run_loadVar_row (P := Tryz.prog) w g 30 30 r.cells.toArray (0, 0) _ hg Tryz.underlying30 rfl (by kernel_rfl)
  have h2 : (loadVar 4 ⟨k, 0, none⟩).run Tryz.prog w = .ok (.bool e) w := by
    have hc := hk.cell 0
    simp only [List.getElem?_cons_zero] at hc
    simp [loadVar, go_sem, hc]
  simp [results, h, hp', hq', asAddr, h1, h2, Result.andThen]

theorem find_put {b : Nat} {w W : World} {l0 : List Value} (x : RG) (e : Bool) (hl0 : l0.length = 6) (h2 : Row W (b + 2) 30 l0) (h3 : ∃ v, Row W (b + 3) 4 [v]) (hB : Below b w W) :
    Row (((((((W.setCell ⟨b + 2, 0, none⟩ (.string x.lo)).setCell ⟨b + 2, 1, none⟩ (.string x.hi)).setCell ⟨b + 2, 2, none⟩ (.string x.acs)).setCell ⟨b + 2, 3, none⟩ (.string x.low)).setCell ⟨b + 2, 4, none⟩ (.string x.high)).setCell ⟨b + 2, 5, none⟩ (.int .i64 x.mode)).setCell ⟨b + 3, 0, none⟩ (.bool e)) (b + 2) 30 x.cells ∧
    Row (((((((W.setCell ⟨b + 2, 0, none⟩ (.string x.lo)).setCell ⟨b + 2, 1, none⟩ (.string x.hi)).setCell ⟨b + 2, 2, none⟩ (.string x.acs)).setCell ⟨b + 2, 3, none⟩ (.string x.low)).setCell ⟨b + 2, 4, none⟩ (.string x.high)).setCell ⟨b + 2, 5, none⟩ (.int .i64 x.mode)).setCell ⟨b + 3, 0, none⟩ (.bool e)) (b + 3) 4 [.bool e] ∧
    Below b w (((((((W.setCell ⟨b + 2, 0, none⟩ (.string x.lo)).setCell ⟨b + 2, 1, none⟩ (.string x.hi)).setCell ⟨b + 2, 2, none⟩ (.string x.acs)).setCell ⟨b + 2, 3, none⟩ (.string x.low)).setCell ⟨b + 2, 4, none⟩ (.string x.high)).setCell ⟨b + 2, 5, none⟩ (.int .i64 x.mode)).setCell ⟨b + 3, 0, none⟩ (.bool e)) := by
  obtain ⟨v, h3⟩ := h3
  have hne : b + 3 ≠ b + 2 := by omega
  have hle : b ≤ b + 2 := by omega
  refine ⟨?_, ?_, ?_⟩
  · have h := ((((((h2.set 0 (.string x.lo)).set 1 (.string x.hi)).set 2 (.string x.acs)).set 3 (.string x.low)).set 4 (.string x.high)).set 5 (.int .i64 x.mode)).far (p := ⟨b + 3, 0, none⟩) (by show b + 2 ≠ b + 3; omega) (.bool e)
    match l0, hl0 with
    | [_, _, _, _, _, _], _ => exact h
  · exact ((((((h3.far (p := ⟨b + 2, 0, none⟩) hne _).far (p := ⟨b + 2, 1, none⟩) hne _).far (p := ⟨b + 2, 2, none⟩) hne _).far (p := ⟨b + 2, 3, none⟩) hne _).far (p := ⟨b + 2, 4, none⟩) hne _).far (p := ⟨b + 2, 5, none⟩) hne _).set 0 (.bool e)
  · exact ((((((hB.setCell (p := ⟨b + 2, 0, none⟩) hle _).setCell (p := ⟨b + 2, 1, none⟩) hle _).setCell (p := ⟨b + 2, 2, none⟩) hle _).setCell (p := ⟨b + 2, 3, none⟩) hle _).setCell (p := ⟨b + 2, 4, none⟩) hle _).setCell (p := ⟨b + 2, 5, none⟩) hle _).setCell (p := ⟨b + 3, 0, none⟩) (by show b ≤ b + 3; omega) _

/-- The first range that has the card. -/
def findL (l : List RG) (k : ByteArray) : Option RG := l.find? fun r => hasB r k
def zRG : RG := ⟨⟨#[]⟩, ⟨#[]⟩, ⟨#[]⟩, ⟨#[]⟩, ⟨#[]⟩, 0⟩
/-- How Find ends. -/
def FindPost (l : List RG) (k : ByteArray) (w : World) (e : Ending) (w' : World) : Prop :=
  Below w.heap.size w w' ∧ e = .returned (.tuple #[.agg ((findL l k).getD zRG).cells.toArray, .bool (findL l k).isSome])

theorem find_of_pre {l : List RG} {k : ByteArray} {q : List (Kx l)} {x : Kx l} (hp : (q ++ [x]).map Subtype.val <+: l.zipIdx) (hq : ∀ y ∈ q, hasB y.1.1 k = false) (hx : hasB x.1.1 k = true) : findL l k = some x.1.1 := by
  unfold findL
  have h1 : l = l.zipIdx.map (·.1) := by simp
  obtain ⟨t, ht⟩ := hp
  have h3 : l.find? (fun r => hasB r k) = (l.zipIdx.map (·.1)).find? (fun r => hasB r k) := congrArg _ h1
  rw [h3, ← ht, List.map_append, List.map_append, List.map_append, List.append_assoc, List.find?_append]
  have h2 : List.find? (fun r => hasB r k) (List.map (fun x => x.1) (List.map Subtype.val q)) = none := by
    rw [List.find?_eq_none]
    intro r hr
    obtain ⟨y, hy, rfl⟩ := List.mem_map.1 hr
    obtain ⟨z, hz, rfl⟩ := List.mem_map.1 hy
    rw [hq z hz]; decide
  rw [h2]
  simp [hx]
theorem find_none {l : List RG} {k : ByteArray} {ys : List (Kx l)} (hp : ys.map Subtype.val = l.zipIdx) (hq : ∀ y ∈ ys, hasB y.1.1 k = false) : findL l k = none := by
  unfold findL
  rw [List.find?_eq_none]
  intro r hr
  have h1 : l = l.zipIdx.map (·.1) := by simp
  rw [h1, ← hp] at hr
  obtain ⟨y, hy, rfl⟩ := List.mem_map.1 hr
  obtain ⟨z, hz, rfl⟩ := List.mem_map.1 hy
  rw [hq z hz]; decide

set_option maxRecDepth 100000 in
set_option maxHeartbeats 4000000 in
theorem Find_any (l : List RG) (hl : ∀ r ∈ l, r.light) (h64 : l.length ≤ 64) (k : ByteArray) (hk : k.size ≤ 1000) (s : Value) (w : World) (hT : TBL w s l) :
    Calls Tryz.prog 17 #[.agg #[s], .string k] w (FindPost l k w) := by
  obtain ⟨a, cap, rfl⟩ := hT.slice
  have HAll := Lib.hid (fun W => TAll_any a l.length cap W)
  have HT := Lib.hid hT
  clear hT
  refine (callsIn_wide (n := 6)).1 ?_
  refine callsIn_of_wp_marks Tryz.func17 rfl trivial ?_ rfl
  simp only [Tryz.ntmps17, List.size_toArray, List.length_cons, List.length_nil, Nat.reduceAdd, Nat.reduceSub, Array.replicate_succ, Array.replicate_zero, List.push_toArray, List.append_toArray, List.nil_append, List.cons_append]
  rw [wpIn_wide]
  obtain ⟨b, hb⟩ : ∃ b, w.heap.size = b := ⟨_, rfl⟩
  have HB := Lib.hid hb
  go_wp2_with fail
  obtain ⟨W0, hW0⟩ : ∃ W, (((w.alloc (.cells #[.slice a l.length cap] 27)).alloc (.cells #[.string k] 9)).alloc (.cells #[.string ⟨#[]⟩, .string ⟨#[]⟩, .string ⟨#[]⟩, .string ⟨#[]⟩, .string ⟨#[]⟩, .int .i64 0] 30)).alloc (.cells #[.bool false] 4) = W := ⟨_, rfl⟩
  rw [hW0]
  have hI0 : FI b (.slice a l.length cap) l k w [] W0 := by
    rw [← hW0, ← hb]
    have z1 : (w.alloc (.cells #[.slice a l.length cap] 27)).heap.size = w.heap.size + 1 := by simp
    have z2 : ((w.alloc (.cells #[.slice a l.length cap] 27)).alloc (.cells #[.string k] 9)).heap.size = w.heap.size + 2 := by simp
    have z3 : (((w.alloc (.cells #[.slice a l.length cap] 27)).alloc (.cells #[.string k] 9)).alloc (.cells #[.string ⟨#[]⟩, .string ⟨#[]⟩, .string ⟨#[]⟩, .string ⟨#[]⟩, .string ⟨#[]⟩, .int .i64 0] 30)).heap.size = w.heap.size + 3 := by simp
    refine ⟨fun x hx => absurd hx (by simp), ⟨(((Row.self w _ _).alloc _).alloc _).alloc _, ?_⟩, ⟨?_, ?_⟩, ((((Below.refl _ _).alloc (Nat.le_refl _) _).alloc (by simp) _).alloc (by simp; omega) _).alloc (by simp; omega) _⟩
    · rw [← z1]; exact ((Row.self _ _ _).alloc _).alloc _
    · rw [← z2]; exact (Row.self _ _ _).alloc _
    · rw [← z3]; exact Row.self _ _ _
  have HI0 := Lib.hid hI0
  clear hI0 hW0
  have HTB : Hid (∀ W, Below b w W → TBL W (.slice a l.length cap) l) := Lib.hid fun W h => HT.out.below (by rw [hb]; exact h)
  refine (HAll.out _).mono ?_
  rintro e w2 ⟨rfl, rfl⟩
  go_wp2_with fail
  obtain ⟨c0, hc0⟩ : ∃ c, W0.heap.size = c := ⟨_, rfl⟩
  have hlt2 : b + 3 < W0.heap.size := HI0.out.2.2.1.2.lt
  rw [hc0] at hlt2 ⊢
  have B3 : Below W0.heap.size W0 ((W0.alloc (.cells #[.slice a l.length cap] 27)).alloc (.cells #[.slice a l.length cap] 25)) := ((Below.refl _ _).alloc (Nat.le_refl _) _).alloc (by simp) _
  have HI3 := Lib.hid (HI0.out.below B3)
  have hBn : Row ((W0.alloc (.cells #[.slice a l.length cap] 27)).alloc (.cells #[.slice a l.length cap] 25)) (c0 + 1) 25 [.slice a l.length cap] := by
    rw [show c0 + 1 = (W0.alloc (.cells #[.slice a l.length cap] 27)).heap.size by simp [hc0]]
    exact Row.self _ _ _
  have hz3 : c0 + 1 < ((W0.alloc (.cells #[.slice a l.length cap] 27)).alloc (.cells #[.slice a l.length cap] 25)).heap.size := hBn.lt
  obtain ⟨w3, hw3⟩ : ∃ W, (W0.alloc (.cells #[.slice a l.length cap] 27)).alloc (.cells #[.slice a l.length cap] 25) = W := ⟨_, rfl⟩
  rw [hw3] at HI3 hBn hz3 ⊢
  clear B3 hw3 HI0
  have hel : ∃ g, g ≤ b ∧ ElemsAt w3 g a l := by
    rcases (HTB.out _ HI3.out.2.2.2).form with ⟨h1, _⟩ | ⟨g, cap', cur, h1, h2, _, _, _, h6⟩
    · exact ⟨b, Nat.le_refl _, _, _, _, HI3.out.2.1.1, Or.inl h1⟩
    · injection h1 with h1 _ _
      refine ⟨g, ?_, cur, _, _, h2, Or.inr ⟨h1, h6⟩⟩
      rcases HT.out.form with ⟨_, h3⟩ | ⟨g', _, _, h3, h4, _⟩
      · injection h3 with h3; rw [h1] at h3; cases h3
      · injection h3 with h3 _ _
        rw [h1] at h3
        injection h3 with h3
        injection h3 with h3
        have := (Array.getElem?_eq_some_iff.1 h4).1
        omega
  obtain ⟨g, hgb, hE⟩ := hel
  rw [← wpIn_wide (n := 6)]
  refine' wpIn_rangeFunc_ownH rfl (by omega) (gf := 85) (lb := #[.pointer (some ⟨c0 + 1, 0, none⟩)]) rfl trivial (enters_of Tryz.func85 (by kernel_rfl) rfl)
    (All_stops 5 (by omega) (c0 + 1) g a cap l h64 w3 hBn hE) keepsA_t (keepsA_b (by omega)) (Below.refl _ _) (fun _ => rfl)
    (FI b (.slice a l.length cap) l k w)
    (FX b l k w)
    (FI_own b _ l k w _ (by omega) (by omega))
    (fun c => FX_own b l k w c _ (by omega) (by omega))
    HI3.out
    (fun x a' W => ∃ g', (a' = { tmps := #[Value.agg #[Value.slice a l.length cap], Value.string k,
      Value.pointer (some ⟨b, 0, none⟩), Value.pointer (some ⟨b + 1, 0, none⟩), Value.pointer (some ⟨b + 1 + 1, 0, none⟩), Value.pointer (some ⟨b + 1 + 1 + 1, 0, none⟩), undef, Value.pointer (some ⟨g', 0, none⟩),
      Value.agg #[Value.slice a l.length cap],
      Value.func (Fn.func 85) #[] #[Value.pointer (some ⟨c0 + 1, 0, none⟩)], .int .i64 (x.1.2 : Nat), .agg #[.string x.1.1.lo, .string x.1.1.hi, .string x.1.1.acs, .string x.1.1.low, .string x.1.1.high, .int .i64 x.1.1.mode],
      undef, undef, undef, undef, undef], defers := [] } ∧ b + 3 < g') ∧ Row W g' 30 [.string x.1.1.lo, .string x.1.1.hi, .string x.1.1.acs, .string x.1.1.low, .string x.1.1.high, .int .i64 x.1.1.mode])
    (fun x a' => ax_ownV _) ?hassign ?hbody ?hdone ?hstop
  case hassign =>
    rintro l' pre x W K hI hK
    have hbW : b + 3 < W.heap.size := hI.2.2.1.2.lt
    dsimp only [encA]
    gi_wp2
    have ha : Below W.heap.size W (W.alloc (.cells #[.string x.1.1.lo, .string x.1.1.hi, .string x.1.1.acs, .string x.1.1.low, .string x.1.1.high, .int .i64 x.1.1.mode] 30)) := (Below.refl _ _).alloc (Nat.le_refl _) _
    exact hK _ _ ((below_othersV ha).from _) (ha.block g (by omega)) (hI.below ha) ⟨W.heap.size, ⟨rfl, hbW⟩, Row.self W _ _⟩
  case hbody =>
    rintro l' pre x a' W hl' hrec hI ⟨g', ⟨rfl, hbg⟩, hrow⟩ hlt
    obtain ⟨⟨x, xi⟩, hx⟩ := x
    have HA := Lib.hid (fun W => Has_any x (hl x hx) k hk W)
    obtain ⟨ap, hap⟩ : ∃ ap, hasB x k = ap := ⟨_, rfl⟩
    rw [hap] at HA
    have HAP := Lib.hid hap
    have q0 := hrow.cell 0
    have q1 := hrow.cell 1
    have q2 := hrow.cell 2
    have q3 := hrow.cell 3
    have q4 := hrow.cell 4
    have q5 := hrow.cell 5
    have p0 := hI.2.1.2.cell 0
    simp only [List.getElem?_cons_zero, List.getElem?_cons_succ] at p0 q0 q1 q2 q3 q4 q5
    have HI := Lib.hid hI
    have HRW := Lib.hid hrow
    have hgW : g < W.heap.size := by have := hI.2.1.1.lt; omega
    clear hI hrow hap hE hBn
    dsimp only
    gi_wp2_with fail
    refine ⟨trivial, (CallsIn.inRound l' (callsIn_wide.2 (HA.out _))).mono ?_⟩
    rintro e w4 ⟨rfl, hb4⟩
    have HI4 := Lib.hid (HI.out.below hb4)
    have HB4 := Lib.hid hb4
    have HRW4 := Lib.hid (HRW.out.below hb4 HRW.out.lt)
    clear hb4 p0 q0 q1 q2 q3 q4 q5
    cases ap with
    | false =>
      gi_wp2
      refine ⟨(below_othersV HB4.out).from _, HB4.out.block g hgW, ?_, HI4.out.2⟩
      intro y hy
      rcases List.mem_append.1 hy with hy | hy
      · exact HI4.out.1 y hy
      · rw [List.mem_singleton] at hy
        subst hy
        exact HAP.out
    | true =>
      have q0 := HRW4.out.cell 0
      have q1 := HRW4.out.cell 1
      have q2 := HRW4.out.cell 2
      have q3 := HRW4.out.cell 3
      have q4 := HRW4.out.cell 4
      have q5 := HRW4.out.cell 5
      have d0 := HI4.out.2.2.1.1.cell 0
      have d1 := HI4.out.2.2.1.1.cell 1
      have d2 := HI4.out.2.2.1.1.cell 2
      have d3 := HI4.out.2.2.1.1.cell 3
      have d4 := HI4.out.2.2.1.1.cell 4
      have d5 := HI4.out.2.2.1.1.cell 5
      have f0 := HI4.out.2.2.1.1.frozen 0
      have f1 := HI4.out.2.2.1.1.frozen 1
      have f2 := HI4.out.2.2.1.1.frozen 2
      have f3 := HI4.out.2.2.1.1.frozen 3
      have f4 := HI4.out.2.2.1.1.frozen 4
      have f5 := HI4.out.2.2.1.1.frozen 5
      have e0 := HI4.out.2.2.1.2.cell 0
      have e1 := HI4.out.2.2.1.2.frozen 0
      simp only [List.getElem?_cons_zero, List.getElem?_cons_succ] at q0 q1 q2 q3 q4 q5 d0 d1 d2 d3 d4 d5 e0
      gi_wp2
      obtain ⟨r2, r3, hB⟩ := find_put x true rfl HI4.out.2.2.1.1 ⟨_, HI4.out.2.2.1.2⟩ HI4.out.2.2.2
      exact ⟨((below_othersV HB4.out).trans ((KeepsOthers.setCell _ _ _).trans ((KeepsOthers.setCell _ _ _).trans ((KeepsOthers.setCell _ _ _).trans ((KeepsOthers.setCell _ _ _).trans ((KeepsOthers.setCell _ _ _).trans ((KeepsOthers.setCell _ _ _).trans (KeepsOthers.setCell _ _ _)))))))).from _, ⟨rfl, pre, _, rfl, HI4.out.1, HAP.out, r2⟩, r3, hB⟩
  case hdone =>
    rintro D ys W hD hys hI hK
    have hFN := Lib.hid (find_none hys hI.1)
    have d0 := hI.2.2.1.1.cell 0
    have d1 := hI.2.2.1.1.cell 1
    have d2 := hI.2.2.1.1.cell 2
    have d3 := hI.2.2.1.1.cell 3
    have d4 := hI.2.2.1.1.cell 4
    have d5 := hI.2.2.1.1.cell 5
    have f0 := hI.2.2.1.1.frozen 0
    have f1 := hI.2.2.1.1.frozen 1
    have f2 := hI.2.2.1.1.frozen 2
    have f3 := hI.2.2.1.1.frozen 3
    have f4 := hI.2.2.1.1.frozen 4
    have f5 := hI.2.2.1.1.frozen 5
    have e0 := hI.2.2.1.2.cell 0
    have e1 := hI.2.2.1.2.frozen 0
    simp only [List.getElem?_cons_zero, List.getElem?_cons_succ] at d0 d1 d2 d3 d4 d5 e0
    have HI := Lib.hid hI
    have HKD := Lib.hid (And.intro hK hD)
    clear hI hK hD hys hE hBn
    dsimp only
    go_wp2_with fail
    obtain ⟨r2, r3, hB⟩ := find_put zRG false rfl HI.out.2.2.1.1 ⟨_, HI.out.2.2.1.2⟩ HI.out.2.2.2
    have hDb : w.heap.size ≤ D := by have := HKD.out.2; rw [hb]; omega
    have hDk : D ≠ b + 2 ∧ D ≠ b + 3 := by have := HKD.out.2; exact ⟨by omega, by omega⟩
    have hKx : (((((((W.setCell ⟨b + 2, 0, none⟩ (.string zRG.lo)).setCell ⟨b + 2, 1, none⟩ (.string zRG.hi)).setCell ⟨b + 2, 2, none⟩ (.string zRG.acs)).setCell ⟨b + 2, 3, none⟩ (.string zRG.low)).setCell ⟨b + 2, 4, none⟩ (.string zRG.high)).setCell ⟨b + 2, 5, none⟩ (.int .i64 zRG.mode)).setCell ⟨b + 3, 0, none⟩ (.bool false)).heap[D]? = some (.deferred (some [])) := by
      refine (Below.heap_setCell _ ⟨b + 3, 0, none⟩ _ D hDk.2).trans ?_
      refine (Below.heap_setCell _ ⟨b + 2, 5, none⟩ _ D hDk.1).trans ?_
      refine (Below.heap_setCell _ ⟨b + 2, 4, none⟩ _ D hDk.1).trans ?_
      refine (Below.heap_setCell _ ⟨b + 2, 3, none⟩ _ D hDk.1).trans ?_
      refine (Below.heap_setCell _ ⟨b + 2, 2, none⟩ _ D hDk.1).trans ?_
      refine (Below.heap_setCell _ ⟨b + 2, 1, none⟩ _ D hDk.1).trans ?_
      refine (Below.heap_setCell _ ⟨b + 2, 0, none⟩ _ D hDk.1).trans ?_
      exact HKD.out.1
    have r2a := (World.putObj_heap_other (r := D) (o := .deferred none) (by omega)).trans r2
    have r3a := (World.putObj_heap_other (r := D) (o := .deferred none) (by omega)).trans r3
    refine ⟨by simp, .inl ⟨_, _, rfl, run_takeDeferred hKx, ?_⟩⟩
    exact ⟨_, results_find rfl _ _ (b + 2) (b + 3) zRG false rfl rfl r2a r3a, (show Below w.heap.size w _ by rw [hb]; exact hB).trans (belowK_b (w := w) (Nat.le_refl _) _ D _ _ hDb hKx rfl rfl), by rw [hFN.out]; rfl⟩
  case hstop =>
    rintro D c pre W hD hp ⟨⟨rfl, q, x, rfl, hq, hx, h2⟩, h3, hB⟩ hK
    have hF := find_of_pre hp hq hx
    rw [wpIn_wide]
    dsimp only
    go_wp2
    have hDb : w.heap.size ≤ D := by rw [hb]; omega
    have r2 : Row (W.putObj D (.deferred none)) (b + 2) 30 x.1.1.cells := (World.putObj_heap_other (o := .deferred none) (by omega)).trans h2
    have r3 : Row (W.putObj D (.deferred none)) (b + 3) 4 [.bool true] := (World.putObj_heap_other (o := .deferred none) (by omega)).trans h3
    refine ⟨by simp, .inl ⟨_, _, rfl, run_takeDeferred hK, ?_⟩⟩
    exact ⟨_, results_find rfl _ _ _ _ _ _ rfl rfl r2 r3, (show Below w.heap.size w W by rw [hb]; exact hB).trans (belowK_b (w := w) (Nat.le_refl _) _ D _ _ hDb hK rfl rfl), by rw [hF]; rfl⟩
end Go.Proofs.YtldjnegoefdadaaGreatDoor

namespace Go.Proofs.YtldjnegoefdadaaGreatDoor
open Go.RowKit
set_option linter.unusedVariables false

def delL (l : List RG) (i : Nat) : List RG := l.take i ++ l.drop (i + 1)
theorem delL_len (l : List RG) (i : Nat) (h : i < l.length) : (delL l i).length = l.length - 1 := by unfold delL; simp; omega
theorem step_append_r {P : Program} {ops : Array Oper} {o : Oper} {a : Act} {w : World} {K : Act → World → Prop} {Q : Exit → Act → World → Prop} {E : Prop}
    (hg : o.guard = none) (d x : Operand) (dT sT : TypeId) (hop : o.op = Op.call { callee := Callee.builtin Builtin.append, args := #[d, x], argTypes := #[dT, sT] })
    (v u : Value) (hd : a.eval d = v) (hx : a.eval x = u) {v' : Value} {w' : World} (hr : (Builtin.append_ #[dT, sT] o.type #[v, u]).run P w = .ok v' w') (hK : K (a.put o.dst v') w') :
    if Region.wanted o (yielded ops a.tmps) = true then Oper.wp P o a w K Q else E := by
  rw [if_pos (by simp [Region.wanted, hg])]
  unfold Oper.wp
  simp [execOp, hop, resolve, invoke, builtin, hd, hx, hr, Result.andThen]
  exact hK
/-- clear of one element of k cells. -/
theorem run_clear_k {P : Program} (w : World) (t e ty : TypeId) (i : TypeInfo) (z : Value) (ht : P.underlying t = some (.slice e)) (hi : P.info? e = some i) (hz : i.zero = some z) (h1 : ∀ v ∈ z.cells.toList, v.oneCell' = true) (b o c : Nat)
    (hc : ∀ j, j < z.cells.size → (w.cell? ⟨b, o + j, none⟩).isSome = true) (hf : ∀ j, j < z.cells.size → w.frozen? ⟨b, o + j, none⟩ = false) :
    (Builtin.clear_ #[t] ty #[.slice (some ⟨b, o, none⟩) 1 c]).run P w = .ok (.tuple #[]) (w.setCells b o z.cells.toList) := by
  have hst : (storeCells ⟨b, o, none⟩ z.cells.toList).run P w = .ok () (w.setCells b o z.cells.toList) := by simpa using run_storeCells_cells (P := P) b o z.cells.toList 0 w (by simpa using hc) (by simpa using hf) h1
  have hzc : (Builtin.zeroCells z.cells 1).toList = z.cells.toList := by
    simp [Builtin.zeroCells]
    apply List.ext_getElem
    · simp
    · intro j h1 h2
      have hj : j < z.cells.size := by simpa using h2
      simp [Nat.mod_eq_of_lt hj, hj]
  simp [Builtin.clear_, run_underlying ht, zeroValue, typeInfo, hi, hz, hzc, hst]

theorem range_zero : ∃ i, Tryz.prog.info? 30 = some i ∧ i.zero = some (.agg #[.string ⟨#[]⟩, .string ⟨#[]⟩, .string ⟨#[]⟩, .string ⟨#[]⟩, .string ⟨#[]⟩, .int .i64 0]) ∧ i.size = 6 ∧ i.bytes = 88 := by
  have h : (Tryz.prog.info? 30).map (fun i => (i.zero, i.size, i.bytes)) = some (some (.agg #[.string ⟨#[]⟩, .string ⟨#[]⟩, .string ⟨#[]⟩, .string ⟨#[]⟩, .string ⟨#[]⟩, .int .i64 0]), 6, 88) := by kernel_rfl
  cases hi : Tryz.prog.info? 30 with
  | none => rw [hi] at h; cases h
  | some i =>
    rw [hi] at h
    simp only [Option.map_some, Option.some.injEq, Prod.mk.injEq] at h
    exact ⟨i, rfl, h⟩

set_option maxHeartbeats 4000000 in
set_option maxRecDepth 100000 in
theorem Delete_any (B : Nat) (l : List RG) (h64 : l.length ≤ 64) (i : Nat) (hi : i < l.length) (s : Value) (w : World) (hO : OWN B w s l) :
    Calls Tryz.prog 38 #[s, .int .i64 i, .int .i64 ((i : Int) + 1)] w fun e w' => ∃ s', e = .returned s' ∧ OWN B w' s' (delL l i) ∧ Below B w w' := by
  rcases hO.2 with ⟨_, h0⟩ | ⟨g, cap, cur, rfl, hBg, hg, hnc, hcm, hcs, htk⟩
  · omega
  have u36 := Tryz.underlying25
  have u3 := Tryz.underlying3
  obtain ⟨i0, hi0, hz0, hzs, hzb⟩ := range_zero
  obtain ⟨n, hn⟩ : ∃ n, l.length = n := ⟨_, rfl⟩
  rw [hn] at h64 hi hnc htk ⊢
  have hR0 := rangeAt_of_cur hg (by rw [hn]; exact htk)
  have hcl := cellsL_len l
  rw [hn] at hcl
  have hdl : ((cellsL l).drop ((i + 1) * 6)).length = (n - (i + 1)) * 6 := by rw [List.length_drop]; omega
  have htl : ((cellsL l).take (i * 6)).length = i * 6 := by rw [List.length_take]; omega
  have hctl : cur.toList.length = cap * 6 := by simpa using hcs
  -- the row behind the append
  obtain ⟨A, hA, hsrc⟩ : ∃ A : Addr, (if cap = i + 1 then some (⟨g, 0, none⟩ : Addr) else some ⟨g, (i + 1) * 6, none⟩) = some A ∧ Hid (∀ t u, ((cellsL l).drop ((i + 1) * 6))[t]? = some u → w.drew.cell? (A.add t) = some u) := by
    by_cases h : cap = i + 1
    · refine ⟨⟨g, 0, none⟩, by simp [h], Lib.hid fun t u hu => ?_⟩
      have h0 : ((cellsL l).drop ((i + 1) * 6)).length = 0 := by rw [hdl]; omega
      rw [List.length_eq_zero_iff.1 h0] at hu
      simp at hu
    · refine ⟨⟨g, (i + 1) * 6, none⟩, by simp [h], Lib.hid fun t u hu => ?_⟩
      rw [Addr.add_mid]
      have := rangeAt_drop hR0 ((i + 1) * 6) t u hu
      rw [Nat.zero_add] at this
      exact this
  have happ := fun ty c => run_append_room (P := Tryz.prog) w.drew 25 ty 30 i0 u36 hi0 g i cap cur hg A (n - (i + 1)) c ((cellsL l).drop ((i + 1) * 6)) (by rw [hzs, hdl]) hsrc.out (fun u hu => cellsL_one l u (List.mem_of_mem_drop hu)) (by omega) (by rw [hzs, hdl, hcs]; omega)
  rw [hzs] at happ
  obtain ⟨C1, hC1⟩ : ∃ C, (cur.toList.take (i * 6) ++ (cellsL l).drop ((i + 1) * 6) ++ cur.toList.drop (i * 6 + ((cellsL l).drop ((i + 1) * 6)).length)).toArray = C := ⟨_, rfl⟩
  rw [hC1, show i + (n - (i + 1)) = n - 1 by omega] at happ
  have hC1s : C1.size = cap * 6 := by
    rw [← hC1]
    simp only [List.size_toArray, List.length_append, List.length_take, List.length_drop, hctl, hcl]
    omega
  have hctk : cur.toList.take (i * 6) = (cellsL l).take (i * 6) := by rw [← htk, List.take_take, Nat.min_eq_left (by omega)]
  have hdell : cellsL (delL l i) = (cellsL l).take (i * 6) ++ (cellsL l).drop ((i + 1) * 6) := by unfold delL; rw [cellsL_append, cellsL_take, cellsL_drop]
  have hC1t : C1.toList.take ((n - 1) * 6) = cellsL (delL l i) := by
    rw [← hC1, hdell, hctk]
    have hl2 : ((cellsL l).take (i * 6) ++ (cellsL l).drop ((i + 1) * 6)).length = (n - 1) * 6 := by rw [List.length_append, htl, hdl]; omega
    rw [List.toList_toArray, List.take_append_of_le_length (by omega), List.take_of_length_le (by omega)]
  obtain ⟨W1, hW1⟩ : ∃ W, w.drew.setRow g C1 = W := ⟨_, rfl⟩
  rw [hW1] at happ
  have f1 : W1.heap[g]? = some (.cells C1 30 (0, 0)) := by rw [← hW1]; exact setRow_heap w.drew g cur C1 _ (0, 0) hg
  have B1 : Below B w W1 := by rw [← hW1]; exact below_setRow (B := B) (Below.refl B w).drew hBg C1
  -- the last element is wiped
  have hlast : (n - 1) * 6 + 6 ≤ cap * 6 := by omega
  have hclr := fun ty c => run_clear_k (P := Tryz.prog) W1 25 30 ty i0 _ u36 hi0 hz0 (by decide) g ((n - 1) * 6) c (fun j hj => by
      have hj6 : j < 6 := hj
      rw [cell_of_row W1 g _ C1 _ (0, 0) f1, Array.getElem?_eq_getElem (by omega)]
      rfl) (fun j hj => by simp [World.frozen?, f1])
  obtain ⟨Z, hZ⟩ : ∃ Z, (Value.agg #[.string ⟨#[]⟩, .string ⟨#[]⟩, .string ⟨#[]⟩, .string ⟨#[]⟩, .string ⟨#[]⟩, .int .i64 0]).cells.toList = Z := ⟨_, rfl⟩
  have hZl : Z.length = 6 := by rw [← hZ]; rfl
  rw [hZ] at hclr
  have s1 : W1.rangeAt g 0 (cellsL (delL l i)) := rangeAt_of_cur (l := delL l i) f1 (by rw [delL_len l i (by omega), hn]; exact hC1t)
  have hdlen : (cellsL (delL l i)).length = (n - 1) * 6 := by rw [cellsL_len, delL_len l i (by omega), hn]
  have s2 := World.rangeAt_setCells_apart s1 g ((n - 1) * 6) Z (Or.inr (Or.inl (by omega)))
  obtain ⟨C2, f2, hC2⟩ := setCells_shape g _ _ Z ((n - 1) * 6) W1 C1 f1
  have B2 := below_setCells (B := B) g hBg Z ((n - 1) * 6) W1 B1
  obtain ⟨W2, hW2⟩ : ∃ W, W1.setCells g ((n - 1) * 6) Z = W := ⟨_, rfl⟩
  rw [hW2] at hclr s2 f2 B2
  have HO : Hid (OWN B W2 (.slice (some ⟨g, 0, none⟩) (n - 1) cap) (delL l i) ∧ Below B w W2) := Lib.hid (by
    refine ⟨?_, B2⟩
    have hdn := delL_len l i (by omega)
    rw [hn] at hdn
    refine ⟨cellsL_len _, Or.inr ⟨g, cap, C2, by rw [hdn], hBg, f2, by omega, hcm, by rw [hC2, hC1s], ?_⟩⟩
    apply List.ext_getElem?
    intro j
    by_cases hj : j < (n - 1) * 6
    · rw [hdn, List.getElem?_take_of_lt hj, Array.getElem?_toList, ← cell_of_row W2 g j C2 _ (0, 0) f2]
      have h3 := s2 j _ (List.getElem?_eq_getElem (by omega))
      rw [Nat.zero_add] at h3
      rw [h3, List.getElem?_eq_getElem (by omega)]
    · rw [List.getElem?_eq_none (by rw [List.length_take, hdn]; omega), List.getElem?_eq_none (by omega)])
  have mixed : Tryz.prog.follows Departure.mixedOrders = true := by kernel_rfl
  have hij : ¬ ((i : Int) = (i : Int) + 1) := by omega
  have hw1 : (0 : Int) ≤ (i : Int) + 1 := by omega
  have htn : ((i : Int) + 1).toNat = i + 1 := by omega
  have hjn : (i : Int) + 1 ≤ (n : Int) := by omega
  have hin : i ≤ n := by omega
  have hncI : (n : Int) ≤ (cap : Int) := by omega
  have hci : ¬ (cap = i) := by omega
  have hic : i ≤ cap := by omega
  have h11 : n - (n - 1) = 1 := by omega
  have hncN : n ≤ cap := hnc
  have hn1 : n - 1 ≤ n := by omega
  have hcn1 : ¬ (cap = n - 1) := by omega
  have hn1I : ((n - 1 : Nat) : Int) ≤ (n : Int) := by omega
  have happ' := Lib.hid happ
  unfold maxLen at hcm
  clear happ hsrc hR0 hcl hdl htl hctl hC1 hC1s hctk hdell hC1t hW1 f1 B1 hZ hZl s1 hdlen s2 hC2 f2 B2 hW2 htk hcs hg hO hn
  go_enter Tryz.func38, Tryz.ntmps38
  go_wp2_with fail
  go_region_law_o (refine step_append_r rfl _ _ 25 25 rfl (.slice (some ⟨g, 0, none⟩) i cap) (.slice (some A) (n - (i + 1)) (cap - (i + 1))) (by simp [Act.eval, Act.put]) (by simp [Act.eval, Act.put]) (happ'.out 25 (cap - (i + 1))) ?_)
  go_wp2
  go_ret
  exact ⟨_, rfl, HO.out.1, HO.out.2⟩
end Go.Proofs.YtldjnegoefdadaaGreatDoor

namespace Go.Proofs.YtldjnegoefdadaaGreatDoor
open Go.RowKit Go.Shelf
set_option linter.unusedVariables false
set_option linter.unusedSimpArgs false

/-- How Drop ends. -/
def DropPost (l : List RG) (k : ByteArray) (p : Nat) (w : World) (e : Ending) (w' : World) : Prop :=
  Below w.heap.size w w' ∧ ∃ s' er, e = .returned (.tuple #[.agg #[s'], .int .i64 er]) ∧
    ((er = 16 ∧ s' = .slice none 0 0 ∧ ¬ ∃ h : p < l.length, ck k l[p] = 0) ∨ (er = 0 ∧ (∃ h : p < l.length, ck k l[p] = 0) ∧ OWN w.heap.size w' s' (delL l p)))

set_option maxRecDepth 100000 in
set_option maxHeartbeats 4000000 in
theorem Drop_any (l : List RG) (hl : ∀ r ∈ l, r.light) (h64 : l.length ≤ 64) (k : ByteArray) (hk : k.size ≤ 1000) (p : Nat) (hp : Stands l k p) (s : Value) (w : World) (hT : TBL w s l) :
    Calls Tryz.prog 10 #[.agg #[s], .string k] w (DropPost l k p w) := by
  obtain ⟨a, cap, rfl⟩ := hT.slice
  have HPl := Lib.hid (fun W h => place_any l hl h64 k hk p hp (.slice a l.length cap) W h)
  have HCl := Lib.hid (fun W h => Clone_any l h64 (.slice a l.length cap) W h)
  obtain ⟨b, hb⟩ : ∃ b, w.heap.size = b := ⟨_, rfl⟩
  have B0 : Below b w ((w.alloc (.cells #[.slice a l.length cap] 27)).alloc (.cells #[.slice none 0 0] 27)) := by rw [← hb]; exact ((Below.refl _ _).alloc (Nat.le_refl _) _).alloc (by simp) _
  have H0 : Hid (Row ((w.alloc (.cells #[.slice a l.length cap] 27)).alloc (.cells #[.slice none 0 0] 27)) b 27 [.slice a l.length cap] ∧ Row ((w.alloc (.cells #[.slice a l.length cap] 27)).alloc (.cells #[.slice none 0 0] 27)) (b + 1) 27 [.slice none 0 0]) := Lib.hid (by
    rw [← hb]
    have z1 : (w.alloc (.cells #[.slice a l.length cap] 27)).heap.size = w.heap.size + 1 := by simp
    refine ⟨(Row.self w _ _).alloc _, ?_⟩
    rw [← z1]
    exact Row.self _ _ _)
  have HB0 := Lib.hid B0
  have HT : Hid (∀ W, Below b w W → TBL W (.slice a l.length cap) l) := Lib.hid fun W h => hT.below (by rw [hb]; exact h)
  obtain ⟨R, hR⟩ : ∃ R, decide (∃ h : p < l.length, ck k l[p] = 0) = R := ⟨_, rfl⟩
  rw [hR] at HPl
  have HR := Lib.hid hR
  clear B0 hT hR
  go_enter Tryz.func10, Tryz.ntmps10
  go_wp2_with fail
  generalize (w.alloc (.cells #[.slice a l.length cap] 27)).alloc (.cells #[.slice none 0 0] 27) = w1 at H0 HB0 ⊢
  refine (HPl.out _ (HT.out _ HB0.out)).mono ?_
  rintro e w2 ⟨rfl, hb2⟩
  have R0 := Lib.hid (H0.out.1.below hb2 H0.out.1.lt)
  have R1 := Lib.hid (H0.out.2.below hb2 H0.out.2.lt)
  have B2 := Lib.hid (HB0.out.trans (hb2.mono (Nat.le_of_lt H0.out.1.lt)))
  clear hb2 H0 HB0
  have p0 := R0.out.cell 0
  have p1 := R1.out.cell 0
  have f1 := R1.out.frozen 0
  simp only [List.getElem?_cons_zero] at p0 p1
  cases R with
  | false =>
    have HN : Hid (¬ ∃ h : p < l.length, ck k l[p] = 0) := Lib.hid (of_decide_eq_false HR.out)
    clear HR
    go_wp2_with fail
    have r1 := R1.out.set 0 (.slice none 0 0)
    refine bodyPost_ret (results_tt rfl _ _ (b + 1) (.slice none 0 0) (.int .i64 16) rfl rfl r1) rfl ?_
    exact ⟨by rw [hb]; exact B2.out.setCell (p := ⟨b + 1, 0, none⟩) (by show b ≤ b + 1; omega) _, _, _, rfl, Or.inl ⟨rfl, rfl, HN.out⟩⟩
  | true =>
    have HY : Hid (∃ h : p < l.length, ck k l[p] = 0) := Lib.hid (of_decide_eq_true HR.out)
    have hpl := HY.out.1
    have HDel := Lib.hid (fun B s W h => Delete_any B l h64 p hpl s W h)
    clear HR
    go_wp2_with fail
    refine (HCl.out _ (HT.out _ B2.out)).mono ?_
    rintro e w3 ⟨s1, rfl, hO1, hb3⟩
    have B3 := Lib.hid (B2.out.trans (hb3.mono (by have := R0.out.lt; omega)))
    have Q1 := Lib.hid (R1.out.below hb3 R1.out.lt)
    have HO1 := Lib.hid hO1
    have hsz2 : b + 1 < w2.heap.size := R1.out.lt
    clear hO1 p0 p1 f1
    obtain ⟨xa, xn, xc, rfl⟩ : ∃ a n c, s1 = Value.slice a n c := (by obtain ⟨a, c, h⟩ := HO1.out.tbl.slice; exact ⟨a, _, c, h⟩)
    go_wp2_with fail
    refine (HDel.out w2.heap.size _ _ HO1.out).mono ?_
    rintro e w4 ⟨s2, rfl, hO2, hb4⟩
    have B4 := Lib.hid (B3.out.trans (hb4.mono (by omega)))
    have Q2 := Lib.hid (Q1.out.below hb4 hsz2)
    have HO2 := Lib.hid hO2
    clear hO2 hb3 hb4
    obtain ⟨ya, yn, yc, rfl⟩ : ∃ a n c, s2 = Value.slice a n c := (by obtain ⟨a, c, h⟩ := HO2.out.tbl.slice; exact ⟨a, _, c, h⟩)
    have p1 := Q2.out.cell 0
    have f1 := Q2.out.frozen 0
    simp only [List.getElem?_cons_zero] at p1
    go_wp2_with fail
    have r1 := Q2.out.set 0 (.slice ya yn yc)
    refine bodyPost_ret (results_tt rfl _ _ (b + 1) (.slice ya yn yc) (.int .i64 0) rfl rfl r1) rfl ?_
    refine ⟨by rw [hb]; exact B4.out.setCell (p := ⟨b + 1, 0, none⟩) (by show b ≤ b + 1; omega) _, _, _, rfl, Or.inr ⟨rfl, HY.out, ?_⟩⟩
    rw [hb]
    exact (OWN.same HO2.out (fun g hg => Below.heap_setCell _ ⟨b + 1, 0, none⟩ _ g (by show g ≠ b + 1; omega))).weak (by omega)
end Go.Proofs.YtldjnegoefdadaaGreatDoor

namespace Go.Proofs.YtldjnegoefdadaaGreatDoor
open Go.RowKit
set_option linter.unusedVariables false

theorem insL_perm (t : List RG) (i : Nat) (r : RG) : (insL t i r).Perm (r :: t) := by
  unfold insL
  have h := (List.perm_middle (a := r) (l₁ := t.take i) (l₂ := t.drop i))
  rwa [List.take_append_drop] at h
/-- What is in the table of the first i. -/
theorem tab_perm (L : List RG) : ∀ i t, i ≤ L.length → tabN L i = some t → t.Perm (L.take i)
  | 0, t, _, h => by
    injection h with h
    subst h
    exact List.Perm.refl _
  | i + 1, t, hi, h => by
    rw [tabN] at h
    cases h1 : tabN L i with
    | none => rw [h1] at h; cases h
    | some u =>
      rw [h1] at h
      dsimp only at h
      rw [dif_pos (show i < L.length by omega)] at h
      by_cases h3 : errA u L[i] = 0
      · rw [if_pos h3] at h
        injection h with h
        subst h
        have ih := tab_perm L i u (by omega) h1
        rw [List.take_succ_eq_append_getElem (by omega)]
        exact (insL_perm _ _ _).trans ((List.Perm.cons _ ih).trans (List.perm_append_singleton _ _).symm)
      · rw [if_neg h3] at h; cases h
theorem apartB_symm (a b : RG) : apartB a b = apartB b a := by unfold apartB; rw [Bool.or_comm]
/-- Ranges that may be in one table. -/
def Fits (L : List RG) : Prop := (∀ x ∈ L, chkN x = 0) ∧ L.Pairwise (fun a b => apartB a b = true)
theorem good_fits {t : List RG} (h : Good t) : Fits t := ⟨h.1, h.2.imp (fun {a b} h1 => by unfold apartB; rw [decide_eq_true h1, Bool.true_or])⟩
theorem Fits.perm {L M : List RG} (h : Fits L) (hp : L.Perm M) : Fits M :=
  ⟨fun x hx => h.1 x (hp.mem_iff.2 hx), h.2.perm hp (fun {a b} h1 => by rw [apartB_symm]; exact h1)⟩
/-- Such ranges make a table, in whatever order they come. -/
theorem fits_tab {L : List RG} (h : Fits L) (h64 : L.length ≤ 64) : ∀ i, i ≤ L.length → ∃ t, tabN L i = some t
  | 0, _ => ⟨[], rfl⟩
  | i + 1, hi => by
    obtain ⟨u, hu⟩ := fits_tab h h64 i (by omega)
    have hp := tab_perm L i u (by omega) hu
    have hlen : u.length = i := by rw [hp.length_eq, List.length_take]; omega
    have he : errA u L[i] = 0 := by
      unfold errA
      rw [if_neg (by rw [h.1 _ (List.getElem_mem _)]; simp), if_neg (by omega), if_neg]
      rw [Bool.not_eq_false, List.all_eq_true]
      intro x hx
      have hx2 := hp.mem_iff.1 hx
      obtain ⟨j, hj, rfl⟩ := List.getElem_of_mem hx2
      rw [List.length_take] at hj
      rw [List.getElem_take, apartB_symm]
      exact List.pairwise_iff_getElem.1 h.2 j i (by omega) (by omega) (by omega)
    exact ⟨insL u (plc u L[i]) L[i], by rw [tabN, hu]; dsimp only; rw [dif_pos (show i < L.length by omega), if_pos he]⟩
/-- Two good tables of the same ranges are one. -/
theorem good_eq {t u : List RG} (ht : Good t) (hu : Good u) (hp : t.Perm u) : t = u := by
  refine hp.eq_of_pairwise ?_ ht.2 hu.2
  intro a b ha hb h1 h2
  exfalso
  have h3 := cmpC_le_lt (chk_le a (ht.1 a ha)) h1
  have h4 := cmpC_le_lt (chk_le b (hu.1 b hb)) h2
  have h5 := cmpC_lt_le h3 (by omega : cmpC b.lo.data.toList a.lo.data.toList ≤ 0)
  rw [(cmpC_eq _ _).2 rfl] at h5
  omega
theorem has_iff {r : RG} (hr : chkN r = 0) {x : RG} (hx : chkN x = 0) {c : ByteArray} (hc : c = x.lo ∨ c = x.hi) : hasB r c = true ↔ cmpC r.lo.data.toList c.data.toList ≤ 0 ∧ cmpC c.data.toList r.hi.data.toList ≤ 0 := by
  have hd : isD c = true := by
    obtain ⟨h1, h2, _⟩ := chk_zero x hx
    rcases hc with rfl | rfl
    · exact h1
    · exact h2
  obtain ⟨r1, r2, r3⟩ := chk_zero r hr
  unfold hasB
  rw [hd]
  simp only [Bool.true_and, Bool.and_eq_true, decide_eq_true_eq]
  constructor
  · rintro ⟨⟨_, h1⟩, h2⟩; exact ⟨h1, h2⟩
  · rintro ⟨h1, h2⟩
    refine ⟨⟨?_, h1⟩, h2⟩
    have l1 : r.lo.data.toList.length = r.lo.size := by simp
    have l2 : r.hi.data.toList.length = r.hi.size := by simp
    have l3 : c.data.toList.length = c.size := by simp
    unfold cmpC at h1 h2
    by_cases k1 : c.size < r.lo.size
    · rw [if_neg (by omega), if_pos (by omega)] at h1
      exact absurd h1 (by decide)
    · by_cases k2 : r.hi.size < c.size
      · rw [if_neg (by omega), if_pos (by omega)] at h2
        exact absurd h2 (by decide)
      · omega
/-- Of two ranges in one table but one has an end. -/
theorem has_one {t : List RG} (h : Good t) {x r : RG} (hx : x ∈ t) (hr : r ∈ t) {c : ByteArray} (hc : c = r.lo ∨ c = r.hi) (hh : hasB x c = true) : x = r := by
  have hcx := h.1 x hx
  have hcr := h.1 r hr
  have h1 := (has_iff hcx hcr hc).1 hh
  have h2 : cmpC r.lo.data.toList c.data.toList ≤ 0 ∧ cmpC c.data.toList r.hi.data.toList ≤ 0 := by
    have := chk_le r hcr
    rcases hc with rfl | rfl
    · exact ⟨by rw [(cmpC_eq _ _).2 rfl]; omega, this⟩
    · exact ⟨this, by rw [(cmpC_eq _ _).2 rfl]; omega⟩
  obtain ⟨i, hi, rfl⟩ := List.getElem_of_mem hx
  obtain ⟨j, hj, rfl⟩ := List.getElem_of_mem hr
  rcases Nat.lt_trichotomy i j with hij | rfl | hij
  · have h3 := List.pairwise_iff_getElem.1 h.2 i j hi hj hij
    have h4 := cmpC_lt_le (cmpC_le_lt h1.2 h3) h2.1
    rw [(cmpC_eq _ _).2 rfl] at h4
    omega
  · rfl
  · have h3 := List.pairwise_iff_getElem.1 h.2 j i hj hi hij
    have h4 := cmpC_lt_le (cmpC_le_lt h2.2 h3) h1.1
    rw [(cmpC_eq _ _).2 rfl] at h4
    omega
theorem has_own {r : RG} (hr : chkN r = 0) : hasB r r.lo = true ∧ hasB r r.hi = true := by
  have h := chk_le r hr
  have e1 : cmpC r.lo.data.toList r.lo.data.toList = 0 := (cmpC_eq _ _).2 rfl
  have e2 : cmpC r.hi.data.toList r.hi.data.toList = 0 := (cmpC_eq _ _).2 rfl
  exact ⟨(has_iff hr hr (Or.inl rfl)).2 ⟨by omega, h⟩, (has_iff hr hr (Or.inr rfl)).2 ⟨h, by omega⟩⟩
theorem find_own {t : List RG} (h : Good t) {r : RG} (hr : r ∈ t) {c : ByteArray} (hc : c = r.lo ∨ c = r.hi) : findL t c = some r := by
  unfold findL
  have hh : hasB r c = true := by
    rcases hc with rfl | rfl
    · exact (has_own (h.1 r hr)).1
    · exact (has_own (h.1 r hr)).2
  cases hf : t.find? (fun x => hasB x c) with
  | none =>
    have := List.find?_eq_none.1 hf r hr
    exact absurd hh this
  | some x =>
    have h1 := List.find?_some hf
    have h2 := List.mem_of_find?_eq_some hf
    rw [has_one h h2 hr hc h1]
/-- Where a range of the table begins, it stands; without it none has its ends. -/
theorem drop_own {t : List RG} (h : Good t) {r : RG} (hr : r ∈ t) : (∃ hp : plc t r < t.length, t[plc t r] = r ∧ ck r.lo t[plc t r] = 0) ∧ findL (delL t (plc t r)) r.hi = none := by
  have hst := good_stands h r
  obtain ⟨i, hi, rfl⟩ := List.getElem_of_mem hr
  have e0 : ck t[i].lo t[i] = 0 := (cmpC_eq _ _).2 rfl
  have h1 : ¬ i < plc t t[i] := fun h1 => by have := (hst.2 i hi).1 h1; omega
  have h2 : ¬ plc t t[i] < i := fun h2 => by
    have h3 : ¬ ck t[i].lo t[plc t t[i]] < 0 := fun h3 => by have := (hst.2 _ (by omega)).2 h3; omega
    have h4 := List.pairwise_iff_getElem.1 h.2 (plc t t[i]) i (by omega) hi h2
    have h5 := cmpC_le_lt (chk_le _ (h.1 t[plc t t[i]] (List.getElem_mem _))) h4
    exact h3 h5
  have hp : plc t t[i] = i := by omega
  rw [hp]
  refine ⟨⟨hi, rfl, e0⟩, ?_⟩
  unfold findL
  rw [List.find?_eq_none]
  intro x hx hh
  unfold delL at hx
  have hxt : x ∈ t := by
    rcases List.mem_append.1 hx with hx | hx
    · exact List.mem_of_mem_take hx
    · exact List.mem_of_mem_drop hx
  have hxe := has_one h hxt (List.getElem_mem hi) (Or.inr rfl) hh
  have hpw : ∀ j (hj : j < t.length), t[j] = t[i] → j = i := fun j hj he => by
    rcases Nat.lt_trichotomy j i with hji | hji | hji
    · have h4 := List.pairwise_iff_getElem.1 h.2 j i hj hi hji
      rw [he] at h4
      have h5 := chk_zero2 _ (h.1 t[i] (List.getElem_mem _))
      exact absurd h4 h5
    · exact hji
    · have h4 := List.pairwise_iff_getElem.1 h.2 i j hi hj hji
      rw [he] at h4
      have h5 := chk_zero2 _ (h.1 t[i] (List.getElem_mem _))
      exact absurd h4 h5
  rcases List.mem_append.1 hx with hx | hx
  · obtain ⟨j, hj, hje⟩ := List.getElem_of_mem hx
    rw [List.length_take] at hj
    rw [List.getElem_take] at hje
    have := hpw j (by omega) (hje.trans hxe)
    omega
  · obtain ⟨j, hj, hje⟩ := List.getElem_of_mem hx
    rw [List.length_drop] at hj
    rw [List.getElem_drop] at hje
    have := hpw (i + 1 + j) (by omega) (hje.trans hxe)
    omega
end Go.Proofs.YtldjnegoefdadaaGreatDoor

namespace Go.Proofs.YtldjnegoefdadaaGreatDoor
open Go.RowKit
set_option linter.unusedVariables false
set_option linter.unusedSimpArgs false

/-- Which of two ranges the document sets ahead. -/
def befB (a b : RG) : Bool := if a.lo.size ≠ b.lo.size then decide (a.lo.size < b.lo.size) else decide (cmpC (trimZ a.lo.data.toList) (trimZ b.lo.data.toList) < 0)
def aprB (a b : RG) : Bool := decide (a.lo.size ≠ b.lo.size) || decide (cmpC (trimZ a.hi.data.toList) (trimZ b.lo.data.toList) < 0) || decide (cmpC (trimZ b.hi.data.toList) (trimZ a.lo.data.toList) < 0)

theorem isDg_all (s : ByteArray) (h : isD s = true) : ∀ c ∈ s.data.toList, isDig c = true := by
  exact ((isD_iff s).1 h).2
theorem cmpC_size (a b : ByteArray) (h : a.size ≠ b.size) : (cmpC a.data.toList b.data.toList < 0 ↔ a.size < b.size) := by
  have l1 : a.data.toList.length = a.size := by simp
  have l2 : b.data.toList.length = b.size := by simp
  unfold cmpC
  rw [l1, l2]
  by_cases h1 : a.size < b.size
  · rw [if_pos h1]; exact ⟨fun _ => h1, fun _ => by decide⟩
  · rw [if_neg h1, if_pos (by omega)]
    exact ⟨fun h => absurd h (by decide), fun h => absurd h h1⟩
theorem befB_eq (a b : RG) (ha : chkN a = 0) (hb : chkN b = 0) : befB a b = decide (cmpC a.lo.data.toList b.lo.data.toList < 0) := by
  obtain ⟨a1, a2, a3⟩ := chk_zero a ha
  obtain ⟨b1, b2, b3⟩ := chk_zero b hb
  unfold befB
  by_cases h : a.lo.size ≠ b.lo.size
  · rw [if_pos h, decide_eq_decide]
    exact (cmpC_size _ _ h).symm
  · rw [if_neg h, cmpC_trim _ _ (by simp only [Array.length_toList, ByteArray.size_data]; omega) (isDg_all _ a1) (isDg_all _ b1)]
theorem aprB_eq (a b : RG) (ha : chkN a = 0) (hb : chkN b = 0) : aprB a b = apartB a b := by
  obtain ⟨a1, a2, a3⟩ := chk_zero a ha
  obtain ⟨b1, b2, b3⟩ := chk_zero b hb
  unfold aprB apartB
  by_cases h : a.lo.size ≠ b.lo.size
  · rw [decide_eq_true h, Bool.true_or, Bool.true_or]
    rcases Nat.lt_or_gt_of_ne h with h1 | h1
    · rw [decide_eq_true ((cmpC_size a.hi b.lo (by omega)).2 (by omega)), Bool.true_or]
    · rw [decide_eq_true ((cmpC_size b.hi a.lo (by omega)).2 (by omega)), Bool.or_true]
  · rw [decide_eq_false h, Bool.false_or, cmpC_trim _ _ (by simp only [Array.length_toList, ByteArray.size_data]; omega) (isDg_all _ a2) (isDg_all _ b1), cmpC_trim _ _ (by simp only [Array.length_toList, ByteArray.size_data]; omega) (isDg_all _ b2) (isDg_all _ a1)]
/-- Of two that are apart neither begins where the other does. -/
theorem apart_ne {a b : RG} (ha : chkN a = 0) (hb : chkN b = 0) (h : apartB a b = true) : cmpC a.lo.data.toList b.lo.data.toList ≠ 0 := by
  intro e
  have h1 := (cmpC_eq _ _).1 e
  have ha2 := chk_le a ha
  have hb2 := chk_le b hb
  unfold apartB at h
  simp only [Bool.or_eq_true, decide_eq_true_eq] at h
  rcases h with h | h
  · have := cmpC_le_lt ha2 h
    omega
  · have := cmpC_le_lt hb2 h
    rw [cmpC_neg] at this
    omega
/-- The place at which a range is put: the first that it stands ahead of. -/
theorem bef_place {t : List RG} (hg : Good t) {r : RG} (hr : chkN r = 0) {i : Nat} (hi : i < t.length) (ha : apartB r t[i] = true) : befB r t[i] = decide (plc t r ≤ i) := by
  rw [befB_eq r _ hr (hg.1 _ (List.getElem_mem _)), decide_eq_decide]
  have h1 := (good_stands hg r).2 i hi
  have h2 := apart_ne hr (hg.1 t[i] (List.getElem_mem _)) ha
  have h3 := cmpC_neg r.lo.data.toList t[i].lo.data.toList
  unfold ck at h1
  constructor
  · intro h; omega
  · intro h; omega
/-- What stands in the row behind j of them. -/
def putN (t : List RG) (r : RG) (j : Nat) : List RG := (insL t (plc t r) r).take (if plc t r < j then j + 1 else j)
theorem plc_le (t : List RG) (r : RG) : plc t r ≤ t.length := by
  unfold plc
  exact (List.takeWhile_sublist _).length_le
theorem insL_at (t : List RG) (p : Nat) (r : RG) (hp : p ≤ t.length) (i : Nat) : (insL t p r)[i]? = if i < p then t[i]? else if i = p then some r else t[i - 1]? := by
  unfold insL
  have hl : (t.take p).length = p := by rw [List.length_take]; omega
  by_cases h1 : i < p
  · rw [if_pos h1, List.getElem?_append_left (by omega), List.getElem?_take_of_lt h1]
  · rw [if_neg h1, List.getElem?_append_right (by omega), hl]
    by_cases h2 : i = p
    · rw [if_pos h2, h2, Nat.sub_self]; rfl
    · rw [if_neg h2, show i - p = (i - p - 1) + 1 by omega, List.getElem?_cons_succ, List.getElem?_drop]
      congr 1
      omega
theorem putN_le (t : List RG) (r : RG) (j : Nat) : (putN t r j).length ≤ j + 1 := by
  unfold putN
  rw [List.length_take]
  split <;> omega
theorem putN_zero (t : List RG) (r : RG) : putN t r 0 = [] := by unfold putN; rw [if_neg (by omega)]; rfl
theorem putN_low (t : List RG) (r : RG) {j : Nat} (hj : j < t.length) (h : ¬ plc t r ≤ j) : putN t r (j + 1) = putN t r j ++ [t[j]] := by
  have hp := plc_le t r
  unfold putN
  rw [if_neg (by omega), if_neg (by omega)]
  have hl : j < (insL t (plc t r) r).length := by rw [insL_len _ _ _ hp]; omega
  rw [List.take_succ_eq_append_getElem hl]
  congr 2
  have := insL_at t (plc t r) r hp j
  rw [if_pos (by omega), List.getElem?_eq_getElem hl, List.getElem?_eq_getElem hj] at this
  injection this
theorem putN_high (t : List RG) (r : RG) {j : Nat} (hj : j < t.length) (h : plc t r < j) : putN t r (j + 1) = putN t r j ++ [t[j]] := by
  have hp := plc_le t r
  unfold putN
  rw [if_pos (by omega), if_pos (by omega)]
  have hl : j + 1 < (insL t (plc t r) r).length := by rw [insL_len _ _ _ hp]; omega
  rw [List.take_succ_eq_append_getElem hl]
  congr 2
  have := insL_at t (plc t r) r hp (j + 1)
  rw [if_neg (by omega), if_neg (by omega), List.getElem?_eq_getElem hl, Nat.add_sub_cancel, List.getElem?_eq_getElem hj] at this
  injection this
theorem putN_mid1 (t : List RG) (r : RG) {j : Nat} (h : plc t r = j) : (insL t (plc t r) r).take (j + 1) = putN t r j ++ [r] := by
  have hp := plc_le t r
  unfold putN
  rw [if_neg (by omega)]
  have hl : j < (insL t (plc t r) r).length := by rw [insL_len _ _ _ hp]; omega
  rw [List.take_succ_eq_append_getElem hl]
  congr 2
  have := insL_at t (plc t r) r hp j
  rw [if_neg (by omega), if_pos h.symm, List.getElem?_eq_getElem hl] at this
  injection this
theorem putN_mid (t : List RG) (r : RG) {j : Nat} (hj : j < t.length) (h : plc t r = j) : putN t r (j + 1) = putN t r j ++ [r] ++ [t[j]] := by
  have hp := plc_le t r
  rw [← putN_mid1 t r h]
  unfold putN
  rw [if_pos (by omega)]
  have hl : j + 1 < (insL t (plc t r) r).length := by rw [insL_len _ _ _ hp]; omega
  rw [List.take_succ_eq_append_getElem hl]
  congr 2
  have := insL_at t (plc t r) r hp (j + 1)
  rw [if_neg (by omega), if_neg (by omega), List.getElem?_eq_getElem hl, Nat.add_sub_cancel, List.getElem?_eq_getElem hj] at this
  injection this
theorem putN_end (t : List RG) (r : RG) (h : plc t r < t.length) : putN t r t.length = insL t (plc t r) r := by
  unfold putN
  rw [if_pos h, List.take_of_length_le (by rw [insL_len _ _ _ (plc_le t r)]; omega)]
theorem putN_last (t : List RG) (r : RG) (h : ¬ plc t r < t.length) : putN t r t.length ++ [r] = insL t (plc t r) r := by
  have hp := plc_le t r
  rw [← putN_mid1 t r (by omega), List.take_of_length_le (by rw [insL_len _ _ _ hp]; omega)]

/-- The ranges that do not begin so. -/
def othN (t : List RG) (k : ByteArray) : List RG := t.filter fun x => decide (x.lo ≠ k)
theorem oth_succ (t : List RG) (k : ByteArray) {j : Nat} (hj : j < t.length) : othN (t.take (j + 1)) k = if t[j].lo = k then othN (t.take j) k else othN (t.take j) k ++ [t[j]] := by
  unfold othN
  rw [List.take_succ_eq_append_getElem hj, List.filter_append]
  by_cases h : t[j].lo = k
  · rw [if_pos h]
    simp [h]
  · rw [if_neg h]
    simp [h]
theorem plcK_stands {t : List RG} (hg : Good t) (k : ByteArray) : Stands t k (t.takeWhile fun x => decide (ck k x < 0)).length := good_stands hg ⟨k, k, k, k, k, 0⟩
theorem oth_drop {t : List RG} (hg : Good t) (k : ByteArray) (p : Nat) (hp : Stands t k p) :
    (∃ x ∈ t, x.lo = k) ↔ ∃ h : p < t.length, ck k t[p] = 0 := by
  constructor
  · rintro ⟨x, hx, rfl⟩
    obtain ⟨i, hi, rfl⟩ := List.getElem_of_mem hx
    have hd := drop_own hg (List.getElem_mem hi)
    have hpe : plc t t[i] = p := by
      have h1 := good_stands hg t[i]
      rcases Nat.lt_trichotomy (plc t t[i]) p with h | h | h
      · have := (hp.2 (plc t t[i]) (by have := hp.1; omega)).1 h
        have := (h1.2 (plc t t[i]) (by have := hp.1; omega)).2 this
        omega
      · exact h
      · have := (h1.2 p (by have := h1.1; omega)).1 h
        have := (hp.2 p (by have := h1.1; omega)).2 this
        omega
    obtain ⟨⟨h1, h2, h3⟩, _⟩ := hd
    rw [← hpe]
    exact ⟨h1, h3⟩
  · rintro ⟨h, h0⟩
    refine ⟨t[p], List.getElem_mem _, ?_⟩
    have := (cmpC_eq _ _).1 h0
    exact ByteArray.ext (Array.toList_inj.1 this)
theorem oth_del {t : List RG} (hg : Good t) (k : ByteArray) (p : Nat) (h : p < t.length) (h0 : ck k t[p] = 0) : othN t k = delL t p := by
  have hk : t[p].lo = k := by
    have := (cmpC_eq _ _).1 h0
    exact ByteArray.ext (Array.toList_inj.1 this)
  have hone : ∀ j (hj : j < t.length), t[j].lo = k → j = p := by
    intro j hj he
    have hlo := hg.1 t[j] (List.getElem_mem _)
    have hlp := hg.1 t[p] (List.getElem_mem _)
    rcases Nat.lt_trichotomy j p with hjp | hjp | hjp
    · have h4 := List.pairwise_iff_getElem.1 hg.2 j p hj h hjp
      have h5 := cmpC_le_lt (chk_le _ hlo) h4
      rw [he, hk, (cmpC_eq _ _).2 rfl] at h5
      omega
    · exact hjp
    · have h4 := List.pairwise_iff_getElem.1 hg.2 p j h hj hjp
      have h5 := cmpC_le_lt (chk_le _ hlp) h4
      rw [he, hk, (cmpC_eq _ _).2 rfl] at h5
      omega
  unfold othN delL
  conv => lhs; rw [← List.take_append_drop p t, ← List.getElem_cons_drop h]
  rw [List.filter_append, List.filter_cons]
  have e1 : decide (t[p].lo ≠ k) = false := by simp [hk]
  rw [e1]
  congr 1
  · rw [List.filter_eq_self]
    intro x hx
    obtain ⟨j, hj, rfl⟩ := List.getElem_of_mem hx
    rw [List.length_take] at hj
    rw [List.getElem_take]
    have : t[j].lo ≠ k := fun he => by have := hone j (by omega) he; omega
    exact decide_eq_true this
  · rw [if_neg (by decide), List.filter_eq_self]
    intro x hx
    obtain ⟨j, hj, rfl⟩ := List.getElem_of_mem hx
    rw [List.length_drop] at hj
    rw [List.getElem_drop]
    have : t[p + 1 + j].lo ≠ k := fun he => by have := hone (p + 1 + j) (by omega) he; omega
    exact decide_eq_true this
theorem good_del {t : List RG} (hg : Good t) (p : Nat) : Good (delL t p) := by
  refine ⟨fun x hx => hg.1 x ?_, ?_⟩
  · unfold delL at hx
    rcases List.mem_append.1 hx with h | h
    · exact List.mem_of_mem_take h
    · exact List.mem_of_mem_drop h
  · unfold delL
    refine hg.2.sublist ?_
    have h := List.take_append_drop p t
    have h2 : (t.take p ++ t.drop (p + 1)).Sublist (t.take p ++ t.drop p) := by
      refine List.Sublist.append (List.Sublist.refl _) ?_
      rw [show p + 1 = p + 1 from rfl, ← List.drop_drop]
      exact List.drop_sublist _ _
    rwa [h] at h2
end Go.Proofs.YtldjnegoefdadaaGreatDoor

namespace Go.Proofs.YtldjnegoefdadaaGreatDoor
open Go.RowKit
set_option linter.unusedVariables false

set_option maxHeartbeats 1000000 in
theorem refApart_any (a b : RG) (ha : a.light) (hb : b.light) (w : World) :
    Calls Tryz.prog 44 #[.agg #[.string a.lo, .string a.hi, .string a.acs, .string a.low, .string a.high, .int .i64 a.mode], .agg #[.string b.lo, .string b.hi, .string b.acs, .string b.low, .string b.high, .int .i64 b.mode]] w fun e w' => e = .returned (.bool (aprB a b)) ∧ Below w.heap.size w w' := by
  have z0 := ha.1
  have z1 := ha.2.1
  have y0 := hb.1
  have y1 := hb.2.1
  have HC1 := Lib.hid (fun W => refCmp3_any a.hi b.lo (by omega) (by omega) W)
  have HC2 := Lib.hid (fun W => refCmp3_any b.hi a.lo (by omega) (by omega) W)
  obtain ⟨R, hR⟩ : ∃ R, aprB a b = R := ⟨_, rfl⟩
  rw [hR]
  unfold aprB at hR
  obtain ⟨x, hx⟩ : ∃ c, cmpC (trimZ a.hi.data.toList) (trimZ b.lo.data.toList) = c := ⟨_, rfl⟩
  obtain ⟨y, hy⟩ : ∃ c, cmpC (trimZ b.hi.data.toList) (trimZ a.lo.data.toList) = c := ⟨_, rfl⟩
  rw [hx] at HC1 hR
  rw [hy] at HC2 hR
  have HR := Lib.hid hR
  clear hx hy z1 y1 ha hb hR
  have B0 := (Below.refl w.heap.size w).alloc (Nat.le_refl _) (.cells [Value.string a.lo, .string a.hi, .string a.acs, .string a.low, .string a.high, .int .i64 a.mode].toArray 41)
  have HB0 := Lib.hid (B0.alloc (by simp) (.cells [Value.string b.lo, .string b.hi, .string b.acs, .string b.low, .string b.high, .int .i64 b.mode].toArray 41))
  have H1 := Lib.hid (Row.new (w.alloc (.cells [Value.string a.lo, .string a.hi, .string a.acs, .string a.low, .string a.high, .int .i64 a.mode].toArray 41)) 41 [Value.string b.lo, .string b.hi, .string b.acs, .string b.low, .string b.high, .int .i64 b.mode])
  have H0 := Lib.hid ((Row.new w 41 [Value.string a.lo, .string a.hi, .string a.acs, .string a.low, .string a.high, .int .i64 a.mode]).alloc (.cells [Value.string b.lo, .string b.hi, .string b.acs, .string b.low, .string b.high, .int .i64 b.mode].toArray 41))
  rw [World.size_alloc] at H1
  clear B0
  by_cases hs : a.lo.size = b.lo.size
  · have hsI : (((a.lo.size : Int) != (b.lo.size : Int))) = false := by rw [bne_eq_false_iff_eq]; omega
    have HR1 : Hid ((decide (x < 0) || decide (y < 0)) = R) := Lib.hid (by rw [← HR.out]; simp [hs])
    clear HR hs
    go_enter Tryz.func44, Tryz.ntmps44
    go_wp2_with fail
    generalize (w.alloc (.cells [Value.string a.lo, .string a.hi, .string a.acs, .string a.low, .string a.high, .int .i64 a.mode].toArray 41)).alloc (.cells [Value.string b.lo, .string b.hi, .string b.acs, .string b.low, .string b.high, .int .i64 b.mode].toArray 41) = w0 at H0 H1 HB0 ⊢
    have p0 := H0.out.cell 0
    have p1 := H0.out.cell 1
    have q0 := H1.out.cell 0
    have q1 := H1.out.cell 1
    simp only [List.getElem?_cons_zero, List.getElem?_cons_succ] at p0 p1 q0 q1
    refine (HC1.out _).mono ?_
    rintro e w1 ⟨rfl, h1⟩
    subst h1
    by_cases hx0 : x < 0
    · have HRR : Hid (R = true) := Lib.hid (by rw [← HR1.out, decide_eq_true hx0]; rfl)
      go_wp2
      go_ret
      exact ⟨ret_boolE HRR.out.symm, HB0.out⟩
    · have HRR : Hid (decide (y < 0) = R) := Lib.hid (by rw [← HR1.out, decide_eq_false hx0]; rfl)
      go_wp2_with fail
      refine (HC2.out _).mono ?_
      rintro e w2 ⟨rfl, h2⟩
      subst h2
      go_wp2
      go_ret
      exact ⟨ret_boolE HR1.out, HB0.out⟩
  · have hsI : (((a.lo.size : Int) != (b.lo.size : Int))) = true := by rw [bne_iff_ne]; omega
    have HRR : Hid (R = true) := Lib.hid (by rw [← HR.out]; simp [hs])
    clear HR hs
    go_enter Tryz.func44, Tryz.ntmps44
    go_wp2_with fail
    go_ret
    exact ⟨ret_boolE HRR.out.symm, HB0.out⟩

set_option maxHeartbeats 1000000 in
theorem refBefore_any (a b : RG) (ha : a.light) (hb : b.light) (w : World) :
    Calls Tryz.prog 45 #[.agg #[.string a.lo, .string a.hi, .string a.acs, .string a.low, .string a.high, .int .i64 a.mode], .agg #[.string b.lo, .string b.hi, .string b.acs, .string b.low, .string b.high, .int .i64 b.mode]] w fun e w' => e = .returned (.bool (befB a b)) ∧ Below w.heap.size w w' := by
  have z0 := ha.1
  have y0 := hb.1
  have HC1 := Lib.hid (fun W => refCmp3_any a.lo b.lo (by omega) (by omega) W)
  obtain ⟨R, hR⟩ : ∃ R, befB a b = R := ⟨_, rfl⟩
  rw [hR]
  unfold befB at hR
  obtain ⟨x, hx⟩ : ∃ c, cmpC (trimZ a.lo.data.toList) (trimZ b.lo.data.toList) = c := ⟨_, rfl⟩
  rw [hx] at HC1 hR
  have HR := Lib.hid hR
  clear hx ha hb hR
  have B0 := (Below.refl w.heap.size w).alloc (Nat.le_refl _) (.cells [Value.string a.lo, .string a.hi, .string a.acs, .string a.low, .string a.high, .int .i64 a.mode].toArray 41)
  have HB0 := Lib.hid (B0.alloc (by simp) (.cells [Value.string b.lo, .string b.hi, .string b.acs, .string b.low, .string b.high, .int .i64 b.mode].toArray 41))
  clear B0
  by_cases hs : a.lo.size = b.lo.size
  · have hsI : (((a.lo.size : Int) != (b.lo.size : Int))) = false := by rw [bne_eq_false_iff_eq]; omega
    have HR1 : Hid (decide (x < 0) = R) := Lib.hid (by rw [← HR.out]; simp [hs])
    clear HR hs
    go_enter Tryz.func45, Tryz.ntmps45
    go_wp2_with fail
    refine (HC1.out _).mono ?_
    rintro e w1 ⟨rfl, h1⟩
    subst h1
    go_wp2
    go_ret
    exact ⟨ret_boolE HR1.out, HB0.out⟩
  · have hsI : (((a.lo.size : Int) != (b.lo.size : Int))) = true := by rw [bne_iff_ne]; omega
    have HRR : Hid (decide (a.lo.size < b.lo.size) = R) := Lib.hid (by rw [← HR.out]; simp [hs])
    clear HR hs
    go_enter Tryz.func45, Tryz.ntmps45
    go_wp2_with fail
    go_ret
    exact ⟨ret_boolE HRR.out, HB0.out⟩
end Go.Proofs.YtldjnegoefdadaaGreatDoor

namespace Go.Proofs.YtldjnegoefdadaaGreatDoor
open Go.RowKit Go.Shelf
set_option linter.unusedVariables false
set_option linter.unusedSimpArgs false

theorem New_perm (L M : List RG) (t : List RG) (hL : ∀ r ∈ L, r.light) (h64 : L.length ≤ 64) (hp : L.Perm M) (ht : tabN L L.length = some t) (s : Value) (w : World) (hG : VG w) (hT : TBL w s M) :
    Calls Tryz.prog 19 #[s] w fun e w' => Below w.heap.size w w' ∧ ∃ s', e = .returned (.tuple #[.agg #[s'], .int .i64 0]) ∧ TBL w' s' t := by
  have hlen := hp.length_eq
  have hfit : Fits M := by
    have h1 := tab_perm L L.length t (Nat.le_refl _) ht
    rw [List.take_length] at h1
    exact ((good_fits (tab_good L _ t ht)).perm h1).perm hp
  refine (New_any M (fun r hr => hL r (hp.mem_iff.2 hr)) (by omega) (tab_stands M) s w hG hT).mono ?_
  rintro e w' ⟨hb, hcase⟩
  refine ⟨hb, ?_⟩
  rcases hcase with ⟨i, hi, u, hu, hne, _⟩ | ⟨u, s', hu, rfl, hTs⟩
  · exfalso
    obtain ⟨t', ht'⟩ := fits_tab hfit (by omega) (i + 1) (by omega)
    rw [tabN, hu] at ht'
    dsimp only at ht'
    rw [dif_pos hi, if_neg hne] at ht'
    cases ht'
  · have h1 := tab_perm L L.length t (Nat.le_refl _) ht
    have h2 := tab_perm M M.length u (Nat.le_refl _) hu
    rw [List.take_length] at h1 h2
    have he : u = t := good_eq (tab_good M _ u hu) (tab_good L _ t ht) (h2.trans (hp.symm.trans h1.symm))
    subst he
    exact ⟨s', rfl, hTs⟩

theorem Find_own (t : List RG) (hg : Good t) (hl : ∀ r ∈ t, r.light) (h64 : t.length ≤ 64) (r : RG) (hr : r ∈ t) (c : ByteArray) (hc : c = r.lo ∨ c = r.hi) (s : Value) (w : World) (hT : TBL w s t) :
    Calls Tryz.prog 17 #[.agg #[s], .string c] w fun e w' => e = .returned (.tuple #[.agg #[.string r.lo, .string r.hi, .string r.acs, .string r.low, .string r.high, .int .i64 r.mode], .bool true]) ∧ Below w.heap.size w w' := by
  have hrl := hl r hr
  have hk : c.size ≤ 1000 := by
    rcases hc with rfl | rfl
    · exact hrl.1
    · exact hrl.2.1
  refine (Find_any t hl h64 c hk s w hT).mono ?_
  rintro e w' ⟨hb, rfl⟩
  rw [find_own hg hr hc]
  exact ⟨rfl, hb⟩
theorem delL_in {l : List RG} {p : Nat} {x : RG} (h : x ∈ delL l p) : x ∈ l := by
  unfold delL at h
  rcases List.mem_append.1 h with h | h
  · exact List.mem_of_mem_take h
  · exact List.mem_of_mem_drop h
theorem Drop_own (t : List RG) (hg : Good t) (hl : ∀ r ∈ t, r.light) (h64 : t.length ≤ 64) (r : RG) (hr : r ∈ t) (s : Value) (w : World) (hT : TBL w s t) :
    Calls Tryz.prog 10 #[.agg #[s], .string r.lo] w fun e w' => Below w.heap.size w w' ∧ ∃ s', e = .returned (.tuple #[.agg #[s'], .int .i64 0]) ∧ TBL w' s' (delL t (plc t r)) := by
  refine (Drop_any t hl h64 r.lo (hl r hr).1 (plc t r) (good_stands hg r) s w hT).mono ?_
  rintro e w' ⟨hb, s', er, rfl, h⟩
  obtain ⟨⟨hp, _, h0⟩, _⟩ := drop_own hg hr
  rcases h with ⟨_, _, hn⟩ | ⟨rfl, _, hO⟩
  · exact absurd ⟨hp, h0⟩ hn
  · exact ⟨hb, s', rfl, hO.tbl⟩
theorem Find_gone (t : List RG) (hg : Good t) (hl : ∀ r ∈ t, r.light) (h64 : t.length ≤ 64) (r : RG) (hr : r ∈ t) (s : Value) (w : World) (hT : TBL w s (delL t (plc t r))) :
    Calls Tryz.prog 17 #[.agg #[s], .string r.hi] w fun e w' => e = .returned (.tuple #[.agg #[.string ⟨#[]⟩, .string ⟨#[]⟩, .string ⟨#[]⟩, .string ⟨#[]⟩, .string ⟨#[]⟩, .int .i64 0], .bool false]) ∧ Below w.heap.size w w' := by
  have hd := drop_own hg hr
  refine (Find_any (delL t (plc t r)) (fun x hx => hl x (delL_in hx)) (by rw [delL_len _ _ hd.1.1]; omega) r.hi (hl r hr).2.1 s w hT).mono ?_
  rintro e w' ⟨hb, rfl⟩
  rw [hd.2]
  exact ⟨rfl, hb⟩
theorem InR.cells {w : World} {g off n cap : Nat} {L : List RG} (h : InR w (.slice (some ⟨g, off, none⟩) n cap) L) : ∀ j u, (cellsL L)[j]? = some u → w.cell? ((⟨g, off, none⟩ : Addr).add j) = some u := by
  obtain ⟨a', cap', he, _, hc⟩ := h
  injection he with he1 he2 he3
  intro j u hu
  have hj : j < L.length * 6 := by
    rw [← cellsL_len]
    exact (List.getElem?_eq_some_iff.1 hu).1
  have hi : j / 6 < L.length := by omega
  obtain ⟨g', off', h1, h2, h3⟩ := hc (j / 6) hi
  rw [← he1] at h1
  injection h1 with h1
  injection h1 with h1a h1b
  subst h1a h1b
  have e : j = j / 6 * 6 + j % 6 := by omega
  rw [e, cellsL_get L (j / 6) hi (j % 6) (by omega)] at hu
  have := h3 (j % 6) u hu
  rw [Addr.add_mid, e, ← Nat.add_assoc]
  exact this
/-- A step that leaves what lies below. -/
def SZ (w W : World) : Prop := Below w.heap.size w W
theorem SZ.dr (w : World) : SZ w w.drew := (Below.refl _ _).drew
theorem SZ.next {w W W' : World} (h : SZ w W) (hb : Below W.heap.size W W') : SZ w W' := Below.trans h (hb.mono (Below.size h))
theorem SZ.al {w W : World} (h : SZ w W) (o : Obj) : SZ w (W.alloc o) := SZ.next h ((Below.refl _ _).alloc (Nat.le_refl _) o)
theorem SZ.size {w W : World} (h : SZ w W) : w.heap.size ≤ W.heap.size := Below.size h
theorem SZ.grown {w W W' : World} (h : SZ w W) (hb : Below w.heap.size W W') : SZ w W' := Below.trans h hb
theorem SZ.set {w W : World} (h : SZ w W) {g : Nat} (hg : w.heap.size ≤ g) (v : Value) : SZ w (W.setCell ⟨g, 0, none⟩ v) := Below.setCell h (p := ⟨g, 0, none⟩) hg v
theorem wp_join {ι : Type} {P : Program} {id : Nat} {ops : Array Oper} {b : Bool} {Q : Exit → Act → World → Prop} {a : Act} {w : World} (fr : Act → ι → Act) (Post : ι → World → Prop)
    (h1 : (Code.region id ops b).wp P (fun e a' w' => e = .normal ∧ ∃ g, a' = fr a g ∧ Post g w') a w) (h2 : ∀ g w', Post g w' → Q .normal (fr a g) w') : (Code.region id ops b).wp P Q a w :=
  Code.wp_mono (fun e a' w' h => by obtain ⟨rfl, g, rfl, hp⟩ := h; exact h2 g w' hp) h1
/-- What a round has in memory: the table's box, the table, the range at hand. -/
def RW (w6 : World) (tb : Nat) (st : Value) (t : List RG) (r : RG) (g : Nat) (W : World) : Prop := SZ w6 W ∧ Row W tb 27 [st] ∧ TBL W st t ∧ Row W g 30 r.cells
theorem RW.next {w6 W W' : World} {tb : Nat} {st : Value} {t : List RG} {r : RG} {g : Nat} (h : RW w6 tb st t r g W) (hb : Below W.heap.size W W') : RW w6 tb st t r g W' :=
  ⟨h.1.next hb, h.2.1.below hb h.2.1.lt, h.2.2.1.below hb, h.2.2.2.below hb h.2.2.2.lt⟩
theorem RW.al {w6 W : World} {tb : Nat} {st : Value} {t : List RG} {r : RG} {g : Nat} (h : RW w6 tb st t r g W) (o : Obj) : RW w6 tb st t r g (W.alloc o) := h.next ((Below.refl _ _).alloc (Nat.le_refl _) o)
/-- Ranges behind a row of one's own. -/
theorem append_rs {B : Nat} {W : World} {v : Value} {xs : List RG} (hO : OWN B W v xs) (hB : B ≤ W.heap.size) (A : Addr) (m c : Nat) (ys : List RG) (hm : m = ys.length) (hc : ∀ j u, (cellsL ys)[j]? = some u → W.cell? (A.add j) = some u) (hl : xs.length + ys.length ≤ 1000) :
    ∃ v' w', (Builtin.append_ #[25, 25] 25 #[v, .slice (some A) m c]).run Tryz.prog W = .ok v' w' ∧ OWN B w' v' (xs ++ ys) ∧ Below B W w' ∧ (∀ k, v.ownBlock ≠ some k → k < W.heap.size → w'.heap[k]? = W.heap[k]?) := by
  obtain ⟨i0, z0, hi, hz0, hz1, hz2, hz3⟩ := range_info
  have u36 := Tryz.underlying25
  subst hm
  obtain ⟨v', w', hr, h2, h3, _⟩ := run_append_own (P := Tryz.prog) W B 25 25 30 i0 z0 6 88 u36 hi hz0 hz1 hz2 hz3 (by decide) v xs.length (cellsL xs) hO A ys.length c (cellsL ys) (cellsL_len ys) hc (cellsL_one ys) (by unfold maxLen; omega) (by omega) hB
  refine ⟨v', w', hr, ?_, (Below.refl _ _).grown h3 hB ?_, fun k hk hl => h3.block k hl (fun e => hk e.symm)⟩
  · unfold OWN
    rw [List.length_append, cellsL_append]
    exact h2
  · intro k hk
    exact (hO.lt k hk).1
theorem append_none {B : Nat} {W : World} {v : Value} {xs : List RG} (hO : OWN B W v xs) (c : Nat) :
    (Builtin.append_ #[25, 25] 25 #[v, .slice none 0 c]).run Tryz.prog W = .ok v W := by
  obtain ⟨i0, z0, hi, hz0, hz1, hz2, hz3⟩ := range_info
  have u36 := Tryz.underlying25
  rcases hO.2 with ⟨rfl, h0⟩ | ⟨g, cap, cur, rfl, hBg, hg, hnc, hcm, hcs, htk⟩
  · simp [Builtin.append_, run_underlying u36, sizeOf, typeInfo, hi, Builtin.lenOf, Builtin.firstCells]
  · simp [Builtin.append_, run_underlying u36, sizeOf, typeInfo, hi, Builtin.lenOf, Builtin.firstCells, hnc, storeCells]
theorem OWN.ne_row {B : Nat} {w : World} {s : Value} {l : List RG} {b : Nat} {z : List Value} (h : OWN B w s l) (hr : Row w b 27 z) : s.ownBlock ≠ some b := by
  intro e
  rcases h.2 with ⟨rfl, _⟩ | ⟨g, cap, cur, rfl, hBg, hg, hnc, hcm, hcs, htk⟩
  · simp [Value.ownBlock] at e
  · simp [Value.ownBlock] at e
    subst e
    unfold Row at hr
    rw [hr] at hg
    injection hg with hg
    injection hg with hga hgb hgc
    exact absurd hgb (by decide)
/-- A table that lies elsewhere than what is written to. -/
theorem TBL.store {w : World} {s v : Value} {t : List RG} {b : Nat} {z : List Value} (h : TBL w s t) (hr : Row w b 27 z) : TBL (w.setCell ⟨b, 0, none⟩ v) s t := by
  refine ⟨h.1, ?_⟩
  rcases h.2 with h0 | ⟨g, cap', cur, h1, h2, h3, h4⟩
  · exact Or.inl h0
  · refine Or.inr ⟨g, cap', cur, h1, h2, (Below.heap_setCell _ ⟨b, 0, none⟩ _ g ?_).trans h3, h4⟩
    show g ≠ b
    intro e
    unfold Row at hr
    rw [e, hr] at h3
    injection h3 with h3
    injection h3 with h3a h3b h3c
    exact absurd h3b (by decide)
end Go.Proofs.YtldjnegoefdadaaGreatDoor

namespace Go.Proofs.YtldjnegoefdadaaGreatDoor
open Go.RowKit Go.Shelf
set_option linter.unusedVariables false
set_option linter.unusedSimpArgs false

/-- A slice of the document's ranges, in a block of its own from B on. -/
def RTB (B : Nat) (w : World) (s : Value) (l : List RG) : Prop := w.ownsRow B 41 6 s l.length (cellsL l)
section
variable {B : Nat} {w w' : World} {s : Value} {l : List RG}
theorem RTB.nil (B : Nat) (w : World) : RTB B w (.slice none 0 0) [] := World.ownsRow_nil w B _ 6
theorem RTB.form (h : RTB B w s l) : (l = [] ∧ s = .slice none 0 0) ∨ ∃ g cap cur, s = .slice (some ⟨g, 0, none⟩) l.length cap ∧ B ≤ g ∧ w.heap[g]? = some (.cells cur 41 (0, 0)) ∧ l.length ≤ cap ∧ cap ≤ maxLen ∧ cur.size = cap * 6 ∧ cur.toList.take (l.length * 6) = cellsL l := by
  rcases h.2 with ⟨h1, h2⟩ | ⟨g, cap, cur, h1, h0, h2, h3, h4, h5, h6⟩
  · exact Or.inl ⟨List.eq_nil_of_length_eq_zero h2, h1⟩
  · exact Or.inr ⟨g, cap, cur, h1, h0, h2, h3, h4, h5, h6⟩
theorem RTB.slice (h : RTB B w s l) : ∃ a cap, s = .slice a l.length cap := by
  rcases h.form with ⟨rfl, rfl⟩ | ⟨g, cap, _, rfl, _⟩
  · exact ⟨none, 0, rfl⟩
  · exact ⟨_, cap, rfl⟩
theorem RTB.below (h : RTB B w s l) (hb : Below w.heap.size w w') : RTB B w' s l := by
  refine ⟨h.1, ?_⟩
  rcases h.2 with h0 | ⟨g, cap, cur, h1, h2, h3, h4⟩
  · exact Or.inl h0
  · exact Or.inr ⟨g, cap, cur, h1, h2, (hb.block g (Array.getElem?_eq_some_iff.1 h3).1).trans h3, h4⟩
theorem RTB.weak {B' : Nat} (h : RTB B w s l) (hB : B' ≤ B) : RTB B' w s l := by
  refine ⟨h.1, ?_⟩
  rcases h.2 with h0 | ⟨g, cap, cur, h1, h2, h3, h4⟩
  · exact Or.inl h0
  · exact Or.inr ⟨g, cap, cur, h1, Nat.le_trans hB h2, h3, h4⟩
theorem RTB.cell (h : RTB B w s l) (i : Nat) (hi : i < l.length) : ∃ g cap, s = .slice (some ⟨g, 0, none⟩) l.length cap ∧ g < w.heap.size ∧ w.rangeAt g (i * 6) l[i].cells := by
  rcases h.form with ⟨rfl, rfl⟩ | ⟨g, cap, cur, rfl, _, h2, h3, _, h5, h6⟩
  · cases hi
  · refine ⟨g, cap, rfl, (Array.getElem?_eq_some_iff.1 h2).1, fun j v hj => ?_⟩
    have hj6 : j < 6 := by
      have := (List.getElem?_eq_some_iff.1 hj).1
      rwa [cells_len] at this
    rw [← cellsL_get l i hi j hj6, ← h6, List.getElem?_take] at hj
    split at hj
    · rw [cell_of_row w g (i * 6 + j) cur _ (0, 0) h2]
      simpa using hj
    · cases hj
theorem RTB.lt (h : RTB B w s l) : ∀ k, s.ownBlock = some k → B ≤ k ∧ k < w.heap.size := World.ownsRow.lt h
end
theorem rrange_info : ∃ i z, Tryz.prog.info? 41 = some i ∧ i.zero = some z ∧ i.size = 6 ∧ i.bytes = 88 ∧ z.cells.size = 6 := by
  have h : (Tryz.prog.info? 41).map (fun i => (i.zero.map (fun z => z.cells.size), i.size, i.bytes)) = some (some 6, 6, 88) := by kernel_rfl
  cases hi : Tryz.prog.info? 41 with
  | none => rw [hi] at h; cases h
  | some i =>
    rw [hi] at h
    simp only [Option.map_some, Option.some.injEq, Prod.mk.injEq] at h
    obtain ⟨h1, h2, h3⟩ := h
    cases hz : i.zero with
    | none => rw [hz] at h1; cases h1
    | some z =>
      rw [hz] at h1
      simp only [Option.map_some, Option.some.injEq] at h1
      exact ⟨i, z, rfl, hz, h2, h3, h1⟩
/-- One range behind a row of one's own: it lies in a block of its own, too. -/
theorem append_one {B : Nat} {W : World} {v : Value} {xs : List RG} (hO : RTB B W v xs) (hB : B ≤ W.heap.size) (x : RG) (g c : Nat) (hx : ∀ j u, x.cells[j]? = some u → W.cell? ⟨g, j, none⟩ = some u) (hl : xs.length ≤ 1000) :
    ∃ v' w', (Builtin.append_ #[28, 28] 28 #[v, .slice (some ⟨g, 0, none⟩) 1 c]).run Tryz.prog W = .ok v' w' ∧ RTB B w' v' (xs ++ [x]) ∧ Below B W w' ∧ (∀ k, v.ownBlock ≠ some k → k < W.heap.size → w'.heap[k]? = W.heap[k]?) := by
  obtain ⟨i0, z0, hi, hz0, hz1, hz2, hz3⟩ := rrange_info
  have u36 := Tryz.underlying28
  obtain ⟨v', w', hr, h2, h3, _⟩ := run_append_own (P := Tryz.prog) W B 28 28 41 i0 z0 6 88 u36 hi hz0 hz1 hz2 hz3 (by decide) v xs.length (cellsL xs) hO ⟨g, 0, none⟩ 1 c x.cells (by rw [cells_len]) (fun j u hj => by rw [Addr.add_mid, Nat.zero_add]; exact hx j u hj) (fun u hu => cellsL_one [x] u (by simpa [cellsL] using hu)) (by unfold maxLen; omega) (by omega) hB
  refine ⟨v', w', hr, ?_, (Below.refl _ _).grown h3 hB (fun k hk => (hO.lt k hk).1), fun k hk hl => h3.block k hl (fun e => hk e.symm)⟩
  unfold RTB
  rw [List.length_append, cellsL_append]
  have e : cellsL [x] = x.cells := by simp [cellsL]
  rw [e]
  exact h2
theorem RTB.ne_row {B : Nat} {w : World} {s : Value} {l : List RG} {b : Nat} {z : List Value} {T : TypeId} (h : RTB B w s l) (hr : Row w b T z) (hb : b < B) : s.ownBlock ≠ some b := by
  intro e
  have := (h.lt b e).1
  omega
theorem wpList_append_r {P : Program} (w : World) {ops : Array Oper} {rest : List Oper} {o : Oper} {a : Act} {Q : Exit → Act → World → Prop} (hgd : o.guard = none) (d s : Operand) (t t' : TypeId)
    (ho : o.op = .call { callee := .builtin .append, args := #[d, s], argTypes := #[t, t'] }) (v u : Value) (hd : a.eval d = v) (hs : a.eval s = u) {v' : Value} {w' : World}
    (hr : (Builtin.append_ #[t, t'] o.type #[v, u]).run P w = .ok v' w') (h : wpList P ops Q rest (a.put o.dst v') w') : wpList P ops Q (o :: rest) a w :=
  wpList_plain hgd fun _ hK => by
    unfold Oper.wp execOp
    simp only [ho, resolve, invoke, builtin, Sem.run_bind, Sem.run_pure, Result.andThen_ok, List.map_toArray, List.map_cons, List.map_nil, hd, hs, hr]
    exact hK _ _ h
end Go.Proofs.YtldjnegoefdadaaGreatDoor

namespace Go.Proofs.YtldjnegoefdadaaGreatDoor
open Go.RowKit Go.Shelf
set_option linter.unusedVariables false
set_option linter.unusedSimpArgs false

/-- How the document's Add ends. -/
def RAPost (t : List RG) (r : RG) (w : World) (e : Ending) (w' : World) : Prop :=
  Below w.heap.size w w' ∧ ∃ s', e = .returned (.tuple #[s', .int .i64 (errA t r)]) ∧ ((errA t r ≠ 0 ∧ s' = .slice none 0 0) ∨ (errA t r = 0 ∧ RTB w.heap.size w' s' (insL t (plc t r) r)))

set_option maxRecDepth 100000 in
set_option maxHeartbeats 4000000 in
theorem refAdd18_any (t : List RG) (hg : Good t) (hl : ∀ r ∈ t, r.light) (h64 : t.length ≤ 64) (r : RG) (hr : r.light) (s : Value) (w : World) (hT : RTB 0 w s t) :
    Calls Tryz.prog 15 #[s, .agg #[.string r.lo, .string r.hi, .string r.acs, .string r.low, .string r.high, .int .i64 r.mode]] w (RAPost t r w) := by
  obtain ⟨a, cap, rfl⟩ := hT.slice
  obtain ⟨b, hb⟩ : ∃ b, w.heap.size = b := ⟨_, rfl⟩
  have HT : Hid (∀ W, Below b w W → RTB 0 W (.slice a t.length cap) t) := Lib.hid fun W h => hT.below (by rw [hb]; exact h)
  have HCk := Lib.hid (fun W => refCheck18_any r hr W)
  obtain ⟨k, hk⟩ : ∃ k, chkN r = k := ⟨_, rfl⟩
  rw [hk] at HCk
  have HKE := Lib.hid hk
  have HG := Lib.hid hg
  have HB := Lib.hid hb
  have HL := Lib.hid hl
  have HR := Lib.hid hr
  have H0 : Hid (Row (w.alloc (.cells #[.string r.lo, .string r.hi, .string r.acs, .string r.low, .string r.high, .int .i64 r.mode] 41)) b 41 r.cells) := Lib.hid (by rw [← hb]; exact Row.self w _ _)
  have B0 : Hid (Below b w (w.alloc (.cells #[.string r.lo, .string r.hi, .string r.acs, .string r.low, .string r.high, .int .i64 r.mode] 41))) := Lib.hid (by rw [← hb]; exact (Below.refl _ _).alloc (Nat.le_refl _) _)
  clear hT hk hg hl hr
  go_enter Tryz.func15, Tryz.ntmps15
  go_wp2_with fail
  generalize w.alloc (.cells #[.string r.lo, .string r.hi, .string r.acs, .string r.low, .string r.high, .int .i64 r.mode] 41) = w0 at H0 B0 ⊢
  refine (HCk.out _).mono ?_
  rintro e w1 ⟨rfl, hb1⟩
  have R1 := Lib.hid (H0.out.below hb1 H0.out.lt)
  have B1 := Lib.hid (B0.out.trans (hb1.mono (Nat.le_of_lt H0.out.lt)))
  clear hb1
  by_cases hk0 : k = 0
  · subst hk0
    by_cases h6 : 64 ≤ t.length
    · have h6I : (64 : Int) ≤ (t.length : Int) := by omega
      go_wp2_with fail
      have he : errA t r = 6 := by unfold errA; rw [if_neg (by rw [HKE.out]; simp), if_pos h6]
      refine bodyPost_ret (results_tmp2 rfl _ _ _) rfl ?_
      exact ⟨by rw [HB.out]; exact B1.out, .slice none 0 0, by rw [he]; rfl, Or.inl ⟨by rw [he]; decide, rfl⟩⟩
    · have h6I : ¬ (64 : Int) ≤ (t.length : Int) := by omega
      have h6J : (t.length : Int) < 64 := by omega
      have hpl := plc_le t r
      go_wp2_with fail
      go_loopw [7, 8, 21] (fun out dn i wr => ∃ j : Nat, j ≤ t.length ∧ i = .int .i64 j ∧ dn = .bool (decide (plc t r < j)) ∧ Hid (RTB (b + 1) wr out (putN t r j) ∧ (∀ i (h : i < t.length), i < j → apartB r t[i] = true) ∧ Row wr b 41 r.cells ∧ Below b w wr)) (fun _ _ i _ => t.length - (intOf i).toNat)
      case atStart => exact ⟨0, Nat.zero_le _, rfl, by simp, Lib.hid ⟨by rw [putN_zero]; exact RTB.nil _ _, fun i h hi => absurd hi (Nat.not_lt_zero i), R1.out, B1.out⟩⟩
      case round =>
        obtain ⟨j, hj, rfl, rfl, HW⟩ := hrel
        obtain ⟨oa, on, oc, rfl⟩ : ∃ a n c, u7 = Value.slice a n c := (by obtain ⟨a, c, h⟩ := HW.out.1.slice; exact ⟨a, _, c, h⟩)
        by_cases hlt : j < t.length
        · have hltI : (j : Int) < (t.length : Int) := by omega
          obtain ⟨g, cap', he, hg, hrng⟩ := (HT.out _ HW.out.2.2.2).cell j hlt
          injection he with he1 he2 he3
          subst he1 he3
          have p0 := hrng 0 _ rfl
          have p1 := hrng 1 _ rfl
          have p2 := hrng 2 _ rfl
          have p3 := hrng 3 _ rfl
          have p4 := hrng 4 _ rfl
          have p5 := hrng 5 _ rfl
          rw [Nat.add_zero] at p0
          have HXL := Lib.hid (HL.out _ (List.getElem_mem hlt))
          have HXC := Lib.hid (HG.out.1 _ (List.getElem_mem hlt))
          have HPL := Lib.hid (fun h => putN_low t r hlt h)
          have HPH := Lib.hid (fun h => putN_high t r hlt h)
          have HPM := Lib.hid (fun h => putN_mid t r hlt h)
          have HBP := Lib.hid (fun h => bef_place HG.out HKE.out hlt h)
          have HAN : Hid (apartB r t[j] = true → ∀ i (h : i < t.length), i < j + 1 → apartB r t[i] = true) := Lib.hid fun h i hi hij => by
            by_cases hij2 : i = j
            · subst hij2; exact h
            · exact HW.out.2.1 i hi (by omega)
          have HAF : Hid (apartB r t[j] = false → errA t r = 17) := Lib.hid fun h => by
            unfold errA
            rw [if_neg (by rw [HKE.out]; simp), if_neg h6, if_pos]
            rw [List.all_eq_false]
            exact ⟨t[j], List.getElem_mem _, by rw [h]; decide⟩
          obtain ⟨x, hx⟩ : ∃ x, t[j] = x := ⟨_, rfl⟩
          rw [hx] at p0 p1 p2 p3 p4 p5 HXL HXC HPL HPH HPM HBP HAN HAF
          clear hrng hx
          have HAp := Lib.hid (fun W => refApart_any x r HXL.out HR.out W)
          have HBf := Lib.hid (fun W => refBefore_any r x HR.out HXL.out W)
          rw [aprB_eq x r HXC.out HKE.out, apartB_symm] at HAp
          obtain ⟨ap, hap⟩ : ∃ q, apartB r x = q := ⟨_, rfl⟩
          rw [hap] at HAp HAN HAF HBP
          obtain ⟨bf, hbf⟩ : ∃ q, befB r x = q := ⟨_, rfl⟩
          rw [hbf] at HBf HBP
          clear hap hbf
          have q0 := HW.out.2.2.1.cell 0
          have q1 := HW.out.2.2.1.cell 1
          have q2 := HW.out.2.2.1.cell 2
          have q3 := HW.out.2.2.1.cell 3
          have q4 := HW.out.2.2.1.cell 4
          have q5 := HW.out.2.2.1.cell 5
          have lq := HW.out.2.2.1.lt
          simp only [RG.cells, List.getElem?_cons_zero, List.getElem?_cons_succ] at q0 q1 q2 q3 q4 q5
          have X2 : Hid (Row (wr.alloc (.cells #[.string x.lo, .string x.hi, .string x.acs, .string x.low, .string x.high, .int .i64 x.mode] 41)) wr.heap.size 41 x.cells) := Lib.hid (Row.self wr _ _)
          have HW2 : Hid (RTB (b + 1) (wr.alloc (.cells #[.string x.lo, .string x.hi, .string x.acs, .string x.low, .string x.high, .int .i64 x.mode] 41)) (.slice oa on oc) (putN t r j) ∧ Row (wr.alloc (.cells #[.string x.lo, .string x.hi, .string x.acs, .string x.low, .string x.high, .int .i64 x.mode] 41)) b 41 r.cells ∧ Below b w (wr.alloc (.cells #[.string x.lo, .string x.hi, .string x.acs, .string x.low, .string x.high, .int .i64 x.mode] 41))) := Lib.hid ⟨HW.out.1.below ((Below.refl _ _).alloc (Nat.le_refl _) _), HW.out.2.2.1.alloc _, HW.out.2.2.2.alloc (Nat.le_of_lt lq) _⟩
          obtain ⟨gx, hgx⟩ : ∃ gx, wr.heap.size = gx := ⟨_, rfl⟩
          have hbx : b < gx := by omega
          have HGX := Lib.hid hgx
          rw [hgx] at X2
          have HNE : Hid ((Value.slice oa on oc).ownBlock ≠ some gx) := Lib.hid (fun h => by have := (HW.out.1.lt gx h).2; omega)
          clear hgx
          go_wp2_with fail
          rw [HGX.out]
          generalize wr.alloc (.cells #[.string x.lo, .string x.hi, .string x.acs, .string x.low, .string x.high, .int .i64 x.mode] 41) = w2 at X2 HW2 ⊢
          refine (HAp.out _).mono ?_
          rintro e w3 ⟨rfl, hb3⟩
          have X3 := Lib.hid (X2.out.below hb3 X2.out.lt)
          have HW3 : Hid (RTB (b + 1) w3 (.slice oa on oc) (putN t r j) ∧ Row w3 b 41 r.cells ∧ Below b w w3) := Lib.hid ⟨HW2.out.1.below hb3, HW2.out.2.1.below hb3 HW2.out.2.1.lt, HW2.out.2.2.trans (hb3.mono (Nat.le_of_lt HW2.out.2.1.lt))⟩
          clear hb3 p0 p1 p2 p3 p4 p5 q0 q1 q2 q3 q4 q5 lq
          cases ap with
          | false =>
            have he := HAF.out rfl
            go_wp2_with fail
            try rw [Exit.noGoto_ret]
            refine bodyPost_ret (results_tmp2 rfl _ _ _) rfl ?_
            exact ⟨by rw [HB.out]; exact HW3.out.2.2, .slice none 0 0, by rw [he]; rfl, Or.inl ⟨by rw [he]; decide, rfl⟩⟩
          | true =>
            have q0 := HW3.out.2.1.cell 0
            have q1 := HW3.out.2.1.cell 1
            have q2 := HW3.out.2.1.cell 2
            have q3 := HW3.out.2.1.cell 3
            have q4 := HW3.out.2.1.cell 4
            have q5 := HW3.out.2.1.cell 5
            have p0 := X3.out.cell 0
            have p1 := X3.out.cell 1
            have p2 := X3.out.cell 2
            have p3 := X3.out.cell 3
            have p4 := X3.out.cell 4
            have p5 := X3.out.cell 5
            simp only [RG.cells, List.getElem?_cons_zero, List.getElem?_cons_succ] at q0 q1 q2 q3 q4 q5 p0 p1 p2 p3 p4 p5
            have lq := HW3.out.2.1.lt
            have lp := X3.out.lt
            by_cases hpj : plc t r < j
            · have hdn : decide (plc t r < j) = true := decide_eq_true hpj
              have hdn2 : decide (plc t r < j + 1) = true := decide_eq_true (by omega)
              obtain ⟨v4, W4, hr4, hO4, hb4, hk4⟩ := append_one (W := w3.alloc (.cells #[.string x.lo, .string x.hi, .string x.acs, .string x.low, .string x.high, .int .i64 x.mode] 41)) (HW3.out.1.below ((Below.refl _ _).alloc (Nat.le_refl _) _)) (by rw [World.size_alloc]; exact Nat.le_succ_of_le HW3.out.2.1.lt) x w3.heap.size 1 (fun i u hu => ((Row.self w3 #[.string x.lo, .string x.hi, .string x.acs, .string x.low, .string x.high, .int .i64 x.mode] 41).cell i).trans hu) (by have := putN_le t r j; omega)
              have HR4 := Lib.hid hr4
              have HS4 := Lib.hid (And.intro hO4 hb4)
              clear hr4 hO4 hb4 hk4
              rw [hdn]
              go_wp2_with (at_builtin; refine wpList_append_r _ rfl _ _ 28 28 rfl (.slice oa on oc) (.slice (some ⟨w3.heap.size, 0, none⟩) 1 1) rfl rfl HR4.out ?_)
              go_roundw
              case rel => exact ⟨j + 1, by omega, by go_num, by rw [hdn2], Lib.hid ⟨by rw [HPH.out hpj]; exact HS4.out.1, HAN.out trivial, (HW3.out.2.1.alloc _).below HS4.out.2 (Nat.lt_succ_self b), (HW3.out.2.2.alloc (Nat.le_of_lt HW3.out.2.1.lt) _).trans (HS4.out.2.mono (Nat.le_succ b))⟩⟩
              case measure => simp [intOf]; omega
            · have hdn : decide (plc t r < j) = false := decide_eq_false hpj
              rw [hdn]
              go_wp2_with fail
              refine (HBf.out _).mono ?_
              rintro e w4 ⟨rfl, hb4⟩
              have X4 := Lib.hid (X3.out.below hb4 X3.out.lt)
              have HW4 : Hid (RTB (b + 1) w4 (.slice oa on oc) (putN t r j) ∧ Row w4 b 41 r.cells ∧ Below b w w4) := Lib.hid ⟨HW3.out.1.below hb4, HW3.out.2.1.below hb4 HW3.out.2.1.lt, HW3.out.2.2.trans (hb4.mono (Nat.le_of_lt HW3.out.2.1.lt))⟩
              have hbe := HBP.out trivial
              clear hb4 p0 p1 p2 p3 p4 p5 q0 q1 q2 q3 q4 q5 lq lp
              have q0 := HW4.out.2.1.cell 0
              have q1 := HW4.out.2.1.cell 1
              have q2 := HW4.out.2.1.cell 2
              have q3 := HW4.out.2.1.cell 3
              have q4 := HW4.out.2.1.cell 4
              have q5 := HW4.out.2.1.cell 5
              have p0 := X4.out.cell 0
              have p1 := X4.out.cell 1
              have p2 := X4.out.cell 2
              have p3 := X4.out.cell 3
              have p4 := X4.out.cell 4
              have p5 := X4.out.cell 5
              simp only [RG.cells, List.getElem?_cons_zero, List.getElem?_cons_succ] at q0 q1 q2 q3 q4 q5 p0 p1 p2 p3 p4 p5
              have lq := HW4.out.2.1.lt
              have lp := X4.out.lt
              by_cases hpe : plc t r = j
              · rw [decide_eq_true (show plc t r ≤ j by omega)] at hbe
                subst hbe
                have hdn2 : decide (plc t r < j + 1) = true := decide_eq_true (by omega)
                obtain ⟨v5, W5, hr5, hO5, hb5, hk5⟩ := append_one (W := w4.alloc (.cells #[.string r.lo, .string r.hi, .string r.acs, .string r.low, .string r.high, .int .i64 r.mode] 41)) (HW4.out.1.below ((Below.refl _ _).alloc (Nat.le_refl _) _)) (by rw [World.size_alloc]; exact Nat.le_succ_of_le HW4.out.2.1.lt) r w4.heap.size 1 (fun i u hu => ((Row.self w4 #[.string r.lo, .string r.hi, .string r.acs, .string r.low, .string r.high, .int .i64 r.mode] 41).cell i).trans hu) (by have := putN_le t r j; omega)
                have X5 : Row W5 gx 41 x.cells := (hk5 gx HNE.out (by rw [World.size_alloc]; exact Nat.lt_succ_of_lt X4.out.lt)).trans (X4.out.alloc _)
                have R5 : Row W5 b 41 r.cells := (HW4.out.2.1.alloc _).below hb5 (Nat.lt_succ_self b)
                have B5 : Below b w W5 := (HW4.out.2.2.alloc (Nat.le_of_lt HW4.out.2.1.lt) _).trans (hb5.mono (Nat.le_succ b))
                obtain ⟨v6, W6, hr6, hO6, hb6, hk6⟩ := append_one (W := W5.alloc (.cells #[.string x.lo, .string x.hi, .string x.acs, .string x.low, .string x.high, .int .i64 x.mode] 41)) (hO5.below ((Below.refl _ _).alloc (Nat.le_refl _) _)) (by rw [World.size_alloc]; exact Nat.le_succ_of_le R5.lt) x W5.heap.size 1 (fun i u hu => ((Row.self W5 #[.string x.lo, .string x.hi, .string x.acs, .string x.low, .string x.high, .int .i64 x.mode] 41).cell i).trans hu) (by have := putN_le t r j; simp; omega)
                have HR5 := Lib.hid hr5
                have HR6 := Lib.hid hr6
                have HS6 : Hid (RTB (b + 1) W6 v6 (putN t r (j + 1)) ∧ Row W6 b 41 r.cells ∧ Below b w W6) := Lib.hid ⟨by rw [HPM.out hpe]; exact hO6, (R5.alloc _).below hb6 (Nat.lt_succ_self b), (B5.alloc (Nat.le_of_lt R5.lt) _).trans (hb6.mono (Nat.le_succ b))⟩
                obtain ⟨xa, xn, xc, rfl⟩ : ∃ a n c, v5 = Value.slice a n c := (by obtain ⟨a, c, h⟩ := hO5.slice; exact ⟨a, _, c, h⟩)
                clear p0 p1 p2 p3 p4 p5
                have p0 := X5.cell 0
                have p1 := X5.cell 1
                have p2 := X5.cell 2
                have p3 := X5.cell 3
                have p4 := X5.cell 4
                have p5 := X5.cell 5
                simp only [RG.cells, List.getElem?_cons_zero, List.getElem?_cons_succ] at p0 p1 p2 p3 p4 p5
                have lx := X5.lt
                clear hr5 hr6 hO5 hO6 hb5 hb6 hk5 hk6 X5 R5 B5
                go_wp2_with (at_builtin; first | refine wpList_append_r _ rfl _ _ 28 28 rfl (.slice oa on oc) (.slice (some ⟨w4.heap.size, 0, none⟩) 1 1) rfl rfl HR5.out ?_ | refine wpList_append_r _ rfl _ _ 28 28 rfl (.slice xa xn xc) (.slice (some ⟨W5.heap.size, 0, none⟩) 1 1) rfl rfl HR6.out ?_)
                go_roundw
                case rel => exact ⟨j + 1, by omega, by go_num, by rw [hdn2], Lib.hid ⟨HS6.out.1, HAN.out trivial, HS6.out.2.1, HS6.out.2.2⟩⟩
                case measure => simp [intOf]; omega
              · rw [decide_eq_false (show ¬ plc t r ≤ j by omega)] at hbe
                subst hbe
                have hdn2 : decide (plc t r < j + 1) = false := decide_eq_false (by omega)
                obtain ⟨v5, W5, hr5, hO5, hb5, hk5⟩ := append_one (W := w4.alloc (.cells #[.string x.lo, .string x.hi, .string x.acs, .string x.low, .string x.high, .int .i64 x.mode] 41)) (HW4.out.1.below ((Below.refl _ _).alloc (Nat.le_refl _) _)) (by rw [World.size_alloc]; exact Nat.le_succ_of_le HW4.out.2.1.lt) x w4.heap.size 1 (fun i u hu => ((Row.self w4 #[.string x.lo, .string x.hi, .string x.acs, .string x.low, .string x.high, .int .i64 x.mode] 41).cell i).trans hu) (by have := putN_le t r j; omega)
                have HR5 := Lib.hid hr5
                have HS5 := Lib.hid (And.intro hO5 hb5)
                clear hr5 hO5 hb5 hk5
                go_wp2_with (at_builtin; refine wpList_append_r _ rfl _ _ 28 28 rfl (.slice oa on oc) (.slice (some ⟨w4.heap.size, 0, none⟩) 1 1) rfl rfl HR5.out ?_)
                go_roundw
                case rel => exact ⟨j + 1, by omega, by go_num, by rw [hdn2], Lib.hid ⟨by rw [HPL.out (by omega)]; exact HS5.out.1, HAN.out trivial, (HW4.out.2.1.alloc _).below HS5.out.2 (Nat.lt_succ_self b), (HW4.out.2.2.alloc (Nat.le_of_lt HW4.out.2.1.lt) _).trans (HS5.out.2.mono (Nat.le_succ b))⟩⟩
                case measure => simp [intOf]; omega
        · have hltI : ¬ (j : Int) < (t.length : Int) := by omega
          have hjl : j = t.length := by omega
          subst hjl
          have he : errA t r = 0 := by
            unfold errA
            rw [if_neg (by rw [HKE.out]; simp), if_neg h6, if_neg]
            rw [Bool.not_eq_false, List.all_eq_true]
            intro x hx
            obtain ⟨i, hi, rfl⟩ := List.getElem_of_mem hx
            exact HW.out.2.1 i hi hi
          have HEr := Lib.hid he
          clear he
          have q0 := HW.out.2.2.1.cell 0
          have q1 := HW.out.2.2.1.cell 1
          have q2 := HW.out.2.2.1.cell 2
          have q3 := HW.out.2.2.1.cell 3
          have q4 := HW.out.2.2.1.cell 4
          have q5 := HW.out.2.2.1.cell 5
          have lq := HW.out.2.2.1.lt
          simp only [RG.cells, List.getElem?_cons_zero, List.getElem?_cons_succ] at q0 q1 q2 q3 q4 q5
          by_cases hpj : plc t r < t.length
          · have hdn : decide (plc t r < t.length) = true := decide_eq_true hpj
            have HE := Lib.hid (putN_end t r hpj)
            rw [hdn]
            go_wp2_with fail
            refine bodyPost_ret (results_tmp2 rfl _ _ _) rfl ?_
            exact ⟨by rw [HB.out]; exact HW.out.2.2.2, .slice oa on oc, by rw [HEr.out]; rfl, Or.inr ⟨HEr.out, by rw [HB.out, ← HE.out]; exact HW.out.1.weak (Nat.le_succ b)⟩⟩
          · have hdn : decide (plc t r < t.length) = false := decide_eq_false hpj
            have HE := Lib.hid (putN_last t r hpj)
            obtain ⟨v5, W5, hr5, hO5, hb5, hk5⟩ := append_one (W := wr.alloc (.cells #[.string r.lo, .string r.hi, .string r.acs, .string r.low, .string r.high, .int .i64 r.mode] 41)) (HW.out.1.below ((Below.refl _ _).alloc (Nat.le_refl _) _)) (by rw [World.size_alloc]; exact Nat.le_succ_of_le HW.out.2.2.1.lt) r wr.heap.size 1 (fun i u hu => ((Row.self wr #[.string r.lo, .string r.hi, .string r.acs, .string r.low, .string r.high, .int .i64 r.mode] 41).cell i).trans hu) (by have := putN_le t r t.length; omega)
            have HR5 := Lib.hid hr5
            have HS5 := Lib.hid (And.intro hO5 hb5)
            clear hr5 hO5 hb5 hk5
            rw [hdn]
            go_wp2_with (at_builtin; refine wpList_append_r _ rfl _ _ 28 28 rfl (.slice oa on oc) (.slice (some ⟨wr.heap.size, 0, none⟩) 1 1) rfl rfl HR5.out ?_)
            refine bodyPost_ret (results_tmp2 rfl _ _ _) rfl ?_
            exact ⟨by rw [HB.out]; exact (HW.out.2.2.2.alloc (Nat.le_of_lt HW.out.2.2.1.lt) _).trans (HS5.out.2.mono (Nat.le_succ b)), v5, by rw [HEr.out]; rfl, Or.inr ⟨HEr.out, by rw [HB.out, ← HE.out]; exact HS5.out.1.weak (Nat.le_succ b)⟩⟩
  · have hkb : (k != 0) = true := by rw [bne_iff_ne]; exact hk0
    go_wp2_with fail
    have he : errA t r = k := by unfold errA; rw [if_pos (by rw [HKE.out]; exact hk0), HKE.out]
    refine bodyPost_ret (results_tmp2 rfl _ _ _) rfl ?_
    exact ⟨by rw [HB.out]; exact B1.out, .slice none 0 0, by rw [he]; rfl, Or.inl ⟨by rw [he]; exact hk0, rfl⟩⟩
end Go.Proofs.YtldjnegoefdadaaGreatDoor

namespace Go.Proofs.YtldjnegoefdadaaGreatDoor
open Go.RowKit
set_option linter.unusedVariables false

theorem range_fields : Tryz.prog.fieldsOf 30 = #[{ name := "From", type := 9, offset := 0, embedded := false, tag := "", pkgPath := "", byteOffset := 0 }, { name := "To", type := 9, offset := 1, embedded := false, tag := "", pkgPath := "", byteOffset := 16 },
  { name := "ACS", type := 9, offset := 2, embedded := false, tag := "", pkgPath := "", byteOffset := 32 }, { name := "Low", type := 9, offset := 3, embedded := false, tag := "", pkgPath := "", byteOffset := 48 },
  { name := "High", type := 9, offset := 4, embedded := false, tag := "", pkgPath := "", byteOffset := 64 }, { name := "Mode", type := 3, offset := 5, embedded := false, tag := "", pkgPath := "", byteOffset := 80 }] := by kernel_rfl
theorem rg_ext (r q : RG) : r = q ↔ (r.lo = q.lo ∧ r.hi = q.hi ∧ r.acs = q.acs ∧ r.low = q.low ∧ r.high = q.high ∧ r.mode = q.mode) := by
  cases r; cases q
  simp
instance : DecidableEq RG := fun r q => decidable_of_iff _ (rg_ext r q).symm
theorem tl_inj (a b : ByteArray) : a.toList = b.toList ↔ a = b := by
  constructor
  · intro h
    rw [ByteArray.toList_eq, ByteArray.toList_eq] at h
    obtain ⟨⟨x⟩⟩ := a
    obtain ⟨⟨y⟩⟩ := b
    simp only at h
    rw [h]
  · rintro rfl; rfl
theorem req_in (r q : RG) (W : World) :
    (Op.equalIn 10000 30 (.agg #[.string r.lo, .string r.hi, .string r.acs, .string r.low, .string r.high, .int .i64 r.mode]) (.agg #[.string q.lo, .string q.hi, .string q.acs, .string q.low, .string q.high, .int .i64 q.mode])).run Tryz.prog W = .ok (decide (r = q)) W := by
  have aS := Tryz.isAgg9
  have aI := Tryz.isAgg3
  have hd : decide (r = q) = decide (r.lo = q.lo ∧ r.hi = q.hi ∧ r.acs = q.acs ∧ r.low = q.low ∧ r.high = q.high ∧ r.mode = q.mode) := decide_eq_decide.2 (rg_ext r q)
  rw [run_equalIn_struct W 9999 _ _ _ (by rw [range_fields]; exact Tryz.underlying30) (by kernel_rfl), range_fields, hd]
  simp [Op.eqFields, part, aS, aI, run_equalIn_int, run_equalIn_string, Tryz.underlying9, Tryz.underlying3, tl_inj]
  by_cases h1 : r.lo = q.lo
  · by_cases h2 : r.hi = q.hi
    · by_cases h3 : r.acs = q.acs
      · by_cases h4 : r.low = q.low
        · by_cases h5 : r.high = q.high
          · by_cases h6 : r.mode = q.mode <;> simp [h1, h2, h3, h4, h5, h6]
          · simp [h1, h2, h3, h4, h5]
        · simp [h1, h2, h3, h4]
      · simp [h1, h2, h3]
    · simp [h1, h2]
  · simp [h1]
theorem req_eql (r q : RG) (W : World) :
    (binOp .eql 30 (.agg #[.string r.lo, .string r.hi, .string r.acs, .string r.low, .string r.high, .int .i64 r.mode]) (.agg #[.string q.lo, .string q.hi, .string q.acs, .string q.low, .string q.high, .int .i64 q.mode])).run Tryz.prog W = .ok (.bool (decide (r = q))) W := by
  rw [run_eql_struct, req_in]
  rfl
theorem req_neq (r q : RG) (W : World) :
    (binOp .neq 30 (.agg #[.string r.lo, .string r.hi, .string r.acs, .string r.low, .string r.high, .int .i64 r.mode]) (.agg #[.string q.lo, .string q.hi, .string q.acs, .string q.low, .string q.high, .int .i64 q.mode])).run Tryz.prog W = .ok (.bool (!decide (r = q))) W := by
  rw [run_neq_struct, req_in]
  rfl

set_option maxRecDepth 4000 in
set_option maxHeartbeats 4000000 in
theorem Equal_any (la lb : List RG) (h64 : la.length ≤ 64) (s u : Value) (w : World) (hS : TBL w s la) (hU : TBL w u lb) :
    Calls Tryz.prog 47 #[s, u] w fun e w' => e = .returned (.bool (decide (la = lb))) ∧ Below w.heap.size w w' := by
  obtain ⟨a, ca, rfl⟩ := hS.slice
  obtain ⟨c, cb, rfl⟩ := hU.slice
  have HS := Lib.hid hS
  have HU := Lib.hid hU
  obtain ⟨R, hR⟩ : ∃ R, decide (la = lb) = R := ⟨_, rfl⟩
  rw [hR]
  have HR := Lib.hid hR
  clear hS hU hR
  by_cases hlen : la.length = lb.length
  · have HL := Lib.hid hlen
    rw [← hlen]
    have hU2 := HU.out
    rw [← hlen] at hU2
    have HU := Lib.hid hU2
    clear hU2 hlen
    go_enter Tryz.func47, Tryz.ntmps47
    go_wp2
    go_loopw [13] (fun i wr => ∃ j : Nat, j ≤ la.length ∧ i = .int .i64 j ∧ Hid (la.take j = lb.take j ∧ Below w.heap.size w wr)) (fun i _ => la.length - (intOf i).toNat)
    case atStart => exact ⟨0, Nat.zero_le _, rfl, Lib.hid ⟨rfl, Below.refl _ _⟩⟩
    case round =>
      obtain ⟨j, hj, rfl, HW⟩ := hrel
      by_cases hlt : j < la.length
      · have hltI : (j : Int) < (la.length : Int) := by omega
        have hltB : j < lb.length := by rw [← HL.out]; exact hlt
        obtain ⟨g, cap', he, hg, hrng⟩ := (HS.out.below HW.out.2).cell j hlt
        injection he with he1 he2 he3
        subst he1 he3
        obtain ⟨g2, cap2, he, hg2, hrng2⟩ := (HU.out.below HW.out.2).cell j hltB
        injection he with he1 he2 he3
        subst he1 he3
        clear he2
        have p0 := hrng 0 _ rfl
        have p1 := hrng 1 _ rfl
        have p2 := hrng 2 _ rfl
        have p3 := hrng 3 _ rfl
        have p4 := hrng 4 _ rfl
        have p5 := hrng 5 _ rfl
        have q0 := hrng2 0 _ rfl
        have q1 := hrng2 1 _ rfl
        have q2 := hrng2 2 _ rfl
        have q3 := hrng2 3 _ rfl
        have q4 := hrng2 4 _ rfl
        have q5 := hrng2 5 _ rfl
        rw [Nat.add_zero] at p0 q0
        have HTa := Lib.hid (List.take_succ_eq_append_getElem hlt)
        have HTb := Lib.hid (List.take_succ_eq_append_getElem hltB)
        have HNE : Hid (la[j] ≠ lb[j]'hltB → R = false) := Lib.hid fun h => by
          rw [← HR.out]
          refine decide_eq_false fun h2 => h ?_
          subst h2
          rfl
        have hneq := fun W => req_neq la[j] (lb[j]'hltB) W
        clear hrng hrng2
        obtain ⟨x, hx⟩ : ∃ x, la[j] = x := ⟨_, rfl⟩
        obtain ⟨y, hy⟩ : ∃ y, lb[j]'hltB = y := ⟨_, rfl⟩
        rw [hx] at p0 p1 p2 p3 p4 p5 HTa HNE hneq
        rw [hy] at q0 q1 q2 q3 q4 q5 HTb HNE hneq
        clear hx hy hltB
        by_cases hxy : x = y
        · rw [decide_eq_true hxy] at hneq
          go_wp2_with fail
          go_quiet (fail)
          go_wp2_with fail
          go_roundw
          case rel => exact ⟨j + 1, by omega, by go_num, Lib.hid ⟨by rw [HTa.out, HTb.out, HW.out.1, hxy], below_dr HW.out.2 _⟩⟩
          case measure => simp [intOf]; omega
        · rw [decide_eq_false hxy] at hneq
          have HRF := Lib.hid (HNE.out hxy)
          go_wp2_with fail
          go_quiet (fail)
          go_wp2_with fail
          try rw [Exit.noGoto_ret]
          go_ret
          exact ⟨ret_boolE HRF.out.symm, below_dr HW.out.2 _⟩
      · have hltI : ¬ (j : Int) < (la.length : Int) := by omega
        have HRT : Hid (R = true) := Lib.hid (by
          rw [← HR.out]
          refine decide_eq_true ?_
          have h := HW.out.1
          rwa [List.take_of_length_le (by omega), List.take_of_length_le (by rw [← HL.out]; omega)] at h)
        go_wp2_with fail
        go_ret
        exact ⟨ret_boolE HRT.out.symm, HW.out.2⟩
  · have hq : ((la.length : Int) != (lb.length : Int)) = true := by rw [bne_iff_ne]; omega
    have HRF : Hid (R = false) := Lib.hid (by
      rw [← HR.out]
      exact decide_eq_false fun h => hlen (by rw [h]))
    go_enter Tryz.func47, Tryz.ntmps47
    go_wp2
    go_ret
    exact ⟨ret_boolE HRF.out.symm, Below.refl _ _⟩
end Go.Proofs.YtldjnegoefdadaaGreatDoor

namespace Go.Proofs.YtldjnegoefdadaaGreatDoor
open Go.RowKit Go.Shelf
set_option linter.unusedVariables false
set_option linter.unusedSimpArgs false

/-- How the document's Drop ends. -/
def RDPost (t : List RG) (k : ByteArray) (w : World) (e : Ending) (w' : World) : Prop :=
  Below w.heap.size w w' ∧ ∃ (s' : Value) (er : Int), e = .returned (.tuple #[s', .int .i64 er]) ∧ ((er = 16 ∧ (¬ ∃ x ∈ t, x.lo = k) ∧ s' = .slice none 0 0) ∨ (er = 0 ∧ (∃ x ∈ t, x.lo = k) ∧ RTB w.heap.size w' s' (othN t k)))

theorem lo_eq (a b : ByteArray) : (a.toList == b.toList) = decide (a = b) := by
  by_cases h : a = b
  · rw [decide_eq_true h, beq_iff_eq, (tl_inj a b).2 h]
  · rw [decide_eq_false h, beq_eq_false_iff_ne]; exact fun e => h ((tl_inj a b).1 e)
theorem oth_le (t : List RG) (k : ByteArray) : (othN t k).length ≤ t.length := List.length_filter_le _ _

set_option maxRecDepth 100000 in
set_option maxHeartbeats 4000000 in
theorem refDrop18_any (t : List RG) (h64 : t.length ≤ 64) (k : ByteArray) (s : Value) (w : World) (hT : RTB 0 w s t) :
    Calls Tryz.prog 11 #[s, .string k] w (RDPost t k w) := by
  obtain ⟨a, cap, rfl⟩ := hT.slice
  obtain ⟨b, hb⟩ : ∃ b, w.heap.size = b := ⟨_, rfl⟩
  have HT : Hid (∀ W, Below b w W → RTB 0 W (.slice a t.length cap) t) := Lib.hid fun W h => hT.below (by rw [hb]; exact h)
  have HB := Lib.hid hb
  clear hT
  go_enter Tryz.func11, Tryz.ntmps11
  go_wp2
  go_loopw [6, 7, 12] (fun out fd i wr => ∃ (j : Nat) (f : Bool), j ≤ t.length ∧ i = .int .i64 j ∧ fd = .bool f ∧ Hid (RTB b wr out (othN (t.take j) k) ∧ (f = true ↔ ∃ x ∈ t.take j, x.lo = k) ∧ Below b w wr)) (fun _ _ i _ => t.length - (intOf i).toNat)
  case atStart => exact ⟨0, false, Nat.zero_le _, rfl, rfl, Lib.hid ⟨by simpa [othN] using RTB.nil _ _, by simp, by rw [← hb]; exact Below.refl _ _⟩⟩
  case round =>
    obtain ⟨j, f, hj, rfl, rfl, HW⟩ := hrel
    obtain ⟨oa, on, oc, rfl⟩ : ∃ a n c, u6 = Value.slice a n c := (by obtain ⟨a, c, h⟩ := HW.out.1.slice; exact ⟨a, _, c, h⟩)
    by_cases hlt : j < t.length
    · have hltI : (j : Int) < (t.length : Int) := by omega
      obtain ⟨g, cap', he, hg, hrng⟩ := (HT.out _ HW.out.2.2).cell j hlt
      injection he with he1 he2 he3
      subst he1 he3
      have p0 := hrng 0 _ rfl
      have p1 := hrng 1 _ rfl
      have p2 := hrng 2 _ rfl
      have p3 := hrng 3 _ rfl
      have p4 := hrng 4 _ rfl
      have p5 := hrng 5 _ rfl
      rw [Nat.add_zero] at p0
      have HOS := Lib.hid (oth_succ t k hlt)
      have HTK : Hid ((∃ x ∈ t.take (j + 1), x.lo = k) ↔ ((∃ x ∈ t.take j, x.lo = k) ∨ t[j].lo = k)) := Lib.hid (by
        rw [List.take_succ_eq_append_getElem hlt]
        simp only [List.mem_append, List.mem_singleton]
        constructor
        · rintro ⟨x, h1 | h1, h2⟩
          · exact Or.inl ⟨x, h1, h2⟩
          · subst h1; exact Or.inr h2
        · rintro (⟨x, h1, h2⟩ | h2)
          · exact ⟨x, Or.inl h1, h2⟩
          · exact ⟨_, Or.inr rfl, h2⟩)
      obtain ⟨x, hx⟩ : ∃ x, t[j] = x := ⟨_, rfl⟩
      rw [hx] at p0 p1 p2 p3 p4 p5 HOS HTK
      clear hrng hx
      have hbz : b ≤ wr.heap.size := by rw [← HB.out]; exact (HW.out.2.2.mono (Nat.le_of_eq HB.out)).size
      have hq := lo_eq x.lo k
      by_cases hxk : x.lo = k
      · rw [decide_eq_true hxk] at hq
        have HXK := Lib.hid hxk
        clear hxk
        go_wp2_with fail
        go_roundw
        case rel => exact ⟨j + 1, true, by omega, by go_num, rfl, Lib.hid ⟨by rw [HOS.out, if_pos HXK.out]; exact HW.out.1.below ((Below.refl _ _).alloc (Nat.le_refl _) _), by rw [HTK.out]; exact ⟨fun _ => Or.inr HXK.out, fun _ => rfl⟩, HW.out.2.2.alloc hbz _⟩⟩
        case measure => simp [intOf]; omega
      · rw [decide_eq_false hxk] at hq
        have HXK := Lib.hid hxk
        clear hxk
        have HW2 : Hid (RTB b (wr.alloc (.cells #[.string x.lo, .string x.hi, .string x.acs, .string x.low, .string x.high, .int .i64 x.mode] 41)) (.slice oa on oc) (othN (t.take j) k) ∧ Below b w (wr.alloc (.cells #[.string x.lo, .string x.hi, .string x.acs, .string x.low, .string x.high, .int .i64 x.mode] 41))) := Lib.hid ⟨HW.out.1.below ((Below.refl _ _).alloc (Nat.le_refl _) _), HW.out.2.2.alloc hbz _⟩
        have hz2 : b ≤ ((wr.alloc (.cells #[.string x.lo, .string x.hi, .string x.acs, .string x.low, .string x.high, .int .i64 x.mode] 41)).alloc (.cells #[.string x.lo, .string x.hi, .string x.acs, .string x.low, .string x.high, .int .i64 x.mode] 41)).heap.size := by rw [World.size_alloc, World.size_alloc]; omega
        obtain ⟨v5, W5, hr5, hO5, hb5, hk5⟩ := append_one (W := (wr.alloc (.cells #[.string x.lo, .string x.hi, .string x.acs, .string x.low, .string x.high, .int .i64 x.mode] 41)).alloc (.cells #[.string x.lo, .string x.hi, .string x.acs, .string x.low, .string x.high, .int .i64 x.mode] 41)) (HW2.out.1.below ((Below.refl _ _).alloc (Nat.le_refl _) _)) hz2 x (wr.alloc (.cells #[.string x.lo, .string x.hi, .string x.acs, .string x.low, .string x.high, .int .i64 x.mode] 41)).heap.size 1 (fun i u hu => ((Row.self (wr.alloc (.cells #[.string x.lo, .string x.hi, .string x.acs, .string x.low, .string x.high, .int .i64 x.mode] 41)) #[.string x.lo, .string x.hi, .string x.acs, .string x.low, .string x.high, .int .i64 x.mode] 41).cell i).trans hu) (by have := oth_le (t.take j) k; simp at this; omega)
        rw [World.size_alloc] at hr5
        have HR5 := Lib.hid hr5
        have HS5 : Hid (RTB b W5 v5 (othN (t.take j) k ++ [x]) ∧ Below b w W5) := Lib.hid ⟨hO5, (HW2.out.2.alloc (by rw [World.size_alloc]; omega) _).trans hb5⟩
        clear hr5 hO5 hb5 hk5
        go_wp2_with (at_builtin; refine wpList_append_r _ rfl _ _ 28 28 rfl (.slice oa on oc) (.slice (some ⟨wr.heap.size + 1, 0, none⟩) 1 1) rfl rfl HR5.out ?_)
        go_roundw
        case rel => exact ⟨j + 1, f, by omega, by go_num, rfl, Lib.hid ⟨by rw [HOS.out, if_neg HXK.out]; exact HS5.out.1, by rw [HTK.out, HW.out.2.1]; exact ⟨fun h => Or.inl h, fun h => h.resolve_right HXK.out⟩, HS5.out.2⟩⟩
        case measure => simp [intOf]; omega
    · have hltI : ¬ (j : Int) < (t.length : Int) := by omega
      have hjl : j = t.length := by omega
      subst hjl
      rw [List.take_length] at HW
      cases f with
      | true =>
        go_wp2
        refine bodyPost_ret (results_tmp2 rfl _ _ _) rfl ?_
        exact ⟨by rw [HB.out]; exact HW.out.2.2, .slice oa on oc, 0, rfl, Or.inr ⟨rfl, HW.out.2.1.1 (by trivial), by rw [HB.out]; exact HW.out.1⟩⟩
      | false =>
        go_wp2
        refine bodyPost_ret (results_tmp2 rfl _ _ _) rfl ?_
        exact ⟨by rw [HB.out]; exact HW.out.2.2, .slice none 0 0, 16, rfl, Or.inl ⟨rfl, fun h => by simpa using HW.out.2.1.2 h, rfl⟩⟩

/-- How the document's Turn ends. -/
def RTPost (t : List RG) (r : RG) (w : World) (e : Ending) (w' : World) : Prop :=
  Below w.heap.size w w' ∧ ∃ (s' : Value) (er : Int), e = .returned (.tuple #[s', .int .i64 er]) ∧ ((er = 16 ∧ (¬ ∃ x ∈ t, x.lo = r.lo) ∧ s' = .slice none 0 0) ∨ ((∃ x ∈ t, x.lo = r.lo) ∧ er = errA (othN t r.lo) r ∧ ((er ≠ 0 ∧ s' = .slice none 0 0) ∨ (er = 0 ∧ RTB w.heap.size w' s' (insL (othN t r.lo) (plc (othN t r.lo) r) r)))))
theorem oth_good {t : List RG} (h : Good t) (k : ByteArray) : Good (othN t k) := ⟨fun x hx => h.1 x ((List.mem_filter.1 hx).1), h.2.sublist List.filter_sublist⟩

set_option maxRecDepth 100000 in
set_option maxHeartbeats 4000000 in
theorem refTurn18_any (t : List RG) (hg : Good t) (hl : ∀ r ∈ t, r.light) (h64 : t.length ≤ 64) (r : RG) (hr : r.light) (s : Value) (w : World) (hT : RTB 0 w s t) :
    Calls Tryz.prog 13 #[s, .agg #[.string r.lo, .string r.hi, .string r.acs, .string r.low, .string r.high, .int .i64 r.mode]] w (RTPost t r w) := by
  obtain ⟨a, cap, rfl⟩ := hT.slice
  obtain ⟨b, hb⟩ : ∃ b, w.heap.size = b := ⟨_, rfl⟩
  have HD := Lib.hid (fun W h => refDrop18_any t h64 r.lo (.slice a t.length cap) W h)
  have HA := Lib.hid (fun s W h => refAdd18_any (othN t r.lo) (oth_good hg r.lo) (fun x hx => hl x ((List.mem_filter.1 hx).1)) (Nat.le_trans (oth_le t r.lo) h64) r hr s W h)
  have HB := Lib.hid hb
  have H0 : Hid (Row (w.alloc (.cells #[.string r.lo, .string r.hi, .string r.acs, .string r.low, .string r.high, .int .i64 r.mode] 41)) b 41 r.cells) := Lib.hid (by rw [← hb]; exact Row.self w _ _)
  have B0 : Hid (Below b w (w.alloc (.cells #[.string r.lo, .string r.hi, .string r.acs, .string r.low, .string r.high, .int .i64 r.mode] 41))) := Lib.hid (by rw [← hb]; exact (Below.refl _ _).alloc (Nat.le_refl _) _)
  have HT0 : Hid (RTB 0 (w.alloc (.cells #[.string r.lo, .string r.hi, .string r.acs, .string r.low, .string r.high, .int .i64 r.mode] 41)) (.slice a t.length cap) t) := Lib.hid (hT.below ((Below.refl _ _).alloc (Nat.le_refl _) _))
  clear hT hg hl hr
  go_enter Tryz.func13, Tryz.ntmps13
  go_wp2_with fail
  generalize w.alloc (.cells #[.string r.lo, .string r.hi, .string r.acs, .string r.low, .string r.high, .int .i64 r.mode] 41) = w0 at H0 B0 HT0 ⊢
  refine (HD.out _ HT0.out).mono ?_
  rintro e w1 ⟨hb1, s', er, rfl, hcase⟩
  have R1 := Lib.hid (H0.out.below hb1 H0.out.lt)
  have B1 := Lib.hid (B0.out.trans (hb1.mono (Nat.le_of_lt H0.out.lt)))
  clear hb1
  rcases hcase with ⟨rfl, hno, rfl⟩ | ⟨rfl, hyes, hO⟩
  · have HNo := Lib.hid hno
    clear hno
    go_wp2
    refine bodyPost_ret (results_tmp2 rfl _ _ _) rfl ?_
    exact ⟨by rw [HB.out]; exact B1.out, .slice none 0 0, 16, rfl, Or.inl ⟨rfl, HNo.out, rfl⟩⟩
  · have HYes := Lib.hid hyes
    have HO := Lib.hid (hO.weak (Nat.zero_le _))
    obtain ⟨oa, on, oc, rfl⟩ : ∃ a n c, s' = Value.slice a n c := (by obtain ⟨a, c, h⟩ := hO.slice; exact ⟨a, _, c, h⟩)
    clear hyes hO
    have q0 := R1.out.cell 0
    have q1 := R1.out.cell 1
    have q2 := R1.out.cell 2
    have q3 := R1.out.cell 3
    have q4 := R1.out.cell 4
    have q5 := R1.out.cell 5
    simp only [RG.cells, List.getElem?_cons_zero, List.getElem?_cons_succ] at q0 q1 q2 q3 q4 q5
    go_wp2_with fail
    refine (HA.out _ _ HO.out).mono ?_
    rintro e w2 ⟨hb2, s2, rfl, hcase⟩
    have hb1z : b ≤ w1.heap.size := Nat.le_of_lt R1.out.lt
    have B2 := Lib.hid (B1.out.trans (hb2.mono hb1z))
    have HCase := Lib.hid hcase
    clear hb2 hcase q0 q1 q2 q3 q4 q5
    go_wp2
    refine bodyPost_ret (results_tmp2 rfl _ _ _) rfl ?_
    refine ⟨by rw [HB.out]; exact B2.out, s2, _, rfl, Or.inr ⟨HYes.out, rfl, ?_⟩⟩
    rcases HCase.out with ⟨h1, h2⟩ | ⟨h1, h2⟩
    · exact Or.inl ⟨h1, h2⟩
    · exact Or.inr ⟨h1, h2.weak (by rw [HB.out]; exact hb1z)⟩

set_option maxRecDepth 100000 in
set_option maxHeartbeats 4000000 in
theorem refFind18_any (t : List RG) (hg : Good t) (hl : ∀ r ∈ t, r.light) (h64 : t.length ≤ 64) (k : ByteArray) (hk : k.size ≤ 1000) (s : Value) (w : World) (hT : RTB 0 w s t) :
    Calls Tryz.prog 18 #[s, .string k] w fun e w' => Below w.heap.size w w' ∧ ∃ i : Int, e = .returned (.int .i64 i) ∧ ((i = -1 ∧ findL t k = none) ∨ ∃ (j : Nat) (h : j < t.length), i = j ∧ findL t k = some t[j]) := by
  obtain ⟨a, cap, rfl⟩ := hT.slice
  obtain ⟨b, hb⟩ : ∃ b, w.heap.size = b := ⟨_, rfl⟩
  have HT : Hid (∀ W, Below b w W → RTB 0 W (.slice a t.length cap) t) := Lib.hid fun W h => hT.below (by rw [hb]; exact h)
  have HB := Lib.hid hb
  have HHas : Hid (∀ x ∈ t, ∀ W, Calls Tryz.prog 46 #[.agg #[.string x.lo, .string x.hi, .string x.acs, .string x.low, .string x.high, .int .i64 x.mode], .string k] W fun e w' => e = .returned (.bool (hasB x k)) ∧ Below W.heap.size W w') := Lib.hid fun x hx W => by
    obtain ⟨h1, h2, h3⟩ := chk_zero x (hg.1 x hx)
    exact refHas18_any x (hl x hx) h1 h2 h3 k hk W
  clear hT hg hl
  go_enter Tryz.func18, Tryz.ntmps18
  go_wp2
  go_loopw [9] (fun i wr => ∃ (j : Nat), j ≤ t.length ∧ i = .int .i64 j ∧ Hid ((∀ i (h : i < t.length), i < j → hasB t[i] k = false) ∧ Below b w wr)) (fun i _ => t.length - (intOf i).toNat)
  case atStart => exact ⟨0, Nat.zero_le _, rfl, Lib.hid ⟨fun i h hi => absurd hi (Nat.not_lt_zero i), by rw [← hb]; exact Below.refl _ _⟩⟩
  case round =>
    obtain ⟨j, hj, rfl, HW⟩ := hrel
    by_cases hlt : j < t.length
    · have hltI : (j : Int) < (t.length : Int) := by omega
      obtain ⟨g, cap', he, hg, hrng⟩ := (HT.out _ HW.out.2).cell j hlt
      injection he with he1 he2 he3
      subst he1 he3
      have p0 := hrng 0 _ rfl
      have p1 := hrng 1 _ rfl
      have p2 := hrng 2 _ rfl
      have p3 := hrng 3 _ rfl
      have p4 := hrng 4 _ rfl
      have p5 := hrng 5 _ rfl
      rw [Nat.add_zero] at p0
      have HH := Lib.hid (HHas.out t[j] (List.getElem_mem hlt))
      have HF : Hid (hasB t[j] k = true → findL t k = some t[j]) := Lib.hid fun h => by
        unfold findL
        rw [List.find?_eq_some_iff_getElem]
        refine ⟨h, j, hlt, rfl, fun i hi => ?_⟩
        rw [HW.out.1 i (by omega) hi]; rfl
      have HN : Hid (hasB t[j] k = false → ∀ i (h : i < t.length), i < j + 1 → hasB t[i] k = false) := Lib.hid fun h i hi hij => by
        by_cases hij2 : i = j
        · subst hij2; exact h
        · exact HW.out.1 i hi (by omega)
      obtain ⟨x, hx⟩ : ∃ x, t[j] = x := ⟨_, rfl⟩
      have HX := Lib.hid hx
      rw [hx] at p0 p1 p2 p3 p4 p5 HH HF HN
      clear hrng hx
      have hbz : b ≤ wr.heap.size := by rw [← HB.out]; exact (HW.out.2.mono (Nat.le_of_eq HB.out)).size
      obtain ⟨hs, hhs⟩ : ∃ q, hasB x k = q := ⟨_, rfl⟩
      rw [hhs] at HH HF HN
      clear hhs
      go_wp2_with fail
      have B2 : Hid (Below b w (wr.alloc (.cells #[.string x.lo, .string x.hi, .string x.acs, .string x.low, .string x.high, .int .i64 x.mode] 41))) := Lib.hid (HW.out.2.alloc hbz _)
      have hz2 : b ≤ (wr.alloc (.cells #[.string x.lo, .string x.hi, .string x.acs, .string x.low, .string x.high, .int .i64 x.mode] 41)).heap.size := by rw [World.size_alloc]; omega
      generalize wr.alloc (.cells #[.string x.lo, .string x.hi, .string x.acs, .string x.low, .string x.high, .int .i64 x.mode] 41) = w2 at B2 hz2 ⊢
      refine (HH.out _).mono ?_
      rintro e w3 ⟨rfl, hb3⟩
      have B3 := Lib.hid (B2.out.trans (hb3.mono hz2))
      clear hb3 p0 p1 p2 p3 p4 p5
      cases hs with
      | true =>
        go_wp2
        try rw [Exit.noGoto_ret]
        go_ret
        exact ⟨by rw [HB.out]; exact B3.out, j, rfl, Or.inr ⟨j, hlt, rfl, by rw [HX.out]; exact HF.out trivial⟩⟩
      | false =>
        go_wp2
        go_roundw
        case rel => exact ⟨j + 1, by omega, by go_num, Lib.hid ⟨HN.out trivial, B3.out⟩⟩
        case measure => simp [intOf]; omega
    · have hltI : ¬ (j : Int) < (t.length : Int) := by omega
      go_wp2
      go_ret
      refine ⟨by first | exact HW.out.2 | (rw [HB.out]; exact HW.out.2), -1, rfl, Or.inl ⟨rfl, ?_⟩⟩
      unfold findL
      rw [List.find?_eq_none]
      intro x hx
      obtain ⟨i, hi, rfl⟩ := List.getElem_of_mem hx
      rw [HW.out.1 i hi (by omega)]; decide
end Go.Proofs.YtldjnegoefdadaaGreatDoor

namespace Go.Proofs.YtldjnegoefdadaaGreatDoor
open Go.RowKit Go.Shelf
set_option linter.unusedVariables false
set_option linter.unusedSimpArgs false

/-- How Turn ends. -/
def TurnPost (l : List RG) (r : RG) (p q : Nat) (w : World) (e : Ending) (w' : World) : Prop :=
  Below w.heap.size w w' ∧ ∃ s' er, e = .returned (.tuple #[.agg #[s'], .int .i64 er]) ∧
    ((er = 16 ∧ s' = .slice none 0 0 ∧ ¬ ∃ h : p < l.length, ck r.lo l[p] = 0) ∨
     ((∃ h : p < l.length, ck r.lo l[p] = 0) ∧ ((er = errA (delL l p) r ∧ er ≠ 0 ∧ s' = .slice none 0 0) ∨ (errA (delL l p) r = 0 ∧ er = 0 ∧ OWN w.heap.size w' s' (insL (delL l p) q r)))))
theorem delL_mem {l : List RG} {p : Nat} {x : RG} (h : x ∈ delL l p) : x ∈ l := by
  unfold delL at h
  rcases List.mem_append.1 h with h | h
  · exact List.mem_of_mem_take h
  · exact List.mem_of_mem_drop h

set_option maxRecDepth 100000 in
set_option maxHeartbeats 4000000 in
theorem Turn_any (l : List RG) (hl : ∀ r ∈ l, r.light) (h64 : l.length ≤ 64) (r : RG) (hr : r.light) (p q : Nat) (hp : Stands l r.lo p) (hq : (∃ h : p < l.length, ck r.lo l[p] = 0) → Stands (delL l p) r.lo q) (s : Value) (w : World) (hG : VG w) (hT : TBL w s l) :
    Calls Tryz.prog 12 #[.agg #[s], .agg #[.string r.lo, .string r.hi, .string r.acs, .string r.low, .string r.high, .int .i64 r.mode]] w (TurnPost l r p q w) := by
  obtain ⟨a, cap, rfl⟩ := hT.slice
  have hk : r.lo.size ≤ 1000 := hr.1
  have HD := Lib.hid (fun W h => Drop_any l hl h64 r.lo hk p hp (.slice a l.length cap) W h)
  obtain ⟨b, hb⟩ : ∃ b, w.heap.size = b := ⟨_, rfl⟩
  have H0 : Hid (Row (((w.alloc (.cells #[.slice a l.length cap] 27)).alloc (.cells #[.string r.lo, .string r.hi, .string r.acs, .string r.low, .string r.high, .int .i64 r.mode] 30)).alloc (.cells #[.slice none 0 0] 27)) b 27 [.slice a l.length cap] ∧
      Row (((w.alloc (.cells #[.slice a l.length cap] 27)).alloc (.cells #[.string r.lo, .string r.hi, .string r.acs, .string r.low, .string r.high, .int .i64 r.mode] 30)).alloc (.cells #[.slice none 0 0] 27)) (b + 1) 30 [.string r.lo, .string r.hi, .string r.acs, .string r.low, .string r.high, .int .i64 r.mode] ∧
      Row (((w.alloc (.cells #[.slice a l.length cap] 27)).alloc (.cells #[.string r.lo, .string r.hi, .string r.acs, .string r.low, .string r.high, .int .i64 r.mode] 30)).alloc (.cells #[.slice none 0 0] 27)) (b + 2) 27 [.slice none 0 0] ∧
      Below b w (((w.alloc (.cells #[.slice a l.length cap] 27)).alloc (.cells #[.string r.lo, .string r.hi, .string r.acs, .string r.low, .string r.high, .int .i64 r.mode] 30)).alloc (.cells #[.slice none 0 0] 27))) := Lib.hid (by
    rw [← hb]
    have z1 : (w.alloc (.cells #[.slice a l.length cap] 27)).heap.size = w.heap.size + 1 := by simp
    have z2 : ((w.alloc (.cells #[.slice a l.length cap] 27)).alloc (.cells #[.string r.lo, .string r.hi, .string r.acs, .string r.low, .string r.high, .int .i64 r.mode] 30)).heap.size = w.heap.size + 2 := by simp
    refine ⟨((Row.self w _ _).alloc _).alloc _, ?_, ?_, (((Below.refl _ _).alloc (Nat.le_refl _) _).alloc (by simp) _).alloc (by simp; omega) _⟩
    · rw [← z1]; exact (Row.self _ _ _).alloc _
    · rw [← z2]; exact Row.self _ _ _)
  have HT : Hid (∀ W, Below b w W → TBL W (.slice a l.length cap) l) := Lib.hid fun W h => hT.below (by rw [hb]; exact h)
  have HVG : Hid (∀ W, Below b w W → VG W) := Lib.hid fun W h => hG.below (by rw [hb]; exact h)
  clear hT hG
  go_enter Tryz.func12, Tryz.ntmps12
  go_wp2_with fail
  generalize ((w.alloc (.cells #[.slice a l.length cap] 27)).alloc (.cells #[.string r.lo, .string r.hi, .string r.acs, .string r.low, .string r.high, .int .i64 r.mode] 30)).alloc (.cells #[.slice none 0 0] 27) = w1 at H0 ⊢
  refine (HD.out _ (HT.out _ H0.out.2.2.2)).mono ?_
  rintro e w2 ⟨hb2, s1, er, rfl, hcase⟩
  have hz1 : b + 2 < w1.heap.size := H0.out.2.2.1.lt
  have hz2 : b + 2 < w2.heap.size := Nat.lt_of_lt_of_le hz1 hb2.size
  have R1 := Lib.hid (H0.out.2.1.below hb2 (by omega))
  have R2 := Lib.hid (H0.out.2.2.1.below hb2 hz1)
  have B2 := Lib.hid (H0.out.2.2.2.trans (hb2.mono (by omega)))
  obtain ⟨xa, xn, xc, rfl⟩ : ∃ a n c, s1 = Value.slice a n c := by
    rcases hcase with ⟨_, rfl, _⟩ | ⟨_, _, hO⟩
    · exact ⟨_, _, _, rfl⟩
    · obtain ⟨a, c, h⟩ := hO.tbl.slice
      exact ⟨a, _, c, h⟩
  have p2 := R2.out.cell 0
  have f2 := R2.out.frozen 0
  have q0 := R1.out.cell 0
  have q1 := R1.out.cell 1
  have q2 := R1.out.cell 2
  have q3 := R1.out.cell 3
  have q4 := R1.out.cell 4
  have q5 := R1.out.cell 5
  simp only [List.getElem?_cons_zero, List.getElem?_cons_succ] at p2 q0 q1 q2 q3 q4 q5
  have hs2 : b + 1 < w2.heap.size := by omega
  clear H0
  rcases hcase with ⟨rfl, hs, hno⟩ | ⟨rfl, hyes, hO⟩
  · injection hs with h1 h2 h3
    subst h1 h2 h3
    have HN := Lib.hid hno
    clear hno hb2
    go_wp2_with fail
    have r2 : Row ((w2.setCell ⟨b + 2, 0, none⟩ (.slice none 0 0)).alloc (.cells #[.slice none 0 0] 27)) (b + 2) 27 [.slice none 0 0] := (R2.out.set 0 (.slice none 0 0)).alloc _
    refine bodyPost_ret (results_tt rfl _ _ (b + 2) (.slice none 0 0) (.int .i64 16) rfl rfl r2) rfl ?_
    exact ⟨by rw [hb]; exact (B2.out.setCell (p := ⟨b + 2, 0, none⟩) (by show b ≤ b + 2; omega) _).alloc (by rw [World.size_setCell]; omega) _, _, _, rfl, Or.inl ⟨rfl, rfl, HN.out⟩⟩
  · have HY := Lib.hid hyes
    have hlen : (delL l p).length ≤ 64 := by rw [delL_len l p hyes.1]; omega
    have HAdd := Lib.hid (fun W h1 h2 => Add_any (delL l p) (fun x hx => hl x (delL_mem hx)) hlen r hr q (hq hyes) (.slice xa xn xc) W h1 h2)
    have B3 : Below w2.heap.size w2 (w2.alloc (.cells #[.slice xa xn xc] 27)) := (Below.refl _ _).alloc (Nat.le_refl _) _
    have HT3 := Lib.hid (hO.tbl.below B3)
    have HB3 := Lib.hid (B2.out.trans (B3.mono (by omega)))
    have S2 := Lib.hid (R2.out.below B3 hz2)
    have hz3 : b + 2 < (w2.alloc (.cells #[.slice xa xn xc] 27)).heap.size := Nat.lt_of_lt_of_le hz2 B3.size
    clear hO hyes hb2 B3
    go_wp2_with fail
    generalize w2.alloc (.cells #[.slice xa xn xc] 27) = w3 at HT3 HB3 S2 hz3 ⊢
    refine (HAdd.out _ (HVG.out _ HB3.out) HT3.out).mono ?_
    rintro e w4 ⟨hb4, s2, er, rfl, hcase⟩
    have B4 := Lib.hid (HB3.out.trans (hb4.mono (by omega)))
    have Q2 := Lib.hid (S2.out.below hb4 hz3)
    obtain ⟨ya, yn, yc, rfl⟩ : ∃ a n c, s2 = Value.slice a n c := by
      rcases hcase with ⟨_, _, rfl⟩ | ⟨_, _, hO⟩
      · exact ⟨_, _, _, rfl⟩
      · obtain ⟨a, c, h⟩ := hO.tbl.slice
        exact ⟨a, _, c, h⟩
    have HCS : Hid ((er = errA (delL l p) r ∧ er ≠ 0 ∧ Value.slice ya yn yc = .slice none 0 0) ∨ (errA (delL l p) r = 0 ∧ er = 0 ∧ OWN w3.heap.size w4 (.slice ya yn yc) (insL (delL l p) q r))) := Lib.hid hcase
    clear hcase hb4 p2 f2 q0 q1 q2 q3 q4 q5
    have p2 := Q2.out.cell 0
    have f2 := Q2.out.frozen 0
    simp only [List.getElem?_cons_zero] at p2
    go_wp2_with fail
    have r2 := Q2.out.set 0 (.slice ya yn yc)
    refine bodyPost_ret (results_tt rfl _ _ (b + 2) (.slice ya yn yc) (.int .i64 er) rfl rfl r2) rfl ?_
    refine ⟨by rw [hb]; exact B4.out.setCell (p := ⟨b + 2, 0, none⟩) (by show b ≤ b + 2; omega) _, _, _, rfl, Or.inr ⟨HY.out, ?_⟩⟩
    rcases HCS.out with h | ⟨h1, h2, h3⟩
    · exact Or.inl h
    · refine Or.inr ⟨h1, h2, ?_⟩
      rw [hb]
      exact (OWN.same h3 (fun g hg => Below.heap_setCell _ ⟨b + 2, 0, none⟩ _ g (by show g ≠ b + 2; omega))).weak (by omega)
end Go.Proofs.YtldjnegoefdadaaGreatDoor

namespace Go.Proofs.YtldjnegoefdadaaGreatDoor
open Go.RowKit Go.Shelf
set_option linter.unusedVariables false
set_option linter.unusedSimpArgs false

def anyK (t : List RG) (k : ByteArray) : Bool := t.any fun x => decide (x.lo = k)
theorem anyK_iff (t : List RG) (k : ByteArray) : anyK t k = true ↔ ∃ x ∈ t, x.lo = k := by
  unfold anyK
  rw [List.any_eq_true]
  simp
/-- The error, and the list behind it. -/
def dropE (t : List RG) (k : ByteArray) : Int := if anyK t k = true then 0 else 16
def dropL (t : List RG) (k : ByteArray) : List RG := if anyK t k = true then othN t k else []
def addL (t : List RG) (r : RG) : List RG := if errA t r = 0 then insL t (plc t r) r else []
def turnE (t : List RG) (r : RG) : Int := if anyK t r.lo = true then errA (othN t r.lo) r else 16
def turnL (t : List RG) (r : RG) : List RG := if anyK t r.lo = true then addL (othN t r.lo) r else []
/-- A table that is whole. -/
def Whole (t : List RG) : Prop := Good t ∧ (∀ r ∈ t, r.light) ∧ t.length ≤ 64
theorem whole_nil : Whole [] := ⟨⟨fun x hx => absurd hx (by simp), List.Pairwise.nil⟩, fun x hx => absurd hx (by simp), by decide⟩
theorem whole_oth {t : List RG} (h : Whole t) (k : ByteArray) : Whole (othN t k) := ⟨oth_good h.1 k, fun x hx => h.2.1 x (List.mem_filter.1 hx).1, Nat.le_trans (oth_le t k) h.2.2⟩
theorem whole_drop {t : List RG} (h : Whole t) (k : ByteArray) : Whole (dropL t k) := by
  unfold dropL
  split
  · exact whole_oth h k
  · exact whole_nil
theorem whole_add {t : List RG} (h : Whole t) {r : RG} (hr : r.light) : Whole (addL t r) := by
  unfold addL
  by_cases he : errA t r = 0
  · rw [if_pos he]
    refine ⟨good_ins h.1 he, fun x hx => ?_, ?_⟩
    · rcases List.mem_cons.1 ((insL_perm _ _ _).mem_iff.1 hx) with rfl | hx
      · exact hr
      · exact h.2.1 x hx
    · rw [insL_len _ _ _ (plc_le t r)]
      have := (errA_zero he).2.1
      omega
  · rw [if_neg he]; exact whole_nil
theorem whole_turn {t : List RG} (h : Whole t) {r : RG} (hr : r.light) : Whole (turnL t r) := by
  unfold turnL
  split
  · exact whole_add (whole_oth h r.lo) hr
  · exact whole_nil
theorem ownsTab {B : Nat} {w : World} {s : Value} {l : List RG} (h : OWN B w s l) : TBL w s l := h.tbl

theorem Drop_act (t : List RG) (h : Whole t) (k : ByteArray) (hk : k.size ≤ 1000) (s : Value) (w : World) (hT : TBL w s t) :
    Calls Tryz.prog 10 #[.agg #[s], .string k] w fun e w' => Below w.heap.size w w' ∧ ∃ s', e = .returned (.tuple #[.agg #[s'], .int .i64 (dropE t k)]) ∧ TBL w' s' (dropL t k) := by
  have hp := plcK_stands h.1 k
  refine (Drop_any t h.2.1 h.2.2 k hk _ hp s w hT).mono ?_
  rintro e w' ⟨hb, s', er, rfl, hc⟩
  refine ⟨hb, s', ?_⟩
  have hi := (anyK_iff t k).trans (oth_drop h.1 k _ hp)
  unfold dropE dropL
  rcases hc with ⟨rfl, rfl, hn⟩ | ⟨rfl, hy, hO⟩
  · have : ¬ anyK t k = true := fun h1 => hn (hi.1 h1)
    rw [if_neg this, if_neg this]
    exact ⟨rfl, TBL.nil _⟩
  · have h1 := hi.2 hy
    rw [if_pos h1, if_pos h1]
    obtain ⟨hpl, h0⟩ := hy
    rw [oth_del h.1 k _ hpl h0]
    exact ⟨rfl, hO.tbl⟩
theorem refDrop_act (t : List RG) (h : Whole t) (k : ByteArray) (s : Value) (w : World) (hT : RTB 0 w s t) :
    Calls Tryz.prog 11 #[s, .string k] w fun e w' => Below w.heap.size w w' ∧ ∃ s', e = .returned (.tuple #[s', .int .i64 (dropE t k)]) ∧ RTB 0 w' s' (dropL t k) := by
  refine (refDrop18_any t h.2.2 k s w hT).mono ?_
  rintro e w' ⟨hb, s', er, rfl, hc⟩
  refine ⟨hb, s', ?_⟩
  have hi := anyK_iff t k
  unfold dropE dropL
  rcases hc with ⟨rfl, hn, rfl⟩ | ⟨rfl, hy, hO⟩
  · have : ¬ anyK t k = true := fun h1 => hn (hi.1 h1)
    rw [if_neg this, if_neg this]
    exact ⟨rfl, RTB.nil _ _⟩
  · have h1 := hi.2 hy
    rw [if_pos h1, if_pos h1]
    exact ⟨rfl, hO.weak (Nat.zero_le _)⟩
theorem Add_act (t : List RG) (h : Whole t) (r : RG) (hr : r.light) (s : Value) (w : World) (hG : VG w) (hT : TBL w s t) :
    Calls Tryz.prog 14 #[.agg #[s], .agg #[.string r.lo, .string r.hi, .string r.acs, .string r.low, .string r.high, .int .i64 r.mode]] w fun e w' => Below w.heap.size w w' ∧ ∃ s', e = .returned (.tuple #[.agg #[s'], .int .i64 (errA t r)]) ∧ TBL w' s' (addL t r) := by
  refine (Add_any t h.2.1 h.2.2 r hr (plc t r) (good_stands h.1 r) s w hG hT).mono ?_
  rintro e w' ⟨hb, s', er, rfl, hc⟩
  refine ⟨hb, s', ?_⟩
  unfold addL
  rcases hc with ⟨rfl, hn, rfl⟩ | ⟨h0, rfl, hO⟩
  · rw [if_neg hn]
    exact ⟨rfl, TBL.nil _⟩
  · rw [if_pos h0, h0]
    exact ⟨rfl, hO.tbl⟩
theorem refAdd_act (t : List RG) (h : Whole t) (r : RG) (hr : r.light) (s : Value) (w : World) (hT : RTB 0 w s t) :
    Calls Tryz.prog 15 #[s, .agg #[.string r.lo, .string r.hi, .string r.acs, .string r.low, .string r.high, .int .i64 r.mode]] w fun e w' => Below w.heap.size w w' ∧ ∃ s', e = .returned (.tuple #[s', .int .i64 (errA t r)]) ∧ RTB 0 w' s' (addL t r) := by
  refine (refAdd18_any t h.1 h.2.1 h.2.2 r hr s w hT).mono ?_
  rintro e w' ⟨hb, s', rfl, hc⟩
  refine ⟨hb, s', rfl, ?_⟩
  unfold addL
  rcases hc with ⟨hn, rfl⟩ | ⟨h0, hO⟩
  · rw [if_neg hn]; exact RTB.nil _ _
  · rw [if_pos h0]; exact hO.weak (Nat.zero_le _)
theorem Turn_act (t : List RG) (h : Whole t) (r : RG) (hr : r.light) (s : Value) (w : World) (hG : VG w) (hT : TBL w s t) :
    Calls Tryz.prog 12 #[.agg #[s], .agg #[.string r.lo, .string r.hi, .string r.acs, .string r.low, .string r.high, .int .i64 r.mode]] w fun e w' => Below w.heap.size w w' ∧ ∃ s', e = .returned (.tuple #[.agg #[s'], .int .i64 (turnE t r)]) ∧ TBL w' s' (turnL t r) := by
  have hp := good_stands h.1 r
  have hd : ∀ hy : (∃ h' : plc t r < t.length, ck r.lo t[plc t r] = 0), othN t r.lo = delL t (plc t r) := fun hy => oth_del h.1 r.lo _ hy.1 hy.2
  refine (Turn_any t h.2.1 h.2.2 r hr (plc t r) (plc (othN t r.lo) r) hp (fun hy => by rw [← hd hy]; exact good_stands (oth_good h.1 r.lo) r) s w hG hT).mono ?_
  rintro e w' ⟨hb, s', er, rfl, hc⟩
  refine ⟨hb, s', ?_⟩
  have hi := (anyK_iff t r.lo).trans (oth_drop h.1 r.lo _ hp)
  unfold turnE turnL addL
  rcases hc with ⟨rfl, rfl, hn⟩ | ⟨hy, hc⟩
  · have : ¬ anyK t r.lo = true := fun h1 => hn (hi.1 h1)
    rw [if_neg this, if_neg this]
    exact ⟨rfl, TBL.nil _⟩
  · have h1 := hi.2 hy
    rw [if_pos h1, if_pos h1]
    rw [← hd hy] at hc
    rcases hc with ⟨rfl, hn, rfl⟩ | ⟨h0, rfl, hO⟩
    · rw [if_neg hn]
      exact ⟨rfl, TBL.nil _⟩
    · rw [if_pos h0, h0]
      exact ⟨rfl, hO.tbl⟩
theorem refTurn_act (t : List RG) (h : Whole t) (r : RG) (hr : r.light) (s : Value) (w : World) (hT : RTB 0 w s t) :
    Calls Tryz.prog 13 #[s, .agg #[.string r.lo, .string r.hi, .string r.acs, .string r.low, .string r.high, .int .i64 r.mode]] w fun e w' => Below w.heap.size w w' ∧ ∃ s', e = .returned (.tuple #[s', .int .i64 (turnE t r)]) ∧ RTB 0 w' s' (turnL t r) := by
  refine (refTurn18_any t h.1 h.2.1 h.2.2 r hr s w hT).mono ?_
  rintro e w' ⟨hb, s', er, rfl, hc⟩
  refine ⟨hb, s', ?_⟩
  have hi := anyK_iff t r.lo
  unfold turnE turnL addL
  rcases hc with ⟨rfl, hn, rfl⟩ | ⟨hy, rfl, hc⟩
  · have : ¬ anyK t r.lo = true := fun h1 => hn (hi.1 h1)
    rw [if_neg this, if_neg this]
    exact ⟨rfl, RTB.nil _ _⟩
  · have h1 := hi.2 hy
    rw [if_pos h1, if_pos h1]
    rcases hc with ⟨hn, rfl⟩ | ⟨h0, hO⟩
    · rw [if_neg hn]
      exact ⟨rfl, RTB.nil _ _⟩
    · rw [if_pos h0]
      exact ⟨rfl, hO.weak (Nat.zero_le _)⟩
end Go.Proofs.YtldjnegoefdadaaGreatDoor

namespace Go.Proofs.YtldjnegoefdadaaGreatDoor
open Go.RowKit
set_option linter.unusedVariables false

theorem rrange_fields : Tryz.prog.fieldsOf 41 = #[{ name := "From", type := 9, offset := 0, embedded := false, tag := "", pkgPath := "", byteOffset := 0 }, { name := "To", type := 9, offset := 1, embedded := false, tag := "", pkgPath := "", byteOffset := 16 },
  { name := "ACS", type := 9, offset := 2, embedded := false, tag := "", pkgPath := "", byteOffset := 32 }, { name := "Low", type := 9, offset := 3, embedded := false, tag := "", pkgPath := "", byteOffset := 48 },
  { name := "High", type := 9, offset := 4, embedded := false, tag := "", pkgPath := "", byteOffset := 64 }, { name := "Mode", type := 3, offset := 5, embedded := false, tag := "", pkgPath := "", byteOffset := 80 }] := by kernel_rfl
theorem rreq_in (r q : RG) (W : World) :
    (Op.equalIn 10000 41 (.agg #[.string r.lo, .string r.hi, .string r.acs, .string r.low, .string r.high, .int .i64 r.mode]) (.agg #[.string q.lo, .string q.hi, .string q.acs, .string q.low, .string q.high, .int .i64 q.mode])).run Tryz.prog W = .ok (decide (r = q)) W := by
  have aS := Tryz.isAgg9
  have aI := Tryz.isAgg3
  have hd : decide (r = q) = decide (r.lo = q.lo ∧ r.hi = q.hi ∧ r.acs = q.acs ∧ r.low = q.low ∧ r.high = q.high ∧ r.mode = q.mode) := decide_eq_decide.2 (rg_ext r q)
  rw [run_equalIn_struct W 9999 _ _ _ (by rw [rrange_fields]; exact Tryz.underlying41) (by kernel_rfl), rrange_fields, hd]
  simp [Op.eqFields, part, aS, aI, run_equalIn_int, run_equalIn_string, Tryz.underlying9, Tryz.underlying3, tl_inj]
  by_cases h1 : r.lo = q.lo
  · by_cases h2 : r.hi = q.hi
    · by_cases h3 : r.acs = q.acs
      · by_cases h4 : r.low = q.low
        · by_cases h5 : r.high = q.high
          · by_cases h6 : r.mode = q.mode <;> simp [h1, h2, h3, h4, h5, h6]
          · simp [h1, h2, h3, h4, h5]
        · simp [h1, h2, h3, h4]
      · simp [h1, h2, h3]
    · simp [h1, h2]
  · simp [h1]
theorem rreq_neq (r q : RG) (W : World) :
    (binOp .neq 41 (.agg #[.string r.lo, .string r.hi, .string r.acs, .string r.low, .string r.high, .int .i64 r.mode]) (.agg #[.string q.lo, .string q.hi, .string q.acs, .string q.low, .string q.high, .int .i64 q.mode])).run Tryz.prog W = .ok (.bool (!decide (r = q))) W := by
  rw [run_neq_struct, rreq_in]
  rfl
section
variable {P : Program} {ops : Array Oper} {C : World → Prop}
theorem wpQuiet_yieldsR {Q : Act → Prop} {a : Act} {o : Oper} {rest : List Oper} (v : Value) (hy : YieldsIf P ops C o v a) (h : wpQuiet P ops C Q rest (a.put o.dst v)) : wpQuiet P ops C Q (o :: rest) a := by
  unfold wpQuiet
  rcases hy with ⟨hw, hr⟩ | ⟨hw, hv⟩
  · rw [if_pos hw]
    refine ⟨v, fun w hC => ?_, h⟩
    unfold Oper.quietAt
    rw [hr w hC]
    exact ⟨rfl, rfl⟩
  · rw [if_neg (by rw [hw]; decide), ← hv]
    exact h
end
end Go.Proofs.YtldjnegoefdadaaGreatDoor

namespace Go.Proofs.YtldjnegoefdadaaGreatDoor
open Go.RowKit Go.Shelf
set_option linter.unusedVariables false
set_option linter.unusedSimpArgs false
attribute [local go_sem] Oper.semAt_some

abbrev Kz (ls : List RG) := { x : RG × Nat // ls[x.2]? = some x.1 }
theorem All_stopsZ (n : Nat) (hn : 1 ≤ n) (Bn g : Nat) (a : Option Addr) (cap : Nat) (ls : List RG) (h64 : ls.length ≤ 64) (w : World) (hBn : Row w Bn 25 [.slice a ls.length cap]) (hE : ElemsAt w g a ls) :
    SeqStopsK Fence.wide n Tryz.prog 85 #[.pointer (some ⟨Bn, 0, none⟩)] (fun x : Kz ls => encA x.1) (KeepsA g) (fun ys => ys.map Subtype.val = ls.zipIdx) (fun pre => pre.map Subtype.val <+: ls.zipIdx) ls.length w := fun l J Jx W hW hJ _ hY h0 => by
  refine (All1_in n hn l Bn g a cap ls h64 (fun pre W => ∃ p : List (Kz ls), p.map Subtype.val = pre ∧ J p W) (fun pre W => ∃ p : List (Kz ls), p.map Subtype.val = pre ∧ Jx p W) ?_ W (fun s A B row h hg hr => by
    obtain ⟨p, hp, hj⟩ := h
    exact ⟨p, hp, hJ p A B row hj hg hr⟩) (hBn.below hW hBn.lt) (hE.same (hW.block g (by obtain ⟨_, _, _, h, _⟩ := hE; exact (Array.getElem?_eq_some_iff.1 h).1))) ⟨[], rfl, h0⟩).mono ?_
  · rintro pre x W1 ⟨p, rfl, hp⟩ hpre
    have hx : ls[x.2]? = some x.1 := List.mem_zipIdx_iff_getElem?.1 (hpre.subset (by simp))
    have hlen : p.length < ls.length := by
      have h1 := hpre.length_le
      rw [List.length_append, List.length_map, List.length_singleton, List.length_zipIdx] at h1
      omega
    obtain ⟨fn, tmps, assign, body, hy, hR⟩ := hY p ⟨x, hx⟩ W1 hp hlen
    refine ⟨fn, tmps, assign, body, hy, hR.mono ?_⟩
    rintro e W' (⟨h1, h2, h3⟩ | ⟨h1, h2⟩)
    · exact .inl ⟨h1, ⟨_, by simp, h2⟩, h3⟩
    · exact .inr ⟨h1, ⟨_, by simp, h2⟩⟩
  · rintro e W' ⟨hv, (⟨ys, rfl, p, hp, hj⟩ | ⟨pre, hpre, p, rfl, hj⟩)⟩
    · exact ⟨hv, .inl ⟨p, hp, hj⟩⟩
    · exact ⟨hv, .inr ⟨p, hpre, hj⟩⟩

/-- What a round finds and leaves. -/
def II (b : Nat) (s u : Value) (l : List RG) (w : World) (pre : List (Kz l)) (W : World) : Prop :=
  pre.map Subtype.val <+: l.zipIdx ∧ (Row W b 27 [s] ∧ Row W (b + 1) 28 [u]) ∧ (Row W (b + 2) 4 [.bool false] ∧ Row W (b + 5) 3 [.int .i64 (pre.length : Nat)]) ∧ Below b w W
theorem II_own (b : Nat) (s u : Value) (l : List RG) (w : World) (B : Nat) (hb : b ≤ w.heap.size) (hbw : b ≤ B) : OwnFrom B (II b s u l w) :=
  OwnFrom.and own_pure_r (OwnFrom.and (OwnFrom.and (Own.from (own_row_v b _ (fun _ => [s])) _) (Own.from (own_row_v (b + 1) _ (fun _ => [u])) _))
    (OwnFrom.and (OwnFrom.and (Own.from (own_row_v (b + 2) _ (fun _ => [Value.bool false])) _) (Own.from (own_row_v (b + 5) _ (fun pre : List (Kz l) => [Value.int .i64 (pre.length : Nat)])) _)) (ownFrom_below hb hbw)))
theorem II.below {b : Nat} {s u : Value} {l : List RG} {w W W' : World} {pre : List (Kz l)} (h : II b s u l w pre W) (hb : Below W.heap.size W W') : II b s u l w pre W' :=
  ⟨h.1, ⟨h.2.1.1.below hb h.2.1.1.lt, h.2.1.2.below hb h.2.1.2.lt⟩, ⟨h.2.2.1.1.below hb h.2.2.1.1.lt, h.2.2.1.2.below hb h.2.2.1.2.lt⟩, h.2.2.2.trans (hb.mono (Nat.le_of_lt h.2.1.1.lt))⟩
theorem zip_snoc' {l : List RG} {pre : List (Kz l)} {x : Kz l} (h : pre.map Subtype.val <+: l.zipIdx) (hx : x.1.2 = pre.length) : (pre ++ [x]).map Subtype.val <+: l.zipIdx := by
  obtain ⟨⟨r, i⟩, hr⟩ := x
  dsimp only at hr hx
  subst hx
  have hlt : pre.length < l.length := (List.getElem?_eq_some_iff.1 hr).1
  have hp := List.prefix_iff_eq_take.1 h
  rw [List.length_map] at hp
  rw [List.map_append, hp, List.prefix_iff_eq_take]
  have hl : (l.zipIdx.take pre.length).length = pre.length := by rw [List.length_take, List.length_zipIdx]; omega
  rw [List.length_append, hl, List.map_cons, List.map_nil, List.length_singleton, List.take_succ_eq_append_getElem (by rw [List.length_zipIdx]; exact hlt)]
  congr 2
  rw [List.getElem_zipIdx]
  have := (List.getElem?_eq_some_iff.1 hr).2
  simp [this]
theorem zip_not {l : List RG} {pre : List (Kz l)} {x : Kz l} (hp : pre.length < l.length) (hx : ¬ x.1.2 = pre.length) : ¬ (pre ++ [x]).map Subtype.val <+: l.zipIdx := by
  intro h
  have h1 := h.getElem (i := pre.length) (by simp)
  rw [List.getElem_zipIdx, List.getElem_map, List.getElem_append_right (by simp)] at h1
  simp at h1
  exact hx (by rw [h1])
/-- What the last word needs. -/
def IS (b D : Nat) (s u : Value) (n : Nat) (w W : World) : Prop :=
  (Row W b 27 [s] ∧ Row W (b + 1) 28 [u]) ∧ (Row W (b + 5) 3 [.int .i64 (n : Nat)] ∧ ∃ v, Row W (b + 2) 4 [v]) ∧ Below b w W ∧ W.heap[D]? = some (.deferred (some []))
theorem IS.next {b D : Nat} {s u : Value} {n : Nat} {w W W' : World} (h : IS b D s u n w W) (hb : Below W.heap.size W W') : IS b D s u n w W' := by
  obtain ⟨⟨h1, h2⟩, ⟨h3, v, h4⟩, h5, h6⟩ := h
  exact ⟨⟨h1.below hb h1.lt, h2.below hb h2.lt⟩, ⟨h3.below hb h3.lt, v, h4.below hb h4.lt⟩, h5.trans (hb.mono (Nat.le_of_lt h1.lt)), (hb.block D (Array.getElem?_eq_some_iff.1 h6).1).trans h6⟩
theorem IS.put {b D : Nat} {s u : Value} {n : Nat} {w W : World} (h : IS b D s u n w W) (hD : D ≠ b + 2) (v : Value) : IS b D s u n w (W.setCell ⟨b + 2, 0, none⟩ v) := by
  obtain ⟨⟨h1, h2⟩, ⟨h3, v0, h4⟩, h5, h6⟩ := h
  exact ⟨⟨h1.far (p := ⟨b + 2, 0, none⟩) (by show b ≠ b + 2; omega) _, h2.far (p := ⟨b + 2, 0, none⟩) (by show b + 1 ≠ b + 2; omega) _⟩, ⟨h3.far (p := ⟨b + 2, 0, none⟩) (by show b + 5 ≠ b + 2; omega) _, v, h4.set 0 v⟩, h5.setCell (p := ⟨b + 2, 0, none⟩) (by show b ≤ b + 2; omega) _, (Below.heap_setCell _ ⟨b + 2, 0, none⟩ _ D hD).trans h6⟩
theorem IS.dr {b D : Nat} {s u : Value} {n : Nat} {w W : World} (h : IS b D s u n w W) : IS b D s u n w W.drew := h.next (Below.refl _ _).drew
theorem results_boolR {fn : Func} {p : Tmp} (h : fn.results = #[.cell p 4]) (tmps : Array Value) (w : World) (g : Nat) (b : Bool) (hp : tmps.getD p undef = .pointer (some ⟨g, 0, none⟩)) (hr : Row w g 4 [.bool b]) :
    (results fn tmps).run Tryz.prog w = .ok (.bool b) w := by
  have hc := hr.cell 0
  simp only [List.getElem?_cons_zero] at hc
  have hp' : tmps[p]?.getD undef = .pointer (some ⟨g, 0, none⟩) := by simpa using hp
  simp [results, h, hp', asAddr, loadVar, go_sem, hc]
theorem func_nonil_in (W : World) (d : Nat) (f : Fn) (ts cs : Array Value) : (Op.equalIn (d + 1) 85 (.func f ts cs) Value.nilFunc).run Tryz.prog W = .ok false W := by
  have u := Tryz.underlying85
  unfold Op.equalIn
  simp [run_underlying u]
theorem func_nonil (W : World) (f : Fn) (ts cs : Array Value) : (binOp .eql 85 (.func f ts cs) Value.nilFunc).run Tryz.prog W = .ok (.bool false) W := by
  simp only [binOp]
  simp [Op.equal, Op.maxDepth, func_nonil_in W 9999]
set_option maxRecDepth 100000 in
set_option maxHeartbeats 4000000 in
theorem IsTab_any (l : List RG) (h64 : l.length ≤ 64) (s u : Value) (w : World) (hT : TBL w s l) (hU : RTB 0 w u l) :
    Calls Tryz.prog 16 #[.agg #[s], u] w fun e w' => e = .returned (.bool true) ∧ Below w.heap.size w w' := by
  obtain ⟨a, cap, rfl⟩ := hT.slice
  obtain ⟨ua, uc, rfl⟩ := hU.slice
  have HAll := Lib.hid (fun W => TAll_any a l.length cap W)
  have HLen := Lib.hid (fun W h => Len_any l (.slice a l.length cap) W h)
  have HT := Lib.hid hT
  have HU := Lib.hid hU
  clear hT hU
  refine (callsIn_wide (n := 6)).1 ?_
  refine callsIn_of_wp_marks Tryz.func16 rfl trivial ?_ rfl
  simp only [Tryz.ntmps16, List.size_toArray, List.length_cons, List.length_nil, Nat.reduceAdd, Nat.reduceSub, Array.replicate_succ, Array.replicate_zero, List.push_toArray, List.append_toArray, List.nil_append, List.cons_append]
  rw [wpIn_wide]
  obtain ⟨b, hb⟩ : ∃ b, w.heap.size = b := ⟨_, rfl⟩
  have HB := Lib.hid hb
  go_wp2_with fail
  have HTB : Hid (∀ W, Below b w W → TBL W (.slice a l.length cap) l) := Lib.hid fun W h => HT.out.below (by rw [hb]; exact h)
  have HUB : Hid (∀ W, Below b w W → RTB 0 W (.slice ua l.length uc) l) := Lib.hid fun W h => HU.out.below (by rw [hb]; exact h)
  refine (HAll.out _).mono ?_
  rintro e w2 ⟨rfl, rfl⟩
  have qf := fun W f ts cs => func_nonil W f ts cs
  go_wp2_with fail
  obtain ⟨w6, hw6⟩ : ∃ W, ((((((w.alloc (.cells #[.slice a l.length cap] 27)).alloc (.cells #[.slice ua l.length uc] 28)).alloc (.cells #[.bool false] 4)).alloc (.cells #[.slice a l.length cap] 27)).alloc (.cells #[.slice a l.length cap] 25)).alloc (.cells #[.int .i64 0] 3)) = W := ⟨_, rfl⟩
  rw [hw6]
  have z1 : (w.alloc (.cells #[.slice a l.length cap] 27)).heap.size = b + 1 := by rw [World.size_alloc, hb]
  have hI6 : II b (.slice a l.length cap) (.slice ua l.length uc) l w [] w6 ∧ Row w6 (b + 4) 25 [.slice a l.length cap] := by
    rw [← hw6]
    refine ⟨⟨List.nil_prefix, ⟨?_, ?_⟩, ⟨?_, ?_⟩, ?_⟩, ?_⟩
    · rw [← hb]; exact (((((Row.self w _ _).alloc _).alloc _).alloc _).alloc _).alloc _
    · rw [← z1]; exact ((((Row.self _ _ _).alloc _).alloc _).alloc _).alloc _
    · rw [show b + 2 = ((w.alloc (.cells #[.slice a l.length cap] 27)).alloc (.cells #[.slice ua l.length uc] 28)).heap.size by rw [World.size_alloc, z1]]; exact (((Row.self _ _ _).alloc _).alloc _).alloc _
    · have := Row.self ((((((w.alloc (.cells #[.slice a l.length cap] 27)).alloc (.cells #[.slice ua l.length uc] 28)).alloc (.cells #[.bool false] 4)).alloc (.cells #[.slice a l.length cap] 27)).alloc (.cells #[.slice a l.length cap] 25))) #[.int .i64 0] 3
      simp only [World.size_alloc] at this
      rw [hb] at this
      exact this
    · rw [← hb]; exact (((((((Below.refl _ _).alloc (Nat.le_refl _) _).alloc (by simp) _).alloc (by simp; omega) _).alloc (by simp; omega) _).alloc (by simp; omega) _).alloc (by simp; omega) _)
    · rw [show b + 4 = ((((w.alloc (.cells #[.slice a l.length cap] 27)).alloc (.cells #[.slice ua l.length uc] 28)).alloc (.cells #[.bool false] 4)).alloc (.cells #[.slice a l.length cap] 27)).heap.size by rw [World.size_alloc, World.size_alloc, World.size_alloc, z1]]; exact (Row.self _ _ _).alloc _
  obtain ⟨hI6, hBn⟩ := hI6
  have HI6 := Lib.hid hI6
  have hz6 : b + 5 < w6.heap.size := hI6.2.2.1.2.lt
  clear hI6 hw6 z1
  have hel : ∃ g, g ≤ b ∧ ElemsAt w6 g a l := by
    rcases (HTB.out _ HI6.out.2.2.2).form with ⟨h1, _⟩ | ⟨g, cap', cur, h1, h2, _, _, _, h6⟩
    · exact ⟨b, Nat.le_refl _, _, _, _, HI6.out.2.1.1, Or.inl h1⟩
    · injection h1 with h1 _ _
      refine ⟨g, ?_, cur, _, _, h2, Or.inr ⟨h1, h6⟩⟩
      rcases HT.out.form with ⟨_, h3⟩ | ⟨g', _, _, h3, h4, _⟩
      · injection h3 with h3; rw [h1] at h3; cases h3
      · injection h3 with h3 _ _
        rw [h1] at h3
        injection h3 with h3
        injection h3 with h3
        have := (Array.getElem?_eq_some_iff.1 h4).1
        omega
  obtain ⟨g, hgb, hE⟩ := hel
  rw [← wpIn_wide (n := 6)]
  refine' wpIn_rangeFunc_ownH rfl (by omega) (gf := 85) (lb := #[.pointer (some ⟨b + 4, 0, none⟩)]) rfl trivial (enters_of Tryz.func85 (by kernel_rfl) rfl)
    (All_stopsZ 5 (by omega) (b + 4) g a cap l h64 w6 hBn hE) keepsA_t (keepsA_b (by omega)) (Below.refl _ _) (fun _ => rfl)
    (II b (.slice a l.length cap) (.slice ua l.length uc) l w)
    (fun c pre W => ¬ pre.map Subtype.val <+: l.zipIdx)
    (II_own b _ _ l w _ (by omega) (by omega))
    (fun c => fun s X Y row h _ _ => h)
    HI6.out
    (fun x a' W => ∃ g', (a' = { tmps := #[Value.agg #[Value.slice a l.length cap], Value.slice ua l.length uc,
      Value.pointer (some ⟨b, 0, none⟩), Value.pointer (some ⟨b + 1, 0, none⟩), Value.pointer (some ⟨b + 1 + 1, 0, none⟩), Value.func (Fn.func 85) #[] #[Value.pointer (some ⟨b + 1 + 1 + 1 + 1, 0, none⟩)], Value.pointer (some ⟨b + 1 + 1 + 1 + 1 + 1, 0, none⟩), .int .i64 (x.1.2 : Nat), Value.pointer (some ⟨g', 0, none⟩),
      Value.agg #[Value.slice a l.length cap], Value.func (Fn.func 85) #[] #[Value.pointer (some ⟨b + 1 + 1 + 1 + 1, 0, none⟩)], Value.func (Fn.func 85) #[] #[Value.pointer (some ⟨b + 1 + 1 + 1 + 1, 0, none⟩)], Value.bool false,
      Value.func (Fn.func 85) #[] #[Value.pointer (some ⟨b + 1 + 1 + 1 + 1, 0, none⟩)], .int .i64 (x.1.2 : Nat), .agg #[.string x.1.1.lo, .string x.1.1.hi, .string x.1.1.acs, .string x.1.1.low, .string x.1.1.high, .int .i64 x.1.1.mode],
      undef, undef, undef, undef, undef, undef, undef, undef, undef, undef, undef, undef, undef, undef, undef, undef, undef, undef, undef, undef, undef, undef, undef, undef, undef, undef, undef, undef, undef], defers := [] } ∧ b + 5 < g') ∧ Row W g' 30 [.string x.1.1.lo, .string x.1.1.hi, .string x.1.1.acs, .string x.1.1.low, .string x.1.1.high, .int .i64 x.1.1.mode])
    (fun x a' => ax_ownV _) ?hassign ?hbody ?hdone ?hstop
  case hassign =>
    rintro l' pre x W K hI hK
    have hbW : b + 5 < W.heap.size := hI.2.2.1.2.lt
    dsimp only [encA]
    gi_wp2
    have ha : Below W.heap.size W (W.alloc (.cells #[.string x.1.1.lo, .string x.1.1.hi, .string x.1.1.acs, .string x.1.1.low, .string x.1.1.high, .int .i64 x.1.1.mode] 30)) := (Below.refl _ _).alloc (Nat.le_refl _) _
    exact hK _ _ ((below_othersV ha).from _) (ha.block g (by omega)) (hI.below ha) ⟨W.heap.size, ⟨rfl, hbW⟩, Row.self W _ _⟩
  case hbody =>
    rintro l' pre y a' W hl' hrec hI ⟨g', ⟨rfl, hbg⟩, hrow⟩ hlt
    obtain ⟨x, hxr⟩ : ∃ r, y.1.1 = r := ⟨_, rfl⟩
    obtain ⟨xi, hxn⟩ : ∃ i, y.1.2 = i := ⟨_, rfl⟩
    have hx := y.2
    rw [hxr, hxn] at hx
    rw [hxr] at hrow
    dsimp only
    rw [hxr, hxn]
    have HI := Lib.hid hI
    have HRW : Hid (Row W g' 30 x.cells) := Lib.hid hrow
    have hgW : g < W.heap.size := by have := hI.2.1.1.lt; omega
    by_cases hxi : xi = pre.length
    · have HPX := Lib.hid (zip_snoc' (x := y) hI.1 (by rw [hxn]; exact hxi))
      subst hxi
      obtain ⟨hpl, hxe⟩ := List.getElem?_eq_some_iff.1 hx
      obtain ⟨gu, uc', hue, hgu, hur⟩ := (HUB.out W hI.2.2.2).cell pre.length hpl
      injection hue with hue1 hue2 hue3
      subst hue1 hue3
      rw [hxe] at hur
      have HUR : Hid (∀ W', Below W.heap.size W W' → W'.rangeAt gu (pre.length * 6) x.cells) := Lib.hid fun W' h k v hk => by rw [World.cell?_of_block (h.block gu hgu)]; exact hur k v hk
      obtain ⟨pi, hpi⟩ : ∃ pi, pre.length = pi := ⟨_, rfl⟩
      have HPI := Lib.hid hpi
      unfold II at HI
      rw [hpi] at HUR HI hpl
      have hplI : ¬ (l.length : Int) ≤ (pi : Int) := by omega
      have hplJ : (pi : Int) < (l.length : Int) := by omega
      clear hI hrow hue2 hur hxe hE hBn hlt hx hxr hxn
      rw [hpi]
      clear hpi
      gi_wp2_with fail
      refine round_quiet_lit (fun W' => Below W.heap.size W W') (by kernel_rfl) (by kernel_rfl) (by kernel_rfl) (below_dr (Below.refl _ _) 1) ?_
      refine wpQuiet_yieldsR (.int .i64 (pi : Nat)) (Or.inl ⟨by rfl, fun W' hS => ?ya⟩) ?_
      case ya =>
        go_simp
      try simp only [Act.put, List.setIfInBounds_toArray, List.set_cons_zero, List.set_cons_succ]
      refine wpQuiet_yieldsR (.int .i64 (pi : Nat)) (Or.inl ⟨by rfl, fun W' hS => ?ya⟩) ?_
      case ya =>
        have q0 := (HI.out.2.2.1.2.below hS HI.out.2.2.1.2.lt).cell 0
        simp only [List.getElem?_cons_zero] at q0
        go_simp
      try simp only [Act.put, List.setIfInBounds_toArray, List.set_cons_zero, List.set_cons_succ]
      refine wpQuiet_yieldsR (.bool false) (Or.inl ⟨by rfl, fun W' hS => ?ya⟩) ?_
      case ya =>
        go_simp
      try simp only [Act.put, List.setIfInBounds_toArray, List.set_cons_zero, List.set_cons_succ]
      refine wpQuiet_yieldsR (.bool false) (Or.inl ⟨by rfl, fun W' hS => ?ya⟩) ?_
      case ya =>
        go_simp
      try simp only [Act.put, List.setIfInBounds_toArray, List.set_cons_zero, List.set_cons_succ]
      refine wpQuiet_yieldsR (.int .i64 (pi : Nat)) (Or.inl ⟨by rfl, fun W' hS => ?ya⟩) ?_
      case ya =>
        go_simp
      try simp only [Act.put, List.setIfInBounds_toArray, List.set_cons_zero, List.set_cons_succ]
      refine wpQuiet_yieldsR (.slice (some ⟨gu, 0, none⟩) l.length uc) (Or.inl ⟨by rfl, fun W' hS => ?ya⟩) ?_
      case ya =>
        have q0 := (HI.out.2.1.2.below hS HI.out.2.1.2.lt).cell 0
        simp only [List.getElem?_cons_zero] at q0
        go_simp
      try simp only [Act.put, List.setIfInBounds_toArray, List.set_cons_zero, List.set_cons_succ]
      refine wpQuiet_yieldsR (.int .i64 (l.length : Nat)) (Or.inl ⟨by rfl, fun W' hS => ?ya⟩) ?_
      case ya =>
        go_simp
      try simp only [Act.put, List.setIfInBounds_toArray, List.set_cons_zero, List.set_cons_succ]
      refine wpQuiet_yieldsR (.bool false) (Or.inl ⟨by rfl, fun W' hS => ?ya⟩) ?_
      case ya =>
        go_simp
      try simp only [Act.put, List.setIfInBounds_toArray, List.set_cons_zero, List.set_cons_succ]
      refine wpQuiet_yieldsR (.bool false) (Or.inl ⟨by rfl, fun W' hS => ?ya⟩) ?_
      case ya =>
        go_simp
      try simp only [Act.put, List.setIfInBounds_toArray, List.set_cons_zero, List.set_cons_succ]
      refine wpQuiet_yieldsR (.bool false) (Or.inl ⟨by rfl, fun W' hS => ?ya⟩) ?_
      case ya =>
        go_simp
      try simp only [Act.put, List.setIfInBounds_toArray, List.set_cons_zero, List.set_cons_succ]
      refine wpQuiet_yieldsR (.agg #[.string x.lo, .string x.hi, .string x.acs, .string x.low, .string x.high, .int .i64 x.mode]) (yieldsIf_load_mid (by rfl) 30 (.tmp 8) rfl g' 0 rfl x.cells _ (fun W' h => fun k v hk => by rw [Nat.zero_add]; exact ((HRW.out.below h HRW.out.lt).cell k).trans hk) Tryz.underlying30 rfl (by kernel_rfl)) ?_
      try simp only [Act.put, List.setIfInBounds_toArray, List.set_cons_zero, List.set_cons_succ]
      refine wpQuiet_yieldsR (.slice (some ⟨gu, 0, none⟩) l.length uc) (Or.inl ⟨by rfl, fun W' hS => ?ya⟩) ?_
      case ya =>
        have q0 := (HI.out.2.1.2.below hS HI.out.2.1.2.lt).cell 0
        simp only [List.getElem?_cons_zero] at q0
        go_simp
      try simp only [Act.put, List.setIfInBounds_toArray, List.set_cons_zero, List.set_cons_succ]
      refine wpQuiet_yieldsR (.int .i64 (pi : Nat)) (Or.inl ⟨by rfl, fun W' hS => ?ya⟩) ?_
      case ya =>
        go_simp
      try simp only [Act.put, List.setIfInBounds_toArray, List.set_cons_zero, List.set_cons_succ]
      refine wpQuiet_yieldsR (.pointer (some ⟨gu, pi * 6, none⟩)) (Or.inl ⟨by rfl, fun W' hS => ?ya⟩) ?_
      case ya =>
        go_simp
      try simp only [Act.put, List.setIfInBounds_toArray, List.set_cons_zero, List.set_cons_succ]
      refine wpQuiet_yieldsR (.agg #[.string x.lo, .string x.hi, .string x.acs, .string x.low, .string x.high, .int .i64 x.mode]) (yieldsIf_load_mid (by rfl) 41 (.tmp 29) rfl gu (pi * 6) rfl x.cells _ (fun W' h => HUR.out W' h) Tryz.underlying41 rfl (by kernel_rfl)) ?_
      try simp only [Act.put, List.setIfInBounds_toArray, List.set_cons_zero, List.set_cons_succ]
      refine wpQuiet_yieldsR (.bool false) (Or.inl ⟨by rfl, fun W' hS => ?ya⟩) ?_
      case ya =>
        have hn := rreq_neq x x W'
        rw [decide_eq_true rfl] at hn
        go_simp
      try simp only [Act.put, List.setIfInBounds_toArray, List.set_cons_zero, List.set_cons_succ]
      refine wpQuiet_yieldsR (.bool false) (Or.inl ⟨by rfl, fun W' hS => ?ya⟩) ?_
      case ya =>
        go_simp
      try simp only [Act.put, List.setIfInBounds_toArray, List.set_cons_zero, List.set_cons_succ]
      refine wpQuiet_nil ?_
      intro W9 hW9
      have q0 := (HI.out.2.2.1.2.below hW9 HI.out.2.2.1.2.lt).cell 0
      have f0 := (HI.out.2.2.1.2.below hW9 HI.out.2.2.1.2.lt).frozen 0
      simp only [List.getElem?_cons_zero] at q0
      have HW9 := Lib.hid hW9
      clear hW9
      gi_wp2_with fail
      refine ⟨((below_othersV HW9.out).trans (KeepsOthers.setCell _ _ _)).from _, (Below.heap_setCell _ ⟨b + 5, 0, none⟩ _ g (by show g ≠ b + 5; omega)).trans (HW9.out.block g hgW), HPX.out, ⟨?_, ?_⟩, ⟨?_, ?_⟩, ?_⟩
      · exact (HI.out.2.1.1.below HW9.out HI.out.2.1.1.lt).far (p := ⟨b + 5, 0, none⟩) (by show b ≠ b + 5; omega) _
      · exact (HI.out.2.1.2.below HW9.out HI.out.2.1.2.lt).far (p := ⟨b + 5, 0, none⟩) (by show b + 1 ≠ b + 5; omega) _
      · exact (HI.out.2.2.1.1.below HW9.out HI.out.2.2.1.1.lt).far (p := ⟨b + 5, 0, none⟩) (by show b + 2 ≠ b + 5; omega) _
      · have hr := (HI.out.2.2.1.2.below HW9.out HI.out.2.2.1.2.lt).set 0 (.int .i64 ((pi : Int) + 1))
        rw [show (((pre ++ [y]).length : Nat) : Int) = (pi : Int) + 1 by rw [List.length_append, HPI.out]; rfl]
        exact hr
      · exact (HI.out.2.2.2.trans (HW9.out.mono (Nat.le_of_lt HI.out.2.1.1.lt))).setCell (p := ⟨b + 5, 0, none⟩) (by show b ≤ b + 5; omega) _
    · have HPX := Lib.hid (zip_not (x := y) hlt (by rw [hxn]; exact hxi))
      have hne : ((xi : Int) != (pre.length : Int)) = true := by rw [bne_iff_ne]; omega
      clear hI hrow hE hBn hxi hx hxr hxn
      gi_wp2_with fail
      refine round_quiet_lit (fun W' => Below W.heap.size W W') (by kernel_rfl) (by kernel_rfl) (by kernel_rfl) (below_dr (Below.refl _ _) 1) ?_
      refine wpQuiet_yieldsR (.int .i64 (xi : Nat)) (Or.inl ⟨by rfl, fun W' hS => ?ya⟩) ?_
      case ya =>
        go_simp
      try simp only [Act.put, List.setIfInBounds_toArray, List.set_cons_zero, List.set_cons_succ]
      refine wpQuiet_yieldsR (.int .i64 (pre.length : Nat)) (Or.inl ⟨by rfl, fun W' hS => ?ya⟩) ?_
      case ya =>
        have q0 := (HI.out.2.2.1.2.below hS HI.out.2.2.1.2.lt).cell 0
        simp only [List.getElem?_cons_zero] at q0
        go_simp
      try simp only [Act.put, List.setIfInBounds_toArray, List.set_cons_zero, List.set_cons_succ]
      refine wpQuiet_yieldsR (.bool true) (Or.inl ⟨by rfl, fun W' hS => ?ya⟩) ?_
      case ya =>
        go_simp
      try simp only [Act.put, List.setIfInBounds_toArray, List.set_cons_zero, List.set_cons_succ]
      refine wpQuiet_yieldsR (.bool true) (Or.inl ⟨by rfl, fun W' hS => ?ya⟩) ?_
      case ya =>
        go_simp
      try simp only [Act.put, List.setIfInBounds_toArray, List.set_cons_zero, List.set_cons_succ]
      go_big_quiet_skip
      go_big_quiet_skip
      go_big_quiet_skip
      go_big_quiet_skip
      refine wpQuiet_yieldsR (.bool true) (Or.inl ⟨by rfl, fun W' hS => ?ya⟩) ?_
      case ya =>
        go_simp
      try simp only [Act.put, List.setIfInBounds_toArray, List.set_cons_zero, List.set_cons_succ]
      refine wpQuiet_yieldsR (.bool true) (Or.inl ⟨by rfl, fun W' hS => ?ya⟩) ?_
      case ya =>
        go_simp
      try simp only [Act.put, List.setIfInBounds_toArray, List.set_cons_zero, List.set_cons_succ]
      go_big_quiet_skip
      go_big_quiet_skip
      go_big_quiet_skip
      go_big_quiet_skip
      go_big_quiet_skip
      go_big_quiet_skip
      refine wpQuiet_yieldsR (.bool true) (Or.inl ⟨by rfl, fun W' hS => ?ya⟩) ?_
      case ya =>
        go_simp
      try simp only [Act.put, List.setIfInBounds_toArray, List.set_cons_zero, List.set_cons_succ]
      refine wpQuiet_nil ?_
      intro W9 hW9
      have q0 := (HI.out.2.2.1.1.below hW9 HI.out.2.2.1.1.lt).cell 0
      have f0 := (HI.out.2.2.1.1.below hW9 HI.out.2.2.1.1.lt).frozen 0
      simp only [List.getElem?_cons_zero] at q0
      have HW9 := Lib.hid hW9
      clear hW9
      gi_wp2_with fail
      exact ⟨((below_othersV HW9.out).trans (KeepsOthers.setCell _ _ _)).from _, HPX.out⟩
  case hdone =>
    rintro D ys W hD hys hI hK
    have hyl : ys.length = l.length := by
      have := congrArg List.length hys
      rwa [List.length_map, List.length_zipIdx] at this
    unfold II at hI
    rw [hyl] at hI
    have HI := Lib.hid hI
    have HKD := Lib.hid (And.intro hK hD)
    clear hI hK hD hys hyl hE hBn
    dsimp only
    go_wp2_with fail
    -- REGION
    have HS0 : Hid (IS b D (.slice a l.length cap) (.slice ua l.length uc) l.length w W) := Lib.hid ⟨HI.out.2.1, ⟨HI.out.2.2.1.2, _, HI.out.2.2.1.1⟩, HI.out.2.2.2, HKD.out.1⟩
    refine wp_region_noPanic ?_
    refine wp_region_held_drew (S := fun W' => IS b D (.slice a l.length cap) (.slice ua l.length uc) l.length w W') (by kernel_rfl) HS0.out.dr (fun hHeld => ?_)
    refine wpAnyH_take (i := 0) (oi := { dst := some 35, op := Op.load 3 (Operand.tmp 6), type := 3, pos := "law.go:37", after := #[], guard := none }) (v := ?vvi_0) rfl (by kernel_rfl) (by kernel_rfl) (by kernel_rfl) (fun _ _ _ h => h) (Or.inl ⟨by rfl, ?yyi_0⟩) hHeld ?_
    case vvi_0 => exact .int .i64 (l.length : Nat)
    case yyi_0 =>
      intro W hS
      have q0 := (hS.2.1.1).cell 0
      simp only [List.getElem?_cons_zero] at q0
      go_simp
    try simp only [Act.put, List.setIfInBounds_toArray, List.set_cons_zero, List.set_cons_succ]
    refine wpAnyH_take (i := 1) (oi := { dst := some 36, op := Op.load 28 (Operand.tmp 3), type := 28, pos := "law.go:37", after := #[], guard := none }) (v := ?vvi_1) rfl (by kernel_rfl) (by kernel_rfl) (by kernel_rfl) (fun _ _ _ h => h) (Or.inl ⟨by rfl, ?yyi_1⟩) hHeld ?_
    case vvi_1 => exact .slice ua l.length uc
    case yyi_1 =>
      intro W hS
      have q0 := (hS.1.2).cell 0
      simp only [List.getElem?_cons_zero] at q0
      go_simp
    try simp only [Act.put, List.setIfInBounds_toArray, List.set_cons_zero, List.set_cons_succ]
    refine wpAnyH_take (i := 2) (oi := { dst := some 37, op := Op.call { callee := Callee.builtin Builtin.len, args := #[Operand.tmp 36], argTypes := #[28] }, type := 3, pos := "law.go:37", after := #[{ on := 1, ground := Ground.data }], guard := none }) (v := ?vvi_2) rfl (by kernel_rfl) (by kernel_rfl) (by kernel_rfl) (fun _ _ _ h => h) (Or.inl ⟨by rfl, ?yyi_2⟩) hHeld ?_
    case vvi_2 => exact .int .i64 (l.length : Nat)
    case yyi_2 =>
      intro W hS
      go_simp
    try simp only [Act.put, List.setIfInBounds_toArray, List.set_cons_zero, List.set_cons_succ]
    refine wpAnyH_take (i := 3) (oi := { dst := some 38, op := Op.binOp BinOp.eql 3 (Operand.tmp 35) (Operand.tmp 37) 3, type := 4, pos := "law.go:37", after := #[{ on := 0, ground := Ground.data }, { on := 2, ground := Ground.data }], guard := none }) (v := ?vvi_3) rfl (by kernel_rfl) (by kernel_rfl) (by kernel_rfl) (fun _ _ _ h => h) (Or.inl ⟨by rfl, ?yyi_3⟩) hHeld ?_
    case vvi_3 => exact .bool true
    case yyi_3 =>
      intro W hS
      go_simp
    try simp only [Act.put, List.setIfInBounds_toArray, List.set_cons_zero, List.set_cons_succ]
    refine wpAnyH_take (i := 4) (oi := { dst := some 39, op := Op.move (Operand.tmp 38), type := 4, pos := "law.go:37", after := #[{ on := 3, ground := Ground.data }], guard := none }) (v := ?vvi_4) rfl (by kernel_rfl) (by kernel_rfl) (by kernel_rfl) (fun _ _ _ h => h) (Or.inl ⟨by rfl, ?yyi_4⟩) hHeld ?_
    case vvi_4 => exact .bool true
    case yyi_4 =>
      intro W hS
      go_simp
    try simp only [Act.put, List.setIfInBounds_toArray, List.set_cons_zero, List.set_cons_succ]
    refine wpAnyH_take (i := 5) (oi := { dst := some 40, op := Op.load 27 (Operand.tmp 2), type := 27, pos := "law.go:37", after := #[{ on := 4, ground := Ground.guard }], guard := some (4, true) }) (v := ?vvi_5) rfl (by kernel_rfl) (by kernel_rfl) (by kernel_rfl) (fun _ _ _ h => h) (Or.inl ⟨by rfl, ?yyi_5⟩) hHeld ?_
    case vvi_5 => exact .agg #[.slice a l.length cap]
    case yyi_5 =>
      intro W hS
      have q0 := (hS.1.1).cell 0
      simp only [List.getElem?_cons_zero] at q0
      go_simp
    try simp only [Act.put, List.setIfInBounds_toArray, List.set_cons_zero, List.set_cons_succ]
    refine wpAnyH_take (i := 7) (oi := { dst := some 42, op := Op.load 3 (Operand.tmp 6), type := 3, pos := "law.go:37", after := #[{ on := 4, ground := Ground.guard }], guard := some (4, true) }) (v := ?vvi_7) rfl (by kernel_rfl) (by kernel_rfl) (by kernel_rfl) (fun _ _ _ h => h) (Or.inl ⟨by rfl, ?yyi_7⟩) hHeld ?_
    case vvi_7 => exact .int .i64 (l.length : Nat)
    case yyi_7 =>
      intro W hS
      have q0 := (hS.2.1.1).cell 0
      simp only [List.getElem?_cons_zero] at q0
      go_simp
    try simp only [Act.put, List.setIfInBounds_toArray, List.set_cons_zero, List.set_cons_succ]
    refine wpAnyH_ready (rs := [6]) (by kernel_rfl) (by simp) (AllReadyH.cons (o := { dst := some 41, op := Op.call { callee := Callee.value (Operand.func 20), args := #[Operand.tmp 40], argTypes := #[27] }, type := 3, pos := "law.go:37", after := #[{ on := 5, ground := Ground.data }, { on := 4, ground := Ground.chain }, { on := 4, ground := Ground.guard }], guard := some (4, true) }) rfl (fun K hK => ?_) AllReadyH.nil)
    go_simp
    go_at_call 20
    refine (HLen.out _ (HTB.out _ HS0.out.dr.2.2.1)).mono ?_
    rintro e W8 ⟨rfl, hb8⟩
    have S8 := HS0.out.dr.next hb8
    refine hK.out _ _ S8 (fun hHeld => ?_)
    clear hK K
    try simp only [Act.put, List.setIfInBounds_toArray, List.set_cons_zero, List.set_cons_succ]
    refine wpAnyH_take (i := 8) (oi := { dst := some 43, op := Op.binOp BinOp.eql 3 (Operand.tmp 41) (Operand.tmp 42) 3, type := 4, pos := "law.go:37", after := #[{ on := 6, ground := Ground.data }, { on := 7, ground := Ground.data }, { on := 4, ground := Ground.guard }], guard := some (4, true) }) (v := ?vvi_8) rfl (by kernel_rfl) (by kernel_rfl) (by kernel_rfl) (fun _ _ _ h => h) (Or.inl ⟨by rfl, ?yyi_8⟩) hHeld ?_
    case vvi_8 => exact .bool true
    case yyi_8 =>
      intro W hS
      go_simp
    try simp only [Act.put, List.setIfInBounds_toArray, List.set_cons_zero, List.set_cons_succ]
    refine wpAnyH_take (i := 9) (oi := { dst := some 44, op := Op.pick (Operand.tmp 39) (Operand.tmp 43) (Operand.const (Value.bool false)), type := 4, pos := "law.go:37", after := #[{ on := 4, ground := Ground.data }, { on := 8, ground := Ground.data }], guard := none }) (v := ?vvi_9) rfl (by kernel_rfl) (by kernel_rfl) (by kernel_rfl) (fun _ _ _ h => h) (Or.inl ⟨by rfl, ?yyi_9⟩) hHeld ?_
    case vvi_9 => exact .bool true
    case yyi_9 =>
      intro W hS
      go_simp
    try simp only [Act.put, List.setIfInBounds_toArray, List.set_cons_zero, List.set_cons_succ]
    refine wpAnyH_ready (rs := [10]) (by kernel_rfl) (by simp) (AllReadyH.cons (o := { dst := none, op := Op.store 4 (Operand.tmp 4) (Operand.tmp 44), type := 0, pos := "law.go:37", after := #[{ on := 9, ground := Ground.data }, { on := 6, ground := Ground.chain }, { on := 0, ground := Ground.phase }, { on := 1, ground := Ground.phase }, { on := 2, ground := Ground.phase }, { on := 3, ground := Ground.phase }, { on := 4, ground := Ground.phase }, { on := 5, ground := Ground.phase }, { on := 6, ground := Ground.phase }, { on := 7, ground := Ground.phase }, { on := 8, ground := Ground.phase }, { on := 9, ground := Ground.phase }], guard := none }) rfl (fun K hK => ?_) AllReadyH.nil)
    obtain ⟨v2, q2⟩ := S8.2.1.2
    have e2 := q2.cell 0
    have f2 := q2.frozen 0
    simp only [List.getElem?_cons_zero] at e2
    go_simp
    have S9 := S8.put (by have := HKD.out.2; omega) (.bool true)
    refine hK.out _ _ S9 (fun hHeld => ?_)
    clear hK K
    try simp only [Act.put, List.setIfInBounds_toArray, List.set_cons_zero, List.set_cons_succ]
    refine wpAnyH_done (by kernel_rfl) ?_ _
    refine NoPanic.normal ?_
    have r2 := q2.set 0 (.bool true)
    clear q2 e2 f2
    go_wp2
    refine ⟨by simp, .inl ⟨_, _, rfl, run_takeDeferred S9.2.2.2, ?_⟩⟩
    have hDb : w.heap.size ≤ D := by have := HKD.out.2; rw [hb]; omega
    have r2b := (World.putObj_heap_other (r := D) (o := .deferred none) (by have := HKD.out.2; omega)).trans r2
    exact ⟨_, results_boolR rfl _ _ (b + 2) true rfl r2b, rfl, (show Below w.heap.size w _ by rw [hb]; exact S9.2.2.1).trans (belowK_b (w := w) (Nat.le_refl _) _ D _ _ hDb S9.2.2.2 rfl rfl)⟩
    -- ENDREGION
  case hstop =>
    rintro D c pre W hD hp h hK
    exact absurd hp h
end Go.Proofs.YtldjnegoefdadaaGreatDoor

namespace Go.Proofs.YtldjnegoefdadaaGreatDoor
open Go.RowKit Go.Shelf
set_option linter.unusedVariables false
set_option linter.unusedSimpArgs false

set_option maxHeartbeats 400000 in
theorem IsL_any (s : ByteArray) (w : World) (hs : s.size ≤ 9223372036854775807) :
    Calls Tryz.prog 61 #[.string s] w fun e w' => e = .returned (.bool (isD s)) ∧ w = w' := by
  go_enter Tryz.func61, Tryz.ntmps61
  go_wp2
  go_loop [6] (fun i => ∃ j : Nat, j ≤ s.size ∧ i = .int .i64 j ∧ Hid (∀ i, i < j → isDig (s.data.toList.getD i 0) = true)) (fun i => s.size - (intOf i).toNat)
  case atStart => exact ⟨0, Nat.zero_le _, rfl, fun i hi => by omega⟩
  case round =>
    obtain ⟨j, hj, rfl, HJ⟩ := hrel
    by_cases hlt : j < s.size
    · cases hd : isDig s[j] with
      | true =>
        have hd2 := (isDig_iff _).1 hd
        have h48 : (48 : Int) ≤ ((s[j]).toNat : Int) := by omega
        have h57 : ((s[j]).toNat : Int) ≤ 57 := by omega
        have hnext : Hid (∀ i, i < j + 1 → isDig (s.data.toList.getD i 0) = true) := by
          intro i hi
          rcases (by omega : i < j ∨ i = j) with h1 | h1
          · exact HJ.out i h1
          · rw [h1, get_d hlt]; exact hd
        clear hd hd2
        go_wp2
        go_round
        case rel => exact ⟨j + 1, by omega, by go_num, hnext⟩
        case measure => simp [intOf]; omega
      | false =>
        have hr : Hid (isD s = false) := isD_no hlt hd
        have hd2 : ¬ (48 ≤ (s[j]).toNat ∧ (s[j]).toNat ≤ 57) := fun h => by rw [(isDig_iff _).2 h] at hd; cases hd
        clear hd
        by_cases h48 : ((s[j]).toNat : Int) < 48
        · clear hd2
          go_wp2
          go_ret
          exact ⟨ret_boolE hr.out.symm, rfl⟩
        · have h57 : (57 : Int) < ((s[j]).toNat : Int) := by omega
          clear hd2
          go_wp2
          go_ret
          exact ⟨ret_boolE hr.out.symm, rfl⟩
    · have he := toList_empty s
      by_cases h0 : 0 < s.size
      · have hr : Hid (isD s = true) := isD_all h0 (fun i hi => HJ.out i (by omega))
        rw [decide_eq_true h0] at he
        go_wp2
        go_ret
        exact ⟨ret_boolE (by rw [hr.out]), rfl⟩
      · have hr : Hid (isD s = false) := isD_empty h0
        rw [decide_eq_false h0] at he
        go_wp2
        go_ret
        exact ⟨ret_boolE (by rw [hr.out]), rfl⟩

set_option maxHeartbeats 400000 in
theorem refIsL_any (s : ByteArray) (w : World) (hs : s.size ≤ 9223372036854775807) :
    Calls Tryz.prog 67 #[.string s] w fun e w' => e = .returned (.bool (isD s)) ∧ w = w' := by
  go_enter Tryz.func67, Tryz.ntmps67
  go_wp2
  go_loop [3] (fun i => ∃ j : Nat, j ≤ s.size ∧ i = .int .i64 j ∧ Hid (∀ i, i < j → isDig (s.data.toList.getD i 0) = true)) (fun i => s.size - (intOf i).toNat)
  case atStart => exact ⟨0, Nat.zero_le _, rfl, fun i hi => by omega⟩
  case round =>
    obtain ⟨j, hj, rfl, HJ⟩ := hrel
    by_cases hlt : j < s.size
    · cases hd : isDig s[j] with
      | true =>
        have hd2 := (isDig_iff _).1 hd
        have h48 : (48 : Int) ≤ ((s[j]).toNat : Int) := by omega
        have h57 : ((s[j]).toNat : Int) ≤ 57 := by omega
        have hnext : Hid (∀ i, i < j + 1 → isDig (s.data.toList.getD i 0) = true) := by
          intro i hi
          rcases (by omega : i < j ∨ i = j) with h1 | h1
          · exact HJ.out i h1
          · rw [h1, get_d hlt]; exact hd
        clear hd hd2
        go_wp2
        go_round
        case rel => exact ⟨j + 1, by omega, by go_num, hnext⟩
        case measure => simp [intOf]; omega
      | false =>
        have hr : Hid (isD s = false) := isD_no hlt hd
        have hd2 : ¬ (48 ≤ (s[j]).toNat ∧ (s[j]).toNat ≤ 57) := fun h => by rw [(isDig_iff _).2 h] at hd; cases hd
        clear hd
        by_cases h48 : ((s[j]).toNat : Int) < 48
        · clear hd2
          go_wp2
          go_ret
          exact ⟨ret_boolE hr.out.symm, rfl⟩
        · have h57 : (57 : Int) < ((s[j]).toNat : Int) := by omega
          clear hd2
          go_wp2
          go_ret
          exact ⟨ret_boolE hr.out.symm, rfl⟩
    · by_cases h0 : 0 < s.size
      · have hr : Hid (isD s = true) := isD_all h0 (fun i hi => HJ.out i (by omega))
        have h0' : (0 : Int) < (s.size : Int) := by omega
        go_wp2
        go_ret
        exact ⟨ret_boolE (by rw [hr.out]), rfl⟩
      · have hr : Hid (isD s = false) := isD_empty h0
        have h0' : ¬ (0 : Int) < (s.size : Int) := by omega
        go_wp2
        go_ret
        exact ⟨ret_boolE (by rw [hr.out]), rfl⟩


theorem hasB_big (r : RG) (card : ByteArray) (h1 : r.lo.size ≤ 1000) (h2 : ¬ card.size ≤ 1000) : hasB r card = false := by
  unfold hasB
  rw [decide_eq_false (show ¬ card.size = r.lo.size by omega)]
  simp
set_option maxHeartbeats 1000000 in
theorem HasL_any (r : RG) (hr : r.light) (card : ByteArray) (hcard : card.size ≤ 9223372036854775807) (w : World) :
    Calls Tryz.prog 36 #[.agg #[.string r.lo, .string r.hi, .string r.acs, .string r.low, .string r.high, .int .i64 r.mode], .string card] w fun e w' => e = .returned (.bool (hasB r card)) ∧ Below w.heap.size w w' := by
  by_cases hbig : card.size ≤ 1000
  · exact Has_any r hr card hbig w
  · have HD := Lib.hid (fun W => IsL_any card W hcard)
    rw [hasB_big r card hr.1 hbig]
    have hsq : ((card.size : Int) == (r.lo.size : Int)) = false := by rw [beq_eq_false_iff_ne]; have := hr.1; omega
    obtain ⟨d, hd⟩ : ∃ n, isD card = n := ⟨_, rfl⟩
    rw [hd] at HD
    have H0 := Lib.hid (Row.self w #[.string r.lo, .string r.hi, .string r.acs, .string r.low, .string r.high, .int .i64 r.mode] 30)
    have HB0 := Lib.hid ((Below.refl w.heap.size w).alloc (Nat.le_refl _) (.cells #[.string r.lo, .string r.hi, .string r.acs, .string r.low, .string r.high, .int .i64 r.mode] 30))
    clear hd hr hbig
    go_enter Tryz.func36, Tryz.ntmps36
    go_wp2_with fail
    generalize w.alloc (.cells #[.string r.lo, .string r.hi, .string r.acs, .string r.low, .string r.high, .int .i64 r.mode] 30) = w0 at H0 HB0 ⊢
    have p0 := H0.out.cell 0
    simp only [List.getElem?_cons_zero, List.getElem?_cons_succ] at p0
    refine (HD.out _).mono ?_
    rintro e w1 ⟨rfl, h1⟩
    subst h1
    cases d with
    | false =>
      go_wp2_with fail
      go_ret
      exact ⟨rfl, HB0.out⟩
    | true =>
      go_wp2_with fail
      go_ret
      exact ⟨rfl, HB0.out⟩
set_option maxHeartbeats 1000000 in
theorem refHasL_any (r : RG) (hr : r.light) (hlo : isD r.lo = true) (hhi : isD r.hi = true) (hse : r.lo.size = r.hi.size) (card : ByteArray) (hcard : card.size ≤ 9223372036854775807) (w : World) :
    Calls Tryz.prog 46 #[.agg #[.string r.lo, .string r.hi, .string r.acs, .string r.low, .string r.high, .int .i64 r.mode], .string card] w fun e w' => e = .returned (.bool (hasB r card)) ∧ Below w.heap.size w w' := by
  by_cases hbig : card.size ≤ 1000
  · exact refHas18_any r hr hlo hhi hse card hbig w
  · have HD := Lib.hid (fun W => refIsL_any card W hcard)
    rw [hasB_big r card hr.1 hbig]
    have hsq : ((card.size : Int) == (r.lo.size : Int)) = false := by rw [beq_eq_false_iff_ne]; have := hr.1; omega
    obtain ⟨d, hd⟩ : ∃ n, isD card = n := ⟨_, rfl⟩
    rw [hd] at HD
    have H0 := Lib.hid (Row.self w #[.string r.lo, .string r.hi, .string r.acs, .string r.low, .string r.high, .int .i64 r.mode] 41)
    have HB0 := Lib.hid ((Below.refl w.heap.size w).alloc (Nat.le_refl _) (.cells #[.string r.lo, .string r.hi, .string r.acs, .string r.low, .string r.high, .int .i64 r.mode] 41))
    clear hd hr hbig hse hlo hhi
    go_enter Tryz.func46, Tryz.ntmps46
    go_wp2_with fail
    generalize w.alloc (.cells #[.string r.lo, .string r.hi, .string r.acs, .string r.low, .string r.high, .int .i64 r.mode] 41) = w0 at H0 HB0 ⊢
    have p0 := H0.out.cell 0
    simp only [List.getElem?_cons_zero, List.getElem?_cons_succ] at p0
    refine (HD.out _).mono ?_
    rintro e w1 ⟨rfl, h1⟩
    subst h1
    cases d with
    | false =>
      go_wp2_with fail
      go_ret
      exact ⟨rfl, HB0.out⟩
    | true =>
      go_wp2_with fail
      go_ret
      exact ⟨rfl, HB0.out⟩
section
attribute [local go_sem] Oper.semAt_some
set_option maxRecDepth 100000 in
set_option maxHeartbeats 4000000 in
theorem FindL_any (l : List RG) (hl : ∀ r ∈ l, r.light) (h64 : l.length ≤ 64) (k : ByteArray) (hk : k.size ≤ 9223372036854775807) (s : Value) (w : World) (hT : TBL w s l) :
    Calls Tryz.prog 17 #[.agg #[s], .string k] w (FindPost l k w) := by
  obtain ⟨a, cap, rfl⟩ := hT.slice
  have HAll := Lib.hid (fun W => TAll_any a l.length cap W)
  have HT := Lib.hid hT
  clear hT
  refine (callsIn_wide (n := 6)).1 ?_
  refine callsIn_of_wp_marks Tryz.func17 rfl trivial ?_ rfl
  simp only [Tryz.ntmps17, List.size_toArray, List.length_cons, List.length_nil, Nat.reduceAdd, Nat.reduceSub, Array.replicate_succ, Array.replicate_zero, List.push_toArray, List.append_toArray, List.nil_append, List.cons_append]
  rw [wpIn_wide]
  obtain ⟨b, hb⟩ : ∃ b, w.heap.size = b := ⟨_, rfl⟩
  have HB := Lib.hid hb
  go_wp2_with fail
  obtain ⟨W0, hW0⟩ : ∃ W, (((w.alloc (.cells #[.slice a l.length cap] 27)).alloc (.cells #[.string k] 9)).alloc (.cells #[.string ⟨#[]⟩, .string ⟨#[]⟩, .string ⟨#[]⟩, .string ⟨#[]⟩, .string ⟨#[]⟩, .int .i64 0] 30)).alloc (.cells #[.bool false] 4) = W := ⟨_, rfl⟩
  rw [hW0]
  have hI0 : FI b (.slice a l.length cap) l k w [] W0 := by
    rw [← hW0, ← hb]
    have z1 : (w.alloc (.cells #[.slice a l.length cap] 27)).heap.size = w.heap.size + 1 := by simp
    have z2 : ((w.alloc (.cells #[.slice a l.length cap] 27)).alloc (.cells #[.string k] 9)).heap.size = w.heap.size + 2 := by simp
    have z3 : (((w.alloc (.cells #[.slice a l.length cap] 27)).alloc (.cells #[.string k] 9)).alloc (.cells #[.string ⟨#[]⟩, .string ⟨#[]⟩, .string ⟨#[]⟩, .string ⟨#[]⟩, .string ⟨#[]⟩, .int .i64 0] 30)).heap.size = w.heap.size + 3 := by simp
    refine ⟨fun x hx => absurd hx (by simp), ⟨(((Row.self w _ _).alloc _).alloc _).alloc _, ?_⟩, ⟨?_, ?_⟩, ((((Below.refl _ _).alloc (Nat.le_refl _) _).alloc (by simp) _).alloc (by simp; omega) _).alloc (by simp; omega) _⟩
    · rw [← z1]; exact ((Row.self _ _ _).alloc _).alloc _
    · rw [← z2]; exact (Row.self _ _ _).alloc _
    · rw [← z3]; exact Row.self _ _ _
  have HI0 := Lib.hid hI0
  clear hI0 hW0
  have HTB : Hid (∀ W, Below b w W → TBL W (.slice a l.length cap) l) := Lib.hid fun W h => HT.out.below (by rw [hb]; exact h)
  refine (HAll.out _).mono ?_
  rintro e w2 ⟨rfl, rfl⟩
  go_wp2_with fail
  obtain ⟨c0, hc0⟩ : ∃ c, W0.heap.size = c := ⟨_, rfl⟩
  have hlt2 : b + 3 < W0.heap.size := HI0.out.2.2.1.2.lt
  rw [hc0] at hlt2 ⊢
  have B3 : Below W0.heap.size W0 ((W0.alloc (.cells #[.slice a l.length cap] 27)).alloc (.cells #[.slice a l.length cap] 25)) := ((Below.refl _ _).alloc (Nat.le_refl _) _).alloc (by simp) _
  have HI3 := Lib.hid (HI0.out.below B3)
  have hBn : Row ((W0.alloc (.cells #[.slice a l.length cap] 27)).alloc (.cells #[.slice a l.length cap] 25)) (c0 + 1) 25 [.slice a l.length cap] := by
    rw [show c0 + 1 = (W0.alloc (.cells #[.slice a l.length cap] 27)).heap.size by simp [hc0]]
    exact Row.self _ _ _
  have hz3 : c0 + 1 < ((W0.alloc (.cells #[.slice a l.length cap] 27)).alloc (.cells #[.slice a l.length cap] 25)).heap.size := hBn.lt
  obtain ⟨w3, hw3⟩ : ∃ W, (W0.alloc (.cells #[.slice a l.length cap] 27)).alloc (.cells #[.slice a l.length cap] 25) = W := ⟨_, rfl⟩
  rw [hw3] at HI3 hBn hz3 ⊢
  clear B3 hw3 HI0
  have hel : ∃ g, g ≤ b ∧ ElemsAt w3 g a l := by
    rcases (HTB.out _ HI3.out.2.2.2).form with ⟨h1, _⟩ | ⟨g, cap', cur, h1, h2, _, _, _, h6⟩
    · exact ⟨b, Nat.le_refl _, _, _, _, HI3.out.2.1.1, Or.inl h1⟩
    · injection h1 with h1 _ _
      refine ⟨g, ?_, cur, _, _, h2, Or.inr ⟨h1, h6⟩⟩
      rcases HT.out.form with ⟨_, h3⟩ | ⟨g', _, _, h3, h4, _⟩
      · injection h3 with h3; rw [h1] at h3; cases h3
      · injection h3 with h3 _ _
        rw [h1] at h3
        injection h3 with h3
        injection h3 with h3
        have := (Array.getElem?_eq_some_iff.1 h4).1
        omega
  obtain ⟨g, hgb, hE⟩ := hel
  rw [← wpIn_wide (n := 6)]
  refine' wpIn_rangeFunc_ownH rfl (by omega) (gf := 85) (lb := #[.pointer (some ⟨c0 + 1, 0, none⟩)]) rfl trivial (enters_of Tryz.func85 (by kernel_rfl) rfl)
    (All_stops 5 (by omega) (c0 + 1) g a cap l h64 w3 hBn hE) keepsA_t (keepsA_b (by omega)) (Below.refl _ _) (fun _ => rfl)
    (FI b (.slice a l.length cap) l k w)
    (FX b l k w)
    (FI_own b _ l k w _ (by omega) (by omega))
    (fun c => FX_own b l k w c _ (by omega) (by omega))
    HI3.out
    (fun x a' W => ∃ g', (a' = { tmps := #[Value.agg #[Value.slice a l.length cap], Value.string k,
      Value.pointer (some ⟨b, 0, none⟩), Value.pointer (some ⟨b + 1, 0, none⟩), Value.pointer (some ⟨b + 1 + 1, 0, none⟩), Value.pointer (some ⟨b + 1 + 1 + 1, 0, none⟩), undef, Value.pointer (some ⟨g', 0, none⟩),
      Value.agg #[Value.slice a l.length cap],
      Value.func (Fn.func 85) #[] #[Value.pointer (some ⟨c0 + 1, 0, none⟩)], .int .i64 (x.1.2 : Nat), .agg #[.string x.1.1.lo, .string x.1.1.hi, .string x.1.1.acs, .string x.1.1.low, .string x.1.1.high, .int .i64 x.1.1.mode],
      undef, undef, undef, undef, undef], defers := [] } ∧ b + 3 < g') ∧ Row W g' 30 [.string x.1.1.lo, .string x.1.1.hi, .string x.1.1.acs, .string x.1.1.low, .string x.1.1.high, .int .i64 x.1.1.mode])
    (fun x a' => ax_ownV _) ?hassign ?hbody ?hdone ?hstop
  case hassign =>
    rintro l' pre x W K hI hK
    have hbW : b + 3 < W.heap.size := hI.2.2.1.2.lt
    dsimp only [encA]
    gi_wp2
    have ha : Below W.heap.size W (W.alloc (.cells #[.string x.1.1.lo, .string x.1.1.hi, .string x.1.1.acs, .string x.1.1.low, .string x.1.1.high, .int .i64 x.1.1.mode] 30)) := (Below.refl _ _).alloc (Nat.le_refl _) _
    exact hK _ _ ((below_othersV ha).from _) (ha.block g (by omega)) (hI.below ha) ⟨W.heap.size, ⟨rfl, hbW⟩, Row.self W _ _⟩
  case hbody =>
    rintro l' pre x a' W hl' hrec hI ⟨g', ⟨rfl, hbg⟩, hrow⟩ hlt
    obtain ⟨⟨x, xi⟩, hx⟩ := x
    have HA := Lib.hid (fun W => HasL_any x (hl x hx) k hk W)
    obtain ⟨ap, hap⟩ : ∃ ap, hasB x k = ap := ⟨_, rfl⟩
    rw [hap] at HA
    have HAP := Lib.hid hap
    have q0 := hrow.cell 0
    have q1 := hrow.cell 1
    have q2 := hrow.cell 2
    have q3 := hrow.cell 3
    have q4 := hrow.cell 4
    have q5 := hrow.cell 5
    have p0 := hI.2.1.2.cell 0
    simp only [List.getElem?_cons_zero, List.getElem?_cons_succ] at p0 q0 q1 q2 q3 q4 q5
    have HI := Lib.hid hI
    have HRW := Lib.hid hrow
    have hgW : g < W.heap.size := by have := hI.2.1.1.lt; omega
    clear hI hrow hap hE hBn
    dsimp only
    gi_wp2_with fail
    refine ⟨trivial, (CallsIn.inRound l' (callsIn_wide.2 (HA.out _))).mono ?_⟩
    rintro e w4 ⟨rfl, hb4⟩
    have HI4 := Lib.hid (HI.out.below hb4)
    have HB4 := Lib.hid hb4
    have HRW4 := Lib.hid (HRW.out.below hb4 HRW.out.lt)
    clear hb4 p0 q0 q1 q2 q3 q4 q5
    cases ap with
    | false =>
      gi_wp2
      refine ⟨(below_othersV HB4.out).from _, HB4.out.block g hgW, ?_, HI4.out.2⟩
      intro y hy
      rcases List.mem_append.1 hy with hy | hy
      · exact HI4.out.1 y hy
      · rw [List.mem_singleton] at hy
        subst hy
        exact HAP.out
    | true =>
      have q0 := HRW4.out.cell 0
      have q1 := HRW4.out.cell 1
      have q2 := HRW4.out.cell 2
      have q3 := HRW4.out.cell 3
      have q4 := HRW4.out.cell 4
      have q5 := HRW4.out.cell 5
      have d0 := HI4.out.2.2.1.1.cell 0
      have d1 := HI4.out.2.2.1.1.cell 1
      have d2 := HI4.out.2.2.1.1.cell 2
      have d3 := HI4.out.2.2.1.1.cell 3
      have d4 := HI4.out.2.2.1.1.cell 4
      have d5 := HI4.out.2.2.1.1.cell 5
      have f0 := HI4.out.2.2.1.1.frozen 0
      have f1 := HI4.out.2.2.1.1.frozen 1
      have f2 := HI4.out.2.2.1.1.frozen 2
      have f3 := HI4.out.2.2.1.1.frozen 3
      have f4 := HI4.out.2.2.1.1.frozen 4
      have f5 := HI4.out.2.2.1.1.frozen 5
      have e0 := HI4.out.2.2.1.2.cell 0
      have e1 := HI4.out.2.2.1.2.frozen 0
      simp only [List.getElem?_cons_zero, List.getElem?_cons_succ] at q0 q1 q2 q3 q4 q5 d0 d1 d2 d3 d4 d5 e0
      gi_wp2
      obtain ⟨r2, r3, hB⟩ := find_put x true rfl HI4.out.2.2.1.1 ⟨_, HI4.out.2.2.1.2⟩ HI4.out.2.2.2
      exact ⟨((below_othersV HB4.out).trans ((KeepsOthers.setCell _ _ _).trans ((KeepsOthers.setCell _ _ _).trans ((KeepsOthers.setCell _ _ _).trans ((KeepsOthers.setCell _ _ _).trans ((KeepsOthers.setCell _ _ _).trans ((KeepsOthers.setCell _ _ _).trans (KeepsOthers.setCell _ _ _)))))))).from _, ⟨rfl, pre, _, rfl, HI4.out.1, HAP.out, r2⟩, r3, hB⟩
  case hdone =>
    rintro D ys W hD hys hI hK
    have hFN := Lib.hid (find_none hys hI.1)
    have d0 := hI.2.2.1.1.cell 0
    have d1 := hI.2.2.1.1.cell 1
    have d2 := hI.2.2.1.1.cell 2
    have d3 := hI.2.2.1.1.cell 3
    have d4 := hI.2.2.1.1.cell 4
    have d5 := hI.2.2.1.1.cell 5
    have f0 := hI.2.2.1.1.frozen 0
    have f1 := hI.2.2.1.1.frozen 1
    have f2 := hI.2.2.1.1.frozen 2
    have f3 := hI.2.2.1.1.frozen 3
    have f4 := hI.2.2.1.1.frozen 4
    have f5 := hI.2.2.1.1.frozen 5
    have e0 := hI.2.2.1.2.cell 0
    have e1 := hI.2.2.1.2.frozen 0
    simp only [List.getElem?_cons_zero, List.getElem?_cons_succ] at d0 d1 d2 d3 d4 d5 e0
    have HI := Lib.hid hI
    have HKD := Lib.hid (And.intro hK hD)
    clear hI hK hD hys hE hBn
    dsimp only
    go_wp2_with fail
    obtain ⟨r2, r3, hB⟩ := find_put zRG false rfl HI.out.2.2.1.1 ⟨_, HI.out.2.2.1.2⟩ HI.out.2.2.2
    have hDb : w.heap.size ≤ D := by have := HKD.out.2; rw [hb]; omega
    have hDk : D ≠ b + 2 ∧ D ≠ b + 3 := by have := HKD.out.2; exact ⟨by omega, by omega⟩
    have hKx : (((((((W.setCell ⟨b + 2, 0, none⟩ (.string zRG.lo)).setCell ⟨b + 2, 1, none⟩ (.string zRG.hi)).setCell ⟨b + 2, 2, none⟩ (.string zRG.acs)).setCell ⟨b + 2, 3, none⟩ (.string zRG.low)).setCell ⟨b + 2, 4, none⟩ (.string zRG.high)).setCell ⟨b + 2, 5, none⟩ (.int .i64 zRG.mode)).setCell ⟨b + 3, 0, none⟩ (.bool false)).heap[D]? = some (.deferred (some [])) := by
      refine (Below.heap_setCell _ ⟨b + 3, 0, none⟩ _ D hDk.2).trans ?_
      refine (Below.heap_setCell _ ⟨b + 2, 5, none⟩ _ D hDk.1).trans ?_
      refine (Below.heap_setCell _ ⟨b + 2, 4, none⟩ _ D hDk.1).trans ?_
      refine (Below.heap_setCell _ ⟨b + 2, 3, none⟩ _ D hDk.1).trans ?_
      refine (Below.heap_setCell _ ⟨b + 2, 2, none⟩ _ D hDk.1).trans ?_
      refine (Below.heap_setCell _ ⟨b + 2, 1, none⟩ _ D hDk.1).trans ?_
      refine (Below.heap_setCell _ ⟨b + 2, 0, none⟩ _ D hDk.1).trans ?_
      exact HKD.out.1
    have r2a := (World.putObj_heap_other (r := D) (o := .deferred none) (by omega)).trans r2
    have r3a := (World.putObj_heap_other (r := D) (o := .deferred none) (by omega)).trans r3
    refine ⟨by simp, .inl ⟨_, _, rfl, run_takeDeferred hKx, ?_⟩⟩
    exact ⟨_, results_find rfl _ _ (b + 2) (b + 3) zRG false rfl rfl r2a r3a, (show Below w.heap.size w _ by rw [hb]; exact hB).trans (belowK_b (w := w) (Nat.le_refl _) _ D _ _ hDb hKx rfl rfl), by rw [hFN.out]; rfl⟩
  case hstop =>
    rintro D c pre W hD hp ⟨⟨rfl, q, x, rfl, hq, hx, h2⟩, h3, hB⟩ hK
    have hF := find_of_pre hp hq hx
    rw [wpIn_wide]
    dsimp only
    go_wp2
    have hDb : w.heap.size ≤ D := by rw [hb]; omega
    have r2 : Row (W.putObj D (.deferred none)) (b + 2) 30 x.1.1.cells := (World.putObj_heap_other (o := .deferred none) (by omega)).trans h2
    have r3 : Row (W.putObj D (.deferred none)) (b + 3) 4 [.bool true] := (World.putObj_heap_other (o := .deferred none) (by omega)).trans h3
    refine ⟨by simp, .inl ⟨_, _, rfl, run_takeDeferred hK, ?_⟩⟩
    exact ⟨_, results_find rfl _ _ _ _ _ _ rfl rfl r2 r3, (show Below w.heap.size w W by rw [hb]; exact hB).trans (belowK_b (w := w) (Nat.le_refl _) _ D _ _ hDb hK rfl rfl), by rw [hF]; rfl⟩
end
set_option maxRecDepth 100000 in
set_option maxHeartbeats 4000000 in
theorem refFindL_any (t : List RG) (hg : Good t) (hl : ∀ r ∈ t, r.light) (h64 : t.length ≤ 64) (k : ByteArray) (hk : k.size ≤ 9223372036854775807) (s : Value) (w : World) (hT : RTB 0 w s t) :
    Calls Tryz.prog 18 #[s, .string k] w fun e w' => Below w.heap.size w w' ∧ ∃ i : Int, e = .returned (.int .i64 i) ∧ ((i = -1 ∧ findL t k = none) ∨ ∃ (j : Nat) (h : j < t.length), i = j ∧ findL t k = some t[j]) := by
  obtain ⟨a, cap, rfl⟩ := hT.slice
  obtain ⟨b, hb⟩ : ∃ b, w.heap.size = b := ⟨_, rfl⟩
  have HT : Hid (∀ W, Below b w W → RTB 0 W (.slice a t.length cap) t) := Lib.hid fun W h => hT.below (by rw [hb]; exact h)
  have HB := Lib.hid hb
  have HHas : Hid (∀ x ∈ t, ∀ W, Calls Tryz.prog 46 #[.agg #[.string x.lo, .string x.hi, .string x.acs, .string x.low, .string x.high, .int .i64 x.mode], .string k] W fun e w' => e = .returned (.bool (hasB x k)) ∧ Below W.heap.size W w') := Lib.hid fun x hx W => by
    obtain ⟨h1, h2, h3⟩ := chk_zero x (hg.1 x hx)
    exact refHasL_any x (hl x hx) h1 h2 h3 k hk W
  clear hT hg hl
  go_enter Tryz.func18, Tryz.ntmps18
  go_wp2
  go_loopw [9] (fun i wr => ∃ (j : Nat), j ≤ t.length ∧ i = .int .i64 j ∧ Hid ((∀ i (h : i < t.length), i < j → hasB t[i] k = false) ∧ Below b w wr)) (fun i _ => t.length - (intOf i).toNat)
  case atStart => exact ⟨0, Nat.zero_le _, rfl, Lib.hid ⟨fun i h hi => absurd hi (Nat.not_lt_zero i), by rw [← hb]; exact Below.refl _ _⟩⟩
  case round =>
    obtain ⟨j, hj, rfl, HW⟩ := hrel
    by_cases hlt : j < t.length
    · have hltI : (j : Int) < (t.length : Int) := by omega
      obtain ⟨g, cap', he, hg, hrng⟩ := (HT.out _ HW.out.2).cell j hlt
      injection he with he1 he2 he3
      subst he1 he3
      have p0 := hrng 0 _ rfl
      have p1 := hrng 1 _ rfl
      have p2 := hrng 2 _ rfl
      have p3 := hrng 3 _ rfl
      have p4 := hrng 4 _ rfl
      have p5 := hrng 5 _ rfl
      rw [Nat.add_zero] at p0
      have HH := Lib.hid (HHas.out t[j] (List.getElem_mem hlt))
      have HF : Hid (hasB t[j] k = true → findL t k = some t[j]) := Lib.hid fun h => by
        unfold findL
        rw [List.find?_eq_some_iff_getElem]
        refine ⟨h, j, hlt, rfl, fun i hi => ?_⟩
        rw [HW.out.1 i (by omega) hi]; rfl
      have HN : Hid (hasB t[j] k = false → ∀ i (h : i < t.length), i < j + 1 → hasB t[i] k = false) := Lib.hid fun h i hi hij => by
        by_cases hij2 : i = j
        · subst hij2; exact h
        · exact HW.out.1 i hi (by omega)
      obtain ⟨x, hx⟩ : ∃ x, t[j] = x := ⟨_, rfl⟩
      have HX := Lib.hid hx
      rw [hx] at p0 p1 p2 p3 p4 p5 HH HF HN
      clear hrng hx
      have hbz : b ≤ wr.heap.size := by rw [← HB.out]; exact (HW.out.2.mono (Nat.le_of_eq HB.out)).size
      obtain ⟨hs, hhs⟩ : ∃ q, hasB x k = q := ⟨_, rfl⟩
      rw [hhs] at HH HF HN
      clear hhs
      go_wp2_with fail
      have B2 : Hid (Below b w (wr.alloc (.cells #[.string x.lo, .string x.hi, .string x.acs, .string x.low, .string x.high, .int .i64 x.mode] 41))) := Lib.hid (HW.out.2.alloc hbz _)
      have hz2 : b ≤ (wr.alloc (.cells #[.string x.lo, .string x.hi, .string x.acs, .string x.low, .string x.high, .int .i64 x.mode] 41)).heap.size := by rw [World.size_alloc]; omega
      generalize wr.alloc (.cells #[.string x.lo, .string x.hi, .string x.acs, .string x.low, .string x.high, .int .i64 x.mode] 41) = w2 at B2 hz2 ⊢
      refine (HH.out _).mono ?_
      rintro e w3 ⟨rfl, hb3⟩
      have B3 := Lib.hid (B2.out.trans (hb3.mono hz2))
      clear hb3 p0 p1 p2 p3 p4 p5
      cases hs with
      | true =>
        go_wp2
        try rw [Exit.noGoto_ret]
        go_ret
        exact ⟨by rw [HB.out]; exact B3.out, j, rfl, Or.inr ⟨j, hlt, rfl, by rw [HX.out]; exact HF.out trivial⟩⟩
      | false =>
        go_wp2
        go_roundw
        case rel => exact ⟨j + 1, by omega, by go_num, Lib.hid ⟨HN.out trivial, B3.out⟩⟩
        case measure => simp [intOf]; omega
    · have hltI : ¬ (j : Int) < (t.length : Int) := by omega
      go_wp2
      go_ret
      refine ⟨by first | exact HW.out.2 | (rw [HB.out]; exact HW.out.2), -1, rfl, Or.inl ⟨rfl, ?_⟩⟩
      unfold findL
      rw [List.find?_eq_none]
      intro x hx
      obtain ⟨i, hi, rfl⟩ := List.getElem_of_mem hx
      rw [HW.out.1 i hi (by omega)]; decide
end Go.Proofs.YtldjnegoefdadaaGreatDoor
