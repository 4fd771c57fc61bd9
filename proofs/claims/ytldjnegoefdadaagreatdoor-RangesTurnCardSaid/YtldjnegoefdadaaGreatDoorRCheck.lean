/- The contracts of a range's Check and Has. -/
import Derived.Test.YtldjnegoefdadaaGreatDoorRCmp
import Derived.Test.YtldjnegoefdadaaGreatDoorVAwk
namespace Go.Proofs.YtldjnegoefdadaaGreatDoor
open Go.RowKit
set_option linter.unusedVariables false

/-- A range of cards. -/
structure RG where
  lo : ByteArray
  hi : ByteArray
  acs : ByteArray
  low : ByteArray
  high : ByteArray
  mode : Int
def RG.cells (r : RG) : List Value := [.string r.lo, .string r.hi, .string r.acs, .string r.low, .string r.high, .int .i64 r.mode]
def RG.light (r : RG) : Prop := r.lo.size ≤ 1000 ∧ r.hi.size ≤ 1000 ∧ r.acs.size ≤ 1000 ∧ r.low.size ≤ 1000 ∧ r.high.size ≤ 1000 ∧ -9223372036854775808 ≤ r.mode ∧ r.mode ≤ 9223372036854775807

def numB (s : ByteArray) : Bool := isD s && decide (13 ≤ s.size) && decide (s.size ≤ 19)
def isPl (c : UInt8) : Bool := decide (33 ≤ c.toNat) && decide (c.toNat ≤ 126)
def nameB (s : ByteArray) : Bool := s.data.toList.all isPl && decide (s.size ≠ 0) && decide (s.size ≤ 32)
def chkN (r : RG) : Int :=
  if (numB r.lo && numB r.hi && decide (r.lo.size = r.hi.size)) = false then 4
  else if cmpC r.hi.data.toList r.lo.data.toList < 0 then 19
  else if nameB r.acs = false then 2
  else if withinB r.low r.low r.high = false then 7
  else if r.mode < 1 ∨ 3 < r.mode then 11 else 0
def hasB (r : RG) (card : ByteArray) : Bool :=
  isD card && decide (card.size = r.lo.size) && decide (cmpC r.lo.data.toList card.data.toList ≤ 0) && decide (cmpC card.data.toList r.hi.data.toList ≤ 0)

set_option maxHeartbeats 400000 in
theorem number_any (s : ByteArray) (hs : s.size ≤ 1000) (w : World) : Calls Tryz.prog 57 #[.string s] w fun e w' => e = .returned (.bool (numB s)) ∧ w = w' := by
  have HI := Lib.hid (fun W => Is_any s W (by omega))
  unfold numB
  cases hd : isD s with
  | false =>
    rw [hd] at HI
    clear hd
    go_enter Tryz.func57, Tryz.ntmps57
    go_wp2_with (go_at_call 61; refine (HI.out _).mono ?_; rintro e w' ⟨rfl, rfl⟩)
    go_ret
    exact ⟨rfl, rfl⟩
  | true =>
    rw [hd] at HI
    clear hd
    by_cases h13 : 13 ≤ s.size
    · have h13I : (13 : Int) ≤ (s.size : Int) := by omega
      by_cases h19 : s.size ≤ 19
      · have h19I : (s.size : Int) ≤ 19 := by omega
        rw [decide_eq_true h13, decide_eq_true h19]
        go_enter Tryz.func57, Tryz.ntmps57
        go_wp2_with (go_at_call 61; refine (HI.out _).mono ?_; rintro e w' ⟨rfl, rfl⟩)
        go_ret
        exact ⟨ret_boolE (by simp), rfl⟩
      · have h19I : ¬ (s.size : Int) ≤ 19 := by omega
        rw [decide_eq_true h13, decide_eq_false h19]
        go_enter Tryz.func57, Tryz.ntmps57
        go_wp2_with (go_at_call 61; refine (HI.out _).mono ?_; rintro e w' ⟨rfl, rfl⟩)
        go_ret
        exact ⟨ret_boolE (by simp; omega), rfl⟩
    · have h13I : ¬ (13 : Int) ≤ (s.size : Int) := by omega
      rw [decide_eq_false h13]
      go_enter Tryz.func57, Tryz.ntmps57
      go_wp2_with (go_at_call 61; refine (HI.out _).mono ?_; rintro e w' ⟨rfl, rfl⟩)
      go_ret
      exact ⟨ret_boolE (by simp), rfl⟩

theorem all_take (s : ByteArray) {j : Nat} (h : j < s.size) (p : UInt8 → Bool) : (s.data.toList.take (j + 1)).all p = ((s.data.toList.take j).all p && p s[j]) := by
  rw [List.take_succ_eq_append_getElem (by simpa using h), List.all_append]
  simp
  rfl
theorem all_no (s : ByteArray) {j : Nat} (h : j < s.size) (p : UInt8 → Bool) (hp : p s[j] = false) : s.data.toList.all p = false := by
  rw [List.all_eq_false]
  exact ⟨s[j], by show s.data.toList[j]'(by simpa using h) ∈ _; exact List.getElem_mem _, by simp [hp]⟩

set_option maxHeartbeats 400000 in
theorem name_any (s : ByteArray) (hs : s.size ≤ 1000) (w : World) : Calls Tryz.prog 59 #[.string s] w fun e w' => e = .returned (.bool (nameB s)) ∧ w = w' := by
  obtain ⟨R, hR⟩ : ∃ R, nameB s = R := ⟨_, rfl⟩
  rw [hR]
  have HR := Lib.hid hR
  clear hR
  go_enter Tryz.func59, Tryz.ntmps59
  go_wp2
  go_loop [6] (fun i => ∃ j : Nat, j ≤ s.size ∧ i = .int .i64 j ∧ Hid ((s.data.toList.take j).all isPl = true)) (fun i => s.size - (intOf i).toNat)
  case atStart => exact ⟨0, Nat.zero_le _, rfl, Lib.hid rfl⟩
  case round =>
    obtain ⟨j, hj, rfl, HJ⟩ := hrel
    by_cases hlt : j < s.size
    · cases hp : isPl s[j] with
      | true =>
        have hnext : Hid ((s.data.toList.take (j + 1)).all isPl = true) := Lib.hid (by rw [all_take s hlt, HJ.out, hp]; rfl)
        have h2 : 33 ≤ (s[j]).toNat ∧ (s[j]).toNat ≤ 126 := by simpa [isPl] using hp
        have h33 : (33 : Int) ≤ ((s[j]).toNat : Int) := by omega
        have h126 : ((s[j]).toNat : Int) ≤ 126 := by omega
        clear hp h2
        go_wp2
        go_round
        case rel => exact ⟨j + 1, by omega, by go_num, hnext⟩
        case measure => simp [intOf]; omega
      | false =>
        have HRF : Hid (R = false) := Lib.hid (by rw [← HR.out]; unfold nameB; rw [all_no s hlt isPl hp]; rfl)
        have h2 : ¬ (33 ≤ (s[j]).toNat ∧ (s[j]).toNat ≤ 126) := fun h => by rw [show isPl s[j] = true from by simp [isPl]; omega] at hp; cases hp
        clear hp
        by_cases h33 : ((s[j]).toNat : Int) < 33
        · clear h2
          go_wp2
          go_ret
          exact ⟨ret_boolE HRF.out.symm, rfl⟩
        · have h126 : (126 : Int) < ((s[j]).toNat : Int) := by omega
          clear h2
          go_wp2
          go_ret
          exact ⟨ret_boolE HRF.out.symm, rfl⟩
    · have hall : s.data.toList.all isPl = true := by
        have h := HJ.out
        rwa [List.take_of_length_le (by simp; omega)] at h
      have hE : R = (decide (s.size ≠ 0) && decide (s.size ≤ 32)) := by rw [← HR.out]; unfold nameB; rw [hall]; rfl
      have he := toList_empty s
      by_cases h0 : s.size = 0
      · have HRF : Hid (R = false) := Lib.hid (by rw [hE, decide_eq_false (by omega)]; rfl)
        rw [decide_eq_false (by omega)] at he
        clear hE hall
        go_wp2
        go_ret
        exact ⟨ret_boolE (by rw [HRF.out]), rfl⟩
      · rw [decide_eq_true (by omega : 0 < s.size)] at he
        by_cases h32 : s.size ≤ 32
        · have HRF : Hid (R = true) := Lib.hid (by rw [hE, decide_eq_true h0, decide_eq_true h32]; rfl)
          have h32I : (s.size : Int) ≤ 32 := by omega
          clear hE hall
          go_wp2
          go_ret
          exact ⟨ret_boolE (by rw [HRF.out]), rfl⟩
        · have HRF : Hid (R = false) := Lib.hid (by rw [hE, decide_eq_false h32]; simp)
          have h32I : ¬ (s.size : Int) ≤ 32 := by omega
          clear hE hall
          go_wp2
          go_ret
          exact ⟨ret_boolE (by rw [HRF.out]), rfl⟩

set_option maxRecDepth 4000 in
set_option maxHeartbeats 4000000 in
theorem Check_any (r : RG) (hr : r.light) (w : World) (hG : VG w) :
    Calls Tryz.prog 35 #[.agg #[.string r.lo, .string r.hi, .string r.acs, .string r.low, .string r.high, .int .i64 r.mode]] w fun e w' => e = .returned (.int .i64 (chkN r)) ∧ Below w.heap.size w w' := by
  obtain ⟨lo, hi, acs, low, high, mode⟩ := r
  obtain ⟨z0, z1, z2, z3, z4, m0, m1⟩ := hr
  dsimp only at z0 z1 z2 z3 z4 m0 m1
  have HN1 := Lib.hid (fun W => number_any lo z0 W)
  have HN2 := Lib.hid (fun W => number_any hi z1 W)
  have HC := Lib.hid (fun W => RCmp_any hi lo (by omega) (by omega) W)
  have HA := Lib.hid (fun W => name_any acs z2 W)
  have HW := Lib.hid (fun W h => VWithin_any low low high z3 z3 z4 W h)
  have hcr := cmpC_range hi.data.toList lo.data.toList
  obtain ⟨R, hR⟩ : ∃ R, chkN ⟨lo, hi, acs, low, high, mode⟩ = R := ⟨_, rfl⟩
  rw [hR]
  unfold chkN at hR
  dsimp only at hR
  obtain ⟨n1, hn1⟩ : ∃ n, numB lo = n := ⟨_, rfl⟩
  obtain ⟨n2, hn2⟩ : ∃ n, numB hi = n := ⟨_, rfl⟩
  obtain ⟨c, hc⟩ : ∃ c, cmpC hi.data.toList lo.data.toList = c := ⟨_, rfl⟩
  obtain ⟨a, ha⟩ : ∃ a, nameB acs = a := ⟨_, rfl⟩
  obtain ⟨i, hi'⟩ : ∃ i, withinB low low high = i := ⟨_, rfl⟩
  rw [hn1] at HN1 hR
  rw [hn2] at HN2 hR
  rw [hc] at HC hR hcr
  rw [ha] at HA hR
  rw [hi'] at HW hR
  have HR := Lib.hid hR
  have HG := Lib.hid hG
  obtain ⟨c1, c2⟩ := hcr
  have z0I : (lo.size : Int) ≤ 1000 := by omega
  have z1I : (hi.size : Int) ≤ 1000 := by omega
  have H0 := Lib.hid (Row.new w 30 [.string lo, .string hi, .string acs, .string low, .string high, .int .i64 mode])
  have HB0 := Lib.hid ((Below.refl w.heap.size w).alloc (Nat.le_refl _) (.cells [Value.string lo, .string hi, .string acs, .string low, .string high, .int .i64 mode].toArray 30))
  clear hR hn1 hn2 hc ha hi' hG z0 z1 z2 z3 z4
  go_enter Tryz.func35, Tryz.ntmps35
  go_wp2_with fail
  generalize w.alloc (.cells [Value.string lo, .string hi, .string acs, .string low, .string high, .int .i64 mode].toArray 30) = w0 at H0 HB0 ⊢
  have p0 := H0.out.cell 0
  have p1 := H0.out.cell 1
  have p2 := H0.out.cell 2
  have p3 := H0.out.cell 3
  have p4 := H0.out.cell 4
  have p5 := H0.out.cell 5
  simp only [List.getElem?_cons_zero, List.getElem?_cons_succ] at p0 p1 p2 p3 p4 p5
  refine (HN1.out _).mono ?_
  rintro e w1 ⟨rfl, h1⟩
  subst h1
  cases n1 with
  | false =>
    have HRR : Hid (R = 4) := Lib.hid (by rw [← HR.out]; rfl)
    go_wp2_with fail
    go_ret
    exact ⟨ret_int_d HRR.out.symm, HB0.out⟩
  | true =>
    go_wp2_with fail
    refine (HN2.out _).mono ?_
    rintro e w1 ⟨rfl, h1⟩
    subst h1
    cases n2 with
    | false =>
      have HRR : Hid (R = 4) := Lib.hid (by rw [← HR.out]; rfl)
      go_wp2_with fail
      go_ret
      exact ⟨ret_int_d HRR.out.symm, HB0.out⟩
    | true =>
      by_cases hsz : lo.size = hi.size
      · have hsq : ((lo.size : Int) != (hi.size : Int)) = false := by rw [bne_eq_false_iff_eq]; omega
        have HR1 : Hid ((if c < 0 then (19 : Int) else if a = false then 2 else if i = false then 7 else if mode < 1 ∨ 3 < mode then 11 else 0) = R) := Lib.hid (by rw [← HR.out, decide_eq_true hsz]; rfl)
        clear hsz HR
        go_wp2_with fail
        refine (HC.out _).mono ?_
        rintro e w2 ⟨rfl, hb2⟩
        have HB2 := Lib.hid (HB0.out.trans (hb2.mono HB0.out.size))
        have H2 := Lib.hid (H0.out.below hb2 H0.out.lt)
        clear hb2 p0 p1 p2 p3 p4 p5
        have p0 := H2.out.cell 0
        have p1 := H2.out.cell 1
        have p2 := H2.out.cell 2
        have p3 := H2.out.cell 3
        have p4 := H2.out.cell 4
        have p5 := H2.out.cell 5
        simp only [List.getElem?_cons_zero, List.getElem?_cons_succ] at p0 p1 p2 p3 p4 p5
        by_cases hcc : c < 0
        · have HRR : Hid (R = 19) := Lib.hid (by rw [← HR1.out, if_pos hcc])
          go_wp2_with fail
          go_ret
          exact ⟨ret_int_d HRR.out.symm, HB2.out⟩
        · have HR2 : Hid ((if a = false then (2 : Int) else if i = false then 7 else if mode < 1 ∨ 3 < mode then 11 else 0) = R) := Lib.hid (by rw [← HR1.out, if_neg hcc])
          clear HR1
          go_wp2_with fail
          refine (HA.out _).mono ?_
          rintro e w3 ⟨rfl, h3⟩
          subst h3
          cases a with
          | false =>
            have HRR : Hid (R = 2) := Lib.hid (by rw [← HR2.out]; rfl)
            go_wp2_with fail
            go_ret
            exact ⟨ret_int_d HRR.out.symm, HB2.out⟩
          | true =>
            go_wp2_with fail
            refine (HW.out _ (HG.out.below HB2.out)).mono ?_
            rintro e w4 ⟨rfl, hb4⟩
            have HB4 := Lib.hid (HB2.out.trans (hb4.mono HB2.out.size))
            have H4 := Lib.hid (H2.out.below hb4 H2.out.lt)
            clear hb4 p0 p1 p2 p3 p4 p5
            have p0 := H4.out.cell 0
            have p1 := H4.out.cell 1
            have p2 := H4.out.cell 2
            have p3 := H4.out.cell 3
            have p4 := H4.out.cell 4
            have p5 := H4.out.cell 5
            simp only [List.getElem?_cons_zero, List.getElem?_cons_succ] at p0 p1 p2 p3 p4 p5
            cases i with
            | false =>
              have HRR : Hid (R = 7) := Lib.hid (by rw [← HR2.out]; rfl)
              go_wp2_with fail
              go_ret
              exact ⟨ret_int_d HRR.out.symm, HB4.out⟩
            | true =>
              have HR3 : Hid ((if mode < 1 ∨ 3 < mode then (11 : Int) else 0) = R) := Lib.hid (by rw [← HR2.out]; rfl)
              by_cases hm1 : mode < 1
              · have HRR : Hid (R = 11) := Lib.hid (by rw [← HR3.out, if_pos (Or.inl hm1)])
                go_wp2_with fail
                go_ret
                exact ⟨ret_int_d HRR.out.symm, HB4.out⟩
              · by_cases hm3 : 3 < mode
                · have HRR : Hid (R = 11) := Lib.hid (by rw [← HR3.out, if_pos (Or.inr hm3)])
                  go_wp2_with fail
                  go_ret
                  exact ⟨ret_int_d HRR.out.symm, HB4.out⟩
                · have HRR : Hid (R = 0) := Lib.hid (by rw [← HR3.out, if_neg (by omega)])
                  go_wp2_with fail
                  go_ret
                  exact ⟨ret_int_d HRR.out.symm, HB4.out⟩
      · have hsq : ((lo.size : Int) != (hi.size : Int)) = true := by rw [bne_iff_ne]; omega
        have HRR : Hid (R = 4) := Lib.hid (by rw [← HR.out, decide_eq_false hsz]; rfl)
        clear hsz
        go_wp2_with fail
        go_ret
        exact ⟨ret_int_d HRR.out.symm, HB0.out⟩

set_option maxRecDepth 4000 in
set_option maxHeartbeats 4000000 in
theorem Has_any (r : RG) (hr : r.light) (card : ByteArray) (hcard : card.size ≤ 1000) (w : World) :
    Calls Tryz.prog 36 #[.agg #[.string r.lo, .string r.hi, .string r.acs, .string r.low, .string r.high, .int .i64 r.mode], .string card] w fun e w' => e = .returned (.bool (hasB r card)) ∧ Below w.heap.size w w' := by
  obtain ⟨lo, hi, acs, low, high, mode⟩ := r
  obtain ⟨z0, z1, z2, z3, z4, m0, m1⟩ := hr
  dsimp only at z0 z1 z2 z3 z4 m0 m1
  have HD := Lib.hid (fun W => Is_any card W (by omega))
  have HC1 := Lib.hid (fun W => RCmp_any lo card (by omega) (by omega) W)
  have HC2 := Lib.hid (fun W => RCmp_any card hi (by omega) (by omega) W)
  have hr1 := cmpC_range lo.data.toList card.data.toList
  have hr2 := cmpC_range card.data.toList hi.data.toList
  obtain ⟨R, hR⟩ : ∃ R, hasB ⟨lo, hi, acs, low, high, mode⟩ card = R := ⟨_, rfl⟩
  rw [hR]
  unfold hasB at hR
  dsimp only at hR
  obtain ⟨d, hd⟩ : ∃ n, isD card = n := ⟨_, rfl⟩
  obtain ⟨x, hx⟩ : ∃ c, cmpC lo.data.toList card.data.toList = c := ⟨_, rfl⟩
  obtain ⟨y, hy⟩ : ∃ c, cmpC card.data.toList hi.data.toList = c := ⟨_, rfl⟩
  rw [hd] at HD hR
  rw [hx] at HC1 hR hr1
  rw [hy] at HC2 hR hr2
  have HR := Lib.hid hR
  obtain ⟨x1, x2⟩ := hr1
  obtain ⟨y1, y2⟩ := hr2
  have z0I : (lo.size : Int) ≤ 1000 := by omega
  have zcI : (card.size : Int) ≤ 1000 := by omega
  have H0 := Lib.hid (Row.new w 30 [.string lo, .string hi, .string acs, .string low, .string high, .int .i64 mode])
  have HB0 := Lib.hid ((Below.refl w.heap.size w).alloc (Nat.le_refl _) (.cells [Value.string lo, .string hi, .string acs, .string low, .string high, .int .i64 mode].toArray 30))
  clear hR hd hx hy z0 z1 z2 z3 z4
  go_enter Tryz.func36, Tryz.ntmps36
  go_wp2_with fail
  generalize w.alloc (.cells [Value.string lo, .string hi, .string acs, .string low, .string high, .int .i64 mode].toArray 30) = w0 at H0 HB0 ⊢
  have p0 := H0.out.cell 0
  have p1 := H0.out.cell 1
  have p2 := H0.out.cell 2
  have p3 := H0.out.cell 3
  have p4 := H0.out.cell 4
  have p5 := H0.out.cell 5
  simp only [List.getElem?_cons_zero, List.getElem?_cons_succ] at p0 p1 p2 p3 p4 p5
  refine (HD.out _).mono ?_
  rintro e w1 ⟨rfl, h1⟩
  subst h1
  cases d with
  | false =>
    have HRR : Hid (R = false) := Lib.hid (by rw [← HR.out]; rfl)
    go_wp2_with fail
    go_ret
    exact ⟨ret_boolE HRR.out.symm, HB0.out⟩
  | true =>
    by_cases hsz : card.size = lo.size
    · have hsq : ((card.size : Int) == (lo.size : Int)) = true := by rw [beq_iff_eq]; omega
      have HR1 : Hid ((decide (x ≤ 0) && decide (y ≤ 0)) = R) := Lib.hid (by rw [← HR.out, decide_eq_true hsz]; rfl)
      clear hsz HR
      go_wp2_with fail
      refine (HC1.out _).mono ?_
      rintro e w2 ⟨rfl, hb2⟩
      have HB2 := Lib.hid (HB0.out.trans (hb2.mono HB0.out.size))
      have H2 := Lib.hid (H0.out.below hb2 H0.out.lt)
      clear hb2 p0 p1 p2 p3 p4 p5
      have p0 := H2.out.cell 0
      have p1 := H2.out.cell 1
      have p2 := H2.out.cell 2
      have p3 := H2.out.cell 3
      have p4 := H2.out.cell 4
      have p5 := H2.out.cell 5
      simp only [List.getElem?_cons_zero, List.getElem?_cons_succ] at p0 p1 p2 p3 p4 p5
      by_cases hxx : x ≤ 0
      · have HR2 : Hid (decide (y ≤ 0) = R) := Lib.hid (by rw [← HR1.out, decide_eq_true hxx]; rfl)
        go_wp2_with fail
        refine (HC2.out _).mono ?_
        rintro e w3 ⟨rfl, hb3⟩
        have HB3 := Lib.hid (HB2.out.trans (hb3.mono HB2.out.size))
        go_wp2_with fail
        go_ret
        exact ⟨ret_boolE HR2.out, HB3.out⟩
      · have HRR : Hid (R = false) := Lib.hid (by rw [← HR1.out, decide_eq_false hxx]; rfl)
        go_wp2_with fail
        go_ret
        exact ⟨ret_boolE HRR.out.symm, HB2.out⟩
    · have hsq : ((card.size : Int) == (lo.size : Int)) = false := by rw [beq_eq_false_iff_ne]; omega
      have HRR : Hid (R = false) := Lib.hid (by rw [← HR.out, decide_eq_false hsz]; rfl)
      clear hsz
      go_wp2_with fail
      go_ret
      exact ⟨ret_boolE HRR.out.symm, HB0.out⟩
end Go.Proofs.YtldjnegoefdadaaGreatDoor
