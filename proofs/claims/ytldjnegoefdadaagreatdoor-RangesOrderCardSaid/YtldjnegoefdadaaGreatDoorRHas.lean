/- The document's Has; the laws' example. -/
import Derived.Deep.MidRow
import Derived.Test.YtldjnegoefdadaaGreatDoorRRef
namespace Go.Proofs.YtldjnegoefdadaaGreatDoor
open Go.RowKit
set_option linter.unusedVariables false

set_option maxRecDepth 4000 in
set_option maxHeartbeats 4000000 in
theorem refHas18_any (r : RG) (hr : r.light) (hlo : isD r.lo = true) (hhi : isD r.hi = true) (hse : r.lo.size = r.hi.size) (card : ByteArray) (hcard : card.size ≤ 1000) (w : World) :
    Calls Tryz.prog 46 #[.agg #[.string r.lo, .string r.hi, .string r.acs, .string r.low, .string r.high, .int .i64 r.mode], .string card] w fun e w' => e = .returned (.bool (hasB r card)) ∧ Below w.heap.size w w' := by
  obtain ⟨lo, hi, acs, low, high, mode⟩ := r
  obtain ⟨z0, z1, z2, z3, z4, m0, m1⟩ := hr
  dsimp only at z0 z1 z2 z3 z4 m0 m1 hlo hhi hse
  have HD := Lib.hid (fun W => refIs_any card W (by omega))
  have HC1 := Lib.hid (fun W => refCmp3_any lo card (by omega) (by omega) W)
  have HC2 := Lib.hid (fun W => refCmp3_any card hi (by omega) (by omega) W)
  have hr1 := cmpC_range lo.data.toList card.data.toList
  have hr2 := cmpC_range card.data.toList hi.data.toList
  have hll : lo.data.toList.length = lo.size := by simp
  have hhl : hi.data.toList.length = hi.size := by simp
  have hcl : card.data.toList.length = card.size := by simp
  obtain ⟨R, hR⟩ : ∃ R, hasB ⟨lo, hi, acs, low, high, mode⟩ card = R := ⟨_, rfl⟩
  rw [hR]
  unfold hasB at hR
  dsimp only at hR
  have ht1 := fun (h : isD card = true) (hs : card.size = lo.size) => cmpC_trim lo.data.toList card.data.toList (by omega) ((isD_iff lo).1 hlo).2 ((isD_iff card).1 h).2
  have ht2 := fun (h : isD card = true) (hs : card.size = lo.size) => cmpC_trim card.data.toList hi.data.toList (by omega) ((isD_iff card).1 h).2 ((isD_iff hi).1 hhi).2
  obtain ⟨d, hd⟩ : ∃ n, isD card = n := ⟨_, rfl⟩
  obtain ⟨x, hx⟩ : ∃ c, cmpC lo.data.toList card.data.toList = c := ⟨_, rfl⟩
  obtain ⟨y, hy⟩ : ∃ c, cmpC card.data.toList hi.data.toList = c := ⟨_, rfl⟩
  rw [hd] at HD hR
  rw [hx] at hR hr1
  rw [hy] at hR hr2
  have HT1 := Lib.hid (fun h1 h2 => (ht1 (hd.trans h1) h2).trans hx)
  have HT2 := Lib.hid (fun h1 h2 => (ht2 (hd.trans h1) h2).trans hy)
  have HR := Lib.hid hR
  obtain ⟨x1, x2⟩ := hr1
  obtain ⟨y1, y2⟩ := hr2
  have z0I : (lo.size : Int) ≤ 1000 := by omega
  have zcI : (card.size : Int) ≤ 1000 := by omega
  have H0 := Lib.hid (Row.new w 41 [.string lo, .string hi, .string acs, .string low, .string high, .int .i64 mode])
  have HB0 := Lib.hid ((Below.refl w.heap.size w).alloc (Nat.le_refl _) (.cells [Value.string lo, .string hi, .string acs, .string low, .string high, .int .i64 mode].toArray 41))
  clear hR hd hx hy z0 z1 z2 z3 z4 hll hhl hcl hlo hhi hse ht1 ht2
  go_enter Tryz.func46, Tryz.ntmps46
  go_wp2_with fail
  generalize w.alloc (.cells [Value.string lo, .string hi, .string acs, .string low, .string high, .int .i64 mode].toArray 41) = w0 at H0 HB0 ⊢
  have p0 := H0.out.cell 0
  have p1 := H0.out.cell 1
  simp only [List.getElem?_cons_zero, List.getElem?_cons_succ] at p0 p1
  refine (HD.out _).mono ?_
  rintro e w1 ⟨rfl, h1⟩
  subst h1
  cases d with
  | false =>
    have HRR : Hid (R = false) := Lib.hid (by rw [← HR.out]; rfl)
    go_wp2_with fail
    go_ret
    exact ⟨ret_boolE HRR.out.symm, HB0.out⟩
  | true =>
    by_cases hsz : card.size = lo.size
    · have hsq : ((card.size : Int) == (lo.size : Int)) = true := by rw [beq_iff_eq]; omega
      have HR1 : Hid ((decide (x ≤ 0) && decide (y ≤ 0)) = R) := Lib.hid (by rw [← HR.out, decide_eq_true hsz]; rfl)
      have E1 := HT1.out rfl hsz
      have E2 := HT2.out rfl hsz
      rw [E1] at HC1
      rw [E2] at HC2
      clear hsz HR E1 E2
      go_wp2_with fail
      refine (HC1.out _).mono ?_
      rintro e w2 ⟨rfl, h2⟩
      subst h2
      by_cases hxx : x ≤ 0
      · have HR2 : Hid (decide (y ≤ 0) = R) := Lib.hid (by rw [← HR1.out, decide_eq_true hxx]; rfl)
        go_wp2_with fail
        refine (HC2.out _).mono ?_
        rintro e w3 ⟨rfl, h3⟩
        subst h3
        go_wp2_with fail
        go_ret
        exact ⟨ret_boolE HR2.out, HB0.out⟩
      · have HRR : Hid (R = false) := Lib.hid (by rw [← HR1.out, decide_eq_false hxx]; rfl)
        go_wp2_with fail
        go_ret
        exact ⟨ret_boolE HRR.out.symm, HB0.out⟩
    · have hsq : ((card.size : Int) == (lo.size : Int)) = false := by rw [beq_eq_false_iff_ne]; omega
      have HRR : Hid (R = false) := Lib.hid (by rw [← HR.out, decide_eq_false hsz]; rfl)
      clear hsz
      go_wp2_with fail
      go_ret
      exact ⟨ret_boolE HRR.out.symm, HB0.out⟩

def oneR : RG := ⟨⟨#[52, 49, 49, 49, 49, 49, 49, 49, 49, 49, 49, 49, 49, 49, 49, 49]⟩, ⟨#[52, 49, 49, 49, 49, 49, 49, 49, 49, 49, 49, 49, 49, 49, 49, 49]⟩, ⟨#[97, 99, 115]⟩, ⟨#[50, 46, 49, 46, 48]⟩, ⟨#[50, 46, 50, 46, 48]⟩, 1⟩
theorem one_chk : chkN oneR = 0 := by decide +kernel
theorem one_has1 : hasB oneR ⟨#[52, 49, 49, 49, 49, 49, 49, 49, 49, 49, 49, 49, 49, 49, 49, 49]⟩ = true := by decide +kernel
theorem one_has2 : hasB oneR ⟨#[52, 49, 49, 49, 49, 49, 49, 49, 49, 49, 49, 49, 49, 49, 49, 50]⟩ = false := by decide +kernel
theorem one_light : oneR.light := by unfold RG.light oneR; decide
theorem results_row {P : Program} {fn : Func} {p : Tmp} {ty : TypeId} (h : fn.results = #[.cell p ty]) (tmps : Array Value) (w : World) (g : Nat) (t : TypeId) (cs : Array Value) (fr : Nat × Nat) (d : TypeDesc)
    (hp : tmps.getD p undef = .pointer (some ⟨g, 0, none⟩)) (hg : w.heap[g]? = some (.cells cs t fr))
    (hu : P.underlying ty = some d) (hd : (match d with | .struct _ | .array _ _ => true | _ => false) = true) (hi : (P.info? ty).map (·.size) = some cs.size) :
    (results fn tmps).run P w = .ok (.agg cs) w := by
  have hp' : tmps[p]?.getD undef = .pointer (some ⟨g, 0, none⟩) := by simpa using hp
  simp [results, h, hp', asAddr, run_loadVar_row w g t ty cs fr d hg hu hd hi]
theorem range_size : (Tryz.prog.info? 30).map (·.size) = some 6 := by kernel_rfl
theorem one_any (w : World) : Calls Tryz.prog 34 #[] w fun e w' => e = .returned (.agg #[.string ⟨#[52, 49, 49, 49, 49, 49, 49, 49, 49, 49, 49, 49, 49, 49, 49, 49]⟩, .string ⟨#[52, 49, 49, 49, 49, 49, 49, 49, 49, 49, 49, 49, 49, 49, 49, 49]⟩, .string ⟨#[97, 99, 115]⟩, .string ⟨#[50, 46, 49, 46, 48]⟩, .string ⟨#[50, 46, 50, 46, 48]⟩, .int .i64 1]) ∧ Below w.heap.size w w' := by
  go_enter Tryz.func34, Tryz.ntmps34
  go_wp2
  exact bodyPost_ret (results_row rfl _ _ w.heap.size 30 #[.string ⟨#[52, 49, 49, 49, 49, 49, 49, 49, 49, 49, 49, 49, 49, 49, 49, 49]⟩, .string ⟨#[52, 49, 49, 49, 49, 49, 49, 49, 49, 49, 49, 49, 49, 49, 49, 49]⟩, .string ⟨#[97, 99, 115]⟩, .string ⟨#[50, 46, 49, 46, 48]⟩, .string ⟨#[50, 46, 50, 46, 48]⟩, .int .i64 1] (0, 0) _ rfl (heap_alloc_new w _) Tryz.underlying30 rfl range_size) rfl ⟨rfl, (Below.refl _ _).alloc (Nat.le_refl _) _⟩

theorem awake17W (w : World) (hG : VG w) (hN : NV w) :
    Calls Tryz.prog 33 #[] w fun e w' => e = .returned (.bool true) ∧ Below w.heap.size w w' := by
  go_enter Tryz.func33, Tryz.ntmps33
  go_wp2_with (go_at_call 56; refine (awake17_any _ hG hN).mono ?_; rintro e w' ⟨rfl, hB1⟩)
  go_ret
  exact ⟨rfl, hB1⟩
set_option maxHeartbeats 1000000 in
theorem awake18_any (w : World) (hG : VG w) (hN : NV w) :
    Calls Tryz.prog 8 #[] w fun e w' => e = .returned (.bool true) ∧ Below w.heap.size w w' := by
  have HC := Lib.hid (fun W h => Check_any oneR one_light W h)
  have HH1 := Lib.hid (fun W => Has_any oneR one_light ⟨#[52, 49, 49, 49, 49, 49, 49, 49, 49, 49, 49, 49, 49, 49, 49, 49]⟩ (by decide) W)
  have HH2 := Lib.hid (fun W => Has_any oneR one_light ⟨#[52, 49, 49, 49, 49, 49, 49, 49, 49, 49, 49, 49, 49, 49, 49, 50]⟩ (by decide) W)
  rw [one_chk] at HC
  rw [one_has1] at HH1
  rw [one_has2] at HH2
  unfold oneR at HC HH1 HH2
  dsimp only at HC HH1 HH2
  have HG := Lib.hid hG
  have HN := Lib.hid hN
  clear hG hN
  go_enter Tryz.func8, Tryz.ntmps8
  go_wp2_with fail
  refine (awake17W _ HG.out HN.out).mono ?_
  rintro e w1 ⟨rfl, hb1⟩
  have B1 := Lib.hid hb1
  clear hb1
  go_wp2_with fail
  refine (one_any _).mono ?_
  rintro e w2 ⟨rfl, hb⟩
  have B2 := Lib.hid (B1.out.trans (hb.mono B1.out.size))
  clear hb
  go_wp2_with fail
  refine (HC.out _ (HG.out.below B2.out)).mono ?_
  rintro e w3 ⟨rfl, hb⟩
  have B3 := Lib.hid (B2.out.trans (hb.mono B2.out.size))
  clear hb
  go_wp2_with fail
  refine (one_any _).mono ?_
  rintro e w4 ⟨rfl, hb⟩
  have B4 := Lib.hid (B3.out.trans (hb.mono B3.out.size))
  clear hb
  go_wp2_with fail
  refine (HH1.out _).mono ?_
  rintro e w5 ⟨rfl, hb⟩
  have B5 := Lib.hid (B4.out.trans (hb.mono B4.out.size))
  clear hb
  go_wp2_with fail
  refine (one_any _).mono ?_
  rintro e w6 ⟨rfl, hb⟩
  have B6 := Lib.hid (B5.out.trans (hb.mono B5.out.size))
  clear hb
  go_wp2_with fail
  refine (HH2.out _).mono ?_
  rintro e w7 ⟨rfl, hb⟩
  have B7 := Lib.hid (B6.out.trans (hb.mono B6.out.size))
  clear hb
  go_wp2
  go_ret
  exact ⟨rfl, B7.out⟩
end Go.Proofs.YtldjnegoefdadaaGreatDoor
