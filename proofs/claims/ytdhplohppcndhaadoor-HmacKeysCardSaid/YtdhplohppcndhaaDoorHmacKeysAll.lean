/- The statement of HmacKeys: whatever comes in, the law answers true, and what came in reads as it did. (In one text with what it leans on: HmacKeysW, HmacKeys.) -/
import Derived.WalkKit
import Derived.ProofKit
import Derived.OpenShut
import Derived.ShutString
import Derived.SizedLaws
import Derived.LaidMore
import Derived.Stop.Joined
import Derived.SevenTiedAt
import Derived.Test.YtdhplohppcndhaaDoorHOne
import Derived.Test.YtdhplohppcndhaaDoorAwk6
import Derived.Test.YtdhplohppcndhaaDoorRText
import Derived.Test.YtdhplohppcndhaaDoorRows
import Derived.Test.YtdhplohppcndhaaDoorCards
import Derived.Test.YtdhplohppcndhaaDoorTie
import Derived.Test.YtdhplohppcndhaaDoorLaid4
namespace Go.Proofs.YtdhplohppcndhaaDoor
open Go.RowKit
set_option linter.unusedVariables false

attribute [local irreducible] shaL hmacL
set_option maxRecDepth 100000 in
set_option maxHeartbeats 4000000 in
theorem HmacKeys_walk (a0 a1 : ByteArray) (a2 : Int) (w0 : a0.size ≤ 140737488355328) (w1 : a1.size ≤ 140737488355328) (w2 : (Lit.int .u8 a2).wf = true) (w : World) (hG : G w) :
    Calls Tryd.prog 6 #[.string a0, .string a1, .int .u8 a2] w fun e w' => e = .returned (.bool true) ∧ Below w.heap.size w w' := by
  have h2 : 0 ≤ a2 ∧ a2 ≤ 255 := by simpa [Lit.wf, IntKind.min, IntKind.max, IntKind.signed, IntKind.bits] using w2
  obtain ⟨n, rfl⟩ := Int.eq_ofNat_of_zero_le h2.1
  have hn : n ≤ 255 := by omega
  clear w2 h2
  have HG := Lib.hid hG
  clear hG
  by_cases hbig : 300 < a0.size ∨ 300 < a1.size
  · rcases (by omega : (300 < a0.size ∧ a1.size ≤ a0.size) ∨ (300 < a1.size ∧ a0.size < a1.size)) with ⟨h, h'⟩ | ⟨h, h'⟩
    all_goals
      have hb1 : (300 : Int) < _ := Int.ofNat_lt.2 h
      clear hbig h
      go_enter Tryd.func6, Tryd.ntmps6
      go_wp2_with fail
      refine (awake6_any _ HG.out).mono ?_
      rintro e wa ⟨rfl, hba⟩
      go_wp2_with fail
      all_goals
        go_ret
        exact ⟨rfl, hba⟩
  · have hk : a0.size ≤ 300 := by omega
    have hs : a1.size ≤ 300 := by omega
    clear hbig
    have hkI : (a0.size : Int) ≤ 300 := by omega
    have hsI : (a1.size : Int) ≤ 300 := by omega
    obtain ⟨j, z, hz, hjp, hjl, hc⟩ : ∃ (j : Nat) (z : Int), z = (j : Int) ∧ (j = 0 ∨ a0.data.toList.length + j ≤ 64) ∧ j ≤ 255 ∧ min (n : Int) (max (64 - (a0.size : Int)) 0) = z := by
      have e : a0.data.toList.length = a0.size := by simp
      refine ⟨min n (64 - a0.size), _, ?_, ?_, by omega, rfl⟩
      · omega
      · omega
    have hnI : (n : Int) ≤ 255 := by omega
    have hn0 : 0 ≤ (n : Int) := by omega
    have HC := Lib.hid hc
    clear hc
    obtain ⟨R, hR⟩ : ∃ R : ByteArray, (⟨(List.replicate 65 (107 : UInt8)).toArray⟩ : ByteArray) = R := ⟨_, rfl⟩
    obtain ⟨Z, hZ⟩ : ∃ Z : ByteArray, (⟨(List.replicate j (0 : UInt8)).toArray⟩ : ByteArray) = Z := ⟨_, rfl⟩
    have hRs : R.size = 65 := by rw [← hR]; show (List.replicate 65 (107 : UInt8)).toArray.size = 65; simp
    have hZs : Z.size = j := by rw [← hZ]; show (List.replicate j (0 : UInt8)).toArray.size = j; simp
    have HRK : Hid (∀ W : World, Calls Tryd.prog 9 #[.string ⟨#[107]⟩, .int .i64 65] W fun e w' => e = .returned (.string R) ∧ Below W.heap.size W w') := Lib.hid fun W => by
      have h := Tryd.strings_Repeat ⟨#[107]⟩ 65 W (by omega) (by decide)
      rw [show Lib.repeatL (ByteArray.mk #[107]).data.toList 65 = List.replicate 65 107 from repeat_one _ _, hR] at h
      exact h
    have HRZ : Hid (∀ W : World, Calls Tryd.prog 9 #[.string ⟨#[0]⟩, .int .i64 z] W fun e w' => e = .returned (.string Z) ∧ Below W.heap.size W w') := Lib.hid fun W => by
      rw [hz]
      have h := Tryd.strings_Repeat ⟨#[0]⟩ j W (by omega) (by show 1 * j ≤ _; omega)
      rw [show Lib.repeatL (ByteArray.mk #[0]).data.toList j = List.replicate j 0 from repeat_one _ _, hZ] at h
      exact h
    obtain ⟨L, hL⟩ : ∃ L : ByteArray, a0 ++ R = L := ⟨_, rfl⟩
    obtain ⟨P, hP⟩ : ∃ P : ByteArray, a0 ++ Z = P := ⟨_, rfl⟩
    have hLs : L.size = a0.size + 65 := by rw [← hL, ByteArray.size_append, hRs]
    have hPs : P.size = a0.size + j := by rw [← hP, ByteArray.size_append, hZs]
    have hLr : ∀ W : World, (Op.stringOp .add a0 R).run Tryd.prog W = .ok (.string L) W := fun W => by rw [← hL]; exact run_string_add_sum W a0 R (by omega)
    have hPr : ∀ W : World, (Op.stringOp .add a0 Z).run Tryd.prog W = .ok (.string P) W := fun W => by rw [← hP]; exact run_string_add_sum W a0 Z (by omega)
    obtain ⟨r, hr⟩ : ∃ r : ByteArray, (⟨(hmacL a0.data.toList a1.data.toList).toArray⟩ : ByteArray) = r := ⟨_, rfl⟩
    obtain ⟨q, hq⟩ : ∃ q : ByteArray, (⟨(hmacL L.data.toList a1.data.toList).toArray⟩ : ByteArray) = q := ⟨_, rfl⟩
    obtain ⟨tl, htl⟩ : ∃ t : ByteArray, (⟨(shaL L.data.toList).toArray⟩ : ByteArray) = t := ⟨_, rfl⟩
    have hLl : L.data.toList.length = L.size := by simp
    have hPd : P.data.toList = a0.data.toList ++ List.replicate j 0 := by rw [← hP, ByteArray.data_append, Array.toList_append, ← hZ]
    have HSK : Hid (∀ (W : World) (g : Nat), G W → Row W g 9 [.string a1] → Calls Tryd.prog 19 #[.string a0, .slice (some ⟨g, 0, none⟩) 1 1] W fun e w' => e = .returned (.string r) ∧ Below W.heap.size W w') := Lib.hid fun W g h1 h2 => by
      rw [← hr]; exact HmSum_one a0 a1 (by omega) (by omega) W g h1 h2
    have HSP : Hid (∀ (W : World) (g : Nat), G W → Row W g 9 [.string a1] → Calls Tryd.prog 19 #[.string P, .slice (some ⟨g, 0, none⟩) 1 1] W fun e w' => e = .returned (.string r) ∧ Below W.heap.size W w') := Lib.hid fun W g h1 h2 => by
      have h := HmSum_one P a1 (by omega) (by omega) W g h1 h2
      rwa [hPd, hmac_pad _ _ _ hjp, hr] at h
    have HSL : Hid (∀ (W : World) (g : Nat), G W → Row W g 9 [.string a1] → Calls Tryd.prog 19 #[.string L, .slice (some ⟨g, 0, none⟩) 1 1] W fun e w' => e = .returned (.string q) ∧ Below W.heap.size W w') := Lib.hid fun W g h1 h2 => by
      rw [← hq]; exact HmSum_one L a1 (by omega) (by omega) W g h1 h2
    have HST : Hid (∀ (W : World) (g : Nat), G W → Row W g 9 [.string a1] → Calls Tryd.prog 19 #[.string tl, .slice (some ⟨g, 0, none⟩) 1 1] W fun e w' => e = .returned (.string q) ∧ Below W.heap.size W w') := Lib.hid fun W g h1 h2 => by
      have hts : tl.size = 32 := by rw [← htl]; show (shaL L.data.toList).toArray.size = 32; rw [List.size_toArray, shaL_length]
      have h := HmSum_one tl a1 (by omega) (by omega) W g h1 h2
      rw [← htl] at h
      rwa [show (ByteArray.mk (shaL L.data.toList).toArray).data.toList = shaL L.data.toList from rfl, hmac_long _ _ (by omega), hq, htl] at h
    have HTX : Hid (∀ W : World, Calls Tryd.prog 16 #[.string L] W fun e w' => e = .returned (.string tl) ∧ Below W.heap.size W w') := Lib.hid fun W => by rw [← htl]; exact refText_any L (by omega) W
    have HSH : Hid (∀ (W : World) (g : Nat), G W → Row W g 9 [.string a1] → Calls Tryd.prog 20 #[.string a0, .int .i64 40, .slice (some ⟨g, 0, none⟩) 1 1] W fun e w' => e = .returned (.string r) ∧ Below W.heap.size W w') := Lib.hid fun W g h1 h2 => by
      have h := HmShort_one a0 a1 40 (by omega) 32 (Nat.le_refl _) (by decide) (by omega) (by omega) W g h1 h2
      rw [hr] at h
      have hrl : r.data.toList.length = 32 := by rw [← hr]; exact hmacL_length _ _
      have hre : r.extract 0 32 = r := by
        apply ByteArray.ext
        apply Array.ext'
        rw [Lib.extract_data, List.drop_zero, Nat.sub_zero, List.take_of_length_le (by omega)]
      rwa [hre] at h
    have hrr : (r.toList == r.toList) = true := by simp
    have hqq : (q.toList == q.toList) = true := by simp
    have B0 := Below.refl w.heap.size w
    have ST : Hid (∀ W, Below w.heap.size w W → G (W.alloc (.cells #[Value.string a1] 9)) ∧ Below w.heap.size w (W.alloc (.cells #[Value.string a1] 9))) := Lib.hid fun W h => ⟨HG.out.below (h.alloc h.size _), h.alloc h.size _⟩
    clear hz hR hZ hRs hZs hL hP hLs hPs hr hq htl hLl hPd hjp hjl hn hk hs w0 w1
    go_enter Tryd.func6, Tryd.ntmps6
    go_wp2_with fail
    refine (awake6_any _ HG.out).mono ?_
    rintro e w1 ⟨rfl, hb⟩
    have B1 := B0.trans (hb.mono B0.size)
    clear hb
    go_wp2_with fail
    refine (HRK.out _).mono ?_
    rintro e w2 ⟨rfl, hb⟩
    have B2 := B1.trans (hb.mono B1.size)
    clear hb B1
    go_wp2_with fail
    refine (HSK.out _ w2.heap.size (ST.out _ B2).1 (Row.new w2 9 [Value.string a1])).mono ?_
    rintro e w3 ⟨rfl, hb⟩
    have B3 := (ST.out _ B2).2.trans (hb.mono (ST.out _ B2).2.size)
    clear hb B2
    go_wp2_with fail
    rw [HC.out]
    refine (HRZ.out _).mono ?_
    rintro e w4 ⟨rfl, hb⟩
    have B4 := B3.trans (hb.mono B3.size)
    clear hb B3
    go_wp2_with fail
    refine (HSP.out _ w4.heap.size (ST.out _ B4).1 (Row.new w4 9 [Value.string a1])).mono ?_
    rintro e w5 ⟨rfl, hb⟩
    have B5 := (ST.out _ B4).2.trans (hb.mono (ST.out _ B4).2.size)
    clear hb B4
    go_wp2_with fail
    refine (HSL.out _ w5.heap.size (ST.out _ B5).1 (Row.new w5 9 [Value.string a1])).mono ?_
    rintro e w6 ⟨rfl, hb⟩
    have B6 := (ST.out _ B5).2.trans (hb.mono (ST.out _ B5).2.size)
    clear hb B5
    go_wp2_with fail
    refine (HTX.out _).mono ?_
    rintro e w7 ⟨rfl, hb⟩
    have B7 := B6.trans (hb.mono B6.size)
    clear hb B6
    go_wp2_with fail
    refine (HST.out _ w7.heap.size (ST.out _ B7).1 (Row.new w7 9 [Value.string a1])).mono ?_
    rintro e w8 ⟨rfl, hb⟩
    have B8 := (ST.out _ B7).2.trans (hb.mono (ST.out _ B7).2.size)
    clear hb B7
    go_wp2_with fail
    refine (HSH.out _ w8.heap.size (ST.out _ B8).1 (Row.new w8 9 [Value.string a1])).mono ?_
    rintro e w9 ⟨rfl, hb⟩
    have B9 := (ST.out _ B8).2.trans (hb.mono (ST.out _ B8).2.size)
    clear hb B8
    go_wp2_with fail
    refine (HSK.out _ w9.heap.size (ST.out _ B9).1 (Row.new w9 9 [Value.string a1])).mono ?_
    rintro e wz ⟨rfl, hb⟩
    have BZ := (ST.out _ B9).2.trans (hb.mono (ST.out _ B9).2.size)
    clear hb B9
    go_wp2_with fail
    go_ret
    exact ⟨rfl, BZ⟩
end Go.Proofs.YtdhplohppcndhaaDoor

namespace Go.Proofs.YtdhplohppcndhaaDoor.hmacKeys
open Go.ChangeShapes Go.WideShapes Go.ChangeAt Go.RowKit
open Go.ChangeMaps (open_string shut_string)
set_option linter.unusedVariables false

theorem own : ownKnob Tryd.prog.godebug = none := by kernel_rfl

theorem door_met (os : Os) (args : Array Value) : laidMetH Tryd.prog Rows.hmacKeysRow.laid ((World.doorLaid Tryd.prog 4000 os).forCall (fun _ _ => 0) ⟨#[], args, []⟩).memory :=
  laidMetH_of_parts3 (fuel := 8) (laidMet_of_run' 8 (by kernel_rfl) (by kernel_rfl)) (by kernel_rfl) (by kernel_rfl)

set_option maxRecDepth 100000 in
theorem lifted (os : Os) (started : os.Started) (H : Type) (enc : TypeId × Value → H) :
    ReturnsInHanded {} Tryd.checked os 6 .any (fun w args => (Rows.hmacKeysSpec.pre enc Tryd.prog Tryd.f6 Rows.hmacKeysRow.domain false w args ∧ laidMetH Tryd.prog Rows.hmacKeysRow.laid w) ∧ sizedMet enc Tryd.prog Tryd.f6 (OpenSpec.ofChange Rows.hmacKeysSpec) false w args) (Rows.hmacKeysSpec.post enc Tryd.prog Tryd.f6 false true false false) := by
  refine returnsInHanded_of_change_and (C := Tryd.checked) (X := fun w _ => laidMetH Tryd.prog Rows.hmacKeysRow.laid w) (fun _ _ _ hh h => h.of_heap hh) own started (by kernel_rfl) Tryd.func6
    (ChangeSpec.witness_shaped (enc := enc) (C := Tryd.checked) (os := os) (X := fun w _ => laidMetH Tryd.prog Rows.hmacKeysRow.laid w) false (World.doorLaid Tryd.prog 4000 os) #[.string ByteArray.empty, .string ByteArray.empty, .int .u8 0] 8 rfl (World.shaped_of_RefB (by kernel_rfl) (by kernel_rfl)) (by kernel_rfl) (by kernel_rfl) (by kernel_rfl) (door_met os _)) ?_
  intro W base args ds gs before hval0 hW hcnd hsz0 hX1 hX2
  have hsz : (DataW.weightsEach Tryd.prog (Tryd.f6.params.toList ++ Rows.hmacKeysSpec.plain.varTypes Tryd.prog) (ds ++ gs)).all (· ≤ reachBytes) = true := hsz0
  have hval : ∀ (j : Nat) t v, Tryd.f6.params[j]? = some t → args[j]? = some v → Value.okWide Tryd.prog W .any base t v := hval0
  have hW' := hW
  obtain ⟨p, q, hA0, hV, rfl, hfz, hnd⟩ := hW
  have hA : DataW.TrodAll enc Tryd.prog W 0 (fun _ => true) true Tryd.f6.params.toList args.toList ds p := hA0
  rw [Tryd.params6] at hA hval hsz
  obtain ⟨v0, vs0, d0, ds0, p0, q0, hargs, rfl, rfl, h0, r0⟩ := trodAll_cons hA
  obtain ⟨v1, vs1, d1, ds1, p1, q1, rfl, rfl, rfl, h1, r1⟩ := trodAll_cons r0
  obtain ⟨v2, vs2, d2, ds2, p2, q2, rfl, rfl, rfl, h2, r2⟩ := trodAll_cons r1
  obtain ⟨rfl, rfl, rfl⟩ := trodAll_nil r2
  obtain rfl : args = #[v0, v1, v2] := by cases args; simp_all
  obtain ⟨rfl, rfl⟩ := trodVars_none hV
  obtain ⟨a0, rfl, rfl, rfl, m0⟩ := open_string Tryd.underlying9 (hval 0 9 v0 rfl rfl) h0
  obtain ⟨a1, rfl, rfl, rfl, m1⟩ := open_string Tryd.underlying9 (hval 1 9 v1 rfl rfl) h1
  obtain ⟨a2, rfl, rfl, rfl, w2⟩ := open_int Tryd.underlying5 (hval 2 5 v2 rfl rfl) h2
  have w0 : a0.size ≤ 140737488355328 := by
    have h47 := reachBytes_lt
    have hh := sized_string hsz (j := 0) (t := 9) rfl rfl
    rw [Array.length_toList] at hh
    exact Nat.le_of_lt (Nat.lt_of_le_of_lt hh h47)
  have w1 : a1.size ≤ 140737488355328 := by
    have h47 := reachBytes_lt
    have hh := sized_string hsz (j := 1) (t := 9) rfl rfl
    rw [Array.length_toList] at hh
    exact Nat.le_of_lt (Nat.lt_of_le_of_lt hh h47)
  clear hA0 hval0 hsz hsz0
  simp only [List.append_nil] at hW'
  refine (HmacKeys_walk a0 a1 a2 w0 w1 w2 W (G_of_laid4 hX1)).mono fun e W' ⟨he, bel⟩ => ?_
  subst he
  exact ⟨_, rfl, _, _, _, [], _, [], hW', trodAll_mk1 (shut_bool Tryd.underlying4 _), (trodAll_cons_mk (shut_string Tryd.underlying9 m0) (trodAll_cons_mk (shut_string Tryd.underlying9 m1) (trodAll_cons_mk (shut_int Tryd.underlying5 w2) trodAll_mk0))), rfl, bel.frame _, fun h => by cases h⟩

theorem over : Rows.hmacKeysRow.holds Tryd.pinned (OpenSpec.ofChange Rows.hmacKeysSpec) :=
  OpenClaim.holds_of_wide 6 Tryd.f6 rfl rfl rfl rfl rfl rfl rfl ⟨rfl, rfl, rfl, rfl, rfl⟩ rfl rfl rfl rfl rfl (by kernel_rfl) Tryd.func6 (by kernel_rfl)
    (of_decide_eq_true (by kernel_rfl)) (by unfold Func.isWrapper; first | (rw [if_pos (by decide +kernel)]; kernel_rfl) | (rw [if_neg (by decide +kernel)]; exact ⟨rfl, rfl⟩))
    (fun os started H enc _ => lifted os started H enc)

theorem proved : Rows.HmacKeysCardSaid :=
  Claim7.holds_tied_plain_at .later [] [.data, .data, .data, .data] true (true, "f48f9b210887ffc00a96a4eddd30b58c218d5047edd581a896c38074d4d19eae") false
    over (fun _ h => by cases h) (by kernel_rfl) (fun _ h => by cases h) hmacKeys_row_tie rfl ⟨rfl, rfl⟩ (by kernel_rfl) rfl
    (fun f fn hf hfn => by
      obtain rfl : f = 6 := Option.some.inj ((show Tryd.prog.funcNamed "cashier/cashierlaw06.HmacKeys" = some 6 by kernel_rfl).symm.trans hf) |>.symm
      obtain rfl : fn = Tryd.f6 := (Option.some.inj (Tryd.func6.symm.trans hfn)).symm
      exact ⟨by kernel_rfl, fun j t ht => by
        rw [Tryd.params6] at ht
        have hm : t ∈ [9, 9, 5] := by simpa using Array.mem_of_getElem? ht
        have hall : ([9, 9, 5].all fun u => !Tryd.prog.wantsStandIn u) = true := by kernel_rfl
        exact (show Tryd.prog.wantsStandIn t = false by simpa using List.all_eq_true.1 hall t hm)⟩)
    (by kernel_rfl)

end Go.Proofs.YtdhplohppcndhaaDoor.hmacKeys
