/- The walk of UtfJoins. -/
import Derived.Deep.DeepCutAuto
import Derived.Deep.RegionWith
import Derived.Test.YthnanmaeehobdaaUtfWritesW
import Derived.Test.YthnanmaeehobdaaUJoin
import Derived.Test.YthnanmaeehobdaaRound
namespace Go.Proofs.Ythnanmaeehobdaa
open Go.RowKit Go.Shelf
set_option linter.unusedVariables false
attribute [local go_sem] Oper.semAt_some

theorem below_grow {w w' : World} (h : Below w.heap.size w w') : w.grownBy w' none := ⟨h.os, h.tape, h.output, h.size, fun k hk _ => h.block k hk⟩
theorem below_others {w w' : World} (h : Below w.heap.size w w') : KeepsOthers w w' := KeepsOthers.of_grownBy (below_grow h) (fun j o e => by cases e)
theorem below_walks {w w' : World} (h : Below w.heap.size w w') : KeepsWalks w w' := KeepsWalks.of_grownBy (below_grow h) (fun j o e => by cases e)

set_option maxRecDepth 100000 in
set_option maxHeartbeats 4000000 in
theorem UtfJoins_walk (a0 : ByteArray) (a1 : ByteArray) (w0 : a0.size ≤ 140737488355328) (w1 : a1.size ≤ 140737488355328) (w : World) :
    Calls Try.prog 6 #[.string a0, .string a1] w fun e w' => e = .returned (.bool true) ∧ Below w.heap.size w w' := by
  refine (callsIn_wide (n := 6)).1 ?_
  refine callsIn_of_wp_marks Try.func6 rfl trivial ?_ rfl
  simp only [Try.ntmps6, List.size_toArray, List.length_cons, List.length_nil, Nat.reduceAdd, Nat.reduceSub, Array.replicate_succ, Array.replicate_zero, List.push_toArray, List.append_toArray, List.nil_append, List.cons_append]
  rw [wpIn_wide]
  have b1 := Boxed.new w 9 (.string a0)
  have b2 := Boxed.new (w.alloc (.cells #[.string a0] 9)) 4 (.bool false)
  rw [World.size_alloc] at b2
  have B1 := b1.alloc (.cells #[.bool false] 4)
  have hBe : Below w.heap.size w ((w.alloc (.cells #[.string a0] 9)).alloc (.cells #[.bool false] 4)) := ((Below.refl _ _).alloc (Nat.le_refl _) _).alloc (by simp) _
  have hsz2 : ((w.alloc (.cells #[.string a0] 9)).alloc (.cells #[.bool false] 4)).heap.size = w.heap.size + 2 := by simp
  have HB := Lib.hid (And.intro B1 (And.intro b2 (And.intro hBe hsz2)))
  clear b1 b2 B1 hBe hsz2
  go_wp2_with fail
  refine (awake_any _).mono ?_
  rintro e wa ⟨rfl, hb0⟩
  have HA : Hid (Boxed wa w.heap.size 9 (.string a0) ∧ Boxed wa (w.heap.size + 1) 4 (.bool false) ∧ Below w.heap.size w wa ∧ w.heap.size + 2 ≤ wa.heap.size) := Lib.hid
    ⟨boxed_below HB.out.1 hb0 (by rw [HB.out.2.2.2]; omega), boxed_below HB.out.2.1 hb0 (by rw [HB.out.2.2.2]; omega), HB.out.2.2.1.trans (hb0.mono (by rw [HB.out.2.2.2]; omega)), by have := hb0.size; rw [HB.out.2.2.2] at this; exact this⟩
  clear HB hb0
  have hc1 := HA.out.1.cell
  have hc2 := HA.out.2.1.cell
  have hf2 := HA.out.2.1.frozen
  obtain ⟨M, hmx, hM⟩ : ∃ M : Int, (if a0.size < a1.size then (a1.size : Int) else (a0.size : Int)) = M ∧ (M ≤ 500 ↔ a0.size ≤ 500 ∧ a1.size ≤ 500) := ⟨_, rfl, by split <;> omega⟩
  have hmx2 : (if (a0.size : Int) < (a1.size : Int) then (a1.size : Int) else (a0.size : Int)) = M := by rw [← hmx]; split <;> split <;> omega
  by_cases hbig : a0.size ≤ 500 ∧ a1.size ≤ 500
  · obtain ⟨hs, ht⟩ := hbig
    have hM5 : M ≤ 500 := hM.2 ⟨hs, ht⟩
    have HS := Lib.hid (And.intro hs ht)
    clear hM hs ht
    have hV0 : Hid (∀ W : World, Calls Try.prog 12 #[.string a0] W fun e w' => e = .returned (.bool (whole a0)) ∧ Below W.heap.size W w') := Lib.hid fun W => Valid_any a0 W w0
    have hV1 : Hid (∀ W : World, Calls Try.prog 12 #[.string a1] W fun e w' => e = .returned (.bool (whole a1)) ∧ Below W.heap.size W w') := Lib.hid fun W => Valid_any a1 W w1
    cases hw0 : whole a0 with
    | false =>
      rw [hw0] at hV0
      clear hw0
      go_wp2_with (go_at_call 12; ((with_reducible refine (hV0.out _).mono ?_); rintro e wb ⟨rfl, hbb⟩; have hvr := boxed_below HA.out.2.1 hbb HA.out.2.1.lt; have hd2 := hvr.cell; have hg2 := hvr.frozen; have HVR := Lib.hid hvr))
      have hR5 := (HVR.out.set (.bool true)).cell
      exact ⟨.bool true, by simp [results, Try.f6, go_sem, hR5], rfl, (HA.out.2.2.1.trans (hbb.mono HA.out.2.2.1.size)).setCell (p := ⟨w.heap.size + 1, 0, none⟩) (by show _ ≤ w.heap.size + 1; omega) _⟩
    | true =>
      cases hw1 : whole a1 with
      | false =>
        rw [hw0] at hV0
        rw [hw1] at hV1
        clear hw0 hw1
        go_wp2_with (first
          | (go_at_call 12; ((with_reducible refine (hV0.out _).mono ?_); rintro e wb ⟨rfl, hbb⟩; have hvs := boxed_below HA.out.1 hbb HA.out.1.lt; have hd1 := hvs.cell))
          | (go_at_call 12; ((with_reducible refine (hV1.out _).mono ?_); rintro e wc ⟨rfl, hbc⟩; have hbx := hbb.trans (hbc.mono hbb.size); have hvs2 := boxed_below HA.out.1 hbx HA.out.1.lt; have hvr := boxed_below HA.out.2.1 hbx HA.out.2.1.lt; have hd3 := hvs2.cell; have hd2 := hvr.cell; have hg2 := hvr.frozen; have HVR := Lib.hid (And.intro hvr (And.intro hvs2 hbx)); clear hvr hvs2 hvs)))
        have hR5 := (HVR.out.1.set (.bool true)).cell
        exact ⟨.bool true, by simp [results, Try.f6, go_sem, hR5], rfl, (HA.out.2.2.1.trans (hbx.mono HA.out.2.2.1.size)).setCell (p := ⟨w.heap.size + 1, 0, none⟩) (by show _ ≤ w.heap.size + 1; omega) _⟩
      | true =>
        have HW := Lib.hid (And.intro hw0 hw1)
        rw [hw0] at hV0
        rw [hw1] at hV1
        clear hw0 hw1
        go_wp2_with (first
          | (go_at_call 12; ((with_reducible refine (hV0.out _).mono ?_); rintro e wb ⟨rfl, hbb⟩; have hvs := boxed_below HA.out.1 hbb HA.out.1.lt; have hd1 := hvs.cell))
          | (go_at_call 12; ((with_reducible refine (hV1.out _).mono ?_); rintro e wc ⟨rfl, hbc⟩; have hbx := hbb.trans (hbc.mono hbb.size); have hvs2 := boxed_below HA.out.1 hbx HA.out.1.lt; have hvr := boxed_below HA.out.2.1 hbx HA.out.2.1.lt; have hd3 := hvs2.cell; have hd2 := hvr.cell; have hg2 := hvr.frozen; have HVR := Lib.hid (And.intro hvr (And.intro hvs2 hbx)); clear hvr hvs2 hvs)))
        have hload : ∀ w', Below wc.heap.size wc w' → w'.cell? ⟨w.heap.size, 0, none⟩ = some (.string a0) := fun w' h => (boxed_below HVR.out.2.1 h HVR.out.2.1.lt).cell
        have hJ := whole_append HW.out.1 HW.out.2
        have hsz : (a0 ++ a1).size ≤ 140737488355328 := by rw [ByteArray.size_append]; have := HS.out; omega
        obtain ⟨N0, HN0⟩ : ∃ N, Hid ((runesB a0).length = N) := ⟨_, Lib.hid rfl⟩
        obtain ⟨N1, HN1⟩ : ∃ N, Hid ((runesB a1).length = N) := ⟨_, Lib.hid rfl⟩
        have hn0 : N0 ≤ 500 := by rw [← HN0.out]; have := runesB_length a0; have := HS.out; omega
        have hn1 : N1 ≤ 500 := by rw [← HN1.out]; have := runesB_length a1; have := HS.out; omega
        have KV : Hid (∀ W : World, Calls Try.prog 12 #[.string (a0 ++ a1)] W fun e w' => e = .returned (.bool true) ∧ Below W.heap.size W w') := Lib.hid fun W => by
          have h := Valid_any (a0 ++ a1) W hsz
          rw [hJ.1] at h
          exact h
        have KC : Hid (∀ W : World, Calls Try.prog 10 #[.string (a0 ++ a1)] W fun e w' => e = .returned (.int .i64 ((N0 : Int) + (N1 : Int))) ∧ Below W.heap.size W w') := Lib.hid fun W => by
          have h := Count_any (a0 ++ a1) W hsz
          rw [hJ.2, HN0.out, HN1.out] at h
          exact h
        have KC0 : Hid (∀ W : World, Calls Try.prog 10 #[.string a0] W fun e w' => e = .returned (.int .i64 (N0 : Nat)) ∧ Below W.heap.size W w') := Lib.hid fun W => by
          have h := Count_any a0 W w0
          rw [HN0.out] at h
          exact h
        have KC1 : Hid (∀ W : World, Calls Try.prog 10 #[.string a1] W fun e w' => e = .returned (.int .i64 (N1 : Nat)) ∧ Below W.heap.size W w') := Lib.hid fun W => by
          have h := Count_any a1 W w1
          rw [HN1.out] at h
          exact h
        have hadd : ∀ W : World, (Op.stringOp .add a0 a1).run Try.prog W = .ok (.string (a0 ++ a1)) W := fun W => run_string_add_sum W a0 a1 (by have := HS.out; omega)
        have hwn : IntKind.i64.wrap ((N0 : Int) + (N1 : Int)) = (N0 : Int) + (N1 : Int) := IntWalk.i64_in _ (by omega)
        clear hJ hsz
        refine region_quiet_lit (Below wc.heap.size wc) (by kernel_rfl) (by kernel_rfl) (below_drewN (Below.refl _ _) 1) ?_
        repeat (go_big_quiet_step ((first
          | (intro hC; with_reducible rfl)
          | (intro hC; rw [hload _ hC]; exact ⟨rfl, rfl⟩)
          | (intro hC; go_at_call 12; refine (KV.out _).mono ?_; rintro e w'' ⟨rfl, hb⟩; exact ⟨rfl, hC.trans (hb.mono hC.size)⟩)
          | (intro hC; go_at_call_of 10 (Value.string (a0 ++ a1)); refine (KC.out _).mono ?_; rintro e w'' ⟨rfl, hb⟩; exact ⟨rfl, hC.trans (hb.mono hC.size)⟩)
          | (intro hC; go_at_call_of 10 (Value.string a0); refine (KC0.out _).mono ?_; rintro e w'' ⟨rfl, hb⟩; exact ⟨rfl, hC.trans (hb.mono hC.size)⟩)
          | (intro hC; go_at_call_of 10 (Value.string a1); refine (KC1.out _).mono ?_; rintro e w'' ⟨rfl, hb⟩; exact ⟨rfl, hC.trans (hb.mono hC.size)⟩))))
        refine wpQuiet_nil ?_
        intro wd hwd
        have HVS := Lib.hid (boxed_below HVR.out.2.1 hwd HVR.out.2.1.lt)
        have HVB := Lib.hid (boxed_below HVR.out.1 hwd HVR.out.1.lt)
        have HBW := Lib.hid ((HA.out.2.2.1.trans (hbx.mono HA.out.2.2.1.size)).trans (hwd.mono (Nat.le_trans HA.out.2.2.1.size hbx.size)))
        have hcS := HVS.out.cell
        have hwsz : w.heap.size + 2 ≤ wd.heap.size := Nat.le_trans HA.out.2.2.2 (Nat.le_trans hbx.size hwd.size)
        clear hload hadd hwn hn0 hn1 hbx hwd hd1 hd2 hd3 hg2 hbb hbc hM5 hmx hmx2
        go_wp2_with fail
        refine ((callsIn_wide (n := 0)).1 (Runes_in 0 a0 _)).mono ?_
        rintro e w2 ⟨rfl, rfl⟩
        go_wp2_with fail
        have bN := Boxed.new wd 9 (.string a0)
        have hBd : Below wd.heap.size wd (wd.alloc (.cells #[.string a0] 9)) := (Below.refl _ wd).alloc (Nat.le_refl _) _
        rw [← wpIn_wide (n := 6)]
        refine' wpIn_rangeFunc_ownG rfl (by omega) (gf := 20) (lb := #[.pointer (some ⟨wd.heap.size, 0, none⟩)]) rfl trivial (enters_of Try.func20 (by kernel_rfl) rfl)
          (Runes_stops 5 (by omega) wd.heap.size a0 w0 _ bN) keepsR_t (keepsR_b (by simp)) (Below.refl _ _) (fun _ => rfl)
          (fun pre W => Boxed W w.heap.size 9 (.string a0) ∧ Boxed W (w.heap.size + 1) 4 (.bool false) ∧ Boxed W wd.heap.size 9 (.string a0) ∧ Below w.heap.size w W)
          (fun _ _ _ => False)
          (OwnFrom.and (Own.from (own_box _ _ _) _) (OwnFrom.and (Own.from (own_box _ _ _) _) (OwnFrom.and (Own.from (own_box _ _ _) _) (ownFrom_below (Nat.le_refl _) (by simp; omega)))))
          (fun _ _ _ _ _ hs _ _ => hs)
          ⟨HVS.out.alloc _, HVB.out.alloc _, bN, HBW.out.trans (hBd.mono (by omega))⟩
          _ _ _ _ _
        case refine'_2 =>
          intro l x W K hK
          gi_wp2
          exact hK
        case refine'_5 =>
          rintro D c pre W _ _ h _
          exact h.elim
        case refine'_3 =>
          rintro l' pre ⟨⟨p, c⟩, hx⟩ W ⟨hvs, hvr, hvn, hB⟩ hlt
          obtain ⟨hcv, hle, hq1, hq2, hq3⟩ := whole_cut HW.out.1 hx
          dsimp only at hcv hle hq1 hq2 hq3
          obtain ⟨y, hy⟩ : ∃ y, putB (c : Int) = y := ⟨_, rfl⟩
          obtain ⟨k, hk⟩ : ∃ k, encLen c = k := ⟨_, rfl⟩
          have hys : y.size = k := by rw [← hy, putB_size hcv, hk]
          have hye : a0.extract p (p + k) = y := by
            rw [← hy, putB_nat hcv, ← hk, ByteArray.ext_iff, ← Array.toList_inj]
            exact hq3
          rw [hk] at hle
          have KA : Hid (∀ W : World, Calls Try.prog 12 #[.string (a0.extract 0 p)] W fun e w' => e = .returned (.bool true) ∧ Below W.heap.size W w') := Lib.hid fun W => by
            have h := Valid_any (a0.extract 0 p) W (by rw [ByteArray.size_extract]; omega)
            rw [hq1] at h
            exact h
          have KB : Hid (∀ W : World, Calls Try.prog 12 #[.string (a0.extract p a0.size)] W fun e w' => e = .returned (.bool true) ∧ Below W.heap.size W w') := Lib.hid fun W => by
            have h := Valid_any (a0.extract p a0.size) W (by rw [ByteArray.size_extract]; omega)
            rw [hq2] at h
            exact h
          have KP : Hid (∀ W : World, Calls Try.prog 13 #[.int .i32 (c : Nat)] W fun e w' => e = .returned (.string y) ∧ W = w') := Lib.hid fun W => by
            have h := Put_any (c : Int) W
            rw [hy] at h
            exact h
          have hload : ∀ w', Below W.heap.size W w' → w'.cell? ⟨w.heap.size, 0, none⟩ = some (.string a0) := fun w' h => (boxed_below hvs h hvs.lt).cell
          have hb0 := HS.out.1
          have hpi : (p : Int) ≤ (a0.size : Int) := by omega
          have hpk : (p : Int) + (k : Int) ≤ (a0.size : Int) := by omega
          have hpw : IntKind.i64.wrap ((p : Int) + (k : Int)) = (p : Int) + (k : Int) := IntWalk.i64_in _ (by omega)
          have hpt : ((p : Int) + (k : Int)).toNat = p + k := by omega
          have hp0 : (0 : Int) ≤ (p : Int) + (k : Int) := by omega
          have HV := Lib.hid (And.intro hvs (And.intro hvr (And.intro hvn hB)))
          clear hq1 hq2 hq3 hcv hy hk hvs hvr hvn hB hle
          gi_wp2
          refine round_quiet_lit (Below W.heap.size W) (by kernel_rfl) (by kernel_rfl) (by kernel_rfl) (below_drewN (Below.refl _ _) 1) ?_
          repeat (go_big_quiet_step ((first
            | (intro hC; with_reducible rfl)
            | (intro hC; rw [hload _ hC]; exact ⟨rfl, rfl⟩)
            | (intro hC; go_at_call_of 12 (Value.string (a0.extract 0 p)); refine (KA.out _).mono ?_; rintro e w'' ⟨rfl, hb⟩; exact ⟨rfl, hC.trans (hb.mono hC.size)⟩)
            | (intro hC; go_at_call_of 12 (Value.string (a0.extract p a0.size)); refine (KB.out _).mono ?_; rintro e w'' ⟨rfl, hb⟩; exact ⟨rfl, hC.trans (hb.mono hC.size)⟩)
            | (intro hC; go_at_call 13; refine (KP.out _).mono ?_; rintro e w'' ⟨rfl, rfl⟩; exact ⟨rfl, hC⟩))))
          refine wpQuiet_nil ?_
          intro wf hwf
          clear hload
          gi_wp2
          exact ⟨(below_others hwf).from _, ⟨below_walks hwf, hwf.block _ HV.out.2.2.1.lt⟩, boxed_below HV.out.1 hwf HV.out.1.lt, boxed_below HV.out.2.1 hwf HV.out.2.1.lt, boxed_below HV.out.2.2.1 hwf HV.out.2.2.1.lt, HV.out.2.2.2.trans (hwf.mono HV.out.2.2.2.size)⟩
        case refine'_4 =>
          rintro D ys W hD hys ⟨hvs, hvr, hvn, hB⟩ hK
          have hf2 := hvr.frozen
          have hc2 := hvr.cell
          have hDD : w.heap.size ≤ D := by simp at hD; omega
          go_wp2_with fail
          have hK5 := (KeepsOthers.setCell W ⟨w.heap.size + 1, 0, none⟩ (.bool true)).same D _ hK rfl
          have hR5 := ((hvr.set (.bool true)).kept (grownBy_putObj' _ D (.deferred none)) (box_ne (hvr.set (.bool true)) hK5)).cell
          refine ⟨by simp, .inl ⟨_, _, rfl, run_takeDeferred hK5, ?_⟩⟩
          refine ⟨.bool true, by simp [results, Try.f6, go_sem, hR5], rfl, ?_⟩
          exact (hB.setCell (p := ⟨w.heap.size + 1, 0, none⟩) (by show _ ≤ w.heap.size + 1; omega) _).trans (belowK_b (w := w) (Nat.le_refl _) _ D _ _ hDD hK5 rfl rfl)
  · have hM5 : 500 < M := by omega
    clear hM hbig
    go_wp2_with fail
    have hR5 := (HA.out.2.1.set (.bool true)).cell
    exact ⟨.bool true, by simp [results, Try.f6, go_sem, hR5], rfl, HA.out.2.2.1.setCell (p := ⟨w.heap.size + 1, 0, none⟩) (by show _ ≤ w.heap.size + 1; omega) _⟩
end Go.Proofs.Ythnanmaeehobdaa
