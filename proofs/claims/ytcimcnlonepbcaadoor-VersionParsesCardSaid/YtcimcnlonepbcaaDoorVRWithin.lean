/- The document's Within. -/
import Derived.Test.YtcimcnlonepbcaaDoorVRef
import Derived.Test.YtcimcnlonepbcaaDoorVCmpR
namespace Go.Proofs.YtcimcnlonepbcaaDoor
open Go.RowKit
set_option linter.unusedVariables false

theorem rpo_len : ∀ (l : List (List UInt8)) (ns : List Nat), rpo l = some ns → ns.length = l.length := by
  intro l
  induction l with
  | nil => intro ns h; rw [rpo] at h; injection h with h; rw [← h]; rfl
  | cons p l ih =>
    intro ns h
    rw [rpo] at h
    split at h
    · rename_i a m e1 e2
      injection h with h
      rw [← h, List.length_cons, List.length_cons, ih _ e2]
    · cases h
theorem rpo_pv (s : List UInt8) : pv s = match rpo (spl [] s) with | some [a, b, c] => some (a, b, c) | _ => none := by
  unfold pv
  split
  · rename_i p q r e
    rw [e]
    simp only [rpo]
    cases numE p <;> cases numE q <;> cases numE r <;> rfl
  · rename_i hn
    split
    · rename_i a b c e
      have hl := rpo_len _ _ e
      match h : spl [] s, hl with
      | [p, q, r], _ => exact absurd h (hn p q r)
    · rfl
def get3 (v : V3) (i : Nat) : Nat := [v.1, v.2.1, v.2.2].getD i 0
/-- What the document's Parse answers. -/
def RefV (o : Option V3) (w : World) (e : Ending) (w' : World) : Prop :=
  ∃ va, e = .returned (.tuple #[va, .bool o.isSome]) ∧ (∀ v, o = some v → ∃ g cap, va = .slice (some ⟨g, 0, none⟩) 3 cap ∧ g < w'.heap.size ∧ ∀ i, i < 3 → w'.cell? ⟨g, i, none⟩ = some (.int .i64 (get3 v i : Nat))) ∧ Below w.heap.size w w'
theorem refVParse_v (s : ByteArray) (w : World) (hs : s.size ≤ 1000) : Calls Tryd.prog 8 #[.string s] w (RefV (pv s.data.toList) w) := by
  refine (refVParse_any s w hs).mono ?_
  intro e w' h
  rw [rpo_pv]
  rcases h with ⟨h1, rfl, hB⟩ | ⟨ns, va, h1, rfl, hO, hB⟩
  · rw [h1]
    exact ⟨_, rfl, (fun v h => by cases h), hB⟩
  · rw [h1]
    by_cases h3 : ns.length = 3
    · match ns, h3, hO with
      | [a, b, c], _, hO =>
        refine ⟨va, rfl, fun v hv => ?_, hB⟩
        obtain rfl : (a, b, c) = v := by simpa using hv
        have hO' := hO
        rcases hO.2 with ⟨_, e⟩ | ⟨g, cap, cur, rfl, _⟩
        · exact absurd e (by simp)
        · refine ⟨g, cap, rfl, (hO'.lt g rfl).2, fun i hi => ?_⟩
          have := hO'.cellAt (g := g) i (by simp; omega)
          rw [this]
          rcases (by omega : i = 0 ∨ i = 1 ∨ i = 2) with rfl | rfl | rfl <;> rfl
    · refine ⟨va, ?_, fun v hv => ?_, hB⟩
      · rw [decide_eq_false h3]
        congr 3
        split
        · rename_i a b c e
          injection e with e
          rw [e] at h3
          exact absurd rfl h3
        · rfl
      · exfalso
        split at hv
        · rename_i a b c e
          injection e with e
          rw [e] at h3
          exact absurd rfl h3
        · cases hv
theorem refCmp_v (a b : V3) (g1 g2 m1 m2 : Nat) (w : World) (h1 : ∀ i, i < 3 → w.cell? ⟨g1, i, none⟩ = some (.int .i64 (get3 a i : Nat))) (h2 : ∀ i, i < 3 → w.cell? ⟨g2, i, none⟩ = some (.int .i64 (get3 b i : Nat))) :
    Calls Tryd.prog 11 #[.slice (some ⟨g1, 0, none⟩) 3 m1, .slice (some ⟨g2, 0, none⟩) 3 m2] w fun e w' => e = .returned (.int .i64 (cmpV a b)) ∧ ∃ q, w' = w.drewN q := by
  have h := refVCmp_any g1 g2 3 3 m1 m2 (get3 a) (get3 b) w h1 h2 (by omega) (by omega)
  exact h

set_option maxRecDepth 4000 in
set_option maxHeartbeats 4000000 in
theorem refVWithin_any (s lo hi : ByteArray) (hs : s.size ≤ 1000) (hl : lo.size ≤ 1000) (hh : hi.size ≤ 1000) (w : World) :
    Calls Tryd.prog 15 #[.string s, .string lo, .string hi] w fun e w' => e = .returned (.bool (withinB s lo hi)) ∧ Below w.heap.size w w' := by
  have P1 := Lib.hid (fun W => refVParse_v s W hs)
  have P2 := Lib.hid (fun W => refVParse_v lo W hl)
  have P3 := Lib.hid (fun W => refVParse_v hi W hh)
  obtain ⟨R, hR⟩ : ∃ R, withinB s lo hi = R := ⟨_, rfl⟩
  rw [hR]
  unfold withinB at hR
  obtain ⟨o1, h1⟩ : ∃ o, pv s.data.toList = o := ⟨_, rfl⟩
  obtain ⟨o2, h2⟩ : ∃ o, pv lo.data.toList = o := ⟨_, rfl⟩
  obtain ⟨o3, h3⟩ : ∃ o, pv hi.data.toList = o := ⟨_, rfl⟩
  rw [h1, h2, h3] at hR
  rw [h1] at P1
  rw [h2] at P2
  rw [h3] at P3
  clear h1 h2 h3 hs hl hh
  cases o1 with
  | none =>
    cases o2 with
    | none =>
      cases o3 with
      | none =>
        have HR := Lib.hid hR
        clear hR
        go_enter Tryd.func15, Tryd.ntmps15
        go_wp2_with fail
        refine (P1.out _).mono ?_
        rintro e w1 ⟨va1, rfl, hv1, hb1⟩
        have HV1 := Lib.hid hv1
        have HB1 := Lib.hid hb1
        clear hv1 hb1
        simp only [Option.isSome_none]
        go_wp2_with fail
        refine (P2.out _).mono ?_
        rintro e w2 ⟨va2, rfl, hv2, hb2⟩
        have HV2 := Lib.hid hv2
        have HB2 := Lib.hid (HB1.out.trans (hb2.mono HB1.out.size))
        have Hb2 := Lib.hid hb2
        clear hv2 hb2
        simp only [Option.isSome_none]
        go_wp2_with fail
        refine (P3.out _).mono ?_
        rintro e w3 ⟨va3, rfl, hv3, hb3⟩
        have HV3 := Lib.hid hv3
        have HB3 := Lib.hid (HB2.out.trans (hb3.mono HB2.out.size))
        have Hb3 := Lib.hid hb3
        clear hv3 hb3
        simp only [Option.isSome_none]
        go_wp2
        go_ret
        exact ⟨ret_boolE HR.out, HB3.out⟩
      | some v3 =>
        have HR := Lib.hid hR
        clear hR
        go_enter Tryd.func15, Tryd.ntmps15
        go_wp2_with fail
        refine (P1.out _).mono ?_
        rintro e w1 ⟨va1, rfl, hv1, hb1⟩
        have HV1 := Lib.hid hv1
        have HB1 := Lib.hid hb1
        clear hv1 hb1
        simp only [Option.isSome_none]
        go_wp2_with fail
        refine (P2.out _).mono ?_
        rintro e w2 ⟨va2, rfl, hv2, hb2⟩
        have HV2 := Lib.hid hv2
        have HB2 := Lib.hid (HB1.out.trans (hb2.mono HB1.out.size))
        have Hb2 := Lib.hid hb2
        clear hv2 hb2
        simp only [Option.isSome_none]
        go_wp2_with fail
        refine (P3.out _).mono ?_
        rintro e w3 ⟨va3, rfl, hv3, hb3⟩
        have HV3 := Lib.hid hv3
        have HB3 := Lib.hid (HB2.out.trans (hb3.mono HB2.out.size))
        have Hb3 := Lib.hid hb3
        clear hv3 hb3
        simp only [Option.isSome_some]
        go_wp2
        go_ret
        exact ⟨ret_boolE HR.out, HB3.out⟩
    | some v2 =>
      cases o3 with
      | none =>
        have HR := Lib.hid hR
        clear hR
        go_enter Tryd.func15, Tryd.ntmps15
        go_wp2_with fail
        refine (P1.out _).mono ?_
        rintro e w1 ⟨va1, rfl, hv1, hb1⟩
        have HV1 := Lib.hid hv1
        have HB1 := Lib.hid hb1
        clear hv1 hb1
        simp only [Option.isSome_none]
        go_wp2_with fail
        refine (P2.out _).mono ?_
        rintro e w2 ⟨va2, rfl, hv2, hb2⟩
        have HV2 := Lib.hid hv2
        have HB2 := Lib.hid (HB1.out.trans (hb2.mono HB1.out.size))
        have Hb2 := Lib.hid hb2
        clear hv2 hb2
        simp only [Option.isSome_some]
        go_wp2_with fail
        refine (P3.out _).mono ?_
        rintro e w3 ⟨va3, rfl, hv3, hb3⟩
        have HV3 := Lib.hid hv3
        have HB3 := Lib.hid (HB2.out.trans (hb3.mono HB2.out.size))
        have Hb3 := Lib.hid hb3
        clear hv3 hb3
        simp only [Option.isSome_none]
        go_wp2
        go_ret
        exact ⟨ret_boolE HR.out, HB3.out⟩
      | some v3 =>
        have HR := Lib.hid hR
        clear hR
        go_enter Tryd.func15, Tryd.ntmps15
        go_wp2_with fail
        refine (P1.out _).mono ?_
        rintro e w1 ⟨va1, rfl, hv1, hb1⟩
        have HV1 := Lib.hid hv1
        have HB1 := Lib.hid hb1
        clear hv1 hb1
        simp only [Option.isSome_none]
        go_wp2_with fail
        refine (P2.out _).mono ?_
        rintro e w2 ⟨va2, rfl, hv2, hb2⟩
        have HV2 := Lib.hid hv2
        have HB2 := Lib.hid (HB1.out.trans (hb2.mono HB1.out.size))
        have Hb2 := Lib.hid hb2
        clear hv2 hb2
        simp only [Option.isSome_some]
        go_wp2_with fail
        refine (P3.out _).mono ?_
        rintro e w3 ⟨va3, rfl, hv3, hb3⟩
        have HV3 := Lib.hid hv3
        have HB3 := Lib.hid (HB2.out.trans (hb3.mono HB2.out.size))
        have Hb3 := Lib.hid hb3
        clear hv3 hb3
        simp only [Option.isSome_some]
        go_wp2
        go_ret
        exact ⟨ret_boolE HR.out, HB3.out⟩
  | some v1 =>
    cases o2 with
    | none =>
      cases o3 with
      | none =>
        have HR := Lib.hid hR
        clear hR
        go_enter Tryd.func15, Tryd.ntmps15
        go_wp2_with fail
        refine (P1.out _).mono ?_
        rintro e w1 ⟨va1, rfl, hv1, hb1⟩
        have HV1 := Lib.hid hv1
        have HB1 := Lib.hid hb1
        clear hv1 hb1
        simp only [Option.isSome_some]
        go_wp2_with fail
        refine (P2.out _).mono ?_
        rintro e w2 ⟨va2, rfl, hv2, hb2⟩
        have HV2 := Lib.hid hv2
        have HB2 := Lib.hid (HB1.out.trans (hb2.mono HB1.out.size))
        have Hb2 := Lib.hid hb2
        clear hv2 hb2
        simp only [Option.isSome_none]
        go_wp2_with fail
        refine (P3.out _).mono ?_
        rintro e w3 ⟨va3, rfl, hv3, hb3⟩
        have HV3 := Lib.hid hv3
        have HB3 := Lib.hid (HB2.out.trans (hb3.mono HB2.out.size))
        have Hb3 := Lib.hid hb3
        clear hv3 hb3
        simp only [Option.isSome_none]
        go_wp2
        go_ret
        exact ⟨ret_boolE HR.out, HB3.out⟩
      | some v3 =>
        have HR := Lib.hid hR
        clear hR
        go_enter Tryd.func15, Tryd.ntmps15
        go_wp2_with fail
        refine (P1.out _).mono ?_
        rintro e w1 ⟨va1, rfl, hv1, hb1⟩
        have HV1 := Lib.hid hv1
        have HB1 := Lib.hid hb1
        clear hv1 hb1
        simp only [Option.isSome_some]
        go_wp2_with fail
        refine (P2.out _).mono ?_
        rintro e w2 ⟨va2, rfl, hv2, hb2⟩
        have HV2 := Lib.hid hv2
        have HB2 := Lib.hid (HB1.out.trans (hb2.mono HB1.out.size))
        have Hb2 := Lib.hid hb2
        clear hv2 hb2
        simp only [Option.isSome_none]
        go_wp2_with fail
        refine (P3.out _).mono ?_
        rintro e w3 ⟨va3, rfl, hv3, hb3⟩
        have HV3 := Lib.hid hv3
        have HB3 := Lib.hid (HB2.out.trans (hb3.mono HB2.out.size))
        have Hb3 := Lib.hid hb3
        clear hv3 hb3
        simp only [Option.isSome_some]
        go_wp2
        go_ret
        exact ⟨ret_boolE HR.out, HB3.out⟩
    | some v2 =>
      cases o3 with
      | none =>
        have HR := Lib.hid hR
        clear hR
        go_enter Tryd.func15, Tryd.ntmps15
        go_wp2_with fail
        refine (P1.out _).mono ?_
        rintro e w1 ⟨va1, rfl, hv1, hb1⟩
        have HV1 := Lib.hid hv1
        have HB1 := Lib.hid hb1
        clear hv1 hb1
        simp only [Option.isSome_some]
        go_wp2_with fail
        refine (P2.out _).mono ?_
        rintro e w2 ⟨va2, rfl, hv2, hb2⟩
        have HV2 := Lib.hid hv2
        have HB2 := Lib.hid (HB1.out.trans (hb2.mono HB1.out.size))
        have Hb2 := Lib.hid hb2
        clear hv2 hb2
        simp only [Option.isSome_some]
        go_wp2_with fail
        refine (P3.out _).mono ?_
        rintro e w3 ⟨va3, rfl, hv3, hb3⟩
        have HV3 := Lib.hid hv3
        have HB3 := Lib.hid (HB2.out.trans (hb3.mono HB2.out.size))
        have Hb3 := Lib.hid hb3
        clear hv3 hb3
        simp only [Option.isSome_none]
        go_wp2
        go_ret
        exact ⟨ret_boolE HR.out, HB3.out⟩
      | some v3 =>
        simp only at hR
        have hn := cmpV_neg v2 v1
        have r1 := cmpV_range v1 v2
        have r2 := cmpV_range v1 v3
        have C1 := Lib.hid (fun g1 g2 m1 m2 W h1 h2 => refCmp_v v1 v2 g1 g2 m1 m2 W h1 h2)
        have C2 := Lib.hid (fun g1 g2 m1 m2 W h1 h2 => refCmp_v v1 v3 g1 g2 m1 m2 W h1 h2)
        obtain ⟨x, hx⟩ : ∃ x, cmpV v1 v2 = x := ⟨_, rfl⟩
        obtain ⟨y, hy⟩ : ∃ y, cmpV v1 v3 = y := ⟨_, rfl⟩
        rw [hx] at hn C1 r1
        rw [hn] at hR
        rw [hy] at hR C2 r2
        have HR := Lib.hid hR
        obtain ⟨x1, x2⟩ := r1
        obtain ⟨y1, y2⟩ := r2
        clear hR hn hx hy
        go_enter Tryd.func15, Tryd.ntmps15
        go_wp2_with fail
        refine (P1.out _).mono ?_
        rintro e w1 ⟨va1, rfl, hv1, hb1⟩
        have HV1 := Lib.hid hv1
        have HB1 := Lib.hid hb1
        clear hv1 hb1
        simp only [Option.isSome_some]
        go_wp2_with fail
        refine (P2.out _).mono ?_
        rintro e w2 ⟨va2, rfl, hv2, hb2⟩
        have HV2 := Lib.hid hv2
        have HB2 := Lib.hid (HB1.out.trans (hb2.mono HB1.out.size))
        have Hb2 := Lib.hid hb2
        clear hv2 hb2
        simp only [Option.isSome_some]
        go_wp2_with fail
        refine (P3.out _).mono ?_
        rintro e w3 ⟨va3, rfl, hv3, hb3⟩
        have HV3 := Lib.hid hv3
        have HB3 := Lib.hid (HB2.out.trans (hb3.mono HB2.out.size))
        have Hb3 := Lib.hid hb3
        clear hv3 hb3
        simp only [Option.isSome_some]
        obtain ⟨g1, m1, rfl, l1, cc1⟩ := HV1.out v1 rfl
        obtain ⟨g2, m2, rfl, l2, cc2⟩ := HV2.out v2 rfl
        obtain ⟨g3, m3, rfl, l3, cc3⟩ := HV3.out v3 rfl
        have cc1b : Hid (∀ i, i < 3 → w3.cell? ⟨g1, i, none⟩ = some (.int .i64 (get3 v1 i : Nat))) := Lib.hid fun i hi => ((Hb3.out.cell (p := ⟨g1, i, none⟩) (Nat.lt_of_lt_of_le l1 Hb2.out.size)).trans (Hb2.out.cell (p := ⟨g1, i, none⟩) l1)).trans (cc1 i hi)
        have cc2b : Hid (∀ i, i < 3 → w3.cell? ⟨g2, i, none⟩ = some (.int .i64 (get3 v2 i : Nat))) := Lib.hid fun i hi => (Hb3.out.cell (p := ⟨g2, i, none⟩) l2).trans (cc2 i hi)
        have cc3b := Lib.hid cc3
        clear cc1 cc2 cc3
        by_cases hx0 : 0 ≤ x
        · have HR2 : Hid (R = decide (y ≤ 0)) := Lib.hid (by rw [← HR.out, decide_eq_true (show -x ≤ 0 by omega)]; rfl)
          go_wp2_with fail
          refine (C1.out g1 g2 m1 m2 _ cc1b.out cc2b.out).mono ?_
          rintro e w4 ⟨rfl, q, rfl⟩
          go_wp2_with fail
          refine (C2.out g1 g3 m1 m3 _ (fun i hi => by rw [World.cell?_drewN]; exact cc1b.out i hi) (fun i hi => by rw [World.cell?_drewN]; exact cc3b.out i hi)).mono ?_
          rintro e w5 ⟨rfl, q2, rfl⟩
          go_wp2
          go_ret
          exact ⟨ret_boolE HR2.out.symm, by first | exact below_dr (below_dr HB3.out q) q2 | (rw [← World.drewN_drewN]; exact below_dr (below_dr HB3.out q) q2)⟩
        · have HR2 : Hid (R = false) := Lib.hid (by rw [← HR.out, decide_eq_false (show ¬ -x ≤ 0 by omega)]; rfl)
          go_wp2_with fail
          refine (C1.out g1 g2 m1 m2 _ cc1b.out cc2b.out).mono ?_
          rintro e w4 ⟨rfl, q, rfl⟩
          go_wp2
          go_ret
          exact ⟨ret_boolE HR2.out.symm, below_dr HB3.out q⟩
end Go.Proofs.YtcimcnlonepbcaaDoor
