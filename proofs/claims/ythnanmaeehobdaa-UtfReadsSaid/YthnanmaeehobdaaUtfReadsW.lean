/- The walk of UtfReads. -/
import Derived.Deep.DeepCutAuto
import Derived.Deep.RegionHeld3
import Derived.Test.YthnanmaeehobdaaUtfWritesW
import Derived.Test.YthnanmaeehobdaaURefR
namespace Go.Proofs.Ythnanmaeehobdaa
open Go.RowKit Go.Shelf
set_option linter.unusedVariables false
attribute [local go_sem] Oper.semAt_some

theorem row_own {β : Type} {B n : Nat} {t : TypeId} {v : Value} {xs : List Value} : Own (fun (_ : β) W => W.ownsRow B t 1 v n xs) := fun s X Y row h hg hrow => by
  refine h.kept hg ?_
  rcases h.2 with ⟨rfl, _⟩ | ⟨g, cap, cur, rfl, _, hgb, _⟩
  · exact .inl rfl
  · refine .inr fun e' => ?_
    obtain ⟨o, ho, hc⟩ := hrow g (by simpa [Value.ownBlock] using e'.symm)
    rw [hgb] at ho
    cases ho
    cases hc
theorem two_own {β : Type} {B : Nat} {v1 v2 : Value} {rs : List (Nat × Nat)} : Own (fun (_ : β) W => Two B v1 v2 rs W) := fun s X Y row h hg hrow =>
  ⟨row_own s X Y row h.1 hg hrow, row_own s X Y row h.2.1 hg hrow, h.2.2⟩

theorem set_other {W : World} {b b' : Nat} {v u : Value} (h : W.cell? ⟨b, 0, none⟩ = some v) (hne : b ≠ b') : (W.setCell ⟨b', 0, none⟩ u).cell? ⟨b, 0, none⟩ = some v :=
  (World.cell?_of_block (Below.heap_setCell W ⟨b', 0, none⟩ u b hne)).trans h
theorem cell_other {W : World} {b b' : Nat} {u : Value} (hne : b ≠ b') : (W.setCell ⟨b', 0, none⟩ u).cell? ⟨b, 0, none⟩ = W.cell? ⟨b, 0, none⟩ :=
  World.cell?_of_block (Below.heap_setCell W ⟨b', 0, none⟩ u b hne)
/-- A store into a box leaves a row of others as it was. -/
theorem row_set {B n b i : Nat} {t : TypeId} {v x : Value} {xs : List Value} {W : World} (h : W.ownsRow B t 1 v n xs) (hne : ∀ g, v.ownBlock = some g → g ≠ b) : (W.setCell ⟨b, i, none⟩ x).ownsRow B t 1 v n xs := by
  refine h.kept (row := some b) ⟨rfl, rfl, rfl, (KeepsWalks.setCell W _ _).size, fun k _ hk => Below.heap_setCell _ _ _ k (fun e => hk (by rw [e]))⟩ ?_
  cases hv : v.ownBlock with
  | none => exact .inl rfl
  | some g => right; intro e; injection e with e; exact hne g hv e
theorem two_set {B b i : Nat} {v1 v2 x : Value} {rs : List (Nat × Nat)} {W : World} (h : Two B v1 v2 rs W) (h1 : ∀ g, v1.ownBlock = some g → g ≠ b) (h2 : ∀ g, v2.ownBlock = some g → g ≠ b) : Two B v1 v2 rs (W.setCell ⟨b, i, none⟩ x) :=
  ⟨row_set h.1 h1, row_set h.2.1 h2, h.2.2⟩

set_option maxRecDepth 100000 in
set_option maxHeartbeats 4000000 in
theorem UtfReads_walk (a0 : ByteArray) (a1 : Int) (w0 : a0.size ≤ 140737488355328) (w1 : (Lit.int .u8 a1).wf = true) (w : World) :
    Calls Try.prog 3 #[.string a0, .int .u8 a1] w fun e w' => e = .returned (.bool true) ∧ Below w.heap.size w w' := by
  have hr : 0 ≤ a1 ∧ a1 ≤ 255 := by simpa [Lit.wf, IntKind.min, IntKind.max, IntKind.signed, IntKind.bits] using w1
  obtain ⟨st, rfl⟩ : ∃ st : Nat, a1 = st := ⟨a1.toNat, by omega⟩
  have hst : st ≤ 255 := by omega
  clear w1 hr
  refine (callsIn_wide (n := 6)).1 ?_
  refine callsIn_of_wp_marks Try.func3 rfl trivial ?_ rfl
  simp only [Try.ntmps3, List.size_toArray, List.length_cons, List.length_nil, Nat.reduceAdd, Nat.reduceSub, Array.replicate_succ, Array.replicate_zero, List.push_toArray, List.append_toArray, List.nil_append, List.cons_append]
  rw [wpIn_wide]
  have b1 := Boxed.new w 5 (.int .u8 (st : Nat))
  have b2 := Boxed.new (w.alloc (.cells #[.int .u8 (st : Nat)] 5)) 4 (.bool false)
  rw [World.size_alloc] at b2
  have B1 := b1.alloc (.cells #[.bool false] 4)
  have hBe : Below w.heap.size w ((w.alloc (.cells #[.int .u8 (st : Nat)] 5)).alloc (.cells #[.bool false] 4)) := ((Below.refl _ _).alloc (Nat.le_refl _) _).alloc (by simp) _
  have hsz2 : ((w.alloc (.cells #[.int .u8 (st : Nat)] 5)).alloc (.cells #[.bool false] 4)).heap.size = w.heap.size + 2 := by simp
  have HB := Lib.hid (And.intro B1 (And.intro b2 (And.intro hBe hsz2)))
  clear b1 b2 B1 hBe hsz2
  have HST := Lib.hid hst
  clear hst
  go_wp2_with fail
  refine (awake_any _).mono ?_
  rintro e wa ⟨rfl, hb0⟩
  have HA : Hid (Boxed wa w.heap.size 5 (.int .u8 (st : Nat)) ∧ Boxed wa (w.heap.size + 1) 4 (.bool false) ∧ Below w.heap.size w wa ∧ w.heap.size + 2 ≤ wa.heap.size) := Lib.hid
    ⟨boxed_below HB.out.1 hb0 (by rw [HB.out.2.2.2]; omega), boxed_below HB.out.2.1 hb0 (by rw [HB.out.2.2.2]; omega), HB.out.2.2.1.trans (hb0.mono (by rw [HB.out.2.2.2]; omega)), by have := hb0.size; rw [HB.out.2.2.2] at this; exact this⟩
  clear HB hb0
  have hc2 := HA.out.2.1.cell
  have hf2 := HA.out.2.1.frozen
  by_cases hbig : a0.size ≤ 1000
  · go_wp2_with fail
    refine (refRunes_any a0 _ (by omega)).mono ?_
    rintro e wb ⟨v1, v2, rfl, hT, hbb⟩
    have hbb2 : Below wa.heap.size wa wb := hbb
    have HBB := Lib.hid (And.intro (boxed_below HA.out.1 hbb2 (by have := HA.out.2.2.2; omega)) (And.intro (boxed_below HA.out.2.1 hbb2 (by have := HA.out.2.2.2; omega)) (And.intro (HA.out.2.2.1.trans (hbb2.mono (by have := HA.out.2.2.2; omega))) (Nat.le_trans HA.out.2.2.2 hbb2.size))))
    have HT := Lib.hid hT
    obtain ⟨q1, cap1, rfl⟩ := own_form hT.1
    obtain ⟨q2, cap2, rfl⟩ := own_form hT.2.1
    clear hT hbb hbb2 hc2 hf2
    go_wp2_with fail
    refine ((callsIn_wide (n := 0)).1 (Runes_in 0 a0 _)).mono ?_
    rintro e w2 ⟨rfl, rfl⟩
    go_wp2_with fail
    obtain ⟨N, HNN⟩ : ∃ N, Hid ((runesB a0).length = N) := ⟨_, Lib.hid rfl⟩
    rw [HNN.out] at HT ⊢
    have hNs : N ≤ 1000 := by rw [← HNN.out]; have := runesB_length a0; omega
    have HLT : Hid (∀ b, wb.heap.size ≤ b → (∀ g, (Value.slice q1 N cap1).ownBlock = some g → g ≠ b) ∧ (∀ g, (Value.slice q2 N cap2).ownBlock = some g → g ≠ b)) := Lib.hid fun b hb => ⟨fun g hg e => by have := (HT.out.1.lt g hg).2; omega, fun g hg e => by have := (HT.out.2.1.lt g hg).2; omega⟩
    have HLL : Hid (∀ b, b < wa.heap.size → (∀ g, (Value.slice q1 N cap1).ownBlock = some g → g ≠ b) ∧ (∀ g, (Value.slice q2 N cap2).ownBlock = some g → g ≠ b)) := Lib.hid fun b hb => ⟨fun g hg e => by have := (HT.out.1.lt g hg).1; omega, fun g hg e => by have := (HT.out.2.1.lt g hg).1; omega⟩
    have c1 := Boxed.new wb 23 (.slice q1 N cap1)
    have c2 := Boxed.new (wb.alloc (.cells #[.slice q1 N cap1] 23)) 23 (.slice q2 N cap2)
    have c3 := Boxed.new ((wb.alloc (.cells #[.slice q1 N cap1] 23)).alloc (.cells #[.slice q2 N cap2] 23)) 3 (.int .i64 0)
    have c4 := Boxed.new (((wb.alloc (.cells #[.slice q1 N cap1] 23)).alloc (.cells #[.slice q2 N cap2] 23)).alloc (.cells #[.int .i64 0] 3)) 9 (.string a0)
    simp only [World.size_alloc] at c2 c3 c4
    obtain ⟨wl, hwl⟩ : ∃ wl, (((wb.alloc (.cells #[.slice q1 N cap1] 23)).alloc (.cells #[.slice q2 N cap2] 23)).alloc (.cells #[.int .i64 0] 3)).alloc (.cells #[.string a0] 9) = wl := ⟨_, rfl⟩
    have hbl : Below wb.heap.size wb wl := by
      rw [← hwl]
      exact ((((Below.refl _ _).alloc (Nat.le_refl _) _).alloc (by simp) _).alloc (by simp; omega) _).alloc (by simp; omega) _
    have hsl : wl.heap.size = wb.heap.size + 4 := by rw [← hwl]; simp
    have C1 : Boxed wl wb.heap.size 23 (.slice q1 N cap1) := by rw [← hwl]; exact ((c1.alloc _).alloc _).alloc _
    have C2 : Boxed wl (wb.heap.size + 1) 23 (.slice q2 N cap2) := by rw [← hwl]; exact (c2.alloc _).alloc _
    have C3 : Boxed wl (wb.heap.size + 1 + 1) 3 (.int .i64 0) := by rw [← hwl]; exact c3.alloc _
    have C4 : Boxed wl (wb.heap.size + 1 + 1 + 1) 9 (.string a0) := by rw [← hwl]; exact c4
    have C5 := boxed_below HBB.out.1 hbl (by have := HBB.out.2.2.2; omega)
    have C6 := boxed_below HBB.out.2.1 hbl (by have := HBB.out.2.2.2; omega)
    have hBl := HBB.out.2.2.1.trans (hbl.mono (by have := HBB.out.2.2.2; omega))
    have hTl := HT.out.below hbl
    have hwb := HBB.out.2.2.2
    rw [hwl]
    clear c1 c2 c3 c4 hwl
    rw [← wpIn_wide (n := 6)]
    refine' wpIn_rangeFunc_ownG rfl (by omega) (gf := 20) (lb := #[.pointer (some ⟨wb.heap.size + 1 + 1 + 1, 0, none⟩)]) rfl trivial (enters_of Try.func20 (by kernel_rfl) rfl)
      (Runes_stops 5 (by omega) (wb.heap.size + 1 + 1 + 1) a0 w0 _ C4) keepsR_t (keepsR_b (by omega)) (Below.refl _ _) (fun _ => rfl)
      (fun pre W => Boxed W w.heap.size 5 (.int .u8 (st : Nat)) ∧ Boxed W (w.heap.size + 1) 4 (.bool false) ∧ Boxed W wb.heap.size 23 (.slice q1 N cap1) ∧ Boxed W (wb.heap.size + 1) 23 (.slice q2 N cap2) ∧ Two wa.heap.size (.slice q1 N cap1) (.slice q2 N cap2) (runesB a0) W ∧ Boxed W (wb.heap.size + 1 + 1) 3 (.int .i64 (pre.length : Nat)) ∧ Below w.heap.size w W)
      (fun _ pre _ => ¬ pre.map Subtype.val <+: runesB a0)
      (OwnFrom.and (Own.from (own_box _ _ _) _) (OwnFrom.and (Own.from (own_box _ _ _) _) (OwnFrom.and (Own.from (own_box _ _ _) _) (OwnFrom.and (Own.from (own_box _ _ _) _) (OwnFrom.and (Own.from two_own _) (OwnFrom.and (Own.from (own_box _ _ _) _) (ownFrom_below (Nat.le_refl _) (by omega))))))))
      (fun _ _ _ _ _ hs _ _ => hs)
      ⟨C5, C6, C1, C2, hTl, C3, hBl⟩
      _ _ _ _ _
    case refine'_2 =>
      intro l x W K hK
      gi_wp2
      exact hK
    case refine'_5 =>
      rintro D c pre W _ hpre h _
      exact absurd hpre h
    case refine'_3 =>
      rintro l' pre ⟨⟨p, c⟩, hx⟩ W ⟨hv0, hv1, hv2, hv3, hTW, hv4, hB⟩ hlt
      rw [HNN.out] at hlt
      obtain ⟨⟨py, cy⟩, hy⟩ : ∃ y, (runesB a0)[pre.length]? = some y := ⟨_, List.getElem?_eq_getElem (by rw [HNN.out]; exact hlt)⟩
      obtain ⟨g1, cp1, e1, _⟩ := hTW.1.form (by rw [HNN.out]; omega)
      obtain ⟨g2, cp2, e2, _⟩ := hTW.2.1.form (by rw [HNN.out]; omega)
      injection e1 with e1 e1b e1c
      injection e2 with e2 e2b e2c
      subst e1
      subst e2
      clear e1b e1c e2b e2c
      have hcw : wrap64 (c : Int) = (c : Int) := by
        have hv := (valid_iff c).1 (runesB_mem hx).1
        unfold wrap64
        omega
      have hx1 : W.cell? ⟨g1, pre.length, none⟩ = some (.int .i64 (py : Nat)) := by
        have hR := hTW.1
        rw [HNN.out] at hR
        rw [hR.cellAt (g := g1) pre.length (by omega)]
        simp [hy]
      have hx2 : W.cell? ⟨g2, pre.length, none⟩ = some (.int .i64 (cy : Nat)) := by
        have hR := hTW.2.1
        rw [HNN.out] at hR
        rw [hR.cellAt (g := g2) pre.length (by omega)]
        simp [hy]
      have hc1 := hv2.cell
      have hc2 := hv3.cell
      have hc3 := hv4.cell
      have hf3 := hv4.frozen
      have hcr := hv1.cell
      have hfr := hv1.frozen
      have HY := Lib.hid hy
      have HV := Lib.hid (And.intro hv0 (And.intro hv1 (And.intro hv2 (And.intro hv3 (And.intro hTW (And.intro hv4 hB))))))
      clear hy hTW hv0 hv1 hv2 hv3 hv4 hB
      by_cases hm : (p, c) = (py, cy)
      · injection hm with hm1 hm2
        subst hm1 hm2
        gi_wp2
        obtain ⟨hv0, hv1, hv2, hv3, hTW, hv4, hB⟩ := HV.out
        refine ⟨(KeepsOthers.setCell _ _ _).from _, keepsR_set _ (by omega) _, hv0.other (by omega) _, hv1.other (by omega) _, hv2.other (by omega) _, hv3.other (by omega) _, two_set hTW (HLT.out _ (by omega)).1 (HLT.out _ (by omega)).2, ?_, hB.setCell (p := ⟨wb.heap.size + 1 + 1, 0, none⟩) (by show _ ≤ wb.heap.size + 1 + 1; omega) _⟩
        have h := hv4.set (.int .i64 ((pre.length : Int) + 1))
        rw [List.length_append]
        exact h
      · have hnp : ¬ (pre ++ [(⟨(p, c), hx⟩ : Rn a0)]).map Subtype.val <+: runesB a0 := by
          intro hpre
          obtain ⟨r, hr⟩ := hpre
          have h1 := HY.out
          rw [← hr] at h1
          simp at h1
          exact hm (by rw [h1.1, h1.2])
        have HNP := Lib.hid hnp
        clear hnp
        by_cases hp : p = py
        · subst hp
          have hcc : ((c : Int) != (cy : Int)) = true := by
            rw [bne_iff_ne]
            intro e
            exact hm (by rw [show c = cy by omega])
          clear hm
          gi_wp2
          exact ⟨(KeepsOthers.setCell _ _ _).from _, HNP.out⟩
        · have hpp : ((p : Int) != (py : Int)) = true := by rw [bne_iff_ne]; omega
          clear hm hp
          gi_wp2
          exact ⟨(KeepsOthers.setCell _ _ _).from _, HNP.out⟩
    case refine'_4 =>
      rintro D ys W hD hys ⟨hv0, hv1, hv2, hv3, hTW, hv4, hB⟩ hK
      have hyl : ys.length = N := by rw [← HNN.out, ← hys, List.length_map]
      rw [hyl] at hv4
      have hDs : wl.heap.size ≤ D := hD
      have HV := Lib.hid (And.intro hv0 (And.intro hv1 (And.intro hv2 (And.intro hv3 (And.intro hTW (And.intro hv4 (And.intro hB hK)))))))
      have hWs : wl.heap.size ≤ W.heap.size := by have := (Array.getElem?_eq_some_iff.1 hK).1; omega
      clear hv0 hv1 hv2 hv3 hTW hv4 hB hK hyl hys hD
      go_wp2_with fail
      refine ((callsIn_wide (n := 0)).1 (Runes_in 0 a0 _)).mono ?_
      rintro e w2 ⟨rfl, rfl⟩
      go_wp2_with fail
      have d1 := Boxed.new W 3 (.int .i64 0)
      have d2 := Boxed.new (W.alloc (.cells #[.int .i64 0] 3)) 9 (.string a0)
      rw [World.size_alloc] at d2
      have hBd : Below W.heap.size W ((W.alloc (.cells #[.int .i64 0] 3)).alloc (.cells #[.string a0] 9)) := ((Below.refl _ W).alloc (Nat.le_refl _) _).alloc (by simp) _
      rw [← wpIn_wide (n := 6)]
      refine' wpIn_rangeFunc_ownG rfl (by omega) (gf := 20) (lb := #[.pointer (some ⟨W.heap.size + 1, 0, none⟩)]) rfl trivial (enters_of Try.func20 (by kernel_rfl) rfl)
        (Runes_stops 5 (by omega) (W.heap.size + 1) a0 w0 _ d2) keepsR_t (keepsR_b (by simp)) (Below.refl _ _) (fun _ => rfl)
        (fun pre W' => (Boxed W' W.heap.size 3 (.int .i64 (pre.length : Nat)) ∧ Below W.heap.size W W') ∧ pre.length ≤ st)
        (fun c pre W' => (Boxed W' W.heap.size 3 (.int .i64 (pre.length : Nat)) ∧ Below W.heap.size W W') ∧ c = .exit 2 ∧ pre.length = st + 1)
        (OwnFrom.and (OwnFrom.and (Own.from (own_box _ _ _) _) (ownFrom_below (Nat.le_refl _) (by simp; omega))) (ownFrom_pure _ _))
        (fun c => OwnFrom.and (OwnFrom.and (Own.from (own_box _ _ _) _) (ownFrom_below (Nat.le_refl _) (by simp; omega))) (ownFrom_pure _ _))
        ⟨⟨d1.alloc _, hBd⟩, Nat.zero_le _⟩
        _ _ _ _ _
      case refine'_2 =>
        intro l x W3 K hK3
        gi_wp2
        exact hK3
      case refine'_3 =>
        rintro l' pre x W3 ⟨⟨hvL, hB2⟩, hle⟩ hlt
        have hv0 := boxed_below HV.out.1 hB2 HV.out.1.lt
        have hkL := hvL.cell
        have hfL := hvL.frozen
        have hneq : w.heap.size ≠ W.heap.size := by omega
        have hk0 := (hv0.other hneq (.int .i64 ((pre.length : Int) + 1))).cell
        have hkM := (hvL.set (.int .i64 ((pre.length : Int) + 1))).cell
        have hstb := HST.out
        have HB2 := Lib.hid hB2
        have HVL := Lib.hid hvL
        clear hv0 hB2 hvL hneq hwb hsl hDs hWs hbl C1 C2 C3 C4 C5 C6 hBl hTl d1 d2 hBd hNs
        have hplb : pre.length < 1000 := by omega
        have hwp : wrap64 (st : Int) = (st : Int) := by unfold wrap64; omega
        by_cases hgt : pre.length + 1 ≤ st
        · have hgi : (pre.length : Int) + 1 ≤ (st : Int) := by omega
          gi_wp2
          refine ⟨(KeepsOthers.setCell _ _ _).from _, keepsR_set _ (by omega) _, ⟨?_, HB2.out.setCell (p := ⟨W.heap.size, 0, none⟩) (Nat.le_refl _) _⟩, by simp; omega⟩
          have h := HVL.out.set (.int .i64 ((pre.length : Int) + 1))
          rw [List.length_append]
          exact h
        · have hgi : (st : Int) < (pre.length : Int) + 1 := by omega
          gi_wp2
          refine ⟨(KeepsOthers.setCell _ _ _).from _, ⟨?_, HB2.out.setCell (p := ⟨W.heap.size, 0, none⟩) (Nat.le_refl _) _⟩, rfl, by simp; omega⟩
          have h := HVL.out.set (.int .i64 ((pre.length : Int) + 1))
          rw [List.length_append]
          exact h
      case refine'_4 =>
        rintro D2 ys W2 hD2 hys ⟨⟨hvL, hB2⟩, hle⟩ hK2
        have hyl : ys.length = N := by rw [← HNN.out, ← hys, List.length_map]
        obtain ⟨L, hLe⟩ : ∃ L, ys.length = L := ⟨_, rfl⟩
        rw [hLe] at hvL hyl hle
        have hL : Hid (L = N ∧ N ≤ st) := Lib.hid (by omega)
        have hD3 : W.heap.size + 2 ≤ D2 := by simpa using hD2
        clear hyl hLe hle hys hD2
        have hv0 := boxed_below HV.out.1 hB2 HV.out.1.lt
        have hv1 := boxed_below HV.out.2.1 hB2 HV.out.2.1.lt
        have hv2 := boxed_below HV.out.2.2.1 hB2 HV.out.2.2.1.lt
        have hv4 := boxed_below HV.out.2.2.2.2.2.1 hB2 HV.out.2.2.2.2.2.1.lt
        have hg0 := hv0.lt
        have hg1 := hv1.lt
        have hg2 := hv2.lt
        have hg4 := hv4.lt
        have hgL := hvL.lt
        have hk0 := hv0.cell
        have hk1 := hv1.cell
        have hk2 := hv2.cell
        have hk4 := hv4.cell
        have hkL := hvL.cell
        have hf1 := hv1.frozen
        have hBw := HV.out.2.2.2.2.2.2.1.trans (hB2.mono HV.out.2.2.2.2.2.2.1.size)
        have hKD := (hB2.block D (Array.getElem?_eq_some_iff.1 HV.out.2.2.2.2.2.2.2).1).trans HV.out.2.2.2.2.2.2.2
        have HK2 := Lib.hid (And.intro hK2 (And.intro hKD (And.intro hBw hv1)))
        have hvb : (whole a0 == decide (badB a0 < 0)) = true := by
          unfold badB
          cases whole a0 with
          | true => rfl
          | false => show (false == decide (((goodEnd a0 : Nat) : Int) < 0)) = true; simp
        have hst2 : (st : Int) ≤ 255 := by have := HST.out; omega
        have hmin : (if (st : Int) + 1 < (N : Int) then (st : Int) + 1 else (N : Int)) = (L : Int) := by have := hL.out; split <;> omega
        have hw0 : IntKind.i64.wrap (st : Int) = (st : Int) := IntWalk.i64_in _ (by omega)
        have hw1 : IntKind.i64.wrap ((st : Int) + 1) = (st : Int) + 1 := IntWalk.i64_in _ (by omega)
        have hNN : Hid (∀ W : World, Calls Try.prog 10 #[.string a0] W fun e w' => e = .returned (.int .i64 (N : Nat)) ∧ Below W.heap.size W w') := Lib.hid fun W => by
          have h := Count_any a0 W w0
          rw [HNN.out] at h
          exact h
        have hNB : Hid (∀ W : World, Calls Try.prog 11 #[.string a0] W fun e w' => e = .returned (.int .i64 (badB a0)) ∧ Below W.heap.size W w') := Lib.hid fun W => Bad_any a0 W w0
        have hNV : Hid (∀ W : World, Calls Try.prog 12 #[.string a0] W fun e w' => e = .returned (.bool (whole a0)) ∧ Below W.heap.size W w') := Lib.hid fun W => Valid_any a0 W w0
        obtain ⟨bd, HBD⟩ : ∃ bd, Hid (badB a0 = bd) := ⟨_, Lib.hid rfl⟩
        obtain ⟨wh, HWH⟩ : ∃ wh, Hid (whole a0 = wh) := ⟨_, Lib.hid rfl⟩
        rw [HBD.out] at hvb hNB ⊢
        rw [HWH.out] at hvb hNV
        have hD2' : wl.heap.size ≤ D2 := by omega
        have hDD : Hid (D ≠ D2) := Lib.hid (by have := (Array.getElem?_eq_some_iff.1 HV.out.2.2.2.2.2.2.2).1; omega)
        have hbx := Below.refl W2.heap.size W2
        have G5 := Lib.hid (And.intro hk0 (And.intro hk1 (And.intro hk2 (And.intro hk4 (And.intro hkL hf1)))))
        clear hv0 hv1 hv2 hv4 hvL hB2 hK2 hBw hKD
        have hS2 : ∀ (W' : World) (u : Value), (W'.setCell ⟨w.heap.size + 1, 0, none⟩ u).cell? ⟨wb.heap.size, 0, none⟩ = W'.cell? ⟨wb.heap.size, 0, none⟩ := fun W' u => cell_other (by omega)
        have hS4 : ∀ (W' : World) (u : Value), (W'.setCell ⟨w.heap.size + 1, 0, none⟩ u).cell? ⟨wb.heap.size + 1 + 1, 0, none⟩ = W'.cell? ⟨wb.heap.size + 1 + 1, 0, none⟩ := fun W' u => cell_other (by omega)
        have hSL : ∀ (W' : World) (u : Value), (W'.setCell ⟨w.heap.size + 1, 0, none⟩ u).cell? ⟨W.heap.size, 0, none⟩ = W'.cell? ⟨W.heap.size, 0, none⟩ := fun W' u => cell_other (by omega)
        go_wp2_with fail
        go_region_held3 (fun w' => w'.cell? ⟨w.heap.size, 0, none⟩ = some (.int .u8 (st : Nat)) ∧ w'.cell? ⟨wb.heap.size, 0, none⟩ = some (.slice q1 N cap1) ∧ w'.cell? ⟨wb.heap.size + 1 + 1, 0, none⟩ = some (.int .i64 (N : Nat)) ∧ w'.cell? ⟨W.heap.size, 0, none⟩ = some (.int .i64 (L : Nat))) (first | go_keep | exact ⟨hk0, hk2, hk4, hkL⟩)
          (first
            | (go_at_call 10; refine (hNN.out _).mono ?_; rintro e w6 ⟨rfl, hbc⟩; have hbx := Below.trans (B := W2.heap.size) (a := W2) (by exact ⟨hbx.os, hbx.tape, hbx.output, hbx.size, hbx.block⟩) (hbc.mono hbx.size); have hk0 := (hbx.cell (p := ⟨w.heap.size, 0, none⟩) hg0).trans G5.out.1; have hk1 := (hbx.cell (p := ⟨w.heap.size + 1, 0, none⟩) hg1).trans G5.out.2.1; have hk2 := (hbx.cell (p := ⟨wb.heap.size, 0, none⟩) hg2).trans G5.out.2.2.1; have hk4 := (hbx.cell (p := ⟨wb.heap.size + 1 + 1, 0, none⟩) hg4).trans G5.out.2.2.2.1; have hkL := (hbx.cell (p := ⟨W.heap.size, 0, none⟩) hgL).trans G5.out.2.2.2.2.1; have hf1 := (hbx.frozen (p := ⟨w.heap.size + 1, 0, none⟩) hg1).trans G5.out.2.2.2.2.2)
            | (go_at_call 11; refine (hNB.out _).mono ?_; rintro e w6 ⟨rfl, hbc⟩; have hbx := Below.trans (B := W2.heap.size) (a := W2) (by exact ⟨hbx.os, hbx.tape, hbx.output, hbx.size, hbx.block⟩) (hbc.mono hbx.size); have hk0 := (hbx.cell (p := ⟨w.heap.size, 0, none⟩) hg0).trans G5.out.1; have hk1 := (hbx.cell (p := ⟨w.heap.size + 1, 0, none⟩) hg1).trans G5.out.2.1; have hk2 := (hbx.cell (p := ⟨wb.heap.size, 0, none⟩) hg2).trans G5.out.2.2.1; have hk4 := (hbx.cell (p := ⟨wb.heap.size + 1 + 1, 0, none⟩) hg4).trans G5.out.2.2.2.1; have hkL := (hbx.cell (p := ⟨W.heap.size, 0, none⟩) hgL).trans G5.out.2.2.2.2.1; have hf1 := (hbx.frozen (p := ⟨w.heap.size + 1, 0, none⟩) hg1).trans G5.out.2.2.2.2.2)
            | (go_at_call 12; refine (hNV.out _).mono ?_; rintro e w6 ⟨rfl, hbc⟩; have hbx := Below.trans (B := W2.heap.size) (a := W2) (by exact ⟨hbx.os, hbx.tape, hbx.output, hbx.size, hbx.block⟩) (hbc.mono hbx.size); have hk0 := (hbx.cell (p := ⟨w.heap.size, 0, none⟩) hg0).trans G5.out.1; have hk1 := (hbx.cell (p := ⟨w.heap.size + 1, 0, none⟩) hg1).trans G5.out.2.1; have hk2 := (hbx.cell (p := ⟨wb.heap.size, 0, none⟩) hg2).trans G5.out.2.2.1; have hk4 := (hbx.cell (p := ⟨wb.heap.size + 1 + 1, 0, none⟩) hg4).trans G5.out.2.2.2.1; have hkL := (hbx.cell (p := ⟨W.heap.size, 0, none⟩) hgL).trans G5.out.2.2.2.2.1; have hf1 := (hbx.frozen (p := ⟨w.heap.size + 1, 0, none⟩) hg1).trans G5.out.2.2.2.2.2))
        all_goals
          have hvR := (boxed_below HK2.out.2.2.2 hbx hg1).set (.bool true)
          have k2 := (KeepsOthers.setCell _ ⟨w.heap.size + 1, 0, none⟩ (.bool true)).same D2 _ ((hbx.block D2 (Array.getElem?_eq_some_iff.1 HK2.out.1).1).trans HK2.out.1) rfl
          have kD := (KeepsOthers.setCell _ ⟨w.heap.size + 1, 0, none⟩ (.bool true)).same D _ ((hbx.block D (Array.getElem?_eq_some_iff.1 HK2.out.2.1).1).trans HK2.out.2.1) rfl
          have kD2 := (World.putObj_heap_other (o := .deferred none) hDD.out).trans kD
          have hR2 := hvR.kept (grownBy_putObj' _ D2 (.deferred none)) (box_ne hvR k2)
          have hR3 := (hR2.kept (grownBy_putObj' _ D (.deferred none)) (box_ne hR2 kD2)).cell
          have hB6 := (HK2.out.2.2.1.trans (hbx.mono HK2.out.2.2.1.size)).setCell (p := ⟨w.heap.size + 1, 0, none⟩) (by show _ ≤ w.heap.size + 1; omega) (.bool true)
          have HE := Lib.hid (And.intro k2 (And.intro kD2 (And.intro hR3 hB6)))
          clear hvR k2 kD kD2 hR2 hR3 hB6
          go_wp2_with fail
          refine ⟨by simp, .inl ⟨_, _, rfl, run_takeDeferred HE.out.1, ⟨by simp, .inl ⟨_, _, rfl, run_takeDeferred HE.out.2.1, ?_⟩⟩⟩⟩
          have hR3 := HE.out.2.2.1
          refine ⟨.bool true, by simp [results, Try.f3, go_sem, hR3], rfl, ?_⟩
          exact (HE.out.2.2.2.trans (belowK_b (w := w) (Nat.le_refl _) _ D2 _ _ (by omega) HE.out.1 rfl rfl)).trans (belowK_b (w := w) (Nat.le_refl _) _ D _ _ (by omega) HE.out.2.1 rfl rfl)
      case refine'_5 =>
        rintro D2 c pre W2 hD2 hpre ⟨⟨hvL, hB2⟩, rfl, hle⟩ hK2
        rw [wpIn_wide]
        have hyl : pre.length ≤ N := by rw [← HNN.out]; have := hpre.length_le; simpa using this
        obtain ⟨L, hLe⟩ : ∃ L, pre.length = L := ⟨_, rfl⟩
        rw [hLe] at hvL hyl hle
        have hL : Hid (L = st + 1 ∧ st + 1 ≤ N) := Lib.hid (by omega)
        have hD3 : W.heap.size + 2 ≤ D2 := by simpa using hD2
        clear hyl hLe hle hpre hD2
        have hv0 := boxed_below HV.out.1 hB2 HV.out.1.lt
        have hv1 := boxed_below HV.out.2.1 hB2 HV.out.2.1.lt
        have hv2 := boxed_below HV.out.2.2.1 hB2 HV.out.2.2.1.lt
        have hv4 := boxed_below HV.out.2.2.2.2.2.1 hB2 HV.out.2.2.2.2.2.1.lt
        have hg0 := hv0.lt
        have hg1 := hv1.lt
        have hg2 := hv2.lt
        have hg4 := hv4.lt
        have hgL := hvL.lt
        have hk0 := hv0.cell
        have hk1 := hv1.cell
        have hk2 := hv2.cell
        have hk4 := hv4.cell
        have hkL := hvL.cell
        have hf1 := hv1.frozen
        have hBw := HV.out.2.2.2.2.2.2.1.trans (hB2.mono HV.out.2.2.2.2.2.2.1.size)
        have hKD := (hB2.block D (Array.getElem?_eq_some_iff.1 HV.out.2.2.2.2.2.2.2).1).trans HV.out.2.2.2.2.2.2.2
        have HK2 := Lib.hid (And.intro hK2 (And.intro hKD (And.intro hBw hv1)))
        have hvb : (whole a0 == decide (badB a0 < 0)) = true := by
          unfold badB
          cases whole a0 with
          | true => rfl
          | false => show (false == decide (((goodEnd a0 : Nat) : Int) < 0)) = true; simp
        have hst2 : (st : Int) ≤ 255 := by have := HST.out; omega
        have hmin : (if (st : Int) + 1 < (N : Int) then (st : Int) + 1 else (N : Int)) = (L : Int) := by have := hL.out; split <;> omega
        have hw0 : IntKind.i64.wrap (st : Int) = (st : Int) := IntWalk.i64_in _ (by omega)
        have hw1 : IntKind.i64.wrap ((st : Int) + 1) = (st : Int) + 1 := IntWalk.i64_in _ (by omega)
        have hNN : Hid (∀ W : World, Calls Try.prog 10 #[.string a0] W fun e w' => e = .returned (.int .i64 (N : Nat)) ∧ Below W.heap.size W w') := Lib.hid fun W => by
          have h := Count_any a0 W w0
          rw [HNN.out] at h
          exact h
        have hNB : Hid (∀ W : World, Calls Try.prog 11 #[.string a0] W fun e w' => e = .returned (.int .i64 (badB a0)) ∧ Below W.heap.size W w') := Lib.hid fun W => Bad_any a0 W w0
        have hNV : Hid (∀ W : World, Calls Try.prog 12 #[.string a0] W fun e w' => e = .returned (.bool (whole a0)) ∧ Below W.heap.size W w') := Lib.hid fun W => Valid_any a0 W w0
        obtain ⟨bd, HBD⟩ : ∃ bd, Hid (badB a0 = bd) := ⟨_, Lib.hid rfl⟩
        obtain ⟨wh, HWH⟩ : ∃ wh, Hid (whole a0 = wh) := ⟨_, Lib.hid rfl⟩
        rw [HBD.out] at hvb hNB ⊢
        rw [HWH.out] at hvb hNV
        have hD2' : wl.heap.size ≤ D2 := by omega
        have hDD : Hid (D ≠ D2) := Lib.hid (by have := (Array.getElem?_eq_some_iff.1 HV.out.2.2.2.2.2.2.2).1; omega)
        have hbx := Below.refl W2.heap.size W2
        have G5 := Lib.hid (And.intro hk0 (And.intro hk1 (And.intro hk2 (And.intro hk4 (And.intro hkL hf1)))))
        clear hv0 hv1 hv2 hv4 hvL hB2 hK2 hBw hKD
        have hS2 : ∀ (W' : World) (u : Value), (W'.setCell ⟨w.heap.size + 1, 0, none⟩ u).cell? ⟨wb.heap.size, 0, none⟩ = W'.cell? ⟨wb.heap.size, 0, none⟩ := fun W' u => cell_other (by omega)
        have hS4 : ∀ (W' : World) (u : Value), (W'.setCell ⟨w.heap.size + 1, 0, none⟩ u).cell? ⟨wb.heap.size + 1 + 1, 0, none⟩ = W'.cell? ⟨wb.heap.size + 1 + 1, 0, none⟩ := fun W' u => cell_other (by omega)
        have hSL : ∀ (W' : World) (u : Value), (W'.setCell ⟨w.heap.size + 1, 0, none⟩ u).cell? ⟨W.heap.size, 0, none⟩ = W'.cell? ⟨W.heap.size, 0, none⟩ := fun W' u => cell_other (by omega)
        go_wp2_with fail
        go_region_held3 (fun w' => w'.cell? ⟨w.heap.size, 0, none⟩ = some (.int .u8 (st : Nat)) ∧ w'.cell? ⟨wb.heap.size, 0, none⟩ = some (.slice q1 N cap1) ∧ w'.cell? ⟨wb.heap.size + 1 + 1, 0, none⟩ = some (.int .i64 (N : Nat)) ∧ w'.cell? ⟨W.heap.size, 0, none⟩ = some (.int .i64 (L : Nat))) (first | go_keep | exact ⟨hk0, hk2, hk4, hkL⟩)
          (first
            | (go_at_call 10; refine (hNN.out _).mono ?_; rintro e w6 ⟨rfl, hbc⟩; have hbx := Below.trans (B := W2.heap.size) (a := W2) (by exact ⟨hbx.os, hbx.tape, hbx.output, hbx.size, hbx.block⟩) (hbc.mono hbx.size); have hk0 := (hbx.cell (p := ⟨w.heap.size, 0, none⟩) hg0).trans G5.out.1; have hk1 := (hbx.cell (p := ⟨w.heap.size + 1, 0, none⟩) hg1).trans G5.out.2.1; have hk2 := (hbx.cell (p := ⟨wb.heap.size, 0, none⟩) hg2).trans G5.out.2.2.1; have hk4 := (hbx.cell (p := ⟨wb.heap.size + 1 + 1, 0, none⟩) hg4).trans G5.out.2.2.2.1; have hkL := (hbx.cell (p := ⟨W.heap.size, 0, none⟩) hgL).trans G5.out.2.2.2.2.1; have hf1 := (hbx.frozen (p := ⟨w.heap.size + 1, 0, none⟩) hg1).trans G5.out.2.2.2.2.2)
            | (go_at_call 11; refine (hNB.out _).mono ?_; rintro e w6 ⟨rfl, hbc⟩; have hbx := Below.trans (B := W2.heap.size) (a := W2) (by exact ⟨hbx.os, hbx.tape, hbx.output, hbx.size, hbx.block⟩) (hbc.mono hbx.size); have hk0 := (hbx.cell (p := ⟨w.heap.size, 0, none⟩) hg0).trans G5.out.1; have hk1 := (hbx.cell (p := ⟨w.heap.size + 1, 0, none⟩) hg1).trans G5.out.2.1; have hk2 := (hbx.cell (p := ⟨wb.heap.size, 0, none⟩) hg2).trans G5.out.2.2.1; have hk4 := (hbx.cell (p := ⟨wb.heap.size + 1 + 1, 0, none⟩) hg4).trans G5.out.2.2.2.1; have hkL := (hbx.cell (p := ⟨W.heap.size, 0, none⟩) hgL).trans G5.out.2.2.2.2.1; have hf1 := (hbx.frozen (p := ⟨w.heap.size + 1, 0, none⟩) hg1).trans G5.out.2.2.2.2.2)
            | (go_at_call 12; refine (hNV.out _).mono ?_; rintro e w6 ⟨rfl, hbc⟩; have hbx := Below.trans (B := W2.heap.size) (a := W2) (by exact ⟨hbx.os, hbx.tape, hbx.output, hbx.size, hbx.block⟩) (hbc.mono hbx.size); have hk0 := (hbx.cell (p := ⟨w.heap.size, 0, none⟩) hg0).trans G5.out.1; have hk1 := (hbx.cell (p := ⟨w.heap.size + 1, 0, none⟩) hg1).trans G5.out.2.1; have hk2 := (hbx.cell (p := ⟨wb.heap.size, 0, none⟩) hg2).trans G5.out.2.2.1; have hk4 := (hbx.cell (p := ⟨wb.heap.size + 1 + 1, 0, none⟩) hg4).trans G5.out.2.2.2.1; have hkL := (hbx.cell (p := ⟨W.heap.size, 0, none⟩) hgL).trans G5.out.2.2.2.2.1; have hf1 := (hbx.frozen (p := ⟨w.heap.size + 1, 0, none⟩) hg1).trans G5.out.2.2.2.2.2))
        all_goals
          have hvR := (boxed_below HK2.out.2.2.2 hbx hg1).set (.bool true)
          have k2 := (KeepsOthers.setCell _ ⟨w.heap.size + 1, 0, none⟩ (.bool true)).same D2 _ ((hbx.block D2 (Array.getElem?_eq_some_iff.1 HK2.out.1).1).trans HK2.out.1) rfl
          have kD := (KeepsOthers.setCell _ ⟨w.heap.size + 1, 0, none⟩ (.bool true)).same D _ ((hbx.block D (Array.getElem?_eq_some_iff.1 HK2.out.2.1).1).trans HK2.out.2.1) rfl
          have kD2 := (World.putObj_heap_other (o := .deferred none) hDD.out).trans kD
          have hR2 := hvR.kept (grownBy_putObj' _ D2 (.deferred none)) (box_ne hvR k2)
          have hR3 := (hR2.kept (grownBy_putObj' _ D (.deferred none)) (box_ne hR2 kD2)).cell
          have hB6 := (HK2.out.2.2.1.trans (hbx.mono HK2.out.2.2.1.size)).setCell (p := ⟨w.heap.size + 1, 0, none⟩) (by show _ ≤ w.heap.size + 1; omega) (.bool true)
          have HE := Lib.hid (And.intro k2 (And.intro kD2 (And.intro hR3 hB6)))
          clear hvR k2 kD kD2 hR2 hR3 hB6
          go_wp2_with fail
          refine ⟨by simp, .inl ⟨_, _, rfl, run_takeDeferred HE.out.1, ⟨by simp, .inl ⟨_, _, rfl, run_takeDeferred HE.out.2.1, ?_⟩⟩⟩⟩
          have hR3 := HE.out.2.2.1
          refine ⟨.bool true, by simp [results, Try.f3, go_sem, hR3], rfl, ?_⟩
          exact (HE.out.2.2.2.trans (belowK_b (w := w) (Nat.le_refl _) _ D2 _ _ (by omega) HE.out.1 rfl rfl)).trans (belowK_b (w := w) (Nat.le_refl _) _ D _ _ (by omega) HE.out.2.1 rfl rfl)
  · have hbg : 1000 < a0.size := by omega
    go_wp2_with fail
    have hR5 := (HA.out.2.1.set (.bool true)).cell
    exact ⟨.bool true, by simp [results, Try.f3, go_sem, hR5], rfl, HA.out.2.2.1.setCell (p := ⟨w.heap.size + 1, 0, none⟩) (by show _ ≤ w.heap.size + 1; omega) _⟩
end Go.Proofs.Ythnanmaeehobdaa
