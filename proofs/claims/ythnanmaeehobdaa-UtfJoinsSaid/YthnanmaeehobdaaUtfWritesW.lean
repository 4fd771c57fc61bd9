/- The walk of UtfWrites. -/
import Derived.Deep.DeepCutAuto
import Derived.Test.YthnanmaeehobdaaUCount
namespace Go.Proofs.Ythnanmaeehobdaa
open Go.RowKit Go.Shelf
set_option linter.unusedVariables false
attribute [local go_sem] Oper.semAt_some

theorem runesB_empty : runesB ⟨#[]⟩ = [] := by decide +kernel
theorem whole_empty : whole ⟨#[]⟩ = true := by decide +kernel
theorem runesB_put {c : Nat} (h : Utf8.valid c = true) : runesB (putB c) = [(0, c)] := by
  have e : (putB c).data.toList = enc c := by rw [putB_nat h]
  have hd : dec ((enc c).drop 0) = some (c, encLen c) := by
    have := dec_enc c [] h
    rwa [List.append_nil] at this
  unfold runesB
  rw [e, runesAt_some hd, runesAt_end (by rw [enc_length]; omega)]
theorem whole_put {c : Nat} (h : Utf8.valid c = true) : whole (putB c) = true := by
  unfold whole goodEnd
  rw [runesB_put h, putB_size h, decide_eq_true_eq]
  show 0 + encLen c = _
  omega

theorem boxed_below {B : Nat} {W W' : World} {b : Nat} {t : TypeId} {v : Value} (h : Boxed W b t v) (hb : Below B W W') (hB : b < B) : Boxed W' b t v := (hb.block b hB).trans h

theorem box_ne {W : World} {b D : Nat} {t : TypeId} {v : Value} {o : Option (List Deferred)} (h : Boxed W b t v) (hK : W.heap[D]? = some (.deferred o)) : some b ≠ some D := by
  intro e
  injection e with e
  subst e
  rw [show W.heap[b]? = _ from h] at hK
  cases hK

set_option maxRecDepth 100000 in
set_option maxHeartbeats 4000000 in
theorem UtfWrites_walk (a0 : Int) (w0 : (Lit.int .i32 a0).wf = true) (w : World) :
    Calls Try.prog 4 #[.int .i32 a0] w fun e w' => e = .returned (.bool true) ∧ Below w.heap.size w w' := by
  have hr : -2147483648 ≤ a0 ∧ a0 ≤ 2147483647 := by simpa [Lit.wf, IntKind.min, IntKind.max, IntKind.signed, IntKind.bits] using w0
  clear w0
  obtain ⟨hr0, hr1⟩ := hr
  refine (callsIn_wide (n := 6)).1 ?_
  refine callsIn_of_wp_marks Try.func4 rfl trivial ?_ rfl
  simp only [Try.ntmps4, List.size_toArray, List.length_cons, List.length_nil, Nat.reduceAdd, Nat.reduceSub, Array.replicate_succ, Array.replicate_zero, List.push_toArray, List.append_toArray, List.nil_append, List.cons_append]
  rw [wpIn_wide]
  have b1 := Boxed.new w 21 (.int .i32 a0)
  have b2 := Boxed.new (w.alloc (.cells #[.int .i32 a0] 21)) 4 (.bool false)
  rw [World.size_alloc] at b2
  have B1 := b1.alloc (.cells #[.bool false] 4)
  have hBe : Below w.heap.size w ((w.alloc (.cells #[.int .i32 a0] 21)).alloc (.cells #[.bool false] 4)) := ((Below.refl _ _).alloc (Nat.le_refl _) _).alloc (by simp) _
  have hsz2 : ((w.alloc (.cells #[.int .i32 a0] 21)).alloc (.cells #[.bool false] 4)).heap.size = w.heap.size + 2 := by simp
  have HB := Lib.hid (And.intro B1 (And.intro b2 (And.intro hBe hsz2)))
  clear b1 b2 B1 hBe hsz2
  obtain ⟨s, HS⟩ : ∃ s, Hid (putB a0 = s) := ⟨_, Lib.hid rfl⟩
  go_wp2_with fail
  refine (awake_any _).mono ?_
  rintro e wa ⟨rfl, hb0⟩
  have HA : Hid (Boxed wa w.heap.size 21 (.int .i32 a0) ∧ Boxed wa (w.heap.size + 1) 4 (.bool false) ∧ Below w.heap.size w wa ∧ w.heap.size + 2 ≤ wa.heap.size) := Lib.hid
    ⟨boxed_below HB.out.1 hb0 (by rw [HB.out.2.2.2]; omega), boxed_below HB.out.2.1 hb0 (by rw [HB.out.2.2.2]; omega), HB.out.2.2.1.trans (hb0.mono (by rw [HB.out.2.2.2]; omega)), by have := hb0.size; rw [HB.out.2.2.2] at this; exact this⟩
  clear HB hb0
  have hc1 := HA.out.1.cell
  have hc2 := HA.out.2.1.cell
  have hs0 : (s.toList != s.toList) = false := by simp
  cases hv : Utf8.valid a0 with
  | false =>
    obtain rfl : s = ⟨#[]⟩ := by rw [← HS.out, putB_not hv]
    have hvh := Lib.hid hv
    have hlen : Hid ((runesB ⟨#[]⟩).length = 0) := Lib.hid (by rw [runesB_empty]; rfl)
    have hwh := Lib.hid whole_empty
    have hsz : Hid ((⟨#[]⟩ : ByteArray).size ≤ 4) := Lib.hid (by show (0 : Nat) ≤ 4; omega)
    clear hv
    go_wp2_with (first
      | (go_at_call 13; refine (Put_any _ _).mono ?_; rintro e w' ⟨rfl, rfl⟩; rw [HS.out])
      | (go_at_call 14; refine (refPut_any _ _).mono ?_; rintro e wb ⟨rfl, hbb⟩; rw [HS.out]; have HBB := Lib.hid (And.intro (boxed_below HA.out.1 hbb (by have := HA.out.2.2.2; omega)) (And.intro (boxed_below HA.out.2.1 hbb (by have := HA.out.2.2.2; omega)) (And.intro (HA.out.2.2.1.trans (hbb.mono (by have := HA.out.2.2.2; omega))) (Nat.le_trans HA.out.2.2.2 hbb.size)))); have hd1 := HBB.out.1.cell; have hd2 := HBB.out.2.1.cell)
      | (go_at_call 15; refine (Point_any _ _).mono ?_; rintro e w' ⟨rfl, rfl⟩; rw [hvh.out]))
    clear hbb hc1 hc2 hd1 hd2
    refine ((callsIn_wide (n := 0)).1 (Runes_in 0 _ _)).mono ?_
    rintro e w2 ⟨rfl, rfl⟩
    go_wp2_with fail
    have bC := Boxed.new wb 3 (.int .i64 0)
    have bN := Boxed.new (wb.alloc (.cells #[.int .i64 0] 3)) 9 (.string ⟨#[]⟩)
    rw [World.size_alloc] at bN
    have hB1 : Below w.heap.size w ((wb.alloc (.cells #[.int .i64 0] 3)).alloc (.cells #[.string ⟨#[]⟩] 9)) := (HBB.out.2.2.1.alloc (by have := HBB.out.2.2.2; omega) _).alloc (by have := HBB.out.2.2.2; simp; omega) _
    have hwb : w.heap.size + 2 ≤ wb.heap.size := HBB.out.2.2.2
    rw [← wpIn_wide (n := 6)]
    refine' wpIn_rangeFunc_ownG rfl (by omega) (gf := 20) (lb := #[.pointer (some ⟨wb.heap.size + 1, 0, none⟩)]) rfl trivial (enters_of Try.func20 (by kernel_rfl) rfl)
      (Runes_stops 5 (by omega) (wb.heap.size + 1) ⟨#[]⟩ (by have := hsz.out; omega) _ bN) keepsR_t (keepsR_b (by simp)) (Below.refl _ _) (fun _ => rfl)
      (fun pre W => Boxed W w.heap.size 21 (.int .i32 a0) ∧ Boxed W (w.heap.size + 1) 4 (.bool false) ∧ Boxed W wb.heap.size 3 (.int .i64 (pre.length : Nat)) ∧ Below w.heap.size w W)
      (fun _ _ _ => False)
      (OwnFrom.and (Own.from (own_box _ _ _) _) (OwnFrom.and (Own.from (own_box _ _ _) _) (OwnFrom.and (Own.from (own_box _ _ _) _) (ownFrom_below (Nat.le_refl _) (by simp; omega)))))
      (fun _ _ _ _ _ hs _ _ => hs)
      ⟨(HBB.out.1.alloc _).alloc _, (HBB.out.2.1.alloc _).alloc _, bC.alloc _, hB1⟩
      _ _ _ _ _
    case refine'_2 =>
      intro l x W K hK
      gi_wp2
      exact hK
    case refine'_5 =>
      rintro D c pre W _ _ h _
      exact h.elim
    case refine'_3 =>
      rintro l' pre ⟨⟨p, c⟩, hx⟩ W ⟨hv1, hv2, hv3, hB⟩ hlt
      have hpl : pre.length < 140737488355328 := by have := hlen.out; omega
      exact absurd hlt (by rw [hlen.out]; omega)
    case refine'_4 =>
      rintro D ys W hD hys ⟨hv1, hv2, hv3, hB⟩ hK
      have hl : ys.length = (runesB ⟨#[]⟩).length := by rw [← hys, List.length_map]
      rw [hl] at hv3
      rw [hlen.out] at hv3
      have hc2 := hv2.cell
      have hf2 := hv2.frozen
      have hc3 := hv3.cell
      have hDD : w.heap.size ≤ D := by simp at hD; omega
      have HV := Lib.hid (And.intro hv2 (And.intro hB hK))
      clear hK hB hys hl hD hr0 hr1
      go_wp2_with (go_at_call 12; refine (Valid_any _ _ (by have := hsz.out; omega)).mono ?_; rintro e w5 ⟨rfl, hb5⟩; rw [hwh.out]; have h5 := Lib.hid (And.intro (boxed_below HV.out.1 hb5 HV.out.1.lt) (And.intro (HV.out.2.1.trans (hb5.mono HV.out.2.1.size)) ((hb5.block D (Array.getElem?_eq_some_iff.1 HV.out.2.2).1).trans HV.out.2.2))); have hc5 := h5.out.1.cell; have hf5 := h5.out.1.frozen)
      have hK5 := (KeepsOthers.setCell w5 ⟨w.heap.size + 1, 0, none⟩ (.bool true)).same D _ h5.out.2.2 rfl
      have hR5 := ((h5.out.1.set (.bool true)).kept (grownBy_putObj' _ D (.deferred none)) (box_ne (h5.out.1.set (.bool true)) hK5)).cell
      refine ⟨by simp, .inl ⟨_, _, rfl, run_takeDeferred hK5, ?_⟩⟩
      refine ⟨.bool true, by simp [results, Try.f4, go_sem, hR5], rfl, ?_⟩
      exact (h5.out.2.1.setCell (p := ⟨w.heap.size + 1, 0, none⟩) (by show _ ≤ w.heap.size + 1; omega) _).trans (belowK_b (w := w) (Nat.le_refl _) _ D _ _ hDD hK5 rfl rfl)
  | true =>
    obtain ⟨n, rfl⟩ : ∃ n : Nat, a0 = n := ⟨a0.toNat, by have := (valid_iff a0).1 hv; omega⟩
    have hvh := Lib.hid hv
    have hrb : Hid (runesB s = [(0, n)]) := Lib.hid (by rw [← HS.out]; exact runesB_put hv)
    have hlen : Hid ((runesB s).length = 1) := Lib.hid (by rw [hrb.out]; rfl)
    have hwh : Hid (whole s = true) := Lib.hid (by rw [← HS.out]; exact whole_put hv)
    have hsz : Hid (s.size ≤ 4 ∧ 1 ≤ s.size) := Lib.hid (by rw [← HS.out, putB_size hv]; have := encLen_bd n; omega)
    have hmin : (if (1 : Int) < (s.size : Int) then (1 : Int) else (s.size : Int)) = 1 := by have := hsz.out; split <;> omega
    have hne : (s.toList == []) = false := by
      rw [beq_eq_false_iff_ne]; intro e
      have h1 := congrArg List.length e
      rw [ByteArray.toList_eq] at h1
      have h2 := hsz.out
      have h3 : s.data.toList.length = s.size := by simp
      rw [h3] at h1
      have h4 : s.size = 0 := h1
      omega
    clear hv
    go_wp2_with (first
      | (go_at_call 13; refine (Put_any _ _).mono ?_; rintro e w' ⟨rfl, rfl⟩; rw [HS.out])
      | (go_at_call 14; refine (refPut_any _ _).mono ?_; rintro e wb ⟨rfl, hbb⟩; rw [HS.out]; have HBB := Lib.hid (And.intro (boxed_below HA.out.1 hbb (by have := HA.out.2.2.2; omega)) (And.intro (boxed_below HA.out.2.1 hbb (by have := HA.out.2.2.2; omega)) (And.intro (HA.out.2.2.1.trans (hbb.mono (by have := HA.out.2.2.2; omega))) (Nat.le_trans HA.out.2.2.2 hbb.size)))); have hd1 := HBB.out.1.cell; have hd2 := HBB.out.2.1.cell)
      | (go_at_call 15; refine (Point_any _ _).mono ?_; rintro e w' ⟨rfl, rfl⟩; rw [hvh.out]))
    clear hbb hc1 hc2 hd1 hd2
    refine ((callsIn_wide (n := 0)).1 (Runes_in 0 _ _)).mono ?_
    rintro e w2 ⟨rfl, rfl⟩
    go_wp2_with fail
    have bC := Boxed.new wb 3 (.int .i64 0)
    have bN := Boxed.new (wb.alloc (.cells #[.int .i64 0] 3)) 9 (.string s)
    rw [World.size_alloc] at bN
    have hB1 : Below w.heap.size w ((wb.alloc (.cells #[.int .i64 0] 3)).alloc (.cells #[.string s] 9)) := (HBB.out.2.2.1.alloc (by have := HBB.out.2.2.2; omega) _).alloc (by have := HBB.out.2.2.2; simp; omega) _
    have hwb : w.heap.size + 2 ≤ wb.heap.size := HBB.out.2.2.2
    rw [← wpIn_wide (n := 6)]
    refine' wpIn_rangeFunc_ownG rfl (by omega) (gf := 20) (lb := #[.pointer (some ⟨wb.heap.size + 1, 0, none⟩)]) rfl trivial (enters_of Try.func20 (by kernel_rfl) rfl)
      (Runes_stops 5 (by omega) (wb.heap.size + 1) s (by have := hsz.out; omega) _ bN) keepsR_t (keepsR_b (by simp)) (Below.refl _ _) (fun _ => rfl)
      (fun pre W => Boxed W w.heap.size 21 (.int .i32 (n : Nat)) ∧ Boxed W (w.heap.size + 1) 4 (.bool false) ∧ Boxed W wb.heap.size 3 (.int .i64 (pre.length : Nat)) ∧ Below w.heap.size w W)
      (fun _ _ _ => False)
      (OwnFrom.and (Own.from (own_box _ _ _) _) (OwnFrom.and (Own.from (own_box _ _ _) _) (OwnFrom.and (Own.from (own_box _ _ _) _) (ownFrom_below (Nat.le_refl _) (by simp; omega)))))
      (fun _ _ _ _ _ hs _ _ => hs)
      ⟨(HBB.out.1.alloc _).alloc _, (HBB.out.2.1.alloc _).alloc _, bC.alloc _, hB1⟩
      _ _ _ _ _
    case refine'_2 =>
      intro l x W K hK
      gi_wp2
      exact hK
    case refine'_5 =>
      rintro D c pre W _ _ h _
      exact h.elim
    case refine'_3 =>
      rintro l' pre ⟨⟨p, c⟩, hx⟩ W ⟨hv1, hv2, hv3, hB⟩ hlt
      have hpl : pre.length < 140737488355328 := by have := hlen.out; omega
      have hx' : (p, c) = (0, n) := by rw [hrb.out] at hx; simpa using hx
      injection hx' with hx1 hx2
      subst hx1 hx2
      have hc1 := hv1.cell
      have hc3 := hv3.cell
      have hf3 := hv3.frozen
      gi_wp2
      refine ⟨(KeepsOthers.setCell _ _ _).from _, keepsR_set _ (by omega) _, hv1.other (by omega) _, hv2.other (by omega) _, ?_, hB.setCell (p := ⟨wb.heap.size, 0, none⟩) (by show _ ≤ wb.heap.size; omega) _⟩
      have h := hv3.set (.int .i64 ((pre.length : Int) + 1))
      rw [List.length_append]
      exact h
    case refine'_4 =>
      rintro D ys W hD hys ⟨hv1, hv2, hv3, hB⟩ hK
      have hl : ys.length = (runesB s).length := by rw [← hys, List.length_map]
      rw [hl] at hv3
      rw [hlen.out] at hv3
      replace hv3 : Boxed W wb.heap.size 3 (.int .i64 1) := hv3
      have hc2 := hv2.cell
      have hf2 := hv2.frozen
      have hc3 := hv3.cell
      have hDD : w.heap.size ≤ D := by simp at hD; omega
      have HV := Lib.hid (And.intro hv2 (And.intro hB hK))
      clear hK hB hys hl hD hr0 hr1
      go_wp2_with (go_at_call 12; refine (Valid_any _ _ (by have := hsz.out; omega)).mono ?_; rintro e w5 ⟨rfl, hb5⟩; rw [hwh.out]; have h5 := Lib.hid (And.intro (boxed_below HV.out.1 hb5 HV.out.1.lt) (And.intro (HV.out.2.1.trans (hb5.mono HV.out.2.1.size)) ((hb5.block D (Array.getElem?_eq_some_iff.1 HV.out.2.2).1).trans HV.out.2.2))); have hc5 := h5.out.1.cell; have hf5 := h5.out.1.frozen)
      have hK5 := (KeepsOthers.setCell w5 ⟨w.heap.size + 1, 0, none⟩ (.bool true)).same D _ h5.out.2.2 rfl
      have hR5 := ((h5.out.1.set (.bool true)).kept (grownBy_putObj' _ D (.deferred none)) (box_ne (h5.out.1.set (.bool true)) hK5)).cell
      refine ⟨by simp, .inl ⟨_, _, rfl, run_takeDeferred hK5, ?_⟩⟩
      refine ⟨.bool true, by simp [results, Try.f4, go_sem, hR5], rfl, ?_⟩
      exact (h5.out.2.1.setCell (p := ⟨w.heap.size + 1, 0, none⟩) (by show _ ≤ w.heap.size + 1; omega) _).trans (belowK_b (w := w) (Nat.le_refl _) _ D _ _ hDD hK5 rfl rfl)
end Go.Proofs.Ythnanmaeehobdaa
