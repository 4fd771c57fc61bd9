/- The contract of format's plain: whether all bytes are code points' writings, none of them a control's. -/
import Derived.Test.YtheidjnapoipaaaGreatDoorUCount
import Derived.Test.YtheidjnapoipaaaGreatDoorFPlain
namespace Go.Proofs.YtheidjnapoipaaaGreatDoor
open Go.RowKit Go.Shelf
set_option linter.unusedVariables false
attribute [local go_sem] Oper.semAt_some

theorem set_other_f {W : World} {b b' : Nat} {v u : Value} (h : W.cell? ⟨b, 0, none⟩ = some v) (hne : b ≠ b') : (W.setCell ⟨b', 0, none⟩ u).cell? ⟨b, 0, none⟩ = some v :=
  (World.cell?_of_block (Below.heap_setCell W ⟨b', 0, none⟩ u b hne)).trans h
theorem box_ne_f {W : World} {b D : Nat} {t : TypeId} {v : Value} {o : Option (List Deferred)} (h : Boxed W b t v) (hK : W.heap[D]? = some (.deferred o)) : some b ≠ some D := by
  intro e
  injection e with e
  subst e
  rw [show W.heap[b]? = _ from h] at hK
  cases hK
theorem boxed_below_f {B : Nat} {W W' : World} {b : Nat} {t : TypeId} {v : Value} (h : Boxed W b t v) (hb : Below B W W') (hB : b < B) : Boxed W' b t v := (hb.block b hB).trans h
theorem ownFrom_pure_f {α : Type} {B : Nat} {p : α → Prop} : OwnFrom B (fun (s : α) (_ : World) => p s) := fun s X Y row hs hg hr => hs

theorem plain_of {s : ByteArray} (h : ∀ x ∈ runesB s, okP x.2 = true) : plainB s = whole s := by
  unfold plainB
  rw [List.all_eq_true.2 h, Bool.true_and]
theorem plain_not {s : ByteArray} {x : Nat × Nat} (hx : x ∈ runesB s) (h : okP x.2 = false) : plainB s = false := by
  unfold plainB
  rw [show (runesB s).all (fun x => okP x.2) = false from List.all_eq_false.2 ⟨x, hx, by rw [h]; decide⟩]
  rfl

set_option maxRecDepth 100000 in
set_option maxHeartbeats 1000000 in
theorem plain_any (s : ByteArray) (w : World) (hs : s.size ≤ 140737488355328) :
    Calls Tryz.prog 55 #[.string s] w fun e w' => e = .returned (.bool (plainB s)) ∧ Below w.heap.size w w' := by
  refine (callsIn_wide (n := 6)).1 ?_
  refine callsIn_of_wp_marks Tryz.func55 rfl trivial ?_ rfl
  simp only [Tryz.ntmps55, List.size_toArray, List.length_cons, List.length_nil, Nat.reduceAdd, Nat.reduceSub, Array.replicate_succ, Array.replicate_zero, List.push_toArray, List.append_toArray, List.nil_append, List.cons_append]
  rw [wpIn_wide]
  go_wp2_with fail
  refine ((callsIn_wide (n := 0)).1 (Runes_in 0 s _)).mono ?_
  rintro e w2 ⟨rfl, rfl⟩
  go_wp2_with fail
  have bC := Boxed.new w 4 (.bool false)
  have bN := Boxed.new (w.alloc (.cells #[.bool false] 4)) 9 (.string s)
  rw [World.size_alloc] at bN
  have hB1 : Below w.heap.size w ((w.alloc (.cells #[.bool false] 4)).alloc (.cells #[.string s] 9)) := ((Below.refl _ _).alloc (Nat.le_refl _) _).alloc (by simp) _
  rw [← wpIn_wide (n := 6)]
  refine' wpIn_rangeFunc_ownG rfl (by omega) (gf := 81) (lb := #[.pointer (some ⟨w.heap.size + 1, 0, none⟩)]) rfl trivial (enters_of Tryz.func81 (by kernel_rfl) rfl)
    (Runes_stops 5 (by omega) (w.heap.size + 1) s hs _ bN) keepsR_t (keepsR_b (by simp)) (Below.refl _ _) (fun _ => rfl)
    (fun pre W => Boxed W w.heap.size 4 (.bool false) ∧ Below w.heap.size w W ∧ (∀ x ∈ pre, okP x.1.2 = true))
    (fun c pre W => Boxed W w.heap.size 4 (.bool false) ∧ Below w.heap.size w W ∧ (c = .ret ∧ plainB s = false))
    (OwnFrom.and (Own.from (own_box_u _ _ _) _) (OwnFrom.and (ownFrom_below (Nat.le_refl _) (by simp; omega)) ownFrom_pure_f))
    (fun c => OwnFrom.and (Own.from (own_box_u _ _ _) _) (OwnFrom.and (ownFrom_below (Nat.le_refl _) (by simp; omega)) ownFrom_pure_f))
    ⟨bC.alloc _, hB1, fun x hx => by cases hx⟩
    _ _ _ _ _
  case refine'_2 =>
    intro l x W K hK
    gi_wp2
    exact hK
  case refine'_5 =>
    rintro D c pre W hD hpre ⟨hv, hB, rfl, hpl⟩ hK
    have HP := Lib.hid hpl
    clear hpl
    rw [wpIn_wide]
    have hc := hv.cell
    go_wp2_with fail
    have hR := (hv.kept (grownBy_putObj' _ D (.deferred none)) (box_ne_f hv hK)).cell
    refine ⟨by simp, .inl ⟨_, _, rfl, run_takeDeferred hK, ?_⟩⟩
    exact ⟨.bool false, by simp [results, Tryz.f55, go_sem, hR], by rw [HP.out], hB.trans (belowK_b (w := w) (Nat.le_refl _) _ D _ _ (by simp at hD; omega) hK rfl rfl)⟩
  case refine'_3 =>
    rintro l' pre ⟨⟨p, c⟩, hx⟩ W ⟨hv, hB, hpre⟩ hlt
    have hc := hv.cell
    have hf := hv.frozen
    have HPRE := Lib.hid hpre
    clear hpre
    cases ho : okP c with
    | true =>
      have ho2 := ho
      unfold okP at ho2
      rw [Bool.and_eq_true, decide_eq_true_eq, decide_eq_true_eq] at ho2
      have h32 : (32 : Int) ≤ (c : Int) := by omega
      have h127 : ((c : Int) == 127) = false := by simp; omega
      have HO := Lib.hid ho
      clear ho ho2
      gi_wp2
      refine ⟨KeepsFrom.refl _ _, ⟨KeepsWalks.refl _, rfl⟩, hv, hB, fun x hx2 => ?_⟩
      rcases List.mem_append.1 hx2 with h | h
      · exact HPRE.out x h
      · rw [List.mem_singleton.1 h]; exact HO.out
    | false =>
      have hpl : Hid (plainB s = false) := Lib.hid (plain_not hx ho)
      have ho2 : c < 32 ∨ c = 127 := by
        unfold okP at ho
        rw [Bool.and_eq_false_iff, decide_eq_false_iff_not, decide_eq_false_iff_not] at ho
        omega
      clear ho
      rcases ho2 with h | h
      · have h32 : (c : Int) < 32 := by omega
        clear h
        gi_wp2
        exact ⟨(KeepsOthers.setCell _ _ _).from _, hv.set (.bool false), hB.setCell (p := ⟨w.heap.size, 0, none⟩) (Nat.le_refl _) _, rfl, hpl.out⟩
      · subst h
        gi_wp2
        exact ⟨(KeepsOthers.setCell _ _ _).from _, hv.set (.bool false), hB.setCell (p := ⟨w.heap.size, 0, none⟩) (Nat.le_refl _) _, rfl, hpl.out⟩
  case refine'_4 =>
    rintro D ys W hD hys ⟨hv, hB, hall⟩ hK
    have hpl : Hid (plainB s = whole s) := Lib.hid (plain_of fun x hx => by
      rw [← hys] at hx
      obtain ⟨y, hy, rfl⟩ := List.mem_map.1 hx
      exact hall y hy)
    clear hall hys
    have hc := hv.cell
    have hf := hv.frozen
    go_wp2_with fail
    refine (Valid_any s _ hs).mono ?_
    rintro e w3 ⟨rfl, hb3⟩
    have hv3 := boxed_below_f hv hb3 hv.lt
    have hK3 := (hb3.block D (Array.getElem?_eq_some_iff.1 hK).1).trans hK
    have hB3 := hB.trans (hb3.mono hB.size)
    have hc := hv3.cell
    have hf := hv3.frozen
    have HE := Lib.hid (And.intro hv3 (And.intro hK3 hB3))
    clear hv3 hK3 hB3 hv hB hK hb3
    go_wp2_with fail
    have hvR := HE.out.1.set (.bool (whole s))
    have kD := (KeepsOthers.setCell _ ⟨w.heap.size, 0, none⟩ (.bool (whole s))).same D _ HE.out.2.1 rfl
    have hR := (hvR.kept (grownBy_putObj' _ D (.deferred none)) (box_ne_f hvR kD)).cell
    have hB4 := HE.out.2.2.setCell (p := ⟨w.heap.size, 0, none⟩) (Nat.le_refl _) (.bool (whole s))
    refine ⟨by simp, .inl ⟨_, _, rfl, run_takeDeferred kD, ?_⟩⟩
    exact ⟨.bool (whole s), by simp [results, Tryz.f55, go_sem, hR], by rw [hpl.out], hB4.trans (belowK_b (w := w) (Nat.le_refl _) _ D _ _ (by simp at hD; omega) kD rfl rfl)⟩
end Go.Proofs.YtheidjnapoipaaaGreatDoor
