/- The contract of version.Best. -/
import Derived.Test.YtldjnegoefdadaaGreatDoorVKnown
import Derived.Maps.AppendAt
namespace Go.Proofs.YtldjnegoefdadaaGreatDoor
open Go.RowKit Go.Shelf
set_option linter.unusedVariables false
set_option linter.unusedSimpArgs false
attribute [local go_sem] Oper.semAt_some

def vsB (v : V3) : ByteArray := ⟨(verL v.1 v.2.1 v.2.2).toArray⟩
/-- The last one that is within. -/
def bst (lo hi : ByteArray) (l : List V3) : ByteArray × Bool := l.foldl (fun a v => if withinB (vsB v) lo hi = true then (vsB v, true) else a) (⟨#[]⟩, false)
theorem bst_snoc (lo hi : ByteArray) (l : List V3) (v : V3) : bst lo hi (l ++ [v]) = if withinB (vsB v) lo hi = true then (vsB v, true) else bst lo hi l := by
  unfold bst
  rw [List.foldl_append]
  rfl

theorem own_row_v {β : Type} (B : Nat) (t : TypeId) (f : β → List Value) : Own (fun (s : β) W => Row W B t (f s)) := fun s X Y row h hg hrow => by
  refine (hg.block B h.lt (fun e => ?_)).trans h
  obtain ⟨o, ho, hc⟩ := hrow B e.symm
  rw [show X.heap[B]? = _ from h] at ho
  cases ho
  cases hc
theorem below_othersV {w w' : World} (h : Below w.heap.size w w') : KeepsOthers w w' := KeepsOthers.of_grownBy (grownBy_belowV h none) (fun j o e => by cases e)
theorem ax_ownV {B : Nat} {t : TypeId} {l : List Value} (q : Nat → Prop) : OwnFrom B (fun (_ : Unit) W => ∃ g, q g ∧ Row W g t l) := fun s X Y row hs hg hr => by
  obtain ⟨g, hq, hrow⟩ := hs
  refine ⟨g, hq, (hg.block g hrow.lt (fun e => ?_)).trans hrow⟩
  obtain ⟨_, o, ho, hc⟩ := hr g e.symm
  rw [show X.heap[g]? = _ from hrow] at ho
  cases ho
  cases hc
/-- What a round finds and leaves. -/
def BI (b : Nat) (lo hi : ByteArray) (w : World) (pre : List Kv) (W : World) : Prop :=
  (Row W b 9 [.string lo] ∧ Row W (b + 1) 9 [.string hi]) ∧ (Row W (b + 2) 9 [.string (bst lo hi (pre.map Subtype.val)).1] ∧ Row W (b + 3) 4 [.bool (bst lo hi (pre.map Subtype.val)).2]) ∧ Below b w W
theorem BI_own (b : Nat) (lo hi : ByteArray) (w : World) (B : Nat) (hb : b ≤ w.heap.size) (hbw : b ≤ B) : OwnFrom B (BI b lo hi w) :=
  OwnFrom.and (OwnFrom.and (Own.from (own_row_v b _ (fun _ => [.string lo])) _) (Own.from (own_row_v (b + 1) _ (fun _ => [.string hi])) _))
    (OwnFrom.and (OwnFrom.and (Own.from (own_row_v (b + 2) _ (fun (pre : List Kv) => [.string (bst lo hi (pre.map Subtype.val)).1])) _) (Own.from (own_row_v (b + 3) _ (fun (pre : List Kv) => [.bool (bst lo hi (pre.map Subtype.val)).2])) _)) (ownFrom_below hb hbw))
theorem BI.below {b : Nat} {lo hi : ByteArray} {w W W' : World} {pre : List Kv} (h : BI b lo hi w pre W) (hb : Below W.heap.size W W') : BI b lo hi w pre W' :=
  ⟨⟨h.1.1.below hb h.1.1.lt, h.1.2.below hb h.1.2.lt⟩, ⟨h.2.1.1.below hb h.2.1.1.lt, h.2.1.2.below hb h.2.1.2.lt⟩, h.2.2.trans (hb.mono (Nat.le_of_lt h.1.1.lt))⟩

set_option maxRecDepth 100000 in
set_option maxHeartbeats 2000000 in
theorem Best_any (lo hi : ByteArray) (hl : lo.size ≤ 1000) (hh : hi.size ≤ 1000) (w : World) (hG : VG w) (hN : NV w) :
    Calls Tryz.prog 78 #[.string lo, .string hi] w fun e w' => e = .returned (.tuple #[.string (bst lo hi kV).1, .bool (bst lo hi kV).2]) ∧ Below w.heap.size w w' := by
  obtain ⟨S0, hS0⟩ : ∃ S, (bst lo hi kV).1 = S := ⟨_, rfl⟩
  obtain ⟨r0, hr0⟩ : ∃ r, (bst lo hi kV).2 = r := ⟨_, rfl⟩
  rw [hS0, hr0]
  have HS0 := Lib.hid hS0
  have HR0 := Lib.hid hr0
  clear hS0 hr0
  refine (callsIn_wide (n := 6)).1 ?_
  refine callsIn_of_wp_marks Tryz.func78 rfl trivial ?_ rfl
  simp only [Tryz.ntmps78, List.size_toArray, List.length_cons, List.length_nil, Nat.reduceAdd, Nat.reduceSub, Array.replicate_succ, Array.replicate_zero, List.push_toArray, List.append_toArray, List.nil_append, List.cons_append]
  rw [wpIn_wide]
  obtain ⟨b, hb⟩ : ∃ b, w.heap.size = b := ⟨_, rfl⟩
  have HG := Lib.hid hG
  have HN := Lib.hid hN
  have HB := Lib.hid hb
  clear hG hN
  go_wp2_with fail
  refine ((callsIn_wide (n := 0)).1 (Known_in 0 _)).mono ?_
  rintro e w2 ⟨rfl, rfl⟩
  go_wp2_with fail
  obtain ⟨W0, hW0⟩ : ∃ W, (((w.alloc (.cells #[.string lo] 9)).alloc (.cells #[.string hi] 9)).alloc (.cells #[.string ⟨#[]⟩] 9)).alloc (.cells #[.bool false] 4) = W := ⟨_, rfl⟩
  rw [hW0]
  have hz0 : W0.heap.size = b + 4 := by rw [← hW0]; simp [hb]
  have hI0 : BI b lo hi w [] W0 := by
    rw [← hW0, ← hb]
    have z1 : (w.alloc (.cells #[.string lo] 9)).heap.size = w.heap.size + 1 := by simp
    have z2 : ((w.alloc (.cells #[.string lo] 9)).alloc (.cells #[.string hi] 9)).heap.size = w.heap.size + 2 := by simp
    have z3 : (((w.alloc (.cells #[.string lo] 9)).alloc (.cells #[.string hi] 9)).alloc (.cells #[.string ⟨#[]⟩] 9)).heap.size = w.heap.size + 3 := by simp
    refine ⟨⟨(((Row.self w _ _).alloc _).alloc _).alloc _, ?_⟩, ⟨?_, ?_⟩, ((((Below.refl _ _).alloc (Nat.le_refl _) _).alloc (by simp) _).alloc (by simp; omega) _).alloc (by simp; omega) _⟩
    · rw [← z1]; exact ((Row.self _ _ _).alloc _).alloc _
    · rw [← z2]; exact (Row.self _ _ _).alloc _
    · rw [← z3]; exact Row.self _ _ _
  have hBW := hI0.2.2
  rw [← wpIn_wide (n := 6)]
  refine' wpIn_rangeFunc_ownH rfl (by omega) (gf := 109) (lb := #[]) rfl trivial (enters_of Tryz.func109 (by kernel_rfl) rfl)
    (Known_stops 5 (by omega) W0 (HN.out.below (by rw [hb]; exact hBW))) (fun _ _ => trivial) (fun _ _ _ _ _ _ _ _ => trivial) (Below.refl _ _) (fun _ => rfl)
    (BI b lo hi w)
    (fun _ _ _ => False)
    (BI_own b lo hi w _ (by omega) (by omega))
    (fun _ _ _ _ _ hs _ _ => hs)
    hI0
    (fun x a' W => ∃ g, (a' = { tmps := #[Value.string lo, Value.string hi, Value.pointer (some ⟨b, 0, none⟩), Value.pointer (some ⟨b + 1, 0, none⟩), Value.string ⟨#[]⟩, Value.bool false, Value.pointer (some ⟨b + 1 + 1, 0, none⟩), Value.pointer (some ⟨b + 1 + 1 + 1, 0, none⟩), Value.pointer (some ⟨g, 0, none⟩), undef, Value.func (Fn.func 109) #[] #[], Value.agg #[Value.int .u16 x.1.1, Value.int .u16 x.1.2.1, Value.int .u16 x.1.2.2], undef, undef, undef, undef, undef, undef, undef, undef, undef], defers := [] } ∧ b + 3 < g) ∧ Row W g 130 [.int .u16 x.1.1, .int .u16 x.1.2.1, .int .u16 x.1.2.2])
    (fun x a' => ax_ownV _) ?hassign ?hbody ?hdone ?hstop
  case hstop =>
    rintro D c pre W _ hp h _
    exact h.elim
  case hassign =>
    rintro l pre x W K hI hK
    have hbW : b + 3 < W.heap.size := hI.2.1.2.lt
    dsimp only [encV]
    gi_wp2
    have ha : Below W.heap.size W (W.alloc (.cells #[.int .u16 x.1.1, .int .u16 x.1.2.1, .int .u16 x.1.2.2] 130)) := (Below.refl _ _).alloc (Nat.le_refl _) _
    exact hK _ _ ((below_othersV ha).from _) trivial (hI.below ha) ⟨W.heap.size, ⟨rfl, hbW⟩, row_alloc W _ _ _ _⟩
  case hbody =>
    rintro l' pre x a' W hl' hrec hI ⟨g, ⟨rfl, hbg⟩, hrow⟩ hlt
    obtain ⟨⟨x1, x2, x3⟩, hx⟩ := x
    have hx65 : x1 ≤ 65535 ∧ x2 ≤ 65535 ∧ x3 ≤ 65535 := by
      have : (x1, x2, x3) = (2, 1, 0) ∨ (x1, x2, x3) = (2, 2, 0) := by simpa [kV] using hx
      rcases this with h | h <;> (injection h with h1 h2; injection h2 with h2 h3; omega)
    obtain ⟨S, hS⟩ : ∃ S, vsB (x1, x2, x3) = S := ⟨_, rfl⟩
    have hbs : b ≤ W.heap.size := by have := hI.1.1.lt; omega
    have hWB : Below w.heap.size w W := by rw [HB.out]; exact hI.2.2
    have hTX := VText_any x1 x2 x3 hx65.1 hx65.2.1 hx65.2.2 W (HG.out.below hWB).t10
    rw [show (⟨(verL x1 x2 x3).toArray⟩ : ByteArray) = S from hS] at hTX
    have hSs : S.size ≤ 1000 := by
      rw [← hS]
      show (verL x1 x2 x3).toArray.size ≤ 1000
      unfold verL
      have l1 := Lib.nDigits_le20 x1 (by omega)
      have l2 := Lib.nDigits_le20 x2 (by omega)
      have l3 := Lib.nDigits_le20 x3 (by omega)
      simp [Lib.decDigits_length]
      omega
    have HWI := Lib.hid (fun W h => VWithin_any S lo hi hSs hl hh W h)
    have hbst := bst_snoc lo hi (pre.map Subtype.val) (x1, x2, x3)
    rw [hS] at hbst
    have c0 := hrow.cell 0
    have c1 := hrow.cell 1
    have c2 := hrow.cell 2
    simp only [List.getElem?_cons_zero, List.getElem?_cons_succ] at c0 c1 c2
    have HTX := Lib.hid hTX
    have HI := Lib.hid hI
    have HWB := Lib.hid hWB
    obtain ⟨r, hr⟩ : ∃ r, withinB S lo hi = r := ⟨_, rfl⟩
    rw [hr] at HWI hbst
    have HBS := Lib.hid hbst
    unfold vv at HTX
    clear hx65 hTX hI hWB hS hrow hbst hr
    dsimp only
    gi_wp2_with fail
    refine ⟨trivial, (CallsIn.inRound l' (callsIn_wide.2 HTX.out)).mono ?_⟩
    rintro e w2 ⟨rfl, hb2⟩
    have hI2 := HI.out.below hb2
    have d0 := hI2.1.1.cell 0
    have d1 := hI2.1.2.cell 0
    simp only [List.getElem?_cons_zero] at d0 d1
    have HI2 := Lib.hid hI2
    have HB2 := Lib.hid hb2
    clear hI2 hb2 c0 c1 c2
    gi_wp2_with fail
    refine ⟨trivial, (CallsIn.inRound l' (callsIn_wide.2 (HWI.out _ (HG.out.below (HWB.out.trans (HB2.out.mono HWB.out.size)))))).mono ?_⟩
    rintro e w3 ⟨rfl, hb3⟩
    have hI3 := HI2.out.below hb3
    have e2 := hI3.2.1.1.cell 0
    have e3 := hI3.2.1.2.cell 0
    have f2 := hI3.2.1.1.frozen 0
    have f3 := hI3.2.1.2.frozen 0
    simp only [List.getElem?_cons_zero] at e2 e3
    have HI3 := Lib.hid hI3
    have HKO := Lib.hid ((below_othersV HB2.out).trans (below_othersV hb3))
    clear hI3 hb3 d0 d1
    cases r with
    | true =>
      gi_wp2
      have hE : bst lo hi ((pre ++ [(⟨(x1, x2, x3), hx⟩ : Kv)]).map Subtype.val) = (S, true) := by
        rw [List.map_append]
        exact HBS.out
      refine ⟨(HKO.out.trans ((KeepsOthers.setCell _ _ _).trans (KeepsOthers.setCell _ _ _))).from _, trivial, ?_⟩
      unfold BI
      rw [hE]
      have hr2 := ((HI3.out.2.1.1.set 0 (.string S)).far (p := ⟨b + 3, 0, none⟩) (by show b + 2 ≠ b + 3; omega) (.bool true))
      have hr3 := ((HI3.out.2.1.2.far (p := ⟨b + 2, 0, none⟩) (by show b + 3 ≠ b + 2; omega) (.string S)).set 0 (.bool true))
      exact ⟨⟨(HI3.out.1.1.far (by show b ≠ b + 2; omega) _).far (by show b ≠ b + 3; omega) _, (HI3.out.1.2.far (by show b + 1 ≠ b + 2; omega) _).far (by show b + 1 ≠ b + 3; omega) _⟩, ⟨hr2, hr3⟩, (HI3.out.2.2.setCell (p := ⟨b + 2, 0, none⟩) (by show b ≤ b + 2; omega) _).setCell (p := ⟨b + 3, 0, none⟩) (by show b ≤ b + 3; omega) _⟩
    | false =>
      gi_wp2
      have hE : bst lo hi ((pre ++ [(⟨(x1, x2, x3), hx⟩ : Kv)]).map Subtype.val) = bst lo hi (pre.map Subtype.val) := by
        rw [List.map_append]
        exact HBS.out
      refine ⟨HKO.out.from _, trivial, ?_⟩
      unfold BI
      rw [hE]
      exact HI3.out
  case hdone =>
    rintro D ys W hD hys hI hK
    unfold BI at hI
    rw [hys] at hI
    rw [HS0.out, HR0.out] at hI
    have e2 := hI.2.1.1.cell 0
    have e3 := hI.2.1.2.cell 0
    simp only [List.getElem?_cons_zero] at e2 e3
    have HI := Lib.hid hI
    have HK := Lib.hid hK
    have HD := Lib.hid hD
    clear hI hK hD
    go_wp2_with fail
    go_quiet (fail)
    go_wp2_with fail
    have hKn : (W.drewN nq).heap[D]? = some (.deferred (some [])) := by
      rw [show (W.drewN nq).heap = W.heap by simp [World.drewN]]
      exact HK.out
    have hDb : w.heap.size ≤ D := by
      have h1 : W0.heap.size ≤ D := HD.out
      omega
    refine ⟨by simp, .inl ⟨_, _, rfl, run_takeDeferred hKn, ?_⟩⟩
    have hB6 : Below w.heap.size w (W.drewN nq) := by rw [hb]; exact below_dr HI.out.2.2 nq
    exact ⟨_, results_tmp2 rfl _ _ _, rfl, hB6.trans (belowK_b (w := w) (Nat.le_refl _) _ D _ _ hDb hKn rfl rfl)⟩
end Go.Proofs.YtldjnegoefdadaaGreatDoor
