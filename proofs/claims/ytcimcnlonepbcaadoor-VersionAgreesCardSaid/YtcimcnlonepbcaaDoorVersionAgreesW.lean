/- The walk of VersionAgrees. -/
import Derived.Test.YtcimcnlonepbcaaDoorVEq
import Derived.Test.YtcimcnlonepbcaaDoorVRWithin
namespace Go.Proofs.YtcimcnlonepbcaaDoor
open Go.RowKit Go.Shelf
set_option linter.unusedVariables false
set_option linter.unusedSimpArgs false
attribute [local go_sem] Oper.semAt_some

/-- The document's best one. -/
def rbst (lo hi : ByteArray) : ByteArray := if withinB ⟨#[50, 46, 50, 46, 48]⟩ lo hi = true then ⟨#[50, 46, 50, 46, 48]⟩ else if withinB ⟨#[50, 46, 49, 46, 48]⟩ lo hi = true then ⟨#[50, 46, 49, 46, 48]⟩ else ⟨#[]⟩
theorem vsB_21 : vsB (2, 1, 0) = ⟨#[50, 46, 49, 46, 48]⟩ := by decide +kernel
theorem vsB_22 : vsB (2, 2, 0) = ⟨#[50, 46, 50, 46, 48]⟩ := by decide +kernel
theorem bst_kV (lo hi : ByteArray) : bst lo hi kV = (rbst lo hi, withinB ⟨#[50, 46, 50, 46, 48]⟩ lo hi || withinB ⟨#[50, 46, 49, 46, 48]⟩ lo hi) := by
  unfold bst rbst kV
  simp only [List.foldl_cons, List.foldl_nil, vsB_21, vsB_22]
  cases withinB ⟨#[50, 46, 50, 46, 48]⟩ lo hi <;> cases withinB ⟨#[50, 46, 49, 46, 48]⟩ lo hi <;> rfl

set_option maxHeartbeats 400000 in
theorem refBest_any (lo hi : ByteArray) (hl : lo.size ≤ 1000) (hh : hi.size ≤ 1000) (w : World) :
    Calls Tryd.prog 16 #[.string lo, .string hi] w fun e w' => e = .returned (.string (rbst lo hi)) ∧ Below w.heap.size w w' := by
  have H1 := Lib.hid (fun W => refVWithin_any ⟨#[50, 46, 50, 46, 48]⟩ lo hi (by decide) hl hh W)
  have H2 := Lib.hid (fun W => refVWithin_any ⟨#[50, 46, 49, 46, 48]⟩ lo hi (by decide) hl hh W)
  obtain ⟨R, hR⟩ : ∃ R, rbst lo hi = R := ⟨_, rfl⟩
  rw [hR]
  unfold rbst at hR
  obtain ⟨x, hx⟩ : ∃ x, withinB ⟨#[50, 46, 50, 46, 48]⟩ lo hi = x := ⟨_, rfl⟩
  obtain ⟨y, hy⟩ : ∃ y, withinB ⟨#[50, 46, 49, 46, 48]⟩ lo hi = y := ⟨_, rfl⟩
  rw [hx] at H1 hR
  rw [hy] at H2 hR
  clear hx hy
  cases x with
  | true =>
    have HR := Lib.hid hR
    clear hR
    go_enter Tryd.func16, Tryd.ntmps16
    go_wp2_with fail
    refine (H1.out _).mono ?_
    rintro e w1 ⟨rfl, hb1⟩
    go_wp2
    go_ret
    exact ⟨by rw [← HR.out]; rfl, hb1⟩
  | false =>
    cases y with
    | true =>
      have HR := Lib.hid hR
      clear hR
      go_enter Tryd.func16, Tryd.ntmps16
      go_wp2_with fail
      refine (H1.out _).mono ?_
      rintro e w1 ⟨rfl, hb1⟩
      go_wp2_with fail
      refine (H2.out _).mono ?_
      rintro e w2 ⟨rfl, hb2⟩
      go_wp2
      go_ret
      exact ⟨by rw [← HR.out]; rfl, hb1.trans (hb2.mono hb1.size)⟩
    | false =>
      have HR := Lib.hid hR
      clear hR
      go_enter Tryd.func16, Tryd.ntmps16
      go_wp2_with fail
      refine (H1.out _).mono ?_
      rintro e w1 ⟨rfl, hb1⟩
      go_wp2_with fail
      refine (H2.out _).mono ?_
      rintro e w2 ⟨rfl, hb2⟩
      go_wp2
      go_ret
      exact ⟨by rw [← HR.out]; rfl, hb1.trans (hb2.mono hb1.size)⟩

theorem results_boolV {fn : Func} {p : Tmp} (h : fn.results = #[.cell p 4]) (tmps : Array Value) (w : World) (g : Nat) (b : Bool) (hp : tmps.getD p undef = .pointer (some ⟨g, 0, none⟩)) (hc : w.cell? ⟨g, 0, none⟩ = some (.bool b)) :
    (results fn tmps).run Tryd.prog w = .ok (.bool b) w := by
  have hp' : tmps[p]?.getD undef = .pointer (some ⟨g, 0, none⟩) := by simpa using hp
  simp [results, h, hp', asAddr, loadVar, go_sem, hc]
theorem max3v {P : Program} (ts : Array TypeId) (t : TypeId) (x y z : Nat) (W : World) : (Builtin.max_ ts t #[.int .i64 x, .int .i64 y, .int .i64 z]).run P W = .ok (.int .i64 ((max (max x y) z : Nat) : Int)) W := by
  have e : ∀ x y : Int, (if x < y then y else x) = max x y := by intro x y; split <;> omega
  simp [Builtin.max_, Builtin.max2, e]
  omega
theorem pre_bad {pre : List Kv} {x : Kv} (h : pre.length < 2) (hx : ¬ x.1 = kV.getD pre.length (0, 0, 0)) : ¬ (pre ++ [x]).map Subtype.val <+: kV := by
  rintro ⟨r, hr⟩
  apply hx
  have h1 : (List.map Subtype.val (pre ++ [x]) ++ r)[pre.length]? = kV[pre.length]? := by rw [hr]
  rw [List.map_append, List.append_assoc, List.getElem?_append_right (by simp)] at h1
  simp at h1
  rw [List.getD_eq_getElem?_getD, ← h1]
  rfl
theorem q11 (W : World) : (Op.equalIn 10000 24 (.agg #[.int .u16 2, .int .u16 1, .int .u16 0]) (.agg #[.int .u16 2, .int .u16 1, .int .u16 0])).run Tryd.prog W = .ok true W := by
  have h := veq_in 2 1 0 2 1 0 W
  exact h
theorem q12 (W : World) : (Op.equalIn 10000 24 (.agg #[.int .u16 2, .int .u16 1, .int .u16 0]) (.agg #[.int .u16 2, .int .u16 2, .int .u16 0])).run Tryd.prog W = .ok false W := by
  have h := veq_in 2 1 0 2 2 0 W
  exact h
theorem q21 (W : World) : (Op.equalIn 10000 24 (.agg #[.int .u16 2, .int .u16 2, .int .u16 0]) (.agg #[.int .u16 2, .int .u16 1, .int .u16 0])).run Tryd.prog W = .ok false W := by
  have h := veq_in 2 2 0 2 1 0 W
  exact h
theorem q22 (W : World) : (Op.equalIn 10000 24 (.agg #[.int .u16 2, .int .u16 2, .int .u16 0]) (.agg #[.int .u16 2, .int .u16 2, .int .u16 0])).run Tryd.prog W = .ok true W := by
  have h := veq_in 2 2 0 2 2 0 W
  exact h
set_option maxRecDepth 100000 in
set_option maxHeartbeats 4000000 in
theorem Agrees_core (a0 a1 a2 S : ByteArray) (ok : Bool) (w0 : a0.size ≤ 60) (w1 : a1.size ≤ 60) (w2 : a2.size ≤ 60) (hS60 : S.size ≤ 60) (hbst : bst a1 a2 kV = (S, ok)) (hrb : rbst a1 a2 = S) (hin : ok = true → withinB S a1 a2 = true) (hem : S.toList.isEmpty = !ok) (w : World) (hG : VG w) (hN : NV w) :
    Calls Tryd.prog 4 #[.string a0, .string a1, .string a2] w fun e w' => e = .returned (.bool true) ∧ Below w.heap.size w w' := by
  have hmx := fun ts t W => max3v (P := Tryd.prog) ts t a0.size a1.size a2.size W
  have hm60 : max (max a0.size a1.size) a2.size ≤ 60 := by omega
  obtain ⟨mx, hmxe⟩ : ∃ mx, max (max a0.size a1.size) a2.size = mx := ⟨_, rfl⟩
  rw [hmxe] at hmx hm60
  have hmI : (mx : Int) ≤ 60 := by omega
  have HBE := Lib.hid (fun W h1 h2 => Best_any a1 a2 (by omega) (by omega) W h1 h2)
  have HRB := Lib.hid (fun W => refBest_any a1 a2 (by omega) (by omega) W)
  have HWI := Lib.hid (fun W h => VWithin_any a0 a1 a2 (by omega) (by omega) (by omega) W h)
  have HRW := Lib.hid (fun W => refVWithin_any a0 a1 a2 (by omega) (by omega) (by omega) W)
  have HWS := Lib.hid (fun W h => VWithin_any S a1 a2 (by omega) (by omega) (by omega) W h)
  rw [hbst] at HBE
  rw [hrb] at HRB
  obtain ⟨p, hp⟩ : ∃ p, withinB a0 a1 a2 = p := ⟨_, rfl⟩
  rw [hp] at HWI HRW
  have HIN := Lib.hid hin
  have HG := Lib.hid hG
  have HN := Lib.hid hN
  clear hG hN hmxe hm60 w0 w1 w2 hS60 hbst hrb hp hin
  refine (callsIn_wide (n := 6)).1 ?_
  refine callsIn_of_wp_marks Tryd.func4 rfl trivial ?_ rfl
  simp only [Tryd.ntmps4, List.size_toArray, List.length_cons, List.length_nil, Nat.reduceAdd, Nat.reduceSub, Array.replicate_succ, Array.replicate_zero, List.push_toArray, List.append_toArray, List.nil_append, List.cons_append]
  rw [wpIn_wide]
  obtain ⟨b, hb⟩ : ∃ b, w.heap.size = b := ⟨_, rfl⟩
  have HB := Lib.hid hb
  go_wp2_with fail
  have hb1 : Below w.heap.size w (w.alloc (.cells #[.bool false] 4)) := (Below.refl _ _).alloc (Nat.le_refl _) _
  have hr1 : Row (w.alloc (.cells #[.bool false] 4)) b 4 [.bool false] := by rw [← hb]; exact Row.self w _ _
  generalize w.alloc (.cells #[.bool false] 4) = wa at hb1 hr1 ⊢
  refine (awake17_any _ (HG.out.below hb1) (HN.out.below hb1)).mono ?_
  rintro e w2 ⟨rfl, hb2⟩
  have HB2 := Lib.hid (hb1.trans (hb2.mono hb1.size))
  have HR2 := Lib.hid (hr1.below hb2 hr1.lt)
  clear hb1 hr1 hb2
  go_wp2_with fail
  refine (HBE.out _ (HG.out.below HB2.out) (HN.out.below HB2.out)).mono ?_
  rintro e w3 ⟨rfl, hb3⟩
  have HB3 := Lib.hid (HB2.out.trans (hb3.mono HB2.out.size))
  have HR3 := Lib.hid (HR2.out.below hb3 HR2.out.lt)
  clear hb3 HB2 HR2
  go_wp2_with fail
  refine ((callsIn_wide (n := 0)).1 (Known_in 0 _)).mono ?_
  rintro e w4 ⟨rfl, rfl⟩
  go_wp2_with fail
  obtain ⟨nb, hnb⟩ : ∃ nb, w3.heap.size = nb := ⟨_, rfl⟩
  have hbn : b < nb := by rw [← hnb]; exact HR3.out.lt
  have hB4 : Below b w (w3.alloc (.cells #[.int .i64 0] 3)) := by rw [← hb]; exact HB3.out.alloc HB3.out.size _
  have hR4 := HR3.out.alloc (.cells #[.int .i64 0] 3)
  have hI4 : Row (w3.alloc (.cells #[.int .i64 0] 3)) nb 3 [.int .i64 0] := by rw [← hnb]; exact Row.self w3 _ _
  have hz4 : (w3.alloc (.cells #[.int .i64 0] 3)).heap.size = nb + 1 := by rw [← hnb]; simp
  generalize w3.alloc (.cells #[.int .i64 0] 3) = W0 at hB4 hR4 hI4 hz4 ⊢
  rw [hnb]
  clear HB3 HR3
  rw [← wpIn_wide (n := 6)]
  refine' wpIn_rangeFunc_ownH rfl (by omega) (gf := 26) (lb := #[]) rfl trivial (enters_of Tryd.func26 (by kernel_rfl) rfl)
    (Known_stops 5 (by omega) W0 (HN.out.below (by rw [hb]; exact hB4))) (fun _ _ => trivial) (fun _ _ _ _ _ _ _ _ => trivial) (Below.refl _ _) (fun _ => rfl)
    (fun (pre : List Kv) W => (Row W b 4 [.bool false] ∧ Row W nb 3 [.int .i64 (pre.length : Nat)]) ∧ Below b w W)
    (fun _ (pre : List Kv) _ => ¬ pre.map Subtype.val <+: kV)
    (OwnFrom.and (OwnFrom.and (Own.from (own_row_v b _ (fun _ => [.bool false])) _) (Own.from (own_row_v nb _ (fun (pre : List Kv) => [.int .i64 (pre.length : Nat)])) _)) (ownFrom_below (by omega) (by omega)))
    (fun _ _ _ _ _ hs _ _ => hs)
    ⟨⟨hR4, hI4⟩, hB4⟩
    (fun x a' W => ∃ g, (a' = { tmps := #[Value.string a0, Value.string a1, Value.string a2, undef, undef, undef, Value.pointer (some ⟨b, 0, none⟩), Value.string S, Value.bool ok, Value.pointer (some ⟨nb, 0, none⟩), Value.pointer (some ⟨g, 0, none⟩), Value.bool true, Value.bool false, Value.string a0, Value.int .i64 a0.size, Value.string a1, Value.int .i64 a1.size, Value.string a2, Value.int .i64 a2.size, Value.int .i64 mx, Value.bool (decide ((60 : Int) < mx)), Value.tuple #[Value.string S, Value.bool ok], Value.string a1, Value.string a2, Value.tuple #[Value.string S, Value.bool ok], Value.string S, Value.bool ok, Value.func (Fn.func 26) #[] #[], Value.agg #[Value.int .u16 x.1.1, Value.int .u16 x.1.2.1, Value.int .u16 x.1.2.2], undef, undef, undef, undef, undef, undef, undef, undef, undef, undef, undef, undef, undef, undef, undef, undef, undef, undef, undef, undef, undef, undef, undef, undef, undef, undef, undef, undef, undef, undef, undef, undef, undef, undef, undef, undef, undef, undef, undef, undef, undef, undef, undef, undef, undef, undef, undef, undef, undef, undef, undef, undef, undef, undef], defers := [] } ∧ nb < g) ∧ Row W g 24 [.int .u16 x.1.1, .int .u16 x.1.2.1, .int .u16 x.1.2.2])
    (fun x a' => ax_ownV _) ?hassign ?hbody ?hdone ?hstop
  case hstop =>
    rintro D c pre W _ hp h _
    exact absurd hp h
  case hassign =>
    rintro l pre x W K ⟨⟨hI1, hI2⟩, hI3⟩ hK
    have hbW : nb < W.heap.size := hI2.lt
    dsimp only [encV]
    gi_wp2
    have ha : Below W.heap.size W (W.alloc (.cells #[.int .u16 x.1.1, .int .u16 x.1.2.1, .int .u16 x.1.2.2] 24)) := (Below.refl _ _).alloc (Nat.le_refl _) _
    exact hK _ _ ((below_othersV ha).from _) trivial ⟨⟨hI1.below ha hI1.lt, hI2.below ha hI2.lt⟩, hI3.trans (ha.mono (by omega))⟩ ⟨W.heap.size, ⟨rfl, hbW⟩, row_alloc W _ _ _ _⟩
  case hbody =>
    rintro l' pre ⟨x, hx⟩ a' W hl' hrec ⟨⟨hI1, hI2⟩, hI3⟩ ⟨g, ⟨rfl, hbg⟩, hrow⟩ hlt
    have hk : pre.length = 0 ∨ pre.length = 1 := by omega
    have hxk : x = (2, 1, 0) ∨ x = (2, 2, 0) := by simpa [kV] using hx
    have c0 := hrow.cell 0
    have c1 := hrow.cell 1
    have c2 := hrow.cell 2
    have n0 := hI2.cell 0
    have nf := hI2.frozen 0
    have r0 := hI1.cell 0
    have rf := hI1.frozen 0
    simp only [List.getElem?_cons_zero, List.getElem?_cons_succ] at c0 c1 c2 n0 r0
    have hbad := fun (h : ¬ x = kV.getD pre.length (0, 0, 0)) => pre_bad (x := ⟨x, hx⟩) hlt h
    have HH := Lib.hid (And.intro hI1 (And.intro hI2 hI3))
    have HW := Lib.hid hrow
    clear hI1 hI2 hI3 hrow
    rcases hk with hk | hk
    all_goals
      rw [hk] at n0 hbad
      have HK := Lib.hid hk
      clear hk
      rcases hxk with rfl | rfl
    · clear hbad
      dsimp only at c0 c1 c2 ⊢
      have e11 := q11
      have e12 := q12
      have e21 := q21
      have e22 := q22
      gi_wp2
      refine ⟨(KeepsOthers.setCell _ _ _).from _, trivial, ⟨HH.out.1.far (by show b ≠ nb; omega) _, ?_⟩, HH.out.2.2.setCell (p := ⟨nb, 0, none⟩) (by show b ≤ nb; omega) _⟩
      rw [List.length_append, HK.out]
      exact HH.out.2.1.set 0 _
    · have HBD := Lib.hid (hbad (by decide))
      clear hbad
      dsimp only at c0 c1 c2 ⊢
      have e11 := q11
      have e12 := q12
      have e21 := q21
      have e22 := q22
      gi_wp2
      exact ⟨((KeepsOthers.setCell _ _ _).trans (KeepsOthers.setCell _ _ _)).from _, HBD.out⟩
    · have HBD := Lib.hid (hbad (by decide))
      clear hbad
      dsimp only at c0 c1 c2 ⊢
      have e11 := q11
      have e12 := q12
      have e21 := q21
      have e22 := q22
      gi_wp2
      exact ⟨((KeepsOthers.setCell _ _ _).trans (KeepsOthers.setCell _ _ _)).from _, HBD.out⟩
    · clear hbad
      dsimp only at c0 c1 c2 ⊢
      have e11 := q11
      have e12 := q12
      have e21 := q21
      have e22 := q22
      gi_wp2
      refine ⟨(KeepsOthers.setCell _ _ _).from _, trivial, ⟨HH.out.1.far (by show b ≠ nb; omega) _, ?_⟩, HH.out.2.2.setCell (p := ⟨nb, 0, none⟩) (by show b ≤ nb; omega) _⟩
      rw [List.length_append, HK.out]
      exact HH.out.2.1.set 0 _
  case hdone =>
    rintro D ys W hD hys ⟨⟨hI1, hI2⟩, hI3⟩ hK
    have hyl : ys.length = 2 := by
      have := congrArg List.length hys
      rw [List.length_map] at this
      exact this
    rw [hyl] at hI2
    have n0 := hI2.cell 0
    simp only [List.getElem?_cons_zero] at n0
    have HKD := Lib.hid (And.intro hK hD)
    have HBW : Hid (Below w.heap.size w W) := Lib.hid (by rw [hb]; exact hI3)
    have HRW1 := Lib.hid hI1
    clear hI1 hI2 hI3 hK hD hys hyl
    have hDl : D < W.heap.size := by
      have := HKD.out.1
      exact (Array.getElem?_eq_some_iff.1 this).1
    go_wp2_with fail
    refine (HWI.out _ (HG.out.below HBW.out)).mono ?_
    rintro e x1 ⟨rfl, hb1⟩
    have HB1 := Lib.hid hb1
    clear hb1 n0
    go_wp2_with fail
    refine (HRW.out _).mono ?_
    rintro e x2 ⟨rfl, hb2⟩
    have HB2 := Lib.hid (HB1.out.trans (hb2.mono HB1.out.size))
    clear hb2 HB1
    go_wp2_with fail
    refine (HRB.out _).mono ?_
    rintro e x3 ⟨rfl, hb3⟩
    have HB3 := Lib.hid (HB2.out.trans (hb3.mono HB2.out.size))
    clear hb3 HB2
    cases ok with
    | true =>
      have hnil : S.toList.isEmpty = false := hem
      go_wp2_with fail
      refine (HWS.out _ (HG.out.below (HBW.out.trans (HB3.out.mono HBW.out.size)))).mono ?_
      rintro e x4 ⟨rfl, hb4⟩
      have HB4 := Lib.hid (HB3.out.trans (hb4.mono HB3.out.size))
      rw [HIN.out trivial]
      clear hb4
      have r0 := (HRW1.out.below HB4.out HRW1.out.lt).cell 0
      have rf := (HRW1.out.below HB4.out HRW1.out.lt).frozen 0
      simp only [List.getElem?_cons_zero] at r0
      cases p
      all_goals
        go_wp2_with fail
        have hKx : x4.heap[D]? = some (.deferred (some [])) := (HB4.out.block D hDl).trans HKD.out.1
        have hbD : b ≠ D := by have h1 : W0.heap.size ≤ D := HKD.out.2; omega
        have hKf : (x4.setCell ⟨b, 0, none⟩ (.bool true)).heap[D]? = some (.deferred (some [])) := (Below.heap_setCell x4 ⟨b, 0, none⟩ (.bool true) D hbD.symm).trans hKx
        have hRf : Row (x4.setCell ⟨b, 0, none⟩ (.bool true)) b 4 [.bool true] := (HRW1.out.below HB4.out HRW1.out.lt).set 0 (.bool true)
        have hBf : Below w.heap.size w (x4.setCell ⟨b, 0, none⟩ (.bool true)) := (HBW.out.trans (HB4.out.mono HBW.out.size)).setCell (p := ⟨b, 0, none⟩) (by rw [hb]; exact Nat.le_refl _) _
        have hDb : w.heap.size ≤ D := by have h1 : W0.heap.size ≤ D := HKD.out.2; omega
        refine ⟨by simp, .inl ⟨_, _, rfl, run_takeDeferred hKf, ?_⟩⟩
        have r3 : Row _ b 4 [.bool true] := (World.putObj_heap_other (o := .deferred none) hbD).trans hRf
        exact ⟨_, results_boolV rfl _ _ b true rfl (r3.cell 0), rfl, hBf.trans (belowK_b (w := w) (Nat.le_refl _) _ D _ _ hDb hKf rfl rfl)⟩
    | false =>
      have hnil : S.toList.isEmpty = true := hem
      have r0 := (HRW1.out.below HB3.out HRW1.out.lt).cell 0
      have rf := (HRW1.out.below HB3.out HRW1.out.lt).frozen 0
      simp only [List.getElem?_cons_zero] at r0
      cases p
      all_goals
        go_wp2_with fail
        have hKx : x3.heap[D]? = some (.deferred (some [])) := (HB3.out.block D hDl).trans HKD.out.1
        have hbD : b ≠ D := by have h1 : W0.heap.size ≤ D := HKD.out.2; omega
        have hKf : (x3.setCell ⟨b, 0, none⟩ (.bool true)).heap[D]? = some (.deferred (some [])) := (Below.heap_setCell x3 ⟨b, 0, none⟩ (.bool true) D hbD.symm).trans hKx
        have hRf : Row (x3.setCell ⟨b, 0, none⟩ (.bool true)) b 4 [.bool true] := (HRW1.out.below HB3.out HRW1.out.lt).set 0 (.bool true)
        have hBf : Below w.heap.size w (x3.setCell ⟨b, 0, none⟩ (.bool true)) := (HBW.out.trans (HB3.out.mono HBW.out.size)).setCell (p := ⟨b, 0, none⟩) (by rw [hb]; exact Nat.le_refl _) _
        have hDb : w.heap.size ≤ D := by have h1 : W0.heap.size ≤ D := HKD.out.2; omega
        refine ⟨by simp, .inl ⟨_, _, rfl, run_takeDeferred hKf, ?_⟩⟩
        have r3 : Row _ b 4 [.bool true] := (World.putObj_heap_other (o := .deferred none) hbD).trans hRf
        exact ⟨_, results_boolV rfl _ _ b true rfl (r3.cell 0), rfl, hBf.trans (belowK_b (w := w) (Nat.le_refl _) _ D _ _ hDb hKf rfl rfl)⟩

set_option maxRecDepth 100000 in
set_option maxHeartbeats 4000000 in
theorem Agrees_long (a0 a1 a2 : ByteArray) (hl : 60 < max (max a0.size a1.size) a2.size) (w : World) (hG : VG w) (hN : NV w) :
    Calls Tryd.prog 4 #[.string a0, .string a1, .string a2] w fun e w' => e = .returned (.bool true) ∧ Below w.heap.size w w' := by
  have hmx := fun ts t W => max3v (P := Tryd.prog) ts t a0.size a1.size a2.size W
  obtain ⟨mx, hmxe⟩ : ∃ mx, max (max a0.size a1.size) a2.size = mx := ⟨_, rfl⟩
  rw [hmxe] at hmx hl
  have hmI : (60 : Int) < (mx : Int) := by omega
  have HG := Lib.hid hG
  have HN := Lib.hid hN
  clear hG hN hmxe hl
  go_enter Tryd.func4, Tryd.ntmps4
  go_wp2_with fail
  have hb1 : Below w.heap.size w (w.alloc (.cells #[.bool false] 4)) := (Below.refl _ _).alloc (Nat.le_refl _) _
  have hr1 : Row (w.alloc (.cells #[.bool false] 4)) w.heap.size 4 [.bool false] := Row.self w _ _
  generalize w.alloc (.cells #[.bool false] 4) = wa at hb1 hr1 ⊢
  refine (awake17_any _ (HG.out.below hb1) (HN.out.below hb1)).mono ?_
  rintro e w2 ⟨rfl, hb2⟩
  have HB2 := Lib.hid (hb1.trans (hb2.mono hb1.size))
  have HR2 := Lib.hid (hr1.below hb2 hr1.lt)
  have r0 := HR2.out.cell 0
  have rf := HR2.out.frozen 0
  simp only [List.getElem?_cons_zero] at r0
  clear hb1 hr1 hb2
  go_wp2_with fail
  exact bodyPost_ret (v := .bool true) (results_boolV rfl _ _ w.heap.size true rfl ((HR2.out.set 0 (.bool true)).cell 0)) rfl ⟨rfl, HB2.out.setCell (p := ⟨w.heap.size, 0, none⟩) (Nat.le_refl _) _⟩

theorem VersionAgrees_walk (a0 a1 a2 : ByteArray) (w0 : a0.size ≤ 140737488355328) (w1 : a1.size ≤ 140737488355328) (w2 : a2.size ≤ 140737488355328) (w : World) (hG : VG w) (hN : NV w) :
    Calls Tryd.prog 4 #[.string a0, .string a1, .string a2] w fun e w' => e = .returned (.bool true) ∧ Below w.heap.size w w' := by
  by_cases hl : 60 < max (max a0.size a1.size) a2.size
  · exact Agrees_long a0 a1 a2 hl w hG hN
  · have hk := bst_kV a1 a2
    have hr : rbst a1 a2 = rbst a1 a2 := rfl
    conv at hr => rhs; unfold rbst
    cases hx : withinB ⟨#[50, 46, 50, 46, 48]⟩ a1 a2 with
    | true =>
      rw [hx] at hk hr
      rw [if_pos rfl] at hr
      rw [hr] at hk
      exact Agrees_core a0 a1 a2 ⟨#[50, 46, 50, 46, 48]⟩ true (by omega) (by omega) (by omega) (by decide) hk hr (fun _ => hx) (by rw [ByteArray.toList_eq]; rfl) w hG hN
    | false =>
      rw [hx] at hk hr
      rw [if_neg (by decide)] at hr
      cases hy : withinB ⟨#[50, 46, 49, 46, 48]⟩ a1 a2 with
      | true =>
        rw [hy] at hk hr
        rw [if_pos rfl] at hr
        rw [hr] at hk
        exact Agrees_core a0 a1 a2 ⟨#[50, 46, 49, 46, 48]⟩ true (by omega) (by omega) (by omega) (by decide) hk hr (fun _ => hy) (by rw [ByteArray.toList_eq]; rfl) w hG hN
      | false =>
        rw [hy] at hk hr
        rw [if_neg (by decide)] at hr
        rw [hr] at hk
        exact Agrees_core a0 a1 a2 ⟨#[]⟩ false (by omega) (by omega) (by omega) (by decide) hk hr (fun h => by cases h) (by rw [ByteArray.toList_eq]; rfl) w hG hN
end Go.Proofs.YtcimcnlonepbcaaDoor
