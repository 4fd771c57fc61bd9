/- The contract of version.Parse. -/
import Derived.Test.YtldjnegoefdadaaGreatDoorVText
import Derived.Test.YtldjnegoefdadaaGreatDoorVNum
import Derived.Test.YtldjnegoefdadaaGreatDoorVM
import Derived.Test.YtldjnegoefdadaaGreatDoorShelfS
namespace Go.Proofs.YtldjnegoefdadaaGreatDoor
open Go.RowKit
set_option linter.unusedVariables false

/-- What version's functions ask of the library's variables. -/
structure VG (w : World) : Prop where
  t10 : T10 w
  m : M w
  er : ER w
theorem VG.below {w w' : World} (h : VG w) (hb : Below w.heap.size w w') : VG w' := ⟨h.t10.below hb, h.m.below hb, h.er.below hb⟩

theorem Row.self (w : World) (o : Array Value) (t : TypeId) : Row (w.alloc (.cells o t)) w.heap.size t o.toList := by
  have := Row.new w t o.toList
  simpa using this
theorem SplitN_pcs (s : ByteArray) (hs : s.size ≤ 1000) (W : World) (hM : M W) :
    Calls Tryz.prog 100 #[.string s, .string ⟨#[46]⟩, .int .i64 4] W fun e w' =>
      e = .returned (.slice (some ⟨W.heap.size, 0, none⟩) (pcs s).length (min 4 (s.size + 1))) ∧ Below W.heap.size W w' ∧ Row w' W.heap.size 9 (Lib.cellsOf (pcs s) (min 4 (s.size + 1))).toList := by
  obtain ⟨m, hm⟩ := hM
  refine (Tryz.strings_SplitN s ⟨#[46]⟩ 4 m W (by omega) hm (by decide) (by decide) (by decide)).mono ?_
  rintro e w' ⟨rfl, rfl⟩
  exact ⟨rfl, (Below.refl _ _).alloc (Nat.le_refl _) _, Row.self _ _ _⟩

/-- What Parse answers. -/
def parseR : Option V3 → Value
  | some v => .tuple #[vv v.1 v.2.1 v.2.2, .int .i64 0]
  | none => .tuple #[vv 0 0 0, .int .i64 4]

theorem three_rows (w : World) (o1 o2 : Array Value) (t1 t2 : TypeId) : Row ((w.alloc (.cells o1 t1)).alloc (.cells o2 t2)) w.heap.size t1 o1.toList ∧ Row ((w.alloc (.cells o1 t1)).alloc (.cells o2 t2)) (w.heap.size + 1) t2 o2.toList := by
  have h := two_heap w (.cells o1 t1) (.cells o2 t2) 0
  exact ⟨by simpa [Row] using h.1, by simpa [Row] using h.2⟩

theorem set3 {w : World} {g : Nat} {t : TypeId} {a b c : Value} (h : Row w g t [a, b, c]) (x y z : Value) : Row (((w.setCell ⟨g, 0, none⟩ x).setCell ⟨g, 1, none⟩ y).setCell ⟨g, 2, none⟩ z) g t [x, y, z] :=
  ((h.set 0 x).set 1 y).set 2 z

set_option maxRecDepth 4000 in
set_option maxHeartbeats 1000000 in
/-- Where there are not three pieces. -/
theorem VParse_few (s : ByteArray) (hs : s.size ≤ 1000) (hl : (pcs s).length ≠ 3) (w : World) (hG : VG w) :
    Calls Tryz.prog 83 #[.string s] w fun e w' => e = .returned (.tuple #[vv 0 0 0, .int .i64 4]) ∧ Below w.heap.size w w' := by
  have HS := Lib.hid (fun W h => SplitN_pcs s hs W h)
  obtain ⟨n, hn⟩ : ∃ n, (pcs s).length = n := ⟨_, rfl⟩
  obtain ⟨L, hL⟩ : ∃ L, (Lib.cellsOf (pcs s) (min 4 (s.size + 1))).toList = L := ⟨_, rfl⟩
  rw [hn, hL] at HS
  rw [hn] at hl
  obtain ⟨N, hN⟩ : ∃ N, min 4 (s.size + 1) = N := ⟨_, rfl⟩
  rw [hN] at HS
  have hne : ((n : Int) != 3) = true := by simp; omega
  have HG := Lib.hid hG
  clear hG hn hL hN hl
  unfold vv
  go_enter Tryz.func83, Tryz.ntmps83
  go_wp2_with fail
  have hB2 : Below w.heap.size w ((w.alloc (Obj.cells #[Value.int IntKind.u16 0, Value.int IntKind.u16 0, Value.int IntKind.u16 0] 130)).alloc (Obj.cells #[Value.int IntKind.u16 0, Value.int IntKind.u16 0, Value.int IntKind.u16 0] 130)) := ((Below.refl _ _).alloc (Nat.le_refl _) _).alloc (by simp) _
  have hrw := three_rows w #[Value.int IntKind.u16 0, Value.int IntKind.u16 0, Value.int IntKind.u16 0] #[Value.int IntKind.u16 0, Value.int IntKind.u16 0, Value.int IntKind.u16 0] 130 130
  have hz2 : ((w.alloc (Obj.cells #[Value.int IntKind.u16 0, Value.int IntKind.u16 0, Value.int IntKind.u16 0] 130)).alloc (Obj.cells #[Value.int IntKind.u16 0, Value.int IntKind.u16 0, Value.int IntKind.u16 0] 130)).heap.size = w.heap.size + 2 := by simp
  generalize ((w.alloc (Obj.cells #[Value.int IntKind.u16 0, Value.int IntKind.u16 0, Value.int IntKind.u16 0] 130)).alloc (Obj.cells #[Value.int IntKind.u16 0, Value.int IntKind.u16 0, Value.int IntKind.u16 0] 130)) = W2 at hB2 hrw hz2 ⊢
  refine (HS.out _ (HG.out.below hB2).m).mono ?_
  rintro e w3 ⟨rfl, hb3, hR3⟩
  have hr := hrw.1.below hb3 hrw.1.lt
  have HB := Lib.hid (hB2.trans (hb3.mono hB2.size))
  have c0 := hr.cell 0
  have c1 := hr.cell 1
  have c2 := hr.cell 2
  have f0 := hr.frozen 0
  have f1 := hr.frozen 1
  have f2 := hr.frozen 2
  simp only [List.getElem?_cons_zero, List.getElem?_cons_succ] at c0 c1 c2
  rw [hz2]
  have HR := Lib.hid hr
  clear hz2 hR3 hb3 hrw hB2 hr
  go_wp2
  have h5 := set3 HR.out (.int .u16 0) (.int .u16 0) (.int .u16 0)
  have hB5 := ((HB.out.setCell (p := ⟨w.heap.size, 0, none⟩) (Nat.le_refl _) (.int .u16 0)).setCell (p := ⟨w.heap.size, 1, none⟩) (Nat.le_refl _) (.int .u16 0)).setCell (p := ⟨w.heap.size, 2, none⟩) (Nat.le_refl _) (.int .u16 0)
  generalize ((w3.setCell ⟨w.heap.size, 0, none⟩ (.int .u16 0)).setCell ⟨w.heap.size, 1, none⟩ (.int .u16 0)).setCell ⟨w.heap.size, 2, none⟩ (.int .u16 0) = w5 at h5 hB5 ⊢
  have g0 := h5.cell 0
  have g1 := h5.cell 1
  have g2 := h5.cell 2
  simp only [List.getElem?_cons_zero, List.getElem?_cons_succ] at g0 g1 g2
  exact bodyPost_ret (v := .tuple #[.agg #[.int .u16 0, .int .u16 0, .int .u16 0], .int .i64 4]) (by simp [results, Tryz.results83, go_sem, g0, g1, g2]) rfl ⟨rfl, hB5⟩

theorem numP_numR {p : ByteArray} {n : Nat} (h : numP p.data.toList = some n) : numR p = ((n : Int), 0) ∧ n ≤ 65535 := by
  obtain ⟨⟨h1, h2⟩, h3, h4⟩ := numP_some h
  have hd : isD p = true := by rw [isD_list, h2, decide_eq_true h1]; rfl
  unfold numR
  rw [if_neg (by simp [hd]), h3, if_pos (by omega)]
  exact ⟨rfl, h4⟩
theorem numP_none {p : ByteArray} (h : numP p.data.toList = none) : (numR p).2 ≠ 0 ∨ (numR p).2 = 0 ∧ 65535 < (numR p).1 := by
  unfold numR
  cases hd : isD p with
  | false => left; rw [if_pos rfl]; decide
  | true =>
    rw [if_neg (by simp)]
    by_cases h64 : val p.data.toList < 18446744073709551616
    · rw [if_pos h64]
      right
      refine ⟨rfl, ?_⟩
      rw [isD_list, Bool.and_eq_true, decide_eq_true_eq] at hd
      unfold numP at h
      split at h
      · cases h
      · rename_i hn
        show (65535 : Int) < ((val p.data.toList : Nat) : Int)
        have : ¬ val p.data.toList ≤ 65535 := fun hh => hn ⟨hd.1, hd.2, hh⟩
        omega
    · rw [if_neg h64]
      left
      decide
/-- The numbers of the first k pieces. -/
def verP (a b c : Nat) : Nat → List Value
  | 0 => [.int .u16 0, .int .u16 0, .int .u16 0]
  | 1 => [.int .u16 a, .int .u16 0, .int .u16 0]
  | 2 => [.int .u16 a, .int .u16 b, .int .u16 0]
  | _ => [.int .u16 a, .int .u16 b, .int .u16 c]
def okP (o0 o1 o2 : Option Nat) (k : Nat) : Prop := (1 ≤ k → o0.isSome = true) ∧ (2 ≤ k → o1.isSome = true) ∧ (3 ≤ k → o2.isSome = true)
theorem vpr_no (s : ByteArray) {p q r : ByteArray} (hp : pcs s = [p, q, r]) (h : numP p.data.toList = none ∨ numP q.data.toList = none ∨ numP r.data.toList = none) : vpr s = none := by
  unfold vpr
  rw [hp]
  simp only
  split
  · rename_i a b c e1 e2 e3
    rw [e1, e2, e3] at h
    simp at h
  · rfl
theorem vpr_all (s : ByteArray) {p q r : ByteArray} (hp : pcs s = [p, q, r]) {a b c : Nat} (h1 : numP p.data.toList = some a) (h2 : numP q.data.toList = some b) (h3 : numP r.data.toList = some c) :
    vpr s = if (⟨(verL a b c).toArray⟩ : ByteArray) = s then some (a, b, c) else none := by
  unfold vpr
  rw [hp]
  simp only [h1, h2, h3]
theorem pcs_size {s p : ByteArray} (h : p ∈ pcs s) : p.size ≤ s.size := by
  have hd : p.data.toList ∈ (pcs s).map (·.data.toList) := List.mem_map_of_mem h
  rw [pcs_data] at hd
  have hl : ∀ (k : Nat) (l q : List UInt8), q ∈ Lib.splitK [46] 0 k l → q.length ≤ l.length := by
    intro k
    induction k with
    | zero => intro l q hq; rw [List.mem_singleton.1 hq]; exact Nat.le_refl _
    | succ k ih =>
      intro l q hq
      rw [Lib.splitK] at hq
      split at hq
      · rw [List.mem_singleton.1 hq]; exact Nat.le_refl _
      · rcases List.mem_cons.1 hq with e | e
        · rw [e, List.length_take]; omega
        · have := ih _ _ e
          rw [List.length_drop] at this
          omega
  have := hl _ _ _ hd
  simpa using this

set_option maxRecDepth 4000 in
set_option maxHeartbeats 4000000 in
/-- Where there are three pieces. -/
theorem VParse_three (s : ByteArray) (hs : s.size ≤ 1000) (p0 p1 p2 : ByteArray) (hp : pcs s = [p0, p1, p2]) (w : World) (hG : VG w) :
    Calls Tryz.prog 83 #[.string s] w fun e w' => e = .returned (parseR (vpr s)) ∧ Below w.heap.size w w' := by
  have HS := Lib.hid (fun W h => SplitN_pcs s hs W h)
  have z0 : p0.size ≤ 1000 := Nat.le_trans (pcs_size (by rw [hp]; simp)) hs
  have z1 : p1.size ≤ 1000 := Nat.le_trans (pcs_size (by rw [hp]; simp)) hs
  have z2 : p2.size ≤ 1000 := Nat.le_trans (pcs_size (by rw [hp]; simp)) hs
  have hl : (pcs s).length = 3 := by rw [hp]; rfl
  obtain ⟨L, hL⟩ : ∃ L, (Lib.cellsOf (pcs s) (min 4 (s.size + 1))).toList = L := ⟨_, rfl⟩
  have hL0 : L[0]? = some (.string p0) ∧ L[1]? = some (.string p1) ∧ L[2]? = some (.string p2) := by
    rw [← hL, hp]
    unfold Lib.cellsOf
    exact ⟨rfl, rfl, rfl⟩
  rw [hl, hL] at HS
  obtain ⟨N, hN⟩ : ∃ N, min 4 (s.size + 1) = N := ⟨_, rfl⟩
  rw [hN] at HS
  obtain ⟨R, hR⟩ : ∃ R, vpr s = R := ⟨_, rfl⟩
  have HNO : Hid (numP p0.data.toList = none ∨ numP p1.data.toList = none ∨ numP p2.data.toList = none → R = none) := Lib.hid fun h => by rw [← hR]; exact vpr_no s hp h
  have HALL : Hid (∀ a b c, numP p0.data.toList = some a → numP p1.data.toList = some b → numP p2.data.toList = some c → R = if (⟨(verL a b c).toArray⟩ : ByteArray) = s then some (a, b, c) else none) := Lib.hid fun a b c h1 h2 h3 => by rw [← hR]; exact vpr_all s hp h1 h2 h3
  have HN0 := Lib.hid (fun W h => Number_any p0 W z0 h)
  have HN1 := Lib.hid (fun W h => Number_any p1 W z1 h)
  have HN2 := Lib.hid (fun W h => Number_any p2 W z2 h)
  have HK0 := Lib.hid (fun n (h : numP p0.data.toList = some n) => numP_numR h)
  have HK1 := Lib.hid (fun n (h : numP p1.data.toList = some n) => numP_numR h)
  have HK2 := Lib.hid (fun n (h : numP p2.data.toList = some n) => numP_numR h)
  have HO0 := Lib.hid (fun (h : numP p0.data.toList = none) => numP_none h)
  have HO1 := Lib.hid (fun (h : numP p1.data.toList = none) => numP_none h)
  have HO2 := Lib.hid (fun (h : numP p2.data.toList = none) => numP_none h)
  obtain ⟨o0, ho0⟩ : ∃ o, numP p0.data.toList = o := ⟨_, rfl⟩
  obtain ⟨o1, ho1⟩ : ∃ o, numP p1.data.toList = o := ⟨_, rfl⟩
  obtain ⟨o2, ho2⟩ : ∃ o, numP p2.data.toList = o := ⟨_, rfl⟩
  rw [ho0, ho1, ho2] at HNO
  rw [ho0, ho1, ho2] at HALL
  rw [ho0] at HK0 HO0
  rw [ho1] at HK1 HO1
  rw [ho2] at HK2 HO2
  have HP := Lib.hid hp
  have HL0 := Lib.hid hL0
  have HG := Lib.hid hG
  rw [hR]
  clear hG hN hL hl ho0 ho1 ho2 hR hp hL0
  go_enter Tryz.func83, Tryz.ntmps83
  go_wp2_with fail
  have hB2 : Below w.heap.size w ((w.alloc (Obj.cells #[Value.int IntKind.u16 0, Value.int IntKind.u16 0, Value.int IntKind.u16 0] 130)).alloc (Obj.cells #[Value.int IntKind.u16 0, Value.int IntKind.u16 0, Value.int IntKind.u16 0] 130)) := ((Below.refl _ _).alloc (Nat.le_refl _) _).alloc (by simp) _
  have hrw := three_rows w #[Value.int IntKind.u16 0, Value.int IntKind.u16 0, Value.int IntKind.u16 0] #[Value.int IntKind.u16 0, Value.int IntKind.u16 0, Value.int IntKind.u16 0] 130 130
  have hz2 : ((w.alloc (Obj.cells #[Value.int IntKind.u16 0, Value.int IntKind.u16 0, Value.int IntKind.u16 0] 130)).alloc (Obj.cells #[Value.int IntKind.u16 0, Value.int IntKind.u16 0, Value.int IntKind.u16 0] 130)).heap.size = w.heap.size + 2 := by simp
  generalize ((w.alloc (Obj.cells #[Value.int IntKind.u16 0, Value.int IntKind.u16 0, Value.int IntKind.u16 0] 130)).alloc (Obj.cells #[Value.int IntKind.u16 0, Value.int IntKind.u16 0, Value.int IntKind.u16 0] 130)) = W2 at hB2 hrw hz2 ⊢
  refine (HS.out _ (HG.out.below hB2).m).mono ?_
  rintro e w3 ⟨rfl, hb3, hR3⟩
  have HB := Lib.hid (hB2.trans (hb3.mono hB2.size))
  have HR0 := Lib.hid (hrw.1.below hb3 hrw.1.lt)
  have HV0 := Lib.hid (hrw.2.below hb3 hrw.2.lt)
  rw [hz2] at hR3
  have HL := Lib.hid hR3
  rw [hz2]
  clear hz2 hR3 hb3 hrw hB2
  go_wp2
  go_loopw [18] (fun i wr => ∃ k : Nat, k ≤ 3 ∧ i = .int .i64 k ∧ Below w.heap.size w wr ∧ Row wr w.heap.size 130 [.int .u16 0, .int .u16 0, .int .u16 0] ∧ Row wr (w.heap.size + 1) 130 (verP (o0.getD 0) (o1.getD 0) (o2.getD 0) k) ∧ Row wr (w.heap.size + 2) 9 L ∧ okP o0 o1 o2 k) (fun i _ => 3 - (intOf i).toNat)
  case atStart => exact ⟨0, by omega, rfl, HB.out, HR0.out, HV0.out, HL.out, fun h => by omega, fun h => by omega, fun h => by omega⟩
  case round =>
    obtain ⟨k, hk, rfl, hB, hRr, hRv, hRl, hok⟩ := hrel
    have HBr := Lib.hid hB
    have HRr := Lib.hid hRr
    have HRv := Lib.hid hRv
    have HRl := Lib.hid hRl
    have HOK := Lib.hid hok
    have HGr := Lib.hid (HG.out.below hB)
    clear hB hRr hRv hRl hok HB HR0 HV0 HL
    rcases (by omega : k = 0 ∨ k = 1 ∨ k = 2 ∨ k = 3) with rfl | rfl | rfl | rfl
    · have hc := HRl.out.cell 0
      rw [HL0.out.1] at hc
      cases o0 with
      | none =>
        have hnone := HNO.out (Or.inl rfl)
        subst hnone
        obtain ⟨n, e, hne⟩ : ∃ n e, numR p0 = (n, e) := ⟨_, _, rfl⟩
        have hO := HO0.out rfl
        have hB := numR_fst p0
        rw [hne] at HN0 hO hB
        obtain ⟨b0, b1⟩ := hB
        simp only at b0 b1 hO HN0
        clear HK0 HO0 HNO HALL hne
        rcases hO with hO | ⟨rfl, hO⟩
        · have hO1 : (e != 0) = true := by simpa using hO
          clear hO
          go_wp2_with (go_at_call 101; refine (HN0.out _ HGr.out.er).mono ?_; rintro e w1 ⟨rfl, hb1⟩; (have HB1 := Lib.hid (HBr.out.trans (hb1.mono HBr.out.size))); (have HRr1 := Lib.hid (HRr.out.below hb1 HRr.out.lt)); (have HRv1 := Lib.hid (HRv.out.below hb1 HRv.out.lt)); (have HRl1 := Lib.hid (HRl.out.below hb1 HRl.out.lt)); (have c0 := HRr1.out.cell 0); (have c1 := HRr1.out.cell 1); (have c2 := HRr1.out.cell 2); (have f0 := HRr1.out.frozen 0); (have f1 := HRr1.out.frozen 1); (have f2 := HRr1.out.frozen 2); (have v0 := HRv1.out.cell 0); (have vf := HRv1.out.frozen 0); clear hb1; simp only [verP, List.getElem?_cons_zero, List.getElem?_cons_succ] at c0 c1 c2 v0)
          have h5 := set3 HRr1.out (.int .u16 0) (.int .u16 0) (.int .u16 0)
          have hB5 := ((HB1.out.setCell (p := ⟨w.heap.size, 0, none⟩) (Nat.le_refl _) (.int .u16 0)).setCell (p := ⟨w.heap.size, 1, none⟩) (Nat.le_refl _) (.int .u16 0)).setCell (p := ⟨w.heap.size, 2, none⟩) (Nat.le_refl _) (.int .u16 0)
          generalize ((w1.setCell ⟨w.heap.size, 0, none⟩ (.int .u16 0)).setCell ⟨w.heap.size, 1, none⟩ (.int .u16 0)).setCell ⟨w.heap.size, 2, none⟩ (.int .u16 0) = w5 at h5 hB5 ⊢
          have g0 := h5.cell 0
          have g1 := h5.cell 1
          have g2 := h5.cell 2
          simp only [List.getElem?_cons_zero, List.getElem?_cons_succ] at g0 g1 g2
          exact bodyPost_ret (v := .tuple #[.agg #[.int .u16 0, .int .u16 0, .int .u16 0], .int .i64 4]) (by simp [results, Tryz.results83, go_sem, g0, g1, g2]) rfl ⟨rfl, hB5⟩
        · go_wp2_with (go_at_call 101; refine (HN0.out _ HGr.out.er).mono ?_; rintro e w1 ⟨rfl, hb1⟩; (have HB1 := Lib.hid (HBr.out.trans (hb1.mono HBr.out.size))); (have HRr1 := Lib.hid (HRr.out.below hb1 HRr.out.lt)); (have HRv1 := Lib.hid (HRv.out.below hb1 HRv.out.lt)); (have HRl1 := Lib.hid (HRl.out.below hb1 HRl.out.lt)); (have c0 := HRr1.out.cell 0); (have c1 := HRr1.out.cell 1); (have c2 := HRr1.out.cell 2); (have f0 := HRr1.out.frozen 0); (have f1 := HRr1.out.frozen 1); (have f2 := HRr1.out.frozen 2); (have v0 := HRv1.out.cell 0); (have vf := HRv1.out.frozen 0); clear hb1; simp only [verP, List.getElem?_cons_zero, List.getElem?_cons_succ] at c0 c1 c2 v0)
          have h5 := set3 HRr1.out (.int .u16 0) (.int .u16 0) (.int .u16 0)
          have hB5 := ((HB1.out.setCell (p := ⟨w.heap.size, 0, none⟩) (Nat.le_refl _) (.int .u16 0)).setCell (p := ⟨w.heap.size, 1, none⟩) (Nat.le_refl _) (.int .u16 0)).setCell (p := ⟨w.heap.size, 2, none⟩) (Nat.le_refl _) (.int .u16 0)
          generalize ((w1.setCell ⟨w.heap.size, 0, none⟩ (.int .u16 0)).setCell ⟨w.heap.size, 1, none⟩ (.int .u16 0)).setCell ⟨w.heap.size, 2, none⟩ (.int .u16 0) = w5 at h5 hB5 ⊢
          have g0 := h5.cell 0
          have g1 := h5.cell 1
          have g2 := h5.cell 2
          simp only [List.getElem?_cons_zero, List.getElem?_cons_succ] at g0 g1 g2
          exact bodyPost_ret (v := .tuple #[.agg #[.int .u16 0, .int .u16 0, .int .u16 0], .int .i64 4]) (by simp [results, Tryz.results83, go_sem, g0, g1, g2]) rfl ⟨rfl, hB5⟩
      | some a =>
        obtain ⟨hne, hle⟩ := HK0.out a rfl
        rw [hne] at HN0
        simp only at HN0
        have hw16 : (a : Int) ≤ 65535 := by omega
        clear HO0 hne
        go_wp2_with (go_at_call 101; refine (HN0.out _ HGr.out.er).mono ?_; rintro e w1 ⟨rfl, hb1⟩; (have HB1 := Lib.hid (HBr.out.trans (hb1.mono HBr.out.size))); (have HRr1 := Lib.hid (HRr.out.below hb1 HRr.out.lt)); (have HRv1 := Lib.hid (HRv.out.below hb1 HRv.out.lt)); (have HRl1 := Lib.hid (HRl.out.below hb1 HRl.out.lt)); (have c0 := HRr1.out.cell 0); (have c1 := HRr1.out.cell 1); (have c2 := HRr1.out.cell 2); (have f0 := HRr1.out.frozen 0); (have f1 := HRr1.out.frozen 1); (have f2 := HRr1.out.frozen 2); (have v0 := HRv1.out.cell 0); (have vf := HRv1.out.frozen 0); clear hb1; simp only [verP, List.getElem?_cons_zero, List.getElem?_cons_succ] at c0 c1 c2 v0)
        exact ⟨⟨1, by omega, rfl, HB1.out.setCell (by simp) _, HRr1.out.far (by simp) _, HRv1.out.set 0 _, HRl1.out.far (by simp) _, ⟨fun _ => rfl, fun h => by omega, fun h => by omega⟩⟩, by simp [intOf]⟩
    · have hc := HRl.out.cell 1
      rw [HL0.out.2.1] at hc
      cases o1 with
      | none =>
        have hnone := HNO.out (Or.inr (Or.inl rfl))
        subst hnone
        obtain ⟨n, e, hne⟩ : ∃ n e, numR p1 = (n, e) := ⟨_, _, rfl⟩
        have hO := HO1.out rfl
        have hB := numR_fst p1
        rw [hne] at HN1 hO hB
        obtain ⟨b0, b1⟩ := hB
        simp only at b0 b1 hO HN1
        clear HK1 HO1 HNO HALL hne
        rcases hO with hO | ⟨rfl, hO⟩
        · have hO1 : (e != 0) = true := by simpa using hO
          clear hO
          go_wp2_with (go_at_call 101; refine (HN1.out _ HGr.out.er).mono ?_; rintro e w1 ⟨rfl, hb1⟩; (have HB1 := Lib.hid (HBr.out.trans (hb1.mono HBr.out.size))); (have HRr1 := Lib.hid (HRr.out.below hb1 HRr.out.lt)); (have HRv1 := Lib.hid (HRv.out.below hb1 HRv.out.lt)); (have HRl1 := Lib.hid (HRl.out.below hb1 HRl.out.lt)); (have c0 := HRr1.out.cell 0); (have c1 := HRr1.out.cell 1); (have c2 := HRr1.out.cell 2); (have f0 := HRr1.out.frozen 0); (have f1 := HRr1.out.frozen 1); (have f2 := HRr1.out.frozen 2); (have v1 := HRv1.out.cell 1); (have vf := HRv1.out.frozen 1); clear hb1; simp only [verP, List.getElem?_cons_zero, List.getElem?_cons_succ] at c0 c1 c2 v1)
          have h5 := set3 HRr1.out (.int .u16 0) (.int .u16 0) (.int .u16 0)
          have hB5 := ((HB1.out.setCell (p := ⟨w.heap.size, 0, none⟩) (Nat.le_refl _) (.int .u16 0)).setCell (p := ⟨w.heap.size, 1, none⟩) (Nat.le_refl _) (.int .u16 0)).setCell (p := ⟨w.heap.size, 2, none⟩) (Nat.le_refl _) (.int .u16 0)
          generalize ((w1.setCell ⟨w.heap.size, 0, none⟩ (.int .u16 0)).setCell ⟨w.heap.size, 1, none⟩ (.int .u16 0)).setCell ⟨w.heap.size, 2, none⟩ (.int .u16 0) = w5 at h5 hB5 ⊢
          have g0 := h5.cell 0
          have g1 := h5.cell 1
          have g2 := h5.cell 2
          simp only [List.getElem?_cons_zero, List.getElem?_cons_succ] at g0 g1 g2
          exact bodyPost_ret (v := .tuple #[.agg #[.int .u16 0, .int .u16 0, .int .u16 0], .int .i64 4]) (by simp [results, Tryz.results83, go_sem, g0, g1, g2]) rfl ⟨rfl, hB5⟩
        · go_wp2_with (go_at_call 101; refine (HN1.out _ HGr.out.er).mono ?_; rintro e w1 ⟨rfl, hb1⟩; (have HB1 := Lib.hid (HBr.out.trans (hb1.mono HBr.out.size))); (have HRr1 := Lib.hid (HRr.out.below hb1 HRr.out.lt)); (have HRv1 := Lib.hid (HRv.out.below hb1 HRv.out.lt)); (have HRl1 := Lib.hid (HRl.out.below hb1 HRl.out.lt)); (have c0 := HRr1.out.cell 0); (have c1 := HRr1.out.cell 1); (have c2 := HRr1.out.cell 2); (have f0 := HRr1.out.frozen 0); (have f1 := HRr1.out.frozen 1); (have f2 := HRr1.out.frozen 2); (have v1 := HRv1.out.cell 1); (have vf := HRv1.out.frozen 1); clear hb1; simp only [verP, List.getElem?_cons_zero, List.getElem?_cons_succ] at c0 c1 c2 v1)
          have h5 := set3 HRr1.out (.int .u16 0) (.int .u16 0) (.int .u16 0)
          have hB5 := ((HB1.out.setCell (p := ⟨w.heap.size, 0, none⟩) (Nat.le_refl _) (.int .u16 0)).setCell (p := ⟨w.heap.size, 1, none⟩) (Nat.le_refl _) (.int .u16 0)).setCell (p := ⟨w.heap.size, 2, none⟩) (Nat.le_refl _) (.int .u16 0)
          generalize ((w1.setCell ⟨w.heap.size, 0, none⟩ (.int .u16 0)).setCell ⟨w.heap.size, 1, none⟩ (.int .u16 0)).setCell ⟨w.heap.size, 2, none⟩ (.int .u16 0) = w5 at h5 hB5 ⊢
          have g0 := h5.cell 0
          have g1 := h5.cell 1
          have g2 := h5.cell 2
          simp only [List.getElem?_cons_zero, List.getElem?_cons_succ] at g0 g1 g2
          exact bodyPost_ret (v := .tuple #[.agg #[.int .u16 0, .int .u16 0, .int .u16 0], .int .i64 4]) (by simp [results, Tryz.results83, go_sem, g0, g1, g2]) rfl ⟨rfl, hB5⟩
      | some a =>
        obtain ⟨hne, hle⟩ := HK1.out a rfl
        rw [hne] at HN1
        simp only at HN1
        have hw16 : (a : Int) ≤ 65535 := by omega
        clear HO1 hne
        go_wp2_with (go_at_call 101; refine (HN1.out _ HGr.out.er).mono ?_; rintro e w1 ⟨rfl, hb1⟩; (have HB1 := Lib.hid (HBr.out.trans (hb1.mono HBr.out.size))); (have HRr1 := Lib.hid (HRr.out.below hb1 HRr.out.lt)); (have HRv1 := Lib.hid (HRv.out.below hb1 HRv.out.lt)); (have HRl1 := Lib.hid (HRl.out.below hb1 HRl.out.lt)); (have c0 := HRr1.out.cell 0); (have c1 := HRr1.out.cell 1); (have c2 := HRr1.out.cell 2); (have f0 := HRr1.out.frozen 0); (have f1 := HRr1.out.frozen 1); (have f2 := HRr1.out.frozen 2); (have v1 := HRv1.out.cell 1); (have vf := HRv1.out.frozen 1); clear hb1; simp only [verP, List.getElem?_cons_zero, List.getElem?_cons_succ] at c0 c1 c2 v1)
        exact ⟨⟨2, by omega, rfl, HB1.out.setCell (by simp) _, HRr1.out.far (by simp) _, HRv1.out.set 1 _, HRl1.out.far (by simp) _, ⟨fun _ => HOK.out.1 (by omega), fun _ => rfl, fun h => by omega⟩⟩, by simp [intOf]⟩
    · have hc := HRl.out.cell 2
      rw [HL0.out.2.2] at hc
      cases o2 with
      | none =>
        have hnone := HNO.out (Or.inr (Or.inr rfl))
        subst hnone
        obtain ⟨n, e, hne⟩ : ∃ n e, numR p2 = (n, e) := ⟨_, _, rfl⟩
        have hO := HO2.out rfl
        have hB := numR_fst p2
        rw [hne] at HN2 hO hB
        obtain ⟨b0, b1⟩ := hB
        simp only at b0 b1 hO HN2
        clear HK2 HO2 HNO HALL hne
        rcases hO with hO | ⟨rfl, hO⟩
        · have hO1 : (e != 0) = true := by simpa using hO
          clear hO
          go_wp2_with (go_at_call 101; refine (HN2.out _ HGr.out.er).mono ?_; rintro e w1 ⟨rfl, hb1⟩; (have HB1 := Lib.hid (HBr.out.trans (hb1.mono HBr.out.size))); (have HRr1 := Lib.hid (HRr.out.below hb1 HRr.out.lt)); (have HRv1 := Lib.hid (HRv.out.below hb1 HRv.out.lt)); (have HRl1 := Lib.hid (HRl.out.below hb1 HRl.out.lt)); (have c0 := HRr1.out.cell 0); (have c1 := HRr1.out.cell 1); (have c2 := HRr1.out.cell 2); (have f0 := HRr1.out.frozen 0); (have f1 := HRr1.out.frozen 1); (have f2 := HRr1.out.frozen 2); (have v2 := HRv1.out.cell 2); (have vf := HRv1.out.frozen 2); clear hb1; simp only [verP, List.getElem?_cons_zero, List.getElem?_cons_succ] at c0 c1 c2 v2)
          have h5 := set3 HRr1.out (.int .u16 0) (.int .u16 0) (.int .u16 0)
          have hB5 := ((HB1.out.setCell (p := ⟨w.heap.size, 0, none⟩) (Nat.le_refl _) (.int .u16 0)).setCell (p := ⟨w.heap.size, 1, none⟩) (Nat.le_refl _) (.int .u16 0)).setCell (p := ⟨w.heap.size, 2, none⟩) (Nat.le_refl _) (.int .u16 0)
          generalize ((w1.setCell ⟨w.heap.size, 0, none⟩ (.int .u16 0)).setCell ⟨w.heap.size, 1, none⟩ (.int .u16 0)).setCell ⟨w.heap.size, 2, none⟩ (.int .u16 0) = w5 at h5 hB5 ⊢
          have g0 := h5.cell 0
          have g1 := h5.cell 1
          have g2 := h5.cell 2
          simp only [List.getElem?_cons_zero, List.getElem?_cons_succ] at g0 g1 g2
          exact bodyPost_ret (v := .tuple #[.agg #[.int .u16 0, .int .u16 0, .int .u16 0], .int .i64 4]) (by simp [results, Tryz.results83, go_sem, g0, g1, g2]) rfl ⟨rfl, hB5⟩
        · go_wp2_with (go_at_call 101; refine (HN2.out _ HGr.out.er).mono ?_; rintro e w1 ⟨rfl, hb1⟩; (have HB1 := Lib.hid (HBr.out.trans (hb1.mono HBr.out.size))); (have HRr1 := Lib.hid (HRr.out.below hb1 HRr.out.lt)); (have HRv1 := Lib.hid (HRv.out.below hb1 HRv.out.lt)); (have HRl1 := Lib.hid (HRl.out.below hb1 HRl.out.lt)); (have c0 := HRr1.out.cell 0); (have c1 := HRr1.out.cell 1); (have c2 := HRr1.out.cell 2); (have f0 := HRr1.out.frozen 0); (have f1 := HRr1.out.frozen 1); (have f2 := HRr1.out.frozen 2); (have v2 := HRv1.out.cell 2); (have vf := HRv1.out.frozen 2); clear hb1; simp only [verP, List.getElem?_cons_zero, List.getElem?_cons_succ] at c0 c1 c2 v2)
          have h5 := set3 HRr1.out (.int .u16 0) (.int .u16 0) (.int .u16 0)
          have hB5 := ((HB1.out.setCell (p := ⟨w.heap.size, 0, none⟩) (Nat.le_refl _) (.int .u16 0)).setCell (p := ⟨w.heap.size, 1, none⟩) (Nat.le_refl _) (.int .u16 0)).setCell (p := ⟨w.heap.size, 2, none⟩) (Nat.le_refl _) (.int .u16 0)
          generalize ((w1.setCell ⟨w.heap.size, 0, none⟩ (.int .u16 0)).setCell ⟨w.heap.size, 1, none⟩ (.int .u16 0)).setCell ⟨w.heap.size, 2, none⟩ (.int .u16 0) = w5 at h5 hB5 ⊢
          have g0 := h5.cell 0
          have g1 := h5.cell 1
          have g2 := h5.cell 2
          simp only [List.getElem?_cons_zero, List.getElem?_cons_succ] at g0 g1 g2
          exact bodyPost_ret (v := .tuple #[.agg #[.int .u16 0, .int .u16 0, .int .u16 0], .int .i64 4]) (by simp [results, Tryz.results83, go_sem, g0, g1, g2]) rfl ⟨rfl, hB5⟩
      | some a =>
        obtain ⟨hne, hle⟩ := HK2.out a rfl
        rw [hne] at HN2
        simp only at HN2
        have hw16 : (a : Int) ≤ 65535 := by omega
        clear HO2 hne
        go_wp2_with (go_at_call 101; refine (HN2.out _ HGr.out.er).mono ?_; rintro e w1 ⟨rfl, hb1⟩; (have HB1 := Lib.hid (HBr.out.trans (hb1.mono HBr.out.size))); (have HRr1 := Lib.hid (HRr.out.below hb1 HRr.out.lt)); (have HRv1 := Lib.hid (HRv.out.below hb1 HRv.out.lt)); (have HRl1 := Lib.hid (HRl.out.below hb1 HRl.out.lt)); (have c0 := HRr1.out.cell 0); (have c1 := HRr1.out.cell 1); (have c2 := HRr1.out.cell 2); (have f0 := HRr1.out.frozen 0); (have f1 := HRr1.out.frozen 1); (have f2 := HRr1.out.frozen 2); (have v2 := HRv1.out.cell 2); (have vf := HRv1.out.frozen 2); clear hb1; simp only [verP, List.getElem?_cons_zero, List.getElem?_cons_succ] at c0 c1 c2 v2)
        exact ⟨⟨3, by omega, rfl, HB1.out.setCell (by simp) _, HRr1.out.far (by simp) _, HRv1.out.set 2 _, HRl1.out.far (by simp) _, ⟨fun _ => HOK.out.1 (by omega), fun _ => HOK.out.2.1 (by omega), fun _ => rfl⟩⟩, by simp [intOf]⟩
    · obtain ⟨a, rfl⟩ := Option.isSome_iff_exists.1 (HOK.out.1 (by omega))
      obtain ⟨b, rfl⟩ := Option.isSome_iff_exists.1 (HOK.out.2.1 (by omega))
      obtain ⟨c, rfl⟩ := Option.isSome_iff_exists.1 (HOK.out.2.2 (by omega))
      have hRR := HALL.out a b c rfl rfl rfl
      have l0 := (HK0.out a rfl).2
      have l1 := (HK1.out b rfl).2
      have l2 := (HK2.out c rfl).2
      obtain ⟨D, hD⟩ : ∃ D : ByteArray, (⟨(verL a b c).toArray⟩ : ByteArray) = D := ⟨_, rfl⟩
      have HTX := Lib.hid (VText_any a b c l0 l1 l2 wr HGr.out.t10)
      rw [hD] at hRR HTX
      have v0 := HRv.out.cell 0
      have v1 := HRv.out.cell 1
      have v2 := HRv.out.cell 2
      simp only [verP, List.getElem?_cons_zero, List.getElem?_cons_succ, Option.getD_some] at v0 v1 v2
      have HBr1 := HBr
      clear HK0 HK1 HK2 HO0 HO1 HO2 HN0 HN1 HN2 HALL HNO hD HOK
      unfold vv at HTX
      by_cases hDs : D = s
      · rw [if_pos hDs] at hRR
        have HRR := Lib.hid hRR
        have heq : (D.toList == s.toList) = true := by rw [hDs]; simp
        clear hRR hDs
        go_wp2_with (go_at_call 96; refine HTX.out.mono ?_; rintro e w1 ⟨rfl, hb1⟩; (have HB1 := Lib.hid (HBr.out.trans (hb1.mono HBr.out.size))); (have HRr1 := Lib.hid (HRr.out.below hb1 HRr.out.lt)); (have HRv1 := Lib.hid (HRv.out.below hb1 HRv.out.lt)); (have c0 := HRr1.out.cell 0); (have c1 := HRr1.out.cell 1); (have c2 := HRr1.out.cell 2); (have f0 := HRr1.out.frozen 0); (have f1 := HRr1.out.frozen 1); (have f2 := HRr1.out.frozen 2); (have v0 := HRv1.out.cell 0); (have v1 := HRv1.out.cell 1); (have v2 := HRv1.out.cell 2); clear hb1; simp only [verP, List.getElem?_cons_zero, List.getElem?_cons_succ, Option.getD_some] at c0 c1 c2 v0 v1 v2)
        have h5 := set3 HRr1.out (.int .u16 a) (.int .u16 b) (.int .u16 c)
        have hB5 := ((HB1.out.setCell (p := ⟨w.heap.size, 0, none⟩) (Nat.le_refl _) (.int .u16 a)).setCell (p := ⟨w.heap.size, 1, none⟩) (Nat.le_refl _) (.int .u16 b)).setCell (p := ⟨w.heap.size, 2, none⟩) (Nat.le_refl _) (.int .u16 c)
        generalize ((w1.setCell ⟨w.heap.size, 0, none⟩ (.int .u16 a)).setCell ⟨w.heap.size, 1, none⟩ (.int .u16 b)).setCell ⟨w.heap.size, 2, none⟩ (.int .u16 c) = w5 at h5 hB5 ⊢
        have g0 := h5.cell 0
        have g1 := h5.cell 1
        have g2 := h5.cell 2
        simp only [List.getElem?_cons_zero, List.getElem?_cons_succ] at g0 g1 g2
        exact bodyPost_ret (v := .tuple #[.agg #[.int .u16 a, .int .u16 b, .int .u16 c], .int .i64 0]) (by simp [results, Tryz.results83, go_sem, g0, g1, g2]) rfl ⟨by rw [HRR.out]; rfl, hB5⟩
      · rw [if_neg hDs] at hRR
        have HRR := Lib.hid hRR
        have heq : (D.toList == s.toList) = false := by
          rw [beq_eq_false_iff_ne]
          intro h
          rw [ByteArray.toList_eq, ByteArray.toList_eq] at h
          exact hDs (ByteArray.ext (Array.ext' h))
        clear hRR hDs
        go_wp2_with (go_at_call 96; refine HTX.out.mono ?_; rintro e w1 ⟨rfl, hb1⟩; (have HB1 := Lib.hid (HBr.out.trans (hb1.mono HBr.out.size))); (have HRr1 := Lib.hid (HRr.out.below hb1 HRr.out.lt)); (have HRv1 := Lib.hid (HRv.out.below hb1 HRv.out.lt)); (have c0 := HRr1.out.cell 0); (have c1 := HRr1.out.cell 1); (have c2 := HRr1.out.cell 2); (have f0 := HRr1.out.frozen 0); (have f1 := HRr1.out.frozen 1); (have f2 := HRr1.out.frozen 2); (have v0 := HRv1.out.cell 0); (have v1 := HRv1.out.cell 1); (have v2 := HRv1.out.cell 2); clear hb1; simp only [verP, List.getElem?_cons_zero, List.getElem?_cons_succ, Option.getD_some] at c0 c1 c2 v0 v1 v2)
        have h5 := set3 HRr1.out (.int .u16 0) (.int .u16 0) (.int .u16 0)
        have hB5 := ((HB1.out.setCell (p := ⟨w.heap.size, 0, none⟩) (Nat.le_refl _) (.int .u16 0)).setCell (p := ⟨w.heap.size, 1, none⟩) (Nat.le_refl _) (.int .u16 0)).setCell (p := ⟨w.heap.size, 2, none⟩) (Nat.le_refl _) (.int .u16 0)
        generalize ((w1.setCell ⟨w.heap.size, 0, none⟩ (.int .u16 0)).setCell ⟨w.heap.size, 1, none⟩ (.int .u16 0)).setCell ⟨w.heap.size, 2, none⟩ (.int .u16 0) = w5 at h5 hB5 ⊢
        have g0 := h5.cell 0
        have g1 := h5.cell 1
        have g2 := h5.cell 2
        simp only [List.getElem?_cons_zero, List.getElem?_cons_succ] at g0 g1 g2
        exact bodyPost_ret (v := .tuple #[.agg #[.int .u16 0, .int .u16 0, .int .u16 0], .int .i64 4]) (by simp [results, Tryz.results83, go_sem, g0, g1, g2]) rfl ⟨by rw [HRR.out]; rfl, hB5⟩

/-- version.Parse: of any text. -/
theorem VParse_any (s : ByteArray) (hs : s.size ≤ 1000) (w : World) (hG : VG w) :
    Calls Tryz.prog 83 #[.string s] w fun e w' => e = .returned (parseR (pv s.data.toList)) ∧ Below w.heap.size w w' := by
  rw [← vpr_eq]
  by_cases h : (pcs s).length = 3
  · match hp : pcs s, h with
    | [p0, p1, p2], _ => exact VParse_three s hs p0 p1 p2 hp w hG
  · have e : vpr s = none := by
      unfold vpr
      split
      · rename_i p q r hp
        rw [hp] at h
        exact absurd rfl h
      · rfl
    rw [e]
    exact VParse_few s hs h w hG
end Go.Proofs.YtldjnegoefdadaaGreatDoor
