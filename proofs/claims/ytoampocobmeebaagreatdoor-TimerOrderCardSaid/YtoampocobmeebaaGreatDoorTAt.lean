/- At: when an id is due. Next: the first tick. Same. -/
import Derived.Test.YtoampocobmeebaaGreatDoorTFind
import Derived.Test.YtoampocobmeebaaGreatDoorTSame
namespace Go.Proofs.YtoampocobmeebaaGreatDoor.Tm
open Go.RowKit
set_option linter.unusedVariables false
set_option linter.unusedSimpArgs false

/-- What At answers. -/
def atQ (l : List EN) (u : List UInt8) : Nat × Bool := match l.find? fun x => decide (x.uid = u) with
  | some x => (x.tm, true)
  | none => (0, false)
theorem atQ_none {l : List EN} {u : List UInt8} (h : plcQ l u = none) : atQ l u = (0, false) := by
  have : l.find? (fun x => decide (x.uid = u)) = none := by
    rw [List.find?_eq_none]
    intro x hx
    simpa using plcQ_none.1 h x hx
  unfold atQ
  rw [this]
theorem atQ_some {l : List EN} {u : List UInt8} {i : Nat} (h : plcQ l u = some i) : ∃ hi : i < l.length, atQ l u = (l[i].tm, true) := by
  obtain ⟨hi, h1, h2⟩ := plcQ_some h
  refine ⟨hi, ?_⟩
  have : l.find? (fun x => decide (x.uid = u)) = some l[i] := by
    rw [List.find?_eq_some_iff_getElem]
    exact ⟨by simpa using h1, i, hi, rfl, fun j hj => by simpa using h2 j hj⟩
  unfold atQ
  rw [this]
theorem idxQ_cases (l : List EN) (u : List UInt8) : (idxQ l u = -1 ∧ plcQ l u = none) ∨ ∃ i : Nat, idxQ l u = i ∧ plcQ l u = some i := by
  unfold idxQ
  cases h : plcQ l u with
  | none => exact .inl ⟨rfl, rfl⟩
  | some i => exact .inr ⟨i, rfl, rfl⟩

set_option maxRecDepth 20000 in
set_option maxHeartbeats 2000000 in
theorem At_any (l : List EN) (h64 : l.length ≤ 64) (u : List UInt8) (hu : u.length = 16) (s : Value) (w : World) (hT : TBL w s l) :
    Calls Tryz.prog 15 #[.agg #[s], .agg (u.map bv).toArray] w fun e w' => e = .returned (.tuple #[.int .u64 (atQ l u).1, .bool (atQ l u).2]) ∧ Below w.heap.size w w' := by
  obtain ⟨a, cap, rfl⟩ := hT.slice
  have HPl := Lib.hid (fun W h => place_any l h64 u hu (.slice a l.length cap) W h)
  have hlD := bv_len hu
  obtain ⟨D, hD⟩ : ∃ D, u.map bv = D := ⟨_, rfl⟩
  rw [hD] at HPl hlD ⊢
  clear hD
  have B0 := ((Below.refl w.heap.size w).alloc (Nat.le_refl _) (.cells #[Value.slice a l.length cap] 29)).alloc (by simp) (.cells D.toArray 25)
  have r0 := (Row.new w 29 [Value.slice a l.length cap]).alloc (.cells D.toArray 25)
  have r1 := Row.new (w.alloc (.cells #[Value.slice a l.length cap] 29)) 25 D
  rw [World.size_alloc] at r1
  change Row ((w.alloc (.cells #[Value.slice a l.length cap] 29)).alloc (.cells D.toArray 25)) w.heap.size 29 [Value.slice a l.length cap] at r0
  have HT := Lib.hid (hT.below B0)
  have H0 := Lib.hid (And.intro r0 (And.intro B0 (row_range r1)))
  have c0 := r0.cell 0
  simp only [List.getElem?_cons_zero] at c0
  clear hT B0 r0 r1
  go_enter Tryz.func15, Tryz.ntmps15
  go_wp2_with (refine ld_uid rfl (.tmp 3) rfl (w.heap.size + 1) 0 rfl D hlD H0.out.2.2 ?_)
  refine (HPl.out _ HT.out).mono ?_
  rintro e w1 ⟨rfl, hb⟩
  have R1 := Lib.hid (H0.out.1.below hb H0.out.1.lt)
  have B1 := Lib.hid (H0.out.2.1.trans (hb.mono H0.out.2.1.size))
  have HT1 := Lib.hid (HT.out.below hb)
  clear hb c0
  rcases idxQ_cases l u with ⟨hi, hp⟩ | ⟨i, hi, hp⟩
  · rw [hi]
    have HA := Lib.hid (atQ_none hp)
    clear hi hp
    go_wp2_with fail
    refine bodyPost_ret (results_tmp2 rfl _ _ _) rfl ⟨?_, B1.out⟩
    rw [HA.out]
    rfl
  · rw [hi]
    obtain ⟨hil, hA⟩ := atQ_some hp
    have HA := Lib.hid hA
    obtain ⟨g, cap', he, hg, hrng⟩ := HT1.out.cell i hil
    injection he with he1 he2 he3
    subst he1 he3
    clear he2 hA hi hp
    have p0 := hrng 0 _ rfl
    rw [Nat.add_zero] at p0
    have c0 := R1.out.cell 0
    simp only [List.getElem?_cons_zero] at c0
    have hiI : (i : Int) < (l.length : Int) := by omega
    clear hrng
    go_wp2_with fail
    refine bodyPost_ret (results_tmp2 rfl _ _ _) rfl ⟨?_, B1.out⟩
    rw [HA.out]
    rfl

set_option maxHeartbeats 1000000 in
theorem Same_any (la lb : List EN) (h64 : la.length ≤ 64) (s u : Value) (w : World) (hS : TBL w s la) (hU : TBL w u lb) :
    Calls Tryz.prog 16 #[.agg #[s], .agg #[u]] w fun e w' => e = .returned (.bool (decide (la = lb))) ∧ Below w.heap.size w w' := by
  have B0 := ((Below.refl w.heap.size w).alloc (Nat.le_refl _) (.cells #[s] 29)).alloc (by simp) (.cells #[u] 29)
  have r0 := (Row.new w 29 [s]).alloc (.cells #[u] 29)
  have r1 := Row.new (w.alloc (.cells #[s] 29)) 29 [u]
  rw [World.size_alloc] at r1
  change Row ((w.alloc (.cells #[s] 29)).alloc (.cells #[u] 29)) w.heap.size 29 [s] at r0
  change Row ((w.alloc (.cells #[s] 29)).alloc (.cells #[u] 29)) (w.heap.size + 1) 29 [u] at r1
  have c0 := r0.cell 0
  have c1 := r1.cell 0
  simp only [List.getElem?_cons_zero] at c0 c1
  have HE := Lib.hid (fun W h h' => Equal_any la lb h64 s u W h h')
  have HS := Lib.hid (And.intro (hS.below B0) (hU.below B0))
  have HB0 := Lib.hid B0
  obtain ⟨R, hR⟩ : ∃ R, decide (la = lb) = R := ⟨_, rfl⟩
  rw [hR] at HE ⊢
  obtain ⟨a, ca, rfl⟩ := hS.slice
  obtain ⟨c, cb, rfl⟩ := hU.slice
  clear hS hU hR r0 r1 B0
  go_enter Tryz.func16, Tryz.ntmps16
  go_wp2_with fail
  refine (HE.out _ HS.out.1 HS.out.2).mono ?_
  rintro e w1 ⟨rfl, hb⟩
  have B1 := Lib.hid (HB0.out.trans (hb.mono HB0.out.size))
  clear hb
  go_wp2
  go_ret
  exact ⟨rfl, B1.out⟩

/-- What Next answers. -/
def nextQ : List EN → Nat × Bool
  | [] => (0, false)
  | x :: _ => (x.tm, true)
set_option maxHeartbeats 1000000 in
theorem Next_any (l : List EN) (s : Value) (w : World) (hT : TBL w s l) :
    Calls Tryz.prog 17 #[.agg #[s]] w fun e w' => e = .returned (.tuple #[.int .u64 (nextQ l).1, .bool (nextQ l).2]) ∧ Below w.heap.size w w' := by
  obtain ⟨a, cap, rfl⟩ := hT.slice
  have B0 := (Below.refl w.heap.size w).alloc (Nat.le_refl _) (.cells #[Value.slice a l.length cap] 29)
  have r0 := Row.new w 29 [Value.slice a l.length cap]
  change Row (w.alloc (.cells #[Value.slice a l.length cap] 29)) w.heap.size 29 [Value.slice a l.length cap] at r0
  have HLn := Lib.hid (fun W h => Len_any l (.slice a l.length cap) W h)
  have HT := Lib.hid (hT.below B0)
  have H0 := Lib.hid (And.intro r0 B0)
  have c0 := r0.cell 0
  simp only [List.getElem?_cons_zero] at c0
  clear hT B0 r0
  go_enter Tryz.func17, Tryz.ntmps17
  go_wp2_with fail
  refine (HLn.out _ HT.out).mono ?_
  rintro e w1 ⟨rfl, hb⟩
  have R1 := Lib.hid (H0.out.1.below hb H0.out.1.lt)
  have B1 := Lib.hid (H0.out.2.trans (hb.mono H0.out.2.size))
  have HT1 := Lib.hid (HT.out.below hb)
  clear hb c0
  cases l with
  | nil =>
    go_wp2_with fail
    exact bodyPost_ret (results_tmp2 rfl _ _ _) rfl ⟨rfl, B1.out⟩
  | cons x l =>
    obtain ⟨g, cap', he, hg, hrng⟩ := HT1.out.cell 0 (by simp)
    injection he with he1 he2 he3
    subst he1 he3
    clear he2
    have p0 := hrng 0 _ rfl
    rw [Nat.zero_mul, Nat.add_zero] at p0
    have c0 := R1.out.cell 0
    simp only [List.getElem?_cons_zero] at c0
    have hne : ¬ (((x :: l).length : Nat) : Int) = 0 := by have : (x :: l).length = l.length + 1 := rfl; omega
    have hpos : (0 : Int) < (((x :: l).length : Nat) : Int) := by have : (x :: l).length = l.length + 1 := rfl; omega
    obtain ⟨n, hn⟩ : ∃ n, (x :: l).length = n := ⟨_, rfl⟩
    rw [hn] at hne hpos c0
    clear hrng
    simp only [hn]
    go_wp2_with fail
    exact bodyPost_ret (results_tmp2 rfl _ _ _) rfl ⟨rfl, B1.out⟩
end Go.Proofs.YtoampocobmeebaaGreatDoor.Tm
