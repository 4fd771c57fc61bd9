/- Add: a table with one range more. -/
import Derived.Test.YtldjnegoefdadaaGreatDoorRAll
namespace Go.Proofs.YtldjnegoefdadaaGreatDoor
open Go.RowKit Go.Shelf
set_option linter.unusedVariables false
set_option linter.unusedSimpArgs false
attribute [local go_sem] Oper.semAt_some

/-- What Add answers. -/
def errA (l : List RG) (r : RG) : Int := if chkN r ≠ 0 then chkN r else if 64 ≤ l.length then 6 else if l.all (apartB r) = false then 17 else 0
theorem own_pure_r {β : Type} {B : Nat} {φ : β → Prop} : OwnFrom B (fun (s : β) (_ : World) => φ s) := fun s X Y row hs _ _ => hs
/-- What a round finds and leaves. -/
def AI (b : Nat) (s : Value) (l : List RG) (r : RG) (w : World) (pre : List (Kx l)) (W : World) : Prop :=
  (∀ x ∈ pre, apartB r x.1.1 = true) ∧ (Row W b 27 [s] ∧ Row W (b + 1) 30 [.string r.lo, .string r.hi, .string r.acs, .string r.low, .string r.high, .int .i64 r.mode]) ∧ (Row W (b + 2) 27 [.slice none 0 0] ∧ Row W (b + 3) 34 [.int .i64 0]) ∧ Below b w W
def AX (b : Nat) (l : List RG) (r : RG) (w : World) (c : Code) (pre : List (Kx l)) (W : World) : Prop :=
  (c = Code.ret ∧ ∃ x ∈ pre, apartB r x.1.1 = false) ∧ (Row W (b + 2) 27 [.slice none 0 0] ∧ Row W (b + 3) 34 [.int .i64 17]) ∧ Below b w W
theorem AI_own (b : Nat) (s : Value) (l : List RG) (r : RG) (w : World) (B : Nat) (hb : b ≤ w.heap.size) (hbw : b ≤ B) : OwnFrom B (AI b s l r w) :=
  OwnFrom.and own_pure_r (OwnFrom.and (OwnFrom.and (Own.from (own_row_v b _ (fun _ => [s])) _) (Own.from (own_row_v (b + 1) _ (fun _ => [Value.string r.lo, .string r.hi, .string r.acs, .string r.low, .string r.high, .int .i64 r.mode])) _))
    (OwnFrom.and (OwnFrom.and (Own.from (own_row_v (b + 2) _ (fun _ => [Value.slice none 0 0])) _) (Own.from (own_row_v (b + 3) _ (fun _ => [Value.int .i64 0])) _)) (ownFrom_below hb hbw)))
theorem AX_own (b : Nat) (l : List RG) (r : RG) (w : World) (c : Code) (B : Nat) (hb : b ≤ w.heap.size) (hbw : b ≤ B) : OwnFrom B (AX b l r w c) :=
  OwnFrom.and own_pure_r (OwnFrom.and (OwnFrom.and (Own.from (own_row_v (b + 2) _ (fun _ => [Value.slice none 0 0])) _) (Own.from (own_row_v (b + 3) _ (fun _ => [Value.int .i64 17])) _)) (ownFrom_below hb hbw))
theorem AI.below {b : Nat} {s : Value} {l : List RG} {r : RG} {w W W' : World} {pre : List (Kx l)} (h : AI b s l r w pre W) (hb : Below W.heap.size W W') : AI b s l r w pre W' :=
  ⟨h.1, ⟨h.2.1.1.below hb h.2.1.1.lt, h.2.1.2.below hb h.2.1.2.lt⟩, ⟨h.2.2.1.1.below hb h.2.2.1.1.lt, h.2.2.1.2.below hb h.2.2.1.2.lt⟩, h.2.2.2.trans (hb.mono (Nat.le_of_lt h.2.1.1.lt))⟩
theorem results_two {fn : Func} {p q : Tmp} (h : fn.results = #[.cell p 27, .cell q 34]) (tmps : Array Value) (w : World) (g k : Nat) (s : Value) (e : Int) (hp : tmps.getD p undef = .pointer (some ⟨g, 0, none⟩)) (hq : tmps.getD q undef = .pointer (some ⟨k, 0, none⟩))
    (hg : Row w g 27 [s]) (hk : Row w k 34 [.int .i64 e]) : (results fn tmps).run Tryz.prog w = .ok (.tuple #[.agg #[s], .int .i64 e]) w := by
  have hp' : tmps[p]?.getD undef = .pointer (some ⟨g, 0, none⟩) := by simpa using hp
  have hq' : tmps[q]?.getD undef = .pointer (some ⟨k, 0, none⟩) := by simpa using hq
  have c0 := hg.cell 0
  have c1 := hk.cell 0
  simp only [List.getElem?_cons_zero] at c0 c1
  simp [results, h, hp', hq', asAddr, loadVar, go_sem, c0, c1]

/-- What the last region finds. -/
def AS (b : Nat) (s : Value) (l : List RG) (r : RG) (w : World) (D : Nat) (W : World) : Prop :=
  (Row W b 27 [s] ∧ Row W (b + 1) 30 [.string r.lo, .string r.hi, .string r.acs, .string r.low, .string r.high, .int .i64 r.mode]) ∧ ((∃ x, Row W (b + 2) 27 [x]) ∧ ∃ e, Row W (b + 3) 34 [e]) ∧ Below b w W ∧ W.heap[D]? = some (.deferred (some []))
theorem AS.next {b : Nat} {s : Value} {l : List RG} {r : RG} {w : World} {D : Nat} {W W' : World} (h : AS b s l r w D W) {c : Nat} (hc : b + 3 < c) (hD : D < c) (hb : Below c W W') : AS b s l r w D W' := by
  obtain ⟨⟨h1, h2⟩, ⟨⟨x, h3⟩, e, h4⟩, h5, h6⟩ := h
  exact ⟨⟨h1.below hb (by omega), h2.below hb (by omega)⟩, ⟨⟨x, h3.below hb (by omega)⟩, e, h4.below hb (by omega)⟩, h5.trans (hb.mono (by omega)), (hb.block D hD).trans h6⟩
theorem AS.put2 {b : Nat} {s : Value} {l : List RG} {r : RG} {w : World} {D : Nat} {W : World} (h : AS b s l r w D W) (x : Value) : AS b s l r w D (W.setCell ⟨b + 2, 0, none⟩ x) := by
  obtain ⟨⟨h1, h2⟩, ⟨⟨y, h3⟩, e, h4⟩, h5, h6⟩ := h
  refine ⟨⟨h1.far (by show b ≠ b + 2; omega) _, h2.far (by show b + 1 ≠ b + 2; omega) _⟩, ⟨⟨x, h3.set 0 x⟩, e, h4.far (by show b + 3 ≠ b + 2; omega) _⟩, h5.setCell (p := ⟨b + 2, 0, none⟩) (by show b ≤ b + 2; omega) _, ?_⟩
  rw [Below.heap_setCell W ⟨b + 2, 0, none⟩ x D (fun e => by
    have e' : D = b + 2 := e
    rw [e'] at h6
    unfold Row at h3
    rw [h3] at h6
    cases h6)]
  exact h6
theorem AS.put3 {b : Nat} {s : Value} {l : List RG} {r : RG} {w : World} {D : Nat} {W : World} (h : AS b s l r w D W) (x : Value) (_n : Nat) (_h : _n = 0) : AS b s l r w D (W.setCell ⟨b + 3, 0, none⟩ x) := by
  obtain ⟨⟨h1, h2⟩, ⟨⟨y, h3⟩, e, h4⟩, h5, h6⟩ := h
  refine ⟨⟨h1.far (by show b ≠ b + 3; omega) _, h2.far (by show b + 1 ≠ b + 3; omega) _⟩, ⟨⟨y, h3.far (by show b + 2 ≠ b + 3; omega) _⟩, x, h4.set 0 x⟩, h5.setCell (p := ⟨b + 3, 0, none⟩) (by show b ≤ b + 3; omega) _, ?_⟩
  rw [Below.heap_setCell W ⟨b + 3, 0, none⟩ x D (fun e => by
    have e' : D = b + 3 := e
    rw [e'] at h6
    unfold Row at h4
    rw [h4] at h6
    cases h6)]
  exact h6
theorem OWN.same {B : Nat} {w w' : World} {s : Value} {l : List RG} (h : OWN B w s l) (hh : ∀ g, B ≤ g → w'.heap[g]? = w.heap[g]?) : OWN B w' s l := by
  refine ⟨h.1, ?_⟩
  rcases h.2 with h0 | ⟨g, cap, cur, h1, h2, h3, h4⟩
  · exact Or.inl h0
  · exact Or.inr ⟨g, cap, cur, h1, h2, (hh g h2).trans h3, h4⟩
theorem OWN.alloc {B : Nat} {w : World} {s : Value} {l : List RG} (h : OWN B w s l) (o : Obj) : OWN B (w.alloc o) s l := World.ownsRow.alloc h o
theorem OWN.lt {B : Nat} {w : World} {s : Value} {l : List RG} (h : OWN B w s l) : ∀ k, s.ownBlock = some k → B ≤ k ∧ k < w.heap.size := World.ownsRow.lt h

/-- How Add ends. -/
def AddPost (l : List RG) (r : RG) (p : Nat) (w : World) (e : Ending) (w' : World) : Prop :=
  Below w.heap.size w w' ∧ ∃ s' er, e = .returned (.tuple #[.agg #[s'], .int .i64 er]) ∧ ((er = errA l r ∧ er ≠ 0 ∧ s' = .slice none 0 0) ∨ (errA l r = 0 ∧ er = 0 ∧ OWN w.heap.size w' s' (insL l p r)))

theorem add_put {b : Nat} {s : Value} {l : List RG} {r : RG} {w W : World} {pre : List (Kx l)} (h : AI b s l r w pre W) (x : Value) (e : Int) :
    Row ((W.setCell ⟨b + 2, 0, none⟩ x).setCell ⟨b + 3, 0, none⟩ (.int .i64 e)) (b + 2) 27 [x] ∧ Row ((W.setCell ⟨b + 2, 0, none⟩ x).setCell ⟨b + 3, 0, none⟩ (.int .i64 e)) (b + 3) 34 [.int .i64 e] ∧
      Below b w ((W.setCell ⟨b + 2, 0, none⟩ x).setCell ⟨b + 3, 0, none⟩ (.int .i64 e)) :=
  ⟨(h.2.2.1.1.set 0 x).far (p := ⟨b + 3, 0, none⟩) (by show b + 2 ≠ b + 3; omega) _, (h.2.2.1.2.far (p := ⟨b + 2, 0, none⟩) (by show b + 3 ≠ b + 2; omega) x).set 0 (.int .i64 e),
    (h.2.2.2.setCell (p := ⟨b + 2, 0, none⟩) (by show b ≤ b + 2; omega) x).setCell (p := ⟨b + 3, 0, none⟩) (by show b ≤ b + 3; omega) _⟩

set_option maxRecDepth 100000 in
set_option maxHeartbeats 4000000 in
theorem Add_any (l : List RG) (hl : ∀ r ∈ l, r.light) (h64 : l.length ≤ 64) (r : RG) (hr : r.light) (p : Nat) (hp : Stands l r.lo p) (s : Value) (w : World) (hG : VG w) (hT : TBL w s l) :
    Calls Tryz.prog 14 #[.agg #[s], .agg #[.string r.lo, .string r.hi, .string r.acs, .string r.low, .string r.high, .int .i64 r.mode]] w (AddPost l r p w) := by
  obtain ⟨a, cap, rfl⟩ := hT.slice
  have HC := Lib.hid (fun W h => Check_any r hr W h)
  have HLen := Lib.hid (fun W h => Len_any l (.slice a l.length cap) W h)
  have HAll := Lib.hid (fun W => TAll_any a l.length cap W)
  have HPl := Lib.hid (fun W h => place_any l hl h64 r.lo (by have := hr.1; omega) p hp (.slice a l.length cap) W h)
  have HE := Lib.hid (rfl : errA l r = errA l r)
  have HG := Lib.hid hG
  have HT := Lib.hid hT
  clear hG hT
  refine (callsIn_wide (n := 6)).1 ?_
  refine callsIn_of_wp_marks Tryz.func14 rfl trivial ?_ rfl
  simp only [Tryz.ntmps14, List.size_toArray, List.length_cons, List.length_nil, Nat.reduceAdd, Nat.reduceSub, Array.replicate_succ, Array.replicate_zero, List.push_toArray, List.append_toArray, List.nil_append, List.cons_append]
  rw [wpIn_wide]
  obtain ⟨b, hb⟩ : ∃ b, w.heap.size = b := ⟨_, rfl⟩
  have HB := Lib.hid hb
  go_wp2_with fail
  obtain ⟨W0, hW0⟩ : ∃ W, (((w.alloc (.cells #[.slice a l.length cap] 27)).alloc (.cells #[.string r.lo, .string r.hi, .string r.acs, .string r.low, .string r.high, .int .i64 r.mode] 30)).alloc (.cells #[.slice none 0 0] 27)).alloc (.cells #[.int .i64 0] 34) = W := ⟨_, rfl⟩
  rw [hW0]
  have hI0 : AI b (.slice a l.length cap) l r w [] W0 := by
    rw [← hW0, ← hb]
    have z1 : (w.alloc (.cells #[.slice a l.length cap] 27)).heap.size = w.heap.size + 1 := by simp
    have z2 : ((w.alloc (.cells #[.slice a l.length cap] 27)).alloc (.cells #[.string r.lo, .string r.hi, .string r.acs, .string r.low, .string r.high, .int .i64 r.mode] 30)).heap.size = w.heap.size + 2 := by simp
    have z3 : (((w.alloc (.cells #[.slice a l.length cap] 27)).alloc (.cells #[.string r.lo, .string r.hi, .string r.acs, .string r.low, .string r.high, .int .i64 r.mode] 30)).alloc (.cells #[.slice none 0 0] 27)).heap.size = w.heap.size + 3 := by simp
    refine ⟨fun x hx => absurd hx (by simp), ⟨(((Row.self w _ _).alloc _).alloc _).alloc _, ?_⟩, ⟨?_, ?_⟩, ((((Below.refl _ _).alloc (Nat.le_refl _) _).alloc (by simp) _).alloc (by simp; omega) _).alloc (by simp; omega) _⟩
    · rw [← z1]; exact ((Row.self _ _ _).alloc _).alloc _
    · rw [← z2]; exact (Row.self _ _ _).alloc _
    · rw [← z3]; exact Row.self _ _ _
  have HI0 := Lib.hid hI0
  clear hI0 hW0
  have HVG : Hid (∀ W, Below b w W → VG W) := Lib.hid fun W h => HG.out.below (by rw [hb]; exact h)
  have HTB : Hid (∀ W, Below b w W → TBL W (.slice a l.length cap) l) := Lib.hid fun W h => HT.out.below (by rw [hb]; exact h)
  refine (HC.out _ (HVG.out _ HI0.out.2.2.2)).mono ?_
  rintro e w1 ⟨rfl, hb1⟩
  have HI1 := Lib.hid (HI0.out.below hb1)
  clear hb1
  obtain ⟨k, hk⟩ : ∃ k, chkN r = k := ⟨_, rfl⟩
  rw [hk]
  have HKE : Hid (errA l r = if k ≠ 0 then k else if 64 ≤ l.length then 6 else if l.all (apartB r) = false then 17 else 0) := Lib.hid (by unfold errA; rw [hk])
  clear hk
  by_cases hk0 : k = 0
  · subst hk0
    have p0 := HI1.out.2.1.1.cell 0
    simp only [List.getElem?_cons_zero] at p0
    have HKE1 : Hid (errA l r = if 64 ≤ l.length then 6 else if l.all (apartB r) = false then 17 else 0) := Lib.hid (by rw [HKE.out, if_neg (by decide)])
    go_wp2_with fail
    refine (HLen.out _ (HTB.out _ HI1.out.2.2.2)).mono ?_
    rintro e w2 ⟨rfl, hb2⟩
    have HI2 := Lib.hid (HI1.out.below hb2)
    clear hb2 p0
    by_cases h64' : 64 ≤ l.length
    · have h64I : (64 : Int) ≤ (l.length : Int) := by omega
      have p2 := HI2.out.2.2.1.1.cell 0
      have p3 := HI2.out.2.2.1.2.cell 0
      have f2 := HI2.out.2.2.1.1.frozen 0
      have f3 := HI2.out.2.2.1.2.frozen 0
      simp only [List.getElem?_cons_zero] at p2 p3
      have HKE2 : Hid (errA l r = 6) := Lib.hid (by rw [HKE1.out, if_pos h64'])
      clear HKE HKE1
      go_wp2_with fail
      obtain ⟨r2, r3, hB⟩ := add_put HI2.out (.slice none 0 0) 6
      exact ⟨_, results_two rfl _ _ _ _ _ _ rfl rfl r2 r3, by rw [hb]; exact hB, _, _, rfl, Or.inl ⟨HKE2.out.symm, by decide, rfl⟩⟩
    · have h64I : ¬ (64 : Int) ≤ (l.length : Int) := by omega
      have p0 := HI2.out.2.1.1.cell 0
      simp only [List.getElem?_cons_zero] at p0
      have h64b : decide ((64 : Int) ≤ (l.length : Int)) = false := decide_eq_false h64I
      have HKE2 : Hid (errA l r = if l.all (apartB r) = false then 17 else 0) := Lib.hid (by rw [HKE1.out, if_neg h64'])
      go_wp2_with fail
      refine (HAll.out _).mono ?_
      rintro e w3 ⟨rfl, rfl⟩
      go_wp2_with fail
      have hlt2 : b + 3 < w2.heap.size := HI2.out.2.2.1.2.lt
      obtain ⟨c0, hc0⟩ : ∃ c, w2.heap.size = c := ⟨_, rfl⟩
      rw [hc0] at hlt2 ⊢
      have B3 : Below w2.heap.size w2 ((w2.alloc (.cells #[.slice a l.length cap] 27)).alloc (.cells #[.slice a l.length cap] 25)) := ((Below.refl _ _).alloc (Nat.le_refl _) _).alloc (by simp) _
      have HI3 := Lib.hid (HI2.out.below B3)
      have hBn : Row ((w2.alloc (.cells #[.slice a l.length cap] 27)).alloc (.cells #[.slice a l.length cap] 25)) (c0 + 1) 25 [.slice a l.length cap] := by
        rw [show c0 + 1 = (w2.alloc (.cells #[.slice a l.length cap] 27)).heap.size by simp [hc0]]
        exact Row.self _ _ _
      have hz3 : c0 + 1 < ((w2.alloc (.cells #[.slice a l.length cap] 27)).alloc (.cells #[.slice a l.length cap] 25)).heap.size := hBn.lt
      obtain ⟨w3, hw3⟩ : ∃ W, (w2.alloc (.cells #[.slice a l.length cap] 27)).alloc (.cells #[.slice a l.length cap] 25) = W := ⟨_, rfl⟩
      rw [hw3] at HI3 hBn hz3 ⊢
      clear B3 hw3 HI2
      have hel : ∃ g, g ≤ b ∧ ElemsAt w3 g a l := by
        rcases (HTB.out _ HI3.out.2.2.2).form with ⟨h1, _⟩ | ⟨g, cap', cur, h1, h2, _, _, _, h6⟩
        · exact ⟨b, Nat.le_refl _, _, _, _, HI3.out.2.1.1, Or.inl h1⟩
        · injection h1 with h1 _ _
          refine ⟨g, ?_, cur, _, _, h2, Or.inr ⟨h1, h6⟩⟩
          rcases HT.out.form with ⟨_, h3⟩ | ⟨g', _, _, h3, h4, _⟩
          · injection h3 with h3; rw [h1] at h3; cases h3
          · injection h3 with h3 _ _
            rw [h1] at h3
            injection h3 with h3
            injection h3 with h3
            have := (Array.getElem?_eq_some_iff.1 h4).1
            omega
      obtain ⟨g, hgb, hE⟩ := hel
      rw [← wpIn_wide (n := 6)]
      refine' wpIn_rangeFunc_ownH rfl (by omega) (gf := 85) (lb := #[.pointer (some ⟨c0 + 1, 0, none⟩)]) rfl trivial (enters_of Tryz.func85 (by kernel_rfl) rfl)
        (All_stops 5 (by omega) (c0 + 1) g a cap l h64 w3 hBn hE) keepsA_t (keepsA_b (by omega)) (Below.refl _ _) (fun _ => rfl)
        (AI b (.slice a l.length cap) l r w)
        (AX b l r w)
        (AI_own b _ l r w _ (by omega) (by omega))
        (fun c => AX_own b l r w c _ (by omega) (by omega))
        HI3.out
        (fun x a' W => ∃ g', (a' = { tmps := #[Value.agg #[Value.slice a l.length cap], Value.agg #[Value.string r.lo, Value.string r.hi, Value.string r.acs, Value.string r.low, Value.string r.high, Value.int IntKind.i64 r.mode],
          Value.pointer (some ⟨b, 0, none⟩), Value.pointer (some ⟨b + 1, 0, none⟩), Value.pointer (some ⟨b + 1 + 1, 0, none⟩), Value.pointer (some ⟨b + 1 + 1 + 1, 0, none⟩), Value.int IntKind.i64 0, undef, Value.pointer (some ⟨g', 0, none⟩), undef, undef,
          Value.agg #[Value.string r.lo, Value.string r.hi, Value.string r.acs, Value.string r.low, Value.string r.high, Value.int IntKind.i64 r.mode], Value.int IntKind.i64 0, Value.int IntKind.i64 0, Value.bool false, undef, undef,
          Value.agg #[Value.slice a l.length cap], Value.int IntKind.i64 l.length, Value.bool false, undef, Value.agg #[Value.slice a l.length cap],
          Value.func (Fn.func 85) #[] #[Value.pointer (some ⟨c0 + 1, 0, none⟩)], .int .i64 (x.1.2 : Nat), .agg #[.string x.1.1.lo, .string x.1.1.hi, .string x.1.1.acs, .string x.1.1.low, .string x.1.1.high, .int .i64 x.1.1.mode],
          undef, undef, undef, undef, undef, undef, undef, undef, undef, undef, undef, undef, undef, undef, undef, undef, undef, undef, undef, undef], defers := [] } ∧ b + 3 < g') ∧ Row W g' 30 [.string x.1.1.lo, .string x.1.1.hi, .string x.1.1.acs, .string x.1.1.low, .string x.1.1.high, .int .i64 x.1.1.mode])
        (fun x a' => ax_ownV _) ?hassign ?hbody ?hdone ?hstop
      case hassign =>
        rintro l' pre x W K hI hK
        have hbW : b + 3 < W.heap.size := hI.2.2.1.2.lt
        dsimp only [encA]
        gi_wp2
        have ha : Below W.heap.size W (W.alloc (.cells #[.string x.1.1.lo, .string x.1.1.hi, .string x.1.1.acs, .string x.1.1.low, .string x.1.1.high, .int .i64 x.1.1.mode] 30)) := (Below.refl _ _).alloc (Nat.le_refl _) _
        exact hK _ _ ((below_othersV ha).from _) (ha.block g (by omega)) (hI.below ha) ⟨W.heap.size, ⟨rfl, hbW⟩, Row.self W _ _⟩
      case hbody =>
        rintro l' pre x a' W hl' hrec hI ⟨g', ⟨rfl, hbg⟩, hrow⟩ hlt
        obtain ⟨⟨x, xi⟩, hx⟩ := x
        have HA := Lib.hid (fun W => apart_any r x hr (hl x hx) W)
        obtain ⟨ap, hap⟩ : ∃ ap, apartB r x = ap := ⟨_, rfl⟩
        rw [hap] at HA
        have HAP := Lib.hid hap
        have q0 := hrow.cell 0
        have q1 := hrow.cell 1
        have q2 := hrow.cell 2
        have q3 := hrow.cell 3
        have q4 := hrow.cell 4
        have q5 := hrow.cell 5
        have p0 := hI.2.1.2.cell 0
        have p1 := hI.2.1.2.cell 1
        have p2 := hI.2.1.2.cell 2
        have p3 := hI.2.1.2.cell 3
        have p4 := hI.2.1.2.cell 4
        have p5 := hI.2.1.2.cell 5
        simp only [List.getElem?_cons_zero, List.getElem?_cons_succ] at p0 p1 p2 p3 p4 p5 q0 q1 q2 q3 q4 q5
        have HI := Lib.hid hI
        have hgW : g < W.heap.size := by have := hI.2.1.1.lt; omega
        clear hI hrow hap hE hBn
        dsimp only
        gi_wp2_with fail
        refine ⟨trivial, (CallsIn.inRound l' (callsIn_wide.2 (HA.out _))).mono ?_⟩
        rintro e w4 ⟨rfl, hb4⟩
        have HI4 := Lib.hid (HI.out.below hb4)
        have HB4 := Lib.hid hb4
        clear hb4 p0 p1 p2 p3 p4 p5 q0 q1 q2 q3 q4 q5
        cases ap with
        | true =>
          gi_wp2
          refine ⟨(below_othersV HB4.out).from _, HB4.out.block g hgW, ?_, HI4.out.2⟩
          intro y hy
          rcases List.mem_append.1 hy with hy | hy
          · exact HI4.out.1 y hy
          · rw [List.mem_singleton] at hy
            subst hy
            exact HAP.out
        | false =>
          have p2 := HI4.out.2.2.1.1.cell 0
          have p3 := HI4.out.2.2.1.2.cell 0
          have f2 := HI4.out.2.2.1.1.frozen 0
          have f3 := HI4.out.2.2.1.2.frozen 0
          simp only [List.getElem?_cons_zero] at p2 p3
          gi_wp2
          obtain ⟨r2, r3, hB⟩ := add_put HI4.out (.slice none 0 0) 17
          exact ⟨((below_othersV HB4.out).trans ((KeepsOthers.setCell _ _ _).trans (KeepsOthers.setCell _ _ _))).from _, ⟨rfl, _, List.mem_append.2 (Or.inr (List.mem_singleton.2 rfl)), HAP.out⟩, ⟨r2, r3⟩, hB⟩
      case hdone =>
        rintro D ys W hD hys hI hK
        have hEA : errA l r = 0 := by
          rw [HKE2.out, if_neg]
          rw [Bool.not_eq_false, List.all_eq_true]
          intro y hy
          obtain ⟨i, hi, rfl⟩ := List.getElem_of_mem hy
          have hm : (l[i], i) ∈ ys.map Subtype.val := by
            rw [hys, List.mk_mem_zipIdx_iff_getElem?]
            exact List.getElem?_eq_getElem hi
          obtain ⟨z, hz, hze⟩ := List.mem_map.1 hm
          have := hI.1 z hz
          rw [hze] at this
          exact this
        have p0 := hI.2.1.1.cell 0
        have p1 := hI.2.1.2.cell 0
        simp only [List.getElem?_cons_zero] at p0 p1
        have HI := Lib.hid hI
        have HKD := Lib.hid (And.intro hK hD)
        have HEA := Lib.hid hEA
        clear hEA hI hK hD hys hE hBn
        dsimp only
        go_wp2_with fail
        refine (HPl.out _ (HTB.out _ HI.out.2.2.2)).mono ?_
        rintro e w4 ⟨rfl, hb4⟩
        have HI4 := Lib.hid (HI.out.below hb4)
        have HB4 := Lib.hid hb4
        clear hb4 p0 p1
        go_wp2_with fail
        obtain ⟨c4, hc4⟩ : ∃ c, w4.heap.size = c := ⟨_, rfl⟩
        have HZ4 := Lib.hid hc4
        have HC4 : Hid (b + 3 < c4 ∧ D < c4) := Lib.hid ⟨by rw [← hc4]; exact HI4.out.2.2.1.2.lt, by rw [← hc4]; exact Nat.lt_of_lt_of_le (Array.getElem?_eq_some_iff.1 HKD.out.1).1 HB4.out.size⟩
        have HS0 : Hid (AS b (.slice a l.length cap) l r w D w4.drew) := Lib.hid ⟨HI4.out.2.1, ⟨⟨_, HI4.out.2.2.1.1⟩, _, HI4.out.2.2.1.2⟩, HI4.out.2.2.2.drew, (HB4.out.block D (Array.getElem?_eq_some_iff.1 HKD.out.1).1).trans HKD.out.1⟩
        clear hc4
        -- REGION
        refine wp_region_noPanic ?_
        refine wp_region_held_drew (S := fun W => AS b (.slice a l.length cap) l r w D W) (by kernel_rfl) HS0.out (fun hHeld => ?_)
        refine wpAnyH_take (i := 0) (oi := { dst := some 37, op := Op.fieldAddr 27 (Operand.tmp 2) 0, type := 0, pos := "ranges.go:144", after := #[], guard := none }) (v := ?vvn_0) rfl (by kernel_rfl) (by kernel_rfl) (by kernel_rfl) (fun _ _ _ h => h) (Or.inl ⟨by rfl, ?yyn_0⟩) hHeld ?_
        case vvn_0 => exact .pointer (some ⟨b, 0, none⟩)
        case yyn_0 =>
          intro W hS
          go_simp
        try simp only [Act.put, List.setIfInBounds_toArray, List.set_cons_zero, List.set_cons_succ]
        refine wpAnyH_take (i := 1) (oi := { dst := some 38, op := Op.load 25 (Operand.tmp 37), type := 25, pos := "ranges.go:144", after := #[{ on := 0, ground := Ground.data }], guard := none }) (v := ?vvn_1) rfl (by kernel_rfl) (by kernel_rfl) (by kernel_rfl) (fun _ _ _ h => h) (Or.inl ⟨by rfl, ?yyn_1⟩) hHeld ?_
        case vvn_1 => exact (.slice a l.length cap)
        case yyn_1 =>
          intro W hS
          have q0 := hS.1.1.cell 0
          simp only [List.getElem?_cons_zero] at q0
          go_simp
        try simp only [Act.put, List.setIfInBounds_toArray, List.set_cons_zero, List.set_cons_succ]
        refine wpAnyH_take (i := 3) (oi := { dst := some 40, op := Op.move (Operand.tmp 9), type := 3, pos := "ranges.go:144", after := #[], guard := none }) (v := ?vvn_3) rfl (by kernel_rfl) (by kernel_rfl) (by kernel_rfl) (fun _ _ _ h => h) (Or.inl ⟨by rfl, ?yyn_3⟩) hHeld ?_
        case vvn_3 => exact .int .i64 (p : Nat)
        case yyn_3 =>
          intro W hS
          go_simp
        try simp only [Act.put, List.setIfInBounds_toArray, List.set_cons_zero, List.set_cons_succ]
        refine wpAnyH_take (i := 4) (oi := { dst := some 41, op := Op.load 30 (Operand.tmp 3), type := 30, pos := "ranges.go:144", after := #[], guard := none }) (v := ?vvn_4) rfl (by kernel_rfl) (by kernel_rfl) (by kernel_rfl) (fun _ _ _ h => h) (Or.inl ⟨by rfl, ?yyn_4⟩) hHeld ?_
        case vvn_4 => exact .agg #[.string r.lo, .string r.hi, .string r.acs, .string r.low, .string r.high, .int .i64 r.mode]
        case yyn_4 =>
          intro W hS
          have q0 := hS.1.2.cell 0
          have q1 := hS.1.2.cell 1
          have q2 := hS.1.2.cell 2
          have q3 := hS.1.2.cell 3
          have q4 := hS.1.2.cell 4
          have q5 := hS.1.2.cell 5
          simp only [List.getElem?_cons_zero, List.getElem?_cons_succ] at q0 q1 q2 q3 q4 q5
          go_simp
        try simp only [Act.put, List.setIfInBounds_toArray, List.set_cons_zero, List.set_cons_succ]
        refine wpAnyH_ready (rs := [2, 5]) (by kernel_rfl) (by simp) (AllReadyH.cons (o := { dst := some 39, op := Op.call { callee := Callee.value (Operand.func 39), args := #[Operand.tmp 38], argTypes := #[25] }, type := 25, pos := "ranges.go:144", after := #[{ on := 1, ground := Ground.data }], guard := none }) rfl (fun K hK => ?_) (AllReadyH.cons (o := { dst := some 42, op := Op.buildSlice 25 1 #[(0, Operand.tmp 41)], type := 25, pos := "ranges.go:144", after := #[{ on := 4, ground := Ground.data }], guard := none }) rfl (fun K hK => ?_) AllReadyH.nil))
        · go_simp
          go_at_call 39
          refine (Clone_any l h64 _ _ (HTB.out _ HS0.out.2.2.1)).mono ?_
          rintro e w5 ⟨s1, rfl, hO1, hb5⟩
          have AS5 := AS.next HS0.out (c := c4) HC4.out.1 HC4.out.2 (hb5.mono (by rw [show w4.drew.heap.size = w4.heap.size from rfl, HZ4.out]; exact Nat.le_refl _))
          have HO1 : Hid (OWN c4 w5 s1 l) := Lib.hid (hO1.weak (by rw [show w4.drew.heap.size = w4.heap.size from rfl, HZ4.out]; exact Nat.le_refl _))
          have hz5 : c4 ≤ w5.heap.size := by have := hb5.size; rw [show w4.drew.heap.size = w4.heap.size from rfl, HZ4.out] at this; exact this
          clear hO1 hb5
          refine hK.out _ _ AS5 (fun hHeld => ?_)
          clear hK K
          try simp only [Act.put, List.setIfInBounds_toArray, List.set_cons_zero, List.set_cons_succ]
          refine wpAnyH_ready (rs := [5]) (by kernel_rfl) (by simp) (AllReadyH.cons (o := { dst := some 42, op := Op.buildSlice 25 1 #[(0, Operand.tmp 41)], type := 25, pos := "ranges.go:144", after := #[{ on := 4, ground := Ground.data }], guard := none }) rfl (fun K hK => ?_) AllReadyH.nil)
          go_simp
          have AS6 := AS.next AS5 HC4.out.1 HC4.out.2 ((Below.refl c4 w5).alloc hz5 (.cells #[.string r.lo, .string r.hi, .string r.acs, .string r.low, .string r.high, .int .i64 r.mode] 30))
          have hOA : OWN c4 (w5.alloc (.cells #[.string r.lo, .string r.hi, .string r.acs, .string r.low, .string r.high, .int .i64 r.mode] 30)) s1 l := HO1.out.alloc _
          have hRA : Row (w5.alloc (.cells #[.string r.lo, .string r.hi, .string r.acs, .string r.low, .string r.high, .int .i64 r.mode] 30)) w5.heap.size 30 r.cells := Row.self w5 _ _
          have hne : s1.ownBlock ≠ some w5.heap.size := fun h => by have := (HO1.out.lt _ h).2; omega
          refine hK.out _ _ AS6 (fun hHeld => ?_)
          clear hK K
          try simp only [Act.put, List.setIfInBounds_toArray, List.set_cons_zero, List.set_cons_succ]
          refine wpAnyH_ready (rs := [6]) (by kernel_rfl) (by simp) (AllReadyH.cons (o := { dst := some 43, op := Op.call { callee := Callee.value (Operand.func 42), args := #[Operand.tmp 39, Operand.tmp 40, Operand.tmp 42], argTypes := #[25, 3, 25] }, type := 25, pos := "ranges.go:144", after := #[{ on := 2, ground := Ground.data }, { on := 3, ground := Ground.data }, { on := 5, ground := Ground.data }, { on := 2, ground := Ground.chain }], guard := none }) rfl (fun K hK => ?_) AllReadyH.nil)
          go_simp
          go_at_call 42
          refine (Insert_any c4 l (by omega) r p hp.1 s1 w5.heap.size _ (by rw [World.size_alloc]; omega) hOA hRA hne).mono ?_
          rintro e w7 ⟨s2, rfl, hO2, hb7⟩
          obtain ⟨a2, n2, cap2, rfl⟩ : ∃ a n c, s2 = Value.slice a n c := (by obtain ⟨a, c, h⟩ := hO2.tbl.slice; exact ⟨a, _, c, h⟩)
          have HO2 := Lib.hid hO2
          have AS7 := AS.next AS6 HC4.out.1 HC4.out.2 hb7
          clear hO2 hb7
          refine hK.out _ _ AS7 (fun hHeld => ?_)
          clear hK K
          try simp only [Act.put, List.setIfInBounds_toArray, List.set_cons_zero, List.set_cons_succ]
          refine wpAnyH_take (i := 7) (oi := { dst := some 44, op := Op.build 27 #[(0, Operand.tmp 43)], type := 27, pos := "ranges.go:144", after := #[{ on := 6, ground := Ground.data }], guard := none }) (v := ?vva_7) rfl (by kernel_rfl) (by kernel_rfl) (by kernel_rfl) (fun _ _ _ h => h) (Or.inl ⟨by rfl, ?yya_7⟩) hHeld ?_
          case vva_7 => exact .agg #[.slice a2 n2 cap2]
          case yya_7 =>
            intro W hS
            go_simp
          try simp only [Act.put, List.setIfInBounds_toArray, List.set_cons_zero, List.set_cons_succ]
          refine wpAnyH_ready (rs := [8]) (by kernel_rfl) (by simp) (AllReadyH.cons (o := { dst := none, op := Op.store 27 (Operand.tmp 4) (Operand.tmp 44), type := 0, pos := "ranges.go:144", after := #[{ on := 7, ground := Ground.data }, { on := 6, ground := Ground.chain }, { on := 0, ground := Ground.phase }, { on := 1, ground := Ground.phase }, { on := 2, ground := Ground.phase }, { on := 3, ground := Ground.phase }, { on := 4, ground := Ground.phase }, { on := 5, ground := Ground.phase }, { on := 6, ground := Ground.phase }, { on := 7, ground := Ground.phase }], guard := none }) rfl (fun K hK => ?_) AllReadyH.nil)
          have q2 := AS7.2.1.1
          obtain ⟨xo, q2⟩ := q2
          have e2 := q2.cell 0
          have f2 := q2.frozen 0
          simp only [List.getElem?_cons_zero] at e2
          go_simp
          have AS8 := AS.put2 AS7 (.slice a2 n2 cap2)
          refine hK.out _ _ AS8 (fun hHeld => ?_)
          clear hK K
          try simp only [Act.put, List.setIfInBounds_toArray, List.set_cons_zero, List.set_cons_succ]
          refine wpAnyH_ready (rs := [9]) (by kernel_rfl) (by simp) (AllReadyH.cons (o := { dst := none, op := Op.store 34 (Operand.tmp 5) (Operand.const (Value.int IntKind.i64 0)), type := 0, pos := "ranges.go:144", after := #[{ on := 8, ground := Ground.chain }, { on := 0, ground := Ground.phase }, { on := 1, ground := Ground.phase }, { on := 2, ground := Ground.phase }, { on := 3, ground := Ground.phase }, { on := 4, ground := Ground.phase }, { on := 5, ground := Ground.phase }, { on := 6, ground := Ground.phase }, { on := 7, ground := Ground.phase }, { on := 8, ground := Ground.phase }], guard := none }) rfl (fun K hK => ?_) AllReadyH.nil)
          have q3 := AS8.2.1.2
          obtain ⟨eo, q3⟩ := q3
          have e3 := q3.cell 0
          have f3 := q3.frozen 0
          simp only [List.getElem?_cons_zero] at e3
          go_simp
          have AS9 := AS.put3 AS8 (.int .i64 0)
          refine hK.out _ _ (AS9 0 rfl) (fun hHeld => ?_)
          clear hK K
          try simp only [Act.put, List.setIfInBounds_toArray, List.set_cons_zero, List.set_cons_succ]
          refine wpAnyH_done (by kernel_rfl) ?_ _
          refine NoPanic.normal ?_
          have r2a := ((q2.set 0 (.slice a2 n2 cap2)).far (p := ⟨b + 3, 0, none⟩) (by show b + 2 ≠ b + 3; omega) (.int .i64 0))
          have r3a := (q3.set 0 (.int .i64 0))
          have hOs := OWN.same HO2.out (w' := (w7.setCell ⟨b + 2, 0, none⟩ (.slice a2 n2 cap2)).setCell ⟨b + 3, 0, none⟩ (.int .i64 0)) (fun g hg => by
            have := HC4.out.1
            exact (Below.heap_setCell _ ⟨b + 3, 0, none⟩ _ g (by show g ≠ b + 3; omega)).trans (Below.heap_setCell _ ⟨b + 2, 0, none⟩ _ g (by show g ≠ b + 2; omega)))
          have AS10 := AS9 0 rfl
          clear q2 q3 e2 f2 e3 f3 AS8
          go_wp2
          refine ⟨by simp, .inl ⟨_, _, rfl, run_takeDeferred AS10.2.2.2, ?_⟩⟩
          have hDb : w.heap.size ≤ D := by have := HKD.out.2; rw [hb]; omega
          have r2b := (World.putObj_heap_other (r := D) (o := .deferred none) (by have := HKD.out.2; omega)).trans r2a
          have r3b := (World.putObj_heap_other (r := D) (o := .deferred none) (by have := HKD.out.2; omega)).trans r3a
          exact ⟨_, results_two rfl _ _ (b + 2) (b + 3) (.slice a2 n2 cap2) 0 rfl rfl r2b r3b, (show Below w.heap.size w _ by rw [hb]; exact AS10.2.2.1).trans (belowK_b (w := w) (Nat.le_refl _) _ D _ _ hDb AS10.2.2.2 rfl rfl), _, _, rfl, Or.inr ⟨HEA.out, rfl, (OWN.same hOs (fun g hg => World.putObj_heap_other (by have := HC4.out.2; omega))).weak (by have := HC4.out.1; rw [hb]; omega)⟩⟩
        · go_simp
          have AS5 := AS.next HS0.out (c := c4) HC4.out.1 HC4.out.2 ((Below.refl c4 w4.drew).alloc (by rw [show w4.drew.heap.size = w4.heap.size from rfl, HZ4.out]; exact Nat.le_refl _) (.cells #[.string r.lo, .string r.hi, .string r.acs, .string r.low, .string r.high, .int .i64 r.mode] 30))
          have hR5 : Row (w4.drew.alloc (.cells #[.string r.lo, .string r.hi, .string r.acs, .string r.low, .string r.high, .int .i64 r.mode] 30)) w4.drew.heap.size 30 r.cells := Row.self w4.drew _ _
          refine hK.out _ _ AS5 (fun hHeld => ?_)
          clear hK K
          try simp only [Act.put, List.setIfInBounds_toArray, List.set_cons_zero, List.set_cons_succ]
          refine wpAnyH_ready (rs := [2]) (by kernel_rfl) (by simp) (AllReadyH.cons (o := { dst := some 39, op := Op.call { callee := Callee.value (Operand.func 39), args := #[Operand.tmp 38], argTypes := #[25] }, type := 25, pos := "ranges.go:144", after := #[{ on := 1, ground := Ground.data }], guard := none }) rfl (fun K hK => ?_) AllReadyH.nil)
          go_simp
          go_at_call 39
          refine (Clone_any l h64 _ _ (HTB.out _ AS5.2.2.1)).mono ?_
          rintro e w6 ⟨s1, rfl, hO1, hb6⟩
          have hRA : Row w6 w4.heap.size 30 r.cells := hR5.below hb6 hR5.lt
          have hne : s1.ownBlock ≠ some w4.heap.size := fun h => by have h1 := (hO1.lt _ h).1; have h2 := hR5.lt; rw [show w4.drew.heap.size = w4.heap.size from rfl] at h2; omega
          have hsz : c4 ≤ (w4.drew.alloc (.cells #[.string r.lo, .string r.hi, .string r.acs, .string r.low, .string r.high, .int .i64 r.mode] 30)).heap.size := by rw [World.size_alloc, show w4.drew.heap.size = w4.heap.size from rfl, HZ4.out]; omega
          have AS6 := AS.next AS5 (c := c4) HC4.out.1 HC4.out.2 (hb6.mono hsz)
          have hOA : OWN c4 w6 s1 l := hO1.weak hsz
          have hz6 : c4 ≤ w6.heap.size := Nat.le_trans hsz hb6.size
          clear hO1 hb6
          refine hK.out _ _ AS6 (fun hHeld => ?_)
          clear hK K
          try simp only [Act.put, List.setIfInBounds_toArray, List.set_cons_zero, List.set_cons_succ]
          refine wpAnyH_ready (rs := [6]) (by kernel_rfl) (by simp) (AllReadyH.cons (o := { dst := some 43, op := Op.call { callee := Callee.value (Operand.func 42), args := #[Operand.tmp 39, Operand.tmp 40, Operand.tmp 42], argTypes := #[25, 3, 25] }, type := 25, pos := "ranges.go:144", after := #[{ on := 2, ground := Ground.data }, { on := 3, ground := Ground.data }, { on := 5, ground := Ground.data }, { on := 2, ground := Ground.chain }], guard := none }) rfl (fun K hK => ?_) AllReadyH.nil)
          go_simp
          go_at_call 42
          refine (Insert_any c4 l (by omega) r p hp.1 s1 w4.heap.size _ hz6 hOA hRA hne).mono ?_
          rintro e w7 ⟨s2, rfl, hO2, hb7⟩
          obtain ⟨a2, n2, cap2, rfl⟩ : ∃ a n c, s2 = Value.slice a n c := (by obtain ⟨a, c, h⟩ := hO2.tbl.slice; exact ⟨a, _, c, h⟩)
          have HO2 := Lib.hid hO2
          have AS7 := AS.next AS6 HC4.out.1 HC4.out.2 hb7
          clear hO2 hb7
          refine hK.out _ _ AS7 (fun hHeld => ?_)
          clear hK K
          try simp only [Act.put, List.setIfInBounds_toArray, List.set_cons_zero, List.set_cons_succ]
          refine wpAnyH_take (i := 7) (oi := { dst := some 44, op := Op.build 27 #[(0, Operand.tmp 43)], type := 27, pos := "ranges.go:144", after := #[{ on := 6, ground := Ground.data }], guard := none }) (v := ?vvb_7) rfl (by kernel_rfl) (by kernel_rfl) (by kernel_rfl) (fun _ _ _ h => h) (Or.inl ⟨by rfl, ?yyb_7⟩) hHeld ?_
          case vvb_7 => exact .agg #[.slice a2 n2 cap2]
          case yyb_7 =>
            intro W hS
            go_simp
          try simp only [Act.put, List.setIfInBounds_toArray, List.set_cons_zero, List.set_cons_succ]
          refine wpAnyH_ready (rs := [8]) (by kernel_rfl) (by simp) (AllReadyH.cons (o := { dst := none, op := Op.store 27 (Operand.tmp 4) (Operand.tmp 44), type := 0, pos := "ranges.go:144", after := #[{ on := 7, ground := Ground.data }, { on := 6, ground := Ground.chain }, { on := 0, ground := Ground.phase }, { on := 1, ground := Ground.phase }, { on := 2, ground := Ground.phase }, { on := 3, ground := Ground.phase }, { on := 4, ground := Ground.phase }, { on := 5, ground := Ground.phase }, { on := 6, ground := Ground.phase }, { on := 7, ground := Ground.phase }], guard := none }) rfl (fun K hK => ?_) AllReadyH.nil)
          have q2 := AS7.2.1.1
          obtain ⟨xo, q2⟩ := q2
          have e2 := q2.cell 0
          have f2 := q2.frozen 0
          simp only [List.getElem?_cons_zero] at e2
          go_simp
          have AS8 := AS.put2 AS7 (.slice a2 n2 cap2)
          refine hK.out _ _ AS8 (fun hHeld => ?_)
          clear hK K
          try simp only [Act.put, List.setIfInBounds_toArray, List.set_cons_zero, List.set_cons_succ]
          refine wpAnyH_ready (rs := [9]) (by kernel_rfl) (by simp) (AllReadyH.cons (o := { dst := none, op := Op.store 34 (Operand.tmp 5) (Operand.const (Value.int IntKind.i64 0)), type := 0, pos := "ranges.go:144", after := #[{ on := 8, ground := Ground.chain }, { on := 0, ground := Ground.phase }, { on := 1, ground := Ground.phase }, { on := 2, ground := Ground.phase }, { on := 3, ground := Ground.phase }, { on := 4, ground := Ground.phase }, { on := 5, ground := Ground.phase }, { on := 6, ground := Ground.phase }, { on := 7, ground := Ground.phase }, { on := 8, ground := Ground.phase }], guard := none }) rfl (fun K hK => ?_) AllReadyH.nil)
          have q3 := AS8.2.1.2
          obtain ⟨eo, q3⟩ := q3
          have e3 := q3.cell 0
          have f3 := q3.frozen 0
          simp only [List.getElem?_cons_zero] at e3
          go_simp
          have AS9 := AS.put3 AS8 (.int .i64 0)
          refine hK.out _ _ (AS9 0 rfl) (fun hHeld => ?_)
          clear hK K
          try simp only [Act.put, List.setIfInBounds_toArray, List.set_cons_zero, List.set_cons_succ]
          refine wpAnyH_done (by kernel_rfl) ?_ _
          refine NoPanic.normal ?_
          have r2a := ((q2.set 0 (.slice a2 n2 cap2)).far (p := ⟨b + 3, 0, none⟩) (by show b + 2 ≠ b + 3; omega) (.int .i64 0))
          have r3a := (q3.set 0 (.int .i64 0))
          have hOs := OWN.same HO2.out (w' := (w7.setCell ⟨b + 2, 0, none⟩ (.slice a2 n2 cap2)).setCell ⟨b + 3, 0, none⟩ (.int .i64 0)) (fun g hg => by
            have := HC4.out.1
            exact (Below.heap_setCell _ ⟨b + 3, 0, none⟩ _ g (by show g ≠ b + 3; omega)).trans (Below.heap_setCell _ ⟨b + 2, 0, none⟩ _ g (by show g ≠ b + 2; omega)))
          have AS10 := AS9 0 rfl
          clear q2 q3 e2 f2 e3 f3 AS8
          go_wp2
          refine ⟨by simp, .inl ⟨_, _, rfl, run_takeDeferred AS10.2.2.2, ?_⟩⟩
          have hDb : w.heap.size ≤ D := by have := HKD.out.2; rw [hb]; omega
          have r2b := (World.putObj_heap_other (r := D) (o := .deferred none) (by have := HKD.out.2; omega)).trans r2a
          have r3b := (World.putObj_heap_other (r := D) (o := .deferred none) (by have := HKD.out.2; omega)).trans r3a
          exact ⟨_, results_two rfl _ _ (b + 2) (b + 3) (.slice a2 n2 cap2) 0 rfl rfl r2b r3b, (show Below w.heap.size w _ by rw [hb]; exact AS10.2.2.1).trans (belowK_b (w := w) (Nat.le_refl _) _ D _ _ hDb AS10.2.2.2 rfl rfl), _, _, rfl, Or.inr ⟨HEA.out, rfl, (OWN.same hOs (fun g hg => World.putObj_heap_other (by have := HC4.out.2; omega))).weak (by have := HC4.out.1; rw [hb]; omega)⟩⟩
      case hstop =>
        rintro D c pre W hD hp ⟨⟨rfl, x, hx, hxa⟩, ⟨h2, h3⟩, hB⟩ hK
        have hEA : errA l r = 17 := by
          rw [HKE2.out, if_pos]
          rw [List.all_eq_false]
          exact ⟨x.1.1, x.2, by rw [hxa]; decide⟩
        rw [wpIn_wide]
        dsimp only
        go_wp2
        have hDb : w.heap.size ≤ D := by rw [hb]; omega
        have r2 : Row (W.putObj D (.deferred none)) (b + 2) 27 [.slice none 0 0] := (World.putObj_heap_other (o := .deferred none) (by omega)).trans h2
        have r3 : Row (W.putObj D (.deferred none)) (b + 3) 34 [.int .i64 17] := (World.putObj_heap_other (o := .deferred none) (by omega)).trans h3
        refine ⟨by simp, .inl ⟨_, _, rfl, run_takeDeferred hK, ?_⟩⟩
        exact ⟨_, results_two rfl _ _ _ _ _ _ rfl rfl r2 r3, (show Below w.heap.size w W by rw [hb]; exact hB).trans (belowK_b (w := w) (Nat.le_refl _) _ D _ _ hDb hK rfl rfl), _, _, rfl, Or.inl ⟨hEA.symm, by decide, rfl⟩⟩
  · have hkb : (k != 0) = true := by rw [bne_iff_ne]; exact hk0
    have p2 := HI1.out.2.2.1.1.cell 0
    have p3 := HI1.out.2.2.1.2.cell 0
    have f2 := HI1.out.2.2.1.1.frozen 0
    have f3 := HI1.out.2.2.1.2.frozen 0
    simp only [List.getElem?_cons_zero] at p2 p3
    go_wp2_with fail
    obtain ⟨r2, r3, hB⟩ := add_put HI1.out (.slice none 0 0) k
    exact ⟨_, results_two rfl _ _ _ _ _ _ rfl rfl r2 r3, by rw [hb]; exact hB, _, _, rfl, Or.inl ⟨by rw [HKE.out, if_pos hk0], hk0, rfl⟩⟩
end Go.Proofs.YtldjnegoefdadaaGreatDoor
