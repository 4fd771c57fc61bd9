/- Drop: the queue without an id. At: when it is due. Len, Next. -/
import Derived.Test.YtoampocobmeebaaGreatDoorTFind
namespace Go.Proofs.YtoampocobmeebaaGreatDoor.Tm
open Go.RowKit Go.Shelf
set_option linter.unusedVariables false
set_option linter.unusedSimpArgs false

theorem results_q1 {fn : Func} {p : Tmp} (h : fn.results = #[.cell p 29]) (tmps : Array Value) (w : World) (g : Nat) (s : Value) (hp : tmps.getD p undef = .pointer (some ⟨g, 0, none⟩)) (hg : Row w g 29 [s]) : (results fn tmps).run Tryz.prog w = .ok (.agg #[s]) w := by
  have hp' : tmps[p]?.getD undef = .pointer (some ⟨g, 0, none⟩) := by simpa using hp
  have c0 := hg.cell 0
  simp only [List.getElem?_cons_zero] at c0
  have h2 : (loadVar 29 ⟨g, 0, none⟩).run Tryz.prog w = .ok (.agg #[s]) w := by simp [loadVar, go_sem, c0]
  simp [results, h, hp', asAddr, h2, Result.andThen]
theorem results_q2 {fn : Func} {p q : Tmp} (h : fn.results = #[.cell p 29, .tmp q]) (tmps : Array Value) (w : World) (g : Nat) (s x : Value) (hp : tmps.getD p undef = .pointer (some ⟨g, 0, none⟩)) (hq : tmps.getD q undef = x)
    (hg : Row w g 29 [s]) : (results fn tmps).run Tryz.prog w = .ok (.tuple #[.agg #[s], x]) w := by
  rw [results_cell_tmp h, hp, hq]
  have c0 := hg.cell 0
  simp only [List.getElem?_cons_zero] at c0
  simp [asAddr, loadVar, go_sem, c0, Result.andThen]
theorem OWN.same {B : Nat} {w w' : World} {s : Value} {l : List EN} (h : OWN B w s l) (hh : ∀ g, B ≤ g → w'.heap[g]? = w.heap[g]?) : OWN B w' s l := by
  refine ⟨h.1, ?_⟩
  rcases h.2 with h0 | ⟨g, cap, cur, h1, h2, h3, h4⟩
  · exact Or.inl h0
  · exact Or.inr ⟨g, cap, cur, h1, h2, (hh g h2).trans h3, h4⟩
theorem OWN.below {B : Nat} {w w' : World} {s : Value} {l : List EN} (h : OWN B w s l) (hb : Below w.heap.size w w') : OWN B w' s l := by
  refine ⟨h.1, ?_⟩
  rcases h.2 with h0 | ⟨g, cap, cur, h1, h2, h3, h4⟩
  · exact Or.inl h0
  · exact Or.inr ⟨g, cap, cur, h1, h2, (hb.block g (Array.getElem?_eq_some_iff.1 h3).1).trans h3, h4⟩
theorem idxQ_lt (l : List EN) (u : List UInt8) : idxQ l u = -1 ∧ plcQ l u = none ∨ ∃ i : Nat, idxQ l u = i ∧ plcQ l u = some i := by
  unfold idxQ
  cases h : plcQ l u with
  | none => exact .inl ⟨rfl, rfl⟩
  | some i => exact .inr ⟨i, rfl, rfl⟩

set_option maxRecDepth 100000 in
set_option maxHeartbeats 4000000 in
theorem Drop_any (l : List EN) (hG : GoodQ l) (h64 : l.length ≤ 64) (u : List UInt8) (hu : u.length = 16) (s : Value) (w : World) (hT : TBL w s l) :
    Calls Tryz.prog 7 #[.agg #[s], .agg (u.map bv).toArray] w fun e w' => ∃ s', e = .returned (.agg #[s']) ∧ OWN w.heap.size w' s' (dropQ l u) ∧ Below w.heap.size w w' := by
  obtain ⟨a, cap, rfl⟩ := hT.slice
  have HPl := Lib.hid (fun W h => place_any l h64 u hu (.slice a l.length cap) W h)
  have HCl := Lib.hid (fun W h => Clone_any l h64 (.slice a l.length cap) W h)
  have hlD := bv_len hu
  obtain ⟨D, hD⟩ : ∃ D, u.map bv = D := ⟨_, rfl⟩
  rw [hD] at HPl hlD ⊢
  clear hD
  obtain ⟨b, hb⟩ : ∃ b, w.heap.size = b := ⟨_, rfl⟩
  obtain ⟨w1, hw1⟩ : ∃ w1, ((w.alloc (.cells #[.slice a l.length cap] 29)).alloc (.cells D.toArray 25)).alloc (.cells #[.slice none 0 0] 29) = w1 := ⟨_, rfl⟩
  have B0 : Below b w w1 := by rw [← hw1, ← hb]; exact (((Below.refl _ _).alloc (Nat.le_refl _) _).alloc (by simp) _).alloc (by simp; omega) _
  have H0 : Hid (Row w1 b 29 [.slice a l.length cap] ∧ Row w1 (b + 1) 25 D ∧ Row w1 (b + 1 + 1) 29 [.slice none 0 0]) := Lib.hid (by
    have r0 := ((Row.new w 29 [Value.slice a l.length cap]).alloc (.cells D.toArray 25)).alloc (.cells #[.slice none 0 0] 29)
    have r1 := (Row.new (w.alloc (.cells #[Value.slice a l.length cap] 29)) 25 D).alloc (.cells #[.slice none 0 0] 29)
    have r2 := Row.new ((w.alloc (.cells #[Value.slice a l.length cap] 29)).alloc (.cells D.toArray 25)) 29 [Value.slice none 0 0]
    simp only [World.size_alloc] at r1 r2
    rw [← hw1, ← hb]
    exact ⟨r0, r1, r2⟩)
  have HB0 := Lib.hid B0
  have HT : Hid (∀ W, Below b w W → TBL W (.slice a l.length cap) l) := Lib.hid fun W h => hT.below (by rw [hb]; exact h)
  have HW1 := Lib.hid hw1
  have HL := Lib.hid hlD
  clear B0 hT hw1 hlD
  go_enter Tryz.func7, Tryz.ntmps7
  have p0 := H0.out.1.cell 0
  simp only [List.getElem?_cons_zero] at p0
  rw [← HW1.out] at p0
  go_wp2_with fail
  rw [HW1.out]
  clear p0
  refine (HCl.out _ (HT.out _ HB0.out)).mono ?_
  rintro e w2 ⟨s1, rfl, hO1, hb2⟩
  have hz1 : b + 1 + 1 < w1.heap.size := H0.out.2.2.lt
  have R0 := Lib.hid (H0.out.1.below hb2 H0.out.1.lt)
  have R1 := Lib.hid (H0.out.2.1.below hb2 H0.out.2.1.lt)
  have R2 := Lib.hid (H0.out.2.2.below hb2 H0.out.2.2.lt)
  have B2 := Lib.hid (HB0.out.trans (hb2.mono (by omega)))
  have HO1 := Lib.hid hO1
  obtain ⟨xa, xn, xc, rfl⟩ : ∃ a n c, s1 = Value.slice a n c := (by obtain ⟨a, c, h⟩ := HO1.out.tbl.slice; exact ⟨a, _, c, h⟩)
  have hz2 := hb2.size
  clear hO1 hb2
  have p0 := R0.out.cell 0
  simp only [List.getElem?_cons_zero] at p0
  have q1 := Lib.hid (row_range R1.out)
  go_wp2_with (refine ld_uid rfl (.tmp 3) rfl (b + 1) 0 rfl D HL.out q1.out ?_)
  refine (HPl.out _ (HT.out _ B2.out)).mono ?_
  rintro e w3 ⟨rfl, hb3⟩
  have Q2 := Lib.hid (R2.out.below hb3 R2.out.lt)
  have B3 := Lib.hid (B2.out.trans (hb3.mono (by omega)))
  have HO3 := Lib.hid (HO1.out.below hb3)
  have hz3 := hb3.size
  clear hb3 p0 q1
  rcases idxQ_lt l u with ⟨hi, hp⟩ | ⟨i, hi, hp⟩
  · rw [hi]
    have HD := Lib.hid (dropQ_none hp)
    have p2 := Q2.out.cell 0
    have f2 := Q2.out.frozen 0
    simp only [List.getElem?_cons_zero] at p2
    clear hi hp
    go_wp2_with fail
    have r2 := Q2.out.set 0 (.slice xa xn xc)
    refine bodyPost_ret (results_q1 rfl _ _ (b + 1 + 1) (.slice xa xn xc) rfl r2) rfl ?_
    rw [hb]
    refine ⟨_, rfl, ?_, B3.out.setCell (p := ⟨b + 1 + 1, 0, none⟩) (by show b ≤ b + 1 + 1; omega) _⟩
    rw [HD.out]
    exact (OWN.same HO3.out (fun g hg => Below.heap_setCell _ ⟨b + 1 + 1, 0, none⟩ _ g (by show g ≠ b + 1 + 1; omega))).weak (by omega)
  · rw [hi]
    have HD := Lib.hid (dropQ_some hG hp)
    obtain ⟨hil, _, _⟩ := plcQ_some hp
    have HDel := Lib.hid (fun B s W h => Delete_any B l h64 i hil s W h)
    clear hi hp
    go_wp2_with fail
    refine (HDel.out w1.heap.size _ _ HO3.out).mono ?_
    rintro e w4 ⟨s2, rfl, hO4, hb4⟩
    have B4 := Lib.hid (B3.out.trans (hb4.mono (by omega)))
    have P2 := Lib.hid (Q2.out.below hb4 hz1)
    have HO4 := Lib.hid hO4
    clear hO4 hb4
    obtain ⟨ya, yn, yc, rfl⟩ : ∃ a n c, s2 = Value.slice a n c := (by obtain ⟨a, c, h⟩ := HO4.out.tbl.slice; exact ⟨a, _, c, h⟩)
    have p2 := P2.out.cell 0
    have f2 := P2.out.frozen 0
    simp only [List.getElem?_cons_zero] at p2
    go_wp2_with fail
    have r2 := P2.out.set 0 (.slice ya yn yc)
    refine bodyPost_ret (results_q1 rfl _ _ (b + 1 + 1) (.slice ya yn yc) rfl r2) rfl ?_
    rw [hb]
    refine ⟨_, rfl, ?_, B4.out.setCell (p := ⟨b + 1 + 1, 0, none⟩) (by show b ≤ b + 1 + 1; omega) _⟩
    rw [HD.out]
    exact (OWN.same HO4.out (fun g hg => Below.heap_setCell _ ⟨b + 1 + 1, 0, none⟩ _ g (by show g ≠ b + 1 + 1; omega))).weak (by omega)
end Go.Proofs.YtoampocobmeebaaGreatDoor.Tm
