/- New: a table of many ranges. -/
import Derived.Test.YtldjnegoefdadaaGreatDoorRAdd
namespace Go.Proofs.YtldjnegoefdadaaGreatDoor
open Go.RowKit Go.Shelf
set_option linter.unusedVariables false
set_option linter.unusedSimpArgs false

/-- Where a range goes in a table. -/
def plc (t : List RG) (r : RG) : Nat := (t.takeWhile fun x => decide (ck r.lo x < 0)).length
/-- The table of the first ranges, if they may be in one. -/
def tabN (L : List RG) : Nat → Option (List RG)
  | 0 => some []
  | i + 1 => match tabN L i with
    | none => none
    | some t => if h : i < L.length then (if errA t L[i] = 0 then some (insL t (plc t L[i]) L[i]) else none) else none
theorem results_tt {fn : Func} {p q : Tmp} (h : fn.results = #[.cell p 27, .tmp q]) (tmps : Array Value) (w : World) (g : Nat) (s x : Value) (hp : tmps.getD p undef = .pointer (some ⟨g, 0, none⟩)) (hq : tmps.getD q undef = x)
    (hg : Row w g 27 [s]) : (results fn tmps).run Tryz.prog w = .ok (.tuple #[.agg #[s], x]) w := by
  rw [results_cell_tmp h, hp, hq]
  have c0 := hg.cell 0
  simp only [List.getElem?_cons_zero] at c0
  simp [asAddr, loadVar, go_sem, c0, Result.andThen]

/-- How New ends. -/
def NewPost (L : List RG) (w : World) (e : Ending) (w' : World) : Prop :=
  Below w.heap.size w w' ∧ ((∃ (i : Nat) (h : i < L.length) (t : List RG), tabN L i = some t ∧ errA t L[i] ≠ 0 ∧ e = .returned (.tuple #[.agg #[.slice none 0 0], .int .i64 (errA t L[i])])) ∨
    ∃ t s', tabN L L.length = some t ∧ e = .returned (.tuple #[.agg #[s'], .int .i64 0]) ∧ TBL w' s' t)

set_option maxRecDepth 100000 in
set_option maxHeartbeats 4000000 in
theorem New_any (L : List RG) (hL : ∀ r ∈ L, r.light) (h64 : L.length ≤ 64) (hok : ∀ i t (h : i < L.length), tabN L i = some t → Stands t L[i].lo (plc t L[i])) (s : Value) (w : World) (hG : VG w) (hT : TBL w s L) :
    Calls Tryz.prog 19 #[s] w (NewPost L w) := by
  obtain ⟨a, cap, rfl⟩ := hT.slice
  have HG := Lib.hid hG
  have HT := Lib.hid hT
  have HOK := Lib.hid hok
  clear hG hT hok
  obtain ⟨b, hb⟩ : ∃ b, w.heap.size = b := ⟨_, rfl⟩
  go_enter Tryz.func19, Tryz.ntmps19
  go_wp2
  go_loopw [11] (fun i wr => ∃ (j : Nat) (t : List RG) (st : Value), j ≤ L.length ∧ i = .int .i64 j ∧ Hid (tabN L j = some t ∧ t.length = j ∧ ∀ x ∈ t, x.light) ∧ Hid (Row wr b 27 [.slice none 0 0] ∧ Row wr (b + 1) 27 [st] ∧ TBL wr st t ∧ Below b w wr)) (fun i _ => L.length - (intOf i).toNat)
  case atStart =>
    refine ⟨0, [], .slice none 0 0, Nat.zero_le _, rfl, Lib.hid ⟨rfl, rfl, fun x hx => by cases hx⟩, Lib.hid ?_⟩
    rw [← hb]
    have z1 : (w.alloc (.cells #[.slice none 0 0] 27)).heap.size = w.heap.size + 1 := by simp
    refine ⟨(Row.self w _ _).alloc _, ?_, TBL.nil _, ((Below.refl _ _).alloc (Nat.le_refl _) _).alloc (by simp) _⟩
    rw [← z1]
    exact Row.self _ _ _
  case round =>
    obtain ⟨j, t, st, hj, rfl, HX, HW⟩ := hrel
    by_cases hlt : j < L.length
    · have hltI : (j : Int) < (L.length : Int) := by omega
      obtain ⟨g, cap', he, hg, hrng⟩ := (HT.out.below (show Below w.heap.size w wr by rw [hb]; exact HW.out.2.2.2)).cell j hlt
      injection he with he1 he2 he3
      subst he1 he3
      have p0 := hrng 0 _ rfl
      have p1 := hrng 1 _ rfl
      have p2 := hrng 2 _ rfl
      have p3 := hrng 3 _ rfl
      have p4 := hrng 4 _ rfl
      have p5 := hrng 5 _ rfl
      rw [Nat.add_zero] at p0
      have HST := Lib.hid (HOK.out j t hlt HX.out.1)
      have hrl := hL _ (List.getElem_mem hlt)
      have hTN : tabN L (j + 1) = if errA t L[j] = 0 then some (insL t (plc t L[j]) L[j]) else none := by
        rw [tabN, HX.out.1]
        dsimp only
        rw [dif_pos hlt]
      obtain ⟨r, hr⟩ : ∃ r, L[j] = r := ⟨_, rfl⟩
      have hrE := Lib.hid hr
      rw [hr] at p0 p1 p2 p3 p4 p5 HST hrl hTN
      have HADD := Lib.hid (fun W h1 h2 => Add_any t HX.out.2.2 (by rw [HX.out.2.1]; omega) r hrl (plc t r) HST.out st W h1 h2)
      have HTN := Lib.hid hTN
      obtain ⟨sa, sn, sc, rfl⟩ : ∃ a n c, st = Value.slice a n c := (by obtain ⟨a, c, h⟩ := HW.out.2.2.1.slice; exact ⟨a, _, c, h⟩)
      have d0 := HW.out.2.1.cell 0
      simp only [List.getElem?_cons_zero] at d0
      clear hrng hr hTN
      have hsz : b + 1 < wr.heap.size := HW.out.2.1.lt
      go_wp2_with fail
      have ha : Below wr.heap.size wr (wr.alloc (.cells #[.string r.lo, .string r.hi, .string r.acs, .string r.low, .string r.high, .int .i64 r.mode] 30)) := (Below.refl _ _).alloc (Nat.le_refl _) _
      generalize wr.alloc (.cells #[.string r.lo, .string r.hi, .string r.acs, .string r.low, .string r.high, .int .i64 r.mode] 30) = w3 at ha ⊢
      have B3 : Below b w w3 := HW.out.2.2.2.trans (ha.mono (by omega))
      refine (HADD.out _ (HG.out.below (by rw [hb]; exact B3)) (HW.out.2.2.1.below ha)).mono ?_
      rintro e w4 ⟨hb4, s', er, rfl, hcase⟩
      have hsz3 : b + 1 < w3.heap.size := Nat.lt_of_lt_of_le hsz ha.size
      have B4 := Lib.hid (B3.trans (hb4.mono (by omega)))
      have R0 := Lib.hid ((HW.out.1.below ha (by omega)).below hb4 (by omega))
      have R1 := Lib.hid ((HW.out.2.1.below ha (by omega)).below hb4 (by omega))
      have hsz4 : b + 1 < w4.heap.size := Nat.lt_of_lt_of_le hsz3 hb4.size
      clear p0 p1 p2 p3 p4 p5 d0 hb4 ha B3
      obtain ⟨xa, xn, xc, rfl⟩ : ∃ a n c, s' = Value.slice a n c := by
        rcases hcase with ⟨_, _, rfl⟩ | ⟨_, _, hO⟩
        · exact ⟨_, _, _, rfl⟩
        · obtain ⟨a, c, h⟩ := hO.tbl.slice
          exact ⟨a, _, c, h⟩
      rcases hcase with ⟨he1, he2, hs⟩ | ⟨he1, rfl, hO⟩
      · injection hs with hs1 hs2 hs3
        subst hs1 hs2 hs3
        have heb : (er != 0) = true := by rw [bne_iff_ne]; exact he2
        have HER := Lib.hid (And.intro he1 he2)
        have hsz5 : b < w4.heap.size := by omega
        have d0 := R0.out.cell 0
        have f0 := R0.out.frozen 0
        simp only [List.getElem?_cons_zero] at d0
        clear he1 he2
        go_wp2_with fail
        have r0 : Row ((w4.setCell ⟨b, 0, none⟩ (.slice none 0 0)).alloc (.cells #[.slice none 0 0] 27)) b 27 [.slice none 0 0] := (R0.out.set 0 (.slice none 0 0)).alloc _
        try rw [Exit.noGoto_ret]
        refine bodyPost_ret (results_tt rfl _ _ b (.slice none 0 0) (.int .i64 er) rfl rfl r0) rfl ?_
        refine ⟨?_, Or.inl ⟨j, hlt, t, HX.out.1, by rw [hrE.out, ← HER.out.1]; exact HER.out.2, by rw [hrE.out, ← HER.out.1]⟩⟩
        rw [hb]
        exact (B4.out.setCell (p := ⟨b, 0, none⟩) (Nat.le_refl _) _).alloc (by rw [World.size_setCell]; omega) _
      · have d1 := R1.out.cell 0
        have f1 := R1.out.frozen 0
        simp only [List.getElem?_cons_zero] at d1
        have HO : Hid (TBL w4 (.slice xa xn xc) (insL t (plc t r) r)) := Lib.hid hO.tbl
        have HTN2 : Hid (tabN L (j + 1) = some (insL t (plc t r) r)) := Lib.hid (by rw [HTN.out, if_pos he1])
        have HLN : Hid ((insL t (plc t r) r).length = j + 1 ∧ ∀ x ∈ insL t (plc t r) r, x.light) := Lib.hid ⟨by rw [insL_len _ _ _ HST.out.1, HX.out.2.1], fun x hx => by
          unfold insL at hx
          rcases List.mem_append.1 hx with hx | hx
          · exact HX.out.2.2 x (List.mem_of_mem_take hx)
          · rcases List.mem_cons.1 hx with rfl | hx
            · exact hrl
            · exact HX.out.2.2 x (List.mem_of_mem_drop hx)⟩
        have HB1 : Hid (∀ g, (∃ (a : Nat) (n : Nat) (c : Nat), Value.slice xa xn xc = .slice (some ⟨g, 0, none⟩) n c ∧ a = g) → w3.heap.size ≤ g) := Lib.hid (by rintro g ⟨a, n, c, h, _⟩; exact (hO.lt g (by rw [h]; rfl)).1)
        clear hO he1
        go_wp2_with fail
        go_roundw
        case rel =>
          refine ⟨j + 1, _, .slice xa xn xc, by omega, by go_num, Lib.hid ⟨HTN2.out, HLN.out⟩, Lib.hid ⟨(R0.out.far (p := ⟨b + 1, 0, none⟩) (by show b ≠ b + 1; omega) _).alloc _, (R1.out.set 0 _).alloc _, ?_, (B4.out.setCell (p := ⟨b + 1, 0, none⟩) (by show b ≤ b + 1; omega) _).alloc (by rw [World.size_setCell]; omega) _⟩⟩
          have hTs : TBL (w4.setCell ⟨b + 1, 0, none⟩ (.slice xa xn xc)) (.slice xa xn xc) (insL t (plc t r) r) := by
            refine ⟨HO.out.1, ?_⟩
            rcases HO.out.2 with h0 | ⟨g, cap', cur, h1, h2, h3, h4⟩
            · exact Or.inl h0
            · refine Or.inr ⟨g, cap', cur, h1, h2, (Below.heap_setCell _ ⟨b + 1, 0, none⟩ _ g ?_).trans h3, h4⟩
              injection h1 with h1a h1b h1c
              have := HB1.out g ⟨_, _, _, (by rw [h1a]), rfl⟩
              show g ≠ b + 1
              omega
          exact hTs.below ((Below.refl _ _).alloc (Nat.le_refl _) _)
        case measure => simp [intOf]; omega
    · have hltI : ¬ (j : Int) < (L.length : Int) := by omega
      have hjL : j = L.length := by omega
      have d0 := HW.out.1.cell 0
      have f0 := HW.out.1.frozen 0
      have d1 := HW.out.2.1.cell 0
      simp only [List.getElem?_cons_zero] at d0 d1
      obtain ⟨sa, sn, sc, rfl⟩ : ∃ a n c, st = Value.slice a n c := (by obtain ⟨a, c, h⟩ := HW.out.2.2.1.slice; exact ⟨a, _, c, h⟩)
      subst hjL
      go_wp2_with fail
      have r0 := HW.out.1.set 0 (.slice sa sn sc)
      refine bodyPost_ret (results_tt rfl _ _ b (.slice sa sn sc) (.int .i64 0) rfl rfl r0) rfl ?_
      refine ⟨by rw [hb]; exact HW.out.2.2.2.setCell (p := ⟨b, 0, none⟩) (Nat.le_refl _) _, Or.inr ⟨t, _, HX.out.1, rfl, ?_⟩⟩
      refine ⟨HW.out.2.2.1.1, ?_⟩
      rcases HW.out.2.2.1.2 with h0 | ⟨g, cap', cur, h1, h2, h3, h4⟩
      · exact Or.inl h0
      · refine Or.inr ⟨g, cap', cur, h1, h2, (Below.heap_setCell _ ⟨b, 0, none⟩ _ g ?_).trans h3, h4⟩
        show g ≠ b
        intro e
        have hr := HW.out.1
        unfold Row at hr
        rw [e, hr] at h3
        injection h3 with h3
        injection h3 with h3a h3b h3c
        exact absurd h3b (by decide)
end Go.Proofs.YtldjnegoefdadaaGreatDoor
