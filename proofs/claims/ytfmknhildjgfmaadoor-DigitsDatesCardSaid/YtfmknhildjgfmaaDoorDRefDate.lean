/- The contract of the document's Date. -/
import Derived.Test.YtfmknhildjgfmaaDoorDRef
import Derived.Deep.AppendLies
namespace Go.Proofs.YtfmknhildjgfmaaDoor
open Go.RowKit
set_option linter.unusedVariables false

/-- Where the r-th number begins; how long it is. -/
def offN : Nat → Nat
  | 0 => 0
  | r + 1 => 2 * r + 4
def lenN (r : Nat) : Nat := if r = 0 then 4 else 2
theorem off_len (r : Nat) : offN r + lenN r = offN (r + 1) := by
  cases r with
  | zero => rfl
  | succ r => show 2 * r + 4 + (if r + 1 = 0 then 4 else 2) = 2 * (r + 1) + 4; rw [if_neg (by omega)]; omega
theorem lens_get {r : Nat} (h : r < 6) : ([4, 2, 2, 2, 2, 2] : List Int)[r]? = some ((lenN r : Nat) : Int) := by
  rcases (by omega : r = 0 ∨ r = 1 ∨ r = 2 ∨ r = 3 ∨ r = 4 ∨ r = 5) with rfl | rfl | rfl | rfl | rfl | rfl <;> rfl
theorem off_le {r : Nat} (h : r ≤ 6) : offN r ≤ 14 := by cases r with
  | zero => decide
  | succ r => show 2 * r + 4 ≤ 14; omega
/-- The first r numbers. -/
def nums (s : ByteArray) (r : Nat) : List Nat := (List.range r).map fun k => fl s (offN k) (offN (k + 1))
theorem nums_succ (s : ByteArray) (r : Nat) : nums s (r + 1) = nums s r ++ [fl s (offN r) (offN (r + 1))] := by simp [nums, List.range_succ]
theorem nums_len (s : ByteArray) (r : Nat) : (nums s r).length = r := by simp [nums]

theorem fl_self (s : ByteArray) (a : Nat) : fl s a a = 0 := by
  unfold fl
  rw [ByteArray.data_extract, Array.toList_extract, List.extract_eq_take_drop, Nat.sub_self, List.take_zero]
  rfl
theorem fl_step {s : ByteArray} {a j : Nat} (h : a ≤ j) (hj : j < s.size) : fl s a (j + 1) = fl s a j * 10 + dv (s.data.toList.getD j 0) := by
  have hl : s.data.toList.length = s.size := by simp
  unfold fl val
  rw [ByteArray.data_extract, Array.toList_extract, List.extract_eq_take_drop, ByteArray.data_extract, Array.toList_extract, List.extract_eq_take_drop]
  have e : (s.data.toList.drop a).take (j + 1 - a) = (s.data.toList.drop a).take (j - a) ++ [s.data.toList.getD j 0] := by
    rw [show j + 1 - a = (j - a) + 1 by omega, List.take_add_one, List.getElem?_drop, show a + (j - a) = j by omega, List.getElem?_eq_getElem (by omega), List.getD_eq_getElem?_getD, List.getElem?_eq_getElem (by omega)]
    rfl
  rw [e, valF_snoc]
theorem fl_small {s : ByteArray} (hd : isD s = true) {a b : Nat} (h1 : a ≤ b) (h2 : b ≤ s.size) (h4 : b - a ≤ 4) : fl s a b ≤ 9999 := by
  rcases (by omega : a = b ∨ a < b) with rfl | h
  · rw [fl_self]; omega
  · exact fl_le hd h h2 h4

theorem int_info : (Tryd.prog.info? 3).map (fun i => (i.zero, i.size, i.bytes)) = some (some (.int .i64 0), 1, 8) := by kernel_rfl
def iv (n : Nat) : Value := .int .i64 (n : Int)
theorem below_grown {w w' : World} (h : Below w.heap.size w w') : w.grownBy w' none := ⟨h.os, h.tape, h.output, h.size, fun k hk _ => h.block k hk⟩

theorem date_step {w wr w3 : World} {v : Value} {r : Nat} {L R : List Value} {o : Obj} (H : wr.ownsRow (w.heap.size + 1) 3 1 v r L ∧ Row wr w.heap.size 3 R) (hB : Below w.heap.size w wr) (hg : (wr.alloc o).grownBy w3 v.ownBlock) :
    Row w3 w.heap.size 3 R ∧ Below w.heap.size w w3 := by
  have hz := H.2.lt
  refine ⟨?_, (hB.alloc hB.size o).grown hg (by simp; omega) (fun k e => by have := (H.1.lt k e).1; omega)⟩
  obtain ⟨_, _, _, _, h5⟩ := hg
  have h := h5 w.heap.size (by simp; omega) (fun e => by
    first
      | (have := (H.1.lt _ e).1; omega)
      | (have := (H.1.lt _ e.symm).1; omega))
  exact h.trans (H.2.alloc o)

theorem own6 {wr : World} {B : Nat} {v : Value} {xs : List Value} (h : wr.ownsRow B 3 1 v 6 xs) : ∃ g cap, v = .slice (some ⟨g, 0, none⟩) 6 cap ∧ g < wr.heap.size ∧ ∀ i, i < 6 → wr.cell? ⟨g, i, none⟩ = xs[i]? := by
  have h' := h
  rcases h.2 with ⟨_, e⟩ | ⟨g, cap, cur, rfl, _⟩
  · exact absurd e (by omega)
  · exact ⟨g, cap, rfl, (h'.lt g rfl).2, fun i hi => h'.cellAt (g := g) i (by have := h'.1; omega)⟩

set_option maxRecDepth 100000 in
set_option maxHeartbeats 2000000 in
theorem refDate_is (s : ByteArray) (w : World) (h14 : s.size = 14) (hd : isD s = true) :
    Calls Tryd.prog 13 #[.string s] w fun e w' => e = .returned (.int .i64 (dateN s)) ∧ Below w.heap.size w w' := by
  have HI := Lib.hid hd
  have h14i : (s.size : Int) = 14 := by omega
  obtain ⟨i0, hi, hz0, hz1, hz2⟩ := info_parts int_info
  obtain ⟨R, hR⟩ : ∃ R, dateN s = R := ⟨_, rfl⟩
  rw [hR]
  have HR := Lib.hid hR
  clear hR
  go_enter Tryd.func13, Tryd.ntmps13
  go_wp2_with (go_at_call 11; refine (refIs_any _ _ (by omega)).mono ?_; rintro e w' ⟨rfl, rfl⟩; rw [HI.out])
  go_loopw [3, 4, 19] (fun l at' i wr => ∃ r : Nat, r ≤ 6 ∧ i = .int .i64 r ∧ at' = .int .i64 (offN r : Nat) ∧ Hid (wr.ownsRow (w.heap.size + 1) 3 1 l r ((nums s r).map iv) ∧ Row wr w.heap.size 3 [.int .i64 4, .int .i64 2, .int .i64 2, .int .i64 2, .int .i64 2, .int .i64 2]) ∧ Below w.heap.size w wr) (fun _ _ i _ => 6 - (intOf i).toNat)
  case atStart => exact ⟨0, by omega, rfl, rfl, Lib.hid ⟨World.ownsRow_nil _ _ _ _, Row.new w 3 _⟩, (Below.refl _ _).alloc (Nat.le_refl _) _⟩
  case round =>
    obtain ⟨r, hr, rfl, rfl, HS, hB⟩ := hrel
    by_cases hlt : r < 6
    · have hcell : wr.cell? ⟨w.heap.size, r, none⟩ = some (.int .i64 (lenN r : Nat)) := by
        have h1 := HS.out.2.cell r
        have h2 := lens_get hlt
        rcases (by omega : r = 0 ∨ r = 1 ∨ r = 2 ∨ r = 3 ∨ r = 4 ∨ r = 5) with rfl | rfl | rfl | rfl | rfl | rfl <;> exact h1
      have ho := off_len r
      have ho2 := off_le (r := r + 1) (by omega)
      have hN : lenN r ≤ 4 := by unfold lenN; split <;> omega
      obtain ⟨F, hF⟩ : ∃ F, fl s (offN r) (offN (r + 1)) = F := ⟨_, rfl⟩
      have HN := Lib.hid (nums_succ s r)
      have hsz := hB.size
      have hwz : w.heap.size < wr.heap.size := HS.out.2.lt
      generalize hA : offN r = A at *
      generalize hL : lenN r = N at *
      generalize hE : offN (r + 1) = E at *
      have HH := Lib.hid (And.intro hA (And.intro hL hE))
      have HF := Lib.hid hF
      clear hA hL hE hF
      go_wp2_with fail
      go_loop [7, 8] (fun v i => ∃ j V : Nat, A ≤ j ∧ j ≤ E ∧ i = .int .i64 j ∧ v = .int .i64 V ∧ V ≤ 9999 ∧ Hid (V = fl s A j)) (fun _ i => E - (intOf i).toNat)
      case atStart => exact ⟨A, 0, Nat.le_refl _, by omega, rfl, rfl, by omega, Lib.hid (fl_self s A).symm⟩
      case round =>
        obtain ⟨j, V, hj0, hj1, rfl, rfl, hV, HV⟩ := hrel
        by_cases hjE : j < E
        · have hix := run_index_str (P := Tryd.prog) 9 s j Tryd.underlying9 (by omega)
          have hdg : isDig (s.data.toList.getD j 0) = true := by
            rw [get_d (by omega)]
            exact ((isD_iff s).1 HI.out).2 _ (by show s.data.toList[j]'(by simp; omega) ∈ _; exact List.getElem_mem _)
          have hst := fl_step (s := s) hj0 (by omega)
          have hsm := fl_small HI.out (a := A) (b := j + 1) (by omega) (by omega) (by omega)
          generalize hcc : s.data.toList.getD j 0 = c at hix hst hdg
          have hc := (isDig_iff _).1 hdg
          have h48 : (48 : Int) ≤ (c.toNat : Int) := by omega
          have h57 : (c.toNat : Int) ≤ 57 := by omega
          have hdv : ((dv c : Nat) : Int) = (c.toNat : Int) - 48 := by unfold dv; omega
          have hnx : Hid (V * 10 + dv c = fl s A (j + 1)) := Lib.hid (by rw [hst, HV.out])
          have hsm2 : V * 10 + dv c ≤ 9999 := by rw [hnx.out]; exact hsm
          clear hst hsm hdg hcc hc
          go_wp2_with fail
          go_round
          case rel => exact ⟨j + 1, V * 10 + dv c, by omega, by omega, by go_num, by go_num, hsm2, hnx⟩
          case measure => simp [intOf]; omega
        · obtain rfl : j = E := by omega
          have hVF : Hid (V = F) := Lib.hid (by rw [HV.out, HF.out])
          go_wp2_with (at_builtin; refine wpList_append_lies _ rfl (.tmp 39) (.tmp 41) 36 rfl (w.heap.size + 1) 3 i0 (.int .i64 0) 1 8 Tryd.underlying36 hi hz0 hz1 hz2 rfl (by decide) _ _ _ rfl (HS.out.1.alloc _) ⟨wr.heap.size, 0, none⟩ 1 1 [.int .i64 (V : Nat)] rfl rfl (World.news_of_block (cs := #[.int .i64 (V : Nat)]) (t := 3) (fr := (0, 0)) (heap_alloc_new wr _)) (by simp [Value.oneCell']) (by omega) (by unfold maxLen; omega) (by omega) (by simp; omega) (wr.heap.size + 1) (by simp) ?_; intro g1 cap1 w3 hown1 hg1 hat1 hlt1)
          go_roundw
          case rel =>
            have hd := date_step HS.out hB hg1
            have hh := HH.out.2.2
            have e : (nums s (r + 1)).map iv = (nums s r).map iv ++ [.int .i64 (V : Nat)] := by rw [HN.out, List.map_append, HF.out, hVF.out]; rfl
            exact ⟨r + 1, by omega, by go_num, congrArg (Value.int .i64) (by omega), Lib.hid ⟨by rw [e]; exact hown1, hd.1⟩, hd.2⟩
          case measure => simp [intOf]; omega
    · obtain rfl : r = 6 := by omega
      obtain ⟨g, cap, rfl, hg, hcs⟩ := own6 HS.out.1
      have k1 := fl_le hd (a := 0) (b := 4) (by omega) (by omega) (by omega)
      have k2 := fl_le hd (a := 4) (b := 6) (by omega) (by omega) (by omega)
      have k3 := fl_le hd (a := 6) (b := 8) (by omega) (by omega) (by omega)
      have k4 := fl_le hd (a := 8) (b := 10) (by omega) (by omega) (by omega)
      have k5 := fl_le hd (a := 10) (b := 12) (by omega) (by omega) (by omega)
      have k6 := fl_le hd (a := 12) (b := 14) (by omega) (by omega) (by omega)
      have e : R = if dateBad (fl s 0 4) (fl s 4 6) (fl s 6 8) (fl s 8 10) (fl s 10 12) (fl s 12 14) then 7 else 0 := by rw [← HR.out]; unfold dateN; rw [if_pos ⟨h14, hd⟩]
      have l0 : ∀ W, Below wr.heap.size wr W → W.cell? ⟨g, 0, none⟩ = some (.int .i64 (fl s 0 4 : Nat)) := fun W h => (h.cell hg).trans (hcs 0 (by omega))
      have l1 : ∀ W, Below wr.heap.size wr W → W.cell? ⟨g, 1, none⟩ = some (.int .i64 (fl s 4 6 : Nat)) := fun W h => (h.cell hg).trans (hcs 1 (by omega))
      have l2 : ∀ W, Below wr.heap.size wr W → W.cell? ⟨g, 2, none⟩ = some (.int .i64 (fl s 6 8 : Nat)) := fun W h => (h.cell hg).trans (hcs 2 (by omega))
      have l3 : ∀ W, Below wr.heap.size wr W → W.cell? ⟨g, 3, none⟩ = some (.int .i64 (fl s 8 10 : Nat)) := fun W h => (h.cell hg).trans (hcs 3 (by omega))
      have l4 : ∀ W, Below wr.heap.size wr W → W.cell? ⟨g, 4, none⟩ = some (.int .i64 (fl s 10 12 : Nat)) := fun W h => (h.cell hg).trans (hcs 4 (by omega))
      have l5 : ∀ W, Below wr.heap.size wr W → W.cell? ⟨g, 5, none⟩ = some (.int .i64 (fl s 12 14 : Nat)) := fun W h => (h.cell hg).trans (hcs 5 (by omega))
      clear hcs
      generalize fl s 0 4 = y at *
      generalize fl s 4 6 = m at *
      generalize fl s 6 8 = d at *
      generalize fl s 8 10 = h at *
      generalize fl s 10 12 = mi at *
      generalize fl s 12 14 = se at *
      obtain ⟨D, hD⟩ : ∃ D, daysN y m = D := ⟨_, rfl⟩
      have HD := Lib.hid hD
      have hres : (if dateBad y m d h mi se then (7 : Int) else 0) = if d < 1 then 7 else if D < d then 7 else if 23 < h then 7 else if 59 < mi then 7 else if 59 < se then 7 else 0 := by
        by_cases hb : dateBad y m d h mi se
        · rw [if_pos hb]
          unfold dateBad at hb
          rw [hD] at hb
          repeat' split
          all_goals omega
        · rw [if_neg hb]
          unfold dateBad at hb
          rw [hD] at hb
          repeat' split
          all_goals omega
      have HE := Lib.hid (e.trans hres)
      clear hres hD e
      have CD : Hid (∀ W : World, Calls Tryd.prog 15 #[.int .i64 (y : Nat), .int .i64 (m : Nat)] W fun e w' => e = .returned (.int .i64 D) ∧ Below W.heap.size W w') := Lib.hid fun W => by
        have hx := refDays_any (y : Nat) (m : Nat) W (by omega) (by omega)
        rw [HD.out] at hx
        exact hx
      go_wp2_with fail
      by_cases q1 : d < 1
      · have i1 : (d : Int) < 1 := by omega
        have HR7 : Hid (R = 7) := Lib.hid (by rw [HE.out, if_pos q1])
        refine region_quiet_lit (Below wr.heap.size wr) (by kernel_rfl) (by kernel_rfl) (below_drewN (Below.refl _ _) 1) ?_
        repeat (go_big_quiet_step ((first
          | (intro hC; with_reducible rfl)
          | (intro hC; rw [l0 _ hC]; exact ⟨rfl, rfl⟩)
          | (intro hC; rw [l1 _ hC]; exact ⟨rfl, rfl⟩)
          | (intro hC; rw [l2 _ hC]; exact ⟨rfl, rfl⟩)
          | (intro hC; rw [l3 _ hC]; exact ⟨rfl, rfl⟩)
          | (intro hC; rw [l4 _ hC]; exact ⟨rfl, rfl⟩)
          | (intro hC; rw [l5 _ hC]; exact ⟨rfl, rfl⟩)
          | (intro hC; go_at_call 15; refine (CD.out _).mono ?_; rintro e w'' ⟨rfl, hb⟩; exact ⟨rfl, hC.trans (hb.mono hC.size)⟩))))
        refine wpQuiet_nil ?_
        intro wd hwd
        go_wp2_with fail
        go_ret
        exact ⟨ret_int HR7.out.symm, hB.trans (hwd.mono hB.size)⟩
      · have j1 : ¬ (d : Int) < 1 := by omega
        by_cases q2 : D < (d : Int)
        · have i2 : D < (d : Int) := by omega
          have HR7 : Hid (R = 7) := Lib.hid (by rw [HE.out, if_neg q1, if_pos q2])
          refine region_quiet_lit (Below wr.heap.size wr) (by kernel_rfl) (by kernel_rfl) (below_drewN (Below.refl _ _) 1) ?_
          repeat (go_big_quiet_step ((first
            | (intro hC; with_reducible rfl)
            | (intro hC; rw [l0 _ hC]; exact ⟨rfl, rfl⟩)
            | (intro hC; rw [l1 _ hC]; exact ⟨rfl, rfl⟩)
            | (intro hC; rw [l2 _ hC]; exact ⟨rfl, rfl⟩)
            | (intro hC; rw [l3 _ hC]; exact ⟨rfl, rfl⟩)
            | (intro hC; rw [l4 _ hC]; exact ⟨rfl, rfl⟩)
            | (intro hC; rw [l5 _ hC]; exact ⟨rfl, rfl⟩)
            | (intro hC; go_at_call 15; refine (CD.out _).mono ?_; rintro e w'' ⟨rfl, hb⟩; exact ⟨rfl, hC.trans (hb.mono hC.size)⟩))))
          refine wpQuiet_nil ?_
          intro wd hwd
          go_wp2_with fail
          go_ret
          exact ⟨ret_int HR7.out.symm, hB.trans (hwd.mono hB.size)⟩
        · have j2 : ¬ D < (d : Int) := by omega
          by_cases q3 : 23 < h
          · have i3 : (23 : Int) < (h : Int) := by omega
            have HR7 : Hid (R = 7) := Lib.hid (by rw [HE.out, if_neg q1, if_neg q2, if_pos q3])
            refine region_quiet_lit (Below wr.heap.size wr) (by kernel_rfl) (by kernel_rfl) (below_drewN (Below.refl _ _) 1) ?_
            repeat (go_big_quiet_step ((first
              | (intro hC; with_reducible rfl)
              | (intro hC; rw [l0 _ hC]; exact ⟨rfl, rfl⟩)
              | (intro hC; rw [l1 _ hC]; exact ⟨rfl, rfl⟩)
              | (intro hC; rw [l2 _ hC]; exact ⟨rfl, rfl⟩)
              | (intro hC; rw [l3 _ hC]; exact ⟨rfl, rfl⟩)
              | (intro hC; rw [l4 _ hC]; exact ⟨rfl, rfl⟩)
              | (intro hC; rw [l5 _ hC]; exact ⟨rfl, rfl⟩)
              | (intro hC; go_at_call 15; refine (CD.out _).mono ?_; rintro e w'' ⟨rfl, hb⟩; exact ⟨rfl, hC.trans (hb.mono hC.size)⟩))))
            refine wpQuiet_nil ?_
            intro wd hwd
            go_wp2_with fail
            go_ret
            exact ⟨ret_int HR7.out.symm, hB.trans (hwd.mono hB.size)⟩
          · have j3 : ¬ (23 : Int) < (h : Int) := by omega
            by_cases q4 : 59 < mi
            · have i4 : (59 : Int) < (mi : Int) := by omega
              have HR7 : Hid (R = 7) := Lib.hid (by rw [HE.out, if_neg q1, if_neg q2, if_neg q3, if_pos q4])
              refine region_quiet_lit (Below wr.heap.size wr) (by kernel_rfl) (by kernel_rfl) (below_drewN (Below.refl _ _) 1) ?_
              repeat (go_big_quiet_step ((first
                | (intro hC; with_reducible rfl)
                | (intro hC; rw [l0 _ hC]; exact ⟨rfl, rfl⟩)
                | (intro hC; rw [l1 _ hC]; exact ⟨rfl, rfl⟩)
                | (intro hC; rw [l2 _ hC]; exact ⟨rfl, rfl⟩)
                | (intro hC; rw [l3 _ hC]; exact ⟨rfl, rfl⟩)
                | (intro hC; rw [l4 _ hC]; exact ⟨rfl, rfl⟩)
                | (intro hC; rw [l5 _ hC]; exact ⟨rfl, rfl⟩)
                | (intro hC; go_at_call 15; refine (CD.out _).mono ?_; rintro e w'' ⟨rfl, hb⟩; exact ⟨rfl, hC.trans (hb.mono hC.size)⟩))))
              refine wpQuiet_nil ?_
              intro wd hwd
              go_wp2_with fail
              go_ret
              exact ⟨ret_int HR7.out.symm, hB.trans (hwd.mono hB.size)⟩
            · have j4 : ¬ (59 : Int) < (mi : Int) := by omega
              by_cases q5 : 59 < se
              · have i5 : (59 : Int) < (se : Int) := by omega
                have HR7 : Hid (R = 7) := Lib.hid (by rw [HE.out, if_neg q1, if_neg q2, if_neg q3, if_neg q4, if_pos q5])
                refine region_quiet_lit (Below wr.heap.size wr) (by kernel_rfl) (by kernel_rfl) (below_drewN (Below.refl _ _) 1) ?_
                repeat (go_big_quiet_step ((first
                  | (intro hC; with_reducible rfl)
                  | (intro hC; rw [l0 _ hC]; exact ⟨rfl, rfl⟩)
                  | (intro hC; rw [l1 _ hC]; exact ⟨rfl, rfl⟩)
                  | (intro hC; rw [l2 _ hC]; exact ⟨rfl, rfl⟩)
                  | (intro hC; rw [l3 _ hC]; exact ⟨rfl, rfl⟩)
                  | (intro hC; rw [l4 _ hC]; exact ⟨rfl, rfl⟩)
                  | (intro hC; rw [l5 _ hC]; exact ⟨rfl, rfl⟩)
                  | (intro hC; go_at_call 15; refine (CD.out _).mono ?_; rintro e w'' ⟨rfl, hb⟩; exact ⟨rfl, hC.trans (hb.mono hC.size)⟩))))
                refine wpQuiet_nil ?_
                intro wd hwd
                go_wp2_with fail
                go_ret
                exact ⟨ret_int HR7.out.symm, hB.trans (hwd.mono hB.size)⟩
              · have j5 : ¬ (59 : Int) < (se : Int) := by omega
                have HR7 : Hid (R = 0) := Lib.hid (by rw [HE.out, if_neg q1, if_neg q2, if_neg q3, if_neg q4, if_neg q5])
                refine region_quiet_lit (Below wr.heap.size wr) (by kernel_rfl) (by kernel_rfl) (below_drewN (Below.refl _ _) 1) ?_
                repeat (go_big_quiet_step ((first
                  | (intro hC; with_reducible rfl)
                  | (intro hC; rw [l0 _ hC]; exact ⟨rfl, rfl⟩)
                  | (intro hC; rw [l1 _ hC]; exact ⟨rfl, rfl⟩)
                  | (intro hC; rw [l2 _ hC]; exact ⟨rfl, rfl⟩)
                  | (intro hC; rw [l3 _ hC]; exact ⟨rfl, rfl⟩)
                  | (intro hC; rw [l4 _ hC]; exact ⟨rfl, rfl⟩)
                  | (intro hC; rw [l5 _ hC]; exact ⟨rfl, rfl⟩)
                  | (intro hC; go_at_call 15; refine (CD.out _).mono ?_; rintro e w'' ⟨rfl, hb⟩; exact ⟨rfl, hC.trans (hb.mono hC.size)⟩))))
                refine wpQuiet_nil ?_
                intro wd hwd
                go_wp2_with fail
                go_ret
                exact ⟨ret_int HR7.out.symm, hB.trans (hwd.mono hB.size)⟩

set_option maxHeartbeats 400000 in
theorem refDate_not (s : ByteArray) (w : World) (hs : s.size ≤ 1000) (h : ¬ (s.size = 14 ∧ isD s = true)) :
    Calls Tryd.prog 13 #[.string s] w fun e w' => e = .returned (.int .i64 (dateN s)) ∧ w = w' := by
  rw [dateN_not h]
  by_cases h14 : s.size = 14
  · have hd : isD s = false := by cases hb : isD s with
      | false => rfl
      | true => exact absurd ⟨h14, hb⟩ h
    have h14i : (s.size : Int) = 14 := by omega
    clear h
    go_enter Tryd.func13, Tryd.ntmps13
    go_wp2_with (go_at_call 11; refine (refIs_any _ _ (by omega)).mono ?_; rintro e w' ⟨rfl, rfl⟩; rw [hd])
    go_ret
    exact ⟨rfl, rfl⟩
  · have hb : ((s.size : Int) == 14) = false := by simp; omega
    have hb2 : ((s.size : Int) != 14) = true := by simp; omega
    clear h h14
    go_enter Tryd.func13, Tryd.ntmps13
    go_wp2
    go_ret
    exact ⟨rfl, rfl⟩

theorem refDate_any (s : ByteArray) (w : World) (hs : s.size ≤ 1000) :
    Calls Tryd.prog 13 #[.string s] w fun e w' => e = .returned (.int .i64 (dateN s)) ∧ Below w.heap.size w w' := by
  by_cases h : s.size = 14 ∧ isD s = true
  · exact refDate_is s w h.1 h.2
  · exact (refDate_not s w hs h).mono fun e w' hh => ⟨hh.1, hh.2 ▸ Below.refl _ _⟩
end Go.Proofs.YtfmknhildjgfmaaDoor
