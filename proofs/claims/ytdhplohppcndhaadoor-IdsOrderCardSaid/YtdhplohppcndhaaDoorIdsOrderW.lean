/- The walk of IdsOrder. -/
import Derived.Test.YtdhplohppcndhaaDoorIAwk
import Derived.Test.YtdhplohppcndhaaDoorQuietL
namespace Go.Proofs.YtdhplohppcndhaaDoor
open Go.RowKit
set_option linter.unusedVariables false

theorem bytesLess_lt : ∀ a b : List UInt8, Op.bytesLess a b = decide (a < b)
  | [], [] => by simp [Op.bytesLess]
  | [], _ :: _ => by simp [Op.bytesLess]
  | _ :: _, [] => by simp [Op.bytesLess]
  | x :: a, y :: b => by
    have ih := bytesLess_lt a b
    rw [Op.bytesLess, ih, Bool.eq_iff_iff, decide_eq_true_iff, List.cons_lt_cons_iff]
    simp

set_option maxRecDepth 100000 in
set_option maxHeartbeats 4000000 in
theorem IdsOrder_walk (l m : List UInt8) (hl : l.length = 16) (hm : m.length = 16) (w : World) (hG : G w) :
    Calls Tryd.prog 7 #[.agg (l.map bv).toArray, .agg (m.map bv).toArray] w fun e w' => e = .returned (.bool true) ∧ Below w.heap.size w w' := by
  have hr0 := (Row.new w 54 (l.map bv)).alloc (.cells (m.map bv).toArray 54)
  have hr1 := Row.new (w.alloc (.cells (l.map bv).toArray 54)) 54 (m.map bv)
  rw [World.size_alloc] at hr1
  have hb0 : Below w.heap.size w ((w.alloc (.cells (l.map bv).toArray 54)).alloc (.cells (m.map bv).toArray 54)) := ((Below.refl _ _).alloc (Nat.le_refl _) _).alloc (by simp) _
  have H0 := Lib.hid (And.intro hr0 (And.intro hr1 hb0))
  obtain ⟨C, hC⟩ : ∃ C, l.map bv = C := ⟨_, rfl⟩
  obtain ⟨D, hD⟩ : ∃ D, m.map bv = D := ⟨_, rfl⟩
  rw [hC, hD] at H0 ⊢
  clear hr0 hr1 hb0
  have HG := Lib.hid hG
  clear hG
  go_enter Tryd.func7, Tryd.ntmps7
  go_wp2_with fail
  obtain ⟨hr0, hr1, hb0⟩ := H0.out
  generalize (w.alloc (.cells C.toArray 54)).alloc (.cells D.toArray 54) = w1 at hr0 hr1 hb0 ⊢
  refine (awake10_any _ (HG.out.below hb0)).mono ?_
  rintro e w2 ⟨rfl, hb2⟩
  have hB2 := hb0.trans (hb2.mono hb0.size)
  have q0 := hr0.below hb2 hr0.lt
  have q1 := hr1.below hb2 hr1.lt
  clear hr0 hr1 hb0 hb2 H0
  obtain ⟨ta, hta⟩ : ∃ t : ByteArray, (⟨(idL l).toArray⟩ : ByteArray) = t := ⟨_, rfl⟩
  obtain ⟨tb, htb⟩ : ∃ t : ByteArray, (⟨(idL m).toArray⟩ : ByteArray) = t := ⟨_, rfl⟩
  have HT : Hid (∀ W : World, Calls Tryd.prog 28 #[.agg C.toArray] W fun e w' => e = .returned (.string ta) ∧ Below W.heap.size W w') := Lib.hid fun W => by
    rw [← hC, ← hta]; exact idText_any l hl W
  have HU : Hid (∀ W : World, Calls Tryd.prog 28 #[.agg D.toArray] W fun e w' => e = .returned (.string tb) ∧ Below W.heap.size W w') := Lib.hid fun W => by
    rw [← hD, ← htb]; exact idText_any m hm W
  have hCl : C.length = 16 := by rw [← hC, List.length_map, hl]
  have hDl : D.length = 16 := by rw [← hD, List.length_map, hm]
  have hiU : (Tryd.prog.info? 54).map (·.size) = some 16 := by kernel_rfl
  have hiC : (Tryd.prog.info? 54).map (·.size) = some C.length := by rw [hCl]; exact hiU
  have hiD : (Tryd.prog.info? 54).map (·.size) = some D.length := by rw [hDl]; exact hiU
  have HL0 : Hid (∀ W, Below w2.heap.size w2 W → Row W w.heap.size 54 C) := Lib.hid fun W h => q0.below h q0.lt
  have HL1 : Hid (∀ W, Below w2.heap.size w2 W → Row W (w.heap.size + 1) 54 D) := Lib.hid fun W h => q1.below h q1.lt
  have hu := Tryd.underlying54
  have HI := Lib.hid (And.intro hiC (And.intro hiD hu))
  have HF := Lib.hid (And.intro hC (And.intro hD (And.intro hta htb)))
  clear hCl hDl hiU hiC hiD hu hta htb q0 q1 hC hD
  go_wp2_with fail
  refine region_quiet_lit (Below w2.heap.size w2) (by kernel_rfl) (by kernel_rfl) (below_drewN (Below.refl _ _) 1) ?_
  repeat (first
    | (go_big_quiet_want; (first
        | refine quiet_load_row 54 (.tmp 2) (by rfl) w.heap.size (by rfl) 54 C _ HL0.out HI.out.2.2 rfl HI.out.1 ?_
        | refine quiet_load_row 54 (.tmp 3) (by rfl) (w.heap.size + 1) (by rfl) 54 D _ HL1.out HI.out.2.2 rfl HI.out.2.1 ?_); go_big_quiet_on; simp only [Act.put, List.setIfInBounds_toArray, List.set_cons_zero, List.set_cons_succ])
    | go_big_quiet_step ((first
      | (intro hC; with_reducible rfl)
      | (intro hC; go_at_call_of 28 (Value.agg C.toArray); refine (HT.out _).mono ?_; rintro e w'' ⟨rfl, hb⟩; exact ⟨rfl, hC.trans (hb.mono hC.size)⟩)
      | (intro hC; go_at_call_of 28 (Value.agg D.toArray); refine (HU.out _).mono ?_; rintro e w'' ⟨rfl, hb⟩; exact ⟨rfl, hC.trans (hb.mono hC.size)⟩))))
  refine wpQuiet_nil ?_
  intro w3 hw3
  have hB3 := hB2.trans (hw3.mono hB2.size)
  have HM0 : Hid (∀ W, Below w3.heap.size w3 W → Row W w.heap.size 54 C) := Lib.hid fun W h => HL0.out W (hw3.trans (h.mono hw3.size))
  have HM1 : Hid (∀ W, Below w3.heap.size w3 W → Row W (w.heap.size + 1) 54 D) := Lib.hid fun W h => HL1.out W (hw3.trans (h.mono hw3.size))
  obtain ⟨c, hc⟩ : ∃ c, Lib.compareBytes l m = c := ⟨_, rfl⟩
  obtain ⟨d, hd⟩ : ∃ d, Lib.compareBytes m l = d := ⟨_, rfl⟩
  have HC : Hid (∀ W : World, Calls Tryd.prog 29 #[.agg C.toArray, .agg D.toArray] W fun e w' => e = .returned (.int .i64 c) ∧ Below W.heap.size W w') := Lib.hid fun W => by
    rw [← hc, ← HF.out.1, ← HF.out.2.1]; exact Cmp_any l m hl hm W
  have HD : Hid (∀ W : World, Calls Tryd.prog 29 #[.agg D.toArray, .agg C.toArray] W fun e w' => e = .returned (.int .i64 d) ∧ Below W.heap.size W w') := Lib.hid fun W => by
    rw [← hd, ← HF.out.1, ← HF.out.2.1]; exact Cmp_any m l hm hl W
  obtain ⟨r, hr⟩ : ∃ r, decide (l = m) = r := ⟨_, rfl⟩
  have HE : Hid (∀ W : World, (binOp .eql 54 (.agg C.toArray) (.agg D.toArray)).run Tryd.prog W = .ok (.bool r) W) := Lib.hid fun W => by
    obtain ⟨i, hi, _⟩ := info_parts (show (Tryd.prog.info? 5).map (fun i => (i.zero, i.size, i.bytes)) = some (some (.int .u8 0), 1, 1) by kernel_rfl)
    rw [← hr, ← HF.out.1, ← HF.out.2.1]
    exact arr_eql 54 5 16 l m hl hm Tryd.underlying54 Tryd.underlying5 (Tryd.isAgg5) i hi (by kernel_rfl) W
  have hsz : ta.size = 36 := by rw [← HF.out.2.2.1]; show (idL l).toArray.size = 36; rw [List.size_toArray, idL_length l hl]
  have hls : Op.bytesLess ta.toList tb.toList = decide (c < 0) := by
    rw [bytesLess_lt, ← hc]
    refine decide_eq_decide.2 ?_
    rw [Lib.toList_data, Lib.toList_data, ← HF.out.2.2.1, ← HF.out.2.2.2]
    show idL l < idL m ↔ _
    rw [compareBytes_lt, idL_lt hl hm]
  have hes : (ta.toList == tb.toList) = decide (c = 0) := by
    rw [← hc, Bool.eq_iff_iff, beq_iff_eq, decide_eq_true_iff, compareBytes_eq, Lib.toList_data, Lib.toList_data, ← HF.out.2.2.1, ← HF.out.2.2.2]
    exact ⟨fun h => idL_inj hl hm h, fun h => by rw [h]⟩
  have hrc : r = decide (c = 0) := by
    rw [← hr, ← hc]
    exact decide_eq_decide.2 (compareBytes_eq l m).symm
  have hdc : d = -c := by rw [← hd, ← hc]; exact compareBytes_neg m l
  subst hrc
  subst hdc
  have hcb : c = -1 ∨ c = 0 ∨ c = 1 := by have h1 := compareBytes_bound l m; rw [hc] at h1; omega
  clear hw3 HL0 HL1 HT HU hB2 HG hc hd hr HF hl hm
  rcases hcb with rfl | rfl | rfl
  all_goals
    simp only [Int.reduceNeg, Int.reduceLT, Int.reduceEq, Int.neg_neg, Int.neg_zero, decide_true, decide_false] at hls hes HE HD
    go_wp2_with fail
    refine region_quiet_lit (Below w3.heap.size w3) (by kernel_rfl) (by kernel_rfl) (below_drewN (Below.refl _ _) 1) ?_
    repeat (first
      | (go_big_quiet_want; (first
          | refine quiet_load_row 54 (.tmp 2) (by rfl) w.heap.size (by rfl) 54 C _ HM0.out HI.out.2.2 rfl HI.out.1 ?_
          | refine quiet_load_row 54 (.tmp 3) (by rfl) (w.heap.size + 1) (by rfl) 54 D _ HM1.out HI.out.2.2 rfl HI.out.2.1 ?_
          | refine quiet_eql_agg 54 (.tmp 35) (.tmp 36) 54 (by rfl) C.toArray D.toArray (by rfl) (by rfl) (by kernel_rfl) _ HE.out ?_); go_big_quiet_on; simp only [Act.put, List.setIfInBounds_toArray, List.set_cons_zero, List.set_cons_succ])
      | go_big_quiet_step ((first
        | (intro hC; with_reducible rfl)
        | (intro hC; go_at_call_of 29 (Value.agg C.toArray); refine (HC.out _).mono ?_; rintro e w'' ⟨rfl, hb⟩; exact ⟨rfl, hC.trans (hb.mono hC.size)⟩)
        | (intro hC; go_at_call_of 29 (Value.agg D.toArray); refine (HD.out _).mono ?_; rintro e w'' ⟨rfl, hb⟩; exact ⟨rfl, hC.trans (hb.mono hC.size)⟩))))
    refine wpQuiet_nil ?_
    intro w4 hw4
    clear hls hes
    go_wp2
    go_ret
    exact ⟨rfl, hB3.trans (hw4.mono hB3.size)⟩
end Go.Proofs.YtdhplohppcndhaaDoor
