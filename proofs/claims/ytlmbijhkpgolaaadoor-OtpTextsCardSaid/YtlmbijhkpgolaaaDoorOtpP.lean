/- The state of a text. -/
import Derived.Test.YtlmbijhkpgolaaaDoorOtpA
import Derived.Test.YtlmbijhkpgolaaaDoorSlots
import Derived.Test.YtlmbijhkpgolaaaDoorGet
import Derived.IntWalk
namespace Go.Proofs.YtlmbijhkpgolaaaDoor
open Go.RowKit
set_option linter.unusedVariables false
set_option linter.unusedSimpArgs false

set_option maxHeartbeats 400000 in
theorem parse_size (s : ByteArray) (h : s.size ≠ 10) (w : World) :
    Calls Tryd.prog 7 #[.string s] w fun e w' => e = .returned (.tuple #[.agg #[.int .i64 0, .int .u64 0, .int .i64 0], .int .i64 4]) ∧ Below w.heap.size w w' := by
  have hne : ((s.size : Int) != 10) = true := by rw [bne_iff_ne]; omega
  clear h
  go_enter Tryd.func7, Tryd.ntmps7
  go_wp2
  exact bodyPost_ret (v := .tuple #[.agg #[.int .i64 0, .int .u64 0, .int .i64 0], .int .i64 4]) (by simp [results, Tryd.results7, go_sem]) rfl ⟨rfl, (Below.refl _ _).alloc (Nat.le_refl _) _⟩

set_option maxRecDepth 100000 in
set_option maxHeartbeats 1000000 in
theorem parse_bad (s : ByteArray) (h : s.size = 10) (x y : Nat) (hx : ∀ h : 0 < s.size, (s[0]'h).toNat = x) (hy : ∀ h : 1 < s.size, (s[1]'h).toNat = y) (hb : 9 < x ∨ 4 < y) (w : World) :
    Calls Tryd.prog 7 #[.string s] w fun e w' => e = .returned (.tuple #[.agg #[.int .i64 0, .int .u64 0, .int .i64 0], .int .i64 4]) ∧ Below w.heap.size w w' := by
  have hmx : Tryd.prog.follows .mixedOrders = true := by kernel_rfl
  have hne : ((s.size : Int) != 10) = false := by rw [bne_eq_false_iff_eq]; omega
  have HX := Lib.hid hx
  have HY := Lib.hid hy
  have h0 : 0 < s.size := by omega
  have h1 : 1 < s.size := by omega
  have hz : s.size < 11 := by omega
  have HXB : Hid (x < 256) := Lib.hid (by rw [← hx h0]; exact UInt8.toNat_lt _)
  have HYB : Hid (y < 256) := Lib.hid (by rw [← hy h1]; exact UInt8.toNat_lt _)
  clear hx hy h
  go_enter Tryd.func7, Tryd.ntmps7
  go_wp2_with fail
  have HB1 := Lib.hid ((Below.refl w.heap.size w).alloc (Nat.le_refl _) (.cells #[.int .i64 0, .int .u64 0, .int .i64 0] 24))
  have HR1 := Lib.hid (Row.new w 24 [.int .i64 0, .int .u64 0, .int .i64 0])
  generalize w.alloc (.cells #[.int .i64 0, .int .u64 0, .int .i64 0] 24) = w1 at HB1 HR1 ⊢
  refine wp_region_slotsB (m := 8) [] hmx (fun i v _ => v = ([.string s, .int .u8 (x : Nat), .int .i64 (x : Nat), .string s, .int .u8 (y : Nat), .int .i64 (y : Nat), .int .i64 (x : Nat), .int .i64 (y : Nat)] : List Value).getD i undef) (Below w1.heap.size w1) (by kernel_rfl) (by kernel_rfl) (fun i v W W' h _ => h) ((Below.refl _ _).drew) ?_ ?_
  · refine ⟨?_, ?_, ?_, ?_, ?_, ?_, ?_, ?_, trivial⟩
    · intro ρ vals W hC hd ht hk hg hf
      have e0 := ht 0
      rw [evalS_old (by kernel_rfl)] at e0
      clear ht hd
      unfold StepOK
      go_simp
      exact Below.refl _ _
    · intro ρ vals W hC hd ht hk hg hf
      have d0 := hd 0 (by kernel_rfl)
      have e12 := ht 12
      rw [evalS_tmp (i := 0) (by kernel_rfl), d0] at e12
      clear ht hd d0
      have g := HX.out h0
      unfold StepOK
      go_simp
      exact Below.refl _ _
    · intro ρ vals W hC hd ht hk hg hf
      have d1 := hd 1 (by kernel_rfl)
      have e13 := ht 13
      rw [evalS_tmp (i := 1) (by kernel_rfl), d1] at e13
      clear ht hd d1
      have g : IntKind.i64.wrap (x : Int) = (x : Int) := IntWalk.i64_in _ (by have := HXB.out; omega)
      unfold StepOK
      go_simp
      exact Below.refl _ _
    · intro ρ vals W hC hd ht hk hg hf
      have e0 := ht 0
      rw [evalS_old (by kernel_rfl)] at e0
      clear ht hd
      unfold StepOK
      go_simp
      exact Below.refl _ _
    · intro ρ vals W hC hd ht hk hg hf
      have d3 := hd 3 (by kernel_rfl)
      have e15 := ht 15
      rw [evalS_tmp (i := 3) (by kernel_rfl), d3] at e15
      clear ht hd d3
      have g := HY.out h1
      have h1I : (1 : Int) < (s.size : Int) := by omega
      unfold StepOK
      go_simp
      exact Below.refl _ _
    · intro ρ vals W hC hd ht hk hg hf
      have d4 := hd 4 (by kernel_rfl)
      have e16 := ht 16
      rw [evalS_tmp (i := 4) (by kernel_rfl), d4] at e16
      clear ht hd d4
      have g : IntKind.i64.wrap (y : Int) = (y : Int) := IntWalk.i64_in _ (by have := HYB.out; omega)
      unfold StepOK
      go_simp
      exact Below.refl _ _
    · intro ρ vals W hC hd ht hk hg hf
      have d2 := hd 2 (by kernel_rfl)
      have e14 := ht 14
      rw [evalS_tmp (i := 2) (by kernel_rfl), d2] at e14
      clear ht hd d2
      unfold StepOK
      go_simp
      exact Below.refl _ _
    · intro ρ vals W hC hd ht hk hg hf
      have d5 := hd 5 (by kernel_rfl)
      have e17 := ht 17
      rw [evalS_tmp (i := 5) (by kernel_rfl), d5] at e17
      clear ht hd d5
      unfold StepOK
      go_simp
      exact Below.refl _ _
  · intro vals W hC hR
    have r0 : vals 0 = .string s := (hR 0 (by omega))
    have r1 : vals 1 = .int .u8 (x : Nat) := (hR 1 (by omega))
    have r2 : vals 2 = .int .i64 (x : Nat) := (hR 2 (by omega))
    have r3 : vals 3 = .string s := (hR 3 (by omega))
    have r4 : vals 4 = .int .u8 (y : Nat) := (hR 4 (by omega))
    have r5 : vals 5 = .int .i64 (y : Nat) := (hR 5 (by omega))
    have r6 : vals 6 = .int .i64 (x : Nat) := (hR 6 (by omega))
    have r7 : vals 7 = .int .i64 (y : Nat) := (hR 7 (by omega))
    clear hR
    simp only [wpOps, List.take, putsS, Act.put, List.setIfInBounds_toArray, List.set_cons_zero, List.set_cons_succ, Nat.reduceAdd, r0, r1, r2, r3, r4, r5, r6, r7]
    clear r0 r1 r2 r3 r4 r5 r6 r7
    have hr := HR1.out.below hC HR1.out.lt
    have q0 := hr.cell 0
    have q1 := hr.cell 1
    have q2 := hr.cell 2
    have f0 := hr.frozen 0
    have f1 := hr.frozen 1
    have f2 := hr.frozen 2
    simp only [List.getElem?_cons_zero, List.getElem?_cons_succ] at q0 q1 q2
    have HRW := Lib.hid hr
    have HBW := Lib.hid (HB1.out.trans (hC.mono HB1.out.size))
    clear hr
    rcases hb with hb | hb
    · have hbI : (9 : Int) < (x : Int) := by omega
      go_wp2
      exact bodyPost_ret (results_st rfl _ _ w.heap.size (.int .i64 0) (.int .u64 0) (.int .i64 0) (.int .i64 4) rfl rfl (st_set HRW.out _ _ _)) rfl ⟨rfl, st_setB HBW.out (Nat.le_refl _) _ _ _⟩
    · have hbI : (4 : Int) < (y : Int) := by omega
      by_cases h9 : 9 < x
      · have h9I : (9 : Int) < (x : Int) := by omega
        go_wp2
        exact bodyPost_ret (results_st rfl _ _ w.heap.size (.int .i64 0) (.int .u64 0) (.int .i64 0) (.int .i64 4) rfl rfl (st_set HRW.out _ _ _)) rfl ⟨rfl, st_setB HBW.out (Nat.le_refl _) _ _ _⟩
      · have h9I : ¬ (9 : Int) < (x : Int) := by omega
        go_wp2
        exact bodyPost_ret (results_st rfl _ _ w.heap.size (.int .i64 0) (.int .u64 0) (.int .i64 0) (.int .i64 4) rfl rfl (st_set HRW.out _ _ _)) rfl ⟨rfl, st_setB HBW.out (Nat.le_refl _) _ _ _⟩

set_option maxRecDepth 100000 in
set_option maxHeartbeats 1000000 in
theorem parse_ok (s : ByteArray) (h : s.size = 10) (x y : Nat) (hx : ∀ h : 0 < s.size, (s[0]'h).toNat = x) (hy : ∀ h : 1 < s.size, (s[1]'h).toNat = y) (hb1 : x ≤ 9) (hb2 : y ≤ 4) (w : World) :
    Calls Tryd.prog 7 #[.string s] w fun e w' => e = .returned (.tuple #[.agg #[.int .i64 x, .int .u64 (getL (s.data.toList.drop 2) : Nat), .int .i64 y], .int .i64 0]) ∧ Below w.heap.size w w' := by
  have hmx : Tryd.prog.follows .mixedOrders = true := by kernel_rfl
  have hne : ((s.size : Int) != 10) = false := by rw [bne_eq_false_iff_eq]; omega
  have HX := Lib.hid hx
  have HY := Lib.hid hy
  have h0 : 0 < s.size := by omega
  have h1 : 1 < s.size := by omega
  have hz : s.size < 11 := by omega
  have HXB : Hid (x < 256) := Lib.hid (by omega)
  have HYB : Hid (y < 256) := Lib.hid (by omega)
  have hb1I : ¬ (9 : Int) < (x : Int) := by omega
  have hb2I : ¬ (4 : Int) < (y : Int) := by omega
  obtain ⟨d, hd⟩ : ∃ d, getL (s.data.toList.drop 2) = d := ⟨_, rfl⟩
  have hel : (s.extract 2 s.size).data.toList = s.data.toList.drop 2 := by
    rw [Lib.extract_data, List.take_of_length_le (by simp)]
  have HG : Hid (∀ W, Calls Tryd.prog 16 #[.string (s.extract 2 s.size)] W fun e w' => e = .returned (.tuple #[.int .u64 (d : Nat), .int .i64 0]) ∧ W = w') := Lib.hid fun W => by
    have hsz : (s.extract 2 s.size).size = 8 := by rw [ByteArray.size_extract]; omega
    have hgl : (s.extract 2 s.size).data.toList.length = 8 := by rw [← hsz]; simp
    have hg := Get_any (s.extract 2 s.size) W (by omega)
    rw [show getN (s.extract 2 s.size).data.toList = d by unfold getN; rw [if_neg (by omega), if_neg (by omega), hel, hd], show getE (s.extract 2 s.size).data.toList = 0 by unfold getE; rw [if_neg (by omega), if_neg (by omega)]] at hg
    exact hg
  rw [hd]
  obtain ⟨E, hE⟩ : ∃ E, s.extract 2 s.size = E := ⟨_, rfl⟩
  rw [hE] at HG
  have h2I : (2 : Int) ≤ (s.size : Int) := by omega
  clear hx hy h hb1 hb2 hd hel
  go_enter Tryd.func7, Tryd.ntmps7
  go_wp2_with fail
  have HB1 := Lib.hid ((Below.refl w.heap.size w).alloc (Nat.le_refl _) (.cells #[.int .i64 0, .int .u64 0, .int .i64 0] 24))
  have HR1 := Lib.hid (Row.new w 24 [.int .i64 0, .int .u64 0, .int .i64 0])
  generalize w.alloc (.cells #[.int .i64 0, .int .u64 0, .int .i64 0] 24) = w1 at HB1 HR1 ⊢
  refine wp_region_slotsB (m := 8) [] hmx (fun i v _ => v = ([.string s, .int .u8 (x : Nat), .int .i64 (x : Nat), .string s, .int .u8 (y : Nat), .int .i64 (y : Nat), .int .i64 (x : Nat), .int .i64 (y : Nat)] : List Value).getD i undef) (Below w1.heap.size w1) (by kernel_rfl) (by kernel_rfl) (fun i v W W' h _ => h) ((Below.refl _ _).drew) ?_ ?_
  · refine ⟨?_, ?_, ?_, ?_, ?_, ?_, ?_, ?_, trivial⟩
    · intro ρ vals W hC hd ht hk hg hf
      have e0 := ht 0
      rw [evalS_old (by kernel_rfl)] at e0
      clear ht hd
      unfold StepOK
      go_simp
      exact Below.refl _ _
    · intro ρ vals W hC hd ht hk hg hf
      have d0 := hd 0 (by kernel_rfl)
      have e12 := ht 12
      rw [evalS_tmp (i := 0) (by kernel_rfl), d0] at e12
      clear ht hd d0
      have g := HX.out h0
      unfold StepOK
      go_simp
      exact Below.refl _ _
    · intro ρ vals W hC hd ht hk hg hf
      have d1 := hd 1 (by kernel_rfl)
      have e13 := ht 13
      rw [evalS_tmp (i := 1) (by kernel_rfl), d1] at e13
      clear ht hd d1
      have g : IntKind.i64.wrap (x : Int) = (x : Int) := IntWalk.i64_in _ (by have := HXB.out; omega)
      unfold StepOK
      go_simp
      exact Below.refl _ _
    · intro ρ vals W hC hd ht hk hg hf
      have e0 := ht 0
      rw [evalS_old (by kernel_rfl)] at e0
      clear ht hd
      unfold StepOK
      go_simp
      exact Below.refl _ _
    · intro ρ vals W hC hd ht hk hg hf
      have d3 := hd 3 (by kernel_rfl)
      have e15 := ht 15
      rw [evalS_tmp (i := 3) (by kernel_rfl), d3] at e15
      clear ht hd d3
      have g := HY.out h1
      have h1I : (1 : Int) < (s.size : Int) := by omega
      unfold StepOK
      go_simp
      exact Below.refl _ _
    · intro ρ vals W hC hd ht hk hg hf
      have d4 := hd 4 (by kernel_rfl)
      have e16 := ht 16
      rw [evalS_tmp (i := 4) (by kernel_rfl), d4] at e16
      clear ht hd d4
      have g : IntKind.i64.wrap (y : Int) = (y : Int) := IntWalk.i64_in _ (by have := HYB.out; omega)
      unfold StepOK
      go_simp
      exact Below.refl _ _
    · intro ρ vals W hC hd ht hk hg hf
      have d2 := hd 2 (by kernel_rfl)
      have e14 := ht 14
      rw [evalS_tmp (i := 2) (by kernel_rfl), d2] at e14
      clear ht hd d2
      unfold StepOK
      go_simp
      exact Below.refl _ _
    · intro ρ vals W hC hd ht hk hg hf
      have d5 := hd 5 (by kernel_rfl)
      have e17 := ht 17
      rw [evalS_tmp (i := 5) (by kernel_rfl), d5] at e17
      clear ht hd d5
      unfold StepOK
      go_simp
      exact Below.refl _ _
  · intro vals W hC hR
    have r0 : vals 0 = .string s := (hR 0 (by omega))
    have r1 : vals 1 = .int .u8 (x : Nat) := (hR 1 (by omega))
    have r2 : vals 2 = .int .i64 (x : Nat) := (hR 2 (by omega))
    have r3 : vals 3 = .string s := (hR 3 (by omega))
    have r4 : vals 4 = .int .u8 (y : Nat) := (hR 4 (by omega))
    have r5 : vals 5 = .int .i64 (y : Nat) := (hR 5 (by omega))
    have r6 : vals 6 = .int .i64 (x : Nat) := (hR 6 (by omega))
    have r7 : vals 7 = .int .i64 (y : Nat) := (hR 7 (by omega))
    clear hR
    simp only [wpOps, List.take, putsS, Act.put, List.setIfInBounds_toArray, List.set_cons_zero, List.set_cons_succ, Nat.reduceAdd, r0, r1, r2, r3, r4, r5, r6, r7]
    clear r0 r1 r2 r3 r4 r5 r6 r7
    have hr := HR1.out.below hC HR1.out.lt
    have q0 := hr.cell 0
    have q1 := hr.cell 1
    have q2 := hr.cell 2
    have f0 := hr.frozen 0
    have f1 := hr.frozen 1
    have f2 := hr.frozen 2
    simp only [List.getElem?_cons_zero, List.getElem?_cons_succ] at q0 q1 q2
    have HRW := Lib.hid hr
    have HBW := Lib.hid (HB1.out.trans (hC.mono HB1.out.size))
    clear hr
    go_wp2_with fail
    refine (HG.out _).mono ?_
    rintro e w3 ⟨rfl, rfl⟩
    go_wp2_with fail
    exact bodyPost_ret (results_st rfl _ _ w.heap.size (.int .i64 x) (.int .u64 d) (.int .i64 y) (.int .i64 0) rfl rfl (st_set HRW.out _ _ _)) rfl ⟨rfl, st_setB HBW.out (Nat.le_refl _) _ _ _⟩
end Go.Proofs.YtlmbijhkpgolaaaDoor
