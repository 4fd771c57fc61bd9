/- What becomes of a challenge's state. -/
import Derived.Test.YtlmbijhkpgolaaaGreatDoorMem
import Derived.Test.YtlmbijhkpgolaaaGreatDoorHSame
import Derived.Lib.Hide
import Derived.OpenShut
import Derived.RegionTactic
import Derived.ChangeAlike
import Derived.Laws.ResultCell
import Derived.Laws.Cover3
import Derived.Deep.MidRow
namespace Go.Proofs.YtlmbijhkpgolaaaGreatDoor
open Go.RowKit
set_option linter.unusedVariables false
set_option linter.unusedSimpArgs false

set_option maxHeartbeats 400000 in
theorem octAdd_any (a b : Int) (w : World) (ha : 0 ≤ a) (ha' : a ≤ 18446744073709551615) (hb : 0 ≤ b) (hb' : b ≤ 18446744073709551615) :
    Calls Tryz.prog 26 #[.int .u64 a, .int .u64 b] w fun e w' => e = .returned (.int .u64 (min (a + b) 18446744073709551615)) ∧ w = w' := by
  go_enter Tryz.func26, Tryz.ntmps26
  go_wp2
  all_goals
    go_ret
    exact ⟨ret_int (by omega), rfl⟩
theorem bcellO {W w1 : World} (hb : Below W.heap.size W w1) : (∀ b o, b < W.heap.size → w1.cell? ⟨b, o, none⟩ = W.cell? ⟨b, o, none⟩) ∧ (∀ b o, b < W.heap.size → w1.frozen? ⟨b, o, none⟩ = W.frozen? ⟨b, o, none⟩) :=
  ⟨fun b o h => hb.cell (p := ⟨b, o, none⟩) h, fun b o h => hb.frozen (p := ⟨b, o, none⟩) h⟩

set_option maxHeartbeats 400000 in
theorem over_any (t d o h : Int) (w : World) :
    Calls Tryz.prog 23 #[.agg #[.int .i64 t, .int .u64 d, .int .i64 o], .int .i64 h] w fun e w' => e = .returned (.tuple #[.agg #[.int .i64 t, .int .u64 d, .int .i64 h], .int .i64 h]) ∧ Below w.heap.size w w' := by
  go_enter Tryz.func23, Tryz.ntmps23
  go_wp2
  exact bodyPost_ret (v := .tuple #[.agg #[.int .i64 t, .int .u64 d, .int .i64 h], .int .i64 h]) (by simp [results, Tryz.results23, go_sem]) rfl ⟨rfl, ((Below.refl _ _).alloc (Nat.le_refl _) _).alloc (by simp) _⟩
set_option maxHeartbeats 400000 in
theorem late_any (t d o n : Int) (w : World) :
    Calls Tryz.prog 22 #[.agg #[.int .i64 t, .int .u64 d, .int .i64 o], .int .u64 n] w fun e w' => e = .returned (.bool (decide (d ≤ n))) ∧ Below w.heap.size w w' := by
  go_enter Tryz.func22, Tryz.ntmps22
  go_wp2
  go_ret
  exact ⟨rfl, (Below.refl _ _).alloc (Nat.le_refl _) _⟩

set_option maxHeartbeats 400000 in
theorem begin_bad (t n k : Int) (w : World) (h : t < 1 ∨ 9 < t) :
    Calls Tryz.prog 12 #[.int .i64 t, .int .u64 n, .int .u64 k] w fun e w' => e = .returned (.tuple #[.agg #[.int .i64 0, .int .u64 0, .int .i64 0], .int .i64 7]) ∧ Below w.heap.size w w' := by
  rcases h with h | h
  · go_enter Tryz.func12, Tryz.ntmps12
    go_wp2
    exact bodyPost_ret (v := .tuple #[.agg #[.int .i64 0, .int .u64 0, .int .i64 0], .int .i64 7]) (by simp [results, Tryz.results12, go_sem]) rfl ⟨rfl, (Below.refl _ _).alloc (Nat.le_refl _) _⟩
  · have h' : ¬ t < 1 := by omega
    go_enter Tryz.func12, Tryz.ntmps12
    go_wp2
    exact bodyPost_ret (v := .tuple #[.agg #[.int .i64 0, .int .u64 0, .int .i64 0], .int .i64 7]) (by simp [results, Tryz.results12, go_sem]) rfl ⟨rfl, (Below.refl _ _).alloc (Nat.le_refl _) _⟩
set_option maxHeartbeats 400000 in
theorem begin_any (t n k : Int) (w : World) (h1 : 1 ≤ t) (h9 : t ≤ 9) (ha : 0 ≤ n) (ha' : n ≤ 18446744073709551615) (hb : 0 ≤ k) (hb' : k ≤ 18446744073709551615) :
    Calls Tryz.prog 12 #[.int .i64 t, .int .u64 n, .int .u64 k] w fun e w' => e = .returned (.tuple #[.agg #[.int .i64 t, .int .u64 (min (n + k) 18446744073709551615), .int .i64 0], .int .i64 0]) ∧ Below w.heap.size w w' := by
  have HA := Lib.hid (fun W => octAdd_any n k W ha ha' hb hb')
  obtain ⟨m, hm⟩ : ∃ m, min (n + k) 18446744073709551615 = m := ⟨_, rfl⟩
  rw [hm] at HA ⊢
  have hn1 : ¬ t < 1 := by omega
  have hn9 : ¬ 9 < t := by omega
  clear hm ha ha' hb hb'
  go_enter Tryz.func12, Tryz.ntmps12
  go_wp2_with fail
  refine (HA.out _).mono ?_
  rintro e w1 ⟨rfl, rfl⟩
  go_wp2_with fail
  exact bodyPost_ret (v := .tuple #[.agg #[.int .i64 t, .int .u64 m, .int .i64 0], .int .i64 0]) (by simp [results, Tryz.results12, go_sem]) rfl ⟨rfl, (Below.refl _ _).alloc (Nat.le_refl _) _⟩

theorem results_st {fn : Func} {p u : Tmp} (h : fn.results = #[.cell p 24, .tmp u]) (tmps : Array Value) (w : World) (g : Nat) (a b c x : Value)
    (hp : tmps.getD p undef = .pointer (some ⟨g, 0, none⟩)) (hx : tmps.getD u undef = x) (hr : Row w g 24 [a, b, c]) :
    (results fn tmps).run Tryz.prog w = .ok (.tuple #[.agg #[a, b, c], x]) w := by
  rw [results_cell_tmp h, hp, hx]
  simp [asAddr, run_loadVar_row w g 24 24 #[a, b, c] (0, 0) _ hr Tryz.underlying24 rfl (by kernel_rfl), Result.andThen]
/-- Two blocks laid, the second one for the result, and what was there behind a call. -/
theorem two_st (w : World) (A0 : Array Value) : Row ((w.alloc (.cells A0 24)).alloc (.cells #[.int .i64 0, .int .u64 0, .int .i64 0] 24)) (w.heap.size + 1) 24 [.int .i64 0, .int .u64 0, .int .i64 0] := by
  have h := Row.new (w.alloc (.cells A0 24)) 24 [.int .i64 0, .int .u64 0, .int .i64 0]
  rw [World.size_alloc] at h
  exact h
theorem below_two (w : World) (o o' : Obj) : Below w.heap.size w ((w.alloc o).alloc o') := ((Below.refl _ _).alloc (Nat.le_refl _) _).alloc (by simp) _
theorem st_set {w : World} {g : Nat} {x y z : Value} (h : Row w g 24 [x, y, z]) (a b c : Value) : Row (((w.setCell ⟨g, 0, none⟩ a).setCell ⟨g, 1, none⟩ b).setCell ⟨g, 2, none⟩ c) g 24 [a, b, c] := ((h.set 0 a).set 1 b).set 2 c
theorem st_setB {w w1 : World} {g : Nat} (h : Below w.heap.size w w1) (hg : w.heap.size ≤ g) (a b c : Value) : Below w.heap.size w (((w1.setCell ⟨g, 0, none⟩ a).setCell ⟨g, 1, none⟩ b).setCell ⟨g, 2, none⟩ c) := ((h.setCell hg _).setCell hg _).setCell hg _

set_option maxHeartbeats 400000 in
theorem wrong_outT (t d o : Int) (w : World) (h1 : t ≤ 1) (hm : -9223372036854775808 < t) :
    Calls Tryz.prog 25 #[.agg #[.int .i64 t, .int .u64 d, .int .i64 o]] w fun e w' => e = .returned (.tuple #[.agg #[.int .i64 (t - 1), .int .u64 d, .int .i64 2], .int .i64 2]) ∧ Below w.heap.size w w' := by
  have hlt : t - 1 < 1 := by omega
  go_enter Tryz.func25, Tryz.ntmps25
  go_wp2_with fail
  refine (over_any _ _ _ _ _).mono ?_
  rintro e w1 ⟨rfl, hb1⟩
  obtain ⟨hc1, hf1⟩ := bcellO hb1
  have hz1 := hb1.size
  have R1 := Lib.hid ((two_st w _).below hb1 (by simp))
  have B1 := Lib.hid ((below_two w _ _).trans (hb1.mono (by simp; omega)))
  clear hb1
  simp only [World.size_alloc] at hz1
  go_wp2_with fail
  exact bodyPost_ret (results_st rfl _ _ (w.heap.size + 1) (.int .i64 (t - 1)) (.int .u64 d) (.int .i64 2) (.int .i64 2) rfl rfl (st_set R1.out _ _ _)) rfl ⟨rfl, st_setB B1.out (by omega) _ _ _⟩
set_option maxHeartbeats 400000 in
theorem wrong_more (t d o : Int) (w : World) (ht : 2 ≤ t) (ht' : t ≤ 9223372036854775807) :
    Calls Tryz.prog 25 #[.agg #[.int .i64 t, .int .u64 d, .int .i64 o]] w fun e w' => e = .returned (.tuple #[.agg #[.int .i64 (t - 1), .int .u64 d, .int .i64 o], .int .i64 5]) ∧ Below w.heap.size w w' := by
  have h1 : ¬ t - 1 < 1 := by omega
  have hm : -9223372036854775808 < t := by omega
  go_enter Tryz.func25, Tryz.ntmps25
  go_wp2
  exact bodyPost_ret (v := .tuple #[.agg #[.int .i64 (t - 1), .int .u64 d, .int .i64 o], .int .i64 5]) (by simp [results, Tryz.results25, go_sem]) rfl ⟨rfl, ((Below.refl _ _).alloc (Nat.le_refl _) _).alloc (by simp) _⟩

set_option maxHeartbeats 1000000 in
theorem enter_over (t d o n : Int) (c s : ByteArray) (w : World) (ho : o ≠ 0) :
    Calls Tryz.prog 8 #[.agg #[.int .i64 t, .int .u64 d, .int .i64 o], .string c, .string s, .int .u64 n] w fun e w' => e = .returned (.tuple #[.agg #[.int .i64 t, .int .u64 d, .int .i64 o], .int .i64 o]) ∧ Below w.heap.size w w' := by
  have h0 : (o != 0) = true := by rw [bne_iff_ne]; exact ho
  clear ho
  go_enter Tryz.func8, Tryz.ntmps8
  go_wp2
  go_region
  go_wp2
  exact bodyPost_ret (v := .tuple #[.agg #[.int .i64 t, .int .u64 d, .int .i64 o], .int .i64 o]) (by simp [results, Tryz.results8, go_sem]) rfl ⟨rfl, (((Below.refl _ _).alloc (Nat.le_refl _) _).alloc (by simp) _).drew⟩

set_option maxHeartbeats 1000000 in
theorem enter_late (t d n : Int) (c s : ByteArray) (w : World) (hl : d ≤ n) :
    Calls Tryz.prog 8 #[.agg #[.int .i64 t, .int .u64 d, .int .i64 0], .string c, .string s, .int .u64 n] w fun e w' => e = .returned (.tuple #[.agg #[.int .i64 t, .int .u64 d, .int .i64 3], .int .i64 3]) ∧ Below w.heap.size w w' := by
  go_enter Tryz.func8, Tryz.ntmps8
  go_wp2_with fail
  refine (late_any _ _ _ _ _).mono ?_
  rintro e w1 ⟨rfl, hb1⟩
  obtain ⟨hc1, hf1⟩ := bcellO hb1
  have hz1 := hb1.size
  have R1 := Lib.hid ((two_st w _).below hb1 (by simp))
  have B1 := Lib.hid ((below_two w _ _).trans (hb1.mono (by simp; omega)))
  clear hb1
  simp only [World.size_alloc] at hz1
  have hp1 : w.heap.size < w1.heap.size := by omega
  have hq1 : w.heap.size + 1 < w1.heap.size := by omega
  go_wp2_with fail
  refine (over_any _ _ _ _ _).mono ?_
  rintro e w2 ⟨rfl, hb2⟩
  obtain ⟨hc2, hf2⟩ := bcellO hb2
  have hz2 := hb2.size
  have R2 := Lib.hid (R1.out.below hb2 (by omega))
  have B2 := Lib.hid (B1.out.trans (hb2.mono B1.out.size))
  have hp2 : w.heap.size < w2.heap.size := by omega
  have hq2 : w.heap.size + 1 < w2.heap.size := by omega
  clear hb2
  go_wp2_with fail
  exact bodyPost_ret (results_st rfl _ _ (w.heap.size + 1) (.int .i64 t) (.int .u64 d) (.int .i64 3) (.int .i64 3) rfl rfl (st_set R2.out _ _ _)) rfl ⟨rfl, st_setB B2.out (by omega) _ _ _⟩
set_option maxHeartbeats 1000000 in
theorem enter_right (t d n : Int) (c : ByteArray) (w : World) (hc : c.size ≤ 140737488355328) (hl : n < d) :
    Calls Tryz.prog 8 #[.agg #[.int .i64 t, .int .u64 d, .int .i64 0], .string c, .string c, .int .u64 n] w fun e w' => e = .returned (.tuple #[.agg #[.int .i64 t, .int .u64 d, .int .i64 1], .int .i64 1]) ∧ Below w.heap.size w w' := by
  have HS := Lib.hid (fun W => Same_any c c W hc)
  rw [decide_eq_true rfl] at HS
  have hl' : ¬ d ≤ n := by omega
  clear hc
  go_enter Tryz.func8, Tryz.ntmps8
  go_wp2_with fail
  refine (late_any _ _ _ _ _).mono ?_
  rintro e w1 ⟨rfl, hb1⟩
  obtain ⟨hc1, hf1⟩ := bcellO hb1
  have hz1 := hb1.size
  have R1 := Lib.hid ((two_st w _).below hb1 (by simp))
  have B1 := Lib.hid ((below_two w _ _).trans (hb1.mono (by simp; omega)))
  clear hb1
  simp only [World.size_alloc] at hz1
  have hp1 : w.heap.size < w1.heap.size := by omega
  have hq1 : w.heap.size + 1 < w1.heap.size := by omega
  go_wp2_with fail
  refine (HS.out _).mono ?_
  rintro e w2 ⟨rfl, hb2⟩
  obtain ⟨hc2, hf2⟩ := bcellO hb2
  have hz2 := hb2.size
  have R2 := Lib.hid (R1.out.below hb2 (by omega))
  have B2 := Lib.hid (B1.out.trans (hb2.mono B1.out.size))
  have hp2 : w.heap.size < w2.heap.size := by omega
  have hq2 : w.heap.size + 1 < w2.heap.size := by omega
  clear hb2
  go_wp2_with fail
  refine (over_any _ _ _ _ _).mono ?_
  rintro e w3 ⟨rfl, hb3⟩
  obtain ⟨hc3, hf3⟩ := bcellO hb3
  have hz3 := hb3.size
  have R3 := Lib.hid (R2.out.below hb3 (by omega))
  have B3 := Lib.hid (B2.out.trans (hb3.mono B2.out.size))
  have hp3 : w.heap.size < w3.heap.size := by omega
  have hq3 : w.heap.size + 1 < w3.heap.size := by omega
  clear hb3
  go_wp2_with fail
  exact bodyPost_ret (results_st rfl _ _ (w.heap.size + 1) (.int .i64 t) (.int .u64 d) (.int .i64 1) (.int .i64 1) rfl rfl (st_set R3.out _ _ _)) rfl ⟨rfl, st_setB B3.out (by omega) _ _ _⟩
set_option maxHeartbeats 1000000 in
theorem enter_outT (t d n : Int) (c s : ByteArray) (w : World) (hc : c.size ≤ 140737488355328) (hl : n < d) (hne : c ≠ s) (h1 : t ≤ 1) (hm : -9223372036854775808 < t) :
    Calls Tryz.prog 8 #[.agg #[.int .i64 t, .int .u64 d, .int .i64 0], .string c, .string s, .int .u64 n] w fun e w' => e = .returned (.tuple #[.agg #[.int .i64 (t - 1), .int .u64 d, .int .i64 2], .int .i64 2]) ∧ Below w.heap.size w w' := by
  have HS := Lib.hid (fun W => Same_any c s W hc)
  rw [decide_eq_false (fun h => hne (ByteArray.ext (Array.ext' h)))] at HS
  have hl' : ¬ d ≤ n := by omega
  have HW := Lib.hid (fun W => wrong_outT t d 0 W h1 hm)
  clear hc hne h1 hm
  go_enter Tryz.func8, Tryz.ntmps8
  go_wp2_with fail
  refine (late_any _ _ _ _ _).mono ?_
  rintro e w1 ⟨rfl, hb1⟩
  obtain ⟨hc1, hf1⟩ := bcellO hb1
  have hz1 := hb1.size
  have R1 := Lib.hid ((two_st w _).below hb1 (by simp))
  have B1 := Lib.hid ((below_two w _ _).trans (hb1.mono (by simp; omega)))
  clear hb1
  simp only [World.size_alloc] at hz1
  have hp1 : w.heap.size < w1.heap.size := by omega
  have hq1 : w.heap.size + 1 < w1.heap.size := by omega
  go_wp2_with fail
  refine (HS.out _).mono ?_
  rintro e w2 ⟨rfl, hb2⟩
  obtain ⟨hc2, hf2⟩ := bcellO hb2
  have hz2 := hb2.size
  have R2 := Lib.hid (R1.out.below hb2 (by omega))
  have B2 := Lib.hid (B1.out.trans (hb2.mono B1.out.size))
  have hp2 : w.heap.size < w2.heap.size := by omega
  have hq2 : w.heap.size + 1 < w2.heap.size := by omega
  clear hb2
  go_wp2_with fail
  refine (HW.out _).mono ?_
  rintro e w3 ⟨rfl, hb3⟩
  obtain ⟨hc3, hf3⟩ := bcellO hb3
  have hz3 := hb3.size
  have R3 := Lib.hid (R2.out.below hb3 (by omega))
  have B3 := Lib.hid (B2.out.trans (hb3.mono B2.out.size))
  have hp3 : w.heap.size < w3.heap.size := by omega
  have hq3 : w.heap.size + 1 < w3.heap.size := by omega
  clear hb3
  go_wp2_with fail
  exact bodyPost_ret (results_st rfl _ _ (w.heap.size + 1) (.int .i64 (t - 1)) (.int .u64 d) (.int .i64 2) (.int .i64 2) rfl rfl (st_set R3.out _ _ _)) rfl ⟨rfl, st_setB B3.out (by omega) _ _ _⟩
theorem enter_out (d n : Int) (c s : ByteArray) (w : World) (hc : c.size ≤ 140737488355328) (hl : n < d) (hne : c ≠ s) :
    Calls Tryz.prog 8 #[.agg #[.int .i64 1, .int .u64 d, .int .i64 0], .string c, .string s, .int .u64 n] w fun e w' => e = .returned (.tuple #[.agg #[.int .i64 0, .int .u64 d, .int .i64 2], .int .i64 2]) ∧ Below w.heap.size w w' :=
  enter_outT 1 d n c s w hc hl hne (by omega) (by omega)
set_option maxHeartbeats 1000000 in
theorem enter_wrong (t d n : Int) (c s : ByteArray) (w : World) (hc : c.size ≤ 140737488355328) (hl : n < d) (hne : c ≠ s) (ht : 2 ≤ t) (ht' : t ≤ 9223372036854775807) :
    Calls Tryz.prog 8 #[.agg #[.int .i64 t, .int .u64 d, .int .i64 0], .string c, .string s, .int .u64 n] w fun e w' => e = .returned (.tuple #[.agg #[.int .i64 (t - 1), .int .u64 d, .int .i64 0], .int .i64 5]) ∧ Below w.heap.size w w' := by
  have HS := Lib.hid (fun W => Same_any c s W hc)
  rw [decide_eq_false (fun h => hne (ByteArray.ext (Array.ext' h)))] at HS
  have hl' : ¬ d ≤ n := by omega
  have HW := Lib.hid (fun W => wrong_more t d 0 W ht ht')
  clear hc hne ht ht'
  go_enter Tryz.func8, Tryz.ntmps8
  go_wp2_with fail
  refine (late_any _ _ _ _ _).mono ?_
  rintro e w1 ⟨rfl, hb1⟩
  obtain ⟨hc1, hf1⟩ := bcellO hb1
  have hz1 := hb1.size
  have R1 := Lib.hid ((two_st w _).below hb1 (by simp))
  have B1 := Lib.hid ((below_two w _ _).trans (hb1.mono (by simp; omega)))
  clear hb1
  simp only [World.size_alloc] at hz1
  have hp1 : w.heap.size < w1.heap.size := by omega
  have hq1 : w.heap.size + 1 < w1.heap.size := by omega
  go_wp2_with fail
  refine (HS.out _).mono ?_
  rintro e w2 ⟨rfl, hb2⟩
  obtain ⟨hc2, hf2⟩ := bcellO hb2
  have hz2 := hb2.size
  have R2 := Lib.hid (R1.out.below hb2 (by omega))
  have B2 := Lib.hid (B1.out.trans (hb2.mono B1.out.size))
  have hp2 : w.heap.size < w2.heap.size := by omega
  have hq2 : w.heap.size + 1 < w2.heap.size := by omega
  clear hb2
  go_wp2_with fail
  refine (HW.out _).mono ?_
  rintro e w3 ⟨rfl, hb3⟩
  obtain ⟨hc3, hf3⟩ := bcellO hb3
  have hz3 := hb3.size
  have R3 := Lib.hid (R2.out.below hb3 (by omega))
  have B3 := Lib.hid (B2.out.trans (hb3.mono B2.out.size))
  have hp3 : w.heap.size < w3.heap.size := by omega
  have hq3 : w.heap.size + 1 < w3.heap.size := by omega
  clear hb3
  go_wp2_with fail
  exact bodyPost_ret (results_st rfl _ _ (w.heap.size + 1) (.int .i64 (t - 1)) (.int .u64 d) (.int .i64 0) (.int .i64 5) rfl rfl (st_set R3.out _ _ _)) rfl ⟨rfl, st_setB B3.out (by omega) _ _ _⟩

theorem late_yes (t d o n : Int) (w : World) (h : d ≤ n) :
    Calls Tryz.prog 22 #[.agg #[.int .i64 t, .int .u64 d, .int .i64 o], .int .u64 n] w fun e w' => e = .returned (.bool true) ∧ Below w.heap.size w w' := by
  have := late_any t d o n w
  rwa [decide_eq_true h] at this
theorem late_no (t d o n : Int) (w : World) (h : n < d) :
    Calls Tryz.prog 22 #[.agg #[.int .i64 t, .int .u64 d, .int .i64 o], .int .u64 n] w fun e w' => e = .returned (.bool false) ∧ Below w.heap.size w w' := by
  have := late_any t d o n w
  rwa [decide_eq_false (by omega)] at this

theorem two_st1 (w : World) (A0 A1 : Array Value) (T1 : TypeId) : Row ((w.alloc (.cells A0 T1)).alloc (.cells A1 24)) w.heap.size T1 A0.toList := by
  have h := (Row.new w T1 A0.toList).alloc (.cells A1 24)
  exact h
set_option maxHeartbeats 1000000 in
theorem tick_over (t d o n : Int) (w : World) (ho : o ≠ 0) :
    Calls Tryz.prog 10 #[.agg #[.int .i64 t, .int .u64 d, .int .i64 o], .int .u64 n] w fun e w' => e = .returned (.tuple #[.agg #[.int .i64 t, .int .u64 d, .int .i64 o], .bool false]) ∧ Below w.heap.size w w' := by
  have h0 : (o != 0) = true := by rw [bne_iff_ne]; exact ho
  clear ho
  go_enter Tryz.func10, Tryz.ntmps10
  go_wp2
  exact bodyPost_ret (v := .tuple #[.agg #[.int .i64 t, .int .u64 d, .int .i64 o], .bool false]) (by simp [results, Tryz.results10, go_sem]) rfl ⟨rfl, ((Below.refl _ _).alloc (Nat.le_refl _) _).alloc (by simp) _⟩
set_option maxHeartbeats 1000000 in
theorem tick_no (t d n : Int) (w : World) (hl : n < d) :
    Calls Tryz.prog 10 #[.agg #[.int .i64 t, .int .u64 d, .int .i64 0], .int .u64 n] w fun e w' => e = .returned (.tuple #[.agg #[.int .i64 t, .int .u64 d, .int .i64 0], .bool false]) ∧ Below w.heap.size w w' := by
  go_enter Tryz.func10, Tryz.ntmps10
  go_wp2_with fail
  refine (late_no _ _ _ _ _ hl).mono ?_
  rintro e w1 ⟨rfl, hb1⟩
  have hbx := hb1
  obtain ⟨hc1, hf1⟩ := bcellO hb1
  have hz1 := hb1.size
  have R1 := Lib.hid ((two_st w _).below hb1 (by first | omega | (simp; omega) | simp))
  have B1 := Lib.hid ((below_two w _ _).trans (hb1.mono (by first | omega | (simp; omega))))
  clear hb1
  try simp only [World.size_alloc] at hz1
  have hp1 : w.heap.size < w1.heap.size := by omega
  have hq1 : w.heap.size + 1 < w1.heap.size := by omega
  have X1 : Hid (Row w1 w.heap.size 24 [.int .i64 t, .int .u64 d, .int .i64 0]) := Lib.hid ((two_st1 w _ _ _).below hbx (by first | omega | (simp; omega) | simp))
  clear hbx
  go_wp2_with fail
  exact bodyPost_ret (results_st rfl _ _ (w.heap.size + 1) (.int .i64 t) (.int .u64 d) (.int .i64 0) (.bool false) rfl rfl (st_set R1.out _ _ _)) rfl ⟨rfl, st_setB B1.out (by omega) _ _ _⟩
set_option maxHeartbeats 1000000 in
theorem tick_late (t d n : Int) (w : World) (hl : d ≤ n) :
    Calls Tryz.prog 10 #[.agg #[.int .i64 t, .int .u64 d, .int .i64 0], .int .u64 n] w fun e w' => e = .returned (.tuple #[.agg #[.int .i64 t, .int .u64 d, .int .i64 3], .bool true]) ∧ Below w.heap.size w w' := by
  go_enter Tryz.func10, Tryz.ntmps10
  go_wp2_with fail
  refine (late_yes _ _ _ _ _ hl).mono ?_
  rintro e w1 ⟨rfl, hb1⟩
  have hbx := hb1
  obtain ⟨hc1, hf1⟩ := bcellO hb1
  have hz1 := hb1.size
  have R1 := Lib.hid ((two_st w _).below hb1 (by first | omega | (simp; omega) | simp))
  have B1 := Lib.hid ((below_two w _ _).trans (hb1.mono (by first | omega | (simp; omega))))
  clear hb1
  try simp only [World.size_alloc] at hz1
  have hp1 : w.heap.size < w1.heap.size := by omega
  have hq1 : w.heap.size + 1 < w1.heap.size := by omega
  have X1 : Hid (Row w1 w.heap.size 24 [.int .i64 t, .int .u64 d, .int .i64 0]) := Lib.hid ((two_st1 w _ _ _).below hbx (by first | omega | (simp; omega) | simp))
  clear hbx
  go_wp2_with fail
  refine (over_any _ _ _ _ _).mono ?_
  rintro e w2 ⟨rfl, hb2⟩
  have hbx := hb2
  obtain ⟨hc2, hf2⟩ := bcellO hb2
  have hz2 := hb2.size
  have R2 := Lib.hid (R1.out.below hb2 (by first | omega | (simp; omega) | simp))
  have B2 := Lib.hid (B1.out.trans (hb2.mono (by first | omega | (simp; omega))))
  clear hb2
  try simp only [World.size_alloc] at hz2
  have hp2 : w.heap.size < w2.heap.size := by omega
  have hq2 : w.heap.size + 1 < w2.heap.size := by omega
  have X2 : Hid (Row w2 w.heap.size 24 [.int .i64 t, .int .u64 d, .int .i64 0]) := Lib.hid (X1.out.below hbx (by first | omega | (simp; omega) | simp))
  have XS := st_set X2.out (.int .i64 t) (.int .u64 d) (.int .i64 3)
  have s0 := XS.cell 0
  have s1 := XS.cell 1
  have s2 := XS.cell 2
  simp only [List.getElem?_cons_zero, List.getElem?_cons_succ] at s0 s1 s2
  clear hbx
  go_wp2_with fail
  exact bodyPost_ret (results_st rfl _ _ (w.heap.size + 1) (.int .i64 t) (.int .u64 d) (.int .i64 3) (.bool true) rfl rfl (st_set (((R2.out.far (by simp) _).far (by simp) _).far (by simp) _) _ _ _)) rfl ⟨rfl, st_setB (((B2.out.setCell (by simp) _).setCell (by simp) _).setCell (by simp) _) (by omega) _ _ _⟩
set_option maxHeartbeats 1000000 in
theorem cancel_over (t d o n : Int) (w : World) (ho : o ≠ 0) :
    Calls Tryz.prog 11 #[.agg #[.int .i64 t, .int .u64 d, .int .i64 o], .int .u64 n] w fun e w' => e = .returned (.tuple #[.agg #[.int .i64 t, .int .u64 d, .int .i64 o], .bool false]) ∧ Below w.heap.size w w' := by
  have h0 : (o != 0) = true := by rw [bne_iff_ne]; exact ho
  clear ho
  go_enter Tryz.func11, Tryz.ntmps11
  go_wp2
  exact bodyPost_ret (v := .tuple #[.agg #[.int .i64 t, .int .u64 d, .int .i64 o], .bool false]) (by simp [results, Tryz.results11, go_sem]) rfl ⟨rfl, ((Below.refl _ _).alloc (Nat.le_refl _) _).alloc (by simp) _⟩
set_option maxHeartbeats 1000000 in
theorem cancel_late (t d n : Int) (w : World) (hl : d ≤ n) :
    Calls Tryz.prog 11 #[.agg #[.int .i64 t, .int .u64 d, .int .i64 0], .int .u64 n] w fun e w' => e = .returned (.tuple #[.agg #[.int .i64 t, .int .u64 d, .int .i64 3], .bool true]) ∧ Below w.heap.size w w' := by
  have HT := Lib.hid (fun W => tick_late t d n W hl)
  go_enter Tryz.func11, Tryz.ntmps11
  go_wp2_with fail
  refine (HT.out _).mono ?_
  rintro e w1 ⟨rfl, hb1⟩
  have hbx := hb1
  obtain ⟨hc1, hf1⟩ := bcellO hb1
  have hz1 := hb1.size
  have R1 := Lib.hid ((two_st w _).below hb1 (by first | omega | (simp; omega) | simp))
  have B1 := Lib.hid ((below_two w _ _).trans (hb1.mono (by first | omega | (simp; omega))))
  clear hb1
  try simp only [World.size_alloc] at hz1
  have hp1 : w.heap.size < w1.heap.size := by omega
  have hq1 : w.heap.size + 1 < w1.heap.size := by omega
  have X1 : Hid (Row w1 w.heap.size 24 [.int .i64 t, .int .u64 d, .int .i64 0]) := Lib.hid ((two_st1 w _ _ _).below hbx (by first | omega | (simp; omega) | simp))
  clear hbx
  go_wp2_with fail
  exact bodyPost_ret (results_st rfl _ _ (w.heap.size + 1) (.int .i64 t) (.int .u64 d) (.int .i64 3) (.bool true) rfl rfl ((st_set R1.out _ _ _).alloc _)) rfl ⟨rfl, (st_setB B1.out (by omega) _ _ _).alloc (by simp [World.setCell]; omega) _⟩
set_option maxHeartbeats 1000000 in
theorem cancel_gone (t d n : Int) (w : World) (hl : n < d) :
    Calls Tryz.prog 11 #[.agg #[.int .i64 t, .int .u64 d, .int .i64 0], .int .u64 n] w fun e w' => e = .returned (.tuple #[.agg #[.int .i64 t, .int .u64 d, .int .i64 4], .bool true]) ∧ Below w.heap.size w w' := by
  have HT := Lib.hid (fun W => tick_no t d n W hl)
  go_enter Tryz.func11, Tryz.ntmps11
  go_wp2_with fail
  refine (HT.out _).mono ?_
  rintro e w1 ⟨rfl, hb1⟩
  have hbx := hb1
  obtain ⟨hc1, hf1⟩ := bcellO hb1
  have hz1 := hb1.size
  have R1 := Lib.hid ((two_st w _).below hb1 (by first | omega | (simp; omega) | simp))
  have B1 := Lib.hid ((below_two w _ _).trans (hb1.mono (by first | omega | (simp; omega))))
  clear hb1
  try simp only [World.size_alloc] at hz1
  have hp1 : w.heap.size < w1.heap.size := by omega
  have hq1 : w.heap.size + 1 < w1.heap.size := by omega
  have X1 : Hid (Row w1 w.heap.size 24 [.int .i64 t, .int .u64 d, .int .i64 0]) := Lib.hid ((two_st1 w _ _ _).below hbx (by first | omega | (simp; omega) | simp))
  clear hbx
  go_wp2_with fail
  refine (over_any _ _ _ _ _).mono ?_
  rintro e w2 ⟨rfl, hb2⟩
  have hbx := hb2
  obtain ⟨hc2, hf2⟩ := bcellO hb2
  have hz2 := hb2.size
  have R2 := Lib.hid ((R1.out.alloc _).below hb2 (by first | omega | (simp; omega) | simp))
  have B2 := Lib.hid ((B1.out.alloc (by omega) _).trans (hb2.mono (by first | omega | (simp; omega))))
  clear hb2
  try simp only [World.size_alloc] at hz2
  have hp2 : w.heap.size < w2.heap.size := by omega
  have hq2 : w.heap.size + 1 < w2.heap.size := by omega
  have X2 : Hid (Row w2 w.heap.size 24 [.int .i64 t, .int .u64 d, .int .i64 0]) := Lib.hid ((X1.out.alloc _).below hbx (by first | omega | (simp; omega) | simp))
  have XS := st_set X2.out (.int .i64 t) (.int .u64 d) (.int .i64 4)
  have s0 := XS.cell 0
  have s1 := XS.cell 1
  have s2 := XS.cell 2
  simp only [List.getElem?_cons_zero, List.getElem?_cons_succ] at s0 s1 s2
  clear hbx
  go_wp2_with fail
  exact bodyPost_ret (results_st rfl _ _ (w.heap.size + 1) (.int .i64 t) (.int .u64 d) (.int .i64 4) (.bool true) rfl rfl (st_set (((R2.out.far (by simp) _).far (by simp) _).far (by simp) _) _ _ _)) rfl ⟨rfl, st_setB (((B2.out.setCell (by simp) _).setCell (by simp) _).setCell (by simp) _) (by omega) _ _ _⟩
end Go.Proofs.YtlmbijhkpgolaaaGreatDoor
