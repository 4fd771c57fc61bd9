/- One act done on both. -/
import Derived.Test.YtcecibopanfmgaaQPair
import Derived.Test.YtcecibopanfmgaaKFill
import Derived.Test.YtcecibopanfmgaaKEq
namespace Go.Proofs.Ytcecibopanfmgaa
open Go.RowKit Go.Maps
set_option linter.unusedVariables false
set_option linter.unusedSimpArgs false

section
variable {T : Nat → Prop} {w w' : World} {p q : Nat} {D E D' E' : DS}
def acV (a : AC) : Value := .agg #[.int .i64 a.what, .int .i64 a.place, .int .u8 a.byte.toNat]
/-- What is known behind an act. -/
def DoPost (T : Nat → Prop) (w : World) (p q : Nat) (D : DS) (e : Ending) (w' : World) : Prop :=
  e = .returned (.bool true) ∧ ∃ D' : DS, Pair T w' p q D' D'.reff ∧ D'.steps ≤ D.steps + 1 ∧ D'.hangs.length ≤ D.hangs.length + 1 ∧ Keeps T w w'

theorem Pair.boxed (h : Pair T w p q D E) (o : Obj) : Pair (fun k => T k ∨ k = w.heap.size) (w.alloc o) p q D E := h.grow ((Below.refl _ _).alloc (Nat.le_refl _) o) (fun k hk => by
  rcases hk with h | h
  · exact .inl h
  · exact .inr ⟨by omega, by simp; omega⟩)
theorem keeps_new (T : Nat → Prop) (w : World) (o : Obj) : Keeps T w (w.alloc o) := Keeps.of_below ((Below.refl w.heap.size w).alloc (Nat.le_refl _) o) (fun k hk _ => hk)

set_option maxRecDepth 20000 in
set_option maxHeartbeats 1000000 in
theorem Do_sync (hP : Pair T w p q D D.reff) (hs : D.steps < 1000000) (hh : D.hangs.length < 1000000) (a : AC) (ha : a.ok) (hv : a.what.tmod 5 = 1 ∨ a.what.tmod 5 = -1) :
    Calls Try.prog 10 #[.pointer (some ⟨p, 0, none⟩), .pointer (some ⟨q, 0, none⟩), acV a] w (DoPost T w p q D) := by
  unfold acV
  obtain ⟨_, hp1, hp2⟩ := ha
  obtain ⟨x1, hx1⟩ : ∃ x, a.what = x := ⟨_, rfl⟩
  obtain ⟨x2, hx2⟩ : ∃ x, a.place = x := ⟨_, rfl⟩
  rw [hx1] at hv
  rw [hx2] at hp1 hp2
  rw [hx1, hx2]
  clear hx1 hx2
  obtain ⟨x3, hx3⟩ : ∃ x, a.byte.toNat = x := ⟨_, rfl⟩
  rw [hx3]
  clear hx3
  have P0 := hP.boxed (.cells #[.int .i64 x1, .int .i64 x2, .int .u8 x3] 31)
  have A0 := Row.new w 31 [.int .i64 x1, .int .i64 x2, .int .u8 x3]
  have K0 := keeps_new T w (.cells #[.int .i64 x1, .int .i64 x2, .int .u8 x3] 31)
  have HSY := Lib.hid (P0.disk (D' := D.synced) (Post := fun e => e = .returned (.int .i64 D.stepErr)) (fun S gl gm hv Dm hS hd => Sync_any hS hd (by omega) (by omega)))
  have HRS : Hid (∀ W, Pair (fun k => T k ∨ k = w.heap.size) W p q D.synced D.reff → Calls Try.prog 24 #[.pointer (some ⟨q, 0, none⟩)] W fun e w' => e = .returned (.int .i64 D.stepErr) ∧ Pair (fun k => T k ∨ k = w.heap.size) w' p q D.synced D.reff.synced ∧ Keeps (fun k => T k ∨ k = w.heap.size) W w') := Lib.hid fun W hW =>
    hW.ref (Post := fun e => e = .returned (.int .i64 D.stepErr)) (fun S gl hv hS hr => by
      have h := RSync_any hr (show D.reff.steps < 1000000000 by show D.steps < _; omega) (show D.reff.hangs.length < 1000000000 by show D.hangs.length < _; omega)
      rw [reff_stepErr] at h
      exact h)
  have HK0 := Lib.hid K0
  obtain ⟨F, hF⟩ : ∃ F, D.stepErr = F := ⟨_, rfl⟩
  rw [hF] at HSY HRS
  clear P0 A0 K0 hP hs hh hp1 hp2 hF
  rcases hv with hv | hv
  · go_enter Try.func10, Try.ntmps10
    go_wp2_with fail
    refine HSY.out.mono ?_
    rintro e w1 ⟨rfl, P1, k1⟩
    have H1 := Lib.hid (And.intro P1 k1)
    clear P1 k1
    go_wp2_with fail
    refine (HRS.out _ H1.out.1).mono ?_
    rintro e w2 ⟨rfl, P2, k2⟩
    have H2 := Lib.hid (And.intro P2 k2)
    clear P2 k2
    go_wp2_with fail
    go_ret
    refine ⟨rfl, D.synced, ?_, (synced_count D).1, (synced_count D).2, HK0.out.trans ((H1.out.2.mono (fun k h => .inl h)).trans (H2.out.2.mono (fun k h => .inl h)))⟩
    rw [reff_synced]
    exact H2.out.1.less (fun k h => .inl h)
  · go_enter Try.func10, Try.ntmps10
    go_wp2_with fail
    refine HSY.out.mono ?_
    rintro e w1 ⟨rfl, P1, k1⟩
    have H1 := Lib.hid (And.intro P1 k1)
    clear P1 k1
    go_wp2_with fail
    refine (HRS.out _ H1.out.1).mono ?_
    rintro e w2 ⟨rfl, P2, k2⟩
    have H2 := Lib.hid (And.intro P2 k2)
    clear P2 k2
    go_wp2_with fail
    go_ret
    refine ⟨rfl, D.synced, ?_, (synced_count D).1, (synced_count D).2, HK0.out.trans ((H1.out.2.mono (fun k h => .inl h)).trans (H2.out.2.mono (fun k h => .inl h)))⟩
    rw [reff_synced]
    exact H2.out.1.less (fun k h => .inl h)

set_option maxRecDepth 20000 in
set_option maxHeartbeats 1000000 in
theorem Do_fuse (hP : Pair T w p q D D.reff) (hs : D.steps < 1000000) (hh : D.hangs.length < 1000000) (a : AC) (ha : a.ok) (hv : a.what.tmod 5 = 3 ∨ a.what.tmod 5 = -3) :
    Calls Try.prog 10 #[.pointer (some ⟨p, 0, none⟩), .pointer (some ⟨q, 0, none⟩), acV a] w (DoPost T w p q D) := by
  unfold acV
  obtain ⟨_, hp1, hp2⟩ := ha
  obtain ⟨x1, hx1⟩ : ∃ x, a.what = x := ⟨_, rfl⟩
  obtain ⟨x2, hx2⟩ : ∃ x, a.place = x := ⟨_, rfl⟩
  rw [hx1] at hv
  rw [hx2] at hp1 hp2
  rw [hx1, hx2]
  clear hx1 hx2
  obtain ⟨x3, hx3⟩ : ∃ x, a.byte.toNat = x := ⟨_, rfl⟩
  rw [hx3]
  clear hx3
  have P0 := hP.boxed (.cells #[.int .i64 x1, .int .i64 x2, .int .u8 x3] 31)
  have A0 := Row.new w 31 [.int .i64 x1, .int .i64 x2, .int .u8 x3]
  have K0 := keeps_new T w (.cells #[.int .i64 x1, .int .i64 x2, .int .u8 x3] 31)
  have HFU := Lib.hid (P0.disk (D' := { D with fuse := x2 }) (Post := fun e => e = .returned (.tuple #[])) (fun S gl gm hv Dm hS hd => (Fuse_any hd x2 hp1 hp2).mono fun e w' ⟨h1, h2, h3⟩ => ⟨h1, ⟨_, _, _, _, h2⟩, h3⟩))
  have HK0 := Lib.hid K0
  have HA := Lib.hid A0
  have HP2 := Lib.hid (And.intro hp1 hp2)
  have c0 := A0.cell 1
  simp only [List.getElem?_cons_zero, List.getElem?_cons_succ] at c0
  clear P0 A0 K0 hP hs hh
  rcases hv with hv | hv
  · go_enter Try.func10, Try.ntmps10
    go_wp2_with fail
    refine HFU.out.mono ?_
    rintro e w1 ⟨rfl, P1, k1⟩
    have a1 : Row w1 w.heap.size 31 [.int .i64 x1, .int .i64 x2, .int .u8 x3] := (k1.block w.heap.size HA.out.lt (.inr rfl)).trans HA.out
    have c1 := a1.cell 1
    simp only [List.getElem?_cons_zero, List.getElem?_cons_succ] at c1
    obtain ⟨S, hS, hTS, hd, gl, hv', hr⟩ := P1
    have r3 := hr.row.cell 3
    have f3 := hr.row.frozen 3
    simp only [List.getElem?_cons_zero, List.getElem?_cons_succ] at r3
    have H1 := Lib.hid (And.intro hS (And.intro hTS (And.intro hd (And.intro hr k1))))
    clear hS hTS hd hr k1 a1
    have fin : Hid (∀ m : Int, m = max x2 (-1) → DoPost T w p q D (.returned (.bool true)) (w1.setCell ⟨q, 3, none⟩ (.int .i64 m))) := Lib.hid fun m hm => by
      obtain ⟨hS, hTS, hd, hr, k1⟩ := H1.out
      have hb : Keeps (fun k => (T k ∨ k = w.heap.size) ∨ (k < w1.heap.size ∧ ¬ S k)) w1 (w1.setCell ⟨q, 3, none⟩ (.int .i64 m)) := (Keeps.refl _ _).setCell (p := ⟨q, 3, none⟩) (.inl hr.fp) _
      have hsz : (w1.setCell ⟨q, 3, none⟩ (.int .i64 m)).heap.size = w1.heap.size := by simp [World.setCell]
      have hr2 : RefAt (fun k => (T k ∨ k = w.heap.size) ∨ (k < w1.heap.size ∧ ¬ S k)) (w1.setCell ⟨q, 3, none⟩ (.int .i64 m)) q gl hv' { D.reff with fuse := m } := hr.rowed rfl rfl (by show _ ≤ m; omega) (by have := HP2.out.2; show m ≤ _; omega) (by
        have := hr.row.set 3 (.int .i64 m)
        simpa using this) (fun g hg => Below.heap_setCell _ _ _ _ hg.symm)
      have e : ({ D with fuse := x2 } : DS).reff = { D.reff with fuse := m } := by rw [hm]; rfl
      refine ⟨rfl, { D with fuse := x2 }, ?_, Nat.le_succ _, Nat.le_succ _, HK0.out.trans ((k1.mono (fun k h => .inl h)).setCell (p := ⟨q, 3, none⟩) (.inl (fun h => hr.fp (.inl (.inl h)))) _)⟩
      rw [e]
      refine Pair.less (T := fun k => T k ∨ k = w.heap.size) ⟨S, fun k h => by rw [hsz]; exact hS k h, hTS, hd.keeps hb (fun g hg hn => Or.inr ⟨hg, hn⟩), gl, hv', ?_⟩ (fun k h => .inl h)
      rw [hsz]
      exact hr2
    go_wp2
    all_goals
      go_ret
      exact fin.out _ (by omega)
  · go_enter Try.func10, Try.ntmps10
    go_wp2_with fail
    refine HFU.out.mono ?_
    rintro e w1 ⟨rfl, P1, k1⟩
    have a1 : Row w1 w.heap.size 31 [.int .i64 x1, .int .i64 x2, .int .u8 x3] := (k1.block w.heap.size HA.out.lt (.inr rfl)).trans HA.out
    have c1 := a1.cell 1
    simp only [List.getElem?_cons_zero, List.getElem?_cons_succ] at c1
    obtain ⟨S, hS, hTS, hd, gl, hv', hr⟩ := P1
    have r3 := hr.row.cell 3
    have f3 := hr.row.frozen 3
    simp only [List.getElem?_cons_zero, List.getElem?_cons_succ] at r3
    have H1 := Lib.hid (And.intro hS (And.intro hTS (And.intro hd (And.intro hr k1))))
    clear hS hTS hd hr k1 a1
    have fin : Hid (∀ m : Int, m = max x2 (-1) → DoPost T w p q D (.returned (.bool true)) (w1.setCell ⟨q, 3, none⟩ (.int .i64 m))) := Lib.hid fun m hm => by
      obtain ⟨hS, hTS, hd, hr, k1⟩ := H1.out
      have hb : Keeps (fun k => (T k ∨ k = w.heap.size) ∨ (k < w1.heap.size ∧ ¬ S k)) w1 (w1.setCell ⟨q, 3, none⟩ (.int .i64 m)) := (Keeps.refl _ _).setCell (p := ⟨q, 3, none⟩) (.inl hr.fp) _
      have hsz : (w1.setCell ⟨q, 3, none⟩ (.int .i64 m)).heap.size = w1.heap.size := by simp [World.setCell]
      have hr2 : RefAt (fun k => (T k ∨ k = w.heap.size) ∨ (k < w1.heap.size ∧ ¬ S k)) (w1.setCell ⟨q, 3, none⟩ (.int .i64 m)) q gl hv' { D.reff with fuse := m } := hr.rowed rfl rfl (by show _ ≤ m; omega) (by have := HP2.out.2; show m ≤ _; omega) (by
        have := hr.row.set 3 (.int .i64 m)
        simpa using this) (fun g hg => Below.heap_setCell _ _ _ _ hg.symm)
      have e : ({ D with fuse := x2 } : DS).reff = { D.reff with fuse := m } := by rw [hm]; rfl
      refine ⟨rfl, { D with fuse := x2 }, ?_, Nat.le_succ _, Nat.le_succ _, HK0.out.trans ((k1.mono (fun k h => .inl h)).setCell (p := ⟨q, 3, none⟩) (.inl (fun h => hr.fp (.inl (.inl h)))) _)⟩
      rw [e]
      refine Pair.less (T := fun k => T k ∨ k = w.heap.size) ⟨S, fun k h => by rw [hsz]; exact hS k h, hTS, hd.keeps hb (fun g hg hn => Or.inr ⟨hg, hn⟩), gl, hv', ?_⟩ (fun k h => .inl h)
      rw [hsz]
      exact hr2
    go_wp2
    all_goals
      go_ret
      exact fin.out _ (by omega)

set_option maxRecDepth 20000 in
set_option maxHeartbeats 1000000 in
theorem Do_crash (hP : Pair T w p q D D.reff) (hs : D.steps < 1000000) (hh : D.hangs.length < 1000000) (a : AC) (ha : a.ok) (hv : a.what.tmod 5 = 4 ∨ a.what.tmod 5 = -4) :
    Calls Try.prog 10 #[.pointer (some ⟨p, 0, none⟩), .pointer (some ⟨q, 0, none⟩), acV a] w (DoPost T w p q D) := by
  unfold acV
  obtain ⟨_, hp1, hp2⟩ := ha
  obtain ⟨x1, hx1⟩ : ∃ x, a.what = x := ⟨_, rfl⟩
  obtain ⟨x2, hx2⟩ : ∃ x, a.place = x := ⟨_, rfl⟩
  rw [hx1] at hv
  rw [hx2] at hp1 hp2
  rw [hx1, hx2]
  clear hx1 hx2
  obtain ⟨x3, hx3⟩ : ∃ x, a.byte.toNat = x := ⟨_, rfl⟩
  rw [hx3]
  clear hx3
  have P0 := hP.boxed (.cells #[.int .i64 x1, .int .i64 x2, .int .u8 x3] 31)
  have A0 := Row.new w 31 [.int .i64 x1, .int .i64 x2, .int .u8 x3]
  have K0 := keeps_new T w (.cells #[.int .i64 x1, .int .i64 x2, .int .u8 x3] 31)
  have HCR := Lib.hid (P0.disk (D' := D.crashed x2) (Post := fun e => e = .returned (.tuple #[])) (fun S gl gm hv Dm hS hd => Crash_any hS hd x2 hp1 hp2 (by omega)))
  have HRC : Hid (∀ W, Pair (fun k => T k ∨ k = w.heap.size) W p q (D.crashed x2) D.reff → Calls Try.prog 26 #[.pointer (some ⟨q, 0, none⟩), .int .i64 x2] W fun e w' => e = .returned (.tuple #[]) ∧ Pair (fun k => T k ∨ k = w.heap.size) w' p q (D.crashed x2) (D.crashed x2).reff ∧ Keeps (fun k => T k ∨ k = w.heap.size) W w') := Lib.hid fun W hW =>
    hW.ref (Post := fun e => e = .returned (.tuple #[])) (fun S gl hv hS hr => by
      have h := RCrash_any hr x2 hp1 hp2 (show D.reff.hangs.length < 1000000000 by show D.hangs.length < _; omega)
      rw [← reff_crashed] at h
      exact h)
  have HK0 := Lib.hid K0
  have HA := Lib.hid A0
  have c0 := A0.cell 1
  simp only [List.getElem?_cons_zero, List.getElem?_cons_succ] at c0
  clear P0 A0 K0 hP hs hh hp1 hp2
  rcases hv with hv | hv
  · go_enter Try.func10, Try.ntmps10
    go_wp2_with fail
    refine HCR.out.mono ?_
    rintro e w1 ⟨rfl, P1, k1⟩
    have a1 : Row w1 w.heap.size 31 [.int .i64 x1, .int .i64 x2, .int .u8 x3] := (k1.block w.heap.size HA.out.lt (.inr rfl)).trans HA.out
    have c1 := a1.cell 1
    simp only [List.getElem?_cons_zero, List.getElem?_cons_succ] at c1
    have H1 := Lib.hid (And.intro P1 k1)
    clear P1 k1 a1
    go_wp2_with fail
    refine (HRC.out _ H1.out.1).mono ?_
    rintro e w2 ⟨rfl, P2, k2⟩
    have H2 := Lib.hid (And.intro P2 k2)
    clear P2 k2
    go_wp2
    go_ret
    exact ⟨rfl, D.crashed x2, H2.out.1.less (fun k h => .inl h), Nat.le_succ _, Nat.zero_le _, HK0.out.trans ((H1.out.2.mono (fun k h => .inl h)).trans (H2.out.2.mono (fun k h => .inl h)))⟩
  · go_enter Try.func10, Try.ntmps10
    go_wp2_with fail
    refine HCR.out.mono ?_
    rintro e w1 ⟨rfl, P1, k1⟩
    have a1 : Row w1 w.heap.size 31 [.int .i64 x1, .int .i64 x2, .int .u8 x3] := (k1.block w.heap.size HA.out.lt (.inr rfl)).trans HA.out
    have c1 := a1.cell 1
    simp only [List.getElem?_cons_zero, List.getElem?_cons_succ] at c1
    have H1 := Lib.hid (And.intro P1 k1)
    clear P1 k1 a1
    go_wp2_with fail
    refine (HRC.out _ H1.out.1).mono ?_
    rintro e w2 ⟨rfl, P2, k2⟩
    have H2 := Lib.hid (And.intro P2 k2)
    clear P2 k2
    go_wp2
    go_ret
    exact ⟨rfl, D.crashed x2, H2.out.1.less (fun k h => .inl h), Nat.le_succ _, Nat.zero_le _, HK0.out.trans ((H1.out.2.mono (fun k h => .inl h)).trans (H2.out.2.mono (fun k h => .inl h)))⟩

set_option maxRecDepth 20000 in
set_option maxHeartbeats 1000000 in
theorem Do_read (hP : Pair T w p q D D.reff) (hs : D.steps < 1000000) (hh : D.hangs.length < 1000000) (a : AC) (ha : a.ok) (hv : a.what.tmod 5 = 2 ∨ a.what.tmod 5 = -2) :
    Calls Try.prog 10 #[.pointer (some ⟨p, 0, none⟩), .pointer (some ⟨q, 0, none⟩), acV a] w (DoPost T w p q D) := by
  unfold acV
  obtain ⟨_, hp1, hp2⟩ := ha
  obtain ⟨x1, hx1⟩ : ∃ x, a.what = x := ⟨_, rfl⟩
  obtain ⟨x2, hx2⟩ : ∃ x, a.place = x := ⟨_, rfl⟩
  rw [hx1] at hv
  rw [hx2] at hp1 hp2
  rw [hx1, hx2]
  clear hx1 hx2
  obtain ⟨x3, hx3⟩ : ∃ x, a.byte.toNat = x := ⟨_, rfl⟩
  rw [hx3]
  clear hx3
  have P0 := hP.boxed (.cells #[.int .i64 x1, .int .i64 x2, .int .u8 x3] 31)
  have A0 := Row.new w 31 [.int .i64 x1, .int .i64 x2, .int .u8 x3]
  have K0 := keeps_new T w (.cells #[.int .i64 x1, .int .i64 x2, .int .u8 x3] 31)
  have hz := (zero_of_info zB_info).1
  have c0 := A0.cell 1
  simp only [List.getElem?_cons_zero, List.getElem?_cons_succ] at c0
  obtain ⟨Z, hZ⟩ : ∃ Z, zB = Z := ⟨_, rfl⟩
  have hZl : Z.length = 128 := by rw [← hZ]; exact zB_len
  rw [hZ] at hz
  obtain ⟨S0, gl0, gm0, hv0, Dm0, hd0⟩ := P0.diskAt
  obtain ⟨RB, hRB⟩ : ∃ RB, (D.read x2).map bv = RB := ⟨_, rfl⟩
  have hrl := read_len hd0.good x2
  have hRBl : RB.length = 128 := by rw [← hRB, List.length_map, hrl]
  have hRsz := blk_size _ hrl
  have hRone := blkV_one (D.read x2)
  have hRV : blkV (D.read x2) = .agg RB.toArray := by unfold blkV; rw [hRB]
  have hEQ := fun W => blk_same (D.read x2) hrl W
  rw [hRB] at hRsz hRone
  rw [hRV] at hEQ
  obtain ⟨F, hF⟩ : ∃ F, D.fault x2 = F := ⟨_, rfl⟩
  have HZ := Lib.hid (And.intro hZ (And.intro hZl (And.intro hRBl (And.intro hRsz hRone))))
  have HNEW : Hid (∀ W : World, Row (W.alloc (.cells Z.toArray 42)) W.heap.size 42 Z ∧ Below W.heap.size W ((W.alloc (.cells Z.toArray 42)).setRow W.heap.size RB.toArray) ∧ Row ((W.alloc (.cells Z.toArray 42)).setRow W.heap.size RB.toArray) W.heap.size 42 RB) := Lib.hid fun W =>
    ⟨Row.new W 42 Z, below_setRow (B := W.heap.size) ((Below.refl W.heap.size W).alloc (Nat.le_refl _) _) (Nat.le_refl _) _, (Row.new W 42 Z).put _⟩
  have HRG : Hid (∀ (W : World) (g : Nat), Row W g 42 RB → W.rangeAt g 0 RB) := Lib.hid fun W g hr j v hj => by rw [Nat.zero_add, hr.cell]; exact hj
  have HRD := Lib.hid (Read_any hd0 x2)
  rw [hRV, hF] at HRD
  obtain ⟨w0, hw0⟩ : ∃ w0, w.alloc (.cells #[.int .i64 x1, .int .i64 x2, .int .u8 x3] 31) = w0 := ⟨_, rfl⟩
  have hsb : w.heap.size < w0.heap.size := by rw [← hw0]; simp
  rw [hw0] at P0 A0 K0
  have HRR : Hid (∀ w1 w2 : World, Below w0.heap.size w0 w1 → Below w1.heap.size w1 w2 → Calls Try.prog 25 #[.pointer (some ⟨q, 0, none⟩), .int .i64 x2] w2 fun e w' => e = .returned (.tuple #[.agg RB.toArray, .int .i64 F]) ∧ Below w2.heap.size w2 w') := Lib.hid fun w1 w2 h1 h2 => by
    obtain ⟨S, gl, hv, hr⟩ := P0.refAt
    have h := RRead_any ((hr.below h1).below h2) x2 (show D.hangs.length < 1000000000 by omega)
    rw [reff_read, reff_fault, hRV, hF] at h
    exact h
  have HA1 : Hid (∀ w1 w2 : World, Below w0.heap.size w0 w1 → Below w1.heap.size w1 w2 → w2.cell? ⟨w.heap.size, 1, none⟩ = some (.int .i64 x2)) := Lib.hid fun w1 w2 h1 h2 => by
    have h := ((A0.below h1 A0.lt).below h2 (A0.below h1 A0.lt).lt).cell 1
    simp only [List.getElem?_cons_zero, List.getElem?_cons_succ] at h
    exact h
  have HFB : Hid (∀ w1 w2 w3 w4 : World, Below w0.heap.size w0 w1 → Below w1.heap.size w1 w2 → Below w2.heap.size w2 w3 → Below w3.heap.size w3 w4 → Pair T w4 p q D D.reff ∧ Keeps T w w4) := Lib.hid fun w1 w2 w3 w4 h1 h2 h3 h4 =>
    ⟨((((P0.below h1).below h2).below h3).below h4).less (fun k h => .inl h), (((K0.trans (Keeps.of_below h1 (fun k hk _ => hk))).trans (Keeps.of_below h2 (fun k hk _ => hk))).trans (Keeps.of_below h3 (fun k hk _ => hk))).trans (Keeps.of_below h4 (fun k hk _ => hk))⟩
  rw [hw0] at HRD
  have hw0' := hw0.symm
  subst hw0'
  clear P0 A0 K0 hP hs hh hp1 hp2 hZ hZl hRB hrl hRBl hRsz hRone hRV hF hd0 hsb
  rcases hv with hv | hv
  · go_enter Try.func10, Try.ntmps10
    go_wp2_with fail
    refine HRD.out.mono ?_
    rintro e w1 ⟨rfl, hb1⟩
    have HB1 := Lib.hid hb1
    clear hb1
    go_wp2_with (first
      | (refine wpList_store_row rfl 42 (.tmp 7) (.tmp 45) rfl w1.heap.size RB.toArray rfl rfl 42 Z.toArray (HNEW.out w1).1 (by rw [List.size_toArray]; exact HZ.out.2.2.2.1) (by rw [List.size_toArray, List.size_toArray, HZ.out.2.1, HZ.out.2.2.1]) HZ.out.2.2.2.2 ?_; have hN := (HNEW.out w1).2; generalize (w1.alloc (.cells Z.toArray 42)).setRow w1.heap.size RB.toArray = w2 at hN ⊢; have HN := Lib.hid hN; have c1 := HA1.out w1 w2 HB1.out hN.1; clear hN)
      | fail)
    refine (HRR.out w1 w2 HB1.out HN.out.1).mono ?_
    rintro e w3 ⟨rfl, hb3⟩
    have HB3 := Lib.hid hb3
    clear hb3
    go_wp2_with (first
      | (refine wpList_store_row rfl 42 (.tmp 9) (.tmp 52) rfl w3.heap.size RB.toArray rfl rfl 42 Z.toArray (HNEW.out w3).1 (by rw [List.size_toArray]; exact HZ.out.2.2.2.1) (by rw [List.size_toArray, List.size_toArray, HZ.out.2.1, HZ.out.2.2.1]) HZ.out.2.2.2.2 ?_; have hN3 := (HNEW.out w3).2; generalize (w3.alloc (.cells Z.toArray 42)).setRow w3.heap.size RB.toArray = w4 at hN3 ⊢; have HL := Lib.hid (And.intro (HN.out.2.below (HB3.out.trans (hN3.1.mono HB3.out.size)) HN.out.2.lt) (And.intro hN3.2 (HFB.out w1 w2 w3 w4 HB1.out HN.out.1 HB3.out hN3.1))); clear hN3)
      | (with_reducible refine wpList_load_mid rfl 42 (.tmp 7) rfl w1.heap.size 0 rfl RB _ (HRG.out _ _ HL.out.1) Try.underlying42 rfl HZ.out.2.2.2.1 ?_)
      | (with_reducible refine wpList_load_mid rfl 42 (.tmp 9) rfl w3.heap.size 0 rfl RB _ (HRG.out _ _ HL.out.2.1) Try.underlying42 rfl HZ.out.2.2.2.1 ?_)
      | fail)
    go_ret
    exact ⟨rfl, D, HL.out.2.2.1, Nat.le_succ _, Nat.le_succ _, HL.out.2.2.2⟩
  · go_enter Try.func10, Try.ntmps10
    go_wp2_with fail
    refine HRD.out.mono ?_
    rintro e w1 ⟨rfl, hb1⟩
    have HB1 := Lib.hid hb1
    clear hb1
    go_wp2_with (first
      | (refine wpList_store_row rfl 42 (.tmp 7) (.tmp 45) rfl w1.heap.size RB.toArray rfl rfl 42 Z.toArray (HNEW.out w1).1 (by rw [List.size_toArray]; exact HZ.out.2.2.2.1) (by rw [List.size_toArray, List.size_toArray, HZ.out.2.1, HZ.out.2.2.1]) HZ.out.2.2.2.2 ?_; have hN := (HNEW.out w1).2; generalize (w1.alloc (.cells Z.toArray 42)).setRow w1.heap.size RB.toArray = w2 at hN ⊢; have HN := Lib.hid hN; have c1 := HA1.out w1 w2 HB1.out hN.1; clear hN)
      | fail)
    refine (HRR.out w1 w2 HB1.out HN.out.1).mono ?_
    rintro e w3 ⟨rfl, hb3⟩
    have HB3 := Lib.hid hb3
    clear hb3
    go_wp2_with (first
      | (refine wpList_store_row rfl 42 (.tmp 9) (.tmp 52) rfl w3.heap.size RB.toArray rfl rfl 42 Z.toArray (HNEW.out w3).1 (by rw [List.size_toArray]; exact HZ.out.2.2.2.1) (by rw [List.size_toArray, List.size_toArray, HZ.out.2.1, HZ.out.2.2.1]) HZ.out.2.2.2.2 ?_; have hN3 := (HNEW.out w3).2; generalize (w3.alloc (.cells Z.toArray 42)).setRow w3.heap.size RB.toArray = w4 at hN3 ⊢; have HL := Lib.hid (And.intro (HN.out.2.below (HB3.out.trans (hN3.1.mono HB3.out.size)) HN.out.2.lt) (And.intro hN3.2 (HFB.out w1 w2 w3 w4 HB1.out HN.out.1 HB3.out hN3.1))); clear hN3)
      | (with_reducible refine wpList_load_mid rfl 42 (.tmp 7) rfl w1.heap.size 0 rfl RB _ (HRG.out _ _ HL.out.1) Try.underlying42 rfl HZ.out.2.2.2.1 ?_)
      | (with_reducible refine wpList_load_mid rfl 42 (.tmp 9) rfl w3.heap.size 0 rfl RB _ (HRG.out _ _ HL.out.2.1) Try.underlying42 rfl HZ.out.2.2.2.1 ?_)
      | fail)
    go_ret
    exact ⟨rfl, D, HL.out.2.2.1, Nat.le_succ _, Nat.le_succ _, HL.out.2.2.2⟩

set_option maxRecDepth 20000 in
set_option maxHeartbeats 1000000 in
theorem Do_write (hP : Pair T w p q D D.reff) (hs : D.steps < 1000000) (hh : D.hangs.length < 1000000) (a : AC) (ha : a.ok) (hv : a.what.tmod 5 = 0) :
    Calls Try.prog 10 #[.pointer (some ⟨p, 0, none⟩), .pointer (some ⟨q, 0, none⟩), acV a] w (DoPost T w p q D) := by
  unfold acV
  obtain ⟨_, hp1, hp2⟩ := ha
  obtain ⟨x1, hx1⟩ : ∃ x, a.what = x := ⟨_, rfl⟩
  obtain ⟨x2, hx2⟩ : ∃ x, a.place = x := ⟨_, rfl⟩
  rw [hx1] at hv
  rw [hx2] at hp1 hp2
  rw [hx1, hx2]
  clear hx1 hx2
  obtain ⟨c8, hc8⟩ : ∃ x, a.byte = x := ⟨_, rfl⟩
  rw [hc8]
  clear hc8
  have P0 := hP.boxed (.cells #[.int .i64 x1, .int .i64 x2, .int .u8 c8.toNat] 31)
  have A0 := Row.new w 31 [.int .i64 x1, .int .i64 x2, .int .u8 c8.toNat]
  have K0 := keeps_new T w (.cells #[.int .i64 x1, .int .i64 x2, .int .u8 c8.toNat] 31)
  obtain ⟨C, hC⟩ : ∃ C, (fillB c8).map bv = C := ⟨_, rfl⟩
  have hV : blkV (fillB c8) = .agg C.toArray := by unfold blkV; rw [hC]
  have HFL : Hid (∀ W : World, Calls Try.prog 15 #[.int .u8 c8.toNat] W fun e w' => e = .returned (.agg C.toArray) ∧ Below W.heap.size W w') := Lib.hid fun W => by
    have h := fill_any (w := W) c8
    rw [hV] at h
    exact h
  have HDW : Hid (∀ W, Pair (fun k => T k ∨ k = w.heap.size) W p q D D.reff → Calls Try.prog 14 #[.pointer (some ⟨p, 0, none⟩), .int .i64 x2, .agg C.toArray] W fun e w' => e = .returned (.int .i64 (D.writeErr x2)) ∧ Pair (fun k => T k ∨ k = w.heap.size) w' p q (D.written x2 (fillB c8)) D.reff ∧ Keeps (fun k => T k ∨ k = w.heap.size) W w') := Lib.hid fun W hW =>
    hW.disk (Post := fun e => e = .returned (.int .i64 (D.writeErr x2))) (fun S gl gm hv Dm hS hd => by
      have h := Write_any hS hd x2 (fillB c8) (fillB_len c8) (by omega) (by omega)
      rw [hV] at h
      exact h)
  have HRW : Hid (∀ W, Pair (fun k => T k ∨ k = w.heap.size) W p q (D.written x2 (fillB c8)) D.reff → Calls Try.prog 27 #[.pointer (some ⟨q, 0, none⟩), .int .i64 x2, .agg C.toArray] W fun e w' => e = .returned (.int .i64 (D.writeErr x2)) ∧ Pair (fun k => T k ∨ k = w.heap.size) w' p q (D.written x2 (fillB c8)) (D.written x2 (fillB c8)).reff ∧ Keeps (fun k => T k ∨ k = w.heap.size) W w') := Lib.hid fun W hW =>
    hW.ref (Post := fun e => e = .returned (.int .i64 (D.writeErr x2))) (fun S gl hv hS hr => by
      have h := RWrite_any hS hr x2 (fillB c8) (fillB_len c8) (show D.reff.steps < 1000000000 by show D.steps < _; omega) (show D.reff.hangs.length < 1000000000 by show D.hangs.length < _; omega)
      rw [reff_writeErr, ← reff_written, hV] at h
      exact h)
  obtain ⟨F, hF⟩ : ∃ F, D.writeErr x2 = F := ⟨_, rfl⟩
  rw [hF] at HDW HRW
  have HK0 := Lib.hid K0
  have HA := Lib.hid A0
  have HP := Lib.hid P0
  clear P0 A0 K0 hP hs hh hp1 hp2 hC hV hF
  go_enter Try.func10, Try.ntmps10
  go_wp2_with fail
  try simp only [Act.put, List.setIfInBounds_toArray, List.set_cons_zero, List.set_cons_succ]
  obtain ⟨g, hg⟩ : ∃ g, w.heap.size = g := ⟨_, rfl⟩
  rw [hg] at HA HDW HRW HP ⊢
  clear hg
  generalize w.alloc (.cells #[.int .i64 x1, .int .i64 x2, .int .u8 c8.toNat] 31) = W0 at HA HP HK0 ⊢
  refine wp_region_noPanic ?_
  refine wp_region_held_drew (S := fun W => Row W g 31 [.int .i64 x1, .int .i64 x2, .int .u8 c8.toNat]) (by kernel_rfl) HA.out.drew (fun hHeld => ?_)
  refine wpAnyH_take (i := 0) (oi := { dst := some 14, op := Op.move (Operand.tmp 0), type := 24, pos := "law.go:56", after := #[], guard := none }) (v := ?vvd_0) rfl (by kernel_rfl) (by kernel_rfl) (by kernel_rfl) (fun _ _ _ h => h) (Or.inl ⟨by rfl, ?yyd_0⟩) hHeld ?_
  case vvd_0 => exact .pointer (some ⟨p, 0, none⟩)
  case yyd_0 =>
    intro W hS
    go_simp
  try simp only [Act.put, List.setIfInBounds_toArray, List.set_cons_zero, List.set_cons_succ]
  refine wpAnyH_take (i := 1) (oi := { dst := some 15, op := Op.fieldAddr 31 (Operand.tmp 5) 1, type := 0, pos := "law.go:56", after := #[], guard := none }) (v := ?vvd_1) rfl (by kernel_rfl) (by kernel_rfl) (by kernel_rfl) (fun _ _ _ h => h) (Or.inl ⟨by rfl, ?yyd_1⟩) hHeld ?_
  case vvd_1 => exact .pointer (some ⟨g, 1, none⟩)
  case yyd_1 =>
    intro W hS
    go_simp
  try simp only [Act.put, List.setIfInBounds_toArray, List.set_cons_zero, List.set_cons_succ]
  refine wpAnyH_take (i := 2) (oi := { dst := some 16, op := Op.load 3 (Operand.tmp 15), type := 3, pos := "law.go:56", after := #[{ on := 1, ground := Ground.data }], guard := none }) (v := ?vvd_2) rfl (by kernel_rfl) (by kernel_rfl) (by kernel_rfl) (fun _ _ _ h => h) (Or.inl ⟨by rfl, ?yyd_2⟩) hHeld ?_
  case vvd_2 => exact .int .i64 x2
  case yyd_2 =>
    intro W hS
    have q0 := Row.cell hS 1
    simp only [List.getElem?_cons_zero, List.getElem?_cons_succ] at q0
    go_simp
  try simp only [Act.put, List.setIfInBounds_toArray, List.set_cons_zero, List.set_cons_succ]
  refine wpAnyH_take (i := 3) (oi := { dst := some 17, op := Op.fieldAddr 31 (Operand.tmp 5) 2, type := 0, pos := "law.go:56", after := #[], guard := none }) (v := ?vvd_3) rfl (by kernel_rfl) (by kernel_rfl) (by kernel_rfl) (fun _ _ _ h => h) (Or.inl ⟨by rfl, ?yyd_3⟩) hHeld ?_
  case vvd_3 => exact .pointer (some ⟨g, 2, none⟩)
  case yyd_3 =>
    intro W hS
    go_simp
  try simp only [Act.put, List.setIfInBounds_toArray, List.set_cons_zero, List.set_cons_succ]
  refine wpAnyH_take (i := 4) (oi := { dst := some 18, op := Op.load 5 (Operand.tmp 17), type := 5, pos := "law.go:56", after := #[{ on := 3, ground := Ground.data }], guard := none }) (v := ?vvd_4) rfl (by kernel_rfl) (by kernel_rfl) (by kernel_rfl) (fun _ _ _ h => h) (Or.inl ⟨by rfl, ?yyd_4⟩) hHeld ?_
  case vvd_4 => exact .int .u8 c8.toNat
  case yyd_4 =>
    intro W hS
    have q0 := Row.cell hS 2
    simp only [List.getElem?_cons_zero, List.getElem?_cons_succ] at q0
    go_simp
  try simp only [Act.put, List.setIfInBounds_toArray, List.set_cons_zero, List.set_cons_succ]
  refine wpAnyH_take (i := 7) (oi := { dst := some 21, op := Op.move (Operand.tmp 1), type := 28, pos := "law.go:56", after := #[], guard := none }) (v := ?vvd_7) rfl (by kernel_rfl) (by kernel_rfl) (by kernel_rfl) (fun _ _ _ h => h) (Or.inl ⟨by rfl, ?yyd_7⟩) hHeld ?_
  case vvd_7 => exact .pointer (some ⟨q, 0, none⟩)
  case yyd_7 =>
    intro W hS
    go_simp
  try simp only [Act.put, List.setIfInBounds_toArray, List.set_cons_zero, List.set_cons_succ]
  refine wpAnyH_take (i := 8) (oi := { dst := some 22, op := Op.fieldAddr 31 (Operand.tmp 5) 1, type := 0, pos := "law.go:56", after := #[], guard := none }) (v := ?vvd_8) rfl (by kernel_rfl) (by kernel_rfl) (by kernel_rfl) (fun _ _ _ h => h) (Or.inl ⟨by rfl, ?yyd_8⟩) hHeld ?_
  case vvd_8 => exact .pointer (some ⟨g, 1, none⟩)
  case yyd_8 =>
    intro W hS
    go_simp
  try simp only [Act.put, List.setIfInBounds_toArray, List.set_cons_zero, List.set_cons_succ]
  refine wpAnyH_take (i := 9) (oi := { dst := some 23, op := Op.load 3 (Operand.tmp 22), type := 3, pos := "law.go:56", after := #[{ on := 8, ground := Ground.data }], guard := none }) (v := ?vvd_9) rfl (by kernel_rfl) (by kernel_rfl) (by kernel_rfl) (fun _ _ _ h => h) (Or.inl ⟨by rfl, ?yyd_9⟩) hHeld ?_
  case vvd_9 => exact .int .i64 x2
  case yyd_9 =>
    intro W hS
    have q0 := Row.cell hS 1
    simp only [List.getElem?_cons_zero, List.getElem?_cons_succ] at q0
    go_simp
  try simp only [Act.put, List.setIfInBounds_toArray, List.set_cons_zero, List.set_cons_succ]
  refine wpAnyH_take (i := 10) (oi := { dst := some 24, op := Op.fieldAddr 31 (Operand.tmp 5) 2, type := 0, pos := "law.go:56", after := #[], guard := none }) (v := ?vvd_10) rfl (by kernel_rfl) (by kernel_rfl) (by kernel_rfl) (fun _ _ _ h => h) (Or.inl ⟨by rfl, ?yyd_10⟩) hHeld ?_
  case vvd_10 => exact .pointer (some ⟨g, 2, none⟩)
  case yyd_10 =>
    intro W hS
    go_simp
  try simp only [Act.put, List.setIfInBounds_toArray, List.set_cons_zero, List.set_cons_succ]
  refine wpAnyH_take (i := 11) (oi := { dst := some 25, op := Op.load 5 (Operand.tmp 24), type := 5, pos := "law.go:56", after := #[{ on := 10, ground := Ground.data }], guard := none }) (v := ?vvd_11) rfl (by kernel_rfl) (by kernel_rfl) (by kernel_rfl) (fun _ _ _ h => h) (Or.inl ⟨by rfl, ?yyd_11⟩) hHeld ?_
  case vvd_11 => exact .int .u8 c8.toNat
  case yyd_11 =>
    intro W hS
    have q0 := Row.cell hS 2
    simp only [List.getElem?_cons_zero, List.getElem?_cons_succ] at q0
    go_simp
  try simp only [Act.put, List.setIfInBounds_toArray, List.set_cons_zero, List.set_cons_succ]
  refine wpAnyH_ready (rs := [5]) (by kernel_rfl) (by simp) (AllReadyH.cons (o := { dst := some 19, op := Op.call { callee := Callee.value (Operand.func 15), args := #[Operand.tmp 18], argTypes := #[5] }, type := 42, pos := "law.go:56", after := #[{ on := 4, ground := Ground.data }], guard := none }) rfl (fun K hK => ?_) AllReadyH.nil)
  go_simp
  go_at_call 15
  refine (HFL.out _).mono ?_
  rintro e w1 ⟨rfl, hb1⟩
  have P1 := (HP.out.below (below_drewN (Below.refl _ _) 1)).below hb1
  have a1 := (HA.out.drew).below hb1 (HA.out.drew).lt
  have K1 := Keeps.of_below (L := T) ((below_drewN (Below.refl W0.heap.size W0) 1).trans hb1) (fun k hk hl => hk)
  have H1 := Lib.hid (And.intro P1 (And.intro a1 K1))
  refine hK.out _ _ a1 (fun hHeld => ?_)
  clear hK K hb1 P1 a1 K1
  try simp only [Act.put, List.setIfInBounds_toArray, List.set_cons_zero, List.set_cons_succ]
  refine wpAnyH_ready (rs := [6]) (by kernel_rfl) (by simp) (AllReadyH.cons (o := { dst := some 20, op := Op.call { callee := Callee.value (Operand.func 14), args := #[Operand.tmp 14, Operand.tmp 16, Operand.tmp 19], argTypes := #[24, 3, 42] }, type := 25, pos := "law.go:56", after := #[{ on := 0, ground := Ground.data }, { on := 2, ground := Ground.data }, { on := 5, ground := Ground.data }, { on := 5, ground := Ground.chain }], guard := none }) rfl (fun K hK => ?_) AllReadyH.nil)
  go_simp
  go_at_call 14
  refine (HDW.out _ H1.out.1).mono ?_
  rintro e w2 ⟨rfl, P2, k2⟩
  have a2 : Row w2 g 31 [.int .i64 x1, .int .i64 x2, .int .u8 c8.toNat] := (k2.block g H1.out.2.1.lt (.inr rfl)).trans H1.out.2.1
  have H2 := Lib.hid (And.intro P2 (And.intro a2 k2))
  refine hK.out _ _ a2 (fun hHeld => ?_)
  clear hK K P2 a2 k2
  try simp only [Act.put, List.setIfInBounds_toArray, List.set_cons_zero, List.set_cons_succ]
  refine wpAnyH_ready (rs := [12]) (by kernel_rfl) (by simp) (AllReadyH.cons (o := { dst := some 26, op := Op.call { callee := Callee.value (Operand.func 15), args := #[Operand.tmp 25], argTypes := #[5] }, type := 42, pos := "law.go:56", after := #[{ on := 11, ground := Ground.data }, { on := 6, ground := Ground.chain }], guard := none }) rfl (fun K hK => ?_) AllReadyH.nil)
  go_simp
  go_at_call 15
  refine (HFL.out _).mono ?_
  rintro e w3 ⟨rfl, hb3⟩
  have P3 := H2.out.1.below hb3
  have a3 := H2.out.2.1.below hb3 H2.out.2.1.lt
  have K3 := Keeps.of_below (L := T) hb3 (fun k hk hl => hk)
  have H3 := Lib.hid (And.intro P3 (And.intro a3 K3))
  refine hK.out _ _ a3 (fun hHeld => ?_)
  clear hK K hb3 P3 a3 K3
  try simp only [Act.put, List.setIfInBounds_toArray, List.set_cons_zero, List.set_cons_succ]
  refine wpAnyH_ready (rs := [13]) (by kernel_rfl) (by simp) (AllReadyH.cons (o := { dst := some 27, op := Op.call { callee := Callee.value (Operand.func 27), args := #[Operand.tmp 21, Operand.tmp 23, Operand.tmp 26], argTypes := #[28, 3, 42] }, type := 3, pos := "law.go:56", after := #[{ on := 7, ground := Ground.data }, { on := 9, ground := Ground.data }, { on := 12, ground := Ground.data }, { on := 12, ground := Ground.chain }], guard := none }) rfl (fun K hK => ?_) AllReadyH.nil)
  go_simp
  go_at_call 27
  refine (HRW.out _ H3.out.1).mono ?_
  rintro e w4 ⟨rfl, P4, k4⟩
  have a4 : Row w4 g 31 [.int .i64 x1, .int .i64 x2, .int .u8 c8.toNat] := (k4.block g H3.out.2.1.lt (.inr rfl)).trans H3.out.2.1
  have H4 := Lib.hid (And.intro P4 (And.intro a4 k4))
  refine hK.out _ _ a4 (fun hHeld => ?_)
  clear hK K P4 a4 k4
  try simp only [Act.put, List.setIfInBounds_toArray, List.set_cons_zero, List.set_cons_succ]
  refine wpAnyH_take (i := 14) (oi := { dst := some 28, op := Op.binOp BinOp.eql 3 (Operand.tmp 20) (Operand.tmp 27) 3, type := 4, pos := "law.go:56", after := #[{ on := 6, ground := Ground.data }, { on := 13, ground := Ground.data }], guard := none }) (v := ?vvd_14) rfl (by kernel_rfl) (by kernel_rfl) (by kernel_rfl) (fun _ _ _ h => h) (Or.inl ⟨by rfl, ?yyd_14⟩) hHeld ?_
  case vvd_14 => exact .bool true
  case yyd_14 =>
    intro W hS
    go_simp
  try simp only [Act.put, List.setIfInBounds_toArray, List.set_cons_zero, List.set_cons_succ]
  refine wpAnyH_ready (rs := [15]) (by kernel_rfl) (by simp) (AllReadyH.cons (o := { dst := some 6, op := Op.assign (Operand.tmp 28), type := 4, pos := "law.go:56", after := #[{ on := 14, ground := Ground.data }, { on := 13, ground := Ground.chain }, { on := 0, ground := Ground.phase }, { on := 1, ground := Ground.phase }, { on := 2, ground := Ground.phase }, { on := 3, ground := Ground.phase }, { on := 4, ground := Ground.phase }, { on := 5, ground := Ground.phase }, { on := 6, ground := Ground.phase }, { on := 7, ground := Ground.phase }, { on := 8, ground := Ground.phase }, { on := 9, ground := Ground.phase }, { on := 10, ground := Ground.phase }, { on := 11, ground := Ground.phase }, { on := 12, ground := Ground.phase }, { on := 13, ground := Ground.phase }, { on := 14, ground := Ground.phase }], guard := none }) rfl (fun K hK => ?_) AllReadyH.nil)
  go_simp
  refine hK.out _ _ H4.out.2.1 (fun hHeld => ?_)
  clear hK K
  try simp only [Act.put, List.setIfInBounds_toArray, List.set_cons_zero, List.set_cons_succ]
  refine wpAnyH_done (by kernel_rfl) ?_ _
  refine NoPanic.normal ?_
  go_wp2_with fail
  go_ret
  refine ⟨rfl, D.written x2 (fillB c8), ?_, (written_count D _ _).1, (written_count D _ _).2, HK0.out.trans (H1.out.2.2.trans ((H2.out.2.2.mono (fun k h => .inl h)).trans (H3.out.2.2.trans (H4.out.2.2.mono (fun k h => .inl h)))))⟩
  exact H4.out.1.less (fun k h => .inl h)
end
end Go.Proofs.Ytcecibopanfmgaa
