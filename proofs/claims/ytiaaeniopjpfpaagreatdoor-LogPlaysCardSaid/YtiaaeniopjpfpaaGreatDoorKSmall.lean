/- A disk's small methods. -/
import Derived.Test.YtiaaeniopjpfpaaGreatDoorKMem
namespace Go.Proofs.YtiaaeniopjpfpaaGreatDoor
open Go.RowKit Go.Maps
set_option linter.unusedVariables false

section
variable {L : Nat → Prop} {w w' : World} {p gl gm : Nat} {hv : Value} {Dm : DataW Unit} {D D' : DS}

/-- The struct laid anew, all else as it was. -/
theorem DiskAt.rowed (h : DiskAt L w p gl gm hv Dm D) (hl : D'.lasts = D.lasts) (hh : D'.hangs = D.hangs) (hf1 : -9223372036854775808 ≤ D'.fuse) (hf2 : D'.fuse ≤ 9223372036854775807)
    (hw : Row w' p 81 [.slice (some ⟨gl, 0, none⟩) D.lasts.length D.lasts.length, hv, .map (some gm), .int .i64 D'.fuse, .int .i64 (D'.steps : Nat), .bool D'.down])
    (hk : ∀ g, p ≠ g → w'.heap[g]? = w.heap[g]?) : DiskAt L w' p gl gm hv Dm D' := by
  have hg := h.good
  refine ⟨by rw [hl]; exact hw, by rw [hl]; exact (hk gl h.ne_lp.symm).trans h.las, by rw [hh]; exact own_kept h.han (fun g hg => hk g (fun e => by subst e; exact h.ne_hp hg)), by rw [hh]; exact map_kept h.mp (hk gm h.ne_mp.symm), by rw [hh]; exact h.new,
    ⟨by rw [hl]; exact hg.least, by rw [hl]; exact hg.most, by rw [hl]; exact hg.rows, by rw [hl, hh]; exact hg.sect, by rw [hh]; exact hg.blks, hf1, hf2⟩, h.fp, h.fl, h.fm, h.fh⟩

set_option maxRecDepth 4000 in
theorem Sectors_any (h : DiskAt L w p gl gm hv Dm D) :
    Calls Tryz.prog 58 #[.pointer (some ⟨p, 0, none⟩)] w fun e w' => e = .returned (.int .i64 (D.lasts.length : Nat)) ∧ w = w' := by
  have c0 := h.row.cell 0
  simp only [List.getElem?_cons_zero] at c0
  clear h
  go_enter Tryz.func58, Tryz.ntmps58
  go_wp2
  go_ret
  exact ⟨rfl, rfl⟩
set_option maxRecDepth 4000 in
theorem Down_any (h : DiskAt L w p gl gm hv Dm D) :
    Calls Tryz.prog 59 #[.pointer (some ⟨p, 0, none⟩)] w fun e w' => e = .returned (.bool D.down) ∧ w = w' := by
  have c5 := h.row.cell 5
  simp only [List.getElem?_cons_zero, List.getElem?_cons_succ] at c5
  clear h
  go_enter Tryz.func59, Tryz.ntmps59
  go_wp2
  go_ret
  exact ⟨rfl, rfl⟩
set_option maxRecDepth 4000 in
theorem Steps_any (h : DiskAt L w p gl gm hv Dm D) :
    Calls Tryz.prog 24 #[.pointer (some ⟨p, 0, none⟩)] w fun e w' => e = .returned (.int .i64 (D.steps : Nat)) ∧ w = w' := by
  have c4 := h.row.cell 4
  simp only [List.getElem?_cons_zero, List.getElem?_cons_succ] at c4
  clear h
  go_enter Tryz.func24, Tryz.ntmps24
  go_wp2
  go_ret
  exact ⟨rfl, rfl⟩
theorem own_slice {B n : Nat} {e : TypeId} {size : Nat} {v : Value} {xs : List Value} (h : w.ownsRow B e size v n xs) : ∃ a c, v = .slice a n c := by
  rcases h.2 with ⟨rfl, rfl⟩ | ⟨g', cap, cur, rfl, _⟩
  · exact ⟨none, 0, rfl⟩
  · exact ⟨_, cap, rfl⟩
set_option maxRecDepth 4000 in
theorem Hangs_any (h : DiskAt L w p gl gm hv Dm D) (hn : D.hangs.length ≤ 1000000000) :
    Calls Tryz.prog 60 #[.pointer (some ⟨p, 0, none⟩)] w fun e w' => e = .returned (.int .i64 ((D.hangs.length : Nat) * 128)) ∧ w = w' := by
  have c1 := h.row.cell 1
  simp only [List.getElem?_cons_zero, List.getElem?_cons_succ] at c1
  obtain ⟨a, c, rfl⟩ := own_slice h.han
  obtain ⟨n, hn'⟩ : ∃ n, D.hangs.length = n := ⟨_, rfl⟩
  rw [hn'] at c1 hn ⊢
  have hnI : (n : Int) ≤ 1000000000 := by omega
  have hnI0 : 0 ≤ (n : Int) := by omega
  clear h hn' hn
  go_enter Tryz.func60, Tryz.ntmps60
  go_wp2
  go_ret
  exact ⟨rfl, rfl⟩

/-- Is there such a sector? -/
def thereB (D : DS) (at' : Int) : Bool := decide (0 ≤ at') && decide (at' < (D.lasts.length : Nat))
set_option maxRecDepth 4000 in
theorem there_any (h : DiskAt L w p gl gm hv Dm D) (at' : Int) :
    Calls Tryz.prog 95 #[.pointer (some ⟨p, 0, none⟩), .int .i64 at'] w fun e w' => e = .returned (.bool (thereB D at')) ∧ w = w' := by
  have HS := Lib.hid (Sectors_any h)
  by_cases h0 : 0 ≤ at'
  · have e1 : thereB D at' = decide (at' < (D.lasts.length : Nat)) := by unfold thereB; rw [decide_eq_true h0]; rfl
    rw [e1]
    clear h e1
    go_enter Tryz.func95, Tryz.ntmps95
    go_wp2_with (refine HS.out.mono ?_; rintro e w' ⟨rfl, rfl⟩)
    go_ret
    exact ⟨rfl, rfl⟩
  · have e1 : thereB D at' = false := by unfold thereB; rw [decide_eq_false h0]; rfl
    rw [e1]
    clear h e1
    go_enter Tryz.func95, Tryz.ntmps95
    go_wp2
    go_ret
    exact ⟨rfl, rfl⟩

set_option maxRecDepth 4000 in
theorem fault_any (h : DiskAt L w p gl gm hv Dm D) (at' : Int) :
    Calls Tryz.prog 96 #[.pointer (some ⟨p, 0, none⟩), .int .i64 at'] w fun e w' => e = .returned (.int .i64 (D.fault at')) ∧ w = w' := by
  have HT := Lib.hid (there_any h at')
  have c5 := h.row.cell 5
  simp only [List.getElem?_cons_zero, List.getElem?_cons_succ] at c5
  by_cases hd : D.down = true
  · rw [hd] at c5
    have e1 : D.fault at' = 13 := by unfold DS.fault; rw [if_pos hd]
    rw [e1]
    clear h e1 hd
    go_enter Tryz.func96, Tryz.ntmps96
    go_wp2
    go_ret
    exact ⟨rfl, rfl⟩
  · have hd' : D.down = false := by simpa using hd
    rw [hd'] at c5
    obtain ⟨b, hb⟩ : ∃ b, thereB D at' = b := ⟨_, rfl⟩
    rw [hb] at HT
    cases b with
    | true =>
      have e1 : D.fault at' = 0 := by
        unfold DS.fault
        unfold thereB at hb
        rw [if_neg hd, if_pos (by simpa using hb)]
      rw [e1]
      clear h e1 hd hd' hb
      go_enter Tryz.func96, Tryz.ntmps96
      go_wp2_with (refine HT.out.mono ?_; rintro e w' ⟨rfl, rfl⟩)
      go_ret
      exact ⟨rfl, rfl⟩
    | false =>
      have e1 : D.fault at' = 2 := by
        unfold DS.fault
        unfold thereB at hb
        rw [if_neg hd, if_neg (by intro hc; rw [decide_eq_true hc.1, decide_eq_true hc.2] at hb; cases hb)]
      rw [e1]
      clear h e1 hd hd' hb
      go_enter Tryz.func96, Tryz.ntmps96
      go_wp2_with (refine HT.out.mono ?_; rintro e w' ⟨rfl, rfl⟩)
      go_ret
      exact ⟨rfl, rfl⟩

set_option maxRecDepth 4000 in
set_option maxHeartbeats 1000000 in
theorem step_any (h : DiskAt L w p gl gm hv Dm D) (hs : D.steps < 1000000000) :
    Calls Tryz.prog 121 #[.pointer (some ⟨p, 0, none⟩)] w fun e w' => e = .returned (.int .i64 D.stepErr) ∧ DiskAt L w' p gl gm hv Dm D.stepped ∧ Keeps L w w' := by
  have H := Lib.hid h
  have c3 := h.row.cell 3
  have c4 := h.row.cell 4
  have c5 := h.row.cell 5
  have f3 := h.row.frozen 3
  have f4 := h.row.frozen 4
  have f5 := h.row.frozen 5
  have k0 := Keeps.refl L w
  have hp : ¬ L p ∨ w.heap.size ≤ p := .inl h.fp
  have hg := h.good
  have hg1 := hg.fuse1
  have hg2 := hg.fuse2
  simp only [List.getElem?_cons_zero, List.getElem?_cons_succ] at c3 c4 c5
  obtain ⟨F, hF⟩ : ∃ F, D.fuse = F := ⟨_, rfl⟩
  obtain ⟨S, hS⟩ : ∃ S, D.steps = S := ⟨_, rfl⟩
  obtain ⟨dn, hdn⟩ : ∃ dn, D.down = dn := ⟨_, rfl⟩
  rw [hF] at c3 hg1 hg2
  rw [hS] at c4 hs
  rw [hdn] at c5
  have hSI : (S : Int) < 1000000000 := by omega
  have HF := Lib.hid (And.intro hF (And.intro hS hdn))
  by_cases h0 : F = 0
  · have e1 : D.stepErr = 13 := by unfold DS.stepErr DS.may; rw [hF, h0]; rfl
    have e2 : D.stepped = { D with down := true } := by unfold DS.stepped; rw [if_pos (by rw [hF, h0])]
    have HR : Hid (Row (w.setCell ⟨p, 5, none⟩ (.bool true)) p 81 [.slice (some ⟨gl, 0, none⟩) D.lasts.length D.lasts.length, hv, .map (some gm), .int .i64 D.fuse, .int .i64 (D.steps : Nat), .bool true]) := Lib.hid (by
      have := h.row.set 5 (.bool true)
      simpa using this)
    rw [e1, e2]
    subst h0
    clear hF hS hdn e1 e2 h hg hs
    go_enter Tryz.func121, Tryz.ntmps121
    go_wp2
    go_ret
    exact ⟨rfl, H.out.rowed rfl rfl H.out.good.fuse1 H.out.good.fuse2 HR.out (fun g hg => Below.heap_setCell _ _ _ _ hg.symm), k0.setCell (p := ⟨p, 5, none⟩) hp _⟩
  · have h0b : ((F : Int) == 0) = false := by simpa using h0
    cases dn with
    | true =>
      have e1 : D.stepErr = 13 := by unfold DS.stepErr DS.may; rw [hdn, Bool.not_true, Bool.and_false]; rfl
      have e2 : D.stepped = D := by unfold DS.stepped; rw [if_neg (by rw [hF]; exact h0), if_pos hdn]
      rw [e1, e2]
      clear hF hS hdn e1 e2 h hg hs
      go_enter Tryz.func121, Tryz.ntmps121
      go_wp2
      go_ret
      exact ⟨rfl, H.out, k0⟩
    | false =>
      have e1 : D.stepErr = 0 := by unfold DS.stepErr DS.may; rw [hdn, hF, decide_eq_true h0]; rfl
      have e2 : D.stepped = { D with fuse := if 0 < F then F - 1 else F, steps := S + 1 } := by unfold DS.stepped; rw [if_neg (by rw [hF]; exact h0), if_neg (by rw [hdn]; simp), hF, hS]
      by_cases hpos : 0 < F
      · have HR : Hid (Row ((w.setCell ⟨p, 3, none⟩ (.int .i64 (F - 1))).setCell ⟨p, 4, none⟩ (.int .i64 ((S : Int) + 1))) p 81 [.slice (some ⟨gl, 0, none⟩) D.lasts.length D.lasts.length, hv, .map (some gm), .int .i64 (F - 1), .int .i64 ((S + 1 : Nat) : Int), .bool D.down]) := Lib.hid (by
          have := (h.row.set 3 (.int .i64 (F - 1))).set 4 (.int .i64 ((S : Int) + 1))
          simpa using this)
        have HP := Lib.hid hpos
        rw [e1, e2, if_pos hpos]
        clear hF hS hdn e1 e2 h hg hs
        go_enter Tryz.func121, Tryz.ntmps121
        go_wp2
        go_ret
        refine ⟨rfl, H.out.rowed rfl rfl (by show _ ≤ F - 1; have := HP.out; omega) (by show F - 1 ≤ _; omega) HR.out (fun g hg => ?_), (k0.setCell (p := ⟨p, 3, none⟩) hp _).setCell (p := ⟨p, 4, none⟩) hp _⟩
        rw [Below.heap_setCell _ _ _ _ hg.symm, Below.heap_setCell _ _ _ _ hg.symm]
      · have HR : Hid (Row (w.setCell ⟨p, 4, none⟩ (.int .i64 ((S : Int) + 1))) p 81 [.slice (some ⟨gl, 0, none⟩) D.lasts.length D.lasts.length, hv, .map (some gm), .int .i64 F, .int .i64 ((S + 1 : Nat) : Int), .bool D.down]) := Lib.hid (by
          have := h.row.set 4 (.int .i64 ((S : Int) + 1))
          rw [hF] at this
          simpa using this)
        have HG := Lib.hid (And.intro hg1 hg2)
        rw [e1, e2, if_neg hpos]
        clear hF hS hdn e1 e2 h hg hs
        go_enter Tryz.func121, Tryz.ntmps121
        go_wp2
        go_ret
        exact ⟨rfl, H.out.rowed rfl rfl HG.out.1 HG.out.2 HR.out (fun g hg => Below.heap_setCell _ _ _ _ hg.symm), k0.setCell (p := ⟨p, 4, none⟩) hp _⟩

set_option maxRecDepth 4000 in
theorem Fuse_any (h : DiskAt L w p gl gm hv Dm D) (n : Int) (hn1 : -9223372036854775808 ≤ n) (hn2 : n ≤ 9223372036854775807) :
    Calls Tryz.prog 12 #[.pointer (some ⟨p, 0, none⟩), .int .i64 n] w fun e w' => e = .returned (.tuple #[]) ∧ DiskAt L w' p gl gm hv Dm { D with fuse := n } ∧ Keeps L w w' := by
  have H := Lib.hid h
  have c3 := h.row.cell 3
  have f3 := h.row.frozen 3
  have k0 := Keeps.refl L w
  have hp : ¬ L p ∨ w.heap.size ≤ p := .inl h.fp
  simp only [List.getElem?_cons_zero, List.getElem?_cons_succ] at c3
  have HR : Hid (Row (w.setCell ⟨p, 3, none⟩ (.int .i64 n)) p 81 [.slice (some ⟨gl, 0, none⟩) D.lasts.length D.lasts.length, hv, .map (some gm), .int .i64 n, .int .i64 (D.steps : Nat), .bool D.down]) := Lib.hid (by
    have := h.row.set 3 (.int .i64 n)
    simpa using this)
  have HN := Lib.hid (And.intro hn1 hn2)
  clear h hn1 hn2
  go_enter Tryz.func12, Tryz.ntmps12
  go_wp2
  go_end0
  exact ⟨rfl, H.out.rowed rfl rfl HN.out.1 HN.out.2 HR.out (fun g hg => Below.heap_setCell _ _ _ _ hg.symm), k0.setCell (p := ⟨p, 3, none⟩) hp _⟩
end
end Go.Proofs.YtiaaeniopjpfpaaGreatDoor
