/- The document's disk: made, a step. -/
import Derived.Test.YtcecibopanfmgaaQMem
namespace Go.Proofs.Ytcecibopanfmgaa
open Go.RowKit Go.Maps
set_option linter.unusedVariables false

set_option maxRecDepth 4000 in
theorem RNew_no (n : Int) (hn : n < 16 ∨ 4096 < n) (w : World) :
    Calls Try.prog 9 #[.int .i64 n] w fun e w' => e = .returned (.pointer none) ∧ w = w' := by
  rcases hn with h | h
  · go_enter Try.func9, Try.ntmps9
    go_wp2
    go_ret
    exact ⟨rfl, rfl⟩
  · have h' : ¬ n < 16 := by omega
    go_enter Try.func9, Try.ntmps9
    go_wp2
    go_ret
    exact ⟨rfl, rfl⟩
def RNewPost (n : Nat) (w : World) (e : Ending) (w' : World) : Prop := e = .returned (.pointer (some ⟨w.heap.size + 1, 0, none⟩)) ∧ (∀ L : Nat → Prop, (∀ k, L k → k < w.heap.size) → RefAt L w' (w.heap.size + 1) w.heap.size (.slice none 0 0) (newDS n)) ∧ Below w.heap.size w w'
set_option maxRecDepth 4000 in
theorem RNew_any (n : Nat) (h1 : 16 ≤ n) (h2 : n ≤ 4096) (w : World) :
    Calls Try.prog 9 #[.int .i64 n] w (RNewPost n w) := by
  have h1I : ¬ (n : Int) < 16 := by omega
  have h2I : ¬ 4096 < (n : Int) := by omega
  have hmk := fun W => make_blocks n h2 W
  go_enter Try.func9, Try.ntmps9
  go_wp2
  go_ret
  refine ⟨rfl, fun L hL => ?_, (((Below.refl _ _).alloc (Nat.le_refl _) _).alloc (by simp) _)⟩
  have hlast : (newDS n).lasts.length = n := by simp [newDS]
  have r0 := (Row.new_rep w 42 (n * 128) (.int .u8 0)).alloc (.cells #[Value.slice (some { block := w.heap.size, off := 0 }) n n, Value.slice none 0 0, Value.int IntKind.i64 0, Value.int IntKind.i64 (-1), Value.bool false] 36)
  have p0 := Row.new (w.alloc (.cells (Array.replicate (n * 128) (.int .u8 0)) 42)) 36 [Value.slice (some { block := w.heap.size, off := 0 }) n n, Value.slice none 0 0, Value.int IntKind.i64 0, Value.int IntKind.i64 (-1), Value.bool false]
  have e1 : (w.alloc (.cells (Array.replicate (n * 128) (.int .u8 0)) 42)).heap.size = w.heap.size + 1 := by simp
  rw [e1] at p0
  refine ⟨by rw [hlast]; exact p0, by rw [newDS_cells]; exact r0, ⟨by simp [newDS, wcs_nil], .inl ⟨rfl, rfl⟩⟩, newDS_ok n h1 h2, fun h => ?_, fun h => ?_, fun g hg => by simp [Value.ownBlock] at hg⟩
  all_goals
    have := hL _ h
    omega
section
variable {L : Nat → Prop} {w w' : World} {p gl : Nat} {hv : Value} {D D' : DS}
set_option maxRecDepth 20000 in
/-- A step of one whose power is there. -/
theorem Rstep_any (h : RefAt L w p gl hv D) (hs : D.steps < 1000000000) (hd : D.down = false) :
    Calls Try.prog 33 #[.pointer (some ⟨p, 0, none⟩)] w fun e w' => e = .returned (.bool D.may) ∧ RefAt L w' p gl hv D.stepped ∧ Keeps L w w' := by
  have H := Lib.hid h
  have hg := h.good
  have hg1 := hg.fuse1
  have hg2 := hg.fuse2
  have c2 := h.row.cell 2
  have c3 := h.row.cell 3
  have c4 := h.row.cell 4
  have f2 := h.row.frozen 2
  have f3 := h.row.frozen 3
  have f4 := h.row.frozen 4
  have k0 := Keeps.refl L w
  have hp : ¬ L p ∨ w.heap.size ≤ p := .inl h.fp
  simp only [List.getElem?_cons_zero, List.getElem?_cons_succ] at c2 c3 c4
  obtain ⟨F, hF⟩ : ∃ F, D.fuse = F := ⟨_, rfl⟩
  obtain ⟨S, hS⟩ : ∃ S, D.steps = S := ⟨_, rfl⟩
  rw [hF] at c3 hg1 hg2
  rw [hS] at c2 hs
  rw [hd] at c4
  have hSI : (S : Int) < 1000000000 := by omega
  by_cases h0 : F = 0
  · have e1 : D.may = false := by unfold DS.may; rw [hF, h0]; rfl
    have e2 : D.stepped = { D with down := true } := by unfold DS.stepped; rw [if_pos (by rw [hF, h0])]
    have HR : Hid (Row (w.setCell ⟨p, 4, none⟩ (.bool true)) p 36 [.slice (some ⟨gl, 0, none⟩) D.lasts.length D.lasts.length, hv, .int .i64 (D.steps : Nat), .int .i64 D.fuse, .bool true]) := Lib.hid (by
      have := h.row.set 4 (.bool true)
      simpa using this)
    rw [e1, e2]
    subst h0
    clear hF hS hd e1 e2 h hg hs
    go_enter Try.func33, Try.ntmps33
    go_wp2
    go_ret
    exact ⟨rfl, H.out.rowed rfl rfl H.out.good.fuse1 H.out.good.fuse2 HR.out (fun g hg => Below.heap_setCell _ _ _ _ hg.symm), k0.setCell (p := ⟨p, 4, none⟩) hp _⟩
  · have h0b : ((F : Int) == 0) = false := by simpa using h0
    have e1 : D.may = true := by unfold DS.may; rw [hd, hF, decide_eq_true h0]; rfl
    have e2 : D.stepped = { D with fuse := if 0 < F then F - 1 else F, steps := S + 1 } := by unfold DS.stepped; rw [if_neg (by rw [hF]; exact h0), if_neg (by rw [hd]; simp), hF, hS]
    by_cases hpos : 0 < F
    · have HR : Hid (Row ((w.setCell ⟨p, 3, none⟩ (.int .i64 (F - 1))).setCell ⟨p, 2, none⟩ (.int .i64 ((S : Int) + 1))) p 36 [.slice (some ⟨gl, 0, none⟩) D.lasts.length D.lasts.length, hv, .int .i64 ((S + 1 : Nat) : Int), .int .i64 (F - 1), .bool D.down]) := Lib.hid (by
        have := (h.row.set 3 (.int .i64 (F - 1))).set 2 (.int .i64 ((S : Int) + 1))
        simpa using this)
      have HP := Lib.hid hpos
      rw [e1, e2, if_pos hpos]
      clear hF hS hd e1 e2 h hg hs
      go_enter Try.func33, Try.ntmps33
      go_wp2
      go_ret
      refine ⟨rfl, H.out.rowed rfl rfl (by show _ ≤ F - 1; have := HP.out; omega) (by show F - 1 ≤ _; omega) HR.out (fun g hg => ?_), (k0.setCell (p := ⟨p, 3, none⟩) hp _).setCell (p := ⟨p, 2, none⟩) hp _⟩
      rw [Below.heap_setCell _ _ _ _ hg.symm, Below.heap_setCell _ _ _ _ hg.symm]
    · have HR : Hid (Row (w.setCell ⟨p, 2, none⟩ (.int .i64 ((S : Int) + 1))) p 36 [.slice (some ⟨gl, 0, none⟩) D.lasts.length D.lasts.length, hv, .int .i64 ((S + 1 : Nat) : Int), .int .i64 F, .bool D.down]) := Lib.hid (by
        have := h.row.set 2 (.int .i64 ((S : Int) + 1))
        rw [hF] at this
        simpa using this)
      have HG := Lib.hid (And.intro hg1 hg2)
      rw [e1, e2, if_neg hpos]
      clear hF hS hd e1 e2 h hg hs
      go_enter Try.func33, Try.ntmps33
      go_wp2
      go_ret
      exact ⟨rfl, H.out.rowed rfl rfl HG.out.1 HG.out.2 HR.out (fun g hg => Below.heap_setCell _ _ _ _ hg.symm), k0.setCell (p := ⟨p, 2, none⟩) hp _⟩
end
end Go.Proofs.Ytcecibopanfmgaa
