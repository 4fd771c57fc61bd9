/- The document's disk in memory. -/
import Derived.Test.YtcecibopanfmgaaKRead
namespace Go.Proofs.Ytcecibopanfmgaa
open Go.RowKit Go.Maps
set_option linter.unusedVariables false

/-- The document's disk at a block, with its two others. -/
structure RefAt (L : Nat → Prop) (w : World) (p gl : Nat) (hv : Value) (D : DS) : Prop where
  row : Row w p 36 [.slice (some ⟨gl, 0, none⟩) D.lasts.length D.lasts.length, hv, .int .i64 (D.steps : Nat), .int .i64 D.fuse, .bool D.down]
  las : Row w gl 42 (D.lasts.flatten.map bv)
  han : w.ownsRow 0 69 129 hv D.hangs.length (wcs D.hangs)
  good : D.ok
  fp : ¬ L p
  fl : ¬ L gl
  fh : ∀ g, hv.ownBlock = some g → ¬ L g
def RefIs (L : Nat → Prop) (w : World) (p : Nat) (D : DS) : Prop := ∃ gl hv, RefAt L w p gl hv D

section
variable {L L' : Nat → Prop} {w w' : World} {p gl : Nat} {hv : Value} {D D' : DS}
theorem RefAt.ne_lp (h : RefAt L w p gl hv D) : gl ≠ p := by
  rintro rfl
  have h1 := h.row
  have h2 := h.las
  unfold Row at h1 h2
  rw [h1] at h2
  injection h2 with h2
  injection h2 with _ h3
  revert h3
  decide
theorem RefAt.ne_hp (h : RefAt L w p gl hv D) : hv.ownBlock ≠ some p := own_ne h.han h.row (by decide)
theorem RefAt.ne_hl (h : RefAt L w p gl hv D) : hv.ownBlock ≠ some gl := own_ne h.han h.las (by decide)
/-- It stays what it is where its blocks do. -/
theorem RefAt.kept (h : RefAt L w p gl hv D) (hk : ∀ g, g = p ∨ g = gl ∨ hv.ownBlock = some g → w'.heap[g]? = w.heap[g]?)
    (hL : ∀ g, g = p ∨ g = gl ∨ hv.ownBlock = some g → ¬ L' g) : RefAt L' w' p gl hv D :=
  ⟨(hk p (.inl rfl)).trans h.row, (hk gl (.inr (.inl rfl))).trans h.las, own_kept h.han (fun g hg => hk g (.inr (.inr hg))), h.good,
    hL p (.inl rfl), hL gl (.inr (.inl rfl)), fun g hg => hL g (.inr (.inr hg))⟩
theorem RefAt.lt (h : RefAt L w p gl hv D) : ∀ g, g = p ∨ g = gl ∨ hv.ownBlock = some g → g < w.heap.size := by
  rintro g (rfl | rfl | hg)
  · exact h.row.lt
  · exact h.las.lt
  · exact own_blk_lt h.han hg
theorem RefAt.out (h : RefAt L w p gl hv D) : ∀ g, g = p ∨ g = gl ∨ hv.ownBlock = some g → ¬ L g := by
  rintro g (rfl | rfl | hg)
  · exact h.fp
  · exact h.fl
  · exact h.fh g hg
theorem RefAt.below (h : RefAt L w p gl hv D) (hb : Below w.heap.size w w') : RefAt L w' p gl hv D :=
  h.kept (fun g hg => hb.block g (h.lt g hg)) h.out
theorem RefIs.below (h : RefIs L w p D) (hb : Below w.heap.size w w') : RefIs L w' p D := by
  obtain ⟨gl, hv, h⟩ := h
  exact ⟨gl, hv, h.below hb⟩
/-- What is new is none of its own. -/
theorem RefIs.more (h : RefIs L w p D) (hL : ∀ g, L' g → L g ∨ w.heap.size ≤ g) : RefIs L' w p D := by
  obtain ⟨gl, hv, h⟩ := h
  refine ⟨gl, hv, h.kept (fun _ _ => rfl) (fun g hg hl => ?_)⟩
  rcases hL g hl with h1 | h1
  · exact h.out g hg h1
  · have := h.lt g hg; omega
theorem RefIs.keeps {M : Nat → Prop} (h : RefIs L w p D) (hk : Keeps M w w') (hM : ∀ g, g < w.heap.size → ¬ L g → M g) : RefIs L w' p D := by
  obtain ⟨gl, hv, h⟩ := h
  exact ⟨gl, hv, h.kept (fun g hg => hk.block g (h.lt g hg) (hM g (h.lt g hg) (h.out g hg))) h.out⟩
theorem RefAt.lastRange (h : RefAt L w p gl hv D) (i : Nat) (hi : i < D.lasts.length) : w.rangeAt gl (i * 128) ((D.lasts.getD i []).map bv) := by
  have hr := h.las
  have hl := flat_length D.lasts h.good.rows
  rw [← flat_mid D.lasts h.good.rows i hi]
  exact row_range hr (i * 128) 128 (by rw [List.length_map, hl]; omega)
theorem RefAt.lastThere (h : RefAt L w p gl hv D) (i : Nat) (hi : i < D.lasts.length) : w.there gl (i * 128) 128 := by
  have hl := flat_length D.lasts h.good.rows
  exact row_there h.las (i * 128) 128 (by rw [List.length_map, hl]; omega)
theorem RefAt.hangWhole {a : Option Addr} {n c : Nat} (h : RefAt L w p gl (.slice a n c) D) (i : Nat) (x : Nat × List UInt8) (hx : D.hangs[i]? = some x) :
    ∃ g, a = some ⟨g, 0, none⟩ ∧ w.rangeAt g (i * 129) (wcells x) ∧ g ≠ gl := by
  have hil : i < D.hangs.length := (List.getElem?_eq_some_iff.1 hx).1
  have hxl : x.2.length = 128 := h.good.blks x (List.mem_of_getElem? hx)
  obtain ⟨g, cap, e, _, hlt⟩ := h.han.form (by omega)
  have ha : a = some ⟨g, 0, none⟩ := by injection e
  subst ha
  refine ⟨g, rfl, fun j v hj => ?_, fun e2 => h.ne_hl (by rw [← e2]; rfl)⟩
  have hj' : j < 129 := by rw [← wcells_length hxl]; exact (List.getElem?_eq_some_iff.1 hj).1
  have hg := wcs_get D.hangs h.good.blks i j x hx hj'
  have hc := h.han.cells (g := g) rfl (i * 129 + j) v (by rw [hg]; exact hj)
  simpa [Addr.add_mid] using hc
theorem RefAt.rowed (h : RefAt L w p gl hv D) (hl : D'.lasts = D.lasts) (hh : D'.hangs = D.hangs) (hf1 : -9223372036854775808 ≤ D'.fuse) (hf2 : D'.fuse ≤ 9223372036854775807)
    (hw : Row w' p 36 [.slice (some ⟨gl, 0, none⟩) D.lasts.length D.lasts.length, hv, .int .i64 (D'.steps : Nat), .int .i64 D'.fuse, .bool D'.down])
    (hk : ∀ g, p ≠ g → w'.heap[g]? = w.heap[g]?) : RefAt L w' p gl hv D' := by
  have hlp := h.ne_lp
  have hhp := h.ne_hp
  refine ⟨by rw [hl]; exact hw, by rw [hl]; exact (hk gl hlp.symm).trans h.las, by rw [hh]; exact own_kept h.han (fun g hg => hk g (fun e => hhp (by rw [e]; exact hg))), ⟨by rw [hl]; exact h.good.least, by rw [hl]; exact h.good.most, by rw [hl]; exact h.good.rows, by rw [hl, hh]; exact h.good.sect, by rw [hh]; exact h.good.blks, hf1, hf2⟩, h.fp, h.fl, h.fh⟩
end
end Go.Proofs.Ytcecibopanfmgaa
