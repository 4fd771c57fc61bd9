/- The disk and the document's, side by side. -/
import Derived.Test.YtcecibopanfmgaaQCrash
import Derived.Test.YtcecibopanfmgaaKActs2
import Derived.Test.YtcecibopanfmgaaKLoop
namespace Go.Proofs.Ytcecibopanfmgaa
open Go.RowKit Go.Maps
set_option linter.unusedVariables false

/-- What the document's disk is, where the disk is D. -/
def DS.reff (D : DS) : DS := { D with fuse := max D.fuse (-1) }
theorem reff_may (D : DS) : D.reff.may = D.may := by
  unfold DS.may DS.reff
  congr 1
  apply decide_eq_decide.2
  show max D.fuse (-1) ≠ 0 ↔ D.fuse ≠ 0
  omega
theorem reff_stepped (D : DS) : D.stepped.reff = D.reff.stepped := by
  have hfu : D.reff.fuse = max D.fuse (-1) := rfl
  have hdw : D.reff.down = D.down := rfl
  unfold DS.stepped
  rw [hfu, hdw]
  by_cases h0 : D.fuse = 0
  · rw [if_pos h0, if_pos (show max D.fuse (-1) = 0 by omega)]
    rfl
  · rw [if_neg h0, if_neg (show ¬ max D.fuse (-1) = 0 by omega)]
    by_cases hd : D.down = true
    · rw [if_pos hd, if_pos hd]
    · rw [if_neg hd, if_neg hd]
      unfold DS.reff
      congr 1
      show max (if 0 < D.fuse then D.fuse - 1 else D.fuse) (-1) = if 0 < max D.fuse (-1) then max D.fuse (-1) - 1 else max D.fuse (-1)
      split <;> split <;> omega
theorem reff_fault (D : DS) (k : Int) : D.reff.fault k = D.fault k := rfl
theorem reff_read (D : DS) (k : Int) : D.reff.read k = D.read k := rfl
theorem reff_stepErr (D : DS) : D.reff.stepErr = D.stepErr := by unfold DS.stepErr; rw [reff_may]
theorem reff_writeErr (D : DS) (k : Int) : D.reff.writeErr k = D.writeErr k := by unfold DS.writeErr; rw [reff_stepErr]; rfl
theorem reff_written (D : DS) (k : Int) (b : List UInt8) : (D.written k b).reff = D.reff.written k b := by
  unfold DS.written
  rw [reff_fault, reff_may, ← reff_stepped]
  split
  · rfl
  · split <;> rfl
theorem reff_synced (D : DS) : D.synced.reff = D.reff.synced := by
  unfold DS.synced
  rw [reff_may, ← reff_stepped]
  split <;> rfl
theorem reff_crashed (D : DS) (k : Int) : (D.crashed k).reff = D.reff.crashed k := rfl
theorem reff_new (n : Nat) : (newDS n).reff = newDS n := rfl
theorem stepped_count (D : DS) : D.stepped.steps ≤ D.steps + 1 := by
  unfold DS.stepped
  split
  · exact Nat.le_succ _
  · split
    · exact Nat.le_succ _
    · exact Nat.le_refl _
theorem written_count (D : DS) (k : Int) (b : List UInt8) : (D.written k b).steps ≤ D.steps + 1 ∧ (D.written k b).hangs.length ≤ D.hangs.length + 1 := by
  unfold DS.written
  have h1 := stepped_count D
  have h2 := (stepped_same D).2
  split
  · exact ⟨Nat.le_succ _, Nat.le_succ _⟩
  · split
    · exact ⟨h1, by simp⟩
    · exact ⟨h1, by rw [h2]; exact Nat.le_succ _⟩
theorem synced_count (D : DS) : D.synced.steps ≤ D.steps + 1 ∧ D.synced.hangs.length ≤ D.hangs.length + 1 := by
  unfold DS.synced
  have h1 := stepped_count D
  have h2 := (stepped_same D).2
  split
  · exact ⟨h1, by simp⟩
  · exact ⟨h1, by rw [h2]; exact Nat.le_succ _⟩

/-- Both in memory, apart from each other, and from T. -/
def Pair (T : Nat → Prop) (w : World) (p q : Nat) (D E : DS) : Prop :=
  ∃ S : Nat → Prop, (∀ k, S k → k < w.heap.size) ∧ (∀ k, T k → S k) ∧ DiskIs S w p D ∧ RefIs (fun k => T k ∨ (k < w.heap.size ∧ ¬ S k)) w q E

section
variable {T T' : Nat → Prop} {w w' : World} {p q : Nat} {D E D' E' : DS}
theorem Pair.grow (h : Pair T w p q D E) (hb : Below w.heap.size w w') (hT : ∀ k, T' k → T k ∨ (w.heap.size ≤ k ∧ k < w'.heap.size)) : Pair T' w' p q D E := by
  obtain ⟨S, hS, hTS, hd, hr⟩ := h
  have hsz := hb.size
  refine ⟨fun k => k < w'.heap.size ∧ (S k ∨ w.heap.size ≤ k), fun k hk => hk.1, fun k hk => ?_, ?_, ?_⟩
  · rcases hT k hk with h | ⟨h1, h2⟩
    · have := hS k (hTS k h)
      exact ⟨by omega, .inl (hTS k h)⟩
    · exact ⟨h2, .inr h1⟩
  · exact (hd.more (fun g hg => hg.2)).below hb
  · refine (hr.more (fun g hg => ?_)).below hb
    rcases hg with hg | ⟨hg1, hg2⟩
    · rcases hT g hg with h | ⟨h1, _⟩
      · exact .inl (.inl h)
      · exact .inr h1
    · by_cases hlt : g < w.heap.size
      · exact .inl (.inr ⟨hlt, fun hs => hg2 ⟨hg1, .inl hs⟩⟩)
      · exact .inr (by omega)
theorem Pair.less (h : Pair T w p q D E) (hT : ∀ k, T' k → T k) : Pair T' w p q D E := h.grow (Below.refl _ _) (fun k hk => .inl (hT k hk))
theorem Pair.below (h : Pair T w p q D E) (hb : Below w.heap.size w w') : Pair T w' p q D E := h.grow hb (fun k hk => .inl hk)
theorem Pair.lt (h : Pair T w p q D E) (k : Nat) (hk : T k) : k < w.heap.size := by
  obtain ⟨S, hS, hTS, _⟩ := h
  exact hS k (hTS k hk)
theorem Pair.disk {F : Nat} {args : Array Value} {Post : Ending → Prop} (h : Pair T w p q D E)
    (hc : ∀ (S : Nat → Prop) gl gm hv Dm, (∀ k, S k → k < w.heap.size) → DiskAt S w p gl gm hv Dm D → Calls Try.prog F args w fun e w' => Post e ∧ DiskIs S w' p D' ∧ Keeps S w w') :
    Calls Try.prog F args w fun e w' => Post e ∧ Pair T w' p q D' E ∧ Keeps T w w' := by
  obtain ⟨S, hS, hTS, ⟨gl, gm, hv, Dm, hd⟩, hr⟩ := h
  refine (hc S gl gm hv Dm hS hd).mono ?_
  rintro e w1 ⟨he, hd1, hk⟩
  have hsz := hk.size
  refine ⟨he, ⟨S, fun k h => by have := hS k h; omega, hTS, hd1, ?_⟩, hk.mono hTS⟩
  refine RefIs.keeps (M := S) (hr.more (fun g hg => ?_)) hk (fun g hg hn => ?_)
  · rcases hg with hg | ⟨hg1, hg2⟩
    · exact .inl (.inl hg)
    · by_cases hlt : g < w.heap.size
      · exact .inl (.inr ⟨hlt, hg2⟩)
      · exact .inr (by omega)
  · apply Classical.byContradiction
    intro hs
    exact hn (.inr ⟨by omega, hs⟩)
theorem Pair.ref {F : Nat} {args : Array Value} {Post : Ending → Prop} (h : Pair T w p q D E)
    (hc : ∀ (S : Nat → Prop) gl hv, (∀ k, S k → k < w.heap.size) → RefAt S w q gl hv E → Calls Try.prog F args w fun e w' => Post e ∧ RefIs S w' q E' ∧ Keeps S w w') :
    Calls Try.prog F args w fun e w' => Post e ∧ Pair T w' p q D E' ∧ Keeps T w w' := by
  obtain ⟨S, hS, hTS, hd, gl, hv, hr⟩ := h
  refine (hc _ gl hv (fun k hk => ?_) hr).mono ?_
  · rcases hk with hk | hk
    · exact hS k (hTS k hk)
    · exact hk.1
  rintro e w1 ⟨he, hr1, hk⟩
  have hsz := hk.size
  refine ⟨he, ⟨fun k => k < w1.heap.size ∧ (S k ∨ w.heap.size ≤ k), fun k h => h.1, fun k h => ⟨by have := hS k (hTS k h); omega, .inl (hTS k h)⟩, ?_, ?_⟩, hk.mono (fun k h => .inl h)⟩
  · refine DiskIs.keeps (hd.more (fun g hg => hg.2)) hk (fun g hg hn => .inr ⟨hg, fun hs => hn ⟨by omega, .inl hs⟩⟩)
  · refine hr1.more (fun g hg => ?_)
    rcases hg with hg | ⟨hg1, hg2⟩
    · exact .inl (.inl hg)
    · by_cases hlt : g < w.heap.size
      · exact .inl (.inr ⟨hlt, fun hs => hg2 ⟨hg1, .inl hs⟩⟩)
      · exact absurd ⟨hg1, .inr (by omega)⟩ hg2
theorem Pair.diskAt (h : Pair T w p q D E) : ∃ S gl gm hv Dm, DiskAt S w p gl gm hv Dm D := by
  obtain ⟨S, _, _, ⟨gl, gm, hv, Dm, hd⟩, _⟩ := h
  exact ⟨S, gl, gm, hv, Dm, hd⟩
theorem Pair.refAt (h : Pair T w p q D E) : ∃ S gl hv, RefAt S w q gl hv E := by
  obtain ⟨S, _, _, _, gl, hv, hd⟩ := h
  exact ⟨_, gl, hv, hd⟩
end
end Go.Proofs.Ytcecibopanfmgaa
