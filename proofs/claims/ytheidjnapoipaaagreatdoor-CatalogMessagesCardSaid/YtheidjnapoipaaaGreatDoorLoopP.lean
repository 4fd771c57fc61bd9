/- A range over an iterator whose row is known: a round is told that what comes is the row's next; its variables may lie in memory. -/
import Derived.RangeFuncNested
import Derived.RangeFuncBound
import Derived.RangeFuncCalls
import Derived.RangeFuncLeaves
import Derived.RangeFuncBox
namespace Go.Proofs.YtheidjnapoipaaaGreatDoor
open Go.RowKit
set_option linter.unusedVariables false
section
/-- What abides new blocks, and a turn of a block from B on that K speaks of. -/
def OwnK {β : Type} (B : Nat) (K : Obj → Prop) (J : β → World → Prop) : Prop := ∀ s X Y row, J s X → World.grownBy X Y row → (∀ r, row = some r → B ≤ r ∧ ∃ o : Obj, X.heap[r]? = some o ∧ K o) → J s Y
theorem OwnK.mono {β : Type} {B B' : Nat} {K : Obj → Prop} {J : β → World → Prop} (h : OwnK B K J) (hB : B ≤ B') : OwnK B' K J := fun s X Y row hs hg hr => h s X Y row hs hg (fun r e => ⟨Nat.le_trans hB (hr r e).1, (hr r e).2⟩)
theorem OwnK.and {β : Type} {B : Nat} {K : Obj → Prop} {J J' : β → World → Prop} (h : OwnK B K J) (h' : OwnK B K J') : OwnK B K (fun s W => J s W ∧ J' s W) := fun s X Y row hs hg hr => ⟨h s X Y row hs.1 hg hr, h' s X Y row hs.2 hg hr⟩
theorem OwnK.pure {β : Type} {B : Nat} {K : Obj → Prop} {φ : β → Prop} : OwnK B K (fun (s : β) (_ : World) => φ s) := fun s X Y row hs _ _ => hs
theorem OwnK.low {β : Type} {B : Nat} {K : Obj → Prop} (f : β → Nat) (g : β → Obj) (hf : ∀ s, f s < B) : OwnK B K (fun (s : β) W => W.heap[f s]? = some (g s)) := fun s X Y row hs hg hr =>
  (hg.block _ (Array.getElem?_eq_some_iff.1 hs).1 (fun e => by have := (hr _ e.symm).1; have := hf s; omega)).trans hs
theorem OwnK.below {β : Type} {B n : Nat} {K : Obj → Prop} {w : World} (hn : n ≤ w.heap.size) (hB : n ≤ B) : OwnK B K (fun (_ : β) W => Below n w W) := fun s X Y row hs hg hr =>
  ⟨hg.os.trans hs.os, hg.tape.trans hs.tape, hg.output.trans hs.output, Nat.le_trans hs.size hg.size, fun k hk => (hg.block k (Nat.lt_of_lt_of_le hk (Nat.le_trans hn hs.size)) (fun e => by have := (hr _ e.symm).1; omega)).trans (hs.block k hk)⟩
theorem OwnK.grown {β : Type} {B : Nat} {K : Obj → Prop} {J : β → World → Prop} (h : OwnK B K J) {s : β} {W W' : World} (hb : Below W.heap.size W W') (hj : J s W) : J s W' :=
  h s W W' none hj ⟨hb.os, hb.tape, hb.output, hb.size, fun k hk _ => hb.block k hk⟩ (fun r e => by cases e)
theorem OwnK.putObj {β : Type} {B r : Nat} {K : Obj → Prop} {J : β → World → Prop} (h : OwnK B K J) {s : β} {W : World} {o o' : Obj} (hj : J s W) (hr : B ≤ r) (ho : W.heap[r]? = some o) (hk : K o) : J s (W.putObj r o') :=
  h s W _ (some r) hj (grownBy_putObj' _ r o') (fun r' e => by injection e with e; subst e; exact ⟨hr, o, ho, hk⟩)

variable {F : Fence} {n : Nat} {P : Program}
/-- The iterator's contract: its row is full. -/
def StopsP {α : Type} (F : Fence) (n : Nat) (P : Program) (g : Nat) (lb : Array Value) (encs : α → Array Value) (Kp : World → World → Prop) (K : Obj → Prop) (full : List α) (w : World) : Prop :=
  ∀ (l : Nat) (J Jx : List α → World → Prop) (W : World), Below w.heap.size w W → w.heap.size + 2 ≤ W.heap.size → OwnK W.heap.size K J → OwnK W.heap.size K Jx →
    (∀ pre x W1, J pre W1 → (pre ++ [x]) <+: full → W.heap.size ≤ W1.heap.size → YieldAt F (n - 1) P l (encs x) W1 fun e W' =>
      (e = .returned (.bool true) ∧ J (pre ++ [x]) W' ∧ Kp W1 W') ∨ (e = .returned (.bool false) ∧ Jx (pre ++ [x]) W' ∧ Kp W1 W')) →
    J [] W →
    CallsIn F n P g (#[.func (.yield l) #[] #[]] ++ lb) W fun e W' => (∃ v, e = .returned v) ∧ (J full W' ∨ ∃ pre, pre <+: full ∧ Jx pre W')

/-- What a round keeps: the blocks of S, and whatever lay at or beyond E. -/
def KeepsS (S : Nat → Prop) (E : Nat) (W W' : World) : Prop := W.heap.size ≤ W'.heap.size ∧ ∀ k, (S k ∨ E ≤ k) → k < W.heap.size → W'.heap[k]? = W.heap[k]?
theorem keepsS_t {S : Nat → Prop} {E : Nat} {A B C : World} (h : KeepsS S E A B) (k : KeepsS S E B C) : KeepsS S E A C :=
  ⟨Nat.le_trans h.1 k.1, fun j hj hl => (k.2 j hj (Nat.lt_of_lt_of_le hl h.1)).trans (h.2 j hj hl)⟩
theorem keepsS_b {S : Nat → Prop} {E l : Nat} (h1 : ¬ S l) (h2 : l < E) (W : World) (o' : Obj) : KeepsS S E W (W.putObj l o') :=
  ⟨by simp, fun k hk _ => World.putObj_heap_other (by intro e; subst e; rcases hk with hk | hk; exact h1 hk; omega)⟩

/-- How the body of a round may be left. -/
def postP {α : Type} (B : Nat) (Kp : World → World → Prop) (I : List α → World → Prop) (Ix : Code → List α → World → Prop) (xs : List α) (W : World) : Exit → Act → World → Prop
  | .normal, _, W' => KeepsFrom B W W' ∧ Kp W W' ∧ I xs W'
  | .ret, _, W' => KeepsFrom B W W' ∧ Kp W W' ∧ Ix .ret xs W'
  | .exit id, _, W' => KeepsFrom B W W' ∧ Kp W W' ∧ Ix (.exit id) xs W'
  | .goto t, _, W' => KeepsFrom B W W' ∧ Kp W W' ∧ Ix (.goto t) xs W'
  | .panic _, _, _ => False
  | .outgrown, _, _ => False

/-- The caller's law. -/
theorem range_pre {α : Type} {g : Operand} {ps : Array Tmp} {assign body : Code} {Q : Exit → Act → World → Prop} {a : Act} {w : World}
    (hro : F.round = none) (h1 : 1 ≤ n) {gf : Nat} {lb : Array Value} (hg : a.eval g = .func (.func gf) #[] lb) (hFg : F.fn gf) (eg : ∀ args w, (callFunc gf args).run P w = .ok (.enter gf args) w)
    {encs : α → Array Value} {Kp : World → World → Prop} {K : Obj → Prop} {full : List α} {w0 : World} (hseq : StopsP F (n - 1) P gf lb encs Kp K full w0) (hK : ∀ o : Obj, o.isCells = false → K o)
    (hKt : ∀ {A B C : World}, Kp A B → Kp B C → Kp A C) (hKb : ∀ (W : World) (o' : Obj), Kp W (W.putObj (w.heap.size + 1) o')) (hb0 : Below w0.heap.size w0 w) (hps : ∀ x, (encs x).size = ps.size)
    (I : List α → World → Prop) (Ix : Code → List α → World → Prop) (hI : OwnK w.heap.size K I) (hIx : ∀ c, OwnK w.heap.size K (Ix c)) (h0 : I [] w) (Ax : α → Act → World → Prop) (hAp : ∀ x a' W o', Ax x a' W → Ax x a' (W.putObj (w.heap.size + 1) o'))
    (hassign : ∀ (l : Nat) (pre : List α) (x : α) (W : World) (K' : Act → World → Prop), I pre W → (pre ++ [x]) <+: full → w.heap.size + 2 ≤ W.heap.size → (∀ a' W', KeepsFrom w.heap.size W W' → Kp W W' → I pre W' → Ax x a' W' → K' a' W') →
      assign.wpIn (F.inRound l) (n - 1 - 1) P (Exit.then K' (fun _ _ _ => False)) { tmps := (ps.zip (encs x)).foldl (fun t (p, v) => t.setIfInBounds p v) a.tmps, defers := [] } W)
    (hbody : ∀ (l : Nat) (pre : List α) (x : α) (a' : Act) (W : World), I pre W → (pre ++ [x]) <+: full → w.heap.size + 2 ≤ W.heap.size → Ax x a' W → body.wpIn (F.inRound l) (n - 1 - 1) P (postP w.heap.size Kp I Ix (pre ++ [x]) W) a' W)
    (hdone : ∀ (D : Nat) (W : World), w.heap.size ≤ D → I full W → W.heap[D]? = some (.deferred (some [])) → Q .normal { a with defers := { target := .collected D, args := #[] } :: a.defers } W)
    (hstop : ∀ (D : Nat) (c : Code) (pre : List α) (W : World), w.heap.size ≤ D → pre <+: full → Ix c pre W → W.heap[D]? = some (.deferred (some [])) → c.wpIn F n P Q { a with defers := { target := .collected D, args := #[] } :: a.defers } W) :
    (Code.rangeFunc g ps assign body).wpIn F n P Q a w := by
  refine wpIn_rangeFunc fun fn hfn => ?_
  rw [hro]
  obtain ⟨R, hR⟩ : ∃ R : LoopState → Option Code → Loop, R = fun st pe => { state := st, pending := pe, fn, tmps := a.tmps, params := ps, assign, body, defers := w.heap.size } := ⟨_, rfl⟩
  obtain ⟨W1, hW1⟩ : ∃ W1, (w.alloc (.deferred (some []))).alloc (.loop (R .ready none)) = W1 := ⟨_, rfl⟩
  have z1 : W1.heap.size = w.heap.size + 2 := by rw [← hW1]; simp
  have r1 : W1.heap[w.heap.size + 1]? = some (.loop (R .ready none)) := by
    have h := World.alloc_heap_new (w.alloc (.deferred (some []))) (.loop (R .ready none))
    rw [World.size_alloc] at h
    rw [← hW1]; exact h
  have d1 : W1.heap[w.heap.size]? = some (.deferred (some [])) := by
    rw [← hW1]; exact (Below.heap_alloc _ _ _ (by simp)).trans (World.alloc_heap_new w _)
  have bW1 : Below w.heap.size w W1 := by rw [← hW1]; exact ((Below.refl _ w).alloc (Nat.le_refl _) _).alloc (by simp) _
  have b1 : Below w0.heap.size w0 W1 := hb0.trans (bW1.mono hb0.size)
  have low : ∀ {X Y : World} {row : Option Nat} {k : Nat} {o : Obj}, X.grownBy Y row → (∀ r, row = some r → W1.heap.size ≤ r ∧ ∃ o : Obj, X.heap[r]? = some o ∧ K o) → k < w.heap.size + 2 → X.heap[k]? = some o → Y.heap[k]? = some o :=
    fun hgr hr hk ho => (hgr.block _ (Array.getElem?_eq_some_iff.1 ho).1 (fun e => by have := (hr _ e.symm).1; omega)).trans ho
  refine ⟨w.heap.size + 1, [{ target := .collected w.heap.size, args := #[] }], W1, { target := .fn (.func gf) lb, args := #[.func (.yield (w.heap.size + 1)) #[] #[]] }, W1, gf, #[.func (.yield (w.heap.size + 1)) #[] #[]] ++ lb, W1, ?enter, ?res, ?leads, ?inv, fun _ => h1, ?call⟩
  case enter => rw [← hW1, hR]; exact run_enterLoop_outer _ _ _ _ _
  case res => simp only [resolve, hg]; simp [go_sem]
  case leads => intro f' hf'; simp [Target.leads] at hf'; subst hf'; exact hFg
  case inv => simp [invoke, go_sem, eg]
  case call =>
    refine (hseq (w.heap.size + 1) (fun pre W => I pre W ∧ W.heap[w.heap.size + 1]? = some (.loop (R .ready none)) ∧ W.heap[w.heap.size]? = some (.deferred (some [])))
      (fun pre W => ∃ c, Ix c pre W ∧ W.heap[w.heap.size + 1]? = some (.loop (R .done (some c))) ∧ W.heap[w.heap.size]? = some (.deferred (some []))) W1 b1 (by rw [z1]; have := hb0.size; omega)
      (fun s X Y row hs hgr hr => ⟨hI.mono (by omega) s X Y row hs.1 hgr hr, low hgr hr (by omega) hs.2.1, low hgr hr (by omega) hs.2.2⟩)
      (fun s X Y row hs hgr hr => by obtain ⟨c, h, h', h''⟩ := hs; exact ⟨c, (hIx c).mono (by omega) s X Y row h hgr hr, low hgr hr (by omega) h', low hgr hr (by omega) h''⟩)
      ?round ⟨hI.grown bW1 h0, r1, d1⟩).mono ?behind
    case round =>
      rintro pre x W ⟨hi, hl, hd⟩ hpre hWs
      have hWs2 : w.heap.size + 2 ≤ W.heap.size := by omega
      have hy := run_yield (P := P) (args := encs x) hl (by rw [hR]; exact hps x)
      rw [hR] at hy
      refine ⟨fn, _, assign, body, hy, roundIn_of_wpIn hfn (hassign _ pre x W _ hi hpre hWs2 fun a' W' hkf hkp hi' hax => ?_)⟩
      have hl' : W'.heap[w.heap.size + 1]? = some (.loop (R .ready none)) := hkf.same _ _ (by omega) hl rfl
      have hd' : W'.heap[w.heap.size]? = some (.deferred (some [])) := hkf.same _ _ (Nat.le_refl _) hd rfl
      have hlt := (Array.getElem?_eq_some_iff.1 hl').1
      refine ⟨_, run_beginRound hl' (by rw [hR]), ?_⟩
      obtain ⟨Wb, hWb⟩ : ∃ Wb, W'.putObj (w.heap.size + 1) (.loop { R .ready none with state := .busy }) = Wb := ⟨_, rfl⟩
      have lb' : Wb.heap[w.heap.size + 1]? = some (.loop { R .ready none with state := .busy }) := by rw [← hWb]; exact World.putObj_heap_same hlt
      have db : Wb.heap[w.heap.size]? = some (.deferred (some [])) := by rw [← hWb]; exact (World.putObj_heap_other (by omega)).trans hd'
      have kb : Kp W Wb := by rw [← hWb]; exact hKt hkp (hKb _ _)
      have ib : I pre Wb := by rw [← hWb]; exact hI.putObj hi' (by omega) hl' (hK _ rfl)
      have ab : Ax x a' Wb := by rw [← hWb]; exact hAp _ _ _ _ hax
      have sb : w.heap.size + 2 ≤ Wb.heap.size := by rw [← hWb]; have := hkf.size; simp; omega
      rw [hWb]
      refine wpIn_mono (hbody _ pre x a' _ ib hpre sb ab) ?_
      have fin : ∀ (jump : Option Code) (W3 : World), KeepsFrom w.heap.size Wb W3 → ∃ W4, (Instr.endRound (w.heap.size + 1) jump).run P W3 = .ok (.bool jump.isNone) W4 ∧ W4 = W3.putObj (w.heap.size + 1) (.loop (R (if jump.isNone then .ready else .done) jump)) ∧
          W3.heap[w.heap.size + 1]? = some (.loop { R .ready none with state := .busy }) ∧ W4.heap[w.heap.size + 1]? = some (.loop (R (if jump.isNone then .ready else .done) jump)) ∧ W4.heap[w.heap.size]? = some (.deferred (some [])) := fun jump W3 hk => by
        have l3 := hk.same _ _ (by omega) lb' rfl
        have h := run_endRound (P := P) jump l3
        rw [hR] at h l3 ⊢
        exact ⟨_, h, rfl, l3, World.putObj_heap_same (Array.getElem?_eq_some_iff.1 l3).1, (World.putObj_heap_other (by omega)).trans (hk.same _ _ (Nat.le_refl _) db rfl)⟩
      have left : ∀ (c : Code) (W3 : World), KeepsFrom w.heap.size Wb W3 → Kp Wb W3 → Ix c (pre ++ [x]) W3 → ∃ v W4, (Instr.endRound (w.heap.size + 1) (some c)).run P W3 = .ok v W4 ∧ ((Ending.returned v = .returned (.bool true) ∧ (I (pre ++ [x]) W4 ∧ W4.heap[w.heap.size + 1]? = some (.loop (R .ready none)) ∧ W4.heap[w.heap.size]? = some (.deferred (some []))) ∧ Kp W W4) ∨
          (Ending.returned v = .returned (.bool false) ∧ (∃ c, Ix c (pre ++ [x]) W4 ∧ W4.heap[w.heap.size + 1]? = some (.loop (R .done (some c))) ∧ W4.heap[w.heap.size]? = some (.deferred (some []))) ∧ Kp W W4)) := fun c W3 hk hkp3 hix => by
        obtain ⟨W4, hr, rfl, l3, l4, d4⟩ := fin (some c) W3 hk
        exact ⟨_, _, hr, .inr ⟨rfl, ⟨c, (hIx c).putObj hix (by omega) l3 (hK _ rfl), l4, d4⟩, hKt (hKt kb hkp3) (hKb _ _)⟩⟩
      rintro e a3 W3 hp
      cases e with
      | normal =>
        obtain ⟨hk, hkp3, hi3⟩ := hp
        obtain ⟨W4, hr, rfl, l3, l4, d4⟩ := fin none W3 hk
        exact ⟨_, _, hr, .inl ⟨rfl, ⟨hI.putObj hi3 (by omega) l3 (hK _ rfl), l4, d4⟩, hKt (hKt kb hkp3) (hKb _ _)⟩⟩
      | ret => exact left .ret W3 hp.1 hp.2.1 hp.2.2
      | exit id => exact left (.exit id) W3 hp.1 hp.2.1 hp.2.2
      | goto t => exact left (.goto t) W3 hp.1 hp.2.1 hp.2.2
      | panic ch => exact hp.elim
      | outgrown => exact hp.elim
    case behind =>
      rintro e W2 ⟨⟨v, rfl⟩, (⟨hi, hl, hd⟩ | ⟨pre, hSp, c, hi, hl, hd⟩)⟩
      · exact ⟨none, _, by have := run_endLoop (P := P) hl (by rw [hR]; simp); rw [hR] at this; exact this, hdone _ _ (Nat.le_refl _) (hI.putObj hi (by omega) hl (hK _ rfl)) ((World.putObj_heap_other (by omega)).trans hd)⟩
      · exact ⟨some c, _, by have := run_endLoop (P := P) hl (by rw [hR]; simp); rw [hR] at this; exact this, hstop _ c pre _ (Nat.le_refl _) hSp ((hIx c).putObj hi (by omega) hl (hK _ rfl)) ((World.putObj_heap_other (by omega)).trans hd)⟩
end
end Go.Proofs.YtheidjnapoipaaaGreatDoor
