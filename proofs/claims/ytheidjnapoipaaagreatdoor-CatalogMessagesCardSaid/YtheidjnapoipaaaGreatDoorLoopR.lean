/- A range over an iterator whose row is known but for where its items lie: what comes meets a relation with the row's next item; the consumer may turn blocks of its own, those too that were made within the loop. -/
import Derived.Test.YtheidjnapoipaaaGreatDoorLoopP
namespace Go.Proofs.YtheidjnapoipaaaGreatDoor
open Go.RowKit
set_option linter.unusedVariables false
section
/-- What a round keeps: all blocks but those that are the consumer's in that world; what isn't the consumer's doesn't become so. -/
def KeepsT (T : World → Nat → Prop) (W W' : World) : Prop := W.heap.size ≤ W'.heap.size ∧ ∀ k, k < W.heap.size → ¬ T W k → W'.heap[k]? = W.heap[k]? ∧ ¬ T W' k
theorem keepsT_t {T : World → Nat → Prop} {A B C : World} (h : KeepsT T A B) (k : KeepsT T B C) : KeepsT T A C :=
  ⟨Nat.le_trans h.1 k.1, fun j hj hn => by
    obtain ⟨h1, h2⟩ := h.2 j hj hn
    obtain ⟨k1, k2⟩ := k.2 j (Nat.lt_of_lt_of_le hj h.1) h2
    exact ⟨k1.trans h1, k2⟩⟩
/-- Whose blocks they are hangs on blocks below B alone. -/
def LowT (T : World → Nat → Prop) (B : Nat) : Prop := ∀ W1 W2 : World, (∀ k, k < B → W2.heap[k]? = W1.heap[k]?) → ∀ k, T W2 k → T W1 k
theorem LowT.mono {T : World → Nat → Prop} {B B' : Nat} (h : LowT T B) (hB : B ≤ B') : LowT T B' := fun W1 W2 hk => h W1 W2 fun k hl => hk k (Nat.lt_of_lt_of_le hl hB)
/-- They are there; those from B on hold cells. -/
def TOK (B : Nat) (T : World → Nat → Prop) (W : World) : Prop := ∀ k, T W k → k < W.heap.size ∧ (B ≤ k → ∃ o : Obj, W.heap[k]? = some o ∧ o.isCells = true)
theorem keepsT_low {T : World → Nat → Prop} {B : Nat} (h : LowT T B) {W W' : World} (hs : W.heap.size ≤ W'.heap.size) (hB : ∀ k, k < B → W'.heap[k]? = W.heap[k]?) (hk : ∀ k, k < W.heap.size → ¬ T W k → W'.heap[k]? = W.heap[k]?) : KeepsT T W W' :=
  ⟨hs, fun k hl hn => ⟨hk k hl hn, fun ht => hn (h W W' hB k ht)⟩⟩
theorem keepsT_below {T : World → Nat → Prop} {B : Nat} (h : LowT T B) {W W' : World} (hB : B ≤ W.heap.size) (hb : Below W.heap.size W W') : KeepsT T W W' :=
  keepsT_low h hb.size (fun k hk => hb.block k (Nat.lt_of_lt_of_le hk hB)) (fun k hk _ => hb.block k hk)
/-- One's own record, and what was the consumer's. -/
def withT (l : Nat) (T : World → Nat → Prop) (W : World) (k : Nat) : Prop := k = l ∨ T W k
theorem LowT.with {T : World → Nat → Prop} {B l : Nat} (h : LowT T B) : LowT (withT l T) B := fun W1 W2 hk k ht => ht.imp id (h W1 W2 hk k)
theorem keepsT_rec {T : World → Nat → Prop} {B l : Nat} (h : LowT T B) (hl : B ≤ l) (W : World) (o' : Obj) : KeepsT (withT l T) W (W.putObj l o') :=
  keepsT_low h.with (by simp) (fun k hk => World.putObj_heap_other (by omega)) (fun k hk hn => World.putObj_heap_other fun e => hn (.inl e))
theorem keepsT_with {T : World → Nat → Prop} {l : Nat} {W W' : World} (h : KeepsT T W W') : KeepsT (withT l T) W W' :=
  ⟨h.1, fun k hk hn => by
    obtain ⟨h1, h2⟩ := h.2 k hk (fun ht => hn (.inr ht))
    exact ⟨h1, fun ht => ht.elim (fun e => hn (.inl e)) h2⟩⟩
theorem TOK.with {B : Nat} {T : World → Nat → Prop} {l : Nat} {W : World} (h : TOK B T W) (hl : l < W.heap.size) (hB : l < B) : TOK B (withT l T) W := fun k hk => hk.elim (fun e => ⟨by omega, fun h => by omega⟩) (h k)
theorem TOK.mono {B B' : Nat} {T : World → Nat → Prop} {W : World} (h : TOK B T W) (hB : B ≤ B') : TOK B' T W := fun k hk => ⟨(h k hk).1, fun hk2 => (h k hk).2 (Nat.le_trans hB hk2)⟩
theorem TOK.not {B : Nat} {T : World → Nat → Prop} {W : World} (h : TOK B T W) {k : Nat} {o : Obj} (hk : B ≤ k) (ho : W.heap[k]? = some o) (hc : o.isCells = false) : ¬ T W k := fun ht => by
  obtain ⟨o', ho', hc'⟩ := (h k ht).2 hk
  rw [ho] at ho'
  injection ho' with e
  subst e
  rw [hc] at hc'
  cases hc'
/-- What no cells are is kept by whoever keeps all but his own. -/
theorem keepsFrom_t {B : Nat} {T : World → Nat → Prop} {W W' : World} (h : TOK B T W) (k : KeepsT T W W') : KeepsFrom B W W' :=
  ⟨k.1, fun j o hj ho hc => (k.2 j (Array.getElem?_eq_some_iff.1 ho).1 (h.not hj ho hc)).1.trans ho⟩

variable {F : Fence} {n : Nat} {P : Program}
/-- The iterator's contract: its row is full, its items lie at or beyond where memory ended at the call. -/
def StopsR {α : Type} (F : Fence) (n : Nat) (P : Program) (g : Nat) (lb : Array Value) (Enc : Nat → α → Array Value → World → Prop) (K : Obj → Prop) (S : Nat → Prop) (full : List α) (w : World) : Prop :=
  ∀ (l : Nat) (T : World → Nat → Prop) (J Jx : List α → World → Prop) (W : World), Below w.heap.size w W → w.heap.size ≤ W.heap.size → OwnK W.heap.size K J → OwnK W.heap.size K Jx →
    LowT T W.heap.size → (∀ pre W1, J pre W1 → TOK W.heap.size T W1) → (∀ W1 k, S k → ¬ T W1 k) →
    (∀ pre x av W1, J pre W1 → (pre ++ [x]) <+: full → W.heap.size ≤ W1.heap.size → Enc W.heap.size x av W1 → YieldAt F (n - 1) P l av W1 fun e W' =>
      (e = .returned (.bool true) ∧ J (pre ++ [x]) W' ∧ KeepsT T W1 W') ∨ (e = .returned (.bool false) ∧ Jx (pre ++ [x]) W' ∧ KeepsT T W1 W')) →
    J [] W →
    CallsIn F n P g (#[.func (.yield l) #[] #[]] ++ lb) W fun e W' => (∃ v, e = .returned v) ∧ (J full W' ∨ ∃ pre, pre <+: full ∧ Jx pre W')

/-- The caller's law. -/
theorem range_rel {α : Type} {g : Operand} {ps : Array Tmp} {assign body : Code} {Q : Exit → Act → World → Prop} {a : Act} {w : World}
    (hro : F.round = none) (h1 : 1 ≤ n) {gf : Nat} {lb : Array Value} (hg : a.eval g = .func (.func gf) #[] lb) (hFg : F.fn gf) (eg : ∀ args w, (callFunc gf args).run P w = .ok (.enter gf args) w)
    {Enc : Nat → α → Array Value → World → Prop} {T : World → Nat → Prop} {K : Obj → Prop} {S : Nat → Prop} {full : List α} {w0 : World} (hseq : StopsR F (n - 1) P gf lb Enc K S full w0) (hK : ∀ o : Obj, o.isCells = false → K o)
    (hT : LowT T w.heap.size) (hS : ∀ k, S k → k < w.heap.size ∧ ∀ W, ¬ T W k) (hb0 : Below w0.heap.size w0 w) (hps : ∀ B x av W, Enc B x av W → av.size = ps.size)
    (I : List α → World → Prop) (Ix : Code → List α → World → Prop) (hI : OwnK w.heap.size K I) (hIx : ∀ c, OwnK w.heap.size K (Ix c)) (h0 : I [] w) (hTI : ∀ pre W, I pre W → TOK w.heap.size T W) (Ax : α → Act → World → Prop) (hAp : ∀ x a' W o', Ax x a' W → Ax x a' (W.putObj (w.heap.size + 1) o'))
    (hassign : ∀ (l : Nat) (pre : List α) (x : α) (av : Array Value) (W : World) (K' : Act → World → Prop), I pre W → (pre ++ [x]) <+: full → w.heap.size + 2 ≤ W.heap.size → Enc (w.heap.size + 2) x av W → (∀ a' W', KeepsFrom w.heap.size W W' → KeepsT (withT (w.heap.size + 1) T) W W' → I pre W' → Ax x a' W' → K' a' W') →
      assign.wpIn (F.inRound l) (n - 1 - 1) P (Exit.then K' (fun _ _ _ => False)) { tmps := (ps.zip av).foldl (fun t (p, v) => t.setIfInBounds p v) a.tmps, defers := [] } W)
    (hbody : ∀ (l : Nat) (pre : List α) (x : α) (a' : Act) (W : World), I pre W → (pre ++ [x]) <+: full → w.heap.size + 2 ≤ W.heap.size → Ax x a' W → body.wpIn (F.inRound l) (n - 1 - 1) P (postP w.heap.size (KeepsT (withT (w.heap.size + 1) T)) I Ix (pre ++ [x]) W) a' W)
    (hdone : ∀ (D : Nat) (W : World), w.heap.size ≤ D → I full W → W.heap[D]? = some (.deferred (some [])) → Q .normal { a with defers := { target := .collected D, args := #[] } :: a.defers } W)
    (hstop : ∀ (D : Nat) (c : Code) (pre : List α) (W : World), w.heap.size ≤ D → pre <+: full → Ix c pre W → W.heap[D]? = some (.deferred (some [])) → c.wpIn F n P Q { a with defers := { target := .collected D, args := #[] } :: a.defers } W) :
    (Code.rangeFunc g ps assign body).wpIn F n P Q a w := by
  have hKt : ∀ {A B C : World}, KeepsT (withT (w.heap.size + 1) T) A B → KeepsT (withT (w.heap.size + 1) T) B C → KeepsT (withT (w.heap.size + 1) T) A C := fun h k => keepsT_t h k
  have hKb : ∀ (W : World) (o' : Obj), KeepsT (withT (w.heap.size + 1) T) W (W.putObj (w.heap.size + 1) o') := fun W o' => keepsT_rec hT (by omega) W o'
  refine wpIn_rangeFunc fun fn hfn => ?_
  rw [hro]
  obtain ⟨R, hR⟩ : ∃ R : LoopState → Option Code → Loop, R = fun st pe => { state := st, pending := pe, fn, tmps := a.tmps, params := ps, assign, body, defers := w.heap.size } := ⟨_, rfl⟩
  obtain ⟨W1, hW1⟩ : ∃ W1, (w.alloc (.deferred (some []))).alloc (.loop (R .ready none)) = W1 := ⟨_, rfl⟩
  have z1 : W1.heap.size = w.heap.size + 2 := by rw [← hW1]; simp
  have r1 : W1.heap[w.heap.size + 1]? = some (.loop (R .ready none)) := by
    have h := World.alloc_heap_new (w.alloc (.deferred (some []))) (.loop (R .ready none))
    rw [World.size_alloc] at h
    rw [← hW1]; exact h
  have d1 : W1.heap[w.heap.size]? = some (.deferred (some [])) := by
    rw [← hW1]; exact (Below.heap_alloc _ _ _ (by simp)).trans (World.alloc_heap_new w _)
  have bW1 : Below w.heap.size w W1 := by rw [← hW1]; exact ((Below.refl _ w).alloc (Nat.le_refl _) _).alloc (by simp) _
  have b1 : Below w0.heap.size w0 W1 := hb0.trans (bW1.mono hb0.size)
  have low : ∀ {X Y : World} {row : Option Nat} {k : Nat} {o : Obj}, X.grownBy Y row → (∀ r, row = some r → W1.heap.size ≤ r ∧ ∃ o : Obj, X.heap[r]? = some o ∧ K o) → k < w.heap.size + 2 → X.heap[k]? = some o → Y.heap[k]? = some o :=
    fun hgr hr hk ho => (hgr.block _ (Array.getElem?_eq_some_iff.1 ho).1 (fun e => by have := (hr _ e.symm).1; omega)).trans ho
  refine ⟨w.heap.size + 1, [{ target := .collected w.heap.size, args := #[] }], W1, { target := .fn (.func gf) lb, args := #[.func (.yield (w.heap.size + 1)) #[] #[]] }, W1, gf, #[.func (.yield (w.heap.size + 1)) #[] #[]] ++ lb, W1, ?enter, ?res, ?leads, ?inv, fun _ => h1, ?call⟩
  case enter => rw [← hW1, hR]; exact run_enterLoop_outer _ _ _ _ _
  case res => simp only [resolve, hg]; simp [go_sem]
  case leads => intro f' hf'; simp [Target.leads] at hf'; subst hf'; exact hFg
  case inv => simp [invoke, go_sem, eg]
  case call =>
    refine (hseq (w.heap.size + 1) (withT (w.heap.size + 1) T) (fun pre W => I pre W ∧ W.heap[w.heap.size + 1]? = some (.loop (R .ready none)) ∧ W.heap[w.heap.size]? = some (.deferred (some [])))
      (fun pre W => ∃ c, Ix c pre W ∧ W.heap[w.heap.size + 1]? = some (.loop (R .done (some c))) ∧ W.heap[w.heap.size]? = some (.deferred (some []))) W1 b1 (by rw [z1]; have := hb0.size; omega)
      (fun s X Y row hs hgr hr => ⟨hI.mono (by omega) s X Y row hs.1 hgr hr, low hgr hr (by omega) hs.2.1, low hgr hr (by omega) hs.2.2⟩)
      (fun s X Y row hs hgr hr => by obtain ⟨c, h, h', h''⟩ := hs; exact ⟨c, (hIx c).mono (by omega) s X Y row h hgr hr, low hgr hr (by omega) h', low hgr hr (by omega) h''⟩)
      (hT.with.mono (by omega)) (fun pre W h => ((hTI _ _ h.1).mono (by omega)).with (Array.getElem?_eq_some_iff.1 h.2.1).1 (by omega)) (fun W k hs ht => ht.elim (fun e => by have := (hS k hs).1; omega) ((hS k hs).2 W)) ?round ⟨hI.grown bW1 h0, r1, d1⟩).mono ?behind
    case round =>
      rintro pre x av W ⟨hi, hl, hd⟩ hpre hWs henc
      rw [z1] at henc
      have hWs2 : w.heap.size + 2 ≤ W.heap.size := by omega
      have hy := run_yield (P := P) (args := av) hl (by rw [hR]; exact hps _ _ _ _ henc)
      rw [hR] at hy
      refine ⟨fn, _, assign, body, hy, roundIn_of_wpIn hfn (hassign _ pre x av W _ hi hpre hWs2 henc fun a' W' hkf hkp hi' hax => ?_)⟩
      have hl' : W'.heap[w.heap.size + 1]? = some (.loop (R .ready none)) := hkf.same _ _ (by omega) hl rfl
      have hd' : W'.heap[w.heap.size]? = some (.deferred (some [])) := hkf.same _ _ (Nat.le_refl _) hd rfl
      have hlt := (Array.getElem?_eq_some_iff.1 hl').1
      refine ⟨_, run_beginRound hl' (by rw [hR]), ?_⟩
      obtain ⟨Wb, hWb⟩ : ∃ Wb, W'.putObj (w.heap.size + 1) (.loop { R .ready none with state := .busy }) = Wb := ⟨_, rfl⟩
      have lb' : Wb.heap[w.heap.size + 1]? = some (.loop { R .ready none with state := .busy }) := by rw [← hWb]; exact World.putObj_heap_same hlt
      have db : Wb.heap[w.heap.size]? = some (.deferred (some [])) := by rw [← hWb]; exact (World.putObj_heap_other (by omega)).trans hd'
      have kb : KeepsT (withT (w.heap.size + 1) T) W Wb := by rw [← hWb]; exact hKt hkp (hKb _ _)
      have ib : I pre Wb := by rw [← hWb]; exact hI.putObj hi' (by omega) hl' (hK _ rfl)
      have ab : Ax x a' Wb := by rw [← hWb]; exact hAp _ _ _ _ hax
      have sb : w.heap.size + 2 ≤ Wb.heap.size := by rw [← hWb]; have := hkf.size; simp; omega
      rw [hWb]
      refine wpIn_mono (hbody _ pre x a' _ ib hpre sb ab) ?_
      have fin : ∀ (jump : Option Code) (W3 : World), KeepsFrom w.heap.size Wb W3 → ∃ W4, (Instr.endRound (w.heap.size + 1) jump).run P W3 = .ok (.bool jump.isNone) W4 ∧ W4 = W3.putObj (w.heap.size + 1) (.loop (R (if jump.isNone then .ready else .done) jump)) ∧
          W3.heap[w.heap.size + 1]? = some (.loop { R .ready none with state := .busy }) ∧ W4.heap[w.heap.size + 1]? = some (.loop (R (if jump.isNone then .ready else .done) jump)) ∧ W4.heap[w.heap.size]? = some (.deferred (some [])) := fun jump W3 hk => by
        have l3 := hk.same _ _ (by omega) lb' rfl
        have h := run_endRound (P := P) jump l3
        rw [hR] at h l3 ⊢
        exact ⟨_, h, rfl, l3, World.putObj_heap_same (Array.getElem?_eq_some_iff.1 l3).1, (World.putObj_heap_other (by omega)).trans (hk.same _ _ (Nat.le_refl _) db rfl)⟩
      have left : ∀ (c : Code) (W3 : World), KeepsFrom w.heap.size Wb W3 → KeepsT (withT (w.heap.size + 1) T) Wb W3 → Ix c (pre ++ [x]) W3 → ∃ v W4, (Instr.endRound (w.heap.size + 1) (some c)).run P W3 = .ok v W4 ∧ ((Ending.returned v = .returned (.bool true) ∧ (I (pre ++ [x]) W4 ∧ W4.heap[w.heap.size + 1]? = some (.loop (R .ready none)) ∧ W4.heap[w.heap.size]? = some (.deferred (some []))) ∧ KeepsT (withT (w.heap.size + 1) T) W W4) ∨
          (Ending.returned v = .returned (.bool false) ∧ (∃ c, Ix c (pre ++ [x]) W4 ∧ W4.heap[w.heap.size + 1]? = some (.loop (R .done (some c))) ∧ W4.heap[w.heap.size]? = some (.deferred (some []))) ∧ KeepsT (withT (w.heap.size + 1) T) W W4)) := fun c W3 hk hkp3 hix => by
        obtain ⟨W4, hr, rfl, l3, l4, d4⟩ := fin (some c) W3 hk
        exact ⟨_, _, hr, .inr ⟨rfl, ⟨c, (hIx c).putObj hix (by omega) l3 (hK _ rfl), l4, d4⟩, hKt (hKt kb hkp3) (hKb _ _)⟩⟩
      rintro e a3 W3 hp
      cases e with
      | normal =>
        obtain ⟨hk, hkp3, hi3⟩ := hp
        obtain ⟨W4, hr, rfl, l3, l4, d4⟩ := fin none W3 hk
        exact ⟨_, _, hr, .inl ⟨rfl, ⟨hI.putObj hi3 (by omega) l3 (hK _ rfl), l4, d4⟩, hKt (hKt kb hkp3) (hKb _ _)⟩⟩
      | ret => exact left .ret W3 hp.1 hp.2.1 hp.2.2
      | exit id => exact left (.exit id) W3 hp.1 hp.2.1 hp.2.2
      | goto t => exact left (.goto t) W3 hp.1 hp.2.1 hp.2.2
      | panic ch => exact hp.elim
      | outgrown => exact hp.elim
    case behind =>
      rintro e W2 ⟨⟨v, rfl⟩, (⟨hi, hl, hd⟩ | ⟨pre, hSp, c, hi, hl, hd⟩)⟩
      · exact ⟨none, _, by have := run_endLoop (P := P) hl (by rw [hR]; simp); rw [hR] at this; exact this, hdone _ _ (Nat.le_refl _) (hI.putObj hi (by omega) hl (hK _ rfl)) ((World.putObj_heap_other (by omega)).trans hd)⟩
      · exact ⟨some c, _, by have := run_endLoop (P := P) hl (by rw [hR]; simp); rw [hR] at this; exact this, hstop _ c pre _ (Nat.le_refl _) hSp ((hIx c).putObj hi (by omega) hl (hK _ rfl)) ((World.putObj_heap_other (by omega)).trans hd)⟩
/-- The same, the body being told of its own loop's record. -/
theorem range_relH {α : Type} {g : Operand} {ps : Array Tmp} {assign body : Code} {Q : Exit → Act → World → Prop} {a : Act} {w : World}
    (hro : F.round = none) (h1 : 1 ≤ n) {gf : Nat} {lb : Array Value} (hg : a.eval g = .func (.func gf) #[] lb) (hFg : F.fn gf) (eg : ∀ args w, (callFunc gf args).run P w = .ok (.enter gf args) w)
    {Enc : Nat → α → Array Value → World → Prop} {T : World → Nat → Prop} {K : Obj → Prop} {S : Nat → Prop} {full : List α} {w0 : World} (hseq : StopsR F (n - 1) P gf lb Enc K S full w0) (hK : ∀ o : Obj, o.isCells = false → K o)
    (hT : LowT T w.heap.size) (hS : ∀ k, S k → k < w.heap.size ∧ ∀ W, ¬ T W k) (hb0 : Below w0.heap.size w0 w) (hps : ∀ B x av W, Enc B x av W → av.size = ps.size)
    (I : List α → World → Prop) (Ix : Code → List α → World → Prop) (hI : OwnK w.heap.size K I) (hIx : ∀ c, OwnK w.heap.size K (Ix c)) (h0 : I [] w) (hTI : ∀ pre W, I pre W → TOK w.heap.size T W) (Ax : α → Act → World → Prop) (hAp : ∀ x a' W o', Ax x a' W → Ax x a' (W.putObj (w.heap.size + 1) o'))
    (hassign : ∀ (l : Nat) (pre : List α) (x : α) (av : Array Value) (W : World) (K' : Act → World → Prop), I pre W → (pre ++ [x]) <+: full → w.heap.size + 2 ≤ W.heap.size → Enc (w.heap.size + 2) x av W → (∀ a' W', KeepsFrom w.heap.size W W' → KeepsT (withT (w.heap.size + 1) T) W W' → I pre W' → Ax x a' W' → K' a' W') →
      assign.wpIn (F.inRound l) (n - 1 - 1) P (Exit.then K' (fun _ _ _ => False)) { tmps := (ps.zip av).foldl (fun t (p, v) => t.setIfInBounds p v) a.tmps, defers := [] } W)
    (hbody : ∀ (l : Nat) (pre : List α) (x : α) (a' : Act) (W : World), l = w.heap.size + 1 → (∃ r, W.heap[l]? = some (.loop r)) → I pre W → (pre ++ [x]) <+: full → w.heap.size + 2 ≤ W.heap.size → Ax x a' W → body.wpIn (F.inRound l) (n - 1 - 1) P (postP w.heap.size (KeepsT (withT (w.heap.size + 1) T)) I Ix (pre ++ [x]) W) a' W)
    (hdone : ∀ (D : Nat) (W : World), w.heap.size ≤ D → I full W → W.heap[D]? = some (.deferred (some [])) → Q .normal { a with defers := { target := .collected D, args := #[] } :: a.defers } W)
    (hstop : ∀ (D : Nat) (c : Code) (pre : List α) (W : World), w.heap.size ≤ D → pre <+: full → Ix c pre W → W.heap[D]? = some (.deferred (some [])) → c.wpIn F n P Q { a with defers := { target := .collected D, args := #[] } :: a.defers } W) :
    (Code.rangeFunc g ps assign body).wpIn F n P Q a w := by
  have hKt : ∀ {A B C : World}, KeepsT (withT (w.heap.size + 1) T) A B → KeepsT (withT (w.heap.size + 1) T) B C → KeepsT (withT (w.heap.size + 1) T) A C := fun h k => keepsT_t h k
  have hKb : ∀ (W : World) (o' : Obj), KeepsT (withT (w.heap.size + 1) T) W (W.putObj (w.heap.size + 1) o') := fun W o' => keepsT_rec hT (by omega) W o'
  refine wpIn_rangeFunc fun fn hfn => ?_
  rw [hro]
  obtain ⟨R, hR⟩ : ∃ R : LoopState → Option Code → Loop, R = fun st pe => { state := st, pending := pe, fn, tmps := a.tmps, params := ps, assign, body, defers := w.heap.size } := ⟨_, rfl⟩
  obtain ⟨W1, hW1⟩ : ∃ W1, (w.alloc (.deferred (some []))).alloc (.loop (R .ready none)) = W1 := ⟨_, rfl⟩
  have z1 : W1.heap.size = w.heap.size + 2 := by rw [← hW1]; simp
  have r1 : W1.heap[w.heap.size + 1]? = some (.loop (R .ready none)) := by
    have h := World.alloc_heap_new (w.alloc (.deferred (some []))) (.loop (R .ready none))
    rw [World.size_alloc] at h
    rw [← hW1]; exact h
  have d1 : W1.heap[w.heap.size]? = some (.deferred (some [])) := by
    rw [← hW1]; exact (Below.heap_alloc _ _ _ (by simp)).trans (World.alloc_heap_new w _)
  have bW1 : Below w.heap.size w W1 := by rw [← hW1]; exact ((Below.refl _ w).alloc (Nat.le_refl _) _).alloc (by simp) _
  have b1 : Below w0.heap.size w0 W1 := hb0.trans (bW1.mono hb0.size)
  have low : ∀ {X Y : World} {row : Option Nat} {k : Nat} {o : Obj}, X.grownBy Y row → (∀ r, row = some r → W1.heap.size ≤ r ∧ ∃ o : Obj, X.heap[r]? = some o ∧ K o) → k < w.heap.size + 2 → X.heap[k]? = some o → Y.heap[k]? = some o :=
    fun hgr hr hk ho => (hgr.block _ (Array.getElem?_eq_some_iff.1 ho).1 (fun e => by have := (hr _ e.symm).1; omega)).trans ho
  refine ⟨w.heap.size + 1, [{ target := .collected w.heap.size, args := #[] }], W1, { target := .fn (.func gf) lb, args := #[.func (.yield (w.heap.size + 1)) #[] #[]] }, W1, gf, #[.func (.yield (w.heap.size + 1)) #[] #[]] ++ lb, W1, ?enter, ?res, ?leads, ?inv, fun _ => h1, ?call⟩
  case enter => rw [← hW1, hR]; exact run_enterLoop_outer _ _ _ _ _
  case res => simp only [resolve, hg]; simp [go_sem]
  case leads => intro f' hf'; simp [Target.leads] at hf'; subst hf'; exact hFg
  case inv => simp [invoke, go_sem, eg]
  case call =>
    refine (hseq (w.heap.size + 1) (withT (w.heap.size + 1) T) (fun pre W => I pre W ∧ W.heap[w.heap.size + 1]? = some (.loop (R .ready none)) ∧ W.heap[w.heap.size]? = some (.deferred (some [])))
      (fun pre W => ∃ c, Ix c pre W ∧ W.heap[w.heap.size + 1]? = some (.loop (R .done (some c))) ∧ W.heap[w.heap.size]? = some (.deferred (some []))) W1 b1 (by rw [z1]; have := hb0.size; omega)
      (fun s X Y row hs hgr hr => ⟨hI.mono (by omega) s X Y row hs.1 hgr hr, low hgr hr (by omega) hs.2.1, low hgr hr (by omega) hs.2.2⟩)
      (fun s X Y row hs hgr hr => by obtain ⟨c, h, h', h''⟩ := hs; exact ⟨c, (hIx c).mono (by omega) s X Y row h hgr hr, low hgr hr (by omega) h', low hgr hr (by omega) h''⟩)
      (hT.with.mono (by omega)) (fun pre W h => ((hTI _ _ h.1).mono (by omega)).with (Array.getElem?_eq_some_iff.1 h.2.1).1 (by omega)) (fun W k hs ht => ht.elim (fun e => by have := (hS k hs).1; omega) ((hS k hs).2 W)) ?round ⟨hI.grown bW1 h0, r1, d1⟩).mono ?behind
    case round =>
      rintro pre x av W ⟨hi, hl, hd⟩ hpre hWs henc
      rw [z1] at henc
      have hWs2 : w.heap.size + 2 ≤ W.heap.size := by omega
      have hy := run_yield (P := P) (args := av) hl (by rw [hR]; exact hps _ _ _ _ henc)
      rw [hR] at hy
      refine ⟨fn, _, assign, body, hy, roundIn_of_wpIn hfn (hassign _ pre x av W _ hi hpre hWs2 henc fun a' W' hkf hkp hi' hax => ?_)⟩
      have hl' : W'.heap[w.heap.size + 1]? = some (.loop (R .ready none)) := hkf.same _ _ (by omega) hl rfl
      have hd' : W'.heap[w.heap.size]? = some (.deferred (some [])) := hkf.same _ _ (Nat.le_refl _) hd rfl
      have hlt := (Array.getElem?_eq_some_iff.1 hl').1
      refine ⟨_, run_beginRound hl' (by rw [hR]), ?_⟩
      obtain ⟨Wb, hWb⟩ : ∃ Wb, W'.putObj (w.heap.size + 1) (.loop { R .ready none with state := .busy }) = Wb := ⟨_, rfl⟩
      have lb' : Wb.heap[w.heap.size + 1]? = some (.loop { R .ready none with state := .busy }) := by rw [← hWb]; exact World.putObj_heap_same hlt
      have db : Wb.heap[w.heap.size]? = some (.deferred (some [])) := by rw [← hWb]; exact (World.putObj_heap_other (by omega)).trans hd'
      have kb : KeepsT (withT (w.heap.size + 1) T) W Wb := by rw [← hWb]; exact hKt hkp (hKb _ _)
      have ib : I pre Wb := by rw [← hWb]; exact hI.putObj hi' (by omega) hl' (hK _ rfl)
      have ab : Ax x a' Wb := by rw [← hWb]; exact hAp _ _ _ _ hax
      have sb : w.heap.size + 2 ≤ Wb.heap.size := by rw [← hWb]; have := hkf.size; simp; omega
      rw [hWb]
      refine wpIn_mono (hbody _ pre x a' _ rfl ⟨_, lb'⟩ ib hpre sb ab) ?_
      have fin : ∀ (jump : Option Code) (W3 : World), KeepsFrom w.heap.size Wb W3 → ∃ W4, (Instr.endRound (w.heap.size + 1) jump).run P W3 = .ok (.bool jump.isNone) W4 ∧ W4 = W3.putObj (w.heap.size + 1) (.loop (R (if jump.isNone then .ready else .done) jump)) ∧
          W3.heap[w.heap.size + 1]? = some (.loop { R .ready none with state := .busy }) ∧ W4.heap[w.heap.size + 1]? = some (.loop (R (if jump.isNone then .ready else .done) jump)) ∧ W4.heap[w.heap.size]? = some (.deferred (some [])) := fun jump W3 hk => by
        have l3 := hk.same _ _ (by omega) lb' rfl
        have h := run_endRound (P := P) jump l3
        rw [hR] at h l3 ⊢
        exact ⟨_, h, rfl, l3, World.putObj_heap_same (Array.getElem?_eq_some_iff.1 l3).1, (World.putObj_heap_other (by omega)).trans (hk.same _ _ (Nat.le_refl _) db rfl)⟩
      have left : ∀ (c : Code) (W3 : World), KeepsFrom w.heap.size Wb W3 → KeepsT (withT (w.heap.size + 1) T) Wb W3 → Ix c (pre ++ [x]) W3 → ∃ v W4, (Instr.endRound (w.heap.size + 1) (some c)).run P W3 = .ok v W4 ∧ ((Ending.returned v = .returned (.bool true) ∧ (I (pre ++ [x]) W4 ∧ W4.heap[w.heap.size + 1]? = some (.loop (R .ready none)) ∧ W4.heap[w.heap.size]? = some (.deferred (some []))) ∧ KeepsT (withT (w.heap.size + 1) T) W W4) ∨
          (Ending.returned v = .returned (.bool false) ∧ (∃ c, Ix c (pre ++ [x]) W4 ∧ W4.heap[w.heap.size + 1]? = some (.loop (R .done (some c))) ∧ W4.heap[w.heap.size]? = some (.deferred (some []))) ∧ KeepsT (withT (w.heap.size + 1) T) W W4)) := fun c W3 hk hkp3 hix => by
        obtain ⟨W4, hr, rfl, l3, l4, d4⟩ := fin (some c) W3 hk
        exact ⟨_, _, hr, .inr ⟨rfl, ⟨c, (hIx c).putObj hix (by omega) l3 (hK _ rfl), l4, d4⟩, hKt (hKt kb hkp3) (hKb _ _)⟩⟩
      rintro e a3 W3 hp
      cases e with
      | normal =>
        obtain ⟨hk, hkp3, hi3⟩ := hp
        obtain ⟨W4, hr, rfl, l3, l4, d4⟩ := fin none W3 hk
        exact ⟨_, _, hr, .inl ⟨rfl, ⟨hI.putObj hi3 (by omega) l3 (hK _ rfl), l4, d4⟩, hKt (hKt kb hkp3) (hKb _ _)⟩⟩
      | ret => exact left .ret W3 hp.1 hp.2.1 hp.2.2
      | exit id => exact left (.exit id) W3 hp.1 hp.2.1 hp.2.2
      | goto t => exact left (.goto t) W3 hp.1 hp.2.1 hp.2.2
      | panic ch => exact hp.elim
      | outgrown => exact hp.elim
    case behind =>
      rintro e W2 ⟨⟨v, rfl⟩, (⟨hi, hl, hd⟩ | ⟨pre, hSp, c, hi, hl, hd⟩)⟩
      · exact ⟨none, _, by have := run_endLoop (P := P) hl (by rw [hR]; simp); rw [hR] at this; exact this, hdone _ _ (Nat.le_refl _) (hI.putObj hi (by omega) hl (hK _ rfl)) ((World.putObj_heap_other (by omega)).trans hd)⟩
      · exact ⟨some c, _, by have := run_endLoop (P := P) hl (by rw [hR]; simp); rw [hR] at this; exact this, hstop _ c pre _ (Nat.le_refl _) hSp ((hIx c).putObj hi (by omega) hl (hK _ rfl)) ((World.putObj_heap_other (by omega)).trans hd)⟩
/-- A range within a round of another range. -/
theorem range_relN {α : Type} {g : Operand} {ps : Array Tmp} {assign body : Code} {Q : Exit → Act → World → Prop} {a : Act} {w : World}
    {l0 : Nat} {r0 : Loop} (hro : F.round = some l0) (hl0 : w.heap[l0]? = some (.loop r0)) (h1 : 1 ≤ n) {gf : Nat} {lb : Array Value} (hg : a.eval g = .func (.func gf) #[] lb) (hFg : F.fn gf) (eg : ∀ args w, (callFunc gf args).run P w = .ok (.enter gf args) w)
    {Enc : Nat → α → Array Value → World → Prop} {T : World → Nat → Prop} {K : Obj → Prop} {S : Nat → Prop} {full : List α} {w0 : World} (hseq : StopsR F (n - 1) P gf lb Enc K S full w0) (hK : ∀ o : Obj, o.isCells = false → K o)
    (hT : LowT T w.heap.size) (hS : ∀ k, S k → k < w.heap.size ∧ ∀ W, ¬ T W k) (hb0 : Below w0.heap.size w0 w) (hps : ∀ B x av W, Enc B x av W → av.size = ps.size)
    (I : List α → World → Prop) (Ix : Code → List α → World → Prop) (hI : OwnK w.heap.size K I) (hIx : ∀ c, OwnK w.heap.size K (Ix c)) (h0 : I [] w) (hTI : ∀ pre W, I pre W → TOK w.heap.size T W) (Ax : α → Act → World → Prop) (hAp : ∀ x a' W o', Ax x a' W → Ax x a' (W.putObj w.heap.size o'))
    (hassign : ∀ (l : Nat) (pre : List α) (x : α) (av : Array Value) (W : World) (K' : Act → World → Prop), I pre W → (pre ++ [x]) <+: full → w.heap.size + 1 ≤ W.heap.size → Enc (w.heap.size + 1) x av W → (∀ a' W', KeepsFrom w.heap.size W W' → KeepsT (withT w.heap.size T) W W' → I pre W' → Ax x a' W' → K' a' W') →
      assign.wpIn (F.inRound l) (n - 1 - 1) P (Exit.then K' (fun _ _ _ => False)) { tmps := (ps.zip av).foldl (fun t (p, v) => t.setIfInBounds p v) a.tmps, defers := [] } W)
    (hbody : ∀ (l : Nat) (pre : List α) (x : α) (a' : Act) (W : World), I pre W → (pre ++ [x]) <+: full → w.heap.size + 1 ≤ W.heap.size → Ax x a' W → body.wpIn (F.inRound l) (n - 1 - 1) P (postP w.heap.size (KeepsT (withT w.heap.size T)) I Ix (pre ++ [x]) W) a' W)
    (hdone : ∀ (W : World), I full W → Q .normal a W)
    (hstop : ∀ (c : Code) (pre : List α) (W : World), pre <+: full → Ix c pre W → c.wpIn F n P Q a W) :
    (Code.rangeFunc g ps assign body).wpIn F n P Q a w := by
  have hKt : ∀ {A B C : World}, KeepsT (withT w.heap.size T) A B → KeepsT (withT w.heap.size T) B C → KeepsT (withT w.heap.size T) A C := fun h k => keepsT_t h k
  have hKb : ∀ (W : World) (o' : Obj), KeepsT (withT w.heap.size T) W (W.putObj w.heap.size o') := fun W o' => keepsT_rec hT (by omega) W o'
  refine wpIn_rangeFunc fun fn hfn => ?_
  rw [hro]
  obtain ⟨R, hR⟩ : ∃ R : LoopState → Option Code → Loop, R = fun st pe => { state := st, pending := pe, fn, tmps := a.tmps, params := ps, assign, body, defers := r0.defers } := ⟨_, rfl⟩
  obtain ⟨W1, hW1⟩ : ∃ W1, w.alloc (.loop (R .ready none)) = W1 := ⟨_, rfl⟩
  have z1 : W1.heap.size = w.heap.size + 1 := by rw [← hW1]; simp
  have r1 : W1.heap[w.heap.size]? = some (.loop (R .ready none)) := by rw [← hW1]; exact World.alloc_heap_new w _
  have bW1 : Below w.heap.size w W1 := by rw [← hW1]; exact (Below.refl _ w).alloc (Nat.le_refl _) _
  have b1 : Below w0.heap.size w0 W1 := hb0.trans (bW1.mono hb0.size)
  have low : ∀ {X Y : World} {row : Option Nat} {k : Nat} {o : Obj}, X.grownBy Y row → (∀ r, row = some r → W1.heap.size ≤ r ∧ ∃ o : Obj, X.heap[r]? = some o ∧ K o) → k < w.heap.size + 1 → X.heap[k]? = some o → Y.heap[k]? = some o :=
    fun hgr hr hk ho => (hgr.block _ (Array.getElem?_eq_some_iff.1 ho).1 (fun e => by have := (hr _ e.symm).1; omega)).trans ho
  refine ⟨w.heap.size, [], W1, { target := .fn (.func gf) lb, args := #[.func (.yield w.heap.size) #[] #[]] }, W1, gf, #[.func (.yield w.heap.size) #[] #[]] ++ lb, W1, ?enter, ?res, ?leads, ?inv, fun _ => h1, ?call⟩
  case enter => rw [← hW1, hR]; exact run_enterLoop_inner hl0 _ _ _ _ _
  case res => simp only [resolve, hg]; simp [go_sem]
  case leads => intro f' hf'; simp [Target.leads] at hf'; subst hf'; exact hFg
  case inv => simp [invoke, go_sem, eg]
  case call =>
    refine (hseq w.heap.size (withT w.heap.size T) (fun pre W => I pre W ∧ W.heap[w.heap.size]? = some (.loop (R .ready none)))
      (fun pre W => ∃ c, Ix c pre W ∧ W.heap[w.heap.size]? = some (.loop (R .done (some c)))) W1 b1 (by rw [z1]; have := hb0.size; omega)
      (fun s X Y row hs hgr hr => ⟨hI.mono (by omega) s X Y row hs.1 hgr hr, low hgr hr (by omega) hs.2⟩)
      (fun s X Y row hs hgr hr => by obtain ⟨c, h, h'⟩ := hs; exact ⟨c, (hIx c).mono (by omega) s X Y row h hgr hr, low hgr hr (by omega) h'⟩)
      (hT.with.mono (by omega)) (fun pre W h => ((hTI _ _ h.1).mono (by omega)).with (Array.getElem?_eq_some_iff.1 h.2).1 (by omega)) (fun W k hs ht => ht.elim (fun e => by have := (hS k hs).1; omega) ((hS k hs).2 W)) ?round ⟨hI.grown bW1 h0, r1⟩).mono ?behind
    case round =>
      rintro pre x av W ⟨hi, hl⟩ hpre hWs henc
      rw [z1] at henc
      have hWs2 : w.heap.size + 1 ≤ W.heap.size := by omega
      have hy := run_yield (P := P) (args := av) hl (by rw [hR]; exact hps _ _ _ _ henc)
      rw [hR] at hy
      refine ⟨fn, _, assign, body, hy, roundIn_of_wpIn hfn (hassign _ pre x av W _ hi hpre hWs2 henc fun a' W' hkf hkp hi' hax => ?_)⟩
      have hl' : W'.heap[w.heap.size]? = some (.loop (R .ready none)) := hkf.same _ _ (by omega) hl rfl
      have hlt := (Array.getElem?_eq_some_iff.1 hl').1
      refine ⟨_, run_beginRound hl' (by rw [hR]), ?_⟩
      obtain ⟨Wb, hWb⟩ : ∃ Wb, W'.putObj w.heap.size (.loop { R .ready none with state := .busy }) = Wb := ⟨_, rfl⟩
      have lb' : Wb.heap[w.heap.size]? = some (.loop { R .ready none with state := .busy }) := by rw [← hWb]; exact World.putObj_heap_same hlt
      have kb : KeepsT (withT w.heap.size T) W Wb := by rw [← hWb]; exact hKt hkp (hKb _ _)
      have ib : I pre Wb := by rw [← hWb]; exact hI.putObj hi' (by omega) hl' (hK _ rfl)
      have ab : Ax x a' Wb := by rw [← hWb]; exact hAp _ _ _ _ hax
      have sb : w.heap.size + 1 ≤ Wb.heap.size := by rw [← hWb]; have := hkf.size; simp; omega
      rw [hWb]
      refine wpIn_mono (hbody _ pre x a' _ ib hpre sb ab) ?_
      have fin : ∀ (jump : Option Code) (W3 : World), KeepsFrom w.heap.size Wb W3 → ∃ W4, (Instr.endRound w.heap.size jump).run P W3 = .ok (.bool jump.isNone) W4 ∧ W4 = W3.putObj w.heap.size (.loop (R (if jump.isNone then .ready else .done) jump)) ∧
          W3.heap[w.heap.size]? = some (.loop { R .ready none with state := .busy }) ∧ W4.heap[w.heap.size]? = some (.loop (R (if jump.isNone then .ready else .done) jump)) := fun jump W3 hk => by
        have l3 := hk.same _ _ (by omega) lb' rfl
        have h := run_endRound (P := P) jump l3
        rw [hR] at h l3 ⊢
        exact ⟨_, h, rfl, l3, World.putObj_heap_same (Array.getElem?_eq_some_iff.1 l3).1⟩
      have left : ∀ (c : Code) (W3 : World), KeepsFrom w.heap.size Wb W3 → KeepsT (withT w.heap.size T) Wb W3 → Ix c (pre ++ [x]) W3 → ∃ v W4, (Instr.endRound w.heap.size (some c)).run P W3 = .ok v W4 ∧ ((Ending.returned v = .returned (.bool true) ∧ (I (pre ++ [x]) W4 ∧ W4.heap[w.heap.size]? = some (.loop (R .ready none))) ∧ KeepsT (withT w.heap.size T) W W4) ∨
          (Ending.returned v = .returned (.bool false) ∧ (∃ c, Ix c (pre ++ [x]) W4 ∧ W4.heap[w.heap.size]? = some (.loop (R .done (some c)))) ∧ KeepsT (withT w.heap.size T) W W4)) := fun c W3 hk hkp3 hix => by
        obtain ⟨W4, hr, rfl, l3, l4⟩ := fin (some c) W3 hk
        exact ⟨_, _, hr, .inr ⟨rfl, ⟨c, (hIx c).putObj hix (by omega) l3 (hK _ rfl), l4⟩, hKt (hKt kb hkp3) (hKb _ _)⟩⟩
      rintro e a3 W3 hp
      cases e with
      | normal =>
        obtain ⟨hk, hkp3, hi3⟩ := hp
        obtain ⟨W4, hr, rfl, l3, l4⟩ := fin none W3 hk
        exact ⟨_, _, hr, .inl ⟨rfl, ⟨hI.putObj hi3 (by omega) l3 (hK _ rfl), l4⟩, hKt (hKt kb hkp3) (hKb _ _)⟩⟩
      | ret => exact left .ret W3 hp.1 hp.2.1 hp.2.2
      | exit id => exact left (.exit id) W3 hp.1 hp.2.1 hp.2.2
      | goto t => exact left (.goto t) W3 hp.1 hp.2.1 hp.2.2
      | panic ch => exact hp.elim
      | outgrown => exact hp.elim
    case behind =>
      rintro e W2 ⟨⟨v, rfl⟩, (⟨hi, hl⟩ | ⟨pre, hSp, c, hi, hl⟩)⟩
      · exact ⟨none, _, by have := run_endLoop (P := P) hl (by rw [hR]; simp); rw [hR] at this; exact this, hdone _ (hI.putObj hi (by omega) hl (hK _ rfl))⟩
      · exact ⟨some c, _, by have := run_endLoop (P := P) hl (by rw [hR]; simp); rw [hR] at this; exact this, hstop c pre _ hSp ((hIx c).putObj hi (by omega) hl (hK _ rfl))⟩
end
end Go.Proofs.YtheidjnapoipaaaGreatDoor
