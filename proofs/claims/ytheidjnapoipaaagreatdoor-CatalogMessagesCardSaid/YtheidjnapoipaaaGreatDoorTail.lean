/- A region that draws its order, whose operations but the last are quiet in a class of worlds, and whose last waits for all others: one walk in the order of the text, in a round of a range over a function, and outside. -/
import Derived.StillTail
import Derived.Test.YtheidjnapoipaaaGreatDoorRound
namespace Go.Proofs.YtheidjnapoipaaaGreatDoor
set_option linter.unusedVariables false
section
variable {P : Program} {ops ops' : Array Oper} {md : Region.Mode} {C : World → Prop} {N : Nat}

/-- Each edge goes back, and no operation is guarded. -/
def backB (ops : Array Oper) : Bool := (List.range ops.size).all fun j => match ops[j]? with
  | some o => (o.after.all fun e => decide (e.on < j)) && o.guard.isNone
  | none => true
theorem backB_spec (h : backB ops = true) {j : Nat} {o : Oper} (hj : ops[j]? = some o) : (∀ e ∈ o.after, e.on < j) ∧ o.guard = none := by
  have h1 := List.all_eq_true.1 h j (List.mem_range.2 (Array.getElem?_eq_some_iff.1 hj).1)
  simp only [hj, Bool.and_eq_true, Array.all_eq_true_iff_forall_mem, decide_eq_true_eq, Option.isNone_iff_eq_none] at h1
  exact h1

/-- Both lists say the same of the first N. -/
def SameHead (N : Nat) (l l' : Array Bool) : Prop := l.size = N + 1 ∧ l'.size = N ∧ ∀ j, j < N → l[j]? = l'[j]?
theorem SameHead.getD {l l' : Array Bool} (h : SameHead N l l') {j : Nat} (hj : j < N) (b : Bool) : l.getD j b = l'.getD j b := by
  have := h.2.2 j hj
  simp only [Array.getD_eq_getD_getElem?, this]
theorem SameHead.set {l l' : Array Bool} (h : SameHead N l l') {i : Nat} (hi : i < N) : SameHead N (l.setIfInBounds i true) (l'.setIfInBounds i true) := by
  refine ⟨by simp [h.1], by simp [h.2.1], fun j hj => ?_⟩
  rw [Array.getElem?_setIfInBounds, Array.getElem?_setIfInBounds, h.1, h.2.1, h.2.2 j hj]
  by_cases e : i = j
  · rw [if_pos e, if_pos e, if_pos (by omega), if_pos (by omega)]
  · rw [if_neg e, if_neg e]

theorem ready_head {l l' : Array Bool} (h : SameHead N l l') (ho : ∀ j, j < N → ops'[j]? = ops[j]?) (hb : backB ops = true) {i : Nat} (hi : i < N) : i ∈ Region.ready md ops l ↔ i ∈ Region.ready md ops' l' := by
  rw [mem_ready, mem_ready, h.getD hi, ho i hi]
  refine and_congr_right fun _ => exists_congr fun o => and_congr_right fun hoi => ?_
  have hbk := (backB_spec hb hoi).1
  constructor
  · intro H e he hbi
    rw [← h.getD (by have := hbk e he; omega)]; exact H e he hbi
  · intro H e he hbi
    rw [h.getD (by have := hbk e he; omega)]; exact H e he hbi

theorem all_listed {l l' : Array Bool} (h : SameHead N l l') (ho : ∀ j, j < N → ops'[j]? = ops[j]?) (hsz : ops.size = N + 1) (hb : backB ops = true) (hr : Region.ready md ops' l' = []) :
    ∀ i, i < N → l.getD i true = true := by
  intro i
  induction i using Nat.strongRecOn with
  | _ i ih =>
    intro hi
    cases hl : l.getD i true with
    | true => rfl
    | false =>
      exfalso
      obtain ⟨o, hoi⟩ : ∃ o, ops[i]? = some o := ⟨_, Array.getElem?_eq_getElem (by omega)⟩
      have hm : i ∈ Region.ready md ops l := mem_ready.2 ⟨hl, o, hoi, fun e he hbi => by
        have hlt := (backB_spec hb hoi).1 e he
        have := ih e.on hlt (by omega)
        have hs : e.on < l.size := by rw [h.1]; omega
        simp only [Array.getD_eq_getD_getElem?, Array.getElem?_eq_getElem hs, Option.getD_some] at this ⊢
        exact this⟩
      rw [ready_head h ho hb hi, hr] at hm
      cases hm

theorem last_ready {l l' : Array Bool} {last : Oper} (h : SameHead N l l') (ho : ∀ j, j < N → ops'[j]? = ops[j]?) (hN : ops[N]? = some last) (hsz : ops.size = N + 1) (hb : backB ops = true) (hI : HeadInv md ops N l) (hr : Region.ready md ops' l' = []) :
    N ∈ Region.ready md ops l := by
  refine mem_ready.2 ⟨hI.tail N (Nat.le_refl _) (by omega), last, hN, fun e he hbi => ?_⟩
  have hlt := (backB_spec hb hN).1 e he
  have := all_listed h ho hsz hb hr e.on hlt
  have hs : e.on < l.size := by rw [h.1]; omega
  simp only [Array.getD_eq_getD_getElem?, Array.getElem?_eq_getElem hs, Option.getD_some] at this ⊢
  exact this

theorem chainB_last (hsz : ops.size = N + 1) : Region.chainB md ops N = true := by
  unfold Region.chainB
  rw [List.all_eq_true]
  intro t ht
  have := List.mem_range.1 ht
  have : decide (t ≤ N) = true := decide_eq_true (by omega)
  rw [this]; rfl

theorem head_done {l l' : Array Bool} (h : SameHead N l l') (ho : ∀ j, j < N → ops'[j]? = ops[j]?) (hsz : ops.size = N + 1) (hsz' : ops'.size = N) (hb : backB ops = true) (hs : Region.sinkB md ops N = true) (hI : HeadInv md ops N l) (hm : N ∈ Region.ready md ops l) :
    Region.ready md ops' l' = [] := by
  rw [List.eq_nil_iff_forall_not_mem]
  intro i hi
  have hiN : i < N := by
    obtain ⟨_, o, hoi, _⟩ := mem_ready.1 hi
    have := (Array.getElem?_eq_some_iff.1 hoi).1
    omega
  have h2 := (ready_head h ho hb hiN).2 hi
  exact tail_waits hs (chainB_last hsz) (by omega) hI _ i rfl hiN (mem_ready.1 h2).1 N (Nat.le_refl _) hm

theorem after_last {l l' : Array Bool} (h : SameHead N l l') (ho : ∀ j, j < N → ops'[j]? = ops[j]?) (hsz : ops.size = N + 1) (hb : backB ops = true) (hr : Region.ready md ops' l' = []) :
    Region.ready md ops (l.setIfInBounds N true) = [] := by
  rw [List.eq_nil_iff_forall_not_mem]
  intro i hi
  obtain ⟨h1, o, hoi, h2⟩ := mem_ready.1 hi
  have hlt := (Array.getElem?_eq_some_iff.1 hoi).1
  by_cases hiN : i = N
  · subst hiN
    have hs : i < l.size := by rw [h.1]; omega
    simp [Array.getD_eq_getD_getElem?, hs] at h1
  · have hiN' : i < N := by omega
    have h3 : i ∈ Region.ready md ops l := mem_ready.2 ⟨by rwa [getD_set_ne true (Ne.symm hiN)] at h1, o, hoi, fun e he hbi => by
      have := h2 e he hbi
      have hlt := (backB_spec hb hoi).1 e he
      rwa [getD_set_ne false (by omega)] at this⟩
    rw [ready_head h ho hb hiN', hr] at h3
    cases h3

theorem wanted_none {o : Oper} (h : o.guard = none) (a : Act) : Region.wanted o (yielded ops a.tmps) = true := by
  unfold Region.wanted; rw [h]

theorem qOp_head {i : Nat} {K : Act → Prop} {a : Act} (ho : ops'[i]? = ops[i]?) (hb : backB ops = true) (h : qOp P ops' C i K a) : qOp P ops C i K a := by
  unfold qOp at *
  rw [ho] at h
  cases hi : ops[i]? with
  | none => rw [hi] at h; exact h
  | some o =>
    rw [hi] at h
    simp only [wanted_none (backB_spec hb hi).2] at h ⊢
    exact h

theorem wpAnyIn_tail {l n : Nat} {last : Oper} (hd : ops.all (fun o => !isDefer o.op) = true) (hN : ops[N]? = some last) (hsz : ops.size = N + 1) (hsz' : ops'.size = N) (ho : ∀ j, j < N → ops'[j]? = ops[j]?) (hb : backB ops = true) (hs : Region.sinkB md ops N = true)
    {Q : Act → Prop} {Q' : Exit → Act → World → Prop} (hQ : ∀ a w, C w → Q a → wpListIn (Fence.wide.inRound l) n P ops Q' [last] a w) :
    ∀ (fuel : Nat) (li li' : Array Bool) (a : Act) (w : World), SameHead N li li' → HeadInv md ops N li → C w → wpAnyQ P md ops' C Q fuel li' a → wpAnyIn (Fence.wide.inRound l) n P md ops Q' (fuel + 1) li a w := by
  have fin : ∀ (fuel : Nat) (li li' : Array Bool) (a : Act) (w : World), SameHead N li li' → C w → Q a → Region.ready md ops' li' = [] → wpOpIn (Fence.wide.inRound l) n P ops Q' N (wpAnyIn (Fence.wide.inRound l) n P md ops Q' fuel (li.setIfInBounds N true)) a w := by
    intro fuel li li' a w hR hC hq hr
    have h1 := hQ a w hC hq
    have h0 := after_last hR ho hsz hb hr
    unfold wpOpIn
    simp only [hN, wanted_none (backB_spec hb hN).2, if_true]
    simp only [wpListIn, wanted_none (backB_spec hb hN).2, if_true] at h1
    refine Oper.wpIn_mono (fun a' w' hk => ?_) h1
    cases fuel with
    | zero => exact ⟨h0, hk⟩
    | succ f => exact ⟨fun _ => hk, fun i hi => by rw [h0] at hi; cases hi⟩
  intro fuel
  induction fuel with
  | zero =>
    intro li li' a w hR hI hC hq
    refine ⟨fun h0 => ?_, fun i hi => ?_⟩
    · have := last_ready hR ho hN hsz hb hI hq.1
      rw [h0] at this; cases this
    · by_cases hiN : i = N
      · subst hiN; exact fin _ li li' a w hR hC hq.2 hq.1
      · have hiN' : i < N := by
          obtain ⟨_, o, hoi, _⟩ := mem_ready.1 hi
          have := (Array.getElem?_eq_some_iff.1 hoi).1
          omega
        rw [ready_head hR ho hb hiN', hq.1] at hi
        cases hi
  | succ fuel ih =>
    intro li li' a w hR hI hC hq
    refine ⟨fun h0 => ?_, fun i hi => ?_⟩
    · have hr : Region.ready md ops' li' = [] := by
        rw [List.eq_nil_iff_forall_not_mem]
        intro i hi
        have hiN : i < N := by
          obtain ⟨_, o, hoi, _⟩ := mem_ready.1 hi
          have := (Array.getElem?_eq_some_iff.1 hoi).1
          omega
        have := (ready_head hR ho hb hiN).2 hi
        rw [h0] at this; cases this
      have := last_ready hR ho hN hsz hb hI hr
      rw [h0] at this; cases this
    · by_cases hiN : i = N
      · subst hiN
        have hr := head_done hR ho hsz hsz' hb hs hI hi
        exact fin _ li li' a w hR hC (hq.1 hr) hr
      · have hiN' : i < N := by
          obtain ⟨_, o, hoi, _⟩ := mem_ready.1 hi
          have := (Array.getElem?_eq_some_iff.1 hoi).1
          omega
        have h2 := hq.2 i ((ready_head hR ho hb hiN').1 hi)
        exact wpOpIn_of_qOp hd hC (fun a' w' hC' hk => ih _ _ a' w' (hR.set hiN') (hI.set hi hiN') hC' hk) (qOp_head (ho i hiN') hb h2)

theorem wpAny_tail {last : Oper} (hN : ops[N]? = some last) (hsz : ops.size = N + 1) (hsz' : ops'.size = N) (ho : ∀ j, j < N → ops'[j]? = ops[j]?) (hb : backB ops = true) (hs : Region.sinkB md ops N = true)
    {Q : Act → Prop} {Q' : Exit → Act → World → Prop} (hQ : ∀ a w, C w → Q a → wpList P ops Q' [last] a w) :
    ∀ (fuel : Nat) (li li' : Array Bool) (a : Act) (w : World), SameHead N li li' → HeadInv md ops N li → C w → wpAnyQ P md ops' C Q fuel li' a → wpAny P md ops Q' (fuel + 1) li a w := by
  have fin : ∀ (fuel : Nat) (li li' : Array Bool) (a : Act) (w : World), SameHead N li li' → C w → Q a → Region.ready md ops' li' = [] → wpOp P ops Q' N (wpAny P md ops Q' fuel (li.setIfInBounds N true)) a w := by
    intro fuel li li' a w hR hC hq hr
    have h1 := hQ a w hC hq
    have h0 := after_last hR ho hsz hb hr
    unfold wpOp
    simp only [hN, wanted_none (backB_spec hb hN).2, if_true]
    simp only [wpList, wanted_none (backB_spec hb hN).2, if_true] at h1
    refine h1.imp (fun h1 => Oper.wp_mono (fun a' w' hk => ?_) h1) id
    cases fuel with
    | zero => exact ⟨h0, hk⟩
    | succ f => exact ⟨fun _ => hk, fun i hi => by rw [h0] at hi; cases hi⟩
  intro fuel
  induction fuel with
  | zero =>
    intro li li' a w hR hI hC hq
    refine ⟨fun h0 => ?_, fun i hi => ?_⟩
    · have := last_ready hR ho hN hsz hb hI hq.1
      rw [h0] at this; cases this
    · by_cases hiN : i = N
      · subst hiN; exact fin _ li li' a w hR hC hq.2 hq.1
      · have hiN' : i < N := by
          obtain ⟨_, o, hoi, _⟩ := mem_ready.1 hi
          have := (Array.getElem?_eq_some_iff.1 hoi).1
          omega
        rw [ready_head hR ho hb hiN', hq.1] at hi
        cases hi
  | succ fuel ih =>
    intro li li' a w hR hI hC hq
    refine ⟨fun h0 => ?_, fun i hi => ?_⟩
    · have hr : Region.ready md ops' li' = [] := by
        rw [List.eq_nil_iff_forall_not_mem]
        intro i hi
        have hiN : i < N := by
          obtain ⟨_, o, hoi, _⟩ := mem_ready.1 hi
          have := (Array.getElem?_eq_some_iff.1 hoi).1
          omega
        have := (ready_head hR ho hb hiN).2 hi
        rw [h0] at this; cases this
      have := last_ready hR ho hN hsz hb hI hr
      rw [h0] at this; cases this
    · by_cases hiN : i = N
      · subst hiN
        have hr := head_done hR ho hsz hsz' hb hs hI hi
        exact fin _ li li' a w hR hC (hq.1 hr) hr
      · have hiN' : i < N := by
          obtain ⟨_, o, hoi, _⟩ := mem_ready.1 hi
          have := (Array.getElem?_eq_some_iff.1 hoi).1
          omega
        have h2 := hq.2 i ((ready_head hR ho hb hiN').1 hi)
        exact wpOp_of_qOp hC (fun a' w' hC' hk => ih _ _ a' w' (hR.set hiN') (hI.set hi hiN') hC' hk) (qOp_head (ho i hiN') hb h2)

/-- All that is asked of the operations themselves. -/
def tailB (N : Nat) (os : List Oper) : Bool :=
  os.length == N + 1 && os.toArray.all (fun o => !isDefer o.op) && backB os.toArray && Region.sinkB .any os.toArray N && Region.lexB .any (os.take N).toArray
theorem headInv_start (hsz : ops.size = N + 1) : HeadInv md ops N (Array.replicate ops.size false) := by
  refine ⟨by simp, fun j oj _ h => ?_, fun t _ ht => ?_⟩
  · rw [getD_replicate_false] at h; cases h
  · simp [ht]
theorem sameHead_start (hsz : ops.size = N + 1) (hsz' : ops'.size = N) : SameHead N (Array.replicate ops.size false) (Array.replicate ops'.size false) := by
  refine ⟨by simp [hsz], by simp [hsz'], fun j hj => ?_⟩
  rw [Array.getElem?_replicate, Array.getElem?_replicate, if_pos (by omega), if_pos (by omega)]

theorem tail_parts {os : List Oper} (h : tailB N os = true) : os.length = N + 1 ∧ os.toArray.all (fun o => !isDefer o.op) = true ∧ backB os.toArray = true ∧ Region.sinkB .any os.toArray N = true ∧ Region.noSelect (os.take N).toArray = true ∧ Region.lexFrom .any (os.take N).toArray (os.take N).toArray.size 0 (Array.replicate (os.take N).toArray.size false) = true := by
  simp only [tailB, Bool.and_eq_true, beq_iff_eq, Region.lexB] at h
  exact ⟨h.1.1.1.1, h.1.1.1.2, h.1.1.2, h.1.2, h.2.1, h.2.2⟩

/-- In a round. -/
theorem round_tail (N : Nat) {l n id : Nat} {os : List Oper} {last : Oper} {Q : Exit → Act → World → Prop} {a : Act} {w : World} (C : World → Prop) (hm : P.follows .mixedOrders = true) (hB : tailB N os = true) (hl : os[N]? = some last) (hC : C { w with drawn := w.drawn + 1 })
    (h : wpQuiet P (os.take N).toArray C (fun a' => ∀ w', C w' → wpListIn (Fence.wide.inRound l) n P os.toArray Q [last] a' w') (os.take N) a) : (Code.region id os.toArray true).wpIn (Fence.wide.inRound l) n P Q a w := by
  obtain ⟨h1, h2, h3, h4, h5, h6⟩ := tail_parts hB
  have hsz : os.toArray.size = N + 1 := by simpa using h1
  have hsz' : (os.take N).toArray.size = N := by simp [h1]
  have ho : ∀ j, j < N → (os.take N).toArray[j]? = os.toArray[j]? := fun j hj => by simp [hj]
  have hq := wpAnyQ_lex (C := C) (md := .any) (ops := (os.take N).toArray) (P := P) h5 (os.take N) 0 (Array.replicate (os.take N).toArray.size false) a (by simp) (by rw [List.size_toArray] at h6 ⊢; exact h6) h
  have hlen : (os.take N).length = N := by simpa using hsz'
  rw [hlen] at hq
  have := wpAnyIn_tail (l := l) (n := n) (last := last) h2 (by simpa using hl) hsz hsz' ho h3 h4 (Q' := Q) (fun a' w' hC' hk => hk w' hC') N _ _ a _ (sameHead_start hsz hsz') (headInv_start hsz) hC hq
  refine wpIn_region_any hm ?_
  rw [hsz]
  rw [hsz] at this
  exact this

/-- Outside of rounds. -/
theorem region_tail (N : Nat) {id : Nat} {os : List Oper} {last : Oper} {Q : Exit → Act → World → Prop} {a : Act} {w : World} (C : World → Prop) (hm : P.follows .mixedOrders = true) (hB : tailB N os = true) (hl : os[N]? = some last) (hC : C { w with drawn := w.drawn + 1 })
    (h : wpQuiet P (os.take N).toArray C (fun a' => ∀ w', C w' → wpList P os.toArray Q [last] a' w') (os.take N) a) : (Code.region id os.toArray true).wp P Q a w := by
  obtain ⟨h1, h2, h3, h4, h5, h6⟩ := tail_parts hB
  have hsz : os.toArray.size = N + 1 := by simpa using h1
  have hsz' : (os.take N).toArray.size = N := by simp [h1]
  have ho : ∀ j, j < N → (os.take N).toArray[j]? = os.toArray[j]? := fun j hj => by simp [hj]
  have hq := wpAnyQ_lex (C := C) (md := .any) (ops := (os.take N).toArray) (P := P) h5 (os.take N) 0 (Array.replicate (os.take N).toArray.size false) a (by simp) (by rw [List.size_toArray] at h6 ⊢; exact h6) h
  have hlen : (os.take N).length = N := by simpa using hsz'
  rw [hlen] at hq
  have := wpAny_tail (last := last) (by simpa using hl) hsz hsz' ho h3 h4 (Q' := Q) (fun a' w' hC' hk => hk w' hC') N _ _ a _ (sameHead_start hsz hsz') (headInv_start hsz) hC hq
  refine wp_region_any hm ?_
  rw [hsz]
  rw [hsz] at this
  exact this
end
end Go.Proofs.YtheidjnapoipaaaGreatDoor
