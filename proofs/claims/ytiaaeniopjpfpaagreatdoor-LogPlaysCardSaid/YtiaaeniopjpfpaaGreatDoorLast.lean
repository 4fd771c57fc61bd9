/- A region that draws its order, whose last operation waits for all others: the others by what is held (wpAnyH), the last one behind them. -/
import Derived.Deep.RegionHeld3
import Derived.Test.YtiaaeniopjpfpaaGreatDoorTail
namespace Go.Proofs.YtiaaeniopjpfpaaGreatDoor
set_option linter.unusedVariables false
section
variable {P : Program} {ops ops' : Array Oper} {md : Region.Mode} {N : Nat}

theorem wp_monoQ {o : Oper} {a : Act} {w : World} {K K' : Act → World → Prop} {Q Q' : Exit → Act → World → Prop} (h : ∀ a w, K a w → K' a w) (hq : ∀ e a w, e ≠ .normal → Q e a w → Q' e a w)
    (hh : o.wp P a w K Q) : o.wp P a w K' Q' := by
  unfold Oper.wp at *
  generalize (execOp a.eval o).run P w = r at *
  cases r with
  | ok n w' =>
    cases n <;> simp only [Oper.upon] at hh ⊢
    case value u => exact h _ _ hh
    case skip => exact h _ _ hh
    case defer d => exact h _ _ hh
    case enter f args =>
      refine hh.mono ?_
      intro e w'' hx
      cases e with
      | returned v => exact h _ _ hx
      | panicked c => exact hq _ _ _ (by intro e; cases e) hx
      | outgrown => obtain ⟨a', w', hx⟩ := hx; exact ⟨a', w', hq _ _ _ (by intro e; cases e) hx⟩
    case row r args => exact hh.mono fun _ _ hx => h _ _ hx
    all_goals exact hh
  | halt x w' =>
    cases x <;> simp only [Oper.upon] at hh ⊢
    case panic v => exact hq _ _ _ (by intro e; cases e) hh
    all_goals exact hh
theorem asks_mono {o : Oper} {a : Act} {w : World} {Q Q' : Exit → Act → World → Prop} (hq : ∀ e a w, e ≠ .normal → Q e a w → Q' e a w) (h : o.asks P a w ∧ LetsOut Q) : o.asks P a w ∧ LetsOut Q' := by
  obtain ⟨h1, a', w', hx⟩ := h
  exact ⟨h1, a', w', hq _ _ _ (by intro e; cases e) hx⟩

/-- The others' end: the last one is still to come. -/
def LastQ (P : Program) (ops : Array Oper) (Q : Exit → Act → World → Prop) (last : Oper) : Exit → Act → World → Prop
  | .normal, a, w => wpList P ops Q [last] a w
  | e, a, w => Q e a w

theorem LastQ.imp {Q : Exit → Act → World → Prop} {last : Oper} : ∀ e a w, e ≠ .normal → LastQ P ops Q last e a w → Q e a w := by
  intro e a w he h
  cases e <;> first | exact absurd rfl he | exact h

theorem wpAny_last {last : Oper} (hN : ops[N]? = some last) (hsz : ops.size = N + 1) (hsz' : ops'.size = N) (ho : ∀ j, j < N → ops'[j]? = ops[j]?) (hb : backB ops = true) (hs : Region.sinkB md ops N = true) {Q : Exit → Act → World → Prop} :
    ∀ (fuel : Nat) (li li' : Array Bool) (a : Act) (w : World), SameHead N li li' → HeadInv md ops N li → wpAny P md ops' (LastQ P ops Q last) fuel li' a w → wpAny P md ops Q (fuel + 1) li a w := by
  have fin : ∀ (fuel : Nat) (li li' : Array Bool) (a : Act) (w : World), SameHead N li li' → LastQ P ops Q last .normal a w → Region.ready md ops' li' = [] → wpOp P ops Q N (wpAny P md ops Q fuel (li.setIfInBounds N true)) a w := by
    intro fuel li li' a w hR h1 hr
    have h0 := after_last hR ho hsz hb hr
    unfold wpOp
    simp only [hN, wanted_none (backB_spec hb hN).2, if_true]
    simp only [LastQ, wpList, wanted_none (backB_spec hb hN).2, if_true] at h1
    refine h1.imp (fun h1 => Oper.wp_mono (fun a' w' hk => ?_) h1) id
    cases fuel with
    | zero => exact ⟨h0, hk⟩
    | succ f => exact ⟨fun _ => hk, fun i hi => by rw [h0] at hi; cases hi⟩
  have step : ∀ (i : Nat) (hi : i < N) (K K' : Act → World → Prop) (a : Act) (w : World), (∀ a w, K a w → K' a w) → wpOp P ops' (LastQ P ops Q last) i K a w → wpOp P ops Q i K' a w := by
    intro i hi K K' a w hK h
    unfold wpOp at *
    rw [ho i hi] at h
    cases hoi : ops[i]? with
    | none => rw [hoi] at h; exact hK _ _ h
    | some o =>
      rw [hoi] at h
      simp only [wanted_none (backB_spec hb hoi).2, if_true] at h ⊢
      exact h.imp (wp_monoQ hK LastQ.imp) (asks_mono LastQ.imp)
  intro fuel
  induction fuel with
  | zero =>
    intro li li' a w hR hI hq
    refine ⟨fun h0 => ?_, fun i hi => ?_⟩
    · have := last_ready hR ho hN hsz hb hI hq.1
      rw [h0] at this; cases this
    · by_cases hiN : i = N
      · subst hiN; exact fin _ li li' a w hR hq.2 hq.1
      · have hiN' : i < N := by
          obtain ⟨_, o, hoi, _⟩ := mem_ready.1 hi
          have := (Array.getElem?_eq_some_iff.1 hoi).1
          omega
        rw [ready_head hR ho hb hiN', hq.1] at hi
        cases hi
  | succ fuel ih =>
    intro li li' a w hR hI hq
    refine ⟨fun h0 => ?_, fun i hi => ?_⟩
    · have hr : Region.ready md ops' li' = [] := by
        rw [List.eq_nil_iff_forall_not_mem]
        intro i hi
        have hiN : i < N := by
          obtain ⟨_, o, hoi, _⟩ := mem_ready.1 hi
          have := (Array.getElem?_eq_some_iff.1 hoi).1
          omega
        have := (ready_head hR ho hb hiN).2 hi
        rw [h0] at this; cases this
      have := last_ready hR ho hN hsz hb hI hr
      rw [h0] at this; cases this
    · by_cases hiN : i = N
      · subst hiN
        have hr := head_done hR ho hsz hsz' hb hs hI hi
        exact fin _ li li' a w hR (hq.1 hr) hr
      · have hiN' : i < N := by
          obtain ⟨_, o, hoi, _⟩ := mem_ready.1 hi
          have := (Array.getElem?_eq_some_iff.1 hoi).1
          omega
        have h2 := hq.2 i ((ready_head hR ho hb hiN').1 hi)
        exact step i hiN' _ _ a w (fun a' w' hk => ih _ _ a' w' (hR.set hiN') (hI.set hi hiN') hk) h2

def lastB (N : Nat) (os : List Oper) : Bool := os.length == N + 1 && backB os.toArray && Region.sinkB .any os.toArray N
theorem region_held_last (N : Nat) {id : Nat} {os : List Oper} {last : Oper} {Q : Exit → Act → World → Prop} {a : Act} {w : World} (S : World → Prop) (hm : P.follows .mixedOrders = true) (hB : lastB N os = true) (hl : os[N]? = some last) (hS : S w.drew)
    (h : S w.drew → wpAnyH P .any (os.take N).toArray (LastQ P os.toArray Q last) S N (Array.replicate N false) a w.drew) : (Code.region id os.toArray true).wp P Q a w := by
  simp only [lastB, Bool.and_eq_true, beq_iff_eq] at hB
  obtain ⟨⟨h1, h3⟩, h4⟩ := hB
  have hsz : os.toArray.size = N + 1 := by simpa using h1
  have hsz' : (os.take N).toArray.size = N := by simp [h1]
  have ho : ∀ j, j < N → (os.take N).toArray[j]? = os.toArray[j]? := fun j hj => by simp [hj]
  have h5 := wpAny_of_held _ _ _ _ (h hS)
  have h6 := sameHead_start hsz hsz'
  rw [hsz, hsz'] at h6
  have h7 := headInv_start (md := .any) (ops := os.toArray) (N := N) hsz
  rw [hsz] at h7
  have := wpAny_last (last := last) (by simpa using hl) hsz hsz' ho h3 h4 (Q := Q) N _ _ a _ h6 h7 h5
  refine wp_region_any hm ?_
  rw [hsz]
  exact this
end
end Go.Proofs.YtiaaeniopjpfpaaGreatDoor
