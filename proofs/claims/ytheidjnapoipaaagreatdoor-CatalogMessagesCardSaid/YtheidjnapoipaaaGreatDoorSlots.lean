/- A region that draws its order, its operations in a class of worlds in which memory only grows: what each operation leaves, by a property that later worlds keep; the last operations, which wait for all, in their order. -/
import Derived.Orders
import Derived.Below
import Derived.WalkKit
namespace Go.Proofs.YtheidjnapoipaaaGreatDoor
open Go Go.RowKit
set_option linter.unusedVariables false

section
variable {P : Program} {ops : Array Oper} {Q : Exit → Act → World → Prop} {md : Region.Mode}

/-- Which operation's the slot is. -/
def slotOf (ops : Array Oper) (t : Tmp) : Option Nat := ops.toList.findIdx? fun o => o.dst == some t
/-- What an operand is, the operations having left vals. -/
def evalS (a0 : Act) (ops : Array Oper) (vals : Nat → Value) : Operand → Value
  | .tmp t => match slotOf ops t with
    | some i => vals i
    | none => a0.tmps.getD t undef
  | x => a0.eval x
/-- Does the operation wait for number j? -/
def needsS (md : Region.Mode) (o : Oper) (j : Nat) : Bool := o.after.any fun e => Region.binds md e && e.on == j
/-- One operation: it leaves a value of which R is true. -/
def StepOK (P : Program) (s : Sem Next) (R : Value → World → Prop) (C : World → Prop) (w : World) : Prop :=
  match s.run P w with
  | .ok (.value v) w' => R v w' ∧ C w' ∧ Below w.heap.size w w'
  | .ok (.enter f args) w' => Calls P f args w' fun e w'' => ∃ v, e = .returned v ∧ R v w'' ∧ C w'' ∧ Below w.heap.size w w''
  | _ => False
/-- Is the region of that form, the first m operations being free? -/
def okS (md : Region.Mode) (ops : Array Oper) (m sz : Nat) : Bool :=
  decide (m ≤ ops.size) && (List.range ops.size).all fun i => match ops[i]? with
    | none => true
    | some o => (o.after.all fun e => !Region.binds md e || decide (e.on < i)) &&
      if i < m then o.guard.isNone && (match o.op with | .select .. => false | _ => true) &&
        (match o.dst with | some d => decide (d < sz) && slotOf ops d == some i | none => false) &&
        o.op.operands.all fun x => match x with
          | .tmp t => (match slotOf ops t with | some j => needsS md o j | none => true)
          | _ => true
      else (List.range i).all fun j => needsS md o j
/-- The frame behind the free ones. -/
def finalS (a0 : Act) (ops : Array Oper) (m : Nat) (vals : Nat → Value) : Act :=
  { tmps := a0.tmps.mapIdx fun t v => match slotOf ops t with
      | some i => if i < m then vals i else v
      | none => v
    defers := a0.defers }
structure RepS (a0 : Act) (ops : Array Oper) (listed : Array Bool) (vals : Nat → Value) (a : Act) : Prop where
  defers : a.defers = a0.defers
  size : a.tmps.size = a0.tmps.size
  at_ : ∀ t, a.tmps.getD t undef = match slotOf ops t with
    | some i => if listed.getD i false = true then vals i else a0.tmps.getD t undef
    | none => a0.tmps.getD t undef

theorem okS_get {m sz : Nat} (h : okS md ops m sz = true) (i : Nat) (o : Oper) (ho : ops[i]? = some o) :
    (∀ e ∈ o.after, Region.binds md e = true → e.on < i) ∧
    (i < m → o.guard = none ∧ (∀ cs b, o.op ≠ .select cs b) ∧ (∃ d, o.dst = some d ∧ d < sz ∧ slotOf ops d = some i) ∧ (∀ t, .tmp t ∈ o.op.operands → ∀ j, slotOf ops t = some j → needsS md o j = true)) ∧
    (m ≤ i → ∀ j, j < i → needsS md o j = true) := by
  unfold okS at h
  rw [Bool.and_eq_true, List.all_eq_true] at h
  have h2 := h.2 i (List.mem_range.2 (Array.getElem?_eq_some_iff.1 ho).1)
  rw [ho] at h2
  dsimp only at h2
  rw [Bool.and_eq_true] at h2
  refine ⟨fun e he hb => ?_, fun hm => ?_, fun hm j hj => ?_⟩
  · have := (Array.all_eq_true_iff_forall_mem.1 h2.1) e he
    rw [hb] at this
    simpa using this
  · have h3 := h2.2
    rw [if_pos hm] at h3
    simp only [Bool.and_eq_true] at h3
    obtain ⟨⟨⟨hg, hs⟩, hd⟩, hop⟩ := h3
    refine ⟨by simpa using hg, (fun cs b e => by rw [e] at hs; cases hs), ?_, fun t ht j hj => ?_⟩
    · cases hdd : o.dst with
      | none => rw [hdd] at hd; cases hd
      | some d =>
        rw [hdd] at hd
        simp only [Bool.and_eq_true, decide_eq_true_eq, beq_iff_eq] at hd
        exact ⟨d, rfl, hd.1, hd.2⟩
    · have := (Array.all_eq_true_iff_forall_mem.1 hop) _ ht
      dsimp only at this
      rw [hj] at this
      exact this
  · have h3 := h2.2
    rw [if_neg (by omega)] at h3
    exact List.all_eq_true.1 h3 j (List.mem_range.2 hj)
theorem any_mem {α : Type} {l : Array α} {p : α → Bool} (h : l.any p = true) : ∃ e, e ∈ l ∧ p e = true := by
  rw [Array.any_eq_true] at h
  obtain ⟨i, hi, h⟩ := h
  exact ⟨l[i], Array.getElem_mem hi, h⟩
theorem needsS_mem {o : Oper} {j : Nat} (h : needsS md o j = true) : ∃ e ∈ o.after, Region.binds md e = true ∧ e.on = j := by
  unfold needsS at h
  obtain ⟨e, he, h2⟩ := any_mem h
  simp only [Bool.and_eq_true, beq_iff_eq] at h2
  exact ⟨e, he, h2.1, h2.2⟩

theorem wpAny_tailS {m sz : Nat} (h : okS md ops m sz = true) : ∀ (fuel k : Nat) (listed : Array Bool) (a : Act) (w : World), m ≤ k → k ≤ ops.size → ops.size - k ≤ fuel → listed.size = ops.size →
    (∀ i, i < ops.size → listed.getD i false = decide (i < k)) → wpOps P ops Q (List.range' k (ops.size - k)) a w → wpAny P md ops Q fuel listed a w := by
  intro fuel
  induction fuel with
  | zero =>
    intro k listed a w hm hk hf hs hl hw
    have hke : k = ops.size := by omega
    subst hke
    rw [Nat.sub_self] at hw
    refine ⟨?_, hw⟩
    rw [List.eq_nil_iff_forall_not_mem]
    intro i hi
    obtain ⟨h0, o, ho, _⟩ := mem_ready.1 hi
    have hlt : i < ops.size := (Array.getElem?_eq_some_iff.1 ho).1
    have := hl i hlt
    rw [decide_eq_true hlt] at this
    simp [hs, hlt] at h0 this
    rw [h0] at this; cases this
  | succ fuel ih =>
    intro k listed a w hm hk hf hs hl hw
    have hfl : ∀ i, i < ops.size → listed.getD i true = decide (i < k) := fun i hi => by
      have := hl i hi
      simpa [hs, hi] using this
    refine ⟨fun hr => ?_, fun i hi => ?_⟩
    · rcases Nat.lt_or_ge k ops.size with hlt | hge
      · exfalso
        have : k ∈ Region.ready md ops listed := mem_ready.2 ⟨by rw [hfl k hlt]; simp, ops[k], Array.getElem?_eq_getElem hlt, fun e he hb => by
          have := (okS_get h k ops[k] (Array.getElem?_eq_getElem hlt)).1 e he hb
          rw [hl e.on (by omega)]; simpa using this⟩
        rw [hr] at this; cases this
      · have hke : k = ops.size := by omega
        subst hke
        rw [Nat.sub_self] at hw
        exact hw
    · obtain ⟨h0, o, ho, hall⟩ := mem_ready.1 hi
      have hlt : i < ops.size := (Array.getElem?_eq_some_iff.1 ho).1
      have hik : ¬ i < k := by
        have := hfl i hlt
        rw [h0] at this
        simpa using this.symm
      have hie : i = k := by
        rcases Nat.lt_or_ge k i with h1 | h1
        · exfalso
          obtain ⟨e, he, hb, hon⟩ := needsS_mem ((okS_get h i o ho).2.2 (by omega) k h1)
          have := hall e he hb
          rw [hon, hl k (by omega)] at this
          simp at this
        · omega
      subst hie
      rw [show ops.size - i = (ops.size - (i + 1)) + 1 by omega, List.range'_succ, wpOps_cons] at hw
      refine wpOp_mono (fun a' w' h' => ih (i + 1) _ a' w' (by omega) hlt (by omega) (by simp [hs]) (fun j hj => ?_) h') hw
      by_cases hji : i = j
      · subst hji
        simp [hs, hlt]
      · rw [getD_set_ne false hji, hl j hj]
        exact decide_eq_decide.2 ⟨fun _ => by omega, fun _ => by omega⟩

theorem evalS_rep {a0 a : Act} {listed : Array Bool} {vals : Nat → Value} (hr : RepS a0 ops listed vals a) (x : Operand) (h : ∀ t, x = .tmp t → ∀ j, slotOf ops t = some j → listed.getD j false = true) : a.eval x = evalS a0 ops vals x := by
  cases x with
  | tmp t =>
    show a.tmps.getD t undef = _
    rw [hr.at_ t]
    show _ = match slotOf ops t with
      | some i => vals i
      | none => a0.tmps.getD t undef
    cases hj : slotOf ops t with
    | none => rfl
    | some j => dsimp only; rw [if_pos (h t rfl j hj)]
  | const v => rfl
  | global g => rfl
  | func f => rfl

theorem rep_put {a0 a : Act} {listed : Array Bool} {vals : Nat → Value} {i d : Nat} {v : Value} (hr : RepS a0 ops listed vals a) (hi : i < listed.size) (hd : d < a0.tmps.size) (hs : slotOf ops d = some i) :
    RepS a0 ops (listed.setIfInBounds i true) (fun j => if j = i then v else vals j) (a.put (some d) v) := by
  refine ⟨hr.defers, by show (a.tmps.setIfInBounds d v).size = _; rw [Array.size_setIfInBounds, hr.size], fun t => ?_⟩
  show (a.tmps.setIfInBounds d v).getD t undef = _
  by_cases htd : d = t
  · subst htd
    rw [hs]
    simp [hr.size, hd, hi]
  · have h1 : (a.tmps.setIfInBounds d v).getD t undef = a.tmps.getD t undef := by simp [Array.getElem?_setIfInBounds_ne htd]
    rw [h1, hr.at_ t]
    cases hj : slotOf ops t with
    | none => rfl
    | some j =>
      dsimp only
      by_cases hji : j = i
      · subst hji
        exfalso
        unfold slotOf at hs hj
        rw [List.findIdx?_eq_some_iff_getElem] at hs hj
        obtain ⟨_, h2, _⟩ := hs
        obtain ⟨_, h3, _⟩ := hj
        have h2' := beq_iff_eq.1 h2
        have h3' := beq_iff_eq.1 h3
        rw [h2'] at h3'
        injection h3' with h3'
        exact htd h3'
      · rw [getD_set_ne false (Ne.symm hji), if_neg hji]

theorem finalS_rep {a0 a : Act} {listed : Array Bool} {vals : Nat → Value} {m : Nat} (hr : RepS a0 ops listed vals a) (h : ∀ i, i < ops.size → listed.getD i false = decide (i < m)) : a = finalS a0 ops m vals := by
  obtain ⟨tm, df⟩ := a
  obtain ⟨h1, h2, h3⟩ := hr
  dsimp only at h1 h2 h3
  unfold finalS
  congr 1
  apply Array.ext
  · rw [h2, Array.size_mapIdx]
  · intro t ht ht2
    rw [Array.getElem_mapIdx]
    have h4 := h3 t
    have h0 : t < a0.tmps.size := by omega
    simp only [Array.getD_eq_getD_getElem?, Array.getElem?_eq_getElem ht, Array.getElem?_eq_getElem h0, Option.getD_some] at h4
    rw [h4]
    cases hj : slotOf ops t with
    | none => rfl
    | some j =>
      dsimp only
      have hjl : j < ops.size := by
        unfold slotOf at hj
        rw [List.findIdx?_eq_some_iff_getElem] at hj
        obtain ⟨hlt, _⟩ := hj
        simpa using hlt
      have := h j hjl
      simp only [Array.getD_eq_getD_getElem?] at this
      rw [this]
      by_cases hm : j < m
      · rw [if_pos hm, if_pos (decide_eq_true hm)]
      · rw [if_neg hm, if_neg (by simpa using hm)]

theorem wpAny_slots {m : Nat} (a0 : Act) (R : Nat → Value → World → Prop) (C : World → Prop) (h : okS md ops m a0.tmps.size = true)
    (hmono : ∀ i v W W', R i v W → Below W.heap.size W W' → R i v W')
    (hstep : ∀ i o, i < m → ops[i]? = some o → ∀ vals w, C w → (∀ j, needsS md o j = true → R j (vals j) w) → StepOK P (execOp (evalS a0 ops vals) o) (R i) C w)
    (hend : ∀ vals w, C w → (∀ i, i < m → R i (vals i) w) → wpOps P ops Q (List.range' m (ops.size - m)) (finalS a0 ops m vals) w) :
    ∀ (fuel : Nat) (listed : Array Bool) (vals : Nat → Value) (a : Act) (w : World), listed.size = ops.size → listed.toList.countP (! ·) ≤ fuel → (∀ i, m ≤ i → i < ops.size → listed.getD i false = false) →
      RepS a0 ops listed vals a → C w → (∀ i, i < m → listed.getD i false = true → R i (vals i) w) → wpAny P md ops Q fuel listed a w := by
  have hmn : m ≤ ops.size := by
    unfold okS at h
    rw [Bool.and_eq_true, decide_eq_true_iff] at h
    exact h.1
  have whole : ∀ (fuel : Nat) (listed : Array Bool) (vals : Nat → Value) (a : Act) (w : World), listed.size = ops.size → listed.toList.countP (! ·) ≤ fuel → (∀ i, m ≤ i → i < ops.size → listed.getD i false = false) →
      RepS a0 ops listed vals a → C w → (∀ i, i < m → listed.getD i false = true → R i (vals i) w) → (∀ i, i < m → listed.getD i false = true) → wpAny P md ops Q fuel listed a w := by
    intro fuel listed vals a w hs hc ht hr hC hR hall
    have hl : ∀ i, i < ops.size → listed.getD i false = decide (i < m) := fun i hi => by
      by_cases him : i < m
      · rw [hall i him, decide_eq_true him]
      · rw [ht i (by omega) hi, decide_eq_false him]
    refine wpAny_tailS h fuel m listed a w (Nat.le_refl _) hmn ?_ hs hl ?_
    · refine Nat.le_trans ?_ hc
      have e : listed.toList = List.replicate m true ++ List.replicate (ops.size - m) false := by
        apply List.ext_getElem
        · simp [hs]; omega
        · intro i h1 h2
          have hi : i < ops.size := by rw [← hs]; simpa using h1
          have := hl i hi
          simp only [Array.getD_eq_getD_getElem?, Array.getElem?_eq_getElem (by omega : i < listed.size), Option.getD_some] at this
          rw [Array.getElem_toList, this]
          by_cases him : i < m
          · rw [List.getElem_append_left (by simpa using him)]; simp [him]
          · rw [List.getElem_append_right (by simpa using him)]; simp [him]
      rw [e, List.countP_append]
      simp [List.countP_replicate]
    · have := hend vals w hC (fun i hi => hR i hi (hall i hi))
      rwa [← finalS_rep hr hl] at this
  intro fuel
  induction fuel with
  | zero =>
    intro listed vals a w hs hc ht hr hC hR
    refine whole 0 listed vals a w hs hc ht hr hC hR fun i hi => ?_
    have h0 : listed.toList.countP (! ·) = 0 := by omega
    rw [List.countP_eq_zero] at h0
    have hil : i < listed.size := by omega
    have := h0 listed[i] (by simp)
    simpa [hil] using this
  | succ fuel ih =>
    intro listed vals a w hs hc ht hr hC hR
    by_cases hall : ∀ i, i < m → listed.getD i false = true
    · exact whole (fuel + 1) listed vals a w hs hc ht hr hC hR hall
    · have hex : ∃ k, k < m ∧ listed.getD k false = false ∧ ∀ i, i < k → listed.getD i false = true := by
        have key : ∀ n, (∀ i, i < n → listed.getD i false = true) ∨ ∃ k, k < n ∧ listed.getD k false = false ∧ ∀ i, i < k → listed.getD i false = true := by
          intro n
          induction n with
          | zero => exact .inl fun i hi => absurd hi (Nat.not_lt_zero i)
          | succ n ihn =>
            rcases ihn with h1 | ⟨k, hk, h2⟩
            · cases hn : listed.getD n false with
              | true => exact .inl fun i hi => by rcases Nat.lt_succ_iff_lt_or_eq.1 hi with h3 | rfl; exact h1 i h3; exact hn
              | false => exact .inr ⟨n, Nat.lt_succ_self n, hn, h1⟩
            · exact .inr ⟨k, Nat.lt_succ_of_lt hk, h2⟩
        rcases key m with h1 | h1
        · exact absurd h1 hall
        · exact h1
      obtain ⟨k, hkm, hk0, hkl⟩ := hex
      have hgd : ∀ i, i < ops.size → listed.getD i true = listed.getD i false := fun i hi => by simp [hs, hi]
      refine ⟨fun hrd => ?_, fun i hi => ?_⟩
      · exfalso
        have hk : k < ops.size := by omega
        have : k ∈ Region.ready md ops listed := mem_ready.2 ⟨by rw [hgd k hk, hk0], ops[k], Array.getElem?_eq_getElem hk, fun e he hb => hkl e.on ((okS_get h k ops[k] (Array.getElem?_eq_getElem hk)).1 e he hb)⟩
        rw [hrd] at this; cases this
      · obtain ⟨h0, o, ho, hdep⟩ := mem_ready.1 hi
        have hlt : i < ops.size := (Array.getElem?_eq_some_iff.1 ho).1
        obtain ⟨hon, hfree, htail⟩ := okS_get h i o ho
        have him : i < m := by
          refine Decidable.byContradiction fun hn => ?_
          obtain ⟨e, he, hb, hk⟩ := needsS_mem (htail (by omega) k (by omega))
          have := hdep e he hb
          rw [hk, hk0] at this; cases this
        obtain ⟨hg, hsel, ⟨d, hd, hdlt, hsd⟩, hops⟩ := hfree him
        have hev : execOp a.eval o = execOp (evalS a0 ops vals) o := execOp_congr o hsel fun x hx => evalS_rep hr x fun t ht j hj => by
          subst ht
          obtain ⟨e, he, hb, hk⟩ := needsS_mem (hops t (by simpa using hx) j hj)
          rw [← hk]
          exact hdep e he hb
        have hst := hstep i o him ho vals w hC (fun j hj => by
          obtain ⟨e, he, hb, hk⟩ := needsS_mem hj
          have hlj := hdep e he hb
          rw [hk] at hlj
          refine hR j ?_ hlj
          have := hon e he hb
          omega)
        have next : ∀ v w', R i v w' → C w' → Below w.heap.size w w' → wpAny P md ops Q fuel (listed.setIfInBounds i true) (a.put o.dst v) w' := fun v w' hRv hC' hb => by
          rw [hd]
          refine ih _ (fun j => if j = i then v else vals j) _ w' (by simp [hs]) ?_ (fun j hj hjl => ?_) (rep_put hr (by omega) hdlt hsd) hC' (fun j hj hjl => ?_)
          · rw [Array.toList_setIfInBounds, List.countP_set (by simpa using (by omega : i < listed.size))]
            have hfi : listed.toList[i]'(by simpa using (by omega : i < listed.size)) = false := by
              have := h0
              simpa [hs, hlt] using this
            have hpos : 0 < listed.toList.countP (! ·) := by
              rw [List.countP_pos_iff]
              exact ⟨false, by rw [← hfi]; exact List.getElem_mem _, rfl⟩
            have hcc : (List.countP (fun x => !x) listed.toList) = listed.toList.countP (! ·) := rfl
            simp only [hfi, Bool.not_false, Bool.not_true, if_true, Bool.false_eq_true, if_false]
            omega
          · rw [getD_set_ne false (by omega)]; exact ht j hj hjl
          · by_cases hji : j = i
            · subst hji; rw [if_pos rfl]; exact hRv
            · rw [if_neg hji]
              rw [getD_set_ne false (Ne.symm hji)] at hjl
              exact hmono j _ _ _ (hR j hj hjl) hb
        unfold wpOp
        rw [ho]
        dsimp only
        rw [if_pos (by unfold Region.wanted; rw [hg])]
        refine .inl ?_
        unfold Oper.wp
        rw [hev]
        unfold StepOK at hst
        generalize (execOp (evalS a0 ops vals) o).run P w = r at hst ⊢
        cases r with
        | ok n w' =>
          cases n <;> dsimp only [Oper.upon] at hst ⊢
          case value v => exact next v w' hst.1 hst.2.1 hst.2.2
          case enter f args =>
            refine Calls.mono hst fun e w'' he => ?_
            obtain ⟨v, rfl, h1, h2, h3⟩ := he
            exact next v w'' h1 h2 h3
          all_goals exact hst.elim
        | halt x w' => exact hst.elim

theorem getD_rep (n j : Nat) : (Array.replicate n false).getD j false = false := by
  rw [Array.getD_eq_getD_getElem?, Array.getElem?_replicate]
  split <;> rfl
/-- The law. -/
theorem wp_region_slots {id m : Nat} {a0 : Act} {w : World} (hm : P.follows .mixedOrders = true) (R : Nat → Value → World → Prop) (C : World → Prop) (h : okS .any ops m a0.tmps.size = true)
    (hmono : ∀ i v W W', R i v W → Below W.heap.size W W' → R i v W') (hC : C w.drew)
    (hstep : ∀ i o, i < m → ops[i]? = some o → ∀ vals w, C w → (∀ j, needsS .any o j = true → R j (vals j) w) → StepOK P (execOp (evalS a0 ops vals) o) (R i) C w)
    (hend : ∀ vals w, C w → (∀ i, i < m → R i (vals i) w) → wpOps P ops Q (List.range' m (ops.size - m)) (finalS a0 ops m vals) w) : (Code.region id ops true).wp P Q a0 w := by
  refine wp_region_any hm (wpAny_slots a0 R C h hmono hstep hend ops.size (Array.replicate ops.size false) (fun _ => undef) a0 _ (by simp) (by simp [List.countP_replicate]) (fun i _ hi => by simp [hi]) ⟨rfl, rfl, fun t => ?_⟩ hC (fun i hi hl => ?_))
  · cases slotOf ops t with
    | none => rfl
    | some j => dsimp only; rw [if_neg (by rw [getD_rep]; exact Bool.false_ne_true)]
  · rw [getD_rep] at hl; cases hl
end
theorem evalS_tmp {a0 : Act} {ops : Array Oper} {vals : Nat → Value} {t i : Nat} (h : slotOf ops t = some i) : evalS a0 ops vals (.tmp t) = vals i := by
  show (match slotOf ops t with | some i => vals i | none => a0.tmps.getD t undef) = _
  rw [h]
theorem evalS_old {a0 : Act} {ops : Array Oper} {vals : Nat → Value} {t : Nat} (h : slotOf ops t = none) : evalS a0 ops vals (.tmp t) = a0.tmps.getD t undef := by
  show (match slotOf ops t with | some i => vals i | none => a0.tmps.getD t undef) = _
  rw [h]
theorem evalS_const {a0 : Act} {ops : Array Oper} {vals : Nat → Value} {v : Value} : evalS a0 ops vals (.const v) = v := rfl
theorem evalS_func {a0 : Act} {ops : Array Oper} {vals : Nat → Value} {f : Nat} : evalS a0 ops vals (.func f) = .func (.func f) #[] #[] := rfl
def allB (p : Nat → Prop) : Nat → Prop
  | 0 => True
  | n + 1 => allB p n ∧ p n
theorem of_allB {p : Nat → Prop} : ∀ {n : Nat}, allB p n → ∀ i, i < n → p i
  | n + 1, h, i, hi => by
    rcases Nat.lt_succ_iff_lt_or_eq.1 hi with h1 | rfl
    · exact of_allB h.1 i h1
    · exact h.2
/-- The steps, one behind the other. -/
def stepsL (P : Program) (ops : Array Oper) (a0 : Act) (R : Nat → Value → World → Prop) (C : World → Prop) : List Oper → Nat → Prop
  | [], _ => True
  | o :: l, i => (∀ (ρ : Operand → Value) (vals : Nat → Value) (w : World), C w → (∀ j, needsS .any o j = true → R j (vals j) w) → (∀ t, ρ (.tmp t) = evalS a0 ops vals (.tmp t)) → (∀ v, ρ (.const v) = v) → (∀ g, ρ (.global g) = .pointer (some ⟨g, 0, none⟩)) →
      (∀ f, ρ (.func f) = .func (.func f) #[] #[]) → StepOK P (execOp ρ o) (R i) C w) ∧ stepsL P ops a0 R C l (i + 1)
theorem stepsL_get {P : Program} {ops : Array Oper} {a0 : Act} {R : Nat → Value → World → Prop} {C : World → Prop} : ∀ (l : List Oper) (k : Nat), stepsL P ops a0 R C l k → ∀ i o, l[i]? = some o → ∀ vals w, C w → (∀ j, needsS .any o j = true → R j (vals j) w) → StepOK P (execOp (evalS a0 ops vals) o) (R (k + i)) C w
  | [], k, h, i, o, ho, vals, w, hC, hd => by simp at ho
  | x :: l, k, h, 0, o, ho, vals, w, hC, hd => by
    obtain rfl : x = o := by simpa using ho
    exact h.1 _ vals w hC hd (fun _ => rfl) (fun _ => rfl) (fun _ => rfl) (fun _ => rfl)
  | x :: l, k, h, i + 1, o, ho, vals, w, hC, hd => by
    have := stepsL_get l (k + 1) h.2 i o (by simpa using ho) vals w hC hd
    rwa [show k + 1 + i = k + (i + 1) by omega] at this
/-- The free operations' values, put one behind the other. -/
def putsS (vals : Nat → Value) : Act → List Oper → Nat → Act
  | a, [], _ => a
  | a, o :: l, i => putsS vals (a.put o.dst (vals i)) l (i + 1)
theorem putsS_rep {ops : Array Oper} {a0 : Act} {vals : Nat → Value} {m : Nat} (h : okS .any ops m a0.tmps.size = true) : ∀ (l : List Oper) (k : Nat) (a : Act) (listed : Array Bool), k + l.length = m → RepS a0 ops listed vals a → listed.size = ops.size →
    (∀ i, i < ops.size → listed.getD i false = decide (i < k)) → (∀ i o, l[i]? = some o → ops[k + i]? = some o) → putsS vals a l k = finalS a0 ops m vals
  | [], k, a, listed, hk, hr, hs, hl, ho => by
    obtain rfl : k = m := by simpa using hk
    exact finalS_rep hr hl
  | o :: l, k, a, listed, hk, hr, hs, hl, ho => by
    have ho0 := ho 0 o (by simp)
    rw [Nat.add_zero] at ho0
    have hlt : k < ops.size := (Array.getElem?_eq_some_iff.1 ho0).1
    obtain ⟨_, hf, _⟩ := okS_get h k o ho0
    obtain ⟨_, _, ⟨d, hd, hdlt, hsd⟩, _⟩ := hf (by simp at hk; omega)
    have hr2 := rep_put (v := vals k) hr (by omega) hdlt hsd
    rw [show (fun j => if j = k then vals k else vals j) = vals from funext fun j => by split <;> simp_all] at hr2
    rw [putsS, hd]
    refine putsS_rep h l (k + 1) _ _ (by simp at hk; omega) hr2 (by simp [hs]) (fun i hi => ?_) (fun i o' hi => ?_)
    · by_cases hik : k = i
      · subst hik; simp [hs, hlt]
      · rw [getD_set_ne false hik, hl i hi]
        exact decide_eq_decide.2 ⟨fun _ => by omega, fun _ => by omega⟩
    · have := ho (i + 1) o' (by simpa using hi)
      rwa [show k + (i + 1) = k + 1 + i by omega] at this
theorem wp_region_slotsB {P : Program} {ops : Array Oper} {Q : Exit → Act → World → Prop} {id m : Nat} {a0 : Act} {w : World} (tl : List Nat) (hm : P.follows .mixedOrders = true) (R : Nat → Value → World → Prop) (C : World → Prop) (h : okS .any ops m a0.tmps.size = true) (htl : List.range' m (ops.size - m) = tl)
    (hmono : ∀ i v W W', R i v W → Below W.heap.size W W' → R i v W') (hC : C w.drew)
    (hstep : stepsL P ops a0 R C (ops.toList.take m) 0)
    (hend : ∀ vals w, C w → (∀ i, i < m → R i (vals i) w) → wpOps P ops Q tl (putsS vals a0 (ops.toList.take m) 0) w) : (Code.region id ops true).wp P Q a0 w :=
  wp_region_slots hm R C h hmono hC (fun i o hi ho vals w hC hd => by
    have := stepsL_get _ 0 hstep i o (by rw [List.getElem?_take_of_lt hi, Array.getElem?_toList]; exact ho) vals w hC hd
    rwa [Nat.zero_add] at this) (fun vals w hC hR => by
    have hmn : m ≤ ops.size := by
      have := h
      unfold okS at this
      rw [Bool.and_eq_true, decide_eq_true_iff] at this
      exact this.1
    have hp := putsS_rep (vals := vals) h (ops.toList.take m) 0 a0 (Array.replicate ops.size false) (by simp; omega) ⟨rfl, rfl, fun t => by
      cases slotOf ops t with
      | none => rfl
      | some j => dsimp only; rw [if_neg (by rw [getD_rep]; exact Bool.false_ne_true)]⟩ (by simp) (fun i hi => by rw [getD_rep]; simp) (fun i o hi => by
        rw [List.getElem?_take] at hi
        split at hi
        · rw [Nat.zero_add, ← Array.getElem?_toList]; exact hi
        · cases hi)
    rw [htl, ← hp]
    exact hend vals w hC hR)
end Go.Proofs.YtheidjnapoipaaaGreatDoor
