/- A queue in plain words. -/
import Derived.Lib.Bytealg
import Derived.Test.YtoampocobmeebaaGreatDoorTDel
namespace Go.Proofs.YtoampocobmeebaaGreatDoor.Tm
open Go.RowKit
set_option linter.unusedVariables false

theorem cmpB_cons (x y : UInt8) (a b : List UInt8) : Lib.compareBytes (x :: a) (y :: b) = if x < y then -1 else if y < x then 1 else Lib.compareBytes a b := by rw [Lib.compareBytes]
theorem compareBytes_lt : ∀ (a b : List UInt8), Lib.compareBytes a b < 0 ↔ a < b
  | [], [] => by simp [Lib.compareBytes]
  | [], _ :: _ => by simp [Lib.compareBytes]
  | _ :: _, [] => by simp [Lib.compareBytes]
  | x :: a, y :: b => by
    have ih := compareBytes_lt a b
    rw [List.cons_lt_cons_iff, ← ih, cmpB_cons]
    by_cases h : x < y
    · simp [h]
    · by_cases h2 : y < x
      · rw [if_neg h, if_pos h2]
        have hn : x ≠ y := fun e => by subst e; exact UInt8.lt_irrefl _ h2
        simp [h, hn]
      · have e : x = y := UInt8.le_antisymm (UInt8.not_lt.1 h2) (UInt8.not_lt.1 h)
        rw [if_neg h, if_neg h2]
        subst e
        simp
theorem compareBytes_eq : ∀ (a b : List UInt8), Lib.compareBytes a b = 0 ↔ a = b
  | [], [] => by simp [Lib.compareBytes]
  | [], _ :: _ => by simp [Lib.compareBytes]
  | _ :: _, [] => by simp [Lib.compareBytes]
  | x :: a, y :: b => by
    have ih := compareBytes_eq a b
    rw [List.cons.injEq, ← ih, cmpB_cons]
    by_cases h : x < y
    · have hn : x ≠ y := fun e => by subst e; exact UInt8.lt_irrefl _ h
      simp [h, hn]
    · by_cases h2 : y < x
      · rw [if_neg h, if_pos h2]
        have hn : x ≠ y := fun e => by subst e; exact UInt8.lt_irrefl _ h2
        simp [hn]
      · have e : x = y := UInt8.le_antisymm (UInt8.not_lt.1 h2) (UInt8.not_lt.1 h)
        rw [if_neg h, if_neg h2]
        subst e
        simp
/-- How two entries stand. -/
def ordC (a b : EN) : Int := if a.tm < b.tm then -1 else if b.tm < a.tm then 1 else Lib.compareBytes a.uid b.uid
def LtE (a b : EN) : Prop := a.tm < b.tm ∨ (a.tm = b.tm ∧ a.uid < b.uid)
theorem ordC_lt (a b : EN) : ordC a b < 0 ↔ LtE a b := by
  unfold ordC LtE
  by_cases h1 : a.tm < b.tm
  · simp [h1]
  · rw [if_neg h1]
    by_cases h2 : b.tm < a.tm
    · rw [if_pos h2]
      constructor
      · intro h; omega
      · rintro (h | ⟨h, _⟩) <;> omega
    · rw [if_neg h2, compareBytes_lt]
      have he : a.tm = b.tm := by omega
      simp [he]
theorem ordC_eq (a b : EN) : ordC a b = 0 ↔ a = b := by
  unfold ordC
  by_cases h1 : a.tm < b.tm
  · rw [if_pos h1]
    constructor
    · intro h; omega
    · rintro rfl; omega
  · rw [if_neg h1]
    by_cases h2 : b.tm < a.tm
    · rw [if_pos h2]
      constructor
      · intro h; omega
      · rintro rfl; omega
    · rw [if_neg h2, compareBytes_eq]
      constructor
      · intro h; exact EN.ext' (by omega) h
      · rintro rfl; rfl
theorem uids_irrefl (a : List UInt8) : ¬ a < a := List.lt_irrefl a
theorem LtE.irrefl (a : EN) : ¬ LtE a a := by
  rintro (h | ⟨_, h⟩)
  · omega
  · exact uids_irrefl _ h
theorem LtE.trans {a b c : EN} (h1 : LtE a b) (h2 : LtE b c) : LtE a c := by
  rcases h1 with h1 | ⟨e1, h1⟩ <;> rcases h2 with h2 | ⟨e2, h2⟩
  · exact .inl (by omega)
  · exact .inl (by omega)
  · exact .inl (by omega)
  · exact .inr ⟨by omega, List.lt_trans h1 h2⟩
theorem LtE.total (a b : EN) : LtE a b ∨ a = b ∨ LtE b a := by
  rcases Nat.lt_trichotomy a.tm b.tm with h | h | h
  · exact .inl (.inl h)
  · by_cases h1 : a.uid < b.uid
    · exact .inl (.inr ⟨h, h1⟩)
    · by_cases h2 : b.uid < a.uid
      · exact .inr (.inr (.inr ⟨h.symm, h2⟩))
      · exact .inr (.inl (EN.ext' h (List.le_antisymm (List.not_lt.1 h2) (List.not_lt.1 h1))))
  · exact .inr (.inr (.inl h))

/-- A queue: in order, each id once. -/
structure GoodQ (l : List EN) : Prop where
  ord : l.Pairwise LtE
  one : l.Pairwise fun a b => a.uid ≠ b.uid
theorem GoodQ.nil : GoodQ [] := ⟨.nil, .nil⟩
def dropQ (l : List EN) (u : List UInt8) : List EN := l.filter fun x => !decide (x.uid = u)
theorem GoodQ.drop {l : List EN} (h : GoodQ l) (u : List UInt8) : GoodQ (dropQ l u) := ⟨h.ord.filter _, h.one.filter _⟩
theorem dropQ_mem {l : List EN} {u : List UInt8} {x : EN} : x ∈ dropQ l u ↔ x ∈ l ∧ x.uid ≠ u := by unfold dropQ; simp [List.mem_filter]
theorem dropQ_len (l : List EN) (u : List UInt8) : (dropQ l u).length ≤ l.length := List.length_filter_le _ _
/-- The place of an id. -/
def plcQ (l : List EN) (u : List UInt8) : Option Nat := l.findIdx? fun x => decide (x.uid = u)
theorem plcQ_none {l : List EN} {u : List UInt8} : plcQ l u = none ↔ ∀ x ∈ l, x.uid ≠ u := by
  unfold plcQ
  simp [List.findIdx?_eq_none_iff]
theorem plcQ_some {l : List EN} {u : List UInt8} {i : Nat} (h : plcQ l u = some i) : ∃ hi : i < l.length, l[i].uid = u ∧ ∀ j (hj : j < i), (l[j]'(Nat.lt_trans hj hi)).uid ≠ u := by
  unfold plcQ at h
  rw [List.findIdx?_eq_some_iff_getElem] at h
  obtain ⟨hi, h1, h2⟩ := h
  exact ⟨hi, by simpa using h1, fun j hj => by simpa using h2 j hj⟩
theorem dropQ_none {l : List EN} {u : List UInt8} (h : plcQ l u = none) : dropQ l u = l := by
  unfold dropQ
  rw [List.filter_eq_self]
  intro x hx
  simpa using plcQ_none.1 h x hx
theorem dropQ_some {l : List EN} (hG : GoodQ l) {u : List UInt8} {i : Nat} (h : plcQ l u = some i) : dropQ l u = delL l i := by
  obtain ⟨hi, h1, h2⟩ := plcQ_some h
  have he : l = l.take i ++ l[i] :: l.drop (i + 1) := by rw [List.getElem_cons_drop, List.take_append_drop]
  have ho := hG.one
  rw [he, List.pairwise_append, List.pairwise_cons] at ho
  obtain ⟨_, ⟨hb, _⟩, hc⟩ := ho
  unfold dropQ delL
  conv => lhs; rw [he]
  rw [List.filter_append, List.filter_cons, if_neg (by simp [h1])]
  congr 1
  · rw [List.filter_eq_self]
    intro x hx
    have := hc x hx l[i] (List.mem_cons_self ..)
    rw [h1] at this
    simpa using this
  · rw [List.filter_eq_self]
    intro x hx
    have := hb x hx
    rw [h1] at this
    simpa using fun e => this e.symm
/-- Where an entry goes. -/
def plcE (l : List EN) (e : EN) : Nat := (l.takeWhile fun x => decide (ordC x e < 0)).length
theorem plcE_le (l : List EN) (e : EN) : plcE l e ≤ l.length := by unfold plcE; exact List.Sublist.length_le (List.takeWhile_sublist _)
theorem plcE_iff {l : List EN} (h : l.Pairwise LtE) (e : EN) : ∀ i (hi : i < l.length), (i < plcE l e ↔ ordC l[i] e < 0) := by
  induction l with
  | nil => intro i hi; exact absurd hi (by simp)
  | cons x l ih =>
    rw [List.pairwise_cons] at h
    intro i hi
    unfold plcE
    rw [List.takeWhile_cons]
    by_cases hx : ordC x e < 0
    · rw [if_pos (by simpa using hx)]
      cases i with
      | zero => simp [hx]
      | succ i => simpa [plcE] using ih h.2 i (by simpa using hi)
    · rw [if_neg (by simpa using hx)]
      cases i with
      | zero => simp [hx]
      | succ i =>
        simp only [List.length_nil, Nat.not_lt_zero, List.getElem_cons_succ, false_iff]
        intro h2
        exact hx ((ordC_lt _ _).2 ((h.1 _ (List.getElem_mem _)).trans ((ordC_lt _ _).1 h2)))
def insE (l : List EN) (e : EN) : List EN := insL l (plcE l e) e
theorem insE_mem {l : List EN} {e x : EN} : x ∈ insE l e ↔ x = e ∨ x ∈ l := by
  unfold insE insL
  rw [List.mem_append, List.mem_cons]
  conv => rhs; rw [← List.take_append_drop (plcE l e) l, List.mem_append]
  constructor
  · rintro (h | h | h)
    · exact .inr (.inl h)
    · exact .inl h
    · exact .inr (.inr h)
  · rintro (h | h | h)
    · exact .inr (.inl h)
    · exact .inl h
    · exact .inr (.inr h)
theorem insE_len (l : List EN) (e : EN) : (insE l e).length = l.length + 1 := insL_len l _ e (plcE_le l e)
theorem GoodQ.ins {l : List EN} (h : GoodQ l) {e : EN} (hn : ∀ x ∈ l, x.uid ≠ e.uid) : GoodQ (insE l e) := by
  have ht : ∀ x ∈ l.take (plcE l e), LtE x e := by
    intro x hx
    obtain ⟨i, hi, rfl⟩ := List.getElem_of_mem hx
    rw [List.getElem_take]
    rw [List.length_take] at hi
    exact (ordC_lt _ _).1 ((plcE_iff h.ord e i (by omega)).1 (by omega))
  have hd : ∀ x ∈ l.drop (plcE l e), LtE e x := by
    intro x hx
    obtain ⟨i, hi, rfl⟩ := List.getElem_of_mem hx
    rw [List.getElem_drop]
    rw [List.length_drop] at hi
    have h1 := plcE_iff h.ord e (plcE l e + i) (by omega)
    rcases LtE.total e (l[plcE l e + i]'(by omega)) with h2 | h2 | h2
    · exact h2
    · exact absurd (by rw [← h2]) (hn _ (List.getElem_mem (l := l) (n := plcE l e + i) (by omega)))
    · exact absurd (h1.2 ((ordC_lt _ _).2 h2)) (by omega)
  have ho := h.ord
  have h1 := h.one
  rw [← List.take_append_drop (plcE l e) l, List.pairwise_append] at ho h1
  unfold insE insL
  constructor
  · rw [List.pairwise_append, List.pairwise_cons]
    refine ⟨ho.1, ⟨hd, ho.2.1⟩, fun a ha b hb => ?_⟩
    rcases List.mem_cons.1 hb with rfl | hb
    · exact ht a ha
    · exact ho.2.2 a ha b hb
  · rw [List.pairwise_append, List.pairwise_cons]
    refine ⟨h1.1, ⟨fun x hx => fun e1 => hn x (List.mem_of_mem_drop hx) e1.symm, h1.2.1⟩, fun a ha b hb => ?_⟩
    rcases List.mem_cons.1 hb with rfl | hb
    · exact hn a (List.mem_of_mem_take ha)
    · exact h1.2.2 a ha b hb
def setQ (l : List EN) (e : EN) : List EN := insE (dropQ l e.uid) e
theorem GoodQ.set {l : List EN} (h : GoodQ l) (e : EN) : GoodQ (setQ l e) := (h.drop _).ins fun x hx => (dropQ_mem.1 hx).2
theorem setQ_mem {l : List EN} {e x : EN} : x ∈ setQ l e ↔ x = e ∨ (x ∈ l ∧ x.uid ≠ e.uid) := by unfold setQ; rw [insE_mem, dropQ_mem]
theorem setQ_len (l : List EN) (e : EN) : (setQ l e).length ≤ l.length + 1 := by unfold setQ; rw [insE_len]; have := dropQ_len l e.uid; omega
/-- Queues with the same entries are the same. -/
theorem good_eq : ∀ {a b : List EN}, a.Pairwise LtE → b.Pairwise LtE → (∀ x, x ∈ a ↔ x ∈ b) → a = b
  | [], [], _, _, _ => rfl
  | [], y :: b, _, _, h => by have := (h y).2 (by simp); cases this
  | x :: a, [], _, _, h => by have := (h x).1 (by simp); cases this
  | x :: a, y :: b, ha, hb, h => by
    rw [List.pairwise_cons] at ha hb
    have hxy : x = y := by
      rcases List.mem_cons.1 ((h x).1 (by simp)) with e | e
      · exact e
      · rcases List.mem_cons.1 ((h y).2 (by simp)) with e2 | e2
        · exact e2.symm
        · exact absurd ((hb.1 x e).trans (ha.1 y e2)) (LtE.irrefl _)
    subst hxy
    rw [good_eq ha.2 hb.2 fun z => ?_]
    constructor
    · intro hz
      rcases List.mem_cons.1 ((h z).1 (by simp [hz])) with rfl | e
      · exact absurd (ha.1 z hz) (LtE.irrefl _)
      · exact e
    · intro hz
      rcases List.mem_cons.1 ((h z).2 (by simp [hz])) with rfl | e
      · exact absurd (hb.1 z hz) (LtE.irrefl _)
      · exact e
theorem drop_set {l : List EN} (h : GoodQ l) (e : EN) : dropQ (setQ l e) e.uid = dropQ l e.uid := by
  refine good_eq ((h.set e).drop _).ord (h.drop _).ord fun x => ?_
  rw [dropQ_mem, setQ_mem, dropQ_mem]
  constructor
  · rintro ⟨rfl | h1, h2⟩
    · exact absurd rfl h2
    · exact h1
  · rintro ⟨h1, h2⟩
    exact ⟨.inr ⟨h1, h2⟩, h2⟩
theorem GoodQ.uniq {l : List EN} (h : GoodQ l) {x y : EN} (hx : x ∈ l) (hy : y ∈ l) (he : x.uid = y.uid) : x = y := by
  have h1 := h.one
  clear h
  induction l with
  | nil => cases hx
  | cons z l ih =>
    rw [List.pairwise_cons] at h1
    rcases List.mem_cons.1 hx with h2 | h2
    · rcases List.mem_cons.1 hy with h3 | h3
      · rw [h2, h3]
      · exact absurd (by rw [← h2]; exact he) (h1.1 _ h3)
    · rcases List.mem_cons.1 hy with h3 | h3
      · exact absurd (by rw [← h3]; exact he.symm) (h1.1 _ h2)
      · exact ih h2 h3 h1.2
end Go.Proofs.YtoampocobmeebaaGreatDoor.Tm
