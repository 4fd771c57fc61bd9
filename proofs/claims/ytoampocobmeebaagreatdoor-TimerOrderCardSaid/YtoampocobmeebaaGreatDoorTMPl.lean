/- What TimerMoves asks, in plain words. -/
import Derived.Test.YtoampocobmeebaaGreatDoorTAt
import Derived.Test.YtoampocobmeebaaGreatDoorTDue
namespace Go.Proofs.YtoampocobmeebaaGreatDoor.Tm
open Go.RowKit
set_option linter.unusedVariables false

theorem setQ_self (l : List EN) (e : EN) : e ∈ setQ l e := setQ_mem.2 (.inl rfl)
theorem setQ_own {l : List EN} {e x : EN} (h : x ∈ setQ l e) (hu : x.uid = e.uid) : x = e := by
  rcases setQ_mem.1 h with h | ⟨_, h⟩
  · exact h
  · exact absurd hu h
theorem atQ_set (l : List EN) (e : EN) : atQ (setQ l e) e.uid = (e.tm, true) := by
  unfold atQ
  cases h : (setQ l e).find? (fun x => decide (x.uid = e.uid)) with
  | none =>
    rw [List.find?_eq_none] at h
    exact absurd (by simp) (h e (setQ_self l e))
  | some x =>
    have h1 := List.find?_some h
    have h2 := List.mem_of_find?_eq_some h
    rw [setQ_own h2 (by simpa using h1)]
theorem atQ_drop (l : List EN) (u : List UInt8) : atQ (dropQ l u) u = (0, false) := by
  unfold atQ
  have : (dropQ l u).find? (fun x => decide (x.uid = u)) = none := by
    rw [List.find?_eq_none]
    intro x hx
    simpa using (dropQ_mem.1 hx).2
  rw [this]
theorem one_uid : ∀ {l : List EN} {e : EN}, (l.Pairwise fun a b => a.uid ≠ b.uid) → e ∈ l → (l.filter fun x => decide (x.uid = e.uid)).length = 1
  | x :: l, e, h, he => by
    rw [List.pairwise_cons] at h
    rw [List.filter_cons]
    by_cases hx : x.uid = e.uid
    · rw [if_pos (by simpa using hx)]
      have : l.filter (fun x => decide (x.uid = e.uid)) = [] := by
        rw [List.filter_eq_nil_iff]
        intro y hy
        have := h.1 y hy
        rw [hx] at this
        simpa using fun h => this h.symm
      rw [this]
      rfl
    · rw [if_neg (by simpa using hx)]
      rcases List.mem_cons.1 he with rfl | he
      · exact absurd rfl hx
      · exact one_uid h.2 he
theorem drop_set2 {l : List EN} (h : GoodQ l) {e f : EN} (hu : f.uid = e.uid) : dropQ (setQ (setQ l e) f) e.uid = dropQ l e.uid := by
  rw [← hu, drop_set (h.set e), hu, drop_set h]
theorem dueQ_all (l : List EN) (now : Nat) (h : ∀ x ∈ l, x.tm ≤ now) : dueQ l now = l := by
  unfold dueQ
  induction l with
  | nil => rfl
  | cons x l ih => rw [List.takeWhile_cons, if_pos (by simpa using h x (by simp)), ih fun y hy => h y (by simp [hy])]
theorem len_set_le {l : List EN} (h : GoodQ l) (e : EN) {n : Nat} (hn : l.length ≤ n) : (setQ l e).length ≤ n + 1 := Nat.le_trans (setQ_len l e) (by omega)
end Go.Proofs.YtoampocobmeebaaGreatDoor.Tm
