/- The document's Within. -/
import Derived.Test.YtldjnegoefdadaaGreatDoorVRef
import Derived.Test.YtldjnegoefdadaaGreatDoorVCmpR
namespace Go.Proofs.YtldjnegoefdadaaGreatDoor
open Go.RowKit
set_option linter.unusedVariables false

theorem rpo_len : ∀ (l : List (List UInt8)) (ns : List Nat), rpo l = some ns → ns.length = l.length := by
  intro l
  induction l with
  | nil => intro ns h; rw [rpo] at h; injection h with h; rw [← h]; rfl
  | cons p l ih =>
    intro ns h
    rw [rpo] at h
    split at h
    · rename_i a m e1 e2
      injection h with h
      rw [← h, List.length_cons, List.length_cons, ih _ e2]
    · cases h
theorem rpo_pv (s : List UInt8) : pv s = match rpo (spl [] s) with | some [a, b, c] => some (a, b, c) | _ => none := by
  unfold pv
  split
  · rename_i p q r e
    rw [e]
    simp only [rpo]
    cases numE p <;> cases numE q <;> cases numE r <;> rfl
  · rename_i hn
    split
    · rename_i a b c e
      have hl := rpo_len _ _ e
      match h : spl [] s, hl with
      | [p, q, r], _ => exact absurd h (hn p q r)
    · rfl
def get3 (v : V3) (i : Nat) : Nat := [v.1, v.2.1, v.2.2].getD i 0
/-- What the document's Parse answers. -/
def RefV (o : Option V3) (w : World) (e : Ending) (w' : World) : Prop :=
  ∃ va, e = .returned (.tuple #[va, .bool o.isSome]) ∧ (∀ v, o = some v → ∃ g cap, va = .slice (some ⟨g, 0, none⟩) 3 cap ∧ g < w'.heap.size ∧ ∀ i, i < 3 → w'.cell? ⟨g, i, none⟩ = some (.int .i64 (get3 v i : Nat))) ∧ Below w.heap.size w w'
theorem refVParse_v (s : ByteArray) (w : World) (hs : s.size ≤ 1000) : Calls Tryz.prog 69 #[.string s] w (RefV (pv s.data.toList) w) := by
  refine (refVParse_any s w hs).mono ?_
  intro e w' h
  rw [rpo_pv]
  rcases h with ⟨h1, rfl, hB⟩ | ⟨ns, va, h1, rfl, hO, hB⟩
  · rw [h1]
    exact ⟨_, rfl, (fun v h => by cases h), hB⟩
  · rw [h1]
    by_cases h3 : ns.length = 3
    · match ns, h3, hO with
      | [a, b, c], _, hO =>
        refine ⟨va, rfl, fun v hv => ?_, hB⟩
        obtain rfl : (a, b, c) = v := by simpa using hv
        have hO' := hO
        rcases hO.2 with ⟨_, e⟩ | ⟨g, cap, cur, rfl, _⟩
        · exact absurd e (by simp)
        · refine ⟨g, cap, rfl, (hO'.lt g rfl).2, fun i hi => ?_⟩
          have := hO'.cellAt (g := g) i (by simp; omega)
          rw [this]
          rcases (by omega : i = 0 ∨ i = 1 ∨ i = 2) with rfl | rfl | rfl <;> rfl
    · refine ⟨va, ?_, fun v hv => ?_, hB⟩
      · rw [decide_eq_false h3]
        congr 3
        split
        · rename_i a b c e
          injection e with e
          rw [e] at h3
          exact absurd rfl h3
        · rfl
      · exfalso
        split at hv
        · rename_i a b c e
          injection e with e
          rw [e] at h3
          exact absurd rfl h3
        · cases hv
theorem refCmp_v (a b : V3) (g1 g2 m1 m2 : Nat) (w : World) (h1 : ∀ i, i < 3 → w.cell? ⟨g1, i, none⟩ = some (.int .i64 (get3 a i : Nat))) (h2 : ∀ i, i < 3 → w.cell? ⟨g2, i, none⟩ = some (.int .i64 (get3 b i : Nat))) :
    Calls Tryz.prog 70 #[.slice (some ⟨g1, 0, none⟩) 3 m1, .slice (some ⟨g2, 0, none⟩) 3 m2] w fun e w' => e = .returned (.int .i64 (cmpV a b)) ∧ ∃ q, w' = w.drewN q := by
  have h := refVCmp_any g1 g2 3 3 m1 m2 (get3 a) (get3 b) w h1 h2 (by omega) (by omega)
  exact h

end Go.Proofs.YtldjnegoefdadaaGreatDoor
