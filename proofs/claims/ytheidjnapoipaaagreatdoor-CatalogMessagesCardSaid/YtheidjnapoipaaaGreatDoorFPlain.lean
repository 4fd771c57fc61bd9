/- Layer 14 in plain words: a rule, and what fits it. -/
import Derived.Test.YtheidjnapoipaaaGreatDoorDSmall
import Derived.Test.YtheidjnapoipaaaGreatDoorUPlain
namespace Go.Proofs.YtheidjnapoipaaaGreatDoor
open Go.RowKit
set_option linter.unusedVariables false

/-- A rule. -/
structure FR where
  kind : Int
  least : Int
  most : Int
  texts : List ByteArray

/-- Its numbers are whole ones of 64 bits. -/
structure FR.ok (r : FR) : Prop where
  k0 : -9223372036854775808 ≤ r.kind
  k1 : r.kind ≤ 9223372036854775807
  l0 : -9223372036854775808 ≤ r.least
  l1 : r.least ≤ 9223372036854775807
  m0 : -9223372036854775808 ≤ r.most
  m1 : r.most ≤ 9223372036854775807

def FR.known (r : FR) : Bool := decide (1 ≤ r.kind ∧ r.kind ≤ 8)
def spansK (k : Int) : Bool := decide (k = 1 ∨ k = 2 ∨ k = 8)
/-- Its numbers are out of range. -/
def FR.off (r : FR) : Bool := decide (r.least < 0 ∨ (spansK r.kind = true ∧ r.most < r.least) ∨ 4096 < r.least ∨ 4096 < r.most)
def FR.check (r : FR) : Int := if r.known = false then 11 else if r.off = true then 7 else if r.kind = 4 ∧ r.texts = [] then 16 else 0
def FR.within (r : FR) (n : Nat) : Bool := decide (r.least ≤ n) && decide ((n : Int) ≤ r.most)

/-- All bytes are digits, of which there may be none. -/
def figB (s : ByteArray) : Bool := decide (s.size = 0) || isD s
/-- A code point that is none of the controls. -/
def okP (c : Nat) : Bool := decide (32 ≤ c) && decide (c ≠ 127)
def plainB (s : ByteArray) : Bool := (runesB s).all (fun x => okP x.2) && whole s
/-- No nought ahead of others. -/
def leadB (s : ByteArray) : Bool := decide (s.size < 2) || decide (s.data.toList.getD 0 0 ≠ 48)

theorem FR.check_known {r : FR} (h : r.check = 0) : 1 ≤ r.kind ∧ r.kind ≤ 8 := by
  unfold FR.check at h
  split at h
  · cases h
  · rename_i hk
    cases hb : r.known with
    | false => exact absurd hb hk
    | true => exact of_decide_eq_true hb
theorem FR.check_on {r : FR} (h : r.check = 0) : 0 ≤ r.least ∧ (spansK r.kind = true → r.least ≤ r.most) ∧ r.least ≤ 4096 ∧ r.most ≤ 4096 := by
  unfold FR.check at h
  split at h
  · cases h
  · split at h
    · cases h
    · rename_i ho
      cases hb : r.off with
      | true => exact absurd hb ho
      | false =>
        have := of_decide_eq_false hb
        refine ⟨by omega, fun hs => ?_, by omega, by omega⟩
        apply Classical.byContradiction
        intro hn
        exact this (.inr (.inl ⟨hs, by omega⟩))
theorem FR.check_texts {r : FR} (h : r.check = 0) (hk : r.kind = 4) : r.texts ≠ [] := by
  intro ht
  unfold FR.check at h
  split at h
  · cases h
  · split at h
    · cases h
    · rw [if_pos ⟨hk, ht⟩] at h
      cases h
end Go.Proofs.YtheidjnapoipaaaGreatDoor
