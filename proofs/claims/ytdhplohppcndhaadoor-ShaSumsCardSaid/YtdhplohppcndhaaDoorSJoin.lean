/- What a Hash is of: added part by part it is as of the whole text. -/
import Derived.Test.YtdhplohppcndhaaDoorSHSum
import Derived.Test.YtdhplohppcndhaaDoorSAdd
import Derived.Test.YtdhplohppcndhaaDoorSText
namespace Go.Proofs.YtdhplohppcndhaaDoor
open Go.RowKit
set_option linter.unusedVariables false

theorem blk_append (A B : List UInt8) (i : Nat) (h : 64 * (i + 1) ≤ A.length) : blk (A ++ B) i = blk A i := by
  unfold blk
  rw [List.drop_append_of_le_length (by omega), List.take_append_of_le_length (by rw [List.length_drop]; omega)]
theorem mixK_append (s : S8) (A B : List UInt8) (q : Nat) (h : 64 * q ≤ A.length) : mixK s (A ++ B) q = mixK s A q := by
  induction q with
  | zero => rfl
  | succ q ih => rw [mixK, mixK, ih (by omega), blk_append A B q h]
theorem mixK_drop (s : S8) (l : List UInt8) (q j : Nat) : mixK s l (q + j) = mixK (mixK s l q) (l.drop (64 * q)) j := by
  induction j with
  | zero => rfl
  | succ j ih =>
    rw [← Nat.add_assoc, mixK, mixK, ih]
    congr 1
    unfold blk
    rw [List.drop_drop]
    congr 2
    omega

/-- The Hash of a text. -/
structure HashIs (X : List UInt8) (st : S8) (hl : List UInt8) (n : Nat) : Prop where
  len : hl.length = 64
  size : n = X.length
  held : hl.take (n % 64) = X.drop (64 * (n / 64))
  state : begun st n = mixK start8 X (n / 64)

theorem hashIs_nil : HashIs [] zHash (List.replicate 64 0) 0 := ⟨rfl, rfl, rfl, rfl⟩
theorem hashIs_add {X : List UInt8} {st : S8} {hl : List UInt8} {n : Nat} (h : HashIs X st hl n) (s : List UInt8) (T : List UInt8) (hT : hl.take (n % 64) ++ s = T) :
    HashIs (X ++ s) (addS st n T) (heldL T) (n + s.length) := by
  have hs := h.size
  have hTe : T = (X ++ s).drop (64 * (n / 64)) := by
    rw [← hT, h.held, List.drop_append_of_le_length (by omega)]
  have hTl : T.length = n % 64 + s.length := by rw [hTe, List.length_drop, List.length_append]; omega
  have hq : (n + s.length) / 64 = n / 64 + T.length / 64 := by omega
  have hr : (n + s.length) % 64 = T.length % 64 := by omega
  refine ⟨heldL_length T, by simp [hs], ?_, ?_⟩
  · rw [hr, hq, Nat.mul_add, ← List.drop_drop, ← hTe]
    unfold heldL
    rw [List.take_left' (by rw [List.length_drop]; omega)]
  · rw [hq]
    unfold begun addS
    by_cases h64 : n + s.length < 64
    · rw [if_pos h64]
      have e : n / 64 + T.length / 64 = 0 := by omega
      rw [e]; rfl
    · rw [if_neg h64]
      by_cases hb : 64 ≤ T.length
      · rw [if_pos hb, h.state, mixK_drop, ← hTe, mixK_append start8 X s _ (by omega)]
      · rw [if_neg hb]
        have e : T.length / 64 = 0 := by omega
        rw [e, Nat.add_zero, mixK_append start8 X s _ (by omega), ← h.state]
        unfold begun
        rw [if_neg (by omega)]
theorem hashIs_sum {X : List UInt8} {st : S8} {hl : List UInt8} {n : Nat} (h : HashIs X st hl n) :
    bytes8 (mixK (begun st n) (hl.take (n % 64) ++ endL n) ((hl.take (n % 64) ++ endL n).length / 64)) = shaL X := by
  have hs := h.size
  have e : hl.take (n % 64) ++ endL n = (padL X).drop (64 * (n / 64)) := by
    unfold padL
    rw [h.held, List.drop_append_of_le_length (by omega), hs]
  have hl2 : (padL X).length = X.length + (endL n).length := by unfold padL; rw [List.length_append, hs]
  have hq : (padL X).length / 64 = n / 64 + (hl.take (n % 64) ++ endL n).length / 64 := by
    rw [e, List.length_drop]; omega
  unfold shaL
  rw [hq, mixK_drop, ← e]
  congr 2
  rw [h.state]
  unfold padL
  rw [mixK_append start8 X _ _ (by omega)]
end Go.Proofs.YtdhplohppcndhaaDoor
