/- An array of bytes that came in. -/
import Derived.ProofKit
import Derived.OpenShut
import Derived.Deep.DeepHandedRow
import Derived.Test.YtoampocobmeebaaGreatDoorMem
namespace Go.Proofs.YtoampocobmeebaaGreatDoor
open Go.ChangeShapes Go.WideShapes Go.RowKit
set_option linter.unusedVariables false

section
variable {H : Type} {enc : TypeId × Value → H} {P : Program} {W : World} {base : Nat} {sp : Nat → Bool} {held : Bool}
def unbv : Value → UInt8
  | .int _ n => UInt8.ofNat n.toNat
  | _ => 0
theorem mapM_bytes {e : TypeId} (he : P.underlying e = some (.int .u8)) {m : Nat} {cs : List Value} : ∀ (L : List Nat) (xs : List (DataW H × List MemPlace)),
    L.mapM (fun i => DataW.trod enc P W base sp held m e ((cs.drop (i * 1)).take 1)) = some xs → ∀ i ∈ L, ∃ c : UInt8, (cs.drop (i * 1)).take 1 = [bv c]
  | [], xs, h => by simp
  | i :: L, xs, h => by
    rw [List.mapM_cons] at h
    simp only [bind, Option.bind_eq_some_iff, pure, Option.some.injEq] at h
    obtain ⟨y, hy, ys, hys, rfl⟩ := h
    have ih := mapM_bytes he L ys hys
    obtain ⟨a, ea, rfl, wa⟩ := DataW.trod_int he hy
    have hr : 0 ≤ a ∧ a ≤ 255 := by simpa [Lit.wf, IntKind.min, IntKind.max, IntKind.signed, IntKind.bits] using wa
    intro j hj
    rcases List.mem_cons.1 hj with rfl | hj
    · refine ⟨UInt8.ofNat a.toNat, ?_⟩
      rw [ea]
      unfold bv
      have e1 : ((UInt8.ofNat a.toNat).toNat : Int) = a := by rw [UInt8.toNat_ofNat']; omega
      rw [e1]
    · exact ih j hj
theorem open_bytes {t e : TypeId} {n : Nat} {v : Value} {d : DataW H} {ps : List MemPlace} (ht : P.underlying t = some (.array n e)) (he : P.underlying e = some (.int .u8)) (hc : P.cellsOf t = n) (h1 : P.cellsOf e = 1)
    {r : Reach} {b0 : Nat} (hv : Value.okWide P W r b0 t v) (hd : DataW.Trod enc P W base sp held t v d ps) : ∃ l : List UInt8, l.length = n ∧ v = .agg (l.map bv).toArray := by
  simp only [Value.okWide, ht] at hv
  obtain ⟨xs, rfl, hn, _⟩ := hv
  rw [hc] at hn
  obtain ⟨fuel, hf⟩ := hd
  cases fuel with
  | zero => simp [DataW.trod] at hf
  | succ m =>
    rw [DataW.trod_step] at hf
    unfold DataW.trodStep at hf
    simp only [ht, Value.cells] at hf
    split at hf
    · simp only [Option.map_eq_some_iff, h1] at hf
      obtain ⟨ys, hy, e1⟩ := hf
      have hk := mapM_bytes he _ ys hy
      refine ⟨xs.toList.map unbv, by simpa using hn, ?_⟩
      congr 1
      apply Array.ext'
      rw [List.map_map]
      conv => lhs; rw [← List.map_id xs.toList]
      apply List.map_congr_left
      intro x hx
      obtain ⟨i, hi, rfl⟩ := List.getElem_of_mem hx
      obtain ⟨c, hc'⟩ := hk i (by simp at hi ⊢; omega)
      have e2 : xs.toList[i] = bv c := by
        have h3 : ((xs.toList.drop (i * 1)).take 1)[0]? = some (bv c) := by rw [hc']; rfl
        rw [List.getElem?_take_of_lt (by omega), List.getElem?_drop, Nat.mul_one, Nat.add_zero, List.getElem?_eq_getElem hi] at h3
        exact Option.some.inj h3
      rw [e2]
      show bv c = bv (unbv (bv c))
      unfold unbv bv
      simp
    · cases hf
end
end Go.Proofs.YtoampocobmeebaaGreatDoor
