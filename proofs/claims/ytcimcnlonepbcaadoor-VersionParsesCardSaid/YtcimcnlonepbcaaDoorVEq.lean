/- Two versions compared as arrays; a version that came in. -/
import Derived.ProofKit
import Derived.OpenShut
import Derived.Deep.DeepHandedRow
import Derived.Test.YtcimcnlonepbcaaDoorQuietL
import Derived.Test.YtcimcnlonepbcaaDoorVAwk
namespace Go.Proofs.YtcimcnlonepbcaaDoor
open Go.ChangeShapes Go.WideShapes Go.RowKit
set_option linter.unusedVariables false

def wv (n : Nat) : Value := .int .u16 n
theorem items_u16 {P : Program} (W : World) (d : Nat) (e : TypeId) (l m : List Nat) (he : P.underlying e = some (.int .u16)) (ha : (isAgg e).run P W = .ok false W) :
    ∀ is : List Nat, (∀ i ∈ is, i < l.length ∧ i < m.length) → (Op.eqItems (d + 1) e 1 (l.map wv).toArray (m.map wv).toArray is).run P W = .ok (decide (∀ i ∈ is, l[i]? = m[i]?)) W
  | [], _ => by simp [Op.eqItems]
  | i :: is, h => by
    obtain ⟨h1, h2⟩ := h i (by simp)
    have ih := items_u16 W d e l m he ha is (fun j hj => h j (by simp [hj]))
    have hp : (part e (l.map wv).toArray (i * 1)).run P W = .ok (.int .u16 (l[i] : Int)) W := by
      simp only [part, Sem.run_bind, ha, Result.andThen_ok, Nat.mul_one, Bool.false_eq_true, if_false, List.getElem?_toArray, List.getElem?_map, List.getElem?_eq_getElem h1, Option.map_some, wv, Sem.run_pure]
    have hq : (part e (m.map wv).toArray (i * 1)).run P W = .ok (.int .u16 (m[i] : Int)) W := by
      simp only [part, Sem.run_bind, ha, Result.andThen_ok, Nat.mul_one, Bool.false_eq_true, if_false, List.getElem?_toArray, List.getElem?_map, List.getElem?_eq_getElem h2, Option.map_some, wv, Sem.run_pure]
    simp only [Op.eqItems, Sem.run_bind, hp, hq, Result.andThen_ok, run_equalIn_int W d e .u16 .u16 _ _ he]
    by_cases hb : l[i] = m[i]
    · have e1 : l[i]? = m[i]? := by rw [List.getElem?_eq_getElem h1, List.getElem?_eq_getElem h2, hb]
      simp [hb, ih, e1]
    · have e1 : ¬ l[i]? = m[i]? := by rw [List.getElem?_eq_getElem h1, List.getElem?_eq_getElem h2]; simpa using hb
      have e2 : ¬ ((l[i] : Int) = (m[i] : Int)) := fun h => hb (by omega)
      simp [e1, e2]
theorem veq_in (a0 a1 a2 b0 b1 b2 : Nat) (W : World) :
    (Op.equalIn 10000 24 (.agg #[.int .u16 a0, .int .u16 a1, .int .u16 a2]) (.agg #[.int .u16 b0, .int .u16 b1, .int .u16 b2])).run Tryd.prog W = .ok (decide ((a0, a1, a2) = (b0, b1, b2))) W := by
  obtain ⟨i, hi, _⟩ := info_parts (show (Tryd.prog.info? 22).map (fun i => (i.zero, i.size, i.bytes)) = some (some (.int .u16 0), 1, 2) by kernel_rfl)
  rw [run_equalIn_array W 9999 _ _ Tryd.underlying24 hi, show Tryd.prog.cellsOf 22 = 1 by kernel_rfl]
  have h := items_u16 (P := Tryd.prog) W 9998 22 [a0, a1, a2] [b0, b1, b2] Tryd.underlying22 (Tryd.isAgg22 W) (List.range 3) (fun j hj => by
    have hj2 := List.mem_range.1 hj
    simp
    omega)
  have e1 : decide (∀ i ∈ List.range 3, ([a0, a1, a2] : List Nat)[i]? = [b0, b1, b2][i]?) = decide ((a0, a1, a2) = (b0, b1, b2)) := decide_eq_decide.2 ⟨fun h => by
    have h0 := h 0 (by simp)
    have h1 := h 1 (by simp)
    have h2 := h 2 (by simp)
    simp at h0 h1 h2
    rw [h0, h1, h2], fun h => by
    injection h with h0 h
    injection h with h1 h2
    subst h0 h1 h2
    intros
    rfl⟩
  rw [e1] at h
  exact h
theorem veq (a0 a1 a2 b0 b1 b2 : Nat) (W : World) :
    (binOp .eql 24 (.agg #[.int .u16 a0, .int .u16 a1, .int .u16 a2]) (.agg #[.int .u16 b0, .int .u16 b1, .int .u16 b2])).run Tryd.prog W = .ok (.bool (decide ((a0, a1, a2) = (b0, b1, b2)))) W := by
  rw [run_eql_struct, veq_in]
  rfl

section
variable {H : Type} {enc : TypeId × Value → H} {P : Program} {W : World} {base : Nat} {sp : Nat → Bool} {held : Bool}
theorem mapM_u16 {e : TypeId} (he : P.underlying e = some (.int .u16)) {m : Nat} {cs : List Value} : ∀ (L : List Nat) (xs : List (DataW H × List MemPlace)),
    L.mapM (fun i => DataW.trod enc P W base sp held m e ((cs.drop (i * 1)).take 1)) = some xs → ∀ i ∈ L, ∃ c : Nat, c ≤ 65535 ∧ (cs.drop (i * 1)).take 1 = [wv c]
  | [], xs, h => by simp
  | i :: L, xs, h => by
    rw [List.mapM_cons] at h
    simp only [bind, Option.bind_eq_some_iff, pure, Option.some.injEq] at h
    obtain ⟨y, hy, ys, hys, rfl⟩ := h
    have ih := mapM_u16 he L ys hys
    obtain ⟨a, ea, rfl, wa⟩ := DataW.trod_int he hy
    have hr : 0 ≤ a ∧ a ≤ 65535 := by simpa [Lit.wf, IntKind.min, IntKind.max, IntKind.signed, IntKind.bits] using wa
    intro j hj
    rcases List.mem_cons.1 hj with rfl | hj
    · refine ⟨a.toNat, by omega, ?_⟩
      rw [ea]
      unfold wv
      rw [show ((a.toNat : Nat) : Int) = a by omega]
    · exact ih j hj
theorem open_v3 {t e : TypeId} {v : Value} {d : DataW H} {ps : List MemPlace} (ht : P.underlying t = some (.array 3 e)) (he : P.underlying e = some (.int .u16)) (hc : P.cellsOf t = 3) (h1 : P.cellsOf e = 1)
    {r : Reach} {b0 : Nat} (hv : Value.okWide P W r b0 t v) (hd : DataW.Trod enc P W base sp held t v d ps) : ∃ x y z : Nat, x ≤ 65535 ∧ y ≤ 65535 ∧ z ≤ 65535 ∧ v = .agg #[.int .u16 x, .int .u16 y, .int .u16 z] := by
  simp only [Value.okWide, ht] at hv
  obtain ⟨xs, rfl, hn, _⟩ := hv
  rw [hc] at hn
  obtain ⟨fuel, hf⟩ := hd
  cases fuel with
  | zero => simp [DataW.trod] at hf
  | succ m =>
    rw [DataW.trod_step] at hf
    unfold DataW.trodStep at hf
    simp only [ht, Value.cells] at hf
    split at hf
    · simp only [Option.map_eq_some_iff, h1] at hf
      obtain ⟨ys, hy, e1⟩ := hf
      have hk := mapM_u16 he _ ys hy
      have hat : ∀ i (hi : i < xs.toList.length), ∃ c : Nat, c ≤ 65535 ∧ xs.toList[i] = wv c := fun i hi => by
        obtain ⟨c, hc1, hc2⟩ := hk i (by simp at hi ⊢; omega)
        refine ⟨c, hc1, ?_⟩
        have h3 : ((xs.toList.drop (i * 1)).take 1)[0]? = some (wv c) := by rw [hc2]; rfl
        rw [List.getElem?_take_of_lt (by omega), List.getElem?_drop, Nat.mul_one, Nat.add_zero, List.getElem?_eq_getElem hi] at h3
        exact Option.some.inj h3
      have hl : xs.toList.length = 3 := by simpa using hn
      obtain ⟨x, hx, ex⟩ := hat 0 (by omega)
      obtain ⟨y, hy', ey⟩ := hat 1 (by omega)
      obtain ⟨z, hz, ez⟩ := hat 2 (by omega)
      refine ⟨x, y, z, hx, hy', hz, ?_⟩
      congr 1
      apply Array.ext'
      apply List.ext_getElem (by rw [hl]; rfl)
      intro i h4 h5
      rcases (by rw [hl] at h4; omega : i = 0 ∨ i = 1 ∨ i = 2) with rfl | rfl | rfl
      · rw [ex]; rfl
      · rw [ey]; rfl
      · rw [ez]; rfl
    · cases hf
end
end Go.Proofs.YtcimcnlonepbcaaDoor
