/- A row of bytes that the call owns, which may have been made of a text: one byte more. -/
import Derived.Lib.BufSteps
import Derived.Lib.ConvBytes
import Derived.Test.YtlmbijhkpgolaaaGreatDoorMem
namespace Go.Proofs.YtlmbijhkpgolaaaGreatDoor
open Go.RowKit
set_option linter.unusedVariables false

section
variable {P : Program}
/-- The slice v holds just these bytes, in a block of its own at or beyond B. -/
def Buf (e : TypeId) (w : World) (B : Nat) (v : Value) (l : List UInt8) : Prop :=
  ∃ g cap cur fz, v = .slice (some ⟨g, 0, none⟩) l.length cap ∧ B ≤ g ∧ w.heap[g]? = some (.cells cur e fz) ∧ (cap ≤ fz.1 ∨ fz.2 = 0) ∧ l.length ≤ cap ∧ cap ≤ maxLen ∧ cur.size = cap ∧ cur.toList.take l.length = l.map bv

theorem run_store1 (g o : Nat) (t : TypeId) (fz : Nat × Nat) (cur : Array Value) (w : World) (v : Value) (hg : w.heap[g]? = some (.cells cur t fz)) (ho : o < cur.size) (hf : cur.size ≤ fz.1 ∨ fz.2 = 0) (h1 : v.oneCell' = true) :
    (storeCells ⟨g, o, none⟩ [v] 0).run P w = .ok () (w.setRow g (cur.setIfInBounds o v)) := by
  have hadd : (⟨g, o, none⟩ : Addr).add 0 = ⟨g, o, none⟩ := by unfold Addr.add; split <;> simp_all
  have hcell : w.cell? ⟨g, o, none⟩ = some cur[o] := by simp [World.cell?, hg, ho]
  have hfro : w.frozen? ⟨g, o, none⟩ = false := by
    obtain ⟨lo, hi'⟩ := fz
    simp only [World.frozen?, hg, Bool.and_eq_false_iff, decide_eq_false_iff_not]
    simp only at hf
    omega
  have hst : (store ((⟨g, o, none⟩ : Addr).add 0) v).run P w = .ok () (w.setRow g (cur.setIfInBounds o v)) := by
    rw [hadd, run_store P w _ v _ h1, hcell]
    simp [hfro, setCell_eq_setRow w g o cur t fz v hg]
  simp only [storeCells, Sem.run_bind, hst, Result.andThen_ok]
  rfl

theorem take_set_snoc {α : Type} (L : List α) (n : Nat) (v : α) (h : n < L.length) : (L.set n v).take (n + 1) = L.take n ++ [v] := by
  apply List.ext_getElem?
  intro i
  rw [List.getElem?_take, List.getElem?_set]
  rcases Nat.lt_trichotomy i n with h1 | h1 | h1
  · rw [if_pos (by omega), if_neg (by omega), List.getElem?_append_left (by rw [List.length_take]; omega), List.getElem?_take, if_pos h1]
  · subst h1
    rw [if_pos (by omega), if_pos rfl, if_pos h, List.getElem?_append_right (by rw [List.length_take]; omega)]
    simp [Nat.min_eq_left (Nat.le_of_lt h)]
  · rw [if_neg (by omega), List.getElem?_eq_none (by simp; omega)]

theorem Buf.len {e : TypeId} {w : World} {B : Nat} {v : Value} {l : List UInt8} (h : Buf e w B v l) : ∃ a cap, v = .slice a l.length cap := by
  obtain ⟨g, cap, cur, fz, rfl, _⟩ := h
  exact ⟨_, _, rfl⟩
theorem Buf.below {e : TypeId} {w w' : World} {B : Nat} {v : Value} {l : List UInt8} (h : Buf e w B v l) (hb : Below w.heap.size w w') : Buf e w' B v l := by
  obtain ⟨g, cap, cur, fz, hv, hB, hg, h⟩ := h
  exact ⟨g, cap, cur, fz, hv, hB, (hb.block g (Array.getElem?_eq_some_iff.1 hg).1).trans hg, h⟩
/-- The bytes, as a text again. -/
theorem Buf.text {w : World} {src dst e : TypeId} {B : Nat} {v : Value} {l : List UInt8} (h : Buf e w B v l) (hs : P.underlying src = some (.slice e)) (he : P.underlying e = some (.int .u8)) (hd : P.underlying dst = some .string) :
    (convert src dst v).run P w = .ok (.string ⟨l.toArray⟩) w := by
  obtain ⟨g, cap, cur, fz, rfl, hB, hg, hf, hc, hm, hz, ht⟩ := h
  refine conv_bytes w src dst e hs he hd g 0 l.length cap l rfl (fun i hi => ?_)
  rw [Nat.zero_add, ← ht, List.getElem?_take, if_pos hi]
  simp [World.cell?, hg]

/-- A text's bytes. -/
theorem buf_conv (w : World) (src dst e : TypeId) (s : ByteArray) (hs : P.underlying src = some .string) (hd : P.underlying dst = some (.slice e)) (he : P.underlying e = some (.int .u8)) (hm : s.size ≤ maxLen) :
    ∃ v w', (convert src dst (.string s)).run P w = .ok v w' ∧ Buf e w' w.heap.size v s.data.toList ∧ Below w.heap.size w w' := by
  have hl : s.data.toList.length = s.size := by simp
  have hge := grownCap_ge w s.size 0 e
  have hsz : (Lib.bytesCells w e s).size = grownCap w s.size 0 e := by
    unfold Lib.bytesCells
    rw [Array.size_append, Array.size_map, Array.size_replicate]
    show s.size + _ = _
    omega
  refine ⟨_, _, Lib.run_convert_string_bytes w src dst e s hs hd he, ⟨w.heap.size, _, _, _, by rw [hl], Nat.le_refl _, Lib.bytesWorld_at_new w e s, .inl (by rw [hsz]; exact Nat.le_refl _), by rw [hl]; exact hge, grownCap_le_maxLen w s.size 0 e hm, hsz, ?_⟩, ?_⟩
  · unfold Lib.bytesCells
    rw [Array.toList_append, List.take_append_of_le_length (by simp), List.take_of_length_le (by simp), Array.toList_map]
    rfl
  · exact ⟨by simp [Lib.bytesWorld, World.freeze, World.alloc, World.drew, -World.alloc_eq, -World.drew_eq], by simp [Lib.bytesWorld, World.freeze, World.alloc, World.drew, -World.alloc_eq, -World.drew_eq], by simp [Lib.bytesWorld, World.freeze, World.alloc, World.drew, -World.alloc_eq, -World.drew_eq], by rw [Lib.bytesWorld_size]; omega, fun j hj => Lib.bytesWorld_at_old w e s j hj⟩

/-- One byte more. -/
theorem run_buf_byte (w : World) (t ty e : TypeId) (i : TypeInfo) (ht : P.underlying t = some (.slice e)) (hi : P.info? e = some i) (hz : i.zero = some (.int .u8 0)) (hsize : i.size = 1) (hby : i.bytes = 1)
    (B : Nat) (v : Value) (l : List UInt8) (hv : Buf e w B v l) (ad : Addr) (c : UInt8) (hc : w.cell? ad = some (bv c)) (hlen : l.length + 1 ≤ 140737488355328) (hB : B ≤ w.heap.size) :
    ∃ v' w', (Builtin.append_ #[t, t] ty #[v, .slice (some ad) 1 1]).run P w = .ok v' w' ∧ Buf e w' B v' (l ++ [c]) ∧ Below B w w' := by
  obtain ⟨g, cap, cur, fz, rfl, hBg, hg, hf, hlc, hm, hcz, htk⟩ := hv
  have hnews : ∀ j u, [bv c][j]? = some u → w.cell? (ad.add j) = some u := by
    intro j u hj
    match j, hj with
    | 0, hj => simp only [List.getElem?_cons_zero, Option.some.injEq] at hj; subst hj; rw [show ad.add 0 = ad by unfold Addr.add; split <;> simp_all]; exact hc
    | j + 1, hj => simp at hj
  have hlt := (Array.getElem?_eq_some_iff.1 hg).1
  by_cases hroom : l.length + 1 ≤ cap
  · have hfc := run_firstCells_some (P := P) w i.size 1 ad 1 1 [bv c] (by rw [hsize]; rfl) hnews
    have hlc2 : l.length < cur.toList.length := by have := Array.length_toList (xs := cur); omega
    have hst := run_store1 (P := P) g l.length e fz cur w (bv c) hg (by omega) (by rw [hcz]; exact hf) rfl
    refine ⟨.slice (some ⟨g, 0, none⟩) (l.length + 1) cap, w.setRow g (cur.setIfInBounds l.length (bv c)), ?_, ⟨g, cap, _, fz, by rw [List.length_append]; rfl, hBg, setRow_heap w g cur _ e _ hg, hf, by rw [List.length_append]; exact hroom, hm, by rw [Array.size_setIfInBounds]; exact hcz, ?_⟩, below_setRow (Below.refl _ _) hBg _⟩
    · rw [hsize] at hfc
      simp [Builtin.append_, run_underlying ht, sizeOf, typeInfo, hi, Builtin.lenOf, hroom, hfc, Addr.add_lit, hst, hsize]
    · rw [List.length_append, Array.toList_setIfInBounds, List.length_singleton, take_set_snoc _ _ _ hlc2, htk, List.map_append]
      rfl
  · have hxs : (l.map bv).length = l.length * i.size := by rw [hsize]; simp
    have holds : ∀ j u, (l.map bv)[j]? = some u → w.cell? ((⟨g, 0, none⟩ : Addr).add j) = some u := fun j u hj => by
      rw [← htk, List.getElem?_take] at hj
      split at hj
      · have : (⟨g, 0, none⟩ : Addr).add j = ⟨g, j, none⟩ := by unfold Addr.add; split <;> simp_all
        rw [this]
        simpa [World.cell?, hg] using hj
      · cases hj
    have hr := run_append_grow (P := P) w t ty e i (.int .u8 0) ht hi hz ⟨g, 0, none⟩ l.length cap (l.map bv) hxs holds ad 1 1 [bv c] (by rw [hsize]; rfl) hnews (by omega) (by omega) (growslice_fits (by omega) (by rw [hby]; omega))
    have hge := grownCap_ge w (l.length + 1) cap e
    have hcm2 : grownCap w (l.length + 1) cap e ≤ maxLen := grownCap_le_maxLen w (l.length + 1) cap e (by unfold maxLen; omega)
    refine ⟨_, _, hr, ⟨w.heap.size, _, _, (0, 0), by rw [List.length_append]; rfl, hB, heap_alloc_new w.drew _, .inr rfl, by rw [List.length_append]; exact hge, hcm2, ?_, ?_⟩, ((Below.refl _ _).drew).alloc (by simpa using hB) _⟩
    · simp only [Array.size_append, List.size_toArray, size_zeroCells, List.length_map, List.length_cons, List.length_nil]
      rw [show (Value.int IntKind.u8 0).cells.size = 1 from rfl, Nat.mul_one]
      omega
    · simp only [Array.toList_append, List.append_assoc]
      rw [← List.append_assoc, List.map_append, show (l ++ [c]).length = (l.map bv ++ [bv c]).length by simp]
      exact List.take_left

theorem wpList_buf_byte {ops : Array Oper} {rest : List Oper} {o : Oper} {a : Act} {Q : Exit → Act → World → Prop} (hgd : o.guard = none) (s x : Operand) (t : TypeId)
    (ho : o.op = .call { callee := .builtin .append, args := #[s, x], argTypes := #[t, t] })
    (e : TypeId) (i : TypeInfo) (ht : P.underlying t = some (.slice e)) (hi : P.info? e = some i) (hz : i.zero = some (.int .u8 0)) (hsize : i.size = 1) (hby : i.bytes = 1)
    (w0 : World) (B : Nat) (v : Value) (l : List UInt8) (hs : a.eval s = v) (hv : Buf e w0 B v l) (ci : Int) (c : UInt8) (hci : ci = c.toNat) (hx : a.eval x = .slice (some ⟨w0.heap.size, 0, none⟩) 1 1)
    (hlen : l.length + 1 ≤ 140737488355328) (hB : B ≤ w0.heap.size)
    (h : ∀ v' w', Buf e w' B v' (l ++ [c]) → Below B w0 w' → wpList P ops Q rest (a.put o.dst v') w') : wpList P ops Q (o :: rest) a (w0.alloc (.cells #[.int .u8 ci] e)) := by
  subst hci
  have hb0 : Below w0.heap.size w0 (w0.alloc (.cells #[.int .u8 c.toNat] e)) := (Below.refl _ _).alloc (Nat.le_refl _) _
  obtain ⟨v', w', hr, h1, h2⟩ := run_buf_byte (P := P) (w0.alloc (.cells #[.int .u8 c.toNat] e)) t o.type e i ht hi hz hsize hby B v l (hv.below hb0) ⟨w0.heap.size, 0, none⟩ c ((Row.new w0 e [bv c]).cell 0) hlen (by simp; omega)
  refine wpList_plain hgd fun _ hK => ?_
  unfold Oper.wp execOp
  simp only [ho, resolve, invoke, builtin, Sem.run_bind, Sem.run_pure, Result.andThen_ok, List.map_toArray, List.map_cons, List.map_nil, hs, hx, hr]
  exact hK _ _ (h v' w' h1 (((Below.refl _ _).alloc hB _).trans h2))
end
end Go.Proofs.YtlmbijhkpgolaaaGreatDoor
