/- A slice of acts that came in. -/
import Derived.ProofKit
import Derived.OpenShut
import Derived.Deep.DeepHandedRow
import Derived.Deep.Slices
import Derived.Deep.Strs
import Derived.Test.YtoampocobmeebaaGreatDoorOpenArr
import Derived.Test.YtoampocobmeebaaGreatDoorTTab
namespace Go.Proofs.YtoampocobmeebaaGreatDoor.Tm
open Go.ChangeShapes Go.WideShapes Go.RowKit Go.Deep
set_option linter.unusedVariables false
set_option linter.unusedSimpArgs false

section
variable {H : Type} {enc : TypeId × Value → H} {P : Program} {W : World} {base : Nat} {sp : Nat → Bool} {held : Bool}
theorem trod_bytes {t e : TypeId} {n m : Nat} {cs : List Value} {x : DataW H × List MemPlace} (ht : P.underlying t = some (.array n e)) (he : P.underlying e = some (.int .u8)) (h1 : P.cellsOf e = 1) (hl : cs.length = n)
    (hf : DataW.trod enc P W base sp held m t cs = some x) : ∃ l : List UInt8, l.length = n ∧ cs = l.map bv := by
  cases m with
  | zero => simp [DataW.trod] at hf
  | succ m =>
    rw [DataW.trod_step] at hf
    unfold DataW.trodStep at hf
    simp only [ht, Value.cells] at hf
    split at hf
    · simp only [Option.map_eq_some_iff, h1] at hf
      obtain ⟨ys, hy, e1⟩ := hf
      have hk := mapM_bytes he _ ys hy
      refine ⟨cs.map unbv, by simpa using hl, ?_⟩
      rw [List.map_map]
      conv => lhs; rw [← List.map_id cs]
      apply List.map_congr_left
      intro x hx
      obtain ⟨i, hi, rfl⟩ := List.getElem_of_mem hx
      obtain ⟨c, hc'⟩ := hk i (by simp; omega)
      have e2 : cs[i] = bv c := by
        have h3 : ((cs.drop (i * 1)).take 1)[0]? = some (bv c) := by rw [hc']; rfl
        rw [List.getElem?_take_of_lt (by omega), List.getElem?_drop, Nat.mul_one, Nat.add_zero, List.getElem?_eq_getElem hi] at h3
        exact Option.some.inj h3
      rw [e2]
      show bv c = bv (unbv (bv c))
      unfold unbv bv
      simp
    · cases hf
end
/-- An act: whose, when, or dropped. -/
structure AN where
  uid : List UInt8
  tm : Nat
  drop : Bool
def AN.cells (t : AN) : List Value := t.uid.map bv ++ [.int .u64 t.tm, .bool t.drop]
def AN.wf (t : AN) : Prop := t.uid.length = 16 ∧ t.tm < 18446744073709551616
theorem an_len {t : AN} (h : t.wf) : t.cells.length = 18 := by simp [AN.cells, h.1]
instance : Inhabited AN := ⟨⟨[], 0, false⟩⟩
/-- A slice of acts that may be read. -/
def InA (w : World) (s : Value) (L : List AN) : Prop := ∃ a cap, s = .slice a L.length cap ∧ ∀ i (h : i < L.length), ∃ g off, a = some ⟨g, off, none⟩ ∧ g < w.heap.size ∧ w.rangeAt g (off + i * 18) L[i].cells
theorem InA.below {w w' : World} {s : Value} {L : List AN} (h : InA w s L) (hb : Below w.heap.size w w') : InA w' s L := by
  obtain ⟨a, cap, h1, h2⟩ := h
  refine ⟨a, cap, h1, fun i hi => ?_⟩
  obtain ⟨g, off, h3, h4, h5⟩ := h2 i hi
  exact ⟨g, off, h3, Nat.lt_of_lt_of_le h4 hb.size, fun j v hj => by rw [World.cell?_of_block (hb.block g h4)]; exact h5 j v hj⟩
theorem split18 {cs : List Value} {A : List Value} {u v : Value} (hl : cs.length = 18) (hA : (cs.drop 0).take 16 = A) (hu : (cs.drop 16).take 1 = [u]) (hv : (cs.drop 17).take 1 = [v]) : cs = A ++ [u, v] := by
  have e1 : cs = cs.take 16 ++ cs.drop 16 := (List.take_append_drop 16 cs).symm
  have e2 : cs.drop 16 = (cs.drop 16).take 1 ++ (cs.drop 16).drop 1 := (List.take_append_drop 1 _).symm
  have e3 : (cs.drop 16).drop 1 = cs.drop 17 := by rw [List.drop_drop]
  have e4 : cs.drop 17 = (cs.drop 17).take 1 := by rw [List.take_of_length_le]; rw [List.length_drop]; omega
  rw [List.drop_zero] at hA
  rw [e1, hA, e2, hu, e3, e4, hv]
  rfl
set_option maxRecDepth 20000 in
theorem acts24_open {H : Type} {enc : TypeId × Value → H} {W : World} {a0 : Option Addr} {len cap fuel : Nat} {x : DataW H × List MemPlace}
    (hf : DataW.trod enc Tryz.prog W 0 (fun _ => true) true fuel 22 [.slice a0 len cap] = some x) : ∃ L : List AN, InA W (.slice a0 len cap) L ∧ (∀ r ∈ L, r.wf) ∧ L.length ≤ 9223372036854775807 := by
  have c18 : Tryz.prog.cellsOf 32 = 18 := by kernel_rfl
  have c16 : Tryz.prog.cellsOf 25 = 16 := by kernel_rfl
  have cU : Tryz.prog.cellsOf 23 = 1 := by kernel_rfl
  have cB : Tryz.prog.cellsOf 4 = 1 := by kernel_rfl
  have c1 : Tryz.prog.cellsOf 5 = 1 := by kernel_rfl
  rcases open_slice Tryz.underlying22 hf with ⟨hcs, hx⟩ | ⟨a, len', cap', m, n, D, Pl, hcs, _, hl, hm, hz, hx, hcell⟩
  · simp at hcs
    obtain ⟨rfl, rfl, rfl⟩ := hcs
    exact ⟨[], ⟨none, 0, rfl, fun i h => absurd h (Nat.not_lt_zero i)⟩, (fun r hr => by cases hr), by decide⟩
  · simp at hcs
    obtain ⟨rfl, rfl, rfl⟩ := hcs
    simp only [if_true] at hz
    obtain ⟨b, off, spot⟩ := a
    have each : ∀ i, i < len → ∃ q : AN, q.wf ∧ ∀ k v, q.cells[k]? = some v → W.cell? ((⟨b, off, spot⟩ : Addr).add (i * 18 + k)) = some v := by
      intro i hi
      obtain ⟨cs', h1, h2⟩ := hcell i (by omega)
      rw [c18] at h1
      obtain ⟨_, hlen, hc⟩ := World.cells?_some h1
      obtain ⟨y0, y1, y2, n', _, _, g0, g1, g2⟩ := trod_struct3 Tryz.underlying32 h2
      simp only [c16, cU, cB] at g0 g1 g2
      obtain ⟨l, hl16, e0⟩ := trod_bytes Tryz.underlying25 Tryz.underlying5 c1 (by simp; omega) g0
      obtain ⟨k1, e1, _, w1⟩ := DataW.trod_int Tryz.underlying23 g1
      obtain ⟨k2, e2, _⟩ := DataW.trod_bool Tryz.underlying4 g2
      have r1 : 0 ≤ k1 ∧ k1 ≤ 18446744073709551615 := by simpa [Lit.wf, IntKind.min, IntKind.max, IntKind.signed, IntKind.bits] using w1
      have ecs := split18 hlen e0 e1 e2
      refine ⟨⟨l, k1.toNat, k2⟩, ⟨hl16, by show k1.toNat < _; omega⟩, fun k v hk => ?_⟩
      have ek : (AN.mk l k1.toNat k2).cells = cs' := by
        rw [ecs]
        unfold AN.cells
        show l.map bv ++ [Value.int .u64 (k1.toNat : Int), Value.bool k2] = _
        rw [Int.toNat_of_nonneg r1.1]
      rw [ek] at hk
      have hk6 : k < 18 := by
        have := (List.getElem?_eq_some_iff.1 hk).1
        omega
      have h3 := hc k (by omega)
      rw [add_add] at h3
      exact h3.trans hk
    have hq : ∃ q : Nat → AN, ∀ i, i < len → (q i).wf ∧ ∀ k v, (q i).cells[k]? = some v → W.cell? ((⟨b, off, spot⟩ : Addr).add (i * 18 + k)) = some v :=
      ⟨fun i => if h : i < len then Classical.choose (each i h) else default, fun i hi => by dsimp only; rw [dif_pos hi]; exact Classical.choose_spec (each i hi)⟩
    obtain ⟨q, hq⟩ := hq
    have hlen : ((List.range len).map q).length = len := by simp
    have h0 : ∀ i, i < len → ∃ v, (q i).cells[0]? = some v := fun i hi => ⟨_, List.getElem?_eq_getElem (by rw [an_len (hq i hi).1]; omega)⟩
    refine ⟨(List.range len).map q, ⟨some ⟨b, off, spot⟩, cap, by rw [hlen], fun i hi => ?_⟩, fun r hr => ?_, by rw [hlen]; unfold maxLen at hm; omega⟩
    · have hil : i < len := by rwa [hlen] at hi
      have hspot : spot = none := by
        obtain ⟨v, hv⟩ := h0 0 (by omega)
        have h := (hq 0 (by omega)).2 0 _ hv
        simpa [Addr.add] using World.cell?_spot h
      subst hspot
      refine ⟨b, off, rfl, ?_, fun k v hk => ?_⟩
      · obtain ⟨v, hv⟩ := h0 i hil
        have h := (hq i hil).2 0 _ hv
        refine Classical.byContradiction fun hn => ?_
        rw [Addr.add_mid] at h
        simp [World.cell?, Array.getElem?_eq_none (Nat.le_of_not_lt hn)] at h
      · have h := (hq i hil).2 k v (by simpa using hk)
        rw [Addr.add_mid] at h
        rw [Nat.add_assoc]
        exact h
    · obtain ⟨i, hi, rfl⟩ := List.mem_map.1 hr
      exact (hq i (List.mem_range.1 hi)).1
end Go.Proofs.YtoampocobmeebaaGreatDoor.Tm
