/- A slice of acts, and one of texts, that came in. -/
import Derived.ProofKit
import Derived.OpenShut
import Derived.ShutString
import Derived.SliceStrings
import Derived.Deep.DeepHandedRow
import Derived.Deep.Slices
import Derived.Deep.Strs
import Derived.Test.YtldjnegoefdadaaGreatDoorROpen
import Derived.Test.YtldjnegoefdadaaGreatDoorRNewB
import Derived.Test.YtldjnegoefdadaaGreatDoorRCome
import Derived.Test.YtldjnegoefdadaaGreatDoorFStrs
namespace Go.Proofs.YtldjnegoefdadaaGreatDoor
open Go.ChangeShapes Go.WideShapes Go.RowKit Go.Deep
set_option linter.unusedVariables false

/-- An act: what is done, and a range. -/
structure AT where
  n : Int
  r : RG
def AT.cells (t : AT) : List Value := .int .i64 t.n :: t.r.cells
theorem at_len (t : AT) : t.cells.length = 7 := rfl
instance : Inhabited AT := ⟨⟨0, default⟩⟩
/-- A slice of acts that may be read. -/
def InA (w : World) (s : Value) (L : List AT) : Prop := ∃ a cap, s = .slice a L.length cap ∧ ∀ i (h : i < L.length), ∃ g off, a = some ⟨g, off, none⟩ ∧ g < w.heap.size ∧ w.rangeAt g (off + i * 7) L[i].cells
theorem InA.below {w w' : World} {s : Value} {L : List AT} (h : InA w s L) (hb : Below w.heap.size w w') : InA w' s L := by
  obtain ⟨a, cap, h1, h2⟩ := h
  refine ⟨a, cap, h1, fun i hi => ?_⟩
  obtain ⟨g, off, h3, h4, h5⟩ := h2 i hi
  exact ⟨g, off, h3, Nat.lt_of_lt_of_le h4 hb.size, fun j v hj => by rw [World.cell?_of_block (hb.block g h4)]; exact h5 j v hj⟩
def AT.wf (t : AT) : Prop := (-9223372036854775808 ≤ t.n ∧ t.n ≤ 9223372036854775807) ∧ (-9223372036854775808 ≤ t.r.mode ∧ t.r.mode ≤ 9223372036854775807)
set_option maxRecDepth 20000 in
theorem acts18_open {H : Type} {enc : TypeId × Value → H} {W : World} {a0 : Option Addr} {len cap fuel : Nat} {x : DataW H × List MemPlace}
    (hf : DataW.trod enc Tryz.prog W 0 (fun _ => true) true fuel 22 [.slice a0 len cap] = some x) : ∃ L : List AT, InA W (.slice a0 len cap) L ∧ (∀ r ∈ L, r.wf) ∧ L.length ≤ 9223372036854775807 := by
  have c7 : Tryz.prog.cellsOf 32 = 7 := by kernel_rfl
  have c6 : Tryz.prog.cellsOf 30 = 6 := by kernel_rfl
  have hS : Tryz.prog.cellsOf 9 = 1 := by kernel_rfl
  have hI : Tryz.prog.cellsOf 3 = 1 := by kernel_rfl
  rcases open_slice Tryz.underlying22 hf with ⟨hcs, hx⟩ | ⟨a, len', cap', m, n, D, Pl, hcs, _, hl, hm, hz, hx, hcell⟩
  · simp at hcs
    obtain ⟨rfl, rfl, rfl⟩ := hcs
    exact ⟨[], ⟨none, 0, rfl, fun i h => absurd h (Nat.not_lt_zero i)⟩, (fun r hr => by cases hr), by decide⟩
  · simp at hcs
    obtain ⟨rfl, rfl, rfl⟩ := hcs
    simp only [if_true] at hz
    obtain ⟨b, off, spot⟩ := a
    have each : ∀ i, i < len → ∃ q : AT, q.wf ∧ ∀ k v, q.cells[k]? = some v → W.cell? ((⟨b, off, spot⟩ : Addr).add (i * 7 + k)) = some v := by
      intro i hi
      obtain ⟨cs', h1, h2⟩ := hcell i (by omega)
      rw [c7] at h1
      obtain ⟨_, hlen, hc⟩ := World.cells?_some h1
      obtain ⟨xs, n', _, _, _, hxl, hg⟩ := DataW.trod_struct Tryz.underlying32 h2
      match cs', hlen, xs, hxl with
      | [vn, v0, v1, v2, v3, v4, v5], _, [yn, yr], _ =>
       have gn : DataW.trod enc Tryz.prog W 0 (fun _ => true) true n' 3 [vn] = some yn := by simpa [hI] using hg 0 _ rfl
       have gr : DataW.trod enc Tryz.prog W 0 (fun _ => true) true n' 30 [v0, v1, v2, v3, v4, v5] = some yr := by simpa [c6] using hg 1 _ rfl
       obtain ⟨kn, en, _, wn⟩ := DataW.trod_int Tryz.underlying3 gn
       simp only [List.cons.injEq, and_true] at en
       subst en
       have rn : -9223372036854775808 ≤ kn ∧ kn ≤ 9223372036854775807 := by simpa [Lit.wf, IntKind.min, IntKind.max, IntKind.signed, IntKind.bits] using wn
       obtain ⟨zs, n'', _, _, _, hzl, hg⟩ := DataW.trod_struct Tryz.underlying30 gr
       match zs, hzl with
       | [y0, y1, y2, y3, y4, y5], _ =>
        have g0 : DataW.trod enc Tryz.prog W 0 (fun _ => true) true n'' 9 [v0] = some y0 := by simpa [hS] using hg 0 _ rfl
        have g1 : DataW.trod enc Tryz.prog W 0 (fun _ => true) true n'' 9 [v1] = some y1 := by simpa [hS] using hg 1 _ rfl
        have g2 : DataW.trod enc Tryz.prog W 0 (fun _ => true) true n'' 9 [v2] = some y2 := by simpa [hS] using hg 2 _ rfl
        have g3 : DataW.trod enc Tryz.prog W 0 (fun _ => true) true n'' 9 [v3] = some y3 := by simpa [hS] using hg 3 _ rfl
        have g4 : DataW.trod enc Tryz.prog W 0 (fun _ => true) true n'' 9 [v4] = some y4 := by simpa [hS] using hg 4 _ rfl
        have g5 : DataW.trod enc Tryz.prog W 0 (fun _ => true) true n'' 3 [v5] = some y5 := by simpa [hI] using hg 5 _ rfl
        obtain ⟨s0, e0, _⟩ := DataW.trod_string Tryz.underlying9 g0
        obtain ⟨s1, e1, _⟩ := DataW.trod_string Tryz.underlying9 g1
        obtain ⟨s2, e2, _⟩ := DataW.trod_string Tryz.underlying9 g2
        obtain ⟨s3, e3, _⟩ := DataW.trod_string Tryz.underlying9 g3
        obtain ⟨s4, e4, _⟩ := DataW.trod_string Tryz.underlying9 g4
        obtain ⟨k5, e5, _, w5⟩ := DataW.trod_int Tryz.underlying3 g5
        simp only [List.cons.injEq, and_true] at e0 e1 e2 e3 e4 e5
        subst e0 e1 e2 e3 e4 e5
        have r5 : -9223372036854775808 ≤ k5 ∧ k5 ≤ 9223372036854775807 := by simpa [Lit.wf, IntKind.min, IntKind.max, IntKind.signed, IntKind.bits] using w5
        refine ⟨⟨kn, ⟨s0, s1, s2, s3, s4, k5⟩⟩, ⟨rn, r5⟩, fun k v hk => ?_⟩
        have hk6 : k < 7 := by
          have := (List.getElem?_eq_some_iff.1 hk).1
          rwa [at_len] at this
        have h3 := hc k (by omega)
        rw [add_add] at h3
        exact h3.trans hk
    have hq : ∃ q : Nat → AT, ∀ i, i < len → (q i).wf ∧ ∀ k v, (q i).cells[k]? = some v → W.cell? ((⟨b, off, spot⟩ : Addr).add (i * 7 + k)) = some v :=
      ⟨fun i => if h : i < len then Classical.choose (each i h) else default, fun i hi => by dsimp only; rw [dif_pos hi]; exact Classical.choose_spec (each i hi)⟩
    obtain ⟨q, hq⟩ := hq
    have hlen : ((List.range len).map q).length = len := by simp
    refine ⟨(List.range len).map q, ⟨some ⟨b, off, spot⟩, cap, by rw [hlen], fun i hi => ?_⟩, fun r hr => ?_, by rw [hlen]; unfold maxLen at hm; omega⟩
    · have hil : i < len := by rwa [hlen] at hi
      have hspot : spot = none := by
        have h := (hq 0 (by omega)).2 0 _ rfl
        simpa [Addr.add] using World.cell?_spot h
      subst hspot
      refine ⟨b, off, rfl, ?_, fun k v hk => ?_⟩
      · have h := (hq i hil).2 0 _ rfl
        refine Classical.byContradiction fun hn => ?_
        rw [Addr.add_mid] at h
        simp [World.cell?, Array.getElem?_eq_none (Nat.le_of_not_lt hn)] at h
      · have h := (hq i hil).2 k v (by simpa using hk)
        rw [Addr.add_mid] at h
        rw [Nat.add_assoc]
        exact h
    · obtain ⟨i, hi, rfl⟩ := List.mem_map.1 hr
      exact (hq i (List.mem_range.1 hi)).1
theorem cells_str_m : Tryz.prog.cellsOf 9 = 1 := by kernel_rfl
theorem cell_in_m {w : World} {a : Addr} {v : Value} (h : w.cell? a = some v) : a.block < w.heap.size := by
  refine Decidable.byContradiction fun hn => ?_
  simp [World.cell?, Array.getElem?_eq_none (Nat.le_of_not_lt hn)] at h
/-- A []string that came in, nil or not. -/
theorem strs_open_m {H : Type} {enc : TypeId × Value → H} {W : World} {a0 : Option Addr} {len cap fuel : Nat} {x : DataW H × List MemPlace}
    (hf : DataW.trod enc Tryz.prog W 0 (fun _ => true) true fuel 23 [.slice a0 len cap] = some x) : ∃ l, Strs W (.slice a0 len cap) l ∧ l.length ≤ 9223372036854775807 ∧ ∀ c ∈ l, c.size ≤ 9223372036854775807 := by
  rcases open_strings Tryz.underlying23 Tryz.underlying9 cells_str_m hf with ⟨hcs, hx⟩ | ⟨a, len', cap', ss, hcs, _, hl, hm, hz, hx, hcell, hsz⟩
  · simp at hcs
    obtain ⟨rfl, rfl, rfl⟩ := hcs
    exact ⟨[], ⟨none, 0, 0, 0, rfl, fun h => absurd h (by simp), fun j h => absurd h (by simp)⟩, by simp, fun c hc => by cases hc⟩
  · simp at hcs
    obtain ⟨rfl, rfl, rfl⟩ := hcs
    simp only [if_true] at hz
    obtain ⟨b, off, spot⟩ := a
    have hlen : (ss.take len).length = len := by simp; omega
    refine ⟨ss.take len, ⟨some ⟨b, off, spot⟩, cap, b, off, by rw [hlen], fun h0 => ?_, fun j hj => ?_⟩, ?_, fun c hc => ?_⟩
    · rw [hlen] at h0
      have hspot : spot = none := by simpa [Addr.add] using World.cell?_spot (hcell 0 (by omega))
      subst hspot
      exact ⟨rfl, cell_in_m (hcell 0 (by omega))⟩
    · rw [hlen] at hj
      have hspot : spot = none := by simpa [Addr.add] using World.cell?_spot (hcell 0 (by omega))
      subst hspot
      have e : (ss.take len).getD j ByteArray.empty = ss.getD j ByteArray.empty := by simp [List.getD, List.getElem?_take_of_lt hj]
      rw [e, ← add_plain]
      exact hcell j (by omega)
    · rw [hlen]
      unfold maxLen at hm; omega
    · have h1 := hsz c (List.mem_of_mem_take hc)
      unfold maxLen at h1; omega
end Go.Proofs.YtldjnegoefdadaaGreatDoor
