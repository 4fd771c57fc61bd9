/- A slice of ranges that came in. -/
import Derived.ProofKit
import Derived.OpenShut
import Derived.ShutString
import Derived.Deep.DeepHandedRow
import Derived.Deep.Slices
import Derived.Deep.Strs
import Derived.Test.YtldjnegoefdadaaGreatDoorROpen
import Derived.Test.YtldjnegoefdadaaGreatDoorRNewB
namespace Go.Proofs.YtldjnegoefdadaaGreatDoor
open Go.ChangeShapes Go.WideShapes Go.RowKit Go.Deep
set_option linter.unusedVariables false

instance : Inhabited RG := ⟨⟨⟨#[]⟩, ⟨#[]⟩, ⟨#[]⟩, ⟨#[]⟩, ⟨#[]⟩, 0⟩⟩
set_option maxRecDepth 20000 in
theorem ranges_open {H : Type} {enc : TypeId × Value → H} {W : World} {a0 : Option Addr} {len cap fuel : Nat} {x : DataW H × List MemPlace}
    (hf : DataW.trod enc Tryz.prog W 0 (fun _ => true) true fuel 25 [.slice a0 len cap] = some x) : ∃ L : List RG, InR W (.slice a0 len cap) L ∧ (∀ r ∈ L, -9223372036854775808 ≤ r.mode ∧ r.mode ≤ 9223372036854775807) ∧ L.length ≤ 9223372036854775807 := by
  have c6 : Tryz.prog.cellsOf 30 = 6 := by kernel_rfl
  have hS : Tryz.prog.cellsOf 9 = 1 := by kernel_rfl
  have hI : Tryz.prog.cellsOf 3 = 1 := by kernel_rfl
  rcases open_slice Tryz.underlying25 hf with ⟨hcs, hx⟩ | ⟨a, len', cap', m, n, D, Pl, hcs, _, hl, hm, hz, hx, hcell⟩
  · simp at hcs
    obtain ⟨rfl, rfl, rfl⟩ := hcs
    exact ⟨[], ⟨none, 0, rfl, Nat.le_refl _, fun i h => absurd h (Nat.not_lt_zero i)⟩, (fun r hr => by cases hr), by decide⟩
  · simp at hcs
    obtain ⟨rfl, rfl, rfl⟩ := hcs
    simp only [if_true] at hz
    obtain ⟨b, off, spot⟩ := a
    have each : ∀ i, i < len → ∃ q : RG, (-9223372036854775808 ≤ q.mode ∧ q.mode ≤ 9223372036854775807) ∧ ∀ k v, q.cells[k]? = some v → W.cell? ((⟨b, off, spot⟩ : Addr).add (i * 6 + k)) = some v := by
      intro i hi
      obtain ⟨cs', h1, h2⟩ := hcell i (by omega)
      rw [c6] at h1
      obtain ⟨_, hlen, hc⟩ := World.cells?_some h1
      obtain ⟨xs, n', _, _, _, hxl, hg⟩ := DataW.trod_struct Tryz.underlying30 h2
      match cs', hlen, xs, hxl with
      | [v0, v1, v2, v3, v4, v5], _, [y0, y1, y2, y3, y4, y5], _ =>
        have g0 : DataW.trod enc Tryz.prog W 0 (fun _ => true) true n' 9 [v0] = some y0 := by simpa [hS] using hg 0 _ rfl
        have g1 : DataW.trod enc Tryz.prog W 0 (fun _ => true) true n' 9 [v1] = some y1 := by simpa [hS] using hg 1 _ rfl
        have g2 : DataW.trod enc Tryz.prog W 0 (fun _ => true) true n' 9 [v2] = some y2 := by simpa [hS] using hg 2 _ rfl
        have g3 : DataW.trod enc Tryz.prog W 0 (fun _ => true) true n' 9 [v3] = some y3 := by simpa [hS] using hg 3 _ rfl
        have g4 : DataW.trod enc Tryz.prog W 0 (fun _ => true) true n' 9 [v4] = some y4 := by simpa [hS] using hg 4 _ rfl
        have g5 : DataW.trod enc Tryz.prog W 0 (fun _ => true) true n' 3 [v5] = some y5 := by simpa [hI] using hg 5 _ rfl
        obtain ⟨s0, e0, _⟩ := DataW.trod_string Tryz.underlying9 g0
        obtain ⟨s1, e1, _⟩ := DataW.trod_string Tryz.underlying9 g1
        obtain ⟨s2, e2, _⟩ := DataW.trod_string Tryz.underlying9 g2
        obtain ⟨s3, e3, _⟩ := DataW.trod_string Tryz.underlying9 g3
        obtain ⟨s4, e4, _⟩ := DataW.trod_string Tryz.underlying9 g4
        obtain ⟨k5, e5, _, w5⟩ := DataW.trod_int Tryz.underlying3 g5
        simp only [List.cons.injEq, and_true] at e0 e1 e2 e3 e4 e5
        subst e0 e1 e2 e3 e4 e5
        have r5 : -9223372036854775808 ≤ k5 ∧ k5 ≤ 9223372036854775807 := by simpa [Lit.wf, IntKind.min, IntKind.max, IntKind.signed, IntKind.bits] using w5
        refine ⟨⟨s0, s1, s2, s3, s4, k5⟩, r5, fun k v hk => ?_⟩
        have hk6 : k < 6 := by
          have := (List.getElem?_eq_some_iff.1 hk).1
          rwa [cells_len] at this
        have h3 := hc k (by omega)
        rw [add_add] at h3
        exact h3.trans hk
    have hq : ∃ q : Nat → RG, ∀ i, i < len → (-9223372036854775808 ≤ (q i).mode ∧ (q i).mode ≤ 9223372036854775807) ∧ ∀ k v, (q i).cells[k]? = some v → W.cell? ((⟨b, off, spot⟩ : Addr).add (i * 6 + k)) = some v :=
      ⟨fun i => if h : i < len then Classical.choose (each i h) else default, fun i hi => by dsimp only; rw [dif_pos hi]; exact Classical.choose_spec (each i hi)⟩
    obtain ⟨q, hq⟩ := hq
    have hlen : ((List.range len).map q).length = len := by simp
    refine ⟨(List.range len).map q, ⟨some ⟨b, off, spot⟩, cap, by rw [hlen], by rw [hlen]; omega, fun i hi => ?_⟩, fun r hr => ?_, by rw [hlen]; unfold maxLen at hm; omega⟩
    · have hil : i < len := by rwa [hlen] at hi
      have hspot : spot = none := by
        have h := (hq 0 (by omega)).2 0 _ rfl
        simpa [Addr.add] using World.cell?_spot h
      subst hspot
      refine ⟨b, off, rfl, ?_, fun k v hk => ?_⟩
      · have h := (hq i hil).2 0 _ rfl
        refine Classical.byContradiction fun hn => ?_
        rw [Addr.add_mid] at h
        simp [World.cell?, Array.getElem?_eq_none (Nat.le_of_not_lt hn)] at h
      · have h := (hq i hil).2 k v (by simpa using hk)
        rw [Addr.add_mid] at h
        rw [Nat.add_assoc]
        exact h
    · obtain ⟨i, hi, rfl⟩ := List.mem_map.1 hr
      exact (hq i (List.mem_range.1 hi)).1
end Go.Proofs.YtldjnegoefdadaaGreatDoor
