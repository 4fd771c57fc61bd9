/- Acts that came in. -/
import Derived.ProofKit
import Derived.OpenShut
import Derived.ShutString
import Derived.Deep.DeepHandedRow
import Derived.Deep.Slices
import Derived.Deep.Strs
import Derived.Test.YtcecibopanfmgaaKMem
namespace Go.Proofs.Ytcecibopanfmgaa
open Go.ChangeShapes Go.WideShapes Go.RowKit Go.Deep
set_option linter.unusedVariables false

/-- An act: what, where, which byte. -/
structure AC where
  what : Int
  place : Int
  byte : UInt8
instance : Inhabited AC := ⟨⟨0, 0, 0⟩⟩
/-- Its numbers are whole ones of 64 bits. -/
def AC.ok (a : AC) : Prop := (-9223372036854775808 ≤ a.what ∧ a.what ≤ 9223372036854775807) ∧ -9223372036854775808 ≤ a.place ∧ a.place ≤ 9223372036854775807
def AC.cells (a : AC) : List Value := [.int .i64 a.what, .int .i64 a.place, .int .u8 a.byte.toNat]

/-- v is a slice that holds the acts l. -/
def Acts (w : World) (v : Value) (l : List AC) : Prop :=
  ∃ a0 cap b off, v = .slice a0 l.length cap ∧ (0 < l.length → a0 = some ⟨b, off, none⟩ ∧ b < w.heap.size) ∧ ∀ j, j < l.length → (l.getD j default).ok ∧ w.rangeAt b (off + j * 3) (l.getD j default).cells

theorem Acts.below {B : Nat} {w w' : World} {v : Value} {l : List AC} (h : Acts w v l) (hB : w.heap.size ≤ B) (hb : Below B w w') : Acts w' v l := by
  obtain ⟨a0, cap, b, off, h1, h2, h3⟩ := h
  refine ⟨a0, cap, b, off, h1, fun h0 => ⟨(h2 h0).1, Nat.lt_of_lt_of_le (h2 h0).2 hb.size⟩, fun j hj => ⟨(h3 j hj).1, fun k v hv => ?_⟩⟩
  have h4 := (h2 (by omega)).2
  exact (hb.cell (p := ⟨b, off + j * 3 + k, none⟩) (by show b < B; omega)).trans ((h3 j hj).2 k v hv)

theorem acts_open {H : Type} {enc : TypeId × Value → H} {W : World} {a0 : Option Addr} {len cap fuel : Nat} {x : DataW H × List MemPlace}
    (hf : DataW.trod enc Try.prog W 0 (fun _ => true) true fuel 22 [.slice a0 len cap] = some x) : ∃ l, Acts W (.slice a0 len cap) l ∧ l.length ≤ 9223372036854775807 := by
  have c3 : Try.prog.cellsOf 31 = 3 := by kernel_rfl
  have ci : Try.prog.cellsOf 3 = 1 := by kernel_rfl
  have cb : Try.prog.cellsOf 5 = 1 := by kernel_rfl
  rcases open_slice Try.underlying22 hf with ⟨hcs, hx⟩ | ⟨a, len', cap', m, n, D, Pl, hcs, _, hl, hm, hz, hx, hcell⟩
  · simp at hcs
    obtain ⟨rfl, rfl, rfl⟩ := hcs
    exact ⟨[], ⟨none, 0, 0, 0, rfl, fun h => absurd h (by simp), fun j h => absurd h (by simp)⟩, by simp⟩
  · simp at hcs
    obtain ⟨rfl, rfl, rfl⟩ := hcs
    simp only [if_true] at hz
    obtain ⟨b, off, spot⟩ := a
    have each : ∀ i, i < len → ∃ q : AC, q.ok ∧ W.cell? ((⟨b, off, spot⟩ : Addr).add (i * 3)) = some (.int .i64 q.what) ∧ W.cell? ((⟨b, off, spot⟩ : Addr).add (i * 3 + 1)) = some (.int .i64 q.place) ∧ W.cell? ((⟨b, off, spot⟩ : Addr).add (i * 3 + 2)) = some (.int .u8 q.byte.toNat) := by
      intro i hi
      obtain ⟨cs', h1, h2⟩ := hcell i (by omega)
      rw [c3] at h1
      obtain ⟨_, hlen, hc⟩ := World.cells?_some h1
      obtain ⟨y0, y1, y2, k, _, _, t0, t1, t2⟩ := trod_struct3 Try.underlying31 h2
      match cs', hlen with
      | [v0, v1, v2], _ =>
        simp [ci, cb] at t0 t1 t2
        obtain ⟨n0, e0, _, w0⟩ := DataW.trod_int Try.underlying3 t0
        obtain ⟨n1, e1, _, w1⟩ := DataW.trod_int Try.underlying3 t1
        obtain ⟨n2, e2, _, w2⟩ := DataW.trod_int Try.underlying5 t2
        have g0 := hc 0 (by omega)
        have g1 := hc 1 (by omega)
        have g2 := hc 2 (by omega)
        rw [add_add] at g0 g1 g2
        simp at e0 e1 e2 g0 g1 g2
        have r0 : -9223372036854775808 ≤ n0 ∧ n0 ≤ 9223372036854775807 := by simpa [Lit.wf, IntKind.min, IntKind.max, IntKind.signed, IntKind.bits] using w0
        have r1 : -9223372036854775808 ≤ n1 ∧ n1 ≤ 9223372036854775807 := by simpa [Lit.wf, IntKind.min, IntKind.max, IntKind.signed, IntKind.bits] using w1
        have r2 : 0 ≤ n2 ∧ n2 ≤ 255 := by simpa [Lit.wf, IntKind.min, IntKind.max, IntKind.signed, IntKind.bits] using w2
        have e3 : ((UInt8.ofNat n2.toNat).toNat : Int) = n2 := by rw [UInt8.toNat_ofNat']; omega
        exact ⟨⟨n0, n1, UInt8.ofNat n2.toNat⟩, ⟨r0, r1⟩, by rw [g0, e0], by rw [g1, e1], by rw [g2, e2]; show some (Value.int IntKind.u8 n2) = some (Value.int IntKind.u8 ((UInt8.ofNat n2.toNat).toNat : Int)); rw [e3]⟩
    obtain ⟨q, hq⟩ := choose_lt each
    have hg : ∀ j, j < len → ((List.range len).map q).getD j default = q j := fun j hj => by
      rw [List.getD_eq_getElem?_getD, List.getElem?_map, List.getElem?_range hj]; rfl
    have hlen : ((List.range len).map q).length = len := by simp
    have hspot : 0 < len → spot = none := fun h0 => by simpa [Addr.add] using World.cell?_spot (hq 0 h0).2.1
    refine ⟨(List.range len).map q, ⟨some ⟨b, off, spot⟩, cap, b, off, by rw [hlen], fun h0 => ?_, fun j hj => ?_⟩, ?_⟩
    · rw [hlen] at h0
      obtain rfl := hspot h0
      have h := (hq 0 h0).2.1
      refine ⟨rfl, Classical.byContradiction fun hn => ?_⟩
      rw [show ((⟨b, off, none⟩ : Addr).add (0 * 3)) = ⟨b, off, none⟩ from rfl] at h
      simp [World.cell?, Array.getElem?_eq_none (Nat.le_of_not_lt hn)] at h
    · rw [hlen] at hj
      obtain rfl := hspot (by omega)
      rw [hg j hj]
      obtain ⟨h0, h1, h2, h3⟩ := hq j hj
      rw [add_plain] at h1 h2 h3
      refine ⟨h0, fun k v hv => ?_⟩
      unfold AC.cells at hv
      match k, hv with
      | 0, hv => simp at hv; subst hv; exact h1
      | 1, hv => simp at hv; subst hv; exact h2
      | 2, hv => simp at hv; subst hv; exact h3
      | k + 3, hv => simp at hv
    · rw [hlen]
      unfold maxLen at hm; omega
end Go.Proofs.Ytcecibopanfmgaa
