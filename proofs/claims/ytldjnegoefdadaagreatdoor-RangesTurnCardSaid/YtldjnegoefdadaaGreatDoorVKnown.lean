/- The versions that are talked: the program's variable, Known as an iterator. -/
import Derived.RangeFuncNested
import Derived.RangeFuncBound
import Derived.RangeFuncCalls
import Derived.RangeFuncLeaves
import Derived.RangeFuncBox
import Derived.OwnWalkIn
import Derived.TacticsInMore
import Derived.LoopNIn
import Derived.LoopIn
import Derived.Lib.OthersKept
import Derived.Shelf.Abstract
import Derived.Shelf.RegionOpen
import Derived.Maps.AppendAt
import Derived.Test.YtldjnegoefdadaaGreatDoorVWithin
namespace Go.Proofs.YtldjnegoefdadaaGreatDoor
open Go.RowKit Go.Shelf
set_option linter.unusedVariables false
set_option linter.unusedSimpArgs false
attribute [local go_sem] Oper.semAt_some

/-- The program's variable. -/
def NV (w : World) : Prop := ∃ t fr, w.heap[0]? = some (.cells #[.int .u16 2, .int .u16 1, .int .u16 0, .int .u16 2, .int .u16 2, .int .u16 0] t fr)
theorem NV.lt {w : World} (h : NV w) : 0 < w.heap.size := by
  obtain ⟨t, fr, h⟩ := h
  exact (Array.getElem?_eq_some_iff.1 h).1
theorem NV.below {w w' : World} (h : NV w) (hb : Below w.heap.size w w') : NV w' := by
  obtain ⟨t, fr, h⟩ := h
  exact ⟨t, fr, (hb.block _ (Array.getElem?_eq_some_iff.1 h).1).trans h⟩
theorem NV.cells {w : World} (h : NV w) : w.cell? ⟨0, 0, none⟩ = some (.int .u16 2) ∧ w.cell? ⟨0, 1, none⟩ = some (.int .u16 1) ∧ w.cell? ⟨0, 2, none⟩ = some (.int .u16 0) ∧
    w.cell? ⟨0, 3, none⟩ = some (.int .u16 2) ∧ w.cell? ⟨0, 4, none⟩ = some (.int .u16 2) ∧ w.cell? ⟨0, 5, none⟩ = some (.int .u16 0) := by
  obtain ⟨t, fr, h⟩ := h
  have hc := fun k => cell_of_row w 0 k _ t fr h
  exact ⟨hc 0, hc 1, hc 2, hc 3, hc 4, hc 5⟩

def kV : List V3 := [(2, 1, 0), (2, 2, 0)]
abbrev encV (x : V3) : Array Value := #[.agg #[.int .u16 x.1, .int .u16 x.2.1, .int .u16 x.2.2]]
def KT (_ _ : World) : Prop := True
theorem grownBy_belowV {W W' : World} (h : Below W.heap.size W W') (row : Option Nat) : W.grownBy W' row := ⟨h.os, h.tape, h.output, h.size, fun j hj _ => h.block j hj⟩

theorem idx6 (W : World) :
    (Instr.index 167 (.agg #[.int .u16 2, .int .u16 1, .int .u16 0, .int .u16 2, .int .u16 2, .int .u16 0]) (.int .i64 0)).run Tryz.prog W = .ok (.agg #[.int .u16 2, .int .u16 1, .int .u16 0]) W ∧
    (Instr.index 167 (.agg #[.int .u16 2, .int .u16 1, .int .u16 0, .int .u16 2, .int .u16 2, .int .u16 0]) (.int .i64 1)).run Tryz.prog W = .ok (.agg #[.int .u16 2, .int .u16 2, .int .u16 0]) W := by
  refine ⟨?_, ?_⟩
  all_goals simp [Instr.index, run_underlying Tryz.underlying167, asIntOf, part, Tryz.sizeOf130, Tryz.isAgg130]

set_option maxRecDepth 100000 in
set_option maxHeartbeats 1000000 in
theorem Known1_in (n : Nat) (hn : 1 ≤ n) (l : Nat) (J Jx : List V3 → World → Prop)
    (hY : ∀ pre x W, J pre W → (pre ++ [x]) <+: kV → YieldAt Fence.wide (n - 1) Tryz.prog l (encV x) W fun e W' =>
      (e = .returned (.bool true) ∧ J (pre ++ [x]) W' ∧ KT W W') ∨ (e = .returned (.bool false) ∧ Jx (pre ++ [x]) W'))
    (W : World) (hJ : AbidesFrom W.heap.size J) (hN : NV W) (h0 : J [] W) :
    CallsIn Fence.wide n Tryz.prog 109 #[.func (.yield l) #[] #[]] W fun e W' => (∃ v, e = .returned v) ∧
      ((∃ ys, ys = kV ∧ J ys W') ∨ (∃ pre, pre <+: kV ∧ Jx pre W')) := by
  obtain ⟨c0, c1, c2, c3, c4, c5⟩ := hN.cells
  have hi0 := fun W => (idx6 W).1
  have hi1 := fun W => (idx6 W).2
  refine callsIn_of_wp Tryz.func109 rfl trivial ?_ rfl
  simp only [Tryz.ntmps109, List.size_toArray, List.length_cons, List.length_nil, Nat.reduceAdd, Nat.reduceSub, Array.replicate_succ, Array.replicate_zero, List.push_toArray, List.append_toArray, List.nil_append, List.cons_append]
  gi_wp2
  gi_loopw [5] (fun i wr => ∃ j : Nat, j ≤ 2 ∧ i = .int .i64 j ∧ J (kV.take j) wr) (fun i _ => 3 - (intOf i).toNat)
  case atStart => exact ⟨0, Nat.zero_le _, rfl, h0⟩
  case round =>
    obtain ⟨j, hj, rfl, hJr⟩ := hrel
    clear c0 c1 c2 c3 c4 c5
    have HJ : Hid (∀ w2, Below wr.heap.size wr w2 → J (kV.take j) w2) := Lib.hid fun w2 hb => hJ _ wr w2 none hJr (grownBy_belowV hb none) (fun r e => by cases e)
    rcases (by omega : j = 0 ∨ j = 1 ∨ j = 2) with rfl | rfl | rfl
    · have hbw : Below wr.heap.size wr (wr.alloc (.cells #[.int .u16 2, .int .u16 1, .int .u16 0] 130)) := (Below.refl _ _).alloc (Nat.le_refl _) _
      obtain ⟨fn, tmps, assign, body, hy, hR⟩ := hY [] (2, 1, 0) _ (HJ.out _ hbw) ⟨[(2, 2, 0)], rfl⟩
      dsimp only [encV] at hy
      change (Instr.yield l #[.agg #[.int .u16 2, .int .u16 1, .int .u16 0]]).run Tryz.prog _ = _ at hy
      have HR := Lib.hid hR
      clear hJr hY hR hbw
      gi_wp2
      refine HR.out.mono ?_
      rintro e W3 (⟨rfl, hJ3, hk3⟩ | ⟨rfl, hJx3⟩)
      · gi_wp2
        exact ⟨⟨1, by omega, rfl, hJ3⟩, by simp [intOf]⟩
      · gi_wp2
        refine bodyPost_ret (results_none rfl _ _ _) rfl ?_
        exact ⟨⟨_, rfl⟩, .inr ⟨_, ⟨[(2, 2, 0)], rfl⟩, hJx3⟩⟩
    · have hbw : Below wr.heap.size wr (wr.alloc (.cells #[.int .u16 2, .int .u16 2, .int .u16 0] 130)) := (Below.refl _ _).alloc (Nat.le_refl _) _
      obtain ⟨fn, tmps, assign, body, hy, hR⟩ := hY [(2, 1, 0)] (2, 2, 0) _ (HJ.out _ hbw) ⟨[], rfl⟩
      dsimp only [encV] at hy
      change (Instr.yield l #[.agg #[.int .u16 2, .int .u16 2, .int .u16 0]]).run Tryz.prog _ = _ at hy
      have HR := Lib.hid hR
      clear hJr hY hR hbw
      gi_wp2
      refine HR.out.mono ?_
      rintro e W3 (⟨rfl, hJ3, hk3⟩ | ⟨rfl, hJx3⟩)
      · gi_wp2
        exact ⟨⟨2, by omega, rfl, hJ3⟩, by simp [intOf]⟩
      · gi_wp2
        refine bodyPost_ret (results_none rfl _ _ _) rfl ?_
        exact ⟨⟨_, rfl⟩, .inr ⟨_, ⟨[], rfl⟩, hJx3⟩⟩
    · gi_wp2
      go_end0
      exact ⟨⟨_, rfl⟩, .inl ⟨kV, rfl, hJr⟩⟩

set_option maxHeartbeats 1000000 in
theorem Known_in (n : Nat) (w : World) :
    CallsIn Fence.wide n Tryz.prog 95 #[] w fun e w' => e = .returned (.func (.func 109) #[] #[]) ∧ w' = w := by
  refine callsIn_of_wp Tryz.func95 rfl trivial ?_ rfl
  simp only [Tryz.ntmps95, List.size_toArray, List.length_cons, List.length_nil, Nat.reduceAdd, Nat.reduceSub, Array.replicate_succ, Array.replicate_zero, List.push_toArray, List.append_toArray, List.nil_append, List.cons_append]
  gi_wp2
  go_ret
  exact ⟨rfl, rfl⟩

/-- A version that is talked. -/
abbrev Kv := { v : V3 // v ∈ kV }
theorem Known_stops (n : Nat) (hn : 1 ≤ n) (w : World) (hN : NV w) :
    SeqStopsK Fence.wide n Tryz.prog 109 #[] (fun x : Kv => encV x.1) KT (fun ys => ys.map Subtype.val = kV) (fun pre => pre.map Subtype.val <+: kV) 2 w := fun l J Jx W hW hJ _ hY h0 => by
  refine (Known1_in n hn l (fun pre W => ∃ p : List Kv, p.map Subtype.val = pre ∧ J p W) (fun pre W => ∃ p : List Kv, p.map Subtype.val = pre ∧ Jx p W) ?_ W (fun s A B row h hg hr => by
    obtain ⟨p, hp, hj⟩ := h
    exact ⟨p, hp, hJ p A B row hj hg hr⟩) (hN.below hW) ⟨[], rfl, h0⟩).mono ?_
  · rintro pre x W1 ⟨p, rfl, hp⟩ hpre
    have hx : x ∈ kV := hpre.subset (by simp)
    have hlen : p.length < 2 := by
      have h1 := hpre.length_le
      rw [List.length_append, List.length_map, show kV.length = 2 from rfl, List.length_singleton] at h1
      omega
    obtain ⟨fn, tmps, assign, body, hy, hR⟩ := hY p ⟨x, hx⟩ W1 hp hlen
    refine ⟨fn, tmps, assign, body, hy, hR.mono ?_⟩
    rintro e W' (⟨h1, h2, h3⟩ | ⟨h1, h2⟩)
    · exact .inl ⟨h1, ⟨_, by simp, h2⟩, h3⟩
    · exact .inr ⟨h1, ⟨_, by simp, h2⟩⟩
  · rintro e W' ⟨hv, (⟨ys, rfl, p, hp, hj⟩ | ⟨pre, hpre, p, rfl, hj⟩)⟩
    · exact ⟨hv, .inl ⟨p, hp, hj⟩⟩
    · exact ⟨hv, .inr ⟨p, hpre, hj⟩⟩
end Go.Proofs.YtldjnegoefdadaaGreatDoor
