/- Counted texts gone through: octet.Parts as an iterator. -/
import Derived.RangeFuncNested
import Derived.RangeFuncBound
import Derived.RangeFuncCalls
import Derived.RangeFuncLeaves
import Derived.Shelf.Abstract
import Derived.Shelf.RegionOpen
import Derived.WalkKit
import Derived.OwnWalkIn
import Derived.TacticsInMore
import Derived.LoopNIn
import Derived.LoopIn
import Derived.Lib.Hide
import Derived.Deep.QuietTactic
import Derived.BigQuiet
import Derived.Test.YtioahofmjokbbaaCut
namespace Go.Proofs.Ytioahofmjokbbaa
open Go.RowKit Go.Shelf
set_option linter.unusedVariables false
attribute [local go_sem] Oper.semAt_some

/-- The counted texts that stand whole at a text's front, with fuel. -/
def partsF : Nat → ByteArray → List ByteArray
  | 0, _ => []
  | k + 1, s => if fits s then partB s :: partsF k (restB s) else []
def partsB (s : ByteArray) : List ByteArray := partsF s.size s

theorem restB_lt (s : ByteArray) (h : fits s = true) : (restB s).size + 4 + toldN s = s.size := by
  have h' := h
  unfold fits at h'
  simp only [Bool.and_eq_true, decide_eq_true_eq] at h'
  unfold restB
  rw [if_pos h, ByteArray.size_extract]
  omega

theorem partsF_enough : ∀ (k : Nat) (s : ByteArray), s.size ≤ k → partsF k s = partsF s.size s := by
  intro k
  induction k using Nat.strongRecOn with
  | _ k ih =>
    intro s hs
    cases hf : fits s with
    | false =>
      have e : ∀ j, partsF j s = [] := by intro j; cases j with
        | zero => rfl
        | succ j => simp [partsF, hf]
      rw [e, e]
    | true =>
      have hl := restB_lt s hf
      obtain ⟨j, hj⟩ : ∃ j, s.size = j + 1 := ⟨s.size - 1, by omega⟩
      obtain ⟨i, hi⟩ : ∃ i, k = i + 1 := ⟨k - 1, by omega⟩
      rw [hj, hi]
      simp only [partsF, hf, if_true]
      rw [ih i (by omega) (restB s) (by omega)]
      by_cases hji : j < k
      · rw [ih j hji (restB s) (by omega)]
      · omega

theorem partsB_fits (s : ByteArray) (h : fits s = true) : partsB s = partB s :: partsB (restB s) := by
  have hl := restB_lt s h
  obtain ⟨j, hj⟩ : ∃ j, s.size = j + 1 := ⟨s.size - 1, by omega⟩
  have e : partsB s = partB s :: partsF j (restB s) := by
    unfold partsB
    rw [hj]
    simp [partsF, h]
  rw [e, partsF_enough j _ (by omega)]
  rfl
theorem partsB_not (s : ByteArray) (h : fits s = false) : partsB s = [] := by
  unfold partsB
  cases s.size with
  | zero => rfl
  | succ j => simp [partsF, h]

def strSize : Value → Nat
  | .string s => s.size
  | _ => 0

theorem grownBy_drewN (W : World) (k : Nat) (row : Option Nat) : W.grownBy (W.drewN k) row := ⟨rfl, rfl, rfl, Nat.le_refl _, fun _ _ _ => rfl⟩

set_option maxRecDepth 100000 in
set_option maxHeartbeats 1000000 in
theorem Parts1_in (n : Nat) (hn : 1 ≤ n) (l Bn n₀ : Nat) (s : ByteArray) (hs : s.size ≤ 140737488355328) (J Jx : List ByteArray → World → Prop)
    (hY : ∀ pre x W, J pre W → pre.length < (partsB s).length → YieldAt Fence.wide (n - 1) Try.prog l #[.string x] W fun e W' =>
      (e = .returned (.bool true) ∧ J (pre ++ [x]) W' ∧ Below n₀ W W') ∨ (e = .returned (.bool false) ∧ Jx (pre ++ [x]) W'))
    (W : World) (hJ : AbidesFrom W.heap.size J) (hBn : W.cell? ⟨Bn, 0, none⟩ = some (.string s)) (h0 : J [] W) :
    CallsIn Fence.wide n Try.prog 25 #[.func (.yield l) #[] #[], .pointer (some ⟨Bn, 0, none⟩)] W fun e W' => (∃ v, e = .returned v) ∧
      ((∃ ys, ys = partsB s ∧ J ys W') ∨ (∃ pre, pre <+: partsB s ∧ Jx pre W')) := by
  refine callsIn_of_wp Try.func25 rfl trivial ?_ rfl
  simp only [Try.ntmps25, List.size_toArray, List.length_cons, List.length_nil, Nat.reduceAdd, Nat.reduceSub, Array.replicate_succ, Array.replicate_zero, List.push_toArray, List.append_toArray, List.nil_append, List.cons_append]
  gi_wp2
  gi_loopw [3] (fun p wr => ∃ (pre : List ByteArray) (q : ByteArray), p = .string q ∧ partsB s = pre ++ partsB q ∧ q.size ≤ 140737488355328 ∧ J pre wr)
    (fun p wr => strSize p)
  case atStart =>
    exact ⟨[], s, rfl, rfl, hs, h0⟩
  case round =>
    obtain ⟨pre, q, rfl, hx, hq, hJs⟩ := hrel
    cases hf : fits q with
    | false =>
      have HX := Lib.hid hx
      have HF := Lib.hid hf
      clear hx hf
      gi_wp2_with (refine ⟨trivial, ?_⟩; gi_at_call 20; refine (callsIn_wide.2 (Cut_any q _ hq)).mono ?_; rintro e w' ⟨⟨m, rfl⟩, rfl⟩; rw [HF.out])
      refine ⟨fun _ h => (by cases h), ?_⟩
      gi_wp2
      refine bodyPost_ret (results_none rfl _ _ _) rfl ?_
      exact ⟨⟨_, rfl⟩, .inl ⟨pre, by rw [HX.out, partsB_not q HF.out, List.append_nil], hJ _ _ _ none hJs (grownBy_drewN _ _ _) (fun r e => by cases e)⟩⟩
    | true =>
      have hsz := restB_lt q hf
      have hm : Hid (strSize (.string (restB q)) < strSize (.string q)) := Lib.hid (by show (restB q).size < q.size; omega)
      have hxq : partsB s = (pre ++ [partB q]) ++ partsB (restB q) := by rw [hx, partsB_fits q hf]; simp
      have hlen : pre.length < (partsB s).length := by rw [hxq]; simp
      have hY1 : ∀ m, YieldAt Fence.wide (n - 1) Try.prog l #[.string (partB q)] (wr.drewN m) fun e W' =>
          (e = .returned (.bool true) ∧ J (pre ++ [partB q]) W' ∧ Below n₀ (wr.drewN m) W') ∨ (e = .returned (.bool false) ∧ Jx (pre ++ [partB q]) W') :=
        fun m => hY pre (partB q) (wr.drewN m) (hJ _ _ _ none hJs (grownBy_drewN _ _ _) (fun r e => by cases e)) hlen
      have hqr : (restB q).size ≤ 140737488355328 := by omega
      have HX := Lib.hid hxq
      have HF := Lib.hid hf
      have HY := Lib.hid hY1
      clear hx hxq hf hsz hlen hY1 hY
      gi_wp2_with (refine ⟨trivial, ?_⟩; gi_at_call 20; refine (callsIn_wide.2 (Cut_any q _ hq)).mono ?_; rintro e w' ⟨⟨m, rfl⟩, rfl⟩; rw [HF.out]; obtain ⟨fn, tmps, assign, body, hy, hR⟩ := HY.out m)
      refine hR.mono ?_
      rintro e W3 (⟨rfl, hJ3, hk3⟩ | ⟨rfl, hJx3⟩)
      · gi_wp2
        go_roundw
        case rel => exact ⟨pre ++ [partB q], restB q, rfl, HX.out, hqr, hJ3⟩
        case measure => exact hm.out
      · gi_wp2
        refine bodyPost_ret (results_none rfl _ _ _) rfl ?_
        exact ⟨⟨_, rfl⟩, .inr ⟨pre ++ [partB q], ⟨partsB (restB q), HX.out.symm⟩, hJx3⟩⟩

set_option maxHeartbeats 1000000 in
theorem Parts_in (n : Nat) (s : ByteArray) (w : World) :
    CallsIn Fence.wide n Try.prog 17 #[.string s] w fun e w' => e = .returned (.func (.func 25) #[] #[.pointer (some ⟨w.heap.size, 0, none⟩)]) ∧ w' = w.alloc (.cells #[.string s] 9) := by
  refine callsIn_of_wp Try.func17 rfl trivial ?_ rfl
  simp only [Try.ntmps17, List.size_toArray, List.length_cons, List.length_nil, Nat.reduceAdd, Nat.reduceSub, Array.replicate_succ, Array.replicate_zero, List.push_toArray, List.append_toArray, List.nil_append, List.cons_append]
  gi_wp2
  go_ret
  exact ⟨rfl, rfl⟩

theorem Parts_stops (n : Nat) (hn : 1 ≤ n) (Bn n₀ : Nat) (s : ByteArray) (hs : s.size ≤ 140737488355328) (w : World) (hBn : Bn < w.heap.size)
    (hc : w.cell? ⟨Bn, 0, none⟩ = some (.string s)) :
    SeqStopsK Fence.wide n Try.prog 25 #[.pointer (some ⟨Bn, 0, none⟩)] (fun x : ByteArray => #[Value.string x]) (Below n₀) (fun ys => ys = partsB s) (fun pre => pre <+: partsB s) (partsB s).length w := fun l J Jx W hW hJ _ hY h0 =>
  Parts1_in n hn l Bn n₀ s hs J Jx hY W hJ ((hW.cell (p := ⟨Bn, 0, none⟩) hBn).trans hc) h0
end Go.Proofs.Ytioahofmjokbbaa
