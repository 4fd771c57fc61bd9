/- The digits' weights gone through: digits.weights as an iterator; what leans on it. -/
import Derived.RangeFuncNested
import Derived.RangeFuncBound
import Derived.RangeFuncCalls
import Derived.RangeFuncLeaves
import Derived.RangeFuncBox
import Derived.Maps.AppendAt
import Derived.Shelf.Abstract
import Derived.Shelf.RegionOpen
import Derived.WalkKit
import Derived.OwnWalkIn
import Derived.TacticsInMore
import Derived.LoopNIn
import Derived.LoopIn
import Derived.Lib.Hide
import Derived.Lib.OthersKept
import Derived.Deep.QuietTactic
import Derived.BigQuiet
import Derived.Test.YtlmbijhkpgolaaaDoorDSmall
namespace Go.Proofs.YtlmbijhkpgolaaaDoor
open Go.RowKit Go.Shelf
set_option linter.unusedVariables false
attribute [local go_sem] Oper.semAt_some

/-- What a round keeps of the iterator's: its two boxes. -/
def KeepsB (Bn : Nat) (W W' : World) : Prop := W'.heap[Bn]? = W.heap[Bn]? ∧ W'.heap[Bn + 1]? = W.heap[Bn + 1]?
theorem keepsB_t {Bn : Nat} {A B C : World} (h : KeepsB Bn A B) (k : KeepsB Bn B C) : KeepsB Bn A C := ⟨k.1.trans h.1, k.2.trans h.2⟩
theorem keepsB_b {Bn : Nat} {w : World} (hn : Bn + 1 < w.heap.size) (W : World) (l : Nat) (o o' : Obj) (hl : w.heap.size ≤ l) (h : W.heap[l]? = some o) (h1 : o.isCells = false) (hw : o.isWalk = false) : KeepsB Bn W (W.putObj l o') :=
  ⟨World.putObj_heap_other (by omega), World.putObj_heap_other (by omega)⟩
theorem keepsB_set {Bn B i : Nat} (W : World) (h : Bn ≠ B) (h1 : Bn + 1 ≠ B) (v : Value) : KeepsB Bn W (W.setCell ⟨B, i, none⟩ v) :=
  ⟨Below.heap_setCell W ⟨B, i, none⟩ v Bn h, Below.heap_setCell W ⟨B, i, none⟩ v (Bn + 1) h1⟩

theorem wl_snoc (b : Nat) {s : ByteArray} {j : Nat} (h : j < s.size) : wl b ((rv s).drop j) = wgt b ((rv s).getD j 0) :: wl (b + 1) ((rv s).drop (j + 1)) := by
  rw [rv_drop s j h]; rfl
theorem wl_stop (b : Nat) {s : ByteArray} {j : Nat} (h : s.size ≤ j) : wl b ((rv s).drop j) = [] := by
  rw [List.drop_eq_nil_of_le (by rw [rv_length]; exact h)]; rfl

/-- A weight. -/
abbrev Wn := { x : Nat // x ≤ 9 }

set_option maxRecDepth 100000 in
set_option maxHeartbeats 1000000 in
theorem weights1_in (n : Nat) (hn : 1 ≤ n) (l Bn b : Nat) (s : ByteArray) (hs : s.size ≤ 1000) (hb : b ≤ 1) (hD : isD s = true) (J Jx : List Wn → World → Prop)
    (hY : ∀ pre x W, J pre W → pre.length < s.size → YieldAt Fence.wide (n - 1) Tryd.prog l #[.int .i64 (x.1 : Nat)] W fun e W' =>
      (e = .returned (.bool true) ∧ J (pre ++ [x]) W' ∧ KeepsB Bn W W') ∨ (e = .returned (.bool false) ∧ Jx (pre ++ [x]) W'))
    (W : World) (hJ : AbidesFrom W.heap.size J) (hb1 : W.heap[Bn]? = some (.cells #[.string s] 9 (0, 0))) (hb2 : W.heap[Bn + 1]? = some (.cells #[.int .i64 b] 3 (0, 0))) (h0 : J [] W) :
    CallsIn Fence.wide n Tryd.prog 80 #[.func (.yield l) #[] #[], .pointer (some ⟨Bn, 0, none⟩), .pointer (some ⟨Bn + 1, 0, none⟩)] W fun e W' => (∃ v, e = .returned v) ∧
      ((∃ ys : List Wn, ys.map Subtype.val = wl b (rv s) ∧ J ys W') ∨ (∃ pre : List Wn, pre.map Subtype.val <+: wl b (rv s) ∧ Jx pre W')) := by
  have hc1 : W.cell? ⟨Bn, 0, none⟩ = some (.string s) := by simp [World.cell?, hb1]
  have hc2 : W.cell? ⟨Bn + 1, 0, none⟩ = some (.int .i64 b) := by simp [World.cell?, hb2]
  have HD := Lib.hid hD
  clear hD
  refine callsIn_of_wp Tryd.func80 rfl trivial ?_ rfl
  simp only [Tryd.ntmps80, List.size_toArray, List.length_cons, List.length_nil, Nat.reduceAdd, Nat.reduceSub, Array.replicate_succ, Array.replicate_zero, List.push_toArray, List.append_toArray, List.nil_append, List.cons_append]
  gi_wp2
  gi_loopw [8] (fun i wr => ∃ (pre : List Wn) (j : Nat), i = .int .i64 j ∧ j ≤ s.size ∧ pre.length = j ∧ wr.heap[Bn]? = some (.cells #[.string s] 9 (0, 0)) ∧ wr.heap[Bn + 1]? = some (.cells #[.int .i64 b] 3 (0, 0)) ∧ Hid (wl b (rv s) = pre.map Subtype.val ++ wl (b + j) ((rv s).drop j)) ∧ J pre wr)
    (fun i _ => s.size - (intOf i).toNat)
  case atStart =>
    exact ⟨[], 0, rfl, Nat.zero_le _, rfl, hb1, hb2, Lib.hid rfl, h0⟩
  case round =>
    obtain ⟨pre, j, rfl, hj, hpl, hx1, hx2, HX, hJs⟩ := hrel
    have hd1 : wr.cell? ⟨Bn, 0, none⟩ = some (.string s) := by simp [World.cell?, hx1]
    have hd2 : wr.cell? ⟨Bn + 1, 0, none⟩ = some (.int .i64 b) := by simp [World.cell?, hx2]
    by_cases hlt : j < s.size
    · have hix := run_index_str_d (P := Tryd.prog) 9 s (s.size - 1 - j) Tryd.underlying9 (by omega)
      rw [← rv_get s j hlt] at hix
      have hstep := wl_snoc (b + j) hlt
      have hdg := rv_dig HD.out j hlt
      generalize hcc : (rv s).getD j 0 = c at hix hstep hdg
      have hq : ((s.size - 1 - j : Nat) : Int) = (s.size : Int) - 1 - (j : Int) := by omega
      rw [hq] at hix
      have hc := (isDig_iff _).1 hdg
      have h48 : (48 : Int) ≤ (c.toNat : Int) := by omega
      have h57 : (c.toNat : Int) ≤ 57 := by omega
      have hdv : ((dv c : Nat) : Int) = (c.toNat : Int) - 48 := by unfold dv; omega
      have hd9 := dv_le hdg
      have hw9 := wgt_le (b + j) hdg
      have hnx : Hid (wl b (rv s) = (pre ++ [(⟨wgt (b + j) c, hw9⟩ : Wn)]).map Subtype.val ++ wl (b + (j + 1)) ((rv s).drop (j + 1))) := Lib.hid (by
        rw [HX.out, hstep]; simp; congr 1)
      by_cases hpar : (b + j) % 2 = 1
      · have hp : ((j : Int) + (b : Int)) % 2 = 1 := by omega
        obtain ⟨fn, tmps, assign, body, hy, hR⟩ := hY pre ⟨wgt (b + j) c, hw9⟩ wr hJs (by omega)
        dsimp only at hy
        rw [wgt_odd c hpar] at hy
        have hdb := doubled_any (dv c) wr hd9
        rw [hdv] at hdb
        clear hstep hq hdg hcc hc
        gi_wp2_with (refine ⟨trivial, ?_⟩; gi_at_call 81; refine (callsIn_wide.2 hdb).mono ?_; rintro e w' ⟨rfl, rfl⟩)
        refine hR.mono ?_
        rintro e W3 (⟨rfl, hJ3, hk3⟩ | ⟨rfl, hJx3⟩)
        · gi_wp2
          go_roundw
          case rel => exact ⟨_, j + 1, by go_num, by omega, by simp [hpl], hk3.1.trans hx1, hk3.2.trans hx2, hnx, hJ3⟩
          case measure => simp [intOf]; omega
        · gi_wp2
          refine bodyPost_ret (results_none rfl _ _ _) rfl ?_
          exact ⟨⟨_, rfl⟩, .inr ⟨_, ⟨_, hnx.out.symm⟩, hJx3⟩⟩
      · have hp : ((j : Int) + (b : Int)) % 2 = 0 := by omega
        obtain ⟨fn, tmps, assign, body, hy, hR⟩ := hY pre ⟨wgt (b + j) c, hw9⟩ wr hJs (by omega)
        dsimp only at hy
        rw [wgt_even c hpar, hdv] at hy
        clear hstep hq hdg hcc hc
        gi_wp2
        refine hR.mono ?_
        rintro e W3 (⟨rfl, hJ3, hk3⟩ | ⟨rfl, hJx3⟩)
        · gi_wp2
          go_roundw
          case rel => exact ⟨_, j + 1, by go_num, by omega, by simp [hpl], hk3.1.trans hx1, hk3.2.trans hx2, hnx, hJ3⟩
          case measure => simp [intOf]; omega
        · gi_wp2
          refine bodyPost_ret (results_none rfl _ _ _) rfl ?_
          exact ⟨⟨_, rfl⟩, .inr ⟨_, ⟨_, hnx.out.symm⟩, hJx3⟩⟩
    · have hX : Hid (pre.map Subtype.val = wl b (rv s)) := Lib.hid (by rw [HX.out, wl_stop (b + j) (by omega), List.append_nil])
      gi_wp2
      go_end0
      exact ⟨⟨_, rfl⟩, .inl ⟨pre, hX.out, hJs⟩⟩

set_option maxHeartbeats 1000000 in
theorem weights_in (n b : Nat) (s : ByteArray) (w : World) :
    CallsIn Fence.wide n Tryd.prog 66 #[.string s, .int .i64 b] w fun e w' => e = .returned (.func (.func 80) #[] #[.pointer (some ⟨w.heap.size, 0, none⟩), .pointer (some ⟨w.heap.size + 1, 0, none⟩)]) ∧ w' = (w.alloc (.cells #[.string s] 9)).alloc (.cells #[.int .i64 b] 3) := by
  refine callsIn_of_wp Tryd.func66 rfl trivial ?_ rfl
  simp only [Tryd.ntmps66, List.size_toArray, List.length_cons, List.length_nil, Nat.reduceAdd, Nat.reduceSub, Array.replicate_succ, Array.replicate_zero, List.push_toArray, List.append_toArray, List.nil_append, List.cons_append]
  gi_wp2
  go_ret
  exact ⟨rfl, rfl⟩

theorem weights_stops (n : Nat) (hn : 1 ≤ n) (Bn b : Nat) (s : ByteArray) (hs : s.size ≤ 1000) (hb : b ≤ 1) (hD : isD s = true) (w : World)
    (h1 : w.heap[Bn]? = some (.cells #[.string s] 9 (0, 0))) (h2 : w.heap[Bn + 1]? = some (.cells #[.int .i64 b] 3 (0, 0))) :
    SeqStopsK Fence.wide n Tryd.prog 80 #[.pointer (some ⟨Bn, 0, none⟩), .pointer (some ⟨Bn + 1, 0, none⟩)] (fun x : Wn => #[.int .i64 (x.1 : Nat)]) (KeepsB Bn) (fun ys => ys.map Subtype.val = wl b (rv s)) (fun pre => pre.map Subtype.val <+: wl b (rv s)) s.size w := fun l J Jx W hW hJ _ hY h0 => by
  refine (weights1_in n hn l Bn b s hs hb hD J Jx hY W hJ ((hW.block Bn (Array.getElem?_eq_some_iff.1 h1).1).trans h1) ((hW.block (Bn + 1) (Array.getElem?_eq_some_iff.1 h2).1).trans h2) h0).mono ?_
  rintro e W' ⟨hv, (⟨ys, h, hj⟩ | ⟨pre, h, hj⟩)⟩
  · exact ⟨hv, .inl ⟨ys, h, hj⟩⟩
  · exact ⟨hv, .inr ⟨pre, h, hj⟩⟩

theorem own_box {β : Type} (B : Nat) (t : TypeId) (f : β → Value) : Own (fun (s : β) W => Boxed W B t (f s)) := fun s X Y row h hg hrow =>
  h.kept hg (fun e => by
    obtain ⟨o, ho, hc⟩ := hrow B e.symm
    rw [show X.heap[B]? = _ from h] at ho
    cases ho
    cases hc)

/-- The sum of weights, modulo 10. -/
def sumW (l : List Wn) : Nat := (l.map Subtype.val).sum % 10
theorem sumW_snoc (l : List Wn) (x : Wn) : sumW (l ++ [x]) = (sumW l + x.1) % 10 := by
  unfold sumW
  rw [List.map_append, List.sum_append]
  simp
theorem sumW_lt (l : List Wn) : sumW l < 10 := Nat.mod_lt _ (by omega)

set_option maxRecDepth 100000 in
set_option maxHeartbeats 1000000 in
theorem weighed_any (s : ByteArray) (b : Nat) (w : World) (hs : s.size ≤ 1000) (hb : b ≤ 1) (hD : isD s = true) :
    Calls Tryd.prog 52 #[.string s, .int .i64 b] w fun e w' => e = .returned (.int .i64 (wsB b s % 10 : Nat)) ∧ Below w.heap.size w w' := by
  refine (callsIn_wide (n := 6)).1 ?_
  refine callsIn_of_wp_marks Tryd.func52 rfl trivial ?_ rfl
  simp only [Tryd.ntmps52, List.size_toArray, List.length_cons, List.length_nil, Nat.reduceAdd, Nat.reduceSub, Array.replicate_succ, Array.replicate_zero, List.push_toArray, List.append_toArray, List.nil_append, List.cons_append]
  rw [wpIn_wide]
  go_wp2_with fail
  refine ((callsIn_wide (n := 0)).1 (weights_in 0 b s _)).mono ?_
  rintro e w2 ⟨rfl, rfl⟩
  go_wp2_with fail
  have bC := Boxed.new w 3 (.int .i64 0)
  have bN := Boxed.new (w.alloc (.cells #[.int .i64 0] 3)) 9 (.string s)
  have bM := Boxed.new ((w.alloc (.cells #[.int .i64 0] 3)).alloc (.cells #[.string s] 9)) 3 (.int .i64 b)
  rw [World.size_alloc] at bN bM
  rw [World.size_alloc] at bM
  have hB1 : Below w.heap.size w (((w.alloc (.cells #[.int .i64 0] 3)).alloc (.cells #[.string s] 9)).alloc (.cells #[.int .i64 b] 3)) := (((Below.refl _ _).alloc (Nat.le_refl _) _).alloc (by simp) _).alloc (by simp; omega) _
  rw [← wpIn_wide (n := 6)]
  refine' wpIn_rangeFunc_ownG rfl (by omega) (gf := 80) (lb := #[.pointer (some ⟨w.heap.size + 1, 0, none⟩), .pointer (some ⟨w.heap.size + 1 + 1, 0, none⟩)]) rfl trivial (enters_of Tryd.func80 (by kernel_rfl) rfl)
    (weights_stops 5 (by omega) (w.heap.size + 1) b s hs hb hD _ (bN.alloc _) bM) keepsB_t (keepsB_b (by simp)) (Below.refl _ _) (fun _ => rfl)
    (fun pre W => Boxed W w.heap.size 3 (.int .i64 (sumW pre : Nat)) ∧ Below w.heap.size w W)
    (fun _ _ _ => False)
    (OwnFrom.and (Own.from (own_box _ _ _) _) (ownFrom_below (Nat.le_refl _) (by simp; omega)))
    (fun _ _ _ _ _ hs _ _ => hs)
    ⟨(bC.alloc _).alloc _, hB1⟩
    _ _ _ _ _
  case refine'_2 =>
    intro l x W K hK
    gi_wp2
    exact hK
  case refine'_5 =>
    rintro D c pre W _ _ h _
    exact h.elim
  case refine'_3 =>
    rintro l' pre x W ⟨hv, hB⟩ hlt
    have hc := hv.cell
    have hf := hv.frozen
    have h10 := sumW_lt pre
    have hx9 := x.2
    have hsn := Lib.hid (sumW_snoc pre x)
    gi_wp2
    refine ⟨(KeepsOthers.setCell _ _ _).from _, keepsB_set _ (by omega) (by omega) _, ?_, hB.setCell (p := ⟨w.heap.size, 0, none⟩) (Nat.le_refl _) _⟩
    have h := hv.set (.int .i64 ((((sumW pre : Nat) : Int) + ((x.1 : Nat) : Int)) % 10))
    rw [hsn.out]
    exact h
  case refine'_4 =>
    rintro D ys W hD hys ⟨hv, hB⟩ hK
    have hc := hv.cell
    go_wp2_with fail
    have hl : sumW ys = wsB b s % 10 := by unfold sumW; rw [hys, wl_sum]; rfl
    rw [← hl]
    refine ⟨by simp, .inl ⟨_, _, rfl, run_takeDeferred hK, ?_⟩⟩
    exact ⟨_, results_tmp rfl _ _ _, rfl, hB.trans (belowK_b (w := w) (Nat.le_refl _) W D _ _ (by simp at hD; omega) hK rfl rfl)⟩
end Go.Proofs.YtlmbijhkpgolaaaDoor
