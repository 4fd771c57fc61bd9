/- A disk's sectors gone through: All as an iterator. -/
import Derived.RangeFuncNested
import Derived.RangeFuncBound
import Derived.RangeFuncCalls
import Derived.RangeFuncLeaves
import Derived.RangeFuncBox
import Derived.Shelf.Abstract
import Derived.Shelf.RegionOpen
import Derived.WalkKit
import Derived.OwnWalkIn
import Derived.TacticsInMore
import Derived.LoopNIn
import Derived.LoopIn
import Derived.Lib.OthersKept
import Derived.Deep.QuietTactic
import Derived.BigQuiet
import Derived.Test.YtiaaeniopjpfpaaGreatDoorKNil
namespace Go.Proofs.YtiaaeniopjpfpaaGreatDoor
open Go.RowKit Go.Maps Go.Shelf
set_option linter.unusedVariables false
set_option linter.unusedSimpArgs false
attribute [local go_sem] Oper.semAt_some

/-- What the iterator's rounds keep: its box, the disk's struct, the sectors. -/
def KeepsA (Bn p gl : Nat) (W W' : World) : Prop := W'.heap[Bn]? = W.heap[Bn]? ∧ W'.heap[p]? = W.heap[p]? ∧ W'.heap[gl]? = W.heap[gl]?
theorem keepsA_t {Bn p gl : Nat} {A B C : World} (h : KeepsA Bn p gl A B) (k : KeepsA Bn p gl B C) : KeepsA Bn p gl A C := ⟨k.1.trans h.1, k.2.1.trans h.2.1, k.2.2.trans h.2.2⟩
theorem keepsA_b {Bn p gl : Nat} {w : World} (hn : Bn < w.heap.size) (hp : p < w.heap.size) (hl : gl < w.heap.size) (W : World) (l : Nat) (o o' : Obj) (hw : w.heap.size ≤ l) (h : W.heap[l]? = some o) (h1 : o.isCells = false) (h2 : o.isWalk = false) : KeepsA Bn p gl W (W.putObj l o') :=
  ⟨World.putObj_heap_other (by omega), World.putObj_heap_other (by omega), World.putObj_heap_other (by omega)⟩
theorem keepsA_of {Bn p gl : Nat} {W W' : World} {L : Nat → Prop} (h : Keeps L W W') (h1 : L Bn) (h2 : L p) (h3 : L gl) (hn : Bn < W.heap.size) (hp : p < W.heap.size) (hl : gl < W.heap.size) : KeepsA Bn p gl W W' :=
  ⟨h.block _ hn h1, h.block _ hp h2, h.block _ hl h3⟩

theorem own_box {β : Type} (B : Nat) (t : TypeId) (f : β → Value) : Own (fun (s : β) W => Boxed W B t (f s)) := fun s X Y row h hg hrow =>
  h.kept hg (fun e => by
    obtain ⟨o, ho, hc⟩ := hrow B e.symm
    rw [show X.heap[B]? = _ from h] at ho
    cases ho
    cases hc)
/-- A sector's number. -/
abbrev Sn (n : Nat) := { x : Nat // x < n }
/-- What goes to the round. -/
def allArgs (rows : List (List UInt8)) (x : Sn rows.length) : Array Value := #[.int .i64 (x.1 : Nat), blkV (rows.getD x.1 [])]

theorem Sectors_row {W : World} {p gl n : Nat} {rest : List Value} (h : Row W p 81 (.slice (some ⟨gl, 0, none⟩) n n :: rest)) :
    Calls Tryz.prog 58 #[.pointer (some ⟨p, 0, none⟩)] W fun e w' => e = .returned (.int .i64 (n : Nat)) ∧ W = w' := by
  have c0 := h.cell 0
  simp only [List.getElem?_cons_zero] at c0
  clear h
  go_enter Tryz.func58, Tryz.ntmps58
  go_wp2
  go_ret
  exact ⟨rfl, rfl⟩
theorem rows_range {W : World} {gl : Nat} {rows : List (List UInt8)} (hr : Row W gl 90 (rows.flatten.map bv)) (h8 : ∀ b ∈ rows, b.length = 128) {i : Nat} (hi : i < rows.length) : W.rangeAt gl (i * 128) ((rows.getD i []).map bv) := by
  have hl := flat_length rows h8
  rw [← flat_mid rows h8 i hi]
  exact row_range hr (i * 128) 128 (by rw [List.length_map, hl]; omega)

theorem wpIn_load_eq {F : Fence} {n : Nat} {P : Program} {o : Oper} {a : Act} {w : World} {K : Act → World → Prop} {Q : Exit → Act → World → Prop} {ty : TypeId} {x : Operand} {g : Nat} {v : Value} {pv : Value} (ho : o.op = .load ty x)
    (hx : a.eval x = pv) (hl : (Instr.loadAt ty pv).run P w = .ok v w) (h : K (a.put o.dst v) w) : o.wpIn F n P a w K Q := by
  refine ⟨?_, ?_⟩
  · intro f hf
    unfold Oper.about at hf
    rw [ho] at hf
    cases hf
  · rw [Oper.semAt_eq _ _ _ (fun c e => by rw [ho] at e; cases e)]
    unfold execOp
    simp only [ho, hx, Sem.run_bind, hl, Sem.run_pure, Result.andThen_ok]
    exact h
theorem range_pre {a b : Nat} (h : a ≤ b) : List.range a <+: List.range b := by
  rw [List.range_eq_range', List.range_eq_range']
  refine ⟨List.range' a (b - a), ?_⟩
  have := List.range'_append (s := 0) (m := a) (n := b - a) (step := 1)
  rw [show 0 + 1 * a = a by omega, show a + (b - a) = b by omega] at this
  exact this
set_option maxRecDepth 100000 in
set_option maxHeartbeats 1000000 in
theorem All1_in (n : Nat) (hn : 1 ≤ n) (l Bn p gl : Nat) (rows : List (List UInt8)) (rest : List Value) (h8 : ∀ b ∈ rows, b.length = 128) (hm : rows.length ≤ 4096) (J Jx : List (Sn rows.length) → World → Prop)
    (hY : ∀ pre x W, J pre W → pre.length < rows.length → YieldAt Fence.wide (n - 1) Tryz.prog l (allArgs rows x) W fun e W' =>
      (e = .returned (.bool true) ∧ J (pre ++ [x]) W' ∧ KeepsA Bn p gl W W') ∨ (e = .returned (.bool false) ∧ Jx (pre ++ [x]) W'))
    (W : World) (hJ : AbidesFrom W.heap.size J) (hb : W.heap[Bn]? = some (.cells #[.pointer (some ⟨p, 0, none⟩)] 24 (0, 0)))
    (hp : Row W p 81 (.slice (some ⟨gl, 0, none⟩) rows.length rows.length :: rest)) (hg : Row W gl 90 (rows.flatten.map bv)) (h0 : J [] W) :
    CallsIn Fence.wide n Tryz.prog 94 #[.func (.yield l) #[] #[], .pointer (some ⟨Bn, 0, none⟩)] W fun e W' => (∃ v, e = .returned v) ∧
      ((∃ ys : List (Sn rows.length), ys.map Subtype.val = List.range rows.length ∧ J ys W') ∨ (∃ pre : List (Sn rows.length), pre.map Subtype.val <+: List.range rows.length ∧ Jx pre W')) := by
  have hc1 : W.cell? ⟨Bn, 0, none⟩ = some (.pointer (some ⟨p, 0, none⟩)) := by simp [World.cell?, hb]
  have HSec := Lib.hid (Sectors_row hp)
  have HW := Lib.hid (And.intro hp hg)
  have H8 := Lib.hid h8
  clear hp hg h8
  obtain ⟨N, hN⟩ : ∃ N, rows.length = N := ⟨_, rfl⟩
  have HN := Lib.hid hN
  rw [hN] at HSec hm
  refine callsIn_of_wp Tryz.func94 rfl trivial ?_ rfl
  simp only [Tryz.ntmps94, List.size_toArray, List.length_cons, List.length_nil, Nat.reduceAdd, Nat.reduceSub, Array.replicate_succ, Array.replicate_zero, List.push_toArray, List.append_toArray, List.nil_append, List.cons_append]
  gi_wp2_with (refine ⟨trivial, ?_⟩; gi_at_call 58; refine (callsIn_wide.2 HSec.out).mono ?_; rintro e w' ⟨rfl, rfl⟩)
  gi_loopw [6] (fun i wr => ∃ (pre : List (Sn rows.length)) (j : Nat), i = .int .i64 j ∧ j ≤ N ∧ pre.length = j ∧ wr.heap[Bn]? = some (.cells #[.pointer (some ⟨p, 0, none⟩)] 24 (0, 0)) ∧ wr.heap[p]? = W.heap[p]? ∧ wr.heap[gl]? = W.heap[gl]? ∧ Hid (pre.map Subtype.val = List.range j) ∧ J pre wr)
    (fun i _ => N - (intOf i).toNat)
  case atStart =>
    exact ⟨[], 0, rfl, Nat.zero_le _, rfl, hb, rfl, rfl, Lib.hid rfl, h0⟩
  case round =>
    obtain ⟨pre, j, rfl, hj, hpl, hx1, hx2, hx3, HX, hJs⟩ := hrel
    have hd1 : wr.cell? ⟨Bn, 0, none⟩ = some (.pointer (some ⟨p, 0, none⟩)) := by simp [World.cell?, hx1]
    by_cases hlt : j < N
    · have hlt' : j < rows.length := by omega
      have hrp : Row wr p 81 (.slice (some ⟨gl, 0, none⟩) rows.length rows.length :: rest) := hx2.trans HW.out.1
      have hrg : Row wr gl 90 (rows.flatten.map bv) := hx3.trans HW.out.2
      have c0 := hrp.cell 0
      simp only [List.getElem?_cons_zero] at c0
      rw [hN] at c0
      have hrange := rows_range hrg H8.out hlt'
      have hlen : (rows.getD j []).length = 128 := getD_len H8.out hlt'
      have hld := run_loadAt_mid (P := Tryz.prog) wr gl (j * 128) 90 ((rows.getD j []).map bv) _ hrange Tryz.underlying90 rfl (blk_sizeK _ hlen)
      have hnx : Hid ((pre ++ [(⟨j, hlt'⟩ : Sn rows.length)]).map Subtype.val = List.range (j + 1)) := Lib.hid (by
        rw [List.map_append, HX.out, List.range_succ]; rfl)
      obtain ⟨fn, tmps, assign, body, hy, hR⟩ := hY pre ⟨j, hlt'⟩ wr hJs (by omega)
      unfold allArgs blkV at hy
      dsimp only at hy
      obtain ⟨bl, hbl⟩ : ∃ bl, ((rows.getD j []).map bv).toArray = bl := ⟨_, rfl⟩
      rw [hbl] at hld hy
      have hltI : (j : Int) < (N : Int) := by omega
      clear hrange hlen hbl hrp hrg
      gi_wp2_with (refine wpIn_load_eq (g := gl) rfl rfl hld ?_)
      refine hR.mono ?_
      rintro e W3 (⟨rfl, hJ3, hk3⟩ | ⟨rfl, hJx3⟩)
      · gi_wp2
        go_roundw
        case rel => exact ⟨_, j + 1, by go_num, by omega, by simp [hpl], hk3.1.trans hx1, hk3.2.1.trans hx2, hk3.2.2.trans hx3, hnx, hJ3⟩
        case measure => simp [intOf]; omega
      · gi_wp2
        refine bodyPost_ret (results_none rfl _ _ _) rfl ?_
        exact ⟨⟨_, rfl⟩, .inr ⟨_, by rw [hnx.out]; exact range_pre (by omega), hJx3⟩⟩
    · have hX : Hid (pre.map Subtype.val = List.range rows.length) := Lib.hid (by rw [HX.out, hN]; congr 1; omega)
      gi_wp2
      go_end0
      exact ⟨⟨_, rfl⟩, .inl ⟨pre, hX.out, hJs⟩⟩

set_option maxHeartbeats 1000000 in
theorem All_in (n : Nat) (q : Option Addr) (w : World) :
    CallsIn Fence.wide n Tryz.prog 54 #[.pointer q] w fun e w' => e = .returned (.func (.func 94) #[] #[.pointer (some ⟨w.heap.size, 0, none⟩)]) ∧ w' = w.alloc (.cells #[.pointer q] 24) := by
  refine callsIn_of_wp Tryz.func54 rfl trivial ?_ rfl
  simp only [Tryz.ntmps54, List.size_toArray, List.length_cons, List.length_nil, Nat.reduceAdd, Nat.reduceSub, Array.replicate_succ, Array.replicate_zero, List.push_toArray, List.append_toArray, List.nil_append, List.cons_append]
  gi_wp2
  go_ret
  exact ⟨rfl, rfl⟩

theorem All_stops (n : Nat) (hn : 1 ≤ n) (Bn p gl : Nat) (rows : List (List UInt8)) (rest : List Value) (h8 : ∀ b ∈ rows, b.length = 128) (hm : rows.length ≤ 4096) (w : World)
    (hb : w.heap[Bn]? = some (.cells #[.pointer (some ⟨p, 0, none⟩)] 24 (0, 0)))
    (hp : Row w p 81 (.slice (some ⟨gl, 0, none⟩) rows.length rows.length :: rest)) (hg : Row w gl 90 (rows.flatten.map bv)) :
    SeqStopsK Fence.wide n Tryz.prog 94 #[.pointer (some ⟨Bn, 0, none⟩)] (allArgs rows) (KeepsA Bn p gl) (fun ys => ys.map Subtype.val = List.range rows.length) (fun pre => pre.map Subtype.val <+: List.range rows.length) rows.length w := fun l J Jx W hW hJ _ hY h0 => by
  refine (All1_in n hn l Bn p gl rows rest h8 hm J Jx hY W hJ ((hW.block Bn (Array.getElem?_eq_some_iff.1 hb).1).trans hb) ((hW.block p hp.lt).trans hp) ((hW.block gl hg.lt).trans hg) h0).mono ?_
  rintro e W' ⟨hv, (⟨ys, h, hj⟩ | ⟨pre, h, hj⟩)⟩
  · exact ⟨hv, .inl ⟨ys, h, hj⟩⟩
  · exact ⟨hv, .inr ⟨pre, h, hj⟩⟩

set_option maxRecDepth 100000 in
set_option maxHeartbeats 1000000 in
theorem All1_nil (n : Nat) (hn : 1 ≤ n) (l Bn : Nat) (W : World) (hb : W.heap[Bn]? = some (.cells #[.pointer none] 24 (0, 0))) :
    CallsIn Fence.wide n Tryz.prog 94 #[.func (.yield l) #[] #[], .pointer (some ⟨Bn, 0, none⟩)] W fun e W' => (∃ v, e = .returned v) ∧ W = W' := by
  have hc1 : W.cell? ⟨Bn, 0, none⟩ = some (.pointer none) := by simp [World.cell?, hb]
  refine callsIn_of_wp Tryz.func94 rfl trivial ?_ rfl
  simp only [Tryz.ntmps94, List.size_toArray, List.length_cons, List.length_nil, Nat.reduceAdd, Nat.reduceSub, Array.replicate_succ, Array.replicate_zero, List.push_toArray, List.append_toArray, List.nil_append, List.cons_append]
  gi_wp2_with (refine ⟨trivial, ?_⟩; gi_at_call 58; refine (callsIn_wide.2 Sectors_nil).mono ?_; rintro e w' ⟨rfl, rfl⟩)
  gi_loopw [6] (fun i wr => i = .int .i64 0 ∧ W = wr)
    (fun i _ => 0)
  case atStart =>
    exact ⟨rfl, rfl⟩
  case round =>
    obtain ⟨rfl, rfl⟩ := hrel
    gi_wp2
    go_end0
    exact ⟨⟨_, rfl⟩, rfl⟩
theorem All_stops_nil (n : Nat) (hn : 1 ≤ n) (Bn : Nat) (Kp : World → World → Prop) (w : World)
    (hb : w.heap[Bn]? = some (.cells #[.pointer none] 24 (0, 0))) :
    SeqStopsK Fence.wide n Tryz.prog 94 #[.pointer (some ⟨Bn, 0, none⟩)] (allArgs []) Kp (fun ys => ys = []) (fun pre => False) 0 w := fun l J Jx W hW hJ _ hY h0 => by
  refine (All1_nil n hn l Bn W ((hW.block Bn (Array.getElem?_eq_some_iff.1 hb).1).trans hb)).mono ?_
  rintro e W' ⟨hv, rfl⟩
  exact ⟨hv, .inl ⟨[], rfl, h0⟩⟩
end Go.Proofs.YtiaaeniopjpfpaaGreatDoor
