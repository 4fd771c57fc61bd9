/- A text's code points gone through: utf.Runes as an iterator. -/
import Derived.RangeFuncNested
import Derived.RangeFuncBound
import Derived.RangeFuncCalls
import Derived.RangeFuncLeaves
import Derived.Shelf.Abstract
import Derived.Shelf.RegionOpen
import Derived.WalkKit
import Derived.OwnWalkIn
import Derived.TacticsInMore
import Derived.LoopNIn
import Derived.LoopIn
import Derived.Lib.Hide
import Derived.Lib.OthersKept
import Derived.Deep.QuietTactic
import Derived.BigQuiet
import Derived.Test.YtheidjnapoipaaaGreatDoorUSmall
namespace Go.Proofs.YtheidjnapoipaaaGreatDoor
open Go.RowKit Go.Shelf
set_option linter.unusedVariables false
attribute [local go_sem] Oper.semAt_some

/-- Does a text begin with the replacement character? -/
def isRep (q : ByteArray) : Bool := decide (3 ≤ q.size) && decide (q.extract 0 3 = ⟨#[239, 191, 189]⟩)

theorem str_eqB {x y : ByteArray} : (x.toList == y.toList) = decide (x = y) := by
  rw [Bool.eq_iff_iff, beq_iff_eq, decide_eq_true_eq]
  constructor
  · intro e
    rw [ByteArray.toList_eq, ByteArray.toList_eq] at e
    exact ByteArray.ext (Array.toList_inj.mp e)
  · intro e; rw [e]

set_option maxHeartbeats 400000 in
set_option maxRecDepth 20000 in
theorem HasPrefix_any (q : ByteArray) (w : World) :
    Calls Tryz.prog 82 #[.string q, .string ⟨#[239, 191, 189]⟩] w fun e w' => e = .returned (.bool (isRep q)) ∧ w = w' := by
  by_cases h3 : 3 ≤ q.size
  · have h3i : (3 : Int) ≤ (q.size : Int) := by omega
    have E : Hid (((q.extract 0 3).toList == [239, 191, 189]) = isRep q) := Lib.hid (by
      have h := str_eqB (x := q.extract 0 3) (y := ⟨#[239, 191, 189]⟩)
      have e : (ByteArray.mk #[239, 191, 189]).toList = [239, 191, 189] := by rw [ByteArray.toList_eq]
      rw [e] at h
      rw [h]
      unfold isRep
      rw [decide_eq_true h3, Bool.true_and])
    go_enter Tryz.func82, Tryz.ntmps82
    go_wp2
    go_ret
    exact ⟨ret_boolE_u E.out, rfl⟩
  · have h3i : (q.size : Int) < 3 := by omega
    have E : Hid (false = isRep q) := Lib.hid (by
      unfold isRep
      rw [decide_eq_false h3]; rfl)
    go_enter Tryz.func82, Tryz.ntmps82
    go_wp2
    go_ret
    exact ⟨ret_boolE_u E.out, rfl⟩

theorem enc_rep : enc 65533 = [239, 191, 189] := by decide +kernel
theorem isRep_some {q : ByteArray} {n : Nat} (h : dec q.data.toList = some (65533, n)) : isRep q = true := by
  obtain ⟨_, rfl, e⟩ := dec_some h
  rw [enc_rep] at e
  have hl := congrArg List.length e
  simp at hl
  unfold isRep
  rw [decide_eq_true (by omega : 3 ≤ q.size), Bool.true_and, decide_eq_true_eq]
  rw [ByteArray.ext_iff, ← Array.toList_inj, ByteArray.data_extract, Array.toList_extract, List.extract_eq_take_drop, List.drop_zero, e]
  rfl
theorem isRep_none {q : ByteArray} (h : dec q.data.toList = none) : isRep q = false := by
  cases hr : isRep q with
  | false => rfl
  | true =>
    exfalso
    unfold isRep at hr
    rw [Bool.and_eq_true, decide_eq_true_eq, decide_eq_true_eq] at hr
    have e : q.data.toList = enc 65533 ++ q.data.toList.drop 3 := by
      have h2 := congrArg (fun b : ByteArray => b.data.toList) hr.2
      simp only [ByteArray.data_extract, Array.toList_extract, List.extract_eq_take_drop, List.drop_zero] at h2
      rw [enc_rep]
      have h3 := List.take_append_drop 3 q.data.toList
      rw [h2] at h3
      exact h3.symm
    rw [e, dec_enc_u 65533 _ ((valid_iff _).2 (by omega))] at h
    cases h

theorem drop_list (s : ByteArray) (p : Nat) : (s.extract p s.size).data.toList = s.data.toList.drop p := by
  rw [ByteArray.data_extract, Array.toList_extract, List.extract_eq_take_drop, List.take_of_length_le (by simp)]

/-- What a round keeps of the iterator's: its walk, its box. -/
def KeepsR (Bn : Nat) (W W' : World) : Prop := KeepsWalks W W' ∧ W'.heap[Bn]? = W.heap[Bn]?

theorem keepsR_t {Bn : Nat} {A B C : World} (h : KeepsR Bn A B) (k : KeepsR Bn B C) : KeepsR Bn A C := ⟨h.1.trans k.1, k.2.trans h.2⟩
theorem keepsR_b {Bn : Nat} {w : World} (hn : Bn < w.heap.size) (W : World) (l : Nat) (o o' : Obj) (hl : w.heap.size ≤ l) (h : W.heap[l]? = some o) (h1 : o.isCells = false) (hw : o.isWalk = false) : KeepsR Bn W (W.putObj l o') :=
  ⟨KeepsWalks.putObj _ h hw, World.putObj_heap_other (by omega)⟩

theorem grownBy_iterAt (W : World) (k : Nat) (s : ByteArray) (pos : Nat) : W.grownBy (W.iterAt k s pos) (some k) :=
  ⟨rfl, rfl, rfl, by rw [Lib.iterAt_size]; exact Nat.le_refl _, fun j hj hne => Lib.iterAt_other W k j s pos (fun e => hne (by rw [e]))⟩
theorem grownBy_drewN (W : World) (k : Nat) (row : Option Nat) : W.grownBy (W.drewN k) row := ⟨rfl, rfl, rfl, Nat.le_refl _, fun _ _ _ => rfl⟩

theorem iter_old {W : World} {B : Nat} (s : ByteArray) (p : Nat) (h : B < W.heap.size) : (W.iter s p).heap[B]? = W.heap[B]? := Below.heap_alloc W (.stringIter s p) B h
theorem grownBy_iter (W : World) (s : ByteArray) (row : Option Nat) : W.grownBy (W.iter s 0) row := World.grownBy_alloc W (.stringIter s 0) row

abbrev encR (x : Nat × Nat) : Array Value := #[.int .i64 (x.1 : Nat), .int .i32 (x.2 : Nat)]

/-- Where the iterator in block B stands. -/
def posAt (B : Nat) (W : World) : Nat := match W.heap[B]? with
  | some (.stringIter _ p) => p
  | _ => 0
theorem posAt_eq {B : Nat} {W : World} {s : ByteArray} {p : Nat} (h : W.heap[B]? = some (.stringIter s p)) : posAt B W = p := by simp [posAt, h]

set_option maxRecDepth 100000 in
set_option maxHeartbeats 1000000 in
theorem Runes1_in (n : Nat) (hn : 1 ≤ n) (l Bn : Nat) (s : ByteArray) (hs : s.size ≤ 140737488355328) (J Jx : List (Nat × Nat) → World → Prop)
    (hY : ∀ pre x W, J pre W → (pre ++ [x]) <+: runesB s → YieldAt Fence.wide (n - 1) Tryz.prog l (encR x) W fun e W' =>
      (e = .returned (.bool true) ∧ J (pre ++ [x]) W' ∧ KeepsR Bn W W') ∨ (e = .returned (.bool false) ∧ Jx (pre ++ [x]) W'))
    (W : World) (hJ : AbidesFrom W.heap.size J) (hBn : W.heap[Bn]? = some (.cells #[.string s] 9 (0, 0))) (h0 : J [] W) :
    CallsIn Fence.wide n Tryz.prog 81 #[.func (.yield l) #[] #[], .pointer (some ⟨Bn, 0, none⟩)] W fun e W' => (∃ v, e = .returned v) ∧
      ((∃ ys, ys = runesB s ∧ J ys W') ∨ (∃ pre, pre <+: runesB s ∧ Jx pre W')) := by
  have hc0 : W.cell? ⟨Bn, 0, none⟩ = some (.string s) := by simp [World.cell?, hBn]
  refine callsIn_of_wp Tryz.func81 rfl trivial ?_ rfl
  simp only [Tryz.ntmps81, List.size_toArray, List.length_cons, List.length_nil, Nat.reduceAdd, Nat.reduceSub, Array.replicate_succ, Array.replicate_zero, List.push_toArray, List.append_toArray, List.nil_append, List.cons_append]
  gi_wp2
  gi_loopw [4] (fun _ wr => ∃ (pre : List (Nat × Nat)) (pos : Nat), wr.heap[W.heap.size]? = some (.stringIter s pos) ∧ wr.heap[Bn]? = some (.cells #[.string s] 9 (0, 0)) ∧ runesB s = pre ++ runesAt s.data.toList pos ∧ pos ≤ s.size ∧ J pre wr)
    (fun _ wr => s.size - posAt W.heap.size wr)
  case atStart =>
    exact ⟨[], 0, by simp [World.iter_heap], by rw [iter_old _ _ (Array.getElem?_eq_some_iff.1 hBn).1]; exact hBn, rfl, Nat.zero_le _, hJ [] W _ none h0 (grownBy_iter _ _ _) (fun r e => by cases e)⟩
  case round =>
    obtain ⟨pre, pos, hit, hbx, hrs, hpos, hJs⟩ := hrel
    have hB0 : W.heap.size ≤ W.heap.size := Nat.le_refl _
    have hms : Hid (posAt W.heap.size wr = pos) := Lib.hid (posAt_eq hit)
    by_cases hlt : pos < s.size
    · have hcell : ∀ m, (wr.iterAt W.heap.size s m).cell? ⟨Bn, 0, none⟩ = some (.string s) := fun m => by
        have hne : Bn ≠ W.heap.size := by intro e; rw [e, hit] at hbx; cases hbx
        simp [World.cell?, Lib.iterAt_other wr W.heap.size Bn s m hne, hbx]
      have hnx : ∀ ty, (Instr.next (.pointer (some ⟨W.heap.size, 0, none⟩)) true ty).run Tryz.prog wr = _ := fun ty => Lib.run_next_any_at wr W.heap.size s pos ty hit hlt
      have hde := decode_eq s pos hlt
      cases hd : dec (s.data.toList.drop pos) with
      | none =>
        have h1 : (Utf8.decode s pos).1 = 65533 := by rw [hde, hd]; rfl
        have h2 : (Utf8.decode s pos).2 = 1 := by rw [hde, hd]; rfl
        have hrep : Hid (isRep (s.extract pos s.size) = false) := Lib.hid (isRep_none (by rw [drop_list]; exact hd))
        rw [h1, h2] at hnx
        clear hde h1 h2
        gi_wp2_with (refine ⟨trivial, ?_⟩; gi_at_call 82; refine (callsIn_wide.2 (HasPrefix_any _ _)).mono ?_; rintro e w' ⟨rfl, rfl⟩; rw [hrep.out])
        refine bodyPost_ret (results_none rfl _ _ _) rfl ?_
        exact ⟨⟨_, rfl⟩, .inl ⟨pre, by rw [hrs, runesAt_none hd, List.append_nil], hJ _ _ _ (some W.heap.size) hJs (grownBy_iterAt _ _ _ _) (fun r e => by cases e; exact ⟨Nat.le_refl _, _, hit, rfl⟩)⟩⟩
      | some x =>
        obtain ⟨c, k⟩ := x
        have h1 : (Utf8.decode s pos).1 = c := by rw [hde, hd]; rfl
        have h2 : (Utf8.decode s pos).2 = k := by rw [hde, hd]; rfl
        rw [h1, h2] at hnx
        clear hde h1 h2
        have hl := dec_len hd
        rw [List.length_drop] at hl
        have hxx : runesB s = (pre ++ [(pos, c)]) ++ runesAt s.data.toList (pos + k) := by rw [hrs, runesAt_some hd]; simp
        have hlen : (pre ++ [(pos, c)]) <+: runesB s := ⟨_, hxx.symm⟩
        have hpk : pos + k ≤ s.size := by have : s.data.toList.length = s.size := by simp
                                          omega
        have hJ1 : J pre (wr.iterAt W.heap.size s (pos + k)) := hJ _ _ _ (some W.heap.size) hJs (grownBy_iterAt _ _ _ _) (fun r e => by cases e; exact ⟨Nat.le_refl _, _, hit, rfl⟩)
        have hit1 : Hid ((wr.iterAt W.heap.size s (pos + k)).heap[W.heap.size]? = some (.stringIter s (pos + k))) := Lib.hid (Lib.iterAt_heap _ _ _ _ _ hit)
        have hbx1 : Hid ((wr.iterAt W.heap.size s (pos + k)).heap[Bn]? = some (.cells #[.string s] 9 (0, 0))) := Lib.hid (by
          have hne : Bn ≠ W.heap.size := by intro e; rw [e, hit] at hbx; cases hbx
          rw [Lib.iterAt_other _ _ _ _ _ hne]; exact hbx)
        have hms1 : Hid (k ≠ 0) := Lib.hid (by omega)
        have HY := Lib.hid (hY pre (pos, c) _ hJ1 hlen)
        have HX := Lib.hid hxx
        have HD := Lib.hid hd
        clear hxx hlen hl hrs hd
        by_cases hc : c = 65533
        · subst hc
          have hrep : Hid (isRep (s.extract pos s.size) = true) := Lib.hid (isRep_some (by rw [drop_list]; exact HD.out))
          obtain ⟨fn, tmps, assign, body, hy, hR⟩ := HY.out
          dsimp only [encR] at hy
          rw [show ((65533 : Nat) : Int) = 65533 from rfl] at hy
          gi_wp2_with (refine ⟨trivial, ?_⟩; gi_at_call 82; refine (callsIn_wide.2 (HasPrefix_any _ _)).mono ?_; rintro e w' ⟨rfl, rfl⟩; rw [hrep.out])
          refine hR.mono ?_
          rintro e W3 (⟨rfl, hJ3, hk3⟩ | ⟨rfl, hJx3⟩)
          · gi_wp2
            go_roundw
            case rel => exact ⟨pre ++ [(pos, 65533)], pos + k, hk3.1.same _ _ hit1.out rfl, hk3.2.trans hbx1.out, HX.out, hpk, hJ3⟩
            case measure => rw [hms.out, posAt_eq (hk3.1.same _ _ hit1.out rfl)]; have := hms1.out; omega
          · gi_wp2
            refine bodyPost_ret (results_none rfl _ _ _) rfl ?_
            exact ⟨⟨_, rfl⟩, .inr ⟨pre ++ [(pos, 65533)], ⟨_, HX.out.symm⟩, hJx3⟩⟩
        · have hne : ((c : Int) == 65533) = false := by simp; omega
          clear hc
          obtain ⟨fn, tmps, assign, body, hy, hR⟩ := HY.out
          dsimp only [encR] at hy
          gi_wp2
          refine ⟨trivial, ?_⟩
          gi_wp2
          refine hR.mono ?_
          rintro e W3 (⟨rfl, hJ3, hk3⟩ | ⟨rfl, hJx3⟩)
          · gi_wp2
            go_roundw
            case rel => exact ⟨pre ++ [(pos, c)], pos + k, hk3.1.same _ _ hit1.out rfl, hk3.2.trans hbx1.out, HX.out, hpk, hJ3⟩
            case measure => rw [hms.out, posAt_eq (hk3.1.same _ _ hit1.out rfl)]; have := hms1.out; omega
          · gi_wp2
            refine bodyPost_ret (results_none rfl _ _ _) rfl ?_
            exact ⟨⟨_, rfl⟩, .inr ⟨pre ++ [(pos, c)], ⟨_, HX.out.symm⟩, hJx3⟩⟩
    · have hnx : ∀ ty, (Instr.next (.pointer (some ⟨W.heap.size, 0, none⟩)) true ty).run Tryz.prog wr = _ := fun ty => Lib.run_next_end_at wr W.heap.size s pos ty hit hlt
      have hX : Hid (pre = runesB s) := Lib.hid (by rw [hrs, runesAt_end (by simp; omega), List.append_nil])
      gi_wp2
      go_end0
      exact ⟨⟨_, rfl⟩, .inl ⟨pre, hX.out, hJs⟩⟩

set_option maxHeartbeats 1000000 in
theorem Runes_in (n : Nat) (s : ByteArray) (w : World) :
    CallsIn Fence.wide n Tryz.prog 68 #[.string s] w fun e w' => e = .returned (.func (.func 81) #[] #[.pointer (some ⟨w.heap.size, 0, none⟩)]) ∧ w' = w.alloc (.cells #[.string s] 9) := by
  refine callsIn_of_wp Tryz.func68 rfl trivial ?_ rfl
  simp only [Tryz.ntmps68, List.size_toArray, List.length_cons, List.length_nil, Nat.reduceAdd, Nat.reduceSub, Array.replicate_succ, Array.replicate_zero, List.push_toArray, List.append_toArray, List.nil_append, List.cons_append]
  gi_wp2
  go_ret
  exact ⟨rfl, rfl⟩

/-- A code point of s, with its place. -/
abbrev Rn (s : ByteArray) := { x : Nat × Nat // x ∈ runesB s }

theorem Runes_stops (n : Nat) (hn : 1 ≤ n) (Bn : Nat) (s : ByteArray) (hs : s.size ≤ 140737488355328) (w : World)
    (hc : w.heap[Bn]? = some (.cells #[.string s] 9 (0, 0))) :
    SeqStopsK Fence.wide n Tryz.prog 81 #[.pointer (some ⟨Bn, 0, none⟩)] (fun x : Rn s => encR x.1) (KeepsR Bn) (fun ys => ys.map Subtype.val = runesB s) (fun pre => pre.map Subtype.val <+: runesB s) (runesB s).length w := fun l J Jx W hW hJ _ hY h0 => by
  refine (Runes1_in n hn l Bn s hs (fun pre W => ∃ p : List (Rn s), p.map Subtype.val = pre ∧ J p W) (fun pre W => ∃ p : List (Rn s), p.map Subtype.val = pre ∧ Jx p W) ?_ W ?_ ((hW.block Bn (Array.getElem?_eq_some_iff.1 hc).1).trans hc) ⟨[], rfl, h0⟩).mono ?_
  · rintro pre x W1 ⟨p, rfl, hp⟩ hpre
    have hx : x ∈ runesB s := hpre.subset (by simp)
    have hlen : p.length < (runesB s).length := by have := hpre.length_le; simp at this; omega
    obtain ⟨fn, tmps, assign, body, hy, hR⟩ := hY p ⟨x, hx⟩ W1 hp hlen
    refine ⟨fn, tmps, assign, body, hy, hR.mono ?_⟩
    rintro e W' (⟨h1, h2, h3⟩ | ⟨h1, h2⟩)
    · exact .inl ⟨h1, ⟨_, by simp, h2⟩, h3⟩
    · exact .inr ⟨h1, ⟨_, by simp, h2⟩⟩
  · rintro s1 A B row ⟨p, hp, hj⟩ hg hr
    exact ⟨p, hp, hJ _ _ _ row hj hg hr⟩
  · rintro e W' ⟨hv, (⟨ys, rfl, p, hp, hj⟩ | ⟨pre, hpre, p, rfl, hj⟩)⟩
    · exact ⟨hv, .inl ⟨p, hp, hj⟩⟩
    · exact ⟨hv, .inr ⟨p, hpre, hj⟩⟩

theorem keepsR_set {Bn B i : Nat} (W : World) (h : Bn ≠ B) (v : Value) : KeepsR Bn W (W.setCell ⟨B, i, none⟩ v) :=
  ⟨KeepsWalks.setCell _ _ _, Below.heap_setCell W ⟨B, i, none⟩ v Bn h⟩
theorem box_heap (W : World) (v : Value) (t : TypeId) : (W.alloc (.cells #[v] t)).heap[W.heap.size]? = some (.cells #[v] t (0, 0)) := World.alloc_heap_new W _
end Go.Proofs.YtheidjnapoipaaaGreatDoor
