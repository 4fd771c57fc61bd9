/- The primes as an iterator. -/
import Derived.RangeFuncNested
import Derived.RangeFuncBound
import Derived.RangeFuncCalls
import Derived.RangeFuncLeaves
import Derived.RangeFuncBox
import Derived.Maps.AppendAt
import Derived.Shelf.Abstract
import Derived.Shelf.RegionOpen
import Derived.WalkKit
import Derived.OwnWalkIn
import Derived.TacticsInMore
import Derived.LoopNIn
import Derived.LoopIn
import Derived.Lib.Hide
import Derived.Lib.OthersKept
import Derived.Test.YtheidjnapoipaaaGreatDoorSCube
import Derived.Test.YtheidjnapoipaaaGreatDoorSSch
import Derived.Test.YtheidjnapoipaaaGreatDoorSPrimes
namespace Go.Proofs.YtheidjnapoipaaaGreatDoor
open Go.RowKit Go.Shelf
set_option linter.unusedVariables false
attribute [local go_sem] Oper.semAt_some

/-- What a round keeps of the iterator's: its box. -/
def KeepsP (Bn : Nat) (W W' : World) : Prop := W'.heap[Bn]? = W.heap[Bn]?
theorem keepsP_t {Bn : Nat} {A B C : World} (h : KeepsP Bn A B) (k : KeepsP Bn B C) : KeepsP Bn A C := k.trans h

set_option maxRecDepth 100000 in
set_option maxHeartbeats 1000000 in
theorem primes1_in (n : Nat) (hn : 1 ≤ n) (l Bn : Nat) (J Jx : List Pr → World → Prop)
    (hY : ∀ pre x W, J pre W → pre.length < 64 → YieldAt Fence.wide (n - 1) Tryz.prog l #[.int .i64 (x.1.1 : Nat), .int .u64 (x.1.2 : Nat)] W fun e W' =>
      (e = .returned (.bool true) ∧ J (pre ++ [x]) W' ∧ KeepsP Bn W W') ∨ (e = .returned (.bool false) ∧ Jx (pre ++ [x]) W'))
    (W : World) (hJ : AbidesFrom W.heap.size J) (hb1 : W.heap[Bn]? = some (.cells #[.int .i64 64] 3 (0, 0))) (h0 : J [] W) :
    CallsIn Fence.wide n Tryz.prog 169 #[.func (.yield l) #[] #[], .pointer (some ⟨Bn, 0, none⟩)] W fun e W' => (∃ v, e = .returned v) ∧
      ((∃ ys : List Pr, ys.map Subtype.val = pb 312 ∧ J ys W') ∨ (∃ pre : List Pr, pre.map Subtype.val <+: pb 312 ∧ Jx pre W')) := by
  refine callsIn_of_wp Tryz.func169 rfl trivial ?_ rfl
  simp only [Tryz.ntmps169, List.size_toArray, List.length_cons, List.length_nil, Nat.reduceAdd, Nat.reduceSub, Array.replicate_succ, Array.replicate_zero, List.push_toArray, List.append_toArray, List.nil_append, List.cons_append]
  gi_wp2
  rw [wpIn_wide]
  apply wp_scope_straight
  rw [← wpIn_wide (n := n)]
  gi_wp2
  apply wpIn_label
  gi_wp2
  gi_loopw [3, 4] (fun a m wr => ∃ (pre : List Pr) (mm : Nat), a = .int .i64 (pre.length : Nat) ∧ m = .int .u64 mm ∧ 2 ≤ mm ∧ mm ≤ 312 ∧ wr.heap[Bn]? = some (.cells #[.int .i64 64] 3 (0, 0)) ∧ Hid (pre.map Subtype.val = pb mm) ∧ J pre wr)
    (fun _ m _ => 312 - (intOf m).toNat)
  case atStart => exact ⟨[], 2, rfl, rfl, by omega, by omega, hb1, Lib.hid rfl, h0⟩
  case round =>
    obtain ⟨pre, mm, rfl, rfl, h2, hm, hbx, HP, hJs⟩ := hrel
    have hc1 : wr.cell? ⟨Bn, 0, none⟩ = some (.int .i64 64) := by simp [World.cell?, hbx]
    have hl : pre.length = (pb mm).length := by rw [← HP.out, List.length_map]
    by_cases hlt : mm ≤ 311
    · have hpl : pre.length < 64 := by rw [hl]; exact pb_lt hlt
      have hnp : tr mm mm = false → Hid (pre.map Subtype.val = pb (mm + 1)) := fun h => Lib.hid (by rw [pb_not h]; exact HP.out)
      have hyp : tr mm mm = true → Hid (∃ x : Pr, x.1 = (pre.length, mm) ∧ (pre ++ [x]).map Subtype.val = pb (mm + 1)) := fun h => Lib.hid
        ⟨⟨((pb mm).length, mm), pr_mem h2 hlt h⟩, by rw [hl], by rw [pb_is h2 h, List.map_append, HP.out]; rfl⟩
      have HNP := Lib.hid hnp
      have HYP := Lib.hid hyp
      clear hnp hyp hl
      gi_wp2
      gi_loop [5] (fun d => ∃ dd : Nat, d = .int .u64 dd ∧ 2 ≤ dd ∧ dd < 20 ∧ Hid (tr mm dd = true)) (fun d => 20 - (intOf d).toNat)
      case atStart => exact ⟨2, rfl, by omega, by omega, Lib.hid (tr_two mm)⟩
      case round =>
        obtain ⟨dd, rfl, hd2, hd20, HT⟩ := hrel
        obtain ⟨sq, hsq⟩ : ∃ sq, dd * dd = sq := ⟨_, rfl⟩
        have hsqi : (dd : Int) * (dd : Int) = (sq : Int) := by rw [← hsq]; simp
        have hsq4 : sq ≤ 361 := by rw [← hsq]; exact Nat.mul_le_mul (by omega : dd ≤ 19) (by omega : dd ≤ 19)
        by_cases hle : sq ≤ mm
        · by_cases hz : mm % dd = 0
          · gi_wp2
            have hdm : dd < mm := by
              have := Nat.mul_le_mul_left dd hd2
              omega
            have HN := HNP.out (tr_not hd2 hdm hz)
            go_roundw
            case rel => exact ⟨pre, mm + 1, rfl, by go_num, by omega, by omega, hbx, HN, hJs⟩
            case measure => simp [intOf]; omega
          · have hd18 : dd < 18 := by
              refine Nat.lt_of_not_le fun h => ?_
              have := Nat.mul_le_mul h h
              omega
            have HN := Lib.hid (tr_succ HT.out hz)
            have hzi : ((mm : Int) % (dd : Int) == 0) = false := by
              rw [Bool.eq_false_iff]
              intro h
              rw [beq_iff_eq] at h
              exact hz (by omega)
            clear hz
            gi_wp2
            go_round
            case rel => exact ⟨dd + 1, by go_num, by omega, by omega, HN⟩
            case measure => simp [intOf]; omega
        · obtain ⟨x, hx, HX⟩ := (HYP.out (tr_done mm (by omega) dd hd20 h2 (by omega) HT.out)).out
          obtain ⟨fn, tmps, assign, body, hy, hR⟩ := hY pre x wr hJs hpl
          rw [hx] at hy
          dsimp only at hy
          have HXX := Lib.hid HX
          clear HX hx
          gi_wp2
          refine hR.mono ?_
          rintro e W3 (⟨rfl, hJ3, hk3⟩ | ⟨rfl, hJx3⟩)
          · gi_wp2
            go_roundw
            case rel => exact ⟨pre ++ [x], mm + 1, by rw [List.length_append]; go_num, by go_num, by omega, by omega, hk3.trans hbx, HXX, hJ3⟩
            case measure => simp [intOf]; omega
          · gi_wp2
            try rw [Exit.noGoto_ret]
            refine bodyPost_ret (results_none rfl _ _ _) rfl ?_
            exact ⟨⟨_, rfl⟩, .inr ⟨_, by rw [HXX.out]; exact pb_le (by omega), hJx3⟩⟩
    · have hme : mm = 312 := by omega
      have hpl : pre.length = 64 := by rw [hl, hme]; exact pb_312
      rw [hme] at HP
      have hpi : (pre.length : Int) = 64 := by omega
      clear hme hl
      gi_wp2
      rw [Exit.noGoto_normal]
      go_end0
      exact ⟨⟨_, rfl⟩, .inl ⟨pre, HP.out, hJs⟩⟩

set_option maxHeartbeats 1000000 in
theorem primes_in (n : Nat) (w : World) :
    CallsIn Fence.wide n Tryz.prog 163 #[.int .i64 64] w fun e w' => e = .returned (.func (.func 169) #[] #[.pointer (some ⟨w.heap.size, 0, none⟩)]) ∧ w' = w.alloc (.cells #[.int .i64 64] 3) := by
  refine callsIn_of_wp Tryz.func163 rfl trivial ?_ rfl
  simp only [Tryz.ntmps163, List.size_toArray, List.length_cons, List.length_nil, Nat.reduceAdd, Nat.reduceSub, Array.replicate_succ, Array.replicate_zero, List.push_toArray, List.append_toArray, List.nil_append, List.cons_append]
  gi_wp2
  go_ret
  exact ⟨rfl, rfl⟩

theorem primes_stops (n : Nat) (hn : 1 ≤ n) (Bn : Nat) (w : World) (h1 : w.heap[Bn]? = some (.cells #[.int .i64 64] 3 (0, 0))) :
    SeqStopsK Fence.wide n Tryz.prog 169 #[.pointer (some ⟨Bn, 0, none⟩)] (fun x : Pr => #[.int .i64 (x.1.1 : Nat), .int .u64 (x.1.2 : Nat)]) (KeepsP Bn) (fun ys => ys.map Subtype.val = pb 312) (fun pre => pre.map Subtype.val <+: pb 312) 64 w := fun l J Jx W hW hJ _ hY h0 => by
  refine (primes1_in n hn l Bn J Jx hY W hJ ((hW.block Bn (Array.getElem?_eq_some_iff.1 h1).1).trans h1) h0).mono ?_
  rintro e W' ⟨hv, (⟨ys, h, hj⟩ | ⟨pre, h, hj⟩)⟩
  · exact ⟨hv, .inl ⟨ys, h, hj⟩⟩
  · exact ⟨hv, .inr ⟨pre, h, hj⟩⟩

theorem own_rowK {β : Type} (g : Nat) (t : TypeId) (f : β → List Value) : Own (fun (s : β) W => Row W g t (f s)) := fun s X Y row h hg hrow => by
  refine (hg.block g h.lt (fun e => ?_)).trans h
  obtain ⟨o, ho, hc⟩ := hrow g e.symm
  rw [show X.heap[g]? = _ from h] at ho
  cases ho
  cases hc

end Go.Proofs.YtheidjnapoipaaaGreatDoor
