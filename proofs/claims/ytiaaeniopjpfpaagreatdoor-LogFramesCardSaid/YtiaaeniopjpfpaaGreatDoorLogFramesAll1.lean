/- A loop of the document's sum. (In one text with what it leans on: Quiet2, LFramed, KQuiet, LMark, KEq2, LMarked, LMem, LChoose, LFrames, ShelfT, LPut, BWrite, LBytes, LWipe, LOpen, LAdd, LPl2, Awk, Awk5, LAwk, BuildOf, RK, Buf, RPad, RSB, RS13, RS22.) -/
import Derived.OrdersHeld
import Derived.RangeFuncNested
import Derived.RangeFuncBound
import Derived.RangeFuncCalls
import Derived.RangeFuncLeaves
import Derived.RangeFuncBox
import Derived.OwnWalkIn
import Derived.TacticsInMore
import Derived.LoopNIn
import Derived.LoopIn
import Derived.Lib.OthersKept
import Derived.Shelf.Strings.Trim
import Derived.Below
import Derived.WalkKit
import Derived.Laws.AppendOwn
import Derived.Maps.AppendAt
import Derived.WalkSpells
import Derived.WalkLawsBesides
import Derived.Lib.Hide
import Derived.Deep.QuietTactic
import Derived.BigQuiet
import Derived.Great.BuildSlice
import Derived.Lib.BufSteps
import Derived.Lib.ConvBytes
import Derived.OwnWalk
import Derived.Deep.OwnRows
import Derived.Deep.RegionHeld3
import Derived.Test.YtiaaeniopjpfpaaGreatDoorRound
import Derived.Test.YtiaaeniopjpfpaaGreatDoorLHead
import Derived.Test.YtiaaeniopjpfpaaGreatDoorGet
import Derived.Test.YtiaaeniopjpfpaaGreatDoorKColl
import Derived.Test.YtiaaeniopjpfpaaGreatDoorKAwk
import Derived.Test.YtiaaeniopjpfpaaGreatDoorKEq
import Derived.Test.YtiaaeniopjpfpaaGreatDoorKCrash
import Derived.Test.YtiaaeniopjpfpaaGreatDoorKAll
import Derived.Test.YtiaaeniopjpfpaaGreatDoorProg
import Derived.Test.YtiaaeniopjpfpaaGreatDoorShelf
import Derived.Test.YtiaaeniopjpfpaaGreatDoorRows
import Derived.Test.YtiaaeniopjpfpaaGreatDoorPlain
import Derived.Test.YtiaaeniopjpfpaaGreatDoorMem
import Derived.Test.YtiaaeniopjpfpaaGreatDoorPut
import Derived.Test.YtiaaeniopjpfpaaGreatDoorCsum
import Derived.Test.YtiaaeniopjpfpaaGreatDoorSText
import Derived.Test.YtiaaeniopjpfpaaGreatDoorSSch
import Derived.Test.YtiaaeniopjpfpaaGreatDoorSPlain
import Derived.Test.YtiaaeniopjpfpaaGreatDoorSBlocks
import Derived.Test.YtiaaeniopjpfpaaGreatDoorTail
import Derived.Test.YtiaaeniopjpfpaaGreatDoorSRnd
import Derived.Test.YtiaaeniopjpfpaaGreatDoorSMix
namespace Go.Proofs.YtiaaeniopjpfpaaGreatDoor
open Go.RowKit
section
variable {P : Program} {ops : Array Oper} {C : World → Prop}
theorem wpQ_yields {Q : Act → Prop} {a : Act} {o : Oper} {rest : List Oper} (v : Value) (hy : YieldsIf P ops C o v a) (h : wpQuiet P ops C Q rest (a.put o.dst v)) : wpQuiet P ops C Q (o :: rest) a := by
  unfold wpQuiet
  rcases hy with ⟨hw, hr⟩ | ⟨hw, hv⟩
  · rw [if_pos hw]
    refine ⟨v, fun w hC => ?_, h⟩
    unfold Oper.quietAt
    rw [hr w hC]
    exact ⟨rfl, rfl⟩
  · rw [if_neg (by rw [hw]; decide), ← hv]
    exact h
theorem wpQ_call {Q : Act → Prop} {a : Act} {o : Oper} {rest : List Oper} (v : Value) (fn : FuncId) (vals : Array Value) (hw : Region.wanted o (yielded ops a.tmps) = true) (hx : ∀ w, (execOp a.eval o).run P w = .ok (.enter fn vals) w)
    (hc : ∀ w, C w → Calls P fn vals w (fun e w'' => e = .returned v ∧ C w'')) (h : wpQuiet P ops C Q rest (a.put o.dst v)) : wpQuiet P ops C Q (o :: rest) a := by
  unfold wpQuiet
  rw [if_pos hw]
  refine ⟨v, fun w hC => ?_, h⟩
  unfold Oper.quietAt
  rw [hx w]
  exact ⟨rfl, hc w hC⟩
end
end Go.Proofs.YtiaaeniopjpfpaaGreatDoor

namespace Go.Proofs.YtiaaeniopjpfpaaGreatDoor
open Go.RowKit
set_option linter.unusedVariables false
set_option linter.unusedSimpArgs false

/-- Its text, if it is whole, and has that number. -/
def framedL (n : Nat) (s : List UInt8) : Option (List UInt8) :=
  if s.length < 28 then none else
  if (s.drop 28).length < getL ((s.drop 4).take 4) then none else
  if s.take 28 = headL n ((s.drop 28).take (getL ((s.drop 4).take 4))) then some ((s.drop 28).take (getL ((s.drop 4).take 4))) else none
def framedV (r : Option (List UInt8)) : Value := match r with
  | none => .tuple #[.string ⟨#[]⟩, .bool false]
  | some t => .tuple #[.string (tx t), .bool true]
theorem tx_cut (l : List UInt8) (a b : Nat) (ha : a ≤ b) (hb : b ≤ l.length) : (tx l).extract a b = tx ((l.take b).drop a) := by
  apply ByteArray.ext
  apply Array.ext'
  simp [tx, List.take_drop]
  rw [show a + (b - a) = b by omega]
theorem getE_four (l : List UInt8) (h : l.length = 4) : getE l = 0 := by
  unfold getE
  rw [if_neg (by omega), if_neg (by omega)]
theorem getN_four (l : List UInt8) (h : l.length = 4) : getN l = getL l := by
  unfold getN
  rw [if_neg (by omega), if_neg (by omega)]

set_option maxRecDepth 4000 in
set_option maxHeartbeats 2000000 in
theorem framed_any (n : Nat) (s : List UInt8) (hn : n ≤ 1000000000000) (hs : s.length ≤ 1000000000000) (w : World) (hG : G w) :
    Calls Tryz.prog 65 #[.int .i64 n, .string (tx s)] w fun e w' => e = .returned (framedV (framedL n s)) ∧ Below w.heap.size w w' := by
  obtain ⟨k, hk⟩ : ∃ k, s.length = k := ⟨_, rfl⟩
  by_cases h28 : k < 28
  · have hr : framedL n s = none := by unfold framedL; rw [if_pos (by omega)]
    have hsz : (tx s).size = k := by rw [tx_size, hk]
    have hkI : (k : Int) < 28 := by omega
    rw [hr]
    obtain ⟨S, hS⟩ : ∃ S, tx s = S := ⟨_, rfl⟩
    rw [hS] at hsz ⊢
    clear hr hS hG hk hs hn
    go_enter Tryz.func65, Tryz.ntmps65
    go_wp2_with fail
    go_ret2
    exact ⟨rfl, Below.refl _ _⟩
  · obtain ⟨z, hz⟩ : ∃ z, getL ((s.drop 4).take 4) = z := ⟨_, rfl⟩
    obtain ⟨F, hF⟩ : ∃ F, (s.drop 4).take 4 = F := ⟨_, rfl⟩
    have hFl : F.length = 4 := by rw [← hF, List.length_take, List.length_drop]; omega
    rw [hF] at hz
    obtain ⟨R, hR⟩ : ∃ R, s.drop 28 = R := ⟨_, rfl⟩
    have hRl : R.length = k - 28 := by rw [← hR, List.length_drop, hk]
    obtain ⟨H, hH⟩ : ∃ H, s.take 28 = H := ⟨_, rfl⟩
    obtain ⟨r, hr⟩ : ∃ r, k - 28 = r := ⟨_, rfl⟩
    have hz4 : z < 4294967296 := by
      rw [← hz]
      have h := getL_lt F
      rw [hFl] at h
      exact h
    have hGet : ∀ W : World, Calls Tryz.prog 99 #[.string (tx F)] W fun e w' => e = .returned (.tuple #[.int .u64 (z : Nat), .int .i64 0]) ∧ W = w' := fun W => by
      have h := Get_any (tx F) W (by rw [tx_size]; omega)
      rw [tx_list, getN_four F hFl, getE_four F hFl, hz] at h
      exact h
    have hsz : (tx s).size = k := by rw [tx_size, hk]
    have hc1 : (tx s).extract 4 8 = tx F := by
      rw [tx_cut s 4 8 (by omega) (by omega), ← hF]
      congr 1
      rw [List.drop_take]
    have hc2 : (tx s).extract 28 k = tx R := by
      rw [tx_cut s 28 k (by omega) (by omega), ← hR, List.take_of_length_le (by omega)]
    have hc3 : (tx s).extract 0 28 = tx H := by
      rw [tx_cut s 0 28 (by omega) (by omega), ← hH, List.drop_zero]
    have hRsz : (tx R).size = r := by rw [tx_size, hRl, hr]
    have hGH := Lib.hid hGet
    have hkI : (28 : Int) ≤ (k : Int) := by omega
    have hk28 : ¬ (k : Int) < 28 := by omega
    have hrI : (r : Int) ≤ 1000000000000 := by omega
    by_cases hlt : r < z
    · have hres : framedL n s = none := by unfold framedL; rw [if_neg (by omega), hF, hz, hR, if_pos (by omega)]
      rw [hres]
      have hltI : (r : Int) < (z : Int) := by omega
      obtain ⟨S, hS⟩ : ∃ S, tx s = S := ⟨_, rfl⟩
      rw [hS] at hsz hc1 hc2 hc3 ⊢
      clear hres hS hG hk hs hn hz hF hFl hR hRl hH hr hz4 hGet
      go_enter Tryz.func65, Tryz.ntmps65
      go_wp2_with fail
      refine (hGH.out _).mono ?_
      rintro e w1 ⟨rfl, rfl⟩
      go_wp2_with fail
      go_ret2
      exact ⟨rfl, Below.refl _ _⟩
    · obtain ⟨T, hT⟩ : ∃ T, R.take z = T := ⟨_, rfl⟩
      have hTl : T.length = z := by rw [← hT, List.length_take, hRl]; omega
      have hc4 : (tx R).extract 0 z = tx T := by rw [tx_cut R 0 z (by omega) (by omega), ← hT, List.drop_zero]
      have HH : Hid (∀ W, G W → Calls Tryz.prog 53 #[.int .i64 n, .string (tx T)] W fun e w' => e = .returned (.string (tx (headL n T))) ∧ Below W.heap.size W w') := Lib.hid fun W hg => head_any n T hn (by omega) W hg
      have hHl : H.length = 28 := by rw [← hH, List.length_take]; omega
      have hhl := headL_length n T
      obtain ⟨U, hU⟩ : ∃ U, headL n T = U := ⟨_, rfl⟩
      rw [hU] at HH hhl
      have hzI : (z : Int) ≤ (r : Int) := by omega
      have hHGW := Lib.hid hG
      by_cases heq : H = U
      · have hres : framedL n s = some T := by unfold framedL; rw [if_neg (by omega), hF, hz, hR, if_neg (by omega), hH, hT, hU, if_pos heq]
        rw [hres]
        subst heq
        obtain ⟨S, hS⟩ : ∃ S, tx s = S := ⟨_, rfl⟩
        rw [hS] at hsz hc1 hc2 hc3 ⊢
        obtain ⟨X, hX⟩ : ∃ X, tx H = X := ⟨_, rfl⟩
        rw [hX] at hc3 HH
        obtain ⟨Y, hY⟩ : ∃ Y, tx T = Y := ⟨_, rfl⟩
        have hfv : framedV (some T) = .tuple #[.string Y, .bool true] := by rw [← hY]; rfl
        rw [hY] at hc4 HH
        rw [hfv]
        clear hres hS hG hk hs hn hz hF hFl hR hRl hH hr hz4 hGet hU hT hTl hHl hhl hX hY hfv
        go_enter Tryz.func65, Tryz.ntmps65
        go_wp2_with fail
        refine (hGH.out _).mono ?_
        rintro e w1 ⟨rfl, rfl⟩
        go_wp2_with fail
        refine region_quiet_lit (fun W => Below w.heap.size w W) (by kernel_rfl) (by kernel_rfl) ⟨rfl, rfl, rfl, Nat.le_refl _, fun _ _ => rfl⟩ ?_
        refine wpQ_yields (.string S) (Or.inl ⟨by rfl, fun W' hS => ?yq1⟩) ?_
        case yq1 =>
          go_simp
        try simp only [Act.put, List.setIfInBounds_toArray, List.set_cons_zero, List.set_cons_succ]
        refine wpQ_yields (.string X) (Or.inl ⟨by rfl, fun W' hS => ?yq2⟩) ?_
        case yq2 =>
          go_simp
        try simp only [Act.put, List.setIfInBounds_toArray, List.set_cons_zero, List.set_cons_succ]
        refine wpQ_yields (.int .i64 n) (Or.inl ⟨by rfl, fun W' hS => ?yq3⟩) ?_
        case yq3 =>
          go_simp
        try simp only [Act.put, List.setIfInBounds_toArray, List.set_cons_zero, List.set_cons_succ]
        refine wpQ_yields (.string Y) (Or.inl ⟨by rfl, fun W' hS => ?yq4⟩) ?_
        case yq4 =>
          go_simp
        try simp only [Act.put, List.setIfInBounds_toArray, List.set_cons_zero, List.set_cons_succ]
        refine wpQ_call (.string X) 53 #[.int .i64 n, .string Y] (by rfl) (fun W' => ?yq5) (fun W' hS => ?yr5) ?_
        case yq5 =>
          go_simp
        case yr5 =>
          refine (HH.out W' (hHGW.out.below hS)).mono ?_
          rintro e w2 ⟨rfl, hb2⟩
          exact ⟨rfl, hS.trans (hb2.mono hS.size)⟩
        try simp only [Act.put, List.setIfInBounds_toArray, List.set_cons_zero, List.set_cons_succ]
        refine wpQ_yields (.bool false) (Or.inl ⟨by rfl, fun W' hS => ?yq6⟩) ?_
        case yq6 =>
          go_simp
        try simp only [Act.put, List.setIfInBounds_toArray, List.set_cons_zero, List.set_cons_succ]
        refine wpQuiet_nil ?_
        intro wf hwf
        go_wp2_with fail
        go_ret2
        exact ⟨rfl, hwf⟩
      · have hres : framedL n s = none := by unfold framedL; rw [if_neg (by omega), hF, hz, hR, if_neg (by omega), hH, hT, hU, if_neg heq]
        rw [hres]
        have hXV : tx H ≠ tx U := fun e => heq (by rw [← tx_list H, ← tx_list U, e])
        obtain ⟨S, hS⟩ : ∃ S, tx s = S := ⟨_, rfl⟩
        rw [hS] at hsz hc1 hc2 hc3 ⊢
        obtain ⟨X, hX⟩ : ∃ X, tx H = X := ⟨_, rfl⟩
        rw [hX] at hc3 hXV
        obtain ⟨V, hV⟩ : ∃ V, tx U = V := ⟨_, rfl⟩
        rw [hV] at HH hXV
        obtain ⟨Y, hY⟩ : ∃ Y, tx T = Y := ⟨_, rfl⟩
        rw [hY] at hc4 HH
        have hTL : ¬ X.toList = V.toList := fun e => hXV (by rw [ByteArray.toList_eq, ByteArray.toList_eq] at e; exact ByteArray.ext (Array.ext' e))
        clear hXV
        clear hres hS hG hk hs hn hz hF hFl hR hRl hH hr hz4 hGet hU hT hTl hHl hhl hX hY hV heq
        go_enter Tryz.func65, Tryz.ntmps65
        go_wp2_with fail
        refine (hGH.out _).mono ?_
        rintro e w1 ⟨rfl, rfl⟩
        go_wp2_with fail
        refine region_quiet_lit (fun W => Below w.heap.size w W) (by kernel_rfl) (by kernel_rfl) ⟨rfl, rfl, rfl, Nat.le_refl _, fun _ _ => rfl⟩ ?_
        refine wpQ_yields (.string S) (Or.inl ⟨by rfl, fun W' hS => ?yq1⟩) ?_
        case yq1 =>
          go_simp
        try simp only [Act.put, List.setIfInBounds_toArray, List.set_cons_zero, List.set_cons_succ]
        refine wpQ_yields (.string X) (Or.inl ⟨by rfl, fun W' hS => ?yq2⟩) ?_
        case yq2 =>
          go_simp
        try simp only [Act.put, List.setIfInBounds_toArray, List.set_cons_zero, List.set_cons_succ]
        refine wpQ_yields (.int .i64 n) (Or.inl ⟨by rfl, fun W' hS => ?yq3⟩) ?_
        case yq3 =>
          go_simp
        try simp only [Act.put, List.setIfInBounds_toArray, List.set_cons_zero, List.set_cons_succ]
        refine wpQ_yields (.string Y) (Or.inl ⟨by rfl, fun W' hS => ?yq4⟩) ?_
        case yq4 =>
          go_simp
        try simp only [Act.put, List.setIfInBounds_toArray, List.set_cons_zero, List.set_cons_succ]
        refine wpQ_call (.string V) 53 #[.int .i64 n, .string Y] (by rfl) (fun W' => ?yq5) (fun W' hS => ?yr5) ?_
        case yq5 =>
          go_simp
        case yr5 =>
          refine (HH.out W' (hHGW.out.below hS)).mono ?_
          rintro e w2 ⟨rfl, hb2⟩
          exact ⟨rfl, hS.trans (hb2.mono hS.size)⟩
        try simp only [Act.put, List.setIfInBounds_toArray, List.set_cons_zero, List.set_cons_succ]
        refine wpQ_yields (.bool true) (Or.inl ⟨by rfl, fun W' hS => ?yq6⟩) ?_
        case yq6 =>
          go_simp
        try simp only [Act.put, List.setIfInBounds_toArray, List.set_cons_zero, List.set_cons_succ]
        refine wpQuiet_nil ?_
        intro wf hwf
        go_wp2_with fail
        go_ret2
        exact ⟨rfl, hwf⟩
end Go.Proofs.YtiaaeniopjpfpaaGreatDoor

namespace Go.Proofs.YtiaaeniopjpfpaaGreatDoor
open Go.RowKit Go.Maps
section
variable {P : Program} {ops : Array Oper} {C : World → Prop}
theorem wpQuiet_yields {Q : Act → Prop} {a : Act} {o : Oper} {rest : List Oper} (v : Value) (hy : YieldsIf P ops C o v a) (h : wpQuiet P ops C Q rest (a.put o.dst v)) : wpQuiet P ops C Q (o :: rest) a := by
  unfold wpQuiet
  rcases hy with ⟨hw, hr⟩ | ⟨hw, hv⟩
  · rw [if_pos hw]
    refine ⟨v, fun w hC => ?_, h⟩
    unfold Oper.quietAt
    rw [hr w hC]
    exact ⟨rfl, rfl⟩
  · rw [if_neg (by rw [hw]; decide), ← hv]
    exact h
end
end Go.Proofs.YtiaaeniopjpfpaaGreatDoor

namespace Go.Proofs.YtiaaeniopjpfpaaGreatDoor
open Go.RowKit
set_option linter.unusedVariables false
set_option linter.unusedSimpArgs false

def markB (m h : Nat) : List UInt8 := markL m h ++ List.replicate 88 0
theorem markB_length (m h : Nat) : (markB m h).length = 128 := by
  unfold markB
  rw [List.length_append, markL_length, List.length_replicate]

set_option maxRecDepth 4000 in
set_option maxHeartbeats 2000000 in
theorem mark_any (m h : Nat) (hm : m < 18446744073709551616) (hh : h < 1000) (w : World) (hG : G w) :
    Calls Tryz.prog 89 #[.int .u64 (m : Nat), .int .i64 (h : Nat)] w fun e w' => e = .returned (blkV (markB m h)) ∧ Below w.heap.size w w' := by
  obtain ⟨A, hA⟩ : ∃ A, putL m 8 = A := ⟨_, rfl⟩
  obtain ⟨B, hB⟩ : ∃ B, putL h 8 = B := ⟨_, rfl⟩
  have hAl : A.length = 8 := by rw [← hA, putL_length]
  have hBl : B.length = 8 := by rw [← hB, putL_length]
  obtain ⟨M, hM⟩ : ∃ M, ([67, 75, 77, 75] : List UInt8) = M := ⟨_, rfl⟩
  have hMl : M.length = 4 := by rw [← hM]; rfl
  have hMt : (⟨#[67, 75, 77, 75]⟩ : ByteArray) = tx M := by rw [← hM]; rfl
  obtain ⟨K, hK⟩ : ∃ K, markL m h = K := ⟨_, rfl⟩
  have hKl : K.length = 40 := by rw [← hK, markL_length]
  have hKs : sealL (M ++ A ++ B) [] = K := by rw [← hK]; unfold markL; rw [hA, hB, hM]
  have HP1 : Hid (∀ W : World, Calls Tryz.prog 93 #[.int .u64 (m : Nat), .int .i64 8] W fun e w' => e = .returned (.string (tx A)) ∧ Below W.heap.size W w') := Lib.hid fun W => by
    have h := Put_any m 8 W hm
    rw [show szOf 8 = 8 from rfl, hA] at h
    exact h
  have HP2 : Hid (∀ W : World, Calls Tryz.prog 93 #[.int .u64 (h : Nat), .int .i64 8] W fun e w' => e = .returned (.string (tx B)) ∧ Below W.heap.size W w') := Lib.hid fun W => by
    have h := Put_any h 8 W (by omega)
    rw [show szOf 8 = 8 from rfl, hB] at h
    exact h
  have h1 : ∀ W, (Op.stringOp .add (tx M) (tx A)).run Tryz.prog W = .ok (.string (tx (M ++ A))) W := fun W => add_tx M A (by omega) W
  have h2 : ∀ W, (Op.stringOp .add (tx (M ++ A)) (tx B)).run Tryz.prog W = .ok (.string (tx (M ++ A ++ B))) W := fun W => add_tx (M ++ A) B (by rw [List.length_append]; omega) W
  have HS : Hid (∀ W, G W → Calls Tryz.prog 92 #[.string (tx (M ++ A ++ B)), .string ⟨#[]⟩] W fun e w' => e = .returned (.string (tx K)) ∧ Below W.heap.size W w') := Lib.hid fun W hg => by
    have h := sealed_any (M ++ A ++ B) [] (by rw [List.length_append, List.length_append]; omega) (by simp) W hg
    rw [hKs] at h
    exact h
  have hz := (zero_of_info zB_info).1
  have B0 := (Below.refl w.heap.size w).alloc (Nat.le_refl _) (.cells zB.toArray 90)
  have B1 := B0.alloc (by simp) (.cells zB.toArray 90)
  have r0 := (Row.new w 90 zB).alloc (.cells zB.toArray 90)
  have r1 := Row.new (w.alloc (.cells zB.toArray 90)) 90 zB
  have e1 : (w.alloc (.cells zB.toArray 90)).heap.size = w.heap.size + 1 := by simp
  rw [e1] at r1
  obtain ⟨Z, hZ⟩ : ∃ Z, zB = Z := ⟨_, rfl⟩
  have hZl : Z.length = 128 := by rw [← hZ]; exact zB_len
  rw [hZ] at hz B0 B1 r0 r1
  obtain ⟨w2, hw2⟩ : ∃ w2, (w.alloc (.cells Z.toArray 90)).alloc (.cells Z.toArray 90) = w2 := ⟨_, rfl⟩
  rw [hw2] at B1 r0 r1
  have HG2 : Hid (G w2) := Lib.hid (hG.below B1)
  obtain ⟨C, hC⟩ : ∃ C, (markB m h).map bv = C := ⟨_, rfl⟩
  have hover : over Z 0 (tx K).data.toList = C := by
    rw [← hC, ← hZ, tx_list]
    unfold over markB
    rw [hK, List.take_zero, List.nil_append, Nat.zero_add, hKl, List.map_append]
    congr 1
  have hsz := blk_sizeK _ (markB_length m h)
  have hone := blkV_one (markB m h)
  have hfin : blkV (markB m h) = .agg C.toArray := by unfold blkV; rw [hC]
  have hCl : C.length = 128 := by rw [← hC, List.length_map, markB_length]
  rw [hC] at hsz hone
  rw [hfin]
  have HW := Lib.hid (And.intro B1 (And.intro r0 (And.intro r1 (And.intro hZl (And.intro hsz (And.intro hone (And.intro hCl (And.intro hover hKl))))))))
  have HW2 := Lib.hid hw2
  clear hA hB hAl hBl hM hMl hK hKl hKs B0 B1 r0 r1 e1 hZ hZl hC hsz hone hfin hCl hover hG hw2
  go_enter Tryz.func89, Tryz.ntmps89
  go_wp2_with fail
  rw [HW2.out]
  rw [hMt]
  refine region_tail 9 (fun W => Below w2.heap.size w2 W) (by kernel_rfl) (by kernel_rfl) rfl ⟨rfl, rfl, rfl, Nat.le_refl _, fun _ _ => rfl⟩ ?_
  simp only [List.take_succ_cons, List.take_zero]
  refine wpQ_yields (.slice (some ⟨w.heap.size + 1, 0, none⟩) 128 128) (Or.inl ⟨by rfl, fun W' hS => ?yq1⟩) ?_
  case yq1 =>
    go_simp
  try simp only [Act.put, List.setIfInBounds_toArray, List.set_cons_zero, List.set_cons_succ]
  refine wpQ_yields (.int .u64 (m : Nat)) (Or.inl ⟨by rfl, fun W' hS => ?yq2⟩) ?_
  case yq2 =>
    go_simp
  try simp only [Act.put, List.setIfInBounds_toArray, List.set_cons_zero, List.set_cons_succ]
  refine wpQ_call (.string (tx A)) 93 #[.int .u64 (m : Nat), .int .i64 8] (by rfl) (fun W' => ?yq3) (fun W' hS => ?yr3) ?_
  case yq3 =>
    go_simp
  case yr3 =>
    refine (HP1.out W').mono ?_
    rintro e w3 ⟨rfl, hb3⟩
    exact ⟨rfl, hS.trans (hb3.mono hS.size)⟩
  try simp only [Act.put, List.setIfInBounds_toArray, List.set_cons_zero, List.set_cons_succ]
  refine wpQ_yields (.string (tx (M ++ A))) (Or.inl ⟨by rfl, fun W' hS => ?yq4⟩) ?_
  case yq4 =>
    go_simp
  try simp only [Act.put, List.setIfInBounds_toArray, List.set_cons_zero, List.set_cons_succ]
  refine wpQ_yields (.int .i64 (h : Nat)) (Or.inl ⟨by rfl, fun W' hS => ?yq5⟩) ?_
  case yq5 =>
    go_simp
  try simp only [Act.put, List.setIfInBounds_toArray, List.set_cons_zero, List.set_cons_succ]
  refine wpQ_yields (.int .u64 (h : Nat)) (Or.inl ⟨by rfl, fun W' hS => ?yq6⟩) ?_
  case yq6 =>
    go_simp
    first | rw [IntKind.wrap_u64] | skip
    omega
  try simp only [Act.put, List.setIfInBounds_toArray, List.set_cons_zero, List.set_cons_succ]
  refine wpQ_call (.string (tx B)) 93 #[.int .u64 (h : Nat), .int .i64 8] (by rfl) (fun W' => ?yq7) (fun W' hS => ?yr7) ?_
  case yq7 =>
    go_simp
  case yr7 =>
    refine (HP2.out W').mono ?_
    rintro e w3 ⟨rfl, hb3⟩
    exact ⟨rfl, hS.trans (hb3.mono hS.size)⟩
  try simp only [Act.put, List.setIfInBounds_toArray, List.set_cons_zero, List.set_cons_succ]
  refine wpQ_yields (.string (tx (M ++ A ++ B))) (Or.inl ⟨by rfl, fun W' hS => ?yq8⟩) ?_
  case yq8 =>
    go_simp
  try simp only [Act.put, List.setIfInBounds_toArray, List.set_cons_zero, List.set_cons_succ]
  refine wpQ_call (.string (tx K)) 92 #[.string (tx (M ++ A ++ B)), .string ⟨#[]⟩] (by rfl) (fun W' => ?yq9) (fun W' hS => ?yr9) ?_
  case yq9 =>
    go_simp
  case yr9 =>
    refine (HS.out W' (HG2.out.below hS)).mono ?_
    rintro e w3 ⟨rfl, hb3⟩
    exact ⟨rfl, hS.trans (hb3.mono hS.size)⟩
  try simp only [Act.put, List.setIfInBounds_toArray, List.set_cons_zero, List.set_cons_succ]
  refine wpQuiet_nil ?_
  intro wf hwf
  have rf := HW.out.2.2.1.below hwf HW.out.2.2.1.lt
  have rf0 := HW.out.2.1.below hwf HW.out.2.1.lt
  have hcp := fun ty => copy_row (P := Tryz.prog) (W := wf) 87 9 ty 5 (w.heap.size + 1) 0 128 128 (tx K) Z 90 Tryz.underlying87 (by kernel_rfl) rf (by rw [tx_size]; have := HW.out.2.2.2.2.2.2; omega) (by rw [tx_size]; have := HW.out; omega)
  have hp := rf.put C
  rw [HW.out.2.2.2.2.2.2.2.1] at hcp
  have hr4 : Row (wf.setRow (w.heap.size + 1) C.toArray) w.heap.size 90 Z := rf0.put_far (g' := w.heap.size + 1) (by omega) _
  have hbw : Below w.heap.size w (wf.setRow (w.heap.size + 1) C.toArray) := below_setRow (B := w.heap.size) (HW.out.1.trans (hwf.mono HW.out.1.size)) (by omega) C.toArray
  obtain ⟨w4, hw4⟩ : ∃ w4, wf.setRow (w.heap.size + 1) C.toArray = w4 := ⟨_, rfl⟩
  rw [hw4] at hp hr4 hbw
  have HF := Lib.hid (And.intro hp (And.intro hr4 hbw))
  have HRG : Hid (w4.rangeAt (w.heap.size + 1) 0 C) := Lib.hid (fun j v hj => by rw [Nat.zero_add, HF.out.1.cell]; exact hj)
  have hcp2 : ∀ ty, (Builtin.copy_ #[87, 9] ty #[.slice (some ⟨w.heap.size + 1, 0, none⟩) 128 128, .string (tx K)]).run Tryz.prog wf = .ok (goInt (tx K).size) w4 := fun ty => by rw [hcp ty, hw4]
  clear hcp hp hr4 hbw hw4 rf rf0 hwf
  go_wp2_with (first
    | (with_reducible refine wpList_load_mid rfl 90 (.tmp 5) rfl (w.heap.size + 1) 0 rfl C _ HRG.out Tryz.underlying90 rfl HW.out.2.2.2.2.1 ?_)
    | (refine wpList_store_row rfl 90 (.tmp 4) (.tmp 16) rfl w.heap.size C.toArray rfl rfl 90 Z.toArray HF.out.2.1 (by rw [List.size_toArray]; exact HW.out.2.2.2.2.1) (by rw [List.size_toArray, List.size_toArray, HW.out.2.2.2.1, HW.out.2.2.2.2.2.2.1]) HW.out.2.2.2.2.2.1 ?_)
    | fail)
  have hp2 := HF.out.2.1.put C
  have hq2 := below_setRow (B := w.heap.size) HF.out.2.2 (Nat.le_refl _) C.toArray
  exact bodyPost_ret (v := .agg C.toArray) (results_cell_row rfl _ _ w.heap.size 90 C.toArray (0, 0) _ rfl hp2 Tryz.underlying90 rfl (by rw [List.size_toArray]; exact HW.out.2.2.2.2.1)) rfl ⟨rfl, hq2⟩
end Go.Proofs.YtiaaeniopjpfpaaGreatDoor

namespace Go.Proofs.YtiaaeniopjpfpaaGreatDoor
open Go.RowKit Go.Maps
set_option linter.unusedVariables false

theorem items_cmp {P : Program} (W : World) (d : Nat) (e : TypeId) (k : IntKind) (xs ys : Array Value) (f g : Nat → Int) (he : P.underlying e = some (.int k)) (ha : (isAgg e).run P W = .ok false W) :
    ∀ is : List Nat, (∀ i ∈ is, xs[i]? = some (.int k (f i)) ∧ ys[i]? = some (.int k (g i))) → (Op.eqItems (d + 1) e 1 xs ys is).run P W = .ok (is.all fun i => f i == g i) W
  | [], _ => by simp [Op.eqItems]
  | i :: is, h => by
    obtain ⟨hv, hu⟩ := h i (by simp)
    have ih := items_cmp W d e k xs ys f g he ha is (fun j hj => h j (by simp [hj]))
    have hp : (part e xs (i * 1)).run P W = .ok (.int k (f i)) W := by
      simp only [part, Sem.run_bind, ha, Result.andThen_ok, Nat.mul_one, Bool.false_eq_true, if_false, hv, Sem.run_pure]
    have hq : (part e ys (i * 1)).run P W = .ok (.int k (g i)) W := by
      simp only [part, Sem.run_bind, ha, Result.andThen_ok, Nat.mul_one, Bool.false_eq_true, if_false, hu, Sem.run_pure]
    simp only [Op.eqItems, Sem.run_bind, hp, hq, Result.andThen_ok, run_equalIn_int W d e k k _ _ he]
    by_cases hfg : f i = g i
    · have e2 : ((i :: is).all fun i => f i == g i) = (is.all fun i => f i == g i) := by simp [hfg]
      rw [e2]
      simpa [hfg] using ih
    · simp [hfg]
theorem all_range (L M : List UInt8) (hL : L.length = 128) (hM : M.length = 128) : ((List.range 128).all fun i => (((L.getD i 0).toNat : Nat) : Int) == (((M.getD i 0).toNat : Nat) : Int)) = decide (L = M) := by
  by_cases h : L = M
  · subst h
    simp
  · rw [decide_eq_false h]
    apply Bool.eq_false_iff.2
    intro hall
    apply h
    apply List.ext_getElem (by omega)
    intro i h1 h2
    have h3 := List.all_eq_true.1 hall i (List.mem_range.2 (by omega))
    rw [List.getD_eq_getElem?_getD, List.getD_eq_getElem?_getD, List.getElem?_eq_getElem h1, List.getElem?_eq_getElem h2] at h3
    have h4 : ((L[i]).toNat : Int) = ((M[i]).toNat : Int) := by simpa using h3
    exact UInt8.toNat_inj.1 (by omega)
theorem blk_cmpIn (L M : List UInt8) (hL : L.length = 128) (hM : M.length = 128) (W : World) :
    (Op.equalIn 10000 90 (.agg (L.map bv).toArray) (.agg (M.map bv).toArray)).run Tryz.prog W = .ok (decide (L = M)) W := by
  have h5 : (Tryz.prog.info? 5).map (fun i => (i.zero, i.size, i.bytes)) = some (some (.int .u8 0), 1, 1) := by kernel_rfl
  obtain ⟨i, hi, _⟩ := info_parts h5
  have hc : Tryz.prog.cellsOf 5 = 1 := by kernel_rfl
  have hg : ∀ (l : List UInt8), l.length = 128 → ∀ j, j < 128 → (l.map bv).toArray[j]? = some (.int .u8 (((l.getD j 0).toNat : Nat) : Int)) := fun l hl j hj => by
    rw [List.getElem?_toArray, List.getElem?_map, List.getD_eq_getElem?_getD, List.getElem?_eq_getElem (by omega)]
    rfl
  rw [run_equalIn_array W 9999 _ _ Tryz.underlying90 hi, hc]
  rw [items_cmp W 9998 5 .u8 _ _ (fun j => (((L.getD j 0).toNat : Nat) : Int)) (fun j => (((M.getD j 0).toNat : Nat) : Int)) Tryz.underlying5 (Tryz.isAgg5 W) _ (fun j hj => by
    have hj2 := List.mem_range.1 hj
    exact ⟨hg L hL j hj2, hg M hM j hj2⟩)]
  rw [all_range L M hL hM]
theorem blk_cmp (L M : List UInt8) (hL : L.length = 128) (hM : M.length = 128) (W : World) :
    (binOp .eql 90 (blkV L) (blkV M)).run Tryz.prog W = .ok (.bool (decide (L = M))) W := by
  unfold blkV
  rw [run_eql_struct, blk_cmpIn L M hL hM W]
  rfl
theorem yields_eql2 {P : Program} {ops : Array Oper} {S : World → Prop} {o : Oper} {a : Act} (hw : Region.wanted o (yielded ops a.tmps) = true) (t : TypeId) (x y : Operand) (t2 : TypeId) (ho : o.op = .binOp .eql t x y t2)
    (cs ds : Array Value) (b : Bool) (hx : a.eval x = .agg cs) (hy : a.eval y = .agg ds) (hm : P.eqGuardType P.depth t = false) (he : ∀ W, (binOp .eql t (.agg cs) (.agg ds)).run P W = .ok (.bool b) W) : YieldsIf P ops S o (.bool b) a :=
  .inl ⟨hw, fun w _ => by
    unfold execOp
    simp only [ho, hx, hy, Sem.run_bind, run_eqGuard_agg w .eql t x y cs ds hm, he, Result.andThen_ok, Sem.run_pure]⟩
end Go.Proofs.YtiaaeniopjpfpaaGreatDoor

namespace Go.Proofs.YtiaaeniopjpfpaaGreatDoor
open Go.RowKit
set_option linter.unusedVariables false
set_option linter.unusedSimpArgs false

def markNum (b : List UInt8) : Nat := getL ((b.drop 4).take 8)
def markedL (b : List UInt8) : Option (Nat × Nat) := if b = markB (markNum b) 0 then some (markNum b, 0) else if b = markB (markNum b) 1 then some (markNum b, 1) else none
def markedV (r : Option (Nat × Nat)) : Value := match r with
  | none => .tuple #[.int .u64 0, .int .i64 0, .bool false]
  | some x => .tuple #[.int .u64 (x.1 : Nat), .int .i64 (x.2 : Nat), .bool true]
theorem getN_eight (l : List UInt8) (h : l.length = 8) : getN l = getL l := by
  unfold getN
  rw [if_neg (by omega), if_neg (by omega)]
theorem getE_eight (l : List UInt8) (h : l.length = 8) : getE l = 0 := by
  unfold getE
  rw [if_neg (by omega), if_neg (by omega)]
theorem markNum_lt (b : List UInt8) (hb : b.length = 128) : markNum b < 18446744073709551616 := by
  unfold markNum
  exact getL_lt8 _ (by rw [List.length_take]; omega)
/-- Which halves up to k the sector is no mark of. -/
def notMark (b : List UInt8) (k : Nat) : Prop := ∀ h, h < k → b ≠ markB (markNum b) h

set_option maxRecDepth 4000 in
set_option maxHeartbeats 2000000 in
theorem marked_any (b : List UInt8) (hb : b.length = 128) (w : World) (hG : G w) :
    Calls Tryz.prog 81 #[blkV b] w fun e w' => e = .returned (markedV (markedL b)) ∧ Below w.heap.size w w' := by
  obtain ⟨C, hC⟩ : ∃ C, b.map bv = C := ⟨_, rfl⟩
  have hbl : blkV b = .agg C.toArray := by unfold blkV; rw [hC]
  have hsz := blk_sizeK b hb
  have hone := blkV_one b
  rw [hC] at hsz hone
  have hCl : C.length = 128 := by rw [← hC, List.length_map, hb]
  rw [hbl]
  obtain ⟨m, hm⟩ : ∃ m, markNum b = m := ⟨_, rfl⟩
  have hm64 := markNum_lt b hb
  rw [hm] at hm64
  obtain ⟨F, hF⟩ : ∃ F, (b.drop 4).take 8 = F := ⟨_, rfl⟩
  have hFl : F.length = 8 := by rw [← hF, List.length_take, List.length_drop]; omega
  have hFm : getL F = m := by rw [← hF]; exact hm
  have HGet : Hid (∀ W : World, Calls Tryz.prog 99 #[.string (tx F)] W fun e w' => e = .returned (.tuple #[.int .u64 (m : Nat), .int .i64 0]) ∧ W = w') := Lib.hid fun W => by
    have h := Get_any (tx F) W (by rw [tx_size]; omega)
    rw [tx_list, getN_eight F hFl, getE_eight F hFl, hFm] at h
    exact h
  have B0 := (Below.refl w.heap.size w).alloc (Nat.le_refl _) (.cells C.toArray 90)
  have r0 := Row.new w 90 C
  obtain ⟨w1, hw1⟩ : ∃ w1, w.alloc (.cells C.toArray 90) = w1 := ⟨_, rfl⟩
  rw [hw1] at B0 r0
  have HW := Lib.hid (And.intro B0 (And.intro r0 (And.intro hCl (And.intro hsz hone))))
  have HG1 := Lib.hid (hG.below B0)
  have hcv : ∀ src dst, (Tryz.prog.underlying src = some (.slice 5)) → Tryz.prog.underlying dst = some .string → (convert src dst (.slice (some ⟨w.heap.size, 4, none⟩) 8 124)).run Tryz.prog w1 = .ok (.string (tx F)) w1 := fun src dst h1 h2 => by
    refine conv_bytes w1 src dst 5 h1 Tryz.underlying5 h2 w.heap.size 4 8 124 F hFl (fun i hi => ?_)
    rw [r0.cell, ← hC, List.getElem?_map, List.getElem?_map, ← hF, List.getElem?_take, if_pos hi, List.getElem?_drop]
  have hcv2 := hcv 87 9 Tryz.underlying87 Tryz.underlying9
  rw [← hw1] at hcv2
  have HK : Hid (∀ h : Nat, h < 2 → ∀ W, G W → Calls Tryz.prog 89 #[.int .u64 (m : Nat), .int .i64 (h : Nat)] W fun e w' => e = .returned (blkV (markB m h)) ∧ Below W.heap.size W w') := Lib.hid fun h hh W hg => mark_any m h hm64 (by omega) W hg
  have HQ := Lib.hid (And.intro hm (And.intro hC hb))
  have HW1 := Lib.hid hw1
  clear hC hbl hsz hone hCl hm hF hFl hFm B0 r0 hw1 hG hcv
  go_enter Tryz.func81, Tryz.ntmps81
  go_wp2_with fail
  refine (HGet.out _).mono ?_
  rintro e w2 ⟨rfl, rfl⟩
  rw [HW1.out]
  clear hcv2 HW1
  go_wp2_with fail
  go_loopw [14] (fun i wr => ∃ j : Nat, i = .int .i64 j ∧ j ≤ 2 ∧ Hid (notMark b j ∧ Below w1.heap.size w1 wr)) (fun i _ => 2 - (intOf i).toNat)
  case atStart => exact ⟨0, rfl, by omega, Lib.hid ⟨fun h hh => absurd hh (by omega), Below.refl _ _⟩⟩
  case round =>
    obtain ⟨j, rfl, hj, HJ⟩ := hrel
    by_cases hlt : j < 2
    · have hltI : (j : Int) < 2 := by omega
      have HGR := Lib.hid (HG1.out.below HJ.out.2)
      obtain ⟨E, hE⟩ : ∃ E, (markB m j).map bv = E := ⟨_, rfl⟩
      have hEV : blkV (markB m j) = .agg E.toArray := by unfold blkV; rw [hE]
      have HMK : Hid (∀ W, G W → Calls Tryz.prog 89 #[.int .u64 (m : Nat), .int .i64 (j : Nat)] W fun e w' => e = .returned (.agg E.toArray) ∧ Below W.heap.size W w') := Lib.hid fun W hg => by
        have h := HK.out j hlt W hg
        rw [hEV] at h
        exact h
      have rr := HW.out.2.1.below HJ.out.2 HW.out.2.1.lt
      have HLD : Hid (∀ W, Below wr.heap.size wr W → W.rangeAt w.heap.size 0 C) := Lib.hid fun W h k v hk => by
        rw [Nat.zero_add, (rr.below h rr.lt).cell]
        exact hk
      have hcmp := fun W => blk_cmp b (markB m j) HQ.out.2.2 (markB_length m j) W
      unfold blkV at hcmp
      rw [HQ.out.2.1, hE] at hcmp
      have HJ2 := Lib.hid (And.intro hlt hj)
      by_cases heq : b = markB m j
      · rw [decide_eq_true heq] at hcmp
        have HCM := Lib.hid hcmp
        have hres : markedL b = some (m, j) := by
          unfold markedL
          have hnm := HJ.out.1
          rw [HQ.out.1]
          rcases (by omega : j = 0 ∨ j = 1) with rfl | rfl
          · rw [if_pos heq]
          · have h0 := hnm 0 (by omega)
            rw [HQ.out.1] at h0
            rw [if_neg h0, if_pos heq]
        have hfin : markedV (markedL b) = .tuple #[.int .u64 (m : Nat), .int .i64 (j : Nat), .bool true] := by rw [hres]; rfl
        have HFIN := Lib.hid hfin
        clear hres hfin heq hcmp rr hEV hE hlt hj
        go_wp2_with fail
        refine region_quiet_lit (fun W => Below wr.heap.size wr W) (by kernel_rfl) (by kernel_rfl) ⟨rfl, rfl, rfl, Nat.le_refl _, fun _ _ => rfl⟩ ?_
        refine wpQ_yields (.agg C.toArray) (yieldsIf_load_mid (by rfl) 90 (.tmp 1) rfl w.heap.size 0 rfl C _ (fun W h => HLD.out W h) Tryz.underlying90 rfl HW.out.2.2.2.1) ?_
        try simp only [Act.put, List.setIfInBounds_toArray, List.set_cons_zero, List.set_cons_succ]
        refine wpQ_yields (.int .u64 (m : Nat)) (Or.inl ⟨by rfl, fun W' hS => ?yq1⟩) ?_
        case yq1 =>
          go_simp
        try simp only [Act.put, List.setIfInBounds_toArray, List.set_cons_zero, List.set_cons_succ]
        refine wpQ_yields (.int .i64 (j : Nat)) (Or.inl ⟨by rfl, fun W' hS => ?yq2⟩) ?_
        case yq2 =>
          go_simp
        try simp only [Act.put, List.setIfInBounds_toArray, List.set_cons_zero, List.set_cons_succ]
        refine wpQ_call (.agg E.toArray) 89 #[.int .u64 (m : Nat), .int .i64 (j : Nat)] (by rfl) (fun W' => ?yq3) (fun W' hS => ?yr3) ?_
        case yq3 =>
          go_simp
        case yr3 =>
          refine (HMK.out W' (HGR.out.below hS)).mono ?_
          rintro e w2 ⟨rfl, hb2⟩
          exact ⟨rfl, hS.trans (hb2.mono hS.size)⟩
        try simp only [Act.put, List.setIfInBounds_toArray, List.set_cons_zero, List.set_cons_succ]
        refine wpQ_yields (.bool true) (yields_eql2 (by rfl) _ _ _ _ rfl C.toArray E.toArray true rfl rfl (by kernel_rfl) HCM.out) ?_
        try simp only [Act.put, List.setIfInBounds_toArray, List.set_cons_zero, List.set_cons_succ]
        refine wpQuiet_nil ?_
        intro wf hwf
        go_wp2_with fail
        go_ret3
        rw [HFIN.out]
        exact ⟨rfl, HW.out.1.trans ((HJ.out.2.trans (hwf.mono HJ.out.2.size)).mono HW.out.1.size)⟩
      · rw [decide_eq_false heq] at hcmp
        have HCM := Lib.hid hcmp
        have HNX : Hid (notMark b (j + 1)) := Lib.hid fun h hh => by
          rcases Nat.lt_or_ge h j with h1 | h1
          · exact HJ.out.1 h h1
          · have : h = j := by omega
            subst this
            rw [HQ.out.1]
            exact heq
        clear heq hcmp rr hEV hE hlt hj
        go_wp2_with fail
        refine region_quiet_lit (fun W => Below wr.heap.size wr W) (by kernel_rfl) (by kernel_rfl) ⟨rfl, rfl, rfl, Nat.le_refl _, fun _ _ => rfl⟩ ?_
        refine wpQ_yields (.agg C.toArray) (yieldsIf_load_mid (by rfl) 90 (.tmp 1) rfl w.heap.size 0 rfl C _ (fun W h => HLD.out W h) Tryz.underlying90 rfl HW.out.2.2.2.1) ?_
        try simp only [Act.put, List.setIfInBounds_toArray, List.set_cons_zero, List.set_cons_succ]
        refine wpQ_yields (.int .u64 (m : Nat)) (Or.inl ⟨by rfl, fun W' hS => ?yq1⟩) ?_
        case yq1 =>
          go_simp
        try simp only [Act.put, List.setIfInBounds_toArray, List.set_cons_zero, List.set_cons_succ]
        refine wpQ_yields (.int .i64 (j : Nat)) (Or.inl ⟨by rfl, fun W' hS => ?yq2⟩) ?_
        case yq2 =>
          go_simp
        try simp only [Act.put, List.setIfInBounds_toArray, List.set_cons_zero, List.set_cons_succ]
        refine wpQ_call (.agg E.toArray) 89 #[.int .u64 (m : Nat), .int .i64 (j : Nat)] (by rfl) (fun W' => ?yq3) (fun W' hS => ?yr3) ?_
        case yq3 =>
          go_simp
        case yr3 =>
          refine (HMK.out W' (HGR.out.below hS)).mono ?_
          rintro e w2 ⟨rfl, hb2⟩
          exact ⟨rfl, hS.trans (hb2.mono hS.size)⟩
        try simp only [Act.put, List.setIfInBounds_toArray, List.set_cons_zero, List.set_cons_succ]
        refine wpQ_yields (.bool false) (yields_eql2 (by rfl) _ _ _ _ rfl C.toArray E.toArray false rfl rfl (by kernel_rfl) HCM.out) ?_
        try simp only [Act.put, List.setIfInBounds_toArray, List.set_cons_zero, List.set_cons_succ]
        refine wpQuiet_nil ?_
        intro wf hwf
        have HJ3 : Hid (notMark b (j + 1) ∧ Below w1.heap.size w1 wf) := Lib.hid ⟨HNX.out, HJ.out.2.trans (hwf.mono HJ.out.2.size)⟩
        clear hwf
        go_wp2_with fail
        go_roundw
        case rel => exact ⟨j + 1, by go_num, by have := HJ2.out.1; omega, HJ3⟩
        case measure => have := HJ2.out.1; simp [intOf]; omega
    · have hje : j = 2 := by omega
      subst hje
      have hres : markedL b = none := by
        unfold markedL
        have h0 := HJ.out.1 0 (by omega)
        have h1 := HJ.out.1 1 (by omega)
        rw [if_neg h0, if_neg h1]
      have hfin : markedV (markedL b) = .tuple #[.int .u64 0, .int .i64 0, .bool false] := by rw [hres]; rfl
      have HFIN := Lib.hid hfin
      clear hres hfin hlt hj
      go_wp2_with fail
      go_ret3
      rw [HFIN.out]
      exact ⟨rfl, HW.out.1.trans (HJ.out.2.mono HW.out.1.size)⟩
end Go.Proofs.YtiaaeniopjpfpaaGreatDoor

namespace Go.Proofs.YtiaaeniopjpfpaaGreatDoor
open Go.RowKit Go.Maps
set_option linter.unusedVariables false
set_option linter.unusedSimpArgs false

/-- What a log knows beside its disk. -/
structure LG where
  num : Nat
  half : Nat
  count : Nat
  used : Nat
  err : Int
def LG.cells (p : Nat) (g : LG) : List Value := [.pointer (some ⟨p, 0, none⟩), .int .u64 (g.num : Nat), .int .i64 (g.half : Nat), .int .i64 (g.count : Nat), .int .i64 (g.used : Nat), .int .i64 g.err]
/-- The sectors of a half. -/
def secs (D : DS) : Nat := (D.lasts.length - 2) / 2
section
variable {L : Nat → Prop} {w : World} {lp p gl gm : Nat} {hv : Value} {Dm : DataW Unit} {D : DS} {g : LG}
set_option maxRecDepth 4000 in
theorem sectors_any (hr : Row w lp 83 (g.cells p)) (hd : DiskAt L w p gl gm hv Dm D) :
    Calls Tryz.prog 82 #[.pointer (some ⟨lp, 0, none⟩)] w fun e w' => e = .returned (.int .i64 (secs D : Nat)) ∧ w = w' := by
  have c0 := hr.cell 0
  simp only [LG.cells, List.getElem?_cons_zero] at c0
  have HS := Lib.hid (Sectors_any hd)
  have h16 := hd.good.least
  have h4096 := hd.good.most
  obtain ⟨n, hn⟩ : ∃ n, D.lasts.length = n := ⟨_, rfl⟩
  have hsec : secs D = (n - 2) / 2 := by unfold secs; rw [hn]
  rw [hn] at HS h16 h4096
  rw [hsec]
  have hnI : (16 : Int) ≤ (n : Int) := by omega
  have hn4 : (n : Int) ≤ 4096 := by omega
  have hmx : max ((n : Int) - 2) 0 = (n : Int) - 2 := by omega
  have hdv : (((n - 2) / 2 : Nat) : Int) = ((n : Int) - 2) / 2 := by omega
  have HDV := Lib.hid hdv
  clear hr hd hn hsec hdv h16 h4096
  go_enter Tryz.func82, Tryz.ntmps82
  go_wp2_with fail
  refine HS.out.mono ?_
  rintro e w1 ⟨rfl, rfl⟩
  go_wp2
  go_ret
  rw [HDV.out]
  exact ⟨rfl, rfl⟩
theorem secs_le (hd : DiskAt L w p gl gm hv Dm D) : secs D ≤ 2047 ∧ 7 ≤ secs D := by
  have h16 := hd.good.least
  have h4096 := hd.good.most
  unfold secs
  omega
set_option maxRecDepth 4000 in
theorem first_any (hr : Row w lp 83 (g.cells p)) (hd : DiskAt L w p gl gm hv Dm D) (half : Nat) (hh : half ≤ 1) :
    Calls Tryz.prog 83 #[.pointer (some ⟨lp, 0, none⟩), .int .i64 (half : Nat)] w fun e w' => e = .returned (.int .i64 ((2 + half * secs D : Nat) : Int)) ∧ w = w' := by
  have HS := Lib.hid (sectors_any hr hd)
  have hle := secs_le hd
  obtain ⟨n, hn⟩ : ∃ n, secs D = n := ⟨_, rfl⟩
  rw [hn] at HS hle ⊢
  have hnI : (n : Int) ≤ 2047 := by omega
  clear hr hd hn hle
  rcases (by omega : half = 0 ∨ half = 1) with rfl | rfl
  · go_enter Tryz.func83, Tryz.ntmps83
    go_wp2_with fail
    refine HS.out.mono ?_
    rintro e w1 ⟨rfl, rfl⟩
    go_wp2
    go_ret
    exact ⟨ret_int (by omega), rfl⟩
  · go_enter Tryz.func83, Tryz.ntmps83
    go_wp2_with fail
    refine HS.out.mono ?_
    rintro e w1 ⟨rfl, rfl⟩
    go_wp2
    go_ret
    exact ⟨ret_int (by omega), rfl⟩
set_option maxRecDepth 4000 in
theorem size_any (hr : Row w lp 83 (g.cells p)) (hd : DiskAt L w p gl gm hv Dm D) :
    Calls Tryz.prog 45 #[.pointer (some ⟨lp, 0, none⟩)] w fun e w' => e = .returned (.int .i64 ((secs D * 128 : Nat) : Int)) ∧ w = w' := by
  have HS := Lib.hid (sectors_any hr hd)
  have hle := secs_le hd
  obtain ⟨n, hn⟩ : ∃ n, secs D = n := ⟨_, rfl⟩
  rw [hn] at HS hle ⊢
  have hnI : (n : Int) ≤ 2047 := by omega
  clear hr hd hn hle
  go_enter Tryz.func45, Tryz.ntmps45
  go_wp2_with fail
  refine HS.out.mono ?_
  rintro e w1 ⟨rfl, rfl⟩
  go_wp2
  go_ret
  exact ⟨ret_int (by omega), rfl⟩
set_option maxRecDepth 4000 in
theorem Left_any (hr : Row w lp 83 (g.cells p)) (hd : DiskAt L w p gl gm hv Dm D) (hu : g.used ≤ secs D * 128) :
    Calls Tryz.prog 20 #[.pointer (some ⟨lp, 0, none⟩)] w fun e w' => e = .returned (.int .i64 ((secs D * 128 - g.used : Nat) : Int)) ∧ Below w.heap.size w w' := by
  have HS : Hid (∀ W, SB w W → Calls Tryz.prog 45 #[.pointer (some ⟨lp, 0, none⟩)] W fun e w' => e = .returned (.int .i64 ((secs D * 128 : Nat) : Int)) ∧ W = w') := Lib.hid fun W h => size_any (h.row hr) (hd.below h)
  have HU : Hid (∀ W, SB w W → W.cell? ⟨lp, 4, none⟩ = some (.int .i64 (g.used : Nat))) := Lib.hid fun W h => by
    have c4 := (h.row hr).cell 4
    simp only [LG.cells, List.getElem?_cons_zero, List.getElem?_cons_succ] at c4
    exact c4
  have hle := secs_le hd
  obtain ⟨n, hn⟩ : ∃ n, secs D * 128 = n := ⟨_, rfl⟩
  obtain ⟨u, hu2⟩ : ∃ u, g.used = u := ⟨_, rfl⟩
  rw [hu2] at HU
  rw [hn, hu2] at hu ⊢
  rw [hn] at HS
  have hnI : (n : Int) ≤ 1000000 := by omega
  have huI : (u : Int) ≤ (n : Int) := by omega
  have hcast : ((n - u : Nat) : Int) = (n : Int) - (u : Int) := by omega
  rw [hcast]
  clear hr hd hn hle hu2 hcast
  go_enter Tryz.func20, Tryz.ntmps20
  go_wp2_with fail
  refine region_quiet_lit (fun W => Below w.heap.size w W) (by kernel_rfl) (by kernel_rfl) ⟨rfl, rfl, rfl, Nat.le_refl _, fun _ _ => rfl⟩ ?_
  refine wpQ_yields (.pointer (some ⟨lp, 0, none⟩)) (Or.inl ⟨by rfl, fun W' hS => ?yq1⟩) ?_
  case yq1 =>
    go_simp
  try simp only [Act.put, List.setIfInBounds_toArray, List.set_cons_zero, List.set_cons_succ]
  refine wpQ_call (.int .i64 (n : Nat)) 45 #[.pointer (some ⟨lp, 0, none⟩)] (by rfl) (fun W' => ?yq2) (fun W' hS => ?yr2) ?_
  case yq2 =>
    go_simp
  case yr2 =>
    refine (HS.out W' hS).mono ?_
    rintro e wy ⟨rfl, rfl⟩
    exact ⟨rfl, hS⟩
  try simp only [Act.put, List.setIfInBounds_toArray, List.set_cons_zero, List.set_cons_succ]
  refine wpQ_yields (.pointer (some ⟨lp, 0, none⟩)) (Or.inl ⟨by rfl, fun W' hS => ?yq3⟩) ?_
  case yq3 =>
    go_simp
  try simp only [Act.put, List.setIfInBounds_toArray, List.set_cons_zero, List.set_cons_succ]
  refine wpQ_yields (.pointer (some ⟨lp, 0, none⟩)) (Or.inl ⟨by rfl, fun W' hS => ?yq4⟩) ?_
  case yq4 =>
    go_simp
  try simp only [Act.put, List.setIfInBounds_toArray, List.set_cons_zero, List.set_cons_succ]
  refine wpQ_yields (.pointer (some ⟨lp, 4, none⟩)) (Or.inl ⟨by rfl, fun W' hS => ?yq5⟩) ?_
  case yq5 =>
    go_simp
  try simp only [Act.put, List.setIfInBounds_toArray, List.set_cons_zero, List.set_cons_succ]
  refine wpQ_yields (.int .i64 (u : Nat)) (Or.inl ⟨by rfl, fun W' hS => ?yq6⟩) ?_
  case yq6 =>
    have q0 := HU.out W' hS
    go_simp
  try simp only [Act.put, List.setIfInBounds_toArray, List.set_cons_zero, List.set_cons_succ]
  refine wpQ_yields (.int .i64 ((n : Int) - (u : Int))) (Or.inl ⟨by rfl, fun W' hS => ?yq7⟩) ?_
  case yq7 =>
    go_simp
    rw [IntKind.wrap_i64]
    omega
  try simp only [Act.put, List.setIfInBounds_toArray, List.set_cons_zero, List.set_cons_succ]
  refine wpQ_yields (.int .i64 ((n : Int) - (u : Int))) (Or.inl ⟨by rfl, fun W' hS => ?yq8⟩) ?_
  case yq8 =>
    go_simp
  try simp only [Act.put, List.setIfInBounds_toArray, List.set_cons_zero, List.set_cons_succ]
  refine wpQuiet_nil ?_
  intro wf hwf
  go_wp2_with fail
  go_ret
  exact ⟨rfl, hwf⟩
set_option maxRecDepth 4000 in
theorem Count_any (hr : Row w lp 83 (g.cells p)) :
    Calls Tryz.prog 19 #[.pointer (some ⟨lp, 0, none⟩)] w fun e w' => e = .returned (.int .i64 (g.count : Nat)) ∧ w = w' := by
  have c3 := hr.cell 3
  simp only [LG.cells, List.getElem?_cons_zero, List.getElem?_cons_succ] at c3
  clear hr
  go_enter Tryz.func19, Tryz.ntmps19
  go_wp2
  go_ret
  exact ⟨rfl, rfl⟩
set_option maxRecDepth 4000 in
theorem Err_any (hr : Row w lp 83 (g.cells p)) :
    Calls Tryz.prog 18 #[.pointer (some ⟨lp, 0, none⟩)] w fun e w' => e = .returned (.int .i64 g.err) ∧ w = w' := by
  have c5 := hr.cell 5
  simp only [LG.cells, List.getElem?_cons_zero, List.getElem?_cons_succ] at c5
  clear hr
  go_enter Tryz.func18, Tryz.ntmps18
  go_wp2
  go_ret
  exact ⟨rfl, rfl⟩
theorem Count_nil : Calls Tryz.prog 19 #[.pointer none] w fun e w' => e = .returned (.int .i64 0) ∧ w = w' := by
  go_enter Tryz.func19, Tryz.ntmps19
  go_wp2
  go_ret
  exact ⟨rfl, rfl⟩
theorem Left_nil : Calls Tryz.prog 20 #[.pointer none] w fun e w' => e = .returned (.int .i64 0) ∧ w = w' := by
  go_enter Tryz.func20, Tryz.ntmps20
  go_wp2
  go_ret
  exact ⟨rfl, rfl⟩
theorem Err_nil : Calls Tryz.prog 18 #[.pointer none] w fun e w' => e = .returned (.int .i64 1) ∧ w = w' := by
  go_enter Tryz.func18, Tryz.ntmps18
  go_wp2
  go_ret
  exact ⟨rfl, rfl⟩
end
end Go.Proofs.YtiaaeniopjpfpaaGreatDoor

namespace Go.Proofs.YtiaaeniopjpfpaaGreatDoor
open Go.RowKit Go.Maps
set_option linter.unusedVariables false
set_option linter.unusedSimpArgs false

def LG.pick (g : LG) (b : List UInt8) : LG := match markedL b with
  | none => g
  | some x => if g.num ≤ x.1 then { g with num := x.1, half := x.2 } else g
def LG.picks (g : LG) (D : DS) : Nat → LG
  | 0 => g
  | j + 1 => (g.picks D j).pick (D.read (j : Nat))
theorem markedL_bounds {b : List UInt8} (hb : b.length = 128) {x : Nat × Nat} (h : markedL b = some x) : x.1 < 18446744073709551616 ∧ x.2 ≤ 1 := by
  have hm := markNum_lt b hb
  unfold markedL at h
  split at h
  · cases h; exact ⟨hm, by omega⟩
  · split at h
    · cases h; exact ⟨hm, by omega⟩
    · cases h
structure LG.ok (g : LG) : Prop where
  num : g.num < 18446744073709551616
  half : g.half ≤ 1
theorem pick_ok {g : LG} (h : g.ok) {b : List UInt8} (hb : b.length = 128) : (g.pick b).ok := by
  unfold LG.pick
  split
  · exact h
  · rename_i x hx
    have hb := markedL_bounds hb hx
    split
    · exact ⟨hb.1, hb.2⟩
    · exact h
theorem fault_low {D : DS} (hD : D.ok) (hd : D.down = false) (j : Nat) (hj : j < 16) : D.fault (j : Nat) = 0 := by
  have := hD.least
  unfold DS.fault
  rw [hd]
  simp only [Bool.false_eq_true, if_false]
  rw [if_pos ⟨by omega, by omega⟩]
theorem readB_len {D : DS} (hD : D.ok) (hd : D.down = false) (j : Nat) (hj : j < D.lasts.length) : (D.read (j : Nat)).length = 128 := by
  unfold DS.read
  split
  · unfold DS.blk
    split
    · rename_i i hi
      have hl := lastAt_lt hi
      rw [List.getD_eq_getElem?_getD, List.getElem?_eq_getElem hl]
      exact hD.blks _ (List.getElem_mem hl)
    · rw [Int.toNat_natCast]
      exact getD_len hD.rows hj
  · simp [z128]
theorem G.keeps {M : Nat → Prop} {w w' : World} (h : G w) (hk : Keeps M w w') (hM : M 0) : G w' := by
  have hl := Starts.lt h
  obtain ⟨t, fr, h⟩ := h
  exact ⟨t, fr, (hk.block _ hl hM).trans h⟩
section
variable {L : Nat → Prop} {w : World} {lp p gl gm : Nat} {hv : Value} {Dm : DataW Unit} {D : DS} {g : LG}
set_option maxRecDepth 20000 in
set_option maxHeartbeats 2000000 in
theorem choose_any (hG : G w) (hgs : 0 ≠ lp) (hr : Row w lp 83 (g.cells p)) (hd : DiskIs (fun k => k = lp) w p D) (hdn : D.down = false) (hg : g.ok) :
    Calls Tryz.prog 42 #[.pointer (some ⟨lp, 0, none⟩)] w fun e w' => e = .returned (.int .i64 0) ∧ Row w' lp 83 ((g.picks D 2).cells p) ∧ Keeps (fun k => k ≠ lp) w w' := by
  have hz := (zero_of_info zB_info).1
  obtain ⟨gl0, gm0, hv0, Dm0, hd0⟩ := id hd
  have hgood := hd0.good
  have HD := Lib.hid (And.intro hd (And.intro hgood (And.intro hdn (And.intro hG hgs))))
  have HR0 : Hid (Row w lp 83 ((g.picks D 0).cells p) ∧ Keeps (fun k => k ≠ lp) w w ∧ (g.picks D 0).ok) := Lib.hid ⟨hr, Keeps.refl _ _, hg⟩
  obtain ⟨Z, hZ⟩ : ∃ Z, zB = Z := ⟨_, rfl⟩
  have hZl : Z.length = 128 := by rw [← hZ]; exact zB_len
  rw [hZ] at hz
  have HZ := Lib.hid hZl
  clear hr hd hd0 hgood hdn hG hgs hg hZ hZl
  go_enter Tryz.func42, Tryz.ntmps42
  go_wp2_with fail
  go_loopw [9] (fun i wr => ∃ j : Nat, i = .int .i64 j ∧ j ≤ 2 ∧ Hid (Row wr lp 83 ((g.picks D j).cells p) ∧ Keeps (fun k => k ≠ lp) w wr ∧ (g.picks D j).ok)) (fun i _ => 2 - (intOf i).toNat)
  case atStart => exact ⟨0, rfl, by omega, HR0⟩
  case round =>
    obtain ⟨j, rfl, hj, HJ⟩ := hrel
    by_cases hlt : j < 2
    · have hltI : (j : Int) < 2 := by omega
      obtain ⟨gj, hgj⟩ : ∃ gj, g.picks D j = gj := ⟨_, rfl⟩
      rw [hgj] at HJ
      have hnext : g.picks D (j + 1) = gj.pick (D.read (j : Nat)) := by rw [← hgj]; rfl
      have c0 := HJ.out.1.cell 0
      simp only [LG.cells, List.getElem?_cons_zero] at c0
      have hdw : DiskIs (fun k => k = lp) wr p D := HD.out.1.keeps HJ.out.2.1 (fun q _ h2 => h2)
      obtain ⟨gl1, gm1, hv1, Dm1, hd1⟩ := hdw
      have hf := fault_low HD.out.2.1 HD.out.2.2.1 j (by omega)
      have hbl := readB_len HD.out.2.1 HD.out.2.2.1 j (by have := HD.out.2.1.least; omega)
      obtain ⟨B, hB⟩ : ∃ B, D.read (j : Nat) = B := ⟨_, rfl⟩
      have hRD := Read_any hd1 (j : Nat)
      rw [hf, hB] at hRD
      rw [hB] at hbl hnext
      obtain ⟨C, hC⟩ : ∃ C, B.map bv = C := ⟨_, rfl⟩
      have hV : blkV B = .agg C.toArray := by unfold blkV; rw [hC]
      rw [hV] at hRD
      have HRD := Lib.hid hRD
      have hsz := blk_sizeK B hbl
      have hone := blkV_one B
      rw [hC] at hsz hone
      have hCl : C.length = 128 := by rw [← hC, List.length_map, hbl]
      have HC := Lib.hid (And.intro hsz (And.intro hone hCl))
      have HMK : Hid (∀ W, G W → Calls Tryz.prog 81 #[.agg C.toArray] W fun e w' => e = .returned (markedV (markedL B)) ∧ Below W.heap.size W w') := Lib.hid fun W hg2 => by
        have h := marked_any B hbl W hg2
        rw [hV] at h
        exact h
      have HGW : Hid (G wr) := Lib.hid (HD.out.2.2.2.1.keeps HJ.out.2.1 HD.out.2.2.2.2)
      have HNX := Lib.hid (And.intro hnext (And.intro hlt hbl))
      have HNEW : Hid (∀ W : World, Row (W.alloc (.cells Z.toArray 90)) W.heap.size 90 Z ∧ Below W.heap.size W ((W.alloc (.cells Z.toArray 90)).setRow W.heap.size C.toArray) ∧ Row ((W.alloc (.cells Z.toArray 90)).setRow W.heap.size C.toArray) W.heap.size 90 C) := Lib.hid fun W =>
        ⟨Row.new W 90 Z, below_setRow (B := W.heap.size) ((Below.refl W.heap.size W).alloc (Nat.le_refl _) _) (Nat.le_refl _) _, (Row.new W 90 Z).put _⟩
      clear hgj hnext hd1 hf hbl hB hRD hC hV hsz hone hCl hlt hj
      go_wp2_with fail
      refine HRD.out.mono ?_
      rintro e w2 ⟨rfl, hb2⟩
      have HB2 := Lib.hid hb2
      clear hb2
      go_wp2_with (first
        | (refine wpList_store_row rfl 90 (.tmp 4) (.tmp 19) rfl w2.heap.size C.toArray rfl rfl 90 Z.toArray (HNEW.out w2).1 (by rw [List.size_toArray]; exact HC.out.1) (by rw [List.size_toArray, List.size_toArray, HZ.out, HC.out.2.2]) HC.out.2.1 ?_; have hN := (HNEW.out w2).2; generalize (w2.alloc (.cells Z.toArray 90)).setRow w2.heap.size C.toArray = w3 at hN ⊢; have HN := Lib.hid (And.intro (HB2.out.trans (hN.1.mono HB2.out.size)) hN.2); have HRG : Hid (w3.rangeAt w2.heap.size 0 C) := Lib.hid (fun k v hk => by rw [Nat.zero_add, HN.out.2.cell]; exact hk); clear hN)
        | (with_reducible refine wpList_load_mid rfl 90 (.tmp 4) rfl w2.heap.size 0 rfl C _ HRG.out Tryz.underlying90 rfl HC.out.1 ?_)
        | fail)
      refine (HMK.out _ (HGW.out.below HN.out.1)).mono ?_
      rintro e w4 ⟨rfl, hb4⟩
      have HB4 := Lib.hid (HN.out.1.trans (hb4.mono HN.out.1.size))
      clear hb4
      have r4 := HJ.out.1.below HB4.out HJ.out.1.lt
      have k4 := HJ.out.2.1.trans (Keeps.of_below (L := fun k => k ≠ lp) HB4.out (fun k hk _ => hk))
      obtain ⟨gn, hgn⟩ : ∃ gn, gj.num = gn := ⟨_, rfl⟩
      have c1 := r4.cell 1
      have c2 := r4.cell 2
      have f1 := r4.frozen 1
      have f2 := r4.frozen 2
      simp only [LG.cells, List.getElem?_cons_zero, List.getElem?_cons_succ] at c1 c2
      rw [hgn] at c1
      have H4 := Lib.hid (And.intro r4 (And.intro k4 hgn))
      clear r4 k4 hgn
      cases hml : markedL B with
      | none =>
        have HFIN : Hid (Row w4 lp 83 ((g.picks D (j + 1)).cells p) ∧ Keeps (fun k => k ≠ lp) w w4 ∧ (g.picks D (j + 1)).ok) := Lib.hid (by
          have e : g.picks D (j + 1) = gj := by rw [HNX.out.1]; unfold LG.pick; rw [hml]
          rw [e]
          exact ⟨H4.out.1, H4.out.2.1, HJ.out.2.2⟩)
        rw [show markedV none = .tuple #[.int .u64 0, .int .i64 0, .bool false] from rfl]
        clear hml
        go_wp2_with fail
        go_roundw
        case rel => exact ⟨j + 1, by go_num, by have := HNX.out.2.1; omega, HFIN⟩
        case measure => have := HNX.out.2.1; simp [intOf]; omega
      | some x =>
        obtain ⟨xn, xh⟩ := x
        rw [show markedV (some (xn, xh)) = .tuple #[.int .u64 (xn : Nat), .int .i64 (xh : Nat), .bool true] from rfl]
        by_cases hge : gn ≤ xn
        · have HFIN : Hid (∀ W : World, W = (w4.setCell ⟨lp, 1, none⟩ (.int .u64 (xn : Nat))).setCell ⟨lp, 2, none⟩ (.int .i64 (xh : Nat)) → Row W lp 83 ((g.picks D (j + 1)).cells p) ∧ Keeps (fun k => k ≠ lp) w W ∧ (g.picks D (j + 1)).ok) := Lib.hid fun W hW => by
            have e : g.picks D (j + 1) = { gj with num := xn, half := xh } := by rw [HNX.out.1]; unfold LG.pick; rw [hml]; simp only []; rw [if_pos (by rw [H4.out.2.2]; exact hge)]
            have hok := pick_ok HJ.out.2.2 HNX.out.2.2
            rw [← HNX.out.1] at hok
            rw [e] at hok ⊢
            subst hW
            refine ⟨?_, (H4.out.2.1.setCell (p := ⟨lp, 1, none⟩) (.inl (fun h => h rfl)) _).setCell (p := ⟨lp, 2, none⟩) (.inl (fun h => h rfl)) _, hok⟩
            have h := (H4.out.1.set 1 (.int .u64 (xn : Nat))).set 2 (.int .i64 (xh : Nat))
            simpa [LG.cells] using h
          have hgeI : (gn : Int) ≤ (xn : Int) := by omega
          clear hml hge
          go_wp2_with fail
          go_roundw
          case rel => exact ⟨j + 1, by go_num, by have := HNX.out.2.1; omega, Lib.hid (HFIN.out _ rfl)⟩
          case measure => have := HNX.out.2.1; simp [intOf]; omega
        · have HFIN : Hid (Row w4 lp 83 ((g.picks D (j + 1)).cells p) ∧ Keeps (fun k => k ≠ lp) w w4 ∧ (g.picks D (j + 1)).ok) := Lib.hid (by
            have e : g.picks D (j + 1) = gj := by rw [HNX.out.1]; unfold LG.pick; rw [hml]; simp only []; rw [if_neg (by rw [H4.out.2.2]; exact hge)]
            rw [e]
            exact ⟨H4.out.1, H4.out.2.1, HJ.out.2.2⟩)
          have hgeI : ¬ (gn : Int) ≤ (xn : Int) := by omega
          clear hml hge
          go_wp2_with fail
          go_roundw
          case rel => exact ⟨j + 1, by go_num, by have := HNX.out.2.1; omega, HFIN⟩
          case measure => have := HNX.out.2.1; simp [intOf]; omega
    · have hje : j = 2 := by omega
      subst hje
      clear hlt hj
      go_wp2_with fail
      go_ret
      exact ⟨rfl, HJ.out.1, HJ.out.2.1⟩
end
end Go.Proofs.YtiaaeniopjpfpaaGreatDoor

namespace Go.Proofs.YtiaaeniopjpfpaaGreatDoor
open Go.RowKit Go.Maps Go.Shelf
set_option linter.unusedVariables false
set_option linter.unusedSimpArgs false
attribute [local go_sem] Oper.semAt_some

/-- The texts of the bytes from a place on, each with the place behind its frame. -/
def framesF : Nat → Nat → Nat → List UInt8 → List (Nat × List UInt8)
  | 0, _, _, _ => []
  | k + 1, n, e, s => match framedL n s with
    | none => []
    | some t => (e + (t.length + 28), t) :: framesF k (n + 1) (e + (t.length + 28)) (s.drop (t.length + 28))
def framesL (s : List UInt8) : List (Nat × List UInt8) := framesF s.length 1 0 s
theorem framesF_none {k n e : Nat} {s : List UInt8} (h : framedL n s = none) : framesF k n e s = [] := by
  cases k with
  | zero => rfl
  | succ k => unfold framesF; rw [h]
theorem framesF_some {k n e : Nat} {s t : List UInt8} (h : framedL n s = some t) : framesF (k + 1) n e s = (e + (t.length + 28), t) :: framesF k (n + 1) (e + (t.length + 28)) (s.drop (t.length + 28)) := by
  rw [framesF, h]
theorem framesF_length (k n e : Nat) (s : List UInt8) : (framesF k n e s).length ≤ k := by
  induction k generalizing n e s with
  | zero => exact Nat.le_refl _
  | succ k ih =>
    cases h : framedL n s with
    | none => rw [framesF_none h]; exact Nat.zero_le _
    | some t => rw [framesF_some h, List.length_cons]; exact Nat.succ_le_succ (ih _ _ _)
theorem framedL_le {n : Nat} {s t : List UInt8} (h : framedL n s = some t) : t.length + 28 ≤ s.length := by
  unfold framedL at h
  split at h
  · cases h
  · split at h
    · cases h
    · split at h
      · cases h
        rw [List.length_take, List.length_drop]
        omega
      · cases h
abbrev encF (x : Nat × List UInt8) : Array Value := #[.int .i64 (x.1 : Nat), .string (tx x.2)]
def KeepsF (Bn : Nat) (W W' : World) : Prop := W'.heap[Bn]? = W.heap[Bn]? ∧ W'.heap[0]? = W.heap[0]?
theorem keepsF_t {Bn : Nat} {A B C : World} (h : KeepsF Bn A B) (k : KeepsF Bn B C) : KeepsF Bn A C := ⟨k.1.trans h.1, k.2.trans h.2⟩
theorem keepsF_b {Bn : Nat} {w : World} (hn : Bn < w.heap.size) (hg : 0 < w.heap.size) (W : World) (l : Nat) (o o' : Obj) (hl : w.heap.size ≤ l) (h : W.heap[l]? = some o) (h1 : o.isCells = false) (hw : o.isWalk = false) : KeepsF Bn W (W.putObj l o') :=
  ⟨World.putObj_heap_other (by omega), World.putObj_heap_other (by omega)⟩
theorem G.same {w w' : World} (h : G w) (he : w'.heap[0]? = w.heap[0]?) : G w' := by
  obtain ⟨t, fr, h⟩ := h
  exact ⟨t, fr, he.trans h⟩
theorem grownBy_below {W W' : World} (h : Below W.heap.size W W') (row : Option Nat) : W.grownBy W' row := ⟨h.os, h.tape, h.output, h.size, fun j hj _ => h.block j hj⟩

set_option maxRecDepth 100000 in
set_option maxHeartbeats 1000000 in
theorem Frames1_in (n : Nat) (hn : 1 ≤ n) (l Bn : Nat) (s : List UInt8) (hs : s.length ≤ 1000000000) (J Jx : List (Nat × List UInt8) → World → Prop)
    (hY : ∀ pre x W, J pre W → (pre ++ [x]) <+: framesL s → YieldAt Fence.wide (n - 1) Tryz.prog l (encF x) W fun e W' =>
      (e = .returned (.bool true) ∧ J (pre ++ [x]) W' ∧ KeepsF Bn W W') ∨ (e = .returned (.bool false) ∧ Jx (pre ++ [x]) W'))
    (W : World) (hJ : AbidesFrom W.heap.size J) (hG : G W) (hBn : W.heap[Bn]? = some (.cells #[.string (tx s)] 9 (0, 0))) (h0 : J [] W) :
    CallsIn Fence.wide n Tryz.prog 64 #[.func (.yield l) #[] #[], .pointer (some ⟨Bn, 0, none⟩)] W fun e W' => (∃ v, e = .returned v) ∧
      ((∃ ys, ys = framesL s ∧ J ys W') ∨ (∃ pre, pre <+: framesL s ∧ Jx pre W')) := by
  obtain ⟨k, hk⟩ : ∃ k, s.length = k := ⟨_, rfl⟩
  have hsz : (tx s).size = k := by rw [tx_size, hk]
  have hkI : (k : Int) ≤ 1000000000 := by omega
  refine callsIn_of_wp Tryz.func64 rfl trivial ?_ rfl
  simp only [Tryz.ntmps64, List.size_toArray, List.length_cons, List.length_nil, Nat.reduceAdd, Nat.reduceSub, Array.replicate_succ, Array.replicate_zero, List.push_toArray, List.append_toArray, List.nil_append, List.cons_append]
  gi_wp2
  gi_loopw [3, 4] (fun i m wr => ∃ (pre : List (Nat × List UInt8)) (e q : Nat), i = .int .i64 (e : Nat) ∧ m = .int .i64 ((pre.length : Int) + 1) ∧ e ≤ k ∧ pre.length ≤ e ∧ k ≤ q + e ∧ Hid (framesL s = pre ++ framesF q (pre.length + 1) e (s.drop e)) ∧ wr.heap[Bn]? = some (.cells #[.string (tx s)] 9 (0, 0)) ∧ G wr ∧ J pre wr)
    (fun i _ _ => k - (intOf i).toNat)
  case atStart =>
    exact ⟨[], 0, k, rfl, rfl, Nat.zero_le _, Nat.le_refl _, Nat.le_refl _, Lib.hid (by unfold framesL; rw [hk]; rfl), hBn, hG, h0⟩
  case round =>
    obtain ⟨pre, e, q, rfl, rfl, he, hpe, hq, HX, hbx, hGr, hJs⟩ := hrel
    have hd1 : wr.cell? ⟨Bn, 0, none⟩ = some (.string (tx s)) := by simp [World.cell?, hbx]
    obtain ⟨R, hR⟩ : ∃ R, s.drop e = R := ⟨_, rfl⟩
    have hRl : R.length = k - e := by rw [← hR, List.length_drop, hk]
    have hcut : (tx s).extract e k = tx R := by rw [tx_cut s e k he (by omega), List.take_of_length_le (by omega), hR]
    rw [hR] at HX
    have heI : (e : Int) ≤ (k : Int) := by omega
    have hplI : (pre.length : Int) ≤ (e : Int) := by omega
    have HF := framed_any (pre.length + 1) R (by omega) (by omega) wr hGr
    rw [show ((pre.length + 1 : Nat) : Int) = (pre.length : Int) + 1 by omega] at HF
    obtain ⟨S, hS⟩ : ∃ S, tx s = S := ⟨_, rfl⟩
    rw [hS] at hsz hd1 hcut hbx
    cases hf : framedL (pre.length + 1) R with
    | none =>
      rw [hf, show framedV none = .tuple #[.string ⟨#[]⟩, .bool false] from rfl] at HF
      have HF := Lib.hid HF
      have HE : Hid (pre = framesL s) := Lib.hid (by rw [HX.out, framesF_none hf, List.append_nil])
      have HJ : Hid (∀ w2, Below wr.heap.size wr w2 → J pre w2) := Lib.hid fun w2 hb => hJ pre wr w2 none hJs (grownBy_below hb none) (fun r e => by cases e)
      clear hf HX hGr hJs hR hRl
      gi_wp2_with (refine ⟨trivial, ?_⟩; gi_at_call 65; refine (callsIn_wide.2 HF.out).mono ?_; rintro e2 w2 ⟨rfl, hb2⟩)
      refine bodyPost_ret (results_none rfl _ _ _) rfl ?_
      exact ⟨⟨_, rfl⟩, .inl ⟨pre, HE.out, HJ.out _ hb2⟩⟩
    | some t =>
      have htl := framedL_le hf
      obtain ⟨c, hc⟩ : ∃ c, t.length = c := ⟨_, rfl⟩
      rw [hc] at htl
      obtain ⟨q, rfl⟩ : ∃ q', q = q' + 1 := ⟨q - 1, by omega⟩
      have hX2 := HX.out
      rw [framesF_some hf, hc] at hX2
      have hdr : R.drop (c + 28) = s.drop (e + (c + 28)) := by rw [← hR, List.drop_drop]
      have HX2 : Hid (framesL s = (pre ++ [(e + (c + 28), t)]) ++ framesF q ((pre ++ [(e + (c + 28), t)]).length + 1) (e + (c + 28)) (s.drop (e + (c + 28)))) := Lib.hid (by rw [hX2, hdr]; simp)
      rw [hf, show framedV (some t) = .tuple #[.string (tx t), .bool true] from rfl] at HF
      have HF := Lib.hid HF
      have HN : Hid (∀ W', Calls Tryz.prog 28 #[.int .i64 (c : Nat)] W' fun e w' => e = .returned (.int .i64 ((c : Int) + 28)) ∧ W' = w') := Lib.hid fun W' => Need_any c (by omega) W'
      have hts : (tx t).size = c := by rw [tx_size, hc]
      have HJ : Hid (∀ w2, Below wr.heap.size wr w2 → YieldAt Fence.wide (n - 1) Tryz.prog l (encF (e + (c + 28), t)) w2 fun e' W' =>
          (e' = .returned (.bool true) ∧ J (pre ++ [(e + (c + 28), t)]) W' ∧ KeepsF Bn w2 W') ∨ (e' = .returned (.bool false) ∧ Jx (pre ++ [(e + (c + 28), t)]) W')) :=
        Lib.hid fun w2 hb => hY pre (e + (c + 28), t) w2 (hJ pre wr w2 none hJs (grownBy_below hb none) (fun r e => by cases e)) ⟨_, HX2.out.symm⟩
      have HK : Hid (∀ w2, Below wr.heap.size wr w2 → w2.heap[Bn]? = some (.cells #[.string S] 9 (0, 0)) ∧ G w2) := Lib.hid fun w2 hb => ⟨(hb.block Bn (Array.getElem?_eq_some_iff.1 hbx).1).trans hbx, hGr.below hb⟩
      have hcI : (e : Int) + ((c : Int) + 28) ≤ (k : Int) := by omega
      clear hf HX hX2 hdr hGr hJs hR hRl hJ hY
      obtain ⟨T, hT⟩ : ∃ T, tx t = T := ⟨_, rfl⟩
      rw [hT] at hts HF
      gi_wp2_with (refine ⟨trivial, ?_⟩; gi_at_call 65; refine (callsIn_wide.2 HF.out).mono ?_; rintro e2 w2 ⟨rfl, hb2⟩)
      obtain ⟨fn, tmps, assign, body, hy, hR⟩ := HJ.out w2 hb2
      dsimp only [encF] at hy
      rw [hT, show ((e + (c + 28) : Nat) : Int) = (e : Int) + ((c : Int) + 28) by omega] at hy
      gi_wp2_with (refine ⟨trivial, ?_⟩; gi_at_call 28; refine (callsIn_wide.2 (HN.out _)).mono ?_; rintro e3 w3 ⟨rfl, rfl⟩)
      refine hR.mono ?_
      rintro e4 W3 (⟨rfl, hJ3, hk3⟩ | ⟨rfl, hJx3⟩)
      · gi_wp2
        go_roundw
        case rel => exact ⟨pre ++ [(e + (c + 28), t)], e + (c + 28), q, by go_num, by rw [List.length_append]; go_num, by omega, by rw [List.length_append, List.length_singleton]; omega, by omega, HX2, hk3.1.trans (by rw [hS]; exact (HK.out _ hb2).1), (HK.out _ hb2).2.same hk3.2, hJ3⟩
        case measure => simp [intOf]; omega
      · gi_wp2
        refine bodyPost_ret (results_none rfl _ _ _) rfl ?_
        exact ⟨⟨_, rfl⟩, .inr ⟨pre ++ [(e + (c + 28), t)], ⟨_, HX2.out.symm⟩, hJx3⟩⟩

set_option maxHeartbeats 1000000 in
theorem Frames_in (n : Nat) (s : ByteArray) (w : World) :
    CallsIn Fence.wide n Tryz.prog 27 #[.string s] w fun e w' => e = .returned (.func (.func 64) #[] #[.pointer (some ⟨w.heap.size, 0, none⟩)]) ∧ w' = w.alloc (.cells #[.string s] 9) := by
  refine callsIn_of_wp Tryz.func27 rfl trivial ?_ rfl
  simp only [Tryz.ntmps27, List.size_toArray, List.length_cons, List.length_nil, Nat.reduceAdd, Nat.reduceSub, Array.replicate_succ, Array.replicate_zero, List.push_toArray, List.append_toArray, List.nil_append, List.cons_append]
  gi_wp2
  go_ret
  exact ⟨rfl, rfl⟩

theorem Frames_stops (n : Nat) (hn : 1 ≤ n) (Bn : Nat) (s : List UInt8) (hs : s.length ≤ 1000000000) (w : World) (hG : G w)
    (hb : w.heap[Bn]? = some (.cells #[.string (tx s)] 9 (0, 0))) :
    SeqStopsK Fence.wide n Tryz.prog 64 #[.pointer (some ⟨Bn, 0, none⟩)] encF (KeepsF Bn) (fun ys => ys = framesL s) (fun pre => pre <+: framesL s) s.length w := fun l J Jx W hW hJ _ hY h0 => by
  refine (Frames1_in n hn l Bn s hs J Jx (fun pre x W1 hp hl => hY pre x W1 hp ?_) W hJ (hG.below hW) ((hW.block Bn (Array.getElem?_eq_some_iff.1 hb).1).trans hb) h0).mono ?_
  · have h1 := hl.length_le
    have h2 : (framesL s).length ≤ s.length := framesF_length _ _ _ _
    rw [List.length_append, List.length_singleton] at h1
    omega
  · rintro e W' ⟨hv, (⟨ys, h, hj⟩ | ⟨pre, h, hj⟩)⟩
    · exact ⟨hv, .inl ⟨ys, h, hj⟩⟩
    · exact ⟨hv, .inr ⟨pre, h, hj⟩⟩
end Go.Proofs.YtiaaeniopjpfpaaGreatDoor

namespace Go.Proofs.YtiaaeniopjpfpaaGreatDoor
open Go Go.Shelf Go.RowKit
def Tryz.lays162_ren : Go.Shelf.Ren := ⟨fun | 162 => 86 | 232 => 113 | 227 => 114 | 234 => 115 | 236 => 116 | 228 => 135 | 271 => 136 | 151 => 137 | 120 => 152 | 197 => 153 | 152 => 154 | 260 => 173 | 137 => 174 | 119 => 175 | 224 => 176 | 225 => 177 | 217 => 188 | 266 => 193 | n => n, fun | 9 => 9 | 4 => 4 | 3 => 3 | 5 => 5 | 117 => 165 | 116 => 164 | 0 => 0 | 124 => 168 | 21 => 21 | 105 => 187 | 46 => 169 | 119 => 235 | 139 => 238 | 138 => 237 | n => n, fun | 3 => 2 | 4 => 3 | n => n⟩
theorem Tryz.lays162 : Go.Proofs.Lays.n162 Tryz.prog Tryz.lays162_ren := {
  mixed := by kernel_rfl
  f119 := Tryz.func175.trans (congrArg some (by kernel_rfl))
  f120 := Tryz.func152.trans (congrArg some (by kernel_rfl))
  f137 := Tryz.func174.trans (congrArg some (by kernel_rfl))
  f151 := Tryz.func137.trans (congrArg some (by kernel_rfl))
  f152 := Tryz.func154.trans (congrArg some (by kernel_rfl))
  f162 := Tryz.func86.trans (congrArg some (by kernel_rfl))
  f197 := Tryz.func153.trans (congrArg some (by kernel_rfl))
  f217 := Tryz.func188.trans (congrArg some (by kernel_rfl))
  f224 := Tryz.func176.trans (congrArg some (by kernel_rfl))
  f225 := Tryz.func177.trans (congrArg some (by kernel_rfl))
  f227 := Tryz.func114.trans (congrArg some (by kernel_rfl))
  f228 := Tryz.func135.trans (congrArg some (by kernel_rfl))
  f232 := Tryz.func113.trans (congrArg some (by kernel_rfl))
  f234 := Tryz.func115.trans (congrArg some (by kernel_rfl))
  f236 := Tryz.func116.trans (congrArg some (by kernel_rfl))
  f260 := Tryz.func173.trans (congrArg some (by kernel_rfl))
  f266 := Tryz.func193.trans (congrArg some (by kernel_rfl))
  f271 := Tryz.func136.trans (congrArg some (by kernel_rfl))
  t0 := Tryz.underlying0
  a0 := Tryz.isAgg0
  z0 := Tryz.sizeOf0
  v0 := Tryz.zeroValue0
  t3 := Tryz.underlying3
  a3 := Tryz.isAgg3
  z3 := Tryz.sizeOf3
  v3 := Tryz.zeroValue3
  t4 := Tryz.underlying4
  a4 := Tryz.isAgg4
  z4 := Tryz.sizeOf4
  v4 := Tryz.zeroValue4
  t5 := Tryz.underlying5
  a5 := Tryz.isAgg5
  z5 := Tryz.sizeOf5
  v5 := Tryz.zeroValue5
  t9 := Tryz.underlying9
  a9 := Tryz.isAgg9
  z9 := Tryz.sizeOf9
  v9 := Tryz.zeroValue9
  t21 := Tryz.underlying21
  a21 := Tryz.isAgg21
  z21 := Tryz.sizeOf21
  v21 := Tryz.zeroValue21
  t46 := Tryz.underlying169
  a46 := Tryz.isAgg169
  z46 := Tryz.sizeOf169
  v46 := Tryz.zeroValue169
  t105 := Tryz.underlying187
  a105 := Tryz.isAgg187
  z105 := Tryz.sizeOf187
  v105 := Tryz.zeroValue187
  t116 := Tryz.underlying164
  a116 := Tryz.isAgg164
  z116 := Tryz.sizeOf164
  t117 := Tryz.underlying165
  a117 := Tryz.isAgg165
  z117 := Tryz.sizeOf165
  v117 := Tryz.zeroValue165
  t119 := Tryz.underlying235
  a119 := Tryz.isAgg235
  z119 := Tryz.sizeOf235
  t124 := Tryz.underlying168
  a124 := Tryz.isAgg168
  z124 := Tryz.sizeOf168
  v124 := Tryz.zeroValue168
  t138 := Tryz.underlying237
  a138 := Tryz.isAgg237
  z138 := Tryz.sizeOf237
  v138 := Tryz.zeroValue237
  t139 := Tryz.underlying238
  a139 := Tryz.isAgg238
  z139 := Tryz.sizeOf238
  v139 := Tryz.zeroValue238
  g3 := by kernel_rfl
  g4 := by kernel_rfl }
open Go.RowKit in
theorem Tryz.strings_TrimRight_one (s : ByteArray) (c : UInt8) (hc : c.toNat < 128) (w : World) (hs : s.size ≤ 9223372036854775807) :
    Calls Tryz.prog 86 #[.string s, .string ⟨#[c]⟩] w fun e w' => e = .returned (.string ⟨(Lib.trimRightB s.data.toList c).toArray⟩) ∧ w' = w := Any.strings_TrimRight_one Tryz.lays162 s c hc w hs
end Go.Proofs.YtiaaeniopjpfpaaGreatDoor

namespace Go.Proofs.YtiaaeniopjpfpaaGreatDoor
open Go.RowKit Go.Maps
set_option linter.unusedVariables false
set_option linter.unusedSimpArgs false

/-- A text laid over a row, as much of it as goes. -/
theorem copy_row_min {P : Program} {W : World} (dT sT ty elem : TypeId) (g o dLen dCap n : Nat) (s : ByteArray) (cur : List Value) (t : TypeId)
    (hu : P.underlying dT = some (.slice elem)) (hs : (P.info? elem).map (·.size) = some 1) (h : Row W g t cur) (hn : Nat.min s.size dLen = n) (hfit : o + n ≤ cur.length) :
    (Builtin.copy_ #[dT, sT] ty #[.slice (some ⟨g, o, none⟩) dLen dCap, .string s]).run P W = .ok (goInt n) (W.setRow g (over cur o (s.data.toList.take n)).toArray) := by
  have hns : n ≤ s.size := by rw [← hn]; exact Nat.min_le_left _ _
  have hlen : (Lib.byteCells (s.data.toList.take n)).length = n := by rw [Lib.byteCells_length, List.length_take]; simp; omega
  have hst := run_storeCells_at P g o t (Lib.byteCells (s.data.toList.take n)) 0 cur.toArray W h (by rw [hlen]; simpa using hfit) (Lib.byteCells_one _)
  have htk : List.take n (List.map (fun b : UInt8 => Value.int IntKind.u8 (b.toNat : Int)) s.data.toList) = Lib.byteCells (s.data.toList.take n) := by
    rw [← List.map_take]
    rfl
  rw [hlen] at hst
  simp only [Nat.add_zero] at hst
  have hov : over cur o (s.data.toList.take n) = cur.take o ++ Lib.byteCells (s.data.toList.take n) ++ cur.drop (o + n) := by
    unfold over
    rw [List.length_take, show min n s.data.toList.length = n by simp; omega]
    rfl
  cases hq : P.info? elem with
  | none => simp [hq] at hs
  | some i =>
    have h1 : i.size = 1 := by simpa [hq] using hs
    simp [Builtin.copy_, run_underlying hu, Builtin.lenOf, Builtin.firstCells, sizeOf, typeInfo, hq, hn, h1]
    rw [htk, hst, hov]
    simp [Result.andThen]

def pad128 (l : List UInt8) : List UInt8 := l.take 128 ++ List.replicate (128 - l.length) 0
theorem pad128_length (l : List UInt8) : (pad128 l).length = 128 := by
  unfold pad128
  rw [List.length_append, List.length_take, List.length_replicate]
  omega
/-- The pieces of l written from a sector on, n of them at most, and a sync: the disk behind it, the error. -/
def putG : Nat → DS → Nat → List UInt8 → DS × Int
  | 0, D, _, _ => (D.synced, D.stepErr)
  | n + 1, D, a, l => if l = [] then (D.synced, D.stepErr) else if D.writeErr (a : Nat) ≠ 0 then (D.written (a : Nat) (pad128 l), D.writeErr (a : Nat)) else putG n (D.written (a : Nat) (pad128 l)) (a + 1) (l.drop 128)
theorem putG_nil (n : Nat) (D : DS) (a : Nat) : putG n D a [] = (D.synced, D.stepErr) := by
  cases n with
  | zero => rfl
  | succ n => unfold putG; rw [if_pos rfl]
section
variable {L : Nat → Prop} {w : World} {lp p gl gm : Nat} {hv : Value} {Dm : DataW Unit} {D : DS} {g : LG}
/-- The length of a text, for a measure. -/
def strLen : Value → Nat
  | .string b => b.size
  | _ => 0
/-- The loop of the pieces. -/
structure PuR (L : Nat → Prop) (w : World) (lp p : Nat) (g : LG) (T : DS × Int) (s0 : Nat) (wr : World) (n a : Nat) (l : List UInt8) (D : DS) : Prop where
  disk : DiskIs L wr p D
  keep : Keeps L w wr
  tgt : putG n D a l = T
  len : l.length ≤ n * 128
  steps : D.steps + n ≤ s0
  hangs : D.hangs.length + n ≤ s0
  at4 : a + n ≤ 100000
theorem writ_count (D : DS) (k : Int) (b : List UInt8) : (D.written k b).steps ≤ D.steps + 1 ∧ (D.written k b).hangs.length ≤ D.hangs.length + 1 := by
  have h2 := (stepped_same D).2
  have h1 : D.stepped.steps ≤ D.steps + 1 := by
    unfold DS.stepped
    split
    · exact Nat.le_succ _
    · split
      · exact Nat.le_succ _
      · exact Nat.le_refl _
  unfold DS.written
  split
  · exact ⟨Nat.le_succ _, Nat.le_succ _⟩
  · split
    · exact ⟨h1, by simp⟩
    · exact ⟨h1, by rw [h2]; exact Nat.le_succ _⟩

set_option maxRecDepth 20000 in
set_option maxHeartbeats 2000000 in
/-- The loop, from its beginning, as the walk of put meets it. -/
theorem put_any (hL : ∀ k, L k → k < w.heap.size) (hlp : L lp) (hr : Row w lp 83 (g.cells p)) (hd : DiskIs L w p D) (half place n : Nat) (hh : half ≤ 1) (hpl : place ≤ 1000000) (bs : List UInt8) (hn : bs.length + 128 ≤ n * 128) (hn2 : n ≤ 90000)
    (hs : D.steps ≤ 1000000) (hhg : D.hangs.length ≤ 1000000) :
    Calls Tryz.prog 52 #[.pointer (some ⟨lp, 0, none⟩), .int .i64 (half : Nat), .int .i64 (place : Nat), .string (tx bs)] w fun e w' =>
      e = .returned (.int .i64 (if D.fault ((2 + half * secs D + place / 128 : Nat) : Int) ≠ 0 then (D, D.fault ((2 + half * secs D + place / 128 : Nat) : Int)) else putG n D (2 + half * secs D + place / 128) ((D.read ((2 + half * secs D + place / 128 : Nat) : Int)).take (place % 128) ++ bs)).2) ∧
      DiskIs L w' p (if D.fault ((2 + half * secs D + place / 128 : Nat) : Int) ≠ 0 then (D, D.fault ((2 + half * secs D + place / 128 : Nat) : Int)) else putG n D (2 + half * secs D + place / 128) ((D.read ((2 + half * secs D + place / 128 : Nat) : Int)).take (place % 128) ++ bs)).1 ∧ Keeps L w w' := by
  obtain ⟨a0, ha0⟩ : ∃ a0, 2 + half * secs D + place / 128 = a0 := ⟨_, rfl⟩
  rw [ha0]
  obtain ⟨gl0, gm0, hv0, Dm0, hd0⟩ := id hd
  have hsec := secs_le hd0
  have hgood := hd0.good
  have ha1 : a0 ≤ 10000 := by
    rcases (by omega : half = 0 ∨ half = 1) with rfl | rfl <;> omega
  have HFI := Lib.hid (first_any hr hd0 half hh)
  obtain ⟨f1, hf1⟩ : ∃ f1, 2 + half * secs D = f1 := ⟨_, rfl⟩
  rw [hf1] at HFI ha0
  have hRD := Read_any hd0 (a0 : Nat)
  obtain ⟨F, hF⟩ : ∃ F, D.fault ((a0 : Nat) : Int) = F := ⟨_, rfl⟩
  rw [hF] at hRD ⊢
  obtain ⟨B, hB⟩ : ∃ B, D.read ((a0 : Nat) : Int) = B := ⟨_, rfl⟩
  have hBl : B.length = 128 := by
    rw [← hB]
    by_cases hz : D.fault ((a0 : Nat) : Int) = 0
    · obtain ⟨h1, _, h3⟩ := fault_zero hz
      exact readB_len hgood h1 a0 (by omega)
    · unfold DS.read; rw [if_neg hz]; simp [z128]
  have hBl2 := hBl
  rw [hB] at hRD ⊢
  obtain ⟨C, hC⟩ : ∃ C, B.map bv = C := ⟨_, rfl⟩
  have hV : blkV B = .agg C.toArray := by unfold blkV; rw [hC]
  rw [hV] at hRD
  have HRD := Lib.hid hRD
  have hsz := blk_sizeK B hBl
  have hone := blkV_one B
  rw [hC] at hsz hone
  have hCl : C.length = 128 := by rw [← hC, List.length_map, hBl]
  have c0 := hr.cell 0
  simp only [LG.cells, List.getElem?_cons_zero] at c0
  have hz := (zero_of_info zB_info).1
  obtain ⟨Z, hZ⟩ : ∃ Z, zB = Z := ⟨_, rfl⟩
  have hZl : Z.length = 128 := by rw [← hZ]; exact zB_len
  rw [hZ] at hz
  have HC0 := Lib.hid (And.intro hsz (And.intro hone (And.intro hCl (And.intro hZl (And.intro hZ hC)))))
  have hq : (place : Int) / 128 = ((place / 128 : Nat) : Int) := by omega
  have hm : (place : Int) % 128 = ((place % 128 : Nat) : Int) := by omega
  have HAA := Lib.hid (And.intro ha0 ha1)
  have HH := Lib.hid (And.intro hL (And.intro hlp (And.intro hr (And.intro hd hgood))))
  have HNN := Lib.hid (And.intro hn (And.intro hn2 (And.intro hs hhg)))
  have hplI : (place : Int) ≤ 1000000 := by omega
  have hf1I : (f1 : Int) ≤ 10000 := by omega
  obtain ⟨q1, hq1⟩ : ∃ q1, place / 128 = q1 := ⟨_, rfl⟩
  obtain ⟨m1, hm1⟩ : ∃ m1, place % 128 = m1 := ⟨_, rfl⟩
  rw [hq1] at hq HAA
  rw [hm1] at hm ⊢
  have hm128 : (m1 : Int) < 128 := by omega
  have hadd : (f1 : Int) + (q1 : Int) = (a0 : Int) := by have := HAA.out.1; omega
  have ha0I : (a0 : Int) ≤ 10000 := by have := HAA.out.2; omega
  clear hL hlp hr hd hd0 hsec hgood ha0 ha1 hf1 hRD hF hB hV hsz hone hCl hZ hZl hn hn2 hs hhg hh hC hBl hpl hq1 hm1
  obtain ⟨TT, hTT⟩ : ∃ TT : DS × Int, (if F ≠ 0 then (D, F) else putG n D a0 (B.take m1 ++ bs)) = TT := ⟨_, rfl⟩
  rw [hTT]
  have HTT := Lib.hid hTT
  clear hTT
  have HBL := Lib.hid hBl2
  clear hBl2
  go_enter Tryz.func52, Tryz.ntmps52
  go_wp2_with fail
  refine HFI.out.mono ?_
  rintro e w1 ⟨rfl, rfl⟩
  go_wp2_with fail
  refine HRD.out.mono ?_
  rintro e w2 ⟨rfl, hb2⟩
  have HB2 := Lib.hid hb2
  clear hb2
  have HNEW : Hid (Row (w2.alloc (.cells Z.toArray 90)) w2.heap.size 90 Z ∧ Below w2.heap.size w2 ((w2.alloc (.cells Z.toArray 90)).setRow w2.heap.size C.toArray) ∧ Row ((w2.alloc (.cells Z.toArray 90)).setRow w2.heap.size C.toArray) w2.heap.size 90 C) := Lib.hid
    ⟨Row.new w2 90 Z, below_setRow (B := w2.heap.size) ((Below.refl w2.heap.size w2).alloc (Nat.le_refl _) _) (Nat.le_refl _) _, (Row.new w2 90 Z).put _⟩
  by_cases hF0 : F = 0
  · have hT : putG n D a0 (B.take m1 ++ bs) = TT := by rw [← HTT.out, if_neg (by simp [hF0])]
    subst hF0
    obtain ⟨A1, hA1⟩ : ∃ A1, B.take m1 = A1 := ⟨_, rfl⟩
    have hA1l : A1.length = m1 := by rw [← hA1, List.length_take, HBL.out]; omega
    have HCV : Hid (∀ W, Row W w2.heap.size 90 C → (convert 87 9 (.slice (some ⟨w2.heap.size, 0, none⟩) m1 128)).run Tryz.prog W = .ok (.string (tx A1)) W) := Lib.hid fun W hW =>
      conv_bytes W 87 9 5 Tryz.underlying87 Tryz.underlying5 Tryz.underlying9 w2.heap.size 0 m1 128 A1 hA1l (fun i hi => by
        rw [hW.cell, Nat.zero_add, ← HC0.out.2.2.2.2.2, ← hA1, List.getElem?_map, List.getElem?_map, List.getElem?_take, if_pos hi])
    have hbsl : bs.length ≤ 100000000 := by have := HNN.out.1; have := HNN.out.2.1; omega
    have h1 : ∀ W, (Op.stringOp .add (tx A1) (tx bs)).run Tryz.prog W = .ok (.string (tx (A1 ++ bs))) W := fun W => add_tx A1 bs (by omega) W
    rw [hA1] at hT
    obtain ⟨l0, hl0⟩ : ∃ l0, A1 ++ bs = l0 := ⟨_, rfl⟩
    have hl0l : l0.length = m1 + bs.length := by rw [← hl0, List.length_append, hA1l]
    rw [hl0] at hT h1
    have HT := Lib.hid (And.intro hT hl0l)
    have hm0 : 0 ≤ (m1 : Int) := by omega
    have hm128' : (m1 : Int) ≤ 128 := by omega
    clear hm128
    clear hT hA1 hA1l hbsl hl0 hl0l
    go_wp2_with (first
      | (refine wpList_store_row rfl 90 (.tmp 10) (.tmp 29) rfl w2.heap.size C.toArray rfl rfl 90 Z.toArray HNEW.out.1 (by rw [List.size_toArray]; exact HC0.out.1) (by rw [List.size_toArray, List.size_toArray, HC0.out.2.2.2.1, HC0.out.2.2.1]) HC0.out.2.1 ?_; have hN := HNEW.out.2; generalize (w2.alloc (.cells Z.toArray 90)).setRow w2.heap.size C.toArray = w3 at hN ⊢; have HN := Lib.hid (HB2.out.trans (hN.1.mono HB2.out.size)); have hcv := HCV.out _ hN.2; clear hN)
      | fail)
    have HLP := Lib.hid (And.intro HH.out.1 HH.out.2.1)
    have hBsz := HN.out.size
    have HR0 : Hid (PuR L w lp p g TT 1200000 w3 n a0 l0 D) := Lib.hid
      ⟨HH.out.2.2.2.1.below HN.out, Keeps.of_below HN.out (fun k hk _ => hk), HT.out.1, by have := HT.out.2; have := HNN.out.1; omega, by have := HNN.out.2; omega, by have := HNN.out.2; omega, by have := HNN.out.2.1; omega⟩
    have hl0s : (tx l0).size ≤ 200000000 := by rw [tx_size]; have := HT.out.2; have := HNN.out; omega
    clear h1
    try rw [hm]
    clear hm hq hadd
    go_loopw [9, 12] (fun u s wr => ∃ (m a : Nat) (l : List UInt8) (D1 : DS), u = .int .i64 a ∧ s = .string (tx l) ∧ Hid (PuR L w lp p g TT 1200000 wr m a l D1)) (fun _ s _ => strLen s)
    case atStart => exact ⟨n, a0, l0, D, rfl, rfl, HR0⟩
    case round =>
      obtain ⟨m, a, l, D1, rfl, rfl, HJ⟩ := hrel
      have hdw := HJ.out.disk
      have hszw : ∀ k, L k → k < wr.heap.size := fun k hk => by have := HLP.out.1 k hk; have := HJ.out.keep.size; omega
      have rlp : Row wr lp 83 (g.cells p) := (HJ.out.keep.block lp HH.out.2.2.1.lt HLP.out.2).trans HH.out.2.2.1
      by_cases hl : l = []
      · subst hl
        have hTT : TT = (D1.synced, D1.stepErr) := by rw [← HJ.out.tgt, putG_nil]
        obtain ⟨gl1, gm1, hv1, Dm1, hd1⟩ := hdw
        have HSY := Lib.hid (Sync_any hszw hd1 (by have := HJ.out.steps; omega) (by have := HJ.out.hangs; omega))
        have c0 := rlp.cell 0
        simp only [LG.cells, List.getElem?_cons_zero] at c0
        have HTT2 := Lib.hid hTT
        have hse : tx ([] : List UInt8) = ⟨#[]⟩ := rfl
        rw [hse]
        clear hd1 rlp hTT hszw hse
        go_wp2_with fail
        refine HSY.out.mono ?_
        rintro e w5 ⟨rfl, hd5, hk5⟩
        have H5 := Lib.hid (And.intro hd5 hk5)
        clear hd5 hk5
        go_wp2_with fail
        go_ret
        rw [HTT2.out]
        exact ⟨rfl, H5.out.1, HJ.out.keep.trans H5.out.2⟩
      · obtain ⟨k', rfl⟩ : ∃ k', m = k' + 1 := ⟨m - 1, by have := HJ.out.len; have : l.length ≠ 0 := fun h => hl (List.eq_nil_of_length_eq_zero h); omega⟩
        have hnT : (tx l).toList.isEmpty = false := by
          rw [ByteArray.toList_eq, tx_list]
          cases l with
          | nil => exact absurd rfl hl
          | cons => rfl
        obtain ⟨k, hk⟩ : ∃ k, Nat.min l.length 128 = k := ⟨_, rfl⟩
        have hk1 : k ≤ 128 := by rw [← hk]; exact Nat.min_le_right _ _
        have hk2 : k ≤ l.length := by rw [← hk]; exact Nat.min_le_left _ _
        have hk3 : k = l.length ∨ k = 128 := by
          rw [← hk]
          rcases Nat.le_total l.length 128 with h | h
          · exact .inl (Nat.min_eq_left h)
          · exact .inr (Nat.min_eq_right h)
        have hlz : l.length ≠ 0 := fun h => hl (List.eq_nil_of_length_eq_zero h)
        obtain ⟨C1, hC1⟩ : ∃ C1, (pad128 l).map bv = C1 := ⟨_, rfl⟩
        have htk : l.take k = l.take 128 := by
          rcases hk3 with h | h
          · rw [h, List.take_of_length_le (Nat.le_refl _), List.take_of_length_le (by omega)]
          · rw [h]
        have hdk : l.drop k = l.drop 128 := by
          rcases hk3 with h | h
          · rw [h, List.drop_of_length_le (Nat.le_refl _), List.drop_of_length_le (by omega)]
          · rw [h]
        have hov : over Z 0 ((tx l).data.toList.take k) = C1 := by
          rw [tx_list, ← hC1, htk, ← HC0.out.2.2.2.2.1]
          unfold over pad128 zB
          rw [List.take_zero, List.nil_append, Nat.zero_add, List.map_append, List.drop_replicate, List.map_replicate, List.length_take]
          congr 2
          rcases hk3 with h | h <;> omega
        have hsz1 := blk_sizeK _ (pad128_length l)
        have hone1 := blkV_one (pad128 l)
        have hV1 : blkV (pad128 l) = .agg C1.toArray := by unfold blkV; rw [hC1]
        have hC1l : C1.length = 128 := by rw [← hC1, List.length_map, pad128_length]
        rw [hC1] at hsz1 hone1
        have rZ := Row.new wr 90 Z
        have hcp0 := fun ty => copy_row_min (P := Tryz.prog) 87 9 ty 5 wr.heap.size 0 128 128 k (tx l) Z 90 Tryz.underlying87 (by kernel_rfl) rZ (by rw [tx_size]; exact hk) (by rw [HC0.out.2.2.2.1]; omega)
        rw [hov] at hcp0
        have rC := rZ.put C1
        have hbw : Below wr.heap.size wr ((wr.alloc (.cells Z.toArray 90)).setRow wr.heap.size C1.toArray) := below_setRow (B := wr.heap.size) ((Below.refl wr.heap.size wr).alloc (Nat.le_refl _) _) (Nat.le_refl _) _
        obtain ⟨wb, hwb⟩ : ∃ wb, (wr.alloc (.cells Z.toArray 90)).setRow wr.heap.size C1.toArray = wb := ⟨_, rfl⟩
        rw [hwb] at rC hbw
        have hcp : ∀ ty, (Builtin.copy_ #[87, 9] ty #[.slice (some ⟨wr.heap.size, 0, none⟩) 128 128, .string (tx l)]).run Tryz.prog (wr.alloc (.cells Z.toArray 90)) = .ok (goInt k) wb := fun ty => by rw [hcp0 ty, hwb]
        have hszb : wr.heap.size < wb.heap.size := rC.lt
        obtain ⟨b, hb⟩ : ∃ b, wr.heap.size = b := ⟨_, rfl⟩
        have hbb := hb
        have rlb : Row wb.drew lp 83 (g.cells p) := Row.drew (rlp.below hbw rlp.lt)
        have hdD : DiskIs (fun q => L q ∨ q = wr.heap.size) wb.drew p D1 := ((hdw.more (fun q hq => by
          rcases hq with h | h
          · exact .inl h
          · exact .inr (by omega))).below hbw).below (below_drewK (Below.refl _ _) 1)
        have HDD := Lib.hid hdD
        obtain ⟨LC, HLC⟩ : ∃ LC, Hid (LC = g.cells p) := ⟨_, Lib.hid rfl⟩
        rw [← HLC.out] at rlb
        rw [hb] at rC hszb hdD hbw
        have HS0 : Hid (Row wb.drew lp 83 LC ∧ Row wb.drew b 90 C1) := Lib.hid ⟨rlb, rC.drew⟩
        have HWR : Hid (Calls Tryz.prog 88 #[.pointer (some ⟨p, 0, none⟩), .int .i64 (a : Nat), .agg C1.toArray] wb.drew fun e w' => e = .returned (.int .i64 (D1.writeErr (a : Nat))) ∧ DiskIs (fun q => L q ∨ q = b) w' p (D1.written (a : Nat) (pad128 l)) ∧ Keeps (fun q => L q ∨ q = b) wb.drew w') := Lib.hid (by
          obtain ⟨gl1, gm1, hv1, Dm1, hd1⟩ := hdD
          have h := Write_any (fun q hq => ?_) hd1 (a : Nat) (pad128 l) (pad128_length l) (by have := HJ.out.steps; omega) (by have := HJ.out.hangs; omega)
          · rw [hV1] at h
            exact h
          · show q < wb.heap.size
            rcases hq with h | h
            · have := hszw q h; omega
            · omega)
        have HC := Lib.hid (And.intro hsz1 (And.intro hone1 hC1l))
        have HLL := Lib.hid (And.intro hk1 HLP.out.2)
        have hcut : (tx l).extract k l.length = tx (l.drop 128) := by rw [tx_cut l k l.length hk2 (Nat.le_refl _), List.take_of_length_le (Nat.le_refl _), hdk]
        have hlsz : (tx l).size = l.length := tx_size l
        obtain ⟨ln, hln⟩ : ∃ ln, l.length = ln := ⟨_, rfl⟩
        rw [hln] at hcut hlsz hk2
        have hkI : (k : Int) ≤ (ln : Int) := by omega
        have HPW := Lib.hid (And.intro hbw (And.intro hl (And.intro hln (And.intro hlz hbb))))
        obtain ⟨ER, hER⟩ : ∃ ER, D1.writeErr (a : Nat) = ER := ⟨_, rfl⟩
        rw [hER] at HWR
        have HER := Lib.hid hER
        have haI : (a : Int) ≤ 100000 := by have := HJ.out.at4; omega
        have hgo := HJ.out.tgt
        unfold putG at hgo
        rw [if_neg hl, hER] at hgo
        clear hdw hszw rlp hk hk2 hk3 hk1 hlz hC1 htk hdk hov hsz1 hone1 hV1 hC1l rZ hcp0 rC hwb hszb hbb rlb hdD hbw hl hER hln
        clear hb
        go_wp2_with fail
        rw [HPW.out.2.2.2.2]
        refine wp_region_noPanic ?_
        refine wp_region_held_drew (S := fun W => Row W lp 83 LC ∧ Row W b 90 C1) (by kernel_rfl) HS0.out (fun hHeld => ?_)
        refine wpAnyH_take (i := 0) (oi := { dst := some 47, op := Op.move (Operand.tmp 0), type := 30, pos := "log.go:194", after := #[], guard := none }) (v := ?vvw_0) rfl (by kernel_rfl) (by kernel_rfl) (by kernel_rfl) (fun _ _ _ h => h) (Or.inl ⟨by rfl, ?yyw_0⟩) hHeld ?_
        case vvw_0 => exact .pointer (some ⟨lp, 0, none⟩)
        case yyw_0 =>
          intro W hS
          go_simp
        try simp only [Act.put, List.setIfInBounds_toArray, List.set_cons_zero, List.set_cons_succ]
        refine wpAnyH_take (i := 1) (oi := { dst := some 48, op := Op.nilCheck (Operand.tmp 47), type := 0, pos := "log.go:194", after := #[{ on := 0, ground := Ground.data }], guard := none }) (v := ?vvw_1) rfl (by kernel_rfl) (by kernel_rfl) (by kernel_rfl) (fun _ _ _ h => h) (Or.inl ⟨by rfl, ?yyw_1⟩) hHeld ?_
        case vvw_1 => exact .pointer (some ⟨lp, 0, none⟩)
        case yyw_1 =>
          intro W hS
          go_simp
        try simp only [Act.put, List.setIfInBounds_toArray, List.set_cons_zero, List.set_cons_succ]
        refine wpAnyH_take (i := 2) (oi := { dst := some 49, op := Op.fieldAddr 83 (Operand.tmp 48) 0, type := 0, pos := "log.go:194", after := #[{ on := 1, ground := Ground.data }], guard := none }) (v := ?vvw_2) rfl (by kernel_rfl) (by kernel_rfl) (by kernel_rfl) (fun _ _ _ h => h) (Or.inl ⟨by rfl, ?yyw_2⟩) hHeld ?_
        case vvw_2 => exact .pointer (some ⟨lp, 0, none⟩)
        case yyw_2 =>
          intro W hS
          go_simp
        try simp only [Act.put, List.setIfInBounds_toArray, List.set_cons_zero, List.set_cons_succ]
        refine wpAnyH_take (i := 3) (oi := { dst := some 50, op := Op.load 24 (Operand.tmp 49), type := 24, pos := "log.go:194", after := #[{ on := 2, ground := Ground.data }], guard := none }) (v := ?vvw_3) rfl (by kernel_rfl) (by kernel_rfl) (by kernel_rfl) (fun _ _ _ h => h) (Or.inl ⟨by rfl, ?yyw_3⟩) hHeld ?_
        case vvw_3 => exact .pointer (some ⟨p, 0, none⟩)
        case yyw_3 =>
          intro W hS
          have q0 := Row.cell hS.1 0
          simp only [HLC.out, LG.cells, List.getElem?_cons_zero] at q0
          go_simp
        try simp only [Act.put, List.setIfInBounds_toArray, List.set_cons_zero, List.set_cons_succ]
        refine wpAnyH_take (i := 4) (oi := { dst := some 51, op := Op.move (Operand.tmp 9), type := 3, pos := "log.go:194", after := #[], guard := none }) (v := ?vvw_4) rfl (by kernel_rfl) (by kernel_rfl) (by kernel_rfl) (fun _ _ _ h => h) (Or.inl ⟨by rfl, ?yyw_4⟩) hHeld ?_
        case vvw_4 => exact .int .i64 a
        case yyw_4 =>
          intro W hS
          go_simp
        try simp only [Act.put, List.setIfInBounds_toArray, List.set_cons_zero, List.set_cons_succ]
        refine' wpAnyH_take (i := 5) (oi := { dst := some 52, op := Op.load 90 (Operand.tmp 13), type := 90, pos := "log.go:194", after := #[], guard := none }) (v := .agg C1.toArray) rfl (by kernel_rfl) (by kernel_rfl) (by kernel_rfl) (fun _ _ _ h => h) (yieldsIf_load_mid (by rfl) _ _ rfl b 0 rfl C1 _ (fun W h => (fun j v hj => by rw [Nat.zero_add, h.2.cell]; exact hj)) Tryz.underlying90 rfl HC.out.1) hHeld ?_
        try simp only [Act.put, List.setIfInBounds_toArray, List.set_cons_zero, List.set_cons_succ]
        refine wpAnyH_ready (rs := [6]) (by kernel_rfl) (by simp) (AllReadyH.cons (o := { dst := some 53, op := Op.call { callee := Callee.value (Operand.func 88), args := #[Operand.tmp 50, Operand.tmp 51, Operand.tmp 52], argTypes := #[24, 3, 90] }, type := 25, pos := "log.go:194", after := #[{ on := 3, ground := Ground.data }, { on := 4, ground := Ground.data }, { on := 5, ground := Ground.data }], guard := none }) rfl (fun K hK => ?_) AllReadyH.nil)
        go_simp
        go_at_call 88
        refine HWR.out.mono ?_
        rintro e w4 ⟨rfl, hd4, hk4⟩
        have s4 : Row w4 lp 83 LC ∧ Row w4 b 90 C1 := ⟨(hk4.block lp HS0.out.1.lt (.inl HLL.out.2)).trans HS0.out.1, (hk4.block b HS0.out.2.lt (.inr rfl)).trans HS0.out.2⟩
        have H4 := Lib.hid (And.intro hd4 (And.intro hk4 s4))
        refine hK.out _ _ s4 (fun hHeld => ?_)
        clear hK K hd4 hk4 s4
        try simp only [Act.put, List.setIfInBounds_toArray, List.set_cons_zero, List.set_cons_succ]
        refine wpAnyH_ready (rs := [7]) (by kernel_rfl) (by simp) (AllReadyH.cons (o := { dst := some 15, op := Op.assign (Operand.tmp 53), type := 25, pos := "log.go:194", after := #[{ on := 6, ground := Ground.data }, { on := 6, ground := Ground.chain }, { on := 0, ground := Ground.phase }, { on := 1, ground := Ground.phase }, { on := 2, ground := Ground.phase }, { on := 3, ground := Ground.phase }, { on := 4, ground := Ground.phase }, { on := 5, ground := Ground.phase }, { on := 6, ground := Ground.phase }], guard := none }) rfl (fun K hK => ?_) AllReadyH.nil)
        go_simp
        refine hK.out _ _ H4.out.2.2 (fun hHeld => ?_)
        clear hK K
        try simp only [Act.put, List.setIfInBounds_toArray, List.set_cons_zero, List.set_cons_succ]
        refine wpAnyH_done (by kernel_rfl) ?_ _
        refine NoPanic.normal ?_

        by_cases her : ER = 0
        · subst her
          rw [if_neg (by simp)] at hgo
          have HFIN : Hid (PuR L w lp p g TT 1200000 w4 k' (a + 1) (l.drop 128) (D1.written (a : Nat) (pad128 l))) := Lib.hid (by
            obtain ⟨hd4, hk4, _⟩ := H4.out
            have hw := writ_count D1 (a : Nat) (pad128 l)
            have hj := HJ.out
            have h1 := hj.steps
            have h2 := hj.hangs
            have h3 := hj.at4
            have h4 := hj.len
            exact ⟨hd4.less (fun q h => .inl h), (hj.keep.trans (Keeps.of_below HPW.out.1 (fun q hq hl2 => by have := HLP.out.1 q hl2; have := hj.keep.size; rw [← HPW.out.2.2.2.2]; omega))).trans ((Keeps.refl L wb).drew1.trans (hk4.mono (fun q h => .inl h))), hgo, by rw [List.length_drop]; omega, by omega, by omega, by omega⟩)
          clear hgo
          go_wp2_with fail
          go_roundw
          case rel => exact ⟨k', a + 1, l.drop 128, _, by go_num, rfl, HFIN⟩
          case measure =>
            have h1 := HPW.out.2.2.2.1
            show strLen (.string (tx (l.drop 128))) < strLen (.string (tx l))
            simp only [strLen, tx_size, List.length_drop]
            omega
        · rw [if_pos her] at hgo
          have HGO := Lib.hid hgo
          have herb : ((ER : Int) != 0) = true := by simpa using her
          clear hgo her
          go_wp2_with fail
          go_ret
          rw [← HGO.out]
          obtain ⟨hd4, hk4, _⟩ := H4.out
          exact ⟨rfl, hd4.less (fun q h => .inl h), (HJ.out.keep.trans (Keeps.of_below HPW.out.1 (fun q hq hl2 => by have := HLP.out.1 q hl2; have := HJ.out.keep.size; rw [← HPW.out.2.2.2.2]; omega))).trans ((Keeps.refl L wb).drew1.trans (hk4.mono (fun q h => .inl h)))⟩
  · have hT : TT = (D, F) := by rw [← HTT.out, if_pos hF0]
    have hFb : ((F : Int) != 0) = true := by simpa using hF0
    clear hF0
    go_wp2_with (first
      | (refine wpList_store_row rfl 90 (.tmp 10) (.tmp 29) rfl w2.heap.size C.toArray rfl rfl 90 Z.toArray HNEW.out.1 (by rw [List.size_toArray]; exact HC0.out.1) (by rw [List.size_toArray, List.size_toArray, HC0.out.2.2.2.1, HC0.out.2.2.1]) HC0.out.2.1 ?_; have hN := HNEW.out.2; generalize (w2.alloc (.cells Z.toArray 90)).setRow w2.heap.size C.toArray = w3 at hN ⊢; have HN := Lib.hid (HB2.out.trans (hN.1.mono HB2.out.size));  clear hN)
      | fail)
    go_ret
    rw [hT]
    exact ⟨rfl, HH.out.2.2.2.1.below HN.out, Keeps.of_below HN.out (fun k hk _ => hk)⟩
end
end Go.Proofs.YtiaaeniopjpfpaaGreatDoor

namespace Go.Proofs.YtiaaeniopjpfpaaGreatDoor
open Go Go.Shelf Go.RowKit
set_option linter.unusedVariables false
set_option linter.unusedSimpArgs false

theorem copyCheck_any (B b : Nat) (bs : List Value) (w : World) (h : Lib.IsBuilder 127 5 B b bs w) :
    Calls Tryz.prog 112 #[.pointer (some ⟨b, 0, none⟩)] w fun e w' => e = .returned (.tuple #[]) ∧ (Lib.BuilderAt 127 5 B b (.pointer (some ⟨b, 0, none⟩)) bs w' ∧ Below B w w' ∧ Lib.OthersKept 5 (some b) w w') := by
  rcases h with h | h
  · refine (Any.Builder_copyCheck_fresh (P := Tryz.prog) (ρ := Tryz.lays105_ren) { Tryz.lays105 with } Tryz.Builder_Extra_105.toX72 b w h.cell0 h.shape h.frozen0).mono ?_
    rintro e w' ⟨rfl, rfl⟩
    exact ⟨rfl, h.used _, (Below.refl B w).setCell (p := ⟨b, 0, none⟩) h.1 _, (Lib.OthersKept.refl _ _ w).setCell ⟨b, 0, none⟩ rfl _⟩
  · refine (Any.Builder_copyCheck_used (P := Tryz.prog) (ρ := Tryz.lays105_ren) { Tryz.lays105 with } Tryz.Builder_Extra_105.toX72 b w h.cell0).mono ?_
    rintro e w' ⟨rfl, rfl⟩
    exact ⟨rfl, h, Below.refl B _, Lib.OthersKept.refl _ _ _⟩

theorem BString_any (B b : Nat) (l : List UInt8) (w : World) (h : Lib.IsBuilder 127 5 B b (Lib.byteCells l) w) (hBw : B ≤ w.heap.size) :
    Calls Tryz.prog 85 #[.pointer (some ⟨b, 0, none⟩)] w fun e w' => e = .returned (.string ⟨l.toArray⟩) ∧ Below B w w' :=
  Any.Builder_String_any (P := Tryz.prog) (ρ := Tryz.lays105_ren) { Tryz.lays105 with } Tryz.Builder_Extra_105 B b l w h hBw

theorem row_other {w w' : World} {b g : Nat} {t : TypeId} {l : List Value} (hr : Row w g t l) (hk : Lib.OthersKept 5 (some b) w w') (hne : g ≠ b) (ht : t ≠ 5) : Row w' g t l :=
  hk g _ hr (fun e => hne (Option.some.inj e)) (fun c fz e => ht (by cases e; rfl))

set_option maxHeartbeats 2000000 in
set_option maxRecDepth 100000 in
theorem BWrite_any (B b g : Nat) (bs cs : List Value) (h1 : ∀ u ∈ cs, u.oneCell' = true) (w : World) (h : Lib.IsBuilder 127 5 B b bs w) (hr : Row w g 90 cs)
    (hlen : bs.length + cs.length ≤ 140737488355328) (hBw : B ≤ w.heap.size) :
    Calls Tryz.prog 84 #[.pointer (some ⟨b, 0, none⟩), .slice (some ⟨g, 0, none⟩) cs.length cs.length] w fun e w' => e = .returned (.tuple #[.int .i64 cs.length, .nilIface]) ∧
      (Lib.BuilderAt 127 5 B b (.pointer (some ⟨b, 0, none⟩)) (bs ++ cs) w' ∧ Below B w w' ∧ Lib.OthersKept 5 (some b) w w') := by
  obtain ⟨i0, hi, hz0, hz1, hz2⟩ := info_parts Tryz.Builder_Extra_105.infoByte
  have hi : Tryz.prog.info? 5 = some i0 := hi
  have hgb : g ≠ b := by
    rintro rfl
    obtain ⟨p, hB, v, hbk, _⟩ : ∃ p, Lib.BuilderAt 127 5 B g p bs w := by
      rcases h with h | h
      · exact ⟨_, h⟩
      · exact ⟨_, h⟩
    rw [show w.heap[g]? = _ from hr] at hbk
    simp at hbk
  have HC := copyCheck_any B b bs w h
  obtain ⟨m, hm⟩ : ∃ m, cs.length = m := ⟨_, rfl⟩
  rw [hm] at hlen ⊢
  go_enter Tryz.func84, Tryz.ntmps84
  go_wp2_with fail
  refine HC.mono ?_
  rintro e w1 ⟨rfl, h1', hb1, hk1⟩
  obtain ⟨hB, v, hbk, hown, hne⟩ := h1'
  have c0 : w1.cell? ⟨b, 0, none⟩ = some (.pointer (some ⟨b, 0, none⟩)) := by rw [Lib.cell_of_heap hbk]; rfl
  have c1 : w1.cell? ⟨b, 1, none⟩ = some v := by rw [Lib.cell_of_heap hbk]; rfl
  have hr1 := row_other hr hk1 hgb (by decide)
  have hnews : ∀ j u, cs[j]? = some u → w1.cell? ((⟨g, 0, none⟩ : Addr).add j) = some u := fun j u hj => by
    rw [show (⟨g, 0, none⟩ : Addr).add j = ⟨g, j, none⟩ by simp [Addr.add]; omega]
    exact (hr1.cell j).trans hj
  have H1 := Lib.hid h1
  clear h1
  go_wp2_with (at_builtin; refine wpList_append_own _ rfl _ _ 87 rfl B 5 i0 (.int .u8 0) 1 1 Tryz.underlying87 hi hz0 hz1 hz2 rfl (by decide) _ _ _ rfl hown ⟨g, 0, none⟩ m m cs rfl (by omega) hnews H1.out ?c3 ?c4 ?c5 ?_)
  case c3 => unfold maxLen; omega
  case c4 => omega
  case c5 => have := hb1.size; omega
  intro v' w2 hown' hgrow _
  have hlt : b < w1.heap.size := Lib.BuilderAt.lt ⟨hB, v, hbk, hown, hne⟩
  have hb2 : w2.heap[b]? = some (.cells #[.pointer (some ⟨b, 0, none⟩), v] 127 (0, 0)) := by
    rw [hgrow.block b hlt (fun e => hne e.symm)]
    exact hbk
  have d0 : w2.cell? ⟨b, 0, none⟩ = some (.pointer (some ⟨b, 0, none⟩)) := by rw [Lib.cell_of_heap hb2]; rfl
  have d1 : w2.cell? ⟨b, 1, none⟩ = some v := by rw [Lib.cell_of_heap hb2]; rfl
  have f1 : w2.frozen? ⟨b, 1, none⟩ = false := Lib.frozen_of_heap hb2 1
  obtain ⟨ao, n', cap, rfl⟩ : ∃ ao n' cap, v' = .slice ao n' cap := by
    rcases hown'.2 with ⟨hv, _⟩ | ⟨g, cap, cur, hv, _⟩
    · exact ⟨_, _, _, hv⟩
    · exact ⟨_, _, _, hv⟩
  have HB := Lib.hid hb1
  have HK := Lib.hid hk1
  clear hb1 hk1
  go_wp2
  go_ret2
  refine ⟨rfl, ?_, ?_, ?_⟩
  · exact Lib.BuilderAt.put (T := 127) (e := 5) hB hb2 (bs' := bs ++ cs) (by simpa [hm] using hown') (by decide)
  · exact (HB.out.grown hgrow (by have := HB.out.size; omega) (fun k hk => (hown.lt k hk).1)).setCell (p := ⟨b, 1, none⟩) hB _
  · refine (HK.out.grown hgrow ?_).setCell ⟨b, 1, none⟩ rfl _
    intro k hk
    rcases hown.2 with ⟨rfl, _⟩ | ⟨g', cap', cur, rfl, _, hg, _⟩
    · cases hk
    · cases hk
      exact ⟨cur, (0, 0), hg⟩
end Go.Proofs.YtiaaeniopjpfpaaGreatDoor

namespace Go.Proofs.YtiaaeniopjpfpaaGreatDoor
open Go Go.Shelf Go.RowKit Go.Maps
set_option linter.unusedVariables false
set_option linter.unusedSimpArgs false

theorem fault_in {D : DS} (hd : D.down = false) (j : Nat) (hj : j < D.lasts.length) : D.fault (j : Nat) = 0 := by
  unfold DS.fault
  rw [hd]
  simp only [Bool.false_eq_true, if_false]
  rw [if_pos ⟨by omega, by omega⟩]
theorem isBuilder_below {T e B b : Nat} {bs : List Value} {w w' : World} (h : Lib.IsBuilder T e B b bs w) (hb : Below w.heap.size w w') : Lib.IsBuilder T e B b bs w' := by
  have one : ∀ p, Lib.BuilderAt T e B b p bs w → Lib.BuilderAt T e B b p bs w' := by
    rintro p ⟨hB, v, hbk, hown, hne⟩
    refine ⟨hB, v, (hb.block b (Array.getElem?_eq_some_iff.1 hbk).1).trans hbk, ⟨hown.1, ?_⟩, hne⟩
    rcases hown.2 with h | ⟨g, cap, cur, h1, h2, h3, h4⟩
    · exact .inl h
    · exact .inr ⟨g, cap, cur, h1, h2, (hb.block g (Array.getElem?_eq_some_iff.1 h3).1).trans h3, h4⟩
  exact h.elim (fun x => .inl (one _ x)) (fun x => .inr (one _ x))
/-- The bytes of n sectors from a on. -/
def bytesN (D : DS) (a : Nat) : Nat → List UInt8
  | 0 => []
  | j + 1 => bytesN D a j ++ D.read ((a + j : Nat) : Int)
def LG.bytes (g : LG) (D : DS) : List UInt8 := bytesN D (2 + g.half * secs D) (secs D)
theorem bytesN_length (D : DS) (hD : D.ok) (hdn : D.down = false) (a n : Nat) (h : a + n ≤ D.lasts.length) : (bytesN D a n).length = n * 128 := by
  induction n with
  | zero => rfl
  | succ n ih =>
    unfold bytesN
    rw [List.length_append, ih (by omega), readB_len hD hdn (a + n) (by omega)]
    omega
theorem wp_join {P : Program} {id : Nat} {ops : Array Oper} {b : Bool} {Q : Exit → Act → World → Prop} {a : Act} {w : World} (fr : Act → Nat → Act) (Post : Nat → World → Prop)
    (h1 : (Code.region id ops b).wp P (fun e a' w' => e = .normal ∧ ∃ g, a' = fr a g ∧ Post g w') a w) (h2 : ∀ g w', Post g w' → Q .normal (fr a g) w') : (Code.region id ops b).wp P Q a w :=
  Code.wp_mono (fun e a' w' h => by obtain ⟨rfl, g, rfl, hp⟩ := h; exact h2 g w' hp) h1
section
variable {L : Nat → Prop} {w : World} {lp p gl gm : Nat} {hv : Value} {Dm : DataW Unit} {D : DS} {g : LG}
theorem half_in (hD : D.ok) (half j : Nat) (hh : half ≤ 1) (hj : j < secs D) : 2 + half * secs D + j < D.lasts.length := by
  have := hD.least
  unfold secs at *
  rcases (by omega : half = 0 ∨ half = 1) with rfl | rfl <;> omega

set_option maxRecDepth 20000 in
set_option maxHeartbeats 2000000 in
theorem bytes_any (hr : Row w lp 83 (g.cells p)) (hd : DiskIs L w p D) (hdn : D.down = false) (hh : g.half ≤ 1) :
    Calls Tryz.prog 43 #[.pointer (some ⟨lp, 0, none⟩)] w fun e w' => e = .returned (.tuple #[.string (tx (g.bytes D)), .int .i64 0]) ∧ Below w.heap.size w w' := by
  obtain ⟨gl0, gm0, hv0, Dm0, hd0⟩ := id hd
  have hgood := hd0.good
  have hsec := secs_le hd0
  have hHI := half_in hgood g.half
  have hBW : w.heap.size < (w.alloc (.cells #[.pointer none, .slice none 0 0] 127)).heap.size := by rw [World.size_alloc]; omega
  have hb0 : Below w.heap.size w (w.alloc (.cells #[.pointer none, .slice none 0 0] 127)) := (Below.refl _ _).alloc (Nat.le_refl _) _
  have HSEC := Lib.hid (sectors_any (hr.below hb0 hr.lt) (hd0.below hb0))
  obtain ⟨n, hn⟩ : ∃ n, secs D = n := ⟨_, rfl⟩
  obtain ⟨a, ha⟩ : ∃ a, 2 + g.half * n = a := ⟨_, rfl⟩
  obtain ⟨half, hhalf⟩ : ∃ half, g.half = half := ⟨_, rfl⟩
  have hbyt : g.bytes D = bytesN D a n := by unfold LG.bytes; rw [hn, ha]
  rw [hbyt]
  have HFI : Hid (∀ W, Below w.heap.size w W → Calls Tryz.prog 83 #[.pointer (some ⟨lp, 0, none⟩), .int .i64 (half : Nat)] W fun e w' => e = .returned (.int .i64 (a : Nat)) ∧ W = w') := Lib.hid fun W hb => by
    have h := first_any (hr.below hb hr.lt) (hd0.below hb) g.half hh
    rw [hn, ha, hhalf] at h
    exact h
  have hRD : ∀ j, j < n → ∀ W, Below w.heap.size w W → Calls Tryz.prog 56 #[.pointer (some ⟨p, 0, none⟩), .int .i64 ((a + j : Nat) : Int)] W fun e w' => e = .returned (.tuple #[.agg ((D.read ((a + j : Nat) : Int)).map bv).toArray, .int .i64 0]) ∧ Below W.heap.size W w' := fun j hj W hb => by
    have hl := hHI j hh (by rw [hn]; exact hj)
    rw [hn, ha] at hl
    have h := Read_any (hd0.below hb) ((a + j : Nat) : Int)
    rw [fault_in hdn _ hl] at h
    exact h
  have hRL : ∀ j, j < n → (D.read ((a + j : Nat) : Int)).length = 128 := fun j hj => by
    have hl := hHI j hh (by rw [hn]; exact hj)
    rw [hn, ha] at hl
    exact readB_len hgood hdn _ hl
  have hBL : ∀ j, j ≤ n → (bytesN D a j).length = j * 128 := fun j hj => by
    have hl := hHI (n - 1) hh (by omega)
    rw [hn, ha] at hl
    exact bytesN_length D hgood hdn a j (by omega)
  rw [hn] at HSEC
  have HR := Lib.hid (And.intro hRD (And.intro hRL hr))
  have HBL := Lib.hid hBL
  clear hBL
  have hz := (zero_of_info zB_info).1
  obtain ⟨Z, hZ⟩ : ∃ Z, zB = Z := ⟨_, rfl⟩
  have hZl : Z.length = 128 := by rw [← hZ]; exact zB_len
  rw [hZ] at hz
  have HZ := Lib.hid hZl
  have hnI : (n : Int) ≤ 2047 := by omega
  have haI : (a : Int) ≤ 10000 := by
    have := hHI 0 hh (by omega)
    have := hgood.most
    rw [hn, ha] at *
    omega
  have HHALF := Lib.hid hhalf
  clear hhalf
  have HI0 := Lib.hid (Lib.fresh_isBuilder 127 5 w)
  have HB0 := Lib.hid hb0
  clear hd hd0 hdn hh hgood hsec hHI hn ha hbyt hRD hRL hr hZ hZl hBW hb0
  go_enter Tryz.func43, Tryz.ntmps43
  go_wp2_with fail
  refine HSEC.out.mono ?_
  rintro e w1 ⟨rfl, rfl⟩
  generalize w.alloc (.cells #[.pointer none, .slice none 0 0] 127) = w1 at HI0 HB0 HSEC ⊢
  go_wp2_with fail
  go_loopw [10] (fun i wr => ∃ j : Nat, i = .int .i64 j ∧ j ≤ n ∧ Hid (Lib.IsBuilder 127 5 w.heap.size w.heap.size (Lib.byteCells (bytesN D a j)) wr ∧ Below w.heap.size w wr)) (fun i _ => n - (intOf i).toNat)
  case atStart => exact ⟨0, rfl, Nat.zero_le _, Lib.hid ⟨HI0.out, HB0.out⟩⟩
  case round =>
    obtain ⟨j, rfl, hj, HJ⟩ := hrel
    by_cases hlt : j < n
    · have hltI : (j : Int) < (n : Int) := by omega
      have hj2 : (j : Int) ≤ 2047 := by omega
      obtain ⟨C, hC⟩ : ∃ C, (D.read ((a + j : Nat) : Int)).map bv = C := ⟨_, rfl⟩
      have hCl : C.length = 128 := by rw [← hC, List.length_map, HR.out.2.1 j hlt]
      have hsz := blk_sizeK _ (HR.out.2.1 j hlt)
      have hone := blkV_one (D.read ((a + j : Nat) : Int))
      rw [hC] at hsz hone
      have HRDj : Hid (∀ W, Below w.heap.size w W → Calls Tryz.prog 56 #[.pointer (some ⟨p, 0, none⟩), .int .i64 ((a : Int) + (j : Int))] W fun e w' => e = .returned (.tuple #[.agg C.toArray, .int .i64 0]) ∧ Below W.heap.size W w') := Lib.hid fun W hb => by
        have h := HR.out.1 j hlt W hb
        rw [hC, show ((a + j : Nat) : Int) = (a : Int) + (j : Int) by omega] at h
        exact h
      have HC := Lib.hid (And.intro hC (And.intro hone (And.intro hCl (show (Tryz.prog.info? 90).map (·.size) = some C.toArray.size by rw [List.size_toArray]; exact hsz))))
      have hthZ : ∀ (W : World) (g : Nat), Row W g 90 Z → W.there g 0 C.toArray.size := fun W g h => by
        rw [show C.toArray.size = Z.length by rw [List.size_toArray, hCl, HZ.out]]
        exact row_thereK h 0 _ (by omega)
      have S0 : SB wr wr.drew := SB.dr (Below.refl _ _)
      have HRW : Hid (∀ W, SB wr W → ∀ k, W.cell? ⟨lp, k, none⟩ = (g.cells p)[k]?) := Lib.hid fun W h k => ((HR.out.2.2.below HJ.out.2 HR.out.2.2.lt).below h (by have := HR.out.2.2.lt; have := HJ.out.2.size; omega)).cell k
      have HPS : Hid (∀ (W : World) (g : Nat), SB wr W → Row W g 90 Z → wr.heap.size ≤ g → Row (W.setCells g 0 C) g 90 C ∧ SB wr (W.setCells g 0 C)) := Lib.hid fun W g h hr hg => by
        have hb := below_setCells (w := W) (B := g) (Nat.le_refl _) C 0 W (Below.refl _ _)
        exact ⟨row_setCells C [] Z W (by rw [hCl, HZ.out]) hr, h.trans (hb.mono hg)⟩
      clear hsz hone hCl hC hj
      go_wp2_with fail
      refine wp_join (fun a9 g => ((((((((((((((((((a9.put (some 14) (.pointer (some ⟨lp, 0, none⟩))).put (some 15) (.pointer (some ⟨lp, 0, none⟩))).put (some 16) (.pointer (some ⟨lp, 0, none⟩))).put (some 17) (.pointer (some ⟨p, 0, none⟩))).put (some 18) (.pointer (some ⟨lp, 0, none⟩))).put (some 19) (.pointer (some ⟨lp, 0, none⟩))).put (some 20) (.pointer (some ⟨lp, 0, none⟩))).put (some 21) (.pointer (some ⟨lp, 2, none⟩))).put (some 22) (.int .i64 (half : Nat))).put (some 23) (.int .i64 (a : Nat))).put (some 24) (.int .i64 j)).put (some 25) (.int .i64 ((a : Int) + (j : Int)))).put (some 26) (.tuple #[.agg C.toArray, .int .i64 0])).put (some 13) (.tuple #[.agg C.toArray, .int .i64 0])).put (some 27) (.agg C.toArray)).put (some 28) (.int .i64 0)).put (some 6) (.pointer (some ⟨g, 0, none⟩))).put (some 7) (.int .i64 0)))
        (fun g w' => Row w' g 90 C ∧ SB wr w') ?_ ?_
      · refine wp_region_noPanic ?_
        refine wp_region_held_drew (S := fun W => SB wr W) (by kernel_rfl) S0 (fun hHeld => ?_)
        refine wpAnyH_take (i := 0) (oi := { dst := some 14, op := Op.move (Operand.tmp 0), type := 30, pos := "log.go:162", after := #[], guard := none }) (v := ?vvz1_0) rfl (by kernel_rfl) (by kernel_rfl) (by kernel_rfl) (fun _ _ _ h => h) (Or.inl ⟨by rfl, ?yyz1_0⟩) hHeld ?_
        case vvz1_0 => exact .pointer (some ⟨lp, 0, none⟩)
        case yyz1_0 =>
          intro W hS
          go_simp
        try simp only [Act.put, List.setIfInBounds_toArray, List.set_cons_zero, List.set_cons_succ]
        refine wpAnyH_take (i := 1) (oi := { dst := some 15, op := Op.nilCheck (Operand.tmp 14), type := 0, pos := "log.go:162", after := #[{ on := 0, ground := Ground.data }], guard := none }) (v := ?vvz2_1) rfl (by kernel_rfl) (by kernel_rfl) (by kernel_rfl) (fun _ _ _ h => h) (Or.inl ⟨by rfl, ?yyz2_1⟩) hHeld ?_
        case vvz2_1 => exact .pointer (some ⟨lp, 0, none⟩)
        case yyz2_1 =>
          intro W hS
          go_simp
        try simp only [Act.put, List.setIfInBounds_toArray, List.set_cons_zero, List.set_cons_succ]
        refine wpAnyH_take (i := 2) (oi := { dst := some 16, op := Op.fieldAddr 83 (Operand.tmp 15) 0, type := 0, pos := "log.go:162", after := #[{ on := 1, ground := Ground.data }], guard := none }) (v := ?vvz3_2) rfl (by kernel_rfl) (by kernel_rfl) (by kernel_rfl) (fun _ _ _ h => h) (Or.inl ⟨by rfl, ?yyz3_2⟩) hHeld ?_
        case vvz3_2 => exact .pointer (some ⟨lp, 0, none⟩)
        case yyz3_2 =>
          intro W hS
          go_simp
        try simp only [Act.put, List.setIfInBounds_toArray, List.set_cons_zero, List.set_cons_succ]
        refine wpAnyH_take (i := 3) (oi := { dst := some 17, op := Op.load 24 (Operand.tmp 16), type := 24, pos := "log.go:162", after := #[{ on := 2, ground := Ground.data }], guard := none }) (v := ?vvz4_3) rfl (by kernel_rfl) (by kernel_rfl) (by kernel_rfl) (fun _ _ _ h => h) (Or.inl ⟨by rfl, ?yyz4_3⟩) hHeld ?_
        case vvz4_3 => exact .pointer (some ⟨p, 0, none⟩)
        case yyz4_3 =>
          intro W hS
          have q0 := HRW.out W hS 0
          simp only [LG.cells, List.getElem?_cons_zero] at q0
          go_simp
        try simp only [Act.put, List.setIfInBounds_toArray, List.set_cons_zero, List.set_cons_succ]
        refine wpAnyH_take (i := 4) (oi := { dst := some 18, op := Op.move (Operand.tmp 0), type := 30, pos := "log.go:162", after := #[], guard := none }) (v := ?vvz5_4) rfl (by kernel_rfl) (by kernel_rfl) (by kernel_rfl) (fun _ _ _ h => h) (Or.inl ⟨by rfl, ?yyz5_4⟩) hHeld ?_
        case vvz5_4 => exact .pointer (some ⟨lp, 0, none⟩)
        case yyz5_4 =>
          intro W hS
          go_simp
        try simp only [Act.put, List.setIfInBounds_toArray, List.set_cons_zero, List.set_cons_succ]
        refine wpAnyH_take (i := 5) (oi := { dst := some 19, op := Op.move (Operand.tmp 0), type := 30, pos := "log.go:162", after := #[], guard := none }) (v := ?vvz6_5) rfl (by kernel_rfl) (by kernel_rfl) (by kernel_rfl) (fun _ _ _ h => h) (Or.inl ⟨by rfl, ?yyz6_5⟩) hHeld ?_
        case vvz6_5 => exact .pointer (some ⟨lp, 0, none⟩)
        case yyz6_5 =>
          intro W hS
          go_simp
        try simp only [Act.put, List.setIfInBounds_toArray, List.set_cons_zero, List.set_cons_succ]
        refine wpAnyH_take (i := 6) (oi := { dst := some 20, op := Op.nilCheck (Operand.tmp 19), type := 0, pos := "log.go:162", after := #[{ on := 5, ground := Ground.data }], guard := none }) (v := ?vvz7_6) rfl (by kernel_rfl) (by kernel_rfl) (by kernel_rfl) (fun _ _ _ h => h) (Or.inl ⟨by rfl, ?yyz7_6⟩) hHeld ?_
        case vvz7_6 => exact .pointer (some ⟨lp, 0, none⟩)
        case yyz7_6 =>
          intro W hS
          go_simp
        try simp only [Act.put, List.setIfInBounds_toArray, List.set_cons_zero, List.set_cons_succ]
        refine wpAnyH_take (i := 7) (oi := { dst := some 21, op := Op.fieldAddr 83 (Operand.tmp 20) 2, type := 0, pos := "log.go:162", after := #[{ on := 6, ground := Ground.data }], guard := none }) (v := ?vvz8_7) rfl (by kernel_rfl) (by kernel_rfl) (by kernel_rfl) (fun _ _ _ h => h) (Or.inl ⟨by rfl, ?yyz8_7⟩) hHeld ?_
        case vvz8_7 => exact .pointer (some ⟨lp, 2, none⟩)
        case yyz8_7 =>
          intro W hS
          go_simp
        try simp only [Act.put, List.setIfInBounds_toArray, List.set_cons_zero, List.set_cons_succ]
        refine wpAnyH_take (i := 8) (oi := { dst := some 22, op := Op.load 3 (Operand.tmp 21), type := 3, pos := "log.go:162", after := #[{ on := 7, ground := Ground.data }], guard := none }) (v := ?vvz9_8) rfl (by kernel_rfl) (by kernel_rfl) (by kernel_rfl) (fun _ _ _ h => h) (Or.inl ⟨by rfl, ?yyz9_8⟩) hHeld ?_
        case vvz9_8 => exact .int .i64 (half : Nat)
        case yyz9_8 =>
          intro W hS
          have q0 := HRW.out W hS 2
          simp only [LG.cells, List.getElem?_cons_zero, List.getElem?_cons_succ, HHALF.out] at q0
          go_simp
        try simp only [Act.put, List.setIfInBounds_toArray, List.set_cons_zero, List.set_cons_succ]
        refine wpAnyH_take (i := 10) (oi := { dst := some 24, op := Op.move (Operand.tmp 5), type := 3, pos := "log.go:162", after := #[], guard := none }) (v := ?vvz10_10) rfl (by kernel_rfl) (by kernel_rfl) (by kernel_rfl) (fun _ _ _ h => h) (Or.inl ⟨by rfl, ?yyz10_10⟩) hHeld ?_
        case vvz10_10 => exact .int .i64 j
        case yyz10_10 =>
          intro W hS
          go_simp
        try simp only [Act.put, List.setIfInBounds_toArray, List.set_cons_zero, List.set_cons_succ]
        refine wpAnyH_ready (rs := [9, 16]) (by kernel_rfl) (by simp) (AllReadyH.cons (o := { dst := some 23, op := Op.call { callee := Callee.value (Operand.func 83), args := #[Operand.tmp 18, Operand.tmp 22], argTypes := #[30, 3] }, type := 3, pos := "log.go:162", after := #[{ on := 4, ground := Ground.data }, { on := 8, ground := Ground.data }], guard := none }) rfl (fun K hK => ?_) (AllReadyH.cons (o := { dst := some 6, op := Op.alloc 90, type := 0, pos := "log.go:162", after := #[], guard := none }) rfl (fun K hK => ?_) AllReadyH.nil))
        · go_simp
          go_at_call 83
          refine (HFI.out _ (HJ.out.2.trans (Below.mono S0 (HJ.out.2.size)))).mono ?_
          rintro e wf ⟨rfl, rfl⟩
          refine hK.out _ _ S0 (fun hHeld => ?_)
          clear hK K
          try simp only [Act.put, List.setIfInBounds_toArray, List.set_cons_zero, List.set_cons_succ]
          refine wpAnyH_take (i := 11) (oi := { dst := some 25, op := Op.binOp BinOp.add 3 (Operand.tmp 23) (Operand.tmp 24) 3, type := 3, pos := "log.go:162", after := #[{ on := 9, ground := Ground.data }, { on := 10, ground := Ground.data }], guard := none }) (v := ?vvz11_11) rfl (by kernel_rfl) (by kernel_rfl) (by kernel_rfl) (fun _ _ _ h => h) (Or.inl ⟨by rfl, ?yyz11_11⟩) hHeld ?_
          case vvz11_11 => exact .int .i64 ((a : Int) + (j : Int))
          case yyz11_11 =>
            intro W hS
            go_simp
            rw [IntKind.wrap_i64]
            omega
          try simp only [Act.put, List.setIfInBounds_toArray, List.set_cons_zero, List.set_cons_succ]
          refine wpAnyH_ready (rs := [12, 16]) (by kernel_rfl) (by simp) (AllReadyH.cons (o := { dst := some 26, op := Op.call { callee := Callee.value (Operand.func 56), args := #[Operand.tmp 17, Operand.tmp 25], argTypes := #[24, 3] }, type := 98, pos := "log.go:162", after := #[{ on := 3, ground := Ground.data }, { on := 11, ground := Ground.data }, { on := 9, ground := Ground.chain }], guard := none }) rfl (fun K hK => ?_) (AllReadyH.cons (o := { dst := some 6, op := Op.alloc 90, type := 0, pos := "log.go:162", after := #[], guard := none }) rfl (fun K hK => ?_) AllReadyH.nil))
          · go_simp
            go_at_call 56
            refine (HRDj.out _ (HJ.out.2.trans (Below.mono S0 (HJ.out.2.size)))).mono ?_
            rintro e w4 ⟨rfl, hb4⟩
            have s4 := SB.next S0 hb4
            refine hK.out _ _ s4 (fun hHeld => ?_)
            clear hK K
            try simp only [Act.put, List.setIfInBounds_toArray, List.set_cons_zero, List.set_cons_succ]
            refine wpAnyH_take (i := 13) (oi := { dst := some 13, op := Op.move (Operand.tmp 26), type := 98, pos := "log.go:162", after := #[{ on := 12, ground := Ground.data }], guard := none }) (v := ?vvz12_13) rfl (by kernel_rfl) (by kernel_rfl) (by kernel_rfl) (fun _ _ _ h => h) (Or.inl ⟨by rfl, ?yyz12_13⟩) hHeld ?_
            case vvz12_13 => exact .tuple #[.agg C.toArray, .int .i64 0]
            case yyz12_13 =>
              intro W hS
              go_simp
            try simp only [Act.put, List.setIfInBounds_toArray, List.set_cons_zero, List.set_cons_succ]
            refine wpAnyH_take (i := 14) (oi := { dst := some 27, op := Op.extract (Operand.tmp 13) 0, type := 90, pos := "log.go:162", after := #[{ on := 13, ground := Ground.data }], guard := none }) (v := ?vvz13_14) rfl (by kernel_rfl) (by kernel_rfl) (by kernel_rfl) (fun _ _ _ h => h) (Or.inl ⟨by rfl, ?yyz13_14⟩) hHeld ?_
            case vvz13_14 => exact .agg C.toArray
            case yyz13_14 =>
              intro W hS
              go_simp
            try simp only [Act.put, List.setIfInBounds_toArray, List.set_cons_zero, List.set_cons_succ]
            refine wpAnyH_take (i := 15) (oi := { dst := some 28, op := Op.extract (Operand.tmp 13) 1, type := 25, pos := "log.go:162", after := #[{ on := 13, ground := Ground.data }, { on := 17, ground := Ground.gcOnly Departure.lateStores }], guard := none }) (v := ?vvz14_15) rfl (by kernel_rfl) (by kernel_rfl) (by kernel_rfl) (fun _ _ _ h => h) (Or.inl ⟨by rfl, ?yyz14_15⟩) hHeld ?_
            case vvz14_15 => exact .int .i64 0
            case yyz14_15 =>
              intro W hS
              go_simp
            try simp only [Act.put, List.setIfInBounds_toArray, List.set_cons_zero, List.set_cons_succ]
            refine wpAnyH_ready (rs := [16]) (by kernel_rfl) (by simp) (AllReadyH.cons (o := { dst := some 6, op := Op.alloc 90, type := 0, pos := "log.go:162", after := #[], guard := none }) rfl (fun K hK => ?_) AllReadyH.nil)
            go_simp
            have s5 := SB.al s4 (.cells Z.toArray 90)
            have r5 : Row (w4.alloc (.cells Z.toArray 90)) w4.heap.size 90 Z := Row.new w4 _ _
            have z5 : wr.heap.size ≤ w4.heap.size := s4.size
            refine hK.out _ _ s5 (fun hHeld => ?_)
            clear hK K
            try simp only [Act.put, List.setIfInBounds_toArray, List.set_cons_zero, List.set_cons_succ]
            refine wpAnyH_ready (rs := [17]) (by kernel_rfl) (by simp) (AllReadyH.cons (o := { dst := none, op := Op.store 90 (Operand.tmp 6) (Operand.tmp 27), type := 0, pos := "log.go:162", after := #[{ on := 16, ground := Ground.data }, { on := 14, ground := Ground.data }, { on := 12, ground := Ground.chain }, { on := 0, ground := Ground.phase }, { on := 1, ground := Ground.phase }, { on := 2, ground := Ground.phase }, { on := 3, ground := Ground.phase }, { on := 4, ground := Ground.phase }, { on := 5, ground := Ground.phase }, { on := 6, ground := Ground.phase }, { on := 7, ground := Ground.phase }, { on := 8, ground := Ground.phase }, { on := 9, ground := Ground.phase }, { on := 10, ground := Ground.phase }, { on := 11, ground := Ground.phase }, { on := 12, ground := Ground.phase }, { on := 13, ground := Ground.phase }, { on := 14, ground := Ground.phase }, { on := 15, ground := Ground.textOnly Departure.lateStores }, { on := 16, ground := Ground.phase }], guard := none }) rfl (fun K hK => ?_) AllReadyH.nil)
            rw [if_pos (by rfl)]
            refine wp_store_mid _ _ _ rfl w4.heap.size 0 C.toArray rfl rfl (hthZ _ _ r5) HC.out.2.2.2 HC.out.2.1 ?_
            try simp only [Act.put, List.setIfInBounds_toArray, List.set_cons_zero, List.set_cons_succ, List.toList_toArray]
            have hP := HPS.out _ w4.heap.size s5 r5 (by omega)
            refine hK.out _ _ hP.2 (fun hHeld => ?_)
            clear hK K
            try simp only [Act.put, List.setIfInBounds_toArray, List.set_cons_zero, List.set_cons_succ]
            refine wpAnyH_ready (rs := [18]) (by kernel_rfl) (by simp) (AllReadyH.cons (o := { dst := some 7, op := Op.assign (Operand.tmp 28), type := 25, pos := "log.go:162", after := #[{ on := 15, ground := Ground.data }, { on := 17, ground := Ground.chain }, { on := 0, ground := Ground.phase }, { on := 1, ground := Ground.phase }, { on := 2, ground := Ground.phase }, { on := 3, ground := Ground.phase }, { on := 4, ground := Ground.phase }, { on := 5, ground := Ground.phase }, { on := 6, ground := Ground.phase }, { on := 7, ground := Ground.phase }, { on := 8, ground := Ground.phase }, { on := 9, ground := Ground.phase }, { on := 10, ground := Ground.phase }, { on := 11, ground := Ground.phase }, { on := 12, ground := Ground.phase }, { on := 13, ground := Ground.phase }, { on := 14, ground := Ground.phase }, { on := 15, ground := Ground.phase }, { on := 16, ground := Ground.phase }, { on := 17, ground := Ground.phase }], guard := none }) rfl (fun K hK => ?_) AllReadyH.nil)
            go_simp
            refine hK.out _ _ hP.2 (fun hHeld => ?_)
            clear hK K
            try simp only [Act.put, List.setIfInBounds_toArray, List.set_cons_zero, List.set_cons_succ]
            refine wpAnyH_done (by kernel_rfl) ?_ _
            refine NoPanic.normal ?_
            exact ⟨rfl, _, rfl, hP⟩
          · go_simp
            have s3 := SB.al S0 (.cells Z.toArray 90)
            have r3 : Row (wr.drew.alloc (.cells Z.toArray 90)) wr.drew.heap.size 90 Z := Row.new wr.drew _ _
            have z3 : wr.heap.size ≤ wr.drew.heap.size := Nat.le_refl _
            refine hK.out _ _ s3 (fun hHeld => ?_)
            clear hK K
            try simp only [Act.put, List.setIfInBounds_toArray, List.set_cons_zero, List.set_cons_succ]
            refine wpAnyH_ready (rs := [12]) (by kernel_rfl) (by simp) (AllReadyH.cons (o := { dst := some 26, op := Op.call { callee := Callee.value (Operand.func 56), args := #[Operand.tmp 17, Operand.tmp 25], argTypes := #[24, 3] }, type := 98, pos := "log.go:162", after := #[{ on := 3, ground := Ground.data }, { on := 11, ground := Ground.data }, { on := 9, ground := Ground.chain }], guard := none }) rfl (fun K hK => ?_) AllReadyH.nil)
            go_simp
            go_at_call 56
            refine (HRDj.out _ (HJ.out.2.trans (Below.mono s3 (HJ.out.2.size)))).mono ?_
            rintro e w4 ⟨rfl, hb4⟩
            have s4 := SB.next s3 hb4
            have r4 := r3.below hb4 r3.lt
            refine hK.out _ _ s4 (fun hHeld => ?_)
            clear hK K
            try simp only [Act.put, List.setIfInBounds_toArray, List.set_cons_zero, List.set_cons_succ]
            refine wpAnyH_take (i := 13) (oi := { dst := some 13, op := Op.move (Operand.tmp 26), type := 98, pos := "log.go:162", after := #[{ on := 12, ground := Ground.data }], guard := none }) (v := ?vvz15_13) rfl (by kernel_rfl) (by kernel_rfl) (by kernel_rfl) (fun _ _ _ h => h) (Or.inl ⟨by rfl, ?yyz15_13⟩) hHeld ?_
            case vvz15_13 => exact .tuple #[.agg C.toArray, .int .i64 0]
            case yyz15_13 =>
              intro W hS
              go_simp
            try simp only [Act.put, List.setIfInBounds_toArray, List.set_cons_zero, List.set_cons_succ]
            refine wpAnyH_take (i := 14) (oi := { dst := some 27, op := Op.extract (Operand.tmp 13) 0, type := 90, pos := "log.go:162", after := #[{ on := 13, ground := Ground.data }], guard := none }) (v := ?vvz16_14) rfl (by kernel_rfl) (by kernel_rfl) (by kernel_rfl) (fun _ _ _ h => h) (Or.inl ⟨by rfl, ?yyz16_14⟩) hHeld ?_
            case vvz16_14 => exact .agg C.toArray
            case yyz16_14 =>
              intro W hS
              go_simp
            try simp only [Act.put, List.setIfInBounds_toArray, List.set_cons_zero, List.set_cons_succ]
            refine wpAnyH_take (i := 15) (oi := { dst := some 28, op := Op.extract (Operand.tmp 13) 1, type := 25, pos := "log.go:162", after := #[{ on := 13, ground := Ground.data }, { on := 17, ground := Ground.gcOnly Departure.lateStores }], guard := none }) (v := ?vvz17_15) rfl (by kernel_rfl) (by kernel_rfl) (by kernel_rfl) (fun _ _ _ h => h) (Or.inl ⟨by rfl, ?yyz17_15⟩) hHeld ?_
            case vvz17_15 => exact .int .i64 0
            case yyz17_15 =>
              intro W hS
              go_simp
            try simp only [Act.put, List.setIfInBounds_toArray, List.set_cons_zero, List.set_cons_succ]
            refine wpAnyH_ready (rs := [17]) (by kernel_rfl) (by simp) (AllReadyH.cons (o := { dst := none, op := Op.store 90 (Operand.tmp 6) (Operand.tmp 27), type := 0, pos := "log.go:162", after := #[{ on := 16, ground := Ground.data }, { on := 14, ground := Ground.data }, { on := 12, ground := Ground.chain }, { on := 0, ground := Ground.phase }, { on := 1, ground := Ground.phase }, { on := 2, ground := Ground.phase }, { on := 3, ground := Ground.phase }, { on := 4, ground := Ground.phase }, { on := 5, ground := Ground.phase }, { on := 6, ground := Ground.phase }, { on := 7, ground := Ground.phase }, { on := 8, ground := Ground.phase }, { on := 9, ground := Ground.phase }, { on := 10, ground := Ground.phase }, { on := 11, ground := Ground.phase }, { on := 12, ground := Ground.phase }, { on := 13, ground := Ground.phase }, { on := 14, ground := Ground.phase }, { on := 15, ground := Ground.textOnly Departure.lateStores }, { on := 16, ground := Ground.phase }], guard := none }) rfl (fun K hK => ?_) AllReadyH.nil)
            rw [if_pos (by rfl)]
            refine wp_store_mid _ _ _ rfl wr.drew.heap.size 0 C.toArray rfl rfl (hthZ _ _ r4) HC.out.2.2.2 HC.out.2.1 ?_
            try simp only [Act.put, List.setIfInBounds_toArray, List.set_cons_zero, List.set_cons_succ, List.toList_toArray]
            have hP := HPS.out _ wr.drew.heap.size s4 r4 (by omega)
            refine hK.out _ _ hP.2 (fun hHeld => ?_)
            clear hK K
            try simp only [Act.put, List.setIfInBounds_toArray, List.set_cons_zero, List.set_cons_succ]
            refine wpAnyH_ready (rs := [18]) (by kernel_rfl) (by simp) (AllReadyH.cons (o := { dst := some 7, op := Op.assign (Operand.tmp 28), type := 25, pos := "log.go:162", after := #[{ on := 15, ground := Ground.data }, { on := 17, ground := Ground.chain }, { on := 0, ground := Ground.phase }, { on := 1, ground := Ground.phase }, { on := 2, ground := Ground.phase }, { on := 3, ground := Ground.phase }, { on := 4, ground := Ground.phase }, { on := 5, ground := Ground.phase }, { on := 6, ground := Ground.phase }, { on := 7, ground := Ground.phase }, { on := 8, ground := Ground.phase }, { on := 9, ground := Ground.phase }, { on := 10, ground := Ground.phase }, { on := 11, ground := Ground.phase }, { on := 12, ground := Ground.phase }, { on := 13, ground := Ground.phase }, { on := 14, ground := Ground.phase }, { on := 15, ground := Ground.phase }, { on := 16, ground := Ground.phase }, { on := 17, ground := Ground.phase }], guard := none }) rfl (fun K hK => ?_) AllReadyH.nil)
            go_simp
            refine hK.out _ _ hP.2 (fun hHeld => ?_)
            clear hK K
            try simp only [Act.put, List.setIfInBounds_toArray, List.set_cons_zero, List.set_cons_succ]
            refine wpAnyH_done (by kernel_rfl) ?_ _
            refine NoPanic.normal ?_
            exact ⟨rfl, _, rfl, hP⟩
        · go_simp
          have s3 := SB.al S0 (.cells Z.toArray 90)
          have r3 : Row (wr.drew.alloc (.cells Z.toArray 90)) wr.drew.heap.size 90 Z := Row.new wr.drew _ _
          have z3 : wr.heap.size ≤ wr.drew.heap.size := Nat.le_refl _
          refine hK.out _ _ s3 (fun hHeld => ?_)
          clear hK K
          try simp only [Act.put, List.setIfInBounds_toArray, List.set_cons_zero, List.set_cons_succ]
          refine wpAnyH_ready (rs := [9]) (by kernel_rfl) (by simp) (AllReadyH.cons (o := { dst := some 23, op := Op.call { callee := Callee.value (Operand.func 83), args := #[Operand.tmp 18, Operand.tmp 22], argTypes := #[30, 3] }, type := 3, pos := "log.go:162", after := #[{ on := 4, ground := Ground.data }, { on := 8, ground := Ground.data }], guard := none }) rfl (fun K hK => ?_) AllReadyH.nil)
          go_simp
          go_at_call 83
          refine (HFI.out _ (HJ.out.2.trans (Below.mono s3 (HJ.out.2.size)))).mono ?_
          rintro e wf ⟨rfl, rfl⟩
          refine hK.out _ _ s3 (fun hHeld => ?_)
          clear hK K
          try simp only [Act.put, List.setIfInBounds_toArray, List.set_cons_zero, List.set_cons_succ]
          refine wpAnyH_take (i := 11) (oi := { dst := some 25, op := Op.binOp BinOp.add 3 (Operand.tmp 23) (Operand.tmp 24) 3, type := 3, pos := "log.go:162", after := #[{ on := 9, ground := Ground.data }, { on := 10, ground := Ground.data }], guard := none }) (v := ?vvz18_11) rfl (by kernel_rfl) (by kernel_rfl) (by kernel_rfl) (fun _ _ _ h => h) (Or.inl ⟨by rfl, ?yyz18_11⟩) hHeld ?_
          case vvz18_11 => exact .int .i64 ((a : Int) + (j : Int))
          case yyz18_11 =>
            intro W hS
            go_simp
            rw [IntKind.wrap_i64]
            omega
          try simp only [Act.put, List.setIfInBounds_toArray, List.set_cons_zero, List.set_cons_succ]
          refine wpAnyH_ready (rs := [12]) (by kernel_rfl) (by simp) (AllReadyH.cons (o := { dst := some 26, op := Op.call { callee := Callee.value (Operand.func 56), args := #[Operand.tmp 17, Operand.tmp 25], argTypes := #[24, 3] }, type := 98, pos := "log.go:162", after := #[{ on := 3, ground := Ground.data }, { on := 11, ground := Ground.data }, { on := 9, ground := Ground.chain }], guard := none }) rfl (fun K hK => ?_) AllReadyH.nil)
          go_simp
          go_at_call 56
          refine (HRDj.out _ (HJ.out.2.trans (Below.mono s3 (HJ.out.2.size)))).mono ?_
          rintro e w4 ⟨rfl, hb4⟩
          have s4 := SB.next s3 hb4
          have r4 := r3.below hb4 r3.lt
          refine hK.out _ _ s4 (fun hHeld => ?_)
          clear hK K
          try simp only [Act.put, List.setIfInBounds_toArray, List.set_cons_zero, List.set_cons_succ]
          refine wpAnyH_take (i := 13) (oi := { dst := some 13, op := Op.move (Operand.tmp 26), type := 98, pos := "log.go:162", after := #[{ on := 12, ground := Ground.data }], guard := none }) (v := ?vvz19_13) rfl (by kernel_rfl) (by kernel_rfl) (by kernel_rfl) (fun _ _ _ h => h) (Or.inl ⟨by rfl, ?yyz19_13⟩) hHeld ?_
          case vvz19_13 => exact .tuple #[.agg C.toArray, .int .i64 0]
          case yyz19_13 =>
            intro W hS
            go_simp
          try simp only [Act.put, List.setIfInBounds_toArray, List.set_cons_zero, List.set_cons_succ]
          refine wpAnyH_take (i := 14) (oi := { dst := some 27, op := Op.extract (Operand.tmp 13) 0, type := 90, pos := "log.go:162", after := #[{ on := 13, ground := Ground.data }], guard := none }) (v := ?vvz20_14) rfl (by kernel_rfl) (by kernel_rfl) (by kernel_rfl) (fun _ _ _ h => h) (Or.inl ⟨by rfl, ?yyz20_14⟩) hHeld ?_
          case vvz20_14 => exact .agg C.toArray
          case yyz20_14 =>
            intro W hS
            go_simp
          try simp only [Act.put, List.setIfInBounds_toArray, List.set_cons_zero, List.set_cons_succ]
          refine wpAnyH_take (i := 15) (oi := { dst := some 28, op := Op.extract (Operand.tmp 13) 1, type := 25, pos := "log.go:162", after := #[{ on := 13, ground := Ground.data }, { on := 17, ground := Ground.gcOnly Departure.lateStores }], guard := none }) (v := ?vvz21_15) rfl (by kernel_rfl) (by kernel_rfl) (by kernel_rfl) (fun _ _ _ h => h) (Or.inl ⟨by rfl, ?yyz21_15⟩) hHeld ?_
          case vvz21_15 => exact .int .i64 0
          case yyz21_15 =>
            intro W hS
            go_simp
          try simp only [Act.put, List.setIfInBounds_toArray, List.set_cons_zero, List.set_cons_succ]
          refine wpAnyH_ready (rs := [17]) (by kernel_rfl) (by simp) (AllReadyH.cons (o := { dst := none, op := Op.store 90 (Operand.tmp 6) (Operand.tmp 27), type := 0, pos := "log.go:162", after := #[{ on := 16, ground := Ground.data }, { on := 14, ground := Ground.data }, { on := 12, ground := Ground.chain }, { on := 0, ground := Ground.phase }, { on := 1, ground := Ground.phase }, { on := 2, ground := Ground.phase }, { on := 3, ground := Ground.phase }, { on := 4, ground := Ground.phase }, { on := 5, ground := Ground.phase }, { on := 6, ground := Ground.phase }, { on := 7, ground := Ground.phase }, { on := 8, ground := Ground.phase }, { on := 9, ground := Ground.phase }, { on := 10, ground := Ground.phase }, { on := 11, ground := Ground.phase }, { on := 12, ground := Ground.phase }, { on := 13, ground := Ground.phase }, { on := 14, ground := Ground.phase }, { on := 15, ground := Ground.textOnly Departure.lateStores }, { on := 16, ground := Ground.phase }], guard := none }) rfl (fun K hK => ?_) AllReadyH.nil)
          rw [if_pos (by rfl)]
          refine wp_store_mid _ _ _ rfl wr.drew.heap.size 0 C.toArray rfl rfl (hthZ _ _ r4) HC.out.2.2.2 HC.out.2.1 ?_
          try simp only [Act.put, List.setIfInBounds_toArray, List.set_cons_zero, List.set_cons_succ, List.toList_toArray]
          have hP := HPS.out _ wr.drew.heap.size s4 r4 (by omega)
          refine hK.out _ _ hP.2 (fun hHeld => ?_)
          clear hK K
          try simp only [Act.put, List.setIfInBounds_toArray, List.set_cons_zero, List.set_cons_succ]
          refine wpAnyH_ready (rs := [18]) (by kernel_rfl) (by simp) (AllReadyH.cons (o := { dst := some 7, op := Op.assign (Operand.tmp 28), type := 25, pos := "log.go:162", after := #[{ on := 15, ground := Ground.data }, { on := 17, ground := Ground.chain }, { on := 0, ground := Ground.phase }, { on := 1, ground := Ground.phase }, { on := 2, ground := Ground.phase }, { on := 3, ground := Ground.phase }, { on := 4, ground := Ground.phase }, { on := 5, ground := Ground.phase }, { on := 6, ground := Ground.phase }, { on := 7, ground := Ground.phase }, { on := 8, ground := Ground.phase }, { on := 9, ground := Ground.phase }, { on := 10, ground := Ground.phase }, { on := 11, ground := Ground.phase }, { on := 12, ground := Ground.phase }, { on := 13, ground := Ground.phase }, { on := 14, ground := Ground.phase }, { on := 15, ground := Ground.phase }, { on := 16, ground := Ground.phase }, { on := 17, ground := Ground.phase }], guard := none }) rfl (fun K hK => ?_) AllReadyH.nil)
          go_simp
          refine hK.out _ _ hP.2 (fun hHeld => ?_)
          clear hK K
          try simp only [Act.put, List.setIfInBounds_toArray, List.set_cons_zero, List.set_cons_succ]
          refine wpAnyH_done (by kernel_rfl) ?_ _
          refine NoPanic.normal ?_
          exact ⟨rfl, _, rfl, hP⟩

      · intro gb wf hPf
        try simp only [Act.put, List.setIfInBounds_toArray, List.set_cons_zero, List.set_cons_succ]
        have hwf : w.heap.size ≤ wf.heap.size := Nat.le_trans HJ.out.2.size hPf.2.size
        have hWB := BWrite_any w.heap.size w.heap.size gb (Lib.byteCells (bytesN D a j)) C (fun u hu => (Array.all_eq_true_iff_forall_mem.1 HC.out.2.1) u (by simpa using hu)) wf (isBuilder_below HJ.out.1 hPf.2) hPf.1
          (by rw [Lib.byteCells_length, HBL.out j (by omega), HC.out.2.2.1]; omega) hwf
        rw [HC.out.2.2.1, show Lib.byteCells (bytesN D a j) ++ C = Lib.byteCells (bytesN D a (j + 1)) by rw [← HC.out.1, show bytesN D a (j + 1) = bytesN D a j ++ D.read ((a + j : Nat) : Int) from rfl]; exact (List.map_append).symm] at hWB
        have HWB := Lib.hid hWB
        have HPF := Lib.hid (And.intro hPf hwf)
        clear hWB hPf hwf HPS hthZ S0 HRW HC
        go_wp2_with fail
        refine HWB.out.mono ?_
        rintro e w5 ⟨rfl, hb5⟩
        have H5 : Hid (Lib.IsBuilder 127 5 w.heap.size w.heap.size (Lib.byteCells (bytesN D a (j + 1))) w5 ∧ Below w.heap.size w w5) := Lib.hid ⟨.inr hb5.1, (HJ.out.2.trans (HPF.out.1.2.mono HJ.out.2.size)).trans hb5.2.1⟩
        clear hb5
        go_wp2_with fail
        go_roundw
        case rel => exact ⟨j + 1, by go_num, by omega, H5⟩
        case measure => simp [intOf]; omega
    · obtain rfl : j = n := by omega
      go_wp2_with fail
      refine (BString_any w.heap.size w.heap.size (bytesN D a j) wr HJ.out.1 HJ.out.2.size).mono ?_
      rintro e w6 ⟨rfl, hb6⟩
      have H6 := Lib.hid (HJ.out.2.trans hb6)
      clear hb6
      go_wp2_with fail
      go_ret2
      exact ⟨rfl, H6.out⟩
end
end Go.Proofs.YtiaaeniopjpfpaaGreatDoor

namespace Go.Proofs.YtiaaeniopjpfpaaGreatDoor
open Go Go.RowKit Go.Maps
set_option linter.unusedVariables false
set_option linter.unusedSimpArgs false

section
variable {L : Nat → Prop} {w : World} {lp p : Nat} {g : LG}
set_option maxRecDepth 4000 in
theorem wipe_any (hr : Row w lp 83 (g.cells p)) (bs : List UInt8) (hl : bs.length ≤ 1000000000) (hu : (Lib.trimRightB bs 0).length ≤ g.used) :
    Calls Tryz.prog 44 #[.pointer (some ⟨lp, 0, none⟩), .string (tx bs)] w fun e w' => e = .returned (.int .i64 0) ∧ w = w' := by
  have HT : Hid (Calls Tryz.prog 86 #[.string (tx bs), .string ⟨#[0]⟩] w fun e w' => e = .returned (.string (tx (Lib.trimRightB bs 0))) ∧ w' = w) := Lib.hid (by
    have h := Tryz.strings_TrimRight_one (tx bs) 0 (by decide) w (by rw [tx_size]; omega)
    rw [tx_list] at h
    exact h)
  obtain ⟨R, hR⟩ : ∃ R, tx (Lib.trimRightB bs 0) = R := ⟨_, rfl⟩
  have hRs : R.size = (Lib.trimRightB bs 0).length := by rw [← hR, tx_size]
  rw [hR] at HT
  obtain ⟨k, hk⟩ : ∃ k, (Lib.trimRightB bs 0).length = k := ⟨_, rfl⟩
  obtain ⟨u, hu2⟩ : ∃ u, g.used = u := ⟨_, rfl⟩
  rw [hk] at hRs hu
  have c4 := hr.cell 4
  simp only [LG.cells, List.getElem?_cons_zero, List.getElem?_cons_succ] at c4
  rw [hu2] at hu c4
  have hkI : (k : Int) ≤ (u : Int) := by omega
  clear hR hk hu2 hl hr
  go_enter Tryz.func44, Tryz.ntmps44
  go_wp2_with fail
  refine HT.out.mono ?_
  rintro e w1 ⟨rfl, rfl⟩
  go_wp2_with fail
  go_ret
  exact ⟨rfl, rfl⟩
end
end Go.Proofs.YtiaaeniopjpfpaaGreatDoor

namespace Go.Proofs.YtiaaeniopjpfpaaGreatDoor
open Go Go.Shelf Go.RowKit Go.Maps
set_option linter.unusedVariables false
set_option linter.unusedSimpArgs false
attribute [local go_sem] Oper.semAt_some

theorem picks_ok {g : LG} (h : g.ok) {D : DS} (hD : D.ok) (hdn : D.down = false) : (g.picks D 2).ok := by
  have := hD.least
  exact pick_ok (pick_ok h (readB_len hD hdn 0 (by omega))) (readB_len hD hdn 1 (by omega))
theorem str_infoO : (Tryz.prog.info? 9).map (fun i => (i.zero, i.size, i.bytes)) = some (some (.string ⟨#[]⟩), 1, 16) := by kernel_rfl
def LG.zero : LG := ⟨0, 0, 0, 0, 0⟩
/-- The place behind the last frame. -/
def usedL (u : Nat) (pre : List (Nat × List UInt8)) : Nat := match pre.getLast? with
  | none => u
  | some x => x.1
theorem usedL_snoc (u : Nat) (pre : List (Nat × List UInt8)) (x : Nat × List UInt8) : usedL u (pre ++ [x]) = x.1 := by
  unfold usedL
  simp
/-- The log as it is opened. -/
def LG.opened (D : DS) : LG := LG.zero.picks D 2
def LG.opentexts (D : DS) : List (Nat × List UInt8) := framesL ((LG.opened D).bytes D)
def LG.openG (D : DS) : LG := { LG.opened D with used := usedL (LG.opened D).used (LG.opentexts D), count := (LG.opentexts D).length }
theorem own_row_f {β : Type} (B : Nat) (t : TypeId) (f : β → List Value) : Own (fun (s : β) W => Row W B t (f s)) := fun s X Y row h hg hrow => by
  refine (hg.block B h.lt (fun e => ?_)).trans h
  obtain ⟨o, ho, hc⟩ := hrow B e.symm
  rw [show X.heap[B]? = _ from h] at ho
  cases ho
  cases hc
section
variable {L : Nat → Prop} {w : World} {p : Nat} {D : DS}
set_option maxRecDepth 100000 in
set_option maxHeartbeats 4000000 in
theorem Open_any (hG : G w) (hd : DiskIs L w p D) (hdn : D.down = false) (hw : (Lib.trimRightB ((LG.opened D).bytes D) 0).length ≤ (LG.openG D).used) :
    Calls Tryz.prog 11 #[.pointer (some ⟨p, 0, none⟩)] w fun e w' => (∃ lp v, e = .returned (.tuple #[.pointer (some ⟨lp, 0, none⟩), v, .int .i64 0]) ∧ w.heap.size ≤ lp ∧ Row w' lp 83 ((LG.openG D).cells p) ∧
      w'.ownsRow w.heap.size 9 1 v (LG.opentexts D).length ((LG.opentexts D).map fun x => Value.string (tx x.2))) ∧ Below w.heap.size w w' := by
  have hgood : D.ok := by obtain ⟨gl0, gm0, hv0, Dm0, hd0⟩ := id hd; exact hd0.good
  have hsec : secs D ≤ 2047 := by obtain ⟨gl0, gm0, hv0, Dm0, hd0⟩ := id hd; exact (secs_le hd0).1
  have hok : LG.zero.ok := ⟨by decide, by decide⟩
  have hok2 : (LG.opened D).ok := picks_ok hok hgood hdn
  obtain ⟨i0, hi, hz0, hz1, hz2⟩ := info_parts str_infoO
  refine (callsIn_wide (n := 6)).1 ?_
  refine callsIn_of_wp_marks Tryz.func11 rfl trivial ?_ rfl
  simp only [Tryz.ntmps11, List.size_toArray, List.length_cons, List.length_nil, Nat.reduceAdd, Nat.reduceSub, Array.replicate_succ, Array.replicate_zero, List.push_toArray, List.append_toArray, List.nil_append, List.cons_append]
  rw [wpIn_wide]
  have HH := Lib.hid (And.intro hG (And.intro hd (And.intro hdn (And.intro hw (And.intro hgood (And.intro hsec (And.intro hok hok2)))))))
  clear hG hd hdn hw hgood hsec hok hok2
  go_wp2_with fail
  obtain ⟨lp, hlp⟩ : ∃ lp, w.heap.size = lp := ⟨_, rfl⟩
  have H0 : Hid (Row ((w.alloc (.cells #[.pointer (some ⟨p, 0, none⟩), .int .u64 0, .int .i64 0, .int .i64 0, .int .i64 0, .int .i64 0] 83)).alloc (.cells #[.pointer (some ⟨w.heap.size, 0, none⟩)] 30)) lp 83 (LG.zero.cells p) ∧
      Boxed ((w.alloc (.cells #[.pointer (some ⟨p, 0, none⟩), .int .u64 0, .int .i64 0, .int .i64 0, .int .i64 0, .int .i64 0] 83)).alloc (.cells #[.pointer (some ⟨w.heap.size, 0, none⟩)] 30)) (lp + 1) 30 (.pointer (some ⟨lp, 0, none⟩)) ∧
      Below w.heap.size w ((w.alloc (.cells #[.pointer (some ⟨p, 0, none⟩), .int .u64 0, .int .i64 0, .int .i64 0, .int .i64 0, .int .i64 0] 83)).alloc (.cells #[.pointer (some ⟨w.heap.size, 0, none⟩)] 30))) := Lib.hid (by
    subst hlp
    refine ⟨(Row.new w 83 [.pointer (some ⟨p, 0, none⟩), .int .u64 0, .int .i64 0, .int .i64 0, .int .i64 0, .int .i64 0]).alloc _, ?_, ((Below.refl _ _).alloc (Nat.le_refl _) _).alloc (by simp) _⟩
    have h := Boxed.new (w.alloc (.cells #[.pointer (some ⟨p, 0, none⟩), .int .u64 0, .int .i64 0, .int .i64 0, .int .i64 0, .int .i64 0] 83)) 30 (.pointer (some ⟨w.heap.size, 0, none⟩))
    rw [World.size_alloc] at h
    exact h)
  generalize (w.alloc (.cells #[.pointer (some ⟨p, 0, none⟩), .int .u64 0, .int .i64 0, .int .i64 0, .int .i64 0, .int .i64 0] 83)).alloc (.cells #[.pointer (some ⟨w.heap.size, 0, none⟩)] 30) = wa at H0 ⊢
  rw [hlp] at H0 ⊢
  have HLP := Lib.hid hlp
  have hCH := choose_any (w := wa) (lp := lp) (p := p) (D := D) (g := LG.zero) (HH.out.1.below (by rw [hlp]; exact H0.out.2.2)) (by have := HH.out.1.lt; omega) H0.out.1 ((HH.out.2.1.more (L' := fun k => k = lp) (fun g hg => .inr (by omega))).below (by rw [hlp]; exact H0.out.2.2)) HH.out.2.2.1 HH.out.2.2.2.2.2.2.1
  have HCH := Lib.hid hCH
  clear hCH hlp
  refine HCH.out.mono ?_
  rintro e w2 ⟨rfl, hr2, hk2⟩
  have H2 : Hid (Row w2 lp 83 ((LG.opened D).cells p) ∧ Below lp w w2) := Lib.hid ⟨hr2, H0.out.2.2.trans (hk2.below (by have := H0.out.2.2.size; have := HLP.out; omega) (fun k hk => by omega))⟩
  have hX2 : Boxed w2 (lp + 1) 30 (.pointer (some ⟨lp, 0, none⟩)) := (hk2.block (lp + 1) H0.out.2.1.lt (by omega)).trans H0.out.2.1
  have hx2 := hX2.cell
  have HX2 := Lib.hid hX2
  clear hr2 hk2 hX2 HCH
  go_wp2_with fail
  obtain ⟨bs, hbs⟩ : ∃ bs, (LG.opened D).bytes D = bs := ⟨_, rfl⟩
  have hBY := bytes_any H2.out.1 (HH.out.2.1.below (by rw [HLP.out]; exact H2.out.2)) HH.out.2.2.1 HH.out.2.2.2.2.2.2.2.half
  rw [hbs] at hBY
  refine hBY.mono ?_
  rintro e w3 ⟨rfl, hb3⟩
  have H3 : Hid (Row w3 lp 83 ((LG.opened D).cells p) ∧ Boxed w3 (lp + 1) 30 (.pointer (some ⟨lp, 0, none⟩)) ∧ Below lp w w3) := Lib.hid ⟨H2.out.1.below hb3 H2.out.1.lt, (hb3.block _ HX2.out.lt).trans HX2.out, H2.out.2.trans (hb3.mono (by have := H2.out.2.size; have := HLP.out; omega))⟩
  have HBS := Lib.hid hbs
  clear hBY hb3 hx2 H2 HX2 H0 hbs
  go_wp2_with fail
  refine ((callsIn_wide (n := 0)).1 (Frames_in 0 (tx bs) _)).mono ?_
  rintro e w4 ⟨rfl, rfl⟩
  go_wp2_with fail
  obtain ⟨s3, hs3⟩ : ∃ s, w3.heap.size = s := ⟨_, rfl⟩
  have H5 : Hid ((Row ((w3.alloc (.cells #[.slice none 0 0] 31)).alloc (.cells #[.string (tx bs)] 9)) lp 83 ((LG.opened D).cells p) ∧ Boxed ((w3.alloc (.cells #[.slice none 0 0] 31)).alloc (.cells #[.string (tx bs)] 9)) (lp + 1) 30 (.pointer (some ⟨lp, 0, none⟩))) ∧ (Boxed ((w3.alloc (.cells #[.slice none 0 0] 31)).alloc (.cells #[.string (tx bs)] 9)) s3 31 (.slice none 0 0) ∧ Boxed ((w3.alloc (.cells #[.slice none 0 0] 31)).alloc (.cells #[.string (tx bs)] 9)) (s3 + 1) 9 (.string (tx bs))) ∧ Below lp w ((w3.alloc (.cells #[.slice none 0 0] 31)).alloc (.cells #[.string (tx bs)] 9)) ∧ lp + 1 < s3 ∧ ((w3.alloc (.cells #[.slice none 0 0] 31)).alloc (.cells #[.string (tx bs)] 9)).heap.size = s3 + 2) := Lib.hid (by
    subst hs3
    have hz := H3.out.2.2.size
    have hl := H3.out.2.1.lt
    have hB := Boxed.new (w3.alloc (.cells #[.slice none 0 0] 31)) 9 (.string (tx bs))
    rw [World.size_alloc] at hB
    exact ⟨⟨(H3.out.1.alloc _).alloc _, (H3.out.2.1.alloc _).alloc _⟩, ⟨(Boxed.new w3 _ _).alloc _, hB⟩, (H3.out.2.2.alloc (by omega) _).alloc (by rw [World.size_alloc]; omega) _, hl, by rw [World.size_alloc, World.size_alloc]⟩)
  rw [hs3]
  generalize ((w3.alloc (.cells #[.slice none 0 0] 31)).alloc (.cells #[.string (tx bs)] 9)) = w5 at H5 ⊢
  clear H3 hs3
  have hG5 : G w5 := HH.out.1.below (by rw [HLP.out]; exact H5.out.2.2.1)
  have hsl : s3 + 2 ≤ w5.heap.size := Nat.le_of_eq H5.out.2.2.2.2.symm
  have hsl2 : w5.heap.size ≤ s3 + 2 := Nat.le_of_eq H5.out.2.2.2.2
  have hlt5 := H5.out.2.2.2.1
  have hgl : 0 < lp := by have := HH.out.1.lt; have := HLP.out; omega
  have hbl : bs.length ≤ 1000000 := by
    obtain ⟨gl0, gm0, hv0, Dm0, hd0⟩ := id HH.out.2.1
    have hl := half_in HH.out.2.2.2.2.1 (LG.opened D).half (secs D - 1) HH.out.2.2.2.2.2.2.2.half (by have := (secs_le hd0).2; omega)
    have hb := bytesN_length D HH.out.2.2.2.2.1 HH.out.2.2.1 (2 + (LG.opened D).half * secs D) (secs D) (by have := (secs_le hd0).2; omega)
    have hs := HH.out.2.2.2.2.2.1
    rw [← HBS.out]
    unfold LG.bytes
    omega
  have hfl : (framesL bs).length ≤ bs.length := framesF_length _ _ _ _
  rw [← wpIn_wide (n := 6)]
  refine' wpIn_rangeFunc_ownG rfl (by omega) (gf := 64) (lb := #[.pointer (some ⟨s3 + 1, 0, none⟩)]) rfl trivial (enters_of Tryz.func64 (by kernel_rfl) rfl)
    (Frames_stops 5 (by omega) (s3 + 1) bs (by omega) w5 hG5 H5.out.2.1.2) keepsF_t (keepsF_b (by omega) (by omega)) (Below.refl _ _) (fun _ => rfl)
    (fun (pre : List (Nat × List UInt8)) W => (∃ v, Boxed W s3 31 v ∧ W.ownsRow (s3 + 2) 9 1 v pre.length (pre.map fun x => Value.string (tx x.2)) ∧ True) ∧ Row W lp 83 (({ LG.opened D with used := usedL (LG.opened D).used pre } : LG).cells p) ∧ Keeps (fun k => k < s3 + 2 ∧ k ≠ s3 ∧ k ≠ lp) w5 W)
    (fun _ _ _ => False)
    (OwnFrom.and (Own.from (holdsRow_own (s3 + 2) s3 31 9 1 (fun (pre : List (Nat × List UInt8)) => pre.length) (fun pre => pre.map fun x => Value.string (tx x.2)) (fun _ _ => True)) _) (OwnFrom.and (Own.from (own_row_f lp 83 (fun (pre : List (Nat × List UInt8)) => ({ LG.opened D with used := usedL (LG.opened D).used pre } : LG).cells p)) _) (ownFrom_keeps (Nat.le_refl _))))
    (fun _ _ _ _ _ hs _ _ => hs)
    ⟨⟨_, H5.out.2.1.1, World.ownsRow_nil _ _ _ _, trivial⟩, H5.out.1.1, Keeps.refl _ _⟩
    _ _ _ _ _
  case refine'_2 =>
    intro l x W K hK
    gi_wp2
    exact hK
  case refine'_5 =>
    rintro D c pre W _ _ h _
    exact h.elim
  case refine'_3 =>
    rintro l' pre x W ⟨⟨v, hv, hrow, _⟩, hr, hk⟩ hlt
    have hc := hv.cell
    have hsz := hk.size
    have hX : Boxed W (lp + 1) 30 (.pointer (some ⟨lp, 0, none⟩)) := (hk.block (lp + 1) (by omega) ⟨by omega, by omega, by omega⟩).trans H5.out.1.2
    have HL := Lib.hid (And.intro hr (And.intro hk hX))
    clear hr hk hX
    gi_wp2_with (gi_at_builtin; refine wpListIn_append_own _ rfl _ _ 31 rfl (s3 + 2) 9 i0 (.string ⟨#[]⟩) 1 16 Tryz.underlying31 hi hz0 hz1 hz2 rfl (by decide) _ _ _ rfl (hrow.alloc _) ⟨W.heap.size, 0, none⟩ 1 1 [.string (tx x.2)] rfl rfl (cell_one_new _ _ _) (by simp [Value.oneCell']) (by unfold maxLen; omega) (by omega) (by simp; omega) ?_; intro v' w1 hown' hgrow _; obtain ⟨g', cap', rfl⟩ := ownsRow_succ hown'; obtain ⟨hv1, hv2, hr2, hk2, hb2⟩ := box_append (L := fun k => k < s3 + 2 ∧ k ≠ s3) hv (by decide) hrow hown' hgrow (by omega) (fun k h => h.1); have hc1 := hv1.cell; have hf1 := hv1.frozen; have hXc := (show Boxed _ (lp + 1) 30 (.pointer (some ⟨lp, 0, none⟩)) from (hb2.block (lp + 1) (by omega) ⟨by omega, by omega⟩).trans HL.out.2.2).cell; have hR6 : Row _ lp 83 _ := (hb2.block lp (by omega) ⟨by omega, by omega⟩).trans HL.out.1; have hf6 := hR6.frozen 4; have HR6 := Lib.hid hR6; clear hR6; have hR1 : Row w1 lp 83 _ := (hgrow.block lp (HL.out.1.alloc _).lt (fun e => by have := (hrow.lt lp e.symm).1; omega)).trans (HL.out.1.alloc _); have hc6 := hR1.cell 4; simp only [LG.cells, List.getElem?_cons_zero, List.getElem?_cons_succ] at hc6; clear hR1)
    have hk2 := Lib.hid hk2
    have hXY := Lib.hid hown'
    generalize hv'e : Value.slice (some ⟨g', 0, none⟩) (pre.length + 1) cap' = v' at *
    have hfar : ∀ k, k ≠ lp → ((w1.setCell ⟨s3, 0, none⟩ v').setCell ⟨lp, 4, none⟩ (.int .i64 (x.1 : Nat))).heap[k]? = (w1.setCell ⟨s3, 0, none⟩ v').heap[k]? := fun k h => Below.heap_setCell _ ⟨lp, 4, none⟩ _ k h
    have hgr : (w1.setCell ⟨s3, 0, none⟩ v').grownBy ((w1.setCell ⟨s3, 0, none⟩ v').setCell ⟨lp, 4, none⟩ (.int .i64 (x.1 : Nat))) (some lp) := ⟨rfl, rfl, rfl, by simp [World.setCell], fun k _ hk => hfar k (fun e => hk (by rw [e]))⟩
    have hg2 : 0 < W.heap.size := by omega
    refine ⟨(hk2.out.trans (KeepsOthers.setCell _ _ _)).from _, ⟨(hfar (s3 + 1) (by omega)).trans (hb2.block (s3 + 1) (by omega) ⟨by omega, by omega⟩), (hfar 0 (by omega)).trans (hb2.block 0 hg2 ⟨by omega, by omega⟩)⟩, ⟨v', (hfar s3 (by omega)).trans hv2, ?_⟩, ?_, (HL.out.2.1.trans (hb2.mono (fun k h => ⟨h.1, h.2.1⟩))).setCell (p := ⟨lp, 4, none⟩) (.inl (fun h => h.2.2 rfl)) _⟩
    · have h := hr2.kept hgr (.inr (fun e => by have := (hr2.lt lp e).1; omega))
      rw [List.length_append, List.map_append]
      exact h
    · have h := HR6.out.set 4 (.int .i64 (x.1 : Nat))
      rw [usedL_snoc]
      exact h
  case refine'_4 =>
    rintro D' ys W hD rfl ⟨⟨v, hv, hrow, _⟩, hr, hk⟩ hK
    have hsz := hk.size
    have hX : Boxed W (lp + 1) 30 (.pointer (some ⟨lp, 0, none⟩)) := (hk.block (lp + 1) (by omega) ⟨by omega, by omega, by omega⟩).trans H5.out.1.2
    obtain ⟨m, hm⟩ : ∃ m, (framesL bs).length = m := ⟨_, rfl⟩
    have hopen : LG.openG D = { LG.opened D with used := usedL (LG.opened D).used (framesL bs), count := m } := by unfold LG.openG LG.opentexts; rw [HBS.out, hm]
    rw [hm] at hrow
    obtain ⟨ao, cap, rfl⟩ : ∃ ao cap, v = .slice ao m cap := by
      rcases hrow.2 with ⟨rfl, h0⟩ | ⟨g, cap, cur, rfl, _⟩
      · exact ⟨none, 0, by rw [h0]⟩
      · exact ⟨_, cap, rfl⟩
    have hfar : ∀ k, k ≠ lp → (W.setCell ⟨lp, 3, none⟩ (.int .i64 (m : Nat))).heap[k]? = W.heap[k]? := fun k h => Below.heap_setCell _ ⟨lp, 3, none⟩ _ k h
    have hgr : W.grownBy (W.setCell ⟨lp, 3, none⟩ (.int .i64 (m : Nat))) (some lp) := ⟨rfl, rfl, rfl, by simp [World.setCell], fun k _ hk => hfar k (fun e => hk (by rw [e]))⟩
    have HF : Hid (Row (W.setCell ⟨lp, 3, none⟩ (.int .i64 (m : Nat))) lp 83 ((LG.openG D).cells p) ∧ Boxed (W.setCell ⟨lp, 3, none⟩ (.int .i64 (m : Nat))) (lp + 1) 30 (.pointer (some ⟨lp, 0, none⟩)) ∧ Boxed (W.setCell ⟨lp, 3, none⟩ (.int .i64 (m : Nat))) s3 31 (.slice ao m cap) ∧
        (W.setCell ⟨lp, 3, none⟩ (.int .i64 (m : Nat))).ownsRow (s3 + 2) 9 1 (.slice ao m cap) m ((framesL bs).map fun x => Value.string (tx x.2)) ∧ Below lp w (W.setCell ⟨lp, 3, none⟩ (.int .i64 (m : Nat))) ∧ (W.setCell ⟨lp, 3, none⟩ (.int .i64 (m : Nat))).heap[D']? = some (.deferred (some []))) := Lib.hid (by
      refine ⟨?_, (hfar _ (by omega)).trans hX, (hfar _ (by omega)).trans hv, hrow.kept hgr (.inr (fun e => by have := (hrow.lt lp e).1; omega)), ?_, (hfar D' (by omega)).trans hK⟩
      · have h := hr.set 3 (.int .i64 (m : Nat))
        rw [hopen]
        exact h
      · exact (H5.out.2.2.1.trans (hk.below (by omega) (fun k h => ⟨by omega, by omega, by omega⟩))).setCell (p := ⟨lp, 3, none⟩) (Nat.le_refl _) _)
    have hc := hv.cell
    have hxc := hX.cell
    have hc3 := hr.cell 3
    have hf3 := hr.frozen 3
    simp only [LG.cells, List.getElem?_cons_zero, List.getElem?_cons_succ] at hc3
    have HU : Hid ((Lib.trimRightB bs 0).length ≤ (LG.openG D).used) := Lib.hid (by rw [← HBS.out]; exact HH.out.2.2.2.1)
    have HBL := Lib.hid (And.intro hbl (And.intro hm (And.intro hD hlt5)))
    clear hv hX hr hk hK hrow hm hopen hfar hgr hbl hfl hD hsl hsl2 hsz hgl hG5 hlt5
    go_wp2_with fail
    refine (wipe_any HF.out.1 bs (by have := HBL.out.1; omega) HU.out).mono ?_
    rintro e w7 ⟨rfl, rfl⟩
    have hc6 := HF.out.2.2.1.cell
    have hxc6 := HF.out.2.1.cell
    clear hc hxc hc3 hf3
    generalize W.setCell ⟨lp, 3, none⟩ (.int .i64 (m : Nat)) = w8 at HF hc6 hxc6 ⊢
    go_wp2_with fail
    have H18 : Hid (∀ W, SB w8 W → W.cell? ⟨lp + 1, 0, none⟩ = some (.pointer (some ⟨lp, 0, none⟩)) ∧ W.cell? ⟨s3, 0, none⟩ = some (.slice ao m cap)) := Lib.hid fun W h =>
      ⟨Boxed.cell (t := 30) ((h.block _ HF.out.2.1.lt).trans HF.out.2.1), Boxed.cell (t := 31) ((h.block _ HF.out.2.2.1.lt).trans HF.out.2.2.1)⟩
    clear hc6 hxc6
    refine region_quiet_lit (fun W => SB w8 W) (by kernel_rfl) (by kernel_rfl) ⟨rfl, rfl, rfl, Nat.le_refl _, fun _ _ => rfl⟩ ?_
    refine wpQ_yields (.pointer (some ⟨lp, 0, none⟩)) (Or.inl ⟨by rfl, fun W' hS => ?yo1⟩) ?_
    case yo1 =>
      have q0 := (H18.out W' hS).1
      go_simp
    try simp only [Act.put, List.setIfInBounds_toArray, List.set_cons_zero, List.set_cons_succ]
    refine wpQ_yields (.slice ao m cap) (Or.inl ⟨by rfl, fun W' hS => ?yo2⟩) ?_
    case yo2 =>
      have q0 := (H18.out W' hS).2
      go_simp
    try simp only [Act.put, List.setIfInBounds_toArray, List.set_cons_zero, List.set_cons_succ]
    refine wpQ_yields (.pointer (some ⟨lp, 0, none⟩)) (Or.inl ⟨by rfl, fun W' hS => ?yo3⟩) ?_
    case yo3 =>
      go_simp
    try simp only [Act.put, List.setIfInBounds_toArray, List.set_cons_zero, List.set_cons_succ]
    refine wpQ_yields (.slice ao m cap) (Or.inl ⟨by rfl, fun W' hS => ?yo4⟩) ?_
    case yo4 =>
      go_simp
    try simp only [Act.put, List.setIfInBounds_toArray, List.set_cons_zero, List.set_cons_succ]
    refine wpQ_yields (.int .i64 0) (Or.inl ⟨by rfl, fun W' hS => ?yo5⟩) ?_
    case yo5 =>
      go_simp
    try simp only [Act.put, List.setIfInBounds_toArray, List.set_cons_zero, List.set_cons_succ]
    refine wpQuiet_nil ?_
    intro wf hwf
    have HWF := Lib.hid hwf
    have hK9 : wf.heap[D']? = some (.deferred (some [])) := (hwf.block D' (Array.getElem?_eq_some_iff.1 HF.out.2.2.2.2.2).1).trans HF.out.2.2.2.2.2
    clear hwf
    go_wp2_with fail
    have hDD : s3 + 2 ≤ D' := by have := HBL.out.2.2.1; have := H5.out.2.2.2.2; omega
    have hlt5 := HBL.out.2.2.2
    have hoth : ∀ k, k ≠ D' → (wf.putObj D' (.deferred none)).heap[k]? = wf.heap[k]? := fun k h => World.putObj_heap_other h
    have hB9 : Below w.heap.size w (wf.putObj D' (.deferred none)) := by
      have h8 : Below w.heap.size w w8 := by rw [HLP.out]; exact HF.out.2.2.2.2.1
      exact (h8.trans (HWF.out.mono h8.size)).trans (belowK_b (w := w) (Nat.le_refl _) _ D' _ _ (by have := HLP.out; omega) hK9 rfl rfl)
    refine ⟨by simp, .inl ⟨_, _, rfl, run_takeDeferred hK9, ?_⟩⟩
    refine ⟨_, results_tmp3 rfl _ _ _, ⟨⟨lp, _, rfl, Nat.le_of_eq HLP.out, ?_, ?_⟩, hB9⟩⟩
    · exact (hoth lp (by omega)).trans ((HWF.out.block lp HF.out.1.lt).trans HF.out.1)
    · have hown := HF.out.2.2.2.1
      have hD9 : (LG.opentexts D) = framesL bs := by unfold LG.opentexts; rw [HBS.out]
      rw [hD9, HBL.out.2.1]
      refine ⟨hown.1, ?_⟩
      rcases hown.2 with h | ⟨g, cap', cur, h1, h2, h3, h4⟩
      · exact .inl h
      · refine .inr ⟨g, cap', cur, h1, by have := HLP.out; omega, (hoth g (fun e => ?_)).trans ((HWF.out.block g (Array.getElem?_eq_some_iff.1 h3).1).trans h3), h4⟩
        subst e
        rw [HF.out.2.2.2.2.2] at h3
        cases h3
end
end Go.Proofs.YtiaaeniopjpfpaaGreatDoor

namespace Go.Proofs.YtiaaeniopjpfpaaGreatDoor
open Go.RowKit Go.Maps
set_option linter.unusedVariables false
set_option linter.unusedSimpArgs false

/-- What a put to the half does to the disk, and its error. -/
def LG.putR (g : LG) (D : DS) (bs : List UInt8) : DS × Int :=
  if D.fault ((2 + g.half * secs D + g.used / 128 : Nat) : Int) ≠ 0 then (D, D.fault ((2 + g.half * secs D + g.used / 128 : Nat) : Int))
  else putG 200 D (2 + g.half * secs D + g.used / 128) ((D.read ((2 + g.half * secs D + g.used / 128 : Nat) : Int)).take (g.used % 128) ++ bs)
def LG.add (g : LG) (D : DS) (t : List UInt8) : (LG × DS) × Int :=
  if g.err ≠ 0 then ((g, D), g.err) else if 16384 < t.length then ((g, D), 5) else if secs D * 128 - g.used < t.length + 28 then ((g, D), 14) else
  if (g.putR D (frameL (g.count + 1) t)).2 ≠ 0 then (({ g with err := (g.putR D (frameL (g.count + 1) t)).2 }, (g.putR D (frameL (g.count + 1) t)).1), (g.putR D (frameL (g.count + 1) t)).2)
  else (({ g with count := g.count + 1, used := g.used + (t.length + 28) }, (g.putR D (frameL (g.count + 1) t)).1), 0)
section
variable {L : Nat → Prop} {w : World} {lp p gl gm : Nat} {hv : Value} {Dm : DataW Unit} {D : DS} {g : LG}
set_option maxRecDepth 20000 in
set_option maxHeartbeats 2000000 in
theorem Add_any (hG : G w) (hL : ∀ k, L k → k < w.heap.size) (hlp : L lp) (hr : Row w lp 83 (g.cells p)) (hd : DiskIs L w p D) (hh : g.half ≤ 1) (hu : g.used ≤ secs D * 128) (hct : g.count ≤ 1000000000)
    (hs : D.steps ≤ 1000000) (hhg : D.hangs.length ≤ 1000000) (t : List UInt8) (he : g.err = 0) (ht : t.length ≤ 16384) (hroom : t.length + 28 ≤ secs D * 128 - g.used) :
    Calls Tryz.prog 16 #[.pointer (some ⟨lp, 0, none⟩), .string (tx t)] w fun e w' => e = .returned (.int .i64 (g.add D t).2) ∧ Row w' lp 83 ((g.add D t).1.1.cells p) ∧ DiskIs L w' p (g.add D t).1.2 ∧ Keeps (fun k => L k ∧ k ≠ lp) w w' := by
  obtain ⟨gl0, gm0, hv0, Dm0, hd0⟩ := id hd
  have hadd : g.add D t = if (g.putR D (frameL (g.count + 1) t)).2 ≠ 0 then (({ g with err := (g.putR D (frameL (g.count + 1) t)).2 }, (g.putR D (frameL (g.count + 1) t)).1), (g.putR D (frameL (g.count + 1) t)).2)
      else (({ g with count := g.count + 1, used := g.used + (t.length + 28) }, (g.putR D (frameL (g.count + 1) t)).1), 0) := by
    unfold LG.add
    rw [if_neg (by simp [he]), if_neg (by omega), if_neg (by omega)]
  rw [hadd]
  have hsec := (secs_le hd0).1
  obtain ⟨k, hk⟩ : ∃ k, t.length = k := ⟨_, rfl⟩
  obtain ⟨F, hF⟩ : ∃ F, frameL (g.count + 1) t = F := ⟨_, rfl⟩
  have hFl : F.length = 28 + k := by rw [← hF, frameL_length, hk]
  obtain ⟨H, hH⟩ : ∃ H, headL (g.count + 1) t = H := ⟨_, rfl⟩
  have hHl : H.length = 28 := by rw [← hH]; exact headL_length _ _
  have hHF : H ++ t = F := by rw [← hF, ← hH]; rfl
  obtain ⟨RD, hRD⟩ : ∃ x, (g.putR D F).1 = x := ⟨_, rfl⟩
  obtain ⟨RE, hRE⟩ : ∃ x, (g.putR D F).2 = x := ⟨_, rfl⟩
  rw [hF, hRD, hRE, hk]
  obtain ⟨TT, hTT⟩ : ∃ TT, (if RE ≠ 0 then (({ g with err := RE }, RD), RE) else (({ g with count := g.count + 1, used := g.used + (k + 28) }, RD), 0) : (LG × DS) × Int) = TT := ⟨_, rfl⟩
  rw [hTT]
  have HTT := Lib.hid hTT
  clear hTT
  obtain ⟨room, hrm⟩ : ∃ r, secs D * 128 - g.used = r := ⟨_, rfl⟩
  have HERR := Lib.hid (Err_any hr)
  have HLEFT := Lib.hid (Left_any hr hd0 hu)
  rw [he] at HERR
  rw [hrm] at HLEFT hroom
  have HPUTw : Hid (∀ wb, Below w.heap.size w wb → ∀ W, Below wb.heap.size wb W → Calls Tryz.prog 52 #[.pointer (some ⟨lp, 0, none⟩), .int .i64 (g.half : Nat), .int .i64 (g.used : Nat), .string (tx F)] W fun e w' => e = .returned (.int .i64 RE) ∧ DiskIs L w' p RD ∧ Keeps L W w') := Lib.hid fun wb hb W hW => by
    have hb2 : Below w.heap.size w W := hb.trans (hW.mono hb.size)
    have h := put_any (L := L) (w := W) (lp := lp) (p := p) (D := D) (g := g) (fun q hq => Nat.lt_of_lt_of_le (hL q hq) hb2.size) hlp (hr.below hb2 hr.lt) (hd.below hb2) g.half g.used 200 hh (by omega) F (by omega) (by omega) hs hhg
    have e1 : (if D.fault ((2 + g.half * secs D + g.used / 128 : Nat) : Int) ≠ 0 then (D, D.fault ((2 + g.half * secs D + g.used / 128 : Nat) : Int)) else putG 200 D (2 + g.half * secs D + g.used / 128) ((D.read ((2 + g.half * secs D + g.used / 128 : Nat) : Int)).take (g.used % 128) ++ F)) = g.putR D F := rfl
    rw [e1, hRD, hRE] at h
    exact h
  have hHHw : ∀ W, Below w.heap.size w W → Calls Tryz.prog 53 #[.int .i64 ((g.count + 1 : Nat) : Int), .string (tx t)] W fun e w' => e = .returned (.string (tx H)) ∧ Below W.heap.size W w' := fun W hb => by
    rw [← hH]
    exact head_any (g.count + 1) t (by omega) (by omega) W (hG.below hb)
  have hADDw : ∀ W, (Op.stringOp .add (tx H) (tx t)).run Tryz.prog W = .ok (.string (tx F)) W := fun W => by rw [← hHF]; exact add_tx H t (by omega) W
  have hts : (tx t).size = k := by rw [tx_size, hk]
  obtain ⟨T, hT⟩ : ∃ T, tx t = T := ⟨_, rfl⟩
  rw [hT] at hHHw hADDw hts ⊢
  obtain ⟨half, hhalf⟩ : ∃ x, g.half = x := ⟨_, rfl⟩
  obtain ⟨used, hused⟩ : ∃ x, g.used = x := ⟨_, rfl⟩
  obtain ⟨count, hcount⟩ : ∃ x, g.count = x := ⟨_, rfl⟩
  rw [hhalf, hused] at HPUTw
  rw [hcount, show ((count + 1 : Nat) : Int) = (count : Int) + 1 by omega] at hHHw
  have HGE := Lib.hid (And.intro hhalf (And.intro hused hcount))
  have HHD0 := Lib.hid hHHw
  have HADD := Lib.hid hADDw
  have hkI : (k : Int) ≤ 16384 := by omega
  have hkr : (k : Int) + 28 ≤ (room : Int) := by omega
  have hctI : (count : Int) ≤ 1000000000 := by omega
  have huI : (used : Int) ≤ 1000000 := by omega
  have HRW := Lib.hid (And.intro hr (And.intro hL (And.intro hlp hd)))
  have HN : Hid (∀ W, Calls Tryz.prog 28 #[.int .i64 (k : Nat)] W fun e w' => e = .returned (.int .i64 ((k : Int) + 28)) ∧ W = w') := Lib.hid fun W => Need_any k (by omega) W
  have HK := Lib.hid hk
  clear hadd hsec hF hFl hH hHl hHF hRD hRE hrm hT hhalf hused hcount hHHw hADDw hk he ht hroom hu hct hs hhg hh hd hd0 hr hlp hL hG
  go_enter Tryz.func16, Tryz.ntmps16
  go_wp2_with fail
  refine HERR.out.mono ?_
  rintro e w1 ⟨rfl, rfl⟩
  go_wp2_with fail
  refine (HN.out _).mono ?_
  rintro e w1 ⟨rfl, rfl⟩
  go_wp2_with fail
  refine HLEFT.out.mono ?_
  rintro e wb ⟨rfl, hbb⟩
  have rb : Row wb lp 83 (g.cells p) := HRW.out.1.below hbb HRW.out.1.lt
  have c3 := rb.cell 3
  simp only [LG.cells, List.getElem?_cons_zero, List.getElem?_cons_succ] at c3
  rw [HGE.out.2.2] at c3
  have HBB := Lib.hid hbb
  have hdr : Below w.heap.size w wb.drew := below_drewK hbb 1
  have HS0 : Hid (Row wb.drew lp 83 (g.cells p)) := Lib.hid rb
  have HHD : Hid _ := Lib.hid (HHD0.out wb.drew hdr)
  have HPUT : Hid _ := Lib.hid (HPUTw.out wb.drew hdr)
  have HLL := Lib.hid HRW.out.2.2.1
  have HLW : Hid (∀ q, q < wb.drew.heap.size → L q → q < wb.drew.heap.size) := Lib.hid fun q h _ => h
  have HDR := Lib.hid hdr
  clear hbb rb hdr HHD0 HPUTw
  go_wp2_with fail
  refine wp_region_noPanic ?_
  refine wp_region_held_drew (S := fun W => Row W lp 83 (g.cells p)) (by kernel_rfl) HS0.out (fun hHeld => ?_)
  refine wpAnyH_take (i := 0) (oi := { dst := some 27, op := Op.move (Operand.tmp 0), type := 30, pos := "log.go:214", after := #[], guard := none }) (v := ?vva_0) rfl (by kernel_rfl) (by kernel_rfl) (by kernel_rfl) (fun _ _ _ h => h) (Or.inl ⟨by rfl, ?yya_0⟩) hHeld ?_
  case vva_0 => exact .pointer (some ⟨lp, 0, none⟩)
  case yya_0 =>
    intro W hS
    go_simp
  try simp only [Act.put, List.setIfInBounds_toArray, List.set_cons_zero, List.set_cons_succ]
  refine wpAnyH_take (i := 1) (oi := { dst := some 28, op := Op.move (Operand.tmp 0), type := 30, pos := "log.go:214", after := #[], guard := none }) (v := ?vva_1) rfl (by kernel_rfl) (by kernel_rfl) (by kernel_rfl) (fun _ _ _ h => h) (Or.inl ⟨by rfl, ?yya_1⟩) hHeld ?_
  case vva_1 => exact .pointer (some ⟨lp, 0, none⟩)
  case yya_1 =>
    intro W hS
    go_simp
  try simp only [Act.put, List.setIfInBounds_toArray, List.set_cons_zero, List.set_cons_succ]
  refine wpAnyH_take (i := 2) (oi := { dst := some 29, op := Op.nilCheck (Operand.tmp 28), type := 0, pos := "log.go:214", after := #[{ on := 1, ground := Ground.data }], guard := none }) (v := ?vva_2) rfl (by kernel_rfl) (by kernel_rfl) (by kernel_rfl) (fun _ _ _ h => h) (Or.inl ⟨by rfl, ?yya_2⟩) hHeld ?_
  case vva_2 => exact .pointer (some ⟨lp, 0, none⟩)
  case yya_2 =>
    intro W hS
    go_simp
  try simp only [Act.put, List.setIfInBounds_toArray, List.set_cons_zero, List.set_cons_succ]
  refine wpAnyH_take (i := 3) (oi := { dst := some 30, op := Op.fieldAddr 83 (Operand.tmp 29) 2, type := 0, pos := "log.go:214", after := #[{ on := 2, ground := Ground.data }], guard := none }) (v := ?vva_3) rfl (by kernel_rfl) (by kernel_rfl) (by kernel_rfl) (fun _ _ _ h => h) (Or.inl ⟨by rfl, ?yya_3⟩) hHeld ?_
  case vva_3 => exact .pointer (some ⟨lp, 2, none⟩)
  case yya_3 =>
    intro W hS
    go_simp
  try simp only [Act.put, List.setIfInBounds_toArray, List.set_cons_zero, List.set_cons_succ]
  refine wpAnyH_take (i := 4) (oi := { dst := some 31, op := Op.load 3 (Operand.tmp 30), type := 3, pos := "log.go:214", after := #[{ on := 3, ground := Ground.data }], guard := none }) (v := ?vva_4) rfl (by kernel_rfl) (by kernel_rfl) (by kernel_rfl) (fun _ _ _ h => h) (Or.inl ⟨by rfl, ?yya_4⟩) hHeld ?_
  case vva_4 => exact .int .i64 (half : Nat)
  case yya_4 =>
    intro W hS
    have q0 := Row.cell hS 2
    simp only [LG.cells, List.getElem?_cons_zero, List.getElem?_cons_succ, HGE.out.1] at q0
    go_simp
  try simp only [Act.put, List.setIfInBounds_toArray, List.set_cons_zero, List.set_cons_succ]
  refine wpAnyH_take (i := 5) (oi := { dst := some 32, op := Op.move (Operand.tmp 0), type := 30, pos := "log.go:214", after := #[], guard := none }) (v := ?vva_5) rfl (by kernel_rfl) (by kernel_rfl) (by kernel_rfl) (fun _ _ _ h => h) (Or.inl ⟨by rfl, ?yya_5⟩) hHeld ?_
  case vva_5 => exact .pointer (some ⟨lp, 0, none⟩)
  case yya_5 =>
    intro W hS
    go_simp
  try simp only [Act.put, List.setIfInBounds_toArray, List.set_cons_zero, List.set_cons_succ]
  refine wpAnyH_take (i := 6) (oi := { dst := some 33, op := Op.nilCheck (Operand.tmp 32), type := 0, pos := "log.go:214", after := #[{ on := 5, ground := Ground.data }], guard := none }) (v := ?vva_6) rfl (by kernel_rfl) (by kernel_rfl) (by kernel_rfl) (fun _ _ _ h => h) (Or.inl ⟨by rfl, ?yya_6⟩) hHeld ?_
  case vva_6 => exact .pointer (some ⟨lp, 0, none⟩)
  case yya_6 =>
    intro W hS
    go_simp
  try simp only [Act.put, List.setIfInBounds_toArray, List.set_cons_zero, List.set_cons_succ]
  refine wpAnyH_take (i := 7) (oi := { dst := some 34, op := Op.fieldAddr 83 (Operand.tmp 33) 4, type := 0, pos := "log.go:214", after := #[{ on := 6, ground := Ground.data }], guard := none }) (v := ?vva_7) rfl (by kernel_rfl) (by kernel_rfl) (by kernel_rfl) (fun _ _ _ h => h) (Or.inl ⟨by rfl, ?yya_7⟩) hHeld ?_
  case vva_7 => exact .pointer (some ⟨lp, 4, none⟩)
  case yya_7 =>
    intro W hS
    go_simp
  try simp only [Act.put, List.setIfInBounds_toArray, List.set_cons_zero, List.set_cons_succ]
  refine wpAnyH_take (i := 8) (oi := { dst := some 35, op := Op.load 3 (Operand.tmp 34), type := 3, pos := "log.go:214", after := #[{ on := 7, ground := Ground.data }], guard := none }) (v := ?vva_8) rfl (by kernel_rfl) (by kernel_rfl) (by kernel_rfl) (fun _ _ _ h => h) (Or.inl ⟨by rfl, ?yya_8⟩) hHeld ?_
  case vva_8 => exact .int .i64 (used : Nat)
  case yya_8 =>
    intro W hS
    have q0 := Row.cell hS 4
    simp only [LG.cells, List.getElem?_cons_zero, List.getElem?_cons_succ, HGE.out.2.1] at q0
    go_simp
  try simp only [Act.put, List.setIfInBounds_toArray, List.set_cons_zero, List.set_cons_succ]
  refine wpAnyH_take (i := 9) (oi := { dst := some 36, op := Op.move (Operand.tmp 6), type := 3, pos := "log.go:214", after := #[], guard := none }) (v := ?vva_9) rfl (by kernel_rfl) (by kernel_rfl) (by kernel_rfl) (fun _ _ _ h => h) (Or.inl ⟨by rfl, ?yya_9⟩) hHeld ?_
  case vva_9 => exact .int .i64 ((count : Int) + 1)
  case yya_9 =>
    intro W hS
    go_simp
  try simp only [Act.put, List.setIfInBounds_toArray, List.set_cons_zero, List.set_cons_succ]
  refine wpAnyH_take (i := 10) (oi := { dst := some 37, op := Op.move (Operand.tmp 1), type := 9, pos := "log.go:214", after := #[], guard := none }) (v := ?vva_10) rfl (by kernel_rfl) (by kernel_rfl) (by kernel_rfl) (fun _ _ _ h => h) (Or.inl ⟨by rfl, ?yya_10⟩) hHeld ?_
  case vva_10 => exact .string T
  case yya_10 =>
    intro W hS
    go_simp
  try simp only [Act.put, List.setIfInBounds_toArray, List.set_cons_zero, List.set_cons_succ]
  refine wpAnyH_take (i := 12) (oi := { dst := some 39, op := Op.move (Operand.tmp 1), type := 9, pos := "log.go:214", after := #[], guard := none }) (v := ?vva_12) rfl (by kernel_rfl) (by kernel_rfl) (by kernel_rfl) (fun _ _ _ h => h) (Or.inl ⟨by rfl, ?yya_12⟩) hHeld ?_
  case vva_12 => exact .string T
  case yya_12 =>
    intro W hS
    go_simp
  try simp only [Act.put, List.setIfInBounds_toArray, List.set_cons_zero, List.set_cons_succ]
  refine wpAnyH_ready (rs := [11]) (by kernel_rfl) (by simp) (AllReadyH.cons (o := { dst := some 38, op := Op.call { callee := Callee.value (Operand.func 53), args := #[Operand.tmp 36, Operand.tmp 37], argTypes := #[3, 9] }, type := 9, pos := "log.go:214", after := #[{ on := 9, ground := Ground.data }, { on := 10, ground := Ground.data }], guard := none }) rfl (fun K hK => ?_) AllReadyH.nil)
  go_simp
  go_at_call 53
  refine HHD.out.mono ?_
  rintro e w4 ⟨rfl, hb4⟩
  have s4 : Row w4 lp 83 (g.cells p) := HS0.out.below hb4 HS0.out.lt
  have HB4 := Lib.hid hb4
  clear hb4
  refine hK.out _ _ s4 (fun hHeld => ?_)
  clear hK K
  try simp only [Act.put, List.setIfInBounds_toArray, List.set_cons_zero, List.set_cons_succ]
  refine wpAnyH_take (i := 13) (oi := { dst := some 40, op := Op.binOp BinOp.add 9 (Operand.tmp 38) (Operand.tmp 39) 9, type := 9, pos := "log.go:214", after := #[{ on := 11, ground := Ground.data }, { on := 12, ground := Ground.data }], guard := none }) (v := ?vva_13) rfl (by kernel_rfl) (by kernel_rfl) (by kernel_rfl) (fun _ _ _ h => h) (Or.inl ⟨by rfl, ?yya_13⟩) hHeld ?_
  case vva_13 => exact .string (tx F)
  case yya_13 =>
    intro W hS
    have q0 := HADD.out W
    go_simp
  try simp only [Act.put, List.setIfInBounds_toArray, List.set_cons_zero, List.set_cons_succ]
  refine wpAnyH_ready (rs := [14]) (by kernel_rfl) (by simp) (AllReadyH.cons (o := { dst := some 41, op := Op.call { callee := Callee.value (Operand.func 52), args := #[Operand.tmp 27, Operand.tmp 31, Operand.tmp 35, Operand.tmp 40], argTypes := #[30, 3, 3, 9] }, type := 25, pos := "log.go:214", after := #[{ on := 0, ground := Ground.data }, { on := 4, ground := Ground.data }, { on := 8, ground := Ground.data }, { on := 13, ground := Ground.data }, { on := 11, ground := Ground.chain }], guard := none }) rfl (fun K hK => ?_) AllReadyH.nil)
  go_simp
  go_at_call 52
  refine (HPUT.out _ HB4.out).mono ?_
  rintro e w5 ⟨rfl, hd5, hk5⟩
  have s5 : Row w5 lp 83 (g.cells p) := (hk5.block lp s4.lt HLL.out).trans s4
  have H5 := Lib.hid (And.intro hd5 (And.intro s5 ((Keeps.of_below (L := L) HB4.out HLW.out).trans hk5)))
  refine hK.out _ _ s5 (fun hHeld => ?_)
  clear hK K hd5 hk5 s4 s5
  try simp only [Act.put, List.setIfInBounds_toArray, List.set_cons_zero, List.set_cons_succ]
  refine wpAnyH_ready (rs := [15]) (by kernel_rfl) (by simp) (AllReadyH.cons (o := { dst := some 7, op := Op.assign (Operand.tmp 41), type := 25, pos := "log.go:214", after := #[{ on := 14, ground := Ground.data }, { on := 14, ground := Ground.chain }, { on := 0, ground := Ground.phase }, { on := 1, ground := Ground.phase }, { on := 2, ground := Ground.phase }, { on := 3, ground := Ground.phase }, { on := 4, ground := Ground.phase }, { on := 5, ground := Ground.phase }, { on := 6, ground := Ground.phase }, { on := 7, ground := Ground.phase }, { on := 8, ground := Ground.phase }, { on := 9, ground := Ground.phase }, { on := 10, ground := Ground.phase }, { on := 11, ground := Ground.phase }, { on := 12, ground := Ground.phase }, { on := 13, ground := Ground.phase }, { on := 14, ground := Ground.phase }], guard := none }) rfl (fun K hK => ?_) AllReadyH.nil)
  go_simp
  refine hK.out _ _ H5.out.2.1 (fun hHeld => ?_)
  clear hK K
  try simp only [Act.put, List.setIfInBounds_toArray, List.set_cons_zero, List.set_cons_succ]
  refine wpAnyH_done (by kernel_rfl) ?_ _
  refine NoPanic.normal ?_
  have hfar : ∀ (W : World) (i : Nat) (v : Value) (q : Nat), q ≠ lp → (W.setCell ⟨lp, i, none⟩ v).heap[q]? = W.heap[q]? := fun W i v q h => Below.heap_setCell W ⟨lp, i, none⟩ v q h
  have HFIN : Hid (∀ W', Keeps (fun q => q ≠ lp) w5 W' → DiskIs L W' p RD ∧ Keeps (fun q => L q ∧ q ≠ lp) w W') := Lib.hid fun W' hk =>
    ⟨H5.out.1.keeps hk (fun q _ h e => h (e ▸ HRW.out.2.2.1)), ((Keeps.of_below (L := fun q => L q ∧ q ≠ lp) HDR.out (fun q h _ => h)).trans (H5.out.2.2.mono (fun q h => h.1))).trans (hk.mono (fun q h => h.2))⟩
  have r5 := H5.out.2.1
  by_cases hRE0 : RE = 0
  · have c3 := r5.cell 3
    have f3 := r5.frozen 3
    simp only [LG.cells, List.getElem?_cons_zero, List.getElem?_cons_succ] at c3
    have hTT := HTT.out
    rw [if_neg (by simp [hRE0])] at hTT
    have HT2 := Lib.hid hTT
    clear hTT
    subst hRE0
    clear hfar
    go_wp2_with fail
    obtain ⟨C6, hC6⟩ : ∃ C6, (g.cells p).set 3 (.int .i64 ((count : Int) + 1)) = C6 := ⟨_, rfl⟩
    have r6 : Row (w5.setCell ⟨lp, 3, none⟩ (.int .i64 ((count : Int) + 1))) lp 83 C6 := by rw [← hC6]; exact r5.set 3 _
    have HK6 : Hid (Keeps (fun q => q ≠ lp) w5 (w5.setCell ⟨lp, 3, none⟩ (.int .i64 ((count : Int) + 1)))) := Lib.hid ((Keeps.refl _ _).setCell (p := ⟨lp, 3, none⟩) (.inl (fun h => h rfl)) _)
    generalize w5.setCell ⟨lp, 3, none⟩ (.int .i64 ((count : Int) + 1)) = w6 at r6 HK6 ⊢
    have HS6 : Hid (Row w6.drew lp 83 C6) := Lib.hid r6
    have HC6 : Hid (C6[4]? = some (.int .i64 (used : Nat))) := Lib.hid (by rw [← hC6]; simp [LG.cells, HGE.out.2.1])
    have HCC := Lib.hid hC6
    clear r6 hC6 c3 f3 r5
    refine wp_region_noPanic ?_
    refine region_held_last 10 (S := fun W => Row W lp 83 C6) (by kernel_rfl) (by kernel_rfl) rfl HS6.out (fun hHeld => ?_)
    simp only [List.take_succ_cons, List.take_zero]
    refine wpAnyH_take (i := 0) (oi := { dst := some 53, op := Op.move (Operand.tmp 0), type := 30, pos := "log.go:219", after := #[], guard := none }) (v := ?vvb_0) rfl (by kernel_rfl) (by kernel_rfl) (by kernel_rfl) (fun _ _ _ h => h) (Or.inl ⟨by rfl, ?yyb_0⟩) hHeld ?_
    case vvb_0 => exact .pointer (some ⟨lp, 0, none⟩)
    case yyb_0 =>
      intro W hS
      go_simp
    try simp only [Act.put, List.setIfInBounds_toArray, List.set_cons_zero, List.set_cons_succ]
    refine wpAnyH_take (i := 1) (oi := { dst := some 54, op := Op.nilCheck (Operand.tmp 53), type := 0, pos := "log.go:219", after := #[{ on := 0, ground := Ground.data }], guard := none }) (v := ?vvb_1) rfl (by kernel_rfl) (by kernel_rfl) (by kernel_rfl) (fun _ _ _ h => h) (Or.inl ⟨by rfl, ?yyb_1⟩) hHeld ?_
    case vvb_1 => exact .pointer (some ⟨lp, 0, none⟩)
    case yyb_1 =>
      intro W hS
      go_simp
    try simp only [Act.put, List.setIfInBounds_toArray, List.set_cons_zero, List.set_cons_succ]
    refine wpAnyH_take (i := 2) (oi := { dst := some 55, op := Op.fieldAddr 83 (Operand.tmp 54) 4, type := 0, pos := "log.go:219", after := #[{ on := 1, ground := Ground.data }], guard := none }) (v := ?vvb_2) rfl (by kernel_rfl) (by kernel_rfl) (by kernel_rfl) (fun _ _ _ h => h) (Or.inl ⟨by rfl, ?yyb_2⟩) hHeld ?_
    case vvb_2 => exact .pointer (some ⟨lp, 4, none⟩)
    case yyb_2 =>
      intro W hS
      go_simp
    try simp only [Act.put, List.setIfInBounds_toArray, List.set_cons_zero, List.set_cons_succ]
    refine wpAnyH_take (i := 3) (oi := { dst := some 56, op := Op.load 3 (Operand.tmp 55), type := 3, pos := "log.go:219", after := #[{ on := 2, ground := Ground.data }], guard := none }) (v := ?vvb_3) rfl (by kernel_rfl) (by kernel_rfl) (by kernel_rfl) (fun _ _ _ h => h) (Or.inl ⟨by rfl, ?yyb_3⟩) hHeld ?_
    case vvb_3 => exact .int .i64 (used : Nat)
    case yyb_3 =>
      intro W hS
      have q0 := (Row.cell hS 4).trans HC6.out
      go_simp
    try simp only [Act.put, List.setIfInBounds_toArray, List.set_cons_zero, List.set_cons_succ]
    refine wpAnyH_take (i := 4) (oi := { dst := some 57, op := Op.move (Operand.tmp 1), type := 9, pos := "log.go:219", after := #[], guard := none }) (v := ?vvb_4) rfl (by kernel_rfl) (by kernel_rfl) (by kernel_rfl) (fun _ _ _ h => h) (Or.inl ⟨by rfl, ?yyb_4⟩) hHeld ?_
    case vvb_4 => exact .string T
    case yyb_4 =>
      intro W hS
      go_simp
    try simp only [Act.put, List.setIfInBounds_toArray, List.set_cons_zero, List.set_cons_succ]
    refine wpAnyH_take (i := 5) (oi := { dst := some 58, op := Op.call { callee := Callee.builtin Builtin.len, args := #[Operand.tmp 57], argTypes := #[9] }, type := 3, pos := "log.go:219", after := #[{ on := 4, ground := Ground.data }], guard := none }) (v := ?vvb_5) rfl (by kernel_rfl) (by kernel_rfl) (by kernel_rfl) (fun _ _ _ h => h) (Or.inl ⟨by rfl, ?yyb_5⟩) hHeld ?_
    case vvb_5 => exact .int .i64 (k : Nat)
    case yyb_5 =>
      intro W hS
      go_simp
    try simp only [Act.put, List.setIfInBounds_toArray, List.set_cons_zero, List.set_cons_succ]
    refine wpAnyH_ready (rs := [6]) (by kernel_rfl) (by simp) (AllReadyH.cons (o := { dst := some 59, op := Op.call { callee := Callee.value (Operand.func 28), args := #[Operand.tmp 58], argTypes := #[3] }, type := 3, pos := "log.go:219", after := #[{ on := 5, ground := Ground.data }], guard := none }) rfl (fun K hK => ?_) AllReadyH.nil)
    go_simp
    go_at_call 28
    refine (HN.out _).mono ?_
    rintro e w9 ⟨rfl, rfl⟩
    refine hK.out _ _ HS6.out (fun hHeld => ?_)
    clear hK K
    try simp only [Act.put, List.setIfInBounds_toArray, List.set_cons_zero, List.set_cons_succ]
    refine wpAnyH_take (i := 7) (oi := { dst := some 60, op := Op.binOp BinOp.add 3 (Operand.tmp 56) (Operand.tmp 59) 3, type := 3, pos := "log.go:219", after := #[{ on := 3, ground := Ground.data }, { on := 6, ground := Ground.data }], guard := none }) (v := ?vvb_7) rfl (by kernel_rfl) (by kernel_rfl) (by kernel_rfl) (fun _ _ _ h => h) (Or.inl ⟨by rfl, ?yyb_7⟩) hHeld ?_
    case vvb_7 => exact .int .i64 ((used : Int) + ((k : Int) + 28))
    case yyb_7 =>
      intro W hS
      go_simp
      rw [IntKind.wrap_i64]
      omega
    try simp only [Act.put, List.setIfInBounds_toArray, List.set_cons_zero, List.set_cons_succ]
    refine wpAnyH_take (i := 8) (oi := { dst := some 61, op := Op.nilCheck (Operand.tmp 53), type := 0, pos := "log.go:219", after := #[{ on := 0, ground := Ground.data }, { on := 0, ground := Ground.phase }, { on := 1, ground := Ground.phase }, { on := 2, ground := Ground.phase }, { on := 3, ground := Ground.phase }, { on := 4, ground := Ground.phase }, { on := 5, ground := Ground.phase }, { on := 6, ground := Ground.phase }, { on := 7, ground := Ground.phase }], guard := none }) (v := ?vvb_8) rfl (by kernel_rfl) (by kernel_rfl) (by kernel_rfl) (fun _ _ _ h => h) (Or.inl ⟨by rfl, ?yyb_8⟩) hHeld ?_
    case vvb_8 => exact .pointer (some ⟨lp, 0, none⟩)
    case yyb_8 =>
      intro W hS
      go_simp
    try simp only [Act.put, List.setIfInBounds_toArray, List.set_cons_zero, List.set_cons_succ]
    refine wpAnyH_take (i := 9) (oi := { dst := some 62, op := Op.fieldAddr 83 (Operand.tmp 61) 4, type := 0, pos := "log.go:219", after := #[{ on := 8, ground := Ground.data }, { on := 0, ground := Ground.phase }, { on := 1, ground := Ground.phase }, { on := 2, ground := Ground.phase }, { on := 3, ground := Ground.phase }, { on := 4, ground := Ground.phase }, { on := 5, ground := Ground.phase }, { on := 6, ground := Ground.phase }, { on := 7, ground := Ground.phase }], guard := none }) (v := ?vvb_9) rfl (by kernel_rfl) (by kernel_rfl) (by kernel_rfl) (fun _ _ _ h => h) (Or.inl ⟨by rfl, ?yyb_9⟩) hHeld ?_
    case vvb_9 => exact .pointer (some ⟨lp, 4, none⟩)
    case yyb_9 =>
      intro W hS
      go_simp
    try simp only [Act.put, List.setIfInBounds_toArray, List.set_cons_zero, List.set_cons_succ]
    refine wpAnyH_done (by kernel_rfl) ?_ _
    show wpList _ _ _ [_] _ _
    have hc9 := (Row.cell HS6.out 4).trans HC6.out
    have hf9 := Row.frozen HS6.out 4
    go_wp2_with fail
    show NoPanic _ Exit.normal _ _
    refine NoPanic.normal ?_
    go_wp2_with fail
    go_ret
    have r9 := HS6.out.set 4 (.int .i64 ((used : Int) + ((k : Int) + 28)))
    have h9 := HFIN.out (w6.drew.setCell ⟨lp, 4, none⟩ (.int .i64 ((used : Int) + ((k : Int) + 28)))) ((HK6.out.drew1).setCell (p := ⟨lp, 4, none⟩) (.inl (fun h => h rfl)) _)
    rw [← HT2.out]
    refine ⟨rfl, ?_, h9.1, h9.2⟩
    rw [← HCC.out] at r9
    have e9 : (({ g with count := g.count + 1, used := g.used + (k + 28) } : LG).cells p) = ((g.cells p).set 3 (.int .i64 ((count : Int) + 1))).set 4 (.int .i64 ((used : Int) + ((k : Int) + 28))) := by
      simp [LG.cells, HGE.out.2.1, HGE.out.2.2]
    rw [e9]
    exact r9
  · have c5 := r5.cell 5
    have f5 := r5.frozen 5
    simp only [LG.cells, List.getElem?_cons_zero, List.getElem?_cons_succ] at c5
    have hTT := HTT.out
    rw [if_pos hRE0] at hTT
    have HT2 := Lib.hid hTT
    clear hTT
    go_wp2_with fail
    go_ret
    have h := HFIN.out (w5.setCell ⟨lp, 5, none⟩ (.int .i64 RE)) ((Keeps.refl _ _).setCell (p := ⟨lp, 5, none⟩) (.inl (fun h => h rfl)) _)
    rw [← HT2.out]
    exact ⟨rfl, r5.set 5 _, h.1, h.2⟩
end
end Go.Proofs.YtiaaeniopjpfpaaGreatDoor

namespace Go.Proofs.YtiaaeniopjpfpaaGreatDoor
open Go Go.RowKit Go.Maps
set_option linter.unusedVariables false
set_option linter.unusedSimpArgs false

theorem headL_take4 (n : Nat) (t : List UInt8) : (headL n t).take 4 = putL n 4 := by
  unfold headL sealL seal1
  rw [List.append_assoc, List.append_assoc, List.append_assoc, List.take_append_of_le_length (by rw [putL_length]; exact Nat.le_refl _), List.take_of_length_le (by rw [putL_length]; exact Nat.le_refl _)]
theorem framed_zeros (n k : Nat) (hn : putL n 4 ≠ [0, 0, 0, 0]) : framedL n (List.replicate k 0) = none := by
  unfold framedL
  by_cases hk : k < 28
  · rw [if_pos (by simpa using hk)]
  · rw [if_neg (by simpa using hk)]
    split
    · rfl
    · rw [if_neg]
      intro h
      have h4 := congrArg (List.take 4) h
      rw [headL_take4, List.take_take, List.take_replicate, show min (min 4 28) k = 4 by omega] at h4
      exact hn h4.symm
theorem trim_zeros (l : List UInt8) (n : Nat) : (Lib.trimRightB (l ++ List.replicate n 0) 0).length ≤ l.length := by
  unfold Lib.trimRightB
  rw [List.reverse_append, List.reverse_replicate, List.length_reverse]
  induction n with
  | zero =>
    have h := (List.dropWhile_sublist (fun x : UInt8 => x == 0) (l := l.reverse)).length_le
    simpa using h
  | succ n ih =>
    rw [List.replicate_succ, List.cons_append, List.dropWhile_cons_of_pos (by rfl)]
    exact ih
theorem markB_head (m h : Nat) : (markB m h).head? = some 67 := by
  unfold markB markL sealL seal1
  simp
theorem marked_zeros : markedL z128 = none := by
  have h : ∀ m k, z128 ≠ markB m k := fun m k e => by
    have h2 := congrArg List.head? e
    rw [markB_head] at h2
    cases h2
  unfold markedL
  rw [if_neg (h _ _), if_neg (h _ _)]
def hiL : List UInt8 := [104, 105]
def awkP : List UInt8 := pad128 (frameL 1 hiL)
theorem awkP_eq : awkP = frameL 1 hiL ++ List.replicate 98 0 := by
  have h : (frameL 1 hiL).length = 30 := by rw [frameL_length]; rfl
  unfold awkP pad128
  rw [h, List.take_of_length_le (by omega)]
def awkD2 : DS := ⟨[z128, z128, awkP] ++ List.replicate 17 z128, [], -1, 2, false⟩
theorem awk_synced (P : List UInt8) : (((newDS 20).written 2 P).synced, ((newDS 20).written 2 P).stepErr) = ((⟨[z128, z128, P] ++ List.replicate 17 z128, [], -1, 2, false⟩ : DS), (0 : Int)) := by
  kernel_rfl
theorem new_read2 : (newDS 20).read 2 = z128 := by kernel_rfl
theorem awk_add : LG.zero.add (newDS 20) hiL = (({ LG.zero with count := 1, used := 30 }, awkD2), 0) := by
  have hl : (frameL 1 hiL).length = 30 := by rw [frameL_length]; rfl
  have hp : LG.zero.putR (newDS 20) (frameL 1 hiL) = (awkD2, 0) := by
    unfold LG.putR
    rw [if_neg (by decide)]
    show putG 200 (newDS 20) 2 (((newDS 20).read 2).take 0 ++ frameL 1 hiL) = _
    rw [List.take_zero, List.nil_append, putG, if_neg (fun h => by rw [h] at hl; cases hl), if_neg (by decide), List.drop_eq_nil_of_le (by omega), putG_nil]
    exact awk_synced awkP
  unfold LG.add
  rw [if_neg (by decide), if_neg (by decide), if_neg (by decide)]
  rw [show LG.zero.count + 1 = 1 from rfl, hp]
  rfl
theorem opened_zeros {D : DS} (h0 : D.read 0 = z128) (h1 : D.read 1 = z128) : LG.opened D = LG.zero := by
  show (LG.zero.pick (D.read ((0 : Nat) : Int))).pick (D.read ((1 : Nat) : Int)) = _
  rw [show D.read ((0 : Nat) : Int) = z128 from h0, show D.read ((1 : Nat) : Int) = z128 from h1]
  unfold LG.pick
  rw [marked_zeros]
theorem opened_new : LG.opened (newDS 20) = LG.zero := opened_zeros (by kernel_rfl) (by kernel_rfl)
theorem bytes_new : LG.zero.bytes (newDS 20) = List.replicate 1152 0 := by kernel_rfl
theorem frames_zeros (k : Nat) : framesL (List.replicate k 0) = [] := framesF_none (framed_zeros 1 k (by decide))
theorem texts_new : LG.opentexts (newDS 20) = [] := by unfold LG.opentexts; rw [opened_new, bytes_new, frames_zeros]
theorem openG_new : LG.openG (newDS 20) = LG.zero := by unfold LG.openG; rw [texts_new, opened_new]; rfl
theorem trim_new : (Lib.trimRightB ((LG.opened (newDS 20)).bytes (newDS 20)) 0).length ≤ (LG.openG (newDS 20)).used := by
  rw [openG_new, opened_new, bytes_new]
  exact trim_zeros [] 1152
theorem read_awk (P : List UInt8) : bytesN (⟨[z128, z128, P] ++ List.replicate 17 z128, [], -1, 2, false⟩ : DS) 2 9 = P ++ List.replicate 1024 0 := by
  have h : ∀ j : Nat, j < 8 → (⟨[z128, z128, P] ++ List.replicate 17 z128, [], -1, 2, false⟩ : DS).read ((2 + (j + 1) : Nat) : Int) = List.replicate 128 0 := fun j hj => by
    match j, hj with
    | 0, _ => rfl
    | 1, _ => rfl
    | 2, _ => rfl
    | 3, _ => rfl
    | 4, _ => rfl
    | 5, _ => rfl
    | 6, _ => rfl
    | 7, _ => rfl
  have h0 : (⟨[z128, z128, P] ++ List.replicate 17 z128, [], -1, 2, false⟩ : DS).read ((2 + 0 : Nat) : Int) = P := rfl
  unfold bytesN bytesN bytesN bytesN bytesN bytesN bytesN bytesN bytesN bytesN
  rw [h0, h 0 (by omega), h 1 (by omega), h 2 (by omega), h 3 (by omega), h 4 (by omega), h 5 (by omega), h 6 (by omega), h 7 (by omega)]
  simp only [List.nil_append, List.append_assoc, List.replicate_append_replicate]
theorem opened_awk : LG.opened awkD2 = LG.zero := opened_zeros rfl rfl
theorem bytes_awk : LG.zero.bytes awkD2 = frameL 1 hiL ++ List.replicate 1122 0 := by
  have h : LG.zero.bytes awkD2 = bytesN awkD2 2 9 := rfl
  rw [h]
  unfold awkD2
  rw [read_awk, awkP_eq, List.append_assoc, List.replicate_append_replicate]
theorem framed_frame (n : Nat) (t z : List UInt8) (ht : t.length < 4294967296) : framedL n (frameL n t ++ z) = some t := by
  have hl : (headL n t).length = 28 := headL_length n t
  have hd : (frameL n t ++ z).drop 28 = t ++ z := by
    unfold frameL
    rw [List.append_assoc, List.drop_append_of_le_length (by omega), List.drop_of_length_le (by omega), List.nil_append]
  have hk : (frameL n t ++ z).take 28 = headL n t := by
    unfold frameL
    rw [List.append_assoc, List.take_append_of_le_length (by omega), List.take_of_length_le (by omega)]
  have hs : getL (((frameL n t ++ z).drop 4).take 4) = t.length := by
    have e : ((frameL n t ++ z).drop 4).take 4 = putL t.length 4 := by
      unfold frameL headL sealL seal1
      simp only [List.append_assoc]
      rw [List.drop_append_of_le_length (by rw [putL_length]; exact Nat.le_refl _), List.drop_of_length_le (by rw [putL_length]; exact Nat.le_refl _), List.nil_append, List.take_append_of_le_length (by rw [putL_length]; exact Nat.le_refl _), List.take_of_length_le (by rw [putL_length]; exact Nat.le_refl _)]
    rw [e, getL_putL]
    exact Nat.mod_eq_of_lt (by simpa using ht)
  have hlen : ¬ (frameL n t ++ z).length < 28 := by rw [List.length_append, frameL_length]; omega
  unfold framedL
  rw [if_neg hlen, hs, hd, hk, if_neg (by rw [List.length_append]; omega), List.take_append_of_le_length (Nat.le_refl _), List.take_of_length_le (Nat.le_refl _), if_pos rfl]
theorem texts_awk : LG.opentexts awkD2 = [(30, hiL)] := by
  unfold LG.opentexts
  rw [opened_awk, bytes_awk]
  have hl : (frameL 1 hiL).length = 30 := by rw [frameL_length]; rfl
  unfold framesL
  rw [List.length_append, hl, List.length_replicate]
  rw [show 30 + 1122 = 1151 + 1 from rfl, framesF_some (framed_frame 1 hiL _ (by decide))]
  rw [show hiL.length + 28 = 30 from rfl, List.drop_append_of_le_length (by omega), List.drop_of_length_le (by omega), List.nil_append, framesF_none (framed_zeros 2 1122 (by decide))]
theorem openG_awk : LG.openG awkD2 = { LG.zero with count := 1, used := 30 } := by unfold LG.openG; rw [texts_awk, opened_awk]; rfl
theorem trim_awk : (Lib.trimRightB ((LG.opened awkD2).bytes awkD2) 0).length ≤ (LG.openG awkD2).used := by
  have hl : (frameL 1 hiL).length = 30 := by rw [frameL_length]; rfl
  rw [openG_awk, opened_awk, bytes_awk]
  have h := trim_zeros (frameL 1 hiL) 1122
  rw [hl] at h
  exact h
end Go.Proofs.YtiaaeniopjpfpaaGreatDoor

namespace Go.Proofs.YtiaaeniopjpfpaaGreatDoor
open Go.RowKit
set_option linter.unusedVariables false

def exA : ByteArray := ⟨#[49, 50, 51, 52]⟩
def exB : ByteArray := ⟨#[53, 54, 55, 56, 57]⟩
theorem ex_sum : ((crcL (cat [exA, exB]) : Nat) : Int) = 3421780262 := by
  have h : crcL (cat [exA, exB]) = 3421780262 := crc_example
  rw [h]; rfl
theorem ex_put : ByteArray.mk (putL 258 (szOf 2)).toArray = ⟨#[1, 2]⟩ := by decide +kernel

set_option maxRecDepth 3000 in
set_option maxHeartbeats 400000 in
theorem awake_any (w : World) :
    Calls Tryz.prog 78 #[] w fun e w' => e = .returned (.bool true) ∧ Below w.heap.size w w' := by
  have hcells : ∀ i, i < 2 → (w.alloc (.cells #[.string ⟨#[49, 50, 51, 52]⟩, .string ⟨#[53, 54, 55, 56, 57]⟩] 9)).cell? ⟨w.heap.size, i, none⟩ = some (.string ([exA, exB].getD i ByteArray.empty)) := by
    intro i hi
    have h := (Row.new w 9 [.string ⟨#[49, 50, 51, 52]⟩, .string ⟨#[53, 54, 55, 56, 57]⟩]).cell i
    rw [h]
    rcases (by omega : i = 0 ∨ i = 1) with rfl | rfl <;> rfl
  have HC := Lib.hid hcells
  clear hcells
  have hb0 : Below w.heap.size w (w.alloc (.cells #[.string ⟨#[49, 50, 51, 52]⟩, .string ⟨#[53, 54, 55, 56, 57]⟩] 9)) := (Below.refl _ _).alloc (Nat.le_refl _) _
  go_enter Tryz.func78, Tryz.ntmps78
  go_wp2_with fail
  refine (CRC_any [exA, exB] w.heap.size 2 2 _ rfl (by omega) (by simp) (fun i hi => by rcases (by omega : i = 0 ∨ i = 1) with rfl | rfl <;> (show (_ : Nat) ≤ _; decide)) HC.out).mono ?_
  rintro e w1 ⟨rfl, hb1⟩
  have hbb := hb0.trans (hb1.mono (by simp))
  rw [ex_sum]
  clear hb0 hb1 HC
  go_wp2_with fail
  refine (Put_any 258 2 _ (by omega)).mono ?_
  rintro e w2 ⟨rfl, hb2⟩
  have hb3 := hbb.trans (hb2.mono hbb.size)
  rw [ex_put]
  clear hbb hb2
  go_wp2
  go_ret
  exact ⟨rfl, hb3⟩
end Go.Proofs.YtiaaeniopjpfpaaGreatDoor

namespace Go.Proofs.YtiaaeniopjpfpaaGreatDoor
open Go.RowKit
set_option linter.unusedVariables false

theorem Awake1_any (w : World) :
    Calls Tryz.prog 39 #[] w fun e w' => e = .returned (.bool true) ∧ Below w.heap.size w w' := by
  go_enter Tryz.func39, Tryz.ntmps39
  go_wp2_with (go_at_call 78; refine (awake_any _).mono ?_; rintro e wa ⟨rfl, hb⟩)
  go_ret
  exact ⟨rfl, hb⟩

theorem abc_prefix : Lib.hasPrefix (shaL [97, 98, 99]) [186, 120, 22, 191] = true := by
  have h := abc_example
  obtain ⟨a, b, c, d, t, e⟩ : ∃ a b c d t, shaL [97, 98, 99] = a :: b :: c :: d :: t := by
    have h2 := shaL_length [97, 98, 99]
    match hq : shaL [97, 98, 99] with
    | [] => rw [hq] at h2; cases h2
    | [_] => rw [hq] at h2; cases h2
    | [_, _] => rw [hq] at h2; cases h2
    | [_, _, _] => rw [hq] at h2; cases h2
    | a :: b :: c :: d :: t => exact ⟨a, b, c, d, t, rfl⟩
  rw [e] at h ⊢
  simp only [List.take_succ_cons, List.take_zero, List.cons.injEq, and_true] at h
  obtain ⟨rfl, rfl, rfl, rfl⟩ := h
  simp [Lib.hasPrefix]

set_option maxRecDepth 3000 in
set_option maxHeartbeats 400000 in
theorem awake5_any (w : World) (hG : G w) :
    Calls Tryz.prog 79 #[] w fun e w' => e = .returned (.bool true) ∧ Below w.heap.size w w' := by
  obtain ⟨L, hL⟩ : ∃ L, shaL [97, 98, 99] = L := ⟨_, rfl⟩
  obtain ⟨L0, hL0⟩ : ∃ L, shaL [] = L := ⟨_, rfl⟩
  have hp : Lib.hasPrefix L [186, 120, 22, 191] = true := by rw [← hL]; exact abc_prefix
  have h32 : (ByteArray.mk L0.toArray).size = 32 := by show L0.toArray.size = 32; rw [List.size_toArray, ← hL0, shaL_length]
  have HT : Hid (∀ W : World, G W → Calls Tryz.prog 110 #[.slice (some ⟨W.heap.size, 0, none⟩) 2 2] (W.alloc (.cells #[.string ⟨#[97]⟩, .string ⟨#[98, 99]⟩] 9)) fun e w' => e = .returned (.string ⟨L.toArray⟩) ∧ Below W.heap.size W w') := Lib.hid fun W hg => by
    rw [← hL]
    have hb0 : Below W.heap.size W (W.alloc (.cells #[.string ⟨#[97]⟩, .string ⟨#[98, 99]⟩] 9)) := (Below.refl _ _).alloc (Nat.le_refl _) _
    refine (Text_any W.heap.size 0 2 [⟨#[97]⟩, ⟨#[98, 99]⟩] _ (hg.below hb0) (fun j x hx => ?_) (by simp) (by decide) (by decide) [97, 98, 99] rfl (by decide)).mono fun e w' h => ⟨h.1, hb0.trans (h.2.mono hb0.size)⟩
    have h := (Row.new W 9 [.string ⟨#[97]⟩, .string ⟨#[98, 99]⟩]).cell j
    rw [Nat.zero_add, h]
    match j, hx with
    | 0, hx => cases hx; rfl
    | 1, hx => cases hx; rfl
    | j + 2, hx => cases hx
  have HT0 : Hid (∀ W : World, G W → Calls Tryz.prog 110 #[.slice none 0 0] W fun e w' => e = .returned (.string ⟨L0.toArray⟩) ∧ Below W.heap.size W w') := Lib.hid fun W hg => by
    rw [← hL0]; exact Text_none none 0 W hg
  have HP : Hid (∀ W : World, Calls Tryz.prog 73 #[.string ⟨L.toArray⟩, .string ⟨#[186, 120, 22, 191]⟩] W fun e w' => e = .returned (.bool true) ∧ w' = W) := Lib.hid fun W => by
    have h := Tryz.strings_HasPrefix ⟨L.toArray⟩ ⟨#[186, 120, 22, 191]⟩ W
    rw [show Lib.hasPrefix (ByteArray.mk L.toArray).data.toList (ByteArray.mk #[186, 120, 22, 191]).data.toList = true from hp] at h
    exact h
  have HG := Lib.hid hG
  clear hL hL0 hp hG
  go_enter Tryz.func79, Tryz.ntmps79
  go_wp2_with fail
  refine (Awake1_any _).mono ?_
  rintro e w1 ⟨rfl, hb1⟩
  have hg1 := HG.out.below hb1
  go_wp2_with fail
  refine (HT.out _ hg1).mono ?_
  rintro e w2 ⟨rfl, hb2⟩
  have hb2' := hb1.trans (hb2.mono hb1.size)
  have hg2 := HG.out.below hb2'
  clear hb1 hb2 hg1
  go_wp2_with fail
  refine (HP.out _).mono ?_
  rintro e w3 ⟨rfl, rfl⟩
  go_wp2_with fail
  refine (HT0.out _ hg2).mono ?_
  rintro e w4 ⟨rfl, hb4⟩
  have hb4' := hb2'.trans (hb4.mono hb2'.size)
  clear hb2' hb4 hg2
  go_wp2_with fail
  go_ret
  exact ⟨rfl, hb4'⟩
theorem Awake5_any (w : World) (hG : G w) :
    Calls Tryz.prog 40 #[] w fun e w' => e = .returned (.bool true) ∧ Below w.heap.size w w' := by
  go_enter Tryz.func40, Tryz.ntmps40
  go_wp2_with (go_at_call 79; refine (awake5_any _ hG).mono ?_; rintro e wa ⟨rfl, hb⟩)
  go_ret
  exact ⟨rfl, hb⟩
end Go.Proofs.YtiaaeniopjpfpaaGreatDoor

namespace Go.Proofs.YtiaaeniopjpfpaaGreatDoor
open Go Go.RowKit Go.Maps
set_option linter.unusedVariables false
set_option linter.unusedSimpArgs false

theorem Awake11_any (w : World) :
    Calls Tryz.prog 41 #[] w fun e w' => e = .returned (.bool true) ∧ Below w.heap.size w w' := by
  go_enter Tryz.func41, Tryz.ntmps41
  go_wp2_with fail
  refine awake11_any.mono ?_
  rintro e w' ⟨rfl, hB⟩
  go_wp2_with fail
  go_ret
  exact ⟨rfl, hB⟩

set_option maxRecDepth 20000 in
set_option maxHeartbeats 2000000 in
theorem awake12_any (w : World) (hG : G w) :
    Calls Tryz.prog 8 #[] w fun e w' => e = .returned (.bool true) ∧ Below w.heap.size w w' := by
  have HN : Hid (∀ W, Calls Tryz.prog 28 #[.int .i64 0] W fun e w' => e = .returned (.int .i64 28) ∧ W = w') := Lib.hid fun W => Need_any 0 (by omega) W
  have HG := Lib.hid hG
  clear hG
  go_enter Tryz.func8, Tryz.ntmps8
  go_wp2_with fail
  refine (HN.out _).mono ?_
  rintro e w1 ⟨rfl, rfl⟩
  go_wp2_with fail
  refine (Awake1_any _).mono ?_
  rintro e w1 ⟨rfl, hb1⟩
  have HB1 := Lib.hid hb1
  clear hb1
  go_wp2_with fail
  refine (Awake5_any _ (HG.out.below HB1.out)).mono ?_
  rintro e w2 ⟨rfl, hb2⟩
  have HB2 := Lib.hid (HB1.out.trans (hb2.mono HB1.out.size))
  clear hb2
  go_wp2_with fail
  refine (Awake11_any _).mono ?_
  rintro e w3 ⟨rfl, hb3⟩
  have HB3 := Lib.hid (HB2.out.trans (hb3.mono HB2.out.size))
  clear hb3
  go_wp2_with fail
  refine (New_any 20 (by omega) (by omega) _).mono ?_
  rintro e w4 ⟨rfl, hD, hb4⟩
  have hd4 : DiskIs (fun k => k < w3.heap.size) w4 (w3.heap.size + 2) (newDS 20) := ⟨_, _, _, _, hD _ (fun k h => h)⟩
  obtain ⟨p, hp⟩ : ∃ p, w3.heap.size + 2 = p := ⟨_, rfl⟩
  rw [hp] at hd4 ⊢
  have hs3 := HB3.out.size
  have H4 : Hid (DiskIs (fun k => k < w.heap.size) w4 p (newDS 20) ∧ Below w.heap.size w w4) := Lib.hid ⟨hd4.less (fun k h => by omega), HB3.out.trans (hb4.mono hs3)⟩
  clear hD hb4 hd4 hp hs3
  go_wp2_with fail
  have hO := Open_any (HG.out.below H4.out.2) H4.out.1 rfl trim_new
  rw [texts_new, openG_new] at hO
  have hs4 := H4.out.2.size
  refine hO.mono ?_
  rintro e w5 ⟨⟨lp, v, rfl, hlp, hr5, hown⟩, hb5⟩
  obtain ⟨ao, cap, rfl⟩ : ∃ ao cap, v = .slice ao 0 cap := by
    rcases hown.2 with ⟨rfl, h0⟩ | ⟨g, cap, cur, rfl, _⟩
    · exact ⟨none, 0, rfl⟩
    · exact ⟨_, cap, rfl⟩
  have hB5 : Below w.heap.size w w5 := H4.out.2.trans (hb5.mono hs4)
  have hd5 : DiskIs (fun k => k < w.heap.size ∨ k = lp) w5 p (newDS 20) :=
    ((H4.out.1.more (L' := fun k => k < w.heap.size ∨ w4.heap.size ≤ k) (fun g hg => hg)).below hb5).less (fun k h => by rcases h with h | rfl; exact .inl h; exact .inr hlp)
  have hA := Add_any (L := fun k => k < w.heap.size ∨ k = lp) (HG.out.below hB5) (fun k h => by have := hr5.lt; have := hB5.size; rcases h with h | rfl <;> omega) (.inr rfl) hr5 hd5 (by decide) (by decide) (by decide) (by decide) (by decide) hiL rfl (by decide) (by decide)
  rw [awk_add] at hA
  have HA := Lib.hid (show Calls Tryz.prog 16 #[.pointer (some ⟨lp, 0, none⟩), .string ⟨#[104, 105]⟩] w5 _ from hA)
  have H5 := Lib.hid (And.intro hB5 (And.intro hlp hs4))
  clear hO hown hr5 hd5 hA hB5 hb5 hs4 hlp
  go_wp2_with fail
  refine HA.out.mono ?_
  rintro e w6 ⟨rfl, hr6, hd6, hk6⟩
  have H6 : Hid (DiskIs (fun k => k < w.heap.size ∨ k = lp) w6 p awkD2 ∧ Below w.heap.size w w6) := Lib.hid ⟨hd6, H5.out.1.trans (hk6.below H5.out.1.size (fun k h => ⟨.inl h, by have := H5.out.2; omega⟩))⟩
  clear hr6 hd6 hk6 HA
  go_wp2_with fail
  have hO := Open_any (HG.out.below H6.out.2) H6.out.1 rfl trim_awk
  rw [texts_awk, openG_awk] at hO
  refine hO.mono ?_
  rintro e w7 ⟨⟨lp2, v, rfl, hlp2, hr7, hown⟩, hb7⟩
  obtain ⟨g', cap', rfl, hc7⟩ : ∃ g cap, v = .slice (some ⟨g, 0, none⟩) 1 cap ∧ w7.cell? ⟨g, 0, none⟩ = some (.string ⟨#[104, 105]⟩) := by
    rcases hown.2 with ⟨_, h0⟩ | ⟨g, cap, cur, rfl, _, hg, _, _, _, ht⟩
    · cases h0
    · refine ⟨g, cap, rfl, ?_⟩
      have h := congrArg (·[0]?) ht
      simp only [List.map_cons, List.map_nil, List.length_cons, List.length_nil] at h
      simp [World.cell?, hg]
      simpa [List.getElem?_take, tx, hiL] using h
  have H7 := Lib.hid (H6.out.2.trans (hb7.mono H6.out.2.size))
  clear hO hown hr7 hb7 hlp2
  go_wp2_with fail
  go_ret
  exact ⟨rfl, H7.out⟩
end Go.Proofs.YtiaaeniopjpfpaaGreatDoor

namespace Go.Proofs.YtiaaeniopjpfpaaGreatDoor
open Go.RowKit
set_option linter.unusedVariables false

theorem wpList_buildOf {P : Program} {ops : Array Oper} {rest : List Oper} {o : Oper} {a : Act} {w : World} {Q : Exit → Act → World → Prop} (hg : o.guard = none) (t e : TypeId) (len : Nat) (parts : Array (Nat × Operand)) (ho : o.op = .buildSlice t len parts)
    (vs : List Value) (N : Nat) (hN : w.heap.size = N) (d : Option Tmp) (hd : o.dst = d)
    (hu : P.underlying t = some (.slice e)) (hsz : (P.info? e).map (·.size) = some 1) (hz : ((P.info? e).bind (·.zero)).isSome = true)
    (hlen : len = vs.length) (hpos : 0 < len) (hsmall : len ≤ 2 ^ 24) (h1 : ∀ v ∈ vs, v.cells = #[v])
    (hparts : (parts.map fun (i, x) => (i, a.eval x)).toList = (vs.zipIdx 0).map fun x => (x.2, x.1))
    (h : wpList P ops Q rest (a.put d (.slice (some ⟨N, 0, none⟩) len len)) (w.alloc (.cells vs.toArray e))) : wpList P ops Q (o :: rest) a w := by
  subst hN hd
  cases hie : P.info? e with
  | none => simp [hie] at hsz
  | some ie =>
    simp only [hie, Option.map_some, Option.some.injEq, Option.bind_some] at hsz hz
    obtain ⟨z, hzz⟩ := Option.isSome_iff_exists.1 hz
    refine wpList_buildSlice hg t e len parts ho _ ie z hu hie hzz (by rw [hsz]; omega) (by rw [hsz]; omega) ?_ h
    rw [hparts, hsz]
    exact Great.fill_flat _ _ h1 (by simp [hlen])
end Go.Proofs.YtiaaeniopjpfpaaGreatDoor

namespace Go.Proofs.YtiaaeniopjpfpaaGreatDoor
open Go.RowKit
set_option linter.unusedVariables false

def kInts : List Int := K64.map fun k => (k.toNat : Int)
theorem kInts_row : kInts.map (Value.int .u32) = wrow K64 := by unfold kInts wrow; rw [List.map_map]; rfl

set_option maxRecDepth 20000 in
set_option maxHeartbeats 2000000 in
theorem refK_any (w : World) :
    Calls Tryz.prog 142 #[] w fun e w' => e = .returned (.slice (some ⟨w.heap.size, 0, none⟩) 64 64) ∧ w' = w.alloc (.cells (wrow K64).toArray 144) := by
  go_enter Tryz.func142, Tryz.ntmps142
  go_wp2_with (refine wpList_buildFlatAt rfl 194 144 64 _ rfl .u32 kInts w.heap.size rfl (some 1) rfl Tryz.underlying194 (by kernel_rfl) (by kernel_rfl) (by kernel_rfl) (by decide) (by decide) (by kernel_rfl) ?_)
  rw [kInts_row]
  go_ret
  exact ⟨rfl, rfl⟩
end Go.Proofs.YtiaaeniopjpfpaaGreatDoor

namespace Go.Proofs.YtiaaeniopjpfpaaGreatDoor
open Go.RowKit
set_option linter.unusedVariables false

section
variable {P : Program}
/-- The slice v holds just these bytes, in a block of its own at or beyond B. -/
def Buf (e : TypeId) (w : World) (B : Nat) (v : Value) (l : List UInt8) : Prop :=
  ∃ g cap cur fz, v = .slice (some ⟨g, 0, none⟩) l.length cap ∧ B ≤ g ∧ w.heap[g]? = some (.cells cur e fz) ∧ (cap ≤ fz.1 ∨ fz.2 = 0) ∧ l.length ≤ cap ∧ cap ≤ maxLen ∧ cur.size = cap ∧ cur.toList.take l.length = l.map bv

theorem run_store1 (g o : Nat) (t : TypeId) (fz : Nat × Nat) (cur : Array Value) (w : World) (v : Value) (hg : w.heap[g]? = some (.cells cur t fz)) (ho : o < cur.size) (hf : cur.size ≤ fz.1 ∨ fz.2 = 0) (h1 : v.oneCell' = true) :
    (storeCells ⟨g, o, none⟩ [v] 0).run P w = .ok () (w.setRow g (cur.setIfInBounds o v)) := by
  have hadd : (⟨g, o, none⟩ : Addr).add 0 = ⟨g, o, none⟩ := by unfold Addr.add; split <;> simp_all
  have hcell : w.cell? ⟨g, o, none⟩ = some cur[o] := by simp [World.cell?, hg, ho]
  have hfro : w.frozen? ⟨g, o, none⟩ = false := by
    obtain ⟨lo, hi'⟩ := fz
    simp only [World.frozen?, hg, Bool.and_eq_false_iff, decide_eq_false_iff_not]
    simp only at hf
    omega
  have hst : (store ((⟨g, o, none⟩ : Addr).add 0) v).run P w = .ok () (w.setRow g (cur.setIfInBounds o v)) := by
    rw [hadd, run_store P w _ v _ h1, hcell]
    simp [hfro, setCell_eq_setRow w g o cur t fz v hg]
  simp only [storeCells, Sem.run_bind, hst, Result.andThen_ok]
  rfl

theorem take_set_snoc {α : Type} (L : List α) (n : Nat) (v : α) (h : n < L.length) : (L.set n v).take (n + 1) = L.take n ++ [v] := by
  apply List.ext_getElem?
  intro i
  rw [List.getElem?_take, List.getElem?_set]
  rcases Nat.lt_trichotomy i n with h1 | h1 | h1
  · rw [if_pos (by omega), if_neg (by omega), List.getElem?_append_left (by rw [List.length_take]; omega), List.getElem?_take, if_pos h1]
  · subst h1
    rw [if_pos (by omega), if_pos rfl, if_pos h, List.getElem?_append_right (by rw [List.length_take]; omega)]
    simp [Nat.min_eq_left (Nat.le_of_lt h)]
  · rw [if_neg (by omega), List.getElem?_eq_none (by simp; omega)]

theorem Buf.len {e : TypeId} {w : World} {B : Nat} {v : Value} {l : List UInt8} (h : Buf e w B v l) : ∃ a cap, v = .slice a l.length cap := by
  obtain ⟨g, cap, cur, fz, rfl, _⟩ := h
  exact ⟨_, _, rfl⟩
theorem Buf.below {e : TypeId} {w w' : World} {B : Nat} {v : Value} {l : List UInt8} (h : Buf e w B v l) (hb : Below w.heap.size w w') : Buf e w' B v l := by
  obtain ⟨g, cap, cur, fz, hv, hB, hg, h⟩ := h
  exact ⟨g, cap, cur, fz, hv, hB, (hb.block g (Array.getElem?_eq_some_iff.1 hg).1).trans hg, h⟩
/-- The bytes, as a text again. -/
theorem Buf.text {w : World} {src dst e : TypeId} {B : Nat} {v : Value} {l : List UInt8} (h : Buf e w B v l) (hs : P.underlying src = some (.slice e)) (he : P.underlying e = some (.int .u8)) (hd : P.underlying dst = some .string) :
    (convert src dst v).run P w = .ok (.string ⟨l.toArray⟩) w := by
  obtain ⟨g, cap, cur, fz, rfl, hB, hg, hf, hc, hm, hz, ht⟩ := h
  refine conv_bytes w src dst e hs he hd g 0 l.length cap l rfl (fun i hi => ?_)
  rw [Nat.zero_add, ← ht, List.getElem?_take, if_pos hi]
  simp [World.cell?, hg]

/-- A text's bytes. -/
theorem buf_conv (w : World) (src dst e : TypeId) (s : ByteArray) (hs : P.underlying src = some .string) (hd : P.underlying dst = some (.slice e)) (he : P.underlying e = some (.int .u8)) (hm : s.size ≤ maxLen) :
    ∃ v w', (convert src dst (.string s)).run P w = .ok v w' ∧ Buf e w' w.heap.size v s.data.toList ∧ Below w.heap.size w w' := by
  have hl : s.data.toList.length = s.size := by simp
  have hge := grownCap_ge w s.size 0 e
  have hsz : (Lib.bytesCells w e s).size = grownCap w s.size 0 e := by
    unfold Lib.bytesCells
    rw [Array.size_append, Array.size_map, Array.size_replicate]
    show s.size + _ = _
    omega
  refine ⟨_, _, Lib.run_convert_string_bytes w src dst e s hs hd he, ⟨w.heap.size, _, _, _, by rw [hl], Nat.le_refl _, Lib.bytesWorld_at_new w e s, .inl (by rw [hsz]; exact Nat.le_refl _), by rw [hl]; exact hge, grownCap_le_maxLen w s.size 0 e hm, hsz, ?_⟩, ?_⟩
  · unfold Lib.bytesCells
    rw [Array.toList_append, List.take_append_of_le_length (by simp), List.take_of_length_le (by simp), Array.toList_map]
    rfl
  · exact ⟨by simp [Lib.bytesWorld, World.freeze, World.alloc, World.drew, -World.alloc_eq, -World.drew_eq], by simp [Lib.bytesWorld, World.freeze, World.alloc, World.drew, -World.alloc_eq, -World.drew_eq], by simp [Lib.bytesWorld, World.freeze, World.alloc, World.drew, -World.alloc_eq, -World.drew_eq], by rw [Lib.bytesWorld_size]; omega, fun j hj => Lib.bytesWorld_at_old w e s j hj⟩

/-- One byte more. -/
theorem run_buf_byte (w : World) (t ty e : TypeId) (i : TypeInfo) (ht : P.underlying t = some (.slice e)) (hi : P.info? e = some i) (hz : i.zero = some (.int .u8 0)) (hsize : i.size = 1) (hby : i.bytes = 1)
    (B : Nat) (v : Value) (l : List UInt8) (hv : Buf e w B v l) (ad : Addr) (c : UInt8) (hc : w.cell? ad = some (bv c)) (hlen : l.length + 1 ≤ 140737488355328) (hB : B ≤ w.heap.size) :
    ∃ v' w', (Builtin.append_ #[t, t] ty #[v, .slice (some ad) 1 1]).run P w = .ok v' w' ∧ Buf e w' B v' (l ++ [c]) ∧ Below B w w' := by
  obtain ⟨g, cap, cur, fz, rfl, hBg, hg, hf, hlc, hm, hcz, htk⟩ := hv
  have hnews : ∀ j u, [bv c][j]? = some u → w.cell? (ad.add j) = some u := by
    intro j u hj
    match j, hj with
    | 0, hj => simp only [List.getElem?_cons_zero, Option.some.injEq] at hj; subst hj; rw [show ad.add 0 = ad by unfold Addr.add; split <;> simp_all]; exact hc
    | j + 1, hj => simp at hj
  have hlt := (Array.getElem?_eq_some_iff.1 hg).1
  by_cases hroom : l.length + 1 ≤ cap
  · have hfc := run_firstCells_some (P := P) w i.size 1 ad 1 1 [bv c] (by rw [hsize]; rfl) hnews
    have hlc2 : l.length < cur.toList.length := by have := Array.length_toList (xs := cur); omega
    have hst := run_store1 (P := P) g l.length e fz cur w (bv c) hg (by omega) (by rw [hcz]; exact hf) rfl
    refine ⟨.slice (some ⟨g, 0, none⟩) (l.length + 1) cap, w.setRow g (cur.setIfInBounds l.length (bv c)), ?_, ⟨g, cap, _, fz, by rw [List.length_append]; rfl, hBg, setRow_heap w g cur _ e _ hg, hf, by rw [List.length_append]; exact hroom, hm, by rw [Array.size_setIfInBounds]; exact hcz, ?_⟩, below_setRow (Below.refl _ _) hBg _⟩
    · rw [hsize] at hfc
      simp [Builtin.append_, run_underlying ht, sizeOf, typeInfo, hi, Builtin.lenOf, hroom, hfc, Addr.add_lit, hst, hsize]
    · rw [List.length_append, Array.toList_setIfInBounds, List.length_singleton, take_set_snoc _ _ _ hlc2, htk, List.map_append]
      rfl
  · have hxs : (l.map bv).length = l.length * i.size := by rw [hsize]; simp
    have holds : ∀ j u, (l.map bv)[j]? = some u → w.cell? ((⟨g, 0, none⟩ : Addr).add j) = some u := fun j u hj => by
      rw [← htk, List.getElem?_take] at hj
      split at hj
      · have : (⟨g, 0, none⟩ : Addr).add j = ⟨g, j, none⟩ := by unfold Addr.add; split <;> simp_all
        rw [this]
        simpa [World.cell?, hg] using hj
      · cases hj
    have hr := run_append_grow (P := P) w t ty e i (.int .u8 0) ht hi hz ⟨g, 0, none⟩ l.length cap (l.map bv) hxs holds ad 1 1 [bv c] (by rw [hsize]; rfl) hnews (by omega) (by omega) (growslice_fits (by omega) (by rw [hby]; omega))
    have hge := grownCap_ge w (l.length + 1) cap e
    have hcm2 : grownCap w (l.length + 1) cap e ≤ maxLen := grownCap_le_maxLen w (l.length + 1) cap e (by unfold maxLen; omega)
    refine ⟨_, _, hr, ⟨w.heap.size, _, _, (0, 0), by rw [List.length_append]; rfl, hB, heap_alloc_new w.drew _, .inr rfl, by rw [List.length_append]; exact hge, hcm2, ?_, ?_⟩, ((Below.refl _ _).drew).alloc (by simpa using hB) _⟩
    · simp only [Array.size_append, List.size_toArray, size_zeroCells, List.length_map, List.length_cons, List.length_nil]
      rw [show (Value.int IntKind.u8 0).cells.size = 1 from rfl, Nat.mul_one]
      omega
    · simp only [Array.toList_append, List.append_assoc]
      rw [← List.append_assoc, List.map_append, show (l ++ [c]).length = (l.map bv ++ [bv c]).length by simp]
      exact List.take_left

theorem wpList_buf_byte {ops : Array Oper} {rest : List Oper} {o : Oper} {a : Act} {Q : Exit → Act → World → Prop} (hgd : o.guard = none) (s x : Operand) (t : TypeId)
    (ho : o.op = .call { callee := .builtin .append, args := #[s, x], argTypes := #[t, t] })
    (e : TypeId) (i : TypeInfo) (ht : P.underlying t = some (.slice e)) (hi : P.info? e = some i) (hz : i.zero = some (.int .u8 0)) (hsize : i.size = 1) (hby : i.bytes = 1)
    (w0 : World) (B : Nat) (v : Value) (l : List UInt8) (hs : a.eval s = v) (hv : Buf e w0 B v l) (ci : Int) (c : UInt8) (hci : ci = c.toNat) (hx : a.eval x = .slice (some ⟨w0.heap.size, 0, none⟩) 1 1)
    (hlen : l.length + 1 ≤ 140737488355328) (hB : B ≤ w0.heap.size)
    (h : ∀ v' w', Buf e w' B v' (l ++ [c]) → Below B w0 w' → wpList P ops Q rest (a.put o.dst v') w') : wpList P ops Q (o :: rest) a (w0.alloc (.cells #[.int .u8 ci] e)) := by
  subst hci
  have hb0 : Below w0.heap.size w0 (w0.alloc (.cells #[.int .u8 c.toNat] e)) := (Below.refl _ _).alloc (Nat.le_refl _) _
  obtain ⟨v', w', hr, h1, h2⟩ := run_buf_byte (P := P) (w0.alloc (.cells #[.int .u8 c.toNat] e)) t o.type e i ht hi hz hsize hby B v l (hv.below hb0) ⟨w0.heap.size, 0, none⟩ c ((Row.new w0 e [bv c]).cell 0) hlen (by simp; omega)
  refine wpList_plain hgd fun _ hK => ?_
  unfold Oper.wp execOp
  simp only [ho, resolve, invoke, builtin, Sem.run_bind, Sem.run_pure, Result.andThen_ok, List.map_toArray, List.map_cons, List.map_nil, hs, hx, hr]
  exact hK _ _ (h v' w' h1 (((Below.refl _ _).alloc hB _).trans h2))
end
end Go.Proofs.YtiaaeniopjpfpaaGreatDoor

namespace Go.Proofs.YtiaaeniopjpfpaaGreatDoor
open Go.RowKit
set_option linter.unusedVariables false

def lenV : Value → Nat
  | .slice _ n _ => n
  | _ => 0
theorem u8_info3 : (Tryz.prog.info? 5).map (fun i => (i.zero, i.size, i.bytes)) = some (some (.int .u8 0), 1, 1) := by kernel_rfl
theorem byte_toNat (x : Nat) : ((UInt8.ofNat (x % 256)).toNat : Int) = ((x : Int) % 256) := by
  rw [UInt8.toNat_ofNat']
  omega

set_option maxRecDepth 20000 in
set_option maxHeartbeats 4000000 in
theorem refPad_any (s : ByteArray) (hs : s.size ≤ 100000) (w : World) :
    Calls Tryz.prog 141 #[.string s] w fun e w' => e = .returned (.string (padB s)) ∧ Below w.heap.size w w' := by
  obtain ⟨i0, hi, hz0, hz1, hz2⟩ : ∃ i0, Tryz.prog.info? 5 = some i0 ∧ i0.zero = some (.int .u8 0) ∧ i0.size = 1 ∧ i0.bytes = 1 := by
    have h := u8_info3
    cases hq : Tryz.prog.info? 5 with
    | none => rw [hq] at h; cases h
    | some i =>
      rw [hq] at h
      simp only [Option.map_some, Option.some.injEq, Prod.mk.injEq] at h
      exact ⟨i, rfl, h.1, h.2.1, h.2.2⟩
  obtain ⟨v1, w1, hcv, hbuf, hb1⟩ := buf_conv (P := Tryz.prog) w 9 87 5 s Tryz.underlying9 Tryz.underlying87 Tryz.underlying5 (by unfold maxLen; omega)
  obtain ⟨a1, c1, rfl⟩ := hbuf.len
  have hsl : s.data.toList.length = s.size := by simp
  rw [hsl] at hcv hbuf
  obtain ⟨z, hz⟩ : ∃ z, (119 - s.size % 64) % 64 = z := ⟨_, rfl⟩
  obtain ⟨m, hm⟩ : ∃ m, s.size * 8 = m := ⟨_, rfl⟩
  have hmi : (s.size : Int) * 8 = (m : Int) := by omega
  have hml : m < 18446744073709551616 := by omega
  have HB := Lib.hid (And.intro hbuf hb1)
  have HI := Lib.hid (And.intro hi (And.intro hz0 (And.intro hz1 hz2)))
  have HZ := Lib.hid (And.intro hz (And.intro hm hsl))
  have hs1 := hb1.size
  clear hbuf hb1 hi hz0 hz1 hz2 hz hm
  go_enter Tryz.func141, Tryz.ntmps141
  go_wp2_with (at_builtin; refine wpList_buf_byte rfl (.tmp 11) (.tmp 12) 87 rfl 5 i0 Tryz.underlying87 HI.out.1 HI.out.2.1 HI.out.2.2.1 HI.out.2.2.2 w1 w.heap.size (.slice a1 s.size c1) s.data.toList rfl HB.out.1 128 128 rfl rfl (by omega) hs1 ?_; intro v2 w2 hb2 hB2)
  go_loopw [4] (fun b wr => ∃ k, k ≤ z ∧ (∃ a c, b = .slice a (s.size + 1 + k) c) ∧ Buf 5 wr w.heap.size b (s.data.toList ++ [128] ++ List.replicate k 0) ∧ Below w.heap.size w wr) (fun b _ => s.size + 200 - lenV b)
  case atStart =>
    refine ⟨0, Nat.zero_le _, ?_, by simpa using hb2, HB.out.2.trans hB2⟩
    obtain ⟨a, c, h⟩ := hb2.len
    rw [List.length_append, hsl] at h
    exact ⟨a, c, h⟩
  case round =>
    obtain ⟨k, hk, ⟨a2, c2, rfl⟩, hb3, hB3⟩ := hrel
    have hs3 := hB3.size
    have hzl : z ≤ 63 := by have := HZ.out.1; omega
    have hlen3 : (s.data.toList ++ [128] ++ List.replicate k 0).length = s.size + 1 + k := by simp [hsl]; omega
    have HB3 := Lib.hid (And.intro hb3 (And.intro hB3 hlen3))
    by_cases hlt : k < z
    · have hne : ¬ ((s.size : Int) + 1 + k) % 64 = 56 := by have := HZ.out.1; omega
      clear hb2 hB2 hb3 hB3 hlen3
      go_wp2_with (at_builtin; refine wpList_buf_byte rfl (.tmp 18) (.tmp 19) 87 rfl 5 i0 Tryz.underlying87 HI.out.1 HI.out.2.1 HI.out.2.2.1 HI.out.2.2.2 wr w.heap.size (.slice a2 (s.size + 1 + k) c2) (s.data.toList ++ [128] ++ List.replicate k 0) rfl HB3.out.1 0 0 rfl rfl (by rw [HB3.out.2.2]; omega) hs3 ?_; intro v4 w4 hb4 hB4)
      go_roundw
      case rel =>
        have e : s.data.toList ++ [128] ++ List.replicate k 0 ++ [0] = s.data.toList ++ [128] ++ List.replicate (k + 1) 0 := by
          rw [List.replicate_succ']; simp only [List.append_assoc]
        rw [e] at hb4
        refine ⟨k + 1, by omega, ?_, hb4, HB3.out.2.1.trans hB4⟩
        obtain ⟨a, c, h⟩ := hb4.len
        have e2 : (s.data.toList ++ [128] ++ List.replicate (k + 1) 0).length = s.size + 1 + (k + 1) := by simp [hsl]; omega
        rw [e2] at h
        exact ⟨a, c, h⟩
      case measure =>
        obtain ⟨a, c, h⟩ := hb4.len
        rw [List.length_append, HB3.out.2.2] at h
        rw [h]
        show s.size + 200 - (s.size + 1 + k + 1) < s.size + 200 - (s.size + 1 + k)
        omega
    · have hkz : k = z := by omega
      have heq : ((s.size : Int) + 1 + k) % 64 = 56 := by have := HZ.out.1; omega
      have HKZ := Lib.hid hkz
      clear hkz hb2 hB2 hb3 hB3 hlen3
      go_wp2_with fail
      clear heq
      go_loopw [4, 5] (fun b i wq => ∃ (q : Nat) (L : List UInt8), q ≤ 8 ∧ i = .int .i64 ((q : Int) - 1) ∧ L.length = 8 - q ∧ L ++ putL m q = putL m 8 ∧ (∃ a c, b = .slice a (s.size + 1 + k + (8 - q)) c) ∧ Buf 5 wq w.heap.size b (s.data.toList ++ [128] ++ List.replicate k 0 ++ L) ∧ Below w.heap.size w wq) (fun _ i _ => (intOf i + 1).toNat)
      case atStart => exact ⟨8, [], by omega, by go_num, rfl, rfl, ⟨a2, c2, rfl⟩, by rw [List.append_nil]; exact HB3.out.1, HB3.out.2.1⟩
      case round =>
        obtain ⟨q, L, hq, rfl, hLl, hL, ⟨a5, c5, rfl⟩, hb5, hB5⟩ := hrel
        have hs5 := hB5.size
        have hlen5 : (s.data.toList ++ [128] ++ List.replicate k 0 ++ L).length = s.size + 1 + k + (8 - q) := by rw [List.length_append, HB3.out.2.2, hLl]
        have H5 := Lib.hid (And.intro hb5 (And.intro hB5 (And.intro hlen5 (And.intro hLl hL))))
        clear hb5 hB5 hlen5 hLl hL
        by_cases h0 : 0 < q
        · obtain ⟨j, rfl⟩ : ∃ j, q = j + 1 := ⟨q - 1, by omega⟩
          rw [putL_cons] at H5
          rcases (by omega : j = 0 ∨ j = 1 ∨ j = 2 ∨ j = 3 ∨ j = 4 ∨ j = 5 ∨ j = 6 ∨ j = 7) with rfl | rfl | rfl | rfl | rfl | rfl | rfl | rfl
          · have hput := H5.out.2.2.2.2
            go_wp2_with (at_builtin; refine wpList_buf_byte rfl (.tmp 25) (.tmp 31) 87 rfl 5 i0 Tryz.underlying87 HI.out.1 HI.out.2.1 HI.out.2.2.1 HI.out.2.2.2 wr w.heap.size (.slice a5 (s.size + 1 + k + (8 - (0 + 1))) c5) (s.data.toList ++ [128] ++ List.replicate k 0 ++ L) rfl H5.out.1 _ (UInt8.ofNat (m / 256 ^ 0 % 256)) (by rw [byte_toNat]; omega) rfl (by rw [H5.out.2.2.1]; omega) hs5 ?_; intro v6 w6 hb6 hB6)
            go_roundw
            case rel =>
              obtain ⟨a, c, h⟩ := hb6.len
              rw [List.length_append, H5.out.2.2.1] at h
              exact ⟨0, L ++ [UInt8.ofNat (m / 256 ^ 0 % 256)], by omega, by go_num, by rw [List.length_append, H5.out.2.2.2.1]; rfl, by rw [List.append_assoc]; exact hput, ⟨a, c, h⟩, by rw [← List.append_assoc]; exact hb6, H5.out.2.1.trans hB6⟩
            case measure => simp [intOf]
          · have hput := H5.out.2.2.2.2
            go_wp2_with (at_builtin; refine wpList_buf_byte rfl (.tmp 25) (.tmp 31) 87 rfl 5 i0 Tryz.underlying87 HI.out.1 HI.out.2.1 HI.out.2.2.1 HI.out.2.2.2 wr w.heap.size (.slice a5 (s.size + 1 + k + (8 - (1 + 1))) c5) (s.data.toList ++ [128] ++ List.replicate k 0 ++ L) rfl H5.out.1 _ (UInt8.ofNat (m / 256 ^ 1 % 256)) (by rw [byte_toNat]; omega) rfl (by rw [H5.out.2.2.1]; omega) hs5 ?_; intro v6 w6 hb6 hB6)
            go_roundw
            case rel =>
              obtain ⟨a, c, h⟩ := hb6.len
              rw [List.length_append, H5.out.2.2.1] at h
              exact ⟨1, L ++ [UInt8.ofNat (m / 256 ^ 1 % 256)], by omega, by go_num, by rw [List.length_append, H5.out.2.2.2.1]; rfl, by rw [List.append_assoc]; exact hput, ⟨a, c, h⟩, by rw [← List.append_assoc]; exact hb6, H5.out.2.1.trans hB6⟩
            case measure => simp [intOf]
          · have hput := H5.out.2.2.2.2
            go_wp2_with (at_builtin; refine wpList_buf_byte rfl (.tmp 25) (.tmp 31) 87 rfl 5 i0 Tryz.underlying87 HI.out.1 HI.out.2.1 HI.out.2.2.1 HI.out.2.2.2 wr w.heap.size (.slice a5 (s.size + 1 + k + (8 - (2 + 1))) c5) (s.data.toList ++ [128] ++ List.replicate k 0 ++ L) rfl H5.out.1 _ (UInt8.ofNat (m / 256 ^ 2 % 256)) (by rw [byte_toNat]; omega) rfl (by rw [H5.out.2.2.1]; omega) hs5 ?_; intro v6 w6 hb6 hB6)
            go_roundw
            case rel =>
              obtain ⟨a, c, h⟩ := hb6.len
              rw [List.length_append, H5.out.2.2.1] at h
              exact ⟨2, L ++ [UInt8.ofNat (m / 256 ^ 2 % 256)], by omega, by go_num, by rw [List.length_append, H5.out.2.2.2.1]; rfl, by rw [List.append_assoc]; exact hput, ⟨a, c, h⟩, by rw [← List.append_assoc]; exact hb6, H5.out.2.1.trans hB6⟩
            case measure => simp [intOf]
          · have hput := H5.out.2.2.2.2
            go_wp2_with (at_builtin; refine wpList_buf_byte rfl (.tmp 25) (.tmp 31) 87 rfl 5 i0 Tryz.underlying87 HI.out.1 HI.out.2.1 HI.out.2.2.1 HI.out.2.2.2 wr w.heap.size (.slice a5 (s.size + 1 + k + (8 - (3 + 1))) c5) (s.data.toList ++ [128] ++ List.replicate k 0 ++ L) rfl H5.out.1 _ (UInt8.ofNat (m / 256 ^ 3 % 256)) (by rw [byte_toNat]; omega) rfl (by rw [H5.out.2.2.1]; omega) hs5 ?_; intro v6 w6 hb6 hB6)
            go_roundw
            case rel =>
              obtain ⟨a, c, h⟩ := hb6.len
              rw [List.length_append, H5.out.2.2.1] at h
              exact ⟨3, L ++ [UInt8.ofNat (m / 256 ^ 3 % 256)], by omega, by go_num, by rw [List.length_append, H5.out.2.2.2.1]; rfl, by rw [List.append_assoc]; exact hput, ⟨a, c, h⟩, by rw [← List.append_assoc]; exact hb6, H5.out.2.1.trans hB6⟩
            case measure => simp [intOf]
          · have hput := H5.out.2.2.2.2
            go_wp2_with (at_builtin; refine wpList_buf_byte rfl (.tmp 25) (.tmp 31) 87 rfl 5 i0 Tryz.underlying87 HI.out.1 HI.out.2.1 HI.out.2.2.1 HI.out.2.2.2 wr w.heap.size (.slice a5 (s.size + 1 + k + (8 - (4 + 1))) c5) (s.data.toList ++ [128] ++ List.replicate k 0 ++ L) rfl H5.out.1 _ (UInt8.ofNat (m / 256 ^ 4 % 256)) (by rw [byte_toNat]; omega) rfl (by rw [H5.out.2.2.1]; omega) hs5 ?_; intro v6 w6 hb6 hB6)
            go_roundw
            case rel =>
              obtain ⟨a, c, h⟩ := hb6.len
              rw [List.length_append, H5.out.2.2.1] at h
              exact ⟨4, L ++ [UInt8.ofNat (m / 256 ^ 4 % 256)], by omega, by go_num, by rw [List.length_append, H5.out.2.2.2.1]; rfl, by rw [List.append_assoc]; exact hput, ⟨a, c, h⟩, by rw [← List.append_assoc]; exact hb6, H5.out.2.1.trans hB6⟩
            case measure => simp [intOf]
          · have hput := H5.out.2.2.2.2
            go_wp2_with (at_builtin; refine wpList_buf_byte rfl (.tmp 25) (.tmp 31) 87 rfl 5 i0 Tryz.underlying87 HI.out.1 HI.out.2.1 HI.out.2.2.1 HI.out.2.2.2 wr w.heap.size (.slice a5 (s.size + 1 + k + (8 - (5 + 1))) c5) (s.data.toList ++ [128] ++ List.replicate k 0 ++ L) rfl H5.out.1 _ (UInt8.ofNat (m / 256 ^ 5 % 256)) (by rw [byte_toNat]; omega) rfl (by rw [H5.out.2.2.1]; omega) hs5 ?_; intro v6 w6 hb6 hB6)
            go_roundw
            case rel =>
              obtain ⟨a, c, h⟩ := hb6.len
              rw [List.length_append, H5.out.2.2.1] at h
              exact ⟨5, L ++ [UInt8.ofNat (m / 256 ^ 5 % 256)], by omega, by go_num, by rw [List.length_append, H5.out.2.2.2.1]; rfl, by rw [List.append_assoc]; exact hput, ⟨a, c, h⟩, by rw [← List.append_assoc]; exact hb6, H5.out.2.1.trans hB6⟩
            case measure => simp [intOf]
          · have hput := H5.out.2.2.2.2
            go_wp2_with (at_builtin; refine wpList_buf_byte rfl (.tmp 25) (.tmp 31) 87 rfl 5 i0 Tryz.underlying87 HI.out.1 HI.out.2.1 HI.out.2.2.1 HI.out.2.2.2 wr w.heap.size (.slice a5 (s.size + 1 + k + (8 - (6 + 1))) c5) (s.data.toList ++ [128] ++ List.replicate k 0 ++ L) rfl H5.out.1 _ (UInt8.ofNat (m / 256 ^ 6 % 256)) (by rw [byte_toNat]; omega) rfl (by rw [H5.out.2.2.1]; omega) hs5 ?_; intro v6 w6 hb6 hB6)
            go_roundw
            case rel =>
              obtain ⟨a, c, h⟩ := hb6.len
              rw [List.length_append, H5.out.2.2.1] at h
              exact ⟨6, L ++ [UInt8.ofNat (m / 256 ^ 6 % 256)], by omega, by go_num, by rw [List.length_append, H5.out.2.2.2.1]; rfl, by rw [List.append_assoc]; exact hput, ⟨a, c, h⟩, by rw [← List.append_assoc]; exact hb6, H5.out.2.1.trans hB6⟩
            case measure => simp [intOf]
          · have hput := H5.out.2.2.2.2
            go_wp2_with (at_builtin; refine wpList_buf_byte rfl (.tmp 25) (.tmp 31) 87 rfl 5 i0 Tryz.underlying87 HI.out.1 HI.out.2.1 HI.out.2.2.1 HI.out.2.2.2 wr w.heap.size (.slice a5 (s.size + 1 + k + (8 - (7 + 1))) c5) (s.data.toList ++ [128] ++ List.replicate k 0 ++ L) rfl H5.out.1 _ (UInt8.ofNat (m / 256 ^ 7 % 256)) (by rw [byte_toNat]; omega) rfl (by rw [H5.out.2.2.1]; omega) hs5 ?_; intro v6 w6 hb6 hB6)
            go_roundw
            case rel =>
              obtain ⟨a, c, h⟩ := hb6.len
              rw [List.length_append, H5.out.2.2.1] at h
              exact ⟨7, L ++ [UInt8.ofNat (m / 256 ^ 7 % 256)], by omega, by go_num, by rw [List.length_append, H5.out.2.2.2.1]; rfl, by rw [List.append_assoc]; exact hput, ⟨a, c, h⟩, by rw [← List.append_assoc]; exact hb6, H5.out.2.1.trans hB6⟩
            case measure => simp [intOf]
        · have hq0 : q = 0 := by omega
          subst hq0
          have hLe : L = putL m 8 := by have h := H5.out.2.2.2.2; simpa [putL] using h
          have htx : (convert 87 9 (.slice a5 (s.size + 1 + k + 8) c5)).run Tryz.prog wr = .ok (.string (padB s)) wr := by
            have h := Buf.text (P := Tryz.prog) (src := 87) (dst := 9) H5.out.1 Tryz.underlying87 Tryz.underlying5 Tryz.underlying9
            have e : padB s = ⟨(s.data.toList ++ [128] ++ List.replicate k 0 ++ L).toArray⟩ := by
              unfold padB padL endL
              rw [hLe, HKZ.out, ← HZ.out.1, HZ.out.2.2, ← HZ.out.2.1]
              simp
            rw [e]
            exact h
          go_wp2_with fail
          go_ret
          exact ⟨rfl, H5.out.2.1⟩
end Go.Proofs.YtiaaeniopjpfpaaGreatDoor

namespace Go.Proofs.YtiaaeniopjpfpaaGreatDoor
open Go.RowKit
set_option linter.unusedVariables false
set_option linter.unusedSimpArgs false

/-- The first j bytes of the i-th word. -/
def wordPart (l : List UInt8) (i j : Nat) : UInt32 := UInt32.ofNat (getL ((l.drop (4 * i)).take j))
theorem wordPart_zero (l : List UInt8) (i : Nat) : wordPart l i 0 = 0 := by simp [wordPart, getL]
theorem wordPart_four (l : List UInt8) (i : Nat) : wordPart l i 4 = wordAt l i := rfl
theorem wordPart_step (l : List UInt8) (i j : Nat) (x : UInt8) (h : l[4 * i + j]? = some x) :
    ((((wordPart l i j).toNat : Int) * 256) % 4294967296 + (x.toNat : Int)) % 4294967296 = ((wordPart l i (j + 1)).toNat : Int) := by
  have e : (l.drop (4 * i)).take (j + 1) = (l.drop (4 * i)).take j ++ [x] := by
    rw [List.take_add_one, List.getElem?_drop, h]; rfl
  unfold wordPart
  rw [e, getL_snoc]
  simp only [UInt32.toNat_ofNat']
  have : (2:Nat) ^ 32 = 4294967296 := by decide
  omega
/-- The i-th word half read. -/
def wpart (l : List UInt8) (i j : Nat) : List Value := (wrow (firstW l i)).set i (.int .u32 ((wordPart l i j).toNat : Int))
theorem wpart_zero (l : List UInt8) {i : Nat} (h : i < 16) : wpart l i 0 = wrow (firstW l i) := by
  unfold wpart
  rw [wordPart_zero]
  have hg : (wrow (firstW l i))[i]? = some (.int .u32 0) := by
    unfold wrow
    have hl : ((firstW l i).map uv).length = i := by simp [firstW_length]
    rw [List.getElem?_append_right (by omega), hl, Nat.sub_self, firstW_length, List.getElem?_replicate, if_pos (by omega)]
  apply List.ext_getElem?
  intro k
  rw [List.getElem?_set]
  split
  · next hk =>
    subst hk
    split
    · rw [hg]; rfl
    · next hn => rw [wrow_length (by rw [firstW_length]; omega)] at hn; omega
  · rfl
theorem wpart_four (l : List UInt8) {i : Nat} (h : i < 16) : wpart l i 4 = wrow (firstW l (i + 1)) := by
  have := wrow_set (l := firstW l i) (by rw [firstW_length]; omega) (wordAt l i)
  rw [firstW_length, ← firstW_succ] at this
  exact this
theorem wpart_get (l : List UInt8) {i : Nat} (j : Nat) (h : i < 16) : (wpart l i j)[i]? = some (.int .u32 ((wordPart l i j).toNat : Int)) := by
  unfold wpart
  rw [List.getElem?_set_self (by rw [wrow_length (by rw [firstW_length]; omega)]; omega)]
theorem wpart_set (l : List UInt8) (i j : Nat) : (wpart l i j).set i (.int .u32 ((wordPart l i (j + 1)).toNat : Int)) = wpart l i (j + 1) := by
  unfold wpart; rw [List.set_set]
theorem w_info3 : (Tryz.prog.info? 144).map (fun i => (i.zero, i.size, i.bytes)) = some (some (.int .u32 0), 1, 4) := by kernel_rfl
theorem uadd_assoc (x y z : UInt32) : uadd (uadd x y) z = uadd x (uadd y z) := by unfold uadd; exact UInt32.add_assoc x y z
def h0Ints : List Int := (s8l start8).map fun v => match v with | .int _ n => n | _ => 0
theorem made64 : madeCells #[.int .u32 0] 64 = z64.toArray := by kernel_rfl
/-- A round as the document writes it: the constant and the word are added one by one. -/
def rt1 (s : S8) (k x : UInt32) : UInt32 := uadd (uadd (uadd (uadd s.h (uxor (uxor (rot s.e 6) (rot s.e 11)) (rot s.e 25))) (uxor (uand s.e s.f) (uand (unot s.e) s.g))) k) x
def rrnd (s : S8) (k x : UInt32) : S8 := ⟨uadd (rt1 s k x) (t2 s), s.a, s.b, s.c, uadd s.d (rt1 s k x), s.e, s.f, s.g⟩
theorem rrnd_eq (s : S8) (k x : UInt32) : rrnd s k x = rnd s (uadd k x) := by
  have h : rt1 s k x = t1 s (uadd k x) := by unfold rt1 t1; rw [uadd_assoc]
  unfold rrnd rnd
  rw [h]
/-- The first k bytes of the sum, noughts behind. -/
def brow (S : S8) (k : Nat) : List Value := ((bytes8 S).take k).map bv ++ List.replicate (32 - k) (.int .u8 0)
theorem bytes8_len (S : S8) : (bytes8 S).length = 32 := by unfold bytes8; simp [putL_length]
theorem brow_length (S : S8) {k : Nat} (h : k ≤ 32) : (brow S k).length = 32 := by unfold brow; simp [bytes8_len]; omega
theorem brow_set (S : S8) {k : Nat} (h : k < 32) (x : UInt8) (hx : (bytes8 S)[k]? = some x) : (brow S k).set k (.int .u8 x.toNat) = brow S (k + 1) := by
  unfold brow
  have hl : (((bytes8 S).take k).map bv).length = k := by simp [bytes8_len]; omega
  have e : 32 - k = (32 - (k + 1)) + 1 := by omega
  rw [e, List.replicate_succ, List.set_append_right _ _ (by omega), hl, Nat.sub_self, List.set_cons_zero, List.take_add_one, hx, List.map_append, List.append_assoc]
  rfl
theorem brow_all (S : S8) : brow S 32 = (bytes8 S).map bv := by
  unfold brow
  rw [List.take_of_length_le (by rw [bytes8_len]; exact Nat.le_refl _)]
  simp
theorem putL_four (n : Nat) : putL n 4 = [UInt8.ofNat (n / 256 ^ 3 % 256), UInt8.ofNat (n / 256 ^ 2 % 256), UInt8.ofNat (n / 256 ^ 1 % 256), UInt8.ofNat (n / 256 ^ 0 % 256)] := by
  simp only [putL, List.nil_append, List.cons_append]
  simp [Nat.div_div_eq_div_mul]
theorem bytes8_get (S : S8) (a r : Nat) (ha : a < 8) (hr : r < 4) : (bytes8 S)[4 * a + r]? = some (UInt8.ofNat ((at8 S a).toNat / 256 ^ (3 - r) % 256)) := by
  unfold bytes8
  simp only [putL_four]
  rcases (by omega : a = 0 ∨ a = 1 ∨ a = 2 ∨ a = 3 ∨ a = 4 ∨ a = 5 ∨ a = 6 ∨ a = 7) with rfl | rfl | rfl | rfl | rfl | rfl | rfl | rfl <;>
    rcases (by omega : r = 0 ∨ r = 1 ∨ r = 2 ∨ r = 3) with rfl | rfl | rfl | rfl <;> rfl
theorem byteI (x : UInt32) (d : Nat) : ((x.toNat : Int) / (d : Int)) % 256 = (((UInt8.ofNat (x.toNat / d % 256)).toNat : Nat) : Int) := by
  rw [UInt8.toNat_ofNat']
  omega
theorem comp_split {T : S8} {L b : List UInt8} {J : Nat} {sc : List UInt32} (h1 : mixK start8 L J = T) (h2 : blk L J = b) (h3 : sched b = sc) : add8 T (rnds T sc 64) = mixK start8 L (J + 1) := by
  rw [mixK, h1, h2, comp, h3]
theorem u32_mod (x : UInt32) : (x.toNat : Int) % 4294967296 = (x.toNat : Int) := by
  have := u32_lt x
  omega
/-- A walk goes on in any world of the same facts. -/
theorem wp_gen {P : Program} {c : Code} {Q : Exit → Act → World → Prop} {a : Act} {W : World} (K : World → Prop) (hk : K W) (h : ∀ W, K W → c.wp P Q a W) : c.wp P Q a W := h W hk
/-- A region whose end is one frame and one world. -/
theorem wp_cut_one {P : Program} {id : Nat} {ops : Array Oper} {b : Bool} {Q : Exit → Act → World → Prop} {a : Act} {w : World} (a1 : Act) (w1 : World)
    (h1 : (Code.region id ops b).wp P (fun e a' w' => e = .normal ∧ a' = a1 ∧ w' = w1) a w) (h2 : Q .normal a1 w1) : (Code.region id ops b).wp P Q a w :=
  Code.wp_mono (fun e a' w' h => by obtain ⟨rfl, rfl, rfl⟩ := h; exact h2) h1

theorem sched_eq (b : List UInt8) : moreW (firstW b 16) (64 - 16) = sched b := rfl
theorem rnds_next (T : S8) (sc : List UInt32) (q : Nat) : rnds T sc (q + 1) = rnd (rnds T sc q) (uadd (K64.getD q 0) (sc.getD q 0)) := rfl
theorem part8_all (s t : S8) : part8 s t 8 = s8l t := rfl
theorem mixK_zero (L : List UInt8) : s8l (mixK start8 L 0) = s8l start8 := rfl
theorem firstW_zero (b : List UInt8) : wrow (firstW b 0) = z64 := rfl
theorem moreW_zero (l : List UInt32) : wrow (moreW l (16 - 16)) = wrow l := rfl
theorem rnds_zero (T : S8) (sc : List UInt32) : s8l (rnds T sc 0) = s8l T := rfl
theorem brow_zero (S : S8) : brow S 0 = z32 := rfl
attribute [local irreducible] mixK rnds sched add8 comp moreW firstW nextW rnd shaL bytes8 blk wpart wordPart wrow brow
/-- The bodies of a code's loops, in their order. -/
def bodies : Code → List Code
  | .loop c => c :: bodies c
  | .seq a b => bodies a ++ bodies b
  | .block _ c => bodies c
  | .scope c => bodies c
  | .cond _ a b => bodies a ++ bodies b
  | _ => []
end Go.Proofs.YtiaaeniopjpfpaaGreatDoor

namespace Go.Proofs.YtiaaeniopjpfpaaGreatDoor
open Go.RowKit
set_option linter.unusedVariables false
set_option linter.unusedSimpArgs false
attribute [local irreducible] mixK rnds sched add8 comp moreW firstW nextW rnd shaL bytes8 blk wpart wordPart wrow brow
noncomputable def body13 : Code := (((Tryz.f123.body.map bodies).getD [])[4]?).getD .skip
set_option maxRecDepth 1000000 in
set_option maxHeartbeats 40000000 in
theorem loop13 {s0 s1 s2 s3 s5 s6 s8 s9 s10 s11 s12 s15 s16 s17 s18 s19 s20 s21 s22 s23 s24 s25 s26 s27 s28 s29 s30 s31 s32 s33 s34 s35 s36 s37 s38 s39 s40 s41 s42 s43 s44 s45 s46 s47 s48 s49 s50 s51 s52 s53 s54 s55 s56 s57 s58 s59 s60 s61 s62 s63 s64 s65 s66 s67 s68 s69 s70 s71 s72 s73 s74 s75 s76 s77 s78 s79 s80 s81 s82 s83 s84 s85 s86 s87 s88 s89 s90 s91 s92 s93 s94 s95 s96 s97 s98 s99 s100 s101 s102 s103 s104 s105 s106 s107 s108 s109 s110 s111 s112 s113 s114 s115 s116 s117 s118 s119 s120 s121 s122 s123 s124 s125 s126 s127 s128 s129 s130 s131 s132 s133 s134 s135 s136 s137 s138 s139 s140 s141 s142 s143 s144 s145 s146 s147 s148 s149 s150 s151 s152 s153 s154 s155 s156 s157 s158 s159 s160 s161 s162 s163 s164 s165 s166 s167 s168 s169 s170 s171 s172 s173 s174 s175 s176 s177 s178 s179 s180 s181 s182 s183 s184 s185 s186 s187 s188 s189 s190 s191 s192 s193 s194 s195 s196 s197 s198 s199 s200 s201 s202 s203 s204 s205 s206 s207 s208 s209 s210 s211 s212 s213 s214 s215 s216 s217 s218 s219 s220 s221 s222 s223 s224 s225 s226 s227 s228 s229 s230 s231 s232 s233 s234 s235 s236 s237 s238 s239 s240 s241 s242 s243 s244 s245 s246 s247 s248 s249 s250 s251 s252 s253 s254 s255 s256 s257 s258 s259 s260 s261 s262 s263 s264 s265 s266 s267 s268 s269 s270 s271 s272 s273 s274 s275 s276 s277 s278 s279 s280 s281 s282 s283 s284 s285 s286 s287 s288 s289 s290 s291 s292 s293 s294 s295 s296 s297 : Value} (gk gw gv : Nat) (T : S8) (sc : List UInt32) (w1 : World) (Q0 : Exit → Act → World → Prop)
    (pk : Row w1 gk 144 (wrow K64)) (pw : Row w1 gw 144 (wrow sc)) (r4 : Row w1 gv 144 (s8l T)) (lk : gk < gv) (lw : gw < gv) (hscl : sc.length = 64) (hgv4 : gv < w1.heap.size)
    (hexit : ∀ (u14 u15 u16 u17 u18 u19 u20 u147 u148 u149 u150 u151 u152 u153 u154 u155 u156 u157 u158 u159 u160 u161 u162 u163 u164 u165 u166 u167 u168 u169 u170 u171 u172 u173 u174 u175 u176 u177 u178 u179 u180 u181 u182 u183 u184 u185 u186 u187 u188 u189 u190 u191 u192 u193 u194 u195 u196 u197 u198 u199 u200 u201 u202 u203 u204 u205 u206 u207 u208 u209 u210 u211 u212 u213 u214 u215 u216 u217 u218 u219 u220 u221 u222 u223 u224 u225 u226 u227 u228 u229 u230 u231 u232 u233 u234 u235 u236 u237 u238 u239 u240 u241 u242 u243 u244 u245 u246 u247 u248 u249 u250 u251 u252 u253 u254 u255 u256 u257 u258 u259 u260 u261 u262 u263 : Value) (g : Nat) (wb : World), Row wb g 144 (s8l (rnds T sc 64)) → gv ≤ g → Below gv w1 wb → Q0 (.exit 8) ⟨List.toArray (s0 :: s1 :: s2 :: s3 :: .slice (some ⟨gk, 0, none⟩) 64 64 :: s5 :: s6 :: .slice (some ⟨gw, 0, none⟩) 64 64 :: s8 :: s9 :: s10 :: s11 :: s12 :: (.slice (some ⟨g, 0, none⟩) 8 8) :: u14 :: u15 :: u16 :: u17 :: u18 :: u19 :: u20 :: s21 :: s22 :: s23 :: s24 :: s25 :: s26 :: s27 :: s28 :: s29 :: s30 :: s31 :: s32 :: s33 :: s34 :: s35 :: s36 :: s37 :: s38 :: s39 :: s40 :: s41 :: s42 :: s43 :: s44 :: s45 :: s46 :: s47 :: s48 :: s49 :: s50 :: s51 :: s52 :: s53 :: s54 :: s55 :: s56 :: s57 :: s58 :: s59 :: s60 :: s61 :: s62 :: s63 :: s64 :: s65 :: s66 :: s67 :: s68 :: s69 :: s70 :: s71 :: s72 :: s73 :: s74 :: s75 :: s76 :: s77 :: s78 :: s79 :: s80 :: s81 :: s82 :: s83 :: s84 :: s85 :: s86 :: s87 :: s88 :: s89 :: s90 :: s91 :: s92 :: s93 :: s94 :: s95 :: s96 :: s97 :: s98 :: s99 :: s100 :: s101 :: s102 :: s103 :: s104 :: s105 :: s106 :: s107 :: s108 :: s109 :: s110 :: s111 :: s112 :: s113 :: s114 :: s115 :: s116 :: s117 :: s118 :: s119 :: s120 :: s121 :: s122 :: s123 :: s124 :: s125 :: s126 :: s127 :: s128 :: s129 :: s130 :: s131 :: s132 :: s133 :: s134 :: s135 :: s136 :: s137 :: s138 :: s139 :: s140 :: s141 :: s142 :: s143 :: s144 :: s145 :: s146 :: u147 :: u148 :: u149 :: u150 :: u151 :: u152 :: u153 :: u154 :: u155 :: u156 :: u157 :: u158 :: u159 :: u160 :: u161 :: u162 :: u163 :: u164 :: u165 :: u166 :: u167 :: u168 :: u169 :: u170 :: u171 :: u172 :: u173 :: u174 :: u175 :: u176 :: u177 :: u178 :: u179 :: u180 :: u181 :: u182 :: u183 :: u184 :: u185 :: u186 :: u187 :: u188 :: u189 :: u190 :: u191 :: u192 :: u193 :: u194 :: u195 :: u196 :: u197 :: u198 :: u199 :: u200 :: u201 :: u202 :: u203 :: u204 :: u205 :: u206 :: u207 :: u208 :: u209 :: u210 :: u211 :: u212 :: u213 :: u214 :: u215 :: u216 :: u217 :: u218 :: u219 :: u220 :: u221 :: u222 :: u223 :: u224 :: u225 :: u226 :: u227 :: u228 :: u229 :: u230 :: u231 :: u232 :: u233 :: u234 :: u235 :: u236 :: u237 :: u238 :: u239 :: u240 :: u241 :: u242 :: u243 :: u244 :: u245 :: u246 :: u247 :: u248 :: u249 :: u250 :: u251 :: u252 :: u253 :: u254 :: u255 :: u256 :: u257 :: u258 :: u259 :: u260 :: u261 :: u262 :: u263 :: s264 :: s265 :: s266 :: s267 :: s268 :: s269 :: s270 :: s271 :: s272 :: s273 :: s274 :: s275 :: s276 :: s277 :: s278 :: s279 :: s280 :: s281 :: s282 :: s283 :: s284 :: s285 :: s286 :: s287 :: s288 :: s289 :: s290 :: s291 :: s292 :: s293 :: s294 :: s295 :: s296 :: s297 :: []), []⟩ wb) :
    Code.wp Tryz.prog (Code.loop body13) Q0 ⟨List.toArray (s0 :: s1 :: s2 :: s3 :: .slice (some ⟨gk, 0, none⟩) 64 64 :: s5 :: s6 :: .slice (some ⟨gw, 0, none⟩) 64 64 :: s8 :: s9 :: s10 :: s11 :: s12 :: .slice (some ⟨gv, 0, none⟩) 8 8 :: .int .i64 0 :: s15 :: s16 :: s17 :: s18 :: s19 :: s20 :: s21 :: s22 :: s23 :: s24 :: s25 :: s26 :: s27 :: s28 :: s29 :: s30 :: s31 :: s32 :: s33 :: s34 :: s35 :: s36 :: s37 :: s38 :: s39 :: s40 :: s41 :: s42 :: s43 :: s44 :: s45 :: s46 :: s47 :: s48 :: s49 :: s50 :: s51 :: s52 :: s53 :: s54 :: s55 :: s56 :: s57 :: s58 :: s59 :: s60 :: s61 :: s62 :: s63 :: s64 :: s65 :: s66 :: s67 :: s68 :: s69 :: s70 :: s71 :: s72 :: s73 :: s74 :: s75 :: s76 :: s77 :: s78 :: s79 :: s80 :: s81 :: s82 :: s83 :: s84 :: s85 :: s86 :: s87 :: s88 :: s89 :: s90 :: s91 :: s92 :: s93 :: s94 :: s95 :: s96 :: s97 :: s98 :: s99 :: s100 :: s101 :: s102 :: s103 :: s104 :: s105 :: s106 :: s107 :: s108 :: s109 :: s110 :: s111 :: s112 :: s113 :: s114 :: s115 :: s116 :: s117 :: s118 :: s119 :: s120 :: s121 :: s122 :: s123 :: s124 :: s125 :: s126 :: s127 :: s128 :: s129 :: s130 :: s131 :: s132 :: s133 :: s134 :: s135 :: s136 :: s137 :: s138 :: s139 :: s140 :: s141 :: s142 :: s143 :: s144 :: s145 :: s146 :: s147 :: s148 :: s149 :: s150 :: s151 :: s152 :: s153 :: s154 :: s155 :: s156 :: s157 :: s158 :: s159 :: s160 :: s161 :: s162 :: s163 :: s164 :: s165 :: s166 :: s167 :: s168 :: s169 :: s170 :: s171 :: s172 :: s173 :: s174 :: s175 :: s176 :: s177 :: s178 :: s179 :: s180 :: s181 :: s182 :: s183 :: s184 :: s185 :: s186 :: s187 :: s188 :: s189 :: s190 :: s191 :: s192 :: s193 :: s194 :: s195 :: s196 :: s197 :: s198 :: s199 :: s200 :: s201 :: s202 :: s203 :: s204 :: s205 :: s206 :: s207 :: s208 :: s209 :: s210 :: s211 :: s212 :: s213 :: s214 :: s215 :: s216 :: s217 :: s218 :: s219 :: s220 :: s221 :: s222 :: s223 :: s224 :: s225 :: s226 :: s227 :: s228 :: s229 :: s230 :: s231 :: s232 :: s233 :: s234 :: s235 :: s236 :: s237 :: s238 :: s239 :: s240 :: s241 :: s242 :: s243 :: s244 :: s245 :: s246 :: s247 :: s248 :: s249 :: s250 :: s251 :: s252 :: s253 :: s254 :: s255 :: s256 :: s257 :: s258 :: s259 :: s260 :: s261 :: s262 :: s263 :: s264 :: s265 :: s266 :: s267 :: s268 :: s269 :: s270 :: s271 :: s272 :: s273 :: s274 :: s275 :: s276 :: s277 :: s278 :: s279 :: s280 :: s281 :: s282 :: s283 :: s284 :: s285 :: s286 :: s287 :: s288 :: s289 :: s290 :: s291 :: s292 :: s293 :: s294 :: s295 :: s296 :: s297 :: []), []⟩ w1 := by
  have HX := Lib.hid hexit
  clear hexit
  conv => arg 2; arg 1; whnf
  have HQ4 := Lib.hid (And.intro pk pw)
  clear pk pw
  go_loopw [13, 14] (fun v i wb => ∃ (q g : Nat), q ≤ 64 ∧ i = .int .i64 q ∧ v = .slice (some ⟨g, 0, none⟩) 8 8 ∧ Row wb g 144 (s8l (rnds T sc q)) ∧ gv ≤ g ∧ Below gv w1 wb) (fun _ i _ => 64 - (intOf i).toNat)
  case atStart => exact ⟨0, gv, Nat.zero_le _, rfl, rfl, by rw [rnds_zero]; exact r4, Nat.le_refl _, Below.refl _ _⟩
  case round =>
    obtain ⟨q, g, hq, rfl, rfl, rv, hgg, bv4⟩ := hrel
    clear r4
    by_cases hlq : q < 64
    · skip
      obtain ⟨U, hU⟩ : ∃ U, rnds T sc q = U := ⟨_, rfl⟩
      have hnx : rnds T sc (q + 1) = rnd U (uadd (K64.getD q 0) (sc.getD q 0)) := by rw [← hU]; exact rnds_next T sc q
      rw [hU] at rv
      rw [← rrnd_eq] at hnx
      have hck : wr.cell? ⟨gk, q, none⟩ = some (.int .u32 ((K64.getD q 0).toNat : Int)) := by
        rw [(HQ4.out.1.below bv4 lk).cell]; exact wrow_get hlq
      have hcw : wr.cell? ⟨gw, q, none⟩ = some (.int .u32 ((sc.getD q 0).toNat : Int)) := by
        rw [(HQ4.out.2.below bv4 lw).cell]; exact wrow_get (by omega)
      obtain ⟨kq, hkq⟩ : ∃ x, K64.getD q 0 = x := ⟨_, rfl⟩
      obtain ⟨xq, hxq⟩ : ∃ x, sc.getD q 0 = x := ⟨_, rfl⟩
      rw [hkq] at hck hnx
      rw [hxq] at hcw hnx
      have HN := Lib.hid hnx
      have RV := Lib.hid (And.intro rv (And.intro hgg bv4))
      have hgl := rv.lt
      have hs4 := bv4.size
      obtain ⟨c0, c1, c2, c3, c4, c5, c6, c7⟩ := cells8 rv
      have hX := u32_xor
      have hA := u32_and
      have hD := u32_add
      have hN := u32_sub
      have hqI : (q : Int) < 64 := by omega
      clear hkq hxq hnx rv bv4 hU hgg
      go_wp2
      go_quiet ((go_at_call 143; first | (refine (rotrQ2 _ _ ?hb _ _ _).mono ?_; (case hb => decide); rintro e1 w1 ⟨rfl, m, rfl⟩; exact ⟨rfl, m, rfl⟩) | (refine (rotrQ _ _ ?hb _ _ ⟨_, rfl⟩).mono ?_; (case hb => decide); rintro e1 w1 ⟨rfl, m, rfl⟩; exact ⟨rfl, m, rfl⟩)))
      go_wp2
      go_quiet (fail)
      try simp only [u32_mod, u32_and, u32_xor]
      go_wp2
      go_quiet (fail)
      try simp only [u32_mod, u32_add]
      go_wp2
      go_quiet ((go_at_call 143; first | (refine (rotrQ2 _ _ ?hb _ _ _).mono ?_; (case hb => decide); rintro e1 w1 ⟨rfl, m, rfl⟩; exact ⟨rfl, m, rfl⟩) | (refine (rotrQ _ _ ?hb _ _ ⟨_, rfl⟩).mono ?_; (case hb => decide); rintro e1 w1 ⟨rfl, m, rfl⟩; exact ⟨rfl, m, rfl⟩)))
      go_wp2
      go_quiet (fail)
      try simp only [u32_mod, u32_add]
      go_wp2
      refine wp_gen (fun W => Row W g 144 (s8l U) ∧ Below gv w1 W) ⟨RV.out.1, ⟨RV.out.2.2.os, RV.out.2.2.tape, RV.out.2.2.output, RV.out.2.2.size, RV.out.2.2.block⟩⟩ ?_
      rintro wx ⟨rx, bx⟩
      clear c0 c1 c2 c3 c4 c5 c6 c7 hck hcw
      obtain ⟨c0, c1, c2, c3, c4, c5, c6, c7⟩ := cells8 rx
      have RX := Lib.hid rx
      have BX := Lib.hid bx
      clear rx bx
      go_region_held3 (fun w' => w'.cell? ⟨g, 0, none⟩ = some (.int .u32 U.a.toNat) ∧ w'.cell? ⟨g, 1, none⟩ = some (.int .u32 U.b.toNat) ∧ w'.cell? ⟨g, 2, none⟩ = some (.int .u32 U.c.toNat) ∧ w'.cell? ⟨g, 3, none⟩ = some (.int .u32 U.d.toNat) ∧
w'.cell? ⟨g, 4, none⟩ = some (.int .u32 U.e.toNat) ∧ w'.cell? ⟨g, 5, none⟩ = some (.int .u32 U.f.toNat) ∧ w'.cell? ⟨g, 6, none⟩ = some (.int .u32 U.g.toNat) ∧ w'.cell? ⟨g, 7, none⟩ = some (.int .u32 U.h.toNat))
(first
| (exact ⟨c0, c1, c2, c3, c4, c5, c6, c7⟩)
| (exact cells8 ((RX.out.alloc _).drewN 1)))
(first
| (fail))
      try simp only [IntKind.wrap_u32', u32_mod, u32_add]
      go_wp2
      go_roundw
      case rel => exact ⟨q + 1, wx.heap.size, by omega, by go_num, rfl, by rw [HN.out]; exact Row.drewN (Row.new wx _ (s8l (rrnd U kq xq))) 1, Nat.le_trans (Nat.le_of_lt hgv4) BX.out.size, below_drewN (BX.out.alloc (Nat.le_trans (Nat.le_of_lt hgv4) BX.out.size) (.cells (s8l (rrnd U kq xq)).toArray 144)) 1⟩
      case measure => simp [intOf]; omega
    · have hq64 : q = 64 := by omega
      have hge : 64 ≤ q := by omega
      rw [hq64] at rv
      have HV := Lib.hid (And.intro rv (And.intro hgg bv4))
      clear hq64 hlq hq rv hgg bv4
      go_wp2
      exact HX.out _ _ _ _ _ _ _ _ _ _ _ _ _ _ _ _ _ _ _ _ _ _ _ _ _ _ _ _ _ _ _ _ _ _ _ _ _ _ _ _ _ _ _ _ _ _ _ _ _ _ _ _ _ _ _ _ _ _ _ _ _ _ _ _ _ _ _ _ _ _ _ _ _ _ _ _ _ _ _ _ _ _ _ _ _ _ _ _ _ _ _ _ _ _ _ _ _ _ _ _ _ _ _ _ _ _ _ _ _ _ _ _ _ _ _ _ _ _ _ _ _ _ _ _ _ _ HV.out.1 HV.out.2.1 HV.out.2.2
end Go.Proofs.YtiaaeniopjpfpaaGreatDoor

namespace Go.Proofs.YtiaaeniopjpfpaaGreatDoor
open Go.RowKit
set_option linter.unusedVariables false
set_option linter.unusedSimpArgs false
attribute [local irreducible] mixK rnds sched add8 comp moreW firstW nextW rnd shaL bytes8 blk wpart wordPart wrow brow
noncomputable def body22 : Code := (((Tryz.f123.body.map bodies).getD [])[6]?).getD .skip
set_option maxRecDepth 1000000 in
set_option maxHeartbeats 40000000 in
theorem loop22 {s0 s1 s2 s3 s4 s6 s7 s8 s9 s10 s11 s12 s13 s14 s15 s16 s17 s18 s19 s20 s23 s24 s25 s26 s27 s28 s29 s30 s31 s32 s33 s34 s35 s36 s37 s38 s39 s40 s41 s42 s43 s44 s45 s46 s47 s48 s49 s50 s51 s52 s53 s54 s55 s56 s57 s58 s59 s60 s61 s62 s63 s64 s65 s66 s67 s68 s69 s70 s71 s72 s73 s74 s75 s76 s77 s78 s79 s80 s81 s82 s83 s84 s85 s86 s87 s88 s89 s90 s91 s92 s93 s94 s95 s96 s97 s98 s99 s100 s101 s102 s103 s104 s105 s106 s107 s108 s109 s110 s111 s112 s113 s114 s115 s116 s117 s118 s119 s120 s121 s122 s123 s124 s125 s126 s127 s128 s129 s130 s131 s132 s133 s134 s135 s136 s137 s138 s139 s140 s141 s142 s143 s144 s145 s146 s147 s148 s149 s150 s151 s152 s153 s154 s155 s156 s157 s158 s159 s160 s161 s162 s163 s164 s165 s166 s167 s168 s169 s170 s171 s172 s173 s174 s175 s176 s177 s178 s179 s180 s181 s182 s183 s184 s185 s186 s187 s188 s189 s190 s191 s192 s193 s194 s195 s196 s197 s198 s199 s200 s201 s202 s203 s204 s205 s206 s207 s208 s209 s210 s211 s212 s213 s214 s215 s216 s217 s218 s219 s220 s221 s222 s223 s224 s225 s226 s227 s228 s229 s230 s231 s232 s233 s234 s235 s236 s237 s238 s239 s240 s241 s242 s243 s244 s245 s246 s247 s248 s249 s250 s251 s252 s253 s254 s255 s256 s257 s258 s259 s260 s261 s262 s263 s264 s265 s266 s267 s268 s269 s270 s271 s272 s273 s274 s275 s276 s277 s278 s279 s280 s281 s282 s283 s284 s285 s286 s287 s288 s289 s290 s291 s292 s293 s294 s295 s296 s297 : Value} (gk gx : Nat) (S : S8) (w w1 : World) (Q0 : Exit → Act → World → Prop)
    (q1 : Row w1 gx 174 z32) (qh : Row w1 (gk + 1) 144 (s8l S)) (q0 : Row w1 w.heap.size 174 z32) (qb : Below w.heap.size w w1) (hl0 : w.heap.size < gk) (hgh : gk + 1 < gx)
    (hexit : ∀ (u22 u264 u265 u266 u267 u268 u269 u270 u271 u272 u273 u274 u275 u276 u277 u278 u279 u280 u281 u282 u283 u284 u285 u286 u287 u288 u289 u290 u291 u292 u293 u294 u295 u296 u297 : Value) (wb : World), Row wb gx 174 (brow S 32) → Row wb w.heap.size 174 z32 → Below w.heap.size w wb → Q0 (.exit 12) ⟨List.toArray (s0 :: s1 :: s2 :: s3 :: s4 :: .slice (some ⟨gk + 1, 0, none⟩) 8 8 :: s6 :: s7 :: s8 :: s9 :: s10 :: s11 :: s12 :: s13 :: s14 :: s15 :: s16 :: s17 :: s18 :: s19 :: s20 :: .pointer (some ⟨gx, 0, none⟩) :: u22 :: s23 :: s24 :: s25 :: s26 :: s27 :: s28 :: s29 :: s30 :: s31 :: s32 :: s33 :: s34 :: s35 :: s36 :: s37 :: s38 :: s39 :: s40 :: s41 :: s42 :: s43 :: s44 :: s45 :: s46 :: s47 :: s48 :: s49 :: s50 :: s51 :: s52 :: s53 :: s54 :: s55 :: s56 :: s57 :: s58 :: s59 :: s60 :: s61 :: s62 :: s63 :: s64 :: s65 :: s66 :: s67 :: s68 :: s69 :: s70 :: s71 :: s72 :: s73 :: s74 :: s75 :: s76 :: s77 :: s78 :: s79 :: s80 :: s81 :: s82 :: s83 :: s84 :: s85 :: s86 :: s87 :: s88 :: s89 :: s90 :: s91 :: s92 :: s93 :: s94 :: s95 :: s96 :: s97 :: s98 :: s99 :: s100 :: s101 :: s102 :: s103 :: s104 :: s105 :: s106 :: s107 :: s108 :: s109 :: s110 :: s111 :: s112 :: s113 :: s114 :: s115 :: s116 :: s117 :: s118 :: s119 :: s120 :: s121 :: s122 :: s123 :: s124 :: s125 :: s126 :: s127 :: s128 :: s129 :: s130 :: s131 :: s132 :: s133 :: s134 :: s135 :: s136 :: s137 :: s138 :: s139 :: s140 :: s141 :: s142 :: s143 :: s144 :: s145 :: s146 :: s147 :: s148 :: s149 :: s150 :: s151 :: s152 :: s153 :: s154 :: s155 :: s156 :: s157 :: s158 :: s159 :: s160 :: s161 :: s162 :: s163 :: s164 :: s165 :: s166 :: s167 :: s168 :: s169 :: s170 :: s171 :: s172 :: s173 :: s174 :: s175 :: s176 :: s177 :: s178 :: s179 :: s180 :: s181 :: s182 :: s183 :: s184 :: s185 :: s186 :: s187 :: s188 :: s189 :: s190 :: s191 :: s192 :: s193 :: s194 :: s195 :: s196 :: s197 :: s198 :: s199 :: s200 :: s201 :: s202 :: s203 :: s204 :: s205 :: s206 :: s207 :: s208 :: s209 :: s210 :: s211 :: s212 :: s213 :: s214 :: s215 :: s216 :: s217 :: s218 :: s219 :: s220 :: s221 :: s222 :: s223 :: s224 :: s225 :: s226 :: s227 :: s228 :: s229 :: s230 :: s231 :: s232 :: s233 :: s234 :: s235 :: s236 :: s237 :: s238 :: s239 :: s240 :: s241 :: s242 :: s243 :: s244 :: s245 :: s246 :: s247 :: s248 :: s249 :: s250 :: s251 :: s252 :: s253 :: s254 :: s255 :: s256 :: s257 :: s258 :: s259 :: s260 :: s261 :: s262 :: s263 :: u264 :: u265 :: u266 :: u267 :: u268 :: u269 :: u270 :: u271 :: u272 :: u273 :: u274 :: u275 :: u276 :: u277 :: u278 :: u279 :: u280 :: u281 :: u282 :: u283 :: u284 :: u285 :: u286 :: u287 :: u288 :: u289 :: u290 :: u291 :: u292 :: u293 :: u294 :: u295 :: u296 :: u297 :: []), []⟩ wb) :
    Code.wp Tryz.prog (Code.loop body22) Q0 ⟨List.toArray (s0 :: s1 :: s2 :: s3 :: s4 :: .slice (some ⟨gk + 1, 0, none⟩) 8 8 :: s6 :: s7 :: s8 :: s9 :: s10 :: s11 :: s12 :: s13 :: s14 :: s15 :: s16 :: s17 :: s18 :: s19 :: s20 :: .pointer (some ⟨gx, 0, none⟩) :: .int .i64 0 :: s23 :: s24 :: s25 :: s26 :: s27 :: s28 :: s29 :: s30 :: s31 :: s32 :: s33 :: s34 :: s35 :: s36 :: s37 :: s38 :: s39 :: s40 :: s41 :: s42 :: s43 :: s44 :: s45 :: s46 :: s47 :: s48 :: s49 :: s50 :: s51 :: s52 :: s53 :: s54 :: s55 :: s56 :: s57 :: s58 :: s59 :: s60 :: s61 :: s62 :: s63 :: s64 :: s65 :: s66 :: s67 :: s68 :: s69 :: s70 :: s71 :: s72 :: s73 :: s74 :: s75 :: s76 :: s77 :: s78 :: s79 :: s80 :: s81 :: s82 :: s83 :: s84 :: s85 :: s86 :: s87 :: s88 :: s89 :: s90 :: s91 :: s92 :: s93 :: s94 :: s95 :: s96 :: s97 :: s98 :: s99 :: s100 :: s101 :: s102 :: s103 :: s104 :: s105 :: s106 :: s107 :: s108 :: s109 :: s110 :: s111 :: s112 :: s113 :: s114 :: s115 :: s116 :: s117 :: s118 :: s119 :: s120 :: s121 :: s122 :: s123 :: s124 :: s125 :: s126 :: s127 :: s128 :: s129 :: s130 :: s131 :: s132 :: s133 :: s134 :: s135 :: s136 :: s137 :: s138 :: s139 :: s140 :: s141 :: s142 :: s143 :: s144 :: s145 :: s146 :: s147 :: s148 :: s149 :: s150 :: s151 :: s152 :: s153 :: s154 :: s155 :: s156 :: s157 :: s158 :: s159 :: s160 :: s161 :: s162 :: s163 :: s164 :: s165 :: s166 :: s167 :: s168 :: s169 :: s170 :: s171 :: s172 :: s173 :: s174 :: s175 :: s176 :: s177 :: s178 :: s179 :: s180 :: s181 :: s182 :: s183 :: s184 :: s185 :: s186 :: s187 :: s188 :: s189 :: s190 :: s191 :: s192 :: s193 :: s194 :: s195 :: s196 :: s197 :: s198 :: s199 :: s200 :: s201 :: s202 :: s203 :: s204 :: s205 :: s206 :: s207 :: s208 :: s209 :: s210 :: s211 :: s212 :: s213 :: s214 :: s215 :: s216 :: s217 :: s218 :: s219 :: s220 :: s221 :: s222 :: s223 :: s224 :: s225 :: s226 :: s227 :: s228 :: s229 :: s230 :: s231 :: s232 :: s233 :: s234 :: s235 :: s236 :: s237 :: s238 :: s239 :: s240 :: s241 :: s242 :: s243 :: s244 :: s245 :: s246 :: s247 :: s248 :: s249 :: s250 :: s251 :: s252 :: s253 :: s254 :: s255 :: s256 :: s257 :: s258 :: s259 :: s260 :: s261 :: s262 :: s263 :: s264 :: s265 :: s266 :: s267 :: s268 :: s269 :: s270 :: s271 :: s272 :: s273 :: s274 :: s275 :: s276 :: s277 :: s278 :: s279 :: s280 :: s281 :: s282 :: s283 :: s284 :: s285 :: s286 :: s287 :: s288 :: s289 :: s290 :: s291 :: s292 :: s293 :: s294 :: s295 :: s296 :: s297 :: []), []⟩ w1 := by
  have HX := Lib.hid hexit
  clear hexit
  conv => arg 2; arg 1; whnf
  go_loopw [22] (fun i wb => ∃ k : Nat, k ≤ 32 ∧ i = .int .i64 k ∧ Row wb gx 174 (brow S k) ∧ Row wb (gk + 1) 144 (s8l S) ∧ Row wb w.heap.size 174 z32 ∧ Below w.heap.size w wb) (fun i _ => 32 - (intOf i).toNat)
  case atStart => exact ⟨0, Nat.zero_le _, rfl, by rw [brow_zero]; exact q1, qh, q0, qb⟩
  case round =>
    obtain ⟨k, hk, rfl, h1, h2, h3, h4⟩ := hrel
    clear q0 qh qb q1
    by_cases hlt : k < 32
    · obtain ⟨a, r, hka, ha, hr⟩ : ∃ a r, k = 4 * a + r ∧ a < 8 ∧ r < 4 := ⟨k / 4, k % 4, by omega, by omega, by omega⟩
      have hdiv : (k : Int) / 4 = (a : Int) := by omega
      have haI : (a : Int) < 8 := by omega
      have hch : wr.cell? ⟨gk + 1, a, none⟩ = some (.int .u32 ((at8 S a).toNat : Int)) := by rw [h2.cell]; exact at8_get _ ha
      obtain ⟨v0, hc0⟩ : ∃ v, wr.cell? ⟨gx, k, none⟩ = some v := by
        rw [h1.cell]; exact ⟨_, List.getElem?_eq_getElem (by rw [brow_length S hk]; exact hlt)⟩
      have hf0 := h1.frozen k
      rcases (by omega : r = 0 ∨ r = 1 ∨ r = 2 ∨ r = 3) with rfl | rfl | rfl | rfl
      · have hmod : (k : Int) % 4 = 0 := by omega
        have hbyte := byteI (at8 S a) 16777216
        have hx := bytes8_get S a 0 ha (by omega)
        obtain ⟨c, hc⟩ : ∃ c, UInt8.ofNat ((at8 S a).toNat / 16777216 % 256) = c := ⟨_, rfl⟩
        have hx2 : (bytes8 S)[k]? = some c := by rw [← hc, ← hx, hka]
        have hs1 := h1.set k (.int .u8 (c.toNat : Int))
        rw [brow_set S hlt c hx2] at hs1
        have hs2 := h2.far (p := ⟨gx, k, none⟩) (by show gk + 1 ≠ gx; omega) (.int .u8 (c.toNat : Int))
        have hs3 := h3.far (p := ⟨gx, k, none⟩) (by show w.heap.size ≠ gx; omega) (.int .u8 (c.toNat : Int))
        have hs4 := h4.setCell (p := ⟨gx, k, none⟩) (by show w.heap.size ≤ gx; omega) (.int .u8 (c.toNat : Int))
        rw [hc] at hbyte
        obtain ⟨xa, hxa⟩ : ∃ x, at8 S a = x := ⟨_, rfl⟩
        rw [hxa] at hbyte hch
        simp only [Int.cast_ofNat_Int] at hbyte
        have H := Lib.hid (And.intro hs1 (And.intro hs2 (And.intro hs3 hs4)))
        clear hs1 hs2 hs3 hs4 h1 h2 h3 h4 hx hx2 hc hxa hka
        go_wp2
        go_roundw
        case rel => exact ⟨k + 1, by omega, by go_num, H.out.1, H.out.2.1, H.out.2.2.1, H.out.2.2.2⟩
        case measure => simp [intOf]; omega
      · have hmod : (k : Int) % 4 = 1 := by omega
        have hbyte := byteI (at8 S a) 65536
        have hx := bytes8_get S a 1 ha (by omega)
        obtain ⟨c, hc⟩ : ∃ c, UInt8.ofNat ((at8 S a).toNat / 65536 % 256) = c := ⟨_, rfl⟩
        have hx2 : (bytes8 S)[k]? = some c := by rw [← hc, ← hx, hka]
        have hs1 := h1.set k (.int .u8 (c.toNat : Int))
        rw [brow_set S hlt c hx2] at hs1
        have hs2 := h2.far (p := ⟨gx, k, none⟩) (by show gk + 1 ≠ gx; omega) (.int .u8 (c.toNat : Int))
        have hs3 := h3.far (p := ⟨gx, k, none⟩) (by show w.heap.size ≠ gx; omega) (.int .u8 (c.toNat : Int))
        have hs4 := h4.setCell (p := ⟨gx, k, none⟩) (by show w.heap.size ≤ gx; omega) (.int .u8 (c.toNat : Int))
        rw [hc] at hbyte
        obtain ⟨xa, hxa⟩ : ∃ x, at8 S a = x := ⟨_, rfl⟩
        rw [hxa] at hbyte hch
        simp only [Int.cast_ofNat_Int] at hbyte
        have H := Lib.hid (And.intro hs1 (And.intro hs2 (And.intro hs3 hs4)))
        clear hs1 hs2 hs3 hs4 h1 h2 h3 h4 hx hx2 hc hxa hka
        go_wp2
        go_roundw
        case rel => exact ⟨k + 1, by omega, by go_num, H.out.1, H.out.2.1, H.out.2.2.1, H.out.2.2.2⟩
        case measure => simp [intOf]; omega
      · have hmod : (k : Int) % 4 = 2 := by omega
        have hbyte := byteI (at8 S a) 256
        have hx := bytes8_get S a 2 ha (by omega)
        obtain ⟨c, hc⟩ : ∃ c, UInt8.ofNat ((at8 S a).toNat / 256 % 256) = c := ⟨_, rfl⟩
        have hx2 : (bytes8 S)[k]? = some c := by rw [← hc, ← hx, hka]
        have hs1 := h1.set k (.int .u8 (c.toNat : Int))
        rw [brow_set S hlt c hx2] at hs1
        have hs2 := h2.far (p := ⟨gx, k, none⟩) (by show gk + 1 ≠ gx; omega) (.int .u8 (c.toNat : Int))
        have hs3 := h3.far (p := ⟨gx, k, none⟩) (by show w.heap.size ≠ gx; omega) (.int .u8 (c.toNat : Int))
        have hs4 := h4.setCell (p := ⟨gx, k, none⟩) (by show w.heap.size ≤ gx; omega) (.int .u8 (c.toNat : Int))
        rw [hc] at hbyte
        obtain ⟨xa, hxa⟩ : ∃ x, at8 S a = x := ⟨_, rfl⟩
        rw [hxa] at hbyte hch
        simp only [Int.cast_ofNat_Int] at hbyte
        have H := Lib.hid (And.intro hs1 (And.intro hs2 (And.intro hs3 hs4)))
        clear hs1 hs2 hs3 hs4 h1 h2 h3 h4 hx hx2 hc hxa hka
        go_wp2
        go_roundw
        case rel => exact ⟨k + 1, by omega, by go_num, H.out.1, H.out.2.1, H.out.2.2.1, H.out.2.2.2⟩
        case measure => simp [intOf]; omega
      · have hmod : (k : Int) % 4 = 3 := by omega
        have hbyte := byteI (at8 S a) 1
        have hx := bytes8_get S a 3 ha (by omega)
        obtain ⟨c, hc⟩ : ∃ c, UInt8.ofNat ((at8 S a).toNat / 1 % 256) = c := ⟨_, rfl⟩
        have hx2 : (bytes8 S)[k]? = some c := by rw [← hc, ← hx, hka]
        have hs1 := h1.set k (.int .u8 (c.toNat : Int))
        rw [brow_set S hlt c hx2] at hs1
        have hs2 := h2.far (p := ⟨gx, k, none⟩) (by show gk + 1 ≠ gx; omega) (.int .u8 (c.toNat : Int))
        have hs3 := h3.far (p := ⟨gx, k, none⟩) (by show w.heap.size ≠ gx; omega) (.int .u8 (c.toNat : Int))
        have hs4 := h4.setCell (p := ⟨gx, k, none⟩) (by show w.heap.size ≤ gx; omega) (.int .u8 (c.toNat : Int))
        rw [hc] at hbyte
        obtain ⟨xa, hxa⟩ : ∃ x, at8 S a = x := ⟨_, rfl⟩
        rw [hxa] at hbyte hch
        replace hbyte : (xa.toNat : Int) % 256 = (c.toNat : Int) := by have h := hbyte; omega
        have H := Lib.hid (And.intro hs1 (And.intro hs2 (And.intro hs3 hs4)))
        clear hs1 hs2 hs3 hs4 h1 h2 h3 h4 hx hx2 hc hxa hka
        go_wp2
        go_roundw
        case rel => exact ⟨k + 1, by omega, by go_num, H.out.1, H.out.2.1, H.out.2.2.1, H.out.2.2.2⟩
        case measure => simp [intOf]; omega
    · have hk2 : k = 32 := by omega
      rw [hk2] at h1
      have hge : 32 ≤ k := by omega
      have HV := Lib.hid (And.intro h1 (And.intro h3 h4))
      clear hk2 hlt hk h1 h2 h3 h4
      go_wp2
      exact HX.out _ _ _ _ _ _ _ _ _ _ _ _ _ _ _ _ _ _ _ _ _ _ _ _ _ _ _ _ _ _ _ _ _ _ _ _ HV.out.1 HV.out.2.1 HV.out.2.2
end Go.Proofs.YtiaaeniopjpfpaaGreatDoor
