/- The text of the frame that bytes begin with. -/
import Derived.Test.YtiaaeniopjpfpaaGreatDoorLHead
import Derived.Test.YtiaaeniopjpfpaaGreatDoorGet
import Derived.Test.YtiaaeniopjpfpaaGreatDoorQuiet2
import Derived.OrdersHeld
namespace Go.Proofs.YtiaaeniopjpfpaaGreatDoor
open Go.RowKit
set_option linter.unusedVariables false
set_option linter.unusedSimpArgs false

/-- Its text, if it is whole, and has that number. -/
def framedL (n : Nat) (s : List UInt8) : Option (List UInt8) :=
  if s.length < 28 then none else
  if (s.drop 28).length < getL ((s.drop 4).take 4) then none else
  if s.take 28 = headL n ((s.drop 28).take (getL ((s.drop 4).take 4))) then some ((s.drop 28).take (getL ((s.drop 4).take 4))) else none
def framedV (r : Option (List UInt8)) : Value := match r with
  | none => .tuple #[.string ⟨#[]⟩, .bool false]
  | some t => .tuple #[.string (tx t), .bool true]
theorem tx_cut (l : List UInt8) (a b : Nat) (ha : a ≤ b) (hb : b ≤ l.length) : (tx l).extract a b = tx ((l.take b).drop a) := by
  apply ByteArray.ext
  apply Array.ext'
  simp [tx, List.take_drop]
  rw [show a + (b - a) = b by omega]
theorem getE_four (l : List UInt8) (h : l.length = 4) : getE l = 0 := by
  unfold getE
  rw [if_neg (by omega), if_neg (by omega)]
theorem getN_four (l : List UInt8) (h : l.length = 4) : getN l = getL l := by
  unfold getN
  rw [if_neg (by omega), if_neg (by omega)]

set_option maxRecDepth 4000 in
set_option maxHeartbeats 2000000 in
theorem framed_any (n : Nat) (s : List UInt8) (hn : n ≤ 1000000000000) (hs : s.length ≤ 1000000000000) (w : World) (hG : G w) :
    Calls Tryz.prog 65 #[.int .i64 n, .string (tx s)] w fun e w' => e = .returned (framedV (framedL n s)) ∧ Below w.heap.size w w' := by
  obtain ⟨k, hk⟩ : ∃ k, s.length = k := ⟨_, rfl⟩
  by_cases h28 : k < 28
  · have hr : framedL n s = none := by unfold framedL; rw [if_pos (by omega)]
    have hsz : (tx s).size = k := by rw [tx_size, hk]
    have hkI : (k : Int) < 28 := by omega
    rw [hr]
    obtain ⟨S, hS⟩ : ∃ S, tx s = S := ⟨_, rfl⟩
    rw [hS] at hsz ⊢
    clear hr hS hG hk hs hn
    go_enter Tryz.func65, Tryz.ntmps65
    go_wp2_with fail
    go_ret2
    exact ⟨rfl, Below.refl _ _⟩
  · obtain ⟨z, hz⟩ : ∃ z, getL ((s.drop 4).take 4) = z := ⟨_, rfl⟩
    obtain ⟨F, hF⟩ : ∃ F, (s.drop 4).take 4 = F := ⟨_, rfl⟩
    have hFl : F.length = 4 := by rw [← hF, List.length_take, List.length_drop]; omega
    rw [hF] at hz
    obtain ⟨R, hR⟩ : ∃ R, s.drop 28 = R := ⟨_, rfl⟩
    have hRl : R.length = k - 28 := by rw [← hR, List.length_drop, hk]
    obtain ⟨H, hH⟩ : ∃ H, s.take 28 = H := ⟨_, rfl⟩
    obtain ⟨r, hr⟩ : ∃ r, k - 28 = r := ⟨_, rfl⟩
    have hz4 : z < 4294967296 := by
      rw [← hz]
      have h := getL_lt F
      rw [hFl] at h
      exact h
    have hGet : ∀ W : World, Calls Tryz.prog 99 #[.string (tx F)] W fun e w' => e = .returned (.tuple #[.int .u64 (z : Nat), .int .i64 0]) ∧ W = w' := fun W => by
      have h := Get_any (tx F) W (by rw [tx_size]; omega)
      rw [tx_list, getN_four F hFl, getE_four F hFl, hz] at h
      exact h
    have hsz : (tx s).size = k := by rw [tx_size, hk]
    have hc1 : (tx s).extract 4 8 = tx F := by
      rw [tx_cut s 4 8 (by omega) (by omega), ← hF]
      congr 1
      rw [List.drop_take]
    have hc2 : (tx s).extract 28 k = tx R := by
      rw [tx_cut s 28 k (by omega) (by omega), ← hR, List.take_of_length_le (by omega)]
    have hc3 : (tx s).extract 0 28 = tx H := by
      rw [tx_cut s 0 28 (by omega) (by omega), ← hH, List.drop_zero]
    have hRsz : (tx R).size = r := by rw [tx_size, hRl, hr]
    have hGH := Lib.hid hGet
    have hkI : (28 : Int) ≤ (k : Int) := by omega
    have hk28 : ¬ (k : Int) < 28 := by omega
    have hrI : (r : Int) ≤ 1000000000000 := by omega
    by_cases hlt : r < z
    · have hres : framedL n s = none := by unfold framedL; rw [if_neg (by omega), hF, hz, hR, if_pos (by omega)]
      rw [hres]
      have hltI : (r : Int) < (z : Int) := by omega
      obtain ⟨S, hS⟩ : ∃ S, tx s = S := ⟨_, rfl⟩
      rw [hS] at hsz hc1 hc2 hc3 ⊢
      clear hres hS hG hk hs hn hz hF hFl hR hRl hH hr hz4 hGet
      go_enter Tryz.func65, Tryz.ntmps65
      go_wp2_with fail
      refine (hGH.out _).mono ?_
      rintro e w1 ⟨rfl, rfl⟩
      go_wp2_with fail
      go_ret2
      exact ⟨rfl, Below.refl _ _⟩
    · obtain ⟨T, hT⟩ : ∃ T, R.take z = T := ⟨_, rfl⟩
      have hTl : T.length = z := by rw [← hT, List.length_take, hRl]; omega
      have hc4 : (tx R).extract 0 z = tx T := by rw [tx_cut R 0 z (by omega) (by omega), ← hT, List.drop_zero]
      have HH : Hid (∀ W, G W → Calls Tryz.prog 53 #[.int .i64 n, .string (tx T)] W fun e w' => e = .returned (.string (tx (headL n T))) ∧ Below W.heap.size W w') := Lib.hid fun W hg => head_any n T hn (by omega) W hg
      have hHl : H.length = 28 := by rw [← hH, List.length_take]; omega
      have hhl := headL_length n T
      obtain ⟨U, hU⟩ : ∃ U, headL n T = U := ⟨_, rfl⟩
      rw [hU] at HH hhl
      have hzI : (z : Int) ≤ (r : Int) := by omega
      have hHGW := Lib.hid hG
      by_cases heq : H = U
      · have hres : framedL n s = some T := by unfold framedL; rw [if_neg (by omega), hF, hz, hR, if_neg (by omega), hH, hT, hU, if_pos heq]
        rw [hres]
        subst heq
        obtain ⟨S, hS⟩ : ∃ S, tx s = S := ⟨_, rfl⟩
        rw [hS] at hsz hc1 hc2 hc3 ⊢
        obtain ⟨X, hX⟩ : ∃ X, tx H = X := ⟨_, rfl⟩
        rw [hX] at hc3 HH
        obtain ⟨Y, hY⟩ : ∃ Y, tx T = Y := ⟨_, rfl⟩
        have hfv : framedV (some T) = .tuple #[.string Y, .bool true] := by rw [← hY]; rfl
        rw [hY] at hc4 HH
        rw [hfv]
        clear hres hS hG hk hs hn hz hF hFl hR hRl hH hr hz4 hGet hU hT hTl hHl hhl hX hY hfv
        go_enter Tryz.func65, Tryz.ntmps65
        go_wp2_with fail
        refine (hGH.out _).mono ?_
        rintro e w1 ⟨rfl, rfl⟩
        go_wp2_with fail
        refine region_quiet_lit (fun W => Below w.heap.size w W) (by kernel_rfl) (by kernel_rfl) ⟨rfl, rfl, rfl, Nat.le_refl _, fun _ _ => rfl⟩ ?_
        refine wpQ_yields (.string S) (Or.inl ⟨by rfl, fun W' hS => ?yq1⟩) ?_
        case yq1 =>
          go_simp
        try simp only [Act.put, List.setIfInBounds_toArray, List.set_cons_zero, List.set_cons_succ]
        refine wpQ_yields (.string X) (Or.inl ⟨by rfl, fun W' hS => ?yq2⟩) ?_
        case yq2 =>
          go_simp
        try simp only [Act.put, List.setIfInBounds_toArray, List.set_cons_zero, List.set_cons_succ]
        refine wpQ_yields (.int .i64 n) (Or.inl ⟨by rfl, fun W' hS => ?yq3⟩) ?_
        case yq3 =>
          go_simp
        try simp only [Act.put, List.setIfInBounds_toArray, List.set_cons_zero, List.set_cons_succ]
        refine wpQ_yields (.string Y) (Or.inl ⟨by rfl, fun W' hS => ?yq4⟩) ?_
        case yq4 =>
          go_simp
        try simp only [Act.put, List.setIfInBounds_toArray, List.set_cons_zero, List.set_cons_succ]
        refine wpQ_call (.string X) 53 #[.int .i64 n, .string Y] (by rfl) (fun W' => ?yq5) (fun W' hS => ?yr5) ?_
        case yq5 =>
          go_simp
        case yr5 =>
          refine (HH.out W' (hHGW.out.below hS)).mono ?_
          rintro e w2 ⟨rfl, hb2⟩
          exact ⟨rfl, hS.trans (hb2.mono hS.size)⟩
        try simp only [Act.put, List.setIfInBounds_toArray, List.set_cons_zero, List.set_cons_succ]
        refine wpQ_yields (.bool false) (Or.inl ⟨by rfl, fun W' hS => ?yq6⟩) ?_
        case yq6 =>
          go_simp
        try simp only [Act.put, List.setIfInBounds_toArray, List.set_cons_zero, List.set_cons_succ]
        refine wpQuiet_nil ?_
        intro wf hwf
        go_wp2_with fail
        go_ret2
        exact ⟨rfl, hwf⟩
      · have hres : framedL n s = none := by unfold framedL; rw [if_neg (by omega), hF, hz, hR, if_neg (by omega), hH, hT, hU, if_neg heq]
        rw [hres]
        have hXV : tx H ≠ tx U := fun e => heq (by rw [← tx_list H, ← tx_list U, e])
        obtain ⟨S, hS⟩ : ∃ S, tx s = S := ⟨_, rfl⟩
        rw [hS] at hsz hc1 hc2 hc3 ⊢
        obtain ⟨X, hX⟩ : ∃ X, tx H = X := ⟨_, rfl⟩
        rw [hX] at hc3 hXV
        obtain ⟨V, hV⟩ : ∃ V, tx U = V := ⟨_, rfl⟩
        rw [hV] at HH hXV
        obtain ⟨Y, hY⟩ : ∃ Y, tx T = Y := ⟨_, rfl⟩
        rw [hY] at hc4 HH
        have hTL : ¬ X.toList = V.toList := fun e => hXV (by rw [ByteArray.toList_eq, ByteArray.toList_eq] at e; exact ByteArray.ext (Array.ext' e))
        clear hXV
        clear hres hS hG hk hs hn hz hF hFl hR hRl hH hr hz4 hGet hU hT hTl hHl hhl hX hY hV heq
        go_enter Tryz.func65, Tryz.ntmps65
        go_wp2_with fail
        refine (hGH.out _).mono ?_
        rintro e w1 ⟨rfl, rfl⟩
        go_wp2_with fail
        refine region_quiet_lit (fun W => Below w.heap.size w W) (by kernel_rfl) (by kernel_rfl) ⟨rfl, rfl, rfl, Nat.le_refl _, fun _ _ => rfl⟩ ?_
        refine wpQ_yields (.string S) (Or.inl ⟨by rfl, fun W' hS => ?yq1⟩) ?_
        case yq1 =>
          go_simp
        try simp only [Act.put, List.setIfInBounds_toArray, List.set_cons_zero, List.set_cons_succ]
        refine wpQ_yields (.string X) (Or.inl ⟨by rfl, fun W' hS => ?yq2⟩) ?_
        case yq2 =>
          go_simp
        try simp only [Act.put, List.setIfInBounds_toArray, List.set_cons_zero, List.set_cons_succ]
        refine wpQ_yields (.int .i64 n) (Or.inl ⟨by rfl, fun W' hS => ?yq3⟩) ?_
        case yq3 =>
          go_simp
        try simp only [Act.put, List.setIfInBounds_toArray, List.set_cons_zero, List.set_cons_succ]
        refine wpQ_yields (.string Y) (Or.inl ⟨by rfl, fun W' hS => ?yq4⟩) ?_
        case yq4 =>
          go_simp
        try simp only [Act.put, List.setIfInBounds_toArray, List.set_cons_zero, List.set_cons_succ]
        refine wpQ_call (.string V) 53 #[.int .i64 n, .string Y] (by rfl) (fun W' => ?yq5) (fun W' hS => ?yr5) ?_
        case yq5 =>
          go_simp
        case yr5 =>
          refine (HH.out W' (hHGW.out.below hS)).mono ?_
          rintro e w2 ⟨rfl, hb2⟩
          exact ⟨rfl, hS.trans (hb2.mono hS.size)⟩
        try simp only [Act.put, List.setIfInBounds_toArray, List.set_cons_zero, List.set_cons_succ]
        refine wpQ_yields (.bool true) (Or.inl ⟨by rfl, fun W' hS => ?yq6⟩) ?_
        case yq6 =>
          go_simp
        try simp only [Act.put, List.setIfInBounds_toArray, List.set_cons_zero, List.set_cons_succ]
        refine wpQuiet_nil ?_
        intro wf hwf
        go_wp2_with fail
        go_ret2
        exact ⟨rfl, hwf⟩
end Go.Proofs.YtiaaeniopjpfpaaGreatDoor
