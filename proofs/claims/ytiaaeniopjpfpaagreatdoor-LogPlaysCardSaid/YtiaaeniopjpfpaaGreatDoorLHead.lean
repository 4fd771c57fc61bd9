/- What stands ahead of a text in its frame. -/
import Derived.Test.YtiaaeniopjpfpaaGreatDoorLPlain
namespace Go.Proofs.YtiaaeniopjpfpaaGreatDoor
open Go.RowKit
set_option linter.unusedVariables false

theorem Need_any (n : Nat) (hn : n ≤ 1000000000000) (w : World) :
    Calls Tryz.prog 28 #[.int .i64 n] w fun e w' => e = .returned (.int .i64 ((n : Int) + 28)) ∧ w = w' := by
  have h1 : ¬ (n : Int) < 0 := by omega
  have hmx : max (n : Int) 0 = n := by omega
  have hmn : min (n : Int) 9223372036854775779 = n := by omega
  have hnI : (n : Int) ≤ 1000000000000 := by omega
  go_enter Tryz.func28, Tryz.ntmps28
  go_wp2
  all_goals
    go_ret
    exact ⟨rfl, rfl⟩

theorem two_cells (W : World) (S T : ByteArray) (j : Nat) (x : ByteArray) (hx : [S, T][j]? = some x) : (W.alloc (.cells #[.string S, .string T] 9)).cell? ⟨W.heap.size, j, none⟩ = some (.string x) := by
  have h := (Row.new W 9 [.string S, .string T]).cell j
  rw [h]
  match j, hx with
  | 0, hx => cases hx; rfl
  | 1, hx => cases hx; rfl
  | j + 2, hx => cases hx
theorem add_tx {P : Program} (a b : List UInt8) (h : a.length + b.length ≤ 9000000000000) (W : World) : (Op.stringOp .add (tx a) (tx b)).run P W = .ok (.string (tx (a ++ b))) W := by
  rw [← tx_append]
  exact run_string_add_sum W (tx a) (tx b) (by rw [tx_size, tx_size]; omega)

set_option maxRecDepth 4000 in
set_option maxHeartbeats 1000000 in
theorem sealed_any (a b : List UInt8) (ha : a.length ≤ 1000000000000) (hb : b.length ≤ 1000000000000) (w : World) (hG : G w) :
    Calls Tryz.prog 92 #[.string (tx a), .string (tx b)] w fun e w' => e = .returned (.string (tx (sealL a b))) ∧ Below w.heap.size w w' := by
  obtain ⟨L, hL⟩ : ∃ L, shaL (a ++ b) = L := ⟨_, rfl⟩
  have hLl : L.length = 32 := by rw [← hL, shaL_length]
  obtain ⟨M, hM⟩ : ∃ M, L.take 16 = M := ⟨_, rfl⟩
  have hMl : M.length = 16 := by rw [← hM, List.length_take, hLl]; rfl
  obtain ⟨c, hc⟩ : ∃ c, seal1 a b = c := ⟨_, rfl⟩
  have hcM : a ++ M = c := by rw [← hc, ← hM, ← hL]; rfl
  have hcl : c.length = a.length + 16 := by rw [← hc, seal1_length]
  obtain ⟨N, hN⟩ : ∃ N, crcL (c ++ b) = N := ⟨_, rfl⟩
  have hNb : N < 4294967296 := by rw [← hN]; unfold crcL; omega
  obtain ⟨K, hK⟩ : ∃ K, putL N 4 = K := ⟨_, rfl⟩
  have hKl : K.length = 4 := by rw [← hK, putL_length]
  have hfin : sealL a b = c ++ K := by unfold sealL; rw [hc, hN, hK]
  rw [hfin]
  have HT : Hid (∀ W : World, G W → Calls Tryz.prog 110 #[.slice (some ⟨W.heap.size, 0, none⟩) 2 2] (W.alloc (.cells #[.string (tx a), .string (tx b)] 9)) fun e w' => e = .returned (.string (tx L)) ∧ Below W.heap.size W w') := Lib.hid fun W hg => by
    have hb0 : Below W.heap.size W (W.alloc (.cells #[.string (tx a), .string (tx b)] 9)) := (Below.refl _ _).alloc (Nat.le_refl _) _
    rw [← hL]
    refine (Text_any W.heap.size 0 2 [tx a, tx b] _ (hg.below hb0) (fun j x hx => by rw [Nat.zero_add]; exact two_cells W _ _ j x hx) (by simp) (by simp) (by simp) (a ++ b) (by simp [Lib.join, List.intercalate, tx_list]) (by rw [List.length_append]; omega)).mono fun e w' h => ⟨h.1, hb0.trans (h.2.mono hb0.size)⟩
  have HC : Hid (∀ W : World, Calls Tryz.prog 109 #[.slice (some ⟨W.heap.size, 0, none⟩) 2 2] (W.alloc (.cells #[.string (tx c), .string (tx b)] 9)) fun e w' => e = .returned (.int .u32 (N : Nat)) ∧ Below W.heap.size W w') := Lib.hid fun W => by
    have hb0 : Below W.heap.size W (W.alloc (.cells #[.string (tx c), .string (tx b)] 9)) := (Below.refl _ _).alloc (Nat.le_refl _) _
    have hcat : cat [tx c, tx b] = c ++ b := by simp [cat, tx_list]
    rw [← hN, ← hcat]
    refine (CRC_any [tx c, tx b] W.heap.size 2 2 _ rfl (by omega) (by simp) (fun i hi => ?_) (fun i hi => ?_)).mono fun e w' h => ⟨h.1, hb0.trans (h.2.mono hb0.size)⟩
    · rcases (by omega : i = 0 ∨ i = 1) with rfl | rfl
      · show (tx c).size ≤ _; rw [tx_size]; omega
      · show (tx b).size ≤ _; rw [tx_size]; omega
    · refine two_cells W _ _ i _ ?_
      rcases (by omega : i = 0 ∨ i = 1) with rfl | rfl <;> rfl
  have HP : Hid (∀ W : World, Calls Tryz.prog 93 #[.int .u64 (N : Nat), .int .i64 4] W fun e w' => e = .returned (.string (tx K)) ∧ Below W.heap.size W w') := Lib.hid fun W => by
    have h := Put_any N 4 W (by omega)
    rw [show szOf 4 = 4 from rfl, hK] at h
    exact h
  have hsl : (tx L).extract 0 16 = tx M := by
    apply ByteArray.ext
    rw [← hM]
    simp [tx]
  have hsz : (tx L).size = 32 := by rw [tx_size, hLl]
  have h1 : ∀ W, (Op.stringOp .add (tx a) (tx M)).run Tryz.prog W = .ok (.string (tx c)) W := fun W => by rw [← hcM]; exact add_tx a M (by omega) W
  have h2 : ∀ W, (Op.stringOp .add (tx c) (tx K)).run Tryz.prog W = .ok (.string (tx (c ++ K))) W := fun W => add_tx c K (by omega) W
  have HG := Lib.hid hG
  have hNI : (N : Int) < 4294967296 := by omega
  clear hL hLl hM hMl hc hcM hcl hN hNb hK hKl hfin hG ha hb
  go_enter Tryz.func92, Tryz.ntmps92
  go_wp2_with fail
  refine (HT.out _ HG.out).mono ?_
  rintro e w1 ⟨rfl, hb1⟩
  have HB1 := Lib.hid hb1
  clear hb1
  go_wp2_with fail
  refine (HC.out _).mono ?_
  rintro e w2 ⟨rfl, hb2⟩
  have HB2 := Lib.hid (HB1.out.trans (hb2.mono HB1.out.size))
  clear hb2
  go_wp2_with fail
  refine (HP.out _).mono ?_
  rintro e w3 ⟨rfl, hb3⟩
  have HB3 := Lib.hid (HB2.out.trans (hb3.mono HB2.out.size))
  clear hb3
  go_wp2_with fail
  go_ret
  exact ⟨rfl, HB3.out⟩

set_option maxRecDepth 4000 in
set_option maxHeartbeats 1000000 in
theorem head_any (n : Nat) (b : List UInt8) (hn : n ≤ 1000000000000) (hb : b.length ≤ 1000000000000) (w : World) (hG : G w) :
    Calls Tryz.prog 53 #[.int .i64 n, .string (tx b)] w fun e w' => e = .returned (.string (tx (headL n b))) ∧ Below w.heap.size w w' := by
  obtain ⟨k, hk⟩ : ∃ k, b.length = k := ⟨_, rfl⟩
  obtain ⟨A, hA⟩ : ∃ A, putL n 4 = A := ⟨_, rfl⟩
  obtain ⟨B, hB⟩ : ∃ B, putL k 4 = B := ⟨_, rfl⟩
  have hAl : A.length = 4 := by rw [← hA, putL_length]
  have hBl : B.length = 4 := by rw [← hB, putL_length]
  have hH : headL n b = sealL (A ++ B) b := by unfold headL; rw [hk, hA, hB]
  rw [hH]
  have HP : ∀ m : Nat, m ≤ 1000000000000 → ∀ W : World, Calls Tryz.prog 93 #[.int .u64 (m : Nat), .int .i64 4] W fun e w' => e = .returned (.string (tx (putL m 4))) ∧ Below W.heap.size W w' := fun m hm W => by
    have h := Put_any m 4 W (by omega)
    rw [show szOf 4 = 4 from rfl] at h
    exact h
  have H1 := HP n hn
  have H2 := HP k (by omega)
  rw [hA] at H1
  rw [hB] at H2
  have HPP := Lib.hid (And.intro H1 H2)
  have HS : Hid (∀ W, G W → Calls Tryz.prog 92 #[.string (tx (A ++ B)), .string (tx b)] W fun e w' => e = .returned (.string (tx (sealL (A ++ B) b))) ∧ Below W.heap.size W w') := Lib.hid fun W hg => sealed_any (A ++ B) b (by rw [List.length_append]; omega) hb W hg
  have h1 : ∀ W, (Op.stringOp .add (tx A) (tx B)).run Tryz.prog W = .ok (.string (tx (A ++ B))) W := fun W => add_tx A B (by omega) W
  have hsz : (tx b).size = k := by rw [tx_size, hk]
  obtain ⟨R, hR⟩ : ∃ R, sealL (A ++ B) b = R := ⟨_, rfl⟩
  rw [hR] at HS ⊢
  have hnI : (n : Int) ≤ 1000000000000 := by omega
  have hkI : (k : Int) ≤ 1000000000000 := by omega
  have HG := Lib.hid hG
  clear HP H1 H2 hk hA hB hAl hBl hH hR hG hb hn
  obtain ⟨T, hT⟩ : ∃ T, tx b = T := ⟨_, rfl⟩
  rw [hT] at hsz HS ⊢
  clear hT
  go_enter Tryz.func53, Tryz.ntmps53
  go_wp2_with fail
  refine (HPP.out.1 _).mono ?_
  rintro e w1 ⟨rfl, hb1⟩
  have HB1 := Lib.hid hb1
  clear hb1
  go_wp2_with fail
  refine (HPP.out.2 _).mono ?_
  rintro e w2 ⟨rfl, hb2⟩
  have HB2 := Lib.hid (HB1.out.trans (hb2.mono HB1.out.size))
  clear hb2
  go_wp2_with fail
  refine (HS.out _ (HG.out.below HB2.out)).mono ?_
  rintro e w3 ⟨rfl, hb3⟩
  have HB3 := Lib.hid (HB2.out.trans (hb3.mono HB2.out.size))
  clear hb3
  go_wp2_with fail
  go_ret
  exact ⟨rfl, HB3.out⟩
end Go.Proofs.YtiaaeniopjpfpaaGreatDoor
