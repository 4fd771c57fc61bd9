/- The statement of CatalogMessages: whatever comes in, the law answers true, and what came in reads as it did. (In one text with what it leans on: FLongP, FLong, CMsP, SlotsG, SlotsGIn, CByt, WArr, FRefCheck, CMsW, Laid8, LiftS, CatalogMessages.) -/
import Derived.Deep.DeepCutAuto
import Derived.OrdersIn
import Derived.RangeFuncCalls
import Derived.OwnWalkIn
import Derived.WalkKit
import Derived.Deep.MidRow
import Derived.Laws.Tables
import Derived.Lib.LaidTab
import Derived.SizedLaws
import Derived.Shelf.Vars
import Derived.LaidMore
import Derived.SevenTiedAt
import Derived.ProofKit
import Derived.OpenShut
import Derived.ShutString
import Derived.Lay
import Derived.Stop.Joined
import Derived.Test.YtheidjnapoipaaaGreatDoorCatalogMessagesAll1
import Derived.Test.YtheidjnapoipaaaGreatDoorFStrs
import Derived.Test.YtheidjnapoipaaaGreatDoorSlots
import Derived.Test.YtheidjnapoipaaaGreatDoorFCheck
import Derived.Test.YtheidjnapoipaaaGreatDoorRows
import Derived.Test.YtheidjnapoipaaaGreatDoorCards
import Derived.Test.YtheidjnapoipaaaGreatDoorTie
namespace Go.Proofs.YtheidjnapoipaaaGreatDoor
open Go.RowKit
set_option linter.unusedVariables false

/-- How long the longest is. -/
def maxLenL (l : List ByteArray) : Nat := l.foldl (fun m t => max m t.size) 0
theorem maxLenL_snoc (l : List ByteArray) (j : Nat) (h : j < l.length) : maxLenL (l.take (j + 1)) = max (maxLenL (l.take j)) (l.getD j ByteArray.empty).size := by
  unfold maxLenL
  rw [List.take_add_one, List.getElem?_eq_getElem h, Option.toList_some, List.foldl_append, List.getD_eq_getElem?_getD, List.getElem?_eq_getElem h]
  rfl
theorem le_foldl_max : ∀ (l : List ByteArray) (m : Nat), m ≤ l.foldl (fun m t => max m t.size) m
  | [], m => Nat.le_refl _
  | t :: l, m => Nat.le_trans (Nat.le_max_left _ _) (le_foldl_max l _)
theorem mem_foldl_max : ∀ (l : List ByteArray) (m : Nat) (t : ByteArray), t ∈ l → t.size ≤ l.foldl (fun m t => max m t.size) m
  | x :: l, m, t, h => by
    rcases List.mem_cons.1 h with rfl | h
    · exact Nat.le_trans (Nat.le_max_right _ _) (le_foldl_max l _)
    · exact mem_foldl_max l _ t h

def longN (k a b : Int) (l : List ByteArray) : Int :=
  if k = 2 then 4 * b else if k = 3 then 36 else if k = 4 then (maxLenL l : Nat) else if k = 5 then 19 else if k = 6 then 14 else if k = 7 then (a + 2) / 3 * 4 else b

theorem endOf_four (l : List UInt8) : ∀ k p, l.length - p ≤ k → endOf p (runesAt l p) ≤ p + 4 * (runesAt l p).length := by
  intro k
  induction k with
  | zero => intro p hk; rw [runesAt_end (by omega)]; show p ≤ _; omega
  | succ k ih =>
    intro p hk
    cases hd : dec (l.drop p) with
    | none => rw [runesAt_none hd]; show p ≤ _; omega
    | some x =>
      obtain ⟨c, n⟩ := x
      have hl := dec_len hd
      rw [List.length_drop] at hl
      obtain ⟨_, rfl, _⟩ := dec_some hd
      have he := encLen_bd c
      rw [runesAt_some hd, endOf_cons, List.length_cons]
      dsimp only
      have := ih (p + encLen c) (by omega)
      omega
theorem whole_four {s : ByteArray} (h : whole s = true) : s.size ≤ 4 * (runesB s).length := by
  have h1 : goodEnd s = s.size := of_decide_eq_true h
  have h2 := endOf_four s.data.toList _ 0 (Nat.le_refl _)
  unfold goodEnd at h1
  unfold runesB at h1 ⊢
  omega
theorem encS_len_f {L : ByteArray} {k : Nat} {fl : Bool} {s : ByteArray} (hk : k = 4 ∨ k = 6) : (encS L k fl s).size = szA k fl s.size := by
  have hl : s.data.toList.length = s.size := by simp
  show (encL L k fl s.data.toList).toArray.size = _
  rw [List.size_toArray]
  unfold encL
  rw [List.length_append, List.length_map, encN_length, List.length_replicate, hl]
  have h3 : mOf k s.size ≤ szA k fl s.size := by
    unfold mOf szA
    rcases hk with rfl | rfl <;> (split <;> omega)
  omega

theorem fits_le {k a b : Int} {l : List ByteArray} {s : ByteArray} (hc : FR.check ⟨k, a, b, l⟩ = 0) (h : fitK k a b l s = true) : (s.size : Int) ≤ longN k a b l := by
  have hk := FR.check_known hc
  have ho := FR.check_on hc
  dsimp only at hk ho
  obtain ⟨hk1, hk8⟩ := hk
  unfold fitK at h
  unfold longN
  rcases (by omega : k = 1 ∨ k = 2 ∨ k = 3 ∨ k = 4 ∨ k = 5 ∨ k = 6 ∨ k = 7 ∨ k = 8) with rfl | rfl | rfl | rfl | rfl | rfl | rfl | rfl
  · rw [if_pos rfl, Bool.and_eq_true] at h
    have h1 := h.1
    unfold winB at h1
    rw [Bool.and_eq_true, decide_eq_true_eq, decide_eq_true_eq] at h1
    exact h1.2
  · rw [if_neg (by decide), if_pos rfl, Bool.and_eq_true] at h
    have h1 := h.1
    have h2 := h.2
    unfold winB at h1
    unfold plainB at h2
    rw [Bool.and_eq_true, decide_eq_true_eq, decide_eq_true_eq] at h1
    rw [Bool.and_eq_true] at h2
    have := whole_four h2.2
    rw [if_pos rfl]
    omega
  · rw [if_neg (by decide), if_neg (by decide), if_pos rfl] at h
    unfold idB at h
    obtain ⟨u, hu, _⟩ := @of_decide_eq_true _ (_) h
    have h1 : s.data.toList.length = 36 := by rw [← hu.2, idL_length _ hu.1]
    have h2 : s.data.toList.length = s.size := by simp
    rw [if_neg (by decide), if_pos rfl]
    omega
  · rw [if_neg (by decide), if_neg (by decide), if_neg (by decide), if_pos rfl] at h
    have h1 := mem_foldl_max l 0 s ((Lib.containsS_iff _ _).1 h)
    rw [if_neg (by decide), if_neg (by decide), if_pos rfl]
    have h2 : s.size ≤ maxLenL l := h1
    omega
  · rw [if_neg (by decide), if_neg (by decide), if_neg (by decide), if_neg (by decide), if_pos rfl, decide_eq_true_eq] at h
    rw [if_neg (by decide), if_neg (by decide), if_neg (by decide), if_pos rfl]
    unfold cardN at h
    split at h
    · omega
    · split at h
      · omega
      · split at h
        · omega
        · omega
  · rw [if_neg (by decide), if_neg (by decide), if_neg (by decide), if_neg (by decide), if_neg (by decide), if_pos rfl, decide_eq_true_eq] at h
    rw [if_neg (by decide), if_neg (by decide), if_neg (by decide), if_neg (by decide), if_pos rfl]
    unfold dateN at h
    split at h
    · rename_i h1
      omega
    · omega
  · rw [if_neg (by decide), if_neg (by decide), if_neg (by decide), if_neg (by decide), if_neg (by decide), if_neg (by decide), if_pos rfl] at h
    rw [if_neg (by decide), if_neg (by decide), if_neg (by decide), if_neg (by decide), if_neg (by decide), if_pos rfl]
    unfold proofB at h
    rw [Bool.and_eq_true, decide_eq_true_eq, decide_eq_true_eq] at h
    have h1 := encS_len_f (L := stdS) (k := 6) (fl := true) (s := decS stdS 6 s) (.inr rfl)
    rw [h.1] at h1
    have h2 := h.2
    rw [h1]
    unfold szA
    split <;> rename_i h3 <;> simp at h3 <;> omega
  · rw [if_neg (by decide), if_neg (by decide), if_neg (by decide), if_neg (by decide), if_neg (by decide), if_neg (by decide), if_neg (by decide), Bool.and_eq_true, Bool.and_eq_true] at h
    have h1 := h.1.1
    unfold winB at h1
    rw [Bool.and_eq_true, decide_eq_true_eq, decide_eq_true_eq] at h1
    exact h1.2
end Go.Proofs.YtheidjnapoipaaaGreatDoor

namespace Go.Proofs.YtheidjnapoipaaaGreatDoor
open Go.RowKit
set_option linter.unusedVariables false

set_option maxRecDepth 20000 in
set_option maxHeartbeats 1000000 in
theorem longest_any (v : Value) (l : List ByteArray) (w : World) (hv : Strs w v l) (hl : l.length ≤ 1000000) (hm : ∀ j, j < l.length → (l.getD j ByteArray.empty).size ≤ 1000000) :
    Calls Tryz.prog 31 #[v] w fun e w' => e = .returned (.int .i64 (maxLenL l : Nat)) ∧ w = w' := by
  obtain ⟨a0, cap, g, off, rfl, hp, hc⟩ := hv
  have HS : Hid (∀ j, j < l.length → maxLenL (l.take (j + 1)) = max (maxLenL (l.take j)) (l.getD j ByteArray.empty).size) := Lib.hid fun j hj => maxLenL_snoc l j hj
  have HE : Hid (maxLenL (l.take l.length) = maxLenL l) := Lib.hid (by rw [List.take_length])
  obtain ⟨n, hn⟩ : ∃ n, l.length = n := ⟨_, rfl⟩
  rw [hn] at hp hc hl hm HS HE ⊢
  have HP := Lib.hid hp
  have HC := Lib.hid hc
  have HM := Lib.hid hm
  obtain ⟨R, HR⟩ : ∃ R, Hid (maxLenL l = R) := ⟨_, Lib.hid rfl⟩
  rw [HR.out] at HE ⊢
  clear hp hc hn hm
  go_enter Tryz.func31, Tryz.ntmps31
  go_wp2
  go_loop [3, 8] (fun m i => ∃ j M : Nat, j ≤ n ∧ i = .int .i64 j ∧ m = .int .i64 M ∧ M ≤ 1000000 ∧ Hid (maxLenL (l.take j) = M)) (fun _ i => n - (intOf i).toNat)
  case atStart => exact ⟨0, 0, Nat.zero_le _, rfl, rfl, Nat.zero_le _, Lib.hid rfl⟩
  case round =>
    obtain ⟨j, M, hj, rfl, rfl, hM, HJ⟩ := hrel
    by_cases hlt : j < n
    · obtain ⟨rfl, hg⟩ := HP.out (by omega)
      have hx := HC.out j hlt
      obtain ⟨x, HX⟩ : ∃ x, Hid (l.getD j ByteArray.empty = x) := ⟨_, Lib.hid rfl⟩
      have hxs := HM.out j hlt
      rw [HX.out] at hx hxs
      have HJ2 : Hid (maxLenL (l.take (j + 1)) = max M x.size) := Lib.hid (by rw [HS.out j hlt, HJ.out, HX.out])
      have hmb : max M x.size ≤ 1000000 := by omega
      obtain ⟨M2, HM2⟩ : ∃ M2, max M x.size = M2 := ⟨_, rfl⟩
      rw [HM2] at hmb HJ2
      have HM3 := Lib.hid HM2
      clear HM2
      go_wp2
      go_round
      case rel => exact ⟨j + 1, M2, by omega, by go_num, by rw [← HM3.out]; congr 1; omega, hmb, HJ2⟩
      case measure => simp [intOf]; omega
    · have HR1 : Hid (M = R) := Lib.hid (by rw [← HJ.out, ← HE.out, show j = n by omega])
      go_wp2
      go_ret
      exact ⟨ret_int_d (by rw [HR1.out]), rfl⟩

set_option maxRecDepth 20000 in
set_option maxHeartbeats 2000000 in
theorem Longest_1 (a b : Int) (l : List ByteArray) (hc : FR.check ⟨1, a, b, l⟩ = 0) (a0 : Option Addr) (n cap : Nat) (hn : l.length = n) (w : World) :
    Calls Tryz.prog 18 #[.agg #[.int .i64 1, .int .i64 a, .int .i64 b, .slice a0 n cap]] w fun e w' => e = .returned (.int .i64 (b)) ∧ Below w.heap.size w w' := by
  have HC : Hid (∀ W : World, Calls Tryz.prog 10 #[.agg #[.int .i64 1, .int .i64 a, .int .i64 b, .slice a0 n cap]] W fun e w' => e = .returned (.int .i64 0) ∧ Below W.heap.size W w') := Lib.hid fun W => by
    have h := Check_any ⟨1, a, b, l⟩ a0 n cap hn W
    rw [hc] at h
    exact h
  obtain ⟨hl0, hsp, hl4, hm4⟩ := FR.check_on hc
  dsimp only at hl0 hsp hl4 hm4
  clear hc
  clear hn hsp
  go_enter Tryz.func18, Tryz.ntmps18
  go_wp2_with fail
  refine (HC.out _).mono ?_
  rintro e w1 ⟨rfl, hb1⟩
  obtain ⟨hr1, hB1⟩ := rule_after hb1
  obtain ⟨c0, c1, c2, c3⟩ := rule_cells hr1
  have HR := Lib.hid hr1
  have HB := Lib.hid hB1
  have HB0 := Lib.hid hb1
  clear hb1 hr1 hB1
  go_wp2_with fail
  go_ret
  exact ⟨rfl, HB.out⟩

set_option maxRecDepth 20000 in
set_option maxHeartbeats 2000000 in
theorem Longest_8 (a b : Int) (l : List ByteArray) (hc : FR.check ⟨8, a, b, l⟩ = 0) (a0 : Option Addr) (n cap : Nat) (hn : l.length = n) (w : World) :
    Calls Tryz.prog 18 #[.agg #[.int .i64 8, .int .i64 a, .int .i64 b, .slice a0 n cap]] w fun e w' => e = .returned (.int .i64 (b)) ∧ Below w.heap.size w w' := by
  have HC : Hid (∀ W : World, Calls Tryz.prog 10 #[.agg #[.int .i64 8, .int .i64 a, .int .i64 b, .slice a0 n cap]] W fun e w' => e = .returned (.int .i64 0) ∧ Below W.heap.size W w') := Lib.hid fun W => by
    have h := Check_any ⟨8, a, b, l⟩ a0 n cap hn W
    rw [hc] at h
    exact h
  obtain ⟨hl0, hsp, hl4, hm4⟩ := FR.check_on hc
  dsimp only at hl0 hsp hl4 hm4
  clear hc
  clear hn hsp
  go_enter Tryz.func18, Tryz.ntmps18
  go_wp2_with fail
  refine (HC.out _).mono ?_
  rintro e w1 ⟨rfl, hb1⟩
  obtain ⟨hr1, hB1⟩ := rule_after hb1
  obtain ⟨c0, c1, c2, c3⟩ := rule_cells hr1
  have HR := Lib.hid hr1
  have HB := Lib.hid hB1
  have HB0 := Lib.hid hb1
  clear hb1 hr1 hB1
  go_wp2_with fail
  go_ret
  exact ⟨rfl, HB.out⟩

set_option maxRecDepth 20000 in
set_option maxHeartbeats 2000000 in
theorem Longest_2 (a b : Int) (l : List ByteArray) (hc : FR.check ⟨2, a, b, l⟩ = 0) (a0 : Option Addr) (n cap : Nat) (hn : l.length = n) (w : World) :
    Calls Tryz.prog 18 #[.agg #[.int .i64 2, .int .i64 a, .int .i64 b, .slice a0 n cap]] w fun e w' => e = .returned (.int .i64 (4 * b)) ∧ Below w.heap.size w w' := by
  have HC : Hid (∀ W : World, Calls Tryz.prog 10 #[.agg #[.int .i64 2, .int .i64 a, .int .i64 b, .slice a0 n cap]] W fun e w' => e = .returned (.int .i64 0) ∧ Below W.heap.size W w') := Lib.hid fun W => by
    have h := Check_any ⟨2, a, b, l⟩ a0 n cap hn W
    rw [hc] at h
    exact h
  obtain ⟨hl0, hsp, hl4, hm4⟩ := FR.check_on hc
  dsimp only at hl0 hsp hl4 hm4
  clear hc
  have hb0 : 0 ≤ b := by have := hsp rfl; omega
  clear hn hsp
  go_enter Tryz.func18, Tryz.ntmps18
  go_wp2_with fail
  refine (HC.out _).mono ?_
  rintro e w1 ⟨rfl, hb1⟩
  obtain ⟨hr1, hB1⟩ := rule_after hb1
  obtain ⟨c0, c1, c2, c3⟩ := rule_cells hr1
  have HR := Lib.hid hr1
  have HB := Lib.hid hB1
  have HB0 := Lib.hid hb1
  clear hb1 hr1 hB1
  go_wp2_with fail
  go_ret
  exact ⟨rfl, HB.out⟩

set_option maxRecDepth 20000 in
set_option maxHeartbeats 2000000 in
theorem Longest_5 (a b : Int) (l : List ByteArray) (hc : FR.check ⟨5, a, b, l⟩ = 0) (a0 : Option Addr) (n cap : Nat) (hn : l.length = n) (w : World) :
    Calls Tryz.prog 18 #[.agg #[.int .i64 5, .int .i64 a, .int .i64 b, .slice a0 n cap]] w fun e w' => e = .returned (.int .i64 (19)) ∧ Below w.heap.size w w' := by
  have HC : Hid (∀ W : World, Calls Tryz.prog 10 #[.agg #[.int .i64 5, .int .i64 a, .int .i64 b, .slice a0 n cap]] W fun e w' => e = .returned (.int .i64 0) ∧ Below W.heap.size W w') := Lib.hid fun W => by
    have h := Check_any ⟨5, a, b, l⟩ a0 n cap hn W
    rw [hc] at h
    exact h
  obtain ⟨hl0, hsp, hl4, hm4⟩ := FR.check_on hc
  dsimp only at hl0 hsp hl4 hm4
  clear hc
  clear hn hsp
  go_enter Tryz.func18, Tryz.ntmps18
  go_wp2_with fail
  refine (HC.out _).mono ?_
  rintro e w1 ⟨rfl, hb1⟩
  obtain ⟨hr1, hB1⟩ := rule_after hb1
  obtain ⟨c0, c1, c2, c3⟩ := rule_cells hr1
  have HR := Lib.hid hr1
  have HB := Lib.hid hB1
  have HB0 := Lib.hid hb1
  clear hb1 hr1 hB1
  go_wp2_with fail
  go_ret
  exact ⟨rfl, HB.out⟩

set_option maxRecDepth 20000 in
set_option maxHeartbeats 2000000 in
theorem Longest_6 (a b : Int) (l : List ByteArray) (hc : FR.check ⟨6, a, b, l⟩ = 0) (a0 : Option Addr) (n cap : Nat) (hn : l.length = n) (w : World) :
    Calls Tryz.prog 18 #[.agg #[.int .i64 6, .int .i64 a, .int .i64 b, .slice a0 n cap]] w fun e w' => e = .returned (.int .i64 (14)) ∧ Below w.heap.size w w' := by
  have HC : Hid (∀ W : World, Calls Tryz.prog 10 #[.agg #[.int .i64 6, .int .i64 a, .int .i64 b, .slice a0 n cap]] W fun e w' => e = .returned (.int .i64 0) ∧ Below W.heap.size W w') := Lib.hid fun W => by
    have h := Check_any ⟨6, a, b, l⟩ a0 n cap hn W
    rw [hc] at h
    exact h
  obtain ⟨hl0, hsp, hl4, hm4⟩ := FR.check_on hc
  dsimp only at hl0 hsp hl4 hm4
  clear hc
  clear hn hsp
  go_enter Tryz.func18, Tryz.ntmps18
  go_wp2_with fail
  refine (HC.out _).mono ?_
  rintro e w1 ⟨rfl, hb1⟩
  obtain ⟨hr1, hB1⟩ := rule_after hb1
  obtain ⟨c0, c1, c2, c3⟩ := rule_cells hr1
  have HR := Lib.hid hr1
  have HB := Lib.hid hB1
  have HB0 := Lib.hid hb1
  clear hb1 hr1 hB1
  go_wp2_with fail
  go_ret
  exact ⟨rfl, HB.out⟩

set_option maxRecDepth 20000 in
set_option maxHeartbeats 2000000 in
theorem Longest_3 (a b : Int) (l : List ByteArray) (hc : FR.check ⟨3, a, b, l⟩ = 0) (a0 : Option Addr) (n cap : Nat) (hn : l.length = n) (w : World) :
    Calls Tryz.prog 18 #[.agg #[.int .i64 3, .int .i64 a, .int .i64 b, .slice a0 n cap]] w fun e w' => e = .returned (.int .i64 (36)) ∧ Below w.heap.size w w' := by
  have HC : Hid (∀ W : World, Calls Tryz.prog 10 #[.agg #[.int .i64 3, .int .i64 a, .int .i64 b, .slice a0 n cap]] W fun e w' => e = .returned (.int .i64 0) ∧ Below W.heap.size W w') := Lib.hid fun W => by
    have h := Check_any ⟨3, a, b, l⟩ a0 n cap hn W
    rw [hc] at h
    exact h
  obtain ⟨hl0, hsp, hl4, hm4⟩ := FR.check_on hc
  dsimp only at hl0 hsp hl4 hm4
  clear hc
  have HT : Hid (∀ W : World, Calls Tryz.prog 30 #[.agg zA] W fun e w' => e = .returned (.string zeroId) ∧ Below W.heap.size W w') := Lib.hid fun W => by
    rw [← zero_id, zA_eq]
    exact idText_any _ rfl W
  have hzs : zeroId.size = 36 := rfl
  clear hn hsp
  go_enter Tryz.func18, Tryz.ntmps18
  go_wp2_with fail
  refine (HC.out _).mono ?_
  rintro e w1 ⟨rfl, hb1⟩
  obtain ⟨hr1, hB1⟩ := rule_after hb1
  obtain ⟨c0, c1, c2, c3⟩ := rule_cells hr1
  have HR := Lib.hid hr1
  have HB := Lib.hid hB1
  have HB0 := Lib.hid hb1
  clear hb1 hr1 hB1
  go_wp2_with fail
  refine (HT.out _).mono ?_
  rintro e w2 ⟨rfl, hb2⟩
  have B2 := Lib.hid (HB.out.trans (hb2.mono HB.out.size))
  clear hb2
  go_wp2_with fail
  go_ret
  exact ⟨rfl, B2.out⟩

set_option maxRecDepth 20000 in
set_option maxHeartbeats 2000000 in
theorem Longest_4 (a b : Int) (l : List ByteArray) (hc : FR.check ⟨4, a, b, l⟩ = 0) (a0 : Option Addr) (n cap : Nat) (hn : l.length = n) (w : World) (hv : Strs w (.slice a0 n cap) l) (hl : l.length ≤ 1000000) (hm : ∀ j, j < l.length → (l.getD j ByteArray.empty).size ≤ 1000000) :
    Calls Tryz.prog 18 #[.agg #[.int .i64 4, .int .i64 a, .int .i64 b, .slice a0 n cap]] w fun e w' => e = .returned (.int .i64 ((maxLenL l : Nat))) ∧ Below w.heap.size w w' := by
  have HC : Hid (∀ W : World, Calls Tryz.prog 10 #[.agg #[.int .i64 4, .int .i64 a, .int .i64 b, .slice a0 n cap]] W fun e w' => e = .returned (.int .i64 0) ∧ Below W.heap.size W w') := Lib.hid fun W => by
    have h := Check_any ⟨4, a, b, l⟩ a0 n cap hn W
    rw [hc] at h
    exact h
  obtain ⟨hl0, hsp, hl4, hm4⟩ := FR.check_on hc
  dsimp only at hl0 hsp hl4 hm4
  clear hc
  have HL : Hid (∀ W : World, Below w.heap.size w W → Calls Tryz.prog 31 #[.slice a0 n cap] W fun e w' => e = .returned (.int .i64 (maxLenL l : Nat)) ∧ W = w') := Lib.hid fun W hW => longest_any _ l W (hv.below (Nat.le_refl _) hW) hl hm
  obtain ⟨X, HX⟩ : ∃ X, Hid (maxLenL l = X) := ⟨_, Lib.hid rfl⟩
  rw [HX.out] at HL ⊢
  clear hn hsp hv hl hm
  go_enter Tryz.func18, Tryz.ntmps18
  go_wp2_with fail
  refine (HC.out _).mono ?_
  rintro e w1 ⟨rfl, hb1⟩
  obtain ⟨hr1, hB1⟩ := rule_after hb1
  obtain ⟨c0, c1, c2, c3⟩ := rule_cells hr1
  have HR := Lib.hid hr1
  have HB := Lib.hid hB1
  have HB0 := Lib.hid hb1
  clear hb1 hr1 hB1
  go_wp2_with fail
  refine (HL.out _ HB.out).mono ?_
  rintro e w2 ⟨rfl, rfl⟩
  go_wp2_with fail
  go_ret
  exact ⟨rfl, HB.out⟩

set_option maxRecDepth 20000 in
set_option maxHeartbeats 2000000 in
theorem Longest_7 (a b : Int) (l : List ByteArray) (hc : FR.check ⟨7, a, b, l⟩ = 0) (a0 : Option Addr) (n cap : Nat) (hn : l.length = n) (w : World) :
    Calls Tryz.prog 18 #[.agg #[.int .i64 7, .int .i64 a, .int .i64 b, .slice a0 n cap]] w fun e w' => e = .returned (.int .i64 ((a + 2) / 3 * 4)) ∧ Below w.heap.size w w' := by
  have HC : Hid (∀ W : World, Calls Tryz.prog 10 #[.agg #[.int .i64 7, .int .i64 a, .int .i64 b, .slice a0 n cap]] W fun e w' => e = .returned (.int .i64 0) ∧ Below W.heap.size W w') := Lib.hid fun W => by
    have h := Check_any ⟨7, a, b, l⟩ a0 n cap hn W
    rw [hc] at h
    exact h
  obtain ⟨hl0, hsp, hl4, hm4⟩ := FR.check_on hc
  dsimp only at hl0 hsp hl4 hm4
  clear hc
  obtain ⟨q, rfl⟩ : ∃ q : Nat, a = q := ⟨a.toNat, by omega⟩
  have HZ : Hid (∀ W : World, Calls Tryz.prog 33 #[alph stdS 6 true, .int .i64 (q : Nat)] W fun e w' => e = .returned (.int .i64 ((((q : Nat) : Int) + 2) / 3 * 4)) ∧ Below W.heap.size W w') := Lib.hid fun W => by
    have h := Size_any stdS 6 true q W (.inr rfl) (by omega)
    have e : ((szA 6 true q : Nat) : Int) = ((q : Nat) + 2) / 3 * 4 := by
      unfold szA
      split <;> rename_i h3 <;> simp at h3 <;> omega
    rw [e] at h
    exact h
  have HSt : Hid (∀ W : World, Calls Tryz.prog 32 #[] W fun e w' => e = .returned (alph stdS 6 true) ∧ Below W.heap.size W w') := Lib.hid fun W => Std_any W
  obtain ⟨Y, HY⟩ : ∃ Y : Int, Hid (((q : Nat) + 2) / 3 * 4 = Y) := ⟨_, Lib.hid rfl⟩
  rw [HY.out] at HZ ⊢
  clear hn hsp
  go_enter Tryz.func18, Tryz.ntmps18
  go_wp2_with fail
  refine (HC.out _).mono ?_
  rintro e w1 ⟨rfl, hb1⟩
  obtain ⟨hr1, hB1⟩ := rule_after hb1
  obtain ⟨c0, c1, c2, c3⟩ := rule_cells hr1
  have HR := Lib.hid hr1
  have HB := Lib.hid hB1
  have HB0 := Lib.hid hb1
  clear hb1 hr1 hB1
  go_wp2_with fail
  have hq : ∀ W, Below w1.heap.size w1 W → W.cell? ⟨w.heap.size, 1, none⟩ = some (.int .i64 (q : Nat)) := fun W h => (HR.out.below h HR.out.lt).cell 1
  clear c0 c1 c2 c3
  refine region_quiet_lit (Below w1.heap.size w1) (by kernel_rfl) (by kernel_rfl) (below_drewN_u (Below.refl _ _) 1) ?_
  repeat (go_big_quiet_step ((first
        | (intro hC; with_reducible rfl)
        | (intro hC; rw [hq _ hC]; exact ⟨rfl, rfl⟩)
        | (intro hC; go_at_call 32; refine (HSt.out _).mono ?_; rintro e w'' ⟨rfl, hb⟩; exact ⟨rfl, hC.trans (hb.mono hC.size)⟩)
        | (intro hC; go_at_call 33; refine (HZ.out _).mono ?_; rintro e w'' ⟨rfl, hb⟩; exact ⟨rfl, hC.trans (hb.mono hC.size)⟩))))
  refine wpQuiet_nil ?_
  intro w2 hw2
  go_wp2_with fail
  go_ret
  exact ⟨rfl, HB.out.trans (hw2.mono HB.out.size)⟩

/-- How long a text that fits is at most. -/
theorem Longest_any (r : FR) (hc : r.check = 0) (v : Value) (w : World) (hv : Strs w v r.texts) (hl : r.texts.length ≤ 1000000) (hm : ∀ j, j < r.texts.length → (r.texts.getD j ByteArray.empty).size ≤ 1000000) :
    Calls Tryz.prog 18 #[.agg #[.int .i64 r.kind, .int .i64 r.least, .int .i64 r.most, v]] w fun e w' => e = .returned (.int .i64 (longN r.kind r.least r.most r.texts)) ∧ Below w.heap.size w w' := by
  have hv2 := hv
  obtain ⟨a0, cap, g, off, rfl, _, _⟩ := hv
  have hk := FR.check_known hc
  obtain ⟨k, a, b, l⟩ := r
  dsimp only at hk hv2 hl hm ⊢
  obtain ⟨hk1, hk8⟩ := hk
  rcases (by omega : k = 1 ∨ k = 2 ∨ k = 3 ∨ k = 4 ∨ k = 5 ∨ k = 6 ∨ k = 7 ∨ k = 8) with rfl | rfl | rfl | rfl | rfl | rfl | rfl | rfl
  · exact Longest_1 a b l hc a0 _ cap rfl w
  · exact Longest_2 a b l hc a0 _ cap rfl w
  · exact Longest_3 a b l hc a0 _ cap rfl w
  · exact Longest_4 a b l hc a0 _ cap rfl w hv2 hl hm
  · exact Longest_5 a b l hc a0 _ cap rfl w
  · exact Longest_6 a b l hc a0 _ cap rfl w
  · exact Longest_7 a b l hc a0 _ cap rfl w
  · exact Longest_8 a b l hc a0 _ cap rfl w
end Go.Proofs.YtheidjnapoipaaaGreatDoor

namespace Go.Proofs.YtheidjnapoipaaaGreatDoor
open Go.RowKit
set_option linter.unusedVariables false
set_option linter.unusedSimpArgs false
attribute [local go_sem] Oper.semAt_some

/-- The fields that a message of that number may have. -/
def mL (m : Int) : List (FD × Bool) := if 1 ≤ m ∧ m ≤ 9 then ofL m.toNat fullF else []
theorem mL_in {m : Nat} (h1 : 1 ≤ m) (h9 : m ≤ 9) : mL (m : Int) = ofL m fullF := by
  unfold mL
  rw [if_pos (by omega)]
  rfl
theorem mL_out {m : Int} (h : ¬ (1 ≤ m ∧ m ≤ 9)) : mL m = [] := by
  unfold mL
  rw [if_neg h]
set_option maxRecDepth 100000 in
set_option maxHeartbeats 4000000 in
theorem Of_stopsO (n : Nat) (bm : Nat) (m : Int) (ho : m < 1 ∨ 9 < m) (w : World) (hM : Row w bm 3 [.int .i64 m]) :
    StopsR Fence.wide n Tryz.prog 29 #[.pointer (some ⟨bm, 0, none⟩)] EncO (fun o => o.isCells = false) (fun k => k = bm) [] w := by
  intro y T J Jx W hW hsz hJ hJx hLT hTJ hS hY h0
  have hM1 := hM.below hW hM.lt
  have hc0 := hM1.cell 0
  simp only [List.getElem?_cons_zero] at hc0
  have hb0 : Below W.heap.size W (W.alloc (.cells #[.func (.yield y) #[] #[]] 61)) := (Below.refl _ _).alloc (Nat.le_refl _) _
  have HJ0 := Lib.hid (hJ.grown hb0 h0)
  have hlt := hM1.lt
  clear hJ hJx hLT hTJ hS hY h0 hM1 hM hW hb0
  refine callsIn_of_wp_marks Tryz.func29 rfl trivial ?_ rfl
  simp only [Tryz.ntmps29, List.size_toArray, List.length_cons, List.length_nil, Nat.reduceAdd, Nat.reduceSub, Array.replicate_succ, Array.replicate_zero, List.push_toArray, List.append_toArray, List.nil_append, List.cons_append]
  rcases ho with ho | ho
  · gi_wp2_with fail
    exact ⟨_, results_none rfl _ _ _, ⟨_, rfl⟩, .inl HJ0.out⟩
  · have h1 : ¬ m < 1 := by omega
    gi_wp2_with fail
    exact ⟨_, results_none rfl _ _ _, ⟨_, rfl⟩, .inl HJ0.out⟩
theorem Of_stopsI (n : Nat) (hn : 4 ≤ n) (bm : Nat) (m : Int) (w : World) (hM : Row w bm 3 [.int .i64 m]) :
    StopsR Fence.wide n Tryz.prog 29 #[.pointer (some ⟨bm, 0, none⟩)] EncO (fun o => o.isCells = false) (fun k => k = bm) (mL m) w := by
  by_cases h : 1 ≤ m ∧ m ≤ 9
  · obtain ⟨k, rfl⟩ := Int.eq_ofNat_of_zero_le (show 0 ≤ m by omega)
    rw [mL_in (by omega) (by omega)]
    exact Of_stops n hn bm k (by omega) (by omega) w hM
  · rw [mL_out h]
    exact Of_stopsO n bm m (by omega) w hM
/-- How many bytes a field has at most. -/
def szF (f : FD) : Int := f.name.size + longN f.rule.kind f.rule.least f.rule.most f.rule.texts + 6
def sumF : List (FD × Bool) → Int
  | [] => 0
  | x :: l => szF x.1 + sumF l
theorem sumF_snoc (l : List (FD × Bool)) (x : FD × Bool) : sumF (l ++ [x]) = sumF l + szF x.1 := by
  induction l with
  | nil => simp [sumF]
  | cons y l ih => rw [List.cons_append, sumF, ih, sumF]; omega
def cntN (r : FD) (l : List (FD × Bool)) : Nat := (l.filter fun x => decide (x.1.name = r.name)).length
theorem cntN_snoc (r : FD) (l : List (FD × Bool)) (x : FD × Bool) : cntN r (l ++ [x]) = cntN r l + if x.1.name = r.name then 1 else 0 := by
  unfold cntN
  rw [List.filter_append, List.length_append]
  by_cases h : x.1.name = r.name <;> simp [h]
/-- The table's first j rows that the message may have. -/
def rowsM (m j : Nat) : List (FD × Bool) := ofL m (fullF.take j)
theorem rowsM_full (m : Nat) : rowsM m 32 = ofL m fullF := by
  unfold rowsM
  rw [List.take_of_length_le (by rw [fullF_length]; omega)]
theorem rowsM_succ (m j : Nat) (hj : j < 32) : rowsM m (j + 1) = if letF (tblF.getD j fd0) m = 45 then rowsM m j else rowsM m j ++ [(tblF.getD j fd0, letF (tblF.getD j fd0) m == 82)] := by
  unfold rowsM
  rw [← fullF_take j hj, ofL_snoc]
theorem ms_cnt : ∀ m, 1 ≤ m → m ≤ 9 → ∀ j, j < 32 → letF (tblF.getD j fd0) m ≠ 45 → cntN (tblF.getD j fd0) (ofL m fullF) = 1 := by
  have h : ∀ m, m < 9 → ∀ j, j < 32 → letF (tblF.getD j fd0) (m + 1) ≠ 45 → cntN (tblF.getD j fd0) (ofL (m + 1) fullF) = 1 := by decide +kernel
  intro m h1 h9 j hj hl
  have := h (m - 1) (by omega) j hj
  rw [show m - 1 + 1 = m by omega] at this
  exact this hl
/-- A field of the message of a row's name is that row's. -/
theorem ms_same : ∀ m, 1 ≤ m → m ≤ 9 → ∀ j, j < 32 → ∀ x ∈ ofL m fullF, x.1.name = (tblF.getD j fd0).name → ∃ i, i < 32 ∧ x.1 = tblF.getD i fd0 ∧ i = j ∧ x.2 = (letF (tblF.getD j fd0) m == 82) := by
  intro m h1 h9 j hj x hx hn
  unfold ofL at hx
  obtain ⟨y, hy, rfl⟩ := List.mem_map.1 hx
  have hy' := (List.mem_filter.1 hy).1
  unfold fullF at hy'
  obtain ⟨i, hi, rfl⟩ := List.mem_map.1 hy'
  have hi32 := List.mem_range.1 hi
  have huniq : ∀ i, i < 32 → ∀ j, j < 32 → (tblF.getD i fd0).name = (tblF.getD j fd0).name → i = j := by decide +kernel
  have hij : i = j := huniq i hi32 j hj hn
  subst hij
  exact ⟨i, hi32, rfl, rfl, rfl⟩
theorem ms_le : ∀ m, m ≤ 9 → 1 ≤ m → 0 ≤ sumF (ofL m fullF) ∧ sumF (ofL m fullF) ≤ 4096 := by decide +kernel
theorem ms_part : ∀ m, m ≤ 9 → 1 ≤ m → ∀ j, j ≤ 32 → 0 ≤ sumF (rowsM m j) ∧ sumF (rowsM m j) ≤ 4096 := by decide +kernel
theorem sz_le : ∀ j, j < 32 → 0 ≤ szF (tblF.getD j fd0) ∧ szF (tblF.getD j fd0) ≤ 4096 ∧ 0 ≤ longN (tblF.getD j fd0).rule.kind (tblF.getD j fd0).rule.least (tblF.getD j fd0).rule.most (tblF.getD j fd0).rule.texts ∧ longN (tblF.getD j fd0).rule.kind (tblF.getD j fd0).rule.least (tblF.getD j fd0).rule.most (tblF.getD j fd0).rule.texts ≤ 4096 ∧ (tblF.getD j fd0).name.size ≤ 100 := by decide +kernel
theorem txt_le : ∀ j, j < 32 → ∀ i, i < (tblF.getD j fd0).rule.texts.length → ((tblF.getD j fd0).rule.texts.getD i ByteArray.empty).size ≤ 1000000 := by decide +kernel
theorem chk_allM : ∀ k, k < 32 → (tblF.getD k fd0).rule.check = 0 ∧ (tblF.getD k fd0).rule.texts.length ≤ 1000 ∧ (tblF.getD k fd0).inn.size = 9 := by decide +kernel
theorem ms_take : ∀ m, m ≤ 9 → 1 ≤ m → ∀ k, k ≤ 32 → 0 ≤ sumF ((ofL m fullF).take k) ∧ sumF ((ofL m fullF).take k) ≤ 4096 := by decide +kernel
theorem ms_len : ∀ m, m ≤ 9 → 1 ≤ m → (ofL m fullF).length ≤ 32 := by decide +kernel
theorem mL_len (m : Int) : (mL m).length ≤ 32 := by
  by_cases h : 1 ≤ m ∧ m ≤ 9
  · obtain ⟨k, rfl⟩ := Int.eq_ofNat_of_zero_le (show 0 ≤ m by omega)
    rw [mL_in (by omega) (by omega)]
    exact ms_len k (by omega) (by omega)
  · rw [mL_out h]; simp
theorem mL_pre {m : Int} {pre : List (FD × Bool)} (h : pre <+: mL m) : 0 ≤ sumF pre ∧ sumF pre ≤ 4096 := by
  rw [List.prefix_iff_eq_take.1 h]
  have hl := h.length_le
  by_cases hm : 1 ≤ m ∧ m ≤ 9
  · obtain ⟨k, rfl⟩ := Int.eq_ofNat_of_zero_le (show 0 ≤ m by omega)
    have h2 := mL_len (k : Int)
    rw [mL_in (by omega) (by omega)] at hl h2 ⊢
    exact ms_take k (by omega) (by omega) _ (by omega)
  · rw [mL_out hm]; simp [sumF]
theorem mL_row {m : Int} {x : FD × Bool} (h : x ∈ mL m) : ∃ i, i < 32 ∧ x.1 = tblF.getD i fd0 := by
  unfold mL at h
  split at h
  · unfold ofL at h
    obtain ⟨y, hy, rfl⟩ := List.mem_map.1 h
    have hy' := (List.mem_filter.1 hy).1
    unfold fullF at hy'
    obtain ⟨i, hi, rfl⟩ := List.mem_map.1 hy'
    exact ⟨i, List.mem_range.1 hi, rfl⟩
  · cases h
end Go.Proofs.YtheidjnapoipaaaGreatDoor

namespace Go.Proofs.YtheidjnapoipaaaGreatDoor
open Go Go.RowKit
set_option linter.unusedVariables false

section
variable {P : Program} {ops : Array Oper} {Q : Exit → Act → World → Prop} {md : Region.Mode}

/-- One operation, wanted or passed over. -/
def StepG (P : Program) (ρ : Operand → Value) (vals : Nat → Value) (o : Oper) (R : Value → World → Prop) (C : World → Prop) (w : World) : Prop :=
  match o.guard with
  | none => StepOK P (execOp ρ o) R C w
  | some (g, b) => (vals g = .bool b → StepOK P (execOp ρ o) R C w) ∧ (vals g ≠ .bool b → R undef w)
/-- Is the region of that form, the first m operations being free? -/
def okG (md : Region.Mode) (ops : Array Oper) (m sz : Nat) : Bool :=
  decide (m ≤ ops.size) && (List.range ops.size).all fun i => match ops[i]? with
    | none => true
    | some o => (o.after.all fun e => !Region.binds md e || decide (e.on < i)) &&
      if i < m then (match o.guard with | none => true | some (g, _) => needsS md o g && decide (g < m)) && (match o.op with | .select .. => false | _ => true) &&
        (match o.dst with | some d => decide (d < sz) && slotOf ops d == some i | none => false) &&
        o.op.operands.all fun x => match x with
          | .tmp t => (match slotOf ops t with | some j => needsS md o j | none => true)
          | _ => true
      else (List.range i).all fun j => needsS md o j
theorem okG_get {m sz : Nat} (h : okG md ops m sz = true) (i : Nat) (o : Oper) (ho : ops[i]? = some o) :
    (∀ e ∈ o.after, Region.binds md e = true → e.on < i) ∧
    (i < m → (∀ g b, o.guard = some (g, b) → needsS md o g = true ∧ g < m) ∧ (∀ cs b, o.op ≠ .select cs b) ∧ (∃ d, o.dst = some d ∧ d < sz ∧ slotOf ops d = some i) ∧ (∀ t, .tmp t ∈ o.op.operands → ∀ j, slotOf ops t = some j → needsS md o j = true)) ∧
    (m ≤ i → ∀ j, j < i → needsS md o j = true) := by
  unfold okG at h
  rw [Bool.and_eq_true, List.all_eq_true] at h
  have h2 := h.2 i (List.mem_range.2 (Array.getElem?_eq_some_iff.1 ho).1)
  rw [ho] at h2
  dsimp only at h2
  rw [Bool.and_eq_true] at h2
  refine ⟨fun e he hb => ?_, fun hm => ?_, fun hm j hj => ?_⟩
  · have := (Array.all_eq_true_iff_forall_mem.1 h2.1) e he
    rw [hb] at this
    simpa using this
  · have h3 := h2.2
    rw [if_pos hm] at h3
    simp only [Bool.and_eq_true] at h3
    obtain ⟨⟨⟨hg, hs⟩, hd⟩, hop⟩ := h3
    refine ⟨(fun g b e => by rw [e] at hg; simpa using hg), (fun cs b e => by rw [e] at hs; cases hs), ?_, fun t ht j hj => ?_⟩
    · cases hdd : o.dst with
      | none => rw [hdd] at hd; cases hd
      | some d =>
        rw [hdd] at hd
        simp only [Bool.and_eq_true, decide_eq_true_eq, beq_iff_eq] at hd
        exact ⟨d, rfl, hd.1, hd.2⟩
    · have := (Array.all_eq_true_iff_forall_mem.1 hop) _ ht
      dsimp only at this
      rw [hj] at this
      exact this
  · have h3 := h2.2
    rw [if_neg (by omega)] at h3
    exact List.all_eq_true.1 h3 j (List.mem_range.2 hj)
theorem wpAny_tailG {m sz : Nat} (h : okG md ops m sz = true) : ∀ (fuel k : Nat) (listed : Array Bool) (a : Act) (w : World), m ≤ k → k ≤ ops.size → ops.size - k ≤ fuel → listed.size = ops.size →
    (∀ i, i < ops.size → listed.getD i false = decide (i < k)) → wpOps P ops Q (List.range' k (ops.size - k)) a w → wpAny P md ops Q fuel listed a w := by
  intro fuel
  induction fuel with
  | zero =>
    intro k listed a w hm hk hf hs hl hw
    have hke : k = ops.size := by omega
    subst hke
    rw [Nat.sub_self] at hw
    refine ⟨?_, hw⟩
    rw [List.eq_nil_iff_forall_not_mem]
    intro i hi
    obtain ⟨h0, o, ho, _⟩ := mem_ready.1 hi
    have hlt : i < ops.size := (Array.getElem?_eq_some_iff.1 ho).1
    have := hl i hlt
    rw [decide_eq_true hlt] at this
    simp [hs, hlt] at h0 this
    rw [h0] at this; cases this
  | succ fuel ih =>
    intro k listed a w hm hk hf hs hl hw
    have hfl : ∀ i, i < ops.size → listed.getD i true = decide (i < k) := fun i hi => by
      have := hl i hi
      simpa [hs, hi] using this
    refine ⟨fun hr => ?_, fun i hi => ?_⟩
    · rcases Nat.lt_or_ge k ops.size with hlt | hge
      · exfalso
        have : k ∈ Region.ready md ops listed := mem_ready.2 ⟨by rw [hfl k hlt]; simp, ops[k], Array.getElem?_eq_getElem hlt, fun e he hb => by
          have := (okG_get h k ops[k] (Array.getElem?_eq_getElem hlt)).1 e he hb
          rw [hl e.on (by omega)]; simpa using this⟩
        rw [hr] at this; cases this
      · have hke : k = ops.size := by omega
        subst hke
        rw [Nat.sub_self] at hw
        exact hw
    · obtain ⟨h0, o, ho, hall⟩ := mem_ready.1 hi
      have hlt : i < ops.size := (Array.getElem?_eq_some_iff.1 ho).1
      have hik : ¬ i < k := by
        have := hfl i hlt
        rw [h0] at this
        simpa using this.symm
      have hie : i = k := by
        rcases Nat.lt_or_ge k i with h1 | h1
        · exfalso
          obtain ⟨e, he, hb, hon⟩ := needsS_mem ((okG_get h i o ho).2.2 (by omega) k h1)
          have := hall e he hb
          rw [hon, hl k (by omega)] at this
          simp at this
        · omega
      subst hie
      rw [show ops.size - i = (ops.size - (i + 1)) + 1 by omega, List.range'_succ, wpOps_cons] at hw
      refine wpOp_mono (fun a' w' h' => ih (i + 1) _ a' w' (by omega) hlt (by omega) (by simp [hs]) (fun j hj => ?_) h') hw
      by_cases hji : i = j
      · subst hji
        simp [hs, hlt]
      · rw [getD_set_ne false hji, hl j hj]
        exact decide_eq_decide.2 ⟨fun _ => by omega, fun _ => by omega⟩

theorem wpAny_slotsG {m : Nat} (a0 : Act) (R : Nat → Value → World → Prop) (C : World → Prop) (h : okG md ops m a0.tmps.size = true)
    (hmono : ∀ i v W W', R i v W → Below W.heap.size W W' → R i v W')
    (hstep : ∀ i o, i < m → ops[i]? = some o → ∀ vals w, C w → (∀ j, needsS md o j = true → R j (vals j) w) → StepG P (evalS a0 ops vals) vals o (R i) C w)
    (hend : ∀ vals w, C w → (∀ i, i < m → R i (vals i) w) → wpOps P ops Q (List.range' m (ops.size - m)) (finalS a0 ops m vals) w) :
    ∀ (fuel : Nat) (listed : Array Bool) (vals : Nat → Value) (a : Act) (w : World), listed.size = ops.size → listed.toList.countP (! ·) ≤ fuel → (∀ i, m ≤ i → i < ops.size → listed.getD i false = false) →
      RepS a0 ops listed vals a → C w → (∀ i, i < m → listed.getD i false = true → R i (vals i) w) → wpAny P md ops Q fuel listed a w := by
  have hmn : m ≤ ops.size := by
    unfold okG at h
    rw [Bool.and_eq_true, decide_eq_true_iff] at h
    exact h.1
  have whole : ∀ (fuel : Nat) (listed : Array Bool) (vals : Nat → Value) (a : Act) (w : World), listed.size = ops.size → listed.toList.countP (! ·) ≤ fuel → (∀ i, m ≤ i → i < ops.size → listed.getD i false = false) →
      RepS a0 ops listed vals a → C w → (∀ i, i < m → listed.getD i false = true → R i (vals i) w) → (∀ i, i < m → listed.getD i false = true) → wpAny P md ops Q fuel listed a w := by
    intro fuel listed vals a w hs hc ht hr hC hR hall
    have hl : ∀ i, i < ops.size → listed.getD i false = decide (i < m) := fun i hi => by
      by_cases him : i < m
      · rw [hall i him, decide_eq_true him]
      · rw [ht i (by omega) hi, decide_eq_false him]
    refine wpAny_tailG h fuel m listed a w (Nat.le_refl _) hmn ?_ hs hl ?_
    · refine Nat.le_trans ?_ hc
      have e : listed.toList = List.replicate m true ++ List.replicate (ops.size - m) false := by
        apply List.ext_getElem
        · simp [hs]; omega
        · intro i h1 h2
          have hi : i < ops.size := by rw [← hs]; simpa using h1
          have := hl i hi
          simp only [Array.getD_eq_getD_getElem?, Array.getElem?_eq_getElem (by omega : i < listed.size), Option.getD_some] at this
          rw [Array.getElem_toList, this]
          by_cases him : i < m
          · rw [List.getElem_append_left (by simpa using him)]; simp [him]
          · rw [List.getElem_append_right (by simpa using him)]; simp [him]
      rw [e, List.countP_append]
      simp [List.countP_replicate]
    · have := hend vals w hC (fun i hi => hR i hi (hall i hi))
      rwa [← finalS_rep hr hl] at this
  intro fuel
  induction fuel with
  | zero =>
    intro listed vals a w hs hc ht hr hC hR
    refine whole 0 listed vals a w hs hc ht hr hC hR fun i hi => ?_
    have h0 : listed.toList.countP (! ·) = 0 := by omega
    rw [List.countP_eq_zero] at h0
    have hil : i < listed.size := by omega
    have := h0 listed[i] (by simp)
    simpa [hil] using this
  | succ fuel ih =>
    intro listed vals a w hs hc ht hr hC hR
    by_cases hall : ∀ i, i < m → listed.getD i false = true
    · exact whole (fuel + 1) listed vals a w hs hc ht hr hC hR hall
    · have hex : ∃ k, k < m ∧ listed.getD k false = false ∧ ∀ i, i < k → listed.getD i false = true := by
        have key : ∀ n, (∀ i, i < n → listed.getD i false = true) ∨ ∃ k, k < n ∧ listed.getD k false = false ∧ ∀ i, i < k → listed.getD i false = true := by
          intro n
          induction n with
          | zero => exact .inl fun i hi => absurd hi (Nat.not_lt_zero i)
          | succ n ihn =>
            rcases ihn with h1 | ⟨k, hk, h2⟩
            · cases hn : listed.getD n false with
              | true => exact .inl fun i hi => by rcases Nat.lt_succ_iff_lt_or_eq.1 hi with h3 | rfl; exact h1 i h3; exact hn
              | false => exact .inr ⟨n, Nat.lt_succ_self n, hn, h1⟩
            · exact .inr ⟨k, Nat.lt_succ_of_lt hk, h2⟩
        rcases key m with h1 | h1
        · exact absurd h1 hall
        · exact h1
      obtain ⟨k, hkm, hk0, hkl⟩ := hex
      have hgd : ∀ i, i < ops.size → listed.getD i true = listed.getD i false := fun i hi => by simp [hs, hi]
      refine ⟨fun hrd => ?_, fun i hi => ?_⟩
      · exfalso
        have hk : k < ops.size := by omega
        have : k ∈ Region.ready md ops listed := mem_ready.2 ⟨by rw [hgd k hk, hk0], ops[k], Array.getElem?_eq_getElem hk, fun e he hb => hkl e.on ((okG_get h k ops[k] (Array.getElem?_eq_getElem hk)).1 e he hb)⟩
        rw [hrd] at this; cases this
      · obtain ⟨h0, o, ho, hdep⟩ := mem_ready.1 hi
        have hlt : i < ops.size := (Array.getElem?_eq_some_iff.1 ho).1
        obtain ⟨hon, hfree, htail⟩ := okG_get h i o ho
        have him : i < m := by
          refine Decidable.byContradiction fun hn => ?_
          obtain ⟨e, he, hb, hk⟩ := needsS_mem (htail (by omega) k (by omega))
          have := hdep e he hb
          rw [hk, hk0] at this; cases this
        obtain ⟨hg, hsel, ⟨d, hd, hdlt, hsd⟩, hops⟩ := hfree him
        have hev : execOp a.eval o = execOp (evalS a0 ops vals) o := execOp_congr o hsel fun x hx => evalS_rep hr x fun t ht j hj => by
          subst ht
          obtain ⟨e, he, hb, hk⟩ := needsS_mem (hops t (by simpa using hx) j hj)
          rw [← hk]
          exact hdep e he hb
        have hst := hstep i o him ho vals w hC (fun j hj => by
          obtain ⟨e, he, hb, hk⟩ := needsS_mem hj
          have hlj := hdep e he hb
          rw [hk] at hlj
          refine hR j ?_ hlj
          have := hon e he hb
          omega)
        have next : ∀ v w', R i v w' → C w' → Below w.heap.size w w' → wpAny P md ops Q fuel (listed.setIfInBounds i true) (a.put o.dst v) w' := fun v w' hRv hC' hb => by
          rw [hd]
          refine ih _ (fun j => if j = i then v else vals j) _ w' (by simp [hs]) ?_ (fun j hj hjl => ?_) (rep_put hr (by omega) hdlt hsd) hC' (fun j hj hjl => ?_)
          · rw [Array.toList_setIfInBounds, List.countP_set (by simpa using (by omega : i < listed.size))]
            have hfi : listed.toList[i]'(by simpa using (by omega : i < listed.size)) = false := by
              have := h0
              simpa [hs, hlt] using this
            have hpos : 0 < listed.toList.countP (! ·) := by
              rw [List.countP_pos_iff]
              exact ⟨false, by rw [← hfi]; exact List.getElem_mem _, rfl⟩
            have hcc : (List.countP (fun x => !x) listed.toList) = listed.toList.countP (! ·) := rfl
            simp only [hfi, Bool.not_false, Bool.not_true, if_true, Bool.false_eq_true, if_false]
            omega
          · rw [getD_set_ne false (by omega)]; exact ht j hj hjl
          · by_cases hji : j = i
            · subst hji; rw [if_pos rfl]; exact hRv
            · rw [if_neg hji]
              rw [getD_set_ne false (Ne.symm hji)] at hjl
              exact hmono j _ _ _ (hR j hj hjl) hb
        have fire : StepOK P (execOp (evalS a0 ops vals) o) (R i) C w → Region.wanted o (yielded ops a.tmps) = true → wpOp P ops Q i (fun a' w' => wpAny P md ops Q fuel (listed.setIfInBounds i true) a' w') a w := fun hst hw => by
          unfold wpOp
          rw [ho]
          dsimp only
          rw [if_pos hw]
          refine .inl ?_
          unfold Oper.wp
          rw [hev]
          unfold StepOK at hst
          generalize (execOp (evalS a0 ops vals) o).run P w = r at hst ⊢
          cases r with
          | ok n w' =>
            cases n <;> dsimp only [Oper.upon] at hst ⊢
            case value v => exact next v w' hst.1 hst.2.1 hst.2.2
            case enter f args =>
              refine Calls.mono hst fun e w'' he => ?_
              obtain ⟨v, rfl, h1, h2, h3⟩ := he
              exact next v w'' h1 h2 h3
            all_goals exact hst.elim
          | halt x w' => exact hst.elim
        cases hgd : o.guard with
        | none =>
          unfold StepG at hst
          rw [hgd] at hst
          exact fire hst (by unfold Region.wanted; rw [hgd])
        | some gb =>
          obtain ⟨g, b⟩ := gb
          obtain ⟨hgn, hgm⟩ := hg g b hgd
          have hlg : listed.getD g false = true := by
            obtain ⟨e, he, hb, hk⟩ := needsS_mem hgn
            rw [← hk]
            exact hdep e he hb
          have hgo : ops[g]? = some ops[g] := Array.getElem?_eq_getElem (by omega)
          obtain ⟨_, _, ⟨dg, hdg, hdglt, hsg⟩, _⟩ := (okG_get h g _ hgo).2.1 hgm
          have hat := hr.at_ dg
          rw [hsg] at hat
          dsimp only at hat
          rw [if_pos hlg] at hat
          have hsz : dg < a.tmps.size := by rw [hr.size]; exact hdglt
          have hv : a.tmps[dg]? = some (vals g) := by
            rw [Array.getElem?_eq_getElem hsz]
            rw [Array.getD_eq_getD_getElem?, Array.getElem?_eq_getElem hsz, Option.getD_some] at hat
            rw [hat]
          have hy : yielded ops a.tmps g = match vals g with | .bool b' => some b' | _ => none := by
            unfold yielded
            rw [hgo]
            simp only [Option.bind_some, hdg, hv]
            cases vals g <;> rfl
          unfold StepG at hst
          rw [hgd] at hst
          dsimp only at hst
          by_cases hvb : vals g = .bool b
          · refine fire (hst.1 hvb) ?_
            unfold Region.wanted
            rw [hgd]
            dsimp only
            rw [hy, hvb]
            simp
          · have hw : Region.wanted o (yielded ops a.tmps) = false := by
              unfold Region.wanted
              rw [hgd]
              dsimp only
              rw [hy]
              cases hvg : vals g <;> simp
              case bool b' =>
                intro e
                subst e
                exact hvb hvg
            unfold wpOp
            rw [ho]
            dsimp only
            rw [if_neg (by rw [hw]; exact Bool.false_ne_true)]
            exact next undef w (hst.2 hvb) hC (Below.refl _ _)

/-- The law. -/
theorem wp_region_slotsGi {id m : Nat} {a0 : Act} {w : World} (hm : P.follows .mixedOrders = true) (R : Nat → Value → World → Prop) (C : World → Prop) (h : okG .any ops m a0.tmps.size = true)
    (hmono : ∀ i v W W', R i v W → Below W.heap.size W W' → R i v W') (hC : C w.drew)
    (hstep : ∀ i o, i < m → ops[i]? = some o → ∀ vals w, C w → (∀ j, needsS .any o j = true → R j (vals j) w) → StepG P (evalS a0 ops vals) vals o (R i) C w)
    (hend : ∀ vals w, C w → (∀ i, i < m → R i (vals i) w) → wpOps P ops Q (List.range' m (ops.size - m)) (finalS a0 ops m vals) w) : (Code.region id ops true).wp P Q a0 w := by
  refine wp_region_any hm (wpAny_slotsG a0 R C h hmono hstep hend ops.size (Array.replicate ops.size false) (fun _ => undef) a0 _ (by simp) (by simp [List.countP_replicate]) (fun i _ hi => by simp [hi]) ⟨rfl, rfl, fun t => ?_⟩ hC (fun i hi hl => ?_))
  · cases slotOf ops t with
    | none => rfl
    | some j => dsimp only; rw [if_neg (by rw [getD_rep]; exact Bool.false_ne_true)]
  · rw [getD_rep] at hl; cases hl
end
/-- The steps, one behind the other. -/
def stepsG (P : Program) (ops : Array Oper) (a0 : Act) (R : Nat → Value → World → Prop) (C : World → Prop) : List Oper → Nat → Prop
  | [], _ => True
  | o :: l, i => (∀ (ρ : Operand → Value) (vals : Nat → Value) (w : World), C w → (∀ j, needsS .any o j = true → R j (vals j) w) → (∀ t, ρ (.tmp t) = evalS a0 ops vals (.tmp t)) → (∀ v, ρ (.const v) = v) → (∀ g, ρ (.global g) = .pointer (some ⟨g, 0, none⟩)) →
      (∀ f, ρ (.func f) = .func (.func f) #[] #[]) → StepG P ρ vals o (R i) C w) ∧ stepsG P ops a0 R C l (i + 1)
theorem stepsG_get {P : Program} {ops : Array Oper} {a0 : Act} {R : Nat → Value → World → Prop} {C : World → Prop} : ∀ (l : List Oper) (k : Nat), stepsG P ops a0 R C l k → ∀ i o, l[i]? = some o → ∀ vals w, C w → (∀ j, needsS .any o j = true → R j (vals j) w) → StepG P (evalS a0 ops vals) vals o (R (k + i)) C w
  | [], k, h, i, o, ho, vals, w, hC, hd => by simp at ho
  | x :: l, k, h, 0, o, ho, vals, w, hC, hd => by
    obtain rfl : x = o := by simpa using ho
    exact h.1 _ vals w hC hd (fun _ => rfl) (fun _ => rfl) (fun _ => rfl) (fun _ => rfl)
  | x :: l, k, h, i + 1, o, ho, vals, w, hC, hd => by
    have := stepsG_get l (k + 1) h.2 i o (by simpa using ho) vals w hC hd
    rwa [show k + 1 + i = k + (i + 1) by omega] at this

theorem wp_region_slotsG {P : Program} {ops : Array Oper} {Q : Exit → Act → World → Prop} {id m : Nat} {a0 : Act} {w : World} (tl : List Nat) (hm : P.follows .mixedOrders = true) (R : Nat → Value → World → Prop) (C : World → Prop) (h : okG .any ops m a0.tmps.size = true) (htl : List.range' m (ops.size - m) = tl)
    (hmono : ∀ i v W W', R i v W → Below W.heap.size W W' → R i v W') (hC : C w.drew)
    (hstep : stepsG P ops a0 R C (ops.toList.take m) 0)
    (hend : ∀ vals w, C w → (∀ i, i < m → R i (vals i) w) → wpOps P ops Q tl (finalS a0 ops m vals) w) : (Code.region id ops true).wp P Q a0 w :=
  wp_region_slotsGi hm R C h hmono hC (fun i o hi ho vals w hC hd => by
    have := stepsG_get _ 0 hstep i o (by rw [List.getElem?_take_of_lt hi, Array.getElem?_toList]; exact ho) vals w hC hd
    rwa [Nat.zero_add] at this) (fun vals w hC hR => by rw [htl]; exact hend vals w hC hR)
theorem putsS_repG {ops : Array Oper} {a0 : Act} {vals : Nat → Value} {m : Nat} (h : okG .any ops m a0.tmps.size = true) : ∀ (l : List Oper) (k : Nat) (a : Act) (listed : Array Bool), k + l.length = m → RepS a0 ops listed vals a → listed.size = ops.size →
    (∀ i, i < ops.size → listed.getD i false = decide (i < k)) → (∀ i o, l[i]? = some o → ops[k + i]? = some o) → putsS vals a l k = finalS a0 ops m vals
  | [], k, a, listed, hk, hr, hs, hl, ho => by
    obtain rfl : k = m := by simpa using hk
    exact finalS_rep hr hl
  | o :: l, k, a, listed, hk, hr, hs, hl, ho => by
    have ho0 := ho 0 o (by simp)
    rw [Nat.add_zero] at ho0
    have hlt : k < ops.size := (Array.getElem?_eq_some_iff.1 ho0).1
    obtain ⟨_, hf, _⟩ := okG_get h k o ho0
    obtain ⟨_, _, ⟨d, hd, hdlt, hsd⟩, _⟩ := hf (by simp at hk; omega)
    have hr2 := rep_put (v := vals k) hr (by omega) hdlt hsd
    rw [show (fun j => if j = k then vals k else vals j) = vals from funext fun j => by split <;> simp_all] at hr2
    rw [putsS, hd]
    refine putsS_repG h l (k + 1) _ _ (by simp at hk; omega) hr2 (by simp [hs]) (fun i hi => ?_) (fun i o' hi => ?_)
    · by_cases hik : k = i
      · subst hik; simp [hs, hlt]
      · rw [getD_set_ne false hik, hl i hi]
        exact decide_eq_decide.2 ⟨fun _ => by omega, fun _ => by omega⟩
    · have := ho (i + 1) o' (by simpa using hi)
      rwa [show k + (i + 1) = k + 1 + i by omega] at this
theorem wp_region_slotsGB {P : Program} {ops : Array Oper} {Q : Exit → Act → World → Prop} {id m : Nat} {a0 : Act} {w : World} (tl : List Nat) (hm : P.follows .mixedOrders = true) (R : Nat → Value → World → Prop) (C : World → Prop) (h : okG .any ops m a0.tmps.size = true) (htl : List.range' m (ops.size - m) = tl)
    (hmono : ∀ i v W W', R i v W → Below W.heap.size W W' → R i v W') (hC : C w.drew)
    (hstep : stepsG P ops a0 R C (ops.toList.take m) 0)
    (hend : ∀ vals w, C w → (∀ i, i < m → R i (vals i) w) → wpOps P ops Q tl (putsS vals a0 (ops.toList.take m) 0) w) : (Code.region id ops true).wp P Q a0 w :=
  wp_region_slotsGi hm R C h hmono hC (fun i o hi ho vals w hC hd => by
    have := stepsG_get _ 0 hstep i o (by rw [List.getElem?_take_of_lt hi, Array.getElem?_toList]; exact ho) vals w hC hd
    rwa [Nat.zero_add] at this) (fun vals w hC hR => by
    have hmn : m ≤ ops.size := by
      have := h
      unfold okG at this
      rw [Bool.and_eq_true, decide_eq_true_iff] at this
      exact this.1
    have hp := putsS_repG (vals := vals) h (ops.toList.take m) 0 a0 (Array.replicate ops.size false) (by simp; omega) ⟨rfl, rfl, fun t => by
      cases slotOf ops t with
      | none => rfl
      | some j => dsimp only; rw [if_neg (by rw [getD_rep]; exact Bool.false_ne_true)]⟩ (by simp) (fun i hi => by rw [getD_rep]; simp) (fun i o hi => by
        rw [List.getElem?_take] at hi
        split at hi
        · rw [Nat.zero_add, ← Array.getElem?_toList]; exact hi
        · cases hi)
    rw [htl, ← hp]
    exact hend vals w hC hR)
end Go.Proofs.YtheidjnapoipaaaGreatDoor

namespace Go.Proofs.YtheidjnapoipaaaGreatDoor
open Go Go.RowKit
set_option linter.unusedVariables false

/-- Is it a defer statement? -/
def isDeferG : Op → Bool
  | .defer _ => true
  | _ => false
section
variable {P : Program} {ops : Array Oper} {Q : Exit → Act → World → Prop} {md : Region.Mode} {l n : Nat}

theorem wpAnyIn_tailG {m sz : Nat} (h : okG md ops m sz = true) : ∀ (fuel k : Nat) (listed : Array Bool) (a : Act) (w : World), m ≤ k → k ≤ ops.size → ops.size - k ≤ fuel → listed.size = ops.size →
    (∀ i, i < ops.size → listed.getD i false = decide (i < k)) → wpOpsIn (Fence.wide.inRound l) n P ops Q (List.range' k (ops.size - k)) a w → wpAnyIn (Fence.wide.inRound l) n P md ops Q fuel listed a w := by
  intro fuel
  induction fuel with
  | zero =>
    intro k listed a w hm hk hf hs hl hw
    have hke : k = ops.size := by omega
    subst hke
    rw [Nat.sub_self] at hw
    refine ⟨?_, hw⟩
    rw [List.eq_nil_iff_forall_not_mem]
    intro i hi
    obtain ⟨h0, o, ho, _⟩ := mem_ready.1 hi
    have hlt : i < ops.size := (Array.getElem?_eq_some_iff.1 ho).1
    have := hl i hlt
    rw [decide_eq_true hlt] at this
    simp [hs, hlt] at h0 this
    rw [h0] at this; cases this
  | succ fuel ih =>
    intro k listed a w hm hk hf hs hl hw
    have hfl : ∀ i, i < ops.size → listed.getD i true = decide (i < k) := fun i hi => by
      have := hl i hi
      simpa [hs, hi] using this
    refine ⟨fun hr => ?_, fun i hi => ?_⟩
    · rcases Nat.lt_or_ge k ops.size with hlt | hge
      · exfalso
        have : k ∈ Region.ready md ops listed := mem_ready.2 ⟨by rw [hfl k hlt]; simp, ops[k], Array.getElem?_eq_getElem hlt, fun e he hb => by
          have := (okG_get h k ops[k] (Array.getElem?_eq_getElem hlt)).1 e he hb
          rw [hl e.on (by omega)]; simpa using this⟩
        rw [hr] at this; cases this
      · have hke : k = ops.size := by omega
        subst hke
        rw [Nat.sub_self] at hw
        exact hw
    · obtain ⟨h0, o, ho, hall⟩ := mem_ready.1 hi
      have hlt : i < ops.size := (Array.getElem?_eq_some_iff.1 ho).1
      have hik : ¬ i < k := by
        have := hfl i hlt
        rw [h0] at this
        simpa using this.symm
      have hie : i = k := by
        rcases Nat.lt_or_ge k i with h1 | h1
        · exfalso
          obtain ⟨e, he, hb, hon⟩ := needsS_mem ((okG_get h i o ho).2.2 (by omega) k h1)
          have := hall e he hb
          rw [hon, hl k (by omega)] at this
          simp at this
        · omega
      subst hie
      rw [show ops.size - i = (ops.size - (i + 1)) + 1 by omega, List.range'_succ, wpOpsIn_cons] at hw
      refine wpOpIn_mono (fun a' w' h' => ih (i + 1) _ a' w' (by omega) hlt (by omega) (by simp [hs]) (fun j hj => ?_) h') hw
      by_cases hji : i = j
      · subst hji
        simp [hs, hlt]
      · rw [getD_set_ne false hji, hl j hj]
        exact decide_eq_decide.2 ⟨fun _ => by omega, fun _ => by omega⟩

theorem wpAnyIn_slotsG {m : Nat} (hdf : ops.all (fun o => !isDeferG o.op) = true) (a0 : Act) (R : Nat → Value → World → Prop) (C : World → Prop) (h : okG md ops m a0.tmps.size = true)
    (hmono : ∀ i v W W', R i v W → Below W.heap.size W W' → R i v W')
    (hstep : ∀ i o, i < m → ops[i]? = some o → ∀ vals w, C w → (∀ j, needsS md o j = true → R j (vals j) w) → StepG P (evalS a0 ops vals) vals o (R i) C w)
    (hend : ∀ vals w, C w → (∀ i, i < m → R i (vals i) w) → wpOpsIn (Fence.wide.inRound l) n P ops Q (List.range' m (ops.size - m)) (finalS a0 ops m vals) w) :
    ∀ (fuel : Nat) (listed : Array Bool) (vals : Nat → Value) (a : Act) (w : World), listed.size = ops.size → listed.toList.countP (! ·) ≤ fuel → (∀ i, m ≤ i → i < ops.size → listed.getD i false = false) →
      RepS a0 ops listed vals a → C w → (∀ i, i < m → listed.getD i false = true → R i (vals i) w) → wpAnyIn (Fence.wide.inRound l) n P md ops Q fuel listed a w := by
  have hmn : m ≤ ops.size := by
    unfold okG at h
    rw [Bool.and_eq_true, decide_eq_true_iff] at h
    exact h.1
  have whole : ∀ (fuel : Nat) (listed : Array Bool) (vals : Nat → Value) (a : Act) (w : World), listed.size = ops.size → listed.toList.countP (! ·) ≤ fuel → (∀ i, m ≤ i → i < ops.size → listed.getD i false = false) →
      RepS a0 ops listed vals a → C w → (∀ i, i < m → listed.getD i false = true → R i (vals i) w) → (∀ i, i < m → listed.getD i false = true) → wpAnyIn (Fence.wide.inRound l) n P md ops Q fuel listed a w := by
    intro fuel listed vals a w hs hc ht hr hC hR hall
    have hl : ∀ i, i < ops.size → listed.getD i false = decide (i < m) := fun i hi => by
      by_cases him : i < m
      · rw [hall i him, decide_eq_true him]
      · rw [ht i (by omega) hi, decide_eq_false him]
    refine wpAnyIn_tailG h fuel m listed a w (Nat.le_refl _) hmn ?_ hs hl ?_
    · refine Nat.le_trans ?_ hc
      have e : listed.toList = List.replicate m true ++ List.replicate (ops.size - m) false := by
        apply List.ext_getElem
        · simp [hs]; omega
        · intro i h1 h2
          have hi : i < ops.size := by rw [← hs]; simpa using h1
          have := hl i hi
          simp only [Array.getD_eq_getD_getElem?, Array.getElem?_eq_getElem (by omega : i < listed.size), Option.getD_some] at this
          rw [Array.getElem_toList, this]
          by_cases him : i < m
          · rw [List.getElem_append_left (by simpa using him)]; simp [him]
          · rw [List.getElem_append_right (by simpa using him)]; simp [him]
      rw [e, List.countP_append]
      simp [List.countP_replicate]
    · have := hend vals w hC (fun i hi => hR i hi (hall i hi))
      rwa [← finalS_rep hr hl] at this
  intro fuel
  induction fuel with
  | zero =>
    intro listed vals a w hs hc ht hr hC hR
    refine whole 0 listed vals a w hs hc ht hr hC hR fun i hi => ?_
    have h0 : listed.toList.countP (! ·) = 0 := by omega
    rw [List.countP_eq_zero] at h0
    have hil : i < listed.size := by omega
    have := h0 listed[i] (by simp)
    simpa [hil] using this
  | succ fuel ih =>
    intro listed vals a w hs hc ht hr hC hR
    by_cases hall : ∀ i, i < m → listed.getD i false = true
    · exact whole (fuel + 1) listed vals a w hs hc ht hr hC hR hall
    · have hex : ∃ k, k < m ∧ listed.getD k false = false ∧ ∀ i, i < k → listed.getD i false = true := by
        have key : ∀ n, (∀ i, i < n → listed.getD i false = true) ∨ ∃ k, k < n ∧ listed.getD k false = false ∧ ∀ i, i < k → listed.getD i false = true := by
          intro n
          induction n with
          | zero => exact .inl fun i hi => absurd hi (Nat.not_lt_zero i)
          | succ n ihn =>
            rcases ihn with h1 | ⟨k, hk, h2⟩
            · cases hn : listed.getD n false with
              | true => exact .inl fun i hi => by rcases Nat.lt_succ_iff_lt_or_eq.1 hi with h3 | rfl; exact h1 i h3; exact hn
              | false => exact .inr ⟨n, Nat.lt_succ_self n, hn, h1⟩
            · exact .inr ⟨k, Nat.lt_succ_of_lt hk, h2⟩
        rcases key m with h1 | h1
        · exact absurd h1 hall
        · exact h1
      obtain ⟨k, hkm, hk0, hkl⟩ := hex
      have hgd : ∀ i, i < ops.size → listed.getD i true = listed.getD i false := fun i hi => by simp [hs, hi]
      refine ⟨fun hrd => ?_, fun i hi => ?_⟩
      · exfalso
        have hk : k < ops.size := by omega
        have : k ∈ Region.ready md ops listed := mem_ready.2 ⟨by rw [hgd k hk, hk0], ops[k], Array.getElem?_eq_getElem hk, fun e he hb => hkl e.on ((okG_get h k ops[k] (Array.getElem?_eq_getElem hk)).1 e he hb)⟩
        rw [hrd] at this; cases this
      · obtain ⟨h0, o, ho, hdep⟩ := mem_ready.1 hi
        have hlt : i < ops.size := (Array.getElem?_eq_some_iff.1 ho).1
        obtain ⟨hon, hfree, htail⟩ := okG_get h i o ho
        have him : i < m := by
          refine Decidable.byContradiction fun hn => ?_
          obtain ⟨e, he, hb, hk⟩ := needsS_mem (htail (by omega) k (by omega))
          have := hdep e he hb
          rw [hk, hk0] at this; cases this
        obtain ⟨hg, hsel, ⟨d, hd, hdlt, hsd⟩, hops⟩ := hfree him
        have hev : execOp a.eval o = execOp (evalS a0 ops vals) o := execOp_congr o hsel fun x hx => evalS_rep hr x fun t ht j hj => by
          subst ht
          obtain ⟨e, he, hb, hk⟩ := needsS_mem (hops t (by simpa using hx) j hj)
          rw [← hk]
          exact hdep e he hb
        have hst := hstep i o him ho vals w hC (fun j hj => by
          obtain ⟨e, he, hb, hk⟩ := needsS_mem hj
          have hlj := hdep e he hb
          rw [hk] at hlj
          refine hR j ?_ hlj
          have := hon e he hb
          omega)
        have next : ∀ v w', R i v w' → C w' → Below w.heap.size w w' → wpAnyIn (Fence.wide.inRound l) n P md ops Q fuel (listed.setIfInBounds i true) (a.put o.dst v) w' := fun v w' hRv hC' hb => by
          rw [hd]
          refine ih _ (fun j => if j = i then v else vals j) _ w' (by simp [hs]) ?_ (fun j hj hjl => ?_) (rep_put hr (by omega) hdlt hsd) hC' (fun j hj hjl => ?_)
          · rw [Array.toList_setIfInBounds, List.countP_set (by simpa using (by omega : i < listed.size))]
            have hfi : listed.toList[i]'(by simpa using (by omega : i < listed.size)) = false := by
              have := h0
              simpa [hs, hlt] using this
            have hpos : 0 < listed.toList.countP (! ·) := by
              rw [List.countP_pos_iff]
              exact ⟨false, by rw [← hfi]; exact List.getElem_mem _, rfl⟩
            have hcc : (List.countP (fun x => !x) listed.toList) = listed.toList.countP (! ·) := rfl
            simp only [hfi, Bool.not_false, Bool.not_true, if_true, Bool.false_eq_true, if_false]
            omega
          · rw [getD_set_ne false (by omega)]; exact ht j hj hjl
          · by_cases hji : j = i
            · subst hji; rw [if_pos rfl]; exact hRv
            · rw [if_neg hji]
              rw [getD_set_ne false (Ne.symm hji)] at hjl
              exact hmono j _ _ _ (hR j hj hjl) hb
        have fire : StepOK P (execOp (evalS a0 ops vals) o) (R i) C w → Region.wanted o (yielded ops a.tmps) = true → wpOpIn (Fence.wide.inRound l) n P ops Q i (fun a' w' => wpAnyIn (Fence.wide.inRound l) n P md ops Q fuel (listed.setIfInBounds i true) a' w') a w := fun hst hw => by
          unfold wpOpIn
          rw [ho]
          dsimp only
          rw [if_pos hw]
          unfold Oper.wpIn
          refine ⟨fun _ _ => trivial, ?_⟩
          rw [Oper.semAt_eq _ _ _ (fun c hc => by
            have h1 := Array.all_eq_true.1 hdf i hlt
            rw [(Array.getElem?_eq_some_iff.1 ho).2, hc] at h1
            cases h1), hev]
          unfold StepOK at hst
          generalize (execOp (evalS a0 ops vals) o).run P w = r at hst ⊢
          cases r with
          | ok n w' =>
            cases n <;> dsimp only [Oper.uponIn] at hst ⊢
            case value v => exact next v w' hst.1 hst.2.1 hst.2.2
            case enter f args =>
              refine ⟨fun hx => (by cases hx), (CallsIn.inRound l (callsIn_wide.2 hst)).mono fun e w'' he => ?_⟩
              obtain ⟨v, rfl, h1, h2, h3⟩ := he
              exact next v w'' h1 h2 h3
            all_goals exact hst.elim
          | halt x w' => exact hst.elim
        cases hgd : o.guard with
        | none =>
          unfold StepG at hst
          rw [hgd] at hst
          exact fire hst (by unfold Region.wanted; rw [hgd])
        | some gb =>
          obtain ⟨g, b⟩ := gb
          obtain ⟨hgn, hgm⟩ := hg g b hgd
          have hlg : listed.getD g false = true := by
            obtain ⟨e, he, hb, hk⟩ := needsS_mem hgn
            rw [← hk]
            exact hdep e he hb
          have hgo : ops[g]? = some ops[g] := Array.getElem?_eq_getElem (by omega)
          obtain ⟨_, _, ⟨dg, hdg, hdglt, hsg⟩, _⟩ := (okG_get h g _ hgo).2.1 hgm
          have hat := hr.at_ dg
          rw [hsg] at hat
          dsimp only at hat
          rw [if_pos hlg] at hat
          have hsz : dg < a.tmps.size := by rw [hr.size]; exact hdglt
          have hv : a.tmps[dg]? = some (vals g) := by
            rw [Array.getElem?_eq_getElem hsz]
            rw [Array.getD_eq_getD_getElem?, Array.getElem?_eq_getElem hsz, Option.getD_some] at hat
            rw [hat]
          have hy : yielded ops a.tmps g = match vals g with | .bool b' => some b' | _ => none := by
            unfold yielded
            rw [hgo]
            simp only [Option.bind_some, hdg, hv]
            cases vals g <;> rfl
          unfold StepG at hst
          rw [hgd] at hst
          dsimp only at hst
          by_cases hvb : vals g = .bool b
          · refine fire (hst.1 hvb) ?_
            unfold Region.wanted
            rw [hgd]
            dsimp only
            rw [hy, hvb]
            simp
          · have hw : Region.wanted o (yielded ops a.tmps) = false := by
              unfold Region.wanted
              rw [hgd]
              dsimp only
              rw [hy]
              cases hvg : vals g <;> simp
              case bool b' =>
                intro e
                subst e
                exact hvb hvg
            unfold wpOpIn
            rw [ho]
            dsimp only
            rw [if_neg (by rw [hw]; exact Bool.false_ne_true)]
            exact ⟨fun _ _ => trivial, next undef w (hst.2 hvb) hC (Below.refl _ _)⟩

/-- The law. -/
theorem wpIn_region_slotsGi {id m : Nat} (hdf : ops.all (fun o => !isDeferG o.op) = true) {a0 : Act} {w : World} (hm : P.follows .mixedOrders = true) (R : Nat → Value → World → Prop) (C : World → Prop) (h : okG .any ops m a0.tmps.size = true)
    (hmono : ∀ i v W W', R i v W → Below W.heap.size W W' → R i v W') (hC : C w.drew)
    (hstep : ∀ i o, i < m → ops[i]? = some o → ∀ vals w, C w → (∀ j, needsS .any o j = true → R j (vals j) w) → StepG P (evalS a0 ops vals) vals o (R i) C w)
    (hend : ∀ vals w, C w → (∀ i, i < m → R i (vals i) w) → wpOpsIn (Fence.wide.inRound l) n P ops Q (List.range' m (ops.size - m)) (finalS a0 ops m vals) w) : (Code.region id ops true).wpIn (Fence.wide.inRound l) n P Q a0 w := by
  refine wpIn_region_any hm (wpAnyIn_slotsG hdf a0 R C h hmono hstep hend ops.size (Array.replicate ops.size false) (fun _ => undef) a0 _ (by simp) (by simp [List.countP_replicate]) (fun i _ hi => by simp [hi]) ⟨rfl, rfl, fun t => ?_⟩ hC (fun i hi hl => ?_))
  · cases slotOf ops t with
    | none => rfl
    | some j => dsimp only; rw [if_neg (by rw [getD_rep]; exact Bool.false_ne_true)]
  · rw [getD_rep] at hl; cases hl
end
theorem wpIn_region_slotsG {P : Program} {ops : Array Oper} {Q : Exit → Act → World → Prop} {l n id m : Nat} {a0 : Act} {w : World} (tl : List Nat) (hm : P.follows .mixedOrders = true) (hdf : ops.all (fun o => !isDeferG o.op) = true) (R : Nat → Value → World → Prop) (C : World → Prop) (h : okG .any ops m a0.tmps.size = true) (htl : List.range' m (ops.size - m) = tl)
    (hmono : ∀ i v W W', R i v W → Below W.heap.size W W' → R i v W') (hC : C w.drew)
    (hstep : stepsG P ops a0 R C (ops.toList.take m) 0)
    (hend : ∀ vals w, C w → (∀ i, i < m → R i (vals i) w) → wpOpsIn (Fence.wide.inRound l) n P ops Q tl (finalS a0 ops m vals) w) : (Code.region id ops true).wpIn (Fence.wide.inRound l) n P Q a0 w :=
  wpIn_region_slotsGi hdf hm R C h hmono hC (fun i o hi ho vals w hC hd => by
    have := stepsG_get _ 0 hstep i o (by rw [List.getElem?_take_of_lt hi, Array.getElem?_toList]; exact ho) vals w hC hd
    rwa [Nat.zero_add] at this) (fun vals w hC hR => by rw [htl]; exact hend vals w hC hR)
theorem wpIn_region_slotsGB {P : Program} {ops : Array Oper} {Q : Exit → Act → World → Prop} {l n id m : Nat} {a0 : Act} {w : World} (tl : List Nat) (hm : P.follows .mixedOrders = true) (hdf : ops.all (fun o => !isDeferG o.op) = true) (R : Nat → Value → World → Prop) (C : World → Prop) (h : okG .any ops m a0.tmps.size = true) (htl : List.range' m (ops.size - m) = tl)
    (hmono : ∀ i v W W', R i v W → Below W.heap.size W W' → R i v W') (hC : C w.drew)
    (hstep : stepsG P ops a0 R C (ops.toList.take m) 0)
    (hend : ∀ vals w, C w → (∀ i, i < m → R i (vals i) w) → wpOpsIn (Fence.wide.inRound l) n P ops Q tl (putsS vals a0 (ops.toList.take m) 0) w) : (Code.region id ops true).wpIn (Fence.wide.inRound l) n P Q a0 w :=
  wpIn_region_slotsGi hdf hm R C h hmono hC (fun i o hi ho vals w hC hd => by
    have := stepsG_get _ 0 hstep i o (by rw [List.getElem?_take_of_lt hi, Array.getElem?_toList]; exact ho) vals w hC hd
    rwa [Nat.zero_add] at this) (fun vals w hC hR => by
    have hmn : m ≤ ops.size := by
      have := h
      unfold okG at this
      rw [Bool.and_eq_true, decide_eq_true_iff] at this
      exact this.1
    have hp := putsS_repG (vals := vals) h (ops.toList.take m) 0 a0 (Array.replicate ops.size false) (by simp; omega) ⟨rfl, rfl, fun t => by
      cases slotOf ops t with
      | none => rfl
      | some j => dsimp only; rw [if_neg (by rw [getD_rep]; exact Bool.false_ne_true)]⟩ (by simp) (fun i hi => by rw [getD_rep]; simp) (fun i o hi => by
        rw [List.getElem?_take] at hi
        split at hi
        · rw [Nat.zero_add, ← Array.getElem?_toList]; exact hi
        · cases hi)
    rw [htl, ← hp]
    exact hend vals w hC hR)
end Go.Proofs.YtheidjnapoipaaaGreatDoor

namespace Go.Proofs.YtheidjnapoipaaaGreatDoor
open Go.RowKit
set_option linter.unusedVariables false
set_option linter.unusedSimpArgs false
attribute [local go_sem] Oper.semAt_some

theorem wpOpsIn_one {F : Fence} {n : Nat} {P : Program} {ops : Array Oper} {Q : Exit → Act → World → Prop} {k : Nat} {a : Act} {w : World} (o : Oper) (ho : ops[k]? = some o) (h : wpListIn F n P ops Q [o] a w) : wpOpsIn F n P ops Q [k] a w := by
  unfold wpOpsIn
  rw [ho]
  exact h
theorem below_putM {B Dd : Nat} {w W : World} {o : Obj} (h : Below B w W) (hD : B ≤ Dd) : Below B w (W.putObj Dd o) :=
  ⟨h.os, h.tape, h.output, Nat.le_trans h.size (by simp), fun k hk => (World.putObj_heap_other (by omega)).trans (h.block k hk)⟩

set_option maxRecDepth 100000 in
set_option maxHeartbeats 4000000 in
theorem Bytes_any (m : Int) (w : World) :
    Calls Tryz.prog 19 #[.int .i64 m] w fun e w' => e = .returned (.int .i64 (sumF (mL m))) ∧ Below w.heap.size w w' := by
  refine (callsIn_wide (n := 20)).1 ?_
  refine callsIn_of_wp_marks Tryz.func19 rfl trivial ?_ rfl
  simp only [Tryz.ntmps19, List.size_toArray, List.length_cons, List.length_nil, Nat.reduceAdd, Nat.reduceSub, Array.replicate_succ, Array.replicate_zero, List.push_toArray, List.append_toArray, List.nil_append, List.cons_append]
  gi_wp2_with fail
  refine ⟨trivial, (Of_in _ m _).mono ?_⟩
  rintro e w3 ⟨rfl, rfl⟩
  gi_wp2_with fail
  have hs := (Row.new w 3 [.int .i64 0]).alloc (.cells #[.int .i64 m] 3)
  have hm := Row.new (w.alloc (.cells #[.int .i64 0] 3)) 3 [.int .i64 m]
  rw [World.size_alloc] at hm
  have hb : Below w.heap.size w ((w.alloc (.cells #[.int .i64 0] 3)).alloc (.cells #[.int .i64 m] 3)) := ((Below.refl _ _).alloc (Nat.le_refl _) _).alloc (by simp) _
  have hz : ((w.alloc (.cells #[.int .i64 0] 3)).alloc (.cells #[.int .i64 m] 3)).heap.size = w.heap.size + 2 := by simp
  change Row ((w.alloc (.cells #[.int .i64 0] 3)).alloc (.cells #[.int .i64 m] 3)) w.heap.size 3 [.int .i64 0] at hs
  change Row ((w.alloc (.cells #[.int .i64 0] 3)).alloc (.cells #[.int .i64 m] 3)) (w.heap.size + 1) 3 [.int .i64 m] at hm
  generalize ((w.alloc (.cells #[.int .i64 0] 3)).alloc (.cells #[.int .i64 m] 3)) = w3 at hs hm hb hz ⊢
  refine' range_rel (T := fun _ k => k = w.heap.size) rfl (by omega) (gf := 29) (lb := #[.pointer (some ⟨w.heap.size + 1, 0, none⟩)]) rfl trivial (enters_of Tryz.func29 (by kernel_rfl) rfl)
    (Of_stopsI 19 (by omega) (w.heap.size + 1) m w3 hm) (fun o h => h) (fun _ _ _ k h => h) (fun k h => ⟨by omega, fun _ e => by omega⟩) (Below.refl _ _) (fun B x av W h => by obtain ⟨v, rfl, _⟩ := h; rfl)
    (fun pre W => Row W w.heap.size 3 [.int .i64 (sumF pre)] ∧ Below w.heap.size w W)
    (fun c pre W => False)
    (OwnK.and (OwnK.rowF (fun (pre : List (FD × Bool)) => [.int .i64 (sumF pre)]) (by omega)) (OwnK.below (Nat.le_refl _) (by omega)))
    (fun c => OwnK.pure)
    ⟨hs, hb⟩
    (fun pre W h k hk => ⟨by have := h.1.lt; omega, fun hge => by omega⟩)
    (fun x a W => ∃ bx v, w3.heap.size + 2 ≤ bx ∧ a = { tmps := List.toArray (Value.int IntKind.i64 m :: undef :: Value.int IntKind.i64 0 :: Value.pointer (some ⟨w.heap.size, 0, none⟩) :: .pointer (some ⟨bx, 0, none⟩) :: Value.int IntKind.i64 m :: Value.func (Fn.func 29) #[] #[Value.pointer (some ⟨w.heap.size + 1, 0, none⟩)] :: .agg (fieldC x.1 v).toArray :: .bool x.2 :: undef :: undef :: undef :: undef :: undef :: undef :: undef :: undef :: undef :: undef :: undef :: []), defers := [] } ∧ Row W bx 32 (fieldC x.1 v) ∧ StrsB (w3.heap.size + 2) W v x.1.rule.texts)
    ?ap ?assign ?body ?done ?stop
  case ap =>
    rintro x a' W' o' ⟨bx, v, hbx, ha, hr, hss⟩
    exact ⟨bx, v, hbx, ha, (World.putObj_heap_other (by omega)).trans hr, strsB_putObj hss (by omega) o'⟩
  case assign =>
    rintro l pre x av W' K' hI hpre hsz' ⟨v, rfl, hss⟩ hK
    obtain ⟨a0, cap, rfl⟩ := hss.form
    have HAB : Hid (∀ o : Obj, Below W'.heap.size W' (W'.alloc o)) := Lib.hid fun o => (Below.refl _ _).alloc (Nat.le_refl _) _
    have HI := Lib.hid hI
    have HSs := Lib.hid hss
    have HK := Lib.hid hK
    have hzW := hsz'
    clear hI hss hK
    simp only [fieldC]
    gi_wp2
    exact HK.out _ _ ⟨(HAB.out _).size, fun j o hj ho hc => ((HAB.out _).block j (Array.getElem?_eq_some_iff.1 ho).1).trans ho⟩ (keepsT_below (B := w3.heap.size) (LowT.with (fun _ _ _ k h => h)) (by omega) (HAB.out _))
      ⟨HI.out.1.below (HAB.out _) HI.out.1.lt, HI.out.2.trans ((HAB.out _).mono HI.out.2.size)⟩
      ⟨W'.heap.size, .slice a0 x.1.rule.texts.length cap, hzW, rfl, Row.new W' _ _, HSs.out.below (HAB.out _)⟩
  case body =>
    rintro l pre ⟨f, rq⟩ a' W' hI hpre hsz' ⟨bx, v, hbx, rfl, hr, hss⟩
    obtain ⟨a0, cap, rfl⟩ := hss.form
    obtain ⟨i, hi, hf⟩ := mL_row (hpre.subset (List.mem_append_right pre (List.mem_singleton.2 rfl)))
    have hps := mL_pre ((List.prefix_append _ _).trans hpre)
    have hsl := sz_le i hi
    have hck : f.rule.check = 0 := by have := (chk_allM i hi).1; rw [← hf] at this; exact this
    have htl : f.rule.texts.length ≤ 1000000 := by have := (chk_allM i hi).2.1; rw [← hf] at this; simp only at this; omega
    have htx : ∀ j, j < f.rule.texts.length → (f.rule.texts.getD j ByteArray.empty).size ≤ 1000000 := by have := txt_le i hi; rw [← hf] at this; exact this
    rw [← hf] at hsl
    simp only at hsl
    obtain ⟨LN, hLN⟩ : ∃ LN, longN f.rule.kind f.rule.least f.rule.most f.rule.texts = LN := ⟨_, rfl⟩
    rw [hLN] at hsl
    have hw1 : IntKind.i64.wrap ((f.name.size : Int) + LN) = (f.name.size : Int) + LN := IntWalk.i64_in _ (by omega)
    have hw2 : IntKind.i64.wrap ((f.name.size : Int) + LN + 6) = (f.name.size : Int) + LN + 6 := IntWalk.i64_in _ (by omega)
    have hw3 : IntKind.i64.wrap (sumF pre + ((f.name.size : Int) + LN + 6)) = sumF pre + ((f.name.size : Int) + LN + 6) := IntWalk.i64_in _ (by omega)
    clear hps hsl hf hi hpre
    have hmx : Tryz.prog.follows .mixedOrders = true := by kernel_rfl
    have HSL := hss
    refine wpIn_block ?_
    refine wpIn_region_slotsGB (m := 10) [10] hmx (by kernel_rfl) (fun ix v _ => v = ([.int .i64 (sumF pre), .pointer (some ⟨bx, 0, none⟩), .string f.name, .int .i64 f.name.size, .pointer (some ⟨bx, 1, none⟩), .agg #[.int .i64 f.rule.kind, .int .i64 f.rule.least, .int .i64 f.rule.most, .slice a0 f.rule.texts.length cap], .int .i64 LN, .int .i64 (f.name.size + LN), .int .i64 (f.name.size + LN + 6), .int .i64 (sumF pre + (f.name.size + LN + 6))] : List Value).getD ix undef) (Below W'.heap.size W') (by kernel_rfl) (by kernel_rfl) (fun i v W W' h _ => h) (below_drewN_c (Below.refl _ _) 1) ?_ ?_
    · refine ⟨?_, ?_, ?_, ?_, ?_, ?_, ?_, ?_, ?_, ?_, trivial⟩
      · intro ρ vals W hC hd ht hk hg hf
        have e3 := ht 3
        rw [evalS_old (by kernel_rfl)] at e3
        clear ht hd
        have q := (hI.1.below hC hI.1.lt).cell 0
        simp only [List.getElem?_cons_zero] at q
        unfold StepG
        unfold StepOK
        go_simp
        first | exact Below.refl _ _ | exact ⟨hC, Below.refl _ _⟩
      · intro ρ vals W hC hd ht hk hg hf
        have e4 := ht 4
        rw [evalS_old (by kernel_rfl)] at e4
        clear ht hd
        unfold StepG
        unfold StepOK
        go_simp
        first | exact Below.refl _ _ | exact ⟨hC, Below.refl _ _⟩
      · intro ρ vals W hC hd ht hk hg hf
        have e10 := ht 10
        have d1 := hd 1 (by kernel_rfl)
        rw [evalS_tmp (i := 1) (by kernel_rfl), d1] at e10
        clear ht hd d1
        have hr' := hr.below hC hr.lt
        have k0 := hr'.cell 0
        have k1 := hr'.cell 1
        have k2 := hr'.cell 2
        have k3 := hr'.cell 3
        have k4 := hr'.cell 4
        have k5 := hr'.cell 5
        simp only [fieldC, List.getElem?_cons_zero, List.getElem?_cons_succ] at k0 k1 k2 k3 k4 k5
        unfold StepG
        unfold StepOK
        go_simp
        first | exact Below.refl _ _ | exact ⟨hC, Below.refl _ _⟩
      · intro ρ vals W hC hd ht hk hg hf
        have e11 := ht 11
        have d2 := hd 2 (by kernel_rfl)
        rw [evalS_tmp (i := 2) (by kernel_rfl), d2] at e11
        clear ht hd d2
        unfold StepG
        unfold StepOK
        go_simp
        first | exact Below.refl _ _ | exact ⟨hC, Below.refl _ _⟩
      · intro ρ vals W hC hd ht hk hg hf
        have e4 := ht 4
        rw [evalS_old (by kernel_rfl)] at e4
        clear ht hd
        unfold StepG
        unfold StepOK
        go_simp
        first | exact Below.refl _ _ | exact ⟨hC, Below.refl _ _⟩
      · intro ρ vals W hC hd ht hk hg hf
        have e13 := ht 13
        have d4 := hd 4 (by kernel_rfl)
        rw [evalS_tmp (i := 4) (by kernel_rfl), d4] at e13
        clear ht hd d4
        have hr' := hr.below hC hr.lt
        have k0 := hr'.cell 0
        have k1 := hr'.cell 1
        have k2 := hr'.cell 2
        have k3 := hr'.cell 3
        have k4 := hr'.cell 4
        have k5 := hr'.cell 5
        simp only [fieldC, List.getElem?_cons_zero, List.getElem?_cons_succ] at k0 k1 k2 k3 k4 k5
        unfold StepG
        unfold StepOK
        go_simp
        first | exact Below.refl _ _ | exact ⟨hC, Below.refl _ _⟩
      · intro ρ vals W hC hd ht hk hg hf
        have e14 := ht 14
        have d5 := hd 5 (by kernel_rfl)
        rw [evalS_tmp (i := 5) (by kernel_rfl), d5] at e14
        clear ht hd d5
        unfold StepG
        unfold StepOK
        go_simp
        refine (Longest_any f.rule hck _ W (hss.strs.below (Nat.le_refl _) hC) htl htx).mono ?_
        rintro e w9 ⟨rfl, hb⟩
        exact ⟨_, rfl, by rw [hLN], hC.trans (hb.mono hC.size), hb⟩
      · intro ρ vals W hC hd ht hk hg hf
        have e12 := ht 12
        have d3 := hd 3 (by kernel_rfl)
        rw [evalS_tmp (i := 3) (by kernel_rfl), d3] at e12
        have e15 := ht 15
        have d6 := hd 6 (by kernel_rfl)
        rw [evalS_tmp (i := 6) (by kernel_rfl), d6] at e15
        clear ht hd d3 d6
        have hwA := hw1
        unfold StepG
        unfold StepOK
        go_simp
        first | exact Below.refl _ _ | exact ⟨hC, Below.refl _ _⟩
      · intro ρ vals W hC hd ht hk hg hf
        have e16 := ht 16
        have d7 := hd 7 (by kernel_rfl)
        rw [evalS_tmp (i := 7) (by kernel_rfl), d7] at e16
        clear ht hd d7
        have hwA := hw2
        unfold StepG
        unfold StepOK
        go_simp
        first | exact Below.refl _ _ | exact ⟨hC, Below.refl _ _⟩
      · intro ρ vals W hC hd ht hk hg hf
        have e9 := ht 9
        have d0 := hd 0 (by kernel_rfl)
        rw [evalS_tmp (i := 0) (by kernel_rfl), d0] at e9
        have e17 := ht 17
        have d8 := hd 8 (by kernel_rfl)
        rw [evalS_tmp (i := 8) (by kernel_rfl), d8] at e17
        clear ht hd d0 d8
        have hwA := hw3
        unfold StepG
        unfold StepOK
        go_simp
        first | exact Below.refl _ _ | exact ⟨hC, Below.refl _ _⟩
    · intro vals W hC hR
      have r0 : vals 0 = .int .i64 (sumF pre) := hR 0 (by omega)
      have r1 : vals 1 = .pointer (some ⟨bx, 0, none⟩) := hR 1 (by omega)
      have r2 : vals 2 = .string f.name := hR 2 (by omega)
      have r3 : vals 3 = .int .i64 f.name.size := hR 3 (by omega)
      have r4 : vals 4 = .pointer (some ⟨bx, 1, none⟩) := hR 4 (by omega)
      have r5 : vals 5 = .agg #[.int .i64 f.rule.kind, .int .i64 f.rule.least, .int .i64 f.rule.most, .slice a0 f.rule.texts.length cap] := hR 5 (by omega)
      have r6 : vals 6 = .int .i64 LN := hR 6 (by omega)
      have r7 : vals 7 = .int .i64 (f.name.size + LN) := hR 7 (by omega)
      have r8 : vals 8 = .int .i64 (f.name.size + LN + 6) := hR 8 (by omega)
      have r9 : vals 9 = .int .i64 (sumF pre + (f.name.size + LN + 6)) := hR 9 (by omega)
      clear hR
      simp only [List.take, putsS, Act.put, List.setIfInBounds_toArray, List.set_cons_zero, List.set_cons_succ, Nat.reduceAdd, r0, r1, r2, r3, r4, r5, r6, r7, r8, r9]
      clear r0 r1 r2 r3 r4 r5 r6 r7 r8 r9
      have R2 := hI.1.below hC hI.1.lt
      have c8 := R2.cell 0
      have f8 := R2.frozen 0
      have l8 := R2.lt
      simp only [List.getElem?_cons_zero] at c8
      have hSet := Lib.hid (R2.set 0 (.int .i64 (sumF pre + (f.name.size + LN + 6))))
      have hbe := Lib.hid ((hI.2.trans (hC.mono hI.2.size)).setCell (p := ⟨w.heap.size, 0, none⟩) (Nat.le_refl _) (.int .i64 (sumF pre + (f.name.size + LN + 6))))
      have hzC := hC.size
      have hkC := Lib.hid hC
      have hlt9 := hI.1.lt
      clear R2 hI
      refine wpOpsIn_one _ (by rfl) ?_
      gi_wp2_with fail
      refine ⟨⟨by simp [World.setCell]; omega, fun j o hj ho hc => (Below.heap_setCell _ ⟨w.heap.size, 0, none⟩ _ j (by show j ≠ w.heap.size; omega)).trans ((hkC.out.block j (Array.getElem?_eq_some_iff.1 ho).1).trans ho)⟩, ⟨by simp [World.setCell]; omega, fun j hj ht => ⟨(Below.heap_setCell _ ⟨w.heap.size, 0, none⟩ _ j (fun e => ht (.inr e))).trans (hkC.out.block j hj), ht⟩⟩, ?_, hbe.out⟩
      rw [sumF_snoc, show szF f = f.name.size + LN + 6 by unfold szF; rw [hLN]]
      exact hSet.out
  case stop =>
    rintro Dd c pre W' hD hpre h hK
    exact h.elim
  case done =>
    rintro Dd W' hDd hI hK
    have c9 := hI.1.cell 0
    simp only [List.getElem?_cons_zero] at c9
    have HI := Lib.hid hI
    have HK := Lib.hid hK
    clear hI hK
    gi_wp2_with fail
    refine ⟨by simp, .inl ⟨_, _, rfl, run_takeDeferred HK.out, ?_⟩⟩
    exact ⟨_, results_tmp rfl _ _ _, rfl, below_putM HI.out.2 (by omega)⟩
end Go.Proofs.YtheidjnapoipaaaGreatDoor

namespace Go.Proofs.YtheidjnapoipaaaGreatDoor
open Go Go.RowKit
set_option linter.unusedVariables false

theorem wpListIn_load_midW {F : Fence} {n : Nat} {P : Program} {ops : Array Oper} {rest : List Oper} {op : Oper} {a : Act} {w : World} {Q : Exit → Act → World → Prop} (hw : Region.wanted op (yielded ops a.tmps) = true) (ty : TypeId) (x : Operand) (ho : op.op = .load ty x)
    (b o : Nat) (hx : a.eval x = .pointer (some ⟨b, o, none⟩)) (cs : List Value) (d : TypeDesc) (hc : w.rangeAt b o cs)
    (hu : P.underlying ty = some d) (hd : d.isRow = true) (hi : (P.info? ty).map (·.size) = some cs.length)
    (h : wpListIn F n P ops Q rest (a.put op.dst (.agg cs.toArray)) w) : wpListIn F n P ops Q (op :: rest) a w := by
  refine wpListIn_step fun K hK => ?_
  rw [if_pos hw]
  unfold Oper.wpIn
  refine ⟨by simp [Oper.about, ho], ?_⟩
  rw [Oper.semAt_plain F _ _ (by rw [ho]; intro c hc'; cases hc')]
  simp only [execOp, ho, hx, Instr.loadAt, Instr.sureAddr, Sem.run_bind, Sem.run_pure, Result.andThen_ok, run_loadVar_mid w b o ty cs d hc hu hd hi]
  exact hK _ _ h
theorem wpListIn_store_rowW {F : Fence} {n : Nat} {P : Program} {ops : Array Oper} {rest : List Oper} {o : Oper} {a : Act} {w : World} {Q : Exit → Act → World → Prop} (hw : Region.wanted o (yielded ops a.tmps) = true) (ty : TypeId) (x y : Operand) (ho : o.op = .store ty x y)
    (g : Nat) (cells : Array Value) (hx : a.eval x = .pointer (some ⟨g, 0, none⟩)) (hy : a.eval y = .agg cells)
    (t : TypeId) (old : Array Value) (hg : w.heap[g]? = some (.cells old t (0, 0))) (hi : (P.info? ty).map (·.size) = some cells.size)
    (hold : old.size = cells.size) (h1 : cells.all (·.oneCell') = true)
    (h : wpListIn F n P ops Q rest (a.put o.dst undef) (w.setRow g cells)) : wpListIn F n P ops Q (o :: rest) a w := by
  refine wpListIn_step fun K hK => ?_
  rw [if_pos hw]
  unfold Oper.wpIn
  refine ⟨by simp [Oper.about, ho], ?_⟩
  rw [Oper.semAt_plain F _ _ (by rw [ho]; intro c hc'; cases hc')]
  simp only [execOp, ho, hx, hy, Instr.storeAt, Instr.sureAddr, Sem.run_bind, Sem.run_pure, Result.andThen_ok, run_storeVar_row w g t ty old cells hg hi hold h1]
  exact hK _ _ h
end Go.Proofs.YtheidjnapoipaaaGreatDoor

namespace Go.Proofs.YtheidjnapoipaaaGreatDoor
open Go.RowKit
set_option linter.unusedVariables false

/-- Check by its numbers alone. -/
def chk (k a b : Int) (n : Nat) : Int := if k < 1 ∨ 8 < k then 11 else if a < 0 ∨ 4096 < a ∨ 4096 < b then 7 else if (k = 1 ∨ k = 2 ∨ k = 8) ∧ b < a then 7 else if k = 4 ∧ n = 0 then 16 else 0
theorem check_chk (k a b : Int) (l : List ByteArray) (n : Nat) (hn : l.length = n) : FR.check ⟨k, a, b, l⟩ = chk k a b n := by
  unfold FR.check FR.known FR.off spansK chk
  simp only [decide_eq_true_eq, decide_eq_false_iff_not]
  have hl : l = [] ↔ n = 0 := by rw [← hn]; exact List.length_eq_zero_iff.symm
  simp only [hl]
  by_cases h1 : 1 ≤ k ∧ k ≤ 8
  · rw [if_neg (fun h => h h1), if_neg (by omega : ¬ (k < 1 ∨ 8 < k))]
    by_cases h2 : a < 0 ∨ 4096 < a ∨ 4096 < b
    · rw [if_pos h2, if_pos (by omega)]
    · rw [if_neg h2]
      by_cases h3 : (k = 1 ∨ k = 2 ∨ k = 8) ∧ b < a
      · rw [if_pos h3, if_pos (by omega)]
      · rw [if_neg h3, if_neg (by omega)]
  · rw [if_pos h1, if_pos (by omega)]

set_option maxRecDepth 20000 in
set_option maxHeartbeats 4000000 in
theorem refCheck_any (r : FR) (a0 : Option Addr) (n cap : Nat) (hn : r.texts.length = n) (w : World) :
    Calls Tryz.prog 20 #[.agg #[.int .i64 r.kind, .int .i64 r.least, .int .i64 r.most, .slice a0 n cap]] w fun e w' => e = .returned (.int .i64 r.check) ∧ Below w.heap.size w w' := by
  obtain ⟨k, a, b, l⟩ := r
  dsimp only at hn ⊢
  rw [check_chk k a b l n hn]
  clear hn l
  rcases (by omega : k < 1 ∨ 8 < k ∨ k = 4 ∨ k = 1 ∨ k = 2 ∨ k = 3 ∨ k = 5 ∨ k = 6 ∨ k = 7 ∨ k = 8) with h | h | rfl | rfl | rfl | rfl | rfl | rfl | rfl | rfl
  · have hR : chk k a b n = 11 := by unfold chk; rw [if_pos (.inl h)]
    rw [hR]
    clear hR
    go_enter Tryz.func20, Tryz.ntmps20
    go_wp2
    go_ret
    exact ⟨rfl, (Below.refl _ _).alloc (Nat.le_refl _) _⟩
  · have hR : chk k a b n = 11 := by unfold chk; rw [if_pos (.inr h)]
    rw [hR]
    clear hR
    have h1 : 1 ≤ k := by omega
    go_enter Tryz.func20, Tryz.ntmps20
    go_wp2
    go_ret
    exact ⟨rfl, (Below.refl _ _).alloc (Nat.le_refl _) _⟩
  · rcases (by omega : (a < 0) ∨ (0 ≤ a ∧ 4096 < a) ∨ (0 ≤ a ∧ a ≤ 4096 ∧ 4096 < b) ∨ (0 ≤ a ∧ a ≤ 4096 ∧ b ≤ 4096 ∧ b < a) ∨ (0 ≤ a ∧ a ≤ 4096 ∧ b ≤ 4096 ∧ a ≤ b)) with h2 | ⟨h2, h3⟩ | ⟨h2, h3, h4⟩ | ⟨h2, h3, h4, h5⟩ | ⟨h2, h3, h4, h5⟩
    all_goals
      rcases (by omega : n = 0 ∨ 0 < n) with hz | hz
      all_goals
        generalize hR : chk _ a b n = R
        have h3 : R = 7 ∨ R = 16 ∨ R = 0 := by
          unfold chk at hR
          repeat' (split at hR)
          all_goals omega
        rcases h3 with rfl | rfl | rfl
        all_goals
          first
            | (exfalso; unfold chk at hR; (repeat' (split at hR)); (all_goals omega))
            | (clear hR; (try subst hz); go_enter Tryz.func20, Tryz.ntmps20; go_wp2; go_ret; exact ⟨rfl, (Below.refl _ _).alloc (Nat.le_refl _) _⟩)
  all_goals
    rcases (by omega : (a < 0) ∨ (0 ≤ a ∧ 4096 < a) ∨ (0 ≤ a ∧ a ≤ 4096 ∧ 4096 < b) ∨ (0 ≤ a ∧ a ≤ 4096 ∧ b ≤ 4096 ∧ b < a) ∨ (0 ≤ a ∧ a ≤ 4096 ∧ b ≤ 4096 ∧ a ≤ b)) with h2 | ⟨h2, h3⟩ | ⟨h2, h3, h4⟩ | ⟨h2, h3, h4, h5⟩ | ⟨h2, h3, h4, h5⟩
    all_goals
      generalize hR : chk _ a b n = R
      have h3 : R = 7 ∨ R = 16 ∨ R = 0 := by
        unfold chk at hR
        repeat' (split at hR)
        all_goals omega
      rcases h3 with rfl | rfl | rfl
      all_goals
        first
          | (exfalso; unfold chk at hR; (repeat' (split at hR)); (all_goals omega))
          | (clear hR; go_enter Tryz.func20, Tryz.ntmps20; go_wp2; go_ret; exact ⟨rfl, (Below.refl _ _).alloc (Nat.le_refl _) _⟩)
end Go.Proofs.YtheidjnapoipaaaGreatDoor

namespace Go.Proofs.YtheidjnapoipaaaGreatDoor
open Go.RowKit
set_option linter.unusedVariables false
set_option linter.unusedSimpArgs false
attribute [local go_sem] Oper.semAt_some

theorem RTab.below {B g : Nat} {W W' : World} (h : RTab B g W) (hb : Below W.heap.size W W') : RTab B g W' := by
  obtain ⟨vs, h1, h2, h3⟩ := h
  exact ⟨vs, h1, h2.below hb h2.lt, fun i hi => (h3 i hi).below hb⟩
theorem fieldC2_length (f : FD) (v : Value) : (fieldC2 f v).length = 6 := rfl
theorem tabV2_get : ∀ (fs : List FD) (vs : List Value) (k j : Nat), j < 6 → k < fs.length → k < vs.length → (tabV2 fs vs)[k * 6 + j]? = (fieldC2 (fs.getD k fd0) (vs.getD k undef))[j]?
  | [], _, k, j, hj, hk, _ => absurd hk (by simp)
  | _ :: _, [], k, j, hj, _, hk => absurd hk (by simp)
  | f :: fs, v :: vs, 0, j, hj, _, _ => by
    rw [tabV2, Nat.zero_mul, Nat.zero_add, List.getElem?_append_left (by rw [fieldC2_length]; exact hj)]
    rfl
  | f :: fs, v :: vs, k + 1, j, hj, hk, hk2 => by
    rw [tabV2, List.getElem?_append_right (by rw [fieldC2_length]; omega), fieldC2_length, show (k + 1) * 6 + j - 6 = k * 6 + j by omega]
    exact tabV2_get fs vs k j hj (by simpa using hk) (by simpa using hk2)
theorem rtab_at {B g : Nat} {W : World} (h : RTab B g W) (k : Nat) (hk : k < 32) : ∃ v, (∀ j, j < 6 → W.cell? ⟨g, k * 6 + j, none⟩ = (fieldC2 (tblF.getD k fd0) v)[j]?) ∧ StrsB B W v (tblF.getD k fd0).rule.texts := by
  obtain ⟨vs, hl, hr, hx⟩ := h
  exact ⟨vs.getD k undef, fun j hj => by rw [hr.cell, tabV2_get tblF vs k j hj (by rw [tblF_length]; exact hk) (by omega)], hx k hk⟩
theorem RTab.lt {B g : Nat} {W : World} (h : RTab B g W) : g < W.heap.size := by
  obtain ⟨vs, _, hr, _⟩ := h
  exact hr.lt
theorem wpOps_one {P : Program} {ops : Array Oper} {Q : Exit → Act → World → Prop} {k : Nat} {a : Act} {w : World} (o : Oper) (ho : ops[k]? = some o) (hs : ops.size = k + 1) (h : wpList P ops Q [o] a w) : wpOps P ops Q [k] a w := by
  have e := wpOps_eq_wpList (P := P) (ops := ops) (Q := Q) [o] k (fun j => by
    cases j with
    | zero => simp [ho]
    | succ j => rw [Array.getElem?_eq_none (by omega)]; simp)
  have e2 : List.range' k [o].length = [k] := rfl
  rw [e2] at e
  rw [e]
  exact h
/-- The table's first rows that a message of that number may have. -/
def rowsI (m : Int) (j : Nat) : List (FD × Bool) := if 1 ≤ m ∧ m ≤ 9 then rowsM m.toNat j else []
theorem rowsI_full (m : Int) : rowsI m 32 = mL m := by
  unfold rowsI mL
  split
  · rw [rowsM_full]
  · rfl
theorem rowsI_zero (m : Int) : rowsI m 0 = [] := by
  unfold rowsI
  split
  · rfl
  · rfl
theorem rowsI_out {m : Int} (h : ¬ (1 ≤ m ∧ m ≤ 9)) (j : Nat) : rowsI m j = [] := by unfold rowsI; rw [if_neg h]
theorem rowsI_in {m : Nat} (h1 : 1 ≤ m) (h9 : m ≤ 9) (j : Nat) : rowsI (m : Int) j = rowsM m j := by
  unfold rowsI
  rw [if_pos (by omega)]
  rfl
theorem rowsI_bd (m : Int) (j : Nat) (hj : j ≤ 32) : (0 ≤ sumF (rowsI m j) ∧ sumF (rowsI m j) ≤ 4096) ∧ (rowsI m j).length ≤ 32 := by
  by_cases h : 1 ≤ m ∧ m ≤ 9
  · obtain ⟨k, rfl⟩ := Int.eq_ofNat_of_zero_le (show 0 ≤ m by omega)
    rw [rowsI_in (by omega) (by omega)]
    refine ⟨ms_part k (by omega) (by omega) j hj, ?_⟩
    have hh : ∀ k, k ≤ 9 → 1 ≤ k → ∀ j, j ≤ 32 → (rowsM k j).length ≤ 32 := by decide +kernel
    exact hh k (by omega) (by omega) j hj
  · rw [rowsI_out h]; simp [sumF]
/-- What stands: the box of the number, of the bytes, of the count; the table; the marks. -/
structure MSt (w : World) (m : Int) (TB g bb nb : Nat) (by1 n1 : Int) (Ds : List Nat) (W : World) : Prop where
  r1 : Row W w.heap.size 3 [.int .i64 m]
  rb : Row W bb 3 [.int .i64 by1]
  rn : Row W nb 3 [.int .i64 n1]
  tb : RTab TB g W
  be : Below w.heap.size w W
  nd : Ds.Nodup
  mks : ∀ D ∈ Ds, W.heap[D]? = some (.deferred (some [])) ∧ nb < D
theorem RTab.keepM {TB g : Nat} {X Y : World} (h : RTab TB g X) (hs : X.heap.size ≤ Y.heap.size) (hk : ∀ k, k < X.heap.size → TB ≤ k → Y.heap[k]? = X.heap[k]?) (hg : TB ≤ g) : RTab TB g Y := by
  obtain ⟨vs, h1, h2, h3⟩ := h
  exact ⟨vs, h1, (hk g h2.lt hg).trans h2, fun i hi => (h3 i hi).keep hs fun k hB hl => hk k hl hB⟩
theorem MSt.below {w : World} {m : Int} {TB g bb nb : Nat} {by1 n1 : Int} {Ds : List Nat} {X Y : World} (h : MSt w m TB g bb nb by1 n1 Ds X) (hb : Below X.heap.size X Y) : MSt w m TB g bb nb by1 n1 Ds Y :=
  ⟨h.r1.below hb h.r1.lt, h.rb.below hb h.rb.lt, h.rn.below hb h.rn.lt, h.tb.below hb, h.be.trans (hb.mono h.be.size), h.nd, fun D hD => ⟨(hb.block D (Array.getElem?_eq_some_iff.1 (h.mks D hD).1).1).trans (h.mks D hD).1, (h.mks D hD).2⟩⟩

theorem MSt.grown {w : World} {m : Int} {TB g bb nb : Nat} {by1 n1 : Int} {Ds : List Nat} {X Y : World} {row : Option Nat} {B : Nat} (h : MSt w m TB g bb nb by1 n1 Ds X) (hg : X.grownBy Y row) (hr : ∀ r, row = some r → B ≤ r ∧ ∃ o : Obj, X.heap[r]? = some o ∧ o.isCells = false) (h0 : w.heap.size ≤ B) (hD : ∀ D ∈ Ds, D < B) : MSt w m TB g bb nb by1 n1 Ds Y := by
  have hr' : ∀ r, row = some r → ∃ o : Obj, X.heap[r]? = some o ∧ o.isCells = false := fun r e => (hr r e).2
  refine ⟨row_grown h.r1 hg hr', row_grown h.rb hg hr', row_grown h.rn hg hr', ?_, ⟨hg.os.trans h.be.os, hg.tape.trans h.be.tape, hg.output.trans h.be.output, Nat.le_trans h.be.size hg.size, fun k hk => (hg.block k (Nat.lt_of_lt_of_le hk h.be.size) (fun e => by have := (hr _ e.symm).1; omega)).trans (h.be.block k hk)⟩, h.nd,
    fun D hd => ⟨(hg.block D (Array.getElem?_eq_some_iff.1 (h.mks D hd).1).1 (fun e => by have := (hr _ e.symm).1; have := hD D hd; omega)).trans (h.mks D hd).1, (h.mks D hd).2⟩⟩
  obtain ⟨vs, h1, h2, h3⟩ := h.tb
  exact ⟨vs, h1, row_grown h2 hg hr', fun i hi => strsB_grown (h3 i hi) hg hr'⟩
theorem ms_same2 (m : Nat) (h1 : 1 ≤ m) (h9 : m ≤ 9) (j : Nat) (hj : j < 32) (x : FD × Bool) (hx : x ∈ ofL m fullF) (hn : x.1.name = (tblF.getD j fd0).name) : x.1 = tblF.getD j fd0 ∧ x.2 = (letF (tblF.getD j fd0) m == 82) := by
  obtain ⟨i, hi, h2, rfl, h4⟩ := ms_same m h1 h9 j hj x hx hn
  exact ⟨h2, h4⟩
/-- What stands within: but for the bytes' box all is as it was; the row's box, whether it was found, how often. -/
structure MIn (wr : World) (bb : Nat) (by0 : Int) (fk : FD) (tv : Value) (cnt : Nat) (W : World) : Prop where
  kp : wr.grownBy W (some bb)
  rb : Row W bb 3 [.int .i64 (by0 + (cnt : Int) * szF fk)]
  rr : Row W wr.heap.size 36 (fieldC2 fk tv)
  rf : Row W (wr.heap.size + 1) 4 [.bool (decide (0 < cnt))]
theorem grown_belowM {w0 X Y : World} {bb : Nat} (h : w0.grownBy X (some bb)) (hb : Below X.heap.size X Y) : w0.grownBy Y (some bb) :=
  ⟨hb.os.trans h.os, hb.tape.trans h.tape, hb.output.trans h.output, Nat.le_trans h.size hb.size, fun k hk hn => (hb.block k (Nat.lt_of_lt_of_le hk h.size)).trans (h.block k hk hn)⟩
theorem grown_setM {w0 X : World} {bb c : Nat} (h : w0.grownBy X (some bb)) (hc : w0.heap.size ≤ c ∨ c = bb) (v : Value) : w0.grownBy (X.setCell ⟨c, 0, none⟩ v) (some bb) :=
  ⟨h.os, h.tape, h.output, by simpa [World.setCell] using h.size, fun k hk hn => (Below.heap_setCell X ⟨c, 0, none⟩ v k (by
    show k ≠ c
    rintro rfl
    rcases hc with hc | hc
    · omega
    · exact hn (by rw [hc]))).trans (h.block k hk hn)⟩
theorem MIn.below {wr : World} {bb : Nat} {by0 : Int} {cnt : Nat} {fk : FD} {tv : Value} {X Y : World} (h : MIn wr bb by0 fk tv cnt X) (hb : Below X.heap.size X Y) : MIn wr bb by0 fk tv cnt Y :=
  ⟨grown_belowM h.kp hb, h.rb.below hb h.rb.lt, h.rr.below hb h.rr.lt, h.rf.below hb h.rf.lt⟩
theorem MIn.grown {wr : World} {bb : Nat} {by0 : Int} {cnt : Nat} {fk : FD} {tv : Value} {X Y : World} {row : Option Nat} {B : Nat} (h : MIn wr bb by0 fk tv cnt X) (hg : X.grownBy Y row) (hr : ∀ r, row = some r → B ≤ r ∧ ∃ o : Obj, X.heap[r]? = some o ∧ o.isCells = false) (h0 : wr.heap.size ≤ B) : MIn wr bb by0 fk tv cnt Y :=
  ⟨⟨hg.os.trans h.kp.os, hg.tape.trans h.kp.tape, hg.output.trans h.kp.output, Nat.le_trans h.kp.size hg.size, fun k hk hn => (hg.block k (Nat.lt_of_lt_of_le hk h.kp.size) (fun e => by have := (hr _ e.symm).1; omega)).trans (h.kp.block k hk hn)⟩,
    row_grown h.rb hg (fun r e => (hr r e).2), row_grown h.rr hg (fun r e => (hr r e).2), row_grown h.rf hg (fun r e => (hr r e).2)⟩
theorem MSt.turn {w : World} {m : Int} {TB g bb : Nat} {by1 by2 n1 : Int} {Ds : List Nat} {X Y : World} (h : MSt w m TB g bb (bb + 1) by1 n1 Ds X) (hg : X.grownBy Y (some bb)) (h0 : w.heap.size < bb) (hT : bb + 2 ≤ TB) (hgT : TB ≤ g) (hr : Row Y bb 3 [.int .i64 by2]) : MSt w m TB g bb (bb + 1) by2 n1 Ds Y := by
  have up : ∀ k (o : Obj), X.heap[k]? = some o → k ≠ bb → Y.heap[k]? = some o := fun k o ho hk => (hg.block k (Array.getElem?_eq_some_iff.1 ho).1 (fun e => hk (by injection e))).trans ho
  refine ⟨up _ _ h.r1 (by omega), hr, up _ _ h.rn (by omega), ?_, ⟨hg.os.trans h.be.os, hg.tape.trans h.be.tape, hg.output.trans h.be.output, Nat.le_trans h.be.size hg.size, fun k hk => (hg.block k (Nat.lt_of_lt_of_le hk h.be.size) (fun e => by injection e with e; omega)).trans (h.be.block k hk)⟩, h.nd, fun D hD => ⟨up _ _ (h.mks D hD).1 (by have := (h.mks D hD).2; omega), (h.mks D hD).2⟩⟩
  exact h.tb.keepM hg.size (fun k hk hB => hg.block k hk (fun e => by injection e with e; omega)) hgT

set_option maxRecDepth 100000 in
set_option maxHeartbeats 4000000 in
theorem CatalogMessages_walk (m : Int) (hm0 : -9223372036854775808 ≤ m) (hm1 : m ≤ 9223372036854775807) (w : World) (hG : G w) (hM : M w) :
    Calls Tryz.prog 4 #[.int .i64 m] w fun e w' => e = .returned (.bool true) ∧ Below w.heap.size w w' := by
  have HG := Lib.hid hG
  have HM := Lib.hid hM
  clear hG hM
  refine (callsIn_wide (n := 20)).1 ?_
  refine callsIn_of_wp_marks Tryz.func4 rfl trivial ?_ rfl
  simp only [Tryz.ntmps4, List.size_toArray, List.length_cons, List.length_nil, Nat.reduceAdd, Nat.reduceSub, Array.replicate_succ, Array.replicate_zero, List.push_toArray, List.append_toArray, List.nil_append, List.cons_append]
  have b0 : Below w.heap.size w (w.alloc (.cells #[.int .i64 m] 3)) := (Below.refl _ _).alloc (Nat.le_refl _) _
  have s0 := Row.new w 3 [.int .i64 m]
  change Row (w.alloc (.cells #[.int .i64 m] 3)) w.heap.size 3 [.int .i64 m] at s0
  gi_wp2_with fail
  refine ⟨trivial, (callsIn_wide.2 (awake15_any _ (HG.out.below b0) (HM.out.below b0))).mono ?_⟩
  rintro e w1 ⟨rfl, hb⟩
  have S1 := Lib.hid (And.intro (s0.below hb s0.lt) (b0.trans (hb.mono b0.size)))
  have hz1 := S1.out.1.lt
  clear b0 s0 hb
  obtain ⟨bb, hbb⟩ : ∃ bb, w1.heap.size = bb := ⟨_, rfl⟩
  gi_wp2_with fail
  have cb := (Row.new w1 3 [.int .i64 0]).alloc (.cells #[.int .i64 0] 3)
  have cn := Row.new (w1.alloc (.cells #[.int .i64 0] 3)) 3 [.int .i64 0]
  rw [World.size_alloc] at cn
  have bc : Below w1.heap.size w1 ((w1.alloc (.cells #[.int .i64 0] 3)).alloc (.cells #[.int .i64 0] 3)) := ((Below.refl _ _).alloc (Nat.le_refl _) _).alloc (by simp) _
  have zc : ((w1.alloc (.cells #[.int .i64 0] 3)).alloc (.cells #[.int .i64 0] 3)).heap.size = w1.heap.size + 2 := by simp
  change Row ((w1.alloc (.cells #[.int .i64 0] 3)).alloc (.cells #[.int .i64 0] 3)) w1.heap.size 3 [.int .i64 0] at cb
  change Row ((w1.alloc (.cells #[.int .i64 0] 3)).alloc (.cells #[.int .i64 0] 3)) (w1.heap.size + 1) 3 [.int .i64 0] at cn
  generalize ((w1.alloc (.cells #[.int .i64 0] 3)).alloc (.cells #[.int .i64 0] 3)) = wc at cb cn bc zc ⊢
  rw [hbb] at cb cn bc zc
  refine ⟨trivial, (callsIn_wide.2 (refTable_any _)).mono ?_⟩
  rintro e w2 ⟨g, rfl, hg, hT, hb⟩
  have Q0 : Hid (MSt w m wc.heap.size g bb (bb + 1) 0 0 [] w2) := Lib.hid ⟨(S1.out.1.below bc (by omega)).below hb (by omega), cb.below hb (by omega), cn.below hb (by omega), hT, S1.out.2.trans ((bc.trans (hb.mono (by omega))).mono (by have := S1.out.2.size; omega)), List.nodup_nil, fun D hD => by cases hD⟩
  have hz2 := hb.size
  obtain ⟨TB, hTB⟩ : ∃ TB, wc.heap.size = TB := ⟨_, rfl⟩
  rw [hTB] at Q0 hg hz2 zc
  have hTBb : bb + 2 ≤ TB := by omega
  clear cb cn bc S1 hT hb hTB zc
  gi_wp2_with fail
  refine wpIn_loop (fun a' W => ∃ (k : Nat) (Ds : List Nat) (u6 u7 u8 u9 u15 u16 u17 u18 u19 u20 u21 u22 u23 u24 u25 u26 u27 u28 u29 u30 u31 u32 u33 u34 u35 u36 u37 u38 u39 u40 u41 u42 u43 u44 u45 u46 u47 u48 u49 u50 u51 u52 u53 u54 u55 u56 u57 u58 u59 u60 u61 u62 u63 u64 u65 u66 u67 u68 : Value), a' = { tmps := List.toArray (Value.int .i64 m :: .pointer (some ⟨w.heap.size, 0, none⟩) :: .bool false :: .pointer (some ⟨bb, 0, none⟩) :: .pointer (some ⟨bb + 1, 0, none⟩) :: undef :: u6 :: u7 :: u8 :: u9 :: .bool true :: .bool false :: .slice (some ⟨g, 0, none⟩) 32 32 :: .int .i64 32 :: .int .i64 k :: u15 :: u16 :: u17 :: u18 :: u19 :: u20 :: u21 :: u22 :: u23 :: u24 :: u25 :: u26 :: u27 :: u28 :: u29 :: u30 :: u31 :: u32 :: u33 :: u34 :: u35 :: u36 :: u37 :: u38 :: u39 :: u40 :: u41 :: u42 :: u43 :: u44 :: u45 :: u46 :: u47 :: u48 :: u49 :: u50 :: u51 :: u52 :: u53 :: u54 :: u55 :: u56 :: u57 :: u58 :: u59 :: u60 :: u61 :: u62 :: u63 :: u64 :: u65 :: u66 :: u67 :: u68 :: undef :: undef :: undef :: undef :: undef :: undef :: undef :: undef :: undef :: undef :: undef :: undef :: undef :: undef :: undef :: undef :: undef :: undef :: undef :: undef :: undef :: undef :: undef :: []), defers := Ds.map fun D => { target := .collected D, args := #[] } } ∧ k ≤ 32 ∧ Hid (MSt w m TB g bb (bb + 1) (sumF (rowsI m k)) (rowsI m k).length Ds W)) (fun a' _ => 32 - (intOf (a'.tmps.getD 14 undef)).toNat) ⟨0, [], _, _, _, _, _, _, _, _, _, _, _, _, _, _, _, _, _, _, _, _, _, _, _, _, _, _, _, _, _, _, _, _, _, _, _, _, _, _, _, _, _, _, _, _, _, _, _, _, _, _, _, _, _, _, _, _, _, _, rfl, by omega, by rw [rowsI_zero]; exact Q0⟩ ?_
  intro a' wr hI
  obtain ⟨k, hI⟩ := hI
  obtain ⟨Ds, hI⟩ := hI
  obtain ⟨u6, hI⟩ := hI
  obtain ⟨u7, hI⟩ := hI
  obtain ⟨u8, hI⟩ := hI
  obtain ⟨u9, hI⟩ := hI
  obtain ⟨u15, hI⟩ := hI
  obtain ⟨u16, hI⟩ := hI
  obtain ⟨u17, hI⟩ := hI
  obtain ⟨u18, hI⟩ := hI
  obtain ⟨u19, hI⟩ := hI
  obtain ⟨u20, hI⟩ := hI
  obtain ⟨u21, hI⟩ := hI
  obtain ⟨u22, hI⟩ := hI
  obtain ⟨u23, hI⟩ := hI
  obtain ⟨u24, hI⟩ := hI
  obtain ⟨u25, hI⟩ := hI
  obtain ⟨u26, hI⟩ := hI
  obtain ⟨u27, hI⟩ := hI
  obtain ⟨u28, hI⟩ := hI
  obtain ⟨u29, hI⟩ := hI
  obtain ⟨u30, hI⟩ := hI
  obtain ⟨u31, hI⟩ := hI
  obtain ⟨u32, hI⟩ := hI
  obtain ⟨u33, hI⟩ := hI
  obtain ⟨u34, hI⟩ := hI
  obtain ⟨u35, hI⟩ := hI
  obtain ⟨u36, hI⟩ := hI
  obtain ⟨u37, hI⟩ := hI
  obtain ⟨u38, hI⟩ := hI
  obtain ⟨u39, hI⟩ := hI
  obtain ⟨u40, hI⟩ := hI
  obtain ⟨u41, hI⟩ := hI
  obtain ⟨u42, hI⟩ := hI
  obtain ⟨u43, hI⟩ := hI
  obtain ⟨u44, hI⟩ := hI
  obtain ⟨u45, hI⟩ := hI
  obtain ⟨u46, hI⟩ := hI
  obtain ⟨u47, hI⟩ := hI
  obtain ⟨u48, hI⟩ := hI
  obtain ⟨u49, hI⟩ := hI
  obtain ⟨u50, hI⟩ := hI
  obtain ⟨u51, hI⟩ := hI
  obtain ⟨u52, hI⟩ := hI
  obtain ⟨u53, hI⟩ := hI
  obtain ⟨u54, hI⟩ := hI
  obtain ⟨u55, hI⟩ := hI
  obtain ⟨u56, hI⟩ := hI
  obtain ⟨u57, hI⟩ := hI
  obtain ⟨u58, hI⟩ := hI
  obtain ⟨u59, hI⟩ := hI
  obtain ⟨u60, hI⟩ := hI
  obtain ⟨u61, hI⟩ := hI
  obtain ⟨u62, hI⟩ := hI
  obtain ⟨u63, hI⟩ := hI
  obtain ⟨u64, hI⟩ := hI
  obtain ⟨u65, hI⟩ := hI
  obtain ⟨u66, hI⟩ := hI
  obtain ⟨u67, hI⟩ := hI
  obtain ⟨u68, hI⟩ := hI
  obtain ⟨rfl, hk, QS⟩ := hI
  clear Q0
  have hbd := rowsI_bd m k hk
  have hQz := QS.out.be.size
  have hQn := QS.out.rn.lt
  have hQg := QS.out.tb.lt
  by_cases hlt : k < 32
  · have hltI : (k : Int) < 32 := by omega
    obtain ⟨v2, hc2, hs2⟩ := rtab_at QS.out.tb k hlt
    have hfk := chk_allM k hlt
    have hsz := sz_le k hlt
    have HT9 := Lib.hid (And.intro (txt_le k hlt) (fun mm h1 h9 x hx hn => ms_same2 mm h1 h9 k hlt x hx hn))
    have HC9 := Lib.hid (And.intro (fun mm h1 h9 => ms_cnt mm h1 h9 k hlt) (fun mm => rowsM_succ mm k hlt))
    obtain ⟨fk, hfkE⟩ : ∃ fk, tblF.getD k fd0 = fk := ⟨_, rfl⟩
    rw [hfkE] at hc2 hs2 hfk hsz HT9 HC9
    clear hfkE
    obtain ⟨a2, cap2, rfl⟩ := hs2.form
    have j0 := hc2 0 (by omega)
    have j1 := hc2 1 (by omega)
    have j2 := hc2 2 (by omega)
    have j3 := hc2 3 (by omega)
    have j4 := hc2 4 (by omega)
    have j5 := hc2 5 (by omega)
    simp only [fieldC2, List.getElem?_cons_zero, List.getElem?_cons_succ, Nat.add_zero] at j0 j1 j2 j3 j4 j5
    have c1 := QS.out.r1.cell 0
    simp only [List.getElem?_cons_zero] at c1
    have hr1 := QS.out.r1.lt
    have HSS := Lib.hid hs2
    clear hc2 hs2
    have hab : Below wr.heap.size wr (wr.alloc (.cells (fieldC2 fk (.slice a2 fk.rule.texts.length cap2)).toArray 36)) := (Below.refl _ _).alloc (Nat.le_refl _) _
    have Q1 := Lib.hid (QS.out.below hab)
    have HAB := Lib.hid hab
    clear hab
    by_cases hin : 1 ≤ m ∧ m ≤ 9
    · obtain ⟨mn, rfl⟩ := Int.eq_ofNat_of_zero_le (show 0 ≤ m by omega)
      have m1 : ¬ (mn : Int) < 1 := by omega
      have m9 : ¬ 9 < (mn : Int) := by omega
      obtain ⟨mi, hmi⟩ : ∃ mi : Nat, (mn : Int) - 1 = (mi : Int) := ⟨mn - 1, by omega⟩
      have hmi9 : mi < 9 ∧ mn - 1 = mi := by omega
      have hix := run_index_str_d (P := Tryz.prog) 9 fk.inn mi Tryz.underlying9 (by omega)
      have hlet : (fk.inn.data.toList.getD mi 0).toNat = letF fk mn := by unfold letF; rw [hmi9.2]
      rw [hlet] at hix
      obtain ⟨c, hc⟩ : ∃ c, letF fk mn = c := ⟨_, rfl⟩
      rw [hc] at hix
      have HRS := Lib.hid (HC9.out.2 mn)
      rw [hc] at HRS
      by_cases h45 : c = 45
      · subst h45
        have hs9 := HRS.out
        rw [if_pos rfl] at hs9
        have Q2 := Q1
        rw [rowsI_in (by omega) (by omega), ← hs9, ← rowsI_in (by omega) (by omega)] at Q2
        clear Q1 hs9 hlet HRS
        have h45I : (((45 : Nat) : Int) == 45) = true := rfl
        gi_wp2_with fail
        exact ⟨⟨k + 1, Ds, ⟨by omega, rfl⟩, by omega, Q2⟩, by simp [intOf]; omega⟩
      · have h45I : ((c : Int) == 45) = false := beq_eq_false_iff_ne.2 (by omega)
        have h82 : ((c : Int) == 82) = (c == 82) := by
          by_cases h : c = 82
          · subst h; rfl
          · rw [beq_eq_false_iff_ne.2 (by omega), beq_eq_false_iff_ne.2 h]
        have HH := Lib.hid (And.intro hlet hc)
        clear hlet hc
        gi_wp2_with fail
        have ra := (Row.new wr 36 (fieldC2 fk (.slice a2 fk.rule.texts.length cap2))).alloc (.cells #[.bool false] 4)
        have rf := Row.new (wr.alloc (.cells (fieldC2 fk (.slice a2 fk.rule.texts.length cap2)).toArray 36)) 4 [.bool false]
        rw [World.size_alloc] at rf
        have rbb : Below wr.heap.size wr ((wr.alloc (.cells (fieldC2 fk (.slice a2 fk.rule.texts.length cap2)).toArray 36)).alloc (.cells #[.bool false] 4)) := ((Below.refl _ _).alloc (Nat.le_refl _) _).alloc (by simp) _
        have rzz : ((wr.alloc (.cells (fieldC2 fk (.slice a2 fk.rule.texts.length cap2)).toArray 36)).alloc (.cells #[.bool false] 4)).heap.size = wr.heap.size + 2 := by simp
        change Row ((wr.alloc (.cells #[.string fk.name, .int .i64 fk.rule.kind, .int .i64 fk.rule.least, .int .i64 fk.rule.most, .slice a2 fk.rule.texts.length cap2, .string fk.inn] 36)).alloc (.cells #[.bool false] 4)) wr.heap.size 36 (fieldC2 fk (.slice a2 fk.rule.texts.length cap2)) at ra
        change Row ((wr.alloc (.cells #[.string fk.name, .int .i64 fk.rule.kind, .int .i64 fk.rule.least, .int .i64 fk.rule.most, .slice a2 fk.rule.texts.length cap2, .string fk.inn] 36)).alloc (.cells #[.bool false] 4)) (wr.heap.size + 1) 4 [.bool false] at rf
        change Below wr.heap.size wr ((wr.alloc (.cells #[.string fk.name, .int .i64 fk.rule.kind, .int .i64 fk.rule.least, .int .i64 fk.rule.most, .slice a2 fk.rule.texts.length cap2, .string fk.inn] 36)).alloc (.cells #[.bool false] 4)) at rbb
        change ((wr.alloc (.cells #[.string fk.name, .int .i64 fk.rule.kind, .int .i64 fk.rule.least, .int .i64 fk.rule.most, .slice a2 fk.rule.texts.length cap2, .string fk.inn] 36)).alloc (.cells #[.bool false] 4)).heap.size = wr.heap.size + 2 at rzz
        generalize ((wr.alloc (.cells #[.string fk.name, .int .i64 fk.rule.kind, .int .i64 fk.rule.least, .int .i64 fk.rule.most, .slice a2 fk.rule.texts.length cap2, .string fk.inn] 36)).alloc (.cells #[.bool false] 4)) = wb at ra rf rbb rzz ⊢
        refine ⟨trivial, (Of_in _ mn _).mono ?_⟩
        rintro e w3 ⟨rfl, rfl⟩
        have hcm := Row.new wb 3 [.int .i64 (mn : Int)]
        have hb3 : Below wb.heap.size wb (wb.alloc (.cells #[.int .i64 (mn : Int)] 3)) := (Below.refl _ _).alloc (Nat.le_refl _) _
        have z3 : (wb.alloc (.cells #[.int .i64 (mn : Int)] 3)).heap.size = wr.heap.size + 3 := by simp; omega
        obtain ⟨by0, hby0⟩ : ∃ by0, sumF (rowsI (mn : Int) k) = by0 := ⟨_, rfl⟩
        obtain ⟨n0, hn0⟩ : ∃ n0 : Nat, (rowsI (mn : Int) k).length = n0 := ⟨_, rfl⟩
        rw [hby0, hn0] at QS hbd
        have I0 : Hid (MIn wr bb by0 fk (.slice a2 fk.rule.texts.length cap2) 0 (wb.alloc (.cells #[.int .i64 (mn : Int)] 3))) := Lib.hid (by
          have hst := (QS.out.below rbb).below hb3
          have hbw := rbb.trans (hb3.mono rbb.size)
          refine ⟨⟨hbw.os, hbw.tape, hbw.output, hbw.size, fun k hk _ => hbw.block k hk⟩, ?_, ra.alloc _, rf.alloc _⟩
          rw [show by0 + ((0 : Nat) : Int) * szF fk = by0 by simp]
          exact hst.rb)
        have hDs : Hid (∀ D ∈ Ds, D < wr.heap.size) := Lib.hid fun D hD => (Array.getElem?_eq_some_iff.1 (QS.out.mks D hD).1).1
        rw [rzz] at hcm
        have hlb := QS.out.rb.lt
        clear Q1 ra rf rbb hb3 j0 j1 j2 j3 j4 j5 c1
        gi_wp2_with fail
        change Row (wb.alloc (.cells #[.int .i64 (mn : Int)] 3)) (wr.heap.size + 2) 3 [.int .i64 (mn : Int)] at hcm
        generalize wb.alloc (.cells #[.int .i64 (mn : Int)] 3) = w3 at hcm z3 I0 ⊢
        refine' range_rel (T := fun _ q => q = wr.heap.size + 1 ∨ q = bb) rfl (by omega) (gf := 29) (lb := #[.pointer (some ⟨wr.heap.size + 2, 0, none⟩)]) rfl trivial (enters_of Tryz.func29 (by kernel_rfl) rfl)
          (Of_stopsI 19 (by omega) (wr.heap.size + 2) mn w3 hcm) (fun o h => h) (fun _ _ _ q h => h) (fun q h => ⟨by omega, fun _ e => by rcases e with e | e <;> omega⟩) (Below.refl _ _) (fun B x av W h => by obtain ⟨v, rfl, _⟩ := h; rfl)
          (fun pre W => MIn wr bb by0 fk (.slice a2 fk.rule.texts.length cap2) (cntN fk pre) W)
          (fun _ _ _ => False)
          (fun pre X Y row hs hg hr => hs.grown (B := w3.heap.size) hg hr (by omega)) (fun c => OwnK.pure)
          I0.out
          (fun pre W h q hq => ⟨by have h1 := h.rf.lt; have h2 := h.rb.lt; rcases hq with rfl | rfl <;> assumption, fun hge => by rcases hq with rfl | rfl <;> omega⟩)
          (fun x a W => ∃ bx v, w3.heap.size + 2 ≤ bx ∧ a = { tmps := List.toArray (Value.int IntKind.i64 ↑mn :: Value.pointer (some ⟨w.heap.size, 0, none⟩) :: Value.bool false :: Value.pointer (some ⟨bb, 0, none⟩) :: Value.pointer (some ⟨bb + 1, 0, none⟩) :: undef :: Value.pointer (some ⟨wr.heap.size, 0, none⟩) :: Value.pointer (some ⟨wr.heap.size + 1, 0, none⟩) :: .pointer (some ⟨bx, 0, none⟩) :: .bool x.2 :: Value.bool true :: Value.bool false :: Value.slice (some ⟨g, 0, none⟩) 32 32 :: Value.int IntKind.i64 32 :: Value.int IntKind.i64 ↑k :: Value.bool true :: Value.pointer (some ⟨g, k * 6, none⟩) :: Value.agg #[Value.string fk.name, Value.int IntKind.i64 fk.rule.kind, Value.int IntKind.i64 fk.rule.least, Value.int IntKind.i64 fk.rule.most, Value.slice a2 fk.rule.texts.length cap2, Value.string fk.inn] :: Value.int IntKind.i64 ↑mn :: Value.bool false :: Value.bool false :: Value.int IntKind.i64 ↑mn :: Value.bool false :: Value.bool false :: Value.bool false :: Value.pointer (some ⟨wr.heap.size, 5, none⟩) :: Value.string fk.inn :: Value.int IntKind.i64 ↑mn :: Value.int IntKind.i64 ↑mi :: Value.int IntKind.u8 ↑c :: Value.bool false :: Value.bool false :: Value.int IntKind.i64 ↑mn :: Value.func (Fn.func 29) #[] #[Value.pointer (some ⟨wr.heap.size + 2, 0, none⟩)] :: .agg (fieldC x.1 v).toArray :: .bool x.2 :: u36 :: u37 :: u38 :: u39 :: u40 :: u41 :: u42 :: u43 :: u44 :: u45 :: u46 :: u47 :: u48 :: u49 :: u50 :: u51 :: u52 :: u53 :: u54 :: u55 :: u56 :: u57 :: u58 :: u59 :: u60 :: u61 :: u62 :: u63 :: u64 :: u65 :: u66 :: u67 :: u68 :: undef :: undef :: undef :: undef :: undef :: undef :: undef :: undef :: undef :: undef :: undef :: undef :: undef :: undef :: undef :: undef :: undef :: undef :: undef :: undef :: undef :: undef :: undef :: []), defers := [] } ∧ Row W bx 32 (fieldC x.1 v) ∧ StrsB (w3.heap.size + 2) W v x.1.rule.texts)
          ?iap ?iassign ?ibody ?idone ?istop
        case iap =>
          rintro x a' W2 o' ⟨bx, v, h1, ha, hr, hss⟩
          exact ⟨bx, v, h1, ha, (World.putObj_heap_other (by omega)).trans hr, strsB_putObj hss (by omega) o'⟩
        case iassign =>
          rintro l2 pre x av W2 K2 hI hpre2 hsz2 ⟨v, rfl, hss⟩ hK
          obtain ⟨a0, cap, rfl⟩ := hss.form
          have HI := Lib.hid hI
          have HK := Lib.hid hK
          have HSs := Lib.hid hss
          have HAB2 : Hid (∀ o : Obj, Below W2.heap.size W2 (W2.alloc o)) := Lib.hid fun o => (Below.refl _ _).alloc (Nat.le_refl _) _
          clear hI hss hK
          simp only [fieldC]
          gi_wp2
          exact HK.out _ _ ⟨(HAB2.out _).size, fun j o hj ho hc => ((HAB2.out _).block j (Array.getElem?_eq_some_iff.1 ho).1).trans ho⟩ (keepsT_below (B := w3.heap.size) (LowT.with fun _ _ _ q h => h) (by omega) (HAB2.out _))
            (HI.out.below (HAB2.out _)) ⟨W2.heap.size, .slice a0 x.1.rule.texts.length cap, hsz2, rfl, Row.new W2 _ _, HSs.out.below (HAB2.out _)⟩
        case ibody =>
          rintro l2 pre ⟨f, rq⟩ a' W2 hI hpre2 hsz2 ⟨bx, v, hbx, rfl, hrx, hss⟩
          obtain ⟨a0, cap, rfl⟩ := hss.form
          have hxm := hpre2.subset (List.mem_append_right pre (List.mem_singleton.2 rfl))
          have hcs := cntN_snoc fk pre (f, rq)
          simp only at hcs
          have hcl : cntN fk pre ≤ 32 := by
            have h1 := hpre2.length_le
            have h2 := mL_len (mn : Int)
            rw [List.length_append] at h1
            have h3 : cntN fk pre ≤ pre.length := List.length_filter_le _ _
            omega
          have d0 := hrx.cell 0
          have e0 := hI.rr.cell 0
          simp only [fieldC, fieldC2, List.getElem?_cons_zero] at d0 e0
          by_cases hn : f.name = fk.name
          · have heq : (f.name.toList == fk.name.toList) = true := by rw [hn]; simp
            rw [mL_in (by omega) (by omega)] at hxm
            obtain ⟨hfe, hrq⟩ := HT9.out.2 mn (by omega) (by omega) (f, rq) hxm (by simpa using hn)
            simp only at hfe hrq
            subst hfe
            rw [HH.out.2] at hrq
            obtain ⟨E, hE⟩ : ∃ E, (c == 82) = E := ⟨_, rfl⟩
            rw [hE] at hrq h82
            subst hrq
            have hEE : (rq == rq) = true := by cases rq <;> rfl
            rw [if_pos rfl] at hcs
            have d1 := hrx.cell 1
            have d2 := hrx.cell 2
            have d3 := hrx.cell 3
            have d4 := hrx.cell 4
            have d5 := hrx.cell 5
            have e1 := hI.rr.cell 1
            have e2 := hI.rr.cell 2
            have e3 := hI.rr.cell 3
            have e4 := hI.rr.cell 4
            have e5 := hI.rr.cell 5
            have hr1W : Row W2 w.heap.size 3 [.int .i64 (mn : Int)] := (hI.kp.block _ hr1 (by simp; omega)).trans QS.out.r1
            have g1 := hr1W.cell 0
            have g0 := hI.rf.cell 0
            have gf := hI.rf.frozen 0
            have gl := hI.rf.lt
            simp only [fieldC, fieldC2, List.getElem?_cons_zero, List.getElem?_cons_succ] at d1 d2 d3 d4 d5 e1 e2 e3 e4 e5 g1 g0
            have hI2 := hI.kp
            have HI := Lib.hid hI
            have HSs := Lib.hid hss
            have HRx := Lib.hid hrx
            clear hI hss hrx hxm hn hE
            have hts : Strs W2 (.slice a2 f.rule.texts.length cap2) f.rule.texts := (HSS.out.keep HI.out.kp.size (fun q hB hl => HI.out.kp.block q hl (by simp; omega))).strs
            have HTS := Lib.hid hts
            have HF9 := Lib.hid (And.intro hfk.1 (And.intro (show f.rule.texts.length ≤ 1000000 by have := hfk.2.1; omega) HT9.out.1))
            have hkpz := hI2.size
            clear hr1W hts
            gi_wp2_with fail
            refine ⟨trivial, (CallsIn.inRound _ (callsIn_wide.2 (same_any f _ _ _ HSs.out.strs HTS.out hfk.2.1))).mono ?_⟩
            rintro e w5 ⟨rfl, hb5⟩
            have HI5 := Lib.hid (HI.out.below hb5)
            have HSs5 := Lib.hid (HSs.out.below hb5)
            have HRx5 := Lib.hid (HRx.out.below hb5 HRx.out.lt)
            have hb5z := hb5.size
            have g0 := HI5.out.rf.cell 0
            have gf := HI5.out.rf.frozen 0
            have gl := HI5.out.rf.lt
            simp only [List.getElem?_cons_zero] at g0
            obtain ⟨W7, hW7⟩ : ∃ W7, Hid (w5.setCell ⟨wr.heap.size + 1, 0, none⟩ (.bool true) = W7) := ⟨_, Lib.hid rfl⟩
            have HK5 := Lib.hid hb5
            clear hb5 d0 d1 d2 d3 d4 d5 e0 e1 e2 e3 e4 e5 g1 hix
            gi_wp2_with fail
            rw [hW7.out]
            obtain ⟨LN, hLN0⟩ : ∃ LN, longN f.rule.kind f.rule.least f.rule.most f.rule.texts = LN := ⟨_, rfl⟩
            have hLN := Lib.hid hLN0
            rw [hLN0] at hsz
            have hszE : szF f = f.name.size + LN + 6 := by unfold szF; rw [hLN0]
            obtain ⟨by2, hby2⟩ : ∃ by2, by0 + (cntN f pre : Int) * szF f = by2 := ⟨_, rfl⟩
            have hszb : 0 ≤ szF f ∧ szF f ≤ 4096 := by
              rw [hszE]
              omega
            have hmul : (0 : Int) ≤ (cntN f pre : Int) * szF f ∧ (cntN f pre : Int) * szF f ≤ 32 * 4096 := by
              refine ⟨Int.mul_nonneg (by omega) (by omega), Int.le_trans (Int.mul_le_mul (a := (cntN f pre : Int)) (b := szF f) (c := 32) (d := 4096) (by omega) (by omega) (by omega) (by omega)) (by omega)⟩
            have hw1 := Lib.hid (show IntKind.i64.wrap ((f.name.size : Int) + LN) = (f.name.size : Int) + LN from IntWalk.i64_in _ (by omega))
            have hw2 := Lib.hid (show IntKind.i64.wrap ((f.name.size : Int) + LN + 6) = (f.name.size : Int) + LN + 6 from IntWalk.i64_in _ (by omega))
            have hw3 := Lib.hid (show IntKind.i64.wrap (by2 + ((f.name.size : Int) + LN + 6)) = by2 + ((f.name.size : Int) + LN + 6) from IntWalk.i64_in _ (by omega))
            have HR9 : Hid (Row W7 bb 3 [.int .i64 by2] ∧ wr.grownBy W7 (some bb) ∧ (Row W7 wr.heap.size 36 (fieldC2 f (.slice a2 f.rule.texts.length cap2)) ∧ Row W7 (wr.heap.size + 1) 4 [.bool true]) ∧ Row W7 bx 32 (fieldC f (.slice a0 f.rule.texts.length cap)) ∧ StrsB (w3.heap.size + 2) W7 (.slice a0 f.rule.texts.length cap) f.rule.texts) := Lib.hid (by
              rw [← hW7.out]
              have h := HI5.out
              have hrb := h.rb
              rw [hby2] at hrb
              refine ⟨hrb.far (by show bb ≠ wr.heap.size + 1; omega) _, grown_setM h.kp (.inl (by omega)) _, ⟨h.rr.far (by show wr.heap.size ≠ wr.heap.size + 1; omega) _, h.rf.set 0 _⟩, HRx5.out.far (by show bx ≠ wr.heap.size + 1; omega) _, HSs5.out.keep (by simp [World.setCell]) (fun q hB hl => Below.heap_setCell _ ⟨wr.heap.size + 1, 0, none⟩ _ q (by show q ≠ wr.heap.size + 1; omega))⟩)
            have HKW : Hid (KeepsT (withT (w3.heap.size + 1) fun _ q => q = wr.heap.size + 1 ∨ q = bb) W2 W7 ∧ W2.heap.size ≤ W7.heap.size ∧ ∀ q, q < W2.heap.size → q ≠ wr.heap.size + 1 → W7.heap[q]? = W2.heap[q]?) := Lib.hid (by
              rw [← hW7.out]
              have hk : ∀ q, q < W2.heap.size → q ≠ wr.heap.size + 1 → (w5.setCell ⟨wr.heap.size + 1, 0, none⟩ (.bool true)).heap[q]? = W2.heap[q]? := fun q hq hn => (Below.heap_setCell _ ⟨wr.heap.size + 1, 0, none⟩ _ q hn).trans (HK5.out.block q hq)
              exact ⟨⟨by simp [World.setCell]; omega, fun q hq ht => ⟨hk q hq (fun e => ht (.inr (.inl e))), ht⟩⟩, by simp [World.setCell]; omega, hk⟩)
            have hmx : Tryz.prog.follows .mixedOrders = true := by kernel_rfl
            clear g0 gf gl
            refine wpIn_region_slotsGB (m := 10) [10] hmx (by kernel_rfl) (fun ix v _ => v = ([.int .i64 by2, .pointer (some ⟨bx, 0, none⟩), .string f.name, .int .i64 f.name.size, .pointer (some ⟨bx, 1, none⟩), .agg #[.int .i64 f.rule.kind, .int .i64 f.rule.least, .int .i64 f.rule.most, .slice a0 f.rule.texts.length cap], .int .i64 LN, .int .i64 (f.name.size + LN), .int .i64 (f.name.size + LN + 6), .int .i64 (by2 + (f.name.size + LN + 6))] : List Value).getD ix undef) (Below W7.heap.size W7) (by kernel_rfl) (by kernel_rfl) (fun i v W W' h _ => h) (below_drewN_c (Below.refl _ _) 1) ?_ ?_
            · refine ⟨?_, ?_, ?_, ?_, ?_, ?_, ?_, ?_, ?_, ?_, trivial⟩
              · intro ρ vals W hC hd ht hk hg hf
                have e3 := ht 3
                rw [evalS_old (by kernel_rfl)] at e3
                clear ht hd
                have q := (HR9.out.1.below hC HR9.out.1.lt).cell 0
                simp only [List.getElem?_cons_zero] at q
                unfold StepG
                unfold StepOK
                go_simp
                first | exact Below.refl _ _ | exact ⟨hC, Below.refl _ _⟩
              · intro ρ vals W hC hd ht hk hg hf
                have e8 := ht 8
                rw [evalS_old (by kernel_rfl)] at e8
                clear ht hd
                unfold StepG
                unfold StepOK
                go_simp
                first | exact Below.refl _ _ | exact ⟨hC, Below.refl _ _⟩
              · intro ρ vals W hC hd ht hk hg hf
                have e55 := ht 55
                have d1 := hd 1 (by kernel_rfl)
                rw [evalS_tmp (i := 1) (by kernel_rfl), d1] at e55
                clear ht hd d1
                have hr' := HR9.out.2.2.2.1.below hC HR9.out.2.2.2.1.lt
                have k0 := hr'.cell 0
                have k1 := hr'.cell 1
                have k2 := hr'.cell 2
                have k3 := hr'.cell 3
                have k4 := hr'.cell 4
                have k5 := hr'.cell 5
                simp only [fieldC, List.getElem?_cons_zero, List.getElem?_cons_succ] at k0 k1 k2 k3 k4 k5
                unfold StepG
                unfold StepOK
                go_simp
                first | exact Below.refl _ _ | exact ⟨hC, Below.refl _ _⟩
              · intro ρ vals W hC hd ht hk hg hf
                have e56 := ht 56
                have d2 := hd 2 (by kernel_rfl)
                rw [evalS_tmp (i := 2) (by kernel_rfl), d2] at e56
                clear ht hd d2
                unfold StepG
                unfold StepOK
                go_simp
                first | exact Below.refl _ _ | exact ⟨hC, Below.refl _ _⟩
              · intro ρ vals W hC hd ht hk hg hf
                have e8 := ht 8
                rw [evalS_old (by kernel_rfl)] at e8
                clear ht hd
                unfold StepG
                unfold StepOK
                go_simp
                first | exact Below.refl _ _ | exact ⟨hC, Below.refl _ _⟩
              · intro ρ vals W hC hd ht hk hg hf
                have e58 := ht 58
                have d4 := hd 4 (by kernel_rfl)
                rw [evalS_tmp (i := 4) (by kernel_rfl), d4] at e58
                clear ht hd d4
                have hr' := HR9.out.2.2.2.1.below hC HR9.out.2.2.2.1.lt
                have k0 := hr'.cell 0
                have k1 := hr'.cell 1
                have k2 := hr'.cell 2
                have k3 := hr'.cell 3
                have k4 := hr'.cell 4
                have k5 := hr'.cell 5
                simp only [fieldC, List.getElem?_cons_zero, List.getElem?_cons_succ] at k0 k1 k2 k3 k4 k5
                unfold StepG
                unfold StepOK
                go_simp
                first | exact Below.refl _ _ | exact ⟨hC, Below.refl _ _⟩
              · intro ρ vals W hC hd ht hk hg hf
                have e59 := ht 59
                have d5 := hd 5 (by kernel_rfl)
                rw [evalS_tmp (i := 5) (by kernel_rfl), d5] at e59
                clear ht hd d5
                unfold StepG
                unfold StepOK
                go_simp
                refine (Longest_any f.rule HF9.out.1 _ W (HR9.out.2.2.2.2.strs.below (Nat.le_refl _) hC) HF9.out.2.1 HF9.out.2.2).mono ?_
                rintro e w9 ⟨rfl, hb⟩
                exact ⟨_, rfl, by rw [hLN.out], hC.trans (hb.mono hC.size), hb⟩
              · intro ρ vals W hC hd ht hk hg hf
                have e57 := ht 57
                have d3 := hd 3 (by kernel_rfl)
                rw [evalS_tmp (i := 3) (by kernel_rfl), d3] at e57
                have e60 := ht 60
                have d6 := hd 6 (by kernel_rfl)
                rw [evalS_tmp (i := 6) (by kernel_rfl), d6] at e60
                clear ht hd d3 d6
                have hwA := hw1.out
                unfold StepG
                unfold StepOK
                go_simp
                first | exact Below.refl _ _ | exact ⟨hC, Below.refl _ _⟩
              · intro ρ vals W hC hd ht hk hg hf
                have e61 := ht 61
                have d7 := hd 7 (by kernel_rfl)
                rw [evalS_tmp (i := 7) (by kernel_rfl), d7] at e61
                clear ht hd d7
                have hwA := hw2.out
                unfold StepG
                unfold StepOK
                go_simp
                first | exact Below.refl _ _ | exact ⟨hC, Below.refl _ _⟩
              · intro ρ vals W hC hd ht hk hg hf
                have e54 := ht 54
                have d0 := hd 0 (by kernel_rfl)
                rw [evalS_tmp (i := 0) (by kernel_rfl), d0] at e54
                have e62 := ht 62
                have d8 := hd 8 (by kernel_rfl)
                rw [evalS_tmp (i := 8) (by kernel_rfl), d8] at e62
                clear ht hd d0 d8
                have hwA := hw3.out
                unfold StepG
                unfold StepOK
                go_simp
                first | exact Below.refl _ _ | exact ⟨hC, Below.refl _ _⟩
            · intro vals W hC hR
              have r0 : vals 0 = .int .i64 by2 := hR 0 (by omega)
              have r1 : vals 1 = .pointer (some ⟨bx, 0, none⟩) := hR 1 (by omega)
              have r2 : vals 2 = .string f.name := hR 2 (by omega)
              have r3 : vals 3 = .int .i64 f.name.size := hR 3 (by omega)
              have r4 : vals 4 = .pointer (some ⟨bx, 1, none⟩) := hR 4 (by omega)
              have r5 : vals 5 = .agg #[.int .i64 f.rule.kind, .int .i64 f.rule.least, .int .i64 f.rule.most, .slice a0 f.rule.texts.length cap] := hR 5 (by omega)
              have r6 : vals 6 = .int .i64 LN := hR 6 (by omega)
              have r7 : vals 7 = .int .i64 (f.name.size + LN) := hR 7 (by omega)
              have r8 : vals 8 = .int .i64 (f.name.size + LN + 6) := hR 8 (by omega)
              have r9 : vals 9 = .int .i64 (by2 + (f.name.size + LN + 6)) := hR 9 (by omega)
              clear hR
              simp only [List.take, putsS, Act.put, List.setIfInBounds_toArray, List.set_cons_zero, List.set_cons_succ, Nat.reduceAdd, r0, r1, r2, r3, r4, r5, r6, r7, r8, r9]
              clear r0 r1 r2 r3 r4 r5 r6 r7 r8 r9
              have R2 := HR9.out.1.below hC HR9.out.1.lt
              have c8 := R2.cell 0
              have f8 := R2.frozen 0
              have l8 := R2.lt
              simp only [List.getElem?_cons_zero] at c8
              have hkC := Lib.hid hC
              have hzC := hC.size
              clear R2 hC
              refine wpOpsIn_one _ (by rfl) ?_
              gi_wp2_with fail
              obtain ⟨h1, h2, ⟨h3, h4⟩, h5, h6⟩ := HR9.out
              have g2 := grown_setM (grown_belowM h2 hkC.out) (.inr rfl : wr.heap.size ≤ bb ∨ bb = bb) (.int .i64 (by2 + (f.name.size + LN + 6)))
              have p1 := (h1.below hkC.out h1.lt).set 0 (.int .i64 (by2 + (f.name.size + LN + 6)))
              have p3 := (h3.below hkC.out h3.lt).far (p := ⟨bb, 0, none⟩) (by show wr.heap.size ≠ bb; omega) (.int .i64 (by2 + (f.name.size + LN + 6)))
              have p4 := (h4.below hkC.out h4.lt).far (p := ⟨bb, 0, none⟩) (by show wr.heap.size + 1 ≠ bb; omega) (.int .i64 (by2 + (f.name.size + LN + 6)))
              have hW2z := HKW.out.2.1
              have kk : ∀ q, q < W2.heap.size → q ≠ wr.heap.size + 1 → q ≠ bb → (W.setCell ⟨bb, 0, none⟩ (.int .i64 (by2 + (f.name.size + LN + 6)))).heap[q]? = W2.heap[q]? := fun q hq hn hn2 => (Below.heap_setCell _ ⟨bb, 0, none⟩ _ q hn2).trans ((hkC.out.block q (by omega)).trans (HKW.out.2.2 q hq hn))
              refine ⟨⟨by simp [World.setCell]; omega, fun j o hj ho hc => (kk j (Array.getElem?_eq_some_iff.1 ho).1 (by omega) (by omega)).trans ho⟩, ⟨by simp [World.setCell]; omega, fun j hj ht => ⟨kk j hj (fun e => ht (.inr (.inl e))) (fun e => ht (.inr (.inr e))), ht⟩⟩, ⟨g2, ?_, p3, ?_⟩⟩
              · rw [hcs, show by0 + ((cntN f pre + 1 : Nat) : Int) * szF f = by2 + (f.name.size + LN + 6) by rw [← hby2, ← hszE, Int.natCast_add, Int.add_mul]; simp; omega]
                exact p1
              · rw [hcs, decide_eq_true (Nat.succ_pos _)]
                exact p4
          · have hneq := str_neC hn
            have HI2 := Lib.hid hI
            rw [if_neg hn, Nat.add_zero] at hcs
            clear hI hn hxm
            gi_wp2_with fail
            refine ⟨⟨Nat.le_refl _, fun j o hj ho hc => ho⟩, ⟨Nat.le_refl _, fun j hj ht => ⟨rfl, ht⟩⟩, ?_⟩
            simp only [hcs]
            exact HI2.out
        case istop =>
          rintro D2 c pre W2 hD2 hp h hK2
          exact h.elim
        case idone =>
          rintro D2 W2 hD2 hI hK2
          have hc1 := HC9.out.1 mn (by omega) (by omega) (by rw [HH.out.2]; exact h45)
          rw [← mL_in (by omega) (by omega)] at hc1
          rw [hc1] at hI
          have q64 := hI.rf.cell 0
          have z2 := hI.kp.size
          have hrsK := HRS.out
          rw [if_neg h45] at hrsK
          have hgr : MSt w (mn : Int) TB g bb (bb + 1) (by0 + szF fk) n0 Ds W2 := QS.out.turn hI.kp (by omega) hTBb hg (by have h := hI.rb; rw [show ((1 : Nat) : Int) * szF fk = szF fk by simp] at h; exact h)
          have n3 := hgr.rn.cell 0
          have n4 := hgr.rn.lt
          have n5 := hgr.rn.frozen 0
          simp only [List.getElem?_cons_zero] at q64 n3
          rw [show decide (0 < 1) = true from rfl] at q64
          have HGR := Lib.hid hgr
          have HRK := Lib.hid hrsK
          clear hgr hrsK hI HC9 HRS
          have hn1 : IntKind.i64.wrap ((n0 : Int) + 1) = (n0 : Int) + 1 := IntWalk.i64_in _ (by omega)
          gi_wp2_with fail
          refine ⟨⟨k + 1, D2 :: Ds, _, _, _, _, _, _, _, _, _, _, _, _, _, _, _, _, _, _, _, _, _, _, _, _, _, _, _, _, _, _, _, _, _, _, _, _, _, _, _, _, _, _, _, _, _, _, _, _, _, _, _, _, _, _, _, _, _, _, rfl, by omega, Lib.hid ?_⟩, by simp [intOf]; omega⟩
          have e1 : rowsI (mn : Int) (k + 1) = rowsI (mn : Int) k ++ [(fk, c == 82)] := by rw [rowsI_in (by omega) (by omega), rowsI_in (by omega) (by omega), HRK.out]
          rw [e1, sumF_snoc, List.length_append, hby0, hn0]
          obtain ⟨p1, p2, p3, p4, p5, p6, p7⟩ := HGR.out
          refine ⟨p1.far (by show w.heap.size ≠ bb + 1; omega) _, p2.far (by show bb ≠ bb + 1; omega) _, ?_, p4.keepM (by simp [World.setCell]) (fun q hq hB => Below.heap_setCell _ ⟨bb + 1, 0, none⟩ _ q (by show q ≠ bb + 1; omega)) hg, p5.setCell (p := ⟨bb + 1, 0, none⟩) (by show w.heap.size ≤ bb + 1; omega) _, List.nodup_cons.2 ⟨fun hm => by have := hDs.out D2 hm; omega, p6⟩, fun D hD => ?_⟩
          · rw [show ((n0 + [(fk, c == 82)].length : Nat) : Int) = (n0 : Int) + 1 by simp]
            exact p3.set 0 _
          · have hDb : bb + 1 < D ∧ W2.heap[D]? = some (.deferred (some [])) := by
              rcases List.mem_cons.1 hD with rfl | hD
              · exact ⟨by omega, hK2⟩
              · exact ⟨(p7 D hD).2, (p7 D hD).1⟩
            exact ⟨(Below.heap_setCell _ ⟨bb + 1, 0, none⟩ _ D (by show D ≠ bb + 1; omega)).trans hDb.2, hDb.1⟩
    · by_cases hlo : m < 1
      · have Q2 := Q1
        rw [rowsI_out hin, ← rowsI_out hin (k + 1)] at Q2
        clear Q1
        gi_wp2_with fail
        exact ⟨⟨k + 1, Ds, _, _, _, _, _, _, _, _, _, _, _, _, _, _, _, _, _, _, _, _, _, _, _, _, _, _, _, _, _, _, _, _, _, _, _, _, _, _, _, _, _, _, _, _, _, _, _, _, _, _, _, _, _, _, _, _, _, _, rfl, by omega, Q2⟩, by simp [intOf]; omega⟩
      · have hhi : 9 < m := by omega
        have Q2 := Q1
        rw [rowsI_out hin, ← rowsI_out hin (k + 1)] at Q2
        clear Q1
        gi_wp2_with fail
        exact ⟨⟨k + 1, Ds, ⟨by omega, rfl⟩, by omega, Q2⟩, by simp [intOf]; omega⟩
  · have hk32 : k = 32 := by omega
    subst hk32
    rw [rowsI_full] at QS hbd
    have hltI : ¬ ((32 : Nat) : Int) < 32 := by omega
    obtain ⟨by0, hby0⟩ : ∃ by0, sumF (mL m) = by0 := ⟨_, rfl⟩
    obtain ⟨n0, hn0⟩ : ∃ n0 : Nat, (mL m).length = n0 := ⟨_, rfl⟩
    rw [hby0, hn0] at QS hbd
    have c1 := QS.out.r1.cell 0
    have hr1 := QS.out.r1.lt
    simp only [List.getElem?_cons_zero] at c1
    gi_wp2_with fail
    refine ⟨trivial, (Of_in _ m _).mono ?_⟩
    rintro e w3 ⟨rfl, rfl⟩
    have hcm := Row.new wr 3 [.int .i64 m]
    have hb3 : Below wr.heap.size wr (wr.alloc (.cells #[.int .i64 m] 3)) := (Below.refl _ _).alloc (Nat.le_refl _) _
    have z3 : (wr.alloc (.cells #[.int .i64 m] 3)).heap.size = wr.heap.size + 1 := by simp
    have Q3 := Lib.hid (QS.out.below hb3)
    have hDs : Hid (∀ D ∈ Ds, D < wr.heap.size) := Lib.hid fun D hD => (Array.getElem?_eq_some_iff.1 (QS.out.mks D hD).1).1
    have hlb := QS.out.rb.lt
    clear c1 hb3
    gi_wp2_with fail
    change Row (wr.alloc (.cells #[.int .i64 m] 3)) wr.heap.size 3 [.int .i64 m] at hcm
    generalize wr.alloc (.cells #[.int .i64 m] 3) = w3 at hcm z3 Q3 ⊢
    refine' range_rel (T := fun _ q => q = bb + 1) rfl (by omega) (gf := 29) (lb := #[.pointer (some ⟨wr.heap.size, 0, none⟩)]) rfl trivial (enters_of Tryz.func29 (by kernel_rfl) rfl)
      (Of_stopsI 19 (by omega) wr.heap.size m w3 hcm) (fun o h => h) (fun _ _ _ q h => h) (fun q h => ⟨by omega, fun _ e => by omega⟩) (Below.refl _ _) (fun B x av W h => by obtain ⟨v, rfl, _⟩ := h; rfl)
      (fun pre W => MSt w m TB g bb (bb + 1) by0 ((n0 : Int) - (pre.length : Int)) Ds W)
      (fun _ _ _ => False)
      (fun pre X Y row hs hg hr => hs.grown (B := w3.heap.size) hg hr (by omega) (fun D hD => by have := hDs.out D hD; omega)) (fun c => OwnK.pure)
      (by simp only [List.length_nil, Int.natCast_zero, Int.sub_zero]; exact Q3.out)
      (fun pre W h q hq => ⟨by have h1 := h.rn.lt; subst hq; exact h1, fun hge => by omega⟩)
      (fun x a W => ∃ v1 v2, a = { tmps := List.toArray (Value.int .i64 m :: .pointer (some ⟨w.heap.size, 0, none⟩) :: .bool false :: .pointer (some ⟨bb, 0, none⟩) :: .pointer (some ⟨bb + 1, 0, none⟩) :: undef :: u6 :: u7 :: u8 :: u9 :: .bool true :: .bool false :: .slice (some ⟨g, 0, none⟩) 32 32 :: .int .i64 32 :: .int .i64 32 :: .bool false :: u16 :: u17 :: u18 :: u19 :: u20 :: u21 :: u22 :: u23 :: u24 :: u25 :: u26 :: u27 :: u28 :: u29 :: u30 :: u31 :: u32 :: u33 :: u34 :: u35 :: u36 :: u37 :: u38 :: u39 :: u40 :: u41 :: u42 :: u43 :: u44 :: u45 :: u46 :: u47 :: u48 :: u49 :: u50 :: u51 :: u52 :: u53 :: u54 :: u55 :: u56 :: u57 :: u58 :: u59 :: u60 :: u61 :: u62 :: u63 :: u64 :: u65 :: u66 :: u67 :: u68 :: .int .i64 m :: .func (Fn.func 29) #[] #[.pointer (some ⟨wr.heap.size, 0, none⟩)] :: v1 :: v2 :: undef :: undef :: undef :: undef :: undef :: undef :: undef :: undef :: undef :: undef :: undef :: undef :: undef :: undef :: undef :: undef :: undef :: undef :: undef :: []), defers := [] })
      ?iap3 ?iassign3 ?ibody3 ?idone3 ?istop3
    case iap3 =>
      rintro x a' W2 o' ⟨v1, v2, ha⟩
      exact ⟨v1, v2, ha⟩
    case iassign3 =>
      rintro l2 pre x av W2 K2 hI hpre2 hsz2 ⟨v, rfl, hss⟩ hK
      have HI := Lib.hid hI
      have HK := Lib.hid hK
      clear hI hK
      gi_wp2
      exact HK.out _ _ ⟨Nat.le_refl _, fun j o hj ho hc => ho⟩ ⟨Nat.le_refl _, fun j hj ht => ⟨rfl, ht⟩⟩ HI.out ⟨.agg (fieldC x.1 v).toArray, .bool x.2, by first | kernel_rfl | (go_simp; done) | (simp; done)⟩
    case ibody3 =>
      rintro l2 pre x a' W2 hI hpre2 hsz2 ⟨v1, v2, rfl⟩
      have hln : pre.length ≤ 32 := by
        have h1 := hpre2.length_le
        have h2 := mL_len m
        rw [List.length_append] at h1
        omega
      have HI := Lib.hid hI
      have n3 := hI.rn.cell 0
      have n4 := hI.rn.lt
      have n5 := hI.rn.frozen 0
      simp only [List.getElem?_cons_zero] at n3
      have hn1 : IntKind.i64.wrap ((n0 : Int) - (pre.length : Int) - 1) = (n0 : Int) - (pre.length : Int) - 1 := IntWalk.i64_in _ (by omega)
      clear hI
      gi_wp2_with fail
      have kk : ∀ q, q ≠ bb + 1 → (W2.setCell ⟨bb + 1, 0, none⟩ (.int .i64 ((n0 : Int) - (pre.length : Int) - 1))).heap[q]? = W2.heap[q]? := fun q hq => Below.heap_setCell _ ⟨bb + 1, 0, none⟩ _ q hq
      obtain ⟨p1, p2, p3, p4, p5, p6, p7⟩ := HI.out
      refine ⟨⟨by simp [World.setCell], fun j o hj ho hc => (kk j (by omega)).trans ho⟩, ⟨by simp [World.setCell], fun j hj ht => ⟨kk j (fun e => ht (.inr e)), ht⟩⟩, ⟨p1.far (by show w.heap.size ≠ bb + 1; omega) _, p2.far (by show bb ≠ bb + 1; omega) _, ?_, p4.keepM (by simp [World.setCell]) (fun q hq hB => kk q (by omega)) hg, p5.setCell (p := ⟨bb + 1, 0, none⟩) (by show w.heap.size ≤ bb + 1; omega) _, p6, fun D hD => ⟨(kk D (by have := (p7 D hD).2; omega)).trans (p7 D hD).1, (p7 D hD).2⟩⟩⟩
      rw [List.length_append, show ((n0 : Int) - ((pre.length + [x].length : Nat) : Int)) = (n0 : Int) - (pre.length : Int) - 1 by simp; omega]
      exact p3.set 0 _
    case istop3 =>
      rintro D2 c pre W2 hD2 hp h hK2
      exact h.elim
    case idone3 =>
      rintro D W2 hD2 hI hK2
      rw [hn0, Int.sub_self] at hI
      have HI := Lib.hid hI
      have HK2 := Lib.hid hK2
      clear hI hK2
      have hmx : Tryz.prog.follows Departure.mixedOrders = true := by kernel_rfl
      gi_wp2_with fail
      rw [wpIn_wide]
      refine wp_region_slotsGB (m := 17) [17] hmx (fun ix v _ => v = ([.int .i64 0, .bool true, .bool true, .int .i64 m, .int .i64 by0, .int .i64 by0, .bool true, .bool true, .bool true, .int .i64 by0, .bool true, .bool true, .bool true, .agg #[.int .i64 3, .int .i64 0, .int .i64 0, .slice none 0 0], .int .i64 0, .bool true, .bool true] : List Value).getD ix undef) (Below W2.heap.size W2) (by kernel_rfl) (by kernel_rfl) (fun i v W W' h _ => h) ((Below.refl _ _).drew) ?_ ?_
      · refine ⟨?_, ?_, ?_, ?_, ?_, ?_, ?_, ?_, ?_, ?_, ?_, ?_, ?_, ?_, ?_, ?_, ?_, trivial⟩
        · intro ρ vals W hC hd ht hk hg hf
          have e4 := ht 4
          rw [evalS_old (by kernel_rfl)] at e4
          clear ht hd
          have q := (HI.out.rn.below hC HI.out.rn.lt).cell 0
          simp only [List.getElem?_cons_zero] at q
          unfold StepG
          unfold StepOK
          go_simp
          first | exact Below.refl _ _ | exact ⟨hC, Below.refl _ _⟩
        · intro ρ vals W hC hd ht hk hg hf
          have e75 := ht 75
          have d0 := hd 0 (by kernel_rfl)
          rw [evalS_tmp (i := 0) (by kernel_rfl), d0] at e75
          clear ht hd d0
          have q : ((0 : Int) == 0) = true := rfl
          unfold StepG
          unfold StepOK
          go_simp
          first | exact Below.refl _ _ | exact ⟨hC, Below.refl _ _⟩
        · intro ρ vals W hC hd ht hk hg hf
          have e76 := ht 76
          have d1 := hd 1 (by kernel_rfl)
          rw [evalS_tmp (i := 1) (by kernel_rfl), d1] at e76
          clear ht hd d1
          unfold StepG
          unfold StepOK
          go_simp
          first | exact Below.refl _ _ | exact ⟨hC, Below.refl _ _⟩
        · intro ρ vals W hC hd ht hk hg hf
          have hgd : vals 2 = .bool true := hd 2 (by kernel_rfl)
          have e1 := ht 1
          rw [evalS_old (by kernel_rfl)] at e1
          clear ht hd
          have q := (HI.out.r1.below hC HI.out.r1.lt).cell 0
          simp only [List.getElem?_cons_zero] at q
          unfold StepG
          refine ⟨fun _ => ?_, fun h => absurd hgd h⟩
          unfold StepOK
          go_simp
          first | exact Below.refl _ _ | exact ⟨hC, Below.refl _ _⟩
        · intro ρ vals W hC hd ht hk hg hf
          have hgd : vals 2 = .bool true := hd 2 (by kernel_rfl)
          have e78 := ht 78
          have d3 := hd 3 (by kernel_rfl)
          rw [evalS_tmp (i := 3) (by kernel_rfl), d3] at e78
          clear ht hd d3
          unfold StepG
          refine ⟨fun _ => ?_, fun h => absurd hgd h⟩
          unfold StepOK
          go_simp
          refine (Bytes_any m W).mono ?_
          rintro e w9 ⟨rfl, hb⟩
          exact ⟨_, rfl, by rw [hby0], hC.trans (hb.mono hC.size), hb⟩
        · intro ρ vals W hC hd ht hk hg hf
          have hgd : vals 2 = .bool true := hd 2 (by kernel_rfl)
          have e3 := ht 3
          rw [evalS_old (by kernel_rfl)] at e3
          clear ht hd
          have q := (HI.out.rb.below hC HI.out.rb.lt).cell 0
          simp only [List.getElem?_cons_zero] at q
          unfold StepG
          refine ⟨fun _ => ?_, fun h => absurd hgd h⟩
          unfold StepOK
          go_simp
          first | exact Below.refl _ _ | exact ⟨hC, Below.refl _ _⟩
        · intro ρ vals W hC hd ht hk hg hf
          have hgd : vals 2 = .bool true := hd 2 (by kernel_rfl)
          have e79 := ht 79
          have d4 := hd 4 (by kernel_rfl)
          rw [evalS_tmp (i := 4) (by kernel_rfl), d4] at e79
          have e80 := ht 80
          have d5 := hd 5 (by kernel_rfl)
          rw [evalS_tmp (i := 5) (by kernel_rfl), d5] at e80
          clear ht hd d4 d5
          have q : (by0 == by0) = true := beq_self_eq_true _
          unfold StepG
          refine ⟨fun _ => ?_, fun h => absurd hgd h⟩
          unfold StepOK
          go_simp
          first | exact Below.refl _ _ | exact ⟨hC, Below.refl _ _⟩
        · intro ρ vals W hC hd ht hk hg hf
          have e77 := ht 77
          have d2 := hd 2 (by kernel_rfl)
          rw [evalS_tmp (i := 2) (by kernel_rfl), d2] at e77
          have e81 := ht 81
          have d6 := hd 6 (by kernel_rfl)
          rw [evalS_tmp (i := 6) (by kernel_rfl), d6] at e81
          clear ht hd d2 d6
          unfold StepG
          unfold StepOK
          go_simp
          first | exact Below.refl _ _ | exact ⟨hC, Below.refl _ _⟩
        · intro ρ vals W hC hd ht hk hg hf
          have e82 := ht 82
          have d7 := hd 7 (by kernel_rfl)
          rw [evalS_tmp (i := 7) (by kernel_rfl), d7] at e82
          clear ht hd d7
          unfold StepG
          unfold StepOK
          go_simp
          first | exact Below.refl _ _ | exact ⟨hC, Below.refl _ _⟩
        · intro ρ vals W hC hd ht hk hg hf
          have hgd : vals 8 = .bool true := hd 8 (by kernel_rfl)
          have e3 := ht 3
          rw [evalS_old (by kernel_rfl)] at e3
          clear ht hd
          have q := (HI.out.rb.below hC HI.out.rb.lt).cell 0
          simp only [List.getElem?_cons_zero] at q
          unfold StepG
          refine ⟨fun _ => ?_, fun h => absurd hgd h⟩
          unfold StepOK
          go_simp
          first | exact Below.refl _ _ | exact ⟨hC, Below.refl _ _⟩
        · intro ρ vals W hC hd ht hk hg hf
          have hgd : vals 8 = .bool true := hd 8 (by kernel_rfl)
          have e84 := ht 84
          have d9 := hd 9 (by kernel_rfl)
          rw [evalS_tmp (i := 9) (by kernel_rfl), d9] at e84
          clear ht hd d9
          have q : decide (by0 ≤ 4096) = true := decide_eq_true hbd.1.2
          unfold StepG
          refine ⟨fun _ => ?_, fun h => absurd hgd h⟩
          unfold StepOK
          go_simp
          first | exact Below.refl _ _ | exact ⟨hC, Below.refl _ _⟩
        · intro ρ vals W hC hd ht hk hg hf
          have e83 := ht 83
          have d8 := hd 8 (by kernel_rfl)
          rw [evalS_tmp (i := 8) (by kernel_rfl), d8] at e83
          have e85 := ht 85
          have d10 := hd 10 (by kernel_rfl)
          rw [evalS_tmp (i := 10) (by kernel_rfl), d10] at e85
          clear ht hd d8 d10
          unfold StepG
          unfold StepOK
          go_simp
          first | exact Below.refl _ _ | exact ⟨hC, Below.refl _ _⟩
        · intro ρ vals W hC hd ht hk hg hf
          have e86 := ht 86
          have d11 := hd 11 (by kernel_rfl)
          rw [evalS_tmp (i := 11) (by kernel_rfl), d11] at e86
          clear ht hd d11
          unfold StepG
          unfold StepOK
          go_simp
          first | exact Below.refl _ _ | exact ⟨hC, Below.refl _ _⟩
        · intro ρ vals W hC hd ht hk hg hf
          have hgd : vals 12 = .bool true := hd 12 (by kernel_rfl)
          clear ht hd
          unfold StepG
          refine ⟨fun _ => ?_, fun h => absurd hgd h⟩
          unfold StepOK
          go_simp
          first | exact Below.refl _ _ | exact ⟨hC, Below.refl _ _⟩
        · intro ρ vals W hC hd ht hk hg hf
          have hgd : vals 12 = .bool true := hd 12 (by kernel_rfl)
          have e88 := ht 88
          have d13 := hd 13 (by kernel_rfl)
          rw [evalS_tmp (i := 13) (by kernel_rfl), d13] at e88
          clear ht hd d13
          unfold StepG
          refine ⟨fun _ => ?_, fun h => absurd hgd h⟩
          unfold StepOK
          go_simp
          refine (refCheck_any ⟨3, 0, 0, []⟩ none 0 0 rfl W).mono ?_
          rintro e w9 ⟨rfl, hb⟩
          exact ⟨_, rfl, rfl, hC.trans (hb.mono hC.size), hb⟩
        · intro ρ vals W hC hd ht hk hg hf
          have hgd : vals 12 = .bool true := hd 12 (by kernel_rfl)
          have e89 := ht 89
          have d14 := hd 14 (by kernel_rfl)
          rw [evalS_tmp (i := 14) (by kernel_rfl), d14] at e89
          clear ht hd d14
          have q : ((0 : Int) == 0) = true := rfl
          unfold StepG
          refine ⟨fun _ => ?_, fun h => absurd hgd h⟩
          unfold StepOK
          go_simp
          first | exact Below.refl _ _ | exact ⟨hC, Below.refl _ _⟩
        · intro ρ vals W hC hd ht hk hg hf
          have e87 := ht 87
          have d12 := hd 12 (by kernel_rfl)
          rw [evalS_tmp (i := 12) (by kernel_rfl), d12] at e87
          have e90 := ht 90
          have d15 := hd 15 (by kernel_rfl)
          rw [evalS_tmp (i := 15) (by kernel_rfl), d15] at e90
          clear ht hd d12 d15
          unfold StepG
          unfold StepOK
          go_simp
          first | exact Below.refl _ _ | exact ⟨hC, Below.refl _ _⟩
      · intro vals W hC hR
        have r0 : vals 0 = .int .i64 0 := hR 0 (by omega)
        have r1 : vals 1 = .bool true := hR 1 (by omega)
        have r2 : vals 2 = .bool true := hR 2 (by omega)
        have r3 : vals 3 = .int .i64 m := hR 3 (by omega)
        have r4 : vals 4 = .int .i64 by0 := hR 4 (by omega)
        have r5 : vals 5 = .int .i64 by0 := hR 5 (by omega)
        have r6 : vals 6 = .bool true := hR 6 (by omega)
        have r7 : vals 7 = .bool true := hR 7 (by omega)
        have r8 : vals 8 = .bool true := hR 8 (by omega)
        have r9 : vals 9 = .int .i64 by0 := hR 9 (by omega)
        have r10 : vals 10 = .bool true := hR 10 (by omega)
        have r11 : vals 11 = .bool true := hR 11 (by omega)
        have r12 : vals 12 = .bool true := hR 12 (by omega)
        have r13 : vals 13 = .agg #[.int .i64 3, .int .i64 0, .int .i64 0, .slice none 0 0] := hR 13 (by omega)
        have r14 : vals 14 = .int .i64 0 := hR 14 (by omega)
        have r15 : vals 15 = .bool true := hR 15 (by omega)
        have r16 : vals 16 = .bool true := hR 16 (by omega)
        clear hR
        simp only [List.take, putsS, Act.put, List.setIfInBounds_toArray, List.set_cons_zero, List.set_cons_succ, Nat.reduceAdd, r0, r1, r2, r3, r4, r5, r6, r7, r8, r9, r10, r11, r12, r13, r14, r15, r16]
        clear r0 r1 r2 r3 r4 r5 r6 r7 r8 r9 r10 r11 r12 r13 r14 r15 r16
        have hmks := Lib.hid (show ∀ E ∈ D :: Ds, W.heap[E]? = some (.deferred (some [])) ∧ w.heap.size ≤ E from fun E hE => by
          have h2 : W2.heap[E]? = some (.deferred (some [])) ∧ w.heap.size ≤ E := by
            rcases List.mem_cons.1 hE with rfl | hE
            · exact ⟨HK2.out, by omega⟩
            · exact ⟨(HI.out.mks E hE).1, by have := (HI.out.mks E hE).2; omega⟩
          exact ⟨(hC.block E (Array.getElem?_eq_some_iff.1 h2.1).1).trans h2.1, h2.2⟩)
        have hnd := Lib.hid (show (D :: Ds).Nodup from List.nodup_cons.2 ⟨fun hm => by have := hDs.out D hm; omega, HI.out.nd⟩)
        have hBB := Lib.hid (HI.out.be.trans (hC.mono HI.out.be.size))
        clear hC
        refine wpOps_one _ (by rfl) (by rfl) ?_
        go_wp2_with fail
        gi_wp2_with fail
        refine leaves_marks (D :: Ds) _ hnd.out (fun E hE => (hmks.out E hE).1) fun W10 h1 h2 h3 h4 h5 => ?_
        exact ⟨_, results_tmp rfl _ _ _, rfl, ⟨h1.trans hBB.out.os, h2.trans hBB.out.tape, h3.trans hBB.out.output, by rw [h4]; exact hBB.out.size, fun k hk => (h5 k (fun hm => by have := (hmks.out k hm).2; omega)).trans (hBB.out.block k hk)⟩⟩
theorem CatalogMessages_walkI (m : Int) (w0 : (Lit.int .i64 m).wf = true) (w : World) (hG : G w) (hM : M w) :
    Calls Tryz.prog 4 #[.int .i64 m] w fun e w' => e = .returned (.bool true) ∧ Below w.heap.size w w' := by
  have r : -9223372036854775808 ≤ m ∧ m ≤ 9223372036854775807 := by simpa [Lit.wf, IntKind.min, IntKind.max, IntKind.signed, IntKind.bits] using w0
  exact CatalogMessages_walk m r.1 r.2 w hG hM
end Go.Proofs.YtheidjnapoipaaaGreatDoor

namespace Go.Proofs.YtheidjnapoipaaaGreatDoor
open Go.RowKit
set_option linter.unusedVariables false

theorem G_of_tab_f {W : World} (h : Lib.TabIs Tryz.prog W "cashier/sha.starts" .u32 [1779033703, 3144134277, 1013904242, 2773480762, 1359893119, 2600822924, 528734635, 1541459225]) : G W := by
  unfold Lib.TabIs World.var? at h
  rw [show Tryz.prog.globalNamed "cashier/sha.starts" = some 6 by kernel_rfl] at h
  simp only [Option.bind_some] at h
  split at h
  · rename_i cs t fr hq
    refine ⟨t, fr, ?_⟩
    rw [hq]
    obtain rfl := Option.some.inj h
    rfl
  · cases h
theorem laidMet_tail_f {P : Program} {x : String × DataW Unit} {r : List (String × DataW Unit)} {w : World} (h : laidMet P (x :: r) w) : laidMet P r w := by
  obtain ⟨ps, hv, hn, hc⟩ := h
  obtain ⟨n, d⟩ := x
  obtain ⟨g, t, cs, fuel, p, q, _, _, _, _, hq, rfl⟩ := hv
  exact ⟨q, hq, (List.nodup_append.1 hn).2.1, fun b off hb => hc b off (List.mem_append.2 (.inr hb))⟩
theorem G_of_laid8 {W : World} (h : laidMetH Tryz.prog [("math/bits.deBruijn32tab", Rows.laid_math_bits_deBruijn32tab), ("math/bits.deBruijn64tab", Rows.laid_math_bits_deBruijn64tab), ("internal/strconv.uint64pow10", Rows.laid_internal_strconv_uint64pow10), ("unicode/utf8.acceptRanges", Rows.laid_unicode_utf8_acceptRanges), ("strconv.ErrRange", Rows.laid_strconv_ErrRange), ("strconv.ErrSyntax", Rows.laid_strconv_ErrSyntax), ("cashier/sha.starts", Rows.laid_cashier_sha_starts), ("unicode/utf8.first", Rows.laid_unicode_utf8_first)] W) : G W :=
  G_of_tab_f (Lib.tabIs_of_head (g := 6) (t := 169) (e := 136) (n := 8) (rest := [("unicode/utf8.first", Rows.laid_unicode_utf8_first)]) (by kernel_rfl) (by kernel_rfl) Tryz.underlying169 Tryz.underlying136 (by kernel_rfl) (by kernel_rfl) (laidMet_tail_f (laidMet_tail_f (laidMet_tail_f (laidMet_tail_f (laidMet_tail_f (laidMet_tail_f h)))))))
end Go.Proofs.YtheidjnapoipaaaGreatDoor

namespace Go.Proofs.YtheidjnapoipaaaGreatDoor
open Go.ChangeShapes Go.WideShapes Go.RowKit
set_option linter.unusedVariables false

section
variable {H : Type} {enc : TypeId × Value → H}
theorem returns_shaped_and {a : Assume} {C : Checked} {os : Os} {f : FuncId} {fn : Func} {s : ChangeSpec} {conds : List PathCond} {apart fresh handsOn again : Bool} {X : World → Array Value → Prop}
    (hX : ∀ (w w' : World) (args : Array Value), w.heap = w'.heap → X w args → X w' args)
    (own : ownKnob C.prog.godebug = none) (started : os.Started) (noInit : C.prog.inits.idxOf? f = none) (hfn : C.prog.funcs[f]? = some fn)
    (witness : ∃ (w : World) (tape : Tape) (i : Input), w.os = os ∧ (w.forCall tape i).Shaped C.prog ∧ i.vars = [] ∧ Input.okWide C.prog (w.forCall tape i) .any w.heap.size f i ∧
      ((s.pre enc C.prog fn conds apart (w.forCall tape i).memory i.args ∧ X (w.forCall tape i).memory i.args) ∧ sizedMet enc C.prog fn (OpenSpec.ofChange s) apart (w.forCall tape i).memory i.args) ∧ a.holds C.prog (lone (Frame.enter C.prog f i.args .normal) [] (w.forCall tape i)))
    (contract : ∀ (W : World) (base : Nat) (args : Array Value) (ds gs : List (DataW H)) (before : List MemPlace),
      (∀ (j : Nat) t v, fn.params[j]? = some t → args[j]? = some v → Value.okWide C.prog W .any base t v) →
      DataW.Whole enc C.prog fn.params.toList s.vars apart W args.toList ds gs before →
      conds.all (PathCond.test C.prog ⟨fn.params.toList, ds, s.plain.varTypes C.prog, gs⟩) = true →
      (DataW.weightsEach C.prog (fn.params.toList ++ s.plain.varTypes C.prog) (ds ++ gs)).all (· ≤ reachBytes) = true → X W args → W.ShapedOpen C.prog →
      Calls C.prog f args W fun e W' => ∃ v, e = .returned v ∧ s.post enc C.prog fn apart fresh handsOn again W args v W') :
    ReturnsInHanded a C os f .any (fun w args => (s.pre enc C.prog fn conds apart w args ∧ X w args) ∧ sizedMet enc C.prog fn (OpenSpec.ofChange s) apart w args) (s.post enc C.prog fn apart fresh handsOn again) := by
  refine returnsInHanded_of_calls own started noInit witness ?_
  intro w tape i _ hsh _ hok hpre _
  obtain ⟨_, _, _, fn', hfn', _, _, _, _, hval⟩ := hok
  obtain rfl : fn' = fn := Option.some.inj (hfn'.symm.trans hfn)
  obtain ⟨⟨⟨ds, gs, before, hw, hc⟩, hx⟩, hz⟩ := hpre
  refine (contract (w.forCall tape i) w.heap.size i.args ds gs before hval (DataW.Whole.of_heap (w' := w.forCall tape i) (by rfl) hw) hc (hz.weights hw) (hX _ _ _ (by rfl) hx) hsh).mono fun e W' ⟨v, he, hp⟩ => ?_
  subst he
  exact ChangeSpec.post_blind hp
end

theorem M_of_shaped {W : World} (h : W.ShapedOpen Tryz.prog) : M W :=
  cell_of_shapedOpen_int (t := 3) (zero := #[.int .i64 0]) h (of_decide_eq_true (by kernel_rfl)) (by kernel_rfl) rfl (by kernel_rfl) (by kernel_rfl) Tryz.underlying3
end Go.Proofs.YtheidjnapoipaaaGreatDoor

namespace Go.Proofs.YtheidjnapoipaaaGreatDoor.catalogMessages
open Go.ChangeShapes Go.WideShapes Go.ChangeAt Go.RowKit
open Go.ChangeMaps (open_string shut_string)
set_option linter.unusedVariables false

theorem own : ownKnob Tryz.prog.godebug = none := by kernel_rfl

set_option maxRecDepth 100000 in
set_option maxHeartbeats 4000000 in
theorem lifted (os : Os) (started : os.Started) (H : Type) (enc : TypeId × Value → H) :
    ReturnsInHanded {} Tryz.checked os 4 .any (fun w args => (Rows.catalogMessagesSpec.pre enc Tryz.prog Tryz.f4 Rows.catalogMessagesRow.domain false w args ∧ laidMetH Tryz.prog Rows.catalogMessagesRow.laid w) ∧ sizedMet enc Tryz.prog Tryz.f4 (OpenSpec.ofChange Rows.catalogMessagesSpec) false w args) (Rows.catalogMessagesSpec.post enc Tryz.prog Tryz.f4 false true false false) := by
  refine returns_shaped_and (C := Tryz.checked) (X := fun w _ => laidMetH Tryz.prog Rows.catalogMessagesRow.laid w) (fun _ _ _ hh h => h.of_heap hh) own started (by kernel_rfl) Tryz.func4
    (ChangeSpec.witness_shaped (enc := enc) (C := Tryz.checked) (os := os) (X := fun w _ => laidMetH Tryz.prog Rows.catalogMessagesRow.laid w) false (World.laidAll Tryz.prog os Rows.catalogMessagesRow.laid) #[.int .i64 0] 8 (World.laidAll_os _ _ _) (World.shaped_of_ZipB (by kernel_rfl) (by kernel_rfl)) (by kernel_rfl) (by kernel_rfl) (by kernel_rfl) (by rw [MakeChecks.laidMetH_plain _ _ _ (by kernel_rfl)]; exact laidMet_laidAll _ (by kernel_rfl) (by kernel_rfl))) ?_
  intro W base args ds gs before hval0 hW hcnd hsz0 hX1 hX2
  have hsz : (DataW.weightsEach Tryz.prog (Tryz.f4.params.toList ++ Rows.catalogMessagesSpec.plain.varTypes Tryz.prog) (ds ++ gs)).all (· ≤ reachBytes) = true := hsz0
  have hval : ∀ (j : Nat) t v, Tryz.f4.params[j]? = some t → args[j]? = some v → Value.okWide Tryz.prog W .any base t v := hval0
  have hW' := hW
  obtain ⟨p, q, hA0, hV, rfl, hfz, hnd⟩ := hW
  have hA : DataW.TrodAll enc Tryz.prog W 0 (fun _ => true) true Tryz.f4.params.toList args.toList ds p := hA0
  rw [Tryz.params4] at hA hval hsz
  obtain ⟨v0, vs0, d0, ds0, p0, q0, hargs, rfl, rfl, h0, r0⟩ := trodAll_cons hA
  obtain ⟨rfl, rfl, rfl⟩ := trodAll_nil r0
  obtain rfl : args = #[v0] := by cases args; simp_all
  obtain ⟨rfl, rfl⟩ := trodVars_none hV
  obtain ⟨a0, rfl, rfl, rfl, w0⟩ := open_int Tryz.underlying3 (hval 0 3 v0 rfl rfl) h0
  clear hA0 hval0 hsz hsz0
  simp only [List.append_nil] at hW'
  refine (CatalogMessages_walkI a0 w0 W (G_of_laid8 hX1) (M_of_shaped hX2)).mono fun e W' ⟨he, bel⟩ => ?_
  subst he
  exact ⟨_, rfl, _, _, _, [], _, [], hW', trodAll_mk1 (shut_bool Tryz.underlying4 _), (trodAll_cons_mk (shut_int Tryz.underlying3 w0) trodAll_mk0), rfl, bel.frame _, fun h => by cases h⟩

set_option maxRecDepth 100000 in
set_option maxHeartbeats 4000000 in
theorem closed : joinedFacts Tryz.prog 4 Tryz.f4 Rows.catalogMessagesSpec Rows.catalogMessagesRow = true := by
  unfold joinedFacts
  simp only [Bool.and_eq_true]
  repeat' apply And.intro
  all_goals as_aux_lemma => kernel_rfl

set_option maxHeartbeats 4000000 in
theorem over : Rows.catalogMessagesRow.holds Tryz.pinned (OpenSpec.ofChange Rows.catalogMessagesSpec) :=
  OpenClaim.holds_of_wide 4 Tryz.f4 rfl rfl rfl rfl rfl rfl rfl ⟨rfl, rfl, rfl, rfl, rfl⟩ rfl rfl rfl rfl rfl (by kernel_rfl) Tryz.func4 closed
    (of_decide_eq_true (by kernel_rfl)) (by unfold Func.isWrapper; first | (rw [if_pos (by decide +kernel)]; kernel_rfl) | (rw [if_neg (by decide +kernel)]; exact ⟨rfl, rfl⟩))
    (fun os started H enc _ => lifted os started H enc)

set_option maxHeartbeats 4000000 in
theorem proved : Rows.CatalogMessagesCardSaid :=
  Claim7.holds_tied_plain_at .later [] [.data, .data, .data, .data, .sentinel, .sentinel, .data, .pinned] true (true, "bd3ce312389fa0c1fa5637e05b130d32b1303bad4957126e2cf8fcada179ac0e") true
    over (fun _ h => by cases h) (by kernel_rfl) (fun _ h => by cases h) catalogMessages_row_tie rfl ⟨rfl, rfl⟩ (by kernel_rfl) rfl
    (fun f fn hf hfn => by
      obtain rfl : f = 4 := Option.some.inj ((show Tryz.prog.funcNamed "cashier/cashierlaw15.CatalogMessages" = some 4 by kernel_rfl).symm.trans hf) |>.symm
      obtain rfl : fn = Tryz.f4 := (Option.some.inj (Tryz.func4.symm.trans hfn)).symm
      exact ⟨by kernel_rfl, fun j t ht => by
        rw [Tryz.params4] at ht
        have hm : t ∈ [3] := by simpa using Array.mem_of_getElem? ht
        have hall : ([3].all fun u => !Tryz.prog.wantsStandIn u) = true := by kernel_rfl
        exact (show Tryz.prog.wantsStandIn t = false by simpa using List.all_eq_true.1 hall t hm)⟩)
    (by kernel_rfl)

end Go.Proofs.YtheidjnapoipaaaGreatDoor.catalogMessages
