/- The walk of OtpSteps: what is over. (In one text with what it leans on: HRSum, HPow, DPlain, DSmall, NCode, NRef, IRaw, OtpC, DWeights, DCard, Crc, Tab, Csum, Awk, Awk5, Awk6, OtpB, OtpE, OtpSt0, OtpStA.) -/
import Derived.WalkKit
import Derived.WalkSpells
import Derived.WalkLawsBesides
import Derived.Lib.Hide
import Derived.Laws.BitsAllLaws
import Derived.RangeFuncNested
import Derived.RangeFuncBound
import Derived.RangeFuncCalls
import Derived.RangeFuncLeaves
import Derived.RangeFuncBox
import Derived.Maps.AppendAt
import Derived.Shelf.Abstract
import Derived.Shelf.RegionOpen
import Derived.OwnWalkIn
import Derived.TacticsInMore
import Derived.LoopNIn
import Derived.LoopIn
import Derived.Lib.OthersKept
import Derived.Deep.QuietTactic
import Derived.BigQuiet
import Derived.Deep.DeepCutAuto
import Derived.Deep.WholeRow
import Derived.Laws.StructEq
import Derived.Test.YtlmbijhkpgolaaaGreatDoorHRPadL
import Derived.Test.YtlmbijhkpgolaaaGreatDoorHShort
import Derived.Test.YtlmbijhkpgolaaaGreatDoorRText
import Derived.Test.YtlmbijhkpgolaaaGreatDoorHMask
import Derived.Test.YtlmbijhkpgolaaaGreatDoorRows
import Derived.Test.YtlmbijhkpgolaaaGreatDoorMem
import Derived.Test.YtlmbijhkpgolaaaGreatDoorNText
import Derived.Test.YtlmbijhkpgolaaaGreatDoorGet
import Derived.Test.YtlmbijhkpgolaaaGreatDoorHOne
import Derived.Test.YtlmbijhkpgolaaaGreatDoorOtpA
import Derived.Test.YtlmbijhkpgolaaaGreatDoorSText
import Derived.Test.YtlmbijhkpgolaaaGreatDoorShelf
import Derived.Test.YtlmbijhkpgolaaaGreatDoorPlain
import Derived.Test.YtlmbijhkpgolaaaGreatDoorPut
import Derived.Test.YtlmbijhkpgolaaaGreatDoorHSumm
import Derived.Test.YtlmbijhkpgolaaaGreatDoorHPlain
namespace Go.Proofs.YtlmbijhkpgolaaaGreatDoor
open Go.RowKit
set_option linter.unusedVariables false

set_option maxRecDepth 20000 in
set_option maxHeartbeats 4000000 in
theorem refHm_any (key s : ByteArray) (hk : key.size ≤ 10000) (hs : s.size ≤ 10000) (w : World) :
    Calls Tryz.prog 34 #[.string key, .string s] w fun e w' => e = .returned (.string ⟨(hmacL key.data.toList s.data.toList).toArray⟩) ∧ Below w.heap.size w w' := by
  have hkL : (keyL key.data.toList).length ≤ 64 := by
    unfold keyL
    split
    · rw [shaL_length]; omega
    · omega
  obtain ⟨x0, hx0⟩ : ∃ x : ByteArray, (⟨(blkL (keyL key.data.toList) 54).toArray⟩ : ByteArray) = x := ⟨_, rfl⟩
  obtain ⟨x1, hx1⟩ : ∃ x : ByteArray, (⟨(blkL (keyL key.data.toList) 92).toArray⟩ : ByteArray) = x := ⟨_, rfl⟩
  have HP0 : Hid (∀ W : World, Calls Tryz.prog 49 #[.string key, .int .u8 54] W fun e w' => e = .returned (.string x0) ∧ Below W.heap.size W w') := Lib.hid fun W => by rw [← hx0]; exact refBlk_all key 54 (by omega) W
  have HP1 : Hid (∀ W : World, Calls Tryz.prog 49 #[.string key, .int .u8 92] W fun e w' => e = .returned (.string x1) ∧ Below W.heap.size W w') := Lib.hid fun W => by rw [← hx1]; exact refBlk_all key 92 (by omega) W
  have hd0 : x0.data.toList = blkL (keyL key.data.toList) 54 := by rw [← hx0]
  have hd1 : x1.data.toList = blkL (keyL key.data.toList) 92 := by rw [← hx1]
  have hz0 : x0.size = 64 := by
    have e : x0.size = x0.data.toList.length := by simp
    rw [e, hd0, blkL_length _ _ hkL]
  have hz1 : x1.size = 64 := by
    have e : x1.size = x1.data.toList.length := by simp
    rw [e, hd1, blkL_length _ _ hkL]
  obtain ⟨t0, ht0⟩ : ∃ t, x0 ++ s = t := ⟨_, rfl⟩
  have hts : t0.size ≤ 100000 := by rw [← ht0, ByteArray.size_append]; omega
  have ha0 : ∀ W : World, (Op.stringOp .add x0 s).run Tryz.prog W = .ok (.string t0) W := fun W => by rw [← ht0]; exact run_string_add_sum W x0 s (by omega)
  obtain ⟨y, hy⟩ : ∃ y : ByteArray, (⟨(shaL t0.data.toList).toArray⟩ : ByteArray) = y := ⟨_, rfl⟩
  have hyd : y.data.toList = shaL t0.data.toList := by rw [← hy]
  have hyz : y.size = 32 := by
    have e : y.size = y.data.toList.length := by simp
    rw [e, hyd, shaL_length]
  have HT0 : Hid (∀ W : World, Calls Tryz.prog 20 #[.string t0] W fun e w' => e = .returned (.string y) ∧ Below W.heap.size W w') := Lib.hid fun W => by rw [← hy]; exact refText_any t0 hts W
  obtain ⟨t1, ht1⟩ : ∃ t, x1 ++ y = t := ⟨_, rfl⟩
  have hts1 : t1.size ≤ 100000 := by rw [← ht1, ByteArray.size_append]; omega
  have ha1 : ∀ W : World, (Op.stringOp .add x1 y).run Tryz.prog W = .ok (.string t1) W := fun W => by rw [← ht1]; exact run_string_add_sum W x1 y (by omega)
  obtain ⟨r, hr⟩ : ∃ r : ByteArray, (⟨(shaL t1.data.toList).toArray⟩ : ByteArray) = r := ⟨_, rfl⟩
  have HT1 : Hid (∀ W : World, Calls Tryz.prog 20 #[.string t1] W fun e w' => e = .returned (.string r) ∧ Below W.heap.size W w') := Lib.hid fun W => by rw [← hr]; exact refText_any t1 hts1 W
  have hfin : (⟨(hmacL key.data.toList s.data.toList).toArray⟩ : ByteArray) = r := by
    rw [← hr, ← ht1]
    have e1 : (x1 ++ y).data.toList = x1.data.toList ++ y.data.toList := by simp
    rw [e1, hyd, ← ht0]
    have e0 : (x0 ++ s).data.toList = x0.data.toList ++ s.data.toList := by simp
    rw [e0, hd0, hd1, hmacL]
  rw [hfin]
  clear hkL hx0 hx1 hd0 hd1 hz0 hz1 ht0 hts hy hyd hyz ht1 hts1 hr hfin
  go_enter Tryz.func34, Tryz.ntmps34
  go_wp2_with fail
  refine (HP1.out _).mono ?_
  rintro e w1 ⟨rfl, hb1⟩
  go_wp2_with fail
  refine (HP0.out _).mono ?_
  rintro e w2 ⟨rfl, hb2⟩
  have hb2 := hb1.trans (hb2.mono hb1.size)
  go_wp2_with fail
  refine (HT0.out _).mono ?_
  rintro e w3 ⟨rfl, hb3⟩
  have hb3 := hb2.trans (hb3.mono hb2.size)
  go_wp2_with fail
  refine (HT1.out _).mono ?_
  rintro e w4 ⟨rfl, hb4⟩
  have hb4 := hb3.trans (hb4.mono hb3.size)
  go_wp2_with fail
  go_ret
  exact ⟨rfl, hb4⟩
end Go.Proofs.YtlmbijhkpgolaaaGreatDoor

namespace Go.Proofs.YtlmbijhkpgolaaaGreatDoor
open Go.RowKit
set_option linter.unusedVariables false

set_option maxRecDepth 4000 in
set_option maxHeartbeats 1000000 in
theorem power_any (k : Nat) (hk : k ≤ 9) (w : World) :
    Calls Tryz.prog 45 #[.int .i64 (k : Nat)] w fun e w' => e = .returned (.int .u64 ((10 ^ k : Nat) : Int)) ∧ w' = w := by
  obtain ⟨T, hT⟩ : ∃ T : Nat, 10 ^ k = T := ⟨_, rfl⟩
  rw [hT]
  have HT := Lib.hid hT
  clear hT
  go_enter Tryz.func45, Tryz.ntmps45
  go_wp2
  go_loop [3, 5] (fun d i => ∃ j p : Nat, j ≤ k ∧ i = .int .i64 j ∧ d = .int .u64 (p : Nat) ∧ Hid (p = 10 ^ j)) (fun _ i => k - (intOf i).toNat)
  case atStart => exact ⟨0, 1, Nat.zero_le _, rfl, rfl, Lib.hid rfl⟩
  case round =>
    obtain ⟨j, p, hj, rfl, rfl, HP⟩ := hrel
    by_cases hlt : j < k
    · have hp : p * 10 ≤ 1000000000 := by
        have h : 10 ^ (j + 1) ≤ 10 ^ 9 := Nat.pow_le_pow_right (by omega) (by omega)
        rw [Nat.pow_succ, ← HP.out] at h
        exact h
      obtain ⟨q, hq⟩ : ∃ q, p * 10 = q := ⟨_, rfl⟩
      have hqi : (p : Int) * 10 = (q : Int) := by omega
      have HQ : Hid (q = 10 ^ (j + 1)) := Lib.hid (by rw [Nat.pow_succ, ← HP.out, hq])
      have hql : q ≤ 1000000000 := by omega
      clear hq hp
      go_wp2
      go_round
      case rel => exact ⟨j + 1, q, by omega, by go_num, rfl, HQ⟩
      case measure => simp [intOf]; omega
    · have HE : Hid (p = T) := Lib.hid (by rw [HP.out, ← HT.out]; congr 1; omega)
      have hge : (k : Int) ≤ (j : Int) := by omega
      go_wp2
      go_ret
      rw [← HE.out]
      exact ⟨rfl, rfl⟩
end Go.Proofs.YtlmbijhkpgolaaaGreatDoor

namespace Go.Proofs.YtlmbijhkpgolaaaGreatDoor
open Go.RowKit

/-- A digit's value. -/
def dv (c : UInt8) : Nat := c.toNat - 48
def dbl (d : Nat) : Nat := if 4 < d then 2 * d - 9 else 2 * d
def wgt (b : Nat) (c : UInt8) : Nat := if b % 2 = 1 then dbl (dv c) else dv c
/-- The weights, from the last digit on. -/
def wl (b : Nat) : List UInt8 → List Nat
  | [] => []
  | c :: r => wgt b c :: wl (b + 1) r
/-- Their sum. -/
def ws (b : Nat) : List UInt8 → Nat
  | [] => 0
  | c :: r => wgt b c + ws (b + 1) r

def isDig (c : UInt8) : Bool := decide (48 ≤ c.toNat) && decide (c.toNat ≤ 57)
def isD (s : ByteArray) : Bool := decide (0 < s.size) && s.data.toList.all isDig

theorem isDig_iff (c : UInt8) : isDig c = true ↔ 48 ≤ c.toNat ∧ c.toNat ≤ 57 := by simp [isDig]
theorem isD_iff (s : ByteArray) : isD s = true ↔ 0 < s.size ∧ ∀ c ∈ s.data.toList, isDig c = true := by
  unfold isD
  rw [Bool.and_eq_true, decide_eq_true_eq, List.all_eq_true]

theorem dv_le {c : UInt8} (h : isDig c = true) : dv c ≤ 9 := by have := (isDig_iff c).1 h; unfold dv; omega
theorem dbl_le {d : Nat} (h : d ≤ 9) : dbl d ≤ 9 := by unfold dbl; split <;> omega
theorem wgt_le {c : UInt8} (b : Nat) (h : isDig c = true) : wgt b c ≤ 9 := by
  have := dv_le h
  unfold wgt
  split
  · exact dbl_le this
  · exact this

theorem wl_append (X : List UInt8) : ∀ b Y, wl b (X ++ Y) = wl b X ++ wl (b + X.length) Y := by
  induction X with
  | nil => intro b Y; rfl
  | cons c X ih =>
    intro b Y
    show wgt b c :: wl (b + 1) (X ++ Y) = wgt b c :: (wl (b + 1) X ++ _)
    rw [ih, List.length_cons]
    congr 3
    omega
theorem ws_append (X : List UInt8) : ∀ b Y, ws b (X ++ Y) = ws b X + ws (b + X.length) Y := by
  induction X with
  | nil => intro b Y; simp [ws]
  | cons c X ih =>
    intro b Y
    show wgt b c + ws (b + 1) (X ++ Y) = wgt b c + ws (b + 1) X + _
    rw [ih, List.length_cons, show b + 1 + X.length = b + (X.length + 1) by omega]
    omega
theorem wl_sum (X : List UInt8) : ∀ b, (wl b X).sum = ws b X := by
  induction X with
  | nil => intro b; rfl
  | cons c X ih => intro b; simp [wl, ws, ih]
theorem wl_length (X : List UInt8) : ∀ b, (wl b X).length = X.length := by
  induction X with
  | nil => intro b; rfl
  | cons c X ih => intro b; simp [wl, ih]
theorem ws_par (X : List UInt8) : ∀ b, ws (b + 2) X = ws b X := by
  induction X with
  | nil => intro b; rfl
  | cons c X ih =>
    intro b
    show wgt (b + 2) c + ws (b + 1 + 2) X = _
    rw [ih]
    have : wgt (b + 2) c = wgt b c := by unfold wgt; rw [Nat.add_mod_right]
    rw [this]
    rfl
theorem ws_le (X : List UInt8) : ∀ b, (∀ c ∈ X, isDig c = true) → ws b X ≤ 9 * X.length := by
  induction X with
  | nil => intro b _; exact Nat.le_refl _
  | cons c X ih =>
    intro b h
    have h1 := wgt_le b (h c List.mem_cons_self)
    have h2 := ih (b + 1) (fun d hd => h d (List.mem_cons_of_mem _ hd))
    show wgt b c + ws (b + 1) X ≤ 9 * (X.length + 1)
    omega

/-- A text's digits, the last first. -/
def rv (s : ByteArray) : List UInt8 := s.data.toList.reverse
theorem rv_length (s : ByteArray) : (rv s).length = s.size := by simp [rv]
theorem rv_get (s : ByteArray) (i : Nat) (h : i < s.size) : (rv s).getD i 0 = s.data.toList.getD (s.size - 1 - i) 0 := by
  have hl : s.data.toList.length = s.size := by simp
  unfold rv
  rw [List.getD_eq_getElem?_getD, List.getD_eq_getElem?_getD, List.getElem?_reverse (by omega), hl]
theorem rv_drop (s : ByteArray) (i : Nat) (h : i < s.size) : (rv s).drop i = (rv s).getD i 0 :: (rv s).drop (i + 1) := by
  have hl := rv_length s
  rw [List.drop_eq_getElem_cons (by omega), List.getD_eq_getElem?_getD, List.getElem?_eq_getElem (by omega)]
  rfl
theorem rv_dig {s : ByteArray} (h : isD s = true) (i : Nat) (hi : i < s.size) : isDig ((rv s).getD i 0) = true := by
  have hl := rv_length s
  refine ((isD_iff s).1 h).2 _ ?_
  rw [List.getD_eq_getElem?_getD, List.getElem?_eq_getElem (by omega)]
  have h2 : (rv s)[i]'(by omega) ∈ rv s := List.getElem_mem _
  exact List.mem_reverse.1 h2
/-- The sum of a text's weights. -/
def wsB (b : Nat) (s : ByteArray) : Nat := ws b (rv s)
def luhnB (s : ByteArray) : Bool := isD s && decide (wsB 0 s % 10 = 0)
def checkN (s : ByteArray) : Nat := 48 + (10 - wsB 1 s % 10) % 10

theorem wsB_snoc (s : ByteArray) (c : UInt8) : wsB 0 (s ++ ⟨#[c]⟩) = dv c + wsB 1 s := by
  unfold wsB rv
  rw [ByteArray.data_append, Array.toList_append, List.reverse_append]
  show wgt 0 c + ws 1 _ = _
  rfl
theorem luhn_check {s : ByteArray} (h : isD s = true) : luhnB (s ++ ⟨#[UInt8.ofNat (checkN s)]⟩) = true := by
  have hc : checkN s < 58 ∧ 48 ≤ checkN s := by unfold checkN; omega
  have hn : (UInt8.ofNat (checkN s)).toNat = checkN s := by simp; omega
  have hd : isDig (UInt8.ofNat (checkN s)) = true := (isDig_iff _).2 (by omega)
  obtain ⟨h1, h2⟩ := (isD_iff s).1 h
  unfold luhnB
  rw [Bool.and_eq_true, decide_eq_true_eq, wsB_snoc]
  refine ⟨(isD_iff _).2 ⟨by rw [ByteArray.size_append]; omega, fun c hc => ?_⟩, ?_⟩
  · rw [ByteArray.data_append, Array.toList_append] at hc
    rcases List.mem_append.1 hc with h | h
    · exact h2 c h
    · have : c = UInt8.ofNat (checkN s) := by simpa using h
      rw [this]; exact hd
  · unfold dv
    rw [hn]
    unfold checkN
    omega

theorem dbl_inj : ∀ a b, a ≤ 9 → b ≤ 9 → dbl a % 10 = dbl b % 10 → a = b := by
  intro a b ha hb h
  unfold dbl at h
  split at h <;> split at h <;> omega

/-- One digit turned: the weights' sum is a multiple of ten just if it is the same digit. -/
theorem turned (l : List UInt8) (p : Nat) (c : UInt8) (hp : p < l.length) (hl : ∀ d ∈ l, isDig d = true) (hc : isDig c = true) (h0 : ws 0 l.reverse % 10 = 0) :
    (ws 0 (l.set p c).reverse % 10 = 0) ↔ c = l.getD p 0 := by
  have e1 : l = l.take p ++ l.getD p 0 :: l.drop (p + 1) := by
    rw [List.getD_eq_getElem?_getD, List.getElem?_eq_getElem hp]
    simp
  have e2 : l.set p c = l.take p ++ c :: l.drop (p + 1) := List.set_eq_take_append_cons_drop.trans (by rw [if_pos hp])
  have hd : isDig (l.getD p 0) = true := hl _ (by rw [List.getD_eq_getElem?_getD, List.getElem?_eq_getElem hp]; exact List.getElem_mem _)
  rw [e2]
  rw [e1] at h0
  generalize l.getD p 0 = d at h0 hd ⊢
  generalize l.take p = A at h0 ⊢
  generalize l.drop (p + 1) = B at h0 ⊢
  simp only [List.reverse_append, List.reverse_cons, List.append_assoc] at h0 ⊢
  rw [ws_append] at h0 ⊢
  simp only [List.singleton_append, ws] at h0 ⊢
  have hw : wgt (0 + B.reverse.length) c % 10 = wgt (0 + B.reverse.length) d % 10 → c = d := by
    intro h
    have h1 := (isDig_iff c).1 hc
    have h2 := (isDig_iff d).1 hd
    have h3 := dv_le hc
    have h4 := dv_le hd
    have h5 : dv c = dv d := by
      unfold wgt at h
      split at h
      · exact dbl_inj _ _ h3 h4 h
      · omega
    unfold dv at h5
    exact UInt8.toNat_inj.1 (by omega)
  constructor
  · intro h
    apply hw
    omega
  · intro h
    subst h
    exact h0
end Go.Proofs.YtlmbijhkpgolaaaGreatDoor

namespace Go.Proofs.YtlmbijhkpgolaaaGreatDoor
open Go.RowKit
set_option linter.unusedVariables false

theorem ret_int_d {k : IntKind} {a b : Int} (h : a = b) : Ending.returned (.int k a) = .returned (.int k b) := by rw [h]
theorem ret_boolE {a b : Bool} (h : a = b) : Ending.returned (.bool a) = .returned (.bool b) := by rw [h]

theorem get_d {s : ByteArray} {j : Nat} (h : j < s.size) : s.data.toList.getD j 0 = s[j] := by
  rw [List.getD_eq_getElem?_getD, List.getElem?_eq_getElem (by simpa using h)]; rfl
theorem isD_no {s : ByteArray} {j : Nat} (h : j < s.size) (hd : isDig s[j] = false) : isD s = false := by
  cases hb : isD s with
  | false => rfl
  | true =>
    have h2 := ((isD_iff s).1 hb).2 s[j] (by
      show s.data.toList[j]'(by simpa using h) ∈ _
      exact List.getElem_mem _)
    rw [hd] at h2; cases h2
theorem isD_all {s : ByteArray} (h : 0 < s.size) (hd : ∀ i, i < s.size → isDig (s.data.toList.getD i 0) = true) : isD s = true := by
  refine (isD_iff s).2 ⟨h, fun c hc => ?_⟩
  obtain ⟨i, hi, rfl⟩ := List.mem_iff_getElem.1 hc
  have hi' : i < s.size := by simpa using hi
  have := hd i hi'
  rw [List.getD_eq_getElem?_getD, List.getElem?_eq_getElem hi] at this
  exact this
theorem isD_empty {s : ByteArray} (h : ¬ 0 < s.size) : isD s = false := by unfold isD; rw [decide_eq_false h]; rfl
theorem toList_empty (s : ByteArray) : (s.toList == []) = !decide (0 < s.size) := by
  rw [Bool.eq_iff_iff, beq_iff_eq, ByteArray.toList_eq]
  cases s with
  | mk d => cases d with
    | mk l => cases l <;> simp [ByteArray.size]

set_option maxHeartbeats 400000 in
theorem Is_any (s : ByteArray) (w : World) (hs : s.size ≤ 1000000) :
    Calls Tryz.prog 81 #[.string s] w fun e w' => e = .returned (.bool (isD s)) ∧ w = w' := by
  go_enter Tryz.func81, Tryz.ntmps81
  go_wp2
  go_loop [6] (fun i => ∃ j : Nat, j ≤ s.size ∧ i = .int .i64 j ∧ Hid (∀ i, i < j → isDig (s.data.toList.getD i 0) = true)) (fun i => s.size - (intOf i).toNat)
  case atStart => exact ⟨0, Nat.zero_le _, rfl, fun i hi => by omega⟩
  case round =>
    obtain ⟨j, hj, rfl, HJ⟩ := hrel
    by_cases hlt : j < s.size
    · cases hd : isDig s[j] with
      | true =>
        have hd2 := (isDig_iff _).1 hd
        have h48 : (48 : Int) ≤ ((s[j]).toNat : Int) := by omega
        have h57 : ((s[j]).toNat : Int) ≤ 57 := by omega
        have hnext : Hid (∀ i, i < j + 1 → isDig (s.data.toList.getD i 0) = true) := by
          intro i hi
          rcases (by omega : i < j ∨ i = j) with h1 | h1
          · exact HJ.out i h1
          · rw [h1, get_d hlt]; exact hd
        clear hd hd2
        go_wp2
        go_round
        case rel => exact ⟨j + 1, by omega, by go_num, hnext⟩
        case measure => simp [intOf]; omega
      | false =>
        have hr : Hid (isD s = false) := isD_no hlt hd
        have hd2 : ¬ (48 ≤ (s[j]).toNat ∧ (s[j]).toNat ≤ 57) := fun h => by rw [(isDig_iff _).2 h] at hd; cases hd
        clear hd
        by_cases h48 : ((s[j]).toNat : Int) < 48
        · clear hd2
          go_wp2
          go_ret
          exact ⟨ret_boolE hr.out.symm, rfl⟩
        · have h57 : (57 : Int) < ((s[j]).toNat : Int) := by omega
          clear hd2
          go_wp2
          go_ret
          exact ⟨ret_boolE hr.out.symm, rfl⟩
    · have he := toList_empty s
      by_cases h0 : 0 < s.size
      · have hr : Hid (isD s = true) := isD_all h0 (fun i hi => HJ.out i (by omega))
        rw [decide_eq_true h0] at he
        go_wp2
        go_ret
        exact ⟨ret_boolE (by rw [hr.out]), rfl⟩
      · have hr : Hid (isD s = false) := isD_empty h0
        rw [decide_eq_false h0] at he
        go_wp2
        go_ret
        exact ⟨ret_boolE (by rw [hr.out]), rfl⟩

theorem dbl_hi {d : Nat} (h : 4 < d) : dbl d = 2 * d - 9 := by unfold dbl; rw [if_pos h]
theorem dbl_lo {d : Nat} (h : ¬ 4 < d) : dbl d = 2 * d := by unfold dbl; rw [if_neg h]

theorem doubled_any (d : Nat) (w : World) (hd : d ≤ 9) :
    Calls Tryz.prog 108 #[.int .i64 d] w fun e w' => e = .returned (.int .i64 (dbl d : Nat)) ∧ w = w' := by
  by_cases h : 4 < d
  · have h4 : (4 : Int) < (d : Int) := by omega
    go_enter Tryz.func108, Tryz.ntmps108
    go_wp2
    go_ret
    exact ⟨ret_int_d (by rw [dbl_hi h]; go_num), rfl⟩
  · have h4 : ¬ (4 : Int) < (d : Int) := by omega
    go_enter Tryz.func108, Tryz.ntmps108
    go_wp2
    go_ret
    exact ⟨ret_int_d (by rw [dbl_lo h]; go_num), rfl⟩

/-- A text's byte by a number that is reckoned. -/
theorem run_index_str_d {P : Program} (t : TypeId) (s : ByteArray) (j : Nat) (h : P.underlying t = some .string) (hj : j < s.size) (W : World) :
    (Instr.index t (.string s) (.int .i64 (j : Int))).run P W = .ok (.int .u8 ((s.data.toList.getD j 0).toNat : Int)) W := by
  have e : s[j]? = some (s.data.toList.getD j 0) := by
    have hj' : j < s.data.toList.length := by simpa using hj
    rw [List.getD_eq_getElem?_getD, List.getElem?_eq_getElem hj']
    simp [getElem?_pos, hj]
    rfl
  simp [Instr.index, run_underlying h, asIntOf, e]

theorem dbl_ref {d : Nat} (h : d ≤ 9) : ((dbl d : Nat) : Int) = (d : Int) * 2 / 10 + (d : Int) * 2 % 10 := by
  unfold dbl; split <;> omega
theorem wgt_odd {b : Nat} (c : UInt8) (h : b % 2 = 1) : wgt b c = dbl (dv c) := by unfold wgt; rw [if_pos h]
theorem wgt_even {b : Nat} (c : UInt8) (h : ¬ b % 2 = 1) : wgt b c = dv c := by unfold wgt; rw [if_neg h]
theorem ws_step (b : Nat) {s : ByteArray} {j : Nat} (h : j < s.size) : ws b ((rv s).drop j) = wgt b ((rv s).getD j 0) + ws (b + 1) ((rv s).drop (j + 1)) := by
  rw [rv_drop s j h]; rfl
theorem ws_end (b : Nat) {s : ByteArray} {j : Nat} (h : s.size ≤ j) : ws b ((rv s).drop j) = 0 := by
  rw [List.drop_eq_nil_of_le (by rw [rv_length]; exact h)]; rfl

theorem luhnB_not {s : ByteArray} (h : isD s = false) : luhnB s = false := by unfold luhnB; rw [h]; rfl
theorem luhnB_is {s : ByteArray} (h : isD s = true) : luhnB s = decide (wsB 0 s % 10 = 0) := by unfold luhnB; rw [h]; rfl

theorem beq0 (n : Nat) : ((n : Int) % 10 == 0) = decide (n % 10 = 0) := by
  rw [Bool.eq_iff_iff, beq_iff_eq, decide_eq_true_eq]; omega

/-- Is it a card's number? -/
def cardN (s : ByteArray) : Int := if isD s = false then 4 else if s.size < 13 then 3 else if 19 < s.size then 5 else if luhnB s = false then 25 else 0

theorem leap2024 (w : World) : Calls Tryz.prog 83 #[.int .i64 2024] w fun e w' => e = .returned (.bool true) ∧ w = w' := by
  go_enter Tryz.func83, Tryz.ntmps83
  go_wp2
  go_ret
  exact ⟨rfl, rfl⟩
theorem days2024 (w : World) : Calls Tryz.prog 70 #[.int .i64 2024, .int .i64 2] w fun e w' => e = .returned (.int .i64 29) ∧ w = w' := by
  go_enter Tryz.func70, Tryz.ntmps70
  go_wp2_with (go_at_call 83; refine (leap2024 _).mono ?_; rintro e w' ⟨rfl, rfl⟩)
  go_ret
  exact ⟨rfl, rfl⟩
end Go.Proofs.YtlmbijhkpgolaaaGreatDoor

namespace Go.Proofs.YtlmbijhkpgolaaaGreatDoor
open Go.RowKit
set_option linter.unusedVariables false

/-- Where the four bytes stand; their number; the digits. -/
def truncAt (l : List UInt8) : Nat := (l.getD (l.length - 1) 0).toNat % 16
def truncN (l : List UInt8) : Nat := getL ((l.drop (truncAt l)).take 4) % 2147483648
def truncL (l : List UInt8) (width : Nat) : List UInt8 := textL (truncN l % 10 ^ width) width

set_option maxRecDepth 20000 in
set_option maxHeartbeats 1000000 in
theorem Trunc_arg (s : ByteArray) (width : Int) (hw : width < 1 ∨ 9 < width) (w : World) :
    Calls Tryz.prog 30 #[.string s, .int .i64 width] w fun e w' => e = .returned (.tuple #[.string ⟨#[]⟩, .int .i64 2]) ∧ w = w' := by
  rcases hw with h | h
  · go_enter Tryz.func30, Tryz.ntmps30
    go_wp2
    go_ret2
    exact ⟨rfl, rfl⟩
  · have h' : ¬ width < 1 := by omega
    go_enter Tryz.func30, Tryz.ntmps30
    go_wp2
    go_ret2
    exact ⟨rfl, rfl⟩

set_option maxRecDepth 20000 in
set_option maxHeartbeats 1000000 in
theorem Trunc_short (s : ByteArray) (width : Int) (h1 : 1 ≤ width) (h9 : width ≤ 9) (hs : s.size < 20) (w : World) :
    Calls Tryz.prog 30 #[.string s, .int .i64 width] w fun e w' => e = .returned (.tuple #[.string ⟨#[]⟩, .int .i64 3]) ∧ w = w' := by
  have hsI : (s.size : Int) < 20 := by omega
  go_enter Tryz.func30, Tryz.ntmps30
  go_wp2
  go_ret2
  exact ⟨rfl, rfl⟩

theorem truncN_lt (l : List UInt8) : truncN l < 2147483648 := by unfold truncN; exact Nat.mod_lt _ (by omega)
theorem four_of (s : ByteArray) (hs : 20 ≤ s.size) : s[s.size - 1]'(by omega) = s.data.toList.getD (s.data.toList.length - 1) 0 := by
  have hl : s.data.toList.length = s.size := by simp
  rw [hl, List.getD_eq_getElem?_getD, List.getElem?_eq_getElem (by omega)]
  rfl
theorem four_len (s : ByteArray) (hs : 20 ≤ s.size) (a : Nat) (ha : a < 16) : (s.extract a (a + 4)).size = 4 ∧ (s.extract a (a + 4)).data.toList = (s.data.toList.drop a).take 4 := by
  refine ⟨by rw [ByteArray.size_extract]; omega, ?_⟩
  rw [Lib.extract_data, Nat.add_sub_cancel_left]

set_option maxRecDepth 20000 in
set_option maxHeartbeats 1000000 in
theorem Trunc_ok (s : ByteArray) (width : Nat) (h1 : 1 ≤ width) (h9 : width ≤ 9) (hs : 20 ≤ s.size) (hs2 : s.size ≤ 100000) (w : World) (hT : T10 w) :
    Calls Tryz.prog 30 #[.string s, .int .i64 width] w fun e w' => e = .returned (.tuple #[.string ⟨(truncL s.data.toList width).toArray⟩, .int .i64 0]) ∧ Below w.heap.size w w' := by
  have hsI : 20 ≤ (s.size : Int) := by omega
  have hsI2 : (s.size : Int) ≤ 100000 := by omega
  have h1I : 1 ≤ (width : Int) := by omega
  have h9I : (width : Int) ≤ 9 := by omega
  have hf := four_of s hs
  obtain ⟨c, hc⟩ : ∃ c, s[s.size - 1]'(by omega) = c := ⟨_, rfl⟩
  obtain ⟨h4, h4d⟩ := four_len s hs (c.toNat % 16) (Nat.mod_lt _ (by omega))
  obtain ⟨q, hq⟩ : ∃ q, s.extract (c.toNat % 16) (c.toNat % 16 + 4) = q := ⟨_, rfl⟩
  rw [hq] at h4 h4d
  have hta : truncAt s.data.toList = c.toNat % 16 := by unfold truncAt; rw [← hf, hc]
  have hql : q.data.toList.length = 4 := by rw [← h4]; simp
  obtain ⟨n4, hn4⟩ : ∃ n4, getL q.data.toList = n4 := ⟨_, rfl⟩
  have hn4l : n4 < 4294967296 := by
    have := getL_lt q.data.toList
    rw [hql, hn4] at this
    exact this
  have HGET : Hid (∀ W : World, Calls Tryz.prog 16 #[.string q] W fun e w' => e = .returned (.tuple #[.int .u64 (n4 : Nat), .int .i64 0]) ∧ W = w') := Lib.hid fun W => by
    have h := Get_any q W (by omega)
    have e1 : getE q.data.toList = 0 := by unfold getE; rw [if_neg (by omega), if_neg (by omega)]
    have e2 : getN q.data.toList = n4 := by unfold getN; rw [if_neg (by omega), if_neg (by omega), hn4]
    rwa [e1, e2] at h
  obtain ⟨m, hm⟩ : ∃ m, truncN s.data.toList = m := ⟨_, rfl⟩
  have hm4 : n4 % 2147483648 = m := by
    rw [← hm, ← hn4, h4d]
    unfold truncN
    rw [hta]
  have hand : bits .and .u64 (n4 : Int) 2147483647 = ((m : Nat) : Int) := by
    have h := u64_and_nat n4 2147483647 (by omega) (by omega)
    rw [show (2147483647 : Nat) = 2 ^ 31 - 1 from rfl, Nat.and_two_pow_sub_one_eq_mod] at h
    rw [← hm4]
    exact h
  obtain ⟨T, hTe⟩ : ∃ T : Nat, 10 ^ width = T := ⟨_, rfl⟩
  have hT0 : 0 < T := by rw [← hTe]; exact Nat.pow_pos (by omega)
  have hml : m < 2147483648 := by rw [← hm]; exact truncN_lt _
  have hT0I : (0 : Int) < (T : Int) := by omega
  have HP : Hid (∀ W : World, Calls Tryz.prog 45 #[.int .i64 (width : Nat)] W fun e w' => e = .returned (.int .u64 (T : Nat)) ∧ w' = W) := Lib.hid fun W => by
    rw [← hTe]; exact power_any width h9 W
  obtain ⟨X, hX⟩ : ∃ X : ByteArray, (⟨(truncL s.data.toList width).toArray⟩ : ByteArray) = X := ⟨_, rfl⟩
  have HTX : Hid (∀ W : World, T10 W → Calls Tryz.prog 44 #[.int .u64 ((m : Int) % (T : Int)), .int .i64 width] W fun e w' => e = .returned (.string X) ∧ Below W.heap.size W w') := Lib.hid fun W h => by
    have h2 := Text_dig (m % T) width (by have := Nat.mod_le m T; omega) (by omega) W h
    rw [← hX]
    unfold truncL
    rw [hm, hTe]
    rwa [Int.natCast_emod] at h2
  rw [hX]
  have HT := Lib.hid hT
  have HC := Lib.hid hc
  have HQ := Lib.hid hq
  obtain ⟨N4, hN4⟩ : ∃ N4 : Int, ((n4 : Nat) : Int) = N4 := ⟨_, rfl⟩
  obtain ⟨M, hM⟩ : ∃ M : Int, ((m : Nat) : Int) = M := ⟨_, rfl⟩
  obtain ⟨TI, hTI⟩ : ∃ TI : Int, ((T : Nat) : Int) = TI := ⟨_, rfl⟩
  rw [hN4] at HGET hand
  rw [hM] at hand HTX
  rw [hTI] at HP HTX hT0I
  have hn4I : N4 < 4294967296 := by omega
  have hn4I0 : 0 ≤ N4 := by omega
  have hmI : M < 2147483648 := by omega
  have hmI0 : 0 ≤ M := by omega
  clear hN4 hM hTI
  clear hX hTe hm4 hm hn4 hql hta hf h4 h4d hT hT0 hml hn4l hq hc
  go_enter Tryz.func30, Tryz.ntmps30
  go_wp2_with fail
  rw [HC.out, HQ.out]
  refine (HGET.out _).mono ?_
  rintro e w1 ⟨rfl, rfl⟩
  go_wp2_with fail
  refine (HP.out _).mono ?_
  rintro e w2 ⟨rfl, rfl⟩
  go_wp2_with fail
  refine (HTX.out _ HT.out).mono ?_
  rintro e w2 ⟨rfl, hb⟩
  go_wp2_with fail
  go_ret2
  exact ⟨rfl, hb⟩

set_option maxRecDepth 20000 in
set_option maxHeartbeats 1000000 in
theorem Code_any (key : ByteArray) (c : Nat) (hk : key.size ≤ 100000) (hc : c < 18446744073709551616) (w : World) (hG : G w) (hT : T10 w) :
    Calls Tryz.prog 17 #[.string key, .int .u64 c] w fun e w' => e = .returned (.string ⟨(truncL (hmacL key.data.toList (putL c 8)) 6).toArray⟩) ∧ Below w.heap.size w w' := by
  obtain ⟨p, hp⟩ : ∃ p : ByteArray, (⟨(putL c 8).toArray⟩ : ByteArray) = p := ⟨_, rfl⟩
  have hps : p.size = 8 := by rw [← hp]; show (putL c 8).toArray.size = 8; rw [List.size_toArray, putL_length]
  have hpd : p.data.toList = putL c 8 := by rw [← hp]
  have HPUT : Hid (∀ W : World, Calls Tryz.prog 32 #[.int .u64 c, .int .i64 8] W fun e w' => e = .returned (.string p) ∧ Below W.heap.size W w') := Lib.hid fun W => by
    have h := Put_any c 8 W hc
    rw [show szOf 8 = 8 by decide, hp] at h
    exact h
  obtain ⟨r, hr⟩ : ∃ r : ByteArray, (⟨(hmacL key.data.toList p.data.toList).toArray⟩ : ByteArray) = r := ⟨_, rfl⟩
  have hrs : r.size = 32 := by rw [← hr]; show (hmacL key.data.toList p.data.toList).toArray.size = 32; rw [List.size_toArray, hmacL_length]
  have hrd : r.data.toList = hmacL key.data.toList (putL c 8) := by rw [← hr, hpd]
  have HS : Hid (∀ (W : World) (g : Nat), G W → Row W g 9 [.string p] → Calls Tryz.prog 31 #[.string key, .slice (some ⟨g, 0, none⟩) 1 1] W fun e w' => e = .returned (.string r) ∧ Below W.heap.size W w') := Lib.hid fun W g h1 h2 => by
    have h := HmSum_one key p (by omega) (by omega) W g h1 h2
    rwa [hr] at h
  obtain ⟨X, hX⟩ : ∃ X : ByteArray, (⟨(truncL (hmacL key.data.toList (putL c 8)) 6).toArray⟩ : ByteArray) = X := ⟨_, rfl⟩
  have HTR : Hid (∀ W : World, T10 W → Calls Tryz.prog 30 #[.string r, .int .i64 6] W fun e w' => e = .returned (.tuple #[.string X, .int .i64 0]) ∧ Below W.heap.size W w') := Lib.hid fun W h => by
    have h2 := Trunc_ok r 6 (by omega) (by omega) (by omega) (by omega) W h
    rw [hrd, hX] at h2
    exact h2
  rw [hX]
  have HG := Lib.hid hG
  have HT := Lib.hid hT
  clear hX hrd hrs hr hpd hps hp hG hT
  have B0 := Below.refl w.heap.size w
  go_enter Tryz.func17, Tryz.ntmps17
  go_wp2_with fail
  refine (HPUT.out _).mono ?_
  rintro e w1 ⟨rfl, hb⟩
  have B1 := B0.trans (hb.mono B0.size)
  clear hb B0
  have B2 := B1.alloc B1.size (.cells #[Value.string p] 9)
  go_wp2_with fail
  refine (HS.out _ w1.heap.size (HG.out.below B2) (Row.new w1 9 [Value.string p])).mono ?_
  rintro e w2 ⟨rfl, hb⟩
  have B3 := B2.trans (hb.mono B2.size)
  clear hb B1 B2
  go_wp2_with fail
  refine (HTR.out _ (HT.out.below B3)).mono ?_
  rintro e w3 ⟨rfl, hb⟩
  have B4 := B3.trans (hb.mono B3.size)
  clear hb B3
  go_wp2_with fail
  go_ret
  exact ⟨rfl, B4⟩
end Go.Proofs.YtlmbijhkpgolaaaGreatDoor

namespace Go.Proofs.YtlmbijhkpgolaaaGreatDoor
open Go.RowKit
set_option linter.unusedVariables false

set_option maxRecDepth 20000 in
set_option maxHeartbeats 1000000 in
theorem refTrunc_any (s : ByteArray) (width : Nat) (h1 : 1 ≤ width) (h9 : width ≤ 9) (hs : 20 ≤ s.size) (hs2 : s.size ≤ 100000) (w : World) :
    Calls Tryz.prog 33 #[.string s, .int .i64 width] w fun e w' => e = .returned (.string ⟨(truncL s.data.toList width).toArray⟩) ∧ Below w.heap.size w w' := by
  have hsI : 20 ≤ (s.size : Int) := by omega
  have hsI2 : (s.size : Int) ≤ 100000 := by omega
  have h1I : 1 ≤ (width : Int) := by omega
  have h9I : (width : Int) ≤ 9 := by omega
  have hf := four_of s hs
  obtain ⟨c, hc⟩ : ∃ c, s[s.size - 1]'(by omega) = c := ⟨_, rfl⟩
  obtain ⟨h4, h4d⟩ := four_len s hs (c.toNat % 16) (Nat.mod_lt _ (by omega))
  obtain ⟨q, hq⟩ : ∃ q, s.extract (c.toNat % 16) (c.toNat % 16 + 4) = q := ⟨_, rfl⟩
  rw [hq] at h4 h4d
  have hta : truncAt s.data.toList = c.toNat % 16 := by unfold truncAt; rw [← hf, hc]
  have hql : q.data.toList.length = 4 := by rw [← h4]; simp
  obtain ⟨n4, hn4⟩ : ∃ n4, getL q.data.toList = n4 := ⟨_, rfl⟩
  have HGET : Hid (∀ W : World, Calls Tryz.prog 19 #[.string q] W fun e w' => e = .returned (.int .u64 (n4 : Nat)) ∧ W = w') := Lib.hid fun W => by
    have h := refGet_any q W (by omega)
    rw [hn4] at h
    exact h.mono fun e w' ⟨h1, h2⟩ => ⟨h1, h2⟩
  obtain ⟨m, hm⟩ : ∃ m, truncN s.data.toList = m := ⟨_, rfl⟩
  have hml : m < 2147483648 := by rw [← hm]; exact truncN_lt _
  have hm4 : n4 % 2147483648 = m := by
    rw [← hm, ← hn4, h4d]
    unfold truncN
    rw [hta]
  have hn4l : n4 < 4294967296 := by
    have := getL_lt q.data.toList
    rw [hql, hn4] at this
    exact this
  obtain ⟨X, hX⟩ : ∃ X : ByteArray, (⟨(truncL s.data.toList width).toArray⟩ : ByteArray) = X := ⟨_, rfl⟩
  obtain ⟨T, hTe⟩ : ∃ T : Nat, 10 ^ width = T := ⟨_, rfl⟩
  have hT0 : 0 < T := by rw [← hTe]; exact Nat.pow_pos (by omega)
  have HTX : Hid (∀ W : World, Calls Tryz.prog 48 #[.int .u64 ((m : Int) % (T : Int)), .int .i64 width] W fun e w' => e = .returned (.string X) ∧ Below W.heap.size W w') := Lib.hid fun W => by
    have h2 := refText3_any (m % T) width (by have := Nat.mod_le m T; omega) (by omega) W
    rw [← hX]
    unfold truncL
    rw [hm, hTe]
    rwa [Int.natCast_emod] at h2
  rw [hX]
  have HC := Lib.hid hc
  have HQ := Lib.hid hq
  obtain ⟨N4, hN4⟩ : ∃ N4 : Int, ((n4 : Nat) : Int) = N4 := ⟨_, rfl⟩
  obtain ⟨M, hM⟩ : ∃ M : Int, ((m : Nat) : Int) = M := ⟨_, rfl⟩
  rw [hN4] at HGET
  rw [hM] at HTX
  have hrem : N4 % 2147483648 = M := by omega
  have HREM := Lib.hid hrem
  have hn4I : N4 < 4294967296 := by omega
  have hn4I0 : 0 ≤ N4 := by omega
  have hmI : M < 2147483648 := by omega
  have hmI0 : 0 ≤ M := by omega
  have HTE := Lib.hid hTe
  have HT0 := Lib.hid hT0
  have hsb : (((s[s.size - 1]'(by omega)).toNat : Nat) : Int) ≤ 255 := by have := UInt8.toNat_lt (s[s.size - 1]'(by omega)); omega
  clear hX hTe hm4 hm hn4 hql hta hf h4 h4d hT0 hml hn4l hq hc hN4 hM hrem
  go_enter Tryz.func33, Tryz.ntmps33
  go_wp2_with fail
  rw [HC.out, HQ.out]
  refine (HGET.out _).mono ?_
  rintro e w1 ⟨rfl, rfl⟩
  go_wp2_with fail
  rw [HREM.out]
  go_loop [7, 8] (fun d i => ∃ j p : Nat, j ≤ width ∧ i = .int .i64 j ∧ d = .int .u64 (p : Nat) ∧ Hid (p = 10 ^ j)) (fun _ i => width - (intOf i).toNat)
  case atStart => exact ⟨0, 1, Nat.zero_le _, rfl, rfl, Lib.hid rfl⟩
  case round =>
    obtain ⟨j, p, hj, rfl, rfl, HP⟩ := hrel
    by_cases hlt : j < width
    · have hp : p * 10 ≤ 1000000000 := by
        have h : 10 ^ (j + 1) ≤ 10 ^ 9 := Nat.pow_le_pow_right (by omega) (by omega)
        rw [Nat.pow_succ, ← HP.out] at h
        exact h
      obtain ⟨q, hq⟩ : ∃ q, p * 10 = q := ⟨_, rfl⟩
      have hqi : (p : Int) * 10 = (q : Int) := by omega
      have HQ2 : Hid (q = 10 ^ (j + 1)) := Lib.hid (by rw [Nat.pow_succ, ← HP.out, hq])
      have hql : q ≤ 1000000000 := by omega
      clear hq hp
      go_wp2
      go_round
      case rel => exact ⟨j + 1, q, by omega, by go_num, rfl, HQ2⟩
      case measure => simp [intOf]; omega
    · have HE : Hid (p = T) := Lib.hid (by rw [HP.out, ← HTE.out]; congr 1; omega)
      obtain rfl : p = T := HE.out
      have hge : (width : Int) ≤ (j : Int) := by omega
      have hp0 : (0 : Int) < (p : Int) := by have := HT0.out; omega
      go_wp2_with fail
      refine (HTX.out _).mono ?_
      rintro e w2 ⟨rfl, hb⟩
      go_wp2_with fail
      go_ret
      exact ⟨rfl, hb⟩

set_option maxRecDepth 20000 in
set_option maxHeartbeats 1000000 in
theorem refCode_any (key : ByteArray) (c : Nat) (hk : key.size ≤ 10000) (hc : c < 18446744073709551616) (w : World) :
    Calls Tryz.prog 18 #[.string key, .int .u64 c] w fun e w' => e = .returned (.string ⟨(truncL (hmacL key.data.toList (putL c 8)) 6).toArray⟩) ∧ Below w.heap.size w w' := by
  obtain ⟨p, hp⟩ : ∃ p : ByteArray, (⟨(putL c 8).toArray⟩ : ByteArray) = p := ⟨_, rfl⟩
  have hps : p.size = 8 := by rw [← hp]; show (putL c 8).toArray.size = 8; rw [List.size_toArray, putL_length]
  have hpd : p.data.toList = putL c 8 := by rw [← hp]
  have HPUT : Hid (∀ W : World, Calls Tryz.prog 35 #[.int .u64 c, .int .i64 8] W fun e w' => e = .returned (.string p) ∧ Below W.heap.size W w') := Lib.hid fun W => by
    have h := refPut_any c 8 W hc (by omega) (by omega)
    rw [show szOf 8 = 8 by decide, hp] at h
    exact h
  obtain ⟨r, hr⟩ : ∃ r : ByteArray, (⟨(hmacL key.data.toList p.data.toList).toArray⟩ : ByteArray) = r := ⟨_, rfl⟩
  have hrs : r.size = 32 := by rw [← hr]; show (hmacL key.data.toList p.data.toList).toArray.size = 32; rw [List.size_toArray, hmacL_length]
  have hrd : r.data.toList = hmacL key.data.toList (putL c 8) := by rw [← hr, hpd]
  have HS : Hid (∀ W : World, Calls Tryz.prog 34 #[.string key, .string p] W fun e w' => e = .returned (.string r) ∧ Below W.heap.size W w') := Lib.hid fun W => by
    have h := refHm_any key p (by omega) (by omega) W
    rwa [hr] at h
  obtain ⟨X, hX⟩ : ∃ X : ByteArray, (⟨(truncL (hmacL key.data.toList (putL c 8)) 6).toArray⟩ : ByteArray) = X := ⟨_, rfl⟩
  have HTR : Hid (∀ W : World, Calls Tryz.prog 33 #[.string r, .int .i64 6] W fun e w' => e = .returned (.string X) ∧ Below W.heap.size W w') := Lib.hid fun W => by
    have h2 := refTrunc_any r 6 (by omega) (by omega) (by omega) (by omega) W
    rw [hrd, hX] at h2
    exact h2
  rw [hX]
  clear hX hrd hrs hr hpd hps hp
  have B0 := Below.refl w.heap.size w
  go_enter Tryz.func18, Tryz.ntmps18
  go_wp2_with fail
  refine (HPUT.out _).mono ?_
  rintro e w1 ⟨rfl, hb⟩
  have B1 := B0.trans (hb.mono B0.size)
  clear hb B0
  go_wp2_with fail
  refine (HS.out _).mono ?_
  rintro e w2 ⟨rfl, hb⟩
  have B3 := B1.trans (hb.mono B1.size)
  clear hb B1
  go_wp2_with fail
  refine (HTR.out _).mono ?_
  rintro e w3 ⟨rfl, hb⟩
  have B4 := B3.trans (hb.mono B3.size)
  clear hb B3
  go_wp2_with fail
  go_ret
  exact ⟨rfl, B4⟩
end Go.Proofs.YtlmbijhkpgolaaaGreatDoor

namespace Go.Proofs.YtlmbijhkpgolaaaGreatDoor
open Go.RowKit
set_option linter.unusedVariables false

def z16 : List Value := List.replicate 16 (.int .u8 0)
/-- The first k bytes, noughts behind. -/
def irow (l : List UInt8) (k : Nat) : List Value := (l.take k).map bv ++ List.replicate (16 - k) (.int .u8 0)
theorem irow_length (l : List UInt8) (hl : l.length = 16) {k : Nat} (h : k ≤ 16) : (irow l k).length = 16 := by unfold irow; simp [hl]; omega
theorem irow_set (l : List UInt8) (hl : l.length = 16) {k : Nat} (h : k < 16) (x : UInt8) (hx : l[k]? = some x) : (irow l k).set k (.int .u8 x.toNat) = irow l (k + 1) := by
  unfold irow
  have hk : ((l.take k).map bv).length = k := by simp [hl]; omega
  have e : 16 - k = (16 - (k + 1)) + 1 := by omega
  rw [e, List.replicate_succ, List.set_append_right _ _ (by omega), hk, Nat.sub_self, List.set_cons_zero, List.take_add_one, hx, List.map_append, List.append_assoc]
  rfl
theorem irow_all (l : List UInt8) (hl : l.length = 16) : irow l 16 = l.map bv := by
  unfold irow
  rw [List.take_of_length_le (by rw [hl]; exact Nat.le_refl _)]
  simp
theorem u8_info6 : (Tryz.prog.info? 5).map (fun i => (i.zero, i.size, i.bytes)) = some (some (.int .u8 0), 1, 1) := by kernel_rfl
theorem made16 : madeCells #[.int .u8 0] 16 = z16.toArray := by kernel_rfl

set_option maxRecDepth 20000 in
set_option maxHeartbeats 2000000 in
theorem raw_any (l : List UInt8) (hl : l.length = 16) (w : World) :
    Calls Tryz.prog 21 #[.agg (l.map bv).toArray] w fun e w' => e = .returned (.string ⟨l.toArray⟩) ∧ Below w.heap.size w w' := by
  obtain ⟨i0, hi0, hz0, hz1, hz2⟩ := info_parts u8_info6
  have hmk : ∀ W : World, (Instr.makeSlice 43 (.int .i64 16) (.int .i64 16)).run Tryz.prog W = .ok (.slice (some ⟨W.heap.size, 0, none⟩) 16 16) (W.alloc (.cells z16.toArray 5)) := fun W => by
    rw [← made16]
    exact run_make_row 43 5 i0 (.int .u8 0) Tryz.underlying43 hi0 hz0 hz1 rfl .i64 .i64 16 (by rw [hz2]; decide) (by decide) W
  have h := hmk (w.alloc (.cells (l.map bv).toArray 26))
  rw [World.size_alloc] at h
  have r0 := (Row.new w 26 (l.map bv)).alloc (.cells z16.toArray 5)
  have r1 := Row.new (w.alloc (.cells (l.map bv).toArray 26)) 5 z16
  rw [World.size_alloc] at r1
  have b1 : Below w.heap.size w ((w.alloc (.cells (l.map bv).toArray 26)).alloc (.cells z16.toArray 5)) := ((Below.refl _ _).alloc (Nat.le_refl _) _).alloc (by simp) _
  obtain ⟨C, hC⟩ : ∃ C, l.map bv = C := ⟨_, rfl⟩
  have hcg : ∀ (k : Nat) (x : UInt8), l[k]? = some x → C[k]? = some (Value.int .u8 x.toNat) := by
    intro k x hx
    rw [← hC, List.getElem?_map, hx]; rfl
  rw [hC] at h r0 r1 b1 ⊢
  have HC := Lib.hid (And.intro hcg hl)
  have H := Lib.hid (And.intro r0 (And.intro r1 b1))
  clear hmk hi0 hz0 hz1 hz2 r0 r1 b1 hC hl hcg
  go_enter Tryz.func21, Tryz.ntmps21
  go_wp2
  obtain ⟨r0, r1, b1⟩ := H.out
  generalize (w.alloc (.cells C.toArray 26)).alloc (.cells z16.toArray 5) = w1 at r0 r1 b1 ⊢
  clear h H
  go_loopw [4] (fun i wr => ∃ k : Nat, k ≤ 16 ∧ i = .int .i64 k ∧ Row wr (w.heap.size + 1) 5 (irow l k) ∧ Row wr w.heap.size 26 C ∧ Below w.heap.size w wr) (fun i _ => 16 - (intOf i).toNat)
  case atStart => exact ⟨0, Nat.zero_le _, rfl, r1, r0, b1⟩
  case round =>
    obtain ⟨k, hk, rfl, h1, h3, h2⟩ := hrel
    clear r1 r0 b1
    by_cases hlt : k < 16
    · obtain ⟨x, hx⟩ : ∃ x, l[k]? = some x := ⟨_, List.getElem?_eq_getElem (by rw [HC.out.2]; exact hlt)⟩
      have hcx : wr.cell? ⟨w.heap.size, k, none⟩ = some (.int .u8 (x.toNat : Int)) := by rw [h3.cell]; exact HC.out.1 k x hx
      obtain ⟨v0, hc0⟩ : ∃ v, wr.cell? ⟨w.heap.size + 1, k, none⟩ = some v := by
        rw [h1.cell]; exact ⟨_, List.getElem?_eq_getElem (by rw [irow_length l HC.out.2 hk]; exact hlt)⟩
      have hf0 := h1.frozen k
      have hs1 := h1.set k (.int .u8 (x.toNat : Int))
      rw [irow_set l HC.out.2 hlt x hx] at hs1
      have hs2 := h2.setCell (p := ⟨w.heap.size + 1, k, none⟩) (by show w.heap.size ≤ w.heap.size + 1; omega) (.int .u8 (x.toNat : Int))
      have hs3 := h3.far (p := ⟨w.heap.size + 1, k, none⟩) (by show w.heap.size ≠ w.heap.size + 1; omega) (.int .u8 (x.toNat : Int))
      have H := Lib.hid (And.intro hs1 (And.intro hs3 hs2))
      have hkI : (k : Int) < 16 := by omega
      clear hs1 hs2 hs3 h1 h2 h3 hx
      go_wp2
      go_roundw
      case rel => exact ⟨k + 1, by omega, by go_num, H.out.1, H.out.2.1, H.out.2.2⟩
      case measure => simp [intOf]; omega
    · have hk2 : k = 16 := by omega
      rw [hk2, irow_all l HC.out.2] at h1
      have hge : 16 ≤ k := by omega
      have hcv := conv_bytes (P := Tryz.prog) wr 43 9 5 Tryz.underlying43 Tryz.underlying5 Tryz.underlying9 (w.heap.size + 1) 0 16 16 l HC.out.2 (fun i hi => by
        rw [Nat.zero_add, h1.cell])
      have H := Lib.hid h2
      clear hk2 hlt hk h1 h2 h3
      go_wp2
      go_ret
      exact ⟨rfl, H.out⟩

end Go.Proofs.YtlmbijhkpgolaaaGreatDoor

namespace Go.Proofs.YtlmbijhkpgolaaaGreatDoor
open Go.RowKit
set_option linter.unusedVariables false
set_option linter.unusedSimpArgs false

/-- The counter of an id; the code. -/
def otpN (l : List UInt8) : Nat := getL ((shaL ([111, 116, 112] ++ l)).take 8)
def otpCode (key : ByteArray) (l : List UInt8) : ByteArray := ⟨(truncL (hmacL key.data.toList (putL (otpN l) 8)) 6).toArray⟩
theorem otpN_lt (l : List UInt8) : otpN l < 18446744073709551616 := by
  unfold otpN
  have h := getL_lt ((shaL ([111, 116, 112] ++ l)).take 8)
  rw [List.length_take, shaL_length] at h
  exact h
/-- The first eight bytes of a sum. -/
theorem otp_eight (l : List UInt8) (q : ByteArray) (hq : (⟨(shaL ([111, 116, 112] ++ l)).toArray⟩ : ByteArray).extract 0 8 = q) : q.size = 8 ∧ getL q.data.toList = otpN l := by
  have e : q.data.toList = (shaL ([111, 116, 112] ++ l)).take 8 := by rw [← hq, Lib.extract_data, List.drop_zero]
  have hs : q.size = q.data.toList.length := by simp
  exact ⟨by rw [hs, e, List.length_take, shaL_length]; rfl, by rw [e]; rfl⟩
attribute [local irreducible] hmacL shaL truncL
theorem cat_runO {P : Program} (a b c : ByteArray) (h : a ++ b = c) (hs : c.size ≤ 1000) (W : World) : (Op.stringOp .add a b).run P W = .ok (.string c) W := by
  rw [← h]
  exact run_string_add_sum W a b (by rw [← ByteArray.size_append, h]; omega)

set_option maxRecDepth 20000 in
set_option maxHeartbeats 1000000 in
theorem otpCode_any (key : ByteArray) (l : List UInt8) (hl : l.length = 16) (hk : key.size ≤ 1000) (w : World) (hG : G w) (hT : T10 w) :
    Calls Tryz.prog 6 #[.string key, .agg (l.map bv).toArray] w fun e w' => e = .returned (.string (otpCode key l)) ∧ Below w.heap.size w w' := by
  obtain ⟨q, hq⟩ : ∃ q, (⟨(shaL ([111, 116, 112] ++ l)).toArray⟩ : ByteArray).extract 0 8 = q := ⟨_, rfl⟩
  obtain ⟨hq8, hqn⟩ := otp_eight l q hq
  have hSH : Hid (∀ (W : World) (g : Nat), G W → Row W g 9 [.string ⟨#[111, 116, 112]⟩, .string ⟨l.toArray⟩] → Calls Tryz.prog 15 #[.slice (some ⟨g, 0, none⟩) 2 2] W fun e w' => e = .returned (.string ⟨(shaL ([111, 116, 112] ++ l)).toArray⟩) ∧ Below W.heap.size W w') := Lib.hid fun W g hg hr =>
    Text_any g 0 2 [⟨#[111, 116, 112]⟩, ⟨l.toArray⟩] W hg (fun j x hx => by rw [Nat.zero_add, hr.cell]; match j, hx with | 0, hx => cases hx; rfl | 1, hx => cases hx; rfl) hr.lt (by simp) (by simp) ([111, 116, 112] ++ l) (by rw [join_flat]; simp) (by simp; omega)
  have hGET : Hid (∀ W : World, Calls Tryz.prog 16 #[.string q] W fun e w' => e = .returned (.tuple #[.int .u64 (otpN l), .int .i64 0]) ∧ W = w') := Lib.hid fun W => by
    have h := Get_any q W (by omega)
    have hqs : q.data.toList.length = 8 := by rw [← hq8]; simp
    have e1 : getE q.data.toList = 0 := by unfold getE; rw [if_neg (by omega), if_neg (by omega)]
    have e2 : getN q.data.toList = otpN l := by unfold getN; rw [if_neg (by omega), if_neg (by omega), hqn]
    rwa [e1, e2] at h
  have hCO : Hid (∀ W : World, G W → T10 W → Calls Tryz.prog 17 #[.string key, .int .u64 (otpN l)] W fun e w' => e = .returned (.string (otpCode key l)) ∧ Below W.heap.size W w') := Lib.hid fun W h1 h2 => Code_any key (otpN l) (by omega) (otpN_lt l) W h1 h2
  obtain ⟨s, hs⟩ : ∃ s : ByteArray, (⟨(shaL ([111, 116, 112] ++ l)).toArray⟩ : ByteArray) = s := ⟨_, rfl⟩
  have hss : 8 ≤ s.size := by rw [← hs]; show 8 ≤ (shaL ([111, 116, 112] ++ l)).toArray.size; rw [List.size_toArray, shaL_length]; decide
  have hss' : s.size = 32 := by rw [← hs]; show (shaL ([111, 116, 112] ++ l)).toArray.size = 32; rw [List.size_toArray, shaL_length]
  rw [hs] at hSH hq
  obtain ⟨N, hN⟩ : ∃ N, otpN l = N := ⟨_, rfl⟩
  obtain ⟨X, hX⟩ : ∃ X, otpCode key l = X := ⟨_, rfl⟩
  rw [hN] at hGET hCO
  rw [hX] at hCO ⊢
  obtain ⟨C, hC⟩ : ∃ C, l.map bv = C := ⟨_, rfl⟩
  rw [hC]
  have r0 := Row.new w 26 C
  have b0 : Below w.heap.size w (w.alloc (.cells C.toArray 26)) := (Below.refl _ _).alloc (Nat.le_refl _) _
  have hcv := conv_bytes (P := Tryz.prog) (w.alloc (.cells C.toArray 26)) 43 9 5 Tryz.underlying43 Tryz.underlying5 Tryz.underlying9 w.heap.size 0 16 16 l hl (fun i hi => by
        rw [Nat.zero_add, r0.cell, ← hC])
  have r1 := Row.new (w.alloc (.cells C.toArray 26)) 9 [Value.string ⟨#[111, 116, 112]⟩, .string ⟨l.toArray⟩]
  have b1 := b0.alloc b0.size (.cells #[Value.string ⟨#[111, 116, 112]⟩, .string ⟨l.toArray⟩] 9)
  rw [World.size_alloc] at r1
  have HC1 := hSH.out _ (w.heap.size + 1) (hG.below b1) r1
  have HB := Lib.hid b1
  have HG := Lib.hid hG
  have HT := Lib.hid hT
  have hssI : 8 ≤ (s.size : Int) := by omega
  clear hX hN hs hqn hG hT hC r0 r1 b0 b1 hSH
  go_enter Tryz.func6, Tryz.ntmps6
  go_wp2_with fail
  refine HC1.mono ?_
  rintro e w1 ⟨rfl, hb⟩
  have B1 := Lib.hid (HB.out.trans (hb.mono HB.out.size))
  clear hb HC1 HB hcv
  go_wp2_with fail
  refine (hGET.out _).mono ?_
  rintro e w2 ⟨rfl, rfl⟩
  go_wp2_with fail
  refine (hCO.out _ (HG.out.below B1.out) (HT.out.below B1.out)).mono ?_
  rintro e w3 ⟨rfl, hb⟩
  have B2 := Lib.hid (B1.out.trans (hb.mono B1.out.size))
  clear hb
  go_wp2_with fail
  go_ret
  exact ⟨rfl, B2.out⟩

set_option maxRecDepth 20000 in
set_option maxHeartbeats 1000000 in
theorem refOtpCode_any (key : ByteArray) (l : List UInt8) (hl : l.length = 16) (hk : key.size ≤ 1000) (w : World) :
    Calls Tryz.prog 7 #[.string key, .agg (l.map bv).toArray] w fun e w' => e = .returned (.string (otpCode key l)) ∧ Below w.heap.size w w' := by
  obtain ⟨q, hq⟩ : ∃ q, (⟨(shaL ([111, 116, 112] ++ l)).toArray⟩ : ByteArray).extract 0 8 = q := ⟨_, rfl⟩
  obtain ⟨hq8, hqn⟩ := otp_eight l q hq
  have hRAW := Lib.hid (fun W => raw_any l hl W)
  obtain ⟨L, hL⟩ : ∃ L : ByteArray, (⟨l.toArray⟩ : ByteArray) = L := ⟨_, rfl⟩
  have hLs : L.size = 16 := by rw [← hL]; show l.toArray.size = 16; rw [List.size_toArray, hl]
  obtain ⟨M, hM⟩ : ∃ M : ByteArray, (⟨#[111, 116, 112]⟩ : ByteArray) ++ L = M := ⟨_, rfl⟩
  have hMs : M.size = 19 := by rw [← hM, ByteArray.size_append, hLs]; rfl
  have hMd : M.data.toList = [111, 116, 112] ++ l := by rw [← hM, ← hL]; simp
  have hcat : ∀ W : World, (Op.stringOp .add (⟨#[111, 116, 112]⟩ : ByteArray) L).run Tryz.prog W = .ok (.string M) W := fun W => cat_runO _ _ _ hM (by omega) W
  have hSH : Hid (∀ W : World, Calls Tryz.prog 20 #[.string M] W fun e w' => e = .returned (.string ⟨(shaL ([111, 116, 112] ++ l)).toArray⟩) ∧ Below W.heap.size W w') := Lib.hid fun W => by
    have h := refText_any M (by omega) W
    rwa [hMd] at h
  have hGET : Hid (∀ W : World, Calls Tryz.prog 19 #[.string q] W fun e w' => e = .returned (.int .u64 (otpN l)) ∧ W = w') := Lib.hid fun W => by
    have h := refGet_any q W (by omega)
    rwa [hqn] at h
  have hCO : Hid (∀ W : World, Calls Tryz.prog 18 #[.string key, .int .u64 (otpN l)] W fun e w' => e = .returned (.string (otpCode key l)) ∧ Below W.heap.size W w') := Lib.hid fun W => refCode_any key (otpN l) (by omega) (otpN_lt l) W
  obtain ⟨s, hs⟩ : ∃ s : ByteArray, (⟨(shaL ([111, 116, 112] ++ l)).toArray⟩ : ByteArray) = s := ⟨_, rfl⟩
  have hss' : s.size = 32 := by rw [← hs]; show (shaL ([111, 116, 112] ++ l)).toArray.size = 32; rw [List.size_toArray, shaL_length]
  have hssI : 8 ≤ (s.size : Int) := by omega
  rw [hs] at hSH hq
  rw [hL] at hRAW
  obtain ⟨N, hN⟩ : ∃ N, otpN l = N := ⟨_, rfl⟩
  obtain ⟨X, hX⟩ : ∃ X, otpCode key l = X := ⟨_, rfl⟩
  rw [hN] at hGET hCO
  rw [hX] at hCO ⊢
  obtain ⟨C, hC⟩ : ∃ C, l.map bv = C := ⟨_, rfl⟩
  have hCl : C.length = 16 := by rw [← hC, List.length_map, hl]
  rw [hC] at hRAW ⊢
  have r0 := Row.new w 26 C
  have b0 := Lib.hid (show Below w.heap.size w (w.alloc (.cells C.toArray 26)) from (Below.refl _ _).alloc (Nat.le_refl _) _)
  clear hX hN hs hqn hC hM hMd hL
  go_enter Tryz.func7, Tryz.ntmps7
  go_wp2_with (first
    | (refine wpList_load_row rfl 26 (.tmp 3) rfl w.heap.size rfl 26 C.toArray (0, 0) _ r0 Tryz.underlying26 rfl (by rw [List.size_toArray, hCl]; kernel_rfl) ?_)
    | fail)
  refine (hRAW.out _).mono ?_
  rintro e w1 ⟨rfl, hb⟩
  have B1 := Lib.hid (b0.out.trans (hb.mono b0.out.size))
  clear hb b0
  go_wp2_with fail
  refine (hSH.out _).mono ?_
  rintro e w2 ⟨rfl, hb⟩
  have B2 := Lib.hid (B1.out.trans (hb.mono B1.out.size))
  clear hb
  go_wp2_with fail
  refine (hGET.out _).mono ?_
  rintro e w3 ⟨rfl, rfl⟩
  go_wp2_with fail
  refine (hCO.out _).mono ?_
  rintro e w4 ⟨rfl, hb⟩
  have B3 := Lib.hid (B2.out.trans (hb.mono B2.out.size))
  clear hb
  go_wp2_with fail
  go_ret
  exact ⟨rfl, B3.out⟩
end Go.Proofs.YtlmbijhkpgolaaaGreatDoor

namespace Go.Proofs.YtlmbijhkpgolaaaGreatDoor
open Go.RowKit Go.Shelf
set_option linter.unusedVariables false
attribute [local go_sem] Oper.semAt_some

/-- What a round keeps of the iterator's: its two boxes. -/
def KeepsB (Bn : Nat) (W W' : World) : Prop := W'.heap[Bn]? = W.heap[Bn]? ∧ W'.heap[Bn + 1]? = W.heap[Bn + 1]?
theorem keepsB_t {Bn : Nat} {A B C : World} (h : KeepsB Bn A B) (k : KeepsB Bn B C) : KeepsB Bn A C := ⟨k.1.trans h.1, k.2.trans h.2⟩
theorem keepsB_b {Bn : Nat} {w : World} (hn : Bn + 1 < w.heap.size) (W : World) (l : Nat) (o o' : Obj) (hl : w.heap.size ≤ l) (h : W.heap[l]? = some o) (h1 : o.isCells = false) (hw : o.isWalk = false) : KeepsB Bn W (W.putObj l o') :=
  ⟨World.putObj_heap_other (by omega), World.putObj_heap_other (by omega)⟩
theorem keepsB_set {Bn B i : Nat} (W : World) (h : Bn ≠ B) (h1 : Bn + 1 ≠ B) (v : Value) : KeepsB Bn W (W.setCell ⟨B, i, none⟩ v) :=
  ⟨Below.heap_setCell W ⟨B, i, none⟩ v Bn h, Below.heap_setCell W ⟨B, i, none⟩ v (Bn + 1) h1⟩

theorem wl_snoc (b : Nat) {s : ByteArray} {j : Nat} (h : j < s.size) : wl b ((rv s).drop j) = wgt b ((rv s).getD j 0) :: wl (b + 1) ((rv s).drop (j + 1)) := by
  rw [rv_drop s j h]; rfl
theorem wl_stop (b : Nat) {s : ByteArray} {j : Nat} (h : s.size ≤ j) : wl b ((rv s).drop j) = [] := by
  rw [List.drop_eq_nil_of_le (by rw [rv_length]; exact h)]; rfl

/-- A weight. -/
abbrev Wn := { x : Nat // x ≤ 9 }

set_option maxRecDepth 100000 in
set_option maxHeartbeats 1000000 in
theorem weights1_in (n : Nat) (hn : 1 ≤ n) (l Bn b : Nat) (s : ByteArray) (hs : s.size ≤ 1000) (hb : b ≤ 1) (hD : isD s = true) (J Jx : List Wn → World → Prop)
    (hY : ∀ pre x W, J pre W → pre.length < s.size → YieldAt Fence.wide (n - 1) Tryz.prog l #[.int .i64 (x.1 : Nat)] W fun e W' =>
      (e = .returned (.bool true) ∧ J (pre ++ [x]) W' ∧ KeepsB Bn W W') ∨ (e = .returned (.bool false) ∧ Jx (pre ++ [x]) W'))
    (W : World) (hJ : AbidesFrom W.heap.size J) (hb1 : W.heap[Bn]? = some (.cells #[.string s] 9 (0, 0))) (hb2 : W.heap[Bn + 1]? = some (.cells #[.int .i64 b] 3 (0, 0))) (h0 : J [] W) :
    CallsIn Fence.wide n Tryz.prog 107 #[.func (.yield l) #[] #[], .pointer (some ⟨Bn, 0, none⟩), .pointer (some ⟨Bn + 1, 0, none⟩)] W fun e W' => (∃ v, e = .returned v) ∧
      ((∃ ys : List Wn, ys.map Subtype.val = wl b (rv s) ∧ J ys W') ∨ (∃ pre : List Wn, pre.map Subtype.val <+: wl b (rv s) ∧ Jx pre W')) := by
  have hc1 : W.cell? ⟨Bn, 0, none⟩ = some (.string s) := by simp [World.cell?, hb1]
  have hc2 : W.cell? ⟨Bn + 1, 0, none⟩ = some (.int .i64 b) := by simp [World.cell?, hb2]
  have HD := Lib.hid hD
  clear hD
  refine callsIn_of_wp Tryz.func107 rfl trivial ?_ rfl
  simp only [Tryz.ntmps107, List.size_toArray, List.length_cons, List.length_nil, Nat.reduceAdd, Nat.reduceSub, Array.replicate_succ, Array.replicate_zero, List.push_toArray, List.append_toArray, List.nil_append, List.cons_append]
  gi_wp2
  gi_loopw [8] (fun i wr => ∃ (pre : List Wn) (j : Nat), i = .int .i64 j ∧ j ≤ s.size ∧ pre.length = j ∧ wr.heap[Bn]? = some (.cells #[.string s] 9 (0, 0)) ∧ wr.heap[Bn + 1]? = some (.cells #[.int .i64 b] 3 (0, 0)) ∧ Hid (wl b (rv s) = pre.map Subtype.val ++ wl (b + j) ((rv s).drop j)) ∧ J pre wr)
    (fun i _ => s.size - (intOf i).toNat)
  case atStart =>
    exact ⟨[], 0, rfl, Nat.zero_le _, rfl, hb1, hb2, Lib.hid rfl, h0⟩
  case round =>
    obtain ⟨pre, j, rfl, hj, hpl, hx1, hx2, HX, hJs⟩ := hrel
    have hd1 : wr.cell? ⟨Bn, 0, none⟩ = some (.string s) := by simp [World.cell?, hx1]
    have hd2 : wr.cell? ⟨Bn + 1, 0, none⟩ = some (.int .i64 b) := by simp [World.cell?, hx2]
    by_cases hlt : j < s.size
    · have hix := run_index_str_d (P := Tryz.prog) 9 s (s.size - 1 - j) Tryz.underlying9 (by omega)
      rw [← rv_get s j hlt] at hix
      have hstep := wl_snoc (b + j) hlt
      have hdg := rv_dig HD.out j hlt
      generalize hcc : (rv s).getD j 0 = c at hix hstep hdg
      have hq : ((s.size - 1 - j : Nat) : Int) = (s.size : Int) - 1 - (j : Int) := by omega
      rw [hq] at hix
      have hc := (isDig_iff _).1 hdg
      have h48 : (48 : Int) ≤ (c.toNat : Int) := by omega
      have h57 : (c.toNat : Int) ≤ 57 := by omega
      have hdv : ((dv c : Nat) : Int) = (c.toNat : Int) - 48 := by unfold dv; omega
      have hd9 := dv_le hdg
      have hw9 := wgt_le (b + j) hdg
      have hnx : Hid (wl b (rv s) = (pre ++ [(⟨wgt (b + j) c, hw9⟩ : Wn)]).map Subtype.val ++ wl (b + (j + 1)) ((rv s).drop (j + 1))) := Lib.hid (by
        rw [HX.out, hstep]; simp; congr 1)
      by_cases hpar : (b + j) % 2 = 1
      · have hp : ((j : Int) + (b : Int)) % 2 = 1 := by omega
        obtain ⟨fn, tmps, assign, body, hy, hR⟩ := hY pre ⟨wgt (b + j) c, hw9⟩ wr hJs (by omega)
        dsimp only at hy
        rw [wgt_odd c hpar] at hy
        have hdb := doubled_any (dv c) wr hd9
        rw [hdv] at hdb
        clear hstep hq hdg hcc hc
        gi_wp2_with (refine ⟨trivial, ?_⟩; gi_at_call 108; refine (callsIn_wide.2 hdb).mono ?_; rintro e w' ⟨rfl, rfl⟩)
        refine hR.mono ?_
        rintro e W3 (⟨rfl, hJ3, hk3⟩ | ⟨rfl, hJx3⟩)
        · gi_wp2
          go_roundw
          case rel => exact ⟨_, j + 1, by go_num, by omega, by simp [hpl], hk3.1.trans hx1, hk3.2.trans hx2, hnx, hJ3⟩
          case measure => simp [intOf]; omega
        · gi_wp2
          refine bodyPost_ret (results_none rfl _ _ _) rfl ?_
          exact ⟨⟨_, rfl⟩, .inr ⟨_, ⟨_, hnx.out.symm⟩, hJx3⟩⟩
      · have hp : ((j : Int) + (b : Int)) % 2 = 0 := by omega
        obtain ⟨fn, tmps, assign, body, hy, hR⟩ := hY pre ⟨wgt (b + j) c, hw9⟩ wr hJs (by omega)
        dsimp only at hy
        rw [wgt_even c hpar, hdv] at hy
        clear hstep hq hdg hcc hc
        gi_wp2
        refine hR.mono ?_
        rintro e W3 (⟨rfl, hJ3, hk3⟩ | ⟨rfl, hJx3⟩)
        · gi_wp2
          go_roundw
          case rel => exact ⟨_, j + 1, by go_num, by omega, by simp [hpl], hk3.1.trans hx1, hk3.2.trans hx2, hnx, hJ3⟩
          case measure => simp [intOf]; omega
        · gi_wp2
          refine bodyPost_ret (results_none rfl _ _ _) rfl ?_
          exact ⟨⟨_, rfl⟩, .inr ⟨_, ⟨_, hnx.out.symm⟩, hJx3⟩⟩
    · have hX : Hid (pre.map Subtype.val = wl b (rv s)) := Lib.hid (by rw [HX.out, wl_stop (b + j) (by omega), List.append_nil])
      gi_wp2
      go_end0
      exact ⟨⟨_, rfl⟩, .inl ⟨pre, hX.out, hJs⟩⟩

set_option maxHeartbeats 1000000 in
theorem weights_in (n b : Nat) (s : ByteArray) (w : World) :
    CallsIn Fence.wide n Tryz.prog 103 #[.string s, .int .i64 b] w fun e w' => e = .returned (.func (.func 107) #[] #[.pointer (some ⟨w.heap.size, 0, none⟩), .pointer (some ⟨w.heap.size + 1, 0, none⟩)]) ∧ w' = (w.alloc (.cells #[.string s] 9)).alloc (.cells #[.int .i64 b] 3) := by
  refine callsIn_of_wp Tryz.func103 rfl trivial ?_ rfl
  simp only [Tryz.ntmps103, List.size_toArray, List.length_cons, List.length_nil, Nat.reduceAdd, Nat.reduceSub, Array.replicate_succ, Array.replicate_zero, List.push_toArray, List.append_toArray, List.nil_append, List.cons_append]
  gi_wp2
  go_ret
  exact ⟨rfl, rfl⟩

theorem weights_stops (n : Nat) (hn : 1 ≤ n) (Bn b : Nat) (s : ByteArray) (hs : s.size ≤ 1000) (hb : b ≤ 1) (hD : isD s = true) (w : World)
    (h1 : w.heap[Bn]? = some (.cells #[.string s] 9 (0, 0))) (h2 : w.heap[Bn + 1]? = some (.cells #[.int .i64 b] 3 (0, 0))) :
    SeqStopsK Fence.wide n Tryz.prog 107 #[.pointer (some ⟨Bn, 0, none⟩), .pointer (some ⟨Bn + 1, 0, none⟩)] (fun x : Wn => #[.int .i64 (x.1 : Nat)]) (KeepsB Bn) (fun ys => ys.map Subtype.val = wl b (rv s)) (fun pre => pre.map Subtype.val <+: wl b (rv s)) s.size w := fun l J Jx W hW hJ _ hY h0 => by
  refine (weights1_in n hn l Bn b s hs hb hD J Jx hY W hJ ((hW.block Bn (Array.getElem?_eq_some_iff.1 h1).1).trans h1) ((hW.block (Bn + 1) (Array.getElem?_eq_some_iff.1 h2).1).trans h2) h0).mono ?_
  rintro e W' ⟨hv, (⟨ys, h, hj⟩ | ⟨pre, h, hj⟩)⟩
  · exact ⟨hv, .inl ⟨ys, h, hj⟩⟩
  · exact ⟨hv, .inr ⟨pre, h, hj⟩⟩

theorem own_box {β : Type} (B : Nat) (t : TypeId) (f : β → Value) : Own (fun (s : β) W => Boxed W B t (f s)) := fun s X Y row h hg hrow =>
  h.kept hg (fun e => by
    obtain ⟨o, ho, hc⟩ := hrow B e.symm
    rw [show X.heap[B]? = _ from h] at ho
    cases ho
    cases hc)

/-- The sum of weights, modulo 10. -/
def sumW (l : List Wn) : Nat := (l.map Subtype.val).sum % 10
theorem sumW_snoc (l : List Wn) (x : Wn) : sumW (l ++ [x]) = (sumW l + x.1) % 10 := by
  unfold sumW
  rw [List.map_append, List.sum_append]
  simp
theorem sumW_lt (l : List Wn) : sumW l < 10 := Nat.mod_lt _ (by omega)

set_option maxRecDepth 100000 in
set_option maxHeartbeats 1000000 in
theorem weighed_any (s : ByteArray) (b : Nat) (w : World) (hs : s.size ≤ 1000) (hb : b ≤ 1) (hD : isD s = true) :
    Calls Tryz.prog 96 #[.string s, .int .i64 b] w fun e w' => e = .returned (.int .i64 (wsB b s % 10 : Nat)) ∧ Below w.heap.size w w' := by
  refine (callsIn_wide (n := 6)).1 ?_
  refine callsIn_of_wp_marks Tryz.func96 rfl trivial ?_ rfl
  simp only [Tryz.ntmps96, List.size_toArray, List.length_cons, List.length_nil, Nat.reduceAdd, Nat.reduceSub, Array.replicate_succ, Array.replicate_zero, List.push_toArray, List.append_toArray, List.nil_append, List.cons_append]
  rw [wpIn_wide]
  go_wp2_with fail
  refine ((callsIn_wide (n := 0)).1 (weights_in 0 b s _)).mono ?_
  rintro e w2 ⟨rfl, rfl⟩
  go_wp2_with fail
  have bC := Boxed.new w 3 (.int .i64 0)
  have bN := Boxed.new (w.alloc (.cells #[.int .i64 0] 3)) 9 (.string s)
  have bM := Boxed.new ((w.alloc (.cells #[.int .i64 0] 3)).alloc (.cells #[.string s] 9)) 3 (.int .i64 b)
  rw [World.size_alloc] at bN bM
  rw [World.size_alloc] at bM
  have hB1 : Below w.heap.size w (((w.alloc (.cells #[.int .i64 0] 3)).alloc (.cells #[.string s] 9)).alloc (.cells #[.int .i64 b] 3)) := (((Below.refl _ _).alloc (Nat.le_refl _) _).alloc (by simp) _).alloc (by simp; omega) _
  rw [← wpIn_wide (n := 6)]
  refine' wpIn_rangeFunc_ownG rfl (by omega) (gf := 107) (lb := #[.pointer (some ⟨w.heap.size + 1, 0, none⟩), .pointer (some ⟨w.heap.size + 1 + 1, 0, none⟩)]) rfl trivial (enters_of Tryz.func107 (by kernel_rfl) rfl)
    (weights_stops 5 (by omega) (w.heap.size + 1) b s hs hb hD _ (bN.alloc _) bM) keepsB_t (keepsB_b (by simp)) (Below.refl _ _) (fun _ => rfl)
    (fun pre W => Boxed W w.heap.size 3 (.int .i64 (sumW pre : Nat)) ∧ Below w.heap.size w W)
    (fun _ _ _ => False)
    (OwnFrom.and (Own.from (own_box _ _ _) _) (ownFrom_below (Nat.le_refl _) (by simp; omega)))
    (fun _ _ _ _ _ hs _ _ => hs)
    ⟨(bC.alloc _).alloc _, hB1⟩
    _ _ _ _ _
  case refine'_2 =>
    intro l x W K hK
    gi_wp2
    exact hK
  case refine'_5 =>
    rintro D c pre W _ _ h _
    exact h.elim
  case refine'_3 =>
    rintro l' pre x W ⟨hv, hB⟩ hlt
    have hc := hv.cell
    have hf := hv.frozen
    have h10 := sumW_lt pre
    have hx9 := x.2
    have hsn := Lib.hid (sumW_snoc pre x)
    gi_wp2
    refine ⟨(KeepsOthers.setCell _ _ _).from _, keepsB_set _ (by omega) (by omega) _, ?_, hB.setCell (p := ⟨w.heap.size, 0, none⟩) (Nat.le_refl _) _⟩
    have h := hv.set (.int .i64 ((((sumW pre : Nat) : Int) + ((x.1 : Nat) : Int)) % 10))
    rw [hsn.out]
    exact h
  case refine'_4 =>
    rintro D ys W hD hys ⟨hv, hB⟩ hK
    have hc := hv.cell
    go_wp2_with fail
    have hl : sumW ys = wsB b s % 10 := by unfold sumW; rw [hys, wl_sum]; rfl
    rw [← hl]
    refine ⟨by simp, .inl ⟨_, _, rfl, run_takeDeferred hK, ?_⟩⟩
    exact ⟨_, results_tmp rfl _ _ _, rfl, hB.trans (belowK_b (w := w) (Nat.le_refl _) W D _ _ (by simp at hD; omega) hK rfl rfl)⟩
end Go.Proofs.YtlmbijhkpgolaaaGreatDoor

namespace Go.Proofs.YtlmbijhkpgolaaaGreatDoor
open Go.RowKit
set_option linter.unusedVariables false

set_option maxHeartbeats 400000 in
theorem Luhn_any (s : ByteArray) (w : World) (hs : s.size ≤ 1000) :
    Calls Tryz.prog 82 #[.string s] w fun e w' => e = .returned (.bool (luhnB s)) ∧ Below w.heap.size w w' := by
  cases hd : isD s with
  | false =>
    rw [luhnB_not hd]
    go_enter Tryz.func82, Tryz.ntmps82
    go_wp2_with (go_at_call 81; refine (Is_any _ _ (by omega)).mono ?_; rintro e w' ⟨rfl, rfl⟩; rw [hd])
    go_ret
    exact ⟨rfl, Below.refl _ _⟩
  | true =>
    rw [luhnB_is hd]
    go_enter Tryz.func82, Tryz.ntmps82
    go_wp2_with first
      | (go_at_call 81; refine (Is_any _ _ (by omega)).mono ?_; rintro e w' ⟨rfl, rfl⟩; rw [hd])
      | (go_at_call 96; refine (weighed_any s 0 _ hs (by omega) hd).mono ?_; rintro e w' ⟨rfl, hB⟩)
    go_ret
    exact ⟨ret_boolE (by rw [Bool.eq_iff_iff]; simp; try omega), hB⟩

theorem cardN_len {s : ByteArray} (h : isD s = true) : cardN s = if s.size < 13 then 3 else if 19 < s.size then 5 else if luhnB s = false then 25 else 0 := by unfold cardN; rw [if_neg (by simp [h])]

set_option maxHeartbeats 400000 in
theorem Card_any (s : ByteArray) (w : World) (hs : s.size ≤ 1000) :
    Calls Tryz.prog 69 #[.string s] w fun e w' => e = .returned (.int .i64 (cardN s)) ∧ Below w.heap.size w w' := by
  cases hd : isD s with
  | false =>
    have hc : cardN s = 4 := by unfold cardN; rw [if_pos hd]
    rw [hc]
    go_enter Tryz.func69, Tryz.ntmps69
    go_wp2_with (go_at_call 81; refine (Is_any _ _ (by omega)).mono ?_; rintro e w' ⟨rfl, rfl⟩; rw [hd])
    go_ret
    exact ⟨rfl, Below.refl _ _⟩
  | true =>
    rw [cardN_len hd]
    by_cases h13 : s.size < 13
    · rw [if_pos h13]
      have h13' : (s.size : Int) < 13 := by omega
      go_enter Tryz.func69, Tryz.ntmps69
      go_wp2_with (go_at_call 81; refine (Is_any _ _ (by omega)).mono ?_; rintro e w' ⟨rfl, rfl⟩; rw [hd])
      go_ret
      exact ⟨rfl, Below.refl _ _⟩
    · rw [if_neg h13]
      have h13' : (13 : Int) ≤ (s.size : Int) := by omega
      by_cases h19 : 19 < s.size
      · rw [if_pos h19]
        have h19' : (19 : Int) < (s.size : Int) := by omega
        go_enter Tryz.func69, Tryz.ntmps69
        go_wp2_with (go_at_call 81; refine (Is_any _ _ (by omega)).mono ?_; rintro e w' ⟨rfl, rfl⟩; rw [hd])
        go_ret
        exact ⟨rfl, Below.refl _ _⟩
      · rw [if_neg h19]
        have h19' : (s.size : Int) ≤ 19 := by omega
        cases hl : luhnB s with
        | false =>
          rw [if_pos rfl]
          go_enter Tryz.func69, Tryz.ntmps69
          go_wp2_with first
            | (go_at_call 81; refine (Is_any _ _ (by omega)).mono ?_; rintro e w' ⟨rfl, rfl⟩; rw [hd])
            | (go_at_call 82; refine (Luhn_any _ _ (by omega)).mono ?_; rintro e w' ⟨rfl, hB⟩; rw [hl])
          go_ret
          exact ⟨rfl, hB⟩
        | true =>
          rw [if_neg (by decide)]
          go_enter Tryz.func69, Tryz.ntmps69
          go_wp2_with first
            | (go_at_call 81; refine (Is_any _ _ (by omega)).mono ?_; rintro e w' ⟨rfl, rfl⟩; rw [hd])
            | (go_at_call 82; refine (Luhn_any _ _ (by omega)).mono ?_; rintro e w' ⟨rfl, hB⟩; rw [hl])
          go_ret
          exact ⟨rfl, hB⟩

theorem dec7 : (⟨(Lib.decDigits 7).toArray⟩ : ByteArray) = ⟨#[55]⟩ := by decide +kernel
theorem rep2 : (⟨(Lib.repeatL (ByteArray.mk #[48]).data.toList 2).toArray⟩ : ByteArray) = ⟨#[48, 48]⟩ := by decide +kernel

set_option maxHeartbeats 400000 in
theorem format7 (w : World) : Calls Tryz.prog 78 #[.int .u64 7, .int .i64 10] w fun e w' => e = .returned (.string ⟨#[55]⟩) ∧ w' = w := by
  go_enter Tryz.func78, Tryz.ntmps78
  go_wp2_with (go_at_call 90; refine (Tryz.internal_strconv_small 7 (by omega) _).mono ?_; rintro e w' ⟨rfl, rfl⟩; rw [dec7])
  go_ret
  exact ⟨rfl, rfl⟩
theorem fmt7 (w : World) : Calls Tryz.prog 65 #[.int .u64 7, .int .i64 10] w fun e w' => e = .returned (.string ⟨#[55]⟩) ∧ w' = w := by
  go_enter Tryz.func65, Tryz.ntmps65
  go_wp2_with (go_at_call 78; refine (format7 _).mono ?_; rintro e w' ⟨rfl, rfl⟩)
  go_ret
  exact ⟨rfl, rfl⟩
set_option maxHeartbeats 400000 in
theorem text7 (w : World) : Calls Tryz.prog 44 #[.int .u64 7, .int .i64 3] w fun e w' => e = .returned (.string ⟨#[48, 48, 55]⟩) ∧ Below w.heap.size w w' := by
  go_enter Tryz.func44, Tryz.ntmps44
  go_wp2_with first
    | (go_at_call 65; refine (fmt7 _).mono ?_; rintro e w' ⟨rfl, rfl⟩)
    | (go_at_call 66; refine (Tryz.strings_Repeat ⟨#[48]⟩ 2 _ (by omega) (by decide)).mono ?_; rintro e w' ⟨rfl, hB⟩; rw [rep2])
  go_ret
  exact ⟨rfl, hB⟩

def cardE : ByteArray := ⟨#[52, 49, 49, 49, 49, 49, 49, 49, 49, 49, 49, 49, 49, 49, 49, 49]⟩
theorem card_ex : cardN ⟨#[52, 49, 49, 49, 49, 49, 49, 49, 49, 49, 49, 49, 49, 49, 49, 49]⟩ = 0 := by decide +kernel

set_option maxHeartbeats 400000 in
theorem awake3_any (w : World) :
    Calls Tryz.prog 53 #[] w fun e w' => e = .returned (.bool true) ∧ Below w.heap.size w w' := by
  go_enter Tryz.func53, Tryz.ntmps53
  go_wp2_with (first
    | (go_at_call 69; refine (Card_any _ _ (by decide)).mono ?_; rintro e w' ⟨rfl, hB1⟩; rw [card_ex])
    | (go_at_call 44; refine (text7 _).mono ?_; rintro e w' ⟨rfl, hB2⟩)
    | (go_at_call 70; refine (days2024 _).mono ?_; rintro e w' ⟨rfl, rfl⟩))
  go_ret
  exact ⟨rfl, hB1.trans (hB2.mono hB1.size)⟩
end Go.Proofs.YtlmbijhkpgolaaaGreatDoor

namespace Go.Proofs.YtlmbijhkpgolaaaGreatDoor
open Go.RowKit

/-- One bit's step. -/
def stp (c : Nat) : Nat := if c % 2 = 1 then c / 2 ^^^ 3988292384 else c / 2

/-- k steps. -/
def stpN : Nat → Nat → Nat
  | 0, c => c
  | k + 1, c => stp (stpN k c)

/-- A byte more. -/
def crcB (c : Nat) (b : UInt8) : Nat := stpN 8 (c ^^^ b.toNat)

/-- The register behind a text's bytes. -/
def crcR (c : Nat) (l : List UInt8) : Nat := l.foldl crcB c

/-- The sum. -/
def crcL (l : List UInt8) : Nat := 4294967295 - crcR 4294967295 l

theorem stp_lt {c : Nat} (h : c < 4294967296) : stp c < 4294967296 := by
  unfold stp
  split
  · exact Nat.xor_lt_two_pow (n := 32) (by omega) (by omega)
  · omega

theorem stpN_lt {c : Nat} (h : c < 4294967296) : ∀ k, stpN k c < 4294967296
  | 0 => h
  | k + 1 => stp_lt (stpN_lt h k)

theorem xor_lt {a b : Nat} (ha : a < 4294967296) (hb : b < 4294967296) : a ^^^ b < 4294967296 := Nat.xor_lt_two_pow (n := 32) ha hb

theorem crcB_lt {c : Nat} (h : c < 4294967296) (b : UInt8) : crcB c b < 4294967296 :=
  stpN_lt (xor_lt h (by have := b.toNat_lt; omega)) 8

theorem crcR_lt (l : List UInt8) : ∀ {c : Nat}, c < 4294967296 → crcR c l < 4294967296 := by
  induction l with
  | nil => intro c h; exact h
  | cons b l ih => intro c h; exact ih (crcB_lt h b)

theorem crcR_append (c : Nat) (l m : List UInt8) : crcR c (l ++ m) = crcR (crcR c l) m := by simp [crcR, List.foldl_append]

theorem crcR_snoc (c : Nat) (l : List UInt8) (b : UInt8) : crcR c (l ++ [b]) = crcB (crcR c l) b := by simp [crcR, List.foldl_append]

theorem xor_mod2 (x y : Nat) : (x ^^^ y) % 2 = (x + y) % 2 := by
  rcases Nat.mod_two_eq_zero_or_one x with hx | hx <;> rcases Nat.mod_two_eq_zero_or_one y with hy | hy
  all_goals (have := @Nat.xor_mod_two_pow x y 1; simp only [Nat.pow_one] at this; rw [this, hx, hy]; simp; omega)

theorem xor_zero {x y : Nat} (h : x ^^^ y = 0) : x = y := by
  have := congrArg (· ^^^ y) h
  simpa [Nat.xor_assoc] using this

theorem stp_xor (x y : Nat) : stp (x ^^^ y) = stp x ^^^ stp y := by
  have h2 : (x ^^^ y) / 2 = x / 2 ^^^ y / 2 := by
    have := Nat.shiftRight_xor_distrib (a := x) (b := y) (i := 1)
    simpa [Nat.shiftRight_succ] using this
  have hm : (x ^^^ y) % 2 = (x + y) % 2 := xor_mod2 x y
  unfold stp
  rw [h2, hm]
  rcases Nat.mod_two_eq_zero_or_one x with hx | hx <;> rcases Nat.mod_two_eq_zero_or_one y with hy | hy
  · rw [if_neg (by omega), if_neg (by omega), if_neg (by omega)]
  · rw [if_pos (by omega), if_neg (by omega), if_pos (by omega), Nat.xor_assoc]
  · rw [if_pos (by omega), if_pos (by omega), if_neg (by omega), Nat.xor_assoc, Nat.xor_assoc, Nat.xor_comm 3988292384]
  · rw [if_neg (by omega), if_pos (by omega), if_pos (by omega)]
    rw [Nat.xor_assoc, Nat.xor_comm (y / 2), ← Nat.xor_assoc 3988292384, Nat.xor_self, Nat.zero_xor]

theorem stpN_xor (x y : Nat) : ∀ k, stpN k (x ^^^ y) = stpN k x ^^^ stpN k y
  | 0 => rfl
  | k + 1 => by simp only [stpN, stpN_xor x y k, stp_xor]

theorem stpN_high (a : Nat) : ∀ k j, j ≤ k → stpN j (a * 2 ^ k) = a * 2 ^ (k - j) := by
  intro k j
  induction j with
  | zero => intro _; rfl
  | succ j ih =>
    intro h
    have hp : (2 : Nat) ^ (k - j) = 2 ^ (k - (j + 1)) * 2 := by rw [← Nat.pow_succ]; congr 1; omega
    rw [stpN, ih (by omega), hp, ← Nat.mul_assoc]
    unfold stp
    rw [if_neg (by omega), Nat.mul_div_cancel _ (by omega)]

/-- By the table: what lies above the lowest byte goes down, the lowest byte chooses. -/
theorem crcB_table (c : Nat) (b : UInt8) : crcB c b = c / 256 ^^^ stpN 8 (c % 256 ^^^ b.toNat) := by
  have hc : c = (c / 256 * 2 ^ 8) ^^^ (c % 256) := by
    have h := Nat.two_pow_add_eq_or_of_lt (i := 8) (b := c % 256) (by omega) (c / 256)
    have hx : 2 ^ 8 * (c / 256) ^^^ c % 256 = 2 ^ 8 * (c / 256) ||| c % 256 := by
      apply Nat.eq_of_testBit_eq
      intro i
      rw [Nat.testBit_xor, Nat.testBit_or]
      by_cases hi : i < 8
      · have : (2 ^ 8 * (c / 256)).testBit i = false := by
          rw [Nat.testBit_two_pow_mul]; simp; omega
        simp [this]
      · have : (c % 256).testBit i = false := by
          apply Nat.testBit_lt_two_pow
          exact Nat.lt_of_lt_of_le (by omega : c % 256 < 2 ^ 8) (Nat.pow_le_pow_right (by omega) (by omega))
        simp [this]
    rw [Nat.mul_comm, hx, ← h]
    omega
  unfold crcB
  conv => lhs; rw [hc, Nat.xor_assoc]
  rw [stpN_xor, stpN_high _ 8 8 (by omega)]
  simp

theorem crc_example : crcL [49, 50, 51, 52, 53, 54, 55, 56, 57] = 3421780262 := by decide +kernel

/-- One bit's step is undone: unlike registers stay unlike. -/
theorem stp_inj {x y : Nat} (hx : x < 4294967296) (hy : y < 4294967296) (h : stp x = stp y) : x = y := by
  have key : ∀ z : Nat, z < 4294967296 → stp z = 0 → z = 0 := by
    intro z hz h0
    unfold stp at h0
    split at h0
    · have h1 : z / 2 = 3988292384 := by
        have := congrArg (· ^^^ 3988292384) h0
        simpa [Nat.xor_assoc] using this
      omega
    · omega
  have hz : stp (x ^^^ y) = 0 := by rw [stp_xor, h, Nat.xor_self]
  have h0 := key _ (xor_lt hx hy) hz
  exact xor_zero h0

theorem stpN_inj {x y : Nat} (hx : x < 4294967296) (hy : y < 4294967296) : ∀ k, stpN k x = stpN k y → x = y
  | 0, h => h
  | k + 1, h => stpN_inj hx hy k (stp_inj (stpN_lt hx k) (stpN_lt hy k) h)

theorem crcB_inj {x y : Nat} (hx : x < 4294967296) (hy : y < 4294967296) (b : UInt8) (h : crcB x b = crcB y b) : x = y := by
  have hb : b.toNat < 4294967296 := by have := b.toNat_lt; omega
  have h1 := stpN_inj (xor_lt hx hb) (xor_lt hy hb) 8 h
  have := congrArg (· ^^^ b.toNat) h1
  simpa [Nat.xor_assoc] using this

theorem crcB_inj_byte {x : Nat} (hx : x < 4294967296) {b c : UInt8} (h : crcB x b = crcB x c) : b = c := by
  have hb : b.toNat < 4294967296 := by have := b.toNat_lt; omega
  have hc : c.toNat < 4294967296 := by have := c.toNat_lt; omega
  have h1 := stpN_inj (xor_lt hx hb) (xor_lt hx hc) 8 h
  have h2 := congrArg (x ^^^ ·) h1
  simp only [← Nat.xor_assoc, Nat.xor_self, Nat.zero_xor] at h2
  exact UInt8.toNat_inj.mp h2

theorem crcR_inj (l : List UInt8) : ∀ {x y : Nat}, x < 4294967296 → y < 4294967296 → crcR x l = crcR y l → x = y := by
  induction l with
  | nil => intro x y _ _ h; exact h
  | cons b l ih => intro x y hx hy h; exact crcB_inj hx hy b (ih (crcB_lt hx b) (crcB_lt hy b) h)

/-- One byte that is another one gives another sum. -/
theorem crcL_set_ne (l : List UInt8) (i : Nat) (c : UInt8) (hi : i < l.length) (hc : l[i] ≠ c) : crcL (l.set i c) ≠ crcL l := by
  intro h
  have e1 : l = l.take i ++ (l[i] :: l.drop (i + 1)) := by simp
  have e2 : l.set i c = l.take i ++ (c :: l.drop (i + 1)) := by
    rw [List.set_eq_take_append_cons_drop, if_pos hi]
  have hr : crcR 4294967295 (l.set i c) = crcR 4294967295 l := by
    have h1 := crcR_lt (l.set i c) (c := 4294967295) (by omega)
    have h2 := crcR_lt l (c := 4294967295) (by omega)
    unfold crcL at h
    omega
  rw [e2] at hr
  conv at hr => rhs; rw [e1]
  rw [crcR_append, crcR_append] at hr
  have h1 := crcR_lt (l.take i) (c := 4294967295) (by omega)
  have h3 := crcR_inj (l.drop (i + 1)) (crcB_lt h1 c) (crcB_lt h1 l[i]) hr
  exact hc (crcB_inj_byte h1 h3).symm

/-- What the table holds behind k rounds. -/
def tabL (k : Nat) : List Value := (List.range 256).map fun j => .int .u32 (if j < k then stpN 8 j else 0 : Nat)

theorem tabL_length (k : Nat) : (tabL k).length = 256 := by simp [tabL]

theorem tabL_get (k j : Nat) (hj : j < 256) : (tabL k)[j]? = some (.int .u32 ((if j < k then stpN 8 j else 0 : Nat) : Int)) := by
  simp [tabL, hj]

theorem tabL_set (k : Nat) (hk : k < 256) : (tabL k).set k (.int .u32 (stpN 8 k : Nat)) = tabL (k + 1) := by
  apply List.ext_getElem?
  intro j
  rw [List.getElem?_set]
  by_cases hj : j < 256
  · rw [tabL_get (k + 1) j hj, tabL_length]
    by_cases e : k = j
    · subst e
      rw [if_pos rfl, if_pos hk, if_pos (by omega)]
    · rw [if_neg e, tabL_get k j hj]
      by_cases h : j < k
      · rw [if_pos h, if_pos (by omega)]
      · rw [if_neg h, if_neg (by omega)]
  · rw [List.getElem?_eq_none (by rw [tabL_length]; omega), List.getElem?_eq_none (by rw [tabL_length]; omega), tabL_length]
    rw [if_neg (by omega)]

def zero256 : Array Value := Array.replicate 256 (.int .u32 0)
theorem zero256_eq : zero256 = (tabL 0).toArray := by
  apply Array.ext'
  simp only [zero256, tabL, Array.toList_replicate, Nat.not_lt_zero, if_false]
  rw [List.map_const', List.length_range]
  rfl

/-- The table whole. -/
def tabA : Array Value := (tabL 256).toArray
theorem tabA_size : tabA.size = 256 := by simp [tabA, tabL_length]
theorem tabA_one : tabA.all (·.oneCell') = true := by
  rw [Array.all_eq_true_iff_forall_mem]
  intro v hv
  simp only [tabA, tabL, List.mem_toArray, List.mem_map] at hv
  obtain ⟨j, _, rfl⟩ := hv
  rfl
end Go.Proofs.YtlmbijhkpgolaaaGreatDoor

namespace Go.Proofs.YtlmbijhkpgolaaaGreatDoor
open Go.RowKit
set_option linter.unusedVariables false

theorem tab_info : (Tryz.prog.info? 134).map (fun i => (i.zero, i.size)) = some (some (.agg zero256), 256) := by kernel_rfl
theorem tab_size : (Tryz.prog.info? 134).map (·.size) = some 256 := (zero_of_info tab_info).2

/-- The operations of a step, in the walk's spelling. -/
theorem and_one (c : Nat) (hc : c < 4294967296) : bits BinOp.and IntKind.u32 (c : Int) 1 = ((c % 2 : Nat) : Int) := by
  have h := u32_and_nat c 1 hc (by omega)
  rw [Nat.and_one_is_mod] at h
  exact h
theorem xor_poly (c : Nat) (hc : c < 4294967296) : bits BinOp.xor IntKind.u32 (c : Int) 3988292384 = ((c ^^^ 3988292384 : Nat) : Int) :=
  u32_xor_nat c 3988292384 hc (by omega)
theorem stp_odd {c : Nat} (h : c % 2 = 1) : stp c = c / 2 ^^^ 3988292384 := by unfold stp; rw [if_pos h]
theorem stp_even {c : Nat} (h : ¬ c % 2 = 1) : stp c = c / 2 := by unfold stp; rw [if_neg h]

set_option maxHeartbeats 400000 in
theorem eight_any (c : Nat) (w : World) (hc : c < 4294967296) :
    Calls Tryz.prog 109 #[.int .u32 c] w fun e w' => e = .returned (.int .u32 (stpN 8 c : Nat)) ∧ w = w' := by
  go_enter Tryz.func109, Tryz.ntmps109
  go_wp2
  go_loop [0, 4] (fun t i => ∃ k : Nat, k ≤ 8 ∧ i = .int .i64 k ∧ t = .int .u32 (stpN k c : Nat)) (fun _ i => 8 - (intOf i).toNat)
  case atStart => exact ⟨0, Nat.zero_le _, rfl, rfl⟩
  case round =>
    obtain ⟨k, hk, rfl, rfl⟩ := hrel
    by_cases hlt : k < 8
    · obtain ⟨m, HM⟩ : ∃ m, Hid (m = stpN k c) := ⟨_, rfl⟩
      have hm : m < 4294967296 := by rw [HM.out]; exact stpN_lt hc k
      rw [← HM.out]
      have hand := and_one m hm
      have hs : stpN (k + 1) c = stp m := by rw [HM.out]; rfl
      have HS := Lib.hid hs
      clear hs
      by_cases hodd : m % 2 = 1
      · have hx := xor_poly (m / 2) (by omega)
        have hdiv : ((m / 2 : Nat) : Int) = (m : Int) / 2 := by simp
        rw [hdiv] at hx
        have hso := Lib.hid (stp_odd hodd)
        rw [hodd] at hand
        clear hdiv hodd
        go_wp2
        go_round
        case rel => exact ⟨k + 1, by omega, by go_num, by rw [HS.out, hso.out]⟩
        case measure => simp [intOf]; omega
      · have hse := Lib.hid (stp_even hodd)
        have hz : m % 2 = 0 := by omega
        rw [hz] at hand
        clear hz hodd
        go_wp2
        go_round
        case rel => exact ⟨k + 1, by omega, by go_num, by rw [HS.out, hse.out]; congr 1⟩
        case measure => simp [intOf]; omega
    · have : k = 8 := by omega
      subst this
      go_wp2
      go_ret
      exact ⟨rfl, rfl⟩

/-- The number of the table's items, behind a name. -/
def tabN : Nat := 256
theorem tabN_eq : tabN = 256 := rfl

set_option maxRecDepth 3000 in
set_option maxHeartbeats 400000 in
theorem Table_any (w : World) :
    Calls Tryz.prog 104 #[] w fun e w' => e = .returned (.agg tabA) ∧ Below w.heap.size w w' := by
  have hz := (zero_of_info tab_info).1
  go_enter Tryz.func104, Tryz.ntmps104
  go_wp2
  have hr0 : Row ((w.alloc (.cells zero256 134)).alloc (.cells zero256 134)) w.heap.size 134 (tabL 0) := by
    rw [zero256_eq]; exact (Row.new w _ _).alloc _
  have hr1 : Row ((w.alloc (.cells zero256 134)).alloc (.cells zero256 134)) (w.heap.size + 1) 134 (tabL 0) := by
    have h := Row.new (w.alloc (.cells zero256 134)) 134 (tabL 0)
    rw [← zero256_eq] at h
    simpa using h
  have hb0 : Below w.heap.size w ((w.alloc (.cells zero256 134)).alloc (.cells zero256 134)) := ((Below.refl _ _).alloc (Nat.le_refl _) _).alloc (by simp) _
  generalize (w.alloc (.cells zero256 134)).alloc (.cells zero256 134) = w1 at hr0 hr1 hb0 ⊢
  clear hz
  go_loopw [3] (fun i wr => ∃ k : Nat, k ≤ tabN ∧ i = .int .i64 k ∧ Row wr w.heap.size 134 (tabL 0) ∧ Row wr (w.heap.size + 1) 134 (tabL k) ∧ Below w.heap.size w wr) (fun i _ => tabN - (intOf i).toNat)
  case atStart => exact ⟨0, Nat.zero_le _, rfl, hr0, hr1, hb0⟩
  case round =>
    obtain ⟨k, hk, rfl, h0, h1, hb⟩ := hrel
    rw [tabN_eq] at hk
    by_cases hlt : k < 256
    · obtain ⟨v0, hc0⟩ : ∃ v, wr.cell? ⟨w.heap.size + 1, k, none⟩ = some v := ⟨_, by rw [h1.cell]; exact tabL_get k k hlt⟩
      have hf0 := h1.frozen k
      have hs0 := h0.far (p := ⟨w.heap.size + 1, k, none⟩) (by simp) (.int .u32 (stpN 8 k : Nat))
      have hs1 := h1.set k (.int .u32 (stpN 8 k : Nat))
      rw [tabL_set k hlt] at hs1
      have hbs := hb.setCell (p := ⟨w.heap.size + 1, k, none⟩) (by simp) (.int .u32 (stpN 8 k : Nat))
      have H := Lib.hid (And.intro hs0 (And.intro hs1 hbs))
      clear hs0 hs1 hbs h0 h1 hb hr0 hr1 hb0
      go_wp2_with (go_at_call 109; refine (eight_any k _ (by omega)).mono ?_; rintro e w' ⟨rfl, rfl⟩)
      go_roundw
      case rel => exact ⟨k + 1, by rw [tabN_eq]; omega, by go_num, H.out.1, H.out.2.1, H.out.2.2⟩
      case measure => simp [intOf, tabN_eq]; omega
    · have hk2 : k = 256 := by omega
      rw [hk2] at h1
      have hge : 256 ≤ k := by omega
      clear hk2 hlt hr0 hr1 hb0
      go_wp2_with (first
        | (refine wpList_load_row rfl 134 (.tmp 1) rfl (w.heap.size + 1) rfl 134 tabA (0, 0) _ h1 Tryz.underlying134 rfl (by rw [tab_size, tabA_size]) ?_)
        | (refine wpList_store_row rfl 134 (.tmp 0) (.tmp 12) rfl w.heap.size tabA rfl rfl 134 (tabL 0).toArray h0 (by rw [tab_size, tabA_size]) (by rw [tabA_size]; simp [tabL_length]) tabA_one ?_))
      have hr := h0.put (tabL 256)
      have hbs := below_setRow (B := w.heap.size) hb (Nat.le_refl _) tabA
      exact bodyPost_ret (v := .agg tabA) (results_cell_row rfl _ _ w.heap.size 134 tabA (0, 0) _ rfl hr Tryz.underlying134 rfl (by rw [tab_size, tabA_size])) rfl ⟨rfl, hbs⟩
end Go.Proofs.YtlmbijhkpgolaaaGreatDoor

namespace Go.Proofs.YtlmbijhkpgolaaaGreatDoor
open Go.RowKit
set_option linter.unusedVariables false

/-- All the bytes of texts, one behind the other. -/
def cat (ss : List ByteArray) : List UInt8 := (ss.map fun s => s.data.toList).flatten

theorem cat_take_snoc (ss : List ByteArray) (k : Nat) (h : k < ss.length) : cat (ss.take (k + 1)) = cat (ss.take k) ++ (ss.getD k ByteArray.empty).data.toList := by
  rw [List.take_succ_eq_append_getElem h]
  unfold cat
  rw [List.map_append, List.flatten_append]
  simp [List.getD, h]

theorem xor_u8 (c : Nat) (b : UInt8) : bits BinOp.xor IntKind.u8 ((c : Int) % 256) (b.toNat : Int) = ((c % 256 ^^^ b.toNat : Nat) : Int) := by
  have h := u8_xor_nat (c % 256) b.toNat (by omega) (UInt8.toNat_lt b)
  simpa using h
theorem xor_u32 (c x : Nat) (hc : c < 4294967296) (hx : x < 4294967296) : bits BinOp.xor IntKind.u32 ((c : Int) / 256) (x : Int) = ((c / 256 ^^^ x : Nat) : Int) := by
  have h := u32_xor_nat (c / 256) x (by omega) hx
  simpa using h

theorem ones_xor (x : Nat) (hx : x < 4294967296) : 4294967295 ^^^ x = 4294967295 - x := by
  have h1 : (BitVec.allOnes 32 ^^^ BitVec.ofNat 32 x).toNat = 4294967295 ^^^ x := by
    rw [BitVec.toNat_xor, BitVec.toNat_allOnes, BitVec.toNat_ofNat, Nat.mod_eq_of_lt hx]
  have h2 : (BitVec.allOnes 32 ^^^ BitVec.ofNat 32 x).toNat = 4294967295 - x := by
    rw [BitVec.allOnes_xor, BitVec.toNat_not, BitVec.toNat_ofNat, Nat.mod_eq_of_lt hx]
  exact h1.symm.trans h2
theorem max_xor (x : Nat) (hx : x < 4294967296) : bits BinOp.xor IntKind.u32 IntKind.u32.max (x : Int) = ((4294967295 - x : Nat) : Int) := by
  have h := u32_xor_nat 4294967295 x (by omega) hx
  rw [ones_xor x hx] at h
  exact h

set_option maxRecDepth 3000 in
set_option maxHeartbeats 800000 in
theorem CRC_any (ss : List ByteArray) (g n cap : Nat) (w : World) (hn : ss.length = n) (hm : n ≤ 9223372036854775807) (hg : g < w.heap.size)
    (hsz : ∀ i, i < n → (ss.getD i ByteArray.empty).size ≤ 9223372036854775807)
    (hcells : ∀ i, i < n → w.cell? ⟨g, i, none⟩ = some (.string (ss.getD i ByteArray.empty))) :
    Calls Tryz.prog 97 #[.slice (some ⟨g, 0, none⟩) n cap] w fun e w' => e = .returned (.int .u32 (crcL (cat ss) : Nat)) ∧ Below w.heap.size w w' := by
  have hz := (zero_of_info tab_info).1
  have HC := Lib.hid hcells
  have HN := Lib.hid hn
  clear hcells hn
  go_enter Tryz.func97, Tryz.ntmps97
  go_wp2_with (first
    | (go_at_call 104; refine (Table_any _).mono ?_; rintro e w1 ⟨rfl, hb1⟩)
    | (refine wpList_store_row rfl 134 (.tmp 3) (.tmp 8) rfl w1.heap.size tabA rfl rfl 134 zero256 (by simp [World.alloc, -World.alloc_eq]) (by rw [tab_size, tabA_size]) (by rw [tabA_size]; simp [zero256]) tabA_one ?_))
  have hrow : Row ((w1.alloc (.cells zero256 134)).setRow w1.heap.size tabA) w1.heap.size 134 (tabL 256) := by
    have h := Row.new w1 134 (tabL 0)
    rw [← zero256_eq] at h
    exact h.put _
  have hbel : Below w.heap.size w ((w1.alloc (.cells zero256 134)).setRow w1.heap.size tabA) := below_setRow (hb1.alloc hb1.size _) hb1.size _
  generalize (w1.alloc (.cells zero256 134)).setRow w1.heap.size tabA = w2 at hrow hbel ⊢
  generalize w1.heap.size = T at hrow ⊢
  have HC2 : Hid (∀ i, i < n → w2.cell? ⟨g, i, none⟩ = some (.string (ss.getD i ByteArray.empty))) := fun i hi => (hbel.cell hg).trans (HC.out i hi)
  have HS := Lib.hid hsz
  have HB := Lib.hid hbel
  clear hz hb1 HC hsz hbel hg
  go_loop [4, 11] (fun t i => ∃ k : Nat, k ≤ n ∧ i = .int .i64 k ∧ t = .int .u32 (crcR 4294967295 (cat (ss.take k)) : Nat)) (fun _ i => n - (intOf i).toNat)
  case atStart => exact ⟨0, Nat.zero_le _, rfl, rfl⟩
  case round =>
    obtain ⟨k, hk, rfl, rfl⟩ := hrel
    by_cases hlt : k < n
    · obtain ⟨s, hs⟩ : ∃ s, s = ss.getD k ByteArray.empty := ⟨_, rfl⟩
      have hc0 : w2.cell? ⟨g, k, none⟩ = some (.string s) := by rw [hs]; exact HC2.out k hlt
      have hss : s.size ≤ 9223372036854775807 := by rw [hs]; exact HS.out k hlt
      have hcat : cat (ss.take (k + 1)) = cat (ss.take k) ++ s.data.toList := by rw [hs]; exact cat_take_snoc ss k (by rw [HN.out]; exact hlt)
      have HT := Lib.hid hcat
      obtain ⟨C, HCC⟩ : ∃ C, Hid (C = crcR 4294967295 (cat (ss.take k))) := ⟨_, rfl⟩
      have hC : C < 4294967296 := by rw [HCC.out]; exact crcR_lt _ (by omega)
      rw [← HCC.out]
      clear hcat hs
      go_wp2
      go_loop [4, 17] (fun t i => ∃ j : Nat, j ≤ s.size ∧ i = .int .i64 j ∧ t = .int .u32 (crcR C (s.data.toList.take j) : Nat)) (fun _ i => s.size - (intOf i).toNat)
      case atStart => exact ⟨0, Nat.zero_le _, rfl, rfl⟩
      case round =>
        obtain ⟨j, hj, rfl, rfl⟩ := hrel
        by_cases hlt2 : j < s.size
        · obtain ⟨c, Hc⟩ : ∃ c, Hid (c = crcR C (s.data.toList.take j)) := ⟨_, rfl⟩
          have hcl : c < 4294967296 := by rw [Hc.out]; exact crcR_lt _ hC
          rw [← Hc.out]
          have hstep : crcR C (s.data.toList.take (j + 1)) = c / 256 ^^^ stpN 8 (c % 256 ^^^ (s[j]).toNat) := by
            rw [take_snoc s j hlt2, crcR_snoc, ← Hc.out, crcB_table]
          have HP := Lib.hid hstep
          have hx1 := xor_u8 c s[j]
          have hb := UInt8.toNat_lt s[j]
          have hxl : c % 256 ^^^ (s[j]).toNat < 256 := Nat.xor_lt_two_pow (n := 8) (by omega) (by omega)
          have hx2 := xor_u32 c (stpN 8 (c % 256 ^^^ (s[j]).toNat)) hcl (stpN_lt (by omega) 8)
          have hcell : w2.cell? ⟨T, c % 256 ^^^ (s[j]).toNat, none⟩ = some (.int .u32 (stpN 8 (c % 256 ^^^ (s[j]).toNat) : Nat)) := by
            rw [hrow.cell, tabL_get 256 _ hxl, if_pos hxl]
          clear hstep hrow hC
          go_wp2
          go_round
          case rel => exact ⟨j + 1, by omega, by go_num, by rw [HP.out]⟩
          case measure => simp [intOf]; omega
        · have hj2 : s.data.toList.take j = s.data.toList := List.take_of_length_le (by simp; omega)
          have HJ := Lib.hid hj2
          clear hj2
          go_wp2
          go_round
          case rel => exact ⟨k + 1, by omega, by go_num, by rw [HT.out, crcR_append, HJ.out, HCC.out]⟩
          case measure => simp [intOf]; omega
    · have hall : ss.take k = ss := List.take_of_length_le (by rw [HN.out]; omega)
      have HA := Lib.hid hall
      clear hall
      go_wp2
      go_ret
      refine ⟨ret_int ?_, HB.out⟩
      rw [max_xor _ (crcR_lt _ (by omega)), HA.out]
      rfl
end Go.Proofs.YtlmbijhkpgolaaaGreatDoor

namespace Go.Proofs.YtlmbijhkpgolaaaGreatDoor
open Go.RowKit
set_option linter.unusedVariables false

def exA : ByteArray := ⟨#[49, 50, 51, 52]⟩
def exB : ByteArray := ⟨#[53, 54, 55, 56, 57]⟩
theorem ex_sum : ((crcL (cat [exA, exB]) : Nat) : Int) = 3421780262 := by
  have h : crcL (cat [exA, exB]) = 3421780262 := crc_example
  rw [h]; rfl
theorem ex_put : ByteArray.mk (putL 258 (szOf 2)).toArray = ⟨#[1, 2]⟩ := by decide +kernel

set_option maxRecDepth 3000 in
set_option maxHeartbeats 400000 in
theorem awake_any (w : World) :
    Calls Tryz.prog 84 #[] w fun e w' => e = .returned (.bool true) ∧ Below w.heap.size w w' := by
  have hcells : ∀ i, i < 2 → (w.alloc (.cells #[.string ⟨#[49, 50, 51, 52]⟩, .string ⟨#[53, 54, 55, 56, 57]⟩] 9)).cell? ⟨w.heap.size, i, none⟩ = some (.string ([exA, exB].getD i ByteArray.empty)) := by
    intro i hi
    have h := (Row.new w 9 [.string ⟨#[49, 50, 51, 52]⟩, .string ⟨#[53, 54, 55, 56, 57]⟩]).cell i
    rw [h]
    rcases (by omega : i = 0 ∨ i = 1) with rfl | rfl <;> rfl
  have HC := Lib.hid hcells
  clear hcells
  have hb0 : Below w.heap.size w (w.alloc (.cells #[.string ⟨#[49, 50, 51, 52]⟩, .string ⟨#[53, 54, 55, 56, 57]⟩] 9)) := (Below.refl _ _).alloc (Nat.le_refl _) _
  go_enter Tryz.func84, Tryz.ntmps84
  go_wp2_with fail
  refine (CRC_any [exA, exB] w.heap.size 2 2 _ rfl (by omega) (by simp) (fun i hi => by rcases (by omega : i = 0 ∨ i = 1) with rfl | rfl <;> (show (_ : Nat) ≤ _; decide)) HC.out).mono ?_
  rintro e w1 ⟨rfl, hb1⟩
  have hbb := hb0.trans (hb1.mono (by simp))
  rw [ex_sum]
  clear hb0 hb1 HC
  go_wp2_with fail
  refine (Put_any 258 2 _ (by omega)).mono ?_
  rintro e w2 ⟨rfl, hb2⟩
  have hb3 := hbb.trans (hb2.mono hbb.size)
  rw [ex_put]
  clear hbb hb2
  go_wp2
  go_ret
  exact ⟨rfl, hb3⟩
end Go.Proofs.YtlmbijhkpgolaaaGreatDoor

namespace Go.Proofs.YtlmbijhkpgolaaaGreatDoor
open Go.RowKit
set_option linter.unusedVariables false

theorem Awake1_any (w : World) :
    Calls Tryz.prog 71 #[] w fun e w' => e = .returned (.bool true) ∧ Below w.heap.size w w' := by
  go_enter Tryz.func71, Tryz.ntmps71
  go_wp2_with (go_at_call 84; refine (awake_any _).mono ?_; rintro e wa ⟨rfl, hb⟩)
  go_ret
  exact ⟨rfl, hb⟩

theorem abc_prefix : Lib.hasPrefix (shaL [97, 98, 99]) [186, 120, 22, 191] = true := by
  have h := abc_example
  obtain ⟨a, b, c, d, t, e⟩ : ∃ a b c d t, shaL [97, 98, 99] = a :: b :: c :: d :: t := by
    have h2 := shaL_length [97, 98, 99]
    match hq : shaL [97, 98, 99] with
    | [] => rw [hq] at h2; cases h2
    | [_] => rw [hq] at h2; cases h2
    | [_, _] => rw [hq] at h2; cases h2
    | [_, _, _] => rw [hq] at h2; cases h2
    | a :: b :: c :: d :: t => exact ⟨a, b, c, d, t, rfl⟩
  rw [e] at h ⊢
  simp only [List.take_succ_cons, List.take_zero, List.cons.injEq, and_true] at h
  obtain ⟨rfl, rfl, rfl, rfl⟩ := h
  simp [Lib.hasPrefix]

set_option maxRecDepth 3000 in
set_option maxHeartbeats 400000 in
theorem awake5_any (w : World) (hG : G w) :
    Calls Tryz.prog 54 #[] w fun e w' => e = .returned (.bool true) ∧ Below w.heap.size w w' := by
  obtain ⟨L, hL⟩ : ∃ L, shaL [97, 98, 99] = L := ⟨_, rfl⟩
  obtain ⟨L0, hL0⟩ : ∃ L, shaL [] = L := ⟨_, rfl⟩
  have hp : Lib.hasPrefix L [186, 120, 22, 191] = true := by rw [← hL]; exact abc_prefix
  have h32 : (ByteArray.mk L0.toArray).size = 32 := by show L0.toArray.size = 32; rw [List.size_toArray, ← hL0, shaL_length]
  have HT : Hid (∀ W : World, G W → Calls Tryz.prog 15 #[.slice (some ⟨W.heap.size, 0, none⟩) 2 2] (W.alloc (.cells #[.string ⟨#[97]⟩, .string ⟨#[98, 99]⟩] 9)) fun e w' => e = .returned (.string ⟨L.toArray⟩) ∧ Below W.heap.size W w') := Lib.hid fun W hg => by
    rw [← hL]
    have hb0 : Below W.heap.size W (W.alloc (.cells #[.string ⟨#[97]⟩, .string ⟨#[98, 99]⟩] 9)) := (Below.refl _ _).alloc (Nat.le_refl _) _
    refine (Text_any W.heap.size 0 2 [⟨#[97]⟩, ⟨#[98, 99]⟩] _ (hg.below hb0) (fun j x hx => ?_) (by simp) (by decide) (by decide) [97, 98, 99] rfl (by decide)).mono fun e w' h => ⟨h.1, hb0.trans (h.2.mono hb0.size)⟩
    have h := (Row.new W 9 [.string ⟨#[97]⟩, .string ⟨#[98, 99]⟩]).cell j
    rw [Nat.zero_add, h]
    match j, hx with
    | 0, hx => cases hx; rfl
    | 1, hx => cases hx; rfl
    | j + 2, hx => cases hx
  have HT0 : Hid (∀ W : World, G W → Calls Tryz.prog 15 #[.slice none 0 0] W fun e w' => e = .returned (.string ⟨L0.toArray⟩) ∧ Below W.heap.size W w') := Lib.hid fun W hg => by
    rw [← hL0]; exact Text_none none 0 W hg
  have HP : Hid (∀ W : World, Calls Tryz.prog 39 #[.string ⟨L.toArray⟩, .string ⟨#[186, 120, 22, 191]⟩] W fun e w' => e = .returned (.bool true) ∧ w' = W) := Lib.hid fun W => by
    have h := Tryz.strings_HasPrefix ⟨L.toArray⟩ ⟨#[186, 120, 22, 191]⟩ W
    rw [show Lib.hasPrefix (ByteArray.mk L.toArray).data.toList (ByteArray.mk #[186, 120, 22, 191]).data.toList = true from hp] at h
    exact h
  have HG := Lib.hid hG
  clear hL hL0 hp hG
  go_enter Tryz.func54, Tryz.ntmps54
  go_wp2_with fail
  refine (Awake1_any _).mono ?_
  rintro e w1 ⟨rfl, hb1⟩
  have hg1 := HG.out.below hb1
  go_wp2_with fail
  refine (HT.out _ hg1).mono ?_
  rintro e w2 ⟨rfl, hb2⟩
  have hb2' := hb1.trans (hb2.mono hb1.size)
  have hg2 := HG.out.below hb2'
  clear hb1 hb2 hg1
  go_wp2_with fail
  refine (HP.out _).mono ?_
  rintro e w3 ⟨rfl, rfl⟩
  go_wp2_with fail
  refine (HT0.out _ hg2).mono ?_
  rintro e w4 ⟨rfl, hb4⟩
  have hb4' := hb2'.trans (hb4.mono hb2'.size)
  clear hb2' hb4 hg2
  go_wp2_with fail
  go_ret
  exact ⟨rfl, hb4'⟩
theorem Awake5_any (w : World) (hG : G w) :
    Calls Tryz.prog 38 #[] w fun e w' => e = .returned (.bool true) ∧ Below w.heap.size w w' := by
  go_enter Tryz.func38, Tryz.ntmps38
  go_wp2_with (go_at_call 54; refine (awake5_any _ hG).mono ?_; rintro e wa ⟨rfl, hb⟩)
  go_ret
  exact ⟨rfl, hb⟩
end Go.Proofs.YtlmbijhkpgolaaaGreatDoor

namespace Go.Proofs.YtlmbijhkpgolaaaGreatDoor
open Go.RowKit
set_option linter.unusedVariables false
theorem Awake3_any (w : World) :
    Calls Tryz.prog 37 #[] w fun e w' => e = .returned (.bool true) ∧ Below w.heap.size w w' := by
  go_enter Tryz.func37, Tryz.ntmps37
  go_wp2_with (go_at_call 53; refine (awake3_any _).mono ?_; rintro e wa ⟨rfl, hb⟩)
  go_ret
  exact ⟨rfl, hb⟩
def jefeK : ByteArray := ⟨#[74, 101, 102, 101]⟩
def jefeA : ByteArray := ⟨#[119, 104, 97, 116, 32, 100, 111, 32, 121, 97, 32, 119, 97, 110, 116, 32]⟩
def jefeB : ByteArray := ⟨#[102, 111, 114, 32, 110, 111, 116, 104, 105, 110, 103, 63]⟩
theorem take4_prefix (L : List UInt8) (a b c d : UInt8) (h : L.take 4 = [a, b, c, d]) : Lib.hasPrefix L [a, b, c, d] = true := by
  obtain ⟨R, hR⟩ : ∃ R, L.drop 4 = R := ⟨_, rfl⟩
  have e : L = [a, b, c, d] ++ R := by rw [← h, ← hR, List.take_append_drop]
  rw [e]
  simp [Lib.hasPrefix]

set_option maxRecDepth 20000 in
set_option maxHeartbeats 2000000 in
theorem awake6_any (w : World) (hG : G w) :
    Calls Tryz.prog 27 #[] w fun e w' => e = .returned (.bool true) ∧ Below w.heap.size w w' := by
  obtain ⟨L, hL⟩ : ∃ L, hmacL jefeK.data.toList (jefeA.data.toList ++ jefeB.data.toList) = L := ⟨_, rfl⟩
  have hp : Lib.hasPrefix L [91, 220, 193, 70] = true := by rw [← hL]; exact take4_prefix _ _ _ _ _ jefe_example
  have HS : Hid (∀ (W : World) (g : Nat), G W → Row W g 9 [.string jefeA, .string jefeB] → Calls Tryz.prog 31 #[.string jefeK, .slice (some ⟨g, 0, none⟩) 2 2] W fun e w' => e = .returned (.string ⟨L.toArray⟩) ∧ Below W.heap.size W w') := Lib.hid fun W g hg hr2 => by
    rw [← hL]
    exact HmSum_any jefeK (by decide) g 0 2 [jefeA, jefeB] W hg (fun j x hx => by rw [Nat.zero_add, hr2.cell]; match j, hx with | 0, hx => cases hx; rfl | 1, hx => cases hx; rfl) hr2.lt (by simp) (jefeA.data.toList ++ jefeB.data.toList) (by rw [join_flat]; simp) (by decide)
  have HP : Hid (∀ W : World, Calls Tryz.prog 39 #[.string ⟨L.toArray⟩, .string ⟨#[91, 220, 193, 70]⟩] W fun e w' => e = .returned (.bool true) ∧ w' = W) := Lib.hid fun W => by
    have h := Tryz.strings_HasPrefix ⟨L.toArray⟩ ⟨#[91, 220, 193, 70]⟩ W
    rw [show Lib.hasPrefix (ByteArray.mk L.toArray).data.toList (ByteArray.mk #[91, 220, 193, 70]).data.toList = true from hp] at h
    exact h
  have HG := Lib.hid hG
  clear hL hp hG
  go_enter Tryz.func27, Tryz.ntmps27
  go_wp2_with fail
  refine (Awake3_any _).mono ?_
  rintro e w1 ⟨rfl, hb1⟩
  go_wp2_with fail
  refine (Awake5_any _ (HG.out.below hb1)).mono ?_
  rintro e w2 ⟨rfl, hb2⟩
  have hB2 := hb1.trans (hb2.mono hb1.size)
  clear hb1 hb2
  go_wp2_with fail
  have hB3 := hB2.alloc hB2.size (.cells #[Value.string jefeA, Value.string jefeB] 9)
  refine (HS.out _ w2.heap.size (HG.out.below hB3) (Row.new w2 9 [Value.string jefeA, Value.string jefeB])).mono ?_
  rintro e w3 ⟨rfl, hb3⟩
  have hB4 := hB3.trans (hb3.mono hB3.size)
  clear hB2 hB3 hb3
  go_wp2_with fail
  refine (HP.out _).mono ?_
  rintro e w4 ⟨rfl, rfl⟩
  go_wp2_with fail
  go_ret
  exact ⟨rfl, hB4⟩
end Go.Proofs.YtlmbijhkpgolaaaGreatDoor

namespace Go.Proofs.YtlmbijhkpgolaaaGreatDoor
open Go.RowKit
set_option linter.unusedVariables false
set_option linter.unusedSimpArgs false

theorem Awake6_o (w : World) (hG : G w) :
    Calls Tryz.prog 14 #[] w fun e w' => e = .returned (.bool true) ∧ Below w.heap.size w w' := by
  have HG := Lib.hid hG
  clear hG
  go_enter Tryz.func14, Tryz.ntmps14
  go_wp2_with fail
  refine (awake6_any _ HG.out).mono ?_
  rintro e wa ⟨rfl, hb⟩
  go_wp2_with fail
  go_ret
  exact ⟨rfl, hb⟩

set_option maxHeartbeats 1000000 in
theorem awake21_any (w : World) (hG : G w) :
    Calls Tryz.prog 4 #[] w fun e w' => e = .returned (.bool true) ∧ Below w.heap.size w w' := by
  have HB : Hid (∀ W : World, Calls Tryz.prog 12 #[.int .i64 1, .int .u64 5, .int .u64 10] W fun e w' => e = .returned (.tuple #[.agg #[.int .i64 1, .int .u64 15, .int .i64 0], .int .i64 0]) ∧ Below W.heap.size W w') := Lib.hid fun W => begin_any 1 5 10 W (by omega) (by omega) (by omega) (by omega) (by omega) (by omega)
  have HE : Hid (∀ W : World, Calls Tryz.prog 8 #[.agg #[.int .i64 1, .int .u64 15, .int .i64 0], .string ⟨#[49, 50, 51, 52, 53, 54]⟩, .string ⟨#[48, 48, 48, 48, 48, 48]⟩, .int .u64 6] W fun e w' => e = .returned (.tuple #[.agg #[.int .i64 0, .int .u64 15, .int .i64 2], .int .i64 2]) ∧ Below W.heap.size W w') := Lib.hid fun W => enter_out 15 6 _ _ W (by decide) (by omega) (by decide)
  have HG := Lib.hid hG
  clear hG
  go_enter Tryz.func4, Tryz.ntmps4
  go_wp2_with fail
  refine (HB.out _).mono ?_
  rintro e w1 ⟨rfl, hb1⟩
  have B1 := Lib.hid hb1
  have hz1 := hb1.size
  clear hb1
  go_wp2_with fail
  refine (HE.out _).mono ?_
  rintro e w2 ⟨rfl, hb2⟩
  have B2 := Lib.hid ((B1.out.alloc hz1 (.cells #[.int .i64 1, .int .u64 15, .int .i64 0] 24)).trans (hb2.mono (by simp; omega)))
  have R2 := Lib.hid ((Row.new w1 24 [.int .i64 1, .int .u64 15, .int .i64 0]).below hb2 (by simp))
  have hz2 := hb2.size
  simp only [World.size_alloc] at hz2
  clear hb2
  go_wp2_with fail
  have R2a := Lib.hid (Row.new w2 24 [.int .i64 0, .int .u64 15, .int .i64 2])
  refine (Awake6_o _ (HG.out.below (B2.out.alloc (by omega) _))).mono ?_
  rintro e w3 ⟨rfl, hb3⟩
  have B3 := Lib.hid ((B2.out.alloc (by omega) (.cells #[.int .i64 0, .int .u64 15, .int .i64 2] 24)).trans (hb3.mono (by simp; omega)))
  have r3 := (R2.out.alloc (.cells #[.int .i64 0, .int .u64 15, .int .i64 2] 24)).below hb3 (by simp; omega)
  have r4 := R2a.out.below hb3 (by simp)
  have q1 := r3.cell 1
  have q2 := r4.cell 2
  simp only [List.getElem?_cons_zero, List.getElem?_cons_succ] at q1 q2
  clear hb3 r3 r4
  go_wp2_with fail
  go_ret
  exact ⟨rfl, B3.out⟩

theorem st_fields : Tryz.prog.fieldsOf 24 = #[{ name := "Tries", type := 3, offset := 0, embedded := false, tag := "", pkgPath := "", byteOffset := 0 }, { name := "Deadline", type := 22, offset := 1, embedded := false, tag := "", pkgPath := "", byteOffset := 8 },
  { name := "Over", type := 3, offset := 2, embedded := false, tag := "", pkgPath := "", byteOffset := 16 }] := by kernel_rfl
theorem st_in (a b c a' b' c' : Int) (W : World) :
    (Op.equalIn 10000 24 (.agg #[.int .i64 a, .int .u64 b, .int .i64 c]) (.agg #[.int .i64 a', .int .u64 b', .int .i64 c'])).run Tryz.prog W = .ok (decide (a = a' ∧ b = b' ∧ c = c')) W := by
  have aI := Tryz.isAgg3
  have aU := Tryz.isAgg22
  rw [run_equalIn_struct W 9999 _ _ _ (by rw [st_fields]; exact Tryz.underlying24) (by kernel_rfl), st_fields]
  simp [Op.eqFields, part, aU, aI, run_equalIn_int, Tryz.underlying22, Tryz.underlying3]
  by_cases h1 : a = a'
  · by_cases h2 : b = b'
    · by_cases h3 : c = c' <;> simp [h1, h2, h3]
    · simp [h1, h2]
  · simp [h1]
/-- Two states compared. -/
theorem st_eql (a b c a' b' c' : Int) (W : World) : (binOp .eql 24 (.agg #[.int .i64 a, .int .u64 b, .int .i64 c]) (.agg #[.int .i64 a', .int .u64 b', .int .i64 c'])).run Tryz.prog W = .ok (.bool (decide (a = a' ∧ b = b' ∧ c = c'))) W := by
  rw [run_eql_struct, st_in]
  rfl
theorem st_neq (a b c a' b' c' : Int) (W : World) : (binOp .neq 24 (.agg #[.int .i64 a, .int .u64 b, .int .i64 c]) (.agg #[.int .i64 a', .int .u64 b', .int .i64 c'])).run Tryz.prog W = .ok (.bool (!decide (a = a' ∧ b = b' ∧ c = c'))) W := by
  rw [run_neq_struct, st_in]
  rfl
theorem st_self (a b c : Int) (W : World) : (binOp .eql 24 (.agg #[.int .i64 a, .int .u64 b, .int .i64 c]) (.agg #[.int .i64 a, .int .u64 b, .int .i64 c])).run Tryz.prog W = .ok (.bool true) W := by
  rw [st_eql]; simp
theorem st_selfN (a b c : Int) (W : World) : (binOp .neq 24 (.agg #[.int .i64 a, .int .u64 b, .int .i64 c]) (.agg #[.int .i64 a, .int .u64 b, .int .i64 c])).run Tryz.prog W = .ok (.bool false) W := by
  rw [st_neq]; simp
end Go.Proofs.YtlmbijhkpgolaaaGreatDoor

namespace Go.Proofs.YtlmbijhkpgolaaaGreatDoor
open Go.RowKit
set_option linter.unusedVariables false
set_option linter.unusedSimpArgs false

def entT (t d o n : Int) (c s : ByteArray) : Int := if o ≠ 0 then t else if d ≤ n then t else if c = s then t else t - 1
def entO (t d o n : Int) (c s : ByteArray) : Int := if o ≠ 0 then o else if d ≤ n then 3 else if c = s then 1 else if t ≤ 1 then 2 else 0
def entH (t d o n : Int) (c s : ByteArray) : Int := if o ≠ 0 then o else if d ≤ n then 3 else if c = s then 1 else if t ≤ 1 then 2 else 5

theorem ent_over (t d o n : Int) (c s : ByteArray) (h : o ≠ 0) : entT t d o n c s = t ∧ entO t d o n c s = o ∧ entH t d o n c s = o := by
  unfold entT entO entH; rw [if_pos h, if_pos h, if_pos h]; exact ⟨rfl, rfl, rfl⟩
theorem ent_late (t d n : Int) (c s : ByteArray) (h : d ≤ n) : entT t d 0 n c s = t ∧ entO t d 0 n c s = 3 ∧ entH t d 0 n c s = 3 := by
  unfold entT entO entH; simp [h]
theorem ent_right (t d n : Int) (c : ByteArray) (h : ¬ d ≤ n) : entT t d 0 n c c = t ∧ entO t d 0 n c c = 1 ∧ entH t d 0 n c c = 1 := by
  unfold entT entO entH; simp [h]
theorem ent_out (t d n : Int) (c s : ByteArray) (h : ¬ d ≤ n) (hc : c ≠ s) (ht : t ≤ 1) : entT t d 0 n c s = t - 1 ∧ entO t d 0 n c s = 2 ∧ entH t d 0 n c s = 2 := by
  unfold entT entO entH; simp [h, hc, ht]
theorem ent_more (t d n : Int) (c s : ByteArray) (h : ¬ d ≤ n) (hc : c ≠ s) (ht : ¬ t ≤ 1) : entT t d 0 n c s = t - 1 ∧ entO t d 0 n c s = 0 ∧ entH t d 0 n c s = 5 := by
  unfold entT entO entH; simp [h, hc, ht]

theorem Enter_all (t d o n : Int) (c s : ByteArray) (w : World) (hc : c.size ≤ 140737488355328) (hm : -9223372036854775808 < t) (hm' : t ≤ 9223372036854775807) :
    Calls Tryz.prog 8 #[.agg #[.int .i64 t, .int .u64 d, .int .i64 o], .string c, .string s, .int .u64 n] w fun e w' => e = .returned (.tuple #[.agg #[.int .i64 (entT t d o n c s), .int .u64 d, .int .i64 (entO t d o n c s)], .int .i64 (entH t d o n c s)]) ∧ Below w.heap.size w w' := by
  by_cases ho : o = 0
  · subst ho
    by_cases hl : d ≤ n
    · obtain ⟨e1, e2, e3⟩ := ent_late t d n c s hl
      rw [e1, e2, e3]; exact enter_late t d n c s w hl
    · by_cases hcs : c = s
      · subst hcs
        obtain ⟨e1, e2, e3⟩ := ent_right t d n c hl
        rw [e1, e2, e3]; exact enter_right t d n c w hc (by omega)
      · by_cases h1 : t ≤ 1
        · obtain ⟨e1, e2, e3⟩ := ent_out t d n c s hl hcs h1
          rw [e1, e2, e3]; exact enter_outT t d n c s w hc (by omega) hcs h1 hm
        · obtain ⟨e1, e2, e3⟩ := ent_more t d n c s hl hcs h1
          rw [e1, e2, e3]; exact enter_wrong t d n c s w hc (by omega) hcs (by omega) hm'
  · obtain ⟨e1, e2, e3⟩ := ent_over t d o n c s ho
    rw [e1, e2, e3]; exact enter_over t d o n c s w ho

theorem str_neO {x y : ByteArray} (h : x ≠ y) : (x.toList == y.toList) = false := by
  rw [beq_eq_false_iff_ne]
  intro e
  rw [ByteArray.toList_eq, ByteArray.toList_eq] at e
  exact h (ByteArray.ext (Array.toList_inj.mp e))
theorem results_rst {fn : Func} {p u : Tmp} (h : fn.results = #[.cell p 32, .tmp u]) (tmps : Array Value) (w : World) (g : Nat) (a b c x : Value)
    (hp : tmps.getD p undef = .pointer (some ⟨g, 0, none⟩)) (hx : tmps.getD u undef = x) (hr : Row w g 32 [a, b, c]) :
    (results fn tmps).run Tryz.prog w = .ok (.tuple #[.agg #[a, b, c], x]) w := by
  rw [results_cell_tmp h, hp, hx]
  simp [asAddr, run_loadVar_row w g 32 32 #[a, b, c] (0, 0) _ hr Tryz.underlying32 rfl (by kernel_rfl), Result.andThen]

set_option maxHeartbeats 2000000 in
theorem refEnter_all (t d o n : Int) (c s : ByteArray) (w : World) (hm : -9223372036854775808 < t) (hm' : t ≤ 9223372036854775807) :
    Calls Tryz.prog 9 #[.agg #[.int .i64 t, .int .u64 d, .int .i64 o], .string c, .string s, .int .u64 n] w fun e w' => e = .returned (.tuple #[.agg #[.int .i64 (entT t d o n c s), .int .u64 d, .int .i64 (entO t d o n c s)], .int .i64 (entH t d o n c s)]) ∧ Below w.heap.size w w' := by
  by_cases ho : o = 0
  · subst ho
    by_cases hl : d ≤ n
    · obtain ⟨e1, e2, e3⟩ := ent_late t d n c s hl
      rw [e1, e2, e3]; clear e1 e2 e3
      go_enter Tryz.func9, Tryz.ntmps9
      go_wp2
      exact bodyPost_ret (v := .tuple #[.agg #[.int .i64 (t), .int .u64 d, .int .i64 3], .int .i64 3]) (by simp [results, Tryz.results9, go_sem]) rfl ⟨rfl, ((Below.refl _ _).alloc (Nat.le_refl _) _).alloc (by simp) _⟩
    · have hl' : n < d := by omega
      by_cases hcs : c = s
      · subst hcs
        obtain ⟨e1, e2, e3⟩ := ent_right t d n c hl
        rw [e1, e2, e3]; clear e1 e2 e3
        have hcc : (c.toList == c.toList) = true := by simp
        go_enter Tryz.func9, Tryz.ntmps9
        go_wp2
        exact bodyPost_ret (v := .tuple #[.agg #[.int .i64 (t), .int .u64 d, .int .i64 1], .int .i64 1]) (by simp [results, Tryz.results9, go_sem]) rfl ⟨rfl, ((Below.refl _ _).alloc (Nat.le_refl _) _).alloc (by simp) _⟩
      · have hcc : (s.toList == c.toList) = false := str_neO (fun h => hcs h.symm)
        by_cases h1 : t ≤ 1
        · obtain ⟨e1, e2, e3⟩ := ent_out t d n c s hl hcs h1
          rw [e1, e2, e3]; clear e1 e2 e3 hcs
          have h1' : t - 1 ≤ 0 := by omega
          go_enter Tryz.func9, Tryz.ntmps9
          go_wp2
          exact bodyPost_ret (v := .tuple #[.agg #[.int .i64 (t - 1), .int .u64 d, .int .i64 2], .int .i64 2]) (by simp [results, Tryz.results9, go_sem]) rfl ⟨rfl, ((Below.refl _ _).alloc (Nat.le_refl _) _).alloc (by simp) _⟩
        · obtain ⟨e1, e2, e3⟩ := ent_more t d n c s hl hcs h1
          rw [e1, e2, e3]; clear e1 e2 e3 hcs
          have h1' : ¬ t - 1 ≤ 0 := by omega
          go_enter Tryz.func9, Tryz.ntmps9
          go_wp2
          exact bodyPost_ret (v := .tuple #[.agg #[.int .i64 (t - 1), .int .u64 d, .int .i64 0], .int .i64 5]) (by simp [results, Tryz.results9, go_sem]) rfl ⟨rfl, ((Below.refl _ _).alloc (Nat.le_refl _) _).alloc (by simp) _⟩
  · obtain ⟨e1, e2, e3⟩ := ent_over t d o n c s ho
    rw [e1, e2, e3]; clear e1 e2 e3
    have h0 : (o != 0) = true := by rw [bne_iff_ne]; exact ho
    clear ho
    go_enter Tryz.func9, Tryz.ntmps9
    go_wp2
    go_region
    go_wp2
    exact bodyPost_ret (v := .tuple #[.agg #[.int .i64 (t), .int .u64 d, .int .i64 o], .int .i64 o]) (by simp [results, Tryz.results9, go_sem]) rfl ⟨rfl, (((Below.refl _ _).alloc (Nat.le_refl _) _).alloc (by simp) _).drew⟩
end Go.Proofs.YtlmbijhkpgolaaaGreatDoor

namespace Go.Proofs.YtlmbijhkpgolaaaGreatDoor
open Go.RowKit
set_option linter.unusedVariables false
set_option linter.unusedSimpArgs false

theorem rst_fields : Tryz.prog.fieldsOf 32 = #[{ name := "Tries", type := 3, offset := 0, embedded := false, tag := "", pkgPath := "", byteOffset := 0 }, { name := "Deadline", type := 22, offset := 1, embedded := false, tag := "", pkgPath := "", byteOffset := 8 },
  { name := "Over", type := 3, offset := 2, embedded := false, tag := "", pkgPath := "", byteOffset := 16 }] := by kernel_rfl
theorem rst_self (a b c : Int) (W : World) : (binOp .eql 32 (.agg #[.int .i64 a, .int .u64 b, .int .i64 c]) (.agg #[.int .i64 a, .int .u64 b, .int .i64 c])).run Tryz.prog W = .ok (.bool true) W := by
  have aI := Tryz.isAgg3
  have aU := Tryz.isAgg22
  rw [run_eql_struct, run_equalIn_struct W 9999 _ _ _ (by rw [rst_fields]; exact Tryz.underlying32) (by kernel_rfl), rst_fields]
  simp [Op.eqFields, part, aU, aI, run_equalIn_int, Tryz.underlying22, Tryz.underlying3, Result.andThen]
theorem below_drewN_o {B : Nat} {a w : World} (h : Below B a w) (n : Nat) : Below B a (w.drewN n) := ⟨h.os, h.tape, h.output, h.size, h.block⟩
theorem max2r {P : Program} (ts : Array TypeId) (t : TypeId) (a b : Nat) (W : World) : (Builtin.max_ ts t #[.int .i64 a, .int .i64 b]).run P W = .ok (.int .i64 ((max a b : Nat) : Int)) W := by
  simp [Builtin.max_, Builtin.max2]
  omega
theorem small_any (t d o : Int) (w : World) (b : Bool) (hb : decide (-9223372036854775808 < t) = b) :
    Calls Tryz.prog 5 #[.agg #[.int .i64 t, .int .u64 d, .int .i64 o]] w fun e w' => e = .returned (.bool b) ∧ Below w.heap.size w w' := by
  subst hb
  go_enter Tryz.func5, Tryz.ntmps5
  go_wp2
  go_ret
  exact ⟨rfl, (Below.refl _ _).alloc (Nat.le_refl _) _⟩
theorem later_any (a b : Int) (w : World) (ha : 0 ≤ a) (ha' : a ≤ 18446744073709551615) (hb : 0 ≤ b) (hb' : b ≤ 18446744073709551615) :
    Calls Tryz.prog 13 #[.int .u64 a, .int .u64 b] w fun e w' => e = .returned (.int .u64 (min (a + b) 18446744073709551615)) ∧ w = w' := by
  by_cases h : a + b ≤ 18446744073709551615
  · have e1 : (a + b) % 18446744073709551616 = a + b := Int.emod_eq_of_lt (by omega) (by omega)
    have h2 : ¬ a + b < a := by omega
    rw [show min (a + b) 18446744073709551615 = a + b by omega]
    go_enter Tryz.func13, Tryz.ntmps13
    go_wp2
    go_ret
    exact ⟨rfl, rfl⟩
  · have e1 : IntKind.wrap .u64 (a + b) = a + b - 18446744073709551616 := by rw [IntKind.wrap_u64]; omega
    have h2 : a + b - 18446744073709551616 < a := by omega
    rw [show min (a + b) 18446744073709551615 = 18446744073709551615 by omega]
    go_enter Tryz.func13, Tryz.ntmps13
    go_wp2
    go_ret
    exact ⟨rfl, rfl⟩
end Go.Proofs.YtlmbijhkpgolaaaGreatDoor

namespace Go.Proofs.YtlmbijhkpgolaaaGreatDoor
open Go.RowKit
set_option linter.unusedVariables false
set_option linter.unusedSimpArgs false

set_option maxRecDepth 100000 in
set_option maxHeartbeats 4000000 in
theorem steps_overRlow (t d o n k X1 X2 X3 m : Int) (key said c : ByteArray) (C : List Value) (hCl : C.length = 16) (w : World) (zN : Nat) (hzm : max key.size said.size = zN) (hz200 : ¬ (200 : Int) < (zN : Int))
    (HG : Hid (G w)) (HT10 : Hid (T10 w)) (ho : ¬ o = 0) (ho2 : (o == 0) = false) (hb1 : t < 1)
    (HA : Hid (∀ W : World, G W → Calls Tryz.prog 4 #[] W fun e w' => e = .returned (.bool true) ∧ Below W.heap.size W w'))
    (HSM : Hid (∀ W : World, Calls Tryz.prog 5 #[.agg #[.int .i64 t, .int .u64 d, .int .i64 o]] W fun e w' => e = .returned (.bool true) ∧ Below W.heap.size W w'))
    (HCO : Hid (∀ W : World, G W → T10 W → Calls Tryz.prog 6 #[.string key, .agg C.toArray] W fun e w' => e = .returned (.string c) ∧ Below W.heap.size W w'))
    (HRC : Hid (∀ W : World, Calls Tryz.prog 7 #[.string key, .agg C.toArray] W fun e w' => e = .returned (.string c) ∧ Below W.heap.size W w'))
    (HE : Hid (∀ W : World, Calls Tryz.prog 8 #[.agg #[.int .i64 t, .int .u64 d, .int .i64 o], .string c, .string c, .int .u64 n] W fun e w' => e = .returned (.tuple #[.agg #[.int .i64 X1, .int .u64 d, .int .i64 X2], .int .i64 X3]) ∧ Below W.heap.size W w'))
    (HF : Hid (∀ W : World, Calls Tryz.prog 9 #[.agg #[.int .i64 t, .int .u64 d, .int .i64 o], .string c, .string c, .int .u64 n] W fun e w' => e = .returned (.tuple #[.agg #[.int .i64 X1, .int .u64 d, .int .i64 X2], .int .i64 X3]) ∧ Below W.heap.size W w'))
    (HTK : Hid (∀ W : World, Calls Tryz.prog 10 #[.agg #[.int .i64 t, .int .u64 d, .int .i64 o], .int .u64 n] W fun e w' => e = .returned (.tuple #[.agg #[.int .i64 t, .int .u64 d, .int .i64 o], .bool false]) ∧ Below W.heap.size W w'))
    (HCA : Hid (∀ W : World, Calls Tryz.prog 11 #[.agg #[.int .i64 t, .int .u64 d, .int .i64 o], .int .u64 n] W fun e w' => e = .returned (.tuple #[.agg #[.int .i64 t, .int .u64 d, .int .i64 o], .bool false]) ∧ Below W.heap.size W w'))
    (HBE : Hid (∀ W : World, Calls Tryz.prog 12 #[.int .i64 t, .int .u64 n, .int .u64 k] W fun e w' => e = .returned (.tuple #[.agg #[.int .i64 0, .int .u64 0, .int .i64 0], .int .i64 7]) ∧ Below W.heap.size W w')) :
    Calls Tryz.prog 3 #[.agg #[.int .i64 t, .int .u64 d, .int .i64 o], .string key, .string said, .agg C.toArray, .int .u64 n, .int .u64 k, .bool true] w fun e w' => e = .returned (.bool true) ∧ Below w.heap.size w w' := by
  have hxl := fun ts T W => max2r (P := Tryz.prog) ts T key.size said.size W
  rw [hzm] at hxl
  have HQ1 := fun W => st_self X1 d X2 W
  have HQR := fun W => rst_self X1 d X2 W
  have HQ2 := fun W => st_self t d o W
  have HQ3 := fun W => st_self t d o W
  have HQ4 := fun W => st_selfN 0 0 0 W
  have rS : Row ((w.alloc (.cells ([.int .i64 t, .int .u64 d, .int .i64 o] : List Value).toArray 24)).alloc (.cells C.toArray 26)) w.heap.size 24 [.int .i64 t, .int .u64 d, .int .i64 o] := (Row.new w 24 [.int .i64 t, .int .u64 d, .int .i64 o]).alloc _
  have rI : Row ((w.alloc (.cells ([.int .i64 t, .int .u64 d, .int .i64 o] : List Value).toArray 24)).alloc (.cells C.toArray 26)) (w.heap.size + 1) 26 C := by
    have h := Row.new (w.alloc (.cells ([.int .i64 t, .int .u64 d, .int .i64 o] : List Value).toArray 24)) 26 C
    rwa [World.size_alloc] at h
  have b0 : Below w.heap.size w ((w.alloc (.cells ([.int .i64 t, .int .u64 d, .int .i64 o] : List Value).toArray 24)).alloc (.cells C.toArray 26)) := ((Below.refl _ _).alloc (Nat.le_refl _) _).alloc (by simp) _
  have hw0 : w.heap.size ≤ ((w.alloc (.cells ([.int .i64 t, .int .u64 d, .int .i64 o] : List Value).toArray 24)).alloc (.cells C.toArray 26)).heap.size := b0.size
  have hgS0 : w.heap.size < ((w.alloc (.cells ([.int .i64 t, .int .u64 d, .int .i64 o] : List Value).toArray 24)).alloc (.cells C.toArray 26)).heap.size := rS.lt
  have hgI0 : w.heap.size + 1 < ((w.alloc (.cells ([.int .i64 t, .int .u64 d, .int .i64 o] : List Value).toArray 24)).alloc (.cells C.toArray 26)).heap.size := rI.lt
  clear hzm
  go_enter Tryz.func3, Tryz.ntmps3
  go_wp2_with fail
  refine (HA.out _ (HG.out.below b0)).mono ?_
  rintro e y1 ⟨rfl, hb⟩
  have B1 := Lib.hid (b0.trans (hb.mono (by first | exact hw0 | (simp; omega) | omega)))
  have hz1 : w.heap.size ≤ y1.heap.size := B1.out.size
  have RS1 : Hid (Row y1 w.heap.size 24 [.int .i64 t, .int .u64 d, .int .i64 o]) := Lib.hid (rS.below hb (by first | exact hgS0 | (simp; omega) | omega))
  have hgS1 : w.heap.size < y1.heap.size := RS1.out.lt
  have RI1 : Hid (Row y1 (w.heap.size + 1) 26 C) := Lib.hid (rI.below hb (by first | exact hgI0 | (simp; omega) | omega))
  have hgI1 : (w.heap.size + 1) < y1.heap.size := RI1.out.lt
  clear hb
  have cS1_0 := RS1.out.cell 0
  have cS1_1 := RS1.out.cell 1
  have cS1_2 := RS1.out.cell 2
  simp only [List.getElem?_cons_zero, List.getElem?_cons_succ] at cS1_0 cS1_1 cS1_2
  go_wp2_with fail
  refine (HSM.out _).mono ?_
  rintro e y2 ⟨rfl, hb⟩
  have B2 := Lib.hid (B1.out.trans (hb.mono (by first | exact hz1 | (simp; omega) | omega)))
  have hz2 : w.heap.size ≤ y2.heap.size := B2.out.size
  have RS2 : Hid (Row y2 w.heap.size 24 [.int .i64 t, .int .u64 d, .int .i64 o]) := Lib.hid (RS1.out.below hb (by first | exact hgS1 | (simp; omega) | omega))
  have hgS2 : w.heap.size < y2.heap.size := RS2.out.lt
  have RI2 : Hid (Row y2 (w.heap.size + 1) 26 C) := Lib.hid (RI1.out.below hb (by first | exact hgI1 | (simp; omega) | omega))
  have hgI2 : (w.heap.size + 1) < y2.heap.size := RI2.out.lt
  clear hb
  have cS2_0 := RS2.out.cell 0
  have cS2_1 := RS2.out.cell 1
  have cS2_2 := RS2.out.cell 2
  simp only [List.getElem?_cons_zero, List.getElem?_cons_succ] at cS2_0 cS2_1 cS2_2
  go_wp2_with (first
      | (refine wpList_load_row rfl 26 (.tmp 10) rfl (w.heap.size + 1) rfl 26 C.toArray (0, 0) _ RI2.out Tryz.underlying26 rfl (by rw [List.size_toArray, hCl]; kernel_rfl) ?_)
      | fail)
  refine (HCO.out _ (HG.out.below B2.out) (HT10.out.below B2.out)).mono ?_
  rintro e y3 ⟨rfl, hb⟩
  have B3 := Lib.hid (B2.out.trans (hb.mono (by first | exact hz2 | (simp; omega) | omega)))
  have hz3 : w.heap.size ≤ y3.heap.size := B3.out.size
  have RS3 : Hid (Row y3 w.heap.size 24 [.int .i64 t, .int .u64 d, .int .i64 o]) := Lib.hid (RS2.out.below hb (by first | exact hgS2 | (simp; omega) | omega))
  have hgS3 : w.heap.size < y3.heap.size := RS3.out.lt
  have RI3 : Hid (Row y3 (w.heap.size + 1) 26 C) := Lib.hid (RI2.out.below hb (by first | exact hgI2 | (simp; omega) | omega))
  have hgI3 : (w.heap.size + 1) < y3.heap.size := RI3.out.lt
  clear hb
  have cS3_0 := RS3.out.cell 0
  have cS3_1 := RS3.out.cell 1
  have cS3_2 := RS3.out.cell 2
  simp only [List.getElem?_cons_zero, List.getElem?_cons_succ] at cS3_0 cS3_1 cS3_2
  go_wp2_with (first
      | (refine wpList_load_row rfl 26 (.tmp 10) rfl (w.heap.size + 1) rfl 26 C.toArray (0, 0) _ RI3.out Tryz.underlying26 rfl (by rw [List.size_toArray, hCl]; kernel_rfl) ?_)
      | fail)
  refine (HRC.out _).mono ?_
  rintro e y4 ⟨rfl, hb⟩
  have B4 := Lib.hid (B3.out.trans (hb.mono (by first | exact hz3 | (simp; omega) | omega)))
  have hz4 : w.heap.size ≤ y4.heap.size := B4.out.size
  have RS4 : Hid (Row y4 w.heap.size 24 [.int .i64 t, .int .u64 d, .int .i64 o]) := Lib.hid (RS3.out.below hb (by first | exact hgS3 | (simp; omega) | omega))
  have hgS4 : w.heap.size < y4.heap.size := RS4.out.lt
  have RI4 : Hid (Row y4 (w.heap.size + 1) 26 C) := Lib.hid (RI3.out.below hb (by first | exact hgI3 | (simp; omega) | omega))
  have hgI4 : (w.heap.size + 1) < y4.heap.size := RI4.out.lt
  clear hb
  have cS4_0 := RS4.out.cell 0
  have cS4_1 := RS4.out.cell 1
  have cS4_2 := RS4.out.cell 2
  simp only [List.getElem?_cons_zero, List.getElem?_cons_succ] at cS4_0 cS4_1 cS4_2
  go_wp2_with fail
  refine (HE.out _).mono ?_
  rintro e y5 ⟨rfl, hb⟩
  have B5 := Lib.hid (B4.out.trans (hb.mono (by first | exact hz4 | (simp; omega) | omega)))
  have hz5 : w.heap.size ≤ y5.heap.size := B5.out.size
  have RS5 : Hid (Row y5 w.heap.size 24 [.int .i64 t, .int .u64 d, .int .i64 o]) := Lib.hid (RS4.out.below hb (by first | exact hgS4 | (simp; omega) | omega))
  have hgS5 : w.heap.size < y5.heap.size := RS5.out.lt
  have RI5 : Hid (Row y5 (w.heap.size + 1) 26 C) := Lib.hid (RI4.out.below hb (by first | exact hgI4 | (simp; omega) | omega))
  have hgI5 : (w.heap.size + 1) < y5.heap.size := RI5.out.lt
  clear hb
  have cS5_0 := RS5.out.cell 0
  have cS5_1 := RS5.out.cell 1
  have cS5_2 := RS5.out.cell 2
  simp only [List.getElem?_cons_zero, List.getElem?_cons_succ] at cS5_0 cS5_1 cS5_2
  go_wp2_with fail
  refine (HF.out _).mono ?_
  rintro e y6 ⟨rfl, hb⟩
  have B6 := Lib.hid ((B5.out.alloc (by first | exact hz5 | (simp; omega) | omega) (.cells ([.int .i64 X1, .int .u64 d, .int .i64 X2] : List Value).toArray 24)).trans (hb.mono (by first | exact hz5 | (simp; omega) | omega)))
  have hz6 : w.heap.size ≤ y6.heap.size := B6.out.size
  have RS6 : Hid (Row y6 w.heap.size 24 [.int .i64 t, .int .u64 d, .int .i64 o]) := Lib.hid ((RS5.out.alloc _).below hb (by first | exact hgS5 | (simp; omega) | omega))
  have hgS6 : w.heap.size < y6.heap.size := RS6.out.lt
  have RI6 : Hid (Row y6 (w.heap.size + 1) 26 C) := Lib.hid ((RI5.out.alloc _).below hb (by first | exact hgI5 | (simp; omega) | omega))
  have hgI6 : (w.heap.size + 1) < y6.heap.size := RI6.out.lt
  have RX6 : Hid (Row y6 y5.heap.size 24 [.int .i64 X1, .int .u64 d, .int .i64 X2]) := Lib.hid (by
    have h := Row.new y5 24 [.int .i64 X1, .int .u64 d, .int .i64 X2]
    exact h.below hb (by first | (simp; omega) | simp | omega))
  have hgX6 : y5.heap.size < y6.heap.size := RX6.out.lt
  clear hb
  have cS6_0 := RS6.out.cell 0
  have cS6_1 := RS6.out.cell 1
  have cS6_2 := RS6.out.cell 2
  simp only [List.getElem?_cons_zero, List.getElem?_cons_succ] at cS6_0 cS6_1 cS6_2
  go_wp2_with fail
  refine (HTK.out _).mono ?_
  rintro e y7 ⟨rfl, hb⟩
  have B7 := Lib.hid ((B6.out.alloc (by first | exact hz6 | (simp; omega) | omega) (.cells ([.int .i64 X1, .int .u64 d, .int .i64 X2] : List Value).toArray 32)).trans (hb.mono (by first | exact hz6 | (simp; omega) | omega)))
  have hz7 : w.heap.size ≤ y7.heap.size := B7.out.size
  have RS7 : Hid (Row y7 w.heap.size 24 [.int .i64 t, .int .u64 d, .int .i64 o]) := Lib.hid ((RS6.out.alloc _).below hb (by first | exact hgS6 | (simp; omega) | omega))
  have hgS7 : w.heap.size < y7.heap.size := RS7.out.lt
  have RI7 : Hid (Row y7 (w.heap.size + 1) 26 C) := Lib.hid ((RI6.out.alloc _).below hb (by first | exact hgI6 | (simp; omega) | omega))
  have hgI7 : (w.heap.size + 1) < y7.heap.size := RI7.out.lt
  have RX7 : Hid (Row y7 y5.heap.size 24 [.int .i64 X1, .int .u64 d, .int .i64 X2]) := Lib.hid ((RX6.out.alloc _).below hb (by first | exact hgX6 | (simp; omega) | omega))
  have hgX7 : y5.heap.size < y7.heap.size := RX7.out.lt
  have RY7 : Hid (Row y7 y6.heap.size 32 [.int .i64 X1, .int .u64 d, .int .i64 X2]) := Lib.hid (by
    have h := Row.new y6 32 [.int .i64 X1, .int .u64 d, .int .i64 X2]
    exact h.below hb (by first | (simp; omega) | simp | omega))
  have hgY7 : y6.heap.size < y7.heap.size := RY7.out.lt
  clear hb
  have cS7_0 := RS7.out.cell 0
  have cS7_1 := RS7.out.cell 1
  have cS7_2 := RS7.out.cell 2
  simp only [List.getElem?_cons_zero, List.getElem?_cons_succ] at cS7_0 cS7_1 cS7_2
  go_wp2_with fail
  refine (HCA.out _).mono ?_
  rintro e y8 ⟨rfl, hb⟩
  have B8 := Lib.hid ((B7.out.alloc (by first | exact hz7 | (simp; omega) | omega) (.cells ([.int .i64 t, .int .u64 d, .int .i64 o] : List Value).toArray 24)).trans (hb.mono (by first | exact hz7 | (simp; omega) | omega)))
  have hz8 : w.heap.size ≤ y8.heap.size := B8.out.size
  have RS8 : Hid (Row y8 w.heap.size 24 [.int .i64 t, .int .u64 d, .int .i64 o]) := Lib.hid ((RS7.out.alloc _).below hb (by first | exact hgS7 | (simp; omega) | omega))
  have hgS8 : w.heap.size < y8.heap.size := RS8.out.lt
  have RI8 : Hid (Row y8 (w.heap.size + 1) 26 C) := Lib.hid ((RI7.out.alloc _).below hb (by first | exact hgI7 | (simp; omega) | omega))
  have hgI8 : (w.heap.size + 1) < y8.heap.size := RI8.out.lt
  have RX8 : Hid (Row y8 y5.heap.size 24 [.int .i64 X1, .int .u64 d, .int .i64 X2]) := Lib.hid ((RX7.out.alloc _).below hb (by first | exact hgX7 | (simp; omega) | omega))
  have hgX8 : y5.heap.size < y8.heap.size := RX8.out.lt
  have RY8 : Hid (Row y8 y6.heap.size 32 [.int .i64 X1, .int .u64 d, .int .i64 X2]) := Lib.hid ((RY7.out.alloc _).below hb (by first | exact hgY7 | (simp; omega) | omega))
  have hgY8 : y6.heap.size < y8.heap.size := RY8.out.lt
  have RA8 : Hid (Row y8 y7.heap.size 24 [.int .i64 t, .int .u64 d, .int .i64 o]) := Lib.hid (by
    have h := Row.new y7 24 [.int .i64 t, .int .u64 d, .int .i64 o]
    exact h.below hb (by first | (simp; omega) | simp | omega))
  have hgA8 : y7.heap.size < y8.heap.size := RA8.out.lt
  clear hb
  have cS8_0 := RS8.out.cell 0
  have cS8_1 := RS8.out.cell 1
  have cS8_2 := RS8.out.cell 2
  simp only [List.getElem?_cons_zero, List.getElem?_cons_succ] at cS8_0 cS8_1 cS8_2
  have hv1 : w.heap.size < y8.heap.size + 1 := by omega
  have hv2 : w.heap.size < y8.heap.size + 1 + 1 := by omega
  have hv3 : w.heap.size < y8.heap.size + 2 := by omega
  have hv4 : w.heap.size < y8.heap.size + 1 + 1 + 1 := by omega
  go_wp2_with fail
  refine (HBE.out _).mono ?_
  rintro e y9 ⟨rfl, hb⟩
  have B9 := Lib.hid ((((B8.out.alloc (by first | exact hz8 | (simp; omega) | omega) (.cells ([.int .i64 t, .int .u64 d, .int .i64 o] : List Value).toArray 24)).alloc (by first | exact hz8 | (simp; omega) | omega) (.cells ([.int .i64 t, .int .u64 d, .int .i64 o] : List Value).toArray 24)).alloc (by first | exact hz8 | (simp; omega) | omega) (.cells ([.int .i64 t, .int .u64 d, .int .i64 o] : List Value).toArray 24)).trans (hb.mono (by first | exact hz8 | (simp; omega) | omega)))
  have hz9 : w.heap.size ≤ y9.heap.size := B9.out.size
  have RS9 : Hid (Row y9 w.heap.size 24 [.int .i64 t, .int .u64 d, .int .i64 o]) := Lib.hid ((((RS8.out.alloc _).alloc _).alloc _).below hb (by first | exact hgS8 | (simp; omega) | omega))
  have hgS9 : w.heap.size < y9.heap.size := RS9.out.lt
  have RI9 : Hid (Row y9 (w.heap.size + 1) 26 C) := Lib.hid ((((RI8.out.alloc _).alloc _).alloc _).below hb (by first | exact hgI8 | (simp; omega) | omega))
  have hgI9 : (w.heap.size + 1) < y9.heap.size := RI9.out.lt
  have RX9 : Hid (Row y9 y5.heap.size 24 [.int .i64 X1, .int .u64 d, .int .i64 X2]) := Lib.hid ((((RX8.out.alloc _).alloc _).alloc _).below hb (by first | exact hgX8 | (simp; omega) | omega))
  have hgX9 : y5.heap.size < y9.heap.size := RX9.out.lt
  have RY9 : Hid (Row y9 y6.heap.size 32 [.int .i64 X1, .int .u64 d, .int .i64 X2]) := Lib.hid ((((RY8.out.alloc _).alloc _).alloc _).below hb (by first | exact hgY8 | (simp; omega) | omega))
  have hgY9 : y6.heap.size < y9.heap.size := RY9.out.lt
  have RA9 : Hid (Row y9 y7.heap.size 24 [.int .i64 t, .int .u64 d, .int .i64 o]) := Lib.hid ((((RA8.out.alloc _).alloc _).alloc _).below hb (by first | exact hgA8 | (simp; omega) | omega))
  have hgA9 : y7.heap.size < y9.heap.size := RA9.out.lt
  have RZ9 : Hid (Row y9 y8.heap.size 24 [.int .i64 t, .int .u64 d, .int .i64 o]) := Lib.hid (by
    have h := Row.new y8 24 [.int .i64 t, .int .u64 d, .int .i64 o]
    exact ((h.alloc (.cells ([.int .i64 t, .int .u64 d, .int .i64 o] : List Value).toArray 24)).alloc (.cells ([.int .i64 t, .int .u64 d, .int .i64 o] : List Value).toArray 24)).below hb (by first | (simp; omega) | simp | omega))
  have hgZ9 : y8.heap.size < y9.heap.size := RZ9.out.lt
  have RV9 : Hid (Row y9 (y8.heap.size + 1) 24 [.int .i64 t, .int .u64 d, .int .i64 o]) := Lib.hid (by
    have h := Row.new (y8.alloc (.cells ([.int .i64 t, .int .u64 d, .int .i64 o] : List Value).toArray 24)) 24 [.int .i64 t, .int .u64 d, .int .i64 o]
    simp only [World.size_alloc, Nat.add_assoc, Nat.reduceAdd] at h
    exact (h.alloc (.cells ([.int .i64 t, .int .u64 d, .int .i64 o] : List Value).toArray 24)).below hb (by first | (simp; omega) | simp | omega))
  have hgV9 : (y8.heap.size + 1) < y9.heap.size := RV9.out.lt
  have RU9 : Hid (Row y9 (y8.heap.size + 2) 24 [.int .i64 t, .int .u64 d, .int .i64 o]) := Lib.hid (by
    have h := Row.new ((y8.alloc (.cells ([.int .i64 t, .int .u64 d, .int .i64 o] : List Value).toArray 24)).alloc (.cells ([.int .i64 t, .int .u64 d, .int .i64 o] : List Value).toArray 24)) 24 [.int .i64 t, .int .u64 d, .int .i64 o]
    simp only [World.size_alloc, Nat.add_assoc, Nat.reduceAdd] at h
    exact h.below hb (by first | (simp; omega) | simp | omega))
  have hgU9 : (y8.heap.size + 2) < y9.heap.size := RU9.out.lt
  clear hb
  have cS9_0 := RS9.out.cell 0
  have cS9_1 := RS9.out.cell 1
  have cS9_2 := RS9.out.cell 2
  simp only [List.getElem?_cons_zero, List.getElem?_cons_succ] at cS9_0 cS9_1 cS9_2
  have cX9_0 := RX9.out.cell 0
  have cX9_1 := RX9.out.cell 1
  have cX9_2 := RX9.out.cell 2
  simp only [List.getElem?_cons_zero, List.getElem?_cons_succ] at cX9_0 cX9_1 cX9_2
  have cY9_0 := RY9.out.cell 0
  have cY9_1 := RY9.out.cell 1
  have cY9_2 := RY9.out.cell 2
  simp only [List.getElem?_cons_zero, List.getElem?_cons_succ] at cY9_0 cY9_1 cY9_2
  have cA9_0 := RA9.out.cell 0
  have cA9_1 := RA9.out.cell 1
  have cA9_2 := RA9.out.cell 2
  simp only [List.getElem?_cons_zero, List.getElem?_cons_succ] at cA9_0 cA9_1 cA9_2
  have cZ9_0 := RZ9.out.cell 0
  have cZ9_1 := RZ9.out.cell 1
  have cZ9_2 := RZ9.out.cell 2
  simp only [List.getElem?_cons_zero, List.getElem?_cons_succ] at cZ9_0 cZ9_1 cZ9_2
  have cV9_0 := RV9.out.cell 0
  have cV9_1 := RV9.out.cell 1
  have cV9_2 := RV9.out.cell 2
  simp only [List.getElem?_cons_zero, List.getElem?_cons_succ] at cV9_0 cV9_1 cV9_2
  have cU9_0 := RU9.out.cell 0
  have cU9_1 := RU9.out.cell 1
  have cU9_2 := RU9.out.cell 2
  simp only [List.getElem?_cons_zero, List.getElem?_cons_succ] at cU9_0 cU9_1 cU9_2
  go_wp2_with fail
  go_ret
  exact ⟨rfl, (B9.out.alloc hz9 (.cells ([.int .i64 0, .int .u64 0, .int .i64 0] : List Value).toArray 24))⟩

set_option maxRecDepth 100000 in
set_option maxHeartbeats 4000000 in
theorem steps_overRhigh (t d o n k X1 X2 X3 m : Int) (key said c : ByteArray) (C : List Value) (hCl : C.length = 16) (w : World) (zN : Nat) (hzm : max key.size said.size = zN) (hz200 : ¬ (200 : Int) < (zN : Int))
    (HG : Hid (G w)) (HT10 : Hid (T10 w)) (ho : ¬ o = 0) (ho2 : (o == 0) = false) (hb1 : ¬ t < 1) (hb2 : 9 < t)
    (HA : Hid (∀ W : World, G W → Calls Tryz.prog 4 #[] W fun e w' => e = .returned (.bool true) ∧ Below W.heap.size W w'))
    (HSM : Hid (∀ W : World, Calls Tryz.prog 5 #[.agg #[.int .i64 t, .int .u64 d, .int .i64 o]] W fun e w' => e = .returned (.bool true) ∧ Below W.heap.size W w'))
    (HCO : Hid (∀ W : World, G W → T10 W → Calls Tryz.prog 6 #[.string key, .agg C.toArray] W fun e w' => e = .returned (.string c) ∧ Below W.heap.size W w'))
    (HRC : Hid (∀ W : World, Calls Tryz.prog 7 #[.string key, .agg C.toArray] W fun e w' => e = .returned (.string c) ∧ Below W.heap.size W w'))
    (HE : Hid (∀ W : World, Calls Tryz.prog 8 #[.agg #[.int .i64 t, .int .u64 d, .int .i64 o], .string c, .string c, .int .u64 n] W fun e w' => e = .returned (.tuple #[.agg #[.int .i64 X1, .int .u64 d, .int .i64 X2], .int .i64 X3]) ∧ Below W.heap.size W w'))
    (HF : Hid (∀ W : World, Calls Tryz.prog 9 #[.agg #[.int .i64 t, .int .u64 d, .int .i64 o], .string c, .string c, .int .u64 n] W fun e w' => e = .returned (.tuple #[.agg #[.int .i64 X1, .int .u64 d, .int .i64 X2], .int .i64 X3]) ∧ Below W.heap.size W w'))
    (HTK : Hid (∀ W : World, Calls Tryz.prog 10 #[.agg #[.int .i64 t, .int .u64 d, .int .i64 o], .int .u64 n] W fun e w' => e = .returned (.tuple #[.agg #[.int .i64 t, .int .u64 d, .int .i64 o], .bool false]) ∧ Below W.heap.size W w'))
    (HCA : Hid (∀ W : World, Calls Tryz.prog 11 #[.agg #[.int .i64 t, .int .u64 d, .int .i64 o], .int .u64 n] W fun e w' => e = .returned (.tuple #[.agg #[.int .i64 t, .int .u64 d, .int .i64 o], .bool false]) ∧ Below W.heap.size W w'))
    (HBE : Hid (∀ W : World, Calls Tryz.prog 12 #[.int .i64 t, .int .u64 n, .int .u64 k] W fun e w' => e = .returned (.tuple #[.agg #[.int .i64 0, .int .u64 0, .int .i64 0], .int .i64 7]) ∧ Below W.heap.size W w')) :
    Calls Tryz.prog 3 #[.agg #[.int .i64 t, .int .u64 d, .int .i64 o], .string key, .string said, .agg C.toArray, .int .u64 n, .int .u64 k, .bool true] w fun e w' => e = .returned (.bool true) ∧ Below w.heap.size w w' := by
  have hxl := fun ts T W => max2r (P := Tryz.prog) ts T key.size said.size W
  rw [hzm] at hxl
  have HQ1 := fun W => st_self X1 d X2 W
  have HQR := fun W => rst_self X1 d X2 W
  have HQ2 := fun W => st_self t d o W
  have HQ3 := fun W => st_self t d o W
  have HQ4 := fun W => st_selfN 0 0 0 W
  have rS : Row ((w.alloc (.cells ([.int .i64 t, .int .u64 d, .int .i64 o] : List Value).toArray 24)).alloc (.cells C.toArray 26)) w.heap.size 24 [.int .i64 t, .int .u64 d, .int .i64 o] := (Row.new w 24 [.int .i64 t, .int .u64 d, .int .i64 o]).alloc _
  have rI : Row ((w.alloc (.cells ([.int .i64 t, .int .u64 d, .int .i64 o] : List Value).toArray 24)).alloc (.cells C.toArray 26)) (w.heap.size + 1) 26 C := by
    have h := Row.new (w.alloc (.cells ([.int .i64 t, .int .u64 d, .int .i64 o] : List Value).toArray 24)) 26 C
    rwa [World.size_alloc] at h
  have b0 : Below w.heap.size w ((w.alloc (.cells ([.int .i64 t, .int .u64 d, .int .i64 o] : List Value).toArray 24)).alloc (.cells C.toArray 26)) := ((Below.refl _ _).alloc (Nat.le_refl _) _).alloc (by simp) _
  have hw0 : w.heap.size ≤ ((w.alloc (.cells ([.int .i64 t, .int .u64 d, .int .i64 o] : List Value).toArray 24)).alloc (.cells C.toArray 26)).heap.size := b0.size
  have hgS0 : w.heap.size < ((w.alloc (.cells ([.int .i64 t, .int .u64 d, .int .i64 o] : List Value).toArray 24)).alloc (.cells C.toArray 26)).heap.size := rS.lt
  have hgI0 : w.heap.size + 1 < ((w.alloc (.cells ([.int .i64 t, .int .u64 d, .int .i64 o] : List Value).toArray 24)).alloc (.cells C.toArray 26)).heap.size := rI.lt
  clear hzm
  go_enter Tryz.func3, Tryz.ntmps3
  go_wp2_with fail
  refine (HA.out _ (HG.out.below b0)).mono ?_
  rintro e y1 ⟨rfl, hb⟩
  have B1 := Lib.hid (b0.trans (hb.mono (by first | exact hw0 | (simp; omega) | omega)))
  have hz1 : w.heap.size ≤ y1.heap.size := B1.out.size
  have RS1 : Hid (Row y1 w.heap.size 24 [.int .i64 t, .int .u64 d, .int .i64 o]) := Lib.hid (rS.below hb (by first | exact hgS0 | (simp; omega) | omega))
  have hgS1 : w.heap.size < y1.heap.size := RS1.out.lt
  have RI1 : Hid (Row y1 (w.heap.size + 1) 26 C) := Lib.hid (rI.below hb (by first | exact hgI0 | (simp; omega) | omega))
  have hgI1 : (w.heap.size + 1) < y1.heap.size := RI1.out.lt
  clear hb
  have cS1_0 := RS1.out.cell 0
  have cS1_1 := RS1.out.cell 1
  have cS1_2 := RS1.out.cell 2
  simp only [List.getElem?_cons_zero, List.getElem?_cons_succ] at cS1_0 cS1_1 cS1_2
  go_wp2_with fail
  refine (HSM.out _).mono ?_
  rintro e y2 ⟨rfl, hb⟩
  have B2 := Lib.hid (B1.out.trans (hb.mono (by first | exact hz1 | (simp; omega) | omega)))
  have hz2 : w.heap.size ≤ y2.heap.size := B2.out.size
  have RS2 : Hid (Row y2 w.heap.size 24 [.int .i64 t, .int .u64 d, .int .i64 o]) := Lib.hid (RS1.out.below hb (by first | exact hgS1 | (simp; omega) | omega))
  have hgS2 : w.heap.size < y2.heap.size := RS2.out.lt
  have RI2 : Hid (Row y2 (w.heap.size + 1) 26 C) := Lib.hid (RI1.out.below hb (by first | exact hgI1 | (simp; omega) | omega))
  have hgI2 : (w.heap.size + 1) < y2.heap.size := RI2.out.lt
  clear hb
  have cS2_0 := RS2.out.cell 0
  have cS2_1 := RS2.out.cell 1
  have cS2_2 := RS2.out.cell 2
  simp only [List.getElem?_cons_zero, List.getElem?_cons_succ] at cS2_0 cS2_1 cS2_2
  go_wp2_with (first
      | (refine wpList_load_row rfl 26 (.tmp 10) rfl (w.heap.size + 1) rfl 26 C.toArray (0, 0) _ RI2.out Tryz.underlying26 rfl (by rw [List.size_toArray, hCl]; kernel_rfl) ?_)
      | fail)
  refine (HCO.out _ (HG.out.below B2.out) (HT10.out.below B2.out)).mono ?_
  rintro e y3 ⟨rfl, hb⟩
  have B3 := Lib.hid (B2.out.trans (hb.mono (by first | exact hz2 | (simp; omega) | omega)))
  have hz3 : w.heap.size ≤ y3.heap.size := B3.out.size
  have RS3 : Hid (Row y3 w.heap.size 24 [.int .i64 t, .int .u64 d, .int .i64 o]) := Lib.hid (RS2.out.below hb (by first | exact hgS2 | (simp; omega) | omega))
  have hgS3 : w.heap.size < y3.heap.size := RS3.out.lt
  have RI3 : Hid (Row y3 (w.heap.size + 1) 26 C) := Lib.hid (RI2.out.below hb (by first | exact hgI2 | (simp; omega) | omega))
  have hgI3 : (w.heap.size + 1) < y3.heap.size := RI3.out.lt
  clear hb
  have cS3_0 := RS3.out.cell 0
  have cS3_1 := RS3.out.cell 1
  have cS3_2 := RS3.out.cell 2
  simp only [List.getElem?_cons_zero, List.getElem?_cons_succ] at cS3_0 cS3_1 cS3_2
  go_wp2_with (first
      | (refine wpList_load_row rfl 26 (.tmp 10) rfl (w.heap.size + 1) rfl 26 C.toArray (0, 0) _ RI3.out Tryz.underlying26 rfl (by rw [List.size_toArray, hCl]; kernel_rfl) ?_)
      | fail)
  refine (HRC.out _).mono ?_
  rintro e y4 ⟨rfl, hb⟩
  have B4 := Lib.hid (B3.out.trans (hb.mono (by first | exact hz3 | (simp; omega) | omega)))
  have hz4 : w.heap.size ≤ y4.heap.size := B4.out.size
  have RS4 : Hid (Row y4 w.heap.size 24 [.int .i64 t, .int .u64 d, .int .i64 o]) := Lib.hid (RS3.out.below hb (by first | exact hgS3 | (simp; omega) | omega))
  have hgS4 : w.heap.size < y4.heap.size := RS4.out.lt
  have RI4 : Hid (Row y4 (w.heap.size + 1) 26 C) := Lib.hid (RI3.out.below hb (by first | exact hgI3 | (simp; omega) | omega))
  have hgI4 : (w.heap.size + 1) < y4.heap.size := RI4.out.lt
  clear hb
  have cS4_0 := RS4.out.cell 0
  have cS4_1 := RS4.out.cell 1
  have cS4_2 := RS4.out.cell 2
  simp only [List.getElem?_cons_zero, List.getElem?_cons_succ] at cS4_0 cS4_1 cS4_2
  go_wp2_with fail
  refine (HE.out _).mono ?_
  rintro e y5 ⟨rfl, hb⟩
  have B5 := Lib.hid (B4.out.trans (hb.mono (by first | exact hz4 | (simp; omega) | omega)))
  have hz5 : w.heap.size ≤ y5.heap.size := B5.out.size
  have RS5 : Hid (Row y5 w.heap.size 24 [.int .i64 t, .int .u64 d, .int .i64 o]) := Lib.hid (RS4.out.below hb (by first | exact hgS4 | (simp; omega) | omega))
  have hgS5 : w.heap.size < y5.heap.size := RS5.out.lt
  have RI5 : Hid (Row y5 (w.heap.size + 1) 26 C) := Lib.hid (RI4.out.below hb (by first | exact hgI4 | (simp; omega) | omega))
  have hgI5 : (w.heap.size + 1) < y5.heap.size := RI5.out.lt
  clear hb
  have cS5_0 := RS5.out.cell 0
  have cS5_1 := RS5.out.cell 1
  have cS5_2 := RS5.out.cell 2
  simp only [List.getElem?_cons_zero, List.getElem?_cons_succ] at cS5_0 cS5_1 cS5_2
  go_wp2_with fail
  refine (HF.out _).mono ?_
  rintro e y6 ⟨rfl, hb⟩
  have B6 := Lib.hid ((B5.out.alloc (by first | exact hz5 | (simp; omega) | omega) (.cells ([.int .i64 X1, .int .u64 d, .int .i64 X2] : List Value).toArray 24)).trans (hb.mono (by first | exact hz5 | (simp; omega) | omega)))
  have hz6 : w.heap.size ≤ y6.heap.size := B6.out.size
  have RS6 : Hid (Row y6 w.heap.size 24 [.int .i64 t, .int .u64 d, .int .i64 o]) := Lib.hid ((RS5.out.alloc _).below hb (by first | exact hgS5 | (simp; omega) | omega))
  have hgS6 : w.heap.size < y6.heap.size := RS6.out.lt
  have RI6 : Hid (Row y6 (w.heap.size + 1) 26 C) := Lib.hid ((RI5.out.alloc _).below hb (by first | exact hgI5 | (simp; omega) | omega))
  have hgI6 : (w.heap.size + 1) < y6.heap.size := RI6.out.lt
  have RX6 : Hid (Row y6 y5.heap.size 24 [.int .i64 X1, .int .u64 d, .int .i64 X2]) := Lib.hid (by
    have h := Row.new y5 24 [.int .i64 X1, .int .u64 d, .int .i64 X2]
    exact h.below hb (by first | (simp; omega) | simp | omega))
  have hgX6 : y5.heap.size < y6.heap.size := RX6.out.lt
  clear hb
  have cS6_0 := RS6.out.cell 0
  have cS6_1 := RS6.out.cell 1
  have cS6_2 := RS6.out.cell 2
  simp only [List.getElem?_cons_zero, List.getElem?_cons_succ] at cS6_0 cS6_1 cS6_2
  go_wp2_with fail
  refine (HTK.out _).mono ?_
  rintro e y7 ⟨rfl, hb⟩
  have B7 := Lib.hid ((B6.out.alloc (by first | exact hz6 | (simp; omega) | omega) (.cells ([.int .i64 X1, .int .u64 d, .int .i64 X2] : List Value).toArray 32)).trans (hb.mono (by first | exact hz6 | (simp; omega) | omega)))
  have hz7 : w.heap.size ≤ y7.heap.size := B7.out.size
  have RS7 : Hid (Row y7 w.heap.size 24 [.int .i64 t, .int .u64 d, .int .i64 o]) := Lib.hid ((RS6.out.alloc _).below hb (by first | exact hgS6 | (simp; omega) | omega))
  have hgS7 : w.heap.size < y7.heap.size := RS7.out.lt
  have RI7 : Hid (Row y7 (w.heap.size + 1) 26 C) := Lib.hid ((RI6.out.alloc _).below hb (by first | exact hgI6 | (simp; omega) | omega))
  have hgI7 : (w.heap.size + 1) < y7.heap.size := RI7.out.lt
  have RX7 : Hid (Row y7 y5.heap.size 24 [.int .i64 X1, .int .u64 d, .int .i64 X2]) := Lib.hid ((RX6.out.alloc _).below hb (by first | exact hgX6 | (simp; omega) | omega))
  have hgX7 : y5.heap.size < y7.heap.size := RX7.out.lt
  have RY7 : Hid (Row y7 y6.heap.size 32 [.int .i64 X1, .int .u64 d, .int .i64 X2]) := Lib.hid (by
    have h := Row.new y6 32 [.int .i64 X1, .int .u64 d, .int .i64 X2]
    exact h.below hb (by first | (simp; omega) | simp | omega))
  have hgY7 : y6.heap.size < y7.heap.size := RY7.out.lt
  clear hb
  have cS7_0 := RS7.out.cell 0
  have cS7_1 := RS7.out.cell 1
  have cS7_2 := RS7.out.cell 2
  simp only [List.getElem?_cons_zero, List.getElem?_cons_succ] at cS7_0 cS7_1 cS7_2
  go_wp2_with fail
  refine (HCA.out _).mono ?_
  rintro e y8 ⟨rfl, hb⟩
  have B8 := Lib.hid ((B7.out.alloc (by first | exact hz7 | (simp; omega) | omega) (.cells ([.int .i64 t, .int .u64 d, .int .i64 o] : List Value).toArray 24)).trans (hb.mono (by first | exact hz7 | (simp; omega) | omega)))
  have hz8 : w.heap.size ≤ y8.heap.size := B8.out.size
  have RS8 : Hid (Row y8 w.heap.size 24 [.int .i64 t, .int .u64 d, .int .i64 o]) := Lib.hid ((RS7.out.alloc _).below hb (by first | exact hgS7 | (simp; omega) | omega))
  have hgS8 : w.heap.size < y8.heap.size := RS8.out.lt
  have RI8 : Hid (Row y8 (w.heap.size + 1) 26 C) := Lib.hid ((RI7.out.alloc _).below hb (by first | exact hgI7 | (simp; omega) | omega))
  have hgI8 : (w.heap.size + 1) < y8.heap.size := RI8.out.lt
  have RX8 : Hid (Row y8 y5.heap.size 24 [.int .i64 X1, .int .u64 d, .int .i64 X2]) := Lib.hid ((RX7.out.alloc _).below hb (by first | exact hgX7 | (simp; omega) | omega))
  have hgX8 : y5.heap.size < y8.heap.size := RX8.out.lt
  have RY8 : Hid (Row y8 y6.heap.size 32 [.int .i64 X1, .int .u64 d, .int .i64 X2]) := Lib.hid ((RY7.out.alloc _).below hb (by first | exact hgY7 | (simp; omega) | omega))
  have hgY8 : y6.heap.size < y8.heap.size := RY8.out.lt
  have RA8 : Hid (Row y8 y7.heap.size 24 [.int .i64 t, .int .u64 d, .int .i64 o]) := Lib.hid (by
    have h := Row.new y7 24 [.int .i64 t, .int .u64 d, .int .i64 o]
    exact h.below hb (by first | (simp; omega) | simp | omega))
  have hgA8 : y7.heap.size < y8.heap.size := RA8.out.lt
  clear hb
  have cS8_0 := RS8.out.cell 0
  have cS8_1 := RS8.out.cell 1
  have cS8_2 := RS8.out.cell 2
  simp only [List.getElem?_cons_zero, List.getElem?_cons_succ] at cS8_0 cS8_1 cS8_2
  have hv1 : w.heap.size < y8.heap.size + 1 := by omega
  have hv2 : w.heap.size < y8.heap.size + 1 + 1 := by omega
  have hv3 : w.heap.size < y8.heap.size + 2 := by omega
  have hv4 : w.heap.size < y8.heap.size + 1 + 1 + 1 := by omega
  go_wp2_with fail
  refine (HBE.out _).mono ?_
  rintro e y9 ⟨rfl, hb⟩
  have B9 := Lib.hid ((((B8.out.alloc (by first | exact hz8 | (simp; omega) | omega) (.cells ([.int .i64 t, .int .u64 d, .int .i64 o] : List Value).toArray 24)).alloc (by first | exact hz8 | (simp; omega) | omega) (.cells ([.int .i64 t, .int .u64 d, .int .i64 o] : List Value).toArray 24)).alloc (by first | exact hz8 | (simp; omega) | omega) (.cells ([.int .i64 t, .int .u64 d, .int .i64 o] : List Value).toArray 24)).trans (hb.mono (by first | exact hz8 | (simp; omega) | omega)))
  have hz9 : w.heap.size ≤ y9.heap.size := B9.out.size
  have RS9 : Hid (Row y9 w.heap.size 24 [.int .i64 t, .int .u64 d, .int .i64 o]) := Lib.hid ((((RS8.out.alloc _).alloc _).alloc _).below hb (by first | exact hgS8 | (simp; omega) | omega))
  have hgS9 : w.heap.size < y9.heap.size := RS9.out.lt
  have RI9 : Hid (Row y9 (w.heap.size + 1) 26 C) := Lib.hid ((((RI8.out.alloc _).alloc _).alloc _).below hb (by first | exact hgI8 | (simp; omega) | omega))
  have hgI9 : (w.heap.size + 1) < y9.heap.size := RI9.out.lt
  have RX9 : Hid (Row y9 y5.heap.size 24 [.int .i64 X1, .int .u64 d, .int .i64 X2]) := Lib.hid ((((RX8.out.alloc _).alloc _).alloc _).below hb (by first | exact hgX8 | (simp; omega) | omega))
  have hgX9 : y5.heap.size < y9.heap.size := RX9.out.lt
  have RY9 : Hid (Row y9 y6.heap.size 32 [.int .i64 X1, .int .u64 d, .int .i64 X2]) := Lib.hid ((((RY8.out.alloc _).alloc _).alloc _).below hb (by first | exact hgY8 | (simp; omega) | omega))
  have hgY9 : y6.heap.size < y9.heap.size := RY9.out.lt
  have RA9 : Hid (Row y9 y7.heap.size 24 [.int .i64 t, .int .u64 d, .int .i64 o]) := Lib.hid ((((RA8.out.alloc _).alloc _).alloc _).below hb (by first | exact hgA8 | (simp; omega) | omega))
  have hgA9 : y7.heap.size < y9.heap.size := RA9.out.lt
  have RZ9 : Hid (Row y9 y8.heap.size 24 [.int .i64 t, .int .u64 d, .int .i64 o]) := Lib.hid (by
    have h := Row.new y8 24 [.int .i64 t, .int .u64 d, .int .i64 o]
    exact ((h.alloc (.cells ([.int .i64 t, .int .u64 d, .int .i64 o] : List Value).toArray 24)).alloc (.cells ([.int .i64 t, .int .u64 d, .int .i64 o] : List Value).toArray 24)).below hb (by first | (simp; omega) | simp | omega))
  have hgZ9 : y8.heap.size < y9.heap.size := RZ9.out.lt
  have RV9 : Hid (Row y9 (y8.heap.size + 1) 24 [.int .i64 t, .int .u64 d, .int .i64 o]) := Lib.hid (by
    have h := Row.new (y8.alloc (.cells ([.int .i64 t, .int .u64 d, .int .i64 o] : List Value).toArray 24)) 24 [.int .i64 t, .int .u64 d, .int .i64 o]
    simp only [World.size_alloc, Nat.add_assoc, Nat.reduceAdd] at h
    exact (h.alloc (.cells ([.int .i64 t, .int .u64 d, .int .i64 o] : List Value).toArray 24)).below hb (by first | (simp; omega) | simp | omega))
  have hgV9 : (y8.heap.size + 1) < y9.heap.size := RV9.out.lt
  have RU9 : Hid (Row y9 (y8.heap.size + 2) 24 [.int .i64 t, .int .u64 d, .int .i64 o]) := Lib.hid (by
    have h := Row.new ((y8.alloc (.cells ([.int .i64 t, .int .u64 d, .int .i64 o] : List Value).toArray 24)).alloc (.cells ([.int .i64 t, .int .u64 d, .int .i64 o] : List Value).toArray 24)) 24 [.int .i64 t, .int .u64 d, .int .i64 o]
    simp only [World.size_alloc, Nat.add_assoc, Nat.reduceAdd] at h
    exact h.below hb (by first | (simp; omega) | simp | omega))
  have hgU9 : (y8.heap.size + 2) < y9.heap.size := RU9.out.lt
  clear hb
  have cS9_0 := RS9.out.cell 0
  have cS9_1 := RS9.out.cell 1
  have cS9_2 := RS9.out.cell 2
  simp only [List.getElem?_cons_zero, List.getElem?_cons_succ] at cS9_0 cS9_1 cS9_2
  have cX9_0 := RX9.out.cell 0
  have cX9_1 := RX9.out.cell 1
  have cX9_2 := RX9.out.cell 2
  simp only [List.getElem?_cons_zero, List.getElem?_cons_succ] at cX9_0 cX9_1 cX9_2
  have cY9_0 := RY9.out.cell 0
  have cY9_1 := RY9.out.cell 1
  have cY9_2 := RY9.out.cell 2
  simp only [List.getElem?_cons_zero, List.getElem?_cons_succ] at cY9_0 cY9_1 cY9_2
  have cA9_0 := RA9.out.cell 0
  have cA9_1 := RA9.out.cell 1
  have cA9_2 := RA9.out.cell 2
  simp only [List.getElem?_cons_zero, List.getElem?_cons_succ] at cA9_0 cA9_1 cA9_2
  have cZ9_0 := RZ9.out.cell 0
  have cZ9_1 := RZ9.out.cell 1
  have cZ9_2 := RZ9.out.cell 2
  simp only [List.getElem?_cons_zero, List.getElem?_cons_succ] at cZ9_0 cZ9_1 cZ9_2
  have cV9_0 := RV9.out.cell 0
  have cV9_1 := RV9.out.cell 1
  have cV9_2 := RV9.out.cell 2
  simp only [List.getElem?_cons_zero, List.getElem?_cons_succ] at cV9_0 cV9_1 cV9_2
  have cU9_0 := RU9.out.cell 0
  have cU9_1 := RU9.out.cell 1
  have cU9_2 := RU9.out.cell 2
  simp only [List.getElem?_cons_zero, List.getElem?_cons_succ] at cU9_0 cU9_1 cU9_2
  go_wp2_with fail
  go_ret
  exact ⟨rfl, (B9.out.alloc hz9 (.cells ([.int .i64 0, .int .u64 0, .int .i64 0] : List Value).toArray 24))⟩

set_option maxRecDepth 100000 in
set_option maxHeartbeats 4000000 in
theorem steps_overRok (t d o n k X1 X2 X3 m : Int) (key said c : ByteArray) (C : List Value) (hCl : C.length = 16) (w : World) (zN : Nat) (hzm : max key.size said.size = zN) (hz200 : ¬ (200 : Int) < (zN : Int))
    (HG : Hid (G w)) (HT10 : Hid (T10 w)) (ho : ¬ o = 0) (ho2 : (o == 0) = false) (hb1 : ¬ t < 1) (hb2 : ¬ 9 < t)
    (HA : Hid (∀ W : World, G W → Calls Tryz.prog 4 #[] W fun e w' => e = .returned (.bool true) ∧ Below W.heap.size W w'))
    (HSM : Hid (∀ W : World, Calls Tryz.prog 5 #[.agg #[.int .i64 t, .int .u64 d, .int .i64 o]] W fun e w' => e = .returned (.bool true) ∧ Below W.heap.size W w'))
    (HCO : Hid (∀ W : World, G W → T10 W → Calls Tryz.prog 6 #[.string key, .agg C.toArray] W fun e w' => e = .returned (.string c) ∧ Below W.heap.size W w'))
    (HRC : Hid (∀ W : World, Calls Tryz.prog 7 #[.string key, .agg C.toArray] W fun e w' => e = .returned (.string c) ∧ Below W.heap.size W w'))
    (HE : Hid (∀ W : World, Calls Tryz.prog 8 #[.agg #[.int .i64 t, .int .u64 d, .int .i64 o], .string c, .string c, .int .u64 n] W fun e w' => e = .returned (.tuple #[.agg #[.int .i64 X1, .int .u64 d, .int .i64 X2], .int .i64 X3]) ∧ Below W.heap.size W w'))
    (HF : Hid (∀ W : World, Calls Tryz.prog 9 #[.agg #[.int .i64 t, .int .u64 d, .int .i64 o], .string c, .string c, .int .u64 n] W fun e w' => e = .returned (.tuple #[.agg #[.int .i64 X1, .int .u64 d, .int .i64 X2], .int .i64 X3]) ∧ Below W.heap.size W w'))
    (HTK : Hid (∀ W : World, Calls Tryz.prog 10 #[.agg #[.int .i64 t, .int .u64 d, .int .i64 o], .int .u64 n] W fun e w' => e = .returned (.tuple #[.agg #[.int .i64 t, .int .u64 d, .int .i64 o], .bool false]) ∧ Below W.heap.size W w'))
    (HCA : Hid (∀ W : World, Calls Tryz.prog 11 #[.agg #[.int .i64 t, .int .u64 d, .int .i64 o], .int .u64 n] W fun e w' => e = .returned (.tuple #[.agg #[.int .i64 t, .int .u64 d, .int .i64 o], .bool false]) ∧ Below W.heap.size W w'))
    (HBE : Hid (∀ W : World, Calls Tryz.prog 12 #[.int .i64 t, .int .u64 n, .int .u64 k] W fun e w' => e = .returned (.tuple #[.agg #[.int .i64 t, .int .u64 m, .int .i64 0], .int .i64 0]) ∧ Below W.heap.size W w'))
    (HLA : Hid (∀ W : World, Calls Tryz.prog 13 #[.int .u64 n, .int .u64 k] W fun e w' => e = .returned (.int .u64 m) ∧ W = w')) :
    Calls Tryz.prog 3 #[.agg #[.int .i64 t, .int .u64 d, .int .i64 o], .string key, .string said, .agg C.toArray, .int .u64 n, .int .u64 k, .bool true] w fun e w' => e = .returned (.bool true) ∧ Below w.heap.size w w' := by
  have hxl := fun ts T W => max2r (P := Tryz.prog) ts T key.size said.size W
  rw [hzm] at hxl
  have HQ1 := fun W => st_self X1 d X2 W
  have HQR := fun W => rst_self X1 d X2 W
  have HQ2 := fun W => st_self t d o W
  have HQ3 := fun W => st_self t d o W
  have HQ4 := fun W => st_selfN t m 0 W
  have rS : Row ((w.alloc (.cells ([.int .i64 t, .int .u64 d, .int .i64 o] : List Value).toArray 24)).alloc (.cells C.toArray 26)) w.heap.size 24 [.int .i64 t, .int .u64 d, .int .i64 o] := (Row.new w 24 [.int .i64 t, .int .u64 d, .int .i64 o]).alloc _
  have rI : Row ((w.alloc (.cells ([.int .i64 t, .int .u64 d, .int .i64 o] : List Value).toArray 24)).alloc (.cells C.toArray 26)) (w.heap.size + 1) 26 C := by
    have h := Row.new (w.alloc (.cells ([.int .i64 t, .int .u64 d, .int .i64 o] : List Value).toArray 24)) 26 C
    rwa [World.size_alloc] at h
  have b0 : Below w.heap.size w ((w.alloc (.cells ([.int .i64 t, .int .u64 d, .int .i64 o] : List Value).toArray 24)).alloc (.cells C.toArray 26)) := ((Below.refl _ _).alloc (Nat.le_refl _) _).alloc (by simp) _
  have hw0 : w.heap.size ≤ ((w.alloc (.cells ([.int .i64 t, .int .u64 d, .int .i64 o] : List Value).toArray 24)).alloc (.cells C.toArray 26)).heap.size := b0.size
  have hgS0 : w.heap.size < ((w.alloc (.cells ([.int .i64 t, .int .u64 d, .int .i64 o] : List Value).toArray 24)).alloc (.cells C.toArray 26)).heap.size := rS.lt
  have hgI0 : w.heap.size + 1 < ((w.alloc (.cells ([.int .i64 t, .int .u64 d, .int .i64 o] : List Value).toArray 24)).alloc (.cells C.toArray 26)).heap.size := rI.lt
  clear hzm
  go_enter Tryz.func3, Tryz.ntmps3
  go_wp2_with fail
  refine (HA.out _ (HG.out.below b0)).mono ?_
  rintro e y1 ⟨rfl, hb⟩
  have B1 := Lib.hid (b0.trans (hb.mono (by first | exact hw0 | (simp; omega) | omega)))
  have hz1 : w.heap.size ≤ y1.heap.size := B1.out.size
  have RS1 : Hid (Row y1 w.heap.size 24 [.int .i64 t, .int .u64 d, .int .i64 o]) := Lib.hid (rS.below hb (by first | exact hgS0 | (simp; omega) | omega))
  have hgS1 : w.heap.size < y1.heap.size := RS1.out.lt
  have RI1 : Hid (Row y1 (w.heap.size + 1) 26 C) := Lib.hid (rI.below hb (by first | exact hgI0 | (simp; omega) | omega))
  have hgI1 : (w.heap.size + 1) < y1.heap.size := RI1.out.lt
  clear hb
  have cS1_0 := RS1.out.cell 0
  have cS1_1 := RS1.out.cell 1
  have cS1_2 := RS1.out.cell 2
  simp only [List.getElem?_cons_zero, List.getElem?_cons_succ] at cS1_0 cS1_1 cS1_2
  go_wp2_with fail
  refine (HSM.out _).mono ?_
  rintro e y2 ⟨rfl, hb⟩
  have B2 := Lib.hid (B1.out.trans (hb.mono (by first | exact hz1 | (simp; omega) | omega)))
  have hz2 : w.heap.size ≤ y2.heap.size := B2.out.size
  have RS2 : Hid (Row y2 w.heap.size 24 [.int .i64 t, .int .u64 d, .int .i64 o]) := Lib.hid (RS1.out.below hb (by first | exact hgS1 | (simp; omega) | omega))
  have hgS2 : w.heap.size < y2.heap.size := RS2.out.lt
  have RI2 : Hid (Row y2 (w.heap.size + 1) 26 C) := Lib.hid (RI1.out.below hb (by first | exact hgI1 | (simp; omega) | omega))
  have hgI2 : (w.heap.size + 1) < y2.heap.size := RI2.out.lt
  clear hb
  have cS2_0 := RS2.out.cell 0
  have cS2_1 := RS2.out.cell 1
  have cS2_2 := RS2.out.cell 2
  simp only [List.getElem?_cons_zero, List.getElem?_cons_succ] at cS2_0 cS2_1 cS2_2
  go_wp2_with (first
      | (refine wpList_load_row rfl 26 (.tmp 10) rfl (w.heap.size + 1) rfl 26 C.toArray (0, 0) _ RI2.out Tryz.underlying26 rfl (by rw [List.size_toArray, hCl]; kernel_rfl) ?_)
      | fail)
  refine (HCO.out _ (HG.out.below B2.out) (HT10.out.below B2.out)).mono ?_
  rintro e y3 ⟨rfl, hb⟩
  have B3 := Lib.hid (B2.out.trans (hb.mono (by first | exact hz2 | (simp; omega) | omega)))
  have hz3 : w.heap.size ≤ y3.heap.size := B3.out.size
  have RS3 : Hid (Row y3 w.heap.size 24 [.int .i64 t, .int .u64 d, .int .i64 o]) := Lib.hid (RS2.out.below hb (by first | exact hgS2 | (simp; omega) | omega))
  have hgS3 : w.heap.size < y3.heap.size := RS3.out.lt
  have RI3 : Hid (Row y3 (w.heap.size + 1) 26 C) := Lib.hid (RI2.out.below hb (by first | exact hgI2 | (simp; omega) | omega))
  have hgI3 : (w.heap.size + 1) < y3.heap.size := RI3.out.lt
  clear hb
  have cS3_0 := RS3.out.cell 0
  have cS3_1 := RS3.out.cell 1
  have cS3_2 := RS3.out.cell 2
  simp only [List.getElem?_cons_zero, List.getElem?_cons_succ] at cS3_0 cS3_1 cS3_2
  go_wp2_with (first
      | (refine wpList_load_row rfl 26 (.tmp 10) rfl (w.heap.size + 1) rfl 26 C.toArray (0, 0) _ RI3.out Tryz.underlying26 rfl (by rw [List.size_toArray, hCl]; kernel_rfl) ?_)
      | fail)
  refine (HRC.out _).mono ?_
  rintro e y4 ⟨rfl, hb⟩
  have B4 := Lib.hid (B3.out.trans (hb.mono (by first | exact hz3 | (simp; omega) | omega)))
  have hz4 : w.heap.size ≤ y4.heap.size := B4.out.size
  have RS4 : Hid (Row y4 w.heap.size 24 [.int .i64 t, .int .u64 d, .int .i64 o]) := Lib.hid (RS3.out.below hb (by first | exact hgS3 | (simp; omega) | omega))
  have hgS4 : w.heap.size < y4.heap.size := RS4.out.lt
  have RI4 : Hid (Row y4 (w.heap.size + 1) 26 C) := Lib.hid (RI3.out.below hb (by first | exact hgI3 | (simp; omega) | omega))
  have hgI4 : (w.heap.size + 1) < y4.heap.size := RI4.out.lt
  clear hb
  have cS4_0 := RS4.out.cell 0
  have cS4_1 := RS4.out.cell 1
  have cS4_2 := RS4.out.cell 2
  simp only [List.getElem?_cons_zero, List.getElem?_cons_succ] at cS4_0 cS4_1 cS4_2
  go_wp2_with fail
  refine (HE.out _).mono ?_
  rintro e y5 ⟨rfl, hb⟩
  have B5 := Lib.hid (B4.out.trans (hb.mono (by first | exact hz4 | (simp; omega) | omega)))
  have hz5 : w.heap.size ≤ y5.heap.size := B5.out.size
  have RS5 : Hid (Row y5 w.heap.size 24 [.int .i64 t, .int .u64 d, .int .i64 o]) := Lib.hid (RS4.out.below hb (by first | exact hgS4 | (simp; omega) | omega))
  have hgS5 : w.heap.size < y5.heap.size := RS5.out.lt
  have RI5 : Hid (Row y5 (w.heap.size + 1) 26 C) := Lib.hid (RI4.out.below hb (by first | exact hgI4 | (simp; omega) | omega))
  have hgI5 : (w.heap.size + 1) < y5.heap.size := RI5.out.lt
  clear hb
  have cS5_0 := RS5.out.cell 0
  have cS5_1 := RS5.out.cell 1
  have cS5_2 := RS5.out.cell 2
  simp only [List.getElem?_cons_zero, List.getElem?_cons_succ] at cS5_0 cS5_1 cS5_2
  go_wp2_with fail
  refine (HF.out _).mono ?_
  rintro e y6 ⟨rfl, hb⟩
  have B6 := Lib.hid ((B5.out.alloc (by first | exact hz5 | (simp; omega) | omega) (.cells ([.int .i64 X1, .int .u64 d, .int .i64 X2] : List Value).toArray 24)).trans (hb.mono (by first | exact hz5 | (simp; omega) | omega)))
  have hz6 : w.heap.size ≤ y6.heap.size := B6.out.size
  have RS6 : Hid (Row y6 w.heap.size 24 [.int .i64 t, .int .u64 d, .int .i64 o]) := Lib.hid ((RS5.out.alloc _).below hb (by first | exact hgS5 | (simp; omega) | omega))
  have hgS6 : w.heap.size < y6.heap.size := RS6.out.lt
  have RI6 : Hid (Row y6 (w.heap.size + 1) 26 C) := Lib.hid ((RI5.out.alloc _).below hb (by first | exact hgI5 | (simp; omega) | omega))
  have hgI6 : (w.heap.size + 1) < y6.heap.size := RI6.out.lt
  have RX6 : Hid (Row y6 y5.heap.size 24 [.int .i64 X1, .int .u64 d, .int .i64 X2]) := Lib.hid (by
    have h := Row.new y5 24 [.int .i64 X1, .int .u64 d, .int .i64 X2]
    exact h.below hb (by first | (simp; omega) | simp | omega))
  have hgX6 : y5.heap.size < y6.heap.size := RX6.out.lt
  clear hb
  have cS6_0 := RS6.out.cell 0
  have cS6_1 := RS6.out.cell 1
  have cS6_2 := RS6.out.cell 2
  simp only [List.getElem?_cons_zero, List.getElem?_cons_succ] at cS6_0 cS6_1 cS6_2
  go_wp2_with fail
  refine (HTK.out _).mono ?_
  rintro e y7 ⟨rfl, hb⟩
  have B7 := Lib.hid ((B6.out.alloc (by first | exact hz6 | (simp; omega) | omega) (.cells ([.int .i64 X1, .int .u64 d, .int .i64 X2] : List Value).toArray 32)).trans (hb.mono (by first | exact hz6 | (simp; omega) | omega)))
  have hz7 : w.heap.size ≤ y7.heap.size := B7.out.size
  have RS7 : Hid (Row y7 w.heap.size 24 [.int .i64 t, .int .u64 d, .int .i64 o]) := Lib.hid ((RS6.out.alloc _).below hb (by first | exact hgS6 | (simp; omega) | omega))
  have hgS7 : w.heap.size < y7.heap.size := RS7.out.lt
  have RI7 : Hid (Row y7 (w.heap.size + 1) 26 C) := Lib.hid ((RI6.out.alloc _).below hb (by first | exact hgI6 | (simp; omega) | omega))
  have hgI7 : (w.heap.size + 1) < y7.heap.size := RI7.out.lt
  have RX7 : Hid (Row y7 y5.heap.size 24 [.int .i64 X1, .int .u64 d, .int .i64 X2]) := Lib.hid ((RX6.out.alloc _).below hb (by first | exact hgX6 | (simp; omega) | omega))
  have hgX7 : y5.heap.size < y7.heap.size := RX7.out.lt
  have RY7 : Hid (Row y7 y6.heap.size 32 [.int .i64 X1, .int .u64 d, .int .i64 X2]) := Lib.hid (by
    have h := Row.new y6 32 [.int .i64 X1, .int .u64 d, .int .i64 X2]
    exact h.below hb (by first | (simp; omega) | simp | omega))
  have hgY7 : y6.heap.size < y7.heap.size := RY7.out.lt
  clear hb
  have cS7_0 := RS7.out.cell 0
  have cS7_1 := RS7.out.cell 1
  have cS7_2 := RS7.out.cell 2
  simp only [List.getElem?_cons_zero, List.getElem?_cons_succ] at cS7_0 cS7_1 cS7_2
  go_wp2_with fail
  refine (HCA.out _).mono ?_
  rintro e y8 ⟨rfl, hb⟩
  have B8 := Lib.hid ((B7.out.alloc (by first | exact hz7 | (simp; omega) | omega) (.cells ([.int .i64 t, .int .u64 d, .int .i64 o] : List Value).toArray 24)).trans (hb.mono (by first | exact hz7 | (simp; omega) | omega)))
  have hz8 : w.heap.size ≤ y8.heap.size := B8.out.size
  have RS8 : Hid (Row y8 w.heap.size 24 [.int .i64 t, .int .u64 d, .int .i64 o]) := Lib.hid ((RS7.out.alloc _).below hb (by first | exact hgS7 | (simp; omega) | omega))
  have hgS8 : w.heap.size < y8.heap.size := RS8.out.lt
  have RI8 : Hid (Row y8 (w.heap.size + 1) 26 C) := Lib.hid ((RI7.out.alloc _).below hb (by first | exact hgI7 | (simp; omega) | omega))
  have hgI8 : (w.heap.size + 1) < y8.heap.size := RI8.out.lt
  have RX8 : Hid (Row y8 y5.heap.size 24 [.int .i64 X1, .int .u64 d, .int .i64 X2]) := Lib.hid ((RX7.out.alloc _).below hb (by first | exact hgX7 | (simp; omega) | omega))
  have hgX8 : y5.heap.size < y8.heap.size := RX8.out.lt
  have RY8 : Hid (Row y8 y6.heap.size 32 [.int .i64 X1, .int .u64 d, .int .i64 X2]) := Lib.hid ((RY7.out.alloc _).below hb (by first | exact hgY7 | (simp; omega) | omega))
  have hgY8 : y6.heap.size < y8.heap.size := RY8.out.lt
  have RA8 : Hid (Row y8 y7.heap.size 24 [.int .i64 t, .int .u64 d, .int .i64 o]) := Lib.hid (by
    have h := Row.new y7 24 [.int .i64 t, .int .u64 d, .int .i64 o]
    exact h.below hb (by first | (simp; omega) | simp | omega))
  have hgA8 : y7.heap.size < y8.heap.size := RA8.out.lt
  clear hb
  have cS8_0 := RS8.out.cell 0
  have cS8_1 := RS8.out.cell 1
  have cS8_2 := RS8.out.cell 2
  simp only [List.getElem?_cons_zero, List.getElem?_cons_succ] at cS8_0 cS8_1 cS8_2
  have hv1 : w.heap.size < y8.heap.size + 1 := by omega
  have hv2 : w.heap.size < y8.heap.size + 1 + 1 := by omega
  have hv3 : w.heap.size < y8.heap.size + 2 := by omega
  have hv4 : w.heap.size < y8.heap.size + 1 + 1 + 1 := by omega
  go_wp2_with fail
  refine (HBE.out _).mono ?_
  rintro e y9 ⟨rfl, hb⟩
  have B9 := Lib.hid ((((B8.out.alloc (by first | exact hz8 | (simp; omega) | omega) (.cells ([.int .i64 t, .int .u64 d, .int .i64 o] : List Value).toArray 24)).alloc (by first | exact hz8 | (simp; omega) | omega) (.cells ([.int .i64 t, .int .u64 d, .int .i64 o] : List Value).toArray 24)).alloc (by first | exact hz8 | (simp; omega) | omega) (.cells ([.int .i64 t, .int .u64 d, .int .i64 o] : List Value).toArray 24)).trans (hb.mono (by first | exact hz8 | (simp; omega) | omega)))
  have hz9 : w.heap.size ≤ y9.heap.size := B9.out.size
  have RS9 : Hid (Row y9 w.heap.size 24 [.int .i64 t, .int .u64 d, .int .i64 o]) := Lib.hid ((((RS8.out.alloc _).alloc _).alloc _).below hb (by first | exact hgS8 | (simp; omega) | omega))
  have hgS9 : w.heap.size < y9.heap.size := RS9.out.lt
  have RI9 : Hid (Row y9 (w.heap.size + 1) 26 C) := Lib.hid ((((RI8.out.alloc _).alloc _).alloc _).below hb (by first | exact hgI8 | (simp; omega) | omega))
  have hgI9 : (w.heap.size + 1) < y9.heap.size := RI9.out.lt
  have RX9 : Hid (Row y9 y5.heap.size 24 [.int .i64 X1, .int .u64 d, .int .i64 X2]) := Lib.hid ((((RX8.out.alloc _).alloc _).alloc _).below hb (by first | exact hgX8 | (simp; omega) | omega))
  have hgX9 : y5.heap.size < y9.heap.size := RX9.out.lt
  have RY9 : Hid (Row y9 y6.heap.size 32 [.int .i64 X1, .int .u64 d, .int .i64 X2]) := Lib.hid ((((RY8.out.alloc _).alloc _).alloc _).below hb (by first | exact hgY8 | (simp; omega) | omega))
  have hgY9 : y6.heap.size < y9.heap.size := RY9.out.lt
  have RA9 : Hid (Row y9 y7.heap.size 24 [.int .i64 t, .int .u64 d, .int .i64 o]) := Lib.hid ((((RA8.out.alloc _).alloc _).alloc _).below hb (by first | exact hgA8 | (simp; omega) | omega))
  have hgA9 : y7.heap.size < y9.heap.size := RA9.out.lt
  have RZ9 : Hid (Row y9 y8.heap.size 24 [.int .i64 t, .int .u64 d, .int .i64 o]) := Lib.hid (by
    have h := Row.new y8 24 [.int .i64 t, .int .u64 d, .int .i64 o]
    exact ((h.alloc (.cells ([.int .i64 t, .int .u64 d, .int .i64 o] : List Value).toArray 24)).alloc (.cells ([.int .i64 t, .int .u64 d, .int .i64 o] : List Value).toArray 24)).below hb (by first | (simp; omega) | simp | omega))
  have hgZ9 : y8.heap.size < y9.heap.size := RZ9.out.lt
  have RV9 : Hid (Row y9 (y8.heap.size + 1) 24 [.int .i64 t, .int .u64 d, .int .i64 o]) := Lib.hid (by
    have h := Row.new (y8.alloc (.cells ([.int .i64 t, .int .u64 d, .int .i64 o] : List Value).toArray 24)) 24 [.int .i64 t, .int .u64 d, .int .i64 o]
    simp only [World.size_alloc, Nat.add_assoc, Nat.reduceAdd] at h
    exact (h.alloc (.cells ([.int .i64 t, .int .u64 d, .int .i64 o] : List Value).toArray 24)).below hb (by first | (simp; omega) | simp | omega))
  have hgV9 : (y8.heap.size + 1) < y9.heap.size := RV9.out.lt
  have RU9 : Hid (Row y9 (y8.heap.size + 2) 24 [.int .i64 t, .int .u64 d, .int .i64 o]) := Lib.hid (by
    have h := Row.new ((y8.alloc (.cells ([.int .i64 t, .int .u64 d, .int .i64 o] : List Value).toArray 24)).alloc (.cells ([.int .i64 t, .int .u64 d, .int .i64 o] : List Value).toArray 24)) 24 [.int .i64 t, .int .u64 d, .int .i64 o]
    simp only [World.size_alloc, Nat.add_assoc, Nat.reduceAdd] at h
    exact h.below hb (by first | (simp; omega) | simp | omega))
  have hgU9 : (y8.heap.size + 2) < y9.heap.size := RU9.out.lt
  clear hb
  have cS9_0 := RS9.out.cell 0
  have cS9_1 := RS9.out.cell 1
  have cS9_2 := RS9.out.cell 2
  simp only [List.getElem?_cons_zero, List.getElem?_cons_succ] at cS9_0 cS9_1 cS9_2
  have cX9_0 := RX9.out.cell 0
  have cX9_1 := RX9.out.cell 1
  have cX9_2 := RX9.out.cell 2
  simp only [List.getElem?_cons_zero, List.getElem?_cons_succ] at cX9_0 cX9_1 cX9_2
  have cY9_0 := RY9.out.cell 0
  have cY9_1 := RY9.out.cell 1
  have cY9_2 := RY9.out.cell 2
  simp only [List.getElem?_cons_zero, List.getElem?_cons_succ] at cY9_0 cY9_1 cY9_2
  have cA9_0 := RA9.out.cell 0
  have cA9_1 := RA9.out.cell 1
  have cA9_2 := RA9.out.cell 2
  simp only [List.getElem?_cons_zero, List.getElem?_cons_succ] at cA9_0 cA9_1 cA9_2
  have cZ9_0 := RZ9.out.cell 0
  have cZ9_1 := RZ9.out.cell 1
  have cZ9_2 := RZ9.out.cell 2
  simp only [List.getElem?_cons_zero, List.getElem?_cons_succ] at cZ9_0 cZ9_1 cZ9_2
  have cV9_0 := RV9.out.cell 0
  have cV9_1 := RV9.out.cell 1
  have cV9_2 := RV9.out.cell 2
  simp only [List.getElem?_cons_zero, List.getElem?_cons_succ] at cV9_0 cV9_1 cV9_2
  have cU9_0 := RU9.out.cell 0
  have cU9_1 := RU9.out.cell 1
  have cU9_2 := RU9.out.cell 2
  simp only [List.getElem?_cons_zero, List.getElem?_cons_succ] at cU9_0 cU9_1 cU9_2
  go_wp2_with fail
  go_quiet ((go_at_call 13; exact Calls.quiet_of_same ((HLA.out _).mono fun _ _ hh => ⟨hh.1, hh.2.symm⟩)))
  go_wp2_with fail
  go_ret
  exact ⟨rfl, below_drewN_o (B9.out.alloc hz9 (.cells ([.int .i64 t, .int .u64 m, .int .i64 0] : List Value).toArray 24)) _⟩

set_option maxRecDepth 100000 in
set_option maxHeartbeats 4000000 in
theorem steps_overWlow (t d o n k X1 X2 X3 m : Int) (key said c : ByteArray) (C : List Value) (hCl : C.length = 16) (w : World) (zN : Nat) (hzm : max key.size said.size = zN) (hz200 : ¬ (200 : Int) < (zN : Int))
    (HG : Hid (G w)) (HT10 : Hid (T10 w)) (ho : ¬ o = 0) (ho2 : (o == 0) = false) (hb1 : t < 1)
    (HA : Hid (∀ W : World, G W → Calls Tryz.prog 4 #[] W fun e w' => e = .returned (.bool true) ∧ Below W.heap.size W w'))
    (HSM : Hid (∀ W : World, Calls Tryz.prog 5 #[.agg #[.int .i64 t, .int .u64 d, .int .i64 o]] W fun e w' => e = .returned (.bool true) ∧ Below W.heap.size W w'))
    (HCO : Hid (∀ W : World, G W → T10 W → Calls Tryz.prog 6 #[.string key, .agg C.toArray] W fun e w' => e = .returned (.string c) ∧ Below W.heap.size W w'))
    (HRC : Hid (∀ W : World, Calls Tryz.prog 7 #[.string key, .agg C.toArray] W fun e w' => e = .returned (.string c) ∧ Below W.heap.size W w'))
    (HE : Hid (∀ W : World, Calls Tryz.prog 8 #[.agg #[.int .i64 t, .int .u64 d, .int .i64 o], .string c, .string said, .int .u64 n] W fun e w' => e = .returned (.tuple #[.agg #[.int .i64 X1, .int .u64 d, .int .i64 X2], .int .i64 X3]) ∧ Below W.heap.size W w'))
    (HF : Hid (∀ W : World, Calls Tryz.prog 9 #[.agg #[.int .i64 t, .int .u64 d, .int .i64 o], .string c, .string said, .int .u64 n] W fun e w' => e = .returned (.tuple #[.agg #[.int .i64 X1, .int .u64 d, .int .i64 X2], .int .i64 X3]) ∧ Below W.heap.size W w'))
    (HTK : Hid (∀ W : World, Calls Tryz.prog 10 #[.agg #[.int .i64 t, .int .u64 d, .int .i64 o], .int .u64 n] W fun e w' => e = .returned (.tuple #[.agg #[.int .i64 t, .int .u64 d, .int .i64 o], .bool false]) ∧ Below W.heap.size W w'))
    (HCA : Hid (∀ W : World, Calls Tryz.prog 11 #[.agg #[.int .i64 t, .int .u64 d, .int .i64 o], .int .u64 n] W fun e w' => e = .returned (.tuple #[.agg #[.int .i64 t, .int .u64 d, .int .i64 o], .bool false]) ∧ Below W.heap.size W w'))
    (HBE : Hid (∀ W : World, Calls Tryz.prog 12 #[.int .i64 t, .int .u64 n, .int .u64 k] W fun e w' => e = .returned (.tuple #[.agg #[.int .i64 0, .int .u64 0, .int .i64 0], .int .i64 7]) ∧ Below W.heap.size W w')) :
    Calls Tryz.prog 3 #[.agg #[.int .i64 t, .int .u64 d, .int .i64 o], .string key, .string said, .agg C.toArray, .int .u64 n, .int .u64 k, .bool false] w fun e w' => e = .returned (.bool true) ∧ Below w.heap.size w w' := by
  have hxl := fun ts T W => max2r (P := Tryz.prog) ts T key.size said.size W
  rw [hzm] at hxl
  have HQ1 := fun W => st_self X1 d X2 W
  have HQR := fun W => rst_self X1 d X2 W
  have HQ2 := fun W => st_self t d o W
  have HQ3 := fun W => st_self t d o W
  have HQ4 := fun W => st_selfN 0 0 0 W
  have rS : Row ((w.alloc (.cells ([.int .i64 t, .int .u64 d, .int .i64 o] : List Value).toArray 24)).alloc (.cells C.toArray 26)) w.heap.size 24 [.int .i64 t, .int .u64 d, .int .i64 o] := (Row.new w 24 [.int .i64 t, .int .u64 d, .int .i64 o]).alloc _
  have rI : Row ((w.alloc (.cells ([.int .i64 t, .int .u64 d, .int .i64 o] : List Value).toArray 24)).alloc (.cells C.toArray 26)) (w.heap.size + 1) 26 C := by
    have h := Row.new (w.alloc (.cells ([.int .i64 t, .int .u64 d, .int .i64 o] : List Value).toArray 24)) 26 C
    rwa [World.size_alloc] at h
  have b0 : Below w.heap.size w ((w.alloc (.cells ([.int .i64 t, .int .u64 d, .int .i64 o] : List Value).toArray 24)).alloc (.cells C.toArray 26)) := ((Below.refl _ _).alloc (Nat.le_refl _) _).alloc (by simp) _
  have hw0 : w.heap.size ≤ ((w.alloc (.cells ([.int .i64 t, .int .u64 d, .int .i64 o] : List Value).toArray 24)).alloc (.cells C.toArray 26)).heap.size := b0.size
  have hgS0 : w.heap.size < ((w.alloc (.cells ([.int .i64 t, .int .u64 d, .int .i64 o] : List Value).toArray 24)).alloc (.cells C.toArray 26)).heap.size := rS.lt
  have hgI0 : w.heap.size + 1 < ((w.alloc (.cells ([.int .i64 t, .int .u64 d, .int .i64 o] : List Value).toArray 24)).alloc (.cells C.toArray 26)).heap.size := rI.lt
  clear hzm
  go_enter Tryz.func3, Tryz.ntmps3
  go_wp2_with fail
  refine (HA.out _ (HG.out.below b0)).mono ?_
  rintro e y1 ⟨rfl, hb⟩
  have B1 := Lib.hid (b0.trans (hb.mono (by first | exact hw0 | (simp; omega) | omega)))
  have hz1 : w.heap.size ≤ y1.heap.size := B1.out.size
  have RS1 : Hid (Row y1 w.heap.size 24 [.int .i64 t, .int .u64 d, .int .i64 o]) := Lib.hid (rS.below hb (by first | exact hgS0 | (simp; omega) | omega))
  have hgS1 : w.heap.size < y1.heap.size := RS1.out.lt
  have RI1 : Hid (Row y1 (w.heap.size + 1) 26 C) := Lib.hid (rI.below hb (by first | exact hgI0 | (simp; omega) | omega))
  have hgI1 : (w.heap.size + 1) < y1.heap.size := RI1.out.lt
  clear hb
  have cS1_0 := RS1.out.cell 0
  have cS1_1 := RS1.out.cell 1
  have cS1_2 := RS1.out.cell 2
  simp only [List.getElem?_cons_zero, List.getElem?_cons_succ] at cS1_0 cS1_1 cS1_2
  go_wp2_with fail
  refine (HSM.out _).mono ?_
  rintro e y2 ⟨rfl, hb⟩
  have B2 := Lib.hid (B1.out.trans (hb.mono (by first | exact hz1 | (simp; omega) | omega)))
  have hz2 : w.heap.size ≤ y2.heap.size := B2.out.size
  have RS2 : Hid (Row y2 w.heap.size 24 [.int .i64 t, .int .u64 d, .int .i64 o]) := Lib.hid (RS1.out.below hb (by first | exact hgS1 | (simp; omega) | omega))
  have hgS2 : w.heap.size < y2.heap.size := RS2.out.lt
  have RI2 : Hid (Row y2 (w.heap.size + 1) 26 C) := Lib.hid (RI1.out.below hb (by first | exact hgI1 | (simp; omega) | omega))
  have hgI2 : (w.heap.size + 1) < y2.heap.size := RI2.out.lt
  clear hb
  have cS2_0 := RS2.out.cell 0
  have cS2_1 := RS2.out.cell 1
  have cS2_2 := RS2.out.cell 2
  simp only [List.getElem?_cons_zero, List.getElem?_cons_succ] at cS2_0 cS2_1 cS2_2
  go_wp2_with (first
      | (refine wpList_load_row rfl 26 (.tmp 10) rfl (w.heap.size + 1) rfl 26 C.toArray (0, 0) _ RI2.out Tryz.underlying26 rfl (by rw [List.size_toArray, hCl]; kernel_rfl) ?_)
      | fail)
  refine (HCO.out _ (HG.out.below B2.out) (HT10.out.below B2.out)).mono ?_
  rintro e y3 ⟨rfl, hb⟩
  have B3 := Lib.hid (B2.out.trans (hb.mono (by first | exact hz2 | (simp; omega) | omega)))
  have hz3 : w.heap.size ≤ y3.heap.size := B3.out.size
  have RS3 : Hid (Row y3 w.heap.size 24 [.int .i64 t, .int .u64 d, .int .i64 o]) := Lib.hid (RS2.out.below hb (by first | exact hgS2 | (simp; omega) | omega))
  have hgS3 : w.heap.size < y3.heap.size := RS3.out.lt
  have RI3 : Hid (Row y3 (w.heap.size + 1) 26 C) := Lib.hid (RI2.out.below hb (by first | exact hgI2 | (simp; omega) | omega))
  have hgI3 : (w.heap.size + 1) < y3.heap.size := RI3.out.lt
  clear hb
  have cS3_0 := RS3.out.cell 0
  have cS3_1 := RS3.out.cell 1
  have cS3_2 := RS3.out.cell 2
  simp only [List.getElem?_cons_zero, List.getElem?_cons_succ] at cS3_0 cS3_1 cS3_2
  go_wp2_with (first
      | (refine wpList_load_row rfl 26 (.tmp 10) rfl (w.heap.size + 1) rfl 26 C.toArray (0, 0) _ RI3.out Tryz.underlying26 rfl (by rw [List.size_toArray, hCl]; kernel_rfl) ?_)
      | fail)
  refine (HRC.out _).mono ?_
  rintro e y4 ⟨rfl, hb⟩
  have B4 := Lib.hid (B3.out.trans (hb.mono (by first | exact hz3 | (simp; omega) | omega)))
  have hz4 : w.heap.size ≤ y4.heap.size := B4.out.size
  have RS4 : Hid (Row y4 w.heap.size 24 [.int .i64 t, .int .u64 d, .int .i64 o]) := Lib.hid (RS3.out.below hb (by first | exact hgS3 | (simp; omega) | omega))
  have hgS4 : w.heap.size < y4.heap.size := RS4.out.lt
  have RI4 : Hid (Row y4 (w.heap.size + 1) 26 C) := Lib.hid (RI3.out.below hb (by first | exact hgI3 | (simp; omega) | omega))
  have hgI4 : (w.heap.size + 1) < y4.heap.size := RI4.out.lt
  clear hb
  have cS4_0 := RS4.out.cell 0
  have cS4_1 := RS4.out.cell 1
  have cS4_2 := RS4.out.cell 2
  simp only [List.getElem?_cons_zero, List.getElem?_cons_succ] at cS4_0 cS4_1 cS4_2
  go_wp2_with fail
  refine (HE.out _).mono ?_
  rintro e y5 ⟨rfl, hb⟩
  have B5 := Lib.hid (B4.out.trans (hb.mono (by first | exact hz4 | (simp; omega) | omega)))
  have hz5 : w.heap.size ≤ y5.heap.size := B5.out.size
  have RS5 : Hid (Row y5 w.heap.size 24 [.int .i64 t, .int .u64 d, .int .i64 o]) := Lib.hid (RS4.out.below hb (by first | exact hgS4 | (simp; omega) | omega))
  have hgS5 : w.heap.size < y5.heap.size := RS5.out.lt
  have RI5 : Hid (Row y5 (w.heap.size + 1) 26 C) := Lib.hid (RI4.out.below hb (by first | exact hgI4 | (simp; omega) | omega))
  have hgI5 : (w.heap.size + 1) < y5.heap.size := RI5.out.lt
  clear hb
  have cS5_0 := RS5.out.cell 0
  have cS5_1 := RS5.out.cell 1
  have cS5_2 := RS5.out.cell 2
  simp only [List.getElem?_cons_zero, List.getElem?_cons_succ] at cS5_0 cS5_1 cS5_2
  go_wp2_with fail
  refine (HF.out _).mono ?_
  rintro e y6 ⟨rfl, hb⟩
  have B6 := Lib.hid ((B5.out.alloc (by first | exact hz5 | (simp; omega) | omega) (.cells ([.int .i64 X1, .int .u64 d, .int .i64 X2] : List Value).toArray 24)).trans (hb.mono (by first | exact hz5 | (simp; omega) | omega)))
  have hz6 : w.heap.size ≤ y6.heap.size := B6.out.size
  have RS6 : Hid (Row y6 w.heap.size 24 [.int .i64 t, .int .u64 d, .int .i64 o]) := Lib.hid ((RS5.out.alloc _).below hb (by first | exact hgS5 | (simp; omega) | omega))
  have hgS6 : w.heap.size < y6.heap.size := RS6.out.lt
  have RI6 : Hid (Row y6 (w.heap.size + 1) 26 C) := Lib.hid ((RI5.out.alloc _).below hb (by first | exact hgI5 | (simp; omega) | omega))
  have hgI6 : (w.heap.size + 1) < y6.heap.size := RI6.out.lt
  have RX6 : Hid (Row y6 y5.heap.size 24 [.int .i64 X1, .int .u64 d, .int .i64 X2]) := Lib.hid (by
    have h := Row.new y5 24 [.int .i64 X1, .int .u64 d, .int .i64 X2]
    exact h.below hb (by first | (simp; omega) | simp | omega))
  have hgX6 : y5.heap.size < y6.heap.size := RX6.out.lt
  clear hb
  have cS6_0 := RS6.out.cell 0
  have cS6_1 := RS6.out.cell 1
  have cS6_2 := RS6.out.cell 2
  simp only [List.getElem?_cons_zero, List.getElem?_cons_succ] at cS6_0 cS6_1 cS6_2
  go_wp2_with fail
  refine (HTK.out _).mono ?_
  rintro e y7 ⟨rfl, hb⟩
  have B7 := Lib.hid ((B6.out.alloc (by first | exact hz6 | (simp; omega) | omega) (.cells ([.int .i64 X1, .int .u64 d, .int .i64 X2] : List Value).toArray 32)).trans (hb.mono (by first | exact hz6 | (simp; omega) | omega)))
  have hz7 : w.heap.size ≤ y7.heap.size := B7.out.size
  have RS7 : Hid (Row y7 w.heap.size 24 [.int .i64 t, .int .u64 d, .int .i64 o]) := Lib.hid ((RS6.out.alloc _).below hb (by first | exact hgS6 | (simp; omega) | omega))
  have hgS7 : w.heap.size < y7.heap.size := RS7.out.lt
  have RI7 : Hid (Row y7 (w.heap.size + 1) 26 C) := Lib.hid ((RI6.out.alloc _).below hb (by first | exact hgI6 | (simp; omega) | omega))
  have hgI7 : (w.heap.size + 1) < y7.heap.size := RI7.out.lt
  have RX7 : Hid (Row y7 y5.heap.size 24 [.int .i64 X1, .int .u64 d, .int .i64 X2]) := Lib.hid ((RX6.out.alloc _).below hb (by first | exact hgX6 | (simp; omega) | omega))
  have hgX7 : y5.heap.size < y7.heap.size := RX7.out.lt
  have RY7 : Hid (Row y7 y6.heap.size 32 [.int .i64 X1, .int .u64 d, .int .i64 X2]) := Lib.hid (by
    have h := Row.new y6 32 [.int .i64 X1, .int .u64 d, .int .i64 X2]
    exact h.below hb (by first | (simp; omega) | simp | omega))
  have hgY7 : y6.heap.size < y7.heap.size := RY7.out.lt
  clear hb
  have cS7_0 := RS7.out.cell 0
  have cS7_1 := RS7.out.cell 1
  have cS7_2 := RS7.out.cell 2
  simp only [List.getElem?_cons_zero, List.getElem?_cons_succ] at cS7_0 cS7_1 cS7_2
  go_wp2_with fail
  refine (HCA.out _).mono ?_
  rintro e y8 ⟨rfl, hb⟩
  have B8 := Lib.hid ((B7.out.alloc (by first | exact hz7 | (simp; omega) | omega) (.cells ([.int .i64 t, .int .u64 d, .int .i64 o] : List Value).toArray 24)).trans (hb.mono (by first | exact hz7 | (simp; omega) | omega)))
  have hz8 : w.heap.size ≤ y8.heap.size := B8.out.size
  have RS8 : Hid (Row y8 w.heap.size 24 [.int .i64 t, .int .u64 d, .int .i64 o]) := Lib.hid ((RS7.out.alloc _).below hb (by first | exact hgS7 | (simp; omega) | omega))
  have hgS8 : w.heap.size < y8.heap.size := RS8.out.lt
  have RI8 : Hid (Row y8 (w.heap.size + 1) 26 C) := Lib.hid ((RI7.out.alloc _).below hb (by first | exact hgI7 | (simp; omega) | omega))
  have hgI8 : (w.heap.size + 1) < y8.heap.size := RI8.out.lt
  have RX8 : Hid (Row y8 y5.heap.size 24 [.int .i64 X1, .int .u64 d, .int .i64 X2]) := Lib.hid ((RX7.out.alloc _).below hb (by first | exact hgX7 | (simp; omega) | omega))
  have hgX8 : y5.heap.size < y8.heap.size := RX8.out.lt
  have RY8 : Hid (Row y8 y6.heap.size 32 [.int .i64 X1, .int .u64 d, .int .i64 X2]) := Lib.hid ((RY7.out.alloc _).below hb (by first | exact hgY7 | (simp; omega) | omega))
  have hgY8 : y6.heap.size < y8.heap.size := RY8.out.lt
  have RA8 : Hid (Row y8 y7.heap.size 24 [.int .i64 t, .int .u64 d, .int .i64 o]) := Lib.hid (by
    have h := Row.new y7 24 [.int .i64 t, .int .u64 d, .int .i64 o]
    exact h.below hb (by first | (simp; omega) | simp | omega))
  have hgA8 : y7.heap.size < y8.heap.size := RA8.out.lt
  clear hb
  have cS8_0 := RS8.out.cell 0
  have cS8_1 := RS8.out.cell 1
  have cS8_2 := RS8.out.cell 2
  simp only [List.getElem?_cons_zero, List.getElem?_cons_succ] at cS8_0 cS8_1 cS8_2
  have hv1 : w.heap.size < y8.heap.size + 1 := by omega
  have hv2 : w.heap.size < y8.heap.size + 1 + 1 := by omega
  have hv3 : w.heap.size < y8.heap.size + 2 := by omega
  have hv4 : w.heap.size < y8.heap.size + 1 + 1 + 1 := by omega
  go_wp2_with fail
  refine (HBE.out _).mono ?_
  rintro e y9 ⟨rfl, hb⟩
  have B9 := Lib.hid ((((B8.out.alloc (by first | exact hz8 | (simp; omega) | omega) (.cells ([.int .i64 t, .int .u64 d, .int .i64 o] : List Value).toArray 24)).alloc (by first | exact hz8 | (simp; omega) | omega) (.cells ([.int .i64 t, .int .u64 d, .int .i64 o] : List Value).toArray 24)).alloc (by first | exact hz8 | (simp; omega) | omega) (.cells ([.int .i64 t, .int .u64 d, .int .i64 o] : List Value).toArray 24)).trans (hb.mono (by first | exact hz8 | (simp; omega) | omega)))
  have hz9 : w.heap.size ≤ y9.heap.size := B9.out.size
  have RS9 : Hid (Row y9 w.heap.size 24 [.int .i64 t, .int .u64 d, .int .i64 o]) := Lib.hid ((((RS8.out.alloc _).alloc _).alloc _).below hb (by first | exact hgS8 | (simp; omega) | omega))
  have hgS9 : w.heap.size < y9.heap.size := RS9.out.lt
  have RI9 : Hid (Row y9 (w.heap.size + 1) 26 C) := Lib.hid ((((RI8.out.alloc _).alloc _).alloc _).below hb (by first | exact hgI8 | (simp; omega) | omega))
  have hgI9 : (w.heap.size + 1) < y9.heap.size := RI9.out.lt
  have RX9 : Hid (Row y9 y5.heap.size 24 [.int .i64 X1, .int .u64 d, .int .i64 X2]) := Lib.hid ((((RX8.out.alloc _).alloc _).alloc _).below hb (by first | exact hgX8 | (simp; omega) | omega))
  have hgX9 : y5.heap.size < y9.heap.size := RX9.out.lt
  have RY9 : Hid (Row y9 y6.heap.size 32 [.int .i64 X1, .int .u64 d, .int .i64 X2]) := Lib.hid ((((RY8.out.alloc _).alloc _).alloc _).below hb (by first | exact hgY8 | (simp; omega) | omega))
  have hgY9 : y6.heap.size < y9.heap.size := RY9.out.lt
  have RA9 : Hid (Row y9 y7.heap.size 24 [.int .i64 t, .int .u64 d, .int .i64 o]) := Lib.hid ((((RA8.out.alloc _).alloc _).alloc _).below hb (by first | exact hgA8 | (simp; omega) | omega))
  have hgA9 : y7.heap.size < y9.heap.size := RA9.out.lt
  have RZ9 : Hid (Row y9 y8.heap.size 24 [.int .i64 t, .int .u64 d, .int .i64 o]) := Lib.hid (by
    have h := Row.new y8 24 [.int .i64 t, .int .u64 d, .int .i64 o]
    exact ((h.alloc (.cells ([.int .i64 t, .int .u64 d, .int .i64 o] : List Value).toArray 24)).alloc (.cells ([.int .i64 t, .int .u64 d, .int .i64 o] : List Value).toArray 24)).below hb (by first | (simp; omega) | simp | omega))
  have hgZ9 : y8.heap.size < y9.heap.size := RZ9.out.lt
  have RV9 : Hid (Row y9 (y8.heap.size + 1) 24 [.int .i64 t, .int .u64 d, .int .i64 o]) := Lib.hid (by
    have h := Row.new (y8.alloc (.cells ([.int .i64 t, .int .u64 d, .int .i64 o] : List Value).toArray 24)) 24 [.int .i64 t, .int .u64 d, .int .i64 o]
    simp only [World.size_alloc, Nat.add_assoc, Nat.reduceAdd] at h
    exact (h.alloc (.cells ([.int .i64 t, .int .u64 d, .int .i64 o] : List Value).toArray 24)).below hb (by first | (simp; omega) | simp | omega))
  have hgV9 : (y8.heap.size + 1) < y9.heap.size := RV9.out.lt
  have RU9 : Hid (Row y9 (y8.heap.size + 2) 24 [.int .i64 t, .int .u64 d, .int .i64 o]) := Lib.hid (by
    have h := Row.new ((y8.alloc (.cells ([.int .i64 t, .int .u64 d, .int .i64 o] : List Value).toArray 24)).alloc (.cells ([.int .i64 t, .int .u64 d, .int .i64 o] : List Value).toArray 24)) 24 [.int .i64 t, .int .u64 d, .int .i64 o]
    simp only [World.size_alloc, Nat.add_assoc, Nat.reduceAdd] at h
    exact h.below hb (by first | (simp; omega) | simp | omega))
  have hgU9 : (y8.heap.size + 2) < y9.heap.size := RU9.out.lt
  clear hb
  have cS9_0 := RS9.out.cell 0
  have cS9_1 := RS9.out.cell 1
  have cS9_2 := RS9.out.cell 2
  simp only [List.getElem?_cons_zero, List.getElem?_cons_succ] at cS9_0 cS9_1 cS9_2
  have cX9_0 := RX9.out.cell 0
  have cX9_1 := RX9.out.cell 1
  have cX9_2 := RX9.out.cell 2
  simp only [List.getElem?_cons_zero, List.getElem?_cons_succ] at cX9_0 cX9_1 cX9_2
  have cY9_0 := RY9.out.cell 0
  have cY9_1 := RY9.out.cell 1
  have cY9_2 := RY9.out.cell 2
  simp only [List.getElem?_cons_zero, List.getElem?_cons_succ] at cY9_0 cY9_1 cY9_2
  have cA9_0 := RA9.out.cell 0
  have cA9_1 := RA9.out.cell 1
  have cA9_2 := RA9.out.cell 2
  simp only [List.getElem?_cons_zero, List.getElem?_cons_succ] at cA9_0 cA9_1 cA9_2
  have cZ9_0 := RZ9.out.cell 0
  have cZ9_1 := RZ9.out.cell 1
  have cZ9_2 := RZ9.out.cell 2
  simp only [List.getElem?_cons_zero, List.getElem?_cons_succ] at cZ9_0 cZ9_1 cZ9_2
  have cV9_0 := RV9.out.cell 0
  have cV9_1 := RV9.out.cell 1
  have cV9_2 := RV9.out.cell 2
  simp only [List.getElem?_cons_zero, List.getElem?_cons_succ] at cV9_0 cV9_1 cV9_2
  have cU9_0 := RU9.out.cell 0
  have cU9_1 := RU9.out.cell 1
  have cU9_2 := RU9.out.cell 2
  simp only [List.getElem?_cons_zero, List.getElem?_cons_succ] at cU9_0 cU9_1 cU9_2
  go_wp2_with fail
  go_ret
  exact ⟨rfl, (B9.out.alloc hz9 (.cells ([.int .i64 0, .int .u64 0, .int .i64 0] : List Value).toArray 24))⟩

set_option maxRecDepth 100000 in
set_option maxHeartbeats 4000000 in
theorem steps_overWhigh (t d o n k X1 X2 X3 m : Int) (key said c : ByteArray) (C : List Value) (hCl : C.length = 16) (w : World) (zN : Nat) (hzm : max key.size said.size = zN) (hz200 : ¬ (200 : Int) < (zN : Int))
    (HG : Hid (G w)) (HT10 : Hid (T10 w)) (ho : ¬ o = 0) (ho2 : (o == 0) = false) (hb1 : ¬ t < 1) (hb2 : 9 < t)
    (HA : Hid (∀ W : World, G W → Calls Tryz.prog 4 #[] W fun e w' => e = .returned (.bool true) ∧ Below W.heap.size W w'))
    (HSM : Hid (∀ W : World, Calls Tryz.prog 5 #[.agg #[.int .i64 t, .int .u64 d, .int .i64 o]] W fun e w' => e = .returned (.bool true) ∧ Below W.heap.size W w'))
    (HCO : Hid (∀ W : World, G W → T10 W → Calls Tryz.prog 6 #[.string key, .agg C.toArray] W fun e w' => e = .returned (.string c) ∧ Below W.heap.size W w'))
    (HRC : Hid (∀ W : World, Calls Tryz.prog 7 #[.string key, .agg C.toArray] W fun e w' => e = .returned (.string c) ∧ Below W.heap.size W w'))
    (HE : Hid (∀ W : World, Calls Tryz.prog 8 #[.agg #[.int .i64 t, .int .u64 d, .int .i64 o], .string c, .string said, .int .u64 n] W fun e w' => e = .returned (.tuple #[.agg #[.int .i64 X1, .int .u64 d, .int .i64 X2], .int .i64 X3]) ∧ Below W.heap.size W w'))
    (HF : Hid (∀ W : World, Calls Tryz.prog 9 #[.agg #[.int .i64 t, .int .u64 d, .int .i64 o], .string c, .string said, .int .u64 n] W fun e w' => e = .returned (.tuple #[.agg #[.int .i64 X1, .int .u64 d, .int .i64 X2], .int .i64 X3]) ∧ Below W.heap.size W w'))
    (HTK : Hid (∀ W : World, Calls Tryz.prog 10 #[.agg #[.int .i64 t, .int .u64 d, .int .i64 o], .int .u64 n] W fun e w' => e = .returned (.tuple #[.agg #[.int .i64 t, .int .u64 d, .int .i64 o], .bool false]) ∧ Below W.heap.size W w'))
    (HCA : Hid (∀ W : World, Calls Tryz.prog 11 #[.agg #[.int .i64 t, .int .u64 d, .int .i64 o], .int .u64 n] W fun e w' => e = .returned (.tuple #[.agg #[.int .i64 t, .int .u64 d, .int .i64 o], .bool false]) ∧ Below W.heap.size W w'))
    (HBE : Hid (∀ W : World, Calls Tryz.prog 12 #[.int .i64 t, .int .u64 n, .int .u64 k] W fun e w' => e = .returned (.tuple #[.agg #[.int .i64 0, .int .u64 0, .int .i64 0], .int .i64 7]) ∧ Below W.heap.size W w')) :
    Calls Tryz.prog 3 #[.agg #[.int .i64 t, .int .u64 d, .int .i64 o], .string key, .string said, .agg C.toArray, .int .u64 n, .int .u64 k, .bool false] w fun e w' => e = .returned (.bool true) ∧ Below w.heap.size w w' := by
  have hxl := fun ts T W => max2r (P := Tryz.prog) ts T key.size said.size W
  rw [hzm] at hxl
  have HQ1 := fun W => st_self X1 d X2 W
  have HQR := fun W => rst_self X1 d X2 W
  have HQ2 := fun W => st_self t d o W
  have HQ3 := fun W => st_self t d o W
  have HQ4 := fun W => st_selfN 0 0 0 W
  have rS : Row ((w.alloc (.cells ([.int .i64 t, .int .u64 d, .int .i64 o] : List Value).toArray 24)).alloc (.cells C.toArray 26)) w.heap.size 24 [.int .i64 t, .int .u64 d, .int .i64 o] := (Row.new w 24 [.int .i64 t, .int .u64 d, .int .i64 o]).alloc _
  have rI : Row ((w.alloc (.cells ([.int .i64 t, .int .u64 d, .int .i64 o] : List Value).toArray 24)).alloc (.cells C.toArray 26)) (w.heap.size + 1) 26 C := by
    have h := Row.new (w.alloc (.cells ([.int .i64 t, .int .u64 d, .int .i64 o] : List Value).toArray 24)) 26 C
    rwa [World.size_alloc] at h
  have b0 : Below w.heap.size w ((w.alloc (.cells ([.int .i64 t, .int .u64 d, .int .i64 o] : List Value).toArray 24)).alloc (.cells C.toArray 26)) := ((Below.refl _ _).alloc (Nat.le_refl _) _).alloc (by simp) _
  have hw0 : w.heap.size ≤ ((w.alloc (.cells ([.int .i64 t, .int .u64 d, .int .i64 o] : List Value).toArray 24)).alloc (.cells C.toArray 26)).heap.size := b0.size
  have hgS0 : w.heap.size < ((w.alloc (.cells ([.int .i64 t, .int .u64 d, .int .i64 o] : List Value).toArray 24)).alloc (.cells C.toArray 26)).heap.size := rS.lt
  have hgI0 : w.heap.size + 1 < ((w.alloc (.cells ([.int .i64 t, .int .u64 d, .int .i64 o] : List Value).toArray 24)).alloc (.cells C.toArray 26)).heap.size := rI.lt
  clear hzm
  go_enter Tryz.func3, Tryz.ntmps3
  go_wp2_with fail
  refine (HA.out _ (HG.out.below b0)).mono ?_
  rintro e y1 ⟨rfl, hb⟩
  have B1 := Lib.hid (b0.trans (hb.mono (by first | exact hw0 | (simp; omega) | omega)))
  have hz1 : w.heap.size ≤ y1.heap.size := B1.out.size
  have RS1 : Hid (Row y1 w.heap.size 24 [.int .i64 t, .int .u64 d, .int .i64 o]) := Lib.hid (rS.below hb (by first | exact hgS0 | (simp; omega) | omega))
  have hgS1 : w.heap.size < y1.heap.size := RS1.out.lt
  have RI1 : Hid (Row y1 (w.heap.size + 1) 26 C) := Lib.hid (rI.below hb (by first | exact hgI0 | (simp; omega) | omega))
  have hgI1 : (w.heap.size + 1) < y1.heap.size := RI1.out.lt
  clear hb
  have cS1_0 := RS1.out.cell 0
  have cS1_1 := RS1.out.cell 1
  have cS1_2 := RS1.out.cell 2
  simp only [List.getElem?_cons_zero, List.getElem?_cons_succ] at cS1_0 cS1_1 cS1_2
  go_wp2_with fail
  refine (HSM.out _).mono ?_
  rintro e y2 ⟨rfl, hb⟩
  have B2 := Lib.hid (B1.out.trans (hb.mono (by first | exact hz1 | (simp; omega) | omega)))
  have hz2 : w.heap.size ≤ y2.heap.size := B2.out.size
  have RS2 : Hid (Row y2 w.heap.size 24 [.int .i64 t, .int .u64 d, .int .i64 o]) := Lib.hid (RS1.out.below hb (by first | exact hgS1 | (simp; omega) | omega))
  have hgS2 : w.heap.size < y2.heap.size := RS2.out.lt
  have RI2 : Hid (Row y2 (w.heap.size + 1) 26 C) := Lib.hid (RI1.out.below hb (by first | exact hgI1 | (simp; omega) | omega))
  have hgI2 : (w.heap.size + 1) < y2.heap.size := RI2.out.lt
  clear hb
  have cS2_0 := RS2.out.cell 0
  have cS2_1 := RS2.out.cell 1
  have cS2_2 := RS2.out.cell 2
  simp only [List.getElem?_cons_zero, List.getElem?_cons_succ] at cS2_0 cS2_1 cS2_2
  go_wp2_with (first
      | (refine wpList_load_row rfl 26 (.tmp 10) rfl (w.heap.size + 1) rfl 26 C.toArray (0, 0) _ RI2.out Tryz.underlying26 rfl (by rw [List.size_toArray, hCl]; kernel_rfl) ?_)
      | fail)
  refine (HCO.out _ (HG.out.below B2.out) (HT10.out.below B2.out)).mono ?_
  rintro e y3 ⟨rfl, hb⟩
  have B3 := Lib.hid (B2.out.trans (hb.mono (by first | exact hz2 | (simp; omega) | omega)))
  have hz3 : w.heap.size ≤ y3.heap.size := B3.out.size
  have RS3 : Hid (Row y3 w.heap.size 24 [.int .i64 t, .int .u64 d, .int .i64 o]) := Lib.hid (RS2.out.below hb (by first | exact hgS2 | (simp; omega) | omega))
  have hgS3 : w.heap.size < y3.heap.size := RS3.out.lt
  have RI3 : Hid (Row y3 (w.heap.size + 1) 26 C) := Lib.hid (RI2.out.below hb (by first | exact hgI2 | (simp; omega) | omega))
  have hgI3 : (w.heap.size + 1) < y3.heap.size := RI3.out.lt
  clear hb
  have cS3_0 := RS3.out.cell 0
  have cS3_1 := RS3.out.cell 1
  have cS3_2 := RS3.out.cell 2
  simp only [List.getElem?_cons_zero, List.getElem?_cons_succ] at cS3_0 cS3_1 cS3_2
  go_wp2_with (first
      | (refine wpList_load_row rfl 26 (.tmp 10) rfl (w.heap.size + 1) rfl 26 C.toArray (0, 0) _ RI3.out Tryz.underlying26 rfl (by rw [List.size_toArray, hCl]; kernel_rfl) ?_)
      | fail)
  refine (HRC.out _).mono ?_
  rintro e y4 ⟨rfl, hb⟩
  have B4 := Lib.hid (B3.out.trans (hb.mono (by first | exact hz3 | (simp; omega) | omega)))
  have hz4 : w.heap.size ≤ y4.heap.size := B4.out.size
  have RS4 : Hid (Row y4 w.heap.size 24 [.int .i64 t, .int .u64 d, .int .i64 o]) := Lib.hid (RS3.out.below hb (by first | exact hgS3 | (simp; omega) | omega))
  have hgS4 : w.heap.size < y4.heap.size := RS4.out.lt
  have RI4 : Hid (Row y4 (w.heap.size + 1) 26 C) := Lib.hid (RI3.out.below hb (by first | exact hgI3 | (simp; omega) | omega))
  have hgI4 : (w.heap.size + 1) < y4.heap.size := RI4.out.lt
  clear hb
  have cS4_0 := RS4.out.cell 0
  have cS4_1 := RS4.out.cell 1
  have cS4_2 := RS4.out.cell 2
  simp only [List.getElem?_cons_zero, List.getElem?_cons_succ] at cS4_0 cS4_1 cS4_2
  go_wp2_with fail
  refine (HE.out _).mono ?_
  rintro e y5 ⟨rfl, hb⟩
  have B5 := Lib.hid (B4.out.trans (hb.mono (by first | exact hz4 | (simp; omega) | omega)))
  have hz5 : w.heap.size ≤ y5.heap.size := B5.out.size
  have RS5 : Hid (Row y5 w.heap.size 24 [.int .i64 t, .int .u64 d, .int .i64 o]) := Lib.hid (RS4.out.below hb (by first | exact hgS4 | (simp; omega) | omega))
  have hgS5 : w.heap.size < y5.heap.size := RS5.out.lt
  have RI5 : Hid (Row y5 (w.heap.size + 1) 26 C) := Lib.hid (RI4.out.below hb (by first | exact hgI4 | (simp; omega) | omega))
  have hgI5 : (w.heap.size + 1) < y5.heap.size := RI5.out.lt
  clear hb
  have cS5_0 := RS5.out.cell 0
  have cS5_1 := RS5.out.cell 1
  have cS5_2 := RS5.out.cell 2
  simp only [List.getElem?_cons_zero, List.getElem?_cons_succ] at cS5_0 cS5_1 cS5_2
  go_wp2_with fail
  refine (HF.out _).mono ?_
  rintro e y6 ⟨rfl, hb⟩
  have B6 := Lib.hid ((B5.out.alloc (by first | exact hz5 | (simp; omega) | omega) (.cells ([.int .i64 X1, .int .u64 d, .int .i64 X2] : List Value).toArray 24)).trans (hb.mono (by first | exact hz5 | (simp; omega) | omega)))
  have hz6 : w.heap.size ≤ y6.heap.size := B6.out.size
  have RS6 : Hid (Row y6 w.heap.size 24 [.int .i64 t, .int .u64 d, .int .i64 o]) := Lib.hid ((RS5.out.alloc _).below hb (by first | exact hgS5 | (simp; omega) | omega))
  have hgS6 : w.heap.size < y6.heap.size := RS6.out.lt
  have RI6 : Hid (Row y6 (w.heap.size + 1) 26 C) := Lib.hid ((RI5.out.alloc _).below hb (by first | exact hgI5 | (simp; omega) | omega))
  have hgI6 : (w.heap.size + 1) < y6.heap.size := RI6.out.lt
  have RX6 : Hid (Row y6 y5.heap.size 24 [.int .i64 X1, .int .u64 d, .int .i64 X2]) := Lib.hid (by
    have h := Row.new y5 24 [.int .i64 X1, .int .u64 d, .int .i64 X2]
    exact h.below hb (by first | (simp; omega) | simp | omega))
  have hgX6 : y5.heap.size < y6.heap.size := RX6.out.lt
  clear hb
  have cS6_0 := RS6.out.cell 0
  have cS6_1 := RS6.out.cell 1
  have cS6_2 := RS6.out.cell 2
  simp only [List.getElem?_cons_zero, List.getElem?_cons_succ] at cS6_0 cS6_1 cS6_2
  go_wp2_with fail
  refine (HTK.out _).mono ?_
  rintro e y7 ⟨rfl, hb⟩
  have B7 := Lib.hid ((B6.out.alloc (by first | exact hz6 | (simp; omega) | omega) (.cells ([.int .i64 X1, .int .u64 d, .int .i64 X2] : List Value).toArray 32)).trans (hb.mono (by first | exact hz6 | (simp; omega) | omega)))
  have hz7 : w.heap.size ≤ y7.heap.size := B7.out.size
  have RS7 : Hid (Row y7 w.heap.size 24 [.int .i64 t, .int .u64 d, .int .i64 o]) := Lib.hid ((RS6.out.alloc _).below hb (by first | exact hgS6 | (simp; omega) | omega))
  have hgS7 : w.heap.size < y7.heap.size := RS7.out.lt
  have RI7 : Hid (Row y7 (w.heap.size + 1) 26 C) := Lib.hid ((RI6.out.alloc _).below hb (by first | exact hgI6 | (simp; omega) | omega))
  have hgI7 : (w.heap.size + 1) < y7.heap.size := RI7.out.lt
  have RX7 : Hid (Row y7 y5.heap.size 24 [.int .i64 X1, .int .u64 d, .int .i64 X2]) := Lib.hid ((RX6.out.alloc _).below hb (by first | exact hgX6 | (simp; omega) | omega))
  have hgX7 : y5.heap.size < y7.heap.size := RX7.out.lt
  have RY7 : Hid (Row y7 y6.heap.size 32 [.int .i64 X1, .int .u64 d, .int .i64 X2]) := Lib.hid (by
    have h := Row.new y6 32 [.int .i64 X1, .int .u64 d, .int .i64 X2]
    exact h.below hb (by first | (simp; omega) | simp | omega))
  have hgY7 : y6.heap.size < y7.heap.size := RY7.out.lt
  clear hb
  have cS7_0 := RS7.out.cell 0
  have cS7_1 := RS7.out.cell 1
  have cS7_2 := RS7.out.cell 2
  simp only [List.getElem?_cons_zero, List.getElem?_cons_succ] at cS7_0 cS7_1 cS7_2
  go_wp2_with fail
  refine (HCA.out _).mono ?_
  rintro e y8 ⟨rfl, hb⟩
  have B8 := Lib.hid ((B7.out.alloc (by first | exact hz7 | (simp; omega) | omega) (.cells ([.int .i64 t, .int .u64 d, .int .i64 o] : List Value).toArray 24)).trans (hb.mono (by first | exact hz7 | (simp; omega) | omega)))
  have hz8 : w.heap.size ≤ y8.heap.size := B8.out.size
  have RS8 : Hid (Row y8 w.heap.size 24 [.int .i64 t, .int .u64 d, .int .i64 o]) := Lib.hid ((RS7.out.alloc _).below hb (by first | exact hgS7 | (simp; omega) | omega))
  have hgS8 : w.heap.size < y8.heap.size := RS8.out.lt
  have RI8 : Hid (Row y8 (w.heap.size + 1) 26 C) := Lib.hid ((RI7.out.alloc _).below hb (by first | exact hgI7 | (simp; omega) | omega))
  have hgI8 : (w.heap.size + 1) < y8.heap.size := RI8.out.lt
  have RX8 : Hid (Row y8 y5.heap.size 24 [.int .i64 X1, .int .u64 d, .int .i64 X2]) := Lib.hid ((RX7.out.alloc _).below hb (by first | exact hgX7 | (simp; omega) | omega))
  have hgX8 : y5.heap.size < y8.heap.size := RX8.out.lt
  have RY8 : Hid (Row y8 y6.heap.size 32 [.int .i64 X1, .int .u64 d, .int .i64 X2]) := Lib.hid ((RY7.out.alloc _).below hb (by first | exact hgY7 | (simp; omega) | omega))
  have hgY8 : y6.heap.size < y8.heap.size := RY8.out.lt
  have RA8 : Hid (Row y8 y7.heap.size 24 [.int .i64 t, .int .u64 d, .int .i64 o]) := Lib.hid (by
    have h := Row.new y7 24 [.int .i64 t, .int .u64 d, .int .i64 o]
    exact h.below hb (by first | (simp; omega) | simp | omega))
  have hgA8 : y7.heap.size < y8.heap.size := RA8.out.lt
  clear hb
  have cS8_0 := RS8.out.cell 0
  have cS8_1 := RS8.out.cell 1
  have cS8_2 := RS8.out.cell 2
  simp only [List.getElem?_cons_zero, List.getElem?_cons_succ] at cS8_0 cS8_1 cS8_2
  have hv1 : w.heap.size < y8.heap.size + 1 := by omega
  have hv2 : w.heap.size < y8.heap.size + 1 + 1 := by omega
  have hv3 : w.heap.size < y8.heap.size + 2 := by omega
  have hv4 : w.heap.size < y8.heap.size + 1 + 1 + 1 := by omega
  go_wp2_with fail
  refine (HBE.out _).mono ?_
  rintro e y9 ⟨rfl, hb⟩
  have B9 := Lib.hid ((((B8.out.alloc (by first | exact hz8 | (simp; omega) | omega) (.cells ([.int .i64 t, .int .u64 d, .int .i64 o] : List Value).toArray 24)).alloc (by first | exact hz8 | (simp; omega) | omega) (.cells ([.int .i64 t, .int .u64 d, .int .i64 o] : List Value).toArray 24)).alloc (by first | exact hz8 | (simp; omega) | omega) (.cells ([.int .i64 t, .int .u64 d, .int .i64 o] : List Value).toArray 24)).trans (hb.mono (by first | exact hz8 | (simp; omega) | omega)))
  have hz9 : w.heap.size ≤ y9.heap.size := B9.out.size
  have RS9 : Hid (Row y9 w.heap.size 24 [.int .i64 t, .int .u64 d, .int .i64 o]) := Lib.hid ((((RS8.out.alloc _).alloc _).alloc _).below hb (by first | exact hgS8 | (simp; omega) | omega))
  have hgS9 : w.heap.size < y9.heap.size := RS9.out.lt
  have RI9 : Hid (Row y9 (w.heap.size + 1) 26 C) := Lib.hid ((((RI8.out.alloc _).alloc _).alloc _).below hb (by first | exact hgI8 | (simp; omega) | omega))
  have hgI9 : (w.heap.size + 1) < y9.heap.size := RI9.out.lt
  have RX9 : Hid (Row y9 y5.heap.size 24 [.int .i64 X1, .int .u64 d, .int .i64 X2]) := Lib.hid ((((RX8.out.alloc _).alloc _).alloc _).below hb (by first | exact hgX8 | (simp; omega) | omega))
  have hgX9 : y5.heap.size < y9.heap.size := RX9.out.lt
  have RY9 : Hid (Row y9 y6.heap.size 32 [.int .i64 X1, .int .u64 d, .int .i64 X2]) := Lib.hid ((((RY8.out.alloc _).alloc _).alloc _).below hb (by first | exact hgY8 | (simp; omega) | omega))
  have hgY9 : y6.heap.size < y9.heap.size := RY9.out.lt
  have RA9 : Hid (Row y9 y7.heap.size 24 [.int .i64 t, .int .u64 d, .int .i64 o]) := Lib.hid ((((RA8.out.alloc _).alloc _).alloc _).below hb (by first | exact hgA8 | (simp; omega) | omega))
  have hgA9 : y7.heap.size < y9.heap.size := RA9.out.lt
  have RZ9 : Hid (Row y9 y8.heap.size 24 [.int .i64 t, .int .u64 d, .int .i64 o]) := Lib.hid (by
    have h := Row.new y8 24 [.int .i64 t, .int .u64 d, .int .i64 o]
    exact ((h.alloc (.cells ([.int .i64 t, .int .u64 d, .int .i64 o] : List Value).toArray 24)).alloc (.cells ([.int .i64 t, .int .u64 d, .int .i64 o] : List Value).toArray 24)).below hb (by first | (simp; omega) | simp | omega))
  have hgZ9 : y8.heap.size < y9.heap.size := RZ9.out.lt
  have RV9 : Hid (Row y9 (y8.heap.size + 1) 24 [.int .i64 t, .int .u64 d, .int .i64 o]) := Lib.hid (by
    have h := Row.new (y8.alloc (.cells ([.int .i64 t, .int .u64 d, .int .i64 o] : List Value).toArray 24)) 24 [.int .i64 t, .int .u64 d, .int .i64 o]
    simp only [World.size_alloc, Nat.add_assoc, Nat.reduceAdd] at h
    exact (h.alloc (.cells ([.int .i64 t, .int .u64 d, .int .i64 o] : List Value).toArray 24)).below hb (by first | (simp; omega) | simp | omega))
  have hgV9 : (y8.heap.size + 1) < y9.heap.size := RV9.out.lt
  have RU9 : Hid (Row y9 (y8.heap.size + 2) 24 [.int .i64 t, .int .u64 d, .int .i64 o]) := Lib.hid (by
    have h := Row.new ((y8.alloc (.cells ([.int .i64 t, .int .u64 d, .int .i64 o] : List Value).toArray 24)).alloc (.cells ([.int .i64 t, .int .u64 d, .int .i64 o] : List Value).toArray 24)) 24 [.int .i64 t, .int .u64 d, .int .i64 o]
    simp only [World.size_alloc, Nat.add_assoc, Nat.reduceAdd] at h
    exact h.below hb (by first | (simp; omega) | simp | omega))
  have hgU9 : (y8.heap.size + 2) < y9.heap.size := RU9.out.lt
  clear hb
  have cS9_0 := RS9.out.cell 0
  have cS9_1 := RS9.out.cell 1
  have cS9_2 := RS9.out.cell 2
  simp only [List.getElem?_cons_zero, List.getElem?_cons_succ] at cS9_0 cS9_1 cS9_2
  have cX9_0 := RX9.out.cell 0
  have cX9_1 := RX9.out.cell 1
  have cX9_2 := RX9.out.cell 2
  simp only [List.getElem?_cons_zero, List.getElem?_cons_succ] at cX9_0 cX9_1 cX9_2
  have cY9_0 := RY9.out.cell 0
  have cY9_1 := RY9.out.cell 1
  have cY9_2 := RY9.out.cell 2
  simp only [List.getElem?_cons_zero, List.getElem?_cons_succ] at cY9_0 cY9_1 cY9_2
  have cA9_0 := RA9.out.cell 0
  have cA9_1 := RA9.out.cell 1
  have cA9_2 := RA9.out.cell 2
  simp only [List.getElem?_cons_zero, List.getElem?_cons_succ] at cA9_0 cA9_1 cA9_2
  have cZ9_0 := RZ9.out.cell 0
  have cZ9_1 := RZ9.out.cell 1
  have cZ9_2 := RZ9.out.cell 2
  simp only [List.getElem?_cons_zero, List.getElem?_cons_succ] at cZ9_0 cZ9_1 cZ9_2
  have cV9_0 := RV9.out.cell 0
  have cV9_1 := RV9.out.cell 1
  have cV9_2 := RV9.out.cell 2
  simp only [List.getElem?_cons_zero, List.getElem?_cons_succ] at cV9_0 cV9_1 cV9_2
  have cU9_0 := RU9.out.cell 0
  have cU9_1 := RU9.out.cell 1
  have cU9_2 := RU9.out.cell 2
  simp only [List.getElem?_cons_zero, List.getElem?_cons_succ] at cU9_0 cU9_1 cU9_2
  go_wp2_with fail
  go_ret
  exact ⟨rfl, (B9.out.alloc hz9 (.cells ([.int .i64 0, .int .u64 0, .int .i64 0] : List Value).toArray 24))⟩

set_option maxRecDepth 100000 in
set_option maxHeartbeats 4000000 in
theorem steps_overWok (t d o n k X1 X2 X3 m : Int) (key said c : ByteArray) (C : List Value) (hCl : C.length = 16) (w : World) (zN : Nat) (hzm : max key.size said.size = zN) (hz200 : ¬ (200 : Int) < (zN : Int))
    (HG : Hid (G w)) (HT10 : Hid (T10 w)) (ho : ¬ o = 0) (ho2 : (o == 0) = false) (hb1 : ¬ t < 1) (hb2 : ¬ 9 < t)
    (HA : Hid (∀ W : World, G W → Calls Tryz.prog 4 #[] W fun e w' => e = .returned (.bool true) ∧ Below W.heap.size W w'))
    (HSM : Hid (∀ W : World, Calls Tryz.prog 5 #[.agg #[.int .i64 t, .int .u64 d, .int .i64 o]] W fun e w' => e = .returned (.bool true) ∧ Below W.heap.size W w'))
    (HCO : Hid (∀ W : World, G W → T10 W → Calls Tryz.prog 6 #[.string key, .agg C.toArray] W fun e w' => e = .returned (.string c) ∧ Below W.heap.size W w'))
    (HRC : Hid (∀ W : World, Calls Tryz.prog 7 #[.string key, .agg C.toArray] W fun e w' => e = .returned (.string c) ∧ Below W.heap.size W w'))
    (HE : Hid (∀ W : World, Calls Tryz.prog 8 #[.agg #[.int .i64 t, .int .u64 d, .int .i64 o], .string c, .string said, .int .u64 n] W fun e w' => e = .returned (.tuple #[.agg #[.int .i64 X1, .int .u64 d, .int .i64 X2], .int .i64 X3]) ∧ Below W.heap.size W w'))
    (HF : Hid (∀ W : World, Calls Tryz.prog 9 #[.agg #[.int .i64 t, .int .u64 d, .int .i64 o], .string c, .string said, .int .u64 n] W fun e w' => e = .returned (.tuple #[.agg #[.int .i64 X1, .int .u64 d, .int .i64 X2], .int .i64 X3]) ∧ Below W.heap.size W w'))
    (HTK : Hid (∀ W : World, Calls Tryz.prog 10 #[.agg #[.int .i64 t, .int .u64 d, .int .i64 o], .int .u64 n] W fun e w' => e = .returned (.tuple #[.agg #[.int .i64 t, .int .u64 d, .int .i64 o], .bool false]) ∧ Below W.heap.size W w'))
    (HCA : Hid (∀ W : World, Calls Tryz.prog 11 #[.agg #[.int .i64 t, .int .u64 d, .int .i64 o], .int .u64 n] W fun e w' => e = .returned (.tuple #[.agg #[.int .i64 t, .int .u64 d, .int .i64 o], .bool false]) ∧ Below W.heap.size W w'))
    (HBE : Hid (∀ W : World, Calls Tryz.prog 12 #[.int .i64 t, .int .u64 n, .int .u64 k] W fun e w' => e = .returned (.tuple #[.agg #[.int .i64 t, .int .u64 m, .int .i64 0], .int .i64 0]) ∧ Below W.heap.size W w'))
    (HLA : Hid (∀ W : World, Calls Tryz.prog 13 #[.int .u64 n, .int .u64 k] W fun e w' => e = .returned (.int .u64 m) ∧ W = w')) :
    Calls Tryz.prog 3 #[.agg #[.int .i64 t, .int .u64 d, .int .i64 o], .string key, .string said, .agg C.toArray, .int .u64 n, .int .u64 k, .bool false] w fun e w' => e = .returned (.bool true) ∧ Below w.heap.size w w' := by
  have hxl := fun ts T W => max2r (P := Tryz.prog) ts T key.size said.size W
  rw [hzm] at hxl
  have HQ1 := fun W => st_self X1 d X2 W
  have HQR := fun W => rst_self X1 d X2 W
  have HQ2 := fun W => st_self t d o W
  have HQ3 := fun W => st_self t d o W
  have HQ4 := fun W => st_selfN t m 0 W
  have rS : Row ((w.alloc (.cells ([.int .i64 t, .int .u64 d, .int .i64 o] : List Value).toArray 24)).alloc (.cells C.toArray 26)) w.heap.size 24 [.int .i64 t, .int .u64 d, .int .i64 o] := (Row.new w 24 [.int .i64 t, .int .u64 d, .int .i64 o]).alloc _
  have rI : Row ((w.alloc (.cells ([.int .i64 t, .int .u64 d, .int .i64 o] : List Value).toArray 24)).alloc (.cells C.toArray 26)) (w.heap.size + 1) 26 C := by
    have h := Row.new (w.alloc (.cells ([.int .i64 t, .int .u64 d, .int .i64 o] : List Value).toArray 24)) 26 C
    rwa [World.size_alloc] at h
  have b0 : Below w.heap.size w ((w.alloc (.cells ([.int .i64 t, .int .u64 d, .int .i64 o] : List Value).toArray 24)).alloc (.cells C.toArray 26)) := ((Below.refl _ _).alloc (Nat.le_refl _) _).alloc (by simp) _
  have hw0 : w.heap.size ≤ ((w.alloc (.cells ([.int .i64 t, .int .u64 d, .int .i64 o] : List Value).toArray 24)).alloc (.cells C.toArray 26)).heap.size := b0.size
  have hgS0 : w.heap.size < ((w.alloc (.cells ([.int .i64 t, .int .u64 d, .int .i64 o] : List Value).toArray 24)).alloc (.cells C.toArray 26)).heap.size := rS.lt
  have hgI0 : w.heap.size + 1 < ((w.alloc (.cells ([.int .i64 t, .int .u64 d, .int .i64 o] : List Value).toArray 24)).alloc (.cells C.toArray 26)).heap.size := rI.lt
  clear hzm
  go_enter Tryz.func3, Tryz.ntmps3
  go_wp2_with fail
  refine (HA.out _ (HG.out.below b0)).mono ?_
  rintro e y1 ⟨rfl, hb⟩
  have B1 := Lib.hid (b0.trans (hb.mono (by first | exact hw0 | (simp; omega) | omega)))
  have hz1 : w.heap.size ≤ y1.heap.size := B1.out.size
  have RS1 : Hid (Row y1 w.heap.size 24 [.int .i64 t, .int .u64 d, .int .i64 o]) := Lib.hid (rS.below hb (by first | exact hgS0 | (simp; omega) | omega))
  have hgS1 : w.heap.size < y1.heap.size := RS1.out.lt
  have RI1 : Hid (Row y1 (w.heap.size + 1) 26 C) := Lib.hid (rI.below hb (by first | exact hgI0 | (simp; omega) | omega))
  have hgI1 : (w.heap.size + 1) < y1.heap.size := RI1.out.lt
  clear hb
  have cS1_0 := RS1.out.cell 0
  have cS1_1 := RS1.out.cell 1
  have cS1_2 := RS1.out.cell 2
  simp only [List.getElem?_cons_zero, List.getElem?_cons_succ] at cS1_0 cS1_1 cS1_2
  go_wp2_with fail
  refine (HSM.out _).mono ?_
  rintro e y2 ⟨rfl, hb⟩
  have B2 := Lib.hid (B1.out.trans (hb.mono (by first | exact hz1 | (simp; omega) | omega)))
  have hz2 : w.heap.size ≤ y2.heap.size := B2.out.size
  have RS2 : Hid (Row y2 w.heap.size 24 [.int .i64 t, .int .u64 d, .int .i64 o]) := Lib.hid (RS1.out.below hb (by first | exact hgS1 | (simp; omega) | omega))
  have hgS2 : w.heap.size < y2.heap.size := RS2.out.lt
  have RI2 : Hid (Row y2 (w.heap.size + 1) 26 C) := Lib.hid (RI1.out.below hb (by first | exact hgI1 | (simp; omega) | omega))
  have hgI2 : (w.heap.size + 1) < y2.heap.size := RI2.out.lt
  clear hb
  have cS2_0 := RS2.out.cell 0
  have cS2_1 := RS2.out.cell 1
  have cS2_2 := RS2.out.cell 2
  simp only [List.getElem?_cons_zero, List.getElem?_cons_succ] at cS2_0 cS2_1 cS2_2
  go_wp2_with (first
      | (refine wpList_load_row rfl 26 (.tmp 10) rfl (w.heap.size + 1) rfl 26 C.toArray (0, 0) _ RI2.out Tryz.underlying26 rfl (by rw [List.size_toArray, hCl]; kernel_rfl) ?_)
      | fail)
  refine (HCO.out _ (HG.out.below B2.out) (HT10.out.below B2.out)).mono ?_
  rintro e y3 ⟨rfl, hb⟩
  have B3 := Lib.hid (B2.out.trans (hb.mono (by first | exact hz2 | (simp; omega) | omega)))
  have hz3 : w.heap.size ≤ y3.heap.size := B3.out.size
  have RS3 : Hid (Row y3 w.heap.size 24 [.int .i64 t, .int .u64 d, .int .i64 o]) := Lib.hid (RS2.out.below hb (by first | exact hgS2 | (simp; omega) | omega))
  have hgS3 : w.heap.size < y3.heap.size := RS3.out.lt
  have RI3 : Hid (Row y3 (w.heap.size + 1) 26 C) := Lib.hid (RI2.out.below hb (by first | exact hgI2 | (simp; omega) | omega))
  have hgI3 : (w.heap.size + 1) < y3.heap.size := RI3.out.lt
  clear hb
  have cS3_0 := RS3.out.cell 0
  have cS3_1 := RS3.out.cell 1
  have cS3_2 := RS3.out.cell 2
  simp only [List.getElem?_cons_zero, List.getElem?_cons_succ] at cS3_0 cS3_1 cS3_2
  go_wp2_with (first
      | (refine wpList_load_row rfl 26 (.tmp 10) rfl (w.heap.size + 1) rfl 26 C.toArray (0, 0) _ RI3.out Tryz.underlying26 rfl (by rw [List.size_toArray, hCl]; kernel_rfl) ?_)
      | fail)
  refine (HRC.out _).mono ?_
  rintro e y4 ⟨rfl, hb⟩
  have B4 := Lib.hid (B3.out.trans (hb.mono (by first | exact hz3 | (simp; omega) | omega)))
  have hz4 : w.heap.size ≤ y4.heap.size := B4.out.size
  have RS4 : Hid (Row y4 w.heap.size 24 [.int .i64 t, .int .u64 d, .int .i64 o]) := Lib.hid (RS3.out.below hb (by first | exact hgS3 | (simp; omega) | omega))
  have hgS4 : w.heap.size < y4.heap.size := RS4.out.lt
  have RI4 : Hid (Row y4 (w.heap.size + 1) 26 C) := Lib.hid (RI3.out.below hb (by first | exact hgI3 | (simp; omega) | omega))
  have hgI4 : (w.heap.size + 1) < y4.heap.size := RI4.out.lt
  clear hb
  have cS4_0 := RS4.out.cell 0
  have cS4_1 := RS4.out.cell 1
  have cS4_2 := RS4.out.cell 2
  simp only [List.getElem?_cons_zero, List.getElem?_cons_succ] at cS4_0 cS4_1 cS4_2
  go_wp2_with fail
  refine (HE.out _).mono ?_
  rintro e y5 ⟨rfl, hb⟩
  have B5 := Lib.hid (B4.out.trans (hb.mono (by first | exact hz4 | (simp; omega) | omega)))
  have hz5 : w.heap.size ≤ y5.heap.size := B5.out.size
  have RS5 : Hid (Row y5 w.heap.size 24 [.int .i64 t, .int .u64 d, .int .i64 o]) := Lib.hid (RS4.out.below hb (by first | exact hgS4 | (simp; omega) | omega))
  have hgS5 : w.heap.size < y5.heap.size := RS5.out.lt
  have RI5 : Hid (Row y5 (w.heap.size + 1) 26 C) := Lib.hid (RI4.out.below hb (by first | exact hgI4 | (simp; omega) | omega))
  have hgI5 : (w.heap.size + 1) < y5.heap.size := RI5.out.lt
  clear hb
  have cS5_0 := RS5.out.cell 0
  have cS5_1 := RS5.out.cell 1
  have cS5_2 := RS5.out.cell 2
  simp only [List.getElem?_cons_zero, List.getElem?_cons_succ] at cS5_0 cS5_1 cS5_2
  go_wp2_with fail
  refine (HF.out _).mono ?_
  rintro e y6 ⟨rfl, hb⟩
  have B6 := Lib.hid ((B5.out.alloc (by first | exact hz5 | (simp; omega) | omega) (.cells ([.int .i64 X1, .int .u64 d, .int .i64 X2] : List Value).toArray 24)).trans (hb.mono (by first | exact hz5 | (simp; omega) | omega)))
  have hz6 : w.heap.size ≤ y6.heap.size := B6.out.size
  have RS6 : Hid (Row y6 w.heap.size 24 [.int .i64 t, .int .u64 d, .int .i64 o]) := Lib.hid ((RS5.out.alloc _).below hb (by first | exact hgS5 | (simp; omega) | omega))
  have hgS6 : w.heap.size < y6.heap.size := RS6.out.lt
  have RI6 : Hid (Row y6 (w.heap.size + 1) 26 C) := Lib.hid ((RI5.out.alloc _).below hb (by first | exact hgI5 | (simp; omega) | omega))
  have hgI6 : (w.heap.size + 1) < y6.heap.size := RI6.out.lt
  have RX6 : Hid (Row y6 y5.heap.size 24 [.int .i64 X1, .int .u64 d, .int .i64 X2]) := Lib.hid (by
    have h := Row.new y5 24 [.int .i64 X1, .int .u64 d, .int .i64 X2]
    exact h.below hb (by first | (simp; omega) | simp | omega))
  have hgX6 : y5.heap.size < y6.heap.size := RX6.out.lt
  clear hb
  have cS6_0 := RS6.out.cell 0
  have cS6_1 := RS6.out.cell 1
  have cS6_2 := RS6.out.cell 2
  simp only [List.getElem?_cons_zero, List.getElem?_cons_succ] at cS6_0 cS6_1 cS6_2
  go_wp2_with fail
  refine (HTK.out _).mono ?_
  rintro e y7 ⟨rfl, hb⟩
  have B7 := Lib.hid ((B6.out.alloc (by first | exact hz6 | (simp; omega) | omega) (.cells ([.int .i64 X1, .int .u64 d, .int .i64 X2] : List Value).toArray 32)).trans (hb.mono (by first | exact hz6 | (simp; omega) | omega)))
  have hz7 : w.heap.size ≤ y7.heap.size := B7.out.size
  have RS7 : Hid (Row y7 w.heap.size 24 [.int .i64 t, .int .u64 d, .int .i64 o]) := Lib.hid ((RS6.out.alloc _).below hb (by first | exact hgS6 | (simp; omega) | omega))
  have hgS7 : w.heap.size < y7.heap.size := RS7.out.lt
  have RI7 : Hid (Row y7 (w.heap.size + 1) 26 C) := Lib.hid ((RI6.out.alloc _).below hb (by first | exact hgI6 | (simp; omega) | omega))
  have hgI7 : (w.heap.size + 1) < y7.heap.size := RI7.out.lt
  have RX7 : Hid (Row y7 y5.heap.size 24 [.int .i64 X1, .int .u64 d, .int .i64 X2]) := Lib.hid ((RX6.out.alloc _).below hb (by first | exact hgX6 | (simp; omega) | omega))
  have hgX7 : y5.heap.size < y7.heap.size := RX7.out.lt
  have RY7 : Hid (Row y7 y6.heap.size 32 [.int .i64 X1, .int .u64 d, .int .i64 X2]) := Lib.hid (by
    have h := Row.new y6 32 [.int .i64 X1, .int .u64 d, .int .i64 X2]
    exact h.below hb (by first | (simp; omega) | simp | omega))
  have hgY7 : y6.heap.size < y7.heap.size := RY7.out.lt
  clear hb
  have cS7_0 := RS7.out.cell 0
  have cS7_1 := RS7.out.cell 1
  have cS7_2 := RS7.out.cell 2
  simp only [List.getElem?_cons_zero, List.getElem?_cons_succ] at cS7_0 cS7_1 cS7_2
  go_wp2_with fail
  refine (HCA.out _).mono ?_
  rintro e y8 ⟨rfl, hb⟩
  have B8 := Lib.hid ((B7.out.alloc (by first | exact hz7 | (simp; omega) | omega) (.cells ([.int .i64 t, .int .u64 d, .int .i64 o] : List Value).toArray 24)).trans (hb.mono (by first | exact hz7 | (simp; omega) | omega)))
  have hz8 : w.heap.size ≤ y8.heap.size := B8.out.size
  have RS8 : Hid (Row y8 w.heap.size 24 [.int .i64 t, .int .u64 d, .int .i64 o]) := Lib.hid ((RS7.out.alloc _).below hb (by first | exact hgS7 | (simp; omega) | omega))
  have hgS8 : w.heap.size < y8.heap.size := RS8.out.lt
  have RI8 : Hid (Row y8 (w.heap.size + 1) 26 C) := Lib.hid ((RI7.out.alloc _).below hb (by first | exact hgI7 | (simp; omega) | omega))
  have hgI8 : (w.heap.size + 1) < y8.heap.size := RI8.out.lt
  have RX8 : Hid (Row y8 y5.heap.size 24 [.int .i64 X1, .int .u64 d, .int .i64 X2]) := Lib.hid ((RX7.out.alloc _).below hb (by first | exact hgX7 | (simp; omega) | omega))
  have hgX8 : y5.heap.size < y8.heap.size := RX8.out.lt
  have RY8 : Hid (Row y8 y6.heap.size 32 [.int .i64 X1, .int .u64 d, .int .i64 X2]) := Lib.hid ((RY7.out.alloc _).below hb (by first | exact hgY7 | (simp; omega) | omega))
  have hgY8 : y6.heap.size < y8.heap.size := RY8.out.lt
  have RA8 : Hid (Row y8 y7.heap.size 24 [.int .i64 t, .int .u64 d, .int .i64 o]) := Lib.hid (by
    have h := Row.new y7 24 [.int .i64 t, .int .u64 d, .int .i64 o]
    exact h.below hb (by first | (simp; omega) | simp | omega))
  have hgA8 : y7.heap.size < y8.heap.size := RA8.out.lt
  clear hb
  have cS8_0 := RS8.out.cell 0
  have cS8_1 := RS8.out.cell 1
  have cS8_2 := RS8.out.cell 2
  simp only [List.getElem?_cons_zero, List.getElem?_cons_succ] at cS8_0 cS8_1 cS8_2
  have hv1 : w.heap.size < y8.heap.size + 1 := by omega
  have hv2 : w.heap.size < y8.heap.size + 1 + 1 := by omega
  have hv3 : w.heap.size < y8.heap.size + 2 := by omega
  have hv4 : w.heap.size < y8.heap.size + 1 + 1 + 1 := by omega
  go_wp2_with fail
  refine (HBE.out _).mono ?_
  rintro e y9 ⟨rfl, hb⟩
  have B9 := Lib.hid ((((B8.out.alloc (by first | exact hz8 | (simp; omega) | omega) (.cells ([.int .i64 t, .int .u64 d, .int .i64 o] : List Value).toArray 24)).alloc (by first | exact hz8 | (simp; omega) | omega) (.cells ([.int .i64 t, .int .u64 d, .int .i64 o] : List Value).toArray 24)).alloc (by first | exact hz8 | (simp; omega) | omega) (.cells ([.int .i64 t, .int .u64 d, .int .i64 o] : List Value).toArray 24)).trans (hb.mono (by first | exact hz8 | (simp; omega) | omega)))
  have hz9 : w.heap.size ≤ y9.heap.size := B9.out.size
  have RS9 : Hid (Row y9 w.heap.size 24 [.int .i64 t, .int .u64 d, .int .i64 o]) := Lib.hid ((((RS8.out.alloc _).alloc _).alloc _).below hb (by first | exact hgS8 | (simp; omega) | omega))
  have hgS9 : w.heap.size < y9.heap.size := RS9.out.lt
  have RI9 : Hid (Row y9 (w.heap.size + 1) 26 C) := Lib.hid ((((RI8.out.alloc _).alloc _).alloc _).below hb (by first | exact hgI8 | (simp; omega) | omega))
  have hgI9 : (w.heap.size + 1) < y9.heap.size := RI9.out.lt
  have RX9 : Hid (Row y9 y5.heap.size 24 [.int .i64 X1, .int .u64 d, .int .i64 X2]) := Lib.hid ((((RX8.out.alloc _).alloc _).alloc _).below hb (by first | exact hgX8 | (simp; omega) | omega))
  have hgX9 : y5.heap.size < y9.heap.size := RX9.out.lt
  have RY9 : Hid (Row y9 y6.heap.size 32 [.int .i64 X1, .int .u64 d, .int .i64 X2]) := Lib.hid ((((RY8.out.alloc _).alloc _).alloc _).below hb (by first | exact hgY8 | (simp; omega) | omega))
  have hgY9 : y6.heap.size < y9.heap.size := RY9.out.lt
  have RA9 : Hid (Row y9 y7.heap.size 24 [.int .i64 t, .int .u64 d, .int .i64 o]) := Lib.hid ((((RA8.out.alloc _).alloc _).alloc _).below hb (by first | exact hgA8 | (simp; omega) | omega))
  have hgA9 : y7.heap.size < y9.heap.size := RA9.out.lt
  have RZ9 : Hid (Row y9 y8.heap.size 24 [.int .i64 t, .int .u64 d, .int .i64 o]) := Lib.hid (by
    have h := Row.new y8 24 [.int .i64 t, .int .u64 d, .int .i64 o]
    exact ((h.alloc (.cells ([.int .i64 t, .int .u64 d, .int .i64 o] : List Value).toArray 24)).alloc (.cells ([.int .i64 t, .int .u64 d, .int .i64 o] : List Value).toArray 24)).below hb (by first | (simp; omega) | simp | omega))
  have hgZ9 : y8.heap.size < y9.heap.size := RZ9.out.lt
  have RV9 : Hid (Row y9 (y8.heap.size + 1) 24 [.int .i64 t, .int .u64 d, .int .i64 o]) := Lib.hid (by
    have h := Row.new (y8.alloc (.cells ([.int .i64 t, .int .u64 d, .int .i64 o] : List Value).toArray 24)) 24 [.int .i64 t, .int .u64 d, .int .i64 o]
    simp only [World.size_alloc, Nat.add_assoc, Nat.reduceAdd] at h
    exact (h.alloc (.cells ([.int .i64 t, .int .u64 d, .int .i64 o] : List Value).toArray 24)).below hb (by first | (simp; omega) | simp | omega))
  have hgV9 : (y8.heap.size + 1) < y9.heap.size := RV9.out.lt
  have RU9 : Hid (Row y9 (y8.heap.size + 2) 24 [.int .i64 t, .int .u64 d, .int .i64 o]) := Lib.hid (by
    have h := Row.new ((y8.alloc (.cells ([.int .i64 t, .int .u64 d, .int .i64 o] : List Value).toArray 24)).alloc (.cells ([.int .i64 t, .int .u64 d, .int .i64 o] : List Value).toArray 24)) 24 [.int .i64 t, .int .u64 d, .int .i64 o]
    simp only [World.size_alloc, Nat.add_assoc, Nat.reduceAdd] at h
    exact h.below hb (by first | (simp; omega) | simp | omega))
  have hgU9 : (y8.heap.size + 2) < y9.heap.size := RU9.out.lt
  clear hb
  have cS9_0 := RS9.out.cell 0
  have cS9_1 := RS9.out.cell 1
  have cS9_2 := RS9.out.cell 2
  simp only [List.getElem?_cons_zero, List.getElem?_cons_succ] at cS9_0 cS9_1 cS9_2
  have cX9_0 := RX9.out.cell 0
  have cX9_1 := RX9.out.cell 1
  have cX9_2 := RX9.out.cell 2
  simp only [List.getElem?_cons_zero, List.getElem?_cons_succ] at cX9_0 cX9_1 cX9_2
  have cY9_0 := RY9.out.cell 0
  have cY9_1 := RY9.out.cell 1
  have cY9_2 := RY9.out.cell 2
  simp only [List.getElem?_cons_zero, List.getElem?_cons_succ] at cY9_0 cY9_1 cY9_2
  have cA9_0 := RA9.out.cell 0
  have cA9_1 := RA9.out.cell 1
  have cA9_2 := RA9.out.cell 2
  simp only [List.getElem?_cons_zero, List.getElem?_cons_succ] at cA9_0 cA9_1 cA9_2
  have cZ9_0 := RZ9.out.cell 0
  have cZ9_1 := RZ9.out.cell 1
  have cZ9_2 := RZ9.out.cell 2
  simp only [List.getElem?_cons_zero, List.getElem?_cons_succ] at cZ9_0 cZ9_1 cZ9_2
  have cV9_0 := RV9.out.cell 0
  have cV9_1 := RV9.out.cell 1
  have cV9_2 := RV9.out.cell 2
  simp only [List.getElem?_cons_zero, List.getElem?_cons_succ] at cV9_0 cV9_1 cV9_2
  have cU9_0 := RU9.out.cell 0
  have cU9_1 := RU9.out.cell 1
  have cU9_2 := RU9.out.cell 2
  simp only [List.getElem?_cons_zero, List.getElem?_cons_succ] at cU9_0 cU9_1 cU9_2
  go_wp2_with fail
  go_quiet ((go_at_call 13; exact Calls.quiet_of_same ((HLA.out _).mono fun _ _ hh => ⟨hh.1, hh.2.symm⟩)))
  go_wp2_with fail
  go_ret
  exact ⟨rfl, below_drewN_o (B9.out.alloc hz9 (.cells ([.int .i64 t, .int .u64 m, .int .i64 0] : List Value).toArray 24)) _⟩
end Go.Proofs.YtlmbijhkpgolaaaGreatDoor
