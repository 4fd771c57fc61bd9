/- The contracts of utf's functions that go over no text. -/
import Derived.Test.YtheidjnapoipaaaGreatDoorRows
import Derived.WalkKit
import Derived.WalkSpells
import Derived.WalkLawsBesides
import Derived.Lib.Hide
import Derived.Deep.QuietTactic
import Derived.BigQuiet
import Derived.Test.YtheidjnapoipaaaGreatDoorUPlain
import Derived.Test.YtheidjnapoipaaaGreatDoorMem
namespace Go.Proofs.YtheidjnapoipaaaGreatDoor
open Go.RowKit
set_option linter.unusedVariables false

/-- What Put writes. -/
def putB (r : Int) : ByteArray := if Utf8.valid r then ⟨(enc r.toNat).toArray⟩ else ⟨#[]⟩

theorem ret_int_u {k : IntKind} {a b : Int} (h : a = b) : Ending.returned (.int k a) = .returned (.int k b) := by rw [h]
theorem ret_boolE_u {a b : Bool} (h : a = b) : Ending.returned (.bool a) = .returned (.bool b) := by rw [h]
theorem ret_str_u {a b : ByteArray} (h : a = b) : Ending.returned (.string a) = .returned (.string b) := by rw [h]

theorem putB_not {r : Int} (h : Utf8.valid r = false) : putB r = ⟨#[]⟩ := by unfold putB; rw [h]; rfl
theorem putB_valid {r : Int} (h : Utf8.valid r = true) : putB r = Utf8.encode r := by
  have h0 : 0 ≤ r := by have := (valid_iff r).1 h; omega
  obtain ⟨c, rfl⟩ : ∃ c : Nat, r = c := ⟨r.toNat, by omega⟩
  unfold putB
  rw [if_pos h, encode_eq c h]
  rfl
theorem putB_nat {c : Nat} (h : Utf8.valid c = true) : putB c = ⟨(enc c).toArray⟩ := by unfold putB; rw [if_pos h]; rfl
theorem putB_size {c : Nat} (h : Utf8.valid c = true) : (putB c).size = encLen c := by
  rw [putB_nat h, ← enc_length]
  show (enc c).toArray.size = _
  simp

theorem eL1 {r : Int} (g : 0 ≤ r) (h : r ≤ 127) : encLen r.toNat = 1 := by unfold encLen; rw [if_pos (by omega)]
theorem eL2 {r : Int} (g : 127 < r) (h : r ≤ 2047) : encLen r.toNat = 2 := by unfold encLen; rw [if_neg (by omega), if_pos (by omega)]
theorem eL3 {r : Int} (g : 2047 < r) (h : r ≤ 65535) : encLen r.toNat = 3 := by unfold encLen; rw [if_neg (by omega), if_neg (by omega), if_pos (by omega)]
theorem eL4 {r : Int} (g : 65535 < r) : encLen r.toNat = 4 := by unfold encLen; rw [if_neg (by omega), if_neg (by omega), if_neg (by omega)]

set_option maxHeartbeats 400000 in
set_option maxRecDepth 20000 in
theorem RuneLen_int (r : Int) (w : World) (hv : Utf8.valid r = true) :
    Calls Tryz.prog 94 #[.int .i32 r] w fun e w' => e = .returned (.int .i64 (encLen r.toNat : Nat)) ∧ w = w' := by
  have H := Lib.hid ((valid_iff r).1 hv)
  have h0 : 0 ≤ r := by have := H.out; omega
  clear hv
  go_enter Tryz.func94, Tryz.ntmps94
  go_wp2
  all_goals have H' := H.out
  all_goals first
    | (exfalso; omega)
    | (go_ret; exact ⟨ret_int_u (by rw [eL1 (by omega) (by omega)]; rfl), rfl⟩)
    | (go_ret; exact ⟨ret_int_u (by rw [eL2 (by omega) (by omega)]; rfl), rfl⟩)
    | (go_ret; exact ⟨ret_int_u (by rw [eL3 (by omega) (by omega)]; rfl), rfl⟩)
    | (go_ret; exact ⟨ret_int_u (by rw [eL4 (by omega)]; rfl), rfl⟩)

set_option maxRecDepth 20000 in
theorem RuneLen_any (c : Nat) (w : World) (hv : Utf8.valid c = true) :
    Calls Tryz.prog 94 #[.int .i32 (c : Nat)] w fun e w' => e = .returned (.int .i64 (encLen c : Nat)) ∧ w = w' := by
  have h := RuneLen_int c w hv
  rw [Int.toNat_natCast] at h
  exact h

theorem v_yes {r : Int} (h : (0 ≤ r ∧ r < 55296) ∨ (57344 ≤ r ∧ r ≤ 1114111)) : Utf8.valid r = true := (valid_iff r).2 h
theorem v_no {r : Int} (h : ¬ ((0 ≤ r ∧ r < 55296) ∨ (57344 ≤ r ∧ r ≤ 1114111))) : Utf8.valid r = false := by
  cases hb : Utf8.valid r with
  | false => rfl
  | true => exact absurd ((valid_iff r).1 hb) h

set_option maxHeartbeats 400000 in
set_option maxRecDepth 20000 in
theorem ValidRune_any (r : Int) (w : World) :
    Calls Tryz.prog 91 #[.int .i32 r] w fun e w' => e = .returned (.bool (Utf8.valid r)) ∧ w = w' := by
  go_enter Tryz.func91, Tryz.ntmps91
  go_wp2
  all_goals go_ret
  all_goals first
    | exact ⟨ret_boolE_u (v_yes (by omega)).symm, rfl⟩
    | exact ⟨ret_boolE_u (v_no (by omega)).symm, rfl⟩

set_option maxHeartbeats 400000 in
set_option maxRecDepth 20000 in
theorem Put_any_u (r : Int) (w : World) :
    Calls Tryz.prog 77 #[.int .i32 r] w fun e w' => e = .returned (.string (putB r)) ∧ w = w' := by
  cases hv : Utf8.valid r with
  | true =>
    rw [putB_valid hv]
    have hn : (!Utf8.valid r) = false := by rw [hv]; rfl
    go_enter Tryz.func77, Tryz.ntmps77
    go_wp2_with (go_at_call 91; refine (ValidRune_any _ _).mono ?_; rintro e w' ⟨rfl, rfl⟩)
    go_ret
    exact ⟨rfl, rfl⟩
  | false =>
    rw [putB_not hv]
    have hn : (!Utf8.valid r) = true := by rw [hv]; rfl
    go_enter Tryz.func77, Tryz.ntmps77
    go_wp2_with (go_at_call 91; refine (ValidRune_any _ _).mono ?_; rintro e w' ⟨rfl, rfl⟩)
    go_ret
    exact ⟨rfl, rfl⟩

/-- The kind of half: 1 a high one, 2 a low one. -/
def surr (n : Int) : Int := if n < 55296 then 0 else if n < 56320 then 1 else if n < 57344 then 2 else 0
theorem surr_0 {n : Int} (h : n < 55296 ∨ 57343 < n) : surr n = 0 := by unfold surr; split; rfl; rw [if_neg (by omega), if_neg (by omega)]
theorem surr_1 {n : Int} (h : 55296 ≤ n) (g : n < 56320) : surr n = 1 := by unfold surr; rw [if_neg (by omega), if_pos (by omega)]
theorem surr_2 {n : Int} (h : 56320 ≤ n) (g : n ≤ 57343) : surr n = 2 := by unfold surr; rw [if_neg (by omega), if_neg (by omega), if_pos (by omega)]

theorem v_or {r : Int} (h0 : 0 ≤ r) (h1 : r ≤ 1114111) : (decide (r < 55296) || decide (57343 < r)) = Utf8.valid r := by
  by_cases h2 : r < 55296
  · rw [decide_eq_true h2, v_yes (by omega)]; rfl
  · by_cases h3 : 57343 < r
    · rw [decide_eq_true h3, v_yes (by omega), Bool.or_true]
    · rw [decide_eq_false h2, decide_eq_false h3, v_no (by omega)]; rfl

/-- The text of a literal of bytes. -/
theorem conv_lit (w : World) (vs : List Int) (l : List UInt8) (n : Nat) (hn : l.length = n) (h : vs = l.map (fun c => (c.toNat : Int))) :
    (convert 76 9 (.slice (some ⟨w.heap.size, 0, none⟩) n n)).run Tryz.prog (w.alloc (.cells (vs.map (Value.int .u8)).toArray 5)) = .ok (.string ⟨l.toArray⟩) (w.alloc (.cells (vs.map (Value.int .u8)).toArray 5)) := by
  refine conv_bytes _ 76 9 5 Tryz.underlying76 Tryz.underlying5 Tryz.underlying9 w.heap.size 0 n n l hn (fun i hi => ?_)
  have hr := (Row.new w 5 (vs.map (Value.int .u8))).cell i
  rw [Nat.zero_add, hr, h, List.map_map]
  rfl

theorem tn_i {r : Int} (n : Nat) (h : r = n ∧ n < 256) : r = ((UInt8.ofNat n).toNat : Int) := by rw [tn n h.2]; exact h.1

theorem ce {a b : Int} {l m : List Int} (h : a = b) (k : l = m) : a :: l = b :: m := by rw [h, k]

theorem refPut_c (r : Int) (n : Nat) (vs : List Int) (h : vs = (enc r.toNat).map (fun c => (c.toNat : Int))) (hn : (enc r.toNat).length = n) (hv : Utf8.valid r = true) (w : World) :
    (convert 76 9 (.slice (some ⟨w.heap.size, 0, none⟩) n n)).run Tryz.prog (w.alloc (.cells (vs.map (Value.int .u8)).toArray 5)) = .ok (.string (putB r)) (w.alloc (.cells (vs.map (Value.int .u8)).toArray 5)) := by
  rw [conv_lit w vs _ n hn h]
  unfold putB
  rw [if_pos hv]

end Go.Proofs.YtheidjnapoipaaaGreatDoor
