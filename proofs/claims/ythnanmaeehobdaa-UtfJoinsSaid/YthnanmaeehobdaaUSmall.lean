/- The contracts of utf's functions that go over no text. -/
import Derived.Test.YthnanmaeehobdaaRows
import Derived.WalkKit
import Derived.WalkSpells
import Derived.WalkLawsBesides
import Derived.Lib.Hide
import Derived.Deep.QuietTactic
import Derived.BigQuiet
import Derived.Test.YthnanmaeehobdaaUPlain
import Derived.Test.YthnanmaeehobdaaMem
namespace Go.Proofs.Ythnanmaeehobdaa
open Go.RowKit
set_option linter.unusedVariables false

/-- What Put writes. -/
def putB (r : Int) : ByteArray := if Utf8.valid r then ⟨(enc r.toNat).toArray⟩ else ⟨#[]⟩

theorem ret_int {k : IntKind} {a b : Int} (h : a = b) : Ending.returned (.int k a) = .returned (.int k b) := by rw [h]
theorem ret_boolE {a b : Bool} (h : a = b) : Ending.returned (.bool a) = .returned (.bool b) := by rw [h]
theorem ret_str {a b : ByteArray} (h : a = b) : Ending.returned (.string a) = .returned (.string b) := by rw [h]

theorem putB_not {r : Int} (h : Utf8.valid r = false) : putB r = ⟨#[]⟩ := by unfold putB; rw [h]; rfl
theorem putB_valid {r : Int} (h : Utf8.valid r = true) : putB r = Utf8.encode r := by
  have h0 : 0 ≤ r := by have := (valid_iff r).1 h; omega
  obtain ⟨c, rfl⟩ : ∃ c : Nat, r = c := ⟨r.toNat, by omega⟩
  unfold putB
  rw [if_pos h, encode_eq c h]
  rfl
theorem putB_nat {c : Nat} (h : Utf8.valid c = true) : putB c = ⟨(enc c).toArray⟩ := by unfold putB; rw [if_pos h]; rfl
theorem putB_size {c : Nat} (h : Utf8.valid c = true) : (putB c).size = encLen c := by
  rw [putB_nat h, ← enc_length]
  show (enc c).toArray.size = _
  simp

theorem eL1 {r : Int} (g : 0 ≤ r) (h : r ≤ 127) : encLen r.toNat = 1 := by unfold encLen; rw [if_pos (by omega)]
theorem eL2 {r : Int} (g : 127 < r) (h : r ≤ 2047) : encLen r.toNat = 2 := by unfold encLen; rw [if_neg (by omega), if_pos (by omega)]
theorem eL3 {r : Int} (g : 2047 < r) (h : r ≤ 65535) : encLen r.toNat = 3 := by unfold encLen; rw [if_neg (by omega), if_neg (by omega), if_pos (by omega)]
theorem eL4 {r : Int} (g : 65535 < r) : encLen r.toNat = 4 := by unfold encLen; rw [if_neg (by omega), if_neg (by omega), if_neg (by omega)]

set_option maxHeartbeats 400000 in
theorem RuneLen_int (r : Int) (w : World) (hv : Utf8.valid r = true) :
    Calls Try.prog 22 #[.int .i32 r] w fun e w' => e = .returned (.int .i64 (encLen r.toNat : Nat)) ∧ w = w' := by
  have H := Lib.hid ((valid_iff r).1 hv)
  have h0 : 0 ≤ r := by have := H.out; omega
  clear hv
  go_enter Try.func22, Try.ntmps22
  go_wp2
  all_goals have H' := H.out
  all_goals first
    | (exfalso; omega)
    | (go_ret; exact ⟨ret_int (by rw [eL1 (by omega) (by omega)]; rfl), rfl⟩)
    | (go_ret; exact ⟨ret_int (by rw [eL2 (by omega) (by omega)]; rfl), rfl⟩)
    | (go_ret; exact ⟨ret_int (by rw [eL3 (by omega) (by omega)]; rfl), rfl⟩)
    | (go_ret; exact ⟨ret_int (by rw [eL4 (by omega)]; rfl), rfl⟩)

theorem RuneLen_any (c : Nat) (w : World) (hv : Utf8.valid c = true) :
    Calls Try.prog 22 #[.int .i32 (c : Nat)] w fun e w' => e = .returned (.int .i64 (encLen c : Nat)) ∧ w = w' := by
  have h := RuneLen_int c w hv
  rw [Int.toNat_natCast] at h
  exact h

theorem v_yes {r : Int} (h : (0 ≤ r ∧ r < 55296) ∨ (57344 ≤ r ∧ r ≤ 1114111)) : Utf8.valid r = true := (valid_iff r).2 h
theorem v_no {r : Int} (h : ¬ ((0 ≤ r ∧ r < 55296) ∨ (57344 ≤ r ∧ r ≤ 1114111))) : Utf8.valid r = false := by
  cases hb : Utf8.valid r with
  | false => rfl
  | true => exact absurd ((valid_iff r).1 hb) h

set_option maxHeartbeats 400000 in
theorem ValidRune_any (r : Int) (w : World) :
    Calls Try.prog 23 #[.int .i32 r] w fun e w' => e = .returned (.bool (Utf8.valid r)) ∧ w = w' := by
  go_enter Try.func23, Try.ntmps23
  go_wp2
  all_goals go_ret
  all_goals first
    | exact ⟨ret_boolE (v_yes (by omega)).symm, rfl⟩
    | exact ⟨ret_boolE (v_no (by omega)).symm, rfl⟩

set_option maxHeartbeats 400000 in
theorem Put_any (r : Int) (w : World) :
    Calls Try.prog 13 #[.int .i32 r] w fun e w' => e = .returned (.string (putB r)) ∧ w = w' := by
  cases hv : Utf8.valid r with
  | true =>
    rw [putB_valid hv]
    have hn : (!Utf8.valid r) = false := by rw [hv]; rfl
    go_enter Try.func13, Try.ntmps13
    go_wp2_with (go_at_call 23; refine (ValidRune_any _ _).mono ?_; rintro e w' ⟨rfl, rfl⟩)
    go_ret
    exact ⟨rfl, rfl⟩
  | false =>
    rw [putB_not hv]
    have hn : (!Utf8.valid r) = true := by rw [hv]; rfl
    go_enter Try.func13, Try.ntmps13
    go_wp2_with (go_at_call 23; refine (ValidRune_any _ _).mono ?_; rintro e w' ⟨rfl, rfl⟩)
    go_ret
    exact ⟨rfl, rfl⟩

/-- The kind of half: 1 a high one, 2 a low one. -/
def surr (n : Int) : Int := if n < 55296 then 0 else if n < 56320 then 1 else if n < 57344 then 2 else 0
theorem surr_0 {n : Int} (h : n < 55296 ∨ 57343 < n) : surr n = 0 := by unfold surr; split; rfl; rw [if_neg (by omega), if_neg (by omega)]
theorem surr_1 {n : Int} (h : 55296 ≤ n) (g : n < 56320) : surr n = 1 := by unfold surr; rw [if_neg (by omega), if_pos (by omega)]
theorem surr_2 {n : Int} (h : 56320 ≤ n) (g : n ≤ 57343) : surr n = 2 := by unfold surr; rw [if_neg (by omega), if_neg (by omega), if_pos (by omega)]

set_option maxHeartbeats 400000 in
theorem Surrogate_any (n : Int) (w : World) :
    Calls Try.prog 17 #[.int .u16 n] w fun e w' => e = .returned (.int .i64 (surr n)) ∧ w = w' := by
  go_enter Try.func17, Try.ntmps17
  go_wp2
  all_goals go_ret
  all_goals first
    | exact ⟨ret_int (surr_0 (by omega)).symm, rfl⟩
    | exact ⟨ret_int (surr_1 (by omega) (by omega)).symm, rfl⟩
    | exact ⟨ret_int (surr_2 (by omega) (by omega)).symm, rfl⟩

theorem v_or {r : Int} (h0 : 0 ≤ r) (h1 : r ≤ 1114111) : (decide (r < 55296) || decide (57343 < r)) = Utf8.valid r := by
  by_cases h2 : r < 55296
  · rw [decide_eq_true h2, v_yes (by omega)]; rfl
  · by_cases h3 : 57343 < r
    · rw [decide_eq_true h3, v_yes (by omega), Bool.or_true]
    · rw [decide_eq_false h2, decide_eq_false h3, v_no (by omega)]; rfl

set_option maxHeartbeats 400000 in
theorem Point_any (r : Int) (w : World) :
    Calls Try.prog 15 #[.int .i64 r] w fun e w' => e = .returned (.bool (Utf8.valid r)) ∧ w = w' := by
  go_enter Try.func15, Try.ntmps15
  go_wp2
  all_goals go_ret
  all_goals first
    | exact ⟨ret_boolE (v_yes (by omega)).symm, rfl⟩
    | exact ⟨ret_boolE (v_or (by omega) (by omega)), rfl⟩
    | exact ⟨ret_boolE (v_no (by omega)).symm, rfl⟩

/-- The text of a literal of bytes. -/
theorem conv_lit (w : World) (vs : List Int) (l : List UInt8) (n : Nat) (hn : l.length = n) (h : vs = l.map (fun c => (c.toNat : Int))) :
    (convert 46 9 (.slice (some ⟨w.heap.size, 0, none⟩) n n)).run Try.prog (w.alloc (.cells (vs.map (Value.int .u8)).toArray 5)) = .ok (.string ⟨l.toArray⟩) (w.alloc (.cells (vs.map (Value.int .u8)).toArray 5)) := by
  refine conv_bytes _ 46 9 5 Try.underlying46 Try.underlying5 Try.underlying9 w.heap.size 0 n n l hn (fun i hi => ?_)
  have hr := (Row.new w 5 (vs.map (Value.int .u8))).cell i
  rw [Nat.zero_add, hr, h, List.map_map]
  rfl

theorem tn_i {r : Int} (n : Nat) (h : r = n ∧ n < 256) : r = ((UInt8.ofNat n).toNat : Int) := by rw [tn n h.2]; exact h.1

theorem ce {a b : Int} {l m : List Int} (h : a = b) (k : l = m) : a :: l = b :: m := by rw [h, k]

theorem refPut_c (r : Int) (n : Nat) (vs : List Int) (h : vs = (enc r.toNat).map (fun c => (c.toNat : Int))) (hn : (enc r.toNat).length = n) (hv : Utf8.valid r = true) (w : World) :
    (convert 46 9 (.slice (some ⟨w.heap.size, 0, none⟩) n n)).run Try.prog (w.alloc (.cells (vs.map (Value.int .u8)).toArray 5)) = .ok (.string (putB r)) (w.alloc (.cells (vs.map (Value.int .u8)).toArray 5)) := by
  rw [conv_lit w vs _ n hn h]
  unfold putB
  rw [if_pos hv]

set_option maxHeartbeats 1000000 in
theorem refPut_any (r : Int) (w : World) :
    Calls Try.prog 14 #[.int .i64 r] w fun e w' => e = .returned (.string (putB r)) ∧ Below w.heap.size w w' := by
  cases hv : Utf8.valid r with
  | false =>
    rw [putB_not hv]
    have hn : (!Utf8.valid r) = true := by rw [hv]; rfl
    go_enter Try.func14, Try.ntmps14
    go_wp2_with (go_at_call 15; refine (Point_any _ _).mono ?_; rintro e w' ⟨rfl, rfl⟩)
    go_ret
    exact ⟨rfl, Below.refl _ _⟩
  | true =>
    have hn : (!Utf8.valid r) = false := by rw [hv]; rfl
    have H := (valid_iff r).1 hv
    have h0 : 0 ≤ r := by omega
    have h1 : r ≤ 1114111 := by omega
    clear H
    have hb : Below w.heap.size w w := Below.refl _ _
    by_cases c1 : r < 128
    · have hcv := refPut_c r 1 [r] (by unfold enc; rw [if_pos (by omega)]; simp only [List.map_cons, List.map_nil]; exact ce (tn_i _ (by omega)) rfl) (by unfold enc; rw [if_pos (by omega)]; rfl) hv w
      obtain ⟨s, HS⟩ : ∃ s, Hid (putB r = s) := ⟨_, Lib.hid rfl⟩
      rw [HS.out] at hcv ⊢
      simp only [List.map_cons, List.map_nil] at hcv
      clear hv
      go_enter Try.func14, Try.ntmps14
      go_wp2_with (go_at_call 15; refine (Point_any _ _).mono ?_; rintro e w' ⟨rfl, rfl⟩)
      go_ret
      exact ⟨rfl, hb.alloc (Nat.le_refl _) _⟩
    · by_cases c2 : r < 2048
      · have hcv := refPut_c r 2 [192 + r / 64, 128 + r % 64] (by unfold enc; rw [if_neg (by omega), if_pos (by omega)]; simp only [List.map_cons, List.map_nil]; exact ce (tn_i _ (by omega)) (ce (tn_i _ (by omega)) rfl)) (by unfold enc; rw [if_neg (by omega), if_pos (by omega)]; rfl) hv w
        obtain ⟨s, HS⟩ : ∃ s, Hid (putB r = s) := ⟨_, Lib.hid rfl⟩
        rw [HS.out] at hcv ⊢
        simp only [List.map_cons, List.map_nil] at hcv
        clear hv
        have g1 : 192 + r / 64 < 256 := by omega
        have g2 : 128 + r % 64 < 256 := by omega
        have g3 : 0 ≤ 192 + r / 64 := by omega
        have g4 : 0 ≤ 128 + r % 64 := by omega
        go_enter Try.func14, Try.ntmps14
        go_wp2_with (go_at_call 15; refine (Point_any _ _).mono ?_; rintro e w' ⟨rfl, rfl⟩)
        go_ret
        exact ⟨rfl, hb.alloc (Nat.le_refl _) _⟩
      · by_cases c3 : r < 65536
        · have hcv := refPut_c r 3 [224 + r / 4096, 128 + r / 64 % 64, 128 + r % 64] (by unfold enc; rw [if_neg (by omega), if_neg (by omega), if_pos (by omega)]; simp only [List.map_cons, List.map_nil]; exact ce (tn_i _ (by omega)) (ce (tn_i _ (by omega)) (ce (tn_i _ (by omega)) rfl))) (by unfold enc; rw [if_neg (by omega), if_neg (by omega), if_pos (by omega)]; rfl) hv w
          obtain ⟨s, HS⟩ : ∃ s, Hid (putB r = s) := ⟨_, Lib.hid rfl⟩
          rw [HS.out] at hcv ⊢
          simp only [List.map_cons, List.map_nil] at hcv
          clear hv
          have g1 : 224 + r / 4096 < 256 := by omega
          have g2 : 128 + r % 64 < 256 := by omega
          have g3 : 0 ≤ 224 + r / 4096 := by omega
          have g4 : 0 ≤ 128 + r % 64 := by omega
          have g5 : 128 + r / 64 % 64 < 256 := by omega
          have g6 : 0 ≤ 128 + r / 64 % 64 := by omega
          have g7 : 0 ≤ r / 64 := by omega
          go_enter Try.func14, Try.ntmps14
          go_wp2_with (go_at_call 15; refine (Point_any _ _).mono ?_; rintro e w' ⟨rfl, rfl⟩)
          go_ret
          exact ⟨rfl, hb.alloc (Nat.le_refl _) _⟩
        · have hcv := refPut_c r 4 [240 + r / 262144, 128 + r / 4096 % 64, 128 + r / 64 % 64, 128 + r % 64] (by unfold enc; rw [if_neg (by omega), if_neg (by omega), if_neg (by omega)]; simp only [List.map_cons, List.map_nil]; exact ce (tn_i _ (by omega)) (ce (tn_i _ (by omega)) (ce (tn_i _ (by omega)) (ce (tn_i _ (by omega)) rfl)))) (by unfold enc; rw [if_neg (by omega), if_neg (by omega), if_neg (by omega)]; rfl) hv w
          obtain ⟨s, HS⟩ : ∃ s, Hid (putB r = s) := ⟨_, Lib.hid rfl⟩
          rw [HS.out] at hcv ⊢
          simp only [List.map_cons, List.map_nil] at hcv
          clear hv
          have g1 : 240 + r / 262144 < 256 := by omega
          have g2 : 128 + r % 64 < 256 := by omega
          have g3 : 0 ≤ 240 + r / 262144 := by omega
          have g4 : 0 ≤ 128 + r % 64 := by omega
          have g5 : 128 + r / 64 % 64 < 256 := by omega
          have g6 : 0 ≤ 128 + r / 64 % 64 := by omega
          have g7 : 0 ≤ r / 64 := by omega
          have g8 : 128 + r / 4096 % 64 < 256 := by omega
          have g9 : 0 ≤ 128 + r / 4096 % 64 := by omega
          have g10 : 0 ≤ r / 4096 := by omega
          go_enter Try.func14, Try.ntmps14
          go_wp2_with (go_at_call 15; refine (Point_any _ _).mono ?_; rintro e w' ⟨rfl, rfl⟩)
          go_ret
          exact ⟨rfl, hb.alloc (Nat.le_refl _) _⟩
end Go.Proofs.Ythnanmaeehobdaa
