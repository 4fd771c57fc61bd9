/- The contracts of the alphabets, and of how many letters there are. -/
import Derived.Test.YtegpfdbfnilpmabRows
import Derived.WalkKit
import Derived.WalkSpells
import Derived.WalkLawsBesides
import Derived.Lib.Hide
import Derived.Deep.DeepCutAuto
import Derived.Test.YtegpfdbfnilpmabPlain
import Derived.Test.YtegpfdbfnilpmabMem
import Derived.Test.YtegpfdbfnilpmabDig
namespace Go.Proofs.Ytegpfdbfnilpmab
open Go.RowKit
set_option linter.unusedVariables false

def hexS : ByteArray := ⟨#[48, 49, 50, 51, 52, 53, 54, 55, 56, 57, 97, 98, 99, 100, 101, 102]⟩
def stdS : ByteArray := ⟨#[65, 66, 67, 68, 69, 70, 71, 72, 73, 74, 75, 76, 77, 78, 79, 80, 81, 82, 83, 84, 85, 86, 87, 88, 89, 90, 97, 98, 99, 100, 101, 102, 103, 104, 105, 106, 107, 108, 109, 110, 111, 112, 113, 114, 115, 116, 117, 118, 119, 120, 121, 122, 48, 49, 50, 51, 52, 53, 54, 55, 56, 57, 43, 47]⟩
def urlS : ByteArray := ⟨#[65, 66, 67, 68, 69, 70, 71, 72, 73, 74, 75, 76, 77, 78, 79, 80, 81, 82, 83, 84, 85, 86, 87, 88, 89, 90, 97, 98, 99, 100, 101, 102, 103, 104, 105, 106, 107, 108, 109, 110, 111, 112, 113, 114, 115, 116, 117, 118, 119, 120, 121, 122, 48, 49, 50, 51, 52, 53, 54, 55, 56, 57, 45, 95]⟩

/-- An alphabet as a value. -/
def alph (L : ByteArray) (k : Nat) (fill : Bool) : Value := .agg #[.string L, .int .i64 (k : Int), .bool fill]

set_option maxHeartbeats 400000 in
theorem Hex_any (w : World) : Calls Try.prog 17 #[] w fun e w' => e = .returned (alph hexS 4 false) ∧ Below w.heap.size w w' := by
  go_enter Try.func17, Try.ntmps17
  go_wp2
  exact bodyPost_ret (v := .agg #[.string ⟨#[48, 49, 50, 51, 52, 53, 54, 55, 56, 57, 97, 98, 99, 100, 101, 102]⟩, .int .i64 4, .bool false]) (by simp [results, Try.results17, go_sem]) rfl ⟨rfl, (Below.refl _ _).alloc (Nat.le_refl _) _⟩
set_option maxHeartbeats 400000 in
theorem Std_any (w : World) : Calls Try.prog 16 #[] w fun e w' => e = .returned (alph stdS 6 true) ∧ Below w.heap.size w w' := by
  go_enter Try.func16, Try.ntmps16
  go_wp2
  refine bodyPost_ret (v := alph stdS 6 true) (by simp [results, Try.results16, go_sem]; rfl) rfl ⟨rfl, (Below.refl _ _).alloc (Nat.le_refl _) _⟩
set_option maxHeartbeats 400000 in
theorem URL_any (w : World) : Calls Try.prog 18 #[] w fun e w' => e = .returned (alph urlS 6 false) ∧ Below w.heap.size w w' := by
  go_enter Try.func18, Try.ntmps18
  go_wp2
  refine bodyPost_ret (v := alph urlS 6 false) (by simp [results, Try.results18, go_sem]; rfl) rfl ⟨rfl, (Below.refl _ _).alloc (Nat.le_refl _) _⟩

set_option maxHeartbeats 400000 in
theorem Letters_any (L : ByteArray) (k : Nat) (fill : Bool) (w : World) : Calls Try.prog 12 #[alph L k fill] w fun e w' => e = .returned (.string L) ∧ Below w.heap.size w w' := by
  unfold alph
  go_enter Try.func12, Try.ntmps12
  go_wp2
  go_ret
  exact ⟨rfl, (Below.refl _ _).alloc (Nat.le_refl _) _⟩

/-- How many letters n bytes have, what is filled up among them. -/
def szA (k : Nat) (fill : Bool) (n : Nat) : Nat := n / 3 * (24 / k) + (if fill && decide (0 < n % 3) then 24 / k else (n % 3 * 8 + k - 1) / k)

set_option maxHeartbeats 400000 in
theorem Size_any (L : ByteArray) (k : Nat) (fill : Bool) (n : Nat) (w : World) (hk : k = 4 ∨ k = 6) (hn : n ≤ 1099511627776) :
    Calls Try.prog 11 #[alph L k fill, .int .i64 n] w fun e w' => e = .returned (.int .i64 (szA k fill n : Nat)) ∧ Below w.heap.size w w' := by
  unfold alph
  by_cases h0 : n = 0
  · subst h0
    rcases hk with rfl | rfl <;> cases fill
    all_goals
      go_enter Try.func11, Try.ntmps11
      go_wp2
      go_ret
      exact ⟨rfl, (Below.refl _ _).alloc (Nat.le_refl _) _⟩
  · rcases hk with rfl | rfl <;> cases fill
    all_goals
      go_enter Try.func11, Try.ntmps11
      go_wp2
    all_goals
      go_ret
      refine ⟨ret_int ?_, (Below.refl _ _).alloc (Nat.le_refl _) _⟩
      simp only [szA, Bool.true_and, Bool.false_and, Bool.false_eq_true, if_false, decide_eq_true_eq]
      first
        | omega
        | (split <;> omega)

set_option maxHeartbeats 400000 in
theorem Size_neg (L : ByteArray) (k : Nat) (fill : Bool) (n : Int) (w : World) (hk : k = 4 ∨ k = 6) (hn : n < 1) :
    Calls Try.prog 11 #[alph L k fill, .int .i64 n] w fun e w' => e = .returned (.int .i64 0) ∧ Below w.heap.size w w' := by
  unfold alph
  rcases hk with rfl | rfl
  all_goals
    go_enter Try.func11, Try.ntmps11
    go_wp2
    go_ret
    exact ⟨rfl, (Below.refl _ _).alloc (Nat.le_refl _) _⟩

set_option maxHeartbeats 400000 in
theorem Size_none (L : ByteArray) (fill : Bool) (n : Int) (w : World) :
    Calls Try.prog 11 #[alph L 0 fill, .int .i64 n] w fun e w' => e = .returned (.int .i64 0) ∧ Below w.heap.size w w' := by
  unfold alph
  go_enter Try.func11, Try.ntmps11
  go_wp2
  go_ret
  exact ⟨rfl, (Below.refl _ _).alloc (Nat.le_refl _) _⟩

/-- The alphabet of a number, its letters, its bits, whether it is filled up. -/
def letS (kind : Nat) : ByteArray := if kind = 0 then hexS else if kind = 1 then stdS else urlS
def bitK (kind : Nat) : Nat := if kind = 0 then 4 else 6
def filB (kind : Nat) : Bool := decide (kind = 1)

theorem alph_info : (Try.prog.info? 24).map (·.size) = some 3 := by kernel_rfl
def alphL (L : ByteArray) (k : Nat) (fill : Bool) : List Value := [.string L, .int .i64 (k : Int), .bool fill]
theorem alph_one (L : ByteArray) (k : Nat) (fill : Bool) : (alphL L k fill).toArray.all (·.oneCell') = true := by simp [alphL, Value.oneCell']

set_option maxHeartbeats 400000 in
theorem alphabet_any (kind : Nat) (w : World) (hk : kind ≤ 2) : Calls Try.prog 8 #[.int .i64 kind] w fun e w' => e = .returned (alph (letS kind) (bitK kind) (filB kind)) ∧ Below w.heap.size w w' := by
  have key : ∀ (w1 : World) (L : ByteArray) (k : Nat) (fill : Bool), Below (w.alloc (.cells #[.string ⟨#[]⟩, .int .i64 0, .bool false] 24)).heap.size (w.alloc (.cells #[.string ⟨#[]⟩, .int .i64 0, .bool false] 24)) w1 →
      Row w1 w.heap.size 24 [.string ⟨#[]⟩, .int .i64 0, .bool false] ∧ Row (w1.setRow w.heap.size (alphL L k fill).toArray) w.heap.size 24 (alphL L k fill) ∧ Below w.heap.size w (w1.setRow w.heap.size (alphL L k fill).toArray) := by
    intro w1 L k fill hb
    have hr := (Row.new w 24 [.string ⟨#[]⟩, .int .i64 0, .bool false]).below hb (by simp)
    exact ⟨hr, hr.put _, below_setRow (((Below.refl _ _).alloc (Nat.le_refl _) _).trans (hb.mono (by simp))) (Nat.le_refl _) _⟩
  have K := Lib.hid key
  clear key
  rcases (by omega : kind = 0 ∨ kind = 1 ∨ kind = 2) with rfl | rfl | rfl
  · go_enter Try.func8, Try.ntmps8
    go_wp2_with (first
      | (go_at_call 17; refine (Hex_any _).mono ?_; unfold alph; rintro e w1 ⟨rfl, hb1⟩; obtain ⟨hr, hr2, hb2⟩ := K.out _ hexS 4 false hb1)
      | (refine wpList_store_row rfl 24 (.tmp 2) (.tmp 6) rfl w.heap.size (alphL hexS 4 false).toArray rfl rfl 24 _ hr alph_info rfl (alph_one _ _ _) ?_))
    exact bodyPost_ret (v := alph hexS 4 false) (results_cell_row rfl _ _ w.heap.size 24 (alphL hexS 4 false).toArray (0, 0) _ rfl hr2 Try.underlying24 rfl alph_info) rfl ⟨rfl, hb2⟩
  · go_enter Try.func8, Try.ntmps8
    go_wp2_with (first
      | (go_at_call 16; refine (Std_any _).mono ?_; unfold alph; rintro e w1 ⟨rfl, hb1⟩; obtain ⟨hr, hr2, hb2⟩ := K.out _ stdS 6 true hb1)
      | (refine wpList_store_row rfl 24 (.tmp 2) (.tmp 9) rfl w.heap.size (alphL stdS 6 true).toArray rfl rfl 24 _ hr alph_info rfl (alph_one _ _ _) ?_))
    exact bodyPost_ret (v := alph stdS 6 true) (results_cell_row rfl _ _ w.heap.size 24 (alphL stdS 6 true).toArray (0, 0) _ rfl hr2 Try.underlying24 rfl alph_info) rfl ⟨rfl, hb2⟩
  · go_enter Try.func8, Try.ntmps8
    go_wp2_with (first
      | (go_at_call 18; refine (URL_any _).mono ?_; unfold alph; rintro e w1 ⟨rfl, hb1⟩; obtain ⟨hr, hr2, hb2⟩ := K.out _ urlS 6 false hb1)
      | (refine wpList_store_row rfl 24 (.tmp 2) (.tmp 10) rfl w.heap.size (alphL urlS 6 false).toArray rfl rfl 24 _ hr alph_info rfl (alph_one _ _ _) ?_))
    exact bodyPost_ret (v := alph urlS 6 false) (results_cell_row rfl _ _ w.heap.size 24 (alphL urlS 6 false).toArray (0, 0) _ rfl hr2 Try.underlying24 rfl alph_info) rfl ⟨rfl, hb2⟩

set_option maxHeartbeats 400000 in
theorem refLetters_any (kind : Nat) (w : World) (hk : kind ≤ 2) : Calls Try.prog 13 #[.int .i64 kind] w fun e w' => e = .returned (.string (letS kind)) ∧ w = w' := by
  rcases (by omega : kind = 0 ∨ kind = 1 ∨ kind = 2) with rfl | rfl | rfl
  all_goals
    go_enter Try.func13, Try.ntmps13
    go_wp2
    go_ret
    exact ⟨rfl, rfl⟩

set_option maxHeartbeats 400000 in
theorem refBits_any (kind : Nat) (w : World) (hk : kind ≤ 2) : Calls Try.prog 19 #[.int .i64 kind] w fun e w' => e = .returned (.int .i64 (bitK kind : Nat)) ∧ w = w' := by
  rcases (by omega : kind = 0 ∨ kind = 1 ∨ kind = 2) with rfl | rfl | rfl
  all_goals
    go_enter Try.func19, Try.ntmps19
    go_wp2
    go_ret
    exact ⟨rfl, rfl⟩
end Go.Proofs.Ytegpfdbfnilpmab
