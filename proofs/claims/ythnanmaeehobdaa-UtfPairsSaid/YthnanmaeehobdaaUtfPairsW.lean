/- The walk of UtfPairs. -/
import Derived.Deep.DeepCutAuto
import Derived.Test.YthnanmaeehobdaaUCount
import Derived.Test.YthnanmaeehobdaaUPair
namespace Go.Proofs.Ythnanmaeehobdaa
open Go.RowKit
set_option linter.unusedVariables false

theorem split_pair {a b : Int} (ha : 55296 ≤ a) (ha' : a < 56320) (hb : 56320 ≤ b) (hb' : b < 57344) :
    55296 + ((a - 55296) * 1024 + b - 56320 + 65536 - 65536) / 1024 = a ∧ 56320 + ((a - 55296) * 1024 + b - 56320 + 65536 - 65536) % 1024 = b := by omega
theorem pair_split (r : Int) : 65536 + (55296 + (r - 65536) / 1024 - 55296) * 1024 + (56320 + (r - 65536) % 1024 - 56320) = r := by omega

/-- What the law comes to with a pair's answers. -/
abbrev PairIs (a b x : Int) (ok : Bool) : Prop := ∀ W : World, Calls Try.prog 16 #[.int .u16 a, .int .u16 b] W fun e w' => e = .returned (.tuple #[.int .i32 x, .bool ok]) ∧ W = w'
abbrev SplitIs (r c d : Int) (ok : Bool) : Prop := ∀ W : World, Calls Try.prog 18 #[.int .i32 r] W fun e w' => e = .returned (.tuple #[.int .u16 c, .int .u16 d, .bool ok]) ∧ W = w'

theorem split_no (r : Int) (h : r < 65536 ∨ 1114111 < r) : SplitIs r 0 0 false := fun W => Split_no r W h
theorem pair_no (a b : Int) (h : ¬ (55296 ≤ a ∧ a < 56320) ∨ ¬ (56320 ≤ b ∧ b < 57344)) : PairIs a b 0 false := fun W => Pair_no a b W h

/-- A code point above ffff, split and paired again. -/
theorem there (r : Int) (h0 : 65536 ≤ r) (h1 : r ≤ 1114111) : ∃ c d, SplitIs r c d true ∧ PairIs c d r true := by
  refine ⟨_, _, fun W => Split_yes r W h0 h1, fun W => ?_⟩
  have h := Pair_yes (55296 + (r - 65536) / 1024) (56320 + (r - 65536) % 1024) W (by omega) (by omega) (by omega) (by omega)
  rw [pair_split r] at h
  exact h

set_option maxRecDepth 100000 in
set_option maxHeartbeats 8000000 in
theorem UtfPairs_walk (a0 : Int) (a1 : Int) (a2 : Int) (w0 : (Lit.int .u16 a0).wf = true) (w1 : (Lit.int .u16 a1).wf = true) (w2 : (Lit.int .i32 a2).wf = true) (w : World) :
    Calls Try.prog 5 #[.int .u16 a0, .int .u16 a1, .int .i32 a2] w fun e w' => e = .returned (.bool true) ∧ Below w.heap.size w w' := by
  have ha : 0 ≤ a0 ∧ a0 ≤ 65535 := by simpa [Lit.wf, IntKind.min, IntKind.max, IntKind.signed, IntKind.bits] using w0
  have hb : 0 ≤ a1 ∧ a1 ≤ 65535 := by simpa [Lit.wf, IntKind.min, IntKind.max, IntKind.signed, IntKind.bits] using w1
  have hr : -2147483648 ≤ a2 ∧ a2 ≤ 2147483647 := by simpa [Lit.wf, IntKind.min, IntKind.max, IntKind.signed, IntKind.bits] using w2
  clear w0 w1 w2
  obtain ⟨ha0, ha1⟩ := ha
  obtain ⟨hb0, hb1⟩ := hb
  obtain ⟨hr0, hr1⟩ := hr
  -- the second half's answers
  have h00 : Hid (PairIs 0 0 0 false) := Lib.hid (pair_no 0 0 (by omega))
  have HR : (∃ c d, Hid (SplitIs a2 c d true) ∧ Hid (PairIs c d a2 true) ∧ 65536 ≤ a2 ∧ a2 ≤ 1114111) ∨ (Hid (SplitIs a2 0 0 false) ∧ (a2 < 65536 ∨ 1114111 < a2)) := by
    by_cases h : 65536 ≤ a2 ∧ a2 ≤ 1114111
    · obtain ⟨c, d, h1, h2⟩ := there a2 h.1 h.2
      exact .inl ⟨c, d, Lib.hid h1, Lib.hid h2, h.1, h.2⟩
    · exact .inr ⟨Lib.hid (split_no a2 (by omega)), by omega⟩
  by_cases hp : (55296 ≤ a0 ∧ a0 < 56320) ∧ (56320 ≤ a1 ∧ a1 < 57344)
  · obtain ⟨⟨p1, p2⟩, p3, p4⟩ := hp
    have s1 : (surr a0 == 1) = true := by rw [surr_1 p1 p2]; rfl
    have s2 : (surr a1 == 2) = true := by rw [surr_2 p3 (by omega)]; rfl
    have hsp := split_pair p1 p2 p3 p4
    have hpc0 := fun W => Pair_yes a0 a1 W p1 p2 p3 p4
    have e : 65536 + (a0 - 55296) * 1024 + (a1 - 56320) = (a0 - 55296) * 1024 + a1 - 56320 + 65536 := by omega
    rw [e] at hpc0
    clear e
    have hx0 : 65536 ≤ (a0 - 55296) * 1024 + a1 - 56320 + 65536 := by omega
    have hx1 : (a0 - 55296) * 1024 + a1 - 56320 + 65536 ≤ 1114111 := by omega
    have hsc0 := fun W => Split_yes _ W hx0 hx1
    rw [hsp.1, hsp.2] at hsc0
    obtain ⟨x, hx⟩ : ∃ x, (a0 - 55296) * 1024 + a1 - 56320 + 65536 = x := ⟨_, rfl⟩
    rw [hx] at hpc0 hsc0 hx0 hx1
    have hpc : Hid (PairIs a0 a1 x true) := Lib.hid hpc0
    have hsc : Hid (SplitIs x a0 a1 true) := Lib.hid hsc0
    clear hsp hpc0 hsc0
    rcases HR with ⟨c, d, h1, h2, h3, h4⟩ | ⟨h1, h3 | h3⟩
    · clear h00
      go_enter Try.func5, Try.ntmps5
      go_wp2_with (first
        | (go_at_call 7; refine (awake_any _).mono ?_; rintro e wa ⟨rfl, hB⟩)
        | (go_at_call 16; ((with_reducible refine (hpc.out _).mono ?_); rintro e wa ⟨rfl, rfl⟩))
        | (go_at_call 16; ((with_reducible refine (h2.out _).mono ?_); rintro e wa ⟨rfl, rfl⟩))
        | (go_at_call 17; ((with_reducible refine (Surrogate_any a0 _).mono ?_); rintro e w' ⟨rfl, rfl⟩))
        | (go_at_call 17; ((with_reducible refine (Surrogate_any a1 _).mono ?_); rintro e w' ⟨rfl, rfl⟩))
        | (go_at_call 18; ((with_reducible refine (h1.out _).mono ?_); rintro e wa ⟨rfl, rfl⟩))
        | (go_at_call 18; ((with_reducible refine (hsc.out _).mono ?_); rintro e wa ⟨rfl, rfl⟩)))
      go_ret
      exact ⟨rfl, hB⟩
    · have h2 := h00
      go_enter Try.func5, Try.ntmps5
      go_wp2_with (first
        | (go_at_call 7; refine (awake_any _).mono ?_; rintro e wa ⟨rfl, hB⟩)
        | (go_at_call 16; ((with_reducible refine (hpc.out _).mono ?_); rintro e wa ⟨rfl, rfl⟩))
        | (go_at_call 16; ((with_reducible refine (h2.out _).mono ?_); rintro e wa ⟨rfl, rfl⟩))
        | (go_at_call 17; ((with_reducible refine (Surrogate_any a0 _).mono ?_); rintro e w' ⟨rfl, rfl⟩))
        | (go_at_call 17; ((with_reducible refine (Surrogate_any a1 _).mono ?_); rintro e w' ⟨rfl, rfl⟩))
        | (go_at_call 18; ((with_reducible refine (h1.out _).mono ?_); rintro e wa ⟨rfl, rfl⟩))
        | (go_at_call 18; ((with_reducible refine (hsc.out _).mono ?_); rintro e wa ⟨rfl, rfl⟩)))
      go_ret
      exact ⟨rfl, hB⟩
    · have h2 := h00
      go_enter Try.func5, Try.ntmps5
      go_wp2_with (first
        | (go_at_call 7; refine (awake_any _).mono ?_; rintro e wa ⟨rfl, hB⟩)
        | (go_at_call 16; ((with_reducible refine (hpc.out _).mono ?_); rintro e wa ⟨rfl, rfl⟩))
        | (go_at_call 16; ((with_reducible refine (h2.out _).mono ?_); rintro e wa ⟨rfl, rfl⟩))
        | (go_at_call 17; ((with_reducible refine (Surrogate_any a0 _).mono ?_); rintro e w' ⟨rfl, rfl⟩))
        | (go_at_call 17; ((with_reducible refine (Surrogate_any a1 _).mono ?_); rintro e w' ⟨rfl, rfl⟩))
        | (go_at_call 18; ((with_reducible refine (h1.out _).mono ?_); rintro e wa ⟨rfl, rfl⟩))
        | (go_at_call 18; ((with_reducible refine (hsc.out _).mono ?_); rintro e wa ⟨rfl, rfl⟩)))
      go_ret
      exact ⟨rfl, hB⟩
  · have hpc : Hid (PairIs a0 a1 0 false) := Lib.hid (pair_no a0 a1 (by omega))
    have hsc : Hid (SplitIs 0 0 0 false) := Lib.hid (split_no 0 (by omega))
    have HA : ((55296 ≤ a0 ∧ a0 < 56320) ∧ (surr a0 == 1) = true) ∨ (a0 < 55296 ∧ (surr a0 == 1) = false) ∨ (56320 ≤ a0 ∧ (surr a0 == 1) = false) := by
      by_cases h1 : a0 < 55296
      · exact .inr (.inl ⟨h1, by rw [surr_0 (.inl h1)]; rfl⟩)
      · by_cases h2 : a0 < 56320
        · exact .inl ⟨⟨by omega, h2⟩, by rw [surr_1 (by omega) h2]; rfl⟩
        · refine .inr (.inr ⟨by omega, ?_⟩)
          by_cases h3 : a0 ≤ 57343
          · rw [surr_2 (by omega) h3]; rfl
          · rw [surr_0 (by omega)]; rfl
    have HB : ((56320 ≤ a1 ∧ a1 < 57344) ∧ (surr a1 == 2) = true) ∨ (a1 < 56320 ∧ (surr a1 == 2) = false) ∨ (57344 ≤ a1 ∧ (surr a1 == 2) = false) := by
      by_cases h1 : a1 < 56320
      · refine .inr (.inl ⟨h1, ?_⟩)
        by_cases h3 : a1 < 55296
        · rw [surr_0 (.inl h3)]; rfl
        · rw [surr_1 (by omega) h1]; rfl
      · by_cases h2 : a1 < 57344
        · exact .inl ⟨⟨by omega, h2⟩, by rw [surr_2 (by omega) (by omega)]; rfl⟩
        · exact .inr (.inr ⟨by omega, by rw [surr_0 (by omega)]; rfl⟩)
    rcases HA with ⟨⟨p1, p2⟩, s1⟩ | ⟨p1, s1⟩ | ⟨p1, s1⟩ <;> rcases HB with ⟨⟨p3, p4⟩, s2⟩ | ⟨p3, s2⟩ | ⟨p3, s2⟩
    · exact absurd ⟨⟨p1, p2⟩, p3, p4⟩ hp
    all_goals
      clear hp
      rcases HR with ⟨c, d, h1, h2, h3, h4⟩ | ⟨h1, h3 | h3⟩
      · clear h00
        go_enter Try.func5, Try.ntmps5
        go_wp2_with (first
          | (go_at_call 7; refine (awake_any _).mono ?_; rintro e wa ⟨rfl, hB⟩)
          | (go_at_call 16; ((with_reducible refine (hpc.out _).mono ?_); rintro e wa ⟨rfl, rfl⟩))
          | (go_at_call 16; ((with_reducible refine (h2.out _).mono ?_); rintro e wa ⟨rfl, rfl⟩))
          | (go_at_call 17; ((with_reducible refine (Surrogate_any a0 _).mono ?_); rintro e w' ⟨rfl, rfl⟩))
          | (go_at_call 17; ((with_reducible refine (Surrogate_any a1 _).mono ?_); rintro e w' ⟨rfl, rfl⟩))
          | (go_at_call 18; ((with_reducible refine (h1.out _).mono ?_); rintro e wa ⟨rfl, rfl⟩))
          | (go_at_call 18; ((with_reducible refine (hsc.out _).mono ?_); rintro e wa ⟨rfl, rfl⟩)))
        go_ret
        exact ⟨rfl, hB⟩
      · have h2 := h00
        go_enter Try.func5, Try.ntmps5
        go_wp2_with (first
          | (go_at_call 7; refine (awake_any _).mono ?_; rintro e wa ⟨rfl, hB⟩)
          | (go_at_call 16; ((with_reducible refine (hpc.out _).mono ?_); rintro e wa ⟨rfl, rfl⟩))
          | (go_at_call 16; ((with_reducible refine (h2.out _).mono ?_); rintro e wa ⟨rfl, rfl⟩))
          | (go_at_call 17; ((with_reducible refine (Surrogate_any a0 _).mono ?_); rintro e w' ⟨rfl, rfl⟩))
          | (go_at_call 17; ((with_reducible refine (Surrogate_any a1 _).mono ?_); rintro e w' ⟨rfl, rfl⟩))
          | (go_at_call 18; ((with_reducible refine (h1.out _).mono ?_); rintro e wa ⟨rfl, rfl⟩))
          | (go_at_call 18; ((with_reducible refine (hsc.out _).mono ?_); rintro e wa ⟨rfl, rfl⟩)))
        go_ret
        exact ⟨rfl, hB⟩
      · have h2 := h00
        go_enter Try.func5, Try.ntmps5
        go_wp2_with (first
          | (go_at_call 7; refine (awake_any _).mono ?_; rintro e wa ⟨rfl, hB⟩)
          | (go_at_call 16; ((with_reducible refine (hpc.out _).mono ?_); rintro e wa ⟨rfl, rfl⟩))
          | (go_at_call 16; ((with_reducible refine (h2.out _).mono ?_); rintro e wa ⟨rfl, rfl⟩))
          | (go_at_call 17; ((with_reducible refine (Surrogate_any a0 _).mono ?_); rintro e w' ⟨rfl, rfl⟩))
          | (go_at_call 17; ((with_reducible refine (Surrogate_any a1 _).mono ?_); rintro e w' ⟨rfl, rfl⟩))
          | (go_at_call 18; ((with_reducible refine (h1.out _).mono ?_); rintro e wa ⟨rfl, rfl⟩))
          | (go_at_call 18; ((with_reducible refine (hsc.out _).mono ?_); rintro e wa ⟨rfl, rfl⟩)))
        go_ret
        exact ⟨rfl, hB⟩
end Go.Proofs.Ythnanmaeehobdaa
