/- The walk of DigitsDates. -/
import Derived.Test.YtfmknhildjgfmaaDoorDRefDate
namespace Go.Proofs.YtfmknhildjgfmaaDoor
open Go.RowKit
set_option linter.unusedVariables false

set_option maxRecDepth 100000 in
set_option maxHeartbeats 1000000 in
theorem DigitsDates_walk (a0 : ByteArray) (a1 : Int) (a2 : Int) (w0 : a0.size ≤ 140737488355328) (w1 : (Lit.int .i64 a1).wf = true) (w2 : (Lit.int .i64 a2).wf = true) (w : World) :
    Calls Tryd.prog 4 #[.string a0, .int .i64 a1, .int .i64 a2] w fun e w' => e = .returned (.bool true) ∧ Below w.heap.size w w' := by
  have h2 : -9223372036854775808 ≤ a2 ∧ a2 ≤ 9223372036854775807 := by simpa [Lit.wf, IntKind.min, IntKind.max, IntKind.signed, IntKind.bits] using w2
  clear w1 w2
  obtain ⟨h20, h21⟩ := h2
  by_cases h100 : 100 < a0.size
  · have h100' : (100 : Int) < (a0.size : Int) := by omega
    go_enter Tryd.func4, Tryd.ntmps4
    go_wp2_with (go_at_call 5; refine (awake_any _).mono ?_; rintro e wa ⟨rfl, hBa⟩)
    go_ret
    exact ⟨rfl, hBa⟩
  · have h100' : (a0.size : Int) ≤ 100 := by omega
    obtain ⟨C, HC⟩ : ∃ C, Hid (dateN a0 = C) := ⟨_, Lib.hid rfl⟩
    obtain ⟨D, HD⟩ : ∃ D, Hid (daysN a1 a2 = D) := ⟨_, Lib.hid rfl⟩
    have hCC : (C == C) = true := by simp
    have hDD : (D == D) = true := by simp
    go_enter Tryd.func4, Tryd.ntmps4
    go_wp2_with (first
      | (go_at_call 5; refine (awake_any _).mono ?_; rintro e wa ⟨rfl, hBa⟩)
      | (go_at_call 12; refine (Date_any a0 _ (by omega)).mono ?_; rintro e wb ⟨rfl, hBb⟩; rw [HC.out])
      | (go_at_call 13; refine (refDate_any a0 _ (by omega)).mono ?_; rintro e wc ⟨rfl, hBc⟩; rw [HC.out])
      | (go_at_call 14; refine (Days_any a1 a2 _).mono ?_; rintro e wd ⟨rfl, rfl⟩; rw [HD.out])
      | (go_at_call 15; refine (refDays_any a1 a2 _ h20 h21).mono ?_; rintro e we ⟨rfl, hBe⟩; rw [HD.out]))
    go_ret
    have e1 := hBa.size
    have e2 := hBb.size
    have e3 := hBc.size
    exact ⟨rfl, hBa.trans ((hBb.mono e1).trans ((hBc.mono (by omega)).trans (hBe.mono (by omega))))⟩
end Go.Proofs.YtfmknhildjgfmaaDoor
