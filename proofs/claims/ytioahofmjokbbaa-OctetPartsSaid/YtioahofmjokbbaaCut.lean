/- The contracts of the cut of counted texts. -/
import Derived.Test.YtioahofmjokbbaaRows
import Derived.WalkKit
import Derived.WalkSpells
import Derived.WalkLawsBesides
import Derived.Lib.Hide
import Derived.Deep.QuietTactic
import Derived.BigQuiet
import Derived.Test.YtioahofmjokbbaaCount
namespace Go.Proofs.Ytioahofmjokbbaa
open Go.RowKit
set_option linter.unusedVariables false

/-- What a counted text begins with: the number told, if there are so many bytes behind it. -/
def toldN (s : ByteArray) : Nat := getL (s.data.toList.take 4)
def fits (s : ByteArray) : Bool := decide (4 ≤ s.size) && decide (toldN s ≤ s.size - 4)
def partB (s : ByteArray) : ByteArray := if fits s then s.extract 4 (4 + toldN s) else ⟨#[]⟩
def restB (s : ByteArray) : ByteArray := if fits s then s.extract (4 + toldN s) s.size else ⟨#[]⟩

theorem toldN_lt (s : ByteArray) : toldN s < 4294967296 := by
  have h := getL_lt (s.data.toList.take 4)
  have h2 : (s.data.toList.take 4).length ≤ 4 := List.length_take_le _ _
  have h3 : 256 ^ (s.data.toList.take 4).length ≤ 256 ^ 4 := Nat.pow_le_pow_right (by omega) h2
  have e : (256 : Nat) ^ 4 = 4294967296 := by decide
  unfold toldN
  omega

set_option maxHeartbeats 400000 in
theorem Cut_any (s : ByteArray) (w : World) (hs : s.size ≤ 140737488355328) :
    Calls Try.prog 20 #[.string s] w fun e w' => (∃ n, w' = w.drewN n) ∧ e = .returned (.tuple #[.string (partB s), .string (restB s), .int .i64 (if fits s then 0 else 3)]) := by
  by_cases h4 : 4 ≤ s.size
  · have hnum : Hid (∀ W : World, Calls Try.prog 23 #[.string (s.extract 0 4)] W fun e w' => e = .returned (.int .u64 (toldN s : Nat)) ∧ w' = W) := fun W => by
      have hsz : (s.extract 0 4).size = 4 := by rw [ByteArray.size_extract]; omega
      have h := number_any (s.extract 0 4) W (by omega)
      have e : getL (s.extract 0 4).data.toList = toldN s := by
        unfold toldN
        rw [ByteArray.data_extract, Array.toList_extract, List.extract_eq_take_drop]
        rfl
      rw [e] at h
      exact h.mono fun _ _ hh => ⟨hh.1, hh.2.symm⟩
    have htl := toldN_lt s
    obtain ⟨n, HN⟩ : ∃ n, Hid (toldN s = n) := ⟨_, Lib.hid rfl⟩
    rw [HN.out] at hnum htl
    have hrs : (s.extract 4 s.size).size = s.size - 4 := by rw [ByteArray.size_extract]; omega
    have HRS := Lib.hid hrs
    have h40 : (4 : Int) ≤ (s.size : Int) := by omega
    go_enter Try.func20, Try.ntmps20
    go_wp2_with fail
    go_quiet ((go_at_call 23; exact Calls.quiet_of_same (hnum.out _)))
    obtain ⟨R, HR⟩ : ∃ R, Hid (s.extract 4 s.size = R) := ⟨_, Lib.hid rfl⟩
    rw [HR.out]
    have hRs : R.size = s.size - 4 := by rw [← HR.out]; exact HRS.out
    have hfit : fits s = decide (n ≤ s.size - 4) := by
      unfold fits
      rw [HN.out, decide_eq_true h4, Bool.true_and]
    by_cases hf : n ≤ R.size
    · have h1 : fits s = true := by rw [hfit]; simp; omega
      have ep : partB s = R.extract 0 n := by
        unfold partB
        rw [if_pos h1, HN.out, ← HR.out, ByteArray.extract_extract]
        congr 1
        omega
      have er : restB s = R.extract n R.size := by
        unfold restB
        rw [if_pos h1, HN.out, hRs, ← HR.out, ByteArray.extract_extract]
        congr 1
        omega
      have HP := Lib.hid (And.intro h1 (And.intro ep er))
      have hn1 : (n : Int) ≤ (R.size : Int) := by omega
      have hR47 : R.size ≤ 140737488355328 := by omega
      clear h1 ep er hRs hfit
      go_wp2_with fail
      go_quiet (fail)
      go_wp2_with fail
      go_ret3
      all_goals first
        | (exact absurd HP.out.1 ‹¬ fits s = true›)
        | (rw [HP.out.2.1, HP.out.2.2]; first | exact ⟨⟨_, rfl⟩, rfl⟩ | (go_ret3; exact ⟨⟨_, rfl⟩, rfl⟩) | (show _ ∧ _; exact ⟨⟨_, rfl⟩, rfl⟩))
    · have h1 : fits s = false := by rw [hfit]; simp; omega
      have ep : partB s = ⟨#[]⟩ := by unfold partB; rw [h1]; rfl
      have er : restB s = ⟨#[]⟩ := by unfold restB; rw [h1]; rfl
      have HP := Lib.hid (And.intro h1 (And.intro ep er))
      have hn1 : (R.size : Int) < (n : Int) := by omega
      have hR47 : R.size ≤ 140737488355328 := by omega
      clear h1 ep er hRs hfit
      go_wp2_with fail
      go_ret3
      all_goals first
        | (exact absurd (HP.out.1.symm.trans ‹fits s = true›) (by decide))
        | (rw [HP.out.2.1, HP.out.2.2]; first | exact ⟨⟨_, rfl⟩, rfl⟩ | (go_ret3; exact ⟨⟨_, rfl⟩, rfl⟩) | (show _ ∧ _; exact ⟨⟨_, rfl⟩, rfl⟩))
  · have h1 : fits s = false := by unfold fits; rw [decide_eq_false h4]; rfl
    have ep : partB s = ⟨#[]⟩ := by unfold partB; rw [h1]; rfl
    have er : restB s = ⟨#[]⟩ := by unfold restB; rw [h1]; rfl
    rw [h1, ep, er]
    clear h1 ep er
    go_enter Try.func20, Try.ntmps20
    go_wp2_with fail
    go_ret3
    exact ⟨⟨0, rfl⟩, rfl⟩
end Go.Proofs.Ytioahofmjokbbaa
