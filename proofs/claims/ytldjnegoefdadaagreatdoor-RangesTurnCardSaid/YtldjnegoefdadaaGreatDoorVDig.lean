/- Plain facts on numbers in digits. -/
import Derived.Lib.ItoaLen
import Derived.Lib.ParseIntBCases
import Derived.Test.YtldjnegoefdadaaGreatDoorDDays
namespace Go.Proofs.YtldjnegoefdadaaGreatDoor
open Go.RowKit
set_option linter.unusedVariables false

theorem dec_step {n : Nat} (h : ¬ n < 10) : Lib.decDigits n = Lib.decDigits (n / 10) ++ [UInt8.ofNat (48 + n % 10)] := by rw [Lib.decDigits, dif_neg h]
theorem dig_of {d : Nat} (h : d < 10) : isDig (UInt8.ofNat (48 + d)) = true ∧ dv (UInt8.ofNat (48 + d)) = d := by
  have e : (UInt8.ofNat (48 + d)).toNat = 48 + d := by simp; omega
  exact ⟨(isDig_iff _).2 (by omega), by unfold dv; omega⟩
theorem dec_dig (n : Nat) : ∀ c ∈ Lib.decDigits n, isDig c = true := by
  induction n using Nat.strongRecOn with
  | ind n ih =>
    intro c hc
    by_cases h : n < 10
    · rw [Lib.decDigits_one h] at hc
      rw [List.mem_singleton.1 hc]
      exact (dig_of h).1
    · rw [dec_step h] at hc
      rcases List.mem_append.1 hc with h1 | h1
      · exact ih (n / 10) (by omega) c h1
      · rw [List.mem_singleton.1 h1]
        exact (dig_of (Nat.mod_lt _ (by omega))).1
theorem dec_ne (n : Nat) : Lib.decDigits n ≠ [] := by
  intro h
  have h1 := Lib.decDigits_length n
  rw [h] at h1
  have h2 := Lib.nDigits_pos n
  simp at h1
  omega
theorem val_dec (n : Nat) : val (Lib.decDigits n) = n := by
  induction n using Nat.strongRecOn with
  | ind n ih =>
    by_cases h : n < 10
    · rw [Lib.decDigits_one h]
      show valF 0 [_] = n
      rw [valF_cons, (dig_of h).2]
      show 0 * 10 + n = n
      omega
    · rw [dec_step h]
      show valF 0 (_ ++ [_]) = n
      rw [valF_snoc, (dig_of (Nat.mod_lt _ (by omega))).2]
      have := ih (n / 10) (by omega)
      show val _ * 10 + _ = n
      omega
theorem valF_ge (l : List UInt8) : ∀ a, a ≤ valF a l := by
  induction l with
  | nil => intro a; exact Nat.le_refl _
  | cons c l ih => intro a; rw [valF_cons]; have := ih (a * 10 + dv c); omega
theorem parse_all (l : List UInt8) : ∀ acc, (∀ c ∈ l, isDig c = true) → acc < 18446744073709551616 →
    (valF acc l < 18446744073709551616 → Lib.parseUintM 18446744073709551615 acc l = .ok (valF acc l)) ∧ (18446744073709551616 ≤ valF acc l → Lib.parseUintM 18446744073709551615 acc l = .range) := by
  induction l with
  | nil => intro acc _ ha; exact ⟨fun _ => rfl, fun h => by have : valF acc [] = acc := rfl; omega⟩
  | cons c l ih =>
    intro acc hd ha
    have hc := hd c List.mem_cons_self
    have hc2 := (isDig_iff c).1 hc
    have hdv : dv c = c.toNat - 48 := rfl
    have hge := valF_ge l (acc * 10 + dv c)
    rw [valF_cons]
    unfold Lib.parseUintM
    rw [if_pos hc2]
    by_cases h1 : 1844674407370955162 ≤ acc
    · rw [if_pos h1]
      exact ⟨fun h => by omega, fun _ => rfl⟩
    · rw [if_neg h1]
      by_cases h2 : 18446744073709551615 < acc * 10 + (c.toNat - 48)
      · rw [if_pos h2]
        exact ⟨fun h => by omega, fun _ => rfl⟩
      · rw [if_neg h2]
        exact ih _ (fun d h => hd d (List.mem_cons_of_mem _ h)) (by omega)
theorem parseB_fit {s : ByteArray} (hd : isD s = true) (h : val s.data.toList < 18446744073709551616) : Lib.parseUintB 64 s.data.toList = .ok (val s.data.toList) := by
  obtain ⟨h0, hall⟩ := (isD_iff s).1 hd
  have hl : s.data.toList.length = s.size := by simp
  unfold Lib.parseUintB
  rw [if_neg (by intro e; rw [e] at hl; simp at hl; omega)]
  exact (parse_all _ 0 hall (by omega)).1 h
theorem parseB_great {s : ByteArray} (hd : isD s = true) (h : 18446744073709551616 ≤ val s.data.toList) : Lib.parseUintB 64 s.data.toList = .range := by
  obtain ⟨h0, hall⟩ := (isD_iff s).1 hd
  have hl : s.data.toList.length = s.size := by simp
  unfold Lib.parseUintB
  rw [if_neg (by intro e; rw [e] at hl; simp at hl; omega)]
  exact (parse_all _ 0 hall (by omega)).2 h
theorem isD_list (s : ByteArray) : isD s = (decide (s.data.toList ≠ []) && s.data.toList.all isDig) := by
  unfold isD
  congr 1
  rw [Bool.eq_iff_iff, decide_eq_true_eq, decide_eq_true_eq]
  have hl : s.data.toList.length = s.size := by simp
  constructor
  · intro h e
    rw [e] at hl
    simp at hl
    omega
  · intro h
    have := List.length_pos_iff.2 h
    omega
end Go.Proofs.YtldjnegoefdadaaGreatDoor
