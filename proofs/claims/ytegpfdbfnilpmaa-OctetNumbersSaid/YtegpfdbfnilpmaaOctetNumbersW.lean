/- The walk of OctetNumbers. -/
import Derived.Test.YtegpfdbfnilpmaaRows
import Derived.WalkKit
import Derived.WalkSpells
import Derived.WalkLawsBesides
import Derived.Lib.Hide
import Derived.Deep.DeepCutAuto
import Derived.Test.YtegpfdbfnilpmaaCount
namespace Go.Proofs.Ytegpfdbfnilpmaa
open Go.RowKit
set_option linter.unusedVariables false

/-- The sum and the product as the law reckons them. -/
theorem sum_over {n m : Nat} (hn : n < 18446744073709551616) (hm : m < 18446744073709551616) (h : ¬ n + m < 18446744073709551616) : IntKind.u64.wrap ((n : Int) + (m : Int)) < (n : Int) := by
  rw [IntKind.wrap_u64]; omega
theorem prod_over {n m : Nat} (h : ¬ n * m < 18446744073709551616) (h0 : n ≠ 0) (hm : m < 18446744073709551616) :
    (IntKind.u64.wrap ((IntKind.u64.wrap ((n : Int) * (m : Int))).tdiv (n : Int)) != (m : Int)) = true := by
  have h1 : n * m % 18446744073709551616 / n < m := by
    rw [Nat.div_lt_iff_lt_mul (by omega), Nat.mul_comm m n]
    omega
  have h2 : IntKind.u64.wrap ((n : Int) * (m : Int)) = ((n * m % 18446744073709551616 : Nat) : Int) := by
    rw [IntKind.wrap_u64, ← Int.natCast_mul]; omega
  have h3 : (((n * m % 18446744073709551616 : Nat) : Int)).tdiv (n : Int) = ((n * m % 18446744073709551616 / n : Nat) : Int) := by
    rw [Int.tdiv_eq_ediv_of_nonneg (by omega)]; simp
  rw [h2, h3, bne_iff_ne, IntKind.wrap_u64]
  generalize n * m % 18446744073709551616 / n = q at h1 ⊢
  omega
theorem prod_in {n m : Nat} (h : n * m < 18446744073709551616) (h0 : n ≠ 0) (hm : m < 18446744073709551616) :
    (IntKind.u64.wrap ((IntKind.u64.wrap ((n : Int) * (m : Int))).tdiv (n : Int)) != (m : Int)) = false := by
  have h2 : IntKind.u64.wrap ((n : Int) * (m : Int)) = ((n * m : Nat) : Int) := by
    rw [IntKind.wrap_u64, ← Int.natCast_mul]; omega
  rw [h2, Int.tdiv_eq_ediv_of_nonneg (by omega), Int.natCast_mul, Int.mul_ediv_cancel_left _ (by omega), IntKind.wrap_u64]
  simp
  omega
theorem prod_wrap {n m : Nat} (h : n * m < 18446744073709551616) : IntKind.u64.wrap ((n : Int) * (m : Int)) = (n : Int) * (m : Int) := by
  have h1 : (n : Int) * (m : Int) = ((n * m : Nat) : Int) := by simp
  rw [IntKind.wrap_u64, h1]
  omega

theorem mul_zero_end {n m : Nat} (h : n = 0) : min ((n : Int) * (m : Int)) 18446744073709551615 = IntKind.u64.wrap ((n : Int) * (m : Int)) := by
  subst h; simp; decide
theorem mul_in_end {n m : Nat} (h : n * m < 18446744073709551616) : min ((n : Int) * (m : Int)) 18446744073709551615 = IntKind.u64.wrap ((n : Int) * (m : Int)) := by
  rw [prod_wrap h]
  have h1 : (n : Int) * (m : Int) = ((n * m : Nat) : Int) := by simp
  rw [h1]; omega
theorem mul_over_end {n m : Nat} (h : 18446744073709551616 ≤ n * m) : min ((n : Int) * (m : Int)) 18446744073709551615 = 18446744073709551615 := by
  have h1 : (n : Int) * (m : Int) = ((n * m : Nat) : Int) := by simp
  rw [h1]; omega

set_option maxRecDepth 100000 in
set_option maxHeartbeats 1000000 in
theorem OctetNumbers_walk (a0 : Int) (a1 : Int) (a2 : Int) (a3 : ByteArray) (w0 : (Lit.int .u64 a0).wf = true) (w1 : (Lit.int .u64 a1).wf = true) (w2 : (Lit.int .i64 a2).wf = true) (w3 : a3.size ≤ 140737488355328) (w : World) :
    Calls Try.prog 3 #[.int .u64 a0, .int .u64 a1, .int .i64 a2, .string a3] w fun e w' => e = .returned (.bool true) ∧ Below w.heap.size w w' := by
  obtain ⟨n, rfl⟩ := Int.eq_ofNat_of_zero_le (a := a0) (by simp [Lit.wf, IntKind.min, IntKind.max, IntKind.signed, IntKind.bits] at w0; omega)
  obtain ⟨m, rfl⟩ := Int.eq_ofNat_of_zero_le (a := a1) (by simp [Lit.wf, IntKind.min, IntKind.max, IntKind.signed, IntKind.bits] at w1; omega)
  have hn : n < 18446744073709551616 := by simp [Lit.wf, IntKind.min, IntKind.max, IntKind.signed, IntKind.bits] at w0; omega
  have hm : m < 18446744073709551616 := by simp [Lit.wf, IntKind.min, IntKind.max, IntKind.signed, IntKind.bits] at w1; omega
  have hs1 : -9223372036854775808 ≤ a2 ∧ a2 ≤ 9223372036854775807 := by simpa [Lit.wf, IntKind.min, IntKind.max, IntKind.signed, IntKind.bits] using w2
  clear w0 w1 w2
  go_enter Try.func3, Try.ntmps3
  go_wp2_with fail
  refine (awake_any _).mono ?_
  rintro e wa ⟨rfl, hb0⟩
  by_cases h100 : a3.size ≤ 100
  · go_wp2_with fail
    refine (Get_any a3 _ (by omega)).mono ?_
    rintro e wb ⟨rfl, rfl⟩
    have hl : a3.data.toList.length = a3.size := by simp
    rcases (by omega : a3.size = 0 ∨ (a3.size ≠ 0 ∧ a3.size ≤ 8) ∨ 8 < a3.size) with h0 | ⟨h0, h8⟩ | h8
    case' inl =>
      have e1 : getE a3.data.toList = 3 := by unfold getE; rw [if_pos (by omega)]
      have e2 : getN a3.data.toList = 0 := by unfold getN; rw [if_pos (by omega)]
      have e3 : a3.toList = [] := by rw [ByteArray.toList_eq]; exact List.eq_nil_of_length_eq_zero (by omega)
      rw [e1, e2]
      clear e1 e2 hl
      go_upto_region 14 with fail
    case' inr.inl =>
      have e1 : getE a3.data.toList = 0 := by unfold getE; rw [if_neg (by omega), if_neg (by omega)]
      have e2 : getN a3.data.toList = getL a3.data.toList := by unfold getN; rw [if_neg (by omega), if_neg (by omega)]
      have e3 : a3.toList.isEmpty = false := by
        rw [ByteArray.toList_eq, Bool.eq_false_iff, ne_eq, List.isEmpty_iff]
        intro h; rw [h] at hl; exact h0 hl.symm
      have e5 : szOf (a3.size : Int) = a3.size := by unfold szOf; omega
      have e4 : ByteArray.mk (putL (getL a3.data.toList) (szOf (a3.size : Int))).toArray = a3 := by
        rw [e5, ← hl, putL_getL]
      have hl8 := getL_lt8 a3.data.toList (by omega)
      rw [e1, e2]
      clear e1 e2 hl e5
      have E4 := Lib.hid e4
      clear e4
      go_upto_region 14 with (first
        | (go_at_call 9; refine (refGet_any a3 _ (by omega)).mono ?_; rintro e wb ⟨rfl, rfl⟩)
        | (go_at_call 10; refine (Put_any _ a3.size _ hl8).mono ?_; rintro e wc ⟨rfl, hbc⟩; rw [E4.out]; have hb0 := hb0.trans (hbc.mono hb0.size)))
    case' inr.inr =>
      have e1 : getE a3.data.toList = 5 := by unfold getE; rw [if_neg (by omega), if_pos (by omega)]
      have e2 : getN a3.data.toList = 0 := by unfold getN; rw [if_neg (by omega), if_pos (by omega)]
      have e3 : a3.toList.isEmpty = false := by
        rw [ByteArray.toList_eq, Bool.eq_false_iff, ne_eq, List.isEmpty_iff]
        intro h; rw [h] at hl; simp at hl; omega
      rw [e1, e2]
      clear e1 e2 hl
      go_upto_region 14 with fail
    all_goals
      rcases (by omega : n + m < 18446744073709551616 ∨ ¬ n + m < 18446744073709551616) with hsum | hsum
      case' inr =>
        have hs := sum_over hn hm hsum
      all_goals
        rcases (by omega : n = 0 ∨ n ≠ 0) with hn0 | hn0
        case' inl =>
          have hp : ((n : Int) != 0) = false := by simpa using hn0
          have HN := Lib.hid hn0
          clear hn0
          go_wp2_with fail
        case' inr =>
          have hp : ((n : Int) != 0) = true := by simpa using hn0
          have hz : ((n : Int) == 0) = false := by simpa using hn0
          rcases Nat.lt_or_ge (n * m) 18446744073709551616 with hpr | hpr
          case' inl =>
            have hq := prod_in hpr hn0 hm
            have HN := Lib.hid hn0
            have HP := Lib.hid hpr
            clear hn0 hpr
            go_wp2_with fail
          case' inr =>
            have hq := prod_over (Nat.not_lt.mpr hpr) hn0 hm
            have HN := Lib.hid hn0
            have HP := Lib.hid hpr
            clear hn0 hpr
            go_wp2_with fail
    all_goals
      refine (Put_any n a2 _ hn).mono ?_
      rintro e wy ⟨rfl, hby⟩
      have hb2 := hb0.trans (hby.mono hb0.size)
      clear hby
      go_wp2_with fail
      refine (refPut_any n a2 _ hn hs1.1 hs1.2).mono ?_
      rintro e wz ⟨rfl, hbz⟩
      have hb3 := hb2.trans (hbz.mono hb2.size)
      clear hbz hb2
      go_wp2_with fail
      refine (Add_any n m _ (by omega) (by omega) (by omega) (by omega)).mono ?_
      rintro e wz ⟨rfl, rfl⟩
    all_goals go_wp2_with fail
    all_goals first
      | (exfalso; omega)
      | (refine (Mul_any n m _ (by omega) (by omega) (by omega) (by omega)).mono ?_
         rintro e wz ⟨rfl, rfl⟩
         go_wp2_with fail
         go_ret
         refine ⟨ret_bool ?_, hb3⟩
         rw [beq_iff_eq]
         first
           | exact mul_zero_end HN.out
           | exact mul_in_end HP.out
           | exact mul_over_end HP.out)
  · go_wp2_with fail
    go_ret
    exact ⟨rfl, hb0⟩
end Go.Proofs.Ytegpfdbfnilpmaa
