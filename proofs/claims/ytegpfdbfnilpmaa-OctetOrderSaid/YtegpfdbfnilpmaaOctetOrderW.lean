/- The walk of OctetOrder. -/
import Derived.Test.YtegpfdbfnilpmaaRows
import Derived.WalkKit
import Derived.WalkSpells
import Derived.WalkLawsBesides
import Derived.Lib.Hide
import Derived.Test.YtegpfdbfnilpmaaCount
namespace Go.Proofs.Ytegpfdbfnilpmaa
open Go.RowKit
set_option linter.unusedVariables false

theorem max4 {P : Program} (a b c d : Nat) : ∃ M : Int, (M ≤ 300 ↔ a ≤ 300 ∧ b ≤ 300 ∧ c ≤ 300 ∧ d ≤ 300) ∧
    ∀ (W : World) (ts : Array TypeId) (t : TypeId), (Builtin.max_ ts t #[.int .i64 a, .int .i64 b, .int .i64 c, .int .i64 d]).run P W = .ok (.int .i64 M) W := by
  refine ⟨max (max (max (a : Int) b) c) d, by omega, fun W ts t => ?_⟩
  have e : ∀ x y : Int, (if x < y then y else x) = max x y := by intro x y; split <;> omega
  simp [Builtin.max_, Builtin.max2, e]
  omega

/-- Of one size numbers stand as their bytes do. -/
theorem less_putL (k : Nat) : ∀ n m : Nat, Op.bytesLess (putL n k) (putL m k) = decide (n % 256 ^ k < m % 256 ^ k) := by
  induction k with
  | zero => intro n m; simp [putL, Op.bytesLess, Nat.mod_one]
  | succ k ih =>
    intro n m
    rw [putL_cons, putL_cons, Op.bytesLess, ih]
    have hp : 0 < 256 ^ k := Nat.pow_pos (by omega)
    have en : n % 256 ^ (k + 1) = n % 256 ^ k + 256 ^ k * (n / 256 ^ k % 256) := by rw [Nat.pow_succ, Nat.mod_mul]
    have em : m % 256 ^ (k + 1) = m % 256 ^ k + 256 ^ k * (m / 256 ^ k % 256) := by rw [Nat.pow_succ, Nat.mod_mul]
    rw [en, em]
    have hn := Nat.mod_lt n hp
    have hm := Nat.mod_lt m hp
    have ha : n / 256 ^ k % 256 < 256 := Nat.mod_lt _ (by omega)
    have hb : m / 256 ^ k % 256 < 256 := Nat.mod_lt _ (by omega)
    generalize n / 256 ^ k % 256 = a at ha ⊢
    generalize m / 256 ^ k % 256 = b at hb ⊢
    generalize n % 256 ^ k = x at hn ⊢
    generalize m % 256 ^ k = y at hm ⊢
    generalize 256 ^ k = p at hp hn hm ⊢
    have hta : (UInt8.ofNat a).toNat = a := by simp; omega
    have htb : (UInt8.ofNat b).toNat = b := by simp; omega
    have hlt : decide (UInt8.ofNat a < UInt8.ofNat b) = decide (a < b) := by
      rw [decide_eq_decide, UInt8.lt_iff_toNat_lt, hta, htb]
    have heq : (UInt8.ofNat a == UInt8.ofNat b) = decide (a = b) := by
      rw [Bool.eq_iff_iff, beq_iff_eq, decide_eq_true_iff, ← UInt8.toNat_inj, hta, htb]
    rw [hlt, heq, Bool.eq_iff_iff]
    simp only [Bool.or_eq_true, Bool.and_eq_true, decide_eq_true_eq]
    rcases Nat.lt_trichotomy a b with h | h | h
    · have h1 : p * (a + 1) ≤ p * b := Nat.mul_le_mul_left p h
      rw [Nat.mul_add] at h1
      constructor
      · intro _; omega
      · intro _; exact .inl h
    · subst h
      constructor
      · rintro (h | ⟨_, h⟩) <;> omega
      · intro h; exact .inr ⟨rfl, by omega⟩
    · have h1 : p * (b + 1) ≤ p * a := Nat.mul_le_mul_left p h
      rw [Nat.mul_add] at h1
      constructor
      · rintro (h | ⟨h, _⟩) <;> omega
      · intro h; omega

theorem cnt_list (a : ByteArray) : (cnt a).toList = putL a.size 4 ++ a.toList := by
  rw [ByteArray.toList_eq, ByteArray.toList_eq]
  simp [cnt, ByteArray.data_append]

theorem cnt_two (a b c d : ByteArray) (ha : a.size ≤ 300) (hc : c.size ≤ 300) :
    ((cnt a ++ cnt b).toList == (cnt c ++ cnt d).toList) = ((a.toList == c.toList) && (b.toList == d.toList)) := by
  have e : ∀ x y : ByteArray, (cnt x ++ cnt y).toList = putL x.size 4 ++ (x.toList ++ (putL y.size 4 ++ y.toList)) := by
    intro x y
    rw [← cnt_list, ← List.append_assoc, ← cnt_list]
    rw [ByteArray.toList_eq, ByteArray.toList_eq, ByteArray.toList_eq, ByteArray.data_append]
    simp
  have hsz : ∀ x : ByteArray, x.toList.length = x.size := by intro x; rw [ByteArray.toList_eq]; simp
  rw [Bool.eq_iff_iff]
  simp only [Bool.and_eq_true, beq_iff_eq, e]
  constructor
  · intro h
    obtain ⟨h1, h2⟩ := List.append_inj h (by simp [putL_length])
    have h3 : a.size = c.size := by
      have := congrArg getL h1
      rw [getL_putL, getL_putL] at this
      have e4 : (256 : Nat) ^ 4 = 4294967296 := by decide
      rw [e4] at this
      omega
    obtain ⟨h4, h5⟩ := List.append_inj h2 (by rw [hsz, hsz, h3])
    obtain ⟨_, h6⟩ := List.append_inj h5 (by simp [putL_length])
    exact ⟨h4, h6⟩
  · rintro ⟨h1, h2⟩
    have h3 : a.size = c.size := by rw [← hsz, ← hsz, h1]
    have h4 : b.size = d.size := by rw [← hsz, ← hsz, h2]
    rw [h1, h2, h3, h4]

set_option maxHeartbeats 400000 in
theorem OctetOrder_walk (a0 : Int) (a1 : Int) (a2 : ByteArray) (a3 : ByteArray) (a4 : ByteArray) (a5 : ByteArray) (w0 : (Lit.int .u64 a0).wf = true) (w1 : (Lit.int .u64 a1).wf = true) (w2 : a2.size ≤ 140737488355328) (w3 : a3.size ≤ 140737488355328) (w4 : a4.size ≤ 140737488355328) (w5 : a5.size ≤ 140737488355328) (w : World) :
    Calls Try.prog 6 #[.int .u64 a0, .int .u64 a1, .string a2, .string a3, .string a4, .string a5] w fun e w' => e = .returned (.bool true) ∧ Below w.heap.size w w' := by
  go_enter Try.func6, Try.ntmps6
  go_wp2_with fail
  refine (awake_any _).mono ?_
  rintro e wa ⟨rfl, hb0⟩
  obtain ⟨M, hM, hmx⟩ := max4 (P := Try.prog) a2.size a3.size a4.size a5.size
  obtain ⟨n, rfl⟩ := Int.eq_ofNat_of_zero_le (a := a0) (by simp [Lit.wf, IntKind.min, IntKind.max, IntKind.signed, IntKind.bits] at w0; omega)
  obtain ⟨m, rfl⟩ := Int.eq_ofNat_of_zero_le (a := a1) (by simp [Lit.wf, IntKind.min, IntKind.max, IntKind.signed, IntKind.bits] at w1; omega)
  have hn : n < 18446744073709551616 := by simp [Lit.wf, IntKind.min, IntKind.max, IntKind.signed, IntKind.bits] at w0; omega
  have hm : m < 18446744073709551616 := by simp [Lit.wf, IntKind.min, IntKind.max, IntKind.signed, IntKind.bits] at w1; omega
  clear w0 w1
  by_cases hbig : M ≤ 300
  · obtain ⟨h2, h3, h4, h5⟩ := hM.mp hbig
    clear hM
    go_wp2_with fail
    refine (Put_any n 8 _ hn).mono ?_
    rintro e wb ⟨rfl, hb1⟩
    have hb2 := hb0.trans (hb1.mono hb0.size)
    clear hb0 hb1
    go_wp2_with fail
    refine (Put_any m 8 _ hm).mono ?_
    rintro e wc ⟨rfl, hb3⟩
    have hb4 := hb2.trans (hb3.mono hb2.size)
    clear hb2 hb3
    have hless : Op.bytesLess (putL n (szOf 8)) (putL m (szOf 8)) = decide (n < m) := by
      have h := less_putL 8 n m
      have e8 : (256 : Nat) ^ 8 = 18446744073709551616 := by decide
      rw [e8, Nat.mod_eq_of_lt hn, Nat.mod_eq_of_lt hm] at h
      exact h
    go_wp2_with fail
    refine (Counted_any a2 _ (by omega)).mono ?_
    rintro e wd ⟨rfl, hb5⟩
    have hb6 := hb4.trans (hb5.mono hb4.size)
    clear hb4 hb5
    go_wp2_with fail
    refine (Counted_any a3 _ (by omega)).mono ?_
    rintro e we ⟨rfl, hb7⟩
    have hb8 := hb6.trans (hb7.mono hb6.size)
    clear hb6 hb7
    have z2 := cnt_size a2
    have z3 := cnt_size a3
    have z4 := cnt_size a4
    have z5 := cnt_size a5
    go_wp2_with fail
    refine (Counted_any a4 _ (by omega)).mono ?_
    rintro e wf ⟨rfl, hb9⟩
    have hb10 := hb8.trans (hb9.mono hb8.size)
    clear hb8 hb9
    go_wp2_with fail
    refine (Counted_any a5 _ (by omega)).mono ?_
    rintro e wg ⟨rfl, hb11⟩
    have hb12 := hb10.trans (hb11.mono hb10.size)
    clear hb10 hb11
    go_wp2_with fail
    · have hac : a2.toList = a4.toList := by assumption
      have hE := cnt_two a2 a3 a4 a5 h2 h4
      go_ret
      refine ⟨ret_bool ?_, hb12⟩
      rw [hE, hac]
      simp
    · have hac : ¬ a2.toList = a4.toList := by assumption
      have hE := cnt_two a2 a3 a4 a5 h2 h4
      go_ret
      refine ⟨ret_bool ?_, hb12⟩
      rw [hE, beq_eq_false_iff_ne.mpr hac]
      simp
  · clear hM
    go_wp2_with fail
    go_ret
    exact ⟨rfl, hb0⟩
end Go.Proofs.Ytegpfdbfnilpmaa
