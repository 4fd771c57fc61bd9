/- Plain facts on the sum of 32 bits: nothing of the program stands here. -/
import Derived.WalkKit
namespace Go.Proofs.YtlmbijhkpgolaaaDoor
open Go.RowKit

/-- One bit's step. -/
def stp (c : Nat) : Nat := if c % 2 = 1 then c / 2 ^^^ 3988292384 else c / 2

/-- k steps. -/
def stpN : Nat → Nat → Nat
  | 0, c => c
  | k + 1, c => stp (stpN k c)

/-- A byte more. -/
def crcB (c : Nat) (b : UInt8) : Nat := stpN 8 (c ^^^ b.toNat)

/-- The register behind a text's bytes. -/
def crcR (c : Nat) (l : List UInt8) : Nat := l.foldl crcB c

/-- The sum. -/
def crcL (l : List UInt8) : Nat := 4294967295 - crcR 4294967295 l

theorem stp_lt {c : Nat} (h : c < 4294967296) : stp c < 4294967296 := by
  unfold stp
  split
  · exact Nat.xor_lt_two_pow (n := 32) (by omega) (by omega)
  · omega

theorem stpN_lt {c : Nat} (h : c < 4294967296) : ∀ k, stpN k c < 4294967296
  | 0 => h
  | k + 1 => stp_lt (stpN_lt h k)

theorem xor_lt {a b : Nat} (ha : a < 4294967296) (hb : b < 4294967296) : a ^^^ b < 4294967296 := Nat.xor_lt_two_pow (n := 32) ha hb

theorem crcB_lt {c : Nat} (h : c < 4294967296) (b : UInt8) : crcB c b < 4294967296 :=
  stpN_lt (xor_lt h (by have := b.toNat_lt; omega)) 8

theorem crcR_lt (l : List UInt8) : ∀ {c : Nat}, c < 4294967296 → crcR c l < 4294967296 := by
  induction l with
  | nil => intro c h; exact h
  | cons b l ih => intro c h; exact ih (crcB_lt h b)

theorem crcR_append (c : Nat) (l m : List UInt8) : crcR c (l ++ m) = crcR (crcR c l) m := by simp [crcR, List.foldl_append]

theorem crcR_snoc (c : Nat) (l : List UInt8) (b : UInt8) : crcR c (l ++ [b]) = crcB (crcR c l) b := by simp [crcR, List.foldl_append]

theorem xor_mod2 (x y : Nat) : (x ^^^ y) % 2 = (x + y) % 2 := by
  rcases Nat.mod_two_eq_zero_or_one x with hx | hx <;> rcases Nat.mod_two_eq_zero_or_one y with hy | hy
  all_goals (have := @Nat.xor_mod_two_pow x y 1; simp only [Nat.pow_one] at this; rw [this, hx, hy]; simp; omega)

theorem xor_zero {x y : Nat} (h : x ^^^ y = 0) : x = y := by
  have := congrArg (· ^^^ y) h
  simpa [Nat.xor_assoc] using this

theorem stp_xor (x y : Nat) : stp (x ^^^ y) = stp x ^^^ stp y := by
  have h2 : (x ^^^ y) / 2 = x / 2 ^^^ y / 2 := by
    have := Nat.shiftRight_xor_distrib (a := x) (b := y) (i := 1)
    simpa [Nat.shiftRight_succ] using this
  have hm : (x ^^^ y) % 2 = (x + y) % 2 := xor_mod2 x y
  unfold stp
  rw [h2, hm]
  rcases Nat.mod_two_eq_zero_or_one x with hx | hx <;> rcases Nat.mod_two_eq_zero_or_one y with hy | hy
  · rw [if_neg (by omega), if_neg (by omega), if_neg (by omega)]
  · rw [if_pos (by omega), if_neg (by omega), if_pos (by omega), Nat.xor_assoc]
  · rw [if_pos (by omega), if_pos (by omega), if_neg (by omega), Nat.xor_assoc, Nat.xor_assoc, Nat.xor_comm 3988292384]
  · rw [if_neg (by omega), if_pos (by omega), if_pos (by omega)]
    rw [Nat.xor_assoc, Nat.xor_comm (y / 2), ← Nat.xor_assoc 3988292384, Nat.xor_self, Nat.zero_xor]

theorem stpN_xor (x y : Nat) : ∀ k, stpN k (x ^^^ y) = stpN k x ^^^ stpN k y
  | 0 => rfl
  | k + 1 => by simp only [stpN, stpN_xor x y k, stp_xor]

theorem stpN_high (a : Nat) : ∀ k j, j ≤ k → stpN j (a * 2 ^ k) = a * 2 ^ (k - j) := by
  intro k j
  induction j with
  | zero => intro _; rfl
  | succ j ih =>
    intro h
    have hp : (2 : Nat) ^ (k - j) = 2 ^ (k - (j + 1)) * 2 := by rw [← Nat.pow_succ]; congr 1; omega
    rw [stpN, ih (by omega), hp, ← Nat.mul_assoc]
    unfold stp
    rw [if_neg (by omega), Nat.mul_div_cancel _ (by omega)]

/-- By the table: what lies above the lowest byte goes down, the lowest byte chooses. -/
theorem crcB_table (c : Nat) (b : UInt8) : crcB c b = c / 256 ^^^ stpN 8 (c % 256 ^^^ b.toNat) := by
  have hc : c = (c / 256 * 2 ^ 8) ^^^ (c % 256) := by
    have h := Nat.two_pow_add_eq_or_of_lt (i := 8) (b := c % 256) (by omega) (c / 256)
    have hx : 2 ^ 8 * (c / 256) ^^^ c % 256 = 2 ^ 8 * (c / 256) ||| c % 256 := by
      apply Nat.eq_of_testBit_eq
      intro i
      rw [Nat.testBit_xor, Nat.testBit_or]
      by_cases hi : i < 8
      · have : (2 ^ 8 * (c / 256)).testBit i = false := by
          rw [Nat.testBit_two_pow_mul]; simp; omega
        simp [this]
      · have : (c % 256).testBit i = false := by
          apply Nat.testBit_lt_two_pow
          exact Nat.lt_of_lt_of_le (by omega : c % 256 < 2 ^ 8) (Nat.pow_le_pow_right (by omega) (by omega))
        simp [this]
    rw [Nat.mul_comm, hx, ← h]
    omega
  unfold crcB
  conv => lhs; rw [hc, Nat.xor_assoc]
  rw [stpN_xor, stpN_high _ 8 8 (by omega)]
  simp

theorem crc_example : crcL [49, 50, 51, 52, 53, 54, 55, 56, 57] = 3421780262 := by decide +kernel

/-- One bit's step is undone: unlike registers stay unlike. -/
theorem stp_inj {x y : Nat} (hx : x < 4294967296) (hy : y < 4294967296) (h : stp x = stp y) : x = y := by
  have key : ∀ z : Nat, z < 4294967296 → stp z = 0 → z = 0 := by
    intro z hz h0
    unfold stp at h0
    split at h0
    · have h1 : z / 2 = 3988292384 := by
        have := congrArg (· ^^^ 3988292384) h0
        simpa [Nat.xor_assoc] using this
      omega
    · omega
  have hz : stp (x ^^^ y) = 0 := by rw [stp_xor, h, Nat.xor_self]
  have h0 := key _ (xor_lt hx hy) hz
  exact xor_zero h0

theorem stpN_inj {x y : Nat} (hx : x < 4294967296) (hy : y < 4294967296) : ∀ k, stpN k x = stpN k y → x = y
  | 0, h => h
  | k + 1, h => stpN_inj hx hy k (stp_inj (stpN_lt hx k) (stpN_lt hy k) h)

theorem crcB_inj {x y : Nat} (hx : x < 4294967296) (hy : y < 4294967296) (b : UInt8) (h : crcB x b = crcB y b) : x = y := by
  have hb : b.toNat < 4294967296 := by have := b.toNat_lt; omega
  have h1 := stpN_inj (xor_lt hx hb) (xor_lt hy hb) 8 h
  have := congrArg (· ^^^ b.toNat) h1
  simpa [Nat.xor_assoc] using this

theorem crcB_inj_byte {x : Nat} (hx : x < 4294967296) {b c : UInt8} (h : crcB x b = crcB x c) : b = c := by
  have hb : b.toNat < 4294967296 := by have := b.toNat_lt; omega
  have hc : c.toNat < 4294967296 := by have := c.toNat_lt; omega
  have h1 := stpN_inj (xor_lt hx hb) (xor_lt hx hc) 8 h
  have h2 := congrArg (x ^^^ ·) h1
  simp only [← Nat.xor_assoc, Nat.xor_self, Nat.zero_xor] at h2
  exact UInt8.toNat_inj.mp h2

theorem crcR_inj (l : List UInt8) : ∀ {x y : Nat}, x < 4294967296 → y < 4294967296 → crcR x l = crcR y l → x = y := by
  induction l with
  | nil => intro x y _ _ h; exact h
  | cons b l ih => intro x y hx hy h; exact crcB_inj hx hy b (ih (crcB_lt hx b) (crcB_lt hy b) h)

/-- One byte that is another one gives another sum. -/
theorem crcL_set_ne (l : List UInt8) (i : Nat) (c : UInt8) (hi : i < l.length) (hc : l[i] ≠ c) : crcL (l.set i c) ≠ crcL l := by
  intro h
  have e1 : l = l.take i ++ (l[i] :: l.drop (i + 1)) := by simp
  have e2 : l.set i c = l.take i ++ (c :: l.drop (i + 1)) := by
    rw [List.set_eq_take_append_cons_drop, if_pos hi]
  have hr : crcR 4294967295 (l.set i c) = crcR 4294967295 l := by
    have h1 := crcR_lt (l.set i c) (c := 4294967295) (by omega)
    have h2 := crcR_lt l (c := 4294967295) (by omega)
    unfold crcL at h
    omega
  rw [e2] at hr
  conv at hr => rhs; rw [e1]
  rw [crcR_append, crcR_append] at hr
  have h1 := crcR_lt (l.take i) (c := 4294967295) (by omega)
  have h3 := crcR_inj (l.drop (i + 1)) (crcB_lt h1 c) (crcB_lt h1 l[i]) hr
  exact hc (crcB_inj_byte h1 h3).symm

/-- What the table holds behind k rounds. -/
def tabL (k : Nat) : List Value := (List.range 256).map fun j => .int .u32 (if j < k then stpN 8 j else 0 : Nat)

theorem tabL_length (k : Nat) : (tabL k).length = 256 := by simp [tabL]

theorem tabL_get (k j : Nat) (hj : j < 256) : (tabL k)[j]? = some (.int .u32 ((if j < k then stpN 8 j else 0 : Nat) : Int)) := by
  simp [tabL, hj]

theorem tabL_set (k : Nat) (hk : k < 256) : (tabL k).set k (.int .u32 (stpN 8 k : Nat)) = tabL (k + 1) := by
  apply List.ext_getElem?
  intro j
  rw [List.getElem?_set]
  by_cases hj : j < 256
  · rw [tabL_get (k + 1) j hj, tabL_length]
    by_cases e : k = j
    · subst e
      rw [if_pos rfl, if_pos hk, if_pos (by omega)]
    · rw [if_neg e, tabL_get k j hj]
      by_cases h : j < k
      · rw [if_pos h, if_pos (by omega)]
      · rw [if_neg h, if_neg (by omega)]
  · rw [List.getElem?_eq_none (by rw [tabL_length]; omega), List.getElem?_eq_none (by rw [tabL_length]; omega), tabL_length]
    rw [if_neg (by omega)]

def zero256 : Array Value := Array.replicate 256 (.int .u32 0)
theorem zero256_eq : zero256 = (tabL 0).toArray := by
  apply Array.ext'
  simp only [zero256, tabL, Array.toList_replicate, Nat.not_lt_zero, if_false]
  rw [List.map_const', List.length_range]
  rfl

/-- The table whole. -/
def tabA : Array Value := (tabL 256).toArray
theorem tabA_size : tabA.size = 256 := by simp [tabA, tabL_length]
theorem tabA_one : tabA.all (·.oneCell') = true := by
  rw [Array.all_eq_true_iff_forall_mem]
  intro v hv
  simp only [tabA, tabL, List.mem_toArray, List.mem_map] at hv
  obtain ⟨j, _, rfl⟩ := hv
  rfl
end Go.Proofs.YtlmbijhkpgolaaaDoor
