/- Plain facts on numbers as bytes: nothing of the program stands here. -/
import Derived.WalkKit
namespace Go.Proofs.YtheidjnapoipaaaGreatDoor
open Go.RowKit

/-- The lowest k bytes of n, the highest first. -/
def putL : Nat → Nat → List UInt8
  | _, 0 => []
  | n, k + 1 => putL (n / 256) k ++ [UInt8.ofNat (n % 256)]

/-- The number of bytes, the highest first. -/
def getL (l : List UInt8) : Nat := l.foldl (fun a b => a * 256 + b.toNat) 0

theorem putL_length (k : Nat) : ∀ n, (putL n k).length = k := by
  induction k with
  | zero => intro n; rfl
  | succ k ih => intro n; simp [putL, ih]

theorem getL_nil : getL [] = 0 := rfl

theorem getL_snoc (l : List UInt8) (c : UInt8) : getL (l ++ [c]) = getL l * 256 + c.toNat := by
  simp [getL, List.foldl_append]

theorem getL_putL (k : Nat) : ∀ n, getL (putL n k) = n % 256 ^ k := by
  induction k with
  | zero => intro n; simp [putL, getL, Nat.mod_one]
  | succ k ih =>
    intro n
    rw [putL, getL_snoc, ih]
    have h1 : (UInt8.ofNat (n % 256)).toNat = n % 256 := by simp
    rw [h1, Nat.pow_succ, Nat.mul_comm (256 ^ k) 256, Nat.mod_mul]
    omega

theorem putL_getL_aux (k : Nat) : ∀ l : List UInt8, l.length = k → putL (getL l) k = l := by
  induction k with
  | zero => intro l h; cases l <;> simp_all [putL]
  | succ k ih =>
    intro l h
    have hne : l ≠ [] := by intro e; simp [e] at h
    obtain ⟨m, c, rfl⟩ : ∃ m c, l = m ++ [c] := ⟨l.dropLast, l.getLast hne, (List.dropLast_concat_getLast hne).symm⟩
    have hl : m.length = k := by simpa using h
    have hc : c.toNat < 256 := c.toNat_lt
    have e1 : (getL m * 256 + c.toNat) / 256 = getL m := by omega
    have e2 : (getL m * 256 + c.toNat) % 256 = c.toNat := by omega
    rw [putL, getL_snoc, e1, e2, ih m hl]
    simp

theorem putL_getL (l : List UInt8) : putL (getL l) l.length = l := putL_getL_aux _ l rfl

theorem getL_lt_aux (k : Nat) : ∀ l : List UInt8, l.length = k → getL l < 256 ^ k := by
  intro l h
  have := getL_putL k (getL l)
  rw [putL_getL_aux k l h] at this
  rw [this]
  exact Nat.mod_lt _ (Nat.pow_pos (by omega))

theorem getL_lt (l : List UInt8) : getL l < 256 ^ l.length := getL_lt_aux _ l rfl

theorem getL_lt8 (l : List UInt8) (h : l.length ≤ 8) : getL l < 18446744073709551616 := by
  have h1 := getL_lt l
  have h2 : 256 ^ l.length ≤ 256 ^ 8 := Nat.pow_le_pow_right (by omega) h
  have h3 : (256 : Nat) ^ 8 = 18446744073709551616 := by decide
  omega

theorem putL_cons (k : Nat) : ∀ n, putL n (k + 1) = UInt8.ofNat (n / 256 ^ k % 256) :: putL n k := by
  induction k with
  | zero => intro n; simp [putL]
  | succ k ih =>
    intro n
    rw [putL, ih (n / 256), putL, Nat.div_div_eq_div_mul, Nat.pow_succ', List.cons_append]

theorem take_snoc (s : ByteArray) (k : Nat) (h : k < s.size) : s.data.toList.take (k + 1) = s.data.toList.take k ++ [s[k]] := by
  rw [List.take_succ_eq_append_getElem (by simpa using h)]; rfl

theorem ret_int {k : IntKind} {a b : Int} (h : a = b) : Ending.returned (.int k a) = .returned (.int k b) := by rw [h]
theorem ret_bool {a : Bool} (h : a = true) : Ending.returned (.bool a) = .returned (.bool true) := by rw [h]
theorem ret_str {a b : ByteArray} (h : a = b) : Ending.returned (.string a) = .returned (.string b) := by rw [h]
end Go.Proofs.YtheidjnapoipaaaGreatDoor
