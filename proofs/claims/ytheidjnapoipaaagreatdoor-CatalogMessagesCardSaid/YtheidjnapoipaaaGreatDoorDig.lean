/- Plain facts on digits of any base, and on texts as letters: nothing of the program stands here. -/
import Derived.WalkKit
import Derived.Test.YtheidjnapoipaaaGreatDoorPlain
namespace Go.Proofs.YtheidjnapoipaaaGreatDoor
open Go.RowKit

/-- The lowest m digits of n in base B, the highest first. -/
def dg (B : Nat) : Nat → Nat → List Nat
  | _, 0 => []
  | n, m + 1 => dg B (n / B) m ++ [n % B]

/-- The number of digits. -/
def ug (B : Nat) (l : List Nat) : Nat := l.foldl (fun a b => a * B + b) 0

theorem dg_length (B : Nat) (m : Nat) : ∀ n, (dg B n m).length = m := by
  induction m with
  | zero => intro n; rfl
  | succ m ih => intro n; simp [dg, ih]

theorem dg_lt {B : Nat} (hB : 0 < B) (m : Nat) : ∀ n, ∀ d ∈ dg B n m, d < B := by
  induction m with
  | zero => intro n d h; simp [dg] at h
  | succ m ih =>
    intro n d h
    simp only [dg, List.mem_append, List.mem_singleton] at h
    rcases h with h | h
    · exact ih _ d h
    · rw [h]; exact Nat.mod_lt _ hB

theorem ug_nil (B : Nat) : ug B [] = 0 := rfl
theorem ug_snoc (B : Nat) (l : List Nat) (d : Nat) : ug B (l ++ [d]) = ug B l * B + d := by simp [ug, List.foldl_append]

theorem ug_dg {B : Nat} (m : Nat) : ∀ n, ug B (dg B n m) = n % B ^ m := by
  induction m with
  | zero => intro n; simp [dg, ug, Nat.mod_one]
  | succ m ih =>
    intro n
    rw [dg, ug_snoc, ih, Nat.pow_succ, Nat.mul_comm (B ^ m) B, Nat.mod_mul, Nat.mul_comm B]
    omega

theorem dg_ug_aux {B : Nat} (m : Nat) : ∀ l : List Nat, l.length = m → (∀ d ∈ l, d < B) → dg B (ug B l) m = l := by
  induction m with
  | zero => intro l h _; cases l <;> simp_all [dg]
  | succ m ih =>
    intro l h hd
    have hne : l ≠ [] := by intro e; simp [e] at h
    obtain ⟨k, c, rfl⟩ : ∃ k c, l = k ++ [c] := ⟨l.dropLast, l.getLast hne, (List.dropLast_concat_getLast hne).symm⟩
    have hc : c < B := hd c (by simp)
    have hB : 0 < B := by omega
    have e1 : (ug B k * B + c) / B = ug B k := by
      rw [Nat.mul_comm, Nat.mul_add_div hB, Nat.div_eq_of_lt hc, Nat.add_zero]
    have e2 : (ug B k * B + c) % B = c := by
      rw [Nat.mul_comm, Nat.mul_add_mod, Nat.mod_eq_of_lt hc]
    rw [dg, ug_snoc, e1, e2, ih k (by simpa using h) (fun d h => hd d (by simp [h]))]

theorem dg_ug {B : Nat} (l : List Nat) (h : ∀ d ∈ l, d < B) : dg B (ug B l) l.length = l := dg_ug_aux _ l rfl h

theorem ug_lt {B : Nat} (hB : 0 < B) (l : List Nat) (h : ∀ d ∈ l, d < B) : ug B l < B ^ l.length := by
  have h1 := ug_dg (B := B) l.length (ug B l)
  rw [dg_ug l h] at h1
  rw [h1]
  exact Nat.mod_lt _ (Nat.pow_pos hB)

theorem dg_mod (B : Nat) (m : Nat) : ∀ n, dg B (n % B ^ m) m = dg B n m := by
  induction m with
  | zero => intro n; rfl
  | succ m ih =>
    intro n
    have e1 : n % B ^ (m + 1) / B = n / B % B ^ m := by
      rw [Nat.pow_succ', Nat.mod_mul_right_div_self]
    have e2 : n % B ^ (m + 1) % B = n % B := by
      rw [Nat.pow_succ']; exact Nat.mod_mul_right_mod n B (B ^ m)
    rw [dg, dg, e1, e2, ih]

theorem dg_add (B : Nat) (a b : Nat) : ∀ n, dg B n (a + b) = dg B (n / B ^ b) a ++ dg B n b := by
  induction b with
  | zero => intro n; simp [dg]
  | succ b ih =>
    intro n
    rw [← Nat.add_assoc, dg, ih, dg, Nat.div_div_eq_div_mul, Nat.pow_succ', List.append_assoc]

theorem dg_snoc (B n m : Nat) : dg B n (m + 1) = dg B (n / B) m ++ [n % B] := rfl

theorem getL_from (m : List UInt8) : ∀ a, m.foldl (fun a b => a * 256 + b.toNat) a = a * 256 ^ m.length + getL m := by
  induction m with
  | nil => intro a; simp [getL]
  | cons c m ih =>
    intro a
    have h1 : getL (c :: m) = c.toNat * 256 ^ m.length + getL m := by
      show (c :: m).foldl _ 0 = _
      rw [List.foldl_cons, ih]
      simp
    rw [List.foldl_cons, ih, h1, List.length_cons, Nat.pow_succ', ← Nat.mul_assoc, ← Nat.add_assoc, ← Nat.add_mul]

theorem getL_append (l m : List UInt8) : getL (l ++ m) = getL l * 256 ^ m.length + getL m := by
  show (l ++ m).foldl _ 0 = _
  rw [List.foldl_append, getL_from]
  rfl

/-- How many letters of k bits n bytes have. -/
def mOf (k n : Nat) : Nat := (8 * n + k - 1) / k

/-- The bits that are laid behind the last one. -/
def padOf (k n : Nat) : Nat := k * mOf k n - 8 * n

theorem mOf_ge {k : Nat} (hk : 0 < k) (n : Nat) : 8 * n ≤ k * mOf k n := by
  unfold mOf
  have h := Nat.div_add_mod (8 * n + k - 1) k
  have h2 := Nat.mod_lt (8 * n + k - 1) hk
  omega
theorem mOf_lt {k : Nat} (hk : 0 < k) (n : Nat) : k * mOf k n < 8 * n + k := by
  unfold mOf
  have h := Nat.div_add_mod (8 * n + k - 1) k
  have h2 := Nat.mod_lt (8 * n + k - 1) hk
  omega
theorem padOf_eq {k : Nat} (hk : 0 < k) (n : Nat) : k * mOf k n = 8 * n + padOf k n := by
  have := mOf_ge hk n
  unfold padOf; omega
theorem padOf_lt {k : Nat} (hk : 0 < k) (n : Nat) : padOf k n < k := by
  have := mOf_lt hk n
  have := mOf_ge hk n
  unfold padOf; omega

/-- The letters' numbers of a text. -/
def encN (k : Nat) (s : List UInt8) : List Nat := dg (2 ^ k) (getL s * 2 ^ padOf k s.length) (mOf k s.length)

theorem encN_length (k : Nat) (s : List UInt8) : (encN k s).length = mOf k s.length := dg_length _ _ _
theorem encN_lt (k : Nat) (s : List UInt8) : ∀ d ∈ encN k s, d < 2 ^ k := dg_lt (Nat.pow_pos (by omega)) _ _

/-- What stands behind whole letters alone: nothing is laid behind. -/
theorem mOf_unique {k m c n : Nat} (hk : 0 < k) (h : 8 * n + c = k * m) (hc : c < k) : mOf k n = m ∧ padOf k n = c := by
  have h1 := mOf_ge hk n
  have h2 := mOf_lt hk n
  have hm : mOf k n = m := by
    have a1 : k * mOf k n < k * (m + 1) := by rw [Nat.mul_add]; omega
    have a2 : k * m < k * (mOf k n + 1) := by rw [Nat.mul_add]; omega
    have b1 := Nat.lt_of_mul_lt_mul_left a1
    have b2 := Nat.lt_of_mul_lt_mul_left a2
    omega
  refine ⟨hm, ?_⟩
  unfold padOf
  rw [hm]; omega

/-- Texts of whole letters, and what stands behind them. -/
theorem encN_append {k : Nat} (hk : 0 < k) (s t : List UInt8) (hs : padOf k s.length = 0) : encN k (s ++ t) = encN k s ++ encN k t := by
  have p1 := padOf_eq hk s.length
  have p2 := padOf_eq hk t.length
  have p3 := padOf_lt hk t.length
  rw [hs] at p1
  have hu := mOf_unique (k := k) (m := mOf k s.length + mOf k t.length) (c := padOf k t.length) (n := (s ++ t).length) hk (by rw [List.length_append, Nat.mul_add, Nat.mul_add]; omega) p3
  unfold encN
  rw [hu.1, hu.2, hs, dg_add, getL_append]
  have e256 : (256 : Nat) ^ t.length = 2 ^ (8 * t.length) := by rw [Nat.pow_mul]
  have hB : (2 ^ k) ^ mOf k t.length = 256 ^ t.length * 2 ^ padOf k t.length := by
    rw [← Nat.pow_mul, p2, Nat.pow_add, e256]
  have hlt : getL t * 2 ^ padOf k t.length < (2 ^ k) ^ mOf k t.length := by
    rw [hB]; exact Nat.mul_lt_mul_of_pos_right (getL_lt t) (Nat.pow_pos (by omega))
  have hN : (getL s * 256 ^ t.length + getL t) * 2 ^ padOf k t.length = (2 ^ k) ^ mOf k t.length * getL s + getL t * 2 ^ padOf k t.length := by
    rw [hB, Nat.add_mul, Nat.mul_assoc, Nat.mul_comm (getL s)]
  congr 1
  · rw [hN, Nat.mul_add_div (Nat.pow_pos (Nat.pow_pos (by omega))), Nat.div_eq_of_lt hlt]
    simp
  · rw [hN, ← dg_mod, Nat.mul_add_mod, dg_mod]

/-- The whole bytes of letters' numbers. -/
def decN (k : Nat) (l : List Nat) : List UInt8 := putL (ug (2 ^ k) l / 2 ^ (k * l.length % 8)) (k * l.length / 8)

theorem decN_encN {k : Nat} (hk : 0 < k) (hk8 : k ≤ 8) (s : List UInt8) : decN k (encN k s) = s := by
  have p1 := padOf_eq hk s.length
  have p2 := padOf_lt hk s.length
  unfold decN
  rw [encN_length, p1]
  have e1 : (8 * s.length + padOf k s.length) % 8 = padOf k s.length := by omega
  have e2 : (8 * s.length + padOf k s.length) / 8 = s.length := by omega
  rw [e1, e2, encN, ug_dg]
  have hB : (2 ^ k) ^ mOf k s.length = 256 ^ s.length * 2 ^ padOf k s.length := by
    rw [← Nat.pow_mul, p1, Nat.pow_add, Nat.pow_mul]
  have hlt : getL s * 2 ^ padOf k s.length < (2 ^ k) ^ mOf k s.length := by
    rw [hB]; exact Nat.mul_lt_mul_of_pos_right (getL_lt s) (Nat.pow_pos (by omega))
  rw [Nat.mod_eq_of_lt hlt, Nat.mul_div_cancel _ (Nat.pow_pos (by omega)), putL_getL]
end Go.Proofs.YtheidjnapoipaaaGreatDoor
