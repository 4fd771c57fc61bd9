/- The sum of 256 bits, plainly: nothing of the program stands here. -/
import Derived.WalkKit
import Derived.Test.YtheidjnapoipaaaGreatDoorPlain
namespace Go.Proofs.YtheidjnapoipaaaGreatDoor
open Go.RowKit

/-- The words' operations, behind names. -/
def uxor (x y : UInt32) : UInt32 := x ^^^ y
def uand (x y : UInt32) : UInt32 := x &&& y
def unot (x : UInt32) : UInt32 := 4294967295 ^^^ x
def uadd (x y : UInt32) : UInt32 := x + y
def ushr (x : UInt32) (n : Nat) : UInt32 := x >>> UInt32.ofNat n
/-- A word, turned right. -/
def rot (x : UInt32) (n : Nat) : UInt32 := x >>> UInt32.ofNat n ||| x <<< UInt32.ofNat (32 - n)

theorem u32_lt (x : UInt32) : x.toNat < 4294967296 := x.toNat_lt
theorem u32_xor (x y : UInt32) : bits BinOp.xor IntKind.u32 (x.toNat : Int) (y.toNat : Int) = ((uxor x y).toNat : Int) := by
  rw [u32_xor_nat _ _ (u32_lt x) (u32_lt y)]; rfl
theorem u32_and (x y : UInt32) : bits BinOp.and IntKind.u32 (x.toNat : Int) (y.toNat : Int) = ((uand x y).toNat : Int) := by
  rw [u32_and_nat _ _ (u32_lt x) (u32_lt y)]; rfl
theorem u32_add (x y : UInt32) : ((x.toNat : Int) + (y.toNat : Int)) % 4294967296 = ((uadd x y).toNat : Int) := by
  unfold uadd
  rw [UInt32.toNat_add]
  simp
theorem u32_not (x : UInt32) : bits BinOp.xor IntKind.u32 IntKind.u32.max (x.toNat : Int) = ((unot x).toNat : Int) := u32_xor 4294967295 x
theorem u32_sub (x : UInt32) : (4294967295 : Int) - (x.toNat : Int) = ((unot x).toNat : Int) := by
  have hx := u32_lt x
  have e : unot x = 4294967295 - x := by
    apply UInt32.toBitVec_inj.1
    have h1 := BitVec.allOnes_xor (x := x.toBitVec)
    have h2 := BitVec.allOnes_sub_eq_not x.toBitVec
    exact h1.trans h2.symm
  rw [e, UInt32.toNat_sub_of_le _ _ (UInt32.le_iff_toNat_le.2 (by simp; omega))]
  simp
  omega
theorem u32_shr (x : UInt32) (n : Nat) (h : n < 32) : (x.toNat : Int) / 2 ^ n = ((ushr x n).toNat : Int) := by
  unfold ushr
  rw [UInt32.toNat_shiftRight, Nat.shiftRight_eq_div_pow]
  have : (UInt32.ofNat n).toNat % 32 = n := by simp; omega
  rw [this]
  simp
theorem rot_nat (x : UInt32) (n : Nat) (h0 : 0 < n) (h : n < 32) : (rot x n).toNat = (x.toNat / 2 ^ n) ||| (x.toNat * 2 ^ (32 - n) % 4294967296) := by
  unfold rot
  rw [UInt32.toNat_or, UInt32.toNat_shiftRight, UInt32.toNat_shiftLeft, Nat.shiftRight_eq_div_pow, Nat.shiftLeft_eq]
  have h1 : (UInt32.ofNat n).toNat % 32 = n := by simp; omega
  have h2 : (UInt32.ofNat (32 - n)).toNat % 32 = 32 - n := by simp; omega
  rw [h1, h2]
theorem rot_r (x : UInt32) (n : Nat) (h0 : 0 < n) (h : n < 32) : bits BinOp.or IntKind.u32 ((x.toNat : Int) / 2 ^ n) ((x.toNat : Int) * 2 ^ (32 - n) % 4294967296) = ((rot x n).toNat : Int) := by
  have hx := u32_lt x
  have e := u32_or_nat (x.toNat / 2 ^ n) (x.toNat * 2 ^ (32 - n) % 4294967296) (Nat.lt_of_le_of_lt (Nat.div_le_self _ _) hx) (Nat.mod_lt _ (by omega))
  rw [rot_nat x n h0 h, ← e]
  simp
theorem rot_l (x : UInt32) (n : Nat) (h0 : 0 < n) (h : n < 32) : bits BinOp.or IntKind.u32 ((x.toNat : Int) * 2 ^ (32 - n) % 4294967296) ((x.toNat : Int) / 2 ^ n) = ((rot x n).toNat : Int) := by
  have hx := u32_lt x
  have e := u32_or_nat (x.toNat * 2 ^ (32 - n) % 4294967296) (x.toNat / 2 ^ n) (Nat.mod_lt _ (by omega)) (Nat.lt_of_le_of_lt (Nat.div_le_self _ _) hx)
  rw [rot_nat x n h0 h, Nat.or_comm, ← e]
  simp

/-- The eight words of a state. -/
structure S8 where
  a : UInt32
  b : UInt32
  c : UInt32
  d : UInt32
  e : UInt32
  f : UInt32
  g : UInt32
  h : UInt32

/-- One round, by a word that has its constant added. -/
def t1 (s : S8) (kw : UInt32) : UInt32 := uadd (uadd (uadd s.h (uxor (uxor (rot s.e 6) (rot s.e 11)) (rot s.e 25))) (uxor (uand s.e s.f) (uand (unot s.e) s.g))) kw
def t2 (s : S8) : UInt32 := uadd (uxor (uxor (rot s.a 2) (rot s.a 13)) (rot s.a 22)) (uxor (uxor (uand s.a s.b) (uand s.a s.c)) (uand s.b s.c))
def rnd (s : S8) (kw : UInt32) : S8 := ⟨uadd (t1 s kw) (t2 s), s.a, s.b, s.c, uadd s.d (t1 s kw), s.e, s.f, s.g⟩

/-- The next of the words, of those 16, 15, 7 and 2 ahead. -/
def nextW4 (p x q y : UInt32) : UInt32 := uadd (uadd (uadd p (uxor (uxor (rot x 7) (rot x 18)) (ushr x 3))) q) (uxor (uxor (rot y 17) (rot y 19)) (ushr y 10))
def nextW (l : List UInt32) : UInt32 := nextW4 (l.getD (l.length - 16) 0) (l.getD (l.length - 15) 0) (l.getD (l.length - 7) 0) (l.getD (l.length - 2) 0)

/-- k words more. -/
def moreW (l : List UInt32) : Nat → List UInt32
  | 0 => l
  | k + 1 => moreW l k ++ [nextW (moreW l k)]

/-- The word of four bytes from the place 4 * i on. -/
def wordAt (l : List UInt8) (i : Nat) : UInt32 := UInt32.ofNat (getL ((l.drop (4 * i)).take 4))

/-- The first n words. -/
def firstW (l : List UInt8) (n : Nat) : List UInt32 := (List.range n).map (wordAt l)

/-- The 64 words of a block. -/
def sched (l : List UInt8) : List UInt32 := moreW (firstW l 16) 48

/-- The rounds' constants. -/
def K64 : List UInt32 := [
  0x428a2f98, 0x71374491, 0xb5c0fbcf, 0xe9b5dba5, 0x3956c25b, 0x59f111f1, 0x923f82a4, 0xab1c5ed5,
  0xd807aa98, 0x12835b01, 0x243185be, 0x550c7dc3, 0x72be5d74, 0x80deb1fe, 0x9bdc06a7, 0xc19bf174,
  0xe49b69c1, 0xefbe4786, 0x0fc19dc6, 0x240ca1cc, 0x2de92c6f, 0x4a7484aa, 0x5cb0a9dc, 0x76f988da,
  0x983e5152, 0xa831c66d, 0xb00327c8, 0xbf597fc7, 0xc6e00bf3, 0xd5a79147, 0x06ca6351, 0x14292967,
  0x27b70a85, 0x2e1b2138, 0x4d2c6dfc, 0x53380d13, 0x650a7354, 0x766a0abb, 0x81c2c92e, 0x92722c85,
  0xa2bfe8a1, 0xa81a664b, 0xc24b8b70, 0xc76c51a3, 0xd192e819, 0xd6990624, 0xf40e3585, 0x106aa070,
  0x19a4c116, 0x1e376c08, 0x2748774c, 0x34b0bcb5, 0x391c0cb3, 0x4ed8aa4a, 0x5b9cca4f, 0x682e6ff3,
  0x748f82ee, 0x78a5636f, 0x84c87814, 0x8cc70208, 0x90befffa, 0xa4506ceb, 0xbef9a3f7, 0xc67178f2]

/-- The state ahead of the first block. -/
def start8 : S8 := ⟨0x6a09e667, 0xbb67ae85, 0x3c6ef372, 0xa54ff53a, 0x510e527f, 0x9b05688c, 0x1f83d9ab, 0x5be0cd19⟩

/-- The state behind the first k rounds by the words w. -/
def rnds (s : S8) (w : List UInt32) : Nat → S8
  | 0 => s
  | k + 1 => rnd (rnds s w k) (uadd (K64.getD k 0) (w.getD k 0))

def add8 (s t : S8) : S8 := ⟨uadd s.a t.a, uadd s.b t.b, uadd s.c t.c, uadd s.d t.d, uadd s.e t.e, uadd s.f t.f, uadd s.g t.g, uadd s.h t.h⟩

/-- The state behind a block. -/
def comp (s : S8) (l : List UInt8) : S8 := add8 s (rnds s (sched l) 64)

/-- The i-th block. -/
def blk (l : List UInt8) (i : Nat) : List UInt8 := (l.drop (64 * i)).take 64

/-- The state behind the first k blocks. -/
def mixK (s : S8) (l : List UInt8) : Nat → S8
  | 0 => s
  | k + 1 => comp (mixK s l k) (blk l k)

/-- What stands behind n bytes. -/
def endL (n : Nat) : List UInt8 := 128 :: (List.replicate ((119 - n % 64) % 64) 0 ++ putL (n * 8) 8)

/-- A whole text. -/
def padL (l : List UInt8) : List UInt8 := l ++ endL l.length

/-- The state's bytes. -/
def bytes8 (s : S8) : List UInt8 := putL s.a.toNat 4 ++ putL s.b.toNat 4 ++ putL s.c.toNat 4 ++ putL s.d.toNat 4 ++ putL s.e.toNat 4 ++ putL s.f.toNat 4 ++ putL s.g.toNat 4 ++ putL s.h.toNat 4

/-- The sum. -/
def shaL (l : List UInt8) : List UInt8 := bytes8 (mixK start8 (padL l) ((padL l).length / 64))

set_option maxRecDepth 100000 in
theorem abc_example : (shaL [97, 98, 99]).take 4 = [186, 120, 22, 191] := by decide +kernel

/-- A word as a value. -/
def uv (x : UInt32) : Value := .int .u32 x.toNat
/-- The state as cells. -/
def s8l (s : S8) : List Value := [uv s.a, uv s.b, uv s.c, uv s.d, uv s.e, uv s.f, uv s.g, uv s.h]
end Go.Proofs.YtheidjnapoipaaaGreatDoor
