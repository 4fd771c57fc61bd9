/- The words of the document's sum, and the bodies of its loops. -/
import Derived.OwnWalk
import Derived.Deep.OwnRows
import Derived.Deep.RegionHeld3
import Derived.Test.YtlmbijhkpgolaaaGreatDoorTail
import Derived.Test.YtlmbijhkpgolaaaGreatDoorBuildOf
import Derived.Test.YtlmbijhkpgolaaaGreatDoorRK
import Derived.Test.YtlmbijhkpgolaaaGreatDoorSRnd
import Derived.Test.YtlmbijhkpgolaaaGreatDoorRPad
import Derived.Test.YtlmbijhkpgolaaaGreatDoorSText
import Derived.Test.YtlmbijhkpgolaaaGreatDoorSMix
namespace Go.Proofs.YtlmbijhkpgolaaaGreatDoor
open Go.RowKit
set_option linter.unusedVariables false
set_option linter.unusedSimpArgs false

/-- The first j bytes of the i-th word. -/
def wordPart (l : List UInt8) (i j : Nat) : UInt32 := UInt32.ofNat (getL ((l.drop (4 * i)).take j))
theorem wordPart_zero (l : List UInt8) (i : Nat) : wordPart l i 0 = 0 := by simp [wordPart, getL]
theorem wordPart_four (l : List UInt8) (i : Nat) : wordPart l i 4 = wordAt l i := rfl
theorem wordPart_step (l : List UInt8) (i j : Nat) (x : UInt8) (h : l[4 * i + j]? = some x) :
    ((((wordPart l i j).toNat : Int) * 256) % 4294967296 + (x.toNat : Int)) % 4294967296 = ((wordPart l i (j + 1)).toNat : Int) := by
  have e : (l.drop (4 * i)).take (j + 1) = (l.drop (4 * i)).take j ++ [x] := by
    rw [List.take_add_one, List.getElem?_drop, h]; rfl
  unfold wordPart
  rw [e, getL_snoc]
  simp only [UInt32.toNat_ofNat']
  have : (2:Nat) ^ 32 = 4294967296 := by decide
  omega
/-- The i-th word half read. -/
def wpart (l : List UInt8) (i j : Nat) : List Value := (wrow (firstW l i)).set i (.int .u32 ((wordPart l i j).toNat : Int))
theorem wpart_zero (l : List UInt8) {i : Nat} (h : i < 16) : wpart l i 0 = wrow (firstW l i) := by
  unfold wpart
  rw [wordPart_zero]
  have hg : (wrow (firstW l i))[i]? = some (.int .u32 0) := by
    unfold wrow
    have hl : ((firstW l i).map uv).length = i := by simp [firstW_length]
    rw [List.getElem?_append_right (by omega), hl, Nat.sub_self, firstW_length, List.getElem?_replicate, if_pos (by omega)]
  apply List.ext_getElem?
  intro k
  rw [List.getElem?_set]
  split
  · next hk =>
    subst hk
    split
    · rw [hg]; rfl
    · next hn => rw [wrow_length (by rw [firstW_length]; omega)] at hn; omega
  · rfl
theorem wpart_four (l : List UInt8) {i : Nat} (h : i < 16) : wpart l i 4 = wrow (firstW l (i + 1)) := by
  have := wrow_set (l := firstW l i) (by rw [firstW_length]; omega) (wordAt l i)
  rw [firstW_length, ← firstW_succ] at this
  exact this
theorem wpart_get (l : List UInt8) {i : Nat} (j : Nat) (h : i < 16) : (wpart l i j)[i]? = some (.int .u32 ((wordPart l i j).toNat : Int)) := by
  unfold wpart
  rw [List.getElem?_set_self (by rw [wrow_length (by rw [firstW_length]; omega)]; omega)]
theorem wpart_set (l : List UInt8) (i j : Nat) : (wpart l i j).set i (.int .u32 ((wordPart l i (j + 1)).toNat : Int)) = wpart l i (j + 1) := by
  unfold wpart; rw [List.set_set]
theorem w_info3 : (Tryz.prog.info? 66).map (fun i => (i.zero, i.size, i.bytes)) = some (some (.int .u32 0), 1, 4) := by kernel_rfl
theorem uadd_assoc (x y z : UInt32) : uadd (uadd x y) z = uadd x (uadd y z) := by unfold uadd; exact UInt32.add_assoc x y z
def h0Ints : List Int := (s8l start8).map fun v => match v with | .int _ n => n | _ => 0
theorem made64 : madeCells #[.int .u32 0] 64 = z64.toArray := by kernel_rfl
/-- A round as the document writes it: the constant and the word are added one by one. -/
def rt1 (s : S8) (k x : UInt32) : UInt32 := uadd (uadd (uadd (uadd s.h (uxor (uxor (rot s.e 6) (rot s.e 11)) (rot s.e 25))) (uxor (uand s.e s.f) (uand (unot s.e) s.g))) k) x
def rrnd (s : S8) (k x : UInt32) : S8 := ⟨uadd (rt1 s k x) (t2 s), s.a, s.b, s.c, uadd s.d (rt1 s k x), s.e, s.f, s.g⟩
theorem rrnd_eq (s : S8) (k x : UInt32) : rrnd s k x = rnd s (uadd k x) := by
  have h : rt1 s k x = t1 s (uadd k x) := by unfold rt1 t1; rw [uadd_assoc]
  unfold rrnd rnd
  rw [h]
/-- The first k bytes of the sum, noughts behind. -/
def brow (S : S8) (k : Nat) : List Value := ((bytes8 S).take k).map bv ++ List.replicate (32 - k) (.int .u8 0)
theorem bytes8_len (S : S8) : (bytes8 S).length = 32 := by unfold bytes8; simp [putL_length]
theorem brow_length (S : S8) {k : Nat} (h : k ≤ 32) : (brow S k).length = 32 := by unfold brow; simp [bytes8_len]; omega
theorem brow_set (S : S8) {k : Nat} (h : k < 32) (x : UInt8) (hx : (bytes8 S)[k]? = some x) : (brow S k).set k (.int .u8 x.toNat) = brow S (k + 1) := by
  unfold brow
  have hl : (((bytes8 S).take k).map bv).length = k := by simp [bytes8_len]; omega
  have e : 32 - k = (32 - (k + 1)) + 1 := by omega
  rw [e, List.replicate_succ, List.set_append_right _ _ (by omega), hl, Nat.sub_self, List.set_cons_zero, List.take_add_one, hx, List.map_append, List.append_assoc]
  rfl
theorem brow_all (S : S8) : brow S 32 = (bytes8 S).map bv := by
  unfold brow
  rw [List.take_of_length_le (by rw [bytes8_len]; exact Nat.le_refl _)]
  simp
theorem putL_four (n : Nat) : putL n 4 = [UInt8.ofNat (n / 256 ^ 3 % 256), UInt8.ofNat (n / 256 ^ 2 % 256), UInt8.ofNat (n / 256 ^ 1 % 256), UInt8.ofNat (n / 256 ^ 0 % 256)] := by
  simp only [putL, List.nil_append, List.cons_append]
  simp [Nat.div_div_eq_div_mul]
theorem bytes8_get (S : S8) (a r : Nat) (ha : a < 8) (hr : r < 4) : (bytes8 S)[4 * a + r]? = some (UInt8.ofNat ((at8 S a).toNat / 256 ^ (3 - r) % 256)) := by
  unfold bytes8
  simp only [putL_four]
  rcases (by omega : a = 0 ∨ a = 1 ∨ a = 2 ∨ a = 3 ∨ a = 4 ∨ a = 5 ∨ a = 6 ∨ a = 7) with rfl | rfl | rfl | rfl | rfl | rfl | rfl | rfl <;>
    rcases (by omega : r = 0 ∨ r = 1 ∨ r = 2 ∨ r = 3) with rfl | rfl | rfl | rfl <;> rfl
theorem byteI (x : UInt32) (d : Nat) : ((x.toNat : Int) / (d : Int)) % 256 = (((UInt8.ofNat (x.toNat / d % 256)).toNat : Nat) : Int) := by
  rw [UInt8.toNat_ofNat']
  omega
theorem comp_split {T : S8} {L b : List UInt8} {J : Nat} {sc : List UInt32} (h1 : mixK start8 L J = T) (h2 : blk L J = b) (h3 : sched b = sc) : add8 T (rnds T sc 64) = mixK start8 L (J + 1) := by
  rw [mixK, h1, h2, comp, h3]
theorem u32_mod (x : UInt32) : (x.toNat : Int) % 4294967296 = (x.toNat : Int) := by
  have := u32_lt x
  omega
/-- A walk goes on in any world of the same facts. -/
theorem wp_gen {P : Program} {c : Code} {Q : Exit → Act → World → Prop} {a : Act} {W : World} (K : World → Prop) (hk : K W) (h : ∀ W, K W → c.wp P Q a W) : c.wp P Q a W := h W hk
/-- A region whose end is one frame and one world. -/
theorem wp_cut_one {P : Program} {id : Nat} {ops : Array Oper} {b : Bool} {Q : Exit → Act → World → Prop} {a : Act} {w : World} (a1 : Act) (w1 : World)
    (h1 : (Code.region id ops b).wp P (fun e a' w' => e = .normal ∧ a' = a1 ∧ w' = w1) a w) (h2 : Q .normal a1 w1) : (Code.region id ops b).wp P Q a w :=
  Code.wp_mono (fun e a' w' h => by obtain ⟨rfl, rfl, rfl⟩ := h; exact h2) h1

theorem sched_eq (b : List UInt8) : moreW (firstW b 16) (64 - 16) = sched b := rfl
theorem rnds_next (T : S8) (sc : List UInt32) (q : Nat) : rnds T sc (q + 1) = rnd (rnds T sc q) (uadd (K64.getD q 0) (sc.getD q 0)) := rfl
theorem part8_all (s t : S8) : part8 s t 8 = s8l t := rfl
theorem mixK_zero (L : List UInt8) : s8l (mixK start8 L 0) = s8l start8 := rfl
theorem firstW_zero (b : List UInt8) : wrow (firstW b 0) = z64 := rfl
theorem moreW_zero (l : List UInt32) : wrow (moreW l (16 - 16)) = wrow l := rfl
theorem rnds_zero (T : S8) (sc : List UInt32) : s8l (rnds T sc 0) = s8l T := rfl
theorem brow_zero (S : S8) : brow S 0 = z32 := rfl
attribute [local irreducible] mixK rnds sched add8 comp moreW firstW nextW rnd shaL bytes8 blk wpart wordPart wrow brow
/-- The bodies of a code's loops, in their order. -/
def bodies : Code → List Code
  | .loop c => c :: bodies c
  | .seq a b => bodies a ++ bodies b
  | .block _ c => bodies c
  | .scope c => bodies c
  | .cond _ a b => bodies a ++ bodies b
  | _ => []
end Go.Proofs.YtlmbijhkpgolaaaGreatDoor
