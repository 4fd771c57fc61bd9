/- The statement of IdsDraws: whatever comes in, the law answers true, and what came in reads as it did. (In one text with what it leans on: ShelfR, IHex, IPars, IText, ICmp, HCat, HPlain, HMask, HSumm, Awk6, IAwk, QuietL, IId, IRead, RefEnc, IRef, RefDec, IRefP, IRefB, IVer, HShort, HOne, HRPad, RText, HRPadL, HRSum, IDraw, IDer, IdsDrawsW, Laid4, IdsDraws.) -/
import Derived.Shelf.Strings.Builder2
import Derived.Shelf.LaysM
import Derived.Shelf.Strings.Replace
import Derived.Below
import Derived.WalkKit
import Derived.Lib.Replace
import Derived.Lib.CountLaws
import Derived.Lib.IndexBytes
import Derived.Lib.BytesEntry
import Derived.OwnWalk
import Derived.BigQuiet
import Derived.DeepKeys
import Derived.Deep.MidRow
import Derived.Laws.ResultCell
import Derived.Laws.Cover3
import Derived.WalkSpells
import Derived.WalkLawsBesides
import Derived.Lib.Hide
import Derived.Deep.RegionHeld3
import Derived.Deep.OwnRows
import Derived.ProofKit
import Derived.OpenShut
import Derived.ShutString
import Derived.SizedLaws
import Derived.LaidMore
import Derived.Stop.Joined
import Derived.SevenTiedAt
import Derived.Test.YtdhplohppcndhaaGreatDoorProg
import Derived.Test.YtdhplohppcndhaaGreatDoorBaseE
import Derived.Test.YtdhplohppcndhaaGreatDoorBase
import Derived.Test.YtdhplohppcndhaaGreatDoorSText
import Derived.Test.YtdhplohppcndhaaGreatDoorSHash
import Derived.Test.YtdhplohppcndhaaGreatDoorGrow
import Derived.Test.YtdhplohppcndhaaGreatDoorSPlain
import Derived.Test.YtdhplohppcndhaaGreatDoorDCard
import Derived.Test.YtdhplohppcndhaaGreatDoorAwk5
import Derived.Test.YtdhplohppcndhaaGreatDoorMem
import Derived.Test.YtdhplohppcndhaaGreatDoorRound
import Derived.Test.YtdhplohppcndhaaGreatDoorRows
import Derived.Test.YtdhplohppcndhaaGreatDoorRSum
import Derived.Test.YtdhplohppcndhaaGreatDoorLaid
import Derived.Test.YtdhplohppcndhaaGreatDoorCards
import Derived.Test.YtdhplohppcndhaaGreatDoorTie
namespace Go.Proofs.YtdhplohppcndhaaGreatDoor
open Go Go.Shelf Go.RowKit
def Tryz.lays155_ren : Go.Shelf.Ren := ⟨fun | 155 => 23 | 154 => 39 | 138 => 55 | 165 => 35 | 143 => 56 | 166 => 36 | 197 => 57 | 169 => 37 | 195 => 68 | 218 => 69 | 240 => 52 | 241 => 53 | 219 => 70 | 260 => 71 | 276 => 65 | 277 => 66 | 217 => 67 | 225 => 82 | 224 => 83 | 267 => 84 | 266 => 81 | 314 => 94 | n => n, fun | 9 => 9 | 3 => 3 | 4 => 4 | 72 => 60 | 0 => 0 | 76 => 64 | 105 => 76 | 21 => 21 | 5 => 5 | 70 => 58 | 20 => 20 | 37 => 44 | 75 => 63 | 127 => 74 | 164 => 83 | 46 => 53 | 119 => 99 | 139 => 102 | 138 => 101 | 146 => 112 | 51 => 93 | 80 => 66 | n => n, fun | 1 => 0 | 3 => 1 | 4 => 2 | n => n⟩
theorem Tryz.lays155 : Go.Proofs.Lays.n155 Tryz.prog Tryz.lays155_ren := {
  mixed := by kernel_rfl
  f138 := Tryz.func55.trans (congrArg some (by kernel_rfl))
  f143 := Tryz.func56.trans (congrArg some (by kernel_rfl))
  f154 := Tryz.func39.trans (congrArg some (by kernel_rfl))
  f155 := Tryz.func23.trans (congrArg some (by kernel_rfl))
  f165 := Tryz.func35.trans (congrArg some (by kernel_rfl))
  f166 := Tryz.func36.trans (congrArg some (by kernel_rfl))
  f169 := Tryz.func37.trans (congrArg some (by kernel_rfl))
  f195 := Tryz.func68.trans (congrArg some (by kernel_rfl))
  f197 := Tryz.func57.trans (congrArg some (by kernel_rfl))
  f217 := Tryz.func67.trans (congrArg some (by kernel_rfl))
  f218 := Tryz.func69.trans (congrArg some (by kernel_rfl))
  f219 := Tryz.func70.trans (congrArg some (by kernel_rfl))
  f224 := Tryz.func83.trans (congrArg some (by kernel_rfl))
  f225 := Tryz.func82.trans (congrArg some (by kernel_rfl))
  f240 := Tryz.func52.trans (congrArg some (by kernel_rfl))
  f241 := Tryz.func53.trans (congrArg some (by kernel_rfl))
  f260 := Tryz.func71.trans (congrArg some (by kernel_rfl))
  f266 := Tryz.func81.trans (congrArg some (by kernel_rfl))
  f267 := Tryz.func84.trans (congrArg some (by kernel_rfl))
  f276 := Tryz.func65.trans (congrArg some (by kernel_rfl))
  f277 := Tryz.func66.trans (congrArg some (by kernel_rfl))
  f314 := Tryz.func94.trans (congrArg some (by kernel_rfl))
  t0 := Tryz.underlying0
  a0 := Tryz.isAgg0
  z0 := Tryz.sizeOf0
  v0 := Tryz.zeroValue0
  t3 := Tryz.underlying3
  a3 := Tryz.isAgg3
  z3 := Tryz.sizeOf3
  v3 := Tryz.zeroValue3
  t4 := Tryz.underlying4
  a4 := Tryz.isAgg4
  z4 := Tryz.sizeOf4
  v4 := Tryz.zeroValue4
  t5 := Tryz.underlying5
  a5 := Tryz.isAgg5
  z5 := Tryz.sizeOf5
  v5 := Tryz.zeroValue5
  t9 := Tryz.underlying9
  a9 := Tryz.isAgg9
  z9 := Tryz.sizeOf9
  v9 := Tryz.zeroValue9
  t20 := Tryz.underlying20
  a20 := Tryz.isAgg20
  z20 := Tryz.sizeOf20
  v20 := Tryz.zeroValue20
  t21 := Tryz.underlying21
  a21 := Tryz.isAgg21
  z21 := Tryz.sizeOf21
  v21 := Tryz.zeroValue21
  t37 := Tryz.underlying44
  a37 := Tryz.isAgg44
  z37 := Tryz.sizeOf44
  v37 := Tryz.zeroValue44
  t46 := Tryz.underlying53
  a46 := Tryz.isAgg53
  z46 := Tryz.sizeOf53
  v46 := Tryz.zeroValue53
  t51 := Tryz.underlying93
  a51 := Tryz.isAgg93
  z51 := Tryz.sizeOf93
  v51 := Tryz.zeroValue93
  t70 := Tryz.underlying58
  a70 := Tryz.isAgg58
  z70 := Tryz.sizeOf58
  v70 := Tryz.zeroValue58
  t72 := Tryz.underlying60
  a72 := Tryz.isAgg60
  z72 := Tryz.sizeOf60
  v72 := Tryz.zeroValue60
  t75 := Tryz.underlying63
  a75 := Tryz.isAgg63
  z75 := Tryz.sizeOf63
  v75 := Tryz.zeroValue63
  t76 := Tryz.underlying64
  a76 := Tryz.isAgg64
  z76 := Tryz.sizeOf64
  v76 := Tryz.zeroValue64
  t105 := Tryz.underlying76
  a105 := Tryz.isAgg76
  z105 := Tryz.sizeOf76
  v105 := Tryz.zeroValue76
  t119 := Tryz.underlying99
  a119 := Tryz.isAgg99
  z119 := Tryz.sizeOf99
  t127 := Tryz.underlying74
  a127 := Tryz.isAgg74
  z127 := Tryz.sizeOf74
  v127 := Tryz.zeroValue74
  t138 := Tryz.underlying101
  a138 := Tryz.isAgg101
  z138 := Tryz.sizeOf101
  v138 := Tryz.zeroValue101
  t139 := Tryz.underlying102
  a139 := Tryz.isAgg102
  z139 := Tryz.sizeOf102
  v139 := Tryz.zeroValue102
  t146 := Tryz.underlying112
  a146 := Tryz.isAgg112
  z146 := Tryz.sizeOf112
  v146 := Tryz.zeroValue112
  t164 := Tryz.underlying83
  a164 := Tryz.isAgg83
  z164 := Tryz.sizeOf83
  v164 := Tryz.zeroValue83
  g1 := by kernel_rfl
  g3 := by kernel_rfl
  g4 := by kernel_rfl }
theorem Tryz.Builder_Extra_155 : Builder.Extra Tryz.prog Tryz.lays155_ren := {
  sizeBuilder := by kernel_rfl
  liesBuilder := by kernel_rfl
  t5 := Tryz.underlying5
  a5 := Tryz.isAgg5
  z5 := Tryz.sizeOf5
  v5 := Tryz.zeroValue5
  infoByte := by kernel_rfl
  cellsByte := by kernel_rfl
  sizeByte := by kernel_rfl
  neB5 := by decide }
open Go.RowKit Go.Lib in
theorem Tryz.strings_ReplaceAll (s old new : ByteArray) (m : Int) (w : World) (hs : s.size < 4294967281) (hm : w.cell? ⟨0, 0, none⟩ = some (.int .i64 m)) (h1 : 1 ≤ old.size) (hlen : s.size + Lib.countB s old * new.size ≤ 140737488355328) :
    Calls Tryz.prog 23 #[.string s, .string old, .string new] w fun e w' =>
      e = .returned (.string ⟨(Lib.replaceAll s.data.toList old.data.toList new.data.toList).toArray⟩) ∧ Below w.heap.size w w' := Any.strings_ReplaceAll Tryz.lays155 Tryz.Builder_Extra_155 s old new m w hs hm h1 hlen
end Go.Proofs.YtdhplohppcndhaaGreatDoor

namespace Go.Proofs.YtdhplohppcndhaaGreatDoor
open Go.RowKit
set_option linter.unusedVariables false

/-- A digit's letter. -/
def hx (d : Nat) : UInt8 := hexS.data.toList.getD d 0
/-- The letters of bytes. -/
def hexL (l : List UInt8) : List UInt8 := l.flatMap fun b => [hx (b.toNat / 16), hx (b.toNat % 16)]
theorem hexL_nil : hexL [] = [] := rfl
theorem hexL_cons (b : UInt8) (l : List UInt8) : hexL (b :: l) = hx (b.toNat / 16) :: hx (b.toNat % 16) :: hexL l := rfl
theorem hexL_append (l m : List UInt8) : hexL (l ++ m) = hexL l ++ hexL m := by simp [hexL]
theorem hexL_length : ∀ l : List UInt8, (hexL l).length = 2 * l.length
  | [] => rfl
  | b :: l => by rw [hexL_cons, List.length_cons, List.length_cons, List.length_cons, hexL_length l]; omega

theorem dg16r : ∀ l : List UInt8, dg 16 (getL l.reverse) (2 * l.length) = l.reverse.flatMap fun b => [b.toNat / 16, b.toNat % 16]
  | [] => rfl
  | b :: l => by
    have hb := UInt8.toNat_lt b
    have ih := dg16r l
    rw [List.reverse_cons, getL_snoc, List.length_cons, show 2 * (l.length + 1) = (2 * l.length + 1) + 1 by omega, dg, dg, List.flatMap_append]
    rw [show (getL l.reverse * 256 + b.toNat) / 16 / 16 = getL l.reverse by omega, ih]
    rw [show (getL l.reverse * 256 + b.toNat) / 16 % 16 = b.toNat / 16 by omega, show (getL l.reverse * 256 + b.toNat) % 16 = b.toNat % 16 by omega]
    simp
theorem dg16 (l : List UInt8) : dg 16 (getL l) (2 * l.length) = l.flatMap fun b => [b.toNat / 16, b.toNat % 16] := by
  have h := dg16r l.reverse
  rwa [List.reverse_reverse, List.length_reverse] at h

theorem encL_hex (l : List UInt8) : encL hexS 4 false l = hexL l := by
  have h1 : mOf 4 l.length = 2 * l.length := by unfold mOf; omega
  have h2 : padOf 4 l.length = 0 := by unfold padOf; rw [h1]; omega
  have h3 : szA 4 false l.length = 2 * l.length := by
    simp only [szA, Bool.false_and, Bool.false_eq_true, if_false]; omega
  unfold encL encN
  rw [h1, h2, h3, Nat.sub_self, Nat.pow_zero, Nat.mul_one, show (2 : Nat) ^ 4 = 16 by rfl, dg16, List.replicate_zero, List.append_nil]
  unfold hexL
  induction l with
  | nil => rfl
  | cons b l ih => simp only [List.flatMap_cons, List.map_append, List.map_cons, List.map_nil]; rw [List.map_flatMap] ; simp [hx]
theorem encS_hex (s : ByteArray) : encS hexS 4 false s = ⟨(hexL s.data.toList).toArray⟩ := by unfold encS; rw [encL_hex]

/-- An id's text. -/
def idL (l : List UInt8) : List UInt8 := hexL (l.take 4) ++ 45 :: (hexL ((l.drop 4).take 2) ++ 45 :: (hexL ((l.drop 6).take 2) ++ 45 :: (hexL ((l.drop 8).take 2) ++ 45 :: hexL (l.drop 10))))
theorem idL_length (l : List UInt8) (h : l.length = 16) : (idL l).length = 36 := by
  unfold idL
  simp only [List.length_append, List.length_cons, hexL_length, List.length_take, List.length_drop, h]
  omega

/-- Of one size texts stand as their parts do. -/
theorem lt_append {a b c d : List UInt8} (h : a.length = b.length) : a ++ c < b ++ d ↔ a < b ∨ (a = b ∧ c < d) := by
  induction a generalizing b with
  | nil =>
    have : b = [] := List.eq_nil_of_length_eq_zero h.symm
    subst this
    simp
  | cons x a ih =>
    cases b with
    | nil => simp at h
    | cons y b =>
      have h' : a.length = b.length := by simpa using h
      rw [List.cons_append, List.cons_append, List.cons_lt_cons_iff, List.cons_lt_cons_iff, ih h']
      constructor
      · rintro (h1 | ⟨rfl, h1 | ⟨rfl, h2⟩⟩)
        · exact .inl (.inl h1)
        · exact .inl (.inr ⟨rfl, h1⟩)
        · exact .inr ⟨rfl, h2⟩
      · rintro ((h1 | ⟨rfl, h1⟩) | ⟨h1, h2⟩)
        · exact .inl h1
        · exact .inr ⟨rfl, .inl h1⟩
        · injection h1 with e1 e2
          subst e1; subst e2
          exact .inr ⟨rfl, .inr ⟨rfl, h2⟩⟩
theorem hx_lt : ∀ a, a < 16 → ∀ b, b < 16 → (hx a < hx b ↔ a < b) := by decide +kernel
theorem hx_inj : ∀ a, a < 16 → ∀ b, b < 16 → (hx a = hx b ↔ a = b) := by decide +kernel
theorem hx2_lt (x y : UInt8) : [hx (x.toNat / 16), hx (x.toNat % 16)] < [hx (y.toNat / 16), hx (y.toNat % 16)] ↔ x < y := by
  have h1 := UInt8.toNat_lt x
  have h2 := UInt8.toNat_lt y
  rw [List.cons_lt_cons_iff, List.cons_lt_cons_iff, hx_lt _ (by omega) _ (by omega), hx_inj _ (by omega) _ (by omega), hx_lt _ (by omega) _ (by omega), UInt8.lt_iff_toNat_lt]
  simp only [List.not_lt_nil, and_false, or_false]
  omega
theorem hx2_inj (x y : UInt8) : [hx (x.toNat / 16), hx (x.toNat % 16)] = [hx (y.toNat / 16), hx (y.toNat % 16)] ↔ x = y := by
  have h1 := UInt8.toNat_lt x
  have h2 := UInt8.toNat_lt y
  constructor
  · intro h
    injection h with e1 e2
    injection e2 with e2 _
    rw [hx_inj _ (by omega) _ (by omega)] at e1 e2
    exact UInt8.toNat_inj.1 (by omega)
  · rintro rfl; rfl
theorem hexL_lt : ∀ {a b : List UInt8}, a.length = b.length → (hexL a < hexL b ↔ a < b)
  | [], [], _ => by simp [hexL_nil]
  | [], _ :: _, h => by simp at h
  | _ :: _, [], h => by simp at h
  | x :: a, y :: b, h => by
    have ih := hexL_lt (a := a) (b := b) (by simpa using h)
    show [hx (x.toNat / 16), hx (x.toNat % 16)] ++ hexL a < [hx (y.toNat / 16), hx (y.toNat % 16)] ++ hexL b ↔ _
    rw [lt_append (by rfl), hx2_lt, hx2_inj, ih, List.cons_lt_cons_iff]
theorem hexL_inj : ∀ {a b : List UInt8}, hexL a = hexL b → a = b
  | [], [], _ => rfl
  | [], _ :: _, h => by simp [hexL_nil, hexL_cons] at h
  | _ :: _, [], h => by simp [hexL_nil, hexL_cons] at h
  | x :: a, y :: b, h => by
    rw [hexL_cons, hexL_cons] at h
    injection h with e1 e2
    injection e2 with e2 e3
    rw [hexL_inj e3, (hx2_inj x y).1 (by rw [e1, e2])]

/-- The parts of an id, one behind the other. -/
theorem parts_id (l : List UInt8) : l.take 4 ++ ((l.drop 4).take 2 ++ ((l.drop 6).take 2 ++ ((l.drop 8).take 2 ++ l.drop 10))) = l := by
  have e (n m : Nat) (X : List UInt8) (hX : X = l.drop (n + m)) : (l.drop n).take m ++ X = l.drop n := by
    rw [hX, ← List.drop_drop]; exact List.take_append_drop _ _
  rw [e 8 2 _ rfl, e 6 2 _ rfl, e 4 2 _ rfl]
  exact List.take_append_drop _ _
theorem idL_lt {a b : List UInt8} (ha : a.length = 16) (hb : b.length = 16) : idL a < idL b ↔ a < b := by
  have g (n m : Nat) : ((a.drop n).take m).length = ((b.drop n).take m).length := by rw [List.length_take, List.length_take, List.length_drop, List.length_drop, ha, hb]
  have gh (x y : List UInt8) (h : x.length = y.length) : (hexL x).length = (hexL y).length := by rw [hexL_length, hexL_length, h]
  have st (x y x' y' c d c' d' : List UInt8) (h : x.length = y.length) (hc : c < d ↔ c' < d') : hexL x ++ 45 :: c < hexL y ++ 45 :: d ↔ x ++ c' < y ++ d' := by
    rw [lt_append (gh x y h), lt_append h, List.cons_lt_cons_iff, hc, hexL_lt h]
    constructor
    · rintro (h1 | ⟨h1, h2 | ⟨_, h2⟩⟩)
      · exact .inl h1
      · exact absurd h2 (UInt8.lt_irrefl _)
      · exact .inr ⟨hexL_inj h1, h2⟩
    · rintro (h1 | ⟨rfl, h2⟩)
      · exact .inl h1
      · exact .inr ⟨rfl, .inr ⟨rfl, h2⟩⟩
  have e : idL a < idL b ↔ (a.take 4 ++ ((a.drop 4).take 2 ++ ((a.drop 6).take 2 ++ ((a.drop 8).take 2 ++ a.drop 10)))) < (b.take 4 ++ ((b.drop 4).take 2 ++ ((b.drop 6).take 2 ++ ((b.drop 8).take 2 ++ b.drop 10)))) := by
    unfold idL
    exact st _ _ [] [] _ _ _ _ (g 0 4) (st _ _ [] [] _ _ _ _ (g 4 2) (st _ _ [] [] _ _ _ _ (g 6 2) (st _ _ [] [] _ _ _ _ (g 8 2) (hexL_lt (by rw [List.length_drop, List.length_drop, ha, hb])))))
  rw [e, parts_id, parts_id]
theorem idL_inj {a b : List UInt8} (ha : a.length = 16) (hb : b.length = 16) (h : idL a = idL b) : a = b := by
  have g (n m : Nat) : (hexL ((a.drop n).take m)).length = (hexL ((b.drop n).take m)).length := by rw [hexL_length, hexL_length, List.length_take, List.length_take, List.length_drop, List.length_drop, ha, hb]
  unfold idL at h
  have h0 := List.append_inj h (g 0 4)
  have h1 := List.append_inj (List.cons.inj h0.2).2 (g 4 2)
  have h2 := List.append_inj (List.cons.inj h1.2).2 (g 6 2)
  have h3 := List.append_inj (List.cons.inj h2.2).2 (g 8 2)
  rw [← parts_id a, ← parts_id b, hexL_inj h0.1, hexL_inj h1.1, hexL_inj h2.1, hexL_inj h3.1, hexL_inj (List.cons.inj h3.2).2]
end Go.Proofs.YtdhplohppcndhaaGreatDoor

namespace Go.Proofs.YtdhplohppcndhaaGreatDoor
open Go.RowKit
set_option linter.unusedVariables false

/-- The strokes struck. -/
def strip (s : List UInt8) : List UInt8 := s.filter (· != 45)
theorem index_stroke (b : UInt8) (l : List UInt8) : Lib.index (b :: l) [45] = if b = 45 then 0 else if Lib.index l [45] = -1 then -1 else Lib.index l [45] + 1 := by
  rw [Lib.index]
  by_cases h : b = 45
  · subst h; simp [List.isPrefixOf]
  · have h' : ¬ (45 = b) := fun e => h e.symm
    simp [List.isPrefixOf, h, h']
theorem repl_cons (b : UInt8) (l : List UInt8) (h : b ≠ 45) : ∀ k, Lib.replaceK [45] [] k (b :: l) = b :: Lib.replaceK [45] [] k l
  | 0 => rfl
  | k + 1 => by
    have hg := Lib.index_ge l [45]
    have hi := index_stroke b l
    rw [if_neg h] at hi
    by_cases hm : Lib.index l [45] = -1
    · rw [if_pos hm] at hi
      rw [Lib.replaceK, Lib.replaceK, if_pos (beq_iff_eq.2 hi), if_pos (beq_iff_eq.2 hm)]
    · rw [if_neg hm] at hi
      obtain ⟨j, hj⟩ : ∃ j : Nat, Lib.index l [45] = j := ⟨(Lib.index l [45]).toNat, by omega⟩
      rw [Lib.replaceK_hit _ _ _ _ j hj, Lib.replaceK_hit _ _ _ _ (j + 1) (by rw [hi, hj]; rfl)]
      simp [List.take_succ_cons]
theorem count_stroke (l : List UInt8) : Lib.count (45 :: l) [45] = 1 + Lib.count l [45] := by
  rw [Lib.count_hit (i := 0) (by simp) (by rw [index_stroke, if_pos rfl]; rfl)]
  simp
theorem count_other (b : UInt8) (l : List UInt8) (h : b ≠ 45) : Lib.count (b :: l) [45] = Lib.count l [45] := by
  have hg := Lib.index_ge l [45]
  have hi := index_stroke b l
  rw [if_neg h] at hi
  by_cases hm : Lib.index l [45] = -1
  · rw [if_pos hm] at hi
    rw [Lib.count_miss hi, Lib.count_miss hm]
  · rw [if_neg hm] at hi
    obtain ⟨j, hj⟩ : ∃ j : Nat, Lib.index l [45] = j := ⟨(Lib.index l [45]).toNat, by omega⟩
    rw [Lib.count_hit (by simp) hj, Lib.count_hit (i := j + 1) (by simp) (by rw [hi, hj]; rfl)]
    simp
theorem repl_strip : ∀ (s : List UInt8) (k : Nat), Lib.count s [45] ≤ k → Lib.replaceK [45] [] k s = strip s
  | [], k, _ => by
    cases k with
    | zero => rfl
    | succ k => rw [Lib.replaceK, if_pos (by rfl)]; rfl
  | b :: l, k, h => by
    by_cases hb : b = 45
    · subst hb
      rw [count_stroke] at h
      obtain ⟨k', rfl⟩ : ∃ k', k = k' + 1 := ⟨k - 1, by omega⟩
      rw [Lib.replaceK_hit _ _ _ _ 0 (by rw [index_stroke, if_pos rfl]; rfl)]
      simp only [List.take_zero, List.nil_append, List.length_cons, List.length_nil, Nat.zero_add, List.drop_succ_cons, List.drop_zero]
      rw [repl_strip l k' (by omega)]
      unfold strip
      rw [List.filter_cons_of_neg (by decide)]
    · rw [count_other b l hb] at h
      rw [repl_cons b l hb, repl_strip l k h]
      unfold strip
      rw [List.filter_cons_of_pos (by simpa using hb)]
theorem replaceAll_strip (s : List UInt8) : Lib.replaceAll s [45] [] = strip s := by
  unfold Lib.replaceAll Lib.replace
  rw [if_neg (by decide)]
  exact repl_strip s _ (by unfold Lib.replaceNum; rw [if_pos (.inl (by decide))]; exact Nat.le_refl _)

/-- An id's letters, with the strokes. -/
def mkId (A B C D E : List UInt8) : List UInt8 := A ++ 45 :: (B ++ 45 :: (C ++ 45 :: (D ++ 45 :: E)))
theorem hexL_take (n : Nat) : ∀ l : List UInt8, hexL (l.take n) = (hexL l).take (2 * n) := by
  induction n with
  | zero => intro l; rfl
  | succ n ih =>
    intro l
    cases l with
    | nil => simp [hexL_nil]
    | cons b l => rw [List.take_succ_cons, hexL_cons, hexL_cons, ih, show 2 * (n + 1) = 2 * n + 1 + 1 by omega, List.take_succ_cons, List.take_succ_cons]
theorem hexL_drop (n : Nat) : ∀ l : List UInt8, hexL (l.drop n) = (hexL l).drop (2 * n) := by
  induction n with
  | zero => intro l; rfl
  | succ n ih =>
    intro l
    cases l with
    | nil => simp [hexL_nil]
    | cons b l => rw [List.drop_succ_cons, hexL_cons, ih, show 2 * (n + 1) = 2 * n + 1 + 1 by omega, List.drop_succ_cons, List.drop_succ_cons]
theorem idL_mk (l : List UInt8) : idL l = mkId ((hexL l).take 8) (((hexL l).drop 8).take 4) (((hexL l).drop 12).take 4) (((hexL l).drop 16).take 4) ((hexL l).drop 20) := by
  unfold idL mkId
  rw [hexL_take, hexL_take, hexL_take, hexL_take, hexL_drop, hexL_drop, hexL_drop, hexL_drop]
/-- A text of 36 bytes with its strokes, in parts. -/
theorem mk_parts (s : List UInt8) (h : s.length = 36) (h8 : s[8]? = some 45) (h13 : s[13]? = some 45) (h18 : s[18]? = some 45) (h23 : s[23]? = some 45) :
    s = mkId (s.take 8) ((s.drop 9).take 4) ((s.drop 14).take 4) ((s.drop 19).take 4) (s.drop 24) := by
  have st (n : Nat) (hn : s[n]? = some 45) : s.drop n = 45 :: s.drop (n + 1) := by
    have hl : n < s.length := (List.getElem?_eq_some_iff.1 hn).1
    rw [List.drop_eq_getElem_cons hl]
    congr 1
    rw [List.getElem?_eq_getElem hl] at hn
    exact Option.some.inj hn
  have sp (n m : Nat) : s.drop n = (s.drop n).take m ++ s.drop (n + m) := by rw [← List.drop_drop]; exact (List.take_append_drop m _).symm
  unfold mkId
  conv => lhs; rw [← List.take_append_drop 8 s, st 8 h8, sp 9 4, st 13 h13, sp 14 4, st 18 h18, sp 19 4, st 23 h23]
theorem hx_stroke : ∀ d, d < 16 → (hx d != 45) = true := by decide +kernel
theorem strip_hex : ∀ l : List UInt8, strip (hexL l) = hexL l
  | [] => rfl
  | b :: l => by
    have hb := UInt8.toNat_lt b
    have ih := strip_hex l
    unfold strip at ih ⊢
    rw [hexL_cons, List.filter_cons_of_pos (p := fun x => x != 45) (hx_stroke _ (by omega)), List.filter_cons_of_pos (p := fun x => x != 45) (hx_stroke _ (by omega)), ih]
theorem strip_append (a b : List UInt8) : strip (a ++ b) = strip a ++ strip b := by unfold strip; exact List.filter_append ..
theorem strip_cons (a : List UInt8) : strip (45 :: a) = strip a := by unfold strip; rw [List.filter_cons_of_neg (by decide)]
theorem strip_id (l : List UInt8) : strip (idL l) = hexL l := by
  unfold idL
  rw [strip_append, strip_cons, strip_append, strip_cons, strip_append, strip_cons, strip_append, strip_cons, strip_hex, strip_hex, strip_hex, strip_hex, strip_hex]
  rw [← hexL_append, ← hexL_append, ← hexL_append, ← hexL_append]
  rw [parts_id]

/-- What a text is the text of. -/
def IsId (s l : List UInt8) : Prop := l.length = 16 ∧ idL l = s
theorem IsId.uniq {s l m : List UInt8} (h : IsId s l) (h' : IsId s m) : l = m := idL_inj h.1 h'.1 (h.2.trans h'.2.symm)

/-- The letters without strokes, as the document cuts them. -/
def cutId (s : List UInt8) : List UInt8 := s.take 8 ++ (s.drop 9).take 4 ++ (s.drop 14).take 4 ++ (s.drop 19).take 4 ++ s.drop 24
theorem cut_mk (A B C D E : List UInt8) (hA : A.length = 8) (hB : B.length = 4) (hC : C.length = 4) (hD : D.length = 4) : cutId (mkId A B C D E) = A ++ B ++ C ++ D ++ E := by
  have e (X Y : List UInt8) (n : Nat) (h : X.length = n) : (X ++ Y).take n = X := by rw [← h]; exact List.take_left ..
  have f (X Y : List UInt8) (n m : Nat) (h : X.length = n) : (X ++ 45 :: Y).drop (n + 1 + m) = Y.drop m := by
    rw [show n + 1 + m = X.length + (1 + m) by omega, List.drop_append, Nat.add_comm 1 m]
    simp
  unfold cutId
  have d1 : (mkId A B C D E).drop 9 = B ++ 45 :: (C ++ 45 :: (D ++ 45 :: E)) := f _ _ 8 0 hA
  have d2 : (mkId A B C D E).drop 14 = C ++ 45 :: (D ++ 45 :: E) := (f _ _ 8 5 hA).trans (f _ _ 4 0 hB)
  have d3 : (mkId A B C D E).drop 19 = D ++ 45 :: E := ((f _ _ 8 10 hA).trans (f _ _ 4 5 hB)).trans (f _ _ 4 0 hC)
  have d4 : (mkId A B C D E).drop 24 = E := (((f _ _ 8 15 hA).trans (f _ _ 4 10 hB)).trans (f _ _ 4 5 hC)).trans (f _ _ 4 0 hD)
  rw [d1, d2, d3, d4, e _ _ _ hB, e _ _ _ hC, e _ _ _ hD]
  unfold mkId
  rw [e _ _ _ hA]
theorem cut_id (l : List UInt8) (h : l.length = 16) : cutId (idL l) = hexL l := by
  have hl : (hexL l).length = 32 := by rw [hexL_length, h]
  rw [idL_mk, cut_mk _ _ _ _ _ (by rw [List.length_take, hl]; rfl) (by rw [List.length_take, List.length_drop, hl]; rfl) (by rw [List.length_take, List.length_drop, hl]; rfl) (by rw [List.length_take, List.length_drop, hl]; rfl)]
  have sp (n m : Nat) : ((hexL l).drop n).take m ++ (hexL l).drop (n + m) = (hexL l).drop n := by rw [← List.drop_drop]; exact List.take_append_drop m _
  rw [List.append_assoc, List.append_assoc, List.append_assoc, sp 16 4, sp 12 4, sp 8 4, List.take_append_drop]
/-- A text of 36 bytes with strokes whose letters are an id's is its text. -/
theorem isId_of_cut (s l : List UInt8) (h : s.length = 36) (h8 : s[8]? = some 45) (h13 : s[13]? = some 45) (h18 : s[18]? = some 45) (h23 : s[23]? = some 45) (hc : cutId s = hexL l) : IsId s l := by
  have hp := mk_parts s h h8 h13 h18 h23
  have hlen : (cutId s).length = 32 := by unfold cutId; simp [h]
  have hl : l.length = 16 := by rw [hc, hexL_length] at hlen; omega
  refine ⟨hl, ?_⟩
  have hcut : hexL l = s.take 8 ++ (s.drop 9).take 4 ++ (s.drop 14).take 4 ++ (s.drop 19).take 4 ++ s.drop 24 := hc.symm
  have l0 : (s.take 8).length = 8 := by simp [h]
  have l1 : ((s.drop 9).take 4).length = 4 := by simp [h]
  have l2 : ((s.drop 14).take 4).length = 4 := by simp [h]
  have l3 : ((s.drop 19).take 4).length = 4 := by simp [h]
  rw [idL_mk, hcut]
  conv => rhs; rw [hp]
  generalize s.take 8 = A at *
  generalize (s.drop 9).take 4 = B at *
  generalize (s.drop 14).take 4 = C at *
  generalize (s.drop 19).take 4 = D at *
  generalize s.drop 24 = E at *
  have e (X Y : List UInt8) (n : Nat) (h : X.length = n) : (X ++ Y).take n = X := by rw [← h]; exact List.take_left ..
  have f (X Y : List UInt8) (n m : Nat) (h : X.length = n) : (X ++ Y).drop (n + m) = Y.drop m := by
    rw [← h, List.drop_append]
    simp
  simp only [List.append_assoc]
  rw [e _ _ _ l0, f _ _ 8 0 l0, f _ _ 8 4 l0, f _ _ 8 8 l0, f _ _ 8 12 l0, f _ _ 4 0 l1, f _ _ 4 4 l1, f _ _ 4 8 l1, f _ _ 4 0 l2, f _ _ 4 4 l2, f _ _ 4 0 l3]
  simp only [List.drop_zero]
  rw [e _ _ _ l1, e _ _ _ l2, e _ _ _ l3]
theorem id_strokes (l : List UInt8) (h : l.length = 16) : (idL l)[8]? = some 45 ∧ (idL l)[13]? = some 45 ∧ (idL l)[18]? = some 45 ∧ (idL l)[23]? = some 45 := by
  have a0 : (hexL (l.take 4)).length = 8 := by rw [hexL_length, List.length_take, h]; rfl
  have a1 : (hexL ((l.drop 4).take 2)).length = 4 := by rw [hexL_length, List.length_take, List.length_drop, h]; rfl
  have a2 : (hexL ((l.drop 6).take 2)).length = 4 := by rw [hexL_length, List.length_take, List.length_drop, h]; rfl
  have a3 : (hexL ((l.drop 8).take 2)).length = 4 := by rw [hexL_length, List.length_take, List.length_drop, h]; rfl
  unfold idL
  have g0 (X Y : List UInt8) (n : Nat) (hX : X.length = n) : (X ++ 45 :: Y)[n]? = some 45 := by
    rw [List.getElem?_append_right (by omega), hX, Nat.sub_self]; rfl
  have g1 (X Y : List UInt8) (n m : Nat) (hX : X.length = n) : (X ++ 45 :: Y)[n + 1 + m]? = Y[m]? := by
    rw [List.getElem?_append_right (by omega), hX, show n + 1 + m - n = m + 1 by omega]; rfl
  exact ⟨g0 _ _ 8 a0, (g1 _ _ 8 4 a0).trans (g0 _ _ 4 a1), ((g1 _ _ 8 9 a0).trans (g1 _ _ 4 4 a1)).trans (g0 _ _ 4 a2), (((g1 _ _ 8 14 a0).trans (g1 _ _ 4 9 a1)).trans (g1 _ _ 4 4 a2)).trans (g0 _ _ 4 a3)⟩
/-- The bytes of letters. -/
theorem dec_hex (l : List UInt8) : decS hexS 4 ⟨(hexL l).toArray⟩ = ⟨l.toArray⟩ := by
  have h := dec_enc hexS 4 false ⟨l.toArray⟩ (.inl rfl) rfl hex_ix (by decide +kernel)
  rw [encS_hex] at h
  exact h
end Go.Proofs.YtdhplohppcndhaaGreatDoor

namespace Go.Proofs.YtdhplohppcndhaaGreatDoor
open Go.RowKit
set_option linter.unusedVariables false

/-- An array's row, sliced. -/
theorem slice_arr_lh {P : Program} (t e : TypeId) (n : Nat) (ht : P.underlying t = some (.array n e)) (hz : ∀ W, (sizeOf e).run P W = .ok 1 W) (g off l h : Nat) (hl : l ≤ h) (hh : h ≤ n) (hn : l < n) (W : World) :
    (Instr.sliceAt t (.pointer (some ⟨g, off, none⟩)) (some (.int .i64 (l : Int))) (some (.int .i64 (h : Int))) none).run P W = .ok (.slice (some ⟨g, off + l, none⟩) (h - l) (n - l)) W := by
  have hn' : P.arrayLen t = n := by simp [Program.arrayLen, ht]
  have he : P.elem t = e := by simp [Program.elem, ht]
  rw [run_sliceAt_array_lh (P := P) W t ⟨g, off, none⟩ (by rw [hn', he]; exact ht) .i64 .i64 (l : Int) (h : Int) (by omega) (by omega) (by rw [hn']; omega), he, hz, hn']
  have hadd : (⟨g, off, none⟩ : Addr).add l = ⟨g, off + l, none⟩ := by unfold Addr.add; split <;> simp_all
  simp only [Result.andThen_ok, slicedAt, Int.toNat_natCast, if_neg (by omega : ¬ n = l), Nat.mul_one, hadd]

def stN (k : Nat) : Nat := [0, 4, 6, 8, 10, 16].getD k 0
/-- The k-th part's letters. -/
def ptL (l : List UInt8) (k : Nat) : List UInt8 := (l.drop (stN k)).take (stN (k + 1) - stN k)
def ptS (l : List UInt8) (k : Nat) : ByteArray := ⟨(hexL (ptL l k)).toArray⟩
/-- The parts that are there, nothing behind. -/
def ptR (l : List UInt8) (k : Nat) : List Value := (List.range k).map (fun j => Value.string (ptS l j)) ++ List.replicate (5 - k) (.string ⟨#[]⟩)
theorem ptR_set (l : List UInt8) {k : Nat} (h : k < 5) : (ptR l k).set k (.string (ptS l k)) = ptR l (k + 1) := by
  rcases (by omega : k = 0 ∨ k = 1 ∨ k = 2 ∨ k = 3 ∨ k = 4) with rfl | rfl | rfl | rfl | rfl <;> rfl
theorem ptR_length (l : List UInt8) {k : Nat} (h : k ≤ 5) : (ptR l k).length = 5 := by unfold ptR; simp; omega
theorem stN_le {k : Nat} (h : k < 5) : stN k ≤ stN (k + 1) ∧ stN (k + 1) ≤ 16 ∧ stN k < 16 := by
  rcases (by omega : k = 0 ∨ k = 1 ∨ k = 2 ∨ k = 3 ∨ k = 4) with rfl | rfl | rfl | rfl | rfl <;> decide
def enA : Array Value := #[.int .i64 4, .int .i64 6, .int .i64 8, .int .i64 10, .int .i64 16]
theorem enA_get {k : Nat} (h : k < 5) : enA[k]? = some (.int .i64 ((stN (k + 1) : Nat) : Int)) := by
  rcases (by omega : k = 0 ∨ k = 1 ∨ k = 2 ∨ k = 3 ∨ k = 4) with rfl | rfl | rfl | rfl | rfl <;> rfl
theorem idL_join (l : List UInt8) (hl : l.length = 16) : Lib.join ([ptS l 0, ptS l 1, ptS l 2, ptS l 3, ptS l 4].map (·.data.toList)) [45] = idL l := by
  have h4 : ptL l 4 = l.drop 10 := by
    show (l.drop 10).take 6 = _
    exact List.take_of_length_le (by rw [List.length_drop, hl]; omega)
  have e : ∀ k, (ptS l k).data.toList = hexL (ptL l k) := fun k => rfl
  simp only [List.map_cons, List.map_nil, e, h4]
  unfold idL
  simp [Lib.join, ptL, stN]

set_option maxRecDepth 20000 in
set_option maxHeartbeats 4000000 in
theorem idText_any (l : List UInt8) (hl : l.length = 16) (w : World) :
    Calls Tryz.prog 6 #[.agg (l.map bv).toArray] w fun e w' => e = .returned (.string ⟨(idL l).toArray⟩) ∧ Below w.heap.size w w' := by
  obtain ⟨C, hC⟩ : ∃ C, l.map bv = C := ⟨_, rfl⟩
  rw [hC]
  have hr0 := (Row.new w 23 C).alloc (.cells (ptR l 0).toArray 38)
  have hr1 := Row.new (w.alloc (.cells C.toArray 23)) 38 (ptR l 0)
  rw [World.size_alloc] at hr1
  have hb0 : Below w.heap.size w ((w.alloc (.cells C.toArray 23)).alloc (.cells (ptR l 0).toArray 38)) := ((Below.refl _ _).alloc (Nat.le_refl _) _).alloc (by simp) _
  have H0 := Lib.hid (And.intro hr0 (And.intro hr1 hb0))
  have HC := Lib.hid hC
  clear hC hr0 hr1 hb0
  go_enter Tryz.func6, Tryz.ntmps6
  go_wp2_with fail
  obtain ⟨hr0, hr1, hb0⟩ := H0.out
  have ez : (ptR l 0).toArray = #[.string ⟨#[]⟩, .string ⟨#[]⟩, .string ⟨#[]⟩, .string ⟨#[]⟩, .string ⟨#[]⟩] := rfl
  rw [ez] at hr0 hr1 hb0
  generalize (w.alloc (.cells C.toArray 23)).alloc (.cells #[.string ⟨#[]⟩, .string ⟨#[]⟩, .string ⟨#[]⟩, .string ⟨#[]⟩, .string ⟨#[]⟩] 38) = w1 at hr0 hr1 hb0 ⊢
  clear H0 ez
  go_loopw [4, 8] (fun st i wr => ∃ k : Nat, k ≤ 5 ∧ i = .int .i64 k ∧ st = .int .i64 (stN k : Nat) ∧ Row wr w.heap.size 23 C ∧ Row wr (w.heap.size + 1) 38 (ptR l k) ∧ Below w.heap.size w wr) (fun _ i _ => 5 - (intOf i).toNat)
  case atStart => exact ⟨0, Nat.zero_le _, rfl, rfl, hr0, hr1, hb0⟩
  case round =>
    obtain ⟨k, hk, rfl, rfl, h0, h1, hb⟩ := hrel
    clear hr0 hr1 hb0
    by_cases hlt : k < 5
    · have hix := fun W' => run_index_agg (P := Tryz.prog) 39 3 5 enA k _ Tryz.underlying39 hlt (enA_get hlt) W' (Tryz.sizeOf3 W') (Tryz.isAgg3 W')
      unfold enA at hix
      obtain ⟨hs1, hs2, hs3⟩ := stN_le hlt
      have hE : Hid (∀ W : World, Calls Tryz.prog 20 #[alph hexS 4 false, .string ⟨(ptL l k).toArray⟩] W fun e w' => e = .returned (.string (ptS l k)) ∧ Below W.heap.size W w') := Lib.hid fun W => by
        have h := Encode_S hexS 4 false ⟨(ptL l k).toArray⟩ W (.inl rfl) rfl (by show (ptL l k).toArray.size ≤ _; rw [List.size_toArray]; unfold ptL; rw [List.length_take, List.length_drop]; omega)
        rwa [encS_hex] at h
      obtain ⟨a, ha⟩ : ∃ a, stN k = a := ⟨_, rfl⟩
      obtain ⟨b, hbn⟩ : ∃ b, stN (k + 1) = b := ⟨_, rfl⟩
      have hpl : ptL l k = (l.drop a).take (b - a) := by unfold ptL; rw [ha, hbn]
      rw [ha] at hs1 hs3
      rw [hbn] at hs1 hs2 hix
      have hsl := fun W => slice_arr_lh (P := Tryz.prog) 23 5 16 Tryz.underlying23 Tryz.sizeOf5 w.heap.size 0 a b hs1 hs2 hs3 W
      have hcv : ∀ W, Below wr.heap.size wr W → (convert 44 9 (.slice (some ⟨w.heap.size, a, none⟩) (b - a) (16 - a))).run Tryz.prog W = .ok (.string ⟨(ptL l k).toArray⟩) W := fun W hW =>
        conv_bytes (P := Tryz.prog) W 44 9 5 Tryz.underlying44 Tryz.underlying5 Tryz.underlying9 w.heap.size a (b - a) (16 - a) (ptL l k) (by rw [hpl, List.length_take, List.length_drop, hl]; omega) (fun i hi => by
          rw [(h0.below hW h0.lt).cell, ← HC.out, hpl, List.getElem?_map, List.getElem?_map, List.getElem?_take_of_lt hi, List.getElem?_drop])
      have HR := Lib.hid (And.intro h0 (And.intro h1 (And.intro hb (And.intro ha (And.intro hbn hcv)))))
      have hgl := h1.lt
      rw [ha]
      clear h0 h1 hb ha hbn hpl
      go_wp2_with fail
      refine region_tail 8 (Below wr.heap.size wr) (by kernel_rfl) (by kernel_rfl) rfl (below_drewN (Below.refl _ _) 1) ?_
      simp only [List.take_succ_cons, List.take_zero]
      repeat (go_big_quiet_step ((first
        | (intro hC; with_reducible rfl)
        | (intro hC; rw [hcv _ hC]; exact ⟨rfl, rfl⟩)
        | (intro hC; go_at_call 19; refine (Hex_any _).mono ?_; rintro e w'' ⟨rfl, hb⟩; exact ⟨rfl, hC.trans (hb.mono hC.size)⟩)
        | (intro hC; go_at_call 20; refine (hE.out _).mono ?_; rintro e w'' ⟨rfl, hb⟩; exact ⟨rfl, hC.trans (hb.mono hC.size)⟩))))
      refine wpQuiet_nil ?_
      intro w7 hw7
      have h0 := (HR.out.1.below hw7 HR.out.1.lt).far (p := ⟨w.heap.size + 1, k, none⟩) (by show w.heap.size ≠ w.heap.size + 1; omega) (.string (ptS l k))
      have h1 := (HR.out.2.1.below hw7 HR.out.2.1.lt).set k (.string (ptS l k))
      rw [ptR_set l hlt] at h1
      have hb := (HR.out.2.2.1.trans (hw7.mono HR.out.2.2.1.size)).setCell (p := ⟨w.heap.size + 1, k, none⟩) (by show w.heap.size ≤ w.heap.size + 1; omega) (.string (ptS l k))
      have hf0 := (HR.out.2.1.below hw7 HR.out.2.1.lt).frozen k
      obtain ⟨v0, hc0⟩ : ∃ v, w7.cell? ⟨w.heap.size + 1, k, none⟩ = some v := by
        rw [(HR.out.2.1.below hw7 HR.out.2.1.lt).cell]; exact ⟨_, List.getElem?_eq_getElem (by rw [ptR_length l hk]; exact hlt)⟩
      have HV := Lib.hid (And.intro h0 (And.intro h1 hb))
      clear h0 h1 hb hcv hsl hix hw7
      go_wp2
      go_roundw
      case rel => exact ⟨k + 1, by omega, by go_num, by rw [HR.out.2.2.2.2.1], HV.out.1, HV.out.2.1, HV.out.2.2⟩
      case measure => simp [intOf]; omega
    · have hk5 : k = 5 := by omega
      rw [hk5] at h1
      have hge : 5 ≤ k := by omega
      have hsl := fun W => slice_arr_all (P := Tryz.prog) 38 9 5 Tryz.underlying38 Tryz.sizeOf9 (w.heap.size + 1) 0 (by omega) W
      have hJ : Hid (∀ W : World, Row W (w.heap.size + 1) 38 (ptR l 5) → Calls Tryz.prog 21 #[.slice (some ⟨w.heap.size + 1, 0, none⟩) 5 5, .string ⟨#[45]⟩] W fun e w' => e = .returned (.string ⟨(idL l).toArray⟩) ∧ Below W.heap.size W w') := Lib.hid fun W hW => by
        have e := idL_join l hl
        have h := Tryz.strings_Join (w.heap.size + 1) 0 5 [ptS l 0, ptS l 1, ptS l 2, ptS l 3, ptS l 4] ⟨#[45]⟩ W (fun j x hx => by
          rw [Nat.zero_add, hW.cell]
          match j, hx with
          | 0, hx => cases hx; rfl
          | 1, hx => cases hx; rfl
          | 2, hx => cases hx; rfl
          | 3, hx => cases hx; rfl
          | 4, hx => cases hx; rfl) hW.lt (by simp) (by simp) (by show (Lib.join _ [45]).length ≤ _; rw [e, idL_length l hl]; omega)
        rw [show (ByteArray.mk #[45]).data.toList = [45] from rfl, e] at h
        exact h
      have HH := Lib.hid (And.intro h1 hb)
      clear h0 h1 hb hk5 hlt hk
      go_wp2_with (go_at_call 21; refine (hJ.out _ HH.out.1).mono ?_; rintro e w2 ⟨rfl, hb2⟩)
      go_ret
      exact ⟨rfl, HH.out.2.trans (hb2.mono HH.out.2.size)⟩
end Go.Proofs.YtdhplohppcndhaaGreatDoor

namespace Go.Proofs.YtdhplohppcndhaaGreatDoor
open Go.RowKit
set_option linter.unusedVariables false

theorem run_row_bytes {P : Program} {W : World} {g : Nat} {t : TypeId} {l : List UInt8} (h : Row W g t (l.map bv)) :
    (Extern.Bytes.loadBytes ⟨g, 0, none⟩ l.length .empty).run P W = .ok ⟨l.toArray⟩ W := by
  have h1 := Lib.run_loadBytesX (P := P) W (l.map fun x => (x.toNat : Int)) ⟨g, 0, none⟩ .empty (fun j x hx => by
    have e : (⟨g, 0, none⟩ : Addr).add j = ⟨g, j, none⟩ := by unfold Addr.add; split <;> simp_all
    rw [e, h.cell, List.getElem?_map]
    rw [List.getElem?_map] at hx
    cases hl : l[j]? with
    | none => rw [hl] at hx; cases hx
    | some y => rw [hl] at hx; cases hx; rfl)
  rw [List.length_map] at h1
  rw [h1]
  congr 1
  apply ByteArray.ext
  show #[] ++ (Lib.bytesOf _).toArray = l.toArray
  rw [Array.empty_append]
  congr 1
  unfold Lib.bytesOf
  rw [List.map_map]
  conv => rhs; rw [← List.map_id l]
  apply List.map_congr_left
  intro c _
  simp
theorem run_compare {W : World} {g g' : Nat} {t t' : TypeId} {l m : List UInt8} (h : Row W g t (l.map bv)) (h' : Row W g' t' (m.map bv)) :
    (callFunc 44 #[.slice (some ⟨g, 0, none⟩) l.length l.length, .slice (some ⟨g', 0, none⟩) m.length m.length]).run Tryz.prog W = .ok (.value (.int .i64 (Lib.compareBytes l m))) W := by
  have e := run_callFunc_extern (P := Tryz.prog) (f := 44) (fn := Tryz.f44) (e := Extern.BytealgCompare.compare) (by kernel_rfl) (by kernel_rfl) (by kernel_rfl) (by kernel_rfl) (by kernel_rfl) #[.slice (some ⟨g, 0, none⟩) l.length l.length, .slice (some ⟨g', 0, none⟩) m.length m.length] W
  have hr : (Extern.BytealgCompare.compare #[.slice (some ⟨g, 0, none⟩) l.length l.length, .slice (some ⟨g', 0, none⟩) m.length m.length]).run Tryz.prog W = .ok (.int .i64 (Lib.compareBytes l m)) W := by
    change Sem.run Tryz.prog (do pure (goInt (Extern.BytealgCompare.cmp (← Extern.Bytes.bytesOf (.slice (some ⟨g, 0, none⟩) l.length l.length)) (← Extern.Bytes.bytesOf (.slice (some ⟨g', 0, none⟩) m.length m.length))))) W = _
    simp only [Extern.Bytes.bytesOf, Sem.run_bind, Sem.run_pure, Result.andThen, run_row_bytes h, run_row_bytes h']
    rw [Lib.cmp_eq]
    rfl
  rw [hr] at e
  rw [e]
  rfl

theorem cmpB_cons (x y : UInt8) (a b : List UInt8) : Lib.compareBytes (x :: a) (y :: b) = if x < y then -1 else if y < x then 1 else Lib.compareBytes a b := by rw [Lib.compareBytes]
theorem compareBytes_lt : ∀ (a b : List UInt8), Lib.compareBytes a b < 0 ↔ a < b
  | [], [] => by simp [Lib.compareBytes]
  | [], _ :: _ => by simp [Lib.compareBytes]
  | _ :: _, [] => by simp [Lib.compareBytes]
  | x :: a, y :: b => by
    have ih := compareBytes_lt a b
    rw [List.cons_lt_cons_iff, ← ih, cmpB_cons]
    by_cases h : x < y
    · simp [h]
    · by_cases h2 : y < x
      · rw [if_neg h, if_pos h2]
        have hn : x ≠ y := fun e => by subst e; exact UInt8.lt_irrefl _ h2
        simp [h, hn]
      · have e : x = y := UInt8.le_antisymm (UInt8.not_lt.1 h2) (UInt8.not_lt.1 h)
        rw [if_neg h, if_neg h2]
        subst e
        simp
theorem compareBytes_eq : ∀ (a b : List UInt8), Lib.compareBytes a b = 0 ↔ a = b
  | [], [] => by simp [Lib.compareBytes]
  | [], _ :: _ => by simp [Lib.compareBytes]
  | _ :: _, [] => by simp [Lib.compareBytes]
  | x :: a, y :: b => by
    have ih := compareBytes_eq a b
    rw [List.cons.injEq, ← ih, cmpB_cons]
    by_cases h : x < y
    · have hn : x ≠ y := fun e => by subst e; exact UInt8.lt_irrefl _ h
      simp [h, hn]
    · by_cases h2 : y < x
      · rw [if_neg h, if_pos h2]
        have hn : x ≠ y := fun e => by subst e; exact UInt8.lt_irrefl _ h2
        simp [hn]
      · have e : x = y := UInt8.le_antisymm (UInt8.not_lt.1 h2) (UInt8.not_lt.1 h)
        rw [if_neg h, if_neg h2]
        subst e
        simp
theorem compareBytes_neg : ∀ (a b : List UInt8), Lib.compareBytes a b = - Lib.compareBytes b a
  | [], [] => by simp [Lib.compareBytes]
  | [], _ :: _ => by simp [Lib.compareBytes]
  | _ :: _, [] => by simp [Lib.compareBytes]
  | x :: a, y :: b => by
    have ih := compareBytes_neg a b
    rw [cmpB_cons, cmpB_cons]
    by_cases h : x < y
    · have h2 : ¬ y < x := fun h2 => UInt8.lt_irrefl _ (UInt8.lt_trans h h2)
      rw [if_pos h, if_neg h2, if_pos h]
    · by_cases h2 : y < x
      · rw [if_neg h, if_pos h2, if_pos h2]
        rfl
      · rw [if_neg h, if_neg h2, if_neg h2, if_neg h, ih]
theorem compareBytes_bound : ∀ (a b : List UInt8), -1 ≤ Lib.compareBytes a b ∧ Lib.compareBytes a b ≤ 1
  | [], [] => by simp [Lib.compareBytes]
  | [], _ :: _ => by simp [Lib.compareBytes]
  | _ :: _, [] => by simp [Lib.compareBytes]
  | x :: a, y :: b => by
    have ih := compareBytes_bound a b
    rw [cmpB_cons]
    split
    · omega
    · split
      · omega
      · exact ih

set_option maxRecDepth 20000 in
theorem Compare_any (l m : List UInt8) (hl : l.length = 16) (hm : m.length = 16) (g g' : Nat) (t t' : TypeId) (w : World) (h : Row w g t (l.map bv)) (h' : Row w g' t' (m.map bv)) :
    Calls Tryz.prog 29 #[.slice (some ⟨g, 0, none⟩) 16 16, .slice (some ⟨g', 0, none⟩) 16 16] w fun e w' => e = .returned (.int .i64 (Lib.compareBytes l m)) ∧ w = w' := by
  have hx := run_compare h h'
  rw [hl, hm] at hx
  obtain ⟨c, hc⟩ : ∃ c, Lib.compareBytes l m = c := ⟨_, rfl⟩
  rw [hc] at hx ⊢
  clear hc h h' hl hm
  go_enter Tryz.func29, Tryz.ntmps29
  go_wp2
  go_ret
  exact ⟨rfl, rfl⟩

set_option maxRecDepth 20000 in
set_option maxHeartbeats 1000000 in
theorem Cmp_any (l m : List UInt8) (hl : l.length = 16) (hm : m.length = 16) (w : World) :
    Calls Tryz.prog 12 #[.agg (l.map bv).toArray, .agg (m.map bv).toArray] w fun e w' => e = .returned (.int .i64 (Lib.compareBytes l m)) ∧ Below w.heap.size w w' := by
  have hr0 := (Row.new w 23 (l.map bv)).alloc (.cells (m.map bv).toArray 23)
  have hr1 := Row.new (w.alloc (.cells (l.map bv).toArray 23)) 23 (m.map bv)
  rw [World.size_alloc] at hr1
  have hb0 : Below w.heap.size w ((w.alloc (.cells (l.map bv).toArray 23)).alloc (.cells (m.map bv).toArray 23)) := ((Below.refl _ _).alloc (Nat.le_refl _) _).alloc (by simp) _
  have HK : Hid (∀ W : World, Below ((w.alloc (.cells (l.map bv).toArray 23)).alloc (.cells (m.map bv).toArray 23)).heap.size ((w.alloc (.cells (l.map bv).toArray 23)).alloc (.cells (m.map bv).toArray 23)) W → Calls Tryz.prog 29 #[.slice (some ⟨w.heap.size, 0, none⟩) 16 16, .slice (some ⟨w.heap.size + 1, 0, none⟩) 16 16] W fun e w' => e = .returned (.int .i64 (Lib.compareBytes l m)) ∧ W = w') := Lib.hid fun W hW => Compare_any l m hl hm _ _ _ _ W (hr0.below hW hr0.lt) (hr1.below hW hr1.lt)
  have hsl0 := fun W => slice_arr_all (P := Tryz.prog) 23 5 16 Tryz.underlying23 Tryz.sizeOf5 w.heap.size 0 (by omega) W
  have hsl1 := fun W => slice_arr_all (P := Tryz.prog) 23 5 16 Tryz.underlying23 Tryz.sizeOf5 (w.heap.size + 1) 0 (by omega) W
  obtain ⟨C, hC⟩ : ∃ C, l.map bv = C := ⟨_, rfl⟩
  obtain ⟨D, hD⟩ : ∃ D, m.map bv = D := ⟨_, rfl⟩
  obtain ⟨c, hc⟩ : ∃ c, Lib.compareBytes l m = c := ⟨_, rfl⟩
  rw [hC, hD] at hr0 hr1 hb0 HK ⊢
  rw [hc] at HK ⊢
  have HB := Lib.hid hb0
  clear hr0 hr1 hb0 hC hD hc hl hm
  go_enter Tryz.func12, Tryz.ntmps12
  go_wp2_with fail
  generalize (w.alloc (.cells C.toArray 23)).alloc (.cells D.toArray 23) = w1 at HK HB ⊢
  refine region_quiet_lit (Below w1.heap.size w1) (by kernel_rfl) (by kernel_rfl) (below_drewN (Below.refl _ _) 1) ?_
  repeat (go_big_quiet_step ((first
    | (intro hC; with_reducible rfl)
    | (intro hC; go_at_call 29; refine (HK.out _ hC).mono ?_; rintro e w'' ⟨rfl, rfl⟩; exact ⟨rfl, hC⟩))))
  refine wpQuiet_nil ?_
  intro w2 hw2
  clear hsl0 hsl1
  go_wp2
  go_ret
  exact ⟨rfl, HB.out.trans (hw2.mono HB.out.size)⟩
end Go.Proofs.YtdhplohppcndhaaGreatDoor

namespace Go.Proofs.YtdhplohppcndhaaGreatDoor
open Go.RowKit
set_option linter.unusedVariables false

theorem str_info3 : (Tryz.prog.info? 9).map (fun i => (i.zero, i.size, i.bytes)) = some (some (.string ⟨#[]⟩), 1, 16) := by kernel_rfl
theorem grow_own (m : Nat) (hm : 1 ≤ m) (hm2 : m ≤ 100000) (w : World) :
    Calls Tryz.prog 73 #[.slice none 0 0, .int .i64 m] w fun e w' => ∃ c, m ≤ c ∧ e = .returned (.slice (some ⟨w.heap.size, 0, none⟩) 0 c) ∧
      w'.ownsRow w.heap.size 9 1 (.slice (some ⟨w.heap.size, 0, none⟩) 0 c) 0 [] ∧ Below w.heap.size w w' := by
  obtain ⟨i0, hi0, hz0, hz1, hz2⟩ := info_parts str_info3
  refine (Any8.slices_Grow_grow Tryz.laysGrow i0 (.string ⟨#[]⟩) hi0 hz0 (by omega) none 0 0 m [] w (Nat.le_refl _) (by omega) (by rw [hz2]; omega) (by omega) (by simp) (fun _ => rfl) (fun a h => by cases h)).mono ?_
  rintro e w' ⟨rfl, rfl⟩
  rw [Nat.zero_add]
  have hge := grownCap_ge w m 0 9
  have hz : ∀ k, (Builtin.zeroCells (Value.string ⟨#[]⟩).cells k).size = k := fun k => by
    have h1 : (Value.string ⟨#[]⟩).cells.size = 1 := rfl
    simp [Builtin.zeroCells, h1]
  refine ⟨grownCap w m 0 9, hge, rfl, ⟨rfl, .inr ⟨w.heap.size, grownCap w m 0 9, ?cur, rfl, Nat.le_refl _, ?hc, Nat.zero_le _, grownCap_le_maxLen w m 0 _ (by unfold maxLen; omega), ?h1, ?h2⟩⟩, ?hb⟩
  case hc => exact (World.alloc_heap_new _ _)
  case h1 =>
    simp only [Array.size_append, hz, Nat.sub_zero]
    show 0 + m + (grownCap w m 0 9 - m) = grownCap w m 0 9 * 1
    omega
  case h2 => simp
  case hb => exact (below_drewN (Below.refl _ _) 1).alloc (Nat.le_refl _) _

/-- How many texts there are in the first k rows. -/
def cnt (n : Nat) : Nat → Nat
  | 0 => 0
  | 1 => 1
  | _ => 1 + n
def rowsOf (x0 : ByteArray) (xs : List ByteArray) : Nat → List ByteArray
  | 0 => []
  | 1 => [x0]
  | _ => x0 :: xs

set_option maxRecDepth 20000 in
set_option maxHeartbeats 4000000 in
theorem Concat_any (bs b1 b2 o2 c2 : Nat) (x0 : ByteArray) (xs : List ByteArray) (w : World) (h : Row w bs 46 [.slice (some ⟨b1, 0, none⟩) 1 1, .slice (some ⟨b2, o2, none⟩) xs.length c2])
    (h1 : w.cell? ⟨b1, 0, none⟩ = some (.string x0)) (h2 : ∀ (j : Nat) x, xs[j]? = some x → w.cell? ⟨b2, o2 + j, none⟩ = some (.string x)) (hb1 : b1 < w.heap.size) (hb2 : b2 < w.heap.size) (hn : xs.length ≤ 1000) :
    Calls Tryz.prog 59 #[.slice (some ⟨bs, 0, none⟩) 2 2] w fun e w' => ∃ g c, 1 + xs.length ≤ c ∧ e = .returned (.slice (some ⟨g, 0, none⟩) (1 + xs.length) c) ∧
      w'.ownsRow w.heap.size 9 1 (.slice (some ⟨g, 0, none⟩) (1 + xs.length) c) (1 + xs.length) ((x0 :: xs).map Value.string) ∧ Below w.heap.size w w' := by
  obtain ⟨n, hnn⟩ : ∃ n, xs.length = n := ⟨_, rfl⟩
  rw [hnn] at h hn ⊢
  have c0 : w.cell? ⟨bs, 0, none⟩ = some (.slice (some ⟨b1, 0, none⟩) 1 1) := h.cell 0
  have c1 : w.cell? ⟨bs, 1, none⟩ = some (.slice (some ⟨b2, o2, none⟩) n c2) := h.cell 1
  have HB := Lib.hid (And.intro hnn (And.intro h1 (And.intro h2 (And.intro hb1 (And.intro hb2 h)))))
  clear hnn h1 h2 hb1 hb2 h
  go_enter Tryz.func59, Tryz.ntmps59
  go_wp2_with fail
  go_loopw [3, 11] (fun s i wr => w = wr ∧ ∃ k : Nat, k ≤ 2 ∧ i = .int .i64 k ∧ s = .int .i64 ((cnt n k : Nat) : Int)) (fun _ i _ => 2 - (intOf i).toNat)
  case atStart => exact ⟨rfl, 0, by omega, rfl, rfl⟩
  case round =>
    obtain ⟨rfl, k, hk, rfl, rfl⟩ := hrel
    rcases (by omega : k = 0 ∨ k = 1 ∨ k = 2) with rfl | rfl | rfl
    · simp only [cnt]
      go_wp2
      go_roundw
      case rel => exact ⟨trivial, 1, by omega, by go_num, by show _ = Value.int .i64 ((1 : Nat) : Int); go_num⟩
      case measure => simp [intOf]
    · simp only [cnt]
      have hpos : ¬ ((1 : Int) + (n : Int) < 0) := by omega
      go_wp2
      go_roundw
      case rel => exact ⟨trivial, 2, by omega, by go_num, by show _ = Value.int .i64 ((1 + n : Nat) : Int); go_num⟩
      case measure => simp [intOf]
    · simp only [cnt]
      go_wp2_with fail
      have e0 : (Value.int .i64 ((1 + n : Nat) : Int)) = .int .i64 (1 + (n : Int)) := by go_num
      refine (grow_own (1 + n) (by omega) (by omega) _).mono ?_
      rintro e w1 ⟨c, hc, rfl, hown, hb⟩
      obtain ⟨i0, hi0, hz0, hz1, hz2⟩ := info_parts str_info3
      have HI := Lib.hid (And.intro hi0 hz1)
      clear e0 hi0 hz0 hz1 hz2
      obtain ⟨g, hg⟩ : ∃ g, w.heap.size = g := ⟨_, rfl⟩
      rw [hg] at hown ⊢
      have HGG := Lib.hid hg
      clear hg
      go_wp2
      go_loopw [6, 27] (fun v i wq => ∃ k : Nat, k ≤ 2 ∧ i = .int .i64 k ∧ v = .slice (some ⟨g, 0, none⟩) (cnt n k) c ∧ wq.ownsRow g 9 1 (.slice (some ⟨g, 0, none⟩) (cnt n k) c) (cnt n k) ((rowsOf x0 xs k).map Value.string) ∧ Below w.heap.size w wq) (fun _ i _ => 2 - (intOf i).toNat)
      case atStart => exact ⟨0, by omega, rfl, rfl, hown, hb⟩
      case round =>
        obtain ⟨k, hk, rfl, rfl, ho, hB⟩ := hrel
        clear hown hb
        clear c0 c1
        have hr := HB.out.2.2.2.2.2.below hB HB.out.2.2.2.2.2.lt
        rcases (by omega : k = 0 ∨ k = 1 ∨ k = 2) with rfl | rfl | rfl
        · have c0 : wr.cell? ⟨bs, 0, none⟩ = some (.slice (some ⟨b1, 0, none⟩) 1 1) := hr.cell 0
          have hcl : ∀ (j : Nat) u, [Value.string x0][j]? = some u → wr.cell? ((⟨b1, 0, none⟩ : Addr).add j) = some u := fun j u hj => by
            rw [Addr.add_mid, Nat.zero_add]
            match j, hj with
            | 0, hj => cases hj; exact (hB.cell (p := ⟨b1, 0, none⟩) HB.out.2.2.2.1).trans HB.out.2.1
          have hsz := hB.size
          have H := Lib.hid (And.intro ho (And.intro hB hcl))
          clear ho hB hcl hr
          simp only [cnt]
          go_wp2_with (at_builtin; refine wpList_append_fits _ rfl (.tmp 31) (.tmp 32) 46 rfl g 9 i0 1 Tryz.underlying46 HI.out.1 HI.out.2 g 0 c [] rfl H.out.1 ⟨b1, 0, none⟩ 1 1 [.string x0] rfl rfl H.out.2.2 (by simp [Value.oneCell']) (by omega) ?_; intro w3 ho3 hg3)
          go_roundw
          case rel => exact ⟨1, by omega, by go_num, rfl, ho3, H.out.2.1.grown hg3 hsz (fun k hk => by cases hk; exact Nat.le_of_eq HGG.out)⟩
          case measure => simp [intOf]
        · have c1 : wr.cell? ⟨bs, 1, none⟩ = some (.slice (some ⟨b2, o2, none⟩) n c2) := hr.cell 1
          have hcl : ∀ (j : Nat) u, (xs.map Value.string)[j]? = some u → wr.cell? ((⟨b2, o2, none⟩ : Addr).add j) = some u := fun j u hj => by
            rw [Addr.add_mid]
            rw [List.getElem?_map, Option.map_eq_some_iff] at hj
            obtain ⟨x, hx, rfl⟩ := hj
            exact (hB.cell (p := ⟨b2, o2 + j, none⟩) HB.out.2.2.2.2.1).trans (HB.out.2.2.1 j x hx)
          have hsz := hB.size
          have H := Lib.hid (And.intro ho (And.intro hB hcl))
          clear ho hB hcl hr
          simp only [cnt]
          go_wp2_with (at_builtin; refine wpList_append_fits _ rfl (.tmp 31) (.tmp 32) 46 rfl g 9 i0 1 Tryz.underlying46 HI.out.1 HI.out.2 g 1 c [.string x0] rfl H.out.1 ⟨b2, o2, none⟩ n c2 (xs.map Value.string) rfl (by rw [List.length_map, HB.out.1, Nat.mul_one]) H.out.2.2 (fun u hu => by obtain ⟨x, _, rfl⟩ := List.mem_map.1 hu; rfl) (by omega) ?_; intro w3 ho3 hg3)
          go_roundw
          case rel => exact ⟨2, by omega, by go_num, rfl, ho3, H.out.2.1.grown hg3 hsz (fun k hk => by cases hk; exact Nat.le_of_eq HGG.out)⟩
          case measure => simp [intOf]
        · have H := Lib.hid (And.intro ho hB)
          clear ho hB hr
          simp only [cnt]
          go_wp2
          go_ret
          exact ⟨g, c, hc, rfl, by rw [HGG.out]; exact H.out.1, H.out.2⟩
end Go.Proofs.YtdhplohppcndhaaGreatDoor

namespace Go.Proofs.YtdhplohppcndhaaGreatDoor
set_option linter.unusedVariables false
/-- A key's block, masked. -/
def blkL (key : List UInt8) (m : UInt8) : List UInt8 := (key ++ List.replicate (64 - key.length) 0).map fun c => c ^^^ m
/-- The key that is masked. -/
def keyL (key : List UInt8) : List UInt8 := if 64 < key.length then shaL key else key
/-- The sum. -/
def hmacL (key msg : List UInt8) : List UInt8 := shaL (blkL (keyL key) 92 ++ shaL (blkL (keyL key) 54 ++ msg))
theorem blkL_length (key : List UInt8) (m : UInt8) (h : key.length ≤ 64) : (blkL key m).length = 64 := by simp [blkL]; omega
/-- The chapter's example: Jefe's. -/
theorem jefe_example : (hmacL [74, 101, 102, 101] [119, 104, 97, 116, 32, 100, 111, 32, 121, 97, 32, 119, 97, 110, 116, 32, 102, 111, 114, 32, 110, 111, 116, 104, 105, 110, 103, 63]).take 4 = [91, 220, 193, 70] := by decide +kernel
end Go.Proofs.YtdhplohppcndhaaGreatDoor

namespace Go.Proofs.YtdhplohppcndhaaGreatDoor
open Go.RowKit
set_option linter.unusedVariables false

def z64b : List Value := List.replicate 64 (.int .u8 0)
theorem b64_info : (Tryz.prog.info? 90).map (fun i => (i.zero, i.size)) = some (some (.agg z64b.toArray), 64) := by kernel_rfl

theorem part_set {α : Type} (A B : List α) (j : Nat) (v : α) (hv : A[j]? = some v) (hl : A.length = B.length) : (A.take j ++ B.drop j).set j v = A.take (j + 1) ++ B.drop (j + 1) := by
  have hj : j < A.length := (List.getElem?_eq_some_iff.1 hv).1
  have hB : j < B.length := by omega
  have h1 : (A.take j).length = j := by rw [List.length_take]; omega
  have h2 : B.drop j = B[j] :: B.drop (j + 1) := List.drop_eq_getElem_cons hB
  have h3 : A.take (j + 1) = A.take j ++ [v] := by
    rw [List.take_add_one, hv]; rfl
  rw [List.set_append_right _ _ (by omega), h1, Nat.sub_self, h2, List.set_cons_zero, h3, List.append_assoc]
  rfl
theorem u8_xor_bits (a b : UInt8) : bits BinOp.xor IntKind.u8 (a.toNat : Int) (b.toNat : Int) = ((a ^^^ b).toNat : Int) := by
  rw [UInt8.toNat_xor]
  exact u8_xor_nat _ _ (UInt8.toNat_lt a) (UInt8.toNat_lt b)

set_option maxRecDepth 4000 in
set_option maxHeartbeats 2000000 in
theorem masked_any (k : ByteArray) (m : UInt8) (hk : k.size ≤ 64) (w : World) :
    Calls Tryz.prog 60 #[.string k, .int .u8 m.toNat] w fun e w' => e = .returned (.string ⟨(blkL k.data.toList m).toArray⟩) ∧ Below w.heap.size w w' := by
  have hz := (zero_of_info b64_info).1
  have hsl : k.data.toList.length = k.size := by simp
  obtain ⟨K, hK⟩ : ∃ K, k.data.toList ++ List.replicate (64 - k.data.toList.length) (0 : UInt8) = K := ⟨_, rfl⟩
  have hKl : K.length = 64 := by rw [← hK]; simp; omega
  obtain ⟨A, hA⟩ : ∃ A, K.map (fun c => c ^^^ m) = A := ⟨_, rfl⟩
  have hAl : A.length = 64 := by rw [← hA, List.length_map, hKl]
  have hblk : blkL k.data.toList m = A := by rw [← hA, ← hK]; rfl
  have hr1 := Row.new w 90 z64b
  have hb1 : Below w.heap.size w (w.alloc (.cells z64b.toArray 90)) := (Below.refl _ _).alloc (Nat.le_refl _) _
  have hsa := fun W => slice_arr_all (P := Tryz.prog) 90 5 64 Tryz.underlying90 Tryz.sizeOf5 w.heap.size 0 (by omega) W
  have hov : over z64b 0 k.data.toList = K.map bv := by
    unfold over z64b
    rw [← hK, List.map_append, List.take_zero, List.nil_append, Nat.zero_add, hsl, List.drop_replicate, List.map_replicate]
    rfl
  have hcp := copy_row (P := Tryz.prog) (ty := 3) 44 9 5 w.heap.size 0 64 64 k z64b 90 Tryz.underlying44 (by kernel_rfl) hr1 hk (by simp [z64b]; omega)
  rw [hov] at hcp
  have r2 := hr1.put (K.map bv)
  have b2 := below_setRow (B := w.heap.size) hb1 (Nat.le_refl w.heap.size) (K.map bv).toArray
  rw [hblk]
  have H2 := Lib.hid (And.intro r2 (And.intro b2 (And.intro hA (And.intro hKl hAl))))
  clear hr1 hb1 hov hsl hK hblk r2 b2
  go_enter Tryz.func60, Tryz.ntmps60
  go_wp2_with fail
  obtain ⟨r2, b2, hA, hKl, hAl⟩ := H2.out
  generalize (w.alloc (.cells z64b.toArray 90)).setRow w.heap.size (K.map bv).toArray = w2 at r2 b2 ⊢
  clear H2 hcp hz
  go_loopw [10] (fun i wr => ∃ j : Nat, j ≤ 64 ∧ i = .int .i64 j ∧ Row wr w.heap.size 90 ((A.take j ++ K.drop j).map bv) ∧ Below w.heap.size w wr) (fun i _ => 64 - (intOf i).toNat)
  case atStart => exact ⟨0, Nat.zero_le _, rfl, by simpa using r2, b2⟩
  case round =>
    obtain ⟨j, hj, rfl, hr, hb⟩ := hrel
    clear r2 b2
    by_cases hlt : j < 64
    · obtain ⟨c, hc⟩ : ∃ c, K[j]? = some c := ⟨_, List.getElem?_eq_getElem (by omega)⟩
      have hAj : A[j]? = some (c ^^^ m) := by rw [← hA, List.getElem?_map, hc]; rfl
      have hcell : wr.cell? ⟨w.heap.size, j, none⟩ = some (.int .u8 (c.toNat : Int)) := by
        rw [hr.cell, List.getElem?_map, List.getElem?_append_right (by rw [List.length_take]; omega), List.getElem?_drop, List.length_take, show j + (j - min j A.length) = j by omega, hc]
        rfl
      have hfr := hr.frozen j
      have hx := u8_xor_bits c m
      have r3 := hr.set j (.int .u8 ((c ^^^ m).toNat : Int))
      have e3 : ((A.take j ++ K.drop j).map bv).set j (.int .u8 ((c ^^^ m).toNat : Int)) = (A.take (j + 1) ++ K.drop (j + 1)).map bv := by
        rw [show (Value.int IntKind.u8 ((c ^^^ m).toNat : Int)) = bv (c ^^^ m) from rfl, ← List.map_set, part_set A K j _ hAj (by omega)]
      rw [e3] at r3
      have b3 := hb.setCell (p := ⟨w.heap.size, j, none⟩) (Nat.le_refl _) (.int .u8 ((c ^^^ m).toNat : Int))
      have H3 := Lib.hid (And.intro r3 b3)
      clear hr hb hc hAj r3 b3 e3 hA hKl hAl
      go_wp2_with fail
      go_roundw
      case rel => exact ⟨j + 1, by omega, by go_num, H3.out.1, H3.out.2⟩
      case measure => simp [intOf]; omega
    · have hj64 : j = 64 := by omega
      have hge : 64 ≤ j := by omega
      have hrow : (A.take j ++ K.drop j).map bv = A.map bv := by rw [hj64, List.take_of_length_le (by omega), List.drop_of_length_le (by omega), List.append_nil]
      rw [hrow] at hr
      have hcv := conv_bytes (P := Tryz.prog) wr 44 9 5 Tryz.underlying44 Tryz.underlying5 Tryz.underlying9 w.heap.size 0 64 64 A hAl (fun i hi => by rw [Nat.zero_add, hr.cell])
      clear hrow hr hA hKl hAl hj64
      go_wp2_with fail
      go_ret
      exact ⟨rfl, hb⟩
end Go.Proofs.YtdhplohppcndhaaGreatDoor

namespace Go.Proofs.YtdhplohppcndhaaGreatDoor
open Go.RowKit
set_option linter.unusedVariables false

theorem join_flat (xs : List (List UInt8)) : Lib.join xs [] = xs.flatten := by
  induction xs with
  | nil => rfl
  | cons x xs ih =>
    cases xs with
    | nil => simp [Lib.join_one]
    | cons y ys =>
      unfold Lib.join at ih ⊢
      simp only [List.intercalate, List.intersperse, List.flatten_cons, List.nil_append] at ih ⊢
      rw [ih]
theorem own_cells {w : World} {B n c g : Nat} {t : TypeId} {l : List Value} (h : w.ownsRow B t 1 (.slice (some ⟨g, 0, none⟩) n c) n l) (hn : 0 < n) : ∀ (j : Nat) v, l[j]? = some v → w.cell? ⟨g, 0 + j, none⟩ = some v := by
  intro j v hj
  rcases h.2 with ⟨e1, _⟩ | ⟨g', cap, cur, e1, _, hh, hc, _, hs, ht⟩
  · cases e1
  · cases e1
    have hr : Row w g t cur.toList := by
      show w.heap[g]? = some (.cells cur.toList.toArray t (0, 0))
      rw [Array.toArray_toList]
      exact hh
    rw [Nat.zero_add, hr.cell]
    rw [← ht] at hj
    rw [List.getElem?_take] at hj
    split at hj
    · exact hj
    · cases hj
theorem own_lt {w : World} {B n c g : Nat} {t : TypeId} {l : List Value} (h : w.ownsRow B t 1 (.slice (some ⟨g, 0, none⟩) n c) n l) : g < w.heap.size := by
  rcases h.2 with ⟨e1, _⟩ | ⟨g', cap, cur, e1, _, hh, _⟩
  · cases e1
  · cases e1
    exact (Array.getElem?_eq_some_iff.1 hh).1

set_option maxRecDepth 20000 in
set_option maxHeartbeats 4000000 in
theorem HmSum_any (key : ByteArray) (hk : key.size ≤ 100000000) (b2 o2 c2 : Nat) (xs : List ByteArray) (w : World) (hG : G w)
    (h2 : ∀ (j : Nat) x, xs[j]? = some x → w.cell? ⟨b2, o2 + j, none⟩ = some (.string x)) (hb2 : b2 < w.heap.size) (hn : xs.length ≤ 1000)
    (T : List UInt8) (hT : Lib.join (xs.map (·.data.toList)) [] = T) (hTl : T.length ≤ 140737488300000) :
    Calls Tryz.prog 45 #[.string key, .slice (some ⟨b2, o2, none⟩) xs.length c2] w fun e w' => e = .returned (.string ⟨(hmacL key.data.toList T).toArray⟩) ∧ Below w.heap.size w w' := by
  have hkl : key.data.toList.length = key.size := by simp
  obtain ⟨kk, hkk, hks⟩ : ∃ kk : ByteArray, kk.data.toList = keyL key.data.toList ∧ (if 64 < key.size then kk = ⟨(shaL key.data.toList).toArray⟩ else kk = key) := by
    by_cases h : 64 < key.size
    · refine ⟨⟨(shaL key.data.toList).toArray⟩, ?_, ?_⟩
      · unfold keyL; rw [if_pos (by omega)]
      · rw [if_pos h]
    · refine ⟨key, ?_, ?_⟩
      · unfold keyL; rw [if_neg (by omega)]
      · rw [if_neg h]
  have hkz : kk.size ≤ 64 := by
    have e : kk.size = kk.data.toList.length := by simp
    rw [e, hkk]
    unfold keyL
    split
    · rw [shaL_length]; omega
    · omega
  have hkzl : kk.data.toList.length ≤ 64 := by
    have e : kk.size = kk.data.toList.length := by simp
    omega
  obtain ⟨x0, hx0⟩ : ∃ x : ByteArray, (⟨(blkL kk.data.toList 54).toArray⟩ : ByteArray) = x := ⟨_, rfl⟩
  obtain ⟨x1, hx1⟩ : ∃ x : ByteArray, (⟨(blkL kk.data.toList 92).toArray⟩ : ByteArray) = x := ⟨_, rfl⟩
  have HM0 : Hid (∀ W : World, Calls Tryz.prog 60 #[.string kk, .int .u8 54] W fun e w' => e = .returned (.string x0) ∧ Below W.heap.size W w') := Lib.hid fun W => by rw [← hx0]; exact masked_any kk 54 hkz W
  have HM1 : Hid (∀ W : World, Calls Tryz.prog 60 #[.string kk, .int .u8 92] W fun e w' => e = .returned (.string x1) ∧ Below W.heap.size W w') := Lib.hid fun W => by rw [← hx1]; exact masked_any kk 92 hkz W
  have hd0 : x0.data.toList = blkL kk.data.toList 54 := by rw [← hx0]
  have hd1 : x1.data.toList = blkL kk.data.toList 92 := by rw [← hx1]
  obtain ⟨y, hy⟩ : ∃ y : ByteArray, (⟨(shaL (x0.data.toList ++ T)).toArray⟩ : ByteArray) = y := ⟨_, rfl⟩
  have hyd : y.data.toList = shaL (x0.data.toList ++ T) := by rw [← hy]
  obtain ⟨r, hr⟩ : ∃ r : ByteArray, (⟨(shaL (x1.data.toList ++ y.data.toList)).toArray⟩ : ByteArray) = r := ⟨_, rfl⟩
  have hfin : (⟨(hmacL key.data.toList T).toArray⟩ : ByteArray) = r := by
    rw [← hr, hyd, hd0, hd1]
    unfold hmacL
    rw [hkk]
  have hx0l : x0.data.toList.length = 64 := by rw [hd0]; exact blkL_length _ _ hkzl
  have HT1 : Hid (∀ (W : World) (g c : Nat), G W → 1 + xs.length ≤ c → (∀ (j : Nat) v, ((x0 :: xs).map Value.string)[j]? = some v → W.cell? ⟨g, 0 + j, none⟩ = some v) → g < W.heap.size → Calls Tryz.prog 58 #[.slice (some ⟨g, 0, none⟩) (1 + xs.length) c] W fun e w' => e = .returned (.string y) ∧ Below W.heap.size W w') := Lib.hid fun W g c hg hc hcl hlt => by
    rw [← hy]
    have h := Text_any g 0 c (x0 :: xs) W hg (fun j x hx => hcl j _ (by rw [List.getElem?_map, hx]; rfl)) hlt (by rw [List.length_cons]; omega) (by rw [List.length_cons]; omega) (x0.data.toList ++ T) (by rw [join_flat, List.map_cons, List.flatten_cons, ← join_flat, hT]) (by rw [List.length_append]; omega)
    rwa [List.length_cons, Nat.add_comm] at h
  have HT2 : Hid (∀ (W : World) (g : Nat), G W → Row W g 9 [.string x1, .string y] → Calls Tryz.prog 58 #[.slice (some ⟨g, 0, none⟩) 2 2] W fun e w' => e = .returned (.string r) ∧ Below W.heap.size W w') := Lib.hid fun W g hg hr2 => by
    rw [← hr]
    have hyl : y.data.toList.length = 32 := by rw [hyd]; exact shaL_length _
    have hx1l : x1.data.toList.length = 64 := by rw [hd1]; exact blkL_length _ _ hkzl
    exact Text_any g 0 2 [x1, y] W hg (fun j x hx => by rw [Nat.zero_add, hr2.cell]; match j, hx with | 0, hx => cases hx; rfl | 1, hx => cases hx; rfl) hr2.lt (by simp) (by simp) (x1.data.toList ++ y.data.toList) (by rw [join_flat]; simp) (by rw [List.length_append]; omega)
  rw [hfin]
  have HG := Lib.hid hG
  have HH := Lib.hid h2
  have HHb := Lib.hid hb2
  clear hkl hkk hkz hkzl hx0 hx1 hd0 hd1 hy hyd hr hfin hx0l hG h2 hT hTl hb2
  by_cases hlong : 64 < key.size
  · rw [if_pos hlong] at hks
    have hkI : (64 : Int) < (key.size : Int) := by omega
    have HT0 : Hid (∀ (W : World) (g : Nat), G W → Row W g 9 [.string key] → Calls Tryz.prog 58 #[.slice (some ⟨g, 0, none⟩) 1 1] W fun e w' => e = .returned (.string kk) ∧ Below W.heap.size W w') := Lib.hid fun W g hg hr2 => by
      rw [hks]
      exact Text_any g 0 1 [key] W hg (fun j x hx => by rw [Nat.zero_add, hr2.cell]; match j, hx with | 0, hx => cases hx; rfl) hr2.lt (by simp) (by simp) key.data.toList (by rw [join_flat]; simp) (by simp; omega)
    clear hks
    go_enter Tryz.func45, Tryz.ntmps45
    go_wp2_with fail
    have hb0 := (Below.refl w.heap.size w).alloc (Nat.le_refl _) (.cells #[Value.string key] 9)
    refine (HT0.out _ w.heap.size (HG.out.below hb0) (Row.new w 9 [Value.string key])).mono ?_
    rintro e w0 ⟨rfl, hbt⟩
    have hbz := hb0.trans (hbt.mono hb0.size)
    clear hb0 hbt
    go_wp2_with fail
    refine (HM0.out _).mono ?_
    rintro e w1 ⟨rfl, hb1'⟩
    have hb1 := hbz.trans (hb1'.mono hbz.size)
    clear hbz hb1'
    go_wp2_with fail
    have r0 := (Row.new w1 9 [.string x0]).alloc (.cells #[Value.slice (some ⟨w1.heap.size, 0, none⟩) 1 1, Value.slice (some ⟨b2, o2, none⟩) xs.length c2] 46)
    have r1 := Row.new (w1.alloc (.cells #[Value.string x0] 9)) 46 [Value.slice (some ⟨w1.heap.size, 0, none⟩) 1 1, Value.slice (some ⟨b2, o2, none⟩) xs.length c2]
    rw [World.size_alloc] at r1
    have hb3 := (hb1.alloc hb1.size (.cells #[Value.string x0] 9)).alloc (by rw [World.size_alloc]; exact Nat.le_succ_of_le hb1.size) (.cells #[Value.slice (some ⟨w1.heap.size, 0, none⟩) 1 1, Value.slice (some ⟨b2, o2, none⟩) xs.length c2] 46)
    have hlt : b2 < ((w1.alloc (.cells #[Value.string x0] 9)).alloc (.cells #[Value.slice (some ⟨w1.heap.size, 0, none⟩) 1 1, Value.slice (some ⟨b2, o2, none⟩) xs.length c2] 46)).heap.size := Nat.lt_of_lt_of_le HHb.out hb3.size
    refine (Concat_any (w1.heap.size + 1) w1.heap.size b2 o2 c2 x0 xs _ r1 (r0.cell 0) (fun j x hx => (hb3.cell (p := ⟨b2, o2 + j, none⟩) HHb.out).trans (HH.out j x hx)) r0.lt hlt hn).mono ?_
    rintro e w4 ⟨g, c, hc, rfl, hown, hb4⟩
    have hB4 := hb3.trans (hb4.mono hb3.size)
    have H4 := Lib.hid (And.intro hown hB4)
    have hg4 := own_lt hown
    clear r0 r1 hb3 hb4 hown hb1 hlt hB4
    go_wp2_with fail
    refine (HM1.out _).mono ?_
    rintro e w5 ⟨rfl, hb5⟩
    have hB5 := H4.out.2.trans (hb5.mono H4.out.2.size)
    go_wp2_with fail
    refine (HT1.out _ g c (HG.out.below hB5) hc (fun j v hj => (hb5.cell (p := ⟨g, 0 + j, none⟩) hg4).trans (own_cells H4.out.1 (by omega) j v hj)) (Nat.lt_of_lt_of_le hg4 hb5.size)).mono ?_
    rintro e w6 ⟨rfl, hb6⟩
    have hB6 := hB5.trans (hb6.mono hB5.size)
    clear hb5 hb6 hB5
    go_wp2_with fail
    have hB7 := hB6.alloc hB6.size (.cells #[Value.string x1, Value.string y] 9)
    refine (HT2.out _ w6.heap.size (HG.out.below hB7) (Row.new w6 9 [Value.string x1, Value.string y])).mono ?_
    rintro e w7 ⟨rfl, hb7⟩
    have hB8 := hB7.trans (hb7.mono hB7.size)
    clear hB6 hB7 hb7
    go_wp2_with fail
    go_ret
    exact ⟨rfl, hB8⟩
  · rw [if_neg hlong] at hks
    subst hks
    have hkI : ¬ ((64 : Int) < (kk.size : Int)) := by omega
    go_enter Tryz.func45, Tryz.ntmps45
    go_wp2_with fail
    refine (HM0.out _).mono ?_
    rintro e w1 ⟨rfl, hb1⟩
    go_wp2_with fail
    have r0 := (Row.new w1 9 [.string x0]).alloc (.cells #[Value.slice (some ⟨w1.heap.size, 0, none⟩) 1 1, Value.slice (some ⟨b2, o2, none⟩) xs.length c2] 46)
    have r1 := Row.new (w1.alloc (.cells #[Value.string x0] 9)) 46 [Value.slice (some ⟨w1.heap.size, 0, none⟩) 1 1, Value.slice (some ⟨b2, o2, none⟩) xs.length c2]
    rw [World.size_alloc] at r1
    have hb3 := (hb1.alloc hb1.size (.cells #[Value.string x0] 9)).alloc (by rw [World.size_alloc]; exact Nat.le_succ_of_le hb1.size) (.cells #[Value.slice (some ⟨w1.heap.size, 0, none⟩) 1 1, Value.slice (some ⟨b2, o2, none⟩) xs.length c2] 46)
    have hlt : b2 < ((w1.alloc (.cells #[Value.string x0] 9)).alloc (.cells #[Value.slice (some ⟨w1.heap.size, 0, none⟩) 1 1, Value.slice (some ⟨b2, o2, none⟩) xs.length c2] 46)).heap.size := Nat.lt_of_lt_of_le HHb.out hb3.size
    refine (Concat_any (w1.heap.size + 1) w1.heap.size b2 o2 c2 x0 xs _ r1 (r0.cell 0) (fun j x hx => (hb3.cell (p := ⟨b2, o2 + j, none⟩) HHb.out).trans (HH.out j x hx)) r0.lt hlt hn).mono ?_
    rintro e w4 ⟨g, c, hc, rfl, hown, hb4⟩
    have hB4 := hb3.trans (hb4.mono hb3.size)
    have H4 := Lib.hid (And.intro hown hB4)
    have hg4 := own_lt hown
    clear r0 r1 hb3 hb4 hown hb1 hlt hB4
    go_wp2_with fail
    refine (HM1.out _).mono ?_
    rintro e w5 ⟨rfl, hb5⟩
    have hB5 := H4.out.2.trans (hb5.mono H4.out.2.size)
    go_wp2_with fail
    refine (HT1.out _ g c (HG.out.below hB5) hc (fun j v hj => (hb5.cell (p := ⟨g, 0 + j, none⟩) hg4).trans (own_cells H4.out.1 (by omega) j v hj)) (Nat.lt_of_lt_of_le hg4 hb5.size)).mono ?_
    rintro e w6 ⟨rfl, hb6⟩
    have hB6 := hB5.trans (hb6.mono hB5.size)
    clear hb5 hb6 hB5
    go_wp2_with fail
    have hB7 := hB6.alloc hB6.size (.cells #[Value.string x1, Value.string y] 9)
    refine (HT2.out _ w6.heap.size (HG.out.below hB7) (Row.new w6 9 [Value.string x1, Value.string y])).mono ?_
    rintro e w7 ⟨rfl, hb7⟩
    have hB8 := hB7.trans (hb7.mono hB7.size)
    clear hB6 hB7 hb7
    go_wp2_with fail
    go_ret
    exact ⟨rfl, hB8⟩
end Go.Proofs.YtdhplohppcndhaaGreatDoor

namespace Go.Proofs.YtdhplohppcndhaaGreatDoor
open Go.RowKit
set_option linter.unusedVariables false
theorem Awake3_any (w : World) :
    Calls Tryz.prog 49 #[] w fun e w' => e = .returned (.bool true) ∧ Below w.heap.size w w' := by
  go_enter Tryz.func49, Tryz.ntmps49
  go_wp2_with (go_at_call 62; refine (awake3_any _).mono ?_; rintro e wa ⟨rfl, hb⟩)
  go_ret
  exact ⟨rfl, hb⟩
def jefeK : ByteArray := ⟨#[74, 101, 102, 101]⟩
def jefeA : ByteArray := ⟨#[119, 104, 97, 116, 32, 100, 111, 32, 121, 97, 32, 119, 97, 110, 116, 32]⟩
def jefeB : ByteArray := ⟨#[102, 111, 114, 32, 110, 111, 116, 104, 105, 110, 103, 63]⟩
theorem take4_prefix (L : List UInt8) (a b c d : UInt8) (h : L.take 4 = [a, b, c, d]) : Lib.hasPrefix L [a, b, c, d] = true := by
  obtain ⟨R, hR⟩ : ∃ R, L.drop 4 = R := ⟨_, rfl⟩
  have e : L = [a, b, c, d] ++ R := by rw [← h, ← hR, List.take_append_drop]
  rw [e]
  simp [Lib.hasPrefix]

set_option maxRecDepth 20000 in
set_option maxHeartbeats 2000000 in
theorem awake6_any (w : World) (hG : G w) :
    Calls Tryz.prog 33 #[] w fun e w' => e = .returned (.bool true) ∧ Below w.heap.size w w' := by
  obtain ⟨L, hL⟩ : ∃ L, hmacL jefeK.data.toList (jefeA.data.toList ++ jefeB.data.toList) = L := ⟨_, rfl⟩
  have hp : Lib.hasPrefix L [91, 220, 193, 70] = true := by rw [← hL]; exact take4_prefix _ _ _ _ _ jefe_example
  have HS : Hid (∀ (W : World) (g : Nat), G W → Row W g 9 [.string jefeA, .string jefeB] → Calls Tryz.prog 45 #[.string jefeK, .slice (some ⟨g, 0, none⟩) 2 2] W fun e w' => e = .returned (.string ⟨L.toArray⟩) ∧ Below W.heap.size W w') := Lib.hid fun W g hg hr2 => by
    rw [← hL]
    exact HmSum_any jefeK (by decide) g 0 2 [jefeA, jefeB] W hg (fun j x hx => by rw [Nat.zero_add, hr2.cell]; match j, hx with | 0, hx => cases hx; rfl | 1, hx => cases hx; rfl) hr2.lt (by simp) (jefeA.data.toList ++ jefeB.data.toList) (by rw [join_flat]; simp) (by decide)
  have HP : Hid (∀ W : World, Calls Tryz.prog 51 #[.string ⟨L.toArray⟩, .string ⟨#[91, 220, 193, 70]⟩] W fun e w' => e = .returned (.bool true) ∧ w' = W) := Lib.hid fun W => by
    have h := Tryz.strings_HasPrefix ⟨L.toArray⟩ ⟨#[91, 220, 193, 70]⟩ W
    rw [show Lib.hasPrefix (ByteArray.mk L.toArray).data.toList (ByteArray.mk #[91, 220, 193, 70]).data.toList = true from hp] at h
    exact h
  have HG := Lib.hid hG
  clear hL hp hG
  go_enter Tryz.func33, Tryz.ntmps33
  go_wp2_with fail
  refine (Awake3_any _).mono ?_
  rintro e w1 ⟨rfl, hb1⟩
  go_wp2_with fail
  refine (Awake5_any _ (HG.out.below hb1)).mono ?_
  rintro e w2 ⟨rfl, hb2⟩
  have hB2 := hb1.trans (hb2.mono hb1.size)
  clear hb1 hb2
  go_wp2_with fail
  have hB3 := hB2.alloc hB2.size (.cells #[Value.string jefeA, Value.string jefeB] 9)
  refine (HS.out _ w2.heap.size (HG.out.below hB3) (Row.new w2 9 [Value.string jefeA, Value.string jefeB])).mono ?_
  rintro e w3 ⟨rfl, hb3⟩
  have hB4 := hB3.trans (hb3.mono hB3.size)
  clear hB2 hB3 hb3
  go_wp2_with fail
  refine (HP.out _).mono ?_
  rintro e w4 ⟨rfl, rfl⟩
  go_wp2_with fail
  go_ret
  exact ⟨rfl, hB4⟩
end Go.Proofs.YtdhplohppcndhaaGreatDoor

namespace Go.Proofs.YtdhplohppcndhaaGreatDoor
open Go.RowKit
set_option linter.unusedVariables false

theorem Awake6_any (w : World) (hG : G w) :
    Calls Tryz.prog 18 #[] w fun e w' => e = .returned (.bool true) ∧ Below w.heap.size w w' := by
  have HG := Lib.hid hG
  clear hG
  go_enter Tryz.func18, Tryz.ntmps18
  go_wp2_with fail
  refine (awake6_any _ HG.out).mono ?_
  rintro e wa ⟨rfl, hb⟩
  go_wp2_with fail
  go_ret
  exact ⟨rfl, hb⟩
def zeroId : ByteArray := ⟨#[48, 48, 48, 48, 48, 48, 48, 48, 45, 48, 48, 48, 48, 45, 48, 48, 48, 48, 45, 48, 48, 48, 48, 45, 48, 48, 48, 48, 48, 48, 48, 48, 48, 48, 48, 48]⟩
theorem zero_eq : (zeroId.toList == [48, 48, 48, 48, 48, 48, 48, 48, 45, 48, 48, 48, 48, 45, 48, 48, 48, 48, 45, 48, 48, 48, 48, 45, 48, 48, 48, 48, 48, 48, 48, 48, 48, 48, 48, 48]) = true := by decide +kernel
theorem zero_id : (⟨(idL (List.replicate 16 0)).toArray⟩ : ByteArray) = zeroId := by decide +kernel
def zA : Array Value := #[.int .u8 0, .int .u8 0, .int .u8 0, .int .u8 0, .int .u8 0, .int .u8 0, .int .u8 0, .int .u8 0, .int .u8 0, .int .u8 0, .int .u8 0, .int .u8 0, .int .u8 0, .int .u8 0, .int .u8 0, .int .u8 0]
theorem zA_eq : zA = ((List.replicate 16 (0 : UInt8)).map bv).toArray := by rfl

set_option maxRecDepth 20000 in
set_option maxHeartbeats 1000000 in
theorem awake10_any (w : World) (hG : G w) :
    Calls Tryz.prog 5 #[] w fun e w' => e = .returned (.bool true) ∧ Below w.heap.size w w' := by
  have HT : Hid (∀ W : World, Calls Tryz.prog 6 #[.agg zA] W fun e w' => e = .returned (.string zeroId) ∧ Below W.heap.size W w') := Lib.hid fun W => by
    rw [← zero_id, zA_eq]
    exact idText_any _ rfl W
  have HG := Lib.hid hG
  clear hG
  go_enter Tryz.func5, Tryz.ntmps5
  go_wp2_with fail
  refine (Awake2_any _).mono ?_
  rintro e w1 ⟨rfl, hb1⟩
  go_wp2_with fail
  refine (Awake6_any _ (HG.out.below hb1)).mono ?_
  rintro e w2 ⟨rfl, hb2⟩
  have hB2 := hb1.trans (hb2.mono hb1.size)
  clear hb1 hb2
  go_wp2_with fail
  refine (HT.out _).mono ?_
  rintro e w3 ⟨rfl, hb3⟩
  have hB3 := hB2.trans (hb3.mono hB2.size)
  clear hB2 hb3
  have hz := zero_eq
  go_wp2_with fail
  go_ret
  exact ⟨rfl, hB3⟩
end Go.Proofs.YtdhplohppcndhaaGreatDoor

namespace Go.Proofs.YtdhplohppcndhaaGreatDoor
open Go.RowKit
set_option linter.unusedVariables false

section
variable {P : Program} {ops : Array Oper} {C : World → Prop} {Q : Act → Prop} {a : Act} {o : Oper} {rest : List Oper}
theorem quiet_load_row {K : Act → Prop} (ty : TypeId) (x : Operand) (ho : o.op = .load ty x) (g : Nat) (hx : a.eval x = .pointer (some ⟨g, 0, none⟩)) (t : TypeId) (cs : List Value) (d : TypeDesc) (hS : ∀ w, C w → Row w g t cs)
    (hu : P.underlying ty = some d) (hd : d.isRow = true) (hi : (P.info? ty).map (·.size) = some cs.length) (hk : K (a.put o.dst (.agg cs.toArray))) : o.quiet P a C K :=
  ⟨_, fun w hw => by
    have hr : w.rangeAt g 0 cs := fun j v hj => by rw [Nat.zero_add, (hS w hw).cell]; exact hj
    unfold Oper.quietAt execOp
    simp only [ho, hx, Instr.loadAt, Instr.sureAddr, Sem.run_bind, Sem.run_pure, Result.andThen_ok, run_loadVar_mid w g 0 ty cs d hr hu hd hi]
    exact ⟨rfl, rfl⟩, hk⟩
theorem quiet_eql_agg {K : Act → Prop} (t : TypeId) (x y : Operand) (t2 : TypeId) (ho : o.op = .binOp .eql t x y t2)
    (cs ds : Array Value) (hx : a.eval x = .agg cs) (hy : a.eval y = .agg ds) (hm : P.eqGuardType P.depth t = false) (r : Bool) (he : ∀ W, (binOp .eql t (.agg cs) (.agg ds)).run P W = .ok (.bool r) W) (hk : K (a.put o.dst (.bool r))) : o.quiet P a C K :=
  ⟨_, fun w hw => by
    unfold Oper.quietAt execOp
    simp only [ho, hx, hy, Sem.run_bind, run_eqGuard_agg w .eql t x y cs ds hm, he, Result.andThen_ok, Sem.run_pure]
    exact ⟨rfl, rfl⟩, hk⟩
end

theorem items_bytes {P : Program} (W : World) (d : Nat) (e : TypeId) (l m : List UInt8) (he : P.underlying e = some (.int .u8)) (ha : (isAgg e).run P W = .ok false W) :
    ∀ is : List Nat, (∀ i ∈ is, i < l.length ∧ i < m.length) → (Op.eqItems (d + 1) e 1 (l.map bv).toArray (m.map bv).toArray is).run P W = .ok (decide (∀ i ∈ is, l[i]? = m[i]?)) W
  | [], _ => by simp [Op.eqItems]
  | i :: is, h => by
    obtain ⟨h1, h2⟩ := h i (by simp)
    have ih := items_bytes W d e l m he ha is (fun j hj => h j (by simp [hj]))
    have hp : (part e (l.map bv).toArray (i * 1)).run P W = .ok (.int .u8 (l[i].toNat : Int)) W := by
      simp only [part, Sem.run_bind, ha, Result.andThen_ok, Nat.mul_one, Bool.false_eq_true, if_false, List.getElem?_toArray, List.getElem?_map, List.getElem?_eq_getElem h1, Option.map_some, bv, Sem.run_pure]
    have hq : (part e (m.map bv).toArray (i * 1)).run P W = .ok (.int .u8 (m[i].toNat : Int)) W := by
      simp only [part, Sem.run_bind, ha, Result.andThen_ok, Nat.mul_one, Bool.false_eq_true, if_false, List.getElem?_toArray, List.getElem?_map, List.getElem?_eq_getElem h2, Option.map_some, bv, Sem.run_pure]
    simp only [Op.eqItems, Sem.run_bind, hp, hq, Result.andThen_ok, run_equalIn_int W d e .u8 .u8 _ _ he]
    by_cases hb : l[i] = m[i]
    · have e1 : l[i]? = m[i]? := by rw [List.getElem?_eq_getElem h1, List.getElem?_eq_getElem h2, hb]
      simp [hb, ih, e1]
    · have e1 : ¬ l[i]? = m[i]? := by rw [List.getElem?_eq_getElem h1, List.getElem?_eq_getElem h2]; simpa using hb
      have e2 : ¬ ((l[i].toNat : Int) = (m[i].toNat : Int)) := fun h => hb (UInt8.toNat_inj.1 (by omega))
      simp [e1, e2]
theorem arr_equalIn {P : Program} (t e : TypeId) (n : Nat) (l m : List UInt8) (hl : l.length = n) (hm : m.length = n) (ht : P.underlying t = some (.array n e)) (he : P.underlying e = some (.int .u8)) (ha : ∀ W, (isAgg e).run P W = .ok false W)
    (i : TypeInfo) (hi : P.info? e = some i) (hc : P.cellsOf e = 1) (W : World) :
    (Op.equalIn 10000 t (.agg (l.map bv).toArray) (.agg (m.map bv).toArray)).run P W = .ok (decide (l = m)) W := by
  rw [run_equalIn_array W 9999 _ _ ht hi, hc]
  rw [items_bytes W 9998 e l m he (ha W) _ (fun j hj => by
    have hj2 := List.mem_range.1 hj
    omega)]
  have e1 : decide (∀ i ∈ List.range n, l[i]? = m[i]?) = decide (l = m) := decide_eq_decide.2 ⟨fun h => List.ext_getElem? fun j => by
      by_cases hj : j < n
      · exact h j (List.mem_range.2 hj)
      · rw [List.getElem?_eq_none (by omega), List.getElem?_eq_none (by omega)], fun h => by subst h; intros; rfl⟩
  rw [e1]
theorem arr_eql {P : Program} (t e : TypeId) (n : Nat) (l m : List UInt8) (hl : l.length = n) (hm : m.length = n) (ht : P.underlying t = some (.array n e)) (he : P.underlying e = some (.int .u8)) (ha : ∀ W, (isAgg e).run P W = .ok false W)
    (i : TypeInfo) (hi : P.info? e = some i) (hc : P.cellsOf e = 1) (W : World) :
    (binOp .eql t (.agg (l.map bv).toArray) (.agg (m.map bv).toArray)).run P W = .ok (.bool (decide (l = m))) W := by
  rw [run_eql_struct, arr_equalIn t e n l m hl hm ht he ha i hi hc W]
  rfl
end Go.Proofs.YtdhplohppcndhaaGreatDoor

namespace Go.Proofs.YtdhplohppcndhaaGreatDoor
open Go.RowKit
set_option linter.unusedVariables false

theorem results_row_tmp {P : Program} {fn : Func} {p u : Tmp} {ty : TypeId} (h : fn.results = #[.cell p ty, .tmp u]) (tmps : Array Value) (w : World) (g : Nat) (t : TypeId) (cs : Array Value) (fr : Nat × Nat) (d : TypeDesc)
    (hp : tmps.getD p undef = .pointer (some ⟨g, 0, none⟩)) (hg : w.heap[g]? = some (.cells cs t fr))
    (hu : P.underlying ty = some d) (hd : (match d with | .struct _ | .array _ _ => true | _ => false) = true) (hi : (P.info? ty).map (·.size) = some cs.size) (x : Value) (hx : tmps.getD u undef = x) :
    (results fn tmps).run P w = .ok (.tuple #[.agg cs, x]) w := by
  rw [results_cell_tmp h, hp, hx]
  simp [asAddr, run_loadVar_row w g t ty cs fr d hg hu hd hi, Result.andThen]
def z16 : List Value := List.replicate 16 (.int .u8 0)
theorem u16_info : (Tryz.prog.info? 23).map (fun i => (i.zero, i.size)) = some (some (.agg z16.toArray), 16) := by kernel_rfl
theorem u16_size : (Tryz.prog.info? 23).map (·.size) = some 16 := (zero_of_info u16_info).2
theorem one_bytes (l : List UInt8) : (l.map bv).toArray.all (·.oneCell') = true := by
  rw [Array.all_eq_true_iff_forall_mem]
  intro v hv
  simp only [List.mem_toArray, List.mem_map] at hv
  obtain ⟨c, _, rfl⟩ := hv
  rfl

theorem z16_eq : z16 = (List.replicate 16 (0 : UInt8)).map bv := by rfl
theorem z16_one : z16.toArray.all (·.oneCell') = true := by rw [z16_eq]; exact one_bytes _

set_option maxRecDepth 20000 in
set_option maxHeartbeats 1000000 in
theorem id_ok (r : ByteArray) (hr : r.size = 16) (w : World) :
    Calls Tryz.prog 24 #[.string r] w fun e w' => e = .returned (.tuple #[.agg (r.data.toList.map bv).toArray, .int .i64 0]) ∧ Below w.heap.size w w' := by
  have hz := (zero_of_info u16_info).1
  have hl : r.data.toList.length = 16 := by rw [← hr]; simp
  have hone := one_bytes r.data.toList
  obtain ⟨cap, w7, hcv, hcell, hfr, hB, hsz⟩ := str_bytes (P := Tryz.prog) (w.alloc (.cells z16.toArray 23)) 9 44 5 r Tryz.underlying9 Tryz.underlying44 Tryz.underlying5
  have hrg : w7.rangeAt (w.heap.size + 1) 0 (r.data.toList.map bv) := fun j v hj => by
    have hj' : j < r.data.toList.length := by
      have := (List.getElem?_eq_some_iff.1 hj).1
      simpa using this
    have h := hcell j (by omega)
    rw [World.size_alloc] at h
    rw [Nat.zero_add, h]
    rw [List.getElem?_map, List.getElem?_eq_getElem hj'] at hj
    rw [List.getD_eq_getElem?_getD, List.getElem?_eq_getElem hj']
    exact hj
  have hr7 : Row w7 w.heap.size 23 z16 := (Row.new w 23 z16).below hB (by simp)
  have hb7 : Below w.heap.size w w7 := ((Below.refl w.heap.size w).alloc (Nat.le_refl _) (.cells z16.toArray 23)).trans (hB.mono (by simp))
  rw [World.size_alloc] at hcv
  have har := fun W => run_arrayAt (P := Tryz.prog) (w := W) 23 5 16 (some ⟨w.heap.size + 1, 0, none⟩) r.size cap Tryz.underlying23 (by omega)
  obtain ⟨C, hC⟩ : ∃ C, r.data.toList.map bv = C := ⟨_, rfl⟩
  have hCl : C.length = 16 := by rw [← hC, List.length_map, hl]
  rw [hC] at hrg hone ⊢
  have H := Lib.hid (And.intro hrg (And.intro hr7 (And.intro hb7 (And.intro hone hCl))))
  have hrI : ((r.size : Int) != 16) = false := by rw [hr]; rfl
  clear hl hone hcell hfr hB hsz hrg hr7 hb7 hC hCl hr
  go_enter Tryz.func24, Tryz.ntmps24
  go_wp2_with (first
    | (refine wpList_load_mid rfl 23 (.tmp 10) rfl (w.heap.size + 1) 0 rfl C _ H.out.1 Tryz.underlying23 rfl (by rw [u16_size, H.out.2.2.2.2]) ?_)
    | (refine wpList_store_row rfl 23 (.tmp 2) (.tmp 11) rfl w.heap.size C.toArray rfl rfl 23 z16.toArray H.out.2.1 (by rw [u16_size, List.size_toArray, H.out.2.2.2.2]) (by rw [List.size_toArray, List.size_toArray, H.out.2.2.2.2]; rfl) H.out.2.2.2.1 ?_))
  have hp := H.out.2.1.put C
  have hq := below_setRow (B := w.heap.size) H.out.2.2.1 (Nat.le_refl _) C.toArray
  exact bodyPost_ret (v := .tuple #[.agg C.toArray, .int .i64 0]) (results_row_tmp rfl _ _ w.heap.size 23 C.toArray (0, 0) _ rfl hp Tryz.underlying23 rfl (by rw [u16_size, List.size_toArray, H.out.2.2.2.2]) _ rfl) rfl ⟨rfl, hq⟩

set_option maxRecDepth 20000 in
set_option maxHeartbeats 1000000 in
theorem id_bad (r : ByteArray) (hr : r.size ≠ 16) (w : World) :
    Calls Tryz.prog 24 #[.string r] w fun e w' => e = .returned (.tuple #[.agg z16.toArray, .int .i64 4]) ∧ Below w.heap.size w w' := by
  have hz := (zero_of_info u16_info).1
  have hr7 := Row.new w 23 z16
  have hb7 : Below w.heap.size w (w.alloc (.cells z16.toArray 23)) := (Below.refl w.heap.size w).alloc (Nat.le_refl _) (.cells z16.toArray 23)
  have H := Lib.hid (And.intro hr7 hb7)
  have hrI : ((r.size : Int) != 16) = true := by rw [bne_iff_ne]; omega
  clear hr hr7 hb7
  go_enter Tryz.func24, Tryz.ntmps24
  go_wp2_with (refine wpList_store_row rfl 23 (.tmp 2) (.tmp 7) rfl w.heap.size z16.toArray rfl rfl 23 z16.toArray H.out.1 u16_size rfl z16_one ?_)
  have hp := H.out.1.put z16
  have hq := below_setRow (B := w.heap.size) H.out.2 (Nat.le_refl _) z16.toArray
  exact bodyPost_ret (v := .tuple #[.agg z16.toArray, .int .i64 4]) (results_row_tmp rfl _ _ w.heap.size 23 z16.toArray (0, 0) _ rfl hp Tryz.underlying23 rfl u16_size _ rfl) rfl ⟨rfl, hq⟩

set_option maxRecDepth 20000 in
set_option maxHeartbeats 1000000 in
/-- Whether all bytes are nought. -/
theorem idZero_any (l : List UInt8) (hl : l.length = 16) (w : World) :
    Calls Tryz.prog 10 #[.agg (l.map bv).toArray] w fun e w' => e = .returned (.bool (decide (l = List.replicate 16 0))) ∧ Below w.heap.size w w' := by
  have hr0 := Row.new w 23 (l.map bv)
  have hb0 : Below w.heap.size w (w.alloc (.cells (l.map bv).toArray 23)) := (Below.refl w.heap.size w).alloc (Nat.le_refl _) (.cells (l.map bv).toArray 23)
  have he := fun W => arr_equalIn (P := Tryz.prog) 23 5 16 l (List.replicate 16 0) hl rfl Tryz.underlying23 Tryz.underlying5 (Tryz.isAgg5) _ (info_parts (show (Tryz.prog.info? 5).map (fun i => (i.zero, i.size, i.bytes)) = some (some (.int .u8 0), 1, 1) by kernel_rfl)).choose_spec.1 (by kernel_rfl) W
  rw [← z16_eq] at he
  have ez : z16.toArray = zA := by rfl
  rw [ez] at he
  unfold zA at he
  obtain ⟨C, hC⟩ : ∃ C, l.map bv = C := ⟨_, rfl⟩
  have hCl : C.length = 16 := by rw [← hC, List.length_map, hl]
  obtain ⟨r, hr⟩ : ∃ r, decide (l = List.replicate 16 0) = r := ⟨_, rfl⟩
  rw [hC] at hr0 hb0 he ⊢
  rw [hr] at he ⊢
  have H := Lib.hid (And.intro hr0 (And.intro hb0 hCl))
  clear hC hr hr0 hb0 hl hCl ez
  go_enter Tryz.func10, Tryz.ntmps10
  go_wp2_with (first
    | (refine wpList_load_row rfl 23 (.tmp 1) rfl w.heap.size rfl 23 C.toArray (0, 0) _ H.out.1 Tryz.underlying23 rfl (by rw [u16_size, List.size_toArray, H.out.2.2]) ?_)
    | fail)
  go_ret
  exact ⟨rfl, H.out.2.1⟩
end Go.Proofs.YtdhplohppcndhaaGreatDoor

namespace Go.Proofs.YtdhplohppcndhaaGreatDoor
open Go.RowKit
set_option linter.unusedVariables false

/-- An operation whose guard is met. -/
theorem wpList_want {P : Program} {ops : Array Oper} {rest : List Oper} {o : Oper} {a : Act} {w : World} {Q : Exit → Act → World → Prop} (hw : Region.wanted o (yielded ops a.tmps) = true)
    (h : ∀ K : Act → World → Prop, (∀ a w, wpList P ops Q rest a w → K a w) → o.wp P a w K Q) : wpList P ops Q (o :: rest) a w := by
  simp only [wpList, hw, if_true]
  exact .inl (h _ (fun _ _ h => h))
/-- The library's variable holds some number. -/
def M (w : World) : Prop := ∃ m, w.cell? ⟨0, 0, none⟩ = some (.int .i64 m)
theorem M.below {w w' : World} (h : M w) (hb : Below w.heap.size w w') : M w' := by
  obtain ⟨m, hm⟩ := h
  exact ⟨m, (hb.cell (p := ⟨0, 0, none⟩) (block_lt_of_cell hm)).trans hm⟩

theorem strip_any (s : ByteArray) (hs : s.size ≤ 100000) (w : World) (hM : M w) :
    Calls Tryz.prog 23 #[.string s, .string ⟨#[45]⟩, .string ⟨#[]⟩] w fun e w' => e = .returned (.string ⟨(strip s.data.toList).toArray⟩) ∧ Below w.heap.size w w' := by
  obtain ⟨m, hm⟩ := hM
  have h := Tryz.strings_ReplaceAll s ⟨#[45]⟩ ⟨#[]⟩ m w (by omega) hm (by decide) (by show s.size + _ * 0 ≤ _; omega)
  rw [show (ByteArray.mk #[45]).data.toList = [45] from rfl, show (ByteArray.mk #[]).data.toList = [] from rfl, replaceAll_strip] at h
  exact h

set_option maxRecDepth 20000 in
set_option maxHeartbeats 2000000 in
/-- Where the bytes are no id's. -/
theorem parse_short (s t raw : ByteArray) (e : Int) (ht : (⟨(strip s.data.toList).toArray⟩ : ByteArray) = t) (hs : s.size ≤ 100000) (w : World) (hM : M w)
    (hD : ∀ W : World, Calls Tryz.prog 22 #[alph hexS 4 false, .string t] W fun x w' => x = .returned (.tuple #[.string raw, .int .i64 e]) ∧ Below W.heap.size W w') (hr : raw.size ≠ 16) :
    Calls Tryz.prog 7 #[.string s] w fun e w' => e = .returned (.tuple #[.agg z16.toArray, .int .i64 4]) ∧ Below w.heap.size w w' := by
  have hz := (zero_of_info u16_info).1
  have HS : Hid (∀ W : World, M W → Calls Tryz.prog 23 #[.string s, .string ⟨#[45]⟩, .string ⟨#[]⟩] W fun e w' => e = .returned (.string t) ∧ Below W.heap.size W w') := Lib.hid fun W h => by rw [← ht]; exact strip_any s hs W h
  have HD := Lib.hid hD
  have HI := Lib.hid (fun W => id_bad raw hr W)
  have HM := Lib.hid hM
  have hr0 := Row.new w 23 z16
  have hb0 : Below w.heap.size w (w.alloc (.cells z16.toArray 23)) := (Below.refl w.heap.size w).alloc (Nat.le_refl _) (.cells z16.toArray 23)
  have H0 := Lib.hid (And.intro hr0 hb0)
  clear hD ht hr hs hM hr0 hb0
  go_enter Tryz.func7, Tryz.ntmps7
  go_wp2_with fail
  obtain ⟨r0, b0⟩ := H0.out
  generalize w.alloc (.cells z16.toArray 23) = w0 at r0 b0 ⊢
  refine (Hex_any _).mono ?_
  rintro x w1 ⟨rfl, hb1⟩
  have r1 := r0.below hb1 r0.lt
  have b1 := b0.trans (hb1.mono b0.size)
  clear r0 b0 hb1 H0
  go_wp2_with fail
  refine (HS.out _ (HM.out.below b1)).mono ?_
  rintro x w2 ⟨rfl, hb2⟩
  have r2 := r1.below hb2 r1.lt
  have b2 := b1.trans (hb2.mono b1.size)
  clear r1 b1 hb2
  go_wp2_with fail
  refine (HD.out _).mono ?_
  rintro x w3 ⟨rfl, hb3⟩
  have r3 := r2.below hb3 r2.lt
  have b3 := b2.trans (hb3.mono b2.size)
  clear r2 b2 hb3
  go_wp2_with fail
  refine (HI.out _).mono ?_
  rintro x w4 ⟨rfl, hb4⟩
  have r4 := r3.below hb4 r3.lt
  have b4 := b3.trans (hb4.mono b3.size)
  clear r3 b3 hb4
  have r5 := r4.alloc (.cells z16.toArray 23)
  have b5 := b4.alloc b4.size (.cells z16.toArray 23)
  have n5 := Row.new w4 23 z16
  have r6 := r5.put_far (g' := w4.heap.size) (by have := r4.lt; omega) z16.toArray
  have b6 := below_setRow (B := w.heap.size) b5 b4.size z16.toArray
  have H := Lib.hid (And.intro n5 (And.intro r6 b6))
  clear r4 b4 r5 b5 n5 r6 b6
  go_wp2_with (first
    | (refine wpList_store_row rfl 23 (.tmp 6) (.tmp 18) rfl w4.heap.size z16.toArray rfl rfl 23 z16.toArray H.out.1 u16_size rfl z16_one ?_)
    | (refine wpList_store_row rfl 23 (.tmp 2) (.tmp 28) rfl w.heap.size z16.toArray rfl rfl 23 z16.toArray H.out.2.1 u16_size rfl z16_one ?_))
  have hp := H.out.2.1.put z16
  have hq := below_setRow (B := w.heap.size) H.out.2.2 (Nat.le_refl _) z16.toArray
  exact bodyPost_ret (v := .tuple #[.agg z16.toArray, .int .i64 4]) (results_row_tmp rfl _ _ w.heap.size 23 z16.toArray (0, 0) _ rfl hp Tryz.underlying23 rfl u16_size _ rfl) rfl ⟨rfl, hq⟩

set_option maxRecDepth 20000 in
set_option maxHeartbeats 2000000 in
/-- Where they are, and the text is theirs. -/
theorem parse_long (s t raw : ByteArray) (e : Int) (ht : (⟨(strip s.data.toList).toArray⟩ : ByteArray) = t) (hs : s.size ≤ 100000) (w : World) (hM : M w)
    (hD : ∀ W : World, Calls Tryz.prog 22 #[alph hexS 4 false, .string t] W fun x w' => x = .returned (.tuple #[.string raw, .int .i64 e]) ∧ Below W.heap.size W w') (hr : raw.size = 16) (htx : idL raw.data.toList = s.data.toList) :
    Calls Tryz.prog 7 #[.string s] w fun e w' => e = .returned (.tuple #[.agg (raw.data.toList.map bv).toArray, .int .i64 0]) ∧ Below w.heap.size w w' := by
  have hz := (zero_of_info u16_info).1
  have HS : Hid (∀ W : World, M W → Calls Tryz.prog 23 #[.string s, .string ⟨#[45]⟩, .string ⟨#[]⟩] W fun e w' => e = .returned (.string t) ∧ Below W.heap.size W w') := Lib.hid fun W h => by rw [← ht]; exact strip_any s hs W h
  have HD := Lib.hid hD
  have hl : raw.data.toList.length = 16 := by rw [← hr]; simp
  have hI := fun W => id_ok raw hr W
  have hT := fun W => idText_any raw.data.toList hl W
  have hone := one_bytes raw.data.toList
  obtain ⟨C, hC⟩ : ∃ C, raw.data.toList.map bv = C := ⟨_, rfl⟩
  have hCl : C.length = 16 := by rw [← hC, List.length_map, hl]
  rw [hC] at hI hT hone ⊢
  have htt : (⟨(idL raw.data.toList).toArray⟩ : ByteArray) = s := by rw [htx]
  rw [htt] at hT
  have HI := Lib.hid hI
  have HT := Lib.hid hT
  have HC := Lib.hid (And.intro hCl hone)
  have HM := Lib.hid hM
  have hr0 := Row.new w 23 z16
  have hb0 : Below w.heap.size w (w.alloc (.cells z16.toArray 23)) := (Below.refl w.heap.size w).alloc (Nat.le_refl _) (.cells z16.toArray 23)
  have H0 := Lib.hid (And.intro hr0 hb0)
  clear hD ht hr hs hM hr0 hb0 hl hI hT hone hC hCl htt htx
  go_enter Tryz.func7, Tryz.ntmps7
  go_wp2_with fail
  obtain ⟨r0, b0⟩ := H0.out
  generalize w.alloc (.cells z16.toArray 23) = w0 at r0 b0 ⊢
  refine (Hex_any _).mono ?_
  rintro x w1 ⟨rfl, hb1⟩
  have r1 := r0.below hb1 r0.lt
  have b1 := b0.trans (hb1.mono b0.size)
  clear r0 b0 hb1 H0
  go_wp2_with fail
  refine (HS.out _ (HM.out.below b1)).mono ?_
  rintro x w2 ⟨rfl, hb2⟩
  have r2 := r1.below hb2 r1.lt
  have b2 := b1.trans (hb2.mono b1.size)
  clear r1 b1 hb2
  go_wp2_with fail
  refine (HD.out _).mono ?_
  rintro x w3 ⟨rfl, hb3⟩
  have r3 := r2.below hb3 r2.lt
  have b3 := b2.trans (hb3.mono b2.size)
  clear r2 b2 hb3
  go_wp2_with fail
  refine (HI.out _).mono ?_
  rintro x w4 ⟨rfl, hb4⟩
  have r4 := r3.below hb4 r3.lt
  have b4 := b3.trans (hb4.mono b3.size)
  clear r3 b3 hb4
  have r5 := r4.alloc (.cells z16.toArray 23)
  have b5 := b4.alloc b4.size (.cells z16.toArray 23)
  have n5 := Row.new w4 23 z16
  have N5 := Lib.hid n5
  have n6 := n5.put C
  have r6 := r5.put_far (g' := w4.heap.size) (by have := r4.lt; omega) C.toArray
  have b6 := below_setRow (B := w.heap.size) b5 b4.size C.toArray
  clear r4 b4 r5 b5 n5
  go_wp2_with (first
    | (refine wpList_store_row rfl 23 (.tmp 6) (.tmp 18) rfl w4.heap.size C.toArray rfl rfl 23 z16.toArray N5.out (by rw [u16_size, List.size_toArray, HC.out.1]) (by rw [List.size_toArray, List.size_toArray, HC.out.1]; rfl) HC.out.2 ?_)
    | (refine wpList_want (by rfl) fun _ hK => wp_load_row 23 (.tmp 6) rfl w4.heap.size rfl 23 C.toArray (0, 0) _ n6 Tryz.underlying23 rfl (by rw [u16_size, List.size_toArray, HC.out.1]) (hK _ _ ?_)))
  generalize (w4.alloc (.cells z16.toArray 23)).setRow w4.heap.size C.toArray = w5 at n6 r6 b6 ⊢
  obtain ⟨g6, hg6⟩ : ∃ g, w4.heap.size = g := ⟨_, rfl⟩
  rw [hg6] at n6 ⊢
  clear N5 hg6
  refine (HT.out _).mono ?_
  rintro x w6 ⟨rfl, hb6⟩
  have n7 := n6.below hb6 n6.lt
  have r7 := r6.below hb6 r6.lt
  have b7 := b6.trans (hb6.mono b6.size)
  clear n6 r6 b6 hb6
  go_wp2_with (first
    | (refine wpList_load_row rfl 23 (.tmp 6) rfl g6 rfl 23 C.toArray (0, 0) _ n7 Tryz.underlying23 rfl (by rw [u16_size, List.size_toArray, HC.out.1]) ?_)
    | (refine wpList_store_row rfl 23 (.tmp 2) (.tmp 29) rfl w.heap.size C.toArray rfl rfl 23 z16.toArray r7 (by rw [u16_size, List.size_toArray, HC.out.1]) (by rw [List.size_toArray, List.size_toArray, HC.out.1]; rfl) HC.out.2 ?_))
  have hp := r7.put C
  have hq := below_setRow (B := w.heap.size) b7 (Nat.le_refl _) C.toArray
  exact bodyPost_ret (v := .tuple #[.agg C.toArray, .int .i64 0]) (results_row_tmp rfl _ _ w.heap.size 23 C.toArray (0, 0) _ rfl hp Tryz.underlying23 rfl (by rw [u16_size, List.size_toArray, HC.out.1]) _ rfl) rfl ⟨rfl, hq⟩

set_option maxRecDepth 20000 in
set_option maxHeartbeats 2000000 in
/-- Where they are, and the text isn't theirs. -/
theorem parse_other (s t raw : ByteArray) (e : Int) (ht : (⟨(strip s.data.toList).toArray⟩ : ByteArray) = t) (hs : s.size ≤ 100000) (w : World) (hM : M w)
    (hD : ∀ W : World, Calls Tryz.prog 22 #[alph hexS 4 false, .string t] W fun x w' => x = .returned (.tuple #[.string raw, .int .i64 e]) ∧ Below W.heap.size W w') (hr : raw.size = 16) (htx : idL raw.data.toList ≠ s.data.toList) :
    Calls Tryz.prog 7 #[.string s] w fun e w' => e = .returned (.tuple #[.agg z16.toArray, .int .i64 4]) ∧ Below w.heap.size w w' := by
  have hz := (zero_of_info u16_info).1
  have HS : Hid (∀ W : World, M W → Calls Tryz.prog 23 #[.string s, .string ⟨#[45]⟩, .string ⟨#[]⟩] W fun e w' => e = .returned (.string t) ∧ Below W.heap.size W w') := Lib.hid fun W h => by rw [← ht]; exact strip_any s hs W h
  have HD := Lib.hid hD
  have hl : raw.data.toList.length = 16 := by rw [← hr]; simp
  have hI := fun W => id_ok raw hr W
  have hT := fun W => idText_any raw.data.toList hl W
  have hone := one_bytes raw.data.toList
  obtain ⟨C, hC⟩ : ∃ C, raw.data.toList.map bv = C := ⟨_, rfl⟩
  have hCl : C.length = 16 := by rw [← hC, List.length_map, hl]
  rw [hC] at hI hT hone
  obtain ⟨tx, htt⟩ : ∃ tx : ByteArray, (⟨(idL raw.data.toList).toArray⟩ : ByteArray) = tx := ⟨_, rfl⟩
  rw [htt] at hT
  have hne : (tx.toList == s.toList) = false := by
    rw [beq_eq_false_iff_ne, Lib.toList_data, Lib.toList_data, ← htt]
    exact htx
  have HI := Lib.hid hI
  have HT := Lib.hid hT
  have HC := Lib.hid (And.intro hCl hone)
  have HM := Lib.hid hM
  have hr0 := Row.new w 23 z16
  have hb0 : Below w.heap.size w (w.alloc (.cells z16.toArray 23)) := (Below.refl w.heap.size w).alloc (Nat.le_refl _) (.cells z16.toArray 23)
  have H0 := Lib.hid (And.intro hr0 hb0)
  clear hD ht hr hs hM hr0 hb0 hl hI hT hone hC hCl htt htx
  go_enter Tryz.func7, Tryz.ntmps7
  go_wp2_with fail
  obtain ⟨r0, b0⟩ := H0.out
  generalize w.alloc (.cells z16.toArray 23) = w0 at r0 b0 ⊢
  refine (Hex_any _).mono ?_
  rintro x w1 ⟨rfl, hb1⟩
  have r1 := r0.below hb1 r0.lt
  have b1 := b0.trans (hb1.mono b0.size)
  clear r0 b0 hb1 H0
  go_wp2_with fail
  refine (HS.out _ (HM.out.below b1)).mono ?_
  rintro x w2 ⟨rfl, hb2⟩
  have r2 := r1.below hb2 r1.lt
  have b2 := b1.trans (hb2.mono b1.size)
  clear r1 b1 hb2
  go_wp2_with fail
  refine (HD.out _).mono ?_
  rintro x w3 ⟨rfl, hb3⟩
  have r3 := r2.below hb3 r2.lt
  have b3 := b2.trans (hb3.mono b2.size)
  clear r2 b2 hb3
  go_wp2_with fail
  refine (HI.out _).mono ?_
  rintro x w4 ⟨rfl, hb4⟩
  have r4 := r3.below hb4 r3.lt
  have b4 := b3.trans (hb4.mono b3.size)
  clear r3 b3 hb4
  have r5 := r4.alloc (.cells z16.toArray 23)
  have b5 := b4.alloc b4.size (.cells z16.toArray 23)
  have n5 := Row.new w4 23 z16
  have N5 := Lib.hid n5
  have n6 := n5.put C
  have r6 := r5.put_far (g' := w4.heap.size) (by have := r4.lt; omega) C.toArray
  have b6 := below_setRow (B := w.heap.size) b5 b4.size C.toArray
  clear r4 b4 r5 b5 n5
  go_wp2_with (first
    | (refine wpList_store_row rfl 23 (.tmp 6) (.tmp 18) rfl w4.heap.size C.toArray rfl rfl 23 z16.toArray N5.out (by rw [u16_size, List.size_toArray, HC.out.1]) (by rw [List.size_toArray, List.size_toArray, HC.out.1]; rfl) HC.out.2 ?_)
    | (refine wpList_want (by rfl) fun _ hK => wp_load_row 23 (.tmp 6) rfl w4.heap.size rfl 23 C.toArray (0, 0) _ n6 Tryz.underlying23 rfl (by rw [u16_size, List.size_toArray, HC.out.1]) (hK _ _ ?_)))
  generalize (w4.alloc (.cells z16.toArray 23)).setRow w4.heap.size C.toArray = w5 at n6 r6 b6 ⊢
  obtain ⟨g6, hg6⟩ : ∃ g, w4.heap.size = g := ⟨_, rfl⟩
  rw [hg6] at n6 ⊢
  clear N5 hg6
  refine (HT.out _).mono ?_
  rintro x w6 ⟨rfl, hb6⟩
  have n7 := n6.below hb6 n6.lt
  have r7 := r6.below hb6 r6.lt
  have b7 := b6.trans (hb6.mono b6.size)
  clear n6 r6 b6 hb6
  go_wp2_with (refine wpList_store_row rfl 23 (.tmp 2) (.tmp 28) rfl w.heap.size z16.toArray rfl rfl 23 z16.toArray r7 u16_size rfl z16_one ?_)
  have hp := r7.put z16
  have hq := below_setRow (B := w.heap.size) b7 (Nat.le_refl _) z16.toArray
  exact bodyPost_ret (v := .tuple #[.agg z16.toArray, .int .i64 4]) (results_row_tmp rfl _ _ w.heap.size 23 z16.toArray (0, 0) _ rfl hp Tryz.underlying23 rfl u16_size _ rfl) rfl ⟨rfl, hq⟩

/-- The id of its text. -/
theorem Parse_ok (s : ByteArray) (l : List UInt8) (h : IsId s.data.toList l) (hs : s.size ≤ 100000) (w : World) (hM : M w) :
    Calls Tryz.prog 7 #[.string s] w fun e w' => e = .returned (.tuple #[.agg (l.map bv).toArray, .int .i64 0]) ∧ Below w.heap.size w w' := by
  have hst : (⟨(strip s.data.toList).toArray⟩ : ByteArray) = ⟨(hexL l).toArray⟩ := by rw [← h.2, strip_id]
  have hl : (hexL l).length = 32 := by rw [hexL_length, h.1]
  have henc : encS hexS 4 false (decS hexS 4 ⟨(hexL l).toArray⟩) = ⟨(hexL l).toArray⟩ := by rw [dec_hex, encS_hex]
  refine parse_long s ⟨(hexL l).toArray⟩ ⟨l.toArray⟩ 0 hst hs w hM (fun W => ?_) (by show l.toArray.size = 16; rw [List.size_toArray, h.1]) h.2
  have hd := Decode_ok hexS 4 false ⟨(hexL l).toArray⟩ W (.inl rfl) rfl (by show (hexL l).toArray.size ≤ _; rw [List.size_toArray, hl]; omega) henc
  rwa [dec_hex] at hd
/-- A text that is no id's. -/
theorem Parse_bad (s : ByteArray) (h : ∀ l, ¬ IsId s.data.toList l) (hs : s.size ≤ 50000) (w : World) (hM : M w) :
    Calls Tryz.prog 7 #[.string s] w fun e w' => e = .returned (.tuple #[.agg z16.toArray, .int .i64 4]) ∧ Below w.heap.size w w' := by
  obtain ⟨t, ht⟩ : ∃ t : ByteArray, (⟨(strip s.data.toList).toArray⟩ : ByteArray) = t := ⟨_, rfl⟩
  have hts : t.size ≤ 100000 := by
    rw [← ht]
    show (strip s.data.toList).toArray.size ≤ _
    rw [List.size_toArray]
    have h1 : (strip s.data.toList).length ≤ s.data.toList.length := List.length_filter_le _ _
    have h2 : s.data.toList.length = s.size := by simp
    omega
  by_cases he : encS hexS 4 false (decS hexS 4 t) = t
  · by_cases hz : (decS hexS 4 t).size = 16
    · exact parse_other s t (decS hexS 4 t) 0 ht (by omega) w hM (fun W => Decode_ok hexS 4 false t W (.inl rfl) rfl hts he) hz (fun e => h _ ⟨by rw [← hz]; simp, e⟩)
    · exact parse_short s t (decS hexS 4 t) 0 ht (by omega) w hM (fun W => Decode_ok hexS 4 false t W (.inl rfl) rfl hts he) hz
  · exact parse_short s t ⟨#[]⟩ 4 ht (by omega) w hM (fun W => Decode_bad hexS 4 false t W (.inl rfl) rfl hts he) (by decide)
end Go.Proofs.YtdhplohppcndhaaGreatDoor

namespace Go.Proofs.YtdhplohppcndhaaGreatDoor
open Go.RowKit
set_option linter.unusedVariables false

/-- The bit of a text at a place, from the highest one on; nought behind it. -/
def bitOf (s : ByteArray) (p : Nat) : Nat := if p / 8 < s.size then (s.data.toList.getD (p / 8) 0).toNat / 2 ^ (7 - p % 8) % 2 else 0

theorem bitOf_lt (s : ByteArray) (p : Nat) : bitOf s p < 2 := by unfold bitOf; split <;> omega

set_option maxRecDepth 20000 in
set_option maxHeartbeats 400000 in
theorem bit_any (s : ByteArray) (p : Nat) (w : World) (hs : s.size ≤ 100000) (hp : p ≤ 1000000) :
    Calls Tryz.prog 43 #[.string s, .int .i64 p] w fun e w' => e = .returned (.int .i64 (bitOf s p : Nat)) ∧ w = w' := by
  by_cases hlt : p / 8 < s.size
  · have hb : bitOf s p = (s.data.toList.getD (p / 8) 0).toNat / 2 ^ (7 - p % 8) % 2 := by unfold bitOf; rw [if_pos hlt]
    have HB := Lib.hid hb
    obtain ⟨x, HX⟩ : ∃ x, Hid (s.data.toList.getD (p / 8) 0 = x) := ⟨_, Lib.hid rfl⟩
    have hx := UInt8.toNat_lt x
    have hidx := run_index_str (P := Tryz.prog) 9 s (p / 8) Tryz.underlying9 hlt
    rw [HX.out] at hidx
    have hdc : ((p / 8 : Nat) : Int) = (p : Int) / 8 := by simp
    rw [hdc] at hidx
    clear hb hdc
    go_enter Tryz.func43, Tryz.ntmps43
    go_wp2
    go_loop [5, 6] (fun n i => ∃ j : Nat, j ≤ 7 - p % 8 ∧ i = .int .i64 j ∧ n = .int .i64 ((x.toNat / 2 ^ j : Nat) : Int)) (fun _ i => 7 - (intOf i).toNat)
    case atStart => exact ⟨0, Nat.zero_le _, rfl, by simp⟩
    case round =>
      obtain ⟨j, hj, rfl, rfl⟩ := hrel
      obtain ⟨m, HM⟩ : ∃ m, Hid (x.toNat / 2 ^ j = m) := ⟨_, Lib.hid rfl⟩
      have hm : m < 256 := by rw [← HM.out]; exact Nat.lt_of_le_of_lt (Nat.div_le_self _ _) hx
      rw [HM.out]
      have hnext : ((x.toNat / 2 ^ (j + 1) : Nat) : Int) = (m : Int) / 2 := by
        rw [Nat.pow_succ, ← Nat.div_div_eq_div_mul, HM.out]; simp
      have HN := Lib.hid hnext
      clear hnext
      by_cases hlt2 : j < 7 - p % 8
      · go_wp2
        go_round
        case rel => exact ⟨j + 1, by omega, by go_num, by rw [HN.out]⟩
        case measure => simp [intOf]; omega
      · have hj7 : j = 7 - p % 8 := by omega
        have HJ := Lib.hid hj7
        clear hj7
        go_wp2
        go_ret
        refine ⟨ret_int ?_, rfl⟩
        rw [HB.out, HX.out, ← HJ.out, HM.out]
        omega
  · have hb : bitOf s p = 0 := by unfold bitOf; rw [if_neg hlt]
    rw [hb]
    clear hb
    go_enter Tryz.func43, Tryz.ntmps43
    go_wp2
    go_ret
    exact ⟨rfl, rfl⟩

/-- A byte of a number. -/
theorem getL_byte (l : List UInt8) (q : Nat) (hq : q < l.length) : (l.getD q 0).toNat = getL l / 256 ^ (l.length - 1 - q) % 256 := by
  have e : l = l.take q ++ (l[q] :: l.drop (q + 1)) := by simp
  have hd : (l.drop (q + 1)).length = l.length - 1 - q := by rw [List.length_drop]; omega
  have hg : l.getD q 0 = l[q] := by rw [List.getD_eq_getElem?_getD, List.getElem?_eq_getElem hq]; rfl
  have h1 : getL l = (getL (l.take q) * 256 + (l[q]).toNat) * 256 ^ (l.length - 1 - q) + getL (l.drop (q + 1)) := by
    have h2 : l.take q ++ (l[q] :: l.drop (q + 1)) = (l.take q ++ [l[q]]) ++ l.drop (q + 1) := by simp
    conv => lhs; rw [e, h2]
    rw [getL_append, getL_snoc, hd]
  have hlt := getL_lt (l.drop (q + 1))
  rw [hd] at hlt
  have hp : 0 < 256 ^ (l.length - 1 - q) := Nat.pow_pos (by omega)
  rw [hg, h1, Nat.mul_comm _ (256 ^ (l.length - 1 - q)), Nat.mul_add_div hp, Nat.div_eq_of_lt hlt]
  have := (l[q]).toNat_lt
  omega

theorem half0 (V a b P : Nat) (hP : P = a + b) (hb : 1 ≤ b) : V * 2 ^ P / 2 ^ a % 2 = 0 := by
  subst hP
  obtain ⟨c, rfl⟩ : ∃ c, b = c + 1 := ⟨b - 1, by omega⟩
  rw [Nat.pow_add, Nat.mul_left_comm, Nat.mul_div_cancel_left _ (Nat.pow_pos (by omega)), Nat.pow_succ, ← Nat.mul_assoc]
  omega

/-- A bit of the number whose digits are the letters' numbers. -/
theorem bitOf_num {k : Nat} (hk : 0 < k) (s : ByteArray) (p : Nat) (hp : p < k * mOf k s.size) :
    bitOf s p = getL s.data.toList * 2 ^ padOf k s.size / 2 ^ (k * mOf k s.size - 1 - p) % 2 := by
  have hl : s.data.toList.length = s.size := by simp
  have hT := padOf_eq hk s.size
  rw [hT] at hp ⊢
  unfold bitOf
  by_cases h : p / 8 < s.size
  · rw [if_pos h, getL_byte s.data.toList (p / 8) (by omega), hl]
    have e1 : 8 * s.size + padOf k s.size - 1 - p = padOf k s.size + (8 * s.size - 1 - p) := by omega
    rw [e1, Nat.pow_add, Nat.mul_comm (getL s.data.toList), Nat.mul_div_mul_left _ _ (Nat.pow_pos (by omega))]
    have e2 : 8 * s.size - 1 - p = 8 * (s.size - 1 - p / 8) + (7 - p % 8) := by omega
    rw [e2, Nat.pow_add, ← Nat.div_div_eq_div_mul, Nat.pow_mul]
    have e3 : (2 : Nat) ^ 8 = 256 := by decide
    rw [e3]
    generalize getL s.data.toList / 256 ^ (s.size - 1 - p / 8) = y
    have e4 : (256 : Nat) = 2 ^ (7 - p % 8) * 2 ^ (1 + p % 8) := by rw [← Nat.pow_add, show 7 - p % 8 + (1 + p % 8) = 8 by omega]
    rw [e4, Nat.mod_mul_right_div_self]
    exact Nat.mod_mod_of_dvd _ ⟨2 ^ (p % 8), by rw [Nat.pow_add]⟩
  · rw [if_neg h]
    exact (half0 _ (8 * s.size + padOf k s.size - 1 - p) (p + 1 - 8 * s.size) _ (by omega) (by omega)).symm

theorem bits_step (N e j : Nat) : N / 2 ^ e % 2 ^ (j + 1) = 2 * (N / 2 ^ (e + 1) % 2 ^ j) + N / 2 ^ e % 2 := by
  have h1 : (2 : Nat) ^ (j + 1) = 2 * 2 ^ j := Nat.pow_succ'
  have h2 : (2 : Nat) ^ (e + 1) = 2 ^ e * 2 := Nat.pow_succ _ _
  rw [h1, h2, Nat.mod_mul, Nat.div_div_eq_div_mul]
  omega

/-- The number of a group of bits under way. -/
def grp (k : Nat) (s : ByteArray) (g j : Nat) : Nat := getL s.data.toList * 2 ^ padOf k s.size / 2 ^ (k * mOf k s.size - k * g - j) % 2 ^ j
/-- The letters of the groups that are there. -/
def outL (L : ByteArray) (k : Nat) (s : ByteArray) (g : Nat) : List UInt8 := (dg (2 ^ k) (getL s.data.toList * 2 ^ padOf k s.size / 2 ^ (k * mOf k s.size - k * g)) g).map fun d => L.data.toList.getD d 0

theorem grp_step {k : Nat} (hk : 0 < k) (s : ByteArray) (g j : Nat) (hg : g < mOf k s.size) (hj : j < k) : grp k s g (j + 1) = 2 * grp k s g j + bitOf s (k * g + j) := by
  have h1 : k * (g + 1) ≤ k * mOf k s.size := Nat.mul_le_mul_left k hg
  rw [Nat.mul_add] at h1
  rw [bitOf_num hk s (k * g + j) (by omega)]
  unfold grp
  have e1 : k * mOf k s.size - k * g - (j + 1) = k * mOf k s.size - 1 - (k * g + j) := by omega
  have e2 : k * mOf k s.size - k * g - j = k * mOf k s.size - 1 - (k * g + j) + 1 := by omega
  rw [e1, e2]
  exact bits_step _ _ _

theorem grp_lt (k : Nat) (s : ByteArray) (g j : Nat) : grp k s g j < 2 ^ j := Nat.mod_lt _ (Nat.pow_pos (by omega))

theorem outL_step {k : Nat} (L : ByteArray) (s : ByteArray) (g : Nat) (hg : g < mOf k s.size) : outL L k s (g + 1) = outL L k s g ++ [L.data.toList.getD (grp k s g k) 0] := by
  have h1 : k * (g + 1) ≤ k * mOf k s.size := Nat.mul_le_mul_left k hg
  rw [Nat.mul_add] at h1
  unfold outL grp
  rw [dg_snoc, List.map_append, Nat.div_div_eq_div_mul, ← Nat.pow_add]
  have e1 : k * mOf k s.size - k * (g + 1) + k = k * mOf k s.size - k * g := by rw [Nat.mul_add]; omega
  have e2 : k * mOf k s.size - k * (g + 1) = k * mOf k s.size - k * g - k := by rw [Nat.mul_add]; omega
  rw [e1, e2]
  rfl

theorem outL_length (L : ByteArray) (k : Nat) (s : ByteArray) (g : Nat) : (outL L k s g).length = g := by unfold outL; rw [List.length_map, dg_length]

theorem outL_all (L : ByteArray) (k : Nat) (s : ByteArray) : outL L k s (mOf k s.size) = (encN k s.data.toList).map fun d => L.data.toList.getD d 0 := by
  unfold outL encN
  have hl : s.data.toList.length = s.size := by simp
  rw [hl]
  simp

theorem extract_one (L : ByteArray) (n : Nat) (h : n < L.size) : (L.extract n (n + 1)).data.toList = [L.data.toList.getD n 0] := by
  have hl : n < L.data.toList.length := by simpa using h
  rw [ByteArray.data_extract, Array.toList_extract, List.extract_eq_take_drop]
  rw [show n + 1 - n = 1 by omega, List.drop_eq_getElem_cons hl, List.getD_eq_getElem?_getD, List.getElem?_eq_getElem hl]
  rfl

/-- The length of a text, for a measure. -/
def lenStr : Value → Nat
  | .string s => s.size
  | _ => 0
theorem lenStr_str (s : ByteArray) : lenStr (.string s) = s.size := rfl

set_option maxRecDepth 20000 in
set_option maxHeartbeats 1000000 in
theorem refEncode_any (kind : Nat) (s : ByteArray) (w : World) (hkd : kind ≤ 2) (hs : s.size ≤ 20000) :
    Calls Tryz.prog 27 #[.int .i64 kind, .string s] w fun e w' => e = .returned (.string (encS (letS kind) (bitK kind) (filB kind) s)) ∧ w = w' := by
  obtain ⟨L, HL⟩ : ∃ L, Hid (letS kind = L) := ⟨_, Lib.hid rfl⟩
  obtain ⟨k, HK⟩ : ∃ k, Hid (bitK kind = k) := ⟨_, Lib.hid rfl⟩
  have hk46 : k = 4 ∨ k = 6 := by rw [← HK.out]; exact bit_k _
  have HLS : Hid (L.size = 2 ^ k) := by rw [← HL.out, ← HK.out]; exact Lib.hid (let_size _)
  have hk4 : 4 ≤ k := by omega
  have hk6 : k ≤ 6 := by omega
  have HK46 := Lib.hid hk46
  clear hk46
  go_enter Tryz.func27, Tryz.ntmps27
  go_wp2_with fail
  refine (refLetters_any kind _ hkd).mono ?_
  rintro e w1 ⟨rfl, rfl⟩
  rw [HL.out]
  go_wp2_with fail
  refine (refBits_any kind _ hkd).mono ?_
  rintro e w1 ⟨rfl, rfl⟩
  rw [HK.out]
  go_wp2_with fail
  obtain ⟨M, HM⟩ : ∃ M, Hid (mOf k s.size = M) := ⟨_, Lib.hid rfl⟩
  have hM1 := mOf_lt (by omega : 0 < k) s.size
  have hM2 := mOf_ge (by omega : 0 < k) s.size
  rw [HM.out] at hM1 hM2
  have HMM := Lib.hid (And.intro hM1 hM2)
  have hMs : M ≤ 50000 := by
    have h2 : 4 * M ≤ k * M := Nat.mul_le_mul_right _ hk4
    omega
  clear hM1 hM2
  go_loop [7, 8] (fun o i => ∃ (g i' : Nat) (ob : ByteArray), g ≤ M ∧ i = .int .i64 i' ∧ Hid (i' = k * g) ∧ o = .string ob ∧ Hid (ob.data.toList = outL L k s g)) (fun _ i => 8 * s.size + k - (intOf i).toNat)
  case atStart => exact ⟨0, 0, ⟨#[]⟩, Nat.zero_le _, rfl, by exact Lib.hid (by omega), rfl, by exact Lib.hid (by simp [outL, dg])⟩
  case round =>
    obtain ⟨g, i, o, hg, rfl, HI, rfl, HO⟩ := hrel
    have hos : o.size = g := by
      have h1 : o.data.toList.length = g := by rw [HO.out, outL_length]
      simpa using h1
    have hol : o.size ≤ 50000 := by omega
    have HOS := Lib.hid hos
    clear hos
    by_cases hlt : g < M
    · have hi8 : i < 8 * s.size := by
        have h1 : k * (g + 1) ≤ k * M := Nat.mul_le_mul_left k hlt
        have h2 := HMM.out.1
        rw [HI.out]; rw [Nat.mul_add] at h1; omega
      go_wp2_with fail
      go_loop [9, 10] (fun n j => ∃ (j' n' : Nat), j' ≤ k ∧ j = .int .i64 j' ∧ n = .int .i64 n' ∧ Hid (n' = grp k s g j')) (fun _ j => k - (intOf j).toNat)
      case atStart => exact ⟨0, 0, Nat.zero_le _, rfl, rfl, by exact Lib.hid (by unfold grp; simp [Nat.mod_one])⟩
      case round =>
        obtain ⟨j, n, hj, rfl, rfl, HN⟩ := hrel
        have hn64 : n < 64 := by
          rw [HN.out]
          exact Nat.lt_of_lt_of_le (grp_lt k s g j) (Nat.le_trans (Nat.pow_le_pow_right (by omega) (by omega : j ≤ 6)) (by decide))
        by_cases hlt2 : j < k
        · have hb2 := bitOf_lt s (i + j)
          obtain ⟨b, HB⟩ : ∃ b, Hid (bitOf s (i + j) = b) := ⟨_, Lib.hid rfl⟩
          rw [HB.out] at hb2
          have cB : Hid (∀ W : World, Calls Tryz.prog 43 #[.string s, .int .i64 ((i : Int) + (j : Int))] W fun e w' => e = .returned (.int .i64 (b : Int)) ∧ W = w') := fun W => by
            have h := bit_any s (i + j) W (by omega) (by omega)
            rw [HB.out, Int.natCast_add] at h
            exact h
          go_wp2_with fail
          refine (cB.out _).mono ?_
          rintro e w3 ⟨rfl, rfl⟩
          go_wp2_with fail
          go_round
          case rel =>
            refine ⟨j + 1, 2 * n + b, by omega, by go_num, by go_num, ?_⟩
            show _ = _
            rw [grp_step (by omega) s g j (by rw [HM.out]; exact hlt) hlt2, ← HN.out, ← HI.out, HB.out]
          case measure => simp [intOf]; omega
        · have hjk : j = k := by omega
          have HJ := Lib.hid hjk
          have hnL : n < L.size := by
            rw [HLS.out, HN.out, hjk]; exact grp_lt k s g k
          clear hjk
          go_wp2_with fail
          go_round
          case rel =>
            refine ⟨g + 1, i + k, o ++ L.extract n (n + 1), hlt, by rw [Int.natCast_add], ?_, rfl, ?_⟩
            · show _ = _
              rw [HI.out, Nat.mul_add, Nat.mul_one]
            · show _ = _
              rw [ByteArray.data_append, Array.toList_append, HO.out, extract_one L n hnL, outL_step L s g (by rw [HM.out]; exact hlt), HN.out, HJ.out]
          case measure => simp [intOf]; omega
    · have hi8 : ¬ i < 8 * s.size := by
        have h2 := HMM.out.2
        have hgM : g = M := by omega
        rw [HI.out, hgM]; omega
      have hob : Hid (o.data.toList = (encN k s.data.toList).map fun d => L.data.toList.getD d 0) := by
        have hgM : g = mOf k s.size := by rw [HM.out]; omega
        show _ = _
        rw [HO.out, hgM, outL_all]
      have hoM : Hid (o.size = M) := by
        show _ = _
        rw [HOS.out]; omega
      obtain ⟨N, HN⟩ : ∃ N, Hid (szA k (filB kind) s.size = N) := ⟨_, Lib.hid rfl⟩
      have hNf : Hid ((kind = 1 → N % 4 = 0 ∧ M ≤ N ∧ N < M + 4) ∧ (kind ≠ 1 → N = M)) := by
        have hM := HM.out
        have hN := HN.out
        have hK := HK.out
        unfold bitK at hK
        constructor
        · intro h
          subst h
          rw [if_neg (by omega)] at hK
          subst hK
          rw [← hM, ← hN]
          simp only [szA, mOf, filB, decide_true, Bool.true_and, decide_eq_true_eq]
          split <;> omega
        · intro h
          have hf : filB kind = false := by unfold filB; rw [decide_eq_false_iff_not]; exact h
          rw [hf] at hN
          rw [← hM, ← hN]
          rcases HK46.out with e | e
          · subst e; simp only [szA, mOf, Bool.false_and, Bool.false_eq_true, if_false]; omega
          · subst e; simp only [szA, mOf, Bool.false_and, Bool.false_eq_true, if_false]; omega
      have hres : Hid (∀ (o2 : ByteArray) (j : Nat), o2.data.toList = o.data.toList ++ List.replicate j 61 → M + j = N → o2 = encS (letS kind) (bitK kind) (filB kind) s) := by
        intro o2 j h1 h2
        rw [bytes_of_list h1, HL.out, HK.out]
        unfold encS encL
        have hl : s.data.toList.length = s.size := by simp
        rw [hl, HN.out, HM.out, hob.out]
        congr 3
        congr 1
        omega
      by_cases h1 : kind = 1
      · have hb1 : ((kind : Int) == 1) = true := by simp; omega
        have HF1 := Lib.hid (hNf.out.1 h1)
        have hN50 : N ≤ 60000 := by have := HF1.out; omega
        clear h1
        go_wp2_with fail
        go_loop [7] (fun v => ∃ (j : Nat) (o2 : ByteArray), v = .string o2 ∧ Hid (o2.data.toList = o.data.toList ++ List.replicate j 61) ∧ M + j ≤ N) (fun v => N - lenStr v)
        case atStart => exact ⟨0, o, rfl, by exact Lib.hid (by simp), by have := HF1.out; omega⟩
        case round =>
          obtain ⟨j, o2, rfl, HO2, hjN⟩ := hrel
          have hsz : o2.size = M + j := by
            have e : o2.data.toList.length = M + j := by
              have e2 : o.data.toList.length = M := by rw [Array.length_toList]; exact hoM.out
              rw [HO2.out, List.length_append, List.length_replicate, e2]
            rw [Array.length_toList] at e
            exact e
          have hszl : o2.size ≤ 60000 := by omega
          have HSZ := Lib.hid hsz
          clear hsz
          by_cases h4 : o2.size % 4 = 0
          · have hq : ((o2.size : Int) % 4 != 0) = false := by simp; omega
            have hend : M + j = N := by
              have h5 := HSZ.out
              have h6 := HF1.out
              omega
            have HE := Lib.hid (hres.out o2 j HO2.out hend)
            clear h4 hend
            go_wp2_with fail
            go_ret
            exact ⟨ret_str HE.out, rfl⟩
          · have hq : ((o2.size : Int) % 4 != 0) = true := by simp; omega
            have hlt9 : M + j < N := by
              have h5 := HSZ.out
              have h6 := HF1.out
              omega
            clear h4
            go_wp2_with fail
            go_round
            case rel =>
              refine ⟨j + 1, o2 ++ ⟨#[61]⟩, rfl, ?_, by omega⟩
              show _ = _
              rw [ByteArray.data_append, Array.toList_append, HO2.out, List.append_assoc, List.replicate_succ']
            case measure =>
              simp only [lenStr_str, ByteArray.size_append]
              have h7 : (ByteArray.mk #[61]).size = 1 := rfl
              have h5 := HSZ.out
              omega
      · have hb1 : ((kind : Int) == 1) = false := by simp; omega
        have HE := Lib.hid (hres.out o 0 (by simp) (by have := hNf.out.2 h1; omega))
        clear h1
        go_wp2_with fail
        go_loop [7] (fun v => v = .string o) (fun v => 0)
        case atStart => rfl
        case round =>
          subst hrel
          go_wp2_with fail
          go_ret
          exact ⟨ret_str HE.out, rfl⟩
end Go.Proofs.YtdhplohppcndhaaGreatDoor

namespace Go.Proofs.YtdhplohppcndhaaGreatDoor
open Go.RowKit
set_option linter.unusedVariables false

/-- The first k bytes, noughts behind. -/
def irow (l : List UInt8) (k : Nat) : List Value := (l.take k).map bv ++ List.replicate (16 - k) (.int .u8 0)
theorem irow_length (l : List UInt8) (hl : l.length = 16) {k : Nat} (h : k ≤ 16) : (irow l k).length = 16 := by unfold irow; simp [hl]; omega
theorem irow_set (l : List UInt8) (hl : l.length = 16) {k : Nat} (h : k < 16) (x : UInt8) (hx : l[k]? = some x) : (irow l k).set k (.int .u8 x.toNat) = irow l (k + 1) := by
  unfold irow
  have hk : ((l.take k).map bv).length = k := by simp [hl]; omega
  have e : 16 - k = (16 - (k + 1)) + 1 := by omega
  rw [e, List.replicate_succ, List.set_append_right _ _ (by omega), hk, Nat.sub_self, List.set_cons_zero, List.take_add_one, hx, List.map_append, List.append_assoc]
  rfl
theorem irow_all (l : List UInt8) (hl : l.length = 16) : irow l 16 = l.map bv := by
  unfold irow
  rw [List.take_of_length_le (by rw [hl]; exact Nat.le_refl _)]
  simp
theorem u8_info6 : (Tryz.prog.info? 5).map (fun i => (i.zero, i.size, i.bytes)) = some (some (.int .u8 0), 1, 1) := by kernel_rfl
theorem made16 : madeCells #[.int .u8 0] 16 = z16.toArray := by kernel_rfl

set_option maxRecDepth 20000 in
set_option maxHeartbeats 2000000 in
theorem raw_any (l : List UInt8) (hl : l.length = 16) (w : World) :
    Calls Tryz.prog 28 #[.agg (l.map bv).toArray] w fun e w' => e = .returned (.string ⟨l.toArray⟩) ∧ Below w.heap.size w w' := by
  obtain ⟨i0, hi0, hz0, hz1, hz2⟩ := info_parts u8_info6
  have hmk : ∀ W : World, (Instr.makeSlice 44 (.int .i64 16) (.int .i64 16)).run Tryz.prog W = .ok (.slice (some ⟨W.heap.size, 0, none⟩) 16 16) (W.alloc (.cells z16.toArray 5)) := fun W => by
    rw [← made16]
    exact run_make_row 44 5 i0 (.int .u8 0) Tryz.underlying44 hi0 hz0 hz1 rfl .i64 .i64 16 (by rw [hz2]; decide) (by decide) W
  have h := hmk (w.alloc (.cells (l.map bv).toArray 23))
  rw [World.size_alloc] at h
  have r0 := (Row.new w 23 (l.map bv)).alloc (.cells z16.toArray 5)
  have r1 := Row.new (w.alloc (.cells (l.map bv).toArray 23)) 5 z16
  rw [World.size_alloc] at r1
  have b1 : Below w.heap.size w ((w.alloc (.cells (l.map bv).toArray 23)).alloc (.cells z16.toArray 5)) := ((Below.refl _ _).alloc (Nat.le_refl _) _).alloc (by simp) _
  obtain ⟨C, hC⟩ : ∃ C, l.map bv = C := ⟨_, rfl⟩
  have hcg : ∀ (k : Nat) (x : UInt8), l[k]? = some x → C[k]? = some (Value.int .u8 x.toNat) := by
    intro k x hx
    rw [← hC, List.getElem?_map, hx]; rfl
  rw [hC] at h r0 r1 b1 ⊢
  have HC := Lib.hid (And.intro hcg hl)
  have H := Lib.hid (And.intro r0 (And.intro r1 b1))
  clear hmk hi0 hz0 hz1 hz2 r0 r1 b1 hC hl hcg
  go_enter Tryz.func28, Tryz.ntmps28
  go_wp2
  obtain ⟨r0, r1, b1⟩ := H.out
  generalize (w.alloc (.cells C.toArray 23)).alloc (.cells z16.toArray 5) = w1 at r0 r1 b1 ⊢
  clear h H
  go_loopw [4] (fun i wr => ∃ k : Nat, k ≤ 16 ∧ i = .int .i64 k ∧ Row wr (w.heap.size + 1) 5 (irow l k) ∧ Row wr w.heap.size 23 C ∧ Below w.heap.size w wr) (fun i _ => 16 - (intOf i).toNat)
  case atStart => exact ⟨0, Nat.zero_le _, rfl, r1, r0, b1⟩
  case round =>
    obtain ⟨k, hk, rfl, h1, h3, h2⟩ := hrel
    clear r1 r0 b1
    by_cases hlt : k < 16
    · obtain ⟨x, hx⟩ : ∃ x, l[k]? = some x := ⟨_, List.getElem?_eq_getElem (by rw [HC.out.2]; exact hlt)⟩
      have hcx : wr.cell? ⟨w.heap.size, k, none⟩ = some (.int .u8 (x.toNat : Int)) := by rw [h3.cell]; exact HC.out.1 k x hx
      obtain ⟨v0, hc0⟩ : ∃ v, wr.cell? ⟨w.heap.size + 1, k, none⟩ = some v := by
        rw [h1.cell]; exact ⟨_, List.getElem?_eq_getElem (by rw [irow_length l HC.out.2 hk]; exact hlt)⟩
      have hf0 := h1.frozen k
      have hs1 := h1.set k (.int .u8 (x.toNat : Int))
      rw [irow_set l HC.out.2 hlt x hx] at hs1
      have hs2 := h2.setCell (p := ⟨w.heap.size + 1, k, none⟩) (by show w.heap.size ≤ w.heap.size + 1; omega) (.int .u8 (x.toNat : Int))
      have hs3 := h3.far (p := ⟨w.heap.size + 1, k, none⟩) (by show w.heap.size ≠ w.heap.size + 1; omega) (.int .u8 (x.toNat : Int))
      have H := Lib.hid (And.intro hs1 (And.intro hs3 hs2))
      have hkI : (k : Int) < 16 := by omega
      clear hs1 hs2 hs3 h1 h2 h3 hx
      go_wp2
      go_roundw
      case rel => exact ⟨k + 1, by omega, by go_num, H.out.1, H.out.2.1, H.out.2.2⟩
      case measure => simp [intOf]; omega
    · have hk2 : k = 16 := by omega
      rw [hk2, irow_all l HC.out.2] at h1
      have hge : 16 ≤ k := by omega
      have hcv := conv_bytes (P := Tryz.prog) wr 44 9 5 Tryz.underlying44 Tryz.underlying5 Tryz.underlying9 (w.heap.size + 1) 0 16 16 l HC.out.2 (fun i hi => by
        rw [Nat.zero_add, h1.cell])
      have H := Lib.hid h2
      clear hk2 hlt hk h1 h2 h3
      go_wp2
      go_ret
      exact ⟨rfl, H.out⟩

set_option maxRecDepth 20000 in
set_option maxHeartbeats 2000000 in
theorem of_any (s : ByteArray) (hs : s.size = 16) (w : World) :
    Calls Tryz.prog 26 #[.string s] w fun e w' => e = .returned (.agg (s.data.toList.map bv).toArray) ∧ Below w.heap.size w w' := by
  have hz := (zero_of_info u16_info).1
  have hl : s.data.toList.length = 16 := by rw [← hs]; simp
  obtain ⟨l, hll⟩ : ∃ l, s.data.toList = l := ⟨_, rfl⟩
  have hget : ∀ k (h : k < s.size), l[k]? = some s[k] := fun k h => by
    rw [← hll, Array.getElem?_toList, Array.getElem?_eq_getElem h]; rfl
  rw [hll] at hl ⊢
  have r0 := (Row.new w 23 z16).alloc (.cells z16.toArray 23)
  have r1 := Row.new (w.alloc (.cells z16.toArray 23)) 23 z16
  rw [World.size_alloc] at r1
  have b1 : Below w.heap.size w ((w.alloc (.cells z16.toArray 23)).alloc (.cells z16.toArray 23)) := ((Below.refl _ _).alloc (Nat.le_refl _) _).alloc (by simp) _
  have H := Lib.hid (And.intro r0 (And.intro r1 b1))
  have HL := Lib.hid (And.intro hl (And.intro hget hs))
  have hsI : (16 : Int) ≤ (s.size : Int) := by omega
  clear hll hl hget hs r0 r1 b1
  go_enter Tryz.func26, Tryz.ntmps26
  go_wp2
  obtain ⟨r0, r1, b1⟩ := H.out
  generalize (w.alloc (.cells z16.toArray 23)).alloc (.cells z16.toArray 23) = w1 at r0 r1 b1 ⊢
  clear H
  go_loopw [4] (fun i wr => ∃ k : Nat, k ≤ 16 ∧ i = .int .i64 k ∧ Row wr (w.heap.size + 1) 23 (irow l k) ∧ Row wr w.heap.size 23 z16 ∧ Below w.heap.size w wr) (fun i _ => 16 - (intOf i).toNat)
  case atStart => exact ⟨0, Nat.zero_le _, rfl, r1, r0, b1⟩
  case round =>
    obtain ⟨k, hk, rfl, h1, h3, h2⟩ := hrel
    clear r1 r0 b1
    by_cases hlt : k < 16
    · have hks : k < s.size := by omega
      obtain ⟨x, hx⟩ : ∃ x, s[k] = x := ⟨_, rfl⟩
      have hlx := HL.out.2.1 k hks
      rw [hx] at hlx
      obtain ⟨v0, hc0⟩ : ∃ v, wr.cell? ⟨w.heap.size + 1, k, none⟩ = some v := by
        rw [h1.cell]; exact ⟨_, List.getElem?_eq_getElem (by rw [irow_length l HL.out.1 hk]; exact hlt)⟩
      have hf0 := h1.frozen k
      have hs1 := h1.set k (.int .u8 (x.toNat : Int))
      rw [irow_set l HL.out.1 hlt x hlx] at hs1
      have hs2 := h2.setCell (p := ⟨w.heap.size + 1, k, none⟩) (by show w.heap.size ≤ w.heap.size + 1; omega) (.int .u8 (x.toNat : Int))
      have hs3 := h3.far (p := ⟨w.heap.size + 1, k, none⟩) (by show w.heap.size ≠ w.heap.size + 1; omega) (.int .u8 (x.toNat : Int))
      have H := Lib.hid (And.intro hs1 (And.intro hs3 hs2))
      have hkI : (k : Int) < 16 := by omega
      clear hs1 hs2 hs3 h1 h2 h3 hlx
      go_wp2
      go_roundw
      case rel => exact ⟨k + 1, by omega, by go_num, H.out.1, H.out.2.1, H.out.2.2⟩
      case measure => simp [intOf]; omega
    · have hk2 : k = 16 := by omega
      rw [hk2, irow_all l HL.out.1] at h1
      have hge : 16 ≤ k := by omega
      have hone := one_bytes l
      obtain ⟨C, hC⟩ : ∃ C, l.map bv = C := ⟨_, rfl⟩
      have hCl : C.length = 16 := by rw [← hC, List.length_map, HL.out.1]
      rw [hC] at h1 hone
      have HO := Lib.hid (And.intro hone (And.intro hCl hC))
      clear hk2 hlt hk hone hC hCl
      go_wp2_with (first
        | (refine wpList_load_row rfl 23 (.tmp 3) rfl (w.heap.size + 1) rfl 23 C.toArray (0, 0) _ h1 Tryz.underlying23 rfl (by rw [u16_size, List.size_toArray, HO.out.2.1]) ?_)
        | (refine wpList_store_row rfl 23 (.tmp 2) (.tmp 14) rfl w.heap.size C.toArray rfl rfl 23 z16.toArray h3 (by rw [u16_size, List.size_toArray, HO.out.2.1]) (by rw [List.size_toArray, List.size_toArray, HO.out.2.1]; rfl) HO.out.1 ?_))
      have hr := h3.put C
      have hbs := below_setRow (B := w.heap.size) h2 (Nat.le_refl _) C.toArray
      exact bodyPost_ret (v := .agg C.toArray) (results_cell_row rfl _ _ w.heap.size 23 C.toArray (0, 0) _ rfl hr Tryz.underlying23 rfl (by rw [u16_size, List.size_toArray, HO.out.2.1])) rfl ⟨by rw [HO.out.2.2], hbs⟩
end Go.Proofs.YtdhplohppcndhaaGreatDoor

namespace Go.Proofs.YtdhplohppcndhaaGreatDoor
open Go.RowKit
set_option linter.unusedVariables false

theorem ix_nil (c : UInt8) (l : List UInt8) (j : Nat) (hj : ∀ i, i < j → l[i]? ≠ some c) (hl : l[j]? = some c) : Lib.indexByte l c = j := by
  have hge := Lib.indexByte_ge l c
  rcases (by omega : Lib.indexByte l c = -1 ∨ 0 ≤ Lib.indexByte l c) with h | h
  · exact absurd hl (Lib.indexByte_none h j)
  · obtain ⟨o, ho⟩ := Int.eq_ofNat_of_zero_le h
    obtain ⟨h1, h2⟩ := Lib.indexByte_some ho
    rw [ho]
    have : o = j := by
      rcases Nat.lt_trichotomy o j with h3 | h3 | h3
      · exact absurd h1 (hj o h3)
      · exact h3
      · exact absurd hl (h2 j h3)
    rw [this]

theorem ix_none (c : UInt8) (l : List UInt8) (hj : ∀ i, i < l.length → l[i]? ≠ some c) : Lib.indexByte l c = -1 := by
  have hge := Lib.indexByte_ge l c
  rcases (by omega : Lib.indexByte l c = -1 ∨ 0 ≤ Lib.indexByte l c) with h | h
  · exact h
  · obtain ⟨o, ho⟩ := Int.eq_ofNat_of_zero_le h
    obtain ⟨h1, _⟩ := Lib.indexByte_some ho
    have h2 : o < l.length := by
      rcases Nat.lt_or_ge o l.length with h3 | h3
      · exact h3
      · rw [List.getElem?_eq_none h3] at h1; cases h1
    exact absurd h1 (hj o h2)

set_option maxRecDepth 20000 in
set_option maxHeartbeats 400000 in
theorem refIndex_any (L : ByteArray) (c : UInt8) (w : World) (hs : L.size ≤ 1000) :
    Calls Tryz.prog 42 #[.string L, .int .u8 c.toNat] w fun e w' => e = .returned (.int .i64 (ixI L c)) ∧ w = w' := by
  have hc := UInt8.toNat_lt c
  go_enter Tryz.func42, Tryz.ntmps42
  go_wp2
  go_loop [5] (fun i => ∃ j : Nat, j ≤ L.size ∧ i = .int .i64 j ∧ Hid (∀ i, i < j → L.data.toList[i]? ≠ some c)) (fun i => L.size - (intOf i).toNat)
  case atStart => exact ⟨0, Nat.zero_le _, rfl, fun i hi => by omega⟩
  case round =>
    obtain ⟨j, hj, rfl, HJ⟩ := hrel
    by_cases hlt : j < L.size
    · have hg : L.data.toList[j]? = some L[j] := by
        rw [List.getElem?_eq_getElem (by simpa using hlt)]; rfl
      have HG := Lib.hid hg
      clear hg
      by_cases he : L[j] = c
      · have hb : (((L[j]).toNat : Int) == (c.toNat : Int)) = true := by rw [he]; simp
        have hr : Hid (ixI L c = j) := ix_nil c _ j HJ.out (by rw [HG.out, he])
        clear he
        go_wp2
        go_ret
        exact ⟨ret_int hr.out.symm, rfl⟩
      · have hb : (((L[j]).toNat : Int) == (c.toNat : Int)) = false := by
          rw [beq_eq_false_iff_ne]
          intro h
          apply he
          exact UInt8.toNat_inj.mp (by omega)
        have hnext : Hid (∀ i, i < j + 1 → L.data.toList[i]? ≠ some c) := by
          intro i hi h
          rcases (by omega : i < j ∨ i = j) with h1 | h1
          · exact HJ.out i h1 h
          · subst h1; rw [HG.out] at h; exact he (Option.some.inj h)
        clear he
        go_wp2
        go_round
        case rel => exact ⟨j + 1, by omega, by go_num, hnext⟩
        case measure => simp [intOf]; omega
    · have hr : Hid (ixI L c = -1) := ix_none c _ (fun i hi => HJ.out i (by rw [Array.length_toList] at hi; have : i < L.size := hi; omega))
      go_wp2
      go_ret
      exact ⟨ret_int hr.out.symm, rfl⟩

/-- What holds of the reading bit by bit: of a number X of b bits q bytes are there, c bits are held. -/
def BitSt (X b B : Nat) (w0 : World) (v : Value) (h c q : Nat) (wr : World) : Prop :=
  b = 8 * q + c ∧ c < 8 ∧ h = X % 2 ^ c ∧ wr.ownsRow B 5 1 v q ((putL (X / 2 ^ c) q).map bv) ∧ Below w0.heap.size w0 wr ∧ B ≤ wr.heap.size

theorem BitSt.small {X b B : Nat} {w0 : World} {v : Value} {h c q β : Nat} {wr : World} (H : BitSt X b B w0 v h c q wr) (hβ : β < 2) (hc : c + 1 < 8) : BitSt (2 * X + β) (b + 1) B w0 v (2 * h + β) (c + 1) q wr := by
  obtain ⟨e1, e2, e3, e4, e5, e6⟩ := H
  have p : (2 : Nat) ^ (c + 1) = 2 * 2 ^ c := Nat.pow_succ'
  refine ⟨by omega, hc, ?_, ?_, e5, e6⟩
  · rw [p, Nat.mod_mul, e3]
    have h1 : (2 * X + β) % 2 = β := by omega
    have h2 : (2 * X + β) / 2 = X := by omega
    rw [h1, h2]; omega
  · have h2 : (2 * X + β) / 2 ^ (c + 1) = X / 2 ^ c := by
      rw [p, ← Nat.div_div_eq_div_mul]
      congr 1; omega
    rw [h2]; exact e4

theorem BitSt.byte {X b B : Nat} {w0 : World} {v v' : Value} {h q β : Nat} {wr w3 : World} {cs : Array Value} (H : BitSt X b B w0 v h 7 q wr) (hβ : β < 2) (hw : w0.heap.size ≤ B)
    (hgrow : (wr.alloc (.cells cs 5)).grownBy w3 v.ownBlock)
    (hown : w3.ownsRow B 5 1 v' (q + 1) ((putL (X / 2 ^ 7) q).map bv ++ [.int .u8 (UInt8.ofNat (2 * h + β)).toNat])) : BitSt (2 * X + β) (b + 1) B w0 v' 0 0 (q + 1) w3 := by
  obtain ⟨e1, e2, e3, e4, e5, e6⟩ := H
  have hz : (wr.alloc (.cells cs 5)).heap.size = wr.heap.size + 1 := by simp
  refine ⟨by omega, by omega, by simp [Nat.mod_one], ?_, ?_, ?_⟩
  · have hq : putL ((2 * X + β) / 2 ^ 0) (q + 1) = putL (X / 2 ^ 7) q ++ [UInt8.ofNat (2 * h + β)] := by
      rw [putL, Nat.pow_zero, Nat.div_one]
      have h1 : (2 * X + β) / 256 = X / 2 ^ 7 := by
        have : (2 : Nat) ^ 7 = 128 := by decide
        rw [this]; omega
      have h2 : (2 * X + β) % 256 = 2 * h + β := by
        have : (2 : Nat) ^ 7 = 128 := by decide
        rw [this] at e3; omega
      rw [h1, h2]
    rw [hq, List.map_append]
    exact hown
  · refine (e5.alloc e5.size _).grown hgrow (by rw [hz]; have := e5.size; omega) (fun i e => ?_)
    have := (e4.lt i e).1
    omega
  · have := hgrow.size
    omega

/-- A bit of a letter's number. -/
theorem letter_bits (v k p : Nat) (hp : p < k) : v / 2 ^ (k - (p + 1)) = 2 * (v / 2 ^ (k - p)) + v / 2 ^ (k - 1 - p) % 2 := by
  have e1 : k - (p + 1) = k - 1 - p := by omega
  have e2 : k - p = (k - 1 - p) + 1 := by omega
  rw [e1, e2, Nat.pow_succ, ← Nat.div_div_eq_div_mul]
  omega

/-- A letter that is none, ahead of what fills up: the text is no writing. -/
theorem bad_letter (kind : Nat) (t D : ByteArray) (L : ByteArray) (k : Nat) (hk : k = 4 ∨ k = 6) (hk1 : kind = 1 → k = 6) (hix : ∀ d, d < 2 ^ k → ixI L (L.data.toList.getD d 0) = d) (i m : Nat) (hi : i < m) (hm : m ≤ t.size)
    (hneg : ixI L (t[i]'(by omega)) < 0) (hT : ∀ i, m ≤ i → i < t.size → kind = 1 ∧ t.data.toList.getD i 0 = 61) (hend : m = 0 ∨ kind ≠ 1 ∨ t.data.toList.getD (m - 1) 0 ≠ 61) : encS L k (filB kind) D ≠ t := by
  intro e
  have hl : t.data.toList = encL L k (filB kind) D.data.toList := by rw [← e]; rfl
  have hDl : D.data.toList.length = D.size := by simp
  have hlen : t.size = mOf k D.size + (szA k (filB kind) D.size - mOf k D.size) := by
    have h1 : t.data.toList.length = t.size := by simp
    rw [← h1, hl]
    unfold encL
    rw [List.length_append, List.length_map, encN_length, List.length_replicate, hDl]
  have hge : mOf k D.size ≤ i := by
    rcases Nat.lt_or_ge i (mOf k D.size) with h | h
    · exfalso
      have h2 : i < (encN k D.data.toList).length := by rw [encN_length, hDl]; exact h
      have h3 : t.data.toList[i]? = some (L.data.toList.getD ((encN k D.data.toList)[i]) 0) := by
        rw [hl]
        unfold encL
        rw [List.getElem?_append_left (by rw [List.length_map]; exact h2), List.getElem?_map, List.getElem?_eq_getElem h2]
        rfl
      have h4 : t.data.toList[i]? = some (t[i]'(by omega)) := by
        rw [List.getElem?_eq_getElem (by rw [Array.length_toList]; show i < t.size; omega)]; rfl
      rw [h4] at h3
      have h5 := Option.some.inj h3
      rw [h5, hix _ (encN_lt k _ _ (List.getElem_mem h2))] at hneg
      omega
    · exact h
  have hfill : ∀ j, mOf k D.size ≤ j → j < t.size → t.data.toList.getD j 0 = 61 := by
    intro j h1 h2
    rw [hl]
    unfold encL
    rw [List.getD_eq_getElem?_getD, List.getElem?_append_right (by rw [List.length_map, encN_length, hDl]; exact h1), List.length_map, encN_length, hDl, List.getElem?_replicate, if_pos (by omega)]
    rfl
  rcases hend with h | h | h
  · omega
  · have h0 : szA k (filB kind) D.size ≤ mOf k D.size := by
      have hf : filB kind = false := by unfold filB; rw [decide_eq_false_iff_not]; exact h
      rw [hf]
      rcases hk with e | e
      · subst e; simp only [szA, mOf, Bool.false_and, Bool.false_eq_true, if_false]; omega
      · subst e; simp only [szA, mOf, Bool.false_and, Bool.false_eq_true, if_false]; omega
    omega
  · exact h (hfill (m - 1) (by omega) (by omega))

/-- What fills up is no letter. -/
theorem rest_none {kind_ : Nat} (L t : ByteArray) (m : Nat) (hT : ∀ i, m ≤ i → i < t.size → kind_ = 1 ∧ t.data.toList.getD i 0 = 61) (hf : ixI L 61 < 0) : preN L (t.data.toList.drop m) = [] := by
  rcases Nat.lt_or_ge m t.size with h | h
  · have h1 := (hT m (Nat.le_refl _) h).2
    have hl : m < t.data.toList.length := by rw [Array.length_toList]; exact h
    rw [List.drop_eq_getElem_cons hl]
    have h2 : t.data.toList[m] = 61 := by
      rw [← h1, List.getD_eq_getElem?_getD, List.getElem?_eq_getElem hl]; rfl
    rw [h2, preN, if_neg (by omega)]
  · rw [List.drop_of_length_le (by rw [Array.length_toList]; exact h)]
    rfl

/-- What is read: behind a name, that a walk doesn't look into it. -/
def DecPost (kind : Nat) (t : ByteArray) (e : Ending) : Prop := ∃ (x : ByteArray) (ok : Bool), e = .returned (.tuple #[.string x, .bool ok]) ∧
      Hid ((ok = true → x = decS (letS kind) (bitK kind) t ∧ encS (letS kind) (bitK kind) (filB kind) (decS (letS kind) (bitK kind) t) = t) ∧ (ok = false → encS (letS kind) (bitK kind) (filB kind) (decS (letS kind) (bitK kind) t) ≠ t)) ∧ Hid (kind = 0 → x = if (preN (letS kind) t.data.toList).length = t.size then decS (letS kind) (bitK kind) t else ⟨#[]⟩)


set_option maxRecDepth 20000 in
set_option maxHeartbeats 2000000 in
theorem refDecode_det (kind : Nat) (t : ByteArray) (w : World) (hkd : kind ≤ 2) (hs : t.size ≤ 10000) :
    Calls Tryz.prog 25 #[.int .i64 kind, .string t] w fun e w' => DecPost kind t e ∧ Below w.heap.size w w' := by
  obtain ⟨i0, hi0, hz0, hz1, hz2⟩ := info_parts u8_info
  obtain ⟨L, HL⟩ : ∃ L, Hid (letS kind = L) := ⟨_, Lib.hid rfl⟩
  obtain ⟨k, HK⟩ : ∃ k, Hid (bitK kind = k) := ⟨_, Lib.hid rfl⟩
  have hk46 : k = 4 ∨ k = 6 := by rw [← HK.out]; exact bit_k _
  have HLS : Hid (L.size = 2 ^ k) := by rw [← HL.out, ← HK.out]; exact Lib.hid (let_size _)
  have hk4 : 4 ≤ k := by omega
  have hk6 : k ≤ 6 := by omega
  have hLs : L.size ≤ 1000 := by
    rw [HLS.out]
    exact Nat.le_trans (Nat.pow_le_pow_right (by omega) hk6) (by decide)
  have HK46 := Lib.hid hk46
  clear hk46
  go_enter Tryz.func25, Tryz.ntmps25
  go_wp2_with fail
  refine (refLetters_any kind _ hkd).mono ?_
  rintro e w1 ⟨rfl, rfl⟩
  rw [HL.out]
  go_wp2_with fail
  refine (refBits_any kind _ hkd).mono ?_
  rintro e w1 ⟨rfl, rfl⟩
  rw [HK.out]
  go_wp2_with fail
  go_loop [8] (fun n => ∃ m : Nat, m ≤ t.size ∧ n = .int .i64 m ∧ Hid (∀ i, m ≤ i → i < t.size → kind = 1 ∧ t.data.toList.getD i 0 = 61)) (fun n => (intOf n).toNat)
  case atStart => exact ⟨t.size, Nat.le_refl _, rfl, fun i h1 h2 => by omega⟩
  case round =>
    obtain ⟨m, hm, rfl, HT⟩ := hrel
    by_cases hcont : kind = 1 ∧ 0 < m ∧ t.data.toList.getD (m - 1) 0 = 61
    · obtain ⟨h1, h2, h3⟩ := hcont
      have hb1 : ((kind : Int) == 1) = true := by simp; omega
      have hidx := run_index_str (P := Tryz.prog) 9 t (m - 1) Tryz.underlying9 (by omega)
      rw [h3] at hidx
      have hcast : ((m - 1 : Nat) : Int) = (m : Int) - 1 := by omega
      rw [hcast] at hidx
      have hnext : Hid (∀ i, m - 1 ≤ i → i < t.size → kind = 1 ∧ t.data.toList.getD i 0 = 61) := by
        intro i h4 h5
        rcases (by omega : i = m - 1 ∨ m ≤ i) with h6 | h6
        · subst h6; exact ⟨h1, h3⟩
        · exact HT.out i h6 h5
      have HC := Lib.hid hcast
      clear h1 h3 hcast
      go_wp2_with fail
      go_round
      case rel => exact ⟨m - 1, by omega, by rw [HC.out], hnext⟩
      case measure => simp [intOf]; omega
    · have hm0 : m ≤ 10000 := by omega
      rcases (by
        by_cases h1 : kind = 1
        · rcases Nat.eq_zero_or_pos m with h | h
          · exact .inr (.inl ⟨h1, h⟩)
          · exact .inr (.inr ⟨h1, h, fun e => hcont ⟨h1, h, e⟩⟩)
        · exact .inl h1 : kind ≠ 1 ∨ (kind = 1 ∧ m = 0) ∨ (kind = 1 ∧ 0 < m ∧ t.data.toList.getD (m - 1) 0 ≠ 61)) with h | ⟨h1, h⟩ | ⟨h1, h2, h3⟩
      case' inl =>
        have hb1 : ((kind : Int) == 1) = false := by simp; omega
        have HEND : Hid (m = 0 ∨ kind ≠ 1 ∨ t.data.toList.getD (m - 1) 0 ≠ 61) := .inr (.inl h)
        clear h hcont
        go_wp2_with fail
      case' inr.inl =>
        have hle : m ≤ 0 := by omega
        have hb1 : ((kind : Int) == 1) = true := by simp; omega
        have hd0 : decide (0 < m) = false := by simp; omega
        have HEND : Hid (m = 0 ∨ kind ≠ 1 ∨ t.data.toList.getD (m - 1) 0 ≠ 61) := .inl h
        clear h h1 hcont
        go_wp2_with fail
        clear hle hd0
      case' inr.inr =>
        have hb1 : ((kind : Int) == 1) = true := by simp; omega
        have hidx := run_index_str (P := Tryz.prog) 9 t (m - 1) Tryz.underlying9 (by omega)
        obtain ⟨y, HY⟩ : ∃ y, Hid (t.data.toList.getD (m - 1) 0 = y) := ⟨_, Lib.hid rfl⟩
        rw [HY.out] at hidx h3
        have hcast : ((m - 1 : Nat) : Int) = (m : Int) - 1 := by omega
        rw [hcast] at hidx
        have hb2 : ((y.toNat : Int) == 61) = false := by
          rw [beq_eq_false_iff_ne]
          intro e
          apply h3
          exact UInt8.toNat_inj.mp (by show y.toNat = 61; omega)
        have HEND : Hid (m = 0 ∨ kind ≠ 1 ∨ t.data.toList.getD (m - 1) 0 ≠ 61) := .inr (.inr (by rw [HY.out]; exact h3))
        clear h1 h3 hcont hcast
        go_wp2_with fail
        clear hidx hb2
      all_goals
        go_loopw [9, 10, 11, 12] (fun v h c i wr => ∃ (i' h' c' q : Nat) (ds : List Nat), i' ≤ m ∧ i = .int .i64 i' ∧ h = .int .i64 h' ∧ c = .int .i64 c' ∧ Hid (ds.length = i' ∧ (∀ d ∈ ds, d < 2 ^ k) ∧ preN L t.data.toList = ds ++ preN L (t.data.toList.drop i') ∧ BitSt (ug (2 ^ k) ds) (k * i') w.heap.size w v h' c' q wr))
          (fun _ _ _ i _ => m - (intOf i).toNat)
        case atStart => exact ⟨0, 0, 0, 0, [], Nat.zero_le _, rfl, rfl, rfl, by exact Lib.hid ⟨rfl, by simp, by simp, by omega, by omega, by simp [ug], World.ownsRow_nil _ _ _ _, Below.refl _ _, Nat.le_refl _⟩⟩
        case round =>
          obtain ⟨i, h, c, q, ds, hi, rfl, rfl, rfl, HST⟩ := hrel
          by_cases hlt : i < m
          · have hit : i < t.size := by omega
            by_cases hneg : ixI L t[i] < 0
            · have HPL : Hid ((preN L t.data.toList).length = i) := by
                show _ = _
                rw [HST.out.2.2.1, List.length_append, HST.out.1, drop_cons t i hit, preN, if_neg (by omega), List.length_nil, Nat.add_zero]
              have cI : Hid (∀ W : World, Calls Tryz.prog 42 #[.string L, .int .u8 (t[i]).toNat] W fun e w' => e = .returned (.int .i64 (ixI L t[i])) ∧ W = w') := fun W => refIndex_any L t[i] W hLs
              have HBAD : Hid (encS L k (filB kind) (decS L k t) ≠ t) := bad_letter kind t (decS L k t) L k (HK46.out) (by intro h1; rw [← HK.out]; unfold bitK; rw [if_neg (by omega)]) (fun d hd => by rw [← HL.out]; exact let_ix kind d (by rw [HK.out]; exact hd)) i m hlt hm hneg HT.out HEND.out
              go_wp2_with fail
              refine (cI.out _).mono ?_
              rintro e w3 ⟨rfl, rfl⟩
              go_wp2_with fail
              go_ret2
              refine ⟨?_, HST.out.2.2.2.2.2.2.2.1⟩
              unfold DecPost
              refine ⟨⟨#[]⟩, false, rfl, ?_, ?_⟩
              · rw [HL.out, HK.out]
                exact Lib.hid ⟨(fun h => by cases h), fun _ => HBAD.out⟩
              · rw [HL.out, HK.out]
                exact Lib.hid (fun _ => by rw [if_neg (by rw [HPL.out]; omega)])
            · obtain ⟨d, hd⟩ := Int.eq_ofNat_of_zero_le (Int.not_lt.mp hneg)
              have hdl : d < 2 ^ k := by have := ix_lt hd; rwa [HLS.out] at this
              have hd64 : d < 64 := Nat.lt_of_lt_of_le hdl (Nat.le_trans (Nat.pow_le_pow_right (by omega) hk6) (by decide))
              have cI : Hid (∀ W : World, Calls Tryz.prog 42 #[.string L, .int .u8 (t[i]).toNat] W fun e w' => e = .returned (.int .i64 (d : Int)) ∧ W = w') := fun W => by
                rw [← hd]; exact refIndex_any L t[i] W hLs
              have hpre2 : Hid ((ds ++ [d]).length = i + 1 ∧ (∀ x ∈ ds ++ [d], x < 2 ^ k) ∧ preN L t.data.toList = (ds ++ [d]) ++ preN L (t.data.toList.drop (i + 1))) := by
                refine ⟨by rw [List.length_append, HST.out.1]; rfl, fun x hx => ?_, ?_⟩
                · rcases List.mem_append.mp hx with h1 | h1
                  · exact HST.out.2.1 x h1
                  · rw [List.mem_singleton.mp h1]; exact hdl
                · rw [HST.out.2.2.1, drop_cons t i hit, preN, if_pos (by omega), hd, List.append_assoc]; rfl
              have HDL := Lib.hid hdl
              clear hneg hd hdl
              go_wp2_with fail
              refine (cI.out _).mono ?_
              rintro e w3 ⟨rfl, rfl⟩
              go_wp2_with fail
              go_loopw [9, 10, 11, 14] (fun v h c z wr => ∃ (p h' c' q : Nat) (z' : Int), p ≤ k ∧ z = .int .i64 z' ∧ h = .int .i64 h' ∧ c = .int .i64 c' ∧ -1 ≤ z' ∧ z' ≤ 5 ∧ Hid (z' = (k : Int) - 1 - (p : Int) ∧ BitSt (ug (2 ^ k) ds * 2 ^ p + d / 2 ^ (k - p)) (k * i + p) w.heap.size w v h' c' q wr))
                (fun _ _ _ z _ => (intOf z + 1).toNat)
              case atStart =>
                refine ⟨0, h, c, q, (k : Int) - 1, Nat.zero_le _, rfl, rfl, rfl, by omega, by omega, ?_⟩
                refine Lib.hid ⟨by omega, ?_⟩
                have h1 : d / 2 ^ (k - 0) = 0 := Nat.div_eq_of_lt HDL.out
                rw [h1, Nat.pow_zero, Nat.mul_one, Nat.add_zero, Nat.add_zero]
                exact HST.out.2.2.2
              case round =>
                obtain ⟨p, h5, c5, q5, z, hp, rfl, rfl, rfl, hz1', hz2', HB5⟩ := hrel
                have hc8 : c5 < 8 := HB5.out.2.2.1
                have hh : h5 < 128 := by
                  rw [HB5.out.2.2.2.1]
                  exact Nat.lt_of_lt_of_le (Nat.mod_lt _ (Nat.pow_pos (by omega))) (Nat.le_trans (Nat.pow_le_pow_right (by omega) (by omega : c5 ≤ 7)) (by decide))
                by_cases hpk : p < k
                · obtain ⟨zn, hzn⟩ := Int.eq_ofNat_of_zero_le (a := z) (by have := HB5.out.1; omega)
                  subst hzn
                  have HZ : Hid (zn = k - 1 - p) := by have := HB5.out.1; exact Lib.hid (by omega)
                  go_wp2_with fail
                  go_loop [15, 16] (fun v x => ∃ x' : Nat, x' ≤ zn ∧ x = .int .i64 x' ∧ v = .int .i64 ((d / 2 ^ x' : Nat) : Int)) (fun _ x => zn - (intOf x).toNat)
                  case atStart => exact ⟨0, Nat.zero_le _, rfl, by simp⟩
                  case round =>
                    obtain ⟨x, hx, rfl, rfl⟩ := hrel
                    obtain ⟨V, HV⟩ : ∃ V, Hid (d / 2 ^ x = V) := ⟨_, Lib.hid rfl⟩
                    have hV : V < 64 := by rw [← HV.out]; exact Nat.lt_of_le_of_lt (Nat.div_le_self _ _) hd64
                    rw [HV.out]
                    have HVN : Hid (((d / 2 ^ (x + 1) : Nat) : Int) = (V : Int) / 2) := by
                      show _ = _
                      rw [Nat.pow_succ, ← Nat.div_div_eq_div_mul, HV.out]; simp
                    by_cases hx2 : x < zn
                    · go_wp2_with fail
                      go_round
                      case rel => exact ⟨x + 1, by omega, by go_num, by rw [HVN.out]⟩
                      case measure => simp [intOf]; omega
                    · have HXZ : Hid (x = zn) := Lib.hid (by omega)
                      have hβ : V % 2 < 2 := Nat.mod_lt _ (by omega)
                      have hX : Hid (2 * (ug (2 ^ k) ds * 2 ^ p + d / 2 ^ (k - p)) + V % 2 = ug (2 ^ k) ds * 2 ^ (p + 1) + d / 2 ^ (k - (p + 1))) := by
                        show _ = _
                        rw [letter_bits d k p hpk, ← HZ.out, ← HXZ.out, HV.out, Nat.pow_succ]
                        rw [← Nat.mul_assoc, Nat.mul_add, Nat.mul_comm 2 (ug (2 ^ k) ds * 2 ^ p)]
                        omega
                      have HBS := HB5.out.2
                      obtain ⟨W2, HW2⟩ : ∃ W2, Hid (V % 2 = W2) := ⟨_, Lib.hid rfl⟩
                      rw [HW2.out] at hβ hX
                      have hWi : ((V : Int) % 2) = (W2 : Int) := by rw [← HW2.out]; simp
                      have HWI := Lib.hid hWi
                      have HX2 := Lib.hid hX.out
                      clear hWi
                      by_cases hc7 : c5 = 7
                      · have hcb : (((c5 : Int) + 1) == 8) = true := by rw [beq_iff_eq]; omega
                        have HBS7 : Hid (BitSt (ug (2 ^ k) ds * 2 ^ p + d / 2 ^ (k - p)) (k * i + p) w.heap.size w u9 h5 7 q5 wr) := by
                          rw [← hc7]; exact Lib.hid HBS
                        obtain ⟨E, HE⟩ : ∃ E, Hid (2 * h5 + W2 = E) := ⟨_, Lib.hid rfl⟩
                        have hEe : (2 * (h5 : Int) + (W2 : Int)) = (E : Int) := by rw [← HE.out]; simp
                        have hE : E < 256 := by have := HE.out; omega
                        have hEw : IntKind.u8.wrap (E : Int) = (E : Int) := by rw [IntKind.wrap_u8]; omega
                        have hql : q5 ≤ 200000 := by
                          have h1 := HBS.1
                          have h2 : k * i ≤ 6 * i := Nat.mul_le_mul_right _ hk6
                          omega
                        have hWi := HWI.out
                        have hws : w.heap.size ≤ wr.heap.size := HBS.2.2.2.2.2
                        have HWS := Lib.hid hws
                        clear hc7 HBS
                        go_wp2_with (at_builtin; refine wpList_append_own _ rfl (.tmp 73) (.tmp 76) 44 rfl w.heap.size 5 i0 (.int .u8 0) 1 1 Tryz.underlying44 hi0 hz0 hz1 hz2 rfl (by decide) _ _ _ rfl (HBS7.out.2.2.2.1.alloc _) ⟨wr.heap.size, 0, none⟩ 1 1 [.int .u8 (E : Int)] rfl rfl (World.news_of_block (cs := #[.int .u8 (E : Int)]) (t := 5) (fr := (0, 0)) (heap_alloc_new wr _)) (by simp [Value.oneCell']) (by unfold maxLen; omega) (by omega) (by simp; omega) ?_; intro v4 w4 hown4 hg4 hnil4)
                        have hEU : (((UInt8.ofNat (2 * h5 + W2)).toNat : Nat) : Int) = (E : Int) := by
                          rw [HE.out, UInt8.toNat_ofNat', Nat.mod_eq_of_lt hE]
                        have hby := HBS7.out.byte (β := W2) (v' := v4) (w3 := w4) hβ (Nat.le_refl _) hg4 (by rw [hEU]; exact hown4)
                        rw [HX2.out] at hby
                        have HBY := Lib.hid hby
                        clear hby hown4 hg4 hnil4 hEU
                        go_roundw
                        case rel =>
                          refine ⟨p + 1, 0, 0, q5 + 1, (zn : Int) - 1, hpk, rfl, rfl, rfl, by omega, by omega, ?_⟩
                          exact Lib.hid ⟨by have := HZ.out; omega, by rw [← Nat.add_assoc]; exact HBY.out⟩
                        case measure => simp [intOf]
                      · have hWi := HWI.out
                        have hcb : (((c5 : Int) + 1) == 8) = false := by rw [beq_eq_false_iff_ne]; omega
                        have hsm := HBS.small hβ (by omega)
                        rw [HX2.out] at hsm
                        have HS := Lib.hid hsm
                        clear hsm
                        go_wp2_with fail
                        go_roundw
                        case rel =>
                          refine ⟨p + 1, 2 * h5 + W2, c5 + 1, q5, (zn : Int) - 1, hpk, rfl, by go_num, by go_num, by omega, by omega, ?_⟩
                          exact Lib.hid ⟨by have := HZ.out; omega, by rw [← Nat.add_assoc]; exact HS.out⟩
                        case measure => simp [intOf]
                · have hzneg : z < 0 := by have := HB5.out.1; omega
                  have hpk2 : p = k := by omega
                  have HFIN : Hid (BitSt (ug (2 ^ k) (ds ++ [d])) (k * (i + 1)) w.heap.size w u9 h5 c5 q5 wr) := by
                    have h9 := HB5.out.2
                    rw [hpk2, Nat.sub_self, Nat.pow_zero, Nat.div_one] at h9
                    show BitSt _ _ _ _ _ _ _ _ _
                    rw [ug_snoc, Nat.mul_add, Nat.mul_one]
                    exact h9
                  clear hpk2
                  go_wp2_with fail
                  go_roundw
                  case rel => exact ⟨i + 1, h5, c5, q5, ds ++ [d], hlt, by go_num, rfl, rfl, Lib.hid ⟨hpre2.out.1, hpre2.out.2.1, hpre2.out.2.2, HFIN.out⟩⟩
                  case measure => simp [intOf]; omega
          · have him : i = m := by omega
            obtain ⟨a9, cp9, rfl⟩ := own_form HST.out.2.2.2.2.2.2.1
            have hds : preN L t.data.toList = ds := by
              rw [HST.out.2.2.1, him, rest_none L t m HT.out (by rw [← HL.out]; exact let_fill kind), List.append_nil]
            have hdec : decS L k t = ⟨(putL (ug (2 ^ k) ds / 2 ^ c) q).toArray⟩ := by
              unfold decS
              rw [hds]
              congr 2
              unfold decN
              rw [HST.out.1, HST.out.2.2.2.1]
              have h8 := HST.out.2.2.2.2.1
              have e1 : (8 * q + c) % 8 = c := by omega
              have e2 : (8 * q + c) / 8 = q := by omega
              rw [e1, e2]
            have hcv : ∀ mm, (convert 44 9 (.slice a9 q cp9)).run Tryz.prog (wr.drewN mm) = .ok (.string (decS L k t)) (wr.drewN mm) := fun mm => by
              rw [hdec]
              exact own_text (P := Tryz.prog) (w := wr.drewN mm) (base := w.heap.size) HST.out.2.2.2.2.2.2.1 44 9 Tryz.underlying44 Tryz.underlying5 Tryz.underlying9
            obtain ⟨D, HD⟩ : ∃ D, Hid (decS L k t = D) := ⟨_, Lib.hid rfl⟩
            obtain ⟨T2, HT2⟩ : ∃ T2, Hid (encS L k (filB kind) D = T2) := ⟨_, Lib.hid rfl⟩
            have hDs : D.size ≤ 10000 := by
              have h8 := decS_size L k (by omega) t
              rw [HD.out] at h8
              omega
            have cR : Hid (∀ W : World, Calls Tryz.prog 27 #[.int .i64 (kind : Int), .string D] W fun e w' => e = .returned (.string T2) ∧ w' = W) := fun W => by
              have h8 := refEncode_any kind D W hkd (by omega)
              rw [HL.out, HK.out, HT2.out] at h8
              exact h8.mono fun _ _ hh => ⟨hh.1, hh.2.symm⟩
            rw [HD.out] at hcv
            have HCV := Lib.hid hcv
            have HPL : Hid (kind = 0 → (preN L t.data.toList).length = t.size) := fun hk0 => by
              rw [hds, HST.out.1, him]
              refine Nat.le_antisymm hm (Nat.le_of_not_lt fun hlt2 => ?_)
              have := (HT.out m (Nat.le_refl _) hlt2).1
              omega
            clear hds hdec hcv him
            rcases (by
              by_cases h9 : T2 = t
              · exact .inl h9
              · exact .inr h9 : T2 = t ∨ T2 ≠ t) with h9 | h9
            case' inl =>
              have hbq : (T2.toList == t.toList) = true := by rw [h9]; simp
            case' inr =>
              have hbq : (T2.toList == t.toList) = false := by
                rw [beq_eq_false_iff_ne]
                intro e
                apply h9
                rw [ByteArray.toList_eq, ByteArray.toList_eq] at e
                exact ByteArray.ext (Array.ext' e)
            all_goals
              have H9 := Lib.hid h9
              clear h9
              go_wp2_with fail
              have hcv := HCV.out
              have hcv0 := HCV.out 0
              rw [World.drewN_zero] at hcv0
              go_quiet ((go_at_call 27; exact Calls.quiet_of_same (cR.out _)))
              go_wp2_with fail
              go_ret2
              refine ⟨?_, below_drawn HST.out.2.2.2.2.2.2.2.1 _⟩
              unfold DecPost
              refine ⟨D, _, rfl, ?_, ?_⟩
              · rw [HL.out, HK.out, HD.out, HT2.out]
                first
                  | exact Lib.hid ⟨(fun _ => ⟨rfl, H9.out⟩), (fun h => by cases h)⟩
                  | exact Lib.hid ⟨(fun h => by cases h), (fun _ => H9.out)⟩
              · rw [HL.out, HK.out, HD.out]
                exact Lib.hid (fun hk0 => by rw [if_pos (HPL.out hk0)])

theorem refDecode_any (kind : Nat) (t : ByteArray) (w : World) (hkd : kind ≤ 2) (hs : t.size ≤ 10000) :
    Calls Tryz.prog 25 #[.int .i64 kind, .string t] w fun e w' => (∃ (x : ByteArray) (ok : Bool), e = .returned (.tuple #[.string x, .bool ok]) ∧
      Hid ((ok = true → x = decS (letS kind) (bitK kind) t ∧ encS (letS kind) (bitK kind) (filB kind) (decS (letS kind) (bitK kind) t) = t) ∧ (ok = false → encS (letS kind) (bitK kind) (filB kind) (decS (letS kind) (bitK kind) t) ≠ t))) ∧ Below w.heap.size w w' := by
  exact (refDecode_det kind t w hkd hs).mono fun e w' ⟨hp, hb⟩ => by
    unfold DecPost at hp
    obtain ⟨x, ok, he, h1, _⟩ := hp
    exact ⟨⟨x, ok, he, h1⟩, hb⟩
end Go.Proofs.YtdhplohppcndhaaGreatDoor

namespace Go.Proofs.YtdhplohppcndhaaGreatDoor
open Go.RowKit
set_option linter.unusedVariables false

theorem cat_run {P : Program} (a b c : ByteArray) (h : a ++ b = c) (hs : c.size ≤ 1000) (W : World) : (Op.stringOp .add a b).run P W = .ok (.string c) W := by
  rw [← h]
  exact run_string_add_sum W a b (by rw [← ByteArray.size_append, h]; omega)

set_option maxRecDepth 20000 in
set_option maxHeartbeats 2000000 in
theorem idRefText_any (l : List UInt8) (hl : l.length = 16) (w : World) :
    Calls Tryz.prog 9 #[.agg (l.map bv).toArray] w fun e w' => e = .returned (.string ⟨(idL l).toArray⟩) ∧ Below w.heap.size w w' := by
  have hHl : (hexL l).length = 32 := by rw [hexL_length, hl]
  have hR := fun W => raw_any l hl W
  have hE : ∀ W : World, Calls Tryz.prog 27 #[.int .i64 0, .string ⟨l.toArray⟩] W fun e w' => e = .returned (.string ⟨(hexL l).toArray⟩) ∧ W = w' := fun W => by
    have h := refEncode_any 0 ⟨l.toArray⟩ W (by omega) (by show l.toArray.size ≤ _; rw [List.size_toArray, hl]; omega)
    rw [show encS (letS 0) (bitK 0) (filB 0) ⟨l.toArray⟩ = ⟨(hexL l).toArray⟩ from encS_hex _] at h
    exact h
  obtain ⟨h, hh⟩ : ∃ h : ByteArray, (⟨(hexL l).toArray⟩ : ByteArray) = h := ⟨_, rfl⟩
  have hhd : h.data.toList = hexL l := by rw [← hh]
  have hhs : h.size = 32 := by rw [← hh]; show (hexL l).toArray.size = 32; rw [List.size_toArray, hHl]
  rw [hh] at hE
  obtain ⟨a0, ea0⟩ : ∃ a, h.extract 0 8 = a := ⟨_, rfl⟩
  obtain ⟨a1, ea1⟩ : ∃ a, h.extract 8 12 = a := ⟨_, rfl⟩
  obtain ⟨a2, ea2⟩ : ∃ a, h.extract 12 16 = a := ⟨_, rfl⟩
  obtain ⟨a3, ea3⟩ : ∃ a, h.extract 16 20 = a := ⟨_, rfl⟩
  obtain ⟨a4, ea4⟩ : ∃ a, h.extract 20 h.size = a := ⟨_, rfl⟩
  have s0 : a0.size = 8 := by rw [← ea0, ByteArray.size_extract, hhs]; rfl
  have s1 : a1.size = 4 := by rw [← ea1, ByteArray.size_extract, hhs]; rfl
  have s2 : a2.size = 4 := by rw [← ea2, ByteArray.size_extract, hhs]; rfl
  have s3 : a3.size = 4 := by rw [← ea3, ByteArray.size_extract, hhs]; rfl
  have s4 : a4.size = 12 := by rw [← ea4, ByteArray.size_extract, hhs]; rfl
  have sd : (ByteArray.mk #[45]).size = 1 := rfl
  obtain ⟨b0, eb0⟩ : ∃ b, a0 ++ (⟨#[45]⟩ : ByteArray) = b := ⟨_, rfl⟩
  obtain ⟨b1, eb1⟩ : ∃ b, b0 ++ a1 = b := ⟨_, rfl⟩
  obtain ⟨b2, eb2⟩ : ∃ b, b1 ++ (⟨#[45]⟩ : ByteArray) = b := ⟨_, rfl⟩
  obtain ⟨b3, eb3⟩ : ∃ b, b2 ++ a2 = b := ⟨_, rfl⟩
  obtain ⟨b4, eb4⟩ : ∃ b, b3 ++ (⟨#[45]⟩ : ByteArray) = b := ⟨_, rfl⟩
  obtain ⟨b5, eb5⟩ : ∃ b, b4 ++ a3 = b := ⟨_, rfl⟩
  obtain ⟨b6, eb6⟩ : ∃ b, b5 ++ (⟨#[45]⟩ : ByteArray) = b := ⟨_, rfl⟩
  obtain ⟨b7, eb7⟩ : ∃ b, b6 ++ a4 = b := ⟨_, rfl⟩
  have z0 : b0.size = 9 := by rw [← eb0, ByteArray.size_append, s0, sd]
  have z1 : b1.size = 13 := by rw [← eb1, ByteArray.size_append, z0, s1]
  have z2 : b2.size = 14 := by rw [← eb2, ByteArray.size_append, z1, sd]
  have z3 : b3.size = 18 := by rw [← eb3, ByteArray.size_append, z2, s2]
  have z4 : b4.size = 19 := by rw [← eb4, ByteArray.size_append, z3, sd]
  have z5 : b5.size = 23 := by rw [← eb5, ByteArray.size_append, z4, s3]
  have z6 : b6.size = 24 := by rw [← eb6, ByteArray.size_append, z5, sd]
  have z7 : b7.size = 36 := by rw [← eb7, ByteArray.size_append, z6, s4]
  have hfin : (⟨(idL l).toArray⟩ : ByteArray) = b7 := by
    rw [← bytes_of_list (r := b7) (l := idL l)]
    rw [idL_mk, ← eb7, ← eb6, ← eb5, ← eb4, ← eb3, ← eb2, ← eb1, ← eb0, ← ea0, ← ea1, ← ea2, ← ea3, ← ea4, hhs]
    simp only [ByteArray.data_append, Array.toList_append, Lib.extract_data, hhd]
    unfold mkId
    simp
    exact List.take_of_length_le (by rw [List.length_drop, hHl]; exact Nat.le_refl _)
  have r0 := fun W => cat_run (P := Tryz.prog) a0 ⟨#[45]⟩ b0 eb0 (by omega) W
  have r1 := fun W => cat_run (P := Tryz.prog) b0 a1 b1 eb1 (by omega) W
  have r2 := fun W => cat_run (P := Tryz.prog) b1 ⟨#[45]⟩ b2 eb2 (by omega) W
  have r3 := fun W => cat_run (P := Tryz.prog) b2 a2 b3 eb3 (by omega) W
  have r4 := fun W => cat_run (P := Tryz.prog) b3 ⟨#[45]⟩ b4 eb4 (by omega) W
  have r5 := fun W => cat_run (P := Tryz.prog) b4 a3 b5 eb5 (by omega) W
  have r6 := fun W => cat_run (P := Tryz.prog) b5 ⟨#[45]⟩ b6 eb6 (by omega) W
  have r7 := fun W => cat_run (P := Tryz.prog) b6 a4 b7 eb7 (by omega) W
  have n0 := Row.new w 23 (l.map bv)
  obtain ⟨C, hC⟩ : ∃ C, l.map bv = C := ⟨_, rfl⟩
  have hCl : C.length = 16 := by rw [← hC, List.length_map, hl]
  rw [hC] at hR n0 ⊢
  rw [hfin]
  have HR := Lib.hid hR
  have HE := Lib.hid hE
  have H0 := Lib.hid (And.intro n0 hCl)
  have hsI : (32 : Int) ≤ (h.size : Int) := by omega
  have hb0 : Below w.heap.size w (w.alloc (.cells C.toArray 23)) := (Below.refl _ _).alloc (Nat.le_refl _) _
  clear hR hE n0 hCl hC hfin hh hhd hHl hl s0 s1 s2 s3 s4 sd z0 z1 z2 z3 z4 z5 z6 z7 eb0 eb1 eb2 eb3 eb4 eb5 eb6 eb7
  have HS := Lib.hid hhs
  clear hhs
  go_enter Tryz.func9, Tryz.ntmps9
  go_wp2_with (refine wpList_load_row rfl 23 (.tmp 1) rfl w.heap.size rfl 23 C.toArray (0, 0) _ H0.out.1 Tryz.underlying23 rfl (by rw [u16_size, List.size_toArray, H0.out.2]) ?_)
  refine (HR.out _).mono ?_
  rintro e w1 ⟨rfl, hb1⟩
  have hb2 := hb0.trans (hb1.mono (by simp))
  go_wp2_with fail
  refine (HE.out _).mono ?_
  rintro e w2 ⟨rfl, rfl⟩
  go_wp2_with fail
  go_quiet (fail)
  go_wp2
  go_ret
  exact ⟨rfl, below_drewN hb2 _⟩

theorem neq45 (c : UInt8) (h : c ≠ 45) : ((c.toNat : Int) != 45) = true := by
  rw [bne_iff_ne]
  intro e
  exact h (UInt8.toNat_inj.1 (by show c.toNat = 45; omega))
theorem eq45 : (((45 : UInt8).toNat : Int) != 45) = false := by decide

set_option maxRecDepth 20000 in
set_option maxHeartbeats 4000000 in
/-- Of another size, or without its strokes. -/
theorem refParse_form (s : ByteArray) (h : s.size ≠ 36 ∨ (∃ hs : s.size = 36, ¬ (s[8] = 45 ∧ s[13] = 45 ∧ s[18] = 45 ∧ s[23] = 45))) (w : World) :
    Calls Tryz.prog 8 #[.string s] w fun e w' => e = .returned (.tuple #[.agg z16.toArray, .bool false]) ∧ Below w.heap.size w w' := by
  have hz := (zero_of_info u16_info).1
  have hr7 := Row.new w 23 z16
  have hb7 : Below w.heap.size w (w.alloc (.cells z16.toArray 23)) := (Below.refl w.heap.size w).alloc (Nat.le_refl _) (.cells z16.toArray 23)
  have H := Lib.hid (And.intro hr7 hb7)
  have hp := hr7.put z16
  have hq := below_setRow (B := w.heap.size) hb7 (Nat.le_refl _) z16.toArray
  have HQ := Lib.hid (And.intro hp hq)
  clear hr7 hb7 hp hq
  rcases h with h | ⟨hs, h⟩
  · have hrI : ((s.size : Int) != 36) = true := by rw [bne_iff_ne]; omega
    clear h
    go_enter Tryz.func8, Tryz.ntmps8
    go_wp2_with (refine wpList_store_row rfl 23 (.tmp 2) (.tmp 29) rfl w.heap.size z16.toArray rfl rfl 23 z16.toArray H.out.1 u16_size rfl z16_one ?_)
    exact bodyPost_ret (v := .tuple #[.agg z16.toArray, .bool false]) (results_row_tmp rfl _ _ w.heap.size 23 z16.toArray (0, 0) _ rfl HQ.out.1 Tryz.underlying23 rfl u16_size _ rfl) rfl ⟨rfl, HQ.out.2⟩
  · have hrI : ((s.size : Int) != 36) = false := by rw [hs]; rfl
    have i8 : 8 < s.size := by omega
    have i13 : 13 < s.size := by omega
    have i18 : 18 < s.size := by omega
    have i23 : 23 < s.size := by omega
    obtain ⟨c8, e8⟩ : ∃ c, s[8] = c := ⟨_, rfl⟩
    obtain ⟨c13, e13⟩ : ∃ c, s[13] = c := ⟨_, rfl⟩
    obtain ⟨c18, e18⟩ : ∃ c, s[18] = c := ⟨_, rfl⟩
    obtain ⟨c23, e23⟩ : ∃ c, s[23] = c := ⟨_, rfl⟩
    rw [e8, e13, e18, e23] at h
    have hc : c8 ≠ 45 ∨ (c8 = 45 ∧ c13 ≠ 45) ∨ (c8 = 45 ∧ c13 = 45 ∧ c18 ≠ 45) ∨ (c8 = 45 ∧ c13 = 45 ∧ c18 = 45 ∧ c23 ≠ 45) := by
      by_cases h8 : c8 = 45
      · by_cases h13 : c13 = 45
        · by_cases h18 : c18 = 45
          · exact .inr (.inr (.inr ⟨h8, h13, h18, fun h23 => h ⟨h8, h13, h18, h23⟩⟩))
          · exact .inr (.inr (.inl ⟨h8, h13, h18⟩))
        · exact .inr (.inl ⟨h8, h13⟩)
      · exact .inl h8
    clear h hs
    rcases hc with h | ⟨rfl, h⟩ | ⟨rfl, rfl, h⟩ | ⟨rfl, rfl, rfl, h⟩
    all_goals
      have hn := neq45 _ h
      have h45 := eq45
      clear h
      go_enter Tryz.func8, Tryz.ntmps8
      go_wp2_with (refine wpList_store_row rfl 23 (.tmp 2) (.tmp 29) rfl w.heap.size z16.toArray rfl rfl 23 z16.toArray H.out.1 u16_size rfl z16_one ?_)
      exact bodyPost_ret (v := .tuple #[.agg z16.toArray, .bool false]) (results_row_tmp rfl _ _ w.heap.size 23 z16.toArray (0, 0) _ rfl HQ.out.1 Tryz.underlying23 rfl u16_size _ rfl) rfl ⟨rfl, HQ.out.2⟩

set_option maxRecDepth 20000 in
set_option maxHeartbeats 4000000 in
/-- Of that form: as its letters are read. -/
theorem refParse_mid (s t x : ByteArray) (ok : Bool) (hs : s.size = 36) (h8 : s[8] = 45) (h13 : s[13] = 45) (h18 : s[18] = 45) (h23 : s[23] = 45) (ht : cutId s.data.toList = t.data.toList)
    (hD : ∀ W : World, Calls Tryz.prog 25 #[.int .i64 0, .string t] W fun e w' => e = .returned (.tuple #[.string x, .bool ok]) ∧ Below W.heap.size W w') (R : Array Value) (hx : (ok = true → x.size = 16 ∧ (x.data.toList.map bv).toArray = R) ∧ (ok = false → z16.toArray = R)) (w : World) :
    Calls Tryz.prog 8 #[.string s] w fun e w' => e = .returned (.tuple #[.agg R, .bool ok]) ∧ Below w.heap.size w w' := by
  have hz := (zero_of_info u16_info).1
  have hr7 := Row.new w 23 z16
  have hb7 : Below w.heap.size w (w.alloc (.cells z16.toArray 23)) := (Below.refl w.heap.size w).alloc (Nat.le_refl _) (.cells z16.toArray 23)
  have hrI : ((s.size : Int) != 36) = false := by rw [hs]; rfl
  have i8 : 8 < s.size := by omega
  have i13 : 13 < s.size := by omega
  have i18 : 18 < s.size := by omega
  have i23 : 23 < s.size := by omega
  have h45 := eq45
  obtain ⟨a0, ea0⟩ : ∃ a, s.extract 0 8 = a := ⟨_, rfl⟩
  obtain ⟨a1, ea1⟩ : ∃ a, s.extract 9 13 = a := ⟨_, rfl⟩
  obtain ⟨a2, ea2⟩ : ∃ a, s.extract 14 18 = a := ⟨_, rfl⟩
  obtain ⟨a3, ea3⟩ : ∃ a, s.extract 19 23 = a := ⟨_, rfl⟩
  obtain ⟨a4, ea4⟩ : ∃ a, s.extract 24 s.size = a := ⟨_, rfl⟩
  have s0 : a0.size = 8 := by rw [← ea0, ByteArray.size_extract, hs]; rfl
  have s1 : a1.size = 4 := by rw [← ea1, ByteArray.size_extract, hs]; rfl
  have s2 : a2.size = 4 := by rw [← ea2, ByteArray.size_extract, hs]; rfl
  have s3 : a3.size = 4 := by rw [← ea3, ByteArray.size_extract, hs]; rfl
  have s4 : a4.size = 12 := by rw [← ea4, ByteArray.size_extract, hs]; rfl
  obtain ⟨b1, eb1⟩ : ∃ b, a0 ++ a1 = b := ⟨_, rfl⟩
  obtain ⟨b2, eb2⟩ : ∃ b, b1 ++ a2 = b := ⟨_, rfl⟩
  obtain ⟨b3, eb3⟩ : ∃ b, b2 ++ a3 = b := ⟨_, rfl⟩
  have z1 : b1.size = 12 := by rw [← eb1, ByteArray.size_append, s0, s1]
  have z2 : b2.size = 16 := by rw [← eb2, ByteArray.size_append, z1, s2]
  have z3 : b3.size = 20 := by rw [← eb3, ByteArray.size_append, z2, s3]
  have eb4 : b3 ++ a4 = t := by
    rw [bytes_of_list (r := b3 ++ a4) (l := t.data.toList)]
    rw [← ht, ← eb3, ← eb2, ← eb1, ← ea0, ← ea1, ← ea2, ← ea3, ← ea4, hs]
    simp only [ByteArray.data_append, Array.toList_append, Lib.extract_data]
    unfold cutId
    simp
    exact List.take_of_length_le (by rw [List.length_drop]; have : s.data.toList.length = s.size := by simp
                                     omega)
  have z4 : t.size = 32 := by rw [← eb4, ByteArray.size_append, z3, s4]
  have r1 := fun W => cat_run (P := Tryz.prog) a0 a1 b1 eb1 (by omega) W
  have r2 := fun W => cat_run (P := Tryz.prog) b1 a2 b2 eb2 (by omega) W
  have r3 := fun W => cat_run (P := Tryz.prog) b2 a3 b3 eb3 (by omega) W
  have r4 := fun W => cat_run (P := Tryz.prog) b3 a4 t eb4 (by omega) W
  have HD := Lib.hid hD
  have H0 := Lib.hid (And.intro hr7 hb7)
  have HX := Lib.hid hx
  have hsI : (36 : Int) ≤ (s.size : Int) := by omega
  have HS := Lib.hid hs
  have k8 : s[8]'i8 = 45 := h8
  have k13 : s[13]'i13 = 45 := h13
  have k18 : s[18]'i18 = 45 := h18
  have k23 : s[23]'i23 = 45 := h23
  clear h8 h13 h18 h23
  clear hD hr7 hb7 hx hs s0 s1 s2 s3 s4 z1 z2 z3 z4 eb1 eb2 eb3 eb4 ht
  go_enter Tryz.func8, Tryz.ntmps8
  go_wp2_with fail
  obtain ⟨q0, b0⟩ := H0.out
  generalize w.alloc (.cells z16.toArray 23) = w0 at q0 b0 ⊢
  refine region_quiet_lit (Below w0.heap.size w0) (by kernel_rfl) (by kernel_rfl) (below_drewN (Below.refl _ _) 1) ?_
  repeat (go_big_quiet_step ((first
    | (intro hC; with_reducible rfl)
    | (intro hC; go_at_call 25; refine (HD.out _).mono ?_; rintro e w'' ⟨rfl, hb⟩; exact ⟨rfl, hC.trans (hb.mono hC.size)⟩))))
  refine wpQuiet_nil ?_
  intro w1 hw1
  have q1 := q0.below hw1 q0.lt
  have b1' := b0.trans (hw1.mono b0.size)
  clear q0 b0 hw1 r1 r2 r3 r4 ea0 ea1 ea2 ea3 ea4 H0
  cases ok with
  | false =>
    have HZR := Lib.hid (HX.out.2 rfl)
    clear HX
    go_wp2_with (refine wpList_store_row rfl 23 (.tmp 2) (.tmp 50) rfl w.heap.size z16.toArray rfl rfl 23 z16.toArray q1 u16_size rfl z16_one ?_)
    have hp := q1.put z16
    have hq := below_setRow (B := w.heap.size) b1' (Nat.le_refl _) z16.toArray
    exact bodyPost_ret (v := .tuple #[.agg z16.toArray, .bool false]) (results_row_tmp rfl _ _ w.heap.size 23 z16.toArray (0, 0) _ rfl hp Tryz.underlying23 rfl u16_size _ rfl) rfl ⟨by rw [HZR.out], hq⟩
  | true =>
    have hO := fun W => of_any x (HX.out.1 rfl).1 W
    have hone := one_bytes x.data.toList
    have hl : x.data.toList.length = 16 := by rw [← (HX.out.1 rfl).1]; simp
    obtain ⟨C, hC⟩ : ∃ C, x.data.toList.map bv = C := ⟨_, rfl⟩
    have hCl : C.length = 16 := by rw [← hC, List.length_map, hl]
    rw [hC] at hO hone
    have hCR : C.toArray = R := by rw [← hC]; exact (HX.out.1 rfl).2
    have HO := Lib.hid hO
    have HN := Lib.hid (And.intro hone hCl)
    have HCR := Lib.hid hCR
    clear hO hone hl hC hCl hCR HX
    go_wp2_with fail
    refine (HO.out _).mono ?_
    rintro e w2 ⟨rfl, hb2⟩
    have q2 := q1.below hb2 q1.lt
    have b2' := b1'.trans (hb2.mono b1'.size)
    clear q1 b1' hb2
    go_wp2_with (refine wpList_store_row rfl 23 (.tmp 2) (.tmp 52) rfl w.heap.size C.toArray rfl rfl 23 z16.toArray q2 (by rw [u16_size, List.size_toArray, HN.out.2]) (by rw [List.size_toArray, List.size_toArray, HN.out.2]; rfl) HN.out.1 ?_)
    have hp := q2.put C
    have hq := below_setRow (B := w.heap.size) b2' (Nat.le_refl _) C.toArray
    exact bodyPost_ret (v := .tuple #[.agg C.toArray, .bool true]) (results_row_tmp rfl _ _ w.heap.size 23 C.toArray (0, 0) _ rfl hp Tryz.underlying23 rfl (by rw [u16_size, List.size_toArray, HN.out.2]) _ rfl) rfl ⟨by rw [HCR.out], hq⟩

end Go.Proofs.YtdhplohppcndhaaGreatDoor

namespace Go.Proofs.YtdhplohppcndhaaGreatDoor
open Go.RowKit
set_option linter.unusedVariables false

/-- The document's reading of an id's text. -/
theorem refParse_ok (s : ByteArray) (l : List UInt8) (h : IsId s.data.toList l) (w : World) :
    Calls Tryz.prog 8 #[.string s] w fun e w' => e = .returned (.tuple #[.agg (l.map bv).toArray, .bool true]) ∧ Below w.heap.size w w' := by
  have hsl : s.data.toList.length = s.size := by simp
  have hs : s.size = 36 := by rw [← hsl, ← h.2, idL_length l h.1]
  obtain ⟨g8, g13, g18, g23⟩ := id_strokes l h.1
  rw [h.2] at g8 g13 g18 g23
  have hg : ∀ k (hk : k < s.size), s.data.toList[k]? = some 45 → s[k] = 45 := fun k hk e => by
    rw [Array.getElem?_toList, Array.getElem?_eq_getElem hk] at e
    exact Option.some.inj e
  have hHl : (hexL l).length = 32 := by rw [hexL_length, h.1]
  have henc : encS (letS 0) (bitK 0) (filB 0) (decS (letS 0) (bitK 0) ⟨(hexL l).toArray⟩) = ⟨(hexL l).toArray⟩ := by
    show encS hexS 4 false (decS hexS 4 ⟨(hexL l).toArray⟩) = _
    rw [dec_hex, encS_hex]
  refine refParse_mid s ⟨(hexL l).toArray⟩ ⟨l.toArray⟩ true hs (hg 8 (by omega) g8) (hg 13 (by omega) g13) (hg 18 (by omega) g18) (hg 23 (by omega) g23) (by rw [← h.2, cut_id l h.1]) (fun W => ?_) _ ⟨fun _ => ⟨by show l.toArray.size = 16; rw [List.size_toArray, h.1], rfl⟩, fun h => by cases h⟩ w
  refine (refDecode_any 0 ⟨(hexL l).toArray⟩ W (by omega) (by show (hexL l).toArray.size ≤ _; rw [List.size_toArray, hHl]; omega)).mono ?_
  rintro e w' ⟨⟨x, ok, rfl, hx⟩, hb⟩
  refine ⟨?_, hb⟩
  cases ok with
  | false => exact absurd henc (hx.out.2 rfl)
  | true =>
    have h1 : x = decS hexS 4 ⟨(hexL l).toArray⟩ := (hx.out.1 rfl).1
    rw [h1, dec_hex]
/-- The document's reading of any other text. -/
theorem refParse_bad (s : ByteArray) (h : ∀ l, ¬ IsId s.data.toList l) (w : World) :
    Calls Tryz.prog 8 #[.string s] w fun e w' => e = .returned (.tuple #[.agg z16.toArray, .bool false]) ∧ Below w.heap.size w w' := by
  by_cases hf : s.size ≠ 36 ∨ (∃ hs : s.size = 36, ¬ (s[8] = 45 ∧ s[13] = 45 ∧ s[18] = 45 ∧ s[23] = 45))
  · exact refParse_form s hf w
  · have hs : s.size = 36 := Decidable.byContradiction fun hn => hf (.inl hn)
    have hd : s[8] = 45 ∧ s[13] = 45 ∧ s[18] = 45 ∧ s[23] = 45 := Decidable.byContradiction fun hn => hf (.inr ⟨hs, hn⟩)
    have hsl : s.data.toList.length = 36 := by rw [← hs]; simp
    have hg : ∀ k (hk : k < s.size), s[k] = 45 → s.data.toList[k]? = some 45 := fun k hk e => by
      rw [Array.getElem?_toList, Array.getElem?_eq_getElem hk]
      exact congrArg some e
    have hcl : (cutId s.data.toList).length = 32 := by unfold cutId; simp only [List.length_append, List.length_take, List.length_drop, hsl]; omega
    refine refParse_mid s ⟨(cutId s.data.toList).toArray⟩ (if (preN (letS 0) (ByteArray.mk (cutId s.data.toList).toArray).data.toList).length = (ByteArray.mk (cutId s.data.toList).toArray).size then decS (letS 0) (bitK 0) ⟨(cutId s.data.toList).toArray⟩ else ⟨#[]⟩) false hs hd.1 hd.2.1 hd.2.2.1 hd.2.2.2 rfl (fun W => ?_) _ ⟨(fun h => by cases h), fun _ => rfl⟩ w
    refine (refDecode_det 0 ⟨(cutId s.data.toList).toArray⟩ W (by omega) (by show (cutId s.data.toList).toArray.size ≤ _; rw [List.size_toArray, hcl]; omega)).mono ?_
    rintro e w' ⟨hp, hb⟩
    unfold DecPost at hp
    obtain ⟨x, ok, rfl, hx, hdt⟩ := hp
    refine ⟨?_, hb⟩
    cases ok with
    | false => rw [hdt.out rfl]
    | true =>
      exfalso
      have h1 : encS hexS 4 false (decS hexS 4 ⟨(cutId s.data.toList).toArray⟩) = ⟨(cutId s.data.toList).toArray⟩ := (hx.out.1 rfl).2
      rw [encS_hex] at h1
      have h2 : hexL (decS hexS 4 ⟨(cutId s.data.toList).toArray⟩).data.toList = cutId s.data.toList := by
        have := congrArg (fun b : ByteArray => b.data.toList) h1
        exact this
      exact h _ (isId_of_cut _ _ hsl (hg 8 (by omega) hd.1) (hg 13 (by omega) hd.2.1) (hg 18 (by omega) hd.2.2.1) (hg 23 (by omega) hd.2.2.2) h2.symm)
end Go.Proofs.YtdhplohppcndhaaGreatDoor

namespace Go.Proofs.YtdhplohppcndhaaGreatDoor
open Go.RowKit
set_option linter.unusedVariables false

theorem cmp_snoc (x y : UInt8) : ∀ (a b : List UInt8), a.length = b.length → Lib.compareBytes (a ++ [x]) (b ++ [y]) = if Lib.compareBytes a b = 0 then (if x < y then -1 else if y < x then 1 else 0) else Lib.compareBytes a b
  | [], [], _ => by
    rw [List.nil_append, List.nil_append, cmpB_cons]
    simp [Lib.compareBytes]
  | [], _ :: _, h => by simp at h
  | _ :: _, [], h => by simp at h
  | p :: a, q :: b, h => by
    have ih := cmp_snoc x y a b (by simpa using h)
    rw [List.cons_append, List.cons_append, cmpB_cons, cmpB_cons, ih]
    by_cases h1 : p < q
    · simp [h1]
    · by_cases h2 : q < p
      · simp [h1, h2]
      · simp [h1, h2]

set_option maxRecDepth 20000 in
set_option maxHeartbeats 1000000 in
theorem idVersion_any (l : List UInt8) (x : UInt8) (hx : l[6]? = some x) (w : World) :
    Calls Tryz.prog 11 #[.agg (l.map bv).toArray] w fun e w' => e = .returned (.int .i64 ((x.toNat : Int) / 16)) ∧ Below w.heap.size w w' := by
  have hr0 := Row.new w 23 (l.map bv)
  have hb0 : Below w.heap.size w (w.alloc (.cells (l.map bv).toArray 23)) := (Below.refl w.heap.size w).alloc (Nat.le_refl _) (.cells (l.map bv).toArray 23)
  have hc6 : (w.alloc (.cells (l.map bv).toArray 23)).cell? ⟨w.heap.size, 6, none⟩ = some (.int .u8 (x.toNat : Int)) := by
    rw [hr0.cell, List.getElem?_map, hx]; rfl
  have hxl := UInt8.toNat_lt x
  obtain ⟨C, hC⟩ : ∃ C, l.map bv = C := ⟨_, rfl⟩
  rw [hC] at hb0 hc6 ⊢
  have HB := Lib.hid hb0
  clear hr0 hb0 hC hx
  go_enter Tryz.func11, Tryz.ntmps11
  go_wp2
  go_ret
  exact ⟨rfl, HB.out⟩
end Go.Proofs.YtdhplohppcndhaaGreatDoor

namespace Go.Proofs.YtdhplohppcndhaaGreatDoor
open Go.RowKit
set_option linter.unusedVariables false
theorem hmacL_length (k t : List UInt8) : (hmacL k t).length = 32 := by unfold hmacL; exact shaL_length _

set_option maxRecDepth 20000 in
set_option maxHeartbeats 4000000 in
theorem HmShort_any (key : ByteArray) (hk : key.size ≤ 100000000) (n : Int) (hnw : -9223372036854775808 ≤ n ∧ n ≤ 9223372036854775807) (m : Nat) (hm : m ≤ 32) (hmm : min (max n 0) 32 = (m : Int)) (b2 o2 c2 : Nat) (xs : List ByteArray) (w : World) (hG : G w)
    (h2 : ∀ (j : Nat) x, xs[j]? = some x → w.cell? ⟨b2, o2 + j, none⟩ = some (.string x)) (hb2 : b2 < w.heap.size) (hn : xs.length ≤ 1000)
    (T : List UInt8) (hT : Lib.join (xs.map (·.data.toList)) [] = T) (hTl : T.length ≤ 140737488300000) :
    Calls Tryz.prog 30 #[.string key, .int .i64 n, .slice (some ⟨b2, o2, none⟩) xs.length c2] w fun e w' => e = .returned (.string ((⟨(hmacL key.data.toList T).toArray⟩ : ByteArray).extract 0 m)) ∧ Below w.heap.size w w' := by
  have HS := Lib.hid (fun (W : World) (hb : Below w.heap.size w W) => HmSum_any key hk b2 o2 c2 xs W (hG.below hb) (fun j x hx => (hb.cell (p := ⟨b2, o2 + j, none⟩) hb2).trans (h2 j x hx)) (Nat.lt_of_lt_of_le hb2 hb.size) hn T hT hTl)
  obtain ⟨r, hr⟩ : ∃ r : ByteArray, (⟨(hmacL key.data.toList T).toArray⟩ : ByteArray) = r := ⟨_, rfl⟩
  have hrs : r.size = 32 := by rw [← hr]; show (hmacL key.data.toList T).toArray.size = 32; rw [List.size_toArray, hmacL_length]
  rw [hr] at HS ⊢
  have hm32 : m ≤ r.size := by omega
  clear hr h2 hb2 hT hTl hG
  go_enter Tryz.func30, Tryz.ntmps30
  go_wp2_with fail
  refine (HS.out _ (Below.refl _ _)).mono ?_
  rintro e w1 ⟨rfl, hb1⟩
  go_wp2_with fail
  go_ret
  exact ⟨rfl, hb1⟩
end Go.Proofs.YtdhplohppcndhaaGreatDoor

namespace Go.Proofs.YtdhplohppcndhaaGreatDoor
open Go.RowKit
set_option linter.unusedVariables false

theorem HmSum_one (key s : ByteArray) (hk : key.size ≤ 100000000) (hs : s.size ≤ 100000000) (W : World) (g : Nat) (hg : G W) (hr : Row W g 9 [.string s]) :
    Calls Tryz.prog 45 #[.string key, .slice (some ⟨g, 0, none⟩) 1 1] W fun e w' => e = .returned (.string ⟨(hmacL key.data.toList s.data.toList).toArray⟩) ∧ Below W.heap.size W w' :=
  HmSum_any key hk g 0 1 [s] W hg (fun j x hx => by rw [Nat.zero_add, hr.cell]; match j, hx with | 0, hx => cases hx; rfl) hr.lt (by simp) s.data.toList (by rw [join_flat]; simp) (by simp; omega)
theorem HmSum_two (key s t : ByteArray) (hk : key.size ≤ 100000000) (hs : s.size ≤ 100000000) (ht : t.size ≤ 100000000) (W : World) (g : Nat) (hg : G W) (hr : Row W g 9 [.string s, .string t]) :
    Calls Tryz.prog 45 #[.string key, .slice (some ⟨g, 0, none⟩) 2 2] W fun e w' => e = .returned (.string ⟨(hmacL key.data.toList (s.data.toList ++ t.data.toList)).toArray⟩) ∧ Below W.heap.size W w' :=
  HmSum_any key hk g 0 2 [s, t] W hg (fun j x hx => by rw [Nat.zero_add, hr.cell]; match j, hx with | 0, hx => cases hx; rfl | 1, hx => cases hx; rfl) hr.lt (by simp) (s.data.toList ++ t.data.toList) (by rw [join_flat]; simp) (by rw [List.length_append]; simp; omega)
theorem HmShort_one (key s : ByteArray) (n : Int) (hn : -9223372036854775808 ≤ n ∧ n ≤ 9223372036854775807) (m : Nat) (hm : m ≤ 32) (hmm : min (max n 0) 32 = (m : Int)) (hk : key.size ≤ 100000000) (hs : s.size ≤ 100000000) (W : World) (g : Nat) (hg : G W) (hr : Row W g 9 [.string s]) :
    Calls Tryz.prog 30 #[.string key, .int .i64 n, .slice (some ⟨g, 0, none⟩) 1 1] W fun e w' => e = .returned (.string ((⟨(hmacL key.data.toList s.data.toList).toArray⟩ : ByteArray).extract 0 m)) ∧ Below W.heap.size W w' :=
  HmShort_any key hk n hn m hm hmm g 0 1 [s] W hg (fun j x hx => by rw [Nat.zero_add, hr.cell]; match j, hx with | 0, hx => cases hx; rfl) hr.lt (by simp) s.data.toList (by rw [join_flat]; simp) (by simp; omega)
theorem HmShort_two (key s t : ByteArray) (n : Int) (hn : -9223372036854775808 ≤ n ∧ n ≤ 9223372036854775807) (m : Nat) (hm : m ≤ 32) (hmm : min (max n 0) 32 = (m : Int)) (hk : key.size ≤ 100000000) (hs : s.size ≤ 100000000) (ht : t.size ≤ 100000000) (W : World) (g : Nat) (hg : G W) (hr : Row W g 9 [.string s, .string t]) :
    Calls Tryz.prog 30 #[.string key, .int .i64 n, .slice (some ⟨g, 0, none⟩) 2 2] W fun e w' => e = .returned (.string ((⟨(hmacL key.data.toList (s.data.toList ++ t.data.toList)).toArray⟩ : ByteArray).extract 0 m)) ∧ Below W.heap.size W w' :=
  HmShort_any key hk n hn m hm hmm g 0 2 [s, t] W hg (fun j x hx => by rw [Nat.zero_add, hr.cell]; match j, hx with | 0, hx => cases hx; rfl | 1, hx => cases hx; rfl) hr.lt (by simp) (s.data.toList ++ t.data.toList) (by rw [join_flat]; simp) (by rw [List.length_append]; simp; omega)

/-- A key, and it with noughts behind, to a block. -/
theorem hmac_pad (k t : List UInt8) (n : Nat) (h : n = 0 ∨ k.length + n ≤ 64) : hmacL (k ++ List.replicate n 0) t = hmacL k t := by
  rcases h with rfl | h
  · rw [List.replicate_zero, List.append_nil]
  · have e (m : UInt8) : blkL (keyL (k ++ List.replicate n 0)) m = blkL (keyL k) m := by
      unfold keyL
      rw [if_neg (by simp; omega), if_neg (by omega)]
      unfold blkL
      rw [List.append_assoc, List.replicate_append_replicate, List.length_append, List.length_replicate]
      congr 3
      omega
    unfold hmacL
    rw [e, e]
/-- One that is longer is its sum. -/
theorem hmac_long (k t : List UInt8) (h : 64 < k.length) : hmacL (shaL k) t = hmacL k t := by
  have e : keyL (shaL k) = keyL k := by
    unfold keyL
    rw [if_neg (by rw [shaL_length]; omega), if_pos h]
  unfold hmacL
  rw [e]
theorem repeat_one (b : UInt8) (c : Nat) : Lib.repeatL [b] c = List.replicate c b := by
  have := Lib.repeatL_replicate b 1 c
  rwa [Nat.mul_one] at this
end Go.Proofs.YtdhplohppcndhaaGreatDoor

namespace Go.Proofs.YtdhplohppcndhaaGreatDoor
open Go.RowKit
set_option linter.unusedVariables false
theorem u8_info5 : (Tryz.prog.info? 5).map (fun i => (i.zero, i.size, i.bytes)) = some (some (.int .u8 0), 1, 1) := by kernel_rfl
theorem made64b : madeCells #[.int .u8 0] 64 = (List.replicate 64 (Value.int .u8 0)).toArray := by kernel_rfl
/-- The first k bytes, noughts behind. -/
def prow (L : List UInt8) (k : Nat) : List Value := (L.take k).map bv ++ List.replicate (64 - k) (.int .u8 0)
theorem prow_length (L : List UInt8) (hL : L.length = 64) {k : Nat} (h : k ≤ 64) : (prow L k).length = 64 := by unfold prow; simp [hL]; omega
theorem prow_set (L : List UInt8) (hL : L.length = 64) {k : Nat} (h : k < 64) (x : UInt8) (hx : L[k]? = some x) : (prow L k).set k (.int .u8 x.toNat) = prow L (k + 1) := by
  unfold prow
  have hl : ((L.take k).map bv).length = k := by simp [hL]; omega
  have e : 64 - k = (64 - (k + 1)) + 1 := by omega
  rw [e, List.replicate_succ, List.set_append_right _ _ (by omega), hl, Nat.sub_self, List.set_cons_zero, List.take_add_one, hx, List.map_append, List.append_assoc]
  rfl
theorem prow_all (L : List UInt8) (hL : L.length = 64) : prow L 64 = L.map bv := by
  unfold prow
  rw [List.take_of_length_le (by rw [hL]; exact Nat.le_refl _)]
  simp

set_option maxRecDepth 20000 in
set_option maxHeartbeats 4000000 in
theorem refBlk_any (key : ByteArray) (m : UInt8) (hk : key.size ≤ 64) (w : World) :
    Calls Tryz.prog 47 #[.string key, .int .u8 m.toNat] w fun e w' => e = .returned (.string ⟨(blkL key.data.toList m).toArray⟩) ∧ Below w.heap.size w w' := by
  have hkI : ¬ ((64 : Int) < (key.size : Int)) := by omega
  obtain ⟨i0, hi0, hz0, hz1, hz2⟩ := info_parts u8_info5
  have hmk : ∀ W : World, (Instr.makeSlice 44 (.int .i64 64) (.int .i64 64)).run Tryz.prog W = .ok (.slice (some ⟨W.heap.size, 0, none⟩) 64 64) (W.alloc (.cells (List.replicate 64 (Value.int .u8 0)).toArray 5)) := fun W => by
    rw [← made64b]
    exact run_make_row 44 5 i0 (.int .u8 0) Tryz.underlying44 hi0 hz0 hz1 rfl .i64 .i64 64 (by rw [hz2]; decide) (by decide) W
  clear hi0 hz0 hz1 hz2
  have hAl : (blkL key.data.toList m).length = 64 := blkL_length _ _ (by have e : key.size = key.data.toList.length := by simp
                                                                         omega)
  have hA1 : ∀ (k : Nat) (h : k < key.size), (blkL key.data.toList m)[k]? = some (key[k] ^^^ m) := fun k h => by
    unfold blkL
    rw [List.getElem?_map, List.getElem?_append_left (by simpa using h)]
    have e : key.data.toList[k]? = some key[k] := by
      rw [Array.getElem?_toList, Array.getElem?_eq_getElem h]; rfl
    rw [e]; rfl
  have hA2 : ∀ k, key.size ≤ k → k < 64 → (blkL key.data.toList m)[k]? = some m := fun k h h64 => by
    unfold blkL
    have hl : key.data.toList.length = key.size := by simp
    rw [List.getElem?_map, List.getElem?_append_right (by omega), List.getElem?_replicate, if_pos (by omega)]
    show some (0 ^^^ m) = some m
    rw [UInt8.zero_xor]
  obtain ⟨A, hA⟩ : ∃ A, blkL key.data.toList m = A := ⟨_, rfl⟩
  rw [hA] at hAl hA1 hA2 ⊢
  have HA := Lib.hid (And.intro hAl (And.intro hA1 hA2))
  clear hAl hA1 hA2 hA
  go_enter Tryz.func47, Tryz.ntmps47
  go_wp2
  have r1 := Row.new w 5 (List.replicate 64 (Value.int .u8 0))
  have b1 := (Below.refl w.heap.size w).alloc (Nat.le_refl _) (.cells (List.replicate 64 (Value.int .u8 0)).toArray 5)
  clear hmk
  go_loopw [6] (fun i wr => ∃ k : Nat, k ≤ 64 ∧ i = .int .i64 k ∧ Row wr w.heap.size 5 (prow A k) ∧ Below w.heap.size w wr) (fun i _ => 64 - (intOf i).toNat)
  case atStart => exact ⟨0, Nat.zero_le _, rfl, r1, b1⟩
  case round =>
    obtain ⟨k, hk, rfl, h1, h2⟩ := hrel
    clear r1 b1
    by_cases hlt : k < 64
    · obtain ⟨v0, hc0⟩ : ∃ v, wr.cell? ⟨w.heap.size, k, none⟩ = some v := by
        rw [h1.cell]; exact ⟨_, List.getElem?_eq_getElem (by rw [prow_length A HA.out.1 hk]; exact hlt)⟩
      have hf0 := h1.frozen k
      have hkI2 : (k : Int) < 64 := by omega
      have hs1 := h1.set k (.int .u8 (m.toNat : Int))
      have hb1 := h2.setCell (p := ⟨w.heap.size, k, none⟩) (Nat.le_refl _) (.int .u8 (m.toNat : Int))
      by_cases hkk : k < key.size
      · obtain ⟨x, hx⟩ : ∃ x, key[k] = x := ⟨_, rfl⟩
        have hAx := HA.out.2.1 k hkk
        rw [hx] at hAx
        have hX := u8_xor_bits x m
        have hc1 : (wr.setCell ⟨w.heap.size, k, none⟩ (.int .u8 (m.toNat : Int))).cell? ⟨w.heap.size, k, none⟩ = some (.int .u8 (m.toNat : Int)) := by
          rw [hs1.cell, List.getElem?_set_self (by rw [prow_length A HA.out.1 hk]; exact hlt)]
        have hf1 := hs1.frozen k
        have hs2 := hs1.set k (.int .u8 ((x ^^^ m).toNat : Int))
        rw [List.set_set, prow_set A HA.out.1 hlt _ hAx] at hs2
        have hb2 := hb1.setCell (p := ⟨w.heap.size, k, none⟩) (Nat.le_refl _) (.int .u8 ((x ^^^ m).toNat : Int))
        have H := Lib.hid (And.intro hs2 hb2)
        have hkkI : (k : Int) < (key.size : Int) := by omega
        obtain ⟨z, hz⟩ : ∃ z, x ^^^ m = z := ⟨_, rfl⟩
        rw [hz] at hX H
        clear hs1 hb1 hs2 hb2 h1 h2 hAx hz
        go_wp2
        go_roundw
        case rel => exact ⟨k + 1, by omega, by go_num, H.out.1, H.out.2⟩
        case measure => simp [intOf]; omega
      · have hAx := HA.out.2.2 k (by omega) hlt
        rw [prow_set A HA.out.1 hlt _ hAx] at hs1
        have H := Lib.hid (And.intro hs1 hb1)
        have hkkI : (key.size : Int) ≤ (k : Int) := by omega
        clear hs1 hb1 h1 h2 hAx
        go_wp2
        go_roundw
        case rel => exact ⟨k + 1, by omega, by go_num, H.out.1, H.out.2⟩
        case measure => simp [intOf]; omega
    · have hk2 : k = 64 := by omega
      rw [hk2, prow_all A HA.out.1] at h1
      have hge : 64 ≤ k := by omega
      have hcv := conv_bytes (P := Tryz.prog) wr 44 9 5 Tryz.underlying44 Tryz.underlying5 Tryz.underlying9 w.heap.size 0 64 64 A HA.out.1 (fun i hi => by
        rw [Nat.zero_add, h1.cell])
      have H := Lib.hid h2
      clear hk2 hlt hk h1 h2
      go_wp2
      go_ret
      exact ⟨rfl, H.out⟩
end Go.Proofs.YtdhplohppcndhaaGreatDoor

namespace Go.Proofs.YtdhplohppcndhaaGreatDoor
open Go.RowKit
set_option linter.unusedVariables false
theorem u8_info4 : (Tryz.prog.info? 5).map (fun i => (i.zero, i.size, i.bytes)) = some (some (.int .u8 0), 1, 1) := by kernel_rfl
theorem made32 : madeCells #[.int .u8 0] 32 = z32.toArray := by kernel_rfl
/-- The first k bytes, noughts behind. -/
def trow (L : List UInt8) (k : Nat) : List Value := (L.take k).map bv ++ List.replicate (32 - k) (.int .u8 0)
theorem trow_length (L : List UInt8) (hL : L.length = 32) {k : Nat} (h : k ≤ 32) : (trow L k).length = 32 := by unfold trow; simp [hL]; omega
theorem trow_set (L : List UInt8) (hL : L.length = 32) {k : Nat} (h : k < 32) (x : UInt8) (hx : L[k]? = some x) : (trow L k).set k (.int .u8 x.toNat) = trow L (k + 1) := by
  unfold trow
  have hl : ((L.take k).map bv).length = k := by simp [hL]; omega
  have e : 32 - k = (32 - (k + 1)) + 1 := by omega
  rw [e, List.replicate_succ, List.set_append_right _ _ (by omega), hl, Nat.sub_self, List.set_cons_zero, List.take_add_one, hx, List.map_append, List.append_assoc]
  rfl
theorem trow_all (L : List UInt8) (hL : L.length = 32) : trow L 32 = L.map bv := by
  unfold trow
  rw [List.take_of_length_le (by rw [hL]; exact Nat.le_refl _)]
  simp

set_option maxRecDepth 20000 in
set_option maxHeartbeats 4000000 in
theorem refText_any (s : ByteArray) (hs : s.size ≤ 100000) (w : World) :
    Calls Tryz.prog 46 #[.string s] w fun e w' => e = .returned (.string ⟨(shaL s.data.toList).toArray⟩) ∧ Below w.heap.size w w' := by
  obtain ⟨i0, hi0, hz0, hz1, hz2⟩ := info_parts u8_info4
  have HI := Lib.hid (And.intro hi0 (And.intro hz0 (And.intro hz1 hz2)))
  clear hi0 hz0 hz1 hz2
  have HRS := Lib.hid (fun W => refSum_any s hs W)
  have hl := shaL_length s.data.toList
  obtain ⟨L, hL⟩ : ∃ L, shaL s.data.toList = L := ⟨_, rfl⟩
  rw [hL] at HRS hl ⊢
  obtain ⟨cs, hcs⟩ : ∃ cs, L.map bv = cs := ⟨_, rfl⟩
  have e0 : sumV L = .agg cs.toArray := by rw [← hcs]; rfl
  rw [e0] at HRS
  have hcg : ∀ (k : Nat) (x : UInt8), L[k]? = some x → cs[k]? = some (Value.int .u8 x.toNat) := by
    intro k x hx
    rw [← hcs, List.getElem?_map, hx]; rfl
  have hcl : cs.length = 32 := by rw [← hcs, List.length_map, hl]
  have hone : cs.toArray.all (·.oneCell') = true := by
    rw [← hcs, Array.all_eq_true_iff_forall_mem]
    intro v hv
    simp only [List.mem_toArray, List.mem_map] at hv
    obtain ⟨c, _, rfl⟩ := hv
    rfl
  have HC := Lib.hid (And.intro hcg (And.intro hcs hl))
  have HO := Lib.hid (And.intro hcl hone)
  have hz := (zero_of_info s32_info).1
  clear hcg hcs hl hL e0 hcl hone
  go_enter Tryz.func46, Tryz.ntmps46
  go_wp2_with fail
  refine (HRS.out _).mono ?_
  rintro e w1 ⟨rfl, hb1⟩
  have rx := (Row.new w1 81 z32).put cs
  have b1 := below_setRow (B := w.heap.size) (hb1.alloc hb1.size (.cells z32.toArray 81)) hb1.size cs.toArray
  have hg := hb1.size
  have hsz : ((w1.alloc (.cells z32.toArray 81)).setRow w1.heap.size cs.toArray).heap.size = w1.heap.size + 1 := by simp [World.setRow]
  clear hb1
  go_wp2_with (refine wpList_store_row rfl 81 (.tmp 3) (.tmp 7) rfl w1.heap.size cs.toArray rfl rfl 81 z32.toArray (Row.new w1 _ _) (by rw [s32_size, List.size_toArray, HO.out.1]) (by rw [List.size_toArray, List.size_toArray, HO.out.1]; rfl) HO.out.2 ?_)
  generalize (w1.alloc (.cells z32.toArray 81)).setRow w1.heap.size cs.toArray = w2 at rx b1 hsz ⊢
  obtain ⟨gx, hgx⟩ : ∃ g, w1.heap.size = g := ⟨_, rfl⟩
  rw [hgx] at rx hg hsz ⊢
  have r1 := Row.new w2 5 z32
  have rx1 := rx.alloc (.cells z32.toArray 5)
  have b2 := b1.alloc b1.size (.cells z32.toArray 5)
  rw [hsz] at r1
  have HSZ := Lib.hid hsz
  clear hz hgx rx b1 hsz
  have hmk : ∀ W : World, (Instr.makeSlice 44 (.int .i64 32) (.int .i64 32)).run Tryz.prog W = .ok (.slice (some ⟨W.heap.size, 0, none⟩) 32 32) (W.alloc (.cells z32.toArray 5)) := fun W => by
    rw [← made32]
    exact run_make_row 44 5 i0 (.int .u8 0) Tryz.underlying44 HI.out.1 HI.out.2.1 HI.out.2.2.1 rfl .i64 .i64 32 (by rw [HI.out.2.2.2]; decide) (by decide) W
  go_wp2
  have h := hmk w2
  rw [h, HSZ.out]
  clear h hmk
  generalize w2.alloc (.cells z32.toArray 5) = w3 at r1 rx1 b2 ⊢
  clear HSZ
  go_wp2
  go_loopw [5] (fun i wr => ∃ k : Nat, k ≤ 32 ∧ i = .int .i64 k ∧ Row wr (gx + 1) 5 (trow L k) ∧ Row wr gx 81 cs ∧ Below w.heap.size w wr) (fun i _ => 32 - (intOf i).toNat)
  case atStart => exact ⟨0, Nat.zero_le _, rfl, r1, rx1, b2⟩
  case round =>
    obtain ⟨k, hk, rfl, h1, h3, h2⟩ := hrel
    clear r1 rx1 b2
    by_cases hlt : k < 32
    · obtain ⟨x, hx⟩ : ∃ x, L[k]? = some x := ⟨_, List.getElem?_eq_getElem (by rw [HC.out.2.2]; exact hlt)⟩
      have hcx : wr.cell? ⟨gx, k, none⟩ = some (.int .u8 (x.toNat : Int)) := by rw [h3.cell]; exact HC.out.1 k x hx
      obtain ⟨v0, hc0⟩ : ∃ v, wr.cell? ⟨gx + 1, k, none⟩ = some v := by
        rw [h1.cell]; exact ⟨_, List.getElem?_eq_getElem (by rw [trow_length L HC.out.2.2 hk]; exact hlt)⟩
      have hf0 := h1.frozen k
      have hs1 := h1.set k (.int .u8 (x.toNat : Int))
      rw [trow_set L HC.out.2.2 hlt x hx] at hs1
      have hs2 := h2.setCell (p := ⟨gx + 1, k, none⟩) (by show w.heap.size ≤ gx + 1; omega) (.int .u8 (x.toNat : Int))
      have hs3 := h3.far (p := ⟨gx + 1, k, none⟩) (by show gx ≠ gx + 1; omega) (.int .u8 (x.toNat : Int))
      have H := Lib.hid (And.intro hs1 (And.intro hs3 hs2))
      have hkI : (k : Int) < 32 := by omega
      clear hs1 hs2 hs3 h1 h2 h3 hx
      go_wp2
      go_roundw
      case rel => exact ⟨k + 1, by omega, by go_num, H.out.1, H.out.2.1, H.out.2.2⟩
      case measure => simp [intOf]; omega
    · have hk2 : k = 32 := by omega
      rw [hk2, trow_all L HC.out.2.2] at h1
      have hge : 32 ≤ k := by omega
      have hcv := conv_bytes (P := Tryz.prog) wr 44 9 5 Tryz.underlying44 Tryz.underlying5 Tryz.underlying9 (gx + 1) 0 32 32 L HC.out.2.2 (fun i hi => by
        rw [Nat.zero_add, h1.cell])
      have H := Lib.hid h2
      clear hk2 hlt hk h1 h2 h3
      go_wp2
      go_ret
      exact ⟨rfl, H.out⟩
end Go.Proofs.YtdhplohppcndhaaGreatDoor

namespace Go.Proofs.YtdhplohppcndhaaGreatDoor
open Go.RowKit
set_option linter.unusedVariables false

set_option maxRecDepth 20000 in
set_option maxHeartbeats 4000000 in
theorem refBlk_long (key : ByteArray) (m : UInt8) (hk1 : 64 < key.size) (hk2 : key.size ≤ 100000) (w : World) :
    Calls Tryz.prog 47 #[.string key, .int .u8 m.toNat] w fun e w' => e = .returned (.string ⟨(blkL (keyL key.data.toList) m).toArray⟩) ∧ Below w.heap.size w w' := by
  have hkI : (64 : Int) < (key.size : Int) := by omega
  have hkl : key.data.toList.length = key.size := by simp
  obtain ⟨kk, hkk⟩ : ∃ kk : ByteArray, (⟨(shaL key.data.toList).toArray⟩ : ByteArray) = kk := ⟨_, rfl⟩
  have HTX : Hid (∀ W : World, Calls Tryz.prog 46 #[.string key] W fun e w' => e = .returned (.string kk) ∧ Below W.heap.size W w') := Lib.hid fun W => by rw [← hkk]; exact refText_any key hk2 W
  have hkd : keyL key.data.toList = kk.data.toList := by unfold keyL; rw [if_pos (by omega), ← hkk]
  have hk : kk.size ≤ 64 := by
    have e : kk.size = kk.data.toList.length := by simp
    rw [e, ← hkd]
    unfold keyL
    rw [if_pos (by omega), shaL_length]
    omega
  rw [hkd]
  clear hkk hkd hkl
  obtain ⟨i0, hi0, hz0, hz1, hz2⟩ := info_parts u8_info5
  have hmk : ∀ W : World, (Instr.makeSlice 44 (.int .i64 64) (.int .i64 64)).run Tryz.prog W = .ok (.slice (some ⟨W.heap.size, 0, none⟩) 64 64) (W.alloc (.cells (List.replicate 64 (Value.int .u8 0)).toArray 5)) := fun W => by
    rw [← made64b]
    exact run_make_row 44 5 i0 (.int .u8 0) Tryz.underlying44 hi0 hz0 hz1 rfl .i64 .i64 64 (by rw [hz2]; decide) (by decide) W
  clear hi0 hz0 hz1 hz2
  have hkzl : kk.data.toList.length ≤ 64 := by
    have e : kk.size = kk.data.toList.length := by simp
    omega
  have hAl : (blkL kk.data.toList m).length = 64 := blkL_length _ _ hkzl
  have hA1 : ∀ (k : Nat) (h : k < kk.size), (blkL kk.data.toList m)[k]? = some (kk[k] ^^^ m) := fun k h => by
    unfold blkL
    rw [List.getElem?_map, List.getElem?_append_left (by simpa using h)]
    have e : kk.data.toList[k]? = some kk[k] := by
      rw [Array.getElem?_toList, Array.getElem?_eq_getElem h]; rfl
    rw [e]; rfl
  have hA2 : ∀ k, kk.size ≤ k → k < 64 → (blkL kk.data.toList m)[k]? = some m := fun k h h64 => by
    unfold blkL
    have hl : kk.data.toList.length = kk.size := by simp
    rw [List.getElem?_map, List.getElem?_append_right (by omega), List.getElem?_replicate, if_pos (by omega)]
    show some (0 ^^^ m) = some m
    rw [UInt8.zero_xor]
  obtain ⟨A, hA⟩ : ∃ A, blkL kk.data.toList m = A := ⟨_, rfl⟩
  rw [hA] at hAl hA1 hA2 ⊢
  have HA := Lib.hid (And.intro hAl (And.intro hA1 hA2))
  clear hAl hA1 hA2 hA
  go_enter Tryz.func47, Tryz.ntmps47
  go_wp2_with fail
  refine (HTX.out _).mono ?_
  rintro e w0 ⟨rfl, hb0⟩
  go_wp2
  have r1 := Row.new w0 5 (List.replicate 64 (Value.int .u8 0))
  have b1 := hb0.alloc hb0.size (.cells (List.replicate 64 (Value.int .u8 0)).toArray 5)
  have hsz0 := hb0.size
  clear hmk hb0
  go_loopw [6] (fun i wr => ∃ k : Nat, k ≤ 64 ∧ i = .int .i64 k ∧ Row wr w0.heap.size 5 (prow A k) ∧ Below w.heap.size w wr) (fun i _ => 64 - (intOf i).toNat)
  case atStart => exact ⟨0, Nat.zero_le _, rfl, r1, b1⟩
  case round =>
    obtain ⟨k, hk, rfl, h1, h2⟩ := hrel
    clear r1 b1
    by_cases hlt : k < 64
    · obtain ⟨v0, hc0⟩ : ∃ v, wr.cell? ⟨w0.heap.size, k, none⟩ = some v := by
        rw [h1.cell]; exact ⟨_, List.getElem?_eq_getElem (by rw [prow_length A HA.out.1 hk]; exact hlt)⟩
      have hf0 := h1.frozen k
      have hkI2 : (k : Int) < 64 := by omega
      have hs1 := h1.set k (.int .u8 (m.toNat : Int))
      have hb1 := h2.setCell (p := ⟨w0.heap.size, k, none⟩) hsz0 (.int .u8 (m.toNat : Int))
      by_cases hkk : k < kk.size
      · obtain ⟨x, hx⟩ : ∃ x, kk[k] = x := ⟨_, rfl⟩
        have hAx := HA.out.2.1 k hkk
        rw [hx] at hAx
        have hX := u8_xor_bits x m
        have hc1 : (wr.setCell ⟨w0.heap.size, k, none⟩ (.int .u8 (m.toNat : Int))).cell? ⟨w0.heap.size, k, none⟩ = some (.int .u8 (m.toNat : Int)) := by
          rw [hs1.cell, List.getElem?_set_self (by rw [prow_length A HA.out.1 hk]; exact hlt)]
        have hf1 := hs1.frozen k
        have hs2 := hs1.set k (.int .u8 ((x ^^^ m).toNat : Int))
        rw [List.set_set, prow_set A HA.out.1 hlt _ hAx] at hs2
        have hb2 := hb1.setCell (p := ⟨w0.heap.size, k, none⟩) hsz0 (.int .u8 ((x ^^^ m).toNat : Int))
        have H := Lib.hid (And.intro hs2 hb2)
        have hkkI : (k : Int) < (kk.size : Int) := by omega
        obtain ⟨z, hz⟩ : ∃ z, x ^^^ m = z := ⟨_, rfl⟩
        rw [hz] at hX H
        clear hs1 hb1 hs2 hb2 h1 h2 hAx hz
        go_wp2
        go_roundw
        case rel => exact ⟨k + 1, by omega, by go_num, H.out.1, H.out.2⟩
        case measure => simp [intOf]; omega
      · have hAx := HA.out.2.2 k (by omega) hlt
        rw [prow_set A HA.out.1 hlt _ hAx] at hs1
        have H := Lib.hid (And.intro hs1 hb1)
        have hkkI : (kk.size : Int) ≤ (k : Int) := by omega
        clear hs1 hb1 h1 h2 hAx
        go_wp2
        go_roundw
        case rel => exact ⟨k + 1, by omega, by go_num, H.out.1, H.out.2⟩
        case measure => simp [intOf]; omega
    · have hk2 : k = 64 := by omega
      rw [hk2, prow_all A HA.out.1] at h1
      have hge : 64 ≤ k := by omega
      have hcv := conv_bytes (P := Tryz.prog) wr 44 9 5 Tryz.underlying44 Tryz.underlying5 Tryz.underlying9 w0.heap.size 0 64 64 A HA.out.1 (fun i hi => by
        rw [Nat.zero_add, h1.cell])
      have H := Lib.hid h2
      clear hk2 hlt hk h1 h2
      go_wp2
      go_ret
      exact ⟨rfl, H.out⟩

theorem refBlk_all (key : ByteArray) (m : UInt8) (hk : key.size ≤ 100000) (w : World) :
    Calls Tryz.prog 47 #[.string key, .int .u8 m.toNat] w fun e w' => e = .returned (.string ⟨(blkL (keyL key.data.toList) m).toArray⟩) ∧ Below w.heap.size w w' := by
  by_cases h : 64 < key.size
  · exact refBlk_long key m h hk w
  · have hl : key.data.toList.length = key.size := by simp
    have e : keyL key.data.toList = key.data.toList := by unfold keyL; rw [if_neg (by omega)]
    rw [e]
    exact refBlk_any key m (by omega) w
end Go.Proofs.YtdhplohppcndhaaGreatDoor

namespace Go.Proofs.YtdhplohppcndhaaGreatDoor
open Go.RowKit
set_option linter.unusedVariables false

set_option maxRecDepth 20000 in
set_option maxHeartbeats 4000000 in
theorem refHm_any (key s : ByteArray) (hk : key.size ≤ 10000) (hs : s.size ≤ 10000) (w : World) :
    Calls Tryz.prog 31 #[.string key, .string s] w fun e w' => e = .returned (.string ⟨(hmacL key.data.toList s.data.toList).toArray⟩) ∧ Below w.heap.size w w' := by
  have hkL : (keyL key.data.toList).length ≤ 64 := by
    unfold keyL
    split
    · rw [shaL_length]; omega
    · omega
  obtain ⟨x0, hx0⟩ : ∃ x : ByteArray, (⟨(blkL (keyL key.data.toList) 54).toArray⟩ : ByteArray) = x := ⟨_, rfl⟩
  obtain ⟨x1, hx1⟩ : ∃ x : ByteArray, (⟨(blkL (keyL key.data.toList) 92).toArray⟩ : ByteArray) = x := ⟨_, rfl⟩
  have HP0 : Hid (∀ W : World, Calls Tryz.prog 47 #[.string key, .int .u8 54] W fun e w' => e = .returned (.string x0) ∧ Below W.heap.size W w') := Lib.hid fun W => by rw [← hx0]; exact refBlk_all key 54 (by omega) W
  have HP1 : Hid (∀ W : World, Calls Tryz.prog 47 #[.string key, .int .u8 92] W fun e w' => e = .returned (.string x1) ∧ Below W.heap.size W w') := Lib.hid fun W => by rw [← hx1]; exact refBlk_all key 92 (by omega) W
  have hd0 : x0.data.toList = blkL (keyL key.data.toList) 54 := by rw [← hx0]
  have hd1 : x1.data.toList = blkL (keyL key.data.toList) 92 := by rw [← hx1]
  have hz0 : x0.size = 64 := by
    have e : x0.size = x0.data.toList.length := by simp
    rw [e, hd0, blkL_length _ _ hkL]
  have hz1 : x1.size = 64 := by
    have e : x1.size = x1.data.toList.length := by simp
    rw [e, hd1, blkL_length _ _ hkL]
  obtain ⟨t0, ht0⟩ : ∃ t, x0 ++ s = t := ⟨_, rfl⟩
  have hts : t0.size ≤ 100000 := by rw [← ht0, ByteArray.size_append]; omega
  have ha0 : ∀ W : World, (Op.stringOp .add x0 s).run Tryz.prog W = .ok (.string t0) W := fun W => by rw [← ht0]; exact run_string_add_sum W x0 s (by omega)
  obtain ⟨y, hy⟩ : ∃ y : ByteArray, (⟨(shaL t0.data.toList).toArray⟩ : ByteArray) = y := ⟨_, rfl⟩
  have hyd : y.data.toList = shaL t0.data.toList := by rw [← hy]
  have hyz : y.size = 32 := by
    have e : y.size = y.data.toList.length := by simp
    rw [e, hyd, shaL_length]
  have HT0 : Hid (∀ W : World, Calls Tryz.prog 46 #[.string t0] W fun e w' => e = .returned (.string y) ∧ Below W.heap.size W w') := Lib.hid fun W => by rw [← hy]; exact refText_any t0 hts W
  obtain ⟨t1, ht1⟩ : ∃ t, x1 ++ y = t := ⟨_, rfl⟩
  have hts1 : t1.size ≤ 100000 := by rw [← ht1, ByteArray.size_append]; omega
  have ha1 : ∀ W : World, (Op.stringOp .add x1 y).run Tryz.prog W = .ok (.string t1) W := fun W => by rw [← ht1]; exact run_string_add_sum W x1 y (by omega)
  obtain ⟨r, hr⟩ : ∃ r : ByteArray, (⟨(shaL t1.data.toList).toArray⟩ : ByteArray) = r := ⟨_, rfl⟩
  have HT1 : Hid (∀ W : World, Calls Tryz.prog 46 #[.string t1] W fun e w' => e = .returned (.string r) ∧ Below W.heap.size W w') := Lib.hid fun W => by rw [← hr]; exact refText_any t1 hts1 W
  have hfin : (⟨(hmacL key.data.toList s.data.toList).toArray⟩ : ByteArray) = r := by
    rw [← hr, ← ht1]
    have e1 : (x1 ++ y).data.toList = x1.data.toList ++ y.data.toList := by simp
    rw [e1, hyd, ← ht0]
    have e0 : (x0 ++ s).data.toList = x0.data.toList ++ s.data.toList := by simp
    rw [e0, hd0, hd1, hmacL]
  rw [hfin]
  clear hkL hx0 hx1 hd0 hd1 hz0 hz1 ht0 hts hy hyd hyz ht1 hts1 hr hfin
  go_enter Tryz.func31, Tryz.ntmps31
  go_wp2_with fail
  refine (HP1.out _).mono ?_
  rintro e w1 ⟨rfl, hb1⟩
  go_wp2_with fail
  refine (HP0.out _).mono ?_
  rintro e w2 ⟨rfl, hb2⟩
  have hb2 := hb1.trans (hb2.mono hb1.size)
  go_wp2_with fail
  refine (HT0.out _).mono ?_
  rintro e w3 ⟨rfl, hb3⟩
  have hb3 := hb2.trans (hb3.mono hb2.size)
  go_wp2_with fail
  refine (HT1.out _).mono ?_
  rintro e w4 ⟨rfl, hb4⟩
  have hb4 := hb3.trans (hb4.mono hb3.size)
  go_wp2_with fail
  go_ret
  exact ⟨rfl, hb4⟩
end Go.Proofs.YtdhplohppcndhaaGreatDoor

namespace Go.Proofs.YtdhplohppcndhaaGreatDoor
open Go.RowKit
set_option linter.unusedVariables false

/-- Sixteen bytes with the version and the variant laid in. -/
def drawL (l : List UInt8) : List UInt8 := (l.set 6 (UInt8.ofNat ((l.getD 6 0).toNat % 16 + 64))).set 8 (UInt8.ofNat ((l.getD 8 0).toNat % 64 + 128))
theorem drawL_length (l : List UInt8) : (drawL l).length = l.length := by unfold drawL; simp
theorem drawL_six (l : List UInt8) (h : l.length = 16) : (drawL l)[6]? = some (UInt8.ofNat ((l.getD 6 0).toNat % 16 + 64)) := by
  unfold drawL; rw [List.getElem?_set_ne (by omega), List.getElem?_set_self (by omega)]
theorem bits_six : ∀ n : Fin 256, bits BinOp.and IntKind.u8 ((n.val : Nat) : Int) 15 = ((n.val % 16 : Nat) : Int) ∧ bits BinOp.or IntKind.u8 64 ((n.val % 16 : Nat) : Int) = ((n.val % 16 + 64 : Nat) : Int) := by decide +kernel
theorem bits_eight : ∀ n : Fin 256, bits BinOp.and IntKind.u8 ((n.val : Nat) : Int) 63 = ((n.val % 64 : Nat) : Int) ∧ bits BinOp.or IntKind.u8 128 ((n.val % 64 : Nat) : Int) = ((n.val % 64 + 128 : Nat) : Int) := by decide +kernel
/-- What both walks want to know of the two bytes. -/
theorem draw_parts (l : List UInt8) (hl : l.length = 16) : ∃ (x y x' y' : UInt8) (a b : Nat) (C D : List Value), l.map bv = C ∧ (drawL l).map bv = D ∧ C.length = 16 ∧ D.length = 16 ∧ C.toArray.all (·.oneCell') = true ∧ D.toArray.all (·.oneCell') = true ∧
    C[6]? = some (.int .u8 (x.toNat : Int)) ∧ C[8]? = some (.int .u8 (y.toNat : Int)) ∧ D = (C.set 6 (.int .u8 (x'.toNat : Int))).set 8 (.int .u8 (y'.toNat : Int)) ∧
    x.toNat % 16 = a ∧ y.toNat % 64 = b ∧ bits BinOp.and IntKind.u8 (x.toNat : Int) 15 = (a : Int) ∧ bits BinOp.or IntKind.u8 64 (a : Int) = (x'.toNat : Int) ∧
    bits BinOp.and IntKind.u8 (y.toNat : Int) 63 = (b : Int) ∧ bits BinOp.or IntKind.u8 128 (b : Int) = (y'.toNat : Int) ∧ x'.toNat = a + 64 ∧ y'.toNat = b + 128 := by
  obtain ⟨x, hx⟩ : ∃ x, l[6]? = some x := ⟨_, List.getElem?_eq_getElem (by omega)⟩
  obtain ⟨y, hy⟩ : ∃ y, l[8]? = some y := ⟨_, List.getElem?_eq_getElem (by omega)⟩
  have hgx : l.getD 6 0 = x := by rw [List.getD_eq_getElem?_getD, hx]; rfl
  have hgy : l.getD 8 0 = y := by rw [List.getD_eq_getElem?_getD, hy]; rfl
  have hxn : (UInt8.ofNat (x.toNat % 16 + 64)).toNat = x.toNat % 16 + 64 := by rw [UInt8.toNat_ofNat']; omega
  have hyn : (UInt8.ofNat (y.toNat % 64 + 128)).toNat = y.toNat % 64 + 128 := by rw [UInt8.toNat_ofNat']; omega
  have h6 := bits_six ⟨x.toNat, UInt8.toNat_lt x⟩
  have h8 := bits_eight ⟨y.toNat, UInt8.toNat_lt y⟩
  refine ⟨x, y, UInt8.ofNat (x.toNat % 16 + 64), UInt8.ofNat (y.toNat % 64 + 128), _, _, _, _, rfl, rfl, by rw [List.length_map, hl], by rw [List.length_map, drawL_length, hl], one_bytes _, one_bytes _, by rw [List.getElem?_map, hx]; rfl, by rw [List.getElem?_map, hy]; rfl, ?_, rfl, rfl, h6.1, ?_, h8.1, ?_, hxn, hyn⟩
  · unfold drawL; rw [hgx, hgy, List.map_set, List.map_set]; rfl
  · rw [hxn]; exact h6.2
  · rw [hyn]; exact h8.2

set_option maxRecDepth 20000 in
set_option maxHeartbeats 2000000 in
theorem draw_ok (r : ByteArray) (hr : r.size = 16) (w : World) :
    Calls Tryz.prog 13 #[.string r] w fun e w' => e = .returned (.tuple #[.agg ((drawL r.data.toList).map bv).toArray, .int .i64 0]) ∧ Below w.heap.size w w' := by
  have hz := (zero_of_info u16_info).1
  have hl : r.data.toList.length = 16 := by rw [← hr]; simp
  have HID := Lib.hid (fun W => id_ok r hr W)
  obtain ⟨x, y, x', y', a, b, C, D, hC, hD, hCl, hDl, oC, oD, hc6, hc8, hDC, hxa, hyb, ha, ho, ha', ho', hxn, hyn⟩ := draw_parts r.data.toList hl
  rw [hC] at HID
  rw [hD]
  have HK := Lib.hid (And.intro hCl (And.intro hDl (And.intro oC oD)))
  have HC := Lib.hid (And.intro hc6 (And.intro hc8 hDC))
  clear hC hD hCl hDl oC oD hc6 hc8 hDC hl hr hxa hyb hxn hyn
  go_enter Tryz.func13, Tryz.ntmps13
  go_wp2_with fail
  refine (HID.out _).mono ?_
  rintro e w1 ⟨rfl, hb⟩
  have rA := (Row.new w 23 z16).below hb (by simp)
  have hbw : Below w.heap.size w w1 := ((Below.refl w.heap.size w).alloc (Nat.le_refl _) (.cells z16.toArray 23)).trans (hb.mono (by simp))
  have hlt := rA.lt
  have sA := (rA.alloc (.cells z16.toArray 23)).put_far (g' := w1.heap.size) (by omega) C.toArray
  have sn := (Row.new w1 23 z16).put C
  have sB := below_setRow (B := w.heap.size) (hbw.alloc hbw.size (.cells z16.toArray 23)) hbw.size C.toArray
  clear rA hbw hb
  go_wp2_with (first
    | (refine wpList_store_row rfl 23 (.tmp 4) (.tmp 9) rfl w1.heap.size C.toArray rfl rfl 23 z16.toArray (Row.new w1 _ z16) (by rw [u16_size, List.size_toArray, HK.out.1]) (by rw [List.size_toArray, List.size_toArray, HK.out.1]; rfl) HK.out.2.2.1 ?_
       generalize (w1.alloc (.cells z16.toArray 23)).setRow w1.heap.size C.toArray = v1 at sA sn sB ⊢
       have k6 := sn.cell 6
       rw [HC.out.1] at k6
       have f6 := sn.frozen 6
       have s6 := sn.set 6 (.int .u8 (x'.toNat : Int))
       have k8 := s6.cell 8
       rw [List.getElem?_set_ne (by omega), HC.out.2.1] at k8
       have f8 := s6.frozen 8
       have s8 := s6.set 8 (.int .u8 (y'.toNat : Int))
       rw [← HC.out.2.2] at s8
       have tA := (sA.far (p := ⟨w1.heap.size, 6, none⟩) (by show w.heap.size ≠ w1.heap.size; omega) (.int .u8 (x'.toNat : Int))).far (p := ⟨w1.heap.size, 8, none⟩) (by show w.heap.size ≠ w1.heap.size; omega) (.int .u8 (y'.toNat : Int))
       have tB := (sB.setCell (p := ⟨w1.heap.size, 6, none⟩) (by show w.heap.size ≤ w1.heap.size; omega) (.int .u8 (x'.toNat : Int))).setCell (p := ⟨w1.heap.size, 8, none⟩) (by show w.heap.size ≤ w1.heap.size; omega) (.int .u8 (y'.toNat : Int))
       have k8 := k8
       have HS := Lib.hid (And.intro s8 (And.intro tA tB))
       clear sA sn sB s6 s8 tA tB)
    | (refine wpList_load_row rfl 23 (.tmp 4) rfl w1.heap.size rfl 23 D.toArray (0, 0) _ HS.out.1 Tryz.underlying23 rfl (by rw [u16_size, List.size_toArray, HK.out.2.1]) ?_)
    | (refine wpList_store_row rfl 23 (.tmp 2) (.tmp 25) rfl w.heap.size D.toArray rfl rfl 23 z16.toArray HS.out.2.1 (by rw [u16_size, List.size_toArray, HK.out.2.1]) (by rw [List.size_toArray, List.size_toArray, HK.out.2.1]; rfl) HK.out.2.2.2 ?_))
  have hp := HS.out.2.1.put D
  have hq := below_setRow (B := w.heap.size) HS.out.2.2 (Nat.le_refl _) D.toArray
  exact bodyPost_ret (v := .tuple #[.agg D.toArray, .int .i64 0]) (results_row_tmp rfl _ _ w.heap.size 23 D.toArray (0, 0) _ rfl hp Tryz.underlying23 rfl (by rw [u16_size, List.size_toArray, HK.out.2.1]) _ rfl) rfl ⟨rfl, hq⟩

set_option maxRecDepth 20000 in
set_option maxHeartbeats 2000000 in
theorem draw_bad (r : ByteArray) (hr : r.size ≠ 16) (w : World) :
    Calls Tryz.prog 13 #[.string r] w fun e w' => e = .returned (.tuple #[.agg z16.toArray, .int .i64 4]) ∧ Below w.heap.size w w' := by
  have hz := (zero_of_info u16_info).1
  have HID := Lib.hid (fun W => id_bad r hr W)
  clear hr
  go_enter Tryz.func13, Tryz.ntmps13
  go_wp2_with fail
  refine (HID.out _).mono ?_
  rintro e w1 ⟨rfl, hb⟩
  have rA := (Row.new w 23 z16).below hb (by simp)
  have hbw : Below w.heap.size w w1 := ((Below.refl w.heap.size w).alloc (Nat.le_refl _) (.cells z16.toArray 23)).trans (hb.mono (by simp))
  have hlt := rA.lt
  have sA := (rA.alloc (.cells z16.toArray 23)).put_far (g' := w1.heap.size) (by omega) z16.toArray
  have sB := below_setRow (B := w.heap.size) (hbw.alloc hbw.size (.cells z16.toArray 23)) hbw.size z16.toArray
  have HS := Lib.hid (And.intro sA sB)
  clear sA sB rA hbw hb
  go_wp2_with (first
    | (refine wpList_store_row rfl 23 (.tmp 4) (.tmp 9) rfl w1.heap.size z16.toArray rfl rfl 23 z16.toArray (Row.new w1 _ z16) u16_size rfl z16_one ?_)
    | (refine wpList_store_row rfl 23 (.tmp 2) (.tmp 13) rfl w.heap.size z16.toArray rfl rfl 23 z16.toArray HS.out.1 u16_size rfl z16_one ?_))
  have hp := HS.out.1.put z16
  have hq := below_setRow (B := w.heap.size) HS.out.2 (Nat.le_refl _) z16.toArray
  exact bodyPost_ret (v := .tuple #[.agg z16.toArray, .int .i64 4]) (results_row_tmp rfl _ _ w.heap.size 23 z16.toArray (0, 0) _ rfl hp Tryz.underlying23 rfl u16_size _ rfl) rfl ⟨rfl, hq⟩

set_option maxRecDepth 20000 in
set_option maxHeartbeats 2000000 in
theorem refDraw_any (r : ByteArray) (hr : r.size = 16) (w : World) :
    Calls Tryz.prog 16 #[.string r] w fun e w' => e = .returned (.agg ((drawL r.data.toList).map bv).toArray) ∧ Below w.heap.size w w' := by
  have hz := (zero_of_info u16_info).1
  have hl : r.data.toList.length = 16 := by rw [← hr]; simp
  have HID := Lib.hid (fun W => of_any r hr W)
  obtain ⟨x, y, x', y', a, b, C, D, hC, hD, hCl, hDl, oC, oD, hc6, hc8, hDC, hxa, hyb, ha, ho, ha', ho', hxn, hyn⟩ := draw_parts r.data.toList hl
  rw [hC] at HID
  rw [hD]
  have HK := Lib.hid (And.intro hCl (And.intro hDl (And.intro oC oD)))
  have HC := Lib.hid (And.intro hc6 (And.intro hc8 hDC))
  have hX : ((x.toNat : Int) % 16 + 64) % 256 = (x'.toNat : Int) := by omega
  have hY : ((y.toNat : Int) % 64 + 128) % 256 = (y'.toNat : Int) := by omega
  have hX2 : (x.toNat : Int) % 16 + 64 = (x'.toNat : Int) := by omega
  have hY2 : (y.toNat : Int) % 64 + 128 = (y'.toNat : Int) := by omega
  clear hC hD hCl hDl oC oD hc6 hc8 hDC hl hr ha ho ha' ho' hxa hyb hxn hyn
  go_enter Tryz.func16, Tryz.ntmps16
  go_wp2_with fail
  refine (HID.out _).mono ?_
  rintro e w1 ⟨rfl, hb⟩
  have rA := (Row.new w 23 z16).below hb (by simp)
  have hbw : Below w.heap.size w w1 := ((Below.refl w.heap.size w).alloc (Nat.le_refl _) (.cells z16.toArray 23)).trans (hb.mono (by simp))
  have hlt := rA.lt
  have sA := (rA.alloc (.cells z16.toArray 23)).put_far (g' := w1.heap.size) (by omega) C.toArray
  have sn := (Row.new w1 23 z16).put C
  have sB := below_setRow (B := w.heap.size) (hbw.alloc hbw.size (.cells z16.toArray 23)) hbw.size C.toArray
  clear rA hbw hb
  go_wp2_with (first
    | (refine wpList_store_row rfl 23 (.tmp 3) (.tmp 5) rfl w1.heap.size C.toArray rfl rfl 23 z16.toArray (Row.new w1 _ z16) (by rw [u16_size, List.size_toArray, HK.out.1]) (by rw [List.size_toArray, List.size_toArray, HK.out.1]; rfl) HK.out.2.2.1 ?_
       generalize (w1.alloc (.cells z16.toArray 23)).setRow w1.heap.size C.toArray = v1 at sA sn sB ⊢
       have k6 := sn.cell 6
       rw [HC.out.1] at k6
       have f6 := sn.frozen 6
       have s6 := sn.set 6 (.int .u8 (x'.toNat : Int))
       have k8 := s6.cell 8
       rw [List.getElem?_set_ne (by omega), HC.out.2.1] at k8
       have f8 := s6.frozen 8
       have s8 := s6.set 8 (.int .u8 (y'.toNat : Int))
       rw [← HC.out.2.2] at s8
       have tA := (sA.far (p := ⟨w1.heap.size, 6, none⟩) (by show w.heap.size ≠ w1.heap.size; omega) (.int .u8 (x'.toNat : Int))).far (p := ⟨w1.heap.size, 8, none⟩) (by show w.heap.size ≠ w1.heap.size; omega) (.int .u8 (y'.toNat : Int))
       have tB := (sB.setCell (p := ⟨w1.heap.size, 6, none⟩) (by show w.heap.size ≤ w1.heap.size; omega) (.int .u8 (x'.toNat : Int))).setCell (p := ⟨w1.heap.size, 8, none⟩) (by show w.heap.size ≤ w1.heap.size; omega) (.int .u8 (y'.toNat : Int))
       have k8 := k8
       have HS := Lib.hid (And.intro s8 (And.intro tA tB))
       clear sA sn sB s6 s8 tA tB)
    | (refine wpList_load_row rfl 23 (.tmp 3) rfl w1.heap.size rfl 23 D.toArray (0, 0) _ HS.out.1 Tryz.underlying23 rfl (by rw [u16_size, List.size_toArray, HK.out.2.1]) ?_)
    | (refine wpList_store_row rfl 23 (.tmp 2) (.tmp 16) rfl w.heap.size D.toArray rfl rfl 23 z16.toArray HS.out.2.1 (by rw [u16_size, List.size_toArray, HK.out.2.1]) (by rw [List.size_toArray, List.size_toArray, HK.out.2.1]; rfl) HK.out.2.2.2 ?_))
  have hp := HS.out.2.1.put D
  have hq := below_setRow (B := w.heap.size) HS.out.2.2 (Nat.le_refl _) D.toArray
  exact bodyPost_ret (v := .agg D.toArray) (results_cell_row rfl _ _ w.heap.size 23 D.toArray (0, 0) _ rfl hp Tryz.underlying23 rfl (by rw [u16_size, List.size_toArray, HK.out.2.1])) rfl ⟨rfl, hq⟩
end Go.Proofs.YtdhplohppcndhaaGreatDoor

namespace Go.Proofs.YtdhplohppcndhaaGreatDoor
open Go.RowKit
set_option linter.unusedVariables false

attribute [local irreducible] hmacL shaL
set_option maxRecDepth 20000 in
set_option maxHeartbeats 2000000 in
theorem derive_any (key name : ByteArray) (hk : key.size ≤ 10000) (hn : name.size ≤ 10000) (w : World) (hG : G w) :
    Calls Tryz.prog 14 #[.string key, .string name] w fun e w' => e = .returned (.agg ((drawL ((hmacL key.data.toList name.data.toList).take 16)).map bv).toArray) ∧ Below w.heap.size w w' := by
  have hz := (zero_of_info u16_info).1
  obtain ⟨r, hr⟩ : ∃ r : ByteArray, (⟨(hmacL key.data.toList name.data.toList).toArray⟩ : ByteArray).extract 0 16 = r := ⟨_, rfl⟩
  have hrl : r.data.toList = (hmacL key.data.toList name.data.toList).take 16 := by rw [← hr, Lib.extract_data, List.drop_zero]
  have hrs : r.size = 16 := by
    have e : r.size = r.data.toList.length := by simp
    rw [e, hrl, List.length_take, hmacL_length]; rfl
  have HSH : Hid (∀ (W : World) (g : Nat), G W → Row W g 9 [.string name] → Calls Tryz.prog 30 #[.string key, .int .i64 16, .slice (some ⟨g, 0, none⟩) 1 1] W fun e w' => e = .returned (.string r) ∧ Below W.heap.size W w') := Lib.hid fun W g h1 h2 => by
    have h := HmShort_one key name 16 (by omega) 16 (by omega) (by decide) (by omega) (by omega) W g h1 h2
    rwa [hr] at h
  have HD := Lib.hid (fun W => draw_ok r hrs W)
  rw [hrl] at HD
  obtain ⟨L, hL⟩ : ∃ L, drawL ((hmacL key.data.toList name.data.toList).take 16) = L := ⟨_, rfl⟩
  have hLl : L.length = 16 := by rw [← hL, drawL_length, List.length_take, hmacL_length]; rfl
  rw [hL] at HD ⊢
  have oC := one_bytes L
  obtain ⟨C, hC⟩ : ∃ C, L.map bv = C := ⟨_, rfl⟩
  have hCl : C.length = 16 := by rw [← hC, List.length_map, hLl]
  rw [hC] at HD oC ⊢
  have HK := Lib.hid (And.intro hCl oC)
  have r0 := (Row.new w 23 z16).alloc (.cells #[.string name] 9)
  have r1 := Row.new (w.alloc (.cells z16.toArray 23)) 9 [Value.string name]
  rw [World.size_alloc] at r1
  have b1 : Below w.heap.size w ((w.alloc (.cells z16.toArray 23)).alloc (.cells #[.string name] 9)) := ((Below.refl _ _).alloc (Nat.le_refl _) _).alloc (by simp) _
  have HC1 := HSH.out _ (w.heap.size + 1) (hG.below b1) r1
  have H0 := Lib.hid (And.intro r0 b1)
  clear hG hr hrl hrs hL hLl hC hCl oC r0 r1 b1 HSH hk hn
  go_enter Tryz.func14, Tryz.ntmps14
  go_wp2_with fail
  refine HC1.mono ?_
  rintro e w1 ⟨rfl, hb⟩
  have q0 := H0.out.1.below hb H0.out.1.lt
  have B1 := H0.out.2.trans (hb.mono H0.out.2.size)
  clear hb HC1
  go_wp2_with fail
  refine (HD.out _).mono ?_
  rintro e w2 ⟨rfl, hb⟩
  have p0 := q0.below hb q0.lt
  have B2 := B1.trans (hb.mono B1.size)
  clear hb q0 B1 H0
  have sA := (p0.alloc (.cells z16.toArray 23)).put_far (g' := w2.heap.size) (by have := p0.lt; omega) C.toArray
  have sn := (Row.new w2 23 z16).put C
  have sB := below_setRow (B := w.heap.size) (B2.alloc B2.size (.cells z16.toArray 23)) B2.size C.toArray
  clear p0 B2
  go_wp2_with (first
    | (refine wpList_store_row rfl 23 (.tmp 5) (.tmp 13) rfl w2.heap.size C.toArray rfl rfl 23 z16.toArray (Row.new w2 _ z16) (by rw [u16_size, List.size_toArray, HK.out.1]) (by rw [List.size_toArray, List.size_toArray, HK.out.1]; rfl) HK.out.2 ?_
       generalize (w2.alloc (.cells z16.toArray 23)).setRow w2.heap.size C.toArray = v1 at sA sn sB ⊢)
    | (refine wpList_load_row rfl 23 (.tmp 5) rfl w2.heap.size rfl 23 C.toArray (0, 0) _ sn Tryz.underlying23 rfl (by rw [u16_size, List.size_toArray, HK.out.1]) ?_)
    | (refine wpList_store_row rfl 23 (.tmp 4) (.tmp 15) rfl w.heap.size C.toArray rfl rfl 23 z16.toArray sA (by rw [u16_size, List.size_toArray, HK.out.1]) (by rw [List.size_toArray, List.size_toArray, HK.out.1]; rfl) HK.out.2 ?_))
  have hp := sA.put C
  have hq := below_setRow (B := w.heap.size) sB (Nat.le_refl _) C.toArray
  exact bodyPost_ret (v := .agg C.toArray) (results_cell_row rfl _ _ w.heap.size 23 C.toArray (0, 0) _ rfl hp Tryz.underlying23 rfl (by rw [u16_size, List.size_toArray, HK.out.1])) rfl ⟨rfl, hq⟩

set_option maxRecDepth 20000 in
set_option maxHeartbeats 2000000 in
theorem refDerive_any (key name : ByteArray) (hk : key.size ≤ 10000) (hn : name.size ≤ 10000) (w : World) :
    Calls Tryz.prog 15 #[.string key, .string name] w fun e w' => e = .returned (.agg ((drawL ((hmacL key.data.toList name.data.toList).take 16)).map bv).toArray) ∧ Below w.heap.size w w' := by
  have hz := (zero_of_info u16_info).1
  have HS := Lib.hid (fun W => refHm_any key name hk hn W)
  obtain ⟨R, hR⟩ : ∃ R : ByteArray, (⟨(hmacL key.data.toList name.data.toList).toArray⟩ : ByteArray) = R := ⟨_, rfl⟩
  have hRl : R.data.toList = hmacL key.data.toList name.data.toList := by rw [← hR]
  rw [hR] at HS
  have hRs : R.size = 32 := by
    have e : R.size = R.data.toList.length := by simp
    rw [e, hRl, hmacL_length]
  have hrl : (R.extract 0 16).data.toList = (hmacL key.data.toList name.data.toList).take 16 := by rw [Lib.extract_data, List.drop_zero, hRl]
  have hrs : (R.extract 0 16).size = 16 := by
    have e : (R.extract 0 16).size = (R.extract 0 16).data.toList.length := by simp
    rw [e, hrl, List.length_take, hmacL_length]; rfl
  have HD := Lib.hid (fun W => refDraw_any (R.extract 0 16) hrs W)
  rw [hrl] at HD
  obtain ⟨L, hL⟩ : ∃ L, drawL ((hmacL key.data.toList name.data.toList).take 16) = L := ⟨_, rfl⟩
  have hLl : L.length = 16 := by rw [← hL, drawL_length, List.length_take, hmacL_length]; rfl
  rw [hL] at HD ⊢
  have oC := one_bytes L
  obtain ⟨C, hC⟩ : ∃ C, L.map bv = C := ⟨_, rfl⟩
  have hCl : C.length = 16 := by rw [← hC, List.length_map, hLl]
  rw [hC] at HD oC ⊢
  have HK := Lib.hid (And.intro hCl oC)
  have hRI : (R.size : Int) = 32 := by omega
  have hRI2 : (16 : Int) ≤ (R.size : Int) := by omega
  clear hR hRl hRs hrl hrs hL hLl hC hCl oC hk hn
  go_enter Tryz.func15, Tryz.ntmps15
  go_wp2_with fail
  refine (HS.out _).mono ?_
  rintro e w1 ⟨rfl, hb⟩
  have q0 := (Row.new w 23 z16).below hb (by simp)
  have B1 : Below w.heap.size w w1 := ((Below.refl w.heap.size w).alloc (Nat.le_refl _) (.cells z16.toArray 23)).trans (hb.mono (by simp))
  clear hb
  go_wp2_with fail
  refine (HD.out _).mono ?_
  rintro e w2 ⟨rfl, hb⟩
  have p0 := q0.below hb q0.lt
  have B2 := B1.trans (hb.mono B1.size)
  clear hb q0 B1
  go_wp2_with (first
    | (refine wpList_store_row rfl 23 (.tmp 4) (.tmp 9) rfl w.heap.size C.toArray rfl rfl 23 z16.toArray p0 (by rw [u16_size, List.size_toArray, HK.out.1]) (by rw [List.size_toArray, List.size_toArray, HK.out.1]; rfl) HK.out.2 ?_)
    | fail)
  have hp := p0.put C
  have hq := below_setRow (B := w.heap.size) B2 (Nat.le_refl _) C.toArray
  exact bodyPost_ret (v := .agg C.toArray) (results_cell_row rfl _ _ w.heap.size 23 C.toArray (0, 0) _ rfl hp Tryz.underlying23 rfl (by rw [u16_size, List.size_toArray, HK.out.1])) rfl ⟨rfl, hq⟩
end Go.Proofs.YtdhplohppcndhaaGreatDoor

namespace Go.Proofs.YtdhplohppcndhaaGreatDoor
open Go.RowKit
set_option linter.unusedVariables false

section
variable {P : Program} {C : World → Prop} {o : Oper} {a : Act}
theorem quiet_neq_agg {K : Act → Prop} (t : TypeId) (x y : Operand) (t2 : TypeId) (ho : o.op = .binOp .neq t x y t2)
    (cs ds : Array Value) (hx : a.eval x = .agg cs) (hy : a.eval y = .agg ds) (hm : P.eqGuardType P.depth t = false) (r : Bool) (he : ∀ W, (binOp .neq t (.agg cs) (.agg ds)).run P W = .ok (.bool r) W) (hk : K (a.put o.dst (.bool r))) : o.quiet P a C K :=
  ⟨_, fun w hw => by
    unfold Oper.quietAt execOp
    simp only [ho, hx, hy, Sem.run_bind, run_eqGuard_agg w .neq t x y cs ds hm, he, Result.andThen_ok, Sem.run_pure]
    exact ⟨rfl, rfl⟩, hk⟩
end
/-- What the drawn id's walk wants to know of sixteen bytes. -/
theorem six_version (l : List UInt8) (h : l.length = 16) : ∃ x : UInt8, (drawL l)[6]? = some x ∧ (x.toNat : Int) / 16 = 4 := by
  refine ⟨_, drawL_six l h, ?_⟩
  have hxn : (UInt8.ofNat ((l.getD 6 0).toNat % 16 + 64)).toNat = (l.getD 6 0).toNat % 16 + 64 := by rw [UInt8.toNat_ofNat']; omega
  rw [hxn]
  omega

attribute [local irreducible] hmacL shaL
set_option maxRecDepth 20000 in
set_option maxHeartbeats 4000000 in
theorem IdsDraws_walk (a0 a1 a2 : ByteArray) (w0 : a0.size ≤ 140737488355328) (w1 : a1.size ≤ 140737488355328) (w2 : a2.size ≤ 140737488355328) (w : World) (hG : G w) :
    Calls Tryz.prog 4 #[.string a0, .string a1, .string a2] w fun e w' => e = .returned (.bool true) ∧ Below w.heap.size w w' := by
  have hz := (zero_of_info u16_info).1
  have HG := Lib.hid hG
  clear hG
  by_cases hbig : 200 < a0.size ∨ 200 < a1.size ∨ 200 < a2.size
  · have hb1 : (200 : Int) < max (max (a0.size : Int) (a1.size : Int)) (a2.size : Int) := by omega
    clear hbig
    go_enter Tryz.func4, Tryz.ntmps4
    go_wp2_with fail
    refine (awake10_any _ HG.out).mono ?_
    rintro e wa ⟨rfl, hba⟩
    go_wp2_with fail
    all_goals
      go_ret
      exact ⟨rfl, hba⟩
  · have h0 : a0.size ≤ 200 := by omega
    have h1 : a1.size ≤ 200 := by omega
    have h2 : a2.size ≤ 200 := by omega
    clear hbig
    have hb0 : (a0.size : Int) ≤ 200 := by omega
    have hb1 : (a1.size : Int) ≤ 200 := by omega
    have hb2 : (a2.size : Int) ≤ 200 := by omega
    have hml : ((hmacL a1.data.toList a2.data.toList).take 16).length = 16 := by rw [List.length_take, hmacL_length]; rfl
    have HDE := Lib.hid (fun W h => derive_any a1 a2 (by omega) (by omega) W h)
    have HRE := Lib.hid (fun W => refDerive_any a1 a2 (by omega) (by omega) W)
    obtain ⟨x6, hx6, hv6⟩ := six_version _ hml
    obtain ⟨L, hL⟩ : ∃ L, drawL ((hmacL a1.data.toList a2.data.toList).take 16) = L := ⟨_, rfl⟩
    have hLl : L.length = 16 := by rw [← hL, drawL_length, hml]
    rw [hL] at HDE HRE hx6
    have HV : Hid (∀ W : World, Calls Tryz.prog 11 #[.agg (L.map bv).toArray] W fun e w' => e = .returned (.int .i64 4) ∧ Below W.heap.size W w') := Lib.hid fun W => by
      have h := idVersion_any L x6 hx6 W
      rwa [hv6] at h
    have hui : (Tryz.prog.info? 5).map (fun i => (i.zero, i.size, i.bytes)) = some (some (.int .u8 0), 1, 1) := by kernel_rfl
    have heq : ∀ (p : List UInt8), p.length = 16 → ∀ W : World, (Op.equalIn 10000 23 (.agg (p.map bv).toArray) (.agg (p.map bv).toArray)).run Tryz.prog W = .ok true W := fun p hp W => by
      obtain ⟨i, hi, _⟩ := info_parts hui
      have h := arr_equalIn (P := Tryz.prog) 23 5 16 p p hp hp Tryz.underlying23 Tryz.underlying5 (Tryz.isAgg5) i hi (by kernel_rfl) W
      rwa [show decide (p = p) = true from decide_eq_true rfl] at h
    have HEL : Hid (∀ W : World, (binOp .neq 23 (.agg (L.map bv).toArray) (.agg (L.map bv).toArray)).run Tryz.prog W = .ok (.bool false) W) := Lib.hid fun W => by
      rw [run_neq_struct, heq L hLl W]; rfl
    have oE := one_bytes L
    obtain ⟨E, hE⟩ : ∃ E, L.map bv = E := ⟨_, rfl⟩
    have hEl : E.length = 16 := by rw [← hE, List.length_map, hLl]
    rw [hE] at HDE HRE HV HEL oE
    have hU16 : (Tryz.prog.info? 23).map (·.size) = some 16 := u16_size
    have hiE : (Tryz.prog.info? 23).map (·.size) = some E.length := by rw [hEl]; exact hU16
    have HK := Lib.hid (And.intro hEl (And.intro oE (And.intro hiE Tryz.underlying23)))
    clear hx6 hv6 hL hLl hE hEl oE hiE hml h1 h2
    obtain ⟨X, D, er, hDX, hXl, oX, hcase⟩ : ∃ (X : List UInt8) (D : List Value) (er : Int), X.map bv = D ∧ X.length = 16 ∧ D.toArray.all (·.oneCell') = true ∧
        (∀ W : World, Calls Tryz.prog 13 #[.string a0] W fun e w' => e = .returned (.tuple #[.agg D.toArray, .int .i64 er]) ∧ Below W.heap.size W w') ∧
        (((a0.size : Int) = 16 ∧ er = 0 ∧ (∀ W : World, Calls Tryz.prog 16 #[.string a0] W fun e w' => e = .returned (.agg D.toArray) ∧ Below W.heap.size W w') ∧ (∀ W : World, Calls Tryz.prog 11 #[.agg D.toArray] W fun e w' => e = .returned (.int .i64 4) ∧ Below W.heap.size W w')) ∨
         (((a0.size : Int) != 16) = true ∧ (a0.size : Int) ≠ 16 ∧ er = 4 ∧ (∀ W : World, Calls Tryz.prog 10 #[.agg D.toArray] W fun e w' => e = .returned (.bool true) ∧ Below W.heap.size W w'))) := by
      by_cases h16 : a0.size = 16
      · have hl : a0.data.toList.length = 16 := by rw [← h16]; simp
        refine ⟨drawL a0.data.toList, _, 0, rfl, by rw [drawL_length, hl], one_bytes _, fun W => draw_ok a0 h16 W, .inl ⟨by omega, rfl, fun W => refDraw_any a0 h16 W, fun W => ?_⟩⟩
        obtain ⟨x, hx, hv⟩ := six_version a0.data.toList hl
        have h := idVersion_any (drawL a0.data.toList) x hx W
        rwa [hv] at h
      · refine ⟨List.replicate 16 0, z16, 4, rfl, rfl, z16_one, fun W => draw_bad a0 h16 W, .inr ⟨by rw [bne_iff_ne]; omega, by omega, rfl, fun W => ?_⟩⟩
        have h := idZero_any (List.replicate 16 0) rfl W
        rwa [show decide (List.replicate 16 (0 : UInt8) = List.replicate 16 0) = true from decide_eq_true rfl, ← z16_eq] at h
    obtain ⟨hDR, hcase⟩ := hcase
    have hDl : D.length = 16 := by rw [← hDX, List.length_map, hXl]
    have hiD : (Tryz.prog.info? 23).map (·.size) = some D.length := by rw [hDl]; exact hU16
    have HDD : Hid (∀ W : World, (binOp .eql 23 (.agg D.toArray) (.agg D.toArray)).run Tryz.prog W = .ok (.bool true) W) := Lib.hid fun W => by
      rw [run_eql_struct, ← hDX, heq X hXl W]; rfl
    have HK2 := Lib.hid (And.intro hDl (And.intro oX (And.intro hiD hDR)))
    clear hDl oX hiD hDR hDX hXl heq hui hU16 h0
    rcases hcase with ⟨h16, rfl, hRD, hVD⟩ | ⟨h16, h16', rfl, hZD⟩
    · have HR := Lib.hid (And.intro hRD hVD)
      have h16b : ((a0.size : Int) != 16) = false := by rw [h16]; rfl
      clear hRD hVD
      go_enter Tryz.func4, Tryz.ntmps4
      go_wp2_with fail
      refine (awake10_any _ HG.out).mono ?_
      rintro e w1 ⟨rfl, B1⟩
      go_wp2_with fail
      all_goals
        refine (HK2.out.2.2.2 _).mono ?_
        rintro e w2 ⟨rfl, hb⟩
        have B2 := B1.trans (hb.mono B1.size)
        clear hb B1
        obtain ⟨G2, HG2⟩ : ∃ g, Hid (w2.heap.size = g) := ⟨_, Lib.hid rfl⟩
        have sn := (Row.new w2 23 z16).put D
        have sB := below_setRow (B := w.heap.size) (B2.alloc B2.size (.cells z16.toArray 23)) B2.size D.toArray
        clear B2
        go_wp2_with (refine wpList_store_row rfl 23 (.tmp 7) (.tmp 23) rfl w2.heap.size D.toArray rfl rfl 23 z16.toArray (Row.new w2 _ z16) (by rw [u16_size, List.size_toArray, HK2.out.1]) (by rw [List.size_toArray, List.size_toArray, HK2.out.1]; rfl) HK2.out.2.1 ?_)
        generalize (w2.alloc (.cells z16.toArray 23)).setRow w2.heap.size D.toArray = v2 at sn sB ⊢
        rw [HG2.out] at sn ⊢
        clear HG2
        refine (HDE.out _ (HG.out.below sB)).mono ?_
        rintro e w3 ⟨rfl, hb⟩
        have q2 := sn.below hb sn.lt
        have B3 := sB.trans (hb.mono sB.size)
        clear hb sB sn
        obtain ⟨G3, HG3⟩ : ∃ g, Hid (w3.heap.size = g) := ⟨_, Lib.hid rfl⟩
        have s2 := (q2.alloc (.cells z16.toArray 23)).put_far (g' := w3.heap.size) (by have := q2.lt; omega) E.toArray
        have sn := (Row.new w3 23 z16).put E
        have sB := below_setRow (B := w.heap.size) (B3.alloc B3.size (.cells z16.toArray 23)) B3.size E.toArray
        clear q2 B3
        go_wp2_with (refine wpList_store_row rfl 23 (.tmp 9) (.tmp 27) rfl w3.heap.size E.toArray rfl rfl 23 z16.toArray (Row.new w3 _ z16) (by rw [u16_size, List.size_toArray, HK.out.1]) (by rw [List.size_toArray, List.size_toArray, HK.out.1]; rfl) HK.out.2.1 ?_)
        generalize (w3.alloc (.cells z16.toArray 23)).setRow w3.heap.size E.toArray = v3 at s2 sn sB ⊢
        rw [HG3.out] at sn ⊢
        clear HG3
        have HR3 : Hid (∀ W, Below v3.heap.size v3 W → Row W G3 23 E) := Lib.hid fun W h => sn.below h sn.lt
        have HR2 : Hid (∀ W, Below v3.heap.size v3 W → Row W G2 23 D) := Lib.hid fun W h => s2.below h s2.lt
        have HB : Hid (∀ W, Below v3.heap.size v3 W → Below w.heap.size w W) := Lib.hid fun W h => sB.trans (h.mono sB.size)
        clear s2 sn sB HG
        simp only [Act.put]
        refine region_quiet_lit (Below v3.heap.size v3) (by kernel_rfl) (by kernel_rfl) (below_drewN (Below.refl _ _) 1) ?_
        repeat (first
          | (go_big_quiet_want; (first
              | refine quiet_load_row 23 (.tmp 9) (by rfl) G3 (by rfl) 23 E _ HR3.out HK.out.2.2.2 rfl HK.out.2.2.1 ?_
              | refine quiet_neq_agg 23 (.tmp 28) (.tmp 31) 23 (by rfl) _ _ (by rfl) (by rfl) (by kernel_rfl) _ HEL.out ?_); go_big_quiet_on; simp only [Act.put, List.setIfInBounds_toArray, List.set_cons_zero, List.set_cons_succ])
          | go_big_quiet_step ((first
            | (intro hC; with_reducible rfl)
            | (intro hC; go_at_call 15; refine (HRE.out _).mono ?_; rintro e w'' ⟨rfl, hb⟩; exact ⟨rfl, hC.trans (hb.mono hC.size)⟩)
            | (intro hC; go_at_call 11; refine (HV.out _).mono ?_; rintro e w'' ⟨rfl, hb⟩; exact ⟨rfl, hC.trans (hb.mono hC.size)⟩))))
        refine wpQuiet_nil ?_
        intro wy hwy
        go_wp2_with fail
        refine region_quiet_lit (Below v3.heap.size v3) (by kernel_rfl) (by kernel_rfl) (below_drewN hwy 1) ?_
        repeat (first
          | (go_big_quiet_want; (first
              | refine quiet_load_row 23 (.tmp 7) (by rfl) G2 (by rfl) 23 D _ HR2.out HK.out.2.2.2 rfl HK2.out.2.2.1 ?_
              | refine quiet_eql_agg 23 (.tmp 50) (.tmp 52) 23 (by rfl) _ _ (by rfl) (by rfl) (by kernel_rfl) _ HDD.out ?_); go_big_quiet_on; simp only [Act.put, List.setIfInBounds_toArray, List.set_cons_zero, List.set_cons_succ])
          | go_big_quiet_step ((first
            | (intro hC; with_reducible rfl)
            | (intro hC; go_at_call 16; refine (HR.out.1 _).mono ?_; rintro e w'' ⟨rfl, hb⟩; exact ⟨rfl, hC.trans (hb.mono hC.size)⟩)
            | (intro hC; go_at_call 11; refine (HR.out.2 _).mono ?_; rintro e w'' ⟨rfl, hb⟩; exact ⟨rfl, hC.trans (hb.mono hC.size)⟩))))
        refine wpQuiet_nil ?_
        intro wz hwz
        go_wp2
        go_ret
        exact ⟨rfl, HB.out _ hwz⟩
    · have HZ := Lib.hid hZD
      clear hZD
      go_enter Tryz.func4, Tryz.ntmps4
      go_wp2_with fail
      refine (awake10_any _ HG.out).mono ?_
      rintro e w1 ⟨rfl, B1⟩
      go_wp2_with fail
      all_goals
        refine (HK2.out.2.2.2 _).mono ?_
        rintro e w2 ⟨rfl, hb⟩
        have B2 := B1.trans (hb.mono B1.size)
        clear hb B1
        obtain ⟨G2, HG2⟩ : ∃ g, Hid (w2.heap.size = g) := ⟨_, Lib.hid rfl⟩
        have sn := (Row.new w2 23 z16).put D
        have sB := below_setRow (B := w.heap.size) (B2.alloc B2.size (.cells z16.toArray 23)) B2.size D.toArray
        clear B2
        go_wp2_with (refine wpList_store_row rfl 23 (.tmp 7) (.tmp 23) rfl w2.heap.size D.toArray rfl rfl 23 z16.toArray (Row.new w2 _ z16) (by rw [u16_size, List.size_toArray, HK2.out.1]) (by rw [List.size_toArray, List.size_toArray, HK2.out.1]; rfl) HK2.out.2.1 ?_)
        generalize (w2.alloc (.cells z16.toArray 23)).setRow w2.heap.size D.toArray = v2 at sn sB ⊢
        rw [HG2.out] at sn ⊢
        clear HG2
        refine (HDE.out _ (HG.out.below sB)).mono ?_
        rintro e w3 ⟨rfl, hb⟩
        have q2 := sn.below hb sn.lt
        have B3 := sB.trans (hb.mono sB.size)
        clear hb sB sn
        obtain ⟨G3, HG3⟩ : ∃ g, Hid (w3.heap.size = g) := ⟨_, Lib.hid rfl⟩
        have s2 := (q2.alloc (.cells z16.toArray 23)).put_far (g' := w3.heap.size) (by have := q2.lt; omega) E.toArray
        have sn := (Row.new w3 23 z16).put E
        have sB := below_setRow (B := w.heap.size) (B3.alloc B3.size (.cells z16.toArray 23)) B3.size E.toArray
        clear q2 B3
        go_wp2_with (refine wpList_store_row rfl 23 (.tmp 9) (.tmp 27) rfl w3.heap.size E.toArray rfl rfl 23 z16.toArray (Row.new w3 _ z16) (by rw [u16_size, List.size_toArray, HK.out.1]) (by rw [List.size_toArray, List.size_toArray, HK.out.1]; rfl) HK.out.2.1 ?_)
        generalize (w3.alloc (.cells z16.toArray 23)).setRow w3.heap.size E.toArray = v3 at s2 sn sB ⊢
        rw [HG3.out] at sn ⊢
        clear HG3
        have HR3 : Hid (∀ W, Below v3.heap.size v3 W → Row W G3 23 E) := Lib.hid fun W h => sn.below h sn.lt
        have HR2 : Hid (∀ W, Below v3.heap.size v3 W → Row W G2 23 D) := Lib.hid fun W h => s2.below h s2.lt
        have HB : Hid (∀ W, Below v3.heap.size v3 W → Below w.heap.size w W) := Lib.hid fun W h => sB.trans (h.mono sB.size)
        clear s2 sn sB HG
        simp only [Act.put]
        refine region_quiet_lit (Below v3.heap.size v3) (by kernel_rfl) (by kernel_rfl) (below_drewN (Below.refl _ _) 1) ?_
        repeat (first
          | (go_big_quiet_want; (first
              | refine quiet_load_row 23 (.tmp 9) (by rfl) G3 (by rfl) 23 E _ HR3.out HK.out.2.2.2 rfl HK.out.2.2.1 ?_
              | refine quiet_neq_agg 23 (.tmp 28) (.tmp 31) 23 (by rfl) _ _ (by rfl) (by rfl) (by kernel_rfl) _ HEL.out ?_); go_big_quiet_on; simp only [Act.put, List.setIfInBounds_toArray, List.set_cons_zero, List.set_cons_succ])
          | go_big_quiet_step ((first
            | (intro hC; with_reducible rfl)
            | (intro hC; go_at_call 15; refine (HRE.out _).mono ?_; rintro e w'' ⟨rfl, hb⟩; exact ⟨rfl, hC.trans (hb.mono hC.size)⟩)
            | (intro hC; go_at_call 11; refine (HV.out _).mono ?_; rintro e w'' ⟨rfl, hb⟩; exact ⟨rfl, hC.trans (hb.mono hC.size)⟩))))
        refine wpQuiet_nil ?_
        intro wy hwy
        have q2 := HR2.out _ hwy
        go_wp2_with (refine wpList_want (by rfl) fun _ hK => wp_load_row 23 (.tmp 7) rfl G2 rfl 23 D.toArray (0, 0) _ q2 Tryz.underlying23 rfl (by rw [u16_size, List.size_toArray, HK2.out.1]) (hK _ _ ?_))
        refine (HZ.out _).mono ?_
        rintro e wz ⟨rfl, hb⟩
        have hwz := hwy.trans (hb.mono hwy.size)
        go_wp2_with fail
        go_ret
        exact ⟨rfl, HB.out _ hwz⟩
end Go.Proofs.YtdhplohppcndhaaGreatDoor

namespace Go.Proofs.YtdhplohppcndhaaGreatDoor
open Go.RowKit
set_option linter.unusedVariables false

theorem laidMet_tail {P : Program} {x : String × DataW Unit} {r : List (String × DataW Unit)} {w : World} (h : laidMet P (x :: r) w) : laidMet P r w := by
  obtain ⟨ps, hv, hn, hc⟩ := h
  obtain ⟨n, d⟩ := x
  obtain ⟨g, t, cs, fuel, p, q, _, _, _, _, hq, rfl⟩ := hv
  exact ⟨q, hq, (List.nodup_append.1 hn).2.1, fun b off hb => hc b off (List.mem_append.2 (.inr hb))⟩
theorem G_of_laid4 {W : World} (h : laidMetH Tryz.prog [("math/bits.deBruijn32tab", Rows.laid_math_bits_deBruijn32tab), ("math/bits.deBruijn64tab", Rows.laid_math_bits_deBruijn64tab), ("internal/strconv.uint64pow10", Rows.laid_internal_strconv_uint64pow10), ("cashier/sha.starts", Rows.laid_cashier_sha_starts)] W) : G W :=
  G_of_tab (Lib.tabIs_of_head (g := 3) (t := 104) (e := 93) (n := 8) (rest := []) (by kernel_rfl) (by kernel_rfl) Tryz.underlying104 Tryz.underlying93 (by kernel_rfl) (by kernel_rfl) (laidMet_tail (laidMet_tail (laidMet_tail h))))
end Go.Proofs.YtdhplohppcndhaaGreatDoor

namespace Go.Proofs.YtdhplohppcndhaaGreatDoor.idsDraws
open Go.ChangeShapes Go.WideShapes Go.ChangeAt Go.RowKit
open Go.ChangeMaps (open_string shut_string)
set_option linter.unusedVariables false

theorem own : ownKnob Tryz.prog.godebug = none := by kernel_rfl

theorem door_met (os : Os) (args : Array Value) : laidMetH Tryz.prog Rows.idsDrawsRow.laid ((World.doorLaid Tryz.prog 4000 os).forCall (fun _ _ => 0) ⟨#[], args, []⟩).memory :=
  laidMetH_of_parts3 (fuel := 8) (laidMet_of_run' 8 (by kernel_rfl) (by kernel_rfl)) (by kernel_rfl) (by kernel_rfl)

set_option maxRecDepth 100000 in
theorem lifted (os : Os) (started : os.Started) (H : Type) (enc : TypeId × Value → H) :
    ReturnsInHanded {} Tryz.checked os 4 .any (fun w args => (Rows.idsDrawsSpec.pre enc Tryz.prog Tryz.f4 Rows.idsDrawsRow.domain false w args ∧ laidMetH Tryz.prog Rows.idsDrawsRow.laid w) ∧ sizedMet enc Tryz.prog Tryz.f4 (OpenSpec.ofChange Rows.idsDrawsSpec) false w args) (Rows.idsDrawsSpec.post enc Tryz.prog Tryz.f4 false true false false) := by
  refine returnsInHanded_of_change_and (C := Tryz.checked) (X := fun w _ => laidMetH Tryz.prog Rows.idsDrawsRow.laid w) (fun _ _ _ hh h => h.of_heap hh) own started (by kernel_rfl) Tryz.func4
    (ChangeSpec.witness_shaped (enc := enc) (C := Tryz.checked) (os := os) (X := fun w _ => laidMetH Tryz.prog Rows.idsDrawsRow.laid w) false (World.doorLaid Tryz.prog 4000 os) #[.string ByteArray.empty, .string ByteArray.empty, .string ByteArray.empty] 8 rfl (World.shaped_of_RefB (by kernel_rfl) (by kernel_rfl)) (by kernel_rfl) (by kernel_rfl) (by kernel_rfl) (door_met os _)) ?_
  intro W base args ds gs before hval0 hW hcnd hsz0 hX1 hX2
  have hsz : (DataW.weightsEach Tryz.prog (Tryz.f4.params.toList ++ Rows.idsDrawsSpec.plain.varTypes Tryz.prog) (ds ++ gs)).all (· ≤ reachBytes) = true := hsz0
  have hval : ∀ (j : Nat) t v, Tryz.f4.params[j]? = some t → args[j]? = some v → Value.okWide Tryz.prog W .any base t v := hval0
  have hW' := hW
  obtain ⟨p, q, hA0, hV, rfl, hfz, hnd⟩ := hW
  have hA : DataW.TrodAll enc Tryz.prog W 0 (fun _ => true) true Tryz.f4.params.toList args.toList ds p := hA0
  rw [Tryz.params4] at hA hval hsz
  obtain ⟨v0, vs0, d0, ds0, p0, q0, hargs, rfl, rfl, h0, r0⟩ := trodAll_cons hA
  obtain ⟨v1, vs1, d1, ds1, p1, q1, rfl, rfl, rfl, h1, r1⟩ := trodAll_cons r0
  obtain ⟨v2, vs2, d2, ds2, p2, q2, rfl, rfl, rfl, h2, r2⟩ := trodAll_cons r1
  obtain ⟨rfl, rfl, rfl⟩ := trodAll_nil r2
  obtain rfl : args = #[v0, v1, v2] := by cases args; simp_all
  obtain ⟨rfl, rfl⟩ := trodVars_none hV
  obtain ⟨a0, rfl, rfl, rfl, m0⟩ := open_string Tryz.underlying9 (hval 0 9 v0 rfl rfl) h0
  obtain ⟨a1, rfl, rfl, rfl, m1⟩ := open_string Tryz.underlying9 (hval 1 9 v1 rfl rfl) h1
  obtain ⟨a2, rfl, rfl, rfl, m2⟩ := open_string Tryz.underlying9 (hval 2 9 v2 rfl rfl) h2
  have w0 : a0.size ≤ 140737488355328 := by
    have h47 := reachBytes_lt
    have hh := sized_string hsz (j := 0) (t := 9) rfl rfl
    rw [Array.length_toList] at hh
    exact Nat.le_of_lt (Nat.lt_of_le_of_lt hh h47)
  have w1 : a1.size ≤ 140737488355328 := by
    have h47 := reachBytes_lt
    have hh := sized_string hsz (j := 1) (t := 9) rfl rfl
    rw [Array.length_toList] at hh
    exact Nat.le_of_lt (Nat.lt_of_le_of_lt hh h47)
  have w2 : a2.size ≤ 140737488355328 := by
    have h47 := reachBytes_lt
    have hh := sized_string hsz (j := 2) (t := 9) rfl rfl
    rw [Array.length_toList] at hh
    exact Nat.le_of_lt (Nat.lt_of_le_of_lt hh h47)
  clear hA0 hval0 hsz hsz0
  simp only [List.append_nil] at hW'
  refine (IdsDraws_walk a0 a1 a2 w0 w1 w2 W (G_of_laid4 hX1)).mono fun e W' ⟨he, bel⟩ => ?_
  subst he
  exact ⟨_, rfl, _, _, _, [], _, [], hW', trodAll_mk1 (shut_bool Tryz.underlying4 _), (trodAll_cons_mk (shut_string Tryz.underlying9 m0) (trodAll_cons_mk (shut_string Tryz.underlying9 m1) (trodAll_cons_mk (shut_string Tryz.underlying9 m2) trodAll_mk0))), rfl, bel.frame _, fun h => by cases h⟩

theorem over : Rows.idsDrawsRow.holds Tryz.pinned (OpenSpec.ofChange Rows.idsDrawsSpec) :=
  OpenClaim.holds_of_wide 4 Tryz.f4 rfl rfl rfl rfl rfl rfl rfl ⟨rfl, rfl, rfl, rfl, rfl⟩ rfl rfl rfl rfl rfl (by kernel_rfl) Tryz.func4 (by kernel_rfl)
    (of_decide_eq_true (by kernel_rfl)) (by unfold Func.isWrapper; first | (rw [if_pos (by decide +kernel)]; kernel_rfl) | (rw [if_neg (by decide +kernel)]; exact ⟨rfl, rfl⟩))
    (fun os started H enc _ => lifted os started H enc)

theorem proved : Rows.IdsDrawsCardSaid :=
  Claim7.holds_tied_plain_at .later [] [.data, .data, .data, .data] true (true, "582309942808c3816f39cbb2e36d06b201a0d376f51611de1735ed66ffbf7b5c") false
    over (fun _ h => by cases h) (by kernel_rfl) (fun _ h => by cases h) idsDraws_row_tie rfl ⟨rfl, rfl⟩ (by kernel_rfl) rfl
    (fun f fn hf hfn => by
      obtain rfl : f = 4 := Option.some.inj ((show Tryz.prog.funcNamed "cashier/cashierlaw10.IdsDraws" = some 4 by kernel_rfl).symm.trans hf) |>.symm
      obtain rfl : fn = Tryz.f4 := (Option.some.inj (Tryz.func4.symm.trans hfn)).symm
      exact ⟨by kernel_rfl, fun j t ht => by
        rw [Tryz.params4] at ht
        have hm : t ∈ [9, 9, 9] := by simpa using Array.mem_of_getElem? ht
        have hall : ([9, 9, 9].all fun u => !Tryz.prog.wantsStandIn u) = true := by kernel_rfl
        exact (show Tryz.prog.wantsStandIn t = false by simpa using List.all_eq_true.1 hall t hm)⟩)
    (by kernel_rfl)

end Go.Proofs.YtdhplohppcndhaaGreatDoor.idsDraws
