/- The contracts of the document's writing, bit by bit. (In one text with what it leans on: Awk5, Grow, HCat, HPlain, HMask, HSumm, Awk6, IAwk, QuietL, IId, IRead, LiftS, ShelfC, FOf, USmall, URunes, UCount, FMark, FCheck, ShelfP, DDays, DDate, FFits, FFits2, FAwk, FRefCheck, DRef, DRefDate, URef, URefR, RefEnc.) -/
import Derived.Shelf.Spec.SlicesGrow
import Derived.OwnWalk
import Derived.BigQuiet
import Derived.DeepKeys
import Derived.Deep.MidRow
import Derived.Laws.ResultCell
import Derived.Laws.Cover3
import Derived.SizedLaws
import Derived.Shelf.Vars
import Derived.LaidMore
import Derived.SevenTiedAt
import Derived.Shelf.Slices.Clone
import Derived.Shelf.Slices.Turned
import Derived.Below
import Derived.WalkKit
import Derived.Deep.DeepCutAuto
import Derived.WalkSpells
import Derived.WalkLawsBesides
import Derived.Lib.Hide
import Derived.Deep.QuietTactic
import Derived.RangeFuncNested
import Derived.RangeFuncBound
import Derived.RangeFuncCalls
import Derived.RangeFuncLeaves
import Derived.Shelf.Abstract
import Derived.Shelf.RegionOpen
import Derived.OwnWalkIn
import Derived.TacticsInMore
import Derived.LoopNIn
import Derived.LoopIn
import Derived.Lib.OthersKept
import Derived.RangeFuncBox
import Derived.Maps.AppendAt
import Derived.Shelf.Pu.ParseUintPublic10
import Derived.Deep.AppendLies
import Derived.Deep.RegionHeld3
import Derived.IntWalk
import Derived.Laws.AppendOwn
import Derived.Test.YtcecibopanfmgaaGreatDoorSText
import Derived.Test.YtcecibopanfmgaaGreatDoorAwk
import Derived.Test.YtcecibopanfmgaaGreatDoorProg
import Derived.Test.YtcecibopanfmgaaGreatDoorSPlain
import Derived.Test.YtcecibopanfmgaaGreatDoorSHash
import Derived.Test.YtcecibopanfmgaaGreatDoorDCard
import Derived.Test.YtcecibopanfmgaaGreatDoorICmp
import Derived.Test.YtcecibopanfmgaaGreatDoorMem
import Derived.Test.YtcecibopanfmgaaGreatDoorRound
import Derived.Test.YtcecibopanfmgaaGreatDoorShelfR
import Derived.Test.YtcecibopanfmgaaGreatDoorIPars
import Derived.Test.YtcecibopanfmgaaGreatDoorFSmall
import Derived.Test.YtcecibopanfmgaaGreatDoorFStrs
import Derived.Test.YtcecibopanfmgaaGreatDoorRows
import Derived.Test.YtcecibopanfmgaaGreatDoorUPlain
import Derived.Test.YtcecibopanfmgaaGreatDoorFPlain
import Derived.Test.YtcecibopanfmgaaGreatDoorBase
namespace Go.Proofs.YtcecibopanfmgaaGreatDoor
open Go.RowKit
set_option linter.unusedVariables false

theorem Awake1_any (w : World) :
    Calls Tryz.prog 141 #[] w fun e w' => e = .returned (.bool true) ∧ Below w.heap.size w w' := by
  go_enter Tryz.func141, Tryz.ntmps141
  go_wp2_with (go_at_call 150; refine (awake_any _).mono ?_; rintro e wa ⟨rfl, hb⟩)
  go_ret
  exact ⟨rfl, hb⟩

theorem abc_prefix : Lib.hasPrefix (shaL [97, 98, 99]) [186, 120, 22, 191] = true := by
  have h := abc_example
  obtain ⟨a, b, c, d, t, e⟩ : ∃ a b c d t, shaL [97, 98, 99] = a :: b :: c :: d :: t := by
    have h2 := shaL_length [97, 98, 99]
    match hq : shaL [97, 98, 99] with
    | [] => rw [hq] at h2; cases h2
    | [_] => rw [hq] at h2; cases h2
    | [_, _] => rw [hq] at h2; cases h2
    | [_, _, _] => rw [hq] at h2; cases h2
    | a :: b :: c :: d :: t => exact ⟨a, b, c, d, t, rfl⟩
  rw [e] at h ⊢
  simp only [List.take_succ_cons, List.take_zero, List.cons.injEq, and_true] at h
  obtain ⟨rfl, rfl, rfl, rfl⟩ := h
  simp [Lib.hasPrefix]

set_option maxRecDepth 3000 in
set_option maxHeartbeats 400000 in
theorem awake5_any (w : World) (hG : G w) :
    Calls Tryz.prog 123 #[] w fun e w' => e = .returned (.bool true) ∧ Below w.heap.size w w' := by
  obtain ⟨L, hL⟩ : ∃ L, shaL [97, 98, 99] = L := ⟨_, rfl⟩
  obtain ⟨L0, hL0⟩ : ∃ L, shaL [] = L := ⟨_, rfl⟩
  have hp : Lib.hasPrefix L [186, 120, 22, 191] = true := by rw [← hL]; exact abc_prefix
  have h32 : (ByteArray.mk L0.toArray).size = 32 := by show L0.toArray.size = 32; rw [List.size_toArray, ← hL0, shaL_length]
  have HT : Hid (∀ W : World, G W → Calls Tryz.prog 124 #[.slice (some ⟨W.heap.size, 0, none⟩) 2 2] (W.alloc (.cells #[.string ⟨#[97]⟩, .string ⟨#[98, 99]⟩] 9)) fun e w' => e = .returned (.string ⟨L.toArray⟩) ∧ Below W.heap.size W w') := Lib.hid fun W hg => by
    rw [← hL]
    have hb0 : Below W.heap.size W (W.alloc (.cells #[.string ⟨#[97]⟩, .string ⟨#[98, 99]⟩] 9)) := (Below.refl _ _).alloc (Nat.le_refl _) _
    refine (Text_any W.heap.size 0 2 [⟨#[97]⟩, ⟨#[98, 99]⟩] _ (hg.below hb0) (fun j x hx => ?_) (by simp) (by decide) (by decide) [97, 98, 99] rfl (by decide)).mono fun e w' h => ⟨h.1, hb0.trans (h.2.mono hb0.size)⟩
    have h := (Row.new W 9 [.string ⟨#[97]⟩, .string ⟨#[98, 99]⟩]).cell j
    rw [Nat.zero_add, h]
    match j, hx with
    | 0, hx => cases hx; rfl
    | 1, hx => cases hx; rfl
    | j + 2, hx => cases hx
  have HT0 : Hid (∀ W : World, G W → Calls Tryz.prog 124 #[.slice none 0 0] W fun e w' => e = .returned (.string ⟨L0.toArray⟩) ∧ Below W.heap.size W w') := Lib.hid fun W hg => by
    rw [← hL0]; exact Text_none none 0 W hg
  have HP : Hid (∀ W : World, Calls Tryz.prog 75 #[.string ⟨L.toArray⟩, .string ⟨#[186, 120, 22, 191]⟩] W fun e w' => e = .returned (.bool true) ∧ w' = W) := Lib.hid fun W => by
    have h := Tryz.strings_HasPrefix ⟨L.toArray⟩ ⟨#[186, 120, 22, 191]⟩ W
    rw [show Lib.hasPrefix (ByteArray.mk L.toArray).data.toList (ByteArray.mk #[186, 120, 22, 191]).data.toList = true from hp] at h
    exact h
  have HG := Lib.hid hG
  clear hL hL0 hp hG
  go_enter Tryz.func123, Tryz.ntmps123
  go_wp2_with fail
  refine (Awake1_any _).mono ?_
  rintro e w1 ⟨rfl, hb1⟩
  have hg1 := HG.out.below hb1
  go_wp2_with fail
  refine (HT.out _ hg1).mono ?_
  rintro e w2 ⟨rfl, hb2⟩
  have hb2' := hb1.trans (hb2.mono hb1.size)
  have hg2 := HG.out.below hb2'
  clear hb1 hb2 hg1
  go_wp2_with fail
  refine (HP.out _).mono ?_
  rintro e w3 ⟨rfl, rfl⟩
  go_wp2_with fail
  refine (HT0.out _ hg2).mono ?_
  rintro e w4 ⟨rfl, hb4⟩
  have hb4' := hb2'.trans (hb4.mono hb2'.size)
  clear hb2' hb4 hg2
  go_wp2_with fail
  go_ret
  exact ⟨rfl, hb4'⟩
theorem Awake5_any (w : World) (hG : G w) :
    Calls Tryz.prog 104 #[] w fun e w' => e = .returned (.bool true) ∧ Below w.heap.size w w' := by
  go_enter Tryz.func104, Tryz.ntmps104
  go_wp2_with (go_at_call 123; refine (awake5_any _ hG).mono ?_; rintro e wa ⟨rfl, hb⟩)
  go_ret
  exact ⟨rfl, hb⟩
end Go.Proofs.YtcecibopanfmgaaGreatDoor

namespace Go.Proofs.YtcecibopanfmgaaGreatDoor
open Go Go.Shelf Go.RowKit
def Tryz.laysGrow_ren : Go.Shelf.Ren := ⟨fun | 4 => 143 | n => n, fun | 22 => 22 | 25 => 9 | 3 => 3 | 4 => 4 | 9 => 9 | 20 => 20 | 0 => 0 | n => n, fun | n => n⟩
theorem Tryz.laysGrow : Lays8.n4 Tryz.prog Tryz.laysGrow_ren := {
  mixed := by kernel_rfl
  f4 := ⟨Tryz.f143.name, by decide, Tryz.func143.trans (congrArg some (by kernel_rfl))⟩
  t0 := Tryz.underlying0
  a0 := Tryz.isAgg0
  z0 := Tryz.sizeOf0
  v0 := Tryz.zeroValue0
  t3 := Tryz.underlying3
  a3 := Tryz.isAgg3
  z3 := Tryz.sizeOf3
  v3 := Tryz.zeroValue3
  t4 := Tryz.underlying4
  a4 := Tryz.isAgg4
  z4 := Tryz.sizeOf4
  v4 := Tryz.zeroValue4
  t9 := Tryz.underlying9
  a9 := Tryz.isAgg9
  z9 := Tryz.sizeOf9
  v9 := Tryz.zeroValue9
  t20 := Tryz.underlying20
  a20 := Tryz.isAgg20
  z20 := Tryz.sizeOf20
  v20 := Tryz.zeroValue20
  t22 := Tryz.underlying22
  a22 := Tryz.isAgg22
  z22 := Tryz.sizeOf22
  v22 := Tryz.zeroValue22 }
end Go.Proofs.YtcecibopanfmgaaGreatDoor

namespace Go.Proofs.YtcecibopanfmgaaGreatDoor
open Go.RowKit
set_option linter.unusedVariables false

theorem str_info3 : (Tryz.prog.info? 9).map (fun i => (i.zero, i.size, i.bytes)) = some (some (.string ⟨#[]⟩), 1, 16) := by kernel_rfl
theorem grow_own (m : Nat) (hm : 1 ≤ m) (hm2 : m ≤ 100000) (w : World) :
    Calls Tryz.prog 143 #[.slice none 0 0, .int .i64 m] w fun e w' => ∃ c, m ≤ c ∧ e = .returned (.slice (some ⟨w.heap.size, 0, none⟩) 0 c) ∧
      w'.ownsRow w.heap.size 9 1 (.slice (some ⟨w.heap.size, 0, none⟩) 0 c) 0 [] ∧ Below w.heap.size w w' := by
  obtain ⟨i0, hi0, hz0, hz1, hz2⟩ := info_parts str_info3
  refine (Any8.slices_Grow_grow Tryz.laysGrow i0 (.string ⟨#[]⟩) hi0 hz0 (by omega) none 0 0 m [] w (Nat.le_refl _) (by omega) (by rw [hz2]; omega) (by omega) (by simp) (fun _ => rfl) (fun a h => by cases h)).mono ?_
  rintro e w' ⟨rfl, rfl⟩
  rw [Nat.zero_add]
  have hge := grownCap_ge w m 0 9
  have hz : ∀ k, (Builtin.zeroCells (Value.string ⟨#[]⟩).cells k).size = k := fun k => by
    have h1 : (Value.string ⟨#[]⟩).cells.size = 1 := rfl
    simp [Builtin.zeroCells, h1]
  refine ⟨grownCap w m 0 9, hge, rfl, ⟨rfl, .inr ⟨w.heap.size, grownCap w m 0 9, ?cur, rfl, Nat.le_refl _, ?hc, Nat.zero_le _, grownCap_le_maxLen w m 0 _ (by unfold maxLen; omega), ?h1, ?h2⟩⟩, ?hb⟩
  case hc => exact (World.alloc_heap_new _ _)
  case h1 =>
    simp only [Array.size_append, hz, Nat.sub_zero]
    show 0 + m + (grownCap w m 0 9 - m) = grownCap w m 0 9 * 1
    omega
  case h2 => simp
  case hb => exact (below_drewN (Below.refl _ _) 1).alloc (Nat.le_refl _) _

/-- How many texts there are in the first k rows. -/
def cnt (n : Nat) : Nat → Nat
  | 0 => 0
  | 1 => 1
  | _ => 1 + n
def rowsOf (x0 : ByteArray) (xs : List ByteArray) : Nat → List ByteArray
  | 0 => []
  | 1 => [x0]
  | _ => x0 :: xs

set_option maxRecDepth 20000 in
set_option maxHeartbeats 4000000 in
theorem Concat_any (bs b1 b2 o2 c2 : Nat) (x0 : ByteArray) (xs : List ByteArray) (w : World) (h : Row w bs 22 [.slice (some ⟨b1, 0, none⟩) 1 1, .slice (some ⟨b2, o2, none⟩) xs.length c2])
    (h1 : w.cell? ⟨b1, 0, none⟩ = some (.string x0)) (h2 : ∀ (j : Nat) x, xs[j]? = some x → w.cell? ⟨b2, o2 + j, none⟩ = some (.string x)) (hb1 : b1 < w.heap.size) (hb2 : b2 < w.heap.size) (hn : xs.length ≤ 1000) :
    Calls Tryz.prog 125 #[.slice (some ⟨bs, 0, none⟩) 2 2] w fun e w' => ∃ g c, 1 + xs.length ≤ c ∧ e = .returned (.slice (some ⟨g, 0, none⟩) (1 + xs.length) c) ∧
      w'.ownsRow w.heap.size 9 1 (.slice (some ⟨g, 0, none⟩) (1 + xs.length) c) (1 + xs.length) ((x0 :: xs).map Value.string) ∧ Below w.heap.size w w' := by
  obtain ⟨n, hnn⟩ : ∃ n, xs.length = n := ⟨_, rfl⟩
  rw [hnn] at h hn ⊢
  have c0 : w.cell? ⟨bs, 0, none⟩ = some (.slice (some ⟨b1, 0, none⟩) 1 1) := h.cell 0
  have c1 : w.cell? ⟨bs, 1, none⟩ = some (.slice (some ⟨b2, o2, none⟩) n c2) := h.cell 1
  have HB := Lib.hid (And.intro hnn (And.intro h1 (And.intro h2 (And.intro hb1 (And.intro hb2 h)))))
  clear hnn h1 h2 hb1 hb2 h
  go_enter Tryz.func125, Tryz.ntmps125
  go_wp2_with fail
  go_loopw [3, 11] (fun s i wr => w = wr ∧ ∃ k : Nat, k ≤ 2 ∧ i = .int .i64 k ∧ s = .int .i64 ((cnt n k : Nat) : Int)) (fun _ i _ => 2 - (intOf i).toNat)
  case atStart => exact ⟨rfl, 0, by omega, rfl, rfl⟩
  case round =>
    obtain ⟨rfl, k, hk, rfl, rfl⟩ := hrel
    rcases (by omega : k = 0 ∨ k = 1 ∨ k = 2) with rfl | rfl | rfl
    · simp only [cnt]
      go_wp2
      go_roundw
      case rel => exact ⟨trivial, 1, by omega, by go_num, by show _ = Value.int .i64 ((1 : Nat) : Int); go_num⟩
      case measure => simp [intOf]
    · simp only [cnt]
      have hpos : ¬ ((1 : Int) + (n : Int) < 0) := by omega
      go_wp2
      go_roundw
      case rel => exact ⟨trivial, 2, by omega, by go_num, by show _ = Value.int .i64 ((1 + n : Nat) : Int); go_num⟩
      case measure => simp [intOf]
    · simp only [cnt]
      go_wp2_with fail
      have e0 : (Value.int .i64 ((1 + n : Nat) : Int)) = .int .i64 (1 + (n : Int)) := by go_num
      refine (grow_own (1 + n) (by omega) (by omega) _).mono ?_
      rintro e w1 ⟨c, hc, rfl, hown, hb⟩
      obtain ⟨i0, hi0, hz0, hz1, hz2⟩ := info_parts str_info3
      have HI := Lib.hid (And.intro hi0 hz1)
      clear e0 hi0 hz0 hz1 hz2
      obtain ⟨g, hg⟩ : ∃ g, w.heap.size = g := ⟨_, rfl⟩
      rw [hg] at hown ⊢
      have HGG := Lib.hid hg
      clear hg
      go_wp2
      go_loopw [6, 27] (fun v i wq => ∃ k : Nat, k ≤ 2 ∧ i = .int .i64 k ∧ v = .slice (some ⟨g, 0, none⟩) (cnt n k) c ∧ wq.ownsRow g 9 1 (.slice (some ⟨g, 0, none⟩) (cnt n k) c) (cnt n k) ((rowsOf x0 xs k).map Value.string) ∧ Below w.heap.size w wq) (fun _ i _ => 2 - (intOf i).toNat)
      case atStart => exact ⟨0, by omega, rfl, rfl, hown, hb⟩
      case round =>
        obtain ⟨k, hk, rfl, rfl, ho, hB⟩ := hrel
        clear hown hb
        clear c0 c1
        have hr := HB.out.2.2.2.2.2.below hB HB.out.2.2.2.2.2.lt
        rcases (by omega : k = 0 ∨ k = 1 ∨ k = 2) with rfl | rfl | rfl
        · have c0 : wr.cell? ⟨bs, 0, none⟩ = some (.slice (some ⟨b1, 0, none⟩) 1 1) := hr.cell 0
          have hcl : ∀ (j : Nat) u, [Value.string x0][j]? = some u → wr.cell? ((⟨b1, 0, none⟩ : Addr).add j) = some u := fun j u hj => by
            rw [Addr.add_mid, Nat.zero_add]
            match j, hj with
            | 0, hj => cases hj; exact (hB.cell (p := ⟨b1, 0, none⟩) HB.out.2.2.2.1).trans HB.out.2.1
          have hsz := hB.size
          have H := Lib.hid (And.intro ho (And.intro hB hcl))
          clear ho hB hcl hr
          simp only [cnt]
          go_wp2_with (at_builtin; refine wpList_append_fits _ rfl (.tmp 31) (.tmp 32) 22 rfl g 9 i0 1 Tryz.underlying22 HI.out.1 HI.out.2 g 0 c [] rfl H.out.1 ⟨b1, 0, none⟩ 1 1 [.string x0] rfl rfl H.out.2.2 (by simp [Value.oneCell']) (by omega) ?_; intro w3 ho3 hg3)
          go_roundw
          case rel => exact ⟨1, by omega, by go_num, rfl, ho3, H.out.2.1.grown hg3 hsz (fun k hk => by cases hk; exact Nat.le_of_eq HGG.out)⟩
          case measure => simp [intOf]
        · have c1 : wr.cell? ⟨bs, 1, none⟩ = some (.slice (some ⟨b2, o2, none⟩) n c2) := hr.cell 1
          have hcl : ∀ (j : Nat) u, (xs.map Value.string)[j]? = some u → wr.cell? ((⟨b2, o2, none⟩ : Addr).add j) = some u := fun j u hj => by
            rw [Addr.add_mid]
            rw [List.getElem?_map, Option.map_eq_some_iff] at hj
            obtain ⟨x, hx, rfl⟩ := hj
            exact (hB.cell (p := ⟨b2, o2 + j, none⟩) HB.out.2.2.2.2.1).trans (HB.out.2.2.1 j x hx)
          have hsz := hB.size
          have H := Lib.hid (And.intro ho (And.intro hB hcl))
          clear ho hB hcl hr
          simp only [cnt]
          go_wp2_with (at_builtin; refine wpList_append_fits _ rfl (.tmp 31) (.tmp 32) 22 rfl g 9 i0 1 Tryz.underlying22 HI.out.1 HI.out.2 g 1 c [.string x0] rfl H.out.1 ⟨b2, o2, none⟩ n c2 (xs.map Value.string) rfl (by rw [List.length_map, HB.out.1, Nat.mul_one]) H.out.2.2 (fun u hu => by obtain ⟨x, _, rfl⟩ := List.mem_map.1 hu; rfl) (by omega) ?_; intro w3 ho3 hg3)
          go_roundw
          case rel => exact ⟨2, by omega, by go_num, rfl, ho3, H.out.2.1.grown hg3 hsz (fun k hk => by cases hk; exact Nat.le_of_eq HGG.out)⟩
          case measure => simp [intOf]
        · have H := Lib.hid (And.intro ho hB)
          clear ho hB hr
          simp only [cnt]
          go_wp2
          go_ret
          exact ⟨g, c, hc, rfl, by rw [HGG.out]; exact H.out.1, H.out.2⟩
end Go.Proofs.YtcecibopanfmgaaGreatDoor

namespace Go.Proofs.YtcecibopanfmgaaGreatDoor
set_option linter.unusedVariables false
/-- A key's block, masked. -/
def blkL (key : List UInt8) (m : UInt8) : List UInt8 := (key ++ List.replicate (64 - key.length) 0).map fun c => c ^^^ m
/-- The key that is masked. -/
def keyL (key : List UInt8) : List UInt8 := if 64 < key.length then shaL key else key
/-- The sum. -/
def hmacL (key msg : List UInt8) : List UInt8 := shaL (blkL (keyL key) 92 ++ shaL (blkL (keyL key) 54 ++ msg))
theorem blkL_length (key : List UInt8) (m : UInt8) (h : key.length ≤ 64) : (blkL key m).length = 64 := by simp [blkL]; omega
/-- The chapter's example: Jefe's. -/
theorem jefe_example : (hmacL [74, 101, 102, 101] [119, 104, 97, 116, 32, 100, 111, 32, 121, 97, 32, 119, 97, 110, 116, 32, 102, 111, 114, 32, 110, 111, 116, 104, 105, 110, 103, 63]).take 4 = [91, 220, 193, 70] := by decide +kernel
end Go.Proofs.YtcecibopanfmgaaGreatDoor

namespace Go.Proofs.YtcecibopanfmgaaGreatDoor
open Go.RowKit
set_option linter.unusedVariables false

def z64b : List Value := List.replicate 64 (.int .u8 0)
theorem b64_info : (Tryz.prog.info? 151).map (fun i => (i.zero, i.size)) = some (some (.agg z64b.toArray), 64) := by kernel_rfl

theorem part_set {α : Type} (A B : List α) (j : Nat) (v : α) (hv : A[j]? = some v) (hl : A.length = B.length) : (A.take j ++ B.drop j).set j v = A.take (j + 1) ++ B.drop (j + 1) := by
  have hj : j < A.length := (List.getElem?_eq_some_iff.1 hv).1
  have hB : j < B.length := by omega
  have h1 : (A.take j).length = j := by rw [List.length_take]; omega
  have h2 : B.drop j = B[j] :: B.drop (j + 1) := List.drop_eq_getElem_cons hB
  have h3 : A.take (j + 1) = A.take j ++ [v] := by
    rw [List.take_add_one, hv]; rfl
  rw [List.set_append_right _ _ (by omega), h1, Nat.sub_self, h2, List.set_cons_zero, h3, List.append_assoc]
  rfl
theorem u8_xor_bits (a b : UInt8) : bits BinOp.xor IntKind.u8 (a.toNat : Int) (b.toNat : Int) = ((a ^^^ b).toNat : Int) := by
  rw [UInt8.toNat_xor]
  exact u8_xor_nat _ _ (UInt8.toNat_lt a) (UInt8.toNat_lt b)

set_option maxRecDepth 4000 in
set_option maxHeartbeats 2000000 in
theorem masked_any (k : ByteArray) (m : UInt8) (hk : k.size ≤ 64) (w : World) :
    Calls Tryz.prog 126 #[.string k, .int .u8 m.toNat] w fun e w' => e = .returned (.string ⟨(blkL k.data.toList m).toArray⟩) ∧ Below w.heap.size w w' := by
  have hz := (zero_of_info b64_info).1
  have hsl : k.data.toList.length = k.size := by simp
  obtain ⟨K, hK⟩ : ∃ K, k.data.toList ++ List.replicate (64 - k.data.toList.length) (0 : UInt8) = K := ⟨_, rfl⟩
  have hKl : K.length = 64 := by rw [← hK]; simp; omega
  obtain ⟨A, hA⟩ : ∃ A, K.map (fun c => c ^^^ m) = A := ⟨_, rfl⟩
  have hAl : A.length = 64 := by rw [← hA, List.length_map, hKl]
  have hblk : blkL k.data.toList m = A := by rw [← hA, ← hK]; rfl
  have hr1 := Row.new w 151 z64b
  have hb1 : Below w.heap.size w (w.alloc (.cells z64b.toArray 151)) := (Below.refl _ _).alloc (Nat.le_refl _) _
  have hsa := fun W => slice_arr_all (P := Tryz.prog) 151 5 64 Tryz.underlying151 Tryz.sizeOf5 w.heap.size 0 (by omega) W
  have hov : over z64b 0 k.data.toList = K.map bv := by
    unfold over z64b
    rw [← hK, List.map_append, List.take_zero, List.nil_append, Nat.zero_add, hsl, List.drop_replicate, List.map_replicate]
    rfl
  have hcp := copy_row (P := Tryz.prog) (ty := 3) 76 9 5 w.heap.size 0 64 64 k z64b 151 Tryz.underlying76 (by kernel_rfl) hr1 hk (by simp [z64b]; omega)
  rw [hov] at hcp
  have r2 := hr1.put (K.map bv)
  have b2 := below_setRow (B := w.heap.size) hb1 (Nat.le_refl w.heap.size) (K.map bv).toArray
  rw [hblk]
  have H2 := Lib.hid (And.intro r2 (And.intro b2 (And.intro hA (And.intro hKl hAl))))
  clear hr1 hb1 hov hsl hK hblk r2 b2
  go_enter Tryz.func126, Tryz.ntmps126
  go_wp2_with fail
  obtain ⟨r2, b2, hA, hKl, hAl⟩ := H2.out
  generalize (w.alloc (.cells z64b.toArray 151)).setRow w.heap.size (K.map bv).toArray = w2 at r2 b2 ⊢
  clear H2 hcp hz
  go_loopw [10] (fun i wr => ∃ j : Nat, j ≤ 64 ∧ i = .int .i64 j ∧ Row wr w.heap.size 151 ((A.take j ++ K.drop j).map bv) ∧ Below w.heap.size w wr) (fun i _ => 64 - (intOf i).toNat)
  case atStart => exact ⟨0, Nat.zero_le _, rfl, by simpa using r2, b2⟩
  case round =>
    obtain ⟨j, hj, rfl, hr, hb⟩ := hrel
    clear r2 b2
    by_cases hlt : j < 64
    · obtain ⟨c, hc⟩ : ∃ c, K[j]? = some c := ⟨_, List.getElem?_eq_getElem (by omega)⟩
      have hAj : A[j]? = some (c ^^^ m) := by rw [← hA, List.getElem?_map, hc]; rfl
      have hcell : wr.cell? ⟨w.heap.size, j, none⟩ = some (.int .u8 (c.toNat : Int)) := by
        rw [hr.cell, List.getElem?_map, List.getElem?_append_right (by rw [List.length_take]; omega), List.getElem?_drop, List.length_take, show j + (j - min j A.length) = j by omega, hc]
        rfl
      have hfr := hr.frozen j
      have hx := u8_xor_bits c m
      have r3 := hr.set j (.int .u8 ((c ^^^ m).toNat : Int))
      have e3 : ((A.take j ++ K.drop j).map bv).set j (.int .u8 ((c ^^^ m).toNat : Int)) = (A.take (j + 1) ++ K.drop (j + 1)).map bv := by
        rw [show (Value.int IntKind.u8 ((c ^^^ m).toNat : Int)) = bv (c ^^^ m) from rfl, ← List.map_set, part_set A K j _ hAj (by omega)]
      rw [e3] at r3
      have b3 := hb.setCell (p := ⟨w.heap.size, j, none⟩) (Nat.le_refl _) (.int .u8 ((c ^^^ m).toNat : Int))
      have H3 := Lib.hid (And.intro r3 b3)
      clear hr hb hc hAj r3 b3 e3 hA hKl hAl
      go_wp2_with fail
      go_roundw
      case rel => exact ⟨j + 1, by omega, by go_num, H3.out.1, H3.out.2⟩
      case measure => simp [intOf]; omega
    · have hj64 : j = 64 := by omega
      have hge : 64 ≤ j := by omega
      have hrow : (A.take j ++ K.drop j).map bv = A.map bv := by rw [hj64, List.take_of_length_le (by omega), List.drop_of_length_le (by omega), List.append_nil]
      rw [hrow] at hr
      have hcv := conv_bytes (P := Tryz.prog) wr 76 9 5 Tryz.underlying76 Tryz.underlying5 Tryz.underlying9 w.heap.size 0 64 64 A hAl (fun i hi => by rw [Nat.zero_add, hr.cell])
      clear hrow hr hA hKl hAl hj64
      go_wp2_with fail
      go_ret
      exact ⟨rfl, hb⟩
end Go.Proofs.YtcecibopanfmgaaGreatDoor

namespace Go.Proofs.YtcecibopanfmgaaGreatDoor
open Go.RowKit
set_option linter.unusedVariables false

theorem join_flat (xs : List (List UInt8)) : Lib.join xs [] = xs.flatten := by
  induction xs with
  | nil => rfl
  | cons x xs ih =>
    cases xs with
    | nil => simp [Lib.join_one]
    | cons y ys =>
      unfold Lib.join at ih ⊢
      simp only [List.intercalate, List.intersperse, List.flatten_cons, List.nil_append] at ih ⊢
      rw [ih]
theorem own_cells {w : World} {B n c g : Nat} {t : TypeId} {l : List Value} (h : w.ownsRow B t 1 (.slice (some ⟨g, 0, none⟩) n c) n l) (hn : 0 < n) : ∀ (j : Nat) v, l[j]? = some v → w.cell? ⟨g, 0 + j, none⟩ = some v := by
  intro j v hj
  rcases h.2 with ⟨e1, _⟩ | ⟨g', cap, cur, e1, _, hh, hc, _, hs, ht⟩
  · cases e1
  · cases e1
    have hr : Row w g t cur.toList := by
      show w.heap[g]? = some (.cells cur.toList.toArray t (0, 0))
      rw [Array.toArray_toList]
      exact hh
    rw [Nat.zero_add, hr.cell]
    rw [← ht] at hj
    rw [List.getElem?_take] at hj
    split at hj
    · exact hj
    · cases hj
theorem own_lt {w : World} {B n c g : Nat} {t : TypeId} {l : List Value} (h : w.ownsRow B t 1 (.slice (some ⟨g, 0, none⟩) n c) n l) : g < w.heap.size := by
  rcases h.2 with ⟨e1, _⟩ | ⟨g', cap, cur, e1, _, hh, _⟩
  · cases e1
  · cases e1
    exact (Array.getElem?_eq_some_iff.1 hh).1

set_option maxRecDepth 20000 in
set_option maxHeartbeats 4000000 in
theorem HmSum_any (key : ByteArray) (hk : key.size ≤ 100000000) (b2 o2 c2 : Nat) (xs : List ByteArray) (w : World) (hG : G w)
    (h2 : ∀ (j : Nat) x, xs[j]? = some x → w.cell? ⟨b2, o2 + j, none⟩ = some (.string x)) (hb2 : b2 < w.heap.size) (hn : xs.length ≤ 1000)
    (T : List UInt8) (hT : Lib.join (xs.map (·.data.toList)) [] = T) (hTl : T.length ≤ 140737488300000) :
    Calls Tryz.prog 105 #[.string key, .slice (some ⟨b2, o2, none⟩) xs.length c2] w fun e w' => e = .returned (.string ⟨(hmacL key.data.toList T).toArray⟩) ∧ Below w.heap.size w w' := by
  have hkl : key.data.toList.length = key.size := by simp
  obtain ⟨kk, hkk, hks⟩ : ∃ kk : ByteArray, kk.data.toList = keyL key.data.toList ∧ (if 64 < key.size then kk = ⟨(shaL key.data.toList).toArray⟩ else kk = key) := by
    by_cases h : 64 < key.size
    · refine ⟨⟨(shaL key.data.toList).toArray⟩, ?_, ?_⟩
      · unfold keyL; rw [if_pos (by omega)]
      · rw [if_pos h]
    · refine ⟨key, ?_, ?_⟩
      · unfold keyL; rw [if_neg (by omega)]
      · rw [if_neg h]
  have hkz : kk.size ≤ 64 := by
    have e : kk.size = kk.data.toList.length := by simp
    rw [e, hkk]
    unfold keyL
    split
    · rw [shaL_length]; omega
    · omega
  have hkzl : kk.data.toList.length ≤ 64 := by
    have e : kk.size = kk.data.toList.length := by simp
    omega
  obtain ⟨x0, hx0⟩ : ∃ x : ByteArray, (⟨(blkL kk.data.toList 54).toArray⟩ : ByteArray) = x := ⟨_, rfl⟩
  obtain ⟨x1, hx1⟩ : ∃ x : ByteArray, (⟨(blkL kk.data.toList 92).toArray⟩ : ByteArray) = x := ⟨_, rfl⟩
  have HM0 : Hid (∀ W : World, Calls Tryz.prog 126 #[.string kk, .int .u8 54] W fun e w' => e = .returned (.string x0) ∧ Below W.heap.size W w') := Lib.hid fun W => by rw [← hx0]; exact masked_any kk 54 hkz W
  have HM1 : Hid (∀ W : World, Calls Tryz.prog 126 #[.string kk, .int .u8 92] W fun e w' => e = .returned (.string x1) ∧ Below W.heap.size W w') := Lib.hid fun W => by rw [← hx1]; exact masked_any kk 92 hkz W
  have hd0 : x0.data.toList = blkL kk.data.toList 54 := by rw [← hx0]
  have hd1 : x1.data.toList = blkL kk.data.toList 92 := by rw [← hx1]
  obtain ⟨y, hy⟩ : ∃ y : ByteArray, (⟨(shaL (x0.data.toList ++ T)).toArray⟩ : ByteArray) = y := ⟨_, rfl⟩
  have hyd : y.data.toList = shaL (x0.data.toList ++ T) := by rw [← hy]
  obtain ⟨r, hr⟩ : ∃ r : ByteArray, (⟨(shaL (x1.data.toList ++ y.data.toList)).toArray⟩ : ByteArray) = r := ⟨_, rfl⟩
  have hfin : (⟨(hmacL key.data.toList T).toArray⟩ : ByteArray) = r := by
    rw [← hr, hyd, hd0, hd1]
    unfold hmacL
    rw [hkk]
  have hx0l : x0.data.toList.length = 64 := by rw [hd0]; exact blkL_length _ _ hkzl
  have HT1 : Hid (∀ (W : World) (g c : Nat), G W → 1 + xs.length ≤ c → (∀ (j : Nat) v, ((x0 :: xs).map Value.string)[j]? = some v → W.cell? ⟨g, 0 + j, none⟩ = some v) → g < W.heap.size → Calls Tryz.prog 124 #[.slice (some ⟨g, 0, none⟩) (1 + xs.length) c] W fun e w' => e = .returned (.string y) ∧ Below W.heap.size W w') := Lib.hid fun W g c hg hc hcl hlt => by
    rw [← hy]
    have h := Text_any g 0 c (x0 :: xs) W hg (fun j x hx => hcl j _ (by rw [List.getElem?_map, hx]; rfl)) hlt (by rw [List.length_cons]; omega) (by rw [List.length_cons]; omega) (x0.data.toList ++ T) (by rw [join_flat, List.map_cons, List.flatten_cons, ← join_flat, hT]) (by rw [List.length_append]; omega)
    rwa [List.length_cons, Nat.add_comm] at h
  have HT2 : Hid (∀ (W : World) (g : Nat), G W → Row W g 9 [.string x1, .string y] → Calls Tryz.prog 124 #[.slice (some ⟨g, 0, none⟩) 2 2] W fun e w' => e = .returned (.string r) ∧ Below W.heap.size W w') := Lib.hid fun W g hg hr2 => by
    rw [← hr]
    have hyl : y.data.toList.length = 32 := by rw [hyd]; exact shaL_length _
    have hx1l : x1.data.toList.length = 64 := by rw [hd1]; exact blkL_length _ _ hkzl
    exact Text_any g 0 2 [x1, y] W hg (fun j x hx => by rw [Nat.zero_add, hr2.cell]; match j, hx with | 0, hx => cases hx; rfl | 1, hx => cases hx; rfl) hr2.lt (by simp) (by simp) (x1.data.toList ++ y.data.toList) (by rw [join_flat]; simp) (by rw [List.length_append]; omega)
  rw [hfin]
  have HG := Lib.hid hG
  have HH := Lib.hid h2
  have HHb := Lib.hid hb2
  clear hkl hkk hkz hkzl hx0 hx1 hd0 hd1 hy hyd hr hfin hx0l hG h2 hT hTl hb2
  by_cases hlong : 64 < key.size
  · rw [if_pos hlong] at hks
    have hkI : (64 : Int) < (key.size : Int) := by omega
    have HT0 : Hid (∀ (W : World) (g : Nat), G W → Row W g 9 [.string key] → Calls Tryz.prog 124 #[.slice (some ⟨g, 0, none⟩) 1 1] W fun e w' => e = .returned (.string kk) ∧ Below W.heap.size W w') := Lib.hid fun W g hg hr2 => by
      rw [hks]
      exact Text_any g 0 1 [key] W hg (fun j x hx => by rw [Nat.zero_add, hr2.cell]; match j, hx with | 0, hx => cases hx; rfl) hr2.lt (by simp) (by simp) key.data.toList (by rw [join_flat]; simp) (by simp; omega)
    clear hks
    go_enter Tryz.func105, Tryz.ntmps105
    go_wp2_with fail
    have hb0 := (Below.refl w.heap.size w).alloc (Nat.le_refl _) (.cells #[Value.string key] 9)
    refine (HT0.out _ w.heap.size (HG.out.below hb0) (Row.new w 9 [Value.string key])).mono ?_
    rintro e w0 ⟨rfl, hbt⟩
    have hbz := hb0.trans (hbt.mono hb0.size)
    clear hb0 hbt
    go_wp2_with fail
    refine (HM0.out _).mono ?_
    rintro e w1 ⟨rfl, hb1'⟩
    have hb1 := hbz.trans (hb1'.mono hbz.size)
    clear hbz hb1'
    go_wp2_with fail
    have r0 := (Row.new w1 9 [.string x0]).alloc (.cells #[Value.slice (some ⟨w1.heap.size, 0, none⟩) 1 1, Value.slice (some ⟨b2, o2, none⟩) xs.length c2] 22)
    have r1 := Row.new (w1.alloc (.cells #[Value.string x0] 9)) 22 [Value.slice (some ⟨w1.heap.size, 0, none⟩) 1 1, Value.slice (some ⟨b2, o2, none⟩) xs.length c2]
    rw [World.size_alloc] at r1
    have hb3 := (hb1.alloc hb1.size (.cells #[Value.string x0] 9)).alloc (by rw [World.size_alloc]; exact Nat.le_succ_of_le hb1.size) (.cells #[Value.slice (some ⟨w1.heap.size, 0, none⟩) 1 1, Value.slice (some ⟨b2, o2, none⟩) xs.length c2] 22)
    have hlt : b2 < ((w1.alloc (.cells #[Value.string x0] 9)).alloc (.cells #[Value.slice (some ⟨w1.heap.size, 0, none⟩) 1 1, Value.slice (some ⟨b2, o2, none⟩) xs.length c2] 22)).heap.size := Nat.lt_of_lt_of_le HHb.out hb3.size
    refine (Concat_any (w1.heap.size + 1) w1.heap.size b2 o2 c2 x0 xs _ r1 (r0.cell 0) (fun j x hx => (hb3.cell (p := ⟨b2, o2 + j, none⟩) HHb.out).trans (HH.out j x hx)) r0.lt hlt hn).mono ?_
    rintro e w4 ⟨g, c, hc, rfl, hown, hb4⟩
    have hB4 := hb3.trans (hb4.mono hb3.size)
    have H4 := Lib.hid (And.intro hown hB4)
    have hg4 := own_lt hown
    clear r0 r1 hb3 hb4 hown hb1 hlt hB4
    go_wp2_with fail
    refine (HM1.out _).mono ?_
    rintro e w5 ⟨rfl, hb5⟩
    have hB5 := H4.out.2.trans (hb5.mono H4.out.2.size)
    go_wp2_with fail
    refine (HT1.out _ g c (HG.out.below hB5) hc (fun j v hj => (hb5.cell (p := ⟨g, 0 + j, none⟩) hg4).trans (own_cells H4.out.1 (by omega) j v hj)) (Nat.lt_of_lt_of_le hg4 hb5.size)).mono ?_
    rintro e w6 ⟨rfl, hb6⟩
    have hB6 := hB5.trans (hb6.mono hB5.size)
    clear hb5 hb6 hB5
    go_wp2_with fail
    have hB7 := hB6.alloc hB6.size (.cells #[Value.string x1, Value.string y] 9)
    refine (HT2.out _ w6.heap.size (HG.out.below hB7) (Row.new w6 9 [Value.string x1, Value.string y])).mono ?_
    rintro e w7 ⟨rfl, hb7⟩
    have hB8 := hB7.trans (hb7.mono hB7.size)
    clear hB6 hB7 hb7
    go_wp2_with fail
    go_ret
    exact ⟨rfl, hB8⟩
  · rw [if_neg hlong] at hks
    subst hks
    have hkI : ¬ ((64 : Int) < (kk.size : Int)) := by omega
    go_enter Tryz.func105, Tryz.ntmps105
    go_wp2_with fail
    refine (HM0.out _).mono ?_
    rintro e w1 ⟨rfl, hb1⟩
    go_wp2_with fail
    have r0 := (Row.new w1 9 [.string x0]).alloc (.cells #[Value.slice (some ⟨w1.heap.size, 0, none⟩) 1 1, Value.slice (some ⟨b2, o2, none⟩) xs.length c2] 22)
    have r1 := Row.new (w1.alloc (.cells #[Value.string x0] 9)) 22 [Value.slice (some ⟨w1.heap.size, 0, none⟩) 1 1, Value.slice (some ⟨b2, o2, none⟩) xs.length c2]
    rw [World.size_alloc] at r1
    have hb3 := (hb1.alloc hb1.size (.cells #[Value.string x0] 9)).alloc (by rw [World.size_alloc]; exact Nat.le_succ_of_le hb1.size) (.cells #[Value.slice (some ⟨w1.heap.size, 0, none⟩) 1 1, Value.slice (some ⟨b2, o2, none⟩) xs.length c2] 22)
    have hlt : b2 < ((w1.alloc (.cells #[Value.string x0] 9)).alloc (.cells #[Value.slice (some ⟨w1.heap.size, 0, none⟩) 1 1, Value.slice (some ⟨b2, o2, none⟩) xs.length c2] 22)).heap.size := Nat.lt_of_lt_of_le HHb.out hb3.size
    refine (Concat_any (w1.heap.size + 1) w1.heap.size b2 o2 c2 x0 xs _ r1 (r0.cell 0) (fun j x hx => (hb3.cell (p := ⟨b2, o2 + j, none⟩) HHb.out).trans (HH.out j x hx)) r0.lt hlt hn).mono ?_
    rintro e w4 ⟨g, c, hc, rfl, hown, hb4⟩
    have hB4 := hb3.trans (hb4.mono hb3.size)
    have H4 := Lib.hid (And.intro hown hB4)
    have hg4 := own_lt hown
    clear r0 r1 hb3 hb4 hown hb1 hlt hB4
    go_wp2_with fail
    refine (HM1.out _).mono ?_
    rintro e w5 ⟨rfl, hb5⟩
    have hB5 := H4.out.2.trans (hb5.mono H4.out.2.size)
    go_wp2_with fail
    refine (HT1.out _ g c (HG.out.below hB5) hc (fun j v hj => (hb5.cell (p := ⟨g, 0 + j, none⟩) hg4).trans (own_cells H4.out.1 (by omega) j v hj)) (Nat.lt_of_lt_of_le hg4 hb5.size)).mono ?_
    rintro e w6 ⟨rfl, hb6⟩
    have hB6 := hB5.trans (hb6.mono hB5.size)
    clear hb5 hb6 hB5
    go_wp2_with fail
    have hB7 := hB6.alloc hB6.size (.cells #[Value.string x1, Value.string y] 9)
    refine (HT2.out _ w6.heap.size (HG.out.below hB7) (Row.new w6 9 [Value.string x1, Value.string y])).mono ?_
    rintro e w7 ⟨rfl, hb7⟩
    have hB8 := hB7.trans (hb7.mono hB7.size)
    clear hB6 hB7 hb7
    go_wp2_with fail
    go_ret
    exact ⟨rfl, hB8⟩
end Go.Proofs.YtcecibopanfmgaaGreatDoor

namespace Go.Proofs.YtcecibopanfmgaaGreatDoor
open Go.RowKit
set_option linter.unusedVariables false
theorem Awake3_any (w : World) :
    Calls Tryz.prog 18 #[] w fun e w' => e = .returned (.bool true) ∧ Below w.heap.size w w' := by
  go_enter Tryz.func18, Tryz.ntmps18
  go_wp2_with (go_at_call 46; refine (awake3_any _).mono ?_; rintro e wa ⟨rfl, hb⟩)
  go_ret
  exact ⟨rfl, hb⟩
def jefeK : ByteArray := ⟨#[74, 101, 102, 101]⟩
def jefeA : ByteArray := ⟨#[119, 104, 97, 116, 32, 100, 111, 32, 121, 97, 32, 119, 97, 110, 116, 32]⟩
def jefeB : ByteArray := ⟨#[102, 111, 114, 32, 110, 111, 116, 104, 105, 110, 103, 63]⟩
theorem take4_prefix (L : List UInt8) (a b c d : UInt8) (h : L.take 4 = [a, b, c, d]) : Lib.hasPrefix L [a, b, c, d] = true := by
  obtain ⟨R, hR⟩ : ∃ R, L.drop 4 = R := ⟨_, rfl⟩
  have e : L = [a, b, c, d] ++ R := by rw [← h, ← hR, List.take_append_drop]
  rw [e]
  simp [Lib.hasPrefix]

set_option maxRecDepth 20000 in
set_option maxHeartbeats 2000000 in
theorem awake6_any (w : World) (hG : G w) :
    Calls Tryz.prog 90 #[] w fun e w' => e = .returned (.bool true) ∧ Below w.heap.size w w' := by
  obtain ⟨L, hL⟩ : ∃ L, hmacL jefeK.data.toList (jefeA.data.toList ++ jefeB.data.toList) = L := ⟨_, rfl⟩
  have hp : Lib.hasPrefix L [91, 220, 193, 70] = true := by rw [← hL]; exact take4_prefix _ _ _ _ _ jefe_example
  have HS : Hid (∀ (W : World) (g : Nat), G W → Row W g 9 [.string jefeA, .string jefeB] → Calls Tryz.prog 105 #[.string jefeK, .slice (some ⟨g, 0, none⟩) 2 2] W fun e w' => e = .returned (.string ⟨L.toArray⟩) ∧ Below W.heap.size W w') := Lib.hid fun W g hg hr2 => by
    rw [← hL]
    exact HmSum_any jefeK (by decide) g 0 2 [jefeA, jefeB] W hg (fun j x hx => by rw [Nat.zero_add, hr2.cell]; match j, hx with | 0, hx => cases hx; rfl | 1, hx => cases hx; rfl) hr2.lt (by simp) (jefeA.data.toList ++ jefeB.data.toList) (by rw [join_flat]; simp) (by decide)
  have HP : Hid (∀ W : World, Calls Tryz.prog 75 #[.string ⟨L.toArray⟩, .string ⟨#[91, 220, 193, 70]⟩] W fun e w' => e = .returned (.bool true) ∧ w' = W) := Lib.hid fun W => by
    have h := Tryz.strings_HasPrefix ⟨L.toArray⟩ ⟨#[91, 220, 193, 70]⟩ W
    rw [show Lib.hasPrefix (ByteArray.mk L.toArray).data.toList (ByteArray.mk #[91, 220, 193, 70]).data.toList = true from hp] at h
    exact h
  have HG := Lib.hid hG
  clear hL hp hG
  go_enter Tryz.func90, Tryz.ntmps90
  go_wp2_with fail
  refine (Awake3_any _).mono ?_
  rintro e w1 ⟨rfl, hb1⟩
  go_wp2_with fail
  refine (Awake5_any _ (HG.out.below hb1)).mono ?_
  rintro e w2 ⟨rfl, hb2⟩
  have hB2 := hb1.trans (hb2.mono hb1.size)
  clear hb1 hb2
  go_wp2_with fail
  have hB3 := hB2.alloc hB2.size (.cells #[Value.string jefeA, Value.string jefeB] 9)
  refine (HS.out _ w2.heap.size (HG.out.below hB3) (Row.new w2 9 [Value.string jefeA, Value.string jefeB])).mono ?_
  rintro e w3 ⟨rfl, hb3⟩
  have hB4 := hB3.trans (hb3.mono hB3.size)
  clear hB2 hB3 hb3
  go_wp2_with fail
  refine (HP.out _).mono ?_
  rintro e w4 ⟨rfl, rfl⟩
  go_wp2_with fail
  go_ret
  exact ⟨rfl, hB4⟩
end Go.Proofs.YtcecibopanfmgaaGreatDoor

namespace Go.Proofs.YtcecibopanfmgaaGreatDoor
open Go.RowKit
set_option linter.unusedVariables false

theorem Awake6_any (w : World) (hG : G w) :
    Calls Tryz.prog 73 #[] w fun e w' => e = .returned (.bool true) ∧ Below w.heap.size w w' := by
  have HG := Lib.hid hG
  clear hG
  go_enter Tryz.func73, Tryz.ntmps73
  go_wp2_with fail
  refine (awake6_any _ HG.out).mono ?_
  rintro e wa ⟨rfl, hb⟩
  go_wp2_with fail
  go_ret
  exact ⟨rfl, hb⟩
def zeroId : ByteArray := ⟨#[48, 48, 48, 48, 48, 48, 48, 48, 45, 48, 48, 48, 48, 45, 48, 48, 48, 48, 45, 48, 48, 48, 48, 45, 48, 48, 48, 48, 48, 48, 48, 48, 48, 48, 48, 48]⟩
theorem zero_eq : (zeroId.toList == [48, 48, 48, 48, 48, 48, 48, 48, 45, 48, 48, 48, 48, 45, 48, 48, 48, 48, 45, 48, 48, 48, 48, 45, 48, 48, 48, 48, 48, 48, 48, 48, 48, 48, 48, 48]) = true := by decide +kernel
theorem zero_id : (⟨(idL (List.replicate 16 0)).toArray⟩ : ByteArray) = zeroId := by decide +kernel
def zA : Array Value := #[.int .u8 0, .int .u8 0, .int .u8 0, .int .u8 0, .int .u8 0, .int .u8 0, .int .u8 0, .int .u8 0, .int .u8 0, .int .u8 0, .int .u8 0, .int .u8 0, .int .u8 0, .int .u8 0, .int .u8 0, .int .u8 0]
theorem zA_eq : zA = ((List.replicate 16 (0 : UInt8)).map bv).toArray := by rfl

set_option maxRecDepth 20000 in
set_option maxHeartbeats 1000000 in
theorem awake10_any (w : World) (hG : G w) :
    Calls Tryz.prog 48 #[] w fun e w' => e = .returned (.bool true) ∧ Below w.heap.size w w' := by
  have HT : Hid (∀ W : World, Calls Tryz.prog 41 #[.agg zA] W fun e w' => e = .returned (.string zeroId) ∧ Below W.heap.size W w') := Lib.hid fun W => by
    rw [← zero_id, zA_eq]
    exact idText_any _ rfl W
  have HG := Lib.hid hG
  clear hG
  go_enter Tryz.func48, Tryz.ntmps48
  go_wp2_with fail
  refine (Awake2_any _).mono ?_
  rintro e w1 ⟨rfl, hb1⟩
  go_wp2_with fail
  refine (Awake6_any _ (HG.out.below hb1)).mono ?_
  rintro e w2 ⟨rfl, hb2⟩
  have hB2 := hb1.trans (hb2.mono hb1.size)
  clear hb1 hb2
  go_wp2_with fail
  refine (HT.out _).mono ?_
  rintro e w3 ⟨rfl, hb3⟩
  have hB3 := hB2.trans (hb3.mono hB2.size)
  clear hB2 hb3
  have hz := zero_eq
  go_wp2_with fail
  go_ret
  exact ⟨rfl, hB3⟩
end Go.Proofs.YtcecibopanfmgaaGreatDoor

namespace Go.Proofs.YtcecibopanfmgaaGreatDoor
open Go.RowKit
set_option linter.unusedVariables false

section
variable {P : Program} {ops : Array Oper} {C : World → Prop} {Q : Act → Prop} {a : Act} {o : Oper} {rest : List Oper}
theorem quiet_load_row {K : Act → Prop} (ty : TypeId) (x : Operand) (ho : o.op = .load ty x) (g : Nat) (hx : a.eval x = .pointer (some ⟨g, 0, none⟩)) (t : TypeId) (cs : List Value) (d : TypeDesc) (hS : ∀ w, C w → Row w g t cs)
    (hu : P.underlying ty = some d) (hd : d.isRow = true) (hi : (P.info? ty).map (·.size) = some cs.length) (hk : K (a.put o.dst (.agg cs.toArray))) : o.quiet P a C K :=
  ⟨_, fun w hw => by
    have hr : w.rangeAt g 0 cs := fun j v hj => by rw [Nat.zero_add, (hS w hw).cell]; exact hj
    unfold Oper.quietAt execOp
    simp only [ho, hx, Instr.loadAt, Instr.sureAddr, Sem.run_bind, Sem.run_pure, Result.andThen_ok, run_loadVar_mid w g 0 ty cs d hr hu hd hi]
    exact ⟨rfl, rfl⟩, hk⟩
theorem quiet_eql_agg {K : Act → Prop} (t : TypeId) (x y : Operand) (t2 : TypeId) (ho : o.op = .binOp .eql t x y t2)
    (cs ds : Array Value) (hx : a.eval x = .agg cs) (hy : a.eval y = .agg ds) (hm : P.eqGuardType P.depth t = false) (r : Bool) (he : ∀ W, (binOp .eql t (.agg cs) (.agg ds)).run P W = .ok (.bool r) W) (hk : K (a.put o.dst (.bool r))) : o.quiet P a C K :=
  ⟨_, fun w hw => by
    unfold Oper.quietAt execOp
    simp only [ho, hx, hy, Sem.run_bind, run_eqGuard_agg w .eql t x y cs ds hm, he, Result.andThen_ok, Sem.run_pure]
    exact ⟨rfl, rfl⟩, hk⟩
end

theorem items_bytes {P : Program} (W : World) (d : Nat) (e : TypeId) (l m : List UInt8) (he : P.underlying e = some (.int .u8)) (ha : (isAgg e).run P W = .ok false W) :
    ∀ is : List Nat, (∀ i ∈ is, i < l.length ∧ i < m.length) → (Op.eqItems (d + 1) e 1 (l.map bv).toArray (m.map bv).toArray is).run P W = .ok (decide (∀ i ∈ is, l[i]? = m[i]?)) W
  | [], _ => by simp [Op.eqItems]
  | i :: is, h => by
    obtain ⟨h1, h2⟩ := h i (by simp)
    have ih := items_bytes W d e l m he ha is (fun j hj => h j (by simp [hj]))
    have hp : (part e (l.map bv).toArray (i * 1)).run P W = .ok (.int .u8 (l[i].toNat : Int)) W := by
      simp only [part, Sem.run_bind, ha, Result.andThen_ok, Nat.mul_one, Bool.false_eq_true, if_false, List.getElem?_toArray, List.getElem?_map, List.getElem?_eq_getElem h1, Option.map_some, bv, Sem.run_pure]
    have hq : (part e (m.map bv).toArray (i * 1)).run P W = .ok (.int .u8 (m[i].toNat : Int)) W := by
      simp only [part, Sem.run_bind, ha, Result.andThen_ok, Nat.mul_one, Bool.false_eq_true, if_false, List.getElem?_toArray, List.getElem?_map, List.getElem?_eq_getElem h2, Option.map_some, bv, Sem.run_pure]
    simp only [Op.eqItems, Sem.run_bind, hp, hq, Result.andThen_ok, run_equalIn_int W d e .u8 .u8 _ _ he]
    by_cases hb : l[i] = m[i]
    · have e1 : l[i]? = m[i]? := by rw [List.getElem?_eq_getElem h1, List.getElem?_eq_getElem h2, hb]
      simp [hb, ih, e1]
    · have e1 : ¬ l[i]? = m[i]? := by rw [List.getElem?_eq_getElem h1, List.getElem?_eq_getElem h2]; simpa using hb
      have e2 : ¬ ((l[i].toNat : Int) = (m[i].toNat : Int)) := fun h => hb (UInt8.toNat_inj.1 (by omega))
      simp [e1, e2]
theorem arr_equalIn {P : Program} (t e : TypeId) (n : Nat) (l m : List UInt8) (hl : l.length = n) (hm : m.length = n) (ht : P.underlying t = some (.array n e)) (he : P.underlying e = some (.int .u8)) (ha : ∀ W, (isAgg e).run P W = .ok false W)
    (i : TypeInfo) (hi : P.info? e = some i) (hc : P.cellsOf e = 1) (W : World) :
    (Op.equalIn 10000 t (.agg (l.map bv).toArray) (.agg (m.map bv).toArray)).run P W = .ok (decide (l = m)) W := by
  rw [run_equalIn_array W 9999 _ _ ht hi, hc]
  rw [items_bytes W 9998 e l m he (ha W) _ (fun j hj => by
    have hj2 := List.mem_range.1 hj
    omega)]
  have e1 : decide (∀ i ∈ List.range n, l[i]? = m[i]?) = decide (l = m) := decide_eq_decide.2 ⟨fun h => List.ext_getElem? fun j => by
      by_cases hj : j < n
      · exact h j (List.mem_range.2 hj)
      · rw [List.getElem?_eq_none (by omega), List.getElem?_eq_none (by omega)], fun h => by subst h; intros; rfl⟩
  rw [e1]
theorem arr_eql {P : Program} (t e : TypeId) (n : Nat) (l m : List UInt8) (hl : l.length = n) (hm : m.length = n) (ht : P.underlying t = some (.array n e)) (he : P.underlying e = some (.int .u8)) (ha : ∀ W, (isAgg e).run P W = .ok false W)
    (i : TypeInfo) (hi : P.info? e = some i) (hc : P.cellsOf e = 1) (W : World) :
    (binOp .eql t (.agg (l.map bv).toArray) (.agg (m.map bv).toArray)).run P W = .ok (.bool (decide (l = m))) W := by
  rw [run_eql_struct, arr_equalIn t e n l m hl hm ht he ha i hi hc W]
  rfl
end Go.Proofs.YtcecibopanfmgaaGreatDoor

namespace Go.Proofs.YtcecibopanfmgaaGreatDoor
open Go.RowKit
set_option linter.unusedVariables false

theorem results_row_tmp {P : Program} {fn : Func} {p u : Tmp} {ty : TypeId} (h : fn.results = #[.cell p ty, .tmp u]) (tmps : Array Value) (w : World) (g : Nat) (t : TypeId) (cs : Array Value) (fr : Nat × Nat) (d : TypeDesc)
    (hp : tmps.getD p undef = .pointer (some ⟨g, 0, none⟩)) (hg : w.heap[g]? = some (.cells cs t fr))
    (hu : P.underlying ty = some d) (hd : (match d with | .struct _ | .array _ _ => true | _ => false) = true) (hi : (P.info? ty).map (·.size) = some cs.size) (x : Value) (hx : tmps.getD u undef = x) :
    (results fn tmps).run P w = .ok (.tuple #[.agg cs, x]) w := by
  rw [results_cell_tmp h, hp, hx]
  simp [asAddr, run_loadVar_row w g t ty cs fr d hg hu hd hi, Result.andThen]
def z16 : List Value := List.replicate 16 (.int .u8 0)
theorem u16_info : (Tryz.prog.info? 45).map (fun i => (i.zero, i.size)) = some (some (.agg z16.toArray), 16) := by kernel_rfl
theorem u16_size : (Tryz.prog.info? 45).map (·.size) = some 16 := (zero_of_info u16_info).2
theorem one_bytes (l : List UInt8) : (l.map bv).toArray.all (·.oneCell') = true := by
  rw [Array.all_eq_true_iff_forall_mem]
  intro v hv
  simp only [List.mem_toArray, List.mem_map] at hv
  obtain ⟨c, _, rfl⟩ := hv
  rfl

theorem z16_eq : z16 = (List.replicate 16 (0 : UInt8)).map bv := by rfl
theorem z16_one : z16.toArray.all (·.oneCell') = true := by rw [z16_eq]; exact one_bytes _

set_option maxRecDepth 20000 in
set_option maxHeartbeats 1000000 in
theorem id_ok (r : ByteArray) (hr : r.size = 16) (w : World) :
    Calls Tryz.prog 54 #[.string r] w fun e w' => e = .returned (.tuple #[.agg (r.data.toList.map bv).toArray, .int .i64 0]) ∧ Below w.heap.size w w' := by
  have hz := (zero_of_info u16_info).1
  have hl : r.data.toList.length = 16 := by rw [← hr]; simp
  have hone := one_bytes r.data.toList
  obtain ⟨cap, w7, hcv, hcell, hfr, hB, hsz⟩ := str_bytes (P := Tryz.prog) (w.alloc (.cells z16.toArray 45)) 9 76 5 r Tryz.underlying9 Tryz.underlying76 Tryz.underlying5
  have hrg : w7.rangeAt (w.heap.size + 1) 0 (r.data.toList.map bv) := fun j v hj => by
    have hj' : j < r.data.toList.length := by
      have := (List.getElem?_eq_some_iff.1 hj).1
      simpa using this
    have h := hcell j (by omega)
    rw [World.size_alloc] at h
    rw [Nat.zero_add, h]
    rw [List.getElem?_map, List.getElem?_eq_getElem hj'] at hj
    rw [List.getD_eq_getElem?_getD, List.getElem?_eq_getElem hj']
    exact hj
  have hr7 : Row w7 w.heap.size 45 z16 := (Row.new w 45 z16).below hB (by simp)
  have hb7 : Below w.heap.size w w7 := ((Below.refl w.heap.size w).alloc (Nat.le_refl _) (.cells z16.toArray 45)).trans (hB.mono (by simp))
  rw [World.size_alloc] at hcv
  have har := fun W => run_arrayAt (P := Tryz.prog) (w := W) 45 5 16 (some ⟨w.heap.size + 1, 0, none⟩) r.size cap Tryz.underlying45 (by omega)
  obtain ⟨C, hC⟩ : ∃ C, r.data.toList.map bv = C := ⟨_, rfl⟩
  have hCl : C.length = 16 := by rw [← hC, List.length_map, hl]
  rw [hC] at hrg hone ⊢
  have H := Lib.hid (And.intro hrg (And.intro hr7 (And.intro hb7 (And.intro hone hCl))))
  have hrI : ((r.size : Int) != 16) = false := by rw [hr]; rfl
  clear hl hone hcell hfr hB hsz hrg hr7 hb7 hC hCl hr
  go_enter Tryz.func54, Tryz.ntmps54
  go_wp2_with (first
    | (refine wpList_load_mid rfl 45 (.tmp 10) rfl (w.heap.size + 1) 0 rfl C _ H.out.1 Tryz.underlying45 rfl (by rw [u16_size, H.out.2.2.2.2]) ?_)
    | (refine wpList_store_row rfl 45 (.tmp 2) (.tmp 11) rfl w.heap.size C.toArray rfl rfl 45 z16.toArray H.out.2.1 (by rw [u16_size, List.size_toArray, H.out.2.2.2.2]) (by rw [List.size_toArray, List.size_toArray, H.out.2.2.2.2]; rfl) H.out.2.2.2.1 ?_))
  have hp := H.out.2.1.put C
  have hq := below_setRow (B := w.heap.size) H.out.2.2.1 (Nat.le_refl _) C.toArray
  exact bodyPost_ret (v := .tuple #[.agg C.toArray, .int .i64 0]) (results_row_tmp rfl _ _ w.heap.size 45 C.toArray (0, 0) _ rfl hp Tryz.underlying45 rfl (by rw [u16_size, List.size_toArray, H.out.2.2.2.2]) _ rfl) rfl ⟨rfl, hq⟩

set_option maxRecDepth 20000 in
set_option maxHeartbeats 1000000 in
theorem id_bad (r : ByteArray) (hr : r.size ≠ 16) (w : World) :
    Calls Tryz.prog 54 #[.string r] w fun e w' => e = .returned (.tuple #[.agg z16.toArray, .int .i64 4]) ∧ Below w.heap.size w w' := by
  have hz := (zero_of_info u16_info).1
  have hr7 := Row.new w 45 z16
  have hb7 : Below w.heap.size w (w.alloc (.cells z16.toArray 45)) := (Below.refl w.heap.size w).alloc (Nat.le_refl _) (.cells z16.toArray 45)
  have H := Lib.hid (And.intro hr7 hb7)
  have hrI : ((r.size : Int) != 16) = true := by rw [bne_iff_ne]; omega
  clear hr hr7 hb7
  go_enter Tryz.func54, Tryz.ntmps54
  go_wp2_with (refine wpList_store_row rfl 45 (.tmp 2) (.tmp 7) rfl w.heap.size z16.toArray rfl rfl 45 z16.toArray H.out.1 u16_size rfl z16_one ?_)
  have hp := H.out.1.put z16
  have hq := below_setRow (B := w.heap.size) H.out.2 (Nat.le_refl _) z16.toArray
  exact bodyPost_ret (v := .tuple #[.agg z16.toArray, .int .i64 4]) (results_row_tmp rfl _ _ w.heap.size 45 z16.toArray (0, 0) _ rfl hp Tryz.underlying45 rfl u16_size _ rfl) rfl ⟨rfl, hq⟩

set_option maxRecDepth 20000 in
set_option maxHeartbeats 1000000 in
/-- Whether all bytes are nought. -/
theorem idZero_any (l : List UInt8) (hl : l.length = 16) (w : World) :
    Calls Tryz.prog 27 #[.agg (l.map bv).toArray] w fun e w' => e = .returned (.bool (decide (l = List.replicate 16 0))) ∧ Below w.heap.size w w' := by
  have hr0 := Row.new w 45 (l.map bv)
  have hb0 : Below w.heap.size w (w.alloc (.cells (l.map bv).toArray 45)) := (Below.refl w.heap.size w).alloc (Nat.le_refl _) (.cells (l.map bv).toArray 45)
  have he := fun W => arr_equalIn (P := Tryz.prog) 45 5 16 l (List.replicate 16 0) hl rfl Tryz.underlying45 Tryz.underlying5 (Tryz.isAgg5) _ (info_parts (show (Tryz.prog.info? 5).map (fun i => (i.zero, i.size, i.bytes)) = some (some (.int .u8 0), 1, 1) by kernel_rfl)).choose_spec.1 (by kernel_rfl) W
  rw [← z16_eq] at he
  have ez : z16.toArray = zA := by rfl
  rw [ez] at he
  unfold zA at he
  obtain ⟨C, hC⟩ : ∃ C, l.map bv = C := ⟨_, rfl⟩
  have hCl : C.length = 16 := by rw [← hC, List.length_map, hl]
  obtain ⟨r, hr⟩ : ∃ r, decide (l = List.replicate 16 0) = r := ⟨_, rfl⟩
  rw [hC] at hr0 hb0 he ⊢
  rw [hr] at he ⊢
  have H := Lib.hid (And.intro hr0 (And.intro hb0 hCl))
  clear hC hr hr0 hb0 hl hCl ez
  go_enter Tryz.func27, Tryz.ntmps27
  go_wp2_with (first
    | (refine wpList_load_row rfl 45 (.tmp 1) rfl w.heap.size rfl 45 C.toArray (0, 0) _ H.out.1 Tryz.underlying45 rfl (by rw [u16_size, List.size_toArray, H.out.2.2]) ?_)
    | fail)
  go_ret
  exact ⟨rfl, H.out.2.1⟩
end Go.Proofs.YtcecibopanfmgaaGreatDoor

namespace Go.Proofs.YtcecibopanfmgaaGreatDoor
open Go.RowKit
set_option linter.unusedVariables false

/-- An operation whose guard is met. -/
theorem wpList_want {P : Program} {ops : Array Oper} {rest : List Oper} {o : Oper} {a : Act} {w : World} {Q : Exit → Act → World → Prop} (hw : Region.wanted o (yielded ops a.tmps) = true)
    (h : ∀ K : Act → World → Prop, (∀ a w, wpList P ops Q rest a w → K a w) → o.wp P a w K Q) : wpList P ops Q (o :: rest) a w := by
  simp only [wpList, hw, if_true]
  exact .inl (h _ (fun _ _ h => h))
/-- The library's variable holds some number. -/
def M (w : World) : Prop := ∃ m, w.cell? ⟨1, 0, none⟩ = some (.int .i64 m)
theorem M.below {w w' : World} (h : M w) (hb : Below w.heap.size w w') : M w' := by
  obtain ⟨m, hm⟩ := h
  exact ⟨m, (hb.cell (p := ⟨1, 0, none⟩) (block_lt_of_cell hm)).trans hm⟩

theorem strip_any (s : ByteArray) (hs : s.size ≤ 100000) (w : World) (hM : M w) :
    Calls Tryz.prog 53 #[.string s, .string ⟨#[45]⟩, .string ⟨#[]⟩] w fun e w' => e = .returned (.string ⟨(strip s.data.toList).toArray⟩) ∧ Below w.heap.size w w' := by
  obtain ⟨m, hm⟩ := hM
  have h := Tryz.strings_ReplaceAll s ⟨#[45]⟩ ⟨#[]⟩ m w (by omega) hm (by decide) (by show s.size + _ * 0 ≤ _; omega)
  rw [show (ByteArray.mk #[45]).data.toList = [45] from rfl, show (ByteArray.mk #[]).data.toList = [] from rfl, replaceAll_strip] at h
  exact h

set_option maxRecDepth 20000 in
set_option maxHeartbeats 2000000 in
/-- Where the bytes are no id's. -/
theorem parse_short (s t raw : ByteArray) (e : Int) (ht : (⟨(strip s.data.toList).toArray⟩ : ByteArray) = t) (hs : s.size ≤ 100000) (w : World) (hM : M w)
    (hD : ∀ W : World, Calls Tryz.prog 32 #[alph hexS 4 false, .string t] W fun x w' => x = .returned (.tuple #[.string raw, .int .i64 e]) ∧ Below W.heap.size W w') (hr : raw.size ≠ 16) :
    Calls Tryz.prog 26 #[.string s] w fun e w' => e = .returned (.tuple #[.agg z16.toArray, .int .i64 4]) ∧ Below w.heap.size w w' := by
  have hz := (zero_of_info u16_info).1
  have HS : Hid (∀ W : World, M W → Calls Tryz.prog 53 #[.string s, .string ⟨#[45]⟩, .string ⟨#[]⟩] W fun e w' => e = .returned (.string t) ∧ Below W.heap.size W w') := Lib.hid fun W h => by rw [← ht]; exact strip_any s hs W h
  have HD := Lib.hid hD
  have HI := Lib.hid (fun W => id_bad raw hr W)
  have HM := Lib.hid hM
  have hr0 := Row.new w 45 z16
  have hb0 : Below w.heap.size w (w.alloc (.cells z16.toArray 45)) := (Below.refl w.heap.size w).alloc (Nat.le_refl _) (.cells z16.toArray 45)
  have H0 := Lib.hid (And.intro hr0 hb0)
  clear hD ht hr hs hM hr0 hb0
  go_enter Tryz.func26, Tryz.ntmps26
  go_wp2_with fail
  obtain ⟨r0, b0⟩ := H0.out
  generalize w.alloc (.cells z16.toArray 45) = w0 at r0 b0 ⊢
  refine (Hex_any _).mono ?_
  rintro x w1 ⟨rfl, hb1⟩
  have r1 := r0.below hb1 r0.lt
  have b1 := b0.trans (hb1.mono b0.size)
  clear r0 b0 hb1 H0
  go_wp2_with fail
  refine (HS.out _ (HM.out.below b1)).mono ?_
  rintro x w2 ⟨rfl, hb2⟩
  have r2 := r1.below hb2 r1.lt
  have b2 := b1.trans (hb2.mono b1.size)
  clear r1 b1 hb2
  go_wp2_with fail
  refine (HD.out _).mono ?_
  rintro x w3 ⟨rfl, hb3⟩
  have r3 := r2.below hb3 r2.lt
  have b3 := b2.trans (hb3.mono b2.size)
  clear r2 b2 hb3
  go_wp2_with fail
  refine (HI.out _).mono ?_
  rintro x w4 ⟨rfl, hb4⟩
  have r4 := r3.below hb4 r3.lt
  have b4 := b3.trans (hb4.mono b3.size)
  clear r3 b3 hb4
  have r5 := r4.alloc (.cells z16.toArray 45)
  have b5 := b4.alloc b4.size (.cells z16.toArray 45)
  have n5 := Row.new w4 45 z16
  have r6 := r5.put_far (g' := w4.heap.size) (by have := r4.lt; omega) z16.toArray
  have b6 := below_setRow (B := w.heap.size) b5 b4.size z16.toArray
  have H := Lib.hid (And.intro n5 (And.intro r6 b6))
  clear r4 b4 r5 b5 n5 r6 b6
  go_wp2_with (first
    | (refine wpList_store_row rfl 45 (.tmp 6) (.tmp 18) rfl w4.heap.size z16.toArray rfl rfl 45 z16.toArray H.out.1 u16_size rfl z16_one ?_)
    | (refine wpList_store_row rfl 45 (.tmp 2) (.tmp 28) rfl w.heap.size z16.toArray rfl rfl 45 z16.toArray H.out.2.1 u16_size rfl z16_one ?_))
  have hp := H.out.2.1.put z16
  have hq := below_setRow (B := w.heap.size) H.out.2.2 (Nat.le_refl _) z16.toArray
  exact bodyPost_ret (v := .tuple #[.agg z16.toArray, .int .i64 4]) (results_row_tmp rfl _ _ w.heap.size 45 z16.toArray (0, 0) _ rfl hp Tryz.underlying45 rfl u16_size _ rfl) rfl ⟨rfl, hq⟩

set_option maxRecDepth 20000 in
set_option maxHeartbeats 2000000 in
/-- Where they are, and the text is theirs. -/
theorem parse_long (s t raw : ByteArray) (e : Int) (ht : (⟨(strip s.data.toList).toArray⟩ : ByteArray) = t) (hs : s.size ≤ 100000) (w : World) (hM : M w)
    (hD : ∀ W : World, Calls Tryz.prog 32 #[alph hexS 4 false, .string t] W fun x w' => x = .returned (.tuple #[.string raw, .int .i64 e]) ∧ Below W.heap.size W w') (hr : raw.size = 16) (htx : idL raw.data.toList = s.data.toList) :
    Calls Tryz.prog 26 #[.string s] w fun e w' => e = .returned (.tuple #[.agg (raw.data.toList.map bv).toArray, .int .i64 0]) ∧ Below w.heap.size w w' := by
  have hz := (zero_of_info u16_info).1
  have HS : Hid (∀ W : World, M W → Calls Tryz.prog 53 #[.string s, .string ⟨#[45]⟩, .string ⟨#[]⟩] W fun e w' => e = .returned (.string t) ∧ Below W.heap.size W w') := Lib.hid fun W h => by rw [← ht]; exact strip_any s hs W h
  have HD := Lib.hid hD
  have hl : raw.data.toList.length = 16 := by rw [← hr]; simp
  have hI := fun W => id_ok raw hr W
  have hT := fun W => idText_any raw.data.toList hl W
  have hone := one_bytes raw.data.toList
  obtain ⟨C, hC⟩ : ∃ C, raw.data.toList.map bv = C := ⟨_, rfl⟩
  have hCl : C.length = 16 := by rw [← hC, List.length_map, hl]
  rw [hC] at hI hT hone ⊢
  have htt : (⟨(idL raw.data.toList).toArray⟩ : ByteArray) = s := by rw [htx]
  rw [htt] at hT
  have HI := Lib.hid hI
  have HT := Lib.hid hT
  have HC := Lib.hid (And.intro hCl hone)
  have HM := Lib.hid hM
  have hr0 := Row.new w 45 z16
  have hb0 : Below w.heap.size w (w.alloc (.cells z16.toArray 45)) := (Below.refl w.heap.size w).alloc (Nat.le_refl _) (.cells z16.toArray 45)
  have H0 := Lib.hid (And.intro hr0 hb0)
  clear hD ht hr hs hM hr0 hb0 hl hI hT hone hC hCl htt htx
  go_enter Tryz.func26, Tryz.ntmps26
  go_wp2_with fail
  obtain ⟨r0, b0⟩ := H0.out
  generalize w.alloc (.cells z16.toArray 45) = w0 at r0 b0 ⊢
  refine (Hex_any _).mono ?_
  rintro x w1 ⟨rfl, hb1⟩
  have r1 := r0.below hb1 r0.lt
  have b1 := b0.trans (hb1.mono b0.size)
  clear r0 b0 hb1 H0
  go_wp2_with fail
  refine (HS.out _ (HM.out.below b1)).mono ?_
  rintro x w2 ⟨rfl, hb2⟩
  have r2 := r1.below hb2 r1.lt
  have b2 := b1.trans (hb2.mono b1.size)
  clear r1 b1 hb2
  go_wp2_with fail
  refine (HD.out _).mono ?_
  rintro x w3 ⟨rfl, hb3⟩
  have r3 := r2.below hb3 r2.lt
  have b3 := b2.trans (hb3.mono b2.size)
  clear r2 b2 hb3
  go_wp2_with fail
  refine (HI.out _).mono ?_
  rintro x w4 ⟨rfl, hb4⟩
  have r4 := r3.below hb4 r3.lt
  have b4 := b3.trans (hb4.mono b3.size)
  clear r3 b3 hb4
  have r5 := r4.alloc (.cells z16.toArray 45)
  have b5 := b4.alloc b4.size (.cells z16.toArray 45)
  have n5 := Row.new w4 45 z16
  have N5 := Lib.hid n5
  have n6 := n5.put C
  have r6 := r5.put_far (g' := w4.heap.size) (by have := r4.lt; omega) C.toArray
  have b6 := below_setRow (B := w.heap.size) b5 b4.size C.toArray
  clear r4 b4 r5 b5 n5
  go_wp2_with (first
    | (refine wpList_store_row rfl 45 (.tmp 6) (.tmp 18) rfl w4.heap.size C.toArray rfl rfl 45 z16.toArray N5.out (by rw [u16_size, List.size_toArray, HC.out.1]) (by rw [List.size_toArray, List.size_toArray, HC.out.1]; rfl) HC.out.2 ?_)
    | (refine wpList_want (by rfl) fun _ hK => wp_load_row 45 (.tmp 6) rfl w4.heap.size rfl 45 C.toArray (0, 0) _ n6 Tryz.underlying45 rfl (by rw [u16_size, List.size_toArray, HC.out.1]) (hK _ _ ?_)))
  generalize (w4.alloc (.cells z16.toArray 45)).setRow w4.heap.size C.toArray = w5 at n6 r6 b6 ⊢
  obtain ⟨g6, hg6⟩ : ∃ g, w4.heap.size = g := ⟨_, rfl⟩
  rw [hg6] at n6 ⊢
  clear N5 hg6
  refine (HT.out _).mono ?_
  rintro x w6 ⟨rfl, hb6⟩
  have n7 := n6.below hb6 n6.lt
  have r7 := r6.below hb6 r6.lt
  have b7 := b6.trans (hb6.mono b6.size)
  clear n6 r6 b6 hb6
  go_wp2_with (first
    | (refine wpList_load_row rfl 45 (.tmp 6) rfl g6 rfl 45 C.toArray (0, 0) _ n7 Tryz.underlying45 rfl (by rw [u16_size, List.size_toArray, HC.out.1]) ?_)
    | (refine wpList_store_row rfl 45 (.tmp 2) (.tmp 29) rfl w.heap.size C.toArray rfl rfl 45 z16.toArray r7 (by rw [u16_size, List.size_toArray, HC.out.1]) (by rw [List.size_toArray, List.size_toArray, HC.out.1]; rfl) HC.out.2 ?_))
  have hp := r7.put C
  have hq := below_setRow (B := w.heap.size) b7 (Nat.le_refl _) C.toArray
  exact bodyPost_ret (v := .tuple #[.agg C.toArray, .int .i64 0]) (results_row_tmp rfl _ _ w.heap.size 45 C.toArray (0, 0) _ rfl hp Tryz.underlying45 rfl (by rw [u16_size, List.size_toArray, HC.out.1]) _ rfl) rfl ⟨rfl, hq⟩

set_option maxRecDepth 20000 in
set_option maxHeartbeats 2000000 in
/-- Where they are, and the text isn't theirs. -/
theorem parse_other (s t raw : ByteArray) (e : Int) (ht : (⟨(strip s.data.toList).toArray⟩ : ByteArray) = t) (hs : s.size ≤ 100000) (w : World) (hM : M w)
    (hD : ∀ W : World, Calls Tryz.prog 32 #[alph hexS 4 false, .string t] W fun x w' => x = .returned (.tuple #[.string raw, .int .i64 e]) ∧ Below W.heap.size W w') (hr : raw.size = 16) (htx : idL raw.data.toList ≠ s.data.toList) :
    Calls Tryz.prog 26 #[.string s] w fun e w' => e = .returned (.tuple #[.agg z16.toArray, .int .i64 4]) ∧ Below w.heap.size w w' := by
  have hz := (zero_of_info u16_info).1
  have HS : Hid (∀ W : World, M W → Calls Tryz.prog 53 #[.string s, .string ⟨#[45]⟩, .string ⟨#[]⟩] W fun e w' => e = .returned (.string t) ∧ Below W.heap.size W w') := Lib.hid fun W h => by rw [← ht]; exact strip_any s hs W h
  have HD := Lib.hid hD
  have hl : raw.data.toList.length = 16 := by rw [← hr]; simp
  have hI := fun W => id_ok raw hr W
  have hT := fun W => idText_any raw.data.toList hl W
  have hone := one_bytes raw.data.toList
  obtain ⟨C, hC⟩ : ∃ C, raw.data.toList.map bv = C := ⟨_, rfl⟩
  have hCl : C.length = 16 := by rw [← hC, List.length_map, hl]
  rw [hC] at hI hT hone
  obtain ⟨tx, htt⟩ : ∃ tx : ByteArray, (⟨(idL raw.data.toList).toArray⟩ : ByteArray) = tx := ⟨_, rfl⟩
  rw [htt] at hT
  have hne : (tx.toList == s.toList) = false := by
    rw [beq_eq_false_iff_ne, Lib.toList_data, Lib.toList_data, ← htt]
    exact htx
  have HI := Lib.hid hI
  have HT := Lib.hid hT
  have HC := Lib.hid (And.intro hCl hone)
  have HM := Lib.hid hM
  have hr0 := Row.new w 45 z16
  have hb0 : Below w.heap.size w (w.alloc (.cells z16.toArray 45)) := (Below.refl w.heap.size w).alloc (Nat.le_refl _) (.cells z16.toArray 45)
  have H0 := Lib.hid (And.intro hr0 hb0)
  clear hD ht hr hs hM hr0 hb0 hl hI hT hone hC hCl htt htx
  go_enter Tryz.func26, Tryz.ntmps26
  go_wp2_with fail
  obtain ⟨r0, b0⟩ := H0.out
  generalize w.alloc (.cells z16.toArray 45) = w0 at r0 b0 ⊢
  refine (Hex_any _).mono ?_
  rintro x w1 ⟨rfl, hb1⟩
  have r1 := r0.below hb1 r0.lt
  have b1 := b0.trans (hb1.mono b0.size)
  clear r0 b0 hb1 H0
  go_wp2_with fail
  refine (HS.out _ (HM.out.below b1)).mono ?_
  rintro x w2 ⟨rfl, hb2⟩
  have r2 := r1.below hb2 r1.lt
  have b2 := b1.trans (hb2.mono b1.size)
  clear r1 b1 hb2
  go_wp2_with fail
  refine (HD.out _).mono ?_
  rintro x w3 ⟨rfl, hb3⟩
  have r3 := r2.below hb3 r2.lt
  have b3 := b2.trans (hb3.mono b2.size)
  clear r2 b2 hb3
  go_wp2_with fail
  refine (HI.out _).mono ?_
  rintro x w4 ⟨rfl, hb4⟩
  have r4 := r3.below hb4 r3.lt
  have b4 := b3.trans (hb4.mono b3.size)
  clear r3 b3 hb4
  have r5 := r4.alloc (.cells z16.toArray 45)
  have b5 := b4.alloc b4.size (.cells z16.toArray 45)
  have n5 := Row.new w4 45 z16
  have N5 := Lib.hid n5
  have n6 := n5.put C
  have r6 := r5.put_far (g' := w4.heap.size) (by have := r4.lt; omega) C.toArray
  have b6 := below_setRow (B := w.heap.size) b5 b4.size C.toArray
  clear r4 b4 r5 b5 n5
  go_wp2_with (first
    | (refine wpList_store_row rfl 45 (.tmp 6) (.tmp 18) rfl w4.heap.size C.toArray rfl rfl 45 z16.toArray N5.out (by rw [u16_size, List.size_toArray, HC.out.1]) (by rw [List.size_toArray, List.size_toArray, HC.out.1]; rfl) HC.out.2 ?_)
    | (refine wpList_want (by rfl) fun _ hK => wp_load_row 45 (.tmp 6) rfl w4.heap.size rfl 45 C.toArray (0, 0) _ n6 Tryz.underlying45 rfl (by rw [u16_size, List.size_toArray, HC.out.1]) (hK _ _ ?_)))
  generalize (w4.alloc (.cells z16.toArray 45)).setRow w4.heap.size C.toArray = w5 at n6 r6 b6 ⊢
  obtain ⟨g6, hg6⟩ : ∃ g, w4.heap.size = g := ⟨_, rfl⟩
  rw [hg6] at n6 ⊢
  clear N5 hg6
  refine (HT.out _).mono ?_
  rintro x w6 ⟨rfl, hb6⟩
  have n7 := n6.below hb6 n6.lt
  have r7 := r6.below hb6 r6.lt
  have b7 := b6.trans (hb6.mono b6.size)
  clear n6 r6 b6 hb6
  go_wp2_with (refine wpList_store_row rfl 45 (.tmp 2) (.tmp 28) rfl w.heap.size z16.toArray rfl rfl 45 z16.toArray r7 u16_size rfl z16_one ?_)
  have hp := r7.put z16
  have hq := below_setRow (B := w.heap.size) b7 (Nat.le_refl _) z16.toArray
  exact bodyPost_ret (v := .tuple #[.agg z16.toArray, .int .i64 4]) (results_row_tmp rfl _ _ w.heap.size 45 z16.toArray (0, 0) _ rfl hp Tryz.underlying45 rfl u16_size _ rfl) rfl ⟨rfl, hq⟩

/-- The id of its text. -/
theorem Parse_ok (s : ByteArray) (l : List UInt8) (h : IsId s.data.toList l) (hs : s.size ≤ 100000) (w : World) (hM : M w) :
    Calls Tryz.prog 26 #[.string s] w fun e w' => e = .returned (.tuple #[.agg (l.map bv).toArray, .int .i64 0]) ∧ Below w.heap.size w w' := by
  have hst : (⟨(strip s.data.toList).toArray⟩ : ByteArray) = ⟨(hexL l).toArray⟩ := by rw [← h.2, strip_id]
  have hl : (hexL l).length = 32 := by rw [hexL_length, h.1]
  have henc : encS hexS 4 false (decS hexS 4 ⟨(hexL l).toArray⟩) = ⟨(hexL l).toArray⟩ := by rw [dec_hex, encS_hex]
  refine parse_long s ⟨(hexL l).toArray⟩ ⟨l.toArray⟩ 0 hst hs w hM (fun W => ?_) (by show l.toArray.size = 16; rw [List.size_toArray, h.1]) h.2
  have hd := Decode_ok hexS 4 false ⟨(hexL l).toArray⟩ W (.inl rfl) rfl (by show (hexL l).toArray.size ≤ _; rw [List.size_toArray, hl]; omega) henc
  rwa [dec_hex] at hd
/-- A text that is no id's. -/
theorem Parse_bad (s : ByteArray) (h : ∀ l, ¬ IsId s.data.toList l) (hs : s.size ≤ 50000) (w : World) (hM : M w) :
    Calls Tryz.prog 26 #[.string s] w fun e w' => e = .returned (.tuple #[.agg z16.toArray, .int .i64 4]) ∧ Below w.heap.size w w' := by
  obtain ⟨t, ht⟩ : ∃ t : ByteArray, (⟨(strip s.data.toList).toArray⟩ : ByteArray) = t := ⟨_, rfl⟩
  have hts : t.size ≤ 100000 := by
    rw [← ht]
    show (strip s.data.toList).toArray.size ≤ _
    rw [List.size_toArray]
    have h1 : (strip s.data.toList).length ≤ s.data.toList.length := List.length_filter_le _ _
    have h2 : s.data.toList.length = s.size := by simp
    omega
  by_cases he : encS hexS 4 false (decS hexS 4 t) = t
  · by_cases hz : (decS hexS 4 t).size = 16
    · exact parse_other s t (decS hexS 4 t) 0 ht (by omega) w hM (fun W => Decode_ok hexS 4 false t W (.inl rfl) rfl hts he) hz (fun e => h _ ⟨by rw [← hz]; simp, e⟩)
    · exact parse_short s t (decS hexS 4 t) 0 ht (by omega) w hM (fun W => Decode_ok hexS 4 false t W (.inl rfl) rfl hts he) hz
  · exact parse_short s t ⟨#[]⟩ 4 ht (by omega) w hM (fun W => Decode_bad hexS 4 false t W (.inl rfl) rfl hts he) (by decide)
end Go.Proofs.YtcecibopanfmgaaGreatDoor

namespace Go.Proofs.YtcecibopanfmgaaGreatDoor
open Go.ChangeShapes Go.WideShapes Go.RowKit
set_option linter.unusedVariables false

section
variable {H : Type} {enc : TypeId × Value → H}
theorem returns_shaped_and {a : Assume} {C : Checked} {os : Os} {f : FuncId} {fn : Func} {s : ChangeSpec} {conds : List PathCond} {apart fresh handsOn again : Bool} {X : World → Array Value → Prop}
    (hX : ∀ (w w' : World) (args : Array Value), w.heap = w'.heap → X w args → X w' args)
    (own : ownKnob C.prog.godebug = none) (started : os.Started) (noInit : C.prog.inits.idxOf? f = none) (hfn : C.prog.funcs[f]? = some fn)
    (witness : ∃ (w : World) (tape : Tape) (i : Input), w.os = os ∧ (w.forCall tape i).Shaped C.prog ∧ i.vars = [] ∧ Input.okWide C.prog (w.forCall tape i) .any w.heap.size f i ∧
      ((s.pre enc C.prog fn conds apart (w.forCall tape i).memory i.args ∧ X (w.forCall tape i).memory i.args) ∧ sizedMet enc C.prog fn (OpenSpec.ofChange s) apart (w.forCall tape i).memory i.args) ∧ a.holds C.prog (lone (Frame.enter C.prog f i.args .normal) [] (w.forCall tape i)))
    (contract : ∀ (W : World) (base : Nat) (args : Array Value) (ds gs : List (DataW H)) (before : List MemPlace),
      (∀ (j : Nat) t v, fn.params[j]? = some t → args[j]? = some v → Value.okWide C.prog W .any base t v) →
      DataW.Whole enc C.prog fn.params.toList s.vars apart W args.toList ds gs before →
      conds.all (PathCond.test C.prog ⟨fn.params.toList, ds, s.plain.varTypes C.prog, gs⟩) = true →
      (DataW.weightsEach C.prog (fn.params.toList ++ s.plain.varTypes C.prog) (ds ++ gs)).all (· ≤ reachBytes) = true → X W args → W.ShapedOpen C.prog →
      Calls C.prog f args W fun e W' => ∃ v, e = .returned v ∧ s.post enc C.prog fn apart fresh handsOn again W args v W') :
    ReturnsInHanded a C os f .any (fun w args => (s.pre enc C.prog fn conds apart w args ∧ X w args) ∧ sizedMet enc C.prog fn (OpenSpec.ofChange s) apart w args) (s.post enc C.prog fn apart fresh handsOn again) := by
  refine returnsInHanded_of_calls own started noInit witness ?_
  intro w tape i _ hsh _ hok hpre _
  obtain ⟨_, _, _, fn', hfn', _, _, _, _, hval⟩ := hok
  obtain rfl : fn' = fn := Option.some.inj (hfn'.symm.trans hfn)
  obtain ⟨⟨⟨ds, gs, before, hw, hc⟩, hx⟩, hz⟩ := hpre
  refine (contract (w.forCall tape i) w.heap.size i.args ds gs before hval (DataW.Whole.of_heap (w' := w.forCall tape i) (by rfl) hw) hc (hz.weights hw) (hX _ _ _ (by rfl) hx) hsh).mono fun e W' ⟨v, he, hp⟩ => ?_
  subst he
  exact ChangeSpec.post_blind hp
end

theorem M_of_shaped {W : World} (h : W.ShapedOpen Tryz.prog) : M W :=
  cell_of_shapedOpen_int (t := 3) (zero := #[.int .i64 0]) h (of_decide_eq_true (by kernel_rfl)) (by kernel_rfl) rfl (by kernel_rfl) (by kernel_rfl) Tryz.underlying3
end Go.Proofs.YtcecibopanfmgaaGreatDoor

namespace Go.Proofs.YtcecibopanfmgaaGreatDoor
open Go Go.Shelf Go.RowKit
def Tryz.lays110_ren : Go.Shelf.Ren := ⟨fun | 110 => 28 | 109 => 55 | n => n, fun | 31 => 22 | 9 => 9 | 4 => 4 | 3 => 3 | 0 => 0 | n => n, fun | n => n⟩
theorem Tryz.lays110 : Go.Proofs.Lays.n110 Tryz.prog Tryz.lays110_ren := {
  mixed := by kernel_rfl
  f109 := Tryz.func55.trans (congrArg some (by kernel_rfl))
  f110 := Tryz.func28.trans (congrArg some (by kernel_rfl))
  t0 := Tryz.underlying0
  a0 := Tryz.isAgg0
  z0 := Tryz.sizeOf0
  v0 := Tryz.zeroValue0
  t3 := Tryz.underlying3
  a3 := Tryz.isAgg3
  z3 := Tryz.sizeOf3
  v3 := Tryz.zeroValue3
  t4 := Tryz.underlying4
  a4 := Tryz.isAgg4
  z4 := Tryz.sizeOf4
  v4 := Tryz.zeroValue4
  t9 := Tryz.underlying9
  a9 := Tryz.isAgg9
  z9 := Tryz.sizeOf9
  v9 := Tryz.zeroValue9
  t31 := Tryz.underlying22
  a31 := Tryz.isAgg22
  z31 := Tryz.sizeOf22
  v31 := Tryz.zeroValue22 }
open Go.Lib in
theorem Tryz.slices_Contains_string (b off n c : Nat) (zs : List ByteArray) (x : ByteArray) (w : World) (hz : n ≤ zs.length) (hbig : n ≤ 9223372036854775807) (hc : ∀ j, j < zs.length → w.cell? ⟨b, off + j, none⟩ = some (.string (zs.getD j ByteArray.empty))) :
    Calls Tryz.prog 28 #[.slice (some ⟨b, off, none⟩) n c, .string x] w fun e w' => e = .returned (.bool (Lib.containsS (zs.take n) x)) ∧ w' = w := Any.slices_Contains_string Tryz.lays110 b off n c zs x w hz hbig hc
open Go.Lib in
theorem Tryz.slices_Contains_string_empty (a : Option Addr) (c : Nat) (x : ByteArray) (w : World) :
    Calls Tryz.prog 28 #[.slice a 0 c, .string x] w fun e w' => e = .returned (.bool false) ∧ w' = w := Any.slices_Contains_string_empty Tryz.lays110 a c x w
def Tryz.laysNm216_ren : Go.Shelf.Ren := ⟨fun | 16 => 21 | n => n, fun | 24 => 22 | 9 => 9 | 4 => 4 | n => n, fun | n => n⟩
theorem Tryz.laysNm216 : Go.Proofs.Lays2.n16 Tryz.prog Tryz.laysNm216_ren := {
  mixed := by kernel_rfl
  f16 := Tryz.func21.trans (congrArg some (by kernel_rfl))
  t4 := Tryz.underlying4
  a4 := Tryz.isAgg4
  z4 := Tryz.sizeOf4
  v4 := Tryz.zeroValue4
  t9 := Tryz.underlying9
  a9 := Tryz.isAgg9
  z9 := Tryz.sizeOf9
  v9 := Tryz.zeroValue9
  t24 := Tryz.underlying22
  a24 := Tryz.isAgg22
  z24 := Tryz.sizeOf22
  v24 := Tryz.zeroValue22
  i9 := by kernel_rfl }
open Go.RowKit Go.Lib in
theorem Tryz.slices_Clone_string (b off n c : Nat) (zs : List ByteArray) (w : World) (hz : n ≤ zs.length) (hbig : n * 16 ≤ 140737488355328) (hc : ∀ j, j < zs.length → w.cell? ⟨b, off + j, none⟩ = some (.string (zs.getD j ByteArray.empty))) :
    Calls Tryz.prog 21 #[.slice (some ⟨b, off, none⟩) n c] w fun e w' => ∃ v', e = .returned v' ∧ w'.ownsRow w.heap.size 9 1 v' n ((zs.take n).map (Value.string)) ∧ v' ≠ .slice none 0 0 ∧ Below w.heap.size w w' := Any.slices_Clone_string Tryz.laysNm216 b off n c zs w hz hbig hc
open Go.RowKit Go.Lib in
theorem Tryz.slices_Clone_string_nil (n c : Nat) (w : World) :
    Calls Tryz.prog 21 #[.slice none n c] w fun e w' => e = .returned (.slice none 0 0) ∧ w' = w := Any.slices_Clone_string_nil Tryz.laysNm216 n c w
open Go.RowKit Go.Lib in
theorem Tryz.slices_Clone_string_zero (a : Addr) (c : Nat) (w : World) :
    Calls Tryz.prog 21 #[.slice (some a) 0 c] w fun e w' => ∃ v', e = .returned v' ∧ w'.ownsRow w.heap.size 9 1 v' 0 [] ∧ v' ≠ .slice none 0 0 ∧ Below w.heap.size w w' := Any.slices_Clone_string_zero Tryz.laysNm216 a c w
end Go.Proofs.YtcecibopanfmgaaGreatDoor

namespace Go.Proofs.YtcecibopanfmgaaGreatDoor
open Go.RowKit
set_option linter.unusedVariables false

theorem strs_row {w : World} {v : Value} {l : List ByteArray} {B k g : Nat} (h : w.ownsRow B 9 1 v k (l.map Value.string)) (hk : k = l.length) (hg : g < B) (cs : Array Value) : Strs (w.setRow g cs) v l := by
  subst hk
  rcases h.2 with ⟨h0, h1⟩ | ⟨g', cap, cur, hv, hgB, _, hn, hcap, _, _⟩
  · subst h0
    exact ⟨none, 0, 0, 0, by rw [h1], fun h => by omega, fun j hj => by omega⟩
  · subst hv
    have hl := h.lt g' rfl
    refine ⟨some ⟨g', 0, none⟩, cap, g', 0, rfl, fun _ => ⟨rfl, by simp; exact hl.2⟩, fun j hj => ?_⟩
    rw [Nat.zero_add]
    refine (World.cell?_of_block (setRow_other w g g' cs (by omega))).trans ?_
    rw [h.cellAt j (by omega)]
    simp [List.getD, List.getElem?_eq_getElem hj]

def OfPost (k a b : Int) (l : List ByteArray) (w : World) (e : Ending) (w' : World) : Prop := ∃ v', e = .returned (.agg #[.int .i64 k, .int .i64 a, .int .i64 b, v']) ∧ Strs w' v' l ∧ Below w.heap.size w w'
theorem rule_info : (Tryz.prog.info? 24).map (·.size) = some 4 := by kernel_rfl

set_option maxRecDepth 20000 in
set_option maxHeartbeats 1000000 in
theorem Of_any (k a b : Int) (v : Value) (l : List ByteArray) (w : World) (hv : Strs w v l) (hl : l.length ≤ 1000000) :
    Calls Tryz.prog 9 #[.int .i64 k, .int .i64 a, .int .i64 b, v] w (OfPost k a b l w) := by
  have HCL : Hid (∀ W : World, Below w.heap.size w W → Calls Tryz.prog 21 #[v] W fun e w' => ∃ v', e = .returned v' ∧ w'.ownsRow W.heap.size 9 1 v' l.length (l.map Value.string) ∧ Below W.heap.size W w') := Lib.hid fun W hW => by
    obtain ⟨a0, cap, g, off, rfl, hp, hc⟩ := hv
    by_cases h0 : l.length = 0
    · have hl0 : l = [] := List.eq_nil_of_length_eq_zero h0
      subst hl0
      cases a0 with
      | none =>
        refine (Tryz.slices_Clone_string_nil _ cap W).mono ?_
        rintro e w' ⟨rfl, rfl⟩
        exact ⟨_, rfl, World.ownsRow_nil _ _ _ _, Below.refl _ _⟩
      | some ad =>
        refine (Tryz.slices_Clone_string_zero ad cap W).mono ?_
        rintro e w' ⟨v', rfl, ho, _, hb⟩
        exact ⟨_, rfl, ho, hb⟩
    · obtain ⟨rfl, hg⟩ := hp (by omega)
      refine (Tryz.slices_Clone_string g off l.length cap l W (Nat.le_refl _) (by omega) (fun j hj => (hW.cell (p := ⟨g, off + j, none⟩) hg).trans (hc j hj))).mono ?_
      rintro e w' ⟨v', rfl, ho, _, hb⟩
      rw [List.take_length] at ho
      exact ⟨_, rfl, ho, hb⟩
  have hr : Row (w.alloc (.cells #[.int .i64 0, .int .i64 0, .int .i64 0, .slice none 0 0] 24)) w.heap.size 24 [.int .i64 0, .int .i64 0, .int .i64 0, .slice none 0 0] := Row.new w _ _
  have hb : Below w.heap.size w (w.alloc (.cells #[.int .i64 0, .int .i64 0, .int .i64 0, .slice none 0 0] 24)) := (Below.refl w.heap.size w).alloc (Nat.le_refl _) _
  have H := Lib.hid (And.intro hr hb)
  clear hr hb hv
  go_enter Tryz.func9, Tryz.ntmps9
  go_wp2_with fail
  refine (HCL.out _ H.out.2).mono ?_
  rintro e w1 ⟨v', rfl, ho, hb1⟩
  obtain ⟨p, c, rfl⟩ := own_form ho
  have hr1 := H.out.1.below hb1 (by simp)
  have hB1 := H.out.2.trans (hb1.mono (by simp))
  have hS1 := strs_row ho rfl (by simp : w.heap.size < (w.alloc (.cells #[.int .i64 0, .int .i64 0, .int .i64 0, .slice none 0 0] 24)).heap.size) #[.int .i64 k, .int .i64 a, .int .i64 b, .slice p l.length c]
  have HE := Lib.hid (And.intro hr1 (And.intro hB1 hS1))
  clear ho hb1 hr1 hB1 hS1 H
  go_wp2_with (refine wpList_store_row rfl 24 (.tmp 8) (.tmp 14) rfl w.heap.size #[.int .i64 k, .int .i64 a, .int .i64 b, .slice p l.length c] rfl rfl 24 #[.int .i64 0, .int .i64 0, .int .i64 0, .slice none 0 0] HE.out.1 rule_info rfl (by simp [Value.oneCell']) ?_)
  have hq := HE.out.1.put [.int .i64 k, .int .i64 a, .int .i64 b, .slice p l.length c]
  have hbq := below_setRow (B := w.heap.size) HE.out.2.1 (Nat.le_refl _) #[.int .i64 k, .int .i64 a, .int .i64 b, .slice p l.length c]
  refine bodyPost_ret (v := .agg #[.int .i64 k, .int .i64 a, .int .i64 b, .slice p l.length c]) (results_cell_row rfl _ _ w.heap.size 24 #[.int .i64 k, .int .i64 a, .int .i64 b, .slice p l.length c] (0, 0) _ rfl hq Tryz.underlying24 rfl rule_info) rfl ?_
  exact ⟨_, rfl, HE.out.2.2, hbq⟩
end Go.Proofs.YtcecibopanfmgaaGreatDoor

namespace Go.Proofs.YtcecibopanfmgaaGreatDoor
open Go.RowKit
set_option linter.unusedVariables false

/-- What Put writes. -/
def putB (r : Int) : ByteArray := if Utf8.valid r then ⟨(enc r.toNat).toArray⟩ else ⟨#[]⟩

theorem ret_int_u {k : IntKind} {a b : Int} (h : a = b) : Ending.returned (.int k a) = .returned (.int k b) := by rw [h]
theorem ret_boolE_u {a b : Bool} (h : a = b) : Ending.returned (.bool a) = .returned (.bool b) := by rw [h]
theorem ret_str_u {a b : ByteArray} (h : a = b) : Ending.returned (.string a) = .returned (.string b) := by rw [h]

theorem putB_not {r : Int} (h : Utf8.valid r = false) : putB r = ⟨#[]⟩ := by unfold putB; rw [h]; rfl
theorem putB_valid {r : Int} (h : Utf8.valid r = true) : putB r = Utf8.encode r := by
  have h0 : 0 ≤ r := by have := (valid_iff r).1 h; omega
  obtain ⟨c, rfl⟩ : ∃ c : Nat, r = c := ⟨r.toNat, by omega⟩
  unfold putB
  rw [if_pos h, encode_eq c h]
  rfl
theorem putB_nat {c : Nat} (h : Utf8.valid c = true) : putB c = ⟨(enc c).toArray⟩ := by unfold putB; rw [if_pos h]; rfl
theorem putB_size {c : Nat} (h : Utf8.valid c = true) : (putB c).size = encLen c := by
  rw [putB_nat h, ← enc_length]
  show (enc c).toArray.size = _
  simp

theorem eL1 {r : Int} (g : 0 ≤ r) (h : r ≤ 127) : encLen r.toNat = 1 := by unfold encLen; rw [if_pos (by omega)]
theorem eL2 {r : Int} (g : 127 < r) (h : r ≤ 2047) : encLen r.toNat = 2 := by unfold encLen; rw [if_neg (by omega), if_pos (by omega)]
theorem eL3 {r : Int} (g : 2047 < r) (h : r ≤ 65535) : encLen r.toNat = 3 := by unfold encLen; rw [if_neg (by omega), if_neg (by omega), if_pos (by omega)]
theorem eL4 {r : Int} (g : 65535 < r) : encLen r.toNat = 4 := by unfold encLen; rw [if_neg (by omega), if_neg (by omega), if_neg (by omega)]

set_option maxHeartbeats 400000 in
set_option maxRecDepth 20000 in
theorem RuneLen_int (r : Int) (w : World) (hv : Utf8.valid r = true) :
    Calls Tryz.prog 92 #[.int .i32 r] w fun e w' => e = .returned (.int .i64 (encLen r.toNat : Nat)) ∧ w = w' := by
  have H := Lib.hid ((valid_iff r).1 hv)
  have h0 : 0 ≤ r := by have := H.out; omega
  clear hv
  go_enter Tryz.func92, Tryz.ntmps92
  go_wp2
  all_goals have H' := H.out
  all_goals first
    | (exfalso; omega)
    | (go_ret; exact ⟨ret_int_u (by rw [eL1 (by omega) (by omega)]; rfl), rfl⟩)
    | (go_ret; exact ⟨ret_int_u (by rw [eL2 (by omega) (by omega)]; rfl), rfl⟩)
    | (go_ret; exact ⟨ret_int_u (by rw [eL3 (by omega) (by omega)]; rfl), rfl⟩)
    | (go_ret; exact ⟨ret_int_u (by rw [eL4 (by omega)]; rfl), rfl⟩)

set_option maxRecDepth 20000 in
theorem RuneLen_any (c : Nat) (w : World) (hv : Utf8.valid c = true) :
    Calls Tryz.prog 92 #[.int .i32 (c : Nat)] w fun e w' => e = .returned (.int .i64 (encLen c : Nat)) ∧ w = w' := by
  have h := RuneLen_int c w hv
  rw [Int.toNat_natCast] at h
  exact h

theorem v_yes {r : Int} (h : (0 ≤ r ∧ r < 55296) ∨ (57344 ≤ r ∧ r ≤ 1114111)) : Utf8.valid r = true := (valid_iff r).2 h
theorem v_no {r : Int} (h : ¬ ((0 ≤ r ∧ r < 55296) ∨ (57344 ≤ r ∧ r ≤ 1114111))) : Utf8.valid r = false := by
  cases hb : Utf8.valid r with
  | false => rfl
  | true => exact absurd ((valid_iff r).1 hb) h

set_option maxHeartbeats 400000 in
set_option maxRecDepth 20000 in
theorem ValidRune_any (r : Int) (w : World) :
    Calls Tryz.prog 89 #[.int .i32 r] w fun e w' => e = .returned (.bool (Utf8.valid r)) ∧ w = w' := by
  go_enter Tryz.func89, Tryz.ntmps89
  go_wp2
  all_goals go_ret
  all_goals first
    | exact ⟨ret_boolE_u (v_yes (by omega)).symm, rfl⟩
    | exact ⟨ret_boolE_u (v_no (by omega)).symm, rfl⟩

set_option maxHeartbeats 400000 in
set_option maxRecDepth 20000 in
theorem Put_any_u (r : Int) (w : World) :
    Calls Tryz.prog 72 #[.int .i32 r] w fun e w' => e = .returned (.string (putB r)) ∧ w = w' := by
  cases hv : Utf8.valid r with
  | true =>
    rw [putB_valid hv]
    have hn : (!Utf8.valid r) = false := by rw [hv]; rfl
    go_enter Tryz.func72, Tryz.ntmps72
    go_wp2_with (go_at_call 89; refine (ValidRune_any _ _).mono ?_; rintro e w' ⟨rfl, rfl⟩)
    go_ret
    exact ⟨rfl, rfl⟩
  | false =>
    rw [putB_not hv]
    have hn : (!Utf8.valid r) = true := by rw [hv]; rfl
    go_enter Tryz.func72, Tryz.ntmps72
    go_wp2_with (go_at_call 89; refine (ValidRune_any _ _).mono ?_; rintro e w' ⟨rfl, rfl⟩)
    go_ret
    exact ⟨rfl, rfl⟩

/-- The kind of half: 1 a high one, 2 a low one. -/
def surr (n : Int) : Int := if n < 55296 then 0 else if n < 56320 then 1 else if n < 57344 then 2 else 0
theorem surr_0 {n : Int} (h : n < 55296 ∨ 57343 < n) : surr n = 0 := by unfold surr; split; rfl; rw [if_neg (by omega), if_neg (by omega)]
theorem surr_1 {n : Int} (h : 55296 ≤ n) (g : n < 56320) : surr n = 1 := by unfold surr; rw [if_neg (by omega), if_pos (by omega)]
theorem surr_2 {n : Int} (h : 56320 ≤ n) (g : n ≤ 57343) : surr n = 2 := by unfold surr; rw [if_neg (by omega), if_neg (by omega), if_pos (by omega)]

theorem v_or {r : Int} (h0 : 0 ≤ r) (h1 : r ≤ 1114111) : (decide (r < 55296) || decide (57343 < r)) = Utf8.valid r := by
  by_cases h2 : r < 55296
  · rw [decide_eq_true h2, v_yes (by omega)]; rfl
  · by_cases h3 : 57343 < r
    · rw [decide_eq_true h3, v_yes (by omega), Bool.or_true]
    · rw [decide_eq_false h2, decide_eq_false h3, v_no (by omega)]; rfl

set_option maxHeartbeats 400000 in
set_option maxRecDepth 20000 in
theorem Point_any (r : Int) (w : World) :
    Calls Tryz.prog 82 #[.int .i64 r] w fun e w' => e = .returned (.bool (Utf8.valid r)) ∧ w = w' := by
  go_enter Tryz.func82, Tryz.ntmps82
  go_wp2
  all_goals go_ret
  all_goals first
    | exact ⟨ret_boolE_u (v_yes (by omega)).symm, rfl⟩
    | exact ⟨ret_boolE_u (v_or (by omega) (by omega)), rfl⟩
    | exact ⟨ret_boolE_u (v_no (by omega)).symm, rfl⟩

/-- The text of a literal of bytes. -/
theorem conv_lit (w : World) (vs : List Int) (l : List UInt8) (n : Nat) (hn : l.length = n) (h : vs = l.map (fun c => (c.toNat : Int))) :
    (convert 76 9 (.slice (some ⟨w.heap.size, 0, none⟩) n n)).run Tryz.prog (w.alloc (.cells (vs.map (Value.int .u8)).toArray 5)) = .ok (.string ⟨l.toArray⟩) (w.alloc (.cells (vs.map (Value.int .u8)).toArray 5)) := by
  refine conv_bytes _ 76 9 5 Tryz.underlying76 Tryz.underlying5 Tryz.underlying9 w.heap.size 0 n n l hn (fun i hi => ?_)
  have hr := (Row.new w 5 (vs.map (Value.int .u8))).cell i
  rw [Nat.zero_add, hr, h, List.map_map]
  rfl

theorem tn_i {r : Int} (n : Nat) (h : r = n ∧ n < 256) : r = ((UInt8.ofNat n).toNat : Int) := by rw [tn n h.2]; exact h.1

theorem ce {a b : Int} {l m : List Int} (h : a = b) (k : l = m) : a :: l = b :: m := by rw [h, k]

theorem refPut_c (r : Int) (n : Nat) (vs : List Int) (h : vs = (enc r.toNat).map (fun c => (c.toNat : Int))) (hn : (enc r.toNat).length = n) (hv : Utf8.valid r = true) (w : World) :
    (convert 76 9 (.slice (some ⟨w.heap.size, 0, none⟩) n n)).run Tryz.prog (w.alloc (.cells (vs.map (Value.int .u8)).toArray 5)) = .ok (.string (putB r)) (w.alloc (.cells (vs.map (Value.int .u8)).toArray 5)) := by
  rw [conv_lit w vs _ n hn h]
  unfold putB
  rw [if_pos hv]

set_option maxHeartbeats 1000000 in
set_option maxRecDepth 20000 in
theorem refPut_any_u (r : Int) (w : World) :
    Calls Tryz.prog 62 #[.int .i64 r] w fun e w' => e = .returned (.string (putB r)) ∧ Below w.heap.size w w' := by
  cases hv : Utf8.valid r with
  | false =>
    rw [putB_not hv]
    have hn : (!Utf8.valid r) = true := by rw [hv]; rfl
    go_enter Tryz.func62, Tryz.ntmps62
    go_wp2_with (go_at_call 82; refine (Point_any _ _).mono ?_; rintro e w' ⟨rfl, rfl⟩)
    go_ret
    exact ⟨rfl, Below.refl _ _⟩
  | true =>
    have hn : (!Utf8.valid r) = false := by rw [hv]; rfl
    have H := (valid_iff r).1 hv
    have h0 : 0 ≤ r := by omega
    have h1 : r ≤ 1114111 := by omega
    clear H
    have hb : Below w.heap.size w w := Below.refl _ _
    by_cases c1 : r < 128
    · have hcv := refPut_c r 1 [r] (by unfold enc; rw [if_pos (by omega)]; simp only [List.map_cons, List.map_nil]; exact ce (tn_i _ (by omega)) rfl) (by unfold enc; rw [if_pos (by omega)]; rfl) hv w
      obtain ⟨s, HS⟩ : ∃ s, Hid (putB r = s) := ⟨_, Lib.hid rfl⟩
      rw [HS.out] at hcv ⊢
      simp only [List.map_cons, List.map_nil] at hcv
      clear hv
      go_enter Tryz.func62, Tryz.ntmps62
      go_wp2_with (go_at_call 82; refine (Point_any _ _).mono ?_; rintro e w' ⟨rfl, rfl⟩)
      go_ret
      exact ⟨rfl, hb.alloc (Nat.le_refl _) _⟩
    · by_cases c2 : r < 2048
      · have hcv := refPut_c r 2 [192 + r / 64, 128 + r % 64] (by unfold enc; rw [if_neg (by omega), if_pos (by omega)]; simp only [List.map_cons, List.map_nil]; exact ce (tn_i _ (by omega)) (ce (tn_i _ (by omega)) rfl)) (by unfold enc; rw [if_neg (by omega), if_pos (by omega)]; rfl) hv w
        obtain ⟨s, HS⟩ : ∃ s, Hid (putB r = s) := ⟨_, Lib.hid rfl⟩
        rw [HS.out] at hcv ⊢
        simp only [List.map_cons, List.map_nil] at hcv
        clear hv
        have g1 : 192 + r / 64 < 256 := by omega
        have g2 : 128 + r % 64 < 256 := by omega
        have g3 : 0 ≤ 192 + r / 64 := by omega
        have g4 : 0 ≤ 128 + r % 64 := by omega
        go_enter Tryz.func62, Tryz.ntmps62
        go_wp2_with (go_at_call 82; refine (Point_any _ _).mono ?_; rintro e w' ⟨rfl, rfl⟩)
        go_ret
        exact ⟨rfl, hb.alloc (Nat.le_refl _) _⟩
      · by_cases c3 : r < 65536
        · have hcv := refPut_c r 3 [224 + r / 4096, 128 + r / 64 % 64, 128 + r % 64] (by unfold enc; rw [if_neg (by omega), if_neg (by omega), if_pos (by omega)]; simp only [List.map_cons, List.map_nil]; exact ce (tn_i _ (by omega)) (ce (tn_i _ (by omega)) (ce (tn_i _ (by omega)) rfl))) (by unfold enc; rw [if_neg (by omega), if_neg (by omega), if_pos (by omega)]; rfl) hv w
          obtain ⟨s, HS⟩ : ∃ s, Hid (putB r = s) := ⟨_, Lib.hid rfl⟩
          rw [HS.out] at hcv ⊢
          simp only [List.map_cons, List.map_nil] at hcv
          clear hv
          have g1 : 224 + r / 4096 < 256 := by omega
          have g2 : 128 + r % 64 < 256 := by omega
          have g3 : 0 ≤ 224 + r / 4096 := by omega
          have g4 : 0 ≤ 128 + r % 64 := by omega
          have g5 : 128 + r / 64 % 64 < 256 := by omega
          have g6 : 0 ≤ 128 + r / 64 % 64 := by omega
          have g7 : 0 ≤ r / 64 := by omega
          go_enter Tryz.func62, Tryz.ntmps62
          go_wp2_with (go_at_call 82; refine (Point_any _ _).mono ?_; rintro e w' ⟨rfl, rfl⟩)
          go_ret
          exact ⟨rfl, hb.alloc (Nat.le_refl _) _⟩
        · have hcv := refPut_c r 4 [240 + r / 262144, 128 + r / 4096 % 64, 128 + r / 64 % 64, 128 + r % 64] (by unfold enc; rw [if_neg (by omega), if_neg (by omega), if_neg (by omega)]; simp only [List.map_cons, List.map_nil]; exact ce (tn_i _ (by omega)) (ce (tn_i _ (by omega)) (ce (tn_i _ (by omega)) (ce (tn_i _ (by omega)) rfl)))) (by unfold enc; rw [if_neg (by omega), if_neg (by omega), if_neg (by omega)]; rfl) hv w
          obtain ⟨s, HS⟩ : ∃ s, Hid (putB r = s) := ⟨_, Lib.hid rfl⟩
          rw [HS.out] at hcv ⊢
          simp only [List.map_cons, List.map_nil] at hcv
          clear hv
          have g1 : 240 + r / 262144 < 256 := by omega
          have g2 : 128 + r % 64 < 256 := by omega
          have g3 : 0 ≤ 240 + r / 262144 := by omega
          have g4 : 0 ≤ 128 + r % 64 := by omega
          have g5 : 128 + r / 64 % 64 < 256 := by omega
          have g6 : 0 ≤ 128 + r / 64 % 64 := by omega
          have g7 : 0 ≤ r / 64 := by omega
          have g8 : 128 + r / 4096 % 64 < 256 := by omega
          have g9 : 0 ≤ 128 + r / 4096 % 64 := by omega
          have g10 : 0 ≤ r / 4096 := by omega
          go_enter Tryz.func62, Tryz.ntmps62
          go_wp2_with (go_at_call 82; refine (Point_any _ _).mono ?_; rintro e w' ⟨rfl, rfl⟩)
          go_ret
          exact ⟨rfl, hb.alloc (Nat.le_refl _) _⟩
end Go.Proofs.YtcecibopanfmgaaGreatDoor

namespace Go.Proofs.YtcecibopanfmgaaGreatDoor
open Go.RowKit Go.Shelf
set_option linter.unusedVariables false
attribute [local go_sem] Oper.semAt_some

/-- Does a text begin with the replacement character? -/
def isRep (q : ByteArray) : Bool := decide (3 ≤ q.size) && decide (q.extract 0 3 = ⟨#[239, 191, 189]⟩)

theorem str_eqB {x y : ByteArray} : (x.toList == y.toList) = decide (x = y) := by
  rw [Bool.eq_iff_iff, beq_iff_eq, decide_eq_true_eq]
  constructor
  · intro e
    rw [ByteArray.toList_eq, ByteArray.toList_eq] at e
    exact ByteArray.ext (Array.toList_inj.mp e)
  · intro e; rw [e]

set_option maxHeartbeats 400000 in
set_option maxRecDepth 20000 in
theorem HasPrefix_any (q : ByteArray) (w : World) :
    Calls Tryz.prog 75 #[.string q, .string ⟨#[239, 191, 189]⟩] w fun e w' => e = .returned (.bool (isRep q)) ∧ w = w' := by
  by_cases h3 : 3 ≤ q.size
  · have h3i : (3 : Int) ≤ (q.size : Int) := by omega
    have E : Hid (((q.extract 0 3).toList == [239, 191, 189]) = isRep q) := Lib.hid (by
      have h := str_eqB (x := q.extract 0 3) (y := ⟨#[239, 191, 189]⟩)
      have e : (ByteArray.mk #[239, 191, 189]).toList = [239, 191, 189] := by rw [ByteArray.toList_eq]
      rw [e] at h
      rw [h]
      unfold isRep
      rw [decide_eq_true h3, Bool.true_and])
    go_enter Tryz.func75, Tryz.ntmps75
    go_wp2
    go_ret
    exact ⟨ret_boolE_u E.out, rfl⟩
  · have h3i : (q.size : Int) < 3 := by omega
    have E : Hid (false = isRep q) := Lib.hid (by
      unfold isRep
      rw [decide_eq_false h3]; rfl)
    go_enter Tryz.func75, Tryz.ntmps75
    go_wp2
    go_ret
    exact ⟨ret_boolE_u E.out, rfl⟩

theorem enc_rep : enc 65533 = [239, 191, 189] := by decide +kernel
theorem isRep_some {q : ByteArray} {n : Nat} (h : dec q.data.toList = some (65533, n)) : isRep q = true := by
  obtain ⟨_, rfl, e⟩ := dec_some h
  rw [enc_rep] at e
  have hl := congrArg List.length e
  simp at hl
  unfold isRep
  rw [decide_eq_true (by omega : 3 ≤ q.size), Bool.true_and, decide_eq_true_eq]
  rw [ByteArray.ext_iff, ← Array.toList_inj, ByteArray.data_extract, Array.toList_extract, List.extract_eq_take_drop, List.drop_zero, e]
  rfl
theorem isRep_none {q : ByteArray} (h : dec q.data.toList = none) : isRep q = false := by
  cases hr : isRep q with
  | false => rfl
  | true =>
    exfalso
    unfold isRep at hr
    rw [Bool.and_eq_true, decide_eq_true_eq, decide_eq_true_eq] at hr
    have e : q.data.toList = enc 65533 ++ q.data.toList.drop 3 := by
      have h2 := congrArg (fun b : ByteArray => b.data.toList) hr.2
      simp only [ByteArray.data_extract, Array.toList_extract, List.extract_eq_take_drop, List.drop_zero] at h2
      rw [enc_rep]
      have h3 := List.take_append_drop 3 q.data.toList
      rw [h2] at h3
      exact h3.symm
    rw [e, dec_enc_u 65533 _ ((valid_iff _).2 (by omega))] at h
    cases h

theorem drop_list (s : ByteArray) (p : Nat) : (s.extract p s.size).data.toList = s.data.toList.drop p := by
  rw [ByteArray.data_extract, Array.toList_extract, List.extract_eq_take_drop, List.take_of_length_le (by simp)]

/-- What a round keeps of the iterator's: its walk, its box. -/
def KeepsR (Bn : Nat) (W W' : World) : Prop := KeepsWalks W W' ∧ W'.heap[Bn]? = W.heap[Bn]?

theorem keepsR_t {Bn : Nat} {A B C : World} (h : KeepsR Bn A B) (k : KeepsR Bn B C) : KeepsR Bn A C := ⟨h.1.trans k.1, k.2.trans h.2⟩
theorem keepsR_b {Bn : Nat} {w : World} (hn : Bn < w.heap.size) (W : World) (l : Nat) (o o' : Obj) (hl : w.heap.size ≤ l) (h : W.heap[l]? = some o) (h1 : o.isCells = false) (hw : o.isWalk = false) : KeepsR Bn W (W.putObj l o') :=
  ⟨KeepsWalks.putObj _ h hw, World.putObj_heap_other (by omega)⟩

theorem grownBy_iterAt (W : World) (k : Nat) (s : ByteArray) (pos : Nat) : W.grownBy (W.iterAt k s pos) (some k) :=
  ⟨rfl, rfl, rfl, by rw [Lib.iterAt_size]; exact Nat.le_refl _, fun j hj hne => Lib.iterAt_other W k j s pos (fun e => hne (by rw [e]))⟩
theorem grownBy_drewN (W : World) (k : Nat) (row : Option Nat) : W.grownBy (W.drewN k) row := ⟨rfl, rfl, rfl, Nat.le_refl _, fun _ _ _ => rfl⟩

theorem iter_old {W : World} {B : Nat} (s : ByteArray) (p : Nat) (h : B < W.heap.size) : (W.iter s p).heap[B]? = W.heap[B]? := Below.heap_alloc W (.stringIter s p) B h
theorem grownBy_iter (W : World) (s : ByteArray) (row : Option Nat) : W.grownBy (W.iter s 0) row := World.grownBy_alloc W (.stringIter s 0) row

abbrev encR (x : Nat × Nat) : Array Value := #[.int .i64 (x.1 : Nat), .int .i32 (x.2 : Nat)]

/-- Where the iterator in block B stands. -/
def posAt (B : Nat) (W : World) : Nat := match W.heap[B]? with
  | some (.stringIter _ p) => p
  | _ => 0
theorem posAt_eq {B : Nat} {W : World} {s : ByteArray} {p : Nat} (h : W.heap[B]? = some (.stringIter s p)) : posAt B W = p := by simp [posAt, h]

set_option maxRecDepth 100000 in
set_option maxHeartbeats 1000000 in
theorem Runes1_in (n : Nat) (hn : 1 ≤ n) (l Bn : Nat) (s : ByteArray) (hs : s.size ≤ 140737488355328) (J Jx : List (Nat × Nat) → World → Prop)
    (hY : ∀ pre x W, J pre W → (pre ++ [x]) <+: runesB s → YieldAt Fence.wide (n - 1) Tryz.prog l (encR x) W fun e W' =>
      (e = .returned (.bool true) ∧ J (pre ++ [x]) W' ∧ KeepsR Bn W W') ∨ (e = .returned (.bool false) ∧ Jx (pre ++ [x]) W'))
    (W : World) (hJ : AbidesFrom W.heap.size J) (hBn : W.heap[Bn]? = some (.cells #[.string s] 9 (0, 0))) (h0 : J [] W) :
    CallsIn Fence.wide n Tryz.prog 74 #[.func (.yield l) #[] #[], .pointer (some ⟨Bn, 0, none⟩)] W fun e W' => (∃ v, e = .returned v) ∧
      ((∃ ys, ys = runesB s ∧ J ys W') ∨ (∃ pre, pre <+: runesB s ∧ Jx pre W')) := by
  have hc0 : W.cell? ⟨Bn, 0, none⟩ = some (.string s) := by simp [World.cell?, hBn]
  refine callsIn_of_wp Tryz.func74 rfl trivial ?_ rfl
  simp only [Tryz.ntmps74, List.size_toArray, List.length_cons, List.length_nil, Nat.reduceAdd, Nat.reduceSub, Array.replicate_succ, Array.replicate_zero, List.push_toArray, List.append_toArray, List.nil_append, List.cons_append]
  gi_wp2
  gi_loopw [4] (fun _ wr => ∃ (pre : List (Nat × Nat)) (pos : Nat), wr.heap[W.heap.size]? = some (.stringIter s pos) ∧ wr.heap[Bn]? = some (.cells #[.string s] 9 (0, 0)) ∧ runesB s = pre ++ runesAt s.data.toList pos ∧ pos ≤ s.size ∧ J pre wr)
    (fun _ wr => s.size - posAt W.heap.size wr)
  case atStart =>
    exact ⟨[], 0, by simp [World.iter_heap], by rw [iter_old _ _ (Array.getElem?_eq_some_iff.1 hBn).1]; exact hBn, rfl, Nat.zero_le _, hJ [] W _ none h0 (grownBy_iter _ _ _) (fun r e => by cases e)⟩
  case round =>
    obtain ⟨pre, pos, hit, hbx, hrs, hpos, hJs⟩ := hrel
    have hB0 : W.heap.size ≤ W.heap.size := Nat.le_refl _
    have hms : Hid (posAt W.heap.size wr = pos) := Lib.hid (posAt_eq hit)
    by_cases hlt : pos < s.size
    · have hcell : ∀ m, (wr.iterAt W.heap.size s m).cell? ⟨Bn, 0, none⟩ = some (.string s) := fun m => by
        have hne : Bn ≠ W.heap.size := by intro e; rw [e, hit] at hbx; cases hbx
        simp [World.cell?, Lib.iterAt_other wr W.heap.size Bn s m hne, hbx]
      have hnx : ∀ ty, (Instr.next (.pointer (some ⟨W.heap.size, 0, none⟩)) true ty).run Tryz.prog wr = _ := fun ty => Lib.run_next_any_at wr W.heap.size s pos ty hit hlt
      have hde := decode_eq s pos hlt
      cases hd : dec (s.data.toList.drop pos) with
      | none =>
        have h1 : (Utf8.decode s pos).1 = 65533 := by rw [hde, hd]; rfl
        have h2 : (Utf8.decode s pos).2 = 1 := by rw [hde, hd]; rfl
        have hrep : Hid (isRep (s.extract pos s.size) = false) := Lib.hid (isRep_none (by rw [drop_list]; exact hd))
        rw [h1, h2] at hnx
        clear hde h1 h2
        gi_wp2_with (refine ⟨trivial, ?_⟩; gi_at_call 75; refine (callsIn_wide.2 (HasPrefix_any _ _)).mono ?_; rintro e w' ⟨rfl, rfl⟩; rw [hrep.out])
        refine bodyPost_ret (results_none rfl _ _ _) rfl ?_
        exact ⟨⟨_, rfl⟩, .inl ⟨pre, by rw [hrs, runesAt_none hd, List.append_nil], hJ _ _ _ (some W.heap.size) hJs (grownBy_iterAt _ _ _ _) (fun r e => by cases e; exact ⟨Nat.le_refl _, _, hit, rfl⟩)⟩⟩
      | some x =>
        obtain ⟨c, k⟩ := x
        have h1 : (Utf8.decode s pos).1 = c := by rw [hde, hd]; rfl
        have h2 : (Utf8.decode s pos).2 = k := by rw [hde, hd]; rfl
        rw [h1, h2] at hnx
        clear hde h1 h2
        have hl := dec_len hd
        rw [List.length_drop] at hl
        have hxx : runesB s = (pre ++ [(pos, c)]) ++ runesAt s.data.toList (pos + k) := by rw [hrs, runesAt_some hd]; simp
        have hlen : (pre ++ [(pos, c)]) <+: runesB s := ⟨_, hxx.symm⟩
        have hpk : pos + k ≤ s.size := by have : s.data.toList.length = s.size := by simp
                                          omega
        have hJ1 : J pre (wr.iterAt W.heap.size s (pos + k)) := hJ _ _ _ (some W.heap.size) hJs (grownBy_iterAt _ _ _ _) (fun r e => by cases e; exact ⟨Nat.le_refl _, _, hit, rfl⟩)
        have hit1 : Hid ((wr.iterAt W.heap.size s (pos + k)).heap[W.heap.size]? = some (.stringIter s (pos + k))) := Lib.hid (Lib.iterAt_heap _ _ _ _ _ hit)
        have hbx1 : Hid ((wr.iterAt W.heap.size s (pos + k)).heap[Bn]? = some (.cells #[.string s] 9 (0, 0))) := Lib.hid (by
          have hne : Bn ≠ W.heap.size := by intro e; rw [e, hit] at hbx; cases hbx
          rw [Lib.iterAt_other _ _ _ _ _ hne]; exact hbx)
        have hms1 : Hid (k ≠ 0) := Lib.hid (by omega)
        have HY := Lib.hid (hY pre (pos, c) _ hJ1 hlen)
        have HX := Lib.hid hxx
        have HD := Lib.hid hd
        clear hxx hlen hl hrs hd
        by_cases hc : c = 65533
        · subst hc
          have hrep : Hid (isRep (s.extract pos s.size) = true) := Lib.hid (isRep_some (by rw [drop_list]; exact HD.out))
          obtain ⟨fn, tmps, assign, body, hy, hR⟩ := HY.out
          dsimp only [encR] at hy
          rw [show ((65533 : Nat) : Int) = 65533 from rfl] at hy
          gi_wp2_with (refine ⟨trivial, ?_⟩; gi_at_call 75; refine (callsIn_wide.2 (HasPrefix_any _ _)).mono ?_; rintro e w' ⟨rfl, rfl⟩; rw [hrep.out])
          refine hR.mono ?_
          rintro e W3 (⟨rfl, hJ3, hk3⟩ | ⟨rfl, hJx3⟩)
          · gi_wp2
            go_roundw
            case rel => exact ⟨pre ++ [(pos, 65533)], pos + k, hk3.1.same _ _ hit1.out rfl, hk3.2.trans hbx1.out, HX.out, hpk, hJ3⟩
            case measure => rw [hms.out, posAt_eq (hk3.1.same _ _ hit1.out rfl)]; have := hms1.out; omega
          · gi_wp2
            refine bodyPost_ret (results_none rfl _ _ _) rfl ?_
            exact ⟨⟨_, rfl⟩, .inr ⟨pre ++ [(pos, 65533)], ⟨_, HX.out.symm⟩, hJx3⟩⟩
        · have hne : ((c : Int) == 65533) = false := by simp; omega
          clear hc
          obtain ⟨fn, tmps, assign, body, hy, hR⟩ := HY.out
          dsimp only [encR] at hy
          gi_wp2
          refine ⟨trivial, ?_⟩
          gi_wp2
          refine hR.mono ?_
          rintro e W3 (⟨rfl, hJ3, hk3⟩ | ⟨rfl, hJx3⟩)
          · gi_wp2
            go_roundw
            case rel => exact ⟨pre ++ [(pos, c)], pos + k, hk3.1.same _ _ hit1.out rfl, hk3.2.trans hbx1.out, HX.out, hpk, hJ3⟩
            case measure => rw [hms.out, posAt_eq (hk3.1.same _ _ hit1.out rfl)]; have := hms1.out; omega
          · gi_wp2
            refine bodyPost_ret (results_none rfl _ _ _) rfl ?_
            exact ⟨⟨_, rfl⟩, .inr ⟨pre ++ [(pos, c)], ⟨_, HX.out.symm⟩, hJx3⟩⟩
    · have hnx : ∀ ty, (Instr.next (.pointer (some ⟨W.heap.size, 0, none⟩)) true ty).run Tryz.prog wr = _ := fun ty => Lib.run_next_end_at wr W.heap.size s pos ty hit hlt
      have hX : Hid (pre = runesB s) := Lib.hid (by rw [hrs, runesAt_end (by simp; omega), List.append_nil])
      gi_wp2
      go_end0
      exact ⟨⟨_, rfl⟩, .inl ⟨pre, hX.out, hJs⟩⟩

set_option maxHeartbeats 1000000 in
theorem Runes_in (n : Nat) (s : ByteArray) (w : World) :
    CallsIn Fence.wide n Tryz.prog 50 #[.string s] w fun e w' => e = .returned (.func (.func 74) #[] #[.pointer (some ⟨w.heap.size, 0, none⟩)]) ∧ w' = w.alloc (.cells #[.string s] 9) := by
  refine callsIn_of_wp Tryz.func50 rfl trivial ?_ rfl
  simp only [Tryz.ntmps50, List.size_toArray, List.length_cons, List.length_nil, Nat.reduceAdd, Nat.reduceSub, Array.replicate_succ, Array.replicate_zero, List.push_toArray, List.append_toArray, List.nil_append, List.cons_append]
  gi_wp2
  go_ret
  exact ⟨rfl, rfl⟩

/-- A code point of s, with its place. -/
abbrev Rn (s : ByteArray) := { x : Nat × Nat // x ∈ runesB s }

theorem Runes_stops (n : Nat) (hn : 1 ≤ n) (Bn : Nat) (s : ByteArray) (hs : s.size ≤ 140737488355328) (w : World)
    (hc : w.heap[Bn]? = some (.cells #[.string s] 9 (0, 0))) :
    SeqStopsK Fence.wide n Tryz.prog 74 #[.pointer (some ⟨Bn, 0, none⟩)] (fun x : Rn s => encR x.1) (KeepsR Bn) (fun ys => ys.map Subtype.val = runesB s) (fun pre => pre.map Subtype.val <+: runesB s) (runesB s).length w := fun l J Jx W hW hJ _ hY h0 => by
  refine (Runes1_in n hn l Bn s hs (fun pre W => ∃ p : List (Rn s), p.map Subtype.val = pre ∧ J p W) (fun pre W => ∃ p : List (Rn s), p.map Subtype.val = pre ∧ Jx p W) ?_ W ?_ ((hW.block Bn (Array.getElem?_eq_some_iff.1 hc).1).trans hc) ⟨[], rfl, h0⟩).mono ?_
  · rintro pre x W1 ⟨p, rfl, hp⟩ hpre
    have hx : x ∈ runesB s := hpre.subset (by simp)
    have hlen : p.length < (runesB s).length := by have := hpre.length_le; simp at this; omega
    obtain ⟨fn, tmps, assign, body, hy, hR⟩ := hY p ⟨x, hx⟩ W1 hp hlen
    refine ⟨fn, tmps, assign, body, hy, hR.mono ?_⟩
    rintro e W' (⟨h1, h2, h3⟩ | ⟨h1, h2⟩)
    · exact .inl ⟨h1, ⟨_, by simp, h2⟩, h3⟩
    · exact .inr ⟨h1, ⟨_, by simp, h2⟩⟩
  · rintro s1 A B row ⟨p, hp, hj⟩ hg hr
    exact ⟨p, hp, hJ _ _ _ row hj hg hr⟩
  · rintro e W' ⟨hv, (⟨ys, rfl, p, hp, hj⟩ | ⟨pre, hpre, p, rfl, hj⟩)⟩
    · exact ⟨hv, .inl ⟨p, hp, hj⟩⟩
    · exact ⟨hv, .inr ⟨p, hpre, hj⟩⟩

theorem keepsR_set {Bn B i : Nat} (W : World) (h : Bn ≠ B) (v : Value) : KeepsR Bn W (W.setCell ⟨B, i, none⟩ v) :=
  ⟨KeepsWalks.setCell _ _ _, Below.heap_setCell W ⟨B, i, none⟩ v Bn h⟩
theorem box_heap (W : World) (v : Value) (t : TypeId) : (W.alloc (.cells #[v] t)).heap[W.heap.size]? = some (.cells #[v] t (0, 0)) := World.alloc_heap_new W _
end Go.Proofs.YtcecibopanfmgaaGreatDoor

namespace Go.Proofs.YtcecibopanfmgaaGreatDoor
open Go.RowKit Go.Shelf
set_option linter.unusedVariables false
attribute [local go_sem] Oper.semAt_some

theorem own_box_u {β : Type} (B : Nat) (t : TypeId) (f : β → Value) : Own (fun (s : β) W => Boxed W B t (f s)) := fun s X Y row h hg hrow =>
  h.kept hg (fun e => by
    obtain ⟨o, ho, hc⟩ := hrow B e.symm
    rw [show X.heap[B]? = _ from h] at ho
    cases ho
    cases hc)

theorem below_drewN_u {B : Nat} {a w : World} (h : Below B a w) (n : Nat) : Below B a (w.drewN n) := ⟨h.os, h.tape, h.output, h.size, h.block⟩

set_option maxRecDepth 100000 in
set_option maxHeartbeats 1000000 in
theorem Count_any (s : ByteArray) (w : World) (hs : s.size ≤ 140737488355328) :
    Calls Tryz.prog 24 #[.string s] w fun e w' => e = .returned (.int .i64 ((runesB s).length : Nat)) ∧ Below w.heap.size w w' := by
  refine (callsIn_wide (n := 6)).1 ?_
  refine callsIn_of_wp_marks Tryz.func24 rfl trivial ?_ rfl
  simp only [Tryz.ntmps24, List.size_toArray, List.length_cons, List.length_nil, Nat.reduceAdd, Nat.reduceSub, Array.replicate_succ, Array.replicate_zero, List.push_toArray, List.append_toArray, List.nil_append, List.cons_append]
  rw [wpIn_wide]
  go_wp2_with fail
  refine ((callsIn_wide (n := 0)).1 (Runes_in 0 s _)).mono ?_
  rintro e w2 ⟨rfl, rfl⟩
  go_wp2_with fail
  have hlen := runesB_length s
  have bC := Boxed.new w 3 (.int .i64 0)
  have bN := Boxed.new (w.alloc (.cells #[.int .i64 0] 3)) 9 (.string s)
  rw [World.size_alloc] at bN
  have hB1 : Below w.heap.size w ((w.alloc (.cells #[.int .i64 0] 3)).alloc (.cells #[.string s] 9)) := ((Below.refl _ _).alloc (Nat.le_refl _) _).alloc (by simp) _
  rw [← wpIn_wide (n := 6)]
  refine' wpIn_rangeFunc_ownG rfl (by omega) (gf := 74) (lb := #[.pointer (some ⟨w.heap.size + 1, 0, none⟩)]) rfl trivial (enters_of Tryz.func74 (by kernel_rfl) rfl)
    (Runes_stops 5 (by omega) (w.heap.size + 1) s hs _ bN) keepsR_t (keepsR_b (by simp)) (Below.refl _ _) (fun _ => rfl)
    (fun pre W => Boxed W w.heap.size 3 (.int .i64 (pre.length : Nat)) ∧ Below w.heap.size w W)
    (fun _ _ _ => False)
    (OwnFrom.and (Own.from (own_box_u _ _ _) _) (ownFrom_below (Nat.le_refl _) (by simp; omega)))
    (fun _ _ _ _ _ hs _ _ => hs)
    ⟨bC.alloc _, hB1⟩
    _ _ _ _ _
  case refine'_2 =>
    intro l x W K hK
    gi_wp2
    exact hK
  case refine'_5 =>
    rintro D c pre W _ _ h _
    exact h.elim
  case refine'_3 =>
    rintro l' pre x W ⟨hv, hB⟩ hlt
    have hc := hv.cell
    have hf := hv.frozen
    have hpl : pre.length < 140737488355328 := by omega
    gi_wp2
    refine ⟨(KeepsOthers.setCell _ _ _).from _, keepsR_set _ (by omega) _, ?_, hB.setCell (p := ⟨w.heap.size, 0, none⟩) (Nat.le_refl _) _⟩
    have h := hv.set (.int .i64 ((pre.length : Int) + 1))
    rw [List.length_append]
    exact h
  case refine'_4 =>
    rintro D ys W hD hys ⟨hv, hB⟩ hK
    have hc := hv.cell
    go_wp2_with fail
    have hl : ys.length = (runesB s).length := by rw [← hys, List.length_map]
    rw [← hl]
    refine ⟨by simp, .inl ⟨_, _, rfl, run_takeDeferred hK, ?_⟩⟩
    exact ⟨_, results_tmp rfl _ _ _, rfl, hB.trans (belowK_b (w := w) (Nat.le_refl _) W D _ _ (by simp at hD; omega) hK rfl rfl)⟩

set_option maxRecDepth 100000 in
set_option maxHeartbeats 1000000 in
theorem Bad_any (s : ByteArray) (w : World) (hs : s.size ≤ 140737488355328) :
    Calls Tryz.prog 76 #[.string s] w fun e w' => e = .returned (.int .i64 (badB s)) ∧ Below w.heap.size w w' := by
  refine (callsIn_wide (n := 6)).1 ?_
  refine callsIn_of_wp_marks Tryz.func76 rfl trivial ?_ rfl
  simp only [Tryz.ntmps76, List.size_toArray, List.length_cons, List.length_nil, Nat.reduceAdd, Nat.reduceSub, Array.replicate_succ, Array.replicate_zero, List.push_toArray, List.append_toArray, List.nil_append, List.cons_append]
  rw [wpIn_wide]
  go_wp2_with fail
  refine ((callsIn_wide (n := 0)).1 (Runes_in 0 s _)).mono ?_
  rintro e w2 ⟨rfl, rfl⟩
  go_wp2_with fail
  have bC := Boxed.new w 3 (.int .i64 0)
  have bN := Boxed.new (w.alloc (.cells #[.int .i64 0] 3)) 9 (.string s)
  rw [World.size_alloc] at bN
  have hB1 : Below w.heap.size w ((w.alloc (.cells #[.int .i64 0] 3)).alloc (.cells #[.string s] 9)) := ((Below.refl _ _).alloc (Nat.le_refl _) _).alloc (by simp) _
  rw [← wpIn_wide (n := 6)]
  refine' wpIn_rangeFunc_ownG rfl (by omega) (gf := 74) (lb := #[.pointer (some ⟨w.heap.size + 1, 0, none⟩)]) rfl trivial (enters_of Tryz.func74 (by kernel_rfl) rfl)
    (Runes_stops 5 (by omega) (w.heap.size + 1) s hs _ bN) keepsR_t (keepsR_b (by simp)) (Below.refl _ _) (fun _ => rfl)
    (fun pre W => Boxed W w.heap.size 3 (.int .i64 (endOf 0 (pre.map Subtype.val) : Nat)) ∧ Below w.heap.size w W)
    (fun _ _ _ => False)
    (OwnFrom.and (Own.from (own_box_u _ _ _) _) (ownFrom_below (Nat.le_refl _) (by simp; omega)))
    (fun _ _ _ _ _ hs _ _ => hs)
    ⟨bC.alloc _, hB1⟩
    _ _ _ _ _
  case refine'_2 =>
    intro l x W K hK
    gi_wp2
    exact hK
  case refine'_5 =>
    rintro D c pre W _ _ h _
    exact h.elim
  case refine'_3 =>
    rintro l' pre ⟨⟨p, c⟩, hx⟩ W ⟨hv, hB⟩ hlt
    have hc := hv.cell
    have hf := hv.frozen
    obtain ⟨hvx, hle, _⟩ := runesB_mem hx
    dsimp only at hvx hle
    have hp1 : p + encLen c ≤ 140737488355328 := by omega
    have hes : Hid (endOf 0 ((pre ++ [(⟨(p, c), hx⟩ : Rn s)]).map Subtype.val) = p + encLen c) := Lib.hid (by rw [List.map_append]; exact endOf_snoc _ _ _)
    gi_wp2_with (refine ⟨trivial, ?_⟩; gi_at_call 92; refine (CallsIn.inRound l' (callsIn_wide.2 (RuneLen_any c _ hvx))).mono ?_; rintro e w' ⟨rfl, rfl⟩)
    refine ⟨(KeepsOthers.setCell _ _ _).from _, keepsR_set _ (by omega) _, ?_, hB.setCell (p := ⟨w.heap.size, 0, none⟩) (Nat.le_refl _) _⟩
    have h := hv.set (.int .i64 ((p : Int) + (encLen c : Nat)))
    rw [hes.out]
    exact h
  case refine'_4 =>
    rintro D ys W hD hys ⟨hv, hB⟩ hK
    have hge := goodEnd_le s
    have he : endOf 0 (ys.map Subtype.val) = goodEnd s := by rw [hys]; rfl
    rw [he] at hv
    have hc := hv.cell
    have hbD : Below w.heap.size w (W.putObj D (.deferred none)) := hB.trans (belowK_b (w := w) (Nat.le_refl _) W D _ _ (by simp at hD; omega) hK rfl rfl)
    cases hw : whole s with
    | true =>
      have h1 : ((goodEnd s : Int) == (s.size : Int)) = true := by unfold whole at hw; simp at hw; simp; omega
      have hb : Hid (badB s = -1) := Lib.hid (by unfold badB; rw [hw]; rfl)
      clear hw he
      go_wp2_with fail
      rw [hb.out]
      refine ⟨by simp, .inl ⟨_, _, rfl, run_takeDeferred hK, ?_⟩⟩
      exact ⟨_, results_tmp rfl _ _ _, rfl, hbD⟩
    | false =>
      have h1 : ((goodEnd s : Int) == (s.size : Int)) = false := by unfold whole at hw; simp at hw; simp; omega
      have hb : Hid (badB s = (goodEnd s : Nat)) := Lib.hid (by unfold badB; rw [hw]; rfl)
      clear hw he
      go_wp2_with fail
      rw [hb.out]
      refine ⟨by simp, .inl ⟨_, _, rfl, run_takeDeferred hK, ?_⟩⟩
      exact ⟨_, results_tmp rfl _ _ _, rfl, hbD⟩

set_option maxHeartbeats 400000 in
set_option maxRecDepth 20000 in
theorem Valid_any (s : ByteArray) (w : World) (hs : s.size ≤ 140737488355328) :
    Calls Tryz.prog 51 #[.string s] w fun e w' => e = .returned (.bool (whole s)) ∧ Below w.heap.size w w' := by
  have hb : Hid (decide (badB s < 0) = whole s) := Lib.hid (by
    unfold badB
    cases whole s with
    | true => rfl
    | false => show decide (((goodEnd s : Nat) : Int) < 0) = false; simp)
  go_enter Tryz.func51, Tryz.ntmps51
  go_wp2_with (go_at_call 76; refine (Bad_any s _ hs).mono ?_; rintro e w' ⟨rfl, hB⟩)
  go_ret
  exact ⟨ret_boolE_u hb.out, hB⟩

def exE : ByteArray := ⟨#[226, 130, 172]⟩
theorem ex_put_u : putB 8364 = ⟨#[226, 130, 172]⟩ := by decide +kernel
theorem ex_count : (runesB ⟨#[226, 130, 172]⟩).length = 1 := by decide +kernel

set_option maxHeartbeats 400000 in
set_option maxRecDepth 20000 in
theorem awake_any_u (w : World) :
    Calls Tryz.prog 47 #[] w fun e w' => e = .returned (.bool true) ∧ Below w.heap.size w w' := by
  go_enter Tryz.func47, Tryz.ntmps47
  go_wp2_with (first
    | (go_at_call 72; refine (Put_any_u 8364 _).mono ?_; rintro e w' ⟨rfl, rfl⟩; rw [ex_put_u])
    | (go_at_call 24; refine (Count_any ⟨#[226, 130, 172]⟩ _ (by show (3 : Nat) ≤ _; omega)).mono ?_; rintro e w' ⟨rfl, hB⟩; rw [ex_count]))
  go_ret
  exact ⟨rfl, hB⟩
end Go.Proofs.YtcecibopanfmgaaGreatDoor

namespace Go.Proofs.YtcecibopanfmgaaGreatDoor
open Go.RowKit Go.Shelf
set_option linter.unusedVariables false
attribute [local go_sem] Oper.semAt_some

theorem set_other_f {W : World} {b b' : Nat} {v u : Value} (h : W.cell? ⟨b, 0, none⟩ = some v) (hne : b ≠ b') : (W.setCell ⟨b', 0, none⟩ u).cell? ⟨b, 0, none⟩ = some v :=
  (World.cell?_of_block (Below.heap_setCell W ⟨b', 0, none⟩ u b hne)).trans h
theorem box_ne_f {W : World} {b D : Nat} {t : TypeId} {v : Value} {o : Option (List Deferred)} (h : Boxed W b t v) (hK : W.heap[D]? = some (.deferred o)) : some b ≠ some D := by
  intro e
  injection e with e
  subst e
  rw [show W.heap[b]? = _ from h] at hK
  cases hK
theorem boxed_below_f {B : Nat} {W W' : World} {b : Nat} {t : TypeId} {v : Value} (h : Boxed W b t v) (hb : Below B W W') (hB : b < B) : Boxed W' b t v := (hb.block b hB).trans h
theorem ownFrom_pure_f {α : Type} {B : Nat} {p : α → Prop} : OwnFrom B (fun (s : α) (_ : World) => p s) := fun s X Y row hs hg hr => hs

theorem plain_of {s : ByteArray} (h : ∀ x ∈ runesB s, okP x.2 = true) : plainB s = whole s := by
  unfold plainB
  rw [List.all_eq_true.2 h, Bool.true_and]
theorem plain_not {s : ByteArray} {x : Nat × Nat} (hx : x ∈ runesB s) (h : okP x.2 = false) : plainB s = false := by
  unfold plainB
  rw [show (runesB s).all (fun x => okP x.2) = false from List.all_eq_false.2 ⟨x, hx, by rw [h]; decide⟩]
  rfl

set_option maxRecDepth 100000 in
set_option maxHeartbeats 1000000 in
theorem plain_any (s : ByteArray) (w : World) (hs : s.size ≤ 140737488355328) :
    Calls Tryz.prog 25 #[.string s] w fun e w' => e = .returned (.bool (plainB s)) ∧ Below w.heap.size w w' := by
  refine (callsIn_wide (n := 6)).1 ?_
  refine callsIn_of_wp_marks Tryz.func25 rfl trivial ?_ rfl
  simp only [Tryz.ntmps25, List.size_toArray, List.length_cons, List.length_nil, Nat.reduceAdd, Nat.reduceSub, Array.replicate_succ, Array.replicate_zero, List.push_toArray, List.append_toArray, List.nil_append, List.cons_append]
  rw [wpIn_wide]
  go_wp2_with fail
  refine ((callsIn_wide (n := 0)).1 (Runes_in 0 s _)).mono ?_
  rintro e w2 ⟨rfl, rfl⟩
  go_wp2_with fail
  have bC := Boxed.new w 4 (.bool false)
  have bN := Boxed.new (w.alloc (.cells #[.bool false] 4)) 9 (.string s)
  rw [World.size_alloc] at bN
  have hB1 : Below w.heap.size w ((w.alloc (.cells #[.bool false] 4)).alloc (.cells #[.string s] 9)) := ((Below.refl _ _).alloc (Nat.le_refl _) _).alloc (by simp) _
  rw [← wpIn_wide (n := 6)]
  refine' wpIn_rangeFunc_ownG rfl (by omega) (gf := 74) (lb := #[.pointer (some ⟨w.heap.size + 1, 0, none⟩)]) rfl trivial (enters_of Tryz.func74 (by kernel_rfl) rfl)
    (Runes_stops 5 (by omega) (w.heap.size + 1) s hs _ bN) keepsR_t (keepsR_b (by simp)) (Below.refl _ _) (fun _ => rfl)
    (fun pre W => Boxed W w.heap.size 4 (.bool false) ∧ Below w.heap.size w W ∧ (∀ x ∈ pre, okP x.1.2 = true))
    (fun c pre W => Boxed W w.heap.size 4 (.bool false) ∧ Below w.heap.size w W ∧ (c = .ret ∧ plainB s = false))
    (OwnFrom.and (Own.from (own_box_u _ _ _) _) (OwnFrom.and (ownFrom_below (Nat.le_refl _) (by simp; omega)) ownFrom_pure_f))
    (fun c => OwnFrom.and (Own.from (own_box_u _ _ _) _) (OwnFrom.and (ownFrom_below (Nat.le_refl _) (by simp; omega)) ownFrom_pure_f))
    ⟨bC.alloc _, hB1, fun x hx => by cases hx⟩
    _ _ _ _ _
  case refine'_2 =>
    intro l x W K hK
    gi_wp2
    exact hK
  case refine'_5 =>
    rintro D c pre W hD hpre ⟨hv, hB, rfl, hpl⟩ hK
    have HP := Lib.hid hpl
    clear hpl
    rw [wpIn_wide]
    have hc := hv.cell
    go_wp2_with fail
    have hR := (hv.kept (grownBy_putObj' _ D (.deferred none)) (box_ne_f hv hK)).cell
    refine ⟨by simp, .inl ⟨_, _, rfl, run_takeDeferred hK, ?_⟩⟩
    exact ⟨.bool false, by simp [results, Tryz.f25, go_sem, hR], by rw [HP.out], hB.trans (belowK_b (w := w) (Nat.le_refl _) _ D _ _ (by simp at hD; omega) hK rfl rfl)⟩
  case refine'_3 =>
    rintro l' pre ⟨⟨p, c⟩, hx⟩ W ⟨hv, hB, hpre⟩ hlt
    have hc := hv.cell
    have hf := hv.frozen
    have HPRE := Lib.hid hpre
    clear hpre
    cases ho : okP c with
    | true =>
      have ho2 := ho
      unfold okP at ho2
      rw [Bool.and_eq_true, decide_eq_true_eq, decide_eq_true_eq] at ho2
      have h32 : (32 : Int) ≤ (c : Int) := by omega
      have h127 : ((c : Int) == 127) = false := by simp; omega
      have HO := Lib.hid ho
      clear ho ho2
      gi_wp2
      refine ⟨KeepsFrom.refl _ _, ⟨KeepsWalks.refl _, rfl⟩, hv, hB, fun x hx2 => ?_⟩
      rcases List.mem_append.1 hx2 with h | h
      · exact HPRE.out x h
      · rw [List.mem_singleton.1 h]; exact HO.out
    | false =>
      have hpl : Hid (plainB s = false) := Lib.hid (plain_not hx ho)
      have ho2 : c < 32 ∨ c = 127 := by
        unfold okP at ho
        rw [Bool.and_eq_false_iff, decide_eq_false_iff_not, decide_eq_false_iff_not] at ho
        omega
      clear ho
      rcases ho2 with h | h
      · have h32 : (c : Int) < 32 := by omega
        clear h
        gi_wp2
        exact ⟨(KeepsOthers.setCell _ _ _).from _, hv.set (.bool false), hB.setCell (p := ⟨w.heap.size, 0, none⟩) (Nat.le_refl _) _, rfl, hpl.out⟩
      · subst h
        gi_wp2
        exact ⟨(KeepsOthers.setCell _ _ _).from _, hv.set (.bool false), hB.setCell (p := ⟨w.heap.size, 0, none⟩) (Nat.le_refl _) _, rfl, hpl.out⟩
  case refine'_4 =>
    rintro D ys W hD hys ⟨hv, hB, hall⟩ hK
    have hpl : Hid (plainB s = whole s) := Lib.hid (plain_of fun x hx => by
      rw [← hys] at hx
      obtain ⟨y, hy, rfl⟩ := List.mem_map.1 hx
      exact hall y hy)
    clear hall hys
    have hc := hv.cell
    have hf := hv.frozen
    go_wp2_with fail
    refine (Valid_any s _ hs).mono ?_
    rintro e w3 ⟨rfl, hb3⟩
    have hv3 := boxed_below_f hv hb3 hv.lt
    have hK3 := (hb3.block D (Array.getElem?_eq_some_iff.1 hK).1).trans hK
    have hB3 := hB.trans (hb3.mono hB.size)
    have hc := hv3.cell
    have hf := hv3.frozen
    have HE := Lib.hid (And.intro hv3 (And.intro hK3 hB3))
    clear hv3 hK3 hB3 hv hB hK hb3
    go_wp2_with fail
    have hvR := HE.out.1.set (.bool (whole s))
    have kD := (KeepsOthers.setCell _ ⟨w.heap.size, 0, none⟩ (.bool (whole s))).same D _ HE.out.2.1 rfl
    have hR := (hvR.kept (grownBy_putObj' _ D (.deferred none)) (box_ne_f hvR kD)).cell
    have hB4 := HE.out.2.2.setCell (p := ⟨w.heap.size, 0, none⟩) (Nat.le_refl _) (.bool (whole s))
    refine ⟨by simp, .inl ⟨_, _, rfl, run_takeDeferred kD, ?_⟩⟩
    exact ⟨.bool (whole s), by simp [results, Tryz.f25, go_sem, hR], by rw [hpl.out], hB4.trans (belowK_b (w := w) (Nat.le_refl _) _ D _ _ (by simp at hD; omega) kD rfl rfl)⟩
end Go.Proofs.YtcecibopanfmgaaGreatDoor

namespace Go.Proofs.YtcecibopanfmgaaGreatDoor
open Go.RowKit
set_option linter.unusedVariables false

theorem beq_no {k c : Int} (h : k ≠ c) : (k == c) = false := by simp; exact h

theorem FR.check_11 {r : FR} (h : r.known = false) : r.check = 11 := by unfold FR.check; rw [if_pos h]
theorem FR.check_7 {r : FR} (h : r.known = true) (ho : r.off = true) : r.check = 7 := by unfold FR.check; rw [if_neg (by rw [h]; decide), if_pos ho]
theorem FR.check_16 {r : FR} (h : r.known = true) (ho : r.off = false) (hk : r.kind = 4) (ht : r.texts = []) : r.check = 16 := by unfold FR.check; rw [if_neg (by rw [h]; decide), if_neg (by rw [ho]; decide), if_pos ⟨hk, ht⟩]
theorem FR.check_0 {r : FR} (h : r.known = true) (ho : r.off = false) (hk : ¬ (r.kind = 4 ∧ r.texts = [])) : r.check = 0 := by unfold FR.check; rw [if_neg (by rw [h]; decide), if_neg (by rw [ho]; decide), if_neg hk]

set_option maxRecDepth 20000 in
set_option maxHeartbeats 1000000 in
theorem Check_any (r : FR) (a0 : Option Addr) (n cap : Nat) (hn : r.texts.length = n) (w : World) :
    Calls Tryz.prog 12 #[.agg #[.int .i64 r.kind, .int .i64 r.least, .int .i64 r.most, .slice a0 n cap]] w fun e w' => e = .returned (.int .i64 r.check) ∧ Below w.heap.size w w' := by
  obtain ⟨k, a, b, l⟩ := r
  dsimp only at hn ⊢
  by_cases hk : 1 ≤ k ∧ k ≤ 8
  · have HK : Hid (FR.known ⟨k, a, b, l⟩ = true) := Lib.hid (decide_eq_true hk)
    have hkd : decide (1 ≤ k ∧ k ≤ 8) = true := decide_eq_true hk
    obtain ⟨hk1, hk8⟩ := hk
    have HK1 : Hid (∀ W : World, Calls Tryz.prog 39 #[.int .i64 k] W fun e w' => e = .returned (.bool true) ∧ W = w') := Lib.hid fun W => by
      have h := known_any k W
      rwa [hkd] at h
    obtain ⟨S, hS⟩ : ∃ S, spansK k = S := ⟨_, rfl⟩
    have HS : Hid (∀ (v : Value) (W : World), Calls Tryz.prog 40 #[.agg #[.int .i64 k, .int .i64 a, .int .i64 b, v]] W fun e w' => e = .returned (.bool S) ∧ Below W.heap.size W w') := Lib.hid fun v W => by
      have h := spans_any k a b v W
      rwa [hS] at h
    have HO : Hid (FR.off ⟨k, a, b, l⟩ = decide (a < 0 ∨ (S = true ∧ b < a) ∨ 4096 < a ∨ 4096 < b)) := Lib.hid (by unfold FR.off; dsimp only; rw [hS])
    clear hkd hS
    by_cases ha : a < 0
    · have HC : Hid (FR.check ⟨k, a, b, l⟩ = 7) := Lib.hid (FR.check_7 HK.out (by rw [HO.out]; exact decide_eq_true (.inl ha)))
      rw [HC.out]
      clear hn
      go_enter Tryz.func12, Tryz.ntmps12
      go_wp2_with (go_at_call 39; refine (HK1.out _).mono ?_; rintro e w' ⟨rfl, rfl⟩)
      go_ret
      exact ⟨rfl, (Below.refl _ _).alloc (Nat.le_refl _) _⟩
    · by_cases hs : S = true ∧ b < a
      · obtain ⟨rfl, hba⟩ := hs
        have HC : Hid (FR.check ⟨k, a, b, l⟩ = 7) := Lib.hid (FR.check_7 HK.out (by rw [HO.out]; exact decide_eq_true (.inr (.inl ⟨rfl, hba⟩))))
        rw [HC.out]
        clear hn
        have hb0 := (Below.refl w.heap.size w).alloc (Nat.le_refl _) (.cells #[.int .i64 k, .int .i64 a, .int .i64 b, .slice a0 n cap] 24)
        have hr0 := Row.new w 24 [.int .i64 k, .int .i64 a, .int .i64 b, .slice a0 n cap]
        have HB := Lib.hid hb0
        have HR := Lib.hid hr0
        clear hb0 hr0
        go_enter Tryz.func12, Tryz.ntmps12
        go_wp2_with fail
        refine (HK1.out _).mono ?_
        rintro e w' ⟨rfl, rfl⟩
        go_wp2_with fail
        refine (HS.out _ _).mono ?_
        rintro e w1 ⟨rfl, hb1⟩
        have hr1 := HR.out.below hb1 (by simp)
        have hB1 := HB.out.trans (hb1.mono (by simp))
        have c0 := hr1.cell 0
        have c1 := hr1.cell 1
        have c2 := hr1.cell 2
        have c3 := hr1.cell 3
        simp only [List.getElem?_cons_zero, List.getElem?_cons_succ] at c0 c1 c2 c3
        have HBB := Lib.hid hB1
        clear hb1 hr1 hB1
        go_wp2_with fail
        go_ret
        exact ⟨rfl, HBB.out⟩
      · have hsb : S = true → a ≤ b := fun h => by
          apply Classical.byContradiction
          intro hn
          exact hs ⟨h, by omega⟩
        obtain ⟨M, hM⟩ : ∃ M, (if a < b then b else a) = M := ⟨_, rfl⟩
        have hMX : Hid ((if a > b then a else b) = M) := Lib.hid (by rw [← hM]; split <;> split <;> omega)
        have hMd : Hid (decide (4096 < M) = decide (4096 < a ∨ 4096 < b)) := Lib.hid (by rw [← hM]; congr 1; apply propext; split <;> omega)
        have HOF : Hid (FR.off ⟨k, a, b, l⟩ = decide (4096 < a ∨ 4096 < b)) := Lib.hid (by rw [HO.out]; congr 1; apply propext; constructor; exact fun h => (by rcases h with h | h | h; exact absurd h ha; exact absurd h hs; exact h); exact fun h => .inr (.inr h))
        clear HO
        obtain ⟨R, HR0⟩ : ∃ R, Hid (FR.check ⟨k, a, b, l⟩ = R) := ⟨_, Lib.hid rfl⟩
        rw [HR0.out]
        have h4 : k = 4 ∨ (k == 4) = false := by
          by_cases h : k = 4
          · exact .inl h
          · exact .inr (beq_no h)
        have HRR : Hid (if decide (4096 < M) = true then R = 7 else if k = 4 ∧ n = 0 then R = 16 else R = 0) := Lib.hid (by
          rw [hMd.out, ← HOF.out, ← HR0.out]
          split
          · rename_i h; exact FR.check_7 HK.out h
          · rename_i h
            have h : FR.off ⟨k, a, b, l⟩ = false := by simpa using h
            split
            · rename_i h4
              exact FR.check_16 HK.out h h4.1 (List.eq_nil_of_length_eq_zero (by rw [hn, h4.2]))
            · rename_i h4
              exact FR.check_0 HK.out h (fun h5 => h4 ⟨h5.1, by rw [← hn, show l = [] from h5.2]; rfl⟩))
        clear hMd HOF HR0 hn
        have HM := Lib.hid hM
        have HSB := Lib.hid hsb
        clear hM hs hsb
        have hb0 : Below w.heap.size w (w.alloc (.cells #[.int .i64 k, .int .i64 a, .int .i64 b, .slice a0 n cap] 24)) := (Below.refl w.heap.size w).alloc (Nat.le_refl _) _
        have HB := Lib.hid hb0
        clear hb0
        have hMd : decide (4096 < M) = true ∨ decide (4096 < M) = false := by cases decide (4096 < M) <;> simp
        rcases hMd with hm | hm
        · have HR7 : Hid (R = 7) := Lib.hid (by have := HRR.out; rwa [if_pos hm] at this)
          have hm := of_decide_eq_true hm
          rw [HR7.out]
          clear HRR h4
          cases S with
          | false =>
            clear HSB
            go_enter Tryz.func12, Tryz.ntmps12
            go_wp2_with fail
            refine (HK1.out _).mono ?_
            rintro e w' ⟨rfl, rfl⟩
            go_wp2_with fail
            refine (HS.out _ _).mono ?_
            rintro e w1 ⟨rfl, hb1⟩
            obtain ⟨hr1, hB1⟩ := rule_after hb1
            obtain ⟨c0, c1, c2, c3⟩ := rule_cells hr1
            have HBB := Lib.hid hB1
            clear hb1 hr1 hB1
            have hMX := hMX.out
            have hM := HM.out
            go_wp2_with fail
            go_ret
            exact ⟨rfl, HBB.out⟩
          | true =>
            have hab := HSB.out rfl
            clear HSB
            go_enter Tryz.func12, Tryz.ntmps12
            go_wp2_with fail
            refine (HK1.out _).mono ?_
            rintro e w' ⟨rfl, rfl⟩
            go_wp2_with fail
            refine (HS.out _ _).mono ?_
            rintro e w1 ⟨rfl, hb1⟩
            obtain ⟨hr1, hB1⟩ := rule_after hb1
            obtain ⟨c0, c1, c2, c3⟩ := rule_cells hr1
            have HBB := Lib.hid hB1
            clear hb1 hr1 hB1
            have hMX := hMX.out
            have hM := HM.out
            go_wp2_with fail
            go_ret
            exact ⟨rfl, HBB.out⟩
        · have hrr := HRR.out
          rw [hm, if_neg (by decide)] at hrr
          have hm := of_decide_eq_false hm
          clear HRR
          have key : (k = 4 ∧ n = 0 ∧ R = 16) ∨ (k = 4 ∧ 0 < n ∧ R = 0) ∨ ((k == 4) = false ∧ R = 0) := by
            rcases h4 with h | h
            · by_cases h0 : n = 0
              · rw [if_pos ⟨h, h0⟩] at hrr; exact .inl ⟨h, h0, hrr⟩
              · rw [if_neg (fun e => h0 e.2)] at hrr; exact .inr (.inl ⟨h, by omega, hrr⟩)
            · rw [if_neg (fun e => by rw [e.1] at h; exact absurd h (by decide))] at hrr
              exact .inr (.inr ⟨h, hrr⟩)
          clear hrr h4
          rcases key with ⟨rfl, rfl, rfl⟩ | ⟨rfl, hn0, rfl⟩ | ⟨hk4, rfl⟩
          all_goals
            cases S with
            | false =>
              clear HSB
              go_enter Tryz.func12, Tryz.ntmps12
              go_wp2_with fail
              refine (HK1.out _).mono ?_
              rintro e w' ⟨rfl, rfl⟩
              go_wp2_with fail
              refine (HS.out _ _).mono ?_
              rintro e w1 ⟨rfl, hb1⟩
              obtain ⟨hr1, hB1⟩ := rule_after hb1
              obtain ⟨c0, c1, c2, c3⟩ := rule_cells hr1
              have HBB := Lib.hid hB1
              clear hb1 hr1 hB1
              have hMX := hMX.out
              have hM := HM.out
              go_wp2_with fail
              go_ret
              exact ⟨rfl, HBB.out⟩
            | true =>
              have hab := HSB.out rfl
              clear HSB
              go_enter Tryz.func12, Tryz.ntmps12
              go_wp2_with fail
              refine (HK1.out _).mono ?_
              rintro e w' ⟨rfl, rfl⟩
              go_wp2_with fail
              refine (HS.out _ _).mono ?_
              rintro e w1 ⟨rfl, hb1⟩
              obtain ⟨hr1, hB1⟩ := rule_after hb1
              obtain ⟨c0, c1, c2, c3⟩ := rule_cells hr1
              have HBB := Lib.hid hB1
              clear hb1 hr1 hB1
              have hMX := hMX.out
              have hM := HM.out
              go_wp2_with fail
              go_ret
              exact ⟨rfl, HBB.out⟩
  · have hkd : decide (1 ≤ k ∧ k ≤ 8) = false := decide_eq_false hk
    have HK1 : Hid (∀ W : World, Calls Tryz.prog 39 #[.int .i64 k] W fun e w' => e = .returned (.bool false) ∧ W = w') := Lib.hid fun W => by
      have h := known_any k W
      rwa [hkd] at h
    have HC : Hid (FR.check ⟨k, a, b, l⟩ = 11) := Lib.hid (FR.check_11 hkd)
    rw [HC.out]
    clear hkd hk hn
    go_enter Tryz.func12, Tryz.ntmps12
    go_wp2_with (go_at_call 39; refine (HK1.out _).mono ?_; rintro e w' ⟨rfl, rfl⟩)
    go_ret
    exact ⟨rfl, (Below.refl _ _).alloc (Nat.le_refl _) _⟩
end Go.Proofs.YtcecibopanfmgaaGreatDoor

namespace Go.Proofs.YtcecibopanfmgaaGreatDoor
open Go Go.Shelf Go.RowKit
def Tryz.laysPu14_ren : Go.Shelf.Ren := ⟨fun | 14 => 97 | 16 => 112 | 17 => 113 | 19 => 130 | 20 => 131 | 21 => 132 | 22 => 133 | 23 => 134 | 24 => 135 | 25 => 145 | 27 => 147 | 26 => 146 | 28 => 154 | 29 => 163 | 30 => 117 | 31 => 118 | 32 => 119 | 33 => 120 | 35 => 137 | 34 => 136 | 36 => 138 | 37 => 139 | 38 => 140 | 39 => 148 | 40 => 149 | n => n, fun | 9 => 9 | 3 => 3 | 22 => 83 | 24 => 97 | 25 => 110 | 4 => 4 | 34 => 137 | 5 => 5 | 36 => 91 | 37 => 76 | 0 => 0 | 39 => 139 | 21 => 21 | 44 => 154 | 47 => 112 | 50 => 165 | 48 => 163 | 2 => 2 | 52 => 120 | 55 => 123 | 59 => 143 | 60 => 125 | 20 => 20 | 61 => 144 | 65 => 146 | 66 => 151 | 67 => 100 | n => n, fun | 0 => 5 | 1 => 6 | 2 => 4 | 3 => 8 | 4 => 9 | n => n⟩
theorem Tryz.laysPu14 : Go.Proofs.LaysPu.n14 Tryz.prog Tryz.laysPu14_ren := {
  mixed := by kernel_rfl
  f14 := Tryz.func97.trans (congrArg some (by kernel_rfl))
  f16 := Tryz.func112.trans (congrArg some (by kernel_rfl))
  f17 := Tryz.func113.trans (congrArg some (by kernel_rfl))
  f19 := Tryz.func130.trans (congrArg some (by kernel_rfl))
  f20 := Tryz.func131.trans (congrArg some (by kernel_rfl))
  f21 := Tryz.func132.trans (congrArg some (by kernel_rfl))
  f22 := Tryz.func133.trans (congrArg some (by kernel_rfl))
  f23 := Tryz.func134.trans (congrArg some (by kernel_rfl))
  f24 := Tryz.func135.trans (congrArg some (by kernel_rfl))
  f25 := Tryz.func145.trans (congrArg some (by kernel_rfl))
  f26 := Tryz.func146.trans (congrArg some (by kernel_rfl))
  f27 := Tryz.func147.trans (congrArg some (by kernel_rfl))
  f28 := Tryz.func154.trans (congrArg some (by kernel_rfl))
  f29 := Tryz.func163.trans (congrArg some (by kernel_rfl))
  f30 := Tryz.func117.trans (congrArg some (by kernel_rfl))
  f31 := Tryz.func118.trans (congrArg some (by kernel_rfl))
  f32 := Tryz.func119.trans (congrArg some (by kernel_rfl))
  f33 := Tryz.func120.trans (congrArg some (by kernel_rfl))
  f34 := Tryz.func136.trans (congrArg some (by kernel_rfl))
  f35 := Tryz.func137.trans (congrArg some (by kernel_rfl))
  f36 := Tryz.func138.trans (congrArg some (by kernel_rfl))
  f37 := Tryz.func139.trans (congrArg some (by kernel_rfl))
  f38 := Tryz.func140.trans (congrArg some (by kernel_rfl))
  f39 := Tryz.func148.trans (congrArg some (by kernel_rfl))
  f40 := Tryz.func149.trans (congrArg some (by kernel_rfl))
  t0 := Tryz.underlying0
  a0 := Tryz.isAgg0
  z0 := Tryz.sizeOf0
  v0 := Tryz.zeroValue0
  i0 := by kernel_rfl
  t2 := Tryz.underlying2
  a2 := Tryz.isAgg2
  z2 := Tryz.sizeOf2
  v2 := Tryz.zeroValue2
  i2 := by kernel_rfl
  t3 := Tryz.underlying3
  a3 := Tryz.isAgg3
  z3 := Tryz.sizeOf3
  v3 := Tryz.zeroValue3
  i3 := by kernel_rfl
  t4 := Tryz.underlying4
  a4 := Tryz.isAgg4
  z4 := Tryz.sizeOf4
  v4 := Tryz.zeroValue4
  i4 := by kernel_rfl
  t5 := Tryz.underlying5
  a5 := Tryz.isAgg5
  z5 := Tryz.sizeOf5
  v5 := Tryz.zeroValue5
  i5 := by kernel_rfl
  t9 := Tryz.underlying9
  a9 := Tryz.isAgg9
  z9 := Tryz.sizeOf9
  v9 := Tryz.zeroValue9
  i9 := by kernel_rfl
  t20 := Tryz.underlying20
  a20 := Tryz.isAgg20
  z20 := Tryz.sizeOf20
  v20 := Tryz.zeroValue20
  i20 := by kernel_rfl
  t21 := Tryz.underlying21
  a21 := Tryz.isAgg21
  z21 := Tryz.sizeOf21
  v21 := Tryz.zeroValue21
  i21 := by kernel_rfl
  t22 := Tryz.underlying83
  a22 := Tryz.isAgg83
  z22 := Tryz.sizeOf83
  v22 := Tryz.zeroValue83
  i22 := by kernel_rfl
  t24 := Tryz.underlying97
  a24 := Tryz.isAgg97
  z24 := Tryz.sizeOf97
  v24 := Tryz.zeroValue97
  i24 := by kernel_rfl
  t25 := Tryz.underlying110
  a25 := Tryz.isAgg110
  z25 := Tryz.sizeOf110
  v25 := Tryz.zeroValue110
  i25 := by kernel_rfl
  t34 := Tryz.underlying137
  a34 := Tryz.isAgg137
  z34 := Tryz.sizeOf137
  v34 := Tryz.zeroValue137
  i34 := by kernel_rfl
  c34 := by kernel_rfl
  t36 := Tryz.underlying91
  a36 := Tryz.isAgg91
  z36 := Tryz.sizeOf91
  v36 := Tryz.zeroValue91
  i36 := by kernel_rfl
  t37 := Tryz.underlying76
  a37 := Tryz.isAgg76
  z37 := Tryz.sizeOf76
  v37 := Tryz.zeroValue76
  i37 := by kernel_rfl
  t39 := Tryz.underlying139
  a39 := Tryz.isAgg139
  z39 := Tryz.sizeOf139
  v39 := Tryz.zeroValue139
  i39 := by kernel_rfl
  t44 := Tryz.underlying154
  a44 := Tryz.isAgg154
  z44 := Tryz.sizeOf154
  v44 := Tryz.zeroValue154
  i44 := by kernel_rfl
  t47 := Tryz.underlying112
  a47 := Tryz.isAgg112
  z47 := Tryz.sizeOf112
  v47 := Tryz.zeroValue112
  i47 := by kernel_rfl
  t48 := Tryz.underlying163
  a48 := Tryz.isAgg163
  z48 := Tryz.sizeOf163
  v48 := Tryz.zeroValue163
  i48 := by kernel_rfl
  t50 := Tryz.underlying165
  a50 := Tryz.isAgg165
  z50 := Tryz.sizeOf165
  v50 := Tryz.zeroValue165
  i50 := by kernel_rfl
  t52 := Tryz.underlying120
  a52 := Tryz.isAgg120
  z52 := Tryz.sizeOf120
  v52 := Tryz.zeroValue120
  i52 := by kernel_rfl
  t55 := Tryz.underlying123
  a55 := Tryz.isAgg123
  z55 := Tryz.sizeOf123
  v55 := Tryz.zeroValue123
  i55 := by kernel_rfl
  t59 := Tryz.underlying143
  a59 := Tryz.isAgg143
  z59 := Tryz.sizeOf143
  v59 := Tryz.zeroValue143
  i59 := by kernel_rfl
  t60 := Tryz.underlying125
  a60 := Tryz.isAgg125
  z60 := Tryz.sizeOf125
  v60 := Tryz.zeroValue125
  i60 := by kernel_rfl
  t61 := Tryz.underlying144
  a61 := Tryz.isAgg144
  z61 := Tryz.sizeOf144
  t65 := Tryz.underlying146
  a65 := Tryz.isAgg146
  z65 := Tryz.sizeOf146
  v65 := Tryz.zeroValue146
  i65 := by kernel_rfl
  t66 := Tryz.underlying151
  a66 := Tryz.isAgg151
  z66 := Tryz.sizeOf151
  v66 := Tryz.zeroValue151
  i66 := by kernel_rfl
  t67 := Tryz.underlying100
  a67 := Tryz.isAgg100
  z67 := Tryz.sizeOf100
  v67 := Tryz.zeroValue100
  i67 := by kernel_rfl
  g0 := by kernel_rfl
  m0 := by kernel_rfl
  g1 := by kernel_rfl
  m1 := by kernel_rfl
  g2 := by kernel_rfl
  m2 := by kernel_rfl
  g3 := by kernel_rfl
  m3 := by kernel_rfl
  g4 := by kernel_rfl
  m4 := by kernel_rfl }
open Go.RowKit in
theorem Tryz.strconv_ParseUint_10_at64_ok (s : ByteArray) (hmax : s.size ≤ 9223372036854775806) (u : Nat) (h : Lib.parseUintB 64 s.data.toList = .ok u) (w : World) :
    Calls Tryz.prog 97 #[.string s, .int .i64 10, .int .i64 64] w fun e w' => e = .returned (.tuple #[.int .u64 u, .nilIface]) ∧ (w' = w ∨ w' = Lib.bytesWorld w 5 s) := Any.strconv_ParseUint_10_at64_ok Tryz.laysPu14 s hmax u h w
end Go.Proofs.YtcecibopanfmgaaGreatDoor

namespace Go.Proofs.YtcecibopanfmgaaGreatDoor
open Go.RowKit
set_option linter.unusedVariables false

/-- How many days a month has. -/
def leapB (y : Int) : Bool := decide (y % 4 = 0 ∧ ¬ y % 100 = 0 ∨ y % 400 = 0)
def daysN (y m : Int) : Int :=
  if y < 0 ∨ 9999 < y then 0
  else if m = 1 ∨ m = 3 ∨ m = 5 ∨ m = 7 ∨ m = 8 ∨ m = 10 ∨ m = 12 then 31
  else if m = 4 ∨ m = 6 ∨ m = 9 ∨ m = 11 then 30
  else if m = 2 then (if leapB y then 29 else 28)
  else 0

theorem leap_any (y : Int) (w : World) (h0 : 0 ≤ y) (h1 : y ≤ 9999) : Calls Tryz.prog 80 #[.int .i64 y] w fun e w' => e = .returned (.bool (leapB y)) ∧ w = w' := by
  by_cases h4 : y % 4 = 0
  · by_cases h100 : y % 100 = 0
    · by_cases h400 : y % 400 = 0
      · have hl : leapB y = true := by unfold leapB; simp; omega
        rw [hl]
        go_enter Tryz.func80, Tryz.ntmps80
        go_wp2
        go_ret
        exact ⟨rfl, rfl⟩
      · have hl : leapB y = false := by unfold leapB; simp; omega
        rw [hl]
        have hb : (y % 400 == 0) = false := by simp; omega
        go_enter Tryz.func80, Tryz.ntmps80
        go_wp2
        go_ret
        exact ⟨rfl, rfl⟩
    · have hl : leapB y = true := by unfold leapB; simp; omega
      rw [hl]
      have hb : (y % 100 == 0) = false := by simp; omega
      have hb2 : (y % 100 != 0) = true := by simp; omega
      go_enter Tryz.func80, Tryz.ntmps80
      go_wp2
      go_ret
      exact ⟨rfl, rfl⟩
  · have hl : leapB y = false := by unfold leapB; simp; omega
    rw [hl]
    have hb : (y % 4 == 0) = false := by simp; omega
    have hb2 : (y % 400 == 0) = false := by simp; omega
    go_enter Tryz.func80, Tryz.ntmps80
    go_wp2
    go_ret
    exact ⟨rfl, rfl⟩

theorem dz {y m : Int} (h : y < 0 ∨ 9999 < y) : daysN y m = 0 := by unfold daysN; rw [if_pos h]
theorem dy {y m : Int} (h : ¬ (y < 0 ∨ 9999 < y)) : daysN y m = if m = 1 ∨ m = 3 ∨ m = 5 ∨ m = 7 ∨ m = 8 ∨ m = 10 ∨ m = 12 then 31
  else if m = 4 ∨ m = 6 ∨ m = 9 ∨ m = 11 then 30
  else if m = 2 then (if leapB y then 29 else 28)
  else 0 := by unfold daysN; rw [if_neg h]
/-- A month's days as the document has them: by the list. -/
def monthL : List Int := [31, 28, 31, 30, 31, 30, 31, 31, 30, 31, 30, 31]

theorem m_cases (m : Int) : m = 1 ∨ m = 2 ∨ m = 3 ∨ m = 4 ∨ m = 5 ∨ m = 6 ∨ m = 7 ∨ m = 8 ∨ m = 9 ∨ m = 10 ∨ m = 11 ∨ m = 12 ∨ (m < 1 ∨ 12 < m) := by omega

set_option maxHeartbeats 1000000 in
theorem Days_any (y m : Int) (w : World) : Calls Tryz.prog 58 #[.int .i64 y, .int .i64 m] w fun e w' => e = .returned (.int .i64 (daysN y m)) ∧ w = w' := by
  by_cases h0 : y < 0
  · rw [dz (.inl h0)]
    go_enter Tryz.func58, Tryz.ntmps58
    go_wp2
    go_ret
    exact ⟨rfl, rfl⟩
  · by_cases h1 : 9999 < y
    · rw [dz (.inr h1)]
      go_enter Tryz.func58, Tryz.ntmps58
      go_wp2
      go_ret
      exact ⟨rfl, rfl⟩
    · rw [dy (by omega)]
      have g0 : 0 ≤ y := by omega
      have g1 : y ≤ 9999 := by omega
      rcases m_cases m with rfl | rfl | rfl | rfl | rfl | rfl | rfl | rfl | rfl | rfl | rfl | rfl | hm
      case inr.inl =>
        have e2 : (if (2 : Int) = 1 ∨ (2 : Int) = 3 ∨ (2 : Int) = 5 ∨ (2 : Int) = 7 ∨ (2 : Int) = 8 ∨ (2 : Int) = 10 ∨ (2 : Int) = 12 then (31 : Int)
          else if (2 : Int) = 4 ∨ (2 : Int) = 6 ∨ (2 : Int) = 9 ∨ (2 : Int) = 11 then 30
          else if (2 : Int) = 2 then (if leapB y then 29 else 28)
          else 0) = if leapB y then 29 else 28 := by rw [if_neg (by omega), if_neg (by omega), if_pos rfl]
        rw [e2]
        clear e2
        cases hL : leapB y with
        | true =>
          rw [if_pos rfl]
          go_enter Tryz.func58, Tryz.ntmps58
          go_wp2_with (go_at_call 80; refine (leap_any y _ g0 g1).mono ?_; rintro e w' ⟨rfl, rfl⟩; rw [hL])
          go_ret
          exact ⟨rfl, rfl⟩
        | false =>
          rw [if_neg (by decide)]
          go_enter Tryz.func58, Tryz.ntmps58
          go_wp2_with (go_at_call 80; refine (leap_any y _ g0 g1).mono ?_; rintro e w' ⟨rfl, rfl⟩; rw [hL])
          go_ret
          exact ⟨rfl, rfl⟩
      all_goals
        go_enter Tryz.func58, Tryz.ntmps58
        go_wp2
        go_ret
        exact ⟨rfl, rfl⟩

/-- The number of digits. -/
def valF (a : Nat) (l : List UInt8) : Nat := l.foldl (fun a c => a * 10 + dv c) a
def val (l : List UInt8) : Nat := valF 0 l
theorem valF_cons (a : Nat) (c : UInt8) (l : List UInt8) : valF a (c :: l) = valF (a * 10 + dv c) l := by unfold valF; rw [List.foldl_cons]
theorem valF_snoc (a : Nat) (c : UInt8) (l : List UInt8) : valF a (l ++ [c]) = valF a l * 10 + dv c := by simp [valF, List.foldl_append]
def p10 : Nat → Nat
  | 0 => 1
  | k + 1 => p10 k * 10
theorem p10_le {k : Nat} (h : k ≤ 4) : p10 k ≤ 10000 := by
  rcases (by omega : k = 0 ∨ k = 1 ∨ k = 2 ∨ k = 3 ∨ k = 4) with rfl | rfl | rfl | rfl | rfl <;> decide
theorem parse_ok (M : Nat) (hM : 18446744073709551615 ≤ M) : ∀ (l : List UInt8) (acc k : Nat), (∀ c ∈ l, isDig c = true) → acc < p10 k → k + l.length ≤ 4 → Lib.parseUintM M acc l = .ok (valF acc l) ∧ valF acc l < p10 (k + l.length) := by
  intro l
  induction l with
  | nil => intro acc k _ h _; exact ⟨rfl, h⟩
  | cons c l ih =>
    intro acc k hd ha hk
    rw [List.length_cons] at hk
    have hc := hd c List.mem_cons_self
    have hc2 := (isDig_iff c).1 hc
    have hv := dv_le hc
    have h17 := p10_le (k := k) (by omega)
    have hn : acc * 10 + dv c < p10 (k + 1) := by show acc * 10 + dv c < p10 k * 10; omega
    obtain ⟨h1, h2⟩ := ih (acc * 10 + dv c) (k + 1) (fun d h => hd d (List.mem_cons_of_mem _ h)) hn (by omega)
    have a1 : ¬ 1844674407370955162 ≤ acc := by omega
    have a2 : ¬ M < acc * 10 + (c.toNat - 48) := by
      have hv2 : c.toNat - 48 ≤ 9 := hv
      omega
    refine ⟨?_, ?_⟩
    · rw [valF_cons]
      unfold Lib.parseUintM
      rw [if_pos hc2, if_neg a1, if_neg a2]
      exact h1
    · rw [valF_cons, List.length_cons, show k + (l.length + 1) = k + 1 + l.length by omega]
      exact h2
theorem parseB_ok {s : ByteArray} (hd : isD s = true) (h : s.size ≤ 4) : Lib.parseUintB 64 s.data.toList = .ok (val s.data.toList) ∧ val s.data.toList ≤ 9999 := by
  obtain ⟨h0, hall⟩ := (isD_iff s).1 hd
  have hl : s.data.toList.length = s.size := by simp
  obtain ⟨h1, h2⟩ := parse_ok (2 ^ 64 - 1) (by decide) s.data.toList 0 0 hall (by decide) (by omega)
  refine ⟨?_, ?_⟩
  · unfold Lib.parseUintB
    rw [if_neg (by intro e; rw [e] at hl; simp at hl; omega), h1]
    rfl
  · have h3 := p10_le (k := 0 + s.data.toList.length) (by omega)
    have h5 : val s.data.toList < p10 (0 + s.data.toList.length) := h2
    omega

theorem bytes_below (W : World) (e : TypeId) (s : ByteArray) : Below W.heap.size W (Lib.bytesWorld W e s) :=
  ⟨by simp [Lib.bytesWorld, World.freeze, World.alloc, World.drew, -World.alloc_eq, -World.drew_eq], by simp [Lib.bytesWorld, World.freeze, World.alloc, World.drew, -World.alloc_eq, -World.drew_eq], by simp [Lib.bytesWorld, World.freeze, World.alloc, World.drew, -World.alloc_eq, -World.drew_eq], by rw [Lib.bytesWorld_size]; omega, fun j hj => Lib.bytesWorld_at_old W e s j hj⟩

set_option maxHeartbeats 400000 in
theorem Number_few (s : ByteArray) (w : World) (hd : isD s = true) (hs : s.size ≤ 4) :
    Calls Tryz.prog 79 #[.string s] w fun e w' => e = .returned (.tuple #[.int .u64 (val s.data.toList : Nat), .int .i64 0]) ∧ Below w.heap.size w w' := by
  obtain ⟨hp, hv⟩ := parseB_ok hd hs
  have HP := Lib.hid hp
  clear hp
  go_enter Tryz.func79, Tryz.ntmps79
  go_wp2_with first
    | (go_at_call 49; refine (Is_any _ _ (by omega)).mono ?_; rintro e w' ⟨rfl, rfl⟩; rw [hd])
    | (go_at_call 97; refine (Tryz.strconv_ParseUint_10_at64_ok s (by omega) _ HP.out _).mono ?_; rintro e w' ⟨rfl, hw⟩)
  go_ret2
  refine ⟨rfl, ?_⟩
  rcases hw with rfl | rfl
  · exact Below.refl _ _
  · exact bytes_below _ _ _

set_option maxHeartbeats 400000 in
theorem few_any (s : ByteArray) (w : World) (hd : isD s = true) (hs : s.size ≤ 4) :
    Calls Tryz.prog 57 #[.string s] w fun e w' => e = .returned (.int .i64 (val s.data.toList : Nat)) ∧ Below w.heap.size w w' := by
  have hv := (parseB_ok hd hs).2
  go_enter Tryz.func57, Tryz.ntmps57
  go_wp2_with (go_at_call 79; refine (Number_few s _ hd hs).mono ?_; rintro e w' ⟨rfl, hB⟩)
  go_ret
  exact ⟨rfl, hB⟩
end Go.Proofs.YtcecibopanfmgaaGreatDoor

namespace Go.Proofs.YtcecibopanfmgaaGreatDoor
open Go.RowKit
set_option linter.unusedVariables false

/-- The number that a piece of the text spells. -/
def fl (s : ByteArray) (a b : Nat) : Nat := val (s.extract a b).data.toList
def dateBad (y m d h mi se : Nat) : Prop := d < 1 ∨ daysN y m < (d : Int) ∨ 23 < h ∨ 59 < mi ∨ 59 < se
instance (y m d h mi se : Nat) : Decidable (dateBad y m d h mi se) := by unfold dateBad; exact inferInstance
def dateN (s : ByteArray) : Int :=
  if s.size = 14 ∧ isD s = true then (if dateBad (fl s 0 4) (fl s 4 6) (fl s 6 8) (fl s 8 10) (fl s 10 12) (fl s 12 14) then 7 else 0) else 4

theorem isD_part {s : ByteArray} (hd : isD s = true) {a b : Nat} (h1 : a < b) (h2 : b ≤ s.size) : isD (s.extract a b) = true := by
  refine (isD_iff _).2 ⟨by rw [ByteArray.size_extract]; omega, fun c hc => ((isD_iff s).1 hd).2 c ?_⟩
  rw [ByteArray.data_extract, Array.toList_extract, List.extract_eq_take_drop] at hc
  exact List.mem_of_mem_drop (List.mem_of_mem_take hc)
theorem fl_le {s : ByteArray} (hd : isD s = true) {a b : Nat} (h1 : a < b) (h2 : b ≤ s.size) (h4 : b - a ≤ 4) : fl s a b ≤ 9999 :=
  (parseB_ok (isD_part hd h1 h2) (by rw [ByteArray.size_extract]; omega)).2
theorem few_part {s : ByteArray} (hd : isD s = true) {a b : Nat} (h1 : a < b) (h2 : b ≤ s.size) (h4 : b - a ≤ 4) (w : World) :
    Calls Tryz.prog 57 #[.string (s.extract a b)] w fun e w' => e = .returned (.int .i64 (fl s a b : Nat)) ∧ Below w.heap.size w w' :=
  few_any (s.extract a b) w (isD_part hd h1 h2) (by rw [ByteArray.size_extract]; omega)

theorem below_drewN_d {B : Nat} {a w : World} (h : Below B a w) (n : Nat) : Below B a (w.drewN n) := ⟨h.os, h.tape, h.output, h.size, h.block⟩

theorem below6 {A B C D E F G : World} (h1 : Below A.heap.size A B) (h2 : Below B.heap.size B C) (h3 : Below C.heap.size C D) (h4 : Below D.heap.size D E) (h5 : Below E.heap.size E F) (h6 : Below F.heap.size F G) : Below A.heap.size A G := by
  have e1 := h1.size
  have e2 := h2.size
  have e3 := h3.size
  have e4 := h4.size
  have e5 := h5.size
  exact h1.trans ((h2.mono e1).trans ((h3.mono (by omega)).trans ((h4.mono (by omega)).trans ((h5.mono (by omega)).trans (h6.mono (by omega))))))

theorem dateN_not {s : ByteArray} (h : ¬ (s.size = 14 ∧ isD s = true)) : dateN s = 4 := by unfold dateN; rw [if_neg h]

set_option maxRecDepth 100000 in
set_option maxHeartbeats 2000000 in
theorem Date_is (s : ByteArray) (w : World) (h14 : s.size = 14) (hd : isD s = true) :
    Calls Tryz.prog 30 #[.string s] w fun e w' => e = .returned (.int .i64 (dateN s)) ∧ Below w.heap.size w w' := by
  have e : dateN s = if dateBad (fl s 0 4) (fl s 4 6) (fl s 6 8) (fl s 8 10) (fl s 10 12) (fl s 12 14) then 7 else 0 := by unfold dateN; rw [if_pos ⟨h14, hd⟩]
  have k1 := fl_le hd (a := 0) (b := 4) (by omega) (by omega) (by omega)
  have k2 := fl_le hd (a := 4) (b := 6) (by omega) (by omega) (by omega)
  have k3 := fl_le hd (a := 6) (b := 8) (by omega) (by omega) (by omega)
  have k4 := fl_le hd (a := 8) (b := 10) (by omega) (by omega) (by omega)
  have k5 := fl_le hd (a := 10) (b := 12) (by omega) (by omega) (by omega)
  have k6 := fl_le hd (a := 12) (b := 14) (by omega) (by omega) (by omega)
  have C1 := Lib.hid (fun W => few_part hd (a := 0) (b := 4) (by omega) (by omega) (by omega) W)
  have C2 := Lib.hid (fun W => few_part hd (a := 4) (b := 6) (by omega) (by omega) (by omega) W)
  have C3 := Lib.hid (fun W => few_part hd (a := 6) (b := 8) (by omega) (by omega) (by omega) W)
  have C4 := Lib.hid (fun W => few_part hd (a := 8) (b := 10) (by omega) (by omega) (by omega) W)
  have C5 := Lib.hid (fun W => few_part hd (a := 10) (b := 12) (by omega) (by omega) (by omega) W)
  have C6 := Lib.hid (fun W => few_part hd (a := 12) (b := 14) (by omega) (by omega) (by omega) W)
  rw [e]
  clear e
  generalize fl s 0 4 = y at *
  generalize fl s 4 6 = m at *
  generalize fl s 6 8 = d at *
  generalize fl s 8 10 = h at *
  generalize fl s 10 12 = mi at *
  generalize fl s 12 14 = se at *
  obtain ⟨D, hD⟩ : ∃ D, daysN y m = D := ⟨_, rfl⟩
  have HD := Lib.hid hD
  have HI := Lib.hid hd
  have h14i : (s.size : Int) = 14 := by omega
  have hres : (if dateBad y m d h mi se then (7 : Int) else 0) = if d < 1 then 7 else if D < d then 7 else if 23 < h then 7 else if 59 < mi then 7 else if 59 < se then 7 else 0 := by
    by_cases hb : dateBad y m d h mi se
    · rw [if_pos hb]
      unfold dateBad at hb
      rw [hD] at hb
      repeat' split
      all_goals omega
    · rw [if_neg hb]
      unfold dateBad at hb
      rw [hD] at hb
      repeat' split
      all_goals omega
  rw [hres]
  clear hres hD hd
  obtain ⟨R, hR⟩ : ∃ R : Int, (if d < 1 then 7 else if D < d then 7 else if 23 < h then 7 else if 59 < mi then 7 else if 59 < se then 7 else 0) = R := ⟨_, rfl⟩
  rw [hR]
  have HR := Lib.hid hR
  clear hR
  go_enter Tryz.func30, Tryz.ntmps30
  go_wp2_with (go_at_call 49; refine (Is_any _ _ (by omega)).mono ?_; rintro e w' ⟨rfl, rfl⟩; rw [HI.out])
  refine region_quiet_lit (Below w.heap.size w) (by kernel_rfl) (by kernel_rfl) (below_drewN_d (Below.refl _ _) 1) ?_
  repeat (go_big_quiet_step ((first
        | (intro hC; with_reducible rfl)
        | (intro hC; go_at_call_of 57 (Value.string (s.extract 0 4)); refine (C1.out _).mono ?_; rintro e w'' ⟨rfl, hb⟩; exact ⟨rfl, hC.trans (hb.mono hC.size)⟩)
        | (intro hC; go_at_call_of 57 (Value.string (s.extract 4 6)); refine (C2.out _).mono ?_; rintro e w'' ⟨rfl, hb⟩; exact ⟨rfl, hC.trans (hb.mono hC.size)⟩)
        | (intro hC; go_at_call_of 57 (Value.string (s.extract 6 8)); refine (C3.out _).mono ?_; rintro e w'' ⟨rfl, hb⟩; exact ⟨rfl, hC.trans (hb.mono hC.size)⟩))))
  refine wpQuiet_nil ?_
  intro wd hwd
  go_wp2_with fail
  refine region_quiet_lit (Below w.heap.size w) (by kernel_rfl) (by kernel_rfl) (below_drewN_d hwd 1) ?_
  repeat (go_big_quiet_step ((first
        | (intro hC; with_reducible rfl)
        | (intro hC; go_at_call_of 57 (Value.string (s.extract 8 10)); refine (C4.out _).mono ?_; rintro e w'' ⟨rfl, hb⟩; exact ⟨rfl, hC.trans (hb.mono hC.size)⟩)
        | (intro hC; go_at_call_of 57 (Value.string (s.extract 10 12)); refine (C5.out _).mono ?_; rintro e w'' ⟨rfl, hb⟩; exact ⟨rfl, hC.trans (hb.mono hC.size)⟩)
        | (intro hC; go_at_call_of 57 (Value.string (s.extract 12 14)); refine (C6.out _).mono ?_; rintro e w'' ⟨rfl, hb⟩; exact ⟨rfl, hC.trans (hb.mono hC.size)⟩))))
  refine wpQuiet_nil ?_
  intro we hwe
  go_wp2_with (go_at_call 58; refine (Days_any _ _ _).mono ?_; rintro e w' ⟨rfl, rfl⟩; rw [HD.out])
  all_goals go_ret
  all_goals have hh := HR.out
  all_goals refine ⟨ret_int_d ?_, hwe⟩
  all_goals rw [← hh]
  all_goals clear C1 C2 C3 C4 C5 C6 HD HI HR hh
  all_goals (repeat' split)
  all_goals omega

set_option maxHeartbeats 400000 in
theorem Date_not (s : ByteArray) (w : World) (hs : s.size ≤ 1000) (h : ¬ (s.size = 14 ∧ isD s = true)) :
    Calls Tryz.prog 30 #[.string s] w fun e w' => e = .returned (.int .i64 (dateN s)) ∧ w = w' := by
  rw [dateN_not h]
  by_cases h14 : s.size = 14
  · have hd : isD s = false := by cases hb : isD s with
      | false => rfl
      | true => exact absurd ⟨h14, hb⟩ h
    have h14i : (s.size : Int) = 14 := by omega
    clear h
    go_enter Tryz.func30, Tryz.ntmps30
    go_wp2_with (go_at_call 49; refine (Is_any _ _ (by omega)).mono ?_; rintro e w' ⟨rfl, rfl⟩; rw [hd])
    go_ret
    exact ⟨rfl, rfl⟩
  · have hb : ((s.size : Int) == 14) = false := by simp; omega
    have hb2 : ((s.size : Int) != 14) = true := by simp; omega
    clear h h14
    go_enter Tryz.func30, Tryz.ntmps30
    go_wp2
    go_ret
    exact ⟨rfl, rfl⟩

theorem Date_any (s : ByteArray) (w : World) (hs : s.size ≤ 1000) :
    Calls Tryz.prog 30 #[.string s] w fun e w' => e = .returned (.int .i64 (dateN s)) ∧ Below w.heap.size w w' := by
  by_cases h : s.size = 14 ∧ isD s = true
  · exact Date_is s w h.1 h.2
  · exact (Date_not s w hs h).mono fun e w' hh => ⟨hh.1, hh.2 ▸ Below.refl _ _⟩

/-- The document's list of the months' days. -/
def monL : List Int := [31, 28, 31, 30, 31, 30, 31, 31, 30, 31, 30, 31]
end Go.Proofs.YtcecibopanfmgaaGreatDoor

namespace Go.Proofs.YtcecibopanfmgaaGreatDoor
open Go.RowKit
set_option linter.unusedVariables false

def winB (a b : Int) (n : Nat) : Bool := decide (a ≤ n) && decide ((n : Int) ≤ b)
/-- It is an id's text, and that id isn't zero. -/
noncomputable def idB (s : ByteArray) : Bool := @decide (∃ l, IsId s.data.toList l ∧ l ≠ List.replicate 16 0) (Classical.propDecidable _)
/-- It is the writing of just so many bytes. -/
def proofB (a : Int) (s : ByteArray) : Bool := decide (encS stdS 6 true (decS stdS 6 s) = s) && decide (((decS stdS 6 s).size : Int) = a)
noncomputable def fitK (k a b : Int) (l : List ByteArray) (s : ByteArray) : Bool :=
  if k = 1 then winB a b s.size && figB s
  else if k = 2 then winB a b (runesB s).length && plainB s
  else if k = 3 then idB s
  else if k = 4 then Lib.containsS l s
  else if k = 5 then decide (cardN s = 0)
  else if k = 6 then decide (dateN s = 0)
  else if k = 7 then proofB a s
  else winB a b s.size && figB s && leadB s
noncomputable def FR.fits (r : FR) (s : ByteArray) : Bool := if r.check = 0 then fitK r.kind r.least r.most r.texts s else false

theorem idB_yes {s : ByteArray} {l : List UInt8} (h : IsId s.data.toList l) : idB s = !decide (l = List.replicate 16 0) := by
  unfold idB
  by_cases hz : l = List.replicate 16 0
  · rw [decide_eq_true hz]
    refine @decide_eq_false _ (_) ?_
    rintro ⟨m, hm, hne⟩
    exact hne ((hm.uniq h).trans hz)
  · rw [decide_eq_false hz]
    exact @decide_eq_true _ (_) ⟨l, h, hz⟩
theorem idB_no {s : ByteArray} (h : ∀ l, ¬ IsId s.data.toList l) : idB s = false := by
  unfold idB
  exact @decide_eq_false _ (_) (fun ⟨l, hl, _⟩ => h l hl)

set_option maxRecDepth 20000 in
set_option maxHeartbeats 1000000 in
theorem Fits_not (r : FR) (hc : r.check ≠ 0) (a0 : Option Addr) (n cap : Nat) (hn : r.texts.length = n) (s : ByteArray) (w : World) :
    Calls Tryz.prog 10 #[.agg #[.int .i64 r.kind, .int .i64 r.least, .int .i64 r.most, .slice a0 n cap], .string s] w fun e w' => e = .returned (.bool false) ∧ Below w.heap.size w w' := by
  have HC : Hid (∀ W : World, Calls Tryz.prog 12 #[.agg #[.int .i64 r.kind, .int .i64 r.least, .int .i64 r.most, .slice a0 n cap]] W fun e w' => e = .returned (.int .i64 r.check) ∧ Below W.heap.size W w') := Lib.hid fun W => Check_any r a0 n cap hn W
  obtain ⟨C, hC⟩ : ∃ C, r.check = C := ⟨_, rfl⟩
  rw [hC] at HC hc
  have hC0 : (C != 0) = true := by rw [bne_iff_ne]; exact hc
  obtain ⟨k, a, b, l⟩ := r
  dsimp only at HC ⊢
  clear hC hn hc
  go_enter Tryz.func10, Tryz.ntmps10
  go_wp2_with fail
  refine (HC.out _).mono ?_
  rintro e w1 ⟨rfl, hb1⟩
  obtain ⟨hr1, hB1⟩ := rule_after hb1
  have HB := Lib.hid hB1
  clear hb1 hr1 hB1
  go_wp2_with fail
  go_ret
  exact ⟨rfl, HB.out⟩

set_option maxRecDepth 20000 in
set_option maxHeartbeats 2000000 in
theorem Fits_1 (a b : Int) (l : List ByteArray) (hc : FR.check ⟨1, a, b, l⟩ = 0) (a0 : Option Addr) (n cap : Nat) (hn : l.length = n) (s : ByteArray) (hs : s.size ≤ 1000) (w : World) :
    Calls Tryz.prog 10 #[.agg #[.int .i64 1, .int .i64 a, .int .i64 b, .slice a0 n cap], .string s] w fun e w' => e = .returned (.bool (winB a b s.size && figB s)) ∧ Below w.heap.size w w' := by
  have HC : Hid (∀ W : World, Calls Tryz.prog 12 #[.agg #[.int .i64 1, .int .i64 a, .int .i64 b, .slice a0 n cap]] W fun e w' => e = .returned (.int .i64 0) ∧ Below W.heap.size W w') := Lib.hid fun W => by
    have h := Check_any ⟨1, a, b, l⟩ a0 n cap hn W
    rw [hc] at h
    exact h
  clear hc
  obtain ⟨B, HBw⟩ : ∃ B, Hid (winB a b s.size = B) := ⟨_, Lib.hid rfl⟩
  have HW : Hid (∀ (v : Value) (W : World), Calls Tryz.prog 22 #[.agg #[.int .i64 1, .int .i64 a, .int .i64 b, v], .int .i64 (s.size : Nat)] W fun e w' => e = .returned (.bool B) ∧ Below W.heap.size W w') := Lib.hid fun v W => by rw [← HBw.out]; exact within_any 1 a b v s.size W
  rw [HBw.out]
  clear hn
  cases B with
  | false =>
    go_enter Tryz.func10, Tryz.ntmps10
    go_wp2_with fail
    refine (HC.out _).mono ?_
    rintro e w1 ⟨rfl, hb1⟩
    obtain ⟨hr1, hB1⟩ := rule_after hb1
    obtain ⟨c0, c1, c2, c3⟩ := rule_cells hr1
    have HR := Lib.hid hr1
    have HB := Lib.hid hB1
    have HB0 := Lib.hid hb1
    clear hb1 hr1 hB1
    go_wp2_with fail
    refine (HW.out _ _).mono ?_
    rintro e w2 ⟨rfl, hb2⟩
    go_wp2_with fail
    go_ret
    exact ⟨rfl, HB.out.trans (hb2.mono HB.out.size)⟩
  | true =>
    go_enter Tryz.func10, Tryz.ntmps10
    go_wp2_with fail
    refine (HC.out _).mono ?_
    rintro e w1 ⟨rfl, hb1⟩
    obtain ⟨hr1, hB1⟩ := rule_after hb1
    obtain ⟨c0, c1, c2, c3⟩ := rule_cells hr1
    have HR := Lib.hid hr1
    have HB := Lib.hid hB1
    have HB0 := Lib.hid hb1
    clear hb1 hr1 hB1
    go_wp2_with fail
    refine (HW.out _ _).mono ?_
    rintro e w2 ⟨rfl, hb2⟩
    go_wp2_with fail
    refine (figures_any s _ (by omega)).mono ?_
    rintro e w3 ⟨rfl, rfl⟩
    go_wp2_with fail
    go_ret
    exact ⟨ret_boolE (by rw [Bool.true_and]), HB.out.trans (hb2.mono HB.out.size)⟩

set_option maxRecDepth 20000 in
set_option maxHeartbeats 2000000 in
theorem Fits_5 (a b : Int) (l : List ByteArray) (hc : FR.check ⟨5, a, b, l⟩ = 0) (a0 : Option Addr) (n cap : Nat) (hn : l.length = n) (s : ByteArray) (hs : s.size ≤ 1000) (w : World) :
    Calls Tryz.prog 10 #[.agg #[.int .i64 5, .int .i64 a, .int .i64 b, .slice a0 n cap], .string s] w fun e w' => e = .returned (.bool (decide (cardN s = 0))) ∧ Below w.heap.size w w' := by
  have HC : Hid (∀ W : World, Calls Tryz.prog 12 #[.agg #[.int .i64 5, .int .i64 a, .int .i64 b, .slice a0 n cap]] W fun e w' => e = .returned (.int .i64 0) ∧ Below W.heap.size W w') := Lib.hid fun W => by
    have h := Check_any ⟨5, a, b, l⟩ a0 n cap hn W
    rw [hc] at h
    exact h
  clear hc
  obtain ⟨C, HCd⟩ : ∃ C, Hid (cardN s = C) := ⟨_, Lib.hid rfl⟩
  have HX : Hid (∀ W : World, Calls Tryz.prog 29 #[.string s] W fun e w' => e = .returned (.int .i64 C) ∧ Below W.heap.size W w') := Lib.hid fun W => by rw [← HCd.out]; exact Card_any s W hs
  rw [HCd.out]
  clear hn
  go_enter Tryz.func10, Tryz.ntmps10
  go_wp2_with fail
  refine (HC.out _).mono ?_
  rintro e w1 ⟨rfl, hb1⟩
  obtain ⟨hr1, hB1⟩ := rule_after hb1
  obtain ⟨c0, c1, c2, c3⟩ := rule_cells hr1
  have HR := Lib.hid hr1
  have HB := Lib.hid hB1
  have HB0 := Lib.hid hb1
  clear hb1 hr1 hB1
  go_wp2_with fail
  refine (HX.out _).mono ?_
  rintro e w2 ⟨rfl, hb2⟩
  go_wp2_with fail
  go_ret
  exact ⟨ret_boolE (by rw [Bool.eq_iff_iff]; simp), HB.out.trans (hb2.mono HB.out.size)⟩

set_option maxRecDepth 20000 in
set_option maxHeartbeats 2000000 in
theorem Fits_6 (a b : Int) (l : List ByteArray) (hc : FR.check ⟨6, a, b, l⟩ = 0) (a0 : Option Addr) (n cap : Nat) (hn : l.length = n) (s : ByteArray) (hs : s.size ≤ 1000) (w : World) :
    Calls Tryz.prog 10 #[.agg #[.int .i64 6, .int .i64 a, .int .i64 b, .slice a0 n cap], .string s] w fun e w' => e = .returned (.bool (decide (dateN s = 0))) ∧ Below w.heap.size w w' := by
  have HC : Hid (∀ W : World, Calls Tryz.prog 12 #[.agg #[.int .i64 6, .int .i64 a, .int .i64 b, .slice a0 n cap]] W fun e w' => e = .returned (.int .i64 0) ∧ Below W.heap.size W w') := Lib.hid fun W => by
    have h := Check_any ⟨6, a, b, l⟩ a0 n cap hn W
    rw [hc] at h
    exact h
  clear hc
  obtain ⟨C, HCd⟩ : ∃ C, Hid (dateN s = C) := ⟨_, Lib.hid rfl⟩
  have HX : Hid (∀ W : World, Calls Tryz.prog 30 #[.string s] W fun e w' => e = .returned (.int .i64 C) ∧ Below W.heap.size W w') := Lib.hid fun W => by rw [← HCd.out]; exact Date_any s W hs
  rw [HCd.out]
  clear hn
  go_enter Tryz.func10, Tryz.ntmps10
  go_wp2_with fail
  refine (HC.out _).mono ?_
  rintro e w1 ⟨rfl, hb1⟩
  obtain ⟨hr1, hB1⟩ := rule_after hb1
  obtain ⟨c0, c1, c2, c3⟩ := rule_cells hr1
  have HR := Lib.hid hr1
  have HB := Lib.hid hB1
  have HB0 := Lib.hid hb1
  clear hb1 hr1 hB1
  go_wp2_with fail
  refine (HX.out _).mono ?_
  rintro e w2 ⟨rfl, hb2⟩
  go_wp2_with fail
  go_ret
  exact ⟨ret_boolE (by rw [Bool.eq_iff_iff]; simp), HB.out.trans (hb2.mono HB.out.size)⟩

set_option maxRecDepth 20000 in
set_option maxHeartbeats 2000000 in
theorem Fits_8 (a b : Int) (l : List ByteArray) (hc : FR.check ⟨8, a, b, l⟩ = 0) (a0 : Option Addr) (n cap : Nat) (hn : l.length = n) (s : ByteArray) (hs : s.size ≤ 1000) (w : World) :
    Calls Tryz.prog 10 #[.agg #[.int .i64 8, .int .i64 a, .int .i64 b, .slice a0 n cap], .string s] w fun e w' => e = .returned (.bool (winB a b s.size && figB s && leadB s)) ∧ Below w.heap.size w w' := by
  have HC : Hid (∀ W : World, Calls Tryz.prog 12 #[.agg #[.int .i64 8, .int .i64 a, .int .i64 b, .slice a0 n cap]] W fun e w' => e = .returned (.int .i64 0) ∧ Below W.heap.size W w') := Lib.hid fun W => by
    have h := Check_any ⟨8, a, b, l⟩ a0 n cap hn W
    rw [hc] at h
    exact h
  clear hc
  obtain ⟨B, HBw⟩ : ∃ B, Hid (winB a b s.size = B) := ⟨_, Lib.hid rfl⟩
  obtain ⟨D, HD⟩ : ∃ D, Hid (figB s = D) := ⟨_, Lib.hid rfl⟩
  have HW : Hid (∀ (v : Value) (W : World), Calls Tryz.prog 22 #[.agg #[.int .i64 8, .int .i64 a, .int .i64 b, v], .int .i64 (s.size : Nat)] W fun e w' => e = .returned (.bool B) ∧ Below W.heap.size W w') := Lib.hid fun v W => by rw [← HBw.out]; exact within_any 8 a b v s.size W
  have HF : Hid (∀ (W : World), Calls Tryz.prog 23 #[.string s] W fun e w' => e = .returned (.bool D) ∧ W = w') := Lib.hid fun W => by rw [← HD.out]; exact figures_any s W (by omega)
  rw [HBw.out, HD.out]
  clear hn
  cases B with
  | false =>
    go_enter Tryz.func10, Tryz.ntmps10
    go_wp2_with fail
    refine (HC.out _).mono ?_
    rintro e w1 ⟨rfl, hb1⟩
    obtain ⟨hr1, hB1⟩ := rule_after hb1
    obtain ⟨c0, c1, c2, c3⟩ := rule_cells hr1
    have HR := Lib.hid hr1
    have HB := Lib.hid hB1
    have HB0 := Lib.hid hb1
    clear hb1 hr1 hB1
    go_wp2_with fail
    refine (HW.out _ _).mono ?_
    rintro e w2 ⟨rfl, hb2⟩
    go_wp2_with fail
    go_ret
    exact ⟨rfl, HB.out.trans (hb2.mono HB.out.size)⟩
  | true =>
    cases D with
    | false =>
      go_enter Tryz.func10, Tryz.ntmps10
      go_wp2_with fail
      refine (HC.out _).mono ?_
      rintro e w1 ⟨rfl, hb1⟩
      obtain ⟨hr1, hB1⟩ := rule_after hb1
      obtain ⟨c0, c1, c2, c3⟩ := rule_cells hr1
      have HR := Lib.hid hr1
      have HB := Lib.hid hB1
      have HB0 := Lib.hid hb1
      clear hb1 hr1 hB1
      go_wp2_with fail
      refine (HW.out _ _).mono ?_
      rintro e w2 ⟨rfl, hb2⟩
      go_wp2_with fail
      refine (HF.out _).mono ?_
      rintro e w3 ⟨rfl, rfl⟩
      go_wp2_with fail
      go_ret
      exact ⟨rfl, HB.out.trans (hb2.mono HB.out.size)⟩
    | true =>
      by_cases h2 : s.size < 2
      · have HL : Hid (leadB s = true) := Lib.hid (by unfold leadB; rw [decide_eq_true h2]; rfl)
        rw [HL.out]
        go_enter Tryz.func10, Tryz.ntmps10
        go_wp2_with fail
        refine (HC.out _).mono ?_
        rintro e w1 ⟨rfl, hb1⟩
        obtain ⟨hr1, hB1⟩ := rule_after hb1
        obtain ⟨c0, c1, c2, c3⟩ := rule_cells hr1
        have HR := Lib.hid hr1
        have HB := Lib.hid hB1
        have HB0 := Lib.hid hb1
        clear hb1 hr1 hB1
        go_wp2_with fail
        refine (HW.out _ _).mono ?_
        rintro e w2 ⟨rfl, hb2⟩
        go_wp2_with fail
        refine (HF.out _).mono ?_
        rintro e w3 ⟨rfl, rfl⟩
        go_wp2_with fail
        go_ret
        exact ⟨rfl, HB.out.trans (hb2.mono HB.out.size)⟩
      · have h2' : (2 : Int) ≤ (s.size : Int) := by omega
        have h0 : 0 < s.size := by omega
        have HL : Hid (leadB s = decide (s[0] ≠ 48)) := Lib.hid (by unfold leadB; rw [decide_eq_false h2, get_d h0]; rfl)
        rw [HL.out]
        go_enter Tryz.func10, Tryz.ntmps10
        go_wp2_with fail
        refine (HC.out _).mono ?_
        rintro e w1 ⟨rfl, hb1⟩
        obtain ⟨hr1, hB1⟩ := rule_after hb1
        obtain ⟨c0, c1, c2, c3⟩ := rule_cells hr1
        have HR := Lib.hid hr1
        have HB := Lib.hid hB1
        have HB0 := Lib.hid hb1
        clear hb1 hr1 hB1
        go_wp2_with fail
        refine (HW.out _ _).mono ?_
        rintro e w2 ⟨rfl, hb2⟩
        go_wp2_with fail
        refine (HF.out _).mono ?_
        rintro e w3 ⟨rfl, rfl⟩
        go_wp2_with fail
        go_ret
        exact ⟨ret_boolE (by rw [Bool.eq_iff_iff]; simp [← UInt8.toNat_inj]; omega), HB.out.trans (hb2.mono HB.out.size)⟩

set_option maxRecDepth 20000 in
set_option maxHeartbeats 2000000 in
theorem Fits_7 (a b : Int) (l : List ByteArray) (hc : FR.check ⟨7, a, b, l⟩ = 0) (a0 : Option Addr) (n cap : Nat) (hn : l.length = n) (s : ByteArray) (hs : s.size ≤ 1000) (w : World) :
    Calls Tryz.prog 10 #[.agg #[.int .i64 7, .int .i64 a, .int .i64 b, .slice a0 n cap], .string s] w fun e w' => e = .returned (.bool (proofB a s)) ∧ Below w.heap.size w w' := by
  have HC : Hid (∀ W : World, Calls Tryz.prog 12 #[.agg #[.int .i64 7, .int .i64 a, .int .i64 b, .slice a0 n cap]] W fun e w' => e = .returned (.int .i64 0) ∧ Below W.heap.size W w') := Lib.hid fun W => by
    have h := Check_any ⟨7, a, b, l⟩ a0 n cap hn W
    rw [hc] at h
    exact h
  clear hc
  obtain ⟨raw, er, hD, HP⟩ : ∃ (raw : ByteArray) (er : Int), (∀ W : World, Calls Tryz.prog 32 #[alph stdS 6 true, .string s] W fun e w' => e = .returned (.tuple #[.string raw, .int .i64 er]) ∧ Below W.heap.size W w') ∧ Hid ((er = 0 ∧ proofB a s = decide ((raw.size : Int) = a)) ∨ (er = 4 ∧ proofB a s = false)) := by
    by_cases h : encS stdS 6 true (decS stdS 6 s) = s
    · exact ⟨_, _, fun W => Decode_ok stdS 6 true s W (.inr rfl) rfl (by omega) h, Lib.hid (.inl ⟨rfl, by unfold proofB; rw [decide_eq_true h, Bool.true_and]⟩)⟩
    · exact ⟨_, _, fun W => Decode_bad stdS 6 true s W (.inr rfl) rfl (by omega) h, Lib.hid (.inr ⟨rfl, by unfold proofB; rw [decide_eq_false h, Bool.false_and]⟩)⟩
  have HX := Lib.hid hD
  obtain ⟨R, HRp⟩ : ∃ R, Hid (proofB a s = R) := ⟨_, Lib.hid rfl⟩
  rw [HRp.out] at HP ⊢
  clear hn hD
  rcases HP.out with ⟨rfl, hP⟩ | ⟨rfl, hP⟩
  · have HQ := Lib.hid hP
    clear HP hP
    go_enter Tryz.func10, Tryz.ntmps10
    go_wp2_with fail
    refine (HC.out _).mono ?_
    rintro e w1 ⟨rfl, hb1⟩
    obtain ⟨hr1, hB1⟩ := rule_after hb1
    obtain ⟨c0, c1, c2, c3⟩ := rule_cells hr1
    have HR := Lib.hid hr1
    have HB := Lib.hid hB1
    have HB0 := Lib.hid hb1
    clear hb1 hr1 hB1
    go_wp2_with fail
    refine (Std_any _).mono ?_
    rintro e w2 ⟨rfl, hb2⟩
    have r2 := HR.out.below hb2 HR.out.lt
    have B2 := HB.out.trans (hb2.mono HB.out.size)
    go_wp2_with fail
    refine (HX.out _).mono ?_
    rintro e w3 ⟨rfl, hb3⟩
    have r3 := r2.below hb3 r2.lt
    have B3 := Lib.hid (B2.trans (hb3.mono B2.size))
    obtain ⟨c0, c1, c2, c3⟩ := rule_cells r3
    clear r2 r3 B2 hb2 hb3
    go_wp2_with fail
    go_ret
    exact ⟨ret_boolE (by rw [HQ.out, Bool.eq_iff_iff]; simp), B3.out⟩
  · have HQ := Lib.hid hP
    clear HP hP
    rw [HQ.out]
    go_enter Tryz.func10, Tryz.ntmps10
    go_wp2_with fail
    refine (HC.out _).mono ?_
    rintro e w1 ⟨rfl, hb1⟩
    obtain ⟨hr1, hB1⟩ := rule_after hb1
    obtain ⟨c0, c1, c2, c3⟩ := rule_cells hr1
    have HR := Lib.hid hr1
    have HB := Lib.hid hB1
    have HB0 := Lib.hid hb1
    clear hb1 hr1 hB1
    go_wp2_with fail
    refine (Std_any _).mono ?_
    rintro e w2 ⟨rfl, hb2⟩
    have B2 := HB.out.trans (hb2.mono HB.out.size)
    go_wp2_with fail
    refine (HX.out _).mono ?_
    rintro e w3 ⟨rfl, hb3⟩
    have B3 := Lib.hid (B2.trans (hb3.mono B2.size))
    clear B2 hb2 hb3
    go_wp2_with fail
    go_ret
    exact ⟨rfl, B3.out⟩

set_option maxRecDepth 20000 in
set_option maxHeartbeats 2000000 in
theorem Fits_4 (a b : Int) (l : List ByteArray) (hc : FR.check ⟨4, a, b, l⟩ = 0) (a0 : Option Addr) (n cap : Nat) (hn : l.length = n) (s : ByteArray) (hs : s.size ≤ 1000) (w : World) (hv : Strs w (.slice a0 n cap) l) (hl : l.length ≤ 9223372036854775807) :
    Calls Tryz.prog 10 #[.agg #[.int .i64 4, .int .i64 a, .int .i64 b, .slice a0 n cap], .string s] w fun e w' => e = .returned (.bool (Lib.containsS l s)) ∧ Below w.heap.size w w' := by
  have HC : Hid (∀ W : World, Calls Tryz.prog 12 #[.agg #[.int .i64 4, .int .i64 a, .int .i64 b, .slice a0 n cap]] W fun e w' => e = .returned (.int .i64 0) ∧ Below W.heap.size W w') := Lib.hid fun W => by
    have h := Check_any ⟨4, a, b, l⟩ a0 n cap hn W
    rw [hc] at h
    exact h
  have hc4 := hc
  clear hc
  have hn0 : 0 < n := Classical.byContradiction fun h0 => FR.check_texts hc4 rfl (List.eq_nil_of_length_eq_zero (by rw [hn]; omega))
  clear hc4
  have HV := Lib.hid hv
  obtain ⟨a1, cp, g, off, he, hp, hcl⟩ := hv
  obtain ⟨rfl, hg⟩ := hp (by omega)
  rw [hn] at he
  injection he with he1 he2 he3
  subst he1
  subst he3
  obtain ⟨R, HRp⟩ : ∃ R, Hid (Lib.containsS l s = R) := ⟨_, Lib.hid rfl⟩
  have HX : Hid (∀ W : World, Below w.heap.size w W → Calls Tryz.prog 28 #[.slice (some ⟨g, off, none⟩) n cap, .string s] W fun e w' => e = .returned (.bool R) ∧ w' = W) := Lib.hid fun W hW => by
    have h := Tryz.slices_Contains_string g off n cap l s W (by omega) (by omega) (fun j hj => (hW.cell (p := ⟨g, off + j, none⟩) hg).trans (hcl j hj))
    rw [List.take_of_length_le (by omega), HRp.out] at h
    exact h
  rw [HRp.out]
  clear hn he2 hp hcl
  go_enter Tryz.func10, Tryz.ntmps10
  go_wp2_with fail
  refine (HC.out _).mono ?_
  rintro e w1 ⟨rfl, hb1⟩
  obtain ⟨hr1, hB1⟩ := rule_after hb1
  obtain ⟨c0, c1, c2, c3⟩ := rule_cells hr1
  have HR := Lib.hid hr1
  have HB := Lib.hid hB1
  have HB0 := Lib.hid hb1
  clear hb1 hr1 hB1
  go_wp2_with fail
  refine (HX.out _ HB.out).mono ?_
  rintro e w2 ⟨rfl, rfl⟩
  go_wp2_with fail
  go_ret
  exact ⟨rfl, HB.out⟩

end Go.Proofs.YtcecibopanfmgaaGreatDoor

namespace Go.Proofs.YtcecibopanfmgaaGreatDoor
open Go.RowKit
set_option linter.unusedVariables false

set_option maxRecDepth 20000 in
set_option maxHeartbeats 2000000 in
theorem Fits_2 (a b : Int) (l : List ByteArray) (hc : FR.check ⟨2, a, b, l⟩ = 0) (a0 : Option Addr) (n cap : Nat) (hn : l.length = n) (s : ByteArray) (hs : s.size ≤ 1000) (w : World) :
    Calls Tryz.prog 10 #[.agg #[.int .i64 2, .int .i64 a, .int .i64 b, .slice a0 n cap], .string s] w fun e w' => e = .returned (.bool (winB a b (runesB s).length && plainB s)) ∧ Below w.heap.size w w' := by
  have HC : Hid (∀ W : World, Calls Tryz.prog 12 #[.agg #[.int .i64 2, .int .i64 a, .int .i64 b, .slice a0 n cap]] W fun e w' => e = .returned (.int .i64 0) ∧ Below W.heap.size W w') := Lib.hid fun W => by
    have h := Check_any ⟨2, a, b, l⟩ a0 n cap hn W
    rw [hc] at h
    exact h
  clear hc
  obtain ⟨N, HN⟩ : ∃ N, Hid ((runesB s).length = N) := ⟨_, Lib.hid rfl⟩
  have HCN : Hid (∀ W : World, Calls Tryz.prog 24 #[.string s] W fun e w' => e = .returned (.int .i64 (N : Nat)) ∧ Below W.heap.size W w') := Lib.hid fun W => by rw [← HN.out]; exact Count_any s W (by omega)
  rw [HN.out]
  obtain ⟨B, HBw⟩ : ∃ B, Hid (winB a b N = B) := ⟨_, Lib.hid rfl⟩
  obtain ⟨D, HD⟩ : ∃ D, Hid (plainB s = D) := ⟨_, Lib.hid rfl⟩
  have HW : Hid (∀ (v : Value) (W : World), Calls Tryz.prog 22 #[.agg #[.int .i64 2, .int .i64 a, .int .i64 b, v], .int .i64 (N : Nat)] W fun e w' => e = .returned (.bool B) ∧ Below W.heap.size W w') := Lib.hid fun v W => by rw [← HBw.out]; exact within_any 2 a b v N W
  have HPL : Hid (∀ (W : World), Calls Tryz.prog 25 #[.string s] W fun e w' => e = .returned (.bool D) ∧ Below W.heap.size W w') := Lib.hid fun W => by rw [← HD.out]; exact plain_any s W (by omega)
  rw [HBw.out, HD.out]
  clear hn
  cases B with
  | false =>
    go_enter Tryz.func10, Tryz.ntmps10
    go_wp2_with fail
    refine (HC.out _).mono ?_
    rintro e w1 ⟨rfl, hb1⟩
    obtain ⟨hr1, hB1⟩ := rule_after hb1
    obtain ⟨c0, c1, c2, c3⟩ := rule_cells hr1
    have HR := Lib.hid hr1
    have HB := Lib.hid hB1
    have HB0 := Lib.hid hb1
    clear hb1 hr1 hB1
    go_wp2_with fail
    have HRC : Hid (∀ W, Below w1.heap.size w1 W → Row W w.heap.size 24 [.int .i64 2, .int .i64 a, .int .i64 b, .slice a0 n cap]) := Lib.hid fun W h => HR.out.below h HR.out.lt
    clear c0 c1 c2 c3
    refine region_quiet_lit (Below w1.heap.size w1) (by kernel_rfl) (by kernel_rfl) (below_drewN_u (Below.refl _ _) 1) ?_
    repeat (first
      | (go_big_quiet_want; (first
          | refine quiet_load_row 24 (.tmp 2) (by rfl) w.heap.size (by rfl) 24 [.int .i64 2, .int .i64 a, .int .i64 b, .slice a0 n cap] _ HRC.out Tryz.underlying24 rfl (by kernel_rfl) ?_); go_big_quiet_on; simp only [Act.put, List.setIfInBounds_toArray, List.set_cons_zero, List.set_cons_succ])
      | go_big_quiet_step ((first
            | (intro hC; with_reducible rfl)
            | (intro hC; go_at_call 24; refine (HCN.out _).mono ?_; rintro e w'' ⟨rfl, hb⟩; exact ⟨rfl, hC.trans (hb.mono hC.size)⟩)
            | (intro hC; go_at_call 22; refine (HW.out _ _).mono ?_; rintro e w'' ⟨rfl, hb⟩; exact ⟨rfl, hC.trans (hb.mono hC.size)⟩))))
    refine wpQuiet_nil ?_
    intro w2 hw2
    go_wp2_with fail
    go_ret
    exact ⟨ret_boolE (by first | rfl | rw [Bool.true_and]), HB.out.trans (hw2.mono HB.out.size)⟩
  | true =>
    go_enter Tryz.func10, Tryz.ntmps10
    go_wp2_with fail
    refine (HC.out _).mono ?_
    rintro e w1 ⟨rfl, hb1⟩
    obtain ⟨hr1, hB1⟩ := rule_after hb1
    obtain ⟨c0, c1, c2, c3⟩ := rule_cells hr1
    have HR := Lib.hid hr1
    have HB := Lib.hid hB1
    have HB0 := Lib.hid hb1
    clear hb1 hr1 hB1
    go_wp2_with fail
    have HRC : Hid (∀ W, Below w1.heap.size w1 W → Row W w.heap.size 24 [.int .i64 2, .int .i64 a, .int .i64 b, .slice a0 n cap]) := Lib.hid fun W h => HR.out.below h HR.out.lt
    clear c0 c1 c2 c3
    refine region_quiet_lit (Below w1.heap.size w1) (by kernel_rfl) (by kernel_rfl) (below_drewN_u (Below.refl _ _) 1) ?_
    repeat (first
      | (go_big_quiet_want; (first
          | refine quiet_load_row 24 (.tmp 2) (by rfl) w.heap.size (by rfl) 24 [.int .i64 2, .int .i64 a, .int .i64 b, .slice a0 n cap] _ HRC.out Tryz.underlying24 rfl (by kernel_rfl) ?_); go_big_quiet_on; simp only [Act.put, List.setIfInBounds_toArray, List.set_cons_zero, List.set_cons_succ])
      | go_big_quiet_step ((first
            | (intro hC; with_reducible rfl)
            | (intro hC; go_at_call 24; refine (HCN.out _).mono ?_; rintro e w'' ⟨rfl, hb⟩; exact ⟨rfl, hC.trans (hb.mono hC.size)⟩)
            | (intro hC; go_at_call 22; refine (HW.out _ _).mono ?_; rintro e w'' ⟨rfl, hb⟩; exact ⟨rfl, hC.trans (hb.mono hC.size)⟩)
            | (intro hC; go_at_call 25; refine (HPL.out _).mono ?_; rintro e w'' ⟨rfl, hb⟩; exact ⟨rfl, hC.trans (hb.mono hC.size)⟩))))
    refine wpQuiet_nil ?_
    intro w2 hw2
    go_wp2_with fail
    go_ret
    exact ⟨ret_boolE (by first | rfl | rw [Bool.true_and]), HB.out.trans (hw2.mono HB.out.size)⟩

set_option maxRecDepth 20000 in
set_option maxHeartbeats 2000000 in
theorem Fits_3 (a b : Int) (l : List ByteArray) (hc : FR.check ⟨3, a, b, l⟩ = 0) (a0 : Option Addr) (n cap : Nat) (hn : l.length = n) (s : ByteArray) (hs : s.size ≤ 1000) (w : World) (hM : M w) :
    Calls Tryz.prog 10 #[.agg #[.int .i64 3, .int .i64 a, .int .i64 b, .slice a0 n cap], .string s] w fun e w' => e = .returned (.bool (idB s)) ∧ Below w.heap.size w w' := by
  have HC : Hid (∀ W : World, Calls Tryz.prog 12 #[.agg #[.int .i64 3, .int .i64 a, .int .i64 b, .slice a0 n cap]] W fun e w' => e = .returned (.int .i64 0) ∧ Below W.heap.size W w') := Lib.hid fun W => by
    have h := Check_any ⟨3, a, b, l⟩ a0 n cap hn W
    rw [hc] at h
    exact h
  clear hc
  have HM := Lib.hid hM
  have hz := (zero_of_info u16_info).1
  clear hM hn
  by_cases h : ∃ l, IsId s.data.toList l
  · obtain ⟨u, hu⟩ := h
    have HX0 : Hid (∀ W : World, M W → Calls Tryz.prog 26 #[.string s] W fun e w' => e = .returned (.tuple #[.agg (u.map bv).toArray, .int .i64 0]) ∧ Below W.heap.size W w') := Lib.hid fun W hW => Parse_ok s u hu (by omega) W hW
    have HZ0 : Hid (∀ W : World, Calls Tryz.prog 27 #[.agg (u.map bv).toArray] W fun e w' => e = .returned (.bool (decide (u = List.replicate 16 0))) ∧ Below W.heap.size W w') := Lib.hid fun W => idZero_any u hu.1 W
    obtain ⟨Z, hZ⟩ : ∃ Z, decide (u = List.replicate 16 0) = Z := ⟨_, rfl⟩
    have HI : Hid (idB s = !Z) := Lib.hid (by rw [← hZ]; exact idB_yes hu)
    rw [hZ] at HZ0
    have hone := one_bytes u
    obtain ⟨C, hC⟩ : ∃ C, u.map bv = C := ⟨_, rfl⟩
    have hCl : C.length = 16 := by rw [← hC, List.length_map, hu.1]
    rw [hC] at HX0 HZ0 hone
    have HO := Lib.hid (And.intro hone hCl)
    rw [HI.out]
    clear hZ hC hu hone hCl
    go_enter Tryz.func10, Tryz.ntmps10
    go_wp2_with fail
    refine (HC.out _).mono ?_
    rintro e w1 ⟨rfl, hb1⟩
    obtain ⟨hr1, hB1⟩ := rule_after hb1
    obtain ⟨c0, c1, c2, c3⟩ := rule_cells hr1
    have HR := Lib.hid hr1
    have HB := Lib.hid hB1
    have HB0 := Lib.hid hb1
    clear hb1 hr1 hB1
    go_wp2_with fail
    refine (HX0.out _ (HM.out.below HB.out)).mono ?_
    rintro e w2 ⟨rfl, hb2⟩
    have q := Row.new w2 45 z16
    have hB2 := HB.out.trans (hb2.mono HB.out.size)
    have bq : Below w.heap.size w (w2.alloc (.cells z16.toArray 45)) := hB2.alloc hB2.size _
    have HQ := Lib.hid (And.intro q bq)
    have HS2 := Lib.hid hB2.size
    clear q bq hb2 hB2
    go_wp2_with (first
      | (refine wpList_store_row rfl 45 (.tmp 5) (.tmp 39) rfl w2.heap.size C.toArray rfl rfl 45 z16.toArray HQ.out.1 (by rw [u16_size, List.size_toArray, HO.out.2]) (by rw [List.size_toArray, List.size_toArray, HO.out.2]; rfl) HO.out.1 ?_)
      | (refine wpList_want (by rfl) fun _ hK => wp_load_row 45 (.tmp 5) rfl w2.heap.size rfl 45 C.toArray (0, 0) _ (HQ.out.1.put C) Tryz.underlying45 rfl (by rw [u16_size, List.size_toArray, HO.out.2]) (hK _ _ ?_))
      | fail)
    refine (HZ0.out _).mono ?_
    rintro e w3 ⟨rfl, hb3⟩
    have hB3 := below_setRow (B := w.heap.size) HQ.out.2 HS2.out C.toArray
    have hB4 := Lib.hid (hB3.trans (hb3.mono hB3.size))
    clear hb3 hB3
    go_wp2_with fail
    go_ret
    exact ⟨rfl, hB4.out⟩
  · have HX0 : Hid (∀ W : World, M W → Calls Tryz.prog 26 #[.string s] W fun e w' => e = .returned (.tuple #[.agg z16.toArray, .int .i64 4]) ∧ Below W.heap.size W w') := Lib.hid fun W hW => Parse_bad s (fun l hl => h ⟨l, hl⟩) (by omega) W hW
    have HI : Hid (idB s = false) := Lib.hid (idB_no (fun l hl => h ⟨l, hl⟩))
    rw [HI.out]
    clear h
    go_enter Tryz.func10, Tryz.ntmps10
    go_wp2_with fail
    refine (HC.out _).mono ?_
    rintro e w1 ⟨rfl, hb1⟩
    obtain ⟨hr1, hB1⟩ := rule_after hb1
    obtain ⟨c0, c1, c2, c3⟩ := rule_cells hr1
    have HR := Lib.hid hr1
    have HB := Lib.hid hB1
    have HB0 := Lib.hid hb1
    clear hb1 hr1 hB1
    go_wp2_with fail
    refine (HX0.out _ (HM.out.below HB.out)).mono ?_
    rintro e w2 ⟨rfl, hb2⟩
    have q := Row.new w2 45 z16
    have hB2 := HB.out.trans (hb2.mono HB.out.size)
    have bq : Below w.heap.size w (w2.alloc (.cells z16.toArray 45)) := hB2.alloc hB2.size _
    have HQ := Lib.hid (And.intro q bq)
    have HS2 := Lib.hid hB2.size
    clear q bq hb2 hB2
    go_wp2_with (first
      | (refine wpList_store_row rfl 45 (.tmp 5) (.tmp 39) rfl w2.heap.size z16.toArray rfl rfl 45 z16.toArray HQ.out.1 u16_size rfl z16_one ?_)
      | fail)
    go_ret
    exact ⟨rfl, below_setRow (B := w.heap.size) HQ.out.2 HS2.out z16.toArray⟩

/-- Whether a text fits a rule. -/
theorem Fits_any (r : FR) (v : Value) (s : ByteArray) (hs : s.size ≤ 1000) (hl : r.texts.length ≤ 9223372036854775807) (w : World) (hv : Strs w v r.texts) (hM : M w) :
    Calls Tryz.prog 10 #[.agg #[.int .i64 r.kind, .int .i64 r.least, .int .i64 r.most, v], .string s] w fun e w' => e = .returned (.bool (r.fits s)) ∧ Below w.heap.size w w' := by
  have hv2 := hv
  obtain ⟨a0, cap, g, off, rfl, _, _⟩ := hv
  by_cases hc : r.check = 0
  · have hk := FR.check_known hc
    have e : r.fits s = fitK r.kind r.least r.most r.texts s := by unfold FR.fits; rw [if_pos hc]
    rw [e]
    obtain ⟨k, a, b, l⟩ := r
    dsimp only at hk hv2 hl ⊢
    obtain ⟨hk1, hk8⟩ := hk
    rcases (by omega : k = 1 ∨ k = 2 ∨ k = 3 ∨ k = 4 ∨ k = 5 ∨ k = 6 ∨ k = 7 ∨ k = 8) with rfl | rfl | rfl | rfl | rfl | rfl | rfl | rfl
    · exact Fits_1 a b l hc a0 _ cap rfl s hs w
    · exact Fits_2 a b l hc a0 _ cap rfl s hs w
    · exact Fits_3 a b l hc a0 _ cap rfl s hs w hM
    · exact Fits_4 a b l hc a0 _ cap rfl s hs w hv2 hl
    · exact Fits_5 a b l hc a0 _ cap rfl s hs w
    · exact Fits_6 a b l hc a0 _ cap rfl s hs w
    · exact Fits_7 a b l hc a0 _ cap rfl s hs w
    · exact Fits_8 a b l hc a0 _ cap rfl s hs w
  · have e : r.fits s = false := by unfold FR.fits; rw [if_neg hc]
    rw [e]
    exact Fits_not r hc a0 _ cap rfl s w
end Go.Proofs.YtcecibopanfmgaaGreatDoor

namespace Go.Proofs.YtcecibopanfmgaaGreatDoor
open Go.RowKit
set_option linter.unusedVariables false

theorem Awake4_any (w : World) :
    Calls Tryz.prog 19 #[] w fun e w' => e = .returned (.bool true) ∧ Below w.heap.size w w' := by
  go_enter Tryz.func19, Tryz.ntmps19
  go_wp2_with fail
  refine (awake_any_u _).mono ?_
  rintro e wa ⟨rfl, hb⟩
  go_wp2_with fail
  go_ret
  exact ⟨rfl, hb⟩
theorem Awake10_any (w : World) (hG : G w) :
    Calls Tryz.prog 20 #[] w fun e w' => e = .returned (.bool true) ∧ Below w.heap.size w w' := by
  have HG := Lib.hid hG
  clear hG
  go_enter Tryz.func20, Tryz.ntmps20
  go_wp2_with fail
  refine (awake10_any _ HG.out).mono ?_
  rintro e wa ⟨rfl, hb⟩
  go_wp2_with fail
  go_ret
  exact ⟨rfl, hb⟩

theorem strs_nil (w : World) (a0 : Option Addr) (cap : Nat) : Strs w (.slice a0 0 cap) [] := ⟨a0, cap, 0, 0, rfl, fun h => absurd h (by simp), fun j h => absurd h (by simp)⟩

def s07 : ByteArray := ⟨#[48, 55]⟩
def s7 : ByteArray := ⟨#[55]⟩
theorem check_ex : FR.check ⟨1, 2, 3, []⟩ = 0 := by decide +kernel
theorem fits_07 : FR.fits ⟨1, 2, 3, []⟩ ⟨#[48, 55]⟩ = true := by
  unfold FR.fits
  rw [if_pos check_ex]
  show (winB 2 3 (ByteArray.mk #[48, 55]).size && figB ⟨#[48, 55]⟩) = true
  decide +kernel
theorem fits_7 : FR.fits ⟨1, 2, 3, []⟩ ⟨#[55]⟩ = false := by
  unfold FR.fits
  rw [if_pos check_ex]
  show (winB 2 3 (ByteArray.mk #[55]).size && figB ⟨#[55]⟩) = false
  decide +kernel

set_option maxRecDepth 20000 in
set_option maxHeartbeats 2000000 in
theorem awake14_any (w : World) (hG : G w) (hM : M w) :
    Calls Tryz.prog 7 #[] w fun e w' => e = .returned (.bool true) ∧ Below w.heap.size w w' := by
  have HG := Lib.hid hG
  have HM := Lib.hid hM
  have H1 : Hid (∀ (v : Value) (W : World), Strs W v [] → M W → Calls Tryz.prog 10 #[.agg #[.int .i64 1, .int .i64 2, .int .i64 3, v], .string ⟨#[48, 55]⟩] W fun e w' => e = .returned (.bool true) ∧ Below W.heap.size W w') := Lib.hid fun v W hv hm => by
    have h := Fits_any ⟨1, 2, 3, []⟩ v ⟨#[48, 55]⟩ (by decide) (by decide) W hv hm
    rw [fits_07] at h
    exact h
  have H2 : Hid (∀ (v : Value) (W : World), Strs W v [] → M W → Calls Tryz.prog 10 #[.agg #[.int .i64 1, .int .i64 2, .int .i64 3, v], .string ⟨#[55]⟩] W fun e w' => e = .returned (.bool false) ∧ Below W.heap.size W w') := Lib.hid fun v W hv hm => by
    have h := Fits_any ⟨1, 2, 3, []⟩ v ⟨#[55]⟩ (by decide) (by decide) W hv hm
    rw [fits_7] at h
    exact h
  have HN : Hid (Strs w (.slice none 0 0) []) := Lib.hid ⟨none, 0, 0, 0, rfl, fun h => absurd h (by simp), fun j h => absurd h (by simp)⟩
  clear hG hM
  go_enter Tryz.func7, Tryz.ntmps7
  go_wp2_with fail
  refine (Of_any 1 2 3 _ [] _ HN.out (by decide)).mono ?_
  rintro e w1 ⟨v', rfl, hs, hb1⟩
  obtain ⟨a0, cap, g, off, rfl, hp, hc⟩ := hs
  have q : Row (w1.alloc (.cells #[.int .i64 0, .int .i64 0, .int .i64 0, .slice none 0 0] 24)) w1.heap.size 24 [.int .i64 0, .int .i64 0, .int .i64 0, .slice none 0 0] := Row.new w1 _ _
  have hB0 := hb1.alloc hb1.size (.cells #[.int .i64 0, .int .i64 0, .int .i64 0, .slice none 0 0] 24)
  have HQ := Lib.hid (And.intro q (And.intro hB0 hb1.size))
  clear q hB0 hp hc hb1
  go_wp2_with (first
    | (refine wpList_store_row rfl 24 (.tmp 1) (.tmp 2) rfl w1.heap.size #[.int .i64 1, .int .i64 2, .int .i64 3, .slice a0 0 cap] rfl rfl 24 #[.int .i64 0, .int .i64 0, .int .i64 0, .slice none 0 0] HQ.out.1 rule_info rfl (by simp [Value.oneCell']) ?_; have hq := HQ.out.1.put [.int .i64 1, .int .i64 2, .int .i64 3, .slice a0 0 cap]; have hbq := below_setRow (B := w.heap.size) HQ.out.2.1 HQ.out.2.2 #[.int .i64 1, .int .i64 2, .int .i64 3, .slice a0 0 cap]; generalize (w1.alloc (.cells #[.int .i64 0, .int .i64 0, .int .i64 0, .slice none 0 0] 24)).setRow w1.heap.size #[.int .i64 1, .int .i64 2, .int .i64 3, .slice a0 0 cap] = w3 at hq hbq ⊢; obtain ⟨c0, c1, c2, c3⟩ := rule_cells hq; have HE := Lib.hid (And.intro hq hbq); clear hq hbq)
    | fail)
  refine (H1.out _ _ (strs_nil _ _ _) (HM.out.below HE.out.2)).mono ?_
  rintro e w4 ⟨rfl, hb4⟩
  have r4 := HE.out.1.below hb4 HE.out.1.lt
  have B4 := HE.out.2.trans (hb4.mono HE.out.2.size)
  obtain ⟨c0, c1, c2, c3⟩ := rule_cells r4
  have H4 := Lib.hid B4
  clear hb4 r4 B4 HE HQ
  go_wp2_with fail
  refine (H2.out _ _ (strs_nil _ _ _) (HM.out.below H4.out)).mono ?_
  rintro e w5 ⟨rfl, hb5⟩
  have H5 := Lib.hid (H4.out.trans (hb5.mono H4.out.size))
  clear hb5 H4 c0 c1 c2 c3
  go_wp2_with fail
  refine (Awake2_any _).mono ?_
  rintro e w6 ⟨rfl, hb6⟩
  have H6 := Lib.hid (H5.out.trans (hb6.mono H5.out.size))
  clear hb6 H5
  go_wp2_with fail
  refine (Awake3_any _).mono ?_
  rintro e w7 ⟨rfl, hb7⟩
  have H7 := Lib.hid (H6.out.trans (hb7.mono H6.out.size))
  clear hb7 H6
  go_wp2_with fail
  refine (Awake4_any _).mono ?_
  rintro e w8 ⟨rfl, hb8⟩
  have H8 := Lib.hid (H7.out.trans (hb8.mono H7.out.size))
  clear hb8 H7
  go_wp2_with fail
  refine (Awake10_any _ (HG.out.below H8.out)).mono ?_
  rintro e w9 ⟨rfl, hb9⟩
  have H9 := Lib.hid (H8.out.trans (hb9.mono H8.out.size))
  clear hb9 H8
  go_wp2_with fail
  go_ret
  exact ⟨rfl, H9.out⟩
end Go.Proofs.YtcecibopanfmgaaGreatDoor

namespace Go.Proofs.YtcecibopanfmgaaGreatDoor
open Go.RowKit
set_option linter.unusedVariables false

/-- Check by its numbers alone. -/
def chk (k a b : Int) (n : Nat) : Int := if k < 1 ∨ 8 < k then 11 else if a < 0 ∨ 4096 < a ∨ 4096 < b then 7 else if (k = 1 ∨ k = 2 ∨ k = 8) ∧ b < a then 7 else if k = 4 ∧ n = 0 then 16 else 0
theorem check_chk (k a b : Int) (l : List ByteArray) (n : Nat) (hn : l.length = n) : FR.check ⟨k, a, b, l⟩ = chk k a b n := by
  unfold FR.check FR.known FR.off spansK chk
  simp only [decide_eq_true_eq, decide_eq_false_iff_not]
  have hl : l = [] ↔ n = 0 := by rw [← hn]; exact List.length_eq_zero_iff.symm
  simp only [hl]
  by_cases h1 : 1 ≤ k ∧ k ≤ 8
  · rw [if_neg (fun h => h h1), if_neg (by omega : ¬ (k < 1 ∨ 8 < k))]
    by_cases h2 : a < 0 ∨ 4096 < a ∨ 4096 < b
    · rw [if_pos h2, if_pos (by omega)]
    · rw [if_neg h2]
      by_cases h3 : (k = 1 ∨ k = 2 ∨ k = 8) ∧ b < a
      · rw [if_pos h3, if_pos (by omega)]
      · rw [if_neg h3, if_neg (by omega)]
  · rw [if_pos h1, if_pos (by omega)]

set_option maxRecDepth 20000 in
set_option maxHeartbeats 4000000 in
theorem refCheck_any (r : FR) (a0 : Option Addr) (n cap : Nat) (hn : r.texts.length = n) (w : World) :
    Calls Tryz.prog 13 #[.agg #[.int .i64 r.kind, .int .i64 r.least, .int .i64 r.most, .slice a0 n cap]] w fun e w' => e = .returned (.int .i64 r.check) ∧ Below w.heap.size w w' := by
  obtain ⟨k, a, b, l⟩ := r
  dsimp only at hn ⊢
  rw [check_chk k a b l n hn]
  clear hn l
  rcases (by omega : k < 1 ∨ 8 < k ∨ k = 4 ∨ k = 1 ∨ k = 2 ∨ k = 3 ∨ k = 5 ∨ k = 6 ∨ k = 7 ∨ k = 8) with h | h | rfl | rfl | rfl | rfl | rfl | rfl | rfl | rfl
  · have hR : chk k a b n = 11 := by unfold chk; rw [if_pos (.inl h)]
    rw [hR]
    clear hR
    go_enter Tryz.func13, Tryz.ntmps13
    go_wp2
    go_ret
    exact ⟨rfl, (Below.refl _ _).alloc (Nat.le_refl _) _⟩
  · have hR : chk k a b n = 11 := by unfold chk; rw [if_pos (.inr h)]
    rw [hR]
    clear hR
    have h1 : 1 ≤ k := by omega
    go_enter Tryz.func13, Tryz.ntmps13
    go_wp2
    go_ret
    exact ⟨rfl, (Below.refl _ _).alloc (Nat.le_refl _) _⟩
  · rcases (by omega : (a < 0) ∨ (0 ≤ a ∧ 4096 < a) ∨ (0 ≤ a ∧ a ≤ 4096 ∧ 4096 < b) ∨ (0 ≤ a ∧ a ≤ 4096 ∧ b ≤ 4096 ∧ b < a) ∨ (0 ≤ a ∧ a ≤ 4096 ∧ b ≤ 4096 ∧ a ≤ b)) with h2 | ⟨h2, h3⟩ | ⟨h2, h3, h4⟩ | ⟨h2, h3, h4, h5⟩ | ⟨h2, h3, h4, h5⟩
    all_goals
      rcases (by omega : n = 0 ∨ 0 < n) with hz | hz
      all_goals
        generalize hR : chk _ a b n = R
        have h3 : R = 7 ∨ R = 16 ∨ R = 0 := by
          unfold chk at hR
          repeat' (split at hR)
          all_goals omega
        rcases h3 with rfl | rfl | rfl
        all_goals
          first
            | (exfalso; unfold chk at hR; (repeat' (split at hR)); (all_goals omega))
            | (clear hR; (try subst hz); go_enter Tryz.func13, Tryz.ntmps13; go_wp2; go_ret; exact ⟨rfl, (Below.refl _ _).alloc (Nat.le_refl _) _⟩)
  all_goals
    rcases (by omega : (a < 0) ∨ (0 ≤ a ∧ 4096 < a) ∨ (0 ≤ a ∧ a ≤ 4096 ∧ 4096 < b) ∨ (0 ≤ a ∧ a ≤ 4096 ∧ b ≤ 4096 ∧ b < a) ∨ (0 ≤ a ∧ a ≤ 4096 ∧ b ≤ 4096 ∧ a ≤ b)) with h2 | ⟨h2, h3⟩ | ⟨h2, h3, h4⟩ | ⟨h2, h3, h4, h5⟩ | ⟨h2, h3, h4, h5⟩
    all_goals
      generalize hR : chk _ a b n = R
      have h3 : R = 7 ∨ R = 16 ∨ R = 0 := by
        unfold chk at hR
        repeat' (split at hR)
        all_goals omega
      rcases h3 with rfl | rfl | rfl
      all_goals
        first
          | (exfalso; unfold chk at hR; (repeat' (split at hR)); (all_goals omega))
          | (clear hR; go_enter Tryz.func13, Tryz.ntmps13; go_wp2; go_ret; exact ⟨rfl, (Below.refl _ _).alloc (Nat.le_refl _) _⟩)
end Go.Proofs.YtcecibopanfmgaaGreatDoor

namespace Go.Proofs.YtcecibopanfmgaaGreatDoor
open Go.RowKit
set_option linter.unusedVariables false

theorem d2 (y : Int) : (if (2 : Int) = 1 ∨ (2 : Int) = 3 ∨ (2 : Int) = 5 ∨ (2 : Int) = 7 ∨ (2 : Int) = 8 ∨ (2 : Int) = 10 ∨ (2 : Int) = 12 then (31 : Int)
          else if (2 : Int) = 4 ∨ (2 : Int) = 6 ∨ (2 : Int) = 9 ∨ (2 : Int) = 11 then 30
          else if (2 : Int) = 2 then (if leapB y then 29 else 28)
          else 0) = if leapB y then 29 else 28 := by rw [if_neg (by omega), if_neg (by omega), if_pos rfl]

set_option maxHeartbeats 1000000 in
theorem refDays_2 (y : Int) (w : World) (g0 : 0 ≤ y) (g1 : y ≤ 9999) : Calls Tryz.prog 65 #[.int .i64 y, .int .i64 2] w fun e w' => e = .returned (.int .i64 (if leapB y then 29 else 28)) ∧ Below w.heap.size w w' := by
  by_cases h4 : y % 4 = 0
  · by_cases h100 : y % 100 = 0
    · by_cases h400 : y % 400 = 0
      · have hl : leapB y = true := by unfold leapB; simp; omega
        rw [hl]
        clear hl
        go_enter Tryz.func65, Tryz.ntmps65
        go_wp2
        go_ret
        exact ⟨rfl, (Below.refl _ _).alloc (Nat.le_refl _) _⟩
      · have hl : leapB y = false := by unfold leapB; simp; omega
        rw [hl]
        have hb : (y % 400 == 0) = false := by simp; omega
        clear hl
        go_enter Tryz.func65, Tryz.ntmps65
        go_wp2
        go_ret
        exact ⟨rfl, (Below.refl _ _).alloc (Nat.le_refl _) _⟩
    · have hl : leapB y = true := by unfold leapB; simp; omega
      rw [hl]
      have hb : (y % 100 == 0) = false := by simp; omega
      have hb2 : (y % 100 != 0) = true := by simp; omega
      clear hl
      go_enter Tryz.func65, Tryz.ntmps65
      go_wp2
      go_ret
      exact ⟨rfl, (Below.refl _ _).alloc (Nat.le_refl _) _⟩
  · have hl : leapB y = false := by unfold leapB; simp; omega
    rw [hl]
    have hb : (y % 4 == 0) = false := by simp; omega
    have hb2 : (y % 400 == 0) = false := by simp; omega
    clear hl
    go_enter Tryz.func65, Tryz.ntmps65
    go_wp2
    go_ret
    exact ⟨rfl, (Below.refl _ _).alloc (Nat.le_refl _) _⟩

set_option maxHeartbeats 2000000 in
theorem refDays_any (y m : Int) (w : World) (hm0 : -9223372036854775808 ≤ m) (hm1 : m ≤ 9223372036854775807) : Calls Tryz.prog 65 #[.int .i64 y, .int .i64 m] w fun e w' => e = .returned (.int .i64 (daysN y m)) ∧ Below w.heap.size w w' := by
  by_cases hy : y < 0 ∨ 9999 < y
  · rw [dz hy]
    rcases hy with h | h
    all_goals
      go_enter Tryz.func65, Tryz.ntmps65
      go_wp2
      go_ret
      exact ⟨rfl, Below.refl _ _⟩
  · have g0 : 0 ≤ y := by omega
    have g1 : y ≤ 9999 := by omega
    by_cases hm : m < 1 ∨ 12 < m
    · have e : daysN y m = 0 := by rw [dy hy, if_neg (by omega), if_neg (by omega), if_neg (by omega)]
      rw [e]
      clear e
      rcases hm with h | h
      all_goals
        go_enter Tryz.func65, Tryz.ntmps65
        go_wp2
        go_ret
        exact ⟨rfl, Below.refl _ _⟩
    · rw [dy hy]
      clear hy
      rcases m_cases m with rfl | rfl | rfl | rfl | rfl | rfl | rfl | rfl | rfl | rfl | rfl | rfl | h
      case inr.inl =>
        rw [d2]
        exact refDays_2 y w g0 g1
      case inr.inr.inr.inr.inr.inr.inr.inr.inr.inr.inr.inr => exact absurd h hm
      all_goals
        clear hm
        go_enter Tryz.func65, Tryz.ntmps65
        go_wp2
        go_ret
        exact ⟨rfl, (Below.refl _ _).alloc (Nat.le_refl _) _⟩
end Go.Proofs.YtcecibopanfmgaaGreatDoor

namespace Go.Proofs.YtcecibopanfmgaaGreatDoor
open Go.RowKit
set_option linter.unusedVariables false

/-- Where the r-th number begins; how long it is. -/
def offN : Nat → Nat
  | 0 => 0
  | r + 1 => 2 * r + 4
def lenN (r : Nat) : Nat := if r = 0 then 4 else 2
theorem off_len (r : Nat) : offN r + lenN r = offN (r + 1) := by
  cases r with
  | zero => rfl
  | succ r => show 2 * r + 4 + (if r + 1 = 0 then 4 else 2) = 2 * (r + 1) + 4; rw [if_neg (by omega)]; omega
theorem lens_get {r : Nat} (h : r < 6) : ([4, 2, 2, 2, 2, 2] : List Int)[r]? = some ((lenN r : Nat) : Int) := by
  rcases (by omega : r = 0 ∨ r = 1 ∨ r = 2 ∨ r = 3 ∨ r = 4 ∨ r = 5) with rfl | rfl | rfl | rfl | rfl | rfl <;> rfl
theorem off_le {r : Nat} (h : r ≤ 6) : offN r ≤ 14 := by cases r with
  | zero => decide
  | succ r => show 2 * r + 4 ≤ 14; omega
/-- The first r numbers. -/
def nums (s : ByteArray) (r : Nat) : List Nat := (List.range r).map fun k => fl s (offN k) (offN (k + 1))
theorem nums_succ (s : ByteArray) (r : Nat) : nums s (r + 1) = nums s r ++ [fl s (offN r) (offN (r + 1))] := by simp [nums, List.range_succ]
theorem nums_len (s : ByteArray) (r : Nat) : (nums s r).length = r := by simp [nums]

theorem fl_self (s : ByteArray) (a : Nat) : fl s a a = 0 := by
  unfold fl
  rw [ByteArray.data_extract, Array.toList_extract, List.extract_eq_take_drop, Nat.sub_self, List.take_zero]
  rfl
theorem fl_step {s : ByteArray} {a j : Nat} (h : a ≤ j) (hj : j < s.size) : fl s a (j + 1) = fl s a j * 10 + dv (s.data.toList.getD j 0) := by
  have hl : s.data.toList.length = s.size := by simp
  unfold fl val
  rw [ByteArray.data_extract, Array.toList_extract, List.extract_eq_take_drop, ByteArray.data_extract, Array.toList_extract, List.extract_eq_take_drop]
  have e : (s.data.toList.drop a).take (j + 1 - a) = (s.data.toList.drop a).take (j - a) ++ [s.data.toList.getD j 0] := by
    rw [show j + 1 - a = (j - a) + 1 by omega, List.take_add_one, List.getElem?_drop, show a + (j - a) = j by omega, List.getElem?_eq_getElem (by omega), List.getD_eq_getElem?_getD, List.getElem?_eq_getElem (by omega)]
    rfl
  rw [e, valF_snoc]
theorem fl_small {s : ByteArray} (hd : isD s = true) {a b : Nat} (h1 : a ≤ b) (h2 : b ≤ s.size) (h4 : b - a ≤ 4) : fl s a b ≤ 9999 := by
  rcases (by omega : a = b ∨ a < b) with rfl | h
  · rw [fl_self]; omega
  · exact fl_le hd h h2 h4

theorem int_info : (Tryz.prog.info? 3).map (fun i => (i.zero, i.size, i.bytes)) = some (some (.int .i64 0), 1, 8) := by kernel_rfl
def iv (n : Nat) : Value := .int .i64 (n : Int)
theorem below_grown {w w' : World} (h : Below w.heap.size w w') : w.grownBy w' none := ⟨h.os, h.tape, h.output, h.size, fun k hk _ => h.block k hk⟩

theorem date_step {w wr w3 : World} {v : Value} {r : Nat} {L R : List Value} {o : Obj} (H : wr.ownsRow (w.heap.size + 1) 3 1 v r L ∧ Row wr w.heap.size 3 R) (hB : Below w.heap.size w wr) (hg : (wr.alloc o).grownBy w3 v.ownBlock) :
    Row w3 w.heap.size 3 R ∧ Below w.heap.size w w3 := by
  have hz := H.2.lt
  refine ⟨?_, (hB.alloc hB.size o).grown hg (by simp; omega) (fun k e => by have := (H.1.lt k e).1; omega)⟩
  obtain ⟨_, _, _, _, h5⟩ := hg
  have h := h5 w.heap.size (by simp; omega) (fun e => by
    first
      | (have := (H.1.lt _ e).1; omega)
      | (have := (H.1.lt _ e.symm).1; omega))
  exact h.trans (H.2.alloc o)

theorem own6 {wr : World} {B : Nat} {v : Value} {xs : List Value} (h : wr.ownsRow B 3 1 v 6 xs) : ∃ g cap, v = .slice (some ⟨g, 0, none⟩) 6 cap ∧ g < wr.heap.size ∧ ∀ i, i < 6 → wr.cell? ⟨g, i, none⟩ = xs[i]? := by
  have h' := h
  rcases h.2 with ⟨_, e⟩ | ⟨g, cap, cur, rfl, _⟩
  · exact absurd e (by omega)
  · exact ⟨g, cap, rfl, (h'.lt g rfl).2, fun i hi => h'.cellAt (g := g) i (by have := h'.1; omega)⟩

set_option maxRecDepth 100000 in
set_option maxHeartbeats 2000000 in
theorem refDate_is (s : ByteArray) (w : World) (h14 : s.size = 14) (hd : isD s = true) :
    Calls Tryz.prog 37 #[.string s] w fun e w' => e = .returned (.int .i64 (dateN s)) ∧ Below w.heap.size w w' := by
  have HI := Lib.hid hd
  have h14i : (s.size : Int) = 14 := by omega
  obtain ⟨i0, hi, hz0, hz1, hz2⟩ := info_parts int_info
  obtain ⟨R, hR⟩ : ∃ R, dateN s = R := ⟨_, rfl⟩
  rw [hR]
  have HR := Lib.hid hR
  clear hR
  go_enter Tryz.func37, Tryz.ntmps37
  go_wp2_with (go_at_call 33; refine (refIs_any _ _ (by omega)).mono ?_; rintro e w' ⟨rfl, rfl⟩; rw [HI.out])
  go_loopw [3, 4, 19] (fun l at' i wr => ∃ r : Nat, r ≤ 6 ∧ i = .int .i64 r ∧ at' = .int .i64 (offN r : Nat) ∧ Hid (wr.ownsRow (w.heap.size + 1) 3 1 l r ((nums s r).map iv) ∧ Row wr w.heap.size 3 [.int .i64 4, .int .i64 2, .int .i64 2, .int .i64 2, .int .i64 2, .int .i64 2]) ∧ Below w.heap.size w wr) (fun _ _ i _ => 6 - (intOf i).toNat)
  case atStart => exact ⟨0, by omega, rfl, rfl, Lib.hid ⟨World.ownsRow_nil _ _ _ _, Row.new w 3 _⟩, (Below.refl _ _).alloc (Nat.le_refl _) _⟩
  case round =>
    obtain ⟨r, hr, rfl, rfl, HS, hB⟩ := hrel
    by_cases hlt : r < 6
    · have hcell : wr.cell? ⟨w.heap.size, r, none⟩ = some (.int .i64 (lenN r : Nat)) := by
        have h1 := HS.out.2.cell r
        have h2 := lens_get hlt
        rcases (by omega : r = 0 ∨ r = 1 ∨ r = 2 ∨ r = 3 ∨ r = 4 ∨ r = 5) with rfl | rfl | rfl | rfl | rfl | rfl <;> exact h1
      have ho := off_len r
      have ho2 := off_le (r := r + 1) (by omega)
      have hN : lenN r ≤ 4 := by unfold lenN; split <;> omega
      obtain ⟨F, hF⟩ : ∃ F, fl s (offN r) (offN (r + 1)) = F := ⟨_, rfl⟩
      have HN := Lib.hid (nums_succ s r)
      have hsz := hB.size
      have hwz : w.heap.size < wr.heap.size := HS.out.2.lt
      generalize hA : offN r = A at *
      generalize hL : lenN r = N at *
      generalize hE : offN (r + 1) = E at *
      have HH := Lib.hid (And.intro hA (And.intro hL hE))
      have HF := Lib.hid hF
      clear hA hL hE hF
      go_wp2_with fail
      go_loop [7, 8] (fun v i => ∃ j V : Nat, A ≤ j ∧ j ≤ E ∧ i = .int .i64 j ∧ v = .int .i64 V ∧ V ≤ 9999 ∧ Hid (V = fl s A j)) (fun _ i => E - (intOf i).toNat)
      case atStart => exact ⟨A, 0, Nat.le_refl _, by omega, rfl, rfl, by omega, Lib.hid (fl_self s A).symm⟩
      case round =>
        obtain ⟨j, V, hj0, hj1, rfl, rfl, hV, HV⟩ := hrel
        by_cases hjE : j < E
        · have hix := run_index_str_d (P := Tryz.prog) 9 s j Tryz.underlying9 (by omega)
          have hdg : isDig (s.data.toList.getD j 0) = true := by
            rw [get_d (by omega)]
            exact ((isD_iff s).1 HI.out).2 _ (by show s.data.toList[j]'(by simp; omega) ∈ _; exact List.getElem_mem _)
          have hst := fl_step (s := s) hj0 (by omega)
          have hsm := fl_small HI.out (a := A) (b := j + 1) (by omega) (by omega) (by omega)
          generalize hcc : s.data.toList.getD j 0 = c at hix hst hdg
          have hc := (isDig_iff _).1 hdg
          have h48 : (48 : Int) ≤ (c.toNat : Int) := by omega
          have h57 : (c.toNat : Int) ≤ 57 := by omega
          have hdv : ((dv c : Nat) : Int) = (c.toNat : Int) - 48 := by unfold dv; omega
          have hnx : Hid (V * 10 + dv c = fl s A (j + 1)) := Lib.hid (by rw [hst, HV.out])
          have hsm2 : V * 10 + dv c ≤ 9999 := by rw [hnx.out]; exact hsm
          clear hst hsm hdg hcc hc
          go_wp2_with fail
          go_round
          case rel => exact ⟨j + 1, V * 10 + dv c, by omega, by omega, by go_num, by go_num, hsm2, hnx⟩
          case measure => simp [intOf]; omega
        · obtain rfl : j = E := by omega
          have hVF : Hid (V = F) := Lib.hid (by rw [HV.out, HF.out])
          go_wp2_with (at_builtin; refine wpList_append_lies _ rfl (.tmp 39) (.tmp 41) 56 rfl (w.heap.size + 1) 3 i0 (.int .i64 0) 1 8 Tryz.underlying56 hi hz0 hz1 hz2 rfl (by decide) _ _ _ rfl (HS.out.1.alloc _) ⟨wr.heap.size, 0, none⟩ 1 1 [.int .i64 (V : Nat)] rfl rfl (World.news_of_block (cs := #[.int .i64 (V : Nat)]) (t := 3) (fr := (0, 0)) (heap_alloc_new wr _)) (by simp [Value.oneCell']) (by omega) (by unfold maxLen; omega) (by omega) (by simp; omega) (wr.heap.size + 1) (by simp) ?_; intro g1 cap1 w3 hown1 hg1 hat1 hlt1)
          go_roundw
          case rel =>
            have hd := date_step HS.out hB hg1
            have hh := HH.out.2.2
            have e : (nums s (r + 1)).map iv = (nums s r).map iv ++ [.int .i64 (V : Nat)] := by rw [HN.out, List.map_append, HF.out, hVF.out]; rfl
            exact ⟨r + 1, by omega, by go_num, congrArg (Value.int .i64) (by omega), Lib.hid ⟨by rw [e]; exact hown1, hd.1⟩, hd.2⟩
          case measure => simp [intOf]; omega
    · obtain rfl : r = 6 := by omega
      obtain ⟨g, cap, rfl, hg, hcs⟩ := own6 HS.out.1
      have k1 := fl_le hd (a := 0) (b := 4) (by omega) (by omega) (by omega)
      have k2 := fl_le hd (a := 4) (b := 6) (by omega) (by omega) (by omega)
      have k3 := fl_le hd (a := 6) (b := 8) (by omega) (by omega) (by omega)
      have k4 := fl_le hd (a := 8) (b := 10) (by omega) (by omega) (by omega)
      have k5 := fl_le hd (a := 10) (b := 12) (by omega) (by omega) (by omega)
      have k6 := fl_le hd (a := 12) (b := 14) (by omega) (by omega) (by omega)
      have e : R = if dateBad (fl s 0 4) (fl s 4 6) (fl s 6 8) (fl s 8 10) (fl s 10 12) (fl s 12 14) then 7 else 0 := by rw [← HR.out]; unfold dateN; rw [if_pos ⟨h14, hd⟩]
      have l0 : ∀ W, Below wr.heap.size wr W → W.cell? ⟨g, 0, none⟩ = some (.int .i64 (fl s 0 4 : Nat)) := fun W h => (h.cell hg).trans (hcs 0 (by omega))
      have l1 : ∀ W, Below wr.heap.size wr W → W.cell? ⟨g, 1, none⟩ = some (.int .i64 (fl s 4 6 : Nat)) := fun W h => (h.cell hg).trans (hcs 1 (by omega))
      have l2 : ∀ W, Below wr.heap.size wr W → W.cell? ⟨g, 2, none⟩ = some (.int .i64 (fl s 6 8 : Nat)) := fun W h => (h.cell hg).trans (hcs 2 (by omega))
      have l3 : ∀ W, Below wr.heap.size wr W → W.cell? ⟨g, 3, none⟩ = some (.int .i64 (fl s 8 10 : Nat)) := fun W h => (h.cell hg).trans (hcs 3 (by omega))
      have l4 : ∀ W, Below wr.heap.size wr W → W.cell? ⟨g, 4, none⟩ = some (.int .i64 (fl s 10 12 : Nat)) := fun W h => (h.cell hg).trans (hcs 4 (by omega))
      have l5 : ∀ W, Below wr.heap.size wr W → W.cell? ⟨g, 5, none⟩ = some (.int .i64 (fl s 12 14 : Nat)) := fun W h => (h.cell hg).trans (hcs 5 (by omega))
      clear hcs
      generalize fl s 0 4 = y at *
      generalize fl s 4 6 = m at *
      generalize fl s 6 8 = d at *
      generalize fl s 8 10 = h at *
      generalize fl s 10 12 = mi at *
      generalize fl s 12 14 = se at *
      obtain ⟨D, hD⟩ : ∃ D, daysN y m = D := ⟨_, rfl⟩
      have HD := Lib.hid hD
      have hres : (if dateBad y m d h mi se then (7 : Int) else 0) = if d < 1 then 7 else if D < d then 7 else if 23 < h then 7 else if 59 < mi then 7 else if 59 < se then 7 else 0 := by
        by_cases hb : dateBad y m d h mi se
        · rw [if_pos hb]
          unfold dateBad at hb
          rw [hD] at hb
          repeat' split
          all_goals omega
        · rw [if_neg hb]
          unfold dateBad at hb
          rw [hD] at hb
          repeat' split
          all_goals omega
      have HE := Lib.hid (e.trans hres)
      clear hres hD e
      have CD : Hid (∀ W : World, Calls Tryz.prog 65 #[.int .i64 (y : Nat), .int .i64 (m : Nat)] W fun e w' => e = .returned (.int .i64 D) ∧ Below W.heap.size W w') := Lib.hid fun W => by
        have hx := refDays_any (y : Nat) (m : Nat) W (by omega) (by omega)
        rw [HD.out] at hx
        exact hx
      go_wp2_with fail
      by_cases q1 : d < 1
      · have i1 : (d : Int) < 1 := by omega
        have HR7 : Hid (R = 7) := Lib.hid (by rw [HE.out, if_pos q1])
        refine region_quiet_lit (Below wr.heap.size wr) (by kernel_rfl) (by kernel_rfl) (below_drewN_d (Below.refl _ _) 1) ?_
        repeat (go_big_quiet_step ((first
          | (intro hC; with_reducible rfl)
          | (intro hC; rw [l0 _ hC]; exact ⟨rfl, rfl⟩)
          | (intro hC; rw [l1 _ hC]; exact ⟨rfl, rfl⟩)
          | (intro hC; rw [l2 _ hC]; exact ⟨rfl, rfl⟩)
          | (intro hC; rw [l3 _ hC]; exact ⟨rfl, rfl⟩)
          | (intro hC; rw [l4 _ hC]; exact ⟨rfl, rfl⟩)
          | (intro hC; rw [l5 _ hC]; exact ⟨rfl, rfl⟩)
          | (intro hC; go_at_call 65; refine (CD.out _).mono ?_; rintro e w'' ⟨rfl, hb⟩; exact ⟨rfl, hC.trans (hb.mono hC.size)⟩))))
        refine wpQuiet_nil ?_
        intro wd hwd
        go_wp2_with fail
        go_ret
        exact ⟨ret_int_d HR7.out.symm, hB.trans (hwd.mono hB.size)⟩
      · have j1 : ¬ (d : Int) < 1 := by omega
        by_cases q2 : D < (d : Int)
        · have i2 : D < (d : Int) := by omega
          have HR7 : Hid (R = 7) := Lib.hid (by rw [HE.out, if_neg q1, if_pos q2])
          refine region_quiet_lit (Below wr.heap.size wr) (by kernel_rfl) (by kernel_rfl) (below_drewN_d (Below.refl _ _) 1) ?_
          repeat (go_big_quiet_step ((first
            | (intro hC; with_reducible rfl)
            | (intro hC; rw [l0 _ hC]; exact ⟨rfl, rfl⟩)
            | (intro hC; rw [l1 _ hC]; exact ⟨rfl, rfl⟩)
            | (intro hC; rw [l2 _ hC]; exact ⟨rfl, rfl⟩)
            | (intro hC; rw [l3 _ hC]; exact ⟨rfl, rfl⟩)
            | (intro hC; rw [l4 _ hC]; exact ⟨rfl, rfl⟩)
            | (intro hC; rw [l5 _ hC]; exact ⟨rfl, rfl⟩)
            | (intro hC; go_at_call 65; refine (CD.out _).mono ?_; rintro e w'' ⟨rfl, hb⟩; exact ⟨rfl, hC.trans (hb.mono hC.size)⟩))))
          refine wpQuiet_nil ?_
          intro wd hwd
          go_wp2_with fail
          go_ret
          exact ⟨ret_int_d HR7.out.symm, hB.trans (hwd.mono hB.size)⟩
        · have j2 : ¬ D < (d : Int) := by omega
          by_cases q3 : 23 < h
          · have i3 : (23 : Int) < (h : Int) := by omega
            have HR7 : Hid (R = 7) := Lib.hid (by rw [HE.out, if_neg q1, if_neg q2, if_pos q3])
            refine region_quiet_lit (Below wr.heap.size wr) (by kernel_rfl) (by kernel_rfl) (below_drewN_d (Below.refl _ _) 1) ?_
            repeat (go_big_quiet_step ((first
              | (intro hC; with_reducible rfl)
              | (intro hC; rw [l0 _ hC]; exact ⟨rfl, rfl⟩)
              | (intro hC; rw [l1 _ hC]; exact ⟨rfl, rfl⟩)
              | (intro hC; rw [l2 _ hC]; exact ⟨rfl, rfl⟩)
              | (intro hC; rw [l3 _ hC]; exact ⟨rfl, rfl⟩)
              | (intro hC; rw [l4 _ hC]; exact ⟨rfl, rfl⟩)
              | (intro hC; rw [l5 _ hC]; exact ⟨rfl, rfl⟩)
              | (intro hC; go_at_call 65; refine (CD.out _).mono ?_; rintro e w'' ⟨rfl, hb⟩; exact ⟨rfl, hC.trans (hb.mono hC.size)⟩))))
            refine wpQuiet_nil ?_
            intro wd hwd
            go_wp2_with fail
            go_ret
            exact ⟨ret_int_d HR7.out.symm, hB.trans (hwd.mono hB.size)⟩
          · have j3 : ¬ (23 : Int) < (h : Int) := by omega
            by_cases q4 : 59 < mi
            · have i4 : (59 : Int) < (mi : Int) := by omega
              have HR7 : Hid (R = 7) := Lib.hid (by rw [HE.out, if_neg q1, if_neg q2, if_neg q3, if_pos q4])
              refine region_quiet_lit (Below wr.heap.size wr) (by kernel_rfl) (by kernel_rfl) (below_drewN_d (Below.refl _ _) 1) ?_
              repeat (go_big_quiet_step ((first
                | (intro hC; with_reducible rfl)
                | (intro hC; rw [l0 _ hC]; exact ⟨rfl, rfl⟩)
                | (intro hC; rw [l1 _ hC]; exact ⟨rfl, rfl⟩)
                | (intro hC; rw [l2 _ hC]; exact ⟨rfl, rfl⟩)
                | (intro hC; rw [l3 _ hC]; exact ⟨rfl, rfl⟩)
                | (intro hC; rw [l4 _ hC]; exact ⟨rfl, rfl⟩)
                | (intro hC; rw [l5 _ hC]; exact ⟨rfl, rfl⟩)
                | (intro hC; go_at_call 65; refine (CD.out _).mono ?_; rintro e w'' ⟨rfl, hb⟩; exact ⟨rfl, hC.trans (hb.mono hC.size)⟩))))
              refine wpQuiet_nil ?_
              intro wd hwd
              go_wp2_with fail
              go_ret
              exact ⟨ret_int_d HR7.out.symm, hB.trans (hwd.mono hB.size)⟩
            · have j4 : ¬ (59 : Int) < (mi : Int) := by omega
              by_cases q5 : 59 < se
              · have i5 : (59 : Int) < (se : Int) := by omega
                have HR7 : Hid (R = 7) := Lib.hid (by rw [HE.out, if_neg q1, if_neg q2, if_neg q3, if_neg q4, if_pos q5])
                refine region_quiet_lit (Below wr.heap.size wr) (by kernel_rfl) (by kernel_rfl) (below_drewN_d (Below.refl _ _) 1) ?_
                repeat (go_big_quiet_step ((first
                  | (intro hC; with_reducible rfl)
                  | (intro hC; rw [l0 _ hC]; exact ⟨rfl, rfl⟩)
                  | (intro hC; rw [l1 _ hC]; exact ⟨rfl, rfl⟩)
                  | (intro hC; rw [l2 _ hC]; exact ⟨rfl, rfl⟩)
                  | (intro hC; rw [l3 _ hC]; exact ⟨rfl, rfl⟩)
                  | (intro hC; rw [l4 _ hC]; exact ⟨rfl, rfl⟩)
                  | (intro hC; rw [l5 _ hC]; exact ⟨rfl, rfl⟩)
                  | (intro hC; go_at_call 65; refine (CD.out _).mono ?_; rintro e w'' ⟨rfl, hb⟩; exact ⟨rfl, hC.trans (hb.mono hC.size)⟩))))
                refine wpQuiet_nil ?_
                intro wd hwd
                go_wp2_with fail
                go_ret
                exact ⟨ret_int_d HR7.out.symm, hB.trans (hwd.mono hB.size)⟩
              · have j5 : ¬ (59 : Int) < (se : Int) := by omega
                have HR7 : Hid (R = 0) := Lib.hid (by rw [HE.out, if_neg q1, if_neg q2, if_neg q3, if_neg q4, if_neg q5])
                refine region_quiet_lit (Below wr.heap.size wr) (by kernel_rfl) (by kernel_rfl) (below_drewN_d (Below.refl _ _) 1) ?_
                repeat (go_big_quiet_step ((first
                  | (intro hC; with_reducible rfl)
                  | (intro hC; rw [l0 _ hC]; exact ⟨rfl, rfl⟩)
                  | (intro hC; rw [l1 _ hC]; exact ⟨rfl, rfl⟩)
                  | (intro hC; rw [l2 _ hC]; exact ⟨rfl, rfl⟩)
                  | (intro hC; rw [l3 _ hC]; exact ⟨rfl, rfl⟩)
                  | (intro hC; rw [l4 _ hC]; exact ⟨rfl, rfl⟩)
                  | (intro hC; rw [l5 _ hC]; exact ⟨rfl, rfl⟩)
                  | (intro hC; go_at_call 65; refine (CD.out _).mono ?_; rintro e w'' ⟨rfl, hb⟩; exact ⟨rfl, hC.trans (hb.mono hC.size)⟩))))
                refine wpQuiet_nil ?_
                intro wd hwd
                go_wp2_with fail
                go_ret
                exact ⟨ret_int_d HR7.out.symm, hB.trans (hwd.mono hB.size)⟩

set_option maxHeartbeats 400000 in
theorem refDate_not (s : ByteArray) (w : World) (hs : s.size ≤ 1000) (h : ¬ (s.size = 14 ∧ isD s = true)) :
    Calls Tryz.prog 37 #[.string s] w fun e w' => e = .returned (.int .i64 (dateN s)) ∧ w = w' := by
  rw [dateN_not h]
  by_cases h14 : s.size = 14
  · have hd : isD s = false := by cases hb : isD s with
      | false => rfl
      | true => exact absurd ⟨h14, hb⟩ h
    have h14i : (s.size : Int) = 14 := by omega
    clear h
    go_enter Tryz.func37, Tryz.ntmps37
    go_wp2_with (go_at_call 33; refine (refIs_any _ _ (by omega)).mono ?_; rintro e w' ⟨rfl, rfl⟩; rw [hd])
    go_ret
    exact ⟨rfl, rfl⟩
  · have hb : ((s.size : Int) == 14) = false := by simp; omega
    have hb2 : ((s.size : Int) != 14) = true := by simp; omega
    clear h h14
    go_enter Tryz.func37, Tryz.ntmps37
    go_wp2
    go_ret
    exact ⟨rfl, rfl⟩

theorem refDate_any (s : ByteArray) (w : World) (hs : s.size ≤ 1000) :
    Calls Tryz.prog 37 #[.string s] w fun e w' => e = .returned (.int .i64 (dateN s)) ∧ Below w.heap.size w w' := by
  by_cases h : s.size = 14 ∧ isD s = true
  · exact refDate_is s w h.1 h.2
  · exact (refDate_not s w hs h).mono fun e w' hh => ⟨hh.1, hh.2 ▸ Below.refl _ _⟩
end Go.Proofs.YtcecibopanfmgaaGreatDoor

namespace Go.Proofs.YtcecibopanfmgaaGreatDoor
open Go.RowKit
set_option linter.unusedVariables false

/-- A byte as a number. -/
def bI (l : List UInt8) (k : Nat) : Int := ((l.getD k 0).toNat : Int)
/-- The number that a writing of k bytes is. -/
def oneN (l : List UInt8) (k : Nat) : Int :=
  if k = 1 then bI l 0
  else if k = 2 then (bI l 0 - 192) * 64 + bI l 1 - 128
  else if k = 3 then (bI l 0 - 224) * 4096 + (bI l 1 - 128) * 64 + bI l 2 - 128
  else (bI l 0 - 240) * 262144 + (bI l 1 - 128) * 4096 + (bI l 2 - 128) * 64 + bI l 3 - 128

theorem one_hit {l : List UInt8} {c k : Nat} (h : dec l = some (c, k)) : oneN l k = c := by
  obtain ⟨hv, rfl, e⟩ := dec_some h
  have hc := (valid_iff c).1 hv
  generalize hr : l.drop (encLen c) = r at e
  rw [e]
  clear e h hr
  unfold encLen enc oneN bI
  by_cases h1 : c < 128
  · simp only [if_pos h1, List.cons_append, List.getD_cons_zero, if_true]
    rw [tn c (by omega)]
  · by_cases h2 : c < 2048
    · simp only [if_neg h1, if_pos h2, List.cons_append, List.getD_cons_zero, List.getD_cons_succ, if_true]
      rw [tn (192 + c / 64) (by omega), tn (128 + c % 64) (by omega)]
      rw [if_neg (by omega)]
      omega
    · by_cases h3 : c < 65536
      · simp only [if_neg h1, if_neg h2, if_pos h3, List.cons_append, List.getD_cons_zero, List.getD_cons_succ, if_true]
        rw [tn (224 + c / 4096) (by omega), tn (128 + c / 64 % 64) (by omega), tn (128 + c % 64) (by omega)]
        rw [if_neg (by omega), if_neg (by omega)]
        omega
      · simp only [if_neg h1, if_neg h2, if_neg h3, List.cons_append, List.getD_cons_zero, List.getD_cons_succ]
        rw [tn (240 + c / 262144) (by omega), tn (128 + c / 4096 % 64) (by omega), tn (128 + c / 64 % 64) (by omega), tn (128 + c % 64) (by omega)]
        rw [if_neg (by omega), if_neg (by omega), if_neg (by omega)]
        omega

theorem one_miss {t : ByteArray} {k : Nat} (h : putB (oneN t.data.toList k) = t.extract 0 k) (hk : 1 ≤ k) (hl : k ≤ t.size) : ∃ c, dec t.data.toList = some (c, k) := by
  have hs : (t.extract 0 k).data.toList = t.data.toList.take k := by rw [ByteArray.data_extract, Array.toList_extract, List.extract_eq_take_drop, List.drop_zero, Nat.sub_zero]
  cases hv : Utf8.valid (oneN t.data.toList k) with
  | false =>
    rw [putB_not hv] at h
    have h2 := congrArg (fun b : ByteArray => b.data.toList.length) h
    have h3 : t.data.toList.length = t.size := by simp
    have h4 : (ByteArray.mk #[]).data.toList.length = 0 := rfl
    have h5 : 0 = (t.extract 0 k).data.toList.length := by rw [← h4]; exact h2
    rw [hs, List.length_take, h3, Nat.min_eq_left hl] at h5
    omega
  | true =>
    obtain ⟨c, hc⟩ : ∃ c : Nat, oneN t.data.toList k = c := ⟨(oneN t.data.toList k).toNat, by have := (valid_iff _).1 hv; omega⟩
    rw [hc] at h hv
    rw [putB_nat hv] at h
    have h2 := congrArg (fun b : ByteArray => b.data.toList) h
    simp only [hs] at h2
    have h3 : enc c = t.data.toList.take k := h2
    have h4 : (enc c).length = k := by rw [h3, List.length_take]; have : t.data.toList.length = t.size := by simp
                                       omega
    rw [enc_length] at h4
    refine ⟨c, ?_⟩
    have h5 := dec_enc_u c (t.data.toList.drop k) hv
    rw [h3, List.take_append_drop, h4] at h5
    exact h5

/-- What One answers. -/
def oneI (t : ByteArray) : Int := match dec t.data.toList with
  | some (c, _) => (c : Int)
  | none => -1
theorem oneI_some {t : ByteArray} {c k : Nat} (h : dec t.data.toList = some (c, k)) : oneI t = c := by unfold oneI; rw [h]
theorem oneI_none {t : ByteArray} (h : dec t.data.toList = none) : oneI t = -1 := by unfold oneI; rw [h]

theorem bI_bd (l : List UInt8) (k : Nat) : 0 ≤ bI l k ∧ bI l k < 256 := by
  unfold bI
  have := (l.getD k 0).toNat_lt
  omega

theorem bI_at (t : ByteArray) (k : Nat) (h : k < t.size) : ((t[k]'h).toNat : Int) = bI t.data.toList k := by
  unfold bI
  rw [List.getD_eq_getElem?_getD, List.getElem?_eq_getElem (by simpa using h)]
  rfl

set_option maxRecDepth 100000 in
set_option maxHeartbeats 2000000 in
theorem refOne_any (t : ByteArray) (w : World) (ht : t.size ≤ 140737488355328) :
    Calls Tryz.prog 61 #[.string t] w fun e w' => e = .returned (.int .i64 (oneI t)) ∧ Below w.heap.size w w' := by
  go_enter Tryz.func61, Tryz.ntmps61
  go_wp2
  go_loopw [3] (fun i wr => ∃ k : Nat, 1 ≤ k ∧ k ≤ 5 ∧ i = .int .i64 k ∧ Hid (∀ c j, dec t.data.toList = some (c, j) → k ≤ j) ∧ Below w.heap.size w wr) (fun i _ => 5 - (intOf i).toNat)
  case atStart => exact ⟨1, by omega, by omega, rfl, Lib.hid fun c j h => (dec_len h).1, Below.refl _ _⟩
  case round =>
    obtain ⟨k, hk1, hk5, rfl, HN, hB⟩ := hrel
    by_cases hk : k ≤ 4 ∧ k ≤ t.size
    · obtain ⟨hk4, hkt⟩ := hk
      obtain ⟨n, hn⟩ : ∃ n, oneN t.data.toList k = n := ⟨_, rfl⟩
      have hb0 := bI_bd t.data.toList 0
      have hb1 := bI_bd t.data.toList 1
      have hb2 := bI_bd t.data.toList 2
      have hb3 := bI_bd t.data.toList 3
      rcases (by omega : k = 1 ∨ k = 2 ∨ k = 3 ∨ k = 4) with rfl | rfl | rfl | rfl
      · have e0 := bI_at t 0 (by omega)
        obtain ⟨b0, hbb0⟩ : ∃ b, bI t.data.toList 0 = b := ⟨_, rfl⟩
        rw [hbb0] at e0 hb0
        have hnv : b0 = n := by rw [← hn]; unfold oneN; simp only [hbb0]; rfl
        have HO : Hid (oneN t.data.toList _ = n) := Lib.hid hn
        clear hn
        clear hbb0
        go_wp2_with fail
        have HPut : Hid (∀ W : World, Calls Tryz.prog 62 #[.int .i64 n] W fun e w' => e = .returned (.string (putB n)) ∧ Below W.heap.size W w') := Lib.hid fun W => refPut_any_u n W
        cases hd : decide (putB n = t.extract 0 1) with
        | true =>
          have hx : ((putB n).toList == (t.extract 0 1).toList) = true := by rw [str_eqB]; exact hd
          have HC : Hid (n = oneI t) := Lib.hid (by
            obtain ⟨c, hc⟩ := one_miss (k := 1) (by rw [HO.out]; exact of_decide_eq_true hd) (by omega) (by omega)
            rw [oneI_some hc, ← one_hit hc, HO.out])
          obtain ⟨s, HS⟩ : ∃ s, Hid (putB n = s) := ⟨_, Lib.hid rfl⟩
          rw [HS.out] at hx HPut
          clear hd
          go_region_held3 (fun _ => True) (trivial) (first | (go_at_call 62; refine (HPut.out _).mono ?_; rintro e w2 ⟨rfl, hb2⟩))
          go_wp2_with fail
          go_ret
          exact ⟨ret_int_u HC.out, hB.trans (Below.mono (by exact ⟨hb2.os, hb2.tape, hb2.output, hb2.size, hb2.block⟩) hB.size)⟩
        | false =>
          have hx : ((putB n).toList == (t.extract 0 1).toList) = false := by rw [str_eqB]; exact hd
          have HN2 : Hid (∀ c j, dec t.data.toList = some (c, j) → 1 + 1 ≤ j) := Lib.hid (fun c j h => by
            have h1 := HN.out c j h
            rcases (by omega : j = 1 ∨ 1 + 1 ≤ j) with rfl | h2
            · exfalso
              have h3 := of_decide_eq_false hd
              obtain ⟨hv, hk, he⟩ := dec_some h
              have h4 := one_hit h
              rw [HO.out] at h4
              rw [h4, putB_nat hv] at h3
              apply h3
              rw [ByteArray.ext_iff, ← Array.toList_inj, ByteArray.data_extract, Array.toList_extract, List.extract_eq_take_drop, List.drop_zero, Nat.sub_zero, he, hk, List.take_append_of_le_length (by rw [enc_length]; exact Nat.le_refl _), List.take_of_length_le (by rw [enc_length]; exact Nat.le_refl _)]
            · exact h2)
          obtain ⟨s, HS⟩ : ∃ s, Hid (putB n = s) := ⟨_, Lib.hid rfl⟩
          rw [HS.out] at hx HPut
          clear hd
          go_region_held3 (fun _ => True) (trivial) (first | (go_at_call 62; refine (HPut.out _).mono ?_; rintro e w2 ⟨rfl, hb2⟩))
          go_wp2_with fail
          go_roundw
          case rel => exact ⟨1 + 1, by omega, by omega, by go_num, HN2, hB.trans (Below.mono (by exact ⟨hb2.os, hb2.tape, hb2.output, hb2.size, hb2.block⟩) hB.size)⟩
          case measure => simp [intOf]
      · have e0 := bI_at t 0 (by omega)
        have e1 := bI_at t 1 (by omega)
        obtain ⟨b0, hbb0⟩ : ∃ b, bI t.data.toList 0 = b := ⟨_, rfl⟩
        rw [hbb0] at e0 hb0
        obtain ⟨b1, hbb1⟩ : ∃ b, bI t.data.toList 1 = b := ⟨_, rfl⟩
        rw [hbb1] at e1 hb1
        have hnv : (b0 - 192) * 64 + b1 - 128 = n := by rw [← hn]; unfold oneN; simp only [hbb0, hbb1]; rfl
        have q0 : IntKind.i64.wrap ((b0 - 192)) = (b0 - 192) := IntWalk.i64_in _ (by omega)
        have q1 : IntKind.i64.wrap ((b0 - 192) * 64) = (b0 - 192) * 64 := IntWalk.i64_in _ (by omega)
        have q2 : IntKind.i64.wrap ((b0 - 192) * 64 + b1) = (b0 - 192) * 64 + b1 := IntWalk.i64_in _ (by omega)
        have q3 : IntKind.i64.wrap ((b0 - 192) * 64 + b1 - 128) = (b0 - 192) * 64 + b1 - 128 := IntWalk.i64_in _ (by omega)
        have HO : Hid (oneN t.data.toList _ = n) := Lib.hid hn
        clear hn
        clear hbb0
        clear hbb1
        have hx0 : (0 : Int) < (t.size : Int) := by omega
        have hx1 : (1 : Int) < (t.size : Int) := by omega
        go_wp2_with fail
        go_quiet (fail)
        go_wp2_with fail
        have HPut : Hid (∀ W : World, Calls Tryz.prog 62 #[.int .i64 n] W fun e w' => e = .returned (.string (putB n)) ∧ Below W.heap.size W w') := Lib.hid fun W => refPut_any_u n W
        cases hd : decide (putB n = t.extract 0 2) with
        | true =>
          have hx : ((putB n).toList == (t.extract 0 2).toList) = true := by rw [str_eqB]; exact hd
          have HC : Hid (n = oneI t) := Lib.hid (by
            obtain ⟨c, hc⟩ := one_miss (k := 2) (by rw [HO.out]; exact of_decide_eq_true hd) (by omega) (by omega)
            rw [oneI_some hc, ← one_hit hc, HO.out])
          obtain ⟨s, HS⟩ : ∃ s, Hid (putB n = s) := ⟨_, Lib.hid rfl⟩
          rw [HS.out] at hx HPut
          clear hd
          go_region_held3 (fun _ => True) (trivial) (first | (go_at_call 62; refine (HPut.out _).mono ?_; rintro e w2 ⟨rfl, hb2⟩))
          go_wp2_with fail
          go_ret
          exact ⟨ret_int_u HC.out, hB.trans (Below.mono (by exact ⟨hb2.os, hb2.tape, hb2.output, hb2.size, hb2.block⟩) hB.size)⟩
        | false =>
          have hx : ((putB n).toList == (t.extract 0 2).toList) = false := by rw [str_eqB]; exact hd
          have HN2 : Hid (∀ c j, dec t.data.toList = some (c, j) → 2 + 1 ≤ j) := Lib.hid (fun c j h => by
            have h1 := HN.out c j h
            rcases (by omega : j = 2 ∨ 2 + 1 ≤ j) with rfl | h2
            · exfalso
              have h3 := of_decide_eq_false hd
              obtain ⟨hv, hk, he⟩ := dec_some h
              have h4 := one_hit h
              rw [HO.out] at h4
              rw [h4, putB_nat hv] at h3
              apply h3
              rw [ByteArray.ext_iff, ← Array.toList_inj, ByteArray.data_extract, Array.toList_extract, List.extract_eq_take_drop, List.drop_zero, Nat.sub_zero, he, hk, List.take_append_of_le_length (by rw [enc_length]; exact Nat.le_refl _), List.take_of_length_le (by rw [enc_length]; exact Nat.le_refl _)]
            · exact h2)
          obtain ⟨s, HS⟩ : ∃ s, Hid (putB n = s) := ⟨_, Lib.hid rfl⟩
          rw [HS.out] at hx HPut
          clear hd
          go_region_held3 (fun _ => True) (trivial) (first | (go_at_call 62; refine (HPut.out _).mono ?_; rintro e w2 ⟨rfl, hb2⟩))
          go_wp2_with fail
          go_roundw
          case rel => exact ⟨2 + 1, by omega, by omega, by go_num, HN2, hB.trans (Below.mono (by exact ⟨hb2.os, hb2.tape, hb2.output, hb2.size, hb2.block⟩) hB.size)⟩
          case measure => simp [intOf]
      · have e0 := bI_at t 0 (by omega)
        have e1 := bI_at t 1 (by omega)
        have e2 := bI_at t 2 (by omega)
        obtain ⟨b0, hbb0⟩ : ∃ b, bI t.data.toList 0 = b := ⟨_, rfl⟩
        rw [hbb0] at e0 hb0
        obtain ⟨b1, hbb1⟩ : ∃ b, bI t.data.toList 1 = b := ⟨_, rfl⟩
        rw [hbb1] at e1 hb1
        obtain ⟨b2, hbb2⟩ : ∃ b, bI t.data.toList 2 = b := ⟨_, rfl⟩
        rw [hbb2] at e2 hb2
        have hnv : (b0 - 224) * 4096 + (b1 - 128) * 64 + b2 - 128 = n := by rw [← hn]; unfold oneN; simp only [hbb0, hbb1, hbb2]; rfl
        have q0 : IntKind.i64.wrap (b0 - 224) = b0 - 224 := IntWalk.i64_in _ (by omega)
        have q1 : IntKind.i64.wrap ((b0 - 224) * 4096) = (b0 - 224) * 4096 := IntWalk.i64_in _ (by omega)
        have q2 : IntKind.i64.wrap (b1 - 128) = b1 - 128 := IntWalk.i64_in _ (by omega)
        have q3 : IntKind.i64.wrap ((b1 - 128) * 64) = (b1 - 128) * 64 := IntWalk.i64_in _ (by omega)
        have q4 : IntKind.i64.wrap ((b0 - 224) * 4096 + (b1 - 128) * 64) = (b0 - 224) * 4096 + (b1 - 128) * 64 := IntWalk.i64_in _ (by omega)
        have q5 : IntKind.i64.wrap ((b0 - 224) * 4096 + (b1 - 128) * 64 + b2) = (b0 - 224) * 4096 + (b1 - 128) * 64 + b2 := IntWalk.i64_in _ (by omega)
        have q6 : IntKind.i64.wrap ((b0 - 224) * 4096 + (b1 - 128) * 64 + b2 - 128) = (b0 - 224) * 4096 + (b1 - 128) * 64 + b2 - 128 := IntWalk.i64_in _ (by omega)
        have HO : Hid (oneN t.data.toList _ = n) := Lib.hid hn
        clear hn
        clear hbb0
        clear hbb1
        clear hbb2
        have hx0 : (0 : Int) < (t.size : Int) := by omega
        have hx1 : (1 : Int) < (t.size : Int) := by omega
        have hx2 : (2 : Int) < (t.size : Int) := by omega
        go_wp2_with fail
        go_quiet (fail)
        go_wp2_with fail
        have HPut : Hid (∀ W : World, Calls Tryz.prog 62 #[.int .i64 n] W fun e w' => e = .returned (.string (putB n)) ∧ Below W.heap.size W w') := Lib.hid fun W => refPut_any_u n W
        cases hd : decide (putB n = t.extract 0 3) with
        | true =>
          have hx : ((putB n).toList == (t.extract 0 3).toList) = true := by rw [str_eqB]; exact hd
          have HC : Hid (n = oneI t) := Lib.hid (by
            obtain ⟨c, hc⟩ := one_miss (k := 3) (by rw [HO.out]; exact of_decide_eq_true hd) (by omega) (by omega)
            rw [oneI_some hc, ← one_hit hc, HO.out])
          obtain ⟨s, HS⟩ : ∃ s, Hid (putB n = s) := ⟨_, Lib.hid rfl⟩
          rw [HS.out] at hx HPut
          clear hd
          go_region_held3 (fun _ => True) (trivial) (first | (go_at_call 62; refine (HPut.out _).mono ?_; rintro e w2 ⟨rfl, hb2⟩))
          go_wp2_with fail
          go_ret
          exact ⟨ret_int_u HC.out, hB.trans (Below.mono (by exact ⟨hb2.os, hb2.tape, hb2.output, hb2.size, hb2.block⟩) hB.size)⟩
        | false =>
          have hx : ((putB n).toList == (t.extract 0 3).toList) = false := by rw [str_eqB]; exact hd
          have HN2 : Hid (∀ c j, dec t.data.toList = some (c, j) → 3 + 1 ≤ j) := Lib.hid (fun c j h => by
            have h1 := HN.out c j h
            rcases (by omega : j = 3 ∨ 3 + 1 ≤ j) with rfl | h2
            · exfalso
              have h3 := of_decide_eq_false hd
              obtain ⟨hv, hk, he⟩ := dec_some h
              have h4 := one_hit h
              rw [HO.out] at h4
              rw [h4, putB_nat hv] at h3
              apply h3
              rw [ByteArray.ext_iff, ← Array.toList_inj, ByteArray.data_extract, Array.toList_extract, List.extract_eq_take_drop, List.drop_zero, Nat.sub_zero, he, hk, List.take_append_of_le_length (by rw [enc_length]; exact Nat.le_refl _), List.take_of_length_le (by rw [enc_length]; exact Nat.le_refl _)]
            · exact h2)
          obtain ⟨s, HS⟩ : ∃ s, Hid (putB n = s) := ⟨_, Lib.hid rfl⟩
          rw [HS.out] at hx HPut
          clear hd
          go_region_held3 (fun _ => True) (trivial) (first | (go_at_call 62; refine (HPut.out _).mono ?_; rintro e w2 ⟨rfl, hb2⟩))
          go_wp2_with fail
          go_roundw
          case rel => exact ⟨3 + 1, by omega, by omega, by go_num, HN2, hB.trans (Below.mono (by exact ⟨hb2.os, hb2.tape, hb2.output, hb2.size, hb2.block⟩) hB.size)⟩
          case measure => simp [intOf]
      · have e0 := bI_at t 0 (by omega)
        have e1 := bI_at t 1 (by omega)
        have e2 := bI_at t 2 (by omega)
        have e3 := bI_at t 3 (by omega)
        obtain ⟨b0, hbb0⟩ : ∃ b, bI t.data.toList 0 = b := ⟨_, rfl⟩
        rw [hbb0] at e0 hb0
        obtain ⟨b1, hbb1⟩ : ∃ b, bI t.data.toList 1 = b := ⟨_, rfl⟩
        rw [hbb1] at e1 hb1
        obtain ⟨b2, hbb2⟩ : ∃ b, bI t.data.toList 2 = b := ⟨_, rfl⟩
        rw [hbb2] at e2 hb2
        obtain ⟨b3, hbb3⟩ : ∃ b, bI t.data.toList 3 = b := ⟨_, rfl⟩
        rw [hbb3] at e3 hb3
        have hnv : (b0 - 240) * 262144 + (b1 - 128) * 4096 + (b2 - 128) * 64 + b3 - 128 = n := by rw [← hn]; unfold oneN; simp only [hbb0, hbb1, hbb2, hbb3]; rfl
        have q0 : IntKind.i64.wrap (b0 - 240) = b0 - 240 := IntWalk.i64_in _ (by omega)
        have q1 : IntKind.i64.wrap ((b0 - 240) * 262144) = (b0 - 240) * 262144 := IntWalk.i64_in _ (by omega)
        have q2 : IntKind.i64.wrap (b1 - 128) = b1 - 128 := IntWalk.i64_in _ (by omega)
        have q3 : IntKind.i64.wrap ((b1 - 128) * 4096) = (b1 - 128) * 4096 := IntWalk.i64_in _ (by omega)
        have q4 : IntKind.i64.wrap ((b0 - 240) * 262144 + (b1 - 128) * 4096) = (b0 - 240) * 262144 + (b1 - 128) * 4096 := IntWalk.i64_in _ (by omega)
        have q5 : IntKind.i64.wrap (b2 - 128) = b2 - 128 := IntWalk.i64_in _ (by omega)
        have q6 : IntKind.i64.wrap ((b2 - 128) * 64) = (b2 - 128) * 64 := IntWalk.i64_in _ (by omega)
        have q7 : IntKind.i64.wrap ((b0 - 240) * 262144 + (b1 - 128) * 4096 + (b2 - 128) * 64) = (b0 - 240) * 262144 + (b1 - 128) * 4096 + (b2 - 128) * 64 := IntWalk.i64_in _ (by omega)
        have q8 : IntKind.i64.wrap ((b0 - 240) * 262144 + (b1 - 128) * 4096 + (b2 - 128) * 64 + b3) = (b0 - 240) * 262144 + (b1 - 128) * 4096 + (b2 - 128) * 64 + b3 := IntWalk.i64_in _ (by omega)
        have q9 : IntKind.i64.wrap ((b0 - 240) * 262144 + (b1 - 128) * 4096 + (b2 - 128) * 64 + b3 - 128) = (b0 - 240) * 262144 + (b1 - 128) * 4096 + (b2 - 128) * 64 + b3 - 128 := IntWalk.i64_in _ (by omega)
        have HO : Hid (oneN t.data.toList _ = n) := Lib.hid hn
        clear hn
        clear hbb0
        clear hbb1
        clear hbb2
        clear hbb3
        have hx0 : (0 : Int) < (t.size : Int) := by omega
        have hx1 : (1 : Int) < (t.size : Int) := by omega
        have hx2 : (2 : Int) < (t.size : Int) := by omega
        have hx3 : (3 : Int) < (t.size : Int) := by omega
        go_wp2_with fail
        go_quiet (fail)
        go_wp2_with fail
        have HPut : Hid (∀ W : World, Calls Tryz.prog 62 #[.int .i64 n] W fun e w' => e = .returned (.string (putB n)) ∧ Below W.heap.size W w') := Lib.hid fun W => refPut_any_u n W
        cases hd : decide (putB n = t.extract 0 4) with
        | true =>
          have hx : ((putB n).toList == (t.extract 0 4).toList) = true := by rw [str_eqB]; exact hd
          have HC : Hid (n = oneI t) := Lib.hid (by
            obtain ⟨c, hc⟩ := one_miss (k := 4) (by rw [HO.out]; exact of_decide_eq_true hd) (by omega) (by omega)
            rw [oneI_some hc, ← one_hit hc, HO.out])
          obtain ⟨s, HS⟩ : ∃ s, Hid (putB n = s) := ⟨_, Lib.hid rfl⟩
          rw [HS.out] at hx HPut
          clear hd
          go_region_held3 (fun _ => True) (trivial) (first | (go_at_call 62; refine (HPut.out _).mono ?_; rintro e w2 ⟨rfl, hb2⟩))
          go_wp2_with fail
          go_ret
          exact ⟨ret_int_u HC.out, hB.trans (Below.mono (by exact ⟨hb2.os, hb2.tape, hb2.output, hb2.size, hb2.block⟩) hB.size)⟩
        | false =>
          have hx : ((putB n).toList == (t.extract 0 4).toList) = false := by rw [str_eqB]; exact hd
          have HN2 : Hid (∀ c j, dec t.data.toList = some (c, j) → 4 + 1 ≤ j) := Lib.hid (fun c j h => by
            have h1 := HN.out c j h
            rcases (by omega : j = 4 ∨ 4 + 1 ≤ j) with rfl | h2
            · exfalso
              have h3 := of_decide_eq_false hd
              obtain ⟨hv, hk, he⟩ := dec_some h
              have h4 := one_hit h
              rw [HO.out] at h4
              rw [h4, putB_nat hv] at h3
              apply h3
              rw [ByteArray.ext_iff, ← Array.toList_inj, ByteArray.data_extract, Array.toList_extract, List.extract_eq_take_drop, List.drop_zero, Nat.sub_zero, he, hk, List.take_append_of_le_length (by rw [enc_length]; exact Nat.le_refl _), List.take_of_length_le (by rw [enc_length]; exact Nat.le_refl _)]
            · exact h2)
          obtain ⟨s, HS⟩ : ∃ s, Hid (putB n = s) := ⟨_, Lib.hid rfl⟩
          rw [HS.out] at hx HPut
          clear hd
          go_region_held3 (fun _ => True) (trivial) (first | (go_at_call 62; refine (HPut.out _).mono ?_; rintro e w2 ⟨rfl, hb2⟩))
          go_wp2_with fail
          go_roundw
          case rel => exact ⟨4 + 1, by omega, by omega, by go_num, HN2, hB.trans (Below.mono (by exact ⟨hb2.os, hb2.tape, hb2.output, hb2.size, hb2.block⟩) hB.size)⟩
          case measure => simp [intOf]
    · have HE : Hid (-1 = oneI t) := Lib.hid (by
        cases hd : dec t.data.toList with
        | none => rw [oneI_none hd]
        | some x =>
          obtain ⟨c, j⟩ := x
          have h1 := HN.out c j hd
          have h2 := dec_len hd
          have h3 : t.data.toList.length = t.size := by simp
          omega)
      by_cases h5 : k = 5
      · subst h5
        clear hk
        go_wp2_with fail
        go_ret
        exact ⟨ret_int_u HE.out, hB⟩
      · have h4 : (k : Int) ≤ 4 := by omega
        have h6 : (t.size : Int) < (k : Int) := by omega
        clear hk h5
        go_wp2_with fail
        go_ret
        exact ⟨ret_int_u HE.out, hB⟩
end Go.Proofs.YtcecibopanfmgaaGreatDoor

namespace Go.Proofs.YtcecibopanfmgaaGreatDoor
open Go.RowKit
set_option linter.unusedVariables false

theorem int_info_u : (Tryz.prog.info? 3).map (fun i => (i.zero, i.size, i.bytes)) = some (some (.int .i64 0), 1, 8) := by kernel_rfl

theorem below_grown_u {w w' : World} (h : Below w.heap.size w w') : w.grownBy w' none := ⟨h.os, h.tape, h.output, h.size, fun k hk _ => h.block k hk⟩

/-- Two rows of one's own, in blocks apart. -/
def Two (B : Nat) (v1 v2 : Value) (rs : List (Nat × Nat)) (w : World) : Prop :=
  w.ownsRow B 3 1 v1 rs.length (rs.map fun x => .int .i64 (x.1 : Nat)) ∧ w.ownsRow B 3 1 v2 rs.length (rs.map fun x => .int .i64 (x.2 : Nat)) ∧ ∀ g, v1.ownBlock = some g → v2.ownBlock ≠ some g

theorem Two.below {B : Nat} {v1 v2 : Value} {rs : List (Nat × Nat)} {w w' : World} (h : Two B v1 v2 rs w) (hb : Below w.heap.size w w') : Two B v1 v2 rs w' :=
  ⟨h.1.kept (below_grown_u hb) (by cases v1.ownBlock <;> simp), h.2.1.kept (below_grown_u hb) (by cases v2.ownBlock <;> simp), h.2.2⟩

theorem whole_of {s : ByteArray} (pre : List (Nat × Nat)) (pos : Nat) (h : runesB s = pre ++ runesAt s.data.toList pos) (he : endOf 0 pre = pos) (hn : dec (s.data.toList.drop pos) = none) (hp : pos ≤ s.size) :
    runesB s = pre ∧ goodEnd s = pos := by
  rw [runesAt_none hn, List.append_nil] at h
  exact ⟨h, by unfold goodEnd; rw [h, he]⟩

/-- The other row is kept as the one grows. -/
theorem two_keep {B : Nat} {v1 v2 : Value} {rs : List (Nat × Nat)} {w w1 : World} {o : Obj} (h : Two B v1 v2 rs w) (hg : (w.alloc o).grownBy w1 v1.ownBlock) :
    w1.ownsRow B 3 1 v2 rs.length (rs.map fun x => .int .i64 (x.2 : Nat)) ∧ w.heap.size < w1.heap.size := by
  refine ⟨(h.2.1.alloc o).kept hg ?_, by have := hg.size; simp at this; omega⟩
  cases hb : v2.ownBlock with
  | none => exact .inl rfl
  | some g =>
    right
    intro e
    exact h.2.2 g e.symm hb

theorem two_step {B : Nat} {v1 v2 : Value} {rs : List (Nat × Nat)} {w2 w3 w4 : World} {o1 o2 : Obj} {g1 cap1 g2 cap2 pos c : Nat} {ci : Int} (h : Two B v1 v2 rs w2) (hB : B ≤ w2.heap.size)
    (s1 : w3.ownsRow B 3 1 (.slice (some ⟨g1, 0, none⟩) (rs.length + 1) cap1) (rs.length + 1) ((rs.map fun x => .int .i64 (x.1 : Nat)) ++ [.int .i64 (pos : Nat)]) ∧ (w2.alloc o1).grownBy w3 v1.ownBlock ∧ (v1.ownBlock = some g1 ∨ g1 = w2.heap.size + 1) ∧ g1 < w3.heap.size)
    (s2 : w4.ownsRow B 3 1 (.slice (some ⟨g2, 0, none⟩) (rs.length + 1) cap2) (rs.length + 1) ((rs.map fun x => .int .i64 (x.2 : Nat)) ++ [.int .i64 ci]) ∧ (w3.alloc o2).grownBy w4 v2.ownBlock ∧ (v2.ownBlock = some g2 ∨ g2 = w3.heap.size + 1) ∧ g2 < w4.heap.size)
    (hci : (c : Int) = ci) :
    Two B (.slice (some ⟨g1, 0, none⟩) (rs.length + 1) cap1) (.slice (some ⟨g2, 0, none⟩) (rs.length + 1) cap2) (rs ++ [(pos, c)]) w4 ∧ Below B w2 w4 := by
  obtain ⟨a1, a2, a3, a4⟩ := s1
  obtain ⟨b1, b2, b3, b4⟩ := s2
  have hne : v2.ownBlock ≠ some g1 := by
    rcases a3 with e | e
    · exact h.2.2 g1 e
    · intro e2
      have := (h.2.1.lt g1 e2).2
      omega
  have hz : w2.heap.size < w3.heap.size := by have := a2.size; simp at this; omega
  refine ⟨⟨?_, ?_, ?_⟩, ?_⟩
  · have k := (a1.alloc o2).kept b2 (.inr (by show (some g1 : Option Nat) ≠ _; exact fun e => hne e.symm))
    simpa using k
  · subst hci
    simpa using b1
  · intro g e e2
    have e' : g1 = g := by simpa [Value.ownBlock] using e
    have e2' : g2 = g := by simpa [Value.ownBlock] using e2
    subst e'
    rcases b3 with e3 | e3
    · exact hne (by rw [e3, e2'])
    · omega
  · have k1 : Below B w2 w3 := ((Below.refl B w2).alloc hB o1).grown a2 (by simp; omega) (fun k e => (h.1.lt k e).1)
    exact (k1.alloc (by omega) o2).grown b2 (by simp; omega) (fun k e => (h.2.1.lt k e).1)

def refRunesPost (s : ByteArray) (w : World) (e : Ending) (w' : World) : Prop := ∃ v1 v2, e = .returned (.tuple #[v1, v2, .int .i64 (badB s)]) ∧ Two w.heap.size v1 v2 (runesB s) w' ∧ Below w.heap.size w w'

set_option maxRecDepth 100000 in
set_option maxHeartbeats 4000000 in
theorem refRunes_any (s : ByteArray) (w : World) (hs : s.size ≤ 100000) :
    Calls Tryz.prog 34 #[.string s] w (refRunesPost s w) := by
  obtain ⟨i0, hi, hz0, hz1, hz2⟩ := info_parts int_info_u
  go_enter Tryz.func34, Tryz.ntmps34
  go_wp2
  go_loopw [5, 6, 7] (fun v1 v2 p wr => ∃ (pre : List (Nat × Nat)) (pos : Nat), p = .int .i64 pos ∧ runesB s = pre ++ runesAt s.data.toList pos ∧ endOf 0 pre = pos ∧ pos ≤ s.size ∧ Two w.heap.size v1 v2 pre wr ∧ Below w.heap.size w wr) (fun _ _ p _ => s.size - (intOf p).toNat)
  case atStart => exact ⟨[], 0, rfl, rfl, rfl, Nat.zero_le _, ⟨World.ownsRow_nil _ _ _ _, World.ownsRow_nil _ _ _ _, fun g h => by cases h⟩, Below.refl _ _⟩
  case round =>
    obtain ⟨pre, pos, rfl, hx, he, hp, hT, hB⟩ := hrel
    have HX := Lib.hid (And.intro hx he)
    clear hx he
    by_cases hlt : pos < s.size
    · have htl : (s.extract pos s.size).size ≤ 140737488355328 := by rw [ByteArray.size_extract]; omega
      cases hd : dec (s.data.toList.drop pos) with
      | none =>
        have HO : Hid (oneI (s.extract pos s.size) = -1) := Lib.hid (oneI_none (by rw [drop_list]; exact hd))
        have hw := whole_of pre pos HX.out.1 HX.out.2 hd hp
        have hbad : Hid (badB s = pos ∧ runesB s = pre) := Lib.hid ⟨by unfold badB whole; rw [hw.2, decide_eq_false (by omega)]; rfl, hw.1⟩
        have HT := Lib.hid hT
        clear hd hw hT
        go_wp2_with (go_at_call 61; refine (refOne_any _ _ htl).mono ?_; rintro e w2 ⟨rfl, hb2⟩; rw [HO.out])
        go_ret3
        refine ⟨u5, u6, ?_, by rw [hbad.out.2]; exact HT.out.below hb2, hB.trans (hb2.mono hB.size)⟩
        rw [hbad.out.1]
        rfl
      | some x =>
        obtain ⟨c, k⟩ := x
        have hone : oneI (s.extract pos s.size) = c := oneI_some (by rw [drop_list]; exact hd)
        have hl := dec_len hd
        obtain ⟨hv, hk, _⟩ := dec_some hd
        rw [List.length_drop] at hl
        have hsl : s.data.toList.length = s.size := by simp
        have hxx : runesB s = (pre ++ [(pos, c)]) ++ runesAt s.data.toList (pos + k) := by rw [HX.out.1, runesAt_some hd]; simp
        have hee : endOf 0 (pre ++ [(pos, c)]) = pos + k := by rw [endOf_snoc, hk]
        have hpl : pre.length < 100000 := by
          have h1 := runesB_length s
          rw [hxx] at h1
          simp at h1
          omega
        have hps : (putB (c : Int)).size = k := by rw [putB_size hv, hk]
        have hc0 : (0 : Int) ≤ (c : Int) := by omega
        have hpk : (pos : Int) + (k : Int) ≤ 100000 := by omega
        obtain ⟨ci, hci⟩ : ∃ ci : Int, (c : Int) = ci := ⟨_, rfl⟩
        rw [hci] at hone hc0 hps
        have HCI := Lib.hid hci
        clear hci
        have HPL := Lib.hid hpl
        clear hpl
        have HO := Lib.hid hone
        have HN := Lib.hid (And.intro hxx (And.intro hee (by omega : pos + k ≤ s.size ∧ 1 ≤ k)))
        have HP := Lib.hid hps
        have HT := Lib.hid hT
        clear hone hd hk hl hxx hee hT hsl hps hv
        go_wp2_with (first
          | (go_at_call 61; refine (refOne_any _ _ htl).mono ?_; rintro e w2 ⟨rfl, hb2⟩; rw [HO.out]; have HT2 := Lib.hid (HT.out.below hb2); have hB2 := hB.trans (hb2.mono hB.size); have hz2' := hB2.size)
          | (at_builtin; refine wpList_append_lies _ rfl (.tmp 22) (.tmp 24) 56 rfl w.heap.size 3 i0 (.int .i64 0) 1 8 Tryz.underlying56 hi hz0 hz1 hz2 rfl (by decide) _ _ _ rfl (HT2.out.1.alloc _) ⟨w2.heap.size, 0, none⟩ 1 1 [.int .i64 (pos : Nat)] rfl rfl (World.news_of_block (cs := #[.int .i64 (pos : Nat)]) (t := 3) (fr := (0, 0)) (heap_alloc_new w2 _)) (by simp [Value.oneCell']) (by omega) (by have := HPL.out; unfold maxLen; omega) (by have := HPL.out; omega) (by simp; omega) (w2.heap.size + 1) (by simp) ?_; intro g1 cap1 w3 hown1 hg1 hat1 hlt1; have ST1 : Hid (_ ∧ _ ∧ _ ∧ _) := Lib.hid ⟨hown1, hg1, hat1, hlt1⟩; clear hown1 hg1 hat1 hlt1; have H2 : Hid (w3.ownsRow w.heap.size 3 1 u6 pre.length (pre.map fun x => .int .i64 (x.2 : Nat)) ∧ w2.heap.size < w3.heap.size) := Lib.hid (two_keep HT2.out ST1.out.2.1); have hz3 := H2.out.2)
          | (at_builtin; refine wpList_append_lies _ rfl (.tmp 26) (.tmp 28) 56 rfl w.heap.size 3 i0 (.int .i64 0) 1 8 Tryz.underlying56 hi hz0 hz1 hz2 rfl (by decide) _ _ _ rfl (H2.out.1.alloc _) ⟨w3.heap.size, 0, none⟩ 1 1 [.int .i64 ci] rfl rfl (World.news_of_block (cs := #[.int .i64 ci]) (t := 3) (fr := (0, 0)) (heap_alloc_new w3 _)) (by simp [Value.oneCell']) (by omega) (by have := HPL.out; unfold maxLen; omega) (by have := HPL.out; omega) (by simp; omega) (w3.heap.size + 1) (by simp) ?_; intro g2 cap2 w4 hown2 hg2 hat2 hlt2; have ST2 : Hid (_ ∧ _ ∧ _ ∧ _) := Lib.hid ⟨hown2, hg2, hat2, hlt2⟩; clear hown2 hg2 hat2 hlt2)
          | (go_at_call 62; refine (refPut_any_u _ _).mono ?_; rintro e w5 ⟨rfl, hb5⟩; have hps := HP.out))
        go_roundw
        case rel =>
          obtain ⟨hT4, hB4⟩ := two_step HT2.out hz2' ST1.out ST2.out HCI.out
          exact ⟨pre ++ [(pos, c)], pos + k, by go_num, HN.out.1, HN.out.2.1, HN.out.2.2.1, hT4.below hb5, (hB2.trans hB4).trans (hb5.mono (by have := hB4.size; omega))⟩
        case measure => simp [intOf]; have := HN.out; omega
    · have hn : dec (s.data.toList.drop pos) = none := by rw [List.drop_of_length_le (by simp; omega)]; rfl
      have hw := whole_of pre pos HX.out.1 HX.out.2 hn hp
      have hbad : Hid (badB s = -1 ∧ runesB s = pre) := Lib.hid ⟨by unfold badB whole; rw [hw.2, decide_eq_true (by omega)]; rfl, hw.1⟩
      clear hn hw
      go_wp2_with fail
      go_ret3
      refine ⟨u5, u6, ?_, by rw [hbad.out.2]; exact hT, hB⟩
      rw [hbad.out.1]
      rfl
end Go.Proofs.YtcecibopanfmgaaGreatDoor

namespace Go.Proofs.YtcecibopanfmgaaGreatDoor
open Go.RowKit
set_option linter.unusedVariables false

/-- The bit of a text at a place, from the highest one on; nought behind it. -/
def bitOf (s : ByteArray) (p : Nat) : Nat := if p / 8 < s.size then (s.data.toList.getD (p / 8) 0).toNat / 2 ^ (7 - p % 8) % 2 else 0

theorem bitOf_lt (s : ByteArray) (p : Nat) : bitOf s p < 2 := by unfold bitOf; split <;> omega

set_option maxRecDepth 20000 in
set_option maxHeartbeats 400000 in
theorem bit_any (s : ByteArray) (p : Nat) (w : World) (hs : s.size ≤ 100000) (hp : p ≤ 1000000) :
    Calls Tryz.prog 83 #[.string s, .int .i64 p] w fun e w' => e = .returned (.int .i64 (bitOf s p : Nat)) ∧ w = w' := by
  by_cases hlt : p / 8 < s.size
  · have hb : bitOf s p = (s.data.toList.getD (p / 8) 0).toNat / 2 ^ (7 - p % 8) % 2 := by unfold bitOf; rw [if_pos hlt]
    have HB := Lib.hid hb
    obtain ⟨x, HX⟩ : ∃ x, Hid (s.data.toList.getD (p / 8) 0 = x) := ⟨_, Lib.hid rfl⟩
    have hx := UInt8.toNat_lt x
    have hidx := run_index_str (P := Tryz.prog) 9 s (p / 8) Tryz.underlying9 hlt
    rw [HX.out] at hidx
    have hdc : ((p / 8 : Nat) : Int) = (p : Int) / 8 := by simp
    rw [hdc] at hidx
    clear hb hdc
    go_enter Tryz.func83, Tryz.ntmps83
    go_wp2
    go_loop [5, 6] (fun n i => ∃ j : Nat, j ≤ 7 - p % 8 ∧ i = .int .i64 j ∧ n = .int .i64 ((x.toNat / 2 ^ j : Nat) : Int)) (fun _ i => 7 - (intOf i).toNat)
    case atStart => exact ⟨0, Nat.zero_le _, rfl, by simp⟩
    case round =>
      obtain ⟨j, hj, rfl, rfl⟩ := hrel
      obtain ⟨m, HM⟩ : ∃ m, Hid (x.toNat / 2 ^ j = m) := ⟨_, Lib.hid rfl⟩
      have hm : m < 256 := by rw [← HM.out]; exact Nat.lt_of_le_of_lt (Nat.div_le_self _ _) hx
      rw [HM.out]
      have hnext : ((x.toNat / 2 ^ (j + 1) : Nat) : Int) = (m : Int) / 2 := by
        rw [Nat.pow_succ, ← Nat.div_div_eq_div_mul, HM.out]; simp
      have HN := Lib.hid hnext
      clear hnext
      by_cases hlt2 : j < 7 - p % 8
      · go_wp2
        go_round
        case rel => exact ⟨j + 1, by omega, by go_num, by rw [HN.out]⟩
        case measure => simp [intOf]; omega
      · have hj7 : j = 7 - p % 8 := by omega
        have HJ := Lib.hid hj7
        clear hj7
        go_wp2
        go_ret
        refine ⟨ret_int ?_, rfl⟩
        rw [HB.out, HX.out, ← HJ.out, HM.out]
        omega
  · have hb : bitOf s p = 0 := by unfold bitOf; rw [if_neg hlt]
    rw [hb]
    clear hb
    go_enter Tryz.func83, Tryz.ntmps83
    go_wp2
    go_ret
    exact ⟨rfl, rfl⟩

/-- A byte of a number. -/
theorem getL_byte (l : List UInt8) (q : Nat) (hq : q < l.length) : (l.getD q 0).toNat = getL l / 256 ^ (l.length - 1 - q) % 256 := by
  have e : l = l.take q ++ (l[q] :: l.drop (q + 1)) := by simp
  have hd : (l.drop (q + 1)).length = l.length - 1 - q := by rw [List.length_drop]; omega
  have hg : l.getD q 0 = l[q] := by rw [List.getD_eq_getElem?_getD, List.getElem?_eq_getElem hq]; rfl
  have h1 : getL l = (getL (l.take q) * 256 + (l[q]).toNat) * 256 ^ (l.length - 1 - q) + getL (l.drop (q + 1)) := by
    have h2 : l.take q ++ (l[q] :: l.drop (q + 1)) = (l.take q ++ [l[q]]) ++ l.drop (q + 1) := by simp
    conv => lhs; rw [e, h2]
    rw [getL_append, getL_snoc, hd]
  have hlt := getL_lt (l.drop (q + 1))
  rw [hd] at hlt
  have hp : 0 < 256 ^ (l.length - 1 - q) := Nat.pow_pos (by omega)
  rw [hg, h1, Nat.mul_comm _ (256 ^ (l.length - 1 - q)), Nat.mul_add_div hp, Nat.div_eq_of_lt hlt]
  have := (l[q]).toNat_lt
  omega

theorem half0 (V a b P : Nat) (hP : P = a + b) (hb : 1 ≤ b) : V * 2 ^ P / 2 ^ a % 2 = 0 := by
  subst hP
  obtain ⟨c, rfl⟩ : ∃ c, b = c + 1 := ⟨b - 1, by omega⟩
  rw [Nat.pow_add, Nat.mul_left_comm, Nat.mul_div_cancel_left _ (Nat.pow_pos (by omega)), Nat.pow_succ, ← Nat.mul_assoc]
  omega

/-- A bit of the number whose digits are the letters' numbers. -/
theorem bitOf_num {k : Nat} (hk : 0 < k) (s : ByteArray) (p : Nat) (hp : p < k * mOf k s.size) :
    bitOf s p = getL s.data.toList * 2 ^ padOf k s.size / 2 ^ (k * mOf k s.size - 1 - p) % 2 := by
  have hl : s.data.toList.length = s.size := by simp
  have hT := padOf_eq hk s.size
  rw [hT] at hp ⊢
  unfold bitOf
  by_cases h : p / 8 < s.size
  · rw [if_pos h, getL_byte s.data.toList (p / 8) (by omega), hl]
    have e1 : 8 * s.size + padOf k s.size - 1 - p = padOf k s.size + (8 * s.size - 1 - p) := by omega
    rw [e1, Nat.pow_add, Nat.mul_comm (getL s.data.toList), Nat.mul_div_mul_left _ _ (Nat.pow_pos (by omega))]
    have e2 : 8 * s.size - 1 - p = 8 * (s.size - 1 - p / 8) + (7 - p % 8) := by omega
    rw [e2, Nat.pow_add, ← Nat.div_div_eq_div_mul, Nat.pow_mul]
    have e3 : (2 : Nat) ^ 8 = 256 := by decide
    rw [e3]
    generalize getL s.data.toList / 256 ^ (s.size - 1 - p / 8) = y
    have e4 : (256 : Nat) = 2 ^ (7 - p % 8) * 2 ^ (1 + p % 8) := by rw [← Nat.pow_add, show 7 - p % 8 + (1 + p % 8) = 8 by omega]
    rw [e4, Nat.mod_mul_right_div_self]
    exact Nat.mod_mod_of_dvd _ ⟨2 ^ (p % 8), by rw [Nat.pow_add]⟩
  · rw [if_neg h]
    exact (half0 _ (8 * s.size + padOf k s.size - 1 - p) (p + 1 - 8 * s.size) _ (by omega) (by omega)).symm

theorem bits_step (N e j : Nat) : N / 2 ^ e % 2 ^ (j + 1) = 2 * (N / 2 ^ (e + 1) % 2 ^ j) + N / 2 ^ e % 2 := by
  have h1 : (2 : Nat) ^ (j + 1) = 2 * 2 ^ j := Nat.pow_succ'
  have h2 : (2 : Nat) ^ (e + 1) = 2 ^ e * 2 := Nat.pow_succ _ _
  rw [h1, h2, Nat.mod_mul, Nat.div_div_eq_div_mul]
  omega

/-- The number of a group of bits under way. -/
def grp (k : Nat) (s : ByteArray) (g j : Nat) : Nat := getL s.data.toList * 2 ^ padOf k s.size / 2 ^ (k * mOf k s.size - k * g - j) % 2 ^ j
/-- The letters of the groups that are there. -/
def outL (L : ByteArray) (k : Nat) (s : ByteArray) (g : Nat) : List UInt8 := (dg (2 ^ k) (getL s.data.toList * 2 ^ padOf k s.size / 2 ^ (k * mOf k s.size - k * g)) g).map fun d => L.data.toList.getD d 0

theorem grp_step {k : Nat} (hk : 0 < k) (s : ByteArray) (g j : Nat) (hg : g < mOf k s.size) (hj : j < k) : grp k s g (j + 1) = 2 * grp k s g j + bitOf s (k * g + j) := by
  have h1 : k * (g + 1) ≤ k * mOf k s.size := Nat.mul_le_mul_left k hg
  rw [Nat.mul_add] at h1
  rw [bitOf_num hk s (k * g + j) (by omega)]
  unfold grp
  have e1 : k * mOf k s.size - k * g - (j + 1) = k * mOf k s.size - 1 - (k * g + j) := by omega
  have e2 : k * mOf k s.size - k * g - j = k * mOf k s.size - 1 - (k * g + j) + 1 := by omega
  rw [e1, e2]
  exact bits_step _ _ _

theorem grp_lt (k : Nat) (s : ByteArray) (g j : Nat) : grp k s g j < 2 ^ j := Nat.mod_lt _ (Nat.pow_pos (by omega))

theorem outL_step {k : Nat} (L : ByteArray) (s : ByteArray) (g : Nat) (hg : g < mOf k s.size) : outL L k s (g + 1) = outL L k s g ++ [L.data.toList.getD (grp k s g k) 0] := by
  have h1 : k * (g + 1) ≤ k * mOf k s.size := Nat.mul_le_mul_left k hg
  rw [Nat.mul_add] at h1
  unfold outL grp
  rw [dg_snoc, List.map_append, Nat.div_div_eq_div_mul, ← Nat.pow_add]
  have e1 : k * mOf k s.size - k * (g + 1) + k = k * mOf k s.size - k * g := by rw [Nat.mul_add]; omega
  have e2 : k * mOf k s.size - k * (g + 1) = k * mOf k s.size - k * g - k := by rw [Nat.mul_add]; omega
  rw [e1, e2]
  rfl

theorem outL_length (L : ByteArray) (k : Nat) (s : ByteArray) (g : Nat) : (outL L k s g).length = g := by unfold outL; rw [List.length_map, dg_length]

theorem outL_all (L : ByteArray) (k : Nat) (s : ByteArray) : outL L k s (mOf k s.size) = (encN k s.data.toList).map fun d => L.data.toList.getD d 0 := by
  unfold outL encN
  have hl : s.data.toList.length = s.size := by simp
  rw [hl]
  simp

theorem extract_one (L : ByteArray) (n : Nat) (h : n < L.size) : (L.extract n (n + 1)).data.toList = [L.data.toList.getD n 0] := by
  have hl : n < L.data.toList.length := by simpa using h
  rw [ByteArray.data_extract, Array.toList_extract, List.extract_eq_take_drop]
  rw [show n + 1 - n = 1 by omega, List.drop_eq_getElem_cons hl, List.getD_eq_getElem?_getD, List.getElem?_eq_getElem hl]
  rfl

/-- The length of a text, for a measure. -/
def lenStr : Value → Nat
  | .string s => s.size
  | _ => 0
theorem lenStr_str (s : ByteArray) : lenStr (.string s) = s.size := rfl

set_option maxRecDepth 20000 in
set_option maxHeartbeats 1000000 in
theorem refEncode_any (kind : Nat) (s : ByteArray) (w : World) (hkd : kind ≤ 2) (hs : s.size ≤ 20000) :
    Calls Tryz.prog 69 #[.int .i64 kind, .string s] w fun e w' => e = .returned (.string (encS (letS kind) (bitK kind) (filB kind) s)) ∧ w = w' := by
  obtain ⟨L, HL⟩ : ∃ L, Hid (letS kind = L) := ⟨_, Lib.hid rfl⟩
  obtain ⟨k, HK⟩ : ∃ k, Hid (bitK kind = k) := ⟨_, Lib.hid rfl⟩
  have hk46 : k = 4 ∨ k = 6 := by rw [← HK.out]; exact bit_k _
  have HLS : Hid (L.size = 2 ^ k) := by rw [← HL.out, ← HK.out]; exact Lib.hid (let_size _)
  have hk4 : 4 ≤ k := by omega
  have hk6 : k ≤ 6 := by omega
  have HK46 := Lib.hid hk46
  clear hk46
  go_enter Tryz.func69, Tryz.ntmps69
  go_wp2_with fail
  refine (refLetters_any kind _ hkd).mono ?_
  rintro e w1 ⟨rfl, rfl⟩
  rw [HL.out]
  go_wp2_with fail
  refine (refBits_any kind _ hkd).mono ?_
  rintro e w1 ⟨rfl, rfl⟩
  rw [HK.out]
  go_wp2_with fail
  obtain ⟨M, HM⟩ : ∃ M, Hid (mOf k s.size = M) := ⟨_, Lib.hid rfl⟩
  have hM1 := mOf_lt (by omega : 0 < k) s.size
  have hM2 := mOf_ge (by omega : 0 < k) s.size
  rw [HM.out] at hM1 hM2
  have HMM := Lib.hid (And.intro hM1 hM2)
  have hMs : M ≤ 50000 := by
    have h2 : 4 * M ≤ k * M := Nat.mul_le_mul_right _ hk4
    omega
  clear hM1 hM2
  go_loop [7, 8] (fun o i => ∃ (g i' : Nat) (ob : ByteArray), g ≤ M ∧ i = .int .i64 i' ∧ Hid (i' = k * g) ∧ o = .string ob ∧ Hid (ob.data.toList = outL L k s g)) (fun _ i => 8 * s.size + k - (intOf i).toNat)
  case atStart => exact ⟨0, 0, ⟨#[]⟩, Nat.zero_le _, rfl, by exact Lib.hid (by omega), rfl, by exact Lib.hid (by simp [outL, dg])⟩
  case round =>
    obtain ⟨g, i, o, hg, rfl, HI, rfl, HO⟩ := hrel
    have hos : o.size = g := by
      have h1 : o.data.toList.length = g := by rw [HO.out, outL_length]
      simpa using h1
    have hol : o.size ≤ 50000 := by omega
    have HOS := Lib.hid hos
    clear hos
    by_cases hlt : g < M
    · have hi8 : i < 8 * s.size := by
        have h1 : k * (g + 1) ≤ k * M := Nat.mul_le_mul_left k hlt
        have h2 := HMM.out.1
        rw [HI.out]; rw [Nat.mul_add] at h1; omega
      go_wp2_with fail
      go_loop [9, 10] (fun n j => ∃ (j' n' : Nat), j' ≤ k ∧ j = .int .i64 j' ∧ n = .int .i64 n' ∧ Hid (n' = grp k s g j')) (fun _ j => k - (intOf j).toNat)
      case atStart => exact ⟨0, 0, Nat.zero_le _, rfl, rfl, by exact Lib.hid (by unfold grp; simp [Nat.mod_one])⟩
      case round =>
        obtain ⟨j, n, hj, rfl, rfl, HN⟩ := hrel
        have hn64 : n < 64 := by
          rw [HN.out]
          exact Nat.lt_of_lt_of_le (grp_lt k s g j) (Nat.le_trans (Nat.pow_le_pow_right (by omega) (by omega : j ≤ 6)) (by decide))
        by_cases hlt2 : j < k
        · have hb2 := bitOf_lt s (i + j)
          obtain ⟨b, HB⟩ : ∃ b, Hid (bitOf s (i + j) = b) := ⟨_, Lib.hid rfl⟩
          rw [HB.out] at hb2
          have cB : Hid (∀ W : World, Calls Tryz.prog 83 #[.string s, .int .i64 ((i : Int) + (j : Int))] W fun e w' => e = .returned (.int .i64 (b : Int)) ∧ W = w') := fun W => by
            have h := bit_any s (i + j) W (by omega) (by omega)
            rw [HB.out, Int.natCast_add] at h
            exact h
          go_wp2_with fail
          refine (cB.out _).mono ?_
          rintro e w3 ⟨rfl, rfl⟩
          go_wp2_with fail
          go_round
          case rel =>
            refine ⟨j + 1, 2 * n + b, by omega, by go_num, by go_num, ?_⟩
            show _ = _
            rw [grp_step (by omega) s g j (by rw [HM.out]; exact hlt) hlt2, ← HN.out, ← HI.out, HB.out]
          case measure => simp [intOf]; omega
        · have hjk : j = k := by omega
          have HJ := Lib.hid hjk
          have hnL : n < L.size := by
            rw [HLS.out, HN.out, hjk]; exact grp_lt k s g k
          clear hjk
          go_wp2_with fail
          go_round
          case rel =>
            refine ⟨g + 1, i + k, o ++ L.extract n (n + 1), hlt, by rw [Int.natCast_add], ?_, rfl, ?_⟩
            · show _ = _
              rw [HI.out, Nat.mul_add, Nat.mul_one]
            · show _ = _
              rw [ByteArray.data_append, Array.toList_append, HO.out, extract_one L n hnL, outL_step L s g (by rw [HM.out]; exact hlt), HN.out, HJ.out]
          case measure => simp [intOf]; omega
    · have hi8 : ¬ i < 8 * s.size := by
        have h2 := HMM.out.2
        have hgM : g = M := by omega
        rw [HI.out, hgM]; omega
      have hob : Hid (o.data.toList = (encN k s.data.toList).map fun d => L.data.toList.getD d 0) := by
        have hgM : g = mOf k s.size := by rw [HM.out]; omega
        show _ = _
        rw [HO.out, hgM, outL_all]
      have hoM : Hid (o.size = M) := by
        show _ = _
        rw [HOS.out]; omega
      obtain ⟨N, HN⟩ : ∃ N, Hid (szA k (filB kind) s.size = N) := ⟨_, Lib.hid rfl⟩
      have hNf : Hid ((kind = 1 → N % 4 = 0 ∧ M ≤ N ∧ N < M + 4) ∧ (kind ≠ 1 → N = M)) := by
        have hM := HM.out
        have hN := HN.out
        have hK := HK.out
        unfold bitK at hK
        constructor
        · intro h
          subst h
          rw [if_neg (by omega)] at hK
          subst hK
          rw [← hM, ← hN]
          simp only [szA, mOf, filB, decide_true, Bool.true_and, decide_eq_true_eq]
          split <;> omega
        · intro h
          have hf : filB kind = false := by unfold filB; rw [decide_eq_false_iff_not]; exact h
          rw [hf] at hN
          rw [← hM, ← hN]
          rcases HK46.out with e | e
          · subst e; simp only [szA, mOf, Bool.false_and, Bool.false_eq_true, if_false]; omega
          · subst e; simp only [szA, mOf, Bool.false_and, Bool.false_eq_true, if_false]; omega
      have hres : Hid (∀ (o2 : ByteArray) (j : Nat), o2.data.toList = o.data.toList ++ List.replicate j 61 → M + j = N → o2 = encS (letS kind) (bitK kind) (filB kind) s) := by
        intro o2 j h1 h2
        rw [bytes_of_list h1, HL.out, HK.out]
        unfold encS encL
        have hl : s.data.toList.length = s.size := by simp
        rw [hl, HN.out, HM.out, hob.out]
        congr 3
        congr 1
        omega
      by_cases h1 : kind = 1
      · have hb1 : ((kind : Int) == 1) = true := by simp; omega
        have HF1 := Lib.hid (hNf.out.1 h1)
        have hN50 : N ≤ 60000 := by have := HF1.out; omega
        clear h1
        go_wp2_with fail
        go_loop [7] (fun v => ∃ (j : Nat) (o2 : ByteArray), v = .string o2 ∧ Hid (o2.data.toList = o.data.toList ++ List.replicate j 61) ∧ M + j ≤ N) (fun v => N - lenStr v)
        case atStart => exact ⟨0, o, rfl, by exact Lib.hid (by simp), by have := HF1.out; omega⟩
        case round =>
          obtain ⟨j, o2, rfl, HO2, hjN⟩ := hrel
          have hsz : o2.size = M + j := by
            have e : o2.data.toList.length = M + j := by
              have e2 : o.data.toList.length = M := by rw [Array.length_toList]; exact hoM.out
              rw [HO2.out, List.length_append, List.length_replicate, e2]
            rw [Array.length_toList] at e
            exact e
          have hszl : o2.size ≤ 60000 := by omega
          have HSZ := Lib.hid hsz
          clear hsz
          by_cases h4 : o2.size % 4 = 0
          · have hq : ((o2.size : Int) % 4 != 0) = false := by simp; omega
            have hend : M + j = N := by
              have h5 := HSZ.out
              have h6 := HF1.out
              omega
            have HE := Lib.hid (hres.out o2 j HO2.out hend)
            clear h4 hend
            go_wp2_with fail
            go_ret
            exact ⟨ret_str HE.out, rfl⟩
          · have hq : ((o2.size : Int) % 4 != 0) = true := by simp; omega
            have hlt9 : M + j < N := by
              have h5 := HSZ.out
              have h6 := HF1.out
              omega
            clear h4
            go_wp2_with fail
            go_round
            case rel =>
              refine ⟨j + 1, o2 ++ ⟨#[61]⟩, rfl, ?_, by omega⟩
              show _ = _
              rw [ByteArray.data_append, Array.toList_append, HO2.out, List.append_assoc, List.replicate_succ']
            case measure =>
              simp only [lenStr_str, ByteArray.size_append]
              have h7 : (ByteArray.mk #[61]).size = 1 := rfl
              have h5 := HSZ.out
              omega
      · have hb1 : ((kind : Int) == 1) = false := by simp; omega
        have HE := Lib.hid (hres.out o 0 (by simp) (by have := hNf.out.2 h1; omega))
        clear h1
        go_wp2_with fail
        go_loop [7] (fun v => v = .string o) (fun v => 0)
        case atStart => rfl
        case round =>
          subst hrel
          go_wp2_with fail
          go_ret
          exact ⟨ret_str HE.out, rfl⟩
end Go.Proofs.YtcecibopanfmgaaGreatDoor
