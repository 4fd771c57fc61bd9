/- The walk of CatalogPlaces. (In one text with what it leans on: SBytes, SBlocks, SHash, SAdd, SSum, SText, IText, ICmp, DWeights, DCard, Crc, Tab, Csum, Awk, Awk5, Grow, HCat, HPlain, HMask, HSumm, Awk6, IAwk, QuietL, IId, IRead, ShelfP, DDays, DDate, FFits, FFits2, FAwk, CAwk, CPlP, LEq, CSame, CatalogPlacesW.) -/
import Derived.Lib.BufferWrite
import Derived.Great.BuildSlice
import Derived.Deep.MidRow
import Derived.Deep.RegionHeld3
import Derived.Lib.BytesEntry
import Derived.RangeFuncNested
import Derived.RangeFuncBound
import Derived.RangeFuncCalls
import Derived.RangeFuncLeaves
import Derived.RangeFuncBox
import Derived.Maps.AppendAt
import Derived.Shelf.Abstract
import Derived.Shelf.RegionOpen
import Derived.WalkKit
import Derived.OwnWalkIn
import Derived.TacticsInMore
import Derived.LoopNIn
import Derived.LoopIn
import Derived.Lib.Hide
import Derived.Lib.OthersKept
import Derived.Deep.QuietTactic
import Derived.BigQuiet
import Derived.WalkSpells
import Derived.WalkLawsBesides
import Derived.Deep.DeepCutAuto
import Derived.Deep.WholeRow
import Derived.Shelf.Spec.SlicesGrow
import Derived.OwnWalk
import Derived.DeepKeys
import Derived.Laws.ResultCell
import Derived.Laws.Cover3
import Derived.Shelf.Pu.ParseUintPublic10
import Derived.Below
import Derived.Test.YtheidjnapoipaaaGreatDoorSMix
import Derived.Test.YtheidjnapoipaaaGreatDoorPut
import Derived.Test.YtheidjnapoipaaaGreatDoorShelf
import Derived.Test.YtheidjnapoipaaaGreatDoorSWhole
import Derived.Test.YtheidjnapoipaaaGreatDoorTail
import Derived.Test.YtheidjnapoipaaaGreatDoorIHex
import Derived.Test.YtheidjnapoipaaaGreatDoorDSmall
import Derived.Test.YtheidjnapoipaaaGreatDoorRows
import Derived.Test.YtheidjnapoipaaaGreatDoorPlain
import Derived.Test.YtheidjnapoipaaaGreatDoorMem
import Derived.Test.YtheidjnapoipaaaGreatDoorProg
import Derived.Test.YtheidjnapoipaaaGreatDoorSPlain
import Derived.Test.YtheidjnapoipaaaGreatDoorRound
import Derived.Test.YtheidjnapoipaaaGreatDoorShelfR
import Derived.Test.YtheidjnapoipaaaGreatDoorIPars
import Derived.Test.YtheidjnapoipaaaGreatDoorFMark
import Derived.Test.YtheidjnapoipaaaGreatDoorFCheck
import Derived.Test.YtheidjnapoipaaaGreatDoorFStrs
import Derived.Test.YtheidjnapoipaaaGreatDoorShelfC
import Derived.Test.YtheidjnapoipaaaGreatDoorFOf
import Derived.Test.YtheidjnapoipaaaGreatDoorUCount
import Derived.Test.YtheidjnapoipaaaGreatDoorCFind
import Derived.Test.YtheidjnapoipaaaGreatDoorCRefT
import Derived.Test.YtheidjnapoipaaaGreatDoorCIter
namespace Go.Proofs.YtheidjnapoipaaaGreatDoor
open Go.RowKit
set_option linter.unusedVariables false

/-- A text laid over a row from place o on. -/
def over (cur : List Value) (o : Nat) (l : List UInt8) : List Value := cur.take o ++ l.map bv ++ cur.drop (o + l.length)
theorem copy_row {P : Program} {W : World} (dT sT ty elem : TypeId) (g o dLen dCap : Nat) (s : ByteArray) (cur : List Value) (t : TypeId)
    (hu : P.underlying dT = some (.slice elem)) (hs : (P.info? elem).map (·.size) = some 1) (h : Row W g t cur) (hle : s.size ≤ dLen) (hfit : o + s.size ≤ cur.length) :
    (Builtin.copy_ #[dT, sT] ty #[.slice (some ⟨g, o, none⟩) dLen dCap, .string s]).run P W = .ok (goInt s.size) (W.setRow g (over cur o s.data.toList).toArray) := by
  have := Lib.run_copy_row_string (P := P) W dT sT ty elem g o dLen dCap s cur.toArray t hu hs h hle (by simpa using hfit)
  rw [this]
  unfold over
  have e : s.data.toList.length = s.size := by simp
  rw [e]
  rfl

/-- An array's row, sliced from a place on. -/
theorem slice_arr {P : Program} (t e : TypeId) (n : Nat) (ht : P.underlying t = some (.array n e)) (hz : ∀ W, (sizeOf e).run P W = .ok 1 W) (g off l : Nat) (li : Int) (hli : li = l) (hl : l < n) (W : World) :
    (Instr.sliceAt t (.pointer (some ⟨g, off, none⟩)) (some (.int .i64 li)) none none).run P W = .ok (.slice (some ⟨g, off + l, none⟩) (n - l) (n - l)) W := by
  subst hli
  have hn : P.arrayLen t = n := by simp [Program.arrayLen, ht]
  have he : P.elem t = e := by simp [Program.elem, ht]
  rw [run_sliceAt_array_l (P := P) W t ⟨g, off, none⟩ (by rw [hn, he]; exact ht) .i64 (l : Int) (by omega) (by rw [hn]; omega), he, hz, hn]
  have hadd : (⟨g, off, none⟩ : Addr).add l = ⟨g, off + l, none⟩ := by unfold Addr.add; split <;> simp_all
  simp only [Result.andThen_ok, slicedAt, Int.toNat_natCast, if_neg (by omega : ¬ n = l), Nat.mul_one, hadd]

/-- The bytes of the first k words. -/
def wr8 (s : S8) : Nat → List UInt8
  | 0 => []
  | k + 1 => wr8 s k ++ putL (at8 s k).toNat 4
theorem wr8_length (s : S8) (k : Nat) : (wr8 s k).length = 4 * k := by
  induction k with
  | zero => rfl
  | succ k ih => simp [wr8, ih, putL_length]; omega
theorem wr8_all (s : S8) : wr8 s 8 = bytes8 s := by simp [wr8, bytes8, at8]

/-- The row of the sum behind k words. -/
def sumRow (s : S8) (k : Nat) : List Value := (wr8 s k).map bv ++ List.replicate (32 - 4 * k) (.int .u8 0)
theorem sumRow_length (s : S8) {k : Nat} (h : k ≤ 8) : (sumRow s k).length = 32 := by simp [sumRow, wr8_length]; omega
theorem sumRow_over (s : S8) {k : Nat} (h : k < 8) : over (sumRow s k) (k * 4) (putL (at8 s k).toNat 4) = sumRow s (k + 1) := by
  unfold over sumRow
  have h1 : ((wr8 s k).map bv).length = k * 4 := by simp [wr8_length]; omega
  rw [List.take_left' h1, putL_length]
  have h2 : 32 - 4 * k = 4 + (32 - 4 * (k + 1)) := by omega
  rw [List.drop_append, h1, List.drop_of_length_le (by omega), List.nil_append, List.drop_replicate, wr8, List.map_append]
  congr 2
  omega
theorem sumRow_all (s : S8) : sumRow s 8 = (bytes8 s).map bv := by unfold sumRow; rw [wr8_all]; simp

/-- A sum as a value. -/
def sumV (l : List UInt8) : Value := .agg (l.map bv).toArray

def z32 : List Value := List.replicate 32 (.int .u8 0)
theorem s32_info : (Tryz.prog.info? 158).map (fun i => (i.zero, i.size)) = some (some (.agg z32.toArray), 32) := by kernel_rfl
theorem s32_size : (Tryz.prog.info? 158).map (·.size) = some 32 := (zero_of_info s32_info).2

set_option maxRecDepth 4000 in
set_option maxHeartbeats 1000000 in
theorem written_any (s : S8) (w : World) :
    Calls Tryz.prog 149 #[s8v s] w fun e w' => e = .returned (sumV (bytes8 s)) ∧ Below w.heap.size w w' := by
  have hz := (zero_of_info s32_info).1
  rw [s8v_eq]
  have hr0 : Row (((w.alloc (.cells #[.int .u32 s.a.toNat, .int .u32 s.b.toNat, .int .u32 s.c.toNat, .int .u32 s.d.toNat, .int .u32 s.e.toNat, .int .u32 s.f.toNat, .int .u32 s.g.toNat, .int .u32 s.h.toNat] 169)).alloc (.cells z32.toArray 158)).alloc (.cells z32.toArray 158)) (w.heap.size + 1) 158 z32 := by
    have h := (Row.new (w.alloc (.cells #[.int .u32 s.a.toNat, .int .u32 s.b.toNat, .int .u32 s.c.toNat, .int .u32 s.d.toNat, .int .u32 s.e.toNat, .int .u32 s.f.toNat, .int .u32 s.g.toNat, .int .u32 s.h.toNat] 169)) 158 z32).alloc (.cells z32.toArray 158)
    rw [World.size_alloc] at h
    exact h
  have hr1 : Row (((w.alloc (.cells #[.int .u32 s.a.toNat, .int .u32 s.b.toNat, .int .u32 s.c.toNat, .int .u32 s.d.toNat, .int .u32 s.e.toNat, .int .u32 s.f.toNat, .int .u32 s.g.toNat, .int .u32 s.h.toNat] 169)).alloc (.cells z32.toArray 158)).alloc (.cells z32.toArray 158)) (w.heap.size + 2) 158 (sumRow s 0) := by
    have h := Row.new ((w.alloc (.cells #[.int .u32 s.a.toNat, .int .u32 s.b.toNat, .int .u32 s.c.toNat, .int .u32 s.d.toNat, .int .u32 s.e.toNat, .int .u32 s.f.toNat, .int .u32 s.g.toNat, .int .u32 s.h.toNat] 169)).alloc (.cells z32.toArray 158)) 158 z32
    rw [World.size_alloc, World.size_alloc] at h
    exact h
  have hb0 : Below w.heap.size w (((w.alloc (.cells #[.int .u32 s.a.toNat, .int .u32 s.b.toNat, .int .u32 s.c.toNat, .int .u32 s.d.toNat, .int .u32 s.e.toNat, .int .u32 s.f.toNat, .int .u32 s.g.toNat, .int .u32 s.h.toNat] 169)).alloc (.cells z32.toArray 158)).alloc (.cells z32.toArray 158)) := (((Below.refl _ _).alloc (Nat.le_refl _) _).alloc (by simp) _).alloc (by simp; omega) _
  have hC := Lib.hid (And.intro hr0 (And.intro hr1 hb0))
  clear hr0 hr1 hb0
  go_enter Tryz.func149, Tryz.ntmps149
  go_wp2_with fail
  obtain ⟨hr0, hr1, hb0⟩ := hC.out
  generalize (((w.alloc (.cells #[.int .u32 s.a.toNat, .int .u32 s.b.toNat, .int .u32 s.c.toNat, .int .u32 s.d.toNat, .int .u32 s.e.toNat, .int .u32 s.f.toNat, .int .u32 s.g.toNat, .int .u32 s.h.toNat] 169)).alloc (.cells z32.toArray 158)).alloc (.cells z32.toArray 158)) = w1 at hr0 hr1 hb0 ⊢
  clear hC hz
  go_loopw [7] (fun i wr => ∃ k : Nat, k ≤ 8 ∧ i = .int .i64 k ∧ Row wr (w.heap.size + 1) 158 z32 ∧ Row wr (w.heap.size + 2) 158 (sumRow s k) ∧ Below w.heap.size w wr) (fun i _ => 8 - (intOf i).toNat)
  case atStart => exact ⟨0, Nat.zero_le _, rfl, hr0, hr1, hb0⟩
  case round =>
    obtain ⟨k, hk, rfl, h0, h1, hb⟩ := hrel
    clear hr0 hr1 hb0
    by_cases hlt : k < 8
    · have hix := fun W' => run_index_agg (P := Tryz.prog) 169 136 8 (s8l s).toArray k _ Tryz.underlying169 hlt (by rw [List.getElem?_toArray]; exact at8_get s hlt) W' (Tryz.sizeOf136 W') (Tryz.isAgg136 W')
      have e8 : (s8l s).toArray = #[.int .u32 s.a.toNat, .int .u32 s.b.toNat, .int .u32 s.c.toNat, .int .u32 s.d.toNat, .int .u32 s.e.toNat, .int .u32 s.f.toNat, .int .u32 s.g.toNat, .int .u32 s.h.toNat] := rfl
      rw [e8] at hix
      clear e8
      have hov := sumRow_over s hlt
      obtain ⟨x, hx⟩ : ∃ x, at8 s k = x := ⟨_, rfl⟩
      rw [hx] at hix hov
      have hxl := u32_lt x
      have HP : Hid (∀ W : World, Calls Tryz.prog 154 #[.int .u64 x.toNat, .int .i64 4] W fun e w' => e = .returned (.string ⟨(putL x.toNat 4).toArray⟩) ∧ Below W.heap.size W w') := Lib.hid (fun W => Put_any x.toNat 4 W (by omega))
      have HR := Lib.hid (And.intro h0 (And.intro h1 (And.intro hb hov)))
      clear h0 h1 hb hov hx
      have hsl := fun W => slice_arr (P := Tryz.prog) 158 5 32 Tryz.underlying158 Tryz.sizeOf5 (w.heap.size + 1 + 1) 0 (k * 4) ((k : Int) * 4) (by omega) (by omega) W
      go_wp2_with fail
      refine region_tail 6 (Below wr.heap.size wr) (by kernel_rfl) (by kernel_rfl) rfl (below_drewN (Below.refl _ _) 1) ?_
      simp only [List.take_succ_cons, List.take_zero]
      repeat (go_big_quiet_step ((first
        | (intro hC; with_reducible rfl)
        | (intro hC; go_at_call 154; refine (HP.out _).mono ?_; rintro e w'' ⟨rfl, hb⟩; exact ⟨rfl, hC.trans (hb.mono hC.size)⟩))))
      refine wpQuiet_nil ?_
      intro w7 hw7
      have hT7 := HR.out.2.1.below hw7 HR.out.2.1.lt
      have hcp := copy_row (P := Tryz.prog) 76 9 3 5 (w.heap.size + 1 + 1) (k * 4) (32 - k * 4) (32 - k * 4) ⟨(putL x.toNat 4).toArray⟩ (sumRow s k) 158 Tryz.underlying76 (by kernel_rfl) hT7 (by show (putL x.toNat 4).toArray.size ≤ _; rw [List.size_toArray, putL_length]; omega) (by rw [sumRow_length s hk]; show _ + (putL x.toNat 4).toArray.size ≤ _; rw [List.size_toArray, putL_length]; omega)
      have hr1 := hT7.put (sumRow s (k + 1))
      have hr0 := (HR.out.1.below hw7 HR.out.1.lt).put_far (g' := w.heap.size + 2) (by omega) (sumRow s (k + 1)).toArray
      have hrb := below_setRow (B := w.heap.size) (HR.out.2.2.1.trans (hw7.mono HR.out.2.2.1.size)) (by omega : w.heap.size ≤ w.heap.size + 2) (sumRow s (k + 1)).toArray
      have ed : ((⟨(putL x.toNat 4).toArray⟩ : ByteArray)).data.toList = putL x.toNat 4 := rfl
      rw [ed, HR.out.2.2.2] at hcp
      have HV := Lib.hid (And.intro hr1 (And.intro hr0 hrb))
      clear hr1 hr0 hrb ed hT7 hw7
      go_wp2
      go_roundw
      case rel => exact ⟨k + 1, by omega, by go_num, HV.out.2.1, HV.out.1, HV.out.2.2⟩
      case measure => simp [intOf]; omega
    · have hk2 : k = 8 := by omega
      rw [hk2, sumRow_all] at h1
      have hge : 8 ≤ k := by omega
      have hl : ((bytes8 s).map bv).length = 32 := by rw [← sumRow_all, sumRow_length s (Nat.le_refl _)]
      have hone : ((bytes8 s).map bv).toArray.all (·.oneCell') = true := by
        rw [Array.all_eq_true_iff_forall_mem]
        intro v hv
        simp only [List.mem_toArray, List.mem_map] at hv
        obtain ⟨c, _, rfl⟩ := hv
        rfl
      obtain ⟨cs, hcs⟩ : ∃ cs, (bytes8 s).map bv = cs := ⟨_, rfl⟩
      rw [hcs] at h1 hl hone
      have HV := Lib.hid (And.intro hl (And.intro hone hcs))
      clear hk2 hlt hk hl hone hcs
      go_wp2_with (first
        | (refine wpList_load_row rfl 158 (.tmp 3) rfl (w.heap.size + 2) rfl 158 cs.toArray (0, 0) _ h1 Tryz.underlying158 rfl (by rw [s32_size, List.size_toArray, HV.out.1]) ?_)
        | (refine wpList_store_row rfl 158 (.tmp 2) (.tmp 19) rfl (w.heap.size + 1) cs.toArray rfl rfl 158 z32.toArray h0 (by rw [s32_size, List.size_toArray, HV.out.1]) (by rw [List.size_toArray, List.size_toArray, HV.out.1]; rfl) HV.out.2.1 ?_))
      have hr := h0.put cs
      have hbs := below_setRow (B := w.heap.size) hb (by omega : w.heap.size ≤ w.heap.size + 1) cs.toArray
      exact bodyPost_ret (v := .agg cs.toArray) (results_cell_row rfl _ _ (w.heap.size + 1) 158 cs.toArray (0, 0) _ rfl hr Tryz.underlying158 rfl (by rw [s32_size, List.size_toArray, HV.out.1])) rfl ⟨by unfold sumV; rw [HV.out.2.2], hbs⟩

/-- What stands behind n bytes, as a text. -/
theorem repeat_nought (c : Nat) : Lib.repeatL [0] c = List.replicate c (0 : UInt8) := by
  have := Lib.repeatL_replicate 0 1 c
  rwa [Nat.mul_one] at this
theorem endL_length (n : Nat) : (endL n).length = 9 + (119 - n % 64) % 64 := by unfold endL; simp [putL_length]; omega

set_option maxHeartbeats 1000000 in
theorem ending_any (n : Nat) (w : World) (hn : n ≤ 140737488355328) :
    Calls Tryz.prog 160 #[.int .u64 n] w fun e w' => e = .returned (.string ⟨(endL n).toArray⟩) ∧ Below w.heap.size w w' := by
  obtain ⟨c, hc⟩ : ∃ c, (119 - n % 64) % 64 = c := ⟨_, rfl⟩
  have hc64 : c < 64 := by omega
  have hce : (128 - ((n : Int) % 64 + 1 + 8)) % 64 = (c : Int) := by omega
  have hend : endL n = ([128] ++ List.replicate c 0) ++ putL (n * 8) 8 := by unfold endL; rw [hc]; simp
  have HR : Hid (∀ W : World, Calls Tryz.prog 90 #[.string ⟨#[0]⟩, .int .i64 c] W fun e w' => e = .returned (.string ⟨(List.replicate c 0).toArray⟩) ∧ Below W.heap.size W w') := Lib.hid fun W => by
    have h := Tryz.strings_Repeat ⟨#[0]⟩ c W (by omega) (by show 1 * c ≤ _; omega)
    rw [show (⟨#[0]⟩ : ByteArray).data.toList = [0] from rfl, repeat_nought] at h
    exact h
  have HP : Hid (∀ W : World, Calls Tryz.prog 154 #[.int .u64 ((n : Int) * 8), .int .i64 8] W fun e w' => e = .returned (.string ⟨(putL (n * 8) 8).toArray⟩) ∧ Below W.heap.size W w') := Lib.hid fun W => by
    have h := Put_any (n * 8) 8 W (by omega)
    rw [show ((n * 8 : Nat) : Int) = (n : Int) * 8 by omega] at h
    exact h
  obtain ⟨a0, h0⟩ : ∃ a0 : ByteArray, ⟨(List.replicate c (0 : UInt8)).toArray⟩ = a0 := ⟨_, rfl⟩
  obtain ⟨a1, h1⟩ : ∃ a1 : ByteArray, ⟨(putL (n * 8) 8).toArray⟩ = a1 := ⟨_, rfl⟩
  have hs0 : a0.size ≤ 64 := by rw [← h0]; show (List.replicate c (0 : UInt8)).toArray.size ≤ 64; simp; omega
  have hs1 : a1.size ≤ 64 := by rw [← h1]; show (putL (n * 8) 8).toArray.size ≤ 64; simp [putL_length]
  have hdone : (⟨#[128]⟩ ++ a0 ++ a1 : ByteArray) = ⟨(endL n).toArray⟩ := by
    apply ByteArray.ext
    apply Array.ext'
    rw [hend, ← h0, ← h1]
    simp
  rw [h0] at HR
  rw [h1] at HP
  have ha0 : ∀ W : World, (Op.stringOp .add ⟨#[128]⟩ a0).run Tryz.prog W = .ok (.string (⟨#[128]⟩ ++ a0)) W := fun W => run_string_add_sum W _ a0 (by show 1 + a0.size ≤ _; omega)
  obtain ⟨a2, h2⟩ : ∃ a2 : ByteArray, (⟨#[128]⟩ ++ a0 : ByteArray) = a2 := ⟨_, rfl⟩
  have hs2 : a2.size ≤ 65 := by rw [← h2, ByteArray.size_append]; show 1 + a0.size ≤ 65; omega
  rw [h2] at ha0 hdone
  have ha1 : ∀ W : World, (Op.stringOp .add a2 a1).run Tryz.prog W = .ok (.string (a2 ++ a1)) W := fun W => run_string_add_sum W a2 a1 (by omega)
  rw [hdone] at ha1
  clear h0 h1 h2 hdone hend hc hs0 hs1 hs2
  go_enter Tryz.func160, Tryz.ntmps160
  go_wp2_with (first
    | (go_at_call 90; refine (HR.out _).mono ?_; rintro e w1 ⟨rfl, hb1⟩)
    | (go_at_call 154; refine (HP.out _).mono ?_; rintro e w2 ⟨rfl, hb2⟩))
  go_ret
  exact ⟨rfl, hb1.trans (hb2.mono hb1.size)⟩
end Go.Proofs.YtheidjnapoipaaaGreatDoor

namespace Go.Proofs.YtheidjnapoipaaaGreatDoor
open Go.RowKit Go.Shelf
set_option linter.unusedVariables false
attribute [local go_sem] Oper.semAt_some

/-- A whole text. -/
def padB (s : ByteArray) : ByteArray := ⟨(padL s.data.toList).toArray⟩
theorem padB_data (s : ByteArray) : (padB s).data.toList = padL s.data.toList := rfl
theorem padB_size (s : ByteArray) : (padB s).size = s.size + (9 + (119 - s.size % 64) % 64) := by
  show (padL s.data.toList).toArray.size = _
  rw [List.size_toArray]
  unfold padL
  rw [List.length_append, endL_length]
  simp
/-- What stands behind the whole blocks, with the ending. -/
def restB (s : ByteArray) : ByteArray := s.extract (s.size / 64 * 64) s.size ++ ⟨(endL s.size).toArray⟩
theorem restB_size (s : ByteArray) : (restB s).size = s.size % 64 + (9 + (119 - s.size % 64) % 64) := by
  unfold restB
  rw [ByteArray.size_append, ByteArray.size_extract]
  show _ + (endL s.size).toArray.size = _
  rw [List.size_toArray, endL_length]
  omega
theorem restB_data (s : ByteArray) : (restB s).data.toList = (padL s.data.toList).drop (s.size / 64 * 64) := by
  unfold restB padL
  have hl : s.data.toList.length = s.size := by simp
  rw [ByteArray.data_append, Array.toList_append, Lib.extract_data, hl, List.drop_append_of_le_length (by omega), List.take_of_length_le (by rw [List.length_drop]; omega)]
/-- The blocks of a whole text are those that it begins with, and those behind. -/
theorem blks_pad (s : ByteArray) : blksB s (s.size / 64) ++ blksB (restB s) ((restB s).size / 64) = blksB (padB s) ((padB s).size / 64) := by
  have hq : (padB s).size / 64 = s.size / 64 + (restB s).size / 64 := by rw [padB_size, restB_size]; omega
  have hl : s.data.toList.length = s.size := by simp
  have hpl : (padL s.data.toList).length = (padB s).size := by show _ = (padL s.data.toList).toArray.size; rw [List.size_toArray]
  rw [hq]
  unfold blksB
  rw [List.range_add, List.map_append, List.map_map]
  congr 1
  · apply List.map_congr_left
    intro i hi
    have hi' := List.mem_range.1 hi
    apply ByteArray.ext
    apply Array.ext'
    rw [Lib.extract_data, Lib.extract_data, padB_data]
    unfold padL
    rw [List.drop_append_of_le_length (by omega), List.take_append_of_le_length (by rw [List.length_drop]; omega)]
  · apply List.map_congr_left
    intro i hi
    have hi' := List.mem_range.1 hi
    apply ByteArray.ext
    apply Array.ext'
    show ((restB s).extract (i * 64) ((i + 1) * 64)).data.toList = ((padB s).extract ((s.size / 64 + i) * 64) ((s.size / 64 + i + 1) * 64)).data.toList
    rw [Lib.extract_data, Lib.extract_data, padB_data, restB_data, List.drop_drop, show (i + 1) * 64 - i * 64 = 64 by omega, show (s.size / 64 + i + 1) * 64 - (s.size / 64 + i) * 64 = 64 by omega, show s.size / 64 * 64 + i * 64 = (s.size / 64 + i) * 64 by omega]

theorem grown_below {W W' : World} (h : Below W.heap.size W W') : W.grownBy W' none := ⟨h.os, h.tape, h.output, h.size, fun k hk _ => h.block k hk⟩
theorem own_below {β : Type} {B : Nat} {J : β → World → Prop} (h : OwnFrom B J) {b : β} {W W' : World} (hb : Below W.heap.size W W') (hj : J b W) : J b W' := h b W W' none hj (grown_below hb) (fun r e => by cases e)
theorem ownFrom_obj {β : Type} {B k : Nat} (hk : k < B) (o : Obj) : OwnFrom B (fun (_ : β) W => W.heap[k]? = some o) := fun _ W W' row hs hg hr =>
  (hg.block k (Array.getElem?_eq_some_iff.1 hs).1 (fun e => by have := (hr k e.symm).1; omega)).trans hs
theorem ownFrom_map {α β : Type} {B : Nat} {J : β → World → Prop} (h : OwnFrom B J) (f : α → β) : OwnFrom B (fun a W => J (f a) W) := fun a W W' row hs hg hr => h (f a) W W' row hs hg hr
theorem ownFrom_size {β : Type} (B m : Nat) : OwnFrom B (fun (_ : β) W => m ≤ W.heap.size) := fun _ _ _ _ hs hg _ => Nat.le_trans hs hg.size
theorem own_rowL {β : Type} (g : Nat) (t : TypeId) (l : List Value) : Own (fun (_ : β) W => Row W g t l) := own_row g t (fun _ => l)

set_option maxRecDepth 100000 in
set_option maxHeartbeats 2000000 in
theorem blocks1_in (n : Nat) (hn : 4 ≤ n) (l Bn E : Nat) (s : ByteArray) (hs : s.size ≤ 140737488355000) (J Jx : List Blk → World → Prop)
    (hY : ∀ pre x W, J pre W → pre.length < (padB s).size / 64 → YieldAt Fence.wide (n - 1) Tryz.prog l #[.string x.1] W fun e W' =>
      (e = .returned (.bool true) ∧ J (pre ++ [x]) W' ∧ KeepsAt Bn E W W') ∨ (e = .returned (.bool false) ∧ Jx (pre ++ [x]) W' ∧ KeepsAt Bn E W W'))
    (W : World) (hE : E ≤ W.heap.size) (hJ : OwnFrom W.heap.size J) (hJx : OwnFrom W.heap.size Jx) (hb1 : Row W Bn 9 [.string s]) (h0 : J [] W) :
    CallsIn Fence.wide n Tryz.prog 158 #[.func (.yield l) #[] #[], .pointer (some ⟨Bn, 0, none⟩)] W fun e W' => (∃ v, e = .returned v) ∧
      ((∃ ys : List Blk, ys.map Subtype.val = blksB (padB s) ((padB s).size / 64) ∧ J ys W') ∨ (∃ pre : List Blk, pre.map Subtype.val <+: blksB (padB s) ((padB s).size / 64) ∧ Jx pre W')) := by
  have hBn := hb1.lt
  have hc0 := hb1.cell 0
  refine callsIn_of_wp_marks Tryz.func158 rfl trivial ?_ rfl
  simp only [Tryz.ntmps158, List.size_toArray, List.length_cons, List.length_nil, Nat.reduceAdd, Nat.reduceSub, Array.replicate_succ, Array.replicate_zero, List.push_toArray, List.append_toArray, List.nil_append, List.cons_append]
  obtain ⟨yf, hyf⟩ : ∃ yf : Value, Value.func (.yield l) #[] #[] = yf := ⟨_, rfl⟩
  have y0 : Row ((W.alloc (.cells #[Value.func (.yield l) #[] #[]] 78)).alloc (.cells #[.string s] 9)) W.heap.size 78 [yf] := by rw [← hyf]; exact (Row.new W _ _).alloc _
  have x0 : Row ((W.alloc (.cells #[Value.func (.yield l) #[] #[]] 78)).alloc (.cells #[.string s] 9)) (W.heap.size + 1) 9 [.string s] := by
    have h := Row.new (W.alloc (.cells #[Value.func (.yield l) #[] #[]] 78)) 9 [.string s]
    rw [World.size_alloc] at h
    exact h
  have b0 := (hb1.alloc (.cells #[Value.func (.yield l) #[] #[]] 78)).alloc (.cells #[.string s] 9)
  have j0 : J [] ((W.alloc (.cells #[Value.func (.yield l) #[] #[]] 78)).alloc (.cells #[.string s] 9)) := hJ.alloc _ (hJ.alloc _ h0)
  have z0 : ((W.alloc (.cells #[Value.func (.yield l) #[] #[]] 78)).alloc (.cells #[.string s] 9)).heap.size = W.heap.size + 2 := by simp
  obtain ⟨q, hq⟩ : ∃ q, s.size / 64 = q := ⟨_, rfl⟩
  obtain ⟨N, hN⟩ : ∃ N, (padB s).size / 64 = N := ⟨_, rfl⟩
  have hqN : q + (restB s).size / 64 = N := by rw [← hq, ← hN, padB_size, restB_size]; omega
  have hbl := blks_pad s
  rw [hq, hN] at hbl
  rw [hN] at hY ⊢
  have HQ := Lib.hid (And.intro hq (And.intro hN (And.intro hqN hbl)))
  have HY := Lib.hid hyf
  clear hq hN hbl hyf
  gi_wp2_with fail
  refine ⟨trivial, fun h => (by cases h), (whole_in (n - 1) s _).mono ?_⟩
  rintro e w2 ⟨rfl, rfl⟩
  gi_wp2_with fail
  generalize (W.alloc (.cells #[Value.func (.yield l) #[] #[]] 78)).alloc (.cells #[.string s] 9) = wl at y0 x0 b0 j0 z0 ⊢
  refine' range_stops rfl (by omega) (gf := 167) (lb := #[.pointer (some ⟨W.heap.size + 1, 0, none⟩)]) rfl trivial (enters_of Tryz.func167 (by kernel_rfl) rfl)
    (whole_stops (n - 1) (by omega) (W.heap.size + 1) (wl.heap.size + 2) s (by omega) wl x0) keepsAt_t (keepsAt_b (by omega) (by omega)) (Below.refl _ _) (fun _ => rfl)
    (fun pre W' => (Row W' Bn 9 [.string s] ∧ Row W' W.heap.size 78 [yf]) ∧ J pre W' ∧ W.heap.size + 2 ≤ W'.heap.size)
    (fun c pre W' => (Row W' Bn 9 [.string s] ∧ Row W' W.heap.size 78 [yf]) ∧ Jx pre W' ∧ c = .ret)
    (OwnFrom.and (OwnFrom.and (Own.from (own_rowL _ _ _) _) (Own.from (own_rowL _ _ _) _)) (OwnFrom.and (own_mono hJ (by omega)) (ownFrom_size _ _)))
    (fun c => OwnFrom.and (OwnFrom.and (Own.from (own_rowL _ _ _) _) (Own.from (own_rowL _ _ _) _)) (OwnFrom.and (own_mono hJx (by omega)) (ownFrom_pure _ _)))
    ⟨⟨b0, y0⟩, j0, by omega⟩
    _ _ _ _ _
  case refine'_2 =>
    intro l x W K hK
    gi_wp2
    exact hK
  case refine'_3 =>
    rintro l' pre x W' ⟨⟨hbn, hby⟩, hj, hsz⟩ hlt
    obtain ⟨fn, tmps, assign, body, hy, hR⟩ := hY pre x W' hj (by rw [HQ.out.1] at hlt; omega)
    have hcy := hby.cell 0
    have hcy' : W'.cell? ⟨W.heap.size, 0, none⟩ = some (.func (.yield l) #[] #[]) := by rw [HY.out]; exact hcy
    clear hcy
    gi_wp2
    refine ⟨fun h => (by cases h), (round_wide hR).mono ?_⟩
    rintro e W3 hpost
    have hk3 : KeepsAt Bn E W' W3 := by rcases hpost with ⟨_, _, h⟩ | ⟨_, _, h⟩ <;> exact h
    have hbn3 : Row W3 Bn 9 [.string s] := (hk3.2 Bn (.inl rfl) hbn.lt).trans hbn
    have hby3 : Row W3 W.heap.size 78 [yf] := (hk3.2 W.heap.size (.inr hE) hby.lt).trans hby
    have hKF : KeepsFrom wl.heap.size W' W3 := ⟨hk3.1, fun k o hk ho _ => (hk3.2 k (.inr (by omega)) (Array.getElem?_eq_some_iff.1 ho).1).trans ho⟩
    have hKA : KeepsAt (W.heap.size + 1) (wl.heap.size + 2) W' W3 := ⟨hk3.1, fun k hk hl => hk3.2 k (.inr (by rcases hk with rfl | hk <;> omega)) hl⟩
    have hs3 : W.heap.size + 2 ≤ W3.heap.size := Nat.le_trans hsz hk3.1
    rcases hpost with ⟨rfl, hj3, _⟩ | ⟨rfl, hjx3, _⟩
    · gi_wp2
      exact ⟨hKF, hKA, ⟨hbn3, hby3⟩, hj3, hs3⟩
    · gi_wp2
      exact ⟨hKF, hKA, ⟨hbn3, hby3⟩, hjx3, rfl⟩
  case refine'_5 =>
    rintro D c pre W' hD hpre ⟨_, hjx, rfl⟩ hK
    gi_wp2
    refine ⟨by simp, .inl ⟨_, _, rfl, run_takeDeferred hK, ?_⟩⟩
    exact ⟨_, results_none rfl _ _ _, ⟨_, rfl⟩, .inr ⟨pre, by rw [← HQ.out.2.2.2]; rw [HQ.out.1] at hpre; exact hpre.trans (List.prefix_append _ _), (own_mono hJx (by omega)).putObj _ hjx (Nat.le_refl D) hK rfl⟩⟩
  case refine'_4 =>
    rintro D ys W' hD hys ⟨⟨hbn, hby⟩, hj, hsz⟩ hK
    rw [HQ.out.1] at hys
    have hyl : ys.length = q := by rw [← blksB_length s q, ← hys, List.length_map]
    have hcx := hbn.cell 0
    obtain ⟨r, hr⟩ : ∃ r, s.size / 64 * 64 = r := ⟨_, rfl⟩
    have hqs : (s.size : Int) / 64 * 64 = (r : Int) := by omega
    have hqle : (r : Int) ≤ (s.size : Int) := by omega
    have HE : Hid (∀ (m : Nat) (W : World), CallsIn Fence.wide m Tryz.prog 160 #[.int .u64 s.size] W fun e w' => e = .returned (.string ⟨(endL s.size).toArray⟩) ∧ Below W.heap.size W w') := Lib.hid fun m W => callsIn_wide.2 (ending_any s.size W (by omega))
    obtain ⟨Eb, hEb⟩ : ∃ Eb : ByteArray, (⟨(endL s.size).toArray⟩ : ByteArray) = Eb := ⟨_, rfl⟩
    have hEs : Eb.size ≤ 128 := by rw [← hEb]; show (endL s.size).toArray.size ≤ _; rw [List.size_toArray, endL_length]; omega
    have hrb : s.extract r s.size ++ Eb = restB s := by rw [← hEb, ← hr]; rfl
    have hrs : (restB s).size ≤ 1000 := by rw [restB_size]; omega
    have hadd : ∀ W : World, (Op.stringOp .add (s.extract r s.size) Eb).run Tryz.prog W = .ok (.string (restB s)) W := fun W => by rw [← hrb]; exact run_string_add_sum W _ Eb (by rw [ByteArray.size_extract]; omega)
    rw [hEb] at HE
    have HV := Lib.hid (And.intro hbn (And.intro hby (And.intro hj (And.intro hK (And.intro hys hyl)))))
    clear hr hrb hEb hbn hby hj hK hys hyl
    gi_wp2_with fail
    refine ⟨trivial, fun h => (by cases h), (HE.out _ _).mono ?_⟩
    rintro e w3 ⟨rfl, hb3⟩
    gi_wp2_with fail
    refine ⟨trivial, fun h => (by cases h), (whole_in (n - 1) (restB s) _).mono ?_⟩
    rintro e w4 ⟨rfl, rfl⟩
    gi_wp2_with fail
    have hD' : wl.heap.size ≤ D := hD
    obtain ⟨hbn, hby, hj, hK, hys, hyl⟩ := HV.out
    have hb4 : Below W'.heap.size W' (w3.alloc (.cells #[.string (restB s)] 9)) := hb3.trans ((Below.refl _ w3).alloc hb3.size _)
    have x4 : Row (w3.alloc (.cells #[.string (restB s)] 9)) w3.heap.size 9 [.string (restB s)] := Row.new w3 _ _
    have bn4 := hbn.below hb4 hbn.lt
    have by4 := hby.below hb4 hby.lt
    have j4 := own_below hJ hb4 hj
    have hDl := (Array.getElem?_eq_some_iff.1 hK).1
    have k4 := (hb4.block D hDl).trans hK
    have z4 : (w3.alloc (.cells #[.string (restB s)] 9)).heap.size = w3.heap.size + 1 := by simp
    have s3 := hb3.size
    clear hb4 hb3 hbn hby hj hK
    generalize w3.alloc (.cells #[.string (restB s)] 9) = wm at x4 bn4 by4 j4 k4 z4 ⊢
    refine' range_stops rfl (by omega) (gf := 167) (lb := #[.pointer (some ⟨w3.heap.size, 0, none⟩)]) rfl trivial (enters_of Tryz.func167 (by kernel_rfl) rfl)
      (whole_stops (n - 1) (by omega) w3.heap.size (wm.heap.size + 2) (restB s) (by omega) wm x4) keepsAt_t (keepsAt_b (by omega) (by omega)) (Below.refl _ _) (fun _ => rfl)
      (fun pre W2 => (Row W2 Bn 9 [.string s] ∧ Row W2 W.heap.size 78 [yf]) ∧ J (ys ++ pre) W2 ∧ W2.heap[D]? = some (.deferred (some [])))
      (fun c pre W2 => Jx (ys ++ pre) W2 ∧ c = .ret ∧ W2.heap[D]? = some (.deferred (some [])))
      (OwnFrom.and (OwnFrom.and (Own.from (own_rowL _ _ _) _) (Own.from (own_rowL _ _ _) _)) (OwnFrom.and (ownFrom_map (own_mono hJ (by omega)) _) (ownFrom_obj (by omega) _)))
      (fun c => OwnFrom.and (ownFrom_map (own_mono hJx (by omega)) _) (OwnFrom.and (ownFrom_pure _ _) (ownFrom_obj (by omega) _)))
      ⟨⟨bn4, by4⟩, by rw [List.append_nil]; exact j4, k4⟩
      _ _ _ _ _
    case refine'_2 =>
      intro l x W K hK
      gi_wp2
      exact hK
    case refine'_3 =>
      rintro l' pre x W2 ⟨⟨hbn, hby⟩, hj, hk⟩ hlt
      obtain ⟨fn, tmps, assign, body, hy, hR⟩ := hY (ys ++ pre) x W2 hj (by rw [List.length_append]; have := HQ.out.2.2.1; omega)
      have hcy := hby.cell 0
      have hcy' : W2.cell? ⟨W.heap.size, 0, none⟩ = some (.func (.yield l) #[] #[]) := by rw [HY.out]; exact hcy
      clear hcy
      gi_wp2
      refine ⟨fun h => (by cases h), (round_wide hR).mono ?_⟩
      rintro e W3 hpost
      have hk3 : KeepsAt Bn E W2 W3 := by rcases hpost with ⟨_, _, h⟩ | ⟨_, _, h⟩ <;> exact h
      have hbn3 : Row W3 Bn 9 [.string s] := (hk3.2 Bn (.inl rfl) hbn.lt).trans hbn
      have hby3 : Row W3 W.heap.size 78 [yf] := (hk3.2 W.heap.size (.inr hE) hby.lt).trans hby
      have hkd : W3.heap[D]? = some (.deferred (some [])) := (hk3.2 D (.inr (by omega)) (Array.getElem?_eq_some_iff.1 hk).1).trans hk
      have hKF : KeepsFrom wm.heap.size W2 W3 := ⟨hk3.1, fun k o hk ho _ => (hk3.2 k (.inr (by omega)) (Array.getElem?_eq_some_iff.1 ho).1).trans ho⟩
      have hKA : KeepsAt w3.heap.size (wm.heap.size + 2) W2 W3 := ⟨hk3.1, fun k hk hl => hk3.2 k (.inr (by rcases hk with rfl | hk <;> omega)) hl⟩
      rcases hpost with ⟨rfl, hj3, _⟩ | ⟨rfl, hjx3, _⟩
      · gi_wp2
        exact ⟨hKF, hKA, ⟨hbn3, hby3⟩, by rw [← List.append_assoc]; exact hj3, hkd⟩
      · gi_wp2
        exact ⟨hKF, hKA, by rw [← List.append_assoc]; exact hjx3, rfl, hkd⟩
    case refine'_5 =>
      rintro D2 c pre W2 hD2 hpre ⟨hjx, rfl, hk⟩ hK2
      have hDD : D ≠ D2 := by omega
      gi_wp2
      have e2 : (W2.putObj D2 (.deferred none)).heap[D]? = some (.deferred (some [])) := (World.putObj_heap_other hDD).trans hk
      refine ⟨by simp, .inl ⟨_, _, rfl, run_takeDeferred hK2, ⟨by simp, .inl ⟨_, _, rfl, run_takeDeferred e2, ?_⟩⟩⟩⟩
      have j2 := (own_mono hJx (by omega : W.heap.size ≤ D2)).putObj (.deferred none) hjx (Nat.le_refl D2) hK2 rfl
      exact ⟨_, results_none rfl _ _ _, ⟨_, rfl⟩, .inr ⟨ys ++ pre, by rw [List.map_append, hys, ← HQ.out.2.2.2]; exact (List.prefix_append_right_inj _).2 hpre, (own_mono hJx (by omega : W.heap.size ≤ D)).putObj _ j2 (Nat.le_refl D) e2 rfl⟩⟩
    case refine'_4 =>
      rintro D2 zs W2 hD2 hzs ⟨_, hj, hk⟩ hK2
      have hDD : D ≠ D2 := by omega
      gi_wp2
      have e2 : (W2.putObj D2 (.deferred none)).heap[D]? = some (.deferred (some [])) := (World.putObj_heap_other hDD).trans hk
      refine ⟨by simp, .inl ⟨_, _, rfl, run_takeDeferred hK2, ⟨by simp, .inl ⟨_, _, rfl, run_takeDeferred e2, ?_⟩⟩⟩⟩
      have j2 := (own_mono hJ (by omega : W.heap.size ≤ D2)).putObj (.deferred none) hj (Nat.le_refl D2) hK2 rfl
      exact ⟨_, results_none rfl _ _ _, ⟨_, rfl⟩, .inl ⟨ys ++ zs, by rw [List.map_append, hys, hzs, ← HQ.out.2.2.2], (own_mono hJ (by omega : W.heap.size ≤ D)).putObj _ j2 (Nat.le_refl D) e2 rfl⟩⟩

set_option maxHeartbeats 1000000 in
theorem blocks_in (n : Nat) (s : ByteArray) (w : World) :
    CallsIn Fence.wide n Tryz.prog 151 #[.string s] w fun e w' => e = .returned (.func (.func 158) #[] #[.pointer (some ⟨w.heap.size, 0, none⟩)]) ∧ w' = w.alloc (.cells #[.string s] 9) := by
  refine callsIn_of_wp Tryz.func151 rfl trivial ?_ rfl
  simp only [Tryz.ntmps151, List.size_toArray, List.length_cons, List.length_nil, Nat.reduceAdd, Nat.reduceSub, Array.replicate_succ, Array.replicate_zero, List.push_toArray, List.append_toArray, List.nil_append, List.cons_append]
  gi_wp2
  go_ret
  exact ⟨rfl, rfl⟩

theorem blocks_stops (n : Nat) (hn : 4 ≤ n) (Bn : Nat) (s : ByteArray) (hs : s.size ≤ 140737488355000) (w : World) (h1 : Row w Bn 9 [.string s]) :
    Stops Fence.wide n Tryz.prog 158 #[.pointer (some ⟨Bn, 0, none⟩)] (fun x : Blk => #[.string x.1]) (KeepsAt Bn (w.heap.size + 2)) (fun ys => ys.map Subtype.val = blksB (padB s) ((padB s).size / 64)) (fun pre => pre.map Subtype.val <+: blksB (padB s) ((padB s).size / 64)) ((padB s).size / 64) w := fun l J Jx W hW hE hJ hJx hY h0 => by
  refine (blocks1_in n hn l Bn _ s hs J Jx hY W hE hJ hJx (h1.below hW h1.lt) h0).mono ?_
  rintro e W' ⟨hv, (⟨ys, h, hj⟩ | ⟨pre, h, hj⟩)⟩
  · exact ⟨hv, .inl ⟨ys, h, hj⟩⟩
  · exact ⟨hv, .inr ⟨pre, h, hj⟩⟩

/-- The state behind a whole text. -/
theorem mixed_blocks (st : S8) (s : ByteArray) (hs : s.size ≤ 140737488355000) (w : World) (Bn : Nat) (h1 : Row w Bn 9 [.string s]) :
    Calls Tryz.prog 150 #[s8v st, .func (.func 158) #[] #[.pointer (some ⟨Bn, 0, none⟩)]] w fun e w' => e = .returned (s8v (mixK st (padL s.data.toList) ((padL s.data.toList).length / 64))) ∧ Below w.heap.size w w' := by
  refine (mixed_any st 158 #[.pointer (some ⟨Bn, 0, none⟩)] Bn _ _ _ w h1.lt (enters_of Tryz.func158 (by kernel_rfl) rfl)
    (fun W hW => blocks_stops 5 (by omega) Bn s hs W (h1.below hW h1.lt))).mono ?_
  rintro e w' ⟨⟨ys, hys, rfl⟩, hb⟩
  have hl : (padB s).size = (padL s.data.toList).length := by show (padL s.data.toList).toArray.size = _; rw [List.size_toArray]
  exact ⟨by rw [blksB_data (padB s) _ ys hys, padB_data, hl], hb⟩
end Go.Proofs.YtheidjnapoipaaaGreatDoor

namespace Go.Proofs.YtheidjnapoipaaaGreatDoor
open Go.RowKit
set_option linter.unusedVariables false

/-- An array's row, sliced up to a place. -/
theorem slice_arr_to {P : Program} (t e : TypeId) (n : Nat) (ht : P.underlying t = some (.array n e)) (hz : ∀ W, (sizeOf e).run P W = .ok 1 W) (g off h : Nat) (k : IntKind) (hi : Int) (hhi : hi = h) (hl : h ≤ n) (h0 : 0 < n) (W : World) :
    (Instr.sliceAt t (.pointer (some ⟨g, off, none⟩)) none (some (.int k hi)) none).run P W = .ok (.slice (some ⟨g, off, none⟩) h n) W := by
  subst hhi
  have hn : P.arrayLen t = n := by simp [Program.arrayLen, ht]
  have he : P.elem t = e := by simp [Program.elem, ht]
  rw [run_sliceAt_array_h (P := P) W t ⟨g, off, none⟩ (by rw [hn, he]; exact ht) k (h : Int) (by omega) (by rw [hn]; omega), he, hz, hn]
  have hadd : (⟨g, off, none⟩ : Addr).add (0 * 1) = ⟨g, off, none⟩ := by unfold Addr.add; split <;> simp_all
  simp only [Result.andThen_ok, slicedAt, Int.toNat_natCast, if_neg (by omega : ¬ n = 0), hadd, Nat.sub_zero]
theorem slice_arr_all {P : Program} (t e : TypeId) (n : Nat) (ht : P.underlying t = some (.array n e)) (hz : ∀ W, (sizeOf e).run P W = .ok 1 W) (g off : Nat) (h0 : 0 < n) (W : World) :
    (Instr.sliceAt t (.pointer (some ⟨g, off, none⟩)) none none none).run P W = .ok (.slice (some ⟨g, off, none⟩) n n) W := by
  have hn : P.arrayLen t = n := by simp [Program.arrayLen, ht]
  have he : P.elem t = e := by simp [Program.elem, ht]
  rw [run_sliceAt_array_all (P := P) W t ⟨g, off, none⟩ (by rw [hn, he]; exact ht), he, hz, hn]
  have hadd : (⟨g, off, none⟩ : Addr).add (0 * 1) = ⟨g, off, none⟩ := by unfold Addr.add; split <;> simp_all
  simp only [Result.andThen_ok, slicedAt, if_neg (by omega : ¬ n = 0), hadd, Nat.sub_zero]

/-- A state lies where the program's variable does. -/
def Starts (s : S8) (w : World) : Prop := ∃ t fr, w.heap[6]? = some (.cells (s8l s).toArray t fr)
theorem Starts.lt {s : S8} {w : World} (h : Starts s w) : 6 < w.heap.size := by
  obtain ⟨t, fr, h⟩ := h
  exact (Array.getElem?_eq_some_iff.1 h).1
theorem Starts.below {s : S8} {w w' : World} (h : Starts s w) (hb : Below w.heap.size w w') : Starts s w' := by
  have hl := h.lt
  obtain ⟨t, fr, h⟩ := h
  exact ⟨t, fr, (hb.block _ hl).trans h⟩
theorem Starts.mid {s : S8} {B : Nat} {w w' : World} (h : Starts s w) (hb : Below B w w') (hl : 6 < B) : Starts s w' := by
  obtain ⟨t, fr, h⟩ := h
  exact ⟨t, fr, (hb.block _ hl).trans h⟩
theorem Starts.cell {s : S8} {w : World} (h : Starts s w) (i : Nat) : w.cell? ⟨6, i, none⟩ = (s8l s)[i]? := by
  obtain ⟨t, fr, h⟩ := h
  have := cell_of_row w 6 i (s8l s).toArray t fr h
  simpa using this
theorem Starts.cells {s : S8} {W : World} (h : Starts s W) :
    W.cell? ⟨6, 0, none⟩ = some (.int .u32 s.a.toNat) ∧ W.cell? ⟨6, 1, none⟩ = some (.int .u32 s.b.toNat) ∧ W.cell? ⟨6, 2, none⟩ = some (.int .u32 s.c.toNat) ∧ W.cell? ⟨6, 3, none⟩ = some (.int .u32 s.d.toNat) ∧
    W.cell? ⟨6, 4, none⟩ = some (.int .u32 s.e.toNat) ∧ W.cell? ⟨6, 5, none⟩ = some (.int .u32 s.f.toNat) ∧ W.cell? ⟨6, 6, none⟩ = some (.int .u32 s.g.toNat) ∧ W.cell? ⟨6, 7, none⟩ = some (.int .u32 s.h.toNat) :=
  ⟨h.cell 0, h.cell 1, h.cell 2, h.cell 3, h.cell 4, h.cell 5, h.cell 6, h.cell 7⟩
/-- The state's start lies where the program's variable does. -/
def G (w : World) : Prop := Starts start8 w
theorem G.below {w w' : World} (h : G w) (hb : Below w.heap.size w w') : G w' := Starts.below h hb

/-- The cells of what was added: the state, what is held, how many bytes. -/
def hashC (st : S8) (hl : List UInt8) (n : Nat) : List Value := s8l st ++ (hl.map bv ++ [.int .u64 n])
def hashV (st : S8) (hl : List UInt8) (n : Nat) : Value := .agg (hashC st hl n).toArray
theorem hashC_length (st : S8) {hl : List UInt8} (n : Nat) (h : hl.length = 64) : (hashC st hl n).length = 73 := by simp [hashC, s8l, h]
theorem hashC_state (st : S8) (hl : List UInt8) (n : Nat) {i : Nat} (h : i < 8) : (hashC st hl n)[i]? = (s8l st)[i]? := by
  unfold hashC
  rw [List.getElem?_append_left (by simpa [s8l] using h)]
theorem hashC_held (st : S8) {hl : List UInt8} (n : Nat) (hh : hl.length = 64) {i : Nat} (h : i < 64) : (hashC st hl n)[8 + i]? = (hl.map bv)[i]? := by
  unfold hashC
  rw [List.getElem?_append_right (by simp [s8l]), List.getElem?_append_left (by simp [s8l, hh]; omega)]
  congr 1
  simp [s8l]
theorem hashC_size (st : S8) {hl : List UInt8} (n : Nat) (hh : hl.length = 64) : (hashC st hl n)[72]? = some (.int .u64 n) := by
  unfold hashC
  rw [List.getElem?_append_right (by simp [s8l]), List.getElem?_append_right (by simp [s8l, hh])]
  simp [s8l, hh]

theorem hashC_one (st : S8) (hl : List UInt8) (n : Nat) : (hashC st hl n).toArray.all (·.oneCell') = true := by
  rw [Array.all_eq_true_iff_forall_mem]
  intro v hv
  unfold hashC at hv
  simp only [List.mem_toArray, List.mem_append, List.mem_map, s8l, List.mem_cons, List.not_mem_nil, or_false] at hv
  rcases hv with (rfl | rfl | rfl | rfl | rfl | rfl | rfl | rfl) | ⟨c, _, rfl⟩ | rfl <;> rfl
/-- What a Hash begins with. -/
def begun (st : S8) (n : Nat) : S8 := if n < 64 then start8 else st

def zHash : S8 := ⟨0, 0, 0, 0, 0, 0, 0, 0⟩
end Go.Proofs.YtheidjnapoipaaaGreatDoor

namespace Go.Proofs.YtheidjnapoipaaaGreatDoor
open Go.RowKit
set_option linter.unusedVariables false

/-- What is held of a text, noughts behind. -/
def heldL (T : List UInt8) : List UInt8 := T.drop (64 * (T.length / 64)) ++ List.replicate (64 - T.length % 64) 0
theorem heldL_length (T : List UInt8) : (heldL T).length = 64 := by unfold heldL; simp; omega

theorem wpList_buildRun {P : Program} {ops : Array Oper} {rest : List Oper} {o : Oper} {a : Act} {w : World} {Q : Exit → Act → World → Prop} (hg : o.guard = none) (t : TypeId) (parts : Array (Nat × Operand)) (ho : o.op = .build t parts)
    (vals : Array (Nat × Value)) (cells : Array Value) (hv : (parts.map fun (i, x) => (i, a.eval x)) = vals) (hrun : ∀ W, (Instr.build t vals).run P W = .ok (.agg cells) W)
    (h : wpList P ops Q rest (a.put o.dst (.agg cells)) w) : wpList P ops Q (o :: rest) a w := by
  refine wpList_plain hg fun _ hK => ?_
  unfold Oper.wp execOp
  simp only [ho, Sem.run_bind, hv, hrun, Result.andThen_ok]
  exact hK _ _ h

/-- A text's rest laid over what is held. -/
theorem held_over (st : S8) (T : List UInt8) (n : Nat) : over (hashC st (List.replicate 64 0) n) 8 (T.drop (64 * (T.length / 64))) = hashC st (heldL T) n := by
  have hl : (T.drop (64 * (T.length / 64))).length = T.length % 64 := by rw [List.length_drop]; omega
  have h8 : (s8l st).length = 8 := rfl
  have e0 : (s8l st ++ ((List.replicate 64 0).map bv ++ [Value.int .u64 (n : Int)])).drop (8 + T.length % 64) = (List.replicate (64 - T.length % 64) 0).map bv ++ [Value.int .u64 (n : Int)] := by
    rw [show 8 + T.length % 64 = (s8l st).length + T.length % 64 by rw [h8], List.drop_length_add_append, List.drop_append_of_le_length (by simp; omega), List.map_replicate, List.map_replicate, List.drop_replicate]
  unfold over hashC heldL
  rw [List.take_left' h8, hl, e0, List.map_append, List.append_assoc, List.append_assoc]

/-- The state's words laid anew, what stands behind them stays. -/
theorem row8_pre {W : World} {g : Nat} {t : TypeId} {a b : S8} {r : List Value} (h : Row W g t (s8l a ++ r)) :
    Row ((((((((W.setCell ⟨g, 0, none⟩ (.int .u32 b.a.toNat)).setCell ⟨g, 1, none⟩ (.int .u32 b.b.toNat)).setCell ⟨g, 2, none⟩ (.int .u32 b.c.toNat)).setCell ⟨g, 3, none⟩ (.int .u32 b.d.toNat)).setCell ⟨g, 4, none⟩ (.int .u32 b.e.toNat)).setCell ⟨g, 5, none⟩ (.int .u32 b.f.toNat)).setCell ⟨g, 6, none⟩ (.int .u32 b.g.toNat)).setCell ⟨g, 7, none⟩ (.int .u32 b.h.toNat)) g t (s8l b ++ r) :=
  (((((((h.set 0 _).set 1 _).set 2 _).set 3 _).set 4 _).set 5 _).set 6 _).set 7 _

/-- The state behind more text. -/
def addS (st : S8) (n : Nat) (T : List UInt8) : S8 := if 64 ≤ T.length then mixK (begun st n) T (T.length / 64) else st

end Go.Proofs.YtheidjnapoipaaaGreatDoor

namespace Go.Proofs.YtheidjnapoipaaaGreatDoor
open Go.RowKit
set_option linter.unusedVariables false

theorem row_setCells {b : Nat} {t : TypeId} : ∀ (vs pre mid : List Value) (W : World), mid.length = vs.length → Row W b t (pre ++ mid) → Row (W.setCells b pre.length vs) b t (pre ++ vs)
  | [], pre, mid, W, hl, h => by
    have : mid = [] := List.length_eq_zero_iff.1 (by simpa using hl)
    subst this
    exact h
  | v :: vs, pre, [], W, hl, h => by simp at hl
  | v :: vs, pre, m :: mid, W, hl, h => by
    have h1 := h.set pre.length v
    rw [List.set_append_right _ _ (Nat.le_refl _), Nat.sub_self, List.set_cons_zero] at h1
    have h2 := row_setCells vs (pre ++ [v]) mid _ (by simpa using hl) (by rw [List.append_assoc]; exact h1)
    rw [List.append_assoc, List.length_append] at h2
    exact h2
theorem below_setCells {B : Nat} {w : World} {b : Nat} (hb : B ≤ b) : ∀ (vs : List Value) (o : Nat) (W : World), Below B w W → Below B w (W.setCells b o vs)
  | [], o, W, h => h
  | v :: vs, o, W, h => below_setCells hb vs (o + 1) _ (h.setCell (p := ⟨b, o, none⟩) hb v)
theorem row_there {W : World} {b : Nat} {t : TypeId} {z : List Value} (h : Row W b t z) : W.there b 0 z.length := fun j hj => by
  rw [Nat.zero_add]
  exact ⟨by rw [h.cell j, List.getElem?_eq_getElem hj]; rfl, h.frozen j⟩

theorem there_below {W W' : World} {b n : Nat} (h : W.there b 0 n) (hb : Below W.heap.size W W') (hl : b < W.heap.size) : W'.there b 0 n := fun j hj => by
  have := hb.block b hl
  have h1 := h j hj
  simp only [World.cell?, World.frozen?, this] at h1 ⊢
  exact h1

set_option maxRecDepth 4000 in
set_option maxHeartbeats 2000000 in
theorem Sum_any' (S0 : S8) (bk : Option Addr) (l c : Nat) (s : ByteArray) (hs : s.size ≤ 140737488355000) (w : World) (hG : Starts S0 w)
    (hJ : ∀ W, Below w.heap.size w W → Calls Tryz.prog 42 #[.slice bk l c, .string ⟨#[]⟩] W fun e w' => e = .returned (.string s) ∧ Below W.heap.size W w') :
    Calls Tryz.prog 140 #[.slice bk l c] w fun e w' => e = .returned (sumV (bytes8 (mixK S0 (padL s.data.toList) ((padL s.data.toList).length / 64)))) ∧ Below w.heap.size w w' := by
  have hz := (zero_of_info s32_info).1
  obtain ⟨w1, hw1⟩ : ∃ w1, w.alloc (.cells z32.toArray 158) = w1 := ⟨_, rfl⟩
  have hr1 : Row w1 w.heap.size 158 z32 := by rw [← hw1]; exact Row.new w _ _
  have hb1 : Below w.heap.size w w1 := by rw [← hw1]; exact (Below.refl _ _).alloc (Nat.le_refl _) _
  have hG1 : Starts S0 w1 := hG.below hb1
  obtain ⟨S, hS⟩ : ∃ S, mixK S0 (padL s.data.toList) ((padL s.data.toList).length / 64) = S := ⟨_, rfl⟩
  have HMIX : Hid (∀ (W : World) (Bn : Nat), Row W Bn 9 [.string s] → Calls Tryz.prog 150 #[s8v S0, .func (.func 158) #[] #[.pointer (some ⟨Bn, 0, none⟩)]] W fun e w' => e = .returned (s8v S) ∧ Below W.heap.size W w') := Lib.hid fun W Bn h => by
    rw [← hS]; exact mixed_blocks S0 s (by omega) W Bn h
  have HWR : Hid (∀ W : World, Calls Tryz.prog 149 #[s8v S] W fun e w' => e = .returned (sumV (bytes8 S)) ∧ Below W.heap.size W w') := Lib.hid fun W => written_any S W
  rw [hS]
  obtain ⟨cs, hcs⟩ : ∃ cs, (bytes8 S).map bv = cs := ⟨_, rfl⟩
  have hcl : cs.length = 32 := by rw [← hcs, ← sumRow_all, sumRow_length S (Nat.le_refl _)]
  have hc1 : ∀ v ∈ cs, v.oneCell' = true := by
    rw [← hcs]
    intro v hv
    simp only [List.mem_map] at hv
    obtain ⟨c, _, rfl⟩ := hv
    rfl
  have hsz : (Tryz.prog.info? 158).map (·.size) = some cs.length := by rw [s32_size, hcl]
  have ecs : sumV (bytes8 S) = .agg cs.toArray := by rw [← hcs]; rfl
  rw [ecs] at HWR ⊢
  have ht1 : w1.there w.heap.size 0 32 := row_there hr1
  obtain ⟨d0, d1, d2, d3, d4, d5, d6, d7⟩ := Starts.cells hG1
  have HW := Lib.hid (And.intro hw1 (And.intro hr1 (And.intro hb1 hG1)))
  have HJ := Lib.hid hJ
  have HS := Lib.hid hs
  have hw0 : 6 < w.heap.size := hG.lt
  have HK : Hid (∀ W, (Below w.heap.size w W ∧ W.there w.heap.size 0 32) → ((W.cell? ⟨6, 0, none⟩ = some (.int .u32 S0.a.toNat) ∧ W.cell? ⟨6, 1, none⟩ = some (.int .u32 S0.b.toNat) ∧ W.cell? ⟨6, 2, none⟩ = some (.int .u32 S0.c.toNat) ∧ W.cell? ⟨6, 3, none⟩ = some (.int .u32 S0.d.toNat) ∧
    W.cell? ⟨6, 4, none⟩ = some (.int .u32 S0.e.toNat) ∧ W.cell? ⟨6, 5, none⟩ = some (.int .u32 S0.f.toNat) ∧ W.cell? ⟨6, 6, none⟩ = some (.int .u32 S0.g.toNat) ∧ W.cell? ⟨6, 7, none⟩ = some (.int .u32 S0.h.toNat)) ∧ Below w.heap.size w W ∧ W.there w.heap.size 0 32)) := Lib.hid fun W h => ⟨Starts.cells (hG.below h.1), h⟩
  clear hw1 hr1 hb1 hG1 hcs hS ecs hJ hs hG d0 d1 d2 d3 d4 d5 d6 d7
  go_enter Tryz.func140, Tryz.ntmps140
  go_upto_region 1 with fail
  rw [HW.out.1]
  go_region_held3 (fun w' => (w'.cell? ⟨6, 0, none⟩ = some (.int .u32 S0.a.toNat) ∧ w'.cell? ⟨6, 1, none⟩ = some (.int .u32 S0.b.toNat) ∧ w'.cell? ⟨6, 2, none⟩ = some (.int .u32 S0.c.toNat) ∧ w'.cell? ⟨6, 3, none⟩ = some (.int .u32 S0.d.toNat) ∧
    w'.cell? ⟨6, 4, none⟩ = some (.int .u32 S0.e.toNat) ∧ w'.cell? ⟨6, 5, none⟩ = some (.int .u32 S0.f.toNat) ∧ w'.cell? ⟨6, 6, none⟩ = some (.int .u32 S0.g.toNat) ∧ w'.cell? ⟨6, 7, none⟩ = some (.int .u32 S0.h.toNat)) ∧ Below w.heap.size w w' ∧ w'.there w.heap.size 0 32)
    (first
      | (exact HK.out _ (by assumption))
      | (exact HK.out _ ⟨below_drewN HW.out.2.2.1 1, (World.there_drew _ _ _ _).2 ht1⟩)
      | (exact HK.out _ ⟨below_setCells (Nat.le_refl _) _ _ _ (And.left (by assumption)), World.there_setCells (And.right (by assumption)) _ _ _⟩))
    (first
      | (go_at_call 42
         refine (HJ.out _ (below_drewN HW.out.2.2.1 1)).mono ?_
         rintro e w2 ⟨rfl, hb2⟩
         have hr2 : Row w2 w.heap.size 158 z32 := (Row.drewN HW.out.2.1 1).below hb2 HW.out.2.1.lt
         have hk2 : Below w.heap.size w w2 ∧ w2.there w.heap.size 0 32 := ⟨(below_drewN HW.out.2.2.1 1).trans (hb2.mono HW.out.2.2.1.size), row_there hr2⟩)
      | (go_at_call 151
         refine (callsIn_wide.1 (blocks_in 0 s _)).mono ?_
         rintro e w3 ⟨rfl, hw3⟩
         have hb3 : Below w2.heap.size w2 w3 := by rw [hw3]; exact (Below.refl _ _).alloc (Nat.le_refl _) _
         have hx3 : Row w3 w2.heap.size 9 [.string s] := by rw [hw3]; exact Row.new w2 _ _
         have hr3 : Row w3 w.heap.size 158 z32 := hr2.below hb3 hr2.lt
         have hk3 : Below w.heap.size w w3 ∧ w3.there w.heap.size 0 32 := ⟨hk2.1.trans (hb3.mono hk2.1.size), row_there hr3⟩
         clear hw3)
      | (go_at_call 150
         refine (HMIX.out _ _ hx3).mono ?_
         rintro e w4 ⟨rfl, hb4⟩
         have hr4 : Row w4 w.heap.size 158 z32 := hr3.below hb4 hr3.lt
         have hk4 : Below w.heap.size w w4 ∧ w4.there w.heap.size 0 32 := ⟨hk3.1.trans (hb4.mono hk3.1.size), row_there hr4⟩)
      | (go_at_call 149
         refine (HWR.out _).mono ?_
         rintro e w5 ⟨rfl, hb5⟩
         have hr5 : Row w5 w.heap.size 158 z32 := hr4.below hb5 hr4.lt
         have hk5 : Below w.heap.size w w5 ∧ w5.there w.heap.size 0 32 := ⟨hk4.1.trans (hb5.mono hk4.1.size), row_there hr5⟩))
  go_wp2
  exact bodyPost_ret (v := .agg cs.toArray) (results_cell_row rfl _ _ w.heap.size 158 cs.toArray (0, 0) _ rfl (row_setCells cs [] z32 w5 (by rw [hcl]; rfl) hr5) Tryz.underlying158 rfl (by rw [s32_size, List.size_toArray, hcl])) rfl ⟨rfl, below_setCells (Nat.le_refl _) _ _ _ hk5.1⟩

/-- The sum of the parts. -/
theorem Sum_any (bk o c : Nat) (xs : List ByteArray) (w : World) (hG : G w) (hcells : ∀ (j : Nat) x, xs[j]? = some x → w.cell? ⟨bk, o + j, none⟩ = some (.string x)) (hbk : bk < w.heap.size) (hN : xs.length ≤ c) (hl : xs.length ≤ 140737488355328)
    (T : List UInt8) (hT : Lib.join (xs.map (·.data.toList)) [] = T) (hTl : T.length ≤ 140737488355000) :
    Calls Tryz.prog 140 #[.slice (some ⟨bk, o, none⟩) xs.length c] w fun e w' => e = .returned (sumV (shaL T)) ∧ Below w.heap.size w w' := by
  subst hT
  refine (Sum_any' start8 (some ⟨bk, o, none⟩) xs.length c ⟨(Lib.join (xs.map (·.data.toList)) []).toArray⟩ (by show (Lib.join (xs.map (·.data.toList)) []).toArray.size ≤ _; rw [List.size_toArray]; exact hTl) w hG (fun W hb => ?_)).mono ?_
  · exact Tryz.strings_Join bk o c xs ⟨#[]⟩ W (fun j x hx => (hb.cell (p := ⟨bk, o + j, none⟩) hbk).trans (hcells j x hx)) (Nat.lt_of_lt_of_le hbk hb.size) hl hN (by show (Lib.join (xs.map (·.data.toList)) []).length ≤ _; omega)
  · rintro e w' ⟨rfl, hb⟩
    exact ⟨rfl, hb⟩
/-- The sum of nothing. -/
theorem Sum_none (a : Option Addr) (c : Nat) (w : World) (hG : G w) :
    Calls Tryz.prog 140 #[.slice a 0 c] w fun e w' => e = .returned (sumV (shaL [])) ∧ Below w.heap.size w w' := by
  refine (Sum_any' start8 a 0 c ⟨#[]⟩ (by decide) w hG (fun W hb => ?_)).mono ?_
  · exact (Tryz.strings_Join_none a c ⟨#[]⟩ W).mono fun e w' h => ⟨h.1, by rw [h.2]; exact Below.refl _ _⟩
  · rintro e w' ⟨rfl, hb⟩
    exact ⟨rfl, hb⟩
end Go.Proofs.YtheidjnapoipaaaGreatDoor

namespace Go.Proofs.YtheidjnapoipaaaGreatDoor
open Go.RowKit
set_option linter.unusedVariables false
theorem bytes8_length (S : S8) : (bytes8 S).length = 32 := by rw [← List.length_map (f := bv), ← sumRow_all, sumRow_length S (Nat.le_refl _)]
theorem shaL_length (l : List UInt8) : (shaL l).length = 32 := bytes8_length _

set_option maxRecDepth 4000 in
set_option maxHeartbeats 2000000 in
theorem Text_any' (bk : Option Addr) (l c : Nat) (T : List UInt8) (w : World) (hG : G w)
    (hJ : ∀ W, Below w.heap.size w W → G W → Calls Tryz.prog 140 #[.slice bk l c] W fun e w' => e = .returned (sumV (shaL T)) ∧ Below W.heap.size W w') :
    Calls Tryz.prog 122 #[.slice bk l c] w fun e w' => e = .returned (.string ⟨(shaL T).toArray⟩) ∧ Below w.heap.size w w' := by
  have hz := (zero_of_info s32_info).1
  have hl := shaL_length T
  obtain ⟨L, hL⟩ : ∃ L, shaL T = L := ⟨_, rfl⟩
  obtain ⟨cs, hcs⟩ : ∃ cs, L.map bv = cs := ⟨_, rfl⟩
  rw [hL] at hl hJ ⊢
  have hcl : cs.length = 32 := by rw [← hcs, List.length_map, hl]
  have hc1 : cs.toArray.all (·.oneCell') = true := by
    rw [← hcs, Array.all_eq_true_iff_forall_mem]
    intro v hv
    simp only [List.mem_toArray, List.mem_map] at hv
    obtain ⟨c, _, rfl⟩ := hv
    rfl
  have ecs : sumV L = .agg cs.toArray := by rw [← hcs]; rfl
  rw [ecs] at hJ
  have HJ := Lib.hid hJ
  have HC := Lib.hid (And.intro hcl (And.intro hc1 (And.intro hcs hl)))
  clear hJ hcl hc1 hcs hl hL ecs
  go_enter Tryz.func122, Tryz.ntmps122
  go_upto_region 2 with (first
    | (go_at_call 140
       refine (HJ.out w (Below.refl _ _) hG).mono ?_
       rintro e w2 ⟨rfl, hb2⟩)
    | (refine wpList_store_row rfl 158 (.tmp 3) (.tmp 5) rfl w2.heap.size cs.toArray rfl rfl 158 z32.toArray (Row.new w2 _ _) (by rw [s32_size, List.size_toArray, HC.out.1]) (by rw [List.size_toArray, List.size_toArray, HC.out.1]; rfl) HC.out.2.1 ?_))
  obtain ⟨w3, hw3⟩ : ∃ w3, (w2.alloc (.cells z32.toArray 158)).setRow w2.heap.size cs.toArray = w3 := ⟨_, rfl⟩
  rw [hw3]
  have r3 : Row w3 w2.heap.size 158 cs := by rw [← hw3]; exact (Row.new w2 158 z32).put cs
  have b3 : Below w.heap.size w w3 := by
    rw [← hw3]
    exact hb2.trans (below_setRow (B := w.heap.size) ((Below.refl _ _).alloc hb2.size _) hb2.size cs.toArray)
  have hsl := fun W => slice_arr_all (P := Tryz.prog) 158 5 32 Tryz.underlying158 Tryz.sizeOf5 w2.heap.size 0 (by omega) W
  have hcv := conv_bytes (P := Tryz.prog) w3 76 9 5 Tryz.underlying76 Tryz.underlying5 Tryz.underlying9 w2.heap.size 0 32 32 L HC.out.2.2.2 (fun i hi => by
    rw [Nat.zero_add, r3.cell, HC.out.2.2.1])
  clear hw3 r3 hb2
  go_wp2
  go_ret
  exact ⟨rfl, b3⟩

theorem Text_any (bk o c : Nat) (xs : List ByteArray) (w : World) (hG : G w) (hcells : ∀ (j : Nat) x, xs[j]? = some x → w.cell? ⟨bk, o + j, none⟩ = some (.string x)) (hbk : bk < w.heap.size) (hN : xs.length ≤ c) (hl : xs.length ≤ 140737488355328)
    (T : List UInt8) (hT : Lib.join (xs.map (·.data.toList)) [] = T) (hTl : T.length ≤ 140737488355000) :
    Calls Tryz.prog 122 #[.slice (some ⟨bk, o, none⟩) xs.length c] w fun e w' => e = .returned (.string ⟨(shaL T).toArray⟩) ∧ Below w.heap.size w w' :=
  Text_any' _ _ _ T w hG fun W hb hg => Sum_any bk o c xs W hg (fun j x hx => (hb.cell (p := ⟨bk, o + j, none⟩) hbk).trans (hcells j x hx)) (Nat.lt_of_lt_of_le hbk hb.size) hN hl T hT hTl
theorem Text_none (a : Option Addr) (c : Nat) (w : World) (hG : G w) :
    Calls Tryz.prog 122 #[.slice a 0 c] w fun e w' => e = .returned (.string ⟨(shaL []).toArray⟩) ∧ Below w.heap.size w w' :=
  Text_any' _ _ _ [] w hG fun W hb hg => Sum_none a c W hg
end Go.Proofs.YtheidjnapoipaaaGreatDoor

namespace Go.Proofs.YtheidjnapoipaaaGreatDoor
open Go.RowKit
set_option linter.unusedVariables false

/-- An array's row, sliced. -/
theorem slice_arr_lh {P : Program} (t e : TypeId) (n : Nat) (ht : P.underlying t = some (.array n e)) (hz : ∀ W, (sizeOf e).run P W = .ok 1 W) (g off l h : Nat) (hl : l ≤ h) (hh : h ≤ n) (hn : l < n) (W : World) :
    (Instr.sliceAt t (.pointer (some ⟨g, off, none⟩)) (some (.int .i64 (l : Int))) (some (.int .i64 (h : Int))) none).run P W = .ok (.slice (some ⟨g, off + l, none⟩) (h - l) (n - l)) W := by
  have hn' : P.arrayLen t = n := by simp [Program.arrayLen, ht]
  have he : P.elem t = e := by simp [Program.elem, ht]
  rw [run_sliceAt_array_lh (P := P) W t ⟨g, off, none⟩ (by rw [hn', he]; exact ht) .i64 .i64 (l : Int) (h : Int) (by omega) (by omega) (by rw [hn']; omega), he, hz, hn']
  have hadd : (⟨g, off, none⟩ : Addr).add l = ⟨g, off + l, none⟩ := by unfold Addr.add; split <;> simp_all
  simp only [Result.andThen_ok, slicedAt, Int.toNat_natCast, if_neg (by omega : ¬ n = l), Nat.mul_one, hadd]

def stN (k : Nat) : Nat := [0, 4, 6, 8, 10, 16].getD k 0
/-- The k-th part's letters. -/
def ptL (l : List UInt8) (k : Nat) : List UInt8 := (l.drop (stN k)).take (stN (k + 1) - stN k)
def ptS (l : List UInt8) (k : Nat) : ByteArray := ⟨(hexL (ptL l k)).toArray⟩
/-- The parts that are there, nothing behind. -/
def ptR (l : List UInt8) (k : Nat) : List Value := (List.range k).map (fun j => Value.string (ptS l j)) ++ List.replicate (5 - k) (.string ⟨#[]⟩)
theorem ptR_set (l : List UInt8) {k : Nat} (h : k < 5) : (ptR l k).set k (.string (ptS l k)) = ptR l (k + 1) := by
  rcases (by omega : k = 0 ∨ k = 1 ∨ k = 2 ∨ k = 3 ∨ k = 4) with rfl | rfl | rfl | rfl | rfl <;> rfl
theorem ptR_length (l : List UInt8) {k : Nat} (h : k ≤ 5) : (ptR l k).length = 5 := by unfold ptR; simp; omega
theorem stN_le {k : Nat} (h : k < 5) : stN k ≤ stN (k + 1) ∧ stN (k + 1) ≤ 16 ∧ stN k < 16 := by
  rcases (by omega : k = 0 ∨ k = 1 ∨ k = 2 ∨ k = 3 ∨ k = 4) with rfl | rfl | rfl | rfl | rfl <;> decide
def enA : Array Value := #[.int .i64 4, .int .i64 6, .int .i64 8, .int .i64 10, .int .i64 16]
theorem enA_get {k : Nat} (h : k < 5) : enA[k]? = some (.int .i64 ((stN (k + 1) : Nat) : Int)) := by
  rcases (by omega : k = 0 ∨ k = 1 ∨ k = 2 ∨ k = 3 ∨ k = 4) with rfl | rfl | rfl | rfl | rfl <;> rfl
theorem idL_join (l : List UInt8) (hl : l.length = 16) : Lib.join ([ptS l 0, ptS l 1, ptS l 2, ptS l 3, ptS l 4].map (·.data.toList)) [45] = idL l := by
  have h4 : ptL l 4 = l.drop 10 := by
    show (l.drop 10).take 6 = _
    exact List.take_of_length_le (by rw [List.length_drop, hl]; omega)
  have e : ∀ k, (ptS l k).data.toList = hexL (ptL l k) := fun k => rfl
  simp only [List.map_cons, List.map_nil, e, h4]
  unfold idL
  simp [Lib.join, ptL, stN]

set_option maxRecDepth 20000 in
set_option maxHeartbeats 4000000 in
theorem idText_any (l : List UInt8) (hl : l.length = 16) (w : World) :
    Calls Tryz.prog 30 #[.agg (l.map bv).toArray] w fun e w' => e = .returned (.string ⟨(idL l).toArray⟩) ∧ Below w.heap.size w w' := by
  obtain ⟨C, hC⟩ : ∃ C, l.map bv = C := ⟨_, rfl⟩
  rw [hC]
  have hr0 := (Row.new w 64 C).alloc (.cells (ptR l 0).toArray 73)
  have hr1 := Row.new (w.alloc (.cells C.toArray 64)) 73 (ptR l 0)
  rw [World.size_alloc] at hr1
  have hb0 : Below w.heap.size w ((w.alloc (.cells C.toArray 64)).alloc (.cells (ptR l 0).toArray 73)) := ((Below.refl _ _).alloc (Nat.le_refl _) _).alloc (by simp) _
  have H0 := Lib.hid (And.intro hr0 (And.intro hr1 hb0))
  have HC := Lib.hid hC
  clear hC hr0 hr1 hb0
  go_enter Tryz.func30, Tryz.ntmps30
  go_wp2_with fail
  obtain ⟨hr0, hr1, hb0⟩ := H0.out
  have ez : (ptR l 0).toArray = #[.string ⟨#[]⟩, .string ⟨#[]⟩, .string ⟨#[]⟩, .string ⟨#[]⟩, .string ⟨#[]⟩] := rfl
  rw [ez] at hr0 hr1 hb0
  generalize (w.alloc (.cells C.toArray 64)).alloc (.cells #[.string ⟨#[]⟩, .string ⟨#[]⟩, .string ⟨#[]⟩, .string ⟨#[]⟩, .string ⟨#[]⟩] 73) = w1 at hr0 hr1 hb0 ⊢
  clear H0 ez
  go_loopw [4, 8] (fun st i wr => ∃ k : Nat, k ≤ 5 ∧ i = .int .i64 k ∧ st = .int .i64 (stN k : Nat) ∧ Row wr w.heap.size 64 C ∧ Row wr (w.heap.size + 1) 73 (ptR l k) ∧ Below w.heap.size w wr) (fun _ i _ => 5 - (intOf i).toNat)
  case atStart => exact ⟨0, Nat.zero_le _, rfl, rfl, hr0, hr1, hb0⟩
  case round =>
    obtain ⟨k, hk, rfl, rfl, h0, h1, hb⟩ := hrel
    clear hr0 hr1 hb0
    by_cases hlt : k < 5
    · have hix := fun W' => run_index_agg (P := Tryz.prog) 74 3 5 enA k _ Tryz.underlying74 hlt (enA_get hlt) W' (Tryz.sizeOf3 W') (Tryz.isAgg3 W')
      unfold enA at hix
      obtain ⟨hs1, hs2, hs3⟩ := stN_le hlt
      have hE : Hid (∀ W : World, Calls Tryz.prog 41 #[alph hexS 4 false, .string ⟨(ptL l k).toArray⟩] W fun e w' => e = .returned (.string (ptS l k)) ∧ Below W.heap.size W w') := Lib.hid fun W => by
        have h := Encode_S hexS 4 false ⟨(ptL l k).toArray⟩ W (.inl rfl) rfl (by show (ptL l k).toArray.size ≤ _; rw [List.size_toArray]; unfold ptL; rw [List.length_take, List.length_drop]; omega)
        rwa [encS_hex] at h
      obtain ⟨a, ha⟩ : ∃ a, stN k = a := ⟨_, rfl⟩
      obtain ⟨b, hbn⟩ : ∃ b, stN (k + 1) = b := ⟨_, rfl⟩
      have hpl : ptL l k = (l.drop a).take (b - a) := by unfold ptL; rw [ha, hbn]
      rw [ha] at hs1 hs3
      rw [hbn] at hs1 hs2 hix
      have hsl := fun W => slice_arr_lh (P := Tryz.prog) 64 5 16 Tryz.underlying64 Tryz.sizeOf5 w.heap.size 0 a b hs1 hs2 hs3 W
      have hcv : ∀ W, Below wr.heap.size wr W → (convert 76 9 (.slice (some ⟨w.heap.size, a, none⟩) (b - a) (16 - a))).run Tryz.prog W = .ok (.string ⟨(ptL l k).toArray⟩) W := fun W hW =>
        conv_bytes (P := Tryz.prog) W 76 9 5 Tryz.underlying76 Tryz.underlying5 Tryz.underlying9 w.heap.size a (b - a) (16 - a) (ptL l k) (by rw [hpl, List.length_take, List.length_drop, hl]; omega) (fun i hi => by
          rw [(h0.below hW h0.lt).cell, ← HC.out, hpl, List.getElem?_map, List.getElem?_map, List.getElem?_take_of_lt hi, List.getElem?_drop])
      have HR := Lib.hid (And.intro h0 (And.intro h1 (And.intro hb (And.intro ha (And.intro hbn hcv)))))
      have hgl := h1.lt
      rw [ha]
      clear h0 h1 hb ha hbn hpl
      go_wp2_with fail
      refine region_tail 8 (Below wr.heap.size wr) (by kernel_rfl) (by kernel_rfl) rfl (below_drewN (Below.refl _ _) 1) ?_
      simp only [List.take_succ_cons, List.take_zero]
      repeat (go_big_quiet_step ((first
        | (intro hC; with_reducible rfl)
        | (intro hC; rw [hcv _ hC]; exact ⟨rfl, rfl⟩)
        | (intro hC; go_at_call 40; refine (Hex_any _).mono ?_; rintro e w'' ⟨rfl, hb⟩; exact ⟨rfl, hC.trans (hb.mono hC.size)⟩)
        | (intro hC; go_at_call 41; refine (hE.out _).mono ?_; rintro e w'' ⟨rfl, hb⟩; exact ⟨rfl, hC.trans (hb.mono hC.size)⟩))))
      refine wpQuiet_nil ?_
      intro w7 hw7
      have h0 := (HR.out.1.below hw7 HR.out.1.lt).far (p := ⟨w.heap.size + 1, k, none⟩) (by show w.heap.size ≠ w.heap.size + 1; omega) (.string (ptS l k))
      have h1 := (HR.out.2.1.below hw7 HR.out.2.1.lt).set k (.string (ptS l k))
      rw [ptR_set l hlt] at h1
      have hb := (HR.out.2.2.1.trans (hw7.mono HR.out.2.2.1.size)).setCell (p := ⟨w.heap.size + 1, k, none⟩) (by show w.heap.size ≤ w.heap.size + 1; omega) (.string (ptS l k))
      have hf0 := (HR.out.2.1.below hw7 HR.out.2.1.lt).frozen k
      obtain ⟨v0, hc0⟩ : ∃ v, w7.cell? ⟨w.heap.size + 1, k, none⟩ = some v := by
        rw [(HR.out.2.1.below hw7 HR.out.2.1.lt).cell]; exact ⟨_, List.getElem?_eq_getElem (by rw [ptR_length l hk]; exact hlt)⟩
      have HV := Lib.hid (And.intro h0 (And.intro h1 hb))
      clear h0 h1 hb hcv hsl hix hw7
      go_wp2
      go_roundw
      case rel => exact ⟨k + 1, by omega, by go_num, by rw [HR.out.2.2.2.2.1], HV.out.1, HV.out.2.1, HV.out.2.2⟩
      case measure => simp [intOf]; omega
    · have hk5 : k = 5 := by omega
      rw [hk5] at h1
      have hge : 5 ≤ k := by omega
      have hsl := fun W => slice_arr_all (P := Tryz.prog) 73 9 5 Tryz.underlying73 Tryz.sizeOf9 (w.heap.size + 1) 0 (by omega) W
      have hJ : Hid (∀ W : World, Row W (w.heap.size + 1) 73 (ptR l 5) → Calls Tryz.prog 42 #[.slice (some ⟨w.heap.size + 1, 0, none⟩) 5 5, .string ⟨#[45]⟩] W fun e w' => e = .returned (.string ⟨(idL l).toArray⟩) ∧ Below W.heap.size W w') := Lib.hid fun W hW => by
        have e := idL_join l hl
        have h := Tryz.strings_Join (w.heap.size + 1) 0 5 [ptS l 0, ptS l 1, ptS l 2, ptS l 3, ptS l 4] ⟨#[45]⟩ W (fun j x hx => by
          rw [Nat.zero_add, hW.cell]
          match j, hx with
          | 0, hx => cases hx; rfl
          | 1, hx => cases hx; rfl
          | 2, hx => cases hx; rfl
          | 3, hx => cases hx; rfl
          | 4, hx => cases hx; rfl) hW.lt (by simp) (by simp) (by show (Lib.join _ [45]).length ≤ _; rw [e, idL_length l hl]; omega)
        rw [show (ByteArray.mk #[45]).data.toList = [45] from rfl, e] at h
        exact h
      have HH := Lib.hid (And.intro h1 hb)
      clear h0 h1 hb hk5 hlt hk
      go_wp2_with (go_at_call 42; refine (hJ.out _ HH.out.1).mono ?_; rintro e w2 ⟨rfl, hb2⟩)
      go_ret
      exact ⟨rfl, HH.out.2.trans (hb2.mono HH.out.2.size)⟩
end Go.Proofs.YtheidjnapoipaaaGreatDoor

namespace Go.Proofs.YtheidjnapoipaaaGreatDoor
open Go.RowKit
set_option linter.unusedVariables false

theorem run_row_bytes {P : Program} {W : World} {g : Nat} {t : TypeId} {l : List UInt8} (h : Row W g t (l.map bv)) :
    (Extern.Bytes.loadBytes ⟨g, 0, none⟩ l.length .empty).run P W = .ok ⟨l.toArray⟩ W := by
  have h1 := Lib.run_loadBytesX (P := P) W (l.map fun x => (x.toNat : Int)) ⟨g, 0, none⟩ .empty (fun j x hx => by
    have e : (⟨g, 0, none⟩ : Addr).add j = ⟨g, j, none⟩ := by unfold Addr.add; split <;> simp_all
    rw [e, h.cell, List.getElem?_map]
    rw [List.getElem?_map] at hx
    cases hl : l[j]? with
    | none => rw [hl] at hx; cases hx
    | some y => rw [hl] at hx; cases hx; rfl)
  rw [List.length_map] at h1
  rw [h1]
  congr 1
  apply ByteArray.ext
  show #[] ++ (Lib.bytesOf _).toArray = l.toArray
  rw [Array.empty_append]
  congr 1
  unfold Lib.bytesOf
  rw [List.map_map]
  conv => rhs; rw [← List.map_id l]
  apply List.map_congr_left
  intro c _
  simp
theorem cmpB_cons (x y : UInt8) (a b : List UInt8) : Lib.compareBytes (x :: a) (y :: b) = if x < y then -1 else if y < x then 1 else Lib.compareBytes a b := by rw [Lib.compareBytes]
theorem compareBytes_lt : ∀ (a b : List UInt8), Lib.compareBytes a b < 0 ↔ a < b
  | [], [] => by simp [Lib.compareBytes]
  | [], _ :: _ => by simp [Lib.compareBytes]
  | _ :: _, [] => by simp [Lib.compareBytes]
  | x :: a, y :: b => by
    have ih := compareBytes_lt a b
    rw [List.cons_lt_cons_iff, ← ih, cmpB_cons]
    by_cases h : x < y
    · simp [h]
    · by_cases h2 : y < x
      · rw [if_neg h, if_pos h2]
        have hn : x ≠ y := fun e => by subst e; exact UInt8.lt_irrefl _ h2
        simp [h, hn]
      · have e : x = y := UInt8.le_antisymm (UInt8.not_lt.1 h2) (UInt8.not_lt.1 h)
        rw [if_neg h, if_neg h2]
        subst e
        simp
theorem compareBytes_eq : ∀ (a b : List UInt8), Lib.compareBytes a b = 0 ↔ a = b
  | [], [] => by simp [Lib.compareBytes]
  | [], _ :: _ => by simp [Lib.compareBytes]
  | _ :: _, [] => by simp [Lib.compareBytes]
  | x :: a, y :: b => by
    have ih := compareBytes_eq a b
    rw [List.cons.injEq, ← ih, cmpB_cons]
    by_cases h : x < y
    · have hn : x ≠ y := fun e => by subst e; exact UInt8.lt_irrefl _ h
      simp [h, hn]
    · by_cases h2 : y < x
      · rw [if_neg h, if_pos h2]
        have hn : x ≠ y := fun e => by subst e; exact UInt8.lt_irrefl _ h2
        simp [hn]
      · have e : x = y := UInt8.le_antisymm (UInt8.not_lt.1 h2) (UInt8.not_lt.1 h)
        rw [if_neg h, if_neg h2]
        subst e
        simp
theorem compareBytes_neg : ∀ (a b : List UInt8), Lib.compareBytes a b = - Lib.compareBytes b a
  | [], [] => by simp [Lib.compareBytes]
  | [], _ :: _ => by simp [Lib.compareBytes]
  | _ :: _, [] => by simp [Lib.compareBytes]
  | x :: a, y :: b => by
    have ih := compareBytes_neg a b
    rw [cmpB_cons, cmpB_cons]
    by_cases h : x < y
    · have h2 : ¬ y < x := fun h2 => UInt8.lt_irrefl _ (UInt8.lt_trans h h2)
      rw [if_pos h, if_neg h2, if_pos h]
    · by_cases h2 : y < x
      · rw [if_neg h, if_pos h2, if_pos h2]
        rfl
      · rw [if_neg h, if_neg h2, if_neg h2, if_neg h, ih]
theorem compareBytes_bound : ∀ (a b : List UInt8), -1 ≤ Lib.compareBytes a b ∧ Lib.compareBytes a b ≤ 1
  | [], [] => by simp [Lib.compareBytes]
  | [], _ :: _ => by simp [Lib.compareBytes]
  | _ :: _, [] => by simp [Lib.compareBytes]
  | x :: a, y :: b => by
    have ih := compareBytes_bound a b
    rw [cmpB_cons]
    split
    · omega
    · split
      · omega
      · exact ih

end Go.Proofs.YtheidjnapoipaaaGreatDoor

namespace Go.Proofs.YtheidjnapoipaaaGreatDoor
open Go.RowKit Go.Shelf
set_option linter.unusedVariables false
attribute [local go_sem] Oper.semAt_some

/-- What a round keeps of the iterator's: its two boxes. -/
def KeepsB (Bn : Nat) (W W' : World) : Prop := W'.heap[Bn]? = W.heap[Bn]? ∧ W'.heap[Bn + 1]? = W.heap[Bn + 1]?
theorem keepsB_t {Bn : Nat} {A B C : World} (h : KeepsB Bn A B) (k : KeepsB Bn B C) : KeepsB Bn A C := ⟨k.1.trans h.1, k.2.trans h.2⟩
theorem keepsB_b {Bn : Nat} {w : World} (hn : Bn + 1 < w.heap.size) (W : World) (l : Nat) (o o' : Obj) (hl : w.heap.size ≤ l) (h : W.heap[l]? = some o) (h1 : o.isCells = false) (hw : o.isWalk = false) : KeepsB Bn W (W.putObj l o') :=
  ⟨World.putObj_heap_other (by omega), World.putObj_heap_other (by omega)⟩
theorem keepsB_set {Bn B i : Nat} (W : World) (h : Bn ≠ B) (h1 : Bn + 1 ≠ B) (v : Value) : KeepsB Bn W (W.setCell ⟨B, i, none⟩ v) :=
  ⟨Below.heap_setCell W ⟨B, i, none⟩ v Bn h, Below.heap_setCell W ⟨B, i, none⟩ v (Bn + 1) h1⟩

theorem wl_snoc (b : Nat) {s : ByteArray} {j : Nat} (h : j < s.size) : wl b ((rv s).drop j) = wgt b ((rv s).getD j 0) :: wl (b + 1) ((rv s).drop (j + 1)) := by
  rw [rv_drop s j h]; rfl
theorem wl_stop (b : Nat) {s : ByteArray} {j : Nat} (h : s.size ≤ j) : wl b ((rv s).drop j) = [] := by
  rw [List.drop_eq_nil_of_le (by rw [rv_length]; exact h)]; rfl

/-- A weight. -/
abbrev Wn := { x : Nat // x ≤ 9 }

set_option maxRecDepth 100000 in
set_option maxHeartbeats 1000000 in
theorem weights1_in (n : Nat) (hn : 1 ≤ n) (l Bn b : Nat) (s : ByteArray) (hs : s.size ≤ 1000) (hb : b ≤ 1) (hD : isD s = true) (J Jx : List Wn → World → Prop)
    (hY : ∀ pre x W, J pre W → pre.length < s.size → YieldAt Fence.wide (n - 1) Tryz.prog l #[.int .i64 (x.1 : Nat)] W fun e W' =>
      (e = .returned (.bool true) ∧ J (pre ++ [x]) W' ∧ KeepsB Bn W W') ∨ (e = .returned (.bool false) ∧ Jx (pre ++ [x]) W'))
    (W : World) (hJ : AbidesFrom W.heap.size J) (hb1 : W.heap[Bn]? = some (.cells #[.string s] 9 (0, 0))) (hb2 : W.heap[Bn + 1]? = some (.cells #[.int .i64 b] 3 (0, 0))) (h0 : J [] W) :
    CallsIn Fence.wide n Tryz.prog 110 #[.func (.yield l) #[] #[], .pointer (some ⟨Bn, 0, none⟩), .pointer (some ⟨Bn + 1, 0, none⟩)] W fun e W' => (∃ v, e = .returned v) ∧
      ((∃ ys : List Wn, ys.map Subtype.val = wl b (rv s) ∧ J ys W') ∨ (∃ pre : List Wn, pre.map Subtype.val <+: wl b (rv s) ∧ Jx pre W')) := by
  have hc1 : W.cell? ⟨Bn, 0, none⟩ = some (.string s) := by simp [World.cell?, hb1]
  have hc2 : W.cell? ⟨Bn + 1, 0, none⟩ = some (.int .i64 b) := by simp [World.cell?, hb2]
  have HD := Lib.hid hD
  clear hD
  refine callsIn_of_wp Tryz.func110 rfl trivial ?_ rfl
  simp only [Tryz.ntmps110, List.size_toArray, List.length_cons, List.length_nil, Nat.reduceAdd, Nat.reduceSub, Array.replicate_succ, Array.replicate_zero, List.push_toArray, List.append_toArray, List.nil_append, List.cons_append]
  gi_wp2
  gi_loopw [8] (fun i wr => ∃ (pre : List Wn) (j : Nat), i = .int .i64 j ∧ j ≤ s.size ∧ pre.length = j ∧ wr.heap[Bn]? = some (.cells #[.string s] 9 (0, 0)) ∧ wr.heap[Bn + 1]? = some (.cells #[.int .i64 b] 3 (0, 0)) ∧ Hid (wl b (rv s) = pre.map Subtype.val ++ wl (b + j) ((rv s).drop j)) ∧ J pre wr)
    (fun i _ => s.size - (intOf i).toNat)
  case atStart =>
    exact ⟨[], 0, rfl, Nat.zero_le _, rfl, hb1, hb2, Lib.hid rfl, h0⟩
  case round =>
    obtain ⟨pre, j, rfl, hj, hpl, hx1, hx2, HX, hJs⟩ := hrel
    have hd1 : wr.cell? ⟨Bn, 0, none⟩ = some (.string s) := by simp [World.cell?, hx1]
    have hd2 : wr.cell? ⟨Bn + 1, 0, none⟩ = some (.int .i64 b) := by simp [World.cell?, hx2]
    by_cases hlt : j < s.size
    · have hix := run_index_str_d (P := Tryz.prog) 9 s (s.size - 1 - j) Tryz.underlying9 (by omega)
      rw [← rv_get s j hlt] at hix
      have hstep := wl_snoc (b + j) hlt
      have hdg := rv_dig HD.out j hlt
      generalize hcc : (rv s).getD j 0 = c at hix hstep hdg
      have hq : ((s.size - 1 - j : Nat) : Int) = (s.size : Int) - 1 - (j : Int) := by omega
      rw [hq] at hix
      have hc := (isDig_iff _).1 hdg
      have h48 : (48 : Int) ≤ (c.toNat : Int) := by omega
      have h57 : (c.toNat : Int) ≤ 57 := by omega
      have hdv : ((dv c : Nat) : Int) = (c.toNat : Int) - 48 := by unfold dv; omega
      have hd9 := dv_le hdg
      have hw9 := wgt_le (b + j) hdg
      have hnx : Hid (wl b (rv s) = (pre ++ [(⟨wgt (b + j) c, hw9⟩ : Wn)]).map Subtype.val ++ wl (b + (j + 1)) ((rv s).drop (j + 1))) := Lib.hid (by
        rw [HX.out, hstep]; simp; congr 1)
      by_cases hpar : (b + j) % 2 = 1
      · have hp : ((j : Int) + (b : Int)) % 2 = 1 := by omega
        obtain ⟨fn, tmps, assign, body, hy, hR⟩ := hY pre ⟨wgt (b + j) c, hw9⟩ wr hJs (by omega)
        dsimp only at hy
        rw [wgt_odd c hpar] at hy
        have hdb := doubled_any (dv c) wr hd9
        rw [hdv] at hdb
        clear hstep hq hdg hcc hc
        gi_wp2_with (refine ⟨trivial, ?_⟩; gi_at_call 111; refine (callsIn_wide.2 hdb).mono ?_; rintro e w' ⟨rfl, rfl⟩)
        refine hR.mono ?_
        rintro e W3 (⟨rfl, hJ3, hk3⟩ | ⟨rfl, hJx3⟩)
        · gi_wp2
          go_roundw
          case rel => exact ⟨_, j + 1, by go_num, by omega, by simp [hpl], hk3.1.trans hx1, hk3.2.trans hx2, hnx, hJ3⟩
          case measure => simp [intOf]; omega
        · gi_wp2
          refine bodyPost_ret (results_none rfl _ _ _) rfl ?_
          exact ⟨⟨_, rfl⟩, .inr ⟨_, ⟨_, hnx.out.symm⟩, hJx3⟩⟩
      · have hp : ((j : Int) + (b : Int)) % 2 = 0 := by omega
        obtain ⟨fn, tmps, assign, body, hy, hR⟩ := hY pre ⟨wgt (b + j) c, hw9⟩ wr hJs (by omega)
        dsimp only at hy
        rw [wgt_even c hpar, hdv] at hy
        clear hstep hq hdg hcc hc
        gi_wp2
        refine hR.mono ?_
        rintro e W3 (⟨rfl, hJ3, hk3⟩ | ⟨rfl, hJx3⟩)
        · gi_wp2
          go_roundw
          case rel => exact ⟨_, j + 1, by go_num, by omega, by simp [hpl], hk3.1.trans hx1, hk3.2.trans hx2, hnx, hJ3⟩
          case measure => simp [intOf]; omega
        · gi_wp2
          refine bodyPost_ret (results_none rfl _ _ _) rfl ?_
          exact ⟨⟨_, rfl⟩, .inr ⟨_, ⟨_, hnx.out.symm⟩, hJx3⟩⟩
    · have hX : Hid (pre.map Subtype.val = wl b (rv s)) := Lib.hid (by rw [HX.out, wl_stop (b + j) (by omega), List.append_nil])
      gi_wp2
      go_end0
      exact ⟨⟨_, rfl⟩, .inl ⟨pre, hX.out, hJs⟩⟩

set_option maxHeartbeats 1000000 in
theorem weights_in (n b : Nat) (s : ByteArray) (w : World) :
    CallsIn Fence.wide n Tryz.prog 98 #[.string s, .int .i64 b] w fun e w' => e = .returned (.func (.func 110) #[] #[.pointer (some ⟨w.heap.size, 0, none⟩), .pointer (some ⟨w.heap.size + 1, 0, none⟩)]) ∧ w' = (w.alloc (.cells #[.string s] 9)).alloc (.cells #[.int .i64 b] 3) := by
  refine callsIn_of_wp Tryz.func98 rfl trivial ?_ rfl
  simp only [Tryz.ntmps98, List.size_toArray, List.length_cons, List.length_nil, Nat.reduceAdd, Nat.reduceSub, Array.replicate_succ, Array.replicate_zero, List.push_toArray, List.append_toArray, List.nil_append, List.cons_append]
  gi_wp2
  go_ret
  exact ⟨rfl, rfl⟩

theorem weights_stops (n : Nat) (hn : 1 ≤ n) (Bn b : Nat) (s : ByteArray) (hs : s.size ≤ 1000) (hb : b ≤ 1) (hD : isD s = true) (w : World)
    (h1 : w.heap[Bn]? = some (.cells #[.string s] 9 (0, 0))) (h2 : w.heap[Bn + 1]? = some (.cells #[.int .i64 b] 3 (0, 0))) :
    SeqStopsK Fence.wide n Tryz.prog 110 #[.pointer (some ⟨Bn, 0, none⟩), .pointer (some ⟨Bn + 1, 0, none⟩)] (fun x : Wn => #[.int .i64 (x.1 : Nat)]) (KeepsB Bn) (fun ys => ys.map Subtype.val = wl b (rv s)) (fun pre => pre.map Subtype.val <+: wl b (rv s)) s.size w := fun l J Jx W hW hJ _ hY h0 => by
  refine (weights1_in n hn l Bn b s hs hb hD J Jx hY W hJ ((hW.block Bn (Array.getElem?_eq_some_iff.1 h1).1).trans h1) ((hW.block (Bn + 1) (Array.getElem?_eq_some_iff.1 h2).1).trans h2) h0).mono ?_
  rintro e W' ⟨hv, (⟨ys, h, hj⟩ | ⟨pre, h, hj⟩)⟩
  · exact ⟨hv, .inl ⟨ys, h, hj⟩⟩
  · exact ⟨hv, .inr ⟨pre, h, hj⟩⟩

theorem own_box {β : Type} (B : Nat) (t : TypeId) (f : β → Value) : Own (fun (s : β) W => Boxed W B t (f s)) := fun s X Y row h hg hrow =>
  h.kept hg (fun e => by
    obtain ⟨o, ho, hc⟩ := hrow B e.symm
    rw [show X.heap[B]? = _ from h] at ho
    cases ho
    cases hc)

/-- The sum of weights, modulo 10. -/
def sumW (l : List Wn) : Nat := (l.map Subtype.val).sum % 10
theorem sumW_snoc (l : List Wn) (x : Wn) : sumW (l ++ [x]) = (sumW l + x.1) % 10 := by
  unfold sumW
  rw [List.map_append, List.sum_append]
  simp
theorem sumW_lt (l : List Wn) : sumW l < 10 := Nat.mod_lt _ (by omega)

set_option maxRecDepth 100000 in
set_option maxHeartbeats 1000000 in
theorem weighed_any (s : ByteArray) (b : Nat) (w : World) (hs : s.size ≤ 1000) (hb : b ≤ 1) (hD : isD s = true) :
    Calls Tryz.prog 85 #[.string s, .int .i64 b] w fun e w' => e = .returned (.int .i64 (wsB b s % 10 : Nat)) ∧ Below w.heap.size w w' := by
  refine (callsIn_wide (n := 6)).1 ?_
  refine callsIn_of_wp_marks Tryz.func85 rfl trivial ?_ rfl
  simp only [Tryz.ntmps85, List.size_toArray, List.length_cons, List.length_nil, Nat.reduceAdd, Nat.reduceSub, Array.replicate_succ, Array.replicate_zero, List.push_toArray, List.append_toArray, List.nil_append, List.cons_append]
  rw [wpIn_wide]
  go_wp2_with fail
  refine ((callsIn_wide (n := 0)).1 (weights_in 0 b s _)).mono ?_
  rintro e w2 ⟨rfl, rfl⟩
  go_wp2_with fail
  have bC := Boxed.new w 3 (.int .i64 0)
  have bN := Boxed.new (w.alloc (.cells #[.int .i64 0] 3)) 9 (.string s)
  have bM := Boxed.new ((w.alloc (.cells #[.int .i64 0] 3)).alloc (.cells #[.string s] 9)) 3 (.int .i64 b)
  rw [World.size_alloc] at bN bM
  rw [World.size_alloc] at bM
  have hB1 : Below w.heap.size w (((w.alloc (.cells #[.int .i64 0] 3)).alloc (.cells #[.string s] 9)).alloc (.cells #[.int .i64 b] 3)) := (((Below.refl _ _).alloc (Nat.le_refl _) _).alloc (by simp) _).alloc (by simp; omega) _
  rw [← wpIn_wide (n := 6)]
  refine' wpIn_rangeFunc_ownG rfl (by omega) (gf := 110) (lb := #[.pointer (some ⟨w.heap.size + 1, 0, none⟩), .pointer (some ⟨w.heap.size + 1 + 1, 0, none⟩)]) rfl trivial (enters_of Tryz.func110 (by kernel_rfl) rfl)
    (weights_stops 5 (by omega) (w.heap.size + 1) b s hs hb hD _ (bN.alloc _) bM) keepsB_t (keepsB_b (by simp)) (Below.refl _ _) (fun _ => rfl)
    (fun pre W => Boxed W w.heap.size 3 (.int .i64 (sumW pre : Nat)) ∧ Below w.heap.size w W)
    (fun _ _ _ => False)
    (OwnFrom.and (Own.from (own_box _ _ _) _) (ownFrom_below (Nat.le_refl _) (by simp; omega)))
    (fun _ _ _ _ _ hs _ _ => hs)
    ⟨(bC.alloc _).alloc _, hB1⟩
    _ _ _ _ _
  case refine'_2 =>
    intro l x W K hK
    gi_wp2
    exact hK
  case refine'_5 =>
    rintro D c pre W _ _ h _
    exact h.elim
  case refine'_3 =>
    rintro l' pre x W ⟨hv, hB⟩ hlt
    have hc := hv.cell
    have hf := hv.frozen
    have h10 := sumW_lt pre
    have hx9 := x.2
    have hsn := Lib.hid (sumW_snoc pre x)
    gi_wp2
    refine ⟨(KeepsOthers.setCell _ _ _).from _, keepsB_set _ (by omega) (by omega) _, ?_, hB.setCell (p := ⟨w.heap.size, 0, none⟩) (Nat.le_refl _) _⟩
    have h := hv.set (.int .i64 ((((sumW pre : Nat) : Int) + ((x.1 : Nat) : Int)) % 10))
    rw [hsn.out]
    exact h
  case refine'_4 =>
    rintro D ys W hD hys ⟨hv, hB⟩ hK
    have hc := hv.cell
    go_wp2_with fail
    have hl : sumW ys = wsB b s % 10 := by unfold sumW; rw [hys, wl_sum]; rfl
    rw [← hl]
    refine ⟨by simp, .inl ⟨_, _, rfl, run_takeDeferred hK, ?_⟩⟩
    exact ⟨_, results_tmp rfl _ _ _, rfl, hB.trans (belowK_b (w := w) (Nat.le_refl _) W D _ _ (by simp at hD; omega) hK rfl rfl)⟩
end Go.Proofs.YtheidjnapoipaaaGreatDoor

namespace Go.Proofs.YtheidjnapoipaaaGreatDoor
open Go.RowKit
set_option linter.unusedVariables false

set_option maxHeartbeats 400000 in
theorem Luhn_any (s : ByteArray) (w : World) (hs : s.size ≤ 1000) :
    Calls Tryz.prog 72 #[.string s] w fun e w' => e = .returned (.bool (luhnB s)) ∧ Below w.heap.size w w' := by
  cases hd : isD s with
  | false =>
    rw [luhnB_not hd]
    go_enter Tryz.func72, Tryz.ntmps72
    go_wp2_with (go_at_call 67; refine (Is_any _ _ (by omega)).mono ?_; rintro e w' ⟨rfl, rfl⟩; rw [hd])
    go_ret
    exact ⟨rfl, Below.refl _ _⟩
  | true =>
    rw [luhnB_is hd]
    go_enter Tryz.func72, Tryz.ntmps72
    go_wp2_with first
      | (go_at_call 67; refine (Is_any _ _ (by omega)).mono ?_; rintro e w' ⟨rfl, rfl⟩; rw [hd])
      | (go_at_call 85; refine (weighed_any s 0 _ hs (by omega) hd).mono ?_; rintro e w' ⟨rfl, hB⟩)
    go_ret
    exact ⟨ret_boolE (by rw [Bool.eq_iff_iff]; simp; try omega), hB⟩

theorem cardN_len {s : ByteArray} (h : isD s = true) : cardN s = if s.size < 13 then 3 else if 19 < s.size then 5 else if luhnB s = false then 25 else 0 := by unfold cardN; rw [if_neg (by simp [h])]

set_option maxHeartbeats 400000 in
theorem Card_any (s : ByteArray) (w : World) (hs : s.size ≤ 1000) :
    Calls Tryz.prog 58 #[.string s] w fun e w' => e = .returned (.int .i64 (cardN s)) ∧ Below w.heap.size w w' := by
  cases hd : isD s with
  | false =>
    have hc : cardN s = 4 := by unfold cardN; rw [if_pos hd]
    rw [hc]
    go_enter Tryz.func58, Tryz.ntmps58
    go_wp2_with (go_at_call 67; refine (Is_any _ _ (by omega)).mono ?_; rintro e w' ⟨rfl, rfl⟩; rw [hd])
    go_ret
    exact ⟨rfl, Below.refl _ _⟩
  | true =>
    rw [cardN_len hd]
    by_cases h13 : s.size < 13
    · rw [if_pos h13]
      have h13' : (s.size : Int) < 13 := by omega
      go_enter Tryz.func58, Tryz.ntmps58
      go_wp2_with (go_at_call 67; refine (Is_any _ _ (by omega)).mono ?_; rintro e w' ⟨rfl, rfl⟩; rw [hd])
      go_ret
      exact ⟨rfl, Below.refl _ _⟩
    · rw [if_neg h13]
      have h13' : (13 : Int) ≤ (s.size : Int) := by omega
      by_cases h19 : 19 < s.size
      · rw [if_pos h19]
        have h19' : (19 : Int) < (s.size : Int) := by omega
        go_enter Tryz.func58, Tryz.ntmps58
        go_wp2_with (go_at_call 67; refine (Is_any _ _ (by omega)).mono ?_; rintro e w' ⟨rfl, rfl⟩; rw [hd])
        go_ret
        exact ⟨rfl, Below.refl _ _⟩
      · rw [if_neg h19]
        have h19' : (s.size : Int) ≤ 19 := by omega
        cases hl : luhnB s with
        | false =>
          rw [if_pos rfl]
          go_enter Tryz.func58, Tryz.ntmps58
          go_wp2_with first
            | (go_at_call 67; refine (Is_any _ _ (by omega)).mono ?_; rintro e w' ⟨rfl, rfl⟩; rw [hd])
            | (go_at_call 72; refine (Luhn_any _ _ (by omega)).mono ?_; rintro e w' ⟨rfl, hB⟩; rw [hl])
          go_ret
          exact ⟨rfl, hB⟩
        | true =>
          rw [if_neg (by decide)]
          go_enter Tryz.func58, Tryz.ntmps58
          go_wp2_with first
            | (go_at_call 67; refine (Is_any _ _ (by omega)).mono ?_; rintro e w' ⟨rfl, rfl⟩; rw [hd])
            | (go_at_call 72; refine (Luhn_any _ _ (by omega)).mono ?_; rintro e w' ⟨rfl, hB⟩; rw [hl])
          go_ret
          exact ⟨rfl, hB⟩

theorem dec7 : (⟨(Lib.decDigits 7).toArray⟩ : ByteArray) = ⟨#[55]⟩ := by decide +kernel
theorem rep2 : (⟨(Lib.repeatL (ByteArray.mk #[48]).data.toList 2).toArray⟩ : ByteArray) = ⟨#[48, 48]⟩ := by decide +kernel

set_option maxHeartbeats 400000 in
theorem format7 (w : World) : Calls Tryz.prog 101 #[.int .u64 7, .int .i64 10] w fun e w' => e = .returned (.string ⟨#[55]⟩) ∧ w' = w := by
  go_enter Tryz.func101, Tryz.ntmps101
  go_wp2_with (go_at_call 115; refine (Tryz.internal_strconv_small 7 (by omega) _).mono ?_; rintro e w' ⟨rfl, rfl⟩; rw [dec7])
  go_ret
  exact ⟨rfl, rfl⟩
theorem fmt7 (w : World) : Calls Tryz.prog 89 #[.int .u64 7, .int .i64 10] w fun e w' => e = .returned (.string ⟨#[55]⟩) ∧ w' = w := by
  go_enter Tryz.func89, Tryz.ntmps89
  go_wp2_with (go_at_call 101; refine (format7 _).mono ?_; rintro e w' ⟨rfl, rfl⟩)
  go_ret
  exact ⟨rfl, rfl⟩
set_option maxHeartbeats 400000 in
theorem text7 (w : World) : Calls Tryz.prog 76 #[.int .u64 7, .int .i64 3] w fun e w' => e = .returned (.string ⟨#[48, 48, 55]⟩) ∧ Below w.heap.size w w' := by
  go_enter Tryz.func76, Tryz.ntmps76
  go_wp2_with first
    | (go_at_call 89; refine (fmt7 _).mono ?_; rintro e w' ⟨rfl, rfl⟩)
    | (go_at_call 90; refine (Tryz.strings_Repeat ⟨#[48]⟩ 2 _ (by omega) (by decide)).mono ?_; rintro e w' ⟨rfl, hB⟩; rw [rep2])
  go_ret
  exact ⟨rfl, hB⟩

def cardE : ByteArray := ⟨#[52, 49, 49, 49, 49, 49, 49, 49, 49, 49, 49, 49, 49, 49, 49, 49]⟩
theorem card_ex : cardN ⟨#[52, 49, 49, 49, 49, 49, 49, 49, 49, 49, 49, 49, 49, 49, 49, 49]⟩ = 0 := by decide +kernel

set_option maxHeartbeats 400000 in
theorem awake3_any (w : World) :
    Calls Tryz.prog 62 #[] w fun e w' => e = .returned (.bool true) ∧ Below w.heap.size w w' := by
  go_enter Tryz.func62, Tryz.ntmps62
  go_wp2_with (first
    | (go_at_call 58; refine (Card_any _ _ (by decide)).mono ?_; rintro e w' ⟨rfl, hB1⟩; rw [card_ex])
    | (go_at_call 76; refine (text7 _).mono ?_; rintro e w' ⟨rfl, hB2⟩)
    | (go_at_call 74; refine (days2024 _).mono ?_; rintro e w' ⟨rfl, rfl⟩))
  go_ret
  exact ⟨rfl, hB1.trans (hB2.mono hB1.size)⟩
end Go.Proofs.YtheidjnapoipaaaGreatDoor

namespace Go.Proofs.YtheidjnapoipaaaGreatDoor
open Go.RowKit

/-- One bit's step. -/
def stp (c : Nat) : Nat := if c % 2 = 1 then c / 2 ^^^ 3988292384 else c / 2

/-- k steps. -/
def stpN : Nat → Nat → Nat
  | 0, c => c
  | k + 1, c => stp (stpN k c)

/-- A byte more. -/
def crcB (c : Nat) (b : UInt8) : Nat := stpN 8 (c ^^^ b.toNat)

/-- The register behind a text's bytes. -/
def crcR (c : Nat) (l : List UInt8) : Nat := l.foldl crcB c

/-- The sum. -/
def crcL (l : List UInt8) : Nat := 4294967295 - crcR 4294967295 l

theorem stp_lt {c : Nat} (h : c < 4294967296) : stp c < 4294967296 := by
  unfold stp
  split
  · exact Nat.xor_lt_two_pow (n := 32) (by omega) (by omega)
  · omega

theorem stpN_lt {c : Nat} (h : c < 4294967296) : ∀ k, stpN k c < 4294967296
  | 0 => h
  | k + 1 => stp_lt (stpN_lt h k)

theorem xor_lt {a b : Nat} (ha : a < 4294967296) (hb : b < 4294967296) : a ^^^ b < 4294967296 := Nat.xor_lt_two_pow (n := 32) ha hb

theorem crcB_lt {c : Nat} (h : c < 4294967296) (b : UInt8) : crcB c b < 4294967296 :=
  stpN_lt (xor_lt h (by have := b.toNat_lt; omega)) 8

theorem crcR_lt (l : List UInt8) : ∀ {c : Nat}, c < 4294967296 → crcR c l < 4294967296 := by
  induction l with
  | nil => intro c h; exact h
  | cons b l ih => intro c h; exact ih (crcB_lt h b)

theorem crcR_append (c : Nat) (l m : List UInt8) : crcR c (l ++ m) = crcR (crcR c l) m := by simp [crcR, List.foldl_append]

theorem crcR_snoc (c : Nat) (l : List UInt8) (b : UInt8) : crcR c (l ++ [b]) = crcB (crcR c l) b := by simp [crcR, List.foldl_append]

theorem xor_mod2 (x y : Nat) : (x ^^^ y) % 2 = (x + y) % 2 := by
  rcases Nat.mod_two_eq_zero_or_one x with hx | hx <;> rcases Nat.mod_two_eq_zero_or_one y with hy | hy
  all_goals (have := @Nat.xor_mod_two_pow x y 1; simp only [Nat.pow_one] at this; rw [this, hx, hy]; simp; omega)

theorem xor_zero {x y : Nat} (h : x ^^^ y = 0) : x = y := by
  have := congrArg (· ^^^ y) h
  simpa [Nat.xor_assoc] using this

theorem stp_xor (x y : Nat) : stp (x ^^^ y) = stp x ^^^ stp y := by
  have h2 : (x ^^^ y) / 2 = x / 2 ^^^ y / 2 := by
    have := Nat.shiftRight_xor_distrib (a := x) (b := y) (i := 1)
    simpa [Nat.shiftRight_succ] using this
  have hm : (x ^^^ y) % 2 = (x + y) % 2 := xor_mod2 x y
  unfold stp
  rw [h2, hm]
  rcases Nat.mod_two_eq_zero_or_one x with hx | hx <;> rcases Nat.mod_two_eq_zero_or_one y with hy | hy
  · rw [if_neg (by omega), if_neg (by omega), if_neg (by omega)]
  · rw [if_pos (by omega), if_neg (by omega), if_pos (by omega), Nat.xor_assoc]
  · rw [if_pos (by omega), if_pos (by omega), if_neg (by omega), Nat.xor_assoc, Nat.xor_assoc, Nat.xor_comm 3988292384]
  · rw [if_neg (by omega), if_pos (by omega), if_pos (by omega)]
    rw [Nat.xor_assoc, Nat.xor_comm (y / 2), ← Nat.xor_assoc 3988292384, Nat.xor_self, Nat.zero_xor]

theorem stpN_xor (x y : Nat) : ∀ k, stpN k (x ^^^ y) = stpN k x ^^^ stpN k y
  | 0 => rfl
  | k + 1 => by simp only [stpN, stpN_xor x y k, stp_xor]

theorem stpN_high (a : Nat) : ∀ k j, j ≤ k → stpN j (a * 2 ^ k) = a * 2 ^ (k - j) := by
  intro k j
  induction j with
  | zero => intro _; rfl
  | succ j ih =>
    intro h
    have hp : (2 : Nat) ^ (k - j) = 2 ^ (k - (j + 1)) * 2 := by rw [← Nat.pow_succ]; congr 1; omega
    rw [stpN, ih (by omega), hp, ← Nat.mul_assoc]
    unfold stp
    rw [if_neg (by omega), Nat.mul_div_cancel _ (by omega)]

/-- By the table: what lies above the lowest byte goes down, the lowest byte chooses. -/
theorem crcB_table (c : Nat) (b : UInt8) : crcB c b = c / 256 ^^^ stpN 8 (c % 256 ^^^ b.toNat) := by
  have hc : c = (c / 256 * 2 ^ 8) ^^^ (c % 256) := by
    have h := Nat.two_pow_add_eq_or_of_lt (i := 8) (b := c % 256) (by omega) (c / 256)
    have hx : 2 ^ 8 * (c / 256) ^^^ c % 256 = 2 ^ 8 * (c / 256) ||| c % 256 := by
      apply Nat.eq_of_testBit_eq
      intro i
      rw [Nat.testBit_xor, Nat.testBit_or]
      by_cases hi : i < 8
      · have : (2 ^ 8 * (c / 256)).testBit i = false := by
          rw [Nat.testBit_two_pow_mul]; simp; omega
        simp [this]
      · have : (c % 256).testBit i = false := by
          apply Nat.testBit_lt_two_pow
          exact Nat.lt_of_lt_of_le (by omega : c % 256 < 2 ^ 8) (Nat.pow_le_pow_right (by omega) (by omega))
        simp [this]
    rw [Nat.mul_comm, hx, ← h]
    omega
  unfold crcB
  conv => lhs; rw [hc, Nat.xor_assoc]
  rw [stpN_xor, stpN_high _ 8 8 (by omega)]
  simp

theorem crc_example : crcL [49, 50, 51, 52, 53, 54, 55, 56, 57] = 3421780262 := by decide +kernel

/-- One bit's step is undone: unlike registers stay unlike. -/
theorem stp_inj {x y : Nat} (hx : x < 4294967296) (hy : y < 4294967296) (h : stp x = stp y) : x = y := by
  have key : ∀ z : Nat, z < 4294967296 → stp z = 0 → z = 0 := by
    intro z hz h0
    unfold stp at h0
    split at h0
    · have h1 : z / 2 = 3988292384 := by
        have := congrArg (· ^^^ 3988292384) h0
        simpa [Nat.xor_assoc] using this
      omega
    · omega
  have hz : stp (x ^^^ y) = 0 := by rw [stp_xor, h, Nat.xor_self]
  have h0 := key _ (xor_lt hx hy) hz
  exact xor_zero h0

theorem stpN_inj {x y : Nat} (hx : x < 4294967296) (hy : y < 4294967296) : ∀ k, stpN k x = stpN k y → x = y
  | 0, h => h
  | k + 1, h => stpN_inj hx hy k (stp_inj (stpN_lt hx k) (stpN_lt hy k) h)

theorem crcB_inj {x y : Nat} (hx : x < 4294967296) (hy : y < 4294967296) (b : UInt8) (h : crcB x b = crcB y b) : x = y := by
  have hb : b.toNat < 4294967296 := by have := b.toNat_lt; omega
  have h1 := stpN_inj (xor_lt hx hb) (xor_lt hy hb) 8 h
  have := congrArg (· ^^^ b.toNat) h1
  simpa [Nat.xor_assoc] using this

theorem crcB_inj_byte {x : Nat} (hx : x < 4294967296) {b c : UInt8} (h : crcB x b = crcB x c) : b = c := by
  have hb : b.toNat < 4294967296 := by have := b.toNat_lt; omega
  have hc : c.toNat < 4294967296 := by have := c.toNat_lt; omega
  have h1 := stpN_inj (xor_lt hx hb) (xor_lt hx hc) 8 h
  have h2 := congrArg (x ^^^ ·) h1
  simp only [← Nat.xor_assoc, Nat.xor_self, Nat.zero_xor] at h2
  exact UInt8.toNat_inj.mp h2

theorem crcR_inj (l : List UInt8) : ∀ {x y : Nat}, x < 4294967296 → y < 4294967296 → crcR x l = crcR y l → x = y := by
  induction l with
  | nil => intro x y _ _ h; exact h
  | cons b l ih => intro x y hx hy h; exact crcB_inj hx hy b (ih (crcB_lt hx b) (crcB_lt hy b) h)

/-- One byte that is another one gives another sum. -/
theorem crcL_set_ne (l : List UInt8) (i : Nat) (c : UInt8) (hi : i < l.length) (hc : l[i] ≠ c) : crcL (l.set i c) ≠ crcL l := by
  intro h
  have e1 : l = l.take i ++ (l[i] :: l.drop (i + 1)) := by simp
  have e2 : l.set i c = l.take i ++ (c :: l.drop (i + 1)) := by
    rw [List.set_eq_take_append_cons_drop, if_pos hi]
  have hr : crcR 4294967295 (l.set i c) = crcR 4294967295 l := by
    have h1 := crcR_lt (l.set i c) (c := 4294967295) (by omega)
    have h2 := crcR_lt l (c := 4294967295) (by omega)
    unfold crcL at h
    omega
  rw [e2] at hr
  conv at hr => rhs; rw [e1]
  rw [crcR_append, crcR_append] at hr
  have h1 := crcR_lt (l.take i) (c := 4294967295) (by omega)
  have h3 := crcR_inj (l.drop (i + 1)) (crcB_lt h1 c) (crcB_lt h1 l[i]) hr
  exact hc (crcB_inj_byte h1 h3).symm

/-- What the table holds behind k rounds. -/
def tabL (k : Nat) : List Value := (List.range 256).map fun j => .int .u32 (if j < k then stpN 8 j else 0 : Nat)

theorem tabL_length (k : Nat) : (tabL k).length = 256 := by simp [tabL]

theorem tabL_get (k j : Nat) (hj : j < 256) : (tabL k)[j]? = some (.int .u32 ((if j < k then stpN 8 j else 0 : Nat) : Int)) := by
  simp [tabL, hj]

theorem tabL_set (k : Nat) (hk : k < 256) : (tabL k).set k (.int .u32 (stpN 8 k : Nat)) = tabL (k + 1) := by
  apply List.ext_getElem?
  intro j
  rw [List.getElem?_set]
  by_cases hj : j < 256
  · rw [tabL_get (k + 1) j hj, tabL_length]
    by_cases e : k = j
    · subst e
      rw [if_pos rfl, if_pos hk, if_pos (by omega)]
    · rw [if_neg e, tabL_get k j hj]
      by_cases h : j < k
      · rw [if_pos h, if_pos (by omega)]
      · rw [if_neg h, if_neg (by omega)]
  · rw [List.getElem?_eq_none (by rw [tabL_length]; omega), List.getElem?_eq_none (by rw [tabL_length]; omega), tabL_length]
    rw [if_neg (by omega)]

def zero256 : Array Value := Array.replicate 256 (.int .u32 0)
theorem zero256_eq : zero256 = (tabL 0).toArray := by
  apply Array.ext'
  simp only [zero256, tabL, Array.toList_replicate, Nat.not_lt_zero, if_false]
  rw [List.map_const', List.length_range]
  rfl

/-- The table whole. -/
def tabA : Array Value := (tabL 256).toArray
theorem tabA_size : tabA.size = 256 := by simp [tabA, tabL_length]
theorem tabA_one : tabA.all (·.oneCell') = true := by
  rw [Array.all_eq_true_iff_forall_mem]
  intro v hv
  simp only [tabA, tabL, List.mem_toArray, List.mem_map] at hv
  obtain ⟨j, _, rfl⟩ := hv
  rfl
end Go.Proofs.YtheidjnapoipaaaGreatDoor

namespace Go.Proofs.YtheidjnapoipaaaGreatDoor
open Go.RowKit
set_option linter.unusedVariables false

theorem tab_info : (Tryz.prog.info? 184).map (fun i => (i.zero, i.size)) = some (some (.agg zero256), 256) := by kernel_rfl
theorem tab_size : (Tryz.prog.info? 184).map (·.size) = some 256 := (zero_of_info tab_info).2

/-- The operations of a step, in the walk's spelling. -/
theorem and_one (c : Nat) (hc : c < 4294967296) : bits BinOp.and IntKind.u32 (c : Int) 1 = ((c % 2 : Nat) : Int) := by
  have h := u32_and_nat c 1 hc (by omega)
  rw [Nat.and_one_is_mod] at h
  exact h
theorem xor_poly (c : Nat) (hc : c < 4294967296) : bits BinOp.xor IntKind.u32 (c : Int) 3988292384 = ((c ^^^ 3988292384 : Nat) : Int) :=
  u32_xor_nat c 3988292384 hc (by omega)
theorem stp_odd {c : Nat} (h : c % 2 = 1) : stp c = c / 2 ^^^ 3988292384 := by unfold stp; rw [if_pos h]
theorem stp_even {c : Nat} (h : ¬ c % 2 = 1) : stp c = c / 2 := by unfold stp; rw [if_neg h]

set_option maxHeartbeats 400000 in
theorem eight_any (c : Nat) (w : World) (hc : c < 4294967296) :
    Calls Tryz.prog 168 #[.int .u32 c] w fun e w' => e = .returned (.int .u32 (stpN 8 c : Nat)) ∧ w = w' := by
  go_enter Tryz.func168, Tryz.ntmps168
  go_wp2
  go_loop [0, 4] (fun t i => ∃ k : Nat, k ≤ 8 ∧ i = .int .i64 k ∧ t = .int .u32 (stpN k c : Nat)) (fun _ i => 8 - (intOf i).toNat)
  case atStart => exact ⟨0, Nat.zero_le _, rfl, rfl⟩
  case round =>
    obtain ⟨k, hk, rfl, rfl⟩ := hrel
    by_cases hlt : k < 8
    · obtain ⟨m, HM⟩ : ∃ m, Hid (m = stpN k c) := ⟨_, rfl⟩
      have hm : m < 4294967296 := by rw [HM.out]; exact stpN_lt hc k
      rw [← HM.out]
      have hand := and_one m hm
      have hs : stpN (k + 1) c = stp m := by rw [HM.out]; rfl
      have HS := Lib.hid hs
      clear hs
      by_cases hodd : m % 2 = 1
      · have hx := xor_poly (m / 2) (by omega)
        have hdiv : ((m / 2 : Nat) : Int) = (m : Int) / 2 := by simp
        rw [hdiv] at hx
        have hso := Lib.hid (stp_odd hodd)
        rw [hodd] at hand
        clear hdiv hodd
        go_wp2
        go_round
        case rel => exact ⟨k + 1, by omega, by go_num, by rw [HS.out, hso.out]⟩
        case measure => simp [intOf]; omega
      · have hse := Lib.hid (stp_even hodd)
        have hz : m % 2 = 0 := by omega
        rw [hz] at hand
        clear hz hodd
        go_wp2
        go_round
        case rel => exact ⟨k + 1, by omega, by go_num, by rw [HS.out, hse.out]; congr 1⟩
        case measure => simp [intOf]; omega
    · have : k = 8 := by omega
      subst this
      go_wp2
      go_ret
      exact ⟨rfl, rfl⟩

/-- The number of the table's items, behind a name. -/
def tabN : Nat := 256
theorem tabN_eq : tabN = 256 := rfl

set_option maxRecDepth 3000 in
set_option maxHeartbeats 400000 in
theorem Table_any (w : World) :
    Calls Tryz.prog 162 #[] w fun e w' => e = .returned (.agg tabA) ∧ Below w.heap.size w w' := by
  have hz := (zero_of_info tab_info).1
  go_enter Tryz.func162, Tryz.ntmps162
  go_wp2
  have hr0 : Row ((w.alloc (.cells zero256 184)).alloc (.cells zero256 184)) w.heap.size 184 (tabL 0) := by
    rw [zero256_eq]; exact (Row.new w _ _).alloc _
  have hr1 : Row ((w.alloc (.cells zero256 184)).alloc (.cells zero256 184)) (w.heap.size + 1) 184 (tabL 0) := by
    have h := Row.new (w.alloc (.cells zero256 184)) 184 (tabL 0)
    rw [← zero256_eq] at h
    simpa using h
  have hb0 : Below w.heap.size w ((w.alloc (.cells zero256 184)).alloc (.cells zero256 184)) := ((Below.refl _ _).alloc (Nat.le_refl _) _).alloc (by simp) _
  generalize (w.alloc (.cells zero256 184)).alloc (.cells zero256 184) = w1 at hr0 hr1 hb0 ⊢
  clear hz
  go_loopw [3] (fun i wr => ∃ k : Nat, k ≤ tabN ∧ i = .int .i64 k ∧ Row wr w.heap.size 184 (tabL 0) ∧ Row wr (w.heap.size + 1) 184 (tabL k) ∧ Below w.heap.size w wr) (fun i _ => tabN - (intOf i).toNat)
  case atStart => exact ⟨0, Nat.zero_le _, rfl, hr0, hr1, hb0⟩
  case round =>
    obtain ⟨k, hk, rfl, h0, h1, hb⟩ := hrel
    rw [tabN_eq] at hk
    by_cases hlt : k < 256
    · obtain ⟨v0, hc0⟩ : ∃ v, wr.cell? ⟨w.heap.size + 1, k, none⟩ = some v := ⟨_, by rw [h1.cell]; exact tabL_get k k hlt⟩
      have hf0 := h1.frozen k
      have hs0 := h0.far (p := ⟨w.heap.size + 1, k, none⟩) (by simp) (.int .u32 (stpN 8 k : Nat))
      have hs1 := h1.set k (.int .u32 (stpN 8 k : Nat))
      rw [tabL_set k hlt] at hs1
      have hbs := hb.setCell (p := ⟨w.heap.size + 1, k, none⟩) (by simp) (.int .u32 (stpN 8 k : Nat))
      have H := Lib.hid (And.intro hs0 (And.intro hs1 hbs))
      clear hs0 hs1 hbs h0 h1 hb hr0 hr1 hb0
      go_wp2_with (go_at_call 168; refine (eight_any k _ (by omega)).mono ?_; rintro e w' ⟨rfl, rfl⟩)
      go_roundw
      case rel => exact ⟨k + 1, by rw [tabN_eq]; omega, by go_num, H.out.1, H.out.2.1, H.out.2.2⟩
      case measure => simp [intOf, tabN_eq]; omega
    · have hk2 : k = 256 := by omega
      rw [hk2] at h1
      have hge : 256 ≤ k := by omega
      clear hk2 hlt hr0 hr1 hb0
      go_wp2_with (first
        | (refine wpList_load_row rfl 184 (.tmp 1) rfl (w.heap.size + 1) rfl 184 tabA (0, 0) _ h1 Tryz.underlying184 rfl (by rw [tab_size, tabA_size]) ?_)
        | (refine wpList_store_row rfl 184 (.tmp 0) (.tmp 12) rfl w.heap.size tabA rfl rfl 184 (tabL 0).toArray h0 (by rw [tab_size, tabA_size]) (by rw [tabA_size]; simp [tabL_length]) tabA_one ?_))
      have hr := h0.put (tabL 256)
      have hbs := below_setRow (B := w.heap.size) hb (Nat.le_refl _) tabA
      exact bodyPost_ret (v := .agg tabA) (results_cell_row rfl _ _ w.heap.size 184 tabA (0, 0) _ rfl hr Tryz.underlying184 rfl (by rw [tab_size, tabA_size])) rfl ⟨rfl, hbs⟩
end Go.Proofs.YtheidjnapoipaaaGreatDoor

namespace Go.Proofs.YtheidjnapoipaaaGreatDoor
open Go.RowKit
set_option linter.unusedVariables false

/-- All the bytes of texts, one behind the other. -/
def cat (ss : List ByteArray) : List UInt8 := (ss.map fun s => s.data.toList).flatten

theorem cat_take_snoc (ss : List ByteArray) (k : Nat) (h : k < ss.length) : cat (ss.take (k + 1)) = cat (ss.take k) ++ (ss.getD k ByteArray.empty).data.toList := by
  rw [List.take_succ_eq_append_getElem h]
  unfold cat
  rw [List.map_append, List.flatten_append]
  simp [List.getD, h]

theorem xor_u8 (c : Nat) (b : UInt8) : bits BinOp.xor IntKind.u8 ((c : Int) % 256) (b.toNat : Int) = ((c % 256 ^^^ b.toNat : Nat) : Int) := by
  have h := u8_xor_nat (c % 256) b.toNat (by omega) (UInt8.toNat_lt b)
  simpa using h
theorem xor_u32 (c x : Nat) (hc : c < 4294967296) (hx : x < 4294967296) : bits BinOp.xor IntKind.u32 ((c : Int) / 256) (x : Int) = ((c / 256 ^^^ x : Nat) : Int) := by
  have h := u32_xor_nat (c / 256) x (by omega) hx
  simpa using h

theorem ones_xor (x : Nat) (hx : x < 4294967296) : 4294967295 ^^^ x = 4294967295 - x := by
  have h1 : (BitVec.allOnes 32 ^^^ BitVec.ofNat 32 x).toNat = 4294967295 ^^^ x := by
    rw [BitVec.toNat_xor, BitVec.toNat_allOnes, BitVec.toNat_ofNat, Nat.mod_eq_of_lt hx]
  have h2 : (BitVec.allOnes 32 ^^^ BitVec.ofNat 32 x).toNat = 4294967295 - x := by
    rw [BitVec.allOnes_xor, BitVec.toNat_not, BitVec.toNat_ofNat, Nat.mod_eq_of_lt hx]
  exact h1.symm.trans h2
theorem max_xor (x : Nat) (hx : x < 4294967296) : bits BinOp.xor IntKind.u32 IntKind.u32.max (x : Int) = ((4294967295 - x : Nat) : Int) := by
  have h := u32_xor_nat 4294967295 x (by omega) hx
  rw [ones_xor x hx] at h
  exact h

set_option maxRecDepth 3000 in
set_option maxHeartbeats 800000 in
theorem CRC_any (ss : List ByteArray) (g n cap : Nat) (w : World) (hn : ss.length = n) (hm : n ≤ 9223372036854775807) (hg : g < w.heap.size)
    (hsz : ∀ i, i < n → (ss.getD i ByteArray.empty).size ≤ 9223372036854775807)
    (hcells : ∀ i, i < n → w.cell? ⟨g, i, none⟩ = some (.string (ss.getD i ByteArray.empty))) :
    Calls Tryz.prog 153 #[.slice (some ⟨g, 0, none⟩) n cap] w fun e w' => e = .returned (.int .u32 (crcL (cat ss) : Nat)) ∧ Below w.heap.size w w' := by
  have hz := (zero_of_info tab_info).1
  have HC := Lib.hid hcells
  have HN := Lib.hid hn
  clear hcells hn
  go_enter Tryz.func153, Tryz.ntmps153
  go_wp2_with (first
    | (go_at_call 162; refine (Table_any _).mono ?_; rintro e w1 ⟨rfl, hb1⟩)
    | (refine wpList_store_row rfl 184 (.tmp 3) (.tmp 8) rfl w1.heap.size tabA rfl rfl 184 zero256 (by simp [World.alloc, -World.alloc_eq]) (by rw [tab_size, tabA_size]) (by rw [tabA_size]; simp [zero256]) tabA_one ?_))
  have hrow : Row ((w1.alloc (.cells zero256 184)).setRow w1.heap.size tabA) w1.heap.size 184 (tabL 256) := by
    have h := Row.new w1 184 (tabL 0)
    rw [← zero256_eq] at h
    exact h.put _
  have hbel : Below w.heap.size w ((w1.alloc (.cells zero256 184)).setRow w1.heap.size tabA) := below_setRow (hb1.alloc hb1.size _) hb1.size _
  generalize (w1.alloc (.cells zero256 184)).setRow w1.heap.size tabA = w2 at hrow hbel ⊢
  generalize w1.heap.size = T at hrow ⊢
  have HC2 : Hid (∀ i, i < n → w2.cell? ⟨g, i, none⟩ = some (.string (ss.getD i ByteArray.empty))) := fun i hi => (hbel.cell hg).trans (HC.out i hi)
  have HS := Lib.hid hsz
  have HB := Lib.hid hbel
  clear hz hb1 HC hsz hbel hg
  go_loop [4, 11] (fun t i => ∃ k : Nat, k ≤ n ∧ i = .int .i64 k ∧ t = .int .u32 (crcR 4294967295 (cat (ss.take k)) : Nat)) (fun _ i => n - (intOf i).toNat)
  case atStart => exact ⟨0, Nat.zero_le _, rfl, rfl⟩
  case round =>
    obtain ⟨k, hk, rfl, rfl⟩ := hrel
    by_cases hlt : k < n
    · obtain ⟨s, hs⟩ : ∃ s, s = ss.getD k ByteArray.empty := ⟨_, rfl⟩
      have hc0 : w2.cell? ⟨g, k, none⟩ = some (.string s) := by rw [hs]; exact HC2.out k hlt
      have hss : s.size ≤ 9223372036854775807 := by rw [hs]; exact HS.out k hlt
      have hcat : cat (ss.take (k + 1)) = cat (ss.take k) ++ s.data.toList := by rw [hs]; exact cat_take_snoc ss k (by rw [HN.out]; exact hlt)
      have HT := Lib.hid hcat
      obtain ⟨C, HCC⟩ : ∃ C, Hid (C = crcR 4294967295 (cat (ss.take k))) := ⟨_, rfl⟩
      have hC : C < 4294967296 := by rw [HCC.out]; exact crcR_lt _ (by omega)
      rw [← HCC.out]
      clear hcat hs
      go_wp2
      go_loop [4, 17] (fun t i => ∃ j : Nat, j ≤ s.size ∧ i = .int .i64 j ∧ t = .int .u32 (crcR C (s.data.toList.take j) : Nat)) (fun _ i => s.size - (intOf i).toNat)
      case atStart => exact ⟨0, Nat.zero_le _, rfl, rfl⟩
      case round =>
        obtain ⟨j, hj, rfl, rfl⟩ := hrel
        by_cases hlt2 : j < s.size
        · obtain ⟨c, Hc⟩ : ∃ c, Hid (c = crcR C (s.data.toList.take j)) := ⟨_, rfl⟩
          have hcl : c < 4294967296 := by rw [Hc.out]; exact crcR_lt _ hC
          rw [← Hc.out]
          have hstep : crcR C (s.data.toList.take (j + 1)) = c / 256 ^^^ stpN 8 (c % 256 ^^^ (s[j]).toNat) := by
            rw [take_snoc s j hlt2, crcR_snoc, ← Hc.out, crcB_table]
          have HP := Lib.hid hstep
          have hx1 := xor_u8 c s[j]
          have hb := UInt8.toNat_lt s[j]
          have hxl : c % 256 ^^^ (s[j]).toNat < 256 := Nat.xor_lt_two_pow (n := 8) (by omega) (by omega)
          have hx2 := xor_u32 c (stpN 8 (c % 256 ^^^ (s[j]).toNat)) hcl (stpN_lt (by omega) 8)
          have hcell : w2.cell? ⟨T, c % 256 ^^^ (s[j]).toNat, none⟩ = some (.int .u32 (stpN 8 (c % 256 ^^^ (s[j]).toNat) : Nat)) := by
            rw [hrow.cell, tabL_get 256 _ hxl, if_pos hxl]
          clear hstep hrow hC
          go_wp2
          go_round
          case rel => exact ⟨j + 1, by omega, by go_num, by rw [HP.out]⟩
          case measure => simp [intOf]; omega
        · have hj2 : s.data.toList.take j = s.data.toList := List.take_of_length_le (by simp; omega)
          have HJ := Lib.hid hj2
          clear hj2
          go_wp2
          go_round
          case rel => exact ⟨k + 1, by omega, by go_num, by rw [HT.out, crcR_append, HJ.out, HCC.out]⟩
          case measure => simp [intOf]; omega
    · have hall : ss.take k = ss := List.take_of_length_le (by rw [HN.out]; omega)
      have HA := Lib.hid hall
      clear hall
      go_wp2
      go_ret
      refine ⟨ret_int ?_, HB.out⟩
      rw [max_xor _ (crcR_lt _ (by omega)), HA.out]
      rfl
end Go.Proofs.YtheidjnapoipaaaGreatDoor

namespace Go.Proofs.YtheidjnapoipaaaGreatDoor
open Go.RowKit
set_option linter.unusedVariables false

def exA : ByteArray := ⟨#[49, 50, 51, 52]⟩
def exB : ByteArray := ⟨#[53, 54, 55, 56, 57]⟩
theorem ex_sum : ((crcL (cat [exA, exB]) : Nat) : Int) = 3421780262 := by
  have h : crcL (cat [exA, exB]) = 3421780262 := crc_example
  rw [h]; rfl
theorem ex_put : ByteArray.mk (putL 258 (szOf 2)).toArray = ⟨#[1, 2]⟩ := by decide +kernel

set_option maxRecDepth 3000 in
set_option maxHeartbeats 400000 in
theorem awake_any (w : World) :
    Calls Tryz.prog 148 #[] w fun e w' => e = .returned (.bool true) ∧ Below w.heap.size w w' := by
  have hcells : ∀ i, i < 2 → (w.alloc (.cells #[.string ⟨#[49, 50, 51, 52]⟩, .string ⟨#[53, 54, 55, 56, 57]⟩] 9)).cell? ⟨w.heap.size, i, none⟩ = some (.string ([exA, exB].getD i ByteArray.empty)) := by
    intro i hi
    have h := (Row.new w 9 [.string ⟨#[49, 50, 51, 52]⟩, .string ⟨#[53, 54, 55, 56, 57]⟩]).cell i
    rw [h]
    rcases (by omega : i = 0 ∨ i = 1) with rfl | rfl <;> rfl
  have HC := Lib.hid hcells
  clear hcells
  have hb0 : Below w.heap.size w (w.alloc (.cells #[.string ⟨#[49, 50, 51, 52]⟩, .string ⟨#[53, 54, 55, 56, 57]⟩] 9)) := (Below.refl _ _).alloc (Nat.le_refl _) _
  go_enter Tryz.func148, Tryz.ntmps148
  go_wp2_with fail
  refine (CRC_any [exA, exB] w.heap.size 2 2 _ rfl (by omega) (by simp) (fun i hi => by rcases (by omega : i = 0 ∨ i = 1) with rfl | rfl <;> (show (_ : Nat) ≤ _; decide)) HC.out).mono ?_
  rintro e w1 ⟨rfl, hb1⟩
  have hbb := hb0.trans (hb1.mono (by simp))
  rw [ex_sum]
  clear hb0 hb1 HC
  go_wp2_with fail
  refine (Put_any 258 2 _ (by omega)).mono ?_
  rintro e w2 ⟨rfl, hb2⟩
  have hb3 := hbb.trans (hb2.mono hbb.size)
  rw [ex_put]
  clear hbb hb2
  go_wp2
  go_ret
  exact ⟨rfl, hb3⟩
end Go.Proofs.YtheidjnapoipaaaGreatDoor

namespace Go.Proofs.YtheidjnapoipaaaGreatDoor
open Go.RowKit
set_option linter.unusedVariables false

theorem Awake1_any (w : World) :
    Calls Tryz.prog 139 #[] w fun e w' => e = .returned (.bool true) ∧ Below w.heap.size w w' := by
  go_enter Tryz.func139, Tryz.ntmps139
  go_wp2_with (go_at_call 148; refine (awake_any _).mono ?_; rintro e wa ⟨rfl, hb⟩)
  go_ret
  exact ⟨rfl, hb⟩

theorem abc_prefix : Lib.hasPrefix (shaL [97, 98, 99]) [186, 120, 22, 191] = true := by
  have h := abc_example
  obtain ⟨a, b, c, d, t, e⟩ : ∃ a b c d t, shaL [97, 98, 99] = a :: b :: c :: d :: t := by
    have h2 := shaL_length [97, 98, 99]
    match hq : shaL [97, 98, 99] with
    | [] => rw [hq] at h2; cases h2
    | [_] => rw [hq] at h2; cases h2
    | [_, _] => rw [hq] at h2; cases h2
    | [_, _, _] => rw [hq] at h2; cases h2
    | a :: b :: c :: d :: t => exact ⟨a, b, c, d, t, rfl⟩
  rw [e] at h ⊢
  simp only [List.take_succ_cons, List.take_zero, List.cons.injEq, and_true] at h
  obtain ⟨rfl, rfl, rfl, rfl⟩ := h
  simp [Lib.hasPrefix]

set_option maxRecDepth 3000 in
set_option maxHeartbeats 400000 in
theorem awake5_any (w : World) (hG : G w) :
    Calls Tryz.prog 121 #[] w fun e w' => e = .returned (.bool true) ∧ Below w.heap.size w w' := by
  obtain ⟨L, hL⟩ : ∃ L, shaL [97, 98, 99] = L := ⟨_, rfl⟩
  obtain ⟨L0, hL0⟩ : ∃ L, shaL [] = L := ⟨_, rfl⟩
  have hp : Lib.hasPrefix L [186, 120, 22, 191] = true := by rw [← hL]; exact abc_prefix
  have h32 : (ByteArray.mk L0.toArray).size = 32 := by show L0.toArray.size = 32; rw [List.size_toArray, ← hL0, shaL_length]
  have HT : Hid (∀ W : World, G W → Calls Tryz.prog 122 #[.slice (some ⟨W.heap.size, 0, none⟩) 2 2] (W.alloc (.cells #[.string ⟨#[97]⟩, .string ⟨#[98, 99]⟩] 9)) fun e w' => e = .returned (.string ⟨L.toArray⟩) ∧ Below W.heap.size W w') := Lib.hid fun W hg => by
    rw [← hL]
    have hb0 : Below W.heap.size W (W.alloc (.cells #[.string ⟨#[97]⟩, .string ⟨#[98, 99]⟩] 9)) := (Below.refl _ _).alloc (Nat.le_refl _) _
    refine (Text_any W.heap.size 0 2 [⟨#[97]⟩, ⟨#[98, 99]⟩] _ (hg.below hb0) (fun j x hx => ?_) (by simp) (by decide) (by decide) [97, 98, 99] rfl (by decide)).mono fun e w' h => ⟨h.1, hb0.trans (h.2.mono hb0.size)⟩
    have h := (Row.new W 9 [.string ⟨#[97]⟩, .string ⟨#[98, 99]⟩]).cell j
    rw [Nat.zero_add, h]
    match j, hx with
    | 0, hx => cases hx; rfl
    | 1, hx => cases hx; rfl
    | j + 2, hx => cases hx
  have HT0 : Hid (∀ W : World, G W → Calls Tryz.prog 122 #[.slice none 0 0] W fun e w' => e = .returned (.string ⟨L0.toArray⟩) ∧ Below W.heap.size W w') := Lib.hid fun W hg => by
    rw [← hL0]; exact Text_none none 0 W hg
  have HP : Hid (∀ W : World, Calls Tryz.prog 82 #[.string ⟨L.toArray⟩, .string ⟨#[186, 120, 22, 191]⟩] W fun e w' => e = .returned (.bool true) ∧ w' = W) := Lib.hid fun W => by
    have h := Tryz.strings_HasPrefix ⟨L.toArray⟩ ⟨#[186, 120, 22, 191]⟩ W
    rw [show Lib.hasPrefix (ByteArray.mk L.toArray).data.toList (ByteArray.mk #[186, 120, 22, 191]).data.toList = true from hp] at h
    exact h
  have HG := Lib.hid hG
  clear hL hL0 hp hG
  go_enter Tryz.func121, Tryz.ntmps121
  go_wp2_with fail
  refine (Awake1_any _).mono ?_
  rintro e w1 ⟨rfl, hb1⟩
  have hg1 := HG.out.below hb1
  go_wp2_with fail
  refine (HT.out _ hg1).mono ?_
  rintro e w2 ⟨rfl, hb2⟩
  have hb2' := hb1.trans (hb2.mono hb1.size)
  have hg2 := HG.out.below hb2'
  clear hb1 hb2 hg1
  go_wp2_with fail
  refine (HP.out _).mono ?_
  rintro e w3 ⟨rfl, rfl⟩
  go_wp2_with fail
  refine (HT0.out _ hg2).mono ?_
  rintro e w4 ⟨rfl, hb4⟩
  have hb4' := hb2'.trans (hb4.mono hb2'.size)
  clear hb2' hb4 hg2
  go_wp2_with fail
  go_ret
  exact ⟨rfl, hb4'⟩
theorem Awake5_any (w : World) (hG : G w) :
    Calls Tryz.prog 104 #[] w fun e w' => e = .returned (.bool true) ∧ Below w.heap.size w w' := by
  go_enter Tryz.func104, Tryz.ntmps104
  go_wp2_with (go_at_call 121; refine (awake5_any _ hG).mono ?_; rintro e wa ⟨rfl, hb⟩)
  go_ret
  exact ⟨rfl, hb⟩
end Go.Proofs.YtheidjnapoipaaaGreatDoor

namespace Go.Proofs.YtheidjnapoipaaaGreatDoor
open Go Go.Shelf Go.RowKit
def Tryz.laysGrow_ren : Go.Shelf.Ren := ⟨fun | 4 => 141 | n => n, fun | 22 => 25 | 25 => 9 | 3 => 3 | 4 => 4 | 9 => 9 | 20 => 20 | 0 => 0 | n => n, fun | n => n⟩
theorem Tryz.laysGrow : Lays8.n4 Tryz.prog Tryz.laysGrow_ren := {
  mixed := by kernel_rfl
  f4 := ⟨Tryz.f141.name, by decide, Tryz.func141.trans (congrArg some (by kernel_rfl))⟩
  t0 := Tryz.underlying0
  a0 := Tryz.isAgg0
  z0 := Tryz.sizeOf0
  v0 := Tryz.zeroValue0
  t3 := Tryz.underlying3
  a3 := Tryz.isAgg3
  z3 := Tryz.sizeOf3
  v3 := Tryz.zeroValue3
  t4 := Tryz.underlying4
  a4 := Tryz.isAgg4
  z4 := Tryz.sizeOf4
  v4 := Tryz.zeroValue4
  t9 := Tryz.underlying9
  a9 := Tryz.isAgg9
  z9 := Tryz.sizeOf9
  v9 := Tryz.zeroValue9
  t20 := Tryz.underlying20
  a20 := Tryz.isAgg20
  z20 := Tryz.sizeOf20
  v20 := Tryz.zeroValue20
  t22 := Tryz.underlying25
  a22 := Tryz.isAgg25
  z22 := Tryz.sizeOf25
  v22 := Tryz.zeroValue25 }
end Go.Proofs.YtheidjnapoipaaaGreatDoor

namespace Go.Proofs.YtheidjnapoipaaaGreatDoor
open Go.RowKit
set_option linter.unusedVariables false

theorem str_info3 : (Tryz.prog.info? 9).map (fun i => (i.zero, i.size, i.bytes)) = some (some (.string ⟨#[]⟩), 1, 16) := by kernel_rfl
theorem grow_own (m : Nat) (hm : 1 ≤ m) (hm2 : m ≤ 100000) (w : World) :
    Calls Tryz.prog 141 #[.slice none 0 0, .int .i64 m] w fun e w' => ∃ c, m ≤ c ∧ e = .returned (.slice (some ⟨w.heap.size, 0, none⟩) 0 c) ∧
      w'.ownsRow w.heap.size 9 1 (.slice (some ⟨w.heap.size, 0, none⟩) 0 c) 0 [] ∧ Below w.heap.size w w' := by
  obtain ⟨i0, hi0, hz0, hz1, hz2⟩ := info_parts str_info3
  refine (Any8.slices_Grow_grow Tryz.laysGrow i0 (.string ⟨#[]⟩) hi0 hz0 (by omega) none 0 0 m [] w (Nat.le_refl _) (by omega) (by rw [hz2]; omega) (by omega) (by simp) (fun _ => rfl) (fun a h => by cases h)).mono ?_
  rintro e w' ⟨rfl, rfl⟩
  rw [Nat.zero_add]
  have hge := grownCap_ge w m 0 9
  have hz : ∀ k, (Builtin.zeroCells (Value.string ⟨#[]⟩).cells k).size = k := fun k => by
    have h1 : (Value.string ⟨#[]⟩).cells.size = 1 := rfl
    simp [Builtin.zeroCells, h1]
  refine ⟨grownCap w m 0 9, hge, rfl, ⟨rfl, .inr ⟨w.heap.size, grownCap w m 0 9, ?cur, rfl, Nat.le_refl _, ?hc, Nat.zero_le _, grownCap_le_maxLen w m 0 _ (by unfold maxLen; omega), ?h1, ?h2⟩⟩, ?hb⟩
  case hc => exact (World.alloc_heap_new _ _)
  case h1 =>
    simp only [Array.size_append, hz, Nat.sub_zero]
    show 0 + m + (grownCap w m 0 9 - m) = grownCap w m 0 9 * 1
    omega
  case h2 => simp
  case hb => exact (below_drewN (Below.refl _ _) 1).alloc (Nat.le_refl _) _

/-- How many texts there are in the first k rows. -/
def cnt (n : Nat) : Nat → Nat
  | 0 => 0
  | 1 => 1
  | _ => 1 + n
def rowsOf (x0 : ByteArray) (xs : List ByteArray) : Nat → List ByteArray
  | 0 => []
  | 1 => [x0]
  | _ => x0 :: xs

set_option maxRecDepth 20000 in
set_option maxHeartbeats 4000000 in
theorem Concat_any (bs b1 b2 o2 c2 : Nat) (x0 : ByteArray) (xs : List ByteArray) (w : World) (h : Row w bs 25 [.slice (some ⟨b1, 0, none⟩) 1 1, .slice (some ⟨b2, o2, none⟩) xs.length c2])
    (h1 : w.cell? ⟨b1, 0, none⟩ = some (.string x0)) (h2 : ∀ (j : Nat) x, xs[j]? = some x → w.cell? ⟨b2, o2 + j, none⟩ = some (.string x)) (hb1 : b1 < w.heap.size) (hb2 : b2 < w.heap.size) (hn : xs.length ≤ 1000) :
    Calls Tryz.prog 123 #[.slice (some ⟨bs, 0, none⟩) 2 2] w fun e w' => ∃ g c, 1 + xs.length ≤ c ∧ e = .returned (.slice (some ⟨g, 0, none⟩) (1 + xs.length) c) ∧
      w'.ownsRow w.heap.size 9 1 (.slice (some ⟨g, 0, none⟩) (1 + xs.length) c) (1 + xs.length) ((x0 :: xs).map Value.string) ∧ Below w.heap.size w w' := by
  obtain ⟨n, hnn⟩ : ∃ n, xs.length = n := ⟨_, rfl⟩
  rw [hnn] at h hn ⊢
  have c0 : w.cell? ⟨bs, 0, none⟩ = some (.slice (some ⟨b1, 0, none⟩) 1 1) := h.cell 0
  have c1 : w.cell? ⟨bs, 1, none⟩ = some (.slice (some ⟨b2, o2, none⟩) n c2) := h.cell 1
  have HB := Lib.hid (And.intro hnn (And.intro h1 (And.intro h2 (And.intro hb1 (And.intro hb2 h)))))
  clear hnn h1 h2 hb1 hb2 h
  go_enter Tryz.func123, Tryz.ntmps123
  go_wp2_with fail
  go_loopw [3, 11] (fun s i wr => w = wr ∧ ∃ k : Nat, k ≤ 2 ∧ i = .int .i64 k ∧ s = .int .i64 ((cnt n k : Nat) : Int)) (fun _ i _ => 2 - (intOf i).toNat)
  case atStart => exact ⟨rfl, 0, by omega, rfl, rfl⟩
  case round =>
    obtain ⟨rfl, k, hk, rfl, rfl⟩ := hrel
    rcases (by omega : k = 0 ∨ k = 1 ∨ k = 2) with rfl | rfl | rfl
    · simp only [cnt]
      go_wp2
      go_roundw
      case rel => exact ⟨trivial, 1, by omega, by go_num, by show _ = Value.int .i64 ((1 : Nat) : Int); go_num⟩
      case measure => simp [intOf]
    · simp only [cnt]
      have hpos : ¬ ((1 : Int) + (n : Int) < 0) := by omega
      go_wp2
      go_roundw
      case rel => exact ⟨trivial, 2, by omega, by go_num, by show _ = Value.int .i64 ((1 + n : Nat) : Int); go_num⟩
      case measure => simp [intOf]
    · simp only [cnt]
      go_wp2_with fail
      have e0 : (Value.int .i64 ((1 + n : Nat) : Int)) = .int .i64 (1 + (n : Int)) := by go_num
      refine (grow_own (1 + n) (by omega) (by omega) _).mono ?_
      rintro e w1 ⟨c, hc, rfl, hown, hb⟩
      obtain ⟨i0, hi0, hz0, hz1, hz2⟩ := info_parts str_info3
      have HI := Lib.hid (And.intro hi0 hz1)
      clear e0 hi0 hz0 hz1 hz2
      obtain ⟨g, hg⟩ : ∃ g, w.heap.size = g := ⟨_, rfl⟩
      rw [hg] at hown ⊢
      have HGG := Lib.hid hg
      clear hg
      go_wp2
      go_loopw [6, 27] (fun v i wq => ∃ k : Nat, k ≤ 2 ∧ i = .int .i64 k ∧ v = .slice (some ⟨g, 0, none⟩) (cnt n k) c ∧ wq.ownsRow g 9 1 (.slice (some ⟨g, 0, none⟩) (cnt n k) c) (cnt n k) ((rowsOf x0 xs k).map Value.string) ∧ Below w.heap.size w wq) (fun _ i _ => 2 - (intOf i).toNat)
      case atStart => exact ⟨0, by omega, rfl, rfl, hown, hb⟩
      case round =>
        obtain ⟨k, hk, rfl, rfl, ho, hB⟩ := hrel
        clear hown hb
        clear c0 c1
        have hr := HB.out.2.2.2.2.2.below hB HB.out.2.2.2.2.2.lt
        rcases (by omega : k = 0 ∨ k = 1 ∨ k = 2) with rfl | rfl | rfl
        · have c0 : wr.cell? ⟨bs, 0, none⟩ = some (.slice (some ⟨b1, 0, none⟩) 1 1) := hr.cell 0
          have hcl : ∀ (j : Nat) u, [Value.string x0][j]? = some u → wr.cell? ((⟨b1, 0, none⟩ : Addr).add j) = some u := fun j u hj => by
            rw [Addr.add_mid, Nat.zero_add]
            match j, hj with
            | 0, hj => cases hj; exact (hB.cell (p := ⟨b1, 0, none⟩) HB.out.2.2.2.1).trans HB.out.2.1
          have hsz := hB.size
          have H := Lib.hid (And.intro ho (And.intro hB hcl))
          clear ho hB hcl hr
          simp only [cnt]
          go_wp2_with (at_builtin; refine wpList_append_fits _ rfl (.tmp 31) (.tmp 32) 25 rfl g 9 i0 1 Tryz.underlying25 HI.out.1 HI.out.2 g 0 c [] rfl H.out.1 ⟨b1, 0, none⟩ 1 1 [.string x0] rfl rfl H.out.2.2 (by simp [Value.oneCell']) (by omega) ?_; intro w3 ho3 hg3)
          go_roundw
          case rel => exact ⟨1, by omega, by go_num, rfl, ho3, H.out.2.1.grown hg3 hsz (fun k hk => by cases hk; exact Nat.le_of_eq HGG.out)⟩
          case measure => simp [intOf]
        · have c1 : wr.cell? ⟨bs, 1, none⟩ = some (.slice (some ⟨b2, o2, none⟩) n c2) := hr.cell 1
          have hcl : ∀ (j : Nat) u, (xs.map Value.string)[j]? = some u → wr.cell? ((⟨b2, o2, none⟩ : Addr).add j) = some u := fun j u hj => by
            rw [Addr.add_mid]
            rw [List.getElem?_map, Option.map_eq_some_iff] at hj
            obtain ⟨x, hx, rfl⟩ := hj
            exact (hB.cell (p := ⟨b2, o2 + j, none⟩) HB.out.2.2.2.2.1).trans (HB.out.2.2.1 j x hx)
          have hsz := hB.size
          have H := Lib.hid (And.intro ho (And.intro hB hcl))
          clear ho hB hcl hr
          simp only [cnt]
          go_wp2_with (at_builtin; refine wpList_append_fits _ rfl (.tmp 31) (.tmp 32) 25 rfl g 9 i0 1 Tryz.underlying25 HI.out.1 HI.out.2 g 1 c [.string x0] rfl H.out.1 ⟨b2, o2, none⟩ n c2 (xs.map Value.string) rfl (by rw [List.length_map, HB.out.1, Nat.mul_one]) H.out.2.2 (fun u hu => by obtain ⟨x, _, rfl⟩ := List.mem_map.1 hu; rfl) (by omega) ?_; intro w3 ho3 hg3)
          go_roundw
          case rel => exact ⟨2, by omega, by go_num, rfl, ho3, H.out.2.1.grown hg3 hsz (fun k hk => by cases hk; exact Nat.le_of_eq HGG.out)⟩
          case measure => simp [intOf]
        · have H := Lib.hid (And.intro ho hB)
          clear ho hB hr
          simp only [cnt]
          go_wp2
          go_ret
          exact ⟨g, c, hc, rfl, by rw [HGG.out]; exact H.out.1, H.out.2⟩
end Go.Proofs.YtheidjnapoipaaaGreatDoor

namespace Go.Proofs.YtheidjnapoipaaaGreatDoor
set_option linter.unusedVariables false
/-- A key's block, masked. -/
def blkL (key : List UInt8) (m : UInt8) : List UInt8 := (key ++ List.replicate (64 - key.length) 0).map fun c => c ^^^ m
/-- The key that is masked. -/
def keyL (key : List UInt8) : List UInt8 := if 64 < key.length then shaL key else key
/-- The sum. -/
def hmacL (key msg : List UInt8) : List UInt8 := shaL (blkL (keyL key) 92 ++ shaL (blkL (keyL key) 54 ++ msg))
theorem blkL_length (key : List UInt8) (m : UInt8) (h : key.length ≤ 64) : (blkL key m).length = 64 := by simp [blkL]; omega
/-- The chapter's example: Jefe's. -/
theorem jefe_example : (hmacL [74, 101, 102, 101] [119, 104, 97, 116, 32, 100, 111, 32, 121, 97, 32, 119, 97, 110, 116, 32, 102, 111, 114, 32, 110, 111, 116, 104, 105, 110, 103, 63]).take 4 = [91, 220, 193, 70] := by decide +kernel
end Go.Proofs.YtheidjnapoipaaaGreatDoor

namespace Go.Proofs.YtheidjnapoipaaaGreatDoor
open Go.RowKit
set_option linter.unusedVariables false

def z64b : List Value := List.replicate 64 (.int .u8 0)
theorem b64_info : (Tryz.prog.info? 162).map (fun i => (i.zero, i.size)) = some (some (.agg z64b.toArray), 64) := by kernel_rfl

theorem part_set {α : Type} (A B : List α) (j : Nat) (v : α) (hv : A[j]? = some v) (hl : A.length = B.length) : (A.take j ++ B.drop j).set j v = A.take (j + 1) ++ B.drop (j + 1) := by
  have hj : j < A.length := (List.getElem?_eq_some_iff.1 hv).1
  have hB : j < B.length := by omega
  have h1 : (A.take j).length = j := by rw [List.length_take]; omega
  have h2 : B.drop j = B[j] :: B.drop (j + 1) := List.drop_eq_getElem_cons hB
  have h3 : A.take (j + 1) = A.take j ++ [v] := by
    rw [List.take_add_one, hv]; rfl
  rw [List.set_append_right _ _ (by omega), h1, Nat.sub_self, h2, List.set_cons_zero, h3, List.append_assoc]
  rfl
theorem u8_xor_bits (a b : UInt8) : bits BinOp.xor IntKind.u8 (a.toNat : Int) (b.toNat : Int) = ((a ^^^ b).toNat : Int) := by
  rw [UInt8.toNat_xor]
  exact u8_xor_nat _ _ (UInt8.toNat_lt a) (UInt8.toNat_lt b)

set_option maxRecDepth 4000 in
set_option maxHeartbeats 2000000 in
theorem masked_any (k : ByteArray) (m : UInt8) (hk : k.size ≤ 64) (w : World) :
    Calls Tryz.prog 124 #[.string k, .int .u8 m.toNat] w fun e w' => e = .returned (.string ⟨(blkL k.data.toList m).toArray⟩) ∧ Below w.heap.size w w' := by
  have hz := (zero_of_info b64_info).1
  have hsl : k.data.toList.length = k.size := by simp
  obtain ⟨K, hK⟩ : ∃ K, k.data.toList ++ List.replicate (64 - k.data.toList.length) (0 : UInt8) = K := ⟨_, rfl⟩
  have hKl : K.length = 64 := by rw [← hK]; simp; omega
  obtain ⟨A, hA⟩ : ∃ A, K.map (fun c => c ^^^ m) = A := ⟨_, rfl⟩
  have hAl : A.length = 64 := by rw [← hA, List.length_map, hKl]
  have hblk : blkL k.data.toList m = A := by rw [← hA, ← hK]; rfl
  have hr1 := Row.new w 162 z64b
  have hb1 : Below w.heap.size w (w.alloc (.cells z64b.toArray 162)) := (Below.refl _ _).alloc (Nat.le_refl _) _
  have hsa := fun W => slice_arr_all (P := Tryz.prog) 162 5 64 Tryz.underlying162 Tryz.sizeOf5 w.heap.size 0 (by omega) W
  have hov : over z64b 0 k.data.toList = K.map bv := by
    unfold over z64b
    rw [← hK, List.map_append, List.take_zero, List.nil_append, Nat.zero_add, hsl, List.drop_replicate, List.map_replicate]
    rfl
  have hcp := copy_row (P := Tryz.prog) (ty := 3) 76 9 5 w.heap.size 0 64 64 k z64b 162 Tryz.underlying76 (by kernel_rfl) hr1 hk (by simp [z64b]; omega)
  rw [hov] at hcp
  have r2 := hr1.put (K.map bv)
  have b2 := below_setRow (B := w.heap.size) hb1 (Nat.le_refl w.heap.size) (K.map bv).toArray
  rw [hblk]
  have H2 := Lib.hid (And.intro r2 (And.intro b2 (And.intro hA (And.intro hKl hAl))))
  clear hr1 hb1 hov hsl hK hblk r2 b2
  go_enter Tryz.func124, Tryz.ntmps124
  go_wp2_with fail
  obtain ⟨r2, b2, hA, hKl, hAl⟩ := H2.out
  generalize (w.alloc (.cells z64b.toArray 162)).setRow w.heap.size (K.map bv).toArray = w2 at r2 b2 ⊢
  clear H2 hcp hz
  go_loopw [10] (fun i wr => ∃ j : Nat, j ≤ 64 ∧ i = .int .i64 j ∧ Row wr w.heap.size 162 ((A.take j ++ K.drop j).map bv) ∧ Below w.heap.size w wr) (fun i _ => 64 - (intOf i).toNat)
  case atStart => exact ⟨0, Nat.zero_le _, rfl, by simpa using r2, b2⟩
  case round =>
    obtain ⟨j, hj, rfl, hr, hb⟩ := hrel
    clear r2 b2
    by_cases hlt : j < 64
    · obtain ⟨c, hc⟩ : ∃ c, K[j]? = some c := ⟨_, List.getElem?_eq_getElem (by omega)⟩
      have hAj : A[j]? = some (c ^^^ m) := by rw [← hA, List.getElem?_map, hc]; rfl
      have hcell : wr.cell? ⟨w.heap.size, j, none⟩ = some (.int .u8 (c.toNat : Int)) := by
        rw [hr.cell, List.getElem?_map, List.getElem?_append_right (by rw [List.length_take]; omega), List.getElem?_drop, List.length_take, show j + (j - min j A.length) = j by omega, hc]
        rfl
      have hfr := hr.frozen j
      have hx := u8_xor_bits c m
      have r3 := hr.set j (.int .u8 ((c ^^^ m).toNat : Int))
      have e3 : ((A.take j ++ K.drop j).map bv).set j (.int .u8 ((c ^^^ m).toNat : Int)) = (A.take (j + 1) ++ K.drop (j + 1)).map bv := by
        rw [show (Value.int IntKind.u8 ((c ^^^ m).toNat : Int)) = bv (c ^^^ m) from rfl, ← List.map_set, part_set A K j _ hAj (by omega)]
      rw [e3] at r3
      have b3 := hb.setCell (p := ⟨w.heap.size, j, none⟩) (Nat.le_refl _) (.int .u8 ((c ^^^ m).toNat : Int))
      have H3 := Lib.hid (And.intro r3 b3)
      clear hr hb hc hAj r3 b3 e3 hA hKl hAl
      go_wp2_with fail
      go_roundw
      case rel => exact ⟨j + 1, by omega, by go_num, H3.out.1, H3.out.2⟩
      case measure => simp [intOf]; omega
    · have hj64 : j = 64 := by omega
      have hge : 64 ≤ j := by omega
      have hrow : (A.take j ++ K.drop j).map bv = A.map bv := by rw [hj64, List.take_of_length_le (by omega), List.drop_of_length_le (by omega), List.append_nil]
      rw [hrow] at hr
      have hcv := conv_bytes (P := Tryz.prog) wr 76 9 5 Tryz.underlying76 Tryz.underlying5 Tryz.underlying9 w.heap.size 0 64 64 A hAl (fun i hi => by rw [Nat.zero_add, hr.cell])
      clear hrow hr hA hKl hAl hj64
      go_wp2_with fail
      go_ret
      exact ⟨rfl, hb⟩
end Go.Proofs.YtheidjnapoipaaaGreatDoor

namespace Go.Proofs.YtheidjnapoipaaaGreatDoor
open Go.RowKit
set_option linter.unusedVariables false

theorem join_flat (xs : List (List UInt8)) : Lib.join xs [] = xs.flatten := by
  induction xs with
  | nil => rfl
  | cons x xs ih =>
    cases xs with
    | nil => simp [Lib.join_one]
    | cons y ys =>
      unfold Lib.join at ih ⊢
      simp only [List.intercalate, List.intersperse, List.flatten_cons, List.nil_append] at ih ⊢
      rw [ih]
theorem own_cells {w : World} {B n c g : Nat} {t : TypeId} {l : List Value} (h : w.ownsRow B t 1 (.slice (some ⟨g, 0, none⟩) n c) n l) (hn : 0 < n) : ∀ (j : Nat) v, l[j]? = some v → w.cell? ⟨g, 0 + j, none⟩ = some v := by
  intro j v hj
  rcases h.2 with ⟨e1, _⟩ | ⟨g', cap, cur, e1, _, hh, hc, _, hs, ht⟩
  · cases e1
  · cases e1
    have hr : Row w g t cur.toList := by
      show w.heap[g]? = some (.cells cur.toList.toArray t (0, 0))
      rw [Array.toArray_toList]
      exact hh
    rw [Nat.zero_add, hr.cell]
    rw [← ht] at hj
    rw [List.getElem?_take] at hj
    split at hj
    · exact hj
    · cases hj
theorem own_lt {w : World} {B n c g : Nat} {t : TypeId} {l : List Value} (h : w.ownsRow B t 1 (.slice (some ⟨g, 0, none⟩) n c) n l) : g < w.heap.size := by
  rcases h.2 with ⟨e1, _⟩ | ⟨g', cap, cur, e1, _, hh, _⟩
  · cases e1
  · cases e1
    exact (Array.getElem?_eq_some_iff.1 hh).1

set_option maxRecDepth 20000 in
set_option maxHeartbeats 4000000 in
theorem HmSum_any (key : ByteArray) (hk : key.size ≤ 100000000) (b2 o2 c2 : Nat) (xs : List ByteArray) (w : World) (hG : G w)
    (h2 : ∀ (j : Nat) x, xs[j]? = some x → w.cell? ⟨b2, o2 + j, none⟩ = some (.string x)) (hb2 : b2 < w.heap.size) (hn : xs.length ≤ 1000)
    (T : List UInt8) (hT : Lib.join (xs.map (·.data.toList)) [] = T) (hTl : T.length ≤ 140737488300000) :
    Calls Tryz.prog 105 #[.string key, .slice (some ⟨b2, o2, none⟩) xs.length c2] w fun e w' => e = .returned (.string ⟨(hmacL key.data.toList T).toArray⟩) ∧ Below w.heap.size w w' := by
  have hkl : key.data.toList.length = key.size := by simp
  obtain ⟨kk, hkk, hks⟩ : ∃ kk : ByteArray, kk.data.toList = keyL key.data.toList ∧ (if 64 < key.size then kk = ⟨(shaL key.data.toList).toArray⟩ else kk = key) := by
    by_cases h : 64 < key.size
    · refine ⟨⟨(shaL key.data.toList).toArray⟩, ?_, ?_⟩
      · unfold keyL; rw [if_pos (by omega)]
      · rw [if_pos h]
    · refine ⟨key, ?_, ?_⟩
      · unfold keyL; rw [if_neg (by omega)]
      · rw [if_neg h]
  have hkz : kk.size ≤ 64 := by
    have e : kk.size = kk.data.toList.length := by simp
    rw [e, hkk]
    unfold keyL
    split
    · rw [shaL_length]; omega
    · omega
  have hkzl : kk.data.toList.length ≤ 64 := by
    have e : kk.size = kk.data.toList.length := by simp
    omega
  obtain ⟨x0, hx0⟩ : ∃ x : ByteArray, (⟨(blkL kk.data.toList 54).toArray⟩ : ByteArray) = x := ⟨_, rfl⟩
  obtain ⟨x1, hx1⟩ : ∃ x : ByteArray, (⟨(blkL kk.data.toList 92).toArray⟩ : ByteArray) = x := ⟨_, rfl⟩
  have HM0 : Hid (∀ W : World, Calls Tryz.prog 124 #[.string kk, .int .u8 54] W fun e w' => e = .returned (.string x0) ∧ Below W.heap.size W w') := Lib.hid fun W => by rw [← hx0]; exact masked_any kk 54 hkz W
  have HM1 : Hid (∀ W : World, Calls Tryz.prog 124 #[.string kk, .int .u8 92] W fun e w' => e = .returned (.string x1) ∧ Below W.heap.size W w') := Lib.hid fun W => by rw [← hx1]; exact masked_any kk 92 hkz W
  have hd0 : x0.data.toList = blkL kk.data.toList 54 := by rw [← hx0]
  have hd1 : x1.data.toList = blkL kk.data.toList 92 := by rw [← hx1]
  obtain ⟨y, hy⟩ : ∃ y : ByteArray, (⟨(shaL (x0.data.toList ++ T)).toArray⟩ : ByteArray) = y := ⟨_, rfl⟩
  have hyd : y.data.toList = shaL (x0.data.toList ++ T) := by rw [← hy]
  obtain ⟨r, hr⟩ : ∃ r : ByteArray, (⟨(shaL (x1.data.toList ++ y.data.toList)).toArray⟩ : ByteArray) = r := ⟨_, rfl⟩
  have hfin : (⟨(hmacL key.data.toList T).toArray⟩ : ByteArray) = r := by
    rw [← hr, hyd, hd0, hd1]
    unfold hmacL
    rw [hkk]
  have hx0l : x0.data.toList.length = 64 := by rw [hd0]; exact blkL_length _ _ hkzl
  have HT1 : Hid (∀ (W : World) (g c : Nat), G W → 1 + xs.length ≤ c → (∀ (j : Nat) v, ((x0 :: xs).map Value.string)[j]? = some v → W.cell? ⟨g, 0 + j, none⟩ = some v) → g < W.heap.size → Calls Tryz.prog 122 #[.slice (some ⟨g, 0, none⟩) (1 + xs.length) c] W fun e w' => e = .returned (.string y) ∧ Below W.heap.size W w') := Lib.hid fun W g c hg hc hcl hlt => by
    rw [← hy]
    have h := Text_any g 0 c (x0 :: xs) W hg (fun j x hx => hcl j _ (by rw [List.getElem?_map, hx]; rfl)) hlt (by rw [List.length_cons]; omega) (by rw [List.length_cons]; omega) (x0.data.toList ++ T) (by rw [join_flat, List.map_cons, List.flatten_cons, ← join_flat, hT]) (by rw [List.length_append]; omega)
    rwa [List.length_cons, Nat.add_comm] at h
  have HT2 : Hid (∀ (W : World) (g : Nat), G W → Row W g 9 [.string x1, .string y] → Calls Tryz.prog 122 #[.slice (some ⟨g, 0, none⟩) 2 2] W fun e w' => e = .returned (.string r) ∧ Below W.heap.size W w') := Lib.hid fun W g hg hr2 => by
    rw [← hr]
    have hyl : y.data.toList.length = 32 := by rw [hyd]; exact shaL_length _
    have hx1l : x1.data.toList.length = 64 := by rw [hd1]; exact blkL_length _ _ hkzl
    exact Text_any g 0 2 [x1, y] W hg (fun j x hx => by rw [Nat.zero_add, hr2.cell]; match j, hx with | 0, hx => cases hx; rfl | 1, hx => cases hx; rfl) hr2.lt (by simp) (by simp) (x1.data.toList ++ y.data.toList) (by rw [join_flat]; simp) (by rw [List.length_append]; omega)
  rw [hfin]
  have HG := Lib.hid hG
  have HH := Lib.hid h2
  have HHb := Lib.hid hb2
  clear hkl hkk hkz hkzl hx0 hx1 hd0 hd1 hy hyd hr hfin hx0l hG h2 hT hTl hb2
  by_cases hlong : 64 < key.size
  · rw [if_pos hlong] at hks
    have hkI : (64 : Int) < (key.size : Int) := by omega
    have HT0 : Hid (∀ (W : World) (g : Nat), G W → Row W g 9 [.string key] → Calls Tryz.prog 122 #[.slice (some ⟨g, 0, none⟩) 1 1] W fun e w' => e = .returned (.string kk) ∧ Below W.heap.size W w') := Lib.hid fun W g hg hr2 => by
      rw [hks]
      exact Text_any g 0 1 [key] W hg (fun j x hx => by rw [Nat.zero_add, hr2.cell]; match j, hx with | 0, hx => cases hx; rfl) hr2.lt (by simp) (by simp) key.data.toList (by rw [join_flat]; simp) (by simp; omega)
    clear hks
    go_enter Tryz.func105, Tryz.ntmps105
    go_wp2_with fail
    have hb0 := (Below.refl w.heap.size w).alloc (Nat.le_refl _) (.cells #[Value.string key] 9)
    refine (HT0.out _ w.heap.size (HG.out.below hb0) (Row.new w 9 [Value.string key])).mono ?_
    rintro e w0 ⟨rfl, hbt⟩
    have hbz := hb0.trans (hbt.mono hb0.size)
    clear hb0 hbt
    go_wp2_with fail
    refine (HM0.out _).mono ?_
    rintro e w1 ⟨rfl, hb1'⟩
    have hb1 := hbz.trans (hb1'.mono hbz.size)
    clear hbz hb1'
    go_wp2_with fail
    have r0 := (Row.new w1 9 [.string x0]).alloc (.cells #[Value.slice (some ⟨w1.heap.size, 0, none⟩) 1 1, Value.slice (some ⟨b2, o2, none⟩) xs.length c2] 25)
    have r1 := Row.new (w1.alloc (.cells #[Value.string x0] 9)) 25 [Value.slice (some ⟨w1.heap.size, 0, none⟩) 1 1, Value.slice (some ⟨b2, o2, none⟩) xs.length c2]
    rw [World.size_alloc] at r1
    have hb3 := (hb1.alloc hb1.size (.cells #[Value.string x0] 9)).alloc (by rw [World.size_alloc]; exact Nat.le_succ_of_le hb1.size) (.cells #[Value.slice (some ⟨w1.heap.size, 0, none⟩) 1 1, Value.slice (some ⟨b2, o2, none⟩) xs.length c2] 25)
    have hlt : b2 < ((w1.alloc (.cells #[Value.string x0] 9)).alloc (.cells #[Value.slice (some ⟨w1.heap.size, 0, none⟩) 1 1, Value.slice (some ⟨b2, o2, none⟩) xs.length c2] 25)).heap.size := Nat.lt_of_lt_of_le HHb.out hb3.size
    refine (Concat_any (w1.heap.size + 1) w1.heap.size b2 o2 c2 x0 xs _ r1 (r0.cell 0) (fun j x hx => (hb3.cell (p := ⟨b2, o2 + j, none⟩) HHb.out).trans (HH.out j x hx)) r0.lt hlt hn).mono ?_
    rintro e w4 ⟨g, c, hc, rfl, hown, hb4⟩
    have hB4 := hb3.trans (hb4.mono hb3.size)
    have H4 := Lib.hid (And.intro hown hB4)
    have hg4 := own_lt hown
    clear r0 r1 hb3 hb4 hown hb1 hlt hB4
    go_wp2_with fail
    refine (HM1.out _).mono ?_
    rintro e w5 ⟨rfl, hb5⟩
    have hB5 := H4.out.2.trans (hb5.mono H4.out.2.size)
    go_wp2_with fail
    refine (HT1.out _ g c (HG.out.below hB5) hc (fun j v hj => (hb5.cell (p := ⟨g, 0 + j, none⟩) hg4).trans (own_cells H4.out.1 (by omega) j v hj)) (Nat.lt_of_lt_of_le hg4 hb5.size)).mono ?_
    rintro e w6 ⟨rfl, hb6⟩
    have hB6 := hB5.trans (hb6.mono hB5.size)
    clear hb5 hb6 hB5
    go_wp2_with fail
    have hB7 := hB6.alloc hB6.size (.cells #[Value.string x1, Value.string y] 9)
    refine (HT2.out _ w6.heap.size (HG.out.below hB7) (Row.new w6 9 [Value.string x1, Value.string y])).mono ?_
    rintro e w7 ⟨rfl, hb7⟩
    have hB8 := hB7.trans (hb7.mono hB7.size)
    clear hB6 hB7 hb7
    go_wp2_with fail
    go_ret
    exact ⟨rfl, hB8⟩
  · rw [if_neg hlong] at hks
    subst hks
    have hkI : ¬ ((64 : Int) < (kk.size : Int)) := by omega
    go_enter Tryz.func105, Tryz.ntmps105
    go_wp2_with fail
    refine (HM0.out _).mono ?_
    rintro e w1 ⟨rfl, hb1⟩
    go_wp2_with fail
    have r0 := (Row.new w1 9 [.string x0]).alloc (.cells #[Value.slice (some ⟨w1.heap.size, 0, none⟩) 1 1, Value.slice (some ⟨b2, o2, none⟩) xs.length c2] 25)
    have r1 := Row.new (w1.alloc (.cells #[Value.string x0] 9)) 25 [Value.slice (some ⟨w1.heap.size, 0, none⟩) 1 1, Value.slice (some ⟨b2, o2, none⟩) xs.length c2]
    rw [World.size_alloc] at r1
    have hb3 := (hb1.alloc hb1.size (.cells #[Value.string x0] 9)).alloc (by rw [World.size_alloc]; exact Nat.le_succ_of_le hb1.size) (.cells #[Value.slice (some ⟨w1.heap.size, 0, none⟩) 1 1, Value.slice (some ⟨b2, o2, none⟩) xs.length c2] 25)
    have hlt : b2 < ((w1.alloc (.cells #[Value.string x0] 9)).alloc (.cells #[Value.slice (some ⟨w1.heap.size, 0, none⟩) 1 1, Value.slice (some ⟨b2, o2, none⟩) xs.length c2] 25)).heap.size := Nat.lt_of_lt_of_le HHb.out hb3.size
    refine (Concat_any (w1.heap.size + 1) w1.heap.size b2 o2 c2 x0 xs _ r1 (r0.cell 0) (fun j x hx => (hb3.cell (p := ⟨b2, o2 + j, none⟩) HHb.out).trans (HH.out j x hx)) r0.lt hlt hn).mono ?_
    rintro e w4 ⟨g, c, hc, rfl, hown, hb4⟩
    have hB4 := hb3.trans (hb4.mono hb3.size)
    have H4 := Lib.hid (And.intro hown hB4)
    have hg4 := own_lt hown
    clear r0 r1 hb3 hb4 hown hb1 hlt hB4
    go_wp2_with fail
    refine (HM1.out _).mono ?_
    rintro e w5 ⟨rfl, hb5⟩
    have hB5 := H4.out.2.trans (hb5.mono H4.out.2.size)
    go_wp2_with fail
    refine (HT1.out _ g c (HG.out.below hB5) hc (fun j v hj => (hb5.cell (p := ⟨g, 0 + j, none⟩) hg4).trans (own_cells H4.out.1 (by omega) j v hj)) (Nat.lt_of_lt_of_le hg4 hb5.size)).mono ?_
    rintro e w6 ⟨rfl, hb6⟩
    have hB6 := hB5.trans (hb6.mono hB5.size)
    clear hb5 hb6 hB5
    go_wp2_with fail
    have hB7 := hB6.alloc hB6.size (.cells #[Value.string x1, Value.string y] 9)
    refine (HT2.out _ w6.heap.size (HG.out.below hB7) (Row.new w6 9 [Value.string x1, Value.string y])).mono ?_
    rintro e w7 ⟨rfl, hb7⟩
    have hB8 := hB7.trans (hb7.mono hB7.size)
    clear hB6 hB7 hb7
    go_wp2_with fail
    go_ret
    exact ⟨rfl, hB8⟩
end Go.Proofs.YtheidjnapoipaaaGreatDoor

namespace Go.Proofs.YtheidjnapoipaaaGreatDoor
open Go.RowKit
set_option linter.unusedVariables false
theorem Awake3_any (w : World) :
    Calls Tryz.prog 45 #[] w fun e w' => e = .returned (.bool true) ∧ Below w.heap.size w w' := by
  go_enter Tryz.func45, Tryz.ntmps45
  go_wp2_with (go_at_call 62; refine (awake3_any _).mono ?_; rintro e wa ⟨rfl, hb⟩)
  go_ret
  exact ⟨rfl, hb⟩
def jefeK : ByteArray := ⟨#[74, 101, 102, 101]⟩
def jefeA : ByteArray := ⟨#[119, 104, 97, 116, 32, 100, 111, 32, 121, 97, 32, 119, 97, 110, 116, 32]⟩
def jefeB : ByteArray := ⟨#[102, 111, 114, 32, 110, 111, 116, 104, 105, 110, 103, 63]⟩
theorem take4_prefix (L : List UInt8) (a b c d : UInt8) (h : L.take 4 = [a, b, c, d]) : Lib.hasPrefix L [a, b, c, d] = true := by
  obtain ⟨R, hR⟩ : ∃ R, L.drop 4 = R := ⟨_, rfl⟩
  have e : L = [a, b, c, d] ++ R := by rw [← h, ← hR, List.take_append_drop]
  rw [e]
  simp [Lib.hasPrefix]

set_option maxRecDepth 20000 in
set_option maxHeartbeats 2000000 in
theorem awake6_any (w : World) (hG : G w) :
    Calls Tryz.prog 92 #[] w fun e w' => e = .returned (.bool true) ∧ Below w.heap.size w w' := by
  obtain ⟨L, hL⟩ : ∃ L, hmacL jefeK.data.toList (jefeA.data.toList ++ jefeB.data.toList) = L := ⟨_, rfl⟩
  have hp : Lib.hasPrefix L [91, 220, 193, 70] = true := by rw [← hL]; exact take4_prefix _ _ _ _ _ jefe_example
  have HS : Hid (∀ (W : World) (g : Nat), G W → Row W g 9 [.string jefeA, .string jefeB] → Calls Tryz.prog 105 #[.string jefeK, .slice (some ⟨g, 0, none⟩) 2 2] W fun e w' => e = .returned (.string ⟨L.toArray⟩) ∧ Below W.heap.size W w') := Lib.hid fun W g hg hr2 => by
    rw [← hL]
    exact HmSum_any jefeK (by decide) g 0 2 [jefeA, jefeB] W hg (fun j x hx => by rw [Nat.zero_add, hr2.cell]; match j, hx with | 0, hx => cases hx; rfl | 1, hx => cases hx; rfl) hr2.lt (by simp) (jefeA.data.toList ++ jefeB.data.toList) (by rw [join_flat]; simp) (by decide)
  have HP : Hid (∀ W : World, Calls Tryz.prog 82 #[.string ⟨L.toArray⟩, .string ⟨#[91, 220, 193, 70]⟩] W fun e w' => e = .returned (.bool true) ∧ w' = W) := Lib.hid fun W => by
    have h := Tryz.strings_HasPrefix ⟨L.toArray⟩ ⟨#[91, 220, 193, 70]⟩ W
    rw [show Lib.hasPrefix (ByteArray.mk L.toArray).data.toList (ByteArray.mk #[91, 220, 193, 70]).data.toList = true from hp] at h
    exact h
  have HG := Lib.hid hG
  clear hL hp hG
  go_enter Tryz.func92, Tryz.ntmps92
  go_wp2_with fail
  refine (Awake3_any _).mono ?_
  rintro e w1 ⟨rfl, hb1⟩
  go_wp2_with fail
  refine (Awake5_any _ (HG.out.below hb1)).mono ?_
  rintro e w2 ⟨rfl, hb2⟩
  have hB2 := hb1.trans (hb2.mono hb1.size)
  clear hb1 hb2
  go_wp2_with fail
  have hB3 := hB2.alloc hB2.size (.cells #[Value.string jefeA, Value.string jefeB] 9)
  refine (HS.out _ w2.heap.size (HG.out.below hB3) (Row.new w2 9 [Value.string jefeA, Value.string jefeB])).mono ?_
  rintro e w3 ⟨rfl, hb3⟩
  have hB4 := hB3.trans (hb3.mono hB3.size)
  clear hB2 hB3 hb3
  go_wp2_with fail
  refine (HP.out _).mono ?_
  rintro e w4 ⟨rfl, rfl⟩
  go_wp2_with fail
  go_ret
  exact ⟨rfl, hB4⟩
end Go.Proofs.YtheidjnapoipaaaGreatDoor

namespace Go.Proofs.YtheidjnapoipaaaGreatDoor
open Go.RowKit
set_option linter.unusedVariables false

theorem Awake6_any (w : World) (hG : G w) :
    Calls Tryz.prog 78 #[] w fun e w' => e = .returned (.bool true) ∧ Below w.heap.size w w' := by
  have HG := Lib.hid hG
  clear hG
  go_enter Tryz.func78, Tryz.ntmps78
  go_wp2_with fail
  refine (awake6_any _ HG.out).mono ?_
  rintro e wa ⟨rfl, hb⟩
  go_wp2_with fail
  go_ret
  exact ⟨rfl, hb⟩
def zeroId : ByteArray := ⟨#[48, 48, 48, 48, 48, 48, 48, 48, 45, 48, 48, 48, 48, 45, 48, 48, 48, 48, 45, 48, 48, 48, 48, 45, 48, 48, 48, 48, 48, 48, 48, 48, 48, 48, 48, 48]⟩
theorem zero_eq : (zeroId.toList == [48, 48, 48, 48, 48, 48, 48, 48, 45, 48, 48, 48, 48, 45, 48, 48, 48, 48, 45, 48, 48, 48, 48, 45, 48, 48, 48, 48, 48, 48, 48, 48, 48, 48, 48, 48]) = true := by decide +kernel
theorem zero_id : (⟨(idL (List.replicate 16 0)).toArray⟩ : ByteArray) = zeroId := by decide +kernel
def zA : Array Value := #[.int .u8 0, .int .u8 0, .int .u8 0, .int .u8 0, .int .u8 0, .int .u8 0, .int .u8 0, .int .u8 0, .int .u8 0, .int .u8 0, .int .u8 0, .int .u8 0, .int .u8 0, .int .u8 0, .int .u8 0, .int .u8 0]
theorem zA_eq : zA = ((List.replicate 16 (0 : UInt8)).map bv).toArray := by rfl

set_option maxRecDepth 20000 in
set_option maxHeartbeats 1000000 in
theorem awake10_any (w : World) (hG : G w) :
    Calls Tryz.prog 64 #[] w fun e w' => e = .returned (.bool true) ∧ Below w.heap.size w w' := by
  have HT : Hid (∀ W : World, Calls Tryz.prog 30 #[.agg zA] W fun e w' => e = .returned (.string zeroId) ∧ Below W.heap.size W w') := Lib.hid fun W => by
    rw [← zero_id, zA_eq]
    exact idText_any _ rfl W
  have HG := Lib.hid hG
  clear hG
  go_enter Tryz.func64, Tryz.ntmps64
  go_wp2_with fail
  refine (Awake2_any _).mono ?_
  rintro e w1 ⟨rfl, hb1⟩
  go_wp2_with fail
  refine (Awake6_any _ (HG.out.below hb1)).mono ?_
  rintro e w2 ⟨rfl, hb2⟩
  have hB2 := hb1.trans (hb2.mono hb1.size)
  clear hb1 hb2
  go_wp2_with fail
  refine (HT.out _).mono ?_
  rintro e w3 ⟨rfl, hb3⟩
  have hB3 := hB2.trans (hb3.mono hB2.size)
  clear hB2 hb3
  have hz := zero_eq
  go_wp2_with fail
  go_ret
  exact ⟨rfl, hB3⟩
end Go.Proofs.YtheidjnapoipaaaGreatDoor

namespace Go.Proofs.YtheidjnapoipaaaGreatDoor
open Go.RowKit
set_option linter.unusedVariables false

section
variable {P : Program} {ops : Array Oper} {C : World → Prop} {Q : Act → Prop} {a : Act} {o : Oper} {rest : List Oper}
theorem quiet_load_row {K : Act → Prop} (ty : TypeId) (x : Operand) (ho : o.op = .load ty x) (g : Nat) (hx : a.eval x = .pointer (some ⟨g, 0, none⟩)) (t : TypeId) (cs : List Value) (d : TypeDesc) (hS : ∀ w, C w → Row w g t cs)
    (hu : P.underlying ty = some d) (hd : d.isRow = true) (hi : (P.info? ty).map (·.size) = some cs.length) (hk : K (a.put o.dst (.agg cs.toArray))) : o.quiet P a C K :=
  ⟨_, fun w hw => by
    have hr : w.rangeAt g 0 cs := fun j v hj => by rw [Nat.zero_add, (hS w hw).cell]; exact hj
    unfold Oper.quietAt execOp
    simp only [ho, hx, Instr.loadAt, Instr.sureAddr, Sem.run_bind, Sem.run_pure, Result.andThen_ok, run_loadVar_mid w g 0 ty cs d hr hu hd hi]
    exact ⟨rfl, rfl⟩, hk⟩
theorem quiet_eql_agg {K : Act → Prop} (t : TypeId) (x y : Operand) (t2 : TypeId) (ho : o.op = .binOp .eql t x y t2)
    (cs ds : Array Value) (hx : a.eval x = .agg cs) (hy : a.eval y = .agg ds) (hm : P.eqGuardType P.depth t = false) (r : Bool) (he : ∀ W, (binOp .eql t (.agg cs) (.agg ds)).run P W = .ok (.bool r) W) (hk : K (a.put o.dst (.bool r))) : o.quiet P a C K :=
  ⟨_, fun w hw => by
    unfold Oper.quietAt execOp
    simp only [ho, hx, hy, Sem.run_bind, run_eqGuard_agg w .eql t x y cs ds hm, he, Result.andThen_ok, Sem.run_pure]
    exact ⟨rfl, rfl⟩, hk⟩
end

theorem items_bytes {P : Program} (W : World) (d : Nat) (e : TypeId) (l m : List UInt8) (he : P.underlying e = some (.int .u8)) (ha : (isAgg e).run P W = .ok false W) :
    ∀ is : List Nat, (∀ i ∈ is, i < l.length ∧ i < m.length) → (Op.eqItems (d + 1) e 1 (l.map bv).toArray (m.map bv).toArray is).run P W = .ok (decide (∀ i ∈ is, l[i]? = m[i]?)) W
  | [], _ => by simp [Op.eqItems]
  | i :: is, h => by
    obtain ⟨h1, h2⟩ := h i (by simp)
    have ih := items_bytes W d e l m he ha is (fun j hj => h j (by simp [hj]))
    have hp : (part e (l.map bv).toArray (i * 1)).run P W = .ok (.int .u8 (l[i].toNat : Int)) W := by
      simp only [part, Sem.run_bind, ha, Result.andThen_ok, Nat.mul_one, Bool.false_eq_true, if_false, List.getElem?_toArray, List.getElem?_map, List.getElem?_eq_getElem h1, Option.map_some, bv, Sem.run_pure]
    have hq : (part e (m.map bv).toArray (i * 1)).run P W = .ok (.int .u8 (m[i].toNat : Int)) W := by
      simp only [part, Sem.run_bind, ha, Result.andThen_ok, Nat.mul_one, Bool.false_eq_true, if_false, List.getElem?_toArray, List.getElem?_map, List.getElem?_eq_getElem h2, Option.map_some, bv, Sem.run_pure]
    simp only [Op.eqItems, Sem.run_bind, hp, hq, Result.andThen_ok, run_equalIn_int W d e .u8 .u8 _ _ he]
    by_cases hb : l[i] = m[i]
    · have e1 : l[i]? = m[i]? := by rw [List.getElem?_eq_getElem h1, List.getElem?_eq_getElem h2, hb]
      simp [hb, ih, e1]
    · have e1 : ¬ l[i]? = m[i]? := by rw [List.getElem?_eq_getElem h1, List.getElem?_eq_getElem h2]; simpa using hb
      have e2 : ¬ ((l[i].toNat : Int) = (m[i].toNat : Int)) := fun h => hb (UInt8.toNat_inj.1 (by omega))
      simp [e1, e2]
theorem arr_equalIn {P : Program} (t e : TypeId) (n : Nat) (l m : List UInt8) (hl : l.length = n) (hm : m.length = n) (ht : P.underlying t = some (.array n e)) (he : P.underlying e = some (.int .u8)) (ha : ∀ W, (isAgg e).run P W = .ok false W)
    (i : TypeInfo) (hi : P.info? e = some i) (hc : P.cellsOf e = 1) (W : World) :
    (Op.equalIn 10000 t (.agg (l.map bv).toArray) (.agg (m.map bv).toArray)).run P W = .ok (decide (l = m)) W := by
  rw [run_equalIn_array W 9999 _ _ ht hi, hc]
  rw [items_bytes W 9998 e l m he (ha W) _ (fun j hj => by
    have hj2 := List.mem_range.1 hj
    omega)]
  have e1 : decide (∀ i ∈ List.range n, l[i]? = m[i]?) = decide (l = m) := decide_eq_decide.2 ⟨fun h => List.ext_getElem? fun j => by
      by_cases hj : j < n
      · exact h j (List.mem_range.2 hj)
      · rw [List.getElem?_eq_none (by omega), List.getElem?_eq_none (by omega)], fun h => by subst h; intros; rfl⟩
  rw [e1]
theorem arr_eql {P : Program} (t e : TypeId) (n : Nat) (l m : List UInt8) (hl : l.length = n) (hm : m.length = n) (ht : P.underlying t = some (.array n e)) (he : P.underlying e = some (.int .u8)) (ha : ∀ W, (isAgg e).run P W = .ok false W)
    (i : TypeInfo) (hi : P.info? e = some i) (hc : P.cellsOf e = 1) (W : World) :
    (binOp .eql t (.agg (l.map bv).toArray) (.agg (m.map bv).toArray)).run P W = .ok (.bool (decide (l = m))) W := by
  rw [run_eql_struct, arr_equalIn t e n l m hl hm ht he ha i hi hc W]
  rfl
end Go.Proofs.YtheidjnapoipaaaGreatDoor

namespace Go.Proofs.YtheidjnapoipaaaGreatDoor
open Go.RowKit
set_option linter.unusedVariables false

theorem results_row_tmp {P : Program} {fn : Func} {p u : Tmp} {ty : TypeId} (h : fn.results = #[.cell p ty, .tmp u]) (tmps : Array Value) (w : World) (g : Nat) (t : TypeId) (cs : Array Value) (fr : Nat × Nat) (d : TypeDesc)
    (hp : tmps.getD p undef = .pointer (some ⟨g, 0, none⟩)) (hg : w.heap[g]? = some (.cells cs t fr))
    (hu : P.underlying ty = some d) (hd : (match d with | .struct _ | .array _ _ => true | _ => false) = true) (hi : (P.info? ty).map (·.size) = some cs.size) (x : Value) (hx : tmps.getD u undef = x) :
    (results fn tmps).run P w = .ok (.tuple #[.agg cs, x]) w := by
  rw [results_cell_tmp h, hp, hx]
  simp [asAddr, run_loadVar_row w g t ty cs fr d hg hu hd hi, Result.andThen]
def z16 : List Value := List.replicate 16 (.int .u8 0)
theorem u16_info : (Tryz.prog.info? 64).map (fun i => (i.zero, i.size)) = some (some (.agg z16.toArray), 16) := by kernel_rfl
theorem u16_size : (Tryz.prog.info? 64).map (·.size) = some 16 := (zero_of_info u16_info).2
theorem one_bytes (l : List UInt8) : (l.map bv).toArray.all (·.oneCell') = true := by
  rw [Array.all_eq_true_iff_forall_mem]
  intro v hv
  simp only [List.mem_toArray, List.mem_map] at hv
  obtain ⟨c, _, rfl⟩ := hv
  rfl

theorem z16_eq : z16 = (List.replicate 16 (0 : UInt8)).map bv := by rfl
theorem z16_one : z16.toArray.all (·.oneCell') = true := by rw [z16_eq]; exact one_bytes _

set_option maxRecDepth 20000 in
set_option maxHeartbeats 1000000 in
theorem id_ok (r : ByteArray) (hr : r.size = 16) (w : World) :
    Calls Tryz.prog 71 #[.string r] w fun e w' => e = .returned (.tuple #[.agg (r.data.toList.map bv).toArray, .int .i64 0]) ∧ Below w.heap.size w w' := by
  have hz := (zero_of_info u16_info).1
  have hl : r.data.toList.length = 16 := by rw [← hr]; simp
  have hone := one_bytes r.data.toList
  obtain ⟨cap, w7, hcv, hcell, hfr, hB, hsz⟩ := str_bytes (P := Tryz.prog) (w.alloc (.cells z16.toArray 64)) 9 76 5 r Tryz.underlying9 Tryz.underlying76 Tryz.underlying5
  have hrg : w7.rangeAt (w.heap.size + 1) 0 (r.data.toList.map bv) := fun j v hj => by
    have hj' : j < r.data.toList.length := by
      have := (List.getElem?_eq_some_iff.1 hj).1
      simpa using this
    have h := hcell j (by omega)
    rw [World.size_alloc] at h
    rw [Nat.zero_add, h]
    rw [List.getElem?_map, List.getElem?_eq_getElem hj'] at hj
    rw [List.getD_eq_getElem?_getD, List.getElem?_eq_getElem hj']
    exact hj
  have hr7 : Row w7 w.heap.size 64 z16 := (Row.new w 64 z16).below hB (by simp)
  have hb7 : Below w.heap.size w w7 := ((Below.refl w.heap.size w).alloc (Nat.le_refl _) (.cells z16.toArray 64)).trans (hB.mono (by simp))
  rw [World.size_alloc] at hcv
  have har := fun W => run_arrayAt (P := Tryz.prog) (w := W) 64 5 16 (some ⟨w.heap.size + 1, 0, none⟩) r.size cap Tryz.underlying64 (by omega)
  obtain ⟨C, hC⟩ : ∃ C, r.data.toList.map bv = C := ⟨_, rfl⟩
  have hCl : C.length = 16 := by rw [← hC, List.length_map, hl]
  rw [hC] at hrg hone ⊢
  have H := Lib.hid (And.intro hrg (And.intro hr7 (And.intro hb7 (And.intro hone hCl))))
  have hrI : ((r.size : Int) != 16) = false := by rw [hr]; rfl
  clear hl hone hcell hfr hB hsz hrg hr7 hb7 hC hCl hr
  go_enter Tryz.func71, Tryz.ntmps71
  go_wp2_with (first
    | (refine wpList_load_mid rfl 64 (.tmp 10) rfl (w.heap.size + 1) 0 rfl C _ H.out.1 Tryz.underlying64 rfl (by rw [u16_size, H.out.2.2.2.2]) ?_)
    | (refine wpList_store_row rfl 64 (.tmp 2) (.tmp 11) rfl w.heap.size C.toArray rfl rfl 64 z16.toArray H.out.2.1 (by rw [u16_size, List.size_toArray, H.out.2.2.2.2]) (by rw [List.size_toArray, List.size_toArray, H.out.2.2.2.2]; rfl) H.out.2.2.2.1 ?_))
  have hp := H.out.2.1.put C
  have hq := below_setRow (B := w.heap.size) H.out.2.2.1 (Nat.le_refl _) C.toArray
  exact bodyPost_ret (v := .tuple #[.agg C.toArray, .int .i64 0]) (results_row_tmp rfl _ _ w.heap.size 64 C.toArray (0, 0) _ rfl hp Tryz.underlying64 rfl (by rw [u16_size, List.size_toArray, H.out.2.2.2.2]) _ rfl) rfl ⟨rfl, hq⟩

set_option maxRecDepth 20000 in
set_option maxHeartbeats 1000000 in
theorem id_bad (r : ByteArray) (hr : r.size ≠ 16) (w : World) :
    Calls Tryz.prog 71 #[.string r] w fun e w' => e = .returned (.tuple #[.agg z16.toArray, .int .i64 4]) ∧ Below w.heap.size w w' := by
  have hz := (zero_of_info u16_info).1
  have hr7 := Row.new w 64 z16
  have hb7 : Below w.heap.size w (w.alloc (.cells z16.toArray 64)) := (Below.refl w.heap.size w).alloc (Nat.le_refl _) (.cells z16.toArray 64)
  have H := Lib.hid (And.intro hr7 hb7)
  have hrI : ((r.size : Int) != 16) = true := by rw [bne_iff_ne]; omega
  clear hr hr7 hb7
  go_enter Tryz.func71, Tryz.ntmps71
  go_wp2_with (refine wpList_store_row rfl 64 (.tmp 2) (.tmp 7) rfl w.heap.size z16.toArray rfl rfl 64 z16.toArray H.out.1 u16_size rfl z16_one ?_)
  have hp := H.out.1.put z16
  have hq := below_setRow (B := w.heap.size) H.out.2 (Nat.le_refl _) z16.toArray
  exact bodyPost_ret (v := .tuple #[.agg z16.toArray, .int .i64 4]) (results_row_tmp rfl _ _ w.heap.size 64 z16.toArray (0, 0) _ rfl hp Tryz.underlying64 rfl u16_size _ rfl) rfl ⟨rfl, hq⟩

set_option maxRecDepth 20000 in
set_option maxHeartbeats 1000000 in
/-- Whether all bytes are nought. -/
theorem idZero_any (l : List UInt8) (hl : l.length = 16) (w : World) :
    Calls Tryz.prog 57 #[.agg (l.map bv).toArray] w fun e w' => e = .returned (.bool (decide (l = List.replicate 16 0))) ∧ Below w.heap.size w w' := by
  have hr0 := Row.new w 64 (l.map bv)
  have hb0 : Below w.heap.size w (w.alloc (.cells (l.map bv).toArray 64)) := (Below.refl w.heap.size w).alloc (Nat.le_refl _) (.cells (l.map bv).toArray 64)
  have he := fun W => arr_equalIn (P := Tryz.prog) 64 5 16 l (List.replicate 16 0) hl rfl Tryz.underlying64 Tryz.underlying5 (Tryz.isAgg5) _ (info_parts (show (Tryz.prog.info? 5).map (fun i => (i.zero, i.size, i.bytes)) = some (some (.int .u8 0), 1, 1) by kernel_rfl)).choose_spec.1 (by kernel_rfl) W
  rw [← z16_eq] at he
  have ez : z16.toArray = zA := by rfl
  rw [ez] at he
  unfold zA at he
  obtain ⟨C, hC⟩ : ∃ C, l.map bv = C := ⟨_, rfl⟩
  have hCl : C.length = 16 := by rw [← hC, List.length_map, hl]
  obtain ⟨r, hr⟩ : ∃ r, decide (l = List.replicate 16 0) = r := ⟨_, rfl⟩
  rw [hC] at hr0 hb0 he ⊢
  rw [hr] at he ⊢
  have H := Lib.hid (And.intro hr0 (And.intro hb0 hCl))
  clear hC hr hr0 hb0 hl hCl ez
  go_enter Tryz.func57, Tryz.ntmps57
  go_wp2_with (first
    | (refine wpList_load_row rfl 64 (.tmp 1) rfl w.heap.size rfl 64 C.toArray (0, 0) _ H.out.1 Tryz.underlying64 rfl (by rw [u16_size, List.size_toArray, H.out.2.2]) ?_)
    | fail)
  go_ret
  exact ⟨rfl, H.out.2.1⟩
end Go.Proofs.YtheidjnapoipaaaGreatDoor

namespace Go.Proofs.YtheidjnapoipaaaGreatDoor
open Go.RowKit
set_option linter.unusedVariables false

/-- An operation whose guard is met. -/
theorem wpList_want {P : Program} {ops : Array Oper} {rest : List Oper} {o : Oper} {a : Act} {w : World} {Q : Exit → Act → World → Prop} (hw : Region.wanted o (yielded ops a.tmps) = true)
    (h : ∀ K : Act → World → Prop, (∀ a w, wpList P ops Q rest a w → K a w) → o.wp P a w K Q) : wpList P ops Q (o :: rest) a w := by
  simp only [wpList, hw, if_true]
  exact .inl (h _ (fun _ _ h => h))
/-- The library's variable holds some number. -/
def M (w : World) : Prop := ∃ m, w.cell? ⟨0, 0, none⟩ = some (.int .i64 m)
theorem M.below {w w' : World} (h : M w) (hb : Below w.heap.size w w') : M w' := by
  obtain ⟨m, hm⟩ := h
  exact ⟨m, (hb.cell (p := ⟨0, 0, none⟩) (block_lt_of_cell hm)).trans hm⟩

theorem strip_any (s : ByteArray) (hs : s.size ≤ 100000) (w : World) (hM : M w) :
    Calls Tryz.prog 70 #[.string s, .string ⟨#[45]⟩, .string ⟨#[]⟩] w fun e w' => e = .returned (.string ⟨(strip s.data.toList).toArray⟩) ∧ Below w.heap.size w w' := by
  obtain ⟨m, hm⟩ := hM
  have h := Tryz.strings_ReplaceAll s ⟨#[45]⟩ ⟨#[]⟩ m w (by omega) hm (by decide) (by show s.size + _ * 0 ≤ _; omega)
  rw [show (ByteArray.mk #[45]).data.toList = [45] from rfl, show (ByteArray.mk #[]).data.toList = [] from rfl, replaceAll_strip] at h
  exact h

set_option maxRecDepth 20000 in
set_option maxHeartbeats 2000000 in
/-- Where the bytes are no id's. -/
theorem parse_short (s t raw : ByteArray) (e : Int) (ht : (⟨(strip s.data.toList).toArray⟩ : ByteArray) = t) (hs : s.size ≤ 100000) (w : World) (hM : M w)
    (hD : ∀ W : World, Calls Tryz.prog 60 #[alph hexS 4 false, .string t] W fun x w' => x = .returned (.tuple #[.string raw, .int .i64 e]) ∧ Below W.heap.size W w') (hr : raw.size ≠ 16) :
    Calls Tryz.prog 56 #[.string s] w fun e w' => e = .returned (.tuple #[.agg z16.toArray, .int .i64 4]) ∧ Below w.heap.size w w' := by
  have hz := (zero_of_info u16_info).1
  have HS : Hid (∀ W : World, M W → Calls Tryz.prog 70 #[.string s, .string ⟨#[45]⟩, .string ⟨#[]⟩] W fun e w' => e = .returned (.string t) ∧ Below W.heap.size W w') := Lib.hid fun W h => by rw [← ht]; exact strip_any s hs W h
  have HD := Lib.hid hD
  have HI := Lib.hid (fun W => id_bad raw hr W)
  have HM := Lib.hid hM
  have hr0 := Row.new w 64 z16
  have hb0 : Below w.heap.size w (w.alloc (.cells z16.toArray 64)) := (Below.refl w.heap.size w).alloc (Nat.le_refl _) (.cells z16.toArray 64)
  have H0 := Lib.hid (And.intro hr0 hb0)
  clear hD ht hr hs hM hr0 hb0
  go_enter Tryz.func56, Tryz.ntmps56
  go_wp2_with fail
  obtain ⟨r0, b0⟩ := H0.out
  generalize w.alloc (.cells z16.toArray 64) = w0 at r0 b0 ⊢
  refine (Hex_any _).mono ?_
  rintro x w1 ⟨rfl, hb1⟩
  have r1 := r0.below hb1 r0.lt
  have b1 := b0.trans (hb1.mono b0.size)
  clear r0 b0 hb1 H0
  go_wp2_with fail
  refine (HS.out _ (HM.out.below b1)).mono ?_
  rintro x w2 ⟨rfl, hb2⟩
  have r2 := r1.below hb2 r1.lt
  have b2 := b1.trans (hb2.mono b1.size)
  clear r1 b1 hb2
  go_wp2_with fail
  refine (HD.out _).mono ?_
  rintro x w3 ⟨rfl, hb3⟩
  have r3 := r2.below hb3 r2.lt
  have b3 := b2.trans (hb3.mono b2.size)
  clear r2 b2 hb3
  go_wp2_with fail
  refine (HI.out _).mono ?_
  rintro x w4 ⟨rfl, hb4⟩
  have r4 := r3.below hb4 r3.lt
  have b4 := b3.trans (hb4.mono b3.size)
  clear r3 b3 hb4
  have r5 := r4.alloc (.cells z16.toArray 64)
  have b5 := b4.alloc b4.size (.cells z16.toArray 64)
  have n5 := Row.new w4 64 z16
  have r6 := r5.put_far (g' := w4.heap.size) (by have := r4.lt; omega) z16.toArray
  have b6 := below_setRow (B := w.heap.size) b5 b4.size z16.toArray
  have H := Lib.hid (And.intro n5 (And.intro r6 b6))
  clear r4 b4 r5 b5 n5 r6 b6
  go_wp2_with (first
    | (refine wpList_store_row rfl 64 (.tmp 6) (.tmp 18) rfl w4.heap.size z16.toArray rfl rfl 64 z16.toArray H.out.1 u16_size rfl z16_one ?_)
    | (refine wpList_store_row rfl 64 (.tmp 2) (.tmp 28) rfl w.heap.size z16.toArray rfl rfl 64 z16.toArray H.out.2.1 u16_size rfl z16_one ?_))
  have hp := H.out.2.1.put z16
  have hq := below_setRow (B := w.heap.size) H.out.2.2 (Nat.le_refl _) z16.toArray
  exact bodyPost_ret (v := .tuple #[.agg z16.toArray, .int .i64 4]) (results_row_tmp rfl _ _ w.heap.size 64 z16.toArray (0, 0) _ rfl hp Tryz.underlying64 rfl u16_size _ rfl) rfl ⟨rfl, hq⟩

set_option maxRecDepth 20000 in
set_option maxHeartbeats 2000000 in
/-- Where they are, and the text is theirs. -/
theorem parse_long (s t raw : ByteArray) (e : Int) (ht : (⟨(strip s.data.toList).toArray⟩ : ByteArray) = t) (hs : s.size ≤ 100000) (w : World) (hM : M w)
    (hD : ∀ W : World, Calls Tryz.prog 60 #[alph hexS 4 false, .string t] W fun x w' => x = .returned (.tuple #[.string raw, .int .i64 e]) ∧ Below W.heap.size W w') (hr : raw.size = 16) (htx : idL raw.data.toList = s.data.toList) :
    Calls Tryz.prog 56 #[.string s] w fun e w' => e = .returned (.tuple #[.agg (raw.data.toList.map bv).toArray, .int .i64 0]) ∧ Below w.heap.size w w' := by
  have hz := (zero_of_info u16_info).1
  have HS : Hid (∀ W : World, M W → Calls Tryz.prog 70 #[.string s, .string ⟨#[45]⟩, .string ⟨#[]⟩] W fun e w' => e = .returned (.string t) ∧ Below W.heap.size W w') := Lib.hid fun W h => by rw [← ht]; exact strip_any s hs W h
  have HD := Lib.hid hD
  have hl : raw.data.toList.length = 16 := by rw [← hr]; simp
  have hI := fun W => id_ok raw hr W
  have hT := fun W => idText_any raw.data.toList hl W
  have hone := one_bytes raw.data.toList
  obtain ⟨C, hC⟩ : ∃ C, raw.data.toList.map bv = C := ⟨_, rfl⟩
  have hCl : C.length = 16 := by rw [← hC, List.length_map, hl]
  rw [hC] at hI hT hone ⊢
  have htt : (⟨(idL raw.data.toList).toArray⟩ : ByteArray) = s := by rw [htx]
  rw [htt] at hT
  have HI := Lib.hid hI
  have HT := Lib.hid hT
  have HC := Lib.hid (And.intro hCl hone)
  have HM := Lib.hid hM
  have hr0 := Row.new w 64 z16
  have hb0 : Below w.heap.size w (w.alloc (.cells z16.toArray 64)) := (Below.refl w.heap.size w).alloc (Nat.le_refl _) (.cells z16.toArray 64)
  have H0 := Lib.hid (And.intro hr0 hb0)
  clear hD ht hr hs hM hr0 hb0 hl hI hT hone hC hCl htt htx
  go_enter Tryz.func56, Tryz.ntmps56
  go_wp2_with fail
  obtain ⟨r0, b0⟩ := H0.out
  generalize w.alloc (.cells z16.toArray 64) = w0 at r0 b0 ⊢
  refine (Hex_any _).mono ?_
  rintro x w1 ⟨rfl, hb1⟩
  have r1 := r0.below hb1 r0.lt
  have b1 := b0.trans (hb1.mono b0.size)
  clear r0 b0 hb1 H0
  go_wp2_with fail
  refine (HS.out _ (HM.out.below b1)).mono ?_
  rintro x w2 ⟨rfl, hb2⟩
  have r2 := r1.below hb2 r1.lt
  have b2 := b1.trans (hb2.mono b1.size)
  clear r1 b1 hb2
  go_wp2_with fail
  refine (HD.out _).mono ?_
  rintro x w3 ⟨rfl, hb3⟩
  have r3 := r2.below hb3 r2.lt
  have b3 := b2.trans (hb3.mono b2.size)
  clear r2 b2 hb3
  go_wp2_with fail
  refine (HI.out _).mono ?_
  rintro x w4 ⟨rfl, hb4⟩
  have r4 := r3.below hb4 r3.lt
  have b4 := b3.trans (hb4.mono b3.size)
  clear r3 b3 hb4
  have r5 := r4.alloc (.cells z16.toArray 64)
  have b5 := b4.alloc b4.size (.cells z16.toArray 64)
  have n5 := Row.new w4 64 z16
  have N5 := Lib.hid n5
  have n6 := n5.put C
  have r6 := r5.put_far (g' := w4.heap.size) (by have := r4.lt; omega) C.toArray
  have b6 := below_setRow (B := w.heap.size) b5 b4.size C.toArray
  clear r4 b4 r5 b5 n5
  go_wp2_with (first
    | (refine wpList_store_row rfl 64 (.tmp 6) (.tmp 18) rfl w4.heap.size C.toArray rfl rfl 64 z16.toArray N5.out (by rw [u16_size, List.size_toArray, HC.out.1]) (by rw [List.size_toArray, List.size_toArray, HC.out.1]; rfl) HC.out.2 ?_)
    | (refine wpList_want (by rfl) fun _ hK => wp_load_row 64 (.tmp 6) rfl w4.heap.size rfl 64 C.toArray (0, 0) _ n6 Tryz.underlying64 rfl (by rw [u16_size, List.size_toArray, HC.out.1]) (hK _ _ ?_)))
  generalize (w4.alloc (.cells z16.toArray 64)).setRow w4.heap.size C.toArray = w5 at n6 r6 b6 ⊢
  obtain ⟨g6, hg6⟩ : ∃ g, w4.heap.size = g := ⟨_, rfl⟩
  rw [hg6] at n6 ⊢
  clear N5 hg6
  refine (HT.out _).mono ?_
  rintro x w6 ⟨rfl, hb6⟩
  have n7 := n6.below hb6 n6.lt
  have r7 := r6.below hb6 r6.lt
  have b7 := b6.trans (hb6.mono b6.size)
  clear n6 r6 b6 hb6
  go_wp2_with (first
    | (refine wpList_load_row rfl 64 (.tmp 6) rfl g6 rfl 64 C.toArray (0, 0) _ n7 Tryz.underlying64 rfl (by rw [u16_size, List.size_toArray, HC.out.1]) ?_)
    | (refine wpList_store_row rfl 64 (.tmp 2) (.tmp 29) rfl w.heap.size C.toArray rfl rfl 64 z16.toArray r7 (by rw [u16_size, List.size_toArray, HC.out.1]) (by rw [List.size_toArray, List.size_toArray, HC.out.1]; rfl) HC.out.2 ?_))
  have hp := r7.put C
  have hq := below_setRow (B := w.heap.size) b7 (Nat.le_refl _) C.toArray
  exact bodyPost_ret (v := .tuple #[.agg C.toArray, .int .i64 0]) (results_row_tmp rfl _ _ w.heap.size 64 C.toArray (0, 0) _ rfl hp Tryz.underlying64 rfl (by rw [u16_size, List.size_toArray, HC.out.1]) _ rfl) rfl ⟨rfl, hq⟩

set_option maxRecDepth 20000 in
set_option maxHeartbeats 2000000 in
/-- Where they are, and the text isn't theirs. -/
theorem parse_other (s t raw : ByteArray) (e : Int) (ht : (⟨(strip s.data.toList).toArray⟩ : ByteArray) = t) (hs : s.size ≤ 100000) (w : World) (hM : M w)
    (hD : ∀ W : World, Calls Tryz.prog 60 #[alph hexS 4 false, .string t] W fun x w' => x = .returned (.tuple #[.string raw, .int .i64 e]) ∧ Below W.heap.size W w') (hr : raw.size = 16) (htx : idL raw.data.toList ≠ s.data.toList) :
    Calls Tryz.prog 56 #[.string s] w fun e w' => e = .returned (.tuple #[.agg z16.toArray, .int .i64 4]) ∧ Below w.heap.size w w' := by
  have hz := (zero_of_info u16_info).1
  have HS : Hid (∀ W : World, M W → Calls Tryz.prog 70 #[.string s, .string ⟨#[45]⟩, .string ⟨#[]⟩] W fun e w' => e = .returned (.string t) ∧ Below W.heap.size W w') := Lib.hid fun W h => by rw [← ht]; exact strip_any s hs W h
  have HD := Lib.hid hD
  have hl : raw.data.toList.length = 16 := by rw [← hr]; simp
  have hI := fun W => id_ok raw hr W
  have hT := fun W => idText_any raw.data.toList hl W
  have hone := one_bytes raw.data.toList
  obtain ⟨C, hC⟩ : ∃ C, raw.data.toList.map bv = C := ⟨_, rfl⟩
  have hCl : C.length = 16 := by rw [← hC, List.length_map, hl]
  rw [hC] at hI hT hone
  obtain ⟨tx, htt⟩ : ∃ tx : ByteArray, (⟨(idL raw.data.toList).toArray⟩ : ByteArray) = tx := ⟨_, rfl⟩
  rw [htt] at hT
  have hne : (tx.toList == s.toList) = false := by
    rw [beq_eq_false_iff_ne, Lib.toList_data, Lib.toList_data, ← htt]
    exact htx
  have HI := Lib.hid hI
  have HT := Lib.hid hT
  have HC := Lib.hid (And.intro hCl hone)
  have HM := Lib.hid hM
  have hr0 := Row.new w 64 z16
  have hb0 : Below w.heap.size w (w.alloc (.cells z16.toArray 64)) := (Below.refl w.heap.size w).alloc (Nat.le_refl _) (.cells z16.toArray 64)
  have H0 := Lib.hid (And.intro hr0 hb0)
  clear hD ht hr hs hM hr0 hb0 hl hI hT hone hC hCl htt htx
  go_enter Tryz.func56, Tryz.ntmps56
  go_wp2_with fail
  obtain ⟨r0, b0⟩ := H0.out
  generalize w.alloc (.cells z16.toArray 64) = w0 at r0 b0 ⊢
  refine (Hex_any _).mono ?_
  rintro x w1 ⟨rfl, hb1⟩
  have r1 := r0.below hb1 r0.lt
  have b1 := b0.trans (hb1.mono b0.size)
  clear r0 b0 hb1 H0
  go_wp2_with fail
  refine (HS.out _ (HM.out.below b1)).mono ?_
  rintro x w2 ⟨rfl, hb2⟩
  have r2 := r1.below hb2 r1.lt
  have b2 := b1.trans (hb2.mono b1.size)
  clear r1 b1 hb2
  go_wp2_with fail
  refine (HD.out _).mono ?_
  rintro x w3 ⟨rfl, hb3⟩
  have r3 := r2.below hb3 r2.lt
  have b3 := b2.trans (hb3.mono b2.size)
  clear r2 b2 hb3
  go_wp2_with fail
  refine (HI.out _).mono ?_
  rintro x w4 ⟨rfl, hb4⟩
  have r4 := r3.below hb4 r3.lt
  have b4 := b3.trans (hb4.mono b3.size)
  clear r3 b3 hb4
  have r5 := r4.alloc (.cells z16.toArray 64)
  have b5 := b4.alloc b4.size (.cells z16.toArray 64)
  have n5 := Row.new w4 64 z16
  have N5 := Lib.hid n5
  have n6 := n5.put C
  have r6 := r5.put_far (g' := w4.heap.size) (by have := r4.lt; omega) C.toArray
  have b6 := below_setRow (B := w.heap.size) b5 b4.size C.toArray
  clear r4 b4 r5 b5 n5
  go_wp2_with (first
    | (refine wpList_store_row rfl 64 (.tmp 6) (.tmp 18) rfl w4.heap.size C.toArray rfl rfl 64 z16.toArray N5.out (by rw [u16_size, List.size_toArray, HC.out.1]) (by rw [List.size_toArray, List.size_toArray, HC.out.1]; rfl) HC.out.2 ?_)
    | (refine wpList_want (by rfl) fun _ hK => wp_load_row 64 (.tmp 6) rfl w4.heap.size rfl 64 C.toArray (0, 0) _ n6 Tryz.underlying64 rfl (by rw [u16_size, List.size_toArray, HC.out.1]) (hK _ _ ?_)))
  generalize (w4.alloc (.cells z16.toArray 64)).setRow w4.heap.size C.toArray = w5 at n6 r6 b6 ⊢
  obtain ⟨g6, hg6⟩ : ∃ g, w4.heap.size = g := ⟨_, rfl⟩
  rw [hg6] at n6 ⊢
  clear N5 hg6
  refine (HT.out _).mono ?_
  rintro x w6 ⟨rfl, hb6⟩
  have n7 := n6.below hb6 n6.lt
  have r7 := r6.below hb6 r6.lt
  have b7 := b6.trans (hb6.mono b6.size)
  clear n6 r6 b6 hb6
  go_wp2_with (refine wpList_store_row rfl 64 (.tmp 2) (.tmp 28) rfl w.heap.size z16.toArray rfl rfl 64 z16.toArray r7 u16_size rfl z16_one ?_)
  have hp := r7.put z16
  have hq := below_setRow (B := w.heap.size) b7 (Nat.le_refl _) z16.toArray
  exact bodyPost_ret (v := .tuple #[.agg z16.toArray, .int .i64 4]) (results_row_tmp rfl _ _ w.heap.size 64 z16.toArray (0, 0) _ rfl hp Tryz.underlying64 rfl u16_size _ rfl) rfl ⟨rfl, hq⟩

/-- The id of its text. -/
theorem Parse_ok (s : ByteArray) (l : List UInt8) (h : IsId s.data.toList l) (hs : s.size ≤ 100000) (w : World) (hM : M w) :
    Calls Tryz.prog 56 #[.string s] w fun e w' => e = .returned (.tuple #[.agg (l.map bv).toArray, .int .i64 0]) ∧ Below w.heap.size w w' := by
  have hst : (⟨(strip s.data.toList).toArray⟩ : ByteArray) = ⟨(hexL l).toArray⟩ := by rw [← h.2, strip_id]
  have hl : (hexL l).length = 32 := by rw [hexL_length, h.1]
  have henc : encS hexS 4 false (decS hexS 4 ⟨(hexL l).toArray⟩) = ⟨(hexL l).toArray⟩ := by rw [dec_hex, encS_hex]
  refine parse_long s ⟨(hexL l).toArray⟩ ⟨l.toArray⟩ 0 hst hs w hM (fun W => ?_) (by show l.toArray.size = 16; rw [List.size_toArray, h.1]) h.2
  have hd := Decode_ok hexS 4 false ⟨(hexL l).toArray⟩ W (.inl rfl) rfl (by show (hexL l).toArray.size ≤ _; rw [List.size_toArray, hl]; omega) henc
  rwa [dec_hex] at hd
/-- A text that is no id's. -/
theorem Parse_bad (s : ByteArray) (h : ∀ l, ¬ IsId s.data.toList l) (hs : s.size ≤ 50000) (w : World) (hM : M w) :
    Calls Tryz.prog 56 #[.string s] w fun e w' => e = .returned (.tuple #[.agg z16.toArray, .int .i64 4]) ∧ Below w.heap.size w w' := by
  obtain ⟨t, ht⟩ : ∃ t : ByteArray, (⟨(strip s.data.toList).toArray⟩ : ByteArray) = t := ⟨_, rfl⟩
  have hts : t.size ≤ 100000 := by
    rw [← ht]
    show (strip s.data.toList).toArray.size ≤ _
    rw [List.size_toArray]
    have h1 : (strip s.data.toList).length ≤ s.data.toList.length := List.length_filter_le _ _
    have h2 : s.data.toList.length = s.size := by simp
    omega
  by_cases he : encS hexS 4 false (decS hexS 4 t) = t
  · by_cases hz : (decS hexS 4 t).size = 16
    · exact parse_other s t (decS hexS 4 t) 0 ht (by omega) w hM (fun W => Decode_ok hexS 4 false t W (.inl rfl) rfl hts he) hz (fun e => h _ ⟨by rw [← hz]; simp, e⟩)
    · exact parse_short s t (decS hexS 4 t) 0 ht (by omega) w hM (fun W => Decode_ok hexS 4 false t W (.inl rfl) rfl hts he) hz
  · exact parse_short s t ⟨#[]⟩ 4 ht (by omega) w hM (fun W => Decode_bad hexS 4 false t W (.inl rfl) rfl hts he) (by decide)
end Go.Proofs.YtheidjnapoipaaaGreatDoor

namespace Go.Proofs.YtheidjnapoipaaaGreatDoor
open Go Go.Shelf Go.RowKit
def Tryz.laysPu14_ren : Go.Shelf.Ren := ⟨fun | 14 => 99 | 16 => 112 | 17 => 113 | 19 => 128 | 20 => 129 | 21 => 130 | 22 => 131 | 23 => 132 | 24 => 133 | 25 => 143 | 27 => 145 | 26 => 144 | 28 => 152 | 29 => 161 | 30 => 115 | 31 => 116 | 32 => 117 | 33 => 118 | 35 => 135 | 34 => 134 | 36 => 136 | 37 => 137 | 38 => 138 | 39 => 146 | 40 => 147 | n => n, fun | 9 => 9 | 3 => 3 | 22 => 103 | 24 => 86 | 25 => 124 | 4 => 4 | 34 => 148 | 5 => 5 | 36 => 80 | 37 => 76 | 0 => 0 | 39 => 150 | 21 => 21 | 44 => 165 | 47 => 96 | 50 => 176 | 48 => 174 | 2 => 2 | 52 => 131 | 55 => 134 | 59 => 154 | 60 => 136 | 20 => 20 | 61 => 155 | 65 => 157 | 66 => 162 | 67 => 89 | n => n, fun | 0 => 4 | 1 => 5 | 2 => 3 | 3 => 7 | 4 => 8 | n => n⟩
theorem Tryz.laysPu14 : Go.Proofs.LaysPu.n14 Tryz.prog Tryz.laysPu14_ren := {
  mixed := by kernel_rfl
  f14 := Tryz.func99.trans (congrArg some (by kernel_rfl))
  f16 := Tryz.func112.trans (congrArg some (by kernel_rfl))
  f17 := Tryz.func113.trans (congrArg some (by kernel_rfl))
  f19 := Tryz.func128.trans (congrArg some (by kernel_rfl))
  f20 := Tryz.func129.trans (congrArg some (by kernel_rfl))
  f21 := Tryz.func130.trans (congrArg some (by kernel_rfl))
  f22 := Tryz.func131.trans (congrArg some (by kernel_rfl))
  f23 := Tryz.func132.trans (congrArg some (by kernel_rfl))
  f24 := Tryz.func133.trans (congrArg some (by kernel_rfl))
  f25 := Tryz.func143.trans (congrArg some (by kernel_rfl))
  f26 := Tryz.func144.trans (congrArg some (by kernel_rfl))
  f27 := Tryz.func145.trans (congrArg some (by kernel_rfl))
  f28 := Tryz.func152.trans (congrArg some (by kernel_rfl))
  f29 := Tryz.func161.trans (congrArg some (by kernel_rfl))
  f30 := Tryz.func115.trans (congrArg some (by kernel_rfl))
  f31 := Tryz.func116.trans (congrArg some (by kernel_rfl))
  f32 := Tryz.func117.trans (congrArg some (by kernel_rfl))
  f33 := Tryz.func118.trans (congrArg some (by kernel_rfl))
  f34 := Tryz.func134.trans (congrArg some (by kernel_rfl))
  f35 := Tryz.func135.trans (congrArg some (by kernel_rfl))
  f36 := Tryz.func136.trans (congrArg some (by kernel_rfl))
  f37 := Tryz.func137.trans (congrArg some (by kernel_rfl))
  f38 := Tryz.func138.trans (congrArg some (by kernel_rfl))
  f39 := Tryz.func146.trans (congrArg some (by kernel_rfl))
  f40 := Tryz.func147.trans (congrArg some (by kernel_rfl))
  t0 := Tryz.underlying0
  a0 := Tryz.isAgg0
  z0 := Tryz.sizeOf0
  v0 := Tryz.zeroValue0
  i0 := by kernel_rfl
  t2 := Tryz.underlying2
  a2 := Tryz.isAgg2
  z2 := Tryz.sizeOf2
  v2 := Tryz.zeroValue2
  i2 := by kernel_rfl
  t3 := Tryz.underlying3
  a3 := Tryz.isAgg3
  z3 := Tryz.sizeOf3
  v3 := Tryz.zeroValue3
  i3 := by kernel_rfl
  t4 := Tryz.underlying4
  a4 := Tryz.isAgg4
  z4 := Tryz.sizeOf4
  v4 := Tryz.zeroValue4
  i4 := by kernel_rfl
  t5 := Tryz.underlying5
  a5 := Tryz.isAgg5
  z5 := Tryz.sizeOf5
  v5 := Tryz.zeroValue5
  i5 := by kernel_rfl
  t9 := Tryz.underlying9
  a9 := Tryz.isAgg9
  z9 := Tryz.sizeOf9
  v9 := Tryz.zeroValue9
  i9 := by kernel_rfl
  t20 := Tryz.underlying20
  a20 := Tryz.isAgg20
  z20 := Tryz.sizeOf20
  v20 := Tryz.zeroValue20
  i20 := by kernel_rfl
  t21 := Tryz.underlying21
  a21 := Tryz.isAgg21
  z21 := Tryz.sizeOf21
  v21 := Tryz.zeroValue21
  i21 := by kernel_rfl
  t22 := Tryz.underlying103
  a22 := Tryz.isAgg103
  z22 := Tryz.sizeOf103
  v22 := Tryz.zeroValue103
  i22 := by kernel_rfl
  t24 := Tryz.underlying86
  a24 := Tryz.isAgg86
  z24 := Tryz.sizeOf86
  v24 := Tryz.zeroValue86
  i24 := by kernel_rfl
  t25 := Tryz.underlying124
  a25 := Tryz.isAgg124
  z25 := Tryz.sizeOf124
  v25 := Tryz.zeroValue124
  i25 := by kernel_rfl
  t34 := Tryz.underlying148
  a34 := Tryz.isAgg148
  z34 := Tryz.sizeOf148
  v34 := Tryz.zeroValue148
  i34 := by kernel_rfl
  c34 := by kernel_rfl
  t36 := Tryz.underlying80
  a36 := Tryz.isAgg80
  z36 := Tryz.sizeOf80
  v36 := Tryz.zeroValue80
  i36 := by kernel_rfl
  t37 := Tryz.underlying76
  a37 := Tryz.isAgg76
  z37 := Tryz.sizeOf76
  v37 := Tryz.zeroValue76
  i37 := by kernel_rfl
  t39 := Tryz.underlying150
  a39 := Tryz.isAgg150
  z39 := Tryz.sizeOf150
  v39 := Tryz.zeroValue150
  i39 := by kernel_rfl
  t44 := Tryz.underlying165
  a44 := Tryz.isAgg165
  z44 := Tryz.sizeOf165
  v44 := Tryz.zeroValue165
  i44 := by kernel_rfl
  t47 := Tryz.underlying96
  a47 := Tryz.isAgg96
  z47 := Tryz.sizeOf96
  v47 := Tryz.zeroValue96
  i47 := by kernel_rfl
  t48 := Tryz.underlying174
  a48 := Tryz.isAgg174
  z48 := Tryz.sizeOf174
  v48 := Tryz.zeroValue174
  i48 := by kernel_rfl
  t50 := Tryz.underlying176
  a50 := Tryz.isAgg176
  z50 := Tryz.sizeOf176
  v50 := Tryz.zeroValue176
  i50 := by kernel_rfl
  t52 := Tryz.underlying131
  a52 := Tryz.isAgg131
  z52 := Tryz.sizeOf131
  v52 := Tryz.zeroValue131
  i52 := by kernel_rfl
  t55 := Tryz.underlying134
  a55 := Tryz.isAgg134
  z55 := Tryz.sizeOf134
  v55 := Tryz.zeroValue134
  i55 := by kernel_rfl
  t59 := Tryz.underlying154
  a59 := Tryz.isAgg154
  z59 := Tryz.sizeOf154
  v59 := Tryz.zeroValue154
  i59 := by kernel_rfl
  t60 := Tryz.underlying136
  a60 := Tryz.isAgg136
  z60 := Tryz.sizeOf136
  v60 := Tryz.zeroValue136
  i60 := by kernel_rfl
  t61 := Tryz.underlying155
  a61 := Tryz.isAgg155
  z61 := Tryz.sizeOf155
  t65 := Tryz.underlying157
  a65 := Tryz.isAgg157
  z65 := Tryz.sizeOf157
  v65 := Tryz.zeroValue157
  i65 := by kernel_rfl
  t66 := Tryz.underlying162
  a66 := Tryz.isAgg162
  z66 := Tryz.sizeOf162
  v66 := Tryz.zeroValue162
  i66 := by kernel_rfl
  t67 := Tryz.underlying89
  a67 := Tryz.isAgg89
  z67 := Tryz.sizeOf89
  v67 := Tryz.zeroValue89
  i67 := by kernel_rfl
  g0 := by kernel_rfl
  m0 := by kernel_rfl
  g1 := by kernel_rfl
  m1 := by kernel_rfl
  g2 := by kernel_rfl
  m2 := by kernel_rfl
  g3 := by kernel_rfl
  m3 := by kernel_rfl
  g4 := by kernel_rfl
  m4 := by kernel_rfl }
open Go.RowKit in
theorem Tryz.strconv_ParseUint_10_at64_ok (s : ByteArray) (hmax : s.size ≤ 9223372036854775806) (u : Nat) (h : Lib.parseUintB 64 s.data.toList = .ok u) (w : World) :
    Calls Tryz.prog 99 #[.string s, .int .i64 10, .int .i64 64] w fun e w' => e = .returned (.tuple #[.int .u64 u, .nilIface]) ∧ (w' = w ∨ w' = Lib.bytesWorld w 5 s) := Any.strconv_ParseUint_10_at64_ok Tryz.laysPu14 s hmax u h w
end Go.Proofs.YtheidjnapoipaaaGreatDoor

namespace Go.Proofs.YtheidjnapoipaaaGreatDoor
open Go.RowKit
set_option linter.unusedVariables false

/-- How many days a month has. -/
def leapB (y : Int) : Bool := decide (y % 4 = 0 ∧ ¬ y % 100 = 0 ∨ y % 400 = 0)
def daysN (y m : Int) : Int :=
  if y < 0 ∨ 9999 < y then 0
  else if m = 1 ∨ m = 3 ∨ m = 5 ∨ m = 7 ∨ m = 8 ∨ m = 10 ∨ m = 12 then 31
  else if m = 4 ∨ m = 6 ∨ m = 9 ∨ m = 11 then 30
  else if m = 2 then (if leapB y then 29 else 28)
  else 0

theorem leap_any (y : Int) (w : World) (h0 : 0 ≤ y) (h1 : y ≤ 9999) : Calls Tryz.prog 87 #[.int .i64 y] w fun e w' => e = .returned (.bool (leapB y)) ∧ w = w' := by
  by_cases h4 : y % 4 = 0
  · by_cases h100 : y % 100 = 0
    · by_cases h400 : y % 400 = 0
      · have hl : leapB y = true := by unfold leapB; simp; omega
        rw [hl]
        go_enter Tryz.func87, Tryz.ntmps87
        go_wp2
        go_ret
        exact ⟨rfl, rfl⟩
      · have hl : leapB y = false := by unfold leapB; simp; omega
        rw [hl]
        have hb : (y % 400 == 0) = false := by simp; omega
        go_enter Tryz.func87, Tryz.ntmps87
        go_wp2
        go_ret
        exact ⟨rfl, rfl⟩
    · have hl : leapB y = true := by unfold leapB; simp; omega
      rw [hl]
      have hb : (y % 100 == 0) = false := by simp; omega
      have hb2 : (y % 100 != 0) = true := by simp; omega
      go_enter Tryz.func87, Tryz.ntmps87
      go_wp2
      go_ret
      exact ⟨rfl, rfl⟩
  · have hl : leapB y = false := by unfold leapB; simp; omega
    rw [hl]
    have hb : (y % 4 == 0) = false := by simp; omega
    have hb2 : (y % 400 == 0) = false := by simp; omega
    go_enter Tryz.func87, Tryz.ntmps87
    go_wp2
    go_ret
    exact ⟨rfl, rfl⟩

theorem dz {y m : Int} (h : y < 0 ∨ 9999 < y) : daysN y m = 0 := by unfold daysN; rw [if_pos h]
theorem dy {y m : Int} (h : ¬ (y < 0 ∨ 9999 < y)) : daysN y m = if m = 1 ∨ m = 3 ∨ m = 5 ∨ m = 7 ∨ m = 8 ∨ m = 10 ∨ m = 12 then 31
  else if m = 4 ∨ m = 6 ∨ m = 9 ∨ m = 11 then 30
  else if m = 2 then (if leapB y then 29 else 28)
  else 0 := by unfold daysN; rw [if_neg h]
/-- A month's days as the document has them: by the list. -/
def monthL : List Int := [31, 28, 31, 30, 31, 30, 31, 31, 30, 31, 30, 31]

theorem m_cases (m : Int) : m = 1 ∨ m = 2 ∨ m = 3 ∨ m = 4 ∨ m = 5 ∨ m = 6 ∨ m = 7 ∨ m = 8 ∨ m = 9 ∨ m = 10 ∨ m = 11 ∨ m = 12 ∨ (m < 1 ∨ 12 < m) := by omega

set_option maxHeartbeats 1000000 in
theorem Days_any (y m : Int) (w : World) : Calls Tryz.prog 74 #[.int .i64 y, .int .i64 m] w fun e w' => e = .returned (.int .i64 (daysN y m)) ∧ w = w' := by
  by_cases h0 : y < 0
  · rw [dz (.inl h0)]
    go_enter Tryz.func74, Tryz.ntmps74
    go_wp2
    go_ret
    exact ⟨rfl, rfl⟩
  · by_cases h1 : 9999 < y
    · rw [dz (.inr h1)]
      go_enter Tryz.func74, Tryz.ntmps74
      go_wp2
      go_ret
      exact ⟨rfl, rfl⟩
    · rw [dy (by omega)]
      have g0 : 0 ≤ y := by omega
      have g1 : y ≤ 9999 := by omega
      rcases m_cases m with rfl | rfl | rfl | rfl | rfl | rfl | rfl | rfl | rfl | rfl | rfl | rfl | hm
      case inr.inl =>
        have e2 : (if (2 : Int) = 1 ∨ (2 : Int) = 3 ∨ (2 : Int) = 5 ∨ (2 : Int) = 7 ∨ (2 : Int) = 8 ∨ (2 : Int) = 10 ∨ (2 : Int) = 12 then (31 : Int)
          else if (2 : Int) = 4 ∨ (2 : Int) = 6 ∨ (2 : Int) = 9 ∨ (2 : Int) = 11 then 30
          else if (2 : Int) = 2 then (if leapB y then 29 else 28)
          else 0) = if leapB y then 29 else 28 := by rw [if_neg (by omega), if_neg (by omega), if_pos rfl]
        rw [e2]
        clear e2
        cases hL : leapB y with
        | true =>
          rw [if_pos rfl]
          go_enter Tryz.func74, Tryz.ntmps74
          go_wp2_with (go_at_call 87; refine (leap_any y _ g0 g1).mono ?_; rintro e w' ⟨rfl, rfl⟩; rw [hL])
          go_ret
          exact ⟨rfl, rfl⟩
        | false =>
          rw [if_neg (by decide)]
          go_enter Tryz.func74, Tryz.ntmps74
          go_wp2_with (go_at_call 87; refine (leap_any y _ g0 g1).mono ?_; rintro e w' ⟨rfl, rfl⟩; rw [hL])
          go_ret
          exact ⟨rfl, rfl⟩
      all_goals
        go_enter Tryz.func74, Tryz.ntmps74
        go_wp2
        go_ret
        exact ⟨rfl, rfl⟩

/-- The number of digits. -/
def valF (a : Nat) (l : List UInt8) : Nat := l.foldl (fun a c => a * 10 + dv c) a
def val (l : List UInt8) : Nat := valF 0 l
theorem valF_cons (a : Nat) (c : UInt8) (l : List UInt8) : valF a (c :: l) = valF (a * 10 + dv c) l := by unfold valF; rw [List.foldl_cons]
theorem valF_snoc (a : Nat) (c : UInt8) (l : List UInt8) : valF a (l ++ [c]) = valF a l * 10 + dv c := by simp [valF, List.foldl_append]
def p10 : Nat → Nat
  | 0 => 1
  | k + 1 => p10 k * 10
theorem p10_le {k : Nat} (h : k ≤ 4) : p10 k ≤ 10000 := by
  rcases (by omega : k = 0 ∨ k = 1 ∨ k = 2 ∨ k = 3 ∨ k = 4) with rfl | rfl | rfl | rfl | rfl <;> decide
theorem parse_ok (M : Nat) (hM : 18446744073709551615 ≤ M) : ∀ (l : List UInt8) (acc k : Nat), (∀ c ∈ l, isDig c = true) → acc < p10 k → k + l.length ≤ 4 → Lib.parseUintM M acc l = .ok (valF acc l) ∧ valF acc l < p10 (k + l.length) := by
  intro l
  induction l with
  | nil => intro acc k _ h _; exact ⟨rfl, h⟩
  | cons c l ih =>
    intro acc k hd ha hk
    rw [List.length_cons] at hk
    have hc := hd c List.mem_cons_self
    have hc2 := (isDig_iff c).1 hc
    have hv := dv_le hc
    have h17 := p10_le (k := k) (by omega)
    have hn : acc * 10 + dv c < p10 (k + 1) := by show acc * 10 + dv c < p10 k * 10; omega
    obtain ⟨h1, h2⟩ := ih (acc * 10 + dv c) (k + 1) (fun d h => hd d (List.mem_cons_of_mem _ h)) hn (by omega)
    have a1 : ¬ 1844674407370955162 ≤ acc := by omega
    have a2 : ¬ M < acc * 10 + (c.toNat - 48) := by
      have hv2 : c.toNat - 48 ≤ 9 := hv
      omega
    refine ⟨?_, ?_⟩
    · rw [valF_cons]
      unfold Lib.parseUintM
      rw [if_pos hc2, if_neg a1, if_neg a2]
      exact h1
    · rw [valF_cons, List.length_cons, show k + (l.length + 1) = k + 1 + l.length by omega]
      exact h2
theorem parseB_ok {s : ByteArray} (hd : isD s = true) (h : s.size ≤ 4) : Lib.parseUintB 64 s.data.toList = .ok (val s.data.toList) ∧ val s.data.toList ≤ 9999 := by
  obtain ⟨h0, hall⟩ := (isD_iff s).1 hd
  have hl : s.data.toList.length = s.size := by simp
  obtain ⟨h1, h2⟩ := parse_ok (2 ^ 64 - 1) (by decide) s.data.toList 0 0 hall (by decide) (by omega)
  refine ⟨?_, ?_⟩
  · unfold Lib.parseUintB
    rw [if_neg (by intro e; rw [e] at hl; simp at hl; omega), h1]
    rfl
  · have h3 := p10_le (k := 0 + s.data.toList.length) (by omega)
    have h5 : val s.data.toList < p10 (0 + s.data.toList.length) := h2
    omega

theorem bytes_below (W : World) (e : TypeId) (s : ByteArray) : Below W.heap.size W (Lib.bytesWorld W e s) :=
  ⟨by simp [Lib.bytesWorld, World.freeze, World.alloc, World.drew, -World.alloc_eq, -World.drew_eq], by simp [Lib.bytesWorld, World.freeze, World.alloc, World.drew, -World.alloc_eq, -World.drew_eq], by simp [Lib.bytesWorld, World.freeze, World.alloc, World.drew, -World.alloc_eq, -World.drew_eq], by rw [Lib.bytesWorld_size]; omega, fun j hj => Lib.bytesWorld_at_old W e s j hj⟩

set_option maxHeartbeats 400000 in
theorem Number_few (s : ByteArray) (w : World) (hd : isD s = true) (hs : s.size ≤ 4) :
    Calls Tryz.prog 86 #[.string s] w fun e w' => e = .returned (.tuple #[.int .u64 (val s.data.toList : Nat), .int .i64 0]) ∧ Below w.heap.size w w' := by
  obtain ⟨hp, hv⟩ := parseB_ok hd hs
  have HP := Lib.hid hp
  clear hp
  go_enter Tryz.func86, Tryz.ntmps86
  go_wp2_with first
    | (go_at_call 67; refine (Is_any _ _ (by omega)).mono ?_; rintro e w' ⟨rfl, rfl⟩; rw [hd])
    | (go_at_call 99; refine (Tryz.strconv_ParseUint_10_at64_ok s (by omega) _ HP.out _).mono ?_; rintro e w' ⟨rfl, hw⟩)
  go_ret2
  refine ⟨rfl, ?_⟩
  rcases hw with rfl | rfl
  · exact Below.refl _ _
  · exact bytes_below _ _ _

set_option maxHeartbeats 400000 in
theorem few_any (s : ByteArray) (w : World) (hd : isD s = true) (hs : s.size ≤ 4) :
    Calls Tryz.prog 73 #[.string s] w fun e w' => e = .returned (.int .i64 (val s.data.toList : Nat)) ∧ Below w.heap.size w w' := by
  have hv := (parseB_ok hd hs).2
  go_enter Tryz.func73, Tryz.ntmps73
  go_wp2_with (go_at_call 86; refine (Number_few s _ hd hs).mono ?_; rintro e w' ⟨rfl, hB⟩)
  go_ret
  exact ⟨rfl, hB⟩
end Go.Proofs.YtheidjnapoipaaaGreatDoor

namespace Go.Proofs.YtheidjnapoipaaaGreatDoor
open Go.RowKit
set_option linter.unusedVariables false

/-- The number that a piece of the text spells. -/
def fl (s : ByteArray) (a b : Nat) : Nat := val (s.extract a b).data.toList
def dateBad (y m d h mi se : Nat) : Prop := d < 1 ∨ daysN y m < (d : Int) ∨ 23 < h ∨ 59 < mi ∨ 59 < se
instance (y m d h mi se : Nat) : Decidable (dateBad y m d h mi se) := by unfold dateBad; exact inferInstance
def dateN (s : ByteArray) : Int :=
  if s.size = 14 ∧ isD s = true then (if dateBad (fl s 0 4) (fl s 4 6) (fl s 6 8) (fl s 8 10) (fl s 10 12) (fl s 12 14) then 7 else 0) else 4

theorem isD_part {s : ByteArray} (hd : isD s = true) {a b : Nat} (h1 : a < b) (h2 : b ≤ s.size) : isD (s.extract a b) = true := by
  refine (isD_iff _).2 ⟨by rw [ByteArray.size_extract]; omega, fun c hc => ((isD_iff s).1 hd).2 c ?_⟩
  rw [ByteArray.data_extract, Array.toList_extract, List.extract_eq_take_drop] at hc
  exact List.mem_of_mem_drop (List.mem_of_mem_take hc)
theorem fl_le {s : ByteArray} (hd : isD s = true) {a b : Nat} (h1 : a < b) (h2 : b ≤ s.size) (h4 : b - a ≤ 4) : fl s a b ≤ 9999 :=
  (parseB_ok (isD_part hd h1 h2) (by rw [ByteArray.size_extract]; omega)).2
theorem few_part {s : ByteArray} (hd : isD s = true) {a b : Nat} (h1 : a < b) (h2 : b ≤ s.size) (h4 : b - a ≤ 4) (w : World) :
    Calls Tryz.prog 73 #[.string (s.extract a b)] w fun e w' => e = .returned (.int .i64 (fl s a b : Nat)) ∧ Below w.heap.size w w' :=
  few_any (s.extract a b) w (isD_part hd h1 h2) (by rw [ByteArray.size_extract]; omega)

theorem below_drewN_d {B : Nat} {a w : World} (h : Below B a w) (n : Nat) : Below B a (w.drewN n) := ⟨h.os, h.tape, h.output, h.size, h.block⟩

theorem below6 {A B C D E F G : World} (h1 : Below A.heap.size A B) (h2 : Below B.heap.size B C) (h3 : Below C.heap.size C D) (h4 : Below D.heap.size D E) (h5 : Below E.heap.size E F) (h6 : Below F.heap.size F G) : Below A.heap.size A G := by
  have e1 := h1.size
  have e2 := h2.size
  have e3 := h3.size
  have e4 := h4.size
  have e5 := h5.size
  exact h1.trans ((h2.mono e1).trans ((h3.mono (by omega)).trans ((h4.mono (by omega)).trans ((h5.mono (by omega)).trans (h6.mono (by omega))))))

theorem dateN_not {s : ByteArray} (h : ¬ (s.size = 14 ∧ isD s = true)) : dateN s = 4 := by unfold dateN; rw [if_neg h]

set_option maxRecDepth 100000 in
set_option maxHeartbeats 2000000 in
theorem Date_is (s : ByteArray) (w : World) (h14 : s.size = 14) (hd : isD s = true) :
    Calls Tryz.prog 59 #[.string s] w fun e w' => e = .returned (.int .i64 (dateN s)) ∧ Below w.heap.size w w' := by
  have e : dateN s = if dateBad (fl s 0 4) (fl s 4 6) (fl s 6 8) (fl s 8 10) (fl s 10 12) (fl s 12 14) then 7 else 0 := by unfold dateN; rw [if_pos ⟨h14, hd⟩]
  have k1 := fl_le hd (a := 0) (b := 4) (by omega) (by omega) (by omega)
  have k2 := fl_le hd (a := 4) (b := 6) (by omega) (by omega) (by omega)
  have k3 := fl_le hd (a := 6) (b := 8) (by omega) (by omega) (by omega)
  have k4 := fl_le hd (a := 8) (b := 10) (by omega) (by omega) (by omega)
  have k5 := fl_le hd (a := 10) (b := 12) (by omega) (by omega) (by omega)
  have k6 := fl_le hd (a := 12) (b := 14) (by omega) (by omega) (by omega)
  have C1 := Lib.hid (fun W => few_part hd (a := 0) (b := 4) (by omega) (by omega) (by omega) W)
  have C2 := Lib.hid (fun W => few_part hd (a := 4) (b := 6) (by omega) (by omega) (by omega) W)
  have C3 := Lib.hid (fun W => few_part hd (a := 6) (b := 8) (by omega) (by omega) (by omega) W)
  have C4 := Lib.hid (fun W => few_part hd (a := 8) (b := 10) (by omega) (by omega) (by omega) W)
  have C5 := Lib.hid (fun W => few_part hd (a := 10) (b := 12) (by omega) (by omega) (by omega) W)
  have C6 := Lib.hid (fun W => few_part hd (a := 12) (b := 14) (by omega) (by omega) (by omega) W)
  rw [e]
  clear e
  generalize fl s 0 4 = y at *
  generalize fl s 4 6 = m at *
  generalize fl s 6 8 = d at *
  generalize fl s 8 10 = h at *
  generalize fl s 10 12 = mi at *
  generalize fl s 12 14 = se at *
  obtain ⟨D, hD⟩ : ∃ D, daysN y m = D := ⟨_, rfl⟩
  have HD := Lib.hid hD
  have HI := Lib.hid hd
  have h14i : (s.size : Int) = 14 := by omega
  have hres : (if dateBad y m d h mi se then (7 : Int) else 0) = if d < 1 then 7 else if D < d then 7 else if 23 < h then 7 else if 59 < mi then 7 else if 59 < se then 7 else 0 := by
    by_cases hb : dateBad y m d h mi se
    · rw [if_pos hb]
      unfold dateBad at hb
      rw [hD] at hb
      repeat' split
      all_goals omega
    · rw [if_neg hb]
      unfold dateBad at hb
      rw [hD] at hb
      repeat' split
      all_goals omega
  rw [hres]
  clear hres hD hd
  obtain ⟨R, hR⟩ : ∃ R : Int, (if d < 1 then 7 else if D < d then 7 else if 23 < h then 7 else if 59 < mi then 7 else if 59 < se then 7 else 0) = R := ⟨_, rfl⟩
  rw [hR]
  have HR := Lib.hid hR
  clear hR
  go_enter Tryz.func59, Tryz.ntmps59
  go_wp2_with (go_at_call 67; refine (Is_any _ _ (by omega)).mono ?_; rintro e w' ⟨rfl, rfl⟩; rw [HI.out])
  refine region_quiet_lit (Below w.heap.size w) (by kernel_rfl) (by kernel_rfl) (below_drewN_d (Below.refl _ _) 1) ?_
  repeat (go_big_quiet_step ((first
        | (intro hC; with_reducible rfl)
        | (intro hC; go_at_call_of 73 (Value.string (s.extract 0 4)); refine (C1.out _).mono ?_; rintro e w'' ⟨rfl, hb⟩; exact ⟨rfl, hC.trans (hb.mono hC.size)⟩)
        | (intro hC; go_at_call_of 73 (Value.string (s.extract 4 6)); refine (C2.out _).mono ?_; rintro e w'' ⟨rfl, hb⟩; exact ⟨rfl, hC.trans (hb.mono hC.size)⟩)
        | (intro hC; go_at_call_of 73 (Value.string (s.extract 6 8)); refine (C3.out _).mono ?_; rintro e w'' ⟨rfl, hb⟩; exact ⟨rfl, hC.trans (hb.mono hC.size)⟩))))
  refine wpQuiet_nil ?_
  intro wd hwd
  go_wp2_with fail
  refine region_quiet_lit (Below w.heap.size w) (by kernel_rfl) (by kernel_rfl) (below_drewN_d hwd 1) ?_
  repeat (go_big_quiet_step ((first
        | (intro hC; with_reducible rfl)
        | (intro hC; go_at_call_of 73 (Value.string (s.extract 8 10)); refine (C4.out _).mono ?_; rintro e w'' ⟨rfl, hb⟩; exact ⟨rfl, hC.trans (hb.mono hC.size)⟩)
        | (intro hC; go_at_call_of 73 (Value.string (s.extract 10 12)); refine (C5.out _).mono ?_; rintro e w'' ⟨rfl, hb⟩; exact ⟨rfl, hC.trans (hb.mono hC.size)⟩)
        | (intro hC; go_at_call_of 73 (Value.string (s.extract 12 14)); refine (C6.out _).mono ?_; rintro e w'' ⟨rfl, hb⟩; exact ⟨rfl, hC.trans (hb.mono hC.size)⟩))))
  refine wpQuiet_nil ?_
  intro we hwe
  go_wp2_with (go_at_call 74; refine (Days_any _ _ _).mono ?_; rintro e w' ⟨rfl, rfl⟩; rw [HD.out])
  all_goals go_ret
  all_goals have hh := HR.out
  all_goals refine ⟨ret_int_d ?_, hwe⟩
  all_goals rw [← hh]
  all_goals clear C1 C2 C3 C4 C5 C6 HD HI HR hh
  all_goals (repeat' split)
  all_goals omega

set_option maxHeartbeats 400000 in
theorem Date_not (s : ByteArray) (w : World) (hs : s.size ≤ 1000) (h : ¬ (s.size = 14 ∧ isD s = true)) :
    Calls Tryz.prog 59 #[.string s] w fun e w' => e = .returned (.int .i64 (dateN s)) ∧ w = w' := by
  rw [dateN_not h]
  by_cases h14 : s.size = 14
  · have hd : isD s = false := by cases hb : isD s with
      | false => rfl
      | true => exact absurd ⟨h14, hb⟩ h
    have h14i : (s.size : Int) = 14 := by omega
    clear h
    go_enter Tryz.func59, Tryz.ntmps59
    go_wp2_with (go_at_call 67; refine (Is_any _ _ (by omega)).mono ?_; rintro e w' ⟨rfl, rfl⟩; rw [hd])
    go_ret
    exact ⟨rfl, rfl⟩
  · have hb : ((s.size : Int) == 14) = false := by simp; omega
    have hb2 : ((s.size : Int) != 14) = true := by simp; omega
    clear h h14
    go_enter Tryz.func59, Tryz.ntmps59
    go_wp2
    go_ret
    exact ⟨rfl, rfl⟩

theorem Date_any (s : ByteArray) (w : World) (hs : s.size ≤ 1000) :
    Calls Tryz.prog 59 #[.string s] w fun e w' => e = .returned (.int .i64 (dateN s)) ∧ Below w.heap.size w w' := by
  by_cases h : s.size = 14 ∧ isD s = true
  · exact Date_is s w h.1 h.2
  · exact (Date_not s w hs h).mono fun e w' hh => ⟨hh.1, hh.2 ▸ Below.refl _ _⟩

/-- The document's list of the months' days. -/
def monL : List Int := [31, 28, 31, 30, 31, 30, 31, 31, 30, 31, 30, 31]
end Go.Proofs.YtheidjnapoipaaaGreatDoor

namespace Go.Proofs.YtheidjnapoipaaaGreatDoor
open Go.RowKit
set_option linter.unusedVariables false

def winB (a b : Int) (n : Nat) : Bool := decide (a ≤ n) && decide ((n : Int) ≤ b)
/-- It is an id's text, and that id isn't zero. -/
noncomputable def idB (s : ByteArray) : Bool := @decide (∃ l, IsId s.data.toList l ∧ l ≠ List.replicate 16 0) (Classical.propDecidable _)
/-- It is the writing of just so many bytes. -/
def proofB (a : Int) (s : ByteArray) : Bool := decide (encS stdS 6 true (decS stdS 6 s) = s) && decide (((decS stdS 6 s).size : Int) = a)
noncomputable def fitK (k a b : Int) (l : List ByteArray) (s : ByteArray) : Bool :=
  if k = 1 then winB a b s.size && figB s
  else if k = 2 then winB a b (runesB s).length && plainB s
  else if k = 3 then idB s
  else if k = 4 then Lib.containsS l s
  else if k = 5 then decide (cardN s = 0)
  else if k = 6 then decide (dateN s = 0)
  else if k = 7 then proofB a s
  else winB a b s.size && figB s && leadB s
noncomputable def FR.fits (r : FR) (s : ByteArray) : Bool := if r.check = 0 then fitK r.kind r.least r.most r.texts s else false

theorem idB_yes {s : ByteArray} {l : List UInt8} (h : IsId s.data.toList l) : idB s = !decide (l = List.replicate 16 0) := by
  unfold idB
  by_cases hz : l = List.replicate 16 0
  · rw [decide_eq_true hz]
    refine @decide_eq_false _ (_) ?_
    rintro ⟨m, hm, hne⟩
    exact hne ((hm.uniq h).trans hz)
  · rw [decide_eq_false hz]
    exact @decide_eq_true _ (_) ⟨l, h, hz⟩
theorem idB_no {s : ByteArray} (h : ∀ l, ¬ IsId s.data.toList l) : idB s = false := by
  unfold idB
  exact @decide_eq_false _ (_) (fun ⟨l, hl, _⟩ => h l hl)

set_option maxRecDepth 20000 in
set_option maxHeartbeats 1000000 in
theorem Fits_not (r : FR) (hc : r.check ≠ 0) (a0 : Option Addr) (n cap : Nat) (hn : r.texts.length = n) (s : ByteArray) (w : World) :
    Calls Tryz.prog 43 #[.agg #[.int .i64 r.kind, .int .i64 r.least, .int .i64 r.most, .slice a0 n cap], .string s] w fun e w' => e = .returned (.bool false) ∧ Below w.heap.size w w' := by
  have HC : Hid (∀ W : World, Calls Tryz.prog 10 #[.agg #[.int .i64 r.kind, .int .i64 r.least, .int .i64 r.most, .slice a0 n cap]] W fun e w' => e = .returned (.int .i64 r.check) ∧ Below W.heap.size W w') := Lib.hid fun W => Check_any r a0 n cap hn W
  obtain ⟨C, hC⟩ : ∃ C, r.check = C := ⟨_, rfl⟩
  rw [hC] at HC hc
  have hC0 : (C != 0) = true := by rw [bne_iff_ne]; exact hc
  obtain ⟨k, a, b, l⟩ := r
  dsimp only at HC ⊢
  clear hC hn hc
  go_enter Tryz.func43, Tryz.ntmps43
  go_wp2_with fail
  refine (HC.out _).mono ?_
  rintro e w1 ⟨rfl, hb1⟩
  obtain ⟨hr1, hB1⟩ := rule_after hb1
  have HB := Lib.hid hB1
  clear hb1 hr1 hB1
  go_wp2_with fail
  go_ret
  exact ⟨rfl, HB.out⟩

set_option maxRecDepth 20000 in
set_option maxHeartbeats 2000000 in
theorem Fits_1 (a b : Int) (l : List ByteArray) (hc : FR.check ⟨1, a, b, l⟩ = 0) (a0 : Option Addr) (n cap : Nat) (hn : l.length = n) (s : ByteArray) (hs : s.size ≤ 1000) (w : World) :
    Calls Tryz.prog 43 #[.agg #[.int .i64 1, .int .i64 a, .int .i64 b, .slice a0 n cap], .string s] w fun e w' => e = .returned (.bool (winB a b s.size && figB s)) ∧ Below w.heap.size w w' := by
  have HC : Hid (∀ W : World, Calls Tryz.prog 10 #[.agg #[.int .i64 1, .int .i64 a, .int .i64 b, .slice a0 n cap]] W fun e w' => e = .returned (.int .i64 0) ∧ Below W.heap.size W w') := Lib.hid fun W => by
    have h := Check_any ⟨1, a, b, l⟩ a0 n cap hn W
    rw [hc] at h
    exact h
  clear hc
  obtain ⟨B, HBw⟩ : ∃ B, Hid (winB a b s.size = B) := ⟨_, Lib.hid rfl⟩
  have HW : Hid (∀ (v : Value) (W : World), Calls Tryz.prog 52 #[.agg #[.int .i64 1, .int .i64 a, .int .i64 b, v], .int .i64 (s.size : Nat)] W fun e w' => e = .returned (.bool B) ∧ Below W.heap.size W w') := Lib.hid fun v W => by rw [← HBw.out]; exact within_any 1 a b v s.size W
  rw [HBw.out]
  clear hn
  cases B with
  | false =>
    go_enter Tryz.func43, Tryz.ntmps43
    go_wp2_with fail
    refine (HC.out _).mono ?_
    rintro e w1 ⟨rfl, hb1⟩
    obtain ⟨hr1, hB1⟩ := rule_after hb1
    obtain ⟨c0, c1, c2, c3⟩ := rule_cells hr1
    have HR := Lib.hid hr1
    have HB := Lib.hid hB1
    have HB0 := Lib.hid hb1
    clear hb1 hr1 hB1
    go_wp2_with fail
    refine (HW.out _ _).mono ?_
    rintro e w2 ⟨rfl, hb2⟩
    go_wp2_with fail
    go_ret
    exact ⟨rfl, HB.out.trans (hb2.mono HB.out.size)⟩
  | true =>
    go_enter Tryz.func43, Tryz.ntmps43
    go_wp2_with fail
    refine (HC.out _).mono ?_
    rintro e w1 ⟨rfl, hb1⟩
    obtain ⟨hr1, hB1⟩ := rule_after hb1
    obtain ⟨c0, c1, c2, c3⟩ := rule_cells hr1
    have HR := Lib.hid hr1
    have HB := Lib.hid hB1
    have HB0 := Lib.hid hb1
    clear hb1 hr1 hB1
    go_wp2_with fail
    refine (HW.out _ _).mono ?_
    rintro e w2 ⟨rfl, hb2⟩
    go_wp2_with fail
    refine (figures_any s _ (by omega)).mono ?_
    rintro e w3 ⟨rfl, rfl⟩
    go_wp2_with fail
    go_ret
    exact ⟨ret_boolE (by rw [Bool.true_and]), HB.out.trans (hb2.mono HB.out.size)⟩

set_option maxRecDepth 20000 in
set_option maxHeartbeats 2000000 in
theorem Fits_5 (a b : Int) (l : List ByteArray) (hc : FR.check ⟨5, a, b, l⟩ = 0) (a0 : Option Addr) (n cap : Nat) (hn : l.length = n) (s : ByteArray) (hs : s.size ≤ 1000) (w : World) :
    Calls Tryz.prog 43 #[.agg #[.int .i64 5, .int .i64 a, .int .i64 b, .slice a0 n cap], .string s] w fun e w' => e = .returned (.bool (decide (cardN s = 0))) ∧ Below w.heap.size w w' := by
  have HC : Hid (∀ W : World, Calls Tryz.prog 10 #[.agg #[.int .i64 5, .int .i64 a, .int .i64 b, .slice a0 n cap]] W fun e w' => e = .returned (.int .i64 0) ∧ Below W.heap.size W w') := Lib.hid fun W => by
    have h := Check_any ⟨5, a, b, l⟩ a0 n cap hn W
    rw [hc] at h
    exact h
  clear hc
  obtain ⟨C, HCd⟩ : ∃ C, Hid (cardN s = C) := ⟨_, Lib.hid rfl⟩
  have HX : Hid (∀ W : World, Calls Tryz.prog 58 #[.string s] W fun e w' => e = .returned (.int .i64 C) ∧ Below W.heap.size W w') := Lib.hid fun W => by rw [← HCd.out]; exact Card_any s W hs
  rw [HCd.out]
  clear hn
  go_enter Tryz.func43, Tryz.ntmps43
  go_wp2_with fail
  refine (HC.out _).mono ?_
  rintro e w1 ⟨rfl, hb1⟩
  obtain ⟨hr1, hB1⟩ := rule_after hb1
  obtain ⟨c0, c1, c2, c3⟩ := rule_cells hr1
  have HR := Lib.hid hr1
  have HB := Lib.hid hB1
  have HB0 := Lib.hid hb1
  clear hb1 hr1 hB1
  go_wp2_with fail
  refine (HX.out _).mono ?_
  rintro e w2 ⟨rfl, hb2⟩
  go_wp2_with fail
  go_ret
  exact ⟨ret_boolE (by rw [Bool.eq_iff_iff]; simp), HB.out.trans (hb2.mono HB.out.size)⟩

set_option maxRecDepth 20000 in
set_option maxHeartbeats 2000000 in
theorem Fits_6 (a b : Int) (l : List ByteArray) (hc : FR.check ⟨6, a, b, l⟩ = 0) (a0 : Option Addr) (n cap : Nat) (hn : l.length = n) (s : ByteArray) (hs : s.size ≤ 1000) (w : World) :
    Calls Tryz.prog 43 #[.agg #[.int .i64 6, .int .i64 a, .int .i64 b, .slice a0 n cap], .string s] w fun e w' => e = .returned (.bool (decide (dateN s = 0))) ∧ Below w.heap.size w w' := by
  have HC : Hid (∀ W : World, Calls Tryz.prog 10 #[.agg #[.int .i64 6, .int .i64 a, .int .i64 b, .slice a0 n cap]] W fun e w' => e = .returned (.int .i64 0) ∧ Below W.heap.size W w') := Lib.hid fun W => by
    have h := Check_any ⟨6, a, b, l⟩ a0 n cap hn W
    rw [hc] at h
    exact h
  clear hc
  obtain ⟨C, HCd⟩ : ∃ C, Hid (dateN s = C) := ⟨_, Lib.hid rfl⟩
  have HX : Hid (∀ W : World, Calls Tryz.prog 59 #[.string s] W fun e w' => e = .returned (.int .i64 C) ∧ Below W.heap.size W w') := Lib.hid fun W => by rw [← HCd.out]; exact Date_any s W hs
  rw [HCd.out]
  clear hn
  go_enter Tryz.func43, Tryz.ntmps43
  go_wp2_with fail
  refine (HC.out _).mono ?_
  rintro e w1 ⟨rfl, hb1⟩
  obtain ⟨hr1, hB1⟩ := rule_after hb1
  obtain ⟨c0, c1, c2, c3⟩ := rule_cells hr1
  have HR := Lib.hid hr1
  have HB := Lib.hid hB1
  have HB0 := Lib.hid hb1
  clear hb1 hr1 hB1
  go_wp2_with fail
  refine (HX.out _).mono ?_
  rintro e w2 ⟨rfl, hb2⟩
  go_wp2_with fail
  go_ret
  exact ⟨ret_boolE (by rw [Bool.eq_iff_iff]; simp), HB.out.trans (hb2.mono HB.out.size)⟩

set_option maxRecDepth 20000 in
set_option maxHeartbeats 2000000 in
theorem Fits_8 (a b : Int) (l : List ByteArray) (hc : FR.check ⟨8, a, b, l⟩ = 0) (a0 : Option Addr) (n cap : Nat) (hn : l.length = n) (s : ByteArray) (hs : s.size ≤ 1000) (w : World) :
    Calls Tryz.prog 43 #[.agg #[.int .i64 8, .int .i64 a, .int .i64 b, .slice a0 n cap], .string s] w fun e w' => e = .returned (.bool (winB a b s.size && figB s && leadB s)) ∧ Below w.heap.size w w' := by
  have HC : Hid (∀ W : World, Calls Tryz.prog 10 #[.agg #[.int .i64 8, .int .i64 a, .int .i64 b, .slice a0 n cap]] W fun e w' => e = .returned (.int .i64 0) ∧ Below W.heap.size W w') := Lib.hid fun W => by
    have h := Check_any ⟨8, a, b, l⟩ a0 n cap hn W
    rw [hc] at h
    exact h
  clear hc
  obtain ⟨B, HBw⟩ : ∃ B, Hid (winB a b s.size = B) := ⟨_, Lib.hid rfl⟩
  obtain ⟨D, HD⟩ : ∃ D, Hid (figB s = D) := ⟨_, Lib.hid rfl⟩
  have HW : Hid (∀ (v : Value) (W : World), Calls Tryz.prog 52 #[.agg #[.int .i64 8, .int .i64 a, .int .i64 b, v], .int .i64 (s.size : Nat)] W fun e w' => e = .returned (.bool B) ∧ Below W.heap.size W w') := Lib.hid fun v W => by rw [← HBw.out]; exact within_any 8 a b v s.size W
  have HF : Hid (∀ (W : World), Calls Tryz.prog 53 #[.string s] W fun e w' => e = .returned (.bool D) ∧ W = w') := Lib.hid fun W => by rw [← HD.out]; exact figures_any s W (by omega)
  rw [HBw.out, HD.out]
  clear hn
  cases B with
  | false =>
    go_enter Tryz.func43, Tryz.ntmps43
    go_wp2_with fail
    refine (HC.out _).mono ?_
    rintro e w1 ⟨rfl, hb1⟩
    obtain ⟨hr1, hB1⟩ := rule_after hb1
    obtain ⟨c0, c1, c2, c3⟩ := rule_cells hr1
    have HR := Lib.hid hr1
    have HB := Lib.hid hB1
    have HB0 := Lib.hid hb1
    clear hb1 hr1 hB1
    go_wp2_with fail
    refine (HW.out _ _).mono ?_
    rintro e w2 ⟨rfl, hb2⟩
    go_wp2_with fail
    go_ret
    exact ⟨rfl, HB.out.trans (hb2.mono HB.out.size)⟩
  | true =>
    cases D with
    | false =>
      go_enter Tryz.func43, Tryz.ntmps43
      go_wp2_with fail
      refine (HC.out _).mono ?_
      rintro e w1 ⟨rfl, hb1⟩
      obtain ⟨hr1, hB1⟩ := rule_after hb1
      obtain ⟨c0, c1, c2, c3⟩ := rule_cells hr1
      have HR := Lib.hid hr1
      have HB := Lib.hid hB1
      have HB0 := Lib.hid hb1
      clear hb1 hr1 hB1
      go_wp2_with fail
      refine (HW.out _ _).mono ?_
      rintro e w2 ⟨rfl, hb2⟩
      go_wp2_with fail
      refine (HF.out _).mono ?_
      rintro e w3 ⟨rfl, rfl⟩
      go_wp2_with fail
      go_ret
      exact ⟨rfl, HB.out.trans (hb2.mono HB.out.size)⟩
    | true =>
      by_cases h2 : s.size < 2
      · have HL : Hid (leadB s = true) := Lib.hid (by unfold leadB; rw [decide_eq_true h2]; rfl)
        rw [HL.out]
        go_enter Tryz.func43, Tryz.ntmps43
        go_wp2_with fail
        refine (HC.out _).mono ?_
        rintro e w1 ⟨rfl, hb1⟩
        obtain ⟨hr1, hB1⟩ := rule_after hb1
        obtain ⟨c0, c1, c2, c3⟩ := rule_cells hr1
        have HR := Lib.hid hr1
        have HB := Lib.hid hB1
        have HB0 := Lib.hid hb1
        clear hb1 hr1 hB1
        go_wp2_with fail
        refine (HW.out _ _).mono ?_
        rintro e w2 ⟨rfl, hb2⟩
        go_wp2_with fail
        refine (HF.out _).mono ?_
        rintro e w3 ⟨rfl, rfl⟩
        go_wp2_with fail
        go_ret
        exact ⟨rfl, HB.out.trans (hb2.mono HB.out.size)⟩
      · have h2' : (2 : Int) ≤ (s.size : Int) := by omega
        have h0 : 0 < s.size := by omega
        have HL : Hid (leadB s = decide (s[0] ≠ 48)) := Lib.hid (by unfold leadB; rw [decide_eq_false h2, get_d h0]; rfl)
        rw [HL.out]
        go_enter Tryz.func43, Tryz.ntmps43
        go_wp2_with fail
        refine (HC.out _).mono ?_
        rintro e w1 ⟨rfl, hb1⟩
        obtain ⟨hr1, hB1⟩ := rule_after hb1
        obtain ⟨c0, c1, c2, c3⟩ := rule_cells hr1
        have HR := Lib.hid hr1
        have HB := Lib.hid hB1
        have HB0 := Lib.hid hb1
        clear hb1 hr1 hB1
        go_wp2_with fail
        refine (HW.out _ _).mono ?_
        rintro e w2 ⟨rfl, hb2⟩
        go_wp2_with fail
        refine (HF.out _).mono ?_
        rintro e w3 ⟨rfl, rfl⟩
        go_wp2_with fail
        go_ret
        exact ⟨ret_boolE (by rw [Bool.eq_iff_iff]; simp [← UInt8.toNat_inj]; omega), HB.out.trans (hb2.mono HB.out.size)⟩

set_option maxRecDepth 20000 in
set_option maxHeartbeats 2000000 in
theorem Fits_7 (a b : Int) (l : List ByteArray) (hc : FR.check ⟨7, a, b, l⟩ = 0) (a0 : Option Addr) (n cap : Nat) (hn : l.length = n) (s : ByteArray) (hs : s.size ≤ 1000) (w : World) :
    Calls Tryz.prog 43 #[.agg #[.int .i64 7, .int .i64 a, .int .i64 b, .slice a0 n cap], .string s] w fun e w' => e = .returned (.bool (proofB a s)) ∧ Below w.heap.size w w' := by
  have HC : Hid (∀ W : World, Calls Tryz.prog 10 #[.agg #[.int .i64 7, .int .i64 a, .int .i64 b, .slice a0 n cap]] W fun e w' => e = .returned (.int .i64 0) ∧ Below W.heap.size W w') := Lib.hid fun W => by
    have h := Check_any ⟨7, a, b, l⟩ a0 n cap hn W
    rw [hc] at h
    exact h
  clear hc
  obtain ⟨raw, er, hD, HP⟩ : ∃ (raw : ByteArray) (er : Int), (∀ W : World, Calls Tryz.prog 60 #[alph stdS 6 true, .string s] W fun e w' => e = .returned (.tuple #[.string raw, .int .i64 er]) ∧ Below W.heap.size W w') ∧ Hid ((er = 0 ∧ proofB a s = decide ((raw.size : Int) = a)) ∨ (er = 4 ∧ proofB a s = false)) := by
    by_cases h : encS stdS 6 true (decS stdS 6 s) = s
    · exact ⟨_, _, fun W => Decode_ok stdS 6 true s W (.inr rfl) rfl (by omega) h, Lib.hid (.inl ⟨rfl, by unfold proofB; rw [decide_eq_true h, Bool.true_and]⟩)⟩
    · exact ⟨_, _, fun W => Decode_bad stdS 6 true s W (.inr rfl) rfl (by omega) h, Lib.hid (.inr ⟨rfl, by unfold proofB; rw [decide_eq_false h, Bool.false_and]⟩)⟩
  have HX := Lib.hid hD
  obtain ⟨R, HRp⟩ : ∃ R, Hid (proofB a s = R) := ⟨_, Lib.hid rfl⟩
  rw [HRp.out] at HP ⊢
  clear hn hD
  rcases HP.out with ⟨rfl, hP⟩ | ⟨rfl, hP⟩
  · have HQ := Lib.hid hP
    clear HP hP
    go_enter Tryz.func43, Tryz.ntmps43
    go_wp2_with fail
    refine (HC.out _).mono ?_
    rintro e w1 ⟨rfl, hb1⟩
    obtain ⟨hr1, hB1⟩ := rule_after hb1
    obtain ⟨c0, c1, c2, c3⟩ := rule_cells hr1
    have HR := Lib.hid hr1
    have HB := Lib.hid hB1
    have HB0 := Lib.hid hb1
    clear hb1 hr1 hB1
    go_wp2_with fail
    refine (Std_any _).mono ?_
    rintro e w2 ⟨rfl, hb2⟩
    have r2 := HR.out.below hb2 HR.out.lt
    have B2 := HB.out.trans (hb2.mono HB.out.size)
    go_wp2_with fail
    refine (HX.out _).mono ?_
    rintro e w3 ⟨rfl, hb3⟩
    have r3 := r2.below hb3 r2.lt
    have B3 := Lib.hid (B2.trans (hb3.mono B2.size))
    obtain ⟨c0, c1, c2, c3⟩ := rule_cells r3
    clear r2 r3 B2 hb2 hb3
    go_wp2_with fail
    go_ret
    exact ⟨ret_boolE (by rw [HQ.out, Bool.eq_iff_iff]; simp), B3.out⟩
  · have HQ := Lib.hid hP
    clear HP hP
    rw [HQ.out]
    go_enter Tryz.func43, Tryz.ntmps43
    go_wp2_with fail
    refine (HC.out _).mono ?_
    rintro e w1 ⟨rfl, hb1⟩
    obtain ⟨hr1, hB1⟩ := rule_after hb1
    obtain ⟨c0, c1, c2, c3⟩ := rule_cells hr1
    have HR := Lib.hid hr1
    have HB := Lib.hid hB1
    have HB0 := Lib.hid hb1
    clear hb1 hr1 hB1
    go_wp2_with fail
    refine (Std_any _).mono ?_
    rintro e w2 ⟨rfl, hb2⟩
    have B2 := HB.out.trans (hb2.mono HB.out.size)
    go_wp2_with fail
    refine (HX.out _).mono ?_
    rintro e w3 ⟨rfl, hb3⟩
    have B3 := Lib.hid (B2.trans (hb3.mono B2.size))
    clear B2 hb2 hb3
    go_wp2_with fail
    go_ret
    exact ⟨rfl, B3.out⟩

set_option maxRecDepth 20000 in
set_option maxHeartbeats 2000000 in
theorem Fits_4 (a b : Int) (l : List ByteArray) (hc : FR.check ⟨4, a, b, l⟩ = 0) (a0 : Option Addr) (n cap : Nat) (hn : l.length = n) (s : ByteArray) (hs : s.size ≤ 1000) (w : World) (hv : Strs w (.slice a0 n cap) l) (hl : l.length ≤ 9223372036854775807) :
    Calls Tryz.prog 43 #[.agg #[.int .i64 4, .int .i64 a, .int .i64 b, .slice a0 n cap], .string s] w fun e w' => e = .returned (.bool (Lib.containsS l s)) ∧ Below w.heap.size w w' := by
  have HC : Hid (∀ W : World, Calls Tryz.prog 10 #[.agg #[.int .i64 4, .int .i64 a, .int .i64 b, .slice a0 n cap]] W fun e w' => e = .returned (.int .i64 0) ∧ Below W.heap.size W w') := Lib.hid fun W => by
    have h := Check_any ⟨4, a, b, l⟩ a0 n cap hn W
    rw [hc] at h
    exact h
  have hc4 := hc
  clear hc
  have hn0 : 0 < n := Classical.byContradiction fun h0 => FR.check_texts hc4 rfl (List.eq_nil_of_length_eq_zero (by rw [hn]; omega))
  clear hc4
  have HV := Lib.hid hv
  obtain ⟨a1, cp, g, off, he, hp, hcl⟩ := hv
  obtain ⟨rfl, hg⟩ := hp (by omega)
  rw [hn] at he
  injection he with he1 he2 he3
  subst he1
  subst he3
  obtain ⟨R, HRp⟩ : ∃ R, Hid (Lib.containsS l s = R) := ⟨_, Lib.hid rfl⟩
  have HX : Hid (∀ W : World, Below w.heap.size w W → Calls Tryz.prog 9 #[.slice (some ⟨g, off, none⟩) n cap, .string s] W fun e w' => e = .returned (.bool R) ∧ w' = W) := Lib.hid fun W hW => by
    have h := Tryz.slices_Contains_string g off n cap l s W (by omega) (by omega) (fun j hj => (hW.cell (p := ⟨g, off + j, none⟩) hg).trans (hcl j hj))
    rw [List.take_of_length_le (by omega), HRp.out] at h
    exact h
  rw [HRp.out]
  clear hn he2 hp hcl
  go_enter Tryz.func43, Tryz.ntmps43
  go_wp2_with fail
  refine (HC.out _).mono ?_
  rintro e w1 ⟨rfl, hb1⟩
  obtain ⟨hr1, hB1⟩ := rule_after hb1
  obtain ⟨c0, c1, c2, c3⟩ := rule_cells hr1
  have HR := Lib.hid hr1
  have HB := Lib.hid hB1
  have HB0 := Lib.hid hb1
  clear hb1 hr1 hB1
  go_wp2_with fail
  refine (HX.out _ HB.out).mono ?_
  rintro e w2 ⟨rfl, rfl⟩
  go_wp2_with fail
  go_ret
  exact ⟨rfl, HB.out⟩

end Go.Proofs.YtheidjnapoipaaaGreatDoor

namespace Go.Proofs.YtheidjnapoipaaaGreatDoor
open Go.RowKit
set_option linter.unusedVariables false

set_option maxRecDepth 20000 in
set_option maxHeartbeats 2000000 in
theorem Fits_2 (a b : Int) (l : List ByteArray) (hc : FR.check ⟨2, a, b, l⟩ = 0) (a0 : Option Addr) (n cap : Nat) (hn : l.length = n) (s : ByteArray) (hs : s.size ≤ 1000) (w : World) :
    Calls Tryz.prog 43 #[.agg #[.int .i64 2, .int .i64 a, .int .i64 b, .slice a0 n cap], .string s] w fun e w' => e = .returned (.bool (winB a b (runesB s).length && plainB s)) ∧ Below w.heap.size w w' := by
  have HC : Hid (∀ W : World, Calls Tryz.prog 10 #[.agg #[.int .i64 2, .int .i64 a, .int .i64 b, .slice a0 n cap]] W fun e w' => e = .returned (.int .i64 0) ∧ Below W.heap.size W w') := Lib.hid fun W => by
    have h := Check_any ⟨2, a, b, l⟩ a0 n cap hn W
    rw [hc] at h
    exact h
  clear hc
  obtain ⟨N, HN⟩ : ∃ N, Hid ((runesB s).length = N) := ⟨_, Lib.hid rfl⟩
  have HCN : Hid (∀ W : World, Calls Tryz.prog 54 #[.string s] W fun e w' => e = .returned (.int .i64 (N : Nat)) ∧ Below W.heap.size W w') := Lib.hid fun W => by rw [← HN.out]; exact Count_any s W (by omega)
  rw [HN.out]
  obtain ⟨B, HBw⟩ : ∃ B, Hid (winB a b N = B) := ⟨_, Lib.hid rfl⟩
  obtain ⟨D, HD⟩ : ∃ D, Hid (plainB s = D) := ⟨_, Lib.hid rfl⟩
  have HW : Hid (∀ (v : Value) (W : World), Calls Tryz.prog 52 #[.agg #[.int .i64 2, .int .i64 a, .int .i64 b, v], .int .i64 (N : Nat)] W fun e w' => e = .returned (.bool B) ∧ Below W.heap.size W w') := Lib.hid fun v W => by rw [← HBw.out]; exact within_any 2 a b v N W
  have HPL : Hid (∀ (W : World), Calls Tryz.prog 55 #[.string s] W fun e w' => e = .returned (.bool D) ∧ Below W.heap.size W w') := Lib.hid fun W => by rw [← HD.out]; exact plain_any s W (by omega)
  rw [HBw.out, HD.out]
  clear hn
  cases B with
  | false =>
    go_enter Tryz.func43, Tryz.ntmps43
    go_wp2_with fail
    refine (HC.out _).mono ?_
    rintro e w1 ⟨rfl, hb1⟩
    obtain ⟨hr1, hB1⟩ := rule_after hb1
    obtain ⟨c0, c1, c2, c3⟩ := rule_cells hr1
    have HR := Lib.hid hr1
    have HB := Lib.hid hB1
    have HB0 := Lib.hid hb1
    clear hb1 hr1 hB1
    go_wp2_with fail
    have HRC : Hid (∀ W, Below w1.heap.size w1 W → Row W w.heap.size 30 [.int .i64 2, .int .i64 a, .int .i64 b, .slice a0 n cap]) := Lib.hid fun W h => HR.out.below h HR.out.lt
    clear c0 c1 c2 c3
    refine region_quiet_lit (Below w1.heap.size w1) (by kernel_rfl) (by kernel_rfl) (below_drewN_u (Below.refl _ _) 1) ?_
    repeat (first
      | (go_big_quiet_want; (first
          | refine quiet_load_row 30 (.tmp 2) (by rfl) w.heap.size (by rfl) 30 [.int .i64 2, .int .i64 a, .int .i64 b, .slice a0 n cap] _ HRC.out Tryz.underlying30 rfl (by kernel_rfl) ?_); go_big_quiet_on; simp only [Act.put, List.setIfInBounds_toArray, List.set_cons_zero, List.set_cons_succ])
      | go_big_quiet_step ((first
            | (intro hC; with_reducible rfl)
            | (intro hC; go_at_call 54; refine (HCN.out _).mono ?_; rintro e w'' ⟨rfl, hb⟩; exact ⟨rfl, hC.trans (hb.mono hC.size)⟩)
            | (intro hC; go_at_call 52; refine (HW.out _ _).mono ?_; rintro e w'' ⟨rfl, hb⟩; exact ⟨rfl, hC.trans (hb.mono hC.size)⟩))))
    refine wpQuiet_nil ?_
    intro w2 hw2
    go_wp2_with fail
    go_ret
    exact ⟨ret_boolE (by first | rfl | rw [Bool.true_and]), HB.out.trans (hw2.mono HB.out.size)⟩
  | true =>
    go_enter Tryz.func43, Tryz.ntmps43
    go_wp2_with fail
    refine (HC.out _).mono ?_
    rintro e w1 ⟨rfl, hb1⟩
    obtain ⟨hr1, hB1⟩ := rule_after hb1
    obtain ⟨c0, c1, c2, c3⟩ := rule_cells hr1
    have HR := Lib.hid hr1
    have HB := Lib.hid hB1
    have HB0 := Lib.hid hb1
    clear hb1 hr1 hB1
    go_wp2_with fail
    have HRC : Hid (∀ W, Below w1.heap.size w1 W → Row W w.heap.size 30 [.int .i64 2, .int .i64 a, .int .i64 b, .slice a0 n cap]) := Lib.hid fun W h => HR.out.below h HR.out.lt
    clear c0 c1 c2 c3
    refine region_quiet_lit (Below w1.heap.size w1) (by kernel_rfl) (by kernel_rfl) (below_drewN_u (Below.refl _ _) 1) ?_
    repeat (first
      | (go_big_quiet_want; (first
          | refine quiet_load_row 30 (.tmp 2) (by rfl) w.heap.size (by rfl) 30 [.int .i64 2, .int .i64 a, .int .i64 b, .slice a0 n cap] _ HRC.out Tryz.underlying30 rfl (by kernel_rfl) ?_); go_big_quiet_on; simp only [Act.put, List.setIfInBounds_toArray, List.set_cons_zero, List.set_cons_succ])
      | go_big_quiet_step ((first
            | (intro hC; with_reducible rfl)
            | (intro hC; go_at_call 54; refine (HCN.out _).mono ?_; rintro e w'' ⟨rfl, hb⟩; exact ⟨rfl, hC.trans (hb.mono hC.size)⟩)
            | (intro hC; go_at_call 52; refine (HW.out _ _).mono ?_; rintro e w'' ⟨rfl, hb⟩; exact ⟨rfl, hC.trans (hb.mono hC.size)⟩)
            | (intro hC; go_at_call 55; refine (HPL.out _).mono ?_; rintro e w'' ⟨rfl, hb⟩; exact ⟨rfl, hC.trans (hb.mono hC.size)⟩))))
    refine wpQuiet_nil ?_
    intro w2 hw2
    go_wp2_with fail
    go_ret
    exact ⟨ret_boolE (by first | rfl | rw [Bool.true_and]), HB.out.trans (hw2.mono HB.out.size)⟩

set_option maxRecDepth 20000 in
set_option maxHeartbeats 2000000 in
theorem Fits_3 (a b : Int) (l : List ByteArray) (hc : FR.check ⟨3, a, b, l⟩ = 0) (a0 : Option Addr) (n cap : Nat) (hn : l.length = n) (s : ByteArray) (hs : s.size ≤ 1000) (w : World) (hM : M w) :
    Calls Tryz.prog 43 #[.agg #[.int .i64 3, .int .i64 a, .int .i64 b, .slice a0 n cap], .string s] w fun e w' => e = .returned (.bool (idB s)) ∧ Below w.heap.size w w' := by
  have HC : Hid (∀ W : World, Calls Tryz.prog 10 #[.agg #[.int .i64 3, .int .i64 a, .int .i64 b, .slice a0 n cap]] W fun e w' => e = .returned (.int .i64 0) ∧ Below W.heap.size W w') := Lib.hid fun W => by
    have h := Check_any ⟨3, a, b, l⟩ a0 n cap hn W
    rw [hc] at h
    exact h
  clear hc
  have HM := Lib.hid hM
  have hz := (zero_of_info u16_info).1
  clear hM hn
  by_cases h : ∃ l, IsId s.data.toList l
  · obtain ⟨u, hu⟩ := h
    have HX0 : Hid (∀ W : World, M W → Calls Tryz.prog 56 #[.string s] W fun e w' => e = .returned (.tuple #[.agg (u.map bv).toArray, .int .i64 0]) ∧ Below W.heap.size W w') := Lib.hid fun W hW => Parse_ok s u hu (by omega) W hW
    have HZ0 : Hid (∀ W : World, Calls Tryz.prog 57 #[.agg (u.map bv).toArray] W fun e w' => e = .returned (.bool (decide (u = List.replicate 16 0))) ∧ Below W.heap.size W w') := Lib.hid fun W => idZero_any u hu.1 W
    obtain ⟨Z, hZ⟩ : ∃ Z, decide (u = List.replicate 16 0) = Z := ⟨_, rfl⟩
    have HI : Hid (idB s = !Z) := Lib.hid (by rw [← hZ]; exact idB_yes hu)
    rw [hZ] at HZ0
    have hone := one_bytes u
    obtain ⟨C, hC⟩ : ∃ C, u.map bv = C := ⟨_, rfl⟩
    have hCl : C.length = 16 := by rw [← hC, List.length_map, hu.1]
    rw [hC] at HX0 HZ0 hone
    have HO := Lib.hid (And.intro hone hCl)
    rw [HI.out]
    clear hZ hC hu hone hCl
    go_enter Tryz.func43, Tryz.ntmps43
    go_wp2_with fail
    refine (HC.out _).mono ?_
    rintro e w1 ⟨rfl, hb1⟩
    obtain ⟨hr1, hB1⟩ := rule_after hb1
    obtain ⟨c0, c1, c2, c3⟩ := rule_cells hr1
    have HR := Lib.hid hr1
    have HB := Lib.hid hB1
    have HB0 := Lib.hid hb1
    clear hb1 hr1 hB1
    go_wp2_with fail
    refine (HX0.out _ (HM.out.below HB.out)).mono ?_
    rintro e w2 ⟨rfl, hb2⟩
    have q := Row.new w2 64 z16
    have hB2 := HB.out.trans (hb2.mono HB.out.size)
    have bq : Below w.heap.size w (w2.alloc (.cells z16.toArray 64)) := hB2.alloc hB2.size _
    have HQ := Lib.hid (And.intro q bq)
    have HS2 := Lib.hid hB2.size
    clear q bq hb2 hB2
    go_wp2_with (first
      | (refine wpList_store_row rfl 64 (.tmp 5) (.tmp 39) rfl w2.heap.size C.toArray rfl rfl 64 z16.toArray HQ.out.1 (by rw [u16_size, List.size_toArray, HO.out.2]) (by rw [List.size_toArray, List.size_toArray, HO.out.2]; rfl) HO.out.1 ?_)
      | (refine wpList_want (by rfl) fun _ hK => wp_load_row 64 (.tmp 5) rfl w2.heap.size rfl 64 C.toArray (0, 0) _ (HQ.out.1.put C) Tryz.underlying64 rfl (by rw [u16_size, List.size_toArray, HO.out.2]) (hK _ _ ?_))
      | fail)
    refine (HZ0.out _).mono ?_
    rintro e w3 ⟨rfl, hb3⟩
    have hB3 := below_setRow (B := w.heap.size) HQ.out.2 HS2.out C.toArray
    have hB4 := Lib.hid (hB3.trans (hb3.mono hB3.size))
    clear hb3 hB3
    go_wp2_with fail
    go_ret
    exact ⟨rfl, hB4.out⟩
  · have HX0 : Hid (∀ W : World, M W → Calls Tryz.prog 56 #[.string s] W fun e w' => e = .returned (.tuple #[.agg z16.toArray, .int .i64 4]) ∧ Below W.heap.size W w') := Lib.hid fun W hW => Parse_bad s (fun l hl => h ⟨l, hl⟩) (by omega) W hW
    have HI : Hid (idB s = false) := Lib.hid (idB_no (fun l hl => h ⟨l, hl⟩))
    rw [HI.out]
    clear h
    go_enter Tryz.func43, Tryz.ntmps43
    go_wp2_with fail
    refine (HC.out _).mono ?_
    rintro e w1 ⟨rfl, hb1⟩
    obtain ⟨hr1, hB1⟩ := rule_after hb1
    obtain ⟨c0, c1, c2, c3⟩ := rule_cells hr1
    have HR := Lib.hid hr1
    have HB := Lib.hid hB1
    have HB0 := Lib.hid hb1
    clear hb1 hr1 hB1
    go_wp2_with fail
    refine (HX0.out _ (HM.out.below HB.out)).mono ?_
    rintro e w2 ⟨rfl, hb2⟩
    have q := Row.new w2 64 z16
    have hB2 := HB.out.trans (hb2.mono HB.out.size)
    have bq : Below w.heap.size w (w2.alloc (.cells z16.toArray 64)) := hB2.alloc hB2.size _
    have HQ := Lib.hid (And.intro q bq)
    have HS2 := Lib.hid hB2.size
    clear q bq hb2 hB2
    go_wp2_with (first
      | (refine wpList_store_row rfl 64 (.tmp 5) (.tmp 39) rfl w2.heap.size z16.toArray rfl rfl 64 z16.toArray HQ.out.1 u16_size rfl z16_one ?_)
      | fail)
    go_ret
    exact ⟨rfl, below_setRow (B := w.heap.size) HQ.out.2 HS2.out z16.toArray⟩

/-- Whether a text fits a rule. -/
theorem Fits_any (r : FR) (v : Value) (s : ByteArray) (hs : s.size ≤ 1000) (hl : r.texts.length ≤ 9223372036854775807) (w : World) (hv : Strs w v r.texts) (hM : M w) :
    Calls Tryz.prog 43 #[.agg #[.int .i64 r.kind, .int .i64 r.least, .int .i64 r.most, v], .string s] w fun e w' => e = .returned (.bool (r.fits s)) ∧ Below w.heap.size w w' := by
  have hv2 := hv
  obtain ⟨a0, cap, g, off, rfl, _, _⟩ := hv
  by_cases hc : r.check = 0
  · have hk := FR.check_known hc
    have e : r.fits s = fitK r.kind r.least r.most r.texts s := by unfold FR.fits; rw [if_pos hc]
    rw [e]
    obtain ⟨k, a, b, l⟩ := r
    dsimp only at hk hv2 hl ⊢
    obtain ⟨hk1, hk8⟩ := hk
    rcases (by omega : k = 1 ∨ k = 2 ∨ k = 3 ∨ k = 4 ∨ k = 5 ∨ k = 6 ∨ k = 7 ∨ k = 8) with rfl | rfl | rfl | rfl | rfl | rfl | rfl | rfl
    · exact Fits_1 a b l hc a0 _ cap rfl s hs w
    · exact Fits_2 a b l hc a0 _ cap rfl s hs w
    · exact Fits_3 a b l hc a0 _ cap rfl s hs w hM
    · exact Fits_4 a b l hc a0 _ cap rfl s hs w hv2 hl
    · exact Fits_5 a b l hc a0 _ cap rfl s hs w
    · exact Fits_6 a b l hc a0 _ cap rfl s hs w
    · exact Fits_7 a b l hc a0 _ cap rfl s hs w
    · exact Fits_8 a b l hc a0 _ cap rfl s hs w
  · have e : r.fits s = false := by unfold FR.fits; rw [if_neg hc]
    rw [e]
    exact Fits_not r hc a0 _ cap rfl s w
end Go.Proofs.YtheidjnapoipaaaGreatDoor

namespace Go.Proofs.YtheidjnapoipaaaGreatDoor
open Go.RowKit
set_option linter.unusedVariables false

theorem Awake4_any (w : World) :
    Calls Tryz.prog 46 #[] w fun e w' => e = .returned (.bool true) ∧ Below w.heap.size w w' := by
  go_enter Tryz.func46, Tryz.ntmps46
  go_wp2_with fail
  refine (awake_any_u _).mono ?_
  rintro e wa ⟨rfl, hb⟩
  go_wp2_with fail
  go_ret
  exact ⟨rfl, hb⟩
theorem Awake10_any (w : World) (hG : G w) :
    Calls Tryz.prog 47 #[] w fun e w' => e = .returned (.bool true) ∧ Below w.heap.size w w' := by
  have HG := Lib.hid hG
  clear hG
  go_enter Tryz.func47, Tryz.ntmps47
  go_wp2_with fail
  refine (awake10_any _ HG.out).mono ?_
  rintro e wa ⟨rfl, hb⟩
  go_wp2_with fail
  go_ret
  exact ⟨rfl, hb⟩

theorem strs_nil (w : World) (a0 : Option Addr) (cap : Nat) : Strs w (.slice a0 0 cap) [] := ⟨a0, cap, 0, 0, rfl, fun h => absurd h (by simp), fun j h => absurd h (by simp)⟩

def s07 : ByteArray := ⟨#[48, 55]⟩
def s7 : ByteArray := ⟨#[55]⟩
theorem check_ex : FR.check ⟨1, 2, 3, []⟩ = 0 := by decide +kernel
theorem fits_07 : FR.fits ⟨1, 2, 3, []⟩ ⟨#[48, 55]⟩ = true := by
  unfold FR.fits
  rw [if_pos check_ex]
  show (winB 2 3 (ByteArray.mk #[48, 55]).size && figB ⟨#[48, 55]⟩) = true
  decide +kernel
theorem fits_7 : FR.fits ⟨1, 2, 3, []⟩ ⟨#[55]⟩ = false := by
  unfold FR.fits
  rw [if_pos check_ex]
  show (winB 2 3 (ByteArray.mk #[55]).size && figB ⟨#[55]⟩) = false
  decide +kernel

set_option maxRecDepth 20000 in
set_option maxHeartbeats 2000000 in
theorem awake14_any (w : World) (hG : G w) (hM : M w) :
    Calls Tryz.prog 34 #[] w fun e w' => e = .returned (.bool true) ∧ Below w.heap.size w w' := by
  have HG := Lib.hid hG
  have HM := Lib.hid hM
  have H1 : Hid (∀ (v : Value) (W : World), Strs W v [] → M W → Calls Tryz.prog 43 #[.agg #[.int .i64 1, .int .i64 2, .int .i64 3, v], .string ⟨#[48, 55]⟩] W fun e w' => e = .returned (.bool true) ∧ Below W.heap.size W w') := Lib.hid fun v W hv hm => by
    have h := Fits_any ⟨1, 2, 3, []⟩ v ⟨#[48, 55]⟩ (by decide) (by decide) W hv hm
    rw [fits_07] at h
    exact h
  have H2 : Hid (∀ (v : Value) (W : World), Strs W v [] → M W → Calls Tryz.prog 43 #[.agg #[.int .i64 1, .int .i64 2, .int .i64 3, v], .string ⟨#[55]⟩] W fun e w' => e = .returned (.bool false) ∧ Below W.heap.size W w') := Lib.hid fun v W hv hm => by
    have h := Fits_any ⟨1, 2, 3, []⟩ v ⟨#[55]⟩ (by decide) (by decide) W hv hm
    rw [fits_7] at h
    exact h
  have HN : Hid (Strs w (.slice none 0 0) []) := Lib.hid ⟨none, 0, 0, 0, rfl, fun h => absurd h (by simp), fun j h => absurd h (by simp)⟩
  clear hG hM
  go_enter Tryz.func34, Tryz.ntmps34
  go_wp2_with fail
  refine (Of_any 1 2 3 _ [] _ HN.out (by decide)).mono ?_
  rintro e w1 ⟨v', rfl, hs, hb1⟩
  obtain ⟨a0, cap, g, off, rfl, hp, hc⟩ := hs
  have q : Row (w1.alloc (.cells #[.int .i64 0, .int .i64 0, .int .i64 0, .slice none 0 0] 30)) w1.heap.size 30 [.int .i64 0, .int .i64 0, .int .i64 0, .slice none 0 0] := Row.new w1 _ _
  have hB0 := hb1.alloc hb1.size (.cells #[.int .i64 0, .int .i64 0, .int .i64 0, .slice none 0 0] 30)
  have HQ := Lib.hid (And.intro q (And.intro hB0 hb1.size))
  clear q hB0 hp hc hb1
  go_wp2_with (first
    | (refine wpList_store_row rfl 30 (.tmp 1) (.tmp 2) rfl w1.heap.size #[.int .i64 1, .int .i64 2, .int .i64 3, .slice a0 0 cap] rfl rfl 30 #[.int .i64 0, .int .i64 0, .int .i64 0, .slice none 0 0] HQ.out.1 rule_info rfl (by simp [Value.oneCell']) ?_; have hq := HQ.out.1.put [.int .i64 1, .int .i64 2, .int .i64 3, .slice a0 0 cap]; have hbq := below_setRow (B := w.heap.size) HQ.out.2.1 HQ.out.2.2 #[.int .i64 1, .int .i64 2, .int .i64 3, .slice a0 0 cap]; generalize (w1.alloc (.cells #[.int .i64 0, .int .i64 0, .int .i64 0, .slice none 0 0] 30)).setRow w1.heap.size #[.int .i64 1, .int .i64 2, .int .i64 3, .slice a0 0 cap] = w3 at hq hbq ⊢; obtain ⟨c0, c1, c2, c3⟩ := rule_cells hq; have HE := Lib.hid (And.intro hq hbq); clear hq hbq)
    | fail)
  refine (H1.out _ _ (strs_nil _ _ _) (HM.out.below HE.out.2)).mono ?_
  rintro e w4 ⟨rfl, hb4⟩
  have r4 := HE.out.1.below hb4 HE.out.1.lt
  have B4 := HE.out.2.trans (hb4.mono HE.out.2.size)
  obtain ⟨c0, c1, c2, c3⟩ := rule_cells r4
  have H4 := Lib.hid B4
  clear hb4 r4 B4 HE HQ
  go_wp2_with fail
  refine (H2.out _ _ (strs_nil _ _ _) (HM.out.below H4.out)).mono ?_
  rintro e w5 ⟨rfl, hb5⟩
  have H5 := Lib.hid (H4.out.trans (hb5.mono H4.out.size))
  clear hb5 H4 c0 c1 c2 c3
  go_wp2_with fail
  refine (Awake2_any _).mono ?_
  rintro e w6 ⟨rfl, hb6⟩
  have H6 := Lib.hid (H5.out.trans (hb6.mono H5.out.size))
  clear hb6 H5
  go_wp2_with fail
  refine (Awake3_any _).mono ?_
  rintro e w7 ⟨rfl, hb7⟩
  have H7 := Lib.hid (H6.out.trans (hb7.mono H6.out.size))
  clear hb7 H6
  go_wp2_with fail
  refine (Awake4_any _).mono ?_
  rintro e w8 ⟨rfl, hb8⟩
  have H8 := Lib.hid (H7.out.trans (hb8.mono H7.out.size))
  clear hb8 H7
  go_wp2_with fail
  refine (Awake10_any _ (HG.out.below H8.out)).mono ?_
  rintro e w9 ⟨rfl, hb9⟩
  have H9 := Lib.hid (H8.out.trans (hb9.mono H8.out.size))
  clear hb9 H8
  go_wp2_with fail
  go_ret
  exact ⟨rfl, H9.out⟩
end Go.Proofs.YtheidjnapoipaaaGreatDoor

namespace Go.Proofs.YtheidjnapoipaaaGreatDoor
open Go.RowKit
set_option linter.unusedVariables false
set_option linter.unusedSimpArgs false

def mccF : FD := ⟨⟨#[109, 99, 99]⟩, ⟨1, 4, 4, []⟩, ⟨#[82, 45, 45, 45, 45, 45, 45, 45, 45]⟩⟩
theorem mcc_is : findF ⟨#[109, 99, 99]⟩ = some mccF := by rfl
theorem Find_mcc (w : World) : Calls Tryz.prog 11 #[.string ⟨#[109, 99, 99]⟩] w fun e w' => ∃ v, e = .returned (.tuple #[.agg #[.string ⟨#[109, 99, 99]⟩, .int .i64 1, .int .i64 4, .int .i64 4, v, .string ⟨#[82, 45, 45, 45, 45, 45, 45, 45, 45]⟩], .bool true]) ∧ (∃ a0 n c, v = .slice a0 n c) ∧ Below w.heap.size w w' := by
  refine (Find_any _ w).mono ?_
  rintro e w' ⟨v, he, hs, hb⟩
  rw [mcc_is] at he hs
  obtain ⟨a0, c, hv⟩ := hs.form
  exact ⟨v, he, ⟨a0, _, c, hv⟩, hb⟩

set_option maxHeartbeats 1000000 in
theorem Awake14_any (w : World) (hG : G w) (hM : M w) :
    Calls Tryz.prog 21 #[] w fun e w' => e = .returned (.bool true) ∧ Below w.heap.size w w' := by
  have HA := Lib.hid (awake14_any w hG hM)
  clear hG hM
  go_enter Tryz.func21, Tryz.ntmps21
  go_wp2_with fail
  refine HA.out.mono ?_
  rintro e wa ⟨rfl, hb⟩
  go_wp2_with fail
  go_ret
  exact ⟨rfl, hb⟩

set_option maxHeartbeats 1000000 in
theorem awake15_any (w : World) (hG : G w) (hM : M w) :
    Calls Tryz.prog 5 #[] w fun e w' => e = .returned (.bool true) ∧ Below w.heap.size w w' := by
  have HF := Lib.hid (fun W => Find_mcc W)
  have HG := Lib.hid hG
  have HM := Lib.hid hM
  clear hG hM
  go_enter Tryz.func5, Tryz.ntmps5
  go_wp2_with fail
  refine (HF.out _).mono ?_
  rintro e w1 ⟨v, rfl, ⟨a0, n, c, rfl⟩, hb⟩
  have r1 := Row.new w1 32 [.string ⟨#[109, 99, 99]⟩, .int .i64 1, .int .i64 4, .int .i64 4, .slice a0 n c, .string ⟨#[82, 45, 45, 45, 45, 45, 45, 45, 45]⟩]
  have B1 := Lib.hid (hb.alloc hb.size (.cells ([.string ⟨#[109, 99, 99]⟩, .int .i64 1, .int .i64 4, .int .i64 4, .slice a0 n c, .string ⟨#[82, 45, 45, 45, 45, 45, 45, 45, 45]⟩] : List Value).toArray 32))
  clear hb
  go_wp2_with fail
  refine (Awake14_any _ (HG.out.below B1.out) (HM.out.below B1.out)).mono ?_
  rintro e w2 ⟨rfl, hb⟩
  have r2 := r1.below hb (by simp)
  have c1 := r2.cell 1
  have c2 := r2.cell 2
  have c3 := r2.cell 3
  simp only [List.getElem?_cons_zero, List.getElem?_cons_succ] at c1 c2 c3
  have B2 := Lib.hid (B1.out.trans (hb.mono B1.out.size))
  clear hb r1 r2
  go_wp2_with fail
  go_ret
  exact ⟨rfl, B2.out⟩

/-- The number of a message's name; 0. -/
def msgN (s : ByteArray) : Nat := match msgL.findIdx? fun x => decide (x = s) with
  | some i => i + 1
  | none => if s = ⟨#[]⟩ then 0 else 0
def msgsL : List ByteArray := ⟨#[]⟩ :: msgL
theorem msgsV_is : msgsV = msgsL.map Value.string := rfl
end Go.Proofs.YtheidjnapoipaaaGreatDoor

namespace Go.Proofs.YtheidjnapoipaaaGreatDoor
open Go.RowKit
set_option linter.unusedVariables false
set_option linter.unusedSimpArgs false

def hitB (m i : Nat) : Bool := (ofL m fullF).any fun x => decide (x.1.name = (tblF.getD i fd0).name)
theorem some_all (i : Nat) (hi : i < 32) : (List.range 9).any (fun m => hitB (m + 1) i) = true := by
  have h : (List.range 32).all (fun i => (List.range 9).any (fun m => hitB (m + 1) i)) = true := by decide +kernel
  exact List.all_eq_true.1 h i (List.mem_range.2 hi)
theorem req_all (i m : Nat) (hi : i < 2) (h1 : 1 ≤ m) (h9 : m ≤ 9) (x : FD × Bool) (hx : x ∈ ofL m fullF) (hn : x.1.name = (tblF.getD i fd0).name) : x.2 = true := by
  have h : (List.range 2).all (fun i => (List.range 9).all (fun m => (ofL (m + 1) fullF).all fun x => !decide (x.1.name = (tblF.getD i fd0).name) || x.2)) = true := by decide +kernel
  have h2 := List.all_eq_true.1 (List.all_eq_true.1 (List.all_eq_true.1 h i (List.mem_range.2 hi)) (m - 1) (List.mem_range.2 (by omega))) x (by rw [show m - 1 + 1 = m by omega]; exact hx)
  rw [decide_eq_true hn] at h2
  simpa using h2
theorem cnt_all (m : Nat) (h1 : 1 ≤ m) (h9 : m ≤ 9) : 3 ≤ (ofL m fullF).length ∧ (ofL m fullF).length ≤ 32 := by
  have h : (List.range 9).all (fun m => decide (3 ≤ (ofL (m + 1) fullF).length ∧ (ofL (m + 1) fullF).length ≤ 32)) = true := by decide +kernel
  have h2 := List.all_eq_true.1 h (m - 1) (List.mem_range.2 (by omega))
  rw [show m - 1 + 1 = m by omega] at h2
  simpa using h2

/-- Only marks are left: each is shut, and on. -/
theorem leaves_marks {F : Fence} {n : Nat} {P : Program} {fn : Func} {tmps : Array Value} {R : Ending → World → Prop} : ∀ (Ds : List Nat) (W : World), Ds.Nodup → (∀ D ∈ Ds, W.heap[D]? = some (.deferred (some []))) →
    (∀ W' : World, W'.os = W.os → W'.tape = W.tape → W'.output = W.output → W'.heap.size = W.heap.size → (∀ k, k ∉ Ds → W'.heap[k]? = W.heap[k]?) → LeavesInM F n P fn tmps R [] .returning W') →
    LeavesInM F n P fn tmps R (Ds.map fun D => { target := .collected D, args := #[] }) .returning W
  | [], W, _, _, h => h W rfl rfl rfl rfl fun _ _ => rfl
  | D :: Ds, W, hd, hb, h => by
    rw [List.nodup_cons] at hd
    refine ⟨by simp, .inl ⟨_, _, rfl, run_takeDeferred (hb D (by simp)), ?_⟩⟩
    refine leaves_marks (n := n) Ds _ hd.2 (fun E hE => (World.putObj_heap_other (by intro e; subst e; exact hd.1 hE)).trans (hb E (by simp [hE]))) fun W' h1 h2 h3 h4 h5 => ?_
    refine h W' (h1.trans rfl) (h2.trans rfl) (h3.trans rfl) (h4.trans (by simp)) fun k hk => ?_
    simp only [List.mem_cons, not_or] at hk
    exact (h5 k hk.2).trans (World.putObj_heap_other hk.1)

def msgNum (s : ByteArray) : Nat := (msgsL.findIdx? fun x => decide (x = s)).getD 0
theorem msgsL_length : msgsL.length = 10 := rfl
theorem index_msgs (k : Nat) (hk : k < 10) (W : World) : (Instr.index 42 (.agg (msgsL.map Value.string).toArray) (.int .i64 k)).run Tryz.prog W = .ok (.string (msgsL.getD k ⟨#[]⟩)) W := by
  rcases (by omega : k = 0 ∨ k = 1 ∨ k = 2 ∨ k = 3 ∨ k = 4 ∨ k = 5 ∨ k = 6 ∨ k = 7 ∨ k = 8 ∨ k = 9) with rfl | rfl | rfl | rfl | rfl | rfl | rfl | rfl | rfl | rfl <;>
    simp [Instr.index, go_sem, msgsL, msgL, Tryz.underlying42, Tryz.underlying9]
theorem msgNum_at {s : ByteArray} {k : Nat} (hk : k < 10) (h : ∀ j, j < k → msgsL.getD j ⟨#[]⟩ ≠ s) (he : msgsL.getD k ⟨#[]⟩ = s) : msgNum s = k := by
  unfold msgNum
  have h1 : msgsL.findIdx? (fun x => decide (x = s)) = some k := by
    rw [List.findIdx?_eq_some_iff_getElem]
    refine ⟨by rw [msgsL_length]; exact hk, ?_, fun j hj => ?_⟩
    · rw [List.getD_eq_getElem?_getD, List.getElem?_eq_getElem (by rw [msgsL_length]; exact hk), Option.getD_some] at he
      simpa using he
    · have := h j hj
      rw [List.getD_eq_getElem?_getD, List.getElem?_eq_getElem (by rw [msgsL_length]; omega), Option.getD_some] at this
      simpa using this
  rw [h1]
  rfl
theorem msgNum_none {s : ByteArray} (h : ∀ j, j < 10 → msgsL.getD j ⟨#[]⟩ ≠ s) : msgNum s = 0 := by
  unfold msgNum
  rw [List.findIdx?_eq_none_iff.2 (fun x hx => by
    obtain ⟨j, hj, rfl⟩ := List.getElem_of_mem hx
    have := h j (by rw [← msgsL_length]; exact hj)
    rw [List.getD_eq_getElem?_getD, List.getElem?_eq_getElem hj, Option.getD_some] at this
    simpa using this)]
  rfl
set_option maxHeartbeats 2000000 in
theorem Message_any (s : ByteArray) (w : World) :
    Calls Tryz.prog 15 #[.string s] w fun e w' => e = .returned (.int .i64 (msgNum s)) ∧ Below w.heap.size w w' := by
  have HM := Lib.hid (fun W => Messages_any W)
  simp only [msgsV_is] at HM
  have HIX := index_msgs
  generalize (msgsL.map Value.string).toArray = A at HM HIX
  go_enter Tryz.func15, Tryz.ntmps15
  go_wp2_with fail
  refine (HM.out _).mono ?_
  rintro e w1 ⟨rfl, hb⟩
  have HB := Lib.hid hb
  clear hb HM
  go_wp2_with fail
  go_loopw [6] (fun i wr => ∃ k : Nat, k ≤ 10 ∧ i = .int .i64 k ∧ wr = w1 ∧ Hid (∀ j, j < k → msgsL.getD j ⟨#[]⟩ ≠ s)) (fun i _ => 10 - (intOf i).toNat)
  case atStart => exact ⟨0, by omega, by go_num, rfl, Lib.hid fun j hj => absurd hj (by omega)⟩
  case round =>
    obtain ⟨k, hk, rfl, rfl, HN⟩ := hrel
    by_cases hlt : k < 10
    · have hltI : (k : Int) < 10 := by omega
      have hix := HIX k hlt
      obtain ⟨x, hx⟩ : ∃ x, msgsL.getD k ⟨#[]⟩ = x := ⟨_, rfl⟩
      rw [hx] at hix
      clear HIX
      by_cases hxs : x = s
      · have hnum := Lib.hid (msgNum_at hlt HN.out (hx.trans hxs))
        have heq : (x.toList == s.toList) = true := by rw [hxs]; simp
        clear hxs hx
        go_wp2
        go_ret
        exact ⟨by rw [hnum.out]; rfl, HB.out⟩
      · have hneq := str_neC hxs
        have HN2 : Hid (∀ j, j < k + 1 → msgsL.getD j ⟨#[]⟩ ≠ s) := Lib.hid fun j hj => by
          by_cases h : j = k
          · subst h; rw [hx]; exact hxs
          · exact HN.out j (by omega)
        clear hxs hx
        go_wp2
        go_roundw
        case rel => exact ⟨k + 1, by omega, by go_num, trivial, HN2⟩
        case measure => simp [intOf]; omega
    · have hge : ¬ (k : Int) < 10 := by omega
      have hnum := Lib.hid (msgNum_none (s := s) fun j hj => HN.out j (by omega))
      go_wp2
      go_ret
      exact ⟨by rw [hnum.out]; rfl, HB.out⟩
theorem msgNum_of (m : Nat) (hm : m < 10) : msgNum (msgsL.getD m ⟨#[]⟩) = m := by
  have h : (List.range 10).all (fun m => msgNum (msgsL.getD m ⟨#[]⟩) == m) = true := by decide +kernel
  have := List.all_eq_true.1 h m (List.mem_range.2 hm)
  simpa using this
end Go.Proofs.YtheidjnapoipaaaGreatDoor

namespace Go.Proofs.YtheidjnapoipaaaGreatDoor
open Go.RowKit
set_option linter.unusedVariables false

theorem drew_drew (w : World) (m n : Nat) : (w.drewN m).drewN n = w.drewN (m + n) := by simp [World.drewN, Nat.add_assoc]


set_option maxHeartbeats 400000 in
theorem Equal_any (v1 v2 : Value) (l1 l2 : List ByteArray) (w : World) (h1 : Strs w v1 l1) (h2 : Strs w v2 l2) (hl1 : l1.length ≤ 100000) (hl2 : l2.length ≤ 100000) :
    Calls Tryz.prog 13 #[v1, v2] w fun e w' => e = .returned (.bool (decide (l1 = l2))) ∧ ∃ n, w' = w.drewN n := by
  obtain ⟨p1, c1, b1, o1, rfl, hp1, hc1⟩ := h1
  obtain ⟨p2, c2, b2, o2, rfl, hp2, hc2⟩ := h2
  by_cases hlen : l1.length = l2.length
  · rw [hlen] at hc1 hp1 ⊢
    obtain ⟨n, hn⟩ : ∃ n, l2.length = n := ⟨_, rfl⟩
    have HN := Lib.hid hn
    rw [hn] at hc1 hc2 hp1 hp2 hl2 ⊢
    rw [hn] at hlen
    have HL := Lib.hid hlen
    clear hlen hl1 hn
    have HC := Lib.hid (And.intro hc1 hc2)
    have HP := Lib.hid (And.intro hp1 hp2)
    clear hc1 hc2 hp1 hp2
    go_enter Tryz.func13, Tryz.ntmps13
    go_wp2
    go_loopw [13] (fun i wr => ∃ j m : Nat, j ≤ n ∧ i = .int .i64 j ∧ Hid (∀ k, k < j → l1.getD k ByteArray.empty = l2.getD k ByteArray.empty) ∧ Hid (wr = w.drewN m)) (fun i _ => n - (intOf i).toNat)
    case atStart => exact ⟨0, 0, Nat.zero_le _, rfl, fun k hk => by omega, rfl⟩
    case round =>
      obtain ⟨j, m, hj, rfl, HE, HW⟩ := hrel
      rw [HW.out]
      clear HW
      by_cases hlt : j < n
      · obtain ⟨rfl, hb1⟩ := HP.out.1 (by omega)
        obtain ⟨rfl, hb2⟩ := HP.out.2 (by omega)
        have hx := HC.out.1 j hlt
        have hy := HC.out.2 j hlt
        obtain ⟨x, HX⟩ : ∃ x, Hid (l1.getD j ByteArray.empty = x) := ⟨_, Lib.hid rfl⟩
        obtain ⟨y, HY⟩ : ∃ y, Hid (l2.getD j ByteArray.empty = y) := ⟨_, Lib.hid rfl⟩
        rw [HX.out] at hx
        rw [HY.out] at hy
        by_cases hxy : x = y
        · subst hxy
          have HE2 : Hid (∀ k, k < j + 1 → l1.getD k ByteArray.empty = l2.getD k ByteArray.empty) := Lib.hid fun k hk => by
            rcases (by omega : k < j ∨ k = j) with h | h
            · exact HE.out k h
            · subst h; rw [HX.out, HY.out]
          go_wp2_with fail
          go_quiet (fail)
          go_wp2_with fail
          go_roundw
          case rel => exact ⟨j + 1, _, by omega, by go_num, HE2, Lib.hid rfl⟩
          case measure => simp [intOf]; omega
        · have hne := str_ne hxy
          have hd : Hid (decide (l1 = l2) = false) := Lib.hid (decide_eq_false fun h => hxy (by rw [← HX.out, ← HY.out, h]))
          go_wp2_with fail
          go_quiet (fail)
          go_wp2_with fail
          go_ret
          exact ⟨ret_boolE hd.out.symm, _, drew_drew _ _ _⟩
      · have hd : Hid (decide (l1 = l2) = true) := Lib.hid (decide_eq_true (List.ext_getElem (by rw [HL.out, HN.out]) fun k hk1 hk2 => by
          have hk := HE.out k (by have := HL.out; omega)
          simpa [List.getD, List.getElem?_eq_getElem hk1, List.getElem?_eq_getElem hk2] using hk))
        go_wp2_with fail
        go_ret
        exact ⟨ret_boolE hd.out.symm, _, rfl⟩
  · have hd : decide (l1 = l2) = false := decide_eq_false (fun h => hlen (by rw [h]))
    rw [hd]
    have hne : ((l1.length : Int) == (l2.length : Int)) = false := by simp; omega
    go_enter Tryz.func13, Tryz.ntmps13
    go_wp2
    go_ret
    exact ⟨rfl, 0, rfl⟩

end Go.Proofs.YtheidjnapoipaaaGreatDoor

namespace Go.Proofs.YtheidjnapoipaaaGreatDoor
open Go.RowKit
set_option linter.unusedVariables false
set_option linter.unusedSimpArgs false

theorem below_drewN_c {B : Nat} {a w : World} (h : Below B a w) (n : Nat) : Below B a (w.drewN n) := ⟨h.os, h.tape, h.output, h.size, h.block⟩
set_option maxRecDepth 20000 in
set_option maxHeartbeats 2000000 in
theorem same_any (f : FD) (v1 v2 : Value) (w : World) (h1 : Strs w v1 f.rule.texts) (h2 : Strs w v2 f.rule.texts) (hl : f.rule.texts.length ≤ 1000) :
    Calls Tryz.prog 8 #[.agg (fieldC f v1).toArray, .agg (fieldC2 f v2).toArray] w fun e w' => e = .returned (.bool true) ∧ Below w.heap.size w w' := by
  obtain ⟨a1, n1, g1, o1, hv1, _, _⟩ := id h1
  obtain ⟨a2, n2, g2, o2, hv2, _, _⟩ := id h2
  have r0 := (Row.new w 32 (fieldC f v1)).alloc (.cells (fieldC2 f v2).toArray 36)
  have r1 := Row.new (w.alloc (.cells (fieldC f v1).toArray 32)) 36 (fieldC2 f v2)
  rw [World.size_alloc] at r1
  have b0 : Below w.heap.size w ((w.alloc (.cells (fieldC f v1).toArray 32)).alloc (.cells (fieldC2 f v2).toArray 36)) := ((Below.refl _ _).alloc (Nat.le_refl _) _).alloc (by simp) _
  have HE := Lib.hid (Equal_any v1 v2 f.rule.texts f.rule.texts _ (h1.below (Nat.le_refl _) b0) (h2.below (Nat.le_refl _) b0) (by omega) (by omega))
  subst hv1 hv2
  have e0 : (f.name.toList == f.name.toList) = true := by simp
  have e1 : (f.inn.toList == f.inn.toList) = true := by simp
  unfold fieldC fieldC2 at *
  clear h1 h2 hl
  go_enter Tryz.func8, Tryz.ntmps8
  go_wp2_with fail
  simp only [decide_true] at HE
  refine HE.out.mono ?_
  rintro e w1 ⟨rfl, n, rfl⟩
  have hb := Lib.hid (below_drewN_c b0 n)
  go_wp2_with fail
  go_ret
  exact ⟨rfl, hb.out⟩

/-- Is a text among texts? -/
def memS (s : ByteArray) (l : List ByteArray) : Bool := l.any fun x => decide (x = s)
set_option maxHeartbeats 1000000 in
theorem index_any (v : Value) (l : List ByteArray) (s : ByteArray) (w : World) (h : Strs w v l) (hl : l.length ≤ 1000000) :
    Calls Tryz.prog 25 #[v, .string s] w fun e w' => (∃ k : Int, e = .returned (.int .i64 k) ∧ decide (0 ≤ k) = memS s l) ∧ w = w' := by
  obtain ⟨p, c, b, o, rfl, hp, hc⟩ := h
  have hlI : (l.length : Int) ≤ 1000000 := by omega
  go_enter Tryz.func25, Tryz.ntmps25
  go_wp2
  go_loopw [8] (fun i wr => ∃ k : Nat, k ≤ l.length ∧ i = .int .i64 k ∧ wr = w ∧ Hid (∀ j, j < k → l.getD j ByteArray.empty ≠ s)) (fun i _ => l.length - (intOf i).toNat)
  case atStart => exact ⟨0, by omega, by go_num, rfl, Lib.hid fun j hj => absurd hj (by omega)⟩
  case round =>
    obtain ⟨k, hk, rfl, rfl, HN⟩ := hrel
    by_cases hlt : k < l.length
    · have hltI : (k : Int) < (l.length : Int) := by omega
      obtain ⟨rfl, hbw⟩ := hp (by omega)
      have hck := hc k hlt
      obtain ⟨x, hx⟩ : ∃ x, l.getD k ByteArray.empty = x := ⟨_, rfl⟩
      rw [hx] at hck
      have hxm : x ∈ l := by
        rw [← hx, List.getD_eq_getElem?_getD, List.getElem?_eq_getElem hlt, Option.getD_some]
        exact List.getElem_mem hlt
      clear hc hp
      by_cases hxs : s = x
      · have heq : (s.toList == x.toList) = true := by rw [hxs]; simp
        have hmem := Lib.hid (show decide (0 ≤ (k : Int)) = memS s l by rw [decide_eq_true (by omega)]; exact (List.any_eq_true.2 ⟨x, hxm, by simp [hxs]⟩).symm)
        clear hxs hx hxm
        go_wp2
        go_ret
        exact ⟨⟨_, rfl, hmem.out⟩, rfl⟩
      · have hneq := str_neC hxs
        have HN2 : Hid (∀ j, j < k + 1 → l.getD j ByteArray.empty ≠ s) := Lib.hid fun j hj => by
          by_cases h : j = k
          · subst h; rw [hx]; exact Ne.symm hxs
          · exact HN.out j (by omega)
        clear hxs hx hxm
        go_wp2
        go_roundw
        case rel => exact ⟨k + 1, by omega, by go_num, trivial, HN2⟩
        case measure => simp [intOf]; omega
    · have hge : ¬ (k : Int) < (l.length : Int) := by omega
      have hmem := Lib.hid (show decide (0 ≤ (-1 : Int)) = memS s l by
        rw [decide_eq_false (by decide)]
        refine (List.any_eq_false.2 fun x hm => ?_).symm
        obtain ⟨j, hj, rfl⟩ := List.getElem_of_mem hm
        have := HN.out j (by omega)
        rw [List.getD_eq_getElem?_getD, List.getElem?_eq_getElem hj, Option.getD_some] at this
        simpa using this)
      clear hc hp
      go_wp2
      go_ret
      exact ⟨⟨_, rfl, hmem.out⟩, rfl⟩
set_option maxHeartbeats 1000000 in
theorem contains_any (v : Value) (l : List ByteArray) (s : ByteArray) (w : World) (h : Strs w v l) (hl : l.length ≤ 1000000) :
    Calls Tryz.prog 9 #[v, .string s] w fun e w' => e = .returned (.bool (memS s l)) ∧ w = w' := by
  have HI := Lib.hid (index_any v l s w h hl)
  clear h hl
  go_enter Tryz.func9, Tryz.ntmps9
  go_wp2_with fail
  refine HI.out.mono ?_
  rintro e w' ⟨⟨k, rfl, hk⟩, rfl⟩
  have HK := Lib.hid hk
  clear hk
  go_wp2_with fail
  go_ret
  exact ⟨by rw [← HK.out]; rfl, rfl⟩

set_option maxHeartbeats 1000000 in
theorem refNames_any (w : World) :
    Calls Tryz.prog 14 #[] w fun e w' => ∃ v, e = .returned v ∧ StrsB w.heap.size w' v msgL ∧ Below w.heap.size w w' := by
  have HW : Hid (∀ W : World, Calls Tryz.prog 28 #[.string ⟨#[65, 82, 101, 113, 32, 65, 82, 101, 115, 32, 67, 82, 101, 113, 32, 67, 82, 101, 115, 32, 82, 82, 101, 113, 32, 82, 82, 101, 115, 32, 69, 114, 114, 111, 32, 80, 82, 101, 113, 32, 80, 82, 101, 115]⟩] W fun e w' => ∃ v, e = .returned v ∧ StrsB W.heap.size w' v msgL ∧ Below W.heap.size W w') := Lib.hid fun W => by
    have h := words_any ⟨#[65, 82, 101, 113, 32, 65, 82, 101, 115, 32, 67, 82, 101, 113, 32, 67, 82, 101, 115, 32, 82, 82, 101, 113, 32, 82, 82, 101, 115, 32, 69, 114, 114, 111, 32, 80, 82, 101, 113, 32, 80, 82, 101, 115]⟩ (by decide) W
    unfold WordsPost at h
    rwa [show wordsB ⟨#[65, 82, 101, 113, 32, 65, 82, 101, 115, 32, 67, 82, 101, 113, 32, 67, 82, 101, 115, 32, 82, 82, 101, 113, 32, 82, 82, 101, 115, 32, 69, 114, 114, 111, 32, 80, 82, 101, 113, 32, 80, 82, 101, 115]⟩ = msgL by decide +kernel] at h
  go_enter Tryz.func14, Tryz.ntmps14
  go_wp2_with fail
  refine (HW.out _).mono ?_
  rintro e w' ⟨v, rfl, hs, hb⟩
  have HS := Lib.hid (And.intro hs hb)
  clear hs hb
  go_wp2_with fail
  go_ret
  exact ⟨_, rfl, HS.out⟩

def numR (s : ByteArray) : Nat := match msgL.findIdx? fun x => decide (x = s) with
  | some i => i + 1
  | none => 0
theorem numR_at {s : ByteArray} {k : Nat} (hk : k < 9) (h : ∀ j, j < k → msgL.getD j ⟨#[]⟩ ≠ s) (he : msgL.getD k ⟨#[]⟩ = s) : numR s = k + 1 := by
  unfold numR
  have h1 : msgL.findIdx? (fun x => decide (x = s)) = some k := by
    rw [List.findIdx?_eq_some_iff_getElem]
    refine ⟨hk, ?_, fun j hj => ?_⟩
    · rw [List.getD_eq_getElem?_getD, List.getElem?_eq_getElem (show k < msgL.length from hk), Option.getD_some] at he
      exact decide_eq_true he
    · have := h j hj
      rw [List.getD_eq_getElem?_getD, List.getElem?_eq_getElem (show j < msgL.length from Nat.lt_trans hj hk), Option.getD_some] at this
      exact (by simpa using this)
  rw [h1]
theorem numR_none {s : ByteArray} (h : ∀ j, j < 9 → msgL.getD j ⟨#[]⟩ ≠ s) : numR s = 0 := by
  unfold numR
  rw [List.findIdx?_eq_none_iff.2 (fun x hx => by
    obtain ⟨j, hj, rfl⟩ := List.getElem_of_mem hx
    have := h j hj
    rw [List.getD_eq_getElem?_getD, List.getElem?_eq_getElem hj, Option.getD_some] at this
    simpa using this)]
/-- The program's number of a name is the document's. -/
theorem num_same (s : ByteArray) : msgNum s = numR s := by
  by_cases h0 : s = ⟨#[]⟩
  · subst h0; decide +kernel
  · unfold msgNum numR msgsL
    rw [List.findIdx?_cons]
    rw [if_neg (by simpa using Ne.symm h0)]
    cases msgL.findIdx? (fun x => decide (x = s)) <;> rfl
set_option maxHeartbeats 2000000 in
theorem refNumber_any (s : ByteArray) (w : World) :
    Calls Tryz.prog 16 #[.string s] w fun e w' => e = .returned (.int .i64 (numR s)) ∧ Below w.heap.size w w' := by
  have HN := Lib.hid (fun W => refNames_any W)
  go_enter Tryz.func16, Tryz.ntmps16
  go_wp2_with fail
  refine (HN.out _).mono ?_
  rintro e w1 ⟨v, rfl, ⟨p, c, b, o, rfl, hp, hc⟩, hb⟩
  obtain ⟨rfl, _, hbw⟩ := hp (by decide)
  have HB := Lib.hid hb
  have HC := Lib.hid hc
  clear hb HN hp hc
  rw [show msgL.length = 9 from rfl]
  go_wp2_with fail
  go_loopw [7] (fun i wr => ∃ k : Nat, k ≤ 9 ∧ i = .int .i64 k ∧ wr = w1 ∧ Hid (∀ j, j < k → msgL.getD j ⟨#[]⟩ ≠ s)) (fun i _ => 9 - (intOf i).toNat)
  case atStart => exact ⟨0, by omega, by go_num, rfl, Lib.hid fun j hj => absurd hj (by omega)⟩
  case round =>
    obtain ⟨k, hk, rfl, rfl, HX⟩ := hrel
    by_cases hlt : k < 9
    · have hltI : (k : Int) < 9 := by omega
      have hck : wr.cell? ⟨b, o + k, none⟩ = some (.string (msgL.getD k ⟨#[]⟩)) := HC.out k hlt
      obtain ⟨x, hx⟩ : ∃ x, msgL.getD k ⟨#[]⟩ = x := ⟨_, rfl⟩
      rw [hx] at hck
      by_cases hxs : x = s
      · have hnum := Lib.hid (numR_at hlt HX.out (hx.trans hxs))
        have heq : (x.toList == s.toList) = true := by rw [hxs]; simp
        clear hxs hx
        go_wp2
        go_ret
        exact ⟨by rw [hnum.out]; rfl, HB.out⟩
      · have hneq := str_neC hxs
        have HN2 : Hid (∀ j, j < k + 1 → msgL.getD j ⟨#[]⟩ ≠ s) := Lib.hid fun j hj => by
          by_cases h : j = k
          · subst h; rw [hx]; exact hxs
          · exact HX.out j (by omega)
        clear hxs hx
        go_wp2
        go_roundw
        case rel => exact ⟨k + 1, by omega, by go_num, trivial, HN2⟩
        case measure => simp [intOf]; omega
    · have hge : ¬ (k : Int) < 9 := by omega
      have hnum := Lib.hid (numR_none (s := s) fun j hj => HX.out j (by omega))
      go_wp2
      go_ret
      exact ⟨by rw [hnum.out]; rfl, HB.out⟩
end Go.Proofs.YtheidjnapoipaaaGreatDoor

namespace Go.Proofs.YtheidjnapoipaaaGreatDoor
open Go.RowKit
set_option linter.unusedVariables false
set_option linter.unusedSimpArgs false
attribute [local go_sem] Oper.semAt_some

theorem Of_in (n : Nat) (m : Int) (w : World) : CallsIn Fence.wide n Tryz.prog 17 #[.int .i64 m] w fun e w' => e = .returned (.func (.func 29) #[] #[.pointer (some ⟨w.heap.size, 0, none⟩)]) ∧ w' = w.alloc (.cells #[.int .i64 m] 3) := by
  refine callsIn_wide.2 ?_
  go_enter Tryz.func17, Tryz.ntmps17
  go_wp2
  go_ret
  exact ⟨rfl, rfl⟩

/-- What lay at the round's beginning lies as it lay, but for two boxes. -/
def KbP (rb nb : Nat) (W0 W : World) : Prop := W0.heap.size ≤ W.heap.size ∧ ∀ k, k < W0.heap.size → k ≠ rb → k ≠ nb → W.heap[k]? = W0.heap[k]?
theorem KbP.below {rb nb : Nat} {W0 W W' : World} (h : KbP rb nb W0 W) (hb : Below W.heap.size W W') : KbP rb nb W0 W' := ⟨Nat.le_trans h.1 hb.size, fun k hk h1 h2 => (hb.block k (Nat.lt_of_lt_of_le hk h.1)).trans (h.2 k hk h1 h2)⟩
/-- What stands within a round: the boxes, whether there was some. -/
structure StP (rb nb bi bf sb i np l : Nat) (rec : Loop) (f : FD) (v : Value) (w W0 : World) (s : Bool) (wr : World) : Prop where
  r0 : Row wr rb 4 [.bool false]
  r1 : Row wr nb 3 [.int .i64 ((np : Int) + 1)]
  r2 : Row wr bi 3 [.int .i64 i]
  r3 : Row wr bf 32 (fieldC f v)
  r4 : Row wr sb 4 [.bool s]
  kb : KbP rb nb W0 wr
  be : Below w.heap.size w wr
  lo : wr.heap[l]? = some (.loop rec)
theorem StP.grown {rb nb bi bf sb i np l : Nat} {rec : Loop} {f : FD} {v : Value} {w W0 : World} {s : Bool} {X Y : World} {row : Option Nat} {B : Nat} (h : StP rb nb bi bf sb i np l rec f v w W0 s X) (hg : X.grownBy Y row) (hr : ∀ r, row = some r → B ≤ r)
    (h0 : rb < B) (h1 : nb < B) (h2 : bi < B) (h3 : bf < B) (h4 : sb < B) (h5 : l < B) (h6 : W0.heap.size ≤ B) (h7 : w.heap.size ≤ B) : StP rb nb bi bf sb i np l rec f v w W0 s Y := by
  have hs : ∀ k, k < B → k < X.heap.size → Y.heap[k]? = X.heap[k]? := fun k hk hl => hg.block k hl (fun e => by have := hr _ e.symm; omega)
  exact ⟨(hs _ h0 h.r0.lt).trans h.r0, (hs _ h1 h.r1.lt).trans h.r1, (hs _ h2 h.r2.lt).trans h.r2, (hs _ h3 h.r3.lt).trans h.r3, (hs _ h4 h.r4.lt).trans h.r4,
    ⟨Nat.le_trans h.kb.1 hg.size, fun k hk a b => (hs k (by omega) (Nat.lt_of_lt_of_le hk h.kb.1)).trans (h.kb.2 k hk a b)⟩,
    ⟨hg.os.trans h.be.os, hg.tape.trans h.be.tape, hg.output.trans h.be.output, Nat.le_trans h.be.size hg.size, fun k hk => (hs k (by omega) (Nat.lt_of_lt_of_le hk h.be.size)).trans (h.be.block k hk)⟩,
    (hs _ h5 (Array.getElem?_eq_some_iff.1 h.lo).1).trans h.lo⟩
theorem StP.below {rb nb bi bf sb i np l : Nat} {rec : Loop} {f : FD} {v : Value} {w W0 : World} {s : Bool} {X Y : World} (h : StP rb nb bi bf sb i np l rec f v w W0 s X) (hb : Below X.heap.size X Y) : StP rb nb bi bf sb i np l rec f v w W0 s Y :=
  ⟨h.r0.below hb h.r0.lt, h.r1.below hb h.r1.lt, h.r2.below hb h.r2.lt, h.r3.below hb h.r3.lt, h.r4.below hb h.r4.lt, h.kb.below hb, h.be.trans (hb.mono h.be.size), (hb.block _ (Array.getElem?_eq_some_iff.1 h.lo).1).trans h.lo⟩
theorem StP.set {rb nb bi bf sb i np l : Nat} {rec : Loop} {f : FD} {v : Value} {w W0 : World} {s : Bool} {X : World} (h : StP rb nb bi bf sb i np l rec f v w W0 s X) (h0 : rb ≠ sb) (h1 : nb ≠ sb) (h2 : bi ≠ sb) (h3 : bf ≠ sb) (h5 : l ≠ sb) (h6 : W0.heap.size ≤ sb) (h7 : w.heap.size ≤ sb) (u : Bool) :
    StP rb nb bi bf sb i np l rec f v w W0 u (X.setCell ⟨sb, 0, none⟩ (.bool u)) :=
  ⟨h.r0.far (by exact h0) _, h.r1.far (by exact h1) _, h.r2.far (by exact h2) _, h.r3.far (by exact h3) _, h.r4.set 0 _,
    ⟨by have := h.kb.1; simpa [World.setCell] using this, fun k hk a b => (Below.heap_setCell X ⟨sb, 0, none⟩ (.bool u) k (by exact Nat.ne_of_lt (Nat.lt_of_lt_of_le hk h6))).trans (h.kb.2 k hk a b)⟩, h.be.setCell (by exact h7) _,
    (Below.heap_setCell X ⟨sb, 0, none⟩ (.bool u) l (by exact h5)).trans h.lo⟩
theorem hit_full (k i : Nat) (f : FD) (hf : f = tblF.getD i fd0) : (ofL k fullF).any (fun x => decide (x.1.name = f.name)) = hitB k i := by rw [hf]; rfl
/-- What stands while the messages are gone through: the boxes, the marks. -/
structure QSt (w : World) (nb : Nat) (Ds : List Nat) (W : World) : Prop where
  r0 : Row W w.heap.size 4 [.bool false]
  r1 : Row W nb 3 [.int .i64 32]
  be : Below w.heap.size w W
  nd : Ds.Nodup
  mks : ∀ D ∈ Ds, W.heap[D]? = some (.deferred (some [])) ∧ w.heap.size < D ∧ nb ≠ D
theorem QSt.grown {w : World} {nb : Nat} {Ds : List Nat} {X Y : World} {row : Option Nat} {B : Nat} (h : QSt w nb Ds X) (hg : X.grownBy Y row) (hr : ∀ r, row = some r → B ≤ r) (h0 : w.heap.size < B) (h1 : nb < B) (h2 : ∀ D ∈ Ds, D < B) : QSt w nb Ds Y := by
  have hs : ∀ k, k < B → k < X.heap.size → Y.heap[k]? = X.heap[k]? := fun k hk hl => hg.block k hl (fun e => by have := hr _ e.symm; omega)
  exact ⟨(hs _ h0 h.r0.lt).trans h.r0, (hs _ h1 h.r1.lt).trans h.r1,
    ⟨hg.os.trans h.be.os, hg.tape.trans h.be.tape, hg.output.trans h.be.output, Nat.le_trans h.be.size hg.size, fun k hk => (hs k (by omega) (Nat.lt_of_lt_of_le hk h.be.size)).trans (h.be.block k hk)⟩, h.nd,
    fun D hD => ⟨(hs D (h2 D hD) (Array.getElem?_eq_some_iff.1 (h.mks D hD).1).1).trans (h.mks D hD).1, (h.mks D hD).2⟩⟩
theorem QSt.below {w : World} {nb : Nat} {Ds : List Nat} {X Y : World} (h : QSt w nb Ds X) (hb : Below X.heap.size X Y) : QSt w nb Ds Y :=
  ⟨h.r0.below hb h.r0.lt, h.r1.below hb h.r1.lt, h.be.trans (hb.mono h.be.size), h.nd, fun D hD => ⟨(hb.block D (Array.getElem?_eq_some_iff.1 (h.mks D hD).1).1).trans (h.mks D hD).1, (h.mks D hD).2⟩⟩
theorem QSt.far {w : World} {nb : Nat} {Ds : List Nat} {X : World} (h : QSt w nb Ds X) (p : Addr) (v : Value) (hp : X.heap.size ≤ p.block ∨ (p.block ≠ w.heap.size ∧ p.block ≠ nb ∧ w.heap.size ≤ p.block ∧ ∀ D ∈ Ds, p.block ≠ D)) : QSt w nb Ds (X.setCell p v) := by
  have hs : ∀ k, k < X.heap.size → (k = w.heap.size ∨ k = nb ∨ k < w.heap.size ∨ k ∈ Ds) → (X.setCell p v).heap[k]? = X.heap[k]? := fun k hl hk => Below.heap_setCell X p v k (by
    rcases hp with h1 | ⟨h1, h2, h3, h4⟩
    · omega
    · rcases hk with rfl | rfl | hk | hk
      · exact Ne.symm h1
      · exact Ne.symm h2
      · omega
      · exact Ne.symm (h4 k hk))
  exact ⟨(hs _ h.r0.lt (.inl rfl)).trans h.r0, (hs _ h.r1.lt (.inr (.inl rfl))).trans h.r1,
    ⟨h.be.os, h.be.tape, h.be.output, by simpa [World.setCell] using h.be.size, fun k hk => (hs k (Nat.lt_of_lt_of_le hk h.be.size) (.inr (.inr (.inl hk)))).trans (h.be.block k hk)⟩, h.nd,
    fun D hD => ⟨(hs D (Array.getElem?_eq_some_iff.1 (h.mks D hD).1).1 (.inr (.inr (.inr hD)))).trans (h.mks D hD).1, (h.mks D hD).2⟩⟩
theorem results_boolC {fn : Func} {p : Tmp} (h : fn.results = #[.cell p 4]) (tmps : Array Value) (w : World) (k : Nat) (e : Bool) (hp : tmps.getD p undef = .pointer (some ⟨k, 0, none⟩)) (hk : Row w k 4 [.bool e]) : (results fn tmps).run Tryz.prog w = .ok (.bool e) w := by
  have hp' : tmps[p]?.getD undef = .pointer (some ⟨k, 0, none⟩) := by simpa using hp
  have h2 : (loadVar 4 ⟨k, 0, none⟩).run Tryz.prog w = .ok (.bool e) w := by
    have hc := hk.cell 0
    simp only [List.getElem?_cons_zero] at hc
    simp [loadVar, go_sem, hc]
  simp [results, h, hp', asAddr, h2, Result.andThen]
theorem OwnK.rowF {β : Type} {B g : Nat} {K : Obj → Prop} {t : TypeId} (l : β → List Value) (hg : g < B) : OwnK B K (fun (s : β) W => Row W g t (l s)) := OwnK.low (fun _ => g) (fun s => .cells (l s).toArray t) (fun _ => hg)
theorem full_idx {pre : List (Nat × FD)} {x : Nat × FD} (h : (pre ++ [x]) <+: fullF) : x.1 = pre.length ∧ x.1 < 32 ∧ x.2 = tblF.getD x.1 fd0 := by
  obtain ⟨r, hr⟩ := h
  have h1 : fullF[pre.length]? = some x := by rw [← hr]; simp
  have hl : pre.length < 32 := by
    have := (List.getElem?_eq_some_iff.1 h1).1
    rwa [fullF_length] at this
  unfold fullF at h1
  rw [List.getElem?_map, List.getElem?_range hl] at h1
  simp only [Option.map_some, Option.some.injEq] at h1
  subst h1
  exact ⟨rfl, hl, rfl⟩

end Go.Proofs.YtheidjnapoipaaaGreatDoor
