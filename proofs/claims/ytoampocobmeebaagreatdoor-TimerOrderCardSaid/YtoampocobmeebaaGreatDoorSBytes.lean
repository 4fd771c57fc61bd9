/- The sum's bytes; what stands behind a text. -/
import Derived.Lib.BufferWrite
import Derived.Test.YtoampocobmeebaaGreatDoorSMix
import Derived.Test.YtoampocobmeebaaGreatDoorPut
import Derived.Test.YtoampocobmeebaaGreatDoorShelf
namespace Go.Proofs.YtoampocobmeebaaGreatDoor
open Go.RowKit
set_option linter.unusedVariables false

/-- A text laid over a row from place o on. -/
def over (cur : List Value) (o : Nat) (l : List UInt8) : List Value := cur.take o ++ l.map bv ++ cur.drop (o + l.length)
theorem copy_row {P : Program} {W : World} (dT sT ty elem : TypeId) (g o dLen dCap : Nat) (s : ByteArray) (cur : List Value) (t : TypeId)
    (hu : P.underlying dT = some (.slice elem)) (hs : (P.info? elem).map (·.size) = some 1) (h : Row W g t cur) (hle : s.size ≤ dLen) (hfit : o + s.size ≤ cur.length) :
    (Builtin.copy_ #[dT, sT] ty #[.slice (some ⟨g, o, none⟩) dLen dCap, .string s]).run P W = .ok (goInt s.size) (W.setRow g (over cur o s.data.toList).toArray) := by
  have := Lib.run_copy_row_string (P := P) W dT sT ty elem g o dLen dCap s cur.toArray t hu hs h hle (by simpa using hfit)
  rw [this]
  unfold over
  have e : s.data.toList.length = s.size := by simp
  rw [e]
  rfl

/-- An array's row, sliced from a place on. -/
theorem slice_arr {P : Program} (t e : TypeId) (n : Nat) (ht : P.underlying t = some (.array n e)) (hz : ∀ W, (sizeOf e).run P W = .ok 1 W) (g off l : Nat) (li : Int) (hli : li = l) (hl : l < n) (W : World) :
    (Instr.sliceAt t (.pointer (some ⟨g, off, none⟩)) (some (.int .i64 li)) none none).run P W = .ok (.slice (some ⟨g, off + l, none⟩) (n - l) (n - l)) W := by
  subst hli
  have hn : P.arrayLen t = n := by simp [Program.arrayLen, ht]
  have he : P.elem t = e := by simp [Program.elem, ht]
  rw [run_sliceAt_array_l (P := P) W t ⟨g, off, none⟩ (by rw [hn, he]; exact ht) .i64 (l : Int) (by omega) (by rw [hn]; omega), he, hz, hn]
  have hadd : (⟨g, off, none⟩ : Addr).add l = ⟨g, off + l, none⟩ := by unfold Addr.add; split <;> simp_all
  simp only [Result.andThen_ok, slicedAt, Int.toNat_natCast, if_neg (by omega : ¬ n = l), Nat.mul_one, hadd]

/-- The bytes of the first k words. -/
def wr8 (s : S8) : Nat → List UInt8
  | 0 => []
  | k + 1 => wr8 s k ++ putL (at8 s k).toNat 4
theorem wr8_length (s : S8) (k : Nat) : (wr8 s k).length = 4 * k := by
  induction k with
  | zero => rfl
  | succ k ih => simp [wr8, ih, putL_length]; omega
theorem wr8_all (s : S8) : wr8 s 8 = bytes8 s := by simp [wr8, bytes8, at8]

/-- The row of the sum behind k words. -/
def sumRow (s : S8) (k : Nat) : List Value := (wr8 s k).map bv ++ List.replicate (32 - 4 * k) (.int .u8 0)
theorem sumRow_length (s : S8) {k : Nat} (h : k ≤ 8) : (sumRow s k).length = 32 := by simp [sumRow, wr8_length]; omega
theorem sumRow_over (s : S8) {k : Nat} (h : k < 8) : over (sumRow s k) (k * 4) (putL (at8 s k).toNat 4) = sumRow s (k + 1) := by
  unfold over sumRow
  have h1 : ((wr8 s k).map bv).length = k * 4 := by simp [wr8_length]; omega
  rw [List.take_left' h1, putL_length]
  have h2 : 32 - 4 * k = 4 + (32 - 4 * (k + 1)) := by omega
  rw [List.drop_append, h1, List.drop_of_length_le (by omega), List.nil_append, List.drop_replicate, wr8, List.map_append]
  congr 2
  omega
theorem sumRow_all (s : S8) : sumRow s 8 = (bytes8 s).map bv := by unfold sumRow; rw [wr8_all]; simp

/-- A sum as a value. -/
def sumV (l : List UInt8) : Value := .agg (l.map bv).toArray

def z32 : List Value := List.replicate 32 (.int .u8 0)
theorem s32_info : (Tryz.prog.info? 109).map (fun i => (i.zero, i.size)) = some (some (.agg z32.toArray), 32) := by kernel_rfl
theorem s32_size : (Tryz.prog.info? 109).map (·.size) = some 32 := (zero_of_info s32_info).2

set_option maxRecDepth 4000 in
set_option maxHeartbeats 1000000 in
theorem written_any (s : S8) (w : World) :
    Calls Tryz.prog 80 #[s8v s] w fun e w' => e = .returned (sumV (bytes8 s)) ∧ Below w.heap.size w w' := by
  have hz := (zero_of_info s32_info).1
  rw [s8v_eq]
  have hr0 : Row (((w.alloc (.cells #[.int .u32 s.a.toNat, .int .u32 s.b.toNat, .int .u32 s.c.toNat, .int .u32 s.d.toNat, .int .u32 s.e.toNat, .int .u32 s.f.toNat, .int .u32 s.g.toNat, .int .u32 s.h.toNat] 122)).alloc (.cells z32.toArray 109)).alloc (.cells z32.toArray 109)) (w.heap.size + 1) 109 z32 := by
    have h := (Row.new (w.alloc (.cells #[.int .u32 s.a.toNat, .int .u32 s.b.toNat, .int .u32 s.c.toNat, .int .u32 s.d.toNat, .int .u32 s.e.toNat, .int .u32 s.f.toNat, .int .u32 s.g.toNat, .int .u32 s.h.toNat] 122)) 109 z32).alloc (.cells z32.toArray 109)
    rw [World.size_alloc] at h
    exact h
  have hr1 : Row (((w.alloc (.cells #[.int .u32 s.a.toNat, .int .u32 s.b.toNat, .int .u32 s.c.toNat, .int .u32 s.d.toNat, .int .u32 s.e.toNat, .int .u32 s.f.toNat, .int .u32 s.g.toNat, .int .u32 s.h.toNat] 122)).alloc (.cells z32.toArray 109)).alloc (.cells z32.toArray 109)) (w.heap.size + 2) 109 (sumRow s 0) := by
    have h := Row.new ((w.alloc (.cells #[.int .u32 s.a.toNat, .int .u32 s.b.toNat, .int .u32 s.c.toNat, .int .u32 s.d.toNat, .int .u32 s.e.toNat, .int .u32 s.f.toNat, .int .u32 s.g.toNat, .int .u32 s.h.toNat] 122)).alloc (.cells z32.toArray 109)) 109 z32
    rw [World.size_alloc, World.size_alloc] at h
    exact h
  have hb0 : Below w.heap.size w (((w.alloc (.cells #[.int .u32 s.a.toNat, .int .u32 s.b.toNat, .int .u32 s.c.toNat, .int .u32 s.d.toNat, .int .u32 s.e.toNat, .int .u32 s.f.toNat, .int .u32 s.g.toNat, .int .u32 s.h.toNat] 122)).alloc (.cells z32.toArray 109)).alloc (.cells z32.toArray 109)) := (((Below.refl _ _).alloc (Nat.le_refl _) _).alloc (by simp) _).alloc (by simp; omega) _
  have hC := Lib.hid (And.intro hr0 (And.intro hr1 hb0))
  clear hr0 hr1 hb0
  go_enter Tryz.func80, Tryz.ntmps80
  go_wp2_with fail
  obtain ⟨hr0, hr1, hb0⟩ := hC.out
  generalize (((w.alloc (.cells #[.int .u32 s.a.toNat, .int .u32 s.b.toNat, .int .u32 s.c.toNat, .int .u32 s.d.toNat, .int .u32 s.e.toNat, .int .u32 s.f.toNat, .int .u32 s.g.toNat, .int .u32 s.h.toNat] 122)).alloc (.cells z32.toArray 109)).alloc (.cells z32.toArray 109)) = w1 at hr0 hr1 hb0 ⊢
  clear hC hz
  go_loopw [7] (fun i wr => ∃ k : Nat, k ≤ 8 ∧ i = .int .i64 k ∧ Row wr (w.heap.size + 1) 109 z32 ∧ Row wr (w.heap.size + 2) 109 (sumRow s k) ∧ Below w.heap.size w wr) (fun i _ => 8 - (intOf i).toNat)
  case atStart => exact ⟨0, Nat.zero_le _, rfl, hr0, hr1, hb0⟩
  case round =>
    obtain ⟨k, hk, rfl, h0, h1, hb⟩ := hrel
    clear hr0 hr1 hb0
    by_cases hlt : k < 8
    · have hix := fun W' => run_index_agg (P := Tryz.prog) 122 121 8 (s8l s).toArray k _ Tryz.underlying122 hlt (by rw [List.getElem?_toArray]; exact at8_get s hlt) W' (Tryz.sizeOf121 W') (Tryz.isAgg121 W')
      have e8 : (s8l s).toArray = #[.int .u32 s.a.toNat, .int .u32 s.b.toNat, .int .u32 s.c.toNat, .int .u32 s.d.toNat, .int .u32 s.e.toNat, .int .u32 s.f.toNat, .int .u32 s.g.toNat, .int .u32 s.h.toNat] := rfl
      rw [e8] at hix
      clear e8
      have hov := sumRow_over s hlt
      obtain ⟨x, hx⟩ : ∃ x, at8 s k = x := ⟨_, rfl⟩
      rw [hx] at hix hov
      have hxl := u32_lt x
      have HP : Hid (∀ W : World, Calls Tryz.prog 88 #[.int .u64 x.toNat, .int .i64 4] W fun e w' => e = .returned (.string ⟨(putL x.toNat 4).toArray⟩) ∧ Below W.heap.size W w') := Lib.hid (fun W => Put_any x.toNat 4 W (by omega))
      have HR := Lib.hid (And.intro h0 (And.intro h1 (And.intro hb hov)))
      clear h0 h1 hb hov hx
      have hsl := fun W => slice_arr (P := Tryz.prog) 109 5 32 Tryz.underlying109 Tryz.sizeOf5 (w.heap.size + 1 + 1) 0 (k * 4) ((k : Int) * 4) (by omega) (by omega) W
      go_wp2_with fail
      refine region_tail 6 (Below wr.heap.size wr) (by kernel_rfl) (by kernel_rfl) rfl (below_drewN (Below.refl _ _) 1) ?_
      simp only [List.take_succ_cons, List.take_zero]
      repeat (go_big_quiet_step ((first
        | (intro hC; with_reducible rfl)
        | (intro hC; go_at_call 88; refine (HP.out _).mono ?_; rintro e w'' ⟨rfl, hb⟩; exact ⟨rfl, hC.trans (hb.mono hC.size)⟩))))
      refine wpQuiet_nil ?_
      intro w7 hw7
      have hT7 := HR.out.2.1.below hw7 HR.out.2.1.lt
      have hcp := copy_row (P := Tryz.prog) 79 9 3 5 (w.heap.size + 1 + 1) (k * 4) (32 - k * 4) (32 - k * 4) ⟨(putL x.toNat 4).toArray⟩ (sumRow s k) 109 Tryz.underlying79 (by kernel_rfl) hT7 (by show (putL x.toNat 4).toArray.size ≤ _; rw [List.size_toArray, putL_length]; omega) (by rw [sumRow_length s hk]; show _ + (putL x.toNat 4).toArray.size ≤ _; rw [List.size_toArray, putL_length]; omega)
      have hr1 := hT7.put (sumRow s (k + 1))
      have hr0 := (HR.out.1.below hw7 HR.out.1.lt).put_far (g' := w.heap.size + 2) (by omega) (sumRow s (k + 1)).toArray
      have hrb := below_setRow (B := w.heap.size) (HR.out.2.2.1.trans (hw7.mono HR.out.2.2.1.size)) (by omega : w.heap.size ≤ w.heap.size + 2) (sumRow s (k + 1)).toArray
      have ed : ((⟨(putL x.toNat 4).toArray⟩ : ByteArray)).data.toList = putL x.toNat 4 := rfl
      rw [ed, HR.out.2.2.2] at hcp
      have HV := Lib.hid (And.intro hr1 (And.intro hr0 hrb))
      clear hr1 hr0 hrb ed hT7 hw7
      go_wp2
      go_roundw
      case rel => exact ⟨k + 1, by omega, by go_num, HV.out.2.1, HV.out.1, HV.out.2.2⟩
      case measure => simp [intOf]; omega
    · have hk2 : k = 8 := by omega
      rw [hk2, sumRow_all] at h1
      have hge : 8 ≤ k := by omega
      have hl : ((bytes8 s).map bv).length = 32 := by rw [← sumRow_all, sumRow_length s (Nat.le_refl _)]
      have hone : ((bytes8 s).map bv).toArray.all (·.oneCell') = true := by
        rw [Array.all_eq_true_iff_forall_mem]
        intro v hv
        simp only [List.mem_toArray, List.mem_map] at hv
        obtain ⟨c, _, rfl⟩ := hv
        rfl
      obtain ⟨cs, hcs⟩ : ∃ cs, (bytes8 s).map bv = cs := ⟨_, rfl⟩
      rw [hcs] at h1 hl hone
      have HV := Lib.hid (And.intro hl (And.intro hone hcs))
      clear hk2 hlt hk hl hone hcs
      go_wp2_with (first
        | (refine wpList_load_row rfl 109 (.tmp 3) rfl (w.heap.size + 2) rfl 109 cs.toArray (0, 0) _ h1 Tryz.underlying109 rfl (by rw [s32_size, List.size_toArray, HV.out.1]) ?_)
        | (refine wpList_store_row rfl 109 (.tmp 2) (.tmp 19) rfl (w.heap.size + 1) cs.toArray rfl rfl 109 z32.toArray h0 (by rw [s32_size, List.size_toArray, HV.out.1]) (by rw [List.size_toArray, List.size_toArray, HV.out.1]; rfl) HV.out.2.1 ?_))
      have hr := h0.put cs
      have hbs := below_setRow (B := w.heap.size) hb (by omega : w.heap.size ≤ w.heap.size + 1) cs.toArray
      exact bodyPost_ret (v := .agg cs.toArray) (results_cell_row rfl _ _ (w.heap.size + 1) 109 cs.toArray (0, 0) _ rfl hr Tryz.underlying109 rfl (by rw [s32_size, List.size_toArray, HV.out.1])) rfl ⟨by unfold sumV; rw [HV.out.2.2], hbs⟩

/-- What stands behind n bytes, as a text. -/
theorem repeat_nought (c : Nat) : Lib.repeatL [0] c = List.replicate c (0 : UInt8) := by
  have := Lib.repeatL_replicate 0 1 c
  rwa [Nat.mul_one] at this
theorem endL_length (n : Nat) : (endL n).length = 9 + (119 - n % 64) % 64 := by unfold endL; simp [putL_length]; omega

set_option maxHeartbeats 1000000 in
theorem ending_any (n : Nat) (w : World) (hn : n ≤ 140737488355328) :
    Calls Tryz.prog 94 #[.int .u64 n] w fun e w' => e = .returned (.string ⟨(endL n).toArray⟩) ∧ Below w.heap.size w w' := by
  obtain ⟨c, hc⟩ : ∃ c, (119 - n % 64) % 64 = c := ⟨_, rfl⟩
  have hc64 : c < 64 := by omega
  have hce : (128 - ((n : Int) % 64 + 1 + 8)) % 64 = (c : Int) := by omega
  have hend : endL n = ([128] ++ List.replicate c 0) ++ putL (n * 8) 8 := by unfold endL; rw [hc]; simp
  have HR : Hid (∀ W : World, Calls Tryz.prog 77 #[.string ⟨#[0]⟩, .int .i64 c] W fun e w' => e = .returned (.string ⟨(List.replicate c 0).toArray⟩) ∧ Below W.heap.size W w') := Lib.hid fun W => by
    have h := Tryz.strings_Repeat ⟨#[0]⟩ c W (by omega) (by show 1 * c ≤ _; omega)
    rw [show (⟨#[0]⟩ : ByteArray).data.toList = [0] from rfl, repeat_nought] at h
    exact h
  have HP : Hid (∀ W : World, Calls Tryz.prog 88 #[.int .u64 ((n : Int) * 8), .int .i64 8] W fun e w' => e = .returned (.string ⟨(putL (n * 8) 8).toArray⟩) ∧ Below W.heap.size W w') := Lib.hid fun W => by
    have h := Put_any (n * 8) 8 W (by omega)
    rw [show ((n * 8 : Nat) : Int) = (n : Int) * 8 by omega] at h
    exact h
  obtain ⟨a0, h0⟩ : ∃ a0 : ByteArray, ⟨(List.replicate c (0 : UInt8)).toArray⟩ = a0 := ⟨_, rfl⟩
  obtain ⟨a1, h1⟩ : ∃ a1 : ByteArray, ⟨(putL (n * 8) 8).toArray⟩ = a1 := ⟨_, rfl⟩
  have hs0 : a0.size ≤ 64 := by rw [← h0]; show (List.replicate c (0 : UInt8)).toArray.size ≤ 64; simp; omega
  have hs1 : a1.size ≤ 64 := by rw [← h1]; show (putL (n * 8) 8).toArray.size ≤ 64; simp [putL_length]
  have hdone : (⟨#[128]⟩ ++ a0 ++ a1 : ByteArray) = ⟨(endL n).toArray⟩ := by
    apply ByteArray.ext
    apply Array.ext'
    rw [hend, ← h0, ← h1]
    simp
  rw [h0] at HR
  rw [h1] at HP
  have ha0 : ∀ W : World, (Op.stringOp .add ⟨#[128]⟩ a0).run Tryz.prog W = .ok (.string (⟨#[128]⟩ ++ a0)) W := fun W => run_string_add_sum W _ a0 (by show 1 + a0.size ≤ _; omega)
  obtain ⟨a2, h2⟩ : ∃ a2 : ByteArray, (⟨#[128]⟩ ++ a0 : ByteArray) = a2 := ⟨_, rfl⟩
  have hs2 : a2.size ≤ 65 := by rw [← h2, ByteArray.size_append]; show 1 + a0.size ≤ 65; omega
  rw [h2] at ha0 hdone
  have ha1 : ∀ W : World, (Op.stringOp .add a2 a1).run Tryz.prog W = .ok (.string (a2 ++ a1)) W := fun W => run_string_add_sum W a2 a1 (by omega)
  rw [hdone] at ha1
  clear h0 h1 h2 hdone hend hc hs0 hs1 hs2
  go_enter Tryz.func94, Tryz.ntmps94
  go_wp2_with (first
    | (go_at_call 77; refine (HR.out _).mono ?_; rintro e w1 ⟨rfl, hb1⟩)
    | (go_at_call 88; refine (HP.out _).mono ?_; rintro e w2 ⟨rfl, hb2⟩))
  go_ret
  exact ⟨rfl, hb1.trans (hb2.mono hb1.size)⟩
end Go.Proofs.YtoampocobmeebaaGreatDoor
