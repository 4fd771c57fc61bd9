/- The document's sum as a text. -/
import Derived.Deep.OwnRows
import Derived.Test.YtlmbijhkpgolaaaGreatDoorRSum
namespace Go.Proofs.YtlmbijhkpgolaaaGreatDoor
open Go.RowKit
set_option linter.unusedVariables false
theorem u8_info4 : (Tryz.prog.info? 5).map (fun i => (i.zero, i.size, i.bytes)) = some (some (.int .u8 0), 1, 1) := by kernel_rfl
theorem made32 : madeCells #[.int .u8 0] 32 = z32.toArray := by kernel_rfl
/-- The first k bytes, noughts behind. -/
def trow (L : List UInt8) (k : Nat) : List Value := (L.take k).map bv ++ List.replicate (32 - k) (.int .u8 0)
theorem trow_length (L : List UInt8) (hL : L.length = 32) {k : Nat} (h : k ≤ 32) : (trow L k).length = 32 := by unfold trow; simp [hL]; omega
theorem trow_set (L : List UInt8) (hL : L.length = 32) {k : Nat} (h : k < 32) (x : UInt8) (hx : L[k]? = some x) : (trow L k).set k (.int .u8 x.toNat) = trow L (k + 1) := by
  unfold trow
  have hl : ((L.take k).map bv).length = k := by simp [hL]; omega
  have e : 32 - k = (32 - (k + 1)) + 1 := by omega
  rw [e, List.replicate_succ, List.set_append_right _ _ (by omega), hl, Nat.sub_self, List.set_cons_zero, List.take_add_one, hx, List.map_append, List.append_assoc]
  rfl
theorem trow_all (L : List UInt8) (hL : L.length = 32) : trow L 32 = L.map bv := by
  unfold trow
  rw [List.take_of_length_le (by rw [hL]; exact Nat.le_refl _)]
  simp

set_option maxRecDepth 20000 in
set_option maxHeartbeats 4000000 in
theorem refText_any (s : ByteArray) (hs : s.size ≤ 100000) (w : World) :
    Calls Tryz.prog 20 #[.string s] w fun e w' => e = .returned (.string ⟨(shaL s.data.toList).toArray⟩) ∧ Below w.heap.size w w' := by
  obtain ⟨i0, hi0, hz0, hz1, hz2⟩ := info_parts u8_info4
  have HI := Lib.hid (And.intro hi0 (And.intro hz0 (And.intro hz1 hz2)))
  clear hi0 hz0 hz1 hz2
  have HRS := Lib.hid (fun W => refSum_any s hs W)
  have hl := shaL_length s.data.toList
  obtain ⟨L, hL⟩ : ∃ L, shaL s.data.toList = L := ⟨_, rfl⟩
  rw [hL] at HRS hl ⊢
  obtain ⟨cs, hcs⟩ : ∃ cs, L.map bv = cs := ⟨_, rfl⟩
  have e0 : sumV L = .agg cs.toArray := by rw [← hcs]; rfl
  rw [e0] at HRS
  have hcg : ∀ (k : Nat) (x : UInt8), L[k]? = some x → cs[k]? = some (Value.int .u8 x.toNat) := by
    intro k x hx
    rw [← hcs, List.getElem?_map, hx]; rfl
  have hcl : cs.length = 32 := by rw [← hcs, List.length_map, hl]
  have hone : cs.toArray.all (·.oneCell') = true := by
    rw [← hcs, Array.all_eq_true_iff_forall_mem]
    intro v hv
    simp only [List.mem_toArray, List.mem_map] at hv
    obtain ⟨c, _, rfl⟩ := hv
    rfl
  have HC := Lib.hid (And.intro hcg (And.intro hcs hl))
  have HO := Lib.hid (And.intro hcl hone)
  have hz := (zero_of_info s32_info).1
  clear hcg hcs hl hL e0 hcl hone
  go_enter Tryz.func20, Tryz.ntmps20
  go_wp2_with fail
  refine (HRS.out _).mono ?_
  rintro e w1 ⟨rfl, hb1⟩
  have rx := (Row.new w1 56 z32).put cs
  have b1 := below_setRow (B := w.heap.size) (hb1.alloc hb1.size (.cells z32.toArray 56)) hb1.size cs.toArray
  have hg := hb1.size
  have hsz : ((w1.alloc (.cells z32.toArray 56)).setRow w1.heap.size cs.toArray).heap.size = w1.heap.size + 1 := by simp [World.setRow]
  clear hb1
  go_wp2_with (refine wpList_store_row rfl 56 (.tmp 3) (.tmp 7) rfl w1.heap.size cs.toArray rfl rfl 56 z32.toArray (Row.new w1 _ _) (by rw [s32_size, List.size_toArray, HO.out.1]) (by rw [List.size_toArray, List.size_toArray, HO.out.1]; rfl) HO.out.2 ?_)
  generalize (w1.alloc (.cells z32.toArray 56)).setRow w1.heap.size cs.toArray = w2 at rx b1 hsz ⊢
  obtain ⟨gx, hgx⟩ : ∃ g, w1.heap.size = g := ⟨_, rfl⟩
  rw [hgx] at rx hg hsz ⊢
  have r1 := Row.new w2 5 z32
  have rx1 := rx.alloc (.cells z32.toArray 5)
  have b2 := b1.alloc b1.size (.cells z32.toArray 5)
  rw [hsz] at r1
  have HSZ := Lib.hid hsz
  clear hz hgx rx b1 hsz
  have hmk : ∀ W : World, (Instr.makeSlice 43 (.int .i64 32) (.int .i64 32)).run Tryz.prog W = .ok (.slice (some ⟨W.heap.size, 0, none⟩) 32 32) (W.alloc (.cells z32.toArray 5)) := fun W => by
    rw [← made32]
    exact run_make_row 43 5 i0 (.int .u8 0) Tryz.underlying43 HI.out.1 HI.out.2.1 HI.out.2.2.1 rfl .i64 .i64 32 (by rw [HI.out.2.2.2]; decide) (by decide) W
  go_wp2
  have h := hmk w2
  rw [h, HSZ.out]
  clear h hmk
  generalize w2.alloc (.cells z32.toArray 5) = w3 at r1 rx1 b2 ⊢
  clear HSZ
  go_wp2
  go_loopw [5] (fun i wr => ∃ k : Nat, k ≤ 32 ∧ i = .int .i64 k ∧ Row wr (gx + 1) 5 (trow L k) ∧ Row wr gx 56 cs ∧ Below w.heap.size w wr) (fun i _ => 32 - (intOf i).toNat)
  case atStart => exact ⟨0, Nat.zero_le _, rfl, r1, rx1, b2⟩
  case round =>
    obtain ⟨k, hk, rfl, h1, h3, h2⟩ := hrel
    clear r1 rx1 b2
    by_cases hlt : k < 32
    · obtain ⟨x, hx⟩ : ∃ x, L[k]? = some x := ⟨_, List.getElem?_eq_getElem (by rw [HC.out.2.2]; exact hlt)⟩
      have hcx : wr.cell? ⟨gx, k, none⟩ = some (.int .u8 (x.toNat : Int)) := by rw [h3.cell]; exact HC.out.1 k x hx
      obtain ⟨v0, hc0⟩ : ∃ v, wr.cell? ⟨gx + 1, k, none⟩ = some v := by
        rw [h1.cell]; exact ⟨_, List.getElem?_eq_getElem (by rw [trow_length L HC.out.2.2 hk]; exact hlt)⟩
      have hf0 := h1.frozen k
      have hs1 := h1.set k (.int .u8 (x.toNat : Int))
      rw [trow_set L HC.out.2.2 hlt x hx] at hs1
      have hs2 := h2.setCell (p := ⟨gx + 1, k, none⟩) (by show w.heap.size ≤ gx + 1; omega) (.int .u8 (x.toNat : Int))
      have hs3 := h3.far (p := ⟨gx + 1, k, none⟩) (by show gx ≠ gx + 1; omega) (.int .u8 (x.toNat : Int))
      have H := Lib.hid (And.intro hs1 (And.intro hs3 hs2))
      have hkI : (k : Int) < 32 := by omega
      clear hs1 hs2 hs3 h1 h2 h3 hx
      go_wp2
      go_roundw
      case rel => exact ⟨k + 1, by omega, by go_num, H.out.1, H.out.2.1, H.out.2.2⟩
      case measure => simp [intOf]; omega
    · have hk2 : k = 32 := by omega
      rw [hk2, trow_all L HC.out.2.2] at h1
      have hge : 32 ≤ k := by omega
      have hcv := conv_bytes (P := Tryz.prog) wr 43 9 5 Tryz.underlying43 Tryz.underlying5 Tryz.underlying9 (gx + 1) 0 32 32 L HC.out.2.2 (fun i hi => by
        rw [Nat.zero_add, h1.cell])
      have H := Lib.hid h2
      clear hk2 hlt hk h1 h2 h3
      go_wp2
      go_ret
      exact ⟨rfl, H.out⟩
end Go.Proofs.YtlmbijhkpgolaaaGreatDoor
