/- The sum's bytes. -/
import Derived.Test.YtlmbijhkpgolaaaGreatDoorSSum
namespace Go.Proofs.YtlmbijhkpgolaaaGreatDoor
open Go.RowKit
set_option linter.unusedVariables false
theorem bytes8_length (S : S8) : (bytes8 S).length = 32 := by rw [← List.length_map (f := bv), ← sumRow_all, sumRow_length S (Nat.le_refl _)]
theorem shaL_length (l : List UInt8) : (shaL l).length = 32 := bytes8_length _

set_option maxRecDepth 4000 in
set_option maxHeartbeats 2000000 in
theorem Text_any' (bk : Option Addr) (l c : Nat) (T : List UInt8) (w : World) (hG : G w)
    (hJ : ∀ W, Below w.heap.size w W → G W → Calls Tryz.prog 28 #[.slice bk l c] W fun e w' => e = .returned (sumV (shaL T)) ∧ Below W.heap.size W w') :
    Calls Tryz.prog 15 #[.slice bk l c] w fun e w' => e = .returned (.string ⟨(shaL T).toArray⟩) ∧ Below w.heap.size w w' := by
  have hz := (zero_of_info s32_info).1
  have hl := shaL_length T
  obtain ⟨L, hL⟩ : ∃ L, shaL T = L := ⟨_, rfl⟩
  obtain ⟨cs, hcs⟩ : ∃ cs, L.map bv = cs := ⟨_, rfl⟩
  rw [hL] at hl hJ ⊢
  have hcl : cs.length = 32 := by rw [← hcs, List.length_map, hl]
  have hc1 : cs.toArray.all (·.oneCell') = true := by
    rw [← hcs, Array.all_eq_true_iff_forall_mem]
    intro v hv
    simp only [List.mem_toArray, List.mem_map] at hv
    obtain ⟨c, _, rfl⟩ := hv
    rfl
  have ecs : sumV L = .agg cs.toArray := by rw [← hcs]; rfl
  rw [ecs] at hJ
  have HJ := Lib.hid hJ
  have HC := Lib.hid (And.intro hcl (And.intro hc1 (And.intro hcs hl)))
  clear hJ hcl hc1 hcs hl hL ecs
  go_enter Tryz.func15, Tryz.ntmps15
  go_upto_region 2 with (first
    | (go_at_call 28
       refine (HJ.out w (Below.refl _ _) hG).mono ?_
       rintro e w2 ⟨rfl, hb2⟩)
    | (refine wpList_store_row rfl 56 (.tmp 3) (.tmp 5) rfl w2.heap.size cs.toArray rfl rfl 56 z32.toArray (Row.new w2 _ _) (by rw [s32_size, List.size_toArray, HC.out.1]) (by rw [List.size_toArray, List.size_toArray, HC.out.1]; rfl) HC.out.2.1 ?_))
  obtain ⟨w3, hw3⟩ : ∃ w3, (w2.alloc (.cells z32.toArray 56)).setRow w2.heap.size cs.toArray = w3 := ⟨_, rfl⟩
  rw [hw3]
  have r3 : Row w3 w2.heap.size 56 cs := by rw [← hw3]; exact (Row.new w2 56 z32).put cs
  have b3 : Below w.heap.size w w3 := by
    rw [← hw3]
    exact hb2.trans (below_setRow (B := w.heap.size) ((Below.refl _ _).alloc hb2.size _) hb2.size cs.toArray)
  have hsl := fun W => slice_arr_all (P := Tryz.prog) 56 5 32 Tryz.underlying56 Tryz.sizeOf5 w2.heap.size 0 (by omega) W
  have hcv := conv_bytes (P := Tryz.prog) w3 43 9 5 Tryz.underlying43 Tryz.underlying5 Tryz.underlying9 w2.heap.size 0 32 32 L HC.out.2.2.2 (fun i hi => by
    rw [Nat.zero_add, r3.cell, HC.out.2.2.1])
  clear hw3 r3 hb2
  go_wp2
  go_ret
  exact ⟨rfl, b3⟩

theorem Text_any (bk o c : Nat) (xs : List ByteArray) (w : World) (hG : G w) (hcells : ∀ (j : Nat) x, xs[j]? = some x → w.cell? ⟨bk, o + j, none⟩ = some (.string x)) (hbk : bk < w.heap.size) (hN : xs.length ≤ c) (hl : xs.length ≤ 140737488355328)
    (T : List UInt8) (hT : Lib.join (xs.map (·.data.toList)) [] = T) (hTl : T.length ≤ 140737488355000) :
    Calls Tryz.prog 15 #[.slice (some ⟨bk, o, none⟩) xs.length c] w fun e w' => e = .returned (.string ⟨(shaL T).toArray⟩) ∧ Below w.heap.size w w' :=
  Text_any' _ _ _ T w hG fun W hb hg => Sum_any bk o c xs W hg (fun j x hx => (hb.cell (p := ⟨bk, o + j, none⟩) hbk).trans (hcells j x hx)) (Nat.lt_of_lt_of_le hbk hb.size) hN hl T hT hTl
theorem Text_none (a : Option Addr) (c : Nat) (w : World) (hG : G w) :
    Calls Tryz.prog 15 #[.slice a 0 c] w fun e w' => e = .returned (.string ⟨(shaL []).toArray⟩) ∧ Below w.heap.size w w' :=
  Text_any' _ _ _ [] w hG fun W hb hg => Sum_none a c W hg
end Go.Proofs.YtlmbijhkpgolaaaGreatDoor
