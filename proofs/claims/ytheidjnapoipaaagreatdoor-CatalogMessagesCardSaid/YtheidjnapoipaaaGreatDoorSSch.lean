/- The words of a block. -/
import Derived.Deep.DeepCutAuto
import Derived.Deep.WholeRow
import Derived.Lib.Strings
import Derived.RegionTactic
import Derived.BigRegion
import Derived.Test.YtheidjnapoipaaaGreatDoorSSmall
import Derived.Test.YtheidjnapoipaaaGreatDoorGet
namespace Go.Proofs.YtheidjnapoipaaaGreatDoor
open Go.RowKit
set_option linter.unusedVariables false

def z64 : List Value := List.replicate 64 (.int .u32 0)
/-- The words that are there, noughts behind. -/
def wrow (l : List UInt32) : List Value := l.map uv ++ List.replicate (64 - l.length) (.int .u32 0)
theorem wrow_nil : wrow [] = z64 := rfl
theorem wrow_length {l : List UInt32} (h : l.length ≤ 64) : (wrow l).length = 64 := by unfold wrow; simp; omega
theorem wrow_get {l : List UInt32} {i : Nat} (h : i < l.length) : (wrow l)[i]? = some (.int .u32 ((l.getD i 0).toNat : Int)) := by
  unfold wrow
  rw [List.getElem?_append_left (by simpa using h), List.getElem?_map, List.getElem?_eq_getElem h, List.getD_eq_getElem?_getD, List.getElem?_eq_getElem h]
  rfl
theorem wrow_some {l : List UInt32} (hl : l.length ≤ 64) {i : Nat} (h : i < 64) : ∃ v, (wrow l)[i]? = some v := ⟨_, List.getElem?_eq_getElem (by rw [wrow_length hl]; exact h)⟩
theorem wrow_set {l : List UInt32} (h : l.length < 64) (x : UInt32) : (wrow l).set l.length (.int .u32 (x.toNat : Int)) = wrow (l ++ [x]) := by
  unfold wrow
  have e : 64 - l.length = (64 - (l ++ [x]).length) + 1 := by simp; omega
  rw [e, List.replicate_succ, List.set_append_right _ _ (by simp)]
  simp [uv]
theorem wrow_one (l : List UInt32) : (wrow l).toArray.all (·.oneCell') = true := by
  rw [Array.all_eq_true_iff_forall_mem]
  intro v hv
  unfold wrow at hv
  simp only [List.mem_toArray, List.mem_append, List.mem_map, List.mem_replicate] at hv
  rcases hv with ⟨x, _, rfl⟩ | ⟨_, rfl⟩ <;> rfl
theorem firstW_length (l : List UInt8) (n : Nat) : (firstW l n).length = n := by simp [firstW]
theorem firstW_succ (l : List UInt8) (n : Nat) : firstW l (n + 1) = firstW l n ++ [wordAt l n] := by simp [firstW, List.range_succ]
theorem moreW_length (l : List UInt32) (k : Nat) : (moreW l k).length = l.length + k := by
  induction k with
  | zero => rfl
  | succ k ih => simp [moreW, ih]; omega
theorem sched_length (l : List UInt8) : (sched l).length = 64 := by unfold sched; rw [moreW_length, firstW_length]

theorem w64_info : (Tryz.prog.info? 178).map (fun i => (i.zero, i.size)) = some (some (.agg z64.toArray), 64) := by kernel_rfl
theorem w64_size : (Tryz.prog.info? 178).map (·.size) = some 64 := (zero_of_info w64_info).2

/-- The words as a value. -/
def w64v (l : List UInt32) : Value := .agg (wrow l).toArray

theorem word_get (b : ByteArray) (k : Nat) (hb : b.size = 64) (hk : k < 16) : getN (b.extract (k * 4) ((k + 1) * 4)).data.toList = (wordAt b.data.toList k).toNat := by
  have hl : ((b.data.toList.drop (4 * k)).take 4).length = 4 := by
    have h2 : b.data.toList.length = 64 := by simp [hb]
    rw [List.length_take, List.length_drop, h2]; omega
  rw [Lib.extract_data, show (k + 1) * 4 - k * 4 = 4 by omega, show k * 4 = 4 * k by omega]
  unfold getN wordAt
  rw [if_neg (by omega), if_neg (by omega)]
  have hlt := getL_lt ((b.data.toList.drop (4 * k)).take 4)
  rw [hl] at hlt
  simp
  omega
theorem u64_u32 (x : UInt32) : IntKind.u32.wrap (x.toNat : Int) = (x.toNat : Int) := by
  have := u32_lt x
  rw [IntKind.wrap_u32']
  omega

set_option maxRecDepth 3000 in
set_option maxHeartbeats 1000000 in
theorem schedule_any (b : ByteArray) (w : World) (hb : b.size = 64) :
    Calls Tryz.prog 156 #[.string b] w fun e w' => e = .returned (w64v (sched b.data.toList)) ∧ Below w.heap.size w w' := by
  have hz := (zero_of_info w64_info).1
  have hX := u32_xor
  have hD := u32_add
  go_enter Tryz.func156, Tryz.ntmps156
  go_wp2
  have hr0 : Row ((w.alloc (.cells z64.toArray 178)).alloc (.cells z64.toArray 178)) w.heap.size 178 z64 := (Row.new w _ _).alloc _
  have hr1 : Row ((w.alloc (.cells z64.toArray 178)).alloc (.cells z64.toArray 178)) (w.heap.size + 1) 178 (wrow (firstW b.data.toList 0)) := by
    have h := Row.new (w.alloc (.cells z64.toArray 178)) 178 z64
    rw [World.size_alloc] at h
    exact h
  have hb0 : Below w.heap.size w ((w.alloc (.cells z64.toArray 178)).alloc (.cells z64.toArray 178)) := ((Below.refl _ _).alloc (Nat.le_refl _) _).alloc (by simp) _
  generalize (w.alloc (.cells z64.toArray 178)).alloc (.cells z64.toArray 178) = w1 at hr0 hr1 hb0 ⊢
  clear hz
  go_loopw [10] (fun i wr => ∃ k : Nat, k ≤ 16 ∧ i = .int .i64 k ∧ Row wr w.heap.size 178 z64 ∧ Row wr (w.heap.size + 1) 178 (wrow (firstW b.data.toList k)) ∧ Below w.heap.size w wr) (fun i _ => 16 - (intOf i).toNat)
  case atStart => exact ⟨0, Nat.zero_le _, rfl, hr0, hr1, hb0⟩
  case round =>
    obtain ⟨k, hk, rfl, h0, h1, hbl⟩ := hrel
    by_cases hlt : k < 16
    · obtain ⟨v0, hc0⟩ : ∃ v, wr.cell? ⟨w.heap.size + 1, k, none⟩ = some v := by
        rw [h1.cell]; exact wrow_some (by rw [firstW_length]; omega) (by omega)
      have hf0 := h1.frozen k
      have hs0 := h0.far (p := ⟨w.heap.size + 1, k, none⟩) (by simp) (.int .u32 ((wordAt b.data.toList k).toNat : Int))
      have hs1 := h1.set k (.int .u32 ((wordAt b.data.toList k).toNat : Int))
      have hws := wrow_set (l := firstW b.data.toList k) (by rw [firstW_length]; omega) (wordAt b.data.toList k)
      rw [firstW_length, ← firstW_succ] at hws
      rw [hws] at hs1
      have hbs := hbl.setCell (p := ⟨w.heap.size + 1, k, none⟩) (by simp) (.int .u32 ((wordAt b.data.toList k).toNat : Int))
      have H := Lib.hid (And.intro hs0 (And.intro hs1 hbs))
      clear hs0 hs1 hbs h0 h1 hbl hr0 hr1 hb0 hws
      have HG := Lib.hid (word_get b k hb hlt)
      have HZ := Lib.hid hb
      obtain ⟨x, hx⟩ : ∃ x, wordAt b.data.toList k = x := ⟨_, rfl⟩
      rw [hx] at H HG
      have hk64 : (k + 1) * 4 ≤ b.size := by omega
      have hW := u64_u32
      clear hx
      go_wp2_with fail
      refine (Get_any _ _ (by rw [ByteArray.size_extract]; omega)).mono ?_
      rintro e w' ⟨rfl, rfl⟩
      rw [HG.out]
      go_wp2
      go_roundw
      case rel => exact ⟨k + 1, by omega, by go_num, H.out.1, H.out.2.1, H.out.2.2⟩
      case measure => simp [intOf]; omega
    · have hk2 : k = 16 := by omega
      rw [hk2] at h1
      have hge : 16 ≤ k := by omega
      have H0 := Lib.hid h0
      clear h0 hr0 hr1 hb0 hlt hk hk2
      go_wp2
      go_loopw [7] (fun i wr => ∃ j : Nat, 16 ≤ j ∧ j ≤ 64 ∧ i = .int .i64 j ∧ Row wr w.heap.size 178 z64 ∧ Row wr (w.heap.size + 1) 178 (wrow (moreW (firstW b.data.toList 16) (j - 16))) ∧ Below w.heap.size w wr) (fun i _ => 64 - (intOf i).toNat)
      case atStart => exact ⟨16, Nat.le_refl _, by omega, rfl, H0.out, h1, hbl⟩
      case round =>
        obtain ⟨j, hj16, hj, rfl, g0, g1, gb⟩ := hrel
        clear h1 hbl
        by_cases hlt : j < 64
        · obtain ⟨L, hL⟩ : ∃ L, moreW (firstW b.data.toList 16) (j - 16) = L := ⟨_, rfl⟩
          have hLl : L.length = j := by rw [← hL, moreW_length, firstW_length]; omega
          have hnx : moreW (firstW b.data.toList 16) (j + 1 - 16) = L ++ [nextW L] := by
            rw [show j + 1 - 16 = (j - 16) + 1 by omega, moreW, hL]
          have hnw : nextW L = nextW4 (L.getD (j - 16) 0) (L.getD (j - 15) 0) (L.getD (j - 7) 0) (L.getD (j - 2) 0) := by unfold nextW; rw [hLl]
          rw [hL] at g1
          have c15 : wr.cell? ⟨w.heap.size + 1, j - 15, none⟩ = some (.int .u32 ((L.getD (j - 15) 0).toNat : Int)) := by rw [g1.cell]; exact wrow_get (by omega)
          have c2 : wr.cell? ⟨w.heap.size + 1, j - 2, none⟩ = some (.int .u32 ((L.getD (j - 2) 0).toNat : Int)) := by rw [g1.cell]; exact wrow_get (by omega)
          have c16 : wr.cell? ⟨w.heap.size + 1, j - 16, none⟩ = some (.int .u32 ((L.getD (j - 16) 0).toNat : Int)) := by rw [g1.cell]; exact wrow_get (by omega)
          have c7 : wr.cell? ⟨w.heap.size + 1, j - 7, none⟩ = some (.int .u32 ((L.getD (j - 7) 0).toNat : Int)) := by rw [g1.cell]; exact wrow_get (by omega)
          obtain ⟨v0, hc0⟩ : ∃ v, wr.cell? ⟨w.heap.size + 1, j, none⟩ = some v := by
            rw [g1.cell]; exact wrow_some (by omega) hlt
          have hf0 := g1.frozen j
          obtain ⟨p, hp⟩ : ∃ p, L.getD (j - 16) 0 = p := ⟨_, rfl⟩
          obtain ⟨x, hx⟩ : ∃ x, L.getD (j - 15) 0 = x := ⟨_, rfl⟩
          obtain ⟨q, hq⟩ : ∃ q, L.getD (j - 7) 0 = q := ⟨_, rfl⟩
          obtain ⟨y, hy⟩ : ∃ y, L.getD (j - 2) 0 = y := ⟨_, rfl⟩
          rw [hp] at c16 hnw
          rw [hx] at c15 hnw
          rw [hq] at c7 hnw
          rw [hy] at c2 hnw
          have hs0 := fun n => (g0.drewN n).far (p := ⟨w.heap.size + 1, j, none⟩) (by simp) (.int .u32 ((nextW L).toNat : Int))
          have hs1 := fun n => (g1.drewN n).set j (.int .u32 ((nextW L).toNat : Int))
          have hws := wrow_set (l := L) (by omega) (nextW L)
          rw [hLl, ← hnx] at hws
          rw [hws] at hs1
          have hbs := fun n => (below_drewN gb n).setCell (p := ⟨w.heap.size + 1, j, none⟩) (by simp) (.int .u32 ((nextW L).toNat : Int))
          rw [hnw] at hs0 hs1 hbs
          have H := Lib.hid (And.intro hs0 (And.intro hs1 hbs))
          have hsx := u32_shr x 3 (by omega)
          have hsy := u32_shr y 10 (by omega)
          simp only [Int.reducePow] at hsx hsy
          clear hs0 hs1 hbs g0 g1 gb H0 hws hnw hnx hL hp hx hq hy
          go_wp2
          go_quiet (fail)
          go_wp2_with (go_at_call 166; refine (turnI _ _ ?hb _).mono ?_; (case hb => decide); rintro e w' ⟨rfl, rfl⟩)
          go_region
          go_wp2
          go_roundw
          case rel => exact ⟨j + 1, by omega, by omega, by go_num, H.out.1 _, H.out.2.1 _, H.out.2.2 _⟩
          case measure => simp [intOf]; omega
        · have hk2 : j = 64 := by omega
          subst hk2
          have hL : moreW (firstW b.data.toList 16) (64 - 16) = sched b.data.toList := rfl
          rw [hL] at g1
          have hsz : (wrow (sched b.data.toList)).toArray.size = 64 := by rw [List.size_toArray, wrow_length (by rw [sched_length]; omega)]
          have hone := wrow_one (sched b.data.toList)
          have HV := Lib.hid (And.intro hsz hone)
          clear hsz hone hL H0 hlt hj16 hj
          go_wp2_with (first
            | (refine wpList_load_row rfl 178 (.tmp 3) rfl (w.heap.size + 1) rfl 178 (wrow (sched b.data.toList)).toArray (0, 0) _ g1 Tryz.underlying178 rfl (by rw [w64_size, HV.out.1]) ?_)
            | (refine wpList_store_row rfl 178 (.tmp 2) (.tmp 72) rfl w.heap.size (wrow (sched b.data.toList)).toArray rfl rfl 178 z64.toArray g0 (by rw [w64_size, HV.out.1]) (by rw [HV.out.1]; rfl) HV.out.2 ?_))
          have hr := g0.put (wrow (sched b.data.toList))
          have hbs := below_setRow (B := w.heap.size) gb (Nat.le_refl _) (wrow (sched b.data.toList)).toArray
          exact bodyPost_ret (v := w64v (sched b.data.toList)) (results_cell_row rfl _ _ w.heap.size 178 (wrow (sched b.data.toList)).toArray (0, 0) _ rfl hr Tryz.underlying178 rfl (by rw [w64_size, HV.out.1])) rfl ⟨rfl, hbs⟩
end Go.Proofs.YtheidjnapoipaaaGreatDoor
