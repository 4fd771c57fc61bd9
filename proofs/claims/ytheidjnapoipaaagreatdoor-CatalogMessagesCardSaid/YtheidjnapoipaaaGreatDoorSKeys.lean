/- The rounds' constants: the primes gone through, the roots of their cubes. -/
import Derived.RangeFuncNested
import Derived.RangeFuncBound
import Derived.RangeFuncCalls
import Derived.RangeFuncLeaves
import Derived.RangeFuncBox
import Derived.Maps.AppendAt
import Derived.Shelf.Abstract
import Derived.Shelf.RegionOpen
import Derived.WalkKit
import Derived.OwnWalkIn
import Derived.TacticsInMore
import Derived.LoopNIn
import Derived.LoopIn
import Derived.Lib.Hide
import Derived.Lib.OthersKept
import Derived.Test.YtheidjnapoipaaaGreatDoorSCube
import Derived.Test.YtheidjnapoipaaaGreatDoorSSch
import Derived.Test.YtheidjnapoipaaaGreatDoorSPrimesI
import Derived.Test.YtheidjnapoipaaaGreatDoorSKeysL
namespace Go.Proofs.YtheidjnapoipaaaGreatDoor
open Go.RowKit Go.Shelf
set_option linter.unusedVariables false
attribute [local go_sem] Oper.semAt_some

set_option maxRecDepth 100000 in
set_option maxHeartbeats 200000 in
theorem Keys_any (w : World) :
    Calls Tryz.prog 155 #[] w fun e w' => e = .returned (w64v K64) ∧ Below w.heap.size w w' := by
  have hz := (zero_of_info w64_info).1
  refine (callsIn_wide (n := 6)).1 ?_
  refine callsIn_of_wp_marks Tryz.func155 rfl trivial ?_ rfl
  simp only [Tryz.ntmps155, List.size_toArray, List.length_nil, Nat.reduceSub, Array.replicate_succ, Array.replicate_zero, List.push_toArray, List.append_toArray, List.nil_append, List.cons_append]
  rw [wpIn_wide]
  go_wp2_with fail
  refine ((callsIn_wide (n := 0)).1 (primes_in 0 _)).mono ?_
  rintro e w2 ⟨rfl, rfl⟩
  go_wp2_with fail
  have hr0 : Row (((w.alloc (.cells z64.toArray 178)).alloc (.cells z64.toArray 178)).alloc (.cells #[.int .i64 64] 3)) w.heap.size 178 z64 := ((Row.new w _ _).alloc _).alloc _
  have hr1 : Row (((w.alloc (.cells z64.toArray 178)).alloc (.cells z64.toArray 178)).alloc (.cells #[.int .i64 64] 3)) (w.heap.size + 1) 178 (keysL []) := by
    have h := (Row.new (w.alloc (.cells z64.toArray 178)) 178 z64).alloc (.cells #[.int .i64 64] 3)
    rw [World.size_alloc] at h
    exact h
  have hr2 : Row (((w.alloc (.cells z64.toArray 178)).alloc (.cells z64.toArray 178)).alloc (.cells #[.int .i64 64] 3)) (w.heap.size + 2) 3 [.int .i64 64] := by
    have h := Row.new ((w.alloc (.cells z64.toArray 178)).alloc (.cells z64.toArray 178)) 3 [.int .i64 64]
    rw [World.size_alloc, World.size_alloc] at h
    exact h
  have hb0 : Below w.heap.size w (((w.alloc (.cells z64.toArray 178)).alloc (.cells z64.toArray 178)).alloc (.cells #[.int .i64 64] 3)) := (((Below.refl _ _).alloc (Nat.le_refl _) _).alloc (by simp) _).alloc (by simp; omega) _
  have hsz : (((w.alloc (.cells z64.toArray 178)).alloc (.cells z64.toArray 178)).alloc (.cells #[.int .i64 64] 3)).heap.size = w.heap.size + 3 := by simp
  generalize ((w.alloc (.cells z64.toArray 178)).alloc (.cells z64.toArray 178)).alloc (.cells #[.int .i64 64] 3) = wl at hr0 hr1 hr2 hb0 hsz ⊢
  rw [← wpIn_wide (n := 6)]
  refine' wpIn_rangeFunc_ownG rfl (by omega) (gf := 169) (lb := #[.pointer (some ⟨w.heap.size + 2, 0, none⟩)]) rfl trivial (enters_of Tryz.func169 (by kernel_rfl) rfl)
    (primes_stops 5 (by omega) (w.heap.size + 2) _ hr2) keepsP_t (fun W l o o' hl _ _ _ => World.putObj_heap_other (by omega)) (Below.refl _ _) (fun _ => rfl)
    (fun pre W => (Row W w.heap.size 178 z64 ∧ Row W (w.heap.size + 1) 178 (keysL (pre.map Subtype.val))) ∧ Below w.heap.size w W)
    (fun _ _ _ => False)
    (OwnFrom.and (OwnFrom.and (Own.from (own_rowK _ _ (fun _ => z64)) _) (Own.from (own_rowK _ _ (fun pre : List Pr => keysL (pre.map Subtype.val))) _)) (ownFrom_below (Nat.le_refl _) (by omega)))
    (fun _ _ _ _ _ hs _ _ => hs)
    ⟨⟨hr0, hr1⟩, hb0⟩
    _ _ _ _ _
  case refine'_2 =>
    intro l x W K hK
    gi_wp2
    exact hK
  case refine'_5 =>
    rintro D c pre W _ _ h _
    exact h.elim
  case refine'_3 =>
    rintro l' pre x W ⟨⟨g0, g1⟩, hB⟩ hlt
    obtain ⟨hx1, hx2⟩ := pr_lt x
    obtain ⟨v0, hc0⟩ : ∃ v, W.cell? ⟨w.heap.size + 1, x.1.1, none⟩ = some v := by
      rw [g1.cell]; exact ⟨_, List.getElem?_eq_getElem (by rw [keysL_length]; exact hx1)⟩
    have hf0 := g1.frozen x.1.1
    have hs0 := g0.far (p := ⟨w.heap.size + 1, x.1.1, none⟩) (by simp) (.int .u32 ((cubeW x.1.2).toNat : Int))
    have hs1 := g1.set x.1.1 (.int .u32 ((cubeW x.1.2).toNat : Int))
    rw [← keysL_snoc, show pre.map Subtype.val ++ [x.1] = (pre ++ [x]).map Subtype.val by simp] at hs1
    have hs2 := hB.setCell (p := ⟨w.heap.size + 1, x.1.1, none⟩) (by simp) (.int .u32 ((cubeW x.1.2).toNat : Int))
    have H := Lib.hid (And.intro hs0 (And.intro hs1 hs2))
    clear hs0 hs1 hs2 g0 g1 hB
    have HX := Lib.hid (fun W => cubeRoot_any x.1.2 hx2 W)
    gi_wp2_with (refine ⟨trivial, ?_⟩; gi_at_call 164; refine (callsIn_wide.2 (HX.out _)).mono ?_; rintro e w' ⟨rfl, rfl⟩)
    exact ⟨(KeepsOthers.setCell _ _ _).from _, Below.heap_setCell _ _ _ _ (by simp), ⟨H.out.1, H.out.2.1⟩, H.out.2.2⟩
  case refine'_4 =>
    rintro D ys W hD hys ⟨⟨g0, g1⟩, hB⟩ hK
    rw [hys, keysL_all] at g1
    have hDs : w.heap.size + 3 ≤ D := by rw [← hsz]; exact hD
    have hs := wrow_length (l := K64) (by decide)
    have h1 := wrow_one K64
    have HV := Lib.hid (And.intro hs h1)
    obtain ⟨ks, hks⟩ : ∃ ks, wrow K64 = ks := ⟨_, rfl⟩
    rw [hks] at g1 HV
    clear hs h1
    go_wp2_with (first
      | (refine wpList_load_row rfl 178 (.tmp 1) rfl (w.heap.size + 1) rfl 178 ks.toArray (0, 0) _ g1 Tryz.underlying178 rfl (by rw [w64_size, List.size_toArray, HV.out.1]) ?_)
      | (refine wpList_store_row rfl 178 (.tmp 0) (.tmp 11) rfl w.heap.size ks.toArray rfl rfl 178 z64.toArray g0 (by rw [w64_size, List.size_toArray, HV.out.1]) (by rw [List.size_toArray, List.size_toArray, HV.out.1]; rfl) HV.out.2 ?_))
    refine ⟨by simp, .inl ⟨_, _, rfl, run_takeDeferred ((setRow_other W w.heap.size D ks.toArray (by omega)).trans hK), ?_⟩⟩
    refine ⟨w64v K64, results_cell_row rfl _ _ w.heap.size 178 (wrow K64).toArray (0, 0) _ rfl ?hrow Tryz.underlying178 rfl (by rw [w64_size, List.size_toArray, hks, HV.out.1]), rfl, ?hbel⟩
    case hrow =>
      rw [World.putObj_heap_other (by omega), hks]
      exact g0.put ks
    case hbel => exact (below_setRow hB (Nat.le_refl _) ks.toArray).trans ⟨rfl, rfl, rfl, by simp, fun j hj => World.putObj_heap_other (by omega)⟩
end Go.Proofs.YtheidjnapoipaaaGreatDoor
