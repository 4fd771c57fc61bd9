/- The walk of DiskNil. -/
import Derived.Test.YtehoofddklbnaaaKAwk
namespace Go.Proofs.Ytehoofddklbnaaa
open Go.RowKit Go.Maps Go.Shelf
set_option linter.unusedVariables false
set_option linter.unusedSimpArgs false
attribute [local go_sem] Oper.semAt_some

theorem zB_same (W : World) : (Op.equalIn 10000 42 (.agg zB.toArray) (.agg zB.toArray)).run Try.prog W = .ok true W := by
  have h := blk_eqIn z128 (by simp [z128]) W
  rwa [zB_eq] at h

set_option maxRecDepth 100000 in
set_option maxHeartbeats 4000000 in
theorem DiskNil_walk (w : World) :
    Calls Try.prog 5 #[] w fun e w' => e = .returned (.bool true) ∧ Below w.heap.size w w' := by
  refine (callsIn_wide (n := 6)).1 ?_
  refine callsIn_of_wp_marks Try.func5 rfl trivial ?_ rfl
  simp only [Try.ntmps5, List.size_toArray, List.length_cons, List.length_nil, Nat.reduceAdd, Nat.reduceSub, Array.replicate_succ, Array.replicate_zero, List.push_toArray, List.append_toArray, List.nil_append, List.cons_append]
  rw [wpIn_wide]
  go_wp2_with fail
  refine awake11_any.mono ?_
  rintro e w1 ⟨rfl, hb1⟩
  have B1 : Below w.heap.size w w1 := ((Below.refl _ _).alloc (Nat.le_refl w.heap.size) _).trans (hb1.mono (by simp))
  have R1 : Boxed w1 w.heap.size 4 (.bool false) := (hb1.block _ (by simp)).trans (Boxed.new w 4 (.bool false))
  clear hb1
  have HR := Lib.hid (And.intro B1 R1)
  clear B1 R1
  go_wp2_with fail
  refine (Fuse_nil _).mono ?_
  rintro e w' ⟨rfl, rfl⟩
  go_wp2_with fail
  refine (Crash_nil _).mono ?_
  rintro e w' ⟨rfl, rfl⟩
  go_wp2_with fail
  refine ((callsIn_wide (n := 0)).1 (All_in 0 none _)).mono ?_
  rintro e w2 ⟨rfl, rfl⟩
  go_wp2_with fail
  have bN := Boxed.new w1 24 (.pointer none)
  obtain ⟨B1, R1⟩ := HR.out
  have B2 := B1.alloc B1.size (.cells #[.pointer none] 24)
  have R2 := R1.alloc (.cells #[.pointer none] 24)
  generalize w1.alloc (.cells #[.pointer none] 24) = w2 at bN B2 R2 ⊢
  clear HR B1 R1
  rw [← wpIn_wide (n := 6)]
  refine' wpIn_rangeFunc_ownG rfl (by omega) (gf := 31) (lb := #[.pointer (some ⟨w1.heap.size, 0, none⟩)]) rfl trivial (enters_of Try.func31 (by kernel_rfl) rfl)
    (All_stops_nil 5 (by omega) w1.heap.size (fun _ _ => True) _ bN) (fun _ _ => trivial) (fun _ _ _ _ _ _ _ _ => trivial) (Below.refl _ _) (fun _ => rfl)
    (fun pre W => Boxed W w.heap.size 4 (.bool false) ∧ Below w.heap.size w W)
    (fun _ _ _ => False)
    (OwnFrom.and (Own.from (own_box _ _ _) _) (ownFrom_below (Nat.le_refl _) B2.size))
    (fun _ _ _ _ _ hs _ _ => hs)
    ⟨R2, B2⟩
    _ _ _ _ _
  case refine'_1 => exact fun x => absurd x.2 (Nat.not_lt_zero _)
  case refine'_2 =>
    intro l x
    exact absurd x.2 (Nat.not_lt_zero _)
  case refine'_3 =>
    intro l pre x
    exact absurd x.2 (Nat.not_lt_zero _)
  case refine'_5 =>
    rintro D c pre W _ _ h _
    exact h.elim
  case refine'_4 =>
    rintro D ys W hD hys ⟨hv, hB⟩ hK
    have hz := (zero_of_info zB_info).1
    go_wp2_with fail
    refine (Read_nil _).mono ?_
    rintro e w3 ⟨rfl, hb3⟩
    have ha := (Below.refl w3.heap.size w3).alloc (Nat.le_refl _) (.cells zB.toArray 42)
    have hb4 := SB.next hb3 ha
    have r4 := Row.new w3 42 zB
    have H4 := Lib.hid (And.intro hb3 (And.intro r4 (And.intro (blk_sizeA z128 (by simp [z128])) zB_one)))
    rw [zB_eq] at H4
    clear hb3 ha hb4 r4
    go_wp2_with (first
      | (refine wpList_store_row rfl 42 (.tmp 2) (.tmp 17) rfl w3.heap.size zB.toArray rfl rfl 42 zB.toArray H4.out.2.1 H4.out.2.2.1 rfl H4.out.2.2.2 ?_))
    have b5 : SB W ((w3.alloc (Obj.cells zB.toArray 42)).setRow w3.heap.size zB.toArray) := below_setRow (B := W.heap.size) (SB.al H4.out.1 _) H4.out.1.size zB.toArray
    have HB := Lib.hid b5
    have hsame := zB_same
    have B2lt := R2.lt
    clear b5 hys bN B2 R2
    refine (Write_nil 0 zB).mono ?_
    rintro e w6 ⟨rfl, hb6⟩
    have HB6 := Lib.hid (SB.next HB.out hb6)
    clear hb6 HB H4
    go_wp2_with fail
    refine Sync_nil.mono ?_
    rintro e w' ⟨rfl, rfl⟩
    go_wp2_with fail
    refine Sectors_nil.mono ?_
    rintro e w' ⟨rfl, rfl⟩
    go_wp2_with fail
    refine Down_nil.mono ?_
    rintro e w' ⟨rfl, rfl⟩
    go_wp2_with fail
    refine Steps_nil.mono ?_
    rintro e w' ⟨rfl, rfl⟩
    go_wp2_with fail
    refine Hangs_nil.mono ?_
    rintro e w' ⟨rfl, rfl⟩
    go_wp2_with fail
    refine (Lasts_nil 0).mono ?_
    rintro e w7 ⟨rfl, hb7⟩
    have hb := SB.next HB6.out hb7
    have hv7 : Boxed w7 w.heap.size 4 (.bool false) := (hb.block _ hv.lt).trans hv
    have hc := hv7.cell
    have hf := hv7.frozen
    have hK7 : w7.heap[D]? = some (.deferred (some [])) := (hb.block D (Array.getElem?_eq_some_iff.1 hK).1).trans hK
    have hB7 : Below w.heap.size w w7 := hB.trans (hb.mono hB.size)
    have HF := Lib.hid (And.intro hv7 (And.intro hK7 hB7))
    clear hb hv7 hK7 hB7 HB6 hb7
    go_wp2_with fail
    obtain ⟨hv7, hK7, hB7⟩ := HF.out
    have hDg : w.heap.size ≤ D := Nat.le_trans (Nat.le_of_lt B2lt) hD
    have hDD : D ≠ w.heap.size := fun e => by have := Nat.lt_of_lt_of_le B2lt hD; omega
    have hR5 := (hv7.set (.bool true)).cell
    have hK5 : (w7.setCell ⟨w.heap.size, 0, none⟩ (.bool true)).heap[D]? = some (.deferred (some [])) := (Below.heap_setCell w7 ⟨w.heap.size, 0, none⟩ (.bool true) D hDD).trans hK7
    have hR6 : ((w7.setCell ⟨w.heap.size, 0, none⟩ (.bool true)).putObj D (.deferred none)).cell? ⟨w.heap.size, 0, none⟩ = some (.bool true) := by
      have h := (hv7.set (.bool true))
      have h2 : Boxed ((w7.setCell ⟨w.heap.size, 0, none⟩ (.bool true)).putObj D (.deferred none)) w.heap.size 4 (.bool true) := (World.putObj_heap_other (Ne.symm hDD)).trans h
      exact h2.cell
    refine ⟨by simp, .inl ⟨_, _, rfl, run_takeDeferred hK5, ?_⟩⟩
    refine ⟨.bool true, by simp [results, Try.f5, go_sem, hR6], rfl, ?_⟩
    exact (hB7.setCell (p := ⟨w.heap.size, 0, none⟩) (Nat.le_refl _) _).trans (belowK_b (w := w) (Nat.le_refl _) _ D _ _ hDg hK5 rfl rfl)
end Go.Proofs.Ytehoofddklbnaaa
