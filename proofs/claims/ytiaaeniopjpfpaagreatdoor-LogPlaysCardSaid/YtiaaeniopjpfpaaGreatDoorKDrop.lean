/- Nothing hangs any more; a new disk. -/
import Derived.Test.YtiaaeniopjpfpaaGreatDoorKSmall
namespace Go.Proofs.YtiaaeniopjpfpaaGreatDoor
open Go.RowKit Go.Maps
set_option linter.unusedVariables false

/-- 'clear(m)'. -/
theorem own_clear {H : Type} {P : Program} {w : World} {t k e : TypeId} {R : Value → Option (DataW H × List MemPlace)} {b n : Nat} {D : DataW H} (hown : w.ownsMap P k R b n D) (ht : P.underlying t = some (.map k e)) :
    ∃ w', (∀ ty : TypeId, (Builtin.clear_ #[t] ty #[.map (some b)]).run P w = .ok (.tuple #[]) w') ∧ w'.ownsMap P k R b 0 (.map []) ∧ w.grownBy w' (some b) := by
  obtain ⟨es, clock, hb, F, hs, rfl⟩ := hown
  refine ⟨ChangeMaps.setBlock w b (.map #[] clock), fun ty => ?_, ⟨#[], clock, ChangeMaps.heap_setBlock_same hb _, ⟨by simp, MapKept.stamped_empty clock, by simp⟩, Nat.le_refl _, rfl⟩, ⟨rfl, rfl, rfl, by simp [ChangeMaps.setBlock], fun i _ hi => ChangeMaps.heap_setBlock_other hb _ (fun e => hi (by rw [e]))⟩⟩
  simp [Builtin.clear_, run_underlying ht, MapKept.run_getObj_map hb, MapKept.run_setObj_map _ hb, Result.andThen, ChangeMaps.setBlock]
section
variable {L : Nat → Prop} {w w' : World} {p gl gm : Nat} {hv : Value} {Dm : DataW Unit} {D D' : DS}
set_option maxRecDepth 4000 in
theorem drop_any (h : DiskAt L w p gl gm hv Dm D) :
    Calls Tryz.prog 122 #[.pointer (some ⟨p, 0, none⟩)] w fun e w' => e = .returned (.tuple #[]) ∧ DiskAt L w' p gl gm (.slice none 0 0) (.map []) { D with hangs := [] } ∧ Keeps L w w' := by
  have H := Lib.hid h
  have c2 := h.row.cell 2
  simp only [List.getElem?_cons_zero, List.getElem?_cons_succ] at c2
  obtain ⟨w1, hrun, hown1, hg1⟩ := own_clear (P := Tryz.prog) (t := 78) h.mp Tryz.underlying78
  have r1 : Row w1 p 81 _ := (hg1.block p h.row.lt (fun e => h.ne_mp (by injection e with e; exact e.symm))).trans h.row
  have c1 := r1.cell 1
  have f1 := r1.frozen 1
  simp only [List.getElem?_cons_zero, List.getElem?_cons_succ] at c1
  have R1 := Lib.hid r1
  have O1 := Lib.hid (And.intro hown1 hg1)
  clear h r1 hown1 hg1
  go_enter Tryz.func122, Tryz.ntmps122
  go_wp2
  go_end0
  refine ⟨rfl, ⟨?_, ?_, ⟨by simp [wcs_nil], .inl ⟨rfl, rfl⟩⟩, ?_, newest_nil, ?_, H.out.fp, H.out.fl, H.out.fm, fun g hg => by simp [Value.ownBlock] at hg⟩, ?_⟩
  · have := R1.out.set 1 (.slice none 0 0)
    simpa using this
  · refine (Below.heap_setCell _ _ _ _ (fun e => H.out.ne_lp e)).trans ((O1.out.2.block gl H.out.las.lt (fun e => H.out.ne_ml (by injection e with e; exact e.symm))).trans H.out.las)
  · exact map_kept O1.out.1 (Below.heap_setCell _ _ _ _ (fun e => H.out.ne_mp e))
  · have hg := H.out.good
    exact ⟨hg.least, hg.most, hg.rows, (fun x hx => by cases hx), (fun x hx => by cases hx), hg.fuse1, hg.fuse2⟩
  · exact ((Keeps.refl L w).grown O1.out.2 (fun g hg => by injection hg with hg; subst hg; exact .inl H.out.fm)).setCell (p := ⟨p, 1, none⟩) (.inl H.out.fp) _
end

/-- What is made, at the start. -/
def newDS (n : Nat) : DS := ⟨List.replicate n z128, [], -1, 0, false⟩
theorem newDS_ok (n : Nat) (h1 : 16 ≤ n) (h2 : n ≤ 4096) : (newDS n).ok :=
  ⟨by simpa [newDS] using h1, by simpa [newDS] using h2, (fun b hb => by simp [newDS] at hb; rw [hb.2]; rfl), (fun x hx => by cases hx), (fun x hx => by cases hx), (by show _ ≤ (-1 : Int); omega), (by show (-1 : Int) ≤ _; omega)⟩
theorem newDS_cells (n : Nat) : (newDS n).lasts.flatten.map bv = List.replicate (n * 128) (.int .u8 0) := by
  show (List.replicate n z128).flatten.map bv = _
  unfold z128
  rw [List.flatten_replicate_replicate, List.map_replicate]
  rfl
theorem blk_info : (Tryz.prog.info? 90).map (fun i => (i.zero.map (·.cells), i.size, i.bytes)) = some (some (Array.replicate 128 (.int .u8 0)), 128, 128) := by kernel_rfl
theorem blk_infoP : ∃ i z, Tryz.prog.info? 90 = some i ∧ i.zero = some z ∧ z.cells = Array.replicate 128 (.int .u8 0) ∧ i.size = 128 ∧ i.bytes = 128 := by
  have h := blk_info
  cases hi : Tryz.prog.info? 90 with
  | none => rw [hi] at h; cases h
  | some i =>
    rw [hi] at h
    simp only [Option.map_some, Option.some.injEq, Prod.mk.injEq] at h
    obtain ⟨h1, h2, h3⟩ := h
    cases hz : i.zero with
    | none => rw [hz] at h1; cases h1
    | some z => rw [hz] at h1; simp only [Option.map_some, Option.some.injEq] at h1; exact ⟨i, z, rfl, hz, h1, h2, h3⟩
theorem made_rep (v : Value) (k : Nat) (hk : 0 < k) (n : Nat) : madeCells (Array.replicate k v) n = Array.replicate n v := by
  apply Array.ext
  · simp [size_madeCells]
  · intro i h1 h2
    simp [madeCells, Nat.mod_lt _ hk]
/-- 'make([]api.Block, n)'. -/
theorem make_blocks (n : Nat) (hn : n ≤ 4096) (w : World) : (Instr.makeSlice 42 (.int .i64 (n : Int)) (.int .i64 (n : Int))).run Tryz.prog w = .ok (.slice (some ⟨w.heap.size, 0, none⟩) n n) (w.alloc (.cells (Array.replicate (n * 128) (.int .u8 0)) 90)) := by
  obtain ⟨i, z, hi, hz, hc, hs, hb⟩ := blk_infoP
  have hr := run_make (P := Tryz.prog) w 42 90 i z Tryz.underlying42 hi hz .i64 .i64 n n (by omega) (by omega) (by rw [hb]; omega) (by omega)
  simp only [Int.toNat_natCast] at hr
  rw [hr, hc, hs, made_rep _ _ (by omega)]

set_option maxRecDepth 4000 in
theorem New_no (n : Int) (hn : n < 16 ∨ 4096 < n) (w : World) :
    Calls Tryz.prog 9 #[.int .i64 n] w fun e w' => e = .returned (.tuple #[.pointer none, .int .i64 2]) ∧ w = w' := by
  rcases hn with h | h
  · go_enter Tryz.func9, Tryz.ntmps9
    go_wp2
    go_ret2
    exact ⟨rfl, rfl⟩
  · have h' : ¬ n < 16 := by omega
    go_enter Tryz.func9, Tryz.ntmps9
    go_wp2
    go_ret2
    exact ⟨rfl, rfl⟩

def NewPost (n : Nat) (w : World) (e : Ending) (w' : World) : Prop := e = .returned (.tuple #[.pointer (some ⟨w.heap.size + 2, 0, none⟩), .int .i64 0]) ∧ (∀ L : Nat → Prop, (∀ k, L k → k < w.heap.size) → DiskAt L w' (w.heap.size + 2) w.heap.size (w.heap.size + 1) (.slice none 0 0) (.map []) (newDS n)) ∧ Below w.heap.size w w'
set_option maxRecDepth 4000 in
theorem New_any (n : Nat) (h1 : 16 ≤ n) (h2 : n ≤ 4096) (w : World) :
    Calls Tryz.prog 9 #[.int .i64 n] w (NewPost n w) := by
  have h1I : ¬ (n : Int) < 16 := by omega
  have h2I : ¬ 4096 < (n : Int) := by omega
  have hmk := fun W => make_blocks n h2 W
  have hmm := @run_makeMap Tryz.prog
  go_enter Tryz.func9, Tryz.ntmps9
  go_wp2
  go_ret2
  refine ⟨rfl, fun L hL => ?_, ((((Below.refl _ _).alloc (Nat.le_refl _) _).alloc (by simp) _).alloc (by simp; omega) _)⟩
  have hlast : (newDS n).lasts.length = n := by simp [newDS]
  have r0 := ((Row.new_rep w 90 (n * 128) (.int .u8 0)).alloc (.map #[] 0)).alloc (.cells #[Value.slice (some { block := w.heap.size, off := 0 }) n n, Value.slice none 0 0, Value.map (some (w.heap.size + 1)), Value.int IntKind.i64 (-1), Value.int IntKind.i64 0, Value.bool false] 81)
  have m0 := World.ownsMap_made (w.alloc (.cells (Array.replicate (n * 128) (.int .u8 0)) 90)) Tryz.prog 3 (plainElem (H := Unit) Tryz.prog 3)
  have m1 := m0.alloc (.cells #[Value.slice (some { block := w.heap.size, off := 0 }) n n, Value.slice none 0 0, Value.map (some (w.heap.size + 1)), Value.int IntKind.i64 (-1), Value.int IntKind.i64 0, Value.bool false] 81)
  have p0 := Row.new ((w.alloc (.cells (Array.replicate (n * 128) (.int .u8 0)) 90)).alloc (.map #[] 0)) 81 [Value.slice (some { block := w.heap.size, off := 0 }) n n, Value.slice none 0 0, Value.map (some (w.heap.size + 1)), Value.int IntKind.i64 (-1), Value.int IntKind.i64 0, Value.bool false]
  have e1 : (w.alloc (.cells (Array.replicate (n * 128) (.int .u8 0)) 90)).heap.size = w.heap.size + 1 := by simp
  have e2 : ((w.alloc (.cells (Array.replicate (n * 128) (.int .u8 0)) 90)).alloc (.map #[] 0)).heap.size = w.heap.size + 2 := by simp
  rw [e1] at m1
  rw [e2] at p0
  refine ⟨by rw [hlast]; exact p0, by rw [newDS_cells]; exact r0, ⟨by simp [newDS, wcs_nil], .inl ⟨rfl, rfl⟩⟩, m1, newest_nil, newDS_ok n h1 h2, fun h => ?_, fun h => ?_, fun h => ?_, fun g hg => by simp [Value.ownBlock] at hg⟩
  all_goals
    have := hL _ h
    omega
end Go.Proofs.YtiaaeniopjpfpaaGreatDoor
