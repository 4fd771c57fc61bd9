/- A clone of entries; how many there are. -/
import Derived.Test.YtoampocobmeebaaGreatDoorTTab
import Derived.Maps.AppendAt
import Derived.Lib.SliceRun
namespace Go.Proofs.YtoampocobmeebaaGreatDoor.Tm
open Go.RowKit
set_option linter.unusedVariables false

/-- A slice of ranges in a block of its own, from block B on. -/
def OWN (B : Nat) (w : World) (s : Value) (l : List EN) : Prop := w.ownsRow B 58 17 s l.length (cellsL l)
theorem OWN.tbl {B : Nat} {w : World} {s : Value} {l : List EN} (h : OWN B w s l) : TBL w s l := by
  refine ⟨h.1, ?_⟩
  rcases h.2 with h0 | ⟨g, cap, cur, h1, h2, h3⟩
  · exact Or.inl h0
  · exact Or.inr ⟨g, cap, cur, h1, Nat.zero_le _, h3⟩
theorem OWN.weak {B B' : Nat} {w : World} {s : Value} {l : List EN} (h : OWN B w s l) (hB : B' ≤ B) : OWN B' w s l := by
  refine ⟨h.1, ?_⟩
  rcases h.2 with h0 | ⟨g, cap, cur, h1, h2, h3⟩
  · exact Or.inl h0
  · exact Or.inr ⟨g, cap, cur, h1, by omega, h3⟩
theorem entry_info : ∃ i z, Tryz.prog.info? 58 = some i ∧ i.zero = some z ∧ i.size = 17 ∧ i.bytes = 24 ∧ z.cells.size = 17 := by
  have h : (Tryz.prog.info? 58).map (fun i => (i.zero.map (·.cells.size), i.size, i.bytes)) = some (some 17, 17, 24) := by kernel_rfl
  cases hi : Tryz.prog.info? 58 with
  | none => rw [hi] at h; cases h
  | some i =>
    rw [hi] at h
    simp only [Option.map_some, Option.some.injEq, Prod.mk.injEq] at h
    obtain ⟨h1, h2, h3⟩ := h
    obtain ⟨z, hz, hz2⟩ := Option.map_eq_some_iff.1 h1
    exact ⟨i, z, rfl, hz, h2, h3, hz2⟩
theorem cellsL_one (l : List EN) : ∀ u ∈ cellsL l, u.oneCell' = true := by
  induction l with
  | nil => intro u hu; cases hu
  | cons r l ih =>
    intro u hu
    rw [cellsL, List.mem_append] at hu
    rcases hu with hu | hu
    · simp only [EN.cells, List.mem_cons, List.mem_map] at hu
      rcases hu with rfl | ⟨c, _, rfl⟩ <;> rfl
    · exact ih u hu

set_option maxHeartbeats 2000000 in
set_option maxRecDepth 100000 in
theorem Clone_any (l : List EN) (h64 : l.length ≤ 64) (s : Value) (w : World) (hT : TBL w s l) :
    Calls Tryz.prog 19 #[s] w fun e w' => ∃ s', e = .returned s' ∧ OWN w.heap.size w' s' l ∧ Below w.heap.size w w' := by
  have u36 := Tryz.underlying27
  have q36 : ∀ (w : World) (a : Option Addr) (n c n' c' : Nat), (binOp .eql 27 (.slice a n c) (.slice none n' c')).run Tryz.prog w = .ok (.bool a.isNone) w := fun w a n c n' c' => Lib.run_eql_slice_nil w _ _ a n c n' c' u36
  rcases hT.form with ⟨rfl, rfl⟩ | ⟨g, cap, cur, rfl, hg, h3, h4, h5, h6⟩
  · go_enter Tryz.func19, Tryz.ntmps19
    go_wp2
    go_ret
    exact ⟨_, rfl, World.ownsRow_nil w _ _ 17, Below.refl _ _⟩
  · obtain ⟨i0, z0, hi, hz0, hz1, hz2, hz3⟩ := entry_info
    have hN : Hid (∀ j u, (cellsL l)[j]? = some u → w.cell? ((⟨g, 0, none⟩ : Addr).add j) = some u) := Lib.hid fun j u hu => by
      rw [Addr.add_mid, Nat.zero_add, cell_of_row w g j cur _ (0, 0) hg]
      rw [← h6, List.getElem?_take] at hu
      split at hu
      · simpa using hu
      · cases hu
    have hglt := (Array.getElem?_eq_some_iff.1 hg).1
    clear h3 h4 h5 h6
    go_enter Tryz.func19, Tryz.ntmps19
    go_wp2_with (at_builtin; refine wpList_append_own_at _ rfl _ _ 27 rfl w.heap.size 58 i0 z0 17 24 u36 hi hz0 hz1 hz2 hz3 (by decide) _ 0 [] rfl (World.ownsRow_made w #[] 0 (Nat.le_refl _) (Nat.zero_le _) rfl) ⟨g, 0, none⟩ l.length cap (cellsL l) rfl (cellsL_len l) ?qc2 (cellsL_one l) ?qc4 ?qc5 ?qc6 ?_)
    case qc2 =>
      intro j u hj
      exact Lib.cell?_alloc_some _ (hN.out j u hj)
    case qc4 => unfold maxLen; omega
    case qc5 => omega
    case qc6 => simp
    intro v' w1 hown hgrow hnil _
    go_wp2
    go_ret
    exact ⟨v', rfl, hown, ((Below.refl _ w).alloc (Nat.le_refl _) _).grown hgrow (by simp) (by intro k hk; simp [Value.ownBlock] at hk; omega)⟩

set_option maxHeartbeats 1000000 in
theorem Len_any (l : List EN) (s : Value) (w : World) (hT : TBL w s l) :
    Calls Tryz.prog 12 #[.agg #[s]] w fun e w' => e = .returned (.int .i64 l.length) ∧ Below w.heap.size w w' := by
  obtain ⟨a, cap, rfl⟩ := hT.slice
  have HB0 := Lib.hid ((Below.refl w.heap.size w).alloc (Nat.le_refl _) (.cells [Value.slice a l.length cap].toArray 29))
  clear hT
  go_enter Tryz.func12, Tryz.ntmps12
  go_wp2
  go_ret
  exact ⟨rfl, HB0.out⟩

end Go.Proofs.YtoampocobmeebaaGreatDoor.Tm
