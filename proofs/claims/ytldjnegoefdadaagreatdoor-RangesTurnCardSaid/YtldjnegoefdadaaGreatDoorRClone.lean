/- A clone of a slice of ranges; a table's place and length. -/
import Derived.Test.YtldjnegoefdadaaGreatDoorRSearch
import Derived.Maps.AppendAt
import Derived.Lib.SliceRun
namespace Go.Proofs.YtldjnegoefdadaaGreatDoor
open Go.RowKit
set_option linter.unusedVariables false

/-- A slice of ranges in a block of its own, from block B on. -/
def OWN (B : Nat) (w : World) (s : Value) (l : List RG) : Prop := w.ownsRow B 30 6 s l.length (cellsL l)
theorem OWN.tbl {B : Nat} {w : World} {s : Value} {l : List RG} (h : OWN B w s l) : TBL w s l := by
  refine ⟨h.1, ?_⟩
  rcases h.2 with h0 | ⟨g, cap, cur, h1, h2, h3⟩
  · exact Or.inl h0
  · exact Or.inr ⟨g, cap, cur, h1, Nat.zero_le _, h3⟩
theorem OWN.weak {B B' : Nat} {w : World} {s : Value} {l : List RG} (h : OWN B w s l) (hB : B' ≤ B) : OWN B' w s l := by
  refine ⟨h.1, ?_⟩
  rcases h.2 with h0 | ⟨g, cap, cur, h1, h2, h3⟩
  · exact Or.inl h0
  · exact Or.inr ⟨g, cap, cur, h1, by omega, h3⟩
theorem range_info : ∃ i z, Tryz.prog.info? 30 = some i ∧ i.zero = some z ∧ i.size = 6 ∧ i.bytes = 88 ∧ z.cells.size = 6 := by
  have h : (Tryz.prog.info? 30).map (fun i => (i.zero.map (·.cells.size), i.size, i.bytes)) = some (some 6, 6, 88) := by kernel_rfl
  cases hi : Tryz.prog.info? 30 with
  | none => rw [hi] at h; cases h
  | some i =>
    rw [hi] at h
    simp only [Option.map_some, Option.some.injEq, Prod.mk.injEq] at h
    obtain ⟨h1, h2, h3⟩ := h
    obtain ⟨z, hz, hz2⟩ := Option.map_eq_some_iff.1 h1
    exact ⟨i, z, rfl, hz, h2, h3, hz2⟩
theorem cellsL_one (l : List RG) : ∀ u ∈ cellsL l, u.oneCell' = true := by
  induction l with
  | nil => intro u hu; cases hu
  | cons r l ih =>
    intro u hu
    rw [cellsL, List.mem_append] at hu
    rcases hu with hu | hu
    · simp only [RG.cells, List.mem_cons, List.not_mem_nil, or_false] at hu
      rcases hu with rfl | rfl | rfl | rfl | rfl | rfl <;> rfl
    · exact ih u hu

set_option maxHeartbeats 2000000 in
set_option maxRecDepth 100000 in
theorem Clone_any (l : List RG) (h64 : l.length ≤ 64) (s : Value) (w : World) (hT : TBL w s l) :
    Calls Tryz.prog 39 #[s] w fun e w' => ∃ s', e = .returned s' ∧ OWN w.heap.size w' s' l ∧ Below w.heap.size w w' := by
  have u36 := Tryz.underlying25
  have q36 : ∀ (w : World) (a : Option Addr) (n c n' c' : Nat), (binOp .eql 25 (.slice a n c) (.slice none n' c')).run Tryz.prog w = .ok (.bool a.isNone) w := fun w a n c n' c' => Lib.run_eql_slice_nil w _ _ a n c n' c' u36
  rcases hT.form with ⟨rfl, rfl⟩ | ⟨g, cap, cur, rfl, hg, h3, h4, h5, h6⟩
  · go_enter Tryz.func39, Tryz.ntmps39
    go_wp2
    go_ret
    exact ⟨_, rfl, World.ownsRow_nil w _ _ 6, Below.refl _ _⟩
  · obtain ⟨i0, z0, hi, hz0, hz1, hz2, hz3⟩ := range_info
    have hN : Hid (∀ j u, (cellsL l)[j]? = some u → w.cell? ((⟨g, 0, none⟩ : Addr).add j) = some u) := Lib.hid fun j u hu => by
      rw [Addr.add_mid, Nat.zero_add, cell_of_row w g j cur _ (0, 0) hg]
      rw [← h6, List.getElem?_take] at hu
      split at hu
      · simpa using hu
      · cases hu
    have hglt := (Array.getElem?_eq_some_iff.1 hg).1
    clear h3 h4 h5 h6
    go_enter Tryz.func39, Tryz.ntmps39
    go_wp2_with (at_builtin; refine wpList_append_own_at _ rfl _ _ 25 rfl w.heap.size 30 i0 z0 6 88 u36 hi hz0 hz1 hz2 hz3 (by decide) _ 0 [] rfl (World.ownsRow_made w #[] 0 (Nat.le_refl _) (Nat.zero_le _) rfl) ⟨g, 0, none⟩ l.length cap (cellsL l) rfl (cellsL_len l) ?qc2 (cellsL_one l) ?qc4 ?qc5 ?qc6 ?_)
    case qc2 =>
      intro j u hj
      exact Lib.cell?_alloc_some _ (hN.out j u hj)
    case qc4 => unfold maxLen; omega
    case qc5 => omega
    case qc6 => simp
    intro v' w1 hown hgrow hnil _
    go_wp2
    go_ret
    exact ⟨v', rfl, hown, ((Below.refl _ w).alloc (Nat.le_refl _) _).grown hgrow (by simp) (by intro k hk; simp [Value.ownBlock] at hk; omega)⟩

set_option maxHeartbeats 1000000 in
theorem Len_any (l : List RG) (s : Value) (w : World) (hT : TBL w s l) :
    Calls Tryz.prog 20 #[.agg #[s]] w fun e w' => e = .returned (.int .i64 l.length) ∧ Below w.heap.size w w' := by
  obtain ⟨a, cap, rfl⟩ := hT.slice
  have HB0 := Lib.hid ((Below.refl w.heap.size w).alloc (Nat.le_refl _) (.cells [Value.slice a l.length cap].toArray 27))
  clear hT
  go_enter Tryz.func20, Tryz.ntmps20
  go_wp2
  go_ret
  exact ⟨rfl, HB0.out⟩

set_option maxHeartbeats 1000000 in
theorem place_any (l : List RG) (hl : ∀ r ∈ l, r.light) (h64 : l.length ≤ 64) (k : ByteArray) (hk : k.size ≤ 1000) (p : Nat) (hp : Stands l k p) (s : Value) (w : World) (hT : TBL w s l) :
    Calls Tryz.prog 37 #[.agg #[s], .string k] w fun e w' => e = .returned (.tuple #[.int .i64 p, .bool (decide (∃ h : p < l.length, ck k l[p] = 0))]) ∧ Below w.heap.size w w' := by
  have B0 := (Below.refl w.heap.size w).alloc (Nat.le_refl _) (.cells [s].toArray 27)
  have HS := Lib.hid (fun W (h : TBL W s l) => search_any l hl h64 k hk p hp s W h)
  have HT := Lib.hid (hT.below B0)
  have HB0 := Lib.hid B0
  obtain ⟨R, hR⟩ : ∃ R, decide (∃ h : p < l.length, ck k l[p] = 0) = R := ⟨_, rfl⟩
  rw [hR] at HS ⊢
  obtain ⟨a, cap, rfl⟩ := hT.slice
  clear hT hp hR B0
  go_enter Tryz.func37, Tryz.ntmps37
  go_wp2_with fail
  refine (HS.out _ HT.out).mono ?_
  rintro e w1 ⟨rfl, hb⟩
  have B1 := Lib.hid (HB0.out.trans (hb.mono HB0.out.size))
  clear hb
  go_wp2
  exact bodyPost_ret (results_tmp2 rfl _ _ _) rfl ⟨rfl, B1.out⟩
end Go.Proofs.YtldjnegoefdadaaGreatDoor
