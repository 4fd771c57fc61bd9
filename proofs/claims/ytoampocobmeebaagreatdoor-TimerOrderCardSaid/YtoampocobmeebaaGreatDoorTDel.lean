/- slices.Delete of one entry. -/
import Derived.Test.YtoampocobmeebaaGreatDoorTIns
namespace Go.Proofs.YtoampocobmeebaaGreatDoor.Tm
open Go.RowKit
set_option linter.unusedVariables false

def delL (l : List EN) (i : Nat) : List EN := l.take i ++ l.drop (i + 1)
theorem delL_len (l : List EN) (i : Nat) (h : i < l.length) : (delL l i).length = l.length - 1 := by unfold delL; simp; omega
theorem step_append_r {P : Program} {ops : Array Oper} {o : Oper} {a : Act} {w : World} {K : Act → World → Prop} {Q : Exit → Act → World → Prop} {E : Prop}
    (hg : o.guard = none) (d x : Operand) (dT sT : TypeId) (hop : o.op = Op.call { callee := Callee.builtin Builtin.append, args := #[d, x], argTypes := #[dT, sT] })
    (v u : Value) (hd : a.eval d = v) (hx : a.eval x = u) {v' : Value} {w' : World} (hr : (Builtin.append_ #[dT, sT] o.type #[v, u]).run P w = .ok v' w') (hK : K (a.put o.dst v') w') :
    if Region.wanted o (yielded ops a.tmps) = true then Oper.wp P o a w K Q else E := by
  rw [if_pos (by simp [Region.wanted, hg])]
  unfold Oper.wp
  simp [execOp, hop, resolve, invoke, builtin, hd, hx, hr, Result.andThen]
  exact hK
/-- clear of one element of k cells. -/
theorem run_clear_k {P : Program} (w : World) (t e ty : TypeId) (i : TypeInfo) (z : Value) (ht : P.underlying t = some (.slice e)) (hi : P.info? e = some i) (hz : i.zero = some z) (h1 : ∀ v ∈ z.cells.toList, v.oneCell' = true) (b o c : Nat)
    (hc : ∀ j, j < z.cells.size → (w.cell? ⟨b, o + j, none⟩).isSome = true) (hf : ∀ j, j < z.cells.size → w.frozen? ⟨b, o + j, none⟩ = false) :
    (Builtin.clear_ #[t] ty #[.slice (some ⟨b, o, none⟩) 1 c]).run P w = .ok (.tuple #[]) (w.setCells b o z.cells.toList) := by
  have hst : (storeCells ⟨b, o, none⟩ z.cells.toList).run P w = .ok () (w.setCells b o z.cells.toList) := by simpa using run_storeCells_cells (P := P) b o z.cells.toList 0 w (by simpa using hc) (by simpa using hf) h1
  have hzc : (Builtin.zeroCells z.cells 1).toList = z.cells.toList := by
    simp [Builtin.zeroCells]
    apply List.ext_getElem
    · simp
    · intro j h1 h2
      have hj : j < z.cells.size := by simpa using h2
      simp [Nat.mod_eq_of_lt hj, hj]
  simp [Builtin.clear_, run_underlying ht, zeroValue, typeInfo, hi, hz, hzc, hst]

theorem entry_zero : ∃ i, Tryz.prog.info? 58 = some i ∧ i.zero = some (.agg #[.int .u64 0, .int .u8 0, .int .u8 0, .int .u8 0, .int .u8 0, .int .u8 0, .int .u8 0, .int .u8 0, .int .u8 0, .int .u8 0, .int .u8 0, .int .u8 0, .int .u8 0, .int .u8 0, .int .u8 0, .int .u8 0, .int .u8 0]) ∧ i.size = 17 ∧ i.bytes = 24 := by
  have h : (Tryz.prog.info? 58).map (fun i => (i.zero, i.size, i.bytes)) = some (some (.agg #[.int .u64 0, .int .u8 0, .int .u8 0, .int .u8 0, .int .u8 0, .int .u8 0, .int .u8 0, .int .u8 0, .int .u8 0, .int .u8 0, .int .u8 0, .int .u8 0, .int .u8 0, .int .u8 0, .int .u8 0, .int .u8 0, .int .u8 0]), 17, 24) := by kernel_rfl
  cases hi : Tryz.prog.info? 58 with
  | none => rw [hi] at h; cases h
  | some i =>
    rw [hi] at h
    simp only [Option.map_some, Option.some.injEq, Prod.mk.injEq] at h
    exact ⟨i, rfl, h⟩

set_option maxHeartbeats 4000000 in
set_option maxRecDepth 100000 in
theorem Delete_any (B : Nat) (l : List EN) (h64 : l.length ≤ 64) (i : Nat) (hi : i < l.length) (s : Value) (w : World) (hO : OWN B w s l) :
    Calls Tryz.prog 21 #[s, .int .i64 i, .int .i64 ((i : Int) + 1)] w fun e w' => ∃ s', e = .returned s' ∧ OWN B w' s' (delL l i) ∧ Below B w w' := by
  rcases hO.2 with ⟨_, h0⟩ | ⟨g, cap, cur, rfl, hBg, hg, hnc, hcm, hcs, htk⟩
  · omega
  have u36 := Tryz.underlying27
  have u3 := Tryz.underlying3
  obtain ⟨i0, hi0, hz0, hzs, hzb⟩ := entry_zero
  obtain ⟨n, hn⟩ : ∃ n, l.length = n := ⟨_, rfl⟩
  rw [hn] at h64 hi hnc htk ⊢
  have hR0 := rangeAt_of_cur hg (by rw [hn]; exact htk)
  have hcl := cellsL_len l
  rw [hn] at hcl
  have hdl : ((cellsL l).drop ((i + 1) * 17)).length = (n - (i + 1)) * 17 := by rw [List.length_drop]; omega
  have htl : ((cellsL l).take (i * 17)).length = i * 17 := by rw [List.length_take]; omega
  have hctl : cur.toList.length = cap * 17 := by simpa using hcs
  -- the row behind the append
  obtain ⟨A, hA, hsrc⟩ : ∃ A : Addr, (if cap = i + 1 then some (⟨g, 0, none⟩ : Addr) else some ⟨g, (i + 1) * 17, none⟩) = some A ∧ Hid (∀ t u, ((cellsL l).drop ((i + 1) * 17))[t]? = some u → w.drew.cell? (A.add t) = some u) := by
    by_cases h : cap = i + 1
    · refine ⟨⟨g, 0, none⟩, by simp [h], Lib.hid fun t u hu => ?_⟩
      have h0 : ((cellsL l).drop ((i + 1) * 17)).length = 0 := by rw [hdl]; omega
      rw [List.length_eq_zero_iff.1 h0] at hu
      simp at hu
    · refine ⟨⟨g, (i + 1) * 17, none⟩, by simp [h], Lib.hid fun t u hu => ?_⟩
      rw [Addr.add_mid]
      have := rangeAt_drop hR0 ((i + 1) * 17) t u hu
      rw [Nat.zero_add] at this
      exact this
  have happ := fun ty c => run_append_room (P := Tryz.prog) w.drew 27 ty 58 i0 u36 hi0 g i cap cur hg A (n - (i + 1)) c ((cellsL l).drop ((i + 1) * 17)) (by rw [hzs, hdl]) hsrc.out (fun u hu => cellsL_one l u (List.mem_of_mem_drop hu)) (by omega) (by rw [hzs, hdl, hcs]; omega)
  rw [hzs] at happ
  obtain ⟨C1, hC1⟩ : ∃ C, (cur.toList.take (i * 17) ++ (cellsL l).drop ((i + 1) * 17) ++ cur.toList.drop (i * 17 + ((cellsL l).drop ((i + 1) * 17)).length)).toArray = C := ⟨_, rfl⟩
  rw [hC1, show i + (n - (i + 1)) = n - 1 by omega] at happ
  have hC1s : C1.size = cap * 17 := by
    rw [← hC1]
    simp only [List.size_toArray, List.length_append, List.length_take, List.length_drop, hctl, hcl]
    omega
  have hctk : cur.toList.take (i * 17) = (cellsL l).take (i * 17) := by rw [← htk, List.take_take, Nat.min_eq_left (by omega)]
  have hdell : cellsL (delL l i) = (cellsL l).take (i * 17) ++ (cellsL l).drop ((i + 1) * 17) := by unfold delL; rw [cellsL_append, cellsL_take, cellsL_drop]
  have hC1t : C1.toList.take ((n - 1) * 17) = cellsL (delL l i) := by
    rw [← hC1, hdell, hctk]
    have hl2 : ((cellsL l).take (i * 17) ++ (cellsL l).drop ((i + 1) * 17)).length = (n - 1) * 17 := by rw [List.length_append, htl, hdl]; omega
    rw [List.toList_toArray, List.take_append_of_le_length (by omega), List.take_of_length_le (by omega)]
  obtain ⟨W1, hW1⟩ : ∃ W, w.drew.setRow g C1 = W := ⟨_, rfl⟩
  rw [hW1] at happ
  have f1 : W1.heap[g]? = some (.cells C1 58 (0, 0)) := by rw [← hW1]; exact setRow_heap w.drew g cur C1 _ (0, 0) hg
  have B1 : Below B w W1 := by rw [← hW1]; exact below_setRow (B := B) (Below.refl B w).drew hBg C1
  -- the last element is wiped
  have hlast : (n - 1) * 17 + 17 ≤ cap * 17 := by omega
  have hclr := fun ty c => run_clear_k (P := Tryz.prog) W1 27 58 ty i0 _ u36 hi0 hz0 (by decide) g ((n - 1) * 17) c (fun j hj => by
      have hj6 : j < 17 := hj
      rw [cell_of_row W1 g _ C1 _ (0, 0) f1, Array.getElem?_eq_getElem (by omega)]
      rfl) (fun j hj => by simp [World.frozen?, f1])
  obtain ⟨Z, hZ⟩ : ∃ Z, (Value.agg #[.int .u64 0, .int .u8 0, .int .u8 0, .int .u8 0, .int .u8 0, .int .u8 0, .int .u8 0, .int .u8 0, .int .u8 0, .int .u8 0, .int .u8 0, .int .u8 0, .int .u8 0, .int .u8 0, .int .u8 0, .int .u8 0, .int .u8 0]).cells.toList = Z := ⟨_, rfl⟩
  have hZl : Z.length = 17 := by rw [← hZ]; rfl
  rw [hZ] at hclr
  have s1 : W1.rangeAt g 0 (cellsL (delL l i)) := rangeAt_of_cur (l := delL l i) f1 (by rw [delL_len l i (by omega), hn]; exact hC1t)
  have hdlen : (cellsL (delL l i)).length = (n - 1) * 17 := by rw [cellsL_len, delL_len l i (by omega), hn]
  have s2 := World.rangeAt_setCells_apart s1 g ((n - 1) * 17) Z (Or.inr (Or.inl (by omega)))
  obtain ⟨C2, f2, hC2⟩ := setCells_shape g _ _ Z ((n - 1) * 17) W1 C1 f1
  have B2 := below_setCells (B := B) g hBg Z ((n - 1) * 17) W1 B1
  obtain ⟨W2, hW2⟩ : ∃ W, W1.setCells g ((n - 1) * 17) Z = W := ⟨_, rfl⟩
  rw [hW2] at hclr s2 f2 B2
  have HO : Hid (OWN B W2 (.slice (some ⟨g, 0, none⟩) (n - 1) cap) (delL l i) ∧ Below B w W2) := Lib.hid (by
    refine ⟨?_, B2⟩
    have hdn := delL_len l i (by omega)
    rw [hn] at hdn
    refine ⟨cellsL_len _, Or.inr ⟨g, cap, C2, by rw [hdn], hBg, f2, by omega, hcm, by rw [hC2, hC1s], ?_⟩⟩
    apply List.ext_getElem?
    intro j
    by_cases hj : j < (n - 1) * 17
    · rw [hdn, List.getElem?_take_of_lt hj, Array.getElem?_toList, ← cell_of_row W2 g j C2 _ (0, 0) f2]
      have h3 := s2 j _ (List.getElem?_eq_getElem (by omega))
      rw [Nat.zero_add] at h3
      rw [h3, List.getElem?_eq_getElem (by omega)]
    · rw [List.getElem?_eq_none (by rw [List.length_take, hdn]; omega), List.getElem?_eq_none (by omega)])
  have mixed : Tryz.prog.follows Departure.mixedOrders = true := by kernel_rfl
  have hij : ¬ ((i : Int) = (i : Int) + 1) := by omega
  have hw1 : (0 : Int) ≤ (i : Int) + 1 := by omega
  have htn : ((i : Int) + 1).toNat = i + 1 := by omega
  have hjn : (i : Int) + 1 ≤ (n : Int) := by omega
  have hin : i ≤ n := by omega
  have hncI : (n : Int) ≤ (cap : Int) := by omega
  have hci : ¬ (cap = i) := by omega
  have hic : i ≤ cap := by omega
  have h11 : n - (n - 1) = 1 := by omega
  have hncN : n ≤ cap := hnc
  have hn1 : n - 1 ≤ n := by omega
  have hcn1 : ¬ (cap = n - 1) := by omega
  have hn1I : ((n - 1 : Nat) : Int) ≤ (n : Int) := by omega
  have happ' := Lib.hid happ
  unfold maxLen at hcm
  clear happ hsrc hR0 hcl hdl htl hctl hC1 hC1s hctk hdell hC1t hW1 f1 B1 hZ hZl s1 hdlen s2 hC2 f2 B2 hW2 htk hcs hg hO hn
  go_enter Tryz.func21, Tryz.ntmps21
  go_wp2_with fail
  go_region_law_o (refine step_append_r rfl _ _ 27 27 rfl (.slice (some ⟨g, 0, none⟩) i cap) (.slice (some A) (n - (i + 1)) (cap - (i + 1))) (by simp [Act.eval, Act.put]) (by simp [Act.eval, Act.put]) (happ'.out 27 (cap - (i + 1))) ?_)
  go_wp2
  go_ret
  exact ⟨_, rfl, HO.out.1, HO.out.2⟩
end Go.Proofs.YtoampocobmeebaaGreatDoor.Tm
