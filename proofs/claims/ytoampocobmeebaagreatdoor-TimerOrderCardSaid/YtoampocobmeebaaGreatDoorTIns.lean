/- slices.Insert of one entry. -/
import Derived.Test.YtoampocobmeebaaGreatDoorTIns1
import Derived.Lib.Overlaps
import Derived.Laws.Externs
import Derived.Shelf.RegionOpenPlain
namespace Go.Proofs.YtoampocobmeebaaGreatDoor.Tm
open Go.RowKit
set_option linter.unusedVariables false

def insL (l : List EN) (i : Nat) (r : EN) : List EN := l.take i ++ r :: l.drop i
theorem insL_len (l : List EN) (i : Nat) (r : EN) (h : i ≤ l.length) : (insL l i r).length = l.length + 1 := by unfold insL; simp; omega

set_option maxHeartbeats 2000000 in
set_option maxRecDepth 100000 in
/-- .. at the end. -/
theorem Insert_end (B : Nat) (l : List EN) (h64 : l.length ≤ 63) (r : EN) (s : Value) (vb : Nat) (w : World) (hB : B ≤ w.heap.size) (hO : OWN B w s l) (hv : Row w vb 58 r.cells) :
    Calls Tryz.prog 24 #[s, .int .i64 l.length, .slice (some ⟨vb, 0, none⟩) 1 1] w fun e w' => ∃ s', e = .returned s' ∧ OWN B w' s' (insL l l.length r) ∧ Below B w w' := by
  have u36 := Tryz.underlying27
  obtain ⟨i0, z0, hi, hz0, hz1, hz2, hz3⟩ := entry_info
  have hN : Hid (∀ j u, r.cells[j]? = some u → w.cell? ((⟨vb, 0, none⟩ : Addr).add j) = some u) := Lib.hid fun j u hu => by rw [Addr.add_mid, Nat.zero_add, hv.cell]; exact hu
  have h1 : Hid (∀ u ∈ r.cells, u.oneCell' = true) := Lib.hid fun u hu => cellsL_one [r] u (by simpa [cellsL] using hu)
  have hins : Hid (insL l l.length r = l ++ [r]) := Lib.hid (by unfold insL; simp)
  have hHO := Lib.hid hO
  obtain ⟨a, cap, rfl⟩ := hO.tbl.slice
  have hBelow : Hid (∀ c w', w.grownBy w' (Value.slice a l.length c).ownBlock → Below B w w') := Lib.hid fun c w' h => (Below.refl B w).grown h hB (fun k hk => (hO.lt k (by cases a <;> exact hk)).1)
  have hcap : Hid (l.length ≤ cap) := Lib.hid (by
    rcases hO.tbl.form with ⟨h0, h2⟩ | ⟨g, cap', cur, h2, _, h3, _⟩
    · rw [h0]; exact Nat.zero_le _
    · injection h2 with _ _ h2; rw [h2]; exact h3)
  have hcapI := hcap.out
  clear hO hv
  go_enter Tryz.func24, Tryz.ntmps24
  go_wp2_with (at_builtin; refine wpList_append_own_at _ rfl _ _ 27 rfl B 58 i0 z0 17 24 u36 hi hz0 hz1 hz2 hz3 (by decide) _ l.length (cellsL l) rfl hHO.out ⟨vb, 0, none⟩ 1 1 r.cells rfl (cells_len r) hN.out h1.out ?qc4 ?qc5 hB ?_)
  case qc4 => unfold maxLen; omega
  case qc5 => omega
  all_goals
    intro v' w1 hown hgrow _ _
    have HB := Lib.hid (hBelow.out _ _ hgrow)
    have HO : Hid (OWN B w1 v' (insL l l.length r)) := Lib.hid (by
      rw [hins.out]
      unfold OWN
      rw [cellsL_append, show cellsL [r] = r.cells by simp [cellsL], List.length_append]
      exact hown)
    clear hown hgrow
    go_wp2
    go_ret
    exact ⟨v', rfl, HO.out, HB.out⟩

theorem rangeAt_of_cur {w : World} {g : Nat} {cur : Array Value} {t : TypeId} {fr : Nat × Nat} {l : List EN} (hg : w.heap[g]? = some (.cells cur t fr)) (htk : cur.toList.take (l.length * 17) = cellsL l) : w.rangeAt g 0 (cellsL l) := fun j v hj => by
  rw [Nat.zero_add, cell_of_row w g j cur t fr hg]
  rw [← htk, List.getElem?_take] at hj
  split at hj
  · simpa using hj
  · cases hj
theorem rangeAt_drop {w : World} {g o : Nat} {cs : List Value} (h : w.rangeAt g o cs) (k : Nat) : w.rangeAt g (o + k) (cs.drop k) := fun j v hj => by
  rw [List.getElem?_drop] at hj
  rw [Nat.add_assoc]
  exact h _ v hj
theorem rangeAt_take {w : World} {g o : Nat} {cs : List Value} (h : w.rangeAt g o cs) (k : Nat) : w.rangeAt g o (cs.take k) := fun j v hj => by
  rw [List.getElem?_take] at hj
  split at hj
  · exact h _ v hj
  · cases hj

set_option maxHeartbeats 4000000 in
set_option maxRecDepth 100000 in
/-- .. ahead of the end, with no room: a new row. -/
theorem Insert_grow (B : Nat) (l : List EN) (h64 : l.length ≤ 63) (r : EN) (i : Nat) (hi : i < l.length) (g cap : Nat) (cur : Array Value) (vb : Nat) (w : World) (hB : B ≤ w.heap.size) (hg : w.heap[g]? = some (.cells cur 58 (0, 0))) (hle : l.length ≤ cap) (hroom : cap < l.length + 1)
    (htk : cur.toList.take (l.length * 17) = cellsL l) (hv : Row w vb 58 r.cells) :
    Calls Tryz.prog 24 #[.slice (some ⟨g, 0, none⟩) l.length cap, .int .i64 i, .slice (some ⟨vb, 0, none⟩) 1 1] w fun e w' => ∃ s', e = .returned s' ∧ OWN B w' s' (insL l i r) ∧ Below B w w' := by
  have u36 := Tryz.underlying27
  have u3 := Tryz.underlying3
  obtain ⟨i0, z0, hi0, hz0, hzs, hzb, hzc⟩ := entry_info
  obtain ⟨n, hn⟩ : ∃ n, l.length = n := ⟨_, rfl⟩
  rw [hn] at h64 hi hle hroom ⊢
  obtain rfl : cap = n := by omega
  have hR0 := rangeAt_of_cur hg htk
  have hglt := (Array.getElem?_eq_some_iff.1 hg).1
  have hcl := cellsL_len l
  rw [hn] at hcl
  have hold : (Builtin.firstCells i0.size i (.slice (some ⟨g, 0, none⟩) i cap)).run Tryz.prog w.drew = .ok ((cellsL l).take (i * 17)).toArray w.drew := by
    rw [hzs]
    exact run_firstCells_some w.drew 17 i ⟨g, 0, none⟩ i cap ((cellsL l).take (i * 17)) (by rw [List.length_take]; omega) (fun j v hj => by
      rw [Addr.add_mid]
      exact rangeAt_take hR0 _ j v hj)
  have hgz := fun ty => Lib.run_append_grow_zeros w 27 3 ty 58 i0 z0 .i64 .i64 u36 u3 hi0 hz0 (some ⟨g, 0, none⟩) i cap ((cellsL l).take (i * 17)) hold (cap + 1 - i) (by omega) (by omega) (by omega) (by omega) (by rw [hzb]; omega) (by rw [hzb]; exact growslice_fits (by omega) (by omega))
  rw [show i + (cap + 1 - i) = cap + 1 by omega] at hgz
  have hG1 := grownCap_ge w (cap + 1) cap 58
  have hG2 := grownCap_le_maxLen w (cap + 1) cap 58 (by unfold maxLen; omega)
  obtain ⟨G, hG⟩ : ∃ G, grownCap w (cap + 1) cap 58 = G := ⟨_, rfl⟩
  rw [hG] at hgz hG1 hG2
  obtain ⟨D, hD⟩ : ∃ D, ((cellsL l).take (i * 17)).toArray ++ Builtin.zeroCells z0.cells (cap + 1 - i) ++ Builtin.zeroCells z0.cells (G - (cap + 1)) = D := ⟨_, rfl⟩
  rw [hD] at hgz
  have htl : ((cellsL l).take (i * 17)).length = i * 17 := by rw [List.length_take]; omega
  have hDs : D.size = G * 17 := by
    rw [← hD, Array.size_append, Array.size_append, size_zeroCells, size_zeroCells, List.size_toArray, htl, hzc]
    omega
  obtain ⟨W1, hW1⟩ : ∃ W1, w.drew.alloc (.cells D 58) = W1 := ⟨_, rfl⟩
  rw [hW1] at hgz
  obtain ⟨h, hh⟩ : ∃ h, w.heap.size = h := ⟨_, rfl⟩
  rw [hh] at hgz hB hglt
  have f1 : W1.heap[h]? = some (.cells D 58 (0, 0)) := by rw [← hW1, ← hh]; exact heap_alloc_new w.drew _
  have B1 : Below B w W1 := by rw [← hW1]; exact ((Below.refl B w).drew).alloc (by rw [← hh] at hB; exact hB) _
  have hold1 : ∀ k, k < h → W1.heap[k]? = w.heap[k]? := fun k hk => by rw [← hW1]; exact heap_alloc_old w.drew _ (by rw [← hh] at hk; exact hk)
  have v1 : Row W1 vb 58 r.cells := (hold1 vb (by rw [← hh]; exact hv.lt)).trans hv
  have s1 : W1.rangeAt g 0 (cellsL l) := rangeAt_of_cur ((hold1 g hglt).trans hg) htk
  have r1 : W1.rangeAt h 0 ((cellsL l).take (i * 17)) := fun j v hj => by
    have hj2 : j < i * 17 := by
      have := (List.getElem?_eq_some_iff.1 hj).1
      omega
    rw [Nat.zero_add, cell_of_row W1 h j D _ (0, 0) f1, ← hD, Array.getElem?_append_left (by simp; omega), Array.getElem?_append_left (by simp; omega)]
    simpa using hj
  have hsz6 : (Tryz.prog.info? 58).map (·.size) = some 17 := by rw [hi0]; simp [hzs]
  have one1 : ∀ u ∈ r.cells, u.oneCell' = true := fun u hu => cellsL_one [r] u (by simpa [cellsL] using hu)
  have isS : ∀ {W : World} {c : Array Value}, W.heap[h]? = some (.cells c 58 (0, 0)) → c.size = G * 17 → ∀ j, j < G * 17 → (W.cell? ⟨h, j, none⟩).isSome = true ∧ W.frozen? ⟨h, j, none⟩ = false := fun {W c} hW hc j hj => by
    refine ⟨?_, by simp [World.frozen?, hW]⟩
    rw [cell_of_row W h j c _ (0, 0) hW, Array.getElem?_eq_getElem (by omega)]
    rfl
  have hmA : Nat.min 1 (cap + 1 - i) = 1 := by show min 1 (cap + 1 - i) = 1; omega
  have cpA : ∀ ty dc, (Builtin.copy_ #[27, 27] ty #[.slice (some ⟨h, i * 17, none⟩) (cap + 1 - i) dc, .slice (some ⟨vb, 0, none⟩) 1 1]).run Tryz.prog W1 = .ok (goInt (Nat.min 1 (cap + 1 - i))) (W1.setCells h (i * 17) r.cells) := fun ty dc =>
    run_copy_k W1 _ _ ty 58 17 h (i * 17) (cap + 1 - i) dc ⟨vb, 0, none⟩ 1 1 r.cells u36 hsz6 (by rw [hmA, cells_len]) (fun j v hj => by rw [Addr.add_mid, Nat.zero_add, v1.cell]; exact hj)
      (fun j hj => (isS f1 hDs _ (by rw [cells_len] at hj; omega)).1) (fun j hj => (isS f1 hDs _ (by rw [cells_len] at hj; omega)).2) one1
  have t1 : W1.there h (i * 17) r.cells.length := fun j hj => isS f1 hDs _ (by rw [cells_len] at hj; omega)
  have r2 := World.rangeAt_setCells_same W1 h (i * 17) r.cells t1
  have r1b := World.rangeAt_setCells_apart r1 h (i * 17) r.cells (Or.inr (Or.inl (by omega)))
  have s2 := World.rangeAt_setCells_apart s1 h (i * 17) r.cells (Or.inl (by omega))
  have B2 := below_setCells (B := B) h hB r.cells (i * 17) W1 B1
  obtain ⟨c2, f2, hc2⟩ := setCells_shape h _ _ r.cells (i * 17) W1 D f1
  obtain ⟨W2, hW2⟩ : ∃ W2, W1.setCells h (i * 17) r.cells = W2 := ⟨_, rfl⟩
  rw [hW2] at cpA r2 r1b s2 B2 f2
  have hdl : ((cellsL l).drop (i * 17)).length = (cap - i) * 17 := by rw [List.length_drop]; omega
  have hmB : Nat.min (cap - i) (cap + 1 - (i + 1)) = cap - i := by show min (cap - i) (cap + 1 - (i + 1)) = cap - i; omega
  have f2' : W2.drew.heap[h]? = some (.cells c2 58 (0, 0)) := f2
  have cpB : ∀ ty dc sc, (Builtin.copy_ #[27, 27] ty #[.slice (some ⟨h, (i + 1) * 17, none⟩) (cap + 1 - (i + 1)) dc, .slice (some ⟨g, i * 17, none⟩) (cap - i) sc]).run Tryz.prog W2.drew = .ok (goInt (Nat.min (cap - i) (cap + 1 - (i + 1)))) (W2.drew.setCells h ((i + 1) * 17) ((cellsL l).drop (i * 17))) := fun ty dc sc =>
    run_copy_k W2.drew _ _ ty 58 17 h ((i + 1) * 17) (cap + 1 - (i + 1)) dc ⟨g, i * 17, none⟩ (cap - i) sc ((cellsL l).drop (i * 17)) u36 hsz6 (by rw [hmB, hdl]) (fun j v hj => by
        rw [Addr.add_mid]
        have := rangeAt_drop s2 (i * 17) j v hj
        rw [Nat.zero_add] at this
        exact this)
      (fun j hj => (isS f2' (hc2.trans hDs) _ (by omega)).1) (fun j hj => (isS f2' (hc2.trans hDs) _ (by omega)).2) (fun u hu => cellsL_one l u (List.mem_of_mem_drop hu))
  have t2 : W2.drew.there h ((i + 1) * 17) ((cellsL l).drop (i * 17)).length := fun j hj => isS f2' (hc2.trans hDs) _ (by omega)
  have q3 := World.rangeAt_setCells_same W2.drew h ((i + 1) * 17) _ t2
  have q1 := World.rangeAt_setCells_apart ((World.rangeAt_drew W2 h 0 _).2 r1b) h ((i + 1) * 17) ((cellsL l).drop (i * 17)) (Or.inr (Or.inl (by omega)))
  have q2 := World.rangeAt_setCells_apart ((World.rangeAt_drew W2 h (i * 17) _).2 r2) h ((i + 1) * 17) ((cellsL l).drop (i * 17)) (Or.inr (Or.inl (by rw [cells_len]; omega)))
  have B3 := below_setCells (B := B) h hB ((cellsL l).drop (i * 17)) ((i + 1) * 17) W2.drew B2.drew
  obtain ⟨c3, f3, hc3⟩ := setCells_shape h _ _ ((cellsL l).drop (i * 17)) ((i + 1) * 17) W2.drew c2 f2'
  obtain ⟨W3, hW3⟩ : ∃ W3, W2.drew.setCells h ((i + 1) * 17) ((cellsL l).drop (i * 17)) = W3 := ⟨_, rfl⟩
  rw [hW3] at cpB q1 q2 q3 B3 f3
  have HO : Hid (OWN B W3 (.slice (some ⟨h, 0, none⟩) (cap + 1) G) (insL l i r) ∧ Below B w W3) := Lib.hid ⟨by
    have := own_ins (B := B) (l := l) (r := r) (i := i) ⟨c3, f3, by rw [hc3, hc2, hDs]⟩ (by omega) hG2 hB (by omega) q1 q2 (by rw [show i * 17 + 17 = (i + 1) * 17 by omega]; exact q3)
    rw [hn] at this
    exact this, B3⟩
  have mixed : Tryz.prog.follows Departure.mixedOrders = true := by kernel_rfl
  have hkk : (cap : Int) + 1 - (i : Int) = ((cap + 1 - i : Nat) : Int) := by omega
  have hz2 : ¬ ((i : Int) = (cap : Int)) := by omega
  have hz3 : (cap : Int) < (cap : Int) + 1 := by omega
  have hGi : ¬ (G = i) := by omega
  have hGim : ¬ (G = i + 1) := by omega
  have hci : ¬ (cap = i) := by omega
  have hw1 : IntKind.i64.wrap ((i : Int) + 1) = (i : Int) + 1 := by rw [IntKind.wrap_i64]; omega
  have hb1 : (0 : Int) ≤ (i : Int) + 1 := by omega
  have htn : ((i : Int) + 1).toNat = i + 1 := by omega
  have hb3 : (i : Int) ≤ (cap : Int) := by omega
  have hin : i ≤ cap := by omega
  have hgz' := Lib.hid hgz
  have cpB' := Lib.hid cpB
  unfold maxLen at hG2
  clear hgz cpB q1 q2 q3 B3 f3 hW3 r1b r2 s2 B2 f2 f2' hc2 hc3 hW2 t1 t2 hmA hmB isS one1 hsz6 r1 s1 v1 hold1 B1 f1 hW1 hDs htl hD hG hold hcl hR0 hv htk hg hn hdl
  go_enter Tryz.func24, Tryz.ntmps24
  go_wp2_with (at_builtin; refine Lib.wpList_append_run _ rfl _ _ _ _ rfl _ _ rfl rfl _ _ (hgz'.out _) ?_)
  go_region_law_o (refine step_copy_r rfl _ _ 27 27 rfl (.slice (some ⟨h, (i + 1) * 17, none⟩) (cap + 1 - (i + 1)) (G - (i + 1))) (.slice (some ⟨g, i * 17, none⟩) (cap - i) (cap - i)) (by simp [Act.eval, Act.put]) (by simp [Act.eval, Act.put]) (cpB'.out 3 (G - (i + 1)) (cap - i)) ?_)
  go_wp2
  go_ret
  exact ⟨_, rfl, HO.out.1, HO.out.2⟩

set_option maxHeartbeats 4000000 in
set_option maxRecDepth 100000 in
/-- .. ahead of the end, with room: in place. -/
theorem Insert_room (B : Nat) (l : List EN) (h64 : l.length ≤ 63) (r : EN) (i : Nat) (hi : i < l.length) (g cap : Nat) (cur : Array Value) (vb : Nat) (w : World) (hB : B ≤ g) (hg : w.heap[g]? = some (.cells cur 58 (0, 0))) (hroom : l.length + 1 ≤ cap) (hcm : cap ≤ maxLen) (hcs : cur.size = cap * 17)
    (htk : cur.toList.take (l.length * 17) = cellsL l) (hv : Row w vb 58 r.cells) (hne : vb ≠ g) :
    Calls Tryz.prog 24 #[.slice (some ⟨g, 0, none⟩) l.length cap, .int .i64 i, .slice (some ⟨vb, 0, none⟩) 1 1] w fun e w' => ∃ s', e = .returned s' ∧ OWN B w' s' (insL l i r) ∧ Below B w w' := by
  have u36 := Tryz.underlying27
  have u3 := Tryz.underlying3
  obtain ⟨i0, z0, hi0, hz0, hzs, hzb, hzc⟩ := entry_info
  obtain ⟨n, hn⟩ : ∃ n, l.length = n := ⟨_, rfl⟩
  rw [hn] at h64 hi hroom ⊢
  have hR0 := rangeAt_of_cur hg htk
  have hcl := cellsL_len l
  rw [hn] at hcl
  have hsz6 : (Tryz.prog.info? 58).map (·.size) = some 17 := by rw [hi0]; simp [hzs]
  have hszO : ∀ w, (Go.sizeOf 58).run Tryz.prog w = .ok 17 w := fun w => by simp [sizeOf, typeInfo, hi0, hzs]
  have one1 : ∀ u ∈ r.cells, u.oneCell' = true := fun u hu => cellsL_one [r] u (by simpa [cellsL] using hu)
  have hov : ∀ lb cb, (callFunc 34 #[.slice (some ⟨vb, 0, none⟩) 1 1, .slice (some ⟨g, (i + 1) * 17, none⟩) lb cb]).run Tryz.prog w = .ok (.value (.bool false)) w := fun lb cb => by
    rw [run_callFunc_extern Tryz.func34 (by kernel_rfl) (by kernel_rfl) (by kernel_rfl) (e := Extern.SlicesOverlaps.overlaps #[27, 27] #[4]) (by kernel_rfl),
      Lib.run_overlaps_apart w 27 4 58 u36 17 hszO ⟨vb, 0, none⟩ ⟨g, (i + 1) * 17, none⟩ 1 1 lb cb hne 58 58 17 (cap * 17) (by unfold Row at hv; simp [World.shape?, hv, cells_len]) (by simp [World.shape?, hg, hcs]) (by omega) (hv.frozen 0) (hv.frozen 17)]
    rfl
  have isS : ∀ {W : World} {c : Array Value}, W.heap[g]? = some (.cells c 58 (0, 0)) → c.size = cap * 17 → ∀ j, j < cap * 17 → (W.cell? ⟨g, j, none⟩).isSome = true ∧ W.frozen? ⟨g, j, none⟩ = false := fun {W c} hW hc j hj => by
    refine ⟨?_, by simp [World.frozen?, hW]⟩
    rw [cell_of_row W g j c _ (0, 0) hW, Array.getElem?_eq_getElem (by omega)]
    rfl
  have hdl : ((cellsL l).drop (i * 17)).length = (n - i) * 17 := by rw [List.length_drop]; omega
  have htl : ((cellsL l).take (i * 17)).length = i * 17 := by rw [List.length_take]; omega
  have hmB : Nat.min (n + 1 - i) (n + 1 - (i + 1)) = n - i := by show min (n + 1 - i) (n + 1 - (i + 1)) = n - i; omega
  have f0' : w.drew.heap[g]? = some (.cells cur 58 (0, 0)) := hg
  have cpB : ∀ ty dc sc, (Builtin.copy_ #[27, 27] ty #[.slice (some ⟨g, (i + 1) * 17, none⟩) (n + 1 - (i + 1)) dc, .slice (some ⟨g, i * 17, none⟩) (n + 1 - i) sc]).run Tryz.prog w.drew = .ok (goInt (Nat.min (n + 1 - i) (n + 1 - (i + 1)))) (w.drew.setCells g ((i + 1) * 17) ((cellsL l).drop (i * 17))) := fun ty dc sc =>
    run_copy_k w.drew _ _ ty 58 17 g ((i + 1) * 17) (n + 1 - (i + 1)) dc ⟨g, i * 17, none⟩ (n + 1 - i) sc ((cellsL l).drop (i * 17)) u36 hsz6 (by rw [hmB, hdl]) (fun j v hj => by
        rw [Addr.add_mid]
        have := rangeAt_drop hR0 (i * 17) j v hj
        rw [Nat.zero_add] at this
        exact this)
      (fun j hj => (isS f0' hcs _ (by omega)).1) (fun j hj => (isS f0' hcs _ (by omega)).2) (fun u hu => cellsL_one l u (List.mem_of_mem_drop hu))
  have t1 : w.drew.there g ((i + 1) * 17) ((cellsL l).drop (i * 17)).length := fun j hj => isS f0' hcs _ (by omega)
  have q3 := World.rangeAt_setCells_same w.drew g ((i + 1) * 17) _ t1
  have q1 := World.rangeAt_setCells_apart ((World.rangeAt_drew w g 0 _).2 (rangeAt_take hR0 (i * 17))) g ((i + 1) * 17) ((cellsL l).drop (i * 17)) (Or.inr (Or.inl (by omega)))
  have B1 := below_setCells (B := B) g hB ((cellsL l).drop (i * 17)) ((i + 1) * 17) w.drew (Below.refl B w).drew
  have vv1 : (w.drew.setCells g ((i + 1) * 17) ((cellsL l).drop (i * 17))).rangeAt vb 0 r.cells := World.rangeAt_setCells_apart (w := w.drew) (fun j v hj => by rw [Nat.zero_add]; show w.cell? _ = _; rw [hv.cell]; exact hj) g ((i + 1) * 17) _ (Or.inl hne)
  obtain ⟨c1, f1, hc1⟩ := setCells_shape g _ _ ((cellsL l).drop (i * 17)) ((i + 1) * 17) w.drew cur f0'
  obtain ⟨W1, hW1⟩ : ∃ W1, w.drew.setCells g ((i + 1) * 17) ((cellsL l).drop (i * 17)) = W1 := ⟨_, rfl⟩
  rw [hW1] at cpB q1 q3 B1 vv1 f1
  have hmA : Nat.min 1 (n + 1 - i) = 1 := by show min 1 (n + 1 - i) = 1; omega
  have cpA : ∀ ty dc, (Builtin.copy_ #[27, 27] ty #[.slice (some ⟨g, i * 17, none⟩) (n + 1 - i) dc, .slice (some ⟨vb, 0, none⟩) 1 1]).run Tryz.prog W1 = .ok (goInt (Nat.min 1 (n + 1 - i))) (W1.setCells g (i * 17) r.cells) := fun ty dc =>
    run_copy_k W1 _ _ ty 58 17 g (i * 17) (n + 1 - i) dc ⟨vb, 0, none⟩ 1 1 r.cells u36 hsz6 (by rw [hmA, cells_len]) (fun j v hj => by rw [Addr.add_mid]; exact vv1 j v hj)
      (fun j hj => (isS f1 (hc1.trans hcs) _ (by rw [cells_len] at hj; omega)).1) (fun j hj => (isS f1 (hc1.trans hcs) _ (by rw [cells_len] at hj; omega)).2) one1
  have t2 : W1.there g (i * 17) r.cells.length := fun j hj => isS f1 (hc1.trans hcs) _ (by rw [cells_len] at hj; omega)
  have p2 := World.rangeAt_setCells_same W1 g (i * 17) r.cells t2
  have p1 := World.rangeAt_setCells_apart q1 g (i * 17) r.cells (Or.inr (Or.inl (by omega)))
  have p3 := World.rangeAt_setCells_apart q3 g (i * 17) r.cells (Or.inr (Or.inr (by rw [cells_len]; omega)))
  have B2 := below_setCells (B := B) g hB r.cells (i * 17) W1 B1
  obtain ⟨c2, f2, hc2⟩ := setCells_shape g _ _ r.cells (i * 17) W1 c1 f1
  obtain ⟨W2, hW2⟩ : ∃ W2, W1.setCells g (i * 17) r.cells = W2 := ⟨_, rfl⟩
  rw [hW2] at cpA p1 p2 p3 B2 f2
  have HO : Hid (OWN B W2 (.slice (some ⟨g, 0, none⟩) (n + 1) cap) (insL l i r) ∧ Below B w W2) := Lib.hid ⟨by
    have := own_ins (B := B) (l := l) (r := r) (i := i) ⟨c2, f2, by rw [hc2, hc1, hcs]⟩ (by omega) hcm hB (by omega) p1 p2 (by rw [show i * 17 + 17 = (i + 1) * 17 by omega]; exact p3)
    rw [hn] at this
    exact this, B2⟩
  have mixed : Tryz.prog.follows Departure.mixedOrders = true := by kernel_rfl
  have hz2 : ¬ ((i : Int) = (n : Int)) := by omega
  have hz3 : ¬ ((cap : Int) < (n : Int) + 1) := by omega
  have hw1 : IntKind.i64.wrap ((i : Int) + 1) = (i : Int) + 1 := by rw [IntKind.wrap_i64]; omega
  have hb1 : (0 : Int) ≤ (i : Int) + 1 := by omega
  have htn : ((i : Int) + 1).toNat = i + 1 := by omega
  have htn2 : ((n : Int) + 1).toNat = n + 1 := by omega
  have hb3 : (i : Int) ≤ (n : Int) + 1 := by omega
  have hb2 : ¬ (cap = i + 1) := by omega
  have hb4 : ¬ (cap = i) := by omega
  have hin : i ≤ n := by omega
  have hroomI : (n : Int) + 1 ≤ (cap : Int) := by omega
  have cpB' := Lib.hid cpB
  unfold maxLen at hcm
  clear cpB hW2 hW1 p1 p2 p3 B2 f2 hc2 t2 hmA vv1 q1 q3 B1 t1 f1 hc1 f0' hmB htl hdl isS one1 hszO hsz6 hcl hR0 hv htk hg hn hcs
  go_enter Tryz.func24, Tryz.ntmps24
  go_wp2_with (simp only [hov])
  go_region_law_o (refine step_copy_r rfl _ _ 27 27 rfl (.slice (some ⟨g, (i + 1) * 17, none⟩) (n + 1 - (i + 1)) (cap - (i + 1))) (.slice (some ⟨g, i * 17, none⟩) (n + 1 - i) (cap - i)) (by simp [Act.eval, Act.put]) (by simp [Act.eval, Act.put]) (cpB'.out 3 (cap - (i + 1)) (cap - i)) ?_)
  go_wp2
  go_ret
  exact ⟨_, rfl, HO.out.1, HO.out.2⟩
end Go.Proofs.YtoampocobmeebaaGreatDoor.Tm
