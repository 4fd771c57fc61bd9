/- The sum of what was added, told. -/
import Derived.Test.YtdhplohppcndhaaDoorSSum
namespace Go.Proofs.YtdhplohppcndhaaDoor
open Go.RowKit
set_option linter.unusedVariables false
set_option linter.unusedSimpArgs false

set_option maxRecDepth 4000 in
set_option maxHeartbeats 4000000 in
theorem HSum_any (st : S8) (hl : List UInt8) (n : Nat) (hh : hl.length = 64) (hn : n ≤ 140737488355000) (w : World) (hG : G w) :
    Calls Tryd.prog 14 #[hashV st hl n] w fun e w' => e = .returned (sumV (bytes8 (mixK (begun st n) (hl.take (n % 64) ++ endL n) ((hl.take (n % 64) ++ endL n).length / 64)))) ∧ Below w.heap.size w w' := by
  have hz := (zero_of_info s32_info).1
  obtain ⟨C, hC⟩ : ∃ C, hashC st hl n = C := ⟨_, rfl⟩
  have hCl : C.length = 73 := by rw [← hC]; exact hashC_length _ _ hh
  obtain ⟨w1, hw1⟩ : ∃ w1, (w.alloc (.cells C.toArray 33)).alloc (.cells z32.toArray 26) = w1 := ⟨_, rfl⟩
  have hr0 : Row w1 w.heap.size 33 C := by rw [← hw1]; exact (Row.new w _ _).alloc _
  have hr1 : Row w1 (w.heap.size + 1) 26 z32 := by
    have h := Row.new (w.alloc (.cells C.toArray 33)) 26 z32
    rw [World.size_alloc] at h
    rw [← hw1]
    exact h
  have hb1 : Below w.heap.size w w1 := by rw [← hw1]; exact ((Below.refl _ _).alloc (Nat.le_refl _) _).alloc (by simp) _
  have e0 : hashV st hl n = .agg C.toArray := by rw [← hC]; rfl
  have c72 : C[72]? = some (.int .u64 n) := by rw [← hC]; exact hashC_size st n hh
  have HREST : Hid (∀ W : World, Calls Tryd.prog 40 #[.agg C.toArray] W fun e w' => e = .returned (.string ⟨(hl.take (n % 64)).toArray⟩) ∧ Below W.heap.size W w') := Lib.hid fun W => by
    rw [← e0]; exact rest_any st hl n hh (by omega) W
  have HBEG : Hid (∀ W : World, G W → Calls Tryd.prog 42 #[.agg C.toArray] W fun e w' => e = .returned (s8v (begun st n)) ∧ Below W.heap.size W w') := Lib.hid fun W hg => by
    rw [← e0]; exact begun_any st hl n hh (by omega) W hg
  obtain ⟨R, hR⟩ : ∃ R : ByteArray, (⟨(hl.take (n % 64)).toArray⟩ : ByteArray) = R := ⟨_, rfl⟩
  obtain ⟨E, hE⟩ : ∃ E : ByteArray, (⟨(endL n).toArray⟩ : ByteArray) = E := ⟨_, rfl⟩
  have HEND : Hid (∀ W : World, Calls Tryd.prog 47 #[.int .u64 n] W fun e w' => e = .returned (.string E) ∧ Below W.heap.size W w') := Lib.hid fun W => by
    rw [← hE]; exact ending_any n W (by omega)
  have hRs : R.size ≤ 64 := by rw [← hR]; show (hl.take (n % 64)).toArray.size ≤ _; simp; omega
  have hEs : E.size ≤ 128 := by rw [← hE]; show (endL n).toArray.size ≤ _; rw [List.size_toArray, endL_length]; omega
  obtain ⟨X, hX⟩ : ∃ X : ByteArray, R ++ E = X := ⟨_, rfl⟩
  have hXs : X.size ≤ 192 := by rw [← hX, ByteArray.size_append]; omega
  have hXT : X.data.toList = hl.take (n % 64) ++ endL n := by rw [← hX, ← hR, ← hE]; simp
  have hXz : X.size = (hl.take (n % 64) ++ endL n).length := by rw [← hXT]; simp
  have hadd : ∀ W : World, (Op.stringOp .add R E).run Tryd.prog W = .ok (.string X) W := fun W => by rw [← hX]; exact run_string_add_sum W R E (by omega)
  rw [hR] at HREST
  rw [e0, ← hXz, ← hXT]
  obtain ⟨S, hS⟩ : ∃ S, mixK (begun st n) X.data.toList (X.size / 64) = S := ⟨_, rfl⟩
  have HMIX : Hid (∀ (W : World) (Bn : Nat), Row W Bn 9 [.string X] → Calls Tryd.prog 41 #[s8v (begun st n), .func (.func 74) #[] #[.pointer (some ⟨Bn, 0, none⟩)]] W fun e w' => e = .returned (s8v S) ∧ Below W.heap.size W w') := Lib.hid fun W Bn h => by
    rw [← hS]; exact mixed_whole (begun st n) X (by omega) W Bn h
  have HWR : Hid (∀ W : World, Calls Tryd.prog 44 #[s8v S] W fun e w' => e = .returned (sumV (bytes8 S)) ∧ Below W.heap.size W w') := Lib.hid fun W => written_any S W
  rw [hS]
  obtain ⟨cs, hcs⟩ : ∃ cs, (bytes8 S).map bv = cs := ⟨_, rfl⟩
  have hcl : cs.length = 32 := by rw [← hcs, ← sumRow_all, sumRow_length S (Nat.le_refl _)]
  have hc1 : ∀ v ∈ cs, v.oneCell' = true := by
    rw [← hcs]
    intro v hv
    simp only [List.mem_map] at hv
    obtain ⟨c, _, rfl⟩ := hv
    rfl
  have hsz : (Tryd.prog.info? 26).map (·.size) = some cs.length := by rw [s32_size, hcl]
  have ecs : sumV (bytes8 S) = .agg cs.toArray := by rw [← hcs]; rfl
  rw [ecs] at HWR ⊢
  have hu33 := Tryd.underlying33
  have hi33 : (Tryd.prog.info? 33).map (·.size) = some C.length := by rw [hash_size, hCl]
  have hk : Below w.heap.size w w1.drew ∧ Row w1.drew w.heap.size 33 C ∧ Row w1.drew (w.heap.size + 1) 26 z32 := ⟨below_drewN hb1 1, Row.drewN hr0 1, Row.drewN hr1 1⟩
  have HN : Hid (∀ W W' : World, (Below w.heap.size w W ∧ Row W w.heap.size 33 C ∧ Row W (w.heap.size + 1) 26 z32) → Below W.heap.size W W' → (Below w.heap.size w W' ∧ Row W' w.heap.size 33 C ∧ Row W' (w.heap.size + 1) 26 z32)) := Lib.hid fun W W' h hb =>
    ⟨h.1.trans (hb.mono h.1.size), h.2.1.below hb h.2.1.lt, h.2.2.below hb h.2.2.lt⟩
  have HST : Hid (∀ W : World, (Below w.heap.size w W ∧ Row W w.heap.size 33 C ∧ Row W (w.heap.size + 1) 26 z32) → (Below w.heap.size w (W.setCells (w.heap.size + 1) 0 cs) ∧ Row (W.setCells (w.heap.size + 1) 0 cs) w.heap.size 33 C ∧ ∃ z, Row (W.setCells (w.heap.size + 1) 0 cs) (w.heap.size + 1) 26 z)) := Lib.hid fun W h =>
    ⟨below_setCells (by omega) _ _ _ h.1, h.2.1.below (below_setCells (B := w.heap.size + 1) (Nat.le_refl _) cs 0 W (Below.refl _ _)) (by omega), _, row_setCells cs [] z32 W (by rw [hcl]; rfl) h.2.2⟩
  have hct : cs.toArray.size = 32 := by rw [List.size_toArray, hcl]
  have HG := Lib.hid hG
  have HW := Lib.hid hw1
  clear e0 hw1 hr0 hr1 hb1 hcs hX hXT hXz hXs hRs hEs hR hE hS ecs hG hC
  go_enter Tryd.func14, Tryd.ntmps14
  go_upto_region 1 with fail
  rw [HW.out]
  refine wp_region_held_drew (S := fun W => Below w.heap.size w W ∧ Row W w.heap.size 33 C ∧ ∃ z, Row W (w.heap.size + 1) 26 z) (by kernel_rfl) ⟨hk.1, hk.2.1, _, hk.2.2⟩ (fun hHeld => ?_)
  refine' wpAnyH_take (i := 0) (oi := _) (v := _) rfl (by kernel_rfl) (by kernel_rfl) (by kernel_rfl) (fun _ _ _ h => h) (yieldsIf_load_mid (by rfl) _ _ rfl w.heap.size 0 rfl C _ (fun W h => (fun j v hj => by rw [Nat.zero_add, h.2.1.cell]; exact hj)) hu33 rfl hi33) hHeld ?_
  simp only [Act.put, List.setIfInBounds_toArray, List.set_cons_zero, List.set_cons_succ]
  refine' wpAnyH_take (i := 2) (oi := _) (v := _) rfl (by kernel_rfl) (by kernel_rfl) (by kernel_rfl) (fun _ _ _ h => h) (yieldsIf_load_mid (by rfl) _ _ rfl w.heap.size 0 rfl C _ (fun W h => (fun j v hj => by rw [Nat.zero_add, h.2.1.cell]; exact hj)) hu33 rfl hi33) hHeld ?_
  simp only [Act.put, List.setIfInBounds_toArray, List.set_cons_zero, List.set_cons_succ]
  refine wpAnyH_take (i := 4) (oi := _) (v := ?v4) rfl (by kernel_rfl) (by kernel_rfl) (by kernel_rfl) (fun _ _ _ h => h) (Or.inl ⟨by rfl, ?y4⟩) hHeld ?_
  case v4 => exact .pointer (some ⟨w.heap.size, 72, none⟩)
  case y4 =>
    intro W hS
    go_simp
  simp only [Act.put, List.setIfInBounds_toArray, List.set_cons_zero, List.set_cons_succ]
  refine wpAnyH_take (i := 5) (oi := _) (v := ?v5) rfl (by kernel_rfl) (by kernel_rfl) (by kernel_rfl) (fun _ _ _ h => h) (Or.inl ⟨by rfl, ?y5⟩) hHeld ?_
  case v5 => exact .int .u64 n
  case y5 =>
    intro W hS
    have h72 := (hS.2.1.cell 72).trans c72
    go_simp
  simp only [Act.put, List.setIfInBounds_toArray, List.set_cons_zero, List.set_cons_succ]
  refine wpAnyH_ready (rs := [1]) (by kernel_rfl) (by simp) (AllReadyH.cons rfl (fun K hK => ?_) AllReadyH.nil)
  go_simp
  go_at_call 42
  refine (HBEG.out _ (HG.out.below hk.1)).mono ?_
  rintro e w2 ⟨rfl, hb2⟩
  have hk := HN.out _ _ hk hb2
  refine hK.out _ _ ⟨hk.1, hk.2.1, _, hk.2.2⟩ (fun hHeld => ?_)
  clear hK K
  try simp only [Act.put, List.setIfInBounds_toArray, List.set_cons_zero, List.set_cons_succ]
  refine wpAnyH_ready (rs := [3]) (by kernel_rfl) (by simp) (AllReadyH.cons rfl (fun K hK => ?_) AllReadyH.nil)
  go_simp
  go_at_call 40
  refine (HREST.out _).mono ?_
  rintro e w2 ⟨rfl, hb2⟩
  have hk := HN.out _ _ hk hb2
  refine hK.out _ _ ⟨hk.1, hk.2.1, _, hk.2.2⟩ (fun hHeld => ?_)
  clear hK K
  try simp only [Act.put, List.setIfInBounds_toArray, List.set_cons_zero, List.set_cons_succ]
  refine wpAnyH_ready (rs := [6]) (by kernel_rfl) (by simp) (AllReadyH.cons rfl (fun K hK => ?_) AllReadyH.nil)
  go_simp
  go_at_call 47
  refine (HEND.out _).mono ?_
  rintro e w2 ⟨rfl, hb2⟩
  have hk := HN.out _ _ hk hb2
  refine hK.out _ _ ⟨hk.1, hk.2.1, _, hk.2.2⟩ (fun hHeld => ?_)
  clear hK K
  try simp only [Act.put, List.setIfInBounds_toArray, List.set_cons_zero, List.set_cons_succ]
  refine wpAnyH_ready (rs := [7]) (by kernel_rfl) (by simp) (AllReadyH.cons rfl (fun K hK => ?_) AllReadyH.nil)
  go_simp
  refine hK.out _ _ ⟨hk.1, hk.2.1, _, hk.2.2⟩ (fun hHeld => ?_)
  clear hK K
  try simp only [Act.put, List.setIfInBounds_toArray, List.set_cons_zero, List.set_cons_succ]
  refine wpAnyH_ready (rs := [8]) (by kernel_rfl) (by simp) (AllReadyH.cons rfl (fun K hK => ?_) AllReadyH.nil)
  go_simp
  go_at_call 43
  refine (callsIn_wide.1 (whole_in 0 X _)).mono ?_
  rintro e w3 ⟨rfl, hw3⟩
  have hx := Row.new w2 9 [Value.string X]
  rw [← hw3] at hx
  have hk := HN.out w2 w3 hk (by rw [hw3]; exact (Below.refl _ _).alloc (Nat.le_refl _) _)
  clear hw3
  refine hK.out _ _ ⟨hk.1, hk.2.1, _, hk.2.2⟩ (fun hHeld => ?_)
  clear hK K
  try simp only [Act.put, List.setIfInBounds_toArray, List.set_cons_zero, List.set_cons_succ]
  refine wpAnyH_ready (rs := [9]) (by kernel_rfl) (by simp) (AllReadyH.cons rfl (fun K hK => ?_) AllReadyH.nil)
  go_simp
  go_at_call 41
  refine (HMIX.out _ _ hx).mono ?_
  rintro e w2 ⟨rfl, hb2⟩
  have hk := HN.out _ _ hk hb2
  refine hK.out _ _ ⟨hk.1, hk.2.1, _, hk.2.2⟩ (fun hHeld => ?_)
  clear hK K
  try simp only [Act.put, List.setIfInBounds_toArray, List.set_cons_zero, List.set_cons_succ]
  refine wpAnyH_ready (rs := [10]) (by kernel_rfl) (by simp) (AllReadyH.cons rfl (fun K hK => ?_) AllReadyH.nil)
  go_simp
  go_at_call 44
  refine (HWR.out _).mono ?_
  rintro e w2 ⟨rfl, hb2⟩
  have hk := HN.out _ _ hk hb2
  refine hK.out _ _ ⟨hk.1, hk.2.1, _, hk.2.2⟩ (fun hHeld => ?_)
  clear hK K
  try simp only [Act.put, List.setIfInBounds_toArray, List.set_cons_zero, List.set_cons_succ]
  refine wpAnyH_ready (rs := [11]) (by kernel_rfl) (by simp) (AllReadyH.cons rfl (fun K hK => ?_) AllReadyH.nil)
  rw [if_pos (by rfl)]
  refine wp_store_mid 26 _ _ rfl (w.heap.size + 1) 0 cs.toArray rfl rfl (by rw [hct]; exact row_there hk.2.2) (by rw [hsz, hct, hcl]) (all_oneCell_toArray hc1) ?_
  refine hK.out _ _ (HST.out _ hk) (fun hHeld => ?_)
  clear hK K
  refine wpAnyH_done (by kernel_rfl) ?_ _
  go_wp2
  exact bodyPost_ret (v := .agg cs.toArray) (results_cell_row rfl _ _ (w.heap.size + 1) 26 cs.toArray (0, 0) _ rfl (row_setCells cs [] z32 w2 (by rw [hcl]; rfl) hk.2.2) Tryd.underlying26 rfl (by rw [s32_size, List.size_toArray, hcl])) rfl ⟨rfl, below_setCells (by omega) _ _ _ hk.1⟩
end Go.Proofs.YtdhplohppcndhaaDoor
