/- The statement of ShaSums: whatever comes in, the law answers true, and what came in reads as it did. (In one text with what it leans on: ShaSumsW, ShaSums.) -/
import Derived.WalkKit
import Derived.ProofKit
import Derived.OpenShut
import Derived.ShutString
import Derived.SizedLaws
import Derived.LaidMore
import Derived.Stop.Joined
import Derived.SevenTiedAt
import Derived.Test.YtdhplohppcndhaaDoorSJoin
import Derived.Test.YtdhplohppcndhaaDoorAwk5
import Derived.Test.YtdhplohppcndhaaDoorRText
import Derived.Test.YtdhplohppcndhaaDoorEqArr
import Derived.Test.YtdhplohppcndhaaDoorRows
import Derived.Test.YtdhplohppcndhaaDoorCards
import Derived.Test.YtdhplohppcndhaaDoorTie
import Derived.Test.YtdhplohppcndhaaDoorLaid
namespace Go.Proofs.YtdhplohppcndhaaDoor
open Go.RowKit
set_option linter.unusedVariables false
set_option linter.unusedSimpArgs false

/-- A region whose orders come to one: the frame by a number, the world by a word. -/
theorem wp_join {P : Program} {id : Nat} {ops : Array Oper} {b : Bool} {Q : Exit → Act → World → Prop} {a : Act} {w : World} (fr : Act → Nat → Act) (Post : Nat → World → Prop)
    (h1 : (Code.region id ops b).wp P (fun e a' w' => e = .normal ∧ ∃ g, a' = fr a g ∧ Post g w') a w) (h2 : ∀ g w', Post g w' → Q .normal (fr a g) w') : (Code.region id ops b).wp P Q a w :=
  Code.wp_mono (fun e a' w' h => by obtain ⟨rfl, g, rfl, hp⟩ := h; exact h2 g w' hp) h1
theorem there_new (W : World) (cs : Array Value) (t : TypeId) (n : Nat) (h : n = cs.size) : (W.alloc (.cells cs t)).there W.heap.size 0 n := by
  have hr := Row.new W t cs.toList
  have := row_there (W := W.alloc (.cells cs t)) (b := W.heap.size) (t := t) (z := cs.toList) (by simpa using hr)
  rw [h]
  simpa using this
theorem store_row {P : Program} {W : World} {g : Nat} {t : TypeId} {z vs : List Value} (h : Row W g t z) (hl : z.length = vs.length) (h1 : vs.toArray.all (·.oneCell') = true) :
    (storeCells ⟨g, 0, none⟩ vs).run P W = .ok () (W.setCells g 0 vs) := by
  have ht := row_there h
  have := run_storeCells_cells (P := P) g 0 vs 0 W (fun j hj => by simpa using (ht j (by omega)).1) (fun j hj => by simpa using (ht j (by omega)).2)
    (fun v hv => (Array.all_eq_true_iff_forall_mem.1 h1) v (by simpa using hv))
  simpa using this
theorem load_row {P : Program} {W : World} {g : Nat} {t : TypeId} {z : List Value} (h : Row W g t z) :
    (loadCells ⟨g, 0, none⟩ z.length).run P W = .ok z.toArray W :=
  run_loadCells_list (P := P) W ⟨g, 0, none⟩ z (fun j v hv => by rw [Addr.add_mid, Nat.zero_add, h.cell]; exact hv)
theorem size_le {B n : Nat} {w W : World} (h : Below B w W) (hn : n ≤ w.heap.size) : n ≤ W.heap.size := Nat.le_trans hn h.size
theorem below_al {w W : World} (h : Below w.heap.size w W) (o : Obj) : Below w.heap.size w (W.alloc o) := h.alloc h.size o
theorem sum_cells (L : List UInt8) : ∃ cs : List Value, L.map bv = cs ∧ sumV L = .agg cs.toArray ∧ cs.toArray.all (·.oneCell') = true ∧ cs.length = L.length := by
  refine ⟨L.map bv, rfl, rfl, ?_, by simp⟩
  rw [Array.all_eq_true_iff_forall_mem]
  intro v hv
  simp only [List.mem_toArray, List.mem_map] at hv
  obtain ⟨c, _, rfl⟩ := hv
  rfl
theorem extract_join (t : ByteArray) (k : Nat) (h : k ≤ t.size) : (t.extract 0 k).data.toList ++ (t.extract k t.size).data.toList = t.data.toList := by
  have hl : t.data.toList.length = t.size := by simp
  rw [Lib.extract_data, Lib.extract_data, List.drop_zero, Nat.sub_zero]
  rw [List.take_of_length_le (l := t.data.toList.drop k) (by rw [List.length_drop]; omega)]
  exact List.take_append_drop k _
theorem repeat_a (c : Nat) : Lib.repeatL [97] c = List.replicate c (97 : UInt8) := by
  have := Lib.repeatL_replicate 97 1 c
  rwa [Nat.mul_one] at this

abbrev SS (gw gh g2 g3 : Nat) (cs HV1 HV2 HV0 : List Value) (w w' : World) : Prop :=
  Row w' gw 26 cs ∧ Row w' gh 33 HV1 ∧ Row w' g2 33 HV2 ∧ Row w' g3 33 HV0 ∧ Below w.heap.size w w'
theorem SS.next {gw gh g2 g3 : Nat} {cs HV1 HV2 HV0 : List Value} {w W W' : World} (h : SS gw gh g2 g3 cs HV1 HV2 HV0 w W) (hb : Below W.heap.size W W') : SS gw gh g2 g3 cs HV1 HV2 HV0 w W' :=
  ⟨h.1.below hb h.1.lt, h.2.1.below hb h.2.1.lt, h.2.2.1.below hb h.2.2.1.lt, h.2.2.2.1.below hb h.2.2.2.1.lt, h.2.2.2.2.trans (hb.mono h.2.2.2.2.size)⟩
theorem SS.al {gw gh g2 g3 : Nat} {cs HV1 HV2 HV0 : List Value} {w W : World} (h : SS gw gh g2 g3 cs HV1 HV2 HV0 w W) (o : Obj) : SS gw gh g2 g3 cs HV1 HV2 HV0 w (W.alloc o) :=
  h.next ((Below.refl _ _).alloc (Nat.le_refl _) o)
theorem SS.dr {gw gh g2 g3 : Nat} {cs HV1 HV2 HV0 : List Value} {w W : World} (h : SS gw gh g2 g3 cs HV1 HV2 HV0 w W) : SS gw gh g2 g3 cs HV1 HV2 HV0 w W.drew :=
  ⟨Row.drewN h.1 1, Row.drewN h.2.1 1, Row.drewN h.2.2.1 1, Row.drewN h.2.2.2.1 1, below_drewN h.2.2.2.2 1⟩

set_option maxRecDepth 100000 in
set_option maxHeartbeats 4000000 in
theorem ShaSums_walk (a0 : ByteArray) (a1 a2 : Int) (w0 : a0.size ≤ 140737488355328) (w1 : (Lit.int .u8 a1).wf = true) (w2 : (Lit.int .u16 a2).wf = true) (w : World) (hG : G w) :
    Calls Tryd.prog 3 #[.string a0, .int .u8 a1, .int .u16 a2] w fun e w' => e = .returned (.bool true) ∧ Below w.heap.size w w' := by
  have h1 : 0 ≤ a1 ∧ a1 ≤ 255 := by simpa [Lit.wf, IntKind.min, IntKind.max, IntKind.signed, IntKind.bits] using w1
  have h2 : 0 ≤ a2 ∧ a2 ≤ 65535 := by simpa [Lit.wf, IntKind.min, IntKind.max, IntKind.signed, IntKind.bits] using w2
  clear w1 w2
  obtain ⟨c, rfl⟩ := Int.eq_ofNat_of_zero_le h1.1
  obtain ⟨at', rfl⟩ := Int.eq_ofNat_of_zero_le h2.1
  have hc : c ≤ 255 := by omega
  have hat : at' ≤ 65535 := by omega
  clear h1 h2
  have HG := Lib.hid hG
  clear hG
  by_cases hbig : 1000 < a0.size
  · have hb : (1000 : Int) < (a0.size : Int) := by omega
    go_enter Tryd.func3, Tryd.ntmps3
    go_wp2_with fail
    refine (awake5_any _ HG.out).mono ?_
    rintro e wa ⟨rfl, hBa⟩
    go_wp2_with fail
    go_ret
    exact ⟨rfl, hBa⟩
  · have hb : (a0.size : Int) ≤ 1000 := by omega
    have hbn : a0.size ≤ 1000 := by omega
    have HR : Hid (∀ W : World, Calls Tryd.prog 9 #[.string ⟨#[97]⟩, .int .i64 c] W fun e w' => e = .returned (.string ⟨(List.replicate c 97).toArray⟩) ∧ Below W.heap.size W w') := Lib.hid fun W => by
      have h := Tryd.strings_Repeat ⟨#[97]⟩ c W (by omega) (by show 1 * c ≤ _; omega)
      rw [show Lib.repeatL (ByteArray.mk #[97]).data.toList c = List.replicate c 97 from repeat_a c] at h
      exact h
    obtain ⟨R, hR⟩ : ∃ R : ByteArray, (⟨(List.replicate c 97).toArray⟩ : ByteArray) = R := ⟨_, rfl⟩
    have hRs : R.size = c := by rw [← hR]; show (List.replicate c (97 : UInt8)).toArray.size = c; simp
    rw [hR] at HR
    obtain ⟨t, ht⟩ : ∃ t : ByteArray, a0 ++ R = t := ⟨_, rfl⟩
    have hts : t.size = a0.size + c := by rw [← ht, ByteArray.size_append, hRs]
    have htl : t.size ≤ 1255 := by omega
    have hadd : ∀ W : World, (Op.stringOp .add a0 R).run Tryd.prog W = .ok (.string t) W := fun W => by rw [← ht]; exact run_string_add_sum W a0 R (by omega)
    have HT := Lib.hid hts
    clear hR hRs ht hts
    obtain ⟨k, hkt, hk⟩ : ∃ k : Nat, k ≤ t.size ∧ ((at' : Nat) : Int) % ((t.size : Int) + 1) = (k : Int) := ⟨at' % (t.size + 1), by have := Nat.mod_lt at' (by omega : 0 < t.size + 1); omega, by push_cast; rfl⟩
    obtain ⟨cs, hcs, ecs, hone, hcl⟩ := sum_cells (shaL t.data.toList)
    rw [shaL_length] at hcl
    have HRS : Hid (∀ W : World, Calls Tryd.prog 10 #[.string t] W fun e w' => e = .returned (.agg cs.toArray) ∧ Below W.heap.size W w') := Lib.hid fun W => by
      rw [← ecs]; exact refSum_any t (by omega) W
    have HW := Lib.hid (And.intro hcl (And.intro hone (And.intro ecs hcs)))
    have hz := (zero_of_info s32_info).1
    clear hcl hone ecs hcs
    go_enter Tryd.func3, Tryd.ntmps3
    go_wp2_with fail
    refine (awake5_any _ HG.out).mono ?_
    rintro e wa ⟨rfl, hBa⟩
    go_wp2_with fail
    refine (HR.out _).mono ?_
    rintro e wb ⟨rfl, hBb⟩
    have hB := hBa.trans (hBb.mono hBa.size)
    clear hBa hBb
    go_wp2_with fail
    refine (HRS.out _).mono ?_
    rintro e wc ⟨rfl, hBc⟩
    have hC := hB.trans (hBc.mono hB.size)
    clear hB hBc
    have rW := (Row.new wc 26 z32).put cs
    have bW := below_setRow (B := w.heap.size) (hC.alloc hC.size (.cells z32.toArray 26)) hC.size cs.toArray
    go_wp2_with (refine wpList_store_row rfl 26 (.tmp 9) (.tmp 30) rfl wc.heap.size cs.toArray rfl rfl 26 z32.toArray (Row.new wc _ _) (by rw [s32_size, List.size_toArray, HW.out.1]) (by rw [List.size_toArray, List.size_toArray, HW.out.1]; rfl) HW.out.2.1 ?_)
    obtain ⟨gw, hgw⟩ : ∃ g, wc.heap.size = g := ⟨_, rfl⟩
    generalize (wc.alloc (.cells z32.toArray 26)).setRow wc.heap.size cs.toArray = wd at rW bW ⊢
    rw [hgw] at rW ⊢
    clear hC hgw
    obtain ⟨HV0, hV0⟩ : ∃ C, hashC zHash (List.replicate 64 0) 0 = C := ⟨_, rfl⟩
    obtain ⟨HV1, hV1⟩ : ∃ C, hashC (addS zHash 0 (t.extract 0 k).data.toList) (heldL (t.extract 0 k).data.toList) (t.extract 0 k).size = C := ⟨_, rfl⟩
    have HNEW : Hid (∀ W : World, Calls Tryd.prog 11 #[] W fun e w' => e = .returned (.agg HV0.toArray) ∧ Below W.heap.size W w') := Lib.hid fun W => by
      have h := New_any W
      unfold hashV at h
      rwa [hV0] at h
    have HADD1 : Hid (∀ W : World, G W → Calls Tryd.prog 12 #[.agg HV0.toArray, .string (t.extract 0 k)] W fun e w' => e = .returned (.agg HV1.toArray) ∧ Below W.heap.size W w') := Lib.hid fun W hg => by
      have h := Add_any zHash (List.replicate 64 0) 0 (t.extract 0 k) rfl (by rw [ByteArray.size_extract]; omega) (t.extract 0 k).data.toList (by simp) W hg
      unfold hashV at h
      rw [Nat.zero_add] at h
      rwa [hV0, hV1] at h
    obtain ⟨p, hp⟩ : ∃ p, t.extract 0 k = p := ⟨_, rfl⟩
    obtain ⟨q, hq⟩ : ∃ q, t.extract k t.size = q := ⟨_, rfl⟩
    have hps : p.size = k := by rw [← hp, ByteArray.size_extract]; omega
    have hqs : q.size = t.size - k := by rw [← hq, ByteArray.size_extract]; omega
    have hpq : p.data.toList ++ q.data.toList = t.data.toList := by rw [← hp, ← hq]; exact extract_join t k hkt
    rw [hp] at hV1 HADD1
    have hI1 : HashIs p.data.toList (addS zHash 0 p.data.toList) (heldL p.data.toList) p.size := by
      have h := hashIs_add hashIs_nil p.data.toList p.data.toList (by simp)
      simpa using h
    obtain ⟨T2, hT2⟩ : ∃ T2, (heldL p.data.toList).take (p.size % 64) ++ q.data.toList = T2 := ⟨_, rfl⟩
    obtain ⟨HV2, hV2⟩ : ∃ C, hashC (addS (addS zHash 0 p.data.toList) p.size T2) (heldL T2) (p.size + q.size) = C := ⟨_, rfl⟩
    have hI2 : HashIs t.data.toList (addS (addS zHash 0 p.data.toList) p.size T2) (heldL T2) (p.size + q.size) := by
      have h := hashIs_add hI1 q.data.toList T2 hT2
      rw [hpq] at h
      simpa using h
    have HADD2 : Hid (∀ W : World, G W → Calls Tryd.prog 12 #[.agg HV1.toArray, .string q] W fun e w' => e = .returned (.agg HV2.toArray) ∧ Below W.heap.size W w') := Lib.hid fun W hg => by
      have h := Add_any (addS zHash 0 p.data.toList) (heldL p.data.toList) p.size q (heldL_length _) (by omega) T2 hT2 W hg
      unfold hashV at h
      rwa [hV1, hV2] at h
    obtain ⟨cs1, hcs1, ecs1, hone1, hcl1⟩ := sum_cells (shaL p.data.toList)
    obtain ⟨cs0, hcs0, ecs0, hone0, hcl0⟩ := sum_cells (shaL [])
    have heq : ∀ W : World, (binOp .eql 26 (.agg cs.toArray) (.agg cs.toArray)).run Tryd.prog W = .ok (.bool true) W := fun W => by rw [← HW.out.2.2.2]; exact sum_same _ (shaL_length _) W
    have heq1 : ∀ W : World, (binOp .eql 26 (.agg cs1.toArray) (.agg cs1.toArray)).run Tryd.prog W = .ok (.bool true) W := fun W => by rw [← hcs1]; exact sum_same _ (shaL_length _) W
    have heq0 : ∀ W : World, (binOp .eql 26 (.agg cs0.toArray) (.agg cs0.toArray)).run Tryd.prog W = .ok (.bool true) W := fun W => by rw [← hcs0]; exact sum_same _ (shaL_length _) W
    have HH2 : Hid (∀ W : World, G W → Calls Tryd.prog 14 #[.agg HV2.toArray] W fun e w' => e = .returned (.agg cs.toArray) ∧ Below W.heap.size W w') := Lib.hid fun W hg => by
      have h := HSum_any (addS (addS zHash 0 p.data.toList) p.size T2) (heldL T2) (p.size + q.size) (heldL_length _) (by omega) W hg
      rw [hashIs_sum hI2, HW.out.2.2.1] at h
      unfold hashV at h
      rwa [hV2] at h
    have HH1 : Hid (∀ W : World, G W → Calls Tryd.prog 14 #[.agg HV1.toArray] W fun e w' => e = .returned (.agg cs1.toArray) ∧ Below W.heap.size W w') := Lib.hid fun W hg => by
      have h := HSum_any (addS zHash 0 p.data.toList) (heldL p.data.toList) p.size (heldL_length _) (by omega) W hg
      rw [hashIs_sum hI1, ecs1] at h
      unfold hashV at h
      rwa [hV1] at h
    have HH0 : Hid (∀ W : World, G W → Calls Tryd.prog 14 #[.agg HV0.toArray] W fun e w' => e = .returned (.agg cs0.toArray) ∧ Below W.heap.size W w') := Lib.hid fun W hg => by
      have h := HSum_any zHash (List.replicate 64 0) 0 rfl (by omega) W hg
      rw [hashIs_sum hashIs_nil, ecs0] at h
      unfold hashV at h
      rwa [hV0] at h
    have HR1 : Hid (∀ W : World, Calls Tryd.prog 10 #[.string p] W fun e w' => e = .returned (.agg cs1.toArray) ∧ Below W.heap.size W w') := Lib.hid fun W => by
      rw [← ecs1]; exact refSum_any p (by omega) W
    have HR0 : Hid (∀ W : World, Calls Tryd.prog 10 #[.string ⟨#[]⟩] W fun e w' => e = .returned (.agg cs0.toArray) ∧ Below W.heap.size W w') := Lib.hid fun W => by
      rw [← ecs0]; exact refSum_any ⟨#[]⟩ (by decide) W
    have HS1 : Hid (∀ (W : World) (g : Nat), G W → Row W g 9 [.string t] → Calls Tryd.prog 13 #[.slice (some ⟨g, 0, none⟩) 1 1] W fun e w' => e = .returned (.agg cs.toArray) ∧ Below W.heap.size W w') := Lib.hid fun W g hg hr => by
      have h := Sum_any g 0 1 [t] W hg (fun j x hx => by rw [Nat.zero_add, hr.cell]; match j, hx with | 0, hx => cases hx; rfl) hr.lt (by simp) (by simp) t.data.toList (Lib.join_one _ _) (by simp; omega)
      rw [HW.out.2.2.1] at h
      exact h
    have HS3 : Hid (∀ (W : World) (g : Nat), G W → Row W g 9 [.string p, .string ⟨#[]⟩, .string q] → Calls Tryd.prog 13 #[.slice (some ⟨g, 0, none⟩) 3 3] W fun e w' => e = .returned (.agg cs.toArray) ∧ Below W.heap.size W w') := Lib.hid fun W g hg hr => by
      have h := Sum_any g 0 3 [p, ⟨#[]⟩, q] W hg (fun j x hx => by rw [Nat.zero_add, hr.cell]; match j, hx with | 0, hx => cases hx; rfl | 1, hx => cases hx; rfl | 2, hx => cases hx; rfl) hr.lt (by simp) (by simp) t.data.toList (by simp [Lib.join, ← hpq]) (by simp; omega)
      rw [HW.out.2.2.1] at h
      exact h
    obtain ⟨TX, hTX⟩ : ∃ TX : ByteArray, (⟨(shaL t.data.toList).toArray⟩ : ByteArray) = TX := ⟨_, rfl⟩
    have HT1 : Hid (∀ (W : World) (g : Nat), G W → Row W g 9 [.string t] → Calls Tryd.prog 15 #[.slice (some ⟨g, 0, none⟩) 1 1] W fun e w' => e = .returned (.string TX) ∧ Below W.heap.size W w') := Lib.hid fun W g hg hr => by
      rw [← hTX]
      exact Text_any g 0 1 [t] W hg (fun j x hx => by rw [Nat.zero_add, hr.cell]; match j, hx with | 0, hx => cases hx; rfl) hr.lt (by simp) (by simp) t.data.toList (Lib.join_one _ _) (by simp; omega)
    have HRT : Hid (∀ W : World, Calls Tryd.prog 16 #[.string t] W fun e w' => e = .returned (.string TX) ∧ Below W.heap.size W w') := Lib.hid fun W => by
      rw [← hTX]; exact refText_any t (by omega) W
    have HPQ := Lib.hid (And.intro hps (And.intro hqs hpq))
    clear hps hqs hpq hI1 hI2 hT2 hcs1 ecs1 hone1 hcl1 hcs0 ecs0 hone0 hcl0 hTX
    have hzH := (zero_of_info hash_info).1
    rw [hV0] at hzH
    have HK : Hid (∀ W W' : World, (Row W gw 26 cs ∧ Below w.heap.size w W) → Below W.heap.size W W' → (Row W' gw 26 cs ∧ Below w.heap.size w W')) := Lib.hid fun W W' h hb => ⟨h.1.below hb h.1.lt, h.2.trans (hb.mono h.2.size)⟩
    have S1 : Row wd.drew gw 26 cs ∧ Below w.heap.size w wd.drew := ⟨Row.drewN rW 1, below_drewN bW 1⟩
    have hth : ∀ W : World, Row (W.alloc (.cells HV0.toArray 33)) W.heap.size 33 HV0 := fun W => Row.new W _ _
    have hl0 : HV0.length = 73 := by rw [← hV0]; rfl
    have hl1 : HV1.length = 73 := by rw [← hV1]; exact hashC_length _ _ (heldL_length _)
    have h1c : HV1.toArray.all (·.oneCell') = true := by rw [← hV1]; exact hashC_one _ _ _
    have hst : ∀ (W : World) (g : Nat), Row W g 33 HV0 → (storeCells ⟨g, 0, none⟩ HV1).run Tryd.prog W = .ok () (W.setCells g 0 HV1) := fun W g h => store_row h (by rw [hl0, hl1]) h1c
    have hld : ∀ (W : World) (g : Nat), Row W g 33 HV1 → (loadCells ⟨g, 0, none⟩ 73).run Tryd.prog W = .ok HV1.toArray W := fun W g h => by rw [← hl1]; exact load_row h
    have hsz0 : wd.drew.heap.size = wd.heap.size := rfl
    have HPS : Hid (∀ (W : World) (g : Nat), (Row W gw 26 cs ∧ Below w.heap.size w W) → Row W g 33 HV0 → wd.heap.size ≤ g → Row (W.setCells g 0 HV1) gw 26 cs ∧ Row (W.setCells g 0 HV1) g 33 HV1 ∧ Below w.heap.size w (W.setCells g 0 HV1)) := Lib.hid fun W g h hr hg => by
      have hlt : gw < wd.heap.size := S1.1.lt
      have hs : w.heap.size ≤ wd.heap.size := S1.2.size
      have hb := below_setCells (w := W) (B := g) (Nat.le_refl _) HV1 0 W (Below.refl _ _)
      exact ⟨h.1.below hb (by omega), row_setCells HV1 [] HV0 W (by rw [hl0, hl1]) hr, below_setCells (by omega) HV1 0 W h.2⟩
    have hsz1 : (Tryd.prog.info? 33).map (·.size) = some 73 := hash_size
    have HV := Lib.hid (And.intro hV0 hV1)
    clear rW bW hV0 hV1 hl0 hsz0 h1c
    refine wp_join (fun a g => ((((((a.put (some 31) (.agg HV0.toArray)).put (some 32) (.string t)).put (some 33) (.int .i64 k)).put (some 34) (.string p)).put (some 35) (.agg HV1.toArray)).put (some 10) (.pointer (some ⟨g, 0, none⟩))))
      (fun g w' => Row w' gw 26 cs ∧ Row w' g 33 HV1 ∧ Below w.heap.size w w') ?_ ?_
    · go_region_held3 (fun w' => Row w' gw 26 cs ∧ Below w.heap.size w w')
      (first
        | assumption
        | (exact ⟨Row.alloc (And.left (by assumption)) _, below_al (And.right (by assumption)) _⟩)
        | (exact ⟨(HPS.out _ _ (by assumption) (by first | assumption | exact hth _) (by omega)).1, (HPS.out _ _ (by assumption) (by first | assumption | exact hth _) (by omega)).2.2⟩)
        | (exact ⟨(HPS.out _ _ ⟨Row.alloc (And.left (by assumption)) _, below_al (And.right (by assumption)) _⟩ (by first | assumption | exact hth _) (by omega)).1, (HPS.out _ _ ⟨Row.alloc (And.left (by assumption)) _, below_al (And.right (by assumption)) _⟩ (by first | assumption | exact hth _) (by omega)).2.2⟩)
        | trace_state)
      (first
        | (go_at_call 12
           refine (HADD1.out _ (HG.out.mid (And.right (by assumption)) HG.out.lt)).mono ?_
           rintro e w6 ⟨rfl, hb6⟩
           have h6 := HK.out _ _ (by assumption) hb6
           have z6 := hb6.size
           try rw [World.size_alloc] at z6
           first
             | (have t6 := t5.below hb6 t5.lt)
             | (have t6 := (hth _).below hb6 (by rw [World.size_alloc]; omega))
             | skip)
        | (go_at_call 11
           refine (HNEW.out _).mono ?_
           rintro e w5 ⟨rfl, hb5⟩
           have h5 := HK.out _ _ (by assumption) hb5
           have z5 : wd.heap.size ≤ w5.heap.size := size_le hb5 (by first | exact Nat.le_refl _ | exact (Nat.le_trans (Nat.le_succ _) (Nat.le_of_eq (World.size_alloc wd _).symm)))
           try (have t5 : Row w5 wd.heap.size 33 HV0 := Row.below (Row.drewN (hth wd) 1) hb5 (Row.drewN (hth wd) 1).lt)))
      all_goals exact ⟨rfl, _, rfl, HPS.out _ _ (by first | assumption | exact ⟨Row.alloc (And.left (by assumption)) _, below_al (And.right (by assumption)) _⟩) (by first | assumption | exact hth _) (by omega)⟩
    · intro gh wf hPf
      simp only [Act.put, List.setIfInBounds_toArray, List.set_cons_zero, List.set_cons_succ]
      have hl0 : HV0.length = 73 := by rw [← HV.out.1]; rfl
      have hl2 : HV2.length = 73 := by rw [← hV2]; exact hashC_length _ _ (heldL_length _)
      have h2c : HV2.toArray.all (·.oneCell') = true := by rw [← hV2]; exact hashC_one _ _ _
      have hst2 : ∀ (W : World) (g : Nat), Row W g 33 HV0 → (storeCells ⟨g, 0, none⟩ HV2).run Tryd.prog W = .ok () (W.setCells g 0 HV2) := fun W g h => store_row h (by rw [hl0, hl2]) h2c
      have S2 : Row wf.drew gw 26 cs ∧ Row wf.drew gh 33 HV1 ∧ Below w.heap.size w wf.drew := ⟨Row.drewN hPf.1 1, Row.drewN hPf.2.1 1, below_drewN hPf.2.2 1⟩
      have HK2 : Hid (∀ W W' : World, (Row W gw 26 cs ∧ Row W gh 33 HV1 ∧ Below w.heap.size w W) → Below W.heap.size W W' → (Row W' gw 26 cs ∧ Row W' gh 33 HV1 ∧ Below w.heap.size w W')) := Lib.hid fun W W' h hb => ⟨h.1.below hb h.1.lt, h.2.1.below hb h.2.1.lt, h.2.2.trans (hb.mono h.2.2.size)⟩
      have HKA : Hid (∀ (W : World) (o : Obj), (Row W gw 26 cs ∧ Row W gh 33 HV1 ∧ Below w.heap.size w W) → (Row (W.alloc o) gw 26 cs ∧ Row (W.alloc o) gh 33 HV1 ∧ Below w.heap.size w (W.alloc o))) := Lib.hid fun W o h => HK2.out W _ h ((Below.refl _ _).alloc (Nat.le_refl _) o)
      have HPS2 : Hid (∀ (W : World) (g : Nat), (Row W gw 26 cs ∧ Row W gh 33 HV1 ∧ Below w.heap.size w W) → Row W g 33 HV0 → wf.heap.size ≤ g → Row (W.setCells g 0 HV2) gw 26 cs ∧ Row (W.setCells g 0 HV2) gh 33 HV1 ∧ Row (W.setCells g 0 HV2) g 33 HV2 ∧ Below w.heap.size w (W.setCells g 0 HV2)) := Lib.hid fun W g h hr hg => by
        have hlt : gw < wf.heap.size := hPf.1.lt
        have hlt2 : gh < wf.heap.size := hPf.2.1.lt
        have hs : w.heap.size ≤ wf.heap.size := hPf.2.2.size
        have hb := below_setCells (w := W) (B := g) (Nat.le_refl _) HV2 0 W (Below.refl _ _)
        exact ⟨h.1.below hb (by omega), h.2.1.below hb (by omega), row_setCells HV2 [] HV0 W (by rw [hl0, hl2]) hr, below_setCells (by omega) HV2 0 W h.2.2⟩
      have HVV := Lib.hid (And.intro hV2 hl0)
      have hl21 : HV2.length = HV1.length := by rw [hl1, hl2]
      have hszN : (Tryd.prog.info? 33).map (·.size) = some HV1.length := by rw [hl1]; exact hsz1
      have hldN : ∀ (W : World) (g : Nat), Row W g 33 HV1 → (loadCells ⟨g, 0, none⟩ HV1.length).run Tryd.prog W = .ok HV1.toArray W := fun W g h => load_row h
      have HPF := Lib.hid hPf
      have hl1N := hl1
      have hszN2 : (Tryd.prog.info? 33).map (·.size) = some HV2.toArray.size := by rw [List.size_toArray, hl2]; exact hsz1
      have hthN : ∀ (W : World) (g : Nat), Row W g 33 HV0 → W.there g 0 HV2.toArray.size := fun W g h => by
        have e : HV2.toArray.size = HV0.length := by rw [List.size_toArray, hl2, hl0]
        rw [e]
        exact row_there h
      have hu33 := Tryd.underlying33
      clear hV2 hl0 hPf hst S1 hl2 hsz1 hld
      go_wp2
      refine wp_join (fun a g => ((((((a.put (some 36) (.agg HV1.toArray)).put (some 37) (.string t)).put (some 38) (.int .i64 k)).put (some 39) (.string q)).put (some 40) (.agg HV2.toArray)).put (some 11) (.pointer (some ⟨g, 0, none⟩))))
        (fun g w' => Row w' gw 26 cs ∧ Row w' gh 33 HV1 ∧ Row w' g 33 HV2 ∧ Below w.heap.size w w') ?_ ?_
      · refine wp_region_noPanic ?_
        refine wp_region_held_drew (S := fun W => Row W gw 26 cs ∧ Row W gh 33 HV1 ∧ Below w.heap.size w W) (by kernel_rfl) S2 (fun hHeld => ?_)
        refine' wpAnyH_take (i := 0) (oi := _) (v := _) rfl (by kernel_rfl) (by kernel_rfl) (by kernel_rfl) (fun _ _ _ h => h) (yieldsIf_load_mid (by rfl) _ _ rfl gh 0 rfl HV1 _ (fun W h => (fun j v hj => by rw [Nat.zero_add, (h.2.1).cell]; exact hj)) hu33 rfl hszN) hHeld ?_
        simp only [Act.put, List.setIfInBounds_toArray, List.set_cons_zero, List.set_cons_succ]
        refine wpAnyH_take (i := 1) (oi := _) (v := ?vv9_1) rfl (by kernel_rfl) (by kernel_rfl) (by kernel_rfl) (fun _ _ _ h => h) (Or.inl ⟨by rfl, ?yy9_1⟩) hHeld ?_
        case vv9_1 => exact .string t
        case yy9_1 =>
          intro W hS
          go_simp
        simp only [Act.put, List.setIfInBounds_toArray, List.set_cons_zero, List.set_cons_succ]
        refine wpAnyH_take (i := 2) (oi := _) (v := ?vv9_2) rfl (by kernel_rfl) (by kernel_rfl) (by kernel_rfl) (fun _ _ _ h => h) (Or.inl ⟨by rfl, ?yy9_2⟩) hHeld ?_
        case vv9_2 => exact .int .i64 k
        case yy9_2 =>
          intro W hS
          go_simp
        simp only [Act.put, List.setIfInBounds_toArray, List.set_cons_zero, List.set_cons_succ]
        refine wpAnyH_take (i := 3) (oi := _) (v := ?vv9_3) rfl (by kernel_rfl) (by kernel_rfl) (by kernel_rfl) (fun _ _ _ h => h) (Or.inl ⟨by rfl, ?yy9_3⟩) hHeld ?_
        case vv9_3 => exact .string q
        case yy9_3 =>
          intro W hS
          go_simp
        simp only [Act.put, List.setIfInBounds_toArray, List.set_cons_zero, List.set_cons_succ]
        refine wpAnyH_ready (rs := [4, 5]) (by kernel_rfl) (by simp) (AllReadyH.cons rfl (fun K hK => ?_) (AllReadyH.cons rfl (fun K hK => ?_) AllReadyH.nil))
        · go_simp
          go_at_call 12
          refine (HADD2.out _ (HG.out.mid (And.right (And.right S2)) HG.out.lt)).mono ?_
          rintro e w6 ⟨rfl, hb6⟩
          have h6 := HK2.out _ _ S2 hb6
          have z6 : wf.heap.size ≤ w6.heap.size := hb6.size
          refine hK.out _ _ h6 (fun hHeld => ?_)
          clear hK K
          try simp only [Act.put, List.setIfInBounds_toArray, List.set_cons_zero, List.set_cons_succ]
          refine wpAnyH_ready (rs := [5]) (by kernel_rfl) (by simp) (AllReadyH.cons rfl (fun K hK => ?_) AllReadyH.nil)
          go_simp
          refine hK.out _ _ (HKA.out _ _ h6) (fun hHeld => ?_)
          clear hK K
          try simp only [Act.put, List.setIfInBounds_toArray, List.set_cons_zero, List.set_cons_succ]
          refine wpAnyH_ready (rs := [6]) (by kernel_rfl) (by simp) (AllReadyH.cons rfl (fun K hK => ?_) AllReadyH.nil)
          rw [if_pos (by rfl)]
          refine wp_store_mid _ _ _ rfl w6.heap.size 0 HV2.toArray rfl rfl (hthN _ _ (hth w6)) hszN2 h2c ?_
          try simp only [Act.put, List.setIfInBounds_toArray, List.set_cons_zero, List.set_cons_succ, List.toList_toArray]
          have hP := HPS2.out _ w6.heap.size (HKA.out w6 _ h6) (hth w6) (by omega)
          refine hK.out _ _ ⟨hP.1, hP.2.1, hP.2.2.2⟩ (fun hHeld => ?_)
          clear hK K
          try simp only [Act.put, List.setIfInBounds_toArray, List.set_cons_zero, List.set_cons_succ]
          refine wpAnyH_done (by kernel_rfl) ?_ _
          refine NoPanic.normal ?_
          exact ⟨rfl, _, rfl, hP⟩
        · go_simp
          have s5 := HKA.out wf.drew (.cells HV0.toArray 33) S2
          refine hK.out _ _ s5 (fun hHeld => ?_)
          clear hK K
          try simp only [Act.put, List.setIfInBounds_toArray, List.set_cons_zero, List.set_cons_succ]
          refine wpAnyH_ready (rs := [4]) (by kernel_rfl) (by simp) (AllReadyH.cons rfl (fun K hK => ?_) AllReadyH.nil)
          go_simp
          go_at_call 12
          refine (HADD2.out _ (HG.out.mid (And.right (And.right s5)) HG.out.lt)).mono ?_
          rintro e w6 ⟨rfl, hb6⟩
          have h6 := HK2.out _ _ s5 hb6
          have t6 : Row w6 wf.heap.size 33 HV0 := Row.below (Row.drewN (hth wf) 1) hb6 (Row.drewN (hth wf) 1).lt
          refine hK.out _ _ h6 (fun hHeld => ?_)
          clear hK K
          try simp only [Act.put, List.setIfInBounds_toArray, List.set_cons_zero, List.set_cons_succ]
          refine wpAnyH_ready (rs := [6]) (by kernel_rfl) (by simp) (AllReadyH.cons rfl (fun K hK => ?_) AllReadyH.nil)
          rw [if_pos (by rfl)]
          refine wp_store_mid _ _ _ rfl wf.heap.size 0 HV2.toArray rfl rfl (hthN _ _ t6) hszN2 h2c ?_
          try simp only [Act.put, List.setIfInBounds_toArray, List.set_cons_zero, List.set_cons_succ, List.toList_toArray]
          have hP := HPS2.out w6 wf.heap.size h6 t6 (by omega)
          refine hK.out _ _ ⟨hP.1, hP.2.1, hP.2.2.2⟩ (fun hHeld => ?_)
          clear hK K
          try simp only [Act.put, List.setIfInBounds_toArray, List.set_cons_zero, List.set_cons_succ]
          refine wpAnyH_done (by kernel_rfl) ?_ _
          refine NoPanic.normal ?_
          exact ⟨rfl, _, rfl, hP⟩
      · intro g2 wg hPg
        simp only [Act.put, List.setIfInBounds_toArray, List.set_cons_zero, List.set_cons_succ]
        go_wp2
        have Q0 : SS gw gh g2 wg.heap.size cs HV1 HV2 HV0 w (wg.alloc (.cells HV0.toArray 33)) := ⟨hPg.1.alloc _, hPg.2.1.alloc _, hPg.2.2.1.alloc _, hth wg, hPg.2.2.2.alloc hPg.2.2.2.size _⟩
        generalize wg.alloc (.cells HV0.toArray 33) = wz at Q0 ⊢
        have S0 := SS.dr Q0
        have hu26 := Tryd.underlying26
        have hi26 : (Tryd.prog.info? 26).map (·.size) = some cs.length := by rw [s32_size, HW.out.1]
        have hszL2 : (Tryd.prog.info? 33).map (·.size) = some HV2.length := by rw [hl21]; exact hszN
        have hszL0 : (Tryd.prog.info? 33).map (·.size) = some HV0.length := by rw [HVV.out.2]; exact hash_size
        clear hst2 hldN hPg HPS2 HKA HK2 HPF hl21 hszN2 hthN S2 hl1N
        refine wp_region_noPanic ?_
        refine wp_region_held_drew (S := fun W => SS gw gh g2 wg.heap.size cs HV1 HV2 HV0 w W) (by kernel_rfl) S0 (fun hHeld => ?_)
        refine wpAnyH_take (i := 0) (oi := { dst := some 41, op := Op.move (Operand.tmp 7), type := 9, pos := "law.go:34", after := #[], guard := none }) (v := ?vv11_0) rfl (by kernel_rfl) (by kernel_rfl) (by kernel_rfl) (fun _ _ _ h => h) (Or.inl ⟨by rfl, ?yy11_0⟩) hHeld ?_
        case vv11_0 => exact .string t
        case yy11_0 =>
          intro W hS
          go_simp
        simp only [Act.put, List.setIfInBounds_toArray, List.set_cons_zero, List.set_cons_succ]
        refine' wpAnyH_take (i := 3) (oi := { dst := some 44, op := Op.load 26 (Operand.tmp 9), type := 26, pos := "law.go:34", after := #[], guard := none }) (v := _) rfl (by kernel_rfl) (by kernel_rfl) (by kernel_rfl) (fun _ _ _ h => h) (yieldsIf_load_mid (by rfl) _ _ rfl gw 0 rfl cs _ (fun W h => (fun j v hj => by rw [Nat.zero_add, (h.1).cell]; exact hj)) hu26 rfl hi26) hHeld ?_
        simp only [Act.put, List.setIfInBounds_toArray, List.set_cons_zero, List.set_cons_succ]
        refine wpAnyH_ready (rs := [1]) (by kernel_rfl) (by simp) (AllReadyH.cons (o := { dst := some 42, op := Op.buildSlice 80 1 #[(0, Operand.tmp 41)], type := 80, pos := "law.go:34", after := #[{ on := 0, ground := Ground.data }], guard := none }) rfl (fun K hK => ?_) AllReadyH.nil)
        go_simp
        have s1 := SS.al S0 (.cells #[.string t] 9)
        refine hK.out _ _ s1 (fun hHeld => ?_)
        clear hK K
        try simp only [Act.put, List.setIfInBounds_toArray, List.set_cons_zero, List.set_cons_succ]
        refine wpAnyH_ready (rs := [2]) (by kernel_rfl) (by simp) (AllReadyH.cons (o := { dst := some 43, op := Op.call { callee := Callee.value (Operand.func 13), args := #[Operand.tmp 42], argTypes := #[80] }, type := 26, pos := "law.go:34", after := #[{ on := 1, ground := Ground.data }], guard := none }) rfl (fun K hK => ?_) AllReadyH.nil)
        go_simp
        go_at_call 13
        refine (HS1.out _ wz.heap.size (HG.out.mid s1.2.2.2.2 HG.out.lt) (Row.drewN (Row.new wz 9 [.string t]) 1)).mono ?_
        rintro e w12 ⟨rfl, hb2⟩
        have s2 := SS.next s1 hb2
        refine hK.out _ _ s2 (fun hHeld => ?_)
        clear hK K
        try simp only [Act.put, List.setIfInBounds_toArray, List.set_cons_zero, List.set_cons_succ]
        clear hb2
        refine' wpAnyH_take (i := 4) (oi := { dst := some 45, op := Op.binOp BinOp.eql 26 (Operand.tmp 43) (Operand.tmp 44) 26, type := 4, pos := "law.go:34", after := #[{ on := 2, ground := Ground.data }, { on := 3, ground := Ground.data }], guard := none }) (v := _) rfl (by kernel_rfl) (by kernel_rfl) (by kernel_rfl) (fun _ _ _ h => h) (yields_eql (by rfl) _ _ _ _ rfl cs.toArray rfl rfl (by kernel_rfl) heq) hHeld ?_
        simp only [Act.put, List.setIfInBounds_toArray, List.set_cons_zero, List.set_cons_succ]
        refine wpAnyH_take (i := 5) (oi := { dst := some 46, op := Op.move (Operand.tmp 45), type := 4, pos := "law.go:34", after := #[{ on := 4, ground := Ground.data }, { on := 2, ground := Ground.chain }], guard := none }) (v := ?vv11_5) rfl (by kernel_rfl) (by kernel_rfl) (by kernel_rfl) (fun _ _ _ h => h) (Or.inl ⟨by rfl, ?yy11_5⟩) hHeld ?_
        case vv11_5 => exact .bool true
        case yy11_5 =>
          intro W hS
          go_simp
        simp only [Act.put, List.setIfInBounds_toArray, List.set_cons_zero, List.set_cons_succ]
        refine wpAnyH_take (i := 6) (oi := { dst := some 47, op := Op.move (Operand.tmp 7), type := 9, pos := "law.go:34", after := #[{ on := 5, ground := Ground.guard }], guard := some (5, true) }) (v := ?vv11_6) rfl (by kernel_rfl) (by kernel_rfl) (by kernel_rfl) (fun _ _ _ h => h) (Or.inl ⟨by rfl, ?yy11_6⟩) hHeld ?_
        case vv11_6 => exact .string t
        case yy11_6 =>
          intro W hS
          go_simp
        simp only [Act.put, List.setIfInBounds_toArray, List.set_cons_zero, List.set_cons_succ]
        refine wpAnyH_take (i := 7) (oi := { dst := some 48, op := Op.move (Operand.tmp 8), type := 3, pos := "law.go:34", after := #[{ on := 5, ground := Ground.guard }], guard := some (5, true) }) (v := ?vv11_7) rfl (by kernel_rfl) (by kernel_rfl) (by kernel_rfl) (fun _ _ _ h => h) (Or.inl ⟨by rfl, ?yy11_7⟩) hHeld ?_
        case vv11_7 => exact .int .i64 k
        case yy11_7 =>
          intro W hS
          go_simp
        simp only [Act.put, List.setIfInBounds_toArray, List.set_cons_zero, List.set_cons_succ]
        refine wpAnyH_take (i := 8) (oi := { dst := some 49, op := Op.slice 9 (Operand.tmp 47) none (some (Operand.tmp 48)) none, type := 9, pos := "law.go:34", after := #[{ on := 6, ground := Ground.data }, { on := 7, ground := Ground.data }, { on := 5, ground := Ground.guard }], guard := some (5, true) }) (v := ?vv11_8) rfl (by kernel_rfl) (by kernel_rfl) (by kernel_rfl) (fun _ _ _ h => h) (Or.inl ⟨by rfl, ?yy11_8⟩) hHeld ?_
        case vv11_8 => exact .string p
        case yy11_8 =>
          intro W hS
          go_simp
        simp only [Act.put, List.setIfInBounds_toArray, List.set_cons_zero, List.set_cons_succ]
        refine wpAnyH_take (i := 9) (oi := { dst := some 50, op := Op.move (Operand.tmp 7), type := 9, pos := "law.go:34", after := #[{ on := 5, ground := Ground.guard }], guard := some (5, true) }) (v := ?vv11_9) rfl (by kernel_rfl) (by kernel_rfl) (by kernel_rfl) (fun _ _ _ h => h) (Or.inl ⟨by rfl, ?yy11_9⟩) hHeld ?_
        case vv11_9 => exact .string t
        case yy11_9 =>
          intro W hS
          go_simp
        simp only [Act.put, List.setIfInBounds_toArray, List.set_cons_zero, List.set_cons_succ]
        refine wpAnyH_take (i := 10) (oi := { dst := some 51, op := Op.move (Operand.tmp 8), type := 3, pos := "law.go:34", after := #[{ on := 5, ground := Ground.guard }], guard := some (5, true) }) (v := ?vv11_10) rfl (by kernel_rfl) (by kernel_rfl) (by kernel_rfl) (fun _ _ _ h => h) (Or.inl ⟨by rfl, ?yy11_10⟩) hHeld ?_
        case vv11_10 => exact .int .i64 k
        case yy11_10 =>
          intro W hS
          go_simp
        simp only [Act.put, List.setIfInBounds_toArray, List.set_cons_zero, List.set_cons_succ]
        refine wpAnyH_take (i := 11) (oi := { dst := some 52, op := Op.slice 9 (Operand.tmp 50) (some (Operand.tmp 51)) none none, type := 9, pos := "law.go:34", after := #[{ on := 9, ground := Ground.data }, { on := 10, ground := Ground.data }, { on := 5, ground := Ground.guard }], guard := some (5, true) }) (v := ?vv11_11) rfl (by kernel_rfl) (by kernel_rfl) (by kernel_rfl) (fun _ _ _ h => h) (Or.inl ⟨by rfl, ?yy11_11⟩) hHeld ?_
        case vv11_11 => exact .string q
        case yy11_11 =>
          intro W hS
          go_simp
        simp only [Act.put, List.setIfInBounds_toArray, List.set_cons_zero, List.set_cons_succ]
        refine' wpAnyH_take (i := 14) (oi := { dst := some 55, op := Op.load 26 (Operand.tmp 9), type := 26, pos := "law.go:34", after := #[{ on := 5, ground := Ground.guard }], guard := some (5, true) }) (v := _) rfl (by kernel_rfl) (by kernel_rfl) (by kernel_rfl) (fun _ _ _ h => h) (yieldsIf_load_mid (by rfl) _ _ rfl gw 0 rfl cs _ (fun W h => (fun j v hj => by rw [Nat.zero_add, (h.1).cell]; exact hj)) hu26 rfl hi26) hHeld ?_
        simp only [Act.put, List.setIfInBounds_toArray, List.set_cons_zero, List.set_cons_succ]
        refine wpAnyH_ready (rs := [12]) (by kernel_rfl) (by simp) (AllReadyH.cons (o := { dst := some 53, op := Op.buildSlice 80 3 #[(0, Operand.tmp 49), (1, Operand.const (Value.string { data := #[] })), (2, Operand.tmp 52)], type := 80, pos := "law.go:34", after := #[{ on := 8, ground := Ground.data }, { on := 11, ground := Ground.data }, { on := 5, ground := Ground.guard }], guard := some (5, true) }) rfl (fun K hK => ?_) AllReadyH.nil)
        go_simp
        have s3 := SS.al s2 (.cells #[.string p, .string ⟨#[]⟩, .string q] 9)
        refine hK.out _ _ s3 (fun hHeld => ?_)
        clear hK K
        try simp only [Act.put, List.setIfInBounds_toArray, List.set_cons_zero, List.set_cons_succ]
        refine wpAnyH_ready (rs := [13]) (by kernel_rfl) (by simp) (AllReadyH.cons (o := { dst := some 54, op := Op.call { callee := Callee.value (Operand.func 13), args := #[Operand.tmp 53], argTypes := #[80] }, type := 26, pos := "law.go:34", after := #[{ on := 12, ground := Ground.data }, { on := 5, ground := Ground.chain }, { on := 5, ground := Ground.guard }], guard := some (5, true) }) rfl (fun K hK => ?_) AllReadyH.nil)
        go_simp
        go_at_call 13
        refine (HS3.out _ w12.heap.size (HG.out.mid s3.2.2.2.2 HG.out.lt) (Row.new w12 9 [.string p, .string ⟨#[]⟩, .string q])).mono ?_
        rintro e w14 ⟨rfl, hb4⟩
        have s4 := SS.next s3 hb4
        refine hK.out _ _ s4 (fun hHeld => ?_)
        clear hK K
        try simp only [Act.put, List.setIfInBounds_toArray, List.set_cons_zero, List.set_cons_succ]
        clear hb4
        refine' wpAnyH_take (i := 15) (oi := { dst := some 56, op := Op.binOp BinOp.eql 26 (Operand.tmp 54) (Operand.tmp 55) 26, type := 4, pos := "law.go:34", after := #[{ on := 13, ground := Ground.data }, { on := 14, ground := Ground.data }, { on := 5, ground := Ground.guard }], guard := some (5, true) }) (v := _) rfl (by kernel_rfl) (by kernel_rfl) (by kernel_rfl) (fun _ _ _ h => h) (yields_eql (by rfl) _ _ _ _ rfl cs.toArray rfl rfl (by kernel_rfl) heq) hHeld ?_
        simp only [Act.put, List.setIfInBounds_toArray, List.set_cons_zero, List.set_cons_succ]
        refine wpAnyH_take (i := 16) (oi := { dst := some 57, op := Op.pick (Operand.tmp 46) (Operand.tmp 56) (Operand.const (Value.bool false)), type := 4, pos := "law.go:34", after := #[{ on := 5, ground := Ground.data }, { on := 15, ground := Ground.data }], guard := none }) (v := ?vv11_16) rfl (by kernel_rfl) (by kernel_rfl) (by kernel_rfl) (fun _ _ _ h => h) (Or.inl ⟨by rfl, ?yy11_16⟩) hHeld ?_
        case vv11_16 => exact .bool true
        case yy11_16 =>
          intro W hS
          go_simp
        simp only [Act.put, List.setIfInBounds_toArray, List.set_cons_zero, List.set_cons_succ]
        refine wpAnyH_take (i := 17) (oi := { dst := some 58, op := Op.move (Operand.tmp 57), type := 4, pos := "law.go:34", after := #[{ on := 16, ground := Ground.data }, { on := 13, ground := Ground.chain }], guard := none }) (v := ?vv11_17) rfl (by kernel_rfl) (by kernel_rfl) (by kernel_rfl) (fun _ _ _ h => h) (Or.inl ⟨by rfl, ?yy11_17⟩) hHeld ?_
        case vv11_17 => exact .bool true
        case yy11_17 =>
          intro W hS
          go_simp
        simp only [Act.put, List.setIfInBounds_toArray, List.set_cons_zero, List.set_cons_succ]
        refine' wpAnyH_take (i := 18) (oi := { dst := some 59, op := Op.load 33 (Operand.tmp 11), type := 33, pos := "law.go:34", after := #[{ on := 17, ground := Ground.guard }], guard := some (17, true) }) (v := _) rfl (by kernel_rfl) (by kernel_rfl) (by kernel_rfl) (fun _ _ _ h => h) (yieldsIf_load_mid (by rfl) _ _ rfl g2 0 rfl HV2 _ (fun W h => (fun j v hj => by rw [Nat.zero_add, (h.2.2.1).cell]; exact hj)) hu33 rfl hszL2) hHeld ?_
        simp only [Act.put, List.setIfInBounds_toArray, List.set_cons_zero, List.set_cons_succ]
        refine' wpAnyH_take (i := 20) (oi := { dst := some 61, op := Op.load 26 (Operand.tmp 9), type := 26, pos := "law.go:34", after := #[{ on := 17, ground := Ground.guard }], guard := some (17, true) }) (v := _) rfl (by kernel_rfl) (by kernel_rfl) (by kernel_rfl) (fun _ _ _ h => h) (yieldsIf_load_mid (by rfl) _ _ rfl gw 0 rfl cs _ (fun W h => (fun j v hj => by rw [Nat.zero_add, (h.1).cell]; exact hj)) hu26 rfl hi26) hHeld ?_
        simp only [Act.put, List.setIfInBounds_toArray, List.set_cons_zero, List.set_cons_succ]
        refine wpAnyH_ready (rs := [19]) (by kernel_rfl) (by simp) (AllReadyH.cons (o := { dst := some 60, op := Op.call { callee := Callee.value (Operand.func 14), args := #[Operand.tmp 59], argTypes := #[33] }, type := 26, pos := "law.go:34", after := #[{ on := 18, ground := Ground.data }, { on := 17, ground := Ground.chain }, { on := 17, ground := Ground.guard }], guard := some (17, true) }) rfl (fun K hK => ?_) AllReadyH.nil)
        go_simp
        go_at_call 14
        refine (HH2.out _ (HG.out.mid s4.2.2.2.2 HG.out.lt)).mono ?_
        rintro e w15 ⟨rfl, hb5⟩
        have s5 := SS.next s4 hb5
        refine hK.out _ _ s5 (fun hHeld => ?_)
        clear hK K
        try simp only [Act.put, List.setIfInBounds_toArray, List.set_cons_zero, List.set_cons_succ]
        clear hb5
        refine' wpAnyH_take (i := 21) (oi := { dst := some 62, op := Op.binOp BinOp.eql 26 (Operand.tmp 60) (Operand.tmp 61) 26, type := 4, pos := "law.go:34", after := #[{ on := 19, ground := Ground.data }, { on := 20, ground := Ground.data }, { on := 17, ground := Ground.guard }], guard := some (17, true) }) (v := _) rfl (by kernel_rfl) (by kernel_rfl) (by kernel_rfl) (fun _ _ _ h => h) (yields_eql (by rfl) _ _ _ _ rfl cs.toArray rfl rfl (by kernel_rfl) heq) hHeld ?_
        simp only [Act.put, List.setIfInBounds_toArray, List.set_cons_zero, List.set_cons_succ]
        refine wpAnyH_take (i := 22) (oi := { dst := some 63, op := Op.pick (Operand.tmp 58) (Operand.tmp 62) (Operand.const (Value.bool false)), type := 4, pos := "law.go:34", after := #[{ on := 17, ground := Ground.data }, { on := 21, ground := Ground.data }], guard := none }) (v := ?vv11_22) rfl (by kernel_rfl) (by kernel_rfl) (by kernel_rfl) (fun _ _ _ h => h) (Or.inl ⟨by rfl, ?yy11_22⟩) hHeld ?_
        case vv11_22 => exact .bool true
        case yy11_22 =>
          intro W hS
          go_simp
        simp only [Act.put, List.setIfInBounds_toArray, List.set_cons_zero, List.set_cons_succ]
        refine wpAnyH_take (i := 23) (oi := { dst := some 64, op := Op.move (Operand.tmp 63), type := 4, pos := "law.go:34", after := #[{ on := 22, ground := Ground.data }, { on := 19, ground := Ground.chain }], guard := none }) (v := ?vv11_23) rfl (by kernel_rfl) (by kernel_rfl) (by kernel_rfl) (fun _ _ _ h => h) (Or.inl ⟨by rfl, ?yy11_23⟩) hHeld ?_
        case vv11_23 => exact .bool true
        case yy11_23 =>
          intro W hS
          go_simp
        simp only [Act.put, List.setIfInBounds_toArray, List.set_cons_zero, List.set_cons_succ]
        refine' wpAnyH_take (i := 24) (oi := { dst := some 65, op := Op.load 33 (Operand.tmp 10), type := 33, pos := "law.go:34", after := #[{ on := 23, ground := Ground.guard }], guard := some (23, true) }) (v := _) rfl (by kernel_rfl) (by kernel_rfl) (by kernel_rfl) (fun _ _ _ h => h) (yieldsIf_load_mid (by rfl) _ _ rfl gh 0 rfl HV1 _ (fun W h => (fun j v hj => by rw [Nat.zero_add, (h.2.1).cell]; exact hj)) hu33 rfl hszN) hHeld ?_
        simp only [Act.put, List.setIfInBounds_toArray, List.set_cons_zero, List.set_cons_succ]
        refine wpAnyH_take (i := 26) (oi := { dst := some 67, op := Op.move (Operand.tmp 7), type := 9, pos := "law.go:34", after := #[{ on := 23, ground := Ground.guard }], guard := some (23, true) }) (v := ?vv11_26) rfl (by kernel_rfl) (by kernel_rfl) (by kernel_rfl) (fun _ _ _ h => h) (Or.inl ⟨by rfl, ?yy11_26⟩) hHeld ?_
        case vv11_26 => exact .string t
        case yy11_26 =>
          intro W hS
          go_simp
        simp only [Act.put, List.setIfInBounds_toArray, List.set_cons_zero, List.set_cons_succ]
        refine wpAnyH_take (i := 27) (oi := { dst := some 68, op := Op.move (Operand.tmp 8), type := 3, pos := "law.go:34", after := #[{ on := 23, ground := Ground.guard }], guard := some (23, true) }) (v := ?vv11_27) rfl (by kernel_rfl) (by kernel_rfl) (by kernel_rfl) (fun _ _ _ h => h) (Or.inl ⟨by rfl, ?yy11_27⟩) hHeld ?_
        case vv11_27 => exact .int .i64 k
        case yy11_27 =>
          intro W hS
          go_simp
        simp only [Act.put, List.setIfInBounds_toArray, List.set_cons_zero, List.set_cons_succ]
        refine wpAnyH_take (i := 28) (oi := { dst := some 69, op := Op.slice 9 (Operand.tmp 67) none (some (Operand.tmp 68)) none, type := 9, pos := "law.go:34", after := #[{ on := 26, ground := Ground.data }, { on := 27, ground := Ground.data }, { on := 23, ground := Ground.guard }], guard := some (23, true) }) (v := ?vv11_28) rfl (by kernel_rfl) (by kernel_rfl) (by kernel_rfl) (fun _ _ _ h => h) (Or.inl ⟨by rfl, ?yy11_28⟩) hHeld ?_
        case vv11_28 => exact .string p
        case yy11_28 =>
          intro W hS
          go_simp
        simp only [Act.put, List.setIfInBounds_toArray, List.set_cons_zero, List.set_cons_succ]
        refine wpAnyH_ready (rs := [25]) (by kernel_rfl) (by simp) (AllReadyH.cons (o := { dst := some 66, op := Op.call { callee := Callee.value (Operand.func 14), args := #[Operand.tmp 65], argTypes := #[33] }, type := 26, pos := "law.go:34", after := #[{ on := 24, ground := Ground.data }, { on := 23, ground := Ground.chain }, { on := 23, ground := Ground.guard }], guard := some (23, true) }) rfl (fun K hK => ?_) AllReadyH.nil)
        go_simp
        go_at_call 14
        refine (HH1.out _ (HG.out.mid s5.2.2.2.2 HG.out.lt)).mono ?_
        rintro e w16 ⟨rfl, hb6⟩
        have s6 := SS.next s5 hb6
        refine hK.out _ _ s6 (fun hHeld => ?_)
        clear hK K
        try simp only [Act.put, List.setIfInBounds_toArray, List.set_cons_zero, List.set_cons_succ]
        clear hb6
        refine wpAnyH_ready (rs := [29]) (by kernel_rfl) (by simp) (AllReadyH.cons (o := { dst := some 70, op := Op.call { callee := Callee.value (Operand.func 10), args := #[Operand.tmp 69], argTypes := #[9] }, type := 26, pos := "law.go:34", after := #[{ on := 28, ground := Ground.data }, { on := 25, ground := Ground.chain }, { on := 23, ground := Ground.guard }], guard := some (23, true) }) rfl (fun K hK => ?_) AllReadyH.nil)
        go_simp
        go_at_call 10
        refine (HR1.out _).mono ?_
        rintro e w17 ⟨rfl, hb7⟩
        have s7 := SS.next s6 hb7
        refine hK.out _ _ s7 (fun hHeld => ?_)
        clear hK K
        try simp only [Act.put, List.setIfInBounds_toArray, List.set_cons_zero, List.set_cons_succ]
        clear hb7
        refine' wpAnyH_take (i := 30) (oi := { dst := some 71, op := Op.binOp BinOp.eql 26 (Operand.tmp 66) (Operand.tmp 70) 26, type := 4, pos := "law.go:34", after := #[{ on := 25, ground := Ground.data }, { on := 29, ground := Ground.data }, { on := 23, ground := Ground.guard }], guard := some (23, true) }) (v := _) rfl (by kernel_rfl) (by kernel_rfl) (by kernel_rfl) (fun _ _ _ h => h) (yields_eql (by rfl) _ _ _ _ rfl cs1.toArray rfl rfl (by kernel_rfl) heq1) hHeld ?_
        simp only [Act.put, List.setIfInBounds_toArray, List.set_cons_zero, List.set_cons_succ]
        refine wpAnyH_take (i := 31) (oi := { dst := some 72, op := Op.pick (Operand.tmp 64) (Operand.tmp 71) (Operand.const (Value.bool false)), type := 4, pos := "law.go:34", after := #[{ on := 23, ground := Ground.data }, { on := 30, ground := Ground.data }], guard := none }) (v := ?vv11_31) rfl (by kernel_rfl) (by kernel_rfl) (by kernel_rfl) (fun _ _ _ h => h) (Or.inl ⟨by rfl, ?yy11_31⟩) hHeld ?_
        case vv11_31 => exact .bool true
        case yy11_31 =>
          intro W hS
          go_simp
        simp only [Act.put, List.setIfInBounds_toArray, List.set_cons_zero, List.set_cons_succ]
        refine wpAnyH_take (i := 32) (oi := { dst := some 73, op := Op.move (Operand.tmp 72), type := 4, pos := "law.go:34", after := #[{ on := 31, ground := Ground.data }, { on := 29, ground := Ground.chain }], guard := none }) (v := ?vv11_32) rfl (by kernel_rfl) (by kernel_rfl) (by kernel_rfl) (fun _ _ _ h => h) (Or.inl ⟨by rfl, ?yy11_32⟩) hHeld ?_
        case vv11_32 => exact .bool true
        case yy11_32 =>
          intro W hS
          go_simp
        simp only [Act.put, List.setIfInBounds_toArray, List.set_cons_zero, List.set_cons_succ]
        refine wpAnyH_take (i := 33) (oi := { dst := some 74, op := Op.move (Operand.tmp 7), type := 9, pos := "law.go:34", after := #[{ on := 32, ground := Ground.guard }], guard := some (32, true) }) (v := ?vv11_33) rfl (by kernel_rfl) (by kernel_rfl) (by kernel_rfl) (fun _ _ _ h => h) (Or.inl ⟨by rfl, ?yy11_33⟩) hHeld ?_
        case vv11_33 => exact .string t
        case yy11_33 =>
          intro W hS
          go_simp
        simp only [Act.put, List.setIfInBounds_toArray, List.set_cons_zero, List.set_cons_succ]
        refine wpAnyH_take (i := 36) (oi := { dst := some 77, op := Op.move (Operand.tmp 7), type := 9, pos := "law.go:34", after := #[{ on := 32, ground := Ground.guard }], guard := some (32, true) }) (v := ?vv11_36) rfl (by kernel_rfl) (by kernel_rfl) (by kernel_rfl) (fun _ _ _ h => h) (Or.inl ⟨by rfl, ?yy11_36⟩) hHeld ?_
        case vv11_36 => exact .string t
        case yy11_36 =>
          intro W hS
          go_simp
        simp only [Act.put, List.setIfInBounds_toArray, List.set_cons_zero, List.set_cons_succ]
        refine wpAnyH_ready (rs := [34]) (by kernel_rfl) (by simp) (AllReadyH.cons (o := { dst := some 75, op := Op.buildSlice 80 1 #[(0, Operand.tmp 74)], type := 80, pos := "law.go:34", after := #[{ on := 33, ground := Ground.data }, { on := 32, ground := Ground.guard }], guard := some (32, true) }) rfl (fun K hK => ?_) AllReadyH.nil)
        go_simp
        have s8 := SS.al s7 (.cells #[.string t] 9)
        refine hK.out _ _ s8 (fun hHeld => ?_)
        clear hK K
        try simp only [Act.put, List.setIfInBounds_toArray, List.set_cons_zero, List.set_cons_succ]
        refine wpAnyH_ready (rs := [35]) (by kernel_rfl) (by simp) (AllReadyH.cons (o := { dst := some 76, op := Op.call { callee := Callee.value (Operand.func 15), args := #[Operand.tmp 75], argTypes := #[80] }, type := 9, pos := "law.go:34", after := #[{ on := 34, ground := Ground.data }, { on := 32, ground := Ground.chain }, { on := 32, ground := Ground.guard }], guard := some (32, true) }) rfl (fun K hK => ?_) AllReadyH.nil)
        go_simp
        go_at_call 15
        refine (HT1.out _ w17.heap.size (HG.out.mid s8.2.2.2.2 HG.out.lt) (Row.new w17 9 [.string t])).mono ?_
        rintro e w19 ⟨rfl, hb9⟩
        have s9 := SS.next s8 hb9
        refine hK.out _ _ s9 (fun hHeld => ?_)
        clear hK K
        try simp only [Act.put, List.setIfInBounds_toArray, List.set_cons_zero, List.set_cons_succ]
        clear hb9
        refine wpAnyH_ready (rs := [37]) (by kernel_rfl) (by simp) (AllReadyH.cons (o := { dst := some 78, op := Op.call { callee := Callee.value (Operand.func 16), args := #[Operand.tmp 77], argTypes := #[9] }, type := 9, pos := "law.go:34", after := #[{ on := 36, ground := Ground.data }, { on := 35, ground := Ground.chain }, { on := 32, ground := Ground.guard }], guard := some (32, true) }) rfl (fun K hK => ?_) AllReadyH.nil)
        go_simp
        go_at_call 16
        refine (HRT.out _).mono ?_
        rintro e w20 ⟨rfl, hb10⟩
        have s10 := SS.next s9 hb10
        refine hK.out _ _ s10 (fun hHeld => ?_)
        clear hK K
        try simp only [Act.put, List.setIfInBounds_toArray, List.set_cons_zero, List.set_cons_succ]
        clear hb10
        refine wpAnyH_take (i := 38) (oi := { dst := some 79, op := Op.binOp BinOp.eql 9 (Operand.tmp 76) (Operand.tmp 78) 9, type := 4, pos := "law.go:34", after := #[{ on := 35, ground := Ground.data }, { on := 37, ground := Ground.data }, { on := 32, ground := Ground.guard }], guard := some (32, true) }) (v := ?vv11_38) rfl (by kernel_rfl) (by kernel_rfl) (by kernel_rfl) (fun _ _ _ h => h) (Or.inl ⟨by rfl, ?yy11_38⟩) hHeld ?_
        case vv11_38 => exact .bool true
        case yy11_38 =>
          intro W hS
          go_simp
        simp only [Act.put, List.setIfInBounds_toArray, List.set_cons_zero, List.set_cons_succ]
        refine wpAnyH_take (i := 39) (oi := { dst := some 80, op := Op.pick (Operand.tmp 73) (Operand.tmp 79) (Operand.const (Value.bool false)), type := 4, pos := "law.go:34", after := #[{ on := 32, ground := Ground.data }, { on := 38, ground := Ground.data }], guard := none }) (v := ?vv11_39) rfl (by kernel_rfl) (by kernel_rfl) (by kernel_rfl) (fun _ _ _ h => h) (Or.inl ⟨by rfl, ?yy11_39⟩) hHeld ?_
        case vv11_39 => exact .bool true
        case yy11_39 =>
          intro W hS
          go_simp
        simp only [Act.put, List.setIfInBounds_toArray, List.set_cons_zero, List.set_cons_succ]
        refine wpAnyH_take (i := 40) (oi := { dst := some 81, op := Op.move (Operand.tmp 80), type := 4, pos := "law.go:34", after := #[{ on := 39, ground := Ground.data }, { on := 37, ground := Ground.chain }], guard := none }) (v := ?vv11_40) rfl (by kernel_rfl) (by kernel_rfl) (by kernel_rfl) (fun _ _ _ h => h) (Or.inl ⟨by rfl, ?yy11_40⟩) hHeld ?_
        case vv11_40 => exact .bool true
        case yy11_40 =>
          intro W hS
          go_simp
        simp only [Act.put, List.setIfInBounds_toArray, List.set_cons_zero, List.set_cons_succ]
        refine' wpAnyH_take (i := 41) (oi := { dst := some 82, op := Op.load 33 (Operand.tmp 12), type := 33, pos := "law.go:34", after := #[{ on := 40, ground := Ground.guard }], guard := some (40, true) }) (v := _) rfl (by kernel_rfl) (by kernel_rfl) (by kernel_rfl) (fun _ _ _ h => h) (yieldsIf_load_mid (by rfl) _ _ rfl wg.heap.size 0 rfl HV0 _ (fun W h => (fun j v hj => by rw [Nat.zero_add, (h.2.2.2.1).cell]; exact hj)) hu33 rfl hszL0) hHeld ?_
        simp only [Act.put, List.setIfInBounds_toArray, List.set_cons_zero, List.set_cons_succ]
        refine wpAnyH_ready (rs := [42]) (by kernel_rfl) (by simp) (AllReadyH.cons (o := { dst := some 83, op := Op.call { callee := Callee.value (Operand.func 14), args := #[Operand.tmp 82], argTypes := #[33] }, type := 26, pos := "law.go:34", after := #[{ on := 41, ground := Ground.data }, { on := 40, ground := Ground.chain }, { on := 40, ground := Ground.guard }], guard := some (40, true) }) rfl (fun K hK => ?_) AllReadyH.nil)
        go_simp
        go_at_call 14
        refine (HH0.out _ (HG.out.mid s10.2.2.2.2 HG.out.lt)).mono ?_
        rintro e w21 ⟨rfl, hb11⟩
        have s11 := SS.next s10 hb11
        refine hK.out _ _ s11 (fun hHeld => ?_)
        clear hK K
        try simp only [Act.put, List.setIfInBounds_toArray, List.set_cons_zero, List.set_cons_succ]
        clear hb11
        refine wpAnyH_ready (rs := [43]) (by kernel_rfl) (by simp) (AllReadyH.cons (o := { dst := some 84, op := Op.call { callee := Callee.value (Operand.func 10), args := #[Operand.const (Value.string { data := #[] })], argTypes := #[9] }, type := 26, pos := "law.go:34", after := #[{ on := 42, ground := Ground.chain }, { on := 40, ground := Ground.guard }], guard := some (40, true) }) rfl (fun K hK => ?_) AllReadyH.nil)
        go_simp
        go_at_call 10
        refine (HR0.out _).mono ?_
        rintro e w22 ⟨rfl, hb12⟩
        have s12 := SS.next s11 hb12
        refine hK.out _ _ s12 (fun hHeld => ?_)
        clear hK K
        try simp only [Act.put, List.setIfInBounds_toArray, List.set_cons_zero, List.set_cons_succ]
        clear hb12
        refine' wpAnyH_take (i := 44) (oi := { dst := some 85, op := Op.binOp BinOp.eql 26 (Operand.tmp 83) (Operand.tmp 84) 26, type := 4, pos := "law.go:34", after := #[{ on := 42, ground := Ground.data }, { on := 43, ground := Ground.data }, { on := 40, ground := Ground.guard }], guard := some (40, true) }) (v := _) rfl (by kernel_rfl) (by kernel_rfl) (by kernel_rfl) (fun _ _ _ h => h) (yields_eql (by rfl) _ _ _ _ rfl cs0.toArray rfl rfl (by kernel_rfl) heq0) hHeld ?_
        simp only [Act.put, List.setIfInBounds_toArray, List.set_cons_zero, List.set_cons_succ]
        refine wpAnyH_take (i := 45) (oi := { dst := some 86, op := Op.pick (Operand.tmp 81) (Operand.tmp 85) (Operand.const (Value.bool false)), type := 4, pos := "law.go:34", after := #[{ on := 40, ground := Ground.data }, { on := 44, ground := Ground.data }], guard := none }) (v := ?vv11_45) rfl (by kernel_rfl) (by kernel_rfl) (by kernel_rfl) (fun _ _ _ h => h) (Or.inl ⟨by rfl, ?yy11_45⟩) hHeld ?_
        case vv11_45 => exact .bool true
        case yy11_45 =>
          intro W hS
          go_simp
        simp only [Act.put, List.setIfInBounds_toArray, List.set_cons_zero, List.set_cons_succ]
        refine wpAnyH_ready (rs := [46]) (by kernel_rfl) (by simp) (AllReadyH.cons (o := { dst := some 6, op := Op.assign (Operand.tmp 86), type := 4, pos := "law.go:34", after := #[{ on := 45, ground := Ground.data }, { on := 43, ground := Ground.chain }, { on := 0, ground := Ground.phase }, { on := 1, ground := Ground.phase }, { on := 2, ground := Ground.phase }, { on := 3, ground := Ground.phase }, { on := 4, ground := Ground.phase }, { on := 5, ground := Ground.phase }, { on := 6, ground := Ground.phase }, { on := 7, ground := Ground.phase }, { on := 8, ground := Ground.phase }, { on := 9, ground := Ground.phase }, { on := 10, ground := Ground.phase }, { on := 11, ground := Ground.phase }, { on := 12, ground := Ground.phase }, { on := 13, ground := Ground.phase }, { on := 14, ground := Ground.phase }, { on := 15, ground := Ground.phase }, { on := 16, ground := Ground.phase }, { on := 17, ground := Ground.phase }, { on := 18, ground := Ground.phase }, { on := 19, ground := Ground.phase }, { on := 20, ground := Ground.phase }, { on := 21, ground := Ground.phase }, { on := 22, ground := Ground.phase }, { on := 23, ground := Ground.phase }, { on := 24, ground := Ground.phase }, { on := 25, ground := Ground.phase }, { on := 26, ground := Ground.phase }, { on := 27, ground := Ground.phase }, { on := 28, ground := Ground.phase }, { on := 29, ground := Ground.phase }, { on := 30, ground := Ground.phase }, { on := 31, ground := Ground.phase }, { on := 32, ground := Ground.phase }, { on := 33, ground := Ground.phase }, { on := 34, ground := Ground.phase }, { on := 35, ground := Ground.phase }, { on := 36, ground := Ground.phase }, { on := 37, ground := Ground.phase }, { on := 38, ground := Ground.phase }, { on := 39, ground := Ground.phase }, { on := 40, ground := Ground.phase }, { on := 41, ground := Ground.phase }, { on := 42, ground := Ground.phase }, { on := 43, ground := Ground.phase }, { on := 44, ground := Ground.phase }, { on := 45, ground := Ground.phase }], guard := none }) rfl (fun K hK => ?_) AllReadyH.nil)
        go_simp
        refine hK.out _ _ s12 (fun hHeld => ?_)
        clear hK K
        try simp only [Act.put, List.setIfInBounds_toArray, List.set_cons_zero, List.set_cons_succ]
        refine wpAnyH_done (by kernel_rfl) ?_ _
        refine NoPanic.normal ?_
        go_wp2
        go_ret
        exact ⟨rfl, s12.2.2.2.2⟩
end Go.Proofs.YtdhplohppcndhaaDoor

namespace Go.Proofs.YtdhplohppcndhaaDoor.shaSums
open Go.ChangeShapes Go.WideShapes Go.ChangeAt Go.RowKit
open Go.ChangeMaps (open_string shut_string)
set_option linter.unusedVariables false

theorem own : ownKnob Tryd.prog.godebug = none := by kernel_rfl

theorem door_met (os : Os) (args : Array Value) : laidMetH Tryd.prog Rows.shaSumsRow.laid ((World.doorLaid Tryd.prog 4000 os).forCall (fun _ _ => 0) ⟨#[], args, []⟩).memory :=
  laidMetH_of_parts3 (fuel := 8) (laidMet_of_run' 8 (by kernel_rfl) (by kernel_rfl)) (by kernel_rfl) (by kernel_rfl)

set_option maxRecDepth 100000 in
theorem lifted (os : Os) (started : os.Started) (H : Type) (enc : TypeId × Value → H) :
    ReturnsInHanded {} Tryd.checked os 3 .any (fun w args => (Rows.shaSumsSpec.pre enc Tryd.prog Tryd.f3 Rows.shaSumsRow.domain false w args ∧ laidMetH Tryd.prog Rows.shaSumsRow.laid w) ∧ sizedMet enc Tryd.prog Tryd.f3 (OpenSpec.ofChange Rows.shaSumsSpec) false w args) (Rows.shaSumsSpec.post enc Tryd.prog Tryd.f3 false true false false) := by
  refine returnsInHanded_of_change_and (C := Tryd.checked) (X := fun w _ => laidMetH Tryd.prog Rows.shaSumsRow.laid w) (fun _ _ _ hh h => h.of_heap hh) own started (by kernel_rfl) Tryd.func3
    (ChangeSpec.witness_shaped (enc := enc) (C := Tryd.checked) (os := os) (X := fun w _ => laidMetH Tryd.prog Rows.shaSumsRow.laid w) false (World.doorLaid Tryd.prog 4000 os) #[.string ByteArray.empty, .int .u8 0, .int .u16 0] 8 rfl (World.shaped_of_RefB (by kernel_rfl) (by kernel_rfl)) (by kernel_rfl) (by kernel_rfl) (by kernel_rfl) (door_met os _)) ?_
  intro W base args ds gs before hval0 hW hcnd hsz0 hX1 hX2
  have hsz : (DataW.weightsEach Tryd.prog (Tryd.f3.params.toList ++ Rows.shaSumsSpec.plain.varTypes Tryd.prog) (ds ++ gs)).all (· ≤ reachBytes) = true := hsz0
  have hval : ∀ (j : Nat) t v, Tryd.f3.params[j]? = some t → args[j]? = some v → Value.okWide Tryd.prog W .any base t v := hval0
  have hW' := hW
  obtain ⟨p, q, hA0, hV, rfl, hfz, hnd⟩ := hW
  have hA : DataW.TrodAll enc Tryd.prog W 0 (fun _ => true) true Tryd.f3.params.toList args.toList ds p := hA0
  rw [Tryd.params3] at hA hval hsz
  obtain ⟨v0, vs0, d0, ds0, p0, q0, hargs, rfl, rfl, h0, r0⟩ := trodAll_cons hA
  obtain ⟨v1, vs1, d1, ds1, p1, q1, rfl, rfl, rfl, h1, r1⟩ := trodAll_cons r0
  obtain ⟨v2, vs2, d2, ds2, p2, q2, rfl, rfl, rfl, h2, r2⟩ := trodAll_cons r1
  obtain ⟨rfl, rfl, rfl⟩ := trodAll_nil r2
  obtain rfl : args = #[v0, v1, v2] := by cases args; simp_all
  obtain ⟨rfl, rfl⟩ := trodVars_none hV
  obtain ⟨a0, rfl, rfl, rfl, m0⟩ := open_string Tryd.underlying9 (hval 0 9 v0 rfl rfl) h0
  obtain ⟨a1, rfl, rfl, rfl, w1⟩ := open_int Tryd.underlying5 (hval 1 5 v1 rfl rfl) h1
  obtain ⟨a2, rfl, rfl, rfl, w2⟩ := open_int Tryd.underlying22 (hval 2 22 v2 rfl rfl) h2
  have w0 : a0.size ≤ 140737488355328 := by
    have h47 := reachBytes_lt
    have hh := sized_string hsz (j := 0) (t := 9) rfl rfl
    rw [Array.length_toList] at hh
    exact Nat.le_of_lt (Nat.lt_of_le_of_lt hh h47)
  clear hA0 hval0 hsz hsz0
  simp only [List.append_nil] at hW'
  refine (ShaSums_walk a0 a1 a2 w0 w1 w2 W (G_of_laid hX1)).mono fun e W' ⟨he, bel⟩ => ?_
  subst he
  exact ⟨_, rfl, _, _, _, [], _, [], hW', trodAll_mk1 (shut_bool Tryd.underlying4 _), (trodAll_cons_mk (shut_string Tryd.underlying9 m0) (trodAll_cons_mk (shut_int Tryd.underlying5 w1) (trodAll_cons_mk (shut_int Tryd.underlying22 w2) trodAll_mk0))), rfl, bel.frame _, fun h => by cases h⟩

theorem over : Rows.shaSumsRow.holds Tryd.pinned (OpenSpec.ofChange Rows.shaSumsSpec) :=
  OpenClaim.holds_of_wide 3 Tryd.f3 rfl rfl rfl rfl rfl rfl rfl ⟨rfl, rfl, rfl, rfl, rfl⟩ rfl rfl rfl rfl rfl (by kernel_rfl) Tryd.func3 (by kernel_rfl)
    (of_decide_eq_true (by kernel_rfl)) (by unfold Func.isWrapper; first | (rw [if_pos (by decide +kernel)]; kernel_rfl) | (rw [if_neg (by decide +kernel)]; exact ⟨rfl, rfl⟩))
    (fun os started H enc _ => lifted os started H enc)

theorem proved : Rows.ShaSumsCardSaid :=
  Claim7.holds_tied_plain_at .later [] [.data] true (true, "f48f9b210887ffc00a96a4eddd30b58c218d5047edd581a896c38074d4d19eae") false
    over (fun _ h => by cases h) (by kernel_rfl) (fun _ h => by cases h) shaSums_row_tie rfl ⟨rfl, rfl⟩ (by kernel_rfl) rfl
    (fun f fn hf hfn => by
      obtain rfl : f = 3 := Option.some.inj ((show Tryd.prog.funcNamed "cashier/cashierlaw05.ShaSums" = some 3 by kernel_rfl).symm.trans hf) |>.symm
      obtain rfl : fn = Tryd.f3 := (Option.some.inj (Tryd.func3.symm.trans hfn)).symm
      exact ⟨by kernel_rfl, fun j t ht => by
        rw [Tryd.params3] at ht
        have hm : t ∈ [9, 5, 22] := by simpa using Array.mem_of_getElem? ht
        have hall : ([9, 5, 22].all fun u => !Tryd.prog.wantsStandIn u) = true := by kernel_rfl
        exact (show Tryd.prog.wantsStandIn t = false by simpa using List.all_eq_true.1 hall t hm)⟩)
    (by kernel_rfl)

end Go.Proofs.YtdhplohppcndhaaDoor.shaSums
