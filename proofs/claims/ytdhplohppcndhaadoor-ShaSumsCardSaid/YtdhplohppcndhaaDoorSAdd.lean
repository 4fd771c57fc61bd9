/- More added to a sum. -/
import Derived.Great.BuildSlice
import Derived.Test.YtdhplohppcndhaaDoorSHash
namespace Go.Proofs.YtdhplohppcndhaaDoor
open Go.RowKit
set_option linter.unusedVariables false

/-- What is held of a text, noughts behind. -/
def heldL (T : List UInt8) : List UInt8 := T.drop (64 * (T.length / 64)) ++ List.replicate (64 - T.length % 64) 0
theorem heldL_length (T : List UInt8) : (heldL T).length = 64 := by unfold heldL; simp; omega

theorem hash_build (st : S8) (n : Nat) (W : World) : (Instr.build 33 #[(0, .agg #[.int .u32 st.a.toNat, .int .u32 st.b.toNat, .int .u32 st.c.toNat, .int .u32 st.d.toNat, .int .u32 st.e.toNat, .int .u32 st.f.toNat, .int .u32 st.g.toNat, .int .u32 st.h.toNat]), (2, .int .u64 n)]).run Tryd.prog W = .ok (.agg (hashC st (List.replicate 64 0) n).toArray) W :=
  run_build W 33 _ _ (by kernel_rfl)

theorem wpList_buildRun {P : Program} {ops : Array Oper} {rest : List Oper} {o : Oper} {a : Act} {w : World} {Q : Exit → Act → World → Prop} (hg : o.guard = none) (t : TypeId) (parts : Array (Nat × Operand)) (ho : o.op = .build t parts)
    (vals : Array (Nat × Value)) (cells : Array Value) (hv : (parts.map fun (i, x) => (i, a.eval x)) = vals) (hrun : ∀ W, (Instr.build t vals).run P W = .ok (.agg cells) W)
    (h : wpList P ops Q rest (a.put o.dst (.agg cells)) w) : wpList P ops Q (o :: rest) a w := by
  refine wpList_plain hg fun _ hK => ?_
  unfold Oper.wp execOp
  simp only [ho, Sem.run_bind, hv, hrun, Result.andThen_ok]
  exact hK _ _ h

/-- A text's rest laid over what is held. -/
theorem held_over (st : S8) (T : List UInt8) (n : Nat) : over (hashC st (List.replicate 64 0) n) 8 (T.drop (64 * (T.length / 64))) = hashC st (heldL T) n := by
  have hl : (T.drop (64 * (T.length / 64))).length = T.length % 64 := by rw [List.length_drop]; omega
  have h8 : (s8l st).length = 8 := rfl
  have e0 : (s8l st ++ ((List.replicate 64 0).map bv ++ [Value.int .u64 (n : Int)])).drop (8 + T.length % 64) = (List.replicate (64 - T.length % 64) 0).map bv ++ [Value.int .u64 (n : Int)] := by
    rw [show 8 + T.length % 64 = (s8l st).length + T.length % 64 by rw [h8], List.drop_length_add_append, List.drop_append_of_le_length (by simp; omega), List.map_replicate, List.map_replicate, List.drop_replicate]
  unfold over hashC heldL
  rw [List.take_left' h8, hl, e0, List.map_append, List.append_assoc, List.append_assoc]

/-- The state's words laid anew, what stands behind them stays. -/
theorem row8_pre {W : World} {g : Nat} {t : TypeId} {a b : S8} {r : List Value} (h : Row W g t (s8l a ++ r)) :
    Row ((((((((W.setCell ⟨g, 0, none⟩ (.int .u32 b.a.toNat)).setCell ⟨g, 1, none⟩ (.int .u32 b.b.toNat)).setCell ⟨g, 2, none⟩ (.int .u32 b.c.toNat)).setCell ⟨g, 3, none⟩ (.int .u32 b.d.toNat)).setCell ⟨g, 4, none⟩ (.int .u32 b.e.toNat)).setCell ⟨g, 5, none⟩ (.int .u32 b.f.toNat)).setCell ⟨g, 6, none⟩ (.int .u32 b.g.toNat)).setCell ⟨g, 7, none⟩ (.int .u32 b.h.toNat)) g t (s8l b ++ r) :=
  (((((((h.set 0 _).set 1 _).set 2 _).set 3 _).set 4 _).set 5 _).set 6 _).set 7 _

/-- The state behind more text. -/
def addS (st : S8) (n : Nat) (T : List UInt8) : S8 := if 64 ≤ T.length then mixK (begun st n) T (T.length / 64) else st

set_option maxRecDepth 4000 in
set_option maxHeartbeats 2000000 in
theorem Add_any (st : S8) (hl : List UInt8) (n : Nat) (s : ByteArray) (hh : hl.length = 64) (hn : n + s.size ≤ 140737488355000) (T : List UInt8) (hT : hl.take (n % 64) ++ s.data.toList = T) (w : World) (hG : G w) :
    Calls Tryd.prog 12 #[hashV st hl n, .string s] w fun e w' => e = .returned (hashV (addS st n T) (heldL T) (n + s.size)) ∧ Below w.heap.size w w' := by
  have hz := (zero_of_info hash_info).1
  have hTl : T.length = n % 64 + s.size := by rw [← hT, List.length_append, List.length_take, hh]; simp; omega
  obtain ⟨C, hC⟩ : ∃ C, hashC st hl n = C := ⟨_, rfl⟩
  obtain ⟨Z, hZ⟩ : ∃ Z, hashC zHash (List.replicate 64 0) 0 = Z := ⟨_, rfl⟩
  have hCl : C.length = 73 := by rw [← hC]; exact hashC_length _ _ hh
  have hZl : Z.length = 73 := by rw [← hZ]; exact hashC_length _ _ rfl
  rw [hZ] at hz
  obtain ⟨w1, hw1⟩ : ∃ w1, (w.alloc (.cells C.toArray 33)).alloc (.cells Z.toArray 33) = w1 := ⟨_, rfl⟩
  have hr0 : Row w1 w.heap.size 33 C := by rw [← hw1]; exact (Row.new w _ _).alloc _
  have hr1 : Row w1 (w.heap.size + 1) 33 Z := by
    have h := Row.new (w.alloc (.cells C.toArray 33)) 33 Z
    rw [World.size_alloc] at h
    rw [← hw1]
    exact h
  have hb1 : Below w.heap.size w w1 := by rw [← hw1]; exact ((Below.refl _ _).alloc (Nat.le_refl _) _).alloc (by simp) _
  have e0 : hashV st hl n = .agg C.toArray := by rw [← hC]; rfl
  have HREST : Hid (∀ W : World, Calls Tryd.prog 40 #[.agg C.toArray] W fun e w' => e = .returned (.string ⟨(hl.take (n % 64)).toArray⟩) ∧ Below W.heap.size W w') := Lib.hid fun W => by
    rw [← e0]; exact rest_any st hl n hh (by omega) W
  have HBEG : Hid (∀ W : World, G W → Calls Tryd.prog 42 #[.agg C.toArray] W fun e w' => e = .returned (s8v (begun st n)) ∧ Below W.heap.size W w') := Lib.hid fun W hg => by
    rw [← e0]; exact begun_any st hl n hh (by omega) W hg
  obtain ⟨R, hR⟩ : ∃ R : ByteArray, (⟨(hl.take (n % 64)).toArray⟩ : ByteArray) = R := ⟨_, rfl⟩
  have hRs : R.size = n % 64 := by rw [← hR]; show (hl.take (n % 64)).toArray.size = _; simp; omega
  obtain ⟨X, hX⟩ : ∃ X : ByteArray, R ++ s = X := ⟨_, rfl⟩
  have hXs : X.size = n % 64 + s.size := by rw [← hX, ByteArray.size_append, hRs]
  have hXT : X.data.toList = T := by rw [← hX, ← hT, ← hR]; simp
  have hadd : ∀ W : World, (Op.stringOp .add R s).run Tryd.prog W = .ok (.string X) W := fun W => by rw [← hX]; exact run_string_add_sum W R s (by omega)
  rw [hR] at HREST
  rw [e0]
  have HW := Lib.hid (And.intro hw1 (And.intro hr0 (And.intro hr1 hb1)))
  have HE := Lib.hid (And.intro hC (And.intro hCl (And.intro hZl hXT)))
  clear e0 hR hX hw1 hr0 hr1 hb1 hC hCl hZl hXT hRs
  go_enter Tryd.func12, Tryd.ntmps12
  go_upto_region 1 with fail
  rw [HW.out.1]
  have hr0 := HW.out.2.1
  go_wp2_with (refine wpList_load_row rfl 33 (.tmp 2) rfl w.heap.size rfl 33 C.toArray (0, 0) _ hr0 Tryd.underlying33 rfl (by rw [hash_size, List.size_toArray, HE.out.2.1]) ?_)
  refine (HREST.out _).mono ?_
  rintro e w2 ⟨rfl, hb2⟩
  have hr0' := hr0.below hb2 hr0.lt
  have hr1 := HW.out.2.2.1.below hb2 HW.out.2.2.1.lt
  have hbw2 := HW.out.2.2.2.trans (hb2.mono HW.out.2.2.2.size)
  have hG2 : G w2 := hG.below hbw2
  have hs2 : w.heap.size + 2 ≤ w2.heap.size := by have := hb2.size; have := HW.out.2.2.1.lt; omega
  have HV := Lib.hid (And.intro hr0' (And.intro hr1 (And.intro hbw2 (And.intro hG2 hs2))))
  have hc := fun (i : Nat) (hi : i < 8) => (hr0'.cell i).trans (by rw [← HE.out.1, hashC_state st hl n hi])
  have c0 : w2.cell? ⟨w.heap.size, 0, none⟩ = some (.int .u32 st.a.toNat) := hc 0 (by omega)
  have c1 : w2.cell? ⟨w.heap.size, 1, none⟩ = some (.int .u32 st.b.toNat) := hc 1 (by omega)
  have c2 : w2.cell? ⟨w.heap.size, 2, none⟩ = some (.int .u32 st.c.toNat) := hc 2 (by omega)
  have c3 : w2.cell? ⟨w.heap.size, 3, none⟩ = some (.int .u32 st.d.toNat) := hc 3 (by omega)
  have c4 : w2.cell? ⟨w.heap.size, 4, none⟩ = some (.int .u32 st.e.toNat) := hc 4 (by omega)
  have c5 : w2.cell? ⟨w.heap.size, 5, none⟩ = some (.int .u32 st.f.toNat) := hc 5 (by omega)
  have c6 : w2.cell? ⟨w.heap.size, 6, none⟩ = some (.int .u32 st.g.toNat) := hc 6 (by omega)
  have c7 : w2.cell? ⟨w.heap.size, 7, none⟩ = some (.int .u32 st.h.toNat) := hc 7 (by omega)
  have c72 : w2.cell? ⟨w.heap.size, 72, none⟩ = some (.int .u64 n) := (hr0'.cell 72).trans (by rw [← HE.out.1, hashC_size st n hh])
  obtain ⟨m, hm⟩ : ∃ m, n + s.size = m := ⟨_, rfl⟩
  have hmi : (n : Int) + (s.size : Int) = (m : Int) := by omega
  have hbd := fun W => hash_build st m W
  obtain ⟨B, hB⟩ : ∃ B, hashC st (List.replicate 64 0) m = B := ⟨_, rfl⟩
  rw [hB] at hbd
  have HBD := Lib.hid hbd
  have hBl : B.length = 73 := by rw [← hB]; exact hashC_length _ _ rfl
  have hB1 : B.toArray.all (·.oneCell') = true := by rw [← hB]; exact hashC_one _ _ _
  have HB := Lib.hid (And.intro hB (And.intro hBl (And.intro hB1 hm)))
  have hrz := Row.new w2 33 Z
  clear hr0 hr0' hr1 hbw2 hG2 hs2 hb2 hc hB hBl hB1 hm hbd
  go_upto_region 4 with (first
    | (refine wpList_buildRun rfl 33 _ rfl #[(0, .agg #[.int .u32 st.a.toNat, .int .u32 st.b.toNat, .int .u32 st.c.toNat, .int .u32 st.d.toNat, .int .u32 st.e.toNat, .int .u32 st.f.toNat, .int .u32 st.g.toNat, .int .u32 st.h.toNat]), (2, .int .u64 m)] B.toArray ?hv HBD.out ?_; (case hv => simp only [List.map_toArray, List.map_cons, List.map_nil]; rfl))
    | (refine wpList_store_row rfl 33 (.tmp 7) (.tmp 24) rfl w2.heap.size B.toArray rfl rfl 33 Z.toArray hrz (by rw [hash_size, List.size_toArray, HB.out.2.1]) (by rw [List.size_toArray, List.size_toArray, HB.out.2.1, HE.out.2.2.1]) HB.out.2.2.1 ?_))
  obtain ⟨w3, hw3⟩ : ∃ w3, (w2.alloc (.cells Z.toArray 33)).setRow w2.heap.size B.toArray = w3 := ⟨_, rfl⟩
  rw [hw3]
  have r3 : Row w3 w2.heap.size 33 B := by rw [← hw3]; exact hrz.put B
  have b23 : Below w2.heap.size w2 w3 := by rw [← hw3]; exact below_setRow (B := w2.heap.size) ((Below.refl _ _).alloc (Nat.le_refl _) _) (Nat.le_refl _) B.toArray
  have r0 := HV.out.1.below b23 HV.out.1.lt
  have r1 := HV.out.2.1.below b23 HV.out.2.1.lt
  have bw3 := HV.out.2.2.1.trans (b23.mono HV.out.2.2.1.size)
  have hG3 : G w3 := hG.below bw3
  have hq : ((n : Int) % 64 + (s.size : Int)) / 64 * 64 = ((X.size / 64 * 64 : Nat) : Int) := by omega
  have hXl : X.size = T.length := by omega
  have hXb : X.size ≤ 140737488355328 := by omega
  rw [hq]
  have H3 := Lib.hid (And.intro r3 (And.intro r0 (And.intro r1 (And.intro bw3 (And.intro hG3 hXl)))))
  have hs3 : w2.heap.size < w3.heap.size := r3.lt
  have HXl := Lib.hid hXl
  clear hrz hw3 b23 r0 r1 bw3 hG3 hq hXs c0 c1 c2 c3 c4 c5 c6 c7 c72 r3 hXl hTl
  by_cases hwh : 64 ≤ X.size
  · have hpos : (0 : Int) < ((X.size / 64 * 64 : Nat) : Int) := by omega
    obtain ⟨q, hqq⟩ : ∃ q, X.size / 64 * 64 = q := ⟨_, rfl⟩
    rw [hqq] at hpos ⊢
    have r0 := H3.out.2.1
    go_wp2_with (refine wpList_load_row rfl 33 (.tmp 2) rfl w.heap.size rfl 33 C.toArray (0, 0) _ r0 Tryd.underlying33 rfl (by rw [hash_size, List.size_toArray, HE.out.2.1]) ?_)
    refine (HBEG.out _ H3.out.2.2.2.2.1).mono ?_
    rintro e w4 ⟨rfl, hb4⟩
    go_wp2_with fail
    refine ((callsIn_wide (n := 0)).1 (whole_in 0 X _)).mono ?_
    rintro e w5 ⟨rfl, rfl⟩
    go_wp2_with fail
    refine (mixed_whole (begun st n) X hXb _ w4.heap.size (World.alloc_heap_new _ _)).mono ?_
    rintro e w6 ⟨rfl, hb6⟩
    rw [World.size_alloc] at hb6
    obtain ⟨S, hS⟩ : ∃ S, mixK (begun st n) X.data.toList (X.size / 64) = S := ⟨_, rfl⟩
    have hb36 : Below w3.heap.size w3 w6 := hb4.trans (((Below.refl _ w4).alloc hb4.size _).trans (hb6.mono (Nat.le_succ_of_le hb4.size)))
    have r3 := H3.out.1.below hb36 H3.out.1.lt
    rw [← HB.out.1] at r3
    have r1 := H3.out.2.2.1.below hb36 H3.out.2.2.1.lt
    have bw := H3.out.2.2.2.1.trans (hb36.mono H3.out.2.2.2.1.size)
    have d0 : w6.cell? ⟨w2.heap.size, 0, none⟩ = some (.int .u32 st.a.toNat) := r3.cell 0
    have d1 : w6.cell? ⟨w2.heap.size, 1, none⟩ = some (.int .u32 st.b.toNat) := r3.cell 1
    have d2 : w6.cell? ⟨w2.heap.size, 2, none⟩ = some (.int .u32 st.c.toNat) := r3.cell 2
    have d3 : w6.cell? ⟨w2.heap.size, 3, none⟩ = some (.int .u32 st.d.toNat) := r3.cell 3
    have d4 : w6.cell? ⟨w2.heap.size, 4, none⟩ = some (.int .u32 st.e.toNat) := r3.cell 4
    have d5 : w6.cell? ⟨w2.heap.size, 5, none⟩ = some (.int .u32 st.f.toNat) := r3.cell 5
    have d6 : w6.cell? ⟨w2.heap.size, 6, none⟩ = some (.int .u32 st.g.toNat) := r3.cell 6
    have d7 : w6.cell? ⟨w2.heap.size, 7, none⟩ = some (.int .u32 st.h.toNat) := r3.cell 7
    have hf0 := r3.frozen 0
    have hf1 := r3.frozen 1
    have hf2 := r3.frozen 2
    have hf3 := r3.frozen 3
    have hf4 := r3.frozen 4
    have hf5 := r3.frozen 5
    have hf6 := r3.frozen 6
    have hf7 := r3.frozen 7
    have HSS : Hid (addS st n T = S) := Lib.hid (by
      unfold addS
      rw [if_pos (by have := H3.out.2.2.2.2.2; omega), ← hS, HE.out.2.2.2, H3.out.2.2.2.2.2])
    have H6 := Lib.hid (And.intro r3 (And.intro r1 bw))
    rw [hS, s8v_eq]
    clear hb36 hb4 hb6 r3 r1 bw r0 hS
    go_upto_region 6 with fail
    have r3' := row8_pre (b := S) H6.out.1
    have r1' : ∀ v0 v1 v2 v3 v4 v5 v6 v7 : Value, Row ((((((((w6.setCell ⟨w2.heap.size, 0, none⟩ v0).setCell ⟨w2.heap.size, 1, none⟩ v1).setCell ⟨w2.heap.size, 2, none⟩ v2).setCell ⟨w2.heap.size, 3, none⟩ v3).setCell ⟨w2.heap.size, 4, none⟩ v4).setCell ⟨w2.heap.size, 5, none⟩ v5).setCell ⟨w2.heap.size, 6, none⟩ v6).setCell ⟨w2.heap.size, 7, none⟩ v7) (w.heap.size + 1) 33 Z := fun v0 v1 v2 v3 v4 v5 v6 v7 => (other8 (by have := HV.out.2.2.2.2; omega) v0 v1 v2 v3 v4 v5 v6 v7).trans H6.out.2.1
    have b' := fun v0 v1 v2 v3 v4 v5 v6 v7 => below8 (g := w2.heap.size) H6.out.2.2 (by have := HV.out.2.2.2.2; omega) v0 v1 v2 v3 v4 v5 v6 v7
    have r1'' := r1' (.int .u32 S.a.toNat) (.int .u32 S.b.toNat) (.int .u32 S.c.toNat) (.int .u32 S.d.toNat) (.int .u32 S.e.toNat) (.int .u32 S.f.toNat) (.int .u32 S.g.toNat) (.int .u32 S.h.toNat)
    have b'' := b' (.int .u32 S.a.toNat) (.int .u32 S.b.toNat) (.int .u32 S.c.toNat) (.int .u32 S.d.toNat) (.int .u32 S.e.toNat) (.int .u32 S.f.toNat) (.int .u32 S.g.toNat) (.int .u32 S.h.toNat)
    clear r1' b' d0 d1 d2 d3 d4 d5 d6 d7 hf0 hf1 hf2 hf3 hf4 hf5 hf6 hf7
    have hs4 := HV.out.2.2.2.2
    generalize (((((((w6.setCell ⟨w2.heap.size, 0, none⟩ (.int .u32 S.a.toNat)).setCell ⟨w2.heap.size, 1, none⟩ (.int .u32 S.b.toNat)).setCell ⟨w2.heap.size, 2, none⟩ (.int .u32 S.c.toNat)).setCell ⟨w2.heap.size, 3, none⟩ (.int .u32 S.d.toNat)).setCell ⟨w2.heap.size, 4, none⟩ (.int .u32 S.e.toNat)).setCell ⟨w2.heap.size, 5, none⟩ (.int .u32 S.f.toNat)).setCell ⟨w2.heap.size, 6, none⟩ (.int .u32 S.g.toNat)).setCell ⟨w2.heap.size, 7, none⟩ (.int .u32 S.h.toNat) = wa at r3' r1'' b'' ⊢
    have hqx : q ≤ X.size := by omega
    have hsx : (X.extract q X.size).size ≤ 64 := by rw [ByteArray.size_extract]; omega
    have hxd : (X.extract q X.size).data.toList = T.drop (64 * (T.length / 64)) := by
      rw [Lib.extract_data, HE.out.2.2.2, List.take_of_length_le (by rw [List.length_drop]; have := H3.out.2.2.2.2.2; omega)]
      congr 1
      have := H3.out.2.2.2.2.2
      omega
    have hsl := fun W => slice_arr_all (P := Tryd.prog) 30 5 64 Tryd.underlying30 Tryd.sizeOf5 w2.heap.size 8 (by omega) W
    have hov := held_over S T m
    rw [← hxd] at hov
    have hcp := fun k => copy_row (P := Tryd.prog) 62 9 3 5 w2.heap.size 8 64 64 (X.extract q X.size) (hashC S (List.replicate 64 0) m) 33 Tryd.underlying62 (by kernel_rfl) (Row.drewN r3' k) hsx (by rw [hashC_length _ _ (by rfl)]; omega)
    rw [hov] at hcp
    obtain ⟨F, hF⟩ : ∃ F, hashC S (heldL T) m = F := ⟨_, rfl⟩
    have hFl : F.length = 73 := by rw [← hF]; exact hashC_length _ _ (heldL_length T)
    have hF1 : F.toArray.all (·.oneCell') = true := by rw [← hF]; exact hashC_one _ _ _
    rw [hF] at hcp
    have k3 := fun k => (Row.drewN r3' k).put F
    have k1 := fun k => (Row.drewN r1'' k).put_far (g' := w2.heap.size) (by omega) F.toArray
    have kb := fun k => below_setRow (B := w.heap.size) (below_drewN b'' k) (by omega : w.heap.size ≤ w2.heap.size) F.toArray
    have HF := Lib.hid (And.intro hFl (And.intro hF1 (And.intro k3 (And.intro k1 kb))))
    have HFF := Lib.hid hF
    clear hov hxd hF hFl hF1 k3 k1 kb
    go_wp2_with fail
    refine region_tail 5 (fun W' => ∃ k, W' = wa.drewN k) (by kernel_rfl) (by kernel_rfl) rfl ⟨1, rfl⟩ ?_
    simp only [List.take_succ_cons, List.take_zero]
    repeat (go_big_quiet_step (fail))
    refine wpQuiet_nil ?_
    rintro w7 ⟨nq, rfl⟩
    have k3 := HF.out.2.2.1 nq
    have k1 := HF.out.2.2.2.1 nq
    have hcq := hcp nq
    clear hcp
    go_wp2_with (first
      | (refine wpList_load_row rfl 33 (.tmp 7) rfl w2.heap.size rfl 33 F.toArray (0, 0) _ k3 Tryd.underlying33 rfl (by rw [hash_size, List.size_toArray, HF.out.1]) ?_)
      | (refine wpList_store_row rfl 33 (.tmp 4) (.tmp 39) rfl (w.heap.size + 1) F.toArray rfl rfl 33 Z.toArray k1 (by rw [hash_size, List.size_toArray, HF.out.1]) (by rw [List.size_toArray, List.size_toArray, HF.out.1, HE.out.2.2.1]) HF.out.2.1 ?_))
    exact bodyPost_ret (v := .agg F.toArray) (results_cell_row rfl _ _ (w.heap.size + 1) 33 F.toArray (0, 0) _ rfl (k1.put F) Tryd.underlying33 rfl (by rw [hash_size, List.size_toArray, HF.out.1])) rfl ⟨by rw [HB.out.2.2.2, HSS.out, ← HFF.out]; rfl, below_setRow (B := w.heap.size) (HF.out.2.2.2.2 nq) (by omega) F.toArray⟩
  · have hq0 : X.size / 64 * 64 = 0 := by omega
    have hq0i : ((X.size / 64 * 64 : Nat) : Int) = 0 := by rw [hq0]; rfl
    obtain ⟨q, hqq⟩ : ∃ q : Nat, X.size / 64 * 64 = q := ⟨_, rfl⟩
    rw [hqq] at hq0i hq0 ⊢
    have hqx : q ≤ X.size := by omega
    have HSS : Hid (addS st n T = st) := Lib.hid (by
      unfold addS
      rw [if_neg (by have := H3.out.2.2.2.2.2; omega)])
    have hs4 := HV.out.2.2.2.2
    have r3 := H3.out.1
    rw [← HB.out.1] at r3
    have r1 := H3.out.2.2.1
    have bw := H3.out.2.2.2.1
    have hqle : (q : Int) ≤ 0 := by omega
    have HQ0 := Lib.hid hq0
    have hsx : (X.extract q X.size).size ≤ 64 := by rw [ByteArray.size_extract]; omega
    clear hq0i hq0
    have hxd : (X.extract q X.size).data.toList = T.drop (64 * (T.length / 64)) := by
      rw [Lib.extract_data, HE.out.2.2.2, List.take_of_length_le (by rw [List.length_drop]; have := H3.out.2.2.2.2.2; omega)]
      congr 1
      have := H3.out.2.2.2.2.2
      omega
    have hsl := fun W => slice_arr_all (P := Tryd.prog) 30 5 64 Tryd.underlying30 Tryd.sizeOf5 w2.heap.size 8 (by omega) W
    have hov := held_over st T m
    rw [← hxd] at hov
    have hcp := fun k => copy_row (P := Tryd.prog) 62 9 3 5 w2.heap.size 8 64 64 (X.extract q X.size) (hashC st (List.replicate 64 0) m) 33 Tryd.underlying62 (by kernel_rfl) (Row.drewN r3 k) hsx (by rw [hashC_length _ _ (by rfl)]; omega)
    rw [hov] at hcp
    obtain ⟨F, hF⟩ : ∃ F, hashC st (heldL T) m = F := ⟨_, rfl⟩
    have hFl : F.length = 73 := by rw [← hF]; exact hashC_length _ _ (heldL_length T)
    have hF1 : F.toArray.all (·.oneCell') = true := by rw [← hF]; exact hashC_one _ _ _
    rw [hF] at hcp
    have k3 := fun k => (Row.drewN r3 k).put F
    have k1 := fun k => (Row.drewN r1 k).put_far (g' := w2.heap.size) (by omega) F.toArray
    have kb := fun k => below_setRow (B := w.heap.size) (below_drewN bw k) (by omega : w.heap.size ≤ w2.heap.size) F.toArray
    have HF := Lib.hid (And.intro hFl (And.intro hF1 (And.intro k3 (And.intro k1 kb))))
    have HFF := Lib.hid hF
    clear hov hxd hF hFl hF1 k3 k1 kb
    go_wp2_with fail
    refine region_tail 5 (fun W' => ∃ k, W' = w3.drewN k) (by kernel_rfl) (by kernel_rfl) rfl ⟨1, rfl⟩ ?_
    simp only [List.take_succ_cons, List.take_zero]
    repeat (go_big_quiet_step (fail))
    refine wpQuiet_nil ?_
    rintro w7 ⟨nq, rfl⟩
    have k3 := HF.out.2.2.1 nq
    have k1 := HF.out.2.2.2.1 nq
    have hcq := hcp nq
    clear hcp
    go_wp2_with (first
      | (refine wpList_load_row rfl 33 (.tmp 7) rfl w2.heap.size rfl 33 F.toArray (0, 0) _ k3 Tryd.underlying33 rfl (by rw [hash_size, List.size_toArray, HF.out.1]) ?_)
      | (refine wpList_store_row rfl 33 (.tmp 4) (.tmp 39) rfl (w.heap.size + 1) F.toArray rfl rfl 33 Z.toArray k1 (by rw [hash_size, List.size_toArray, HF.out.1]) (by rw [List.size_toArray, List.size_toArray, HF.out.1, HE.out.2.2.1]) HF.out.2.1 ?_))
    exact bodyPost_ret (v := .agg F.toArray) (results_cell_row rfl _ _ (w.heap.size + 1) 33 F.toArray (0, 0) _ rfl (k1.put F) Tryd.underlying33 rfl (by rw [hash_size, List.size_toArray, HF.out.1])) rfl ⟨by rw [HB.out.2.2.2, HSS.out, ← HFF.out]; rfl, below_setRow (B := w.heap.size) (HF.out.2.2.2.2 nq) (by omega) F.toArray⟩
end Go.Proofs.YtdhplohppcndhaaDoor
