/- All blocks of a text, as an iterator. -/
import Derived.Test.YtoampocobmeebaaGreatDoorSWhole
import Derived.Test.YtoampocobmeebaaGreatDoorSBytes
namespace Go.Proofs.YtoampocobmeebaaGreatDoor
open Go.RowKit Go.Shelf
set_option linter.unusedVariables false
attribute [local go_sem] Oper.semAt_some

/-- A whole text. -/
def padB (s : ByteArray) : ByteArray := ⟨(padL s.data.toList).toArray⟩
theorem padB_data (s : ByteArray) : (padB s).data.toList = padL s.data.toList := rfl
theorem padB_size (s : ByteArray) : (padB s).size = s.size + (9 + (119 - s.size % 64) % 64) := by
  show (padL s.data.toList).toArray.size = _
  rw [List.size_toArray]
  unfold padL
  rw [List.length_append, endL_length]
  simp
/-- What stands behind the whole blocks, with the ending. -/
def restB (s : ByteArray) : ByteArray := s.extract (s.size / 64 * 64) s.size ++ ⟨(endL s.size).toArray⟩
theorem restB_size (s : ByteArray) : (restB s).size = s.size % 64 + (9 + (119 - s.size % 64) % 64) := by
  unfold restB
  rw [ByteArray.size_append, ByteArray.size_extract]
  show _ + (endL s.size).toArray.size = _
  rw [List.size_toArray, endL_length]
  omega
theorem restB_data (s : ByteArray) : (restB s).data.toList = (padL s.data.toList).drop (s.size / 64 * 64) := by
  unfold restB padL
  have hl : s.data.toList.length = s.size := by simp
  rw [ByteArray.data_append, Array.toList_append, Lib.extract_data, hl, List.drop_append_of_le_length (by omega), List.take_of_length_le (by rw [List.length_drop]; omega)]
/-- The blocks of a whole text are those that it begins with, and those behind. -/
theorem blks_pad (s : ByteArray) : blksB s (s.size / 64) ++ blksB (restB s) ((restB s).size / 64) = blksB (padB s) ((padB s).size / 64) := by
  have hq : (padB s).size / 64 = s.size / 64 + (restB s).size / 64 := by rw [padB_size, restB_size]; omega
  have hl : s.data.toList.length = s.size := by simp
  have hpl : (padL s.data.toList).length = (padB s).size := by show _ = (padL s.data.toList).toArray.size; rw [List.size_toArray]
  rw [hq]
  unfold blksB
  rw [List.range_add, List.map_append, List.map_map]
  congr 1
  · apply List.map_congr_left
    intro i hi
    have hi' := List.mem_range.1 hi
    apply ByteArray.ext
    apply Array.ext'
    rw [Lib.extract_data, Lib.extract_data, padB_data]
    unfold padL
    rw [List.drop_append_of_le_length (by omega), List.take_append_of_le_length (by rw [List.length_drop]; omega)]
  · apply List.map_congr_left
    intro i hi
    have hi' := List.mem_range.1 hi
    apply ByteArray.ext
    apply Array.ext'
    show ((restB s).extract (i * 64) ((i + 1) * 64)).data.toList = ((padB s).extract ((s.size / 64 + i) * 64) ((s.size / 64 + i + 1) * 64)).data.toList
    rw [Lib.extract_data, Lib.extract_data, padB_data, restB_data, List.drop_drop, show (i + 1) * 64 - i * 64 = 64 by omega, show (s.size / 64 + i + 1) * 64 - (s.size / 64 + i) * 64 = 64 by omega, show s.size / 64 * 64 + i * 64 = (s.size / 64 + i) * 64 by omega]

theorem grown_below {W W' : World} (h : Below W.heap.size W W') : W.grownBy W' none := ⟨h.os, h.tape, h.output, h.size, fun k hk _ => h.block k hk⟩
theorem own_below {β : Type} {B : Nat} {J : β → World → Prop} (h : OwnFrom B J) {b : β} {W W' : World} (hb : Below W.heap.size W W') (hj : J b W) : J b W' := h b W W' none hj (grown_below hb) (fun r e => by cases e)
theorem ownFrom_obj {β : Type} {B k : Nat} (hk : k < B) (o : Obj) : OwnFrom B (fun (_ : β) W => W.heap[k]? = some o) := fun _ W W' row hs hg hr =>
  (hg.block k (Array.getElem?_eq_some_iff.1 hs).1 (fun e => by have := (hr k e.symm).1; omega)).trans hs
theorem ownFrom_map {α β : Type} {B : Nat} {J : β → World → Prop} (h : OwnFrom B J) (f : α → β) : OwnFrom B (fun a W => J (f a) W) := fun a W W' row hs hg hr => h (f a) W W' row hs hg hr
theorem ownFrom_size {β : Type} (B m : Nat) : OwnFrom B (fun (_ : β) W => m ≤ W.heap.size) := fun _ _ _ _ hs hg _ => Nat.le_trans hs hg.size
theorem own_rowL {β : Type} (g : Nat) (t : TypeId) (l : List Value) : Own (fun (_ : β) W => Row W g t l) := own_row g t (fun _ => l)

set_option maxRecDepth 100000 in
set_option maxHeartbeats 2000000 in
theorem blocks1_in (n : Nat) (hn : 4 ≤ n) (l Bn E : Nat) (s : ByteArray) (hs : s.size ≤ 140737488355000) (J Jx : List Blk → World → Prop)
    (hY : ∀ pre x W, J pre W → pre.length < (padB s).size / 64 → YieldAt Fence.wide (n - 1) Tryz.prog l #[.string x.1] W fun e W' =>
      (e = .returned (.bool true) ∧ J (pre ++ [x]) W' ∧ KeepsAt Bn E W W') ∨ (e = .returned (.bool false) ∧ Jx (pre ++ [x]) W' ∧ KeepsAt Bn E W W'))
    (W : World) (hE : E ≤ W.heap.size) (hJ : OwnFrom W.heap.size J) (hJx : OwnFrom W.heap.size Jx) (hb1 : Row W Bn 9 [.string s]) (h0 : J [] W) :
    CallsIn Fence.wide n Tryz.prog 92 #[.func (.yield l) #[] #[], .pointer (some ⟨Bn, 0, none⟩)] W fun e W' => (∃ v, e = .returned v) ∧
      ((∃ ys : List Blk, ys.map Subtype.val = blksB (padB s) ((padB s).size / 64) ∧ J ys W') ∨ (∃ pre : List Blk, pre.map Subtype.val <+: blksB (padB s) ((padB s).size / 64) ∧ Jx pre W')) := by
  have hBn := hb1.lt
  have hc0 := hb1.cell 0
  refine callsIn_of_wp_marks Tryz.func92 rfl trivial ?_ rfl
  simp only [Tryz.ntmps92, List.size_toArray, List.length_cons, List.length_nil, Nat.reduceAdd, Nat.reduceSub, Array.replicate_succ, Array.replicate_zero, List.push_toArray, List.append_toArray, List.nil_append, List.cons_append]
  obtain ⟨yf, hyf⟩ : ∃ yf : Value, Value.func (.yield l) #[] #[] = yf := ⟨_, rfl⟩
  have y0 : Row ((W.alloc (.cells #[Value.func (.yield l) #[] #[]] 117)).alloc (.cells #[.string s] 9)) W.heap.size 117 [yf] := by rw [← hyf]; exact (Row.new W _ _).alloc _
  have x0 : Row ((W.alloc (.cells #[Value.func (.yield l) #[] #[]] 117)).alloc (.cells #[.string s] 9)) (W.heap.size + 1) 9 [.string s] := by
    have h := Row.new (W.alloc (.cells #[Value.func (.yield l) #[] #[]] 117)) 9 [.string s]
    rw [World.size_alloc] at h
    exact h
  have b0 := (hb1.alloc (.cells #[Value.func (.yield l) #[] #[]] 117)).alloc (.cells #[.string s] 9)
  have j0 : J [] ((W.alloc (.cells #[Value.func (.yield l) #[] #[]] 117)).alloc (.cells #[.string s] 9)) := hJ.alloc _ (hJ.alloc _ h0)
  have z0 : ((W.alloc (.cells #[Value.func (.yield l) #[] #[]] 117)).alloc (.cells #[.string s] 9)).heap.size = W.heap.size + 2 := by simp
  obtain ⟨q, hq⟩ : ∃ q, s.size / 64 = q := ⟨_, rfl⟩
  obtain ⟨N, hN⟩ : ∃ N, (padB s).size / 64 = N := ⟨_, rfl⟩
  have hqN : q + (restB s).size / 64 = N := by rw [← hq, ← hN, padB_size, restB_size]; omega
  have hbl := blks_pad s
  rw [hq, hN] at hbl
  rw [hN] at hY ⊢
  have HQ := Lib.hid (And.intro hq (And.intro hN (And.intro hqN hbl)))
  have HY := Lib.hid hyf
  clear hq hN hbl hyf
  gi_wp2_with fail
  refine ⟨trivial, fun h => (by cases h), (whole_in (n - 1) s _).mono ?_⟩
  rintro e w2 ⟨rfl, rfl⟩
  gi_wp2_with fail
  generalize (W.alloc (.cells #[Value.func (.yield l) #[] #[]] 117)).alloc (.cells #[.string s] 9) = wl at y0 x0 b0 j0 z0 ⊢
  refine' range_stops rfl (by omega) (gf := 107) (lb := #[.pointer (some ⟨W.heap.size + 1, 0, none⟩)]) rfl trivial (enters_of Tryz.func107 (by kernel_rfl) rfl)
    (whole_stops (n - 1) (by omega) (W.heap.size + 1) (wl.heap.size + 2) s (by omega) wl x0) keepsAt_t (keepsAt_b (by omega) (by omega)) (Below.refl _ _) (fun _ => rfl)
    (fun pre W' => (Row W' Bn 9 [.string s] ∧ Row W' W.heap.size 117 [yf]) ∧ J pre W' ∧ W.heap.size + 2 ≤ W'.heap.size)
    (fun c pre W' => (Row W' Bn 9 [.string s] ∧ Row W' W.heap.size 117 [yf]) ∧ Jx pre W' ∧ c = .ret)
    (OwnFrom.and (OwnFrom.and (Own.from (own_rowL _ _ _) _) (Own.from (own_rowL _ _ _) _)) (OwnFrom.and (own_mono hJ (by omega)) (ownFrom_size _ _)))
    (fun c => OwnFrom.and (OwnFrom.and (Own.from (own_rowL _ _ _) _) (Own.from (own_rowL _ _ _) _)) (OwnFrom.and (own_mono hJx (by omega)) (ownFrom_pure _ _)))
    ⟨⟨b0, y0⟩, j0, by omega⟩
    _ _ _ _ _
  case refine'_2 =>
    intro l x W K hK
    gi_wp2
    exact hK
  case refine'_3 =>
    rintro l' pre x W' ⟨⟨hbn, hby⟩, hj, hsz⟩ hlt
    obtain ⟨fn, tmps, assign, body, hy, hR⟩ := hY pre x W' hj (by rw [HQ.out.1] at hlt; omega)
    have hcy := hby.cell 0
    have hcy' : W'.cell? ⟨W.heap.size, 0, none⟩ = some (.func (.yield l) #[] #[]) := by rw [HY.out]; exact hcy
    clear hcy
    gi_wp2
    refine ⟨fun h => (by cases h), (round_wide hR).mono ?_⟩
    rintro e W3 hpost
    have hk3 : KeepsAt Bn E W' W3 := by rcases hpost with ⟨_, _, h⟩ | ⟨_, _, h⟩ <;> exact h
    have hbn3 : Row W3 Bn 9 [.string s] := (hk3.2 Bn (.inl rfl) hbn.lt).trans hbn
    have hby3 : Row W3 W.heap.size 117 [yf] := (hk3.2 W.heap.size (.inr hE) hby.lt).trans hby
    have hKF : KeepsFrom wl.heap.size W' W3 := ⟨hk3.1, fun k o hk ho _ => (hk3.2 k (.inr (by omega)) (Array.getElem?_eq_some_iff.1 ho).1).trans ho⟩
    have hKA : KeepsAt (W.heap.size + 1) (wl.heap.size + 2) W' W3 := ⟨hk3.1, fun k hk hl => hk3.2 k (.inr (by rcases hk with rfl | hk <;> omega)) hl⟩
    have hs3 : W.heap.size + 2 ≤ W3.heap.size := Nat.le_trans hsz hk3.1
    rcases hpost with ⟨rfl, hj3, _⟩ | ⟨rfl, hjx3, _⟩
    · gi_wp2
      exact ⟨hKF, hKA, ⟨hbn3, hby3⟩, hj3, hs3⟩
    · gi_wp2
      exact ⟨hKF, hKA, ⟨hbn3, hby3⟩, hjx3, rfl⟩
  case refine'_5 =>
    rintro D c pre W' hD hpre ⟨_, hjx, rfl⟩ hK
    gi_wp2
    refine ⟨by simp, .inl ⟨_, _, rfl, run_takeDeferred hK, ?_⟩⟩
    exact ⟨_, results_none rfl _ _ _, ⟨_, rfl⟩, .inr ⟨pre, by rw [← HQ.out.2.2.2]; rw [HQ.out.1] at hpre; exact hpre.trans (List.prefix_append _ _), (own_mono hJx (by omega)).putObj _ hjx (Nat.le_refl D) hK rfl⟩⟩
  case refine'_4 =>
    rintro D ys W' hD hys ⟨⟨hbn, hby⟩, hj, hsz⟩ hK
    rw [HQ.out.1] at hys
    have hyl : ys.length = q := by rw [← blksB_length s q, ← hys, List.length_map]
    have hcx := hbn.cell 0
    obtain ⟨r, hr⟩ : ∃ r, s.size / 64 * 64 = r := ⟨_, rfl⟩
    have hqs : (s.size : Int) / 64 * 64 = (r : Int) := by omega
    have hqle : (r : Int) ≤ (s.size : Int) := by omega
    have HE : Hid (∀ (m : Nat) (W : World), CallsIn Fence.wide m Tryz.prog 94 #[.int .u64 s.size] W fun e w' => e = .returned (.string ⟨(endL s.size).toArray⟩) ∧ Below W.heap.size W w') := Lib.hid fun m W => callsIn_wide.2 (ending_any s.size W (by omega))
    obtain ⟨Eb, hEb⟩ : ∃ Eb : ByteArray, (⟨(endL s.size).toArray⟩ : ByteArray) = Eb := ⟨_, rfl⟩
    have hEs : Eb.size ≤ 128 := by rw [← hEb]; show (endL s.size).toArray.size ≤ _; rw [List.size_toArray, endL_length]; omega
    have hrb : s.extract r s.size ++ Eb = restB s := by rw [← hEb, ← hr]; rfl
    have hrs : (restB s).size ≤ 1000 := by rw [restB_size]; omega
    have hadd : ∀ W : World, (Op.stringOp .add (s.extract r s.size) Eb).run Tryz.prog W = .ok (.string (restB s)) W := fun W => by rw [← hrb]; exact run_string_add_sum W _ Eb (by rw [ByteArray.size_extract]; omega)
    rw [hEb] at HE
    have HV := Lib.hid (And.intro hbn (And.intro hby (And.intro hj (And.intro hK (And.intro hys hyl)))))
    clear hr hrb hEb hbn hby hj hK hys hyl
    gi_wp2_with fail
    refine ⟨trivial, fun h => (by cases h), (HE.out _ _).mono ?_⟩
    rintro e w3 ⟨rfl, hb3⟩
    gi_wp2_with fail
    refine ⟨trivial, fun h => (by cases h), (whole_in (n - 1) (restB s) _).mono ?_⟩
    rintro e w4 ⟨rfl, rfl⟩
    gi_wp2_with fail
    have hD' : wl.heap.size ≤ D := hD
    obtain ⟨hbn, hby, hj, hK, hys, hyl⟩ := HV.out
    have hb4 : Below W'.heap.size W' (w3.alloc (.cells #[.string (restB s)] 9)) := hb3.trans ((Below.refl _ w3).alloc hb3.size _)
    have x4 : Row (w3.alloc (.cells #[.string (restB s)] 9)) w3.heap.size 9 [.string (restB s)] := Row.new w3 _ _
    have bn4 := hbn.below hb4 hbn.lt
    have by4 := hby.below hb4 hby.lt
    have j4 := own_below hJ hb4 hj
    have hDl := (Array.getElem?_eq_some_iff.1 hK).1
    have k4 := (hb4.block D hDl).trans hK
    have z4 : (w3.alloc (.cells #[.string (restB s)] 9)).heap.size = w3.heap.size + 1 := by simp
    have s3 := hb3.size
    clear hb4 hb3 hbn hby hj hK
    generalize w3.alloc (.cells #[.string (restB s)] 9) = wm at x4 bn4 by4 j4 k4 z4 ⊢
    refine' range_stops rfl (by omega) (gf := 107) (lb := #[.pointer (some ⟨w3.heap.size, 0, none⟩)]) rfl trivial (enters_of Tryz.func107 (by kernel_rfl) rfl)
      (whole_stops (n - 1) (by omega) w3.heap.size (wm.heap.size + 2) (restB s) (by omega) wm x4) keepsAt_t (keepsAt_b (by omega) (by omega)) (Below.refl _ _) (fun _ => rfl)
      (fun pre W2 => (Row W2 Bn 9 [.string s] ∧ Row W2 W.heap.size 117 [yf]) ∧ J (ys ++ pre) W2 ∧ W2.heap[D]? = some (.deferred (some [])))
      (fun c pre W2 => Jx (ys ++ pre) W2 ∧ c = .ret ∧ W2.heap[D]? = some (.deferred (some [])))
      (OwnFrom.and (OwnFrom.and (Own.from (own_rowL _ _ _) _) (Own.from (own_rowL _ _ _) _)) (OwnFrom.and (ownFrom_map (own_mono hJ (by omega)) _) (ownFrom_obj (by omega) _)))
      (fun c => OwnFrom.and (ownFrom_map (own_mono hJx (by omega)) _) (OwnFrom.and (ownFrom_pure _ _) (ownFrom_obj (by omega) _)))
      ⟨⟨bn4, by4⟩, by rw [List.append_nil]; exact j4, k4⟩
      _ _ _ _ _
    case refine'_2 =>
      intro l x W K hK
      gi_wp2
      exact hK
    case refine'_3 =>
      rintro l' pre x W2 ⟨⟨hbn, hby⟩, hj, hk⟩ hlt
      obtain ⟨fn, tmps, assign, body, hy, hR⟩ := hY (ys ++ pre) x W2 hj (by rw [List.length_append]; have := HQ.out.2.2.1; omega)
      have hcy := hby.cell 0
      have hcy' : W2.cell? ⟨W.heap.size, 0, none⟩ = some (.func (.yield l) #[] #[]) := by rw [HY.out]; exact hcy
      clear hcy
      gi_wp2
      refine ⟨fun h => (by cases h), (round_wide hR).mono ?_⟩
      rintro e W3 hpost
      have hk3 : KeepsAt Bn E W2 W3 := by rcases hpost with ⟨_, _, h⟩ | ⟨_, _, h⟩ <;> exact h
      have hbn3 : Row W3 Bn 9 [.string s] := (hk3.2 Bn (.inl rfl) hbn.lt).trans hbn
      have hby3 : Row W3 W.heap.size 117 [yf] := (hk3.2 W.heap.size (.inr hE) hby.lt).trans hby
      have hkd : W3.heap[D]? = some (.deferred (some [])) := (hk3.2 D (.inr (by omega)) (Array.getElem?_eq_some_iff.1 hk).1).trans hk
      have hKF : KeepsFrom wm.heap.size W2 W3 := ⟨hk3.1, fun k o hk ho _ => (hk3.2 k (.inr (by omega)) (Array.getElem?_eq_some_iff.1 ho).1).trans ho⟩
      have hKA : KeepsAt w3.heap.size (wm.heap.size + 2) W2 W3 := ⟨hk3.1, fun k hk hl => hk3.2 k (.inr (by rcases hk with rfl | hk <;> omega)) hl⟩
      rcases hpost with ⟨rfl, hj3, _⟩ | ⟨rfl, hjx3, _⟩
      · gi_wp2
        exact ⟨hKF, hKA, ⟨hbn3, hby3⟩, by rw [← List.append_assoc]; exact hj3, hkd⟩
      · gi_wp2
        exact ⟨hKF, hKA, by rw [← List.append_assoc]; exact hjx3, rfl, hkd⟩
    case refine'_5 =>
      rintro D2 c pre W2 hD2 hpre ⟨hjx, rfl, hk⟩ hK2
      have hDD : D ≠ D2 := by omega
      gi_wp2
      have e2 : (W2.putObj D2 (.deferred none)).heap[D]? = some (.deferred (some [])) := (World.putObj_heap_other hDD).trans hk
      refine ⟨by simp, .inl ⟨_, _, rfl, run_takeDeferred hK2, ⟨by simp, .inl ⟨_, _, rfl, run_takeDeferred e2, ?_⟩⟩⟩⟩
      have j2 := (own_mono hJx (by omega : W.heap.size ≤ D2)).putObj (.deferred none) hjx (Nat.le_refl D2) hK2 rfl
      exact ⟨_, results_none rfl _ _ _, ⟨_, rfl⟩, .inr ⟨ys ++ pre, by rw [List.map_append, hys, ← HQ.out.2.2.2]; exact (List.prefix_append_right_inj _).2 hpre, (own_mono hJx (by omega : W.heap.size ≤ D)).putObj _ j2 (Nat.le_refl D) e2 rfl⟩⟩
    case refine'_4 =>
      rintro D2 zs W2 hD2 hzs ⟨_, hj, hk⟩ hK2
      have hDD : D ≠ D2 := by omega
      gi_wp2
      have e2 : (W2.putObj D2 (.deferred none)).heap[D]? = some (.deferred (some [])) := (World.putObj_heap_other hDD).trans hk
      refine ⟨by simp, .inl ⟨_, _, rfl, run_takeDeferred hK2, ⟨by simp, .inl ⟨_, _, rfl, run_takeDeferred e2, ?_⟩⟩⟩⟩
      have j2 := (own_mono hJ (by omega : W.heap.size ≤ D2)).putObj (.deferred none) hj (Nat.le_refl D2) hK2 rfl
      exact ⟨_, results_none rfl _ _ _, ⟨_, rfl⟩, .inl ⟨ys ++ zs, by rw [List.map_append, hys, hzs, ← HQ.out.2.2.2], (own_mono hJ (by omega : W.heap.size ≤ D)).putObj _ j2 (Nat.le_refl D) e2 rfl⟩⟩

set_option maxHeartbeats 1000000 in
theorem blocks_in (n : Nat) (s : ByteArray) (w : World) :
    CallsIn Fence.wide n Tryz.prog 82 #[.string s] w fun e w' => e = .returned (.func (.func 92) #[] #[.pointer (some ⟨w.heap.size, 0, none⟩)]) ∧ w' = w.alloc (.cells #[.string s] 9) := by
  refine callsIn_of_wp Tryz.func82 rfl trivial ?_ rfl
  simp only [Tryz.ntmps82, List.size_toArray, List.length_cons, List.length_nil, Nat.reduceAdd, Nat.reduceSub, Array.replicate_succ, Array.replicate_zero, List.push_toArray, List.append_toArray, List.nil_append, List.cons_append]
  gi_wp2
  go_ret
  exact ⟨rfl, rfl⟩

theorem blocks_stops (n : Nat) (hn : 4 ≤ n) (Bn : Nat) (s : ByteArray) (hs : s.size ≤ 140737488355000) (w : World) (h1 : Row w Bn 9 [.string s]) :
    Stops Fence.wide n Tryz.prog 92 #[.pointer (some ⟨Bn, 0, none⟩)] (fun x : Blk => #[.string x.1]) (KeepsAt Bn (w.heap.size + 2)) (fun ys => ys.map Subtype.val = blksB (padB s) ((padB s).size / 64)) (fun pre => pre.map Subtype.val <+: blksB (padB s) ((padB s).size / 64)) ((padB s).size / 64) w := fun l J Jx W hW hE hJ hJx hY h0 => by
  refine (blocks1_in n hn l Bn _ s hs J Jx hY W hE hJ hJx (h1.below hW h1.lt) h0).mono ?_
  rintro e W' ⟨hv, (⟨ys, h, hj⟩ | ⟨pre, h, hj⟩)⟩
  · exact ⟨hv, .inl ⟨ys, h, hj⟩⟩
  · exact ⟨hv, .inr ⟨pre, h, hj⟩⟩

/-- The state behind a whole text. -/
theorem mixed_blocks (st : S8) (s : ByteArray) (hs : s.size ≤ 140737488355000) (w : World) (Bn : Nat) (h1 : Row w Bn 9 [.string s]) :
    Calls Tryz.prog 81 #[s8v st, .func (.func 92) #[] #[.pointer (some ⟨Bn, 0, none⟩)]] w fun e w' => e = .returned (s8v (mixK st (padL s.data.toList) ((padL s.data.toList).length / 64))) ∧ Below w.heap.size w w' := by
  refine (mixed_any st 92 #[.pointer (some ⟨Bn, 0, none⟩)] Bn _ _ _ w h1.lt (enters_of Tryz.func92 (by kernel_rfl) rfl)
    (fun W hW => blocks_stops 5 (by omega) Bn s hs W (h1.below hW h1.lt))).mono ?_
  rintro e w' ⟨⟨ys, hys, rfl⟩, hb⟩
  have hl : (padB s).size = (padL s.data.toList).length := by show (padL s.data.toList).toArray.size = _; rw [List.size_toArray]
  exact ⟨by rw [blksB_data (padB s) _ ys hys, padB_data, hl], hb⟩
end Go.Proofs.YtoampocobmeebaaGreatDoor
