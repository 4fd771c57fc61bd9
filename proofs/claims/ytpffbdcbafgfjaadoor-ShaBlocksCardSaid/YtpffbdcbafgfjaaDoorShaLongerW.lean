/- The walk of ShaLonger. -/
import Derived.Test.YtpffbdcbafgfjaaDoorAwk5
namespace Go.Proofs.YtpffbdcbafgfjaaDoor
open Go.RowKit
set_option linter.unusedVariables false
attribute [local go_sem] Oper.semAt_some

/-- The blocks so far, one behind the other. -/
def catB (ys : List Blk) : ByteArray := ⟨(ys.map fun x => x.1.data.toList).flatten.toArray⟩
theorem catB_snoc (ys : List Blk) (x : Blk) : catB (ys ++ [x]) = catB ys ++ x.1 := by
  apply ByteArray.ext
  apply Array.ext'
  simp [catB]
theorem catL_len : ∀ ys : List Blk, ((ys.map fun x => x.1.data.toList).flatten).length = 64 * ys.length
  | [] => rfl
  | x :: ys => by
    rw [List.map_cons, List.flatten_cons, List.length_append, catL_len ys]
    have h : x.1.data.toList.length = 64 := by have := x.2; simpa using this
    rw [h, List.length_cons]; omega
theorem catB_size (ys : List Blk) : (catB ys).size = 64 * ys.length := by
  show ((ys.map fun x => x.1.data.toList).flatten).toArray.size = _
  rw [List.size_toArray, catL_len]
theorem catL_blks (s : ByteArray) : ∀ k, k ≤ s.size / 64 → ((blksB s k).map fun b => b.data.toList).flatten = s.data.toList.take (64 * k)
  | 0, _ => rfl
  | k + 1, h => by
    have hl : s.data.toList.length = s.size := by simp
    rw [blksB_succ, List.map_append, List.flatten_append, catL_blks s k (by omega)]
    simp only [List.map_cons, List.map_nil, List.flatten_cons, List.flatten_nil, List.append_nil]
    rw [Lib.extract_data, show (k + 1) * 64 - k * 64 = 64 by omega, show 64 * (k + 1) = 64 * k + 64 by omega, List.take_add, show k * 64 = 64 * k by omega]
theorem catB_all (s : ByteArray) (ys : List Blk) (h : ys.map Subtype.val = blksB s (s.size / 64)) (h0 : s.size % 64 = 0) : catB ys = s := by
  apply ByteArray.ext
  apply Array.ext'
  have hl : s.data.toList.length = s.size := by simp
  have e : (ys.map fun x => x.1.data.toList) = (ys.map Subtype.val).map fun b => b.data.toList := by rw [List.map_map]; rfl
  show (ys.map fun x => x.1.data.toList).flatten = _
  rw [e, h, catL_blks s _ (Nat.le_refl _), List.take_of_length_le (by omega)]
theorem padB_mod (s : ByteArray) : (padB s).size % 64 = 0 := by rw [padB_size]; omega
theorem padB_prefix (s : ByteArray) : Lib.hasPrefix (padB s).data.toList s.data.toList = true := by
  rw [padB_data]
  unfold padL Lib.hasPrefix
  simp
theorem padB_mark (s : ByteArray) (h : s.size < (padB s).size) : (padB s)[s.size] = 128 := by
  have hl : s.data.toList.length = s.size := by simp
  have h1 : (padB s).data.toList[s.size]? = some 128 := by
    rw [padB_data]
    unfold padL
    rw [List.getElem?_append_right (by omega), hl, Nat.sub_self]
    rfl
  have h2 : (padB s).data.toList[s.size]? = some (padB s)[s.size] := by
    rw [Array.getElem?_toList]
    exact Array.getElem?_eq_getElem (xs := (padB s).data) h
  rw [h2] at h1
  exact Option.some.inj h1

set_option maxRecDepth 100000 in
set_option maxHeartbeats 2000000 in
theorem ShaLonger_walk (a0 : ByteArray) (w0 : a0.size ≤ 140737488355328) (w : World) (hG : G w) :
    Calls Tryd.prog 5 #[.string a0] w fun e w' => e = .returned (.bool true) ∧ Below w.heap.size w w' := by
  by_cases hbig : 1000 < a0.size
  · have hb : (1000 : Int) < (a0.size : Int) := by omega
    go_enter Tryd.func5, Tryd.ntmps5
    go_wp2_with (go_at_call 9; refine (awake5_any _ hG).mono ?_; rintro e wa ⟨rfl, hBa⟩)
    go_ret
    exact ⟨rfl, hBa⟩
  · have hb : (a0.size : Int) ≤ 1000 := by omega
    refine (callsIn_wide (n := 7)).1 ?_
    refine callsIn_of_wp_marks Tryd.func5 rfl trivial ?_ rfl
    simp only [Tryd.ntmps5, List.size_toArray, List.length_cons, List.length_nil, Nat.reduceAdd, Nat.reduceSub, Array.replicate_succ, Array.replicate_zero, List.push_toArray, List.append_toArray, List.nil_append, List.cons_append]
    rw [wpIn_wide]
    go_wp2_with fail
    refine (awake5_any _ hG).mono ?_
    rintro e wa ⟨rfl, hBa⟩
    go_wp2_with fail
    refine (callsIn_wide.1 (blocks_in 0 a0 _)).mono ?_
    rintro e wb ⟨rfl, hwb⟩
    have hsz : wb.heap.size = wa.heap.size + 3 := by rw [hwb]; simp
    have hr1 : Row wb wa.heap.size 9 [.string (catB [])] := by rw [hwb]; exact ((Row.new wa _ _).alloc _).alloc _
    have hr2 : Row wb (wa.heap.size + 1) 3 [.int .i64 (([] : List Blk).length : Nat)] := by
      have h := (Row.new (wa.alloc (.cells #[.string ⟨#[]⟩] 9)) 3 [.int .i64 0]).alloc (.cells #[.string a0] 9)
      rw [World.size_alloc] at h
      rw [hwb]; exact h
    have hr3 : Row wb (wa.heap.size + 2) 9 [.string a0] := by
      have h := Row.new ((wa.alloc (.cells #[.string ⟨#[]⟩] 9)).alloc (.cells #[.int .i64 0] 3)) 9 [.string a0]
      rw [World.size_alloc, World.size_alloc] at h
      rw [hwb]; exact h
    have hbb : Below w.heap.size w wb := by
      have e := hBa.size
      rw [hwb]; exact ((hBa.alloc e _).alloc (by simp; omega) _).alloc (by simp; omega) _
    have hse := hBa.size
    go_wp2_with fail
    rw [← hwb]
    clear hwb hBa
    rw [← wpIn_wide (n := 7)]
    obtain ⟨N, hN⟩ : ∃ N, (padB a0).size / 64 = N := ⟨_, rfl⟩
    have hNl : N ≤ 100 := by rw [← hN, padB_size]; omega
    refine' range_stops rfl (by omega) (gf := 47) (lb := #[.pointer (some ⟨wa.heap.size + 2, 0, none⟩)]) rfl trivial (enters_of Tryd.func47 (by kernel_rfl) rfl)
      (blocks_stops 6 (by omega) (wa.heap.size + 2) a0 (by omega) wb hr3) keepsAt_t (keepsAt_b (by omega) (by omega)) (Below.refl _ _) (fun _ => rfl)
      (fun pre W => (Row W wa.heap.size 9 [.string (catB pre)] ∧ Row W (wa.heap.size + 1) 3 [.int .i64 (pre.length : Nat)]) ∧ Below w.heap.size w W)
      (fun _ _ _ => False)
      (OwnFrom.and (OwnFrom.and (Own.from (own_row _ _ (fun pre => [.string (catB pre)])) _) (Own.from (own_row _ _ (fun pre : List Blk => [.int .i64 (pre.length : Nat)])) _)) (ownFrom_below (Nat.le_refl _) (by omega)))
      (fun _ _ _ _ _ hs _ _ => hs)
      ⟨⟨hr1, hr2⟩, hbb⟩
      _ _ _ _ _
    case refine'_2 =>
      intro l x W K hK
      gi_wp2
      exact hK
    case refine'_5 =>
      rintro D c pre W _ _ h _
      exact h.elim
    case refine'_3 =>
      rintro l' pre x W ⟨⟨hr1, hr2⟩, hB⟩ hlt
      have c1 := hr1.cell 0
      have c2 := hr2.cell 0
      have f1 := hr1.frozen 0
      have f2 := hr2.frozen 0
      have hlt2 : pre.length < N := by rw [← hN]; exact hlt
      have hln : (pre ++ [x]).length = pre.length + 1 := by simp
      have hadd : ∀ W : World, (Op.stringOp .add (catB pre) x.1).run Tryd.prog W = .ok (.string (catB (pre ++ [x]))) W := fun W => by
        rw [catB_snoc]; exact run_string_add_sum W _ _ (by rw [catB_size, x.2]; omega)
      have h1 := (hr1.set 0 (.string (catB (pre ++ [x])))).far (p := ⟨wa.heap.size + 1, 0, none⟩) (by show wa.heap.size ≠ wa.heap.size + 1; omega) (.int .i64 ((pre.length : Int) + 1))
      have h2 := (hr2.far (p := ⟨wa.heap.size, 0, none⟩) (by show wa.heap.size + 1 ≠ wa.heap.size; omega) (.string (catB (pre ++ [x])))).set 0 (.int .i64 ((pre.length : Int) + 1))
      have h3 := (hB.setCell (p := ⟨wa.heap.size, 0, none⟩) hse (.string (catB (pre ++ [x])))).setCell (p := ⟨wa.heap.size + 1, 0, none⟩) (by show w.heap.size ≤ wa.heap.size + 1; omega) (.int .i64 ((pre.length : Int) + 1))
      have H := Lib.hid (And.intro h1 (And.intro h2 (And.intro h3 hln)))
      clear hr1 hr2 hB hlt h1 h2 h3 hln
      gi_wp2_with fail
      obtain ⟨h1, h2, h3, hln⟩ := H.out
      have hk2 : ∀ k, k ≠ wa.heap.size → k ≠ wa.heap.size + 1 → ((W.setCell ⟨wa.heap.size, 0, none⟩ (.string (catB (pre ++ [x])))).setCell ⟨wa.heap.size + 1, 0, none⟩ (.int .i64 ((pre.length : Int) + 1))).heap[k]? = W.heap[k]? := fun k e1 e2 =>
        (Below.heap_setCell _ ⟨wa.heap.size + 1, 0, none⟩ _ k e2).trans (Below.heap_setCell _ ⟨wa.heap.size, 0, none⟩ _ k e1)
      refine ⟨⟨by simp, fun k o hk ho _ => (hk2 k (by omega) (by omega)).trans ho⟩, ⟨by simp, fun k hk hl => hk2 k (by rcases hk with rfl | hk <;> omega) (by rcases hk with rfl | hk <;> omega)⟩, ⟨h1, ?_⟩, h3⟩
      rw [hln]
      exact h2
    case refine'_4 =>
      rintro D ys W hD hys ⟨⟨hr1, hr2⟩, hB⟩ hK
      have hDw : w.heap.size ≤ D := by omega
      rw [catB_all (padB a0) ys hys (padB_mod a0)] at hr1
      have hyl : ys.length = N := by rw [← hN, ← blksB_length (padB a0) ((padB a0).size / 64), ← hys, List.length_map]
      rw [hyl] at hr2
      have hlt : a0.size < (padB a0).size := by rw [padB_size]; omega
      have hmk := padB_mark a0 hlt
      obtain ⟨P, hP⟩ : ∃ P, padB a0 = P := ⟨_, rfl⟩
      have HP : Hid (∀ W : World, Calls Tryd.prog 22 #[.string P, .string a0] W fun e w' => e = .returned (.bool true) ∧ w' = W) := Lib.hid fun W => by
        have h := Tryd.strings_HasPrefix P a0 W
        rw [← hP, padB_prefix a0] at h
        rw [← hP]
        exact h
      have hPs : P.size = a0.size + (9 + (119 - a0.size % 64) % 64) := by rw [← hP]; exact padB_size a0
      have hNe : N = a0.size / 64 + (if 55 < a0.size % 64 then 2 else 1) := by
        rw [← hN, padB_size]
        split <;> omega
      simp only [hP] at hr1 hlt hmk
      have c1 := hr1.cell 0
      have c2 := hr2.cell 0
      have HV := Lib.hid (And.intro hB (And.intro hys hPs))
      clear hr1 hr2 hB hys hyl hPs hN
      by_cases h55 : 55 < a0.size % 64
      · have hm : (55 : Int) < (a0.size : Int) % 64 := by omega
        have hq : (N : Int) = (a0.size : Int) / 64 + 2 := by rw [if_pos h55] at hNe; omega
        clear hNe h55
        gi_wp2_with fail
        clear hr1 hr2 hr3 hbb hsz
        go_wp2_with fail
        refine (HP.out _).mono ?_
        rintro e w9 ⟨rfl, rfl⟩
        go_wp2_with fail
        refine ⟨by simp, .inl ⟨_, _, rfl, run_takeDeferred hK, ?_⟩⟩
        exact ⟨_, results_tmp rfl _ _ _, rfl, HV.out.1.trans (below_putObj _ _ (by omega))⟩
      · have hm : (a0.size : Int) % 64 ≤ 55 := by omega
        have hq : (N : Int) = (a0.size : Int) / 64 + 1 := by rw [if_neg h55] at hNe; omega
        clear hNe h55
        gi_wp2_with fail
        clear hr1 hr2 hr3 hbb hsz
        go_wp2_with fail
        refine (HP.out _).mono ?_
        rintro e w9 ⟨rfl, rfl⟩
        go_wp2_with fail
        refine ⟨by simp, .inl ⟨_, _, rfl, run_takeDeferred hK, ?_⟩⟩
        exact ⟨_, results_tmp rfl _ _ _, rfl, HV.out.1.trans (below_putObj _ _ (by omega))⟩
end Go.Proofs.YtpffbdcbafgfjaaDoor
