/- The walk of ShaBlocks. -/
import Derived.Test.YtpffbdcbafgfjaaDoorShaLongerW
import Derived.Test.YtpffbdcbafgfjaaDoorRPad
import Derived.Test.YtpffbdcbafgfjaaDoorRK
namespace Go.Proofs.YtpffbdcbafgfjaaDoor
open Go.RowKit
set_option linter.unusedVariables false
attribute [local go_sem] Oper.semAt_some

theorem results_bool {fn : Func} {p : Tmp} (h : fn.results = #[.cell p 4]) (tmps : Array Value) (w : World) (g : Nat) (b : Bool) (hp : tmps.getD p undef = .pointer (some ⟨g, 0, none⟩)) (hc : w.cell? ⟨g, 0, none⟩ = some (.bool b)) :
    (results fn tmps).run Tryd.prog w = .ok (.bool b) w := by
  have hp' : tmps[p]?.getD undef = .pointer (some ⟨g, 0, none⟩) := by simpa using hp
  simp [results, h, hp', asAddr, loadVar, go_sem, hc]

set_option maxRecDepth 100000 in
set_option maxHeartbeats 2000000 in
theorem ShaBlocks_walk (a0 : ByteArray) (a1 : Int) (w0 : a0.size ≤ 140737488355328) (w1 : (Lit.int .u8 a1).wf = true) (w : World) (hG : G w) :
    Calls Tryd.prog 4 #[.string a0, .int .u8 a1] w fun e w' => e = .returned (.bool true) ∧ Below w.heap.size w w' := by
  have h1 : 0 ≤ a1 ∧ a1 ≤ 255 := by simpa [Lit.wf, IntKind.min, IntKind.max, IntKind.signed, IntKind.bits] using w1
  clear w1
  obtain ⟨st, rfl⟩ := Int.eq_ofNat_of_zero_le h1.1
  have hst : st ≤ 255 := by omega
  clear h1
  by_cases hbig : 1000 < a0.size
  · have hb : (1000 : Int) < (a0.size : Int) := by omega
    have r2 : Row ((w.alloc (.cells #[.int .u8 (st : Nat)] 5)).alloc (.cells #[.bool false] 4)) (w.heap.size + 1) 4 [.bool false] := by
      have h := Row.new (w.alloc (.cells #[.int .u8 (st : Nat)] 5)) 4 [.bool false]
      rw [World.size_alloc] at h
      exact h
    have b2 : Below w.heap.size w ((w.alloc (.cells #[.int .u8 (st : Nat)] 5)).alloc (.cells #[.bool false] 4)) := ((Below.refl _ _).alloc (Nat.le_refl _) _).alloc (by simp) _
    have z2 : ((w.alloc (.cells #[.int .u8 (st : Nat)] 5)).alloc (.cells #[.bool false] 4)).heap.size = w.heap.size + 2 := by simp
    go_enter Tryd.func4, Tryd.ntmps4
    go_wp2_with fail
    refine (awake5_any _ (hG.below b2)).mono ?_
    rintro e wa ⟨rfl, hBa⟩
    have ra := r2.below hBa (by rw [z2]; omega)
    have ca := ra.cell 0
    have fa := ra.frozen 0
    have ba := b2.trans (hBa.mono b2.size)
    clear r2 b2 z2 hBa
    go_wp2_with fail
    exact bodyPost_ret (v := .bool true) (results_bool rfl _ _ (w.heap.size + 1) true rfl ((ra.set 0 (.bool true)).cell 0)) rfl ⟨rfl, ba.setCell (p := ⟨w.heap.size + 1, 0, none⟩) (by show w.heap.size ≤ w.heap.size + 1; omega) _⟩
  · have hb : (a0.size : Int) ≤ 1000 := by omega
    refine (callsIn_wide (n := 7)).1 ?_
    refine callsIn_of_wp_marks Tryd.func4 rfl trivial ?_ rfl
    simp only [Tryd.ntmps4, List.size_toArray, List.length_cons, List.length_nil, Nat.reduceAdd, Nat.reduceSub, Array.replicate_succ, Array.replicate_zero, List.push_toArray, List.append_toArray, List.nil_append, List.cons_append]
    rw [wpIn_wide]
    have r1 : Row ((w.alloc (.cells #[.int .u8 (st : Nat)] 5)).alloc (.cells #[.bool false] 4)) w.heap.size 5 [.int .u8 (st : Nat)] := (Row.new w _ _).alloc _
    have r2 : Row ((w.alloc (.cells #[.int .u8 (st : Nat)] 5)).alloc (.cells #[.bool false] 4)) (w.heap.size + 1) 4 [.bool false] := by
      have h := Row.new (w.alloc (.cells #[.int .u8 (st : Nat)] 5)) 4 [.bool false]
      rw [World.size_alloc] at h
      exact h
    have b2 : Below w.heap.size w ((w.alloc (.cells #[.int .u8 (st : Nat)] 5)).alloc (.cells #[.bool false] 4)) := ((Below.refl _ _).alloc (Nat.le_refl _) _).alloc (by simp) _
    have z2 : ((w.alloc (.cells #[.int .u8 (st : Nat)] 5)).alloc (.cells #[.bool false] 4)).heap.size = w.heap.size + 2 := by simp
    go_wp2_with fail
    refine (awake5_any _ (hG.below b2)).mono ?_
    rintro e wa ⟨rfl, hBa⟩
    have q1 := r1.below hBa (by rw [z2]; omega)
    have q2 := r2.below hBa (by rw [z2]; omega)
    have qs : w.heap.size + 2 ≤ wa.heap.size := by rw [← z2]; exact hBa.size
    have ba := b2.trans (hBa.mono b2.size)
    clear r1 r2 b2 z2 hBa
    go_wp2_with fail
    refine (callsIn_wide.1 (blocks_in 0 a0 _)).mono ?_
    rintro e wb ⟨rfl, hwb⟩
    have hsz : wb.heap.size = wa.heap.size + 3 := by rw [hwb]; simp
    have p1 : Row wb w.heap.size 5 [.int .u8 (st : Nat)] := by rw [hwb]; exact ((q1.alloc _).alloc _).alloc _
    have p2 : Row wb (w.heap.size + 1) 4 [.bool false] := by rw [hwb]; exact ((q2.alloc _).alloc _).alloc _
    have p3 : Row wb wa.heap.size 9 [.string (catB [])] := by rw [hwb]; exact ((Row.new wa _ _).alloc _).alloc _
    have p4 : Row wb (wa.heap.size + 1) 3 [.int .i64 0] := by
      have h := (Row.new (wa.alloc (.cells #[.string ⟨#[]⟩] 9)) 3 [.int .i64 0]).alloc (.cells #[.string a0] 9)
      rw [World.size_alloc] at h
      rw [hwb]; exact h
    have p5 : Row wb (wa.heap.size + 2) 9 [.string a0] := by
      have h := Row.new ((wa.alloc (.cells #[.string ⟨#[]⟩] 9)).alloc (.cells #[.int .i64 0] 3)) 9 [.string a0]
      rw [World.size_alloc, World.size_alloc] at h
      rw [hwb]; exact h
    have hbb : Below w.heap.size w wb := by
      have e := ba.size
      rw [hwb]; exact ((ba.alloc e _).alloc (by simp; omega) _).alloc (by simp; omega) _
    have hs3 : a0.size ≤ 140737488355000 := by omega
    go_wp2_with fail
    rw [← hwb]
    clear hwb ba q1 q2
    rw [← wpIn_wide (n := 7)]
    obtain ⟨N, hN⟩ : ∃ N, (padB a0).size / 64 = N := ⟨_, rfl⟩
    have hNl : N ≤ 100 := by rw [← hN, padB_size]; omega
    have HN := Lib.hid (And.intro hN hNl)
    clear hN hNl
    refine' range_stops rfl (by omega) (gf := 47) (lb := #[.pointer (some ⟨wa.heap.size + 2, 0, none⟩)]) rfl trivial (enters_of Tryd.func47 (by kernel_rfl) rfl)
      (blocks_stops 6 (by omega) (wa.heap.size + 2) a0 hs3 wb p5) keepsAt_t (keepsAt_b (by omega) (by omega)) (Below.refl _ _) (fun _ => rfl)
      (fun pre W => (Row W wa.heap.size 9 [.string (catB pre)] ∧ Row W w.heap.size 5 [.int .u8 (st : Nat)] ∧ Row W (w.heap.size + 1) 4 [.bool false] ∧ Row W (wa.heap.size + 1) 3 [.int .i64 0]) ∧ Below w.heap.size w W)
      (fun _ _ _ => False)
      (OwnFrom.and (OwnFrom.and (Own.from (own_row _ _ (fun pre => [.string (catB pre)])) _) (OwnFrom.and (Own.from (own_rowL _ _ _) _) (OwnFrom.and (Own.from (own_rowL _ _ _) _) (Own.from (own_rowL _ _ _) _)))) (ownFrom_below (Nat.le_refl _) (by omega)))
      (fun _ _ _ _ _ hs _ _ => hs)
      ⟨⟨p3, p1, p2, p4⟩, hbb⟩
      _ _ _ _ _
    case refine'_2 =>
      intro l x W K hK
      gi_wp2
      exact hK
    case refine'_5 =>
      rintro D c pre W _ _ h _
      exact h.elim
    case refine'_3 =>
      rintro l' pre x W ⟨⟨hr1, hr2, hr3, hr4⟩, hB⟩ hlt
      have c1 := hr1.cell 0
      have f1 := hr1.frozen 0
      have hx64 : (x.1.size : Int) = 64 := by have := x.2; omega
      have hlt2 : pre.length < 100 := by have h := HN.out; rw [h.1] at hlt; omega
      have hadd : ∀ W : World, (Op.stringOp .add (catB pre) x.1).run Tryd.prog W = .ok (.string (catB (pre ++ [x]))) W := fun W => by
        rw [catB_snoc]; exact run_string_add_sum W _ _ (by rw [catB_size, x.2]; omega)
      have h1 := hr1.set 0 (.string (catB (pre ++ [x])))
      have h2 := hr2.far (p := ⟨wa.heap.size, 0, none⟩) (by show w.heap.size ≠ wa.heap.size; omega) (.string (catB (pre ++ [x])))
      have h3 := hr3.far (p := ⟨wa.heap.size, 0, none⟩) (by show w.heap.size + 1 ≠ wa.heap.size; omega) (.string (catB (pre ++ [x])))
      have h4 := hr4.far (p := ⟨wa.heap.size, 0, none⟩) (by show wa.heap.size + 1 ≠ wa.heap.size; omega) (.string (catB (pre ++ [x])))
      have h5 := hB.setCell (p := ⟨wa.heap.size, 0, none⟩) (by show w.heap.size ≤ wa.heap.size; omega) (.string (catB (pre ++ [x])))
      have H := Lib.hid (And.intro h1 (And.intro h2 (And.intro h3 (And.intro h4 h5))))
      clear hr1 hr2 hr3 hr4 hB hlt h1 h2 h3 h4 h5
      gi_wp2_with fail
      obtain ⟨h1, h2, h3, h4, h5⟩ := H.out
      have hk2 : ∀ k, k ≠ wa.heap.size → (W.setCell ⟨wa.heap.size, 0, none⟩ (.string (catB (pre ++ [x])))).heap[k]? = W.heap[k]? := fun k e1 => Below.heap_setCell _ ⟨wa.heap.size, 0, none⟩ _ k e1
      exact ⟨⟨by simp, fun k o hk ho _ => (hk2 k (by omega)).trans ho⟩, ⟨by simp, fun k hk hl => hk2 k (by rcases hk with rfl | hk <;> omega)⟩, ⟨h1, h2, h3, h4⟩, h5⟩
    case refine'_4 =>
      rintro D ys W hD hys ⟨⟨hr1, hr2, hr3, hr4⟩, hB⟩ hK
      rw [catB_all (padB a0) ys hys (padB_mod a0)] at hr1
      have HV := Lib.hid (And.intro hr1 (And.intro hr2 (And.intro hr3 (And.intro hr4 (And.intro hB hK)))))
      clear p1 p2 p3 p4 p5 hbb hr1 hr2 hr3 hr4 hB hK hys
      gi_wp2_with fail
      go_wp2_with fail
      refine (callsIn_wide.1 (blocks_in 0 a0 _)).mono ?_
      rintro e wd ⟨rfl, hwd⟩
      obtain ⟨hr1, hr2, hr3, hr4, hB, hK⟩ := HV.out
      have hDl := (Array.getElem?_eq_some_iff.1 hK).1
      have hsz2 : wd.heap.size = W.heap.size + 1 := by rw [hwd]; simp
      have hWs : wa.heap.size + 3 ≤ W.heap.size := by omega
      have p1 : Row wd wa.heap.size 9 [.string (padB a0)] := by rw [hwd]; exact hr1.alloc _
      have p2 : Row wd w.heap.size 5 [.int .u8 (st : Nat)] := by rw [hwd]; exact hr2.alloc _
      have p3 : Row wd (w.heap.size + 1) 4 [.bool false] := by rw [hwd]; exact hr3.alloc _
      have p4 : Row wd (wa.heap.size + 1) 3 [.int .i64 (([] : List Blk).length : Nat)] := by rw [hwd]; exact hr4.alloc _
      have p5 : Row wd W.heap.size 9 [.string a0] := by rw [hwd]; exact Row.new W _ _
      have p6 : wd.heap[D]? = some (.deferred (some [])) := by rw [hwd]; exact (heap_alloc_old W _ D hDl).trans hK
      have p7 : Below w.heap.size w wd := by rw [hwd]; exact hB.alloc hB.size _
      go_wp2_with fail
      rw [← hwd]
      clear hwd hr1 hr2 hr3 hr4 hB hK
      rw [← wpIn_wide (n := 7)]
      obtain ⟨P, hP⟩ : ∃ P, padB a0 = P := ⟨_, rfl⟩
      rw [hP] at p1
      refine' range_stops rfl (by omega) (gf := 47) (lb := #[.pointer (some ⟨W.heap.size, 0, none⟩)]) rfl trivial (enters_of Tryd.func47 (by kernel_rfl) rfl)
        (blocks_stops 6 (by omega) W.heap.size a0 hs3 wd p5) keepsAt_t (keepsAt_b (by omega) (by omega)) (Below.refl _ _) (fun _ => rfl)
        (fun pre W => (Row W (wa.heap.size + 1) 3 [.int .i64 (pre.length : Nat)] ∧ Row W wa.heap.size 9 [.string P] ∧ Row W w.heap.size 5 [.int .u8 (st : Nat)] ∧ Row W (w.heap.size + 1) 4 [.bool false]) ∧ Below w.heap.size w W ∧ W.heap[D]? = some (.deferred (some [])) ∧ pre.length ≤ st)
        (fun c pre W => (Row W (wa.heap.size + 1) 3 [.int .i64 (pre.length : Nat)] ∧ Row W wa.heap.size 9 [.string P] ∧ Row W w.heap.size 5 [.int .u8 (st : Nat)] ∧ Row W (w.heap.size + 1) 4 [.bool false]) ∧ Below w.heap.size w W ∧ W.heap[D]? = some (.deferred (some [])) ∧ pre.length = st + 1 ∧ c = .exit 2)
        (OwnFrom.and (OwnFrom.and (Own.from (own_row _ _ (fun pre : List Blk => [.int .i64 (pre.length : Nat)])) _) (OwnFrom.and (Own.from (own_rowL _ _ _) _) (OwnFrom.and (Own.from (own_rowL _ _ _) _) (Own.from (own_rowL _ _ _) _)))) (OwnFrom.and (ownFrom_below (Nat.le_refl _) (by omega)) (OwnFrom.and (ownFrom_obj (by omega) _) (fun _ _ _ _ h _ _ => h))))
        (fun c => OwnFrom.and (OwnFrom.and (Own.from (own_row _ _ (fun pre : List Blk => [.int .i64 (pre.length : Nat)])) _) (OwnFrom.and (Own.from (own_rowL _ _ _) _) (OwnFrom.and (Own.from (own_rowL _ _ _) _) (Own.from (own_rowL _ _ _) _)))) (OwnFrom.and (ownFrom_below (Nat.le_refl _) (by omega)) (OwnFrom.and (ownFrom_obj (by omega) _) (fun _ _ _ _ h _ _ => h))))
        ⟨⟨p4, p1, p2, p3⟩, p7, p6, Nat.zero_le _⟩
        _ _ _ _ _
      case refine'_2 =>
        intro l x W K hK
        gi_wp2
        exact hK
      case refine'_3 =>
        rintro l' pre x Wr ⟨⟨hr1, hr2, hr3, hr4⟩, hB, hK, hps⟩ hlt
        have c1 := hr1.cell 0
        have f1 := hr1.frozen 0
        have c3 := hr3.cell 0
        have hln : (pre ++ [x]).length = pre.length + 1 := by simp
        have hDn : D ≠ wa.heap.size + 1 := by omega
        have h1 := hr1.set 0 (.int .i64 ((pre.length : Int) + 1))
        have h2 := hr2.far (p := ⟨wa.heap.size + 1, 0, none⟩) (by show wa.heap.size ≠ wa.heap.size + 1; omega) (.int .i64 ((pre.length : Int) + 1))
        have h3 := hr3.far (p := ⟨wa.heap.size + 1, 0, none⟩) (by show w.heap.size ≠ wa.heap.size + 1; omega) (.int .i64 ((pre.length : Int) + 1))
        have h4 := hr4.far (p := ⟨wa.heap.size + 1, 0, none⟩) (by show w.heap.size + 1 ≠ wa.heap.size + 1; omega) (.int .i64 ((pre.length : Int) + 1))
        have h5 := hB.setCell (p := ⟨wa.heap.size + 1, 0, none⟩) (by show w.heap.size ≤ wa.heap.size + 1; omega) (.int .i64 ((pre.length : Int) + 1))
        have hk2 : ∀ k, k ≠ wa.heap.size + 1 → (Wr.setCell ⟨wa.heap.size + 1, 0, none⟩ (.int .i64 ((pre.length : Int) + 1))).heap[k]? = Wr.heap[k]? := fun k e1 => Below.heap_setCell _ ⟨wa.heap.size + 1, 0, none⟩ _ k e1
        have h6 := (hk2 D hDn).trans hK
        have hb100 : pre.length ≤ 255 := by omega
        have H := Lib.hid (And.intro h1 (And.intro h2 (And.intro h3 (And.intro h4 (And.intro h5 (And.intro h6 (And.intro hk2 hln)))))))
        clear hr1 hr2 hr3 hr4 hB hlt h1 h2 h3 h4 h5 h6 hk2 hln hK
        by_cases hbr : st < pre.length + 1
        · have hbri : (st : Int) < (pre.length : Int) + 1 := by omega
          gi_wp2_with fail
          obtain ⟨h1, h2, h3, h4, h5, h6, hk2, hln⟩ := H.out
          refine ⟨⟨by simp, fun k o hk ho _ => (hk2 k (by omega)).trans ho⟩, ⟨by simp, fun k hk hl => hk2 k (by rcases hk with rfl | hk <;> omega)⟩, ⟨?_, h2, h3, h4⟩, h5, h6, by rw [hln]; omega, rfl⟩
          rw [hln]
          exact h1
        · have hbri : (pre.length : Int) + 1 ≤ (st : Int) := by omega
          gi_wp2_with fail
          obtain ⟨h1, h2, h3, h4, h5, h6, hk2, hln⟩ := H.out
          refine ⟨⟨by simp, fun k o hk ho _ => (hk2 k (by omega)).trans ho⟩, ⟨by simp, fun k hk hl => hk2 k (by rcases hk with rfl | hk <;> omega)⟩, ⟨?_, h2, h3, h4⟩, h5, h6, by rw [hln]; omega⟩
          rw [hln]
          exact h1
      case refine'_5 =>
        rintro D2 c pre W2 hD2 hpre ⟨⟨hr1, hr2, hr3, hr4⟩, hB, hK, hpl, rfl⟩ hK2
        have hzl : pre.length ≤ P.size / 64 := by
          have h := hpre.length_le
          rw [List.length_map, blksB_length, hP] at h
          exact h
        obtain ⟨n, hn⟩ : ∃ n, pre.length = n := ⟨_, rfl⟩
        rw [hn] at hr1 hpl hzl
        have hmin : Hid (min (P.size / 64) (st + 1) = n ∧ P.size / 64 ≤ 100) := Lib.hid ⟨by omega, by have h := HN.out; rw [hP] at h; omega⟩
        clear hpre hzl hpl hn
        have hDD : D ≠ D2 := by omega
        have HR := Lib.hid (And.intro hr1 (And.intro hr2 (And.intro hr3 (And.intro hr4 (And.intro hB (And.intro hK (And.intro hK2 hDD)))))))
        have hB2 := hB.size
        have hKD := (Array.getElem?_eq_some_iff.1 hK).1
        have hKD2 := (Array.getElem?_eq_some_iff.1 hK2).1
        have hr1l := hr1.lt
        clear hr1 hr2 hr3 hr4 hB hK hK2 p1 p2 p3 p4 p5 p6 p7
        have hz64 := (zero_of_info w64_info).1
        have HPAD : Hid (∀ W : World, Calls Tryd.prog 21 #[.string a0] W fun e w' => e = .returned (.string P) ∧ Below W.heap.size W w') := Lib.hid fun W => by rw [← hP]; exact refPad_any a0 (by omega) W
        obtain ⟨ks, HKS⟩ : ∃ ks, Hid (wrow K64 = ks) := ⟨_, Lib.hid rfl⟩
        have hkl : ks.length = 64 := by rw [← HKS.out]; exact wrow_length (by decide)
        have hk1 : ks.toArray.all (·.oneCell') = true := by rw [← HKS.out]; exact wrow_one _
        have hkd : ∀ i, i < 64 → ks[i]? = some (.int .u32 ((K64.getD i 0).toNat : Int)) := fun i hi => by rw [← HKS.out]; exact wrow_get hi
        have e1 : w64v K64 = .agg ks.toArray := by rw [← HKS.out]; rfl
        have HKL := Lib.hid (And.intro hkl (And.intro hk1 hkd))
        have HKY : Hid (∀ W : World, Calls Tryd.prog 19 #[] W fun e w' => e = .returned (.agg ks.toArray) ∧ Below W.heap.size W w') := Lib.hid fun W => by rw [← e1]; exact Keys_any W
        have HRK : Hid (∀ W : World, Calls Tryd.prog 20 #[] W fun e w' => e = .returned (.slice (some ⟨W.heap.size, 0, none⟩) 64 64) ∧ w' = W.alloc (.cells ks.toArray 28)) := Lib.hid fun W => by rw [← HKS.out]; exact refK_any W
        clear hkl hk1 hkd e1 HKS
        gi_wp2_with fail
        go_wp2_with fail
        refine (HKY.out _).mono ?_
        rintro e wk ⟨rfl, hbk⟩
        have hbs := hbk.size
        go_wp2_with ((refine wpList_store_row rfl 44 (.tmp 8) (.tmp 35) rfl wk.heap.size ks.toArray rfl rfl 44 z64.toArray (Row.new wk 44 z64) (by rw [w64_size, List.size_toArray, HKL.out.1]) (by rw [List.size_toArray, List.size_toArray, HKL.out.1]; rfl) HKL.out.2.1 ?_))
        refine (HRK.out _).mono ?_
        rintro e wx ⟨rfl, rfl⟩
        have hbl : Below W2.heap.size W2 ((wk.alloc (.cells z64.toArray 44)).setRow wk.heap.size ks.toArray) := hbk.trans (below_setRow (B := W2.heap.size) (g := wk.heap.size) ((Below.refl _ _).alloc hbs _) hbs ks.toArray)
        have rk := (Row.new wk 44 z64).put ks
        have zl : ((wk.alloc (.cells z64.toArray 44)).setRow wk.heap.size ks.toArray).heap.size = wk.heap.size + 1 := by simp [World.setRow]
        generalize (wk.alloc (.cells z64.toArray 44)).setRow wk.heap.size ks.toArray = wl at hbl rk zl ⊢
        have rx := Row.new wl 28 ks
        rw [zl] at rx
        have rk2 := rk.alloc (.cells ks.toArray 28)
        have hbm := hbl.alloc (by omega) (.cells ks.toArray 28)
        have zm : (wl.alloc (.cells ks.toArray 28)).heap.size = wl.heap.size + 1 := by simp
        clear rk hbl hbk hz64
        go_wp2_with fail
        generalize wl.alloc (.cells ks.toArray 28) = wm at rx rk2 hbm zm ⊢
        go_loopw [38] (fun i wr => ∃ j : Nat, j ≤ 64 ∧ i = .int .i64 j ∧ wr = wm) (fun i _ => 64 - (intOf i).toNat)
        case atStart => exact ⟨0, by omega, rfl, rfl⟩
        case round =>
          obtain ⟨j, hj, rfl, rfl⟩ := hrel
          by_cases hlt : j < 64
          · obtain ⟨q, hq⟩ : ∃ q, K64.getD j 0 = q := ⟨_, rfl⟩
            have hck : wr.cell? ⟨wk.heap.size, j, none⟩ = some (.int .u32 (q.toNat : Int)) := by rw [← hq, rk2.cell]; exact HKL.out.2.2 j hlt
            have hcx : wr.cell? ⟨wk.heap.size + 1, j, none⟩ = some (.int .u32 (q.toNat : Int)) := by rw [← hq, rx.cell]; exact HKL.out.2.2 j hlt
            have HX := Lib.hid (And.intro rx (And.intro rk2 hbm))
            clear rx rk2 hbm hq
            go_wp2_with fail
            go_roundw
            case rel => exact ⟨j + 1, by omega, by go_num, trivial⟩
            case measure => simp [intOf]; omega
          · have hge : (64 : Int) ≤ (j : Int) := by omega
            obtain ⟨g1, g2, g3, g4, gB, gK, gK2, gD⟩ := HR.out
            have f1 := g1.below hbm hr1l
            have f2 := g2.below hbm (by omega)
            have f3 := g3.below hbm (by omega)
            have f4 := g4.below hbm (by omega)
            have f5 := gB.trans (hbm.mono hB2)
            have f6 := (hbm.block D hKD).trans gK
            have f7 := (hbm.block D2 hKD2).trans gK2
            have fs := hbm.size
            have HW := Lib.hid (And.intro f1 (And.intro f2 (And.intro f3 (And.intro f4 (And.intro f5 (And.intro f6 (And.intro f7 gD)))))))
            clear g1 g2 g3 g4 gB gK gK2 f1 f2 f3 f4 f5 f6 f7 rx rk2 hbm hlt zm
            go_wp2_with fail
            refine (HPAD.out _).mono ?_
            rintro e wy ⟨rfl, hby⟩
            obtain ⟨f1, f2, f3, f4, f5, f6, f7, gD⟩ := HW.out
            have d1 := f1.below hby (by omega)
            have d2 := f2.below hby (by omega)
            have d3 := f3.below hby (by omega)
            have d4 := f4.below hby (by omega)
            have d5 := f5.trans (hby.mono f5.size)
            have d6 := (hby.block D (Array.getElem?_eq_some_iff.1 f6).1).trans f6
            have d7 := (hby.block D2 (Array.getElem?_eq_some_iff.1 f7).1).trans f7
            have k1 := d1.cell 0
            have k2 := d2.cell 0
            have k3 := d3.cell 0
            have k4 := d4.cell 0
            have m4 := d4.frozen 0
            have HE := Lib.hid (And.intro d4 (And.intro d5 (And.intro d6 (And.intro d7 gD))))
            clear f1 f2 f3 f4 f5 f6 f7 d1 d2 d3 d4 d5 d6 d7 gD hby
            go_wp2_with fail
            have hval : ((n : Int) == min (wrap64 ((P.size : Int) / 64)) ((st : Int) + 1)) = true := by
              have h := hmin.out
              obtain ⟨q, hq⟩ : ∃ q, P.size / 64 = q := ⟨_, rfl⟩
              rw [hq] at h
              rw [show (P.size : Int) / 64 = (q : Int) by omega, show wrap64 (q : Int) = (q : Int) by unfold wrap64; omega, beq_iff_eq]
              omega
            rw [hval]
            obtain ⟨d4, d5, d6, d7, gD⟩ := HE.out
            have r1 := d4.set 0 (.bool true)
            have t6 := (Below.heap_setCell wy ⟨w.heap.size + 1, 0, none⟩ (.bool true) D (by show D ≠ w.heap.size + 1; omega)).trans d6
            have t7 := (Below.heap_setCell wy ⟨w.heap.size + 1, 0, none⟩ (.bool true) D2 (by show D2 ≠ w.heap.size + 1; omega)).trans d7
            have t8 := (World.putObj_heap_other (o := .deferred none) gD).trans t6
            refine ⟨by simp, .inl ⟨_, _, rfl, run_takeDeferred t7, ⟨by simp, .inl ⟨_, _, rfl, run_takeDeferred t8, ?_⟩⟩⟩⟩
            have r2 := (World.putObj_heap_other (o := .deferred none) (show w.heap.size + 1 ≠ D2 by omega)).trans r1
            have r3 : Row _ (w.heap.size + 1) 4 [.bool true] := (World.putObj_heap_other (o := .deferred none) (show w.heap.size + 1 ≠ D by omega)).trans r2
            have b1 := ((d5.setCell (p := ⟨w.heap.size + 1, 0, none⟩) (by show w.heap.size ≤ w.heap.size + 1; omega) (.bool true)).trans (below_putObj _ (.deferred none) (by omega : w.heap.size ≤ D2))).trans (below_putObj _ (.deferred none) (by omega : w.heap.size ≤ D))
            exact ⟨_, results_bool rfl _ _ (w.heap.size + 1) true rfl (r3.cell 0), rfl, b1⟩
      case refine'_4 =>
        rintro D2 zs W2 hD2 hzs ⟨⟨hr1, hr2, hr3, hr4⟩, hB, hK, hpl⟩ hK2
        have hzl : zs.length = P.size / 64 := by rw [← blksB_length P (P.size / 64), ← hP, ← hzs, List.length_map]
        obtain ⟨n, hn⟩ : ∃ n, zs.length = n := ⟨_, rfl⟩
        rw [hn] at hr1 hpl hzl
        have hmin : Hid (min (P.size / 64) (st + 1) = n ∧ P.size / 64 ≤ 100) := Lib.hid ⟨by omega, by have h := HN.out; rw [hP] at h; omega⟩
        clear hzs hzl hpl hn
        have hDD : D ≠ D2 := by omega
        have HR := Lib.hid (And.intro hr1 (And.intro hr2 (And.intro hr3 (And.intro hr4 (And.intro hB (And.intro hK (And.intro hK2 hDD)))))))
        have hB2 := hB.size
        have hKD := (Array.getElem?_eq_some_iff.1 hK).1
        have hKD2 := (Array.getElem?_eq_some_iff.1 hK2).1
        have hr1l := hr1.lt
        clear hr1 hr2 hr3 hr4 hB hK hK2 p1 p2 p3 p4 p5 p6 p7
        have hz64 := (zero_of_info w64_info).1
        have HPAD : Hid (∀ W : World, Calls Tryd.prog 21 #[.string a0] W fun e w' => e = .returned (.string P) ∧ Below W.heap.size W w') := Lib.hid fun W => by rw [← hP]; exact refPad_any a0 (by omega) W
        obtain ⟨ks, HKS⟩ : ∃ ks, Hid (wrow K64 = ks) := ⟨_, Lib.hid rfl⟩
        have hkl : ks.length = 64 := by rw [← HKS.out]; exact wrow_length (by decide)
        have hk1 : ks.toArray.all (·.oneCell') = true := by rw [← HKS.out]; exact wrow_one _
        have hkd : ∀ i, i < 64 → ks[i]? = some (.int .u32 ((K64.getD i 0).toNat : Int)) := fun i hi => by rw [← HKS.out]; exact wrow_get hi
        have e1 : w64v K64 = .agg ks.toArray := by rw [← HKS.out]; rfl
        have HKL := Lib.hid (And.intro hkl (And.intro hk1 hkd))
        have HKY : Hid (∀ W : World, Calls Tryd.prog 19 #[] W fun e w' => e = .returned (.agg ks.toArray) ∧ Below W.heap.size W w') := Lib.hid fun W => by rw [← e1]; exact Keys_any W
        have HRK : Hid (∀ W : World, Calls Tryd.prog 20 #[] W fun e w' => e = .returned (.slice (some ⟨W.heap.size, 0, none⟩) 64 64) ∧ w' = W.alloc (.cells ks.toArray 28)) := Lib.hid fun W => by rw [← HKS.out]; exact refK_any W
        clear hkl hk1 hkd e1 HKS
        gi_wp2_with fail
        go_wp2_with fail
        refine (HKY.out _).mono ?_
        rintro e wk ⟨rfl, hbk⟩
        have hbs := hbk.size
        go_wp2_with ((refine wpList_store_row rfl 44 (.tmp 8) (.tmp 35) rfl wk.heap.size ks.toArray rfl rfl 44 z64.toArray (Row.new wk 44 z64) (by rw [w64_size, List.size_toArray, HKL.out.1]) (by rw [List.size_toArray, List.size_toArray, HKL.out.1]; rfl) HKL.out.2.1 ?_))
        refine (HRK.out _).mono ?_
        rintro e wx ⟨rfl, rfl⟩
        have hbl : Below W2.heap.size W2 ((wk.alloc (.cells z64.toArray 44)).setRow wk.heap.size ks.toArray) := hbk.trans (below_setRow (B := W2.heap.size) (g := wk.heap.size) ((Below.refl _ _).alloc hbs _) hbs ks.toArray)
        have rk := (Row.new wk 44 z64).put ks
        have zl : ((wk.alloc (.cells z64.toArray 44)).setRow wk.heap.size ks.toArray).heap.size = wk.heap.size + 1 := by simp [World.setRow]
        generalize (wk.alloc (.cells z64.toArray 44)).setRow wk.heap.size ks.toArray = wl at hbl rk zl ⊢
        have rx := Row.new wl 28 ks
        rw [zl] at rx
        have rk2 := rk.alloc (.cells ks.toArray 28)
        have hbm := hbl.alloc (by omega) (.cells ks.toArray 28)
        have zm : (wl.alloc (.cells ks.toArray 28)).heap.size = wl.heap.size + 1 := by simp
        clear rk hbl hbk hz64
        go_wp2_with fail
        generalize wl.alloc (.cells ks.toArray 28) = wm at rx rk2 hbm zm ⊢
        go_loopw [38] (fun i wr => ∃ j : Nat, j ≤ 64 ∧ i = .int .i64 j ∧ wr = wm) (fun i _ => 64 - (intOf i).toNat)
        case atStart => exact ⟨0, by omega, rfl, rfl⟩
        case round =>
          obtain ⟨j, hj, rfl, rfl⟩ := hrel
          by_cases hlt : j < 64
          · obtain ⟨q, hq⟩ : ∃ q, K64.getD j 0 = q := ⟨_, rfl⟩
            have hck : wr.cell? ⟨wk.heap.size, j, none⟩ = some (.int .u32 (q.toNat : Int)) := by rw [← hq, rk2.cell]; exact HKL.out.2.2 j hlt
            have hcx : wr.cell? ⟨wk.heap.size + 1, j, none⟩ = some (.int .u32 (q.toNat : Int)) := by rw [← hq, rx.cell]; exact HKL.out.2.2 j hlt
            have HX := Lib.hid (And.intro rx (And.intro rk2 hbm))
            clear rx rk2 hbm hq
            go_wp2_with fail
            go_roundw
            case rel => exact ⟨j + 1, by omega, by go_num, trivial⟩
            case measure => simp [intOf]; omega
          · have hge : (64 : Int) ≤ (j : Int) := by omega
            obtain ⟨g1, g2, g3, g4, gB, gK, gK2, gD⟩ := HR.out
            have f1 := g1.below hbm hr1l
            have f2 := g2.below hbm (by omega)
            have f3 := g3.below hbm (by omega)
            have f4 := g4.below hbm (by omega)
            have f5 := gB.trans (hbm.mono hB2)
            have f6 := (hbm.block D hKD).trans gK
            have f7 := (hbm.block D2 hKD2).trans gK2
            have fs := hbm.size
            have HW := Lib.hid (And.intro f1 (And.intro f2 (And.intro f3 (And.intro f4 (And.intro f5 (And.intro f6 (And.intro f7 gD)))))))
            clear g1 g2 g3 g4 gB gK gK2 f1 f2 f3 f4 f5 f6 f7 rx rk2 hbm hlt zm
            go_wp2_with fail
            refine (HPAD.out _).mono ?_
            rintro e wy ⟨rfl, hby⟩
            obtain ⟨f1, f2, f3, f4, f5, f6, f7, gD⟩ := HW.out
            have d1 := f1.below hby (by omega)
            have d2 := f2.below hby (by omega)
            have d3 := f3.below hby (by omega)
            have d4 := f4.below hby (by omega)
            have d5 := f5.trans (hby.mono f5.size)
            have d6 := (hby.block D (Array.getElem?_eq_some_iff.1 f6).1).trans f6
            have d7 := (hby.block D2 (Array.getElem?_eq_some_iff.1 f7).1).trans f7
            have k1 := d1.cell 0
            have k2 := d2.cell 0
            have k3 := d3.cell 0
            have k4 := d4.cell 0
            have m4 := d4.frozen 0
            have HE := Lib.hid (And.intro d4 (And.intro d5 (And.intro d6 (And.intro d7 gD))))
            clear f1 f2 f3 f4 f5 f6 f7 d1 d2 d3 d4 d5 d6 d7 gD hby
            go_wp2_with fail
            have hval : ((n : Int) == min (wrap64 ((P.size : Int) / 64)) ((st : Int) + 1)) = true := by
              have h := hmin.out
              obtain ⟨q, hq⟩ : ∃ q, P.size / 64 = q := ⟨_, rfl⟩
              rw [hq] at h
              rw [show (P.size : Int) / 64 = (q : Int) by omega, show wrap64 (q : Int) = (q : Int) by unfold wrap64; omega, beq_iff_eq]
              omega
            rw [hval]
            obtain ⟨d4, d5, d6, d7, gD⟩ := HE.out
            have r1 := d4.set 0 (.bool true)
            have t6 := (Below.heap_setCell wy ⟨w.heap.size + 1, 0, none⟩ (.bool true) D (by show D ≠ w.heap.size + 1; omega)).trans d6
            have t7 := (Below.heap_setCell wy ⟨w.heap.size + 1, 0, none⟩ (.bool true) D2 (by show D2 ≠ w.heap.size + 1; omega)).trans d7
            have t8 := (World.putObj_heap_other (o := .deferred none) gD).trans t6
            refine ⟨by simp, .inl ⟨_, _, rfl, run_takeDeferred t7, ⟨by simp, .inl ⟨_, _, rfl, run_takeDeferred t8, ?_⟩⟩⟩⟩
            have r2 := (World.putObj_heap_other (o := .deferred none) (show w.heap.size + 1 ≠ D2 by omega)).trans r1
            have r3 : Row _ (w.heap.size + 1) 4 [.bool true] := (World.putObj_heap_other (o := .deferred none) (show w.heap.size + 1 ≠ D by omega)).trans r2
            have b1 := ((d5.setCell (p := ⟨w.heap.size + 1, 0, none⟩) (by show w.heap.size ≤ w.heap.size + 1; omega) (.bool true)).trans (below_putObj _ (.deferred none) (by omega : w.heap.size ≤ D2))).trans (below_putObj _ (.deferred none) (by omega : w.heap.size ≤ D))
            exact ⟨_, results_bool rfl _ _ (w.heap.size + 1) true rfl (r3.cell 0), rfl, b1⟩
end Go.Proofs.YtpffbdcbafgfjaaDoor
