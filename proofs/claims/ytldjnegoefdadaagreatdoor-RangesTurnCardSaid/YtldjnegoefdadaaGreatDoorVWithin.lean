/- The contract of version.Within. -/
import Derived.Test.YtldjnegoefdadaaGreatDoorVParse
namespace Go.Proofs.YtldjnegoefdadaaGreatDoor
open Go.RowKit
set_option linter.unusedVariables false

theorem cmpF_cmpV (a b : V3) : cmpF (fun i => [a.1, a.2.1, a.2.2].getD i 0) (fun i => [b.1, b.2.1, b.2.2].getD i 0) = cmpV a b := rfl
theorem Cmp_v (a b : V3) (w : World) : Calls Tryz.prog 84 #[vv a.1 a.2.1 a.2.2, vv b.1 b.2.1 b.2.2] w fun e w' => e = .returned (.int .i64 (cmpV a b)) ∧ Below w.heap.size w w' := by
  rw [← cmpF_cmpV]
  exact Cmp_any a.1 a.2.1 a.2.2 b.1 b.2.1 b.2.2 w

theorem chainB {w w1 w2 : World} (h1 : Below w.heap.size w w1) (o : Obj) (h2 : Below (w1.alloc o).heap.size (w1.alloc o) w2) : Below w.heap.size w w2 ∧ w2.heap[w1.heap.size]? = some o ∧ w1.heap.size < w2.heap.size := by
  have hz : (w1.alloc o).heap.size = w1.heap.size + 1 := by simp
  refine ⟨(h1.alloc h1.size o).trans (h2.mono (by have := h1.size; omega)), ?_, by have := h2.size; omega⟩
  rw [h2.block _ (by omega)]
  simp [World.alloc, -World.alloc_eq]
theorem row_of {w : World} {g : Nat} {a b c : Value} {t : TypeId} (h : w.heap[g]? = some (.cells #[a, b, c] t)) : Row w g t [a, b, c] := h
theorem row_alloc (w : World) (a b c : Value) (t : TypeId) : Row (w.alloc (.cells #[a, b, c] t)) w.heap.size t [a, b, c] := by
  have := Row.new w t [a, b, c]
  simpa using this

set_option maxRecDepth 4000 in
set_option maxHeartbeats 4000000 in
theorem VWithin_any (s lo hi : ByteArray) (hs : s.size ≤ 1000) (hl : lo.size ≤ 1000) (hh : hi.size ≤ 1000) (w : World) (hG : VG w) :
    Calls Tryz.prog 60 #[.string s, .string lo, .string hi] w fun e w' => e = .returned (.bool (withinB s lo hi)) ∧ Below w.heap.size w w' := by
  have P1 := Lib.hid (fun W h => VParse_any s hs W h)
  have P2 := Lib.hid (fun W h => VParse_any lo hl W h)
  have P3 := Lib.hid (fun W h => VParse_any hi hh W h)
  obtain ⟨R, hR⟩ : ∃ R, withinB s lo hi = R := ⟨_, rfl⟩
  rw [hR]
  unfold withinB at hR
  obtain ⟨o1, h1⟩ : ∃ o, pv s.data.toList = o := ⟨_, rfl⟩
  obtain ⟨o2, h2⟩ : ∃ o, pv lo.data.toList = o := ⟨_, rfl⟩
  obtain ⟨o3, h3⟩ : ∃ o, pv hi.data.toList = o := ⟨_, rfl⟩
  rw [h1, h2, h3] at hR
  rw [h1] at P1
  rw [h2] at P2
  rw [h3] at P3
  have HG := Lib.hid hG
  clear h1 h2 h3 hG hs hl hh
  cases o1 with
  | none =>
    cases o2 with
    | none =>
      cases o3 with
      | none =>
        have HR := Lib.hid hR
        clear hR
        simp only [parseR, vv] at P1 P2 P3
        go_enter Tryz.func60, Tryz.ntmps60
        go_wp2_with fail
        refine (P1.out _ HG.out).mono ?_
        rintro e w1 ⟨rfl, hb1⟩
        have HB1 := Lib.hid hb1
        clear hb1
        go_wp2_with fail
        refine (P2.out _ (HG.out.below (HB1.out.alloc HB1.out.size _))).mono ?_
        rintro e w2 ⟨rfl, hb2⟩
        have hch2 := chainB HB1.out _ hb2
        have HB2 := Lib.hid hch2.1
        have HX2 := Lib.hid hch2.2.1
        have HL2 := Lib.hid hch2.2.2
        clear hch2 hb2
        go_wp2_with fail
        refine (P3.out _ (HG.out.below (HB2.out.alloc HB2.out.size _))).mono ?_
        rintro e w3 ⟨rfl, hb3⟩
        have hch3 := chainB HB2.out _ hb3
        have HB3 := Lib.hid hch3.1
        have HX3 := Lib.hid hch3.2.1
        have HL3 := Lib.hid hch3.2.2
        have HX2b := Lib.hid ((hb3.block w1.heap.size (by have := HL2.out; simp; omega)).trans (((Below.heap_alloc w2 _ w1.heap.size HL2.out)).trans HX2.out))
        clear hch3 hb3
        go_wp2
        go_ret
        exact ⟨ret_boolE HR.out, HB3.out.alloc HB3.out.size _⟩
      | some v3 =>
        have HR := Lib.hid hR
        clear hR
        simp only [parseR, vv] at P1 P2 P3
        go_enter Tryz.func60, Tryz.ntmps60
        go_wp2_with fail
        refine (P1.out _ HG.out).mono ?_
        rintro e w1 ⟨rfl, hb1⟩
        have HB1 := Lib.hid hb1
        clear hb1
        go_wp2_with fail
        refine (P2.out _ (HG.out.below (HB1.out.alloc HB1.out.size _))).mono ?_
        rintro e w2 ⟨rfl, hb2⟩
        have hch2 := chainB HB1.out _ hb2
        have HB2 := Lib.hid hch2.1
        have HX2 := Lib.hid hch2.2.1
        have HL2 := Lib.hid hch2.2.2
        clear hch2 hb2
        go_wp2_with fail
        refine (P3.out _ (HG.out.below (HB2.out.alloc HB2.out.size _))).mono ?_
        rintro e w3 ⟨rfl, hb3⟩
        have hch3 := chainB HB2.out _ hb3
        have HB3 := Lib.hid hch3.1
        have HX3 := Lib.hid hch3.2.1
        have HL3 := Lib.hid hch3.2.2
        have HX2b := Lib.hid ((hb3.block w1.heap.size (by have := HL2.out; simp; omega)).trans (((Below.heap_alloc w2 _ w1.heap.size HL2.out)).trans HX2.out))
        clear hch3 hb3
        go_wp2
        go_ret
        exact ⟨ret_boolE HR.out, HB3.out.alloc HB3.out.size _⟩
    | some v2 =>
      cases o3 with
      | none =>
        have HR := Lib.hid hR
        clear hR
        simp only [parseR, vv] at P1 P2 P3
        go_enter Tryz.func60, Tryz.ntmps60
        go_wp2_with fail
        refine (P1.out _ HG.out).mono ?_
        rintro e w1 ⟨rfl, hb1⟩
        have HB1 := Lib.hid hb1
        clear hb1
        go_wp2_with fail
        refine (P2.out _ (HG.out.below (HB1.out.alloc HB1.out.size _))).mono ?_
        rintro e w2 ⟨rfl, hb2⟩
        have hch2 := chainB HB1.out _ hb2
        have HB2 := Lib.hid hch2.1
        have HX2 := Lib.hid hch2.2.1
        have HL2 := Lib.hid hch2.2.2
        clear hch2 hb2
        go_wp2_with fail
        refine (P3.out _ (HG.out.below (HB2.out.alloc HB2.out.size _))).mono ?_
        rintro e w3 ⟨rfl, hb3⟩
        have hch3 := chainB HB2.out _ hb3
        have HB3 := Lib.hid hch3.1
        have HX3 := Lib.hid hch3.2.1
        have HL3 := Lib.hid hch3.2.2
        have HX2b := Lib.hid ((hb3.block w1.heap.size (by have := HL2.out; simp; omega)).trans (((Below.heap_alloc w2 _ w1.heap.size HL2.out)).trans HX2.out))
        clear hch3 hb3
        go_wp2
        go_ret
        exact ⟨ret_boolE HR.out, HB3.out.alloc HB3.out.size _⟩
      | some v3 =>
        have HR := Lib.hid hR
        clear hR
        simp only [parseR, vv] at P1 P2 P3
        go_enter Tryz.func60, Tryz.ntmps60
        go_wp2_with fail
        refine (P1.out _ HG.out).mono ?_
        rintro e w1 ⟨rfl, hb1⟩
        have HB1 := Lib.hid hb1
        clear hb1
        go_wp2_with fail
        refine (P2.out _ (HG.out.below (HB1.out.alloc HB1.out.size _))).mono ?_
        rintro e w2 ⟨rfl, hb2⟩
        have hch2 := chainB HB1.out _ hb2
        have HB2 := Lib.hid hch2.1
        have HX2 := Lib.hid hch2.2.1
        have HL2 := Lib.hid hch2.2.2
        clear hch2 hb2
        go_wp2_with fail
        refine (P3.out _ (HG.out.below (HB2.out.alloc HB2.out.size _))).mono ?_
        rintro e w3 ⟨rfl, hb3⟩
        have hch3 := chainB HB2.out _ hb3
        have HB3 := Lib.hid hch3.1
        have HX3 := Lib.hid hch3.2.1
        have HL3 := Lib.hid hch3.2.2
        have HX2b := Lib.hid ((hb3.block w1.heap.size (by have := HL2.out; simp; omega)).trans (((Below.heap_alloc w2 _ w1.heap.size HL2.out)).trans HX2.out))
        clear hch3 hb3
        go_wp2
        go_ret
        exact ⟨ret_boolE HR.out, HB3.out.alloc HB3.out.size _⟩
  | some v1 =>
    cases o2 with
    | none =>
      cases o3 with
      | none =>
        have HR := Lib.hid hR
        clear hR
        simp only [parseR, vv] at P1 P2 P3
        go_enter Tryz.func60, Tryz.ntmps60
        go_wp2_with fail
        refine (P1.out _ HG.out).mono ?_
        rintro e w1 ⟨rfl, hb1⟩
        have HB1 := Lib.hid hb1
        clear hb1
        go_wp2_with fail
        refine (P2.out _ (HG.out.below (HB1.out.alloc HB1.out.size _))).mono ?_
        rintro e w2 ⟨rfl, hb2⟩
        have hch2 := chainB HB1.out _ hb2
        have HB2 := Lib.hid hch2.1
        have HX2 := Lib.hid hch2.2.1
        have HL2 := Lib.hid hch2.2.2
        clear hch2 hb2
        go_wp2_with fail
        refine (P3.out _ (HG.out.below (HB2.out.alloc HB2.out.size _))).mono ?_
        rintro e w3 ⟨rfl, hb3⟩
        have hch3 := chainB HB2.out _ hb3
        have HB3 := Lib.hid hch3.1
        have HX3 := Lib.hid hch3.2.1
        have HL3 := Lib.hid hch3.2.2
        have HX2b := Lib.hid ((hb3.block w1.heap.size (by have := HL2.out; simp; omega)).trans (((Below.heap_alloc w2 _ w1.heap.size HL2.out)).trans HX2.out))
        clear hch3 hb3
        go_wp2
        go_ret
        exact ⟨ret_boolE HR.out, HB3.out.alloc HB3.out.size _⟩
      | some v3 =>
        have HR := Lib.hid hR
        clear hR
        simp only [parseR, vv] at P1 P2 P3
        go_enter Tryz.func60, Tryz.ntmps60
        go_wp2_with fail
        refine (P1.out _ HG.out).mono ?_
        rintro e w1 ⟨rfl, hb1⟩
        have HB1 := Lib.hid hb1
        clear hb1
        go_wp2_with fail
        refine (P2.out _ (HG.out.below (HB1.out.alloc HB1.out.size _))).mono ?_
        rintro e w2 ⟨rfl, hb2⟩
        have hch2 := chainB HB1.out _ hb2
        have HB2 := Lib.hid hch2.1
        have HX2 := Lib.hid hch2.2.1
        have HL2 := Lib.hid hch2.2.2
        clear hch2 hb2
        go_wp2_with fail
        refine (P3.out _ (HG.out.below (HB2.out.alloc HB2.out.size _))).mono ?_
        rintro e w3 ⟨rfl, hb3⟩
        have hch3 := chainB HB2.out _ hb3
        have HB3 := Lib.hid hch3.1
        have HX3 := Lib.hid hch3.2.1
        have HL3 := Lib.hid hch3.2.2
        have HX2b := Lib.hid ((hb3.block w1.heap.size (by have := HL2.out; simp; omega)).trans (((Below.heap_alloc w2 _ w1.heap.size HL2.out)).trans HX2.out))
        clear hch3 hb3
        go_wp2
        go_ret
        exact ⟨ret_boolE HR.out, HB3.out.alloc HB3.out.size _⟩
    | some v2 =>
      cases o3 with
      | none =>
        have HR := Lib.hid hR
        clear hR
        simp only [parseR, vv] at P1 P2 P3
        go_enter Tryz.func60, Tryz.ntmps60
        go_wp2_with fail
        refine (P1.out _ HG.out).mono ?_
        rintro e w1 ⟨rfl, hb1⟩
        have HB1 := Lib.hid hb1
        clear hb1
        go_wp2_with fail
        refine (P2.out _ (HG.out.below (HB1.out.alloc HB1.out.size _))).mono ?_
        rintro e w2 ⟨rfl, hb2⟩
        have hch2 := chainB HB1.out _ hb2
        have HB2 := Lib.hid hch2.1
        have HX2 := Lib.hid hch2.2.1
        have HL2 := Lib.hid hch2.2.2
        clear hch2 hb2
        go_wp2_with fail
        refine (P3.out _ (HG.out.below (HB2.out.alloc HB2.out.size _))).mono ?_
        rintro e w3 ⟨rfl, hb3⟩
        have hch3 := chainB HB2.out _ hb3
        have HB3 := Lib.hid hch3.1
        have HX3 := Lib.hid hch3.2.1
        have HL3 := Lib.hid hch3.2.2
        have HX2b := Lib.hid ((hb3.block w1.heap.size (by have := HL2.out; simp; omega)).trans (((Below.heap_alloc w2 _ w1.heap.size HL2.out)).trans HX2.out))
        clear hch3 hb3
        go_wp2
        go_ret
        exact ⟨ret_boolE HR.out, HB3.out.alloc HB3.out.size _⟩
      | some v3 =>
        have C1 := Lib.hid (fun W => Cmp_v v2 v1 W)
        have C2 := Lib.hid (fun W => Cmp_v v1 v3 W)
        have r1 := cmpV_range v2 v1
        have r2 := cmpV_range v1 v3
        simp only at hR
        obtain ⟨a1, b1, c1⟩ := v1
        obtain ⟨a2, b2, c2⟩ := v2
        obtain ⟨a3, b3, c3⟩ := v3
        obtain ⟨x, hx⟩ : ∃ x, cmpV (a2, b2, c2) (a1, b1, c1) = x := ⟨_, rfl⟩
        obtain ⟨y, hy⟩ : ∃ y, cmpV (a1, b1, c1) (a3, b3, c3) = y := ⟨_, rfl⟩
        rw [hx] at C1 r1 hR
        rw [hy] at C2 r2 hR
        have HR := Lib.hid hR
        obtain ⟨x1, x2⟩ := r1
        obtain ⟨y1, y2⟩ := r2
        clear hR hx hy
        simp only [vv] at C1 C2
        simp only [parseR, vv] at P1 P2 P3
        go_enter Tryz.func60, Tryz.ntmps60
        go_wp2_with fail
        refine (P1.out _ HG.out).mono ?_
        rintro e w1 ⟨rfl, hb1⟩
        have HB1 := Lib.hid hb1
        clear hb1
        go_wp2_with fail
        refine (P2.out _ (HG.out.below (HB1.out.alloc HB1.out.size _))).mono ?_
        rintro e w2 ⟨rfl, hb2⟩
        have hch2 := chainB HB1.out _ hb2
        have HB2 := Lib.hid hch2.1
        have HX2 := Lib.hid hch2.2.1
        have HL2 := Lib.hid hch2.2.2
        clear hch2 hb2
        go_wp2_with fail
        refine (P3.out _ (HG.out.below (HB2.out.alloc HB2.out.size _))).mono ?_
        rintro e w3 ⟨rfl, hb3⟩
        have hch3 := chainB HB2.out _ hb3
        have HB3 := Lib.hid hch3.1
        have HX3 := Lib.hid hch3.2.1
        have HL3 := Lib.hid hch3.2.2
        have HX2b := Lib.hid ((hb3.block w1.heap.size (by have := HL2.out; simp; omega)).trans (((Below.heap_alloc w2 _ w1.heap.size HL2.out)).trans HX2.out))
        clear hch3 hb3
        obtain ⟨w4, hw4⟩ : ∃ W, w3.alloc (.cells #[.int .u16 a3, .int .u16 b3, .int .u16 c3] 130) = W := ⟨_, rfl⟩
        have HB4 : Hid (Below w.heap.size w w4) := Lib.hid (by rw [← hw4]; exact HB3.out.alloc HB3.out.size _)
        have hR3 : Row w4 w3.heap.size 130 [.int .u16 a3, .int .u16 b3, .int .u16 c3] := by rw [← hw4]; exact row_alloc w3 _ _ _ _
        have hR2 : Row w4 w2.heap.size 130 [.int .u16 a2, .int .u16 b2, .int .u16 c2] := by rw [← hw4]; exact (row_of HX3.out).alloc _
        have hR1 : Row w4 w1.heap.size 130 [.int .u16 a1, .int .u16 b1, .int .u16 c1] := by rw [← hw4]; exact (row_of HX2b.out).alloc _
        have p0 := hR1.cell 0
        have p1 := hR1.cell 1
        have p2 := hR1.cell 2
        have q0 := hR2.cell 0
        have q1 := hR2.cell 1
        have q2 := hR2.cell 2
        simp only [List.getElem?_cons_zero, List.getElem?_cons_succ] at p0 p1 p2 q0 q1 q2
        have H1 := Lib.hid hR1
        have H3 := Lib.hid hR3
        clear hR1 hR2 hR3
        go_wp2_with fail
        refine (C1.out _).mono ?_
        rintro e w5 ⟨rfl, hb5⟩
        have HB5 := Lib.hid (HB4.out.trans (hb5.mono HB4.out.size))
        have hR1 := H1.out.below hb5 H1.out.lt
        have hR3 := H3.out.below hb5 H3.out.lt
        clear p0 p1 p2 q0 q1 q2 hb5
        have p0 := hR1.cell 0
        have p1 := hR1.cell 1
        have p2 := hR1.cell 2
        have q0 := hR3.cell 0
        have q1 := hR3.cell 1
        have q2 := hR3.cell 2
        simp only [List.getElem?_cons_zero, List.getElem?_cons_succ] at p0 p1 p2 q0 q1 q2
        clear hR1 hR3
        by_cases hx0 : x ≤ 0
        · have HR2 : Hid (R = decide (y ≤ 0)) := Lib.hid (by rw [← HR.out, decide_eq_true hx0]; rfl)
          go_wp2_with fail
          refine (C2.out _).mono ?_
          rintro e w6 ⟨rfl, hb6⟩
          have HB6 := Lib.hid (HB5.out.trans (hb6.mono HB5.out.size))
          clear hb6
          go_wp2
          go_ret
          exact ⟨ret_boolE HR2.out.symm, HB6.out⟩
        · have HR2 : Hid (R = false) := Lib.hid (by rw [← HR.out, decide_eq_false hx0]; rfl)
          go_wp2
          go_ret
          exact ⟨ret_boolE HR2.out.symm, HB5.out⟩
end Go.Proofs.YtldjnegoefdadaaGreatDoor
