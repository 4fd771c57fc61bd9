/- The statement of RangesTurn: whatever comes in, the law answers true, and what came in reads as it did. (In one text with what it leans on: RangesTurnW, RangesTurn.) -/
import Derived.WalkKit
import Derived.ProofKit
import Derived.OpenShut
import Derived.ShutString
import Derived.SizedLaws
import Derived.LaidMore
import Derived.Lay
import Derived.Stop.Joined
import Derived.SevenTiedAt
import Derived.Deep.DeepHandedRow
import Derived.Test.YtldjnegoefdadaaGreatDoorRTCome
import Derived.Test.YtldjnegoefdadaaGreatDoorRangesTurnAll1
import Derived.Test.YtldjnegoefdadaaGreatDoorRows
import Derived.Test.YtldjnegoefdadaaGreatDoorCards
import Derived.Test.YtldjnegoefdadaaGreatDoorTie
import Derived.Test.YtldjnegoefdadaaGreatDoorVLaid
namespace Go.Proofs.YtldjnegoefdadaaGreatDoor
open Go.RowKit Go.Shelf
set_option linter.unusedVariables false
set_option linter.unusedSimpArgs false

/-- Which act it is. -/
theorem rem_three (n : Int) : Int.tmod n 3 = 0 ∨ Int.tmod n 3 = 1 ∨ Int.tmod n 3 = -1 ∨ Int.tmod n 3 = 2 ∨ Int.tmod n 3 = -2 := by
  have h1 := Int.tmod_lt_of_pos n (b := 3) (by decide)
  have h2 : -3 < Int.tmod n 3 := by
    have := Int.lt_tmod_of_pos n (b := 3) (by decide)
    omega
  omega
/-- What a round has in memory: the act's box, the box of the new table, the box of the table, both tables. -/
def TW (b tb ga gx : Nat) (n : Int) (r : RG) (s : Value) (st u : Value) (T : List RG) (w W : World) : Prop :=
  (Row W ga 32 [.int .i64 n, .string r.lo, .string r.hi, .string r.acs, .string r.low, .string r.high, .int .i64 r.mode] ∧ Row W gx 27 [s]) ∧ (Row W tb 27 [st] ∧ TBL W st T ∧ RTB 0 W u T) ∧ Below b w W
theorem RTB.store {B : Nat} {w : World} {s v : Value} {t : List RG} {b : Nat} {z : List Value} (h : RTB B w s t) (hr : Row w b 27 z) : RTB B (w.setCell ⟨b, 0, none⟩ v) s t := by
  refine ⟨h.1, ?_⟩
  rcases h.2 with h0 | ⟨g, cap', cur, h1, h2, h3, h4⟩
  · exact Or.inl h0
  · refine Or.inr ⟨g, cap', cur, h1, h2, (Below.heap_setCell _ ⟨b, 0, none⟩ _ g ?_).trans h3, h4⟩
    show g ≠ b
    intro e
    unfold Row at hr
    rw [e, hr] at h3
    injection h3 with h3
    injection h3 with h3a h3b h3c
    exact absurd h3b (by decide)
theorem TW.below {b tb ga gx : Nat} {n : Int} {r : RG} {s st u : Value} {T : List RG} {w W W' : World} (h : TW b tb ga gx n r s st u T w W) (hz : b ≤ ga) (hb : Below W.heap.size W W') : TW b tb ga gx n r s st u T w W' :=
  ⟨⟨h.1.1.below hb h.1.1.lt, h.1.2.below hb h.1.2.lt⟩, ⟨h.2.1.1.below hb h.2.1.1.lt, h.2.1.2.1.below hb, h.2.1.2.2.below hb⟩, h.2.2.trans (hb.mono (by have := h.1.1.lt; omega))⟩

set_option maxRecDepth 100000 in
set_option maxHeartbeats 40000000 in
theorem RangesTurn_walk (v0 : Value) (L : List AT) (v1 : Value) (C : List ByteArray) (w : World) (w0 : InA w v0 L) (n0 : L.length ≤ 9223372036854775807) (m0 : ∀ r ∈ L, r.wf) (w1 : Strs w v1 C) (n1 : C.length ≤ 9223372036854775807) (m1 : ∀ c ∈ C, c.size ≤ 9223372036854775807) (hG : VG w) (hN : NV w) :
    Calls Tryz.prog 3 #[v0, v1] w fun e w' => e = .returned (.bool true) ∧ Below w.heap.size w w' := by
  obtain ⟨a, cap, rfl, hin⟩ := w0
  obtain ⟨ca, ccap, cb, coff, rfl, hc1, hc2⟩ := w1
  obtain ⟨b, hb⟩ : ∃ b, w.heap.size = b := ⟨_, rfl⟩
  have HB := Lib.hid hb
  have HI : Hid (∀ W, Below b w W → InA W (.slice a L.length cap) L) := Lib.hid fun W h => InA.below ⟨a, cap, rfl, hin⟩ (by rw [hb]; exact h)
  have HC : Hid (∀ W, Below b w W → ∀ j, j < C.length → ca = some ⟨cb, coff, none⟩ ∧ cb < W.heap.size ∧ W.cell? ⟨cb, coff + j, none⟩ = some (.string (C.getD j ByteArray.empty))) := Lib.hid fun W h j hj => by
    obtain ⟨h1, h2⟩ := hc1 (by omega)
    exact ⟨h1, Nat.lt_of_lt_of_le h2 (by have := (h.mono (Nat.le_of_eq hb)).size; exact this), (h.cell (p := ⟨cb, coff + j, none⟩) (by show cb < b; omega)).trans (hc2 j hj)⟩
  have HVG : Hid (∀ W, Below b w W → VG W) := Lib.hid fun W h => hG.below (by rw [hb]; exact h)
  have HM := Lib.hid m0
  have HM1 := Lib.hid m1
  have HG := Lib.hid hG
  have HN := Lib.hid hN
  clear hG hN hin hc1 hc2 m0 m1
  go_enter Tryz.func3, Tryz.ntmps3
  go_wp2_with fail
  refine (awake18_any _ HG.out HN.out).mono ?_
  rintro e w2 ⟨rfl, hb2⟩
  have B2 : Hid (Below b w w2) := Lib.hid (by rw [← hb]; exact hb2)
  clear hb2
  by_cases h80 : 80 < L.length
  · have h80I : (80 : Int) < (L.length : Int) := by omega
    go_wp2
    go_ret
    exact ⟨rfl, by rw [HB.out]; exact B2.out⟩
  · have h80I : ¬ (80 : Int) < (L.length : Int) := by omega
    by_cases h20 : 20 < C.length
    · have h20I : (20 : Int) < (C.length : Int) := by omega
      go_wp2
      go_ret
      exact ⟨rfl, by rw [HB.out]; exact B2.out⟩
    · have h20I : ¬ (20 : Int) < (C.length : Int) := by omega
      have hbz2 : b ≤ w2.heap.size := by rw [← HB.out]; exact (B2.out.mono (Nat.le_of_eq HB.out)).size
      have R3 : Row (w2.alloc (.cells #[.slice none 0 0] 27)) w2.heap.size 27 [.slice none 0 0] := Row.self w2 _ _
      have B3 := B2.out.alloc hbz2 (.cells #[.slice none 0 0] 27)
      obtain ⟨tb, htb⟩ : ∃ tb, w2.heap.size = tb := ⟨_, rfl⟩
      have HTB := Lib.hid htb
      rw [htb] at R3 hbz2
      clear htb
      go_wp2_with fail
      rw [HTB.out]
      generalize w2.alloc (.cells #[.slice none 0 0] 27) = w3 at R3 B3 ⊢
      have HW3 := Lib.hid (And.intro R3 B3)
      clear R3 B3
      go_loopw [6, 30] (fun l i wr => ∃ (j : Nat) (T : List RG) (st : Value), j ≤ L.length ∧ i = .int .i64 j ∧ Hid (Whole T) ∧ Hid (Row wr tb 27 [st] ∧ TBL wr st T ∧ RTB 0 wr l T ∧ Below b w wr)) (fun _ i _ => L.length - (intOf i).toNat)
      case atStart => exact ⟨0, [], .slice none 0 0, Nat.zero_le _, rfl, Lib.hid whole_nil, Lib.hid ⟨HW3.out.1, TBL.nil _, RTB.nil _ _, HW3.out.2⟩⟩
      case round =>
        obtain ⟨j, T, st, hj, rfl, HT, HW⟩ := hrel
        obtain ⟨la, ln, lc, rfl⟩ : ∃ a n c, u6 = Value.slice a n c := (by obtain ⟨a, c, h⟩ := HW.out.2.2.1.slice; exact ⟨a, _, c, h⟩)
        obtain ⟨sa, sn, sc, rfl⟩ : ∃ a n c, st = Value.slice a n c := (by obtain ⟨a, c, h⟩ := HW.out.2.1.slice; exact ⟨a, _, c, h⟩)
        have htbr : tb < wr.heap.size := HW.out.1.lt
        by_cases hlt : j < L.length
        · have hltI : (j : Int) < (L.length : Int) := by omega
          obtain ⟨a', cap', he, hin⟩ := HI.out _ HW.out.2.2.2
          injection he with he1 he2 he3
          subst he1 he3
          obtain ⟨g, off, rfl, hg, hrng⟩ := hin j hlt
          have p0 := hrng 0 _ rfl
          have p1 := hrng 1 _ rfl
          have p2 := hrng 2 _ rfl
          have p3 := hrng 3 _ rfl
          have p4 := hrng 4 _ rfl
          have p5 := hrng 5 _ rfl
          have p6 := hrng 6 _ rfl
          rw [Nat.add_zero] at p0
          have hwf := HM.out _ (List.getElem_mem hlt)
          obtain ⟨x, hx⟩ : ∃ x, L[j] = x := ⟨_, rfl⟩
          rw [hx] at p0 p1 p2 p3 p4 p5 p6 hwf
          obtain ⟨n, r⟩ := x
          dsimp only [AT.wf] at p0 p1 p2 p3 p4 p5 p6 hwf
          have HWF := Lib.hid hwf
          have HL := Lib.hid (fun W => Light_any r W)
          have HLR : Hid (lightB r = true → r.light) := Lib.hid fun h => by
            unfold lightB at h
            have h2 := of_decide_eq_true h
            exact ⟨by omega, by omega, by omega, by omega, by omega, HWF.out.2.1, HWF.out.2.2⟩
          obtain ⟨lx, hlx⟩ : ∃ lx, lightB r = lx := ⟨_, rfl⟩
          rw [hlx] at HL HLR
          clear hrng hx hwf hlx hin he2
          have A4 : Hid (Row (wr.alloc (.cells #[.int .i64 n, .string r.lo, .string r.hi, .string r.acs, .string r.low, .string r.high, .int .i64 r.mode] 32)) wr.heap.size 32 [.int .i64 n, .string r.lo, .string r.hi, .string r.acs, .string r.low, .string r.high, .int .i64 r.mode]) := Lib.hid (Row.self wr _ _)
          have W4 : Hid (Row (wr.alloc (.cells #[.int .i64 n, .string r.lo, .string r.hi, .string r.acs, .string r.low, .string r.high, .int .i64 r.mode] 32)) tb 27 [.slice sa sn sc] ∧ TBL (wr.alloc (.cells #[.int .i64 n, .string r.lo, .string r.hi, .string r.acs, .string r.low, .string r.high, .int .i64 r.mode] 32)) (.slice sa sn sc) T ∧ RTB 0 (wr.alloc (.cells #[.int .i64 n, .string r.lo, .string r.hi, .string r.acs, .string r.low, .string r.high, .int .i64 r.mode] 32)) (.slice la ln lc) T ∧ Below b w (wr.alloc (.cells #[.int .i64 n, .string r.lo, .string r.hi, .string r.acs, .string r.low, .string r.high, .int .i64 r.mode] 32))) := Lib.hid ⟨HW.out.1.alloc _, HW.out.2.1.below ((Below.refl _ _).alloc (Nat.le_refl _) _), HW.out.2.2.1.below ((Below.refl _ _).alloc (Nat.le_refl _) _), HW.out.2.2.2.alloc (by omega) _⟩
          obtain ⟨ga, hga⟩ : ∃ ga, wr.heap.size = ga := ⟨_, rfl⟩
          have HGA := Lib.hid hga
          have htga : tb < ga := by omega
          rw [hga] at A4
          clear hga
          go_wp2_with fail
          rw [HGA.out]
          generalize wr.alloc (.cells #[.int .i64 n, .string r.lo, .string r.hi, .string r.acs, .string r.low, .string r.high, .int .i64 r.mode] 32) = w4 at A4 W4 ⊢
          refine (HL.out _).mono ?_
          rintro e w5 ⟨rfl, hb5⟩
          have A5 := Lib.hid (A4.out.below hb5 A4.out.lt)
          have W5 : Hid (Row w5 tb 27 [.slice sa sn sc] ∧ TBL w5 (.slice sa sn sc) T ∧ RTB 0 w5 (.slice la ln lc) T ∧ Below b w w5) := Lib.hid ⟨W4.out.1.below hb5 W4.out.1.lt, W4.out.2.1.below hb5, W4.out.2.2.1.below hb5, W4.out.2.2.2.trans (hb5.mono (by have := A4.out.lt; omega))⟩
          clear hb5 p0 p1 p2 p3 p4 p5 p6
          cases lx with
          | false =>
            go_wp2
            try rw [Exit.noGoto_ret]
            go_ret
            exact ⟨rfl, by rw [HB.out]; exact W5.out.2.2.2⟩
          | true =>
            have HR := Lib.hid (HLR.out (by trivial))
            have p0 := A5.out.cell 0
            have la5 := A5.out.lt
            simp only [List.getElem?_cons_zero] at p0
            have X6 : Hid (Row (w5.alloc (.cells #[.slice none 0 0] 27)) w5.heap.size 27 [.slice none 0 0]) := Lib.hid (Row.self w5 _ _)
            have W6 : Hid (Row (w5.alloc (.cells #[.slice none 0 0] 27)) ga 32 [.int .i64 n, .string r.lo, .string r.hi, .string r.acs, .string r.low, .string r.high, .int .i64 r.mode] ∧ Row (w5.alloc (.cells #[.slice none 0 0] 27)) tb 27 [.slice sa sn sc] ∧ TBL (w5.alloc (.cells #[.slice none 0 0] 27)) (.slice sa sn sc) T ∧ RTB 0 (w5.alloc (.cells #[.slice none 0 0] 27)) (.slice la ln lc) T ∧ Below b w (w5.alloc (.cells #[.slice none 0 0] 27))) := Lib.hid ⟨A5.out.alloc _, W5.out.1.alloc _, W5.out.2.1.below ((Below.refl _ _).alloc (Nat.le_refl _) _), W5.out.2.2.1.below ((Below.refl _ _).alloc (Nat.le_refl _) _), W5.out.2.2.2.alloc (by omega) _⟩
            obtain ⟨gx, hgx⟩ : ∃ gx, w5.heap.size = gx := ⟨_, rfl⟩
            have HGX := Lib.hid hgx
            have hgax : ga < gx := by omega
            rw [hgx] at X6
            clear hgx
            have hrem := rem_three n
            obtain ⟨m, hm⟩ : ∃ m, Int.tmod n 3 = m := ⟨_, rfl⟩
            rw [hm] at hrem
            rcases hrem with rfl | rfl | rfl | rfl | rfl
            · have HPC := Lib.hid (fun s W h1 h2 => Add_act T HT.out r HR.out s W h1 h2)
              have HRC := Lib.hid (fun s W h => refAdd_act T HT.out r HR.out s W h)
              have HXW : Hid (Whole (addL T r)) := Lib.hid (whole_add HT.out HR.out)
              obtain ⟨E, hE⟩ : ∃ E, errA T r = E := ⟨_, rfl⟩
              obtain ⟨X, hX⟩ : ∃ X, addL T r = X := ⟨_, rfl⟩
              rw [hE, hX] at HPC HRC
              rw [hX] at HXW
              clear hE hX
              have la5 := A5.out.lt
              have c7 := W5.out.1.cell 0
              have l7 := W5.out.1.lt
              have p0 := A5.out.cell 0
              have p1 := A5.out.cell 1
              have p2 := A5.out.cell 2
              have p3 := A5.out.cell 3
              have p4 := A5.out.cell 4
              have p5 := A5.out.cell 5
              have p6 := A5.out.cell 6
              simp only [List.getElem?_cons_zero, List.getElem?_cons_succ] at c7 p0 p1 p2 p3 p4 p5 p6
              go_wp2_with fail
              rw [HGX.out]
              generalize w5.alloc (.cells #[.slice none 0 0] 27) = w6 at X6 W6 ⊢
              refine (HPC.out _ _ (HVG.out _ W6.out.2.2.2.2) W6.out.2.2.1).mono ?_
              rintro e w7 ⟨hb, s7, rfl, hT7⟩
              obtain ⟨xa, xn, xc, rfl⟩ : ∃ a n c, s7 = Value.slice a n c := (by obtain ⟨a, c, h⟩ := TBL.slice hT7; exact ⟨a, _, c, h⟩)
              have T7 := Lib.hid hT7
              have A7 := Lib.hid (W6.out.1.below hb W6.out.1.lt)
              have X7 := Lib.hid (X6.out.below hb X6.out.lt)
              have W7 : Hid (Row w7 tb 27 [.slice sa sn sc] ∧ TBL w7 (.slice sa sn sc) T ∧ RTB 0 w7 (.slice la ln lc) T ∧ Below b w w7) := Lib.hid ⟨W6.out.2.1.below hb W6.out.2.1.lt, W6.out.2.2.1.below hb, W6.out.2.2.2.1.below hb, W6.out.2.2.2.2.trans (hb.mono (by have := X6.out.lt; omega))⟩
              clear hb hT7 la5 c7 l7 p0 p1 p2 p3 p4 p5 p6
              have p0 := A7.out.cell 0
              have p1 := A7.out.cell 1
              have p2 := A7.out.cell 2
              have p3 := A7.out.cell 3
              have p4 := A7.out.cell 4
              have p5 := A7.out.cell 5
              have p6 := A7.out.cell 6
              simp only [List.getElem?_cons_zero, List.getElem?_cons_succ] at p0 p1 p2 p3 p4 p5 p6
              have la7 := A7.out.lt
              have c7 := W7.out.1.cell 0
              have l7 := W7.out.1.lt
              have e7 := X7.out.cell 0
              have f7 := X7.out.frozen 0
              have l8 := X7.out.lt
              simp only [List.getElem?_cons_zero] at c7 e7
              go_wp2_with fail
              have A8 : Hid (Row (w7.setCell ⟨gx, 0, none⟩ (.slice xa xn xc)) ga 32 [.int .i64 n, .string r.lo, .string r.hi, .string r.acs, .string r.low, .string r.high, .int .i64 r.mode]) := Lib.hid (A7.out.far (p := ⟨gx, 0, none⟩) (by show ga ≠ gx; omega) _)
              have X8 : Hid (Row (w7.setCell ⟨gx, 0, none⟩ (.slice xa xn xc)) gx 27 [.slice xa xn xc]) := Lib.hid (X7.out.set 0 _)
              have T8 : Hid (TBL (w7.setCell ⟨gx, 0, none⟩ (.slice xa xn xc)) (.slice xa xn xc) X) := Lib.hid (T7.out.store X7.out)
              have W8 : Hid (Row (w7.setCell ⟨gx, 0, none⟩ (.slice xa xn xc)) tb 27 [.slice sa sn sc] ∧ TBL (w7.setCell ⟨gx, 0, none⟩ (.slice xa xn xc)) (.slice sa sn sc) T ∧ RTB 0 (w7.setCell ⟨gx, 0, none⟩ (.slice xa xn xc)) (.slice la ln lc) T ∧ Below b w (w7.setCell ⟨gx, 0, none⟩ (.slice xa xn xc))) := Lib.hid ⟨W7.out.1.far (p := ⟨gx, 0, none⟩) (by show tb ≠ gx; omega) _, W7.out.2.1.store X7.out, W7.out.2.2.1.store X7.out, W7.out.2.2.2.setCell (p := ⟨gx, 0, none⟩) (by show b ≤ gx; omega) _⟩
              generalize w7.setCell ⟨gx, 0, none⟩ (.slice xa xn xc) = w8 at A8 X8 T8 W8 ⊢
              refine (HRC.out _ _ W8.out.2.2.1).mono ?_
              rintro e w9 ⟨hb, q9, rfl, hQ9⟩
              obtain ⟨qa, qn, qc, rfl⟩ : ∃ a n c, q9 = Value.slice a n c := (by obtain ⟨a, c, h⟩ := RTB.slice hQ9; exact ⟨a, _, c, h⟩)
              have Q9 := Lib.hid hQ9
              have X9 := Lib.hid (X8.out.below hb X8.out.lt)
              have T9 := Lib.hid (T8.out.below hb)
              have W9 : Hid (Row w9 tb 27 [.slice sa sn sc] ∧ TBL w9 (.slice sa sn sc) T ∧ RTB 0 w9 (.slice la ln lc) T ∧ Below b w w9) := Lib.hid ⟨W8.out.1.below hb W8.out.1.lt, W8.out.2.1.below hb, W8.out.2.2.1.below hb, W8.out.2.2.2.trans (hb.mono (by have := X8.out.lt; omega))⟩
              clear hb hQ9
              clear p0 p1 p2 p3 p4 p5 p6 la7 c7 l7 e7 f7 l8
              have c7 := W9.out.1.cell 0
              have l7 := W9.out.1.lt
              have e7 := X9.out.cell 0
              have l8 := X9.out.lt
              simp only [List.getElem?_cons_zero] at c7 e7
              have HI1 := Lib.hid (fun W h1 h2 => IsTab_any X HXW.out.2.2 (.slice xa xn xc) (.slice qa qn qc) W h1 h2)
              have HI2 := Lib.hid (fun W h1 h2 => IsTab_any T HT.out.2.2 (.slice sa sn sc) (.slice la ln lc) W h1 h2)
              go_wp2_with fail
              refine (HI1.out _ T9.out Q9.out).mono ?_
              rintro e w10 ⟨rfl, hb⟩
              have Q10 := Lib.hid (Q9.out.below hb)
              have X10 := Lib.hid (X9.out.below hb X9.out.lt)
              have T10 := Lib.hid (T9.out.below hb)
              have W10 : Hid (Row w10 tb 27 [.slice sa sn sc] ∧ TBL w10 (.slice sa sn sc) T ∧ RTB 0 w10 (.slice la ln lc) T ∧ Below b w w10) := Lib.hid ⟨W9.out.1.below hb W9.out.1.lt, W9.out.2.1.below hb, W9.out.2.2.1.below hb, W9.out.2.2.2.trans (hb.mono (by have := X9.out.lt; omega))⟩
              clear hb c7 l7 e7 l8
              have c7 := W10.out.1.cell 0
              have l7 := W10.out.1.lt
              simp only [List.getElem?_cons_zero] at c7
              go_wp2_with fail
              refine (HI2.out _ W10.out.2.1 W10.out.2.2.1).mono ?_
              rintro e w11 ⟨rfl, hb⟩
              have Q11 := Lib.hid (Q10.out.below hb)
              have X11 := Lib.hid (X10.out.below hb X10.out.lt)
              have T11 := Lib.hid (T10.out.below hb)
              have W11 : Hid (Row w11 tb 27 [.slice sa sn sc] ∧ TBL w11 (.slice sa sn sc) T ∧ RTB 0 w11 (.slice la ln lc) T ∧ Below b w w11) := Lib.hid ⟨W10.out.1.below hb W10.out.1.lt, W10.out.2.1.below hb, W10.out.2.2.1.below hb, W10.out.2.2.2.trans (hb.mono (by have := X10.out.lt; omega))⟩
              clear hb c7 l7
              by_cases hE0 : E = 0
              · subst hE0
                have c7 := W11.out.1.cell 0
                have l7 := W11.out.1.lt
                have f7 := W11.out.1.frozen 0
                have e7 := X11.out.cell 0
                have l8 := X11.out.lt
                simp only [List.getElem?_cons_zero] at c7 e7
                go_wp2_with fail
                go_roundw
                case rel => exact ⟨j + 1, X, .slice xa xn xc, by omega, by go_num, HXW, Lib.hid ⟨W11.out.1.set 0 _, T11.out.store W11.out.1, Q11.out.store W11.out.1, W11.out.2.2.2.setCell (p := ⟨tb, 0, none⟩) (by show b ≤ tb; omega) _⟩⟩
                case measure => simp [intOf]; omega
              · have hEb : ((E == 0) : Bool) = false := by rw [beq_eq_false_iff_ne]; exact hE0
                go_wp2_with fail
                go_roundw
                case rel => exact ⟨j + 1, T, .slice sa sn sc, by omega, by go_num, HT, W11⟩
                case measure => simp [intOf]; omega
            · have HPC := Lib.hid (fun s W (h1 : VG W) h2 => Drop_act T HT.out r.lo HR.out.1 s W h2)
              have HRC := Lib.hid (fun s W h => refDrop_act T HT.out r.lo s W h)
              have HXW : Hid (Whole (dropL T r.lo)) := Lib.hid (whole_drop HT.out r.lo)
              obtain ⟨E, hE⟩ : ∃ E, dropE T r.lo = E := ⟨_, rfl⟩
              obtain ⟨X, hX⟩ : ∃ X, dropL T r.lo = X := ⟨_, rfl⟩
              rw [hE, hX] at HPC HRC
              rw [hX] at HXW
              clear hE hX
              have la5 := A5.out.lt
              have c7 := W5.out.1.cell 0
              have l7 := W5.out.1.lt
              have p0 := A5.out.cell 0
              have p1 := A5.out.cell 1
              have p2 := A5.out.cell 2
              have p3 := A5.out.cell 3
              have p4 := A5.out.cell 4
              have p5 := A5.out.cell 5
              have p6 := A5.out.cell 6
              simp only [List.getElem?_cons_zero, List.getElem?_cons_succ] at c7 p0 p1 p2 p3 p4 p5 p6
              go_wp2_with fail
              rw [HGX.out]
              generalize w5.alloc (.cells #[.slice none 0 0] 27) = w6 at X6 W6 ⊢
              refine (HPC.out _ _ (HVG.out _ W6.out.2.2.2.2) W6.out.2.2.1).mono ?_
              rintro e w7 ⟨hb, s7, rfl, hT7⟩
              obtain ⟨xa, xn, xc, rfl⟩ : ∃ a n c, s7 = Value.slice a n c := (by obtain ⟨a, c, h⟩ := TBL.slice hT7; exact ⟨a, _, c, h⟩)
              have T7 := Lib.hid hT7
              have A7 := Lib.hid (W6.out.1.below hb W6.out.1.lt)
              have X7 := Lib.hid (X6.out.below hb X6.out.lt)
              have W7 : Hid (Row w7 tb 27 [.slice sa sn sc] ∧ TBL w7 (.slice sa sn sc) T ∧ RTB 0 w7 (.slice la ln lc) T ∧ Below b w w7) := Lib.hid ⟨W6.out.2.1.below hb W6.out.2.1.lt, W6.out.2.2.1.below hb, W6.out.2.2.2.1.below hb, W6.out.2.2.2.2.trans (hb.mono (by have := X6.out.lt; omega))⟩
              clear hb hT7 la5 c7 l7 p0 p1 p2 p3 p4 p5 p6
              have p0 := A7.out.cell 0
              have p1 := A7.out.cell 1
              have p2 := A7.out.cell 2
              have p3 := A7.out.cell 3
              have p4 := A7.out.cell 4
              have p5 := A7.out.cell 5
              have p6 := A7.out.cell 6
              simp only [List.getElem?_cons_zero, List.getElem?_cons_succ] at p0 p1 p2 p3 p4 p5 p6
              have la7 := A7.out.lt
              have c7 := W7.out.1.cell 0
              have l7 := W7.out.1.lt
              have e7 := X7.out.cell 0
              have f7 := X7.out.frozen 0
              have l8 := X7.out.lt
              simp only [List.getElem?_cons_zero] at c7 e7
              go_wp2_with fail
              have A8 : Hid (Row (w7.setCell ⟨gx, 0, none⟩ (.slice xa xn xc)) ga 32 [.int .i64 n, .string r.lo, .string r.hi, .string r.acs, .string r.low, .string r.high, .int .i64 r.mode]) := Lib.hid (A7.out.far (p := ⟨gx, 0, none⟩) (by show ga ≠ gx; omega) _)
              have X8 : Hid (Row (w7.setCell ⟨gx, 0, none⟩ (.slice xa xn xc)) gx 27 [.slice xa xn xc]) := Lib.hid (X7.out.set 0 _)
              have T8 : Hid (TBL (w7.setCell ⟨gx, 0, none⟩ (.slice xa xn xc)) (.slice xa xn xc) X) := Lib.hid (T7.out.store X7.out)
              have W8 : Hid (Row (w7.setCell ⟨gx, 0, none⟩ (.slice xa xn xc)) tb 27 [.slice sa sn sc] ∧ TBL (w7.setCell ⟨gx, 0, none⟩ (.slice xa xn xc)) (.slice sa sn sc) T ∧ RTB 0 (w7.setCell ⟨gx, 0, none⟩ (.slice xa xn xc)) (.slice la ln lc) T ∧ Below b w (w7.setCell ⟨gx, 0, none⟩ (.slice xa xn xc))) := Lib.hid ⟨W7.out.1.far (p := ⟨gx, 0, none⟩) (by show tb ≠ gx; omega) _, W7.out.2.1.store X7.out, W7.out.2.2.1.store X7.out, W7.out.2.2.2.setCell (p := ⟨gx, 0, none⟩) (by show b ≤ gx; omega) _⟩
              generalize w7.setCell ⟨gx, 0, none⟩ (.slice xa xn xc) = w8 at A8 X8 T8 W8 ⊢
              refine (HRC.out _ _ W8.out.2.2.1).mono ?_
              rintro e w9 ⟨hb, q9, rfl, hQ9⟩
              obtain ⟨qa, qn, qc, rfl⟩ : ∃ a n c, q9 = Value.slice a n c := (by obtain ⟨a, c, h⟩ := RTB.slice hQ9; exact ⟨a, _, c, h⟩)
              have Q9 := Lib.hid hQ9
              have X9 := Lib.hid (X8.out.below hb X8.out.lt)
              have T9 := Lib.hid (T8.out.below hb)
              have W9 : Hid (Row w9 tb 27 [.slice sa sn sc] ∧ TBL w9 (.slice sa sn sc) T ∧ RTB 0 w9 (.slice la ln lc) T ∧ Below b w w9) := Lib.hid ⟨W8.out.1.below hb W8.out.1.lt, W8.out.2.1.below hb, W8.out.2.2.1.below hb, W8.out.2.2.2.trans (hb.mono (by have := X8.out.lt; omega))⟩
              clear hb hQ9
              clear p0 p1 p2 p3 p4 p5 p6 la7 c7 l7 e7 f7 l8
              have c7 := W9.out.1.cell 0
              have l7 := W9.out.1.lt
              have e7 := X9.out.cell 0
              have l8 := X9.out.lt
              simp only [List.getElem?_cons_zero] at c7 e7
              have HI1 := Lib.hid (fun W h1 h2 => IsTab_any X HXW.out.2.2 (.slice xa xn xc) (.slice qa qn qc) W h1 h2)
              have HI2 := Lib.hid (fun W h1 h2 => IsTab_any T HT.out.2.2 (.slice sa sn sc) (.slice la ln lc) W h1 h2)
              go_wp2_with fail
              refine (HI1.out _ T9.out Q9.out).mono ?_
              rintro e w10 ⟨rfl, hb⟩
              have Q10 := Lib.hid (Q9.out.below hb)
              have X10 := Lib.hid (X9.out.below hb X9.out.lt)
              have T10 := Lib.hid (T9.out.below hb)
              have W10 : Hid (Row w10 tb 27 [.slice sa sn sc] ∧ TBL w10 (.slice sa sn sc) T ∧ RTB 0 w10 (.slice la ln lc) T ∧ Below b w w10) := Lib.hid ⟨W9.out.1.below hb W9.out.1.lt, W9.out.2.1.below hb, W9.out.2.2.1.below hb, W9.out.2.2.2.trans (hb.mono (by have := X9.out.lt; omega))⟩
              clear hb c7 l7 e7 l8
              have c7 := W10.out.1.cell 0
              have l7 := W10.out.1.lt
              simp only [List.getElem?_cons_zero] at c7
              go_wp2_with fail
              refine (HI2.out _ W10.out.2.1 W10.out.2.2.1).mono ?_
              rintro e w11 ⟨rfl, hb⟩
              have Q11 := Lib.hid (Q10.out.below hb)
              have X11 := Lib.hid (X10.out.below hb X10.out.lt)
              have T11 := Lib.hid (T10.out.below hb)
              have W11 : Hid (Row w11 tb 27 [.slice sa sn sc] ∧ TBL w11 (.slice sa sn sc) T ∧ RTB 0 w11 (.slice la ln lc) T ∧ Below b w w11) := Lib.hid ⟨W10.out.1.below hb W10.out.1.lt, W10.out.2.1.below hb, W10.out.2.2.1.below hb, W10.out.2.2.2.trans (hb.mono (by have := X10.out.lt; omega))⟩
              clear hb c7 l7
              by_cases hE0 : E = 0
              · subst hE0
                have c7 := W11.out.1.cell 0
                have l7 := W11.out.1.lt
                have f7 := W11.out.1.frozen 0
                have e7 := X11.out.cell 0
                have l8 := X11.out.lt
                simp only [List.getElem?_cons_zero] at c7 e7
                go_wp2_with fail
                go_roundw
                case rel => exact ⟨j + 1, X, .slice xa xn xc, by omega, by go_num, HXW, Lib.hid ⟨W11.out.1.set 0 _, T11.out.store W11.out.1, Q11.out.store W11.out.1, W11.out.2.2.2.setCell (p := ⟨tb, 0, none⟩) (by show b ≤ tb; omega) _⟩⟩
                case measure => simp [intOf]; omega
              · have hEb : ((E == 0) : Bool) = false := by rw [beq_eq_false_iff_ne]; exact hE0
                go_wp2_with fail
                go_roundw
                case rel => exact ⟨j + 1, T, .slice sa sn sc, by omega, by go_num, HT, W11⟩
                case measure => simp [intOf]; omega
            · have HPC := Lib.hid (fun s W (h1 : VG W) h2 => Drop_act T HT.out r.lo HR.out.1 s W h2)
              have HRC := Lib.hid (fun s W h => refDrop_act T HT.out r.lo s W h)
              have HXW : Hid (Whole (dropL T r.lo)) := Lib.hid (whole_drop HT.out r.lo)
              obtain ⟨E, hE⟩ : ∃ E, dropE T r.lo = E := ⟨_, rfl⟩
              obtain ⟨X, hX⟩ : ∃ X, dropL T r.lo = X := ⟨_, rfl⟩
              rw [hE, hX] at HPC HRC
              rw [hX] at HXW
              clear hE hX
              have la5 := A5.out.lt
              have c7 := W5.out.1.cell 0
              have l7 := W5.out.1.lt
              have p0 := A5.out.cell 0
              have p1 := A5.out.cell 1
              have p2 := A5.out.cell 2
              have p3 := A5.out.cell 3
              have p4 := A5.out.cell 4
              have p5 := A5.out.cell 5
              have p6 := A5.out.cell 6
              simp only [List.getElem?_cons_zero, List.getElem?_cons_succ] at c7 p0 p1 p2 p3 p4 p5 p6
              go_wp2_with fail
              rw [HGX.out]
              generalize w5.alloc (.cells #[.slice none 0 0] 27) = w6 at X6 W6 ⊢
              refine (HPC.out _ _ (HVG.out _ W6.out.2.2.2.2) W6.out.2.2.1).mono ?_
              rintro e w7 ⟨hb, s7, rfl, hT7⟩
              obtain ⟨xa, xn, xc, rfl⟩ : ∃ a n c, s7 = Value.slice a n c := (by obtain ⟨a, c, h⟩ := TBL.slice hT7; exact ⟨a, _, c, h⟩)
              have T7 := Lib.hid hT7
              have A7 := Lib.hid (W6.out.1.below hb W6.out.1.lt)
              have X7 := Lib.hid (X6.out.below hb X6.out.lt)
              have W7 : Hid (Row w7 tb 27 [.slice sa sn sc] ∧ TBL w7 (.slice sa sn sc) T ∧ RTB 0 w7 (.slice la ln lc) T ∧ Below b w w7) := Lib.hid ⟨W6.out.2.1.below hb W6.out.2.1.lt, W6.out.2.2.1.below hb, W6.out.2.2.2.1.below hb, W6.out.2.2.2.2.trans (hb.mono (by have := X6.out.lt; omega))⟩
              clear hb hT7 la5 c7 l7 p0 p1 p2 p3 p4 p5 p6
              have p0 := A7.out.cell 0
              have p1 := A7.out.cell 1
              have p2 := A7.out.cell 2
              have p3 := A7.out.cell 3
              have p4 := A7.out.cell 4
              have p5 := A7.out.cell 5
              have p6 := A7.out.cell 6
              simp only [List.getElem?_cons_zero, List.getElem?_cons_succ] at p0 p1 p2 p3 p4 p5 p6
              have la7 := A7.out.lt
              have c7 := W7.out.1.cell 0
              have l7 := W7.out.1.lt
              have e7 := X7.out.cell 0
              have f7 := X7.out.frozen 0
              have l8 := X7.out.lt
              simp only [List.getElem?_cons_zero] at c7 e7
              go_wp2_with fail
              have A8 : Hid (Row (w7.setCell ⟨gx, 0, none⟩ (.slice xa xn xc)) ga 32 [.int .i64 n, .string r.lo, .string r.hi, .string r.acs, .string r.low, .string r.high, .int .i64 r.mode]) := Lib.hid (A7.out.far (p := ⟨gx, 0, none⟩) (by show ga ≠ gx; omega) _)
              have X8 : Hid (Row (w7.setCell ⟨gx, 0, none⟩ (.slice xa xn xc)) gx 27 [.slice xa xn xc]) := Lib.hid (X7.out.set 0 _)
              have T8 : Hid (TBL (w7.setCell ⟨gx, 0, none⟩ (.slice xa xn xc)) (.slice xa xn xc) X) := Lib.hid (T7.out.store X7.out)
              have W8 : Hid (Row (w7.setCell ⟨gx, 0, none⟩ (.slice xa xn xc)) tb 27 [.slice sa sn sc] ∧ TBL (w7.setCell ⟨gx, 0, none⟩ (.slice xa xn xc)) (.slice sa sn sc) T ∧ RTB 0 (w7.setCell ⟨gx, 0, none⟩ (.slice xa xn xc)) (.slice la ln lc) T ∧ Below b w (w7.setCell ⟨gx, 0, none⟩ (.slice xa xn xc))) := Lib.hid ⟨W7.out.1.far (p := ⟨gx, 0, none⟩) (by show tb ≠ gx; omega) _, W7.out.2.1.store X7.out, W7.out.2.2.1.store X7.out, W7.out.2.2.2.setCell (p := ⟨gx, 0, none⟩) (by show b ≤ gx; omega) _⟩
              generalize w7.setCell ⟨gx, 0, none⟩ (.slice xa xn xc) = w8 at A8 X8 T8 W8 ⊢
              refine (HRC.out _ _ W8.out.2.2.1).mono ?_
              rintro e w9 ⟨hb, q9, rfl, hQ9⟩
              obtain ⟨qa, qn, qc, rfl⟩ : ∃ a n c, q9 = Value.slice a n c := (by obtain ⟨a, c, h⟩ := RTB.slice hQ9; exact ⟨a, _, c, h⟩)
              have Q9 := Lib.hid hQ9
              have X9 := Lib.hid (X8.out.below hb X8.out.lt)
              have T9 := Lib.hid (T8.out.below hb)
              have W9 : Hid (Row w9 tb 27 [.slice sa sn sc] ∧ TBL w9 (.slice sa sn sc) T ∧ RTB 0 w9 (.slice la ln lc) T ∧ Below b w w9) := Lib.hid ⟨W8.out.1.below hb W8.out.1.lt, W8.out.2.1.below hb, W8.out.2.2.1.below hb, W8.out.2.2.2.trans (hb.mono (by have := X8.out.lt; omega))⟩
              clear hb hQ9
              clear p0 p1 p2 p3 p4 p5 p6 la7 c7 l7 e7 f7 l8
              have c7 := W9.out.1.cell 0
              have l7 := W9.out.1.lt
              have e7 := X9.out.cell 0
              have l8 := X9.out.lt
              simp only [List.getElem?_cons_zero] at c7 e7
              have HI1 := Lib.hid (fun W h1 h2 => IsTab_any X HXW.out.2.2 (.slice xa xn xc) (.slice qa qn qc) W h1 h2)
              have HI2 := Lib.hid (fun W h1 h2 => IsTab_any T HT.out.2.2 (.slice sa sn sc) (.slice la ln lc) W h1 h2)
              go_wp2_with fail
              refine (HI1.out _ T9.out Q9.out).mono ?_
              rintro e w10 ⟨rfl, hb⟩
              have Q10 := Lib.hid (Q9.out.below hb)
              have X10 := Lib.hid (X9.out.below hb X9.out.lt)
              have T10 := Lib.hid (T9.out.below hb)
              have W10 : Hid (Row w10 tb 27 [.slice sa sn sc] ∧ TBL w10 (.slice sa sn sc) T ∧ RTB 0 w10 (.slice la ln lc) T ∧ Below b w w10) := Lib.hid ⟨W9.out.1.below hb W9.out.1.lt, W9.out.2.1.below hb, W9.out.2.2.1.below hb, W9.out.2.2.2.trans (hb.mono (by have := X9.out.lt; omega))⟩
              clear hb c7 l7 e7 l8
              have c7 := W10.out.1.cell 0
              have l7 := W10.out.1.lt
              simp only [List.getElem?_cons_zero] at c7
              go_wp2_with fail
              refine (HI2.out _ W10.out.2.1 W10.out.2.2.1).mono ?_
              rintro e w11 ⟨rfl, hb⟩
              have Q11 := Lib.hid (Q10.out.below hb)
              have X11 := Lib.hid (X10.out.below hb X10.out.lt)
              have T11 := Lib.hid (T10.out.below hb)
              have W11 : Hid (Row w11 tb 27 [.slice sa sn sc] ∧ TBL w11 (.slice sa sn sc) T ∧ RTB 0 w11 (.slice la ln lc) T ∧ Below b w w11) := Lib.hid ⟨W10.out.1.below hb W10.out.1.lt, W10.out.2.1.below hb, W10.out.2.2.1.below hb, W10.out.2.2.2.trans (hb.mono (by have := X10.out.lt; omega))⟩
              clear hb c7 l7
              by_cases hE0 : E = 0
              · subst hE0
                have c7 := W11.out.1.cell 0
                have l7 := W11.out.1.lt
                have f7 := W11.out.1.frozen 0
                have e7 := X11.out.cell 0
                have l8 := X11.out.lt
                simp only [List.getElem?_cons_zero] at c7 e7
                go_wp2_with fail
                go_roundw
                case rel => exact ⟨j + 1, X, .slice xa xn xc, by omega, by go_num, HXW, Lib.hid ⟨W11.out.1.set 0 _, T11.out.store W11.out.1, Q11.out.store W11.out.1, W11.out.2.2.2.setCell (p := ⟨tb, 0, none⟩) (by show b ≤ tb; omega) _⟩⟩
                case measure => simp [intOf]; omega
              · have hEb : ((E == 0) : Bool) = false := by rw [beq_eq_false_iff_ne]; exact hE0
                go_wp2_with fail
                go_roundw
                case rel => exact ⟨j + 1, T, .slice sa sn sc, by omega, by go_num, HT, W11⟩
                case measure => simp [intOf]; omega
            · have HPC := Lib.hid (fun s W h1 h2 => Turn_act T HT.out r HR.out s W h1 h2)
              have HRC := Lib.hid (fun s W h => refTurn_act T HT.out r HR.out s W h)
              have HXW : Hid (Whole (turnL T r)) := Lib.hid (whole_turn HT.out HR.out)
              obtain ⟨E, hE⟩ : ∃ E, turnE T r = E := ⟨_, rfl⟩
              obtain ⟨X, hX⟩ : ∃ X, turnL T r = X := ⟨_, rfl⟩
              rw [hE, hX] at HPC HRC
              rw [hX] at HXW
              clear hE hX
              have la5 := A5.out.lt
              have c7 := W5.out.1.cell 0
              have l7 := W5.out.1.lt
              have p0 := A5.out.cell 0
              have p1 := A5.out.cell 1
              have p2 := A5.out.cell 2
              have p3 := A5.out.cell 3
              have p4 := A5.out.cell 4
              have p5 := A5.out.cell 5
              have p6 := A5.out.cell 6
              simp only [List.getElem?_cons_zero, List.getElem?_cons_succ] at c7 p0 p1 p2 p3 p4 p5 p6
              go_wp2_with fail
              rw [HGX.out]
              generalize w5.alloc (.cells #[.slice none 0 0] 27) = w6 at X6 W6 ⊢
              refine (HPC.out _ _ (HVG.out _ W6.out.2.2.2.2) W6.out.2.2.1).mono ?_
              rintro e w7 ⟨hb, s7, rfl, hT7⟩
              obtain ⟨xa, xn, xc, rfl⟩ : ∃ a n c, s7 = Value.slice a n c := (by obtain ⟨a, c, h⟩ := TBL.slice hT7; exact ⟨a, _, c, h⟩)
              have T7 := Lib.hid hT7
              have A7 := Lib.hid (W6.out.1.below hb W6.out.1.lt)
              have X7 := Lib.hid (X6.out.below hb X6.out.lt)
              have W7 : Hid (Row w7 tb 27 [.slice sa sn sc] ∧ TBL w7 (.slice sa sn sc) T ∧ RTB 0 w7 (.slice la ln lc) T ∧ Below b w w7) := Lib.hid ⟨W6.out.2.1.below hb W6.out.2.1.lt, W6.out.2.2.1.below hb, W6.out.2.2.2.1.below hb, W6.out.2.2.2.2.trans (hb.mono (by have := X6.out.lt; omega))⟩
              clear hb hT7 la5 c7 l7 p0 p1 p2 p3 p4 p5 p6
              have p0 := A7.out.cell 0
              have p1 := A7.out.cell 1
              have p2 := A7.out.cell 2
              have p3 := A7.out.cell 3
              have p4 := A7.out.cell 4
              have p5 := A7.out.cell 5
              have p6 := A7.out.cell 6
              simp only [List.getElem?_cons_zero, List.getElem?_cons_succ] at p0 p1 p2 p3 p4 p5 p6
              have la7 := A7.out.lt
              have c7 := W7.out.1.cell 0
              have l7 := W7.out.1.lt
              have e7 := X7.out.cell 0
              have f7 := X7.out.frozen 0
              have l8 := X7.out.lt
              simp only [List.getElem?_cons_zero] at c7 e7
              go_wp2_with fail
              have A8 : Hid (Row (w7.setCell ⟨gx, 0, none⟩ (.slice xa xn xc)) ga 32 [.int .i64 n, .string r.lo, .string r.hi, .string r.acs, .string r.low, .string r.high, .int .i64 r.mode]) := Lib.hid (A7.out.far (p := ⟨gx, 0, none⟩) (by show ga ≠ gx; omega) _)
              have X8 : Hid (Row (w7.setCell ⟨gx, 0, none⟩ (.slice xa xn xc)) gx 27 [.slice xa xn xc]) := Lib.hid (X7.out.set 0 _)
              have T8 : Hid (TBL (w7.setCell ⟨gx, 0, none⟩ (.slice xa xn xc)) (.slice xa xn xc) X) := Lib.hid (T7.out.store X7.out)
              have W8 : Hid (Row (w7.setCell ⟨gx, 0, none⟩ (.slice xa xn xc)) tb 27 [.slice sa sn sc] ∧ TBL (w7.setCell ⟨gx, 0, none⟩ (.slice xa xn xc)) (.slice sa sn sc) T ∧ RTB 0 (w7.setCell ⟨gx, 0, none⟩ (.slice xa xn xc)) (.slice la ln lc) T ∧ Below b w (w7.setCell ⟨gx, 0, none⟩ (.slice xa xn xc))) := Lib.hid ⟨W7.out.1.far (p := ⟨gx, 0, none⟩) (by show tb ≠ gx; omega) _, W7.out.2.1.store X7.out, W7.out.2.2.1.store X7.out, W7.out.2.2.2.setCell (p := ⟨gx, 0, none⟩) (by show b ≤ gx; omega) _⟩
              generalize w7.setCell ⟨gx, 0, none⟩ (.slice xa xn xc) = w8 at A8 X8 T8 W8 ⊢
              refine (HRC.out _ _ W8.out.2.2.1).mono ?_
              rintro e w9 ⟨hb, q9, rfl, hQ9⟩
              obtain ⟨qa, qn, qc, rfl⟩ : ∃ a n c, q9 = Value.slice a n c := (by obtain ⟨a, c, h⟩ := RTB.slice hQ9; exact ⟨a, _, c, h⟩)
              have Q9 := Lib.hid hQ9
              have X9 := Lib.hid (X8.out.below hb X8.out.lt)
              have T9 := Lib.hid (T8.out.below hb)
              have W9 : Hid (Row w9 tb 27 [.slice sa sn sc] ∧ TBL w9 (.slice sa sn sc) T ∧ RTB 0 w9 (.slice la ln lc) T ∧ Below b w w9) := Lib.hid ⟨W8.out.1.below hb W8.out.1.lt, W8.out.2.1.below hb, W8.out.2.2.1.below hb, W8.out.2.2.2.trans (hb.mono (by have := X8.out.lt; omega))⟩
              clear hb hQ9
              clear p0 p1 p2 p3 p4 p5 p6 la7 c7 l7 e7 f7 l8
              have c7 := W9.out.1.cell 0
              have l7 := W9.out.1.lt
              have e7 := X9.out.cell 0
              have l8 := X9.out.lt
              simp only [List.getElem?_cons_zero] at c7 e7
              have HI1 := Lib.hid (fun W h1 h2 => IsTab_any X HXW.out.2.2 (.slice xa xn xc) (.slice qa qn qc) W h1 h2)
              have HI2 := Lib.hid (fun W h1 h2 => IsTab_any T HT.out.2.2 (.slice sa sn sc) (.slice la ln lc) W h1 h2)
              go_wp2_with fail
              refine (HI1.out _ T9.out Q9.out).mono ?_
              rintro e w10 ⟨rfl, hb⟩
              have Q10 := Lib.hid (Q9.out.below hb)
              have X10 := Lib.hid (X9.out.below hb X9.out.lt)
              have T10 := Lib.hid (T9.out.below hb)
              have W10 : Hid (Row w10 tb 27 [.slice sa sn sc] ∧ TBL w10 (.slice sa sn sc) T ∧ RTB 0 w10 (.slice la ln lc) T ∧ Below b w w10) := Lib.hid ⟨W9.out.1.below hb W9.out.1.lt, W9.out.2.1.below hb, W9.out.2.2.1.below hb, W9.out.2.2.2.trans (hb.mono (by have := X9.out.lt; omega))⟩
              clear hb c7 l7 e7 l8
              have c7 := W10.out.1.cell 0
              have l7 := W10.out.1.lt
              simp only [List.getElem?_cons_zero] at c7
              go_wp2_with fail
              refine (HI2.out _ W10.out.2.1 W10.out.2.2.1).mono ?_
              rintro e w11 ⟨rfl, hb⟩
              have Q11 := Lib.hid (Q10.out.below hb)
              have X11 := Lib.hid (X10.out.below hb X10.out.lt)
              have T11 := Lib.hid (T10.out.below hb)
              have W11 : Hid (Row w11 tb 27 [.slice sa sn sc] ∧ TBL w11 (.slice sa sn sc) T ∧ RTB 0 w11 (.slice la ln lc) T ∧ Below b w w11) := Lib.hid ⟨W10.out.1.below hb W10.out.1.lt, W10.out.2.1.below hb, W10.out.2.2.1.below hb, W10.out.2.2.2.trans (hb.mono (by have := X10.out.lt; omega))⟩
              clear hb c7 l7
              by_cases hE0 : E = 0
              · subst hE0
                have c7 := W11.out.1.cell 0
                have l7 := W11.out.1.lt
                have f7 := W11.out.1.frozen 0
                have e7 := X11.out.cell 0
                have l8 := X11.out.lt
                simp only [List.getElem?_cons_zero] at c7 e7
                go_wp2_with fail
                go_roundw
                case rel => exact ⟨j + 1, X, .slice xa xn xc, by omega, by go_num, HXW, Lib.hid ⟨W11.out.1.set 0 _, T11.out.store W11.out.1, Q11.out.store W11.out.1, W11.out.2.2.2.setCell (p := ⟨tb, 0, none⟩) (by show b ≤ tb; omega) _⟩⟩
                case measure => simp [intOf]; omega
              · have hEb : ((E == 0) : Bool) = false := by rw [beq_eq_false_iff_ne]; exact hE0
                go_wp2_with fail
                go_roundw
                case rel => exact ⟨j + 1, T, .slice sa sn sc, by omega, by go_num, HT, W11⟩
                case measure => simp [intOf]; omega
            · have HPC := Lib.hid (fun s W h1 h2 => Turn_act T HT.out r HR.out s W h1 h2)
              have HRC := Lib.hid (fun s W h => refTurn_act T HT.out r HR.out s W h)
              have HXW : Hid (Whole (turnL T r)) := Lib.hid (whole_turn HT.out HR.out)
              obtain ⟨E, hE⟩ : ∃ E, turnE T r = E := ⟨_, rfl⟩
              obtain ⟨X, hX⟩ : ∃ X, turnL T r = X := ⟨_, rfl⟩
              rw [hE, hX] at HPC HRC
              rw [hX] at HXW
              clear hE hX
              have la5 := A5.out.lt
              have c7 := W5.out.1.cell 0
              have l7 := W5.out.1.lt
              have p0 := A5.out.cell 0
              have p1 := A5.out.cell 1
              have p2 := A5.out.cell 2
              have p3 := A5.out.cell 3
              have p4 := A5.out.cell 4
              have p5 := A5.out.cell 5
              have p6 := A5.out.cell 6
              simp only [List.getElem?_cons_zero, List.getElem?_cons_succ] at c7 p0 p1 p2 p3 p4 p5 p6
              go_wp2_with fail
              rw [HGX.out]
              generalize w5.alloc (.cells #[.slice none 0 0] 27) = w6 at X6 W6 ⊢
              refine (HPC.out _ _ (HVG.out _ W6.out.2.2.2.2) W6.out.2.2.1).mono ?_
              rintro e w7 ⟨hb, s7, rfl, hT7⟩
              obtain ⟨xa, xn, xc, rfl⟩ : ∃ a n c, s7 = Value.slice a n c := (by obtain ⟨a, c, h⟩ := TBL.slice hT7; exact ⟨a, _, c, h⟩)
              have T7 := Lib.hid hT7
              have A7 := Lib.hid (W6.out.1.below hb W6.out.1.lt)
              have X7 := Lib.hid (X6.out.below hb X6.out.lt)
              have W7 : Hid (Row w7 tb 27 [.slice sa sn sc] ∧ TBL w7 (.slice sa sn sc) T ∧ RTB 0 w7 (.slice la ln lc) T ∧ Below b w w7) := Lib.hid ⟨W6.out.2.1.below hb W6.out.2.1.lt, W6.out.2.2.1.below hb, W6.out.2.2.2.1.below hb, W6.out.2.2.2.2.trans (hb.mono (by have := X6.out.lt; omega))⟩
              clear hb hT7 la5 c7 l7 p0 p1 p2 p3 p4 p5 p6
              have p0 := A7.out.cell 0
              have p1 := A7.out.cell 1
              have p2 := A7.out.cell 2
              have p3 := A7.out.cell 3
              have p4 := A7.out.cell 4
              have p5 := A7.out.cell 5
              have p6 := A7.out.cell 6
              simp only [List.getElem?_cons_zero, List.getElem?_cons_succ] at p0 p1 p2 p3 p4 p5 p6
              have la7 := A7.out.lt
              have c7 := W7.out.1.cell 0
              have l7 := W7.out.1.lt
              have e7 := X7.out.cell 0
              have f7 := X7.out.frozen 0
              have l8 := X7.out.lt
              simp only [List.getElem?_cons_zero] at c7 e7
              go_wp2_with fail
              have A8 : Hid (Row (w7.setCell ⟨gx, 0, none⟩ (.slice xa xn xc)) ga 32 [.int .i64 n, .string r.lo, .string r.hi, .string r.acs, .string r.low, .string r.high, .int .i64 r.mode]) := Lib.hid (A7.out.far (p := ⟨gx, 0, none⟩) (by show ga ≠ gx; omega) _)
              have X8 : Hid (Row (w7.setCell ⟨gx, 0, none⟩ (.slice xa xn xc)) gx 27 [.slice xa xn xc]) := Lib.hid (X7.out.set 0 _)
              have T8 : Hid (TBL (w7.setCell ⟨gx, 0, none⟩ (.slice xa xn xc)) (.slice xa xn xc) X) := Lib.hid (T7.out.store X7.out)
              have W8 : Hid (Row (w7.setCell ⟨gx, 0, none⟩ (.slice xa xn xc)) tb 27 [.slice sa sn sc] ∧ TBL (w7.setCell ⟨gx, 0, none⟩ (.slice xa xn xc)) (.slice sa sn sc) T ∧ RTB 0 (w7.setCell ⟨gx, 0, none⟩ (.slice xa xn xc)) (.slice la ln lc) T ∧ Below b w (w7.setCell ⟨gx, 0, none⟩ (.slice xa xn xc))) := Lib.hid ⟨W7.out.1.far (p := ⟨gx, 0, none⟩) (by show tb ≠ gx; omega) _, W7.out.2.1.store X7.out, W7.out.2.2.1.store X7.out, W7.out.2.2.2.setCell (p := ⟨gx, 0, none⟩) (by show b ≤ gx; omega) _⟩
              generalize w7.setCell ⟨gx, 0, none⟩ (.slice xa xn xc) = w8 at A8 X8 T8 W8 ⊢
              refine (HRC.out _ _ W8.out.2.2.1).mono ?_
              rintro e w9 ⟨hb, q9, rfl, hQ9⟩
              obtain ⟨qa, qn, qc, rfl⟩ : ∃ a n c, q9 = Value.slice a n c := (by obtain ⟨a, c, h⟩ := RTB.slice hQ9; exact ⟨a, _, c, h⟩)
              have Q9 := Lib.hid hQ9
              have X9 := Lib.hid (X8.out.below hb X8.out.lt)
              have T9 := Lib.hid (T8.out.below hb)
              have W9 : Hid (Row w9 tb 27 [.slice sa sn sc] ∧ TBL w9 (.slice sa sn sc) T ∧ RTB 0 w9 (.slice la ln lc) T ∧ Below b w w9) := Lib.hid ⟨W8.out.1.below hb W8.out.1.lt, W8.out.2.1.below hb, W8.out.2.2.1.below hb, W8.out.2.2.2.trans (hb.mono (by have := X8.out.lt; omega))⟩
              clear hb hQ9
              clear p0 p1 p2 p3 p4 p5 p6 la7 c7 l7 e7 f7 l8
              have c7 := W9.out.1.cell 0
              have l7 := W9.out.1.lt
              have e7 := X9.out.cell 0
              have l8 := X9.out.lt
              simp only [List.getElem?_cons_zero] at c7 e7
              have HI1 := Lib.hid (fun W h1 h2 => IsTab_any X HXW.out.2.2 (.slice xa xn xc) (.slice qa qn qc) W h1 h2)
              have HI2 := Lib.hid (fun W h1 h2 => IsTab_any T HT.out.2.2 (.slice sa sn sc) (.slice la ln lc) W h1 h2)
              go_wp2_with fail
              refine (HI1.out _ T9.out Q9.out).mono ?_
              rintro e w10 ⟨rfl, hb⟩
              have Q10 := Lib.hid (Q9.out.below hb)
              have X10 := Lib.hid (X9.out.below hb X9.out.lt)
              have T10 := Lib.hid (T9.out.below hb)
              have W10 : Hid (Row w10 tb 27 [.slice sa sn sc] ∧ TBL w10 (.slice sa sn sc) T ∧ RTB 0 w10 (.slice la ln lc) T ∧ Below b w w10) := Lib.hid ⟨W9.out.1.below hb W9.out.1.lt, W9.out.2.1.below hb, W9.out.2.2.1.below hb, W9.out.2.2.2.trans (hb.mono (by have := X9.out.lt; omega))⟩
              clear hb c7 l7 e7 l8
              have c7 := W10.out.1.cell 0
              have l7 := W10.out.1.lt
              simp only [List.getElem?_cons_zero] at c7
              go_wp2_with fail
              refine (HI2.out _ W10.out.2.1 W10.out.2.2.1).mono ?_
              rintro e w11 ⟨rfl, hb⟩
              have Q11 := Lib.hid (Q10.out.below hb)
              have X11 := Lib.hid (X10.out.below hb X10.out.lt)
              have T11 := Lib.hid (T10.out.below hb)
              have W11 : Hid (Row w11 tb 27 [.slice sa sn sc] ∧ TBL w11 (.slice sa sn sc) T ∧ RTB 0 w11 (.slice la ln lc) T ∧ Below b w w11) := Lib.hid ⟨W10.out.1.below hb W10.out.1.lt, W10.out.2.1.below hb, W10.out.2.2.1.below hb, W10.out.2.2.2.trans (hb.mono (by have := X10.out.lt; omega))⟩
              clear hb c7 l7
              by_cases hE0 : E = 0
              · subst hE0
                have c7 := W11.out.1.cell 0
                have l7 := W11.out.1.lt
                have f7 := W11.out.1.frozen 0
                have e7 := X11.out.cell 0
                have l8 := X11.out.lt
                simp only [List.getElem?_cons_zero] at c7 e7
                go_wp2_with fail
                go_roundw
                case rel => exact ⟨j + 1, X, .slice xa xn xc, by omega, by go_num, HXW, Lib.hid ⟨W11.out.1.set 0 _, T11.out.store W11.out.1, Q11.out.store W11.out.1, W11.out.2.2.2.setCell (p := ⟨tb, 0, none⟩) (by show b ≤ tb; omega) _⟩⟩
                case measure => simp [intOf]; omega
              · have hEb : ((E == 0) : Bool) = false := by rw [beq_eq_false_iff_ne]; exact hE0
                go_wp2_with fail
                go_roundw
                case rel => exact ⟨j + 1, T, .slice sa sn sc, by omega, by go_num, HT, W11⟩
                case measure => simp [intOf]; omega
        · have hltI : ¬ (j : Int) < (L.length : Int) := by omega
          have HFP := Lib.hid (fun c (hc : c.size ≤ 9223372036854775807) s W h => FindL_any T HT.out.2.1 HT.out.2.2 c hc s W h)
          have HFR := Lib.hid (fun c (hc : c.size ≤ 9223372036854775807) s W h => refFindL_any T HT.out.1 HT.out.2.1 HT.out.2.2 c hc s W h)
          go_wp2_with fail
          go_loopw [113] (fun i wr2 => ∃ k : Nat, k ≤ C.length ∧ i = .int .i64 k ∧ Hid (Row wr2 tb 27 [.slice sa sn sc] ∧ TBL wr2 (.slice sa sn sc) T ∧ RTB 0 wr2 (.slice la ln lc) T ∧ Below b w wr2)) (fun i _ => C.length - (intOf i).toNat)
          case atStart => exact ⟨0, Nat.zero_le _, rfl, HW⟩
          case round =>
            obtain ⟨k, hk, rfl, HV⟩ := hrel
            by_cases hkl : k < C.length
            · have hklI : (k : Int) < (C.length : Int) := by omega
              obtain ⟨rfl, hcb, hcc⟩ := HC.out _ HV.out.2.2.2 k hkl
              have hcs : (C.getD k ByteArray.empty).size ≤ 9223372036854775807 := by
                rw [List.getD_eq_getElem?_getD, List.getElem?_eq_getElem hkl]
                exact HM1.out _ (List.getElem_mem hkl)
              obtain ⟨c, hc⟩ : ∃ c, C.getD k ByteArray.empty = c := ⟨_, rfl⟩
              rw [hc] at hcc hcs
              clear hc
              have HP := Lib.hid (fun s W h => HFP.out c hcs s W h)
              have HR := Lib.hid (fun s W h => HFR.out c hcs s W h)
              clear hcs
              have c7 := HV.out.1.cell 0
              have l7 := HV.out.1.lt
              simp only [List.getElem?_cons_zero] at c7
              go_wp2_with fail
              refine (HP.out _ _ HV.out.2.1).mono ?_
              rintro e w5 ⟨hb5, rfl⟩
              have V5 : Hid (Row w5 tb 27 [.slice sa sn sc] ∧ TBL w5 (.slice sa sn sc) T ∧ RTB 0 w5 (.slice la ln lc) T ∧ Below b w w5) := Lib.hid ⟨HV.out.1.below hb5 HV.out.1.lt, HV.out.2.1.below hb5, HV.out.2.2.1.below hb5, HV.out.2.2.2.trans (hb5.mono (by omega))⟩
              clear hb5 c7 hcc hcb
              have l5 : tb < w5.heap.size := V5.out.1.lt
              obtain ⟨g15, hg15⟩ : ∃ q, w5.heap.size = q := ⟨_, rfl⟩
              have HG15 := Lib.hid hg15
              obtain ⟨fo, hfo⟩ : ∃ q, findL T c = q := ⟨_, rfl⟩
              have HFO := Lib.hid hfo
              rw [hfo]
              clear hfo
              cases fo with
              | some x =>
                have R6 : Hid (Row (w5.alloc (.cells #[.string x.lo, .string x.hi, .string x.acs, .string x.low, .string x.high, .int .i64 x.mode] 30)) g15 30 x.cells) := Lib.hid (by rw [← hg15]; exact Row.self w5 _ _)
                have V6 : Hid (Row (w5.alloc (.cells #[.string x.lo, .string x.hi, .string x.acs, .string x.low, .string x.high, .int .i64 x.mode] 30)) tb 27 [.slice sa sn sc] ∧ TBL (w5.alloc (.cells #[.string x.lo, .string x.hi, .string x.acs, .string x.low, .string x.high, .int .i64 x.mode] 30)) (.slice sa sn sc) T ∧ RTB 0 (w5.alloc (.cells #[.string x.lo, .string x.hi, .string x.acs, .string x.low, .string x.high, .int .i64 x.mode] 30)) (.slice la ln lc) T ∧ Below b w (w5.alloc (.cells #[.string x.lo, .string x.hi, .string x.acs, .string x.low, .string x.high, .int .i64 x.mode] 30))) := Lib.hid ⟨V5.out.1.alloc _, V5.out.2.1.below ((Below.refl _ _).alloc (Nat.le_refl _) _), V5.out.2.2.1.below ((Below.refl _ _).alloc (Nat.le_refl _) _), V5.out.2.2.2.alloc (by omega) _⟩
                clear hg15
                simp only [Option.getD_some, Option.isSome_some, RG.cells]
                go_wp2_with fail
                rw [HG15.out]
                generalize w5.alloc (.cells #[.string x.lo, .string x.hi, .string x.acs, .string x.low, .string x.high, .int .i64 x.mode] 30) = w6 at R6 V6 ⊢
                refine (HR.out _ _ V6.out.2.2.1).mono ?_
                rintro e w7 ⟨hb7, i, rfl, hcase⟩
                have R7 := Lib.hid (R6.out.below hb7 R6.out.lt)
                have V7 : Hid (Row w7 tb 27 [.slice sa sn sc] ∧ TBL w7 (.slice sa sn sc) T ∧ RTB 0 w7 (.slice la ln lc) T ∧ Below b w w7) := Lib.hid ⟨V6.out.1.below hb7 V6.out.1.lt, V6.out.2.1.below hb7, V6.out.2.2.1.below hb7, V6.out.2.2.2.trans (hb7.mono (by have := R6.out.lt; have := V6.out.1.lt; omega))⟩
                clear hb7 l7 l5
                rcases hcase with ⟨_, hno⟩ | ⟨jj, hjj, rfl, hso⟩
                · rw [HFO.out] at hno; cases hno
                · rw [HFO.out] at hso
                  injection hso with hso
                  obtain ⟨gl, uc', hue, hgu, hur⟩ := V7.out.2.2.1.cell jj hjj
                  injection hue with hue1 hue2 hue3
                  subst hue1 hue2 hue3
                  rw [← hso] at hur
                  have HUR : Hid (∀ W', Below w7.heap.size w7 W' → W'.rangeAt gl (jj * 6) x.cells) := Lib.hid fun W' h k v hk => by rw [World.cell?_of_block (h.block gl hgu)]; exact hur k v hk
                  clear hur hso
                  have hjjI : (jj : Int) < (T.length : Int) := by omega
                  by_cases h60 : 60 < c.size
                  · have h60I : (60 : Int) < (c.size : Int) := by omega
                    go_wp2
                    try rw [Exit.noGoto_ret]
                    go_ret
                    exact ⟨rfl, by rw [HB.out]; exact V7.out.2.2.2⟩
                  · have h60I : ¬ (60 : Int) < (c.size : Int) := by omega
                    go_wp2_with fail
                    refine region_quiet_lit (fun W' => Below w7.heap.size w7 W') (by kernel_rfl) (by kernel_rfl) (below_dr (Below.refl _ _) 1) ?_
                    refine wpQuiet_yieldsR (.bool true) (Or.inl ⟨by rfl, fun W' hS => ?ya⟩) ?_
                    case ya =>
                      go_simp
                    try simp only [Act.put, List.setIfInBounds_toArray, List.set_cons_zero, List.set_cons_succ]
                    refine wpQuiet_yieldsR (.int .i64 (jj : Nat)) (Or.inl ⟨by rfl, fun W' hS => ?ya⟩) ?_
                    case ya =>
                      go_simp
                    try simp only [Act.put, List.setIfInBounds_toArray, List.set_cons_zero, List.set_cons_succ]
                    refine wpQuiet_yieldsR (.bool true) (Or.inl ⟨by rfl, fun W' hS => ?ya⟩) ?_
                    case ya =>
                      go_simp
                    try simp only [Act.put, List.setIfInBounds_toArray, List.set_cons_zero, List.set_cons_succ]
                    refine wpQuiet_yieldsR (.bool false) (Or.inl ⟨by rfl, fun W' hS => ?ya⟩) ?_
                    case ya =>
                      go_simp
                    try simp only [Act.put, List.setIfInBounds_toArray, List.set_cons_zero, List.set_cons_succ]
                    refine wpQuiet_yieldsR (.bool false) (Or.inl ⟨by rfl, fun W' hS => ?ya⟩) ?_
                    case ya =>
                      go_simp
                    try simp only [Act.put, List.setIfInBounds_toArray, List.set_cons_zero, List.set_cons_succ]
                    refine wpQuiet_yieldsR (.bool true) (Or.inl ⟨by rfl, fun W' hS => ?ya⟩) ?_
                    case ya =>
                      go_simp
                    try simp only [Act.put, List.setIfInBounds_toArray, List.set_cons_zero, List.set_cons_succ]
                    refine wpQuiet_yieldsR (.bool true) (Or.inl ⟨by rfl, fun W' hS => ?ya⟩) ?_
                    case ya =>
                      go_simp
                    try simp only [Act.put, List.setIfInBounds_toArray, List.set_cons_zero, List.set_cons_succ]
                    refine wpQuiet_yieldsR (.agg #[.string x.lo, .string x.hi, .string x.acs, .string x.low, .string x.high, .int .i64 x.mode]) (yieldsIf_load_mid (by rfl) 30 (.tmp 15) rfl g15 0 rfl x.cells _ (fun W' h => fun k v hk => by rw [Nat.zero_add]; exact ((R7.out.below h R7.out.lt).cell k).trans hk) Tryz.underlying30 rfl (by kernel_rfl)) ?_
                    try simp only [Act.put, List.setIfInBounds_toArray, List.set_cons_zero, List.set_cons_succ]
                    refine wpQuiet_yieldsR (.slice (some ⟨gl, 0, none⟩) T.length lc) (Or.inl ⟨by rfl, fun W' hS => ?ya⟩) ?_
                    case ya =>
                      go_simp
                    try simp only [Act.put, List.setIfInBounds_toArray, List.set_cons_zero, List.set_cons_succ]
                    refine wpQuiet_yieldsR (.int .i64 (jj : Nat)) (Or.inl ⟨by rfl, fun W' hS => ?ya⟩) ?_
                    case ya =>
                      go_simp
                    try simp only [Act.put, List.setIfInBounds_toArray, List.set_cons_zero, List.set_cons_succ]
                    refine wpQuiet_yieldsR (.pointer (some ⟨gl, jj * 6, none⟩)) (Or.inl ⟨by rfl, fun W' hS => ?ya⟩) ?_
                    case ya =>
                      go_simp
                    try simp only [Act.put, List.setIfInBounds_toArray, List.set_cons_zero, List.set_cons_succ]
                    refine wpQuiet_yieldsR (.agg #[.string x.lo, .string x.hi, .string x.acs, .string x.low, .string x.high, .int .i64 x.mode]) (yieldsIf_load_mid (by rfl) 41 (.tmp 139) rfl gl (jj * 6) rfl x.cells _ (fun W' h => HUR.out W' h) Tryz.underlying41 rfl (by kernel_rfl)) ?_
                    try simp only [Act.put, List.setIfInBounds_toArray, List.set_cons_zero, List.set_cons_succ]
                    refine wpQuiet_yieldsR (.bool false) (Or.inl ⟨by rfl, fun W' hS => ?ya⟩) ?_
                    case ya =>
                      have hn := rreq_neq x x W'
                      rw [decide_eq_true rfl] at hn
                      go_simp
                    try simp only [Act.put, List.setIfInBounds_toArray, List.set_cons_zero, List.set_cons_succ]
                    refine wpQuiet_yieldsR (.bool false) (Or.inl ⟨by rfl, fun W' hS => ?ya⟩) ?_
                    case ya =>
                      go_simp
                    try simp only [Act.put, List.setIfInBounds_toArray, List.set_cons_zero, List.set_cons_succ]
                    refine wpQuiet_yieldsR (.bool false) (Or.inl ⟨by rfl, fun W' hS => ?ya⟩) ?_
                    case ya =>
                      go_simp
                    try simp only [Act.put, List.setIfInBounds_toArray, List.set_cons_zero, List.set_cons_succ]
                    refine wpQuiet_yieldsR (.bool false) (Or.inl ⟨by rfl, fun W' hS => ?ya⟩) ?_
                    case ya =>
                      go_simp
                    try simp only [Act.put, List.setIfInBounds_toArray, List.set_cons_zero, List.set_cons_succ]
                    refine wpQuiet_yieldsR (.bool true) (Or.inl ⟨by rfl, fun W' hS => ?ya⟩) ?_
                    case ya =>
                      go_simp
                    try simp only [Act.put, List.setIfInBounds_toArray, List.set_cons_zero, List.set_cons_succ]
                    refine wpQuiet_yieldsR (.bool false) (Or.inl ⟨by rfl, fun W' hS => ?ya⟩) ?_
                    case ya =>
                      go_simp
                    try simp only [Act.put, List.setIfInBounds_toArray, List.set_cons_zero, List.set_cons_succ]
                    refine wpQuiet_yieldsR (.bool false) (Or.inl ⟨by rfl, fun W' hS => ?ya⟩) ?_
                    case ya =>
                      go_simp
                    try simp only [Act.put, List.setIfInBounds_toArray, List.set_cons_zero, List.set_cons_succ]
                    go_big_quiet_skip
                    go_big_quiet_skip
                    go_big_quiet_skip
                    refine wpQuiet_yieldsR (.bool false) (Or.inl ⟨by rfl, fun W' hS => ?ya⟩) ?_
                    case ya =>
                      go_simp
                    try simp only [Act.put, List.setIfInBounds_toArray, List.set_cons_zero, List.set_cons_succ]
                    refine wpQuiet_yieldsR (.bool false) (Or.inl ⟨by rfl, fun W' hS => ?ya⟩) ?_
                    case ya =>
                      go_simp
                    try simp only [Act.put, List.setIfInBounds_toArray, List.set_cons_zero, List.set_cons_succ]
                    refine wpQuiet_nil ?_
                    intro w8 hw8
                    have V8 : Hid (Row w8 tb 27 [.slice sa sn sc] ∧ TBL w8 (.slice sa sn sc) T ∧ RTB 0 w8 (.slice (some ⟨gl, 0, none⟩) T.length lc) T ∧ Below b w w8) := Lib.hid ⟨V7.out.1.below hw8 V7.out.1.lt, V7.out.2.1.below hw8, V7.out.2.2.1.below hw8, V7.out.2.2.2.trans (hw8.mono (by have := R7.out.lt; have := V7.out.1.lt; omega))⟩
                    clear hw8
                    go_wp2_with fail
                    go_roundw
                    case rel => exact ⟨k + 1, by omega, by go_num, V8⟩
                    case measure => simp [intOf]; omega
              | none =>
                have R6 : Hid (Row (w5.alloc (.cells #[.string ⟨#[]⟩, .string ⟨#[]⟩, .string ⟨#[]⟩, .string ⟨#[]⟩, .string ⟨#[]⟩, .int .i64 0] 30)) g15 30 zRG.cells) := Lib.hid (by rw [← hg15]; exact Row.self w5 _ _)
                have V6 : Hid (Row (w5.alloc (.cells #[.string ⟨#[]⟩, .string ⟨#[]⟩, .string ⟨#[]⟩, .string ⟨#[]⟩, .string ⟨#[]⟩, .int .i64 0] 30)) tb 27 [.slice sa sn sc] ∧ TBL (w5.alloc (.cells #[.string ⟨#[]⟩, .string ⟨#[]⟩, .string ⟨#[]⟩, .string ⟨#[]⟩, .string ⟨#[]⟩, .int .i64 0] 30)) (.slice sa sn sc) T ∧ RTB 0 (w5.alloc (.cells #[.string ⟨#[]⟩, .string ⟨#[]⟩, .string ⟨#[]⟩, .string ⟨#[]⟩, .string ⟨#[]⟩, .int .i64 0] 30)) (.slice la ln lc) T ∧ Below b w (w5.alloc (.cells #[.string ⟨#[]⟩, .string ⟨#[]⟩, .string ⟨#[]⟩, .string ⟨#[]⟩, .string ⟨#[]⟩, .int .i64 0] 30))) := Lib.hid ⟨V5.out.1.alloc _, V5.out.2.1.below ((Below.refl _ _).alloc (Nat.le_refl _) _), V5.out.2.2.1.below ((Below.refl _ _).alloc (Nat.le_refl _) _), V5.out.2.2.2.alloc (by omega) _⟩
                clear hg15
                simp only [Option.getD_none, Option.isSome_none, RG.cells, zRG]
                go_wp2_with fail
                rw [HG15.out]
                generalize w5.alloc (.cells #[.string ⟨#[]⟩, .string ⟨#[]⟩, .string ⟨#[]⟩, .string ⟨#[]⟩, .string ⟨#[]⟩, .int .i64 0] 30) = w6 at R6 V6 ⊢
                refine (HR.out _ _ V6.out.2.2.1).mono ?_
                rintro e w7 ⟨hb7, i, rfl, hcase⟩
                have R7 := Lib.hid (R6.out.below hb7 R6.out.lt)
                have V7 : Hid (Row w7 tb 27 [.slice sa sn sc] ∧ TBL w7 (.slice sa sn sc) T ∧ RTB 0 w7 (.slice la ln lc) T ∧ Below b w w7) := Lib.hid ⟨V6.out.1.below hb7 V6.out.1.lt, V6.out.2.1.below hb7, V6.out.2.2.1.below hb7, V6.out.2.2.2.trans (hb7.mono (by have := R6.out.lt; have := V6.out.1.lt; omega))⟩
                clear hb7 l7 l5
                rcases hcase with ⟨rfl, _⟩ | ⟨jj, hjj, _, hso⟩
                · by_cases h60 : 60 < c.size
                  · have h60I : (60 : Int) < (c.size : Int) := by omega
                    go_wp2
                    try rw [Exit.noGoto_ret]
                    go_ret
                    exact ⟨rfl, by rw [HB.out]; exact V7.out.2.2.2⟩
                  · have h60I : ¬ (60 : Int) < (c.size : Int) := by omega
                    go_wp2_with fail
                    refine region_quiet_lit (fun W' => Below w7.heap.size w7 W') (by kernel_rfl) (by kernel_rfl) (below_dr (Below.refl _ _) 1) ?_
                    refine wpQuiet_yieldsR (.bool false) (Or.inl ⟨by rfl, fun W' hS => ?ya⟩) ?_
                    case ya =>
                      go_simp
                    try simp only [Act.put, List.setIfInBounds_toArray, List.set_cons_zero, List.set_cons_succ]
                    refine wpQuiet_yieldsR (.int .i64 (-1)) (Or.inl ⟨by rfl, fun W' hS => ?ya⟩) ?_
                    case ya =>
                      go_simp
                    try simp only [Act.put, List.setIfInBounds_toArray, List.set_cons_zero, List.set_cons_succ]
                    refine wpQuiet_yieldsR (.bool false) (Or.inl ⟨by rfl, fun W' hS => ?ya⟩) ?_
                    case ya =>
                      go_simp
                    try simp only [Act.put, List.setIfInBounds_toArray, List.set_cons_zero, List.set_cons_succ]
                    refine wpQuiet_yieldsR (.bool false) (Or.inl ⟨by rfl, fun W' hS => ?ya⟩) ?_
                    case ya =>
                      go_simp
                    try simp only [Act.put, List.setIfInBounds_toArray, List.set_cons_zero, List.set_cons_succ]
                    refine wpQuiet_yieldsR (.bool false) (Or.inl ⟨by rfl, fun W' hS => ?ya⟩) ?_
                    case ya =>
                      go_simp
                    try simp only [Act.put, List.setIfInBounds_toArray, List.set_cons_zero, List.set_cons_succ]
                    refine wpQuiet_yieldsR (.bool false) (Or.inl ⟨by rfl, fun W' hS => ?ya⟩) ?_
                    case ya =>
                      go_simp
                    try simp only [Act.put, List.setIfInBounds_toArray, List.set_cons_zero, List.set_cons_succ]
                    refine wpQuiet_yieldsR (.bool false) (Or.inl ⟨by rfl, fun W' hS => ?ya⟩) ?_
                    case ya =>
                      go_simp
                    try simp only [Act.put, List.setIfInBounds_toArray, List.set_cons_zero, List.set_cons_succ]
                    go_big_quiet_skip
                    go_big_quiet_skip
                    go_big_quiet_skip
                    go_big_quiet_skip
                    go_big_quiet_skip
                    go_big_quiet_skip
                    refine wpQuiet_yieldsR (.bool false) (Or.inl ⟨by rfl, fun W' hS => ?ya⟩) ?_
                    case ya =>
                      go_simp
                    try simp only [Act.put, List.setIfInBounds_toArray, List.set_cons_zero, List.set_cons_succ]
                    refine wpQuiet_yieldsR (.bool false) (Or.inl ⟨by rfl, fun W' hS => ?ya⟩) ?_
                    case ya =>
                      go_simp
                    try simp only [Act.put, List.setIfInBounds_toArray, List.set_cons_zero, List.set_cons_succ]
                    refine wpQuiet_yieldsR (.bool false) (Or.inl ⟨by rfl, fun W' hS => ?ya⟩) ?_
                    case ya =>
                      go_simp
                    try simp only [Act.put, List.setIfInBounds_toArray, List.set_cons_zero, List.set_cons_succ]
                    refine wpQuiet_yieldsR (.bool false) (Or.inl ⟨by rfl, fun W' hS => ?ya⟩) ?_
                    case ya =>
                      go_simp
                    try simp only [Act.put, List.setIfInBounds_toArray, List.set_cons_zero, List.set_cons_succ]
                    refine wpQuiet_yieldsR (.bool true) (Or.inl ⟨by rfl, fun W' hS => ?ya⟩) ?_
                    case ya =>
                      go_simp
                    try simp only [Act.put, List.setIfInBounds_toArray, List.set_cons_zero, List.set_cons_succ]
                    refine wpQuiet_yieldsR (.bool true) (Or.inl ⟨by rfl, fun W' hS => ?ya⟩) ?_
                    case ya =>
                      go_simp
                    try simp only [Act.put, List.setIfInBounds_toArray, List.set_cons_zero, List.set_cons_succ]
                    refine wpQuiet_yieldsR (.agg #[.string ⟨#[]⟩, .string ⟨#[]⟩, .string ⟨#[]⟩, .string ⟨#[]⟩, .string ⟨#[]⟩, .int .i64 0]) (yieldsIf_load_mid (by rfl) 30 (.tmp 15) rfl g15 0 rfl zRG.cells _ (fun W' h => fun k v hk => by rw [Nat.zero_add]; exact ((R7.out.below h R7.out.lt).cell k).trans hk) Tryz.underlying30 rfl (by kernel_rfl)) ?_
                    try simp only [Act.put, List.setIfInBounds_toArray, List.set_cons_zero, List.set_cons_succ]
                    refine wpQuiet_yieldsR (.agg #[.string ⟨#[]⟩, .string ⟨#[]⟩, .string ⟨#[]⟩, .string ⟨#[]⟩, .string ⟨#[]⟩, .int .i64 0]) (Or.inl ⟨by rfl, fun W' hS => ?ya⟩) ?_
                    case ya =>
                      go_simp
                    try simp only [Act.put, List.setIfInBounds_toArray, List.set_cons_zero, List.set_cons_succ]
                    refine wpQuiet_yieldsR (.bool false) (Or.inl ⟨by rfl, fun W' hS => ?ya⟩) ?_
                    case ya =>
                      have hn := req_neq zRG zRG W'
                      rw [decide_eq_true rfl] at hn
                      unfold zRG at hn
                      go_simp
                    try simp only [Act.put, List.setIfInBounds_toArray, List.set_cons_zero, List.set_cons_succ]
                    refine wpQuiet_yieldsR (.bool false) (Or.inl ⟨by rfl, fun W' hS => ?ya⟩) ?_
                    case ya =>
                      go_simp
                    try simp only [Act.put, List.setIfInBounds_toArray, List.set_cons_zero, List.set_cons_succ]
                    refine wpQuiet_yieldsR (.bool false) (Or.inl ⟨by rfl, fun W' hS => ?ya⟩) ?_
                    case ya =>
                      go_simp
                    try simp only [Act.put, List.setIfInBounds_toArray, List.set_cons_zero, List.set_cons_succ]
                    refine wpQuiet_nil ?_
                    intro w8 hw8
                    have V8 : Hid (Row w8 tb 27 [.slice sa sn sc] ∧ TBL w8 (.slice sa sn sc) T ∧ RTB 0 w8 (.slice la ln lc) T ∧ Below b w w8) := Lib.hid ⟨V7.out.1.below hw8 V7.out.1.lt, V7.out.2.1.below hw8, V7.out.2.2.1.below hw8, V7.out.2.2.2.trans (hw8.mono (by have := R7.out.lt; have := V7.out.1.lt; omega))⟩
                    clear hw8
                    go_wp2_with fail
                    go_roundw
                    case rel => exact ⟨k + 1, by omega, by go_num, V8⟩
                    case measure => simp [intOf]; omega
                · rw [HFO.out] at hso; cases hso
            · have hklI : ¬ (k : Int) < (C.length : Int) := by omega
              go_wp2
              go_ret
              exact ⟨rfl, by first | exact HV.out.2.2.2 | (rw [HB.out]; exact HV.out.2.2.2)⟩
end Go.Proofs.YtldjnegoefdadaaGreatDoor

namespace Go.Proofs.YtldjnegoefdadaaGreatDoor.rangesTurn
open Go.ChangeShapes Go.WideShapes Go.ChangeAt Go.RowKit
open Go.ChangeMaps (open_string shut_string)
set_option linter.unusedVariables false

theorem own : ownKnob Tryz.prog.godebug = none := by kernel_rfl
theorem laidOut : laidOutB Tryz.prog = true := by kernel_rfl

set_option maxRecDepth 100000 in
set_option maxHeartbeats 4000000 in
theorem lifted (os : Os) (started : os.Started) (H : Type) (enc : TypeId × Value → H) :
    ReturnsInHanded {} Tryz.checked os 3 .any (fun w args => (Rows.rangesTurnSpec.pre enc Tryz.prog Tryz.f3 Rows.rangesTurnRow.domain false w args ∧ laidMetH Tryz.prog Rows.rangesTurnRow.laid w) ∧ sizedMet enc Tryz.prog Tryz.f3 (OpenSpec.ofChange Rows.rangesTurnSpec) false w args) (Rows.rangesTurnSpec.post enc Tryz.prog Tryz.f3 false true false false) := by
  refine returns_shaped_and (C := Tryz.checked) (X := fun w _ => laidMetH Tryz.prog Rows.rangesTurnRow.laid w) (fun _ _ _ hh h => h.of_heap hh) own started (by kernel_rfl) Tryz.func3
    (ChangeSpec.witness_shaped (enc := enc) (C := Tryz.checked) (os := os) (X := fun w _ => laidMetH Tryz.prog Rows.rangesTurnRow.laid w) false (World.laidAll Tryz.prog os Rows.rangesTurnRow.laid) #[.slice none 0 0, .slice none 0 0] 8 (World.laidAll_os _ _ _) (World.shaped_of_ZipB (by kernel_rfl) (by kernel_rfl)) (by kernel_rfl) (by kernel_rfl) (by kernel_rfl) (by rw [MakeChecks.laidMetH_plain _ _ _ (by kernel_rfl)]; exact laidMet_laidAll _ (by kernel_rfl) (by kernel_rfl))) ?_
  intro W base args ds gs before hval0 hW hcnd hsz0 hX1 hX2
  have hsz : (DataW.weightsEach Tryz.prog (Tryz.f3.params.toList ++ Rows.rangesTurnSpec.plain.varTypes Tryz.prog) (ds ++ gs)).all (· ≤ reachBytes) = true := hsz0
  have hval : ∀ (j : Nat) t v, Tryz.f3.params[j]? = some t → args[j]? = some v → Value.okWide Tryz.prog W .any base t v := hval0
  have hW' := hW
  obtain ⟨p, q, hA0, hV, rfl, hfz, hnd⟩ := hW
  have hA : DataW.TrodAll enc Tryz.prog W 0 (fun _ => true) true Tryz.f3.params.toList args.toList ds p := hA0
  rw [Tryz.params3] at hA hval hsz
  obtain ⟨v0, vs0, d0, ds0, p0, q0, hargs, rfl, rfl, h0, r0⟩ := trodAll_cons hA
  obtain ⟨v1, vs1, d1, ds1, p1, q1, rfl, rfl, rfl, h1, r1⟩ := trodAll_cons r0
  obtain ⟨rfl, rfl, rfl⟩ := trodAll_nil r1
  obtain rfl : args = #[v0, v1] := by cases args; simp_all
  obtain ⟨rfl, rfl⟩ := trodVars_none hV
  obtain ⟨x0, len0, cap0, rfl⟩ := okWide_slice Tryz.underlying22 (hval 0 22 v0 rfl rfl)
  have k0 := h0
  have lt0 : ∀ x ∈ p0, x.block < W.heap.size := by obtain ⟨m, hm⟩ := k0; exact DataW.trod_lt m _ _ _ hm
  obtain ⟨l0, w0, m0, n0⟩ : ∃ l, InA W (.slice x0 len0 cap0) l ∧ (∀ r ∈ l, r.wf) ∧ l.length ≤ 9223372036854775807 := by
    obtain ⟨fuel, hf⟩ := h0
    exact acts18_open hf
  obtain ⟨x1, len1, cap1, rfl⟩ := okWide_slice Tryz.underlying23 (hval 1 23 v1 rfl rfl)
  have k1 := h1
  have lt1 : ∀ x ∈ p1, x.block < W.heap.size := by obtain ⟨m, hm⟩ := k1; exact DataW.trod_lt m _ _ _ hm
  obtain ⟨l1, w1, n1, m1⟩ : ∃ l, Strs W (.slice x1 len1 cap1) l ∧ l.length ≤ 9223372036854775807 ∧ ∀ c ∈ l, c.size ≤ 9223372036854775807 := by
    obtain ⟨fuel, hf⟩ := h1
    exact strs_open_m hf
  clear hA0 hval0 hsz hsz0
  simp only [List.append_nil] at hW'
  refine (RangesTurn_walk (.slice x0 len0 cap0) l0 (.slice x1 len1 cap1) l1 W w0 n0 m0 w1 n1 m1 (VG_of_laidV hX1 hX2) (NV_of_laidV hX1)).mono fun e W' ⟨he, bel⟩ => ?_
  subst he
  exact ⟨_, rfl, _, _, _, [], _, [], hW', trodAll_mk1 (shut_bool Tryz.underlying4 _), (trodAll_cons_mk (Below.trod laidOut (by kernel_rfl) (of_decide_eq_true (by kernel_rfl)) k0 bel lt0) (trodAll_cons_mk (Below.trod laidOut (by kernel_rfl) (of_decide_eq_true (by kernel_rfl)) k1 bel lt1) trodAll_mk0)), rfl, bel.frame _, fun h => by cases h⟩

set_option maxRecDepth 100000 in
set_option maxHeartbeats 4000000 in
theorem closed : joinedFacts Tryz.prog 3 Tryz.f3 Rows.rangesTurnSpec Rows.rangesTurnRow = true := by
  unfold joinedFacts
  simp only [Bool.and_eq_true]
  repeat' apply And.intro
  all_goals as_aux_lemma => kernel_rfl

set_option maxHeartbeats 4000000 in
theorem over : Rows.rangesTurnRow.holds Tryz.pinned (OpenSpec.ofChange Rows.rangesTurnSpec) :=
  OpenClaim.holds_of_wide 3 Tryz.f3 rfl rfl rfl rfl rfl rfl rfl ⟨rfl, rfl, rfl, rfl, rfl⟩ rfl rfl rfl rfl rfl (by kernel_rfl) Tryz.func3 closed
    (of_decide_eq_true (by kernel_rfl)) (by unfold Func.isWrapper; first | (rw [if_pos (by decide +kernel)]; kernel_rfl) | (rw [if_neg (by decide +kernel)]; exact ⟨rfl, rfl⟩))
    (fun os started H enc _ => lifted os started H enc)

set_option maxHeartbeats 4000000 in
theorem proved : Rows.RangesTurnCardSaid :=
  Claim7.holds_tied_plain_at .later [] [.data, .data, .data, .data, .sentinel, .sentinel, .data, .pinned] true (true, "f0e9430ac7bc27ea389fcc8e946ed5796767bed45d9e1916ea122cec97530ade") true
    over (fun _ h => by cases h) (by kernel_rfl) (fun _ h => by cases h) rangesTurn_row_tie rfl ⟨rfl, rfl⟩ (by kernel_rfl) rfl
    (fun f fn hf hfn => by
      obtain rfl : f = 3 := Option.some.inj ((show Tryz.prog.funcNamed "cashier/cashierlaw18.RangesTurn" = some 3 by kernel_rfl).symm.trans hf) |>.symm
      obtain rfl : fn = Tryz.f3 := (Option.some.inj (Tryz.func3.symm.trans hfn)).symm
      exact ⟨by kernel_rfl, fun j t ht => by
        rw [Tryz.params3] at ht
        have hm : t ∈ [22, 23] := by simpa using Array.mem_of_getElem? ht
        have hall : ([22, 23].all fun u => !Tryz.prog.wantsStandIn u) = true := by kernel_rfl
        exact (show Tryz.prog.wantsStandIn t = false by simpa using List.all_eq_true.1 hall t hm)⟩)
    (by kernel_rfl)

end Go.Proofs.YtldjnegoefdadaaGreatDoor.rangesTurn
