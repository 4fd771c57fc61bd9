/- The statement of LogFrames: whatever comes in, the law answers true, and what came in reads as it did. (In one text with what it leans on: RSum, RText, Cref, LRef, LFRef, QMem, QSmall, QRead, QWrite, KSettle, QSync, QCrash, KActs2, QPair, QDo, QSame, LogFramesW, LogFrames.) -/
import Derived.OwnWalk
import Derived.Deep.OwnRows
import Derived.Deep.RegionHeld3
import Derived.SizedLaws
import Derived.WalkKit
import Derived.ProofKit
import Derived.OpenShut
import Derived.ShutString
import Derived.LaidMore
import Derived.Lay
import Derived.Stop.Joined
import Derived.SevenTiedAt
import Derived.Deep.DeepHandedRow
import Derived.SliceStrings
import Derived.Test.YtiaaeniopjpfpaaGreatDoorTail
import Derived.Test.YtiaaeniopjpfpaaGreatDoorLogFramesAll1
import Derived.Test.YtiaaeniopjpfpaaGreatDoorSRnd
import Derived.Test.YtiaaeniopjpfpaaGreatDoorSText
import Derived.Test.YtiaaeniopjpfpaaGreatDoorSMix
import Derived.Test.YtiaaeniopjpfpaaGreatDoorCsum
import Derived.Test.YtiaaeniopjpfpaaGreatDoorLHead
import Derived.Test.YtiaaeniopjpfpaaGreatDoorFStrs
import Derived.Test.YtiaaeniopjpfpaaGreatDoorKRead
import Derived.Test.YtiaaeniopjpfpaaGreatDoorKCrash
import Derived.Test.YtiaaeniopjpfpaaGreatDoorKFill
import Derived.Test.YtiaaeniopjpfpaaGreatDoorKActs
import Derived.Test.YtiaaeniopjpfpaaGreatDoorKLoop
import Derived.Test.YtiaaeniopjpfpaaGreatDoorKEq
import Derived.Test.YtiaaeniopjpfpaaGreatDoorRows
import Derived.Test.YtiaaeniopjpfpaaGreatDoorCards
import Derived.Test.YtiaaeniopjpfpaaGreatDoorTie
import Derived.Test.YtiaaeniopjpfpaaGreatDoorLaidL
namespace Go.Proofs.YtiaaeniopjpfpaaGreatDoor
open Go.RowKit
set_option linter.unusedVariables false
set_option linter.unusedSimpArgs false

attribute [local irreducible] mixK rnds sched add8 comp moreW firstW nextW rnd shaL bytes8 blk wpart wordPart wrow brow
set_option maxRecDepth 20000 in
set_option maxHeartbeats 40000000 in
theorem refSum_any (s : ByteArray) (hs : s.size ≤ 100000) (w : World) :
    Calls Tryz.prog 123 #[.string s] w fun e w' => e = .returned (sumV (shaL s.data.toList)) ∧ Below w.heap.size w w' := by
  obtain ⟨i0, hi0, hz0, hz1, hz2⟩ := info_parts w_info3
  have HI := Lib.hid (And.intro hi0 (And.intro hz0 (And.intro hz1 hz2)))
  clear hi0 hz0 hz1 hz2
  obtain ⟨P, hP⟩ : ∃ P, padB s = P := ⟨_, rfl⟩
  obtain ⟨L, hL⟩ : ∃ L, padL s.data.toList = L := ⟨_, rfl⟩
  obtain ⟨n, hn⟩ : ∃ n, L.length / 64 = n := ⟨_, rfl⟩
  have hPL : P.data.toList = L := by rw [← hP, ← hL]; rfl
  have hsz : P.size = 64 * n := by
    have h1 := padB_size s
    rw [hP] at h1
    have h2 : P.size = L.length := by rw [← hPL]; simp
    omega
  have hbig : n ≤ 2000 := by
    have h1 := padB_size s
    rw [hP] at h1
    omega
  have HP := Lib.hid (And.intro hP (And.intro hL (And.intro hn (And.intro hPL hsz))))
  clear hL hn hPL
  go_enter Tryz.func123, Tryz.ntmps123
  go_wp2_with fail
  refine (refPad_any s hs _).mono ?_
  rintro e w1 ⟨rfl, hb1⟩
  rw [hP]
  clear hP
  have hr1 := (Row.new w 174 z32).below hb1 (by simp)
  have hb1' := ((Below.refl w.heap.size w).alloc (Nat.le_refl _) (.cells z32.toArray 174)).trans (hb1.mono (by simp))
  have hsz1 := hr1.lt
  clear hb1
  go_wp2_with fail
  refine (refK_any _).mono ?_
  rintro e w2 ⟨rfl, rfl⟩
  have hrk := Row.new w1 144 (wrow K64)
  have hr2 := hr1.alloc (.cells (wrow K64).toArray 144)
  have hb2 := hb1'.alloc hb1'.size (.cells (wrow K64).toArray 144)
  have hs2 : (w1.alloc (.cells (wrow K64).toArray 144)).heap.size = w1.heap.size + 1 := by simp
  generalize w1.alloc (.cells (wrow K64).toArray 144) = w2 at hrk hr2 hb2 hs2 ⊢
  obtain ⟨gk, hgk⟩ : ∃ g, w1.heap.size = g := ⟨_, rfl⟩
  rw [hgk] at hrk hs2 hsz1 ⊢
  clear hb1' hr1 hgk
  have hrk3 := hrk.alloc (.cells (s8l start8).toArray 144)
  have hr3 := hr2.alloc (.cells (s8l start8).toArray 144)
  have hb3 := hb2.alloc hb2.size (.cells (s8l start8).toArray 144)
  have hrh3 := Row.new w2 144 (s8l start8)
  rw [hs2] at hrh3
  have hs3 : (w2.alloc (.cells (s8l start8).toArray 144)).heap.size = gk + 2 := by simp [hs2]
  have eh0 : (h0Ints.map (Value.int .u32)).toArray = (s8l start8).toArray := by rfl
  have HS2 := Lib.hid hs2
  have HE0 := Lib.hid eh0
  clear hs2 hrk hr2 hb2 eh0
  go_wp2_with (refine wpList_buildFlatAt rfl 194 144 8 _ rfl .u32 h0Ints (gk + 1) HS2.out (some 26) rfl Tryz.underlying194 (by kernel_rfl) (by kernel_rfl) (by kernel_rfl) (by decide) (by decide) (by kernel_rfl) ?_)
  rw [HE0.out]
  generalize w2.alloc (.cells (s8l start8).toArray 144) = w3 at hrk3 hr3 hb3 hrh3 hs3 ⊢
  clear HS2 HE0
  have HW3 := Lib.hid (And.intro hrk3 (And.intro hr3 (And.intro hb3 (And.intro hrh3 hs3))))
  clear hrk3 hr3 hb3 hrh3 hs3
  go_wp2
  go_loopw [6] (fun at' wr => ∃ J : Nat, J ≤ n ∧ at' = .int .i64 ((64 * J : Nat) : Int) ∧ Row wr w.heap.size 174 z32 ∧ Row wr gk 144 (wrow K64) ∧ Row wr (gk + 1) 144 (s8l (mixK start8 L J)) ∧ Below w.heap.size w wr) (fun at' _ => 64 * n - (intOf at').toNat)
  case atStart => exact ⟨0, Nat.zero_le _, rfl, HW3.out.2.1, HW3.out.1, by rw [mixK_zero]; exact HW3.out.2.2.2.1, HW3.out.2.2.1⟩
  case round =>
    obtain ⟨J, hJ, rfl, r0, rk, rh, rb⟩ := hrel
    by_cases hlt : J < n
    · skip
      have hlt64 : 64 * J < P.size := by omega
      have HR := Lib.hid (And.intro r0 (And.intro rk (And.intro rh (And.intro rb (And.intro hJ hlt)))))
      have hkr := rk.lt
      clear r0 rk rh rb HW3 hJ
      obtain ⟨b, hb⟩ : ∃ b, blk L J = b := ⟨_, rfl⟩
      have hby : ∀ k, k < 64 → ∃ (h : 64 * J + k < P.size), b[k]? = some P[64 * J + k] := by
        intro k hk
        have hi : 64 * J + k < P.size := by omega
        refine ⟨hi, ?_⟩
        rw [← hb]
        unfold blk
        rw [List.getElem?_take_of_lt hk, List.getElem?_drop, ← HP.out.2.2.2.1, Array.getElem?_toList, Array.getElem?_eq_getElem hi]
        rfl
      have HBY := Lib.hid (And.intro hb hby)
      clear hb hby
      go_wp2_with (refine wpList_make_row _ rfl _ _ 194 rfl 144 i0 (.int .u32 0) Tryz.underlying194 HI.out.1 HI.out.2.1 HI.out.2.2.1 rfl .i64 .i64 64 rfl rfl (by rw [HI.out.2.2.2]; decide) (by decide) ?_)
      rw [made64]
      have r1 := Row.new wr 144 z64
      have q0 := HR.out.1.alloc (.cells z64.toArray 144)
      have qk := HR.out.2.1.alloc (.cells z64.toArray 144)
      have qh := HR.out.2.2.1.alloc (.cells z64.toArray 144)
      have qb := HR.out.2.2.2.1.alloc HR.out.2.2.2.1.size (.cells z64.toArray 144)
      have qB := (Below.refl wr.heap.size wr).alloc (Nat.le_refl _) (.cells z64.toArray 144)
      have hgh := HR.out.2.2.1.lt
      have hg0 := HR.out.2.2.2.1.size
      have hg1 := HR.out.1.lt
      generalize wr.alloc (.cells z64.toArray 144) = wa at r1 q0 qk qh qb qB ⊢
      obtain ⟨gw, hgw⟩ : ∃ g, wr.heap.size = g := ⟨_, rfl⟩
      rw [hgw] at r1 hkr hgh hg0 hg1 qB ⊢
      have HQ := Lib.hid (And.intro q0 (And.intro qk (And.intro qh qb)))
      have HGW := Lib.hid hgw
      clear q0 qk qh qb hgw
      go_loopw [8] (fun i wb => ∃ k : Nat, k ≤ 16 ∧ i = .int .i64 k ∧ Row wb gw 144 (wrow (firstW b k)) ∧ Below gw wa wb) (fun i _ => 16 - (intOf i).toNat)
      case atStart => exact ⟨0, Nat.zero_le _, rfl, by rw [firstW_zero]; exact r1, Below.refl _ _⟩
      case round =>
        obtain ⟨k, hk, rfl, r2, b2⟩ := hrel
        clear r1
        by_cases hlk : k < 16
        · skip
          rw [← wpart_zero b hlk] at r2
          have HB2 := Lib.hid b2
          have hs2 := b2.size
          clear b2
          go_wp2
          go_loopw [9] (fun j wc => ∃ m : Nat, m ≤ 4 ∧ j = .int .i64 m ∧ Row wc gw 144 (wpart b k m) ∧ Below gw wa wc) (fun j _ => 4 - (intOf j).toNat)
          case atStart => exact ⟨0, Nat.zero_le _, rfl, r2, HB2.out⟩
          case round =>
            obtain ⟨m, hm, rfl, r3, b3⟩ := hrel
            clear r2
            by_cases hlm : m < 4
            · obtain ⟨hi, hx⟩ := HBY.out.2 (4 * k + m) (by omega)
              obtain ⟨x, hxx⟩ : ∃ x, P[64 * J + (4 * k + m)] = x := ⟨_, rfl⟩
              rw [hxx] at hx
              have hst := wordPart_step b k m x hx
              have hc := r3.cell k
              rw [wpart_get b m hlk] at hc
              have hf := r3.frozen k
              have hs1 := fun n => (r3.drewN n).set k (.int .u32 ((wordPart b k (m + 1)).toNat : Int))
              rw [wpart_set] at hs1
              have hs3 := fun n => (below_drewN b3 n).setCell (p := ⟨gw, k, none⟩) (Nat.le_refl _) (.int .u32 ((wordPart b k (m + 1)).toNat : Int))
              have H := Lib.hid (And.intro hs1 hs3)
              obtain ⟨y, hy⟩ : ∃ y, wordPart b k m = y := ⟨_, rfl⟩
              obtain ⟨z, hz⟩ : ∃ z, wordPart b k (m + 1) = z := ⟨_, rfl⟩
              rw [hy, hz] at hst
              rw [hy] at hc
              rw [hz] at H
              obtain ⟨qi, hidx, hqi, hx2⟩ : ∃ (q : Nat) (h : q < P.size), 64 * J + 4 * k + m = q ∧ P[q] = x := ⟨64 * J + (4 * k + m), hi, by omega, hxx⟩
              have hqI : 64 * (J : Int) + 4 * (k : Int) + (m : Int) = (qi : Int) := by omega
              have hk64 : k < 64 := by omega
              clear hsz hqi hs1 hs3 hy hz hx hxx r3 b3 HB2 hs2
              go_wp2
              go_region
              go_wp2
              go_roundw
              case rel => exact ⟨m + 1, by omega, by go_num, H.out.1 _, H.out.2 _⟩
              case measure => simp [intOf]; omega
            · have hm4 : m = 4 := by omega
              have hge : 4 ≤ m := by omega
              rw [hm4, wpart_four _ hlk] at r3
              have HH := Lib.hid (And.intro r3 b3)
              clear r3 b3 HB2 hs2 hm4 hm hlm
              go_wp2
              go_roundw
              case rel => exact ⟨k + 1, by omega, by go_num, HH.out.1, HH.out.2⟩
              case measure => simp [intOf]; omega
        · have hk16 : k = 16 := by omega
          rw [hk16] at r2
          have hge : 16 ≤ k := by omega
          have hs2 := b2.size
          have HB2 := Lib.hid b2
          clear b2 hk hlk hk16
          go_wp2
          go_loopw [10] (fun i wb => ∃ j : Nat, 16 ≤ j ∧ j ≤ 64 ∧ i = .int .i64 j ∧ Row wb gw 144 (wrow (moreW (firstW b 16) (j - 16))) ∧ Below gw wa wb) (fun i _ => 64 - (intOf i).toNat)
          case atStart => exact ⟨16, Nat.le_refl _, by omega, rfl, by rw [moreW_zero]; exact r2, HB2.out⟩
          case round =>
            obtain ⟨j, hj16, hj, rfl, g1, gb⟩ := hrel
            clear r2 HB2 hs2
            by_cases hlj : j < 64
            · skip
              obtain ⟨M, hM⟩ : ∃ M, moreW (firstW b 16) (j - 16) = M := ⟨_, rfl⟩
              have hMl : M.length = j := by rw [← hM, moreW_length, firstW_length]; omega
              have hnx : moreW (firstW b 16) (j + 1 - 16) = M ++ [nextW M] := by
                rw [show j + 1 - 16 = (j - 16) + 1 by omega, moreW, hM]
              have hnw : nextW M = nextW4 (M.getD (j - 16) 0) (M.getD (j - 15) 0) (M.getD (j - 7) 0) (M.getD (j - 2) 0) := by unfold nextW; rw [hMl]
              rw [hM] at g1
              have c15 : wr.cell? ⟨gw, j - 15, none⟩ = some (.int .u32 ((M.getD (j - 15) 0).toNat : Int)) := by rw [g1.cell]; exact wrow_get (by omega)
              have c2 : wr.cell? ⟨gw, j - 2, none⟩ = some (.int .u32 ((M.getD (j - 2) 0).toNat : Int)) := by rw [g1.cell]; exact wrow_get (by omega)
              have c16 : wr.cell? ⟨gw, j - 16, none⟩ = some (.int .u32 ((M.getD (j - 16) 0).toNat : Int)) := by rw [g1.cell]; exact wrow_get (by omega)
              have c7 : wr.cell? ⟨gw, j - 7, none⟩ = some (.int .u32 ((M.getD (j - 7) 0).toNat : Int)) := by rw [g1.cell]; exact wrow_get (by omega)
              obtain ⟨v0, hc0⟩ : ∃ v, wr.cell? ⟨gw, j, none⟩ = some v := by
                rw [g1.cell]; exact wrow_some (by omega) hlj
              have hf0 := g1.frozen j
              obtain ⟨p, hp⟩ : ∃ p, M.getD (j - 16) 0 = p := ⟨_, rfl⟩
              obtain ⟨x, hx⟩ : ∃ x, M.getD (j - 15) 0 = x := ⟨_, rfl⟩
              obtain ⟨q, hq⟩ : ∃ q, M.getD (j - 7) 0 = q := ⟨_, rfl⟩
              obtain ⟨y, hy⟩ : ∃ y, M.getD (j - 2) 0 = y := ⟨_, rfl⟩
              rw [hp] at c16 hnw
              rw [hx] at c15 hnw
              rw [hq] at c7 hnw
              rw [hy] at c2 hnw
              have hs1 := fun n => (g1.drewN n).set j (.int .u32 ((nextW M).toNat : Int))
              have hws := wrow_set (l := M) (by omega) (nextW M)
              rw [hMl, ← hnx] at hws
              rw [hws] at hs1
              have hbs := fun n => (below_drewN gb n).setCell (p := ⟨gw, j, none⟩) (Nat.le_refl _) (.int .u32 ((nextW M).toNat : Int))
              rw [hnw] at hs1 hbs
              have H := Lib.hid (And.intro hs1 hbs)
              have hsx := u32_shr x 3 (by omega)
              have hsy := u32_shr y 10 (by omega)
              simp only [Int.reducePow] at hsx hsy
              have hX := u32_xor
              have hD := u32_add
              have hB15 : (j : Int) - 15 < 64 := by omega
              have hB2 : (j : Int) - 2 < 64 := by omega
              have hB16 : (j : Int) - 16 < 64 := by omega
              have hB7 : (j : Int) - 7 < 64 := by omega
              clear hs1 hbs g1 gb hws hnw hnx hM hMl hp hx hq hy
              go_wp2
              go_quiet ((go_at_call 143; first | (refine (rotrQ2 _ _ ?hb _ _ _).mono ?_; (case hb => decide); rintro e1 w1 ⟨rfl, m, rfl⟩; exact ⟨rfl, m, rfl⟩) | (refine (rotrQ _ _ ?hb _ _ ⟨_, rfl⟩).mono ?_; (case hb => decide); rintro e1 w1 ⟨rfl, m, rfl⟩; exact ⟨rfl, m, rfl⟩)))
              go_wp2
              go_quiet ((go_at_call 143; first | (refine (rotrQ2 _ _ ?hb _ _ _).mono ?_; (case hb => decide); rintro e1 w1 ⟨rfl, m, rfl⟩; exact ⟨rfl, m, rfl⟩) | (refine (rotrQ _ _ ?hb _ _ ⟨_, rfl⟩).mono ?_; (case hb => decide); rintro e1 w1 ⟨rfl, m, rfl⟩; exact ⟨rfl, m, rfl⟩)))
              go_wp2
              go_region
              go_wp2
              go_roundw
              case rel => exact ⟨j + 1, by omega, by omega, by go_num, H.out.1 _, H.out.2 _⟩
              case measure => simp [intOf]; omega
            · have hk2 : j = 64 := by omega
              have hjI : (j : Int) = 64 := by omega
              rw [hjI]
              rw [hk2] at g1
              have hL : moreW (firstW b 16) (64 - 16) = sched b := sched_eq b
              rw [hL] at g1
              have p0 := HQ.out.1.below gb hg1
              have pk := HQ.out.2.1.below gb hkr
              have ph := HQ.out.2.2.1.below gb hgh
              have pb := HQ.out.2.2.2.trans (gb.mono hg0)
              have HP2 := Lib.hid (And.intro p0 (And.intro pk (And.intro ph (And.intro pb g1))))
              obtain ⟨T, hT⟩ : ∃ T, mixK start8 L J = T := ⟨_, rfl⟩
              rw [hT] at ph
              have HT := Lib.hid hT
              have PH := Lib.hid ph
              obtain ⟨c0, c1, c2, c3, c4, c5, c6, c7⟩ := cells8 ph
              clear p0 pk ph pb g1 hT hL hlj hj hj16 gb hk2 hjI
              go_wp2
              apply wp_cut_one
              case h1 =>
                go_region_held3 (fun w' => w'.cell? ⟨gk + 1, 0, none⟩ = some (.int .u32 T.a.toNat) ∧ w'.cell? ⟨gk + 1, 1, none⟩ = some (.int .u32 T.b.toNat) ∧ w'.cell? ⟨gk + 1, 2, none⟩ = some (.int .u32 T.c.toNat) ∧ w'.cell? ⟨gk + 1, 3, none⟩ = some (.int .u32 T.d.toNat) ∧
      w'.cell? ⟨gk + 1, 4, none⟩ = some (.int .u32 T.e.toNat) ∧ w'.cell? ⟨gk + 1, 5, none⟩ = some (.int .u32 T.f.toNat) ∧ w'.cell? ⟨gk + 1, 6, none⟩ = some (.int .u32 T.g.toNat) ∧ w'.cell? ⟨gk + 1, 7, none⟩ = some (.int .u32 T.h.toNat))
      (first
        | (exact ⟨c0, c1, c2, c3, c4, c5, c6, c7⟩)
        | (exact cells8 ((PH.out.alloc _).drewN 1)))
      (first
        | (fail))
                exact ⟨rfl, rfl, rfl⟩
              obtain ⟨w4, hw4⟩ : ∃ w4, (wr.alloc (.cells #[.int .u32 T.a.toNat, .int .u32 T.b.toNat, .int .u32 T.c.toNat, .int .u32 T.d.toNat, .int .u32 T.e.toNat, .int .u32 T.f.toNat, .int .u32 T.g.toNat, .int .u32 T.h.toNat] 144)).drew = w4 := ⟨_, rfl⟩
              rw [hw4]
              have r4 : Row w4 wr.heap.size 144 (s8l T) := by rw [← hw4]; exact Row.drewN (Row.new wr _ _) 1
              have b4 : Below wr.heap.size wr w4 := by rw [← hw4]; exact below_drewN ((Below.refl _ _).alloc (Nat.le_refl _) _) 1
              have p0 := HP2.out.1.below b4 HP2.out.1.lt
              have pk := HP2.out.2.1.below b4 HP2.out.2.1.lt
              have ph := HP2.out.2.2.1.below b4 HP2.out.2.2.1.lt
              have pb := HP2.out.2.2.2.1.trans (b4.mono HP2.out.2.2.2.1.size)
              have pw := HP2.out.2.2.2.2.below b4 HP2.out.2.2.2.2.lt
              have l0 := HP2.out.1.lt
              have lk := HP2.out.2.1.lt
              have lh := HP2.out.2.2.1.lt
              have lw := HP2.out.2.2.2.2.lt
              rw [HT.out] at ph
              obtain ⟨gv, hgv⟩ : ∃ g, wr.heap.size = g := ⟨_, rfl⟩
              rw [hgv] at r4 l0 lk lh lw ⊢
              obtain ⟨sc, hsc⟩ : ∃ sc, sched b = sc := ⟨_, rfl⟩
              have hscl : sc.length = 64 := by rw [← hsc]; exact sched_length b
              rw [hsc] at pw
              have HSC := Lib.hid hsc
              have HQ4 := Lib.hid (And.intro p0 (And.intro pk (And.intro ph (And.intro pb pw))))
              have hgv4 := r4.lt
              clear p0 pk ph pb pw hsc hw4 HP2 PH c0 c1 c2 c3 c4 c5 c6 c7 hgv b4 HQ
              go_wp2
              refine loop13 gk gw gv T sc w4 _ HQ4.out.2.1 HQ4.out.2.2.2.2 r4 lk lw hscl hgv4 ?_
              intro u14 u15 u16 u17 u18 u19 u20 u147 u148 u149 u150 u151 u152 u153 u154 u155 u156 u157 u158 u159 u160 u161 u162 u163 u164 u165 u166 u167 u168 u169 u170 u171 u172 u173 u174 u175 u176 u177 u178 u179 u180 u181 u182 u183 u184 u185 u186 u187 u188 u189 u190 u191 u192 u193 u194 u195 u196 u197 u198 u199 u200 u201 u202 u203 u204 u205 u206 u207 u208 u209 u210 u211 u212 u213 u214 u215 u216 u217 u218 u219 u220 u221 u222 u223 u224 u225 u226 u227 u228 u229 u230 u231 u232 u233 u234 u235 u236 u237 u238 u239 u240 u241 u242 u243 u244 u245 u246 u247 u248 u249 u250 u251 u252 u253 u254 u255 u256 u257 u258 u259 u260 u261 u262 u263 g wy rv hgg bv4
              have p0 := HQ4.out.1.below bv4 l0
              have pk := HQ4.out.2.1.below bv4 lk
              have ph := HQ4.out.2.2.1.below bv4 lh
              have pb := HQ4.out.2.2.2.1.trans (bv4.mono (by omega))
              have hcomp := comp_split HT.out HBY.out.1 HSC.out
              obtain ⟨U, hU⟩ : ∃ U, rnds T sc 64 = U := ⟨_, rfl⟩
              rw [hU] at rv hcomp
              have HC := Lib.hid (fun (_ : Unit) => hcomp)
              have HG := Lib.hid hgg
              clear hU hcomp bv4 HQ4 hgg
              go_wp2
              go_loopw [20] (fun i wb => ∃ j : Nat, j ≤ 8 ∧ i = .int .i64 j ∧ Row wb (gk + 1) 144 (part8 T (add8 T U) j) ∧ Row wb g 144 (s8l U) ∧ Row wb w.heap.size 174 z32 ∧ Row wb gk 144 (wrow K64) ∧ Below w.heap.size w wb) (fun i _ => 8 - (intOf i).toNat)
              case atStart => exact ⟨0, Nat.zero_le _, rfl, ph, rv, p0, pk, pb⟩
              case round =>
                obtain ⟨j, hj, rfl, h1, h2, h3, h4, h5⟩ := hrel
                clear p0 pk ph pb rv
                by_cases hlj : j < 8
                · have hc1 : wr.cell? ⟨gk + 1, j, none⟩ = some (.int .u32 ((at8 T j).toNat : Int)) := by rw [h1.cell]; exact part8_get _ _ hlj
                  have hc2 : wr.cell? ⟨g, j, none⟩ = some (.int .u32 ((at8 U j).toNat : Int)) := by rw [h2.cell]; exact at8_get _ hlj
                  have hf1 := h1.frozen j
                  have had := at8_add T U hlj
                  have hs1 := fun n => (h1.drewN n).set j (.int .u32 ((at8 (add8 T U) j).toNat : Int))
                  rw [part8_set T (add8 T U) hlj] at hs1
                  have hs2 := fun n => (h2.drewN n).far (p := ⟨gk + 1, j, none⟩) (by have := HG.out; show g ≠ gk + 1; omega) (.int .u32 ((at8 (add8 T U) j).toNat : Int))
                  have hs3 := fun n => (h3.drewN n).far (p := ⟨gk + 1, j, none⟩) (by show w.heap.size ≠ gk + 1; omega) (.int .u32 ((at8 (add8 T U) j).toNat : Int))
                  have hs4 := fun n => (h4.drewN n).far (p := ⟨gk + 1, j, none⟩) (by show gk ≠ gk + 1; omega) (.int .u32 ((at8 (add8 T U) j).toNat : Int))
                  have hs5 := fun n => (below_drewN h5 n).setCell (p := ⟨gk + 1, j, none⟩) (by show w.heap.size ≤ gk + 1; omega) (.int .u32 ((at8 (add8 T U) j).toNat : Int))
                  rw [had] at hs1 hs2 hs3 hs4 hs5
                  have H := Lib.hid (And.intro hs1 (And.intro hs2 (And.intro hs3 (And.intro hs4 hs5))))
                  have hD := u32_add
                  obtain ⟨xa, hxa⟩ : ∃ x, at8 T j = x := ⟨_, rfl⟩
                  obtain ⟨xb, hxb⟩ : ∃ x, at8 U j = x := ⟨_, rfl⟩
                  rw [hxa, hxb] at H
                  rw [hxa] at hc1
                  rw [hxb] at hc2
                  have hjI : (j : Int) < 8 := by omega
                  clear hs1 hs2 hs3 hs4 hs5 h1 h2 h3 h4 h5 had hxa hxb
                  go_wp2
                  go_region
                  go_wp2
                  go_roundw
                  case rel => exact ⟨j + 1, by omega, by go_num, H.out.1 _, H.out.2.1 _, H.out.2.2.1 _, H.out.2.2.2.1 _, H.out.2.2.2.2 _⟩
                  case measure => simp [intOf]; omega
                · have hk2 : j = 8 := by omega
                  have hge : 8 ≤ j := by omega
                  have e8 : part8 T (add8 T U) j = s8l (add8 T U) := by rw [hk2]; exact part8_all _ _
                  rw [e8, HC.out ()] at h1
                  have H := Lib.hid (And.intro h1 (And.intro h3 (And.intro h4 h5)))
                  have HJ := Lib.hid HR.out.2.2.2.2.2
                  clear hk2 hlj hj h1 h2 h3 h4 h5 e8
                  go_wp2
                  go_roundw
                  case rel => exact ⟨J + 1, HJ.out, by congr 1 <;> omega, H.out.2.1, H.out.2.2.1, H.out.1, H.out.2.2.2⟩
                  case measure => simp [intOf]; omega
    · have hJn : J = n := by omega
      have hgeI : (n : Int) ≤ (J : Int) := by omega
      rw [hJn] at rh
      obtain ⟨S, hS⟩ : ∃ S, mixK start8 L n = S := ⟨_, rfl⟩
      rw [hS] at rh
      have hfin : shaL s.data.toList = bytes8 S := by
        unfold shaL
        rw [HP.out.2.1, HP.out.2.2.1, hS]
      have HF := Lib.hid hfin
      have hgh := rh.lt
      have q0 := r0.alloc (.cells z32.toArray 174)
      have qh := rh.alloc (.cells z32.toArray 174)
      have qb := rb.alloc rb.size (.cells z32.toArray 174)
      have q1 := Row.new wr 174 z32
      have hz := (zero_of_info s32_info).1
      have lg := q1.lt
      obtain ⟨gx, hgx⟩ : ∃ g, wr.heap.size = g := ⟨_, rfl⟩
      rw [hgx] at q1 hgh
      clear hfin hS r0 rk rh rb hJn hlt lg
      have hl0 : w.heap.size < gk := hsz1
      go_wp2
      generalize wr.alloc (.cells z32.toArray 174) = wz at q0 qh qb q1 ⊢
      try rw [hgx]
      clear hz hgx
      refine loop22 gk gx S w wz _ q1 qh q0 qb hl0 hgh ?_
      intro u22 u264 u265 u266 u267 u268 u269 u270 u271 u272 u273 u274 u275 u276 u277 u278 u279 u280 u281 u282 u283 u284 u285 u286 u287 u288 u289 u290 u291 u292 u293 u294 u295 u296 u297 wr h1 h3 h4
      clear q0 qh qb q1
      rw [brow_all] at h1
      have hl : ((bytes8 S).map bv).length = 32 := by rw [List.length_map, bytes8_len]
      have hone : ((bytes8 S).map bv).toArray.all (·.oneCell') = true := by
        rw [Array.all_eq_true_iff_forall_mem]
        intro v hv
        simp only [List.mem_toArray, List.mem_map] at hv
        obtain ⟨c, _, rfl⟩ := hv
        rfl
      obtain ⟨cs, hcs⟩ : ∃ cs, (bytes8 S).map bv = cs := ⟨_, rfl⟩
      rw [hcs] at h1 hl hone
      have HV := Lib.hid (And.intro hl (And.intro hone hcs))
      clear hl hone hcs
      go_wp2_with (first
        | (refine wpList_load_row rfl 174 (.tmp 21) rfl gx rfl 174 cs.toArray (0, 0) _ h1 Tryz.underlying174 rfl (by rw [s32_size, List.size_toArray, HV.out.1]) ?_)
        | (refine wpList_store_row rfl 174 (.tmp 2) _ rfl w.heap.size cs.toArray rfl rfl 174 z32.toArray h3 (by rw [s32_size, List.size_toArray, HV.out.1]) (by rw [List.size_toArray, List.size_toArray, HV.out.1]; rfl) HV.out.2.1 ?_))
      have hr := h3.put cs
      have hbs := below_setRow (B := w.heap.size) h4 (Nat.le_refl _) cs.toArray
      exact bodyPost_ret (v := .agg cs.toArray) (results_cell_row rfl _ _ w.heap.size 174 cs.toArray (0, 0) _ rfl hr Tryz.underlying174 rfl (by rw [s32_size, List.size_toArray, HV.out.1])) rfl ⟨by unfold sumV; rw [HF.out, HV.out.2.2], hbs⟩
end Go.Proofs.YtiaaeniopjpfpaaGreatDoor

namespace Go.Proofs.YtiaaeniopjpfpaaGreatDoor
open Go.RowKit
set_option linter.unusedVariables false
theorem u8_info4 : (Tryz.prog.info? 5).map (fun i => (i.zero, i.size, i.bytes)) = some (some (.int .u8 0), 1, 1) := by kernel_rfl
theorem made32 : madeCells #[.int .u8 0] 32 = z32.toArray := by kernel_rfl
/-- The first k bytes, noughts behind. -/
def trow (L : List UInt8) (k : Nat) : List Value := (L.take k).map bv ++ List.replicate (32 - k) (.int .u8 0)
theorem trow_length (L : List UInt8) (hL : L.length = 32) {k : Nat} (h : k ≤ 32) : (trow L k).length = 32 := by unfold trow; simp [hL]; omega
theorem trow_set (L : List UInt8) (hL : L.length = 32) {k : Nat} (h : k < 32) (x : UInt8) (hx : L[k]? = some x) : (trow L k).set k (.int .u8 x.toNat) = trow L (k + 1) := by
  unfold trow
  have hl : ((L.take k).map bv).length = k := by simp [hL]; omega
  have e : 32 - k = (32 - (k + 1)) + 1 := by omega
  rw [e, List.replicate_succ, List.set_append_right _ _ (by omega), hl, Nat.sub_self, List.set_cons_zero, List.take_add_one, hx, List.map_append, List.append_assoc]
  rfl
theorem trow_all (L : List UInt8) (hL : L.length = 32) : trow L 32 = L.map bv := by
  unfold trow
  rw [List.take_of_length_le (by rw [hL]; exact Nat.le_refl _)]
  simp

set_option maxRecDepth 20000 in
set_option maxHeartbeats 4000000 in
theorem refText_any (s : ByteArray) (hs : s.size ≤ 100000) (w : World) :
    Calls Tryz.prog 97 #[.string s] w fun e w' => e = .returned (.string ⟨(shaL s.data.toList).toArray⟩) ∧ Below w.heap.size w w' := by
  obtain ⟨i0, hi0, hz0, hz1, hz2⟩ := info_parts u8_info4
  have HI := Lib.hid (And.intro hi0 (And.intro hz0 (And.intro hz1 hz2)))
  clear hi0 hz0 hz1 hz2
  have HRS := Lib.hid (fun W => refSum_any s hs W)
  have hl := shaL_length s.data.toList
  obtain ⟨L, hL⟩ : ∃ L, shaL s.data.toList = L := ⟨_, rfl⟩
  rw [hL] at HRS hl ⊢
  obtain ⟨cs, hcs⟩ : ∃ cs, L.map bv = cs := ⟨_, rfl⟩
  have e0 : sumV L = .agg cs.toArray := by rw [← hcs]; rfl
  rw [e0] at HRS
  have hcg : ∀ (k : Nat) (x : UInt8), L[k]? = some x → cs[k]? = some (Value.int .u8 x.toNat) := by
    intro k x hx
    rw [← hcs, List.getElem?_map, hx]; rfl
  have hcl : cs.length = 32 := by rw [← hcs, List.length_map, hl]
  have hone : cs.toArray.all (·.oneCell') = true := by
    rw [← hcs, Array.all_eq_true_iff_forall_mem]
    intro v hv
    simp only [List.mem_toArray, List.mem_map] at hv
    obtain ⟨c, _, rfl⟩ := hv
    rfl
  have HC := Lib.hid (And.intro hcg (And.intro hcs hl))
  have HO := Lib.hid (And.intro hcl hone)
  have hz := (zero_of_info s32_info).1
  clear hcg hcs hl hL e0 hcl hone
  go_enter Tryz.func97, Tryz.ntmps97
  go_wp2_with fail
  refine (HRS.out _).mono ?_
  rintro e w1 ⟨rfl, hb1⟩
  have rx := (Row.new w1 174 z32).put cs
  have b1 := below_setRow (B := w.heap.size) (hb1.alloc hb1.size (.cells z32.toArray 174)) hb1.size cs.toArray
  have hg := hb1.size
  have hsz : ((w1.alloc (.cells z32.toArray 174)).setRow w1.heap.size cs.toArray).heap.size = w1.heap.size + 1 := by simp [World.setRow]
  clear hb1
  go_wp2_with (refine wpList_store_row rfl 174 (.tmp 3) (.tmp 7) rfl w1.heap.size cs.toArray rfl rfl 174 z32.toArray (Row.new w1 _ _) (by rw [s32_size, List.size_toArray, HO.out.1]) (by rw [List.size_toArray, List.size_toArray, HO.out.1]; rfl) HO.out.2 ?_)
  generalize (w1.alloc (.cells z32.toArray 174)).setRow w1.heap.size cs.toArray = w2 at rx b1 hsz ⊢
  obtain ⟨gx, hgx⟩ : ∃ g, w1.heap.size = g := ⟨_, rfl⟩
  rw [hgx] at rx hg hsz ⊢
  have r1 := Row.new w2 5 z32
  have rx1 := rx.alloc (.cells z32.toArray 5)
  have b2 := b1.alloc b1.size (.cells z32.toArray 5)
  rw [hsz] at r1
  have HSZ := Lib.hid hsz
  clear hz hgx rx b1 hsz
  have hmk : ∀ W : World, (Instr.makeSlice 87 (.int .i64 32) (.int .i64 32)).run Tryz.prog W = .ok (.slice (some ⟨W.heap.size, 0, none⟩) 32 32) (W.alloc (.cells z32.toArray 5)) := fun W => by
    rw [← made32]
    exact run_make_row 87 5 i0 (.int .u8 0) Tryz.underlying87 HI.out.1 HI.out.2.1 HI.out.2.2.1 rfl .i64 .i64 32 (by rw [HI.out.2.2.2]; decide) (by decide) W
  go_wp2
  have h := hmk w2
  rw [h, HSZ.out]
  clear h hmk
  generalize w2.alloc (.cells z32.toArray 5) = w3 at r1 rx1 b2 ⊢
  clear HSZ
  go_wp2
  go_loopw [5] (fun i wr => ∃ k : Nat, k ≤ 32 ∧ i = .int .i64 k ∧ Row wr (gx + 1) 5 (trow L k) ∧ Row wr gx 174 cs ∧ Below w.heap.size w wr) (fun i _ => 32 - (intOf i).toNat)
  case atStart => exact ⟨0, Nat.zero_le _, rfl, r1, rx1, b2⟩
  case round =>
    obtain ⟨k, hk, rfl, h1, h3, h2⟩ := hrel
    clear r1 rx1 b2
    by_cases hlt : k < 32
    · obtain ⟨x, hx⟩ : ∃ x, L[k]? = some x := ⟨_, List.getElem?_eq_getElem (by rw [HC.out.2.2]; exact hlt)⟩
      have hcx : wr.cell? ⟨gx, k, none⟩ = some (.int .u8 (x.toNat : Int)) := by rw [h3.cell]; exact HC.out.1 k x hx
      obtain ⟨v0, hc0⟩ : ∃ v, wr.cell? ⟨gx + 1, k, none⟩ = some v := by
        rw [h1.cell]; exact ⟨_, List.getElem?_eq_getElem (by rw [trow_length L HC.out.2.2 hk]; exact hlt)⟩
      have hf0 := h1.frozen k
      have hs1 := h1.set k (.int .u8 (x.toNat : Int))
      rw [trow_set L HC.out.2.2 hlt x hx] at hs1
      have hs2 := h2.setCell (p := ⟨gx + 1, k, none⟩) (by show w.heap.size ≤ gx + 1; omega) (.int .u8 (x.toNat : Int))
      have hs3 := h3.far (p := ⟨gx + 1, k, none⟩) (by show gx ≠ gx + 1; omega) (.int .u8 (x.toNat : Int))
      have H := Lib.hid (And.intro hs1 (And.intro hs3 hs2))
      have hkI : (k : Int) < 32 := by omega
      clear hs1 hs2 hs3 h1 h2 h3 hx
      go_wp2
      go_roundw
      case rel => exact ⟨k + 1, by omega, by go_num, H.out.1, H.out.2.1, H.out.2.2⟩
      case measure => simp [intOf]; omega
    · have hk2 : k = 32 := by omega
      rw [hk2, trow_all L HC.out.2.2] at h1
      have hge : 32 ≤ k := by omega
      have hcv := conv_bytes (P := Tryz.prog) wr 87 9 5 Tryz.underlying87 Tryz.underlying5 Tryz.underlying9 (gx + 1) 0 32 32 L HC.out.2.2 (fun i hi => by
        rw [Nat.zero_add, h1.cell])
      have H := Lib.hid h2
      clear hk2 hlt hk h1 h2 h3
      go_wp2
      go_ret
      exact ⟨rfl, H.out⟩
end Go.Proofs.YtiaaeniopjpfpaaGreatDoor

namespace Go.Proofs.YtiaaeniopjpfpaaGreatDoor
open Go.RowKit
set_option linter.unusedVariables false

/-- The document's register: the same steps, byte after byte. -/
theorem ref_step (m : Nat) (h : m < 4294967296) : bits BinOp.xor IntKind.u32 ((m : Int) / 2) 3988292384 = ((m / 2 ^^^ 3988292384 : Nat) : Int) := by
  have h := xor_poly (m / 2) (by omega)
  simpa using h
theorem ref_in (c : Nat) (b : UInt8) (h : c < 4294967296) : bits BinOp.xor IntKind.u32 (c : Int) (b.toNat : Int) = ((c ^^^ b.toNat : Nat) : Int) :=
  u32_xor_nat c b.toNat h (by have := UInt8.toNat_lt b; omega)

set_option maxRecDepth 3000 in
set_option maxHeartbeats 800000 in
theorem refCRC_any (s : ByteArray) (w : World) (hs : s.size ≤ 9223372036854775807) :
    Calls Tryz.prog 98 #[.string s] w fun e w' => e = .returned (.int .u32 (crcL s.data.toList : Nat)) ∧ w = w' := by
  go_enter Tryz.func98, Tryz.ntmps98
  go_wp2
  go_loop [3, 4] (fun t i => ∃ j : Nat, j ≤ s.size ∧ i = .int .i64 j ∧ t = .int .u32 (crcR 4294967295 (s.data.toList.take j) : Nat)) (fun _ i => s.size - (intOf i).toNat)
  case atStart => exact ⟨0, Nat.zero_le _, rfl, rfl⟩
  case round =>
    obtain ⟨j, hj, rfl, rfl⟩ := hrel
    by_cases hlt2 : j < s.size
    · obtain ⟨c, Hc⟩ : ∃ c, Hid (c = crcR 4294967295 (s.data.toList.take j)) := ⟨_, rfl⟩
      have hcl : c < 4294967296 := by rw [Hc.out]; exact crcR_lt _ (by omega)
      rw [← Hc.out]
      have hstep : crcR 4294967295 (s.data.toList.take (j + 1)) = stpN 8 (c ^^^ (s[j]).toNat) := by
        rw [take_snoc s j hlt2, crcR_snoc, ← Hc.out]; rfl
      have HP := Lib.hid hstep
      have hx1 := ref_in c s[j] hcl
      have hb := UInt8.toNat_lt s[j]
      have hxl : c ^^^ (s[j]).toNat < 4294967296 := xor_lt hcl (by have := UInt8.toNat_lt s[j]; omega)
      clear hstep
      go_wp2
      go_loop [3, 5] (fun t i => ∃ k : Nat, k ≤ 8 ∧ i = .int .i64 k ∧ t = .int .u32 (stpN k (c ^^^ (s[j]).toNat) : Nat)) (fun _ i => 8 - (intOf i).toNat)
      case atStart => exact ⟨0, Nat.zero_le _, rfl, rfl⟩
      case round =>
        obtain ⟨k, hk, rfl, rfl⟩ := hrel
        obtain ⟨m, HM⟩ : ∃ m, Hid (m = stpN k (c ^^^ (s[j]).toNat)) := ⟨stpN k (c ^^^ (s[j]).toNat), Lib.hid rfl⟩
        have hm : m < 4294967296 := by rw [HM.out]; exact stpN_lt hxl k
        by_cases hlt : k < 8
        · rw [← HM.out]
          have hss : stpN (k + 1) (c ^^^ (s[j]).toNat) = stp m := by rw [HM.out]; rfl
          have HS := Lib.hid hss
          clear hss
          by_cases hodd : m % 2 = 1
          · have hx := ref_step m hm
            have hso := Lib.hid (stp_odd hodd)
            have ht : ((m : Int) % 2 == 1) = true := by simp; omega
            clear hodd
            go_wp2
            go_round
            case rel => exact ⟨k + 1, by omega, by go_num, by rw [HS.out, hso.out]⟩
            case measure => simp [intOf]; omega
          · have hse := Lib.hid (stp_even hodd)
            have ht : ((m : Int) % 2 == 1) = false := by simp; omega
            clear hodd
            go_wp2
            go_round
            case rel => exact ⟨k + 1, by omega, by go_num, by rw [HS.out, hse.out]; congr 1⟩
            case measure => simp [intOf]; omega
        · have hk8 : k = 8 := by omega
          have H8 := Lib.hid hk8
          clear hk8
          go_wp2
          go_round
          case rel => exact ⟨j + 1, by omega, by go_num, by rw [HP.out, H8.out]⟩
          case measure => simp [intOf]; omega
    · have hall : s.data.toList.take j = s.data.toList := List.take_of_length_le (by simp; omega)
      have hrl : crcR 4294967295 s.data.toList < 4294967296 := crcR_lt _ (by omega)
      rw [hall]
      clear hall
      go_wp2
      go_ret
      exact ⟨ret_int (by unfold crcL; omega), rfl⟩
end Go.Proofs.YtiaaeniopjpfpaaGreatDoor

namespace Go.Proofs.YtiaaeniopjpfpaaGreatDoor
open Go.RowKit
set_option linter.unusedVariables false
set_option linter.unusedSimpArgs false

set_option maxRecDepth 20000 in
set_option maxHeartbeats 1000000 in
theorem refSealed_any (a b : List UInt8) (ha : a.length ≤ 1000) (hb : b.length ≤ 90000) (w : World) :
    Calls Tryz.prog 61 #[.string (tx a), .string (tx b)] w fun e w' => e = .returned (.string (tx (sealL a b))) ∧ Below w.heap.size w w' := by
  obtain ⟨L, hL⟩ : ∃ L, shaL (a ++ b) = L := ⟨_, rfl⟩
  have hLl : L.length = 32 := by rw [← hL, shaL_length]
  obtain ⟨M, hM⟩ : ∃ M, L.take 16 = M := ⟨_, rfl⟩
  have hMl : M.length = 16 := by rw [← hM, List.length_take, hLl]; rfl
  obtain ⟨c, hc⟩ : ∃ c, seal1 a b = c := ⟨_, rfl⟩
  have hcM : a ++ M = c := by rw [← hc, ← hM, ← hL]; rfl
  have hcl : c.length = a.length + 16 := by rw [← hc, seal1_length]
  obtain ⟨N, hN⟩ : ∃ N, crcL (c ++ b) = N := ⟨_, rfl⟩
  have hNb : N < 4294967296 := by rw [← hN]; unfold crcL; omega
  obtain ⟨K, hK⟩ : ∃ K, putL N 4 = K := ⟨_, rfl⟩
  have hKl : K.length = 4 := by rw [← hK, putL_length]
  have hfin : sealL a b = c ++ K := by unfold sealL; rw [hc, hN, hK]
  rw [hfin]
  have HT : Hid (∀ W : World, Calls Tryz.prog 97 #[.string (tx (a ++ b))] W fun e w' => e = .returned (.string (tx L)) ∧ Below W.heap.size W w') := Lib.hid fun W => by
    have h := refText_any (tx (a ++ b)) (by rw [tx_size, List.length_append]; omega) W
    rw [tx_list, hL] at h
    exact h
  have HC : Hid (∀ W : World, Calls Tryz.prog 98 #[.string (tx (c ++ b))] W fun e w' => e = .returned (.int .u32 (N : Nat)) ∧ W = w') := Lib.hid fun W => by
    have h := refCRC_any (tx (c ++ b)) W (by rw [tx_size, List.length_append]; omega)
    rw [tx_list, hN] at h
    exact h
  have HP : Hid (∀ W : World, Calls Tryz.prog 62 #[.int .u64 (N : Nat), .int .i64 4] W fun e w' => e = .returned (.string (tx K)) ∧ Below W.heap.size W w') := Lib.hid fun W => by
    have h := refPut_any N 4 W (by omega) (by omega) (by omega)
    rw [show szOf 4 = 4 from rfl, hK] at h
    exact h
  have hsl : (tx L).extract 0 16 = tx M := by
    apply ByteArray.ext
    rw [← hM]
    simp [tx]
  have hsz : (tx L).size = 32 := by rw [tx_size, hLl]
  have h0 : ∀ W, (Op.stringOp .add (tx a) (tx b)).run Tryz.prog W = .ok (.string (tx (a ++ b))) W := fun W => add_tx a b (by omega) W
  have h1 : ∀ W, (Op.stringOp .add (tx a) (tx M)).run Tryz.prog W = .ok (.string (tx c)) W := fun W => by rw [← hcM]; exact add_tx a M (by omega) W
  have h3 : ∀ W, (Op.stringOp .add (tx c) (tx b)).run Tryz.prog W = .ok (.string (tx (c ++ b))) W := fun W => add_tx c b (by omega) W
  have h2 : ∀ W, (Op.stringOp .add (tx c) (tx K)).run Tryz.prog W = .ok (.string (tx (c ++ K))) W := fun W => add_tx c K (by omega) W
  have hNI : (N : Int) < 4294967296 := by omega
  clear hL hLl hM hMl hc hcM hcl hN hNb hK hKl hfin ha hb
  go_enter Tryz.func61, Tryz.ntmps61
  go_wp2_with fail
  refine (HT.out _).mono ?_
  rintro e w1 ⟨rfl, hb1⟩
  have HB1 := Lib.hid hb1
  clear hb1
  go_wp2_with fail
  refine (HC.out _).mono ?_
  rintro e w2 ⟨rfl, rfl⟩
  go_wp2_with fail
  refine (HP.out _).mono ?_
  rintro e w3 ⟨rfl, hb3⟩
  have HB3 := Lib.hid (HB1.out.trans (hb3.mono HB1.out.size))
  clear hb3
  go_wp2_with fail
  go_ret
  exact ⟨rfl, HB3.out⟩

/-- A number as so many bytes. -/
theorem rPut_tx (n k : Nat) (hk : k ≤ 8) (hn : n < 18446744073709551616) (W : World) : Calls Tryz.prog 62 #[.int .u64 (n : Nat), .int .i64 (k : Nat)] W fun e w' => e = .returned (.string (tx (putL n k))) ∧ Below W.heap.size W w' := by
  have h := refPut_any n k W hn (by omega) (by omega)
  rw [show szOf (k : Int) = k by unfold szOf; omega] at h
  exact h

set_option maxRecDepth 20000 in
set_option maxHeartbeats 1000000 in
theorem refFrame_any (n : Nat) (b : List UInt8) (hn : n ≤ 1000000000000) (hb : b.length ≤ 90000) (w : World) :
    Calls Tryz.prog 25 #[.int .i64 n, .string (tx b)] w fun e w' => e = .returned (.string (tx (frameL n b))) ∧ Below w.heap.size w w' := by
  obtain ⟨k, hk⟩ : ∃ k, b.length = k := ⟨_, rfl⟩
  obtain ⟨A, hA⟩ : ∃ A, putL n 4 = A := ⟨_, rfl⟩
  obtain ⟨B, hB⟩ : ∃ B, putL k 4 = B := ⟨_, rfl⟩
  have hAl : A.length = 4 := by rw [← hA, putL_length]
  have hBl : B.length = 4 := by rw [← hB, putL_length]
  have H1 := fun W => rPut_tx n 4 (by omega) (by omega) W
  have H2 := fun W => rPut_tx k 4 (by omega) (by omega) W
  rw [hA] at H1
  rw [hB] at H2
  have HPP := Lib.hid (And.intro H1 H2)
  obtain ⟨R, hR⟩ : ∃ R, sealL (A ++ B) b = R := ⟨_, rfl⟩
  have hRl : R.length = 28 := by rw [← hR, sealL_length, List.length_append, hAl, hBl]
  have hH : frameL n b = R ++ b := by unfold frameL headL; rw [hk, hA, hB, hR]
  rw [hH]
  have HS : Hid (∀ W, Calls Tryz.prog 61 #[.string (tx (A ++ B)), .string (tx b)] W fun e w' => e = .returned (.string (tx R)) ∧ Below W.heap.size W w') := Lib.hid fun W => by
    rw [← hR]
    exact refSealed_any (A ++ B) b (by rw [List.length_append]; omega) hb W
  have h1 : ∀ W, (Op.stringOp .add (tx A) (tx B)).run Tryz.prog W = .ok (.string (tx (A ++ B))) W := fun W => add_tx A B (by omega) W
  have h2 : ∀ W, (Op.stringOp .add (tx R) (tx b)).run Tryz.prog W = .ok (.string (tx (R ++ b))) W := fun W => add_tx R b (by omega) W
  have hsz : (tx b).size = k := by rw [tx_size, hk]
  have hnI : (n : Int) ≤ 1000000000000 := by omega
  have hkI : (k : Int) ≤ 1000000000000 := by omega
  obtain ⟨S, hS⟩ : ∃ S, R ++ b = S := ⟨_, rfl⟩
  rw [hS] at h2 ⊢
  clear H1 H2 hk hA hB hAl hBl hH hR hRl hS hb hn
  obtain ⟨T, hT⟩ : ∃ T, tx b = T := ⟨_, rfl⟩
  rw [hT] at hsz HS h2 ⊢
  clear hT
  go_enter Tryz.func25, Tryz.ntmps25
  go_wp2_with fail
  refine (HPP.out.1 _).mono ?_
  rintro e w1 ⟨rfl, hb1⟩
  have HB1 := Lib.hid hb1
  clear hb1
  go_wp2_with fail
  refine (HPP.out.2 _).mono ?_
  rintro e w2 ⟨rfl, hb2⟩
  have HB2 := Lib.hid (HB1.out.trans (hb2.mono HB1.out.size))
  clear hb2
  go_wp2_with fail
  refine (HS.out _).mono ?_
  rintro e w3 ⟨rfl, hb3⟩
  have HB3 := Lib.hid (HB2.out.trans (hb3.mono HB2.out.size))
  clear hb3
  go_wp2_with fail
  go_ret
  exact ⟨rfl, HB3.out⟩

set_option maxRecDepth 20000 in
set_option maxHeartbeats 1000000 in
theorem refMark_any (n h : Nat) (hn : n < 18446744073709551616) (hh : h < 18446744073709551616) (w : World) :
    Calls Tryz.prog 49 #[.int .u64 n, .int .u64 h] w fun e w' => e = .returned (.string (tx (markL n h))) ∧ Below w.heap.size w w' := by
  obtain ⟨A, hA⟩ : ∃ A, putL n 8 = A := ⟨_, rfl⟩
  obtain ⟨B, hB⟩ : ∃ B, putL h 8 = B := ⟨_, rfl⟩
  have hAl : A.length = 8 := by rw [← hA, putL_length]
  have hBl : B.length = 8 := by rw [← hB, putL_length]
  have H1 := fun W => rPut_tx n 8 (by omega) hn W
  have H2 := fun W => rPut_tx h 8 (by omega) hh W
  rw [hA] at H1
  rw [hB] at H2
  have HPP := Lib.hid (And.intro H1 H2)
  obtain ⟨R, hR⟩ : ∃ R, sealL ([67, 75, 77, 75] ++ A ++ B) [] = R := ⟨_, rfl⟩
  have hH : markL n h = R := by unfold markL; rw [hA, hB, hR]
  rw [hH]
  have HS : Hid (∀ W, Calls Tryz.prog 61 #[.string (tx ([67, 75, 77, 75] ++ A ++ B)), .string ⟨#[]⟩] W fun e w' => e = .returned (.string (tx R)) ∧ Below W.heap.size W w') := Lib.hid fun W => by
    rw [← hR]
    exact refSealed_any ([67, 75, 77, 75] ++ A ++ B) [] (by rw [List.length_append, List.length_append]; simp; omega) (by simp) W
  have h1 : ∀ W, (Op.stringOp .add ⟨#[67, 75, 77, 75]⟩ (tx A)).run Tryz.prog W = .ok (.string (tx ([67, 75, 77, 75] ++ A))) W := fun W => add_tx [67, 75, 77, 75] A (by simp; omega) W
  have h2 : ∀ W, (Op.stringOp .add (tx ([67, 75, 77, 75] ++ A)) (tx B)).run Tryz.prog W = .ok (.string (tx ([67, 75, 77, 75] ++ A ++ B))) W := fun W => add_tx ([67, 75, 77, 75] ++ A) B (by rw [List.length_append]; simp; omega) W
  obtain ⟨X, hX⟩ : ∃ X, tx ([67, 75, 77, 75] ++ A) = X := ⟨_, rfl⟩
  obtain ⟨Y, hY⟩ : ∃ Y, tx ([67, 75, 77, 75] ++ A ++ B) = Y := ⟨_, rfl⟩
  rw [hX] at h1 h2
  rw [hY] at h2 HS
  have hnI : (n : Int) < 18446744073709551616 := by omega
  have hhI : (h : Int) < 18446744073709551616 := by omega
  clear H1 H2 hA hB hAl hBl hH hR hX hY hn hh
  go_enter Tryz.func49, Tryz.ntmps49
  go_wp2_with fail
  refine (HPP.out.1 _).mono ?_
  rintro e w1 ⟨rfl, hb1⟩
  have HB1 := Lib.hid hb1
  clear hb1
  go_wp2_with fail
  refine (HPP.out.2 _).mono ?_
  rintro e w2 ⟨rfl, hb2⟩
  have HB2 := Lib.hid (HB1.out.trans (hb2.mono HB1.out.size))
  clear hb2
  go_wp2_with fail
  refine (HS.out _).mono ?_
  rintro e w3 ⟨rfl, hb3⟩
  have HB3 := Lib.hid (HB2.out.trans (hb3.mono HB2.out.size))
  clear hb3
  go_wp2_with fail
  go_ret
  exact ⟨rfl, HB3.out⟩
end Go.Proofs.YtiaaeniopjpfpaaGreatDoor

namespace Go.Proofs.YtiaaeniopjpfpaaGreatDoor
open Go.RowKit Go.Maps Go.Shelf
set_option linter.unusedVariables false
set_option linter.unusedSimpArgs false

theorem rows_apart {W : World} {b1 b2 n1 n2 : Nat} {e1 e2 : TypeId} {v1 v2 : Value} {x1 x2 : List Value} (h1 : W.ownsRow b1 e1 1 v1 n1 x1) (h2 : W.ownsRow b2 e2 1 v2 n2 x2) (he : e1 ≠ e2) : v1.ownBlock = none ∨ v1.ownBlock ≠ v2.ownBlock := by
  rcases h1.2 with ⟨rfl, _⟩ | ⟨g, cap, cur, rfl, _, hg, _⟩
  · exact .inl rfl
  · refine .inr fun e => ?_
    rcases h2.2 with ⟨rfl, _⟩ | ⟨g', cap', cur', rfl, _, hg', _⟩
    · simp [Value.ownBlock] at e
    · simp [Value.ownBlock] at e
      subst e
      rw [hg] at hg'
      cases hg'
      exact he rfl
theorem str_infoR : (Tryz.prog.info? 9).map (fun i => (i.zero, i.size, i.bytes)) = some (some (.string ⟨#[]⟩), 1, 16) := by kernel_rfl
theorem int_infoR : (Tryz.prog.info? 3).map (fun i => (i.zero, i.size, i.bytes)) = some (some (.int .i64 0), 1, 8) := by kernel_rfl
theorem framedL_take {n : Nat} {s : List UInt8} (h28 : 28 ≤ s.length) (z : Nat) (hz : getL ((s.drop 4).take 4) = z) (hle : z ≤ s.length - 28) :
    framedL n s = if s.take (28 + z) = frameL n ((s.drop 28).take z) then some ((s.drop 28).take z) else none := by
  unfold framedL
  rw [if_neg (by omega), hz, if_neg (by rw [List.length_drop]; omega)]
  have e : s.take (28 + z) = s.take 28 ++ (s.drop 28).take z := List.take_add
  have hh := headL_length n ((s.drop 28).take z)
  unfold frameL
  rw [e]
  by_cases h : s.take 28 = headL n ((s.drop 28).take z)
  · rw [if_pos h, if_pos (by rw [h])]
  · rw [if_neg h, if_neg (fun hx => h ?_)]
    exact (List.append_inj hx (by rw [hh, List.length_take]; omega)).1

set_option maxRecDepth 20000 in
set_option maxHeartbeats 4000000 in
theorem refFrames_any (s : List UInt8) (hs : s.length ≤ 50000) (w : World) :
    Calls Tryz.prog 26 #[.string (tx s)] w fun e w' => ∃ v u, e = .returned (.tuple #[v, u]) ∧ w'.ownsRow w.heap.size 9 1 v (framesL s).length ((framesL s).map fun x => Value.string (tx x.2)) ∧
      w'.ownsRow w.heap.size 3 1 u (framesL s).length ((framesL s).map fun x => Value.int .i64 (x.1 : Nat)) ∧ Below w.heap.size w w' := by
  obtain ⟨i0, hi, hz0, hz1, hz2⟩ := info_parts str_infoR
  obtain ⟨i1, hj, hy0, hy1, hy2⟩ := info_parts int_infoR
  obtain ⟨k, hk⟩ : ∃ k, s.length = k := ⟨_, rfl⟩
  have hsz : (tx s).size = k := by rw [tx_size, hk]
  have hkI : (k : Int) ≤ 50000 := by omega
  have hfl : (framesL s).length ≤ k := by rw [← hk]; exact framesF_length _ _ _ _
  have HCUT : Hid (∀ a b, a ≤ b → b ≤ k → (tx s).extract a b = tx ((s.take b).drop a)) := Lib.hid fun a b h1 h2 => tx_cut s a b h1 (by omega)
  have HGET : Hid (∀ (F : List UInt8), F.length = 4 → ∀ W : World, Calls Tryz.prog 63 #[.string (tx F)] W fun e w' => e = .returned (.int .u64 (getL F : Nat)) ∧ W = w') := Lib.hid fun F hF W => by
    have h := refGet_any (tx F) W (by rw [tx_size]; omega)
    rw [tx_list] at h
    exact h
  obtain ⟨S, hS⟩ : ∃ S, tx s = S := ⟨_, rfl⟩
  rw [hS] at hsz HCUT ⊢
  go_enter Tryz.func26, Tryz.ntmps26
  go_wp2_with fail
  go_loopw [4, 5, 6] (fun v u a wr => ∃ (pre : List (Nat × List UInt8)) (e q : Nat), a = .int .i64 (e : Nat) ∧ e ≤ k ∧ pre.length ≤ e ∧ k ≤ q + e ∧ Hid (framesL s = pre ++ framesF q (pre.length + 1) e (s.drop e)) ∧
      wr.ownsRow w.heap.size 9 1 v pre.length (pre.map fun x => Value.string (tx x.2)) ∧ wr.ownsRow w.heap.size 3 1 u pre.length (pre.map fun x => Value.int .i64 (x.1 : Nat)) ∧ Below w.heap.size w wr) (fun _ _ a _ => k - (intOf a).toNat)
  case atStart => exact ⟨[], 0, k, rfl, Nat.zero_le _, Nat.le_refl _, Nat.le_refl _, Lib.hid (by unfold framesL; rw [hk]; rfl), World.ownsRow_nil _ _ _ _, World.ownsRow_nil _ _ _ _, Below.refl _ _⟩
  case round =>
    obtain ⟨pre, e, q, rfl, he, hpe, hq, HX, hr1, hr2, hB⟩ := hrel
    obtain ⟨R, hR⟩ : ∃ R, s.drop e = R := ⟨_, rfl⟩
    have hRl : R.length = k - e := by rw [← hR, List.length_drop, hk]
    rw [hR] at HX
    have heI : (e : Int) ≤ (k : Int) := by omega
    by_cases h28 : R.length < 28
    · have HE : Hid (framesL s = pre) := Lib.hid (by rw [HX.out, framesF_none (by unfold framedL; rw [if_pos h28]), List.append_nil])
      have HR := Lib.hid (And.intro hr1 (And.intro hr2 hB))
      have h1 : (k : Int) < (e : Int) + 28 := by omega
      clear HX h28 hR hRl hr1 hr2 hB
      go_wp2_with fail
      go_ret2
      exact ⟨_, _, rfl, by rw [HE.out]; exact HR.out.1, by rw [HE.out]; exact HR.out.2.1, HR.out.2.2⟩
    · obtain ⟨F, hF⟩ : ∃ F, (R.drop 4).take 4 = F := ⟨_, rfl⟩
      have hFl : F.length = 4 := by rw [← hF, List.length_take, List.length_drop]; omega
      obtain ⟨z, hz⟩ : ∃ z, getL F = z := ⟨_, rfl⟩
      have hz4 : z < 4294967296 := by
        rw [← hz]
        have h := getL_lt F
        rw [hFl] at h
        exact h
      have hc1 : S.extract (e + 4) (e + 8) = tx F := by
        rw [HCUT.out (e + 4) (e + 8) (by omega) (by omega), ← hF, ← hR, List.drop_take, List.drop_drop]
        congr 2
        omega
      have HG := Lib.hid (HGET.out F hFl)
      rw [hz] at HG
      have h1 : (e : Int) + 28 ≤ (k : Int) := by omega
      have hzI : (z : Int) < 4294967296 := by omega
      by_cases hzr : k - e - 28 < z
      · have HE : Hid (framesL s = pre) := Lib.hid (by
          rw [HX.out, framesF_none (by unfold framedL; rw [if_neg h28, hF, hz, if_pos (by rw [List.length_drop, hRl]; omega)]), List.append_nil])
        have HR := Lib.hid (And.intro hr1 (And.intro hr2 hB))
        have h2 : (k : Int) - (e : Int) - 28 < (z : Int) := by omega
        clear HX h28 hR hRl hF hFl hz hr1 hr2 hB
        go_wp2_with fail
        refine (HG.out _).mono ?_
        rintro e1 w1 ⟨rfl, rfl⟩
        go_wp2_with fail
        go_ret2
        exact ⟨_, _, rfl, by rw [HE.out]; exact HR.out.1, by rw [HE.out]; exact HR.out.2.1, HR.out.2.2⟩
      · obtain ⟨T, hT⟩ : ∃ T, (R.drop 28).take z = T := ⟨_, rfl⟩
        have hTl : T.length = z := by rw [← hT, List.length_take, List.length_drop, hRl]; omega
        have hfr := framedL_take (n := pre.length + 1) (s := R) (by omega) z (by rw [hF, hz]) (by omega)
        rw [hT] at hfr
        have hc2 : S.extract (e + 28) (e + 28 + z) = tx T := by
          rw [HCUT.out (e + 28) (e + 28 + z) (by omega) (by omega), ← hT, ← hR, List.drop_take, List.drop_drop]
          congr 2
          omega
        have hc3 : S.extract e (e + (28 + z)) = tx (R.take (28 + z)) := by
          rw [HCUT.out e (e + (28 + z)) (by omega) (by omega), ← hR, List.drop_take]
          congr 2
          omega
        obtain ⟨U, hU⟩ : ∃ U, R.take (28 + z) = U := ⟨_, rfl⟩
        obtain ⟨V, hV⟩ : ∃ V, frameL (pre.length + 1) T = V := ⟨_, rfl⟩
        have hVl : V.length = 28 + z := by rw [← hV, frameL_length, hTl]
        rw [hU, hV] at hfr
        rw [hU] at hc3
        have HFR : Hid (∀ W, Calls Tryz.prog 25 #[.int .i64 ((pre.length : Int) + 1), .string (tx T)] W fun e w' => e = .returned (.string (tx V)) ∧ Below W.heap.size W w') := Lib.hid fun W => by
          have h := refFrame_any (pre.length + 1) T (by omega) (by omega) W
          rw [hV, show ((pre.length + 1 : Nat) : Int) = (pre.length : Int) + 1 by omega] at h
          exact h
        have hvs : (tx V).size = 28 + z := by rw [tx_size, hVl]
        have h2 : decide ((k : Int) - (e : Int) - 28 < (z : Int)) = false := by rw [decide_eq_false_iff_not]; omega
        have h3 : (e : Int) + 28 + (z : Int) ≤ (k : Int) := by omega
        have hpI : (pre.length : Int) ≤ 50000 := by omega
        obtain ⟨Y, hY⟩ : ∃ Y, tx T = Y := ⟨_, rfl⟩
        rw [hY] at hc2 HFR
        obtain ⟨v1, v2, rfl⟩ : ∃ ao cap, u4 = .slice ao pre.length cap := by
          rcases hr1.2 with ⟨rfl, h0⟩ | ⟨g, cap, cur, rfl, _⟩
          · exact ⟨none, 0, by rw [h0]⟩
          · exact ⟨_, cap, rfl⟩
        have HR := Lib.hid (And.intro hr1 (And.intro hr2 hB))
        by_cases heq : U = V
        · rw [if_pos heq] at hfr
          obtain ⟨q, rfl⟩ : ∃ q', q = q' + 1 := ⟨q - 1, by omega⟩
          have hX2 := HX.out
          rw [framesF_some hfr, hTl] at hX2
          have hdr : R.drop (z + 28) = s.drop (e + (z + 28)) := by rw [← hR, List.drop_drop]
          have HX2 : Hid (framesL s = (pre ++ [(e + (z + 28), T)]) ++ framesF q ((pre ++ [(e + (z + 28), T)]).length + 1) (e + (z + 28)) (s.drop (e + (z + 28)))) := Lib.hid (by rw [hX2, hdr]; simp)
          subst heq
          obtain ⟨X, hX⟩ : ∃ X, tx U = X := ⟨_, rfl⟩
          rw [hX] at hc3 HFR hvs
          have HQ := Lib.hid (And.intro he (And.intro hpe hq))
          have hs1 := hB.size
          clear HX hX2 hdr hfr h28 hR hRl hF hFl hz hz4 hzr hT hTl hU hV hVl hr1 hr2 hB hX
          go_wp2_with fail
          refine (HG.out _).mono ?_
          rintro e1 w1 ⟨rfl, rfl⟩
          go_wp2_with fail
          rw [hc2]
          refine (HFR.out _).mono ?_
          rintro e1 w1 ⟨rfl, hb1⟩
          have hs2 := hb1.size
          have HR1 : Hid (w1.ownsRow w.heap.size 9 1 (.slice v1 pre.length v2) pre.length (pre.map fun x => Value.string (tx x.2)) ∧ w1.ownsRow w.heap.size 3 1 u5 pre.length (pre.map fun x => Value.int .i64 (x.1 : Nat)) ∧ Below w.heap.size w w1) := Lib.hid
            ⟨HR.out.1.kept (grownBy_below hb1 none) (by cases Value.ownBlock (.slice v1 pre.length v2) <;> simp), HR.out.2.1.kept (grownBy_below hb1 none) (by cases Value.ownBlock u5 <;> simp), HR.out.2.2.trans (hb1.mono HR.out.2.2.size)⟩
          clear hb1 HR
          go_wp2_with (first
            | (at_builtin; refine wpList_append_own _ rfl (.tmp 61) (.tmp 63) 31 rfl w.heap.size 9 i0 (.string ⟨#[]⟩) 1 16 Tryz.underlying31 hi hz0 hz1 hz2 rfl (by decide) _ _ _ rfl (HR1.out.1.alloc _) ⟨w1.heap.size, 0, none⟩ 1 1 [.string Y] rfl rfl (World.news_of_block (cs := #[.string Y]) (t := 9) (fr := (0, 0)) (heap_alloc_new w1 _)) (by simp [Value.oneCell']) (by unfold maxLen; omega) (by omega) (by simp; omega) ?_; intro v4 w4 hown4 hg4 hnil4; have HO4 := Lib.hid hown4; have HG4 := Lib.hid hg4; have HU4 : Hid (w4.ownsRow w.heap.size 3 1 u5 pre.length (pre.map fun x => Value.int .i64 (x.1 : Nat)) ∧ w1.heap.size + 1 ≤ w4.heap.size) := Lib.hid ⟨(HR1.out.2.1.alloc _).kept hg4 (rows_apart HR1.out.2.1 HR1.out.1 (by decide)), by have := hg4.size; rw [World.size_alloc] at this; exact this⟩; have hs4 := HU4.out.2; clear hown4 hg4 hnil4)
            | (at_builtin; refine wpList_append_own _ rfl (.tmp 65) (.tmp 67) 55 rfl w.heap.size 3 i1 (.int .i64 0) 1 8 Tryz.underlying55 hj hy0 hy1 hy2 rfl (by decide) _ _ _ rfl (HU4.out.1.alloc _) ⟨_, 0, none⟩ 1 1 [_] rfl rfl (World.news_of_block (t := 3) (fr := (0, 0)) (heap_alloc_new _ _)) (by simp [Value.oneCell']) (by unfold maxLen; omega) (by omega) (by simp; omega) ?_; intro v5 w5 hown5 hg5 hnil5))
          go_roundw
          case rel => 
            have hr4 := (HO4.out.alloc (.cells #[Value.int .i64 ((e : Int) + (28 + (z : Int)))] 3)).kept hg5 (rows_apart HO4.out HU4.out.1 (by decide))
            have hB4 : Below w.heap.size w w4 := (HR1.out.2.2.alloc HR1.out.2.2.size _).grown HG4.out (by rw [World.size_alloc]; omega) (fun i e => (HR1.out.1.lt i e).1)
            have hB5 : Below w.heap.size w w5 := (hB4.alloc hB4.size _).grown hg5 (by rw [World.size_alloc]; omega) (fun i e => (HU4.out.1.lt i e).1)
            exact ⟨pre ++ [(e + (z + 28), T)], e + (z + 28), q, by go_num, by omega, by rw [List.length_append, List.length_singleton]; have := HQ.out; omega, by have := HQ.out; omega, HX2, by simpa [hY] using hr4, by have h9 := hown5; rw [show (e : Int) + (28 + (z : Int)) = (e : Int) + ((z : Int) + 28) by omega] at h9; simpa using h9, hB5⟩
          case measure => simp [intOf]; omega
        · rw [if_neg heq] at hfr
          have HE : Hid (framesL s = pre) := Lib.hid (by rw [HX.out, framesF_none hfr, List.append_nil])
          have hne := str_ne (fun h => heq (by rw [← tx_list U, ← tx_list V, h]) : tx U ≠ tx V)
          obtain ⟨X, hX⟩ : ∃ X, tx U = X := ⟨_, rfl⟩
          obtain ⟨Z, hZ⟩ : ∃ Z, tx V = Z := ⟨_, rfl⟩
          rw [hX] at hc3 hne
          rw [hZ] at HFR hvs hne
          have hs1 := hB.size
          clear HX hfr h28 hR hRl hF hFl hz hz4 hzr hT hTl hU hV hVl hr1 hr2 hB hX hZ heq
          go_wp2_with fail
          refine (HG.out _).mono ?_
          rintro e1 w1 ⟨rfl, rfl⟩
          go_wp2_with fail
          rw [hc2]
          refine (HFR.out _).mono ?_
          rintro e1 w1 ⟨rfl, hb1⟩
          have HB1 := Lib.hid hb1
          clear hb1
          go_wp2_with fail
          go_ret2
          have hb1 := HB1.out
          exact ⟨_, _, rfl, by rw [HE.out]; exact HR.out.1.kept (grownBy_below hb1 none) (by cases Value.ownBlock (.slice v1 pre.length v2) <;> simp), by rw [HE.out]; exact HR.out.2.1.kept (grownBy_below hb1 none) (by cases Value.ownBlock u5 <;> simp), HR.out.2.2.trans (hb1.mono HR.out.2.2.size)⟩
end Go.Proofs.YtiaaeniopjpfpaaGreatDoor

namespace Go.Proofs.YtiaaeniopjpfpaaGreatDoor
open Go.RowKit Go.Maps
set_option linter.unusedVariables false

/-- The document's disk at a block, with its two others. -/
structure RefAt (L : Nat → Prop) (w : World) (p gl : Nat) (hv : Value) (D : DS) : Prop where
  row : Row w p 45 [.slice (some ⟨gl, 0, none⟩) D.lasts.length D.lasts.length, hv, .int .i64 (D.steps : Nat), .int .i64 D.fuse, .bool D.down]
  las : Row w gl 90 (D.lasts.flatten.map bv)
  han : w.ownsRow 0 136 129 hv D.hangs.length (wcs D.hangs)
  good : D.ok
  fp : ¬ L p
  fl : ¬ L gl
  fh : ∀ g, hv.ownBlock = some g → ¬ L g
def RefIs (L : Nat → Prop) (w : World) (p : Nat) (D : DS) : Prop := ∃ gl hv, RefAt L w p gl hv D

section
variable {L L' : Nat → Prop} {w w' : World} {p gl : Nat} {hv : Value} {D D' : DS}
theorem RefAt.ne_lp (h : RefAt L w p gl hv D) : gl ≠ p := by
  rintro rfl
  have h1 := h.row
  have h2 := h.las
  unfold Row at h1 h2
  rw [h1] at h2
  injection h2 with h2
  injection h2 with _ h3
  revert h3
  decide
theorem RefAt.ne_hp (h : RefAt L w p gl hv D) : hv.ownBlock ≠ some p := own_ne h.han h.row (by decide)
theorem RefAt.ne_hl (h : RefAt L w p gl hv D) : hv.ownBlock ≠ some gl := own_ne h.han h.las (by decide)
/-- It stays what it is where its blocks do. -/
theorem RefAt.kept (h : RefAt L w p gl hv D) (hk : ∀ g, g = p ∨ g = gl ∨ hv.ownBlock = some g → w'.heap[g]? = w.heap[g]?)
    (hL : ∀ g, g = p ∨ g = gl ∨ hv.ownBlock = some g → ¬ L' g) : RefAt L' w' p gl hv D :=
  ⟨(hk p (.inl rfl)).trans h.row, (hk gl (.inr (.inl rfl))).trans h.las, own_kept h.han (fun g hg => hk g (.inr (.inr hg))), h.good,
    hL p (.inl rfl), hL gl (.inr (.inl rfl)), fun g hg => hL g (.inr (.inr hg))⟩
theorem RefAt.lt (h : RefAt L w p gl hv D) : ∀ g, g = p ∨ g = gl ∨ hv.ownBlock = some g → g < w.heap.size := by
  rintro g (rfl | rfl | hg)
  · exact h.row.lt
  · exact h.las.lt
  · exact own_blk_lt h.han hg
theorem RefAt.out (h : RefAt L w p gl hv D) : ∀ g, g = p ∨ g = gl ∨ hv.ownBlock = some g → ¬ L g := by
  rintro g (rfl | rfl | hg)
  · exact h.fp
  · exact h.fl
  · exact h.fh g hg
theorem RefAt.below (h : RefAt L w p gl hv D) (hb : Below w.heap.size w w') : RefAt L w' p gl hv D :=
  h.kept (fun g hg => hb.block g (h.lt g hg)) h.out
theorem RefIs.below (h : RefIs L w p D) (hb : Below w.heap.size w w') : RefIs L w' p D := by
  obtain ⟨gl, hv, h⟩ := h
  exact ⟨gl, hv, h.below hb⟩
/-- What is new is none of its own. -/
theorem RefIs.more (h : RefIs L w p D) (hL : ∀ g, L' g → L g ∨ w.heap.size ≤ g) : RefIs L' w p D := by
  obtain ⟨gl, hv, h⟩ := h
  refine ⟨gl, hv, h.kept (fun _ _ => rfl) (fun g hg hl => ?_)⟩
  rcases hL g hl with h1 | h1
  · exact h.out g hg h1
  · have := h.lt g hg; omega
theorem RefIs.keeps {M : Nat → Prop} (h : RefIs L w p D) (hk : Keeps M w w') (hM : ∀ g, g < w.heap.size → ¬ L g → M g) : RefIs L w' p D := by
  obtain ⟨gl, hv, h⟩ := h
  exact ⟨gl, hv, h.kept (fun g hg => hk.block g (h.lt g hg) (hM g (h.lt g hg) (h.out g hg))) h.out⟩
theorem RefAt.lastRange (h : RefAt L w p gl hv D) (i : Nat) (hi : i < D.lasts.length) : w.rangeAt gl (i * 128) ((D.lasts.getD i []).map bv) := by
  have hr := h.las
  have hl := flat_length D.lasts h.good.rows
  rw [← flat_mid D.lasts h.good.rows i hi]
  exact row_range hr (i * 128) 128 (by rw [List.length_map, hl]; omega)
theorem RefAt.lastThere (h : RefAt L w p gl hv D) (i : Nat) (hi : i < D.lasts.length) : w.there gl (i * 128) 128 := by
  have hl := flat_length D.lasts h.good.rows
  exact row_thereK h.las (i * 128) 128 (by rw [List.length_map, hl]; omega)
theorem RefAt.hangWhole {a : Option Addr} {n c : Nat} (h : RefAt L w p gl (.slice a n c) D) (i : Nat) (x : Nat × List UInt8) (hx : D.hangs[i]? = some x) :
    ∃ g, a = some ⟨g, 0, none⟩ ∧ w.rangeAt g (i * 129) (wcells x) ∧ g ≠ gl := by
  have hil : i < D.hangs.length := (List.getElem?_eq_some_iff.1 hx).1
  have hxl : x.2.length = 128 := h.good.blks x (List.mem_of_getElem? hx)
  obtain ⟨g, cap, e, _, hlt⟩ := h.han.form (by omega)
  have ha : a = some ⟨g, 0, none⟩ := by injection e
  subst ha
  refine ⟨g, rfl, fun j v hj => ?_, fun e2 => h.ne_hl (by rw [← e2]; rfl)⟩
  have hj' : j < 129 := by rw [← wcells_length hxl]; exact (List.getElem?_eq_some_iff.1 hj).1
  have hg := wcs_get D.hangs h.good.blks i j x hx hj'
  have hc := h.han.cells (g := g) rfl (i * 129 + j) v (by rw [hg]; exact hj)
  simpa [Addr.add_mid] using hc
theorem RefAt.rowed (h : RefAt L w p gl hv D) (hl : D'.lasts = D.lasts) (hh : D'.hangs = D.hangs) (hf1 : -9223372036854775808 ≤ D'.fuse) (hf2 : D'.fuse ≤ 9223372036854775807)
    (hw : Row w' p 45 [.slice (some ⟨gl, 0, none⟩) D.lasts.length D.lasts.length, hv, .int .i64 (D'.steps : Nat), .int .i64 D'.fuse, .bool D'.down])
    (hk : ∀ g, p ≠ g → w'.heap[g]? = w.heap[g]?) : RefAt L w' p gl hv D' := by
  have hlp := h.ne_lp
  have hhp := h.ne_hp
  refine ⟨by rw [hl]; exact hw, by rw [hl]; exact (hk gl hlp.symm).trans h.las, by rw [hh]; exact own_kept h.han (fun g hg => hk g (fun e => hhp (by rw [e]; exact hg))), ⟨by rw [hl]; exact h.good.least, by rw [hl]; exact h.good.most, by rw [hl]; exact h.good.rows, by rw [hl, hh]; exact h.good.sect, by rw [hh]; exact h.good.blks, hf1, hf2⟩, h.fp, h.fl, h.fh⟩
end
end Go.Proofs.YtiaaeniopjpfpaaGreatDoor

namespace Go.Proofs.YtiaaeniopjpfpaaGreatDoor
open Go.RowKit Go.Maps
set_option linter.unusedVariables false

set_option maxRecDepth 4000 in
theorem RNew_no (n : Int) (hn : n < 16 ∨ 4096 < n) (w : World) :
    Calls Tryz.prog 10 #[.int .i64 n] w fun e w' => e = .returned (.pointer none) ∧ w = w' := by
  rcases hn with h | h
  · go_enter Tryz.func10, Tryz.ntmps10
    go_wp2
    go_ret
    exact ⟨rfl, rfl⟩
  · have h' : ¬ n < 16 := by omega
    go_enter Tryz.func10, Tryz.ntmps10
    go_wp2
    go_ret
    exact ⟨rfl, rfl⟩
def RNewPost (n : Nat) (w : World) (e : Ending) (w' : World) : Prop := e = .returned (.pointer (some ⟨w.heap.size + 1, 0, none⟩)) ∧ (∀ L : Nat → Prop, (∀ k, L k → k < w.heap.size) → RefAt L w' (w.heap.size + 1) w.heap.size (.slice none 0 0) (newDS n)) ∧ Below w.heap.size w w'
set_option maxRecDepth 4000 in
theorem RNew_any (n : Nat) (h1 : 16 ≤ n) (h2 : n ≤ 4096) (w : World) :
    Calls Tryz.prog 10 #[.int .i64 n] w (RNewPost n w) := by
  have h1I : ¬ (n : Int) < 16 := by omega
  have h2I : ¬ 4096 < (n : Int) := by omega
  have hmk := fun W => make_blocks n h2 W
  go_enter Tryz.func10, Tryz.ntmps10
  go_wp2
  go_ret
  refine ⟨rfl, fun L hL => ?_, (((Below.refl _ _).alloc (Nat.le_refl _) _).alloc (by simp) _)⟩
  have hlast : (newDS n).lasts.length = n := by simp [newDS]
  have r0 := (Row.new_rep w 90 (n * 128) (.int .u8 0)).alloc (.cells #[Value.slice (some { block := w.heap.size, off := 0 }) n n, Value.slice none 0 0, Value.int IntKind.i64 0, Value.int IntKind.i64 (-1), Value.bool false] 45)
  have p0 := Row.new (w.alloc (.cells (Array.replicate (n * 128) (.int .u8 0)) 90)) 45 [Value.slice (some { block := w.heap.size, off := 0 }) n n, Value.slice none 0 0, Value.int IntKind.i64 0, Value.int IntKind.i64 (-1), Value.bool false]
  have e1 : (w.alloc (.cells (Array.replicate (n * 128) (.int .u8 0)) 90)).heap.size = w.heap.size + 1 := by simp
  rw [e1] at p0
  refine ⟨by rw [hlast]; exact p0, by rw [newDS_cells]; exact r0, ⟨by simp [newDS, wcs_nil], .inl ⟨rfl, rfl⟩⟩, newDS_ok n h1 h2, fun h => ?_, fun h => ?_, fun g hg => by simp [Value.ownBlock] at hg⟩
  all_goals
    have := hL _ h
    omega
section
variable {L : Nat → Prop} {w w' : World} {p gl : Nat} {hv : Value} {D D' : DS}
set_option maxRecDepth 20000 in
/-- A step of one whose power is there. -/
theorem Rstep_any (h : RefAt L w p gl hv D) (hs : D.steps < 1000000000) (hd : D.down = false) :
    Calls Tryz.prog 91 #[.pointer (some ⟨p, 0, none⟩)] w fun e w' => e = .returned (.bool D.may) ∧ RefAt L w' p gl hv D.stepped ∧ Keeps L w w' := by
  have H := Lib.hid h
  have hg := h.good
  have hg1 := hg.fuse1
  have hg2 := hg.fuse2
  have c2 := h.row.cell 2
  have c3 := h.row.cell 3
  have c4 := h.row.cell 4
  have f2 := h.row.frozen 2
  have f3 := h.row.frozen 3
  have f4 := h.row.frozen 4
  have k0 := Keeps.refl L w
  have hp : ¬ L p ∨ w.heap.size ≤ p := .inl h.fp
  simp only [List.getElem?_cons_zero, List.getElem?_cons_succ] at c2 c3 c4
  obtain ⟨F, hF⟩ : ∃ F, D.fuse = F := ⟨_, rfl⟩
  obtain ⟨S, hS⟩ : ∃ S, D.steps = S := ⟨_, rfl⟩
  rw [hF] at c3 hg1 hg2
  rw [hS] at c2 hs
  rw [hd] at c4
  have hSI : (S : Int) < 1000000000 := by omega
  by_cases h0 : F = 0
  · have e1 : D.may = false := by unfold DS.may; rw [hF, h0]; rfl
    have e2 : D.stepped = { D with down := true } := by unfold DS.stepped; rw [if_pos (by rw [hF, h0])]
    have HR : Hid (Row (w.setCell ⟨p, 4, none⟩ (.bool true)) p 45 [.slice (some ⟨gl, 0, none⟩) D.lasts.length D.lasts.length, hv, .int .i64 (D.steps : Nat), .int .i64 D.fuse, .bool true]) := Lib.hid (by
      have := h.row.set 4 (.bool true)
      simpa using this)
    rw [e1, e2]
    subst h0
    clear hF hS hd e1 e2 h hg hs
    go_enter Tryz.func91, Tryz.ntmps91
    go_wp2
    go_ret
    exact ⟨rfl, H.out.rowed rfl rfl H.out.good.fuse1 H.out.good.fuse2 HR.out (fun g hg => Below.heap_setCell _ _ _ _ hg.symm), k0.setCell (p := ⟨p, 4, none⟩) hp _⟩
  · have h0b : ((F : Int) == 0) = false := by simpa using h0
    have e1 : D.may = true := by unfold DS.may; rw [hd, hF, decide_eq_true h0]; rfl
    have e2 : D.stepped = { D with fuse := if 0 < F then F - 1 else F, steps := S + 1 } := by unfold DS.stepped; rw [if_neg (by rw [hF]; exact h0), if_neg (by rw [hd]; simp), hF, hS]
    by_cases hpos : 0 < F
    · have HR : Hid (Row ((w.setCell ⟨p, 3, none⟩ (.int .i64 (F - 1))).setCell ⟨p, 2, none⟩ (.int .i64 ((S : Int) + 1))) p 45 [.slice (some ⟨gl, 0, none⟩) D.lasts.length D.lasts.length, hv, .int .i64 ((S + 1 : Nat) : Int), .int .i64 (F - 1), .bool D.down]) := Lib.hid (by
        have := (h.row.set 3 (.int .i64 (F - 1))).set 2 (.int .i64 ((S : Int) + 1))
        simpa using this)
      have HP := Lib.hid hpos
      rw [e1, e2, if_pos hpos]
      clear hF hS hd e1 e2 h hg hs
      go_enter Tryz.func91, Tryz.ntmps91
      go_wp2
      go_ret
      refine ⟨rfl, H.out.rowed rfl rfl (by show _ ≤ F - 1; have := HP.out; omega) (by show F - 1 ≤ _; omega) HR.out (fun g hg => ?_), (k0.setCell (p := ⟨p, 3, none⟩) hp _).setCell (p := ⟨p, 2, none⟩) hp _⟩
      rw [Below.heap_setCell _ _ _ _ hg.symm, Below.heap_setCell _ _ _ _ hg.symm]
    · have HR : Hid (Row (w.setCell ⟨p, 2, none⟩ (.int .i64 ((S : Int) + 1))) p 45 [.slice (some ⟨gl, 0, none⟩) D.lasts.length D.lasts.length, hv, .int .i64 ((S + 1 : Nat) : Int), .int .i64 F, .bool D.down]) := Lib.hid (by
        have := h.row.set 2 (.int .i64 ((S : Int) + 1))
        rw [hF] at this
        simpa using this)
      have HG := Lib.hid (And.intro hg1 hg2)
      rw [e1, e2, if_neg hpos]
      clear hF hS hd e1 e2 h hg hs
      go_enter Tryz.func91, Tryz.ntmps91
      go_wp2
      go_ret
      exact ⟨rfl, H.out.rowed rfl rfl HG.out.1 HG.out.2 HR.out (fun g hg => Below.heap_setCell _ _ _ _ hg.symm), k0.setCell (p := ⟨p, 2, none⟩) hp _⟩
end
end Go.Proofs.YtiaaeniopjpfpaaGreatDoor

namespace Go.Proofs.YtiaaeniopjpfpaaGreatDoor
open Go.RowKit Go.Maps
set_option linter.unusedVariables false
set_option linter.unusedSimpArgs false

theorem rW_info : (Tryz.prog.info? 136).map (fun i => (i.zero, i.size)) = some (some (.agg (.int .i64 0 :: zW).toArray), 129) := by kernel_rfl
theorem rW_size : (Tryz.prog.info? 136).map (·.size) = some 129 := by kernel_rfl
/-- What is read, of the first writes. -/
def blkOf (D : DS) (l : List (Nat × List UInt8)) (k : Int) : List UInt8 := match lastAt l k with
  | some i => (D.hangs.getD i (0, [])).2
  | none => D.lasts.getD k.toNat []
theorem blkOf_nil (D : DS) (k : Int) : blkOf D [] k = D.lasts.getD k.toNat [] := rfl
theorem take_one {α : Type} (l : List α) (k : Nat) (x : α) (h : l[k]? = some x) : l.take (k + 1) = l.take k ++ [x] := by
  have hk := (List.getElem?_eq_some_iff.1 h).1
  rw [List.take_succ_eq_append_getElem hk]
  congr 2
  exact (List.getElem?_eq_some_iff.1 h).2
theorem blkOf_hit (D : DS) (k : Nat) (x : Nat × List UInt8) (at' : Int) (h : D.hangs[k]? = some x) (hx : (x.1 : Int) = at') : blkOf D (D.hangs.take (k + 1)) at' = x.2 := by
  have hk := (List.getElem?_eq_some_iff.1 h).1
  unfold blkOf
  rw [take_one _ _ _ h, lastAt_snoc, if_pos hx, List.length_take, Nat.min_eq_left (by omega)]
  simp [List.getD, h]
theorem blkOf_miss (D : DS) (k : Nat) (x : Nat × List UInt8) (at' : Int) (h : D.hangs[k]? = some x) (hx : (x.1 : Int) ≠ at') : blkOf D (D.hangs.take (k + 1)) at' = blkOf D (D.hangs.take k) at' := by
  unfold blkOf
  rw [take_one _ _ _ h, lastAt_snoc, if_neg hx]
theorem blkOf_all (D : DS) (at' : Int) (n : Nat) (hn : D.hangs.length = n) : blkOf D (D.hangs.take n) at' = D.blk at' := by
  unfold blkOf DS.blk
  rw [List.take_of_length_le (by omega)]
  rfl
theorem blkOf_len (D : DS) (hD : D.ok) (l : List (Nat × List UInt8)) (at' : Int) (h0 : 0 ≤ at') (h1 : at' < (D.lasts.length : Nat)) (hl : ∀ i, lastAt l at' = some i → i < D.hangs.length) : (blkOf D l at').length = 128 := by
  unfold blkOf
  split
  · rename_i i hi
    have := hl i hi
    rw [List.getD_eq_getElem?_getD, List.getElem?_eq_getElem this]
    exact hD.blks _ (List.getElem_mem this)
  · exact getD_len hD.rows (by omega)
section
variable {L : Nat → Prop} {w w' : World} {p gl : Nat} {hv : Value} {D D' : DS}

set_option maxRecDepth 20000 in
set_option maxHeartbeats 1000000 in
theorem RRead_no (h : RefAt L w p gl hv D) (at' : Int) (hf : D.fault at' ≠ 0) :
    Calls Tryz.prog 57 #[.pointer (some ⟨p, 0, none⟩), .int .i64 at'] w fun e w' => e = .returned (.tuple #[blkV (D.read at'), .int .i64 (D.fault at')]) ∧ Below w.heap.size w w' := by
  have hz := (zero_of_info zB_info).1
  have B0 := (Below.refl w.heap.size w).alloc (Nat.le_refl _) (.cells zB.toArray 90)
  have h1 := h.below B0
  have r0 := Row.new w 90 zB
  have hfin : blkV (D.read at') = .agg zB.toArray := by unfold DS.read; rw [if_neg hf]; unfold blkV; rw [zB_eq]
  rw [hfin]
  have c0 := h1.row.cell 0
  have c4 := h1.row.cell 4
  simp only [List.getElem?_cons_zero, List.getElem?_cons_succ] at c0 c4
  obtain ⟨nl, hnl⟩ : ∃ nl, D.lasts.length = nl := ⟨_, rfl⟩
  rw [hnl] at c0
  have hD : (D.down = true ∧ D.fault at' = 13) ∨ (D.down = false ∧ D.fault at' = 2 ∧ (at' < 0 ∨ (nl : Int) ≤ at')) := by
    unfold DS.fault at hf ⊢
    cases hdn : D.down with
    | true => exact .inl ⟨rfl, by simp⟩
    | false =>
      rw [hdn] at hf
      simp only [Bool.false_eq_true, if_false] at hf ⊢
      split at hf
      · exact absurd rfl hf
      · rename_i hn
        exact .inr ⟨trivial, by rw [if_neg hn], by omega⟩
  have fin : Hid (∀ (tmps : Array Value) (dl : List (Value × Array Value)), True) := Lib.hid fun _ _ => trivial
  have HS := Lib.hid (And.intro B0 r0)
  clear h h1 hfin B0 r0 hf hnl fin
  rcases hD with ⟨hdn, hF⟩ | ⟨hdn, hF, hlow | hhigh⟩
  · rw [hF]
    rw [hdn] at c4
    clear hdn hF
    go_enter Tryz.func57, Tryz.ntmps57
    go_wp2_with (first
      | (refine wpList_store_row rfl 90 (.tmp 4) (.tmp 13) rfl w.heap.size zB.toArray rfl rfl 90 zB.toArray HS.out.2 (by kernel_rfl) rfl zB_one ?_))
    have hp := HS.out.2.put zB
    have hq := below_setRow (B := w.heap.size) HS.out.1 (Nat.le_refl _) zB.toArray
    exact bodyPost_ret (v := .tuple #[.agg zB.toArray, .int .i64 13]) (results_row_tmp rfl _ _ w.heap.size 90 zB.toArray (0, 0) _ rfl hp Tryz.underlying90 rfl (by kernel_rfl) _ rfl) rfl ⟨rfl, hq⟩
  · rw [hF]
    rw [hdn] at c4
    clear hdn hF
    go_enter Tryz.func57, Tryz.ntmps57
    go_wp2_with (first
      | (refine wpList_store_row rfl 90 (.tmp 4) (.tmp 25) rfl w.heap.size zB.toArray rfl rfl 90 zB.toArray HS.out.2 (by kernel_rfl) rfl zB_one ?_))
    have hp := HS.out.2.put zB
    have hq := below_setRow (B := w.heap.size) HS.out.1 (Nat.le_refl _) zB.toArray
    exact bodyPost_ret (v := .tuple #[.agg zB.toArray, .int .i64 2]) (results_row_tmp rfl _ _ w.heap.size 90 zB.toArray (0, 0) _ rfl hp Tryz.underlying90 rfl (by kernel_rfl) _ rfl) rfl ⟨rfl, hq⟩
  · rw [hF]
    rw [hdn] at c4
    have hlow : ¬ at' < 0 := by omega
    clear hdn hF
    go_enter Tryz.func57, Tryz.ntmps57
    go_wp2_with (first
      | (refine wpList_store_row rfl 90 (.tmp 4) (.tmp 25) rfl w.heap.size zB.toArray rfl rfl 90 zB.toArray HS.out.2 (by kernel_rfl) rfl zB_one ?_))
    have hp := HS.out.2.put zB
    have hq := below_setRow (B := w.heap.size) HS.out.1 (Nat.le_refl _) zB.toArray
    exact bodyPost_ret (v := .tuple #[.agg zB.toArray, .int .i64 2]) (results_row_tmp rfl _ _ w.heap.size 90 zB.toArray (0, 0) _ rfl hp Tryz.underlying90 rfl (by kernel_rfl) _ rfl) rfl ⟨rfl, hq⟩

/-- A write laid into a new block of its own. -/
structure CopyF (wr : World) (x : Nat × List UInt8) (WC : List Value) : Prop where
  eq : wcells x = WC
  size : (Tryz.prog.info? 136).map (·.size) = some WC.length
  one : WC.toArray.all (·.oneCell') = true
  len : WC.length = 129
  z129 : (Value.int IntKind.i64 0 :: zW).length = 129
  row0 : Row (wr.alloc (.cells (.int .i64 0 :: zW).toArray 136)) wr.heap.size 136 (.int .i64 0 :: zW)
  row : Row ((wr.alloc (.cells (.int .i64 0 :: zW).toArray 136)).setRow wr.heap.size WC.toArray) wr.heap.size 136 WC
  bel : Below wr.heap.size wr ((wr.alloc (.cells (.int .i64 0 :: zW).toArray 136)).setRow wr.heap.size WC.toArray)
theorem copyF (wr : World) (x : Nat × List UInt8) (hx : x.2.length = 128) : ∃ WC, CopyF wr x WC := by
  have rq0 := Row.new wr 136 (.int .i64 0 :: zW)
  refine ⟨wcells x, rfl, by rw [wcells_length hx]; exact rW_size, ?_, wcells_length hx, by simp [zW], rq0, rq0.put _, below_setRow (B := wr.heap.size) ((Below.refl wr.heap.size wr).alloc (Nat.le_refl _) _) (Nat.le_refl _) _⟩
  rw [Array.all_eq_true_iff_forall_mem]
  intro v hv
  have hv2 : v ∈ wcells x := by simpa using hv
  exact wcs_one [x] v (by simpa [wcs] using hv2)
/-- The k-th write, where its block is as it was. -/
theorem RefAt.nth {a : Option Addr} {n c : Nat} {wr : World} (h : RefAt L w p gl (.slice a n c) D) (k : Nat) (x : Nat × List UInt8) (hx : D.hangs[k]? = some x) (hk : ∀ g, g < w.heap.size → g ≠ gl → wr.heap[g]? = w.heap[g]?) :
    ∃ gh, a = some ⟨gh, 0, none⟩ ∧ wr.rangeAt gh (k * 129) (wcells x) := by
  obtain ⟨gh, rfl, hr, hne⟩ := h.hangWhole k x hx
  refine ⟨gh, rfl, fun j v hj => ?_⟩
  rw [World.cell?_of_block (hk gh (own_blk_lt h.han rfl) hne)]
  exact hr j v hj
/-- The loop's relation: what is read so far lies in the block g. -/
structure RdR (w : World) (g : Nat) (D : DS) (at' : Int) (k : Nat) (wr : World) : Prop where
  row : Row wr g 90 ((blkOf D (D.hangs.take k) at').map bv)
  res : Row wr w.heap.size 90 zB
  bel : Below w.heap.size w wr

set_option maxRecDepth 20000 in
set_option maxHeartbeats 1000000 in
theorem RRead_ok (h : RefAt L w p gl hv D) (at' : Int) (hf : D.fault at' = 0) (hh : D.hangs.length < 1000000000) :
    Calls Tryz.prog 57 #[.pointer (some ⟨p, 0, none⟩), .int .i64 at'] w fun e w' => e = .returned (.tuple #[blkV (D.read at'), .int .i64 (D.fault at')]) ∧ Below w.heap.size w w' := by
  have hz := (zero_of_info zB_info).1
  have hz9 := (zero_of_info rW_info).1
  obtain ⟨hdn, h0, h1'⟩ := fault_zero hf
  have h4096 := h.good.most
  obtain ⟨k0, rfl⟩ := Int.eq_ofNat_of_zero_le h0
  have hk0 : k0 < D.lasts.length := by omega
  obtain ⟨a, c, rfl⟩ := own_slice h.han
  have B0 := (Below.refl w.heap.size w).alloc (Nat.le_refl _) (.cells zB.toArray 90)
  have B1 := B0.alloc (by simp) (.cells zB.toArray 90)
  have r0 := Row.new w 90 zB
  have r1 := Row.new (w.alloc (.cells zB.toArray 90)) 90 zB
  have r01 := r0.alloc (.cells zB.toArray 90)
  have e1 : (w.alloc (.cells zB.toArray 90)).heap.size = w.heap.size + 1 := by simp
  rw [e1] at r1
  have h1 := h.below B0
  have hrng := h1.lastRange k0 hk0
  have hbl := getD_len h.good.rows hk0
  have hrd : D.read k0 = D.blk k0 := by unfold DS.read; rw [if_pos hf]
  obtain ⟨n, hn⟩ : ∃ n, D.hangs.length = n := ⟨_, rfl⟩
  obtain ⟨nl, hnl⟩ : ∃ nl, D.lasts.length = nl := ⟨_, rfl⟩
  obtain ⟨RC, HRC⟩ : ∃ RC, Hid (RC = [Value.slice (some ⟨gl, 0, none⟩) nl nl, .slice a n c, .int .i64 (D.steps : Nat), .int .i64 D.fuse, .bool false]) := ⟨_, Lib.hid rfl⟩
  have hrow : Row w p 45 RC := by have := h.row; rw [HRC.out, ← hn, ← hnl, ← hdn]; exact this
  have c0 := h1.row.cell 0
  have c4 := h1.row.cell 4
  simp only [List.getElem?_cons_zero, List.getElem?_cons_succ] at c0 c4
  rw [hnl] at c0
  rw [hdn] at c4
  obtain ⟨C, hC⟩ : ∃ C, (D.lasts.getD k0 []).map bv = C := ⟨_, rfl⟩
  have hsz := blk_sizeK _ hbl
  have hone : C.toArray.all (·.oneCell') = true := by rw [← hC]; exact blkV_one _
  have hlen : C.length = 128 := by rw [← hC, List.length_map, hbl]
  rw [hC] at hrng hsz
  have HR := Lib.hid (And.intro hrng (And.intro hsz (And.intro hone (And.intro hlen r1))))
  have HAFT : Hid (RdR w (w.heap.size + 1) D k0 0 (((w.alloc (.cells zB.toArray 90)).alloc (.cells zB.toArray 90)).setRow (w.heap.size + 1) C.toArray)) := Lib.hid
    ⟨by rw [List.take_zero, blkOf_nil, Int.toNat_natCast, hC]; exact r1.put C, r01.put_far (by omega) _, below_setRow (B := w.heap.size) B1 (by omega) _⟩
  have hnI : (n : Int) < 1000000000 := by omega
  obtain ⟨Z, hZ⟩ : ∃ Z, zB = Z := ⟨_, rfl⟩
  have hZl : Z.length = 128 := by rw [← hZ]; exact zB_len
  rw [hZ] at hz HR HAFT c0 c4
  have HZ := Lib.hid (And.intro hZ hZl)
  have hk0I : (k0 : Int) < (nl : Int) := by omega
  have hk00 : ¬ (k0 : Int) < 0 := by omega
  have hge : ¬ (nl : Int) ≤ (k0 : Int) := by omega
  have H := Lib.hid (And.intro h (And.intro hn (And.intro hrow (And.intro hrd (And.intro hf (And.intro hk0 hnl))))))
  rw [hrd, hf]
  clear h h1 B0 B1 r0 r1 r01 e1 hrng hbl hC hsz hone hlen hrd hn hh hf hnl hrow h0 h1' h4096 hk0 hdn hZ hZl
  go_enter Tryz.func57, Tryz.ntmps57
  go_wp2_with (first
    | (with_reducible refine wpList_load_mid rfl 90 (.tmp 31) rfl gl (k0 * 128) rfl C _ HR.out.1 Tryz.underlying90 rfl HR.out.2.1 ?_)
    | (refine wpList_store_row rfl 90 (.tmp 6) (.tmp 32) rfl (w.heap.size + 1) C.toArray rfl rfl 90 Z.toArray HR.out.2.2.2.2 (by rw [List.size_toArray]; exact HR.out.2.1) (by rw [List.size_toArray, List.size_toArray, HZ.out.2, HR.out.2.2.2.1]) HR.out.2.2.1 ?_; have hAFT := HAFT.out; clear HAFT HR; generalize ((w.alloc (.cells Z.toArray 90)).alloc (.cells Z.toArray 90)).setRow (w.heap.size + 1) C.toArray = W2 at hAFT ⊢; have HAFT := Lib.hid hAFT; have c1 := (H.out.2.2.1.below hAFT.bel H.out.2.2.1.lt).cell 1; clear hAFT; simp only [HRC.out, List.getElem?_cons_zero, List.getElem?_cons_succ] at c1; clear c0 c4)
    | fail)
  go_loopw [38] (fun i wr => ∃ (k : Nat), k ≤ n ∧ i = .int .i64 k ∧ Hid (RdR w (w.heap.size + 1) D k0 k wr)) (fun i _ => n - (intOf i).toNat)
  case atStart => exact ⟨0, Nat.zero_le _, rfl, HAFT⟩
  case round =>
    obtain ⟨k, hkn, rfl, HREL⟩ := hrel
    by_cases hlt : k < n
    · have hh := H.out.1
      rw [H.out.2.1] at hh
      obtain ⟨x, hx⟩ : ∃ x, D.hangs[k]? = some x := ⟨_, List.getElem?_eq_getElem (by rw [H.out.2.1]; exact hlt)⟩
      have hxl := hh.good.blks x (List.mem_of_getElem? hx)
      obtain ⟨gh, rfl, hrng⟩ := hh.nth k x hx (wr := wr) (fun g hg _ => HREL.out.bel.block g hg)
      obtain ⟨WC, hF⟩ := copyF wr x hxl
      rw [hF.eq] at hrng
      obtain ⟨x1, hx1⟩ : ∃ x1, x.1 = x1 := ⟨_, rfl⟩
      obtain ⟨XC, hXC⟩ : ∃ XC, x.2.map bv = XC := ⟨_, rfl⟩
      have hWC : WC = .int .i64 (x1 : Nat) :: XC := by rw [← hF.eq, ← hx1, ← hXC]; rfl
      have hsz := blk_sizeK _ hxl
      have hone := blkV_one x.2
      rw [hXC] at hsz hone
      have hltI : (k : Int) < (n : Int) := by omega
      have HW := Lib.hid (And.intro hrng hF)
      have HX := Lib.hid (And.intro hx (And.intro hx1 (And.intro hXC (And.intro hxl (And.intro hWC (And.intro hlt (And.intro hsz hone)))))))
      clear hh hx hxl hrng hF hWC hx1 hXC hlt hsz hone
      have HAF : Hid (Row ((wr.alloc (.cells (.int .i64 0 :: zW).toArray 136)).setRow wr.heap.size WC.toArray) wr.heap.size 136 WC ∧ Below wr.heap.size wr ((wr.alloc (.cells (.int .i64 0 :: zW).toArray 136)).setRow wr.heap.size WC.toArray)) := Lib.hid ⟨HW.out.2.row, HW.out.2.bel⟩
      have hz9w : ∀ W : World, (zeroValue 136).run Tryz.prog W = .ok (.agg (.int .i64 0 :: zW).toArray) W := hz9
      clear c1
      by_cases heq : (x1 : Int) = (k0 : Int)
      · have heqb : ((x1 : Int) == (k0 : Int)) = true := by simpa using heq
        have HQ := Lib.hid heq
        have HG6 : Hid (∀ W : World, Below wr.heap.size wr W → Row W wr.heap.size 136 WC → W.rangeAt wr.heap.size 1 XC ∧ Row W (w.heap.size + 1) 90 ((blkOf D (D.hangs.take k) k0).map bv) ∧ ((blkOf D (D.hangs.take k) k0).map bv).length = XC.length) := Lib.hid fun W hb hr => by
          refine ⟨fun j v hj => ?_, HREL.out.row.below hb HREL.out.row.lt, ?_⟩
          · rw [hr.cell, HX.out.2.2.2.2.1, Nat.add_comm 1 j, List.getElem?_cons_succ]
            exact hj
          · rw [List.length_map, ← HX.out.2.2.1, List.length_map, HX.out.2.2.2.1]
            exact blkOf_len D H.out.1.good _ _ (by omega) (by have := H.out.2.2.2.2.2.1; omega) (fun i hi => by have := lastAt_lt hi; rw [List.length_take] at this; omega)
        clear heq
        go_wp2_with (first
          | (with_reducible refine wpList_load_mid rfl 136 (.tmp 40) rfl gh (k * 129) rfl WC _ HW.out.1 Tryz.underlying136 rfl HW.out.2.size ?_)
          | (refine wpList_store_row rfl 136 (.tmp 8) (.tmp 41) rfl wr.heap.size WC.toArray rfl rfl 136 (Value.int IntKind.i64 0 :: zW).toArray HW.out.2.row0 (by rw [List.size_toArray]; exact HW.out.2.size) (by rw [List.size_toArray, List.size_toArray, HW.out.2.len, HW.out.2.z129]) HW.out.2.one ?_; have hAF := HAF.out; clear HAF; generalize (wr.alloc (.cells (.int .i64 0 :: zW).toArray 136)).setRow wr.heap.size WC.toArray = W3 at hAF ⊢; have HAF := Lib.hid hAF; have cq := hAF.1.cell 0; rw [HX.out.2.2.2.2.1] at cq; simp only [List.getElem?_cons_zero] at cq; clear hAF)
          | (with_reducible refine wpList_load_mid rfl 90 (.tmp 46) rfl wr.heap.size 1 rfl XC _ (HG6.out _ HAF.out.2 HAF.out.1).1 Tryz.underlying90 rfl HX.out.2.2.2.2.2.2.1 ?_)
          | (refine wpList_store_row rfl 90 (.tmp 6) (.tmp 47) rfl (w.heap.size + 1) XC.toArray rfl rfl 90 ((blkOf D (D.hangs.take k) k0).map bv).toArray (HG6.out _ HAF.out.2 HAF.out.1).2.1 (by rw [List.size_toArray]; exact HX.out.2.2.2.2.2.2.1) (by rw [List.size_toArray, List.size_toArray]; exact (HG6.out _ HAF.out.2 HAF.out.1).2.2) HX.out.2.2.2.2.2.2.2 ?_)
          | fail)
        have HFIN : Hid (RdR w (w.heap.size + 1) D k0 (k + 1) (W3.setRow (w.heap.size + 1) XC.toArray)) := Lib.hid (by
          have hs := HREL.out.bel.size
          have hr0 := (HG6.out _ HAF.out.2 HAF.out.1).2.1
          have hlt0 := HREL.out.row.lt
          refine ⟨?_, ?_, ?_⟩
          · rw [blkOf_hit D k x _ HX.out.1 (by rw [HX.out.2.1]; exact HQ.out), HX.out.2.2.1]
            exact hr0.put XC
          · exact (HREL.out.res.below HAF.out.2 HREL.out.res.lt).put_far (by omega) _
          · exact below_setRow (B := w.heap.size) (HREL.out.bel.trans (HAF.out.2.mono hs)) (by omega) _)
        have hlt := HX.out.2.2.2.2.2.1
        clear HAF cq
        go_wp2_with fail
        go_roundw
        case rel => exact ⟨k + 1, by omega, by go_num, HFIN⟩
        case measure => simp [intOf]; omega
      · have heqb : ((x1 : Int) == (k0 : Int)) = false := by simpa using heq
        have HQ := Lib.hid heq
        clear heq
        go_wp2_with (first
          | (with_reducible refine wpList_load_mid rfl 136 (.tmp 40) rfl gh (k * 129) rfl WC _ HW.out.1 Tryz.underlying136 rfl HW.out.2.size ?_)
          | (refine wpList_store_row rfl 136 (.tmp 8) (.tmp 41) rfl wr.heap.size WC.toArray rfl rfl 136 (Value.int IntKind.i64 0 :: zW).toArray HW.out.2.row0 (by rw [List.size_toArray]; exact HW.out.2.size) (by rw [List.size_toArray, List.size_toArray, HW.out.2.len, HW.out.2.z129]) HW.out.2.one ?_; have hAF := HAF.out; clear HAF; generalize (wr.alloc (.cells (.int .i64 0 :: zW).toArray 136)).setRow wr.heap.size WC.toArray = W3 at hAF ⊢; have HAF := Lib.hid hAF; have cq := hAF.1.cell 0; rw [HX.out.2.2.2.2.1] at cq; simp only [List.getElem?_cons_zero] at cq; clear hAF)
          | fail)
        have HFIN : Hid (RdR w (w.heap.size + 1) D k0 (k + 1) W3) := Lib.hid (by
          have hs := HREL.out.bel.size
          refine ⟨?_, HREL.out.res.below HAF.out.2 HREL.out.res.lt, HREL.out.bel.trans (HAF.out.2.mono hs)⟩
          rw [blkOf_miss D k x _ HX.out.1 (by rw [HX.out.2.1]; exact HQ.out)]
          exact HREL.out.row.below HAF.out.2 HREL.out.row.lt)
        have hlt := HX.out.2.2.2.2.2.1
        go_roundw
        case rel => exact ⟨k + 1, by omega, by go_num, HFIN⟩
        case measure => simp [intOf]; omega
    · have hke : k = n := by omega
      subst hke
      clear hlt c1
      obtain ⟨BC, hBC⟩ : ∃ BC, (D.blk k0).map bv = BC := ⟨_, rfl⟩
      have hb128 : (D.blk k0).length = 128 := by
        rw [← blkOf_all D k0 k H.out.2.1]
        exact blkOf_len D H.out.1.good _ _ (by omega) (by have := H.out.2.2.2.2.2.1; omega) (fun i hi => by have := lastAt_lt hi; rw [List.length_take] at this; omega)
      have hrow := HREL.out.row
      rw [blkOf_all D k0 k H.out.2.1, hBC] at hrow
      have hsz := blk_sizeK _ hb128
      have hone := blkV_one (D.blk k0)
      rw [hBC] at hsz hone
      have hl : BC.length = 128 := by rw [← hBC, List.length_map, hb128]
      have hfin : blkV (D.blk k0) = .agg BC.toArray := by unfold blkV; rw [hBC]
      have HB : Hid (wr.rangeAt (w.heap.size + 1) 0 BC ∧ (Tryz.prog.info? 90).map (·.size) = some BC.length ∧ BC.toArray.all (·.oneCell') = true ∧ BC.length = 128 ∧ Row wr w.heap.size 90 Z ∧ blkV (D.blk k0) = .agg BC.toArray) := Lib.hid
        ⟨fun j v hj => by rw [Nat.zero_add, hrow.cell]; exact hj, hsz, hone, hl, by rw [← HZ.out.1]; exact HREL.out.res, hfin⟩
      clear hBC hb128 hrow hsz hone hl hfin
      go_wp2_with (first
        | (with_reducible refine wpList_load_mid rfl 90 (.tmp 6) rfl (w.heap.size + 1) 0 rfl BC _ HB.out.1 Tryz.underlying90 rfl HB.out.2.1 ?_)
        | (refine wpList_store_row rfl 90 (.tmp 4) (.tmp 49) rfl w.heap.size BC.toArray rfl rfl 90 Z.toArray HB.out.2.2.2.2.1 (by rw [List.size_toArray]; exact HB.out.2.1) (by rw [List.size_toArray, List.size_toArray, HZ.out.2, HB.out.2.2.2.1]) HB.out.2.2.1 ?_)
        | fail)
      have hp := HB.out.2.2.2.2.1.put BC
      have hq := below_setRow (B := w.heap.size) HREL.out.bel (Nat.le_refl _) BC.toArray
      rw [HB.out.2.2.2.2.2]
      exact bodyPost_ret (v := .tuple #[.agg BC.toArray, .int .i64 0]) (results_row_tmp rfl _ _ w.heap.size 90 BC.toArray (0, 0) _ rfl hp Tryz.underlying90 rfl (by rw [List.size_toArray]; exact HB.out.2.1) _ rfl) rfl ⟨rfl, hq⟩

theorem RRead_any (h : RefAt L w p gl hv D) (at' : Int) (hh : D.hangs.length < 1000000000) :
    Calls Tryz.prog 57 #[.pointer (some ⟨p, 0, none⟩), .int .i64 at'] w fun e w' => e = .returned (.tuple #[blkV (D.read at'), .int .i64 (D.fault at')]) ∧ Below w.heap.size w w' := by
  by_cases hf : D.fault at' = 0
  · exact RRead_ok h at' hf hh
  · exact RRead_no h at' hf
end
end Go.Proofs.YtiaaeniopjpfpaaGreatDoor

namespace Go.Proofs.YtiaaeniopjpfpaaGreatDoor
open Go.RowKit Go.Maps
set_option linter.unusedVariables false
set_option linter.unusedSimpArgs false

theorem rwrite_info : (Tryz.prog.info? 136).map (fun i => (i.zero, i.size, i.bytes)) = some (some (.agg (.int .i64 0 :: zW).toArray), 129, 136) := by kernel_rfl
/-- 'write{at, b}'. -/
theorem rbuild_write (x : Int) (C : List Value) (hC : C.length = 128) (W : World) :
    (Instr.build 136 #[(0, .int .i64 x), (1, .agg C.toArray)]).run Tryz.prog W = .ok (.agg (.int .i64 x :: C).toArray) W := by
  have hz := zero_of_info rW_info
  have hu := Tryz.underlying136
  have hs1 := int_size W
  have hs2 := blk_sizeOf W
  have hf : Instr.fill (fun i => #[((0 : Nat), (1 : Nat)), (1, 128)][i]?) (Value.agg (Value.int IntKind.i64 0 :: zW).toArray).cells [(0, Value.int IntKind.i64 x), (1, Value.agg C.toArray)] = some (Value.int IntKind.i64 x :: C).toArray := by
    have e0 : (Value.agg (Value.int IntKind.i64 0 :: zW).toArray).cells = (Value.int IntKind.i64 0 :: zW).toArray := rfl
    have e1 : (Value.int IntKind.i64 x).cells = #[Value.int IntKind.i64 x] := rfl
    have e2 : (Value.agg C.toArray).cells = C.toArray := rfl
    have hzl : (Value.int IntKind.i64 0 :: zW).toArray.size = 129 := by simp [zW]
    have l1 := lay_arr 0 (.int .i64 x) (Value.int IntKind.i64 0 :: zW).toArray (by rw [e1, hzl]; simp)
    rw [e0]
    unfold Instr.fill
    simp only [List.getElem?_toArray, List.getElem?_cons_zero]
    rw [if_neg (by rw [e1, hzl]; simp), l1]
    have l2 := lay_arr 1 (.agg C.toArray) (((Value.int IntKind.i64 0 :: zW).toArray.toList.take 0 ++ (Value.int IntKind.i64 x).cells.toList ++ (Value.int IntKind.i64 0 :: zW).toArray.toList.drop (0 + (Value.int IntKind.i64 x).cells.size)).toArray) (by rw [e1, e2]; simp [zW, hC])
    unfold Instr.fill
    simp only [List.getElem?_cons_zero, List.getElem?_cons_succ]
    rw [if_neg (by rw [e1, e2]; simp [zW, hC]), l2]
    unfold Instr.fill
    rw [e1, e2]
    simp [zW, hC]
  simp only [Instr.build, Sem.run_bind, hz.1, Result.andThen_ok, run_underlying hu]
  simp [hs1, hs2, Result.andThen]
  have ee : (fun x : Nat => ([((0 : Nat), (1 : Nat)), (1, 128)] : List (Nat × Nat))[x]?) = fun i => #[((0 : Nat), (1 : Nat)), (1, 128)][i]? := by funext i; simp
  rw [ee, hf]
  rfl
/-- A slice of one of them. -/
theorem rone_write (x : Int) (C : List Value) (hC : C.length = 128) (W : World) :
    (Instr.buildSlice 43 1 #[(0, .agg (.int .i64 x :: C).toArray)]).run Tryz.prog W = .ok (.slice (some ⟨W.heap.size, 0, none⟩) 1 1) (W.alloc (.cells (.int .i64 x :: C).toArray 136)) := by
  have hz := rW_info
  cases hi : Tryz.prog.info? 136 with
  | none => rw [hi] at hz; cases hz
  | some ie =>
    rw [hi] at hz
    simp only [Option.map_some, Option.some.injEq, Prod.mk.injEq] at hz
    refine run_buildSlice W 43 136 1 _ _ ie _ Tryz.underlying43 hi hz.1 (by rw [hz.2]; decide) (by rw [hz.2]; decide) ?_
    rw [hz.2]
    have hsz : ((Array.range (1 * 129)).map ((Value.agg (Value.int IntKind.i64 0 :: zW).toArray).cells[· % (Value.agg (Value.int IntKind.i64 0 :: zW).toArray).cells.size]!)).size = 129 := by simp
    have e2 : (Value.agg (Value.int IntKind.i64 x :: C).toArray).cells = (Value.int IntKind.i64 x :: C).toArray := rfl
    have l2 := lay_arr 0 (.agg (Value.int IntKind.i64 x :: C).toArray) _ (by rw [hsz, e2]; simp [hC])
    unfold Instr.fill
    simp only [Nat.zero_mul]
    rw [if_neg (by rw [hsz, e2]; simp [hC])]
    rw [l2]
    unfold Instr.fill
    rw [e2]
    simp [hC]
theorem read_len {D : DS} (hD : D.ok) (at' : Int) : (D.read at').length = 128 := by
  unfold DS.read
  split
  · rename_i hf
    obtain ⟨_, h0, h1⟩ := fault_zero hf
    rw [← blkOf_all D at' _ rfl]
    exact blkOf_len D hD _ _ h0 h1 (fun i hi => by have := lastAt_lt hi; rw [List.length_take] at this; omega)
  · simp [z128]
section
variable {L L' : Nat → Prop} {w w' : World} {p gl : Nat} {hv : Value} {D D' : DS}

set_option maxRecDepth 20000 in
set_option maxHeartbeats 1000000 in
theorem RWrite_any (hL : ∀ k, L k → k < w.heap.size) (h : RefAt L w p gl hv D) (at' : Int) (b : List UInt8) (hb : b.length = 128) (hs : D.steps < 1000000000) (hh : D.hangs.length < 1000000000) :
    Calls Tryz.prog 50 #[.pointer (some ⟨p, 0, none⟩), .int .i64 at', blkV b] w fun e w' => e = .returned (.int .i64 (D.writeErr at')) ∧ RefIs L w' p (D.written at' b) ∧ Keeps L w w' := by
  have hz := (zero_of_info zB_info).1
  obtain ⟨C, hC⟩ : ∃ C, b.map bv = C := ⟨_, rfl⟩
  have hbl : blkV b = .agg C.toArray := by unfold blkV; rw [hC]
  have hCl : C.length = 128 := by rw [← hC, List.length_map, hb]
  rw [hbl]
  obtain ⟨RB, hRB⟩ : ∃ RB, (D.read at').map bv = RB := ⟨_, rfl⟩
  have hRBl : RB.length = 128 := by rw [← hRB, List.length_map, read_len h.good]
  have hRsz := blk_sizeK _ (read_len h.good at')
  have hRone := blkV_one (D.read at')
  rw [hRB] at hRsz hRone
  have B0 := (Below.refl w.heap.size w).alloc (Nat.le_refl _) (.cells C.toArray 90)
  have h1 := h.below B0
  have r0 := Row.new w 90 C
  have HRD := Lib.hid (RRead_any h1 at' hh)
  have hRV : blkV (D.read at') = .agg RB.toArray := by unfold blkV; rw [hRB]
  rw [hRV] at HRD
  obtain ⟨Z, hZ⟩ : ∃ Z, zB = Z := ⟨_, rfl⟩
  have hZl : Z.length = 128 := by rw [← hZ]; exact zB_len
  rw [hZ] at hz
  have HZ := Lib.hid (And.intro hZ (And.intro hZl (And.intro hRBl (And.intro hRsz hRone))))
  have HS := Lib.hid (And.intro B0 r0)
  have HNEW : Hid (∀ W : World, Row (W.alloc (.cells Z.toArray 90)) W.heap.size 90 Z ∧ Below W.heap.size W ((W.alloc (.cells Z.toArray 90)).setRow W.heap.size RB.toArray)) := Lib.hid fun W =>
    ⟨Row.new W 90 Z, below_setRow (B := W.heap.size) ((Below.refl W.heap.size W).alloc (Nat.le_refl _) _) (Nat.le_refl _) _⟩
  have H := Lib.hid h
  have HL := Lib.hid hL
  have HP := Lib.hid (And.intro hb (And.intro hs (And.intro hh (And.intro hC hCl))))
  by_cases hf : D.fault at' = 0
  · rw [hf] at HRD
    have HF := Lib.hid hf
    clear hZ hZl hRBl hRsz hRone hRB hRV B0 h1 r0 h hL hb hs hh hC hbl hf hCl
    go_enter Tryz.func50, Tryz.ntmps50
    go_wp2_with fail
    refine HRD.out.mono ?_
    rintro e w1 ⟨rfl, hb1⟩
    have HB1 := Lib.hid hb1
    clear hb1
    go_wp2_with (first
      | (refine wpList_store_row rfl 90 (.tmp 7) (.tmp 13) rfl w1.heap.size RB.toArray rfl rfl 90 Z.toArray (HNEW.out w1).1 (by rw [List.size_toArray]; exact HZ.out.2.2.2.1) (by rw [List.size_toArray, List.size_toArray, HZ.out.2.1, HZ.out.2.2.1]) HZ.out.2.2.2.2 ?_; have hN := (HNEW.out w1).2; generalize (w1.alloc (.cells Z.toArray 90)).setRow w1.heap.size RB.toArray = W3 at hN ⊢; have HN := Lib.hid (Below.trans HB1.out (hN.mono HB1.out.size)); clear hN HNEW)
      | fail)
    obtain ⟨g, hg⟩ : ∃ g, w.heap.size = g := ⟨_, rfl⟩
    have HGE := Lib.hid hg
    have hbw3 := HN.out
    have hsz1 : (w.alloc (.cells C.toArray 90)).heap.size = g + 1 := by simp [hg]
    have hB3 : Below w.heap.size w W3 := HS.out.1.trans (hbw3.mono (by simp))
    have hr3 : RefAt (fun k => L k ∨ k = g) W3 p gl hv D := (H.out.below hB3).kept (fun _ _ => rfl) (fun q hq hl => by
      rcases hl with h2 | h2
      · exact H.out.out q hq h2
      · have := H.out.lt q hq; omega)
    have rC3 : Row W3 g 90 C := by
      have h := HS.out.2
      rw [hg] at h
      exact h.below hbw3 (by omega)
    have hdn := (fault_zero HF.out).1
    have HST := Lib.hid (Rstep_any hr3 HP.out.2.1 hdn)
    have HB3 := Lib.hid (And.intro hB3 rC3)
    clear hbw3 hsz1 hB3 hr3 rC3 hdn HN HB1 HRD hg
    by_cases hm : D.may = true
    · rw [hm] at HST
      have hse : D.stepErr = 0 := by unfold DS.stepErr; rw [hm]; rfl
      have e1 : D.writeErr at' = 0 := by unfold DS.writeErr; rw [if_neg (by rw [HF.out]; simp), hse]
      have e2 : D.written at' b = { D.stepped with hangs := D.hangs ++ [(at'.toNat, b)] } := by unfold DS.written; rw [if_neg (by rw [HF.out]; simp), if_pos hm]
      obtain ⟨hdn0, h0, hn⟩ := fault_zero HF.out
      obtain ⟨k, rfl⟩ := Int.eq_ofNat_of_zero_le h0
      have HK0 := Lib.hid (show k < D.lasts.length by omega)
      have HE := Lib.hid (And.intro e1 (show D.written (k : Int) b = { D.stepped with hangs := D.hangs ++ [(k, b)] } from e2))
      clear hm hse e1 e2 h0 hn hdn0
      obtain ⟨a, c, rfl⟩ := own_slice H.out.han
      refine HST.out.mono ?_
      rintro e w2 ⟨rfl, hd2, hk2⟩
      obtain ⟨n, hnn⟩ : ∃ n, D.hangs.length = n := ⟨_, rfl⟩
      have HN := Lib.hid (show n < 1000000000 by have := HP.out.2.2.1; omega)
      have HNN := Lib.hid hnn
      have hbs := fun W => rone_write (k : Int) C HP.out.2.2.2.2 W
      have hbw := fun W => rbuild_write (k : Int) C HP.out.2.2.2.2 W
      have HC : Hid ((Tryz.prog.info? 90).map (·.size) = some C.length ∧ C.length = 128 ∧ ∀ v ∈ (Value.int .i64 (k : Int) :: C), v.oneCell' = true) := Lib.hid ⟨by rw [← HP.out.2.2.2.1]; exact blk_sizeK b HP.out.1, HP.out.2.2.2.2, fun v hv => by
        rcases List.mem_cons.1 hv with rfl | hv
        · rfl
        · rw [← HP.out.2.2.2.1] at hv; exact bvs_one b v hv⟩
      obtain ⟨i0, z0, HI⟩ : ∃ i z, Hid (Tryz.prog.info? 136 = some i ∧ i.zero = some z ∧ i.size = 129 ∧ i.bytes = 136 ∧ z.cells.size = 129) := by
        have hz := rwrite_info
        cases hi : Tryz.prog.info? 136 with
        | none => rw [hi] at hz; cases hz
        | some ie =>
          rw [hi] at hz
          simp only [Option.map_some, Option.some.injEq, Prod.mk.injEq] at hz
          exact ⟨ie, _, Lib.hid ⟨rfl, hz.1, hz.2.1, hz.2.2, by show (Value.int IntKind.i64 0 :: zW).toArray.size = 129; simp [zW]⟩⟩
      have rB : Row w2 g 90 C := (hk2.block g HB3.out.2.lt (.inr rfl)).trans HB3.out.2
      have hhn2 := hd2.han
      rw [(stepped_same D).2] at hhn2
      have hrow2 := hd2.row
      rw [HNN.out] at hhn2 hrow2
      obtain ⟨RC, HRC⟩ : ∃ RC, Hid (RC = [Value.slice (some ⟨gl, 0, none⟩) D.stepped.lasts.length D.stepped.lasts.length, .slice a n c, .int .i64 (D.stepped.steps : Nat), .int .i64 D.stepped.fuse, .bool D.stepped.down]) := ⟨_, Lib.hid rfl⟩
      have hne2 : (Value.slice a n c).ownBlock ≠ some p ∧ (Value.slice a n c).ownBlock ≠ some g := by
        have h1 := own_ne hhn2 hrow2 (by decide)
        have h2 := own_ne hhn2 rB (by decide)
        exact ⟨h1, h2⟩
      rw [← HRC.out] at hrow2
      have S2 : Row w2.drew p 45 RC ∧ Row w2.drew g 90 C := ⟨hrow2.drew, rB.drew⟩
      have H8 : Hid ((Row w2.drew p 45 RC ∧ Row w2.drew g 90 C) → Row (w2.drew.alloc (.cells (.int .i64 (k : Int) :: C).toArray 136)) p 45 RC ∧ Row (w2.drew.alloc (.cells (.int .i64 (k : Int) :: C).toArray 136)) g 90 C) := Lib.hid fun h3 => ⟨h3.1.alloc _, h3.2.alloc _⟩
      have H9 : (w2.drew.alloc (.cells (.int .i64 (k : Int) :: C).toArray 136)).ownsRow 0 136 129 (.slice a n c) n (wcs D.hangs) :=
        own_kept (w := w2.drew) (own_kept hhn2 (fun q hq => rfl)) (fun q hq => Below.heap_alloc _ _ _ (own_blk_lt hhn2 hq))
      have H10 : ∀ w5, (w2.drew.alloc (.cells (.int .i64 (k : Int) :: C).toArray 136)).grownBy w5 (Value.slice a n c).ownBlock → Row w5 p 45 RC ∧ Row w5 g 90 C := fun w5 h5 => by
        have h6 := H8.out S2
        exact ⟨(h5.block p h6.1.lt (fun e => hne2.1 e.symm)).trans h6.1, (h5.block g h6.2.lt (fun e => hne2.2 e.symm)).trans h6.2⟩
      have HD := Lib.hid (And.intro hd2 (And.intro hk2 rB))
      rw [HGE.out]
      have HS2 := Lib.hid (And.intro S2 (And.intro H9 H10))
      clear hd2 hk2 rB hhn2 hrow2 hne2 hnn S2 H9 H10
      go_wp2_with fail
      refine wp_region_noPanic ?_
      obtain ⟨S2, H9, H10⟩ := HS2.out
      refine region_held_last 12 (S := fun W => Row W p 45 RC ∧ Row W g 90 C) (by kernel_rfl) (by kernel_rfl) rfl S2 (fun hHeld => ?_)
      simp only [List.take_succ_cons, List.take_zero]
      refine wpAnyH_take (i := 0) (oi := { dst := some 21, op := Op.move (Operand.tmp 0), type := 28, pos := "ref.go:67", after := #[], guard := none }) (v := ?vvr_0) rfl (by kernel_rfl) (by kernel_rfl) (by kernel_rfl) (fun _ _ _ h => h) (Or.inl ⟨by rfl, ?yyr_0⟩) hHeld ?_
      case vvr_0 => exact .pointer (some ⟨p, 0, none⟩)
      case yyr_0 =>
        intro W hS
        go_simp
      try simp only [Act.put, List.setIfInBounds_toArray, List.set_cons_zero, List.set_cons_succ]
      refine wpAnyH_take (i := 1) (oi := { dst := some 22, op := Op.move (Operand.tmp 0), type := 28, pos := "ref.go:67", after := #[], guard := none }) (v := ?vvr_1) rfl (by kernel_rfl) (by kernel_rfl) (by kernel_rfl) (fun _ _ _ h => h) (Or.inl ⟨by rfl, ?yyr_1⟩) hHeld ?_
      case vvr_1 => exact .pointer (some ⟨p, 0, none⟩)
      case yyr_1 =>
        intro W hS
        go_simp
      try simp only [Act.put, List.setIfInBounds_toArray, List.set_cons_zero, List.set_cons_succ]
      refine wpAnyH_take (i := 2) (oi := { dst := some 23, op := Op.nilCheck (Operand.tmp 22), type := 0, pos := "ref.go:67", after := #[{ on := 1, ground := Ground.data }], guard := none }) (v := ?vvr_2) rfl (by kernel_rfl) (by kernel_rfl) (by kernel_rfl) (fun _ _ _ h => h) (Or.inl ⟨by rfl, ?yyr_2⟩) hHeld ?_
      case vvr_2 => exact .pointer (some ⟨p, 0, none⟩)
      case yyr_2 =>
        intro W hS
        go_simp
      try simp only [Act.put, List.setIfInBounds_toArray, List.set_cons_zero, List.set_cons_succ]
      refine wpAnyH_take (i := 3) (oi := { dst := some 24, op := Op.fieldAddr 45 (Operand.tmp 23) 1, type := 0, pos := "ref.go:67", after := #[{ on := 2, ground := Ground.data }], guard := none }) (v := ?vvr_3) rfl (by kernel_rfl) (by kernel_rfl) (by kernel_rfl) (fun _ _ _ h => h) (Or.inl ⟨by rfl, ?yyr_3⟩) hHeld ?_
      case vvr_3 => exact .pointer (some ⟨p, 1, none⟩)
      case yyr_3 =>
        intro W hS
        go_simp
      try simp only [Act.put, List.setIfInBounds_toArray, List.set_cons_zero, List.set_cons_succ]
      refine wpAnyH_take (i := 4) (oi := { dst := some 25, op := Op.load 43 (Operand.tmp 24), type := 43, pos := "ref.go:67", after := #[{ on := 3, ground := Ground.data }], guard := none }) (v := ?vvr_4) rfl (by kernel_rfl) (by kernel_rfl) (by kernel_rfl) (fun _ _ _ h => h) (Or.inl ⟨by rfl, ?yyr_4⟩) hHeld ?_
      case vvr_4 => exact .slice a n c
      case yyr_4 =>
        intro W hS
        obtain ⟨s1, s2⟩ := hS
        have q1 := s1.cell 1
        simp only [HRC.out, List.getElem?_cons_zero, List.getElem?_cons_succ] at q1
        go_simp
      try simp only [Act.put, List.setIfInBounds_toArray, List.set_cons_zero, List.set_cons_succ]
      refine wpAnyH_take (i := 5) (oi := { dst := some 26, op := Op.move (Operand.tmp 1), type := 3, pos := "ref.go:67", after := #[], guard := none }) (v := ?vvr_5) rfl (by kernel_rfl) (by kernel_rfl) (by kernel_rfl) (fun _ _ _ h => h) (Or.inl ⟨by rfl, ?yyr_5⟩) hHeld ?_
      case vvr_5 => exact .int .i64 k
      case yyr_5 =>
        intro W hS
        go_simp
      try simp only [Act.put, List.setIfInBounds_toArray, List.set_cons_zero, List.set_cons_succ]
      refine' wpAnyH_take (i := 6) (oi := { dst := some 27, op := Op.load 90 (Operand.tmp 5), type := 90, pos := "ref.go:67", after := #[], guard := none }) (v := _) rfl (by kernel_rfl) (by kernel_rfl) (by kernel_rfl) (fun _ _ _ h => h) (yieldsIf_load_mid (by rfl) _ _ rfl g 0 rfl C _ (fun W h => (fun j v hj => by rw [Nat.zero_add, h.2.cell]; exact hj)) Tryz.underlying90 rfl HC.out.1) hHeld ?_
      try simp only [Act.put, List.setIfInBounds_toArray, List.set_cons_zero, List.set_cons_succ]
      refine' wpAnyH_take (i := 7) (oi := { dst := some 28, op := Op.build 136 #[(0, Operand.tmp 26), (1, Operand.tmp 27)], type := 136, pos := "ref.go:67", after := #[{ on := 5, ground := Ground.data }, { on := 6, ground := Ground.data }], guard := none }) (v := _) rfl (by kernel_rfl) (by kernel_rfl) (by kernel_rfl) (fun _ _ _ h => h) (yields_build (by rfl) _ _ rfl #[(0, .int .i64 (k : Int)), (1, .agg C.toArray)] (.int .i64 (k : Int) :: C).toArray (by go_simp) hbw) hHeld ?_
      try simp only [Act.put, List.setIfInBounds_toArray, List.set_cons_zero, List.set_cons_succ]
      refine wpAnyH_ready (rs := [8]) (by kernel_rfl) (by simp) (AllReadyH.cons (o := { dst := some 29, op := Op.buildSlice 43 1 #[(0, Operand.tmp 28)], type := 43, pos := "ref.go:67", after := #[{ on := 7, ground := Ground.data }], guard := none }) rfl (fun K hK => ?_) AllReadyH.nil)
      rw [if_pos (by rfl)]
      have S3 := H8.out S2
      refine wp_buildSliceRun 43 1 _ rfl #[(0, .agg (.int .i64 (k : Int) :: C).toArray)] (.slice (some ⟨w2.heap.size, 0, none⟩) 1 1) (w2.drew.alloc (.cells (.int .i64 (k : Int) :: C).toArray 136)) ?hvv ?hrr ?_
      case hrr => exact hbs w2.drew
      case hvv => simp only [List.map_toArray, List.map_cons, List.map_nil, Act.eval, Array.getD_eq_getD_getElem?, List.getElem?_toArray, List.getElem?_cons_succ, List.getElem?_cons_zero, Option.getD_some]
      refine hK.out _ _ S3 (fun hHeld => ?_)
      clear hK K
      try simp only [Act.put, List.setIfInBounds_toArray, List.set_cons_zero, List.set_cons_succ]
      refine wpAnyH_ready (rs := [9]) (by kernel_rfl) (by simp) (AllReadyH.cons (o := { dst := some 30, op := Op.call { callee := Callee.builtin Builtin.append, args := #[Operand.tmp 25, Operand.tmp 29], argTypes := #[43, 43] }, type := 43, pos := "ref.go:67", after := #[{ on := 4, ground := Ground.data }, { on := 8, ground := Ground.data }], guard := none }) rfl (fun K hK => ?_) AllReadyH.nil)
      rw [if_pos (by rfl)]
      refine wp_append_lies _ (.tmp 25) (.tmp 29) 43 rfl 0 136 i0 z0 129 136 Tryz.underlying43 HI.out.1 HI.out.2.1 HI.out.2.2.1 HI.out.2.2.2.1 HI.out.2.2.2.2 (by omega) (.slice a n c) n (wcs D.hangs) rfl H9 ⟨w2.heap.size, 0, none⟩ 1 1 (.int .i64 k :: C) rfl (by rw [List.length_cons, HC.out.2.1]) (World.news_of_block (cs := (.int .i64 (k : Int) :: C).toArray) (t := 136) (fr := (0, 0)) (heap_alloc_new w2.drew _)) HC.out.2.2 (by omega) (by have := HN.out; unfold maxLen; omega) (by have := HN.out; omega) (Nat.zero_le _) _ rfl ?_
      intro g5 cap5 w5 hown5 hg5 hat5 hlt5
      try simp only [Act.put, List.setIfInBounds_toArray, List.set_cons_zero, List.set_cons_succ]
      have S4 := H10 w5 hg5
      have HO5 := Lib.hid (And.intro hown5 (And.intro hg5 (And.intro hat5 hlt5)))
      clear hown5 hg5 hat5 hlt5 H10 H9
      refine hK.out _ _ S4 (fun hHeld => ?_)
      clear hK K
      try simp only [Act.put, List.setIfInBounds_toArray, List.set_cons_zero, List.set_cons_succ]
      refine wpAnyH_take (i := 10) (oi := { dst := some 31, op := Op.nilCheck (Operand.tmp 21), type := 0, pos := "ref.go:67", after := #[{ on := 0, ground := Ground.data }, { on := 0, ground := Ground.phase }, { on := 1, ground := Ground.phase }, { on := 2, ground := Ground.phase }, { on := 3, ground := Ground.phase }, { on := 4, ground := Ground.phase }, { on := 5, ground := Ground.phase }, { on := 6, ground := Ground.phase }, { on := 7, ground := Ground.phase }, { on := 8, ground := Ground.phase }, { on := 9, ground := Ground.phase }], guard := none }) (v := ?vvr_10) rfl (by kernel_rfl) (by kernel_rfl) (by kernel_rfl) (fun _ _ _ h => h) (Or.inl ⟨by rfl, ?yyr_10⟩) hHeld ?_
      case vvr_10 => exact .pointer (some ⟨p, 0, none⟩)
      case yyr_10 =>
        intro W hS
        go_simp
      try simp only [Act.put, List.setIfInBounds_toArray, List.set_cons_zero, List.set_cons_succ]
      refine wpAnyH_take (i := 11) (oi := { dst := some 32, op := Op.fieldAddr 45 (Operand.tmp 31) 1, type := 0, pos := "ref.go:67", after := #[{ on := 10, ground := Ground.data }, { on := 0, ground := Ground.phase }, { on := 1, ground := Ground.phase }, { on := 2, ground := Ground.phase }, { on := 3, ground := Ground.phase }, { on := 4, ground := Ground.phase }, { on := 5, ground := Ground.phase }, { on := 6, ground := Ground.phase }, { on := 7, ground := Ground.phase }, { on := 8, ground := Ground.phase }, { on := 9, ground := Ground.phase }], guard := none }) (v := ?vvr_11) rfl (by kernel_rfl) (by kernel_rfl) (by kernel_rfl) (fun _ _ _ h => h) (Or.inl ⟨by rfl, ?yyr_11⟩) hHeld ?_
      case vvr_11 => exact .pointer (some ⟨p, 1, none⟩)
      case yyr_11 =>
        intro W hS
        go_simp
      try simp only [Act.put, List.setIfInBounds_toArray, List.set_cons_zero, List.set_cons_succ]
      refine wpAnyH_done (by kernel_rfl) ?_ _
      show wpList _ _ _ [_] _ _

      have q5 := S4.1.cell 1
      have f5 := S4.1.frozen 1
      simp only [HRC.out, List.getElem?_cons_zero, List.getElem?_cons_succ] at q5
      have HS4 := Lib.hid S4
      clear S4 S3 S2 hHeld
      go_wp2_with fail
      refine NoPanic.normal ?_
      go_wp2
      go_ret
      obtain ⟨hd2, hk2, rB⟩ := HD.out
      obtain ⟨ho5, hg5, ha5, hl5⟩ := HO5.out
      obtain ⟨rp5, rb5⟩ := HS4.out
      have hst := stepped_same D
      have hnn := HNN.out
      rw [HE.out.1, HE.out.2]
      have hlas4 : Row (w2.drew.alloc (.cells (.int .i64 (k : Int) :: C).toArray 136)) gl 90 (D.stepped.lasts.flatten.map bv) := (Row.drew hd2.las).alloc _
      have hlas5 : Row w5 gl 90 (D.stepped.lasts.flatten.map bv) := (hg5.block gl hlas4.lt (fun e => hd2.ne_hl (by rw [hnn]; exact e.symm))).trans hlas4
      have hne5 : p ≠ g5 := fun e => own_ne ho5 rp5 (by decide) (by rw [e]; rfl)
      have hCb := HP.out.2.2.2.1
      have hw2 : w.heap.size ≤ w2.heap.size := Nat.le_trans HB3.out.1.size hk2.size
      refine ⟨rfl, ⟨gl, .slice (some ⟨g5, 0, none⟩) (n + 1) cap5, ⟨?_, ?_, ?_, ?_, fun h => hd2.fp (.inl h), fun h => hd2.fl (.inl h), fun q hq hl => ?_⟩⟩, ?_⟩
      · have := rp5.set 1 (.slice (some ⟨g5, 0, none⟩) (n + 1) cap5)
        rw [HRC.out] at this
        simpa using this
      · exact (Below.heap_setCell _ _ _ _ (fun e => hd2.ne_lp e)).trans hlas5
      · have h := own_kept (w' := w5.setCell ⟨p, 1, none⟩ (.slice (some ⟨g5, 0, none⟩) (n + 1) cap5)) ho5 (fun q hq => Below.heap_setCell _ _ _ _ (fun e => by
          have e1 : g5 = q := by simpa [Value.ownBlock] using hq
          exact hne5 (e1.trans e).symm))
        have e1 : (D.hangs ++ [(k, b)]).length = n + 1 := by rw [List.length_append, hnn]; rfl
        have e2 : wcs (D.hangs ++ [(k, b)]) = wcs D.hangs ++ .int .i64 (k : Int) :: C := by rw [wcs_snoc]; unfold wcells; rw [hCb]
        show World.ownsRow _ _ _ _ _ (D.hangs ++ [(k, b)]).length (wcs (D.hangs ++ [(k, b)]))
        rw [e1, e2]
        exact h
      · have hg := hd2.good
        have hn0 := HK0.out
        rw [← hst.1] at hn0
        exact ⟨hg.least, hg.most, hg.rows, fun x hx => by
          rcases List.mem_append.1 hx with hx | hx
          · rw [← hst.2] at hx; exact hg.sect x hx
          · rw [List.mem_singleton.1 hx]; exact hn0, fun x hx => by
          rcases List.mem_append.1 hx with hx | hx
          · rw [← hst.2] at hx; exact hg.blks x hx
          · rw [List.mem_singleton.1 hx]; exact HP.out.1, hg.fuse1, hg.fuse2⟩
      · have e1 : g5 = q := by simpa [Value.ownBlock] using hq
        subst e1
        rcases ha5 with h1 | h1
        · exact hd2.fh g5 (by rw [hnn]; exact h1) (.inl hl)
        · have := HL.out _ hl
          rw [h1] at this
          simp at this
          omega
      · have k1 : Keeps L w W3 := Keeps.of_below HB3.out.1 (fun q hq _ => hq)
        have k2 := (k1.trans (hk2.mono (fun q h => .inl h))).drew1.alloc (.cells (.int .i64 (k : Int) :: C).toArray 136)
        have k4 := k2.grown hg5 (fun q hq => .inl (fun h => hd2.fh q (by rw [hnn]; exact hq) (.inl h)))
        exact k4.setCell (p := ⟨p, 1, none⟩) (.inl (fun h => hd2.fp (.inl h))) _
    · have hmf : D.may = false := by simpa using hm
      rw [hmf] at HST
      have hse : D.stepErr = 13 := by unfold DS.stepErr; rw [hmf]; rfl
      have e1 : D.writeErr at' = 13 := by unfold DS.writeErr; rw [if_neg (by rw [HF.out]; simp), hse]
      have e2 : D.written at' b = D.stepped := by unfold DS.written; rw [if_neg (by rw [HF.out]; simp), if_neg hm]
      have HE := Lib.hid (And.intro e1 e2)
      clear hm hmf hse e1 e2
      refine HST.out.mono ?_
      rintro e w2 ⟨rfl, hd2, hk2⟩
      have HD := Lib.hid (And.intro hd2 hk2)
      clear hd2 hk2
      go_wp2_with fail
      go_ret
      rw [HE.out.1, HE.out.2]
      have h2 : RefIs (fun k => L k ∨ k = g) w2 p D.stepped := ⟨_, _, HD.out.1⟩
      exact ⟨rfl, h2.more (fun q hq => .inl (.inl hq)), (Keeps.of_below HB3.out.1 (fun q hq _ => hq)).trans (HD.out.2.mono (fun q h => .inl h))⟩
  · have e1 : D.writeErr at' = D.fault at' := by unfold DS.writeErr; rw [if_pos hf]
    have e2 : D.written at' b = D := by unfold DS.written; rw [if_pos hf]
    rw [e1, e2]
    obtain ⟨F, hF⟩ : ∃ F, D.fault at' = F := ⟨_, rfl⟩
    rw [hF] at HRD hf ⊢
    have hfb : ((F : Int) != 0) = true := by simpa using hf
    clear hZ hZl hRBl hRsz hRone hRB hRV B0 h1 r0 h hL hb hs hh hC hbl hCl e1 e2 hF
    go_enter Tryz.func50, Tryz.ntmps50
    go_wp2_with fail
    refine HRD.out.mono ?_
    rintro e w1 ⟨rfl, hb1⟩
    have HB1 := Lib.hid hb1
    clear hb1
    go_wp2_with (first
      | (refine wpList_store_row rfl 90 (.tmp 7) (.tmp 13) rfl w1.heap.size RB.toArray rfl rfl 90 Z.toArray (HNEW.out w1).1 (by rw [List.size_toArray]; exact HZ.out.2.2.2.1) (by rw [List.size_toArray, List.size_toArray, HZ.out.2.1, HZ.out.2.2.1]) HZ.out.2.2.2.2 ?_; have hN := (HNEW.out w1).2; generalize (w1.alloc (.cells Z.toArray 90)).setRow w1.heap.size RB.toArray = W3 at hN ⊢; have HN := Lib.hid (HS.out.1.trans ((Below.trans HB1.out (hN.mono HB1.out.size)).mono (by simp))); clear hN HNEW)
      | fail)
    go_ret
    exact ⟨rfl, ⟨_, _, H.out.below HN.out⟩, Keeps.of_below HN.out (fun q hq _ => hq)⟩
end
end Go.Proofs.YtiaaeniopjpfpaaGreatDoor

namespace Go.Proofs.YtiaaeniopjpfpaaGreatDoor
open Go.RowKit Go.Maps
set_option linter.unusedVariables false
set_option linter.unusedSimpArgs false

def setAll (l : List (Nat × List UInt8)) (L : List (List UInt8)) : List (List UInt8) := l.foldl (fun L x => L.set x.1 x.2) L
theorem setAll_snoc (l : List (Nat × List UInt8)) (x : Nat × List UInt8) (L : List (List UInt8)) : setAll (l ++ [x]) L = (setAll l L).set x.1 x.2 := by
  unfold setAll
  rw [List.foldl_append]
  rfl
theorem setAll_len (l : List (Nat × List UInt8)) (L : List (List UInt8)) : (setAll l L).length = L.length := by
  induction l using snoc_ind with
  | h0 => rfl
  | h1 l x ih => rw [setAll_snoc, List.length_set, ih]
theorem setAll_get (l : List (Nat × List UInt8)) (L : List (List UInt8)) (i : Nat) : (setAll l L)[i]? = (L[i]?).map fun b => match lastAt l (i : Int) with
  | some j => (l.getD j (0, [])).2
  | none => b := by
  induction l using snoc_ind with
  | h0 => rw [lastAt_nil]; simp [setAll]
  | h1 l x ih =>
    rw [setAll_snoc, List.getElem?_set, lastAt_snoc, setAll_len]
    by_cases e : x.1 = i
    · have e' : (x.1 : Int) = (i : Int) := by omega
      rw [if_pos e, if_pos e']
      by_cases hl : x.1 < L.length
      · rw [if_pos hl, List.getElem?_eq_getElem (by omega)]
        simp
      · rw [if_neg hl, List.getElem?_eq_none (by omega)]
        rfl
    · have e' : ¬ (x.1 : Int) = (i : Int) := by omega
      rw [if_neg e, if_neg e', ih]
      cases hk : lastAt l (i : Int) with
      | none => rfl
      | some j =>
        have hj := lastAt_lt hk
        have e2 : (l ++ [x]).getD j (0, []) = l.getD j (0, []) := by
          rw [List.getD_eq_getElem?_getD, List.getD_eq_getElem?_getD, List.getElem?_append_left hj]
        show _ = (L[i]?).map fun b => ((l ++ [x]).getD j (0, [])).2
        rw [e2]
theorem settled_all (D : DS) : D.settled = setAll D.hangs D.lasts := by
  apply List.ext_getElem?
  intro i
  rw [setAll_get]
  unfold DS.settled
  rw [List.getElem?_mapIdx]
  rfl
theorem settled_get (D : DS) (i : Nat) (hi : i < D.lasts.length) : D.settled[i]? = some (match lastAt D.hangs (i : Int) with
  | some j => (D.hangs.getD j (0, [])).2
  | none => D.lasts[i]) := by
  unfold DS.settled
  rw [List.getElem?_mapIdx, List.getElem?_eq_getElem hi]
  rfl
theorem kept_none (l : List (Nat × List UInt8)) (L : List (List UInt8)) (k : Int) (h : k < 1) : kept l L k = L := by
  cases l with
  | nil => rfl
  | cons x r => exact kept_stop x r L k h
theorem kept_full (l : List (Nat × List UInt8)) (h1 : ∀ x ∈ l, x.2.length = 128) : ∀ (L : List (List UInt8)) (k : Int), (∀ b ∈ L, b.length = 128) → (l.length : Int) * 128 ≤ k → kept l L k = setAll l L := by
  induction l with
  | nil => intro L k _ _; rfl
  | cons x r ih =>
    intro L k hL hk
    have hx := h1 x (by simp)
    rw [List.length_cons] at hk
    have hg := kept_go x r L k 128 (by omega) (by omega)
    have e : x.2.take 128 ++ (L.getD x.1 []).drop 128 = x.2 := by
      rw [List.take_of_length_le (by omega)]
      have : (L.getD x.1 []).drop 128 = [] := by
        by_cases hl : x.1 < L.length
        · rw [List.drop_of_length_le (by rw [getD_len hL hl]; omega)]
        · rw [List.getD_eq_getElem?_getD, List.getElem?_eq_none (by omega)]; rfl
      rw [this, List.append_nil]
    rw [e] at hg
    rw [hg]
    rw [ih (fun y hy => h1 y (by simp [hy])) (L.set x.1 x.2) _ (set_rows hL x.1 x.2 hx) (by omega)]
    rfl
theorem read_settled {D : DS} (hd : D.down = false) {i : Nat} (hi : i < D.lasts.length) : D.read i = D.settled.getD i [] := by
  have hf : D.fault i = 0 := by
    unfold DS.fault
    rw [hd, if_neg (by decide), if_pos (by omega)]
  unfold DS.read
  rw [if_pos hf]
  have e := settled_get D i hi
  unfold DS.blk
  rw [List.getD_eq_getElem?_getD (l := D.settled), e]
  cases lastAt D.hangs (i : Int) with
  | none => simp [List.getD_eq_getElem?_getD, List.getElem?_eq_getElem hi]
  | some j => rfl
theorem settled_len (D : DS) : D.settled.length = D.lasts.length := by unfold DS.settled; rw [List.length_mapIdx]
theorem settled_rows {D : DS} (h : D.ok) : ∀ b ∈ D.settled, b.length = 128 := by
  intro b hb
  obtain ⟨i, hi, rfl⟩ := List.getElem_of_mem hb
  have hl : i < D.lasts.length := by rw [← settled_len]; exact hi
  have e := settled_get D i hl
  rw [List.getElem?_eq_getElem hi] at e
  injection e with e
  rw [e]
  cases hk : lastAt D.hangs (i : Int) with
  | none => exact h.rows _ (List.getElem_mem hl)
  | some j =>
    have hj := lastAt_lt hk
    show (D.hangs.getD j (0, [])).2.length = 128
    rw [List.getD_eq_getElem?_getD, List.getElem?_eq_getElem hj]
    exact h.blks _ (List.getElem_mem hj)
/-- How many hang behind a write: one more, if it is done. -/
theorem Calm.writes {D : DS} {L : List (List UInt8)} {h n : Nat} (c : Calm D L h n) (k : Int) (b : List UInt8) :
    (D.writeErr k = 0 ∧ (D.written k b).hangs.length = D.hangs.length + 1) ∨ (D.writeErr k = 2 ∧ D.written k b = D) := by
  unfold DS.writeErr DS.written
  rw [c.fault]
  split
  · left
    rw [if_neg (by decide), if_neg (by decide), if_pos c.may, c.err]
    exact ⟨rfl, by simp⟩
  · right
    rw [if_pos (by decide), if_pos (by decide)]
    exact ⟨rfl, rfl⟩
theorem wpList_buildSlice_run {P : Program} {ops : Array Oper} {rest : List Oper} {op : Oper} {a : Act} {w : World} {Q : Exit → Act → World → Prop} (hg : op.guard = none) (t : TypeId) (n : Nat) (parts : Array (Nat × Operand)) (ho : op.op = .buildSlice t n parts)
    (vals : Array (Nat × Value)) (v : Value) (W : World) (hv : (parts.map fun (i, x) => (i, a.eval x)) = vals) (hrun : (Instr.buildSlice t n vals).run P w = .ok v W)
    (h : wpList P ops Q rest (a.put op.dst v) W) : wpList P ops Q (op :: rest) a w :=
  wpList_plain hg fun _ hK => wp_buildSliceRun t n parts ho vals v W hv hrun (hK _ _ h)
end Go.Proofs.YtiaaeniopjpfpaaGreatDoor

namespace Go.Proofs.YtiaaeniopjpfpaaGreatDoor
open Go.RowKit Go.Maps
set_option linter.unusedVariables false
set_option linter.unusedSimpArgs false

section
variable {L L' : Nat → Prop} {w w' : World} {p gl : Nat} {hv : Value} {D D' : DS}
theorem setAll_rows {l : List (Nat × List UInt8)} {M : List (List UInt8)} (hM : ∀ b ∈ M, b.length = 128) (hl : ∀ x ∈ l, x.2.length = 128) : ∀ b ∈ setAll l M, b.length = 128 := by
  induction l using snoc_ind with
  | h0 => exact hM
  | h1 l x ih =>
    rw [setAll_snoc]
    exact set_rows (ih (fun y hy => hl y (by simp [hy]))) _ _ (hl x (by simp))
/-- What lasts is another thing, all else is as it was. -/
theorem RefAt.lasting {w1 wr : World} {ls : List (List UInt8)} (hd1 : RefAt L w1 p gl hv D) (hgr : w1.grownBy wr (some gl)) (hrow : Row wr gl 90 (ls.flatten.map bv)) (hlen : ls.length = D.lasts.length) (h128 : ∀ b ∈ ls, b.length = 128) :
    RefAt L wr p gl hv { D with lasts := ls } := by
  have hg := hd1.good
  refine ⟨?_, hrow, own_kept hd1.han (fun q hq => hgr.block q (own_blk_lt hd1.han hq) (fun e => by injection e with e; subst e; exact hd1.ne_hl hq)), ⟨by rw [hlen]; exact hg.least, by rw [hlen]; exact hg.most, h128, by rw [hlen]; exact hg.sect, hg.blks, hg.fuse1, hg.fuse2⟩, hd1.fp, hd1.fl, hd1.fh⟩
  show Row wr p _ [.slice (some ⟨gl, 0, none⟩) ls.length ls.length, _, _, _, _]
  rw [hlen]
  exact (hgr.block p hd1.row.lt (fun e => hd1.ne_lp (by injection e with e; exact e.symm))).trans hd1.row
/-- Nothing hangs any more. -/
theorem RefAt.dropped (h : RefAt L w p gl hv D) : RefAt L (w.setCell ⟨p, 1, none⟩ (.slice none 0 0)) p gl (.slice none 0 0) { D with hangs := [] } := by
  have hg := h.good
  refine ⟨?_, (Below.heap_setCell _ _ _ _ (fun e => h.ne_lp e)).trans h.las, ⟨by simp [wcs_nil], .inl ⟨rfl, rfl⟩⟩, ⟨hg.least, hg.most, hg.rows, fun x hx => (by cases hx), fun x hx => (by cases hx), hg.fuse1, hg.fuse2⟩, h.fp, h.fl, fun g hg => by simp [Value.ownBlock] at hg⟩
  have := h.row.set 1 (.slice none 0 0)
  simpa using this

/-- The loop's relation: the first writes are done. -/
structure RyR (w : World) (gl : Nat) (D : DS) (k : Nat) (wr : World) : Prop where
  row : Row wr gl 90 ((setAll (D.hangs.take k) D.lasts).flatten.map bv)
  gr : w.grownBy wr (some gl)

set_option maxRecDepth 20000 in
set_option maxHeartbeats 1000000 in
theorem RSync_any (h : RefAt L w p gl hv D) (hs : D.steps < 1000000000) (hh : D.hangs.length < 1000000000) :
    Calls Tryz.prog 51 #[.pointer (some ⟨p, 0, none⟩)] w fun e w' => e = .returned (.int .i64 D.stepErr) ∧ RefIs L w' p D.synced ∧ Keeps L w w' := by
  have hz9 := (zero_of_info rW_info).1
  have c4 := h.row.cell 4
  simp only [List.getElem?_cons_zero, List.getElem?_cons_succ] at c4
  by_cases hdn : D.down = true
  · have hm : D.may = false := by unfold DS.may; rw [hdn]; simp
    have e1 : D.stepErr = 13 := by unfold DS.stepErr; rw [hm]; rfl
    have e2 : D.synced = D := by
      unfold DS.synced DS.stepped
      rw [if_neg (by rw [hm]; simp)]
      split
      · cases D; simp only at hdn; subst hdn; rfl
      · rfl
    rw [e1, e2]
    rw [hdn] at c4
    have H := Lib.hid h
    clear h hdn hm e1 e2 hs hh hz9
    go_enter Tryz.func51, Tryz.ntmps51
    go_wp2
    go_ret
    exact ⟨rfl, ⟨_, _, H.out⟩, Keeps.refl _ _⟩
  have hdn : D.down = false := by simpa using hdn
  rw [hdn] at c4
  have HST := Lib.hid (Rstep_any h hs hdn)
  by_cases hm : D.may = true
  · have e1 : D.stepErr = 0 := by unfold DS.stepErr; rw [hm]; rfl
    have e2 : D.synced = { D.stepped with lasts := D.settled, hangs := [] } := by unfold DS.synced; rw [if_pos hm]
    rw [hm] at HST
    rw [e1]
    obtain ⟨a, c, rfl⟩ := own_slice h.han
    obtain ⟨n, hn⟩ : ∃ n, D.hangs.length = n := ⟨_, rfl⟩
    have hnI : (n : Int) < 1000000000 := by omega
    have HN := Lib.hid (And.intro hn (And.intro e2 hh))
    have H := Lib.hid h
    clear h hm e1 e2 hs hh hdn hn
    go_enter Tryz.func51, Tryz.ntmps51
    go_wp2_with fail
    refine HST.out.mono ?_
    rintro e w1 ⟨rfl, hd1, hk1⟩
    have hnE : D.stepped.hangs.length = n := by rw [(stepped_same D).2, HN.out.1]
    have hset : D.settled = setAll D.stepped.hangs D.stepped.lasts := by rw [settled_all, (stepped_same D).1, (stepped_same D).2]
    have HSET := Lib.hid hset
    clear hset
    obtain ⟨E, HE⟩ : ∃ E, Hid (D.stepped = E) := ⟨_, Lib.hid rfl⟩
    rw [HE.out] at hnE hd1 HSET
    rw [HN.out.1] at hd1
    have c1 := hd1.row.cell 1
    simp only [List.getElem?_cons_zero, List.getElem?_cons_succ] at c1
    have HD := Lib.hid (And.intro hd1 (And.intro hk1 hnE))
    have HR0 : Hid (RyR w1 gl E 0 w1) := Lib.hid ⟨hd1.las, World.grownBy.refl w1 _⟩
    clear hd1 hk1 hnE c4 HST
    go_wp2_with fail
    go_loopw [19] (fun i wr => ∃ (k : Nat), k ≤ n ∧ i = .int .i64 k ∧ Hid (RyR w1 gl E k wr)) (fun i _ => n - (intOf i).toNat)
    case atStart => exact ⟨0, Nat.zero_le _, rfl, HR0⟩
    case round =>
      obtain ⟨k, hkn, rfl, HREL⟩ := hrel
      by_cases hlt : k < n
      · have hh := HD.out.1
        have hhn : E.hangs.length = n := HD.out.2.2
        obtain ⟨x, hx⟩ : ∃ x, E.hangs[k]? = some x := ⟨_, List.getElem?_eq_getElem (by rw [hhn]; exact hlt)⟩
        have hxl := hh.good.blks x (List.mem_of_getElem? hx)
        have hxs := hh.good.sect x (List.mem_of_getElem? hx)
        obtain ⟨gh, rfl, hrng⟩ := RefAt.nth (by rw [← hhn] at hh; exact hh) k x hx (wr := wr) (fun g hg hne => HREL.out.gr.block g hg (fun e => hne (by injection e)))
        obtain ⟨WC, hF⟩ := copyF wr x hxl
        rw [hF.eq] at hrng
        obtain ⟨x1, hx1⟩ : ∃ x1, x.1 = x1 := ⟨_, rfl⟩
        obtain ⟨XC, hXC⟩ : ∃ XC, x.2.map bv = XC := ⟨_, rfl⟩
        have hWC : WC = .int .i64 (x1 : Nat) :: XC := by rw [← hF.eq, ← hx1, ← hXC]; rfl
        have hsz := blk_sizeK _ hxl
        have hone := blkV_one x.2
        have hXl : XC.length = 128 := by rw [← hXC, List.length_map, hxl]
        rw [hXC] at hsz hone
        obtain ⟨nl, hnl⟩ : ∃ nl, E.lasts.length = nl := ⟨_, rfl⟩
        rw [hnl, hx1] at hxs
        have hltI : (k : Int) < (n : Int) := by omega
        have hx1I : (x1 : Int) < (nl : Int) := by omega
        have hx10 : ¬ (x1 : Int) < 0 := by omega
        have hx1g : ¬ (nl : Int) ≤ (x1 : Int) := by omega
        have HW := Lib.hid (And.intro hrng hF)
        have HX := Lib.hid (And.intro hx (And.intro hx1 (And.intro hXC (And.intro hxl (And.intro hWC (And.intro hlt (And.intro hsz (And.intro hone hXl))))))))
        have HNL := Lib.hid hnl
        have HAF : Hid (Row ((wr.alloc (.cells (.int .i64 0 :: zW).toArray 136)).setRow wr.heap.size WC.toArray) wr.heap.size 136 WC ∧ Below wr.heap.size wr ((wr.alloc (.cells (.int .i64 0 :: zW).toArray 136)).setRow wr.heap.size WC.toArray)) := Lib.hid ⟨hF.row, hF.bel⟩
        clear hh hx hxl hxs hrng hF hWC hx1 hXC hlt hsz hone hXl hhn c1 hnl
        go_wp2_with (first
          | (with_reducible refine wpList_load_mid rfl 136 (.tmp 21) rfl gh (k * 129) rfl WC _ HW.out.1 Tryz.underlying136 rfl HW.out.2.size ?_)
          | (refine wpList_store_row rfl 136 (.tmp 4) (.tmp 22) rfl wr.heap.size WC.toArray rfl rfl 136 (Value.int IntKind.i64 0 :: zW).toArray HW.out.2.row0 (by rw [List.size_toArray]; exact HW.out.2.size) (by rw [List.size_toArray, List.size_toArray, HW.out.2.len, HW.out.2.z129]) HW.out.2.one ?_)
          | fail)
        have hAF := HAF.out
        generalize (wr.alloc (.cells (.int .i64 0 :: zW).toArray 136)).setRow wr.heap.size WC.toArray = W2 at hAF ⊢
        obtain ⟨q, hq⟩ : ∃ q, wr.heap.size = q := ⟨_, rfl⟩
        rw [hq] at hAF ⊢
        have hgr2 : w1.grownBy W2 (some gl) := HREL.out.gr.andThen (below_grow (by rw [hq]; exact hAF.2)) (fun j hj => by cases hj)
        have hrow2 : Row W2 gl 90 ((setAll (E.hangs.take k) E.lasts).flatten.map bv) := HREL.out.row.below hAF.2 (by rw [← hq]; exact HREL.out.row.lt)
        obtain ⟨RC, HRC⟩ : ∃ RC, Hid (RC = [Value.slice (some ⟨gl, 0, none⟩) nl nl, .slice (some ⟨gh, 0, none⟩) n c, .int .i64 (E.steps : Nat), .int .i64 E.fuse, .bool E.down]) := ⟨_, Lib.hid rfl⟩
        have hrp : Row W2 p 45 RC := by
          have h := (hgr2.block p HD.out.1.row.lt (fun e => HD.out.1.ne_lp (by injection e with e; exact e.symm))).trans HD.out.1.row
          rw [HNL.out] at h
          rw [HRC.out]
          exact h
        have h128 : ∀ b ∈ setAll (E.hangs.take k) E.lasts, b.length = 128 := setAll_rows HD.out.1.good.rows (fun x hx => HD.out.1.good.blks x (List.mem_of_mem_take hx))
        have hslen := setAll_len (E.hangs.take k) E.lasts
        have hfl := flat_length _ h128
        have hxb : x1 < nl := by omega
        have HS0 : Hid (Row W2.drew p 45 RC ∧ Row W2.drew q 136 WC) := Lib.hid ⟨hrp.drew, hAF.1.drew⟩
        have HW0 : Hid (WC[0]? = some (.int .i64 (x1 : Nat)) ∧ ∀ W : World, Row W q 136 WC → W.rangeAt q 1 XC) := Lib.hid ⟨by rw [HX.out.2.2.2.2.1]; rfl, fun W hW j v hj => by rw [hW.cell, HX.out.2.2.2.2.1, Nat.add_comm 1 j, List.getElem?_cons_succ]; exact hj⟩
        have HTH : Hid (W2.drew.there gl (x1 * 128) 128) := Lib.hid (row_thereK (Row.drew hrow2) (x1 * 128) 128 (by rw [List.length_map, hfl, hslen, HNL.out]; omega))
        have HFIN : Hid (RyR w1 gl E (k + 1) (W2.drew.setCells gl (x1 * 128) XC)) := Lib.hid (by
          have hsec := Row.sector (Row.drew hrow2) h128 x1 (by rw [hslen, HNL.out]; exact hxb) x.2 HX.out.2.2.2.1
          rw [HX.out.2.2.1] at hsec
          have hgd : w1.grownBy W2.drew (some gl) := ⟨hgr2.os, hgr2.tape, hgr2.output, hgr2.size, hgr2.block⟩
          refine ⟨?_, hgd.andThen (setCells_grown W2.drew gl (x1 * 128) XC) (fun j hj => .inr hj)⟩
          rw [take_one _ _ _ HX.out.1, setAll_snoc, HX.out.2.1]
          exact hsec)
        clear hAF hgr2 hrow2 hrp h128 hslen hfl hxb hq HAF
        refine wp_region_noPanic ?_
        refine region_held_last 9 (S := fun W => Row W p 45 RC ∧ Row W q 136 WC) (by kernel_rfl) (by kernel_rfl) rfl HS0.out (fun hHeld => ?_)
        simp only [List.take_succ_cons, List.take_zero]
        refine wpAnyH_take (i := 0) (oi := { dst := some 23, op := Op.move (Operand.tmp 0), type := 28, pos := "ref.go:77", after := #[], guard := none }) (v := ?vvs_0) rfl (by kernel_rfl) (by kernel_rfl) (by kernel_rfl) (fun _ _ _ h => h) (Or.inl ⟨by rfl, ?yys_0⟩) hHeld ?_
        case vvs_0 => exact .pointer (some ⟨p, 0, none⟩)
        case yys_0 =>
          intro W hS
          go_simp
        try simp only [Act.put, List.setIfInBounds_toArray, List.set_cons_zero, List.set_cons_succ]
        refine wpAnyH_take (i := 1) (oi := { dst := some 24, op := Op.nilCheck (Operand.tmp 23), type := 0, pos := "ref.go:77", after := #[{ on := 0, ground := Ground.data }], guard := none }) (v := ?vvs_1) rfl (by kernel_rfl) (by kernel_rfl) (by kernel_rfl) (fun _ _ _ h => h) (Or.inl ⟨by rfl, ?yys_1⟩) hHeld ?_
        case vvs_1 => exact .pointer (some ⟨p, 0, none⟩)
        case yys_1 =>
          intro W hS
          go_simp
        try simp only [Act.put, List.setIfInBounds_toArray, List.set_cons_zero, List.set_cons_succ]
        refine wpAnyH_take (i := 2) (oi := { dst := some 25, op := Op.fieldAddr 45 (Operand.tmp 24) 0, type := 0, pos := "ref.go:77", after := #[{ on := 1, ground := Ground.data }], guard := none }) (v := ?vvs_2) rfl (by kernel_rfl) (by kernel_rfl) (by kernel_rfl) (fun _ _ _ h => h) (Or.inl ⟨by rfl, ?yys_2⟩) hHeld ?_
        case vvs_2 => exact .pointer (some ⟨p, 0, none⟩)
        case yys_2 =>
          intro W hS
          go_simp
        try simp only [Act.put, List.setIfInBounds_toArray, List.set_cons_zero, List.set_cons_succ]
        refine wpAnyH_take (i := 3) (oi := { dst := some 26, op := Op.load 42 (Operand.tmp 25), type := 42, pos := "ref.go:77", after := #[{ on := 2, ground := Ground.data }], guard := none }) (v := ?vvs_3) rfl (by kernel_rfl) (by kernel_rfl) (by kernel_rfl) (fun _ _ _ h => h) (Or.inl ⟨by rfl, ?yys_3⟩) hHeld ?_
        case vvs_3 => exact .slice (some ⟨gl, 0, none⟩) nl nl
        case yys_3 =>
          intro W hS
          obtain ⟨s1, s2⟩ := hS
          have q0 := s1.cell 0
          simp only [HRC.out, List.getElem?_cons_zero] at q0
          go_simp
        try simp only [Act.put, List.setIfInBounds_toArray, List.set_cons_zero, List.set_cons_succ]
        refine wpAnyH_take (i := 4) (oi := { dst := some 27, op := Op.fieldAddr 136 (Operand.tmp 4) 0, type := 0, pos := "ref.go:77", after := #[], guard := none }) (v := ?vvs_4) rfl (by kernel_rfl) (by kernel_rfl) (by kernel_rfl) (fun _ _ _ h => h) (Or.inl ⟨by rfl, ?yys_4⟩) hHeld ?_
        case vvs_4 => exact .pointer (some ⟨q, 0, none⟩)
        case yys_4 =>
          intro W hS
          go_simp
        try simp only [Act.put, List.setIfInBounds_toArray, List.set_cons_zero, List.set_cons_succ]
        refine wpAnyH_take (i := 5) (oi := { dst := some 28, op := Op.load 3 (Operand.tmp 27), type := 3, pos := "ref.go:77", after := #[{ on := 4, ground := Ground.data }], guard := none }) (v := ?vvs_5) rfl (by kernel_rfl) (by kernel_rfl) (by kernel_rfl) (fun _ _ _ h => h) (Or.inl ⟨by rfl, ?yys_5⟩) hHeld ?_
        case vvs_5 => exact .int .i64 (x1 : Nat)
        case yys_5 =>
          intro W hS
          obtain ⟨s1, s2⟩ := hS
          have q0 := s2.cell 0
          rw [HW0.out.1] at q0
          go_simp
        try simp only [Act.put, List.setIfInBounds_toArray, List.set_cons_zero, List.set_cons_succ]
        refine wpAnyH_take (i := 6) (oi := { dst := some 29, op := Op.fieldAddr 136 (Operand.tmp 4) 1, type := 0, pos := "ref.go:77", after := #[], guard := none }) (v := ?vvs_6) rfl (by kernel_rfl) (by kernel_rfl) (by kernel_rfl) (fun _ _ _ h => h) (Or.inl ⟨by rfl, ?yys_6⟩) hHeld ?_
        case vvs_6 => exact .pointer (some ⟨q, 1, none⟩)
        case yys_6 =>
          intro W hS
          go_simp
        try simp only [Act.put, List.setIfInBounds_toArray, List.set_cons_zero, List.set_cons_succ]
        refine' wpAnyH_take (i := 7) (oi := { dst := some 30, op := Op.load 90 (Operand.tmp 29), type := 90, pos := "ref.go:77", after := #[{ on := 6, ground := Ground.data }], guard := none }) (v := _) rfl (by kernel_rfl) (by kernel_rfl) (by kernel_rfl) (fun _ _ _ h => h) (yieldsIf_load_mid (by rfl) _ _ rfl q 1 rfl XC _ (fun W h => HW0.out.2 W h.2) Tryz.underlying90 rfl HX.out.2.2.2.2.2.2.1) hHeld ?_
        try simp only [Act.put, List.setIfInBounds_toArray, List.set_cons_zero, List.set_cons_succ]
        refine wpAnyH_take (i := 8) (oi := { dst := some 31, op := Op.indexAddr 42 (Operand.tmp 26) (Operand.tmp 28), type := 0, pos := "ref.go:77", after := #[{ on := 3, ground := Ground.data }, { on := 5, ground := Ground.data }, { on := 0, ground := Ground.phase }, { on := 1, ground := Ground.phase }, { on := 2, ground := Ground.phase }, { on := 3, ground := Ground.phase }, { on := 4, ground := Ground.phase }, { on := 5, ground := Ground.phase }, { on := 6, ground := Ground.phase }, { on := 7, ground := Ground.phase }], guard := none }) (v := ?vvs_8) rfl (by kernel_rfl) (by kernel_rfl) (by kernel_rfl) (fun _ _ _ h => h) (Or.inl ⟨by rfl, ?yys_8⟩) hHeld ?_
        case vvs_8 => exact .pointer (some ⟨gl, x1 * 128, none⟩)
        case yys_8 =>
          intro W hS
          go_simp
        try simp only [Act.put, List.setIfInBounds_toArray, List.set_cons_zero, List.set_cons_succ]
        refine wpAnyH_done (by kernel_rfl) ?_ _
        show wpList _ _ _ [_] _ _
        refine wpList_store_mid rfl 90 (.tmp 31) (.tmp 30) rfl gl (x1 * 128) XC.toArray rfl rfl (by rw [List.size_toArray, HX.out.2.2.2.2.2.2.2.2]; exact HTH.out) (by rw [List.size_toArray]; exact HX.out.2.2.2.2.2.2.1) HX.out.2.2.2.2.2.2.2.1 ?_
        show NoPanic _ Exit.normal _ _
        refine NoPanic.normal ?_
        go_wp2_with fail
        have hlt := HX.out.2.2.2.2.2.1
        try simp only [Act.put, List.setIfInBounds_toArray, List.set_cons_zero, List.set_cons_succ, List.toList_toArray]
        go_roundw
        case rel => exact ⟨k + 1, by omega, by go_num, HFIN⟩
        case measure => simp [intOf]; omega
      · have hke : k = n := by omega
        subst hke
        have HZ : Hid (RefAt L wr p gl (.slice a k c) { E with lasts := setAll E.hangs E.lasts }) := Lib.hid (by
          have h := HREL.out.row
          rw [List.take_of_length_le (by rw [HD.out.2.2]; exact Nat.le_refl _)] at h
          exact HD.out.1.lasting HREL.out.gr h (setAll_len _ _) (setAll_rows HD.out.1.good.rows HD.out.1.good.blks))
        have c1 := HZ.out.row.cell 1
        have f1 := HZ.out.row.frozen 1
        simp only [List.getElem?_cons_zero, List.getElem?_cons_succ] at c1
        clear hlt
        go_wp2
        go_ret
        have hd := HZ.out.dropped
        rw [HN.out.2.1, HSET.out, HE.out]
        exact ⟨rfl, ⟨_, _, hd⟩, (HD.out.2.1.grown HREL.out.gr (fun q hq => by injection hq with hq; subst hq; exact .inl HD.out.1.fl)).setCell (p := ⟨p, 1, none⟩) (.inl HD.out.1.fp) _⟩
  · have hmf : D.may = false := by simpa using hm
    have e1 : D.stepErr = 13 := by unfold DS.stepErr; rw [hmf]; rfl
    have e2 : D.synced = D.stepped := by unfold DS.synced; rw [if_neg hm]
    rw [hmf] at HST
    rw [e1, e2]
    clear hm hmf e1 e2 h hs hh hdn
    go_enter Tryz.func51, Tryz.ntmps51
    go_wp2_with fail
    refine HST.out.mono ?_
    rintro e w1 ⟨rfl, hd1, hk1⟩
    have HD := Lib.hid (And.intro hd1 hk1)
    clear hd1 hk1 c4
    go_wp2
    go_ret
    exact ⟨rfl, ⟨_, _, HD.out.1⟩, HD.out.2⟩
end
end Go.Proofs.YtiaaeniopjpfpaaGreatDoor

namespace Go.Proofs.YtiaaeniopjpfpaaGreatDoor
open Go.RowKit Go.Maps
set_option linter.unusedVariables false
set_option linter.unusedSimpArgs false

theorem kept_low : ∀ (r : List (Nat × List UInt8)) (l : List (List UInt8)) (k : Int), k < 1 → kept r l k = l
  | [], l, k, h => rfl
  | x :: r, l, k, h => kept_stop x r l k h
theorem flat_set1 (l : List (List UInt8)) (h : ∀ b ∈ l, b.length = 128) (i : Nat) (hi : i < l.length) (j : Nat) (hj : j < 128) (c : UInt8) :
    (l.set i ((l.getD i []).set j c)).flatten = l.flatten.set (i * 128 + j) c := by
  induction l generalizing i with
  | nil => simp at hi
  | cons x l ih =>
    have hx := h x (by simp)
    cases i with
    | zero =>
      rw [List.set_cons_zero, List.flatten_cons, List.flatten_cons, Nat.zero_mul, Nat.zero_add, List.set_append_left _ _ (by omega)]
      rfl
    | succ i =>
      rw [List.set_cons_succ, List.flatten_cons, List.flatten_cons, List.set_append_right _ _ (by omega), hx]
      have e : (i + 1) * 128 + j - 128 = i * 128 + j := by omega
      rw [e, ← ih (fun b hb => h b (by simp [hb])) i (by simpa using hi)]
      rfl
/-- The first bytes of x over b. -/
def overB (x b : List UInt8) (m : Nat) : List UInt8 := x.take m ++ b.drop m
theorem overB_len {x b : List UInt8} (hx : x.length = 128) (hb : b.length = 128) {m : Nat} (hm : m ≤ 128) : (overB x b m).length = 128 := by
  unfold overB
  rw [List.length_append, List.length_take, List.length_drop, hx, hb]
  omega
theorem getD_set_self {l : List (List UInt8)} {i : Nat} (hi : i < l.length) (b : List UInt8) : (l.set i b).getD i [] = b := by
  rw [List.getD_eq_getElem?_getD, List.getElem?_set_self hi]
  rfl

theorem set_over_none {cur : List (List UInt8)} {i : Nat} (hi : i < cur.length) {x : List UInt8} : cur.set i (overB x (cur.getD i []) 0) = cur := by
  unfold overB
  rw [List.take_zero, List.drop_zero, List.nil_append]
  apply List.ext_getElem?
  intro j
  rw [List.getElem?_set]
  split
  · rename_i h; subst h
    rw [List.getD_eq_getElem?_getD, List.getElem?_eq_getElem hi]; rfl
  · rfl
theorem setCell_grown (w : World) (g o : Nat) (v : Value) : w.grownBy (w.setCell ⟨g, o, none⟩ v) (some g) :=
  ⟨rfl, rfl, rfl, by simp [World.setCell], fun k hk hne => Below.heap_setCell w ⟨g, o, none⟩ v k (fun e => hne (by rw [e]))⟩
/-- The inner loop's relation: behind i bytes m of them are done. -/
structure InR (D : DS) (gl : Nat) (w wr : World) (K : Int) (x : Nat × List UInt8) (cur : List (List UInt8)) (i m : Nat) : Prop where
  mi : m ≤ i
  full : m < i → K - m < 1
  pos : 0 < m → (m : Int) ≤ K
  row : Row wr gl 90 ((cur.set x.1 (overB x.2 (cur.getD x.1 []) m)).flatten.map bv)
  gr : w.grownBy wr (some gl)

section
variable {L L' : Nat → Prop} {w w' : World} {p gl : Nat} {hv : Value} {D D' : DS}
end
end Go.Proofs.YtiaaeniopjpfpaaGreatDoor

namespace Go.Proofs.YtiaaeniopjpfpaaGreatDoor
open Go.ChangeShapes Go.WideShapes Go.RowKit Go.Deep
set_option linter.unusedVariables false
end Go.Proofs.YtiaaeniopjpfpaaGreatDoor

namespace Go.Proofs.YtiaaeniopjpfpaaGreatDoor
open Go.RowKit Go.Maps
set_option linter.unusedVariables false

/-- What the document's disk is, where the disk is D. -/
def DS.reff (D : DS) : DS := { D with fuse := max D.fuse (-1) }
theorem reff_may (D : DS) : D.reff.may = D.may := by
  unfold DS.may DS.reff
  congr 1
  apply decide_eq_decide.2
  show max D.fuse (-1) ≠ 0 ↔ D.fuse ≠ 0
  omega
theorem reff_stepped (D : DS) : D.stepped.reff = D.reff.stepped := by
  have hfu : D.reff.fuse = max D.fuse (-1) := rfl
  have hdw : D.reff.down = D.down := rfl
  unfold DS.stepped
  rw [hfu, hdw]
  by_cases h0 : D.fuse = 0
  · rw [if_pos h0, if_pos (show max D.fuse (-1) = 0 by omega)]
    rfl
  · rw [if_neg h0, if_neg (show ¬ max D.fuse (-1) = 0 by omega)]
    by_cases hd : D.down = true
    · rw [if_pos hd, if_pos hd]
    · rw [if_neg hd, if_neg hd]
      unfold DS.reff
      congr 1
      show max (if 0 < D.fuse then D.fuse - 1 else D.fuse) (-1) = if 0 < max D.fuse (-1) then max D.fuse (-1) - 1 else max D.fuse (-1)
      split <;> split <;> omega
theorem reff_fault (D : DS) (k : Int) : D.reff.fault k = D.fault k := rfl
theorem reff_read (D : DS) (k : Int) : D.reff.read k = D.read k := rfl
theorem reff_stepErr (D : DS) : D.reff.stepErr = D.stepErr := by unfold DS.stepErr; rw [reff_may]
theorem reff_writeErr (D : DS) (k : Int) : D.reff.writeErr k = D.writeErr k := by unfold DS.writeErr; rw [reff_stepErr]; rfl
theorem reff_written (D : DS) (k : Int) (b : List UInt8) : (D.written k b).reff = D.reff.written k b := by
  unfold DS.written
  rw [reff_fault, reff_may, ← reff_stepped]
  split
  · rfl
  · split <;> rfl
theorem reff_synced (D : DS) : D.synced.reff = D.reff.synced := by
  unfold DS.synced
  rw [reff_may, ← reff_stepped]
  split <;> rfl
theorem reff_crashed (D : DS) (k : Int) : (D.crashed k).reff = D.reff.crashed k := rfl
theorem reff_new (n : Nat) : (newDS n).reff = newDS n := rfl
theorem stepped_count (D : DS) : D.stepped.steps ≤ D.steps + 1 := by
  unfold DS.stepped
  split
  · exact Nat.le_succ _
  · split
    · exact Nat.le_succ _
    · exact Nat.le_refl _
theorem written_count (D : DS) (k : Int) (b : List UInt8) : (D.written k b).steps ≤ D.steps + 1 ∧ (D.written k b).hangs.length ≤ D.hangs.length + 1 := by
  unfold DS.written
  have h1 := stepped_count D
  have h2 := (stepped_same D).2
  split
  · exact ⟨Nat.le_succ _, Nat.le_succ _⟩
  · split
    · exact ⟨h1, by simp⟩
    · exact ⟨h1, by rw [h2]; exact Nat.le_succ _⟩
theorem synced_count (D : DS) : D.synced.steps ≤ D.steps + 1 ∧ D.synced.hangs.length ≤ D.hangs.length + 1 := by
  unfold DS.synced
  have h1 := stepped_count D
  have h2 := (stepped_same D).2
  split
  · exact ⟨h1, by simp⟩
  · exact ⟨h1, by rw [h2]; exact Nat.le_succ _⟩

/-- Both in memory, apart from each other, and from T. -/
def Pair (T : Nat → Prop) (w : World) (p q : Nat) (D E : DS) : Prop :=
  ∃ S : Nat → Prop, (∀ k, S k → k < w.heap.size) ∧ (∀ k, T k → S k) ∧ DiskIs S w p D ∧ RefIs (fun k => T k ∨ (k < w.heap.size ∧ ¬ S k)) w q E

section
variable {T T' : Nat → Prop} {w w' : World} {p q : Nat} {D E D' E' : DS}
theorem Pair.grow (h : Pair T w p q D E) (hb : Below w.heap.size w w') (hT : ∀ k, T' k → T k ∨ (w.heap.size ≤ k ∧ k < w'.heap.size)) : Pair T' w' p q D E := by
  obtain ⟨S, hS, hTS, hd, hr⟩ := h
  have hsz := hb.size
  refine ⟨fun k => k < w'.heap.size ∧ (S k ∨ w.heap.size ≤ k), fun k hk => hk.1, fun k hk => ?_, ?_, ?_⟩
  · rcases hT k hk with h | ⟨h1, h2⟩
    · have := hS k (hTS k h)
      exact ⟨by omega, .inl (hTS k h)⟩
    · exact ⟨h2, .inr h1⟩
  · exact (hd.more (fun g hg => hg.2)).below hb
  · refine (hr.more (fun g hg => ?_)).below hb
    rcases hg with hg | ⟨hg1, hg2⟩
    · rcases hT g hg with h | ⟨h1, _⟩
      · exact .inl (.inl h)
      · exact .inr h1
    · by_cases hlt : g < w.heap.size
      · exact .inl (.inr ⟨hlt, fun hs => hg2 ⟨hg1, .inl hs⟩⟩)
      · exact .inr (by omega)
theorem Pair.less (h : Pair T w p q D E) (hT : ∀ k, T' k → T k) : Pair T' w p q D E := h.grow (Below.refl _ _) (fun k hk => .inl (hT k hk))
theorem Pair.below (h : Pair T w p q D E) (hb : Below w.heap.size w w') : Pair T w' p q D E := h.grow hb (fun k hk => .inl hk)
theorem Pair.lt (h : Pair T w p q D E) (k : Nat) (hk : T k) : k < w.heap.size := by
  obtain ⟨S, hS, hTS, _⟩ := h
  exact hS k (hTS k hk)
theorem Pair.disk {F : Nat} {args : Array Value} {Post : Ending → Prop} (h : Pair T w p q D E)
    (hc : ∀ (S : Nat → Prop) gl gm hv Dm, (∀ k, S k → k < w.heap.size) → DiskAt S w p gl gm hv Dm D → Calls Tryz.prog F args w fun e w' => Post e ∧ DiskIs S w' p D' ∧ Keeps S w w') :
    Calls Tryz.prog F args w fun e w' => Post e ∧ Pair T w' p q D' E ∧ Keeps T w w' := by
  obtain ⟨S, hS, hTS, ⟨gl, gm, hv, Dm, hd⟩, hr⟩ := h
  refine (hc S gl gm hv Dm hS hd).mono ?_
  rintro e w1 ⟨he, hd1, hk⟩
  have hsz := hk.size
  refine ⟨he, ⟨S, fun k h => by have := hS k h; omega, hTS, hd1, ?_⟩, hk.mono hTS⟩
  refine RefIs.keeps (M := S) (hr.more (fun g hg => ?_)) hk (fun g hg hn => ?_)
  · rcases hg with hg | ⟨hg1, hg2⟩
    · exact .inl (.inl hg)
    · by_cases hlt : g < w.heap.size
      · exact .inl (.inr ⟨hlt, hg2⟩)
      · exact .inr (by omega)
  · apply Classical.byContradiction
    intro hs
    exact hn (.inr ⟨by omega, hs⟩)
theorem Pair.ref {F : Nat} {args : Array Value} {Post : Ending → Prop} (h : Pair T w p q D E)
    (hc : ∀ (S : Nat → Prop) gl hv, (∀ k, S k → k < w.heap.size) → RefAt S w q gl hv E → Calls Tryz.prog F args w fun e w' => Post e ∧ RefIs S w' q E' ∧ Keeps S w w') :
    Calls Tryz.prog F args w fun e w' => Post e ∧ Pair T w' p q D E' ∧ Keeps T w w' := by
  obtain ⟨S, hS, hTS, hd, gl, hv, hr⟩ := h
  refine (hc _ gl hv (fun k hk => ?_) hr).mono ?_
  · rcases hk with hk | hk
    · exact hS k (hTS k hk)
    · exact hk.1
  rintro e w1 ⟨he, hr1, hk⟩
  have hsz := hk.size
  refine ⟨he, ⟨fun k => k < w1.heap.size ∧ (S k ∨ w.heap.size ≤ k), fun k h => h.1, fun k h => ⟨by have := hS k (hTS k h); omega, .inl (hTS k h)⟩, ?_, ?_⟩, hk.mono (fun k h => .inl h)⟩
  · refine DiskIs.keeps (hd.more (fun g hg => hg.2)) hk (fun g hg hn => .inr ⟨hg, fun hs => hn ⟨by omega, .inl hs⟩⟩)
  · refine hr1.more (fun g hg => ?_)
    rcases hg with hg | ⟨hg1, hg2⟩
    · exact .inl (.inl hg)
    · by_cases hlt : g < w.heap.size
      · exact .inl (.inr ⟨hlt, fun hs => hg2 ⟨hg1, .inl hs⟩⟩)
      · exact absurd ⟨hg1, .inr (by omega)⟩ hg2
theorem Pair.diskAt (h : Pair T w p q D E) : ∃ S gl gm hv Dm, DiskAt S w p gl gm hv Dm D := by
  obtain ⟨S, _, _, ⟨gl, gm, hv, Dm, hd⟩, _⟩ := h
  exact ⟨S, gl, gm, hv, Dm, hd⟩
theorem Pair.refAt (h : Pair T w p q D E) : ∃ S gl hv, RefAt S w q gl hv E := by
  obtain ⟨S, _, _, _, gl, hv, hd⟩ := h
  exact ⟨_, gl, hv, hd⟩
end
end Go.Proofs.YtiaaeniopjpfpaaGreatDoor

namespace Go.Proofs.YtiaaeniopjpfpaaGreatDoor
open Go.RowKit Go.Maps
set_option linter.unusedVariables false
set_option linter.unusedSimpArgs false

section
variable {T : Nat → Prop} {w w' : World} {p q : Nat} {D E D' E' : DS}
def acV (a : AC) : Value := .agg #[.int .i64 a.what, .int .i64 a.place, .int .u8 a.byte.toNat]
/-- What is known behind an act. -/
def DoPost (T : Nat → Prop) (w : World) (p q : Nat) (D : DS) (e : Ending) (w' : World) : Prop :=
  e = .returned (.bool true) ∧ ∃ D' : DS, Pair T w' p q D' D'.reff ∧ D'.steps ≤ D.steps + 1 ∧ D'.hangs.length ≤ D.hangs.length + 1 ∧ Keeps T w w'

theorem Pair.boxed (h : Pair T w p q D E) (o : Obj) : Pair (fun k => T k ∨ k = w.heap.size) (w.alloc o) p q D E := h.grow ((Below.refl _ _).alloc (Nat.le_refl _) o) (fun k hk => by
  rcases hk with h | h
  · exact .inl h
  · exact .inr ⟨by omega, by simp; omega⟩)
theorem keeps_new (T : Nat → Prop) (w : World) (o : Obj) : Keeps T w (w.alloc o) := Keeps.of_below ((Below.refl w.heap.size w).alloc (Nat.le_refl _) o) (fun k hk _ => hk)

end
end Go.Proofs.YtiaaeniopjpfpaaGreatDoor

namespace Go.Proofs.YtiaaeniopjpfpaaGreatDoor
open Go.RowKit Go.Maps Go.Shelf
set_option linter.unusedVariables false
set_option linter.unusedSimpArgs false
attribute [local go_sem] Oper.semAt_some

section
variable {P : Program} {ops : Array Oper} {C : World → Prop}
theorem wpQuiet_call {Q : Act → Prop} {a : Act} {o : Oper} {rest : List Oper} (v : Value) (fn : FuncId) (vals : Array Value) (hw : Region.wanted o (yielded ops a.tmps) = true) (hx : ∀ w, (execOp a.eval o).run P w = .ok (.enter fn vals) w)
    (hc : ∀ w, C w → Calls P fn vals w (fun e w'' => e = .returned v ∧ C w'')) (h : wpQuiet P ops C Q rest (a.put o.dst v)) : wpQuiet P ops C Q (o :: rest) a := by
  unfold wpQuiet
  rw [if_pos hw]
  refine ⟨v, fun w hC => ?_, h⟩
  unfold Oper.quietAt
  rw [hx w]
  exact ⟨rfl, hc w hC⟩
theorem wpQuiet_skip' {Q : Act → Prop} {a : Act} {o : Oper} {rest : List Oper} (hw : Region.wanted o (yielded ops a.tmps) = false) (h : wpQuiet P ops C Q rest (a.put o.dst undef)) : wpQuiet P ops C Q (o :: rest) a := by
  unfold wpQuiet
  rw [if_neg (by rw [hw]; exact Bool.false_ne_true)]
  exact h
end
theorem range_next {n : Nat} {pre : List (Sn n)} {x : Sn n} (h : (pre ++ [x]).map Subtype.val <+: List.range n) : x.1 = pre.length := by
  rw [List.map_append] at h
  have hl := h.length_le
  obtain ⟨t, ht⟩ := h
  have h1 : ((pre.map Subtype.val ++ [x.1]) ++ t)[pre.length]? = (List.range n)[pre.length]? := by
    have : List.map Subtype.val [x] = [x.1] := rfl
    rw [← this, ht]
  rw [List.append_assoc, List.getElem?_append_right (by simp)] at h1
  simp at h1
  simp at hl
  rw [List.getElem?_range (by omega)] at h1
  simpa using h1
theorem range_next' {n : Nat} {pre : List (Sn n)} {x : Sn n} (h : pre.map Subtype.val <+: List.range n) (hx : x.1 = pre.length) : (pre ++ [x]).map Subtype.val <+: List.range n := by
  obtain ⟨t, ht⟩ := h
  have hp : pre.map Subtype.val = List.range pre.length := by
    have h2 := congrArg (List.take pre.length) ht
    rw [List.take_append_of_le_length (by simp), List.take_of_length_le (by simp)] at h2
    rw [h2, List.take_range]
    congr 1
    have := congrArg List.length ht
    simp at this
    omega
  rw [List.map_append, hp]
  have hx2 := x.2
  have e : List.range pre.length ++ List.map Subtype.val [x] = List.range (pre.length + 1) := by rw [List.range_succ]; simp [hx]
  rw [e]
  exact range_pre (by omega)

/-- What a round of the loop reads. -/
structure SameB (W : World) (p q bd bq bn g gr j : Nat) (RC C : List Value) : Prop where
  n : Row W bn 3 [.int .i64 (j : Nat)]
  bq : Row W bq 28 [.pointer (some ⟨q, 0, none⟩)]
  bd : Row W bd 24 [.pointer (some ⟨p, 0, none⟩)]
  rq : Row W q 45 RC
  rg : ∀ W', SB W W' → W'.rangeAt g 0 C
  rl : ∀ W', SB W W' → W'.rangeAt gr (j * 128) C
  sz : (Tryz.prog.info? 90).map (·.size) = some C.length
  dif : ∀ W, (binOp .neq 90 (.agg C.toArray) (.agg C.toArray)).run Tryz.prog W = .ok (.bool false) W
  last : ∀ W', SB W W' → Calls Tryz.prog 55 #[.pointer (some ⟨p, 0, none⟩), .int .i64 (j : Nat)] W' (fun e w' => e = .returned (.agg C.toArray) ∧ SB W w')
theorem own_pure_s {β : Type} {B : Nat} {φ : β → Prop} : OwnFrom B (fun (s : β) (_ : World) => φ s) := fun s X Y row hs _ _ => hs
theorem fn_not_nil (f : Nat) (b : Array Value) (W : World) : (binOp .eql 95 (.func (.func f) #[] b) .nilFunc).run Tryz.prog W = .ok (.bool false) W := by
  kernel_rfl
section
variable {T : Nat → Prop} {w w' : World} {p q : Nat} {D E D' E' : DS}
set_option maxRecDepth 100000 in
set_option maxHeartbeats 4000000 in
theorem Same_any (hP : Pair T w p q D D.reff) (hs : D.steps < 1000000) (hh : D.hangs.length < 1000000) :
    Calls Tryz.prog 22 #[.pointer (some ⟨p, 0, none⟩), .pointer (some ⟨q, 0, none⟩)] w fun e w' => e = .returned (.bool true) ∧ Below w.heap.size w w' := by
  obtain ⟨ws, hws⟩ : ∃ ws, w.heap.size = ws := ⟨_, rfl⟩
  have HWS := Lib.hid hws
  have HP := Lib.hid hP
  have HH := Lib.hid (And.intro hs hh)
  clear hP hs hh
  refine (callsIn_wide (n := 6)).1 ?_
  refine callsIn_of_wp_marks Tryz.func22 rfl trivial ?_ rfl
  simp only [Tryz.ntmps22, List.size_toArray, List.length_cons, List.length_nil, Nat.reduceAdd, Nat.reduceSub, Array.replicate_succ, Array.replicate_zero, List.push_toArray, List.append_toArray, List.nil_append, List.cons_append]
  rw [wpIn_wide]
  clear hws
  go_wp2_with fail
  refine ((callsIn_wide (n := 0)).1 (All_in 0 (some ⟨p, 0, none⟩) _)).mono ?_
  rintro e w5 ⟨rfl, rfl⟩
  have hnf := fun (b : Array Value) (W : World) => fn_not_nil 94 b W
  go_wp2_with fail
  clear hnf
  obtain ⟨bd, hbd⟩ : ∃ b, w.heap.size = b := ⟨_, rfl⟩
  obtain ⟨bq, hbq⟩ : ∃ b, bd + 1 = b := ⟨_, rfl⟩
  obtain ⟨br, hbr⟩ : ∃ b, bq + 1 = b := ⟨_, rfl⟩
  obtain ⟨bc, hbc⟩ : ∃ b, br + 1 = b := ⟨_, rfl⟩
  obtain ⟨bn, hbn⟩ : ∃ b, bc + 1 = b := ⟨_, rfl⟩
  have c1 := Row.new w 24 [.pointer (some ⟨p, 0, none⟩)]
  have c2 := Row.new (w.alloc (.cells #[.pointer (some ⟨p, 0, none⟩)] 24)) 28 [.pointer (some ⟨q, 0, none⟩)]
  have c3 := Row.new ((w.alloc (.cells #[.pointer (some ⟨p, 0, none⟩)] 24)).alloc (.cells #[.pointer (some ⟨q, 0, none⟩)] 28)) 4 [.bool false]
  have c4 := Row.new (((w.alloc (.cells #[.pointer (some ⟨p, 0, none⟩)] 24)).alloc (.cells #[.pointer (some ⟨q, 0, none⟩)] 28)).alloc (.cells #[.bool false] 4)) 24 [.pointer (some ⟨p, 0, none⟩)]
  have c5 := Row.new ((((w.alloc (.cells #[.pointer (some ⟨p, 0, none⟩)] 24)).alloc (.cells #[.pointer (some ⟨q, 0, none⟩)] 28)).alloc (.cells #[.bool false] 4)).alloc (.cells #[.pointer (some ⟨p, 0, none⟩)] 24)) 3 [.int .i64 0]
  have d1 := (((c1.alloc (.cells #[.pointer (some ⟨q, 0, none⟩)] 28)).alloc (.cells #[.bool false] 4)).alloc (.cells #[.pointer (some ⟨p, 0, none⟩)] 24)).alloc (.cells #[.int .i64 0] 3)
  have d2 := ((c2.alloc (.cells #[.bool false] 4)).alloc (.cells #[.pointer (some ⟨p, 0, none⟩)] 24)).alloc (.cells #[.int .i64 0] 3)
  have d3 := (c3.alloc (.cells #[.pointer (some ⟨p, 0, none⟩)] 24)).alloc (.cells #[.int .i64 0] 3)
  have d4 := c4.alloc (.cells #[.int .i64 0] 3)
  have hB : SB w (((((w.alloc (.cells #[.pointer (some ⟨p, 0, none⟩)] 24)).alloc (.cells #[.pointer (some ⟨q, 0, none⟩)] 28)).alloc (.cells #[.bool false] 4)).alloc (.cells #[.pointer (some ⟨p, 0, none⟩)] 24)).alloc (.cells #[.int .i64 0] 3)) := SB.al (SB.al (SB.al (SB.al (SB.al (SB.here w) _) _) _) _) _
  have hsz : (((((w.alloc (.cells #[.pointer (some ⟨p, 0, none⟩)] 24)).alloc (.cells #[.pointer (some ⟨q, 0, none⟩)] 28)).alloc (.cells #[.bool false] 4)).alloc (.cells #[.pointer (some ⟨p, 0, none⟩)] 24)).alloc (.cells #[.int .i64 0] 3)).heap.size = w.heap.size + 5 := by simp
  simp only [World.size_alloc] at d2 d3 d4 c5
  simp only [hbd, hbq, hbr, hbc, hbn] at d1 d2 d3 d4 c5 hsz ⊢
  generalize ((((w.alloc (.cells #[.pointer (some ⟨p, 0, none⟩)] 24)).alloc (.cells #[.pointer (some ⟨q, 0, none⟩)] 28)).alloc (.cells #[.bool false] 4)).alloc (.cells #[.pointer (some ⟨p, 0, none⟩)] 24)).alloc (.cells #[.int .i64 0] 3) = wm at d1 d2 d3 d4 c5 hB hsz ⊢
  have Pm : Pair (fun k => k = bn) wm p q D D.reff := HP.out.grow hB (fun k hk => .inr ⟨by omega, by omega⟩)
  obtain ⟨S, _, hTS, ⟨gl, gm, hv, Dm, hdm⟩, gr, hvr, hrm⟩ := Pm
  obtain ⟨ha, hc, rfl⟩ := own_slice hrm.han
  obtain ⟨nh, hnh⟩ : ∃ nh, D.hangs.length = nh := ⟨_, rfl⟩
  have hdI : DiskIs (fun k => k = bn) wm p D := DiskIs.less ⟨gl, gm, hv, Dm, hdm⟩ hTS
  have hrA : RefAt (fun k => k = bn) wm q gr (.slice ha D.reff.hangs.length hc) D.reff := hrm.kept (fun _ _ => rfl) (fun g hg hl => hrm.out g hg (.inl hl))
  obtain ⟨row, las⟩ := And.intro hdm.row hdm.las
  have h8 := hdm.good.rows
  have hm := hdm.good.most
  have hm16 := hdm.good.least
  have hpl := hdm.row.lt
  have hgl := hdm.las.lt
  have hpn : p ≠ bn := fun e => hdm.fp (hTS _ e)
  have hgn : gl ≠ bn := fun e => hdm.fl (hTS _ e)
  obtain ⟨LS, hLS⟩ : ∃ LS, D.lasts = LS := ⟨_, rfl⟩
  rw [hLS] at row las h8 hm hm16
  obtain ⟨nl, hnl⟩ : ∃ nl, LS.length = nl := ⟨_, rfl⟩
  obtain ⟨RC, HRC⟩ : ∃ RC, Hid (RC = [Value.slice (some ⟨gr, 0, none⟩) nl nl, .slice ha nh hc, .int .i64 (D.steps : Nat), .int .i64 (max D.fuse (-1)), .bool D.down]) := ⟨_, Lib.hid rfl⟩
  have hrq : Row wm q 45 RC := by
    have h := hrA.row
    rw [HRC.out, ← hnl, ← hLS, ← hnh]
    exact h
  have HD := Lib.hid (And.intro hdI (And.intro hrA (And.intro hrq (And.intro hLS hnl))))
  have HNH := Lib.hid hnh
  have HL := Lib.hid (And.intro h8 (And.intro hm hm16))
  have HC := Lib.hid (And.intro d1 (And.intro d2 (And.intro d3 (And.intro hB c5))))
  have HN := Lib.hid (And.intro hpl (And.intro hgl (And.intro hsz (And.intro hpn (And.intro hgn (And.intro hbd (And.intro hbq (And.intro hbr (And.intro hbc hbn)))))))))
  have hbnlt : bn < wm.heap.size := by omega
  have hbclt : bc < wm.heap.size := by omega
  have hInit : Boxed wm bn 3 (.int .i64 (([] : List (Sn LS.length)).length : Nat)) := c5
  have hrowbc : wm.heap[bc]? = some (.cells #[.pointer (some ⟨p, 0, none⟩)] 24 (0, 0)) := d4
  have HI0 := Lib.hid (And.intro hInit hrowbc)
  clear c1 c2 c3 c4 c5 d1 d2 d3 d4 hB hdm hrm hdI hrA hrq hTS hLS hnh hInit hrowbc hbd hbq hbr hbc hbn
  rw [← wpIn_wide (n := 6)]
  refine' wpIn_rangeFunc_ownH rfl (by omega) (gf := 94) (lb := #[.pointer (some ⟨bc, 0, none⟩)]) rfl trivial (enters_of Tryz.func94 (by kernel_rfl) rfl)
    (All_stops 5 (by omega) bc p gl LS _ h8 hm wm HI0.out.2 row las) keepsA_t (keepsA_b (by omega) (by omega) (by omega)) (Below.refl _ _) (fun _ => rfl)
    (fun pre W => pre.map Subtype.val <+: List.range LS.length ∧ Boxed W bn 3 (.int .i64 (pre.length : Nat)) ∧ Keeps (fun k => k ≠ bn) wm W) (fun _ pre _ => ¬ pre.map Subtype.val <+: List.range LS.length)
    (OwnFrom.and own_pure_s (OwnFrom.and (Own.from (own_box bn 3 (fun pre : List (Sn LS.length) => .int .i64 (pre.length : Nat))) _) (ownFrom_keeps (Nat.le_refl _)))) (fun _ => own_pure_s) ⟨List.nil_prefix, HI0.out.1, Keeps.refl _ _⟩
    (fun x a' W => ∃ g, (a' = { tmps := #[Value.pointer (some ⟨p, 0, none⟩), Value.pointer (some ⟨q, 0, none⟩), Value.pointer (some ⟨bd, 0, none⟩), Value.pointer (some ⟨bq, 0, none⟩), Value.pointer (some ⟨br, 0, none⟩), Value.func (Fn.func 94) #[] #[Value.pointer (some ⟨bc, 0, none⟩)], Value.pointer (some ⟨bn, 0, none⟩), Value.int IntKind.i64 (x.1 : Nat), Value.pointer (some ⟨g, 0, none⟩), undef, undef, undef, undef, Value.pointer (some ⟨p, 0, none⟩), Value.func (Fn.func 94) #[] #[Value.pointer (some ⟨bc, 0, none⟩)], Value.func (Fn.func 94) #[] #[Value.pointer (some ⟨bc, 0, none⟩)], Value.bool false, Value.func (Fn.func 94) #[] #[Value.pointer (some ⟨bc, 0, none⟩)], Value.int IntKind.i64 (x.1 : Nat), Value.agg ((LS.getD x.1 []).map bv).toArray, undef, undef, undef, undef, undef, undef, undef, undef, undef, undef, undef, undef, undef, undef, undef, undef, undef, undef, undef, undef, undef, undef, undef, undef, undef, undef, undef, undef, undef, undef, undef, undef, undef, undef, undef, undef, undef, undef, undef, undef, undef, undef, undef, undef, undef, undef, undef, undef, undef, undef, undef, undef, undef, undef, undef, undef, undef, undef, undef, undef, undef, undef, undef, undef, undef, undef, undef, undef, undef, undef, undef, undef, undef, undef, undef, undef, undef, undef, undef, undef, undef, undef, undef, undef, undef, undef, undef, undef, undef, undef, undef, undef, undef, undef], defers := [] }) ∧ Row W g 90 ((LS.getD x.1 []).map bv))
    (fun x a' => ax_own _) ?hassign ?hbody ?hdone ?hstop
  case hstop =>
    rintro D c pre W _ hpre h _
    exact absurd hpre h
  case hassign =>
    intro l' pre x W K hI hK
    unfold allArgs
    rw [show blkV (LS.getD x.1 []) = Value.agg ((LS.getD x.1 []).map bv).toArray from rfl]
    have hx8 : (LS.getD x.1 []).length = 128 := getD_len HL.out.1 x.2
    obtain ⟨hsb, hrow⟩ := boxed_blk W (LS.getD x.1 [])
    have hnew := Row.new W 90 zB
    have hone := blkV_one (LS.getD x.1 [])
    have hszA := blk_sizeA _ hx8
    have hzl : zB.toArray.size = ((LS.getD x.1 []).map bv).toArray.size := by rw [List.size_toArray, List.size_toArray, List.length_map, hx8, zB_len]
    have hW2 : wm.heap.size ≤ W.heap.size := hI.2.2.size
    have hI2 : (pre.map Subtype.val <+: List.range LS.length ∧ Boxed _ bn 3 (.int .i64 (pre.length : Nat)) ∧ Keeps (fun k => k ≠ bn) wm _) := ⟨hI.1, (hsb.block bn (by omega)).trans hI.2.1, hI.2.2.trans (Keeps.of_below (L := fun k => k ≠ bn) hsb (fun _ h _ => h))⟩
    obtain ⟨cs, hcs⟩ : ∃ cs, ((LS.getD x.1 []).map bv).toArray = cs := ⟨_, rfl⟩
    have HX := Lib.hid (And.intro hsb (And.intro hrow (And.intro hI2 (And.intro hone (And.intro hszA (And.intro hzl hW2))))))
    have HCS := Lib.hid hcs
    have hz := (zero_of_info zB_info).1
    clear hsb hrow hone hszA hzl hI2 hW2
    rw [hcs] at HX ⊢
    clear hcs
    gi_wp2_with (refine wpIn_store_row 90 (.tmp 8) (.tmp 19) rfl W.heap.size cs rfl rfl 90 zB.toArray hnew HX.out.2.2.2.2.1 HX.out.2.2.2.2.2.1 HX.out.2.2.2.1 ?_)
    refine hK _ _ ((below_others HX.out.1).from _) (keepsA_of (L := fun _ => True) (Keeps.of_below HX.out.1 (fun _ h _ => h)) trivial trivial trivial ?_ ?_ ?_) HX.out.2.2.1 ⟨W.heap.size, ?_, HX.out.2.1⟩
    · have := HX.out.2.2.2.2.2.2; omega
    · have := HX.out.2.2.2.2.2.2; omega
    · have := HX.out.2.2.2.2.2.2; omega
    · rw [HCS.out]
  case hbody =>
    rintro l' pre x a' W hl' hrec ⟨hpre, hn, hk⟩ ⟨g, rfl, hrow⟩ hlt
    by_cases hx : x.1 = pre.length
    · have hpre2 : (pre ++ [x]).map Subtype.val <+: List.range LS.length := range_next' hpre hx
      obtain ⟨j, hj⟩ : ∃ j, pre.length = j := ⟨_, rfl⟩
      have hpl2 : (pre ++ [x]).length = j + 1 := by rw [List.length_append, hj]; rfl
      have hjl : j < LS.length := by rw [← hj, ← hx]; exact x.2
      rw [hj] at hn hx
      rw [hx]
      have hx8 : (LS.getD j []).length = 128 := getD_len HL.out.1 hjl
      have hsz := blk_sizeK _ hx8
      have hdif := fun W => blk_differ (LS.getD j []) hx8 W
      unfold blkV at hdif
      have hkW : ∀ W', SB W W' → Keeps (fun k => k ≠ bn) wm W' := fun W' h => hk.trans (Keeps.of_below (L := fun k => k ≠ bn) h (fun _ h _ => h))
      have hdW : ∀ W', Keeps (fun k => k ≠ bn) wm W' → DiskIs (fun k => k = bn) W' p D := fun W' h => HD.out.1.keeps h (fun g _ h2 => h2)
      have hrW : ∀ W', Keeps (fun k => k ≠ bn) wm W' → RefAt (fun k => k = bn) W' q gr (.slice ha D.reff.hangs.length hc) D.reff := fun W' h => HD.out.2.1.kept (fun g hg => h.block g (HD.out.2.1.lt g hg) (HD.out.2.1.out g hg)) HD.out.2.1.out
      have hrow2 := hrow
      rw [hx] at hrow2
      obtain ⟨C, hC⟩ : ∃ C, (LS.getD j []).map bv = C := ⟨_, rfl⟩
      have hlst : ∀ W', SB W W' → Calls Tryz.prog 55 #[.pointer (some ⟨p, 0, none⟩), .int .i64 (j : Nat)] W' (fun e w' => e = .returned (.agg C.toArray) ∧ SB W w') := fun W' h => by
        obtain ⟨gl', gm', hv', Dm', hd'⟩ := hdW W' (hkW W' h)
        refine (Lasts_any hd' j (by rw [HD.out.2.2.2.1]; exact hjl)).mono ?_
        rintro e w' ⟨rfl, hb⟩
        refine ⟨?_, h.next hb⟩
        rw [HD.out.2.2.2.1]
        unfold blkV
        rw [hC]
      rw [hC] at hrow2 hsz hdif
      rw [hC]
      have hne := HN.out
      have hkb : ∀ (b : Nat) (T : TypeId) (l : List Value), b < wm.heap.size → b ≠ bn → Row wm b T l → Row W b T l := fun b T l h1 h2 h3 => (hk.block b h1 h2).trans h3
      have hX : SameB W p q bd bq bn g gr j RC C := ⟨hn, hkb bq _ _ (by omega) (by omega) HC.out.2.1, hkb bd _ _ (by omega) (by omega) HC.out.1, hkb q _ _ HD.out.2.2.1.lt (fun e => HD.out.2.1.fp e) HD.out.2.2.1,
        fun W' h => by
          have h := row_range (h.row hrow2) 0 C.length (by omega)
          rwa [List.drop_zero, List.take_of_length_le (Nat.le_refl _)] at h,
        fun W' h => by
          have h2 := (hrW W' (hkW W' h)).lastRange j (show j < D.lasts.length by rw [HD.out.2.2.2.1]; exact hjl)
          have e : D.reff.lasts = LS := HD.out.2.2.2.1
          rw [e, hC] at h2
          exact h2, hsz, hdif, hlst⟩
      have hjI : (j : Int) < (nl : Int) := by have := HD.out.2.2.2.2; omega
      have hj0 : ¬ (j : Int) < 0 := by omega
      have hjg : ¬ (nl : Int) ≤ (j : Int) := by omega
      have HX := Lib.hid hX
      -- what both read there
      obtain ⟨gl0, gm0, hv0, Dm0, hd0⟩ := HD.out.1
      have hrl := read_len hd0.good (j : Int)
      obtain ⟨RB, hRB⟩ : ∃ RB, (D.read (j : Int)).map bv = RB := ⟨_, rfl⟩
      have hRBl : RB.length = 128 := by rw [← hRB, List.length_map, hrl]
      have hRsz := blk_sizeK _ hrl
      have hRone := blkV_one (D.read (j : Int))
      have hRV : blkV (D.read (j : Int)) = .agg RB.toArray := by unfold blkV; rw [hRB]
      have hEQ := fun W => blk_differ (D.read (j : Int)) hrl W
      rw [hRB] at hRsz hRone
      rw [hRV] at hEQ
      obtain ⟨F, hF⟩ : ∃ F, D.fault (j : Int) = F := ⟨_, rfl⟩
      obtain ⟨Z, hZ⟩ : ∃ Z, zB = Z := ⟨_, rfl⟩
      have hZl : Z.length = 128 := by rw [← hZ]; exact zB_len
      have hz := (zero_of_info zB_info).1
      rw [hZ] at hz
      have HZ := Lib.hid (And.intro hZ (And.intro hZl (And.intro hRBl (And.intro hRsz hRone))))
      have HNEW : Hid (∀ W : World, Row (W.alloc (.cells Z.toArray 90)) W.heap.size 90 Z ∧ SB W ((W.alloc (.cells Z.toArray 90)).setRow W.heap.size RB.toArray) ∧ Row ((W.alloc (.cells Z.toArray 90)).setRow W.heap.size RB.toArray) W.heap.size 90 RB) := Lib.hid fun W =>
        ⟨Row.new W 90 Z, below_setRow (B := W.heap.size) ((Below.refl W.heap.size W).alloc (Nat.le_refl _) _) (Nat.le_refl _) _, (Row.new W 90 Z).put _⟩
      have HLD : Hid (∀ (W : World) (g : Nat), Row W g 90 RB → (Instr.loadAt 90 (.pointer (some ⟨g, 0, none⟩))).run Tryz.prog W = .ok (.agg RB.toArray) W) := Lib.hid fun W g hr => by
        have h := run_loadAt_mid (P := Tryz.prog) W g 0 90 RB _ (fun j v hj => by rw [Nat.zero_add, hr.cell]; exact hj) Tryz.underlying90 rfl HZ.out.2.2.2.1
        exact h
      have HRD : Hid (∀ W', SB W W' → CallsIn (Fence.wide.inRound l') 3 Tryz.prog 56 #[.pointer (some ⟨p, 0, none⟩), .int .i64 (j : Nat)] W' fun e w' => e = .returned (.tuple #[.agg RB.toArray, .int .i64 F]) ∧ SB W w' ∧ SB W' w') := Lib.hid fun W' h => by
        obtain ⟨gl', gm', hv', Dm', hd'⟩ := hdW W' (hkW W' h)
        have h2 := (Read_any hd' (j : Int)).mono (fun e w' h3 => And.intro h3.1 (And.intro (h.next h3.2) h3.2))
        rw [hRV, hF] at h2
        exact CallsIn.inRound l' (callsIn_wide.2 h2)
      have HRR : Hid (∀ W', SB W W' → CallsIn (Fence.wide.inRound l') 3 Tryz.prog 57 #[.pointer (some ⟨q, 0, none⟩), .int .i64 (j : Nat)] W' fun e w' => e = .returned (.tuple #[.agg RB.toArray, .int .i64 F]) ∧ SB W w' ∧ SB W' w') := Lib.hid fun W' h => by
        have h2 := (RRead_any (hrW W' (hkW W' h)) (j : Int) (show D.hangs.length < 1000000000 by have := HH.out.2; omega)).mono (fun e w' h3 => And.intro h3.1 (And.intro (h.next h3.2) h3.2))
        rw [reff_read, reff_fault, hRV, hF] at h2
        exact CallsIn.inRound l' (callsIn_wide.2 h2)
      have HJN := Lib.hid (show j < nl by omega)
      have hnl4 : (nl : Int) ≤ 4096 := by have := HL.out.2.1; have := HD.out.2.2.2.2; omega
      have hWs := Lib.hid (show wm.heap.size ≤ W.heap.size from hk.size)
      have HK := Lib.hid (And.intro hkW (And.intro hpre2 (And.intro hpl2 hjI)))
      clear hk hn hpre hpre2 hpl2 hlt hx hjl hx8 hsz hdif hkW hdW hrW hrow2 hC hlst hkb hX hd0 hrl hRB hRBl hRsz hRone hRV hF hZ hZl hne hrow hj
      gi_wp2
      refine round_quiet_lit (SB W) (by kernel_rfl) (by kernel_rfl) (by kernel_rfl) (below_drewK (Below.refl _ _) 1) ?_
      refine wpQuiet_yields (.int .i64 (j : Nat)) (Or.inl ⟨by rfl, fun W' hS => ?yq1⟩) ?_
      case yq1 =>
        go_simp
      try simp only [Act.put, List.setIfInBounds_toArray, List.set_cons_zero, List.set_cons_succ]
      refine wpQuiet_yields (.int .i64 (j : Nat)) (Or.inl ⟨by rfl, fun W' hS => ?yq2⟩) ?_
      case yq2 =>
        have q0 := (SB.row (l := [.int .i64 (j : Nat)]) hS HX.out.n).cell 0
        simp only [List.getElem?_cons_zero] at q0
        go_simp
      try simp only [Act.put, List.setIfInBounds_toArray, List.set_cons_zero, List.set_cons_succ]
      refine wpQuiet_yields (.bool false) (Or.inl ⟨by rfl, fun W' hS => ?yq3⟩) ?_
      case yq3 =>
        go_simp
      try simp only [Act.put, List.setIfInBounds_toArray, List.set_cons_zero, List.set_cons_succ]
      refine wpQuiet_yields (.bool false) (Or.inl ⟨by rfl, fun W' hS => ?yq4⟩) ?_
      case yq4 =>
        go_simp
      try simp only [Act.put, List.setIfInBounds_toArray, List.set_cons_zero, List.set_cons_succ]
      refine wpQuiet_yields (.int .i64 (j : Nat)) (Or.inl ⟨by rfl, fun W' hS => ?yq5⟩) ?_
      case yq5 =>
        go_simp
      try simp only [Act.put, List.setIfInBounds_toArray, List.set_cons_zero, List.set_cons_succ]
      refine wpQuiet_yields (Value.pointer (some ⟨q, 0, none⟩)) (Or.inl ⟨by rfl, fun W' hS => ?yq6⟩) ?_
      case yq6 =>
        have q0 := (SB.row (l := [Value.pointer (some ⟨q, 0, none⟩)]) hS HX.out.bq).cell 0
        simp only [List.getElem?_cons_zero] at q0
        go_simp
      try simp only [Act.put, List.setIfInBounds_toArray, List.set_cons_zero, List.set_cons_succ]
      refine wpQuiet_yields (Value.pointer (some ⟨q, 0, none⟩)) (Or.inl ⟨by rfl, fun W' hS => ?yq7⟩) ?_
      case yq7 =>
        go_simp
      try simp only [Act.put, List.setIfInBounds_toArray, List.set_cons_zero, List.set_cons_succ]
      refine wpQuiet_yields (Value.pointer (some ⟨q, 0, none⟩)) (Or.inl ⟨by rfl, fun W' hS => ?yq8⟩) ?_
      case yq8 =>
        go_simp
      try simp only [Act.put, List.setIfInBounds_toArray, List.set_cons_zero, List.set_cons_succ]
      refine wpQuiet_yields (.slice (some ⟨gr, 0, none⟩) nl nl) (Or.inl ⟨by rfl, fun W' hS => ?yq9⟩) ?_
      case yq9 =>
        have q0 := (SB.row hS HX.out.rq).cell 0
        simp only [HRC.out, List.getElem?_cons_zero] at q0
        go_simp
      try simp only [Act.put, List.setIfInBounds_toArray, List.set_cons_zero, List.set_cons_succ]
      refine wpQuiet_yields (.int .i64 nl) (Or.inl ⟨by rfl, fun W' hS => ?yq10⟩) ?_
      case yq10 =>
        go_simp
      try simp only [Act.put, List.setIfInBounds_toArray, List.set_cons_zero, List.set_cons_succ]
      refine wpQuiet_yields (.bool false) (Or.inl ⟨by rfl, fun W' hS => ?yq11⟩) ?_
      case yq11 =>
        go_simp
        exact HJN.out
      try simp only [Act.put, List.setIfInBounds_toArray, List.set_cons_zero, List.set_cons_succ]
      refine wpQuiet_yields (.bool false) (Or.inl ⟨by rfl, fun W' hS => ?yq12⟩) ?_
      case yq12 =>
        go_simp
      try simp only [Act.put, List.setIfInBounds_toArray, List.set_cons_zero, List.set_cons_succ]
      refine wpQuiet_yields (.bool false) (Or.inl ⟨by rfl, fun W' hS => ?yq13⟩) ?_
      case yq13 =>
        go_simp
      try simp only [Act.put, List.setIfInBounds_toArray, List.set_cons_zero, List.set_cons_succ]
      refine wpQuiet_yields (.agg C.toArray) (yieldsIf_load_mid (by rfl) 90 (.tmp 8) rfl g 0 rfl C _ (fun W h => HX.out.rg W h) Tryz.underlying90 rfl HX.out.sz) ?_
      try simp only [Act.put, List.setIfInBounds_toArray, List.set_cons_zero, List.set_cons_succ]
      refine wpQuiet_yields (Value.pointer (some ⟨q, 0, none⟩)) (Or.inl ⟨by rfl, fun W' hS => ?yq14⟩) ?_
      case yq14 =>
        have q0 := (SB.row (l := [Value.pointer (some ⟨q, 0, none⟩)]) hS HX.out.bq).cell 0
        simp only [List.getElem?_cons_zero] at q0
        go_simp
      try simp only [Act.put, List.setIfInBounds_toArray, List.set_cons_zero, List.set_cons_succ]
      refine wpQuiet_yields (Value.pointer (some ⟨q, 0, none⟩)) (Or.inl ⟨by rfl, fun W' hS => ?yq15⟩) ?_
      case yq15 =>
        go_simp
      try simp only [Act.put, List.setIfInBounds_toArray, List.set_cons_zero, List.set_cons_succ]
      refine wpQuiet_yields (Value.pointer (some ⟨q, 0, none⟩)) (Or.inl ⟨by rfl, fun W' hS => ?yq16⟩) ?_
      case yq16 =>
        go_simp
      try simp only [Act.put, List.setIfInBounds_toArray, List.set_cons_zero, List.set_cons_succ]
      refine wpQuiet_yields (.slice (some ⟨gr, 0, none⟩) nl nl) (Or.inl ⟨by rfl, fun W' hS => ?yq17⟩) ?_
      case yq17 =>
        have q0 := (SB.row hS HX.out.rq).cell 0
        simp only [HRC.out, List.getElem?_cons_zero] at q0
        go_simp
      try simp only [Act.put, List.setIfInBounds_toArray, List.set_cons_zero, List.set_cons_succ]
      refine wpQuiet_yields (.int .i64 (j : Nat)) (Or.inl ⟨by rfl, fun W' hS => ?yq18⟩) ?_
      case yq18 =>
        go_simp
      try simp only [Act.put, List.setIfInBounds_toArray, List.set_cons_zero, List.set_cons_succ]
      refine wpQuiet_yields (.pointer (some ⟨gr, j * 128, none⟩)) (Or.inl ⟨by rfl, fun W' hS => ?yq19⟩) ?_
      case yq19 =>
        go_simp
      try simp only [Act.put, List.setIfInBounds_toArray, List.set_cons_zero, List.set_cons_succ]
      refine wpQuiet_yields (.agg C.toArray) (yieldsIf_load_mid (by rfl) 90 (.tmp 39) rfl gr (j * 128) rfl C _ (fun W h => HX.out.rl W h) Tryz.underlying90 rfl HX.out.sz) ?_
      try simp only [Act.put, List.setIfInBounds_toArray, List.set_cons_zero, List.set_cons_succ]
      refine wpQuiet_yields (.bool false) (yields_neq (by rfl) _ _ _ _ rfl C.toArray rfl rfl (by kernel_rfl) HX.out.dif) ?_
      try simp only [Act.put, List.setIfInBounds_toArray, List.set_cons_zero, List.set_cons_succ]
      refine wpQuiet_yields (.bool false) (Or.inl ⟨by rfl, fun W' hS => ?yq20⟩) ?_
      case yq20 =>
        go_simp
      try simp only [Act.put, List.setIfInBounds_toArray, List.set_cons_zero, List.set_cons_succ]
      refine wpQuiet_yields (.bool false) (Or.inl ⟨by rfl, fun W' hS => ?yq21⟩) ?_
      case yq21 =>
        go_simp
      try simp only [Act.put, List.setIfInBounds_toArray, List.set_cons_zero, List.set_cons_succ]
      refine wpQuiet_yields (Value.pointer (some ⟨p, 0, none⟩)) (Or.inl ⟨by rfl, fun W' hS => ?yq22⟩) ?_
      case yq22 =>
        have q0 := (SB.row (l := [Value.pointer (some ⟨p, 0, none⟩)]) hS HX.out.bd).cell 0
        simp only [List.getElem?_cons_zero] at q0
        go_simp
      try simp only [Act.put, List.setIfInBounds_toArray, List.set_cons_zero, List.set_cons_succ]
      refine wpQuiet_yields (.int .i64 (j : Nat)) (Or.inl ⟨by rfl, fun W' hS => ?yq23⟩) ?_
      case yq23 =>
        go_simp
      try simp only [Act.put, List.setIfInBounds_toArray, List.set_cons_zero, List.set_cons_succ]
      refine wpQuiet_call (.agg C.toArray) 55 #[Value.pointer (some ⟨p, 0, none⟩), .int .i64 (j : Nat)] (by rfl) (fun W' => ?yq24) (fun W' hS => HX.out.last W' hS) ?_
      case yq24 =>
        go_simp
      try simp only [Act.put, List.setIfInBounds_toArray, List.set_cons_zero, List.set_cons_succ]
      refine wpQuiet_yields (.agg C.toArray) (yieldsIf_load_mid (by rfl) 90 (.tmp 8) rfl g 0 rfl C _ (fun W h => HX.out.rg W h) Tryz.underlying90 rfl HX.out.sz) ?_
      try simp only [Act.put, List.setIfInBounds_toArray, List.set_cons_zero, List.set_cons_succ]
      refine wpQuiet_yields (.bool false) (yields_neq (by rfl) _ _ _ _ rfl C.toArray rfl rfl (by kernel_rfl) HX.out.dif) ?_
      try simp only [Act.put, List.setIfInBounds_toArray, List.set_cons_zero, List.set_cons_succ]
      refine wpQuiet_yields (.bool false) (Or.inl ⟨by rfl, fun W' hS => ?yq25⟩) ?_
      case yq25 =>
        go_simp
      try simp only [Act.put, List.setIfInBounds_toArray, List.set_cons_zero, List.set_cons_succ]
      refine wpQuiet_nil ?_
      intro wf hwf

      have HWF := Lib.hid hwf
      have b3 := (SB.row hwf HX.out.bd).cell 0
      simp only [List.getElem?_cons_zero] at b3
      clear hwf
      gi_wp2_with (first
        | (refine ⟨trivial, ?_⟩; gi_at_call 56; refine (HRD.out _ HWF.out).mono ?_; rintro e w2 ⟨rfl, hb2⟩; have HB2 := Lib.hid hb2; clear hb2)
        | (refine ⟨trivial, ?_⟩; gi_at_call 57; refine (HRR.out _ HN3.out.1).mono ?_; rintro e w4 ⟨rfl, hb4⟩; have HB4 := Lib.hid hb4; clear hb4)
        | (refine wpIn_store_row 90 (.tmp 9) (.tmp 54) rfl w2.heap.size RB.toArray rfl rfl 90 Z.toArray (HNEW.out w2).1 (by rw [List.size_toArray]; exact HZ.out.2.2.2.1) (by rw [List.size_toArray, List.size_toArray, HZ.out.2.1, HZ.out.2.2.1]) HZ.out.2.2.2.2 ?_; have hN := (HNEW.out w2).2; generalize (w2.alloc (.cells Z.toArray 90)).setRow w2.heap.size RB.toArray = w3 at hN ⊢; have HN3 := Lib.hid (And.intro (SB.next HB2.out.1 hN.1) hN.2); have b4 := (SB.row HN3.out.1 HX.out.bq).cell 0; simp only [List.getElem?_cons_zero] at b4; clear hN)
        | (refine wpIn_store_row 90 (.tmp 11) (.tmp 60) rfl w4.heap.size RB.toArray rfl rfl 90 Z.toArray (HNEW.out w4).1 (by rw [List.size_toArray]; exact HZ.out.2.2.2.1) (by rw [List.size_toArray, List.size_toArray, HZ.out.2.1, HZ.out.2.2.1]) HZ.out.2.2.2.2 ?_; have hN := (HNEW.out w4).2; generalize (w4.alloc (.cells Z.toArray 90)).setRow w4.heap.size RB.toArray = w5 at hN ⊢; have HN5 := Lib.hid (And.intro (SB.next HB4.out.1 hN.1) (And.intro hN.2 (SB.row (SB.next HB4.out.2 hN.1) HN3.out.2))); have b5 := (SB.row HN5.out.1 HX.out.n).cell 0; have f5 := (SB.row HN5.out.1 HX.out.n).frozen 0; simp only [List.getElem?_cons_zero] at b5; clear hN)
        | (refine wpIn_load_eq (g := w2.heap.size) rfl rfl (HLD.out _ _ HN5.out.2.2) ?_)
        | (refine wpIn_load_eq (g := w4.heap.size) rfl rfl (HLD.out _ _ HN5.out.2.1) ?_)
        | fail)
      have hne := HN.out
      have hk5 := HK.out.1 _ HN5.out.1
      have hsz5 := hk5.size
      have e1 : (((pre ++ [x]).length : Nat) : Int) = (j : Int) + 1 := by rw [HK.out.2.2.1]; omega
      have hbx : Boxed w5 bn 3 (.int .i64 (j : Nat)) := SB.row HN5.out.1 HX.out.n
      have hWW : wm.heap.size ≤ W.heap.size := hWs.out
      have hkA : Keeps (fun k => k ≠ bn) W (w5.setCell ⟨bn, 0, none⟩ (.int .i64 ((j : Int) + 1))) := (Keeps.of_below (L := fun k => k ≠ bn) HN5.out.1 (fun _ h _ => h)).setCell (p := ⟨bn, 0, none⟩) (.inl (fun h => h rfl)) _
      refine ⟨((below_others HN5.out.1).trans (KeepsOthers.setCell _ _ _)).from _, keepsA_of (L := fun k => k ≠ bn) hkA (by omega) (by omega) (by omega) (by omega) (by omega) (by omega), HK.out.2.1, ?_, hk5.setCell (p := ⟨bn, 0, none⟩) (.inl (fun h => h rfl)) _⟩
      rw [e1]
      exact hbx.set _
    · have hnp : ¬ (pre ++ [x]).map Subtype.val <+: List.range LS.length := fun h => hx (range_next h)
      have HNP := Lib.hid hnp
      obtain ⟨j, hj⟩ : ∃ j, pre.length = j := ⟨_, rfl⟩
      obtain ⟨i, hi⟩ : ∃ i, x.1 = i := ⟨_, rfl⟩
      rw [hj] at hn hx
      rw [hi] at hx ⊢
      have hne : ((i : Int) != (j : Int)) = true := by rw [bne_iff_ne]; omega
      have hne3 : ((i : Int) == (j : Int)) = false := by rw [beq_eq_false_iff_ne]; omega
      have hbr : Row W br 4 [.bool false] := (hk.block br (by have := HN.out; omega) (by have := HN.out; show br ≠ bn; omega)).trans HC.out.2.2.1
      have HX := Lib.hid (And.intro (show Row W bn 3 [.int .i64 (j : Nat)] from hn) hbr)
      clear hnp hn hbr hj hi hk hpre hx hrow
      gi_wp2
      refine round_quiet_lit (SB W) (by kernel_rfl) (by kernel_rfl) (by kernel_rfl) (below_drewK (Below.refl _ _) 1) ?_
      refine wpQuiet_yields (.int .i64 (i : Nat)) (Or.inl ⟨by rfl, fun W' hS => ?yq1⟩) ?_
      case yq1 =>
        go_simp
      try simp only [Act.put, List.setIfInBounds_toArray, List.set_cons_zero, List.set_cons_succ]
      refine wpQuiet_yields (.int .i64 (j : Nat)) (Or.inl ⟨by rfl, fun W' hS => ?yq2⟩) ?_
      case yq2 =>
        have q0 := (SB.row (l := [.int .i64 (j : Nat)]) hS HX.out.1).cell 0
        simp only [List.getElem?_cons_zero] at q0
        go_simp
      try simp only [Act.put, List.setIfInBounds_toArray, List.set_cons_zero, List.set_cons_succ]
      refine wpQuiet_yields (.bool true) (Or.inl ⟨by rfl, fun W' hS => ?yq3⟩) ?_
      case yq3 =>
        go_simp
      try simp only [Act.put, List.setIfInBounds_toArray, List.set_cons_zero, List.set_cons_succ]
      refine wpQuiet_yields (.bool true) (Or.inl ⟨by rfl, fun W' hS => ?yq4⟩) ?_
      case yq4 =>
        go_simp
      try simp only [Act.put, List.setIfInBounds_toArray, List.set_cons_zero, List.set_cons_succ]
      go_big_quiet_skip
      go_big_quiet_skip
      go_big_quiet_skip
      go_big_quiet_skip
      go_big_quiet_skip
      go_big_quiet_skip
      go_big_quiet_skip
      refine wpQuiet_yields (.bool true) (Or.inl ⟨by rfl, fun W' hS => ?yq5⟩) ?_
      case yq5 =>
        go_simp
      try simp only [Act.put, List.setIfInBounds_toArray, List.set_cons_zero, List.set_cons_succ]
      refine wpQuiet_yields (.bool true) (Or.inl ⟨by rfl, fun W' hS => ?yq6⟩) ?_
      case yq6 =>
        go_simp
      try simp only [Act.put, List.setIfInBounds_toArray, List.set_cons_zero, List.set_cons_succ]
      go_big_quiet_skip
      go_big_quiet_skip
      go_big_quiet_skip
      go_big_quiet_skip
      go_big_quiet_skip
      go_big_quiet_skip
      go_big_quiet_skip
      go_big_quiet_skip
      go_big_quiet_skip
      refine wpQuiet_yields (.bool true) (Or.inl ⟨by rfl, fun W' hS => ?yq7⟩) ?_
      case yq7 =>
        go_simp
      try simp only [Act.put, List.setIfInBounds_toArray, List.set_cons_zero, List.set_cons_succ]
      refine wpQuiet_yields (.bool true) (Or.inl ⟨by rfl, fun W' hS => ?yq8⟩) ?_
      case yq8 =>
        go_simp
      try simp only [Act.put, List.setIfInBounds_toArray, List.set_cons_zero, List.set_cons_succ]
      go_big_quiet_skip
      go_big_quiet_skip
      go_big_quiet_skip
      go_big_quiet_skip
      go_big_quiet_skip
      refine wpQuiet_yields (.bool true) (Or.inl ⟨by rfl, fun W' hS => ?yq9⟩) ?_
      case yq9 =>
        go_simp
      try simp only [Act.put, List.setIfInBounds_toArray, List.set_cons_zero, List.set_cons_succ]
      refine wpQuiet_nil ?_
      intro wf hwf

      have r0 := (SB.row hwf HX.out.2).cell 0
      have f0 := (SB.row hwf HX.out.2).frozen 0
      simp only [List.getElem?_cons_zero] at r0
      gi_wp2
      exact ⟨((below_others hwf).trans (KeepsOthers.setCell _ _ _)).from _, HNP.out⟩
  case hdone =>
    rintro D' xs W' hD' hS ⟨_, hn, hk⟩ hK'
    have hxl : xs.length = LS.length := by have h := congrArg List.length hS; simpa using h
    rw [hxl, HD.out.2.2.2.2] at hn
    have hne := HN.out
    have hkb : ∀ (b : Nat) (T : TypeId) (l : List Value), b < wm.heap.size → b ≠ bn → Row wm b T l → Row W' b T l := fun b T l h1 h2 h3 => (hk.block b h1 h2).trans h3
    have x1 : Row W' bn 3 [.int .i64 nl] := hn
    have x2 := hkb bd _ _ (by omega) (by omega) HC.out.1
    have x3 := hkb bq _ _ (by omega) (by omega) HC.out.2.1
    have x4 := hkb q _ _ HD.out.2.2.1.lt (fun e => HD.out.2.1.fp e) HD.out.2.2.1
    have x5 := hkb br _ _ (by omega) (by omega) HC.out.2.2.1
    have hdW : DiskIs (fun k => k = bn) W' p D := HD.out.1.keeps hk (fun g _ h2 => h2)
    have hdD : DiskIs (fun k => k = bn) W'.drew p D := hdW.below (below_drewK (Below.refl _ _) 1)
    have hB6 : SB w W' := HC.out.2.2.2.1.trans (hk.below (B := w.heap.size) (HC.out.2.2.2.1.size) (fun k h => by omega))
    have HS0 : Hid (Row W'.drew bn 3 [.int .i64 nl] ∧ Row W'.drew bd 24 [.pointer (some ⟨p, 0, none⟩)] ∧ Row W'.drew bq 28 [.pointer (some ⟨q, 0, none⟩)] ∧ Row W'.drew q 45 RC) := Lib.hid ⟨x1.drew, x2.drew, x3.drew, x4.drew⟩
    have hnr : bn ≠ br ∧ bd ≠ br ∧ bq ≠ br := by omega
    have hqr : q ≠ br := fun e => by
      have h1 := HD.out.2.2.1
      have h2 := HC.out.2.2.1
      unfold Row at h1 h2
      rw [e, h2] at h1
      injection h1 with h1
      injection h1 with _ h3
      revert h3
      decide
    have HS6 : Hid (Row (W'.drew.setCell ⟨br, 0, none⟩ (.bool true)) bn 3 [.int .i64 nl] ∧ Row (W'.drew.setCell ⟨br, 0, none⟩ (.bool true)) bd 24 [.pointer (some ⟨p, 0, none⟩)] ∧ Row (W'.drew.setCell ⟨br, 0, none⟩ (.bool true)) bq 28 [.pointer (some ⟨q, 0, none⟩)] ∧ Row (W'.drew.setCell ⟨br, 0, none⟩ (.bool true)) q 45 RC) := Lib.hid ⟨x1.drew.far hnr.1 _, x2.drew.far hnr.2.1 _, x3.drew.far hnr.2.2 _, x4.drew.far hqr _⟩
    have HR5 := Lib.hid (And.intro x5 (And.intro hK' (And.intro hB6 hD')))
    have HSE : Hid (Calls Tryz.prog 58 #[.pointer (some ⟨p, 0, none⟩)] W'.drew fun e w' => e = .returned (.int .i64 nl) ∧ W'.drew = w') := Lib.hid (by
      obtain ⟨gl', gm', hv', Dm', hd'⟩ := hdD
      have h := Sectors_any hd'
      rw [HD.out.2.2.2.1, HD.out.2.2.2.2] at h
      exact h)
    have HDO : Hid (Calls Tryz.prog 59 #[.pointer (some ⟨p, 0, none⟩)] W'.drew fun e w' => e = .returned (.bool D.down) ∧ W'.drew = w') := Lib.hid (by
      obtain ⟨gl', gm', hv', Dm', hd'⟩ := hdD
      exact Down_any hd')
    have HST : Hid (Calls Tryz.prog 24 #[.pointer (some ⟨p, 0, none⟩)] W'.drew fun e w' => e = .returned (.int .i64 (D.steps : Nat)) ∧ W'.drew = w') := Lib.hid (by
      obtain ⟨gl', gm', hv', Dm', hd'⟩ := hdD
      exact Steps_any hd')
    have HHA : Hid (Calls Tryz.prog 60 #[.pointer (some ⟨p, 0, none⟩)] W'.drew fun e w' => e = .returned (.int .i64 (128 * (nh : Int))) ∧ W'.drew = w') := Lib.hid (by
      obtain ⟨gl', gm', hv', Dm', hd'⟩ := hdD
      have h := Hangs_any hd' (by have := HH.out.2; omega)
      rw [HNH.out, Int.mul_comm] at h
      exact h)
    have hnh6 : (nh : Int) < 1000000 := by have := HH.out.2; have := HNH.out; omega
    obtain ⟨sp, hsp⟩ : ∃ sp, D.steps = sp := ⟨_, rfl⟩
    obtain ⟨dn, hdn⟩ : ∃ dn, D.down = dn := ⟨_, rfl⟩
    rw [hsp] at HST HRC
    rw [hdn] at HDO HRC
    clear hn hk hS hxl hne hkb hnr hqr x1 x2 x3 x4 x5 hdW hdD hB6 hsp hdn hD' hK'
    go_wp2_with fail
    refine wp_region_noPanic ?_
    refine wp_region_held_drew (S := fun W => Row W bn 3 [.int .i64 nl] ∧ Row W bd 24 [.pointer (some ⟨p, 0, none⟩)] ∧ Row W bq 28 [.pointer (some ⟨q, 0, none⟩)] ∧ Row W q 45 RC) (by kernel_rfl) HS0.out (fun hHeld => ?_)
    refine wpAnyH_take (i := 0) (oi := { dst := some 72, op := Op.load 3 (Operand.tmp 6), type := 3, pos := "law.go:79", after := #[], guard := none }) (v := ?vve_0) rfl (by kernel_rfl) (by kernel_rfl) (by kernel_rfl) (fun _ _ _ h => h) (Or.inl ⟨by rfl, ?yye_0⟩) hHeld ?_
    case vve_0 => exact .int .i64 nl
    case yye_0 =>
      intro W hS
      have q0 := Row.cell hS.1 0
      simp only [List.getElem?_cons_zero] at q0
      go_simp
    try simp only [Act.put, List.setIfInBounds_toArray, List.set_cons_zero, List.set_cons_succ]
    refine wpAnyH_take (i := 1) (oi := { dst := some 73, op := Op.load 28 (Operand.tmp 3), type := 28, pos := "law.go:79", after := #[], guard := none }) (v := ?vve_1) rfl (by kernel_rfl) (by kernel_rfl) (by kernel_rfl) (fun _ _ _ h => h) (Or.inl ⟨by rfl, ?yye_1⟩) hHeld ?_
    case vve_1 => exact Value.pointer (some ⟨q, 0, none⟩)
    case yye_1 =>
      intro W hS
      have q0 := Row.cell hS.2.2.1 0
      simp only [List.getElem?_cons_zero] at q0
      go_simp
    try simp only [Act.put, List.setIfInBounds_toArray, List.set_cons_zero, List.set_cons_succ]
    refine wpAnyH_take (i := 2) (oi := { dst := some 74, op := Op.nilCheck (Operand.tmp 73), type := 0, pos := "law.go:79", after := #[{ on := 1, ground := Ground.data }], guard := none }) (v := ?vve_2) rfl (by kernel_rfl) (by kernel_rfl) (by kernel_rfl) (fun _ _ _ h => h) (Or.inl ⟨by rfl, ?yye_2⟩) hHeld ?_
    case vve_2 => exact Value.pointer (some ⟨q, 0, none⟩)
    case yye_2 =>
      intro W hS
      go_simp
    try simp only [Act.put, List.setIfInBounds_toArray, List.set_cons_zero, List.set_cons_succ]
    refine wpAnyH_take (i := 3) (oi := { dst := some 75, op := Op.fieldAddr 45 (Operand.tmp 74) 0, type := 0, pos := "law.go:79", after := #[{ on := 2, ground := Ground.data }], guard := none }) (v := ?vve_3) rfl (by kernel_rfl) (by kernel_rfl) (by kernel_rfl) (fun _ _ _ h => h) (Or.inl ⟨by rfl, ?yye_3⟩) hHeld ?_
    case vve_3 => exact .pointer (some ⟨q, 0, none⟩)
    case yye_3 =>
      intro W hS
      go_simp
    try simp only [Act.put, List.setIfInBounds_toArray, List.set_cons_zero, List.set_cons_succ]
    refine wpAnyH_take (i := 4) (oi := { dst := some 76, op := Op.load 42 (Operand.tmp 75), type := 42, pos := "law.go:79", after := #[{ on := 3, ground := Ground.data }], guard := none }) (v := ?vve_4) rfl (by kernel_rfl) (by kernel_rfl) (by kernel_rfl) (fun _ _ _ h => h) (Or.inl ⟨by rfl, ?yye_4⟩) hHeld ?_
    case vve_4 => exact .slice (some ⟨gr, 0, none⟩) nl nl
    case yye_4 =>
      intro W hS
      have q0 := Row.cell hS.2.2.2 0
      simp only [HRC.out, List.getElem?_cons_zero, List.getElem?_cons_succ] at q0
      go_simp
    try simp only [Act.put, List.setIfInBounds_toArray, List.set_cons_zero, List.set_cons_succ]
    refine wpAnyH_take (i := 5) (oi := { dst := some 77, op := Op.call { callee := Callee.builtin Builtin.len, args := #[Operand.tmp 76], argTypes := #[42] }, type := 3, pos := "law.go:79", after := #[{ on := 4, ground := Ground.data }], guard := none }) (v := ?vve_5) rfl (by kernel_rfl) (by kernel_rfl) (by kernel_rfl) (fun _ _ _ h => h) (Or.inl ⟨by rfl, ?yye_5⟩) hHeld ?_
    case vve_5 => exact .int .i64 nl
    case yye_5 =>
      intro W hS
      go_simp
    try simp only [Act.put, List.setIfInBounds_toArray, List.set_cons_zero, List.set_cons_succ]
    refine wpAnyH_take (i := 6) (oi := { dst := some 78, op := Op.binOp BinOp.eql 3 (Operand.tmp 72) (Operand.tmp 77) 3, type := 4, pos := "law.go:79", after := #[{ on := 0, ground := Ground.data }, { on := 5, ground := Ground.data }], guard := none }) (v := ?vve_6) rfl (by kernel_rfl) (by kernel_rfl) (by kernel_rfl) (fun _ _ _ h => h) (Or.inl ⟨by rfl, ?yye_6⟩) hHeld ?_
    case vve_6 => exact .bool true
    case yye_6 =>
      intro W hS
      go_simp
    try simp only [Act.put, List.setIfInBounds_toArray, List.set_cons_zero, List.set_cons_succ]
    refine wpAnyH_take (i := 7) (oi := { dst := some 79, op := Op.move (Operand.tmp 78), type := 4, pos := "law.go:79", after := #[{ on := 6, ground := Ground.data }], guard := none }) (v := ?vve_7) rfl (by kernel_rfl) (by kernel_rfl) (by kernel_rfl) (fun _ _ _ h => h) (Or.inl ⟨by rfl, ?yye_7⟩) hHeld ?_
    case vve_7 => exact .bool true
    case yye_7 =>
      intro W hS
      go_simp
    try simp only [Act.put, List.setIfInBounds_toArray, List.set_cons_zero, List.set_cons_succ]
    refine wpAnyH_take (i := 8) (oi := { dst := some 80, op := Op.load 24 (Operand.tmp 2), type := 24, pos := "law.go:79", after := #[{ on := 7, ground := Ground.guard }], guard := some (7, true) }) (v := ?vve_8) rfl (by kernel_rfl) (by kernel_rfl) (by kernel_rfl) (fun _ _ _ h => h) (Or.inl ⟨by rfl, ?yye_8⟩) hHeld ?_
    case vve_8 => exact Value.pointer (some ⟨p, 0, none⟩)
    case yye_8 =>
      intro W hS
      have q0 := Row.cell hS.2.1 0
      simp only [List.getElem?_cons_zero] at q0
      go_simp
    try simp only [Act.put, List.setIfInBounds_toArray, List.set_cons_zero, List.set_cons_succ]
    refine wpAnyH_take (i := 10) (oi := { dst := some 82, op := Op.load 3 (Operand.tmp 6), type := 3, pos := "law.go:79", after := #[{ on := 7, ground := Ground.guard }], guard := some (7, true) }) (v := ?vve_10) rfl (by kernel_rfl) (by kernel_rfl) (by kernel_rfl) (fun _ _ _ h => h) (Or.inl ⟨by rfl, ?yye_10⟩) hHeld ?_
    case vve_10 => exact .int .i64 nl
    case yye_10 =>
      intro W hS
      have q0 := Row.cell hS.1 0
      simp only [List.getElem?_cons_zero] at q0
      go_simp
    try simp only [Act.put, List.setIfInBounds_toArray, List.set_cons_zero, List.set_cons_succ]
    refine wpAnyH_ready (rs := [9]) (by kernel_rfl) (by simp) (AllReadyH.cons (o := { dst := some 81, op := Op.call { callee := Callee.value (Operand.func 58), args := #[Operand.tmp 80], argTypes := #[24] }, type := 3, pos := "law.go:79", after := #[{ on := 8, ground := Ground.data }, { on := 7, ground := Ground.chain }, { on := 7, ground := Ground.guard }], guard := some (7, true) }) rfl (fun K hK => ?_) AllReadyH.nil)
    go_simp
    go_at_call 58
    refine HSE.out.mono ?_
    rintro e w1 ⟨rfl, rfl⟩
    refine hK.out _ _ HS0.out (fun hHeld => ?_)
    clear hK K
    try simp only [Act.put, List.setIfInBounds_toArray, List.set_cons_zero, List.set_cons_succ]
    refine wpAnyH_take (i := 11) (oi := { dst := some 83, op := Op.binOp BinOp.eql 3 (Operand.tmp 81) (Operand.tmp 82) 3, type := 4, pos := "law.go:79", after := #[{ on := 9, ground := Ground.data }, { on := 10, ground := Ground.data }, { on := 7, ground := Ground.guard }], guard := some (7, true) }) (v := ?vve_11) rfl (by kernel_rfl) (by kernel_rfl) (by kernel_rfl) (fun _ _ _ h => h) (Or.inl ⟨by rfl, ?yye_11⟩) hHeld ?_
    case vve_11 => exact .bool true
    case yye_11 =>
      intro W hS
      go_simp
    try simp only [Act.put, List.setIfInBounds_toArray, List.set_cons_zero, List.set_cons_succ]
    refine wpAnyH_take (i := 12) (oi := { dst := some 84, op := Op.pick (Operand.tmp 79) (Operand.tmp 83) (Operand.const (Value.bool false)), type := 4, pos := "law.go:79", after := #[{ on := 7, ground := Ground.data }, { on := 11, ground := Ground.data }], guard := none }) (v := ?vve_12) rfl (by kernel_rfl) (by kernel_rfl) (by kernel_rfl) (fun _ _ _ h => h) (Or.inl ⟨by rfl, ?yye_12⟩) hHeld ?_
    case vve_12 => exact .bool true
    case yye_12 =>
      intro W hS
      go_simp
    try simp only [Act.put, List.setIfInBounds_toArray, List.set_cons_zero, List.set_cons_succ]
    refine wpAnyH_take (i := 13) (oi := { dst := some 85, op := Op.move (Operand.tmp 84), type := 4, pos := "law.go:79", after := #[{ on := 12, ground := Ground.data }, { on := 9, ground := Ground.chain }], guard := none }) (v := ?vve_13) rfl (by kernel_rfl) (by kernel_rfl) (by kernel_rfl) (fun _ _ _ h => h) (Or.inl ⟨by rfl, ?yye_13⟩) hHeld ?_
    case vve_13 => exact .bool true
    case yye_13 =>
      intro W hS
      go_simp
    try simp only [Act.put, List.setIfInBounds_toArray, List.set_cons_zero, List.set_cons_succ]
    refine wpAnyH_take (i := 14) (oi := { dst := some 86, op := Op.load 24 (Operand.tmp 2), type := 24, pos := "law.go:79", after := #[{ on := 13, ground := Ground.guard }], guard := some (13, true) }) (v := ?vve_14) rfl (by kernel_rfl) (by kernel_rfl) (by kernel_rfl) (fun _ _ _ h => h) (Or.inl ⟨by rfl, ?yye_14⟩) hHeld ?_
    case vve_14 => exact Value.pointer (some ⟨p, 0, none⟩)
    case yye_14 =>
      intro W hS
      have q0 := Row.cell hS.2.1 0
      simp only [List.getElem?_cons_zero] at q0
      go_simp
    try simp only [Act.put, List.setIfInBounds_toArray, List.set_cons_zero, List.set_cons_succ]
    refine wpAnyH_take (i := 16) (oi := { dst := some 88, op := Op.load 28 (Operand.tmp 3), type := 28, pos := "law.go:79", after := #[{ on := 13, ground := Ground.guard }], guard := some (13, true) }) (v := ?vve_16) rfl (by kernel_rfl) (by kernel_rfl) (by kernel_rfl) (fun _ _ _ h => h) (Or.inl ⟨by rfl, ?yye_16⟩) hHeld ?_
    case vve_16 => exact Value.pointer (some ⟨q, 0, none⟩)
    case yye_16 =>
      intro W hS
      have q0 := Row.cell hS.2.2.1 0
      simp only [List.getElem?_cons_zero] at q0
      go_simp
    try simp only [Act.put, List.setIfInBounds_toArray, List.set_cons_zero, List.set_cons_succ]
    refine wpAnyH_take (i := 17) (oi := { dst := some 89, op := Op.nilCheck (Operand.tmp 88), type := 0, pos := "law.go:79", after := #[{ on := 16, ground := Ground.data }, { on := 13, ground := Ground.guard }], guard := some (13, true) }) (v := ?vve_17) rfl (by kernel_rfl) (by kernel_rfl) (by kernel_rfl) (fun _ _ _ h => h) (Or.inl ⟨by rfl, ?yye_17⟩) hHeld ?_
    case vve_17 => exact Value.pointer (some ⟨q, 0, none⟩)
    case yye_17 =>
      intro W hS
      go_simp
    try simp only [Act.put, List.setIfInBounds_toArray, List.set_cons_zero, List.set_cons_succ]
    refine wpAnyH_take (i := 18) (oi := { dst := some 90, op := Op.fieldAddr 45 (Operand.tmp 89) 4, type := 0, pos := "law.go:79", after := #[{ on := 17, ground := Ground.data }, { on := 13, ground := Ground.guard }], guard := some (13, true) }) (v := ?vve_18) rfl (by kernel_rfl) (by kernel_rfl) (by kernel_rfl) (fun _ _ _ h => h) (Or.inl ⟨by rfl, ?yye_18⟩) hHeld ?_
    case vve_18 => exact .pointer (some ⟨q, 4, none⟩)
    case yye_18 =>
      intro W hS
      go_simp
    try simp only [Act.put, List.setIfInBounds_toArray, List.set_cons_zero, List.set_cons_succ]
    refine wpAnyH_take (i := 19) (oi := { dst := some 91, op := Op.load 4 (Operand.tmp 90), type := 4, pos := "law.go:79", after := #[{ on := 18, ground := Ground.data }, { on := 13, ground := Ground.guard }], guard := some (13, true) }) (v := ?vve_19) rfl (by kernel_rfl) (by kernel_rfl) (by kernel_rfl) (fun _ _ _ h => h) (Or.inl ⟨by rfl, ?yye_19⟩) hHeld ?_
    case vve_19 => exact .bool dn
    case yye_19 =>
      intro W hS
      have q0 := Row.cell hS.2.2.2 4
      simp only [HRC.out, List.getElem?_cons_zero, List.getElem?_cons_succ] at q0
      go_simp
    try simp only [Act.put, List.setIfInBounds_toArray, List.set_cons_zero, List.set_cons_succ]
    refine wpAnyH_ready (rs := [15]) (by kernel_rfl) (by simp) (AllReadyH.cons (o := { dst := some 87, op := Op.call { callee := Callee.value (Operand.func 59), args := #[Operand.tmp 86], argTypes := #[24] }, type := 4, pos := "law.go:79", after := #[{ on := 14, ground := Ground.data }, { on := 13, ground := Ground.chain }, { on := 13, ground := Ground.guard }], guard := some (13, true) }) rfl (fun K hK => ?_) AllReadyH.nil)
    go_simp
    go_at_call 59
    refine HDO.out.mono ?_
    rintro e w1 ⟨rfl, rfl⟩
    refine hK.out _ _ HS0.out (fun hHeld => ?_)
    clear hK K
    try simp only [Act.put, List.setIfInBounds_toArray, List.set_cons_zero, List.set_cons_succ]
    refine wpAnyH_take (i := 20) (oi := { dst := some 92, op := Op.binOp BinOp.eql 4 (Operand.tmp 87) (Operand.tmp 91) 4, type := 4, pos := "law.go:79", after := #[{ on := 15, ground := Ground.data }, { on := 19, ground := Ground.data }, { on := 13, ground := Ground.guard }], guard := some (13, true) }) (v := ?vve_20) rfl (by kernel_rfl) (by kernel_rfl) (by kernel_rfl) (fun _ _ _ h => h) (Or.inl ⟨by rfl, ?yye_20⟩) hHeld ?_
    case vve_20 => exact .bool true
    case yye_20 =>
      intro W hS
      go_simp
    try simp only [Act.put, List.setIfInBounds_toArray, List.set_cons_zero, List.set_cons_succ]
    refine wpAnyH_take (i := 21) (oi := { dst := some 93, op := Op.pick (Operand.tmp 85) (Operand.tmp 92) (Operand.const (Value.bool false)), type := 4, pos := "law.go:79", after := #[{ on := 13, ground := Ground.data }, { on := 20, ground := Ground.data }], guard := none }) (v := ?vve_21) rfl (by kernel_rfl) (by kernel_rfl) (by kernel_rfl) (fun _ _ _ h => h) (Or.inl ⟨by rfl, ?yye_21⟩) hHeld ?_
    case vve_21 => exact .bool true
    case yye_21 =>
      intro W hS
      go_simp
    try simp only [Act.put, List.setIfInBounds_toArray, List.set_cons_zero, List.set_cons_succ]
    refine wpAnyH_take (i := 22) (oi := { dst := some 94, op := Op.move (Operand.tmp 93), type := 4, pos := "law.go:79", after := #[{ on := 21, ground := Ground.data }, { on := 15, ground := Ground.chain }], guard := none }) (v := ?vve_22) rfl (by kernel_rfl) (by kernel_rfl) (by kernel_rfl) (fun _ _ _ h => h) (Or.inl ⟨by rfl, ?yye_22⟩) hHeld ?_
    case vve_22 => exact .bool true
    case yye_22 =>
      intro W hS
      go_simp
    try simp only [Act.put, List.setIfInBounds_toArray, List.set_cons_zero, List.set_cons_succ]
    refine wpAnyH_take (i := 23) (oi := { dst := some 95, op := Op.load 24 (Operand.tmp 2), type := 24, pos := "law.go:79", after := #[{ on := 22, ground := Ground.guard }], guard := some (22, true) }) (v := ?vve_23) rfl (by kernel_rfl) (by kernel_rfl) (by kernel_rfl) (fun _ _ _ h => h) (Or.inl ⟨by rfl, ?yye_23⟩) hHeld ?_
    case vve_23 => exact Value.pointer (some ⟨p, 0, none⟩)
    case yye_23 =>
      intro W hS
      have q0 := Row.cell hS.2.1 0
      simp only [List.getElem?_cons_zero] at q0
      go_simp
    try simp only [Act.put, List.setIfInBounds_toArray, List.set_cons_zero, List.set_cons_succ]
    refine wpAnyH_take (i := 25) (oi := { dst := some 97, op := Op.load 28 (Operand.tmp 3), type := 28, pos := "law.go:79", after := #[{ on := 22, ground := Ground.guard }], guard := some (22, true) }) (v := ?vve_25) rfl (by kernel_rfl) (by kernel_rfl) (by kernel_rfl) (fun _ _ _ h => h) (Or.inl ⟨by rfl, ?yye_25⟩) hHeld ?_
    case vve_25 => exact Value.pointer (some ⟨q, 0, none⟩)
    case yye_25 =>
      intro W hS
      have q0 := Row.cell hS.2.2.1 0
      simp only [List.getElem?_cons_zero] at q0
      go_simp
    try simp only [Act.put, List.setIfInBounds_toArray, List.set_cons_zero, List.set_cons_succ]
    refine wpAnyH_take (i := 26) (oi := { dst := some 98, op := Op.nilCheck (Operand.tmp 97), type := 0, pos := "law.go:79", after := #[{ on := 25, ground := Ground.data }, { on := 22, ground := Ground.guard }], guard := some (22, true) }) (v := ?vve_26) rfl (by kernel_rfl) (by kernel_rfl) (by kernel_rfl) (fun _ _ _ h => h) (Or.inl ⟨by rfl, ?yye_26⟩) hHeld ?_
    case vve_26 => exact Value.pointer (some ⟨q, 0, none⟩)
    case yye_26 =>
      intro W hS
      go_simp
    try simp only [Act.put, List.setIfInBounds_toArray, List.set_cons_zero, List.set_cons_succ]
    refine wpAnyH_take (i := 27) (oi := { dst := some 99, op := Op.fieldAddr 45 (Operand.tmp 98) 2, type := 0, pos := "law.go:79", after := #[{ on := 26, ground := Ground.data }, { on := 22, ground := Ground.guard }], guard := some (22, true) }) (v := ?vve_27) rfl (by kernel_rfl) (by kernel_rfl) (by kernel_rfl) (fun _ _ _ h => h) (Or.inl ⟨by rfl, ?yye_27⟩) hHeld ?_
    case vve_27 => exact .pointer (some ⟨q, 2, none⟩)
    case yye_27 =>
      intro W hS
      go_simp
    try simp only [Act.put, List.setIfInBounds_toArray, List.set_cons_zero, List.set_cons_succ]
    refine wpAnyH_take (i := 28) (oi := { dst := some 100, op := Op.load 3 (Operand.tmp 99), type := 3, pos := "law.go:79", after := #[{ on := 27, ground := Ground.data }, { on := 22, ground := Ground.guard }], guard := some (22, true) }) (v := ?vve_28) rfl (by kernel_rfl) (by kernel_rfl) (by kernel_rfl) (fun _ _ _ h => h) (Or.inl ⟨by rfl, ?yye_28⟩) hHeld ?_
    case vve_28 => exact .int .i64 sp
    case yye_28 =>
      intro W hS
      have q0 := Row.cell hS.2.2.2 2
      simp only [HRC.out, List.getElem?_cons_zero, List.getElem?_cons_succ] at q0
      go_simp
    try simp only [Act.put, List.setIfInBounds_toArray, List.set_cons_zero, List.set_cons_succ]
    refine wpAnyH_ready (rs := [24]) (by kernel_rfl) (by simp) (AllReadyH.cons (o := { dst := some 96, op := Op.call { callee := Callee.value (Operand.func 24), args := #[Operand.tmp 95], argTypes := #[24] }, type := 3, pos := "law.go:79", after := #[{ on := 23, ground := Ground.data }, { on := 22, ground := Ground.chain }, { on := 22, ground := Ground.guard }], guard := some (22, true) }) rfl (fun K hK => ?_) AllReadyH.nil)
    go_simp
    go_at_call 24
    refine HST.out.mono ?_
    rintro e w1 ⟨rfl, rfl⟩
    refine hK.out _ _ HS0.out (fun hHeld => ?_)
    clear hK K
    try simp only [Act.put, List.setIfInBounds_toArray, List.set_cons_zero, List.set_cons_succ]
    refine wpAnyH_take (i := 29) (oi := { dst := some 101, op := Op.binOp BinOp.eql 3 (Operand.tmp 96) (Operand.tmp 100) 3, type := 4, pos := "law.go:79", after := #[{ on := 24, ground := Ground.data }, { on := 28, ground := Ground.data }, { on := 22, ground := Ground.guard }], guard := some (22, true) }) (v := ?vve_29) rfl (by kernel_rfl) (by kernel_rfl) (by kernel_rfl) (fun _ _ _ h => h) (Or.inl ⟨by rfl, ?yye_29⟩) hHeld ?_
    case vve_29 => exact .bool true
    case yye_29 =>
      intro W hS
      go_simp
    try simp only [Act.put, List.setIfInBounds_toArray, List.set_cons_zero, List.set_cons_succ]
    refine wpAnyH_take (i := 30) (oi := { dst := some 102, op := Op.pick (Operand.tmp 94) (Operand.tmp 101) (Operand.const (Value.bool false)), type := 4, pos := "law.go:79", after := #[{ on := 22, ground := Ground.data }, { on := 29, ground := Ground.data }], guard := none }) (v := ?vve_30) rfl (by kernel_rfl) (by kernel_rfl) (by kernel_rfl) (fun _ _ _ h => h) (Or.inl ⟨by rfl, ?yye_30⟩) hHeld ?_
    case vve_30 => exact .bool true
    case yye_30 =>
      intro W hS
      go_simp
    try simp only [Act.put, List.setIfInBounds_toArray, List.set_cons_zero, List.set_cons_succ]
    refine wpAnyH_take (i := 31) (oi := { dst := some 103, op := Op.move (Operand.tmp 102), type := 4, pos := "law.go:79", after := #[{ on := 30, ground := Ground.data }, { on := 24, ground := Ground.chain }], guard := none }) (v := ?vve_31) rfl (by kernel_rfl) (by kernel_rfl) (by kernel_rfl) (fun _ _ _ h => h) (Or.inl ⟨by rfl, ?yye_31⟩) hHeld ?_
    case vve_31 => exact .bool true
    case yye_31 =>
      intro W hS
      go_simp
    try simp only [Act.put, List.setIfInBounds_toArray, List.set_cons_zero, List.set_cons_succ]
    refine wpAnyH_take (i := 32) (oi := { dst := some 104, op := Op.load 24 (Operand.tmp 2), type := 24, pos := "law.go:79", after := #[{ on := 31, ground := Ground.guard }], guard := some (31, true) }) (v := ?vve_32) rfl (by kernel_rfl) (by kernel_rfl) (by kernel_rfl) (fun _ _ _ h => h) (Or.inl ⟨by rfl, ?yye_32⟩) hHeld ?_
    case vve_32 => exact Value.pointer (some ⟨p, 0, none⟩)
    case yye_32 =>
      intro W hS
      have q0 := Row.cell hS.2.1 0
      simp only [List.getElem?_cons_zero] at q0
      go_simp
    try simp only [Act.put, List.setIfInBounds_toArray, List.set_cons_zero, List.set_cons_succ]
    refine wpAnyH_take (i := 34) (oi := { dst := some 106, op := Op.load 28 (Operand.tmp 3), type := 28, pos := "law.go:79", after := #[{ on := 31, ground := Ground.guard }], guard := some (31, true) }) (v := ?vve_34) rfl (by kernel_rfl) (by kernel_rfl) (by kernel_rfl) (fun _ _ _ h => h) (Or.inl ⟨by rfl, ?yye_34⟩) hHeld ?_
    case vve_34 => exact Value.pointer (some ⟨q, 0, none⟩)
    case yye_34 =>
      intro W hS
      have q0 := Row.cell hS.2.2.1 0
      simp only [List.getElem?_cons_zero] at q0
      go_simp
    try simp only [Act.put, List.setIfInBounds_toArray, List.set_cons_zero, List.set_cons_succ]
    refine wpAnyH_take (i := 35) (oi := { dst := some 107, op := Op.nilCheck (Operand.tmp 106), type := 0, pos := "law.go:79", after := #[{ on := 34, ground := Ground.data }, { on := 31, ground := Ground.guard }], guard := some (31, true) }) (v := ?vve_35) rfl (by kernel_rfl) (by kernel_rfl) (by kernel_rfl) (fun _ _ _ h => h) (Or.inl ⟨by rfl, ?yye_35⟩) hHeld ?_
    case vve_35 => exact Value.pointer (some ⟨q, 0, none⟩)
    case yye_35 =>
      intro W hS
      go_simp
    try simp only [Act.put, List.setIfInBounds_toArray, List.set_cons_zero, List.set_cons_succ]
    refine wpAnyH_take (i := 36) (oi := { dst := some 108, op := Op.fieldAddr 45 (Operand.tmp 107) 1, type := 0, pos := "law.go:79", after := #[{ on := 35, ground := Ground.data }, { on := 31, ground := Ground.guard }], guard := some (31, true) }) (v := ?vve_36) rfl (by kernel_rfl) (by kernel_rfl) (by kernel_rfl) (fun _ _ _ h => h) (Or.inl ⟨by rfl, ?yye_36⟩) hHeld ?_
    case vve_36 => exact .pointer (some ⟨q, 1, none⟩)
    case yye_36 =>
      intro W hS
      go_simp
    try simp only [Act.put, List.setIfInBounds_toArray, List.set_cons_zero, List.set_cons_succ]
    refine wpAnyH_take (i := 37) (oi := { dst := some 109, op := Op.load 43 (Operand.tmp 108), type := 43, pos := "law.go:79", after := #[{ on := 36, ground := Ground.data }, { on := 31, ground := Ground.guard }], guard := some (31, true) }) (v := ?vve_37) rfl (by kernel_rfl) (by kernel_rfl) (by kernel_rfl) (fun _ _ _ h => h) (Or.inl ⟨by rfl, ?yye_37⟩) hHeld ?_
    case vve_37 => exact .slice ha nh hc
    case yye_37 =>
      intro W hS
      have q0 := Row.cell hS.2.2.2 1
      simp only [HRC.out, List.getElem?_cons_zero, List.getElem?_cons_succ] at q0
      go_simp
    try simp only [Act.put, List.setIfInBounds_toArray, List.set_cons_zero, List.set_cons_succ]
    refine wpAnyH_take (i := 38) (oi := { dst := some 110, op := Op.call { callee := Callee.builtin Builtin.len, args := #[Operand.tmp 109], argTypes := #[43] }, type := 3, pos := "law.go:79", after := #[{ on := 37, ground := Ground.data }, { on := 31, ground := Ground.guard }], guard := some (31, true) }) (v := ?vve_38) rfl (by kernel_rfl) (by kernel_rfl) (by kernel_rfl) (fun _ _ _ h => h) (Or.inl ⟨by rfl, ?yye_38⟩) hHeld ?_
    case vve_38 => exact .int .i64 nh
    case yye_38 =>
      intro W hS
      go_simp
    try simp only [Act.put, List.setIfInBounds_toArray, List.set_cons_zero, List.set_cons_succ]
    refine wpAnyH_take (i := 39) (oi := { dst := some 111, op := Op.binOp BinOp.mul 3 (Operand.const (Value.int IntKind.i64 128)) (Operand.tmp 110) 3, type := 3, pos := "law.go:79", after := #[{ on := 38, ground := Ground.data }, { on := 31, ground := Ground.guard }], guard := some (31, true) }) (v := ?vve_39) rfl (by kernel_rfl) (by kernel_rfl) (by kernel_rfl) (fun _ _ _ h => h) (Or.inl ⟨by rfl, ?yye_39⟩) hHeld ?_
    case vve_39 => exact .int .i64 (128 * (nh : Int))
    case yye_39 =>
      intro W hS
      go_simp
      rw [IntKind.wrap_i64]
      omega
    try simp only [Act.put, List.setIfInBounds_toArray, List.set_cons_zero, List.set_cons_succ]
    refine wpAnyH_ready (rs := [33]) (by kernel_rfl) (by simp) (AllReadyH.cons (o := { dst := some 105, op := Op.call { callee := Callee.value (Operand.func 60), args := #[Operand.tmp 104], argTypes := #[24] }, type := 3, pos := "law.go:79", after := #[{ on := 32, ground := Ground.data }, { on := 31, ground := Ground.chain }, { on := 31, ground := Ground.guard }], guard := some (31, true) }) rfl (fun K hK => ?_) AllReadyH.nil)
    go_simp
    go_at_call 60
    refine HHA.out.mono ?_
    rintro e w1 ⟨rfl, rfl⟩
    refine hK.out _ _ HS0.out (fun hHeld => ?_)
    clear hK K
    try simp only [Act.put, List.setIfInBounds_toArray, List.set_cons_zero, List.set_cons_succ]
    refine wpAnyH_take (i := 40) (oi := { dst := some 112, op := Op.binOp BinOp.eql 3 (Operand.tmp 105) (Operand.tmp 111) 3, type := 4, pos := "law.go:79", after := #[{ on := 33, ground := Ground.data }, { on := 39, ground := Ground.data }, { on := 31, ground := Ground.guard }], guard := some (31, true) }) (v := ?vve_40) rfl (by kernel_rfl) (by kernel_rfl) (by kernel_rfl) (fun _ _ _ h => h) (Or.inl ⟨by rfl, ?yye_40⟩) hHeld ?_
    case vve_40 => exact .bool true
    case yye_40 =>
      intro W hS
      go_simp
    try simp only [Act.put, List.setIfInBounds_toArray, List.set_cons_zero, List.set_cons_succ]
    refine wpAnyH_take (i := 41) (oi := { dst := some 113, op := Op.pick (Operand.tmp 103) (Operand.tmp 112) (Operand.const (Value.bool false)), type := 4, pos := "law.go:79", after := #[{ on := 31, ground := Ground.data }, { on := 40, ground := Ground.data }], guard := none }) (v := ?vve_41) rfl (by kernel_rfl) (by kernel_rfl) (by kernel_rfl) (fun _ _ _ h => h) (Or.inl ⟨by rfl, ?yye_41⟩) hHeld ?_
    case vve_41 => exact .bool true
    case yye_41 =>
      intro W hS
      go_simp
    try simp only [Act.put, List.setIfInBounds_toArray, List.set_cons_zero, List.set_cons_succ]
    refine wpAnyH_ready (rs := [42]) (by kernel_rfl) (by simp) (AllReadyH.cons (o := { dst := none, op := Op.store 4 (Operand.tmp 4) (Operand.tmp 113), type := 0, pos := "law.go:79", after := #[{ on := 41, ground := Ground.data }, { on := 33, ground := Ground.chain }, { on := 0, ground := Ground.phase }, { on := 1, ground := Ground.phase }, { on := 2, ground := Ground.phase }, { on := 3, ground := Ground.phase }, { on := 4, ground := Ground.phase }, { on := 5, ground := Ground.phase }, { on := 6, ground := Ground.phase }, { on := 7, ground := Ground.phase }, { on := 8, ground := Ground.phase }, { on := 9, ground := Ground.phase }, { on := 10, ground := Ground.phase }, { on := 11, ground := Ground.phase }, { on := 12, ground := Ground.phase }, { on := 13, ground := Ground.phase }, { on := 14, ground := Ground.phase }, { on := 15, ground := Ground.phase }, { on := 16, ground := Ground.phase }, { on := 17, ground := Ground.phase }, { on := 18, ground := Ground.phase }, { on := 19, ground := Ground.phase }, { on := 20, ground := Ground.phase }, { on := 21, ground := Ground.phase }, { on := 22, ground := Ground.phase }, { on := 23, ground := Ground.phase }, { on := 24, ground := Ground.phase }, { on := 25, ground := Ground.phase }, { on := 26, ground := Ground.phase }, { on := 27, ground := Ground.phase }, { on := 28, ground := Ground.phase }, { on := 29, ground := Ground.phase }, { on := 30, ground := Ground.phase }, { on := 31, ground := Ground.phase }, { on := 32, ground := Ground.phase }, { on := 33, ground := Ground.phase }, { on := 34, ground := Ground.phase }, { on := 35, ground := Ground.phase }, { on := 36, ground := Ground.phase }, { on := 37, ground := Ground.phase }, { on := 38, ground := Ground.phase }, { on := 39, ground := Ground.phase }, { on := 40, ground := Ground.phase }, { on := 41, ground := Ground.phase }], guard := none }) rfl (fun K hK => ?_) AllReadyH.nil)
    have r5 := (Row.drew HR5.out.1).cell 0
    have f5 := (Row.drew HR5.out.1).frozen 0
    simp only [List.getElem?_cons_zero] at r5
    go_simp
    refine hK.out _ _ HS6.out (fun hHeld => ?_)
    clear hK K r5 f5
    try simp only [Act.put, List.setIfInBounds_toArray, List.set_cons_zero, List.set_cons_succ]
    refine wpAnyH_done (by kernel_rfl) ?_ _
    refine NoPanic.normal ?_

    go_wp2_with fail
    obtain ⟨x5, hK', hB6, hD'⟩ := HR5.out
    have hne := HN.out
    have hK5 : ((W'.setCell ⟨br, 0, none⟩ (.bool true)).drew).heap[D']? = some (.deferred (some [])) := (Below.heap_setCell W' ⟨br, 0, none⟩ (.bool true) D' (by show D' ≠ br; omega)).trans hK'
    have hB7 : Below w.heap.size w ((W'.setCell ⟨br, 0, none⟩ (.bool true)).drew) := below_drewK (hB6.setCell (p := ⟨br, 0, none⟩) (by show w.heap.size ≤ br; omega) _) 1
    have hR6 : (((W'.setCell ⟨br, 0, none⟩ (.bool true)).drew).putObj D' (.deferred none)).cell? ⟨br, 0, none⟩ = some (.bool true) := by
      have h2 : Boxed (((W'.setCell ⟨br, 0, none⟩ (.bool true)).drew).putObj D' (.deferred none)) br 4 (.bool true) := (World.putObj_heap_other (by omega)).trans (Row.drew (x5.set 0 (.bool true)))
      exact h2.cell
    refine ⟨by simp, .inl ⟨_, _, rfl, run_takeDeferred hK5, ?_⟩⟩
    exact ⟨.bool true, by simp [results, Tryz.f22, go_sem, hR6], rfl, hB7.trans (belowK_b (w := w) (Nat.le_refl _) _ D' _ _ (by omega) hK5 rfl rfl)⟩
end
end Go.Proofs.YtiaaeniopjpfpaaGreatDoor

namespace Go.Proofs.YtiaaeniopjpfpaaGreatDoor
open Go.RowKit Go.Maps Go.Shelf
set_option linter.unusedVariables false
set_option linter.unusedSimpArgs false
attribute [local go_sem] Oper.semAt_some

theorem framesF_mem : ∀ (k n e : Nat) (s : List UInt8) (x : Nat × List UInt8), x ∈ framesF k n e s → x.2.length + 28 ≤ s.length := by
  intro k
  induction k with
  | zero => intro n e s x h; exact absurd h (by simp [framesF])
  | succ k ih =>
    intro n e s x h
    cases hf : framedL n s with
    | none => rw [framesF_none hf] at h; exact absurd h (by simp)
    | some t =>
      have hl := framedL_le hf
      rw [framesF_some hf] at h
      rcases List.mem_cons.1 h with rfl | h
      · exact hl
      · have := ih _ _ _ _ h
        rw [List.length_drop] at this
        omega

theorem row_item {wm W' : World} {ws m i B S vc : Nat} {va : Option Addr} {e : TypeId} {xs : List Value} {v : Value} (h : wm.ownsRow ws e 1 (.slice va m vc) m xs) (hb : ∀ g, Value.ownBlock (.slice va m vc) = some g → g ≠ B)
    (hk : Keeps (fun k => k < S ∧ k ≠ B) wm W') (hS : wm.heap.size = S) (hi : xs[i]? = some v) : ∃ g, va = some ⟨g, 0, none⟩ ∧ W'.cell? ⟨g, i, none⟩ = some v := by
  have hxl := h.1
  have hil : i < m := by have := (List.getElem?_eq_some_iff.1 hi).1; omega
  rcases id h.2 with ⟨h1, h2⟩ | ⟨g, cap, cur, h1, _, hg, _⟩
  · omega
  · injection h1 with e1 _ e2
    subst e1 e2
    have hgl := (Array.getElem?_eq_some_iff.1 hg).1
    have hgB : g ≠ B := hb g rfl
    refine ⟨g, rfl, ?_⟩
    rw [World.cell?_of_block (w := wm) (a := ⟨g, i, none⟩) (hk.block g hgl ⟨by omega, hgB⟩), h.cellAt i (by omega), hi]

set_option maxRecDepth 100000 in
set_option maxHeartbeats 4000000 in
theorem LogFrames_walk (s : ByteArray) (lv : Value) (l : List ByteArray) (w : World) (hs : s.size ≤ 140737488355328) (hv : Strs w lv l) (hl : l.length ≤ 9223372036854775807) (hG : G w) :
    Calls Tryz.prog 4 #[.string s, lv] w fun e w' => e = .returned (.bool true) ∧ Below w.heap.size w w' := by
  obtain ⟨a0, cap, b, off, rfl, hb0, hcl⟩ := hv
  obtain ⟨n, hn⟩ : ∃ n, l.length = n := ⟨_, rfl⟩
  rw [hn] at hl hb0 hcl ⊢
  refine (callsIn_wide (n := 6)).1 ?_
  refine callsIn_of_wp_marks Tryz.func4 rfl trivial ?_ rfl
  simp only [Tryz.ntmps4, List.size_toArray, List.length_cons, List.length_nil, Nat.reduceAdd, Nat.reduceSub, Array.replicate_succ, Array.replicate_zero, List.push_toArray, List.append_toArray, List.nil_append, List.cons_append]
  rw [wpIn_wide]
  have b1 := Boxed.new w 4 (.bool false)
  have hB1 : Below w.heap.size w (w.alloc (.cells #[.bool false] 4)) := (Below.refl _ _).alloc (Nat.le_refl _) _
  have hz1 : (w.alloc (.cells #[.bool false] 4)).heap.size = w.heap.size + 1 := by simp
  have HG := Lib.hid hG
  have H0 := Lib.hid (And.intro b1 (And.intro hB1 hz1))
  have HC := Lib.hid (And.intro hb0 (And.intro hcl hn))
  clear b1 hB1 hz1 hG hb0 hcl hn
  obtain ⟨rb, hrb⟩ : ∃ rb, w.heap.size = rb := ⟨_, rfl⟩
  have HRB := Lib.hid hrb
  rw [hrb] at H0
  go_wp2_with fail
  refine (awake12_any _ (HG.out.below (by rw [hrb]; exact H0.out.2.1))).mono ?_
  rintro e wa ⟨rfl, hb1⟩
  have HA : Hid (Boxed wa rb 4 (.bool false) ∧ Below rb w wa ∧ rb + 1 ≤ wa.heap.size) := Lib.hid
    ⟨(hb1.block rb (by rw [H0.out.2.2]; omega)).trans H0.out.1, H0.out.2.1.trans (hb1.mono (by rw [H0.out.2.2]; omega)), by have := hb1.size; rw [H0.out.2.2] at this; exact this⟩
  clear hb1 H0
  by_cases hbig : s.size ≤ 2000 ∧ n ≤ 10
  · obtain ⟨hs2, hn2⟩ := hbig
    have hor : (decide ((2000 : Int) < (s.size : Int)) || decide ((10 : Int) < (n : Int))) = false := by simp; omega
    go_wp2_with fail
    go_loopw [5, 27] (fun t i wr => ∃ (j : Nat) (A : ByteArray), j ≤ n ∧ i = .int .i64 j ∧ t = .string A ∧ A.size ≤ j * 328 ∧ Hid (Boxed wr rb 4 (.bool false) ∧ Below rb w wr ∧ rb + 1 ≤ wr.heap.size)) (fun _ i _ => n - (intOf i).toNat)
    case atStart => exact ⟨0, _, Nat.zero_le _, rfl, rfl, Nat.zero_le _, HA⟩
    case round =>
      obtain ⟨j, A, hj, rfl, rfl, hAs, HW⟩ := hrel
      by_cases hlt : j < n
      · obtain ⟨rfl, hbw⟩ := HC.out.1 (by omega)
        have hx := HC.out.2.1 j hlt
        obtain ⟨x, HX⟩ : ∃ x, Hid (l.getD j ByteArray.empty = x) := ⟨_, Lib.hid rfl⟩
        rw [HX.out] at hx
        have hxw := (HW.out.2.1.cell (p := ⟨b, off + j, none⟩) (by show b < rb; omega)).trans hx
        clear hx
        by_cases hxs : x.size ≤ 300
        · obtain ⟨X, hX⟩ : ∃ X, x.data.toList = X := ⟨_, rfl⟩
          have hxe : x = tx X := by rw [← hX, tx_self]
          obtain ⟨F, hF⟩ : ∃ F, tx (frameL (j + 1) X) = F := ⟨_, rfl⟩
          have hFs : F.size = 28 + x.size := by rw [← hF, tx_size, frameL_length, hxe, tx_size]
          have HFR : Hid (∀ W, Calls Tryz.prog 25 #[.int .i64 ((j : Int) + 1), .string x] W fun e w' => e = .returned (.string F) ∧ Below W.heap.size W w') := Lib.hid fun W => by
            have h := refFrame_any (j + 1) X (by omega) (by rw [← tx_size, ← hxe]; omega) W
            rw [hF, ← hxe, show ((j + 1 : Nat) : Int) = (j : Int) + 1 by omega] at h
            exact h
          have hsz : (A ++ F).size ≤ (j + 1) * 328 := by rw [ByteArray.size_append]; omega
          have HZ := Lib.hid hsz
          have hAF : A.size + F.size ≤ 100000 := by omega
          clear hX hxe hF hsz
          go_wp2_with (go_at_call 25; refine (HFR.out _).mono ?_; rintro e w2 ⟨rfl, hb2⟩)
          go_roundw
          case rel => exact ⟨j + 1, A ++ F, by omega, by go_num, rfl, HZ.out, Lib.hid ⟨(hb2.block rb (by have := HW.out.2.2; omega)).trans HW.out.1, HW.out.2.1.trans (hb2.mono (by have := HW.out.2.2; omega)), by have := hb2.size; have := HW.out.2.2; omega⟩⟩
          case measure => simp [intOf]; omega
        · have hcR := HW.out.1.cell
          have hfR := HW.out.1.frozen
          go_wp2_with fail
          have hvR := HW.out.1.set (.bool true)
          have hR := hvR.cell
          exact ⟨_, (by simp [results, Tryz.f4, go_sem, hR]), rfl, HW.out.2.1.setCell (p := ⟨rb, 0, none⟩) (Nat.le_refl _) _⟩
      · have hjn : j = n := by omega
        have hA2 : A.size ≤ 3280 := by omega
        clear hj hjn hAs
        go_wp2_with fail
        obtain ⟨b3, hb3⟩ : ∃ b3, wr.heap.size = b3 := ⟨_, rfl⟩
        have HR : Hid (Boxed (wr.alloc (.cells #[.string s, .string A, .string (A ++ s)] 9)) rb 4 (.bool false) ∧ Below rb w (wr.alloc (.cells #[.string s, .string A, .string (A ++ s)] 9)) ∧ Row (wr.alloc (.cells #[.string s, .string A, .string (A ++ s)] 9)) b3 9 [.string s, .string A, .string (A ++ s)] ∧ rb < b3) := Lib.hid (by
          have h := Row.new wr 9 [.string s, .string A, .string (A ++ s)]
          rw [hb3] at h
          exact ⟨HW.out.1.alloc _, HW.out.2.1.alloc (by have := HW.out.2.2; omega) _, h, by have := HW.out.2.2; omega⟩)
        rw [hb3]
        generalize (wr.alloc (.cells #[.string s, .string A, .string (A ++ s)] 9)) = wl at HR ⊢
        clear HW
        refine wp_loop (fun a' W => ∃ (x0 x1 x2 x3 x5 x6 x7 x8 x9 x10 x11 x12 x13 x14 x15 x16 x17 x18 x19 x20 x21 x22 x23 x24 x25 x26 x27 x28 x29 x30 x31 x32 x33 x34 x35 x36 x37 x38 x39 x40 x41 x42 x43 x44 x45 x46 x50 x51 x52 x53 x54 x55 x56 x57 x58 x59 x60 x61 x62 x63 x64 x65 x66 x67 x68 x69 x70 x71 x72 x73 x74 x75 x76 x77 x78 x79 x80 x81 x82 x83 x84 x85 x86 x87 x88 x89 x90 x91 x92 x93 x94 x95 x96 x97 : Value) (j : Nat) (Ds : List Nat), a' = { tmps := [x0, x1, x2, x3, .pointer (some ⟨rb, 0, none⟩), x5, x6, x7, x8, x9, x10, x11, x12, x13, x14, x15, x16, x17, x18, x19, x20, x21, x22, x23, x24, x25, x26, x27, x28, x29, x30, x31, x32, x33, x34, x35, x36, x37, x38, x39, x40, x41, x42, x43, x44, x45, x46, .slice (some ⟨b3, 0, none⟩) 3 3, .int .i64 3, .int .i64 (j : Nat), x50, x51, x52, x53, x54, x55, x56, x57, x58, x59, x60, x61, x62, x63, x64, x65, x66, x67, x68, x69, x70, x71, x72, x73, x74, x75, x76, x77, x78, x79, x80, x81, x82, x83, x84, x85, x86, x87, x88, x89, x90, x91, x92, x93, x94, x95, x96, x97].toArray, defers := Ds.map fun D => { target := .collected D, args := #[] } } ∧ j ≤ 3 ∧
          Hid (Ds.length = j ∧ Ds.Nodup ∧ (∀ D ∈ Ds, rb < D ∧ W.heap[D]? = some (.deferred (some []))) ∧ Boxed W rb 4 (.bool false) ∧ Below rb w W ∧ Row W b3 9 [.string s, .string A, .string (A ++ s)] ∧ rb < b3)) (fun a' W => 3 - (intOf (a'.tmps.getD 49 undef)).toNat) ?h0 ?hround
        case h0 => exact ⟨_, _, _, _, _, _, _, _, _, _, _, _, _, _, _, _, _, _, _, _, _, _, _, _, _, _, _, _, _, _, _, _, _, _, _, _, _, _, _, _, _, _, _, _, _, _, _, _, _, _, _, _, _, _, _, _, _, _, _, _, _, _, _, _, _, _, _, _, _, _, _, _, _, _, _, _, _, _, _, _, _, _, _, _, _, _, _, _, _, _, _, _, _, _, 0, [], rfl, Nat.zero_le _, Lib.hid ⟨rfl, List.nodup_nil, fun D h => absurd h (by simp), HR.out.1, HR.out.2.1, HR.out.2.2.1, HR.out.2.2.2⟩⟩
        case hround =>
          intro a' W hinv
          obtain ⟨x0, hinv⟩ := hinv
          obtain ⟨x1, hinv⟩ := hinv
          obtain ⟨x2, hinv⟩ := hinv
          obtain ⟨x3, hinv⟩ := hinv
          obtain ⟨x5, hinv⟩ := hinv
          obtain ⟨x6, hinv⟩ := hinv
          obtain ⟨x7, hinv⟩ := hinv
          obtain ⟨x8, hinv⟩ := hinv
          obtain ⟨x9, hinv⟩ := hinv
          obtain ⟨x10, hinv⟩ := hinv
          obtain ⟨x11, hinv⟩ := hinv
          obtain ⟨x12, hinv⟩ := hinv
          obtain ⟨x13, hinv⟩ := hinv
          obtain ⟨x14, hinv⟩ := hinv
          obtain ⟨x15, hinv⟩ := hinv
          obtain ⟨x16, hinv⟩ := hinv
          obtain ⟨x17, hinv⟩ := hinv
          obtain ⟨x18, hinv⟩ := hinv
          obtain ⟨x19, hinv⟩ := hinv
          obtain ⟨x20, hinv⟩ := hinv
          obtain ⟨x21, hinv⟩ := hinv
          obtain ⟨x22, hinv⟩ := hinv
          obtain ⟨x23, hinv⟩ := hinv
          obtain ⟨x24, hinv⟩ := hinv
          obtain ⟨x25, hinv⟩ := hinv
          obtain ⟨x26, hinv⟩ := hinv
          obtain ⟨x27, hinv⟩ := hinv
          obtain ⟨x28, hinv⟩ := hinv
          obtain ⟨x29, hinv⟩ := hinv
          obtain ⟨x30, hinv⟩ := hinv
          obtain ⟨x31, hinv⟩ := hinv
          obtain ⟨x32, hinv⟩ := hinv
          obtain ⟨x33, hinv⟩ := hinv
          obtain ⟨x34, hinv⟩ := hinv
          obtain ⟨x35, hinv⟩ := hinv
          obtain ⟨x36, hinv⟩ := hinv
          obtain ⟨x37, hinv⟩ := hinv
          obtain ⟨x38, hinv⟩ := hinv
          obtain ⟨x39, hinv⟩ := hinv
          obtain ⟨x40, hinv⟩ := hinv
          obtain ⟨x41, hinv⟩ := hinv
          obtain ⟨x42, hinv⟩ := hinv
          obtain ⟨x43, hinv⟩ := hinv
          obtain ⟨x44, hinv⟩ := hinv
          obtain ⟨x45, hinv⟩ := hinv
          obtain ⟨x46, hinv⟩ := hinv
          obtain ⟨x50, hinv⟩ := hinv
          obtain ⟨x51, hinv⟩ := hinv
          obtain ⟨x52, hinv⟩ := hinv
          obtain ⟨x53, hinv⟩ := hinv
          obtain ⟨x54, hinv⟩ := hinv
          obtain ⟨x55, hinv⟩ := hinv
          obtain ⟨x56, hinv⟩ := hinv
          obtain ⟨x57, hinv⟩ := hinv
          obtain ⟨x58, hinv⟩ := hinv
          obtain ⟨x59, hinv⟩ := hinv
          obtain ⟨x60, hinv⟩ := hinv
          obtain ⟨x61, hinv⟩ := hinv
          obtain ⟨x62, hinv⟩ := hinv
          obtain ⟨x63, hinv⟩ := hinv
          obtain ⟨x64, hinv⟩ := hinv
          obtain ⟨x65, hinv⟩ := hinv
          obtain ⟨x66, hinv⟩ := hinv
          obtain ⟨x67, hinv⟩ := hinv
          obtain ⟨x68, hinv⟩ := hinv
          obtain ⟨x69, hinv⟩ := hinv
          obtain ⟨x70, hinv⟩ := hinv
          obtain ⟨x71, hinv⟩ := hinv
          obtain ⟨x72, hinv⟩ := hinv
          obtain ⟨x73, hinv⟩ := hinv
          obtain ⟨x74, hinv⟩ := hinv
          obtain ⟨x75, hinv⟩ := hinv
          obtain ⟨x76, hinv⟩ := hinv
          obtain ⟨x77, hinv⟩ := hinv
          obtain ⟨x78, hinv⟩ := hinv
          obtain ⟨x79, hinv⟩ := hinv
          obtain ⟨x80, hinv⟩ := hinv
          obtain ⟨x81, hinv⟩ := hinv
          obtain ⟨x82, hinv⟩ := hinv
          obtain ⟨x83, hinv⟩ := hinv
          obtain ⟨x84, hinv⟩ := hinv
          obtain ⟨x85, hinv⟩ := hinv
          obtain ⟨x86, hinv⟩ := hinv
          obtain ⟨x87, hinv⟩ := hinv
          obtain ⟨x88, hinv⟩ := hinv
          obtain ⟨x89, hinv⟩ := hinv
          obtain ⟨x90, hinv⟩ := hinv
          obtain ⟨x91, hinv⟩ := hinv
          obtain ⟨x92, hinv⟩ := hinv
          obtain ⟨x93, hinv⟩ := hinv
          obtain ⟨x94, hinv⟩ := hinv
          obtain ⟨x95, hinv⟩ := hinv
          obtain ⟨x96, hinv⟩ := hinv
          obtain ⟨x97, hinv⟩ := hinv
          obtain ⟨j, Ds, ha, hj, HW⟩ := hinv
          subst ha
          try dsimp only
          by_cases hlt : j < 3
          · obtain ⟨X, hX⟩ : ∃ X, ([s, A, A ++ s].getD j ByteArray.empty).data.toList = X := ⟨_, rfl⟩
            have hxe : [s, A, A ++ s].getD j ByteArray.empty = tx X := by rw [← hX, tx_self]
            have hXl : X.length ≤ 5280 := by
              rw [← hX]
              show ([s, A, A ++ s].getD j ByteArray.empty).size ≤ 5280
              rcases (by omega : j = 0 ∨ j = 1 ∨ j = 2) with rfl | rfl | rfl
              · show s.size ≤ 5280; omega
              · show A.size ≤ 5280; omega
              · show (A ++ s).size ≤ 5280; rw [ByteArray.size_append]; omega
            have hx : W.cell? ⟨b3, j, none⟩ = some (.string (tx X)) := by
              rw [HW.out.2.2.2.2.2.1.cell, ← hxe]
              rcases (by omega : j = 0 ∨ j = 1 ∨ j = 2) with rfl | rfl | rfl <;> rfl
            have hFR := Lib.hid (fun W => refFrames_any X (by omega) W)
            obtain ⟨m, hm⟩ : ∃ m, (framesL X).length = m := ⟨_, rfl⟩
            rw [hm] at hFR
            have HM := Lib.hid hm
            have HXL := Lib.hid hXl
            clear hX hxe hXl hm
            obtain ⟨Y, hY⟩ : ∃ Y, tx X = Y := ⟨_, rfl⟩
            rw [hY] at hx hFR
            go_wp2_with fail
            refine (hFR.out _).mono ?_
            rintro e w1 ⟨v, u, rfl, hv1, hu1, hb1⟩
            obtain ⟨va, vc, rfl⟩ := own_slice hv1
            obtain ⟨ua, uc, rfl⟩ := own_slice hu1
            have H1 := Lib.hid (And.intro hv1 (And.intro hu1 hb1))
            clear hv1 hu1 hb1
            go_wp2_with fail
            refine ((callsIn_wide (n := 0)).1 (Frames_in 0 Y _)).mono ?_
            rintro e w4 ⟨rfl, rfl⟩
            go_wp2_with fail
            obtain ⟨c0, hc0⟩ : ∃ c, w1.heap.size = c := ⟨_, rfl⟩
            obtain ⟨ws, hws⟩ : ∃ ws, W.heap.size = ws := ⟨_, rfl⟩
            have H5 : Hid ((Boxed ((((w1.alloc (.cells #[.slice va m vc] 31)).alloc (.cells #[.slice ua m uc] 55)).alloc (.cells #[.int .i64 0] 3)).alloc (.cells #[.string Y] 9)) c0 31 (.slice va m vc) ∧
                Boxed ((((w1.alloc (.cells #[.slice va m vc] 31)).alloc (.cells #[.slice ua m uc] 55)).alloc (.cells #[.int .i64 0] 3)).alloc (.cells #[.string Y] 9)) (c0 + 1) 55 (.slice ua m uc) ∧
                Boxed ((((w1.alloc (.cells #[.slice va m vc] 31)).alloc (.cells #[.slice ua m uc] 55)).alloc (.cells #[.int .i64 0] 3)).alloc (.cells #[.string Y] 9)) (c0 + 2) 3 (.int .i64 0) ∧
                Boxed ((((w1.alloc (.cells #[.slice va m vc] 31)).alloc (.cells #[.slice ua m uc] 55)).alloc (.cells #[.int .i64 0] 3)).alloc (.cells #[.string Y] 9)) (c0 + 3) 9 (.string Y)) ∧
                (((((w1.alloc (.cells #[.slice va m vc] 31)).alloc (.cells #[.slice ua m uc] 55)).alloc (.cells #[.int .i64 0] 3)).alloc (.cells #[.string Y] 9)).ownsRow ws 9 1 (.slice va m vc) m ((framesL X).map fun x => Value.string (tx x.2)) ∧
                ((((w1.alloc (.cells #[.slice va m vc] 31)).alloc (.cells #[.slice ua m uc] 55)).alloc (.cells #[.int .i64 0] 3)).alloc (.cells #[.string Y] 9)).ownsRow ws 3 1 (.slice ua m uc) m ((framesL X).map fun x => Value.int .i64 (x.1 : Nat))) ∧
                Below ws W ((((w1.alloc (.cells #[.slice va m vc] 31)).alloc (.cells #[.slice ua m uc] 55)).alloc (.cells #[.int .i64 0] 3)).alloc (.cells #[.string Y] 9)) ∧ ws ≤ c0 ∧
                ((((w1.alloc (.cells #[.slice va m vc] 31)).alloc (.cells #[.slice ua m uc] 55)).alloc (.cells #[.int .i64 0] 3)).alloc (.cells #[.string Y] 9)).heap.size = c0 + 4) := Lib.hid (by
              have g1 := H1.out.2.2.size
              rw [hws] at g1 H1
              rw [hc0] at g1
              have k1 := Boxed.new w1 31 (.slice va m vc)
              have k2 := Boxed.new (w1.alloc (.cells #[.slice va m vc] 31)) 55 (.slice ua m uc)
              have k3 := Boxed.new ((w1.alloc (.cells #[.slice va m vc] 31)).alloc (.cells #[.slice ua m uc] 55)) 3 (.int .i64 0)
              have k4 := Boxed.new (((w1.alloc (.cells #[.slice va m vc] 31)).alloc (.cells #[.slice ua m uc] 55)).alloc (.cells #[.int .i64 0] 3)) 9 (.string Y)
              simp only [World.size_alloc, hc0] at k1 k2 k3 k4
              refine ⟨⟨((k1.alloc _).alloc _).alloc _, (k2.alloc _).alloc _, k3.alloc _, k4⟩, ⟨(((H1.out.1.alloc _).alloc _).alloc _).alloc _, (((H1.out.2.1.alloc _).alloc _).alloc _).alloc _⟩, ?_, g1, ?_⟩
              · exact (((H1.out.2.2.alloc (by omega) _).alloc (by rw [World.size_alloc]; omega) _).alloc (by rw [World.size_alloc, World.size_alloc]; omega) _).alloc (by rw [World.size_alloc, World.size_alloc, World.size_alloc]; omega) _
              · simp only [World.size_alloc, hc0])
            rw [hc0]
            generalize ((((w1.alloc (.cells #[.slice va m vc] 31)).alloc (.cells #[.slice ua m uc] 55)).alloc (.cells #[.int .i64 0] 3)).alloc (.cells #[.string Y] 9)) = wm at H5 ⊢
            have hrbs0 : rb < ws := by rw [← hws]; exact HW.out.2.2.2.1.lt
            have hBW : Below w.heap.size w wm := by
              have h := H5.out.2.2.1
              have h2 := HW.out.2.2.2.2.1
              rw [hrb]
              exact h2.trans (h.mono (Nat.le_of_lt hrbs0))
            have hGm : G wm := HG.out.below hBW
            have hgs : 0 < rb := by rw [← hrb]; exact HG.out.lt
            have hrbs : rb < ws := by rw [← hws]; exact HW.out.2.2.2.1.lt
            have hsz : wm.heap.size = c0 + 4 := H5.out.2.2.2.2
            have hwc := H5.out.2.2.2.1
            have hbm : wm.heap[c0 + 3]? = some (.cells #[.string (tx X)] 9 (0, 0)) := by rw [hY]; exact H5.out.1.2.2.2
            rw [← wpIn_wide (n := 6)]
            refine' wpIn_rangeFunc_ownG rfl (by omega) (gf := 64) (lb := #[.pointer (some ⟨c0 + 3, 0, none⟩)]) rfl trivial (enters_of Tryz.func64 (by kernel_rfl) rfl)
              (Frames_stops 5 (by omega) (c0 + 3) X (by have := HXL.out; omega) wm hGm hbm) keepsF_t (keepsF_b (by omega) (by omega)) (Below.refl _ _) (fun _ => rfl)
              (fun (pre : List (Nat × List UInt8)) W' => pre <+: framesL X ∧ Boxed W' (c0 + 2) 3 (.int .i64 (pre.length : Nat)) ∧ Keeps (fun k => k < c0 + 4 ∧ k ≠ c0 + 2) wm W')
              (fun _ pre _ => ¬ pre <+: framesL X)
              (OwnFrom.and own_pure_s (OwnFrom.and (Own.from (own_box (c0 + 2) 3 (fun pre : List (Nat × List UInt8) => .int .i64 (pre.length : Nat))) _) (ownFrom_keeps (by omega))))
              (fun _ => own_pure_s)
              ⟨List.nil_prefix, H5.out.1.2.2.1, Keeps.refl _ _⟩
              _ _ _ _ _
            case refine'_2 =>
              intro l x W K hK
              gi_wp2
              exact hK
            case refine'_5 =>
              rintro D c pre W _ hp h _
              exact absurd hp h
            case refine'_3 =>
              rintro l' pre x W' ⟨hpre, hbi, hk⟩ hlt'
              have hb10 : Boxed W' c0 31 (.slice va m vc) := (hk.block c0 (by omega) ⟨by omega, by omega⟩).trans H5.out.1.1
              have hb11 : Boxed W' (c0 + 1) 55 (.slice ua m uc) := (hk.block (c0 + 1) (by omega) ⟨by omega, by omega⟩).trans H5.out.1.2.1
              have hbr : Boxed W' rb 4 (.bool false) := (hk.block rb (by omega) ⟨by omega, by omega⟩).trans ((H5.out.2.2.1.block rb hrbs0).trans HW.out.2.2.2.1)
              have hml : (framesL X).length = m := HM.out
              have hfl : (framesL X).length ≤ X.length := framesF_length _ _ _ _
              have hXl : X.length ≤ 5280 := HXL.out
              obtain ⟨i, hi⟩ : ∃ i, pre.length = i := ⟨_, rfl⟩
              have hsz' := hk.size
              rw [hi] at hbi
              obtain ⟨xa, xt⟩ := x
              obtain ⟨c, hc⟩ : ∃ c, xt.length = c := ⟨_, rfl⟩
              have hT : (tx xt).size = c := by rw [tx_size, hc]
              have c10 := hb10.cell
              have c11 := hb11.cell
              have ci := hbi.cell
              have fi := hbi.frozen
              have cr := hbr.cell
              have fr := hbr.frozen
              have hiI : (i : Int) < 5280 := by omega
              have hmI : (m : Int) ≤ 5280 := by omega
              by_cases him : m ≤ i
              · have HN : Hid (¬ (pre ++ [(xa, xt)]) <+: framesL X) := Lib.hid (fun h => by have := h.length_le; rw [List.length_append, List.length_singleton, hi, hml] at this; omega)
                have him' : (m : Int) ≤ (i : Int) := by omega
                clear hpre hml hfl hXl hi him
                dsimp only
                gi_wp2
                refine ⟨trivial, ?_⟩
                gi_wp2
                refine ⟨trivial, ?_⟩
                gi_wp2
                exact ⟨(KeepsOthers.setCell _ _ _).from _, HN.out⟩
              · obtain ⟨⟨ya, yt⟩, hy⟩ : ∃ y, (framesL X)[i]? = some y := ⟨_, List.getElem?_eq_getElem (by omega)⟩
                have him' : (i : Int) < (m : Int) := by omega
                obtain ⟨g1, rfl, hg1⟩ := row_item H5.out.2.1.1 (fun g hg => by have := (H1.out.1.lt g hg).2; omega) hk hsz (v := .string (tx yt)) (i := i) (by rw [List.getElem?_map, hy]; rfl)
                obtain ⟨g2, rfl, hg2⟩ := row_item H5.out.2.1.2 (fun g hg => by have := (H1.out.2.1.lt g hg).2; omega) hk hsz (v := .int .i64 (ya : Nat)) (i := i) (by rw [List.getElem?_map, hy]; rfl)
                by_cases hxy : xa = ya
                · subst hxy
                  by_cases hty : xt = yt
                  · subst hty
                    have hnext : (pre ++ [(xa, xt)]) <+: framesL X := by
                      obtain ⟨t, ht⟩ := hpre
                      have h9 : (framesL X).drop i = (xa, xt) :: (framesL X).drop (i + 1) := by
                        obtain ⟨hlt9, he9⟩ := List.getElem?_eq_some_iff.1 hy
                        rw [List.drop_eq_getElem_cons hlt9, he9]
                      refine ⟨(framesL X).drop (i + 1), ?_⟩
                      rw [List.append_assoc, List.singleton_append, ← h9, ← ht, ← hi]
                      simp
                    obtain ⟨F, hF⟩ : ∃ F, tx (frameL 1 xt) = F := ⟨_, rfl⟩
                    have hFs : F.size = c + 28 := by rw [← hF, tx_size, frameL_length, hc]; omega
                    have hcb : c ≤ 5280 := by
                      have hm9 := framesF_mem _ _ _ _ _ (List.mem_of_getElem? hy)
                      dsimp only at hm9
                      omega
                    have HN : Hid (∀ W, Calls Tryz.prog 28 #[.int .i64 (c : Nat)] W fun e w' => e = .returned (.int .i64 ((c : Int) + 28)) ∧ W = w') := Lib.hid fun W => Need_any c (by omega) W
                    have HF : Hid (∀ W, Calls Tryz.prog 25 #[.int .i64 1, .string (tx xt)] W fun e w' => e = .returned (.string F) ∧ Below W.heap.size W w') := Lib.hid fun W => by
                      have h := refFrame_any 1 xt (by omega) (by omega) W
                      rw [hF] at h
                      exact h
                    have HX := Lib.hid (And.intro hnext (And.intro hbi (And.intro hk hi)))
                    have hTT : ((tx xt).toList == (tx xt).toList) = true := by simp
                    have hcI : (c : Int) ≤ 5280 := by omega
                    obtain ⟨T, hTe⟩ : ∃ T, tx xt = T := ⟨_, rfl⟩
                    rw [hTe] at hT hg1 HF hTT
                    have hb2' : ∀ w2, Below W'.heap.size W' w2 → w2.cell? ⟨c0 + 2, 0, none⟩ = some (.int .i64 (i : Nat)) ∧ w2.frozen? ⟨c0 + 2, 0, none⟩ = false := fun w2 hb => ⟨Boxed.cell (t := 3) ((hb.block _ hbi.lt).trans hbi), Boxed.frozen (t := 3) (v := .int .i64 (i : Nat)) ((hb.block _ hbi.lt).trans hbi)⟩
                    have HB2 := Lib.hid hb2'
                    clear hnext hpre hml hfl hXl him hy hF hcb hc hi hb2'
                    dsimp only
                    rw [hTe]
                    gi_wp2_with (first
                      | (refine ⟨trivial, ?_⟩; gi_at_call 28; refine (CallsIn.inRound l' (callsIn_wide.2 (HN.out _))).mono ?_; rintro e w2 ⟨rfl, rfl⟩)
                      | (refine ⟨trivial, ?_⟩; gi_at_call 25; refine (CallsIn.inRound l' (callsIn_wide.2 (HF.out _))).mono ?_; rintro e w2 ⟨rfl, hb2⟩; obtain ⟨q2, f2⟩ := HB2.out _ hb2; have hb2 := Lib.hid hb2))
                    obtain ⟨hnext, hbi, hk, hi⟩ := HX.out
                    have hbi2 : Boxed w2 (c0 + 2) 3 (.int .i64 (i : Nat)) := (hb2.out.block _ hbi.lt).trans hbi
                    have hset := hbi2.set (.int .i64 ((i : Int) + 1))
                    have hfar : ∀ k, k < W'.heap.size → k ≠ c0 + 2 → (w2.setCell ⟨c0 + 2, 0, none⟩ (.int .i64 ((i : Int) + 1))).heap[k]? = W'.heap[k]? := fun k h1 h2 => (Below.heap_setCell w2 ⟨c0 + 2, 0, none⟩ _ k h2).trans (hb2.out.block k h1)
                    refine ⟨((below_others hb2.out).trans (KeepsOthers.setCell _ _ _)).from _, ⟨hfar (c0 + 3) (by omega) (by omega), hfar _ (by omega) (by omega)⟩, hnext, ?_, (hk.trans (Keeps.of_below (L := fun k => k < c0 + 4 ∧ k ≠ c0 + 2) hb2.out (fun _ h _ => h))).setCell (p := ⟨c0 + 2, 0, none⟩) (.inl (fun h => h.2 rfl)) _⟩
                    rw [List.length_append, List.length_singleton, hi]
                    exact hset
                  · have hne := str_ne (fun h => hty (by rw [← tx_list xt, ← tx_list yt, h]) : tx xt ≠ tx yt)
                    have HN : Hid (¬ (pre ++ [(xa, xt)]) <+: framesL X) := Lib.hid (fun h => by
                      obtain ⟨t, ht⟩ := h
                      rw [← ht, List.append_assoc, List.getElem?_append_right (by omega), hi] at hy
                      simp at hy
                      exact hty hy)
                    obtain ⟨T, hTe⟩ : ∃ T, tx xt = T := ⟨_, rfl⟩
                    obtain ⟨U, hUe⟩ : ∃ U, tx yt = U := ⟨_, rfl⟩
                    rw [hTe] at hT hne
                    rw [hUe] at hg1 hne
                    clear hpre hml hfl hXl hi him hy
                    dsimp only
                    rw [hTe]
                    gi_wp2
                    refine ⟨trivial, ?_⟩
                    gi_wp2
                    refine ⟨trivial, ?_⟩
                    gi_wp2
                    exact ⟨(KeepsOthers.setCell _ _ _).from _, HN.out⟩
                · have hne : ((xa : Int) != (ya : Int)) = true := by rw [bne_iff_ne]; omega
                  have hne3 : ((xa : Int) == (ya : Int)) = false := by rw [beq_eq_false_iff_ne]; omega
                  have HN : Hid (¬ (pre ++ [(xa, xt)]) <+: framesL X) := Lib.hid (fun h => by
                    obtain ⟨t, ht⟩ := h
                    rw [← ht, List.append_assoc, List.getElem?_append_right (by omega), hi] at hy
                    simp at hy
                    exact hxy hy.1)
                  clear hpre hml hfl hXl hi him hy
                  dsimp only
                  gi_wp2
                  refine ⟨trivial, ?_⟩
                  gi_wp2
                  refine ⟨trivial, ?_⟩
                  gi_wp2
                  exact ⟨(KeepsOthers.setCell _ _ _).from _, HN.out⟩
            case refine'_4 =>
              rintro D ys W' hD rfl ⟨_, hbi, hk⟩ hK
              have hb10 : Boxed W' c0 31 (.slice va m vc) := (hk.block c0 (by omega) ⟨by omega, by omega⟩).trans H5.out.1.1
              rw [HM.out] at hbi
              have hall : Hid ((D :: Ds).length = j + 1 ∧ (D :: Ds).Nodup ∧ (∀ D' ∈ D :: Ds, rb < D' ∧ W'.heap[D']? = some (.deferred (some []))) ∧ Boxed W' rb 4 (.bool false) ∧ Below rb w W' ∧ Row W' b3 9 [.string s, .string A, .string (A ++ s)] ∧ rb < b3) := Lib.hid (by
                obtain ⟨h1, h2, h3, h4, h5, h6, h7⟩ := HW.out
                have hblk : ∀ k, k < W.heap.size → W'.heap[k]? = W.heap[k]? := fun k hk9 => (hk.block k (by omega) ⟨by omega, by omega⟩).trans (H5.out.2.2.1.block k (by omega))
                have hDs : ∀ D' ∈ Ds, D' < W.heap.size := fun D' hD' => (Array.getElem?_eq_some_iff.1 (h3 D' hD').2).1
                refine ⟨by rw [List.length_cons, h1], List.nodup_cons.2 ⟨fun hm9 => by have := hDs D hm9; omega, h2⟩, fun D' hD' => ?_, (hblk rb h4.lt).trans h4, ?_, (hblk b3 h6.lt).trans h6, h7⟩
                · rcases List.mem_cons.1 hD' with rfl | hD'
                  · exact ⟨by omega, hK⟩
                  · exact ⟨(h3 D' hD').1, (hblk D' (hDs D' hD')).trans (h3 D' hD').2⟩
                · exact (h5.trans (H5.out.2.2.1.mono (Nat.le_of_lt hrbs0))).trans (hk.below (by omega) (fun k h => ⟨by omega, by omega⟩)))
              have c10 := hb10.cell
              have ci := hbi.cell
              have hjI : (j : Int) < 3 := by omega
              clear hb10 hbi hk hK hD
              go_wp2_with fail
              refine ⟨⟨_, _, _, _, _, _, _, _, _, _, _, _, _, _, _, _, _, _, _, _, _, _, _, _, _, _, _, _, _, _, _, _, _, _, _, _, _, _, _, _, _, _, _, _, _, _, _, _, _, _, _, _, _, _, _, _, _, _, _, _, _, _, _, _, _, _, _, _, _, _, _, _, _, _, _, _, _, _, _, _, _, _, _, _, _, _, _, _, _, _, _, _, _, _, j + 1, D :: Ds, by rw [show ((j + 1 : Nat) : Int) = (j : Int) + 1 by omega]; rfl, by omega, hall⟩, ?_⟩
              show 3 - (intOf (.int .i64 ((j : Int) + 1))).toNat < 3 - (intOf (.int .i64 (j : Int))).toNat
              simp [intOf]
              omega
          · have hj3 : j = 3 := by omega
            subst hj3
            obtain ⟨h1, h2, h3, h4, h5, h6, h7⟩ := HW.out
            obtain ⟨D3, D2, D1, rfl⟩ : ∃ a b c, Ds = [a, b, c] := by
              match Ds, h1 with
              | [a, b, c], _ => exact ⟨a, b, c, rfl⟩
            have g3 := h3 D3 (by simp)
            have g2 := h3 D2 (by simp)
            have g1 := h3 D1 (by simp)
            have n32 : D3 ≠ D2 := fun e => by subst e; simp at h2
            have n31 : D3 ≠ D1 := fun e => by subst e; simp at h2
            have n21 : D2 ≠ D1 := fun e => by subst e; simp at h2
            have hcR := h4.cell
            have hfR := h4.frozen
            have HE := Lib.hid (And.intro g3 (And.intro g2 (And.intro g1 (And.intro n32 (And.intro n31 (And.intro n21 (And.intro h4 h5)))))))
            simp only [List.map_cons, List.map_nil]
            clear h1 h2 h3 h4 h5 h6 h7 g1 g2 g3 n32 n31 n21 HW hlt hj
            go_wp2_with fail
            obtain ⟨g3, g2, g1, n32, n31, n21, h4, h5⟩ := HE.out
            have r4 := h4.set (.bool true)
            obtain ⟨V, hV⟩ : ∃ V, W.setCell ⟨rb, 0, none⟩ (.bool true) = V := ⟨_, rfl⟩
            have hfar : ∀ k, k ≠ rb → V.heap[k]? = W.heap[k]? := fun k h => by rw [← hV]; exact Below.heap_setCell W ⟨rb, 0, none⟩ _ k h
            have hB : Below rb w V := by rw [← hV]; exact h5.setCell (p := ⟨rb, 0, none⟩) (Nat.le_refl _) _
            rw [hV] at r4 ⊢
            have k3 := (hfar D3 (by omega)).trans g3.2
            have k2 : (V.putObj D3 (.deferred none)).heap[D2]? = some (.deferred (some [])) := (World.putObj_heap_other (Ne.symm n32)).trans ((hfar D2 (by omega)).trans g2.2)
            have k1 : ((V.putObj D3 (.deferred none)).putObj D2 (.deferred none)).heap[D1]? = some (.deferred (some [])) := (World.putObj_heap_other (Ne.symm n21)).trans ((World.putObj_heap_other (Ne.symm n31)).trans ((hfar D1 (by omega)).trans g1.2))
            have hR : (((V.putObj D3 (.deferred none)).putObj D2 (.deferred none)).putObj D1 (.deferred none)).cell? ⟨rb, 0, none⟩ = some (.bool true) :=
              Boxed.cell (t := 4) ((World.putObj_heap_other (by omega)).trans ((World.putObj_heap_other (by omega)).trans ((World.putObj_heap_other (by omega)).trans r4)))
            refine ⟨by simp, .inl ⟨_, _, rfl, run_takeDeferred k3, ⟨by simp, .inl ⟨_, _, rfl, run_takeDeferred k2, ⟨by simp, .inl ⟨_, _, rfl, run_takeDeferred k1, ?_⟩⟩⟩⟩⟩⟩
            refine ⟨.bool true, by simp [results, Tryz.f4, go_sem, hR], rfl, ?_⟩
            have hBw : Below w.heap.size w V := by rw [hrb]; exact hB
            exact ((hBw.trans (belowK_b (w := w) (Nat.le_refl _) _ D3 _ _ (by omega) k3 rfl rfl)).trans (belowK_b (w := w) (Nat.le_refl _) _ D2 _ _ (by omega) k2 rfl rfl)).trans (belowK_b (w := w) (Nat.le_refl _) _ D1 _ _ (by omega) k1 rfl rfl)
  · have hor : (decide ((2000 : Int) < (s.size : Int)) || decide ((10 : Int) < (n : Int))) = true := by simp; omega
    have hcR := HA.out.1.cell
    have hfR := HA.out.1.frozen
    go_wp2_with fail
    all_goals
      have hR := (HA.out.1.set (.bool true)).cell
      exact ⟨_, (by simp [results, Tryz.f4, go_sem, hR]), rfl, by first | exact HA.out.2.1.setCell (p := ⟨rb, 0, none⟩) (Nat.le_refl _) _ | (rw [hrb]; exact HA.out.2.1.setCell (p := ⟨rb, 0, none⟩) (Nat.le_refl _) _)⟩
end Go.Proofs.YtiaaeniopjpfpaaGreatDoor

namespace Go.Proofs.YtiaaeniopjpfpaaGreatDoor.logFrames
open Go.ChangeShapes Go.WideShapes Go.ChangeAt Go.RowKit
open Go.ChangeMaps (open_string shut_string)
set_option linter.unusedVariables false

theorem own : ownKnob Tryz.prog.godebug = none := by kernel_rfl
theorem laidOut : laidOutB Tryz.prog = true := by kernel_rfl
theorem cells_str : Tryz.prog.cellsOf 9 = 1 := by kernel_rfl
theorem cell_in {w : World} {a : Addr} {v : Value} (h : w.cell? a = some v) : a.block < w.heap.size := by
  refine Decidable.byContradiction fun hn => ?_
  simp [World.cell?, Array.getElem?_eq_none (Nat.le_of_not_lt hn)] at h
/-- A []string that came in, nil or not. -/
theorem strs_open {H : Type} {enc : TypeId × Value → H} {W : World} {a0 : Option Addr} {len cap fuel : Nat} {x : DataW H × List MemPlace}
    (hf : DataW.trod enc Tryz.prog W 0 (fun _ => true) true fuel 31 [.slice a0 len cap] = some x) : ∃ l, Strs W (.slice a0 len cap) l ∧ l.length ≤ 9223372036854775807 := by
  rcases open_strings Tryz.underlying31 Tryz.underlying9 cells_str hf with ⟨hcs, hx⟩ | ⟨a, len', cap', ss, hcs, _, hl, hm, hz, hx, hcell, _⟩
  · simp at hcs
    obtain ⟨rfl, rfl, rfl⟩ := hcs
    exact ⟨[], ⟨none, 0, 0, 0, rfl, fun h => absurd h (by simp), fun j h => absurd h (by simp)⟩, by simp⟩
  · simp at hcs
    obtain ⟨rfl, rfl, rfl⟩ := hcs
    simp only [if_true] at hz
    obtain ⟨b, off, spot⟩ := a
    have hlen : (ss.take len).length = len := by simp; omega
    refine ⟨ss.take len, ⟨some ⟨b, off, spot⟩, cap, b, off, by rw [hlen], fun h0 => ?_, fun j hj => ?_⟩, ?_⟩
    · rw [hlen] at h0
      have hspot : spot = none := by simpa [Addr.add] using World.cell?_spot (hcell 0 (by omega))
      subst hspot
      exact ⟨rfl, cell_in (hcell 0 (by omega))⟩
    · rw [hlen] at hj
      have hspot : spot = none := by simpa [Addr.add] using World.cell?_spot (hcell 0 (by omega))
      subst hspot
      have e : (ss.take len).getD j ByteArray.empty = ss.getD j ByteArray.empty := by simp [List.getD, List.getElem?_take_of_lt hj]
      rw [e, ← add_plain]
      exact hcell j (by omega)
    · rw [hlen]
      unfold maxLen at hm; omega

set_option maxRecDepth 100000 in
theorem lifted (os : Os) (started : os.Started) (H : Type) (enc : TypeId × Value → H) :
    ReturnsInHanded {} Tryz.checked os 4 .any (fun w args => (Rows.logFramesSpec.pre enc Tryz.prog Tryz.f4 Rows.logFramesRow.domain false w args ∧ laidMetH Tryz.prog Rows.logFramesRow.laid w) ∧ sizedMet enc Tryz.prog Tryz.f4 (OpenSpec.ofChange Rows.logFramesSpec) false w args) (Rows.logFramesSpec.post enc Tryz.prog Tryz.f4 false true false false) := by
  refine returnsInHanded_of_change_and (C := Tryz.checked) (X := fun w _ => laidMetH Tryz.prog Rows.logFramesRow.laid w) (fun _ _ _ hh h => h.of_heap hh) own started (by kernel_rfl) Tryz.func4
    (ChangeSpec.witness_shaped (enc := enc) (C := Tryz.checked) (os := os) (X := fun w _ => laidMetH Tryz.prog Rows.logFramesRow.laid w) false (World.laidAll Tryz.prog os Rows.logFramesRow.laid) #[.string ByteArray.empty, .slice none 0 0] 8 (World.laidAll_os _ _ _) (World.shaped_of_ZipB (by kernel_rfl) (by kernel_rfl)) (by kernel_rfl) (by kernel_rfl) (by kernel_rfl) (by rw [MakeChecks.laidMetH_plain _ _ _ (by kernel_rfl)]; exact laidMet_laidAll _ (by kernel_rfl) (by kernel_rfl))) ?_
  intro W base args ds gs before hval0 hW hcnd hsz0 hX1 hX2
  have hsz : (DataW.weightsEach Tryz.prog (Tryz.f4.params.toList ++ Rows.logFramesSpec.plain.varTypes Tryz.prog) (ds ++ gs)).all (· ≤ reachBytes) = true := hsz0
  have hval : ∀ (j : Nat) t v, Tryz.f4.params[j]? = some t → args[j]? = some v → Value.okWide Tryz.prog W .any base t v := hval0
  have hW' := hW
  obtain ⟨p, q, hA0, hV, rfl, hfz, hnd⟩ := hW
  have hA : DataW.TrodAll enc Tryz.prog W 0 (fun _ => true) true Tryz.f4.params.toList args.toList ds p := hA0
  rw [Tryz.params4] at hA hval hsz
  obtain ⟨v0, vs0, d0, ds0, p0, q0, hargs, rfl, rfl, h0, r0⟩ := trodAll_cons hA
  obtain ⟨v1, vs1, d1, ds1, p1, q1, rfl, rfl, rfl, h1, r1⟩ := trodAll_cons r0
  obtain ⟨rfl, rfl, rfl⟩ := trodAll_nil r1
  obtain rfl : args = #[v0, v1] := by cases args; simp_all
  obtain ⟨rfl, rfl⟩ := trodVars_none hV
  obtain ⟨a0, rfl, rfl, rfl, m0⟩ := open_string Tryz.underlying9 (hval 0 9 v0 rfl rfl) h0
  obtain ⟨x1, len1, cap1, rfl⟩ := okWide_slice Tryz.underlying31 (hval 1 31 v1 rfl rfl)
  have k1 := h1
  have lt1 : ∀ x ∈ p1, x.block < W.heap.size := by obtain ⟨m, hm⟩ := k1; exact DataW.trod_lt m _ _ _ hm
  obtain ⟨l1, w1, n1⟩ : ∃ l, Strs W (.slice x1 len1 cap1) l ∧ l.length ≤ 9223372036854775807 := by
    obtain ⟨fuel, hf⟩ := h1
    exact strs_open hf
  have w0 : a0.size ≤ 140737488355328 := by
    have h47 := reachBytes_lt
    have hh := sized_string hsz (j := 0) (t := 9) rfl rfl
    rw [Array.length_toList] at hh
    exact Nat.le_of_lt (Nat.lt_of_le_of_lt hh h47)
  clear hA0 hval0 hsz hsz0
  simp only [List.append_nil] at hW'
  refine (LogFrames_walk a0 (.slice x1 len1 cap1) l1 W w0 w1 n1 (G_of_laidL hX1)).mono fun e W' ⟨he, bel⟩ => ?_
  subst he
  exact ⟨_, rfl, _, _, _, [], _, [], hW', trodAll_mk1 (shut_bool Tryz.underlying4 _), (trodAll_cons_mk (shut_string Tryz.underlying9 m0) (trodAll_cons_mk (Below.trod laidOut (by kernel_rfl) (of_decide_eq_true (by kernel_rfl)) k1 bel lt1) trodAll_mk0)), rfl, bel.frame _, fun h => by cases h⟩

set_option maxHeartbeats 4000000 in
set_option maxRecDepth 100000 in
theorem closed : joinedFacts Tryz.prog 4 Tryz.f4 Rows.logFramesSpec Rows.logFramesRow = true := by
  unfold joinedFacts
  simp only [Bool.and_eq_true]
  repeat' apply And.intro
  all_goals as_aux_lemma => kernel_rfl

set_option maxHeartbeats 4000000 in
theorem over : Rows.logFramesRow.holds Tryz.pinned (OpenSpec.ofChange Rows.logFramesSpec) :=
  OpenClaim.holds_of_wide 4 Tryz.f4 rfl rfl rfl rfl rfl rfl rfl ⟨rfl, rfl, rfl, rfl, rfl⟩ rfl rfl rfl rfl rfl (by kernel_rfl) Tryz.func4 closed
    (of_decide_eq_true (by kernel_rfl)) (by unfold Func.isWrapper; first | (rw [if_pos (by decide +kernel)]; kernel_rfl) | (rw [if_neg (by decide +kernel)]; exact ⟨rfl, rfl⟩))
    (fun os started H enc _ => lifted os started H enc)

set_option maxHeartbeats 4000000 in
theorem proved : Rows.LogFramesCardSaid :=
  Claim7.holds_tied_plain_at .later [] [.data, .data, .pinned] true (true, "95d5dcc963f29f1f9ba13a6c6d68d10d7d59008c53bb6b3b5dc1e90669c3fd27") true
    over (fun _ h => by cases h) (by kernel_rfl) (fun _ h => by cases h) logFrames_row_tie rfl ⟨rfl, rfl⟩ (by kernel_rfl) rfl
    (fun f fn hf hfn => by
      obtain rfl : f = 4 := Option.some.inj ((show Tryz.prog.funcNamed "cashier/cashierlaw12.LogFrames" = some 4 by kernel_rfl).symm.trans hf) |>.symm
      obtain rfl : fn = Tryz.f4 := (Option.some.inj (Tryz.func4.symm.trans hfn)).symm
      exact ⟨by kernel_rfl, fun j t ht => by
        rw [Tryz.params4] at ht
        have hm : t ∈ [9, 31] := by simpa using Array.mem_of_getElem? ht
        have hall : ([9, 31].all fun u => !Tryz.prog.wantsStandIn u) = true := by kernel_rfl
        exact (show Tryz.prog.wantsStandIn t = false by simpa using List.all_eq_true.1 hall t hm)⟩)
    (by kernel_rfl)

end Go.Proofs.YtiaaeniopjpfpaaGreatDoor.logFrames
