/- The document's sum. -/
import Derived.OwnWalk
import Derived.Deep.OwnRows
import Derived.Deep.RegionHeld3
import Derived.Test.YtlmbijhkpgolaaaGreatDoorTail
import Derived.Test.YtlmbijhkpgolaaaGreatDoorBuildOf
import Derived.Test.YtlmbijhkpgolaaaGreatDoorRK
import Derived.Test.YtlmbijhkpgolaaaGreatDoorSRnd
import Derived.Test.YtlmbijhkpgolaaaGreatDoorRPad
import Derived.Test.YtlmbijhkpgolaaaGreatDoorSText
import Derived.Test.YtlmbijhkpgolaaaGreatDoorSMix
import Derived.Test.YtlmbijhkpgolaaaGreatDoorRSB
import Derived.Test.YtlmbijhkpgolaaaGreatDoorRS13
import Derived.Test.YtlmbijhkpgolaaaGreatDoorRS22
namespace Go.Proofs.YtlmbijhkpgolaaaGreatDoor
open Go.RowKit
set_option linter.unusedVariables false
set_option linter.unusedSimpArgs false

attribute [local irreducible] mixK rnds sched add8 comp moreW firstW nextW rnd shaL bytes8 blk wpart wordPart wrow brow
set_option maxRecDepth 20000 in
set_option maxHeartbeats 40000000 in
theorem refSum_any (s : ByteArray) (hs : s.size ≤ 100000) (w : World) :
    Calls Tryz.prog 36 #[.string s] w fun e w' => e = .returned (sumV (shaL s.data.toList)) ∧ Below w.heap.size w w' := by
  obtain ⟨i0, hi0, hz0, hz1, hz2⟩ := info_parts w_info3
  have HI := Lib.hid (And.intro hi0 (And.intro hz0 (And.intro hz1 hz2)))
  clear hi0 hz0 hz1 hz2
  obtain ⟨P, hP⟩ : ∃ P, padB s = P := ⟨_, rfl⟩
  obtain ⟨L, hL⟩ : ∃ L, padL s.data.toList = L := ⟨_, rfl⟩
  obtain ⟨n, hn⟩ : ∃ n, L.length / 64 = n := ⟨_, rfl⟩
  have hPL : P.data.toList = L := by rw [← hP, ← hL]; rfl
  have hsz : P.size = 64 * n := by
    have h1 := padB_size s
    rw [hP] at h1
    have h2 : P.size = L.length := by rw [← hPL]; simp
    omega
  have hbig : n ≤ 2000 := by
    have h1 := padB_size s
    rw [hP] at h1
    omega
  have HP := Lib.hid (And.intro hP (And.intro hL (And.intro hn (And.intro hPL hsz))))
  clear hL hn hPL
  go_enter Tryz.func36, Tryz.ntmps36
  go_wp2_with fail
  refine (refPad_any s hs _).mono ?_
  rintro e w1 ⟨rfl, hb1⟩
  rw [hP]
  clear hP
  have hr1 := (Row.new w 56 z32).below hb1 (by simp)
  have hb1' := ((Below.refl w.heap.size w).alloc (Nat.le_refl _) (.cells z32.toArray 56)).trans (hb1.mono (by simp))
  have hsz1 := hr1.lt
  clear hb1
  go_wp2_with fail
  refine (refK_any _).mono ?_
  rintro e w2 ⟨rfl, rfl⟩
  have hrk := Row.new w1 66 (wrow K64)
  have hr2 := hr1.alloc (.cells (wrow K64).toArray 66)
  have hb2 := hb1'.alloc hb1'.size (.cells (wrow K64).toArray 66)
  have hs2 : (w1.alloc (.cells (wrow K64).toArray 66)).heap.size = w1.heap.size + 1 := by simp
  generalize w1.alloc (.cells (wrow K64).toArray 66) = w2 at hrk hr2 hb2 hs2 ⊢
  obtain ⟨gk, hgk⟩ : ∃ g, w1.heap.size = g := ⟨_, rfl⟩
  rw [hgk] at hrk hs2 hsz1 ⊢
  clear hb1' hr1 hgk
  have hrk3 := hrk.alloc (.cells (s8l start8).toArray 66)
  have hr3 := hr2.alloc (.cells (s8l start8).toArray 66)
  have hb3 := hb2.alloc hb2.size (.cells (s8l start8).toArray 66)
  have hrh3 := Row.new w2 66 (s8l start8)
  rw [hs2] at hrh3
  have hs3 : (w2.alloc (.cells (s8l start8).toArray 66)).heap.size = gk + 2 := by simp [hs2]
  have eh0 : (h0Ints.map (Value.int .u32)).toArray = (s8l start8).toArray := by rfl
  have HS2 := Lib.hid hs2
  have HE0 := Lib.hid eh0
  clear hs2 hrk hr2 hb2 eh0
  go_wp2_with (refine wpList_buildFlatAt rfl 77 66 8 _ rfl .u32 h0Ints (gk + 1) HS2.out (some 26) rfl Tryz.underlying77 (by kernel_rfl) (by kernel_rfl) (by kernel_rfl) (by decide) (by decide) (by kernel_rfl) ?_)
  rw [HE0.out]
  generalize w2.alloc (.cells (s8l start8).toArray 66) = w3 at hrk3 hr3 hb3 hrh3 hs3 ⊢
  clear HS2 HE0
  have HW3 := Lib.hid (And.intro hrk3 (And.intro hr3 (And.intro hb3 (And.intro hrh3 hs3))))
  clear hrk3 hr3 hb3 hrh3 hs3
  go_wp2
  go_loopw [6] (fun at' wr => ∃ J : Nat, J ≤ n ∧ at' = .int .i64 ((64 * J : Nat) : Int) ∧ Row wr w.heap.size 56 z32 ∧ Row wr gk 66 (wrow K64) ∧ Row wr (gk + 1) 66 (s8l (mixK start8 L J)) ∧ Below w.heap.size w wr) (fun at' _ => 64 * n - (intOf at').toNat)
  case atStart => exact ⟨0, Nat.zero_le _, rfl, HW3.out.2.1, HW3.out.1, by rw [mixK_zero]; exact HW3.out.2.2.2.1, HW3.out.2.2.1⟩
  case round =>
    obtain ⟨J, hJ, rfl, r0, rk, rh, rb⟩ := hrel
    by_cases hlt : J < n
    · skip
      have hlt64 : 64 * J < P.size := by omega
      have HR := Lib.hid (And.intro r0 (And.intro rk (And.intro rh (And.intro rb (And.intro hJ hlt)))))
      have hkr := rk.lt
      clear r0 rk rh rb HW3 hJ
      obtain ⟨b, hb⟩ : ∃ b, blk L J = b := ⟨_, rfl⟩
      have hby : ∀ k, k < 64 → ∃ (h : 64 * J + k < P.size), b[k]? = some P[64 * J + k] := by
        intro k hk
        have hi : 64 * J + k < P.size := by omega
        refine ⟨hi, ?_⟩
        rw [← hb]
        unfold blk
        rw [List.getElem?_take_of_lt hk, List.getElem?_drop, ← HP.out.2.2.2.1, Array.getElem?_toList, Array.getElem?_eq_getElem hi]
        rfl
      have HBY := Lib.hid (And.intro hb hby)
      clear hb hby
      go_wp2_with (refine wpList_make_row _ rfl _ _ 77 rfl 66 i0 (.int .u32 0) Tryz.underlying77 HI.out.1 HI.out.2.1 HI.out.2.2.1 rfl .i64 .i64 64 rfl rfl (by rw [HI.out.2.2.2]; decide) (by decide) ?_)
      rw [made64]
      have r1 := Row.new wr 66 z64
      have q0 := HR.out.1.alloc (.cells z64.toArray 66)
      have qk := HR.out.2.1.alloc (.cells z64.toArray 66)
      have qh := HR.out.2.2.1.alloc (.cells z64.toArray 66)
      have qb := HR.out.2.2.2.1.alloc HR.out.2.2.2.1.size (.cells z64.toArray 66)
      have qB := (Below.refl wr.heap.size wr).alloc (Nat.le_refl _) (.cells z64.toArray 66)
      have hgh := HR.out.2.2.1.lt
      have hg0 := HR.out.2.2.2.1.size
      have hg1 := HR.out.1.lt
      generalize wr.alloc (.cells z64.toArray 66) = wa at r1 q0 qk qh qb qB ⊢
      obtain ⟨gw, hgw⟩ : ∃ g, wr.heap.size = g := ⟨_, rfl⟩
      rw [hgw] at r1 hkr hgh hg0 hg1 qB ⊢
      have HQ := Lib.hid (And.intro q0 (And.intro qk (And.intro qh qb)))
      have HGW := Lib.hid hgw
      clear q0 qk qh qb hgw
      go_loopw [8] (fun i wb => ∃ k : Nat, k ≤ 16 ∧ i = .int .i64 k ∧ Row wb gw 66 (wrow (firstW b k)) ∧ Below gw wa wb) (fun i _ => 16 - (intOf i).toNat)
      case atStart => exact ⟨0, Nat.zero_le _, rfl, by rw [firstW_zero]; exact r1, Below.refl _ _⟩
      case round =>
        obtain ⟨k, hk, rfl, r2, b2⟩ := hrel
        clear r1
        by_cases hlk : k < 16
        · skip
          rw [← wpart_zero b hlk] at r2
          have HB2 := Lib.hid b2
          have hs2 := b2.size
          clear b2
          go_wp2
          go_loopw [9] (fun j wc => ∃ m : Nat, m ≤ 4 ∧ j = .int .i64 m ∧ Row wc gw 66 (wpart b k m) ∧ Below gw wa wc) (fun j _ => 4 - (intOf j).toNat)
          case atStart => exact ⟨0, Nat.zero_le _, rfl, r2, HB2.out⟩
          case round =>
            obtain ⟨m, hm, rfl, r3, b3⟩ := hrel
            clear r2
            by_cases hlm : m < 4
            · obtain ⟨hi, hx⟩ := HBY.out.2 (4 * k + m) (by omega)
              obtain ⟨x, hxx⟩ : ∃ x, P[64 * J + (4 * k + m)] = x := ⟨_, rfl⟩
              rw [hxx] at hx
              have hst := wordPart_step b k m x hx
              have hc := r3.cell k
              rw [wpart_get b m hlk] at hc
              have hf := r3.frozen k
              have hs1 := fun n => (r3.drewN n).set k (.int .u32 ((wordPart b k (m + 1)).toNat : Int))
              rw [wpart_set] at hs1
              have hs3 := fun n => (below_drewN b3 n).setCell (p := ⟨gw, k, none⟩) (Nat.le_refl _) (.int .u32 ((wordPart b k (m + 1)).toNat : Int))
              have H := Lib.hid (And.intro hs1 hs3)
              obtain ⟨y, hy⟩ : ∃ y, wordPart b k m = y := ⟨_, rfl⟩
              obtain ⟨z, hz⟩ : ∃ z, wordPart b k (m + 1) = z := ⟨_, rfl⟩
              rw [hy, hz] at hst
              rw [hy] at hc
              rw [hz] at H
              obtain ⟨qi, hidx, hqi, hx2⟩ : ∃ (q : Nat) (h : q < P.size), 64 * J + 4 * k + m = q ∧ P[q] = x := ⟨64 * J + (4 * k + m), hi, by omega, hxx⟩
              have hqI : 64 * (J : Int) + 4 * (k : Int) + (m : Int) = (qi : Int) := by omega
              have hk64 : k < 64 := by omega
              clear hsz hqi hs1 hs3 hy hz hx hxx r3 b3 HB2 hs2
              go_wp2
              go_region
              go_wp2
              go_roundw
              case rel => exact ⟨m + 1, by omega, by go_num, H.out.1 _, H.out.2 _⟩
              case measure => simp [intOf]; omega
            · have hm4 : m = 4 := by omega
              have hge : 4 ≤ m := by omega
              rw [hm4, wpart_four _ hlk] at r3
              have HH := Lib.hid (And.intro r3 b3)
              clear r3 b3 HB2 hs2 hm4 hm hlm
              go_wp2
              go_roundw
              case rel => exact ⟨k + 1, by omega, by go_num, HH.out.1, HH.out.2⟩
              case measure => simp [intOf]; omega
        · have hk16 : k = 16 := by omega
          rw [hk16] at r2
          have hge : 16 ≤ k := by omega
          have hs2 := b2.size
          have HB2 := Lib.hid b2
          clear b2 hk hlk hk16
          go_wp2
          go_loopw [10] (fun i wb => ∃ j : Nat, 16 ≤ j ∧ j ≤ 64 ∧ i = .int .i64 j ∧ Row wb gw 66 (wrow (moreW (firstW b 16) (j - 16))) ∧ Below gw wa wb) (fun i _ => 64 - (intOf i).toNat)
          case atStart => exact ⟨16, Nat.le_refl _, by omega, rfl, by rw [moreW_zero]; exact r2, HB2.out⟩
          case round =>
            obtain ⟨j, hj16, hj, rfl, g1, gb⟩ := hrel
            clear r2 HB2 hs2
            by_cases hlj : j < 64
            · skip
              obtain ⟨M, hM⟩ : ∃ M, moreW (firstW b 16) (j - 16) = M := ⟨_, rfl⟩
              have hMl : M.length = j := by rw [← hM, moreW_length, firstW_length]; omega
              have hnx : moreW (firstW b 16) (j + 1 - 16) = M ++ [nextW M] := by
                rw [show j + 1 - 16 = (j - 16) + 1 by omega, moreW, hM]
              have hnw : nextW M = nextW4 (M.getD (j - 16) 0) (M.getD (j - 15) 0) (M.getD (j - 7) 0) (M.getD (j - 2) 0) := by unfold nextW; rw [hMl]
              rw [hM] at g1
              have c15 : wr.cell? ⟨gw, j - 15, none⟩ = some (.int .u32 ((M.getD (j - 15) 0).toNat : Int)) := by rw [g1.cell]; exact wrow_get (by omega)
              have c2 : wr.cell? ⟨gw, j - 2, none⟩ = some (.int .u32 ((M.getD (j - 2) 0).toNat : Int)) := by rw [g1.cell]; exact wrow_get (by omega)
              have c16 : wr.cell? ⟨gw, j - 16, none⟩ = some (.int .u32 ((M.getD (j - 16) 0).toNat : Int)) := by rw [g1.cell]; exact wrow_get (by omega)
              have c7 : wr.cell? ⟨gw, j - 7, none⟩ = some (.int .u32 ((M.getD (j - 7) 0).toNat : Int)) := by rw [g1.cell]; exact wrow_get (by omega)
              obtain ⟨v0, hc0⟩ : ∃ v, wr.cell? ⟨gw, j, none⟩ = some v := by
                rw [g1.cell]; exact wrow_some (by omega) hlj
              have hf0 := g1.frozen j
              obtain ⟨p, hp⟩ : ∃ p, M.getD (j - 16) 0 = p := ⟨_, rfl⟩
              obtain ⟨x, hx⟩ : ∃ x, M.getD (j - 15) 0 = x := ⟨_, rfl⟩
              obtain ⟨q, hq⟩ : ∃ q, M.getD (j - 7) 0 = q := ⟨_, rfl⟩
              obtain ⟨y, hy⟩ : ∃ y, M.getD (j - 2) 0 = y := ⟨_, rfl⟩
              rw [hp] at c16 hnw
              rw [hx] at c15 hnw
              rw [hq] at c7 hnw
              rw [hy] at c2 hnw
              have hs1 := fun n => (g1.drewN n).set j (.int .u32 ((nextW M).toNat : Int))
              have hws := wrow_set (l := M) (by omega) (nextW M)
              rw [hMl, ← hnx] at hws
              rw [hws] at hs1
              have hbs := fun n => (below_drewN gb n).setCell (p := ⟨gw, j, none⟩) (Nat.le_refl _) (.int .u32 ((nextW M).toNat : Int))
              rw [hnw] at hs1 hbs
              have H := Lib.hid (And.intro hs1 hbs)
              have hsx := u32_shr x 3 (by omega)
              have hsy := u32_shr y 10 (by omega)
              simp only [Int.reducePow] at hsx hsy
              have hX := u32_xor
              have hD := u32_add
              have hB15 : (j : Int) - 15 < 64 := by omega
              have hB2 : (j : Int) - 2 < 64 := by omega
              have hB16 : (j : Int) - 16 < 64 := by omega
              have hB7 : (j : Int) - 7 < 64 := by omega
              clear hs1 hbs g1 gb hws hnw hnx hM hMl hp hx hq hy
              go_wp2
              go_quiet ((go_at_call 52; first | (refine (rotrQ2 _ _ ?hb _ _ _).mono ?_; (case hb => decide); rintro e1 w1 ⟨rfl, m, rfl⟩; exact ⟨rfl, m, rfl⟩) | (refine (rotrQ _ _ ?hb _ _ ⟨_, rfl⟩).mono ?_; (case hb => decide); rintro e1 w1 ⟨rfl, m, rfl⟩; exact ⟨rfl, m, rfl⟩)))
              go_wp2
              go_quiet ((go_at_call 52; first | (refine (rotrQ2 _ _ ?hb _ _ _).mono ?_; (case hb => decide); rintro e1 w1 ⟨rfl, m, rfl⟩; exact ⟨rfl, m, rfl⟩) | (refine (rotrQ _ _ ?hb _ _ ⟨_, rfl⟩).mono ?_; (case hb => decide); rintro e1 w1 ⟨rfl, m, rfl⟩; exact ⟨rfl, m, rfl⟩)))
              go_wp2
              go_region
              go_wp2
              go_roundw
              case rel => exact ⟨j + 1, by omega, by omega, by go_num, H.out.1 _, H.out.2 _⟩
              case measure => simp [intOf]; omega
            · have hk2 : j = 64 := by omega
              have hjI : (j : Int) = 64 := by omega
              rw [hjI]
              rw [hk2] at g1
              have hL : moreW (firstW b 16) (64 - 16) = sched b := sched_eq b
              rw [hL] at g1
              have p0 := HQ.out.1.below gb hg1
              have pk := HQ.out.2.1.below gb hkr
              have ph := HQ.out.2.2.1.below gb hgh
              have pb := HQ.out.2.2.2.trans (gb.mono hg0)
              have HP2 := Lib.hid (And.intro p0 (And.intro pk (And.intro ph (And.intro pb g1))))
              obtain ⟨T, hT⟩ : ∃ T, mixK start8 L J = T := ⟨_, rfl⟩
              rw [hT] at ph
              have HT := Lib.hid hT
              have PH := Lib.hid ph
              obtain ⟨c0, c1, c2, c3, c4, c5, c6, c7⟩ := cells8 ph
              clear p0 pk ph pb g1 hT hL hlj hj hj16 gb hk2 hjI
              go_wp2
              apply wp_cut_one
              case h1 =>
                go_region_held3 (fun w' => w'.cell? ⟨gk + 1, 0, none⟩ = some (.int .u32 T.a.toNat) ∧ w'.cell? ⟨gk + 1, 1, none⟩ = some (.int .u32 T.b.toNat) ∧ w'.cell? ⟨gk + 1, 2, none⟩ = some (.int .u32 T.c.toNat) ∧ w'.cell? ⟨gk + 1, 3, none⟩ = some (.int .u32 T.d.toNat) ∧
      w'.cell? ⟨gk + 1, 4, none⟩ = some (.int .u32 T.e.toNat) ∧ w'.cell? ⟨gk + 1, 5, none⟩ = some (.int .u32 T.f.toNat) ∧ w'.cell? ⟨gk + 1, 6, none⟩ = some (.int .u32 T.g.toNat) ∧ w'.cell? ⟨gk + 1, 7, none⟩ = some (.int .u32 T.h.toNat))
      (first
        | (exact ⟨c0, c1, c2, c3, c4, c5, c6, c7⟩)
        | (exact cells8 ((PH.out.alloc _).drewN 1)))
      (first
        | (fail))
                exact ⟨rfl, rfl, rfl⟩
              obtain ⟨w4, hw4⟩ : ∃ w4, (wr.alloc (.cells #[.int .u32 T.a.toNat, .int .u32 T.b.toNat, .int .u32 T.c.toNat, .int .u32 T.d.toNat, .int .u32 T.e.toNat, .int .u32 T.f.toNat, .int .u32 T.g.toNat, .int .u32 T.h.toNat] 66)).drew = w4 := ⟨_, rfl⟩
              rw [hw4]
              have r4 : Row w4 wr.heap.size 66 (s8l T) := by rw [← hw4]; exact Row.drewN (Row.new wr _ _) 1
              have b4 : Below wr.heap.size wr w4 := by rw [← hw4]; exact below_drewN ((Below.refl _ _).alloc (Nat.le_refl _) _) 1
              have p0 := HP2.out.1.below b4 HP2.out.1.lt
              have pk := HP2.out.2.1.below b4 HP2.out.2.1.lt
              have ph := HP2.out.2.2.1.below b4 HP2.out.2.2.1.lt
              have pb := HP2.out.2.2.2.1.trans (b4.mono HP2.out.2.2.2.1.size)
              have pw := HP2.out.2.2.2.2.below b4 HP2.out.2.2.2.2.lt
              have l0 := HP2.out.1.lt
              have lk := HP2.out.2.1.lt
              have lh := HP2.out.2.2.1.lt
              have lw := HP2.out.2.2.2.2.lt
              rw [HT.out] at ph
              obtain ⟨gv, hgv⟩ : ∃ g, wr.heap.size = g := ⟨_, rfl⟩
              rw [hgv] at r4 l0 lk lh lw ⊢
              obtain ⟨sc, hsc⟩ : ∃ sc, sched b = sc := ⟨_, rfl⟩
              have hscl : sc.length = 64 := by rw [← hsc]; exact sched_length b
              rw [hsc] at pw
              have HSC := Lib.hid hsc
              have HQ4 := Lib.hid (And.intro p0 (And.intro pk (And.intro ph (And.intro pb pw))))
              have hgv4 := r4.lt
              clear p0 pk ph pb pw hsc hw4 HP2 PH c0 c1 c2 c3 c4 c5 c6 c7 hgv b4 HQ
              go_wp2
              refine loop13 gk gw gv T sc w4 _ HQ4.out.2.1 HQ4.out.2.2.2.2 r4 lk lw hscl hgv4 ?_
              intro u14 u15 u16 u17 u18 u19 u20 u147 u148 u149 u150 u151 u152 u153 u154 u155 u156 u157 u158 u159 u160 u161 u162 u163 u164 u165 u166 u167 u168 u169 u170 u171 u172 u173 u174 u175 u176 u177 u178 u179 u180 u181 u182 u183 u184 u185 u186 u187 u188 u189 u190 u191 u192 u193 u194 u195 u196 u197 u198 u199 u200 u201 u202 u203 u204 u205 u206 u207 u208 u209 u210 u211 u212 u213 u214 u215 u216 u217 u218 u219 u220 u221 u222 u223 u224 u225 u226 u227 u228 u229 u230 u231 u232 u233 u234 u235 u236 u237 u238 u239 u240 u241 u242 u243 u244 u245 u246 u247 u248 u249 u250 u251 u252 u253 u254 u255 u256 u257 u258 u259 u260 u261 u262 u263 g wy rv hgg bv4
              have p0 := HQ4.out.1.below bv4 l0
              have pk := HQ4.out.2.1.below bv4 lk
              have ph := HQ4.out.2.2.1.below bv4 lh
              have pb := HQ4.out.2.2.2.1.trans (bv4.mono (by omega))
              have hcomp := comp_split HT.out HBY.out.1 HSC.out
              obtain ⟨U, hU⟩ : ∃ U, rnds T sc 64 = U := ⟨_, rfl⟩
              rw [hU] at rv hcomp
              have HC := Lib.hid (fun (_ : Unit) => hcomp)
              have HG := Lib.hid hgg
              clear hU hcomp bv4 HQ4 hgg
              go_wp2
              go_loopw [20] (fun i wb => ∃ j : Nat, j ≤ 8 ∧ i = .int .i64 j ∧ Row wb (gk + 1) 66 (part8 T (add8 T U) j) ∧ Row wb g 66 (s8l U) ∧ Row wb w.heap.size 56 z32 ∧ Row wb gk 66 (wrow K64) ∧ Below w.heap.size w wb) (fun i _ => 8 - (intOf i).toNat)
              case atStart => exact ⟨0, Nat.zero_le _, rfl, ph, rv, p0, pk, pb⟩
              case round =>
                obtain ⟨j, hj, rfl, h1, h2, h3, h4, h5⟩ := hrel
                clear p0 pk ph pb rv
                by_cases hlj : j < 8
                · have hc1 : wr.cell? ⟨gk + 1, j, none⟩ = some (.int .u32 ((at8 T j).toNat : Int)) := by rw [h1.cell]; exact part8_get _ _ hlj
                  have hc2 : wr.cell? ⟨g, j, none⟩ = some (.int .u32 ((at8 U j).toNat : Int)) := by rw [h2.cell]; exact at8_get _ hlj
                  have hf1 := h1.frozen j
                  have had := at8_add T U hlj
                  have hs1 := fun n => (h1.drewN n).set j (.int .u32 ((at8 (add8 T U) j).toNat : Int))
                  rw [part8_set T (add8 T U) hlj] at hs1
                  have hs2 := fun n => (h2.drewN n).far (p := ⟨gk + 1, j, none⟩) (by have := HG.out; show g ≠ gk + 1; omega) (.int .u32 ((at8 (add8 T U) j).toNat : Int))
                  have hs3 := fun n => (h3.drewN n).far (p := ⟨gk + 1, j, none⟩) (by show w.heap.size ≠ gk + 1; omega) (.int .u32 ((at8 (add8 T U) j).toNat : Int))
                  have hs4 := fun n => (h4.drewN n).far (p := ⟨gk + 1, j, none⟩) (by show gk ≠ gk + 1; omega) (.int .u32 ((at8 (add8 T U) j).toNat : Int))
                  have hs5 := fun n => (below_drewN h5 n).setCell (p := ⟨gk + 1, j, none⟩) (by show w.heap.size ≤ gk + 1; omega) (.int .u32 ((at8 (add8 T U) j).toNat : Int))
                  rw [had] at hs1 hs2 hs3 hs4 hs5
                  have H := Lib.hid (And.intro hs1 (And.intro hs2 (And.intro hs3 (And.intro hs4 hs5))))
                  have hD := u32_add
                  obtain ⟨xa, hxa⟩ : ∃ x, at8 T j = x := ⟨_, rfl⟩
                  obtain ⟨xb, hxb⟩ : ∃ x, at8 U j = x := ⟨_, rfl⟩
                  rw [hxa, hxb] at H
                  rw [hxa] at hc1
                  rw [hxb] at hc2
                  have hjI : (j : Int) < 8 := by omega
                  clear hs1 hs2 hs3 hs4 hs5 h1 h2 h3 h4 h5 had hxa hxb
                  go_wp2
                  go_region
                  go_wp2
                  go_roundw
                  case rel => exact ⟨j + 1, by omega, by go_num, H.out.1 _, H.out.2.1 _, H.out.2.2.1 _, H.out.2.2.2.1 _, H.out.2.2.2.2 _⟩
                  case measure => simp [intOf]; omega
                · have hk2 : j = 8 := by omega
                  have hge : 8 ≤ j := by omega
                  have e8 : part8 T (add8 T U) j = s8l (add8 T U) := by rw [hk2]; exact part8_all _ _
                  rw [e8, HC.out ()] at h1
                  have H := Lib.hid (And.intro h1 (And.intro h3 (And.intro h4 h5)))
                  have HJ := Lib.hid HR.out.2.2.2.2.2
                  clear hk2 hlj hj h1 h2 h3 h4 h5 e8
                  go_wp2
                  go_roundw
                  case rel => exact ⟨J + 1, HJ.out, by congr 1 <;> omega, H.out.2.1, H.out.2.2.1, H.out.1, H.out.2.2.2⟩
                  case measure => simp [intOf]; omega
    · have hJn : J = n := by omega
      have hgeI : (n : Int) ≤ (J : Int) := by omega
      rw [hJn] at rh
      obtain ⟨S, hS⟩ : ∃ S, mixK start8 L n = S := ⟨_, rfl⟩
      rw [hS] at rh
      have hfin : shaL s.data.toList = bytes8 S := by
        unfold shaL
        rw [HP.out.2.1, HP.out.2.2.1, hS]
      have HF := Lib.hid hfin
      have hgh := rh.lt
      have q0 := r0.alloc (.cells z32.toArray 56)
      have qh := rh.alloc (.cells z32.toArray 56)
      have qb := rb.alloc rb.size (.cells z32.toArray 56)
      have q1 := Row.new wr 56 z32
      have hz := (zero_of_info s32_info).1
      have lg := q1.lt
      obtain ⟨gx, hgx⟩ : ∃ g, wr.heap.size = g := ⟨_, rfl⟩
      rw [hgx] at q1 hgh
      clear hfin hS r0 rk rh rb hJn hlt lg
      have hl0 : w.heap.size < gk := hsz1
      go_wp2
      generalize wr.alloc (.cells z32.toArray 56) = wz at q0 qh qb q1 ⊢
      try rw [hgx]
      clear hz hgx
      refine loop22 gk gx S w wz _ q1 qh q0 qb hl0 hgh ?_
      intro u22 u264 u265 u266 u267 u268 u269 u270 u271 u272 u273 u274 u275 u276 u277 u278 u279 u280 u281 u282 u283 u284 u285 u286 u287 u288 u289 u290 u291 u292 u293 u294 u295 u296 u297 wr h1 h3 h4
      clear q0 qh qb q1
      rw [brow_all] at h1
      have hl : ((bytes8 S).map bv).length = 32 := by rw [List.length_map, bytes8_len]
      have hone : ((bytes8 S).map bv).toArray.all (·.oneCell') = true := by
        rw [Array.all_eq_true_iff_forall_mem]
        intro v hv
        simp only [List.mem_toArray, List.mem_map] at hv
        obtain ⟨c, _, rfl⟩ := hv
        rfl
      obtain ⟨cs, hcs⟩ : ∃ cs, (bytes8 S).map bv = cs := ⟨_, rfl⟩
      rw [hcs] at h1 hl hone
      have HV := Lib.hid (And.intro hl (And.intro hone hcs))
      clear hl hone hcs
      go_wp2_with (first
        | (refine wpList_load_row rfl 56 (.tmp 21) rfl gx rfl 56 cs.toArray (0, 0) _ h1 Tryz.underlying56 rfl (by rw [s32_size, List.size_toArray, HV.out.1]) ?_)
        | (refine wpList_store_row rfl 56 (.tmp 2) _ rfl w.heap.size cs.toArray rfl rfl 56 z32.toArray h3 (by rw [s32_size, List.size_toArray, HV.out.1]) (by rw [List.size_toArray, List.size_toArray, HV.out.1]; rfl) HV.out.2.1 ?_))
      have hr := h3.put cs
      have hbs := below_setRow (B := w.heap.size) h4 (Nat.le_refl _) cs.toArray
      exact bodyPost_ret (v := .agg cs.toArray) (results_cell_row rfl _ _ w.heap.size 56 cs.toArray (0, 0) _ rfl hr Tryz.underlying56 rfl (by rw [s32_size, List.size_toArray, HV.out.1])) rfl ⟨by unfold sumV; rw [HF.out, HV.out.2.2], hbs⟩
end Go.Proofs.YtlmbijhkpgolaaaGreatDoor
