/- The state behind all blocks that an iterator gives. -/
import Derived.RangeFuncNested
import Derived.RangeFuncBound
import Derived.RangeFuncCalls
import Derived.RangeFuncLeaves
import Derived.RangeFuncBox
import Derived.Maps.AppendAt
import Derived.Shelf.Abstract
import Derived.Shelf.RegionOpen
import Derived.WalkKit
import Derived.OwnWalkIn
import Derived.TacticsInMore
import Derived.LoopNIn
import Derived.LoopIn
import Derived.Lib.Hide
import Derived.Lib.OthersKept
import Derived.Deep.QuietTactic
import Derived.BigQuiet
import Derived.Test.YtheidjnapoipaaaGreatDoorTail
import Derived.Test.YtheidjnapoipaaaGreatDoorLoopL
import Derived.Test.YtheidjnapoipaaaGreatDoorSRnd
import Derived.Test.YtheidjnapoipaaaGreatDoorSSch
import Derived.Test.YtheidjnapoipaaaGreatDoorSKeys
namespace Go.Proofs.YtheidjnapoipaaaGreatDoor
open Go.RowKit Go.Shelf
set_option linter.unusedVariables false
attribute [local go_sem] Oper.semAt_some

/-- A block. -/
abbrev Blk := { b : ByteArray // b.size = 64 }
/-- The state behind some blocks. -/
def mixS (s : S8) (ys : List Blk) : S8 := ys.foldl (fun s b => comp s b.1.data.toList) s
theorem mixS_snoc (s : S8) (ys : List Blk) (b : Blk) : mixS s (ys ++ [b]) = comp (mixS s ys) b.1.data.toList := by simp [mixS]

/-- A state's word, by its place. -/
def at8 (s : S8) : Nat → UInt32
  | 0 => s.a | 1 => s.b | 2 => s.c | 3 => s.d | 4 => s.e | 5 => s.f | 6 => s.g | _ => s.h
theorem at8_get (s : S8) {j : Nat} (h : j < 8) : (s8l s)[j]? = some (.int .u32 ((at8 s j).toNat : Int)) := by
  match j, h with
  | 0, _ => rfl | 1, _ => rfl | 2, _ => rfl | 3, _ => rfl | 4, _ => rfl | 5, _ => rfl | 6, _ => rfl | 7, _ => rfl
theorem at8_add (s t : S8) {j : Nat} (h : j < 8) : at8 (add8 s t) j = uadd (at8 s j) (at8 t j) := by
  match j, h with
  | 0, _ => rfl | 1, _ => rfl | 2, _ => rfl | 3, _ => rfl | 4, _ => rfl | 5, _ => rfl | 6, _ => rfl | 7, _ => rfl
/-- The first j words are t's, the others s's. -/
def part8 (s t : S8) (j : Nat) : List Value := (s8l t).take j ++ (s8l s).drop j
theorem part8_get (s t : S8) {j : Nat} (h : j < 8) : (part8 s t j)[j]? = some (.int .u32 ((at8 s j).toNat : Int)) := by
  match j, h with
  | 0, _ => rfl | 1, _ => rfl | 2, _ => rfl | 3, _ => rfl | 4, _ => rfl | 5, _ => rfl | 6, _ => rfl | 7, _ => rfl
theorem part8_set (s t : S8) {j : Nat} (h : j < 8) : (part8 s t j).set j (.int .u32 ((at8 t j).toNat : Int)) = part8 s t (j + 1) := by
  match j, h with
  | 0, _ => rfl | 1, _ => rfl | 2, _ => rfl | 3, _ => rfl | 4, _ => rfl | 5, _ => rfl | 6, _ => rfl | 7, _ => rfl

theorem own_row {β : Type} (g : Nat) (t : TypeId) (f : β → List Value) : Own (fun (s : β) W => Row W g t (f s)) := fun s X Y row h hg hrow => by
  refine (hg.block g h.lt (fun e => ?_)).trans h
  obtain ⟨o, ho, hc⟩ := hrow g e.symm
  rw [show X.heap[g]? = _ from h] at ho
  cases ho
  cases hc

theorem keeps_below {W W' : World} (h : Below W.heap.size W W') : KeepsOthers W W' :=
  ⟨h.size, fun k o hk _ => (h.block k (Array.getElem?_eq_some_iff.1 hk).1).trans hk⟩

/-- All blocks but one lie as they lay. -/
def K2 (b : Nat) (W W' : World) : Prop := W.heap.size ≤ W'.heap.size ∧ ∀ k, k < W.heap.size → k ≠ b → W'.heap[k]? = W.heap[k]?
theorem k2_drewN (W : World) (n : Nat) : (W.drewN n).heap = W.heap := rfl
theorem K2.set {b : Nat} {W A B : World} (h : K2 b W A) (e : B.heap = A.heap) (i : Nat) (v : Value) : K2 b W (B.setCell ⟨b, i, none⟩ v) :=
  ⟨by rw [World.size_setCell, e]; exact h.1, fun k hk hb => (Below.heap_setCell B ⟨b, i, none⟩ v k hb).trans ((congrArg (fun x : Array Obj => x[k]?) e).trans (h.2 k hk hb))⟩
theorem keeps_drewN (W : World) (n : Nat) : KeepsOthers W (W.drewN n) := ⟨Nat.le_refl _, fun _ _ h _ => h⟩
theorem other8 {W : World} {g D : Nat} (h : D ≠ g) (v0 v1 v2 v3 v4 v5 v6 v7 : Value) :
    ((((((((W.setCell ⟨g, 0, none⟩ v0).setCell ⟨g, 1, none⟩ v1).setCell ⟨g, 2, none⟩ v2).setCell ⟨g, 3, none⟩ v3).setCell ⟨g, 4, none⟩ v4).setCell ⟨g, 5, none⟩ v5).setCell ⟨g, 6, none⟩ v6).setCell ⟨g, 7, none⟩ v7).heap[D]? = W.heap[D]? := by
  rw [Below.heap_setCell _ _ _ _ h, Below.heap_setCell _ _ _ _ h, Below.heap_setCell _ _ _ _ h, Below.heap_setCell _ _ _ _ h, Below.heap_setCell _ _ _ _ h, Below.heap_setCell _ _ _ _ h, Below.heap_setCell _ _ _ _ h, Below.heap_setCell _ _ _ _ h]
theorem below_putObj {B : Nat} (W : World) {l : Nat} (o' : Obj) (hl : B ≤ l) : Below B W (W.putObj l o') :=
  ⟨rfl, rfl, rfl, by simp, fun j hj => World.putObj_heap_other (by omega)⟩

set_option maxRecDepth 100000 in
set_option maxHeartbeats 4000000 in
theorem mixed_any (s : S8) (gf : Nat) (lb : Array Value) (Bn : Nat) (S Sp : List Blk → Prop) (N : Nat) (w : World) (hBn : Bn < w.heap.size)
    (eg : ∀ args w, (callFunc gf args).run Tryz.prog w = .ok (.enter gf args) w)
    (hseq : ∀ W, Below w.heap.size w W → Stops Fence.wide 5 Tryz.prog gf lb (fun x : Blk => #[.string x.1]) (KeepsAt Bn (W.heap.size + 2)) S Sp N W) :
    Calls Tryz.prog 150 #[s8v s, .func (.func gf) #[] lb] w fun e w' => (∃ ys, S ys ∧ e = .returned (s8v (mixS s ys))) ∧ Below w.heap.size w w' := by
  have hz8 := (zero_of_info s8_info).1
  have hz64 := (zero_of_info w64_info).1
  obtain ⟨cs, HCS⟩ : ∃ cs, Hid ((s8l s).toArray = cs) := ⟨_, Lib.hid rfl⟩
  have hb1 : Row ((w.alloc (.cells cs 169)).alloc (.cells #[.int .u32 0, .int .u32 0, .int .u32 0, .int .u32 0, .int .u32 0, .int .u32 0, .int .u32 0, .int .u32 0] 169)) w.heap.size 169 (s8l s) := by
    rw [← HCS.out]; exact (Row.new w _ _).alloc _
  have hb2 : Row ((w.alloc (.cells cs 169)).alloc (.cells #[.int .u32 0, .int .u32 0, .int .u32 0, .int .u32 0, .int .u32 0, .int .u32 0, .int .u32 0, .int .u32 0] 169)) (w.heap.size + 1) 169 (List.replicate 8 (.int .u32 0)) := by
    have := Row.new (w.alloc (.cells cs 169)) 169 (List.replicate 8 (.int .u32 0))
    rw [World.size_alloc] at this
    exact this
  have hbe : Below w.heap.size w ((w.alloc (.cells cs 169)).alloc (.cells #[.int .u32 0, .int .u32 0, .int .u32 0, .int .u32 0, .int .u32 0, .int .u32 0, .int .u32 0, .int .u32 0] 169)) := ((Below.refl _ _).alloc (Nat.le_refl _) _).alloc (by simp) _
  have hsz : ((w.alloc (.cells cs 169)).alloc (.cells #[.int .u32 0, .int .u32 0, .int .u32 0, .int .u32 0, .int .u32 0, .int .u32 0, .int .u32 0, .int .u32 0] 169)).heap.size = w.heap.size + 2 := by simp
  have HB := Lib.hid (And.intro hb1 (And.intro hb2 (And.intro hbe hsz)))
  clear hb1 hb2 hbe hsz
  have e0 : s8v s = .agg cs := by rw [← HCS.out]; rfl
  rw [e0]
  clear e0
  refine (callsIn_wide (n := 6)).1 ?_
  refine callsIn_of_wp_marks Tryz.func150 rfl trivial ?_ rfl
  simp only [Tryz.ntmps150, List.size_toArray, List.length_cons, List.length_nil, Nat.reduceAdd, Nat.reduceSub, Array.replicate_succ, Array.replicate_zero, List.push_toArray, List.append_toArray, List.nil_append, List.cons_append]
  rw [wpIn_wide]
  go_wp2_with fail
  refine (Keys_any _).mono ?_
  rintro e wk ⟨rfl, hbk⟩
  have hb1 := HB.out.1.below hbk (by rw [HB.out.2.2.2]; omega)
  have hb2 := HB.out.2.1.below hbk (by rw [HB.out.2.2.2]; omega)
  have hbe := HB.out.2.2.1.trans (hbk.mono (by rw [HB.out.2.2.2]; omega))
  have hsk : w.heap.size + 2 ≤ wk.heap.size := by rw [← HB.out.2.2.2]; exact hbk.size
  have HK := Lib.hid (And.intro hb1 (And.intro hb2 (And.intro hbe hsk)))
  clear hb1 hb2 hbe hsk hbk HB
  obtain ⟨ks, HKS⟩ : ∃ ks, Hid (wrow K64 = ks) := ⟨_, Lib.hid rfl⟩
  have hkl : ks.length = 64 := by rw [← HKS.out]; exact wrow_length (by decide)
  have hk1 : ks.toArray.all (·.oneCell') = true := by rw [← HKS.out]; exact wrow_one _
  have hkd : ∀ i, i < 64 → ks[i]? = some (.int .u32 ((K64.getD i 0).toNat : Int)) := fun i hi => by rw [← HKS.out]; exact wrow_get hi
  have e1 : w64v K64 = .agg ks.toArray := by rw [← HKS.out]; rfl
  rw [e1]
  clear e1
  have HKL := Lib.hid (And.intro hkl (And.intro hk1 hkd))
  clear hkl hk1 hkd HKS
  have hb1 := (HK.out.1.alloc (.cells z64.toArray 178)).put_far (g' := wk.heap.size) (by have := HK.out.2.2.2; omega) ks.toArray
  have hb2 := (HK.out.2.1.alloc (.cells z64.toArray 178)).put_far (g' := wk.heap.size) (by have := HK.out.2.2.2; omega) ks.toArray
  have hb3 := (Row.new wk 178 z64).put ks
  have hbe := below_setRow (B := w.heap.size) (g := wk.heap.size) (HK.out.2.2.1.alloc (by have := HK.out.2.2.2; omega) (.cells z64.toArray 178)) (by have := HK.out.2.2.2; omega) ks.toArray
  have hsl : ((wk.alloc (.cells z64.toArray 178)).setRow wk.heap.size ks.toArray).heap.size = wk.heap.size + 1 := by simp [World.setRow]
  have hsk := HK.out.2.2.2

  go_wp2_with ((refine wpList_store_row rfl 178 (.tmp 5) (.tmp 11) rfl wk.heap.size ks.toArray rfl rfl 178 z64.toArray (Row.new wk 178 z64) (by rw [w64_size, List.size_toArray, HKL.out.1]) (by rw [List.size_toArray, List.size_toArray, HKL.out.1]; rfl) HKL.out.2.1 ?_))
  generalize (wk.alloc (.cells z64.toArray 178)).setRow wk.heap.size ks.toArray = wl at hb1 hb2 hb3 hbe hsl ⊢
  have hseq2 := hseq wl hbe
  have HL := Lib.hid (And.intro hb1 (And.intro hb2 (And.intro hb3 (And.intro hbe (And.intro hsl hsk)))))
  clear hb1 hb2 hb3 hbe hsl hsk
  rw [← wpIn_wide (n := 6)]
  refine' range_stops rfl (by omega) (gf := gf) (lb := lb) rfl trivial eg hseq2 keepsAt_t (keepsAt_b (by have := HL.out.2.2.2.2; omega) (by omega)) (Below.refl _ _) (fun _ => rfl)
    (fun pre W => (Row W w.heap.size 169 (s8l (mixS s pre)) ∧ Row W (w.heap.size + 1) 169 (List.replicate 8 (.int .u32 0)) ∧ Row W wk.heap.size 178 ks) ∧ Below w.heap.size w W)
    (fun _ _ _ => False)
    (OwnFrom.and (OwnFrom.and (Own.from (own_row _ _ _) _) (OwnFrom.and (Own.from (own_row _ _ (fun _ => List.replicate 8 (.int .u32 0))) _) (Own.from (own_row _ _ (fun _ => ks)) _))) (ownFrom_below (Nat.le_refl _) (by have := HL.out.2.2.2.2; omega)))
    (fun _ _ _ _ _ hs _ _ => hs)
    ⟨⟨HL.out.1, HL.out.2.1, HL.out.2.2.1⟩, HL.out.2.2.2.1⟩
    _ _ _ _ _
  case refine'_2 =>
    intro l x W K hK
    gi_wp2
    exact hK
  case refine'_5 =>
    rintro D c pre W _ _ h _
    exact h.elim
  case refine'_3 =>
    rintro l' pre x W ⟨⟨hr1, hr2, hr3⟩, hB⟩ hlt
    have hstep : s8l (mixS s (pre ++ [x])) = s8l (add8 (mixS s pre) (rnds (mixS s pre) (sched x.1.data.toList) 64)) := by rw [mixS_snoc]; rfl
    obtain ⟨T, hT⟩ : ∃ T, mixS s pre = T := ⟨_, rfl⟩
    rw [hT] at hr1 hstep
    have HS := Lib.hid hstep
    obtain ⟨c0, c1, c2, c3, c4, c5, c6, c7⟩ := cells8 hr1
    have HR := Lib.hid (And.intro hr1 (And.intro hr2 (And.intro hr3 hB)))
    clear hT hr1 hr2 hr3 hB hstep
    have hWk : wk.heap.size < W.heap.size := HR.out.2.2.1.lt
    have ht0 : Row (W.alloc (.cells #[.int .u32 T.a.toNat, .int .u32 T.b.toNat, .int .u32 T.c.toNat, .int .u32 T.d.toNat, .int .u32 T.e.toNat, .int .u32 T.f.toNat, .int .u32 T.g.toNat, .int .u32 T.h.toNat] 169)) W.heap.size 169 (s8l T) := Row.new W _ _
    have hbW := (Below.refl W.heap.size W).alloc (Nat.le_refl _) (.cells #[.int .u32 T.a.toNat, .int .u32 T.b.toNat, .int .u32 T.c.toNat, .int .u32 T.d.toNat, .int .u32 T.e.toNat, .int .u32 T.f.toNat, .int .u32 T.g.toNat, .int .u32 T.h.toNat] 169)
    have HT := Lib.hid (And.intro ht0 hbW)
    clear ht0 hbW
    gi_wp2_with fail
    refine ⟨trivial, (callsIn_wide.2 (schedule_any x.1 _ x.2)).mono ?_⟩
    rintro e ws ⟨rfl, hbs⟩
    rw [World.size_alloc] at hbs
    have ht1 := HT.out.1.below hbs (by omega)
    have hbW := HT.out.2.trans (hbs.mono (by omega))
    clear HT hbs c0 c1 c2 c3 c4 c5 c6 c7
    obtain ⟨sc, hsc⟩ : ∃ sc, sched x.1.data.toList = sc := ⟨_, rfl⟩
    have hsl : sc.length = 64 := by rw [← hsc]; exact sched_length _
    rw [hsc] at HS ⊢
    obtain ⟨A, hA⟩ : ∃ A, wrow sc = A := ⟨_, rfl⟩
    have hAd : ∀ i, i < 64 → A.toArray[i]? = some (.int .u32 ((sc.getD i 0).toNat : Int)) := fun i hi => by rw [← hA, List.getElem?_toArray]; exact wrow_get (by omega)
    have e2 : w64v sc = .agg A.toArray := by rw [← hA]; rfl
    rw [e2]
    clear e2 hsc hA
    gi_wp2_with fail
    gi_loopw [17] (fun i wr => ∃ k : Nat, k ≤ 64 ∧ i = .int .i64 k ∧ Row wr W.heap.size 169 (s8l (rnds T sc k)) ∧ Below W.heap.size W wr) (fun i _ => 64 - (intOf i).toNat)
    case atStart => exact ⟨0, Nat.zero_le _, rfl, ht1, hbW⟩
    case round =>
      obtain ⟨k, hk, rfl, ht, hb⟩ := hrel
      clear ht1 hbW
      by_cases hlt : k < 64
      · obtain ⟨U, hU⟩ : ∃ U, rnds T sc k = U := ⟨_, rfl⟩
        have hnx : rnds T sc (k + 1) = rnd U (uadd (K64.getD k 0) (sc.getD k 0)) := by rw [← hU]; rfl
        rw [hU] at ht
        obtain ⟨q, hq⟩ : ∃ q, K64.getD k 0 = q := ⟨_, rfl⟩
        obtain ⟨y, hy⟩ : ∃ y, sc.getD k 0 = y := ⟨_, rfl⟩
        have hix := fun W' => run_index_agg (P := Tryz.prog) 178 136 64 A.toArray k _ Tryz.underlying178 hlt (hAd k hlt) W' (Tryz.sizeOf136 W') (Tryz.isAgg136 W')
        have hck : wr.cell? ⟨wk.heap.size, k, none⟩ = some (.int .u32 (q.toNat : Int)) := by
          rw [← hq, (HR.out.2.2.1.below hb hWk).cell]; exact HKL.out.2.2 k hlt
        rw [hq, hy] at hnx
        rw [hy] at hix
        obtain ⟨c0, c1, c2, c3, c4, c5, c6, c7⟩ := cells8 ht
        have hf0 := ht.frozen 0
        have hf1 := ht.frozen 1
        have hf2 := ht.frozen 2
        have hf3 := ht.frozen 3
        have hf4 := ht.frozen 4
        have hf5 := ht.frozen 5
        have hf6 := ht.frozen 6
        have hf7 := ht.frozen 7
        have hD := u32_add
        have HT := Lib.hid (And.intro ht (And.intro hb hnx))
        clear hU hq hy ht hb hnx hAd
        have hl : ∀ W', Below wr.heap.size wr W' → W'.cell? ⟨wk.heap.size, k, none⟩ = some (.int .u32 (q.toNat : Int)) := fun W' h => cell_later h hck
        have hT : ∀ W', Below wr.heap.size wr W' → Row W' W.heap.size 169 (s8l U) := fun W' h => HT.out.1.below h HT.out.1.lt
        clear hck c0 c1 c2 c3 c4 c5 c6 c7 hf0 hf1 hf2 hf3 hf4 hf5 hf6 hf7
        gi_wp2_with fail
        refine round_tail 7 (Below wr.heap.size wr) (by kernel_rfl) (by kernel_rfl) rfl (below_drewN (Below.refl _ _) 1) ?_
        simp only [List.take_succ_cons, List.take_zero]
        repeat (go_big_quiet_step ((first
          | (intro hC; with_reducible rfl)
          | (intro hC; rw [hl _ hC]; exact ⟨rfl, rfl⟩)
          | (intro hC; obtain ⟨c0, c1, c2, c3, c4, c5, c6, c7⟩ := cells8 (hT _ hC); simp only [c0, c1, c2, c3, c4, c5, c6, c7, Result.andThen_ok]; exact ⟨trivial, rfl⟩)
          | (intro hC; go_at_call 157; refine (round_any U _ _).mono ?_; rintro e w'' ⟨rfl, hb⟩; exact ⟨rfl, hC.trans (hb.mono hC.size)⟩))))
        refine wpQuiet_nil ?_
        intro w7 hw7
        have hT7 := hT _ hw7
        obtain ⟨d0, d1, d2, d3, d4, d5, d6, d7⟩ := cells8 hT7
        have hg0 := hT7.frozen 0
        have hg1 := hT7.frozen 1
        have hg2 := hT7.frozen 2
        have hg3 := hT7.frozen 3
        have hg4 := hT7.frozen 4
        have hg5 := hT7.frozen 5
        have hg6 := hT7.frozen 6
        have hg7 := hT7.frozen 7
        have HV := Lib.hid (And.intro hT7 hw7)
        clear hT hl hT7 hw7
        rw [s8v_eq]
        gi_wp2
        go_roundw
        case rel => exact ⟨k + 1, by omega, by go_num, by rw [HT.out.2.2]; exact row8 HV.out.1 _ _ _ _ _ _ _ _, below8 (HT.out.2.1.trans (HV.out.2.mono HT.out.2.1.size)) (Nat.le_refl _) _ _ _ _ _ _ _ _⟩
        case measure => simp [intOf]; omega
      · have hk2 : k = 64 := by omega
        rw [hk2] at ht
        have hge : 64 ≤ k := by omega
        have g1 := HR.out.1.below hb HR.out.1.lt
        have g2 := HR.out.2.1.below hb HR.out.2.1.lt
        have g3 := HR.out.2.2.1.below hb HR.out.2.2.1.lt
        have g4 : Below w.heap.size W wr := hb.mono HR.out.2.2.2.size
        have g5 : K2 w.heap.size W wr := ⟨hb.size, fun k hk _ => hb.block k hk⟩
        obtain ⟨U, hU⟩ : ∃ U, rnds T sc 64 = U := ⟨_, rfl⟩
        rw [hU] at ht HS
        clear hk2 hlt hk hb hU hAd
        gi_wp2
        gi_loopw [29] (fun i wr => ∃ j : Nat, j ≤ 8 ∧ i = .int .i64 j ∧ Row wr w.heap.size 169 (part8 T (add8 T U) j) ∧ Row wr W.heap.size 169 (s8l U) ∧ Row wr (w.heap.size + 1) 169 (List.replicate 8 (.int .u32 0)) ∧ Row wr wk.heap.size 178 ks ∧ Below w.heap.size W wr ∧ K2 w.heap.size W wr) (fun i _ => 8 - (intOf i).toNat)
        case atStart => exact ⟨0, Nat.zero_le _, rfl, g1, ht, g2, g3, g4, g5⟩
        case round =>
          obtain ⟨j, hj, rfl, h1, h2, h3, h4, h5, h6⟩ := hrel
          clear g1 g2 g3 g4 g5 ht
          by_cases hlt : j < 8
          · have hc1 : wr.cell? ⟨w.heap.size, j, none⟩ = some (.int .u32 ((at8 T j).toNat : Int)) := by rw [h1.cell]; exact part8_get _ _ hlt
            have hc2 : wr.cell? ⟨W.heap.size, j, none⟩ = some (.int .u32 ((at8 U j).toNat : Int)) := by rw [h2.cell]; exact at8_get _ hlt
            have hf1 := h1.frozen j
            have had := at8_add T U hlt
            have hs1 := fun n => (h1.drewN n).set j (.int .u32 ((at8 (add8 T U) j).toNat : Int))
            rw [part8_set T (add8 T U) hlt] at hs1
            have hs2 := fun n => (h2.drewN n).far (p := ⟨w.heap.size, j, none⟩) (by have := HR.out.1.lt; show W.heap.size ≠ w.heap.size; omega) (.int .u32 ((at8 (add8 T U) j).toNat : Int))
            have hs3 := fun n => (h3.drewN n).far (p := ⟨w.heap.size, j, none⟩) (by show w.heap.size + 1 ≠ w.heap.size; omega) (.int .u32 ((at8 (add8 T U) j).toNat : Int))
            have hs4 := fun n => (h4.drewN n).far (p := ⟨w.heap.size, j, none⟩) (by have := HK.out.2.2.2; show wk.heap.size ≠ w.heap.size; omega) (.int .u32 ((at8 (add8 T U) j).toNat : Int))
            have hs5 := fun n => (below_drewN h5 n).setCell (p := ⟨w.heap.size, j, none⟩) (Nat.le_refl _) (.int .u32 ((at8 (add8 T U) j).toNat : Int))
            have hs6 := fun n => h6.set (k2_drewN wr n) j (.int .u32 ((at8 (add8 T U) j).toNat : Int))
            rw [had] at hs1 hs2 hs3 hs4 hs5 hs6
            have H := Lib.hid (And.intro hs1 (And.intro hs2 (And.intro hs3 (And.intro hs4 (And.intro hs5 hs6)))))
            have hD := u32_add
            obtain ⟨xa, hxa⟩ : ∃ x, at8 T j = x := ⟨_, rfl⟩
            obtain ⟨xb, hxb⟩ : ∃ x, at8 U j = x := ⟨_, rfl⟩
            rw [hxa, hxb] at H
            rw [hxa] at hc1
            rw [hxb] at hc2
            clear hs1 hs2 hs3 hs4 hs5 hs6 h1 h2 h3 h4 h5 h6 had hxa hxb
            gi_wp2
            refine round_tail 8 (fun W' => ∃ n, W' = wr.drewN n) (by kernel_rfl) (by kernel_rfl) rfl ⟨1, rfl⟩ ?_
            simp only [List.take_succ_cons, List.take_zero]
            repeat (go_big_quiet_step (fail))
            refine wpQuiet_nil ?_
            rintro w7 ⟨nq, rfl⟩
            gi_wp2
            go_roundw
            case rel => exact ⟨j + 1, by omega, by go_num, H.out.1 nq, H.out.2.1 nq, H.out.2.2.1 nq, H.out.2.2.2.1 nq, H.out.2.2.2.2.1 nq, H.out.2.2.2.2.2 nq⟩
            case measure => simp [intOf]; omega
          · have hk2 : j = 8 := by omega
            have hge : 8 ≤ j := by omega
            have e8 : part8 T (add8 T U) j = s8l (add8 T U) := by rw [hk2]; rfl
            rw [e8, ← HS.out] at h1
            have H := Lib.hid (And.intro h1 (And.intro h3 (And.intro h4 (And.intro h5 h6))))
            clear hk2 hlt hj h1 h2 h3 h4 h5 h6 e8
            gi_wp2
            obtain ⟨h1, h3, h4, h5, h6⟩ := H.out
            exact ⟨⟨h6.1, fun k o hk ho _ => (h6.2 k (Array.getElem?_eq_some_iff.1 ho).1 (by have := HL.out.2.2.2.2; omega)).trans ho⟩, ⟨h6.1, fun k hk hl => h6.2 k hl (by rcases hk with rfl | hk <;> (have := HL.out.2.2.2.2; omega))⟩, ⟨h1, h3, h4⟩, HR.out.2.2.2.trans h5⟩
  case refine'_4 =>
    rintro D ys W hD hys ⟨⟨hr1, hr2, hr3⟩, hB⟩ hK
    obtain ⟨T, hT⟩ : ∃ T, mixS s ys = T := ⟨_, rfl⟩
    rw [hT] at hr1
    obtain ⟨c0, c1, c2, c3, c4, c5, c6, c7⟩ := cells8 hr1
    have d0 := hr2.cell 0
    have d1 := hr2.cell 1
    have d2 := hr2.cell 2
    have d3 := hr2.cell 3
    have d4 := hr2.cell 4
    have d5 := hr2.cell 5
    have d6 := hr2.cell 6
    have d7 := hr2.cell 7
    have hf0 := hr2.frozen 0
    have hf1 := hr2.frozen 1
    have hf2 := hr2.frozen 2
    have hf3 := hr2.frozen 3
    have hf4 := hr2.frozen 4
    have hf5 := hr2.frozen 5
    have hf6 := hr2.frozen 6
    have hf7 := hr2.frozen 7
    have HW := Lib.hid (And.intro hr2 (And.intro hB (And.intro hK hT)))
    clear hr1 hr2 hr3 hB hK hT
    go_wp2_with fail
    obtain ⟨hr2, hB, hK, hT⟩ := HW.out
    have hDs : wk.heap.size + 1 ≤ D := by rw [← HL.out.2.2.2.2.1]; exact hD
    have hDw := HL.out.2.2.2.2.2
    refine ⟨by simp, .inl ⟨_, _, rfl, run_takeDeferred ((other8 (by omega) _ _ _ _ _ _ _ _).trans hK), ?_⟩⟩
    refine ⟨s8v T, results_cell_row rfl _ _ (w.heap.size + 1) 169 (s8l T).toArray (0, 0) _ rfl ?hrow Tryz.underlying169 rfl (by rw [s8_size]; rfl), ⟨ys, hys, by rw [hT]⟩, ?hbel⟩
    case hrow =>
      rw [World.putObj_heap_other (by omega)]
      exact row8 hr2 _ _ _ _ _ _ _ _
    case hbel => exact (below8 hB (by omega) _ _ _ _ _ _ _ _).trans (below_putObj _ _ (by omega))
end Go.Proofs.YtheidjnapoipaaaGreatDoor
