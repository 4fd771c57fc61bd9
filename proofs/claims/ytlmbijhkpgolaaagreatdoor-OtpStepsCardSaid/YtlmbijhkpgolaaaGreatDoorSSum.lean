/- The sum of the parts. -/
import Derived.Test.YtlmbijhkpgolaaaGreatDoorSBlocks
import Derived.Test.YtlmbijhkpgolaaaGreatDoorSAdd
import Derived.Test.YtlmbijhkpgolaaaGreatDoorTail
import Derived.Test.YtlmbijhkpgolaaaGreatDoorShelf
import Derived.Deep.MidRow
import Derived.Deep.RegionHeld3
namespace Go.Proofs.YtlmbijhkpgolaaaGreatDoor
open Go.RowKit
set_option linter.unusedVariables false

theorem row_setCells {b : Nat} {t : TypeId} : ∀ (vs pre mid : List Value) (W : World), mid.length = vs.length → Row W b t (pre ++ mid) → Row (W.setCells b pre.length vs) b t (pre ++ vs)
  | [], pre, mid, W, hl, h => by
    have : mid = [] := List.length_eq_zero_iff.1 (by simpa using hl)
    subst this
    exact h
  | v :: vs, pre, [], W, hl, h => by simp at hl
  | v :: vs, pre, m :: mid, W, hl, h => by
    have h1 := h.set pre.length v
    rw [List.set_append_right _ _ (Nat.le_refl _), Nat.sub_self, List.set_cons_zero] at h1
    have h2 := row_setCells vs (pre ++ [v]) mid _ (by simpa using hl) (by rw [List.append_assoc]; exact h1)
    rw [List.append_assoc, List.length_append] at h2
    exact h2
theorem below_setCells {B : Nat} {w : World} {b : Nat} (hb : B ≤ b) : ∀ (vs : List Value) (o : Nat) (W : World), Below B w W → Below B w (W.setCells b o vs)
  | [], o, W, h => h
  | v :: vs, o, W, h => below_setCells hb vs (o + 1) _ (h.setCell (p := ⟨b, o, none⟩) hb v)
theorem row_there {W : World} {b : Nat} {t : TypeId} {z : List Value} (h : Row W b t z) : W.there b 0 z.length := fun j hj => by
  rw [Nat.zero_add]
  exact ⟨by rw [h.cell j, List.getElem?_eq_getElem hj]; rfl, h.frozen j⟩

theorem there_below {W W' : World} {b n : Nat} (h : W.there b 0 n) (hb : Below W.heap.size W W') (hl : b < W.heap.size) : W'.there b 0 n := fun j hj => by
  have := hb.block b hl
  have h1 := h j hj
  simp only [World.cell?, World.frozen?, this] at h1 ⊢
  exact h1

set_option maxRecDepth 4000 in
set_option maxHeartbeats 2000000 in
theorem Sum_any' (S0 : S8) (bk : Option Addr) (l c : Nat) (s : ByteArray) (hs : s.size ≤ 140737488355000) (w : World) (hG : Starts S0 w)
    (hJ : ∀ W, Below w.heap.size w W → Calls Tryz.prog 43 #[.slice bk l c, .string ⟨#[]⟩] W fun e w' => e = .returned (.string s) ∧ Below W.heap.size W w') :
    Calls Tryz.prog 28 #[.slice bk l c] w fun e w' => e = .returned (sumV (bytes8 (mixK S0 (padL s.data.toList) ((padL s.data.toList).length / 64)))) ∧ Below w.heap.size w w' := by
  have hz := (zero_of_info s32_info).1
  obtain ⟨w1, hw1⟩ : ∃ w1, w.alloc (.cells z32.toArray 56) = w1 := ⟨_, rfl⟩
  have hr1 : Row w1 w.heap.size 56 z32 := by rw [← hw1]; exact Row.new w _ _
  have hb1 : Below w.heap.size w w1 := by rw [← hw1]; exact (Below.refl _ _).alloc (Nat.le_refl _) _
  have hG1 : Starts S0 w1 := hG.below hb1
  obtain ⟨S, hS⟩ : ∃ S, mixK S0 (padL s.data.toList) ((padL s.data.toList).length / 64) = S := ⟨_, rfl⟩
  have HMIX : Hid (∀ (W : World) (Bn : Nat), Row W Bn 9 [.string s] → Calls Tryz.prog 41 #[s8v S0, .func (.func 59) #[] #[.pointer (some ⟨Bn, 0, none⟩)]] W fun e w' => e = .returned (s8v S) ∧ Below W.heap.size W w') := Lib.hid fun W Bn h => by
    rw [← hS]; exact mixed_blocks S0 s (by omega) W Bn h
  have HWR : Hid (∀ W : World, Calls Tryz.prog 40 #[s8v S] W fun e w' => e = .returned (sumV (bytes8 S)) ∧ Below W.heap.size W w') := Lib.hid fun W => written_any S W
  rw [hS]
  obtain ⟨cs, hcs⟩ : ∃ cs, (bytes8 S).map bv = cs := ⟨_, rfl⟩
  have hcl : cs.length = 32 := by rw [← hcs, ← sumRow_all, sumRow_length S (Nat.le_refl _)]
  have hc1 : ∀ v ∈ cs, v.oneCell' = true := by
    rw [← hcs]
    intro v hv
    simp only [List.mem_map] at hv
    obtain ⟨c, _, rfl⟩ := hv
    rfl
  have hsz : (Tryz.prog.info? 56).map (·.size) = some cs.length := by rw [s32_size, hcl]
  have ecs : sumV (bytes8 S) = .agg cs.toArray := by rw [← hcs]; rfl
  rw [ecs] at HWR ⊢
  have ht1 : w1.there w.heap.size 0 32 := row_there hr1
  obtain ⟨d0, d1, d2, d3, d4, d5, d6, d7⟩ := Starts.cells hG1
  have HW := Lib.hid (And.intro hw1 (And.intro hr1 (And.intro hb1 hG1)))
  have HJ := Lib.hid hJ
  have HS := Lib.hid hs
  have hw0 : 0 < w.heap.size := hG.lt
  have HK : Hid (∀ W, (Below w.heap.size w W ∧ W.there w.heap.size 0 32) → ((W.cell? ⟨0, 0, none⟩ = some (.int .u32 S0.a.toNat) ∧ W.cell? ⟨0, 1, none⟩ = some (.int .u32 S0.b.toNat) ∧ W.cell? ⟨0, 2, none⟩ = some (.int .u32 S0.c.toNat) ∧ W.cell? ⟨0, 3, none⟩ = some (.int .u32 S0.d.toNat) ∧
    W.cell? ⟨0, 4, none⟩ = some (.int .u32 S0.e.toNat) ∧ W.cell? ⟨0, 5, none⟩ = some (.int .u32 S0.f.toNat) ∧ W.cell? ⟨0, 6, none⟩ = some (.int .u32 S0.g.toNat) ∧ W.cell? ⟨0, 7, none⟩ = some (.int .u32 S0.h.toNat)) ∧ Below w.heap.size w W ∧ W.there w.heap.size 0 32)) := Lib.hid fun W h => ⟨Starts.cells (hG.below h.1), h⟩
  clear hw1 hr1 hb1 hG1 hcs hS ecs hJ hs hG d0 d1 d2 d3 d4 d5 d6 d7
  go_enter Tryz.func28, Tryz.ntmps28
  go_upto_region 1 with fail
  rw [HW.out.1]
  go_region_held3 (fun w' => (w'.cell? ⟨0, 0, none⟩ = some (.int .u32 S0.a.toNat) ∧ w'.cell? ⟨0, 1, none⟩ = some (.int .u32 S0.b.toNat) ∧ w'.cell? ⟨0, 2, none⟩ = some (.int .u32 S0.c.toNat) ∧ w'.cell? ⟨0, 3, none⟩ = some (.int .u32 S0.d.toNat) ∧
    w'.cell? ⟨0, 4, none⟩ = some (.int .u32 S0.e.toNat) ∧ w'.cell? ⟨0, 5, none⟩ = some (.int .u32 S0.f.toNat) ∧ w'.cell? ⟨0, 6, none⟩ = some (.int .u32 S0.g.toNat) ∧ w'.cell? ⟨0, 7, none⟩ = some (.int .u32 S0.h.toNat)) ∧ Below w.heap.size w w' ∧ w'.there w.heap.size 0 32)
    (first
      | (exact HK.out _ (by assumption))
      | (exact HK.out _ ⟨below_drewN HW.out.2.2.1 1, (World.there_drew _ _ _ _).2 ht1⟩)
      | (exact HK.out _ ⟨below_setCells (Nat.le_refl _) _ _ _ (And.left (by assumption)), World.there_setCells (And.right (by assumption)) _ _ _⟩))
    (first
      | (go_at_call 43
         refine (HJ.out _ (below_drewN HW.out.2.2.1 1)).mono ?_
         rintro e w2 ⟨rfl, hb2⟩
         have hr2 : Row w2 w.heap.size 56 z32 := (Row.drewN HW.out.2.1 1).below hb2 HW.out.2.1.lt
         have hk2 : Below w.heap.size w w2 ∧ w2.there w.heap.size 0 32 := ⟨(below_drewN HW.out.2.2.1 1).trans (hb2.mono HW.out.2.2.1.size), row_there hr2⟩)
      | (go_at_call 42
         refine (callsIn_wide.1 (blocks_in 0 s _)).mono ?_
         rintro e w3 ⟨rfl, hw3⟩
         have hb3 : Below w2.heap.size w2 w3 := by rw [hw3]; exact (Below.refl _ _).alloc (Nat.le_refl _) _
         have hx3 : Row w3 w2.heap.size 9 [.string s] := by rw [hw3]; exact Row.new w2 _ _
         have hr3 : Row w3 w.heap.size 56 z32 := hr2.below hb3 hr2.lt
         have hk3 : Below w.heap.size w w3 ∧ w3.there w.heap.size 0 32 := ⟨hk2.1.trans (hb3.mono hk2.1.size), row_there hr3⟩
         clear hw3)
      | (go_at_call 41
         refine (HMIX.out _ _ hx3).mono ?_
         rintro e w4 ⟨rfl, hb4⟩
         have hr4 : Row w4 w.heap.size 56 z32 := hr3.below hb4 hr3.lt
         have hk4 : Below w.heap.size w w4 ∧ w4.there w.heap.size 0 32 := ⟨hk3.1.trans (hb4.mono hk3.1.size), row_there hr4⟩)
      | (go_at_call 40
         refine (HWR.out _).mono ?_
         rintro e w5 ⟨rfl, hb5⟩
         have hr5 : Row w5 w.heap.size 56 z32 := hr4.below hb5 hr4.lt
         have hk5 : Below w.heap.size w w5 ∧ w5.there w.heap.size 0 32 := ⟨hk4.1.trans (hb5.mono hk4.1.size), row_there hr5⟩))
  go_wp2
  exact bodyPost_ret (v := .agg cs.toArray) (results_cell_row rfl _ _ w.heap.size 56 cs.toArray (0, 0) _ rfl (row_setCells cs [] z32 w5 (by rw [hcl]; rfl) hr5) Tryz.underlying56 rfl (by rw [s32_size, List.size_toArray, hcl])) rfl ⟨rfl, below_setCells (Nat.le_refl _) _ _ _ hk5.1⟩

/-- The sum of the parts. -/
theorem Sum_any (bk o c : Nat) (xs : List ByteArray) (w : World) (hG : G w) (hcells : ∀ (j : Nat) x, xs[j]? = some x → w.cell? ⟨bk, o + j, none⟩ = some (.string x)) (hbk : bk < w.heap.size) (hN : xs.length ≤ c) (hl : xs.length ≤ 140737488355328)
    (T : List UInt8) (hT : Lib.join (xs.map (·.data.toList)) [] = T) (hTl : T.length ≤ 140737488355000) :
    Calls Tryz.prog 28 #[.slice (some ⟨bk, o, none⟩) xs.length c] w fun e w' => e = .returned (sumV (shaL T)) ∧ Below w.heap.size w w' := by
  subst hT
  refine (Sum_any' start8 (some ⟨bk, o, none⟩) xs.length c ⟨(Lib.join (xs.map (·.data.toList)) []).toArray⟩ (by show (Lib.join (xs.map (·.data.toList)) []).toArray.size ≤ _; rw [List.size_toArray]; exact hTl) w hG (fun W hb => ?_)).mono ?_
  · exact Tryz.strings_Join bk o c xs ⟨#[]⟩ W (fun j x hx => (hb.cell (p := ⟨bk, o + j, none⟩) hbk).trans (hcells j x hx)) (Nat.lt_of_lt_of_le hbk hb.size) hl hN (by show (Lib.join (xs.map (·.data.toList)) []).length ≤ _; omega)
  · rintro e w' ⟨rfl, hb⟩
    exact ⟨rfl, hb⟩
/-- The sum of nothing. -/
theorem Sum_none (a : Option Addr) (c : Nat) (w : World) (hG : G w) :
    Calls Tryz.prog 28 #[.slice a 0 c] w fun e w' => e = .returned (sumV (shaL [])) ∧ Below w.heap.size w w' := by
  refine (Sum_any' start8 a 0 c ⟨#[]⟩ (by decide) w hG (fun W hb => ?_)).mono ?_
  · exact (Tryz.strings_Join_none a c ⟨#[]⟩ W).mono fun e w' h => ⟨h.1, by rw [h.2]; exact Below.refl _ _⟩
  · rintro e w' ⟨rfl, hb⟩
    exact ⟨rfl, hb⟩
end Go.Proofs.YtlmbijhkpgolaaaGreatDoor
