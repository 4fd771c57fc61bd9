/- slices.Concat of two rows of texts. -/
import Derived.OwnWalk
import Derived.Test.YtlmbijhkpgolaaaGreatDoorSText
import Derived.Test.YtlmbijhkpgolaaaGreatDoorGrow
namespace Go.Proofs.YtlmbijhkpgolaaaGreatDoor
open Go.RowKit
set_option linter.unusedVariables false

theorem str_info3 : (Tryz.prog.info? 9).map (fun i => (i.zero, i.size, i.bytes)) = some (some (.string ⟨#[]⟩), 1, 16) := by kernel_rfl
theorem grow_own (m : Nat) (hm : 1 ≤ m) (hm2 : m ≤ 100000) (w : World) :
    Calls Tryz.prog 67 #[.slice none 0 0, .int .i64 m] w fun e w' => ∃ c, m ≤ c ∧ e = .returned (.slice (some ⟨w.heap.size, 0, none⟩) 0 c) ∧
      w'.ownsRow w.heap.size 9 1 (.slice (some ⟨w.heap.size, 0, none⟩) 0 c) 0 [] ∧ Below w.heap.size w w' := by
  obtain ⟨i0, hi0, hz0, hz1, hz2⟩ := info_parts str_info3
  refine (Any8.slices_Grow_grow Tryz.laysGrow i0 (.string ⟨#[]⟩) hi0 hz0 (by omega) none 0 0 m [] w (Nat.le_refl _) (by omega) (by rw [hz2]; omega) (by omega) (by simp) (fun _ => rfl) (fun a h => by cases h)).mono ?_
  rintro e w' ⟨rfl, rfl⟩
  rw [Nat.zero_add]
  have hge := grownCap_ge w m 0 9
  have hz : ∀ k, (Builtin.zeroCells (Value.string ⟨#[]⟩).cells k).size = k := fun k => by
    have h1 : (Value.string ⟨#[]⟩).cells.size = 1 := rfl
    simp [Builtin.zeroCells, h1]
  refine ⟨grownCap w m 0 9, hge, rfl, ⟨rfl, .inr ⟨w.heap.size, grownCap w m 0 9, ?cur, rfl, Nat.le_refl _, ?hc, Nat.zero_le _, grownCap_le_maxLen w m 0 _ (by unfold maxLen; omega), ?h1, ?h2⟩⟩, ?hb⟩
  case hc => exact (World.alloc_heap_new _ _)
  case h1 =>
    simp only [Array.size_append, hz, Nat.sub_zero]
    show 0 + m + (grownCap w m 0 9 - m) = grownCap w m 0 9 * 1
    omega
  case h2 => simp
  case hb => exact (below_drewN (Below.refl _ _) 1).alloc (Nat.le_refl _) _

/-- How many texts there are in the first k rows. -/
def cnt (n : Nat) : Nat → Nat
  | 0 => 0
  | 1 => 1
  | _ => 1 + n
def rowsOf (x0 : ByteArray) (xs : List ByteArray) : Nat → List ByteArray
  | 0 => []
  | 1 => [x0]
  | _ => x0 :: xs

set_option maxRecDepth 20000 in
set_option maxHeartbeats 4000000 in
theorem Concat_any (bs b1 b2 o2 c2 : Nat) (x0 : ByteArray) (xs : List ByteArray) (w : World) (h : Row w bs 54 [.slice (some ⟨b1, 0, none⟩) 1 1, .slice (some ⟨b2, o2, none⟩) xs.length c2])
    (h1 : w.cell? ⟨b1, 0, none⟩ = some (.string x0)) (h2 : ∀ (j : Nat) x, xs[j]? = some x → w.cell? ⟨b2, o2 + j, none⟩ = some (.string x)) (hb1 : b1 < w.heap.size) (hb2 : b2 < w.heap.size) (hn : xs.length ≤ 1000) :
    Calls Tryz.prog 46 #[.slice (some ⟨bs, 0, none⟩) 2 2] w fun e w' => ∃ g c, 1 + xs.length ≤ c ∧ e = .returned (.slice (some ⟨g, 0, none⟩) (1 + xs.length) c) ∧
      w'.ownsRow w.heap.size 9 1 (.slice (some ⟨g, 0, none⟩) (1 + xs.length) c) (1 + xs.length) ((x0 :: xs).map Value.string) ∧ Below w.heap.size w w' := by
  obtain ⟨n, hnn⟩ : ∃ n, xs.length = n := ⟨_, rfl⟩
  rw [hnn] at h hn ⊢
  have c0 : w.cell? ⟨bs, 0, none⟩ = some (.slice (some ⟨b1, 0, none⟩) 1 1) := h.cell 0
  have c1 : w.cell? ⟨bs, 1, none⟩ = some (.slice (some ⟨b2, o2, none⟩) n c2) := h.cell 1
  have HB := Lib.hid (And.intro hnn (And.intro h1 (And.intro h2 (And.intro hb1 (And.intro hb2 h)))))
  clear hnn h1 h2 hb1 hb2 h
  go_enter Tryz.func46, Tryz.ntmps46
  go_wp2_with fail
  go_loopw [3, 11] (fun s i wr => w = wr ∧ ∃ k : Nat, k ≤ 2 ∧ i = .int .i64 k ∧ s = .int .i64 ((cnt n k : Nat) : Int)) (fun _ i _ => 2 - (intOf i).toNat)
  case atStart => exact ⟨rfl, 0, by omega, rfl, rfl⟩
  case round =>
    obtain ⟨rfl, k, hk, rfl, rfl⟩ := hrel
    rcases (by omega : k = 0 ∨ k = 1 ∨ k = 2) with rfl | rfl | rfl
    · simp only [cnt]
      go_wp2
      go_roundw
      case rel => exact ⟨trivial, 1, by omega, by go_num, by show _ = Value.int .i64 ((1 : Nat) : Int); go_num⟩
      case measure => simp [intOf]
    · simp only [cnt]
      have hpos : ¬ ((1 : Int) + (n : Int) < 0) := by omega
      go_wp2
      go_roundw
      case rel => exact ⟨trivial, 2, by omega, by go_num, by show _ = Value.int .i64 ((1 + n : Nat) : Int); go_num⟩
      case measure => simp [intOf]
    · simp only [cnt]
      go_wp2_with fail
      have e0 : (Value.int .i64 ((1 + n : Nat) : Int)) = .int .i64 (1 + (n : Int)) := by go_num
      refine (grow_own (1 + n) (by omega) (by omega) _).mono ?_
      rintro e w1 ⟨c, hc, rfl, hown, hb⟩
      obtain ⟨i0, hi0, hz0, hz1, hz2⟩ := info_parts str_info3
      have HI := Lib.hid (And.intro hi0 hz1)
      clear e0 hi0 hz0 hz1 hz2
      obtain ⟨g, hg⟩ : ∃ g, w.heap.size = g := ⟨_, rfl⟩
      rw [hg] at hown ⊢
      have HGG := Lib.hid hg
      clear hg
      go_wp2
      go_loopw [6, 27] (fun v i wq => ∃ k : Nat, k ≤ 2 ∧ i = .int .i64 k ∧ v = .slice (some ⟨g, 0, none⟩) (cnt n k) c ∧ wq.ownsRow g 9 1 (.slice (some ⟨g, 0, none⟩) (cnt n k) c) (cnt n k) ((rowsOf x0 xs k).map Value.string) ∧ Below w.heap.size w wq) (fun _ i _ => 2 - (intOf i).toNat)
      case atStart => exact ⟨0, by omega, rfl, rfl, hown, hb⟩
      case round =>
        obtain ⟨k, hk, rfl, rfl, ho, hB⟩ := hrel
        clear hown hb
        clear c0 c1
        have hr := HB.out.2.2.2.2.2.below hB HB.out.2.2.2.2.2.lt
        rcases (by omega : k = 0 ∨ k = 1 ∨ k = 2) with rfl | rfl | rfl
        · have c0 : wr.cell? ⟨bs, 0, none⟩ = some (.slice (some ⟨b1, 0, none⟩) 1 1) := hr.cell 0
          have hcl : ∀ (j : Nat) u, [Value.string x0][j]? = some u → wr.cell? ((⟨b1, 0, none⟩ : Addr).add j) = some u := fun j u hj => by
            rw [Addr.add_mid, Nat.zero_add]
            match j, hj with
            | 0, hj => cases hj; exact (hB.cell (p := ⟨b1, 0, none⟩) HB.out.2.2.2.1).trans HB.out.2.1
          have hsz := hB.size
          have H := Lib.hid (And.intro ho (And.intro hB hcl))
          clear ho hB hcl hr
          simp only [cnt]
          go_wp2_with (at_builtin; refine wpList_append_fits _ rfl (.tmp 31) (.tmp 32) 54 rfl g 9 i0 1 Tryz.underlying54 HI.out.1 HI.out.2 g 0 c [] rfl H.out.1 ⟨b1, 0, none⟩ 1 1 [.string x0] rfl rfl H.out.2.2 (by simp [Value.oneCell']) (by omega) ?_; intro w3 ho3 hg3)
          go_roundw
          case rel => exact ⟨1, by omega, by go_num, rfl, ho3, H.out.2.1.grown hg3 hsz (fun k hk => by cases hk; exact Nat.le_of_eq HGG.out)⟩
          case measure => simp [intOf]
        · have c1 : wr.cell? ⟨bs, 1, none⟩ = some (.slice (some ⟨b2, o2, none⟩) n c2) := hr.cell 1
          have hcl : ∀ (j : Nat) u, (xs.map Value.string)[j]? = some u → wr.cell? ((⟨b2, o2, none⟩ : Addr).add j) = some u := fun j u hj => by
            rw [Addr.add_mid]
            rw [List.getElem?_map, Option.map_eq_some_iff] at hj
            obtain ⟨x, hx, rfl⟩ := hj
            exact (hB.cell (p := ⟨b2, o2 + j, none⟩) HB.out.2.2.2.2.1).trans (HB.out.2.2.1 j x hx)
          have hsz := hB.size
          have H := Lib.hid (And.intro ho (And.intro hB hcl))
          clear ho hB hcl hr
          simp only [cnt]
          go_wp2_with (at_builtin; refine wpList_append_fits _ rfl (.tmp 31) (.tmp 32) 54 rfl g 9 i0 1 Tryz.underlying54 HI.out.1 HI.out.2 g 1 c [.string x0] rfl H.out.1 ⟨b2, o2, none⟩ n c2 (xs.map Value.string) rfl (by rw [List.length_map, HB.out.1, Nat.mul_one]) H.out.2.2 (fun u hu => by obtain ⟨x, _, rfl⟩ := List.mem_map.1 hu; rfl) (by omega) ?_; intro w3 ho3 hg3)
          go_roundw
          case rel => exact ⟨2, by omega, by go_num, rfl, ho3, H.out.2.1.grown hg3 hsz (fun k hk => by cases hk; exact Nat.le_of_eq HGG.out)⟩
          case measure => simp [intOf]
        · have H := Lib.hid (And.intro ho hB)
          clear ho hB hr
          simp only [cnt]
          go_wp2
          go_ret
          exact ⟨g, c, hc, rfl, by rw [HGG.out]; exact H.out.1, H.out.2⟩
end Go.Proofs.YtlmbijhkpgolaaaGreatDoor
