/- The sum by a key. -/
import Derived.Test.YtlmbijhkpgolaaaGreatDoorHCat
import Derived.Test.YtlmbijhkpgolaaaGreatDoorHMask
namespace Go.Proofs.YtlmbijhkpgolaaaGreatDoor
open Go.RowKit
set_option linter.unusedVariables false

theorem join_flat (xs : List (List UInt8)) : Lib.join xs [] = xs.flatten := by
  induction xs with
  | nil => rfl
  | cons x xs ih =>
    cases xs with
    | nil => simp [Lib.join_one]
    | cons y ys =>
      unfold Lib.join at ih ⊢
      simp only [List.intercalate, List.intersperse, List.flatten_cons, List.nil_append] at ih ⊢
      rw [ih]
theorem own_cells {w : World} {B n c g : Nat} {t : TypeId} {l : List Value} (h : w.ownsRow B t 1 (.slice (some ⟨g, 0, none⟩) n c) n l) (hn : 0 < n) : ∀ (j : Nat) v, l[j]? = some v → w.cell? ⟨g, 0 + j, none⟩ = some v := by
  intro j v hj
  rcases h.2 with ⟨e1, _⟩ | ⟨g', cap, cur, e1, _, hh, hc, _, hs, ht⟩
  · cases e1
  · cases e1
    have hr : Row w g t cur.toList := by
      show w.heap[g]? = some (.cells cur.toList.toArray t (0, 0))
      rw [Array.toArray_toList]
      exact hh
    rw [Nat.zero_add, hr.cell]
    rw [← ht] at hj
    rw [List.getElem?_take] at hj
    split at hj
    · exact hj
    · cases hj
theorem own_lt {w : World} {B n c g : Nat} {t : TypeId} {l : List Value} (h : w.ownsRow B t 1 (.slice (some ⟨g, 0, none⟩) n c) n l) : g < w.heap.size := by
  rcases h.2 with ⟨e1, _⟩ | ⟨g', cap, cur, e1, _, hh, _⟩
  · cases e1
  · cases e1
    exact (Array.getElem?_eq_some_iff.1 hh).1

set_option maxRecDepth 20000 in
set_option maxHeartbeats 4000000 in
theorem HmSum_any (key : ByteArray) (hk : key.size ≤ 100000000) (b2 o2 c2 : Nat) (xs : List ByteArray) (w : World) (hG : G w)
    (h2 : ∀ (j : Nat) x, xs[j]? = some x → w.cell? ⟨b2, o2 + j, none⟩ = some (.string x)) (hb2 : b2 < w.heap.size) (hn : xs.length ≤ 1000)
    (T : List UInt8) (hT : Lib.join (xs.map (·.data.toList)) [] = T) (hTl : T.length ≤ 140737488300000) :
    Calls Tryz.prog 31 #[.string key, .slice (some ⟨b2, o2, none⟩) xs.length c2] w fun e w' => e = .returned (.string ⟨(hmacL key.data.toList T).toArray⟩) ∧ Below w.heap.size w w' := by
  have hkl : key.data.toList.length = key.size := by simp
  obtain ⟨kk, hkk, hks⟩ : ∃ kk : ByteArray, kk.data.toList = keyL key.data.toList ∧ (if 64 < key.size then kk = ⟨(shaL key.data.toList).toArray⟩ else kk = key) := by
    by_cases h : 64 < key.size
    · refine ⟨⟨(shaL key.data.toList).toArray⟩, ?_, ?_⟩
      · unfold keyL; rw [if_pos (by omega)]
      · rw [if_pos h]
    · refine ⟨key, ?_, ?_⟩
      · unfold keyL; rw [if_neg (by omega)]
      · rw [if_neg h]
  have hkz : kk.size ≤ 64 := by
    have e : kk.size = kk.data.toList.length := by simp
    rw [e, hkk]
    unfold keyL
    split
    · rw [shaL_length]; omega
    · omega
  have hkzl : kk.data.toList.length ≤ 64 := by
    have e : kk.size = kk.data.toList.length := by simp
    omega
  obtain ⟨x0, hx0⟩ : ∃ x : ByteArray, (⟨(blkL kk.data.toList 54).toArray⟩ : ByteArray) = x := ⟨_, rfl⟩
  obtain ⟨x1, hx1⟩ : ∃ x : ByteArray, (⟨(blkL kk.data.toList 92).toArray⟩ : ByteArray) = x := ⟨_, rfl⟩
  have HM0 : Hid (∀ W : World, Calls Tryz.prog 47 #[.string kk, .int .u8 54] W fun e w' => e = .returned (.string x0) ∧ Below W.heap.size W w') := Lib.hid fun W => by rw [← hx0]; exact masked_any kk 54 hkz W
  have HM1 : Hid (∀ W : World, Calls Tryz.prog 47 #[.string kk, .int .u8 92] W fun e w' => e = .returned (.string x1) ∧ Below W.heap.size W w') := Lib.hid fun W => by rw [← hx1]; exact masked_any kk 92 hkz W
  have hd0 : x0.data.toList = blkL kk.data.toList 54 := by rw [← hx0]
  have hd1 : x1.data.toList = blkL kk.data.toList 92 := by rw [← hx1]
  obtain ⟨y, hy⟩ : ∃ y : ByteArray, (⟨(shaL (x0.data.toList ++ T)).toArray⟩ : ByteArray) = y := ⟨_, rfl⟩
  have hyd : y.data.toList = shaL (x0.data.toList ++ T) := by rw [← hy]
  obtain ⟨r, hr⟩ : ∃ r : ByteArray, (⟨(shaL (x1.data.toList ++ y.data.toList)).toArray⟩ : ByteArray) = r := ⟨_, rfl⟩
  have hfin : (⟨(hmacL key.data.toList T).toArray⟩ : ByteArray) = r := by
    rw [← hr, hyd, hd0, hd1]
    unfold hmacL
    rw [hkk]
  have hx0l : x0.data.toList.length = 64 := by rw [hd0]; exact blkL_length _ _ hkzl
  have HT1 : Hid (∀ (W : World) (g c : Nat), G W → 1 + xs.length ≤ c → (∀ (j : Nat) v, ((x0 :: xs).map Value.string)[j]? = some v → W.cell? ⟨g, 0 + j, none⟩ = some v) → g < W.heap.size → Calls Tryz.prog 15 #[.slice (some ⟨g, 0, none⟩) (1 + xs.length) c] W fun e w' => e = .returned (.string y) ∧ Below W.heap.size W w') := Lib.hid fun W g c hg hc hcl hlt => by
    rw [← hy]
    have h := Text_any g 0 c (x0 :: xs) W hg (fun j x hx => hcl j _ (by rw [List.getElem?_map, hx]; rfl)) hlt (by rw [List.length_cons]; omega) (by rw [List.length_cons]; omega) (x0.data.toList ++ T) (by rw [join_flat, List.map_cons, List.flatten_cons, ← join_flat, hT]) (by rw [List.length_append]; omega)
    rwa [List.length_cons, Nat.add_comm] at h
  have HT2 : Hid (∀ (W : World) (g : Nat), G W → Row W g 9 [.string x1, .string y] → Calls Tryz.prog 15 #[.slice (some ⟨g, 0, none⟩) 2 2] W fun e w' => e = .returned (.string r) ∧ Below W.heap.size W w') := Lib.hid fun W g hg hr2 => by
    rw [← hr]
    have hyl : y.data.toList.length = 32 := by rw [hyd]; exact shaL_length _
    have hx1l : x1.data.toList.length = 64 := by rw [hd1]; exact blkL_length _ _ hkzl
    exact Text_any g 0 2 [x1, y] W hg (fun j x hx => by rw [Nat.zero_add, hr2.cell]; match j, hx with | 0, hx => cases hx; rfl | 1, hx => cases hx; rfl) hr2.lt (by simp) (by simp) (x1.data.toList ++ y.data.toList) (by rw [join_flat]; simp) (by rw [List.length_append]; omega)
  rw [hfin]
  have HG := Lib.hid hG
  have HH := Lib.hid h2
  have HHb := Lib.hid hb2
  clear hkl hkk hkz hkzl hx0 hx1 hd0 hd1 hy hyd hr hfin hx0l hG h2 hT hTl hb2
  by_cases hlong : 64 < key.size
  · rw [if_pos hlong] at hks
    have hkI : (64 : Int) < (key.size : Int) := by omega
    have HT0 : Hid (∀ (W : World) (g : Nat), G W → Row W g 9 [.string key] → Calls Tryz.prog 15 #[.slice (some ⟨g, 0, none⟩) 1 1] W fun e w' => e = .returned (.string kk) ∧ Below W.heap.size W w') := Lib.hid fun W g hg hr2 => by
      rw [hks]
      exact Text_any g 0 1 [key] W hg (fun j x hx => by rw [Nat.zero_add, hr2.cell]; match j, hx with | 0, hx => cases hx; rfl) hr2.lt (by simp) (by simp) key.data.toList (by rw [join_flat]; simp) (by simp; omega)
    clear hks
    go_enter Tryz.func31, Tryz.ntmps31
    go_wp2_with fail
    have hb0 := (Below.refl w.heap.size w).alloc (Nat.le_refl _) (.cells #[Value.string key] 9)
    refine (HT0.out _ w.heap.size (HG.out.below hb0) (Row.new w 9 [Value.string key])).mono ?_
    rintro e w0 ⟨rfl, hbt⟩
    have hbz := hb0.trans (hbt.mono hb0.size)
    clear hb0 hbt
    go_wp2_with fail
    refine (HM0.out _).mono ?_
    rintro e w1 ⟨rfl, hb1'⟩
    have hb1 := hbz.trans (hb1'.mono hbz.size)
    clear hbz hb1'
    go_wp2_with fail
    have r0 := (Row.new w1 9 [.string x0]).alloc (.cells #[Value.slice (some ⟨w1.heap.size, 0, none⟩) 1 1, Value.slice (some ⟨b2, o2, none⟩) xs.length c2] 54)
    have r1 := Row.new (w1.alloc (.cells #[Value.string x0] 9)) 54 [Value.slice (some ⟨w1.heap.size, 0, none⟩) 1 1, Value.slice (some ⟨b2, o2, none⟩) xs.length c2]
    rw [World.size_alloc] at r1
    have hb3 := (hb1.alloc hb1.size (.cells #[Value.string x0] 9)).alloc (by rw [World.size_alloc]; exact Nat.le_succ_of_le hb1.size) (.cells #[Value.slice (some ⟨w1.heap.size, 0, none⟩) 1 1, Value.slice (some ⟨b2, o2, none⟩) xs.length c2] 54)
    have hlt : b2 < ((w1.alloc (.cells #[Value.string x0] 9)).alloc (.cells #[Value.slice (some ⟨w1.heap.size, 0, none⟩) 1 1, Value.slice (some ⟨b2, o2, none⟩) xs.length c2] 54)).heap.size := Nat.lt_of_lt_of_le HHb.out hb3.size
    refine (Concat_any (w1.heap.size + 1) w1.heap.size b2 o2 c2 x0 xs _ r1 (r0.cell 0) (fun j x hx => (hb3.cell (p := ⟨b2, o2 + j, none⟩) HHb.out).trans (HH.out j x hx)) r0.lt hlt hn).mono ?_
    rintro e w4 ⟨g, c, hc, rfl, hown, hb4⟩
    have hB4 := hb3.trans (hb4.mono hb3.size)
    have H4 := Lib.hid (And.intro hown hB4)
    have hg4 := own_lt hown
    clear r0 r1 hb3 hb4 hown hb1 hlt hB4
    go_wp2_with fail
    refine (HM1.out _).mono ?_
    rintro e w5 ⟨rfl, hb5⟩
    have hB5 := H4.out.2.trans (hb5.mono H4.out.2.size)
    go_wp2_with fail
    refine (HT1.out _ g c (HG.out.below hB5) hc (fun j v hj => (hb5.cell (p := ⟨g, 0 + j, none⟩) hg4).trans (own_cells H4.out.1 (by omega) j v hj)) (Nat.lt_of_lt_of_le hg4 hb5.size)).mono ?_
    rintro e w6 ⟨rfl, hb6⟩
    have hB6 := hB5.trans (hb6.mono hB5.size)
    clear hb5 hb6 hB5
    go_wp2_with fail
    have hB7 := hB6.alloc hB6.size (.cells #[Value.string x1, Value.string y] 9)
    refine (HT2.out _ w6.heap.size (HG.out.below hB7) (Row.new w6 9 [Value.string x1, Value.string y])).mono ?_
    rintro e w7 ⟨rfl, hb7⟩
    have hB8 := hB7.trans (hb7.mono hB7.size)
    clear hB6 hB7 hb7
    go_wp2_with fail
    go_ret
    exact ⟨rfl, hB8⟩
  · rw [if_neg hlong] at hks
    subst hks
    have hkI : ¬ ((64 : Int) < (kk.size : Int)) := by omega
    go_enter Tryz.func31, Tryz.ntmps31
    go_wp2_with fail
    refine (HM0.out _).mono ?_
    rintro e w1 ⟨rfl, hb1⟩
    go_wp2_with fail
    have r0 := (Row.new w1 9 [.string x0]).alloc (.cells #[Value.slice (some ⟨w1.heap.size, 0, none⟩) 1 1, Value.slice (some ⟨b2, o2, none⟩) xs.length c2] 54)
    have r1 := Row.new (w1.alloc (.cells #[Value.string x0] 9)) 54 [Value.slice (some ⟨w1.heap.size, 0, none⟩) 1 1, Value.slice (some ⟨b2, o2, none⟩) xs.length c2]
    rw [World.size_alloc] at r1
    have hb3 := (hb1.alloc hb1.size (.cells #[Value.string x0] 9)).alloc (by rw [World.size_alloc]; exact Nat.le_succ_of_le hb1.size) (.cells #[Value.slice (some ⟨w1.heap.size, 0, none⟩) 1 1, Value.slice (some ⟨b2, o2, none⟩) xs.length c2] 54)
    have hlt : b2 < ((w1.alloc (.cells #[Value.string x0] 9)).alloc (.cells #[Value.slice (some ⟨w1.heap.size, 0, none⟩) 1 1, Value.slice (some ⟨b2, o2, none⟩) xs.length c2] 54)).heap.size := Nat.lt_of_lt_of_le HHb.out hb3.size
    refine (Concat_any (w1.heap.size + 1) w1.heap.size b2 o2 c2 x0 xs _ r1 (r0.cell 0) (fun j x hx => (hb3.cell (p := ⟨b2, o2 + j, none⟩) HHb.out).trans (HH.out j x hx)) r0.lt hlt hn).mono ?_
    rintro e w4 ⟨g, c, hc, rfl, hown, hb4⟩
    have hB4 := hb3.trans (hb4.mono hb3.size)
    have H4 := Lib.hid (And.intro hown hB4)
    have hg4 := own_lt hown
    clear r0 r1 hb3 hb4 hown hb1 hlt hB4
    go_wp2_with fail
    refine (HM1.out _).mono ?_
    rintro e w5 ⟨rfl, hb5⟩
    have hB5 := H4.out.2.trans (hb5.mono H4.out.2.size)
    go_wp2_with fail
    refine (HT1.out _ g c (HG.out.below hB5) hc (fun j v hj => (hb5.cell (p := ⟨g, 0 + j, none⟩) hg4).trans (own_cells H4.out.1 (by omega) j v hj)) (Nat.lt_of_lt_of_le hg4 hb5.size)).mono ?_
    rintro e w6 ⟨rfl, hb6⟩
    have hB6 := hB5.trans (hb6.mono hB5.size)
    clear hb5 hb6 hB5
    go_wp2_with fail
    have hB7 := hB6.alloc hB6.size (.cells #[Value.string x1, Value.string y] 9)
    refine (HT2.out _ w6.heap.size (HG.out.below hB7) (Row.new w6 9 [Value.string x1, Value.string y])).mono ?_
    rintro e w7 ⟨rfl, hb7⟩
    have hB8 := hB7.trans (hb7.mono hB7.size)
    clear hB6 hB7 hb7
    go_wp2_with fail
    go_ret
    exact ⟨rfl, hB8⟩
end Go.Proofs.YtlmbijhkpgolaaaGreatDoor
