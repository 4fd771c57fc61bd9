/- Slices of texts: held, compared; the document's own parts. -/
import Derived.Test.YtioahofmjokbbaaRows
import Derived.WalkKit
import Derived.WalkSpells
import Derived.WalkLawsBesides
import Derived.Lib.Hide
import Derived.Deep.QuietTactic
import Derived.BigQuiet
import Derived.Deep.AppendLies
import Derived.Test.YtioahofmjokbbaaParts
namespace Go.Proofs.Ytioahofmjokbbaa
open Go.RowKit
set_option linter.unusedVariables false

/-- v is a slice that holds the texts l. -/
def Strs (w : World) (v : Value) (l : List ByteArray) : Prop :=
  ∃ a0 cap b off, v = .slice a0 l.length cap ∧ (0 < l.length → a0 = some ⟨b, off, none⟩ ∧ b < w.heap.size) ∧ ∀ j, j < l.length → w.cell? ⟨b, off + j, none⟩ = some (.string (l.getD j ByteArray.empty))

theorem Strs.below {B : Nat} {w w' : World} {v : Value} {l : List ByteArray} (h : Strs w v l) (hB : w.heap.size ≤ B) (hb : Below B w w') : Strs w' v l := by
  obtain ⟨a0, cap, b, off, h1, h2, h3⟩ := h
  refine ⟨a0, cap, b, off, h1, fun h0 => ⟨(h2 h0).1, Nat.lt_of_lt_of_le (h2 h0).2 ?_⟩, fun j hj => ?_⟩
  · exact hb.size
  · have h4 := (h2 (by omega)).2
    exact (hb.cell (p := ⟨b, off + j, none⟩) (by show b < B; omega)).trans (h3 j hj)

theorem Strs.own {w : World} {v : Value} {l : List ByteArray} {B k : Nat} (h : w.ownsRow B 9 1 v k (l.map Value.string)) (hk : k = l.length) : Strs w v l := by
  subst hk
  rcases h.2 with ⟨h0, h1⟩ | ⟨g, cap, cur, hv, hg, _, hn, hcap, _, _⟩
  · subst h0
    exact ⟨none, 0, 0, 0, by rw [h1], fun h => by omega, fun j hj => by omega⟩
  · subst hv
    refine ⟨some ⟨g, 0, none⟩, cap, g, 0, rfl, fun _ => ⟨rfl, (h.lt g rfl).2⟩, fun j hj => ?_⟩
    rw [Nat.zero_add, h.cellAt j (by omega)]
    simp [List.getD, List.getElem?_eq_getElem hj]

theorem str_ne {x y : ByteArray} (h : x ≠ y) : (x.toList == y.toList) = false := by
  rw [beq_eq_false_iff_ne]
  intro e
  rw [ByteArray.toList_eq, ByteArray.toList_eq] at e
  exact h (ByteArray.ext (Array.toList_inj.mp e))

theorem drew_drew (w : World) (m n : Nat) : (w.drewN m).drewN n = w.drewN (m + n) := by simp [World.drewN, Nat.add_assoc]

theorem ret_boolE {a b : Bool} (h : a = b) : Ending.returned (.bool a) = .returned (.bool b) := by rw [h]

set_option maxHeartbeats 400000 in
theorem Equal_any (v1 v2 : Value) (l1 l2 : List ByteArray) (w : World) (h1 : Strs w v1 l1) (h2 : Strs w v2 l2) (hl1 : l1.length ≤ 100000) (hl2 : l2.length ≤ 100000) :
    Calls Try.prog 21 #[v1, v2] w fun e w' => e = .returned (.bool (decide (l1 = l2))) ∧ ∃ n, w' = w.drewN n := by
  obtain ⟨p1, c1, b1, o1, rfl, hp1, hc1⟩ := h1
  obtain ⟨p2, c2, b2, o2, rfl, hp2, hc2⟩ := h2
  by_cases hlen : l1.length = l2.length
  · rw [hlen] at hc1 hp1 ⊢
    obtain ⟨n, hn⟩ : ∃ n, l2.length = n := ⟨_, rfl⟩
    have HN := Lib.hid hn
    rw [hn] at hc1 hc2 hp1 hp2 hl2 ⊢
    rw [hn] at hlen
    have HL := Lib.hid hlen
    clear hlen hl1 hn
    have HC := Lib.hid (And.intro hc1 hc2)
    have HP := Lib.hid (And.intro hp1 hp2)
    clear hc1 hc2 hp1 hp2
    go_enter Try.func21, Try.ntmps21
    go_wp2
    go_loopw [13] (fun i wr => ∃ j m : Nat, j ≤ n ∧ i = .int .i64 j ∧ Hid (∀ k, k < j → l1.getD k ByteArray.empty = l2.getD k ByteArray.empty) ∧ Hid (wr = w.drewN m)) (fun i _ => n - (intOf i).toNat)
    case atStart => exact ⟨0, 0, Nat.zero_le _, rfl, fun k hk => by omega, rfl⟩
    case round =>
      obtain ⟨j, m, hj, rfl, HE, HW⟩ := hrel
      rw [HW.out]
      clear HW
      by_cases hlt : j < n
      · obtain ⟨rfl, hb1⟩ := HP.out.1 (by omega)
        obtain ⟨rfl, hb2⟩ := HP.out.2 (by omega)
        have hx := HC.out.1 j hlt
        have hy := HC.out.2 j hlt
        obtain ⟨x, HX⟩ : ∃ x, Hid (l1.getD j ByteArray.empty = x) := ⟨_, Lib.hid rfl⟩
        obtain ⟨y, HY⟩ : ∃ y, Hid (l2.getD j ByteArray.empty = y) := ⟨_, Lib.hid rfl⟩
        rw [HX.out] at hx
        rw [HY.out] at hy
        by_cases hxy : x = y
        · subst hxy
          have HE2 : Hid (∀ k, k < j + 1 → l1.getD k ByteArray.empty = l2.getD k ByteArray.empty) := Lib.hid fun k hk => by
            rcases (by omega : k < j ∨ k = j) with h | h
            · exact HE.out k h
            · subst h; rw [HX.out, HY.out]
          go_wp2_with fail
          go_quiet (fail)
          go_wp2_with fail
          go_roundw
          case rel => exact ⟨j + 1, _, by omega, by go_num, HE2, Lib.hid rfl⟩
          case measure => simp [intOf]; omega
        · have hne := str_ne hxy
          have hd : Hid (decide (l1 = l2) = false) := Lib.hid (decide_eq_false fun h => hxy (by rw [← HX.out, ← HY.out, h]))
          go_wp2_with fail
          go_quiet (fail)
          go_wp2_with fail
          go_ret
          exact ⟨ret_boolE hd.out.symm, _, drew_drew _ _ _⟩
      · have hd : Hid (decide (l1 = l2) = true) := Lib.hid (decide_eq_true (List.ext_getElem (by rw [HL.out, HN.out]) fun k hk1 hk2 => by
          have hk := HE.out k (by have := HL.out; omega)
          simpa [List.getD, List.getElem?_eq_getElem hk1, List.getElem?_eq_getElem hk2] using hk))
        go_wp2_with fail
        go_ret
        exact ⟨ret_boolE hd.out.symm, _, rfl⟩
  · have hd : decide (l1 = l2) = false := decide_eq_false (fun h => hlen (by rw [h]))
    rw [hd]
    have hne : ((l1.length : Int) == (l2.length : Int)) = false := by simp; omega
    go_enter Try.func21, Try.ntmps21
    go_wp2
    go_ret
    exact ⟨rfl, 0, rfl⟩

theorem str_info : (Try.prog.info? 9).map (fun i => (i.zero, i.size, i.bytes)) = some (some (.string ⟨#[]⟩), 1, 16) := by kernel_rfl

theorem partsB_len : ∀ (k : Nat) (s : ByteArray), s.size ≤ k → (partsB s).length * 4 ≤ s.size := by
  intro k
  induction k with
  | zero => intro s hs; rw [partsB_not s (by unfold fits; rw [decide_eq_false (by omega)]; rfl)]; simp
  | succ k ih =>
    intro s hs
    cases hf : fits s with
    | false => rw [partsB_not s hf]; simp
    | true =>
      have := restB_lt s hf
      have h2 := ih (restB s) (by omega)
      rw [partsB_fits s hf, List.length_cons]
      omega

set_option maxHeartbeats 1000000 in
theorem refParts_any (s : ByteArray) (w : World) (hs : s.size ≤ 100000) :
    Calls Try.prog 19 #[.string s] w fun e w' => ∃ v, e = .returned v ∧ w'.ownsRow w.heap.size 9 1 v (partsB s).length ((partsB s).map Value.string) ∧ Below w.heap.size w w' := by
  obtain ⟨i0, hi, hz0, hz1, hz2⟩ := info_parts str_info
  go_enter Try.func19, Try.ntmps19
  go_wp2
  go_loopw [0, 3] (fun a v wr => ∃ (pre : List ByteArray) (q : ByteArray), a = .string q ∧ partsB s = pre ++ partsB q ∧ q.size ≤ 100000 ∧ wr.ownsRow w.heap.size 9 1 v pre.length (pre.map Value.string) ∧ Below w.heap.size w wr) (fun a _ _ => strSize a)
  case atStart => exact ⟨[], s, rfl, rfl, hs, World.ownsRow_nil _ _ _ _, Below.refl _ _⟩
  case round =>
    obtain ⟨pre, q, rfl, hx, hq, hrow, hB⟩ := hrel
    obtain ⟨n, HN⟩ : ∃ n, Hid (toldN q = n) := ⟨_, Lib.hid rfl⟩
    have htl := toldN_lt q
    rw [HN.out] at htl
    have HX := Lib.hid hx
    clear hx
    by_cases h4 : 4 ≤ q.size
    · have hget : Hid (∀ W : World, Calls Try.prog 9 #[.string (q.extract 0 4)] W fun e w' => e = .returned (.int .u64 (n : Nat)) ∧ W = w') := fun W => by
        have hsz : (q.extract 0 4).size = 4 := by rw [ByteArray.size_extract]; omega
        have h := refGet_any (q.extract 0 4) W (by omega)
        have e : getL (q.extract 0 4).data.toList = n := by
          rw [← HN.out]
          unfold toldN
          rw [ByteArray.data_extract, Array.toList_extract, List.extract_eq_take_drop]
          rfl
        rw [e] at h
        exact h
      have h40 : (4 : Int) ≤ (q.size : Int) := by omega
      by_cases hf : n ≤ q.size - 4
      · have hft : fits q = true := by unfold fits; rw [HN.out, decide_eq_true h4, decide_eq_true hf]; rfl
        have hpart : partB q = q.extract 4 (4 + n) := by unfold partB; rw [if_pos hft, HN.out]
        have hrest : restB q = q.extract (4 + n) q.size := by unfold restB; rw [if_pos hft, HN.out]
        have hlr := restB_lt q hft
        have hxq : partsB s = (pre ++ [partB q]) ++ partsB (restB q) := by rw [HX.out, partsB_fits q hft]; simp
        have hlen := partsB_len _ s (Nat.le_refl _)
        rw [hxq] at hlen
        simp only [List.length_append, List.length_cons, List.length_nil] at hlen
        rw [hpart, hrest] at hxq
        rw [hrest] at hlr
        have HL := Lib.hid (And.intro hlr hxq)
        have HR := Lib.hid hrow
        have hpl : pre.length ≤ 100000 := by omega
        have hn1 : (n : Int) ≤ (q.size : Int) - 4 := by omega
        have hsB := hB.size
        clear hpart hrest hlr hxq hlen hrow hft
        go_wp2_with (first
          | (go_at_call 9; refine (hget.out _).mono ?_; rintro e w1 ⟨rfl, rfl⟩)
          | (at_builtin; refine wpList_append_own _ rfl (.tmp 18) (.tmp 23) 39 rfl w.heap.size 9 i0 (.string ⟨#[]⟩) 1 16 Try.underlying39 hi hz0 hz1 hz2 rfl (by decide) _ _ _ rfl (HR.out.alloc _) ⟨wr.heap.size, 0, none⟩ 1 1 [.string (q.extract 4 (4 + n))] rfl rfl (World.news_of_block (cs := #[.string (q.extract 4 (4 + n))]) (t := 9) (fr := (0, 0)) (heap_alloc_new wr _)) (by simp [Value.oneCell']) (by unfold maxLen; omega) (by omega) (by simp; omega) ?_; intro v4 w4 hown4 hg4 hnil4))
        have hz : (wr.alloc (.cells #[.string (q.extract 4 (4 + n))] 9)).heap.size = wr.heap.size + 1 := by simp
        have hB4 : Below w.heap.size w w4 := (hB.alloc hB.size _).grown hg4 (by rw [hz]; omega) (fun i e => (HR.out.lt i e).1)
        go_roundw
        case rel => exact ⟨pre ++ [q.extract 4 (4 + n)], q.extract (4 + n) q.size, rfl, HL.out.2, by have := HL.out.1; omega, by simpa using hown4, hB4⟩
        case measure => show (q.extract (4 + n) q.size).size < q.size; have := HL.out.1; omega
      · have hft : fits q = false := by unfold fits; rw [HN.out, decide_eq_true h4, decide_eq_false hf]; rfl
        have hE : Hid (partsB s = pre) := Lib.hid (by rw [HX.out, partsB_not q hft, List.append_nil])
        have hn1 : (q.size : Int) - 4 < (n : Int) := by omega
        clear hft
        go_wp2_with (go_at_call 9; refine (hget.out _).mono ?_; rintro e w1 ⟨rfl, rfl⟩)
        go_ret
        exact ⟨_, rfl, by rw [hE.out]; exact hrow, hB⟩
    · have hft : fits q = false := by unfold fits; rw [decide_eq_false h4]; rfl
      have hE : Hid (partsB s = pre) := Lib.hid (by rw [HX.out, partsB_not q hft, List.append_nil])
      have h40 : (q.size : Int) < 4 := by omega
      clear hft
      go_wp2_with fail
      go_ret
      exact ⟨_, rfl, by rw [hE.out]; exact hrow, hB⟩
end Go.Proofs.Ytioahofmjokbbaa
