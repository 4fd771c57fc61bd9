/- The contract of the document's code points. -/
import Derived.Test.YthnanmaeehobdaaURef
namespace Go.Proofs.Ythnanmaeehobdaa
open Go.RowKit
set_option linter.unusedVariables false

theorem int_info : (Try.prog.info? 3).map (fun i => (i.zero, i.size, i.bytes)) = some (some (.int .i64 0), 1, 8) := by kernel_rfl

theorem below_grown {w w' : World} (h : Below w.heap.size w w') : w.grownBy w' none := ⟨h.os, h.tape, h.output, h.size, fun k hk _ => h.block k hk⟩

/-- Two rows of one's own, in blocks apart. -/
def Two (B : Nat) (v1 v2 : Value) (rs : List (Nat × Nat)) (w : World) : Prop :=
  w.ownsRow B 3 1 v1 rs.length (rs.map fun x => .int .i64 (x.1 : Nat)) ∧ w.ownsRow B 3 1 v2 rs.length (rs.map fun x => .int .i64 (x.2 : Nat)) ∧ ∀ g, v1.ownBlock = some g → v2.ownBlock ≠ some g

theorem Two.below {B : Nat} {v1 v2 : Value} {rs : List (Nat × Nat)} {w w' : World} (h : Two B v1 v2 rs w) (hb : Below w.heap.size w w') : Two B v1 v2 rs w' :=
  ⟨h.1.kept (below_grown hb) (by cases v1.ownBlock <;> simp), h.2.1.kept (below_grown hb) (by cases v2.ownBlock <;> simp), h.2.2⟩

theorem whole_of {s : ByteArray} (pre : List (Nat × Nat)) (pos : Nat) (h : runesB s = pre ++ runesAt s.data.toList pos) (he : endOf 0 pre = pos) (hn : dec (s.data.toList.drop pos) = none) (hp : pos ≤ s.size) :
    runesB s = pre ∧ goodEnd s = pos := by
  rw [runesAt_none hn, List.append_nil] at h
  exact ⟨h, by unfold goodEnd; rw [h, he]⟩

/-- The other row is kept as the one grows. -/
theorem two_keep {B : Nat} {v1 v2 : Value} {rs : List (Nat × Nat)} {w w1 : World} {o : Obj} (h : Two B v1 v2 rs w) (hg : (w.alloc o).grownBy w1 v1.ownBlock) :
    w1.ownsRow B 3 1 v2 rs.length (rs.map fun x => .int .i64 (x.2 : Nat)) ∧ w.heap.size < w1.heap.size := by
  refine ⟨(h.2.1.alloc o).kept hg ?_, by have := hg.size; simp at this; omega⟩
  cases hb : v2.ownBlock with
  | none => exact .inl rfl
  | some g =>
    right
    intro e
    exact h.2.2 g e.symm hb

theorem two_step {B : Nat} {v1 v2 : Value} {rs : List (Nat × Nat)} {w2 w3 w4 : World} {o1 o2 : Obj} {g1 cap1 g2 cap2 pos c : Nat} {ci : Int} (h : Two B v1 v2 rs w2) (hB : B ≤ w2.heap.size)
    (s1 : w3.ownsRow B 3 1 (.slice (some ⟨g1, 0, none⟩) (rs.length + 1) cap1) (rs.length + 1) ((rs.map fun x => .int .i64 (x.1 : Nat)) ++ [.int .i64 (pos : Nat)]) ∧ (w2.alloc o1).grownBy w3 v1.ownBlock ∧ (v1.ownBlock = some g1 ∨ g1 = w2.heap.size + 1) ∧ g1 < w3.heap.size)
    (s2 : w4.ownsRow B 3 1 (.slice (some ⟨g2, 0, none⟩) (rs.length + 1) cap2) (rs.length + 1) ((rs.map fun x => .int .i64 (x.2 : Nat)) ++ [.int .i64 ci]) ∧ (w3.alloc o2).grownBy w4 v2.ownBlock ∧ (v2.ownBlock = some g2 ∨ g2 = w3.heap.size + 1) ∧ g2 < w4.heap.size)
    (hci : (c : Int) = ci) :
    Two B (.slice (some ⟨g1, 0, none⟩) (rs.length + 1) cap1) (.slice (some ⟨g2, 0, none⟩) (rs.length + 1) cap2) (rs ++ [(pos, c)]) w4 ∧ Below B w2 w4 := by
  obtain ⟨a1, a2, a3, a4⟩ := s1
  obtain ⟨b1, b2, b3, b4⟩ := s2
  have hne : v2.ownBlock ≠ some g1 := by
    rcases a3 with e | e
    · exact h.2.2 g1 e
    · intro e2
      have := (h.2.1.lt g1 e2).2
      omega
  have hz : w2.heap.size < w3.heap.size := by have := a2.size; simp at this; omega
  refine ⟨⟨?_, ?_, ?_⟩, ?_⟩
  · have k := (a1.alloc o2).kept b2 (.inr (by show (some g1 : Option Nat) ≠ _; exact fun e => hne e.symm))
    simpa using k
  · subst hci
    simpa using b1
  · intro g e e2
    have e' : g1 = g := by simpa [Value.ownBlock] using e
    have e2' : g2 = g := by simpa [Value.ownBlock] using e2
    subst e'
    rcases b3 with e3 | e3
    · exact hne (by rw [e3, e2'])
    · omega
  · have k1 : Below B w2 w3 := ((Below.refl B w2).alloc hB o1).grown a2 (by simp; omega) (fun k e => (h.1.lt k e).1)
    exact (k1.alloc (by omega) o2).grown b2 (by simp; omega) (fun k e => (h.2.1.lt k e).1)

def refRunesPost (s : ByteArray) (w : World) (e : Ending) (w' : World) : Prop := ∃ v1 v2, e = .returned (.tuple #[v1, v2, .int .i64 (badB s)]) ∧ Two w.heap.size v1 v2 (runesB s) w' ∧ Below w.heap.size w w'

set_option maxRecDepth 100000 in
set_option maxHeartbeats 4000000 in
theorem refRunes_any (s : ByteArray) (w : World) (hs : s.size ≤ 100000) :
    Calls Try.prog 8 #[.string s] w (refRunesPost s w) := by
  obtain ⟨i0, hi, hz0, hz1, hz2⟩ := info_parts int_info
  go_enter Try.func8, Try.ntmps8
  go_wp2
  go_loopw [5, 6, 7] (fun v1 v2 p wr => ∃ (pre : List (Nat × Nat)) (pos : Nat), p = .int .i64 pos ∧ runesB s = pre ++ runesAt s.data.toList pos ∧ endOf 0 pre = pos ∧ pos ≤ s.size ∧ Two w.heap.size v1 v2 pre wr ∧ Below w.heap.size w wr) (fun _ _ p _ => s.size - (intOf p).toNat)
  case atStart => exact ⟨[], 0, rfl, rfl, rfl, Nat.zero_le _, ⟨World.ownsRow_nil _ _ _ _, World.ownsRow_nil _ _ _ _, fun g h => by cases h⟩, Below.refl _ _⟩
  case round =>
    obtain ⟨pre, pos, rfl, hx, he, hp, hT, hB⟩ := hrel
    have HX := Lib.hid (And.intro hx he)
    clear hx he
    by_cases hlt : pos < s.size
    · have htl : (s.extract pos s.size).size ≤ 140737488355328 := by rw [ByteArray.size_extract]; omega
      cases hd : dec (s.data.toList.drop pos) with
      | none =>
        have HO : Hid (oneI (s.extract pos s.size) = -1) := Lib.hid (oneI_none (by rw [drop_list]; exact hd))
        have hw := whole_of pre pos HX.out.1 HX.out.2 hd hp
        have hbad : Hid (badB s = pos ∧ runesB s = pre) := Lib.hid ⟨by unfold badB whole; rw [hw.2, decide_eq_false (by omega)]; rfl, hw.1⟩
        have HT := Lib.hid hT
        clear hd hw hT
        go_wp2_with (go_at_call 19; refine (refOne_any _ _ htl).mono ?_; rintro e w2 ⟨rfl, hb2⟩; rw [HO.out])
        go_ret3
        refine ⟨u5, u6, ?_, by rw [hbad.out.2]; exact HT.out.below hb2, hB.trans (hb2.mono hB.size)⟩
        rw [hbad.out.1]
        rfl
      | some x =>
        obtain ⟨c, k⟩ := x
        have hone : oneI (s.extract pos s.size) = c := oneI_some (by rw [drop_list]; exact hd)
        have hl := dec_len hd
        obtain ⟨hv, hk, _⟩ := dec_some hd
        rw [List.length_drop] at hl
        have hsl : s.data.toList.length = s.size := by simp
        have hxx : runesB s = (pre ++ [(pos, c)]) ++ runesAt s.data.toList (pos + k) := by rw [HX.out.1, runesAt_some hd]; simp
        have hee : endOf 0 (pre ++ [(pos, c)]) = pos + k := by rw [endOf_snoc, hk]
        have hpl : pre.length < 100000 := by
          have h1 := runesB_length s
          rw [hxx] at h1
          simp at h1
          omega
        have hps : (putB (c : Int)).size = k := by rw [putB_size hv, hk]
        have hc0 : (0 : Int) ≤ (c : Int) := by omega
        have hpk : (pos : Int) + (k : Int) ≤ 100000 := by omega
        obtain ⟨ci, hci⟩ : ∃ ci : Int, (c : Int) = ci := ⟨_, rfl⟩
        rw [hci] at hone hc0 hps
        have HCI := Lib.hid hci
        clear hci
        have HPL := Lib.hid hpl
        clear hpl
        have HO := Lib.hid hone
        have HN := Lib.hid (And.intro hxx (And.intro hee (by omega : pos + k ≤ s.size ∧ 1 ≤ k)))
        have HP := Lib.hid hps
        have HT := Lib.hid hT
        clear hone hd hk hl hxx hee hT hsl hps hv
        go_wp2_with (first
          | (go_at_call 19; refine (refOne_any _ _ htl).mono ?_; rintro e w2 ⟨rfl, hb2⟩; rw [HO.out]; have HT2 := Lib.hid (HT.out.below hb2); have hB2 := hB.trans (hb2.mono hB.size); have hz2' := hB2.size)
          | (at_builtin; refine wpList_append_lies _ rfl (.tmp 22) (.tmp 24) 23 rfl w.heap.size 3 i0 (.int .i64 0) 1 8 Try.underlying23 hi hz0 hz1 hz2 rfl (by decide) _ _ _ rfl (HT2.out.1.alloc _) ⟨w2.heap.size, 0, none⟩ 1 1 [.int .i64 (pos : Nat)] rfl rfl (World.news_of_block (cs := #[.int .i64 (pos : Nat)]) (t := 3) (fr := (0, 0)) (heap_alloc_new w2 _)) (by simp [Value.oneCell']) (by omega) (by have := HPL.out; unfold maxLen; omega) (by have := HPL.out; omega) (by simp; omega) (w2.heap.size + 1) (by simp) ?_; intro g1 cap1 w3 hown1 hg1 hat1 hlt1; have ST1 : Hid (_ ∧ _ ∧ _ ∧ _) := Lib.hid ⟨hown1, hg1, hat1, hlt1⟩; clear hown1 hg1 hat1 hlt1; have H2 : Hid (w3.ownsRow w.heap.size 3 1 u6 pre.length (pre.map fun x => .int .i64 (x.2 : Nat)) ∧ w2.heap.size < w3.heap.size) := Lib.hid (two_keep HT2.out ST1.out.2.1); have hz3 := H2.out.2)
          | (at_builtin; refine wpList_append_lies _ rfl (.tmp 26) (.tmp 28) 23 rfl w.heap.size 3 i0 (.int .i64 0) 1 8 Try.underlying23 hi hz0 hz1 hz2 rfl (by decide) _ _ _ rfl (H2.out.1.alloc _) ⟨w3.heap.size, 0, none⟩ 1 1 [.int .i64 ci] rfl rfl (World.news_of_block (cs := #[.int .i64 ci]) (t := 3) (fr := (0, 0)) (heap_alloc_new w3 _)) (by simp [Value.oneCell']) (by omega) (by have := HPL.out; unfold maxLen; omega) (by have := HPL.out; omega) (by simp; omega) (w3.heap.size + 1) (by simp) ?_; intro g2 cap2 w4 hown2 hg2 hat2 hlt2; have ST2 : Hid (_ ∧ _ ∧ _ ∧ _) := Lib.hid ⟨hown2, hg2, hat2, hlt2⟩; clear hown2 hg2 hat2 hlt2)
          | (go_at_call 14; refine (refPut_any _ _).mono ?_; rintro e w5 ⟨rfl, hb5⟩; have hps := HP.out))
        go_roundw
        case rel =>
          obtain ⟨hT4, hB4⟩ := two_step HT2.out hz2' ST1.out ST2.out HCI.out
          exact ⟨pre ++ [(pos, c)], pos + k, by go_num, HN.out.1, HN.out.2.1, HN.out.2.2.1, hT4.below hb5, (hB2.trans hB4).trans (hb5.mono (by have := hB4.size; omega))⟩
        case measure => simp [intOf]; have := HN.out; omega
    · have hn : dec (s.data.toList.drop pos) = none := by rw [List.drop_of_length_le (by simp; omega)]; rfl
      have hw := whole_of pre pos HX.out.1 HX.out.2 hn hp
      have hbad : Hid (badB s = -1 ∧ runesB s = pre) := Lib.hid ⟨by unfold badB whole; rw [hw.2, decide_eq_true (by omega)]; rfl, hw.1⟩
      clear hn hw
      go_wp2_with fail
      go_ret3
      refine ⟨u5, u6, ?_, by rw [hbad.out.2]; exact hT, hB⟩
      rw [hbad.out.1]
      rfl
end Go.Proofs.Ythnanmaeehobdaa
