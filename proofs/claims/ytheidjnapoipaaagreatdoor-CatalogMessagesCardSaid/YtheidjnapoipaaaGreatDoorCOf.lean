/- Rules whose texts lie beyond what was there: format's Of, the catalogue's short words for it. -/
import Derived.Test.YtheidjnapoipaaaGreatDoorFOf
import Derived.Test.YtheidjnapoipaaaGreatDoorCTab
import Derived.Laws.ResultCell
namespace Go.Proofs.YtheidjnapoipaaaGreatDoor
open Go.RowKit
set_option linter.unusedVariables false
set_option linter.unusedSimpArgs false

/-- v is a slice that holds the texts l; they lie from block B on. -/
def StrsB (B : Nat) (w : World) (v : Value) (l : List ByteArray) : Prop :=
  ∃ a0 cap b off, v = .slice a0 l.length cap ∧ (0 < l.length → a0 = some ⟨b, off, none⟩ ∧ B ≤ b ∧ b < w.heap.size) ∧ ∀ j, j < l.length → w.cell? ⟨b, off + j, none⟩ = some (.string (l.getD j ByteArray.empty))
theorem StrsB.strs {B : Nat} {w : World} {v : Value} {l : List ByteArray} (h : StrsB B w v l) : Strs w v l := by
  obtain ⟨a0, cap, b, off, h1, h2, h3⟩ := h
  exact ⟨a0, cap, b, off, h1, fun h0 => ⟨(h2 h0).1, (h2 h0).2.2⟩, h3⟩
theorem StrsB.mono {B B' : Nat} {w : World} {v : Value} {l : List ByteArray} (h : StrsB B w v l) (hB : B' ≤ B) : StrsB B' w v l := by
  obtain ⟨a0, cap, b, off, h1, h2, h3⟩ := h
  exact ⟨a0, cap, b, off, h1, fun h0 => ⟨(h2 h0).1, Nat.le_trans hB (h2 h0).2.1, (h2 h0).2.2⟩, h3⟩
/-- Whatever keeps what lies from B on keeps the texts. -/
theorem StrsB.keep {B : Nat} {w w' : World} {v : Value} {l : List ByteArray} (h : StrsB B w v l) (hs : w.heap.size ≤ w'.heap.size) (hk : ∀ k, B ≤ k → k < w.heap.size → w'.heap[k]? = w.heap[k]?) : StrsB B w' v l := by
  obtain ⟨a0, cap, b, off, h1, h2, h3⟩ := h
  refine ⟨a0, cap, b, off, h1, fun h0 => ⟨(h2 h0).1, (h2 h0).2.1, Nat.lt_of_lt_of_le (h2 h0).2.2 hs⟩, fun j hj => ?_⟩
  have h4 := (h2 (by omega)).2
  exact (World.cell?_of_block (hk b h4.1 h4.2)).trans (h3 j hj)
theorem StrsB.below {B : Nat} {w w' : World} {v : Value} {l : List ByteArray} (h : StrsB B w v l) (hb : Below w.heap.size w w') : StrsB B w' v l :=
  h.keep hb.size fun k _ hk => hb.block k hk
theorem StrsB.form {B : Nat} {w : World} {v : Value} {l : List ByteArray} (h : StrsB B w v l) : ∃ a0 cap, v = .slice a0 l.length cap := by
  obtain ⟨a0, cap, b, off, h1, h2, h3⟩ := h
  exact ⟨a0, cap, h1⟩
theorem strsB_row {w : World} {v : Value} {l : List ByteArray} {B k g : Nat} (h : w.ownsRow B 9 1 v k (l.map Value.string)) (hk : k = l.length) (hg : g < B) (cs : Array Value) : StrsB B (w.setRow g cs) v l := by
  subst hk
  rcases h.2 with ⟨h0, h1⟩ | ⟨g', cap, cur, hv, hgB, _, hn, hcap, _, _⟩
  · subst h0
    exact ⟨none, 0, 0, 0, by rw [h1], fun h => by omega, fun j hj => by omega⟩
  · subst hv
    have hl := h.lt g' rfl
    refine ⟨some ⟨g', 0, none⟩, cap, g', 0, rfl, fun _ => ⟨rfl, hgB, by simp; exact hl.2⟩, fun j hj => ?_⟩
    rw [Nat.zero_add]
    refine (World.cell?_of_block (setRow_other w g g' cs (by omega))).trans ?_
    rw [h.cellAt j (by omega)]
    simp [List.getD, List.getElem?_eq_getElem hj]
theorem strsB_setRow {w : World} {v : Value} {l : List ByteArray} {B g : Nat} (h : StrsB B w v l) (hg : g < B) (cs : Array Value) : StrsB B (w.setRow g cs) v l :=
  h.keep (by simp) fun k hk _ => setRow_other w g k cs (by omega)

theorem strs_nil0 (w : World) (a0 : Option Addr) (cap : Nat) : Strs w (.slice a0 0 cap) [] := ⟨a0, cap, 0, 0, rfl, fun h => absurd h (by simp), fun j h => absurd h (by simp)⟩
/-- A rule laid anew. -/
def RuleB (B : Nat) (r : FR) (v : Value) (W : World) : Prop := ∃ v', v = .agg #[.int .i64 r.kind, .int .i64 r.least, .int .i64 r.most, v'] ∧ StrsB B W v' r.texts
def OfPostB (k a b : Int) (l : List ByteArray) (w : World) (e : Ending) (w' : World) : Prop := ∃ v', e = .returned (.agg #[.int .i64 k, .int .i64 a, .int .i64 b, v']) ∧ StrsB (w.heap.size + 1) w' v' l ∧ Below w.heap.size w w'
def RulePost (r : FR) (w : World) (e : Ending) (w' : World) : Prop := ∃ v, e = .returned v ∧ RuleB w.heap.size r v w' ∧ Below w.heap.size w w'

set_option maxRecDepth 20000 in
set_option maxHeartbeats 1000000 in
theorem OfB_any (k a b : Int) (v : Value) (l : List ByteArray) (w : World) (hv : Strs w v l) (hl : l.length ≤ 1000000) :
    Calls Tryz.prog 37 #[.int .i64 k, .int .i64 a, .int .i64 b, v] w (OfPostB k a b l w) := by
  have HCL : Hid (∀ W : World, Below w.heap.size w W → Calls Tryz.prog 48 #[v] W fun e w' => ∃ v', e = .returned v' ∧ w'.ownsRow W.heap.size 9 1 v' l.length (l.map Value.string) ∧ Below W.heap.size W w') := Lib.hid fun W hW => by
    obtain ⟨a0, cap, g, off, rfl, hp, hc⟩ := hv
    by_cases h0 : l.length = 0
    · have hl0 : l = [] := List.eq_nil_of_length_eq_zero h0
      subst hl0
      cases a0 with
      | none =>
        refine (Tryz.slices_Clone_string_nil _ cap W).mono ?_
        rintro e w' ⟨rfl, rfl⟩
        exact ⟨_, rfl, World.ownsRow_nil _ _ _ _, Below.refl _ _⟩
      | some ad =>
        refine (Tryz.slices_Clone_string_zero ad cap W).mono ?_
        rintro e w' ⟨v', rfl, ho, _, hb⟩
        exact ⟨_, rfl, ho, hb⟩
    · obtain ⟨rfl, hg⟩ := hp (by omega)
      refine (Tryz.slices_Clone_string g off l.length cap l W (Nat.le_refl _) (by omega) (fun j hj => (hW.cell (p := ⟨g, off + j, none⟩) hg).trans (hc j hj))).mono ?_
      rintro e w' ⟨v', rfl, ho, _, hb⟩
      rw [List.take_length] at ho
      exact ⟨_, rfl, ho, hb⟩
  have hr : Row (w.alloc (.cells #[.int .i64 0, .int .i64 0, .int .i64 0, .slice none 0 0] 30)) w.heap.size 30 [.int .i64 0, .int .i64 0, .int .i64 0, .slice none 0 0] := Row.new w _ _
  have hb : Below w.heap.size w (w.alloc (.cells #[.int .i64 0, .int .i64 0, .int .i64 0, .slice none 0 0] 30)) := (Below.refl w.heap.size w).alloc (Nat.le_refl _) _
  have H := Lib.hid (And.intro hr hb)
  clear hr hb hv
  go_enter Tryz.func37, Tryz.ntmps37
  go_wp2_with fail
  refine (HCL.out _ H.out.2).mono ?_
  rintro e w1 ⟨v', rfl, ho, hb1⟩
  obtain ⟨p, c, rfl⟩ := own_form ho
  have hr1 := H.out.1.below hb1 (by simp)
  have hB1 := H.out.2.trans (hb1.mono (by simp))
  have hS1 := strsB_row ho rfl (by simp : w.heap.size < (w.alloc (.cells #[.int .i64 0, .int .i64 0, .int .i64 0, .slice none 0 0] 30)).heap.size) #[.int .i64 k, .int .i64 a, .int .i64 b, .slice p l.length c]
  rw [World.size_alloc] at hS1
  have HE := Lib.hid (And.intro hr1 (And.intro hB1 hS1))
  clear ho hb1 hr1 hB1 hS1 H
  go_wp2_with (refine wpList_store_row rfl 30 (.tmp 8) (.tmp 14) rfl w.heap.size #[.int .i64 k, .int .i64 a, .int .i64 b, .slice p l.length c] rfl rfl 30 #[.int .i64 0, .int .i64 0, .int .i64 0, .slice none 0 0] HE.out.1 rule_info rfl (by simp [Value.oneCell']) ?_)
  have hq := HE.out.1.put [.int .i64 k, .int .i64 a, .int .i64 b, .slice p l.length c]
  have hbq := below_setRow (B := w.heap.size) HE.out.2.1 (Nat.le_refl _) #[.int .i64 k, .int .i64 a, .int .i64 b, .slice p l.length c]
  refine bodyPost_ret (v := .agg #[.int .i64 k, .int .i64 a, .int .i64 b, .slice p l.length c]) (results_cell_row rfl _ _ w.heap.size 30 #[.int .i64 k, .int .i64 a, .int .i64 b, .slice p l.length c] (0, 0) _ rfl hq Tryz.underlying30 rfl rule_info) rfl ?_
  exact ⟨_, rfl, HE.out.2.2, hbq⟩

set_option maxRecDepth 20000 in
set_option maxHeartbeats 1000000 in
theorem among_any (v : Value) (l : List ByteArray) (w : World) (hv : Strs w v l) (hl : l.length ≤ 1000000) :
    Calls Tryz.prog 35 #[v] w (RulePost ⟨4, 0, 0, l⟩ w) := by
  have hr : Row (w.alloc (.cells #[.int .i64 0, .int .i64 0, .int .i64 0, .slice none 0 0] 30)) w.heap.size 30 [.int .i64 0, .int .i64 0, .int .i64 0, .slice none 0 0] := Row.new w _ _
  have hb : Below w.heap.size w (w.alloc (.cells #[.int .i64 0, .int .i64 0, .int .i64 0, .slice none 0 0] 30)) := (Below.refl w.heap.size w).alloc (Nat.le_refl _) _
  have HC := OfB_any 4 0 0 v l (w.alloc (.cells #[.int .i64 0, .int .i64 0, .int .i64 0, .slice none 0 0] 30)) (hv.below (Nat.le_refl _) hb) hl
  rw [show OfPostB 4 0 0 l (w.alloc (.cells #[.int .i64 0, .int .i64 0, .int .i64 0, .slice none 0 0] 30)) = fun e w' => ∃ v', e = .returned (.agg #[.int .i64 4, .int .i64 0, .int .i64 0, v']) ∧ StrsB ((w.alloc (.cells #[.int .i64 0, .int .i64 0, .int .i64 0, .slice none 0 0] 30)).heap.size + 1) w' v' l ∧ Below (w.alloc (.cells #[.int .i64 0, .int .i64 0, .int .i64 0, .slice none 0 0] 30)).heap.size (w.alloc (.cells #[.int .i64 0, .int .i64 0, .int .i64 0, .slice none 0 0] 30)) w' from rfl] at HC
  have H := Lib.hid (And.intro hr hb)
  clear hr hb hv
  go_enter Tryz.func35, Tryz.ntmps35
  go_wp2_with fail
  refine HC.mono ?_
  rintro e w1 ⟨v', rfl, hS, hb1⟩
  obtain ⟨p, c, hv'⟩ := hS.form
  have hr1 := H.out.1.below hb1 (by simp)
  have hB1 := H.out.2.trans (hb1.mono (by simp))
  have hS1 := strsB_setRow (hS.mono (show w.heap.size + 1 ≤ _ by simp)) (by omega : w.heap.size < w.heap.size + 1) #[.int .i64 4, .int .i64 0, .int .i64 0, v']
  have hone : (#[.int .i64 4, .int .i64 0, .int .i64 0, v'] : Array Value).all Value.oneCell' = true := by rw [hv']; simp [Value.oneCell']
  have HE := Lib.hid (And.intro hr1 (And.intro hB1 hS1))
  have HO := Lib.hid hone
  clear hS hb1 hr1 hB1 hS1 H hv' hone HC
  go_wp2_with (refine wpList_store_row rfl 30 (.tmp 2) (.tmp 4) rfl w.heap.size #[.int .i64 4, .int .i64 0, .int .i64 0, v'] rfl rfl 30 #[.int .i64 0, .int .i64 0, .int .i64 0, .slice none 0 0] HE.out.1 rule_info rfl HO.out ?_)
  have hq := HE.out.1.put [.int .i64 4, .int .i64 0, .int .i64 0, v']
  have hbq := below_setRow (B := w.heap.size) HE.out.2.1 (Nat.le_refl _) #[.int .i64 4, .int .i64 0, .int .i64 0, v']
  refine bodyPost_ret (v := .agg #[.int .i64 4, .int .i64 0, .int .i64 0, v']) (results_cell_row rfl _ _ w.heap.size 30 #[.int .i64 4, .int .i64 0, .int .i64 0, v'] (0, 0) _ rfl hq Tryz.underlying30 rfl rule_info) rfl ?_
  exact ⟨_, rfl, ⟨_, rfl, HE.out.2.2.mono (by omega)⟩, hbq⟩

set_option maxRecDepth 20000 in
set_option maxHeartbeats 1000000 in
theorem cplain_any (k : Int) (w : World) :
    Calls Tryz.prog 36 #[.int .i64 k] w (RulePost ⟨k, 0, 0, []⟩ w) := by
  have hr : Row (w.alloc (.cells #[.int .i64 0, .int .i64 0, .int .i64 0, .slice none 0 0] 30)) w.heap.size 30 [.int .i64 0, .int .i64 0, .int .i64 0, .slice none 0 0] := Row.new w _ _
  have hb : Below w.heap.size w (w.alloc (.cells #[.int .i64 0, .int .i64 0, .int .i64 0, .slice none 0 0] 30)) := (Below.refl w.heap.size w).alloc (Nat.le_refl _) _
  have HC := OfB_any k 0 0 (.slice none 0 0) [] (w.alloc (.cells #[.int .i64 0, .int .i64 0, .int .i64 0, .slice none 0 0] 30)) (strs_nil0 _ none 0) (by simp)
  rw [show OfPostB k 0 0 [] (w.alloc (.cells #[.int .i64 0, .int .i64 0, .int .i64 0, .slice none 0 0] 30)) = fun e w' => ∃ v', e = .returned (.agg #[.int .i64 k, .int .i64 0, .int .i64 0, v']) ∧ StrsB ((w.alloc (.cells #[.int .i64 0, .int .i64 0, .int .i64 0, .slice none 0 0] 30)).heap.size + 1) w' v' [] ∧ Below (w.alloc (.cells #[.int .i64 0, .int .i64 0, .int .i64 0, .slice none 0 0] 30)).heap.size (w.alloc (.cells #[.int .i64 0, .int .i64 0, .int .i64 0, .slice none 0 0] 30)) w' from rfl] at HC
  have H := Lib.hid (And.intro hr hb)
  clear hr hb
  go_enter Tryz.func36, Tryz.ntmps36
  go_wp2_with fail
  refine HC.mono ?_
  rintro e w1 ⟨v', rfl, hS, hb1⟩
  obtain ⟨p, c, hv'⟩ := hS.form
  have hr1 := H.out.1.below hb1 (by simp)
  have hB1 := H.out.2.trans (hb1.mono (by simp))
  have hS1 := strsB_setRow (hS.mono (show w.heap.size + 1 ≤ _ by simp)) (by omega : w.heap.size < w.heap.size + 1) #[.int .i64 k, .int .i64 0, .int .i64 0, v']
  have hone : (#[.int .i64 k, .int .i64 0, .int .i64 0, v'] : Array Value).all Value.oneCell' = true := by rw [hv']; simp [Value.oneCell']
  have HE := Lib.hid (And.intro hr1 (And.intro hB1 hS1))
  have HO := Lib.hid hone
  clear hS hb1 hr1 hB1 hS1 H hv' hone HC
  go_wp2_with (refine wpList_store_row rfl 30 (.tmp 2) (.tmp 4) rfl w.heap.size #[.int .i64 k, .int .i64 0, .int .i64 0, v'] rfl rfl 30 #[.int .i64 0, .int .i64 0, .int .i64 0, .slice none 0 0] HE.out.1 rule_info rfl HO.out ?_)
  have hq := HE.out.1.put [.int .i64 k, .int .i64 0, .int .i64 0, v']
  have hbq := below_setRow (B := w.heap.size) HE.out.2.1 (Nat.le_refl _) #[.int .i64 k, .int .i64 0, .int .i64 0, v']
  refine bodyPost_ret (v := .agg #[.int .i64 k, .int .i64 0, .int .i64 0, v']) (results_cell_row rfl _ _ w.heap.size 30 #[.int .i64 k, .int .i64 0, .int .i64 0, v'] (0, 0) _ rfl hq Tryz.underlying30 rfl rule_info) rfl ?_
  exact ⟨_, rfl, ⟨_, rfl, HE.out.2.2.mono (by omega)⟩, hbq⟩

set_option maxRecDepth 20000 in
set_option maxHeartbeats 1000000 in
theorem cfigures_any (n : Int) (w : World) :
    Calls Tryz.prog 38 #[.int .i64 n] w (RulePost ⟨1, n, n, []⟩ w) := by
  have hr : Row (w.alloc (.cells #[.int .i64 0, .int .i64 0, .int .i64 0, .slice none 0 0] 30)) w.heap.size 30 [.int .i64 0, .int .i64 0, .int .i64 0, .slice none 0 0] := Row.new w _ _
  have hb : Below w.heap.size w (w.alloc (.cells #[.int .i64 0, .int .i64 0, .int .i64 0, .slice none 0 0] 30)) := (Below.refl w.heap.size w).alloc (Nat.le_refl _) _
  have HC := OfB_any 1 n n (.slice none 0 0) [] (w.alloc (.cells #[.int .i64 0, .int .i64 0, .int .i64 0, .slice none 0 0] 30)) (strs_nil0 _ none 0) (by simp)
  rw [show OfPostB 1 n n [] (w.alloc (.cells #[.int .i64 0, .int .i64 0, .int .i64 0, .slice none 0 0] 30)) = fun e w' => ∃ v', e = .returned (.agg #[.int .i64 1, .int .i64 n, .int .i64 n, v']) ∧ StrsB ((w.alloc (.cells #[.int .i64 0, .int .i64 0, .int .i64 0, .slice none 0 0] 30)).heap.size + 1) w' v' [] ∧ Below (w.alloc (.cells #[.int .i64 0, .int .i64 0, .int .i64 0, .slice none 0 0] 30)).heap.size (w.alloc (.cells #[.int .i64 0, .int .i64 0, .int .i64 0, .slice none 0 0] 30)) w' from rfl] at HC
  have H := Lib.hid (And.intro hr hb)
  clear hr hb
  go_enter Tryz.func38, Tryz.ntmps38
  go_wp2_with fail
  refine HC.mono ?_
  rintro e w1 ⟨v', rfl, hS, hb1⟩
  obtain ⟨p, c, hv'⟩ := hS.form
  have hr1 := H.out.1.below hb1 (by simp)
  have hB1 := H.out.2.trans (hb1.mono (by simp))
  have hS1 := strsB_setRow (hS.mono (show w.heap.size + 1 ≤ _ by simp)) (by omega : w.heap.size < w.heap.size + 1) #[.int .i64 1, .int .i64 n, .int .i64 n, v']
  have hone : (#[.int .i64 1, .int .i64 n, .int .i64 n, v'] : Array Value).all Value.oneCell' = true := by rw [hv']; simp [Value.oneCell']
  have HE := Lib.hid (And.intro hr1 (And.intro hB1 hS1))
  have HO := Lib.hid hone
  clear hS hb1 hr1 hB1 hS1 H hv' hone HC
  go_wp2_with (refine wpList_store_row rfl 30 (.tmp 2) (.tmp 5) rfl w.heap.size #[.int .i64 1, .int .i64 n, .int .i64 n, v'] rfl rfl 30 #[.int .i64 0, .int .i64 0, .int .i64 0, .slice none 0 0] HE.out.1 rule_info rfl HO.out ?_)
  have hq := HE.out.1.put [.int .i64 1, .int .i64 n, .int .i64 n, v']
  have hbq := below_setRow (B := w.heap.size) HE.out.2.1 (Nat.le_refl _) #[.int .i64 1, .int .i64 n, .int .i64 n, v']
  refine bodyPost_ret (v := .agg #[.int .i64 1, .int .i64 n, .int .i64 n, v']) (results_cell_row rfl _ _ w.heap.size 30 #[.int .i64 1, .int .i64 n, .int .i64 n, v'] (0, 0) _ rfl hq Tryz.underlying30 rfl rule_info) rfl ?_
  exact ⟨_, rfl, ⟨_, rfl, HE.out.2.2.mono (by omega)⟩, hbq⟩

set_option maxRecDepth 20000 in
set_option maxHeartbeats 1000000 in
theorem ctext_any (a b : Int) (w : World) :
    Calls Tryz.prog 39 #[.int .i64 a, .int .i64 b] w (RulePost ⟨2, a, b, []⟩ w) := by
  have hr : Row (w.alloc (.cells #[.int .i64 0, .int .i64 0, .int .i64 0, .slice none 0 0] 30)) w.heap.size 30 [.int .i64 0, .int .i64 0, .int .i64 0, .slice none 0 0] := Row.new w _ _
  have hb : Below w.heap.size w (w.alloc (.cells #[.int .i64 0, .int .i64 0, .int .i64 0, .slice none 0 0] 30)) := (Below.refl w.heap.size w).alloc (Nat.le_refl _) _
  have HC := OfB_any 2 a b (.slice none 0 0) [] (w.alloc (.cells #[.int .i64 0, .int .i64 0, .int .i64 0, .slice none 0 0] 30)) (strs_nil0 _ none 0) (by simp)
  rw [show OfPostB 2 a b [] (w.alloc (.cells #[.int .i64 0, .int .i64 0, .int .i64 0, .slice none 0 0] 30)) = fun e w' => ∃ v', e = .returned (.agg #[.int .i64 2, .int .i64 a, .int .i64 b, v']) ∧ StrsB ((w.alloc (.cells #[.int .i64 0, .int .i64 0, .int .i64 0, .slice none 0 0] 30)).heap.size + 1) w' v' [] ∧ Below (w.alloc (.cells #[.int .i64 0, .int .i64 0, .int .i64 0, .slice none 0 0] 30)).heap.size (w.alloc (.cells #[.int .i64 0, .int .i64 0, .int .i64 0, .slice none 0 0] 30)) w' from rfl] at HC
  have H := Lib.hid (And.intro hr hb)
  clear hr hb
  go_enter Tryz.func39, Tryz.ntmps39
  go_wp2_with fail
  refine HC.mono ?_
  rintro e w1 ⟨v', rfl, hS, hb1⟩
  obtain ⟨p, c, hv'⟩ := hS.form
  have hr1 := H.out.1.below hb1 (by simp)
  have hB1 := H.out.2.trans (hb1.mono (by simp))
  have hS1 := strsB_setRow (hS.mono (show w.heap.size + 1 ≤ _ by simp)) (by omega : w.heap.size < w.heap.size + 1) #[.int .i64 2, .int .i64 a, .int .i64 b, v']
  have hone : (#[.int .i64 2, .int .i64 a, .int .i64 b, v'] : Array Value).all Value.oneCell' = true := by rw [hv']; simp [Value.oneCell']
  have HE := Lib.hid (And.intro hr1 (And.intro hB1 hS1))
  have HO := Lib.hid hone
  clear hS hb1 hr1 hB1 hS1 H hv' hone HC
  go_wp2_with (refine wpList_store_row rfl 30 (.tmp 4) (.tmp 7) rfl w.heap.size #[.int .i64 2, .int .i64 a, .int .i64 b, v'] rfl rfl 30 #[.int .i64 0, .int .i64 0, .int .i64 0, .slice none 0 0] HE.out.1 rule_info rfl HO.out ?_)
  have hq := HE.out.1.put [.int .i64 2, .int .i64 a, .int .i64 b, v']
  have hbq := below_setRow (B := w.heap.size) HE.out.2.1 (Nat.le_refl _) #[.int .i64 2, .int .i64 a, .int .i64 b, v']
  refine bodyPost_ret (v := .agg #[.int .i64 2, .int .i64 a, .int .i64 b, v']) (results_cell_row rfl _ _ w.heap.size 30 #[.int .i64 2, .int .i64 a, .int .i64 b, v'] (0, 0) _ rfl hq Tryz.underlying30 rfl rule_info) rfl ?_
  exact ⟨_, rfl, ⟨_, rfl, HE.out.2.2.mono (by omega)⟩, hbq⟩

theorem OfR_any (k a b : Int) (v : Value) (l : List ByteArray) (w : World) (hv : Strs w v l) (hl : l.length ≤ 1000000) :
    Calls Tryz.prog 37 #[.int .i64 k, .int .i64 a, .int .i64 b, v] w (RulePost ⟨k, a, b, l⟩ w) :=
  (OfB_any k a b v l w hv hl).mono fun e w' ⟨v', he, hs, hb⟩ => ⟨_, he, ⟨v', rfl, hs.mono (by omega)⟩, hb⟩
/-- The names, and none at nought. -/
def msgsV : List Value := .string ⟨#[]⟩ :: msgL.map Value.string
set_option maxHeartbeats 1000000 in
theorem Messages_any (w : World) :
    Calls Tryz.prog 12 #[] w fun e w' => e = .returned (.agg msgsV.toArray) ∧ Below w.heap.size w w' := by
  go_enter Tryz.func12, Tryz.ntmps12
  go_wp2
  exact bodyPost_ret (v := .agg msgsV.toArray) (by simp [results, Tryz.results12, go_sem]; rfl) rfl ⟨rfl, (Below.refl _ _).alloc (Nat.le_refl _) _⟩
end Go.Proofs.YtheidjnapoipaaaGreatDoor
