/- The contract of format's Of: a rule, its texts in a slice of their own. -/
import Derived.Deep.DeepCutAuto
import Derived.Test.YtheidjnapoipaaaGreatDoorFSmall
import Derived.Test.YtheidjnapoipaaaGreatDoorFStrs
import Derived.Test.YtheidjnapoipaaaGreatDoorShelfC
namespace Go.Proofs.YtheidjnapoipaaaGreatDoor
open Go.RowKit
set_option linter.unusedVariables false

theorem strs_row {w : World} {v : Value} {l : List ByteArray} {B k g : Nat} (h : w.ownsRow B 9 1 v k (l.map Value.string)) (hk : k = l.length) (hg : g < B) (cs : Array Value) : Strs (w.setRow g cs) v l := by
  subst hk
  rcases h.2 with ⟨h0, h1⟩ | ⟨g', cap, cur, hv, hgB, _, hn, hcap, _, _⟩
  · subst h0
    exact ⟨none, 0, 0, 0, by rw [h1], fun h => by omega, fun j hj => by omega⟩
  · subst hv
    have hl := h.lt g' rfl
    refine ⟨some ⟨g', 0, none⟩, cap, g', 0, rfl, fun _ => ⟨rfl, by simp; exact hl.2⟩, fun j hj => ?_⟩
    rw [Nat.zero_add]
    refine (World.cell?_of_block (setRow_other w g g' cs (by omega))).trans ?_
    rw [h.cellAt j (by omega)]
    simp [List.getD, List.getElem?_eq_getElem hj]

def OfPost (k a b : Int) (l : List ByteArray) (w : World) (e : Ending) (w' : World) : Prop := ∃ v', e = .returned (.agg #[.int .i64 k, .int .i64 a, .int .i64 b, v']) ∧ Strs w' v' l ∧ Below w.heap.size w w'
theorem rule_info : (Tryz.prog.info? 30).map (·.size) = some 4 := by kernel_rfl

set_option maxRecDepth 20000 in
set_option maxHeartbeats 1000000 in
theorem Of_any (k a b : Int) (v : Value) (l : List ByteArray) (w : World) (hv : Strs w v l) (hl : l.length ≤ 1000000) :
    Calls Tryz.prog 37 #[.int .i64 k, .int .i64 a, .int .i64 b, v] w (OfPost k a b l w) := by
  have HCL : Hid (∀ W : World, Below w.heap.size w W → Calls Tryz.prog 48 #[v] W fun e w' => ∃ v', e = .returned v' ∧ w'.ownsRow W.heap.size 9 1 v' l.length (l.map Value.string) ∧ Below W.heap.size W w') := Lib.hid fun W hW => by
    obtain ⟨a0, cap, g, off, rfl, hp, hc⟩ := hv
    by_cases h0 : l.length = 0
    · have hl0 : l = [] := List.eq_nil_of_length_eq_zero h0
      subst hl0
      cases a0 with
      | none =>
        refine (Tryz.slices_Clone_string_nil _ cap W).mono ?_
        rintro e w' ⟨rfl, rfl⟩
        exact ⟨_, rfl, World.ownsRow_nil _ _ _ _, Below.refl _ _⟩
      | some ad =>
        refine (Tryz.slices_Clone_string_zero ad cap W).mono ?_
        rintro e w' ⟨v', rfl, ho, _, hb⟩
        exact ⟨_, rfl, ho, hb⟩
    · obtain ⟨rfl, hg⟩ := hp (by omega)
      refine (Tryz.slices_Clone_string g off l.length cap l W (Nat.le_refl _) (by omega) (fun j hj => (hW.cell (p := ⟨g, off + j, none⟩) hg).trans (hc j hj))).mono ?_
      rintro e w' ⟨v', rfl, ho, _, hb⟩
      rw [List.take_length] at ho
      exact ⟨_, rfl, ho, hb⟩
  have hr : Row (w.alloc (.cells #[.int .i64 0, .int .i64 0, .int .i64 0, .slice none 0 0] 30)) w.heap.size 30 [.int .i64 0, .int .i64 0, .int .i64 0, .slice none 0 0] := Row.new w _ _
  have hb : Below w.heap.size w (w.alloc (.cells #[.int .i64 0, .int .i64 0, .int .i64 0, .slice none 0 0] 30)) := (Below.refl w.heap.size w).alloc (Nat.le_refl _) _
  have H := Lib.hid (And.intro hr hb)
  clear hr hb hv
  go_enter Tryz.func37, Tryz.ntmps37
  go_wp2_with fail
  refine (HCL.out _ H.out.2).mono ?_
  rintro e w1 ⟨v', rfl, ho, hb1⟩
  obtain ⟨p, c, rfl⟩ := own_form ho
  have hr1 := H.out.1.below hb1 (by simp)
  have hB1 := H.out.2.trans (hb1.mono (by simp))
  have hS1 := strs_row ho rfl (by simp : w.heap.size < (w.alloc (.cells #[.int .i64 0, .int .i64 0, .int .i64 0, .slice none 0 0] 30)).heap.size) #[.int .i64 k, .int .i64 a, .int .i64 b, .slice p l.length c]
  have HE := Lib.hid (And.intro hr1 (And.intro hB1 hS1))
  clear ho hb1 hr1 hB1 hS1 H
  go_wp2_with (refine wpList_store_row rfl 30 (.tmp 8) (.tmp 14) rfl w.heap.size #[.int .i64 k, .int .i64 a, .int .i64 b, .slice p l.length c] rfl rfl 30 #[.int .i64 0, .int .i64 0, .int .i64 0, .slice none 0 0] HE.out.1 rule_info rfl (by simp [Value.oneCell']) ?_)
  have hq := HE.out.1.put [.int .i64 k, .int .i64 a, .int .i64 b, .slice p l.length c]
  have hbq := below_setRow (B := w.heap.size) HE.out.2.1 (Nat.le_refl _) #[.int .i64 k, .int .i64 a, .int .i64 b, .slice p l.length c]
  refine bodyPost_ret (v := .agg #[.int .i64 k, .int .i64 a, .int .i64 b, .slice p l.length c]) (results_cell_row rfl _ _ w.heap.size 30 #[.int .i64 k, .int .i64 a, .int .i64 b, .slice p l.length c] (0, 0) _ rfl hq Tryz.underlying30 rfl rule_info) rfl ?_
  exact ⟨_, rfl, HE.out.2.2, hbq⟩
end Go.Proofs.YtheidjnapoipaaaGreatDoor
