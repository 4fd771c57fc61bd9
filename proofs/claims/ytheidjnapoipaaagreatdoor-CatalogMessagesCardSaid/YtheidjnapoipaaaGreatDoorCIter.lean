/- The catalogue's fields gone through: the iterator's contract. -/
import Derived.Test.YtheidjnapoipaaaGreatDoorCFlds
import Derived.Test.YtheidjnapoipaaaGreatDoorLoopR
import Derived.OwnWalkIn
import Derived.LoopNIn
import Derived.LoopIn
import Derived.Lib.OthersKept
import Derived.Shelf.Abstract
import Derived.TacticsInMore
namespace Go.Proofs.YtheidjnapoipaaaGreatDoor
open Go.RowKit
set_option linter.unusedVariables false
set_option linter.unusedSimpArgs false

/-- What comes: a field's number and the field. -/
def EncF (B : Nat) (x : Nat × FD) (av : Array Value) (W : World) : Prop := ∃ v, av = #[.int .i64 x.1, .agg (fieldC x.2 v).toArray] ∧ StrsB B W v x.2.rule.texts
def fullF : List (Nat × FD) := (List.range 32).map fun i => (i, tblF.getD i fd0)
theorem fullF_take (k : Nat) (hk : k < 32) : fullF.take k ++ [(k, tblF.getD k fd0)] = fullF.take (k + 1) := by
  rw [List.take_add_one]
  congr 1
  have : fullF[k]? = some (k, tblF.getD k fd0) := by
    unfold fullF
    rw [List.getElem?_map, List.getElem?_range hk]
    rfl
  rw [this]
  rfl
theorem fullF_length : fullF.length = 32 := by unfold fullF; simp
theorem fieldC_length (f : FD) (v : Value) : (fieldC f v).length = 6 := rfl
theorem tabV_get : ∀ (fs : List FD) (vs : List Value) (k j : Nat), j < 6 → k < fs.length → k < vs.length → (tabV fs vs)[k * 6 + j]? = (fieldC (fs.getD k fd0) (vs.getD k undef))[j]?
  | f :: fs, v :: vs, 0, j, hj, _, _ => by
    rw [tabV, Nat.zero_mul, Nat.zero_add, List.getElem?_append_left (by rw [fieldC_length]; exact hj)]
    rfl
  | f :: fs, v :: vs, k + 1, j, hj, h1, h2 => by
    rw [tabV, List.getElem?_append_right (by rw [fieldC_length]; omega), fieldC_length, show (k + 1) * 6 + j - 6 = k * 6 + j by omega,
      tabV_get fs vs k j hj (by simpa using h1) (by simpa using h2)]
    rfl
  | [], _, k, j, hj, h1, _ => by simp at h1
  | _ :: _, [], k, j, hj, _, h2 => by simp at h2
theorem FTab.keep {B g : Nat} {W W' : World} (h : FTab B g W) (hs : W.heap.size ≤ W'.heap.size) (hg : B ≤ g) (hk : ∀ k, B ≤ k → k < W.heap.size → W'.heap[k]? = W.heap[k]?) : FTab B g W' := by
  obtain ⟨vs, hl, hr, hx⟩ := h
  exact ⟨vs, hl, (hk g hg hr.lt).trans hr, fun i hi => (hx i hi).keep hs hk⟩
/-- A field of the table, its cells, its texts. -/
theorem FTab.at {B g : Nat} {W : World} (h : FTab B g W) (k : Nat) (hk : k < 32) : ∃ v, (∀ j, j < 6 → W.cell? ⟨g, k * 6 + j, none⟩ = (fieldC (tblF.getD k fd0) v)[j]?) ∧ StrsB B W v (tblF.getD k fd0).rule.texts := by
  obtain ⟨vs, hl, hr, hx⟩ := h
  exact ⟨vs.getD k undef, fun j hj => by rw [hr.cell, tabV_get tblF vs k j hj (by rw [tblF_length]; exact hk) (by omega)], hx k hk⟩
/-- What stands while the fields are gone through: the blocks laid at the call. -/
def HeldF (T : World → Nat → Prop) (B : Nat) (w1 wr : World) : Prop := w1.heap.size ≤ wr.heap.size ∧ ∀ b, B ≤ b → b < w1.heap.size → wr.heap[b]? = w1.heap[b]? ∧ ¬ T wr b
theorem HeldF.step {T : World → Nat → Prop} {B : Nat} {w1 wr w3 : World} (h : HeldF T B w1 wr) (k : KeepsT T wr w3) : HeldF T B w1 w3 :=
  ⟨Nat.le_trans h.1 k.1, fun b hb hl => by
    obtain ⟨e1, n1⟩ := h.2 b hb hl
    obtain ⟨e2, n2⟩ := k.2 b (Nat.lt_of_lt_of_le hl h.1) n1
    exact ⟨e2.trans e1, n2⟩⟩

set_option maxRecDepth 100000 in
set_option maxHeartbeats 4000000 in
theorem Fields_stops (n : Nat) (hn : 1 ≤ n) (K : Obj → Prop) (w : World) :
    StopsR Fence.wide n Tryz.prog 23 #[] EncF K (fun _ => False) fullF w := by
  intro y T J Jx W hW hsz hJ hJx hLT hTJ hS hY h0
  have HF := Lib.hid (fun W => fields_any W)
  have HJ := Lib.hid hJ
  have HY := Lib.hid hY
  have HLT := Lib.hid hLT
  have HT0 := Lib.hid (hTJ [] W h0)
  have H0 := Lib.hid h0
  clear hW hJ hY hLT hTJ h0 hJx
  refine callsIn_of_wp Tryz.func23 rfl trivial ?_ rfl
  simp only [Tryz.ntmps23, List.size_toArray, List.length_cons, List.length_nil, Nat.reduceAdd, Nat.reduceSub, Array.replicate_succ, Array.replicate_zero, List.push_toArray, List.append_toArray, List.nil_append, List.cons_append]
  gi_wp2_with fail
  refine ⟨trivial, (callsIn_wide.2 (HF.out _)).mono ?_⟩
  rintro e w1 ⟨g, rfl, hg, hT, hb⟩
  have HI0 : Hid (HeldF T W.heap.size w1 w1 ∧ J [] w1) := Lib.hid ⟨⟨Nat.le_refl _, fun b hB hl => ⟨rfl, fun ht => by
    have := (HT0.out b (HLT.out W w1 (fun k hk => hb.block k hk) b ht)).1
    omega⟩⟩, HJ.out.grown hb H0.out⟩
  have HT := Lib.hid hT
  have hz1 := hb.size
  clear hb H0 HT0 HF hT
  gi_wp2_with fail
  gi_loopw [6] (fun x wr => ∃ k : Nat, x = .int .i64 k ∧ k ≤ 32 ∧ Hid (HeldF T W.heap.size w1 wr ∧ J (fullF.take k) wr)) (fun x _ => 32 - (intOf x).toNat)
  case atStart => exact ⟨0, by go_num, by omega, HI0⟩
  case round =>
    obtain ⟨k, rfl, hk, HI⟩ := hrel
    clear HI0
    by_cases hlt : k < 32
    · have hltI : (k : Int) < 32 := by omega
      obtain ⟨v, hc, hs⟩ := (HT.out.keep HI.out.1.1 hg fun b hB hl => (HI.out.1.2 b hB hl).1).at k hlt
      have hpre := fullF_take k hlt
      obtain ⟨f, hf⟩ : ∃ f, tblF.getD k fd0 = f := ⟨_, rfl⟩
      rw [hf] at hc hs hpre
      obtain ⟨a0, cap, rfl⟩ := hs.form
      have c0 := hc 0 (by omega)
      have c1 := hc 1 (by omega)
      have c2 := hc 2 (by omega)
      have c3 := hc 3 (by omega)
      have c4 := hc 4 (by omega)
      have c5 := hc 5 (by omega)
      simp only [fieldC, List.getElem?_cons_zero, List.getElem?_cons_succ, Nat.add_zero] at c0 c1 c2 c3 c4 c5
      obtain ⟨wr2, hwr2⟩ : ∃ wr2, Hid (wr.alloc (.cells #[.string f.name, .int .i64 f.rule.kind, .int .i64 f.rule.least, .int .i64 f.rule.most, .slice a0 f.rule.texts.length cap, .string f.inn] 32) = wr2) := ⟨_, Lib.hid rfl⟩
      have hab : Below wr.heap.size wr wr2 := by rw [← hwr2.out]; exact (Below.refl _ _).alloc (Nat.le_refl _) _
      have J2 := HJ.out.grown hab HI.out.2
      have hzr := HI.out.1.1
      have K2 : KeepsT T wr wr2 := keepsT_below HLT.out (by omega) hab
      have hz2 := hab.size
      obtain ⟨fn, tmps, assign, body, hy, hRd⟩ := HY.out (fullF.take k) (k, f) #[.int .i64 k, .agg (fieldC f (.slice a0 f.rule.texts.length cap)).toArray] wr2 J2 (by rw [hpre]; exact List.take_prefix _ _) (by omega) ⟨_, rfl, hs.below hab⟩
      change (Instr.yield y #[.int .i64 k, .agg #[.string f.name, .int .i64 f.rule.kind, .int .i64 f.rule.least, .int .i64 f.rule.most, .slice a0 f.rule.texts.length cap, .string f.inn]]).run Tryz.prog _ = _ at hy
      rw [← hwr2.out] at hy
      have HRd := Lib.hid hRd
      have HS2 := Lib.hid (HI.out.1.step K2)
      rw [hpre] at HRd
      clear hRd J2 hs hc K2 hab
      gi_wp2_with fail
      rw [hwr2.out]
      refine HRd.out.mono ?_
      rintro e W5 (⟨rfl, hJ5, hk5⟩ | ⟨rfl, hJx5, hk5⟩)
      · have HI5 := Lib.hid (And.intro (HS2.out.step hk5) hJ5)
        clear hJ5 hk5 c0 c1 c2 c3 c4 c5
        gi_wp2
        go_roundw
        case rel => exact ⟨k + 1, by go_num, by omega, HI5⟩
        case measure => simp [intOf]; omega
      · have hp : fullF.take (k + 1) <+: fullF := List.take_prefix _ _
        clear hk5 c0 c1 c2 c3 c4 c5
        gi_wp2
        exact bodyPost_ret (results_none rfl _ _ _) rfl ⟨⟨_, rfl⟩, .inr ⟨_, hp, hJx5⟩⟩
    · have hge : ¬ (k : Int) < 32 := by omega
      have hfull : fullF.take k = fullF := List.take_of_length_le (by rw [fullF_length]; omega)
      have hJf := HI.out.2
      rw [hfull] at hJf
      have HJf := Lib.hid hJf
      clear hJf hfull
      gi_wp2
      go_end0
      exact ⟨⟨_, rfl⟩, .inl HJf.out⟩
end Go.Proofs.YtheidjnapoipaaaGreatDoor
