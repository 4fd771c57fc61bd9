/- The catalogue's fields, laid anew in a row: each as the table's, its texts beyond what was there. -/
import Derived.Test.YtheidjnapoipaaaGreatDoorCOf
import Derived.Test.YtheidjnapoipaaaGreatDoorSlots
import Derived.Great.BuildSlice
namespace Go.Proofs.YtheidjnapoipaaaGreatDoor
open Go.RowKit
set_option linter.unusedVariables false
set_option linter.unusedSimpArgs false

def fd0 : FD := ⟨⟨#[]⟩, ⟨0, 0, 0, []⟩, ⟨#[]⟩⟩
/-- A field's cells. -/
def fieldC (f : FD) (v : Value) : List Value := [.string f.name, .int .i64 f.rule.kind, .int .i64 f.rule.least, .int .i64 f.rule.most, v, .string f.inn]
theorem wp_region_slotsF {P : Program} {ops : Array Oper} {Q : Exit → Act → World → Prop} {id m : Nat} {a0 : Act} {w : World} (tl : List Nat) (hm : P.follows .mixedOrders = true) (R : Nat → Value → World → Prop) (C : World → Prop) (h : okS .any ops m a0.tmps.size = true) (htl : List.range' m (ops.size - m) = tl)
    (hmono : ∀ i v W W', R i v W → Below W.heap.size W W' → R i v W') (hC : C w.drew)
    (hstep : stepsL P ops a0 R C (ops.toList.take m) 0)
    (hend : ∀ vals w, C w → (∀ i, i < m → R i (vals i) w) → wpOps P ops Q tl (finalS a0 ops m vals) w) : (Code.region id ops true).wp P Q a0 w :=
  wp_region_slots hm R C h hmono hC (fun i o hi ho vals w hC hd => by
    have := stepsL_get _ 0 hstep i o (by rw [List.getElem?_take_of_lt hi, Array.getElem?_toList]; exact ho) vals w hC hd
    rwa [Nat.zero_add] at this) (fun vals w hC hR => by rw [htl]; exact hend vals w hC hR)
theorem finalS_eval {a0 : Act} {ops : Array Oper} {m : Nat} {vals : Nat → Value} {t i : Nat} (hs : slotOf ops t = some i) (hi : i < m) (ht : t < a0.tmps.size) : (finalS a0 ops m vals).eval (.tmp t) = vals i := by
  show (finalS a0 ops m vals).tmps.getD t undef = _
  unfold finalS
  simp only [Array.getD_eq_getD_getElem?, Array.getElem?_mapIdx, Array.getElem?_eq_getElem ht, Option.map_some, Option.getD_some, hs, if_pos hi]
theorem finalS_size {a0 : Act} {ops : Array Oper} {m : Nat} {vals : Nat → Value} : (finalS a0 ops m vals).tmps.size = a0.tmps.size := by
  unfold finalS
  rw [Array.size_mapIdx]
theorem finalS_defers {a0 : Act} {ops : Array Oper} {m : Nat} {vals : Nat → Value} : (finalS a0 ops m vals).defers = a0.defers := rfl
theorem act_gen {a : Act} {n : Nat} {K : Act → Prop} (hd : a.defers = []) (hs : a.tmps.size = n) (h : ∀ tm : Array Value, tm.size = n → K { tmps := tm, defers := [] }) : K a := by
  obtain ⟨tm, df⟩ := a
  obtain rfl : df = [] := hd
  exact h tm hs
theorem getD_put0 (tm : Array Value) (v : Value) (h : 0 < tm.size) : (tm.setIfInBounds 0 v).getD 0 undef = v := by
  simp [h]
theorem wpOps_last {P : Program} {ops : Array Oper} {Q : Exit → Act → World → Prop} {k : Nat} {a : Act} {w : World} {d : Tmp} {x : Operand} {o : Oper} (ho : ops[k]? = some o) (hq : o.guard = none ∧ o.op = .assign x ∧ o.dst = some d)
    {v : Value} (hv : a.eval x = v) (h : Q .normal (a.put (some d) v) w) : wpOps P ops Q [k] a w := by
  subst hv
  obtain ⟨hg, hop, hd⟩ := hq
  rw [wpOps_cons]
  unfold wpOp
  rw [ho]
  dsimp only
  rw [if_pos (by unfold Region.wanted; rw [hg])]
  refine .inl ?_
  unfold Oper.wp execOp
  rw [hop]
  show wpOps P ops Q [] (a.put o.dst (a.eval x)) w
  rw [hd]
  exact h
/-- The table laid: its fields, where their texts are. -/
def tabV : List FD → List Value → List Value
  | f :: fs, v :: vs => fieldC f v ++ tabV fs vs
  | _, _ => []
def FTab (B g : Nat) (W : World) : Prop := ∃ vs : List Value, vs.length = 32 ∧ Row W g 32 (tabV tblF vs) ∧ ∀ i, i < 32 → StrsB B W (vs.getD i undef) (tblF.getD i fd0).rule.texts
theorem FTab.below {B g : Nat} {W W' : World} (h : FTab B g W) (hb : Below W.heap.size W W') : FTab B g W' := by
  obtain ⟨vs, hl, hr, hs⟩ := h
  exact ⟨vs, hl, hr.below hb hr.lt, fun i hi => (hs i hi).below hb⟩
/-- What an operation leaves: texts, a rule, a field, the table. -/
inductive SP where
  | txt (l : List ByteArray)
  | rule (r : FR)
  | fld (f : FD)
  | tab
def RS (B : Nat) : SP → Value → World → Prop
  | .txt l, v, W => StrsB B W v l
  | .rule r, v, W => RuleB B r v W
  | .fld f, v, W => ∃ v', v = .agg (fieldC f v').toArray ∧ StrsB B W v' f.rule.texts
  | .tab, v, W => ∃ g, v = .slice (some ⟨g, 0, none⟩) 32 32 ∧ B ≤ g ∧ FTab B g W
theorem RS.below {B : Nat} {s : SP} {v : Value} {W W' : World} (h : RS B s v W) (hb : Below W.heap.size W W') : RS B s v W' := by
  cases s with
  | txt l => exact StrsB.below h hb
  | rule r => obtain ⟨v', e, h⟩ := h; exact ⟨v', e, h.below hb⟩
  | fld f => obtain ⟨v', e, h⟩ := h; exact ⟨v', e, h.below hb⟩
  | tab => obtain ⟨g, e, hg, h⟩ := h; exact ⟨g, e, hg, h.below hb⟩
theorem rule_post {B : Nat} {r : FR} {w : World} {C : World → Prop} (hB : B ≤ w.heap.size) (hC : ∀ w', Below w.heap.size w w' → C w') :
    ∀ e w', RulePost r w e w' → ∃ v, e = .returned v ∧ RS B (.rule r) v w' ∧ C w' ∧ Below w.heap.size w w' := by
  rintro e w' ⟨v, he, ⟨v', hv, hs⟩, hb⟩
  exact ⟨v, he, ⟨v', hv, hs.mono hB⟩, hC _ hb, hb⟩
theorem strsB_new {B : Nat} (W : World) (hB : B ≤ W.heap.size) (l : List ByteArray) : StrsB B (W.alloc (.cells (l.map Value.string).toArray 9)) (.slice (some ⟨W.heap.size, 0, none⟩) l.length l.length) l := by
  refine ⟨_, _, W.heap.size, 0, rfl, fun _ => ⟨rfl, hB, by simp⟩, fun j hj => ?_⟩
  rw [Nat.zero_add, (Row.new W 9 (l.map Value.string)).cell j, List.getElem?_map, List.getElem?_eq_getElem hj]
  simp [List.getD, List.getElem?_eq_getElem hj]
theorem strsB_msgs {B g : Nat} {W : World} (h : Row W g 42 msgsV) (hB : B ≤ g) : StrsB B W (.slice (some ⟨g, 1, none⟩) 9 9) msgL := by
  refine ⟨_, _, g, 1, rfl, fun _ => ⟨rfl, hB, h.lt⟩, fun j hj => ?_⟩
  rw [h.cell (1 + j)]
  show (Value.string ⟨#[]⟩ :: msgL.map Value.string)[1 + j]? = _
  rw [Nat.add_comm, List.getElem?_cons_succ, List.getElem?_map, List.getElem?_eq_getElem hj]
  simp [List.getD, List.getElem?_eq_getElem hj]
theorem fld_info : (Tryz.prog.info? 32).map (fun i => (i.size, i.zero.map (·.cells))) = some (6, some #[.string ⟨#[]⟩, .int .i64 0, .int .i64 0, .int .i64 0, .slice none 0 0, .string ⟨#[]⟩]) := by kernel_rfl
set_option maxRecDepth 100000 in
theorem tab_run (x0 x1 x2 x3 x4 x5 x6 x7 x8 x9 x10 x11 x12 x13 x14 x15 x16 x17 x18 x19 x20 x21 x22 x23 x24 x25 x26 x27 x28 x29 x30 x31 : Value) (W : World) : (Instr.buildSlice 57 32 #[(0, .agg (fieldC (tblF.getD 0 fd0) x0).toArray), (1, .agg (fieldC (tblF.getD 1 fd0) x1).toArray), (2, .agg (fieldC (tblF.getD 2 fd0) x2).toArray), (3, .agg (fieldC (tblF.getD 3 fd0) x3).toArray), (4, .agg (fieldC (tblF.getD 4 fd0) x4).toArray), (5, .agg (fieldC (tblF.getD 5 fd0) x5).toArray), (6, .agg (fieldC (tblF.getD 6 fd0) x6).toArray), (7, .agg (fieldC (tblF.getD 7 fd0) x7).toArray), (8, .agg (fieldC (tblF.getD 8 fd0) x8).toArray), (9, .agg (fieldC (tblF.getD 9 fd0) x9).toArray), (10, .agg (fieldC (tblF.getD 10 fd0) x10).toArray), (11, .agg (fieldC (tblF.getD 11 fd0) x11).toArray), (12, .agg (fieldC (tblF.getD 12 fd0) x12).toArray), (13, .agg (fieldC (tblF.getD 13 fd0) x13).toArray), (14, .agg (fieldC (tblF.getD 14 fd0) x14).toArray), (15, .agg (fieldC (tblF.getD 15 fd0) x15).toArray), (16, .agg (fieldC (tblF.getD 16 fd0) x16).toArray), (17, .agg (fieldC (tblF.getD 17 fd0) x17).toArray), (18, .agg (fieldC (tblF.getD 18 fd0) x18).toArray), (19, .agg (fieldC (tblF.getD 19 fd0) x19).toArray), (20, .agg (fieldC (tblF.getD 20 fd0) x20).toArray), (21, .agg (fieldC (tblF.getD 21 fd0) x21).toArray), (22, .agg (fieldC (tblF.getD 22 fd0) x22).toArray), (23, .agg (fieldC (tblF.getD 23 fd0) x23).toArray), (24, .agg (fieldC (tblF.getD 24 fd0) x24).toArray), (25, .agg (fieldC (tblF.getD 25 fd0) x25).toArray), (26, .agg (fieldC (tblF.getD 26 fd0) x26).toArray), (27, .agg (fieldC (tblF.getD 27 fd0) x27).toArray), (28, .agg (fieldC (tblF.getD 28 fd0) x28).toArray), (29, .agg (fieldC (tblF.getD 29 fd0) x29).toArray), (30, .agg (fieldC (tblF.getD 30 fd0) x30).toArray), (31, .agg (fieldC (tblF.getD 31 fd0) x31).toArray)]).run Tryz.prog W = .ok (.slice (some ⟨W.heap.size, 0, none⟩) 32 32) (W.alloc (.cells (tabV tblF [x0, x1, x2, x3, x4, x5, x6, x7, x8, x9, x10, x11, x12, x13, x14, x15, x16, x17, x18, x19, x20, x21, x22, x23, x24, x25, x26, x27, x28, x29, x30, x31]).toArray 32)) := by
  have h := fld_info
  cases hi : Tryz.prog.info? 32 with
  | none => rw [hi] at h; cases h
  | some ie =>
    rw [hi] at h
    simp only [Option.map_some, Option.some.injEq, Prod.mk.injEq] at h
    obtain ⟨hs, hz⟩ := h
    cases hzz : ie.zero with
    | none => rw [hzz] at hz; cases hz
    | some z =>
      rw [hzz] at hz
      simp only [Option.map_some, Option.some.injEq] at hz
      refine run_buildSlice W _ 32 32 _ _ ie z Tryz.underlying57 hi hzz (by rw [hs]; decide) (by rw [hs]; decide) ?_
      rw [hs, hz]
      kernel_rfl
def specF : List SP := [
  .txt msgL,
  .rule ⟨4, 0, 0, msgL⟩,
  .fld ⟨⟨#[109, 101, 115, 115, 97, 103, 101, 84, 121, 112, 101]⟩, ⟨4, 0, 0, msgL⟩, ⟨#[82, 82, 82, 82, 82, 82, 82, 82, 82]⟩⟩,
  .txt [⟨#[50, 46, 49, 46, 48]⟩, ⟨#[50, 46, 50, 46, 48]⟩],
  .rule ⟨4, 0, 0, [⟨#[50, 46, 49, 46, 48]⟩, ⟨#[50, 46, 50, 46, 48]⟩]⟩,
  .fld ⟨⟨#[109, 101, 115, 115, 97, 103, 101, 86, 101, 114, 115, 105, 111, 110]⟩, ⟨4, 0, 0, [⟨#[50, 46, 49, 46, 48]⟩, ⟨#[50, 46, 50, 46, 48]⟩]⟩, ⟨#[82, 82, 82, 82, 82, 82, 82, 82, 82]⟩⟩,
  .rule ⟨3, 0, 0, []⟩,
  .fld ⟨⟨#[116, 104, 114, 101, 101, 68, 83, 83, 101, 114, 118, 101, 114, 84, 114, 97, 110, 115, 73, 68]⟩, ⟨3, 0, 0, []⟩, ⟨#[82, 82, 82, 82, 82, 82, 111, 82, 82]⟩⟩,
  .rule ⟨3, 0, 0, []⟩,
  .fld ⟨⟨#[100, 115, 84, 114, 97, 110, 115, 73, 68]⟩, ⟨3, 0, 0, []⟩, ⟨#[45, 82, 45, 45, 82, 82, 111, 45, 82]⟩⟩,
  .rule ⟨3, 0, 0, []⟩,
  .fld ⟨⟨#[97, 99, 115, 84, 114, 97, 110, 115, 73, 68]⟩, ⟨3, 0, 0, []⟩, ⟨#[45, 82, 82, 82, 82, 82, 111, 45, 45]⟩⟩,
  .rule ⟨5, 0, 0, []⟩,
  .fld ⟨⟨#[97, 99, 99, 116, 78, 117, 109, 98, 101, 114]⟩, ⟨5, 0, 0, []⟩, ⟨#[82, 45, 45, 45, 45, 45, 45, 45, 45]⟩⟩,
  .rule ⟨8, 1, 12, []⟩,
  .fld ⟨⟨#[112, 117, 114, 99, 104, 97, 115, 101, 65, 109, 111, 117, 110, 116]⟩, ⟨8, 1, 12, []⟩, ⟨#[82, 45, 45, 45, 45, 45, 45, 45, 45]⟩⟩,
  .rule ⟨1, 3, 3, []⟩,
  .fld ⟨⟨#[112, 117, 114, 99, 104, 97, 115, 101, 67, 117, 114, 114, 101, 110, 99, 121]⟩, ⟨1, 3, 3, []⟩, ⟨#[82, 45, 45, 45, 45, 45, 45, 45, 45]⟩⟩,
  .rule ⟨6, 0, 0, []⟩,
  .fld ⟨⟨#[112, 117, 114, 99, 104, 97, 115, 101, 68, 97, 116, 101]⟩, ⟨6, 0, 0, []⟩, ⟨#[82, 45, 45, 45, 45, 45, 45, 45, 45]⟩⟩,
  .rule ⟨2, 1, 40, []⟩,
  .fld ⟨⟨#[109, 101, 114, 99, 104, 97, 110, 116, 78, 97, 109, 101]⟩, ⟨2, 1, 40, []⟩, ⟨#[82, 45, 45, 45, 45, 45, 45, 45, 45]⟩⟩,
  .rule ⟨1, 4, 4, []⟩,
  .fld ⟨⟨#[109, 99, 99]⟩, ⟨1, 4, 4, []⟩, ⟨#[82, 45, 45, 45, 45, 45, 45, 45, 45]⟩⟩,
  .txt [⟨#[48, 49]⟩, ⟨#[48, 50]⟩, ⟨#[48, 51]⟩],
  .rule ⟨4, 0, 0, [⟨#[48, 49]⟩, ⟨#[48, 50]⟩, ⟨#[48, 51]⟩]⟩,
  .fld ⟨⟨#[100, 101, 118, 105, 99, 101, 67, 104, 97, 110, 110, 101, 108]⟩, ⟨4, 0, 0, [⟨#[48, 49]⟩, ⟨#[48, 50]⟩, ⟨#[48, 51]⟩]⟩, ⟨#[82, 45, 45, 45, 45, 45, 45, 45, 45]⟩⟩,
  .txt [⟨#[48, 49]⟩, ⟨#[48, 50]⟩],
  .rule ⟨4, 0, 0, [⟨#[48, 49]⟩, ⟨#[48, 50]⟩]⟩,
  .fld ⟨⟨#[109, 101, 115, 115, 97, 103, 101, 67, 97, 116, 101, 103, 111, 114, 121]⟩, ⟨4, 0, 0, [⟨#[48, 49]⟩, ⟨#[48, 50]⟩]⟩, ⟨#[82, 45, 45, 45, 82, 45, 45, 45, 45]⟩⟩,
  .txt [⟨#[48, 49]⟩, ⟨#[48, 50]⟩, ⟨#[48, 51]⟩, ⟨#[48, 52]⟩],
  .rule ⟨4, 0, 0, [⟨#[48, 49]⟩, ⟨#[48, 50]⟩, ⟨#[48, 51]⟩, ⟨#[48, 52]⟩]⟩,
  .fld ⟨⟨#[99, 104, 97, 108, 108, 101, 110, 103, 101, 73, 110, 100]⟩, ⟨4, 0, 0, [⟨#[48, 49]⟩, ⟨#[48, 50]⟩, ⟨#[48, 51]⟩, ⟨#[48, 52]⟩]⟩, ⟨#[111, 45, 45, 45, 45, 45, 45, 45, 45]⟩⟩,
  .txt [⟨#[48, 49]⟩, ⟨#[48, 50]⟩, ⟨#[48, 51]⟩],
  .rule ⟨4, 0, 0, [⟨#[48, 49]⟩, ⟨#[48, 50]⟩, ⟨#[48, 51]⟩]⟩,
  .fld ⟨⟨#[97, 99, 99, 116, 84, 121, 112, 101]⟩, ⟨4, 0, 0, [⟨#[48, 49]⟩, ⟨#[48, 50]⟩, ⟨#[48, 51]⟩]⟩, ⟨#[111, 45, 45, 45, 45, 45, 45, 45, 45]⟩⟩,
  .txt [⟨#[89]⟩, ⟨#[78]⟩, ⟨#[85]⟩, ⟨#[65]⟩, ⟨#[67]⟩, ⟨#[82]⟩],
  .rule ⟨4, 0, 0, [⟨#[89]⟩, ⟨#[78]⟩, ⟨#[85]⟩, ⟨#[65]⟩, ⟨#[67]⟩, ⟨#[82]⟩]⟩,
  .fld ⟨⟨#[116, 114, 97, 110, 115, 83, 116, 97, 116, 117, 115]⟩, ⟨4, 0, 0, [⟨#[89]⟩, ⟨#[78]⟩, ⟨#[85]⟩, ⟨#[65]⟩, ⟨#[67]⟩, ⟨#[82]⟩]⟩, ⟨#[45, 82, 45, 111, 82, 45, 45, 45, 45]⟩⟩,
  .rule ⟨1, 2, 2, []⟩,
  .fld ⟨⟨#[116, 114, 97, 110, 115, 83, 116, 97, 116, 117, 115, 82, 101, 97, 115, 111, 110]⟩, ⟨1, 2, 2, []⟩, ⟨#[45, 111, 45, 45, 111, 45, 45, 45, 45]⟩⟩,
  .rule ⟨7, 20, 0, []⟩,
  .fld ⟨⟨#[97, 117, 116, 104, 101, 110, 116, 105, 99, 97, 116, 105, 111, 110, 86, 97, 108, 117, 101]⟩, ⟨7, 20, 0, []⟩, ⟨#[45, 111, 45, 45, 111, 45, 45, 45, 45]⟩⟩,
  .rule ⟨1, 2, 2, []⟩,
  .fld ⟨⟨#[101, 99, 105]⟩, ⟨1, 2, 2, []⟩, ⟨#[45, 111, 45, 45, 111, 45, 45, 45, 45]⟩⟩,
  .txt [⟨#[48, 49]⟩, ⟨#[48, 50]⟩, ⟨#[48, 51]⟩, ⟨#[48, 52]⟩, ⟨#[48, 53]⟩],
  .rule ⟨4, 0, 0, [⟨#[48, 49]⟩, ⟨#[48, 50]⟩, ⟨#[48, 51]⟩, ⟨#[48, 52]⟩, ⟨#[48, 53]⟩]⟩,
  .fld ⟨⟨#[99, 104, 97, 108, 108, 101, 110, 103, 101, 87, 105, 110, 100, 111, 119, 83, 105, 122, 101]⟩, ⟨4, 0, 0, [⟨#[48, 49]⟩, ⟨#[48, 50]⟩, ⟨#[48, 51]⟩, ⟨#[48, 52]⟩, ⟨#[48, 53]⟩]⟩, ⟨#[45, 45, 82, 45, 45, 45, 45, 45, 45]⟩⟩,
  .rule ⟨2, 1, 45, []⟩,
  .fld ⟨⟨#[99, 104, 97, 108, 108, 101, 110, 103, 101, 68, 97, 116, 97, 69, 110, 116, 114, 121]⟩, ⟨2, 1, 45, []⟩, ⟨#[45, 45, 111, 45, 45, 45, 45, 45, 45]⟩⟩,
  .txt [⟨#[48, 49]⟩, ⟨#[48, 50]⟩, ⟨#[48, 51]⟩, ⟨#[48, 52]⟩, ⟨#[48, 53]⟩, ⟨#[48, 54]⟩, ⟨#[48, 55]⟩, ⟨#[48, 56]⟩],
  .rule ⟨4, 0, 0, [⟨#[48, 49]⟩, ⟨#[48, 50]⟩, ⟨#[48, 51]⟩, ⟨#[48, 52]⟩, ⟨#[48, 53]⟩, ⟨#[48, 54]⟩, ⟨#[48, 55]⟩, ⟨#[48, 56]⟩]⟩,
  .fld ⟨⟨#[99, 104, 97, 108, 108, 101, 110, 103, 101, 67, 97, 110, 99, 101, 108]⟩, ⟨4, 0, 0, [⟨#[48, 49]⟩, ⟨#[48, 50]⟩, ⟨#[48, 51]⟩, ⟨#[48, 52]⟩, ⟨#[48, 53]⟩, ⟨#[48, 54]⟩, ⟨#[48, 55]⟩, ⟨#[48, 56]⟩]⟩, ⟨#[45, 45, 111, 45, 45, 45, 45, 45, 45]⟩⟩,
  .txt [⟨#[89]⟩, ⟨#[78]⟩],
  .rule ⟨4, 0, 0, [⟨#[89]⟩, ⟨#[78]⟩]⟩,
  .fld ⟨⟨#[99, 104, 97, 108, 108, 101, 110, 103, 101, 67, 111, 109, 112, 108, 101, 116, 105, 111, 110, 73, 110, 100]⟩, ⟨4, 0, 0, [⟨#[89]⟩, ⟨#[78]⟩]⟩, ⟨#[45, 45, 45, 82, 45, 45, 45, 45, 45]⟩⟩,
  .rule ⟨2, 1, 350, []⟩,
  .fld ⟨⟨#[99, 104, 97, 108, 108, 101, 110, 103, 101, 73, 110, 102, 111, 84, 101, 120, 116]⟩, ⟨2, 1, 350, []⟩, ⟨#[45, 45, 45, 111, 45, 45, 45, 45, 45]⟩⟩,
  .rule ⟨1, 2, 2, []⟩,
  .fld ⟨⟨#[105, 110, 116, 101, 114, 97, 99, 116, 105, 111, 110, 67, 111, 117, 110, 116, 101, 114]⟩, ⟨1, 2, 2, []⟩, ⟨#[45, 45, 45, 45, 82, 45, 45, 45, 45]⟩⟩,
  .txt [⟨#[48, 49]⟩, ⟨#[48, 50]⟩, ⟨#[48, 51]⟩, ⟨#[48, 52]⟩],
  .rule ⟨4, 0, 0, [⟨#[48, 49]⟩, ⟨#[48, 50]⟩, ⟨#[48, 51]⟩, ⟨#[48, 52]⟩]⟩,
  .fld ⟨⟨#[114, 101, 115, 117, 108, 116, 115, 83, 116, 97, 116, 117, 115]⟩, ⟨4, 0, 0, [⟨#[48, 49]⟩, ⟨#[48, 50]⟩, ⟨#[48, 51]⟩, ⟨#[48, 52]⟩]⟩, ⟨#[45, 45, 45, 45, 45, 82, 45, 45, 45]⟩⟩,
  .rule ⟨1, 3, 3, []⟩,
  .fld ⟨⟨#[101, 114, 114, 111, 114, 67, 111, 100, 101]⟩, ⟨1, 3, 3, []⟩, ⟨#[45, 45, 45, 45, 45, 45, 82, 45, 45]⟩⟩,
  .txt [⟨#[65]⟩, ⟨#[67]⟩, ⟨#[68]⟩, ⟨#[83]⟩],
  .rule ⟨4, 0, 0, [⟨#[65]⟩, ⟨#[67]⟩, ⟨#[68]⟩, ⟨#[83]⟩]⟩,
  .fld ⟨⟨#[101, 114, 114, 111, 114, 67, 111, 109, 112, 111, 110, 101, 110, 116]⟩, ⟨4, 0, 0, [⟨#[65]⟩, ⟨#[67]⟩, ⟨#[68]⟩, ⟨#[83]⟩]⟩, ⟨#[45, 45, 45, 45, 45, 45, 82, 45, 45]⟩⟩,
  .rule ⟨2, 1, 200, []⟩,
  .fld ⟨⟨#[101, 114, 114, 111, 114, 68, 101, 115, 99, 114, 105, 112, 116, 105, 111, 110]⟩, ⟨2, 1, 200, []⟩, ⟨#[45, 45, 45, 45, 45, 45, 82, 45, 45]⟩⟩,
  .rule ⟨2, 0, 300, []⟩,
  .fld ⟨⟨#[101, 114, 114, 111, 114, 68, 101, 116, 97, 105, 108]⟩, ⟨2, 0, 300, []⟩, ⟨#[45, 45, 45, 45, 45, 45, 82, 45, 45]⟩⟩,
  .txt msgL,
  .rule ⟨4, 0, 0, msgL⟩,
  .fld ⟨⟨#[101, 114, 114, 111, 114, 77, 101, 115, 115, 97, 103, 101, 84, 121, 112, 101]⟩, ⟨4, 0, 0, msgL⟩, ⟨#[45, 45, 45, 45, 45, 45, 111, 45, 45]⟩⟩,
  .rule ⟨8, 1, 20, []⟩,
  .fld ⟨⟨#[115, 101, 114, 105, 97, 108, 78, 117, 109]⟩, ⟨8, 1, 20, []⟩, ⟨#[45, 45, 45, 45, 45, 45, 45, 111, 82]⟩⟩,
  .tab]

set_option maxRecDepth 100000 in
set_option maxHeartbeats 8000000 in
theorem fields_any (w : World) :
    Calls Tryz.prog 24 #[] w fun e w' => ∃ g, e = .returned (.slice (some ⟨g, 0, none⟩) 32 32) ∧ w.heap.size ≤ g ∧ FTab w.heap.size g w' ∧ Below w.heap.size w w' := by
  have HM := Lib.hid (fun W => Messages_any W)
  have hmx : Tryz.prog.follows .mixedOrders = true := by kernel_rfl
  unfold msgsV at HM
  simp only [msgL, List.map_cons, List.map_nil] at HM
  go_enter Tryz.func24, Tryz.ntmps24
  go_wp2_with fail
  refine (HM.out _).mono ?_
  rintro e w1 ⟨rfl, hb1⟩
  go_wp2_with fail
  have rN := Row.new w1 42 msgsV
  have b2 := hb1.alloc hb1.size (.cells msgsV.toArray 42)
  have gN : w.heap.size ≤ w1.heap.size := hb1.size
  unfold msgsV at rN b2
  simp only [msgL, List.map_cons, List.map_nil] at rN b2
  generalize w1.alloc (.cells _ 42) = w2 at rN b2 ⊢
  have zB := b2.size
  have lN := rN.lt
  have rN : Row w2 w1.heap.size 42 msgsV := rN
  clear hb1 HM
  refine wp_region_slotsF (m := 78) [78] hmx (fun i v W => RS w.heap.size (specF.getD i (.txt [])) v W) (Below w2.heap.size w2) (by kernel_rfl) (by kernel_rfl) (fun i v W W' h hb => h.below hb) (Below.refl _ _).drew ?_ ?_
  · refine ⟨?_, ?_, ?_, ?_, ?_, ?_, ?_, ?_, ?_, ?_, ?_, ?_, ?_, ?_, ?_, ?_, ?_, ?_, ?_, ?_, ?_, ?_, ?_, ?_, ?_, ?_, ?_, ?_, ?_, ?_, ?_, ?_, ?_, ?_, ?_, ?_, ?_, ?_, ?_, ?_, ?_, ?_, ?_, ?_, ?_, ?_, ?_, ?_, ?_, ?_, ?_, ?_, ?_, ?_, ?_, ?_, ?_, ?_, ?_, ?_, ?_, ?_, ?_, ?_, ?_, ?_, ?_, ?_, ?_, ?_, ?_, ?_, ?_, ?_, ?_, ?_, ?_, ?_, trivial⟩
    · intro ρ vals W hC hd ht hk hg hf
      have hW : w.heap.size ≤ W.heap.size := Nat.le_trans zB hC.size
      have e1 := ht 1
      rw [evalS_old (by kernel_rfl)] at e1
      clear ht hd
      show StepOK Tryz.prog (execOp ρ _) (RS w.heap.size (.txt msgL)) _ W
      have hx := strsB_msgs (rN.below hC lN) gN
      unfold StepOK
      go_simp
      first | exact ⟨hx, hC, Below.refl _ _⟩ | exact ⟨hC, Below.refl _ _⟩ | exact ⟨hx, Below.refl _ _⟩ | exact Below.refl _ _
    · intro ρ vals W hC hd ht hk hg hf
      have hW : w.heap.size ≤ W.heap.size := Nat.le_trans zB hC.size
      have e3 := ht 3
      rw [evalS_tmp (i := 0) (by kernel_rfl)] at e3
      have d0 : RS w.heap.size (.txt msgL) (vals 0) W := hd 0 (by kernel_rfl)
      generalize vals 0 = v0 at e3 d0
      clear ht hd
      show StepOK Tryz.prog (execOp ρ _) (RS w.heap.size (.rule ⟨4, 0, 0, msgL⟩)) _ W
      have d0 : StrsB w.heap.size W v0 (msgL) := d0
      unfold StepOK
      go_simp
      exact (among_any v0 (msgL) W d0.strs (by decide)).mono (rule_post hW fun w' hb => hC.trans (hb.mono hC.size))
    · intro ρ vals W hC hd ht hk hg hf
      have hW : w.heap.size ≤ W.heap.size := Nat.le_trans zB hC.size
      have e4 := ht 4
      rw [evalS_tmp (i := 1) (by kernel_rfl)] at e4
      have d1 : RS w.heap.size (.rule ⟨4, 0, 0, msgL⟩) (vals 1) W := hd 1 (by kernel_rfl)
      generalize vals 1 = v1 at e4 d1
      clear ht hd
      show StepOK Tryz.prog (execOp ρ _) (RS w.heap.size (.fld ⟨⟨#[109, 101, 115, 115, 97, 103, 101, 84, 121, 112, 101]⟩, ⟨4, 0, 0, msgL⟩, ⟨#[82, 82, 82, 82, 82, 82, 82, 82, 82]⟩⟩)) _ W
      obtain ⟨v', hv', hs⟩ := d1
      rw [hv'] at e4
      unfold StepOK
      go_simp
      first | exact ⟨⟨v', rfl, hs⟩, hC, Below.refl _ _⟩ | exact ⟨⟨v', rfl, hs⟩, Below.refl _ _⟩
    · intro ρ vals W hC hd ht hk hg hf
      have hW : w.heap.size ≤ W.heap.size := Nat.le_trans zB hC.size
      clear ht hd
      show StepOK Tryz.prog (execOp ρ _) (RS w.heap.size (.txt [⟨#[50, 46, 49, 46, 48]⟩, ⟨#[50, 46, 50, 46, 48]⟩])) _ W
      have hx := strsB_new W hW ([⟨#[50, 46, 49, 46, 48]⟩, ⟨#[50, 46, 50, 46, 48]⟩])
      unfold StepOK
      go_simp
      first | exact ⟨hx, hC.alloc hC.size _, (Below.refl _ _).alloc (Nat.le_refl _) _⟩ | exact ⟨hC.alloc hC.size _, (Below.refl _ _).alloc (Nat.le_refl _) _⟩ | exact (Below.refl _ _).alloc (Nat.le_refl _) _
    · intro ρ vals W hC hd ht hk hg hf
      have hW : w.heap.size ≤ W.heap.size := Nat.le_trans zB hC.size
      have e6 := ht 6
      rw [evalS_tmp (i := 3) (by kernel_rfl)] at e6
      have d3 : RS w.heap.size (.txt [⟨#[50, 46, 49, 46, 48]⟩, ⟨#[50, 46, 50, 46, 48]⟩]) (vals 3) W := hd 3 (by kernel_rfl)
      generalize vals 3 = v3 at e6 d3
      clear ht hd
      show StepOK Tryz.prog (execOp ρ _) (RS w.heap.size (.rule ⟨4, 0, 0, [⟨#[50, 46, 49, 46, 48]⟩, ⟨#[50, 46, 50, 46, 48]⟩]⟩)) _ W
      have d3 : StrsB w.heap.size W v3 ([⟨#[50, 46, 49, 46, 48]⟩, ⟨#[50, 46, 50, 46, 48]⟩]) := d3
      unfold StepOK
      go_simp
      exact (among_any v3 ([⟨#[50, 46, 49, 46, 48]⟩, ⟨#[50, 46, 50, 46, 48]⟩]) W d3.strs (by decide)).mono (rule_post hW fun w' hb => hC.trans (hb.mono hC.size))
    · intro ρ vals W hC hd ht hk hg hf
      have hW : w.heap.size ≤ W.heap.size := Nat.le_trans zB hC.size
      have e7 := ht 7
      rw [evalS_tmp (i := 4) (by kernel_rfl)] at e7
      have d4 : RS w.heap.size (.rule ⟨4, 0, 0, [⟨#[50, 46, 49, 46, 48]⟩, ⟨#[50, 46, 50, 46, 48]⟩]⟩) (vals 4) W := hd 4 (by kernel_rfl)
      generalize vals 4 = v4 at e7 d4
      clear ht hd
      show StepOK Tryz.prog (execOp ρ _) (RS w.heap.size (.fld ⟨⟨#[109, 101, 115, 115, 97, 103, 101, 86, 101, 114, 115, 105, 111, 110]⟩, ⟨4, 0, 0, [⟨#[50, 46, 49, 46, 48]⟩, ⟨#[50, 46, 50, 46, 48]⟩]⟩, ⟨#[82, 82, 82, 82, 82, 82, 82, 82, 82]⟩⟩)) _ W
      obtain ⟨v', hv', hs⟩ := d4
      rw [hv'] at e7
      unfold StepOK
      go_simp
      first | exact ⟨⟨v', rfl, hs⟩, hC, Below.refl _ _⟩ | exact ⟨⟨v', rfl, hs⟩, Below.refl _ _⟩
    · intro ρ vals W hC hd ht hk hg hf
      have hW : w.heap.size ≤ W.heap.size := Nat.le_trans zB hC.size
      clear ht hd
      show StepOK Tryz.prog (execOp ρ _) (RS w.heap.size (.rule ⟨3, 0, 0, []⟩)) _ W
      unfold StepOK
      go_simp
      exact (cplain_any 3 W).mono (rule_post hW fun w' hb => hC.trans (hb.mono hC.size))
    · intro ρ vals W hC hd ht hk hg hf
      have hW : w.heap.size ≤ W.heap.size := Nat.le_trans zB hC.size
      have e9 := ht 9
      rw [evalS_tmp (i := 6) (by kernel_rfl)] at e9
      have d6 : RS w.heap.size (.rule ⟨3, 0, 0, []⟩) (vals 6) W := hd 6 (by kernel_rfl)
      generalize vals 6 = v6 at e9 d6
      clear ht hd
      show StepOK Tryz.prog (execOp ρ _) (RS w.heap.size (.fld ⟨⟨#[116, 104, 114, 101, 101, 68, 83, 83, 101, 114, 118, 101, 114, 84, 114, 97, 110, 115, 73, 68]⟩, ⟨3, 0, 0, []⟩, ⟨#[82, 82, 82, 82, 82, 82, 111, 82, 82]⟩⟩)) _ W
      obtain ⟨v', hv', hs⟩ := d6
      rw [hv'] at e9
      unfold StepOK
      go_simp
      first | exact ⟨⟨v', rfl, hs⟩, hC, Below.refl _ _⟩ | exact ⟨⟨v', rfl, hs⟩, Below.refl _ _⟩
    · intro ρ vals W hC hd ht hk hg hf
      have hW : w.heap.size ≤ W.heap.size := Nat.le_trans zB hC.size
      clear ht hd
      show StepOK Tryz.prog (execOp ρ _) (RS w.heap.size (.rule ⟨3, 0, 0, []⟩)) _ W
      unfold StepOK
      go_simp
      exact (cplain_any 3 W).mono (rule_post hW fun w' hb => hC.trans (hb.mono hC.size))
    · intro ρ vals W hC hd ht hk hg hf
      have hW : w.heap.size ≤ W.heap.size := Nat.le_trans zB hC.size
      have e11 := ht 11
      rw [evalS_tmp (i := 8) (by kernel_rfl)] at e11
      have d8 : RS w.heap.size (.rule ⟨3, 0, 0, []⟩) (vals 8) W := hd 8 (by kernel_rfl)
      generalize vals 8 = v8 at e11 d8
      clear ht hd
      show StepOK Tryz.prog (execOp ρ _) (RS w.heap.size (.fld ⟨⟨#[100, 115, 84, 114, 97, 110, 115, 73, 68]⟩, ⟨3, 0, 0, []⟩, ⟨#[45, 82, 45, 45, 82, 82, 111, 45, 82]⟩⟩)) _ W
      obtain ⟨v', hv', hs⟩ := d8
      rw [hv'] at e11
      unfold StepOK
      go_simp
      first | exact ⟨⟨v', rfl, hs⟩, hC, Below.refl _ _⟩ | exact ⟨⟨v', rfl, hs⟩, Below.refl _ _⟩
    · intro ρ vals W hC hd ht hk hg hf
      have hW : w.heap.size ≤ W.heap.size := Nat.le_trans zB hC.size
      clear ht hd
      show StepOK Tryz.prog (execOp ρ _) (RS w.heap.size (.rule ⟨3, 0, 0, []⟩)) _ W
      unfold StepOK
      go_simp
      exact (cplain_any 3 W).mono (rule_post hW fun w' hb => hC.trans (hb.mono hC.size))
    · intro ρ vals W hC hd ht hk hg hf
      have hW : w.heap.size ≤ W.heap.size := Nat.le_trans zB hC.size
      have e13 := ht 13
      rw [evalS_tmp (i := 10) (by kernel_rfl)] at e13
      have d10 : RS w.heap.size (.rule ⟨3, 0, 0, []⟩) (vals 10) W := hd 10 (by kernel_rfl)
      generalize vals 10 = v10 at e13 d10
      clear ht hd
      show StepOK Tryz.prog (execOp ρ _) (RS w.heap.size (.fld ⟨⟨#[97, 99, 115, 84, 114, 97, 110, 115, 73, 68]⟩, ⟨3, 0, 0, []⟩, ⟨#[45, 82, 82, 82, 82, 82, 111, 45, 45]⟩⟩)) _ W
      obtain ⟨v', hv', hs⟩ := d10
      rw [hv'] at e13
      unfold StepOK
      go_simp
      first | exact ⟨⟨v', rfl, hs⟩, hC, Below.refl _ _⟩ | exact ⟨⟨v', rfl, hs⟩, Below.refl _ _⟩
    · intro ρ vals W hC hd ht hk hg hf
      have hW : w.heap.size ≤ W.heap.size := Nat.le_trans zB hC.size
      clear ht hd
      show StepOK Tryz.prog (execOp ρ _) (RS w.heap.size (.rule ⟨5, 0, 0, []⟩)) _ W
      unfold StepOK
      go_simp
      exact (cplain_any 5 W).mono (rule_post hW fun w' hb => hC.trans (hb.mono hC.size))
    · intro ρ vals W hC hd ht hk hg hf
      have hW : w.heap.size ≤ W.heap.size := Nat.le_trans zB hC.size
      have e15 := ht 15
      rw [evalS_tmp (i := 12) (by kernel_rfl)] at e15
      have d12 : RS w.heap.size (.rule ⟨5, 0, 0, []⟩) (vals 12) W := hd 12 (by kernel_rfl)
      generalize vals 12 = v12 at e15 d12
      clear ht hd
      show StepOK Tryz.prog (execOp ρ _) (RS w.heap.size (.fld ⟨⟨#[97, 99, 99, 116, 78, 117, 109, 98, 101, 114]⟩, ⟨5, 0, 0, []⟩, ⟨#[82, 45, 45, 45, 45, 45, 45, 45, 45]⟩⟩)) _ W
      obtain ⟨v', hv', hs⟩ := d12
      rw [hv'] at e15
      unfold StepOK
      go_simp
      first | exact ⟨⟨v', rfl, hs⟩, hC, Below.refl _ _⟩ | exact ⟨⟨v', rfl, hs⟩, Below.refl _ _⟩
    · intro ρ vals W hC hd ht hk hg hf
      have hW : w.heap.size ≤ W.heap.size := Nat.le_trans zB hC.size
      clear ht hd
      show StepOK Tryz.prog (execOp ρ _) (RS w.heap.size (.rule ⟨8, 1, 12, []⟩)) _ W
      unfold StepOK
      go_simp
      exact (OfR_any 8 1 12 (.slice none 0 0) [] W (strs_nil0 _ none 0) (by simp)).mono (rule_post hW fun w' hb => hC.trans (hb.mono hC.size))
    · intro ρ vals W hC hd ht hk hg hf
      have hW : w.heap.size ≤ W.heap.size := Nat.le_trans zB hC.size
      have e17 := ht 17
      rw [evalS_tmp (i := 14) (by kernel_rfl)] at e17
      have d14 : RS w.heap.size (.rule ⟨8, 1, 12, []⟩) (vals 14) W := hd 14 (by kernel_rfl)
      generalize vals 14 = v14 at e17 d14
      clear ht hd
      show StepOK Tryz.prog (execOp ρ _) (RS w.heap.size (.fld ⟨⟨#[112, 117, 114, 99, 104, 97, 115, 101, 65, 109, 111, 117, 110, 116]⟩, ⟨8, 1, 12, []⟩, ⟨#[82, 45, 45, 45, 45, 45, 45, 45, 45]⟩⟩)) _ W
      obtain ⟨v', hv', hs⟩ := d14
      rw [hv'] at e17
      unfold StepOK
      go_simp
      first | exact ⟨⟨v', rfl, hs⟩, hC, Below.refl _ _⟩ | exact ⟨⟨v', rfl, hs⟩, Below.refl _ _⟩
    · intro ρ vals W hC hd ht hk hg hf
      have hW : w.heap.size ≤ W.heap.size := Nat.le_trans zB hC.size
      clear ht hd
      show StepOK Tryz.prog (execOp ρ _) (RS w.heap.size (.rule ⟨1, 3, 3, []⟩)) _ W
      unfold StepOK
      go_simp
      exact (cfigures_any 3 W).mono (rule_post hW fun w' hb => hC.trans (hb.mono hC.size))
    · intro ρ vals W hC hd ht hk hg hf
      have hW : w.heap.size ≤ W.heap.size := Nat.le_trans zB hC.size
      have e19 := ht 19
      rw [evalS_tmp (i := 16) (by kernel_rfl)] at e19
      have d16 : RS w.heap.size (.rule ⟨1, 3, 3, []⟩) (vals 16) W := hd 16 (by kernel_rfl)
      generalize vals 16 = v16 at e19 d16
      clear ht hd
      show StepOK Tryz.prog (execOp ρ _) (RS w.heap.size (.fld ⟨⟨#[112, 117, 114, 99, 104, 97, 115, 101, 67, 117, 114, 114, 101, 110, 99, 121]⟩, ⟨1, 3, 3, []⟩, ⟨#[82, 45, 45, 45, 45, 45, 45, 45, 45]⟩⟩)) _ W
      obtain ⟨v', hv', hs⟩ := d16
      rw [hv'] at e19
      unfold StepOK
      go_simp
      first | exact ⟨⟨v', rfl, hs⟩, hC, Below.refl _ _⟩ | exact ⟨⟨v', rfl, hs⟩, Below.refl _ _⟩
    · intro ρ vals W hC hd ht hk hg hf
      have hW : w.heap.size ≤ W.heap.size := Nat.le_trans zB hC.size
      clear ht hd
      show StepOK Tryz.prog (execOp ρ _) (RS w.heap.size (.rule ⟨6, 0, 0, []⟩)) _ W
      unfold StepOK
      go_simp
      exact (cplain_any 6 W).mono (rule_post hW fun w' hb => hC.trans (hb.mono hC.size))
    · intro ρ vals W hC hd ht hk hg hf
      have hW : w.heap.size ≤ W.heap.size := Nat.le_trans zB hC.size
      have e21 := ht 21
      rw [evalS_tmp (i := 18) (by kernel_rfl)] at e21
      have d18 : RS w.heap.size (.rule ⟨6, 0, 0, []⟩) (vals 18) W := hd 18 (by kernel_rfl)
      generalize vals 18 = v18 at e21 d18
      clear ht hd
      show StepOK Tryz.prog (execOp ρ _) (RS w.heap.size (.fld ⟨⟨#[112, 117, 114, 99, 104, 97, 115, 101, 68, 97, 116, 101]⟩, ⟨6, 0, 0, []⟩, ⟨#[82, 45, 45, 45, 45, 45, 45, 45, 45]⟩⟩)) _ W
      obtain ⟨v', hv', hs⟩ := d18
      rw [hv'] at e21
      unfold StepOK
      go_simp
      first | exact ⟨⟨v', rfl, hs⟩, hC, Below.refl _ _⟩ | exact ⟨⟨v', rfl, hs⟩, Below.refl _ _⟩
    · intro ρ vals W hC hd ht hk hg hf
      have hW : w.heap.size ≤ W.heap.size := Nat.le_trans zB hC.size
      clear ht hd
      show StepOK Tryz.prog (execOp ρ _) (RS w.heap.size (.rule ⟨2, 1, 40, []⟩)) _ W
      unfold StepOK
      go_simp
      exact (ctext_any 1 40 W).mono (rule_post hW fun w' hb => hC.trans (hb.mono hC.size))
    · intro ρ vals W hC hd ht hk hg hf
      have hW : w.heap.size ≤ W.heap.size := Nat.le_trans zB hC.size
      have e23 := ht 23
      rw [evalS_tmp (i := 20) (by kernel_rfl)] at e23
      have d20 : RS w.heap.size (.rule ⟨2, 1, 40, []⟩) (vals 20) W := hd 20 (by kernel_rfl)
      generalize vals 20 = v20 at e23 d20
      clear ht hd
      show StepOK Tryz.prog (execOp ρ _) (RS w.heap.size (.fld ⟨⟨#[109, 101, 114, 99, 104, 97, 110, 116, 78, 97, 109, 101]⟩, ⟨2, 1, 40, []⟩, ⟨#[82, 45, 45, 45, 45, 45, 45, 45, 45]⟩⟩)) _ W
      obtain ⟨v', hv', hs⟩ := d20
      rw [hv'] at e23
      unfold StepOK
      go_simp
      first | exact ⟨⟨v', rfl, hs⟩, hC, Below.refl _ _⟩ | exact ⟨⟨v', rfl, hs⟩, Below.refl _ _⟩
    · intro ρ vals W hC hd ht hk hg hf
      have hW : w.heap.size ≤ W.heap.size := Nat.le_trans zB hC.size
      clear ht hd
      show StepOK Tryz.prog (execOp ρ _) (RS w.heap.size (.rule ⟨1, 4, 4, []⟩)) _ W
      unfold StepOK
      go_simp
      exact (cfigures_any 4 W).mono (rule_post hW fun w' hb => hC.trans (hb.mono hC.size))
    · intro ρ vals W hC hd ht hk hg hf
      have hW : w.heap.size ≤ W.heap.size := Nat.le_trans zB hC.size
      have e25 := ht 25
      rw [evalS_tmp (i := 22) (by kernel_rfl)] at e25
      have d22 : RS w.heap.size (.rule ⟨1, 4, 4, []⟩) (vals 22) W := hd 22 (by kernel_rfl)
      generalize vals 22 = v22 at e25 d22
      clear ht hd
      show StepOK Tryz.prog (execOp ρ _) (RS w.heap.size (.fld ⟨⟨#[109, 99, 99]⟩, ⟨1, 4, 4, []⟩, ⟨#[82, 45, 45, 45, 45, 45, 45, 45, 45]⟩⟩)) _ W
      obtain ⟨v', hv', hs⟩ := d22
      rw [hv'] at e25
      unfold StepOK
      go_simp
      first | exact ⟨⟨v', rfl, hs⟩, hC, Below.refl _ _⟩ | exact ⟨⟨v', rfl, hs⟩, Below.refl _ _⟩
    · intro ρ vals W hC hd ht hk hg hf
      have hW : w.heap.size ≤ W.heap.size := Nat.le_trans zB hC.size
      clear ht hd
      show StepOK Tryz.prog (execOp ρ _) (RS w.heap.size (.txt [⟨#[48, 49]⟩, ⟨#[48, 50]⟩, ⟨#[48, 51]⟩])) _ W
      have hx := strsB_new W hW ([⟨#[48, 49]⟩, ⟨#[48, 50]⟩, ⟨#[48, 51]⟩])
      unfold StepOK
      go_simp
      first | exact ⟨hx, hC.alloc hC.size _, (Below.refl _ _).alloc (Nat.le_refl _) _⟩ | exact ⟨hC.alloc hC.size _, (Below.refl _ _).alloc (Nat.le_refl _) _⟩ | exact (Below.refl _ _).alloc (Nat.le_refl _) _
    · intro ρ vals W hC hd ht hk hg hf
      have hW : w.heap.size ≤ W.heap.size := Nat.le_trans zB hC.size
      have e27 := ht 27
      rw [evalS_tmp (i := 24) (by kernel_rfl)] at e27
      have d24 : RS w.heap.size (.txt [⟨#[48, 49]⟩, ⟨#[48, 50]⟩, ⟨#[48, 51]⟩]) (vals 24) W := hd 24 (by kernel_rfl)
      generalize vals 24 = v24 at e27 d24
      clear ht hd
      show StepOK Tryz.prog (execOp ρ _) (RS w.heap.size (.rule ⟨4, 0, 0, [⟨#[48, 49]⟩, ⟨#[48, 50]⟩, ⟨#[48, 51]⟩]⟩)) _ W
      have d24 : StrsB w.heap.size W v24 ([⟨#[48, 49]⟩, ⟨#[48, 50]⟩, ⟨#[48, 51]⟩]) := d24
      unfold StepOK
      go_simp
      exact (among_any v24 ([⟨#[48, 49]⟩, ⟨#[48, 50]⟩, ⟨#[48, 51]⟩]) W d24.strs (by decide)).mono (rule_post hW fun w' hb => hC.trans (hb.mono hC.size))
    · intro ρ vals W hC hd ht hk hg hf
      have hW : w.heap.size ≤ W.heap.size := Nat.le_trans zB hC.size
      have e28 := ht 28
      rw [evalS_tmp (i := 25) (by kernel_rfl)] at e28
      have d25 : RS w.heap.size (.rule ⟨4, 0, 0, [⟨#[48, 49]⟩, ⟨#[48, 50]⟩, ⟨#[48, 51]⟩]⟩) (vals 25) W := hd 25 (by kernel_rfl)
      generalize vals 25 = v25 at e28 d25
      clear ht hd
      show StepOK Tryz.prog (execOp ρ _) (RS w.heap.size (.fld ⟨⟨#[100, 101, 118, 105, 99, 101, 67, 104, 97, 110, 110, 101, 108]⟩, ⟨4, 0, 0, [⟨#[48, 49]⟩, ⟨#[48, 50]⟩, ⟨#[48, 51]⟩]⟩, ⟨#[82, 45, 45, 45, 45, 45, 45, 45, 45]⟩⟩)) _ W
      obtain ⟨v', hv', hs⟩ := d25
      rw [hv'] at e28
      unfold StepOK
      go_simp
      first | exact ⟨⟨v', rfl, hs⟩, hC, Below.refl _ _⟩ | exact ⟨⟨v', rfl, hs⟩, Below.refl _ _⟩
    · intro ρ vals W hC hd ht hk hg hf
      have hW : w.heap.size ≤ W.heap.size := Nat.le_trans zB hC.size
      clear ht hd
      show StepOK Tryz.prog (execOp ρ _) (RS w.heap.size (.txt [⟨#[48, 49]⟩, ⟨#[48, 50]⟩])) _ W
      have hx := strsB_new W hW ([⟨#[48, 49]⟩, ⟨#[48, 50]⟩])
      unfold StepOK
      go_simp
      first | exact ⟨hx, hC.alloc hC.size _, (Below.refl _ _).alloc (Nat.le_refl _) _⟩ | exact ⟨hC.alloc hC.size _, (Below.refl _ _).alloc (Nat.le_refl _) _⟩ | exact (Below.refl _ _).alloc (Nat.le_refl _) _
    · intro ρ vals W hC hd ht hk hg hf
      have hW : w.heap.size ≤ W.heap.size := Nat.le_trans zB hC.size
      have e30 := ht 30
      rw [evalS_tmp (i := 27) (by kernel_rfl)] at e30
      have d27 : RS w.heap.size (.txt [⟨#[48, 49]⟩, ⟨#[48, 50]⟩]) (vals 27) W := hd 27 (by kernel_rfl)
      generalize vals 27 = v27 at e30 d27
      clear ht hd
      show StepOK Tryz.prog (execOp ρ _) (RS w.heap.size (.rule ⟨4, 0, 0, [⟨#[48, 49]⟩, ⟨#[48, 50]⟩]⟩)) _ W
      have d27 : StrsB w.heap.size W v27 ([⟨#[48, 49]⟩, ⟨#[48, 50]⟩]) := d27
      unfold StepOK
      go_simp
      exact (among_any v27 ([⟨#[48, 49]⟩, ⟨#[48, 50]⟩]) W d27.strs (by decide)).mono (rule_post hW fun w' hb => hC.trans (hb.mono hC.size))
    · intro ρ vals W hC hd ht hk hg hf
      have hW : w.heap.size ≤ W.heap.size := Nat.le_trans zB hC.size
      have e31 := ht 31
      rw [evalS_tmp (i := 28) (by kernel_rfl)] at e31
      have d28 : RS w.heap.size (.rule ⟨4, 0, 0, [⟨#[48, 49]⟩, ⟨#[48, 50]⟩]⟩) (vals 28) W := hd 28 (by kernel_rfl)
      generalize vals 28 = v28 at e31 d28
      clear ht hd
      show StepOK Tryz.prog (execOp ρ _) (RS w.heap.size (.fld ⟨⟨#[109, 101, 115, 115, 97, 103, 101, 67, 97, 116, 101, 103, 111, 114, 121]⟩, ⟨4, 0, 0, [⟨#[48, 49]⟩, ⟨#[48, 50]⟩]⟩, ⟨#[82, 45, 45, 45, 82, 45, 45, 45, 45]⟩⟩)) _ W
      obtain ⟨v', hv', hs⟩ := d28
      rw [hv'] at e31
      unfold StepOK
      go_simp
      first | exact ⟨⟨v', rfl, hs⟩, hC, Below.refl _ _⟩ | exact ⟨⟨v', rfl, hs⟩, Below.refl _ _⟩
    · intro ρ vals W hC hd ht hk hg hf
      have hW : w.heap.size ≤ W.heap.size := Nat.le_trans zB hC.size
      clear ht hd
      show StepOK Tryz.prog (execOp ρ _) (RS w.heap.size (.txt [⟨#[48, 49]⟩, ⟨#[48, 50]⟩, ⟨#[48, 51]⟩, ⟨#[48, 52]⟩])) _ W
      have hx := strsB_new W hW ([⟨#[48, 49]⟩, ⟨#[48, 50]⟩, ⟨#[48, 51]⟩, ⟨#[48, 52]⟩])
      unfold StepOK
      go_simp
      first | exact ⟨hx, hC.alloc hC.size _, (Below.refl _ _).alloc (Nat.le_refl _) _⟩ | exact ⟨hC.alloc hC.size _, (Below.refl _ _).alloc (Nat.le_refl _) _⟩ | exact (Below.refl _ _).alloc (Nat.le_refl _) _
    · intro ρ vals W hC hd ht hk hg hf
      have hW : w.heap.size ≤ W.heap.size := Nat.le_trans zB hC.size
      have e33 := ht 33
      rw [evalS_tmp (i := 30) (by kernel_rfl)] at e33
      have d30 : RS w.heap.size (.txt [⟨#[48, 49]⟩, ⟨#[48, 50]⟩, ⟨#[48, 51]⟩, ⟨#[48, 52]⟩]) (vals 30) W := hd 30 (by kernel_rfl)
      generalize vals 30 = v30 at e33 d30
      clear ht hd
      show StepOK Tryz.prog (execOp ρ _) (RS w.heap.size (.rule ⟨4, 0, 0, [⟨#[48, 49]⟩, ⟨#[48, 50]⟩, ⟨#[48, 51]⟩, ⟨#[48, 52]⟩]⟩)) _ W
      have d30 : StrsB w.heap.size W v30 ([⟨#[48, 49]⟩, ⟨#[48, 50]⟩, ⟨#[48, 51]⟩, ⟨#[48, 52]⟩]) := d30
      unfold StepOK
      go_simp
      exact (among_any v30 ([⟨#[48, 49]⟩, ⟨#[48, 50]⟩, ⟨#[48, 51]⟩, ⟨#[48, 52]⟩]) W d30.strs (by decide)).mono (rule_post hW fun w' hb => hC.trans (hb.mono hC.size))
    · intro ρ vals W hC hd ht hk hg hf
      have hW : w.heap.size ≤ W.heap.size := Nat.le_trans zB hC.size
      have e34 := ht 34
      rw [evalS_tmp (i := 31) (by kernel_rfl)] at e34
      have d31 : RS w.heap.size (.rule ⟨4, 0, 0, [⟨#[48, 49]⟩, ⟨#[48, 50]⟩, ⟨#[48, 51]⟩, ⟨#[48, 52]⟩]⟩) (vals 31) W := hd 31 (by kernel_rfl)
      generalize vals 31 = v31 at e34 d31
      clear ht hd
      show StepOK Tryz.prog (execOp ρ _) (RS w.heap.size (.fld ⟨⟨#[99, 104, 97, 108, 108, 101, 110, 103, 101, 73, 110, 100]⟩, ⟨4, 0, 0, [⟨#[48, 49]⟩, ⟨#[48, 50]⟩, ⟨#[48, 51]⟩, ⟨#[48, 52]⟩]⟩, ⟨#[111, 45, 45, 45, 45, 45, 45, 45, 45]⟩⟩)) _ W
      obtain ⟨v', hv', hs⟩ := d31
      rw [hv'] at e34
      unfold StepOK
      go_simp
      first | exact ⟨⟨v', rfl, hs⟩, hC, Below.refl _ _⟩ | exact ⟨⟨v', rfl, hs⟩, Below.refl _ _⟩
    · intro ρ vals W hC hd ht hk hg hf
      have hW : w.heap.size ≤ W.heap.size := Nat.le_trans zB hC.size
      clear ht hd
      show StepOK Tryz.prog (execOp ρ _) (RS w.heap.size (.txt [⟨#[48, 49]⟩, ⟨#[48, 50]⟩, ⟨#[48, 51]⟩])) _ W
      have hx := strsB_new W hW ([⟨#[48, 49]⟩, ⟨#[48, 50]⟩, ⟨#[48, 51]⟩])
      unfold StepOK
      go_simp
      first | exact ⟨hx, hC.alloc hC.size _, (Below.refl _ _).alloc (Nat.le_refl _) _⟩ | exact ⟨hC.alloc hC.size _, (Below.refl _ _).alloc (Nat.le_refl _) _⟩ | exact (Below.refl _ _).alloc (Nat.le_refl _) _
    · intro ρ vals W hC hd ht hk hg hf
      have hW : w.heap.size ≤ W.heap.size := Nat.le_trans zB hC.size
      have e36 := ht 36
      rw [evalS_tmp (i := 33) (by kernel_rfl)] at e36
      have d33 : RS w.heap.size (.txt [⟨#[48, 49]⟩, ⟨#[48, 50]⟩, ⟨#[48, 51]⟩]) (vals 33) W := hd 33 (by kernel_rfl)
      generalize vals 33 = v33 at e36 d33
      clear ht hd
      show StepOK Tryz.prog (execOp ρ _) (RS w.heap.size (.rule ⟨4, 0, 0, [⟨#[48, 49]⟩, ⟨#[48, 50]⟩, ⟨#[48, 51]⟩]⟩)) _ W
      have d33 : StrsB w.heap.size W v33 ([⟨#[48, 49]⟩, ⟨#[48, 50]⟩, ⟨#[48, 51]⟩]) := d33
      unfold StepOK
      go_simp
      exact (among_any v33 ([⟨#[48, 49]⟩, ⟨#[48, 50]⟩, ⟨#[48, 51]⟩]) W d33.strs (by decide)).mono (rule_post hW fun w' hb => hC.trans (hb.mono hC.size))
    · intro ρ vals W hC hd ht hk hg hf
      have hW : w.heap.size ≤ W.heap.size := Nat.le_trans zB hC.size
      have e37 := ht 37
      rw [evalS_tmp (i := 34) (by kernel_rfl)] at e37
      have d34 : RS w.heap.size (.rule ⟨4, 0, 0, [⟨#[48, 49]⟩, ⟨#[48, 50]⟩, ⟨#[48, 51]⟩]⟩) (vals 34) W := hd 34 (by kernel_rfl)
      generalize vals 34 = v34 at e37 d34
      clear ht hd
      show StepOK Tryz.prog (execOp ρ _) (RS w.heap.size (.fld ⟨⟨#[97, 99, 99, 116, 84, 121, 112, 101]⟩, ⟨4, 0, 0, [⟨#[48, 49]⟩, ⟨#[48, 50]⟩, ⟨#[48, 51]⟩]⟩, ⟨#[111, 45, 45, 45, 45, 45, 45, 45, 45]⟩⟩)) _ W
      obtain ⟨v', hv', hs⟩ := d34
      rw [hv'] at e37
      unfold StepOK
      go_simp
      first | exact ⟨⟨v', rfl, hs⟩, hC, Below.refl _ _⟩ | exact ⟨⟨v', rfl, hs⟩, Below.refl _ _⟩
    · intro ρ vals W hC hd ht hk hg hf
      have hW : w.heap.size ≤ W.heap.size := Nat.le_trans zB hC.size
      clear ht hd
      show StepOK Tryz.prog (execOp ρ _) (RS w.heap.size (.txt [⟨#[89]⟩, ⟨#[78]⟩, ⟨#[85]⟩, ⟨#[65]⟩, ⟨#[67]⟩, ⟨#[82]⟩])) _ W
      have hx := strsB_new W hW ([⟨#[89]⟩, ⟨#[78]⟩, ⟨#[85]⟩, ⟨#[65]⟩, ⟨#[67]⟩, ⟨#[82]⟩])
      unfold StepOK
      go_simp
      first | exact ⟨hx, hC.alloc hC.size _, (Below.refl _ _).alloc (Nat.le_refl _) _⟩ | exact ⟨hC.alloc hC.size _, (Below.refl _ _).alloc (Nat.le_refl _) _⟩ | exact (Below.refl _ _).alloc (Nat.le_refl _) _
    · intro ρ vals W hC hd ht hk hg hf
      have hW : w.heap.size ≤ W.heap.size := Nat.le_trans zB hC.size
      have e39 := ht 39
      rw [evalS_tmp (i := 36) (by kernel_rfl)] at e39
      have d36 : RS w.heap.size (.txt [⟨#[89]⟩, ⟨#[78]⟩, ⟨#[85]⟩, ⟨#[65]⟩, ⟨#[67]⟩, ⟨#[82]⟩]) (vals 36) W := hd 36 (by kernel_rfl)
      generalize vals 36 = v36 at e39 d36
      clear ht hd
      show StepOK Tryz.prog (execOp ρ _) (RS w.heap.size (.rule ⟨4, 0, 0, [⟨#[89]⟩, ⟨#[78]⟩, ⟨#[85]⟩, ⟨#[65]⟩, ⟨#[67]⟩, ⟨#[82]⟩]⟩)) _ W
      have d36 : StrsB w.heap.size W v36 ([⟨#[89]⟩, ⟨#[78]⟩, ⟨#[85]⟩, ⟨#[65]⟩, ⟨#[67]⟩, ⟨#[82]⟩]) := d36
      unfold StepOK
      go_simp
      exact (among_any v36 ([⟨#[89]⟩, ⟨#[78]⟩, ⟨#[85]⟩, ⟨#[65]⟩, ⟨#[67]⟩, ⟨#[82]⟩]) W d36.strs (by decide)).mono (rule_post hW fun w' hb => hC.trans (hb.mono hC.size))
    · intro ρ vals W hC hd ht hk hg hf
      have hW : w.heap.size ≤ W.heap.size := Nat.le_trans zB hC.size
      have e40 := ht 40
      rw [evalS_tmp (i := 37) (by kernel_rfl)] at e40
      have d37 : RS w.heap.size (.rule ⟨4, 0, 0, [⟨#[89]⟩, ⟨#[78]⟩, ⟨#[85]⟩, ⟨#[65]⟩, ⟨#[67]⟩, ⟨#[82]⟩]⟩) (vals 37) W := hd 37 (by kernel_rfl)
      generalize vals 37 = v37 at e40 d37
      clear ht hd
      show StepOK Tryz.prog (execOp ρ _) (RS w.heap.size (.fld ⟨⟨#[116, 114, 97, 110, 115, 83, 116, 97, 116, 117, 115]⟩, ⟨4, 0, 0, [⟨#[89]⟩, ⟨#[78]⟩, ⟨#[85]⟩, ⟨#[65]⟩, ⟨#[67]⟩, ⟨#[82]⟩]⟩, ⟨#[45, 82, 45, 111, 82, 45, 45, 45, 45]⟩⟩)) _ W
      obtain ⟨v', hv', hs⟩ := d37
      rw [hv'] at e40
      unfold StepOK
      go_simp
      first | exact ⟨⟨v', rfl, hs⟩, hC, Below.refl _ _⟩ | exact ⟨⟨v', rfl, hs⟩, Below.refl _ _⟩
    · intro ρ vals W hC hd ht hk hg hf
      have hW : w.heap.size ≤ W.heap.size := Nat.le_trans zB hC.size
      clear ht hd
      show StepOK Tryz.prog (execOp ρ _) (RS w.heap.size (.rule ⟨1, 2, 2, []⟩)) _ W
      unfold StepOK
      go_simp
      exact (cfigures_any 2 W).mono (rule_post hW fun w' hb => hC.trans (hb.mono hC.size))
    · intro ρ vals W hC hd ht hk hg hf
      have hW : w.heap.size ≤ W.heap.size := Nat.le_trans zB hC.size
      have e42 := ht 42
      rw [evalS_tmp (i := 39) (by kernel_rfl)] at e42
      have d39 : RS w.heap.size (.rule ⟨1, 2, 2, []⟩) (vals 39) W := hd 39 (by kernel_rfl)
      generalize vals 39 = v39 at e42 d39
      clear ht hd
      show StepOK Tryz.prog (execOp ρ _) (RS w.heap.size (.fld ⟨⟨#[116, 114, 97, 110, 115, 83, 116, 97, 116, 117, 115, 82, 101, 97, 115, 111, 110]⟩, ⟨1, 2, 2, []⟩, ⟨#[45, 111, 45, 45, 111, 45, 45, 45, 45]⟩⟩)) _ W
      obtain ⟨v', hv', hs⟩ := d39
      rw [hv'] at e42
      unfold StepOK
      go_simp
      first | exact ⟨⟨v', rfl, hs⟩, hC, Below.refl _ _⟩ | exact ⟨⟨v', rfl, hs⟩, Below.refl _ _⟩
    · intro ρ vals W hC hd ht hk hg hf
      have hW : w.heap.size ≤ W.heap.size := Nat.le_trans zB hC.size
      clear ht hd
      show StepOK Tryz.prog (execOp ρ _) (RS w.heap.size (.rule ⟨7, 20, 0, []⟩)) _ W
      unfold StepOK
      go_simp
      exact (OfR_any 7 20 0 (.slice none 0 0) [] W (strs_nil0 _ none 0) (by simp)).mono (rule_post hW fun w' hb => hC.trans (hb.mono hC.size))
    · intro ρ vals W hC hd ht hk hg hf
      have hW : w.heap.size ≤ W.heap.size := Nat.le_trans zB hC.size
      have e44 := ht 44
      rw [evalS_tmp (i := 41) (by kernel_rfl)] at e44
      have d41 : RS w.heap.size (.rule ⟨7, 20, 0, []⟩) (vals 41) W := hd 41 (by kernel_rfl)
      generalize vals 41 = v41 at e44 d41
      clear ht hd
      show StepOK Tryz.prog (execOp ρ _) (RS w.heap.size (.fld ⟨⟨#[97, 117, 116, 104, 101, 110, 116, 105, 99, 97, 116, 105, 111, 110, 86, 97, 108, 117, 101]⟩, ⟨7, 20, 0, []⟩, ⟨#[45, 111, 45, 45, 111, 45, 45, 45, 45]⟩⟩)) _ W
      obtain ⟨v', hv', hs⟩ := d41
      rw [hv'] at e44
      unfold StepOK
      go_simp
      first | exact ⟨⟨v', rfl, hs⟩, hC, Below.refl _ _⟩ | exact ⟨⟨v', rfl, hs⟩, Below.refl _ _⟩
    · intro ρ vals W hC hd ht hk hg hf
      have hW : w.heap.size ≤ W.heap.size := Nat.le_trans zB hC.size
      clear ht hd
      show StepOK Tryz.prog (execOp ρ _) (RS w.heap.size (.rule ⟨1, 2, 2, []⟩)) _ W
      unfold StepOK
      go_simp
      exact (cfigures_any 2 W).mono (rule_post hW fun w' hb => hC.trans (hb.mono hC.size))
    · intro ρ vals W hC hd ht hk hg hf
      have hW : w.heap.size ≤ W.heap.size := Nat.le_trans zB hC.size
      have e46 := ht 46
      rw [evalS_tmp (i := 43) (by kernel_rfl)] at e46
      have d43 : RS w.heap.size (.rule ⟨1, 2, 2, []⟩) (vals 43) W := hd 43 (by kernel_rfl)
      generalize vals 43 = v43 at e46 d43
      clear ht hd
      show StepOK Tryz.prog (execOp ρ _) (RS w.heap.size (.fld ⟨⟨#[101, 99, 105]⟩, ⟨1, 2, 2, []⟩, ⟨#[45, 111, 45, 45, 111, 45, 45, 45, 45]⟩⟩)) _ W
      obtain ⟨v', hv', hs⟩ := d43
      rw [hv'] at e46
      unfold StepOK
      go_simp
      first | exact ⟨⟨v', rfl, hs⟩, hC, Below.refl _ _⟩ | exact ⟨⟨v', rfl, hs⟩, Below.refl _ _⟩
    · intro ρ vals W hC hd ht hk hg hf
      have hW : w.heap.size ≤ W.heap.size := Nat.le_trans zB hC.size
      clear ht hd
      show StepOK Tryz.prog (execOp ρ _) (RS w.heap.size (.txt [⟨#[48, 49]⟩, ⟨#[48, 50]⟩, ⟨#[48, 51]⟩, ⟨#[48, 52]⟩, ⟨#[48, 53]⟩])) _ W
      have hx := strsB_new W hW ([⟨#[48, 49]⟩, ⟨#[48, 50]⟩, ⟨#[48, 51]⟩, ⟨#[48, 52]⟩, ⟨#[48, 53]⟩])
      unfold StepOK
      go_simp
      first | exact ⟨hx, hC.alloc hC.size _, (Below.refl _ _).alloc (Nat.le_refl _) _⟩ | exact ⟨hC.alloc hC.size _, (Below.refl _ _).alloc (Nat.le_refl _) _⟩ | exact (Below.refl _ _).alloc (Nat.le_refl _) _
    · intro ρ vals W hC hd ht hk hg hf
      have hW : w.heap.size ≤ W.heap.size := Nat.le_trans zB hC.size
      have e48 := ht 48
      rw [evalS_tmp (i := 45) (by kernel_rfl)] at e48
      have d45 : RS w.heap.size (.txt [⟨#[48, 49]⟩, ⟨#[48, 50]⟩, ⟨#[48, 51]⟩, ⟨#[48, 52]⟩, ⟨#[48, 53]⟩]) (vals 45) W := hd 45 (by kernel_rfl)
      generalize vals 45 = v45 at e48 d45
      clear ht hd
      show StepOK Tryz.prog (execOp ρ _) (RS w.heap.size (.rule ⟨4, 0, 0, [⟨#[48, 49]⟩, ⟨#[48, 50]⟩, ⟨#[48, 51]⟩, ⟨#[48, 52]⟩, ⟨#[48, 53]⟩]⟩)) _ W
      have d45 : StrsB w.heap.size W v45 ([⟨#[48, 49]⟩, ⟨#[48, 50]⟩, ⟨#[48, 51]⟩, ⟨#[48, 52]⟩, ⟨#[48, 53]⟩]) := d45
      unfold StepOK
      go_simp
      exact (among_any v45 ([⟨#[48, 49]⟩, ⟨#[48, 50]⟩, ⟨#[48, 51]⟩, ⟨#[48, 52]⟩, ⟨#[48, 53]⟩]) W d45.strs (by decide)).mono (rule_post hW fun w' hb => hC.trans (hb.mono hC.size))
    · intro ρ vals W hC hd ht hk hg hf
      have hW : w.heap.size ≤ W.heap.size := Nat.le_trans zB hC.size
      have e49 := ht 49
      rw [evalS_tmp (i := 46) (by kernel_rfl)] at e49
      have d46 : RS w.heap.size (.rule ⟨4, 0, 0, [⟨#[48, 49]⟩, ⟨#[48, 50]⟩, ⟨#[48, 51]⟩, ⟨#[48, 52]⟩, ⟨#[48, 53]⟩]⟩) (vals 46) W := hd 46 (by kernel_rfl)
      generalize vals 46 = v46 at e49 d46
      clear ht hd
      show StepOK Tryz.prog (execOp ρ _) (RS w.heap.size (.fld ⟨⟨#[99, 104, 97, 108, 108, 101, 110, 103, 101, 87, 105, 110, 100, 111, 119, 83, 105, 122, 101]⟩, ⟨4, 0, 0, [⟨#[48, 49]⟩, ⟨#[48, 50]⟩, ⟨#[48, 51]⟩, ⟨#[48, 52]⟩, ⟨#[48, 53]⟩]⟩, ⟨#[45, 45, 82, 45, 45, 45, 45, 45, 45]⟩⟩)) _ W
      obtain ⟨v', hv', hs⟩ := d46
      rw [hv'] at e49
      unfold StepOK
      go_simp
      first | exact ⟨⟨v', rfl, hs⟩, hC, Below.refl _ _⟩ | exact ⟨⟨v', rfl, hs⟩, Below.refl _ _⟩
    · intro ρ vals W hC hd ht hk hg hf
      have hW : w.heap.size ≤ W.heap.size := Nat.le_trans zB hC.size
      clear ht hd
      show StepOK Tryz.prog (execOp ρ _) (RS w.heap.size (.rule ⟨2, 1, 45, []⟩)) _ W
      unfold StepOK
      go_simp
      exact (ctext_any 1 45 W).mono (rule_post hW fun w' hb => hC.trans (hb.mono hC.size))
    · intro ρ vals W hC hd ht hk hg hf
      have hW : w.heap.size ≤ W.heap.size := Nat.le_trans zB hC.size
      have e51 := ht 51
      rw [evalS_tmp (i := 48) (by kernel_rfl)] at e51
      have d48 : RS w.heap.size (.rule ⟨2, 1, 45, []⟩) (vals 48) W := hd 48 (by kernel_rfl)
      generalize vals 48 = v48 at e51 d48
      clear ht hd
      show StepOK Tryz.prog (execOp ρ _) (RS w.heap.size (.fld ⟨⟨#[99, 104, 97, 108, 108, 101, 110, 103, 101, 68, 97, 116, 97, 69, 110, 116, 114, 121]⟩, ⟨2, 1, 45, []⟩, ⟨#[45, 45, 111, 45, 45, 45, 45, 45, 45]⟩⟩)) _ W
      obtain ⟨v', hv', hs⟩ := d48
      rw [hv'] at e51
      unfold StepOK
      go_simp
      first | exact ⟨⟨v', rfl, hs⟩, hC, Below.refl _ _⟩ | exact ⟨⟨v', rfl, hs⟩, Below.refl _ _⟩
    · intro ρ vals W hC hd ht hk hg hf
      have hW : w.heap.size ≤ W.heap.size := Nat.le_trans zB hC.size
      clear ht hd
      show StepOK Tryz.prog (execOp ρ _) (RS w.heap.size (.txt [⟨#[48, 49]⟩, ⟨#[48, 50]⟩, ⟨#[48, 51]⟩, ⟨#[48, 52]⟩, ⟨#[48, 53]⟩, ⟨#[48, 54]⟩, ⟨#[48, 55]⟩, ⟨#[48, 56]⟩])) _ W
      have hx := strsB_new W hW ([⟨#[48, 49]⟩, ⟨#[48, 50]⟩, ⟨#[48, 51]⟩, ⟨#[48, 52]⟩, ⟨#[48, 53]⟩, ⟨#[48, 54]⟩, ⟨#[48, 55]⟩, ⟨#[48, 56]⟩])
      unfold StepOK
      go_simp
      first | exact ⟨hx, hC.alloc hC.size _, (Below.refl _ _).alloc (Nat.le_refl _) _⟩ | exact ⟨hC.alloc hC.size _, (Below.refl _ _).alloc (Nat.le_refl _) _⟩ | exact (Below.refl _ _).alloc (Nat.le_refl _) _
    · intro ρ vals W hC hd ht hk hg hf
      have hW : w.heap.size ≤ W.heap.size := Nat.le_trans zB hC.size
      have e53 := ht 53
      rw [evalS_tmp (i := 50) (by kernel_rfl)] at e53
      have d50 : RS w.heap.size (.txt [⟨#[48, 49]⟩, ⟨#[48, 50]⟩, ⟨#[48, 51]⟩, ⟨#[48, 52]⟩, ⟨#[48, 53]⟩, ⟨#[48, 54]⟩, ⟨#[48, 55]⟩, ⟨#[48, 56]⟩]) (vals 50) W := hd 50 (by kernel_rfl)
      generalize vals 50 = v50 at e53 d50
      clear ht hd
      show StepOK Tryz.prog (execOp ρ _) (RS w.heap.size (.rule ⟨4, 0, 0, [⟨#[48, 49]⟩, ⟨#[48, 50]⟩, ⟨#[48, 51]⟩, ⟨#[48, 52]⟩, ⟨#[48, 53]⟩, ⟨#[48, 54]⟩, ⟨#[48, 55]⟩, ⟨#[48, 56]⟩]⟩)) _ W
      have d50 : StrsB w.heap.size W v50 ([⟨#[48, 49]⟩, ⟨#[48, 50]⟩, ⟨#[48, 51]⟩, ⟨#[48, 52]⟩, ⟨#[48, 53]⟩, ⟨#[48, 54]⟩, ⟨#[48, 55]⟩, ⟨#[48, 56]⟩]) := d50
      unfold StepOK
      go_simp
      exact (among_any v50 ([⟨#[48, 49]⟩, ⟨#[48, 50]⟩, ⟨#[48, 51]⟩, ⟨#[48, 52]⟩, ⟨#[48, 53]⟩, ⟨#[48, 54]⟩, ⟨#[48, 55]⟩, ⟨#[48, 56]⟩]) W d50.strs (by decide)).mono (rule_post hW fun w' hb => hC.trans (hb.mono hC.size))
    · intro ρ vals W hC hd ht hk hg hf
      have hW : w.heap.size ≤ W.heap.size := Nat.le_trans zB hC.size
      have e54 := ht 54
      rw [evalS_tmp (i := 51) (by kernel_rfl)] at e54
      have d51 : RS w.heap.size (.rule ⟨4, 0, 0, [⟨#[48, 49]⟩, ⟨#[48, 50]⟩, ⟨#[48, 51]⟩, ⟨#[48, 52]⟩, ⟨#[48, 53]⟩, ⟨#[48, 54]⟩, ⟨#[48, 55]⟩, ⟨#[48, 56]⟩]⟩) (vals 51) W := hd 51 (by kernel_rfl)
      generalize vals 51 = v51 at e54 d51
      clear ht hd
      show StepOK Tryz.prog (execOp ρ _) (RS w.heap.size (.fld ⟨⟨#[99, 104, 97, 108, 108, 101, 110, 103, 101, 67, 97, 110, 99, 101, 108]⟩, ⟨4, 0, 0, [⟨#[48, 49]⟩, ⟨#[48, 50]⟩, ⟨#[48, 51]⟩, ⟨#[48, 52]⟩, ⟨#[48, 53]⟩, ⟨#[48, 54]⟩, ⟨#[48, 55]⟩, ⟨#[48, 56]⟩]⟩, ⟨#[45, 45, 111, 45, 45, 45, 45, 45, 45]⟩⟩)) _ W
      obtain ⟨v', hv', hs⟩ := d51
      rw [hv'] at e54
      unfold StepOK
      go_simp
      first | exact ⟨⟨v', rfl, hs⟩, hC, Below.refl _ _⟩ | exact ⟨⟨v', rfl, hs⟩, Below.refl _ _⟩
    · intro ρ vals W hC hd ht hk hg hf
      have hW : w.heap.size ≤ W.heap.size := Nat.le_trans zB hC.size
      clear ht hd
      show StepOK Tryz.prog (execOp ρ _) (RS w.heap.size (.txt [⟨#[89]⟩, ⟨#[78]⟩])) _ W
      have hx := strsB_new W hW ([⟨#[89]⟩, ⟨#[78]⟩])
      unfold StepOK
      go_simp
      first | exact ⟨hx, hC.alloc hC.size _, (Below.refl _ _).alloc (Nat.le_refl _) _⟩ | exact ⟨hC.alloc hC.size _, (Below.refl _ _).alloc (Nat.le_refl _) _⟩ | exact (Below.refl _ _).alloc (Nat.le_refl _) _
    · intro ρ vals W hC hd ht hk hg hf
      have hW : w.heap.size ≤ W.heap.size := Nat.le_trans zB hC.size
      have e56 := ht 56
      rw [evalS_tmp (i := 53) (by kernel_rfl)] at e56
      have d53 : RS w.heap.size (.txt [⟨#[89]⟩, ⟨#[78]⟩]) (vals 53) W := hd 53 (by kernel_rfl)
      generalize vals 53 = v53 at e56 d53
      clear ht hd
      show StepOK Tryz.prog (execOp ρ _) (RS w.heap.size (.rule ⟨4, 0, 0, [⟨#[89]⟩, ⟨#[78]⟩]⟩)) _ W
      have d53 : StrsB w.heap.size W v53 ([⟨#[89]⟩, ⟨#[78]⟩]) := d53
      unfold StepOK
      go_simp
      exact (among_any v53 ([⟨#[89]⟩, ⟨#[78]⟩]) W d53.strs (by decide)).mono (rule_post hW fun w' hb => hC.trans (hb.mono hC.size))
    · intro ρ vals W hC hd ht hk hg hf
      have hW : w.heap.size ≤ W.heap.size := Nat.le_trans zB hC.size
      have e57 := ht 57
      rw [evalS_tmp (i := 54) (by kernel_rfl)] at e57
      have d54 : RS w.heap.size (.rule ⟨4, 0, 0, [⟨#[89]⟩, ⟨#[78]⟩]⟩) (vals 54) W := hd 54 (by kernel_rfl)
      generalize vals 54 = v54 at e57 d54
      clear ht hd
      show StepOK Tryz.prog (execOp ρ _) (RS w.heap.size (.fld ⟨⟨#[99, 104, 97, 108, 108, 101, 110, 103, 101, 67, 111, 109, 112, 108, 101, 116, 105, 111, 110, 73, 110, 100]⟩, ⟨4, 0, 0, [⟨#[89]⟩, ⟨#[78]⟩]⟩, ⟨#[45, 45, 45, 82, 45, 45, 45, 45, 45]⟩⟩)) _ W
      obtain ⟨v', hv', hs⟩ := d54
      rw [hv'] at e57
      unfold StepOK
      go_simp
      first | exact ⟨⟨v', rfl, hs⟩, hC, Below.refl _ _⟩ | exact ⟨⟨v', rfl, hs⟩, Below.refl _ _⟩
    · intro ρ vals W hC hd ht hk hg hf
      have hW : w.heap.size ≤ W.heap.size := Nat.le_trans zB hC.size
      clear ht hd
      show StepOK Tryz.prog (execOp ρ _) (RS w.heap.size (.rule ⟨2, 1, 350, []⟩)) _ W
      unfold StepOK
      go_simp
      exact (ctext_any 1 350 W).mono (rule_post hW fun w' hb => hC.trans (hb.mono hC.size))
    · intro ρ vals W hC hd ht hk hg hf
      have hW : w.heap.size ≤ W.heap.size := Nat.le_trans zB hC.size
      have e59 := ht 59
      rw [evalS_tmp (i := 56) (by kernel_rfl)] at e59
      have d56 : RS w.heap.size (.rule ⟨2, 1, 350, []⟩) (vals 56) W := hd 56 (by kernel_rfl)
      generalize vals 56 = v56 at e59 d56
      clear ht hd
      show StepOK Tryz.prog (execOp ρ _) (RS w.heap.size (.fld ⟨⟨#[99, 104, 97, 108, 108, 101, 110, 103, 101, 73, 110, 102, 111, 84, 101, 120, 116]⟩, ⟨2, 1, 350, []⟩, ⟨#[45, 45, 45, 111, 45, 45, 45, 45, 45]⟩⟩)) _ W
      obtain ⟨v', hv', hs⟩ := d56
      rw [hv'] at e59
      unfold StepOK
      go_simp
      first | exact ⟨⟨v', rfl, hs⟩, hC, Below.refl _ _⟩ | exact ⟨⟨v', rfl, hs⟩, Below.refl _ _⟩
    · intro ρ vals W hC hd ht hk hg hf
      have hW : w.heap.size ≤ W.heap.size := Nat.le_trans zB hC.size
      clear ht hd
      show StepOK Tryz.prog (execOp ρ _) (RS w.heap.size (.rule ⟨1, 2, 2, []⟩)) _ W
      unfold StepOK
      go_simp
      exact (cfigures_any 2 W).mono (rule_post hW fun w' hb => hC.trans (hb.mono hC.size))
    · intro ρ vals W hC hd ht hk hg hf
      have hW : w.heap.size ≤ W.heap.size := Nat.le_trans zB hC.size
      have e61 := ht 61
      rw [evalS_tmp (i := 58) (by kernel_rfl)] at e61
      have d58 : RS w.heap.size (.rule ⟨1, 2, 2, []⟩) (vals 58) W := hd 58 (by kernel_rfl)
      generalize vals 58 = v58 at e61 d58
      clear ht hd
      show StepOK Tryz.prog (execOp ρ _) (RS w.heap.size (.fld ⟨⟨#[105, 110, 116, 101, 114, 97, 99, 116, 105, 111, 110, 67, 111, 117, 110, 116, 101, 114]⟩, ⟨1, 2, 2, []⟩, ⟨#[45, 45, 45, 45, 82, 45, 45, 45, 45]⟩⟩)) _ W
      obtain ⟨v', hv', hs⟩ := d58
      rw [hv'] at e61
      unfold StepOK
      go_simp
      first | exact ⟨⟨v', rfl, hs⟩, hC, Below.refl _ _⟩ | exact ⟨⟨v', rfl, hs⟩, Below.refl _ _⟩
    · intro ρ vals W hC hd ht hk hg hf
      have hW : w.heap.size ≤ W.heap.size := Nat.le_trans zB hC.size
      clear ht hd
      show StepOK Tryz.prog (execOp ρ _) (RS w.heap.size (.txt [⟨#[48, 49]⟩, ⟨#[48, 50]⟩, ⟨#[48, 51]⟩, ⟨#[48, 52]⟩])) _ W
      have hx := strsB_new W hW ([⟨#[48, 49]⟩, ⟨#[48, 50]⟩, ⟨#[48, 51]⟩, ⟨#[48, 52]⟩])
      unfold StepOK
      go_simp
      first | exact ⟨hx, hC.alloc hC.size _, (Below.refl _ _).alloc (Nat.le_refl _) _⟩ | exact ⟨hC.alloc hC.size _, (Below.refl _ _).alloc (Nat.le_refl _) _⟩ | exact (Below.refl _ _).alloc (Nat.le_refl _) _
    · intro ρ vals W hC hd ht hk hg hf
      have hW : w.heap.size ≤ W.heap.size := Nat.le_trans zB hC.size
      have e63 := ht 63
      rw [evalS_tmp (i := 60) (by kernel_rfl)] at e63
      have d60 : RS w.heap.size (.txt [⟨#[48, 49]⟩, ⟨#[48, 50]⟩, ⟨#[48, 51]⟩, ⟨#[48, 52]⟩]) (vals 60) W := hd 60 (by kernel_rfl)
      generalize vals 60 = v60 at e63 d60
      clear ht hd
      show StepOK Tryz.prog (execOp ρ _) (RS w.heap.size (.rule ⟨4, 0, 0, [⟨#[48, 49]⟩, ⟨#[48, 50]⟩, ⟨#[48, 51]⟩, ⟨#[48, 52]⟩]⟩)) _ W
      have d60 : StrsB w.heap.size W v60 ([⟨#[48, 49]⟩, ⟨#[48, 50]⟩, ⟨#[48, 51]⟩, ⟨#[48, 52]⟩]) := d60
      unfold StepOK
      go_simp
      exact (among_any v60 ([⟨#[48, 49]⟩, ⟨#[48, 50]⟩, ⟨#[48, 51]⟩, ⟨#[48, 52]⟩]) W d60.strs (by decide)).mono (rule_post hW fun w' hb => hC.trans (hb.mono hC.size))
    · intro ρ vals W hC hd ht hk hg hf
      have hW : w.heap.size ≤ W.heap.size := Nat.le_trans zB hC.size
      have e64 := ht 64
      rw [evalS_tmp (i := 61) (by kernel_rfl)] at e64
      have d61 : RS w.heap.size (.rule ⟨4, 0, 0, [⟨#[48, 49]⟩, ⟨#[48, 50]⟩, ⟨#[48, 51]⟩, ⟨#[48, 52]⟩]⟩) (vals 61) W := hd 61 (by kernel_rfl)
      generalize vals 61 = v61 at e64 d61
      clear ht hd
      show StepOK Tryz.prog (execOp ρ _) (RS w.heap.size (.fld ⟨⟨#[114, 101, 115, 117, 108, 116, 115, 83, 116, 97, 116, 117, 115]⟩, ⟨4, 0, 0, [⟨#[48, 49]⟩, ⟨#[48, 50]⟩, ⟨#[48, 51]⟩, ⟨#[48, 52]⟩]⟩, ⟨#[45, 45, 45, 45, 45, 82, 45, 45, 45]⟩⟩)) _ W
      obtain ⟨v', hv', hs⟩ := d61
      rw [hv'] at e64
      unfold StepOK
      go_simp
      first | exact ⟨⟨v', rfl, hs⟩, hC, Below.refl _ _⟩ | exact ⟨⟨v', rfl, hs⟩, Below.refl _ _⟩
    · intro ρ vals W hC hd ht hk hg hf
      have hW : w.heap.size ≤ W.heap.size := Nat.le_trans zB hC.size
      clear ht hd
      show StepOK Tryz.prog (execOp ρ _) (RS w.heap.size (.rule ⟨1, 3, 3, []⟩)) _ W
      unfold StepOK
      go_simp
      exact (cfigures_any 3 W).mono (rule_post hW fun w' hb => hC.trans (hb.mono hC.size))
    · intro ρ vals W hC hd ht hk hg hf
      have hW : w.heap.size ≤ W.heap.size := Nat.le_trans zB hC.size
      have e66 := ht 66
      rw [evalS_tmp (i := 63) (by kernel_rfl)] at e66
      have d63 : RS w.heap.size (.rule ⟨1, 3, 3, []⟩) (vals 63) W := hd 63 (by kernel_rfl)
      generalize vals 63 = v63 at e66 d63
      clear ht hd
      show StepOK Tryz.prog (execOp ρ _) (RS w.heap.size (.fld ⟨⟨#[101, 114, 114, 111, 114, 67, 111, 100, 101]⟩, ⟨1, 3, 3, []⟩, ⟨#[45, 45, 45, 45, 45, 45, 82, 45, 45]⟩⟩)) _ W
      obtain ⟨v', hv', hs⟩ := d63
      rw [hv'] at e66
      unfold StepOK
      go_simp
      first | exact ⟨⟨v', rfl, hs⟩, hC, Below.refl _ _⟩ | exact ⟨⟨v', rfl, hs⟩, Below.refl _ _⟩
    · intro ρ vals W hC hd ht hk hg hf
      have hW : w.heap.size ≤ W.heap.size := Nat.le_trans zB hC.size
      clear ht hd
      show StepOK Tryz.prog (execOp ρ _) (RS w.heap.size (.txt [⟨#[65]⟩, ⟨#[67]⟩, ⟨#[68]⟩, ⟨#[83]⟩])) _ W
      have hx := strsB_new W hW ([⟨#[65]⟩, ⟨#[67]⟩, ⟨#[68]⟩, ⟨#[83]⟩])
      unfold StepOK
      go_simp
      first | exact ⟨hx, hC.alloc hC.size _, (Below.refl _ _).alloc (Nat.le_refl _) _⟩ | exact ⟨hC.alloc hC.size _, (Below.refl _ _).alloc (Nat.le_refl _) _⟩ | exact (Below.refl _ _).alloc (Nat.le_refl _) _
    · intro ρ vals W hC hd ht hk hg hf
      have hW : w.heap.size ≤ W.heap.size := Nat.le_trans zB hC.size
      have e68 := ht 68
      rw [evalS_tmp (i := 65) (by kernel_rfl)] at e68
      have d65 : RS w.heap.size (.txt [⟨#[65]⟩, ⟨#[67]⟩, ⟨#[68]⟩, ⟨#[83]⟩]) (vals 65) W := hd 65 (by kernel_rfl)
      generalize vals 65 = v65 at e68 d65
      clear ht hd
      show StepOK Tryz.prog (execOp ρ _) (RS w.heap.size (.rule ⟨4, 0, 0, [⟨#[65]⟩, ⟨#[67]⟩, ⟨#[68]⟩, ⟨#[83]⟩]⟩)) _ W
      have d65 : StrsB w.heap.size W v65 ([⟨#[65]⟩, ⟨#[67]⟩, ⟨#[68]⟩, ⟨#[83]⟩]) := d65
      unfold StepOK
      go_simp
      exact (among_any v65 ([⟨#[65]⟩, ⟨#[67]⟩, ⟨#[68]⟩, ⟨#[83]⟩]) W d65.strs (by decide)).mono (rule_post hW fun w' hb => hC.trans (hb.mono hC.size))
    · intro ρ vals W hC hd ht hk hg hf
      have hW : w.heap.size ≤ W.heap.size := Nat.le_trans zB hC.size
      have e69 := ht 69
      rw [evalS_tmp (i := 66) (by kernel_rfl)] at e69
      have d66 : RS w.heap.size (.rule ⟨4, 0, 0, [⟨#[65]⟩, ⟨#[67]⟩, ⟨#[68]⟩, ⟨#[83]⟩]⟩) (vals 66) W := hd 66 (by kernel_rfl)
      generalize vals 66 = v66 at e69 d66
      clear ht hd
      show StepOK Tryz.prog (execOp ρ _) (RS w.heap.size (.fld ⟨⟨#[101, 114, 114, 111, 114, 67, 111, 109, 112, 111, 110, 101, 110, 116]⟩, ⟨4, 0, 0, [⟨#[65]⟩, ⟨#[67]⟩, ⟨#[68]⟩, ⟨#[83]⟩]⟩, ⟨#[45, 45, 45, 45, 45, 45, 82, 45, 45]⟩⟩)) _ W
      obtain ⟨v', hv', hs⟩ := d66
      rw [hv'] at e69
      unfold StepOK
      go_simp
      first | exact ⟨⟨v', rfl, hs⟩, hC, Below.refl _ _⟩ | exact ⟨⟨v', rfl, hs⟩, Below.refl _ _⟩
    · intro ρ vals W hC hd ht hk hg hf
      have hW : w.heap.size ≤ W.heap.size := Nat.le_trans zB hC.size
      clear ht hd
      show StepOK Tryz.prog (execOp ρ _) (RS w.heap.size (.rule ⟨2, 1, 200, []⟩)) _ W
      unfold StepOK
      go_simp
      exact (ctext_any 1 200 W).mono (rule_post hW fun w' hb => hC.trans (hb.mono hC.size))
    · intro ρ vals W hC hd ht hk hg hf
      have hW : w.heap.size ≤ W.heap.size := Nat.le_trans zB hC.size
      have e71 := ht 71
      rw [evalS_tmp (i := 68) (by kernel_rfl)] at e71
      have d68 : RS w.heap.size (.rule ⟨2, 1, 200, []⟩) (vals 68) W := hd 68 (by kernel_rfl)
      generalize vals 68 = v68 at e71 d68
      clear ht hd
      show StepOK Tryz.prog (execOp ρ _) (RS w.heap.size (.fld ⟨⟨#[101, 114, 114, 111, 114, 68, 101, 115, 99, 114, 105, 112, 116, 105, 111, 110]⟩, ⟨2, 1, 200, []⟩, ⟨#[45, 45, 45, 45, 45, 45, 82, 45, 45]⟩⟩)) _ W
      obtain ⟨v', hv', hs⟩ := d68
      rw [hv'] at e71
      unfold StepOK
      go_simp
      first | exact ⟨⟨v', rfl, hs⟩, hC, Below.refl _ _⟩ | exact ⟨⟨v', rfl, hs⟩, Below.refl _ _⟩
    · intro ρ vals W hC hd ht hk hg hf
      have hW : w.heap.size ≤ W.heap.size := Nat.le_trans zB hC.size
      clear ht hd
      show StepOK Tryz.prog (execOp ρ _) (RS w.heap.size (.rule ⟨2, 0, 300, []⟩)) _ W
      unfold StepOK
      go_simp
      exact (ctext_any 0 300 W).mono (rule_post hW fun w' hb => hC.trans (hb.mono hC.size))
    · intro ρ vals W hC hd ht hk hg hf
      have hW : w.heap.size ≤ W.heap.size := Nat.le_trans zB hC.size
      have e73 := ht 73
      rw [evalS_tmp (i := 70) (by kernel_rfl)] at e73
      have d70 : RS w.heap.size (.rule ⟨2, 0, 300, []⟩) (vals 70) W := hd 70 (by kernel_rfl)
      generalize vals 70 = v70 at e73 d70
      clear ht hd
      show StepOK Tryz.prog (execOp ρ _) (RS w.heap.size (.fld ⟨⟨#[101, 114, 114, 111, 114, 68, 101, 116, 97, 105, 108]⟩, ⟨2, 0, 300, []⟩, ⟨#[45, 45, 45, 45, 45, 45, 82, 45, 45]⟩⟩)) _ W
      obtain ⟨v', hv', hs⟩ := d70
      rw [hv'] at e73
      unfold StepOK
      go_simp
      first | exact ⟨⟨v', rfl, hs⟩, hC, Below.refl _ _⟩ | exact ⟨⟨v', rfl, hs⟩, Below.refl _ _⟩
    · intro ρ vals W hC hd ht hk hg hf
      have hW : w.heap.size ≤ W.heap.size := Nat.le_trans zB hC.size
      have e1 := ht 1
      rw [evalS_old (by kernel_rfl)] at e1
      clear ht hd
      show StepOK Tryz.prog (execOp ρ _) (RS w.heap.size (.txt msgL)) _ W
      have hx := strsB_msgs (rN.below hC lN) gN
      unfold StepOK
      go_simp
      first | exact ⟨hx, hC, Below.refl _ _⟩ | exact ⟨hC, Below.refl _ _⟩ | exact ⟨hx, Below.refl _ _⟩ | exact Below.refl _ _
    · intro ρ vals W hC hd ht hk hg hf
      have hW : w.heap.size ≤ W.heap.size := Nat.le_trans zB hC.size
      have e75 := ht 75
      rw [evalS_tmp (i := 72) (by kernel_rfl)] at e75
      have d72 : RS w.heap.size (.txt msgL) (vals 72) W := hd 72 (by kernel_rfl)
      generalize vals 72 = v72 at e75 d72
      clear ht hd
      show StepOK Tryz.prog (execOp ρ _) (RS w.heap.size (.rule ⟨4, 0, 0, msgL⟩)) _ W
      have d72 : StrsB w.heap.size W v72 (msgL) := d72
      unfold StepOK
      go_simp
      exact (among_any v72 (msgL) W d72.strs (by decide)).mono (rule_post hW fun w' hb => hC.trans (hb.mono hC.size))
    · intro ρ vals W hC hd ht hk hg hf
      have hW : w.heap.size ≤ W.heap.size := Nat.le_trans zB hC.size
      have e76 := ht 76
      rw [evalS_tmp (i := 73) (by kernel_rfl)] at e76
      have d73 : RS w.heap.size (.rule ⟨4, 0, 0, msgL⟩) (vals 73) W := hd 73 (by kernel_rfl)
      generalize vals 73 = v73 at e76 d73
      clear ht hd
      show StepOK Tryz.prog (execOp ρ _) (RS w.heap.size (.fld ⟨⟨#[101, 114, 114, 111, 114, 77, 101, 115, 115, 97, 103, 101, 84, 121, 112, 101]⟩, ⟨4, 0, 0, msgL⟩, ⟨#[45, 45, 45, 45, 45, 45, 111, 45, 45]⟩⟩)) _ W
      obtain ⟨v', hv', hs⟩ := d73
      rw [hv'] at e76
      unfold StepOK
      go_simp
      first | exact ⟨⟨v', rfl, hs⟩, hC, Below.refl _ _⟩ | exact ⟨⟨v', rfl, hs⟩, Below.refl _ _⟩
    · intro ρ vals W hC hd ht hk hg hf
      have hW : w.heap.size ≤ W.heap.size := Nat.le_trans zB hC.size
      clear ht hd
      show StepOK Tryz.prog (execOp ρ _) (RS w.heap.size (.rule ⟨8, 1, 20, []⟩)) _ W
      unfold StepOK
      go_simp
      exact (OfR_any 8 1 20 (.slice none 0 0) [] W (strs_nil0 _ none 0) (by simp)).mono (rule_post hW fun w' hb => hC.trans (hb.mono hC.size))
    · intro ρ vals W hC hd ht hk hg hf
      have hW : w.heap.size ≤ W.heap.size := Nat.le_trans zB hC.size
      have e78 := ht 78
      rw [evalS_tmp (i := 75) (by kernel_rfl)] at e78
      have d75 : RS w.heap.size (.rule ⟨8, 1, 20, []⟩) (vals 75) W := hd 75 (by kernel_rfl)
      generalize vals 75 = v75 at e78 d75
      clear ht hd
      show StepOK Tryz.prog (execOp ρ _) (RS w.heap.size (.fld ⟨⟨#[115, 101, 114, 105, 97, 108, 78, 117, 109]⟩, ⟨8, 1, 20, []⟩, ⟨#[45, 45, 45, 45, 45, 45, 45, 111, 82]⟩⟩)) _ W
      obtain ⟨v', hv', hs⟩ := d75
      rw [hv'] at e78
      unfold StepOK
      go_simp
      first | exact ⟨⟨v', rfl, hs⟩, hC, Below.refl _ _⟩ | exact ⟨⟨v', rfl, hs⟩, Below.refl _ _⟩
    · intro ρ vals W hC hd ht hk hg hf
      have hW : w.heap.size ≤ W.heap.size := Nat.le_trans zB hC.size
      have e5 := ht 5
      rw [evalS_tmp (i := 2) (by kernel_rfl)] at e5
      have d2 : RS w.heap.size (.fld ⟨⟨#[109, 101, 115, 115, 97, 103, 101, 84, 121, 112, 101]⟩, ⟨4, 0, 0, msgL⟩, ⟨#[82, 82, 82, 82, 82, 82, 82, 82, 82]⟩⟩) (vals 2) W := hd 2 (by kernel_rfl)
      generalize vals 2 = v2 at e5 d2
      have e8 := ht 8
      rw [evalS_tmp (i := 5) (by kernel_rfl)] at e8
      have d5 : RS w.heap.size (.fld ⟨⟨#[109, 101, 115, 115, 97, 103, 101, 86, 101, 114, 115, 105, 111, 110]⟩, ⟨4, 0, 0, [⟨#[50, 46, 49, 46, 48]⟩, ⟨#[50, 46, 50, 46, 48]⟩]⟩, ⟨#[82, 82, 82, 82, 82, 82, 82, 82, 82]⟩⟩) (vals 5) W := hd 5 (by kernel_rfl)
      generalize vals 5 = v5 at e8 d5
      have e10 := ht 10
      rw [evalS_tmp (i := 7) (by kernel_rfl)] at e10
      have d7 : RS w.heap.size (.fld ⟨⟨#[116, 104, 114, 101, 101, 68, 83, 83, 101, 114, 118, 101, 114, 84, 114, 97, 110, 115, 73, 68]⟩, ⟨3, 0, 0, []⟩, ⟨#[82, 82, 82, 82, 82, 82, 111, 82, 82]⟩⟩) (vals 7) W := hd 7 (by kernel_rfl)
      generalize vals 7 = v7 at e10 d7
      have e12 := ht 12
      rw [evalS_tmp (i := 9) (by kernel_rfl)] at e12
      have d9 : RS w.heap.size (.fld ⟨⟨#[100, 115, 84, 114, 97, 110, 115, 73, 68]⟩, ⟨3, 0, 0, []⟩, ⟨#[45, 82, 45, 45, 82, 82, 111, 45, 82]⟩⟩) (vals 9) W := hd 9 (by kernel_rfl)
      generalize vals 9 = v9 at e12 d9
      have e14 := ht 14
      rw [evalS_tmp (i := 11) (by kernel_rfl)] at e14
      have d11 : RS w.heap.size (.fld ⟨⟨#[97, 99, 115, 84, 114, 97, 110, 115, 73, 68]⟩, ⟨3, 0, 0, []⟩, ⟨#[45, 82, 82, 82, 82, 82, 111, 45, 45]⟩⟩) (vals 11) W := hd 11 (by kernel_rfl)
      generalize vals 11 = v11 at e14 d11
      have e16 := ht 16
      rw [evalS_tmp (i := 13) (by kernel_rfl)] at e16
      have d13 : RS w.heap.size (.fld ⟨⟨#[97, 99, 99, 116, 78, 117, 109, 98, 101, 114]⟩, ⟨5, 0, 0, []⟩, ⟨#[82, 45, 45, 45, 45, 45, 45, 45, 45]⟩⟩) (vals 13) W := hd 13 (by kernel_rfl)
      generalize vals 13 = v13 at e16 d13
      have e18 := ht 18
      rw [evalS_tmp (i := 15) (by kernel_rfl)] at e18
      have d15 : RS w.heap.size (.fld ⟨⟨#[112, 117, 114, 99, 104, 97, 115, 101, 65, 109, 111, 117, 110, 116]⟩, ⟨8, 1, 12, []⟩, ⟨#[82, 45, 45, 45, 45, 45, 45, 45, 45]⟩⟩) (vals 15) W := hd 15 (by kernel_rfl)
      generalize vals 15 = v15 at e18 d15
      have e20 := ht 20
      rw [evalS_tmp (i := 17) (by kernel_rfl)] at e20
      have d17 : RS w.heap.size (.fld ⟨⟨#[112, 117, 114, 99, 104, 97, 115, 101, 67, 117, 114, 114, 101, 110, 99, 121]⟩, ⟨1, 3, 3, []⟩, ⟨#[82, 45, 45, 45, 45, 45, 45, 45, 45]⟩⟩) (vals 17) W := hd 17 (by kernel_rfl)
      generalize vals 17 = v17 at e20 d17
      have e22 := ht 22
      rw [evalS_tmp (i := 19) (by kernel_rfl)] at e22
      have d19 : RS w.heap.size (.fld ⟨⟨#[112, 117, 114, 99, 104, 97, 115, 101, 68, 97, 116, 101]⟩, ⟨6, 0, 0, []⟩, ⟨#[82, 45, 45, 45, 45, 45, 45, 45, 45]⟩⟩) (vals 19) W := hd 19 (by kernel_rfl)
      generalize vals 19 = v19 at e22 d19
      have e24 := ht 24
      rw [evalS_tmp (i := 21) (by kernel_rfl)] at e24
      have d21 : RS w.heap.size (.fld ⟨⟨#[109, 101, 114, 99, 104, 97, 110, 116, 78, 97, 109, 101]⟩, ⟨2, 1, 40, []⟩, ⟨#[82, 45, 45, 45, 45, 45, 45, 45, 45]⟩⟩) (vals 21) W := hd 21 (by kernel_rfl)
      generalize vals 21 = v21 at e24 d21
      have e26 := ht 26
      rw [evalS_tmp (i := 23) (by kernel_rfl)] at e26
      have d23 : RS w.heap.size (.fld ⟨⟨#[109, 99, 99]⟩, ⟨1, 4, 4, []⟩, ⟨#[82, 45, 45, 45, 45, 45, 45, 45, 45]⟩⟩) (vals 23) W := hd 23 (by kernel_rfl)
      generalize vals 23 = v23 at e26 d23
      have e29 := ht 29
      rw [evalS_tmp (i := 26) (by kernel_rfl)] at e29
      have d26 : RS w.heap.size (.fld ⟨⟨#[100, 101, 118, 105, 99, 101, 67, 104, 97, 110, 110, 101, 108]⟩, ⟨4, 0, 0, [⟨#[48, 49]⟩, ⟨#[48, 50]⟩, ⟨#[48, 51]⟩]⟩, ⟨#[82, 45, 45, 45, 45, 45, 45, 45, 45]⟩⟩) (vals 26) W := hd 26 (by kernel_rfl)
      generalize vals 26 = v26 at e29 d26
      have e32 := ht 32
      rw [evalS_tmp (i := 29) (by kernel_rfl)] at e32
      have d29 : RS w.heap.size (.fld ⟨⟨#[109, 101, 115, 115, 97, 103, 101, 67, 97, 116, 101, 103, 111, 114, 121]⟩, ⟨4, 0, 0, [⟨#[48, 49]⟩, ⟨#[48, 50]⟩]⟩, ⟨#[82, 45, 45, 45, 82, 45, 45, 45, 45]⟩⟩) (vals 29) W := hd 29 (by kernel_rfl)
      generalize vals 29 = v29 at e32 d29
      have e35 := ht 35
      rw [evalS_tmp (i := 32) (by kernel_rfl)] at e35
      have d32 : RS w.heap.size (.fld ⟨⟨#[99, 104, 97, 108, 108, 101, 110, 103, 101, 73, 110, 100]⟩, ⟨4, 0, 0, [⟨#[48, 49]⟩, ⟨#[48, 50]⟩, ⟨#[48, 51]⟩, ⟨#[48, 52]⟩]⟩, ⟨#[111, 45, 45, 45, 45, 45, 45, 45, 45]⟩⟩) (vals 32) W := hd 32 (by kernel_rfl)
      generalize vals 32 = v32 at e35 d32
      have e38 := ht 38
      rw [evalS_tmp (i := 35) (by kernel_rfl)] at e38
      have d35 : RS w.heap.size (.fld ⟨⟨#[97, 99, 99, 116, 84, 121, 112, 101]⟩, ⟨4, 0, 0, [⟨#[48, 49]⟩, ⟨#[48, 50]⟩, ⟨#[48, 51]⟩]⟩, ⟨#[111, 45, 45, 45, 45, 45, 45, 45, 45]⟩⟩) (vals 35) W := hd 35 (by kernel_rfl)
      generalize vals 35 = v35 at e38 d35
      have e41 := ht 41
      rw [evalS_tmp (i := 38) (by kernel_rfl)] at e41
      have d38 : RS w.heap.size (.fld ⟨⟨#[116, 114, 97, 110, 115, 83, 116, 97, 116, 117, 115]⟩, ⟨4, 0, 0, [⟨#[89]⟩, ⟨#[78]⟩, ⟨#[85]⟩, ⟨#[65]⟩, ⟨#[67]⟩, ⟨#[82]⟩]⟩, ⟨#[45, 82, 45, 111, 82, 45, 45, 45, 45]⟩⟩) (vals 38) W := hd 38 (by kernel_rfl)
      generalize vals 38 = v38 at e41 d38
      have e43 := ht 43
      rw [evalS_tmp (i := 40) (by kernel_rfl)] at e43
      have d40 : RS w.heap.size (.fld ⟨⟨#[116, 114, 97, 110, 115, 83, 116, 97, 116, 117, 115, 82, 101, 97, 115, 111, 110]⟩, ⟨1, 2, 2, []⟩, ⟨#[45, 111, 45, 45, 111, 45, 45, 45, 45]⟩⟩) (vals 40) W := hd 40 (by kernel_rfl)
      generalize vals 40 = v40 at e43 d40
      have e45 := ht 45
      rw [evalS_tmp (i := 42) (by kernel_rfl)] at e45
      have d42 : RS w.heap.size (.fld ⟨⟨#[97, 117, 116, 104, 101, 110, 116, 105, 99, 97, 116, 105, 111, 110, 86, 97, 108, 117, 101]⟩, ⟨7, 20, 0, []⟩, ⟨#[45, 111, 45, 45, 111, 45, 45, 45, 45]⟩⟩) (vals 42) W := hd 42 (by kernel_rfl)
      generalize vals 42 = v42 at e45 d42
      have e47 := ht 47
      rw [evalS_tmp (i := 44) (by kernel_rfl)] at e47
      have d44 : RS w.heap.size (.fld ⟨⟨#[101, 99, 105]⟩, ⟨1, 2, 2, []⟩, ⟨#[45, 111, 45, 45, 111, 45, 45, 45, 45]⟩⟩) (vals 44) W := hd 44 (by kernel_rfl)
      generalize vals 44 = v44 at e47 d44
      have e50 := ht 50
      rw [evalS_tmp (i := 47) (by kernel_rfl)] at e50
      have d47 : RS w.heap.size (.fld ⟨⟨#[99, 104, 97, 108, 108, 101, 110, 103, 101, 87, 105, 110, 100, 111, 119, 83, 105, 122, 101]⟩, ⟨4, 0, 0, [⟨#[48, 49]⟩, ⟨#[48, 50]⟩, ⟨#[48, 51]⟩, ⟨#[48, 52]⟩, ⟨#[48, 53]⟩]⟩, ⟨#[45, 45, 82, 45, 45, 45, 45, 45, 45]⟩⟩) (vals 47) W := hd 47 (by kernel_rfl)
      generalize vals 47 = v47 at e50 d47
      have e52 := ht 52
      rw [evalS_tmp (i := 49) (by kernel_rfl)] at e52
      have d49 : RS w.heap.size (.fld ⟨⟨#[99, 104, 97, 108, 108, 101, 110, 103, 101, 68, 97, 116, 97, 69, 110, 116, 114, 121]⟩, ⟨2, 1, 45, []⟩, ⟨#[45, 45, 111, 45, 45, 45, 45, 45, 45]⟩⟩) (vals 49) W := hd 49 (by kernel_rfl)
      generalize vals 49 = v49 at e52 d49
      have e55 := ht 55
      rw [evalS_tmp (i := 52) (by kernel_rfl)] at e55
      have d52 : RS w.heap.size (.fld ⟨⟨#[99, 104, 97, 108, 108, 101, 110, 103, 101, 67, 97, 110, 99, 101, 108]⟩, ⟨4, 0, 0, [⟨#[48, 49]⟩, ⟨#[48, 50]⟩, ⟨#[48, 51]⟩, ⟨#[48, 52]⟩, ⟨#[48, 53]⟩, ⟨#[48, 54]⟩, ⟨#[48, 55]⟩, ⟨#[48, 56]⟩]⟩, ⟨#[45, 45, 111, 45, 45, 45, 45, 45, 45]⟩⟩) (vals 52) W := hd 52 (by kernel_rfl)
      generalize vals 52 = v52 at e55 d52
      have e58 := ht 58
      rw [evalS_tmp (i := 55) (by kernel_rfl)] at e58
      have d55 : RS w.heap.size (.fld ⟨⟨#[99, 104, 97, 108, 108, 101, 110, 103, 101, 67, 111, 109, 112, 108, 101, 116, 105, 111, 110, 73, 110, 100]⟩, ⟨4, 0, 0, [⟨#[89]⟩, ⟨#[78]⟩]⟩, ⟨#[45, 45, 45, 82, 45, 45, 45, 45, 45]⟩⟩) (vals 55) W := hd 55 (by kernel_rfl)
      generalize vals 55 = v55 at e58 d55
      have e60 := ht 60
      rw [evalS_tmp (i := 57) (by kernel_rfl)] at e60
      have d57 : RS w.heap.size (.fld ⟨⟨#[99, 104, 97, 108, 108, 101, 110, 103, 101, 73, 110, 102, 111, 84, 101, 120, 116]⟩, ⟨2, 1, 350, []⟩, ⟨#[45, 45, 45, 111, 45, 45, 45, 45, 45]⟩⟩) (vals 57) W := hd 57 (by kernel_rfl)
      generalize vals 57 = v57 at e60 d57
      have e62 := ht 62
      rw [evalS_tmp (i := 59) (by kernel_rfl)] at e62
      have d59 : RS w.heap.size (.fld ⟨⟨#[105, 110, 116, 101, 114, 97, 99, 116, 105, 111, 110, 67, 111, 117, 110, 116, 101, 114]⟩, ⟨1, 2, 2, []⟩, ⟨#[45, 45, 45, 45, 82, 45, 45, 45, 45]⟩⟩) (vals 59) W := hd 59 (by kernel_rfl)
      generalize vals 59 = v59 at e62 d59
      have e65 := ht 65
      rw [evalS_tmp (i := 62) (by kernel_rfl)] at e65
      have d62 : RS w.heap.size (.fld ⟨⟨#[114, 101, 115, 117, 108, 116, 115, 83, 116, 97, 116, 117, 115]⟩, ⟨4, 0, 0, [⟨#[48, 49]⟩, ⟨#[48, 50]⟩, ⟨#[48, 51]⟩, ⟨#[48, 52]⟩]⟩, ⟨#[45, 45, 45, 45, 45, 82, 45, 45, 45]⟩⟩) (vals 62) W := hd 62 (by kernel_rfl)
      generalize vals 62 = v62 at e65 d62
      have e67 := ht 67
      rw [evalS_tmp (i := 64) (by kernel_rfl)] at e67
      have d64 : RS w.heap.size (.fld ⟨⟨#[101, 114, 114, 111, 114, 67, 111, 100, 101]⟩, ⟨1, 3, 3, []⟩, ⟨#[45, 45, 45, 45, 45, 45, 82, 45, 45]⟩⟩) (vals 64) W := hd 64 (by kernel_rfl)
      generalize vals 64 = v64 at e67 d64
      have e70 := ht 70
      rw [evalS_tmp (i := 67) (by kernel_rfl)] at e70
      have d67 : RS w.heap.size (.fld ⟨⟨#[101, 114, 114, 111, 114, 67, 111, 109, 112, 111, 110, 101, 110, 116]⟩, ⟨4, 0, 0, [⟨#[65]⟩, ⟨#[67]⟩, ⟨#[68]⟩, ⟨#[83]⟩]⟩, ⟨#[45, 45, 45, 45, 45, 45, 82, 45, 45]⟩⟩) (vals 67) W := hd 67 (by kernel_rfl)
      generalize vals 67 = v67 at e70 d67
      have e72 := ht 72
      rw [evalS_tmp (i := 69) (by kernel_rfl)] at e72
      have d69 : RS w.heap.size (.fld ⟨⟨#[101, 114, 114, 111, 114, 68, 101, 115, 99, 114, 105, 112, 116, 105, 111, 110]⟩, ⟨2, 1, 200, []⟩, ⟨#[45, 45, 45, 45, 45, 45, 82, 45, 45]⟩⟩) (vals 69) W := hd 69 (by kernel_rfl)
      generalize vals 69 = v69 at e72 d69
      have e74 := ht 74
      rw [evalS_tmp (i := 71) (by kernel_rfl)] at e74
      have d71 : RS w.heap.size (.fld ⟨⟨#[101, 114, 114, 111, 114, 68, 101, 116, 97, 105, 108]⟩, ⟨2, 0, 300, []⟩, ⟨#[45, 45, 45, 45, 45, 45, 82, 45, 45]⟩⟩) (vals 71) W := hd 71 (by kernel_rfl)
      generalize vals 71 = v71 at e74 d71
      have e77 := ht 77
      rw [evalS_tmp (i := 74) (by kernel_rfl)] at e77
      have d74 : RS w.heap.size (.fld ⟨⟨#[101, 114, 114, 111, 114, 77, 101, 115, 115, 97, 103, 101, 84, 121, 112, 101]⟩, ⟨4, 0, 0, msgL⟩, ⟨#[45, 45, 45, 45, 45, 45, 111, 45, 45]⟩⟩) (vals 74) W := hd 74 (by kernel_rfl)
      generalize vals 74 = v74 at e77 d74
      have e79 := ht 79
      rw [evalS_tmp (i := 76) (by kernel_rfl)] at e79
      have d76 : RS w.heap.size (.fld ⟨⟨#[115, 101, 114, 105, 97, 108, 78, 117, 109]⟩, ⟨8, 1, 20, []⟩, ⟨#[45, 45, 45, 45, 45, 45, 45, 111, 82]⟩⟩) (vals 76) W := hd 76 (by kernel_rfl)
      generalize vals 76 = v76 at e79 d76
      clear ht hd
      show StepOK Tryz.prog (execOp ρ _) (RS w.heap.size (.tab)) _ W
      obtain ⟨x0, hx0, hs0⟩ := d2
      rw [hx0] at e5
      clear hx0
      obtain ⟨x1, hx1, hs1⟩ := d5
      rw [hx1] at e8
      clear hx1
      obtain ⟨x2, hx2, hs2⟩ := d7
      rw [hx2] at e10
      clear hx2
      obtain ⟨x3, hx3, hs3⟩ := d9
      rw [hx3] at e12
      clear hx3
      obtain ⟨x4, hx4, hs4⟩ := d11
      rw [hx4] at e14
      clear hx4
      obtain ⟨x5, hx5, hs5⟩ := d13
      rw [hx5] at e16
      clear hx5
      obtain ⟨x6, hx6, hs6⟩ := d15
      rw [hx6] at e18
      clear hx6
      obtain ⟨x7, hx7, hs7⟩ := d17
      rw [hx7] at e20
      clear hx7
      obtain ⟨x8, hx8, hs8⟩ := d19
      rw [hx8] at e22
      clear hx8
      obtain ⟨x9, hx9, hs9⟩ := d21
      rw [hx9] at e24
      clear hx9
      obtain ⟨x10, hx10, hs10⟩ := d23
      rw [hx10] at e26
      clear hx10
      obtain ⟨x11, hx11, hs11⟩ := d26
      rw [hx11] at e29
      clear hx11
      obtain ⟨x12, hx12, hs12⟩ := d29
      rw [hx12] at e32
      clear hx12
      obtain ⟨x13, hx13, hs13⟩ := d32
      rw [hx13] at e35
      clear hx13
      obtain ⟨x14, hx14, hs14⟩ := d35
      rw [hx14] at e38
      clear hx14
      obtain ⟨x15, hx15, hs15⟩ := d38
      rw [hx15] at e41
      clear hx15
      obtain ⟨x16, hx16, hs16⟩ := d40
      rw [hx16] at e43
      clear hx16
      obtain ⟨x17, hx17, hs17⟩ := d42
      rw [hx17] at e45
      clear hx17
      obtain ⟨x18, hx18, hs18⟩ := d44
      rw [hx18] at e47
      clear hx18
      obtain ⟨x19, hx19, hs19⟩ := d47
      rw [hx19] at e50
      clear hx19
      obtain ⟨x20, hx20, hs20⟩ := d49
      rw [hx20] at e52
      clear hx20
      obtain ⟨x21, hx21, hs21⟩ := d52
      rw [hx21] at e55
      clear hx21
      obtain ⟨x22, hx22, hs22⟩ := d55
      rw [hx22] at e58
      clear hx22
      obtain ⟨x23, hx23, hs23⟩ := d57
      rw [hx23] at e60
      clear hx23
      obtain ⟨x24, hx24, hs24⟩ := d59
      rw [hx24] at e62
      clear hx24
      obtain ⟨x25, hx25, hs25⟩ := d62
      rw [hx25] at e65
      clear hx25
      obtain ⟨x26, hx26, hs26⟩ := d64
      rw [hx26] at e67
      clear hx26
      obtain ⟨x27, hx27, hs27⟩ := d67
      rw [hx27] at e70
      clear hx27
      obtain ⟨x28, hx28, hs28⟩ := d69
      rw [hx28] at e72
      clear hx28
      obtain ⟨x29, hx29, hs29⟩ := d71
      rw [hx29] at e74
      clear hx29
      obtain ⟨x30, hx30, hs30⟩ := d74
      rw [hx30] at e77
      clear hx30
      obtain ⟨x31, hx31, hs31⟩ := d76
      rw [hx31] at e79
      clear hx31
      have hrun := tab_run x0 x1 x2 x3 x4 x5 x6 x7 x8 x9 x10 x11 x12 x13 x14 x15 x16 x17 x18 x19 x20 x21 x22 x23 x24 x25 x26 x27 x28 x29 x30 x31 W
      have hnew := Row.new W 32 (tabV tblF [x0, x1, x2, x3, x4, x5, x6, x7, x8, x9, x10, x11, x12, x13, x14, x15, x16, x17, x18, x19, x20, x21, x22, x23, x24, x25, x26, x27, x28, x29, x30, x31])
      have hab : Below W.heap.size W (W.alloc (.cells (tabV tblF [x0, x1, x2, x3, x4, x5, x6, x7, x8, x9, x10, x11, x12, x13, x14, x15, x16, x17, x18, x19, x20, x21, x22, x23, x24, x25, x26, x27, x28, x29, x30, x31]).toArray 32)) := (Below.refl _ _).alloc (Nat.le_refl _) _
      have hT : FTab w.heap.size W.heap.size (W.alloc (.cells (tabV tblF [x0, x1, x2, x3, x4, x5, x6, x7, x8, x9, x10, x11, x12, x13, x14, x15, x16, x17, x18, x19, x20, x21, x22, x23, x24, x25, x26, x27, x28, x29, x30, x31]).toArray 32)) := ⟨[x0, x1, x2, x3, x4, x5, x6, x7, x8, x9, x10, x11, x12, x13, x14, x15, x16, x17, x18, x19, x20, x21, x22, x23, x24, x25, x26, x27, x28, x29, x30, x31], rfl, hnew, fun i hi => by
        match i, hi with
        | 0, _ => exact hs0.below hab
        | 1, _ => exact hs1.below hab
        | 2, _ => exact hs2.below hab
        | 3, _ => exact hs3.below hab
        | 4, _ => exact hs4.below hab
        | 5, _ => exact hs5.below hab
        | 6, _ => exact hs6.below hab
        | 7, _ => exact hs7.below hab
        | 8, _ => exact hs8.below hab
        | 9, _ => exact hs9.below hab
        | 10, _ => exact hs10.below hab
        | 11, _ => exact hs11.below hab
        | 12, _ => exact hs12.below hab
        | 13, _ => exact hs13.below hab
        | 14, _ => exact hs14.below hab
        | 15, _ => exact hs15.below hab
        | 16, _ => exact hs16.below hab
        | 17, _ => exact hs17.below hab
        | 18, _ => exact hs18.below hab
        | 19, _ => exact hs19.below hab
        | 20, _ => exact hs20.below hab
        | 21, _ => exact hs21.below hab
        | 22, _ => exact hs22.below hab
        | 23, _ => exact hs23.below hab
        | 24, _ => exact hs24.below hab
        | 25, _ => exact hs25.below hab
        | 26, _ => exact hs26.below hab
        | 27, _ => exact hs27.below hab
        | 28, _ => exact hs28.below hab
        | 29, _ => exact hs29.below hab
        | 30, _ => exact hs30.below hab
        | 31, _ => exact hs31.below hab
        | n + 32, h => exact absurd h (by omega)⟩
      clear hnew hs0 hs1 hs2 hs3 hs4 hs5 hs6 hs7 hs8 hs9 hs10 hs11 hs12 hs13 hs14 hs15 hs16 hs17 hs18 hs19 hs20 hs21 hs22 hs23 hs24 hs25 hs26 hs27 hs28 hs29 hs30 hs31
      generalize hW9 : W.alloc (.cells (tabV tblF [x0, x1, x2, x3, x4, x5, x6, x7, x8, x9, x10, x11, x12, x13, x14, x15, x16, x17, x18, x19, x20, x21, x22, x23, x24, x25, x26, x27, x28, x29, x30, x31]).toArray 32) = W9 at hrun hab hT
      unfold StepOK execOp
      simp only [Sem.run_bind, List.map_toArray, List.map_cons, List.map_nil, e5, e8, e10, e12, e14, e16, e18, e20, e22, e24, e26, e29, e32, e35, e38, e41, e43, e45, e47, e50, e52, e55, e58, e60, e62, e65, e67, e70, e72, e74, e77, e79]
      erw [hrun]
      simp only [Result.andThen_ok]
      exact ⟨⟨_, rfl, hW, hT⟩, hC.trans (hab.mono hC.size), hab⟩
  · intro vals W hC hR
    obtain ⟨g, hg, hB, hF⟩ : RS w.heap.size .tab (vals 77) W := hR 77 (by omega)
    clear hR
    refine wpOps_last (d := 0) (x := .tmp 80) (v := .slice (some ⟨g, 0, none⟩) 32 32) (by rfl) ⟨by rfl, by rfl, by rfl⟩ ?_ ?_
    · exact (finalS_eval (by kernel_rfl) (by decide) (by show (80 : Nat) < 81; decide)).trans hg
    generalize hF0 : finalS _ _ _ vals = F
    have hsz : F.tmps.size = 81 := by rw [← hF0, finalS_size]; rfl
    have hdf : F.defers = [] := by rw [← hF0, finalS_defers]
    obtain ⟨tm, df⟩ := F
    have hdf : df = [] := hdf
    subst hdf
    have hsz : tm.size = 81 := hsz
    clear hF0
    have hg0 := getD_put0 tm (.slice (some ⟨g, 0, none⟩) 32 32) (by omega)
    clear hg hsz
    simp only [Act.put]
    generalize tm.setIfInBounds 0 _ = tm2 at hg0 ⊢
    have HB := Lib.hid (b2.trans (hC.mono zB))
    have HF := Lib.hid hF
    clear hF hC
    go_wp2
    exact bodyPost_ret (v := .slice (some ⟨g, 0, none⟩) 32 32) (by rw [← hg0]; exact results_tmp rfl _ _ _) rfl ⟨_, rfl, hB, HF.out, HB.out⟩
end Go.Proofs.YtheidjnapoipaaaGreatDoor
