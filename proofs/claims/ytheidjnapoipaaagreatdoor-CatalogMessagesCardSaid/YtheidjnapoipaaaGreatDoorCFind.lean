/- A field by its name; a message by its name. -/
import Derived.Test.YtheidjnapoipaaaGreatDoorCOfI
import Derived.Laws.Cover3
namespace Go.Proofs.YtheidjnapoipaaaGreatDoor
open Go.RowKit
set_option linter.unusedVariables false
set_option linter.unusedSimpArgs false
attribute [local go_sem] Oper.semAt_some

def findF (name : ByteArray) : Option FD := tblF.find? fun f => decide (f.name = name)
/-- What Find answers. -/
def FindPost (name : ByteArray) (w : World) (e : Ending) (w' : World) : Prop := ∃ v, e = .returned (.tuple #[.agg (fieldC ((findF name).getD fd0) v).toArray, .bool (findF name).isSome]) ∧ StrsB w.heap.size w' v ((findF name).getD fd0).rule.texts ∧ Below w.heap.size w w'
theorem cell_obj {W : World} {b o : Nat} {v : Value} (h : W.cell? ⟨b, o, none⟩ = some v) : ∃ ob : Obj, W.heap[b]? = some ob ∧ ob.isCells = true := by
  unfold World.cell? at h
  cases hb : W.heap[b]? with
  | none => simp [hb] at h
  | some ob =>
    cases ob <;> first | exact ⟨_, rfl, rfl⟩ | (simp [hb] at h)
theorem strsB_grown {B : Nat} {X Y : World} {v : Value} {l : List ByteArray} {row : Option Nat} (h : StrsB B X v l) (hg : X.grownBy Y row) (hr : ∀ r, row = some r → ∃ o : Obj, X.heap[r]? = some o ∧ o.isCells = false) : StrsB B Y v l := by
  obtain ⟨a0, cap, b, off, h1, h2, h3⟩ := h
  refine ⟨a0, cap, b, off, h1, fun h0 => ⟨(h2 h0).1, (h2 h0).2.1, Nat.lt_of_lt_of_le (h2 h0).2.2 hg.size⟩, fun j hj => ?_⟩
  obtain ⟨ob, ho, hc⟩ := cell_obj (h3 j hj)
  refine (World.cell?_of_block (hg.block b (Array.getElem?_eq_some_iff.1 ho).1 (fun e => ?_))).trans (h3 j hj)
  obtain ⟨o, h4, h5⟩ := hr b e.symm
  rw [ho] at h4
  injection h4 with e2
  subst e2
  rw [hc] at h5
  cases h5
theorem row_grown {X Y : World} {row : Option Nat} {b : Nat} {t : TypeId} {l : List Value} (h : Row X b t l) (hg : X.grownBy Y row) (hr : ∀ r, row = some r → ∃ o : Obj, X.heap[r]? = some o ∧ o.isCells = false) : Row Y b t l :=
  (hg.block b h.lt (fun e => by
    obtain ⟨o, h4, h5⟩ := hr b e.symm
    have h' : X.heap[b]? = some (.cells l.toArray t) := h
    rw [h'] at h4
    injection h4 with e2
    subst e2
    cases h5)).trans h
theorem find_none {name : ByteArray} (h : ∀ x ∈ fullF, x.2.name ≠ name) : findF name = none := by
  unfold findF
  rw [List.find?_eq_none]
  intro f hf
  have : f ∈ fullF.map (·.2) := by
    have e : fullF.map (·.2) = tblF := by rfl
    rw [e]; exact hf
  obtain ⟨x, hx, rfl⟩ := List.mem_map.1 this
  simpa using h x hx
theorem find_at {name : ByteArray} {pre : List (Nat × FD)} {x : Nat × FD} (hp : (pre ++ [x]) <+: fullF) (h : ∀ y ∈ pre, y.2.name ≠ name) (hx : x.2.name = name) : findF name = some x.2 := by
  obtain ⟨r, hr⟩ := hp
  have e : fullF.map (·.2) = tblF := by rfl
  unfold findF
  rw [← e, ← hr, List.map_append, List.map_append, List.find?_append, List.find?_append]
  rw [List.find?_eq_none.2 (by
    intro f hf
    obtain ⟨y, hy, rfl⟩ := List.mem_map.1 hf
    simpa using h y hy)]
  simp [hx]
theorem fieldC_row (f : FD) (v : Value) : fieldC f v = [.string f.name, .int .i64 f.rule.kind, .int .i64 f.rule.least, .int .i64 f.rule.most, v, .string f.inn] := rfl
theorem results_fnd {fn : Func} {p q : Tmp} (h : fn.results = #[.cell p 32, .cell q 4]) (tmps : Array Value) (w : World) (g k : Nat) (f : FD) (v : Value) (e : Bool) (hp : tmps.getD p undef = .pointer (some ⟨g, 0, none⟩)) (hq : tmps.getD q undef = .pointer (some ⟨k, 0, none⟩))
    (hr : Row w g 32 (fieldC f v)) (hk : Row w k 4 [.bool e]) :
    (results fn tmps).run Tryz.prog w = .ok (.tuple #[.agg (fieldC f v).toArray, .bool e]) w := by
  have hp' : tmps[p]?.getD undef = .pointer (some ⟨g, 0, none⟩) := by simpa using hp
  have hq' : tmps[q]?.getD undef = .pointer (some ⟨k, 0, none⟩) := by simpa using hq
  have h1 := run_loadVar_row (P := Tryz.prog) w g 32 32 (fieldC f v).toArray (0, 0) _ hr Tryz.underlying32 rfl (by kernel_rfl)
  have h2 : (loadVar 4 ⟨k, 0, none⟩).run Tryz.prog w = .ok (.bool e) w := by
    have hc := hk.cell 0
    simp only [List.getElem?_cons_zero] at hc
    simp [loadVar, go_sem, hc]
  simp [results, h, hp', hq', asAddr, h1, h2, Result.andThen]
def zeroC : List Value := fieldC fd0 (.slice none 0 0)
def NoneF (name : ByteArray) (pre : List (Nat × FD)) : Prop := ∀ x ∈ pre, x.2.name ≠ name
/-- A field laid into the result. -/
theorem fnd_put {W w : World} {b2 b3 : Nat} {z : List Value} {u : Value} (h2 : Row W b2 32 z) (hz : z.length = 6) (h3 : Row W b3 4 [u]) (hne : b2 ≠ b3) (f : FD) (v : Value) (e : Bool) (hB : Below w.heap.size w W) (hb2 : w.heap.size ≤ b2) (hb3 : w.heap.size ≤ b3) :
    Row (((((((W.setCell ⟨b2, 0, none⟩ (.string f.name)).setCell ⟨b2, 1, none⟩ (.int .i64 f.rule.kind)).setCell ⟨b2, 2, none⟩ (.int .i64 f.rule.least)).setCell ⟨b2, 3, none⟩ (.int .i64 f.rule.most)).setCell ⟨b2, 4, none⟩ v).setCell ⟨b2, 5, none⟩ (.string f.inn)).setCell ⟨b3, 0, none⟩ (.bool e)) b2 32 (fieldC f v) ∧
    Row (((((((W.setCell ⟨b2, 0, none⟩ (.string f.name)).setCell ⟨b2, 1, none⟩ (.int .i64 f.rule.kind)).setCell ⟨b2, 2, none⟩ (.int .i64 f.rule.least)).setCell ⟨b2, 3, none⟩ (.int .i64 f.rule.most)).setCell ⟨b2, 4, none⟩ v).setCell ⟨b2, 5, none⟩ (.string f.inn)).setCell ⟨b3, 0, none⟩ (.bool e)) b3 4 [.bool e] ∧
    Below w.heap.size w (((((((W.setCell ⟨b2, 0, none⟩ (.string f.name)).setCell ⟨b2, 1, none⟩ (.int .i64 f.rule.kind)).setCell ⟨b2, 2, none⟩ (.int .i64 f.rule.least)).setCell ⟨b2, 3, none⟩ (.int .i64 f.rule.most)).setCell ⟨b2, 4, none⟩ v).setCell ⟨b2, 5, none⟩ (.string f.inn)).setCell ⟨b3, 0, none⟩ (.bool e)) ∧
    (∀ k, k ≠ b2 → k ≠ b3 → (((((((W.setCell ⟨b2, 0, none⟩ (.string f.name)).setCell ⟨b2, 1, none⟩ (.int .i64 f.rule.kind)).setCell ⟨b2, 2, none⟩ (.int .i64 f.rule.least)).setCell ⟨b2, 3, none⟩ (.int .i64 f.rule.most)).setCell ⟨b2, 4, none⟩ v).setCell ⟨b2, 5, none⟩ (.string f.inn)).setCell ⟨b3, 0, none⟩ (.bool e)).heap[k]? = W.heap[k]?) ∧
    (((((((W.setCell ⟨b2, 0, none⟩ (.string f.name)).setCell ⟨b2, 1, none⟩ (.int .i64 f.rule.kind)).setCell ⟨b2, 2, none⟩ (.int .i64 f.rule.least)).setCell ⟨b2, 3, none⟩ (.int .i64 f.rule.most)).setCell ⟨b2, 4, none⟩ v).setCell ⟨b2, 5, none⟩ (.string f.inn)).setCell ⟨b3, 0, none⟩ (.bool e)).heap.size = W.heap.size := by
  match z, hz with
  | [z0, z1, z2, z3, z4, z5], _ =>
    refine ⟨?_, ?_, ?_, ?_, ?_⟩
    · exact ((((((h2.set 0 _).set 1 _).set 2 _).set 3 _).set 4 _).set 5 _).far (by exact hne) _
    · exact ((((((h3.far (by exact Ne.symm hne) _).far (by exact Ne.symm hne) _).far (by exact Ne.symm hne) _).far (by exact Ne.symm hne) _).far (by exact Ne.symm hne) _).far (by exact Ne.symm hne) _).set 0 _
    · exact ((((((hB.setCell hb2 _).setCell hb2 _).setCell hb2 _).setCell hb2 _).setCell hb2 _).setCell hb2 _).setCell hb3 _
    · intro k k2 k3
      have hs : ∀ (X : World) (j : Nat) (u : Value), (X.setCell ⟨b2, j, none⟩ u).heap[k]? = X.heap[k]? := fun X j u => Below.heap_setCell X ⟨b2, j, none⟩ u k (by exact k2)
      rw [Below.heap_setCell _ ⟨b3, 0, none⟩ _ k (by exact k3), hs, hs, hs, hs, hs, hs]
    · simp [World.setCell]
theorem fnd_putW {W w : World} {b2 b3 : Nat} {z : List Value} {u : Value} (h2 : Row W b2 32 z) (hz : z.length = 6) (h3 : Row W b3 4 [u]) (hne : b2 ≠ b3) (f : FD) (v : Value) (e : Bool) (hB : Below w.heap.size w W) (hb2 : w.heap.size ≤ b2) (hb3 : w.heap.size ≤ b3) :
    ∃ Wf, Hid ((((((((W.setCell ⟨b2, 0, none⟩ (.string f.name)).setCell ⟨b2, 1, none⟩ (.int .i64 f.rule.kind)).setCell ⟨b2, 2, none⟩ (.int .i64 f.rule.least)).setCell ⟨b2, 3, none⟩ (.int .i64 f.rule.most)).setCell ⟨b2, 4, none⟩ v).setCell ⟨b2, 5, none⟩ (.string f.inn)).setCell ⟨b3, 0, none⟩ (.bool e)) = Wf) ∧ Row Wf b2 32 (fieldC f v) ∧ Row Wf b3 4 [.bool e] ∧ Below w.heap.size w Wf ∧ (∀ k, k ≠ b2 → k ≠ b3 → Wf.heap[k]? = W.heap[k]?) ∧ Wf.heap.size = W.heap.size := by
  have h := fnd_put h2 hz h3 hne f v e hB hb2 hb3
  generalize hW : (((((((W.setCell ⟨b2, 0, none⟩ (.string f.name)).setCell ⟨b2, 1, none⟩ (.int .i64 f.rule.kind)).setCell ⟨b2, 2, none⟩ (.int .i64 f.rule.least)).setCell ⟨b2, 3, none⟩ (.int .i64 f.rule.most)).setCell ⟨b2, 4, none⟩ v).setCell ⟨b2, 5, none⟩ (.string f.inn)).setCell ⟨b3, 0, none⟩ (.bool e)) = Wf at h
  exact ⟨Wf, Lib.hid rfl, h⟩
/-- A store to a block of the consumer's. -/
theorem keepsT_cell {T : World → Nat → Prop} {B : Nat} (hc : ∀ W1 W2 k, T W2 k → T W1 k) (W : World) (p : Addr) (v : Value) (hp : T W p.block) : KeepsT T W (W.setCell p v) :=
  ⟨by simp [World.setCell], fun k hk hn => ⟨Below.heap_setCell W p v k (fun e => hn (by rw [e]; exact hp)), fun ht => hn (hc _ _ k ht)⟩⟩
theorem below_putD {B D : Nat} {w W : World} (h : Below B w W) (hD : B ≤ D) (o' : Obj) : Below B w (W.putObj D o') := ⟨h.os, h.tape, h.output, by simpa using h.size, fun k hk => (World.putObj_heap_other (by omega)).trans (h.block k hk)⟩
theorem str_neC {x y : ByteArray} (h : x ≠ y) : (x.toList == y.toList) = false := str_ne h

set_option maxRecDepth 100000 in
set_option maxHeartbeats 4000000 in
theorem Find_any (name : ByteArray) (w : World) :
    Calls Tryz.prog 11 #[.string name] w (FindPost name w) := by
  refine (callsIn_wide (n := 6)).1 ?_
  refine callsIn_of_wp_marks Tryz.func11 rfl trivial ?_ rfl
  simp only [Tryz.ntmps11, List.size_toArray, List.length_cons, List.length_nil, Nat.reduceAdd, Nat.reduceSub, Array.replicate_succ, Array.replicate_zero, List.push_toArray, List.append_toArray, List.nil_append, List.cons_append]
  gi_wp2_with fail
  refine ⟨trivial, (Fields_in _ _).mono ?_⟩
  rintro e w2 ⟨rfl, rfl⟩
  gi_wp2_with fail
  have r1 := ((Row.new w 9 [.string name]).alloc (.cells zeroC.toArray 32)).alloc (.cells #[.bool false] 4)
  have r2 := (Row.new (w.alloc (.cells #[.string name] 9)) 32 zeroC).alloc (.cells #[.bool false] 4)
  have r3 := Row.new ((w.alloc (.cells #[.string name] 9)).alloc (.cells zeroC.toArray 32)) 4 [.bool false]
  have b0 : Below w.heap.size w (((w.alloc (.cells #[.string name] 9)).alloc (.cells zeroC.toArray 32)).alloc (.cells #[.bool false] 4)) := (((Below.refl _ _).alloc (Nat.le_refl _) _).alloc (by simp) _).alloc (by simp; omega) _
  have z0 : (((w.alloc (.cells #[.string name] 9)).alloc (.cells zeroC.toArray 32)).alloc (.cells #[.bool false] 4)).heap.size = w.heap.size + 3 := by simp
  simp only [World.size_alloc] at r2 r3
  change Row (((w.alloc (.cells #[.string name] 9)).alloc (.cells #[.string ⟨#[]⟩, .int .i64 0, .int .i64 0, .int .i64 0, .slice none 0 0, .string ⟨#[]⟩] 32)).alloc (.cells #[.bool false] 4)) w.heap.size 9 [.string name] at r1
  change Row (((w.alloc (.cells #[.string name] 9)).alloc (.cells #[.string ⟨#[]⟩, .int .i64 0, .int .i64 0, .int .i64 0, .slice none 0 0, .string ⟨#[]⟩] 32)).alloc (.cells #[.bool false] 4)) (w.heap.size + 1) 32 zeroC at r2
  change Row (((w.alloc (.cells #[.string name] 9)).alloc (.cells #[.string ⟨#[]⟩, .int .i64 0, .int .i64 0, .int .i64 0, .slice none 0 0, .string ⟨#[]⟩] 32)).alloc (.cells #[.bool false] 4)) (w.heap.size + 1 + 1) 4 [.bool false] at r3
  change Below w.heap.size w (((w.alloc (.cells #[.string name] 9)).alloc (.cells #[.string ⟨#[]⟩, .int .i64 0, .int .i64 0, .int .i64 0, .slice none 0 0, .string ⟨#[]⟩] 32)).alloc (.cells #[.bool false] 4)) at b0
  change (((w.alloc (.cells #[.string name] 9)).alloc (.cells #[.string ⟨#[]⟩, .int .i64 0, .int .i64 0, .int .i64 0, .slice none 0 0, .string ⟨#[]⟩] 32)).alloc (.cells #[.bool false] 4)).heap.size = w.heap.size + 3 at z0
  generalize (((w.alloc (.cells #[.string name] 9)).alloc (.cells #[.string ⟨#[]⟩, .int .i64 0, .int .i64 0, .int .i64 0, .slice none 0 0, .string ⟨#[]⟩] 32)).alloc (.cells #[.bool false] 4)) = wl at r1 r2 r3 b0 z0 ⊢
  refine' range_rel (T := fun _ k => k = w.heap.size + 1 ∨ k = w.heap.size + 1 + 1) rfl (by omega) (gf := 23) (lb := #[]) rfl trivial (enters_of Tryz.func23 (by kernel_rfl) rfl)
    (Fields_stops 5 (by omega) (fun o => o.isCells = false) wl) (fun o h => h) (fun _ _ _ k h => h) (fun k h => h.elim) (Below.refl _ _) (fun B x av W h => by obtain ⟨v, rfl, _⟩ := h; rfl)
    (fun pre W' => NoneF name pre ∧ Row W' w.heap.size 9 [.string name] ∧ Row W' (w.heap.size + 1) 32 zeroC ∧ Row W' (w.heap.size + 1 + 1) 4 [.bool false] ∧ Below w.heap.size w W')
    (fun c pre W' => c = .ret ∧ ∃ f v, findF name = some f ∧ Row W' (w.heap.size + 1) 32 (fieldC f v) ∧ StrsB w.heap.size W' v f.rule.texts ∧ Row W' (w.heap.size + 1 + 1) 4 [.bool true] ∧ Below w.heap.size w W')
    (OwnK.and (OwnK.pure (φ := fun (pre : List (Nat × FD)) => NoneF name pre)) (OwnK.and (OwnK.row (by omega)) (OwnK.and (OwnK.row (by omega)) (OwnK.and (OwnK.row (by omega)) (OwnK.below (Nat.le_refl _) (by omega))))))
    (fun c s X Y row hs hg hr => by
      obtain ⟨hc, f, v, h1, h2, h3, h4, h5⟩ := hs
      have hr' : ∀ r, row = some r → ∃ o : Obj, X.heap[r]? = some o ∧ o.isCells = false := fun r e => (hr r e).2
      exact ⟨hc, f, v, h1, row_grown h2 hg hr', strsB_grown h3 hg hr', row_grown h4 hg hr', OwnK.below (β := Unit) (Nat.le_refl _) (by omega) () X Y row h5 hg hr⟩)
    ⟨fun x hx => absurd hx (by simp), r1, r2, r3, b0⟩
    (fun pre W' h k hk => ⟨by have h3 := h.2.2.1.lt; have h4 := h.2.2.2.1.lt; rcases hk with rfl | rfl <;> assumption, fun hge => by rcases hk with rfl | rfl <;> omega⟩)
    (fun x a W => ∃ bx v, wl.heap.size + 2 ≤ bx ∧ a = { tmps := #[.string name, .pointer (some ⟨w.heap.size, 0, none⟩), .pointer (some ⟨w.heap.size + 1, 0, none⟩), .pointer (some ⟨w.heap.size + 1 + 1, 0, none⟩), undef, .pointer (some ⟨bx, 0, none⟩), .func (.func 23) #[] #[], .int .i64 x.1, .agg (fieldC x.2 v).toArray, undef, undef, undef, undef, undef, undef], defers := [] } ∧ Row W bx 32 (fieldC x.2 v) ∧ StrsB (wl.heap.size + 2) W v x.2.rule.texts)
    ?ap ?assign ?body ?done ?stop
  case ap =>
    rintro x a' W' o' ⟨bx, v, hbx, ha, hr, hs⟩
    exact ⟨bx, v, hbx, ha, (World.putObj_heap_other (by omega)).trans hr, strsB_putObj hs (by omega) o'⟩
  case assign =>
    rintro l pre x av W' K' hI hpre hsz' ⟨v, rfl, hs⟩ hK
    obtain ⟨a0, cap, rfl⟩ := hs.form
    have HAB : Hid (∀ o : Obj, Below W'.heap.size W' (W'.alloc o)) := Lib.hid fun o => (Below.refl _ _).alloc (Nat.le_refl _) _
    have HI := Lib.hid hI
    have HSs := Lib.hid hs
    have HK := Lib.hid hK
    have hzW := hsz'
    clear hI hs hK
    simp only [fieldC]
    gi_wp2
    exact HK.out _ _ ⟨(HAB.out _).size, fun j o hj ho hc => ((HAB.out _).block j (Array.getElem?_eq_some_iff.1 ho).1).trans ho⟩ (keepsT_below (B := 0) (LowT.with fun _ _ _ k h => h) (by omega) (HAB.out _))
      ⟨HI.out.1, HI.out.2.1.below (HAB.out _) HI.out.2.1.lt, HI.out.2.2.1.below (HAB.out _) HI.out.2.2.1.lt, HI.out.2.2.2.1.below (HAB.out _) HI.out.2.2.2.1.lt, HI.out.2.2.2.2.trans ((HAB.out _).mono HI.out.2.2.2.2.size)⟩
      ⟨W'.heap.size, .slice a0 x.2.rule.texts.length cap, hzW, rfl, Row.new W' _ _, HSs.out.below (HAB.out _)⟩
  case body =>
    rintro l pre ⟨i, f⟩ a' W' ⟨hne, q1, q2, q3, qb⟩ hpre hsz' ⟨bx, v, hbx, rfl, hr, hs⟩
    obtain ⟨a0, cap, rfl⟩ := hs.form
    have hc0 := hr.cell 0
    have hc1 := hr.cell 1
    have hc2 := hr.cell 2
    have hc3 := hr.cell 3
    have hc4 := hr.cell 4
    have hc5 := hr.cell 5
    have hcn := q1.cell 0
    have hf0 := q2.frozen 0
    have hf1 := q2.frozen 1
    have hf2 := q2.frozen 2
    have hf3 := q2.frozen 3
    have hf4 := q2.frozen 4
    have hf5 := q2.frozen 5
    have hg0 := q3.frozen 0
    have hd0 := q2.cell 0
    have hd1 := q2.cell 1
    have hd2 := q2.cell 2
    have hd3 := q2.cell 3
    have hd4 := q2.cell 4
    have hd5 := q2.cell 5
    have he0 := q3.cell 0
    simp only [zeroC, fieldC, List.getElem?_cons_zero, List.getElem?_cons_succ] at hc0 hc1 hc2 hc3 hc4 hc5 hcn hd0 hd1 hd2 hd3 hd4 hd5 he0
    simp only [fieldC]
    by_cases hn : f.name = name
    · have heq : (f.name.toList == name.toList) = true := by rw [hn]; simp
      have hfa := find_at hpre hne hn
      obtain ⟨Wf, hWf, g2, g3, gb, gk, gz⟩ := fnd_putW (w := w) q2 rfl q3 (by omega) f (.slice a0 f.rule.texts.length cap) true qb (by omega) (by omega)
      have gs := (hs.mono (show w.heap.size ≤ wl.heap.size + 2 by omega))
      have hl2 := q2.lt
      have hl3 := q3.lt
      have HP := Lib.hid (And.intro hfa (And.intro g2 (And.intro g3 (And.intro gb (And.intro gk (And.intro gz hs))))))
      clear hne q1 q2 q3 qb hn hpre hfa g2 g3 gb gk gz gs
      gi_wp2
      rw [hWf.out]
      clear hWf
      obtain ⟨hfa, g2, g3, gb, gk, gz, hs⟩ := HP.out
      clear HP
      refine ⟨⟨Nat.le_of_eq gz.symm, fun j o hj ho hc => (gk j (by omega) (by omega)).trans ho⟩, ⟨Nat.le_of_eq gz.symm, fun j hj ht => ⟨gk j (fun e => ht (.inr (.inl e))) (fun e => ht (.inr (.inr e))), ht⟩⟩, rfl, f, hfa, _, g2, ?_, g3, gb⟩
      exact (hs.keep (Nat.le_of_eq gz.symm) fun k hk hl => gk k (by omega) (by omega)).mono (by omega)
    · have hneq := str_neC hn
      have HP := Lib.hid (And.intro (fun x hx => by
        rcases List.mem_append.1 hx with h | h
        · exact hne x h
        · obtain rfl := List.mem_singleton.1 h
          exact hn : NoneF name (pre ++ [(i, f)])) (And.intro q1 (And.intro q2 (And.intro q3 qb))))
      clear hne q1 q2 q3 qb hn hpre
      gi_wp2
      exact ⟨⟨Nat.le_refl _, fun j o hj ho hc => ho⟩, ⟨Nat.le_refl _, fun j hj ht => ⟨rfl, ht⟩⟩, HP.out⟩
  case done =>
    rintro D W' hD ⟨hne, q1, q2, q3, qb⟩ hK
    have hfn := find_none hne
    have hf0 := q2.frozen 0
    have hf1 := q2.frozen 1
    have hf2 := q2.frozen 2
    have hf3 := q2.frozen 3
    have hf4 := q2.frozen 4
    have hf5 := q2.frozen 5
    have hg0 := q3.frozen 0
    have hd0 := q2.cell 0
    have hd1 := q2.cell 1
    have hd2 := q2.cell 2
    have hd3 := q2.cell 3
    have hd4 := q2.cell 4
    have hd5 := q2.cell 5
    have he0 := q3.cell 0
    simp only [zeroC, fieldC, List.getElem?_cons_zero, List.getElem?_cons_succ] at hd0 hd1 hd2 hd3 hd4 hd5 he0
    obtain ⟨Wf, hWf, g2, g3, gb, gk, gz⟩ := fnd_putW (w := w) q2 rfl q3 (by omega) fd0 (.slice none 0 0) false qb (by omega) (by omega)
    have hK2 := (gk D (by omega) (by omega)).trans hK
    have HP := Lib.hid (And.intro hfn (And.intro g2 (And.intro g3 (And.intro gb hK2))))
    clear hne hfn q1 q2 q3 qb g2 g3 gb gk gz hK hK2
    simp only [fd0] at hWf
    gi_wp2
    rw [hWf.out]
    clear hWf
    obtain ⟨hfn, g2, g3, gb, hK⟩ := HP.out
    refine ⟨by simp, .inl ⟨_, _, rfl, run_takeDeferred hK, ?_⟩⟩
    exact ⟨_, results_fnd rfl _ _ (w.heap.size + 1) (w.heap.size + 1 + 1) fd0 (.slice none 0 0) false rfl rfl ((World.putObj_heap_other (by omega)).trans g2) ((World.putObj_heap_other (by omega)).trans g3),
      ⟨.slice none 0 0, by rw [hfn]; rfl, by rw [hfn]; exact ⟨none, 0, 0, 0, rfl, fun h => absurd h (by decide), fun j h => absurd h (by exact Nat.not_lt_zero j)⟩, below_putD gb (by omega) _⟩⟩
  case stop =>
    rintro D c pre W' hD hpre ⟨rfl, f, v, hf, q2, hs, q3, qb⟩ hK
    have HP := Lib.hid (And.intro hf (And.intro q2 (And.intro hs (And.intro q3 qb))))
    clear hf q2 hs q3 qb
    gi_wp2
    obtain ⟨hf, q2, hs, q3, qb⟩ := HP.out
    refine ⟨by simp, .inl ⟨_, _, rfl, run_takeDeferred hK, ?_⟩⟩
    exact ⟨_, results_fnd rfl _ _ (w.heap.size + 1) (w.heap.size + 1 + 1) f v true rfl rfl ((World.putObj_heap_other (by omega)).trans q2) ((World.putObj_heap_other (by omega)).trans q3),
      ⟨v, by rw [hf]; rfl, by rw [hf]; exact strsB_grown hs (grownBy_putObj' _ D _) (fun r e => by injection e with e; subst e; exact ⟨_, hK, rfl⟩), below_putD qb (by omega) _⟩⟩
end Go.Proofs.YtheidjnapoipaaaGreatDoor
